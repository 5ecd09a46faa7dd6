import PyProof.Rows.All
import Wide.All
import OpenK.AllK
import Wide.FinOn
import HandS.ForMost
import HandS.Codes
import HandS.Wide
import HandS.IsInst
import HandS.Walk
import HandS.Zip
import HandS.MakeKwOnly
import HandS.ForExc
import HandS.TryMany
import HandS.Strs
import HandS.More
import HandS.Property
import HandS.SetFor
import HandS.Conv
import HandS.Text
import HandS.TupAny
import HandS.Style
import KE.KEqSeq
import KE.LtData
import KE.OsRunLaw
import KE.GoesEnum
import HandS.OwnEq
import PyProof.NeKinds
import HandS.Small
import HandS.Deep
import HandS.Nested
import HandS.Lambda
import HandS.EndTab
import KE.SortKeyHeap
import KE.KNestM
import KE.KTupSum
import KE.KDictZip
import KE.KStar
import HandS.Star
import HandS.FStr
import KE.HD2
import HandS.SetKeys
import PySem.Challenge.RW_surenear_k29_blocks
set_option Elab.async false
set_option linter.all false
set_option maxRecDepth 100000
set_option synthInstance.maxHeartbeats 400000
set_option synthInstance.maxSize 4000
namespace TP
open PySem PySem.Spec PyProof.Rows L2
/-! ### heaps: Z is the part that never changes, H is all -/
def SameX (S : List Addr) (H H' : Hp) : Prop := ∀ a o, a ∉ S → H a = some o → H' a = some o
theorem SameX.refl {S : List Addr} {H : Hp} : SameX S H H := fun _ _ _ h => h
theorem SameX.trans {S : List Addr} {H H1 H2 : Hp} (f : SameX S H H1) (g : SameX S H1 H2) : SameX S H H2 := fun a o n h => g a o n (f a o n h)
structure Step (S : List Addr) (Z H Z' H' : Hp) : Prop where
  z : Same Z Z'
  s : Same Z' H'
  h : SameX S H H'
  n : ∀ a, H a ≠ none → Z a = none → Z' a = none
  al : ∀ a, H a ≠ none → H' a ≠ none
theorem Step.refl {S : List Addr} {Z H : Hp} (s : Same Z H) : Step S Z H Z H := ⟨Same.refl _, s, SameX.refl, fun _ _ h => h, fun _ h => h⟩
theorem Step.mine {S F : List Addr} {Z H Z1 H1 Z2 H2 : Hp} (f : Step S Z H Z1 H1) (g : Step F Z1 H1 Z2 H2) (m : ∀ a ∈ F, a ∈ S ∨ H a = none) : Step S Z H Z2 H2 :=
  ⟨f.z.trans g.z, g.s, fun a o na h => g.h a o (fun q => by rcases m a q with x | x; exact na x; rw [x] at h; cases h) (f.h a o na h), fun a h z => g.n a (f.al a h) (f.n a h z), fun a h => g.al a (f.al a h)⟩
theorem Step.trans {S : List Addr} {Z H Z1 H1 Z2 H2 : Hp} (f : Step S Z H Z1 H1) (g : Step S Z1 H1 Z2 H2) : Step S Z H Z2 H2 := f.mine g fun _ h => .inl h
theorem Step.weak {S F : List Addr} {Z H Z1 H1 : Hp} (g : Step F Z H Z1 H1) (m : ∀ a ∈ F, a ∈ S ∨ H a = none) : Step S Z H Z1 H1 :=
  ⟨g.z, g.s, fun a o na h => g.h a o (fun q => by rcases m a q with x | x; exact na x; rw [x] at h; cases h) h, g.n, g.al⟩
theorem Step.pure {S : List Addr} {Z H Z1 H1 : Hp} (g : Step [] Z H Z1 H1) : Step S Z H Z1 H1 := g.weak fun _ h => by cases h
theorem ne_of_some {H : Hp} {a p : Addr} (h : H a ≠ none) (hp : H p = none) : a ≠ p := fun e => h (e ▸ hp)
theorem some_ne {H : Hp} {a : Addr} {o : HO} (h : H a = some o) : H a ≠ none := by rw [h]; exact fun z => nomatch z
theorem same_none {Z H : Hp} (s : Same Z H) {p : Addr} (h : H p = none) : Z p = none := s.free h
theorem same_upd {H : Hp} {p : Addr} {o : HO} (h : H p = none) : Same H (upd H p o) := fun a u e => by
  rw [upd_ne (ne_of_some (some_ne e) h)]; exact e
theorem same_upd2 {Z H : Hp} {p : Addr} {o : HO} (s : Same Z H) : Same (upd Z p o) (upd H p o) := fun a u e => by
  by_cases q : a = p
  · subst q; rw [upd_same] at e ⊢; exact e
  · rw [upd_ne q] at e ⊢; exact s a u e
/-- something new that never changes -/
theorem Step.new {Z H : Hp} {p : Addr} {o : HO} (s : Same Z H) (hp : H p = none) : Step [] Z H (upd Z p o) (upd H p o) :=
  ⟨same_upd (same_none s hp), same_upd2 s, fun a u _ e => same_upd hp a u e, fun a h z => by rw [upd_ne (ne_of_some h hp)]; exact z, fun a h => by rw [upd_ne (ne_of_some h hp)]; exact h⟩
/-- something new of one's own -/
theorem Step.own {Z H : Hp} {p : Addr} {o : HO} (s : Same Z H) (hp : H p = none) : Step [] Z H Z (upd H p o) :=
  ⟨Same.refl _, s.trans (same_upd hp), fun a u _ e => same_upd hp a u e, fun _ _ z => z, fun a h => by rw [upd_ne (ne_of_some h hp)]; exact h⟩
/-- one's own is changed -/
theorem Step.set {Z H : Hp} {p : Addr} {o : HO} (s : Same Z H) (hz : Z p = none) : Step [p] Z H Z (upd H p o) := by
  refine ⟨Same.refl _, fun a u e => ?_, fun a u n e => ?_, fun _ _ z => z, fun a h => ?_⟩
  · rw [upd_ne (ne_of_some (some_ne e) hz)]; exact s a u e
  · rw [upd_ne (fun q => n (by rw [q]; exact List.mem_cons_self))]; exact e
  · by_cases q : a = p
    · subst q; rw [upd_same]; exact fun z => nomatch z
    · rw [upd_ne q]; exact h

/-! ### kinds of values -/
structure Ty (α : Type) where
  r : Hp → V → α → Prop
  mono : ∀ {Z Z' : Hp} {v : V} {x : α}, Same Z Z' → r Z v x → r Z' v x
def yInt : Ty Int := ⟨fun _ v x => v = .int x, fun _ h => h⟩
def yBool : Ty Bool := ⟨fun _ v x => v = .bl x, fun _ h => h⟩
def okS (x : Str) : Bool := PyData.strOk x && decide (x.length ≤ sizeLine)
def yStr : Ty Str := ⟨fun _ v x => v = .str x ∧ okS x = true, fun _ h => h⟩
def yNon : Ty Unit := ⟨fun _ v _ => v = .non, fun _ h => h⟩
def yOpt {α : Type} (τ : Ty α) : Ty (Option α) := ⟨fun Z v x => match x with | none => v = .non | some y => τ.r Z v y ∧ v ≠ .non, fun {_ _ _ x} s h => match x, h with | none, h => h | some _, h => ⟨τ.mono s h.1, h.2⟩⟩
/-- place by place -/
inductive All {α : Type} (R : V → α → Prop) : List V → List α → Prop
  | nil : All R [] []
  | cons {v : V} {vs : List V} {x : α} {xs : List α} : R v x → All R vs xs → All R (v :: vs) (x :: xs)
section
variable {α β : Type} {R R' : V → α → Prop}
theorem All.imp (f : ∀ v x, R v x → R' v x) : ∀ {vs : List V} {xs : List α}, All R vs xs → All R' vs xs
  | _, _, .nil => .nil
  | _, _, .cons h t => .cons (f _ _ h) (t.imp f)
theorem All.len : ∀ {vs : List V} {xs : List α}, All R vs xs → vs.length = xs.length
  | _, _, .nil => rfl
  | _, _, .cons _ t => congrArg Nat.succ t.len
theorem All.app : ∀ {vs ws : List V} {xs ys : List α}, All R vs xs → All R ws ys → All R (vs ++ ws) (xs ++ ys)
  | _, _, _, _, .nil, h => h
  | _, _, _, _, .cons h t, g => .cons h (t.app g)
theorem All.snoc {vs : List V} {xs : List α} {v : V} {x : α} (h : All R vs xs) (g : R v x) : All R (vs ++ [v]) (xs ++ [x]) := h.app (.cons g .nil)
theorem All.get : ∀ {vs : List V} {xs : List α} {i : Nat} {v : V}, All R vs xs → vs[i]? = some v → ∃ x, xs[i]? = some x ∧ R v x
  | _, _, _, _, .nil, h => by simp at h
  | _, _, 0, _, .cons h _, e => ⟨_, rfl, by have := Option.some.inj e; rw [← this]; exact h⟩
  | _, _, i + 1, _, .cons _ t, e => t.get (i := i) e
theorem All.at : ∀ {vs : List V} {xs : List α} {i : Nat} {x : α}, All R vs xs → xs[i]? = some x → ∃ v, vs[i]? = some v ∧ R v x
  | _, _, _, _, .nil, h => by simp at h
  | _, _, 0, _, .cons h _, e => ⟨_, rfl, by have := Option.some.inj e; rw [← this]; exact h⟩
  | _, _, i + 1, _, .cons _ t, e => t.at (i := i) e
theorem All.take : ∀ {vs : List V} {xs : List α} (n : Nat), All R vs xs → All R (vs.take n) (xs.take n)
  | _, _, 0, _ => .nil
  | _, _, _ + 1, .nil => .nil
  | _, _, n + 1, .cons h t => .cons h (t.take n)
theorem All.drop : ∀ {vs : List V} {xs : List α} (n : Nat), All R vs xs → All R (vs.drop n) (xs.drop n)
  | _, _, 0, h => h
  | _, _, _ + 1, .nil => .nil
  | _, _, n + 1, .cons _ t => t.drop n
theorem All.set {v : V} {x : α} (g : R v x) : ∀ {vs : List V} {xs : List α} (n : Nat), All R vs xs → All R (vs.set n v) (xs.set n x)
  | _, _, _, .nil => .nil
  | _, _, 0, .cons _ t => .cons g t
  | _, _, n + 1, .cons h t => .cons h (t.set g n)
theorem All.ints : ∀ {vs : List V} {xs : List Int}, All (fun v x => v = .int x) vs xs → vs = xs.map V.int
  | _, _, .nil => rfl
  | _, _, .cons h t => by rw [h, t.ints]; rfl
theorem All.map {f : α → V} (e : ∀ v x, R v x → v = f x) : ∀ {vs : List V} {xs : List α}, All R vs xs → vs = xs.map f
  | _, _, .nil => rfl
  | _, _, .cons h t => by rw [e _ _ h, t.map e]; rfl
theorem All.bls : ∀ {vs : List V} {xs : List Bool}, All (fun v x => v = .bl x) vs xs → vs = xs.map V.bl
  | _, _, .nil => rfl
  | _, _, .cons h t => by rw [h, t.bls]; rfl
theorem All.ofInts : ∀ xs : List Int, All (fun v x => v = .int x) (xs.map V.int) xs
  | [] => .nil
  | _ :: r => .cons rfl (All.ofInts r)
theorem All.atI {vs : List V} {xs : List α} {i : Int} {x : α} (h : All R vs xs) (e : L2.atI xs i = some x) : ∃ v, L2.atI vs i = some v ∧ R v x := by
  unfold L2.atI at e ⊢
  rw [h.len]
  cases q : ixN xs.length i with
  | none => rw [q] at e; cases e
  | some j =>
    rw [q] at e
    exact h.at (i := j) e
end
/-- a list that never changes -/
def yList {α : Type} (τ : Ty α) : Ty (List α) := ⟨fun Z v xs => ∃ a vs, v = .ref a ∧ Z a = some (.lst vs) ∧ All (τ.r Z) vs xs ∧ xs.length ≤ sizeLine,
  fun s ⟨a, vs, e, h, t, l⟩ => ⟨a, vs, e, s _ _ h, t.imp fun _ _ => τ.mono s, l⟩⟩
theorem seqT_same {K : PySem.W.Frag} {H H' : Hp} {q : Addr} {xs : List V} (f : Same H H') (h : SqT K H q xs) : SqT K H' q xs := by
  rcases h with (h | ⟨o, h⟩) | h
  · exact .inl (.inl (f _ _ h))
  · exact .inl (.inr ⟨o, f _ _ h⟩)
  · exact .inr h
section
variable (K : PySem.W.Frag)
def yTup {α : Type} (τ : Ty α) : Ty (List α) := ⟨fun Z v xs => ∃ a vs, v = .ref a ∧ SqT K Z a vs ∧ All (τ.r Z) vs xs ∧ xs.length ≤ sizeLine,
  fun s ⟨a, vs, e, h, t, l⟩ => ⟨a, vs, e, seqT_same s h, t.imp fun _ _ => τ.mono s, l⟩⟩
def yP0 : Ty Unit := ⟨fun Z v _ => ∃ a, v = .ref a ∧ SqT K Z a [], fun s ⟨a, e, h⟩ => ⟨a, e, seqT_same s h⟩⟩
def yP1 {α : Type} (τ : Ty α) : Ty α := ⟨fun Z v x => ∃ a v1, v = .ref a ∧ SqT K Z a [v1] ∧ τ.r Z v1 x, fun s ⟨a, v1, e, h, h1⟩ => ⟨a, v1, e, seqT_same s h, τ.mono s h1⟩⟩
def yP2 {α β : Type} (τ : Ty α) (υ : Ty β) : Ty (α × β) := ⟨fun Z v x => ∃ a v1 v2, v = .ref a ∧ SqT K Z a [v1, v2] ∧ τ.r Z v1 x.1 ∧ υ.r Z v2 x.2,
  fun s ⟨a, v1, v2, e, h, h1, h2⟩ => ⟨a, v1, v2, e, seqT_same s h, τ.mono s h1, υ.mono s h2⟩⟩
def yP3 {α β γ : Type} (τ : Ty α) (υ : Ty β) (φ : Ty γ) : Ty (α × β × γ) := ⟨fun Z v x => ∃ a v1 v2 v3, v = .ref a ∧ SqT K Z a [v1, v2, v3] ∧ τ.r Z v1 x.1 ∧ υ.r Z v2 x.2.1 ∧ φ.r Z v3 x.2.2,
  fun s ⟨a, v1, v2, v3, e, h, h1, h2, h3⟩ => ⟨a, v1, v2, v3, e, seqT_same s h, τ.mono s h1, υ.mono s h2, φ.mono s h3⟩⟩
def yP4 {α β γ δ : Type} (τ : Ty α) (υ : Ty β) (φ : Ty γ) (ψ : Ty δ) : Ty (α × β × γ × δ) := ⟨fun Z v x => ∃ a v1 v2 v3 v4, v = .ref a ∧ SqT K Z a [v1, v2, v3, v4] ∧ τ.r Z v1 x.1 ∧ υ.r Z v2 x.2.1 ∧ φ.r Z v3 x.2.2.1 ∧ ψ.r Z v4 x.2.2.2,
  fun s ⟨a, v1, v2, v3, v4, e, h, h1, h2, h3, h4⟩ => ⟨a, v1, v2, v3, v4, e, seqT_same s h, τ.mono s h1, υ.mono s h2, φ.mono s h3, ψ.mono s h4⟩⟩
end

/-! ### what changes: s of a kind μ stands at the addresses fp -/
structure Mu (μ : Type) where
  fp : List Addr
  m : μ → Hp → Hp → Prop
  al : ∀ {s : μ} {Z H : Hp}, m s Z H → ∀ a ∈ fp, H a ≠ none ∧ Z a = none
  loc : ∀ {s : μ} {Z H Z' H' : Hp}, Same Z Z' → (∀ a ∈ fp, ∀ o, H a = some o → H' a = some o) → (∀ a ∈ fp, H a ≠ none → Z a = none → Z' a = none) → m s Z H → m s Z' H'
def muN : Mu Unit := ⟨[], fun _ _ _ => True, fun _ _ h => (nomatch h), fun _ _ _ _ => trivial⟩
/-- what was told of more that stands still is told without it -/
def Mu.Back {μ : Type} (M : Mu μ) : Prop := ∀ {s s' : μ} {Z H Z' H' : Hp}, Same Z Z' → M.m s Z H → M.m s' Z' H' → M.m s' Z H'
theorem muN_back : muN.Back := fun _ _ _ => trivial
theorem Mu.pure {μ : Type} (M : Mu μ) {s : μ} {Z H Z' H' : Hp} (g : Step [] Z H Z' H') (h : M.m s Z H) : M.m s Z' H' := M.loc g.z (fun a _ o e => g.h a o (List.not_mem_nil) e) (fun a _ x y => g.n a x y) h
/-- what a value is, of the heaps -/
structure Rr (fp : List Addr) where
  r : Hp → Hp → V → Prop
  st : ∀ {Z H Z' H' : Hp} {v : V}, Step fp Z H Z' H' → r Z H v → r Z' H' v
structure Ra (fp : List Addr) where
  r : Hp → Hp → List V → Prop
  st : ∀ {Z H Z' H' : Hp} {vs : List V}, Step fp Z H Z' H' → r Z H vs → r Z' H' vs
def ty {fp : List Addr} {α : Type} (τ : Ty α) (x : α) : Rr fp := ⟨fun Z _ v => τ.r Z v x, fun g h => τ.mono g.z h⟩
/-- a list that may be read: one that never changes, or one of one's own -/
def RdL (fp : List Addr) (Z H : Hp) (p : Addr) (vs : List V) : Prop := Z p = some (.lst vs) ∨ (H p = some (.lst vs) ∧ p ∉ fp)
theorem RdL.st {fp : List Addr} {Z H Z' H' : Hp} {p : Addr} {vs : List V} (g : Step fp Z H Z' H') (h : RdL fp Z H p vs) : RdL fp Z' H' p vs := h.elim (fun e => .inl (g.z _ _ e)) fun e => .inr ⟨g.h _ _ e.2 e.1, e.2⟩
theorem RdL.get {fp : List Addr} {Z H : Hp} {p : Addr} {vs : List V} (s : Same Z H) (h : RdL fp Z H p vs) : H p = some (.lst vs) := h.elim (fun e => s _ _ e) fun e => e.1
def li {fp : List Addr} {α : Type} (τ : Ty α) (xs : List α) : Rr fp := ⟨fun Z H v => ∃ p vs, v = .ref p ∧ RdL fp Z H p vs ∧ All (τ.r Z) vs xs ∧ xs.length ≤ sizeLine,
  fun g ⟨p, vs, e, h, t, l⟩ => ⟨p, vs, e, h.st g, t.imp fun _ _ => τ.mono g.z, l⟩⟩
/-- an address, whatever stands there -/
def isRef {fp : List Addr} (a : Addr) : Rr fp := ⟨fun _ _ v => v = .ref a, fun _ h => h⟩
def ra0 {fp : List Addr} : Ra fp := ⟨fun _ _ vs => vs = [], fun _ h => h⟩
def rac {fp : List Addr} (R : Rr fp) (Rs : Ra fp) : Ra fp := ⟨fun Z H vs => ∃ v r, vs = v :: r ∧ R.r Z H v ∧ Rs.r Z H r, fun g ⟨v, r, e, h, t⟩ => ⟨v, r, e, R.st g h, Rs.st g t⟩⟩

section
variable {μ : Type}
/-- from the state s the expression gives a value of which R is true, and the state s' -/
def Ev (M : Mu μ) (t : TE) (σ : L2.St) (Z H : Hp) (s : μ) (R : Rr M.fp) (s' : μ) : Prop :=
  ∀ Z1 H1, Same Z Z1 → SameX M.fp H H1 → Same Z1 H1 → M.m s Z1 H1 → ∀ Q : VK, (∀ v Z2 H2, Step M.fp Z1 H1 Z2 H2 → M.m s' Z2 H2 → R.r Z2 H2 v → Q v H2) → t σ H1 Q
def EvT (M : Mu μ) (t : TT) (σ : L2.St) (Z H : Hp) (s : μ) (b : Bool) (s' : μ) : Prop :=
  ∀ Z1 H1, Same Z Z1 → SameX M.fp H H1 → Same Z1 H1 → M.m s Z1 H1 → ∀ Q : Bool → Hp → Prop, (∀ Z2 H2, Step M.fp Z1 H1 Z2 H2 → M.m s' Z2 H2 → Q b H2) → t σ H1 Q
def EvA (M : Mu μ) (t : TA) (σ : L2.St) (Z H : Hp) (s : μ) (Rs : Ra M.fp) (s' : μ) : Prop :=
  ∀ Z1 H1, Same Z Z1 → SameX M.fp H H1 → Same Z1 H1 → M.m s Z1 H1 → ∀ Q : List V → Hp → Prop, (∀ vs Z2 H2, Step M.fp Z1 H1 Z2 H2 → M.m s' Z2 H2 → Rs.r Z2 H2 vs → Q vs H2) → t σ H1 Q
variable {M : Mu μ} {σ : L2.St} {Z H : Hp} {s s' s1 s2 s3 : μ} {ta tb tc te : TE} {t : TA}
theorem Ev.up {t : TE} {R : Rr M.fp} {Z' H' : Hp} (h : Ev M t σ Z H s R s') (z : Same Z Z') (x : SameX M.fp H H') : Ev M t σ Z' H' s R s' := fun Z1 H1 a b => h Z1 H1 (z.trans a) (x.trans b)
theorem Ev.weak {t : TE} {R R' : Rr M.fp} (h : Ev M t σ Z H s R s') (f : ∀ Z H v, Same Z H → R.r Z H v → R'.r Z H v) : Ev M t σ Z H s R' s' := fun Z1 H1 a b c d Q q => h Z1 H1 a b c d Q fun v Z2 H2 e m r => q v Z2 H2 e m (f _ _ _ e.s r)
/-- nothing is done -/
theorem ev_of {t : TE} {R : Rr M.fp} (h : ∀ Z1 H1, Same Z Z1 → SameX M.fp H H1 → Same Z1 H1 → ∀ Q : VK, (∀ v, R.r Z1 H1 v → Q v H1) → t σ H1 Q) : Ev M t σ Z H s R s := fun Z1 H1 a b c d Q q => h Z1 H1 a b c Q fun v r => q v Z1 H1 (Step.refl c) d r
/-- one after the other, by values -/
theorem ev_op {R1 R3 R : Rr M.fp} {r : R2} (ha : Ev M ta σ Z H s R1 s1) (hb : Ev M tb σ Z H s1 R3 s2) (h : ∀ Z H v w, Same Z H → R1.r Z H v → R3.r Z H w → ∀ Q : VK, (∀ u Z2 H2, Step [] Z H Z2 H2 → R.r Z2 H2 u → Q u H2) → r v w H Q) : Ev M (tOp r ta tb) σ Z H s R s2 :=
  fun Z1 H1 a b c d Q q => ha Z1 H1 a b c d _ fun v Z2 H2 e m rv => hb Z2 H2 (a.trans e.z) (b.trans e.h) e.s m _ fun w Z3 H3 e2 m2 rw => h Z3 H3 v w e2.s (R1.st e2 rv) rw _ fun u Z4 H4 e3 ru => q u Z4 H4 ((e.trans e2).trans e3.pure) (M.pure e3 m2) ru
theorem ev_un {R1 R : Rr M.fp} {r : V → Hp → VK → Prop} (ha : Ev M ta σ Z H s R1 s1) (h : ∀ Z H v, Same Z H → R1.r Z H v → ∀ Q : VK, (∀ u Z2 H2, Step [] Z H Z2 H2 → R.r Z2 H2 u → Q u H2) → r v H Q) : Ev M (fun σ H Q => ta σ H fun x H1 => r x H1 Q) σ Z H s R s1 :=
  fun Z1 H1 a b c d Q q => ha Z1 H1 a b c d _ fun v Z2 H2 e m rv => h Z2 H2 v e.s rv _ fun u Z4 H4 e3 ru => q u Z4 H4 (e.trans e3.pure) (M.pure e3 m) ru
theorem eva_nil : EvA M tNil σ Z H s ra0 s := fun Z1 H1 _ _ c d Q q => q [] Z1 H1 (Step.refl c) d rfl
theorem eva_cons {R : Rr M.fp} {Rs : Ra M.fp} (ha : Ev M ta σ Z H s R s1) (hr : EvA M t σ Z H s1 Rs s2) : EvA M (tCons ta t) σ Z H s (rac R Rs) s2 :=
  fun Z1 H1 a b c d Q q => ha Z1 H1 a b c d _ fun v Z2 H2 e m rv => hr Z2 H2 (a.trans e.z) (b.trans e.h) e.s m _ fun vs Z3 H3 e2 m2 rs => q _ Z3 H3 (e.trans e2) m2 ⟨v, vs, rfl, R.st e2 rv, rs⟩
/-- by all arguments -/
theorem ev_cb {Rs : Ra M.fp} {R : Rr M.fp} {r : List V → Hp → VK → Prop} (ha : EvA M t σ Z H s Rs s1) (h : ∀ Z H vs, Same Z H → Rs.r Z H vs → ∀ Q : VK, (∀ u Z2 H2, Step [] Z H Z2 H2 → R.r Z2 H2 u → Q u H2) → r vs H Q) : Ev M (tCB r t) σ Z H s R s1 :=
  fun Z1 H1 a b c d Q q => ha Z1 H1 a b c d _ fun vs Z2 H2 e m rv => h Z2 H2 vs e.s rv _ fun u Z4 H4 e3 ru => q u Z4 H4 (e.trans e3.pure) (M.pure e3 m) ru
/-! names and constants -/
theorem ev_var {i : Nat} {v : V} {α : Type} {τ : Ty α} {x : α} (e : σ[i]? = some (some v)) (h : τ.r Z v x) : Ev M (tVar i) σ Z H s (ty τ x) s := ev_of fun _ _ a _ _ _ q => ⟨v, e, q v (τ.mono a h)⟩
/-- a list of one's own -/
theorem ev_own {i : Nat} {p : Addr} {vs : List V} {α : Type} {τ : Ty α} {xs : List α} (e : σ[i]? = some (some (.ref p))) (h : H p = some (.lst vs)) (n : p ∉ M.fp) (t : All (τ.r Z) vs xs) (l : xs.length ≤ sizeLine) : Ev M (tVar i) σ Z H s (li τ xs) s :=
  ev_of fun _ _ a b _ _ q => ⟨.ref p, e, q _ ⟨p, vs, rfl, .inr ⟨b _ _ n h, n⟩, t.imp fun _ _ => τ.mono a, l⟩⟩
theorem ev_ref {i : Nat} {p : Addr} (e : σ[i]? = some (some (.ref p))) : Ev M (tVar i) σ Z H s (isRef p) s := ev_of fun _ _ _ _ _ _ q => ⟨_, e, q _ rfl⟩
theorem ev_int {i : Int} : Ev M (tC (.int i)) σ Z H s (ty yInt i) s := ev_of fun _ _ _ _ _ _ q => q _ rfl
theorem ev_bl {i : Bool} : Ev M (tC (.bl i)) σ Z H s (ty yBool i) s := ev_of fun _ _ _ _ _ _ q => q _ rfl
theorem ev_str {i : Str} (h : okS i = true := by decide +kernel) : Ev M (tC (.str i)) σ Z H s (ty yStr i) s := ev_of fun _ _ _ _ _ _ q => q _ ⟨rfl, h⟩
theorem ev_non : Ev M (tC .non) σ Z H s (ty yNon ()) s := ev_of fun _ _ _ _ _ _ q => q _ rfl
theorem ev_const {v : V} {α : Type} {τ : Ty α} {x : α} (h : ∀ Z, τ.r Z v x) : Ev M (tC v) σ Z H s (ty τ x) s := ev_of fun _ _ _ _ _ _ q => q _ (h _)
theorem ev_li {α : Type} {τ : Ty α} {xs : List α} (h : Ev M ta σ Z H s (ty (yList τ) xs) s') : Ev M ta σ Z H s (li τ xs) s' := h.weak fun _ _ _ _ ⟨a, vs, e, g, t, l⟩ => ⟨a, vs, e, .inl g, t, l⟩
theorem ev_none {α : Type} {τ : Ty α} (h : Ev M ta σ Z H s (ty yNon ()) s') : Ev M ta σ Z H s (ty (yOpt τ) none) s' := h.weak fun _ _ _ _ e => e
/-- of this kind nothing is None -/
def NonNil {α : Type} (τ : Ty α) : Prop := ∀ Z v x, τ.r Z v x → v ≠ .non
theorem nn_int : NonNil yInt := fun _ _ _ e => by rw [show _ = V.int _ from e]; exact fun z => nomatch z
theorem nn_bool : NonNil yBool := fun _ _ _ e => by rw [show _ = V.bl _ from e]; exact fun z => nomatch z
theorem nn_str : NonNil yStr := fun _ _ _ e => by rw [show _ = V.str _ from e.1]; exact fun z => nomatch z
theorem nn_list {α : Type} {τ : Ty α} : NonNil (yList τ) := fun _ _ _ ⟨_, _, e, _⟩ => by rw [e]; exact fun z => nomatch z
theorem nn_tup {K : PySem.W.Frag} {α : Type} {τ : Ty α} : NonNil (yTup K τ) := fun _ _ _ ⟨_, _, e, _⟩ => by rw [e]; exact fun z => nomatch z
theorem nn_p2 {K : PySem.W.Frag} {α β : Type} {τ : Ty α} {υ : Ty β} : NonNil (yP2 K τ υ) := fun _ _ _ ⟨_, _, _, e, _⟩ => by rw [e]; exact fun z => nomatch z
theorem nn_p3 {K : PySem.W.Frag} {α β γ : Type} {τ : Ty α} {υ : Ty β} {φ : Ty γ} : NonNil (yP3 K τ υ φ) := fun _ _ _ ⟨_, _, _, _, e, _⟩ => by rw [e]; exact fun z => nomatch z
theorem nn_p4 {K : PySem.W.Frag} {α β γ δ : Type} {τ : Ty α} {υ : Ty β} {φ : Ty γ} {ψ : Ty δ} : NonNil (yP4 K τ υ φ ψ) := fun _ _ _ ⟨_, _, _, _, _, e, _⟩ => by rw [e]; exact fun z => nomatch z
theorem ev_some {α : Type} {τ : Ty α} {x : α} (n : NonNil τ) (h : Ev M ta σ Z H s (ty τ x) s') : Ev M ta σ Z H s (ty (yOpt τ) (some x)) s' := h.weak fun _ _ _ _ e => ⟨e, n _ _ _ e⟩
theorem ev_uno {α : Type} {τ : Ty α} {x : α} {o : Option α} (h : Ev M ta σ Z H s (ty (yOpt τ) o) s') (e : o = some x) : Ev M ta σ Z H s (ty τ x) s' := by
  subst e; exact h.weak fun _ _ _ _ e => e.1
theorem ev_cast {α : Type} {τ : Ty α} {x y : α} (h : Ev M ta σ Z H s (ty τ x) s') (e : x = y) : Ev M ta σ Z H s (ty τ y) s' := e ▸ h
/-! numbers -/
section
variable {i j : Int}
theorem ev_I0 {g : Int → Int → V} {R : Rr M.fp} (ha : Ev M ta σ Z H s (ty yInt i) s1) (hb : Ev M tb σ Z H s1 (ty yInt j) s2) (h : ∀ Z H, R.r Z H (g i j)) : Ev M (tOp (rI0 g) ta tb) σ Z H s R s2 :=
  ev_op ha hb fun _ _ _ _ sz e1 e2 _ q => ⟨i, j, e1, e2, q _ _ _ (Step.refl sz) (h _ _)⟩
theorem ev_I1 {C : Int → Int → Prop} {g : Int → Int → V} {R : Rr M.fp} (ha : Ev M ta σ Z H s (ty yInt i) s1) (hb : Ev M tb σ Z H s1 (ty yInt j) s2) (c : C i j) (h : ∀ Z H, R.r Z H (g i j)) : Ev M (tOp (rI C g) ta tb) σ Z H s R s2 :=
  ev_op ha hb fun _ _ _ _ sz e1 e2 _ q => ⟨i, j, e1, e2, c, q _ _ _ (Step.refl sz) (h _ _)⟩
theorem ev_add (ha : Ev M ta σ Z H s (ty yInt i) s1) (hb : Ev M tb σ Z H s1 (ty yInt j) s2) : Ev M (tOp (rI0 fun i j => .int (i + j)) ta tb) σ Z H s (ty yInt (i + j)) s2 := ev_I0 ha hb fun _ _ => rfl
theorem ev_sub (ha : Ev M ta σ Z H s (ty yInt i) s1) (hb : Ev M tb σ Z H s1 (ty yInt j) s2) : Ev M (tOp (rI0 fun i j => .int (i - j)) ta tb) σ Z H s (ty yInt (i - j)) s2 := ev_I0 ha hb fun _ _ => rfl
theorem ev_mul (ha : Ev M ta σ Z H s (ty yInt i) s1) (hb : Ev M tb σ Z H s1 (ty yInt j) s2) (c : CMul i j) : Ev M (tOp (rI CMul fun i j => .int (i * j)) ta tb) σ Z H s (ty yInt (i * j)) s2 := ev_I1 ha hb c fun _ _ => rfl
theorem ev_fdiv (ha : Ev M ta σ Z H s (ty yInt i) s1) (hb : Ev M tb σ Z H s1 (ty yInt j) s2) (c : CDiv i j) : Ev M (tOp (rI CDiv fun i j => .int (i / j)) ta tb) σ Z H s (ty yInt (i / j)) s2 := ev_I1 ha hb c fun _ _ => rfl
theorem ev_mod (ha : Ev M ta σ Z H s (ty yInt i) s1) (hb : Ev M tb σ Z H s1 (ty yInt j) s2) (c : 0 < j) : Ev M (tOp (rI (fun _ j => 0 < j) fun i j => .int (i % j)) ta tb) σ Z H s (ty yInt (i % j)) s2 := ev_I1 (C := fun _ j => 0 < j) ha hb c fun _ _ => rfl
theorem ev_pow (ha : Ev M ta σ Z H s (ty yInt i) s1) (hb : Ev M tb σ Z H s1 (ty yInt j) s2) (c : CPow i j) : Ev M (tOp (rI CPow fun i j => .int (i ^ j.toNat)) ta tb) σ Z H s (ty yInt (i ^ j.toNat)) s2 := ev_I1 ha hb c fun _ _ => rfl
theorem ev_tun {R1 R : Rr M.fp} {r : V → Hp → VK → Prop} (ha : Ev M ta σ Z H s R1 s1) (h : ∀ Z H v, Same Z H → R1.r Z H v → ∀ Q : VK, (∀ u Z2 H2, Step [] Z H Z2 H2 → R.r Z2 H2 u → Q u H2) → r v H Q) : Ev M (tUn r ta) σ Z H s R s1 :=
  fun Z1 H1 a b c d Q q => ha Z1 H1 a b c d _ fun v Z2 H2 e m rv => h Z2 H2 v e.s rv _ fun u Z4 H4 e3 ru => q u Z4 H4 (e.trans e3.pure) (M.pure e3 m) ru
theorem ev_neg (ha : Ev M ta σ Z H s (ty yInt i) s1) : Ev M (tUn (rU fun i => .int (-i)) ta) σ Z H s (ty yInt (-i)) s1 := ev_tun ha fun _ _ _ sz e _ q => ⟨i, e, q _ _ _ (Step.refl sz) rfl⟩
theorem ev_lt (ha : Ev M ta σ Z H s (ty yInt i) s1) (hb : Ev M tb σ Z H s1 (ty yInt j) s2) : Ev M (tOp (rI0 fun i j => .bl (decide (i < j))) ta tb) σ Z H s (ty yBool (decide (i < j))) s2 := ev_I0 ha hb fun _ _ => rfl
theorem ev_le (ha : Ev M ta σ Z H s (ty yInt i) s1) (hb : Ev M tb σ Z H s1 (ty yInt j) s2) : Ev M (tOp (rI0 fun i j => .bl (decide (i ≤ j))) ta tb) σ Z H s (ty yBool (decide (i ≤ j))) s2 := ev_I0 ha hb fun _ _ => rfl
theorem ev_gt (ha : Ev M ta σ Z H s (ty yInt i) s1) (hb : Ev M tb σ Z H s1 (ty yInt j) s2) : Ev M (tOp (rI0 fun i j => .bl (decide (j < i))) ta tb) σ Z H s (ty yBool (decide (j < i))) s2 := ev_I0 ha hb fun _ _ => rfl
theorem ev_ge (ha : Ev M ta σ Z H s (ty yInt i) s1) (hb : Ev M tb σ Z H s1 (ty yInt j) s2) : Ev M (tOp (rI0 fun i j => .bl (decide (j ≤ i))) ta tb) σ Z H s (ty yBool (decide (j ≤ i))) s2 := ev_I0 ha hb fun _ _ => rfl
end
/-! equality of flat things -/
/-- flat: the value is told by the thing alone -/
structure Flat {α : Type} (τ : Ty α) (f : α → V) : Prop where
  eq : ∀ Z v x, τ.r Z v x → v = f x
  inj : ∀ x y, f x = f y → x = y
  sc : ∀ x y, scal (f x) (f y) = true
theorem flat_int : Flat yInt V.int := ⟨fun _ _ _ h => h, fun _ _ h => V.int.inj h, fun _ _ => rfl⟩
theorem flat_str : Flat yStr V.str := ⟨fun _ _ _ h => h.1, fun _ _ h => V.str.inj h, fun _ _ => rfl⟩
theorem flat_bool : Flat yBool V.bl := ⟨fun _ _ _ h => h, fun _ _ h => V.bl.inj h, fun _ _ => rfl⟩
section
variable {α : Type} {τ : Ty α} {f : α → V} {x y : α}
theorem ev_eq [DecidableEq α] (F : Flat τ f) (ha : Ev M ta σ Z H s (ty τ x) s1) (hb : Ev M tb σ Z H s1 (ty τ y) s2) : Ev M (tOp rEq ta tb) σ Z H s (ty yBool (decide (x = y))) s2 :=
  ev_op ha hb fun Z H v w sz e1 e2 Q q => by
    rw [F.eq _ _ _ e1, F.eq _ _ _ e2]
    have : decide (f x = f y) = decide (x = y) := decide_eq_decide.mpr ⟨F.inj x y, congrArg f⟩
    exact ⟨F.sc _ _, q _ _ _ (Step.refl sz) (congrArg V.bl this)⟩
theorem ev_ne [DecidableEq α] (F : Flat τ f) (ha : Ev M ta σ Z H s (ty τ x) s1) (hb : Ev M tb σ Z H s1 (ty τ y) s2) : Ev M (tOp rNe ta tb) σ Z H s (ty yBool (!decide (x = y))) s2 :=
  ev_op ha hb fun Z H v w sz e1 e2 Q q => by
    rw [F.eq _ _ _ e1, F.eq _ _ _ e2]
    have : decide (f x = f y) = decide (x = y) := decide_eq_decide.mpr ⟨F.inj x y, congrArg f⟩
    exact ⟨F.sc _ _, q _ _ _ (Step.refl sz) (congrArg (fun b => V.bl (!b)) this)⟩
end
theorem ev_isN {α : Type} {τ : Ty α} {o : Option α} (ha : Ev M ta σ Z H s (ty (yOpt τ) o) s1) (hb : Ev M tb σ Z H s1 (ty yNon ()) s2) : Ev M (tOp (fun x y H Q => y = .non ∧ Q (.bl (decide (x = .non))) H) ta tb) σ Z H s (ty yBool o.isNone) s2 :=
  ev_op ha hb fun Z H v w sz e1 e2 Q q => by
    refine ⟨e2, q _ _ _ (Step.refl sz) ?_⟩
    cases o with
    | none => rw [show v = .non from e1]; rfl
    | some y => rw [show decide (v = .non) = false from decide_eq_false e1.2]; rfl
theorem ev_notN {α : Type} {τ : Ty α} {o : Option α} (ha : Ev M ta σ Z H s (ty (yOpt τ) o) s1) (hb : Ev M tb σ Z H s1 (ty yNon ()) s2) : Ev M (tOp (fun x y H Q => y = .non ∧ Q (.bl (!decide (x = .non))) H) ta tb) σ Z H s (ty yBool o.isSome) s2 :=
  ev_op ha hb fun Z H v w sz e1 e2 Q q => by
    refine ⟨e2, q _ _ _ (Step.refl sz) ?_⟩
    cases o with
    | none => rw [show v = .non from e1]; rfl
    | some y => rw [show decide (v = .non) = false from decide_eq_false e1.2]; rfl
/-! and, or, not, if, as values -/
theorem ev_and {a b : Bool} {o : Option (Bool × μ)} (ha : Ev M ta σ Z H s (ty yBool a) s1) (hb : a = true → ∀ y s', o = some (y, s') → Ev M tb σ Z H s1 (ty yBool y) s') (h : (if a = true then o else some (false, s1)) = some (b, s2)) : Ev M (tAndV ta tb) σ Z H s (ty yBool b) s2 :=
  fun Z1 H1 p q r d Q k => ha Z1 H1 p q r d _ fun v Z2 H2 e m rv => ⟨a, rv, by
    cases a with
    | true => rw [if_pos rfl] at h ⊢; exact hb rfl b s2 h Z2 H2 (p.trans e.z) (q.trans e.h) e.s m _ fun w Z3 H3 e2 m2 rw => k w Z3 H3 (e.trans e2) m2 rw
    | false => rw [if_neg Bool.false_ne_true] at h ⊢; cases h; exact k _ Z2 H2 e m rfl⟩
theorem ev_or {a b : Bool} {o : Option (Bool × μ)} (ha : Ev M ta σ Z H s (ty yBool a) s1) (hb : a = false → ∀ y s', o = some (y, s') → Ev M tb σ Z H s1 (ty yBool y) s') (h : (if a = true then some (true, s1) else o) = some (b, s2)) : Ev M (tOrV ta tb) σ Z H s (ty yBool b) s2 :=
  fun Z1 H1 p q r d Q k => ha Z1 H1 p q r d _ fun v Z2 H2 e m rv => ⟨a, rv, by
    cases a with
    | false => rw [if_neg Bool.false_ne_true] at h ⊢; exact hb rfl b s2 h Z2 H2 (p.trans e.z) (q.trans e.h) e.s m _ fun w Z3 H3 e2 m2 rw => k w Z3 H3 (e.trans e2) m2 rw
    | true => rw [if_pos rfl] at h ⊢; cases h; exact k _ Z2 H2 e m rfl⟩
theorem ev_and0 {a b : Bool} (ha : Ev M ta σ Z H s (ty yBool a) s1) (hb : Ev M tb σ Z H s1 (ty yBool b) s1) : Ev M (tAndV ta tb) σ Z H s (ty yBool (a && b)) s1 :=
  ev_and (o := some (b, s1)) ha (fun _ y s' e => by cases e; exact hb) (by cases a <;> rfl)
theorem ev_or0 {a b : Bool} (ha : Ev M ta σ Z H s (ty yBool a) s1) (hb : Ev M tb σ Z H s1 (ty yBool b) s1) : Ev M (tOrV ta tb) σ Z H s (ty yBool (a || b)) s1 :=
  ev_or (o := some (b, s1)) ha (fun _ y s' e => by cases e; exact hb) (by cases a <;> rfl)
theorem ev_not {a : Bool} (ha : Ev M ta σ Z H s (ty yBool a) s1) : Ev M (tNotV ta) σ Z H s (ty yBool (!a)) s1 :=
  fun Z1 H1 p q r d Q k => ha Z1 H1 p q r d _ fun v Z2 H2 e m rv => ⟨a, rv, k _ Z2 H2 e m rfl⟩
theorem ev_if {tt : TT} {a : Bool} {R : Rr M.fp} (ht : EvT M tt σ Z H s a s1) (ha : a = true → Ev M ta σ Z H s1 R s2) (hb : a = false → Ev M tb σ Z H s1 R s2) : Ev M (tIf tt ta tb) σ Z H s R s2 :=
  fun Z1 H1 p q r d Q k => ht Z1 H1 p q r d _ fun Z2 H2 e m => by
    cases a with
    | true => rw [if_pos rfl]; exact ha rfl Z2 H2 (p.trans e.z) (q.trans e.h) e.s m _ fun w Z3 H3 e2 m2 rw => k w Z3 H3 (e.trans e2) m2 rw
    | false => rw [if_neg Bool.false_ne_true]; exact hb rfl Z2 H2 (p.trans e.z) (q.trans e.h) e.s m _ fun w Z3 H3 e2 m2 rw => k w Z3 H3 (e.trans e2) m2 rw
theorem ev_if0 {tt : TT} {a : Bool} {α : Type} {τ : Ty α} {x y : α} (ht : EvT M tt σ Z H s a s1) (ha : Ev M ta σ Z H s1 (ty τ x) s1) (hb : Ev M tb σ Z H s1 (ty τ y) s1) : Ev M (tIf tt ta tb) σ Z H s (ty τ (if a = true then x else y)) s1 :=
  ev_if ht (fun e => by rw [if_pos e]; exact ha) (fun e => by rw [if_neg (by rw [e]; exact Bool.false_ne_true)]; exact hb)
/-! tests -/
theorem et_val {a : Bool} (h : Ev M te σ Z H s (ty yBool a) s1) : EvT M (tB te) σ Z H s a s1 := fun Z1 H1 p q r d _ k => h Z1 H1 p q r d _ fun _ Z2 H2 e m rv => ⟨a, rv, k Z2 H2 e m⟩
theorem et_cmp {a : Bool} (h : Ev M te σ Z H s (ty yBool a) s1) : EvT M (tTest te) σ Z H s a s1 := fun Z1 H1 p q r d _ k => h Z1 H1 p q r d _ fun _ Z2 H2 e m rv => ⟨a, rv, k Z2 H2 e m⟩
section
variable {tA tB' : TT} {a b : Bool}
theorem et_and {o : Option (Bool × μ)} (ha : EvT M tA σ Z H s a s1) (hb : a = true → ∀ y s', o = some (y, s') → EvT M tB' σ Z H s1 y s') (h : (if a = true then o else some (false, s1)) = some (b, s2)) : EvT M (tAnd tA tB') σ Z H s b s2 :=
  fun Z1 H1 p q r d Q k => ha Z1 H1 p q r d _ fun Z2 H2 e m => by
    cases a with
    | true => rw [if_pos rfl] at h ⊢; exact hb rfl b s2 h Z2 H2 (p.trans e.z) (q.trans e.h) e.s m _ fun Z3 H3 e2 m2 => k Z3 H3 (e.trans e2) m2
    | false => rw [if_neg Bool.false_ne_true] at h ⊢; cases h; exact k Z2 H2 e m
theorem et_or {o : Option (Bool × μ)} (ha : EvT M tA σ Z H s a s1) (hb : a = false → ∀ y s', o = some (y, s') → EvT M tB' σ Z H s1 y s') (h : (if a = true then some (true, s1) else o) = some (b, s2)) : EvT M (tOr tA tB') σ Z H s b s2 :=
  fun Z1 H1 p q r d Q k => ha Z1 H1 p q r d _ fun Z2 H2 e m => by
    cases a with
    | false => rw [if_neg Bool.false_ne_true] at h ⊢; exact hb rfl b s2 h Z2 H2 (p.trans e.z) (q.trans e.h) e.s m _ fun Z3 H3 e2 m2 => k Z3 H3 (e.trans e2) m2
    | true => rw [if_pos rfl] at h ⊢; cases h; exact k Z2 H2 e m
theorem et_and0 (ha : EvT M tA σ Z H s a s1) (hb : EvT M tB' σ Z H s1 b s1) : EvT M (tAnd tA tB') σ Z H s (a && b) s1 := et_and (o := some (b, s1)) ha (fun _ y s' e => by cases e; exact hb) (by cases a <;> rfl)
theorem et_or0 (ha : EvT M tA σ Z H s a s1) (hb : EvT M tB' σ Z H s1 b s1) : EvT M (tOr tA tB') σ Z H s (a || b) s1 := et_or (o := some (b, s1)) ha (fun _ y s' e => by cases e; exact hb) (by cases a <;> rfl)
theorem et_not (ha : EvT M tA σ Z H s a s1) : EvT M (tNot tA) σ Z H s (!a) s1 := fun Z1 H1 p q r d _ k => ha Z1 H1 p q r d _ k
end
end
end TP

namespace TP
open PySem PySem.Spec PyProof.Rows L2
instance {i j : Int} : Decidable (CMul i j) := inferInstanceAs (Decidable ((_ ∧ _) ∨ (_ ∧ _)))
instance {i j : Int} : Decidable (CDiv i j) := inferInstanceAs (Decidable (_ ∧ _))
instance {i j : Int} : Decidable (CPow i j) := inferInstanceAs (Decidable (_ ∧ _ ∧ _))
section
variable {μ : Type} {M : Mu μ} {σ : L2.St} {Z H : Hp} {s s' s1 s2 s3 : μ} {ta tb tc te : TE} {t : TA} {K : PySem.W.Frag}
theorem same_x {S : List Addr} {Z H Z1 H1 : Hp} (g : Step S Z H Z1 H1) {p : Addr} (h : H1 p = none) : H p = none := by
  cases q : H p with
  | none => rfl
  | some o => exact absurd h (g.al p (some_ne q))
theorem fresh_fp {fp : List Addr} {Z H : Hp} {p : Addr} {o : HO} (sz : Same Z H) (hp : H p = none) : Step fp Z H (upd Z p o) (upd H p o) := (Step.new sz hp).pure
/-! ### texts -/
theorem okS_app {x y : Str} (hx : okS x = true) (hy : okS y = true) (l : x.length + y.length ≤ sizeLine) : okS (x ++ y) = true := by
  unfold okS PyData.strOk at *
  rw [Bool.and_eq_true] at hx hy ⊢
  refine ⟨?_, ?_⟩
  · have e : (x ++ y).cps = x.cps ++ y.cps := rfl
    rw [e, Array.all_append, hx.1, hy.1]; rfl
  · refine decide_eq_true ?_
    have e : (x ++ y).length = x.length + y.length := by
      show (x.cps ++ y.cps).size = _
      rw [Array.size_append]; rfl
    omega
theorem ev_cat_str {x y : Str} (ha : Ev M ta σ Z H s (ty yStr x) s1) (hb : Ev M tb σ Z H s1 (ty yStr y) s2) (l : x.length + y.length ≤ sizeLine) : Ev M (tOp (fun x y H Q => ∃ i j, x = .str i ∧ y = .str j ∧ i.length + j.length ≤ sizeLine ∧ Q (.str (i ++ j)) H) ta tb) σ Z H s (ty yStr (x ++ y)) s2 :=
  ev_op ha hb fun _ _ _ _ sz e1 e2 _ q => ⟨x, y, e1.1, e2.1, l, q _ _ _ (Step.refl sz) ⟨rfl, okS_app e1.2 e2.2 l⟩⟩
theorem ev_lt_str {x y : Str} (ha : Ev M ta σ Z H s (ty yStr x) s1) (hb : Ev M tb σ Z H s1 (ty yStr y) s2) : Ev M (tOp (fun x y H Q => ∃ i j, x = .str i ∧ y = .str j ∧ Q (.bl (decide (i.cps.toList < j.cps.toList))) H) ta tb) σ Z H s (ty yBool (decide (x.cps.toList < y.cps.toList))) s2 :=
  ev_op ha hb fun _ _ _ _ sz e1 e2 _ q => ⟨x, y, e1.1, e2.1, q _ _ _ (Step.refl sz) rfl⟩
theorem ev_len_str {x : Str} (ha : Ev M ta σ Z H s (ty yStr x) s1) : Ev M (tCB (fun xs H Q => ∃ z, xs = [.str z] ∧ z.length ≤ sizeLine ∧ Q (.int z.length) H) (tCons ta tNil)) σ Z H s (ty yInt (x.length : Nat)) s1 :=
  ev_cb (eva_cons ha eva_nil) fun _ _ vs sz ⟨v, r, e, h, e2⟩ Q q => ⟨x, by rw [e, h.1, show r = [] from e2], of_decide_eq_true (Bool.and_eq_true_iff.mp (show (PyData.strOk x && decide (x.length ≤ sizeLine)) = true from h.2)).2, q _ _ _ (Step.refl sz) rfl⟩
/-! ### lists and tuples that are made -/
theorem ev_tup {Rs : Ra M.fp} {R : Rr M.fp} (ha : EvA M t σ Z H s Rs s1) (h : ∀ Z H vs, Same Z H → Rs.r Z H vs → vs.length ≤ sizeLine ∧ ∀ p, H p = none → R.r (upd Z p (.tup vs)) (upd H p (.tup vs)) (.ref p)) : Ev M (tTup t) σ Z H s R s1 :=
  fun Z1 H1 a b c d Q q => ha Z1 H1 a b c d _ fun vs Z2 H2 e m rv => by
    obtain ⟨l, hr⟩ := h Z2 H2 vs e.s rv
    exact ⟨l, fun p hp => q _ _ _ (e.trans (fresh_fp e.s hp)) (M.pure (Step.new e.s hp) m) (hr p hp)⟩
theorem ev_lst {Rs : Ra M.fp} {R : Rr M.fp} (ha : EvA M t σ Z H s Rs s1) (h : ∀ Z H vs, Same Z H → Rs.r Z H vs → vs.length ≤ sizeLine ∧ ∀ p, H p = none → R.r (upd Z p (.lst vs)) (upd H p (.lst vs)) (.ref p)) : Ev M (tLst t) σ Z H s R s1 :=
  fun Z1 H1 a b c d Q q => ha Z1 H1 a b c d _ fun vs Z2 H2 e m rv => by
    obtain ⟨l, hr⟩ := h Z2 H2 vs e.s rv
    exact ⟨l, fun p hp => q _ _ _ (e.trans (fresh_fp e.s hp)) (M.pure (Step.new e.s hp) m) (hr p hp)⟩
theorem sqT_new {Z : Hp} {p : Addr} {vs : List V} : SqT K (upd Z p (.tup vs)) p vs := .inl (.inl upd_same)
section
variable {α β γ δ : Type} {τ : Ty α} {υ : Ty β} {φ : Ty γ} {ψ : Ty δ} {x : α} {y : β} {z : γ} {u : δ}
theorem ev_p0 : Ev M (tTup tNil) σ Z H s (ty (yP0 K) ()) s := ev_tup eva_nil fun _ _ vs _ e => ⟨by rw [show vs = [] from e]; exact Nat.zero_le _, fun p _ => ⟨p, rfl, by rw [show vs = [] from e]; exact sqT_new⟩⟩
theorem ev_p1 (ha : EvA M t σ Z H s (rac (ty τ x) ra0) s1) : Ev M (tTup t) σ Z H s (ty (yP1 K τ) x) s1 :=
  ev_tup ha fun Z H vs sz ⟨v1, r1, e1, h1, e2⟩ => by
    cases e2; cases e1
    exact ⟨by show 1 ≤ sizeLine; decide, fun p hp => ⟨p, v1, rfl, sqT_new, τ.mono (same_upd (same_none sz hp)) h1⟩⟩
theorem ev_p2 (ha : EvA M t σ Z H s (rac (ty τ x) (rac (ty υ y) ra0)) s1) : Ev M (tTup t) σ Z H s (ty (yP2 K τ υ) (x, y)) s1 :=
  ev_tup ha fun Z H vs sz ⟨v1, r1, e1, h1, v2, r2, e2, h2, e3⟩ => by
    cases e3; cases e2; cases e1
    exact ⟨by show 2 ≤ sizeLine; decide, fun p hp => have q := same_upd (same_none sz hp); ⟨p, v1, v2, rfl, sqT_new, τ.mono q h1, υ.mono q h2⟩⟩
theorem ev_p3 (ha : EvA M t σ Z H s (rac (ty τ x) (rac (ty υ y) (rac (ty φ z) ra0))) s1) : Ev M (tTup t) σ Z H s (ty (yP3 K τ υ φ) (x, y, z)) s1 :=
  ev_tup ha fun Z H vs sz ⟨v1, r1, e1, h1, v2, r2, e2, h2, v3, r3, e3, h3, e4⟩ => by
    cases e4; cases e3; cases e2; cases e1
    exact ⟨by show 3 ≤ sizeLine; decide, fun p hp => have q := same_upd (same_none sz hp); ⟨p, v1, v2, v3, rfl, sqT_new, τ.mono q h1, υ.mono q h2, φ.mono q h3⟩⟩
theorem ev_p4 (ha : EvA M t σ Z H s (rac (ty τ x) (rac (ty υ y) (rac (ty φ z) (rac (ty ψ u) ra0)))) s1) : Ev M (tTup t) σ Z H s (ty (yP4 K τ υ φ ψ) (x, y, z, u)) s1 :=
  ev_tup ha fun Z H vs sz ⟨v1, r1, e1, h1, v2, r2, e2, h2, v3, r3, e3, h3, v4, r4, e4, h4, e5⟩ => by
    cases e5; cases e4; cases e3; cases e2; cases e1
    exact ⟨by show 4 ≤ sizeLine; decide, fun p hp => have q := same_upd (same_none sz hp); ⟨p, v1, v2, v3, v4, rfl, sqT_new, τ.mono q h1, υ.mono q h2, φ.mono q h3, ψ.mono q h4⟩⟩
/-- arguments all of one kind -/
def ras {fp : List Addr} (τ : Ty α) (xs : List α) : Ra fp := ⟨fun Z _ vs => All (τ.r Z) vs xs, fun g h => h.imp fun _ _ => τ.mono g.z⟩
theorem eva_nils : EvA M tNil σ Z H s (ras τ []) s := fun Z1 H1 _ _ c d Q q => q [] Z1 H1 (Step.refl c) d .nil
theorem eva_conss {xs : List α} (ha : Ev M ta σ Z H s (ty τ x) s1) (hr : EvA M t σ Z H s1 (ras τ xs) s2) : EvA M (tCons ta t) σ Z H s (ras τ (x :: xs)) s2 :=
  fun Z1 H1 a b c d Q q => ha Z1 H1 a b c d _ fun v Z2 H2 e m rv => hr Z2 H2 (a.trans e.z) (b.trans e.h) e.s m _ fun vs Z3 H3 e2 m2 rs => q _ Z3 H3 (e.trans e2) m2 (.cons (τ.mono e2.z rv) rs)
/-- a new list of one's own -/
def EvN {α : Type} (M : Mu μ) (t : TE) (σ : L2.St) (Z H : Hp) (s : μ) (τ : Ty α) (xs : List α) (s' : μ) : Prop :=
  ∀ Z1 H1, Same Z Z1 → SameX M.fp H H1 → Same Z1 H1 → M.m s Z1 H1 → ∀ Q : VK, (∀ p vs Z2 H2, Step M.fp Z1 H1 Z2 H2 → M.m s' Z2 H2 → H1 p = none → Z2 p = none → H2 p = some (.lst vs) → All (τ.r Z2) vs xs → xs.length ≤ sizeLine → Q (.ref p) H2) → t σ H1 Q
theorem Step.fz {S : List Addr} {Z H Z1 H1 : Hp} {x : Addr} {o : HO} (g : Step S Z H Z1 H1) (hx : H x = none) (h1 : H1 x = some o) (hz : Z1 x = none) : Step S Z H (upd Z1 x o) H1 := by
  refine ⟨g.z.trans (same_upd hz), fun a u e => ?_, g.h, fun a h z => ?_, g.al⟩
  · by_cases q : a = x
    · subst q; rw [upd_same] at e; rw [← Option.some.inj e]; exact h1
    · rw [upd_ne q] at e; exact g.s a u e
  · rw [upd_ne (ne_of_some h hx)]; exact g.n a h z
theorem Mu.fz {M : Mu μ} {s : μ} {Z H : Hp} {x : Addr} {o : HO} (m : M.m s Z H) (hz : Z x = none) (nx : x ∉ M.fp) : M.m s (upd Z x o) H := by
  refine M.loc (same_upd hz) (fun _ _ _ x => x) (fun a ha _ z => ?_) m
  rw [upd_ne (fun q => nx (by rw [← q]; exact ha))]
  exact z
theorem ev_fz {α : Type} {τ : Ty α} {xs : List α} (h : EvN M ta σ Z H s τ xs s1) : Ev M ta σ Z H s (ty (yList τ) xs) s1 :=
  fun Z1 H1 a b c d Q q => h Z1 H1 a b c d Q fun p vs Z2 H2 e m hp zp h2 t l =>
    q _ _ _ (e.fz hp h2 zp) (Mu.fz m zp (fun hf => (M.al d p hf).1 hp)) ⟨p, vs, rfl, upd_same, t.imp fun _ _ => τ.mono (same_upd zp), l⟩
theorem en_op {α : Type} {τ : Ty α} {xs : List α} {R1 R3 : Rr M.fp} {r : R2} (ha : Ev M ta σ Z H s R1 s1) (hb : Ev M tb σ Z H s1 R3 s2) (h : ∀ Z H v w, Same Z H → R1.r Z H v → R3.r Z H w → ∃ vs, All (τ.r Z) vs xs ∧ xs.length ≤ sizeLine ∧ ∀ Q : VK, (∀ p, H p = none → Q (.ref p) (upd H p (.lst vs))) → r v w H Q) : EvN M (tOp r ta tb) σ Z H s τ xs s2 :=
  fun Z1 H1 a b c d Q q => ha Z1 H1 a b c d _ fun v Z2 H2 e m rv => hb Z2 H2 (a.trans e.z) (b.trans e.h) e.s m _ fun w Z3 H3 e2 m2 rw => by
    obtain ⟨vs, t, l, k⟩ := h Z3 H3 v w e2.s (R1.st e2 rv) rw
    refine k _ fun p hp => ?_
    have e3 := Step.own (o := .lst vs) e2.s hp
    exact q p vs Z3 _ ((e.trans e2).trans e3.pure) (M.pure e3 m2) (same_x (e.trans e2) hp) (same_none e2.s hp) upd_same t l
theorem en_cb {α : Type} {τ : Ty α} {xs : List α} {Rs : Ra M.fp} {r : List V → Hp → VK → Prop} (ha : EvA M t σ Z H s Rs s1) (h : ∀ Z H vs, Same Z H → Rs.r Z H vs → ∃ ws, All (τ.r Z) ws xs ∧ xs.length ≤ sizeLine ∧ ∀ Q : VK, (∀ p, H p = none → Q (.ref p) (upd H p (.lst ws))) → r vs H Q) : EvN M (tCB r t) σ Z H s τ xs s1 :=
  fun Z1 H1 a b c d Q q => ha Z1 H1 a b c d _ fun v Z2 H2 e m rv => by
    obtain ⟨vs, t, l, k⟩ := h Z2 H2 v e.s rv
    refine k _ fun p hp => ?_
    have e3 := Step.own (o := .lst vs) e.s hp
    exact q p vs Z2 _ (e.trans e3.pure) (M.pure e3 m) (same_x e hp) (same_none e.s hp) upd_same t l
theorem en_listD {xs : List α} (ha : EvA M t σ Z H s (ras τ xs) s1) (l : xs.length ≤ sizeLine) : EvN M (tLst t) σ Z H s τ xs s1 :=
  fun Z1 H1 a b c d Q q => ha Z1 H1 a b c d _ fun vs Z2 H2 e m rv => ⟨by rw [All.len rv]; exact l, fun p hp => by
    have e3 := Step.own (o := .lst vs) e.s hp
    exact q p vs Z2 _ (e.trans e3.pure) (M.pure e3 m) (same_x e hp) (same_none e.s hp) upd_same rv l⟩
theorem ev_tupD {xs : List α} (ha : EvA M t σ Z H s (ras τ xs) s1) (l : xs.length ≤ sizeLine) : Ev M (tTup t) σ Z H s (ty (yTup K τ) xs) s1 :=
  ev_tup ha fun Z H vs sz h => ⟨by rw [h.len]; exact l, fun p hp => ⟨p, vs, rfl, sqT_new, h.imp fun _ _ => τ.mono (same_upd (same_none sz hp)), l⟩⟩
/-! ### lists and tuples that are read -/
variable {xs ys : List α}
theorem rdl {fp : List Addr} {Z H : Hp} {v : V} (sz : Same Z H) (h : (li (fp := fp) τ xs).r Z H v) : ∃ p vs, v = .ref p ∧ H p = some (.lst vs) ∧ All (τ.r Z) vs xs ∧ xs.length ≤ sizeLine := by
  obtain ⟨p, vs, e, g, t, l⟩ := h
  exact ⟨p, vs, e, g.get sz, t, l⟩
theorem ev_ixL {i : Int} (ha : Ev M ta σ Z H s (li τ xs) s1) (hb : Ev M tb σ Z H s1 (ty yInt i) s2) (e : atI xs i = some x) : Ev M (tOp (rIxL K) ta tb) σ Z H s (ty τ x) s2 :=
  ev_op ha hb fun _ _ _ _ sz e1 e2 _ q => by
    obtain ⟨p, vs, rfl, g, t, _⟩ := rdl sz e1
    obtain ⟨w, hw, rw'⟩ := t.atI e
    exact ⟨p, vs, i, w, rfl, e2, SqL.of g, hw, q _ _ _ (Step.refl sz) rw'⟩
theorem ev_ixT {i : Int} (ha : Ev M ta σ Z H s (ty (yTup K τ) xs) s1) (hb : Ev M tb σ Z H s1 (ty yInt i) s2) (e : atI xs i = some x) : Ev M (tOp (rIxT K) ta tb) σ Z H s (ty τ x) s2 :=
  ev_op ha hb fun _ _ _ _ sz e1 e2 _ q => by
    obtain ⟨p, vs, rfl, g, t, _⟩ := e1
    obtain ⟨w, hw, rw'⟩ := t.atI e
    exact ⟨p, vs, i, w, rfl, e2, seqT_same sz g, hw, q _ _ _ (Step.refl sz) rw'⟩
/-- a part of a tuple by its written place -/
def PartOf {α' β' : Type} (K : PySem.W.Frag) (τ : Ty α') (i : Int) (τ' : Ty β') (f : α' → β') : Prop := ∀ Z v x, τ.r Z v x → ∃ a vs w, v = .ref a ∧ SqT K Z a vs ∧ atI vs i = some w ∧ τ'.r Z w (f x)
theorem po1_0 : PartOf K (yP1 K τ) 0 τ id := fun _ _ _ ⟨a, v1, e, h, h1⟩ => ⟨a, _, v1, e, h, rfl, h1⟩
theorem po2_0 : PartOf K (yP2 K τ υ) 0 τ Prod.fst := fun _ _ _ ⟨a, v1, v2, e, h, h1, _⟩ => ⟨a, _, v1, e, h, rfl, h1⟩
theorem po2_1 : PartOf K (yP2 K τ υ) 1 υ Prod.snd := fun _ _ _ ⟨a, v1, v2, e, h, _, h1⟩ => ⟨a, _, v2, e, h, rfl, h1⟩
theorem po3_0 : PartOf K (yP3 K τ υ φ) 0 τ (fun x => x.1) := fun _ _ _ ⟨a, v1, v2, v3, e, h, h1, _⟩ => ⟨a, _, v1, e, h, rfl, h1⟩
theorem po3_1 : PartOf K (yP3 K τ υ φ) 1 υ (fun x => x.2.1) := fun _ _ _ ⟨a, v1, v2, v3, e, h, _, h1, _⟩ => ⟨a, _, v2, e, h, rfl, h1⟩
theorem po3_2 : PartOf K (yP3 K τ υ φ) 2 φ (fun x => x.2.2) := fun _ _ _ ⟨a, v1, v2, v3, e, h, _, _, h1⟩ => ⟨a, _, v3, e, h, rfl, h1⟩
theorem po4_0 : PartOf K (yP4 K τ υ φ ψ) 0 τ (fun x => x.1) := fun _ _ _ ⟨a, v1, v2, v3, v4, e, h, h1, _⟩ => ⟨a, _, v1, e, h, rfl, h1⟩
theorem po4_1 : PartOf K (yP4 K τ υ φ ψ) 1 υ (fun x => x.2.1) := fun _ _ _ ⟨a, v1, v2, v3, v4, e, h, _, h1, _⟩ => ⟨a, _, v2, e, h, rfl, h1⟩
theorem po4_2 : PartOf K (yP4 K τ υ φ ψ) 2 φ (fun x => x.2.2.1) := fun _ _ _ ⟨a, v1, v2, v3, v4, e, h, _, _, h1, _⟩ => ⟨a, _, v3, e, h, rfl, h1⟩
theorem po4_3 : PartOf K (yP4 K τ υ φ ψ) 3 ψ (fun x => x.2.2.2) := fun _ _ _ ⟨a, v1, v2, v3, v4, e, h, _, _, _, h1⟩ => ⟨a, _, v4, e, h, rfl, h1⟩
theorem ev_part {i : Int} {f : α → β} (P : PartOf K τ i υ f) (ha : Ev M ta σ Z H s (ty τ x) s1) (hb : Ev M tb σ Z H s1 (ty yInt i) s2) : Ev M (tOp (rIxT K) ta tb) σ Z H s (ty υ (f x)) s2 :=
  ev_op ha hb fun _ _ _ _ sz e1 e2 _ q => by
    obtain ⟨p, vs, w, rfl, g, hw, rw'⟩ := P _ _ _ e1
    exact ⟨p, vs, i, w, rfl, e2, seqT_same sz g, hw, q _ _ _ (Step.refl sz) rw'⟩
theorem ev_len {r : List V → Hp → VK → Prop} (hr : ∀ xs H Q, (∃ p ys, xs = [.ref p] ∧ (SqL K H p ys ∨ SqT K H p ys) ∧ Q (.int ys.length) H) → r xs H Q) (ha : Ev M ta σ Z H s (li τ xs) s1) : Ev M (tCB r (tCons ta tNil)) σ Z H s (ty yInt (xs.length : Nat)) s1 :=
  ev_cb (eva_cons ha eva_nil) fun _ _ _ sz ⟨v, r, e, h, e2⟩ _ q => by
    cases e2; cases e
    obtain ⟨p, vs, rfl, g, t, _⟩ := rdl sz h
    exact hr _ _ _ ⟨p, vs, rfl, .inl (SqL.of g), by rw [t.len]; exact q _ _ _ (Step.refl sz) rfl⟩
theorem ev_lenT {r : List V → Hp → VK → Prop} (hr : ∀ xs H Q, (∃ p ys, xs = [.ref p] ∧ (SqL K H p ys ∨ SqT K H p ys) ∧ Q (.int ys.length) H) → r xs H Q) (ha : Ev M ta σ Z H s (ty (yTup K τ) xs) s1) : Ev M (tCB r (tCons ta tNil)) σ Z H s (ty yInt (xs.length : Nat)) s1 :=
  ev_cb (eva_cons ha eva_nil) fun _ _ _ sz ⟨v, r, e, h, e2⟩ _ q => by
    cases e2; cases e
    obtain ⟨p, vs, rfl, g, t, _⟩ := h
    exact hr _ _ _ ⟨p, vs, rfl, .inr (seqT_same sz g), by rw [t.len]; exact q _ _ _ (Step.refl sz) rfl⟩
theorem en_list_of {r : List V → Hp → VK → Prop} (hr : ∀ xs H Q, (∃ p ys, xs = [.ref p] ∧ (SqL K H p ys ∨ SqT K H p ys) ∧ ∀ l, H l = none → Q (.ref l) (upd H l (.lst ys))) → r xs H Q) (ha : Ev M ta σ Z H s (li τ xs) s1) : EvN M (tCB r (tCons ta tNil)) σ Z H s τ xs s1 :=
  en_cb (eva_cons ha eva_nil) fun _ _ _ sz ⟨v, r, e, h, e2⟩ => by
    cases e2; cases e
    obtain ⟨p, vs, rfl, g, t, l⟩ := rdl sz h
    exact ⟨vs, t, l, fun Q q => hr _ _ _ ⟨p, vs, rfl, .inl (SqL.of g), q⟩⟩
theorem en_list_ofT {r : List V → Hp → VK → Prop} (hr : ∀ xs H Q, (∃ p ys, xs = [.ref p] ∧ (SqL K H p ys ∨ SqT K H p ys) ∧ ∀ l, H l = none → Q (.ref l) (upd H l (.lst ys))) → r xs H Q) (ha : Ev M ta σ Z H s (ty (yTup K τ) xs) s1) : EvN M (tCB r (tCons ta tNil)) σ Z H s τ xs s1 :=
  en_cb (eva_cons ha eva_nil) fun _ _ _ sz ⟨v, r, e, h, e2⟩ => by
    cases e2; cases e
    obtain ⟨p, vs, rfl, g, t, l⟩ := h
    exact ⟨vs, t, l, fun Q q => hr _ _ _ ⟨p, vs, rfl, .inr (seqT_same sz g), q⟩⟩
theorem ev_tuple_of {r : List V → Hp → VK → Prop} (hr : ∀ xs H Q, (∃ p ys, xs = [.ref p] ∧ ((SqL K H p ys ∧ ∀ l, H l = none → Q (.ref l) (upd H l (.tup ys))) ∨ (SqT K H p ys ∧ Q (.ref p) H))) → r xs H Q) (ha : Ev M ta σ Z H s (li τ xs) s1) : Ev M (tCB r (tCons ta tNil)) σ Z H s (ty (yTup K τ) xs) s1 :=
  ev_cb (eva_cons ha eva_nil) fun _ _ _ sz ⟨v, r, e, h, e2⟩ _ q => by
    cases e2; cases e
    obtain ⟨p, vs, rfl, g, t, l⟩ := rdl sz h
    exact hr _ _ _ ⟨p, vs, rfl, .inl ⟨SqL.of g, fun d hd => q _ _ _ (Step.new sz hd) ⟨d, vs, rfl, sqT_new, t.imp fun _ _ => τ.mono (same_upd (same_none sz hd)), l⟩⟩⟩
theorem ev_tuple_ofT {r : List V → Hp → VK → Prop} (hr : ∀ xs H Q, (∃ p ys, xs = [.ref p] ∧ ((SqL K H p ys ∧ ∀ l, H l = none → Q (.ref l) (upd H l (.tup ys))) ∨ (SqT K H p ys ∧ Q (.ref p) H))) → r xs H Q) (ha : Ev M ta σ Z H s (ty (yTup K τ) xs) s1) : Ev M (tCB r (tCons ta tNil)) σ Z H s (ty (yTup K τ) xs) s1 :=
  ev_cb (eva_cons ha eva_nil) fun _ _ _ sz ⟨v, r, e, h, e2⟩ _ q => by
    cases e2; cases e
    obtain ⟨p, vs, rfl, g, t, l⟩ := h
    exact hr _ _ _ ⟨p, vs, rfl, .inr ⟨seqT_same sz g, q _ _ _ (Step.refl sz) ⟨p, vs, rfl, g, t, l⟩⟩⟩
/-- a pair, as a tuple of a pair: itself -/
theorem ev_tuple_id {r : List V → Hp → VK → Prop} (hr : ∀ xs H Q, (∃ p ys, xs = [.ref p] ∧ ((SqL K H p ys ∧ ∀ l, H l = none → Q (.ref l) (upd H l (.tup ys))) ∨ (SqT K H p ys ∧ Q (.ref p) H))) → r xs H Q) (hτ : ∀ Z v x, τ.r Z v x → ∃ p ys, v = .ref p ∧ SqT K Z p ys) (ha : Ev M ta σ Z H s (ty τ x) s1) : Ev M (tCB r (tCons ta tNil)) σ Z H s (ty τ x) s1 :=
  ev_cb (eva_cons ha eva_nil) fun _ _ _ sz ⟨v, r, e, h, e2⟩ _ q => by
    cases e2; cases e
    obtain ⟨p, vs, rfl, g⟩ := hτ _ _ _ h
    exact hr _ _ _ ⟨p, vs, rfl, .inr ⟨seqT_same sz g, q _ _ _ (Step.refl sz) h⟩⟩
theorem it_p2 : ∀ Z v x, (yP2 K τ υ).r Z v x → ∃ p ys, v = .ref p ∧ SqT K Z p ys := fun _ _ _ ⟨a, _, _, e, h, _⟩ => ⟨a, _, e, h⟩
theorem it_p3 : ∀ Z v x, (yP3 K τ υ φ).r Z v x → ∃ p ys, v = .ref p ∧ SqT K Z p ys := fun _ _ _ ⟨a, _, _, _, e, h, _⟩ => ⟨a, _, e, h⟩
theorem en_cat (ha : Ev M ta σ Z H s (li τ xs) s1) (hb : Ev M tb σ Z H s1 (li τ ys) s2) (l : xs.length + ys.length ≤ sizeLine) : EvN M (tOp rCat ta tb) σ Z H s τ (xs ++ ys) s2 :=
  en_op ha hb fun _ _ _ _ sz e1 e2 => by
    obtain ⟨p, vs, rfl, g, t, _⟩ := rdl sz e1
    obtain ⟨p2, ws, rfl, g2, t2, _⟩ := rdl sz e2
    exact ⟨vs ++ ws, t.app t2, by rw [List.length_append]; exact l, fun Q q => ⟨p, p2, vs, ws, rfl, rfl, g, g2, by rw [t.len, t2.len]; exact l, q⟩⟩
end
def cutA {α : Type} (xs : List α) (lo hi : Option Int) : List α := (xs.drop (HT.sIx xs.length 0 lo)).take (HT.sIx xs.length xs.length hi - HT.sIx xs.length 0 lo)
theorem All.cut {α : Type} {R : V → α → Prop} {vs : List V} {xs : List α} (h : All R vs xs) (lo hi : Option Int) : All R (cutV vs lo hi) (cutA xs lo hi) := by
  unfold cutV cutA
  rw [h.len]
  exact (h.drop _).take _
theorem cutA_len {α : Type} (xs : List α) (lo hi : Option Int) : (cutA xs lo hi).length ≤ xs.length := by
  unfold cutA
  rw [List.length_take, List.length_drop]
  omega
def EvO (M : Mu μ) (t : TO) (σ : L2.St) (Z H : Hp) (s : μ) (i : Option Int) (s' : μ) : Prop :=
  ∀ Z1 H1, Same Z Z1 → SameX M.fp H H1 → Same Z1 H1 → M.m s Z1 H1 → ∀ Q : Option Int → Hp → Prop, (∀ Z2 H2, Step M.fp Z1 H1 Z2 H2 → M.m s' Z2 H2 → Q i H2) → t σ H1 Q
theorem eo_none : EvO M tNoPart σ Z H s none s := fun Z1 H1 _ _ c d Q q => q Z1 H1 (Step.refl c) d
theorem eo_some {i : Int} (h : Ev M te σ Z H s (ty yInt i) s1) : EvO M (tPart te) σ Z H s (some i) s1 := fun Z1 H1 a b c d Q q => h Z1 H1 a b c d _ fun v Z2 H2 e m rv => ⟨i, rv, q Z2 H2 e m⟩
theorem ev_slice {r : V → Option Int → Option Int → Hp → VK → Prop} {tl th : TO} {lo hi : Option Int} {R R' : Rr M.fp} (ha : Ev M ta σ Z H s R s1) (hl : EvO M tl σ Z H s1 lo s2) (hh : EvO M th σ Z H s2 hi s3)
    (h : ∀ Z H v, Same Z H → R.r Z H v → ∀ Q : VK, (∀ u Z2 H2, Step [] Z H Z2 H2 → R'.r Z2 H2 u → Q u H2) → r v lo hi H Q) : Ev M (tSl r ta tl th) σ Z H s R' s3 :=
  fun Z1 H1 a b c d Q q => ha Z1 H1 a b c d _ fun v Z2 H2 e m rv => hl Z2 H2 (a.trans e.z) (b.trans e.h) e.s m _ fun Z3 H3 e2 m2 => hh Z3 H3 ((a.trans e.z).trans e2.z) ((b.trans e.h).trans e2.h) e2.s m2 _ fun Z4 H4 e3 m3 =>
    h Z4 H4 v e3.s (R.st e3 (R.st e2 rv)) _ fun u Z5 H5 e4 ru => q u Z5 H5 (((e.trans e2).trans e3).trans e4.pure) (M.pure e4 m3) ru
theorem en_slL {α : Type} {τ : Ty α} {xs : List α} {tl th : TO} {lo hi : Option Int} (ha : Ev M ta σ Z H s (li τ xs) s1) (hl : EvO M tl σ Z H s1 lo s2) (hh : EvO M th σ Z H s2 hi s3) : EvN M (tSl (rSlL K) ta tl th) σ Z H s τ (cutA xs lo hi) s3 :=
  fun Z1 H1 a b c d Q q => ha Z1 H1 a b c d _ fun v Z2 H2 e m rv => hl Z2 H2 (a.trans e.z) (b.trans e.h) e.s m _ fun Z3 H3 e2 m2 => hh Z3 H3 ((a.trans e.z).trans e2.z) ((b.trans e.h).trans e2.h) e2.s m2 _ fun Z4 H4 e3 m3 => by
    obtain ⟨p, vs, rfl, g, t, l⟩ := rdl e3.s ((li τ xs).st e3 ((li τ xs).st e2 rv))
    refine ⟨p, vs, rfl, SqL.of g, fun d hd => ?_⟩
    have e4 := Step.own (o := .lst (cutV vs lo hi)) e3.s hd
    exact q d _ Z4 _ (((e.trans e2).trans e3).trans e4.pure) (M.pure e4 m3) (same_x ((e.trans e2).trans e3) hd) (same_none e3.s hd) upd_same (t.cut lo hi) (Nat.le_trans (cutA_len _ _ _) l)
/-- a tuple's slice: the whole is the tuple itself -/
def rSlW (K : PySem.W.Frag) : V → Option Int → Option Int → Hp → VK → Prop := fun x lo hi H Q => ∃ a xs, x = .ref a ∧ SqT K H a xs ∧
  ((HT.sIx xs.length 0 lo = 0 ∧ HT.sIx xs.length xs.length hi = xs.length) → Q (.ref a) H) ∧ (¬ (HT.sIx xs.length 0 lo = 0 ∧ HT.sIx xs.length xs.length hi = xs.length) → ∀ p, H p = none → Q (.ref p) (upd H p (.tup (cutV xs lo hi))))
theorem ev_slT {α : Type} {τ : Ty α} {xs : List α} {tl th : TO} {lo hi : Option Int} (ha : Ev M ta σ Z H s (ty (yTup K τ) xs) s1) (hl : EvO M tl σ Z H s1 lo s2) (hh : EvO M th σ Z H s2 hi s3) : Ev M (tSl (rSlW K) ta tl th) σ Z H s (ty (yTup K τ) (cutA xs lo hi)) s3 :=
  ev_slice ha hl hh fun _ _ _ sz ⟨p, vs, e, g, t, l⟩ _ q => by
    subst e
    refine ⟨p, vs, rfl, seqT_same sz g, fun w => q _ _ _ (Step.refl sz) ⟨p, vs, rfl, g, ?_, Nat.le_trans (cutA_len _ _ _) l⟩, fun _ d hd => q _ _ _ (Step.new sz hd) ⟨d, _, rfl, sqT_new, (t.cut lo hi).imp fun _ _ => τ.mono (same_upd (same_none sz hd)), Nat.le_trans (cutA_len _ _ _) l⟩⟩
    have c := t.cut lo hi
    have e : cutV vs lo hi = vs := by
      unfold cutV
      rw [w.1, w.2, List.drop_zero, Nat.sub_zero, List.take_length]
    rw [e] at c
    exact c
/-! ### sums and the like -/
theorem ev_sum {xs : List Int} (ha : Ev M ta σ Z H s (li yInt xs) s1) : Ev M (tCB (rSum K) (tCons ta tNil)) σ Z H s (ty yInt xs.sum) s1 :=
  ev_cb (eva_cons ha eva_nil) fun _ _ _ sz ⟨v, r, e, h, e2⟩ _ q => by
    cases e2; cases e
    obtain ⟨p, vs, rfl, g, t, _⟩ := rdl sz h
    rw [t.ints] at g
    exact ⟨p, xs, rfl, SqL.of g, q _ _ _ (Step.refl sz) rfl⟩
theorem ev_anyL {xs : List Bool} (ha : Ev M ta σ Z H s (li yBool xs) s1) : Ev M (tCB (rAny K) (tCons ta tNil)) σ Z H s (ty yBool (xs.any id)) s1 :=
  ev_cb (eva_cons ha eva_nil) fun _ _ _ sz ⟨v, r, e, h, e2⟩ _ q => by
    cases e2; cases e
    obtain ⟨p, vs, rfl, g, t, _⟩ := rdl sz h
    rw [t.bls] at g
    exact ⟨p, xs, rfl, SqL.of g, q _ _ _ (Step.refl sz) rfl⟩
theorem ev_allL {xs : List Bool} (ha : Ev M ta σ Z H s (li yBool xs) s1) : Ev M (tCB (rAll K) (tCons ta tNil)) σ Z H s (ty yBool (xs.all id)) s1 :=
  ev_cb (eva_cons ha eva_nil) fun _ _ _ sz ⟨v, r, e, h, e2⟩ _ q => by
    cases e2; cases e
    obtain ⟨p, vs, rfl, g, t, _⟩ := rdl sz h
    rw [t.bls] at g
    exact ⟨p, xs, rfl, SqL.of g, q _ _ _ (Step.refl sz) rfl⟩
def maxZ : List Int → Option Int
  | [] => none
  | x :: xs => some (xs.foldl max x)
def minZ : List Int → Option Int
  | [] => none
  | x :: xs => some (xs.foldl min x)
theorem foldl_max_of : ∀ (xs : List Int) (x m : Int), m ∈ x :: xs → (∀ y ∈ x :: xs, y ≤ m) → m = xs.foldl max x
  | [], x, m, h, _ => by simpa using h
  | y :: r, x, m, h, g => by
    refine foldl_max_of r (max x y) m ?_ (fun z hz => ?_)
    · have hx := g x (by simp)
      have hy := g y (by simp)
      rcases List.mem_cons.mp h with e | h
      · have : max x y = m := by omega
        rw [this]; exact List.mem_cons_self
      · rcases List.mem_cons.mp h with e | h
        · have : max x y = m := by omega
          rw [this]; exact List.mem_cons_self
        · exact List.mem_cons_of_mem _ h
    · rcases List.mem_cons.mp hz with e | hz
      · have hx := g x (by simp)
        have hy := g y (by simp)
        omega
      · exact g z (by simp [hz])
theorem foldl_min_of : ∀ (xs : List Int) (x m : Int), m ∈ x :: xs → (∀ y ∈ x :: xs, m ≤ y) → m = xs.foldl min x
  | [], x, m, h, _ => by simpa using h
  | y :: r, x, m, h, g => by
    refine foldl_min_of r (min x y) m ?_ (fun z hz => ?_)
    · have hx := g x (by simp)
      have hy := g y (by simp)
      rcases List.mem_cons.mp h with e | h
      · have : min x y = m := by omega
        rw [this]; exact List.mem_cons_self
      · rcases List.mem_cons.mp h with e | h
        · have : min x y = m := by omega
          rw [this]; exact List.mem_cons_self
        · exact List.mem_cons_of_mem _ h
    · rcases List.mem_cons.mp hz with e | hz
      · have hx := g x (by simp)
        have hy := g y (by simp)
        omega
      · exact g z (by simp [hz])
theorem ev_maxL {xs : List Int} {m : Int} (ha : Ev M ta σ Z H s (li yInt xs) s1) (e : maxZ xs = some m) : Ev M (tCB (rMax K) (tCons ta tNil)) σ Z H s (ty yInt m) s1 :=
  ev_cb (eva_cons ha eva_nil) fun _ _ _ sz ⟨v, r, e1, h, e2⟩ _ q => by
    cases e2; cases e1
    obtain ⟨p, vs, rfl, g, t, _⟩ := rdl sz h
    rw [t.ints] at g
    cases xs with
    | nil => cases e
    | cons x r =>
      refine ⟨p, x :: r, rfl, SqL.of g, Nat.succ_pos _, fun n hn hg => q _ _ _ (Step.refl sz) ?_⟩
      rw [foldl_max_of r x n hn hg, ← Option.some.inj (e : some (r.foldl max x) = some m)]
      rfl
theorem ev_minL {xs : List Int} {m : Int} (ha : Ev M ta σ Z H s (li yInt xs) s1) (e : minZ xs = some m) : Ev M (tCB (rMin K) (tCons ta tNil)) σ Z H s (ty yInt m) s1 :=
  ev_cb (eva_cons ha eva_nil) fun _ _ _ sz ⟨v, r, e1, h, e2⟩ _ q => by
    cases e2; cases e1
    obtain ⟨p, vs, rfl, g, t, _⟩ := rdl sz h
    rw [t.ints] at g
    cases xs with
    | nil => cases e
    | cons x r =>
      refine ⟨p, x :: r, rfl, SqL.of g, Nat.succ_pos _, fun n hn hg => q _ _ _ (Step.refl sz) ?_⟩
      rw [foldl_min_of r x n hn hg, ← Option.some.inj (e : some (r.foldl min x) = some m)]
      rfl
theorem ev_max2 {i j : Int} (ha : Ev M ta σ Z H s (ty yInt i) s1) (hb : Ev M tb σ Z H s1 (ty yInt j) s2) : Ev M (tCB (fun xs H Q => ∃ i j, xs = [.int i, .int j] ∧ Q (.int (if j > i then j else i)) H) (tCons ta (tCons tb tNil))) σ Z H s (ty yInt (max i j)) s2 :=
  ev_cb (eva_cons ha (eva_cons hb eva_nil)) fun _ _ _ sz ⟨v, r, e1, h, w, r2, e2, h2, e3⟩ _ q => by
    cases e3; cases e2; cases e1; cases h; cases h2
    refine ⟨i, j, rfl, q _ _ _ (Step.refl sz) ?_⟩
    show V.int _ = V.int _
    by_cases c : j > i
    · rw [if_pos c, Int.max_eq_right (by omega)]
    · rw [if_neg c, Int.max_eq_left (by omega)]
theorem ev_min2 {i j : Int} (ha : Ev M ta σ Z H s (ty yInt i) s1) (hb : Ev M tb σ Z H s1 (ty yInt j) s2) : Ev M (tCB (fun xs H Q => ∃ i j, xs = [.int i, .int j] ∧ Q (.int (if j < i then j else i)) H) (tCons ta (tCons tb tNil))) σ Z H s (ty yInt (min i j)) s2 :=
  ev_cb (eva_cons ha (eva_cons hb eva_nil)) fun _ _ _ sz ⟨v, r, e1, h, w, r2, e2, h2, e3⟩ _ q => by
    cases e3; cases e2; cases e1; cases h; cases h2
    refine ⟨i, j, rfl, q _ _ _ (Step.refl sz) ?_⟩
    show V.int _ = V.int _
    by_cases c : j < i
    · rw [if_pos c, Int.min_eq_right (by omega)]
    · rw [if_neg c, Int.min_eq_left (by omega)]
theorem ev_int_of {i : Int} (ha : Ev M ta σ Z H s (ty yInt i) s1) : Ev M (tCB (fun xs H Q => (∃ i, xs = [.int i] ∧ Q (.int i) H) ∨ ∃ k, xs = [.bl k] ∧ Q (.int (if k then 1 else 0)) H) (tCons ta tNil)) σ Z H s (ty yInt i) s1 :=
  ev_cb (eva_cons ha eva_nil) fun _ _ _ sz ⟨v, r, e1, h, e2⟩ _ q => by
    cases e2; cases e1; cases h
    exact .inl ⟨i, rfl, q _ _ _ (Step.refl sz) rfl⟩
/-! ### in -/
/-- flat, and its equality is the thing's -/
structure FlatI {α : Type} (τ : Ty α) (f : α → V) : Prop where
  flat : Flat τ f
  fl : ∀ x, flatV (f x) = true
  eqv : ∀ x y, eqV (f x) (f y) = true ↔ x = y
theorem fi_int : FlatI yInt V.int := ⟨flat_int, fun _ => rfl, fun x y => by show (x == y) = true ↔ _; exact beq_iff_eq⟩
theorem fi_str : FlatI yStr V.str := ⟨flat_str, fun _ => rfl, fun x y => by show (x == y) = true ↔ _; exact beq_iff_eq⟩
theorem fi_bool : FlatI yBool V.bl := ⟨flat_bool, fun _ => rfl, fun x y => by show (x == y) = true ↔ _; exact beq_iff_eq⟩
section
variable {α : Type} [DecidableEq α] {τ : Ty α} {f : α → V} {x : α} {xs : List α}
theorem inV_map (F : FlatI τ f) : inV (f x) (xs.map f) = decide (x ∈ xs) := by
  unfold inV
  rw [List.any_map]
  apply Bool.eq_iff_iff.mpr
  rw [List.any_eq_true, decide_eq_true_iff]
  constructor
  · rintro ⟨y, hy, e⟩
    rw [← (F.eqv y x).mp e]; exact hy
  · exact fun h => ⟨x, h, (F.eqv x x).mpr rfl⟩
theorem flat_map (F : FlatI τ f) : (xs.map f).all flatV = true := by
  rw [List.all_map]
  exact List.all_eq_true.mpr fun y _ => F.fl y
theorem ev_in (F : FlatI τ f) (ha : Ev M ta σ Z H s (ty τ x) s1) (hb : Ev M tb σ Z H s1 (li τ xs) s2) : Ev M (tOp (rIn K false) ta tb) σ Z H s (ty yBool (decide (x ∈ xs))) s2 :=
  ev_op ha hb fun _ _ _ _ sz e1 e2 _ q => by
    obtain ⟨p, vs, rfl, g, t, _⟩ := rdl sz e2
    have ev := t.map (F.flat.eq _); subst ev
    rw [F.flat.eq _ _ _ e1]
    exact ⟨p, _, rfl, .inl (SqL.of g), F.fl x, flat_map F, q _ _ _ (Step.refl sz) (congrArg V.bl (inV_map F))⟩
theorem ev_notin (F : FlatI τ f) (ha : Ev M ta σ Z H s (ty τ x) s1) (hb : Ev M tb σ Z H s1 (li τ xs) s2) : Ev M (tOp (rIn K true) ta tb) σ Z H s (ty yBool (!decide (x ∈ xs))) s2 :=
  ev_op ha hb fun _ _ _ _ sz e1 e2 _ q => by
    obtain ⟨p, vs, rfl, g, t, _⟩ := rdl sz e2
    have ev := t.map (F.flat.eq _); subst ev
    rw [F.flat.eq _ _ _ e1]
    exact ⟨p, _, rfl, .inl (SqL.of g), F.fl x, flat_map F, q _ _ _ (Step.refl sz) (congrArg (fun b => V.bl (!b)) (inV_map F))⟩
theorem ev_inT (F : FlatI τ f) (ha : Ev M ta σ Z H s (ty τ x) s1) (hb : Ev M tb σ Z H s1 (ty (yTup K τ) xs) s2) : Ev M (tOp (rIn K false) ta tb) σ Z H s (ty yBool (decide (x ∈ xs))) s2 :=
  ev_op ha hb fun _ _ _ _ sz e1 ⟨p, vs, e, g, t, _⟩ _ q => by
    subst e
    have ev := t.map (F.flat.eq _); subst ev
    rw [F.flat.eq _ _ _ e1]
    exact ⟨p, _, rfl, .inr (seqT_same sz g), F.fl x, flat_map F, q _ _ _ (Step.refl sz) (congrArg V.bl (inV_map F))⟩
theorem ev_notinT (F : FlatI τ f) (ha : Ev M ta σ Z H s (ty τ x) s1) (hb : Ev M tb σ Z H s1 (ty (yTup K τ) xs) s2) : Ev M (tOp (rIn K true) ta tb) σ Z H s (ty yBool (!decide (x ∈ xs))) s2 :=
  ev_op ha hb fun _ _ _ _ sz e1 ⟨p, vs, e, g, t, _⟩ _ q => by
    subst e
    have ev := t.map (F.flat.eq _); subst ev
    rw [F.flat.eq _ _ _ e1]
    exact ⟨p, _, rfl, .inr (seqT_same sz g), F.fl x, flat_map F, q _ _ _ (Step.refl sz) (congrArg (fun b => V.bl (!b)) (inV_map F))⟩
end
end
end TP

namespace TP
open PySem PySem.Spec PyProof.Rows L2
section
variable {μ : Type} {M : Mu μ} {σ : L2.St} {Z H : Hp} {s s' s1 s2 s3 : μ} {ta tb tc te : TE} {t : TA} {K : PySem.W.Frag}
/-! ### equality of data -/
structure EqD (K : PySem.W.Frag) {α : Type} (τ : Ty α) (d : α → PyData) (n : Nat) : Prop where
  dp : ∀ Z H v x, Same Z H → τ.r Z v x → Dp K H v (d x)
  lay : ∀ Z v x, τ.r Z v x → (d x).canLay0 = true
  dep : ∀ x, (d x).depth ≤ n
  eqv : ∀ x y, PyData.eqv (d x) (d y) = true ↔ x = y
theorem eqd_int : EqD K yInt PyData.int 0 := ⟨fun _ _ _ x _ h => by cases h; exact .int x, fun _ _ _ _ => rfl, fun _ => Nat.le_refl _, fun x y => by simp [PyData.eqv]⟩
theorem eqd_bool : EqD K yBool PyData.bool 0 := ⟨fun _ _ _ x _ h => by cases h; exact .bl x, fun _ _ _ _ => rfl, fun _ => Nat.le_refl _, fun x y => by simp [PyData.eqv]⟩
theorem eqd_str : EqD K yStr PyData.str 0 := ⟨fun _ _ _ x _ h => by rw [h.1]; exact .str x, fun _ _ x h => by
  have := (Bool.and_eq_true_iff.mp (show (PyData.strOk x && decide (x.length ≤ sizeLine)) = true from h.2)).1
  simpa [PyData.canLay0] using this, fun _ => Nat.le_refl _, fun x y => by simp [PyData.eqv]⟩
theorem eqd_non : EqD K yNon (fun _ => PyData.none) 0 := ⟨fun _ _ _ x _ h => by cases h; exact .non, fun _ _ _ _ => rfl, fun _ => Nat.le_refl _, fun x y => by simp [PyData.eqv]⟩
section
variable {α β γ δ : Type} {τ : Ty α} {υ : Ty β} {φ : Ty γ} {ψ : Ty δ} {d : α → PyData} {e : β → PyData} {f : γ → PyData} {g : δ → PyData} {n m k l : Nat}
theorem EqD.all (E : EqD K τ d n) {Z H : Hp} (sz : Same Z H) : ∀ {vs : List V} {xs : List α}, All (τ.r Z) vs xs → DpAll K H vs (xs.map d)
  | _, _, .nil => .nil
  | _, _, .cons h t => .cons (E.dp _ _ _ _ sz h) (E.all sz t)
theorem EqD.lays (E : EqD K τ d n) {Z : Hp} : ∀ {vs : List V} {xs : List α}, All (τ.r Z) vs xs → PyData.canLayAll0 (xs.map d) = true
  | _, _, .nil => by simp [PyData.canLayAll0]
  | _, _, .cons h t => by
    have h1 := E.lay _ _ _ h
    have h2 := E.lays t
    simp [PyData.canLayAll0, h1, h2]
theorem EqD.deps (E : EqD K τ d n) : ∀ xs : List α, PyData.depthAll (xs.map d) ≤ n
  | [] => by simp [PyData.depthAll]
  | x :: r => by
    have h1 := E.dep x
    have h2 := E.deps r
    simp only [List.map_cons, PyData.depthAll]
    omega
theorem EqD.eqvs (E : EqD K τ d n) : ∀ xs ys : List α, PyData.eqvAll (xs.map d) (ys.map d) = true ↔ xs = ys
  | [], [] => by simp [PyData.eqvAll]
  | [], _ :: _ => by simp [PyData.eqvAll]
  | _ :: _, [] => by simp [PyData.eqvAll]
  | x :: xs, y :: ys => by
    simp only [List.map_cons, PyData.eqvAll, Bool.and_eq_true, E.eqv x y, E.eqvs xs ys, List.cons.injEq]
theorem eqd_list (E : EqD K τ d n) : EqD K (yList τ) (fun xs => .list (xs.map d)) (n + 1) where
  dp := fun Z H v x sz ⟨a, vs, e, h, t, _⟩ => by subst e; exact .lst (SqL.of (sz _ _ h)) (E.all sz t)
  lay := fun Z v x ⟨a, vs, e, h, t, _⟩ => by simpa [PyData.canLay0] using E.lays t
  dep := fun x => by have := E.deps x; simp only [PyData.depth]; omega
  eqv := fun x y => by simp only [PyData.eqv]; exact E.eqvs x y
theorem eqd_tup (E : EqD K τ d n) : EqD K (yTup K τ) (fun xs => .tuple (xs.map d)) (n + 1) where
  dp := fun Z H v x sz ⟨a, vs, e, h, t, _⟩ => by subst e; exact .tup (seqT_same sz h) (E.all sz t)
  lay := fun Z v x ⟨a, vs, e, h, t, _⟩ => by simpa [PyData.canLay0] using E.lays t
  dep := fun x => by have := E.deps x; simp only [PyData.depth]; omega
  eqv := fun x y => by simp only [PyData.eqv]; exact E.eqvs x y
theorem eqd_p1 (E : EqD K τ d n) : EqD K (yP1 K τ) (fun x => .tuple [d x]) (n + 1) where
  dp := fun Z H v x sz ⟨a, v1, e, h, h1⟩ => by subst e; exact .tup (seqT_same sz h) (.cons (E.dp _ _ _ _ sz h1) .nil)
  lay := fun Z v x ⟨a, v1, e, h, h1⟩ => by simp [PyData.canLay0, PyData.canLayAll0, E.lay _ _ _ h1]
  dep := fun x => by have := E.dep x; simp only [PyData.depth, PyData.depthAll]; omega
  eqv := fun x y => by simp only [PyData.eqv, PyData.eqvAll, Bool.and_true]; exact E.eqv x y
theorem eqd_p2 (E : EqD K τ d n) (F : EqD K υ e m) : EqD K (yP2 K τ υ) (fun x => .tuple [d x.1, e x.2]) (max n m + 1) where
  dp := fun Z H v x sz ⟨a, v1, v2, e, h, h1, h2⟩ => by subst e; exact .tup (seqT_same sz h) (.cons (E.dp _ _ _ _ sz h1) (.cons (F.dp _ _ _ _ sz h2) .nil))
  lay := fun Z v x ⟨a, v1, v2, e, h, h1, h2⟩ => by simp [PyData.canLay0, PyData.canLayAll0, E.lay _ _ _ h1, F.lay _ _ _ h2]
  dep := fun x => by have := E.dep x.1; have := F.dep x.2; simp only [PyData.depth, PyData.depthAll]; omega
  eqv := fun x y => by
    simp only [PyData.eqv, PyData.eqvAll, Bool.and_true, Bool.and_eq_true, E.eqv, F.eqv]
    exact Prod.ext_iff.symm
theorem eqd_p3 (E : EqD K τ d n) (F : EqD K υ e m) (G : EqD K φ f k) : EqD K (yP3 K τ υ φ) (fun x => .tuple [d x.1, e x.2.1, f x.2.2]) (max n (max m k) + 1) where
  dp := fun Z H v x sz ⟨a, v1, v2, v3, e, h, h1, h2, h3⟩ => by subst e; exact .tup (seqT_same sz h) (.cons (E.dp _ _ _ _ sz h1) (.cons (F.dp _ _ _ _ sz h2) (.cons (G.dp _ _ _ _ sz h3) .nil)))
  lay := fun Z v x ⟨a, v1, v2, v3, e, h, h1, h2, h3⟩ => by simp [PyData.canLay0, PyData.canLayAll0, E.lay _ _ _ h1, F.lay _ _ _ h2, G.lay _ _ _ h3]
  dep := fun x => by have := E.dep x.1; have := F.dep x.2.1; have := G.dep x.2.2; simp only [PyData.depth, PyData.depthAll]; omega
  eqv := fun x y => by
    simp only [PyData.eqv, PyData.eqvAll, Bool.and_true, Bool.and_eq_true, E.eqv, F.eqv, G.eqv]
    rw [Prod.ext_iff, Prod.ext_iff]
theorem eqd_p4 (E : EqD K τ d n) (F : EqD K υ e m) (G : EqD K φ f k) (I : EqD K ψ g l) : EqD K (yP4 K τ υ φ ψ) (fun x => .tuple [d x.1, e x.2.1, f x.2.2.1, g x.2.2.2]) (max n (max m (max k l)) + 1) where
  dp := fun Z H v x sz ⟨a, v1, v2, v3, v4, e, h, h1, h2, h3, h4⟩ => by subst e; exact .tup (seqT_same sz h) (.cons (E.dp _ _ _ _ sz h1) (.cons (F.dp _ _ _ _ sz h2) (.cons (G.dp _ _ _ _ sz h3) (.cons (I.dp _ _ _ _ sz h4) .nil))))
  lay := fun Z v x ⟨a, v1, v2, v3, v4, e, h, h1, h2, h3, h4⟩ => by simp [PyData.canLay0, PyData.canLayAll0, E.lay _ _ _ h1, F.lay _ _ _ h2, G.lay _ _ _ h3, I.lay _ _ _ h4]
  dep := fun x => by have := E.dep x.1; have := F.dep x.2.1; have := G.dep x.2.2.1; have := I.dep x.2.2.2; simp only [PyData.depth, PyData.depthAll]; omega
  eqv := fun x y => by
    simp only [PyData.eqv, PyData.eqvAll, Bool.and_true, Bool.and_eq_true, E.eqv, F.eqv, G.eqv, I.eqv]
    rw [Prod.ext_iff, Prod.ext_iff, Prod.ext_iff]
def optD (d : α → PyData) : Option α → PyData
  | none => .none
  | some x => d x
theorem eqv_none : ∀ c : PyData, PyData.eqv .none c = true ↔ c = .none
  | .none => by simp [PyData.eqv]
  | .bool _ => by simp [PyData.eqv]
  | .int _ => by simp [PyData.eqv]
  | .str _ => by simp [PyData.eqv]
  | .list _ => by simp [PyData.eqv]
  | .tuple _ => by simp [PyData.eqv]
  | .dict _ => by simp [PyData.eqv]
theorem none_eqv : ∀ c : PyData, PyData.eqv c .none = true ↔ c = .none
  | .none => by simp [PyData.eqv]
  | .bool _ => by simp [PyData.eqv]
  | .int _ => by simp [PyData.eqv]
  | .str _ => by simp [PyData.eqv]
  | .list _ => by simp [PyData.eqv]
  | .tuple _ => by simp [PyData.eqv]
  | .dict _ => by simp [PyData.eqv]
theorem eqd_opt (E : EqD K τ d n) (nn : ∀ x, d x ≠ .none) : EqD K (yOpt τ) (optD d) n where
  dp := fun Z H v x sz h => match x, h with
    | none, h => by rw [show v = .non from h]; exact .non
    | some x, h => E.dp _ _ _ _ sz h.1
  lay := fun Z v x h => match x, h with
    | none, h => rfl
    | some x, h => E.lay _ _ _ h.1
  dep := fun x => match x with
    | none => Nat.zero_le _
    | some x => E.dep x
  eqv := fun x y => match x, y with
    | none, none => by simp [optD, PyData.eqv]
    | none, some y => by simp [optD, eqv_none, nn y]
    | some x, none => by simp [optD, none_eqv, nn x]
    | some x, some y => by simp [optD, E.eqv x y]
end
/-- the value is read as the data d -/
def GD {fp : List Addr} (K : PySem.W.Frag) (R : Rr fp) (d : PyData) : Prop := ∀ Z H v, Same Z H → R.r Z H v → Dp K H v d ∧ d.canLay0 = true
theorem EqD.gd {fp : List Addr} {α : Type} {τ : Ty α} {d : α → PyData} {n : Nat} (E : EqD K τ d n) (x : α) : GD K (ty (fp := fp) τ x) (d x) := fun _ _ _ sz h => ⟨E.dp _ _ _ _ sz h, E.lay _ _ _ h⟩
theorem EqD.gdl {fp : List Addr} {α : Type} {τ : Ty α} {d : α → PyData} {n : Nat} (E : EqD K τ d n) (xs : List α) : GD K (li (fp := fp) τ xs) (.list (xs.map d)) := fun _ _ _ sz h => by
  obtain ⟨p, vs, rfl, g, t, _⟩ := rdl sz h
  exact ⟨.lst (SqL.of g) (E.all sz t), by simpa [PyData.canLay0] using E.lays t⟩
theorem shaped_of {d : PyData} {n : Nat} (h : d.canLay0 = true) (l : d.depth ≤ n) (hn : n ≤ 64) : SeqAt.shaped d = true := by
  unfold SeqAt.shaped
  rw [h, Bool.true_and]
  exact decide_eq_true (by omega)
theorem ev_eqG {R R' : Rr M.fp} {c c' : PyData} {P : Prop} [Decidable P] (hc : PyData.eqv c c' = true ↔ P) (G : GD K R c) (G' : GD K R' c') (l : c.depth ≤ 64) (l' : c'.depth ≤ 64) (ha : Ev M ta σ Z H s R s1) (hb : Ev M tb σ Z H s1 R' s2) : Ev M (tOp (rEqD K) ta tb) σ Z H s (ty yBool (decide P)) s2 :=
  ev_op ha hb fun _ _ _ _ sz e1 e2 _ q => by
    obtain ⟨d1, k1⟩ := G _ _ _ sz e1
    obtain ⟨d2, k2⟩ := G' _ _ _ sz e2
    exact ⟨c, c', d1, d2, shaped_of k1 l (Nat.le_refl _), shaped_of k2 l' (Nat.le_refl _), q _ _ _ (Step.refl sz) (congrArg V.bl (Bool.eq_iff_iff.mpr (hc.trans decide_eq_true_iff.symm)))⟩
theorem ev_neG {R R' : Rr M.fp} {c c' : PyData} {P : Prop} [Decidable P] (hc : PyData.eqv c c' = true ↔ P) (G : GD K R c) (G' : GD K R' c') (l : c.depth ≤ 64) (l' : c'.depth ≤ 64) (ha : Ev M ta σ Z H s R s1) (hb : Ev M tb σ Z H s1 R' s2) : Ev M (tOp (rNeD K) ta tb) σ Z H s (ty yBool (!decide P)) s2 :=
  ev_op ha hb fun _ _ _ _ sz e1 e2 _ q => by
    obtain ⟨d1, k1⟩ := G _ _ _ sz e1
    obtain ⟨d2, k2⟩ := G' _ _ _ sz e2
    exact ⟨c, c', d1, d2, shaped_of k1 l (Nat.le_refl _), shaped_of k2 l' (Nat.le_refl _), q _ _ _ (Step.refl sz) (congrArg (fun b => V.bl (!b)) (Bool.eq_iff_iff.mpr (hc.trans decide_eq_true_iff.symm)))⟩
section
variable {α : Type} [DecidableEq α] {τ : Ty α} {d : α → PyData} {n : Nat} {x y : α} {xs ys : List α}
theorem ev_eqD (E : EqD K τ d n) (hn : n ≤ 64) (ha : Ev M ta σ Z H s (ty τ x) s1) (hb : Ev M tb σ Z H s1 (ty τ y) s2) : Ev M (tOp (rEqD K) ta tb) σ Z H s (ty yBool (decide (x = y))) s2 :=
  ev_eqG (E.eqv x y) (E.gd x) (E.gd y) (Nat.le_trans (E.dep x) hn) (Nat.le_trans (E.dep y) hn) ha hb
theorem ev_neD (E : EqD K τ d n) (hn : n ≤ 64) (ha : Ev M ta σ Z H s (ty τ x) s1) (hb : Ev M tb σ Z H s1 (ty τ y) s2) : Ev M (tOp (rNeD K) ta tb) σ Z H s (ty yBool (!decide (x = y))) s2 :=
  ev_neG (E.eqv x y) (E.gd x) (E.gd y) (Nat.le_trans (E.dep x) hn) (Nat.le_trans (E.dep y) hn) ha hb
theorem depL (E : EqD K τ d n) (hn : n + 1 ≤ 64) : (PyData.list (xs.map d)).depth ≤ 64 := by have := E.deps xs; simp only [PyData.depth]; omega
theorem ev_eqL (E : EqD K τ d n) (hn : n + 1 ≤ 64) (ha : Ev M ta σ Z H s (li τ xs) s1) (hb : Ev M tb σ Z H s1 (li τ ys) s2) : Ev M (tOp (rEqD K) ta tb) σ Z H s (ty yBool (decide (xs = ys))) s2 :=
  ev_eqG (by simp only [PyData.eqv]; exact E.eqvs xs ys) (E.gdl xs) (E.gdl ys) (depL E hn) (depL E hn) ha hb
theorem ev_neL (E : EqD K τ d n) (hn : n + 1 ≤ 64) (ha : Ev M ta σ Z H s (li τ xs) s1) (hb : Ev M tb σ Z H s1 (li τ ys) s2) : Ev M (tOp (rNeD K) ta tb) σ Z H s (ty yBool (!decide (xs = ys))) s2 :=
  ev_neG (by simp only [PyData.eqv]; exact E.eqvs xs ys) (E.gdl xs) (E.gdl ys) (depL E hn) (depL E hn) ha hb
end
theorem en_cast {α : Type} {τ : Ty α} {xs ys : List α} (h : EvN M te σ Z H s τ xs s1) (e : xs = ys) : EvN M te σ Z H s τ ys s1 := e ▸ h
theorem ev_chain {i j k : Int} {p r : Int → Int → Bool} (ha : Ev M ta σ Z H s (ty yInt i) s1) (hb : Ev M tb σ Z H s1 (ty yInt j) s1) (hc : Ev M tc σ Z H s1 (ty yInt k) s1) : Ev M (tChain (rI0 fun i j => .bl (p i j)) (rI0 fun i j => .bl (r i j)) ta tb tc) σ Z H s (ty yBool (p i j && r j k)) s1 :=
  fun Z1 H1 a b c d Q q => ha Z1 H1 a b c d _ fun v Z2 H2 e m rv => hb Z2 H2 (a.trans e.z) (b.trans e.h) e.s m _ fun w Z3 H3 e2 m2 rw => ⟨i, j, rv, rw, p i j, rfl, by
    have e3 := e.trans e2
    cases hp : p i j with
    | true => rw [if_pos rfl]; exact hc Z3 H3 (a.trans e3.z) (b.trans e3.h) e3.s m2 _ fun u Z4 H4 e4 m4 ru => ⟨j, k, rw, ru, q _ Z4 H4 (e3.trans e4) m4 (by rw [hp]; rfl)⟩
    | false => rw [if_neg Bool.false_ne_true]; exact q _ Z3 H3 e3 m2 (by rw [hp]; rfl)⟩
theorem ev_chainO {i j k : Int} {b : Bool} {o : Option Bool} {p r : Int → Int → Bool} (ha : Ev M ta σ Z H s (ty yInt i) s1) (hb : Ev M tb σ Z H s1 (ty yInt j) s1) (hc : p i j = true → Ev M tc σ Z H s1 (ty yInt k) s1) : Ev M (tChain (rI0 fun i j => .bl (p i j)) (rI0 fun i j => .bl (r i j)) ta tb tc) σ Z H s (ty yBool (p i j && r j k)) s1 :=
  fun Z1 H1 a b c d Q q => ha Z1 H1 a b c d _ fun v Z2 H2 e m rv => hb Z2 H2 (a.trans e.z) (b.trans e.h) e.s m _ fun w Z3 H3 e2 m2 rw => ⟨i, j, rv, rw, p i j, rfl, by
    have e3 := e.trans e2
    cases hp : p i j with
    | true => rw [if_pos rfl]; exact hc hp Z3 H3 (a.trans e3.z) (b.trans e3.h) e3.s m2 _ fun u Z4 H4 e4 m4 ru => ⟨j, k, rw, ru, q _ Z4 H4 (e3.trans e4) m4 (by rw [hp]; rfl)⟩
    | false => rw [if_neg Bool.false_ne_true]; exact q _ Z3 H3 e3 m2 (by rw [hp]; rfl)⟩
section
variable {a b : Bool} {o o' : Option Bool} {tA tB' tt : TT}
theorem ev_andO (ha : Ev M ta σ Z H s (ty yBool a) s1) (hb : a = true → ∀ y, o = some y → Ev M tb σ Z H s1 (ty yBool y) s1) (h : (if a = true then o else some false) = some b) : Ev M (tAndV ta tb) σ Z H s (ty yBool b) s1 :=
  ev_and (o := o.map fun y => (y, s1)) ha (fun e y s' hy => by obtain ⟨z, hz, e2⟩ := Option.map_eq_some_iff.mp hy; cases e2; exact hb e _ hz) (by
    cases a with
    | true => rw [if_pos rfl] at h ⊢; rw [h]; rfl
    | false => rw [if_neg Bool.false_ne_true] at h ⊢; rw [← Option.some.inj h])
theorem ev_orO (ha : Ev M ta σ Z H s (ty yBool a) s1) (hb : a = false → ∀ y, o = some y → Ev M tb σ Z H s1 (ty yBool y) s1) (h : (if a = true then some true else o) = some b) : Ev M (tOrV ta tb) σ Z H s (ty yBool b) s1 :=
  ev_or (o := o.map fun y => (y, s1)) ha (fun e y s' hy => by obtain ⟨z, hz, e2⟩ := Option.map_eq_some_iff.mp hy; cases e2; exact hb e _ hz) (by
    cases a with
    | false => rw [if_neg Bool.false_ne_true] at h ⊢; rw [h]; rfl
    | true => rw [if_pos rfl] at h ⊢; rw [← Option.some.inj h])
theorem et_andO (ha : EvT M tA σ Z H s a s1) (hb : a = true → ∀ y, o = some y → EvT M tB' σ Z H s1 y s1) (h : (if a = true then o else some false) = some b) : EvT M (tAnd tA tB') σ Z H s b s1 :=
  et_and (o := o.map fun y => (y, s1)) ha (fun e y s' hy => by obtain ⟨z, hz, e2⟩ := Option.map_eq_some_iff.mp hy; cases e2; exact hb e _ hz) (by
    cases a with
    | true => rw [if_pos rfl] at h ⊢; rw [h]; rfl
    | false => rw [if_neg Bool.false_ne_true] at h ⊢; rw [← Option.some.inj h])
theorem et_orO (ha : EvT M tA σ Z H s a s1) (hb : a = false → ∀ y, o = some y → EvT M tB' σ Z H s1 y s1) (h : (if a = true then some true else o) = some b) : EvT M (tOr tA tB') σ Z H s b s1 :=
  et_or (o := o.map fun y => (y, s1)) ha (fun e y s' hy => by obtain ⟨z, hz, e2⟩ := Option.map_eq_some_iff.mp hy; cases e2; exact hb e _ hz) (by
    cases a with
    | false => rw [if_neg Bool.false_ne_true] at h ⊢; rw [h]; rfl
    | true => rw [if_pos rfl] at h ⊢; rw [← Option.some.inj h])
end
/-! ### fields, calls -/
/-- the attribute f of things of this kind -/
def FldOf {α β : Type} (τ : Ty α) (C : Addr) (f : Str) (υ : Ty β) (pr : α → β) : Prop := ∀ Z v x, τ.r Z v x → ∃ a dx fs w, v = .ref a ∧ Z a = some (.ins C dx fs) ∧ fs.lookup f = some w ∧ υ.r Z w (pr x)
theorem ev_fld {α β : Type} {τ : Ty α} {υ : Ty β} {C : Addr} {f : Str} {pr : α → β} {x : α} (F : FldOf τ C f υ pr) (c : Cls K C) (n : NoAttr K C f) (ha : Ev M ta σ Z H s (ty τ x) s1) : Ev M (tFld K ta f) σ Z H s (ty υ (pr x)) s1 :=
  fun Z1 H1 a b c' d Q q => ha Z1 H1 a b c' d _ fun v Z2 H2 e m rv => by
    obtain ⟨p, dx, fs, w, rfl, hp, l, rw'⟩ := F _ _ _ rv
    exact ⟨p, C, dx, fs, w, rfl, e.s _ _ hp, c, n, l, q _ _ _ e m rw'⟩
/-- things of this kind are instances of the class at C without an own attribute m -/
def ObjOf {α : Type} (τ : Ty α) (C : Addr) (m : Str) : Prop := ∀ Z v x, τ.r Z v x → ∃ a dx fs, v = .ref a ∧ Z a = some (.ins C dx fs) ∧ fs.lookup m = none
/-- what a promise gives for arguments of which Rs is true -/
def CallS (M : Mu μ) (sp : Sp) (E : XK) (Rs : Ra M.fp) (s : μ) (R : Rr M.fp) (s' : μ) : Prop :=
  ∀ Z H vs, Same Z H → M.m s Z H → Rs.r Z H vs → ∀ Q : VK, (∀ v Z2 H2, Step M.fp Z H Z2 H2 → M.m s' Z2 H2 → R.r Z2 H2 v → Q v H2) → sp vs H Q E
theorem ev_call {sp : Sp} {E : XK} {Rs : Ra M.fp} {R : Rr M.fp} (C : CallS M sp E Rs s1 R s2) (ha : EvA M t σ Z H s Rs s1) : Ev M (tCall sp [] E t) σ Z H s R s2 :=
  fun Z1 H1 a b c d Q q => ha Z1 H1 a b c d _ fun vs Z2 H2 e m rs => by
    rw [List.append_nil]
    exact C Z2 H2 vs e.s m rs Q fun v Z3 H3 e2 m2 rv => q v Z3 H3 (e.trans e2) m2 rv
theorem ev_meth {α : Type} {τ : Ty α} {x : α} {C' : Addr} {m : Str} {sp : Sp} {E : XK} {Rs : Ra M.fp} {R : Rr M.fp} (O : ObjOf τ C' m) (C : CallS M sp E (rac (ty τ x) Rs) s2 R s3) (hx : Ev M ta σ Z H s (ty τ x) s1) (ha : EvA M t σ Z H s1 Rs s2) : Ev M (tMeth C' m sp [] E ta t) σ Z H s R s3 :=
  fun Z1 H1 a b c d Q q => hx Z1 H1 a b c d _ fun v Z2 H2 e mm rv => by
    obtain ⟨p, dx, fs, rfl, hp, l⟩ := O _ _ _ rv
    refine ⟨p, dx, fs, rfl, e.s _ _ hp, l, ha Z2 H2 (a.trans e.z) (b.trans e.h) e.s mm _ fun vs Z3 H3 e2 m2 rs => ?_⟩
    rw [List.append_nil]
    exact C Z3 H3 _ e2.s m2 ⟨_, vs, rfl, τ.mono e2.z rv, rs⟩ Q fun v Z4 H4 e3 m3 rv' => q v Z4 H4 ((e.trans e2).trans e3) m3 rv'
theorem ev_meth0 {α : Type} {τ : Ty α} {x : α} {C' : Addr} {m : Str} {sp : Sp} {E : XK} {R : Rr M.fp} (O : ObjOf τ C' m) (C : CallS M sp E (rac (ty τ x) ra0) s1 R s2) (hx : Ev M ta σ Z H s (ty τ x) s1) : Ev M (tMeth C' m sp [] E ta tNil) σ Z H s R s2 := ev_meth O C hx eva_nil
theorem ev_prop {α : Type} {τ : Ty α} {x : α} {C' : Addr} {m : Str} {sp : Sp} {E : XK} {R : Rr M.fp} (O : ObjOf τ C' m) (C : CallS M sp E (rac (ty τ x) ra0) s1 R s2) (hx : Ev M ta σ Z H s (ty τ x) s1) : Ev M (tProp C' sp [] E ta) σ Z H s R s2 :=
  fun Z1 H1 a b c d Q q => hx Z1 H1 a b c d _ fun v Z2 H2 e mm rv => by
    obtain ⟨p, dx, fs, rfl, hp, l⟩ := O _ _ _ rv
    exact ⟨p, dx, fs, rfl, e.s _ _ hp, C Z2 H2 _ e.s mm ⟨_, [], rfl, rv, rfl⟩ Q fun v Z4 H4 e3 m3 rv' => q v Z4 H4 (e.trans e3) m3 rv'⟩
/-- what the __init__ of the class at C makes of a new instance: a thing of which R is true -/
def InitS (M : Mu μ) (C : Addr) (sp : Sp) (E : XK) (Rs : Ra M.fp) (s : μ) (R : Rr M.fp) (s' : μ) : Prop :=
  ∀ Z H vs x dx, Same Z H → M.m s Z H → Rs.r Z H vs → H x = some (.ins C dx []) → Z x = none → x ∉ M.fp → ∀ Q : VK, (∀ Z2 H2 o, Step (x :: M.fp) Z H Z2 H2 → M.m s' Z2 H2 → H2 x = some o → R.r (upd Z2 x o) H2 (.ref x) → Q .non H2) → sp (.ref x :: vs) H Q E
theorem Step.dict {Z H : Hp} {x dx C : Addr} (sz : Same Z H) (hx : H x = none) (hd : H dx = none) (ne : dx ≠ x) : Step [] Z H Z (upd (upd H dx (.own x)) x (.ins C dx [])) :=
  (Step.own sz hd).trans (Step.own (Step.own sz hd).s (by rw [upd_ne ne.symm]; exact hx))
theorem Step.freeze {S : List Addr} {Z H Z1 H1 : Hp} {x : Addr} {o : HO} (g : Step (x :: S) Z H Z1 H1) (hx : H x = none) (h1 : H1 x = some o) (hz : Z1 x = none) : Step S Z H (upd Z1 x o) H1 := by
  have g' : Step S Z H Z1 H1 := g.weak fun a h => by
    rcases List.mem_cons.mp h with e | h
    · exact .inr (e ▸ hx)
    · exact .inl h
  refine ⟨g'.z.trans (same_upd hz), fun a u e => ?_, g'.h, fun a h z => ?_, g'.al⟩
  · by_cases q : a = x
    · subst q; rw [upd_same] at e; rw [← Option.some.inj e]; exact h1
    · rw [upd_ne q] at e; exact g'.s a u e
  · rw [upd_ne (ne_of_some h hx)]; exact g'.n a h z
theorem ev_make {C : Addr} {sp : Sp} {E : XK} {Rs : Ra M.fp} {R : Rr M.fp} (I : InitS M C sp E Rs s1 R s2) (ha : EvA M t σ Z H s Rs s1) : Ev M (tMake C sp [] E t) σ Z H s R s2 :=
  fun Z1 H1 a b c d Q q => ha Z1 H1 a b c d _ fun vs Z2 H2 e m rs x dx hx hd ne => by
    rw [List.append_nil]
    have st := Step.dict (C := C) e.s hx hd ne
    have nf : x ∉ M.fp := fun h => (M.al m x h).1 hx
    refine I Z2 _ vs x dx st.s (M.pure st m) (Rs.st st.pure rs) upd_same (same_none e.s hx) nf _ fun Z3 H3 o e2 m2 ho rv => ⟨rfl, ?_⟩
    have hz3 : Z3 x = none := e2.n x (by rw [upd_same]; exact fun z => nomatch z) (same_none e.s hx)
    have e3 : Step M.fp Z2 H2 (upd Z3 x o) H3 := ((st.pure (S := x :: M.fp)).trans e2).freeze hx ho hz3
    refine q _ _ _ (e.trans e3) (M.loc (same_upd hz3) (fun _ _ _ e => e) (fun a ha _ z => ?_) m2) rv
    rw [upd_ne (fun q => nf (by rw [← q]; exact ha))]
    exact z
theorem ev_makeK {C : Addr} {n k : Nat} {sp : Sp} {E : XK} {Rs Rk Rs' : Ra M.fp} {R : Rr M.fp} {gV : List V → List V → List V} {tk : TA} (I : InitS M C sp E Rs' s2 R s3) (ha : EvA M t σ Z H s Rs s1) (hk : EvA M tk σ Z H s1 Rk s2)
    (hg : ∀ Z H vs zs x, Rs.r Z H vs → Rk.r Z H zs → vs.length = n ∧ zs.length = k ∧ ∃ ws, gV (.ref x :: vs) zs = .ref x :: ws ∧ Rs'.r Z H ws) : Ev M (tMakeK C n k sp gV E t tk) σ Z H s R s3 :=
  fun Z1 H1 a b c d Q q => ha Z1 H1 a b c d _ fun vs Z2 H2 e m rs => hk Z2 H2 (a.trans e.z) (b.trans e.h) e.s m _ fun zs Z3 H3 e1 m1 rk => by
    have rs3 := Rs.st e1 rs
    obtain ⟨l1, l2, _⟩ := hg Z3 H3 vs zs 0 rs3 rk
    refine ⟨l1, l2, fun x dx hx hd ne => ?_⟩
    obtain ⟨_, _, ws, eg, rw'⟩ := hg Z3 H3 vs zs x rs3 rk
    rw [eg]
    have st := Step.dict (C := C) e1.s hx hd ne
    have nf : x ∉ M.fp := fun h => (M.al m1 x h).1 hx
    refine I Z3 _ ws x dx st.s (M.pure st m1) (Rs'.st st.pure rw') upd_same (same_none e1.s hx) nf _ fun Z4 H4 o e2 m2 ho rv => ⟨rfl, ?_⟩
    have hz3 : Z4 x = none := e2.n x (by rw [upd_same]; exact fun z => nomatch z) (same_none e1.s hx)
    have e3 : Step M.fp Z3 H3 (upd Z4 x o) H4 := ((st.pure (S := x :: M.fp)).trans e2).freeze hx ho hz3
    refine q _ _ _ ((e.trans e1).trans e3) (M.loc (same_upd hz3) (fun _ _ _ e => e) (fun a ha _ z => ?_) m2) rv
    rw [upd_ne (fun q => nf (by rw [← q]; exact ha))]
    exact z
/-! ### what is walked -/
/-- the things xs, of the kind τ, one after the other; what stands at F may change meanwhile -/
def WalkT {α : Type} (X : Hp → Hp → Prop) (J : It) (Z H : Hp) (τ : Ty α) (xs : List α) : Prop := xs.length ≤ sizeLine ∧ ∃ G Y, Walk J xs.length G Y ∧ (∀ Z' H', Same Z Z' → Same Z' H' → X H H' → G H') ∧
  ∀ i Z' H' v H'', i < xs.length → Same Z Z' → Same Z' H' → G H' → Y i H' v H'' → ∃ Z'' x, xs[i]? = some x ∧ Step [] Z' H' Z'' H'' ∧ τ.r Z'' v x
def EvI {α : Type} (M : Mu μ) (X : Hp → Hp → Prop) (wi : TI) (σ : L2.St) (Z H : Hp) (s : μ) (τ : Ty α) (xs : List α) (s' : μ) : Prop :=
  ∀ Z1 H1, Same Z Z1 → SameX M.fp H H1 → Same Z1 H1 → M.m s Z1 H1 → ∀ R : It → Hp → Prop, (∀ J Z2 H2, Step M.fp Z1 H1 Z2 H2 → M.m s' Z2 H2 → WalkT X J Z2 H2 τ xs → R J H2) → wi σ H1 R
section
variable {α β : Type} {τ : Ty α} {υ : Ty β} {xs : List α} {X : Hp → Hp → Prop}
theorem walk_at {J : It} {vs : List V} {G : Hp → Prop} (w : Walk J vs.length G (YAt vs)) {Z H : Hp} (hG : ∀ Z' H', Same Z Z' → Same Z' H' → X H H' → G H') (t : All (τ.r Z) vs xs) (l : xs.length ≤ sizeLine) : WalkT X J Z H τ xs := by
  refine ⟨l, G, YAt vs, by rw [← t.len]; exact w, hG, fun i Z' H' v H'' hi z sz _ y => ?_⟩
  obtain ⟨e, y⟩ := y
  subst e
  obtain ⟨x, ex, rx⟩ := t.get y
  exact ⟨Z', x, ex, Step.refl sz, τ.mono z rx⟩
theorem ei_list (ha : Ev M ta σ Z H s (ty (yList τ) xs) s1) : EvI M X (iList K ta) σ Z H s τ xs s1 :=
  fun Z1 H1 a b c d R q => ha Z1 H1 a b c d _ fun v Z2 H2 e m ⟨p, vs, ev, h, t, l⟩ => by
    subst ev
    exact ⟨p, rfl, ⟨vs, SqL.of (e.s _ _ h)⟩, q _ Z2 H2 e m (walk_at walk_list (fun Z' H' z sz _ => SqL.of (sz _ _ (z _ _ h))) t l)⟩
theorem ei_own (ha : Ev M ta σ Z H s (li τ xs) s1) : EvI M (SameX M.fp) (iList K ta) σ Z H s τ xs s1 :=
  fun Z1 H1 a b c d R q => ha Z1 H1 a b c d _ fun v Z2 H2 e m ⟨p, vs, ev, h, t, l⟩ => by
    subst ev
    refine ⟨p, rfl, ⟨vs, SqL.of (h.get e.s)⟩, q _ Z2 H2 e m (walk_at walk_list (fun Z' H' z sz x => ?_) t l)⟩
    rcases h with h | h
    · exact SqL.of (sz _ _ (z _ _ h))
    · exact SqL.of (x _ _ h.2 h.1)
theorem ei_tup (ha : Ev M ta σ Z H s (ty (yTup K τ) xs) s1) : EvI M X (iTup K ta) σ Z H s τ xs s1 :=
  fun Z1 H1 a b c d R q => ha Z1 H1 a b c d _ fun v Z2 H2 e m ⟨p, vs, ev, h, t, l⟩ => by
    subst ev
    exact ⟨p, rfl, ⟨vs, seqT_same e.s h⟩, q _ Z2 H2 e m (walk_at walk_tup (fun Z' H' z sz _ => seqT_same sz (seqT_same z h)) t l)⟩
def rangeZ (lo hi : Int) : List Int := (List.range (hi - lo).toNat).map fun (i : Nat) => lo + (i : Int)
def RangeOk (lo hi : Int) : Prop := (-(2 ^ 62) ≤ lo ∧ lo < 2 ^ 62) ∧ (-(2 ^ 62) ≤ hi ∧ hi < 2 ^ 62) ∧ hi - lo ≤ 16777216
instance {lo hi : Int} : Decidable (RangeOk lo hi) := inferInstanceAs (Decidable (_ ∧ _ ∧ _))
theorem rangeZ_len (lo hi : Int) : (rangeZ lo hi).length = (hi - lo).toNat := by unfold rangeZ; rw [List.length_map, List.length_range]
theorem walk_rng {lo hi : Int} {Z H : Hp} (l : hi - lo ≤ 16777216) : WalkT X (Itr lo (hi - lo).toNat) Z H yInt (rangeZ lo hi) := by
  refine ⟨by rw [rangeZ_len]; show (hi - lo).toNat ≤ 2 ^ 24; omega, fun _ => True, YFn fun i => .int (lo + i), by rw [rangeZ_len]; exact walk_range, fun _ _ _ _ _ => trivial, fun i Z' H' v H'' hi z sz _ y => ?_⟩
  obtain ⟨e, y⟩ := y
  subst e
  rw [rangeZ_len] at hi
  refine ⟨Z', lo + (i : Int), ?_, Step.refl sz, y⟩
  unfold rangeZ
  rw [List.getElem?_map, List.getElem?_range hi]
  rfl
theorem ei_rng1 {i : Int} (ha : Ev M ta σ Z H s (ty yInt i) s1) (h1 : RangeOk 0 i) : EvI M X (iRng1 (tCons ta tNil)) σ Z H s yInt (rangeZ 0 i) s1 :=
  fun Z1 H1 a b c d R q => eva_cons ha eva_nil Z1 H1 a b c d _ fun vs Z2 H2 e m ⟨v, r, e1, h, e2⟩ => by
    cases e2; cases h
    refine ⟨i, e1, h1.2.1.1, h1.2.1.2, q _ Z2 H2 e m ?_⟩
    have := walk_rng (X := X) (lo := 0) (hi := i) (Z := Z2) (H := H2) h1.2.2
    rw [Int.sub_zero] at this
    exact this
theorem ei_rng2 {i j : Int} (ha : Ev M ta σ Z H s (ty yInt i) s1) (hb : Ev M tb σ Z H s1 (ty yInt j) s2) (h1 : RangeOk i j) : EvI M X (iRng2 (tCons ta (tCons tb tNil))) σ Z H s yInt (rangeZ i j) s2 :=
  fun Z1 H1 a b c d R q => eva_cons ha (eva_cons hb eva_nil) Z1 H1 a b c d _ fun vs Z2 H2 e m ⟨v, r, e1, h, w, r2, e3, h3, e2⟩ => by
    cases e2; cases h; cases h3; cases e3
    exact ⟨i, j, e1, ⟨h1.1.1, h1.1.2, h1.2.1.1, h1.2.1.2⟩, q _ Z2 H2 e m (walk_rng h1.2.2)⟩
/-- pairs that are laid turn by turn -/
theorem walk_pairs {ys : List β} {vs ws : List V} {J : It} {G : Hp → Prop} (n : Nat) (hn : n = min vs.length ws.length) (w : Walk J n G (YPair (fun i => vs[i]?) (fun i => ws[i]?))) {Z H : Hp} (hG : ∀ Z' H', Same Z Z' → Same Z' H' → X H H' → G H') (t : All (τ.r Z) vs xs) (u : All (υ.r Z) ws ys) (l : vs.length ≤ sizeLine) : WalkT X J Z H (yP2 K τ υ) (xs.zip ys) := by
  have ln : (xs.zip ys).length = n := by rw [List.length_zip, ← t.len, ← u.len, hn]
  refine ⟨by rw [ln, hn]; omega, G, _, by rw [ln]; exact w, hG, fun i Z' H' v H'' hi z sz _ y => ?_⟩
  obtain ⟨T, v1, v2, rfl, nT, rfl, g1, g2⟩ := y
  obtain ⟨x1, ex1, rx1⟩ := t.get g1
  obtain ⟨x2, ex2, rx2⟩ := u.get g2
  have st := Step.new (o := .tup [v1, v2]) sz nT
  exact ⟨upd Z' T (.tup [v1, v2]), (x1, x2), by rw [List.getElem?_zip_eq_some]; exact ⟨ex1, ex2⟩, st, T, v1, v2, rfl, sqT_new, τ.mono (z.trans st.z) rx1, υ.mono (z.trans st.z) rx2⟩
def enumZ {α : Type} (xs : List α) : List (Int × α) := (rangeZ 0 (xs.length : Nat)).zip xs
theorem enum_rng (n : Nat) (i : Nat) (h : i < n) : ((rangeZ 0 (n : Nat)).map V.int)[i]? = some (.int (i : Nat)) := by
  unfold rangeZ
  rw [List.getElem?_map, List.getElem?_map, List.getElem?_range (by omega)]
  show some (V.int (0 + (i : Int))) = _
  rw [Int.zero_add]
theorem ei_enum (ha : Ev M ta σ Z H s (ty (yList τ) xs) s1) : EvI M X (iEnum K (tCons ta tNil)) σ Z H s (yP2 K yInt τ) (enumZ xs) s1 :=
  fun Z1 H1 a b c d R q => eva_cons ha eva_nil Z1 H1 a b c d _ fun us Z2 H2 e m ⟨v, r, e1, ⟨p, vs, ev, h, t, l⟩, e2⟩ => by
    cases e2; cases ev; cases e1
    refine ⟨p, vs, rfl, SqL.of (e.s _ _ h), q _ Z2 H2 e m ?_⟩
    have hl : ((rangeZ 0 (xs.length : Nat)).map V.int).length = vs.length := by
      rw [List.length_map, rangeZ_len, t.len]; omega
    refine walk_pairs (vs := (rangeZ 0 (xs.length : Nat)).map V.int) (ws := vs) vs.length (by rw [hl]; omega) (walk_enum.mono (fun _ g => g) fun i H v H' hi _ ⟨T, x, y, h1, h2, h3, h4, h5⟩ => ⟨T, x, y, h1, h2, h3, ?_, h5⟩) (fun Z' H' z sz _ => SqL.of (sz _ _ (z _ _ h))) (All.ofInts _) t (by rw [hl, t.len]; exact l)
    show ((rangeZ 0 (xs.length : Nat)).map V.int)[i]? = some x
    rw [enum_rng _ _ (by rw [← t.len]; exact hi)]
    exact h4
theorem ei_str {x : Str} (ha : Ev M ta σ Z H s (ty yStr x) s1) : EvI M X (iStr ta) σ Z H s yStr (x.cps.toList.map fun c => (⟨#[c]⟩ : Str)) s1 :=
  fun Z1 H1 a b c d R q => ha Z1 H1 a b c d _ fun v Z2 H2 e m rv => by
    refine ⟨x, rv.1, q _ Z2 H2 e m ?_⟩
    have ln : (x.cps.toList.map fun c => (⟨#[c]⟩ : Str)).length = x.cps.size := by rw [List.length_map, Array.length_toList]
    have lz : x.cps.size ≤ sizeLine := of_decide_eq_true (Bool.and_eq_true_iff.mp (show (PyData.strOk x && decide (x.length ≤ sizeLine)) = true from rv.2)).2
    refine ⟨by rw [ln]; exact lz, fun _ => True, _, by rw [ln]; exact walk_str, fun _ _ _ _ _ => trivial, fun i Z' H' v H'' hi z sz _ y => ?_⟩
    obtain ⟨e, c, hc, rfl⟩ := y
    subst e
    have hc' : x.cps.toList[i]? = some c := by rw [Array.getElem?_toList]; exact hc
    refine ⟨Z', ⟨#[c]⟩, by rw [List.getElem?_map, hc']; rfl, Step.refl sz, rfl, ?_⟩
    have ok := rv.2
    unfold okS PyData.strOk at ok ⊢
    rw [Bool.and_eq_true] at ok ⊢
    refine ⟨?_, decide_eq_true (by show (#[c] : Array Nat).size ≤ sizeLine; exact (by decide : 1 ≤ sizeLine))⟩
    have h2 := Array.all_eq_true_iff_forall_mem.mp ok.1 c (Array.mem_of_getElem? hc)
    simpa using h2
end
/-! ### list comprehensions -/
/-- the target stores the value: from the slots σ to σ2 -/
def Tgt (g : TG) (v : V) (σ σ2 : L2.St) (Z : Hp) : Prop := ∀ H, Same Z H → ∀ Q : L2.St → Hp → Prop, Q σ2 H → g v σ H Q
theorem tgt_name {i : Nat} {v : V} {σ : L2.St} {Z : Hp} : Tgt (gName i) v σ (σ.set i (some v)) Z := fun _ _ _ q => q
theorem tgt_p2 {α β : Type} {τ : Ty α} {υ : Ty β} {g1 g2 : TG} {v : V} {x : α × β} {Z : Hp} (h : (yP2 K τ υ).r Z v x) : ∃ v1 v2, τ.r Z v1 x.1 ∧ υ.r Z v2 x.2 ∧ ∀ {σ σ1 σ2 : L2.St}, Tgt g1 v1 σ σ1 Z → Tgt g2 v2 σ1 σ2 Z → Tgt (gTup K 2 (gCons g1 (gCons g2 gNil))) v σ σ2 Z := by
  obtain ⟨a, v1, v2, rfl, t, h1, h2⟩ := h
  exact ⟨v1, v2, h1, h2, fun {σ σ1 σ2} t1 t2 H sz Q q => ⟨a, _, rfl, seqT_same sz t, rfl, v1, _, rfl, t1 H sz _ ⟨v2, _, rfl, t2 H sz _ ⟨rfl, q⟩⟩⟩⟩
theorem tgt_p3 {α β γ : Type} {τ : Ty α} {υ : Ty β} {φ : Ty γ} {g1 g2 g3 : TG} {v : V} {x : α × β × γ} {Z : Hp} (h : (yP3 K τ υ φ).r Z v x) : ∃ v1 v2 v3, τ.r Z v1 x.1 ∧ υ.r Z v2 x.2.1 ∧ φ.r Z v3 x.2.2 ∧ ∀ {σ σ1 σ2 σ3 : L2.St}, Tgt g1 v1 σ σ1 Z → Tgt g2 v2 σ1 σ2 Z → Tgt g3 v3 σ2 σ3 Z → Tgt (gTup K 3 (gCons g1 (gCons g2 (gCons g3 gNil)))) v σ σ3 Z := by
  obtain ⟨a, v1, v2, v3, rfl, t, h1, h2, h3⟩ := h
  exact ⟨v1, v2, v3, h1, h2, h3, fun {σ σ1 σ2 σ3} t1 t2 t3 H sz Q q => ⟨a, _, rfl, seqT_same sz t, rfl, v1, _, rfl, t1 H sz _ ⟨v2, _, rfl, t2 H sz _ ⟨v3, _, rfl, t3 H sz _ ⟨rfl, q⟩⟩⟩⟩⟩
section
variable {α β : Type} {τ : Ty α} {υ : Ty β} {xs : List α} {ys : List β}
/-- the comprehension as a plain walk: none leaves an item out -/
def lcM (g : α → μ → Option (Option β × μ)) : List α → μ → Option (List β × μ)
  | [], s => some ([], s)
  | x :: xs, s => (g x s).bind fun p => (lcM g xs p.2).bind fun q => some (match p.1 with | none => q.1 | some y => y :: q.1, q.2)
theorem en_lc {wi : TI} {g : TG} {tt : TT} {vs : List Nat} (P : μ → Prop) (h : α → μ → Option (Option β × μ)) (hP : P s1) (hi : EvI M (SameX M.fp) wi σ Z H s τ xs s1)
    (hb : ∀ x v Z' H' si p, Same Z Z' → SameX M.fp H H' → τ.r Z' v x → P si → h x si = some p → P p.2 ∧ ∃ σ2, Tgt g v (wipe σ vs) σ2 Z' ∧ wipe σ2 vs = wipe σ vs ∧ ∃ b s', EvT M tt σ2 Z' H' si b s' ∧ (b = true → ∃ y, p.1 = some y ∧ Ev M te σ2 Z' H' s' (ty υ y) p.2) ∧ (b = false → p = (none, s')))
    (hF : lcM h xs s1 = some (ys, s2)) : EvN M (tLc wi g tt te vs) σ Z H s υ ys s2 := by
  intro Z1 H1 a b c d Q q
  refine hi Z1 H1 a b c d _ fun J Z2 H2 e m ⟨hx, G, Y, wk, hG, hY⟩ D hD => ?_
  have zD : Z2 D = none := same_none e.s hD
  have st0 := Step.own (o := .lst []) e.s hD
  refine lc_it wk (fun i H' => ∃ Z' si zs ws r, Step M.fp Z2 H2 Z' H' ∧ Z' D = none ∧ H' D = some (.lst ws) ∧ All (υ.r Z') ws zs ∧ ws.length ≤ i ∧ M.m si Z' H' ∧ P si ∧ lcM h (xs.drop i) si = some (r, s2) ∧ ys = zs ++ r)
    ⟨Z2, s1, [], [], ys, st0.pure, zD, upd_same, .nil, Nat.le_refl _, M.pure st0 m, hP, by rw [List.drop_zero]; exact hF, rfl⟩ ?_ ?_ ?_
  · rintro i H' _ ⟨Z', si, zs, ws, r, st, _⟩
    exact hG Z' H' st.z st.s st.h
  · rintro i v H3 H4 hin ⟨Z', si, zs, ws, r, st, zD', hD', al, lw, m', pi, hF', ey⟩ y
    obtain ⟨Z4, x, ex, st4, rx⟩ := hY i Z' H3 v H4 hin st.z st.s (hG Z' H3 st.z st.s st.h) y
    have hd : xs.drop i = x :: xs.drop (i + 1) := by
      rw [List.drop_eq_getElem_cons hin]
      rw [List.getElem?_eq_getElem hin] at ex
      rw [Option.some.inj ex]
    rw [hd] at hF'
    obtain ⟨p, hp, hF2⟩ := Option.bind_eq_some_iff.mp hF'
    obtain ⟨⟨r2, s2'⟩, hr, hF3⟩ := Option.bind_eq_some_iff.mp hF2
    have e4 := st.trans st4.pure
    have eZ : Same Z Z4 := (a.trans e.z).trans e4.z
    have eH : SameX M.fp H H4 := (b.trans e.h).trans e4.h
    obtain ⟨pp, σ2, tg, wp, bb, s', et, ht, hf⟩ := hb x v Z4 H4 si p eZ eH rx pi hp
    have es2 : s2' = s2 := by injection hF3 with q; exact congrArg Prod.snd q
    subst es2
    refine tg H4 e4.s _ ⟨wp, et Z4 H4 (Same.refl _) SameX.refl e4.s (M.pure st4 m') _ fun Z5 H5 e5 m5 => ?_⟩
    have nD : D ∉ M.fp := fun h => absurd hD (M.al m D h).1
    have hD4 : H4 D = some (.lst ws) := st4.h _ _ List.not_mem_nil hD'
    have hD5 : H5 D = some (.lst ws) := e5.h _ _ nD hD4
    have zD5 : Z5 D = none := e5.n D (some_ne hD4) (st4.n D (some_ne hD') zD')
    have e15 := e4.trans e5
    cases bb with
    | false =>
      rw [if_neg Bool.false_ne_true]
      have ep := hf rfl
      subst ep
      refine ⟨Z5, s', zs, ws, r2, e15, zD5, hD5, al.imp fun _ _ => υ.mono (st4.z.trans e5.z), by omega, m5, pp, hr, ?_⟩
      injection hF3 with q3
      have q4 : r2 = r := congrArg Prod.fst q3
      rw [ey, q4]
    | true =>
      rw [if_pos rfl]
      obtain ⟨y, ep, ev⟩ := ht rfl
      refine ev Z5 H5 e5.z e5.h e5.s m5 _ fun w Z6 H6 e6 m6 rw' => ?_
      have hD6 : H6 D = some (.lst ws) := e6.h _ _ nD hD5
      have zD6 : Z6 D = none := e6.n D (some_ne hD5) zD5
      have s7 := Step.set (o := .lst (ws ++ [w])) e6.s zD6
      refine ⟨ws, hD6, by omega, Z6, p.2, zs ++ [y], ws ++ [w], r2, (e15.trans e6).mine s7 (fun x hx => by rw [List.mem_singleton] at hx; subst hx; exact .inr hD), zD6, upd_same, (al.imp fun _ _ => υ.mono ((st4.z.trans e5.z).trans e6.z)).snoc rw', by rw [List.length_append]; show ws.length + 1 ≤ _; omega, ?_, pp, hr, ?_⟩
      · refine M.loc (Same.refl _) (fun a' ha' o ho => ?_) (fun _ _ _ z => z) m6
        rw [upd_ne (fun q' => nD (by rw [← q']; exact ha'))]
        exact ho
      · injection hF3 with q3
        rw [ep] at q3
        have q4 : y :: r2 = r := congrArg Prod.fst q3
        rw [ey, ← q4, List.append_assoc]
        rfl
  · rintro H' ⟨Z', si, zs, ws, r, st, zD', hD', al, lw, m', _, hF', ey⟩
    rw [List.drop_length] at hF'
    injection hF' with q'
    have e1 : r = [] := (congrArg Prod.fst q').symm
    have e2 : si = s2 := congrArg Prod.snd q'
    subst e1 e2
    rw [List.append_nil] at ey
    subst ey
    exact q D ws Z' H' (e.trans st) m' (same_x e hD) zD' hD' al (by rw [← al.len]; omega)
def mapO (f : α → Option β) : List α → Option (List β)
  | [] => some []
  | x :: r => (f x).bind fun y => (mapO f r).bind fun ys => some (y :: ys)
def fmO (f : α → Option (Option β)) : List α → Option (List β)
  | [] => some []
  | x :: r => (f x).bind fun y => (fmO f r).bind fun ys => some (match y with | none => ys | some z => z :: ys)
def mapS (f : α → μ → Option (β × μ)) : List α → μ → Option (List β × μ)
  | [], s => some ([], s)
  | x :: r, s => (f x s).bind fun p => (mapS f r p.2).bind fun q => some (p.1 :: q.1, q.2)
theorem lcM_fmO (f : α → Option (Option β)) (s : μ) : ∀ xs : List α, lcM (fun x s => (f x).map fun y => (y, s)) xs s = (fmO f xs).map fun ys => (ys, s)
  | [] => rfl
  | x :: r => by
    have ih := lcM_fmO f s r
    unfold lcM fmO
    cases f x with
    | none => rfl
    | some y =>
      simp only [Option.map_some, Option.bind_some, ih]
      cases fmO f r with
      | none => rfl
      | some ys => cases y <;> rfl
theorem lcM_mapS (f : α → μ → Option (β × μ)) : ∀ (xs : List α) (s : μ), lcM (fun x s => (f x s).map fun p => (some p.1, p.2)) xs s = mapS f xs s
  | [], _ => rfl
  | x :: r, s => by
    unfold lcM mapS
    cases f x s with
    | none => rfl
    | some p =>
      simp only [Option.map_some, Option.bind_some, lcM_mapS f r p.2]
theorem fmO_mapO (f : α → Option β) : ∀ xs : List α, fmO (fun x => (f x).map some) xs = mapO f xs
  | [] => rfl
  | x :: r => by
    unfold fmO mapO
    rw [fmO_mapO f r]
    cases f x <;> rfl
theorem fmO_fil (p : α → Bool) (f : α → β) : ∀ xs : List α, fmO (fun x => some (if p x = true then some (f x) else none)) xs = some ((xs.filter p).map f)
  | [] => rfl
  | x :: r => by
    unfold fmO
    rw [fmO_fil p f r]
    cases e : p x with
    | true => rw [List.filter_cons_of_pos e]; rfl
    | false => rw [List.filter_cons_of_neg (by rw [e]; exact Bool.false_ne_true)]; rfl
section
variable {wi : TI} {g : TG} {tt : TT} {vs : List Nat}
/-- stateless, with a test -/
theorem en_fmO (f : α → Option (Option β)) (hi : EvI M (SameX M.fp) wi σ Z H s τ xs s1)
    (hb : ∀ x v Z' H' p, Same Z Z' → SameX M.fp H H' → τ.r Z' v x → f x = some p → ∃ σ2, Tgt g v (wipe σ vs) σ2 Z' ∧ wipe σ2 vs = wipe σ vs ∧ ∃ b, EvT M tt σ2 Z' H' s1 b s1 ∧ (b = true → ∃ y, p = some y ∧ Ev M te σ2 Z' H' s1 (ty υ y) s1) ∧ (b = false → p = none))
    (hF : fmO f xs = some ys) : EvN M (tLc wi g tt te vs) σ Z H s υ ys s1 := by
  refine en_lc (· = s1) (fun x s => (f x).map fun y => (y, s)) rfl hi (fun x v Z' H' si p z h rv e hp => ?_) (by rw [lcM_fmO, hF]; rfl)
  subst e
  obtain ⟨q, hq, rfl⟩ := Option.map_eq_some_iff.mp hp
  obtain ⟨σ2, tg, wp, b, et, h1, h2⟩ := hb x v Z' H' q z h rv hq
  exact ⟨rfl, σ2, tg, wp, b, _, et, h1, fun e => by rw [h2 e]⟩
/-- stateless, partial -/
theorem en_mapO (f : α → Option β) (hi : EvI M (SameX M.fp) wi σ Z H s τ xs s1)
    (hb : ∀ x v Z' H' y, Same Z Z' → SameX M.fp H H' → τ.r Z' v x → f x = some y → ∃ σ2, Tgt g v (wipe σ vs) σ2 Z' ∧ wipe σ2 vs = wipe σ vs ∧ Ev M te σ2 Z' H' s1 (ty υ y) s1)
    (hF : mapO f xs = some ys) : EvN M (tLc wi g tYes te vs) σ Z H s υ ys s1 :=
  en_fmO (fun x => (f x).map some) hi (fun x v Z' H' p z h rv hp => by
    obtain ⟨y, hy, rfl⟩ := Option.map_eq_some_iff.mp hp
    obtain ⟨σ2, tg, wp, ev⟩ := hb x v Z' H' y z h rv hy
    exact ⟨σ2, tg, wp, true, fun Z1 H1 _ _ c d _ k => k Z1 H1 (Step.refl c) d, fun _ => ⟨y, rfl, ev⟩, fun e => nomatch e⟩) (by rw [fmO_mapO, hF])
/-- stateless, total -/
theorem en_map (f : α → β) (hi : EvI M (SameX M.fp) wi σ Z H s τ xs s1)
    (hb : ∀ x v Z' H', Same Z Z' → SameX M.fp H H' → τ.r Z' v x → ∃ σ2, Tgt g v (wipe σ vs) σ2 Z' ∧ wipe σ2 vs = wipe σ vs ∧ Ev M te σ2 Z' H' s1 (ty υ (f x)) s1) : EvN M (tLc wi g tYes te vs) σ Z H s υ (xs.map f) s1 :=
  en_mapO (fun x => some (f x)) hi (fun x v Z' H' y z h rv hy => by cases hy; exact hb x v Z' H' z h rv) (by
    clear hb hi
    induction xs with
    | nil => rfl
    | cons x r ih => unfold mapO; rw [ih]; rfl)
theorem en_fil (p : α → Bool) (f : α → β) (hi : EvI M (SameX M.fp) wi σ Z H s τ xs s1)
    (hb : ∀ x v Z' H', Same Z Z' → SameX M.fp H H' → τ.r Z' v x → ∃ σ2, Tgt g v (wipe σ vs) σ2 Z' ∧ wipe σ2 vs = wipe σ vs ∧ EvT M tt σ2 Z' H' s1 (p x) s1 ∧ Ev M te σ2 Z' H' s1 (ty υ (f x)) s1) : EvN M (tLc wi g tt te vs) σ Z H s υ ((xs.filter p).map f) s1 :=
  en_fmO (fun x => some (if p x = true then some (f x) else none)) hi (fun x v Z' H' q z h rv hq => by
    obtain ⟨σ2, tg, wp, et, ev⟩ := hb x v Z' H' z h rv
    cases hq
    exact ⟨σ2, tg, wp, p x, et, fun e => ⟨f x, if_pos e, ev⟩, fun e => if_neg (by rw [e]; exact Bool.false_ne_true)⟩) (fmO_fil p f xs)
theorem en_mapS (f : α → μ → Option (β × μ)) (hi : EvI M (SameX M.fp) wi σ Z H s τ xs s1)
    (hb : ∀ x v Z' H' si p, Same Z Z' → SameX M.fp H H' → τ.r Z' v x → f x si = some p → ∃ σ2, Tgt g v (wipe σ vs) σ2 Z' ∧ wipe σ2 vs = wipe σ vs ∧ Ev M te σ2 Z' H' si (ty υ p.1) p.2)
    (hF : mapS f xs s1 = some (ys, s2)) : EvN M (tLc wi g tYes te vs) σ Z H s υ ys s2 :=
  en_lc (fun _ => True) (fun x s => (f x s).map fun p => (some p.1, p.2)) trivial hi (fun x v Z' H' si p z h rv _ hp => by
    obtain ⟨q, hq, rfl⟩ := Option.map_eq_some_iff.mp hp
    obtain ⟨σ2, tg, wp, ev⟩ := hb x v Z' H' si q z h rv hq
    exact ⟨trivial, σ2, tg, wp, true, si, fun Z1 H1 _ _ c d _ k => k Z1 H1 (Step.refl c) d, fun _ => ⟨q.1, rfl, ev⟩, fun e => nomatch e⟩) (by rw [lcM_mapS, hF])
end
end
end
end TP

namespace TP
open PySem PySem.Spec PyProof.Rows L2
section
variable {μ : Type} {S : List Addr} {Z0 H0 : Hp} {M : Mu μ} {σ : L2.St} {Z H : Hp} {s s' s1 s2 s3 : μ} {ta tb tc te : TE} {t : TA} {K : PySem.W.Frag} {D : Ends} {u w : TS}
/-! ### a place in a def's body -/
structure Pt (S : List Addr) (Z0 H0 : Hp) (M : Mu μ) (Z H : Hp) (s : μ) : Prop where
  st : Step S Z0 H0 Z H
  m : M.m s Z H
  mine : ∀ a ∈ M.fp, a ∈ S ∨ H0 a = none
theorem Pt.next {Z1 H1 : Hp} (P : Pt S Z0 H0 M Z H s) (e : Step M.fp Z H Z1 H1) (m : M.m s1 Z1 H1) : Pt S Z0 H0 M Z1 H1 s1 := ⟨P.st.mine e P.mine, m, P.mine⟩
theorem Pt.start (M : Mu μ) (sz : Same Z H) (m : M.m s Z H) : Pt M.fp Z H M Z H s := ⟨Step.refl sz, m, fun _ h => .inl h⟩
theorem Pt.start0 (sz : Same Z H) : Pt [] Z H muN Z H () := ⟨Step.refl sz, trivial, fun _ h => (nomatch h)⟩
theorem Pt.sub (P : Pt S Z0 H0 M Z H s) : Same Z H := P.st.s
/-- a list of one's own: it may change -/
structure Own {α : Type} (S : List Addr) (H0 : Hp) (fp : List Addr) (Z H : Hp) (τ : Ty α) (p : Addr) (xs : List α) : Prop where
  ex : ∃ vs, H p = some (.lst vs) ∧ All (τ.r Z) vs xs
  z : Z p = none
  n : p ∉ fp
  mine : H0 p = none
  l : xs.length ≤ sizeLine
section
variable {α : Type} {τ : Ty α} {xs : List α} {p : Addr} {fp : List Addr}
theorem Own.step {F : List Addr} {Z1 H1 : Hp} (o : Own S H0 fp Z H τ p xs) (e : Step F Z H Z1 H1) (n : p ∉ F) : Own S H0 fp Z1 H1 τ p xs := by
  obtain ⟨vs, h, t⟩ := o.ex
  exact ⟨⟨vs, e.h _ _ n h, t.imp fun _ _ => τ.mono e.z⟩, e.n _ (some_ne h) o.z, o.n, o.mine, o.l⟩
theorem Own.next {Z1 H1 : Hp} (o : Own S H0 fp Z H τ p xs) (e : Step fp Z H Z1 H1) : Own S H0 fp Z1 H1 τ p xs := o.step e o.n
theorem Own.ne (o : Own S H0 fp Z H τ p xs) {q : Addr} (h : H q = none) : p ≠ q := by
  obtain ⟨vs, hp, _⟩ := o.ex
  exact ne_of_some (some_ne hp) h
theorem ev_o {i : Nat} (o : Own S H0 M.fp Z H τ p xs) (e : σ[i]? = some (some (.ref p))) : Ev M (tVar i) σ Z H s (li τ xs) s := by
  obtain ⟨vs, h, t⟩ := o.ex
  exact ev_own e h o.n t o.l
/-- it never changes from now on -/
theorem Own.fz (o : Own S H0 M.fp Z H τ p xs) (P : Pt S Z0 H0 M Z H s) : ∃ Z', Pt S Z0 H0 M Z' H s ∧ Same Z Z' ∧ (yList τ).r Z' (.ref p) xs ∧ ∀ q, q ≠ p → Z q = none → Z' q = none := by
  obtain ⟨vs, h, t⟩ := o.ex
  refine ⟨upd Z p (.lst vs), ⟨?_, Mu.fz P.m o.z o.n, P.mine⟩, same_upd o.z, ⟨p, vs, rfl, upd_same, t.imp fun _ _ => τ.mono (same_upd o.z), o.l⟩, fun q n e => by rw [upd_ne n]; exact e⟩
  exact P.st.fz o.mine h o.z
theorem Own.keep {Z1 : Hp} (o : Own S H0 fp Z H τ p xs) (e : Same Z Z1) (n : Z1 p = none) : Own S H0 fp Z1 H τ p xs := by
  obtain ⟨vs, h, t⟩ := o.ex
  exact ⟨⟨vs, h, t.imp fun _ _ => τ.mono e⟩, n, o.n, o.mine, o.l⟩
end
/-- a list of one's own is lent: for a while it does not change -/
theorem Own.bor {α : Type} {τ : Ty α} {xs : List α} {p : Addr} (o : Own S H0 M.fp Z H τ p xs) (sz : Same Z H) (m : M.m s Z H) : ∃ Zb, Same Z Zb ∧ Same Zb H ∧ M.m s Zb H ∧ (yList τ).r Zb (.ref p) xs ∧ ∀ q, q ≠ p → Z q = none → Zb q = none := by
  obtain ⟨vs, h, t⟩ := o.ex
  refine ⟨upd Z p (.lst vs), same_upd o.z, fun a u e => ?_, Mu.fz m o.z o.n, ⟨p, vs, rfl, upd_same, t.imp fun _ _ => τ.mono (same_upd o.z), o.l⟩, fun q n e => by rw [upd_ne n]; exact e⟩
  by_cases q : a = p
  · subst q; rw [upd_same] at e; rw [← Option.some.inj e]; exact h
  · rw [upd_ne q] at e; exact sz a u e
theorem Step.lent {S : List Addr} {Z Zb H Z1 H1 : Hp} (zf : Same Z Zb) (e : Step S Zb H Z1 H1) : Step S Z H Z H1 := ⟨Same.refl _, zf.trans (e.z.trans e.s), e.h, fun _ _ z => z, e.al⟩
/-! ### statements -/
theorem st_nx {nx bk ct : L2.St → Hp → Prop} {rt : VK} (h : nx σ H) : Ends.nx ⟨nx, rt, bk, ct⟩ σ H := h
theorem st_next0 {nx bk ct : L2.St → Hp → Prop} {rt : VK} (h : nx σ H) : tNext ⟨nx, rt, bk, ct⟩ σ H := h
theorem st_next (h : D.nx σ H) : tNext D σ H := h
theorem st_seq (h : u { D with nx := w D } σ H) : tSeq u w D σ H := h
theorem st_set {R : Rr M.fp} {i : Nat} (P : Pt S Z0 H0 M Z H s) (e : Ev M te σ Z H s R s1) (k : ∀ v Z1 H1, Step M.fp Z H Z1 H1 → Pt S Z0 H0 M Z1 H1 s1 → R.r Z1 H1 v → D.nx (σ.set i (some v)) H1) : tAsg te (gName i) D σ H :=
  e Z H (Same.refl _) SameX.refl P.sub P.m _ fun v Z1 H1 e m r => k v Z1 H1 e (P.next e m) r
theorem st_asg {R : Rr M.fp} {g : TG} (P : Pt S Z0 H0 M Z H s) (e : Ev M te σ Z H s R s1) (k : ∀ v Z1 H1, Step M.fp Z H Z1 H1 → Pt S Z0 H0 M Z1 H1 s1 → R.r Z1 H1 v → ∃ σ2, Tgt g v σ σ2 Z1 ∧ D.nx σ2 H1) : tAsg te g D σ H :=
  e Z H (Same.refl _) SameX.refl P.sub P.m _ fun v Z1 H1 e m r => by
    obtain ⟨σ2, tg, q⟩ := k v Z1 H1 e (P.next e m) r
    exact tg H1 e.s _ q
theorem st_ret {R : Rr M.fp} (P : Pt S Z0 H0 M Z H s) (e : Ev M te σ Z H s R s1) (k : ∀ v Z1 H1, Pt S Z0 H0 M Z1 H1 s1 → R.r Z1 H1 v → D.rt v H1) : tRet te D σ H :=
  e Z H (Same.refl _) SameX.refl P.sub P.m _ fun v Z1 H1 e m r => k v Z1 H1 (P.next e m) r
theorem st_expr {R : Rr M.fp} (P : Pt S Z0 H0 M Z H s) (e : Ev M te σ Z H s R s1) (k : ∀ Z1 H1, Step M.fp Z H Z1 H1 → Pt S Z0 H0 M Z1 H1 s1 → D.nx σ H1) : tDrop te D σ H :=
  e Z H (Same.refl _) SameX.refl P.sub P.m _ fun v Z1 H1 e m r => k Z1 H1 e (P.next e m)
theorem st_if {b : Bool} {tt : TT} (P : Pt S Z0 H0 M Z H s) (e : EvT M tt σ Z H s b s1) (ht : b = true → ∀ Z1 H1, Step M.fp Z H Z1 H1 → Pt S Z0 H0 M Z1 H1 s1 → u D σ H1) (hf : b = false → ∀ Z1 H1, Step M.fp Z H Z1 H1 → Pt S Z0 H0 M Z1 H1 s1 → w D σ H1) : tIfS tt u w D σ H :=
  e Z H (Same.refl _) SameX.refl P.sub P.m _ fun Z1 H1 e' m => by
    cases b with
    | true => rw [if_pos rfl]; exact ht rfl Z1 H1 e' (P.next e' m)
    | false => rw [if_neg Bool.false_ne_true]; exact hf rfl Z1 H1 e' (P.next e' m)
theorem st_ifB {b : Bool} {tt : TT} {Zb : Hp} (bk : M.Back) (P : Pt S Z0 H0 M Z H s) (zf : Same Z Zb) (sb : Same Zb H) (mb : M.m s Zb H) (e : EvT M tt σ Zb H s b s1) (ht : b = true → ∀ Z1 H1, Step M.fp Z H Z1 H1 → Pt S Z0 H0 M Z1 H1 s1 → u D σ H1) (hf : b = false → ∀ Z1 H1, Step M.fp Z H Z1 H1 → Pt S Z0 H0 M Z1 H1 s1 → w D σ H1) : tIfS tt u w D σ H :=
  e Zb H (Same.refl _) SameX.refl sb mb _ fun Z1 H1 e' m => by
    have e2 := Step.lent zf e'
    have m2 := bk (zf.trans e'.z) P.m m
    cases b with
    | true => rw [if_pos rfl]; exact ht rfl Z H1 e2 (P.next e2 m2)
    | false => rw [if_neg Bool.false_ne_true]; exact hf rfl Z H1 e2 (P.next e2 m2)
theorem st_aug {i : Nat} {a b : Int} {v : V} {f : Int → Int → Int} (P : Pt S Z0 H0 M Z H s) (hσ : σ[i]? = some (some v)) (hv : v = .int a) (e : Ev M te σ Z H s (ty yInt b) s1) (k : ∀ v Z1 H1, Step M.fp Z H Z1 H1 → Pt S Z0 H0 M Z1 H1 s1 → yInt.r Z1 v (f a b) → D.nx (σ.set i (some v)) H1) : tAug i te (ipI f) D σ H :=
  ⟨v, hσ, e Z H (Same.refl _) SameX.refl P.sub P.m _ fun v' Z1 H1 e m r => ⟨a, b, hv, r, k _ Z1 H1 e (P.next e m) rfl⟩⟩
section
variable {α β : Type} {τ : Ty α} {υ : Ty β} {xs ys : List α} {p : Addr} {x : α}
/-- a new list of one's own -/
theorem st_setN {i : Nat} (P : Pt S Z0 H0 M Z H s) (e : EvN M te σ Z H s τ xs s1) (k : ∀ p Z1 H1, Step M.fp Z H Z1 H1 → Pt S Z0 H0 M Z1 H1 s1 → H p = none → Own S H0 M.fp Z1 H1 τ p xs → D.nx (σ.set i (some (.ref p))) H1) : tAsg te (gName i) D σ H :=
  e Z H (Same.refl _) SameX.refl P.sub P.m _ fun p vs Z1 H1 e m hp zp h1 t l => k p Z1 H1 e (P.next e m) hp ⟨⟨vs, h1, t⟩, zp, fun hf => (M.al P.m p hf).1 hp, same_x P.st hp, l⟩
theorem Pt.set {o : HO} (P : Pt S Z0 H0 M Z H s) (hz : Z p = none) (n : p ∉ M.fp) (mine : p ∈ S ∨ H0 p = none) : Pt S Z0 H0 M Z (upd H p o) s := by
  refine ⟨P.st.mine (Step.set P.sub hz) fun a h => by rw [List.mem_singleton] at h; rw [h]; exact mine, M.loc (Same.refl _) (fun a ha u e => ?_) (fun _ _ _ z => z) P.m, P.mine⟩
  rw [upd_ne (fun q => n (by rw [← q]; exact ha))]
  exact e
theorem step2 {F : List Addr} {Z1 H1 : Hp} {o : HO} (e : Step F Z H Z1 H1) (hz : Z1 p = none) : Step (p :: F) Z H Z1 (upd H1 p o) :=
  (e.weak fun _ h => .inl (List.mem_cons_of_mem _ h)).mine (Step.set e.s hz) fun a h => by rw [List.mem_singleton] at h; rw [h]; exact .inl List.mem_cons_self
/-- xs.append(x) -/
theorem st_append {i : Nat} (P : Pt S Z0 H0 M Z H s) (o : Own S H0 M.fp Z H τ p xs) (hσ : σ[i]? = some (some (.ref p))) (e : Ev M te σ Z H s (ty τ x) s1) (l : xs.length < sizeLine)
    (k : ∀ Z1 H1, Step (p :: M.fp) Z H Z1 H1 → Pt S Z0 H0 M Z1 H1 s1 → Own S H0 M.fp Z1 H1 τ p (xs ++ [x]) → D.nx σ H1) : tDrop (tBM K "list" rAppend (tVar i) (tCons te tNil)) D σ H := by
  obtain ⟨vs, h, t⟩ := o.ex
  refine ⟨.ref p, hσ, .inl ⟨rfl, _, .inl (.inl h)⟩, e Z H (Same.refl _) SameX.refl P.sub P.m _ fun v Z1 H1 e m r => ?_⟩
  have o1 := o.next e
  have P1 := P.next e m
  refine ⟨p, vs, v, rfl, rfl, e.h _ _ o.n h, by rw [t.len]; exact l, ?_⟩
  exact k _ _ (step2 e o1.z) (P1.set o1.z o.n (.inr o.mine)) ⟨⟨_, upd_same, (t.imp fun _ _ => τ.mono e.z).snoc r⟩, o1.z, o.n, o.mine, by rw [List.length_append]; show xs.length + 1 ≤ _; omega⟩
/-- xs.extend(ys) -/
theorem st_extend {i : Nat} (P : Pt S Z0 H0 M Z H s) (o : Own S H0 M.fp Z H τ p xs) (hσ : σ[i]? = some (some (.ref p))) (e : Ev M te σ Z H s (ty (yList τ) ys) s1) (l : xs.length + ys.length ≤ sizeLine)
    (k : ∀ Z1 H1, Step (p :: M.fp) Z H Z1 H1 → Pt S Z0 H0 M Z1 H1 s1 → Own S H0 M.fp Z1 H1 τ p (xs ++ ys) → D.nx σ H1) : tDrop (tBM K "list" rExtend (tVar i) (tCons te tNil)) D σ H := by
  obtain ⟨vs, h, t⟩ := o.ex
  refine ⟨.ref p, hσ, .inl ⟨rfl, _, .inl (.inl h)⟩, e Z H (Same.refl _) SameX.refl P.sub P.m _ fun v Z1 H1 e m ⟨q, ws, ev, hq, t2, _⟩ => ?_⟩
  subst ev
  have o1 := o.next e
  have P1 := P.next e m
  refine ⟨p, q, vs, ws, rfl, rfl, e.h _ _ o.n h, e.s _ _ hq, by rw [t.len, t2.len]; exact l, ?_⟩
  exact k _ _ (step2 e o1.z) (P1.set o1.z o.n (.inr o.mine)) ⟨⟨_, upd_same, (t.imp fun _ _ => τ.mono e.z).app t2⟩, o1.z, o.n, o.mine, by rw [List.length_append]; exact l⟩
/-- xs[i] = x -/
theorem st_setitem {i : Nat} {j : Int} {n : Nat} {tj : TE} (P : Pt S Z0 H0 M Z H s) (o : Own S H0 M.fp Z H τ p xs) (hσ : σ[i]? = some (some (.ref p))) (e : Ev M te σ Z H s (ty τ x) s1) (ej : ∀ Z1 H1, Step M.fp Z H Z1 H1 → Ev M tj σ Z1 H1 s1 (ty yInt j) s2) (hj : ixN xs.length j = some n)
    (k : ∀ Z1 H1, Step (p :: M.fp) Z H Z1 H1 → Pt S Z0 H0 M Z1 H1 s2 → Own S H0 M.fp Z1 H1 τ p (xs.set n x) → D.nx σ H1) : tAsg te (gSub (tVar i) tj rSetL) D σ H := by
  obtain ⟨vs, h, t⟩ := o.ex
  refine e Z H (Same.refl _) SameX.refl P.sub P.m _ fun v Z1 H1 e m r => ⟨.ref p, hσ, ej Z1 H1 e Z1 H1 (Same.refl _) SameX.refl e.s m _ fun v2 Z2 H2 e2 m2 r2 => ?_⟩
  have o1 := (o.next e).next e2
  have P1 := (P.next e m).next e2 m2
  refine ⟨p, vs, j, n, rfl, r2, e2.h _ _ o.n (e.h _ _ o.n h), by rw [t.len]; exact hj, ?_⟩
  exact k _ _ (step2 (e.trans e2) o1.z) (P1.set o1.z o.n (.inr o.mine)) ⟨⟨_, upd_same, (t.imp fun _ _ => τ.mono (e.trans e2).z).set (τ.mono e2.z r) n⟩, o1.z, o.n, o.mine, by rw [List.length_set]; exact o.l⟩
end
/-! ### loops -/
inductive Flow (ρ β : Type)
  | go (b : β) | brk (b : β) | ret (r : ρ)
def forF {α β : Type} (f : α → β → Option β) : List α → β → Option β
  | [], b => some b
  | x :: r, b => (f x b).bind fun b' => forF f r b'
def Flow.nxt {ρ β : Type} (k : β → Option (Flow ρ β)) : Flow ρ β → Option (Flow ρ β)
  | .go b => k b
  | .brk b => some (.go b)
  | .ret y => some (.ret y)
def Flow.thn {ρ β γ : Type} (k : β → Option γ) (g : ρ → Option γ) : Flow ρ β → Option γ
  | .go b => k b
  | .brk b => k b
  | .ret y => g y
def forS {ρ α β : Type} (f : α → β → Option (Flow ρ β)) : List α → β → Option (Flow ρ β)
  | [], b => some (.go b)
  | x :: r, b => (f x b).bind (Flow.nxt (forS f r))
def whileS {ρ β : Type} (f : β → Option (Flow ρ β)) : Nat → β → Option (Flow ρ β)
  | 0, _ => none
  | n + 1, b => (f b).bind (Flow.nxt (whileS f n))
section
variable {ρ α β γ : Type} {k : β → Option (Flow ρ β)} {f : α → β → Option (Flow ρ β)} {f' : α → β → Option β} {x : α} {r : List α} {b : β} {y : ρ} {q : Flow ρ β}
theorem nxt_go (h : Flow.nxt k (.go b) = some q) : k b = some q := h
theorem nxt_brk (h : Flow.nxt k (.brk b) = some q) : q = .go b := (Option.some.inj h).symm
theorem nxt_ret (h : Flow.nxt k (.ret y) = some q) : q = .ret y := (Option.some.inj h).symm
theorem go_inv {k : β → Option γ} {g : ρ → Option γ} {z : γ} (h : Flow.thn k g (.go b) = some z) : k b = some z := h
theorem ret_inv {k : β → Option γ} {g : ρ → Option γ} {z : γ} (h : Flow.thn k g (.ret y) = some z) : g y = some z := h
theorem forS_cons (h : forS f (x :: r) b = some q) : (f x b).bind (Flow.nxt (forS f r)) = some q := h
theorem forS_nil (h : forS f [] b = some q) : q = .go b := (Option.some.inj h).symm
theorem forF_cons {c : β} (h : forF f' (x :: r) b = some c) : (f' x b).bind (fun b' => forF f' r b') = some c := h
theorem forF_nil {c : β} (h : forF f' [] b = some c) : c = b := (Option.some.inj h).symm
end
section
variable {α β : Type} {τ : Ty α} {xs : List α}
/-- what a turn is to reach -/
def LoopW (I : List α → L2.St → Hp → Hp → Prop) (Z1 : Hp) (r : List α) : L2.St → Hp → Prop := fun σ H => ∃ Z, Same Z1 Z ∧ Same Z H ∧ I r σ Z H
/-- I: what is true ahead of the turns for the rest of the items -/
theorem st_for {wi : TI} {g : TG} (I : List α → L2.St → Hp → Hp → Prop) (P : Pt S Z0 H0 M Z H s) (hi : EvI M (fun _ _ => True) wi σ Z H s τ xs s1)
    (h0 : ∀ Z1 H1, Step M.fp Z H Z1 H1 → Pt S Z0 H0 M Z1 H1 s1 → I xs σ Z1 H1)
    (hs : ∀ Z1 H1, Step M.fp Z H Z1 H1 → ∀ x r σ' v Z' H' Z2 H2, Same Z1 Z' → I (x :: r) σ' Z' H' → Step [] Z' H' Z2 H2 → τ.r Z2 v x →
      g v σ' H2 fun σ2 H3 => u { D with nx := LoopW I Z1 r, ct := LoopW I Z1 r, bk := D.nx } σ2 H3)
    (hd : ∀ σ' Z' H', Same Z Z' → Same Z' H' → I [] σ' Z' H' → D.nx σ' H') : tFor wi g u D σ H := by
  refine hi Z H (Same.refl _) SameX.refl P.sub P.m _ fun J Z1 H1 e m ⟨_, G, Y, wk, hG, hY⟩ => ?_
  refine for_it wk (fun i => LoopW I Z1 (xs.drop i)) ⟨Z1, Same.refl _, e.s, by rw [List.drop_zero]; exact h0 Z1 H1 e (P.next e m)⟩ ?_ ?_ ?_
  · rintro i σ' H' _ ⟨Z', sa, sb, _⟩
    exact hG Z' H' sa sb trivial
  · rintro i v σ' H3 H4 hin ⟨Z', sa, sb, hI⟩ y
    obtain ⟨Z4, x, ex, st4, rx⟩ := hY i Z' H3 v H4 hin sa sb (hG Z' H3 sa sb trivial) y
    have hd : xs.drop i = x :: xs.drop (i + 1) := by
      rw [List.drop_eq_getElem_cons hin]
      rw [List.getElem?_eq_getElem hin] at ex
      rw [Option.some.inj ex]
    rw [hd] at hI
    exact hs Z1 H1 e x _ σ' v Z' H3 Z4 H4 sa hI st4 rx
  · rintro σ' H' ⟨Z', sa, sb, hI⟩
    rw [List.drop_length] at hI
    exact hd σ' Z' H' (e.z.trans sa) sb hI
end
theorem bind_inv {α β : Type} {o : Option α} {f : α → Option β} {y : β} (h : o.bind f = some y) : ∃ x, o = some x ∧ f x = some y := Option.bind_eq_some_iff.mp h
theorem guard_inv {c : Prop} [Decidable c] {β : Type} {o : Option β} {y : β} (h : (if c then o else none) = some y) : c ∧ o = some y := by
  by_cases hc : c
  · rw [if_pos hc] at h; exact ⟨hc, h⟩
  · rw [if_neg hc] at h; cases h
theorem ifT {β : Type} {b : Bool} {o p y : β} (hb : b = true) (h : (if b = true then o else p) = y) : o = y := by rw [if_pos hb] at h; exact h
theorem ifF {β : Type} {b : Bool} {o p y : β} (hb : b = false) (h : (if b = true then o else p) = y) : p = y := by rw [if_neg (by rw [hb]; exact Bool.false_ne_true)] at h; exact h
theorem Pt.item {Z1 H1 : Hp} (P : Pt S Z0 H0 M Z H s) (e : Step [] Z H Z1 H1) : Pt S Z0 H0 M Z1 H1 s := P.next e.pure (M.pure e P.m)
theorem Mu.away {x : Addr} {Z1 H1 : Hp} (e : Step [x] Z H Z1 H1) (nx : x ∉ M.fp) (m : M.m s Z H) : M.m s Z1 H1 :=
  M.loc e.z (fun a ha o ho => e.h a o (fun q => nx (by rw [List.mem_singleton] at q; rw [← q]; exact ha)) ho) (fun a _ h z => e.n a h z) m
/-- self.f = e, self new -/
theorem st_fld {α : Type} {τ : Ty α} {x : α} {i : Nat} {p C dx : Addr} {fs : List (Str × V)} {f : Str} {tv : TE} (P : Pt S Z0 H0 M Z H s) (hp : H p = some (.ins C dx fs)) (zp : Z p = none) (np : p ∉ M.fp) (mp : p ∈ S ∨ H0 p = none) (hσ : σ[i]? = some (some (.ref p)))
    (e : Ev M tv σ Z H s (ty τ x) s1) (c : Cls K C) (n : NoAttr K C f) (l : fs.length < 1000) (k : ∀ v Z1 H1, Step (p :: M.fp) Z H Z1 H1 → Pt S Z0 H0 M Z1 H1 s1 → τ.r Z1 v x → H1 p = some (.ins C dx (putF f v fs)) → Z1 p = none → D.nx σ H1) : sFld K (tVar i) tv f D σ H :=
  e Z H (Same.refl _) SameX.refl P.sub P.m _ fun v Z1 H1 e m r => by
    have h1 : H1 p = some (.ins C dx fs) := e.h _ _ np hp
    have z1 : Z1 p = none := e.n p (some_ne hp) zp
    exact ⟨.ref p, hσ, p, C, dx, fs, rfl, h1, c, n, l, k v Z1 _ (step2 e z1) ((P.next e m).set z1 np mp) r upd_same z1⟩
/-- a list of one's own in the block of a comprehension -/
theorem ev_oX {α : Type} {τ : Ty α} {xs : List α} {p : Addr} {i : Nat} {Z1 H1 : Hp} (o : Own S H0 M.fp Z H τ p xs) (zz : Same Z Z1) (hh : SameX M.fp H H1) (e : σ[i]? = some (some (.ref p))) : Ev M (tVar i) σ Z1 H1 s (li τ xs) s := by
  obtain ⟨vs, h, t⟩ := o.ex
  exact ev_own e (hh _ _ o.n h) o.n (t.imp fun _ _ => τ.mono zz) o.l
end
/-! ### the draws -/
structure DS where
  ns : List Int
  k : Nat
  x : Nat
def rowZ (ns : List Int) (k : Nat) : Int :=
  let c0 := ns.getD k 0
  let c := if c0 < 0 then -2 * c0 - 1 else c0
  if c < 10 ^ 9 then
    let a := (c * 48271 + k * 69621 + 11) % 2147483647
    let b := (a * 16807 + c * 7 + k + 5) % 2147483629
    let d := (b * 39373 + a * b + 3) % 2147483587
    a + b * 2147483647 + d * 2147483647 ^ 2
  else c
def DS.cur (s : DS) (m : Int) : Nat := if (s.x : Int) < m then (rowZ s.ns s.k).toNat else s.x
def nxV (s : DS) (m : Int) : Int := (s.cur m : Int) % m
def nxS (s : DS) (m : Int) : DS := ⟨s.ns, if (s.x : Int) < m then s.k + 1 else s.k, ((s.cur m : Int) / m).toNat⟩
theorem nx_ge (s : DS) {m : Int} (h : 0 < m) : 0 ≤ nxV s m := Int.emod_nonneg _ (by omega)
theorem nx_lt (s : DS) {m : Int} (h : 0 < m) : nxV s m < m := Int.emod_lt_of_pos _ h
def NxOk (m : Int) : Prop := 0 < m ∧ m.natAbs < 2 ^ 200
instance {m : Int} : Decidable (NxOk m) := inferInstanceAs (Decidable (_ ∧ _))
def muD (st sc : Addr) : Mu DS where
  fp := [st]
  m := fun s Z H => H st = some (.lst [.ref sc, .int (s.k : Nat), .int (s.x : Nat)]) ∧ Z sc = some (.lst (s.ns.map V.int)) ∧ Z st = none
  al := fun ⟨h, _, z⟩ a ha => by rw [List.mem_singleton] at ha; subst ha; exact ⟨some_ne h, z⟩
  loc := fun sz hk hn ⟨h, hs, z⟩ => ⟨hk _ List.mem_cons_self _ h, sz _ _ hs, hn _ List.mem_cons_self (some_ne h) z⟩
theorem muD_back {st sc : Addr} : (muD st sc).Back := fun sz ⟨_, hs, z⟩ ⟨h', hs', _⟩ => ⟨h', by rw [hs, ← hs', sz _ _ hs], z⟩
section
variable {K : PySem.W.Frag} {σ : L2.St} {H : Hp} {D : Ends}
theorem st_draws {r : List V → Hp → VK → Prop} {a : Addr} {ns : List Int} {i j : Nat} (hA : SqL K H a (ns.map V.int)) (hlen : ns.length ≤ 63) (k : ∀ st sc Z0 Z1 H1, Pt [] Z0 H (muD st sc) Z1 H1 ⟨ns, 0, 0⟩ → D.nx (σ.set i (some (.ref st))) H1)
    (hr : ∀ xs H Q, (∃ p ys, xs = [.ref p] ∧ (SqL K H p ys ∨ SqT K H p ys) ∧ ∀ l, H l = none → Q (.ref l) (upd H l (.lst ys))) → r xs H Q := by exact fun _ _ _ h => h) (hσ : σ[j]? = some (some (.ref a)) := by rfl) :
    tAsg (tLst (tCons (tCB r (tCons (tVar j) tNil)) (tCons (tC (.int 0)) (tCons (tC (.int 0)) tNil)))) (gName i) D σ H := by
  refine ⟨.ref a, hσ, hr _ _ _ ⟨a, _, rfl, .inl hA, fun sc hsc => ?_⟩⟩
  refine ⟨by show 3 ≤ sizeLine; decide, fun st hst => ?_⟩
  have s0 : Same (fun _ => none : Hp) H := fun _ _ h => by cases h
  have e1 := Step.new (o := .lst (ns.map V.int)) s0 hsc
  have e2 := Step.own (o := .lst [.ref sc, .int 0, .int 0]) e1.s hst
  exact k st sc (fun _ => none) _ _ ⟨e1.trans e2, ⟨upd_same, upd_same, by rw [upd_ne (fun q => by rw [q, upd_same] at hst; cases hst)]⟩, fun x hx => by rw [show x = st from List.mem_singleton.mp hx]; exact .inr (same_x e1 hst)⟩
end
end TP
namespace TP
open PySem PySem.Spec PyProof.Rows L2
section
variable {μ : Type} {S : List Addr} {Z0 H0 : Hp} {M : Mu μ} {σ : L2.St} {Z H : Hp} {s s' s1 s2 s3 : μ} {ta tb tc te : TE} {t : TA} {K : PySem.W.Frag} {D : Ends} {u w : TS}
theorem whileS_cons {ρ β : Type} {f : β → Option (Flow ρ β)} {n : Nat} {b : β} {q : Flow ρ β} (h : whileS f n b = some q) : ∃ k, n = k + 1 ∧ (f b).bind (Flow.nxt (whileS f k)) = some q := by
  cases n with
  | zero => cases h
  | succ k => exact ⟨k, rfl, h⟩
def WhW (I : Nat → L2.St → Hp → Hp → Prop) (k : Nat) : L2.St → Hp → Prop := fun σ H => ∃ Z, I k σ Z H
theorem st_while {c : TT} {tb : TS} (I : Nat → L2.St → Hp → Hp → Prop) (n : Nat) (P : Pt S Z0 H0 M Z H s) (h0 : I n σ Z H)
    (hs : ∀ n σ' Z' H', I n σ' Z' H' → ∃ k s s1 b, n = k + 1 ∧ Pt S Z0 H0 M Z' H' s ∧ EvT M c σ' Z' H' s b s1 ∧ (b = true → ∀ Z1 H1, Step M.fp Z' H' Z1 H1 → Pt S Z0 H0 M Z1 H1 s1 → tb { D with nx := WhW I k, ct := WhW I k, bk := D.nx } σ' H1) ∧
      (b = false → ∀ Z1 H1, Step M.fp Z' H' Z1 H1 → Pt S Z0 H0 M Z1 H1 s1 → D.nx σ' H1)) : tWhile c tb D σ H := by
  refine ⟨fun m σ H => ∃ Z, I m σ Z H, ⟨n, Z, h0⟩, ?_⟩
  rintro m σ' H' ⟨Z', hI⟩
  obtain ⟨k, s, s1, b, rfl, P, et, ht, hf⟩ := hs m σ' Z' H' hI
  refine et Z' H' (Same.refl _) SameX.refl P.sub P.m _ fun Z1 H1 e m => ?_
  cases b with
  | true =>
    rw [if_pos rfl]
    exact ⟨WhW I k, fun σ3 H3 h3 => ⟨k, Nat.lt_succ_self _, h3⟩, ht rfl Z1 H1 e (P.next e m)⟩
  | false =>
    rw [if_neg Bool.false_ne_true]
    exact hf rfl Z1 H1 e (P.next e m)
end
end TP

namespace TP
open PySem PySem.Spec PyProof.Rows L2
section
variable {μ : Type} {S : List Addr} {Z0 H0 : Hp} {M : Mu μ} {σ : L2.St} {Z H : Hp} {s s' s1 s2 s3 : μ} {ta tb tc te : TE} {t : TA} {K : PySem.W.Frag} {D : Ends} {u w : TS}
/-! ### isinstance -/
theorem ev_isi {r : List V → Hp → VK → Prop} {R : Rr M.fp} {c : V} {v t : Value} {b : Bool} (hr : ∀ xs H Q, rIsi K xs H Q → r xs H Q) (ha : Ev M ta σ Z H s R s1) (tx : ∀ Z H v, Same Z H → R.r Z H v → TyX K H v t) (hc : ClsV c v) (hk : PySem.W.kitOne K t v = some b) :
    Ev M (tCB r (tCons ta (tCons (tC c) tNil))) σ Z H s (ty yBool b) s1 :=
  ev_cb (Rs := rac R (rac ⟨fun _ _ v => v = c, fun _ h => h⟩ ra0)) (eva_cons ha (eva_cons (ev_of fun _ _ _ _ _ _ q => q _ rfl) eva_nil)) fun _ _ _ sz ⟨x, r1, e1, h1, y, r2, e2, h2, e3⟩ _ q => by
    cases e3; cases e2; cases e1
    have h2' : y = c := h2
    subst h2'
    exact hr _ _ _ ⟨x, y, t, v, b, rfl, hc, tx _ _ _ sz h1, hk, q _ _ _ (Step.refl sz) rfl⟩
section
variable {fp : List Addr} {α β γ δ : Type} {τ : Ty α} {υ : Ty β} {φ : Ty γ} {ψ : Ty δ}
theorem tx_int {x : Int} : ∀ Z H v, Same Z H → (ty (fp := fp) yInt x).r Z H v → TyX K H v (.type "int") := fun _ _ _ _ h => by cases h; exact .base (.int _)
theorem tx_bool {x : Bool} : ∀ Z H v, Same Z H → (ty (fp := fp) yBool x).r Z H v → TyX K H v (.type "bool") := fun _ _ _ _ h => by cases h; exact .base (.bl _)
theorem tx_str {x : Str} : ∀ Z H v, Same Z H → (ty (fp := fp) yStr x).r Z H v → TyX K H v (.type "str") := fun _ _ _ _ h => by rw [h.1]; exact .base (.str _)
theorem tx_li {x : List α} : ∀ Z H v, Same Z H → (li (fp := fp) τ x).r Z H v → TyX K H v (.type "list") := fun _ _ _ sz h => by
  obtain ⟨p, vs, rfl, g, _, _⟩ := rdl sz h
  exact .base (.lst g)
theorem tx_sqT {H : Hp} {a : Addr} {vs : List V} (h : SqT K H a vs) : TyX K H (.ref a) (.type "tuple") := by
  rcases h with (h | ⟨o, h⟩) | ⟨o, its, n, h, hc, _⟩
  · exact .base (.tup h)
  · exact .fTuple h
  · exact .kTuple h hc
theorem tx_tup {x : List α} : ∀ Z H v, Same Z H → (ty (fp := fp) (yTup K τ) x).r Z H v → TyX K H v (.type "tuple") := fun _ _ _ sz ⟨a, vs, e, h, _⟩ => by subst e; exact tx_sqT (seqT_same sz h)
theorem tx_p2 {x : α × β} : ∀ Z H v, Same Z H → (ty (fp := fp) (yP2 K τ υ) x).r Z H v → TyX K H v (.type "tuple") := fun _ _ _ sz ⟨a, _, _, e, h, _⟩ => by subst e; exact tx_sqT (seqT_same sz h)
theorem tx_p3 {x : α × β × γ} : ∀ Z H v, Same Z H → (ty (fp := fp) (yP3 K τ υ φ) x).r Z H v → TyX K H v (.type "tuple") := fun _ _ _ sz ⟨a, _, _, _, e, h, _⟩ => by subst e; exact tx_sqT (seqT_same sz h)
end
end
end TP

namespace TP
open PySem PySem.Spec PyProof.Rows L2
/-! on, where what is bound is known: proofs that are no rfl, so that the kernel evaluates nothing -/
theorem bsome {α β : Type} {x : α} {f : α → Option β} : (some x).bind f = f x := by rw [Option.bind_some]
theorem bnone {α β : Type} {f : α → Option β} : (none : Option α).bind f = none := of_eq_true (eq_self _)
theorem thn_go {ρ β γ : Type} {b : β} {k : β → Option γ} {g : ρ → Option γ} : Flow.thn k g (.go b) = k b := by simp only [Flow.thn]
theorem thn_brk {ρ β γ : Type} {b : β} {k : β → Option γ} {g : ρ → Option γ} : Flow.thn k g (.brk b) = k b := by simp only [Flow.thn]
theorem thn_ret {ρ β γ : Type} {y : ρ} {k : β → Option γ} {g : ρ → Option γ} : Flow.thn k g (.ret y) = g y := by simp only [Flow.thn]
theorem forF_foldl {α β : Type} {f : α → β → Option β} {g : β → α → β} (h : ∀ x b, f x b = some (g b x)) : ∀ (xs : List α) (b : β), forF f xs b = some (xs.foldl g b)
  | [], _ => rfl
  | x :: r, b => by
    show (f x b).bind _ = _
    rw [h x b]
    exact forF_foldl h r _
theorem forF_inv {α β : Type} {f : α → β → Option β} {I : Nat → β → Prop} {m : Nat} (h : ∀ n x b, n < m → I n b → ∃ b', f x b = some b' ∧ I (n + 1) b') : ∀ (xs : List α) (n : Nat) (b : β), n + xs.length ≤ m → I n b → ∃ b', forF f xs b = some b' ∧ I (n + xs.length) b'
  | [], _, b, _, i => ⟨b, rfl, i⟩
  | x :: r, n, b, l, i => by
    rw [List.length_cons] at l
    obtain ⟨b1, e, i1⟩ := h n x b (by omega) i
    obtain ⟨b2, e2, i2⟩ := forF_inv h r (n + 1) b1 (by omega) i1
    refine ⟨b2, ?_, by rw [List.length_cons, show n + (r.length + 1) = n + 1 + r.length by omega]; exact i2⟩
    show (f x b).bind _ = _
    rw [e]
    exact e2
theorem forS_inv {ρ α β : Type} {f : α → β → Option (Flow ρ β)} {I : Nat → β → Prop} {m : Nat} (h : ∀ n x b, n < m → I n b → ∃ b', f x b = some (.go b') ∧ I (n + 1) b') : ∀ (xs : List α) (n : Nat) (b : β), n + xs.length ≤ m → I n b → ∃ b', forS f xs b = some (.go b') ∧ I (n + xs.length) b'
  | [], _, b, _, i => ⟨b, rfl, i⟩
  | x :: r, n, b, l, i => by
    rw [List.length_cons] at l
    obtain ⟨b1, e, i1⟩ := h n x b (by omega) i
    obtain ⟨b2, e2, i2⟩ := forS_inv h r (n + 1) b1 (by omega) i1
    refine ⟨b2, ?_, by rw [List.length_cons, show n + (r.length + 1) = n + 1 + r.length by omega]; exact i2⟩
    show (f x b).bind _ = _
    rw [e]
    exact e2
theorem mapS_all {α β μ : Type} {f : α → μ → Option (β × μ)} {R : β → Prop} (h : ∀ x s, ∃ y s', f x s = some (y, s') ∧ R y) : ∀ (xs : List α) (s : μ), ∃ ys s', mapS f xs s = some (ys, s') ∧ ys.length = xs.length ∧ ∀ y ∈ ys, R y
  | [], s => ⟨[], s, rfl, rfl, fun _ h => nomatch h⟩
  | x :: r, s => by
    obtain ⟨y, s1, e, hy⟩ := h x s
    obtain ⟨ys, s2, e2, l, hs⟩ := mapS_all h r s1
    refine ⟨y :: ys, s2, ?_, congrArg Nat.succ l, fun z hz => ?_⟩
    · show (f x s).bind _ = _
      rw [e]
      show (mapS f r s1).bind _ = _
      rw [e2]
      rfl
    · rcases List.mem_cons.mp hz with rfl | hz
      · exact hy
      · exact hs z hz
theorem cutA_none {α : Type} (xs : List α) {c : Int} (h : 0 ≤ c) : cutA xs none (some c) = xs.take c.toNat := by
  obtain ⟨k, rfl⟩ := Int.eq_ofNat_of_zero_le h
  unfold cutA
  rw [HT.sIx_none, HT.sIx_nat, List.drop_zero, Nat.sub_zero, Int.toNat_natCast]
  by_cases q : k ≤ xs.length
  · rw [Nat.min_eq_left q]
  · rw [Nat.min_eq_right (by omega), List.take_length, List.take_of_length_le (by omega)]
theorem cutA_to {α : Type} (xs : List α) {a c : Int} (h : 0 ≤ a) (h2 : a ≤ c) (h3 : c ≤ xs.length) : cutA xs (some a) (some c) = (xs.drop a.toNat).take (c - a).toNat := by
  obtain ⟨k, rfl⟩ := Int.eq_ofNat_of_zero_le h
  obtain ⟨m, rfl⟩ := Int.eq_ofNat_of_zero_le (show 0 ≤ c by omega)
  unfold cutA
  rw [HT.sIx_nat, HT.sIx_nat, Nat.min_eq_left (by omega), Nat.min_eq_left (by omega), Int.toNat_natCast, show ((m : Int) - (k : Int)).toNat = m - k by omega]
theorem cutA_from {α : Type} (xs : List α) {a : Int} (h : 0 ≤ a) : cutA xs (some a) none = xs.drop a.toNat := by
  obtain ⟨k, rfl⟩ := Int.eq_ofNat_of_zero_le h
  unfold cutA
  rw [HT.sIx_nat, HT.sIx_none, Int.toNat_natCast]
  by_cases q : k ≤ xs.length
  · rw [Nat.min_eq_left q, List.take_of_length_le (by rw [List.length_drop]; omega)]
  · rw [Nat.min_eq_right (by omega), List.drop_length, List.drop_of_length_le (by omega)]
    simp
theorem ixN_of {n : Nat} {i : Int} (h : 0 ≤ i) (l : i < n) : ixN n i = some i.toNat := by
  obtain ⟨k, rfl⟩ := Int.eq_ofNat_of_zero_le h
  rw [Int.toNat_natCast]
  unfold ixN
  split <;> first | rfl | omega | (split <;> first | rfl | omega) | skip
theorem atI_of {α : Type} {xs : List α} {i : Int} (h : 0 ≤ i) : L2.atI xs i = xs[i.toNat]? := by
  by_cases l : i < xs.length
  · unfold L2.atI
    rw [ixN_of h l]
    rfl
  · rw [List.getElem?_eq_none (by omega)]
    obtain ⟨k, rfl⟩ := Int.eq_ofNat_of_zero_le h
    unfold L2.atI ixN
    split <;> first | rfl | (split <;> first | rfl | omega) | skip
theorem nxOk_of {m : Int} (h : 0 < m) (l : m < 2 ^ 199) : NxOk m := ⟨h, by
  have : m.natAbs < 2 ^ 199 := by
    have e : (2 : Int) ^ 199 = ((2 ^ 199 : Nat) : Int) := by decide
    rw [e] at l
    omega
  exact Nat.lt_trans this (by decide)⟩
theorem rangeOk_of {a b : Int} (h : 0 ≤ a) (h1 : a ≤ 16777216) (l : b ≤ 16777216) (l2 : -16777216 ≤ b) : RangeOk a b := ⟨⟨by omega, by omega⟩, ⟨by omega, by omega⟩, by omega⟩
end TP
namespace TP
open PySem PySem.Spec PyProof.Rows L2
theorem forF_idx {α β : Type} {f : α → β → Option β} {I : Nat → β → Prop} : ∀ (xs : List α) (k : Nat) (b : β), (∀ n x b, xs[n]? = some x → I (k + n) b → ∃ b', f x b = some b' ∧ I (k + n + 1) b') → I k b → ∃ b', forF f xs b = some b' ∧ I (k + xs.length) b'
  | [], k, b, _, i => ⟨b, rfl, i⟩
  | x :: r, k, b, h, i => by
    obtain ⟨b1, e1, i1⟩ := h 0 x b rfl i
    obtain ⟨b2, e2, i2⟩ := forF_idx (I := I) r (k + 1) b1 (fun n y b' hy ib => by
      have := h (n + 1) y b' (by simpa using hy) (by rw [show k + (n + 1) = k + 1 + n by omega]; exact ib)
      rw [show k + 1 + n + 1 = k + (n + 1) + 1 by omega]
      exact this) i1
    refine ⟨b2, ?_, by rw [List.length_cons, show k + (r.length + 1) = k + 1 + r.length by omega]; exact i2⟩
    show (f x b).bind _ = _
    rw [e1]
    exact e2
theorem forS_idx {ρ α β : Type} {f : α → β → Option (Flow ρ β)} {I : Nat → β → Prop} : ∀ (xs : List α) (k : Nat) (b : β), (∀ n x b, xs[n]? = some x → I (k + n) b → ∃ b', f x b = some (.go b') ∧ I (k + n + 1) b') → I k b → ∃ b', forS f xs b = some (.go b') ∧ I (k + xs.length) b'
  | [], k, b, _, i => ⟨b, rfl, i⟩
  | x :: r, k, b, h, i => by
    obtain ⟨b1, e1, i1⟩ := h 0 x b rfl i
    obtain ⟨b2, e2, i2⟩ := forS_idx (I := I) r (k + 1) b1 (fun n y b' hy ib => by
      have := h (n + 1) y b' (by simpa using hy) (by rw [show k + (n + 1) = k + 1 + n by omega]; exact ib)
      rw [show k + 1 + n + 1 = k + (n + 1) + 1 by omega]
      exact this) i1
    refine ⟨b2, ?_, by rw [List.length_cons, show k + (r.length + 1) = k + 1 + r.length by omega]; exact i2⟩
    show (f x b).bind _ = _
    rw [e1]
    exact e2
theorem rangeZ_get {lo hi : Int} {n : Nat} {x : Int} (h : (rangeZ lo hi)[n]? = some x) : x = lo + (n : Int) ∧ (n : Int) < hi - lo := by
  have l := (List.getElem?_eq_some_iff.mp h).1
  rw [rangeZ_len] at l
  unfold rangeZ at h
  rw [List.getElem?_map, List.getElem?_range l] at h
  exact ⟨(Option.some.inj h).symm, by omega⟩
/-- a loop over range(m) that always goes on -/
theorem forF_rng {β : Type} {f : Int → β → Option β} (I : Nat → β → Prop) {m : Int} {b : β} (h0 : I 0 b) (h : ∀ (n : Nat) b, (n : Int) < m → I n b → ∃ b', f (n : Int) b = some b' ∧ I (n + 1) b') : ∃ b', forF f (rangeZ 0 m) b = some b' ∧ I m.toNat b' := by
  obtain ⟨b', e, i⟩ := forF_idx (f := f) (I := I) (rangeZ 0 m) 0 b (fun n x b hx ib => by
    obtain ⟨rfl, hm⟩ := rangeZ_get hx
    rw [Nat.zero_add] at ib ⊢
    obtain ⟨b', e, i⟩ := h n b (by omega) ib
    exact ⟨b', by rw [show (0 : Int) + (n : Int) = n by omega]; exact e, i⟩) h0
  refine ⟨b', e, ?_⟩
  rw [Nat.zero_add, rangeZ_len, Int.sub_zero] at i
  exact i
theorem forS_rng {ρ β : Type} {f : Int → β → Option (Flow ρ β)} (I : Nat → β → Prop) {m : Int} {b : β} (h0 : I 0 b) (h : ∀ (n : Nat) b, (n : Int) < m → I n b → ∃ b', f (n : Int) b = some (.go b') ∧ I (n + 1) b') : ∃ b', forS f (rangeZ 0 m) b = some (.go b') ∧ I m.toNat b' := by
  obtain ⟨b', e, i⟩ := forS_idx (f := f) (I := I) (rangeZ 0 m) 0 b (fun n x b hx ib => by
    obtain ⟨rfl, hm⟩ := rangeZ_get hx
    rw [Nat.zero_add] at ib ⊢
    obtain ⟨b', e, i⟩ := h n b (by omega) ib
    exact ⟨b', by rw [show (0 : Int) + (n : Int) = n by omega]; exact e, i⟩) h0
  refine ⟨b', e, ?_⟩
  rw [Nat.zero_add, rangeZ_len, Int.sub_zero] at i
  exact i
/-- enumerate, from k on -/
def enumF {α : Type} : Int → List α → List (Int × α)
  | _, [] => []
  | k, x :: r => (k, x) :: enumF (k + 1) r
theorem enumZ_eq {α : Type} (xs : List α) : enumZ xs = enumF 0 xs := by
  have key : ∀ (xs : List α) (k : Nat), ((List.range xs.length).map fun (i : Nat) => ((k + i : Nat) : Int)).zip xs = enumF (k : Int) xs := fun xs => by
    induction xs with
    | nil => intro k; rfl
    | cons x r ih =>
      intro k
      rw [List.length_cons, List.range_succ_eq_map, List.map_cons, List.map_map, List.zip_cons_cons]
      show (((k + 0 : Nat) : Int), x) :: _ = ((k : Int), x) :: enumF ((k : Int) + 1) r
      have := ih (k + 1)
      rw [Nat.add_zero]
      congr 1
      have e : ((k + 1 : Nat) : Int) = (k : Int) + 1 := by omega
      rw [← e, ← this]
      congr 2
      funext i
      show ((k + (i + 1) : Nat) : Int) = ((k + 1 + i : Nat) : Int)
      omega
  have := key xs 0
  unfold enumZ rangeZ
  rw [Int.sub_zero, Int.toNat_natCast]
  refine Eq.trans ?_ this
  congr 2
end TP

namespace TP
open PySem PySem.Spec PyProof.Rows L2
section
variable {α β γ μ : Type}
theorem mapO_eq {f : α → Option β} {g : α → β} : ∀ {xs : List α}, (∀ x ∈ xs, f x = some (g x)) → mapO f xs = some (xs.map g)
  | [], _ => rfl
  | x :: r, h => by
    show (f x).bind _ = _
    rw [h x List.mem_cons_self, Option.bind_some, mapO_eq fun y hy => h y (List.mem_cons_of_mem _ hy)]
    rfl
theorem mapO_ex {f : α → Option β} {R : β → Prop} : ∀ {xs : List α}, (∀ x ∈ xs, ∃ y, f x = some y ∧ R y) → ∃ ys, mapO f xs = some ys ∧ ys.length = xs.length ∧ ∀ y ∈ ys, R y
  | [], _ => ⟨[], rfl, rfl, fun _ h => nomatch h⟩
  | x :: r, h => by
    obtain ⟨y, e, hy⟩ := h x List.mem_cons_self
    obtain ⟨ys, e2, l, hs⟩ := mapO_ex fun y hy => h y (List.mem_cons_of_mem _ hy)
    refine ⟨y :: ys, ?_, congrArg Nat.succ l, fun z hz => ?_⟩
    · show (f x).bind _ = _
      rw [e, Option.bind_some, e2]
      rfl
    · rcases List.mem_cons.mp hz with rfl | hz
      · exact hy
      · exact hs z hz
/-- a comprehension that draws, with a fact of the items -/
theorem mapS_mem {f : α → μ → Option (β × μ)} {R : β → Prop} : ∀ {xs : List α} (s : μ), (∀ x ∈ xs, ∀ s, ∃ y s', f x s = some (y, s') ∧ R y) → ∃ ys s', mapS f xs s = some (ys, s') ∧ ys.length = xs.length ∧ ∀ y ∈ ys, R y
  | [], s, _ => ⟨[], s, rfl, rfl, fun _ h => nomatch h⟩
  | x :: r, s, h => by
    obtain ⟨y, s1, e, hy⟩ := h x List.mem_cons_self s
    obtain ⟨ys, s2, e2, l, hs⟩ := mapS_mem s1 fun y hy => h y (List.mem_cons_of_mem _ hy)
    refine ⟨y :: ys, s2, ?_, congrArg Nat.succ l, fun z hz => ?_⟩
    · show (f x s).bind _ = _
      rw [e]
      show (mapS f r s1).bind _ = _
      rw [e2]
      rfl
    · rcases List.mem_cons.mp hz with rfl | hz
      · exact hy
      · exact hs z hz
theorem forF_mem {f : α → β → Option β} {I : β → Prop} : ∀ {xs : List α} {b : β}, I b → (∀ x ∈ xs, ∀ b, I b → ∃ b', f x b = some b' ∧ I b') → ∃ b', forF f xs b = some b' ∧ I b'
  | [], b, i, _ => ⟨b, rfl, i⟩
  | x :: r, b, i, h => by
    obtain ⟨b1, e, i1⟩ := h x List.mem_cons_self b i
    obtain ⟨b2, e2, i2⟩ := forF_mem i1 fun y hy => h y (List.mem_cons_of_mem _ hy)
    refine ⟨b2, ?_, i2⟩
    show (f x b).bind _ = _
    rw [e]
    exact e2
theorem forS_mem {ρ : Type} {f : α → β → Option (Flow ρ β)} {I : β → Prop} : ∀ {xs : List α} {b : β}, I b → (∀ x ∈ xs, ∀ b, I b → ∃ b', f x b = some (.go b') ∧ I b') → ∃ b', forS f xs b = some (.go b') ∧ I b'
  | [], b, i, _ => ⟨b, rfl, i⟩
  | x :: r, b, i, h => by
    obtain ⟨b1, e, i1⟩ := h x List.mem_cons_self b i
    obtain ⟨b2, e2, i2⟩ := forS_mem i1 fun y hy => h y (List.mem_cons_of_mem _ hy)
    refine ⟨b2, ?_, i2⟩
    show (f x b).bind _ = _
    rw [e]
    exact e2
/-- the loop by places: what is true behind n items -/
theorem forF_take {f : α → β → Option β} {I : List α → β → Prop} {xs : List α} {b : β} (h0 : I [] b) (h : ∀ p x r b, xs = p ++ x :: r → I p b → ∃ b', f x b = some b' ∧ I (p ++ [x]) b') : ∃ b', forF f xs b = some b' ∧ I xs b' := by
  have key : ∀ (r p : List α) (b : β), xs = p ++ r → I p b → ∃ b', forF f r b = some b' ∧ I xs b' := fun r => by
    induction r with
    | nil => intro p b e i; rw [List.append_nil] at e; exact ⟨b, rfl, e ▸ i⟩
    | cons x r ih =>
      intro p b e i
      obtain ⟨b1, e1, i1⟩ := h p x r b e i
      obtain ⟨b2, e2, i2⟩ := ih (p ++ [x]) b1 (by rw [e]; simp) i1
      refine ⟨b2, ?_, i2⟩
      show (f x b).bind _ = _
      rw [e1]
      exact e2
  exact key xs [] b rfl h0
theorem forS_take {ρ : Type} {f : α → β → Option (Flow ρ β)} {I : List α → β → Prop} {xs : List α} {b : β} (h0 : I [] b) (h : ∀ p x r b, xs = p ++ x :: r → I p b → ∃ b', f x b = some (.go b') ∧ I (p ++ [x]) b') : ∃ b', forS f xs b = some (.go b') ∧ I xs b' := by
  have key : ∀ (r p : List α) (b : β), xs = p ++ r → I p b → ∃ b', forS f r b = some (.go b') ∧ I xs b' := fun r => by
    induction r with
    | nil => intro p b e i; rw [List.append_nil] at e; exact ⟨b, rfl, e ▸ i⟩
    | cons x r ih =>
      intro p b e i
      obtain ⟨b1, e1, i1⟩ := h p x r b e i
      obtain ⟨b2, e2, i2⟩ := ih (p ++ [x]) b1 (by rw [e]; simp) i1
      refine ⟨b2, ?_, i2⟩
      show (f x b).bind _ = _
      rw [e1]
      exact e2
  exact key xs [] b rfl h0
theorem str_len1 {c : Nat} : (⟨#[c]⟩ : Str).length = 1 := rfl
theorem str_app_len (x y : Str) : (x ++ y).length = x.length + y.length := by
  show (x.cps ++ y.cps).size = _
  rw [Array.size_append]; rfl
/-- == of data that are compared by their terms -/
theorem EqD.eqvB {K : PySem.W.Frag} {τ : Ty α} {d : α → PyData} {n : Nat} (E : EqD K τ d n) [DecidableEq α] (x y : α) : PyData.eqv (d x) (d y) = decide (x = y) := Bool.eq_iff_iff.mpr ((E.eqv x y).trans decide_eq_true_iff.symm)
theorem atI_lit {xs : List α} {i : Int} (h : 0 ≤ i) (l : i < xs.length) : ∃ x, L2.atI xs i = some x ∧ x ∈ xs := by
  rw [atI_of h]
  obtain ⟨k, rfl⟩ := Int.eq_ofNat_of_zero_le h
  rw [Int.toNat_natCast]
  have hk : k < xs.length := by omega
  exact ⟨xs[k], List.getElem?_eq_getElem hk, List.getElem_mem hk⟩
/-- a loop that looks at each item and may say no -/
theorem forS_all {ρ : Type} {f : α → Unit → Option (Flow ρ Unit)} {p : α → Bool} {r : ρ} : ∀ {xs : List α}, (∀ x ∈ xs, f x () = some (if p x = true then .go () else .ret r)) → forS f xs () = some (if xs.all p = true then .go () else .ret r)
  | [], _ => rfl
  | x :: t, h => by
    show (f x ()).bind _ = _
    rw [h x List.mem_cons_self, bsome]
    cases hp : p x with
    | true =>
      rw [if_pos rfl, List.all_cons, hp, Bool.true_and]
      exact forS_all fun y hy => h y (List.mem_cons_of_mem _ hy)
    | false =>
      rw [if_neg Bool.false_ne_true, List.all_cons, hp, Bool.false_and, if_neg Bool.false_ne_true]
      rfl
theorem rangeZ_mem {lo hi x : Int} (h : x ∈ rangeZ lo hi) : lo ≤ x ∧ x < hi := by
  unfold rangeZ at h
  obtain ⟨i, hi', rfl⟩ := List.mem_map.mp h
  have := List.mem_range.mp hi'
  omega
theorem rangeZ_map (n : Nat) (f : Int → α) : (rangeZ 0 (n : Int)).map f = (List.range n).map fun (k : Nat) => f (k : Int) := by
  unfold rangeZ
  rw [List.map_map, Int.sub_zero, Int.toNat_natCast]
  refine List.map_congr_left fun k _ => ?_
  show f (0 + (k : Int)) = f k
  rw [Int.zero_add]
theorem atI_nat {xs : List α} {k : Nat} {x : α} (h : xs[k]? = some x) : L2.atI xs (k : Int) = some x := by
  rw [atI_of (by omega), Int.toNat_natCast, h]
theorem fmO_eq {f : α → Option (Option β)} {p : α → Bool} {g : α → β} : ∀ {xs : List α}, (∀ x ∈ xs, f x = some (if p x = true then some (g x) else none)) → fmO f xs = some ((xs.filter p).map g)
  | [], _ => rfl
  | x :: t, h => by
    show (f x).bind _ = _
    rw [h x List.mem_cons_self, bsome, fmO_eq fun y hy => h y (List.mem_cons_of_mem _ hy), bsome]
    cases hp : p x with
    | true => rw [if_pos rfl, List.filter_cons_of_pos hp]; rfl
    | false => rw [if_neg Bool.false_ne_true, List.filter_cons_of_neg (by rw [hp]; exact Bool.false_ne_true)]
end
end TP

namespace TP
open PySem PySem.Spec PyProof.Rows L2
/-! ### exceptions -/
/-- a value, or an exception -/
inductive Res (ε α : Type)
  | ok (a : α) | er (e : ε)
deriving DecidableEq
def Res.thn {ε α γ : Type} (g : ε → Option γ) (k : α → Option γ) : Res ε α → Option γ
  | .ok a => k a
  | .er e => g e
section
variable {ε α γ : Type} {g : ε → Option γ} {k : α → Option γ} {y : γ}
theorem rok_inv {a : α} (h : Res.thn g k (.ok a) = some y) : k a = some y := h
theorem rer_inv {e : ε} (h : Res.thn g k (.er e) = some y) : g e = some y := h
end
section
variable {μ : Type} {S : List Addr} {Z0 H0 : Hp} {M : Mu μ} {σ : L2.St} {Z H : Hp} {s s' s1 s2 s3 : μ} {ta tb tc te : TE} {t : TA} {K : PySem.W.Frag} {D : Ends} {u w : TS} {X : Hp → Prop}
/-- the expression raises: X is asked of the heap then -/
def EvE (M : Mu μ) (t : TE) (σ : L2.St) (Z H : Hp) (s : μ) (X : Hp → Prop) (s' : μ) : Prop :=
  ∀ Z1 H1, Same Z Z1 → SameX M.fp H H1 → Same Z1 H1 → M.m s Z1 H1 → ∀ Q : VK, (∀ Z2 H2, Step M.fp Z1 H1 Z2 H2 → M.m s' Z2 H2 → X H2) → t σ H1 Q
def EvAE (M : Mu μ) (t : TA) (σ : L2.St) (Z H : Hp) (s : μ) (X : Hp → Prop) (s' : μ) : Prop :=
  ∀ Z1 H1, Same Z Z1 → SameX M.fp H H1 → Same Z1 H1 → M.m s Z1 H1 → ∀ Q : List V → Hp → Prop, (∀ Z2 H2, Step M.fp Z1 H1 Z2 H2 → M.m s' Z2 H2 → X H2) → t σ H1 Q
def EvTE (M : Mu μ) (t : TT) (σ : L2.St) (Z H : Hp) (s : μ) (X : Hp → Prop) (s' : μ) : Prop :=
  ∀ Z1 H1, Same Z Z1 → SameX M.fp H H1 → Same Z1 H1 → M.m s Z1 H1 → ∀ Q : Bool → Hp → Prop, (∀ Z2 H2, Step M.fp Z1 H1 Z2 H2 → M.m s' Z2 H2 → X H2) → t σ H1 Q
/-- for arguments of which Rs is true the promise raises: the class cls -/
def CallE (M : Mu μ) (sp : Sp) (E : XK) (Rs : Ra M.fp) (s : μ) (cls : Value) (s' : μ) : Prop :=
  ∀ Z H vs, Same Z H → M.m s Z H → Rs.r Z H vs → ∀ Q : VK, (∀ Z2 H2, Step M.fp Z H Z2 H2 → M.m s' Z2 H2 → E cls none H2) → sp vs H Q E
def InitE (M : Mu μ) (C : Addr) (sp : Sp) (E : XK) (Rs : Ra M.fp) (s : μ) (cls : Value) (s' : μ) : Prop :=
  ∀ Z H vs x dx, Same Z H → M.m s Z H → Rs.r Z H vs → H x = some (.ins C dx []) → Z x = none → x ∉ M.fp → ∀ Q : VK, (∀ Z2 H2, Step (x :: M.fp) Z H Z2 H2 → M.m s' Z2 H2 → E cls none H2) → sp (.ref x :: vs) H Q E
theorem eae_head (ha : EvE M ta σ Z H s X s1) : EvAE M (tCons ta t) σ Z H s X s1 := fun Z1 H1 a b c d _ q => ha Z1 H1 a b c d _ q
theorem eae_tail {R : Rr M.fp} (ha : Ev M ta σ Z H s R s1) (hr : EvAE M t σ Z H s1 X s2) : EvAE M (tCons ta t) σ Z H s X s2 :=
  fun Z1 H1 a b c d _ q => ha Z1 H1 a b c d _ fun _ Z2 H2 e m _ => hr Z2 H2 (a.trans e.z) (b.trans e.h) e.s m _ fun Z3 H3 e2 m2 => q Z3 H3 (e.trans e2) m2
theorem eve_args {sp : Sp} {E : XK} {dvs : List V} (ha : EvAE M t σ Z H s X s1) : EvE M (tCall sp dvs E t) σ Z H s X s1 := fun Z1 H1 a b c d _ q => ha Z1 H1 a b c d _ q
theorem eve_cb {r : List V → Hp → VK → Prop} (ha : EvAE M t σ Z H s X s1) : EvE M (tCB r t) σ Z H s X s1 := fun Z1 H1 a b c d _ q => ha Z1 H1 a b c d _ q
theorem eve_tup (ha : EvAE M t σ Z H s X s1) : EvE M (tTup t) σ Z H s X s1 := fun Z1 H1 a b c d _ q => ha Z1 H1 a b c d _ q
theorem eve_lst (ha : EvAE M t σ Z H s X s1) : EvE M (tLst t) σ Z H s X s1 := fun Z1 H1 a b c d _ q => ha Z1 H1 a b c d _ q
theorem eve_left {r : R2} (ha : EvE M ta σ Z H s X s1) : EvE M (tOp r ta tb) σ Z H s X s1 := fun Z1 H1 a b c d _ q => ha Z1 H1 a b c d _ q
theorem eve_right {r : R2} {R : Rr M.fp} (ha : Ev M ta σ Z H s R s1) (hb : EvE M tb σ Z H s1 X s2) : EvE M (tOp r ta tb) σ Z H s X s2 :=
  fun Z1 H1 a b c d _ q => ha Z1 H1 a b c d _ fun _ Z2 H2 e m _ => hb Z2 H2 (a.trans e.z) (b.trans e.h) e.s m _ fun Z3 H3 e2 m2 => q Z3 H3 (e.trans e2) m2
theorem eve_fld {f : Str} (ha : EvE M ta σ Z H s X s1) : EvE M (tFld K ta f) σ Z H s X s1 := fun Z1 H1 a b c d _ q => ha Z1 H1 a b c d _ q
theorem eve_call {sp : Sp} {E : XK} {Rs : Ra M.fp} {cls : Value} (C : CallE M sp E Rs s1 cls s2) (ha : EvA M t σ Z H s Rs s1) : EvE M (tCall sp [] E t) σ Z H s (E cls none) s2 :=
  fun Z1 H1 a b c d Q q => ha Z1 H1 a b c d _ fun vs Z2 H2 e m rs => by
    rw [List.append_nil]
    exact C Z2 H2 vs e.s m rs Q fun Z3 H3 e2 m2 => q Z3 H3 (e.trans e2) m2
theorem eve_meth {α : Type} {τ : Ty α} {x : α} {C' : Addr} {m : Str} {sp : Sp} {E : XK} {Rs : Ra M.fp} {cls : Value} (O : ObjOf τ C' m) (C : CallE M sp E (rac (ty τ x) Rs) s2 cls s3) (hx : Ev M ta σ Z H s (ty τ x) s1) (ha : EvA M t σ Z H s1 Rs s2) : EvE M (tMeth C' m sp [] E ta t) σ Z H s (E cls none) s3 :=
  fun Z1 H1 a b c d Q q => hx Z1 H1 a b c d _ fun v Z2 H2 e mm rv => by
    obtain ⟨p, dx, fs, rfl, hp, l⟩ := O _ _ _ rv
    refine ⟨p, dx, fs, rfl, e.s _ _ hp, l, ha Z2 H2 (a.trans e.z) (b.trans e.h) e.s mm _ fun vs Z3 H3 e2 m2 rs => ?_⟩
    rw [List.append_nil]
    exact C Z3 H3 _ e2.s m2 ⟨_, vs, rfl, τ.mono e2.z rv, rs⟩ Q fun Z4 H4 e3 m3 => q Z4 H4 ((e.trans e2).trans e3) m3
theorem eve_methA {α : Type} {τ : Ty α} {x : α} {C' : Addr} {m : Str} {sp : Sp} {E : XK} (O : ObjOf τ C' m) (hx : Ev M ta σ Z H s (ty τ x) s1) (ha : EvAE M t σ Z H s1 X s2) : EvE M (tMeth C' m sp [] E ta t) σ Z H s X s2 :=
  fun Z1 H1 a b c d Q q => hx Z1 H1 a b c d _ fun v Z2 H2 e mm rv => by
    obtain ⟨p, dx, fs, rfl, hp, l⟩ := O _ _ _ rv
    exact ⟨p, dx, fs, rfl, e.s _ _ hp, l, ha Z2 H2 (a.trans e.z) (b.trans e.h) e.s mm _ fun Z3 H3 e2 m2 => q Z3 H3 (e.trans e2) m2⟩
theorem eve_methO {C' : Addr} {m : Str} {sp : Sp} {E : XK} (hx : EvE M ta σ Z H s X s1) : EvE M (tMeth C' m sp [] E ta t) σ Z H s X s1 := fun Z1 H1 a b c d _ q => hx Z1 H1 a b c d _ q
theorem eve_makeA {C : Addr} {sp : Sp} {E : XK} (ha : EvAE M t σ Z H s X s1) : EvE M (tMake C sp [] E t) σ Z H s X s1 := fun Z1 H1 a b c d _ q => ha Z1 H1 a b c d _ q
theorem eve_makeKA {C : Addr} {n k : Nat} {sp : Sp} {E : XK} {gV : List V → List V → List V} {tk : TA} (ha : EvAE M t σ Z H s X s1) : EvE M (tMakeK C n k sp gV E t tk) σ Z H s X s1 := fun Z1 H1 a b c d _ q => ha Z1 H1 a b c d _ q
theorem Step.drop {S : List Addr} {Z H Z1 H1 : Hp} {x : Addr} (g : Step (x :: S) Z H Z1 H1) (hx : H x = none) : Step S Z H Z1 H1 := g.weak fun a h => by
  rcases List.mem_cons.mp h with e | h
  · exact .inr (e ▸ hx)
  · exact .inl h
theorem eve_make {C : Addr} {sp : Sp} {E : XK} {Rs : Ra M.fp} {cls : Value} (I : InitE M C sp E Rs s1 cls s2) (ha : EvA M t σ Z H s Rs s1) : EvE M (tMake C sp [] E t) σ Z H s (E cls none) s2 :=
  fun Z1 H1 a b c d Q q => ha Z1 H1 a b c d _ fun vs Z2 H2 e m rs x dx hx hd ne => by
    rw [List.append_nil]
    have st := Step.dict (C := C) e.s hx hd ne
    have nf : x ∉ M.fp := fun h => (M.al m x h).1 hx
    refine I Z2 _ vs x dx st.s (M.pure st m) (Rs.st st.pure rs) upd_same (same_none e.s hx) nf _ fun Z3 H3 e2 m2 => ?_
    exact q _ _ (e.trans (((st.pure (S := x :: M.fp)).trans e2).drop hx)) m2
theorem eve_makeK {C : Addr} {n k : Nat} {sp : Sp} {E : XK} {Rs Rk Rs' : Ra M.fp} {cls : Value} {gV : List V → List V → List V} {tk : TA} (I : InitE M C sp E Rs' s2 cls s3) (ha : EvA M t σ Z H s Rs s1) (hk : EvA M tk σ Z H s1 Rk s2)
    (hg : ∀ Z H vs zs x, Rs.r Z H vs → Rk.r Z H zs → vs.length = n ∧ zs.length = k ∧ ∃ ws, gV (.ref x :: vs) zs = .ref x :: ws ∧ Rs'.r Z H ws) : EvE M (tMakeK C n k sp gV E t tk) σ Z H s (E cls none) s3 :=
  fun Z1 H1 a b c d Q q => ha Z1 H1 a b c d _ fun vs Z2 H2 e m rs => hk Z2 H2 (a.trans e.z) (b.trans e.h) e.s m _ fun zs Z3 H3 e1 m1 rk => by
    have rs3 := Rs.st e1 rs
    obtain ⟨l1, l2, _⟩ := hg Z3 H3 vs zs 0 rs3 rk
    refine ⟨l1, l2, fun x dx hx hd ne => ?_⟩
    obtain ⟨_, _, ws, eg, rw'⟩ := hg Z3 H3 vs zs x rs3 rk
    rw [eg]
    have st := Step.dict (C := C) e1.s hx hd ne
    have nf : x ∉ M.fp := fun h => (M.al m1 x h).1 hx
    refine I Z3 _ ws x dx st.s (M.pure st m1) (Rs'.st st.pure rw') upd_same (same_none e1.s hx) nf _ fun Z4 H4 e2 m2 => ?_
    exact q _ _ ((e.trans e1).trans (((st.pure (S := x :: M.fp)).trans e2).drop hx)) m2
/-- defaults for all that are not written -/
theorem ev_makeD {C : Addr} {dvs : List V} {sp : Sp} {E : XK} {Rs Rs' : Ra M.fp} {R : Rr M.fp} (I : InitS M C sp E Rs' s1 R s2) (ha : EvA M t σ Z H s Rs s1) (hg : ∀ Z H vs, Rs.r Z H vs → Rs'.r Z H (vs ++ dvs)) : Ev M (tMake C sp dvs E t) σ Z H s R s2 :=
  fun Z1 H1 a b c d Q q => ha Z1 H1 a b c d _ fun vs Z2 H2 e m rs x dx hx hd ne => by
    have st := Step.dict (C := C) e.s hx hd ne
    have nf : x ∉ M.fp := fun h => (M.al m x h).1 hx
    refine I Z2 _ (vs ++ dvs) x dx st.s (M.pure st m) (hg _ _ _ (Rs.st st.pure rs)) upd_same (same_none e.s hx) nf _ fun Z3 H3 o e2 m2 ho rv => ⟨rfl, ?_⟩
    have hz3 : Z3 x = none := e2.n x (by rw [upd_same]; exact fun z => nomatch z) (same_none e.s hx)
    have e3 : Step M.fp Z2 H2 (upd Z3 x o) H3 := ((st.pure (S := x :: M.fp)).trans e2).freeze hx ho hz3
    refine q _ _ _ (e.trans e3) (M.loc (same_upd hz3) (fun _ _ _ e => e) (fun a ha _ z => ?_) m2) rv
    rw [upd_ne (fun q => nf (by rw [← q]; exact ha))]
    exact z
theorem eve_makeD {C : Addr} {dvs : List V} {sp : Sp} {E : XK} {Rs Rs' : Ra M.fp} {cls : Value} (I : InitE M C sp E Rs' s1 cls s2) (ha : EvA M t σ Z H s Rs s1) (hg : ∀ Z H vs, Rs.r Z H vs → Rs'.r Z H (vs ++ dvs)) : EvE M (tMake C sp dvs E t) σ Z H s (E cls none) s2 :=
  fun Z1 H1 a b c d Q q => ha Z1 H1 a b c d _ fun vs Z2 H2 e m rs x dx hx hd ne => by
    have st := Step.dict (C := C) e.s hx hd ne
    have nf : x ∉ M.fp := fun h => (M.al m x h).1 hx
    refine I Z2 _ (vs ++ dvs) x dx st.s (M.pure st m) (hg _ _ _ (Rs.st st.pure rs)) upd_same (same_none e.s hx) nf _ fun Z3 H3 e2 m2 => ?_
    exact q _ _ (e.trans (((st.pure (S := x :: M.fp)).trans e2).drop hx)) m2
/-! a call that is known not to raise -/
end
def Res.val {ε α : Type} (o : Option (Res ε α)) : Option α := o.bind (Res.thn (fun _ => none) some)
def Res.valS {ε α μ : Type} (o : Option (Res ε α × μ)) : Option (α × μ) := o.bind fun p => Res.thn (fun _ => none) (fun a => some (a, p.2)) p.1
theorem val_inv {ε α : Type} {o : Option (Res ε α)} {v : α} (h : Res.val o = some v) : o = some (.ok v) := by
  cases o with
  | none => cases h
  | some r =>
    cases r with
    | ok a => rw [show a = v from Option.some.inj h]
    | er e => cases h
theorem valS_inv {ε α μ : Type} {o : Option (Res ε α × μ)} {v : α × μ} (h : Res.valS o = some v) : o = some (.ok v.1, v.2) := by
  cases o with
  | none => cases h
  | some r =>
    obtain ⟨r, s⟩ := r
    cases r with
    | ok a => rw [← Option.some.inj h]
    | er e => cases h
section
variable {μ : Type} {S : List Addr} {Z0 H0 : Hp} {M : Mu μ} {σ : L2.St} {Z H : Hp} {s s' s1 s2 s3 : μ} {ta tb tc te : TE} {t : TA} {K : PySem.W.Frag} {D : Ends} {u w : TS} {X : Hp → Prop}
/-! tests that raise -/
theorem ete_val (h : EvE M te σ Z H s X s1) : EvTE M (tB te) σ Z H s X s1 := fun Z1 H1 p q r d _ k => h Z1 H1 p q r d _ k
theorem ete_cmp (h : EvE M te σ Z H s X s1) : EvTE M (tTest te) σ Z H s X s1 := fun Z1 H1 p q r d _ k => h Z1 H1 p q r d _ k
theorem ete_not {tA : TT} (h : EvTE M tA σ Z H s X s1) : EvTE M (tNot tA) σ Z H s X s1 := fun Z1 H1 p q r d _ k => h Z1 H1 p q r d _ k
/-! statements that raise -/
theorem st_setE {g : TG} (P : Pt S Z0 H0 M Z H s) (e : EvE M te σ Z H s X s1) (k : ∀ Z1 H1, Step M.fp Z H Z1 H1 → Pt S Z0 H0 M Z1 H1 s1 → X H1) : tAsg te g D σ H :=
  e Z H (Same.refl _) SameX.refl P.sub P.m _ fun Z1 H1 e m => k Z1 H1 e (P.next e m)
theorem st_retE (P : Pt S Z0 H0 M Z H s) (e : EvE M te σ Z H s X s1) (k : ∀ Z1 H1, Step M.fp Z H Z1 H1 → Pt S Z0 H0 M Z1 H1 s1 → X H1) : tRet te D σ H :=
  e Z H (Same.refl _) SameX.refl P.sub P.m _ fun Z1 H1 e m => k Z1 H1 e (P.next e m)
theorem st_exprE (P : Pt S Z0 H0 M Z H s) (e : EvE M te σ Z H s X s1) (k : ∀ Z1 H1, Step M.fp Z H Z1 H1 → Pt S Z0 H0 M Z1 H1 s1 → X H1) : tDrop te D σ H :=
  e Z H (Same.refl _) SameX.refl P.sub P.m _ fun Z1 H1 e m => k Z1 H1 e (P.next e m)
theorem st_ifE {tt : TT} (P : Pt S Z0 H0 M Z H s) (e : EvTE M tt σ Z H s X s1) (k : ∀ Z1 H1, Step M.fp Z H Z1 H1 → Pt S Z0 H0 M Z1 H1 s1 → X H1) : tIfS tt u w D σ H :=
  e Z H (Same.refl _) SameX.refl P.sub P.m _ fun Z1 H1 e m => k Z1 H1 e (P.next e m)
/-- a field of the thing that is being made -/
theorem ev_selfF {α : Type} {τ : Ty α} {x : α} {i : Nat} {p C dx : Addr} {fs : List (Str × V)} {f : Str} {v : V} (hp : H p = some (.ins C dx fs)) (np : p ∉ M.fp) (hσ : σ[i]? = some (some (.ref p))) (c : Cls K C) (n : NoAttr K C f) (l : fs.lookup f = some v) (hv : τ.r Z v x) : Ev M (tFld K (tVar i) f) σ Z H s (ty τ x) s :=
  fun Z1 H1 a b c' d Q q => ⟨.ref p, hσ, p, C, dx, fs, v, rfl, b _ _ np hp, c, n, l, q _ _ _ (Step.refl c') d (τ.mono a hv)⟩
end
end TP
namespace TP
open PySem PySem.Spec PyProof.Rows L2

theorem pi_tupB {X : Cx} {K : PySem.W.Frag} (hK : X.K = K) {tg l : Expr} {tl : TE} (hl : PE X l tl) : PI X tg l (iTup K tl) := by
  subst hK
  exact pi_tup hl
theorem pi_listB {X : Cx} {K : PySem.W.Frag} (hK : X.K = K) {tg l : Expr} {tl : TE} (hl : PE X l tl) : PI X tg l (iList K tl) := by
  subst hK
  exact pi_list hl
def rLenB (K : PySem.W.Frag) : List V → Hp → VK → Prop := fun xs H Q => ∃ p ys, xs = [.ref p] ∧ (SqL K H p ys ∨ SqT K H p ys) ∧ Q (.int ys.length) H
def rListB (K : PySem.W.Frag) : List V → Hp → VK → Prop := fun xs H Q => ∃ p ys, xs = [.ref p] ∧ (SqL K H p ys ∨ SqT K H p ys) ∧ ∀ l, H l = none → Q (.ref l) (upd H l (.lst ys))
def rTupleB (K : PySem.W.Frag) : List V → Hp → VK → Prop := fun xs H Q => ∃ p ys, xs = [.ref p] ∧ ((SqL K H p ys ∧ ∀ l, H l = none → Q (.ref l) (upd H l (.tup ys))) ∨ (SqT K H p ys ∧ Q (.ref p) H))
theorem pe_fldB {X : Cx} {K : PySem.W.Frag} (hK : X.K = K) {e : Expr} {f : Str} {pos : Pos} {ta : TE} (he : PE X e ta) (hb : attributeBase e f X.env (eval e X.env) = eval e X.env) : PE X (.Attribute e f pos) (tFld K ta f) := by
  subst hK
  exact pe_fld he hb
end TP

namespace TP
open PySem PySem.Spec PyProof.Rows L2
theorem kit_self {K : PySem.W.Frag} {C : Addr} : PySem.W.kitOne K (.ref C) (.ref C) = some true := by
  unfold PySem.W.kitOne
  rw [if_pos (by simp)]
theorem kit_sub {K : PySem.W.Frag} {t : Value} {C : Addr} {v : Bool} (h1 : PySem.W.isClsIn K C = true) (h2 : PySem.W.typeIn K (.ref C) = some (.type "type")) (h3 : PySem.W.subIn K t (.ref C) = some v) (h4 : (t == .ref C) = false) : PySem.W.kitOne K t (.ref C) = some v := by
  unfold PySem.W.kitOne
  rw [h4, if_neg Bool.false_ne_true]
  unfold PySem.W.kitCls
  have h1' : (PySem.W.clsIn K C).isSome = true := h1
  simp only [h1', h2, Bool.true_and]
  simp [h3]
theorem kit_subN {K : PySem.W.Frag} {t : Value} {C : Addr} (h1 : PySem.W.isClsIn K C = true) (h2 : PySem.W.typeIn K (.ref C) = some (.type "type")) (h3 : PySem.W.subIn K t (.ref C) = some false) (h4 : PySem.W.subIn K (.ref C) (.ref C) = some true) : PySem.W.kitOne K t (.ref C) = some false := by
  refine kit_sub h1 h2 h3 ?_
  cases e : (t == .ref C) with
  | false => rfl
  | true =>
    have e' : t = .ref C := beq_iff_eq.mp e
    rw [e', h4] at h3
    cases h3
theorem nf_self {K : PySem.W.Frag} {C : Addr} : PySem.W.notFirst K C (.ref C) = true := by simp [PySem.W.notFirst]
theorem nf_sub {K : PySem.W.Frag} {C : Addr} {t : Value} (h : PySem.W.subIn K t (.ref C) = some false) : PySem.W.notFirst K C t = true := by simp [PySem.W.notFirst, h]
end TP

namespace TP
open PySem PySem.Spec PyProof.Rows L2
/-! ### slots of a block forgotten -/
theorem wipe_at {σ : L2.St} {j : Nat} : ∀ {vs : List Nat}, (wipe σ vs)[j]? = if j ∈ vs then (σ[j]?).map fun _ => none else σ[j]?
  | [] => by simp [wipe]
  | v :: vs => by
    unfold wipe
    by_cases h : v = j
    · subst h
      rw [if_pos List.mem_cons_self]
      by_cases hl : v < σ.length
      · rw [List.getElem?_set_self (by rw [wipe_length]; exact hl), List.getElem?_eq_getElem hl]; rfl
      · rw [List.getElem?_eq_none (by rw [List.length_set, wipe_length]; omega), List.getElem?_eq_none (by omega)]; rfl
    · rw [List.getElem?_set_ne h, wipe_at (vs := vs)]
      by_cases g : j ∈ vs
      · rw [if_pos g, if_pos (List.mem_cons_of_mem _ g)]
      · rw [if_neg g, if_neg (fun z => (List.mem_cons.mp z).elim (fun q => h q.symm) g)]
theorem wpe_z {σ : L2.St} {vs : List Nat} : wipe (wipe σ vs) vs = wipe σ vs := by
  refine List.ext_getElem? fun j => ?_
  rw [wipe_at, wipe_at]
  by_cases g : j ∈ vs
  · rw [if_pos g, if_pos g]; cases σ[j]? <;> rfl
  · rw [if_neg g, if_neg g]
theorem wpe_s {σ σ1 : L2.St} {vs : List Nat} {i : Nat} {x : Option V} (h : wipe σ1 vs = wipe σ vs) (m : i ∈ vs) : wipe (σ1.set i x) vs = wipe σ vs := by
  rw [← h]
  refine List.ext_getElem? fun j => ?_
  rw [wipe_at, wipe_at]
  by_cases g : j ∈ vs
  · rw [if_pos g, if_pos g]
    by_cases e : i = j
    · subst e
      by_cases hl : i < σ1.length
      · rw [List.getElem?_set_self hl, List.getElem?_eq_getElem hl]; rfl
      · rw [List.getElem?_eq_none (by rw [List.length_set]; omega), List.getElem?_eq_none (by omega)]
    · rw [List.getElem?_set_ne e]
  · rw [if_neg g, if_neg g, List.getElem?_set_ne (fun e => g (by rw [← e]; exact m))]
end TP

namespace TP
open PySem PySem.Spec PyProof.Rows L2
/-- the slots written out -/
theorem st_norm {nx : L2.St → Hp → Prop} {σ σ' : L2.St} {H : Hp} (e : σ = σ') (h : nx σ' H) : nx σ H := by
  rw [e]; exact h
end TP

/-! != of instances with an own ==, and == and != of such an instance with anything -/
namespace TPN
open PySem PySem.Spec PyProof.Rows L2
section
variable {M : Model} {prog : Program} {w : World} {A : Around} {E : Value → Shared → Prop} {s : Shared} {K : PySem.W.Frag} {x C f : Addr} {ox : Obj} {od : Option Obj} {b tb : Value}
theorem ifBound_ne {args : List Value} {Q : Option Value → Shared → Prop} (X : K.In s.heap) (I : PySem.W.InstAt s.heap x ox C od) (hs : PySem.W.findIn K (.ref C) "__ne__" = some (some (.builtin "object.__ne__")))
    (h : wpAny M A (call (.builtin "object.__ne__") (.ref x :: args)) (fun v => Q (some v)) E s) : wpAny M A (callSpecialIfBound? (.ref x) "__ne__" args) Q E s := by
  simp only [callSpecialIfBound?, bindSpecialIfBound?]
  refine wpAny_holding (wpAny_bind (wpAny_bind (wpAny_bind (I.type.here ((PySem.W.looks_findIn X hs).here ?_)))))
  refine wpAny_bind (wpAny_askSetting (wpAny_ite ?_))
  have fin : wpAny M A (call (.builtin "object.__ne__") ([.ref x] ++ args) >>= fun v => pure (some v)) Q E s := wpAny_bind (wpAny_mono h (fun v s' h' => wpAny_pure h') fun _ _ h' => h')
  split
  · exact wpAny_bind (wpAny_of_eq (F.cmp_object.ne.bind _) (wpAny_pure (by exact fin)))
  · exact wpAny_tryCatch (wpAny_bind (wpAny_of_eq (F.cmp_object.ne.bind _) (wpAny_pure (by exact fin))))
theorem entry_ne {Q : Fin → Shared → Prop} (hu : A.units < cLine) (X : K.In s.heap) (I : PySem.W.InstAt s.heap x ox C od) (hs : PySem.W.findIn K (.ref C) "__eq__" = some (some (.ref f))) (hf : PySem.W.isFn K (.ref f) = true)
    (h : wpAny M A (call (.ref f) [.ref x, b]) (fun v s' => ∃ r, v = .bool r ∧ Q (.done (.ret (.bool (!r)))) s') E s) : wpAny M A (Builtin.«object.__ne__» ⟨[.ref x, b], []⟩) Q E s := by
  unfold Builtin.«object.__ne__»
  repeat (first
    | with_reducible refine wpAny_cRoomFor hu ?_
    | (refine wpAny_bind (m := callSpecialIfBound? (.ref x) (Str.ofString "__eq__") [b]) (PySem.W.ifBound_K X I hs hf (wpAny_mono h (fun r s' hr => by
        obtain ⟨b, rfl, hq⟩ := hr
        repeat (first | exact hq | exact wpAny_pure hq | exact wpAny_truthy_bool hq | (refine wpAny_bind (m := truthy (.bool _)) (wpAny_truthy_bool ?_)) | wp_step)) fun _ _ e => e)))
    | wp_step)
theorem call_ne {Q : Value → Shared → Prop} (hu : A.units + 1 < cLine) (X : K.In s.heap) (I : PySem.W.InstAt s.heap x ox C od) (hm : PySem.W.mroIn K C (.type "object") = some true) (hs : PySem.W.findIn K (.ref C) "__eq__" = some (some (.ref f))) (hf : PySem.W.isFn K (.ref f) = true)
    (h : wpAny (model prog w) A.in1 (call (.ref f) [.ref x, b]) (fun v s' => ∃ r, v = .bool r ∧ Q (.bool (!r)) s') E s) :
    wpAny (model prog w) A (call (.builtin "object.__ne__") [.ref x, b]) Q E s :=
  wpAny_call (codeAny_call_builtin F.cmp_object.ne.plain F.cmpEntry_ne (PySem.W.check_slot F.cmpKind_ne F.cmpSplit_ne (I.type.andThen (PySem.W.looks_mroIn X hm)) (F.cmpArgs_ne _ _) (entry_ne (A := A.in1) hu X I hs hf (wpAny_mono h (fun v s' hv => by
    obtain ⟨r, e, q⟩ := hv
    exact ⟨r, e, q⟩) fun _ _ e => e))))
theorem ne_K {Q : Value → Shared → Prop} (hu : A.units + 1 < cLine) (X : K.In s.heap) (I : PySem.W.InstAt s.heap x ox C od) (hb : PySem.W.Looks (model prog w) s.heap (typeOf b) tb) (hn : PySem.W.notFirst K C tb = true)
    (hm : PySem.W.mroIn K C (.type "object") = some true) (hne : PySem.W.findIn K (.ref C) "__ne__" = some (some (.builtin "object.__ne__")))
    (hs : PySem.W.findIn K (.ref C) "__eq__" = some (some (.ref f))) (hf : PySem.W.isFn K (.ref f) = true)
    (h : wpAny (model prog w) A.in1 (call (.ref f) [.ref x, b]) (fun v s' => ∃ r, v = .bool r ∧ Q (.bool (!r)) s') E s) : wpAny (model prog w) A (richCompare .NotEq (.ref x) b) Q E s := by
  have one : wpAny (model prog w) A (tryCompare (.ref x) "__ne__" b) (fun r s' => ∃ v, r = some v ∧ Q v s') E s := by
    unfold tryCompare
    refine wpAny_bind (ifBound_ne X I hne (call_ne hu X I hm hs hf (wpAny_mono h (fun v s' hv => ?_) fun _ _ e => e)))
    obtain ⟨r, rfl, q⟩ := hv
    exact ⟨r, rfl, wpAny_pure ⟨_, rfl, q⟩⟩
  unfold richCompare
  simp only [oneThing_ref]
  refine wpAny_holding (wpAny_bind (wpAny_cRoomFor (by omega) ?_))
  rw [cmpInfo_NotEq]
  dsimp only
  refine wpAny_bind (I.type.here (wpAny_bind (hb.here ?_)))
  split
  · rename_i q
    have e : PySem.W.subIn K tb (.ref C) = some false := by
      rcases Bool.or_eq_true_iff.mp hn with e | e
      · rw [beq_iff_eq.mp e] at q; simp at q
      · exact beq_iff_eq.mp e
    refine wpAny_bind ((PySem.W.looks_subIn X e).here ?_)
    simp only [Bool.false_eq_true, if_false]
    refine wpAny_bind (wpAny_mono one (fun r s' z => ?_) fun _ _ e => e)
    obtain ⟨v, rfl, hq⟩ := z
    exact wpAny_pure hq
  · refine wpAny_bind (wpAny_pure ?_)
    simp only [Bool.false_eq_true, if_false]
    refine wpAny_bind (wpAny_mono one (fun r s' z => ?_) fun _ _ e => e)
    obtain ⟨v, rfl, hq⟩ := z
    exact wpAny_pure hq
end
end TPN
namespace TPN
open PySem PySem.Spec PyProof.Rows L2
/-- == (neg false) or != of x, an instance of a class with an own ==, with anything -/
def rOwnE (K : PySem.W.Frag) (C : Addr) (neg : Bool) (sp : Sp) (E : XK) : R2 := fun x y H Q => ∃ a dx fs t, x = .ref a ∧ H a = some (.ins C dx fs) ∧ TyX K H y t ∧ PySem.W.notFirst K C t = true ∧ sp [x, y] H (fun z H' => ∃ b, z = .bl b ∧ Q (.bl (b != neg)) H') E
theorem nf_self {K : PySem.W.Frag} {C : Addr} : PySem.W.notFirst K C (.ref C) = true := by simp [PySem.W.notFirst]
theorem op_ownE {X : Cx} {CX : CXT} {C f : Addr} {fd : FuncData} {ps : List Str} {sp : Sp} {n : Nat} {E : XK} (M : Meth X.K C "__eq__" f) (F : FnOk X.prog X.w X.K X.mg X.base CX n f fd ps sp) (hr : Room n X.A)
    (hb : Binds X.K fd ps []) (hx : Passes CX X E) : OpR X (compareOp .Eq) (rOwnE X.K C false sp E) := by
  intro pins s σ H x y v u Q I rx ry h
  obtain ⟨a, dx, fs, t, rfl, ha, ty, hn, q⟩ := h
  cases (show v = Value.ref a from rx)
  obtain ⟨mA, J, _⟩ := ins_get I.hok ha
  obtain ⟨od, J, _⟩ := J.look
  obtain ⟨P, Z, p, _⟩ := kit_of I ry ty
  obtain ⟨m, hF⟩ := I.fr
  show wpAny (model X.prog X.w) X.A (richCompare .Eq (.ref a) u) _ _ _
  refine PySem.W.cmp_K (op := .Eq) (tb := t) hr.units0 hF I.ok.mod.kin J (Z.ty _ _ I.kIn p) hn M.at_ M.fn ?_
  refine wpAny_mono (run_fn (Q := fun z H' => ∃ b, z = .bl b ∧ Q (.bl (b != false)) H') (us := [.ref a, u]) (vs := [.ref a, y]) F hr hb .nil hx I (.cons rfl (.cons ry .nil)) (by simpa using q)) (fun w s' z => ?_) fun _ _ x => x
  obtain ⟨z', H', I', rz, b, ez, qz⟩ := z
  subst ez
  cases (show w = Value.bool b from rz)
  exact ⟨.bl b, H', I', rfl, by simpa using qz⟩
theorem op_ownNE {X : Cx} {CX : CXT} {C f : Addr} {fd : FuncData} {ps : List Str} {sp : Sp} {n : Nat} {E : XK} (hm : PySem.W.mroIn X.K C (.type "object") = some true) (hne : PySem.W.findIn X.K (.ref C) "__ne__" = some (some (.builtin "object.__ne__")))
    (M : Meth X.K C "__eq__" f) (F : FnOk X.prog X.w X.K X.mg X.base CX n f fd ps sp) (hr : Room (n + 1) X.A)
    (hb : Binds X.K fd ps []) (hx : ∀ (pins : List (Addr × Obj)) (σ : L2.St) (H : Hp) (s : Shared) (e : Value) (s' : Shared), Inv X pins σ H s → CX X.stack H s E e s' → X.xe e s') : OpR X (compareOp .NotEq) (rOwnE X.K C true sp E) := by
  intro pins s σ H x y v u Q I rx ry h
  obtain ⟨a, dx, fs, t, rfl, ha, ty, hn, q⟩ := h
  cases (show v = Value.ref a from rx)
  obtain ⟨mA, J, _⟩ := ins_get I.hok ha
  obtain ⟨od, J, _⟩ := J.look
  obtain ⟨P, Z, p, _⟩ := kit_of I ry ty
  show wpAny (model X.prog X.w) X.A (richCompare .NotEq (.ref a) u) _ _ _
  have hr1 : Room n X.A.in1 := hr.in1
  refine ne_K (A := X.A) (tb := t) (by have := hr1.units0; exact this) I.kIn J (Z.ty _ _ I.kIn p) hn hm hne M.at_ M.fn ?_
  have e0 : Env0 X.prog X.w X.K X.mg X.base X.A.in1 X.stack s H := I.env0.in1
  have r2 : Vals [V.ref a, y] [Value.ref a, u] := .cons rfl (.cons ry .nil)
  have hl : ([Value.ref a, u] : List Value).length = ps.length := by rw [← r2.length]; exact F.len _ _ _ _ q
  refine wpAny_call (codeAny_mono (F.run X.A.in1 X.stack s H ⟨[.ref a, u], []⟩ [.ref a, u] [.ref a, y] _ E hr1 e0 (by
    have := hb s [.ref a, u] I.kIn (by simpa using hl)
    simpa using this) r2 q) fun r s' hq => ?_)
  cases r with
  | error e => exact hx pins σ H s e s' I hq
  | ok fl =>
    cases fl with
    | ret w =>
      obtain ⟨z, H', I', rz, b, ez, qz⟩ := I.after hq
      subst ez
      cases (show w = Value.bool b from rz)
      exact ⟨b, rfl, .bl (!b), H', I', rfl, by simpa using qz⟩
    | next => exact False.elim hq
    | brk => exact False.elim hq
    | cont => exact False.elim hq
end TPN

namespace TPN
open PySem PySem.Spec PyProof.Rows L2 PySem.SeqAt
section
variable {prog : Program} {w : World} {A : Around} {E : Value → Shared → Prop} {s : Shared} {K : PySem.W.Frag} {y C f : Addr} {oy : Obj} {od : Option Obj}
/-- None == an instance: its own == is asked -/
theorem eq_none_ref {Q : Value → Shared → Prop} (hu : A.units < cLine) (X : K.In s.heap) (I : PySem.W.InstAt s.heap y oy C od) (hsub : PySem.W.subIn K (.ref C) (.type "NoneType") = some false)
    (hs : PySem.W.findIn K (.ref C) "__eq__" = some (some (.ref f))) (hf : PySem.W.isFn K (.ref f) = true)
    (h : wpAny (model prog w) A (call (.ref f) [.ref y, .none]) (fun v s' => ∃ r, v = .bool r ∧ Q (.bool r) s') E s) : wpAny (model prog w) A (richCompare .Eq .none (.ref y)) Q E s := by
  have one : wpAny (model prog w) A (tryCompare .none "__eq__" (.ref y)) (fun r s' => r = none ∧ s' = s) E s :=
    wpAny_tryCompare_declines (show s.TypeIs .none "NoneType" from rfl) F.slot_NoneType_eq (call_gives F.slot_NoneType_eq rfl F.entry_NoneType_eq (F.args_NoneType_eq_2 _ _) (NoneType___eq___none_ref_0 y) ⟨rfl, rfl, rfl⟩)
  have two : wpAny (model prog w) A (tryCompare (.ref y) "__eq__" .none) (fun r s' => ∃ v, r = some v ∧ Q v s') E s := by
    unfold tryCompare
    refine wpAny_bind (PySem.W.ifBound_K X I hs hf (wpAny_mono h (fun v s' hv => ?_) fun _ _ e => e))
    obtain ⟨r, rfl, q⟩ := hv
    exact wpAny_pure ⟨_, rfl, q⟩
  have e0 : oneThing? .Eq .none (.ref y) = none := rfl
  simp only [richCompare, cmpInfo_Eq, e0]
  refine wpAny_holding (wpAny_bind (wpAny_cRoomFor hu ?_))
  refine wpAny_bind (wpAny_typeOf (show s.TypeIs .none "NoneType" from rfl) ?_)
  refine wpAny_bind (I.type.here ?_)
  have fin : wpAny (model prog w) A (tryCompare .none "__eq__" (.ref y)) (fun r s' => r = none ∧ s' = s) E s := one
  split
  · refine wpAny_bind ((PySem.W.looks_subIn X hsub).here ?_)
    simp only [Bool.false_eq_true, if_false, Bool.not_false, if_true]
    refine wpAny_bind (m := tryCompare .none _ (.ref y)) (wpAny_mono one (fun r s1 z => ?_) fun _ _ e => e)
    obtain ⟨z1, z2⟩ := z
    subst z1
    subst z2
    refine wpAny_bind (m := tryCompare (.ref y) _ .none) (wpAny_mono two (fun r s2 z => ?_) fun _ _ e => e)
    obtain ⟨v, rfl, q⟩ := z
    exact wpAny_pure q
  · rename_i q
    exact absurd (by simp) q
end
/-- == of what may be None or an instance of the class at C with an own == -/
def rOptE (K : PySem.W.Frag) (C : Addr) (sp : Sp) (E : XK) : R2 := fun x y H Q => (x = .non ∧ y = .non ∧ Q (.bl true) H) ∨ (x = .non ∧ (∃ a dx fs, y = .ref a ∧ H a = some (.ins C dx fs)) ∧ sp [y, x] H (fun z H' => ∃ b, z = .bl b ∧ Q (.bl b) H') E) ∨ rOwnE K C false sp E x y H Q
theorem op_optE {X : Cx} {CX : CXT} {C f : Addr} {fd : FuncData} {ps : List Str} {sp : Sp} {n : Nat} {E : XK} (hn : PySem.W.subIn X.K (.ref C) (.type "NoneType") = some false) (M : Meth X.K C "__eq__" f) (F : FnOk X.prog X.w X.K X.mg X.base CX n f fd ps sp) (hr : Room n X.A)
    (hb : Binds X.K fd ps []) (hx : Passes CX X E) : OpR X (compareOp .Eq) (rOptE X.K C sp E) := by
  intro pins s σ H x y v u Q I rx ry h
  rcases h with ⟨rfl, rfl, q⟩ | ⟨rfl, ⟨a, dx, fs, rfl, ha⟩, q⟩ | h
  · exact op_eq pins s σ H .non .non v u Q I rx ry ⟨rfl, by simpa using q⟩
  · cases rx
    cases (show u = Value.ref a from ry)
    obtain ⟨mA, J, _⟩ := ins_get I.hok ha
    obtain ⟨od, J, _⟩ := J.look
    show wpAny (model X.prog X.w) X.A (richCompare .Eq .none (.ref a)) _ _ _
    refine eq_none_ref hr.units0 I.kIn J hn M.at_ M.fn ?_
    refine wpAny_mono (run_fn (Q := fun z H' => ∃ b, z = .bl b ∧ Q (.bl b) H') (us := [.ref a, .none]) (vs := [.ref a, .non]) F hr hb .nil hx I (.cons rfl (.cons rfl .nil)) (by simpa using q)) (fun w s' z => ?_) fun _ _ x => x
    obtain ⟨z', H', I', rz, b, ez, qz⟩ := z
    subst ez
    cases (show w = Value.bool b from rz)
    exact ⟨b, rfl, .bl b, H', I', rfl, qz⟩
  · exact op_ownE M F hr hb hx pins s σ H x y v u Q I rx ry h
end TPN

namespace TP
open PySem PySem.Spec PyProof.Rows L2
/-! ### data by what == says of it -/
structure EqW (K : PySem.W.Frag) {α : Type} (τ : Ty α) (d : α → PyData) (n : Nat) : Prop where
  dp : ∀ Z H v x, Same Z H → τ.r Z v x → Dp K H v (d x)
  lay : ∀ Z v x, τ.r Z v x → (d x).canLay0 = true
  dep : ∀ x, (d x).depth ≤ n
def dLst {α : Type} (d : α → PyData) (xs : List α) : PyData := .list (xs.map d)
def dTup {α : Type} (d : α → PyData) (xs : List α) : PyData := .tuple (xs.map d)
def dP1 {α : Type} (d : α → PyData) (x : α) : PyData := .tuple [d x]
def dP2 {α β : Type} (d : α → PyData) (e : β → PyData) (x : α × β) : PyData := .tuple [d x.1, e x.2]
def dP3 {α β γ : Type} (d : α → PyData) (e : β → PyData) (f : γ → PyData) (x : α × β × γ) : PyData := .tuple [d x.1, e x.2.1, f x.2.2]
def dP4 {α β γ δ : Type} (d : α → PyData) (e : β → PyData) (f : γ → PyData) (g : δ → PyData) (x : α × β × γ × δ) : PyData := .tuple [d x.1, e x.2.1, f x.2.2.1, g x.2.2.2]
def dNon (_ : Unit) : PyData := .none
section
variable {K : PySem.W.Frag} {α β γ δ : Type} {τ : Ty α} {υ : Ty β} {φ : Ty γ} {ψ : Ty δ} {d : α → PyData} {e : β → PyData} {f : γ → PyData} {g : δ → PyData} {n m k l : Nat}
theorem EqD.w (E : EqD K τ d n) : EqW K τ d n := ⟨E.dp, E.lay, E.dep⟩
theorem EqW.all (E : EqW K τ d n) {Z H : Hp} (sz : Same Z H) : ∀ {vs : List V} {xs : List α}, All (τ.r Z) vs xs → DpAll K H vs (xs.map d)
  | _, _, .nil => .nil
  | _, _, .cons h t => .cons (E.dp _ _ _ _ sz h) (E.all sz t)
theorem EqW.lays (E : EqW K τ d n) {Z : Hp} : ∀ {vs : List V} {xs : List α}, All (τ.r Z) vs xs → PyData.canLayAll0 (xs.map d) = true
  | _, _, .nil => by simp [PyData.canLayAll0]
  | _, _, .cons h t => by
    have h1 := E.lay _ _ _ h
    have h2 := E.lays t
    simp [PyData.canLayAll0, h1, h2]
theorem EqW.deps (E : EqW K τ d n) : ∀ xs : List α, PyData.depthAll (xs.map d) ≤ n
  | [] => by simp [PyData.depthAll]
  | x :: r => by
    have h1 := E.dep x
    have h2 := E.deps r
    simp only [List.map_cons, PyData.depthAll]
    omega
theorem eqw_list (E : EqW K τ d n) : EqW K (yList τ) (dLst d) (n + 1) where
  dp := fun Z H v x sz ⟨a, vs, e, h, t, _⟩ => by subst e; exact .lst (SqL.of (sz _ _ h)) (E.all sz t)
  lay := fun Z v x ⟨a, vs, e, h, t, _⟩ => by simpa [PyData.canLay0, dLst] using E.lays t
  dep := fun x => by have := E.deps x; simp only [PyData.depth, dLst]; omega
theorem eqw_tup (E : EqW K τ d n) : EqW K (yTup K τ) (dTup d) (n + 1) where
  dp := fun Z H v x sz ⟨a, vs, e, h, t, _⟩ => by subst e; exact .tup (seqT_same sz h) (E.all sz t)
  lay := fun Z v x ⟨a, vs, e, h, t, _⟩ => by simpa [PyData.canLay0, dTup] using E.lays t
  dep := fun x => by have := E.deps x; simp only [PyData.depth, dTup]; omega
theorem eqw_p1 (E : EqW K τ d n) : EqW K (yP1 K τ) (dP1 d) (n + 1) where
  dp := fun Z H v x sz ⟨a, v1, e, h, h1⟩ => by subst e; exact .tup (seqT_same sz h) (.cons (E.dp _ _ _ _ sz h1) .nil)
  lay := fun Z v x ⟨a, v1, e, h, h1⟩ => by simp [PyData.canLay0, PyData.canLayAll0, dP1, E.lay _ _ _ h1]
  dep := fun x => by have := E.dep x; simp only [PyData.depth, PyData.depthAll, dP1]; omega
theorem eqw_p2 (E : EqW K τ d n) (F : EqW K υ e m) : EqW K (yP2 K τ υ) (dP2 d e) (max n m + 1) where
  dp := fun Z H v x sz ⟨a, v1, v2, e, h, h1, h2⟩ => by subst e; exact .tup (seqT_same sz h) (.cons (E.dp _ _ _ _ sz h1) (.cons (F.dp _ _ _ _ sz h2) .nil))
  lay := fun Z v x ⟨a, v1, v2, e, h, h1, h2⟩ => by simp [PyData.canLay0, PyData.canLayAll0, dP2, E.lay _ _ _ h1, F.lay _ _ _ h2]
  dep := fun x => by have := E.dep x.1; have := F.dep x.2; simp only [PyData.depth, PyData.depthAll, dP2]; omega
theorem eqw_p3 (E : EqW K τ d n) (F : EqW K υ e m) (G : EqW K φ f k) : EqW K (yP3 K τ υ φ) (dP3 d e f) (max n (max m k) + 1) where
  dp := fun Z H v x sz ⟨a, v1, v2, v3, e, h, h1, h2, h3⟩ => by subst e; exact .tup (seqT_same sz h) (.cons (E.dp _ _ _ _ sz h1) (.cons (F.dp _ _ _ _ sz h2) (.cons (G.dp _ _ _ _ sz h3) .nil)))
  lay := fun Z v x ⟨a, v1, v2, v3, e, h, h1, h2, h3⟩ => by simp [PyData.canLay0, PyData.canLayAll0, dP3, E.lay _ _ _ h1, F.lay _ _ _ h2, G.lay _ _ _ h3]
  dep := fun x => by have := E.dep x.1; have := F.dep x.2.1; have := G.dep x.2.2; simp only [PyData.depth, PyData.depthAll, dP3]; omega
theorem eqw_p4 (E : EqW K τ d n) (F : EqW K υ e m) (G : EqW K φ f k) (I : EqW K ψ g l) : EqW K (yP4 K τ υ φ ψ) (dP4 d e f g) (max n (max m (max k l)) + 1) where
  dp := fun Z H v x sz ⟨a, v1, v2, v3, v4, e, h, h1, h2, h3, h4⟩ => by subst e; exact .tup (seqT_same sz h) (.cons (E.dp _ _ _ _ sz h1) (.cons (F.dp _ _ _ _ sz h2) (.cons (G.dp _ _ _ _ sz h3) (.cons (I.dp _ _ _ _ sz h4) .nil))))
  lay := fun Z v x ⟨a, v1, v2, v3, v4, e, h, h1, h2, h3, h4⟩ => by simp [PyData.canLay0, PyData.canLayAll0, dP4, E.lay _ _ _ h1, F.lay _ _ _ h2, G.lay _ _ _ h3, I.lay _ _ _ h4]
  dep := fun x => by have := E.dep x.1; have := F.dep x.2.1; have := G.dep x.2.2.1; have := I.dep x.2.2.2; simp only [PyData.depth, PyData.depthAll, dP4]; omega
theorem eqw_non : EqW K yNon dNon 0 := ⟨fun _ _ _ x _ h => by cases h; exact .non, fun _ _ _ _ => rfl, fun _ => Nat.le_refl _⟩
theorem eqw_opt (E : EqW K τ d n) : EqW K (yOpt τ) (optD d) n where
  dp := fun Z H v x sz h => match x, h with
    | none, h => by rw [show v = .non from h]; exact .non
    | some x, h => E.dp _ _ _ _ sz h.1
  lay := fun Z v x h => match x, h with
    | none, h => rfl
    | some x, h => E.lay _ _ _ h.1
  dep := fun x => match x with
    | none => Nat.zero_le _
    | some x => E.dep x
theorem EqW.gd {fp : List Addr} (E : EqW K τ d n) (x : α) : GD K (ty (fp := fp) τ x) (d x) := fun _ _ _ sz h => ⟨E.dp _ _ _ _ sz h, E.lay _ _ _ h⟩
theorem EqW.gdl {fp : List Addr} (E : EqW K τ d n) (xs : List α) : GD K (li (fp := fp) τ xs) (dLst d xs) := fun _ _ _ sz h => by
  obtain ⟨p, vs, rfl, g, t, _⟩ := rdl sz h
  exact ⟨.lst (SqL.of g) (E.all sz t), by simpa [PyData.canLay0, dLst] using E.lays t⟩
theorem EqW.dpt (E : EqW K τ d n) (h : n ≤ 64) (x : α) : (d x).depth ≤ 64 := Nat.le_trans (E.dep x) h
theorem EqW.dpl (E : EqW K τ d n) (h : n + 1 ≤ 64) (xs : List α) : (dLst d xs).depth ≤ 64 := by have := E.deps xs; simp only [PyData.depth, dLst]; omega
end
section
variable {μ : Type} {M : Mu μ} {σ : L2.St} {Z H : Hp} {s s' s1 s2 s3 : μ} {ta tb tc te : TE} {t : TA} {K : PySem.W.Frag}
theorem ev_eqW {R R' : Rr M.fp} {c c' : PyData} (G : GD K R c) (G' : GD K R' c') (l : c.depth ≤ 64) (l' : c'.depth ≤ 64) (ha : Ev M ta σ Z H s R s1) (hb : Ev M tb σ Z H s1 R' s2) : Ev M (tOp (rEqD K) ta tb) σ Z H s (ty yBool (PyData.eqv c c')) s2 :=
  ev_op ha hb fun _ _ _ _ sz e1 e2 _ q => by
    obtain ⟨d1, k1⟩ := G _ _ _ sz e1
    obtain ⟨d2, k2⟩ := G' _ _ _ sz e2
    exact ⟨c, c', d1, d2, shaped_of k1 l (Nat.le_refl _), shaped_of k2 l' (Nat.le_refl _), q _ _ _ (Step.refl sz) rfl⟩
theorem ev_neW {R R' : Rr M.fp} {c c' : PyData} (G : GD K R c) (G' : GD K R' c') (l : c.depth ≤ 64) (l' : c'.depth ≤ 64) (ha : Ev M ta σ Z H s R s1) (hb : Ev M tb σ Z H s1 R' s2) : Ev M (tOp (rNeD K) ta tb) σ Z H s (ty yBool (!PyData.eqv c c')) s2 :=
  ev_op ha hb fun _ _ _ _ sz e1 e2 _ q => by
    obtain ⟨d1, k1⟩ := G _ _ _ sz e1
    obtain ⟨d2, k2⟩ := G' _ _ _ sz e2
    exact ⟨c, c', d1, d2, shaped_of k1 l (Nat.le_refl _), shaped_of k2 l' (Nat.le_refl _), q _ _ _ (Step.refl sz) rfl⟩
theorem ev_cmpS {F : Str → Str → Bool} {x y : Str} (ha : Ev M ta σ Z H s (ty yStr x) s1) (hb : Ev M tb σ Z H s1 (ty yStr y) s2) : Ev M (tOp (fun x y H Q => ∃ i j, x = .str i ∧ y = .str j ∧ Q (.bl (F i j)) H) ta tb) σ Z H s (ty yBool (F x y)) s2 :=
  ev_op ha hb fun _ _ _ _ sz e1 e2 _ q => ⟨x, y, e1.1, e2.1, q _ _ _ (Step.refl sz) rfl⟩
theorem ev_chainG {R1 R0 R3 : Rr M.fp} {r r' : R2} {p q : Bool} (h1 : ∀ Z H x y, Same Z H → R1.r Z H x → R0.r Z H y → ∀ Q : VK, Q (.bl p) H → r x y H Q) (h2 : ∀ Z H x y, Same Z H → R0.r Z H x → R3.r Z H y → ∀ Q : VK, Q (.bl q) H → r' x y H Q)
    (ha : Ev M ta σ Z H s R1 s1) (hb : Ev M tb σ Z H s1 R0 s1) (hc : Ev M tc σ Z H s1 R3 s1) : Ev M (tChain r r' ta tb tc) σ Z H s (ty yBool (p && q)) s1 :=
  fun Z1 H1 a b c d Q k => ha Z1 H1 a b c d _ fun v Z2 H2 e m rv => hb Z2 H2 (a.trans e.z) (b.trans e.h) e.s m _ fun w Z3 H3 e2 m2 rw => by
    have e3 := e.trans e2
    refine h1 Z3 H3 v w e2.s (R1.st e2 rv) rw _ ⟨p, rfl, ?_⟩
    cases p with
    | true => rw [if_pos rfl]; exact hc Z3 H3 (a.trans e3.z) (b.trans e3.h) e3.s m2 _ fun u Z4 H4 e4 m4 ru => h2 Z4 H4 w u e4.s (R0.st e4 rw) ru _ (k _ Z4 H4 (e3.trans e4) m4 rfl)
    | false => rw [if_neg Bool.false_ne_true]; exact k _ Z3 H3 e3 m2 rfl
/-- the third part is read only where the first two hold -/
theorem ev_chainB {i j : Int} {b : Bool} {o : Option Bool} {p r : Int → Int → Bool} (ha : Ev M ta σ Z H s (ty yInt i) s1) (hb : Ev M tb σ Z H s1 (ty yInt j) s1) (hc : p i j = true → ∀ y, o = some y → ∃ k, y = r j k ∧ Ev M tc σ Z H s1 (ty yInt k) s1) (h : (if p i j = true then o else some false) = some b) :
    Ev M (tChain (rI0 fun i j => .bl (p i j)) (rI0 fun i j => .bl (r i j)) ta tb tc) σ Z H s (ty yBool b) s1 := by
  cases hp : p i j with
  | false =>
    rw [if_neg (by rw [hp]; exact Bool.false_ne_true)] at h
    have hb' := Option.some.inj h
    subst hb'
    intro Z1 H1 a b c d Q q
    exact ha Z1 H1 a b c d _ fun v Z2 H2 e m rv => hb Z2 H2 (a.trans e.z) (b.trans e.h) e.s m _ fun w Z3 H3 e2 m2 rw => ⟨i, j, rv, rw, p i j, rfl, by
      rw [hp, if_neg Bool.false_ne_true]
      exact q _ Z3 H3 (e.trans e2) m2 rfl⟩
  | true =>
    rw [if_pos hp] at h
    obtain ⟨k, rfl, hk⟩ := hc hp b h
    have := ev_chainO (b := true) (o := none) (p := p) (r := r) ha hb (fun _ => hk)
    rw [hp, Bool.true_and] at this
    exact this
theorem ev_chainS {F G : Str → Str → Bool} {x y z : Str} (ha : Ev M ta σ Z H s (ty yStr x) s1) (hb : Ev M tb σ Z H s1 (ty yStr y) s1) (hc : Ev M tc σ Z H s1 (ty yStr z) s1) :
    Ev M (tChain (fun x y H Q => ∃ i j, x = .str i ∧ y = .str j ∧ Q (.bl (F i j)) H) (fun x y H Q => ∃ i j, x = .str i ∧ y = .str j ∧ Q (.bl (G i j)) H) ta tb tc) σ Z H s (ty yBool (F x y && G y z)) s1 :=
  ev_chainG (R1 := ty yStr x) (R0 := ty yStr y) (R3 := ty yStr z) (fun _ _ _ _ _ e1 e2 _ q => ⟨x, y, e1.1, e2.1, q⟩) (fun _ _ _ _ _ e1 e2 _ q => ⟨y, z, e1.1, e2.1, q⟩) ha hb hc
theorem ev_isB {x y : Bool} (ha : Ev M ta σ Z H s (ty yBool x) s1) (hb : Ev M tb σ Z H s1 (ty yBool y) s2) : Ev M (tOp rIsB ta tb) σ Z H s (ty yBool (decide (x = y))) s2 :=
  ev_op ha hb fun _ _ _ _ sz e1 e2 _ q => ⟨x, y, e1, e2, q _ _ _ (Step.refl sz) rfl⟩
theorem ev_notB {x y : Bool} (ha : Ev M ta σ Z H s (ty yBool x) s1) (hb : Ev M tb σ Z H s1 (ty yBool y) s2) : Ev M (tOp rNotB ta tb) σ Z H s (ty yBool (!decide (x = y))) s2 :=
  ev_op ha hb fun _ _ _ _ sz e1 e2 _ q => ⟨x, y, e1, e2, q _ _ _ (Step.refl sz) rfl⟩
theorem all_nil {α : Type} {R : V → α → Prop} {vs : List V} {xs : List α} (h : All R vs xs) (e : vs = []) : xs = [] := by
  cases h with
  | nil => rfl
  | cons _ _ => cases e
theorem ev_catT {α : Type} {τ : Ty α} {xs ys : List α} (ha : Ev M ta σ Z H s (ty (yTup K τ) xs) s1) (hb : Ev M tb σ Z H s1 (ty (yTup K τ) ys) s2) (l : xs.length + ys.length ≤ sizeLine) : Ev M (tOp (rCatA K) ta tb) σ Z H s (ty (yTup K τ) (xs ++ ys)) s2 :=
  ev_op ha hb fun Z H v w sz ⟨a, vs, e1, h1, t1, l1⟩ ⟨b, ws, e2, h2, t2, l2⟩ _ q =>
    ⟨a, b, vs, ws, e1, e2, seqT_same sz h1, seqT_same sz h2, by rw [t1.len, t2.len]; exact l,
      fun e => q _ _ _ (Step.refl sz) ⟨b, ws, rfl, h2, by rw [all_nil t1 e]; exact t2, by rw [all_nil t1 e]; exact l2⟩,
      fun _ e => q _ _ _ (Step.refl sz) ⟨a, vs, rfl, h1, by rw [all_nil t2 e, List.append_nil]; exact t1, by rw [all_nil t2 e, List.append_nil]; exact l1⟩,
      fun _ _ p hp => q _ _ _ (Step.new sz hp) ⟨p, _, rfl, sqT_new, (t1.app t2).imp fun _ _ => τ.mono (same_upd (same_none sz hp)), by rw [List.length_append]; exact l⟩⟩
theorem ev_ord {x : Str} (ha : Ev M ta σ Z H s (ty yStr x) s1) (l : x.length = 1) : Ev M (tCB (fun xs H Q => ∃ x, xs = [.str x] ∧ x.length = 1 ∧ Q (.int (x.cps.getD 0 0 : Nat)) H) (tCons ta tNil)) σ Z H s (ty yInt ((x.cps.getD 0 0 : Nat) : Int)) s1 :=
  ev_cb (eva_cons ha eva_nil) fun _ _ vs sz ⟨v, r, e, h, e2⟩ Q q => ⟨x, by rw [e, h.1, show r = [] from e2], l, q _ _ _ (Step.refl sz) rfl⟩
/-- == and != of an instance by its own == with anything -/
theorem ev_ownE {α : Type} {τ : Ty α} {x : α} {R0 : Rr M.fp} {C : Addr} {t : Value} {sp : Sp} {E : XK} {b neg : Bool} (O : ∀ Z v x, τ.r Z v x → ∃ a dx fs, v = .ref a ∧ Z a = some (.ins C dx fs)) (tx : ∀ Z H v, Same Z H → R0.r Z H v → TyX K H v t) (hn : PySem.W.notFirst K C t = true)
    (c : CallS M sp E (rac (ty τ x) (rac R0 ra0)) s2 (ty yBool b) s3) (ha : Ev M ta σ Z H s (ty τ x) s1) (hb : Ev M tb σ Z H s1 R0 s2) : Ev M (tOp (TPN.rOwnE K C neg sp E) ta tb) σ Z H s (ty yBool (b != neg)) s3 :=
  fun Z1 H1 a' b' c' d' Q q => ha Z1 H1 a' b' c' d' _ fun v Z2 H2 e m rv => hb Z2 H2 (a'.trans e.z) (b'.trans e.h) e.s m _ fun w Z3 H3 e2 m2 rw => by
    have rv3 := τ.mono e2.z rv
    obtain ⟨p, dx, fs, rfl, hp⟩ := O _ _ _ rv3
    exact ⟨p, dx, fs, t, rfl, e2.s _ _ hp, tx _ _ _ e2.s rw, hn, c Z3 H3 _ e2.s m2 ⟨_, _, rfl, rv3, _, _, rfl, rw, rfl⟩ _ fun u Z4 H4 e3 m3 ru => ⟨b, ru, q _ Z4 H4 ((e.trans e2).trans e3) m3 rfl⟩⟩
/-- the class of what may be None -/
def clsO {α : Type} (c : Value) : Option α → Value
  | none => .type "NoneType"
  | some _ => c
theorem tx_opt {fp : List Addr} {α : Type} {τ : Ty α} {c : Value} (h : ∀ (x : α) Z H v, Same Z H → (ty (fp := fp) τ x).r Z H v → TyX K H v c) {x : Option α} : ∀ Z H v, Same Z H → (ty (fp := fp) (yOpt τ) x).r Z H v → TyX K H v (clsO c x) := fun Z H v sz e => match x, e with
  | none, e => by rw [show v = .non from e]; exact .base .non
  | some y, e => h y Z H v sz e.1
theorem tx_non {fp : List Addr} {x : Unit} : ∀ Z H v, Same Z H → (ty (fp := fp) yNon x).r Z H v → TyX K H v (.type "NoneType") := fun _ _ _ _ h => by rw [show _ = V.non from h]; exact .base .non
theorem kit_opt {α : Type} {c t : Value} {b : Bool} (h0 : PySem.W.kitOne K (.type "NoneType") t = some false) (h1 : PySem.W.kitOne K c t = some b) (x : Option α) : PySem.W.kitOne K (clsO c x) t = some (x.isSome && b) := match x with
  | none => h0
  | some _ => h1
theorem nf_opt {α : Type} {C : Addr} {c : Value} (h0 : PySem.W.notFirst K C (.type "NoneType") = true) (h1 : PySem.W.notFirst K C c = true) (x : Option α) : PySem.W.notFirst K C (clsO c x) = true := match x with
  | none => h0
  | some _ => h1
def optEqO {α : Type} (f : α → Option α → Option Bool) : Option α → Option α → Option Bool
  | none, none => some true
  | none, some y => f y none
  | some x, y => f x y
theorem ev_optE {α : Type} {τ : Ty α} {a b : Option α} {r : Bool} {f : α → Option α → Option Bool} {C : Addr} {t : Option α → Value} {sp : Sp} {E : XK} (h : optEqO f a b = some r) (O : ∀ Z v x, τ.r Z v x → ∃ a dx fs, v = .ref a ∧ Z a = some (.ins C dx fs))
    (tx : ∀ (y : Option α) Z H v, Same Z H → (ty (fp := M.fp) (yOpt τ) y).r Z H v → TyX K H v (t y)) (hn : ∀ y, PySem.W.notFirst K C (t y) = true) (c : ∀ x y r, f x y = some r → CallS M sp E (rac (ty τ x) (rac (ty (yOpt τ) y) ra0)) s2 (ty yBool r) s2)
    (ha : Ev M ta σ Z H s (ty (yOpt τ) a) s1) (hb : Ev M tb σ Z H s1 (ty (yOpt τ) b) s2) : Ev M (tOp (TPN.rOptE K C sp E) ta tb) σ Z H s (ty yBool r) s2 :=
  fun Z1 H1 a' b' c' d' Q q => ha Z1 H1 a' b' c' d' _ fun v Z2 H2 e m rv => hb Z2 H2 (a'.trans e.z) (b'.trans e.h) e.s m _ fun w Z3 H3 e2 m2 rw => by
    have rv3 := (yOpt τ).mono e2.z rv
    match a, b, h, rv3, rw with
    | none, none, h, rv3, rw => exact .inl ⟨rv3, rw, q _ Z3 H3 (e.trans e2) m2 (congrArg V.bl (Option.some.inj h))⟩
    | none, some y, h, rv3, rw =>
      obtain ⟨p, dx, fs, rfl, hp⟩ := O _ _ _ rw.1
      exact .inr (.inl ⟨rv3, ⟨p, dx, fs, rfl, e2.s _ _ hp⟩, c y none r h Z3 H3 _ e2.s m2 ⟨_, _, rfl, rw.1, _, _, rfl, rv3, rfl⟩ _ fun u Z4 H4 e3 m3 ru => ⟨r, ru, q _ Z4 H4 ((e.trans e2).trans e3) m3 rfl⟩⟩)
    | some x, y, h, rv3, rw =>
      obtain ⟨p, dx, fs, rfl, hp⟩ := O _ _ _ rv3.1
      exact .inr (.inr ⟨p, dx, fs, t y, rfl, e2.s _ _ hp, tx _ _ _ _ e2.s rw, hn y, c x y r h Z3 H3 _ e2.s m2 ⟨_, _, rfl, rv3.1, _, _, rfl, rw, rfl⟩ _ fun u Z4 H4 e3 m3 ru => ⟨r, ru, q _ Z4 H4 ((e.trans e2).trans e3) m3 (by rw [show (r != false) = r by cases r <;> rfl]; exact rfl)⟩⟩)
end
end TP

namespace TP
open PySem PySem.Spec PyProof.Rows L2
/-! ### a list that never changes, or a tuple -/
def iSeq (K : PySem.W.Frag) (tl : TE) : TI := fun σ H R => tl σ H fun x H1 => (∃ a, x = .ref a ∧ (∃ xs, SqL K H1 a xs) ∧ R (Itl K a) H1) ∨ (∃ a, x = .ref a ∧ (∃ xs, SqT K H1 a xs) ∧ R (Itt K a) H1)
theorem pi_seq {X : Cx} {tg l : Expr} {tl : TE} (hl : PE X l tl) : PI X tg l (iSeq X.K tl) := by
  refine ⟨fun pins s σ H R I h => ?_⟩
  refine thn (hl.run pins s σ H _ I h) fun v s1 ⟨x, H1, I1, r1, q1⟩ => ?_
  rcases q1 with q1 | q1
  · obtain ⟨a, e, ⟨xs, hq⟩, q⟩ := q1
    subst e
    cases r1
    obtain ⟨its, rv, p, hz⟩ := I1.list hq
    refine wpAny_pyIter_list p.isList ?_
    refine ⟨s1.heap.objs.size, [s1.heap.objs.size], _, _, H1, rfl, I1.kept (t' := s1.toks) fun b o e => Heap.get?_push_of_some _ e, turn_list a _, ⟨_, Heap.get?_push_size _ rfl, rfl, rfl⟩, fun b hb => ?_, q⟩
    have e : b = s1.heap.objs.size := by simpa using hb
    subst e
    exact I1.fpOk (Nat.le_refl _) (I1.hok.fresh (Nat.le_refl _))
  · obtain ⟨a, e, ⟨xs, hq⟩, q⟩ := q1
    subst e
    cases r1
    obtain ⟨its, rv, p, hz⟩ := I1.tuple hq
    refine wpAny_pyIter_tuple (show s1.heap.IsTuple a its.toArray from p) ?_
    refine ⟨s1.heap.objs.size, [s1.heap.objs.size], _, _, H1, rfl, I1.kept (t' := s1.toks) fun b o e => Heap.get?_push_of_some _ e, turn_tuple a _, ⟨_, Heap.get?_push_size _ rfl, rfl, rfl⟩, fun b hb => ?_, q⟩
    have e : b = s1.heap.objs.size := by simpa using hb
    subst e
    exact I1.fpOk (Nat.le_refl _) (I1.hok.fresh (Nat.le_refl _))
theorem pi_seqB {X : Cx} {K : PySem.W.Frag} (hK : X.K = K) {tg l : Expr} {tl : TE} (hl : PE X l tl) : PI X tg l (iSeq K tl) := by
  subst hK
  exact pi_seq hl
section
variable {K : PySem.W.Frag} {α : Type}
def ySeq (K : PySem.W.Frag) (τ : Ty α) : Ty (List α) := ⟨fun Z v xs => ∃ a vs, v = .ref a ∧ (Z a = some (.lst vs) ∨ SqT K Z a vs) ∧ All (τ.r Z) vs xs ∧ xs.length ≤ sizeLine,
  fun s ⟨a, vs, e, h, t, l⟩ => ⟨a, vs, e, h.imp (fun h => s _ _ h) (seqT_same s), t.imp fun _ _ => τ.mono s, l⟩⟩
theorem nn_seq {τ : Ty α} : NonNil (ySeq K τ) := fun _ _ _ ⟨_, _, e, _⟩ => by rw [e]; exact fun z => nomatch z
section
variable {μ : Type} {M : Mu μ} {σ : L2.St} {Z H : Hp} {s s1 : μ} {ta : TE} {τ : Ty α} {xs : List α} {X : Hp → Hp → Prop}
theorem ev_seqL (h : Ev M ta σ Z H s (ty (yList τ) xs) s1) : Ev M ta σ Z H s (ty (ySeq K τ) xs) s1 := h.weak fun _ _ _ _ ⟨a, vs, e, h, t, l⟩ => ⟨a, vs, e, .inl h, t, l⟩
theorem ev_seqT (h : Ev M ta σ Z H s (ty (yTup K τ) xs) s1) : Ev M ta σ Z H s (ty (ySeq K τ) xs) s1 := h.weak fun _ _ _ _ ⟨a, vs, e, h, t, l⟩ => ⟨a, vs, e, .inr h, t, l⟩
theorem ei_seq (ha : Ev M ta σ Z H s (ty (ySeq K τ) xs) s1) : EvI M X (iSeq K ta) σ Z H s τ xs s1 :=
  fun Z1 H1 a b c d R q => ha Z1 H1 a b c d _ fun v Z2 H2 e m ⟨p, vs, ev, h, t, l⟩ => by
    subst ev
    rcases h with h | h
    · exact .inl ⟨p, rfl, ⟨vs, SqL.of (e.s _ _ h)⟩, q _ Z2 H2 e m (walk_at walk_list (fun Z' H' z sz _ => SqL.of (sz _ _ (z _ _ h))) t l)⟩
    · exact .inr ⟨p, rfl, ⟨vs, seqT_same e.s h⟩, q _ Z2 H2 e m (walk_at walk_tup (fun Z' H' z sz _ => seqT_same sz (seqT_same z h)) t l)⟩
theorem ev_lenS {r : List V → Hp → VK → Prop} (hr : ∀ xs H Q, (∃ p ys, xs = [.ref p] ∧ (SqL K H p ys ∨ SqT K H p ys) ∧ Q (.int ys.length) H) → r xs H Q) (ha : Ev M ta σ Z H s (ty (ySeq K τ) xs) s1) : Ev M (tCB r (tCons ta tNil)) σ Z H s (ty yInt (xs.length : Nat)) s1 :=
  ev_cb (eva_cons ha eva_nil) fun _ _ _ sz ⟨v, r, e, h, e2⟩ _ q => by
    cases e2; cases e
    obtain ⟨p, vs, rfl, g, t, _⟩ := h
    exact hr _ _ _ ⟨p, vs, rfl, g.imp (fun g => SqL.of (sz _ _ g)) (seqT_same sz), by rw [t.len]; exact q _ _ _ (Step.refl sz) rfl⟩
theorem en_list_ofS {r : List V → Hp → VK → Prop} (hr : ∀ xs H Q, (∃ p ys, xs = [.ref p] ∧ (SqL K H p ys ∨ SqT K H p ys) ∧ ∀ l, H l = none → Q (.ref l) (upd H l (.lst ys))) → r xs H Q) (ha : Ev M ta σ Z H s (ty (ySeq K τ) xs) s1) : EvN M (tCB r (tCons ta tNil)) σ Z H s τ xs s1 :=
  en_cb (eva_cons ha eva_nil) fun _ _ _ sz ⟨v, r, e, h, e2⟩ => by
    cases e2; cases e
    obtain ⟨p, vs, rfl, g, t, l⟩ := h
    exact ⟨vs, t, l, fun Q q => hr _ _ _ ⟨p, vs, rfl, g.imp (fun g => SqL.of (sz _ _ g)) (seqT_same sz), q⟩⟩
theorem ev_tuple_ofS {r : List V → Hp → VK → Prop} (hr : ∀ xs H Q, (∃ p ys, xs = [.ref p] ∧ ((SqL K H p ys ∧ ∀ l, H l = none → Q (.ref l) (upd H l (.tup ys))) ∨ (SqT K H p ys ∧ Q (.ref p) H))) → r xs H Q) (ha : Ev M ta σ Z H s (ty (ySeq K τ) xs) s1) : Ev M (tCB r (tCons ta tNil)) σ Z H s (ty (yTup K τ) xs) s1 :=
  ev_cb (eva_cons ha eva_nil) fun _ _ _ sz ⟨v, r, e, h, e2⟩ _ q => by
    cases e2; cases e
    obtain ⟨p, vs, rfl, g, t, l⟩ := h
    rcases g with g | g
    · exact hr _ _ _ ⟨p, vs, rfl, .inl ⟨SqL.of (sz _ _ g), fun d hd => q _ _ _ (Step.new sz hd) ⟨d, vs, rfl, sqT_new, t.imp fun _ _ => τ.mono (same_upd (same_none sz hd)), l⟩⟩⟩
    · exact hr _ _ _ ⟨p, vs, rfl, .inr ⟨seqT_same sz g, q _ _ _ (Step.refl sz) ⟨p, vs, rfl, g, t, l⟩⟩⟩
end
end
end TP

namespace TP
open PySem PySem.Spec PyProof.Rows L2
/-- a list grows by a tuple's items -/
def rExtS (K : PySem.W.Frag) : V → List V → Hp → VK → Prop := fun x vs H Q => ∃ l b xs zs, x = .ref l ∧ vs = [.ref b] ∧ H l = some (.lst xs) ∧ SqT K H b zs ∧ xs.length + zs.length ≤ sizeLine ∧ Q .non (upd H l (.lst (xs ++ zs)))
open PySem.AutoSeq1 in
theorem ext_tup (l b : Addr) (xs ys : Array Value) (n m : Nat) (dd : Option Addr) (sl : Array (Option Value)) (k0 : ¬ (!xs.isEmpty && Builtin.List.listTooLong (xs.size + ys.size)) = true) (k1 : xs.size ≤ sizeLine) (k2 : xs.size + ys.size ≤ sizeLine + 1) :
    Meets (Builtin.«list.extend» ⟨[.ref l, .ref b], []⟩) (fun _ R s => (s.heap.get? b = some ⟨.type "tuple", dd, .seq ys m, sl⟩ ∧ s.heap.get? l = some ⟨.type "list", none, .seq xs n, #[]⟩) ∧
      R (.ok (.ret Value.none)) { s with heap := s.heap.update l (Obj.mapSeq fun z => z ++ ys), toks := s.toks }) :=
  .of_wp fun prog w A R s ⟨⟨gb, gl⟩, q⟩ => by
    obtain ⟨hp, ge, dr, tk, os⟩ := s
    have s1 := PySem.AutoSeq1.idx_int
    have s2 := PySem.AutoSeq1.sub_list_list
    have s3 := PySem.AutoSeq1.sub_tuple_list
    have s4 := PySem.AutoSeq1.sub_tuple_tuple
    have s5 := PySem.AutoSeq1.sub_list_tuple
    have tot : (xs ++ ys).size ≤ sizeLine + 1 := by simpa [Array.size_append] using k2
    wp_walk using (wpAny_updateSeq gl rfl (hz := k1) (_hz' := tot)), wpAny_loadPart' gl, wpAny_loadPart' gb
    exact ⟨_, rfl, q⟩
theorem mt_extendT {X : Cx} : MtM X "list.extend" (rExtS X.K) := by
  intro pins s σ H x vs v us Q I rx rv g
  obtain ⟨l, b, xs, zs, rfl, rfl, gl, gb, gz, q⟩ := g
  cases rx
  obtain ⟨u, rfl, ru⟩ := rv.one
  cases ru
  obtain ⟨_, its, n, r, _, e⟩ := I.lstM gl
  obtain ⟨js, r2, ⟨⟨oc, od, ot, os⟩, e2, e3, m, e4⟩, _⟩ := I.tuple gb
  dsimp only at e3 e4
  subst e3 e4
  have k1 := r.length
  have k2 := r2.length
  have fits : its.toArray.size + js.toArray.size ≤ sizeLine := by
    rw [List.size_toArray, List.size_toArray]
    omega
  have open_ : ¬ (!its.toArray.isEmpty && Builtin.List.listTooLong (its.toArray.size + js.toArray.size)) = true := by
    rw [notLongL fits, Bool.and_false]
    decide
  refine call_meets F.slot_list_extend ⟨_, e, rfl⟩ F.entry_list_extend (F.args_list_extend_2 _ _) (ext_tup l b its.toArray js.toArray n m _ _ open_ (by omega) (by omega)) ⟨⟨e2, e⟩, .non, _, I.lset (its' := its ++ js) gl e (by simp) (r.append r2) (by rw [List.length_append]; omega), rfl, q⟩
section
variable {μ : Type} {S : List Addr} {Z0 H0 : Hp} {M : Mu μ} {σ : L2.St} {Z H : Hp} {s s1 s2 : μ} {ta tb te : TE} {K : PySem.W.Frag} {D : Ends} {α : Type} {τ : Ty α} {xs ys : List α} {p : Addr}
theorem st_extendT {i : Nat} (P : Pt S Z0 H0 M Z H s) (o : Own S H0 M.fp Z H τ p xs) (hσ : σ[i]? = some (some (.ref p))) (e : Ev M te σ Z H s (ty (yTup K τ) ys) s1) (l : xs.length + ys.length ≤ sizeLine)
    (k : ∀ Z1 H1, Step (p :: M.fp) Z H Z1 H1 → Pt S Z0 H0 M Z1 H1 s1 → Own S H0 M.fp Z1 H1 τ p (xs ++ ys) → D.nx σ H1) : tDrop (tBM K "list" (rExtS K) (tVar i) (tCons te tNil)) D σ H := by
  obtain ⟨vs, h, t⟩ := o.ex
  refine ⟨.ref p, hσ, .inl ⟨rfl, _, .inl (.inl h)⟩, e Z H (Same.refl _) SameX.refl P.sub P.m _ fun v Z1 H1 e m ⟨q, ws, ev, hq, t2, _⟩ => ?_⟩
  subst ev
  have o1 := o.next e
  have P1 := P.next e m
  refine ⟨p, q, vs, ws, rfl, rfl, e.h _ _ o.n h, seqT_same e.s hq, by rw [t.len, t2.len]; exact l, ?_⟩
  exact k _ _ (step2 e o1.z) (P1.set o1.z o.n (.inr o.mine)) ⟨⟨_, upd_same, (t.imp fun _ _ => τ.mono e.z).app t2⟩, o1.z, o.n, o.mine, by rw [List.length_append]; exact l⟩
/-- a sign of a text -/
def atSi (x : Str) (i : Int) : Option Str := (atI x.cps.toList i).map fun c => ⟨#[c]⟩
theorem ev_ixS {x y : Str} {i : Int} (ha : Ev M ta σ Z H s (ty yStr x) s1) (hb : Ev M tb σ Z H s1 (ty yInt i) s2) (e : atSi x i = some y) : Ev M (tOp rIxS ta tb) σ Z H s (ty yStr y) s2 :=
  ev_op ha hb fun _ _ _ _ sz e1 e2 _ q => by
    obtain ⟨c, hc, rfl⟩ := Option.map_eq_some_iff.mp e
    have ok := (show (PyData.strOk x && decide (x.length ≤ sizeLine)) = true from e1.2)
    rw [Bool.and_eq_true] at ok
    refine ⟨x, i, c, e1.1, e2, of_decide_eq_true ok.2, hc, q _ _ _ (Step.refl sz) ⟨rfl, ?_⟩⟩
    show (PyData.strOk ⟨#[c]⟩ && decide ((⟨#[c]⟩ : Str).length ≤ sizeLine)) = true
    have h1 : c ∈ x.cps.toList := by
      unfold atI at hc
      obtain ⟨j, _, hj⟩ := Option.bind_eq_some_iff.mp hc
      exact List.mem_of_getElem? hj
    have h2 := ok.1
    unfold PyData.strOk at h2 ⊢
    rw [Array.all_eq_true_iff_forall_mem] at h2
    rw [Bool.and_eq_true]
    refine ⟨?_, by show decide (1 ≤ sizeLine) = true; decide⟩
    simpa using h2 c (by simpa using h1)
end
end TP

namespace TP
open PySem PySem.Spec PyProof.Rows L2
/-! ### things that change: products -/
def muX {α β : Type} (A : Mu α) (B : Mu β) : Mu (α × β) where
  fp := A.fp ++ B.fp
  m := fun s Z H => A.m s.1 Z H ∧ B.m s.2 Z H ∧ ∀ a ∈ A.fp, a ∉ B.fp
  al := fun ⟨h, g, _⟩ a ha => by
    rcases List.mem_append.mp ha with ha | ha
    · exact A.al h a ha
    · exact B.al g a ha
  loc := fun sz hk hn ⟨h, g, d⟩ => ⟨A.loc sz (fun a ha => hk a (List.mem_append_left _ ha)) (fun a ha => hn a (List.mem_append_left _ ha)) h, B.loc sz (fun a ha => hk a (List.mem_append_right _ ha)) (fun a ha => hn a (List.mem_append_right _ ha)) g, d⟩
theorem Mu.keep {μ : Type} {N : Mu μ} {s : μ} {F : List Addr} {Z H Z' H' : Hp} (m : N.m s Z H) (e : Step F Z H Z' H') (d : ∀ a ∈ N.fp, a ∉ F) : N.m s Z' H' :=
  N.loc e.z (fun a ha o h => e.h a o (d a ha) h) (fun a _ h z => e.n a h z) m
section
variable {μ ν ι : Type} {S : List Addr} {Z0 H0 : Hp} {M : Mu μ} {N : Mu ν} {σ : L2.St} {Z H : Hp} {s s' s1 s2 s3 : μ} {c c' : ν} {ta tb tc te : TE} {t : TA} {K : PySem.W.Frag} {D : Ends}
/-- the attribute f of the thing at p -/
def MFld {α : Type} (N : Mu ν) (p C : Addr) (f : Str) (τ : Ty α) (pr : ν → α) : Prop := ∀ c Z H, N.m c Z H → ∃ dx fs w, H p = some (.ins C dx fs) ∧ fs.lookup f = some w ∧ τ.r Z w (pr c)
theorem ev_mfld {α : Type} {τ : Ty α} {p C : Addr} {f : Str} {pr : ν → α} {i : Nat} (hm : ∀ Z H, M.m s Z H → N.m c Z H) (F : MFld N p C f τ pr) (cl : Cls K C) (n : NoAttr K C f) (e : σ[i]? = some (some (.ref p))) : Ev M (tFld K (tVar i) f) σ Z H s (ty τ (pr c)) s :=
  fun Z1 H1 _ _ c' d Q q => ⟨_, e, by
    obtain ⟨dx, fs, w, hp, l, r⟩ := F c Z1 H1 (hm Z1 H1 d)
    exact ⟨p, C, dx, fs, w, rfl, hp, cl, n, l, q w Z1 H1 (Step.refl c') d r⟩⟩
/-- the attribute f is itself a thing that changes, at q -/
def MRef (N : Mu ν) (p C : Addr) (f : Str) (q : Addr) : Prop := ∀ c Z H, N.m c Z H → ∃ dx fs, H p = some (.ins C dx fs) ∧ fs.lookup f = some (.ref q)
theorem ev_mref {p C q : Addr} {f : Str} {i : Nat} (hm : ∀ Z H, M.m s Z H → N.m c Z H) (F : MRef N p C f q) (cl : Cls K C) (n : NoAttr K C f) (e : σ[i]? = some (some (.ref p))) : Ev M (tFld K (tVar i) f) σ Z H s (isRef q) s :=
  fun Z1 H1 _ _ c' d Q k => ⟨_, e, by
    obtain ⟨dx, fs, hp, l⟩ := F c Z1 H1 (hm Z1 H1 d)
    exact ⟨p, C, dx, fs, _, rfl, hp, cl, n, l, k _ Z1 H1 (Step.refl c') d rfl⟩⟩
/-- the thing at p is an instance of the class at C without an own attribute m -/
def MObj (N : Mu ν) (p C : Addr) (m : Str) : Prop := ∀ c Z H, N.m c Z H → ∃ dx fs, H p = some (.ins C dx fs) ∧ fs.lookup m = none
theorem ev_mmeth {p C' : Addr} {m : Str} {sp : Sp} {E : XK} {Rs : Ra M.fp} {R : Rr M.fp} (hm : ∀ Z H, M.m s1 Z H → N.m c Z H) (O : MObj N p C' m) (cs : CallS M sp E (rac (isRef p) Rs) s2 R s3) (hx : Ev M ta σ Z H s (isRef p) s1) (ha : EvA M t σ Z H s1 Rs s2) : Ev M (tMeth C' m sp [] E ta t) σ Z H s R s3 :=
  fun Z1 H1 a b c' d Q q => hx Z1 H1 a b c' d _ fun v Z2 H2 e mm rv => by
    obtain ⟨dx, fs, hp, l⟩ := O _ Z2 H2 (hm Z2 H2 mm)
    have ev : v = .ref p := rv
    subst ev
    refine ⟨p, dx, fs, rfl, hp, l, ha Z2 H2 (a.trans e.z) (b.trans e.h) e.s mm _ fun vs Z3 H3 e2 m2 rs => ?_⟩
    rw [List.append_nil]
    exact cs Z3 H3 _ e2.s m2 ⟨_, vs, rfl, rfl, rs⟩ Q fun v Z4 H4 e3 m3 rv' => q v Z4 H4 ((e.trans e2).trans e3) m3 rv'
theorem ev_mprop {p C' : Addr} {m : Str} {sp : Sp} {E : XK} {R : Rr M.fp} (hm : ∀ Z H, M.m s1 Z H → N.m c Z H) (O : MObj N p C' m) (cs : CallS M sp E (rac (isRef p) ra0) s1 R s2) (hx : Ev M ta σ Z H s (isRef p) s1) : Ev M (tProp C' sp [] E ta) σ Z H s R s2 :=
  fun Z1 H1 a b c' d Q q => hx Z1 H1 a b c' d _ fun v Z2 H2 e mm rv => by
    obtain ⟨dx, fs, hp, l⟩ := O _ Z2 H2 (hm Z2 H2 mm)
    have ev : v = .ref p := rv
    subst ev
    exact ⟨p, dx, fs, rfl, hp, cs Z2 H2 _ e.s mm ⟨_, [], rfl, rfl, rfl⟩ Q fun v Z4 H4 e3 m3 rv' => q v Z4 H4 (e.trans e3) m3 rv'⟩
theorem eve_mmeth {p C' : Addr} {m : Str} {sp : Sp} {E : XK} {Rs : Ra M.fp} {cls : Value} (hm : ∀ Z H, M.m s1 Z H → N.m c Z H) (O : MObj N p C' m) (cs : CallE M sp E (rac (isRef p) Rs) s2 cls s3) (hx : Ev M ta σ Z H s (isRef p) s1) (ha : EvA M t σ Z H s1 Rs s2) : EvE M (tMeth C' m sp [] E ta t) σ Z H s (E cls none) s3 :=
  fun Z1 H1 a b c' d Q q => hx Z1 H1 a b c' d _ fun v Z2 H2 e mm rv => by
    obtain ⟨dx, fs, hp, l⟩ := O _ Z2 H2 (hm Z2 H2 mm)
    have ev : v = .ref p := rv
    subst ev
    refine ⟨p, dx, fs, rfl, hp, l, ha Z2 H2 (a.trans e.z) (b.trans e.h) e.s mm _ fun vs Z3 H3 e2 m2 rs => ?_⟩
    rw [List.append_nil]
    exact cs Z3 H3 _ e2.s m2 ⟨_, vs, rfl, rfl, rs⟩ Q fun Z4 H4 e3 m3 => q Z4 H4 ((e.trans e2).trans e3) m3
theorem eve_mmethA {p C' : Addr} {m : Str} {sp : Sp} {E : XK} {X : Hp → Prop} (hm : ∀ Z H, M.m s1 Z H → N.m c Z H) (O : MObj N p C' m) (hx : Ev M ta σ Z H s (isRef p) s1) (ha : EvAE M t σ Z H s1 X s2) : EvE M (tMeth C' m sp [] E ta t) σ Z H s X s2 :=
  fun Z1 H1 a b c' d Q q => hx Z1 H1 a b c' d _ fun v Z2 H2 e mm rv => by
    obtain ⟨dx, fs, hp, l⟩ := O _ Z2 H2 (hm Z2 H2 mm)
    have ev : v = .ref p := rv
    subst ev
    exact ⟨p, dx, fs, rfl, hp, l, ha Z2 H2 (a.trans e.z) (b.trans e.h) e.s mm _ fun Z3 H3 e2 m2 => q Z3 H3 (e.trans e2) m2⟩
/-- the attribute f is stored anew -/
def MSet {α : Type} (N : Mu ν) (p C : Addr) (f : Str) (τ : Ty α) (up : ν → α → ν) : Prop := ∀ c Z H, N.m c Z H → p ∈ N.fp ∧ Z p = none ∧ ∃ dx fs, H p = some (.ins C dx fs) ∧ fs.length < 1000 ∧ ∀ w x, τ.r Z w x → N.m (up c x) Z (upd H p (.ins C dx (putF f w fs)))
theorem st_mset {α : Type} {τ : Ty α} {x : α} {p C : Addr} {f : Str} {i : Nat} {up : ν → α → ν} {tv : TE} (P : Pt S Z0 H0 M Z H s) (hm : ∀ Z H, M.m s1 Z H → N.m c Z H) (hf : ∀ a ∈ N.fp, a ∈ M.fp) (hp : ∀ Z H Z' H', M.m s1 Z H → Step N.fp Z H Z' H' → N.m (up c x) Z' H' → M.m s2 Z' H')
    (F : MSet N p C f τ up) (cl : Cls K C) (n : NoAttr K C f) (hσ : σ[i]? = some (some (.ref p))) (e : Ev M tv σ Z H s (ty τ x) s1) (k : ∀ Z1 H1, Step M.fp Z H Z1 H1 → Pt S Z0 H0 M Z1 H1 s2 → D.nx σ H1) : sFld K (tVar i) tv f D σ H :=
  e Z H (Same.refl _) SameX.refl P.sub P.m _ fun v Z1 H1 e m r => by
    obtain ⟨pf, zp, dx, fs, h1, l, up'⟩ := F c Z1 H1 (hm Z1 H1 m)
    have m' := up' v x r
    have st : Step [p] Z1 H1 Z1 (upd H1 p (.ins C dx (putF f v fs))) := Step.set e.s zp
    have stN : Step N.fp Z1 H1 Z1 (upd H1 p (.ins C dx (putF f v fs))) := st.weak fun a ha => by rw [List.mem_singleton] at ha; rw [ha]; exact .inl pf
    have m2 := hp _ _ _ _ m stN m'
    have e2 := e.trans (stN.weak fun a ha => .inl (hf a ha))
    exact ⟨.ref p, hσ, p, C, dx, fs, rfl, h1, cl, n, l, k _ _ e2 (P.next e2 m2)⟩
/-- self.f += e of integers -/
theorem st_maug {p C : Addr} {f : Str} {i : Nat} {up : ν → Int → ν} {tv : TE} {pr : ν → Int} {b : Int} {g : Int → Int → Int} (P : Pt S Z0 H0 M Z H s) (hm : ∀ Z H, M.m s Z H → N.m c Z H) (hf : ∀ a ∈ N.fp, a ∈ M.fp) (hp : ∀ Z H Z' H', M.m s Z H → Step N.fp Z H Z' H' → N.m (up c (g (pr c) b)) Z' H' → M.m s2 Z' H')
    (F : MSet N p C f yInt up) (G : MFld N p C f yInt pr) (cl : Cls K C) (n : NoAttr K C f) (hσ : σ[i]? = some (some (.ref p))) (e : Ev M tv σ Z H s (ty yInt b) s) (k : ∀ Z1 H1, Step M.fp Z H Z1 H1 → Pt S Z0 H0 M Z1 H1 s2 → D.nx σ H1) : sFldAug K (tVar i) tv (ipI g) f D σ H := by
  obtain ⟨dx0, fs0, w, h0, l0, r0⟩ := G c Z H (hm Z H P.m)
  refine ⟨.ref p, hσ, p, C, dx0, fs0, w, rfl, h0, cl, n, l0, e Z H (Same.refl _) SameX.refl P.sub P.m _ fun v Z1 H1 e m r => ?_⟩
  obtain ⟨pf, zp, dx, fs, h1, l, up'⟩ := F c Z1 H1 (hm Z1 H1 m)
  refine ⟨pr c, b, r0, r, dx, fs, h1, l, ?_⟩
  have m' := up' (.int (g (pr c) b)) (g (pr c) b) rfl
  have st : Step [p] Z1 H1 Z1 (upd H1 p (.ins C dx (putF f (.int (g (pr c) b)) fs))) := Step.set e.s zp
  have stN : Step N.fp Z1 H1 Z1 (upd H1 p (.ins C dx (putF f (.int (g (pr c) b)) fs))) := st.weak fun a ha => by rw [List.mem_singleton] at ha; rw [ha]; exact .inl pf
  have m2 := hp _ _ _ _ m stN m'
  have e2 := e.trans (stN.weak fun a ha => .inl (hf a ha))
  exact k _ _ e2 (P.next e2 m2)
/-- a new thing that changes -/
def EvM (M : Mu μ) (t : TE) (σ : L2.St) (Z H : Hp) (s : μ) (N : ι → Mu ν) (pr : ι → Addr) (x : ν) (s' : μ) : Prop :=
  ∀ Z1 H1, Same Z Z1 → SameX M.fp H H1 → Same Z1 H1 → M.m s Z1 H1 → ∀ Q : VK, (∀ i Z2 H2, Step M.fp Z1 H1 Z2 H2 → M.m s' Z2 H2 → (∀ a ∈ (N i).fp, H1 a = none) → (N i).m x Z2 H2 → Q (.ref (pr i)) H2) → t σ H1 Q
/-- what the __init__ makes: a thing that changes -/
def InitM (M : Mu μ) (C : Addr) (sp : Sp) (E : XK) (Rs : Ra M.fp) (s : μ) (N : ι → Mu ν) (pr : ι → Addr) (x : ν) (s' : μ) : Prop :=
  ∀ Z H vs p dx, Same Z H → M.m s Z H → Rs.r Z H vs → H p = some (.ins C dx []) → Z p = none → p ∉ M.fp → ∀ Q : VK, (∀ i Z2 H2, pr i = p → Step (p :: M.fp) Z H Z2 H2 → M.m s' Z2 H2 → (∀ a ∈ (N i).fp, a = p ∨ H a = none) → (N i).m x Z2 H2 → Q .non H2) → sp (.ref p :: vs) H Q E
theorem ev_makeM {C : Addr} {sp : Sp} {E : XK} {Rs : Ra M.fp} {N : ι → Mu ν} {pr : ι → Addr} {x : ν} (I : InitM M C sp E Rs s1 N pr x s2) (ha : EvA M t σ Z H s Rs s1) : EvM M (tMake C sp [] E t) σ Z H s N pr x s2 :=
  fun Z1 H1 a b c d Q q => ha Z1 H1 a b c d _ fun vs Z2 H2 e m rs x' dx hx hd ne => by
    rw [List.append_nil]
    have st := Step.dict (C := C) e.s hx hd ne
    have nf : x' ∉ M.fp := fun h => (M.al m x' h).1 hx
    have back : ∀ a, upd (upd H2 dx (.own x')) x' (.ins C dx []) a = none → H2 a = none := fun a h => by
      cases q : H2 a with
      | none => rfl
      | some o => exact absurd h (st.al a (some_ne q))
    refine I Z2 _ vs x' dx st.s (M.pure st m) (Rs.st st.pure rs) upd_same (same_none e.s hx) nf _ fun i Z3 H3 ei e2 m2 fr mi => ⟨rfl, ?_⟩
    subst ei
    have e3 : Step M.fp Z2 H2 Z3 H3 := ((st.pure (S := pr i :: M.fp)).trans e2).weak fun a h => by
      rcases List.mem_cons.mp h with e | h
      · exact .inr (e ▸ hx)
      · exact .inl h
    exact q i Z3 H3 (e.trans e3) m2 (fun a ha => by
      rcases fr a ha with r | r
      · rw [r]; exact same_x e hx
      · exact same_x e (back a r)) mi
/-- it is called x from now on -/
theorem st_setM {N : ι → Mu ν} {pr : ι → Addr} {x : ν} {j : Nat} (P : Pt S Z0 H0 M Z H s) (e : EvM M te σ Z H s N pr x s1) (k : ∀ i Z1 H1, Step M.fp Z H Z1 H1 → (∀ a ∈ (N i).fp, H a = none) → Pt S Z0 H0 (muX M (N i)) Z1 H1 (s1, x) → D.nx (σ.set j (some (.ref (pr i)))) H1) : tAsg te (gName j) D σ H :=
  e Z H (Same.refl _) SameX.refl P.sub P.m _ fun i Z1 H1 e m fr mi => k i Z1 H1 e fr ⟨P.st.mine e P.mine, ⟨m, mi, fun a ha hb => (M.al P.m a ha).1 (fr a hb)⟩, fun a ha => by
    rcases List.mem_append.mp ha with ha | ha
    · exact P.mine a ha
    · exact .inr (same_x P.st (fr a ha))⟩
theorem Pt.left {N : Mu ν} {x : ν} (P : Pt S Z0 H0 (muX M N) Z H (s, x)) : Pt S Z0 H0 M Z H s := ⟨P.st, P.m.1, fun a ha => P.mine a (List.mem_append_left _ ha)⟩
theorem Own.grow {α : Type} {τ : Ty α} {xs : List α} {p : Addr} {F : List Addr} {Z1 H1 : Hp} (o : Own S H0 M.fp Z H τ p xs) (e : Step M.fp Z H Z1 H1) (fr : ∀ a ∈ F, H a = none) : Own S H0 (M.fp ++ F) Z1 H1 τ p xs := by
  have o1 := o.next e
  obtain ⟨vs, h, _⟩ := o.ex
  have nf : p ∉ F := fun hb => by
    rw [fr p hb] at h
    exact nomatch h
  exact ⟨o1.ex, o1.z, fun ha => (List.mem_append.mp ha).elim o.n nf, o1.mine, o1.l⟩
theorem Own.left {α : Type} {τ : Ty α} {xs : List α} {p : Addr} {F G : List Addr} (o : Own S H0 (F ++ G) Z H τ p xs) : Own S H0 F Z H τ p xs := ⟨o.ex, o.z, fun h => o.n (List.mem_append_left _ h), o.mine, o.l⟩
theorem Step.left {F G : List Addr} {Z H Z1 H1 : Hp} (e : Step F Z H Z1 H1) : Step (F ++ G) Z H Z1 H1 := e.weak fun a h => .inl (List.mem_append_left _ h)
theorem putF_ne {f g : Str} {v w : V} {r : List (Str × V)} (h : ¬ g = f) : putF f v ((g, w) :: r) = (g, w) :: putF f v r := by
  show (if g = f then (g, v) :: r else (g, w) :: putF f v r) = _
  rw [if_neg h]
theorem putF_eq {f : Str} {v w : V} {r : List (Str × V)} : putF f v ((f, w) :: r) = (f, v) :: r := by
  show (if f = f then (f, v) :: r else _) = _
  rw [if_pos rfl]
theorem putF_nil {f : Str} {v : V} : putF f v [] = [(f, v)] := rfl
end
end TP

namespace TP
open PySem PySem.Spec PyProof.Rows L2
/-- what never is reached -/
theorem ps_dead {X : Cx} {s : Stmt} : PS X s (fun _ _ _ => False) := ⟨fun _ _ _ _ _ _ h => h.elim⟩
theorem sl_tupW {X : Cx} : SlR X (rSlW X.K) := sl_tupA
/-- an expression that is read in one of two ways -/
theorem pe_or2 {X : Cx} {e : Expr} {t u : TE} (h : PE X e t) (g : PE X e u) : PE X e (fun σ H Q => t σ H Q ∨ u σ H Q) := ⟨fun pins s σ H Q I q => by
  rcases q with q | q
  · exact h.run pins s σ H Q I q
  · exact g.run pins s σ H Q I q⟩
def rOr (r r' : R2) : R2 := fun x y H Q => r x y H Q ∨ r' x y H Q
theorem op_or {X : Cx} {f : Value → Value → Sem Value} {r r' : R2} (h : OpR X f r) (h' : OpR X f r') : OpR X f (rOr r r') := fun pins s σ H x y v u Q I rx ry q => by
  rcases q with q | q
  · exact h pins s σ H x y v u Q I rx ry q
  · exact h' pins s σ H x y v u Q I rx ry q
def rImp (r r' : R2) : Prop := ∀ x y H Q, r x y H Q → r' x y H Q
theorem ri_self {r : R2} : rImp r r := fun _ _ _ _ h => h
theorem ri_l {r r' : R2} : rImp r (rOr r r') := fun _ _ _ _ h => .inl h
theorem ri_r {r r' r'' : R2} (h : rImp r r') : rImp r (rOr r'' r') := fun _ _ _ _ q => .inr (h _ _ _ _ q)
section
variable {μ : Type} {M : Mu μ} {σ : L2.St} {Z H : Hp} {s s1 s2 s3 : μ} {ta tb t u : TE} {K : PySem.W.Frag}
theorem ev_orl {R : Rr M.fp} (h : Ev M t σ Z H s R s1) : Ev M (fun σ H Q => t σ H Q ∨ u σ H Q) σ Z H s R s1 := fun Z1 H1 a b c d Q q => .inl (h Z1 H1 a b c d Q q)
theorem ev_orr {R : Rr M.fp} (h : Ev M u σ Z H s R s1) : Ev M (fun σ H Q => t σ H Q ∨ u σ H Q) σ Z H s R s1 := fun Z1 H1 a b c d Q q => .inr (h Z1 H1 a b c d Q q)
theorem ev_ownR {α : Type} {τ : Ty α} {x : α} {R0 : Rr M.fp} {C : Addr} {t : Value} {sp : Sp} {E : XK} {b neg : Bool} {r : R2} (hr : rImp (TPN.rOwnE K C neg sp E) r) (O : ∀ Z v x, τ.r Z v x → ∃ a dx fs, v = .ref a ∧ Z a = some (.ins C dx fs)) (tx : ∀ Z H v, Same Z H → R0.r Z H v → TyX K H v t) (hn : PySem.W.notFirst K C t = true)
    (c : CallS M sp E (rac (ty τ x) (rac R0 ra0)) s2 (ty yBool b) s3) (ha : Ev M ta σ Z H s (ty τ x) s1) (hb : Ev M tb σ Z H s1 R0 s2) : Ev M (tOp r ta tb) σ Z H s (ty yBool (b != neg)) s3 :=
  fun Z1 H1 a' b' c' d' Q q => ha Z1 H1 a' b' c' d' _ fun v Z2 H2 e m rv => hb Z2 H2 (a'.trans e.z) (b'.trans e.h) e.s m _ fun w Z3 H3 e2 m2 rw => by
    have rv3 := τ.mono e2.z rv
    obtain ⟨p, dx, fs, rfl, hp⟩ := O _ _ _ rv3
    exact hr _ _ _ _ ⟨p, dx, fs, t, rfl, e2.s _ _ hp, tx _ _ _ e2.s rw, hn, c Z3 H3 _ e2.s m2 ⟨_, _, rfl, rv3, _, _, rfl, rw, rfl⟩ _ fun u Z4 H4 e3 m3 ru => ⟨b, ru, q _ Z4 H4 ((e.trans e2).trans e3) m3 rfl⟩⟩
variable {fp : List Addr} {α β γ δ : Type} {τ : Ty α} {υ : Ty β} {φ : Ty γ} {ψ : Ty δ}
theorem tx_p1 {x : α} : ∀ Z H v, Same Z H → (ty (fp := fp) (yP1 K τ) x).r Z H v → TyX K H v (.type "tuple") := fun _ _ _ sz ⟨a, _, e, h, _⟩ => by subst e; exact tx_sqT (seqT_same sz h)
theorem tx_p4 {x : α × β × γ × δ} : ∀ Z H v, Same Z H → (ty (fp := fp) (yP4 K τ υ φ ψ) x).r Z H v → TyX K H v (.type "tuple") := fun _ _ _ sz ⟨a, _, _, _, _, e, h, _⟩ => by subst e; exact tx_sqT (seqT_same sz h)
end
end TP

/-! len(set(xs)) of numbers -/
namespace TSN
open PySem PySem.Spec PyProof.Rows L2
theorem fold_first (f : List Int → Int → List Int) : ∀ ns : List Int, ((List.range ns.length).map fun i => ns.getD i 0) = ns
  | [] => rfl
  | n :: r => by
    rw [List.length_cons, List.range_succ_eq_map, List.map_cons, List.map_map]
    congr 1
    exact fold_first f r
/-- len(set(xs)), xs a list of numbers -/
def tLenSetI (K : PySem.W.Frag) (ta : TE) : TE := fun σ H Q => ta σ H fun x H1 => ∃ l, ∃ ns : List Int, x = .ref l ∧ SqL K H1 l (ns.map V.int) ∧ ns.length ≤ 1000 ∧ Q (.int (ns.foldl step_dedup []).length) H1
theorem pe_lenSetI {X : Cx} {a : Expr} {ta : TE} {p p2 q pos : Pos} (hc : X.calm = true) (hg : Gl X "len") (hm : X.mg "len" = none) (hg2 : Gl X "set") (hm2 : X.mg "set" = none) (ha : PE X a ta)
    (na : starEach [a] X.env = (false, eval a X.env) :: starEach [] X.env := by rfl) : PE X (.Call (.Name "len" p) [.Call (.Name "set" p2) [a] [] q] [] pos) (tLenSetI X.K ta) := by
  refine ⟨fun pins s σ H Q I g => Call_ (ld_blt I hg hm boot_len (PyProof.Rows.callWith_builtin1 (PyProof.Rows.args_cons ?_ rfl) rfl rfl))⟩
  refine Call_ (ld_blt I hg2 hm2 boot_set (PyProof.Rows.callWith_type1 (PyProof.Rows.args_cons (thn (ha.run pins s σ H _ I g) fun v s1 ⟨x, H1, I1, r1, q1⟩ => PyProof.Rows.args_nil ?_) na) na rfl))
  obtain ⟨l, xs, rfl, gl, few, q1⟩ := q1
  cases r1
  obtain ⟨its, r, pl, _⟩ := I1.list gl
  have hl : its.length = xs.length := by have := r.length; rw [List.length_map] at this; exact this.symm
  refine PySem.call_set_list (ns := xs) (I1.ok.hd hc) pl.isList (by simpa using L2.intsAre_of r) (by rw [List.size_toArray, hl]; unfold scanBound; omega) fun h2 tk held more => PyProof.Rows.args_nil ?_
  have e : PyProof.Rows.firstMet (fun i => xs.getD i 0) its.toArray.size = xs.foldl step_dedup [] := by
    unfold firstMet
    rw [List.size_toArray, hl, fold_first step_dedup]
  rw [e] at held
  obtain ⟨ob, es, ep, tb, g1, g2, g3, _, _, _, g4, g5⟩ := held
  have I2 : Inv X pins σ H1 { s1 with heap := h2, toks := tk } := I1.kept fun b o e => more b o (Heap.lt_size e) e
  have small : (xs.foldl step_dedup []).length ≤ xs.length := by rw [← e]; have := firstMet_length_le (fun i => xs.getD i 0) its.toArray.size; rw [List.size_toArray, hl] at this; rw [List.size_toArray, hl]; exact this
  exact call_len_set g1 g2 g3 g4 (by rw [g5]; omega) ⟨.int (xs.foldl step_dedup []).length, H1, I2.tok _, ⟨_, by rw [g5]⟩, q1⟩
end TSN
namespace TP
open PySem PySem.Spec PyProof.Rows L2
/-- the different ones, in their first order -/
def addZ {α : Type} [DecidableEq α] (l : List α) (v : α) : List α := if v ∈ l then l else l ++ [v]
def uZ {α : Type} [DecidableEq α] (xs : List α) : List α := xs.foldl addZ []
section
variable {α : Type} [DecidableEq α]
theorem uZ_fold : ∀ (xs acc : List α), (xs.foldl addZ acc).length ≤ acc.length + xs.length ∧ ((xs.foldl addZ acc).length = acc.length + xs.length ↔ (∀ x ∈ xs, x ∉ acc) ∧ xs.Nodup)
  | [], acc => ⟨Nat.le_refl _, fun _ => ⟨fun x h => (nomatch h), List.nodup_nil⟩, fun _ => rfl⟩
  | x :: r, acc => by
    have ih := uZ_fold r (addZ acc x)
    show (r.foldl addZ (addZ acc x)).length ≤ _ ∧ ((r.foldl addZ (addZ acc x)).length = _ ↔ _)
    rw [List.length_cons]
    by_cases g : x ∈ acc
    · have e : addZ acc x = acc := if_pos g
      rw [e] at ih ⊢
      exact ⟨by omega, fun h => by omega, fun h => absurd g (h.1 x (List.mem_cons_self ..))⟩
    · have e : addZ acc x = acc ++ [x] := if_neg g
      rw [e] at ih ⊢
      rw [List.length_append, List.length_singleton] at ih
      refine ⟨by omega, fun h => ?_, fun h => ?_⟩
      · obtain ⟨a, b⟩ := ih.2.mp (by omega)
        refine ⟨fun y hy => ?_, List.nodup_cons.mpr ⟨fun hx => a x hx (List.mem_append_right _ (List.mem_singleton.mpr rfl)), b⟩⟩
        rcases List.mem_cons.mp hy with z | z
        · rw [z]; exact g
        · exact fun w => a y z (List.mem_append_left _ w)
      · have b := List.nodup_cons.mp h.2
        have := ih.2.mpr ⟨fun y hy w => ?_, b.2⟩
        · omega
        · rcases List.mem_append.mp w with z | z
          · exact h.1 y (List.mem_cons_of_mem _ hy) z
          · rw [List.mem_singleton.mp z] at hy
            exact b.1 hy
theorem uZ_le (xs : List α) : (uZ xs).length ≤ xs.length := by
  have := (uZ_fold xs []).1
  rw [List.length_nil, Nat.zero_add] at this
  exact this
theorem uZ_nodup (xs : List α) : (uZ xs).length = xs.length ↔ xs.Nodup := by
  have := (uZ_fold xs []).2
  unfold uZ
  simp only [List.length_nil, Nat.zero_add] at this
  rw [this]
  exact ⟨fun h => h.2, fun h => ⟨fun x _ z => (nomatch z), h⟩⟩
end
theorem fold_ext {α β : Type} {f g : β → α → β} (h : ∀ b a, f b a = g b a) : ∀ (xs : List α) (b : β), xs.foldl f b = xs.foldl g b
  | [], _ => rfl
  | x :: r, b => by
    show r.foldl f (f b x) = r.foldl g (g b x)
    rw [h, fold_ext h r]
theorem any_mem {α : Type} [DecidableEq α] [BEq α] [LawfulBEq α] (l : List α) (v : α) : (l.any (· == v)) = decide (v ∈ l) := by
  apply Bool.eq_iff_iff.mpr
  rw [List.any_eq_true, decide_eq_true_iff]
  exact ⟨fun ⟨y, h, e⟩ => by rw [← eq_of_beq e]; exact h, fun h => ⟨v, h, beq_self_eq_true v⟩⟩
theorem uZ_int (ns : List Int) : ns.foldl step_dedup [] = uZ ns := fold_ext (fun l v => by
  unfold step_dedup addZ
  rw [any_mem]
  by_cases h : v ∈ l
  · rw [if_pos (decide_eq_true h), if_pos h]
  · rw [if_neg (fun z => h (of_decide_eq_true z)), if_neg h]) ns []
section
variable {μ : Type} {M : Mu μ} {σ : L2.St} {Z H : Hp} {s s1 : μ} {ta : TE} {K : PySem.W.Frag}
theorem ev_lenSetI {xs : List Int} (ha : Ev M ta σ Z H s (li yInt xs) s1) (l : xs.length ≤ 1000) : Ev M (TSN.tLenSetI K ta) σ Z H s (ty yInt ((uZ xs).length : Nat)) s1 :=
  fun Z1 H1 a b c d Q q => ha Z1 H1 a b c d _ fun v Z2 H2 e m rv => by
    obtain ⟨p, vs, rfl, g, t, _⟩ := rdl e.s rv
    rw [t.ints] at g
    exact ⟨p, xs, rfl, SqL.of g, l, q _ Z2 H2 e m (by rw [uZ_int]; rfl)⟩
end
end TP

/-! len(set(xs)): of texts, of numbers -/
namespace TSN
open PySem PySem.Spec PyProof.Rows L2

def addS (l : List Str) (v : Str) : List Str := if l.any (· == v) then l else l ++ [v]
def uS (xs : List Str) : List Str := xs.foldl addS []
theorem addS_any (l : List Str) (v k : Str) : (addS l v).any (· == k) = (l.any (· == k) || decide (k = v)) := by
  unfold addS
  by_cases g : l.any (· == v) = true
  · rw [if_pos g]
    by_cases e : k = v
    · subst e
      rw [g]
      rfl
    · rw [decide_eq_false e, Bool.or_false]
  · rw [if_neg g, List.any_append]
    congr 1
    by_cases e : k = v
    · subst e
      simp
    · rw [decide_eq_false e]
      simpa using fun z : v = k => e z.symm
theorem addS_len (l : List Str) (v : Str) : (addS l v).length = if l.any (· == v) then l.length else l.length + 1 := by
  unfold addS
  by_cases g : l.any (· == v) = true
  · rw [if_pos g, if_pos g]
  · rw [if_neg g, if_neg g, List.length_append]
    rfl
theorem uS_succ {xs : List Str} {i : Nat} {v : Str} (h : xs[i]? = some v) : uS (xs.take (i + 1)) = addS (uS (xs.take i)) v := by
  unfold uS
  rw [List.take_add_one, h, List.foldl_append]
  rfl
theorem uS_fold : ∀ (xs acc : List Str), (xs.foldl addS acc).length ≤ acc.length + xs.length ∧ ((xs.foldl addS acc).length = acc.length + xs.length ↔ (∀ x ∈ xs, x ∉ acc) ∧ xs.Nodup)
  | [], acc => ⟨Nat.le_refl _, fun _ => ⟨fun x h => (nomatch h), List.nodup_nil⟩, fun _ => rfl⟩
  | x :: r, acc => by
    have ih := uS_fold r (addS acc x)
    show (r.foldl addS (addS acc x)).length ≤ _ ∧ ((r.foldl addS (addS acc x)).length = _ ↔ _)
    rw [List.length_cons]
    by_cases g : x ∈ acc
    · have e : addS acc x = acc := by
        unfold addS
        have z : (acc.any (· == x)) = true := List.any_eq_true.mpr ⟨x, g, beq_self_eq_true x⟩
        rw [if_pos z]
      rw [e] at ih ⊢
      refine ⟨by omega, fun h => by omega, fun h => absurd g (h.1 x (List.mem_cons_self ..))⟩
    · have e : addS acc x = acc ++ [x] := by
        unfold addS
        rw [if_neg]
        intro h
        obtain ⟨y, h1, h2⟩ := List.any_eq_true.mp h
        rw [eq_of_beq h2] at h1
        exact g h1
      rw [e] at ih ⊢
      rw [List.length_append, List.length_singleton] at ih
      refine ⟨by omega, fun h => ?_, fun h => ?_⟩
      · obtain ⟨a, b⟩ := ih.2.mp (by omega)
        refine ⟨fun y hy => ?_, List.nodup_cons.mpr ⟨fun hx => a x hx (List.mem_append_right _ (List.mem_singleton.mpr rfl)), b⟩⟩
        rcases List.mem_cons.mp hy with z | z
        · rw [z]; exact g
        · exact fun w => a y z (List.mem_append_left _ w)
      · have b := List.nodup_cons.mp h.2
        have := ih.2.mpr ⟨fun y hy w => ?_, b.2⟩
        · omega
        · rcases List.mem_append.mp w with z | z
          · exact h.1 y (List.mem_cons_of_mem _ hy) z
          · rw [List.mem_singleton.mp z] at hy
            exact b.1 hy
theorem uS_le (xs : List Str) : (uS xs).length ≤ xs.length := by
  have := (uS_fold xs []).1
  rw [List.length_nil, Nat.zero_add] at this
  exact this
theorem uS_nodup (xs : List Str) : (uS xs).length = xs.length ↔ xs.Nodup := by
  have := (uS_fold xs []).2
  unfold uS
  simp only [List.length_nil, Nat.zero_add] at this
  rw [this]
  exact ⟨fun h => h.2, fun h => ⟨fun x _ z => (nomatch z), h⟩⟩
section
variable {prog : Program} {w : World} {A : Around} {E : Value → Shared → Prop} {s : Shared}
/-- the set's own loop: the items enter one by one -/
theorem enter_texts {R : Result → Shared → Prop} {it : Addr} {own wr : List Addr} {G : Array GenState → Array GenState → Prop} {m : Nat} {P : Nat → Value → Prop} {St : Nat → Shared → Prop} (W : WalksS prog w A.in1 it own wr G m P St) (Z : Addr) (zo : Z ∉ own)
    (xs : List Str) (lx : xs.length = m) (room : m + 1 < scanBound) (isT : ∀ j v, P j v → ∃ t, v = .str (xs.getD j Str.empty) t) (left j : Nat) (t : Shared) (hj : m - j = left) (jm : j ≤ m) (at_ : St j t)
    (held : t.heap.SetOf (PySem.strKind prog w) Z (fun c => (uS (xs.take j)).any (· == c)) (uS (xs.take j)).length)
    (fin : ∀ u, Moved (Z :: wr) G t u → u.heap.SetOf (PySem.strKind prog w) Z (fun c => (uS (xs.take m)).any (· == c)) (uS (xs.take m)).length → R (.ok (.ret .none)) u) :
    codeAny (model prog w) A (.builtin "set.update.loop" ⟨[.ref Z, .ref it], []⟩) R t := by
  have zw : Z ∉ wr := fun b => zo (W.sub _ b)
  have inw : ∀ b ∈ wr, b ∈ Z :: wr := fun b g => List.mem_cons_of_mem _ g
  induction left generalizing j t with
  | zero =>
    obtain rfl : j = m := by omega
    refine codeAny_builtin (PyProof.Rows.F.entry_set_update_loop) ?_
    rw [Around.under_plainId (PyProof.Rows.F.plain_set_update_loop) _]
    show wpAny _ A.in1 (pyNext (.ref it) >>= _) _ _ t
    refine wpAny_bind (W.done t _ _ at_ fun u mv => ?_)
    show wpAny _ A.in1 (ret Value.none) _ _ u
    refine wpAny_pure (fin u (mv.mono inw) ?_)
    obtain ⟨ob, es, ep, tb, g, more⟩ := held
    exact ⟨ob, es, ep, tb, mv.heap Z _ zw g, more⟩
  | succ left ih =>
    have lt : j < m := by omega
    refine codeAny_builtin (PyProof.Rows.F.entry_set_update_loop) ?_
    rw [Around.under_plainId (PyProof.Rows.F.plain_set_update_loop) _]
    show wpAny _ A.in1 (pyNext (.ref it) >>= _) _ _ t
    refine wpAny_bind (W.item j t _ _ lt at_ fun v u pv at2 mv => ?_)
    obtain ⟨tk, rfl⟩ := isT j v pv
    have held2 : u.heap.SetOf (PySem.strKind prog w) Z (fun c => (uS (xs.take j)).any (· == c)) (uS (xs.take j)).length := by
      obtain ⟨ob, es, ep, tb, g, more⟩ := held
      exact ⟨ob, es, ep, tb, mv.heap Z _ zw g, more⟩
    show wpAny _ A.in1 (holding [Value.str (xs.getD j Str.empty) tk] (setAdd Z (.str (xs.getD j Str.empty) tk)) >>= _) _ _ u
    refine wpAny_bind (wpAny_holding ?_)
    unfold setAdd
    refine wpAny_holding (wpAny_bind ((PySem.strKind prog w).pyHash (k := xs.getD j Str.empty) (strKind_is _ _ _ _) ?_))
    have few : (uS (xs.take j)).length + 1 < scanBound := by
      have a := uS_le (xs.take j)
      have b : (xs.take j).length ≤ m := by rw [List.length_take]; omega
      omega
    refine wpAny_setAddHashed_of (knd := PySem.strKind prog w) (s := { u with toks := u.toks + 1 }) (strKind_is _ _ _ _) rfl held2 few fun h2 but held3 => ?_
    have gx : xs[j]? = some (xs.getD j Str.empty) := by
      rw [List.getD_eq_getElem?_getD, List.getElem?_eq_getElem (by omega)]
      rfl
    have held4 : h2.SetOf (PySem.strKind prog w) Z (fun c => (uS (xs.take (j + 1))).any (· == c)) (uS (xs.take (j + 1))).length := by
      rw [uS_succ gx]
      exact PyProof.Rows.SetOf_congr held3 (fun c => (addS_any _ _ c).symm) (addS_len _ _).symm
    refine wpAny_pure ⟨plainId_quiet (PyProof.Rows.F.plain_set_update_loop) _, ih (j + 1) _ (by omega) lt (W.frame _ u _ _ at2 (Nat.le_succ _) fun b g ob e => ?_) held4 fun u2 mv2 held5 => ?_⟩
    · rw [but.2 b (fun y : b = Z => zo (by rw [← y]; exact g))]
      exact e
    · refine fin u2 (Moved.trans W.gtrans ((mv.mono inw).then_heap (Nat.le_succ _) fun b ob g e => ?_) mv2) held5
      rw [but.2 b (fun y : b = Z => g (by rw [y]; exact List.mem_cons_self))]
      exact e
set_option maxHeartbeats 6400000 in
theorem made_of_texts {l : Addr} {its : Array Value} {xs : List Str} {Q : Value → Shared → Prop} (calm : A.handled = none) (gl : s.heap.IsList l its) (are : PyProof.Rows.StrsAre its.toList xs) (room : xs.length + 1 < scanBound)
    (q : ∀ (h2 : Heap) (tk : Nat), h2.SetOf (PySem.strKind prog w) s.heap.objs.size (fun c => (uS xs).any (· == c)) (uS xs).length → (∀ b ob, b < s.heap.objs.size → s.heap.get? b = some ob → h2.get? b = some ob) → Q (.ref s.heap.objs.size) { s with heap := h2, toks := tk }) :
    wpAny (model prog w) A (call (.type "set") [.ref l]) Q E s := by
  have k1 := PySem.F.called_set.made
  have k2 := PySem.F.called_set.sub
  obtain ⟨cc, tl, k3⟩ := PySem.F.called_set.mro
  refine wpAny_call (codeAny_of_tree ?_)
  show wpAny _ _ (callAny (.type "set") _) _ _ _
  refine wpAny_pure ⟨Code.quiet_builtin _ (by decide +kernel), codeAny_builtin (PySem.F.entry_type_call) ?_⟩
  rw [Around.under_plain (weight_type_call_type "set" [.ref l] []) (rfl)]
  have k4 := PySem.F.called_set.notType
  have k5 := PySem.F.called_set.canCreate
  have k6 := PySem.F.typeCall_set_1 (.ref l)
  repeat (any_goals (first | assumption | (wp_step)))
  refine codeAny_mono (code_set_new_1 (.ref l) (E := E) (Q₁ := fun o u => ∃ b : Bool, o = .ref s.heap.objs.size ∧ u = { s with heap := s.heap.push { cls := .type "set", dict := none, data := .set #[] 0 (.fresh 0 0 b) } }) fun b => ⟨b, rfl, rfl⟩) fun r u ru => ?_
  cases r with
  | error e => exact ru
  | ok f1 =>
    cases f1 with
    | ret o =>
      obtain ⟨b, rfl, rfl⟩ := ru
      have gS : (s.heap.push { cls := .type "set", dict := none, data := .set #[] 0 (.fresh 0 0 b) }).get? s.heap.objs.size = some { cls := .type "set", dict := none, data := .set #[] 0 (.fresh 0 0 b) } := Heap.get?_push_size _ (rfl)
      have tS : Shared.TypeIs { s with heap := s.heap.push { cls := .type "set", dict := none, data := .set #[] 0 (.fresh 0 0 b) } } (.ref s.heap.objs.size) "set" := ⟨_, gS, (rfl)⟩
      have k7 := PySem.F.called_set.init.lookup
      have k8 := PySem.F.called_set.init.bind (.ref s.heap.objs.size)
      repeat (any_goals (first | assumption | (wp_step)))
      refine codeAny_mono (codeAny_call_builtin (R := wants (fun o u => o = .none ∧ ∃ h2 tk, u = { s with heap := h2, toks := tk } ∧ h2.SetOf (PySem.strKind prog w) s.heap.objs.size (fun c => (uS xs).any (· == c)) (uS xs).length ∧
          (∀ a ob, a < s.heap.objs.size → s.heap.get? a = some ob → h2.get? a = some ob)) E) (PySem.F.called_set.init.plain) (PySem.F.entry_set_init) (check_set_init_1 tS ?_)) fun r2 u2 ru2 => ?_
      · obtain ⟨⟨c1, d1, e1, f1⟩, ol, ec, nl, ed⟩ := gl
        simp only at ec ed
        subst ec ed
        have ol2 : (s.heap.push { cls := .type "set", dict := none, data := .set #[] 0 (.fresh 0 0 b) }).get? l = some ⟨.type "list", d1, .seq its nl, f1⟩ := Heap.get?_push_of_some _ (ol)
        have k9 := PySem.F.sub_list_set
        have ka := PySem.F.sub_list_frozenset
        have kb : (Value.type "list" == Value.type "dict") = false := by (decide)
        have il : (s.heap.push { cls := .type "set", dict := none, data := .set #[] 0 (.fresh 0 0 b) }).IsList l its := ⟨_, ol2, rfl, nl, (rfl)⟩
        unfold Builtin.«set.__init__» Builtin.Frozenset.updateFrom noKeywords
        generalize ePI : pyIter = PI
        wp_walk
        subst ePI
        refine wpAny_pyIter_list il (wpAny_bind (wpAny_runValue ?_))
        have ll : l < s.heap.objs.size := Heap.lt_size ol
        have calm3 : A.in1.in1.in1.handled = none := by (simp [calm])
        have ne1 : l ≠ (s.heap.push { cls := .type "set", dict := none, data := .set #[] 0 (.fresh 0 0 b) }).objs.size := by
          rw [Heap.size_push]
          exact Nat.ne_of_lt (Nat.lt_succ_of_lt ll)
        have nin : s.heap.objs.size ∉ [(s.heap.push { cls := .type "set", dict := none, data := .set #[] 0 (.fresh 0 0 b) }).objs.size, l] := by
          rw [Heap.size_push]
          intro z
          rcases List.mem_cons.mp z with y | y
          · exact absurd y (Nat.ne_of_lt (Nat.lt_succ_self _))
          · exact absurd (List.mem_singleton.mp y) (Nat.ne_of_gt ll)
        have lx : xs.length = its.size := by rw [← StrsAre.len_eq are, Array.length_toList]
        have isT : ∀ (j : Nat) (v : Value), its[j]? = some v → ∃ t, v = .str (xs.getD j Str.empty) t := fun j v gv => SS.strs_at are j v (by rw [Array.getElem?_toList]; exact (gv))
        refine enter_texts ((Walks.list calm3 _ l ne1 its).toS) s.heap.objs.size nin xs lx (by rw [← lx]; exact room) isT (its.size - 0) 0 _ (by omega) (Nat.zero_le _) ⟨⟨_, Heap.get?_push_size _ rfl, rfl, rfl⟩, (il.push _)⟩ ?start ?stop
        case start =>
          have g0 : ((s.heap.push { cls := .type "set", dict := none, data := .set #[] 0 (.fresh 0 0 b) }).push { cls := .type "list_iterator", data := .fields #[.ref l, .int 0 0] }).get? s.heap.objs.size = some { cls := .type "set", dict := none, data := .set #[] 0 (.fresh 0 0 b) } := Heap.get?_push_of_some _ (gS)
          exact PyProof.Rows.SetOf_congr ((PyProof.Rows.setObjOf_fresh (knd := PySem.strKind prog w) b).setOf g0 (by unfold scanBound; omega)) (fun _ => by rw [List.take_zero]; rfl) (by rw [List.take_zero]; rfl)
        case stop =>
          intro u mv held
          obtain ⟨h2, g2, d2, t2, o2⟩ := u
          obtain rfl : g2 = s.gens := mv.gens
          obtain rfl : d2 = s.drawn := mv.drawn
          obtain rfl : o2 = s.os := mv.os
          rw [← lx, List.take_length] at held
          show wpAny _ _ _ _ _ _
          refine wpAny_pure ?_
          show wpAny _ _ (ret Value.none) _ _ _
          refine wpAny_pure ⟨rfl, h2, t2, rfl, held, fun a ob la e => ?_⟩
          refine mv.heap a ob (fun z => ?_) (Heap.get?_push_of_some _ (Heap.get?_push_of_some _ (e)))
          rw [Heap.size_push] at z
          rcases List.mem_cons.mp z with y | y
          · exact absurd y (Nat.ne_of_lt la)
          · exact absurd (List.mem_singleton.mp y) (Nat.ne_of_lt (Nat.lt_succ_of_lt la))
      · cases r2 with
        | error e => exact ru2
        | ok f2 =>
          cases f2 with
          | ret o =>
            obtain ⟨rfl, h2, t2, rfl, held, more⟩ := ru2
            repeat (any_goals (first | assumption | (wp_step)))
            exact q _ _ held (more)
          | _ => exact (ru2.elim)
    | _ => exact (ru.elim)
end
/-- len(set(xs)), xs a list of texts -/
def tLenSetT (K : PySem.W.Frag) (ta : TE) : TE := fun σ H Q => ta σ H fun x H1 => ∃ l, ∃ xs : List Str, x = .ref l ∧ SqL K H1 l (xs.map V.str) ∧ xs.length ≤ 1000 ∧ Q (.int (uS xs).length) H1
theorem pe_lenSetT {X : Cx} {a : Expr} {ta : TE} {p p2 q pos : Pos} (hc : X.calm = true) (hg : Gl X "len") (hm : X.mg "len" = none) (hg2 : Gl X "set") (hm2 : X.mg "set" = none) (ha : PE X a ta)
    (na : starEach [a] X.env = (false, eval a X.env) :: starEach [] X.env := by rfl) : PE X (.Call (.Name "len" p) [.Call (.Name "set" p2) [a] [] q] [] pos) (tLenSetT X.K ta) := by
  refine ⟨fun pins s σ H Q I g => Call_ (ld_blt I hg hm boot_len (PyProof.Rows.callWith_builtin1 (PyProof.Rows.args_cons ?_ rfl) rfl rfl))⟩
  refine Call_ (ld_blt I hg2 hm2 boot_set (PyProof.Rows.callWith_type1 (PyProof.Rows.args_cons (thn (ha.run pins s σ H _ I g) fun v s1 ⟨x, H1, I1, r1, q1⟩ => PyProof.Rows.args_nil ?_) na) na rfl))
  obtain ⟨l, xs, rfl, gl, few, q1⟩ := q1
  cases r1
  obtain ⟨its, r, pl, _⟩ := I1.list gl
  refine made_of_texts (I1.ok.hd hc) pl.isList (by simpa using L2.strsAre_of r) (by unfold scanBound; omega) fun h2 tk held more => PyProof.Rows.args_nil ?_
  obtain ⟨ob, es, ep, tb, g1, g2, g3, _, _, _, g4, g5⟩ := held
  have I2 : Inv X pins σ H1 { s1 with heap := h2, toks := tk } := I1.kept fun b o e => more b o (Heap.lt_size e) e
  have small := uS_le xs
  exact call_len_set g1 g2 g3 g4 (by rw [g5]; omega) ⟨.int (uS xs).length, H1, I2.tok _, ⟨_, by rw [g5]⟩, q1⟩

end TSN
namespace TP
open PySem PySem.Spec PyProof.Rows L2
theorem uZ_str (ns : List Str) : TSN.uS ns = uZ ns := fold_ext (fun l v => by
  unfold TSN.addS addZ
  rw [any_mem]
  by_cases h : v ∈ l
  · rw [if_pos (decide_eq_true h), if_pos h]
  · rw [if_neg (fun z => h (of_decide_eq_true z)), if_neg h]) ns []
section
variable {μ : Type} {M : Mu μ} {σ : L2.St} {Z H : Hp} {s s1 : μ} {ta : TE} {K : PySem.W.Frag}
theorem All.strs {Z : Hp} : ∀ {vs : List V} {xs : List Str}, All (yStr.r Z) vs xs → vs = xs.map V.str
  | _, _, .nil => rfl
  | _, _, .cons h t => by rw [h.1, t.strs]; rfl
theorem ev_lenSetT {xs : List Str} (ha : Ev M ta σ Z H s (li yStr xs) s1) (l : xs.length ≤ 1000) : Ev M (TSN.tLenSetT K ta) σ Z H s (ty yInt ((uZ xs).length : Nat)) s1 :=
  fun Z1 H1 a b c d Q q => ha Z1 H1 a b c d _ fun v Z2 H2 e m rv => by
    obtain ⟨p, vs, rfl, g, t, _⟩ := rdl e.s rv
    rw [t.strs] at g
    exact ⟨p, xs, rfl, SqL.of g, l, q _ Z2 H2 e m (by rw [uZ_str]; rfl)⟩
end
end TP

namespace TP
open PySem PySem.Spec PyProof.Rows L2
section
variable {μ : Type} {S : List Addr} {Z0 H0 : Hp} {M : Mu μ} {σ : L2.St} {Z H : Hp} {s s' s1 s2 : μ} {te tj : TE} {t : TA} {K : PySem.W.Frag} {D : Ends} {α : Type} {τ : Ty α} {p : Addr} {xs ys : List α} {x : α} {fp : List Addr}
/-- a list that was handed in to be changed -/
structure OwnP (S : List Addr) (fp : List Addr) (Z H : Hp) (τ : Ty α) (p : Addr) (xs : List α) : Prop where
  ex : ∃ vs, H p = some (.lst vs) ∧ All (τ.r Z) vs xs
  z : Z p = none
  n : p ∉ fp
  mine : p ∈ S
  l : xs.length ≤ sizeLine
theorem OwnP.step {F : List Addr} {Z1 H1 : Hp} (o : OwnP S fp Z H τ p xs) (e : Step F Z H Z1 H1) (n : p ∉ F) : OwnP S fp Z1 H1 τ p xs := by
  obtain ⟨vs, h, t⟩ := o.ex
  exact ⟨⟨vs, e.h _ _ n h, t.imp fun _ _ => τ.mono e.z⟩, e.n _ (some_ne h) o.z, o.n, o.mine, o.l⟩
theorem OwnP.next {Z1 H1 : Hp} (o : OwnP S fp Z H τ p xs) (e : Step fp Z H Z1 H1) : OwnP S fp Z1 H1 τ p xs := o.step e o.n
theorem OwnP.ne (o : OwnP S fp Z H τ p xs) {q : Addr} (h : H q = none) : p ≠ q := by
  obtain ⟨vs, hp, _⟩ := o.ex
  exact ne_of_some (some_ne hp) h
theorem OwnP.keep {Z1 : Hp} (o : OwnP S fp Z H τ p xs) (e : Same Z Z1) (n : Z1 p = none) : OwnP S fp Z1 H τ p xs := by
  obtain ⟨vs, h, t⟩ := o.ex
  exact ⟨⟨vs, h, t.imp fun _ _ => τ.mono e⟩, n, o.n, o.mine, o.l⟩
theorem ev_oP {i : Nat} (o : OwnP S M.fp Z H τ p xs) (e : σ[i]? = some (some (.ref p))) : Ev M (tVar i) σ Z H s (li τ xs) s := by
  obtain ⟨vs, h, t⟩ := o.ex
  exact ev_own e h o.n t o.l
theorem ev_oXP {i : Nat} {Z1 H1 : Hp} (o : OwnP S M.fp Z H τ p xs) (zz : Same Z Z1) (hh : SameX M.fp H H1) (e : σ[i]? = some (some (.ref p))) : Ev M (tVar i) σ Z1 H1 s (li τ xs) s := by
  obtain ⟨vs, h, t⟩ := o.ex
  exact ev_own e (hh _ _ o.n h) o.n (t.imp fun _ _ => τ.mono zz) o.l
theorem st_appendP {i : Nat} (P : Pt S Z0 H0 M Z H s) (o : OwnP S M.fp Z H τ p xs) (hσ : σ[i]? = some (some (.ref p))) (e : Ev M te σ Z H s (ty τ x) s1) (l : xs.length < sizeLine)
    (k : ∀ Z1 H1, Step (p :: M.fp) Z H Z1 H1 → Pt S Z0 H0 M Z1 H1 s1 → OwnP S M.fp Z1 H1 τ p (xs ++ [x]) → D.nx σ H1) : tDrop (tBM K "list" rAppend (tVar i) (tCons te tNil)) D σ H := by
  obtain ⟨vs, h, t⟩ := o.ex
  refine ⟨.ref p, hσ, .inl ⟨rfl, _, .inl (.inl h)⟩, e Z H (Same.refl _) SameX.refl P.sub P.m _ fun v Z1 H1 e m r => ?_⟩
  have o1 := o.next e
  have P1 := P.next e m
  refine ⟨p, vs, v, rfl, rfl, e.h _ _ o.n h, by rw [t.len]; exact l, ?_⟩
  exact k _ _ (step2 e o1.z) (P1.set o1.z o.n (.inl o.mine)) ⟨⟨_, upd_same, (t.imp fun _ _ => τ.mono e.z).snoc r⟩, o1.z, o.n, o.mine, by rw [List.length_append]; show xs.length + 1 ≤ _; omega⟩
theorem st_retS {R : Rr M.fp} (P : Pt S Z0 H0 M Z H s) (e : Ev M te σ Z H s R s1) (k : ∀ v Z1 H1, Step M.fp Z H Z1 H1 → Pt S Z0 H0 M Z1 H1 s1 → R.r Z1 H1 v → D.rt v H1) : tRet te D σ H :=
  e Z H (Same.refl _) SameX.refl P.sub P.m _ fun v Z1 H1 e m r => k v Z1 H1 e (P.next e m) r
/-- what stands at p, whosesoever it is -/
def LstAt (Z H : Hp) (τ : Ty α) (p : Addr) (xs : List α) : Prop := Z p = none ∧ ∃ vs, H p = some (.lst vs) ∧ All (τ.r Z) vs xs ∧ xs.length ≤ sizeLine
/-- a call that changes a list of the caller's -/
def CallO (M : Mu μ) (sp : Sp) (E : XK) (τ : Ty α) (p : Addr) (xs : List α) (Rs : Ra M.fp) (s : μ) (R : Rr M.fp) (xs' : List α) : Prop :=
  ∀ Z H vs, Same Z H → M.m s Z H → p ∉ M.fp → LstAt Z H τ p xs → Rs.r Z H vs → ∀ Q : VK, (∀ v Z2 H2, Step (p :: M.fp) Z H Z2 H2 → M.m s Z2 H2 → LstAt Z2 H2 τ p xs' → R.r Z2 H2 v → Q v H2) → sp vs H Q E
theorem Own.at (o : Own S H0 fp Z H τ p xs) : LstAt Z H τ p xs := by
  obtain ⟨vs, h, t⟩ := o.ex
  exact ⟨o.z, vs, h, t, o.l⟩
theorem OwnP.at (o : OwnP S fp Z H τ p xs) : LstAt Z H τ p xs := by
  obtain ⟨vs, h, t⟩ := o.ex
  exact ⟨o.z, vs, h, t, o.l⟩
/-- x = f(xs, ..) where f changes xs -/
theorem st_setO {i : Nat} {sp : Sp} {E : XK} {Rs : Ra M.fp} {R : Rr M.fp} (P : Pt S Z0 H0 M Z H s) (o : Own S H0 M.fp Z H τ p xs) (C : CallO M sp E τ p xs Rs s1 R ys) (ha : EvA M t σ Z H s Rs s1)
    (k : ∀ v Z1 H1, Step (p :: M.fp) Z H Z1 H1 → Pt S Z0 H0 M Z1 H1 s1 → Own S H0 M.fp Z1 H1 τ p ys → R.r Z1 H1 v → D.nx (σ.set i (some v)) H1) : tAsg (tCall sp [] E t) (gName i) D σ H :=
  ha Z H (Same.refl _) SameX.refl P.sub P.m _ fun vs Z2 H2 e m rs => by
    rw [List.append_nil]
    have o1 := o.next e
    have P1 := P.next e m
    refine C Z2 H2 vs e.s m o.n o1.at rs _ fun v Z3 H3 e2 m2 ⟨z3, ws, h3, t3, l3⟩ rv => ?_
    have st : Step (p :: M.fp) Z H Z3 H3 := (e.weak (S := p :: M.fp) fun _ h => .inl (List.mem_cons_of_mem _ h)).trans e2
    refine k v Z3 H3 st ⟨P1.st.mine e2 fun a h => ?_, m2, P1.mine⟩ ⟨⟨ws, h3, t3⟩, z3, o.n, o.mine, l3⟩ rv
    rcases List.mem_cons.mp h with rfl | h
    · exact .inr o.mine
    · exact P.mine a h
/-- xs * k -/
theorem all_rep {R : V → α → Prop} {vs : List V} (h : All R vs xs) : ∀ n : Nat, All R (List.replicate n vs).flatten (List.replicate n xs).flatten
  | 0 => .nil
  | n + 1 => by
    rw [List.replicate_succ, List.replicate_succ, List.flatten_cons, List.flatten_cons]
    exact h.app (all_rep h n)
theorem rep_len : ∀ (n : Nat) (l : List α), (List.replicate n l).flatten.length = l.length * n
  | 0, l => by simp
  | n + 1, l => by
    rw [List.replicate_succ, List.flatten_cons, List.length_append, rep_len n l, Nat.mul_succ]
    omega
def repZ (xs : List α) (k : Int) : List α := (List.replicate k.toNat xs).flatten
theorem en_rep {k : Int} (ha : Ev M te σ Z H s (li τ xs) s1) (hb : Ev M tj σ Z H s1 (ty yInt k) s2) (l : -(2 ^ 63) ≤ k ∧ k < 2 ^ 63 ∧ xs.length * k.toNat ≤ 16777216) : EvN M (tOp rRep te tj) σ Z H s τ (repZ xs k) s2 :=
  en_op ha hb fun _ _ _ _ sz e1 e2 => by
    obtain ⟨p, vs, rfl, g, t, _⟩ := rdl sz e1
    have ev : _ = V.int k := e2
    subst ev
    refine ⟨(List.replicate k.toNat vs).flatten, all_rep t _, ?_, fun Q q => ⟨p, k, vs, rfl, rfl, g, l.1, l.2.1, by rw [t.len]; exact l.2.2, q⟩⟩
    unfold repZ
    rw [rep_len]
    exact l.2.2
end
end TP

namespace TP
open PySem PySem.Spec PyProof.Rows L2
section
variable {μ : Type} {M : Mu μ} {σ : L2.St} {Z H : Hp} {s s1 s2 : μ} {ta tb : TE} {K : PySem.W.Frag} {α : Type} {τ : Ty α}
theorem ev_countI {xs : List Int} {k : Int} (ha : Ev M ta σ Z H s (li yInt xs) s1) (hb : Ev M tb σ Z H s1 (ty yInt k) s2) : Ev M (tBM K "list" (rCntI K) ta (tCons tb tNil)) σ Z H s (ty yInt ((xs.count k : Nat) : Int)) s2 :=
  fun Z1 H1 a b c d Q q => ha Z1 H1 a b c d _ fun v Z2 H2 e m rv => by
    obtain ⟨p, vs, rfl, g, t, _⟩ := rdl e.s rv
    refine ⟨.inl ⟨rfl, _, SqL.of g⟩, eva_cons hb eva_nil Z2 H2 (a.trans e.z) (b.trans e.h) e.s m _ fun us Z3 H3 e2 m2 ⟨w, r, e3, rw', e4⟩ => ?_⟩
    cases e4; cases e3
    obtain ⟨p', vs', ev, g', t', _⟩ := rdl e2.s ((li yInt xs).st e2 rv)
    cases ev
    have hvs : vs' = xs.map V.int := All.ints t'
    subst hvs
    exact ⟨p, xs, k, rfl, by rw [show w = .int k from rw'], SqL.of g', q _ _ _ (e.trans e2) m2 rfl⟩
def idxO [DecidableEq α] (xs : List α) (x : α) : Option Nat := xs.findIdx? (fun y => decide (y = x))
/-- flat kinds, as list.index asks -/
structure FlatJ {α : Type} (τ : Ty α) (f : α → V) : Prop where
  eq : ∀ Z v x, τ.r Z v x → v = f x
  fl : ∀ x, flatV (f x) = true
  ev : ∀ x y, eqV (f x) (f y) = true ↔ x = y
theorem fj_int : FlatJ yInt V.int := ⟨fun _ _ _ h => h, fun _ => rfl, fun x y => by simp [eqV]⟩
theorem fj_str : FlatJ yStr V.str := ⟨fun _ _ _ h => h.1, fun _ => rfl, fun x y => by simp [eqV]⟩
theorem ev_indexL [DecidableEq α] {f : α → V} {xs : List α} {x : α} {j : Nat} (F : FlatJ τ f) (ha : Ev M ta σ Z H s (li τ xs) s1) (hb : Ev M tb σ Z H s1 (ty τ x) s2) (h : idxO xs x = some j) : Ev M (tBM K "list" (rIndex K) ta (tCons tb tNil)) σ Z H s (ty yInt ((j : Nat) : Int)) s2 :=
  fun Z1 H1 a b c d Q q => ha Z1 H1 a b c d _ fun v Z2 H2 e m rv => by
    obtain ⟨p, vs, rfl, g, t, _⟩ := rdl e.s rv
    refine ⟨.inl ⟨rfl, _, SqL.of g⟩, eva_cons hb eva_nil Z2 H2 (a.trans e.z) (b.trans e.h) e.s m _ fun us Z3 H3 e2 m2 ⟨w, r, e3, rw', e4⟩ => ?_⟩
    cases e4; cases e3
    obtain ⟨p', vs', ev, g', t', _⟩ := rdl e2.s ((li τ xs).st e2 rv)
    cases ev
    have hvs : vs' = xs.map f := All.map (fun v x => F.eq _ v x) t'
    subst hvs
    have hw : w = f x := F.eq _ _ _ rw'
    subst hw
    unfold idxO at h
    rw [List.findIdx?_eq_some_iff_getElem] at h
    obtain ⟨hj, h1, h2⟩ := h
    have e1 : xs[j] = x := of_decide_eq_true h1
    refine ⟨p, xs.map f, f x, j, f x, rfl, rfl, SqL.of g', F.fl x, ?_, by rw [List.getElem?_map, List.getElem?_eq_getElem hj, e1]; rfl, (F.ev x x).mpr rfl, fun m' z' hm hz => ?_, q _ _ _ (e.trans e2) m2 rfl⟩
    · rw [List.all_map]
      rw [List.all_eq_true]
      exact fun y _ => F.fl y
    · rw [List.getElem?_map] at hz
      have hm' : m' < xs.length := by omega
      rw [List.getElem?_eq_getElem hm'] at hz
      have hz' : f xs[m'] = z' := Option.some.inj hz
      subst hz'
      have := h2 m' hm
      cases q' : eqV (f xs[m']) (f x) with
      | false => rfl
      | true => exact absurd (decide_eq_true ((F.ev _ _).mp q')) (by simpa using this)
end
end TP

namespace TP
open PySem PySem.Spec PyProof.Rows L2
theorem u65 {k : Nat} {A : Around} (r : Room k A) : A.units + 65 < cLine := by have := r.un; omega
/-- is it among them? -/
def memD {α : Type} [DecidableEq α] (x : α) (xs : List α) : Bool := decide (x ∈ xs)
section
variable {μ : Type} {M : Mu μ} {σ : L2.St} {Z H : Hp} {s s1 s2 : μ} {ta tb : TE} {K : PySem.W.Frag} {α : Type} [DecidableEq α] {τ : Ty α} {d : α → PyData} {n : Nat} {x : α} {xs : List α}
theorem any_memD (E : EqD K τ d n) (x : α) (xs : List α) : ((xs.map d).any fun z => PyData.eqv z (d x)) = memD x xs := by
  unfold memD
  rw [Bool.eq_iff_iff, List.any_eq_true, decide_eq_true_iff]
  constructor
  · rintro ⟨z, hz, e⟩
    obtain ⟨y, hy, rfl⟩ := List.mem_map.mp hz
    rw [(E.eqv y x).mp e] at hy
    exact hy
  · intro h
    exact ⟨d x, List.mem_map.mpr ⟨x, h, rfl⟩, (E.eqv x x).mpr rfl⟩
theorem ev_inG {R : Rr M.fp} (E : EqD K τ d n) (hn : n + 1 ≤ 64) (G : GD K R (d x)) (ha : Ev M ta σ Z H s R s1) (hb : Ev M tb σ Z H s1 (li τ xs) s2) : Ev M (tOp (rInD K) ta tb) σ Z H s (ty yBool (memD x xs)) s2 :=
  ev_op ha hb fun _ _ _ _ sz e1 e2 _ q => by
    obtain ⟨d1, k1⟩ := G _ _ _ sz e1
    obtain ⟨d2, k2⟩ := E.gdl xs _ _ _ sz e2
    exact ⟨d x, xs.map d, d1, d2, shaped_of k1 (Nat.le_trans (E.dep x) (by omega)) (Nat.le_refl _), shaped_of k2 (depL E hn) (Nat.le_refl _), q _ _ _ (Step.refl sz) (congrArg V.bl (any_memD E x xs))⟩
theorem ev_notinG {R : Rr M.fp} (E : EqD K τ d n) (hn : n + 1 ≤ 64) (G : GD K R (d x)) (ha : Ev M ta σ Z H s R s1) (hb : Ev M tb σ Z H s1 (li τ xs) s2) : Ev M (tOp (rNotInD K) ta tb) σ Z H s (ty yBool (!memD x xs)) s2 :=
  ev_op ha hb fun _ _ _ _ sz e1 e2 _ q => by
    obtain ⟨d1, k1⟩ := G _ _ _ sz e1
    obtain ⟨d2, k2⟩ := E.gdl xs _ _ _ sz e2
    exact ⟨d x, xs.map d, d1, d2, shaped_of k1 (Nat.le_trans (E.dep x) (by omega)) (Nat.le_refl _), shaped_of k2 (depL E hn) (Nat.le_refl _), q _ _ _ (Step.refl sz) (congrArg (fun b => V.bl (!b)) (any_memD E x xs))⟩
theorem ev_indexG {R : Rr M.fp} {j : Nat} (E : EqD K τ d n) (hn : n + 1 ≤ 64) (G : GD K R (d x)) (ha : Ev M ta σ Z H s (li τ xs) s1) (hb : Ev M tb σ Z H s1 R s2) (h : idxO xs x = some j) : Ev M (tBM K "list" (rIndexD K) ta (tCons tb tNil)) σ Z H s (ty yInt ((j : Nat) : Int)) s2 :=
  fun Z1 H1 a b c d' Q q => ha Z1 H1 a b c d' _ fun v Z2 H2 e m rv => by
    obtain ⟨p, vs, rfl, g, t, _⟩ := rdl e.s rv
    refine ⟨.inl ⟨rfl, _, SqL.of g⟩, eva_cons hb eva_nil Z2 H2 (a.trans e.z) (b.trans e.h) e.s m _ fun us Z3 H3 e2 m2 ⟨w, r, e3, rw', e4⟩ => ?_⟩
    cases e4; cases e3
    obtain ⟨d2, k2⟩ := E.gdl xs _ _ _ e2.s ((li τ xs).st e2 rv)
    obtain ⟨d1, k1⟩ := G _ _ _ e2.s rw'
    unfold idxO at h
    rw [List.findIdx?_eq_some_iff_getElem] at h
    obtain ⟨hj, h1, h2⟩ := h
    have e1 : xs[j] = x := of_decide_eq_true h1
    refine ⟨p, w, d x, xs.map d, j, d x, rfl, rfl, d2, d1, shaped_of k2 (depL E hn) (Nat.le_refl _), shaped_of k1 (Nat.le_trans (E.dep x) (by omega)) (Nat.le_refl _), by rw [List.getElem?_map, List.getElem?_eq_getElem hj, e1]; rfl, (E.eqv x x).mpr rfl, fun m' z' hm hz => ?_, q _ _ _ (e.trans e2) m2 rfl⟩
    rw [List.getElem?_map] at hz
    have hm' : m' < xs.length := by omega
    rw [List.getElem?_eq_getElem hm'] at hz
    have hz' : d xs[m'] = z' := Option.some.inj hz
    subst hz'
    have := h2 m' hm
    cases q' : PyData.eqv (d xs[m']) (d x) with
    | false => rfl
    | true => exact absurd (decide_eq_true ((E.eqv _ _).mp q')) (by simpa using this)
end
end TP

namespace TP
open PySem PySem.Spec PyProof.Rows L2
/-! ### is a value among others, by their data -/
def memW {α : Type} (d : α → PyData) (x : α) (xs : List α) : Bool := (xs.map d).any fun z => PyData.eqv z (d x)
section
variable {μ : Type} {M : Mu μ} {σ : L2.St} {Z H : Hp} {s s1 s2 : μ} {ta tb : TE} {K : PySem.W.Frag} {α : Type} {τ : Ty α} {d : α → PyData} {n : Nat} {x : α} {xs : List α}
theorem ev_inW (E : EqW K τ d n) (hn : n + 1 ≤ 64) (ha : Ev M ta σ Z H s (ty τ x) s1) (hb : Ev M tb σ Z H s1 (li τ xs) s2) : Ev M (tOp (rInD K) ta tb) σ Z H s (ty yBool (memW d x xs)) s2 :=
  ev_op ha hb fun _ _ _ _ sz e1 e2 _ q => by
    obtain ⟨d1, k1⟩ := E.gd x _ _ _ sz e1
    obtain ⟨d2, k2⟩ := E.gdl xs _ _ _ sz e2
    exact ⟨d x, xs.map d, d1, d2, shaped_of k1 (E.dpt (by omega) x) (Nat.le_refl _), shaped_of k2 (E.dpl hn xs) (Nat.le_refl _), q _ _ _ (Step.refl sz) rfl⟩
theorem ev_notinW (E : EqW K τ d n) (hn : n + 1 ≤ 64) (ha : Ev M ta σ Z H s (ty τ x) s1) (hb : Ev M tb σ Z H s1 (li τ xs) s2) : Ev M (tOp (rNotInD K) ta tb) σ Z H s (ty yBool (!memW d x xs)) s2 :=
  ev_op ha hb fun _ _ _ _ sz e1 e2 _ q => by
    obtain ⟨d1, k1⟩ := E.gd x _ _ _ sz e1
    obtain ⟨d2, k2⟩ := E.gdl xs _ _ _ sz e2
    exact ⟨d x, xs.map d, d1, d2, shaped_of k1 (E.dpt (by omega) x) (Nat.le_refl _), shaped_of k2 (E.dpl hn xs) (Nat.le_refl _), q _ _ _ (Step.refl sz) rfl⟩
end
end TP
namespace TP
open PySem PySem.Spec PyProof.Rows L2
theorem ev_lenQ {μ : Type} {M : Mu μ} {σ : L2.St} {Z H : Hp} {s s1 : μ} {ta : TE} {K : PySem.W.Frag} {α : Type} {τ : Ty α} {x : α} {n : Int} {r : List V → Hp → VK → Prop} (hr : ∀ xs H Q, (∃ p ys, xs = [.ref p] ∧ (SqL K H p ys ∨ SqT K H p ys) ∧ Q (.int ys.length) H) → r xs H Q)
    (hτ : ∀ Z v, τ.r Z v x → ∃ p ys, v = .ref p ∧ SqT K Z p ys ∧ (ys.length : Int) = n) (ha : Ev M ta σ Z H s (ty τ x) s1) : Ev M (tCB r (tCons ta tNil)) σ Z H s (ty yInt n) s1 :=
  ev_cb (eva_cons ha eva_nil) fun _ _ _ sz ⟨v, r, e, h, e2⟩ _ q => by
    cases e2; cases e
    obtain ⟨p, ys, rfl, g, l⟩ := hτ _ _ h
    exact hr _ _ _ ⟨p, ys, rfl, .inr (seqT_same sz g), by rw [l]; exact q _ _ _ (Step.refl sz) rfl⟩
end TP
namespace TP
open PySem PySem.Spec PyProof.Rows L2
/-! ### list(range(..)) -/
theorem all_rgV {R : V → Int → Prop} (h : ∀ x, R (.int x) x) (a b : Int) : All R (rgV a b) (rangeZ a b) := by
  unfold rgV rangeZ
  generalize List.range (b - a).toNat = l
  induction l with
  | nil => exact .nil
  | cons i l ih => exact .cons (h _) ih
theorem rgOk_of {i j : Int} (h : RangeOk i j) : RgOk i j ∧ (rangeZ i j).length ≤ sizeLine := by
  obtain ⟨⟨h1, h2⟩, ⟨h3, h4⟩, h5⟩ := h
  rw [rangeZ_len]
  exact ⟨⟨h1, h2, h3, h4, by omega⟩, by show (j - i).toNat ≤ 16777216; omega⟩
section
variable {μ : Type} {M : Mu μ} {σ : L2.St} {Z H : Hp} {s s1 s2 : μ} {ta tb : TE}
theorem en_lrg2 {i j : Int} (ha : Ev M ta σ Z H s (ty yInt i) s1) (hb : Ev M tb σ Z H s1 (ty yInt j) s2) (h1 : RangeOk i j) : EvN M (tLstRg (tRg2 ta tb)) σ Z H s yInt (rangeZ i j) s2 :=
  fun Z1 H1 a b c d Q q => ha Z1 H1 a b c d _ fun v Z2 H2 e m rv => hb Z2 H2 (a.trans e.z) (b.trans e.h) e.s m _ fun w Z3 H3 e2 m2 rw => ⟨i, j, rv, rw, (rgOk_of h1).1, fun p hp => by
    have e3 := Step.own (o := .lst (rgV i j)) e2.s hp
    exact q p _ Z3 _ ((e.trans e2).trans e3.pure) (M.pure e3 m2) (same_x (e.trans e2) hp) (same_none e2.s hp) upd_same (all_rgV (fun _ => rfl) i j) (rgOk_of h1).2⟩
theorem en_lrg1 {j : Int} (hb : Ev M tb σ Z H s (ty yInt j) s1) (h1 : RangeOk 0 j) : EvN M (tLstRg (tRg1 tb)) σ Z H s yInt (rangeZ 0 j) s1 :=
  fun Z1 H1 a b c d Q q => hb Z1 H1 a b c d _ fun w Z3 H3 e m rw => ⟨j, rw, (rgOk_of h1).1, fun p hp => by
    have e3 := Step.own (o := .lst (rgV 0 j)) e.s hp
    exact q p _ Z3 _ (e.trans e3.pure) (M.pure e3 m) (same_x e hp) (same_none e.s hp) upd_same (all_rgV (fun _ => rfl) 0 j) (rgOk_of h1).2⟩
end
end TP
namespace TP
open PySem PySem.Spec PyProof.Rows L2
theorem ev_chainEE {μ : Type} {M : Mu μ} {σ : L2.St} {Z H : Hp} {s s1 : μ} {ta tb tc : TE} {i j k : Int} (ha : Ev M ta σ Z H s (ty yInt i) s1) (hb : Ev M tb σ Z H s1 (ty yInt j) s1) (hc : Ev M tc σ Z H s1 (ty yInt k) s1) :
    Ev M (tChain rEq rEq ta tb tc) σ Z H s (ty yBool (decide (i = j) && decide (j = k))) s1 :=
  have e : ∀ a b : Int, decide (V.int a = V.int b) = decide (a = b) := fun a b => by
    by_cases h : a = b
    · rw [decide_eq_true h, decide_eq_true (by rw [h])]
    · rw [decide_eq_false h, decide_eq_false (fun z => h (V.int.inj z))]
  ev_chainG (R1 := ty yInt i) (R0 := ty yInt j) (R3 := ty yInt k) (fun _ _ x y _ e1 e2 _ q => by
    have e1 : x = .int i := e1
    have e2 : y = .int j := e2
    subst e1 e2
    exact ⟨rfl, by rw [e]; exact q⟩) (fun _ _ x y _ e1 e2 _ q => by
    have e1 : x = .int j := e1
    have e2 : y = .int k := e2
    subst e1 e2
    exact ⟨rfl, by rw [e]; exact q⟩) ha hb hc
end TP

namespace SLam
open PySem PySem.Spec PyProof.Rows L2 PySem.W LamX NdefX
/-! ### sorted(xs, key=lambda x: ..) -/
/-- keys: numbers, texts, flags, and tuples of them -/
def Sc : V → PyData → Prop
  | .int i, d => d = .int i
  | .str x, d => d = .str x
  | .bl b, d => d = .bool b
  | _, _ => False
inductive ScAll : List V → List PyData → Prop
  | nil : ScAll [] []
  | cons {v : V} {vs : List V} {d : PyData} {ds : List PyData} : Sc v d → ScAll vs ds → ScAll (v :: vs) (d :: ds)
def DpT (K : PySem.W.Frag) (H : Hp) (v : V) (d : PyData) : Prop := Sc v d ∨ ∃ a xs ds, v = .ref a ∧ d = .tuple ds ∧ SqT K H a xs ∧ ScAll xs ds
theorem Sc.dp {K : PySem.W.Frag} {H : Hp} : ∀ {v : V} {d : PyData}, Sc v d → Dp K H v d
  | .int _, _, h => by cases h; exact .int _
  | .str _, _, h => by cases h; exact .str _
  | .bl _, _, h => by cases h; exact .bl _
theorem ScAll.dp {K : PySem.W.Frag} {H : Hp} : ∀ {vs : List V} {ds : List PyData}, ScAll vs ds → DpAll K H vs ds
  | _, _, .nil => .nil
  | _, _, .cons h t => .cons h.dp t.dp
theorem DpT.dp {K : PySem.W.Frag} {H : Hp} {v : V} {d : PyData} (h : DpT K H v d) : Dp K H v d := by
  rcases h with h | ⟨a, xs, ds, rfl, rfl, s, t⟩
  · exact h.dp
  · exact .tup s t.dp
theorem DpT.mono {K : PySem.W.Frag} {H H' : Hp} (t : ∀ b xs, H b = some (.tup xs) → H' b = some (.tup xs)) (f : ∀ b o u, H b = some (.frz o u) → H' b = some (.frz o u)) {v : V} {d : PyData} (h : DpT K H v d) : DpT K H' v d := by
  rcases h with h | ⟨a, xs, ds, rfl, rfl, s, c⟩
  · exact .inl h
  · refine .inr ⟨a, xs, ds, rfl, rfl, ?_, c⟩
    rcases s with (s | ⟨o, s⟩) | s
    · exact .inl (.inl (t _ _ s))
    · exact .inl (.inr ⟨o, f _ _ _ s⟩)
    · exact .inr s
/-- the object at f is the lambda F with the body -/
def LamAt (h : Heap) (f : Addr) (F : NF) (body : Expr) : Prop := ∃ pm ctv, h.get? f = some (kla_obj "<lambda>" F.qual F.params body F.scope F.cl pm F.c ctv)
section
variable {CX : CXT} {P : Program} {w : World} {K : PySem.W.Frag} {mg : Str → Option Value} {base : Heap} {N ps fr : List Str} {F : NF} {f : Addr} {A : Around} {outer : List Env} {s : Shared} {H : Hp} {E : XK} {us : List Value} {vs : List V} {ws : List (Option V)} {body : Expr} {tb : TE} {Q : VK} {k : Nat}
theorem lam_call (S : NScope N ps fr F.scope) (hr : Room (k + 1) A) (e0 : Env0 P w K mg base A outer s H) (ho : LamAt s.heap f F body) (hc : H F.c = some (CodeO F.c F.qual)) (C : CellsAt F.cl fr ws s.heap H)
    (hb : ∀ (pm ctv : Value) (us : List Value), us.length = ps.length → bindArgs (kla_fn "<lambda>" F.qual F.params body F.scope F.cl pm (.ref F.c) ctv) ⟨us, []⟩ = pure (ps.zip us)) (r : Vals vs us) (hl : vs.length = ps.length)
    (hbody : PE (ncx CX P w K mg base N F f A outer s H E) body tb) (hq : tb (startF N vs ws) H Q) : codeAny (model P w) A (.call (.ref f) ⟨us, []⟩) (CR CX outer P w H s Q E) s := by
  have lim : s.heap.NoLimit := e0.mod.nolimit.keeps fun b o e => (e0.bs b o e).1
  obtain ⟨pm, ctv, ho⟩ := ho
  refine kla_callFunE hr.depth ho rfl S.co S.gen rfl (codeO_at e0.hok hc) ?_
  rw [hb pm ctv us (by rw [← r.length]; exact hl)]
  refine wpAny_pure (wpAny_newFunctionEnv S.nocell (fun ⟨n, _⟩ hy => S.par n (List.of_mem_zip hy).1) (fun h₁ hns hsb => ⟨lim.fresh _ hsb, ?_⟩) S.kind)
  show codeAny _ _ (.expr body (envF F f s.heap.objs.size)) _ _
  have kp : ∀ b o, s.heap.get? b = some o → h₁.get? b = some o := fun b o e => hsb.extBut b o (Nat.ne_of_lt (Heap.lt_size e)) (Heap.get?_push_of_some _ e)
  have I : Inv (ncx CX P w K mg base N F f A outer s H E) [] (startF N vs ws) H { s with heap := h₁, toks := s.toks + (ps.zip us).length } := inv_startN S hr.hd e0 hl r C hns kp
  refine kla_codeExpr (wpAny_mono (hbody.run [] _ (startF N vs ws) H Q I hq) (fun u s' hs => ?_) fun e s' hs => hs)
  obtain ⟨v', H', J, rv, q⟩ := hs
  exact ⟨v', H', J.os, J.bare, J.base, J.hok, rv, q⟩
end
/-- the outcome: sorted by the keys, ties as they come -/
def sortV {α : Type} (xs : List α) (ks : List PyData) : List α := ((xs.zip ks).mergeSort (dataLe false (·.2))).map (·.1)
section
variable {X : Cx} {pins : List (Addr × Obj)} {σ : L2.St} {H H' : Hp} {s : Shared}
/-- records of ours, that are not tracked, are changed -/
theorem inv_changed {h' : Heap} {t' : Nat} (I : Inv X pins σ H s) (ch : List Addr) (k : ∀ b o, b ∉ ch → s.heap.get? b = some o → h'.get? b = some o) (hn : ∀ b ∈ ch, H b = none)
    (hch : ∀ b ∈ ch, (b ∈ X.ex ∨ X.s_0.heap.objs.size ≤ b) ∧ b ≠ X.env.locals ∧ (∀ x c, X.env.cells.lookup x = some c → c ≠ b) ∧ ∀ p ∈ X.pn ++ pins, p.1 ≠ b) : Inv X pins σ H { s with heap := h', toks := t' } := by
  have nit : ∀ b u, H b = some u → b ∉ ch := fun b u e z => by rw [hn b z] at e; cases e
  have nL : X.env.locals ∉ ch := fun z => (hch _ z).2.1 rfl
  refine I.step (g' := s.gens) (d' := s.drawn) (ch := ch) hch (fun b o _ _ hc e _ => k b o hc e) (fun b o _ _ hc e _ => ⟨o.slots, k b o hc e⟩) (fun _ _ _ _ n => n)
    (fun b o hc e => ⟨o, k b o hc e⟩) (fun _ _ e => e) (fun _ _ _ e => e) (fun b ps e => ⟨#[], by rw [e]; simp⟩) (fun m hm => ?_) (fun b u e => ?_) I.bare
  · obtain ⟨o, es, ep, ho, r⟩ := hm
    exact ⟨o, es, ep, k _ o nL ho, r⟩
  · refine (I.hok b u e).stay (fun c v hc q => k c v ?_ q) (fun _ q => q) fun _ _ q => q
    rcases hc with z | z
    · rw [z]; exact nit b u e
    · exact nit c _ z
/-- a list of ours is known from now on -/
theorem inv_track {a : Addr} {its : List Value} {n : Nat} {vs : List V} (I : Inv X pins σ H s) (hn : H a = none) (ho : s.heap.get? a = some (seqObj "list" its.toArray n)) (r : Vals vs its) (hz : vs.length ≤ sizeLine)
    (hch : (a ∈ X.ex ∨ X.s_0.heap.objs.size ≤ a) ∧ a ≠ X.env.locals ∧ (∀ x c, X.env.cells.lookup x = some c → c ≠ a) ∧ ∀ p ∈ X.pn ++ pins, p.1 ≠ a) : Inv X pins σ (upd H a (.lst vs)) s := by
  refine I.step (h' := s.heap) (t' := s.toks) (g' := s.gens) (d' := s.drawn) (ch := [a]) (fun b hb => by rw [List.mem_singleton.mp hb]; exact hch) (fun b o _ _ hc e _ => e) (fun b o _ _ hc e _ => ⟨o.slots, e⟩) (fun b o hc e n => by rw [upd_ne (fun z => hc (by rw [z]; exact List.mem_singleton_self _))]; exact n)
    (fun b o hc e => ⟨o, e⟩) (fun b xs e => by rw [upd_ne (ne_of_none e hn)]; exact e) (fun b o u e => by rw [upd_ne (ne_of_none e hn)]; exact e) (fun b ps e => ⟨#[], by rw [upd_ne (ne_of_none e hn), e]; simp⟩) (fun m hm => hm) (fun b u e => ?_) I.bare
  by_cases hb : b = a
  · subst hb
    rw [upd_same] at e
    cases e
    exact ⟨hz, its, n, r, ho⟩
  · rw [upd_ne hb] at e
    exact (I.hok b u e).stay (fun c v hc q => q) (fun c q => by rw [upd_ne (ne_of_none q hn)]; exact q) fun c xs q => by rw [upd_ne (ne_of_none q hn)]; exact q
theorem each_vals : ∀ {xs : List V} {us : List Value} {ks : List PyData}, Vals xs us → ks.length = xs.length → EachIs (fun (u : Value) (b : V × PyData) => RelV b.1 u) us (xs.zip ks)
  | _, _, _, .nil, _ => by simpa using EachIs.nil
  | _, _, [], .cons _ _, h => by simp at h
  | _, _, _ :: _, .cons r t, h => .cons r (each_vals t (by simpa using h))
theorem vals_each : ∀ {us : List Value} {bs : List (V × PyData)}, EachIs (fun (u : Value) (b : V × PyData) => RelV b.1 u) us bs → Vals (bs.map (·.1)) us
  | _, _, .nil => .nil
  | _, _, .cons r t => .cons r (vals_each t)
theorem zip_snd : ∀ {α β : Type} {xs : List α} {ks : List β}, ks.length = xs.length → (xs.zip ks).map (·.2) = ks
  | _, _, [], [], _ => rfl
  | _, _, [], _ :: _, h => by simp at h
  | _, _, _ :: _, [], h => by simp at h
  | _, _, _ :: xs, _ :: ks, h => by
    rw [List.zip_cons_cons, List.map_cons, zip_snd (by simpa using h)]
/-- the keys that were told so far -/
def KeysAre (K : PySem.W.Frag) (H : Hp) : List Value → List PyData → Prop := EachIs fun u d => ∃ v, RelV v u ∧ DpT K H v d
theorem KeysAre.mono {K : PySem.W.Frag} {us : List Value} {ds : List PyData} (h : KeysAre K H us ds) (t : ∀ b xs, H b = some (.tup xs) → H' b = some (.tup xs)) (f : ∀ b o u, H b = some (.frz o u) → H' b = some (.frz o u)) : KeysAre K H' us ds :=
  EachIs.mono (fun _ _ ⟨v, r, d⟩ => ⟨v, r, d.mono t f⟩) h
end
end SLam
namespace SLam
open PySem PySem.Spec PyProof.Rows L2 PySem.W LamX NdefX
section
variable {X : Cx} {pins : List (Addr × Obj)} {σ : L2.St} {H H' : Hp} {s : Shared} {F : NF} {f a kS : Addr} {body : Expr} {N ps fr : List Str} {js : List Nat} {tb : TE} {k : Nat} {J : Hp → Prop} {xs : List V} {us : List Value} {ks : List PyData}
/-- an address that is free -/
theorem fresh_ok (I : Inv X pins σ H s) {b : Addr} (h : s.heap.objs.size ≤ b) : ((b ∈ X.ex ∨ X.s_0.heap.objs.size ≤ b) ∧ b ≠ X.env.locals ∧ (∀ x c, X.env.cells.lookup x = some c → c ≠ b) ∧ ∀ p ∈ X.pn ++ pins, p.1 ≠ b) ∧ b ∉ frs X.stack := by
  have lt : ∀ {c : Addr} {o : Obj}, s.heap.get? c = some o → c ≠ b := fun {c o} e z => by
    rw [z] at e
    exact Nat.lt_irrefl _ (Nat.lt_of_lt_of_le (Heap.lt_size e) h)
  have nl : b ≠ X.env.locals := fun z => by
    have := I.lt
    rw [← z] at this
    exact Nat.lt_irrefl _ (Nat.lt_of_lt_of_le this h)
  refine ⟨⟨.inr (Nat.le_trans I.sz h), nl, fun x c e z => ?_, fun p hp => lt (I.pin p hp).1⟩, fun z => ?_⟩
  · obtain ⟨v, o, ho, _⟩ := I.cell x c e
    exact lt ho z
  · rcases List.mem_cons.mp (I.stkSub _ z) with e | e
    · exact nl e
    · exact I.nofs h e
/-- one key is asked for -/
theorem lam_turn (I : Inv X pins σ H s) (cap : X.Ok → Caps X F.cl fr js) (S : NScope N ps fr F.scope) (hps : ps.length = 1) (hr : Room (k + 1) X.A.in1.in1) (ho : LamAt s.heap f F body) (hc : H F.c = some (CodeO F.c F.qual))
    (hb : ∀ (pm ctv : Value) (us : List Value), us.length = ps.length → bindArgs (kla_fn "<lambda>" F.qual F.params body F.scope F.cl pm (.ref F.c) ctv) ⟨us, []⟩ = pure (ps.zip us))
    (hbody : PE (ncx L2.CX0 X.prog X.w X.K X.mg X.base N F f X.A.in1.in1 X.stack s H L2.E0) body tb) {x : V} {u : Value} (r : RelV x u) {Q : VK} (hq : tb (startF N [x] (js.map (slotAt σ))) H Q) :
    wpAny (model X.prog X.w) X.A.in1.in1 (call (.ref f) [u]) (fun y s2 => ∃ v H2, Inv X pins σ H2 s2 ∧ RelV v y ∧ Q v H2 ∧ Un (frs X.stack) [] H H2 s.heap s2.heap) (fun _ _ => False) s := by
  refine wpAny_call (codeAny_mono (lam_call S hr I.env0.in1.in1 ho hc (cells_of I (cap I.ok)) hb (.cons r .nil) (by rw [hps]; rfl) hbody hq) fun y s' h => ?_)
  cases y with
  | error e => exact (show False from h).elim
  | ok fl =>
    cases fl with
    | ret u2 =>
      obtain ⟨v, H2, os, bare, un, hok, rv, q⟩ := h
      obtain ⟨hh, g, d, t, os'⟩ := s'
      obtain rfl : os' = s.os := os
      exact ⟨v, H2, I.call (h' := hh) (g' := g) (d' := d) (t' := t) (ch := []) un hok bare (fun b z => absurd z (by simp)), rv, q, un⟩
    | next => exact False.elim h
    | brk => exact False.elim h
    | cont => exact False.elim h
/-- the keys, then the sorting -/
theorem sortL_rest {e1 : Nat} {P : PySem.Fin → Shared → Prop} {E : Value → Shared → Prop} (I0 : Inv X pins σ H s) (j0 : J H) (rv : Vals xs us) (hlen : ks.length = us.length) (hZ : us.length ≤ sizeLine) (hal : AllAlike ks) (hsk : Sortable ks) (hu : ∀ d, d ∈ ks → X.A.in1.in1.units + d.depth < cLine)
    (oa : ((a ∈ X.ex ∨ X.s_0.heap.objs.size ≤ a) ∧ a ≠ X.env.locals ∧ (∀ x c, X.env.cells.lookup x = some c → c ≠ a) ∧ ∀ p ∈ X.pn ++ pins, p.1 ≠ a) ∧ a ∉ frs X.stack)
    (ok : ((kS ∈ X.ex ∨ X.s_0.heap.objs.size ≤ kS) ∧ kS ≠ X.env.locals ∧ (∀ x c, X.env.cells.lookup x = some c → c ≠ kS) ∧ ∀ p ∈ X.pn ++ pins, p.1 ≠ kS) ∧ kS ∉ frs X.stack)
    (nk : s.heap.get? kS = some (seqObj "list" #[] 0)) (na : s.heap.get? a = some (seqObj "list" #[] e1)) (hka : kS ≠ a) (hna : H a = none) (hnk : H kS = none) (hf : LamAt s.heap f F body) (hfn : H f = none) (hfr : f ∉ frs X.stack) (hfa : f ≠ a) (hfk : f ≠ kS)
    (turn : ∀ (i : Nat) (x : V) (u : Value) (d : PyData), xs[i]? = some x → RelV x u → ks[i]? = some d → ∀ (H1 : Hp) (s1 : Shared), Inv X pins σ H1 s1 → J H1 → LamAt s1.heap f F body →
      wpAny (model X.prog X.w) X.A.in1.in1 (call (.ref f) [u]) (fun y s2 => ∃ v H2, Inv X pins σ H2 s2 ∧ RelV v y ∧ (J H2 ∧ DpT X.K H2 v d) ∧ Un (frs X.stack) [] H1 H2 s1.heap s2.heap) (fun _ _ => False) s1)
    (fin : ∀ H' s', J H' → H' a = none → Inv X pins σ (upd H' a (.lst (sortV xs ks))) s' → P (.done (.ret .none)) s') :
    wpAny (model X.prog X.w) X.A.in1.in1 (ksk_rest a (.ref f) false us.toArray e1 (.ref kS)) P E s := by
  unfold ksk_rest
  refine wpAny_bind (wpAny_rule ?_)
  first
    | rw [List.forIn_toArray]
    | (rw [← Array.forIn_toList]; simp only [List.toList_toArray])
    | rw [← Array.forIn_toList]
  refine wpAny_bind (ksk_fold (fun i s' => ∃ H' kA e, Inv X pins σ H' s' ∧ J H' ∧ H' a = none ∧ H' kS = none ∧ H' f = none ∧ LamAt s'.heap f F body ∧ s'.heap.get? kS = some (seqObj "list" kA e) ∧ s'.heap.get? a = some (seqObj "list" #[] e1) ∧ KeysAre X.K H' kA.toList (ks.take i)) us 0 s
    ⟨H, #[], 0, I0, j0, hna, hnk, hfn, hf, nk, na, by rw [List.take_zero]; exact EachIs.nil⟩ ?step ?done)
  case step =>
    rintro j x s' hx ⟨H', kA, e, I', j', na', nkH, nf', hf', nk', naO, hk⟩
    simp only [Nat.zero_add] at hk ⊢
    have hj : j < us.length := (List.getElem?_eq_some_iff.mp hx).1
    obtain ⟨d, hkj⟩ : ∃ d, ks[j]? = some d := ⟨_, List.getElem?_eq_getElem (by omega)⟩
    obtain ⟨v0, hv0⟩ : ∃ v0, xs[j]? = some v0 := ⟨_, List.getElem?_eq_getElem (by rw [rv.length]; exact hj)⟩
    obtain ⟨u', hu', r0⟩ := rv.get hv0
    rw [hx] at hu'
    cases hu'
    have hz : kA.size ≤ us.length := by
      have h1 := EachIs.length hk
      rw [Array.length_toList, List.length_take] at h1
      omega
    refine wpAny_bind (wpAny_attempt (wpAny_mono (turn j v0 x d hv0 r0 hkj H' s' I' j' hf') (fun y s'' he => ?_) fun _ _ hF => hF.elim))
    obtain ⟨v, H2, I2, ry, ⟨j2, dk⟩, un⟩ := he
    try dsimp only
    have kS2 : s''.heap.get? kS = some (seqObj "list" kA e) := un.keep kS _ nk' nkH ok.2 (by simp)
    have a2 : s''.heap.get? a = some (seqObj "list" #[] e1) := un.keep a _ naO na' oa.2 (by simp)
    have hnk2 : H2 kS = none := un.free kS _ nk' nkH (by simp)
    have hna2 : H2 a = none := un.free a _ naO na' (by simp)
    obtain ⟨pm, ctv, hfo⟩ := hf'
    have hnf2 : H2 f = none := un.free f _ hfo nf' (by simp)
    have hf2 : s''.heap.get? f = _ := un.keep f _ hfo nf' hfr (by simp)
    obtain ⟨hp2, g2, d2, t2, o2⟩ := s''
    have s1 := Heap.SameBut.update hp2 kS (Obj.mapSeq (·.push y))
    obtain ⟨c2, hc2⟩ : ∃ c2, (hp2.update kS (Obj.mapSeq (·.push y))).get? kS = some (seqObj "list" (kA.push y) c2) := ⟨_, get?_update_seq kS2 (·.push y)⟩
    refine wpAny_bind (listUpdate_at kS2 rfl ?_ (Nat.le_trans hz hZ) (Nat.le_trans (Nat.le_of_eq (Array.size_push ..)) (Nat.succ_le_succ (Nat.le_trans hz hZ))))
    have I3 : Inv X pins σ H2 { (⟨hp2, g2, d2, t2, o2⟩ : Shared) with heap := hp2.update kS (Obj.mapSeq (·.push y)), toks := t2 } := inv_changed I2 [kS] (fun b o hb q => (s1.2 b (fun z => hb (by rw [z]; exact List.mem_singleton_self _))).trans q) (fun b hb => by rw [List.mem_singleton.mp hb]; exact hnk2) (fun b hb => by rw [List.mem_singleton.mp hb]; exact ok.1)
    refine wpAny_pure ⟨rfl, H2, kA.push y, c2, I3, j2, hna2, hnk2, hnf2, ⟨pm, ctv, (s1.2 f hfk).trans hf2⟩, hc2, (s1.2 a hka.symm).trans a2, ?_⟩
    have ek : ks.take (j + 1) = ks.take j ++ [d] := by rw [List.take_add_one, hkj]; simp
    have ea : (kA.push y).toList = kA.toList ++ [y] := by simp
    rw [ea, ek]
    exact each_snoc (R := fun u d => ∃ v, RelV v u ∧ DpT X.K H2 v d) ⟨v, ry, dk⟩ (hk.mono un.tups un.frzs)
  case done =>
    rintro s' ⟨H', kA, e, I', j', na', nkH, nf', hf', nk', naO, hk⟩
    have hk' : EachIs (fun v k => ∃ as, Reads s'.heap v k as) kA.toList ks := by
      have e3 : ks.take (0 + us.length) = ks := List.take_of_length_le (by omega)
      rw [e3] at hk
      exact EachIs.mono (fun u d ⟨v, r, q⟩ => q.dp.reads I' d v u r) hk
    have hsz : kA.size = us.length := by
      have h1 := EachIs.length hk'
      rw [Array.length_toList] at h1
      omega
    try dsimp only
    refine wpAny_bind (listItems_at nk' rfl ?_)
    obtain ⟨G, g1, g2⟩ := restrict s'.heap fun b => decide (b ≠ kS)
    have gk : ∀ b, b ≠ kS → G.get? b = s'.heap.get? b := fun b hb => g1 b (decide_eq_true hb)
    have ge : G.get? kS = none := g2 kS (by simp)
    have kp : KeepsBut a G s'.heap := fun b o hb q => by
      by_cases z : b = kS
      · rw [z, ge] at q; cases q
      · rw [← gk b z]; exact q
    obtain ⟨hp, gn, dr, tk0, os⟩ := s'
    refine keyH_end (κ := dataKind hp ks) (h₁ := G) kp ge nk' naO hka (SortsAt.data (s := ⟨hp, gn, dr, tk0, os⟩) hk' hal hsk hu) hsz hZ fun h3 tk3 c k3 n3 => ?_
    have ko : KeyedOut false ks us (sortVals (dataKind hp ks) false kA.toList us) := ⟨hp, kA.toList, hal, rfl, hk'⟩
    have hl2 : ks.length = xs.length := by rw [rv.length]; exact hlen
    have eo := keyedOut_each (bs := xs.zip ks) (·.2) (by rw [zip_snd hl2]; exact ko) (each_vals rv hl2)
    have vo : Vals (sortV xs ks) (sortVals (dataKind hp ks) false kA.toList us) := vals_each eo
    have I3 : Inv X pins σ H' ⟨h3, gn, dr, tk3, os⟩ := inv_changed (s := ⟨hp, gn, dr, tk0, os⟩) (h' := h3) (t' := tk3) I' [a, kS] (fun b o hb q => k3 b o (fun z => hb (by rw [z]; simp)) (by rw [gk b (fun z => hb (by rw [z]; simp))]; exact q)) (fun b hb => by
      rcases List.mem_cons.mp hb with z | z
      · rw [z]; exact na'
      · rw [List.mem_singleton.mp z]; exact nkH) (fun b hb => by
      rcases List.mem_cons.mp hb with z | z
      · rw [z]; exact oa.1
      · rw [List.mem_singleton.mp z]; exact ok.1)
    have lz : (sortV xs ks).length ≤ sizeLine := by
      rw [vo.length, ko.length (by omega)]
      exact hZ
    exact fin H' _ j' na' (inv_track I3 na' n3 vo lz oa.1)
end
end SLam
namespace SLam
open PySem PySem.Spec PyProof.Rows L2 PySem.W LamX NdefX
/-- the table at P, with a code object at c' of the name q more, or as it was -/
def Grown (P c' : Addr) (q : Str) (H H1 : Hp) : Prop :=
  TabS H1 P q ∧ ((H1 = H ∧ ∃ pos ps, H P = some (.tbl ps) ∧ codeAmong pos ps.toList = some (.ref c')) ∨
    (H c' = none ∧ c' ≠ P ∧ ∃ ps more, H P = some (.tbl ps) ∧ (∀ pos cv, codeAmong pos (ps ++ more).toList = some cv → codeAmong pos ps.toList = some cv ∨ cv = .ref c') ∧ H1 = upd (upd H P (.tbl (ps ++ more))) c' (CodeO c' q)))
section
variable {X : Cx} {pins : List (Addr × Obj)} {σ : L2.St} {H : Hp} {s : Shared}
/-- the lambda is made, and all that changes is told -/
theorem lam_new {c P : Addr} {q : Str} {params : Arguments} {body : Expr} {scope : Scope} {pos : Pos} {E : Value → Shared → Prop} {Q : Value → Shared → Prop} (I : Inv X pins σ H s) (TB : TabB X.base X.mg c P) (hcode : X.env.code = .ref c) (hq : X.env.qual ++ "<lambda>" = q)
    (hT : TabS H P q) (hdef : defaultsOf params X.env = ([], [])) (hfree : ∀ y ∈ scope.names, y.2 = .free → ∃ c, X.env.cells.lookup y.1 = some c)
    (h : ∀ (f c' : Addr) (H1 : Hp) (s' : Shared), Inv X pins σ H1 s' → Grown P c' q H H1 → LamAt s'.heap f ⟨"<lambda>", q, params, [], scope, cloFrom X.env.cells scope.names [], c'⟩ body → H1 f = none → f ∉ frs X.stack → Q (.ref f) s') :
    wpAny (model X.prog X.w) X.A (eval (.Lambda params body scope pos) X.env) Q E s := by
  subst hq
  obtain ⟨ps, hP, ht, ha⟩ := id hT
  have bP : s.heap.BuiltinsAt X.mg P := TB.bm.keeps I.bk
  have oP : s.heap.get? P = some { cls := .none, data := .fields ps } := I.hok P _ hP
  have gg := I.mod.glob.keeps I.bk
  have cc := TB.code.keeps I.bk
  refine kla_eval hdef ?_
  cases hc : codeAmong pos ps.toList with
  | some cv =>
    obtain ⟨c', rfl, hco⟩ := ha pos cv hc
    refine kla_makeFunctionHit (mg := X.mg) (c := c) (P := P) (ps := ps) (closure_ok hfree) I.ok.glob gg hcode cc oP ht hc bP fun ctv h' tk hx hsz => ?_
    refine h h'.objs.size c' H _ (I.kept fun b o e => Heap.get?_push_of_some _ (hx b o e)) ⟨hT, .inl ⟨rfl, pos, ps, hP, hc⟩⟩ ⟨_, ctv, Heap.get?_push_size _ rfl⟩ (I.hok.fresh hsz) (fresh_ok I hsz).2
  | none =>
    refine kla_makeFunction (mg := X.mg) (c := c) (P := P) (ps := ps) (closure_ok hfree) I.ok.glob gg hcode cc oP ht hc TB.gP bP fun c' ctv h' tk hx hge hlt hrec htb => ?_
    obtain ⟨_, oc, vs, t, e2, hoc, hd, hv⟩ := hrec
    cases e2
    have nC : H c' = none := I.hok.fresh hge
    have nPc : c' ≠ P := fun z => by rw [z, hP] at nC; cases nC
    have hsz : s.heap.objs.size ≤ h'.objs.size := Nat.le_trans hge (Nat.le_of_lt hlt)
    have I1 := inv_table (t' := tk) (q := X.env.qual ++ "<lambda>") (more := #[rawInt pos.line, rawInt pos.col, .ref c']) (h' := h'.push (kla_obj "<lambda>" (X.env.qual ++ "<lambda>") params body scope (cloFrom X.env.cells scope.names []) ((X.mg "__name__").getD .none) c' ctv)) I hP
      (fun b o hb e => Heap.get?_push_of_some _ (hx b o hb e)) (Heap.get?_push_of_some _ htb) hge ⟨oc, vs, t, Heap.get?_push_of_some _ hoc, hd, hv⟩
    have n1 : h'.objs.size ≠ c' := Nat.ne_of_gt hlt
    have n2 : h'.objs.size ≠ P := fun z => Nat.lt_irrefl _ (Nat.lt_of_lt_of_le (Heap.lt_size oP) (Nat.le_trans hsz (Nat.le_of_eq z)))
    have ls : (ps ++ #[rawInt pos.line, rawInt pos.col, Value.ref c']).toList = ps.toList ++ [rawInt pos.line, rawInt pos.col, Value.ref c'] := by simp
    refine h h'.objs.size c' _ _ I1 ⟨?_, .inr ⟨nC, nPc, ps, _, hP, fun p' cv hcv => ?_, rfl⟩⟩ ⟨_, ctv, Heap.get?_push_size _ rfl⟩ (by rw [upd_ne n1, upd_ne n2]; exact I.hok.fresh hsz) (fresh_ok I hsz).2
    rotate_left
    · rw [ls] at hcv
      exact among_app _ ht hcv
    refine ⟨ps ++ #[rawInt pos.line, rawInt pos.col, .ref c'], by rw [upd_ne (Ne.symm nPc), upd_same], ?_, fun p' cv hcv => ?_⟩
    · rw [ls]
      exact PySem.TriplesOk_snoc _ _ _ _ ht
    · rw [ls] at hcv
      rcases among_app _ ht hcv with z | z
      · obtain ⟨c0, e1, e2⟩ := ha p' cv z
        refine ⟨c0, e1, ?_⟩
        rw [upd_ne (ne_of_none e2 nC), upd_ne (fun y => by rw [y, hP] at e2; exact codeO_ne _ (Option.some.inj e2).symm)]
        exact e2
      · exact ⟨c', z, upd_same⟩
end
def tSortR (K : PySem.W.Frag) (P : Addr) (q : Str) (N : List Str) (js : List Nat) (tb : TE) (σ : L2.St) (Q : VK) (v : V) (H1 : Hp) : Prop := ∃ (l : Addr) (xs : List V), v = .ref l ∧ SqL K H1 l xs ∧ xs.length ≤ 1000 ∧ TabS H1 P q ∧
  ∀ c' H2, Grown P c' q H1 H2 → ∃ (ks : List PyData) (J : Hp → Prop), ks.length = xs.length ∧ AllAlike ks ∧ Sortable ks ∧ (∀ d ∈ ks, d.depth ≤ 8) ∧ J H2 ∧ (∀ H', J H' → H' c' = some (CodeO c' q)) ∧
    (∀ (i : Nat) (x : V) (d : PyData), xs[i]? = some x → ks[i]? = some d → ∀ H', J H' → tb (startF N [x] (js.map (slotAt σ))) H' (fun v H'' => J H'' ∧ DpT K H'' v d)) ∧ ∀ H' r, J H' → H' r = none → Q (.ref r) (upd H' r (.lst (sortV xs ks)))
/-- the reading of sorted(e, key=lambda x: ..) -/
def tSortL (K : PySem.W.Frag) (P : Addr) (q : Str) (N : List Str) (js : List Nat) (tb tx : TE) : TE := fun σ H Q => tx σ H (tSortR K P q N js tb σ Q)
def onOne (R : V → Hp → Prop) : List V → Hp → Prop
  | [v], H => R v H
  | _, _ => False
section
variable {X : Cx} {c P : Addr} {q : Str} {params : Arguments} {body ex : Expr} {scope : Scope} {p pos lpos kpos : Pos} {N ps fr : List Str} {js : List Nat} {tb tx : TE} {k : Nat}
theorem pe_sortL (TB : TabB X.base X.mg c P) (hcode : X.env.code = .ref c) (hq : X.env.qual ++ "<lambda>" = q) (hg : Gl X "sorted") (hm : X.mg "sorted" = none) (ha : PA X [ex] (tCons tx tNil)) (hdef : defaultsOf params X.env = ([], [])) (hL : ndefB X.env.scope scope fr = true) (S : NScope N ps fr scope) (hps : ps.length = 1)
    (hjs : js.map (fun j => X.N[j]?) = fr.map some) (hb : ∀ (cl : List (Str × Addr)) (pm cv ctv : Value) (us : List Value), us.length = ps.length → bindArgs (kla_fn "<lambda>" q params body scope cl pm cv ctv) ⟨us, []⟩ = pure (ps.zip us)) (hr : Room (k + 3) X.A)
    (hbody : ∀ (A : Around) (outer : List Env) (s : Shared) (H : Hp) (f c' : Addr) (cl : List (Str × Addr)), Room k (A.deeper (envF ⟨"<lambda>", q, params, [], scope, cl, c'⟩ f s.heap.objs.size)) → PE (ncx L2.CX0 X.prog X.w X.K X.mg X.base N ⟨"<lambda>", q, params, [], scope, cl, c'⟩ f A outer s H L2.E0) body tb)
    (he : backTo pos (starEach [ex] X.env) = (false, eval ex X.env) :: backTo pos (starEach [] X.env) := by rfl) (hpl : (backTo pos (starEach [ex] X.env)).any (·.1) = false := by rfl) :
    PE X (.Call (.Name "sorted" p) [ex] [⟨some "key", .Lambda params body scope lpos, kpos⟩] pos) (tSortL X.K P q N js tb tx) := by
  refine ⟨fun pins s σ H Q I h => ?_⟩
  have hf := ndef_free hL
  have hfr := ndef_fr hL
  have fr1 : ∀ y ∈ scope.names, y.2 = .free → ∃ c, X.env.cells.lookup y.1 = some c := fun y hy e => (hf y hy e).elim (fun z => I.ok.has _ (.inl z)) fun z => I.ok.has _ (.inr z)
  refine wpAny_Call_Name_kw (ld_blt I hg hm (u := .builtin "sorted") (by decide +kernel) ?_ (by decide) (by decide))
  have h0 : (tCons tx tNil) σ H (onOne (tSortR X.K P q N js tb σ Q)) := h
  refine PyProof.Rows.callWith_kw (thn (ha.run pos pins s σ H _ I h0) fun us s1 ⟨vs, H1, I1, r1, hq1⟩ => ?_) he hpl
  obtain ⟨v, rfl⟩ : ∃ v, vs = [v] := by
    match vs, hq1 with
    | [v], _ => exact ⟨v, rfl⟩
  obtain ⟨l, xs, ev, hs, hz, hT, q1⟩ := (show tSortR X.K P q N js tb σ Q v H1 from hq1)
  subst ev
  obtain rfl := Vals.ref1 r1
  show wpAny _ _ (evalAll ((do let v ← eval (.Lambda params body scope lpos) X.env; standAt pos; pure v) :: [])) _ _ s1
  refine wpAny_evalAll_cons (wpAny_bind (lam_new I1 TB hcode hq hT hdef fr1 fun f c' H2 s2 I2 gr hla hfn hfs => wpAny_bind (wpAny_standAt (wpAny_pure (wpAny_evalAll_nil ?_)))))
  show wpAny _ _ (call (.builtin "sorted") [.ref l] [(Str.ofString "key", .ref f)]) _ _ s2
  obtain ⟨ks, J, hlen, hal, hsk, hdp, j2, jc, turn, fin⟩ := q1 c' H2 gr
  have hs2 : SqL X.K H2 l xs := by
    rcases gr.2 with ⟨rfl, _⟩ | ⟨nc, _, ps', more, eP, _, rfl⟩
    · exact hs
    · rcases hs with (hs | ⟨o, hs⟩) | hs
      · exact .inl (.inl (by rw [upd_ne (ne_of_none hs nc), upd_ne (fun z => by rw [z, eP] at hs; cases hs)]; exact hs))
      · exact .inl (.inr ⟨o, by rw [upd_ne (ne_of_none hs nc), upd_ne (fun z => by rw [z, eP] at hs; cases hs)]; exact hs⟩)
      · exact .inr hs
  obtain ⟨its, rv, hl, hzz⟩ := I2.list hs2
  have liz : its.length = xs.length := rv.length.symm
  have hu : ∀ d, d ∈ ks → X.A.in1.in1.units + d.depth < cLine := fun d hd => by
    have := hdp d hd
    have := hr.un
    show X.A.units + 1 + 1 + d.depth < cLine
    omega
  refine sorted_of_sort hl.isList (by rw [liz]; exact hzz) (PyProof.Rows.ksk_s1 _ _) (fun _ => PyProof.Rows.ksk_l1 _ _) fun E' => ?_
  rw [ksk_t1]
  obtain ⟨e1, ho1⟩ : ∃ e1, ((copyHeap s2.heap its).update (s2.heap.objs.size + 1) (Obj.mapSeq fun _ => (#[] : Array Value))).get? (s2.heap.objs.size + 1) = some (seqObj "list" #[] e1) := ⟨_, get?_update_seq (copyHeap_at s2.heap its) fun _ => #[]⟩
  unfold ksk_tree
  refine wpAny_bind (listItems_at (copyHeap_at s2.heap its) rfl ?_)
  refine wpAny_bind (listUpdate_at (copyHeap_at s2.heap its) rfl ?_ (by rw [List.size_toArray, liz]; exact hzz) (Nat.zero_le _))
  refine wpAny_bind (seqEpoch_at ho1 rfl ?_)
  refine wpAny_bind (wpAny_newTuple ?_ (by show its.length ≤ _; rw [liz]; exact hzz))
  refine wpAny_bind (wpAny_newList ?_ (Nat.zero_le _))
  refine wpAny_holding ?_
  have csz : (copyHeap s2.heap its).objs.size = s2.heap.objs.size + 2 := by
    unfold copyHeap
    rw [size_push', Heap.size_update, size_push']
  have ksz : ((copyHeap s2.heap its |>.update (s2.heap.objs.size + 1) (Obj.mapSeq fun _ => (#[] : Array Value))).push (seqObj "tuple" its.toArray 0)).objs.size = s2.heap.objs.size + 3 := by rw [size_push', Heap.size_update, csz]
  have up : ∀ b o, s2.heap.get? b = some o → (((copyHeap s2.heap its |>.update (s2.heap.objs.size + 1) (Obj.mapSeq fun _ => (#[] : Array Value))).push (seqObj "tuple" its.toArray 0)).push (seqObj "list" #[] 0)).get? b = some o := fun b o e => sorting_copy_old e
  have I3 := I2.kept (t' := s2.toks) up
  have oa := fresh_ok I2 (b := s2.heap.objs.size + 1) (by omega)
  have ok := fresh_ok I2 (b := s2.heap.objs.size + 3) (by omega)
  obtain ⟨pm, ctv, hfo⟩ := hla
  have hflt := Heap.lt_size hfo
  refine sortL_rest (a := s2.heap.objs.size + 1) (f := f) (F := ⟨"<lambda>", q, params, [], scope, cloFrom X.env.cells scope.names [], c'⟩) (body := body) (J := J) (ks := ks) (kS := ((copyHeap s2.heap its |>.update (s2.heap.objs.size + 1) (Obj.mapSeq fun _ => (#[] : Array Value))).push (seqObj "tuple" its.toArray 0)).objs.size) I3 j2 rv (by rw [liz]; exact hlen) (by rw [liz]; exact hzz) hal hsk hu oa (by rw [ksz]; exact ok)
    (Heap.get?_push_size _ rfl) (Heap.get?_push_of_some _ (Heap.get?_push_of_some _ ho1)) (by rw [ksz]; exact Nat.ne_of_gt (Nat.lt_succ_of_lt (Nat.lt_succ_self _))) (I2.hok.fresh (by omega)) (by rw [ksz]; exact I2.hok.fresh (by omega)) ⟨pm, ctv, up _ _ hfo⟩ hfn hfs (Nat.ne_of_lt (Nat.lt_succ_of_lt hflt)) (by rw [ksz]; exact Nat.ne_of_lt (Nat.lt_succ_of_lt (Nat.lt_succ_of_lt (Nat.lt_succ_of_lt hflt)))) ?_ ?_
  · intro i x u d hi ru hk H1' s1' I1' j1' hla'
    exact lam_turn (F := ⟨"<lambda>", q, params, [], scope, cloFrom X.env.cells scope.names [], c'⟩) I1' (fun okX => Caps.made okX hf hfr hjs) S hps (hr.in1.in1) hla' (jc _ j1') (fun pm ctv us hus => hb _ _ _ _ us hus) (hbody _ _ _ _ _ _ _ ((hr.in1.in1).deeper _)) ru (turn i x d hi hk _ j1')
  · intro H' s' j' na' I'
    exact ⟨rfl, .ref _, _, I', rfl, fin H' _ j' na'⟩
end
end SLam

namespace TP
open PySem PySem.Spec PyProof.Rows L2 LamX NdefX SLam PySem.W
/-- the table of code objects at P: its lambdas bear the name q -/
def muT (P : Addr) (q : Str) : Mu Unit where
  fp := [P]
  m := fun _ Z H => Z P = none ∧ ∃ ps, H P = some (.tbl ps) ∧ TriplesOk ps.toList ∧ ∀ pos cv, codeAmong pos ps.toList = some cv → ∃ c, cv = .ref c ∧ Z c = some (CodeO c q)
  al := fun ⟨z, ps, h, _⟩ a ha => by rw [List.mem_singleton] at ha; subst ha; exact ⟨some_ne h, z⟩
  loc := fun sz hk hn ⟨z, ps, h, t, f⟩ => ⟨hn _ List.mem_cons_self (some_ne h) z, ps, hk _ List.mem_cons_self _ h, t, fun pos cv e => by
    obtain ⟨c, e1, e2⟩ := f pos cv e
    exact ⟨c, e1, sz _ _ e2⟩⟩
theorem muT_start {P : Addr} {q : Str} {Z H : Hp} (z : Z P = none) (h : H P = some (.tbl #[])) : (muT P q).m () Z H := ⟨z, #[], h, trivial, fun pos cv e => by
  have e : codeAmong pos [] = some cv := e
  simp [codeAmong] at e⟩
theorem muT_tab {P : Addr} {q : Str} {Z H : Hp} (sz : Same Z H) (m : (muT P q).m () Z H) : TabS H P q := by
  obtain ⟨_, ps, h, t, f⟩ := m
  exact ⟨ps, h, t, fun pos cv e => by
    obtain ⟨c, e1, e2⟩ := f pos cv e
    exact ⟨c, e1, sz _ _ e2⟩⟩
theorem grown_step {P c' : Addr} {q : Str} {Z H H2 : Hp} (sz : Same Z H) (m : (muT P q).m () Z H) (g : Grown P c' q H H2) : ∃ Z2, Step [P] Z H Z2 H2 ∧ (muT P q).m () Z2 H2 ∧ Z2 c' = some (CodeO c' q) := by
  obtain ⟨z, ps, h, t, f⟩ := m
  obtain ⟨T2, ⟨rfl, pos, ps', h', hc⟩ | ⟨nc, ne, ps', more, h', am, rfl⟩⟩ := g
  · rw [h] at h'
    cases h'
    obtain ⟨c, e1, e2⟩ := f pos _ hc
    cases e1
    exact ⟨Z, Step.refl sz, ⟨z, ps, h, t, f⟩, e2⟩
  · rw [h] at h'
    cases h'
    have s1 : Step [P] Z H Z (upd H P (.tbl (ps ++ more))) := Step.set sz z
    have n1 : (upd H P (.tbl (ps ++ more))) c' = none := by rw [upd_ne ne]; exact nc
    have s2 : Step [] Z (upd H P (.tbl (ps ++ more))) (upd Z c' (CodeO c' q)) (upd (upd H P (.tbl (ps ++ more))) c' (CodeO c' q)) := Step.new s1.s n1
    obtain ⟨ps2, h2, t2, _⟩ := T2
    have hP : (upd (upd H P (.tbl (ps ++ more))) c' (CodeO c' q)) P = some (.tbl (ps ++ more)) := by rw [upd_ne (Ne.symm ne), upd_same]
    rw [hP] at h2
    cases h2
    refine ⟨_, s1.trans s2.pure, ⟨by rw [upd_ne (Ne.symm ne)]; exact z, _, hP, t2, fun pos cv e => ?_⟩, upd_same⟩
    rcases am pos cv e with y | y
    · obtain ⟨c, e1, e2⟩ := f pos cv y
      refine ⟨c, e1, ?_⟩
      rw [upd_ne (ne_of_some (some_ne e2) (same_none sz nc))]
      exact e2
    · exact ⟨c', y, upd_same⟩
/-! ### kinds of keys -/
structure KeyS {α : Type} (τ : Ty α) (d : α → PyData) : Prop where
  sc : ∀ Z v x, τ.r Z v x → Sc v (d x)
  al : ∀ x y, alike (d x) (d y) = true
  so : ∀ x, d x ≠ .none ∧ ∀ xs, d x ≠ .tuple xs
  dep : ∀ x, (d x).depth ≤ 1
structure KeyD (K : PySem.W.Frag) {α : Type} (τ : Ty α) (d : α → PyData) : Prop where
  dpt : ∀ Z H v x, Same Z H → τ.r Z v x → DpT K H v (d x)
  al : ∀ x y, alike (d x) (d y) = true
  so : (∀ x, ∃ y r, d x = .tuple (y :: r)) ∨ ∀ x, d x ≠ .none ∧ ∀ xs, d x ≠ .tuple xs
  dep : ∀ x, (d x).depth ≤ 8
theorem keys_int : KeyS yInt PyData.int := ⟨fun _ _ _ h => by rw [show _ = V.int _ from h]; rfl, fun _ _ => rfl, fun _ => ⟨fun z => (nomatch z), fun _ z => (nomatch z)⟩, fun _ => Nat.zero_le _⟩
theorem keys_str : KeyS yStr PyData.str := ⟨fun _ _ _ h => by rw [show _ = V.str _ from h.1]; rfl, fun _ _ => rfl, fun _ => ⟨fun z => (nomatch z), fun _ z => (nomatch z)⟩, fun _ => Nat.zero_le _⟩
theorem keys_bool : KeyS yBool PyData.bool := ⟨fun _ _ _ h => by rw [show _ = V.bl _ from h]; rfl, fun _ _ => rfl, fun _ => ⟨fun z => (nomatch z), fun _ z => (nomatch z)⟩, fun _ => Nat.zero_le _⟩
section
variable {K : PySem.W.Frag} {α β : Type} {τ : Ty α} {υ : Ty β} {d : α → PyData} {e : β → PyData}
theorem KeyS.keyd (k : KeyS τ d) : KeyD K τ d := ⟨fun _ _ _ _ _ h => .inl (k.sc _ _ _ h), k.al, .inr k.so, fun x => Nat.le_trans (k.dep x) (by decide)⟩
theorem keyd_p2 (k : KeyS τ d) (l : KeyS υ e) : KeyD K (yP2 K τ υ) (fun x => .tuple [d x.1, e x.2]) :=
  ⟨fun Z H v x sz ⟨a, v1, v2, ev, h, h1, h2⟩ => .inr ⟨a, _, _, ev, rfl, seqT_same sz h, .cons (k.sc _ _ _ h1) (.cons (l.sc _ _ _ h2) .nil)⟩,
    fun x y => by simp [alike, alikeAll, k.al, l.al], .inl fun x => ⟨_, _, rfl⟩, fun x => by
      have := k.dep x.1
      have := l.dep x.2
      simp only [PyData.depth, PyData.depthAll]
      omega⟩
end
/-- keys of one kind: numbers, texts or flags -/
def plainK : PyData → Bool
  | .int _ => true
  | .str _ => true
  | .bool _ => true
  | _ => false
def KeysOk (ds : List PyData) : Bool := ds.all fun x => plainK x && ds.all fun y => alike x y
theorem keysOk_mem {ds : List PyData} (h : KeysOk ds = true) {x : PyData} (hx : x ∈ ds) : plainK x = true ∧ ∀ y ∈ ds, alike x y = true := by
  have := List.all_eq_true.mp h x hx
  rw [Bool.and_eq_true] at this
  exact ⟨this.1, fun y hy => List.all_eq_true.mp this.2 y hy⟩
theorem keysOk_al {ds : List PyData} (h : KeysOk ds = true) {x y : PyData} (hx : x ∈ ds) (hy : y ∈ ds) : alike x y = true := (keysOk_mem h hx).2 y hy
theorem keysOk_so {ds : List PyData} (h : KeysOk ds = true) {x : PyData} (hx : x ∈ ds) : x ≠ .none ∧ ∀ xs, x ≠ .tuple xs := by
  have := (keysOk_mem h hx).1
  cases x with
  | int i => exact ⟨fun z => (nomatch z), fun _ z => (nomatch z)⟩
  | str i => exact ⟨fun z => (nomatch z), fun _ z => (nomatch z)⟩
  | bool i => exact ⟨fun z => (nomatch z), fun _ z => (nomatch z)⟩
  | _ => cases this
theorem keysOk_dep {ds : List PyData} (h : KeysOk ds = true) {x : PyData} (hx : x ∈ ds) : x.depth ≤ 8 := by
  have := (keysOk_mem h hx).1
  cases x <;> first | exact Nat.zero_le _ | cases this
theorem mapO_len {α β : Type} {g : α → Option β} : ∀ {xs : List α} {ys : List β}, mapO g xs = some ys → ys.length = xs.length
  | [], _, h => by cases h; rfl
  | x :: xs, ys, h => by
    obtain ⟨y, _, h2⟩ := Option.bind_eq_some_iff.mp (show (g x).bind _ = some ys from h)
    obtain ⟨zs, h3, h4⟩ := Option.bind_eq_some_iff.mp h2
    cases h4
    rw [List.length_cons, List.length_cons, mapO_len h3]
theorem mapO_get {α β : Type} {g : α → Option β} : ∀ {xs : List α} {ys : List β} {i : Nat} {x : α} {y : β}, mapO g xs = some ys → xs[i]? = some x → ys[i]? = some y → g x = some y
  | [], _, _, _, _, _, h, _ => by simp at h
  | x :: xs, ys, i, x', y', h, hx, hy => by
    obtain ⟨y, h1, h2⟩ := Option.bind_eq_some_iff.mp (show (g x).bind _ = some ys from h)
    obtain ⟨zs, h3, h4⟩ := Option.bind_eq_some_iff.mp h2
    cases h4
    cases i with
    | zero =>
      rw [List.getElem?_cons_zero] at hx hy
      rw [← Option.some.inj hx, ← Option.some.inj hy]
      exact h1
    | succ i =>
      rw [List.getElem?_cons_succ] at hx hy
      exact mapO_get h3 hx hy
theorem all_zip {α : Type} {R : V → α → Prop} : ∀ {vs : List V} {xs : List α}, All R vs xs → ∀ p ∈ vs.zip xs, R p.1 p.2
  | _, _, .nil, p, h => by simp at h
  | _, _, .cons r t, p, h => by
    rw [List.zip_cons_cons] at h
    rcases List.mem_cons.mp h with rfl | h
    · exact r
    · exact all_zip t p h
theorem all_unzip {α : Type} {R : V → α → Prop} : ∀ {ps : List (V × α)}, (∀ p ∈ ps, R p.1 p.2) → All R (ps.map (·.1)) (ps.map (·.2))
  | [], _ => .nil
  | p :: ps, h => .cons (h p List.mem_cons_self) (all_unzip fun q hq => h q (List.mem_cons_of_mem _ hq))
/-- things and their values are sorted alike -/
theorem all_sort {α : Type} {R : V → α → Prop} {vs : List V} {xs : List α} {ks : List PyData} (h : All R vs xs) (l : ks.length = xs.length) : All R (sortV vs ks) (sortV xs ks) := by
  have lv := h.len
  have key : ∀ {β : Type} (f : V × α → β), sortV ((vs.zip xs).map f) ks = (((vs.zip xs).zip ks).mergeSort (dataLe false (·.2))).map fun t => f t.1 := fun f => by
    unfold sortV
    rw [List.zip_map_left, ← List.map_mergeSort (r := dataLe false (·.2)) (s := dataLe false (·.2)) (f := Prod.map f id) (l := (vs.zip xs).zip ks) (fun a _ b _ => rfl), List.map_map]
    rfl
  have e1 : (vs.zip xs).map (·.1) = vs := by rw [List.map_fst_zip (by omega)]
  have e2 : (vs.zip xs).map (·.2) = xs := by rw [List.map_snd_zip (by omega)]
  have k1 := key (·.1)
  have k2 := key (·.2)
  rw [e1] at k1
  rw [e2] at k2
  rw [k1, k2]
  have m : ∀ t ∈ ((vs.zip xs).zip ks).mergeSort (dataLe false (·.2)), R t.1.1 t.1.2 := fun t ht => all_zip h _ (List.of_mem_zip (List.mem_mergeSort.mp ht)).1
  have := all_unzip (ps := (((vs.zip xs).zip ks).mergeSort (dataLe false (·.2))).map (·.1)) (R := R) (fun p hp => by
    obtain ⟨t, ht, rfl⟩ := List.mem_map.mp hp
    exact m t ht)
  rw [List.map_map, List.map_map] at this
  exact this
theorem sortV_len {α : Type} {xs : List α} {ks : List PyData} (l : ks.length = xs.length) : (sortV xs ks).length = xs.length := by
  unfold sortV
  rw [List.length_map, List.length_mergeSort, List.length_zip]
  omega
section
variable {μ : Type} {M : Mu μ} {σ : L2.St} {Z H : Hp} {s s1 : μ} {K : PySem.W.Frag} {P : Addr} {q : Str} {N : List Str} {js : List Nat} {tb tx : TE} {α β : Type} {τ : Ty α} {κ : Ty β} {d : β → PyData} {xs : List α} {kks : List β} {g : α → Option β}
theorem en_sortL (kd : KeyD K κ d) (hm : ∀ Z H, M.m s1 Z H → (muT P q).m () Z H) (hf : ∀ a ∈ (muT P q).fp, a ∈ M.fp) (hp : ∀ Z H Z' H', M.m s1 Z H → Step (muT P q).fp Z H Z' H' → (muT P q).m () Z' H' → M.m s1 Z' H')
    (hx : Ev M tx σ Z H s (li τ xs) s1) (l : xs.length ≤ 1000) (hk : mapO g xs = some kks)
    (hb : ∀ x v Z' H' y, Same Z Z' → SameX M.fp H H' → τ.r Z' v x → g x = some y → Ev M tb (startF N [v] (js.map (slotAt σ))) Z' H' s1 (ty κ y) s1) :
    EvN M (tSortL K P q N js tb tx) σ Z H s τ (sortV xs (kks.map d)) s1 := by
  intro Z1 H1 a b c dd Q qq
  refine hx Z1 H1 a b c dd _ fun v Z2 H2 e m rv => ?_
  obtain ⟨p, vs, rfl, hpp, al, lz⟩ := rdl e.s rv
  have lv := al.len
  have T := hm _ _ m
  have lk := mapO_len hk
  refine ⟨p, vs, rfl, SqL.of hpp, by omega, muT_tab e.s T, fun c' H3 gr => ?_⟩
  obtain ⟨Z3, st, T3, zc⟩ := grown_step e.s T gr
  have m3 := hp _ _ _ _ m st T3
  have st3 : Step M.fp Z2 H2 Z3 H3 := st.weak fun a h => .inl (hf a h)
  have ln : (kks.map d).length = xs.length := by rw [List.length_map, lk]
  refine ⟨kks.map d, fun H' => ∃ Z', Step M.fp Z3 H3 Z' H' ∧ M.m s1 Z' H', by rw [ln]; omega, ?_, ?_, ?_, ⟨Z3, Step.refl st.s, m3⟩, ?_, ?_, ?_⟩
  · intro x hx y hy
    obtain ⟨x', _, rfl⟩ := List.mem_map.mp hx
    obtain ⟨y', _, rfl⟩ := List.mem_map.mp hy
    exact kd.al _ _
  · rcases kd.so with h | h
    · exact .inl fun x hx => by
        obtain ⟨x', _, rfl⟩ := List.mem_map.mp hx
        exact h x'
    · exact .inr fun x hx => by
        obtain ⟨x', _, rfl⟩ := List.mem_map.mp hx
        exact h x'
  · intro x hx
    obtain ⟨x', _, rfl⟩ := List.mem_map.mp hx
    exact kd.dep x'
  · rintro H' ⟨Z', gz, _⟩
    exact gz.s _ _ (gz.z _ _ zc)
  · rintro i x dt hi hd H' ⟨Z', gz, m'⟩
    obtain ⟨x0, hx0, rx⟩ := al.get hi
    rw [List.getElem?_map] at hd
    obtain ⟨y, hy, rfl⟩ := Option.map_eq_some_iff.mp hd
    have hg := mapO_get hk hx0 hy
    have zz : Same Z2 Z' := st.z.trans gz.z
    exact hb x0 x Z' H' y (a.trans (e.z.trans zz)) (b.trans (e.h.trans (st3.h.trans gz.h))) (τ.mono zz rx) hg Z' H' (Same.refl _) SameX.refl gz.s m' _ fun w Z4 H4 e4 m4 rw => ⟨⟨Z4, gz.trans e4, m4⟩, kd.dpt _ _ _ _ e4.s rw⟩
  · rintro H' r ⟨Z', gz, m'⟩ hr
    have own := Step.own (o := .lst (sortV vs (kks.map d))) gz.s hr
    have all : All (τ.r Z') vs xs := al.imp fun _ _ => τ.mono (st.z.trans gz.z)
    exact qq r _ Z' _ (((e.trans st3).trans gz).trans own.pure) (M.pure own m') (same_x e (same_x st3 (same_x gz hr))) (same_none gz.s hr) upd_same (all_sort all ln) (by rw [sortV_len ln]; exact lz)
theorem en_sortLG (dp : ∀ Z v x, κ.r Z v x → Sc v (d x)) (ko : KeysOk (kks.map d) = true) (hm : ∀ Z H, M.m s1 Z H → (muT P q).m () Z H) (hf : ∀ a ∈ (muT P q).fp, a ∈ M.fp) (hp : ∀ Z H Z' H', M.m s1 Z H → Step (muT P q).fp Z H Z' H' → (muT P q).m () Z' H' → M.m s1 Z' H')
    (hx : Ev M tx σ Z H s (li τ xs) s1) (l : xs.length ≤ 1000) (hk : mapO g xs = some kks)
    (hb : ∀ x v Z' H' y, Same Z Z' → SameX M.fp H H' → τ.r Z' v x → g x = some y → Ev M tb (startF N [v] (js.map (slotAt σ))) Z' H' s1 (ty κ y) s1) :
    EvN M (tSortL K P q N js tb tx) σ Z H s τ (sortV xs (kks.map d)) s1 := by
  intro Z1 H1 a b c dd Q qq
  refine hx Z1 H1 a b c dd _ fun v Z2 H2 e m rv => ?_
  obtain ⟨p, vs, rfl, hpp, al, lz⟩ := rdl e.s rv
  have lv := al.len
  have T := hm _ _ m
  have lk := mapO_len hk
  refine ⟨p, vs, rfl, SqL.of hpp, by omega, muT_tab e.s T, fun c' H3 gr => ?_⟩
  obtain ⟨Z3, st, T3, zc⟩ := grown_step e.s T gr
  have m3 := hp _ _ _ _ m st T3
  have st3 : Step M.fp Z2 H2 Z3 H3 := st.weak fun a h => .inl (hf a h)
  have ln : (kks.map d).length = xs.length := by rw [List.length_map, lk]
  refine ⟨kks.map d, fun H' => ∃ Z', Step M.fp Z3 H3 Z' H' ∧ M.m s1 Z' H', by rw [ln]; omega, ?_, ?_, ?_, ⟨Z3, Step.refl st.s, m3⟩, ?_, ?_, ?_⟩
  · exact fun x hx y hy => keysOk_al ko hx hy
  · exact .inr fun x hx => keysOk_so ko hx
  · exact fun x hx => keysOk_dep ko hx
  · rintro H' ⟨Z', gz, _⟩
    exact gz.s _ _ (gz.z _ _ zc)
  · rintro i x dt hi hd H' ⟨Z', gz, m'⟩
    obtain ⟨x0, hx0, rx⟩ := al.get hi
    rw [List.getElem?_map] at hd
    obtain ⟨y, hy, rfl⟩ := Option.map_eq_some_iff.mp hd
    have hg := mapO_get hk hx0 hy
    have zz : Same Z2 Z' := st.z.trans gz.z
    exact hb x0 x Z' H' y (a.trans (e.z.trans zz)) (b.trans (e.h.trans (st3.h.trans gz.h))) (τ.mono zz rx) hg Z' H' (Same.refl _) SameX.refl gz.s m' _ fun w Z4 H4 e4 m4 rw => ⟨⟨Z4, gz.trans e4, m4⟩, (.inl (dp _ _ _ rw))⟩
  · rintro H' r ⟨Z', gz, m'⟩ hr
    have own := Step.own (o := .lst (sortV vs (kks.map d))) gz.s hr
    have all : All (τ.r Z') vs xs := al.imp fun _ _ => τ.mono (st.z.trans gz.z)
    exact qq r _ Z' _ (((e.trans st3).trans gz).trans own.pure) (M.pure own m') (same_x e (same_x st3 (same_x gz hr))) (same_none gz.s hr) upd_same (all_sort all ln) (by rw [sortV_len ln]; exact lz)
end
end TP
namespace TP
open PySem PySem.Spec PyProof.Rows L2 LamX NdefX SLam PySem.W
/-- a def whose code object is known -/
structure FunC (K : PySem.W.Frag) (x qual : Str) (st : Stmt) (c f : Addr) (fd : FuncData) : Prop where
  ex : ∃ (oc : Value) (od : Option Addr) (kV doc pm : Value) (an : Option Addr) (ct : Value) (osl : Array (Option Value)),
    fd = PySem.W.fnOf x qual (defArgs st) (defBody st) (defScope st) .none kV doc pm an (.ref c) ct ∧ K.lookup f = some ⟨oc, od, .func fd, osl⟩ ∧ PySem.W.codeIn K (.ref c) qual = true
theorem FunC.ok {P : Program} {w : World} {K : PySem.W.Frag} {mg : Str → Option Value} {base : Heap} {x qual : Str} {st : Stmt} {c f : Addr} {fd : FuncData} {CX : CXT} {N ps : List Str} {k : Nat} {sp : Sp} (F : FunC K x qual st c f fd) (S : FnScope N ps (defScope st)) (len : ∀ vs H Q E, sp vs H Q E → vs.length = ps.length)
    (hbody : ∀ (A : Around) (outer : List Env) (s : Shared) (H : Hp) (vs : List V) (Q : VK) (E : XK), Room k (A.deeper (envOfC qual (defScope st) s.heap.objs.size f (.ref c))) → sp vs H Q E →
      ∃ t, PSs (cxOf CX P w K mg base N qual (defScope st) f (.ref c) A outer s H E) (defBody st) t ∧ t { nx := fun _ H' => Q .non H', rt := Q } (start N vs) H) : FnOk P w K mg base CX (k + 1) f fd ps sp := by
  obtain ⟨oc, od, kV, doc, pm, an, ct, osl, rfl, lk, hcd⟩ := F.ex
  exact fn_of lk hcd S len hbody
section
variable {K : PySem.W.Frag} {σ : L2.St} {H : Hp} {D : Ends}
theorem st_drawsT {r : List V → Hp → VK → Prop} {a P : Addr} {q : Str} {ns : List Int} {i j : Nat} (ht : H P = some (.tbl #[])) (hA : SqL K H a (ns.map V.int)) (hlen : ns.length ≤ 63) (k : ∀ st sc Z0 Z1 H1, Pt [P] Z0 H (muX (muD st sc) (muT P q)) Z1 H1 (⟨ns, 0, 0⟩, ()) → D.nx (σ.set i (some (.ref st))) H1)
    (hr : ∀ xs H Q, (∃ p ys, xs = [.ref p] ∧ (SqL K H p ys ∨ SqT K H p ys) ∧ ∀ l, H l = none → Q (.ref l) (upd H l (.lst ys))) → r xs H Q := by exact fun _ _ _ h => h) (hσ : σ[j]? = some (some (.ref a)) := by rfl) :
    tAsg (tLst (tCons (tCB r (tCons (tVar j) tNil)) (tCons (tC (.int 0)) (tCons (tC (.int 0)) tNil)))) (gName i) D σ H :=
  by
  refine ⟨.ref a, hσ, hr _ _ _ ⟨a, _, rfl, .inl hA, fun sc hsc => ?_⟩⟩
  refine ⟨by show 3 ≤ sizeLine; decide, fun st hst => ?_⟩
  have s0 : Same (fun _ => none : Hp) H := fun _ _ h => by cases h
  have e1 := Step.new (o := .lst (ns.map V.int)) s0 hsc
  have e2 := Step.own (o := .lst [.ref sc, .int 0, .int 0]) e1.s hst
  have n1 : P ≠ sc := fun e => by rw [e, hsc] at ht; cases ht
  have h1 := e1.h P _ List.not_mem_nil ht
  have n2 : P ≠ st := fun e => by rw [e, hst] at h1; cases h1
  have h2 := e2.h P _ List.not_mem_nil h1
  refine k st sc (fun _ => none) _ _ ⟨(e1.trans e2).weak fun _ h => absurd h List.not_mem_nil, ⟨⟨upd_same, upd_same, by rw [upd_ne (fun q => by rw [q, upd_same] at hst; cases hst)]⟩, ⟨by rw [upd_ne n1], #[], h2, trivial, fun pos cv e => by
    have e : codeAmong pos [] = some cv := e
    simp [codeAmong] at e⟩, fun b hb hb2 => ?_⟩, fun x hx => ?_⟩
  · rw [show b = st from List.mem_singleton.mp hb] at hb2
    exact n2 (List.mem_singleton.mp hb2).symm
  · rcases List.mem_append.mp hx with hx | hx
    · rw [show x = st from List.mem_singleton.mp hx]
      exact .inr (same_x e1 hst)
    · exact .inl hx
end
end TP

namespace ZN
open PySem PySem.Spec PyProof.Rows L2
open PySem.Sem (wp)
/-- what is walked: an address, and whether a tuple stands there -/
structure Src where
  a : Addr
  t : Bool
def SIt (h : Heap) (it : Addr) (x : Src) (k : Nat) : Prop := match x.t with
  | true => h.IsTupleIter it x.a k
  | false => h.IsListIter it x.a k
def SSq (h : Heap) (x : Src) (r : Array Value) : Prop := match x.t with
  | true => h.IsTuple x.a r
  | false => h.IsList x.a r
theorem SIt.at {h h' : Heap} {it : Addr} {x : Src} {k : Nat} (g : SIt h it x k) (e : ∀ o, h.get? it = some o → h'.get? it = some o) : SIt h' it x k := by
  obtain ⟨a, t⟩ := x
  cases t
  · exact Heap.IsListIter.at g e
  · exact Heap.IsTupleIter.at g e
theorem SSq.at {h h' : Heap} {x : Src} {r : Array Value} (g : SSq h x r) (e : ∀ o, h.get? x.a = some o → h'.get? x.a = some o) : SSq h' x r := by
  obtain ⟨a, t⟩ := x
  cases t
  · exact Heap.IsList.at g e
  · exact Heap.IsTuple.at g e
theorem SIt.obj {h : Heap} {it : Addr} {x : Src} {k : Nat} (g : SIt h it x k) : ∃ o, h.get? it = some o ∧ ∀ v, o.data ≠ .cell v := by
  obtain ⟨a, t⟩ := x
  cases t
  · obtain ⟨o, e, _, d⟩ := g
    exact ⟨o, e, fun v q => by rw [d] at q; cases q⟩
  · obtain ⟨o, e, _, d⟩ := g
    exact ⟨o, e, fun v q => by rw [d] at q; cases q⟩
section
variable {prog : Program} {w : World} {A : Around} {E : Value → Shared → Prop} {s : Shared}
theorem nextOf_item {it : Addr} {x : Src} {k : Nat} {r : Array Value} {v : Value} {Q : Value → Shared → Prop} (hit : SIt s.heap it x k) (hl : SSq s.heap x r) (hx : r[k]? = some v)
    (hQ : ∀ h', SIt h' it x (k + 1) → Heap.SameBut it s.heap h' → Q v { s with heap := h' }) : wpAny (model prog w) A (Builtin.SmallTypes.nextOf (.ref it)) Q E s := by
  obtain ⟨a, t⟩ := x
  cases t
  · exact wpAny_nextOf_list_item hit hl hx hQ
  · exact RZ.nextOf_tuple_item hit hl hx hQ
theorem nextOf_end {it : Addr} {x : Src} {k : Nat} {r : Array Value} {Q : Value → Shared → Prop} (hh : A.handled = none) (hit : SIt s.heap it x k) (hl : SSq s.heap x r) (hx : r[k]? = none)
    (hE : ∀ h' e, Heap.ExtBut it s.heap h' → (∃ o, h'.get? e = some o ∧ o.cls = .type "StopIteration") → E (.ref e) { s with heap := h' }) : wpAny (model prog w) A (Builtin.SmallTypes.nextOf (.ref it)) Q E s := by
  obtain ⟨a, t⟩ := x
  cases t
  · exact wpAny_nextOf_list_end hh hit hl hx hE
  · exact RZ.nextOf_tuple_end hh hit hl hx hE
theorem pyIter_src {x : Src} {r : Array Value} {Q : Value → Shared → Prop} (hl : SSq s.heap x r)
    (hQ : Q (.ref s.heap.objs.size) { s with heap := s.heap.push { cls := .type (if x.t then "tuple_iterator" else "list_iterator"), data := .fields #[.ref x.a, .int 0 0] } }) :
    wpAny (model prog w) A (pyIter (.ref x.a)) Q E s := by
  obtain ⟨a, t⟩ := x
  cases t
  · exact wpAny_pyIter_list hl hQ
  · exact wpAny_pyIter_tuple hl hQ
theorem forIn_by {α β : Type} {r0 : β} {Q : β → Shared → Prop} : ∀ {l : List α} {f : α → β → Sem (ForInStep β)} (I : Nat → Shared → Prop) {s : Shared}, I 0 s →
    (∀ j x s, l[j]? = some x → I j s → wpAny (model prog w) A (f x r0) (fun r s' => r = .yield r0 ∧ I (j + 1) s') E s) → (∀ s, I l.length s → Q r0 s) → wpAny (model prog w) A (forIn l r0 f) Q E s
  | [], f, I, s, h0, _, hd => by
    rw [List.forIn_nil]
    exact wpAny_pure (hd s h0)
  | y :: r, f, I, s, h0, hs, hd => by
    rw [List.forIn_cons]
    refine wpAny_bind (wpAny_mono (hs 0 y s rfl h0) (fun z s' q => ?_) fun _ _ e => e)
    obtain ⟨rfl, q⟩ := q
    exact forIn_by (l := r) (fun j => I (j + 1)) q (fun j x s hx => hs (j + 1) x s hx) hd
theorem updateSeq_at {T : Addr} {ys : Array Value} {x : Value} {k : Nat} {Q : Unit → Shared → Prop} (hT : s.heap.get? T = some { cls := .type "tuple", data := .seq ys }) (hz : ys.size ≤ sizeLine)
    (h : ∀ h', h'.get? T = some { cls := .type "tuple", data := .seq (ys.setIfInBounds k x) } → Heap.SameBut T s.heap h' → Q () { s with heap := h' }) :
    wpAny (model prog w) A (updateSeq T (·.setIfInBounds k x)) Q E s := by
  refine wpAny_updateSeq hT rfl (h _ ?_ (Heap.SameBut.update ..)) hz (by simp; omega)
  rw [Heap.get?_update_self _ hT rfl]
  simp [Obj.mapSeq]
structure Apart (z TI TO : Addr) (is : List Addr) (srcs : List Src) : Prop where
  TIz : TI ≠ z
  TOz : TO ≠ z
  TITO : TI ≠ TO
  zi : z ∉ is
  TIi : TI ∉ is
  TOi : TO ∉ is
  nd : is.Nodup
  sz : ∀ x ∈ srcs, x.a ≠ z
  sTO : ∀ x ∈ srcs, x.a ≠ TO
  si : ∀ x ∈ srcs, x.a ∉ is
theorem nd_inj {α : Type} {is : List α} {i j : Nat} {a : α} (h : is.Nodup) (e1 : is[i]? = some a) (e2 : is[j]? = some a) : i = j := by
  obtain ⟨l1, g1⟩ := List.getElem?_eq_some_iff.mp e1
  obtain ⟨l2, g2⟩ := List.getElem?_eq_some_iff.mp e2
  rcases Nat.lt_trichotomy i j with g | g | g
  · exact absurd (g1.trans g2.symm) (List.pairwise_iff_getElem.mp h i j l1 l2 g)
  · exact g
  · exact absurd (g2.trans g1.symm) (List.pairwise_iff_getElem.mp h j i l2 l1 g)
def refs (is : List Addr) : Array Value := (is.map Value.ref).toArray
theorem next {z TI TO : Addr} {is : List Addr} {srcs : List Src} {k : Nat} {row : Nat → Array Value} {Q : Fin → Shared → Prop} (hh : A.handled = none) (D : Apart z TI TO is srcs) (hlen : is.length = srcs.length) (hne : is ≠ []) (hsm : is.length ≤ 1000)
    (hz : IsZip s.heap z TI TO .none) (hTI : s.heap.get? TI = some { cls := .type "tuple", data := .seq (refs is) }) (hTO : ∃ ys : Array Value, ys.size = is.length ∧ s.heap.get? TO = some { cls := .type "tuple", data := .seq ys })
    (hit : ∀ (j : Nat) (i : Addr) (x : Src), is[j]? = some i → srcs[j]? = some x → SIt s.heap i x k) (hsq : ∀ (j : Nat) (x : Src), srcs[j]? = some x → SSq s.heap x (row j))
    (hQ : (∀ j, j < is.length → (row j)[k]? ≠ none) → ∀ h' (ys : Array Value), IsZip h' z TI TO (rawInt s.heap.objs.size) → ys.size = is.length → (∀ j, j < is.length → ys[j]? = (row j)[k]?) → h'.get? TO = some { cls := .type "tuple", data := .seq ys } →
      (∀ (j : Nat) (i : Addr) (x : Src), is[j]? = some i → srcs[j]? = some x → SIt h' i x (k + 1)) → h'.get? s.heap.objs.size = some { cls := .type "tuple", data := .seq ys } → h'.objs.size = s.heap.objs.size + 1 →
      (∀ c o, c ≠ z → c ≠ TO → c ∉ is → s.heap.get? c = some o → h'.get? c = some o) → Q (.done (.ret (.ref s.heap.objs.size))) { s with heap := h' })
    (hE : (∃ j, j < is.length ∧ (row j)[k]? = none) → ∀ h' e, (∀ c o, c ≠ z → c ≠ TO → c ∉ is → s.heap.get? c = some o → h'.get? c = some o) → (∃ o, h'.get? e = some o ∧ o.cls = .type "StopIteration") → E (.ref e) { s with heap := h' }) :
    wpAny (model prog w) A (Builtin.«zip.__next__» ⟨[.ref z], []⟩) Q E s := by
  show wpAny _ _ (field (.ref z) 2 >>= _) _ _ _
  refine wpAny_bind (wpAny_field hz rfl (x := .bool false) rfl ?_)
  show wpAny _ _ (field (.ref z) 3 >>= _) _ _ _
  refine wpAny_bind (wpAny_field hz rfl (x := .ref TI) rfl ?_)
  refine wpAny_bind (wpAny_seqItems hTI rfl ?_)
  have hem : (refs is).isEmpty = false := by
    cases is with
    | nil => exact absurd rfl hne
    | cons i r => rfl
  simp only [hem, Bool.false_eq_true, if_false]
  show wpAny _ _ (Builtin.SmallTypes.ownedTupleIsFree (.ref z) >>= _) _ _ _
  refine wpAny_bind ?_
  unfold Builtin.SmallTypes.ownedTupleIsFree
  refine wpAny_bind (wpAny_field hz rfl (x := .none) rfl (wpAny_pure ?_))
  simp only [if_true]
  refine wpAny_bind (wpAny_rule ?_)
  refine wpAny_bind (wpAny_field hz rfl (x := .ref TO) rfl ?_)
  refine wpAny_bind (wpAny_setField_rec hz (by simp) fun h₁ hz₁ hs₁ => ?_)
  replace hz₁ : IsZip h₁ z TI TO .ellipsis := hz₁
  refine wpAny_bind ?_
  refine forIn_by (fun j s' => ∃ h', s' = { s with heap := h' } ∧ IsZip h' z TI TO .ellipsis ∧ (∃ ys : Array Value, ys.size = is.length ∧ h'.get? TO = some { cls := .type "tuple", data := .seq ys } ∧ ∀ i, i < j → i < is.length → ys[i]? = (row i)[k]?) ∧
    (∀ (i : Nat) (a : Addr) (x : Src), is[i]? = some a → srcs[i]? = some x → SIt h' a x (if i < j then k + 1 else k)) ∧ h'.objs.size = s.heap.objs.size ∧ (∀ i, i < j → i < is.length → (row i)[k]? ≠ none) ∧
    ∀ c o, c ≠ z → c ≠ TO → c ∉ is → s.heap.get? c = some o → h'.get? c = some o) ?_ ?_ ?_
  · obtain ⟨ys, y1, y2⟩ := hTO
    refine ⟨h₁, rfl, hz₁, ⟨ys, y1, hs₁.extBut _ _ D.TOz y2, fun i hi => absurd hi (Nat.not_lt_zero i)⟩, fun i a x e1 e2 => ?_, hs₁.1, fun i hi => absurd hi (Nat.not_lt_zero i), fun c o c1 _ _ e => hs₁.extBut _ _ c1 e⟩
    rw [if_neg (Nat.not_lt_zero i)]
    have ne : a ≠ z := fun q => D.zi (q ▸ List.mem_of_getElem? e1)
    exact (hit i a x e1 e2).at fun o q => hs₁.extBut _ _ ne q
  · rintro j ⟨v, n⟩ s' hj ⟨h', rfl, hz', ⟨ys, y1, y2, y3⟩, it', hsz, had, hk⟩
    rw [List.getElem?_zipIdx] at hj
    have hj' : ∃ a, is[j]? = some a ∧ v = .ref a ∧ n = j := by
      unfold refs at hj
      rw [List.toList_toArray, List.getElem?_map] at hj
      cases ea : is[j]? with
      | none => rw [ea] at hj; cases hj
      | some a =>
        rw [ea] at hj
        have := Option.some.inj hj
        have e1 := (Prod.mk.inj this).1
        have e2 := (Prod.mk.inj this).2
        exact ⟨a, rfl, e1.symm, by omega⟩
    obtain ⟨a, ea, rfl, rfl⟩ := hj'
    have jl : n < is.length := (List.getElem?_eq_some_iff.mp ea).1
    obtain ⟨x, ex⟩ : ∃ x, srcs[n]? = some x := ⟨srcs[n]'(by omega), List.getElem?_eq_getElem _⟩
    have ma := List.mem_of_getElem? ea
    have mx := List.mem_of_getElem? ex
    have az : a ≠ z := fun q => D.zi (q ▸ ma)
    have aTO : a ≠ TO := fun q => D.TOi (q ▸ ma)
    have hI := it' n a x ea ex
    rw [if_neg (Nat.lt_irrefl n)] at hI
    have hS : SSq h' x (row n) := (hsq n x ex).at fun o q => hk _ o (D.sz x mx) (D.sTO x mx) (D.si x mx) q
    refine wpAny_bind (wpAny_onRaise ?_)
    show wpAny _ _ (Builtin.SmallTypes.nextOf (.ref a) >>= _) _ _ _
    cases hx : (row n)[k]? with
    | none =>
      refine wpAny_bind (nextOf_end hh hI hS hx fun h₂ e hs₂ he => ?_)
      obtain ⟨oe, hoe, hce⟩ := he
      have hz₂ : IsZip h₂ z TI TO .ellipsis := hs₂ _ _ az.symm hz'
      have hez : e ≠ z := fun x => by subst x; rw [hz₂] at hoe; cases hoe; simp at hce
      refine wpAny_setField_rec hz₂ (by simp) fun h₃ _ hs₃ => hE ⟨n, jl, hx⟩ h₃ e (fun c o c1 c2 c3 q => hs₃.extBut _ _ c1 (hs₂ _ _ (fun q' => c3 (q' ▸ ma)) (hk c o c1 c2 c3 q))) ⟨oe, hs₃.extBut _ _ hez hoe, hce⟩
    | some u =>
      refine wpAny_bind (nextOf_item hI hS hx fun h₂ h1₂ hs₂ => wpAny_pure ?_)
      have hTO₂ : h₂.get? TO = some { cls := .type "tuple", data := .seq ys } := hs₂.extBut _ _ aTO.symm y2
      refine wpAny_bind (wpAny_seqItems hTO₂ rfl ?_)
      refine wpAny_bind (updateSeq_at hTO₂ (by rw [y1]; exact Nat.le_trans hsm (by decide)) fun h₃ hTO₃ hs₃ => ?_)
      refine wpAny_bind (wpAny_letGo (wpAny_pure ⟨rfl, h₃, rfl, hs₃.extBut _ _ D.TOz.symm (hs₂.extBut _ _ az.symm hz'), ⟨_, by simp [y1], hTO₃, fun i hi il => ?_⟩, fun i b x' e1 e2 => ?_, by rw [hs₃.1, hs₂.1, hsz], fun i hi il => ?_, fun c o c1 c2 c3 q => ?_⟩))
      · rcases Nat.lt_or_ge i n with g | g
        · rw [Array.getElem?_setIfInBounds_ne (by omega)]
          exact y3 i g il
        · have e : i = n := by omega
          subst e
          rw [Array.getElem?_setIfInBounds_self_of_lt (by omega), hx]
      · rcases Nat.lt_trichotomy i n with g | g | g
        · rw [if_pos (by omega)]
          have hb := it' i b x' e1 e2
          rw [if_pos g] at hb
          have ne : b ≠ a := fun q => by
            have := nd_inj D.nd e1 (q ▸ ea)
            omega
          have nT : b ≠ TO := fun q => D.TOi (q ▸ List.mem_of_getElem? e1)
          exact (hb.at fun o q => hs₂.extBut _ _ ne q).at fun o q => hs₃.extBut _ _ nT q
        · subst g
          rw [ea] at e1
          rw [ex] at e2
          cases e1
          cases e2
          rw [if_pos (by omega)]
          exact h1₂.at fun o q => hs₃.extBut _ _ aTO q
        · rw [if_neg (by omega)]
          have hb := it' i b x' e1 e2
          rw [if_neg (by omega)] at hb
          have ne : b ≠ a := fun q => by
            have := nd_inj D.nd e1 (q ▸ ea)
            omega
          have nT : b ≠ TO := fun q => D.TOi (q ▸ List.mem_of_getElem? e1)
          exact (hb.at fun o q => hs₂.extBut _ _ ne q).at fun o q => hs₃.extBut _ _ nT q
      · rcases Nat.lt_or_ge i n with g | g
        · exact had i g il
        · have e : i = n := by omega
          subst e
          rw [hx]
          exact fun q => nomatch q
      · exact hs₃.extBut _ _ c2 (hs₂.extBut _ _ (fun q' => c3 (q' ▸ ma)) (hk c o c1 c2 c3 q))
  · rintro s' ⟨h', rfl, hz', ⟨ys, y1, y2, y3⟩, it', hsz, had, hk⟩
    have ll : (refs is).toList.zipIdx.length = is.length := by simp [refs]
    rw [ll] at y3 it' had
    refine wpAny_bind (wpAny_seqItems y2 rfl ?_)
    refine wpAny_bind (wpAny_newTuple ?_ (by simp [y1]; exact Nat.le_trans hsm (by decide)))
    show wpAny _ _ (Builtin.SmallTypes.ownedTupleHandOut (.ref z) (.ref h'.objs.size) >>= _) _ _ _
    refine wpAny_bind ?_
    unfold Builtin.SmallTypes.ownedTupleHandOut
    have hzlt : z < h'.objs.size := Heap.lt_size hz'
    have hz₆ : IsZip (h'.push { cls := .type "tuple", data := .seq ys }) z TI TO .ellipsis := Heap.get?_push_of_some _ hz'
    refine wpAny_bind (wpAny_setField_rec hz₆ (by simp) fun h₇ hz₇ hs₇ => ?_)
    replace hz₇ : IsZip h₇ z TI TO (rawInt h'.objs.size) := hz₇
    refine wpAny_setField_rec hz₇ (by simp) fun h₈ hz₈ hs₈ => ?_
    replace hz₈ : IsZip h₈ z TI TO (rawInt h'.objs.size) := hz₈
    have up : ∀ c o, c ≠ z → h'.get? c = some o → h₈.get? c = some o := fun c o c1 e => hs₈.extBut _ _ c1 (hs₇.extBut _ _ c1 (Heap.get?_push_of_some _ e))
    have hT₈ : h₈.get? h'.objs.size = some { cls := .type "tuple", data := .seq ys } := hs₈.extBut _ _ (Nat.ne_of_gt hzlt) (hs₇.extBut _ _ (Nat.ne_of_gt hzlt) (Heap.get?_push_size _ rfl))
    have hz8 : h₈.objs.size = h'.objs.size + 1 := by rw [hs₈.1, hs₇.1, Heap.size_push]
    rw [hsz] at hz₈ hT₈ hz8
    refine wpAny_pure ?_
    show Q (.done (.ret (.ref h'.objs.size))) _
    rw [hsz]
    refine hQ (fun j hj => had j hj hj) h₈ ys hz₈ y1 (fun j hj => y3 j hj hj) (up _ _ D.TOz y2) (fun i a x e1 e2 => ?_) hT₈ hz8 fun c o c1 c2 c3 e => up c o c1 (hk c o c1 c2 c3 e)
    have hb := it' i a x e1 e2
    rw [if_pos (List.getElem?_eq_some_iff.mp e1).1] at hb
    exact hb.at fun o e => up _ o (fun q => D.zi (q ▸ List.mem_of_getElem? e1)) e
theorem pyNext_item {z TI TO : Addr} {is : List Addr} {srcs : List Src} {k : Nat} {row : Nat → Array Value} {Q : Option Value → Shared → Prop} (hh : A.handled = none) (D : Apart z TI TO is srcs) (hlen : is.length = srcs.length) (hne : is ≠ []) (hsm : is.length ≤ 1000)
    (hz : IsZip s.heap z TI TO .none) (hTI : s.heap.get? TI = some { cls := .type "tuple", data := .seq (refs is) }) (hTO : ∃ ys : Array Value, ys.size = is.length ∧ s.heap.get? TO = some { cls := .type "tuple", data := .seq ys })
    (hit : ∀ (j : Nat) (i : Addr) (x : Src), is[j]? = some i → srcs[j]? = some x → SIt s.heap i x k) (hsq : ∀ (j : Nat) (x : Src), srcs[j]? = some x → SSq s.heap x (row j)) (hall : ∀ j, j < is.length → (row j)[k]? ≠ none)
    (hQ : ∀ h' (ys : Array Value), IsZip h' z TI TO (rawInt s.heap.objs.size) → ys.size = is.length → (∀ j, j < is.length → ys[j]? = (row j)[k]?) → h'.get? TO = some { cls := .type "tuple", data := .seq ys } →
      (∀ (j : Nat) (i : Addr) (x : Src), is[j]? = some i → srcs[j]? = some x → SIt h' i x (k + 1)) → h'.get? s.heap.objs.size = some { cls := .type "tuple", data := .seq ys } → h'.objs.size = s.heap.objs.size + 1 →
      (∀ c o, c ≠ z → c ≠ TO → c ∉ is → s.heap.get? c = some o → h'.get? c = some o) → Q (some (.ref s.heap.objs.size)) { s with heap := h' }) :
    wpAny (model prog w) A (pyNext (.ref z)) Q E s := by
  have hT : s.TypeIs (.ref z) "zip" := ⟨_, hz, rfl⟩
  unfold pyNext
  refine wpAny_bind (wpAny_attempt (wpAny_callSpecial?_slot (name := Str.ofString "__next__") hT F.slot_zip_next
    (wpAny_call_entry F.slot_zip_next hT F.entry_zip_next
      (next (A := A.in1) hh D hlen hne hsm hz hTI hTO hit hsq (fun _ h' ys a1 a2 a3 a4 a5 a6 a7 a8 => ⟨_, rfl, wpAny_pure (hQ h' ys a1 a2 a3 a4 a5 a6 a7 a8)⟩) (fun g => ?_)) (F.args_zip_next_1 _))))
  obtain ⟨j, jl, e⟩ := g
  exact absurd e (hall j jl)
theorem pyNext_end {z TI TO : Addr} {is : List Addr} {srcs : List Src} {k : Nat} {row : Nat → Array Value} {Q : Option Value → Shared → Prop} (hh : A.handled = none) (D : Apart z TI TO is srcs) (hlen : is.length = srcs.length) (hne : is ≠ []) (hsm : is.length ≤ 1000)
    (hz : IsZip s.heap z TI TO .none) (hTI : s.heap.get? TI = some { cls := .type "tuple", data := .seq (refs is) }) (hTO : ∃ ys : Array Value, ys.size = is.length ∧ s.heap.get? TO = some { cls := .type "tuple", data := .seq ys })
    (hit : ∀ (j : Nat) (i : Addr) (x : Src), is[j]? = some i → srcs[j]? = some x → SIt s.heap i x k) (hsq : ∀ (j : Nat) (x : Src), srcs[j]? = some x → SSq s.heap x (row j)) (hend : ∃ j, j < is.length ∧ (row j)[k]? = none)
    (hQ : ∀ h', (∀ c o, c ≠ z → c ≠ TO → c ∉ is → s.heap.get? c = some o → h'.get? c = some o) → Q none { s with heap := h' }) : wpAny (model prog w) A (pyNext (.ref z)) Q E s := by
  have hT : s.TypeIs (.ref z) "zip" := ⟨_, hz, rfl⟩
  unfold pyNext
  refine wpAny_bind (wpAny_attempt (wpAny_callSpecial?_slot (name := Str.ofString "__next__") hT F.slot_zip_next
    (wpAny_call_entry F.slot_zip_next hT F.entry_zip_next (next (A := A.in1) hh D hlen hne hsm hz hTI hTO hit hsq (fun g => ?_) (fun _ h' e hk he => ?_)) (F.args_zip_next_1 _))))
  · obtain ⟨j, jl, e⟩ := hend
    exact absurd e (g j jl)
  · obtain ⟨o, ho, hc⟩ := he
    refine wpAny_bind (wpAny_isInstance (T := "StopIteration") (b := true) ⟨o, ho, hc⟩ isSubtype_stop ?_)
    exact wpAny_pure (hQ _ hk)
end
def SqX (K : PySem.W.Frag) (H : Hp) (x : Src) (xs : List V) : Prop := match x.t with
  | true => SqT K H x.a xs
  | false => SqL K H x.a xs
theorem sq_get {X : Cx} {pins : List (Addr × Obj)} {σ : L2.St} {H : Hp} {s : Shared} (I : Inv X pins σ H s) {x : Src} {xs : List V} (q : SqX X.K H x xs) : ∃ its : List Value, Vals xs its ∧ SSq s.heap x its.toArray := by
  obtain ⟨a, t⟩ := x
  cases t
  · obtain ⟨its, rv, p, _⟩ := I.list q
    exact ⟨its, rv, p.isList⟩
  · obtain ⟨its, rv, p, _⟩ := I.tuple q
    exact ⟨its, rv, p⟩
theorem sq_inj {X : Cx} {pins : List (Addr × Obj)} {σ : L2.St} {H : Hp} {s : Shared} (I : Inv X pins σ H s) {x : Src} {xs ys : List V} (q : SqX X.K H x xs) (r : SqX X.K H x ys) : xs = ys := by
  obtain ⟨a, t⟩ := x
  cases t
  · exact I.list_inj q r
  · exact I.tuple_inj q r
/-- things as they stand at each turn, the items in a new tuple -/
def ItN (K : PySem.W.Frag) (srcs : List Src) : It :=
  ⟨fun i H => ∀ (j : Nat) (x : Src), srcs[j]? = some x → ∃ xs v, SqX K H x xs ∧ xs[i]? = some v,
    fun i H v H' => ∃ T vs, v = .ref T ∧ H T = none ∧ H' = upd H T (.tup vs) ∧ vs.length = srcs.length ∧ ∀ (j : Nat) (x : Src) (xs : List V), srcs[j]? = some x → SqX K H x xs → ∃ y, xs[i]? = some y ∧ vs[j]? = some y,
    fun i H => (∀ (j : Nat) (x : Src), srcs[j]? = some x → ∃ xs, SqX K H x xs) ∧ ∃ (j : Nat) (x : Src) (xs : List V), srcs[j]? = some x ∧ SqX K H x xs ∧ xs.length ≤ i⟩
theorem vals_of : ∀ {us : List Value} {P : Nat → V → Prop}, (∀ j u, us[j]? = some u → ∃ v, RelV v u ∧ P j v) → ∃ vs, Vals vs us ∧ ∀ j v, vs[j]? = some v → P j v
  | [], _, _ => ⟨[], .nil, fun j v h => by simp at h⟩
  | u :: r, P, h => by
    obtain ⟨v, r1, p1⟩ := h 0 u rfl
    obtain ⟨vs, r2, p2⟩ := vals_of (us := r) (P := fun j => P (j + 1)) fun j u e => h (j + 1) u e
    refine ⟨v :: vs, .cons r1 r2, fun j w e => ?_⟩
    cases j with
    | zero =>
      have := Option.some.inj e
      subst this
      exact p1
    | succ j => exact p2 j w e
theorem rows {X : Cx} {pins : List (Addr × Obj)} {σ : L2.St} {H : Hp} {s : Shared} (I : Inv X pins σ H s) {srcs : List Src} (h : ∀ (j : Nat) (x : Src), srcs[j]? = some x → ∃ xs, SqX X.K H x xs) :
    ∃ row : Nat → List Value, ∀ (j : Nat) (x : Src), srcs[j]? = some x → ∃ xs, SqX X.K H x xs ∧ Vals xs (row j) ∧ SSq s.heap x (row j).toArray := by
  refine Classical.axiomOfChoice (r := fun (j : Nat) (r : List Value) => ∀ x : Src, srcs[j]? = some x → ∃ xs, SqX X.K H x xs ∧ Vals xs r ∧ SSq s.heap x r.toArray) fun j => ?_
  cases e : srcs[j]? with
  | none => exact ⟨[], fun x h => nomatch h⟩
  | some x =>
    obtain ⟨xs, q⟩ := h j x e
    obtain ⟨its, rv, p⟩ := sq_get I q
    exact ⟨its, fun y hy => by cases hy; exact ⟨xs, q, rv, p⟩⟩
theorem turnN {P : Program} {w : World} {K : PySem.W.Frag} {elts : List Expr} {kk : Nat} {tpos : Pos} {z TI TO : Addr} {is : List Addr} {srcs : List Src} (D : Apart z TI TO is srcs) (hlen : is.length = srcs.length) (hne : is ≠ []) (hsm : is.length ≤ 1000) :
    Turn P w K (.Tuple elts kk tpos) (ItN K srcs) (z :: TI :: TO :: is) z (fun i h => IsZip h z TI TO .none ∧ h.get? TI = some { cls := .type "tuple", data := .seq (refs is) } ∧ (∃ ys : Array Value, ys.size = is.length ∧ h.get? TO = some { cls := .type "tuple", data := .seq ys }) ∧
      ∀ (j : Nat) (b : Addr) (x : Src), is[j]? = some b → srcs[j]? = some x → SIt h b x i) where
  mem := List.mem_cons_self ..
  obj := fun i h st c hc => by
    obtain ⟨hz, hTI, ⟨ys, _, hTO⟩, hi⟩ := st
    rcases List.mem_cons.mp hc with q | hc
    · rw [q]; exact ⟨_, hz, fun v q => nomatch q⟩
    rcases List.mem_cons.mp hc with q | hc
    · rw [q]; exact ⟨_, hTI, fun v q => nomatch q⟩
    rcases List.mem_cons.mp hc with q | hc
    · rw [q]; exact ⟨_, hTO, fun v q => nomatch q⟩
    obtain ⟨j, ej⟩ := List.mem_iff_getElem?.mp hc
    have jl := (List.getElem?_eq_some_iff.mp ej).1
    exact (hi j c _ ej (List.getElem?_eq_getElem (by omega))).obj
  keep := fun i h h' st k => by
    obtain ⟨hz, hTI, ⟨ys, y1, hTO⟩, hi⟩ := st
    exact ⟨k z (by simp) _ hz, k TI (by simp) _ hTI, ⟨ys, y1, k TO (by simp) _ hTO⟩, fun j b x e1 e2 => (hi j b x e1 e2).at fun o q => k b (by simp [List.mem_of_getElem? e1]) o q⟩
  item := by
    intro X hP hw hK hc i pins s σ H E I hf st hg
    subst hP hw hK
    obtain ⟨hz, hTI, hTO, hi⟩ := st
    obtain ⟨row, hrow⟩ := rows I (srcs := srcs) fun j x e => by obtain ⟨xs, v, q, _⟩ := hg j x e; exact ⟨xs, q⟩
    have hzl : z < s.heap.objs.size := Heap.lt_size hz
    have src : ∀ j, j < is.length → ∃ x, srcs[j]? = some x := fun j hj => ⟨srcs[j]'(by omega), List.getElem?_eq_getElem _⟩
    refine pyNext_item (row := fun j => (row j).toArray) (I.ok.hd hc) D hlen hne hsm hz hTI hTO hi (fun j x e => by obtain ⟨xs, _, _, p⟩ := hrow j x e; exact p) (fun j hj => ?_) fun h' ys z' y1 y2 TO' hi' hT hsz hk => ?_
    · obtain ⟨x, ex⟩ := src j hj
      obtain ⟨xs, q, rv, _⟩ := hrow j x ex
      obtain ⟨xs', v, q', hv⟩ := hg j x ex
      rw [sq_inj I q' q] at hv
      obtain ⟨u, hu, _⟩ := rv.get hv
      rw [List.getElem?_toArray, hu]
      exact fun q => nomatch q
    refine ⟨_, rfl, wpAny_letOwnedTupleGo_zip (s := { s with heap := h' }) z' fun h'' z'' sb => ?_⟩
    have hT2 : h''.get? s.heap.objs.size = some { cls := .type "tuple", data := .seq ys } := (sb.2 _ (Nat.ne_of_gt hzl)).trans hT
    obtain ⟨vs, rvs, pvs⟩ := vals_of (us := ys.toList) (P := fun j v => ∀ (x : Src) (xs : List V), srcs[j]? = some x → SqX X.K H x xs → xs[i]? = some v) fun j u e => by
      have jl : j < is.length := by
        have := (List.getElem?_eq_some_iff.mp e).1
        simp at this
        omega
      obtain ⟨x, ex⟩ := src j jl
      obtain ⟨xs, q, rv, _⟩ := hrow j x ex
      obtain ⟨xs', v, q', hv⟩ := hg j x ex
      rw [sq_inj I q' q] at hv
      obtain ⟨u', hu, ru⟩ := rv.get hv
      have e2 := y2 j jl
      rw [← Array.getElem?_toList, e] at e2
      have e3 : u = u' := by
        have : (row j).toArray[i]? = some u' := by rw [List.getElem?_toArray]; exact hu
        rw [this] at e2
        exact Option.some.inj e2
      subst e3
      refine ⟨v, ru, fun x' ys' ex' q'' => ?_⟩
      rw [ex] at ex'
      cases ex'
      rw [sq_inj I q'' q]
      exact hv
    have lvs : vs.length = srcs.length := by
      have := rvs.length
      simp at this
      omega
    have new : ObjOk X.prog X.w (upd H s.heap.objs.size (.tup vs)) h'' s.heap.objs.size (.tup vs) :=
      ⟨by rw [lvs, ← hlen]; exact Nat.le_trans hsm (by decide), ys.toList, rvs, ⟨_, hT2, rfl, 0, by simp⟩⟩
    have I1 : Inv X pins σ (upd H s.heap.objs.size (.tup vs)) { s with heap := h'' } :=
      I.turnedNew (t' := s.toks) (ch := z :: TI :: TO :: is) (fun c o hb q => (sb.2 c (fun q' => hb (by simp [q']))).trans (hk c o (fun q' => hb (by simp [q'])) (fun q' => hb (by simp [q'])) (fun q' => hb (by simp [q'])) q)) hf (Nat.le_refl _) new
    refine ⟨.ref s.heap.objs.size, _, I1, rfl, ⟨_, vs, rfl, I.hok.fresh (Nat.le_refl _), rfl, lvs, fun j x xs ex q => ?_⟩, ⟨z'', ?_, ⟨ys, y1, ?_⟩, fun j b x e1 e2 => ?_⟩, fun c hcm => ?_⟩
    · have jl : j < vs.length := by rw [lvs]; exact (List.getElem?_eq_some_iff.mp ex).1
      exact ⟨vs[j], pvs j _ (List.getElem?_eq_getElem jl) x xs ex q, List.getElem?_eq_getElem jl⟩
    · exact (sb.2 _ D.TIz).trans (hk _ _ D.TIz D.TITO D.TIi hTI)
    · exact (sb.2 _ D.TOz).trans TO'
    · exact (hi' j b x e1 e2).at fun o q => (sb.2 _ (fun q' => D.zi (q' ▸ List.mem_of_getElem? e1))).trans q
    · have hlt : c < s.heap.objs.size := by
        rcases List.mem_cons.mp hcm with q | hcm
        · rw [q]; exact hzl
        rcases List.mem_cons.mp hcm with q | hcm
        · rw [q]; exact Heap.lt_size hTI
        rcases List.mem_cons.mp hcm with q | hcm
        · obtain ⟨_, _, e⟩ := hTO; rw [q]; exact Heap.lt_size e
        obtain ⟨j, ej⟩ := List.mem_iff_getElem?.mp hcm
        have jl := (List.getElem?_eq_some_iff.mp ej).1
        obtain ⟨o, e, _⟩ := (hi j c _ ej (List.getElem?_eq_getElem (by omega))).obj
        exact Heap.lt_size e
      rw [upd_ne (Nat.ne_of_lt hlt)]
      exact (hf c hcm).1
  done := by
    intro X hP hw hK hc i pins s σ H E I hf st hg
    subst hP hw hK
    obtain ⟨hz, hTI, hTO, hi⟩ := st
    obtain ⟨hall, j, x, xs, ex, q, hl⟩ := hg
    obtain ⟨row, hrow⟩ := rows I (srcs := srcs) hall
    refine pyNext_end (row := fun j => (row j).toArray) (I.ok.hd hc) D hlen hne hsm hz hTI hTO hi (fun j x e => by obtain ⟨xs, _, _, p⟩ := hrow j x e; exact p) ⟨j, by rw [hlen]; exact (List.getElem?_eq_some_iff.mp ex).1, ?_⟩ fun h' hk => ⟨rfl, I.turnedL (t' := s.toks) (ch := z :: TI :: TO :: is) (fun c o hb q =>
      hk c o (fun q' => hb (by simp [q'])) (fun q' => hb (by simp [q'])) (fun q' => hb (by simp [q'])) q) hf⟩
    obtain ⟨xs', q', rv, _⟩ := hrow j x ex
    rw [sq_inj I q q'] at hl
    have := rv.length
    rw [List.getElem?_toArray]
    exact List.getElem?_eq_none (by omega)
  self := fun A i s Q E st h => wpAny_pyIter_zip st.1 h
abbrev itObj (x : Src) : Obj := { cls := .type (if x.t then "tuple_iterator" else "list_iterator"), data := .fields #[.ref x.a, .int 0 0] }
theorem itObj_at {h : Heap} {i : Addr} {x : Src} (e : h.get? i = some (itObj x)) : SIt h i x 0 := by
  obtain ⟨a, t⟩ := x
  cases t
  · exact ⟨_, e, rfl, rfl⟩
  · exact ⟨_, e, rfl, rfl⟩
theorem SSq.push {h : Heap} {x : Src} {r : Array Value} (g : SSq h x r) (o : Obj) : SSq (h.push o) x r := g.at fun _ e => Heap.get?_push_of_some _ e
theorem SSq.lt {h : Heap} {x : Src} {r : Array Value} (g : SSq h x r) : x.a < h.objs.size := by
  obtain ⟨a, t⟩ := x
  cases t
  · obtain ⟨_, e, _⟩ := g
    exact Heap.lt_size e
  · obtain ⟨_, e, _⟩ := g
    exact Heap.lt_size e
abbrev tupO (vs : Array Value) : Obj := { cls := .type "tuple", data := .seq vs }
abbrev zipO (TI TO : Addr) : Obj := { cls := .type "zip", data := .fields #[.none, .bool false, .bool false, .ref TI, .ref TO] }
abbrev h3a (h : Heap) (x y z : Src) : Heap := ((h.push (itObj x)).push (itObj y)).push (itObj z)
abbrev h3b (h : Heap) (x y z : Src) : Heap := (h3a h x y z).push (tupO #[.ref h.objs.size, .ref (h.push (itObj x)).objs.size, .ref ((h.push (itObj x)).push (itObj y)).objs.size])
abbrev h3c (h : Heap) (x y z : Src) : Heap := (h3b h x y z).push (tupO #[.none, .none, .none])
abbrev h3d (h : Heap) (x y z : Src) : Heap := (h3c h x y z).push (zipO (h3a h x y z).objs.size (h3b h x y z).objs.size)
set_option maxHeartbeats 4000000 in
theorem meets_new3 (x y z : Src) (r1 r2 r3 : Array Value) :
    Meets (Builtin.«zip.__new__» ⟨[.type "zip", .ref x.a, .ref y.a, .ref z.a], []⟩) (fun _ R s => SSq s.heap x r1 ∧ SSq s.heap y r2 ∧ SSq s.heap z r3 ∧
      R (.ok (.ret (.ref (h3c s.heap x y z).objs.size))) { s with heap := h3d s.heap x y z }) :=
  .of_wp fun prog w A R s h => by
    obtain ⟨hp, g, d, tk, os⟩ := s; obtain ⟨hl1, hl2, hl3, h⟩ := h
    have hsub := sub_zip
    have hL1 : SSq (Shared.heap ⟨hp, g, d, tk, os⟩) x r1 := hl1
    have hL2 : SSq (Shared.heap ⟨hp.push (itObj x), g, d, tk, os⟩) y r2 := hl2.push _
    have hL3 : SSq (Shared.heap ⟨(hp.push (itObj x)).push (itObj y), g, d, tk, os⟩) z r3 := (hl3.push _).push _
    wp_walk using pyIter_src hL1, pyIter_src hL2, pyIter_src hL3
    exact ⟨_, rfl, h⟩
theorem typeCall_zip_3 (a b c : Value) : checkTypeCall "zip" ⟨[a, b, c], []⟩ = pure () := by kernel_rfl
theorem newCall_zip_3 (a b c : Value) : checkBuiltinCall "zip.__new__" ⟨[.type "zip", a, b, c], []⟩ = pure () := by kernel_rfl
theorem args_object_init_4 (a b c d : Value) : argsOk "object.__init__" ⟨[a, b, c, d], []⟩ := by
  unfold argsOk; rw [signature?_of (id := "object.__init__") (n := ['_', '_', 't', 'i', 'n', 'i', '_', '_']) (o := ['t', 'c', 'e', 'j', 'b', 'o']) (by kernel_rfl) F.owner_object]; kernel_rfl
theorem apart3 (n : Nat) {x y z : Src} (h1 : x.a < n) (h2 : y.a < n) (h3 : z.a < n) : Apart (n + 5) (n + 3) (n + 4) [n, n + 1, n + 2] [x, y, z] where
  TIz := by show (n + 3 : Nat) ≠ n + 5; omega
  TOz := by show (n + 4 : Nat) ≠ n + 5; omega
  TITO := by show (n + 3 : Nat) ≠ n + 4; omega
  zi := by simp
  TIi := by simp
  TOi := by simp
  nd := by simp
  sz := by
    intro s hs
    simp at hs
    rcases hs with rfl | rfl | rfl
    · exact Nat.ne_of_lt (Nat.lt_of_lt_of_le h1 (Nat.le_add_right _ _))
    · exact Nat.ne_of_lt (Nat.lt_of_lt_of_le h2 (Nat.le_add_right _ _))
    · exact Nat.ne_of_lt (Nat.lt_of_lt_of_le h3 (Nat.le_add_right _ _))
  sTO := by
    intro s hs
    simp at hs
    rcases hs with rfl | rfl | rfl
    · exact Nat.ne_of_lt (Nat.lt_of_lt_of_le h1 (Nat.le_add_right _ _))
    · exact Nat.ne_of_lt (Nat.lt_of_lt_of_le h2 (Nat.le_add_right _ _))
    · exact Nat.ne_of_lt (Nat.lt_of_lt_of_le h3 (Nat.le_add_right _ _))
  si := by
    have no : ∀ {a : Addr}, a < n → a ∉ ([n, n + 1, n + 2] : List Addr) := fun {a} h q => by
      rcases List.mem_cons.mp q with q | q
      · exact Nat.ne_of_lt h q
      rcases List.mem_cons.mp q with q | q
      · exact Nat.ne_of_lt (Nat.lt_of_lt_of_le h (Nat.le_add_right _ _)) q
      · exact Nat.ne_of_lt (Nat.lt_of_lt_of_le h (Nat.le_add_right _ _)) (List.mem_singleton.mp q)
    intro s hs
    simp at hs
    rcases hs with rfl | rfl | rfl
    · exact no h1
    · exact no h2
    · exact no h3
theorem call3 {prog : Program} {w : World} {A : Around} {E : Value → Shared → Prop} {s : Shared} {x y z : Src} {r1 r2 r3 : Array Value} {Q : Value → Shared → Prop} (hl1 : SSq s.heap x r1) (hl2 : SSq s.heap y r2) (hl3 : SSq s.heap z r3)
    (h : ∀ h', IsZip h' (s.heap.objs.size + 5) (s.heap.objs.size + 3) (s.heap.objs.size + 4) .none → h'.get? (s.heap.objs.size + 3) = some (tupO (refs [s.heap.objs.size, s.heap.objs.size + 1, s.heap.objs.size + 2])) → h'.get? (s.heap.objs.size + 4) = some (tupO #[.none, .none, .none]) →
      SIt h' s.heap.objs.size x 0 → SIt h' (s.heap.objs.size + 1) y 0 → SIt h' (s.heap.objs.size + 2) z 0 → (∀ c o, s.heap.get? c = some o → h'.get? c = some o) → Q (.ref (s.heap.objs.size + 5)) { s with heap := h' }) :
    wpAny (model prog w) A (call (.type "zip") [.ref x.a, .ref y.a, .ref z.a]) Q E s := by
  refine callType_new F.called_zip (by decide) (typeCall_zip_3 _ _ _) (newCall_zip_3 _ _ _) (fun obj => args_object_init_4 obj _ _ _) F.entry_zip_new (meets_new3 x y z r1 r2 r3) ⟨hl1, hl2, hl3, ?_⟩
  have z1 : (s.heap.push (itObj x)).objs.size = s.heap.objs.size + 1 := Heap.size_push ..
  have z2 : ((s.heap.push (itObj x)).push (itObj y)).objs.size = s.heap.objs.size + 2 := by rw [Heap.size_push, z1]
  have z3 : (h3a s.heap x y z).objs.size = s.heap.objs.size + 3 := by rw [Heap.size_push, z2]
  have z4 : (h3b s.heap x y z).objs.size = s.heap.objs.size + 4 := by rw [Heap.size_push, z3]
  have z5 : (h3c s.heap x y z).objs.size = s.heap.objs.size + 5 := by rw [Heap.size_push, z4]
  have g6 : (h3d s.heap x y z).get? (h3c s.heap x y z).objs.size = some _ := Heap.get?_push_size _ rfl
  have g5 : (h3d s.heap x y z).get? (h3b s.heap x y z).objs.size = some _ := Heap.get?_push_of_some _ (Heap.get?_push_size _ rfl)
  have g4 : (h3d s.heap x y z).get? (h3a s.heap x y z).objs.size = some _ := Heap.get?_push_of_some _ (Heap.get?_push_of_some _ (Heap.get?_push_size _ rfl))
  have g3 : (h3d s.heap x y z).get? ((s.heap.push (itObj x)).push (itObj y)).objs.size = some (itObj z) := Heap.get?_push_of_some _ (Heap.get?_push_of_some _ (Heap.get?_push_of_some _ (Heap.get?_push_size _ rfl)))
  have g2 : (h3d s.heap x y z).get? (s.heap.push (itObj x)).objs.size = some (itObj y) := Heap.get?_push_of_some _ (Heap.get?_push_of_some _ (Heap.get?_push_of_some _ (Heap.get?_push_of_some _ (Heap.get?_push_size _ rfl))))
  have g1 : (h3d s.heap x y z).get? s.heap.objs.size = some (itObj x) := Heap.get?_push_of_some _ (Heap.get?_push_of_some _ (Heap.get?_push_of_some _ (Heap.get?_push_of_some _ (Heap.get?_push_of_some _ (Heap.get?_push_size _ rfl)))))
  show _ ∧ _
  rw [z3, z4, z5] at g6
  rw [z1, z2, z3] at g4
  rw [z4] at g5
  rw [z2] at g3
  rw [z1] at g2
  rw [z5]
  exact ⟨⟨_, g6, rfl⟩, h _ g6 g4 g5 (itObj_at g1) (itObj_at g2) (itObj_at g3) fun c o x =>
    Heap.get?_push_of_some _ (Heap.get?_push_of_some _ (Heap.get?_push_of_some _ (Heap.get?_push_of_some _ (Heap.get?_push_of_some _ (Heap.get?_push_of_some _ x)))))⟩
def iZip3 (K : PySem.W.Frag) (ta : TA) : TI := fun σ H R => ta σ H fun vs H1 => ∃ (x y z : Src) (xs ys zs : List V), vs = [.ref x.a, .ref y.a, .ref z.a] ∧ SqX K H1 x xs ∧ SqX K H1 y ys ∧ SqX K H1 z zs ∧ R (ItN K [x, y, z]) H1
theorem pi_zip3 {X : Cx} {e e2 e3 : Expr} {ta : TA} {p pos tpos : Pos} {elts : List Expr} {kk : Nat} (hg : Gl X "zip") (hm : X.mg "zip" = none) (ha : PA X [e, e2, e3] ta)
    (hs : starEach [e, e2, e3] X.env = (false, eval e X.env) :: starEach [e2, e3] X.env := by rfl) (hpl : (backTo pos (starEach [e2, e3] X.env)).any (·.1) = false := by rfl) :
    PI X (.Tuple elts kk tpos) (.Call (.Name "zip" p) [e, e2, e3] [] pos) (iZip3 X.K ta) := by
  refine ⟨fun pins s σ H R I h => ?_⟩
  refine Call_ (ld_blt I hg hm PyProof.Rows.boot_zip (PyProof.Rows.callWith_type1 (thn (ha.run pos pins s σ H _ I h) fun us s1 ⟨vs, H1, I1, r1, q1⟩ => ?_) hs hpl))
  obtain ⟨x, y, z, xs, ys, zs, ex, qx, qy, qz, q⟩ := q1
  subst ex
  cases r1 with
  | cons r rr =>
    cases rr with
    | cons r' rr =>
      cases rr with
      | cons r'' rr =>
        cases rr
        cases r
        cases r'
        cases r''
        obtain ⟨its, _, p1⟩ := sq_get I1 qx
        obtain ⟨its2, _, p2⟩ := sq_get I1 qy
        obtain ⟨its3, _, p3⟩ := sq_get I1 qz
        refine call3 p1 p2 p3 fun h' hz hTI hTO i1 i2 i3 hk => wpAny_pyIter_zip hz ?_
        have I2 : Inv X pins σ H1 { s1 with heap := h' } := I1.kept (t' := s1.toks) hk
        refine ⟨s1.heap.objs.size + 5, [s1.heap.objs.size + 5, s1.heap.objs.size + 3, s1.heap.objs.size + 4, s1.heap.objs.size, s1.heap.objs.size + 1, s1.heap.objs.size + 2], _, _, H1, rfl, I2,
          turnN (apart3 s1.heap.objs.size p1.lt p2.lt p3.lt) rfl (fun q => nomatch q) (by show 3 ≤ 1000; decide), ⟨hz, hTI, ⟨_, rfl, hTO⟩, fun j b u e1 e2 => ?_⟩, fun c hcm => ?_, q⟩
        · match j, e1, e2 with
          | 0, e1, e2 => cases e1; cases e2; exact i1
          | 1, e1, e2 => cases e1; cases e2; exact i2
          | 2, e1, e2 => cases e1; cases e2; exact i3
          | n + 3, e1, _ => cases e1
        · have hle : s1.heap.objs.size ≤ c := by
            simp only [List.mem_cons, List.not_mem_nil, or_false] at hcm
            rcases hcm with z | z | z | z | z | z <;> rw [z] <;> first | exact Nat.le_refl _ | exact Nat.le_add_right _ _
          exact I1.fpOk hle (I1.hok.fresh hle)
def Y3 (xs ys zs : List V) : Nat → Hp → V → Hp → Prop := fun i H v H' => ∃ T x y z, v = .ref T ∧ H T = none ∧ H' = upd H T (.tup [x, y, z]) ∧ xs[i]? = some x ∧ ys[i]? = some y ∧ zs[i]? = some z
theorem walk3 {K : PySem.W.Frag} {x y z : Src} {xs ys zs : List V} (h1 : ys.length = xs.length) (h2 : zs.length = xs.length) : Walk (ItN K [x, y, z]) xs.length (fun H => SqX K H x xs ∧ SqX K H y ys ∧ SqX K H z zs) (Y3 xs ys zs) where
  goes := fun i H hi g j u e => by
    match j, e with
    | 0, e => cases e; exact ⟨xs, _, g.1, List.getElem?_eq_getElem hi⟩
    | 1, e => cases e; exact ⟨ys, _, g.2.1, List.getElem?_eq_getElem (by omega)⟩
    | 2, e => cases e; exact ⟨zs, _, g.2.2, List.getElem?_eq_getElem (by omega)⟩
    | n + 3, e => cases e
  stops := fun H g => by
    refine ⟨fun j u e => ?_, 0, x, xs, rfl, g.1, Nat.le_refl _⟩
    match j, e with
    | 0, e => cases e; exact ⟨xs, g.1⟩
    | 1, e => cases e; exact ⟨ys, g.2.1⟩
    | 2, e => cases e; exact ⟨zs, g.2.2⟩
    | n + 3, e => cases e
  yields := fun i H v H' hi g q => by
    obtain ⟨T, vs, rfl, nT, rfl, lv, hv⟩ := q
    obtain ⟨a, a1, a2⟩ := hv 0 x xs rfl g.1
    obtain ⟨b, b1, b2⟩ := hv 1 y ys rfl g.2.1
    obtain ⟨c, c1, c2⟩ := hv 2 z zs rfl g.2.2
    refine ⟨T, a, b, c, rfl, nT, ?_, a1, b1, c1⟩
    match vs, lv with
    | [u, v, w], _ =>
      cases a2
      cases b2
      cases c2
      rfl
abbrev h2a (h : Heap) (x y : Src) : Heap := (h.push (itObj x)).push (itObj y)
abbrev h2b (h : Heap) (x y : Src) : Heap := (h2a h x y).push (tupO #[.ref h.objs.size, .ref (h.push (itObj x)).objs.size])
abbrev h2c (h : Heap) (x y : Src) : Heap := (h2b h x y).push (tupO #[.none, .none])
abbrev h2d (h : Heap) (x y : Src) : Heap := (h2c h x y).push (zipO (h2a h x y).objs.size (h2b h x y).objs.size)
set_option maxHeartbeats 4000000 in
theorem meets_new2 (x y : Src) (r1 r2 : Array Value) :
    Meets (Builtin.«zip.__new__» ⟨[.type "zip", .ref x.a, .ref y.a], []⟩) (fun _ R s => SSq s.heap x r1 ∧ SSq s.heap y r2 ∧
      R (.ok (.ret (.ref (h2c s.heap x y).objs.size))) { s with heap := h2d s.heap x y }) :=
  .of_wp fun prog w A R s h => by
    obtain ⟨hp, g, d, tk, os⟩ := s; obtain ⟨hl1, hl2, h⟩ := h
    have hsub := sub_zip
    have hL1 : SSq (Shared.heap ⟨hp, g, d, tk, os⟩) x r1 := hl1
    have hL2 : SSq (Shared.heap ⟨hp.push (itObj x), g, d, tk, os⟩) y r2 := hl2.push _
    wp_walk using pyIter_src hL1, pyIter_src hL2
    exact ⟨_, rfl, h⟩
theorem apart2 (n : Nat) {x y : Src} (h1 : x.a < n) (h2 : y.a < n) : Apart (n + 4) (n + 2) (n + 3) [n, n + 1] [x, y] where
  TIz := by show (n + 2 : Nat) ≠ n + 4; omega
  TOz := by show (n + 3 : Nat) ≠ n + 4; omega
  TITO := by show (n + 2 : Nat) ≠ n + 3; omega
  zi := by simp
  TIi := by simp
  TOi := by simp
  nd := by simp
  sz := by
    intro s hs
    simp at hs
    rcases hs with rfl | rfl
    · exact Nat.ne_of_lt (Nat.lt_of_lt_of_le h1 (Nat.le_add_right _ _))
    · exact Nat.ne_of_lt (Nat.lt_of_lt_of_le h2 (Nat.le_add_right _ _))
  sTO := by
    intro s hs
    simp at hs
    rcases hs with rfl | rfl
    · exact Nat.ne_of_lt (Nat.lt_of_lt_of_le h1 (Nat.le_add_right _ _))
    · exact Nat.ne_of_lt (Nat.lt_of_lt_of_le h2 (Nat.le_add_right _ _))
  si := by
    have no : ∀ {a : Addr}, a < n → a ∉ ([n, n + 1] : List Addr) := fun {a} h q => by
      rcases List.mem_cons.mp q with q | q
      · exact Nat.ne_of_lt h q
      · exact Nat.ne_of_lt (Nat.lt_of_lt_of_le h (Nat.le_add_right _ _)) (List.mem_singleton.mp q)
    intro s hs
    simp at hs
    rcases hs with rfl | rfl
    · exact no h1
    · exact no h2
theorem call2 {prog : Program} {w : World} {A : Around} {E : Value → Shared → Prop} {s : Shared} {x y : Src} {r1 r2 : Array Value} {Q : Value → Shared → Prop} (hl1 : SSq s.heap x r1) (hl2 : SSq s.heap y r2)
    (h : ∀ h', IsZip h' (s.heap.objs.size + 4) (s.heap.objs.size + 2) (s.heap.objs.size + 3) .none → h'.get? (s.heap.objs.size + 2) = some (tupO (refs [s.heap.objs.size, s.heap.objs.size + 1])) → h'.get? (s.heap.objs.size + 3) = some (tupO #[.none, .none]) →
      SIt h' s.heap.objs.size x 0 → SIt h' (s.heap.objs.size + 1) y 0 → (∀ c o, s.heap.get? c = some o → h'.get? c = some o) → Q (.ref (s.heap.objs.size + 4)) { s with heap := h' }) :
    wpAny (model prog w) A (call (.type "zip") [.ref x.a, .ref y.a]) Q E s := by
  refine callType_new F.called_zip (by decide) (F.typeCall_zip_2 _ _) (F.newCall_zip_2 _ _) (fun obj => F.args_object_init_3 obj _ _) F.entry_zip_new (meets_new2 x y r1 r2) ⟨hl1, hl2, ?_⟩
  have z1 : (s.heap.push (itObj x)).objs.size = s.heap.objs.size + 1 := Heap.size_push ..
  have z3 : (h2a s.heap x y).objs.size = s.heap.objs.size + 2 := by rw [Heap.size_push, z1]
  have z4 : (h2b s.heap x y).objs.size = s.heap.objs.size + 3 := by rw [Heap.size_push, z3]
  have z5 : (h2c s.heap x y).objs.size = s.heap.objs.size + 4 := by rw [Heap.size_push, z4]
  have g6 : (h2d s.heap x y).get? (h2c s.heap x y).objs.size = some _ := Heap.get?_push_size _ rfl
  have g5 : (h2d s.heap x y).get? (h2b s.heap x y).objs.size = some _ := Heap.get?_push_of_some _ (Heap.get?_push_size _ rfl)
  have g4 : (h2d s.heap x y).get? (h2a s.heap x y).objs.size = some _ := Heap.get?_push_of_some _ (Heap.get?_push_of_some _ (Heap.get?_push_size _ rfl))
  have g2 : (h2d s.heap x y).get? (s.heap.push (itObj x)).objs.size = some (itObj y) := Heap.get?_push_of_some _ (Heap.get?_push_of_some _ (Heap.get?_push_of_some _ (Heap.get?_push_size _ rfl)))
  have g1 : (h2d s.heap x y).get? s.heap.objs.size = some (itObj x) := Heap.get?_push_of_some _ (Heap.get?_push_of_some _ (Heap.get?_push_of_some _ (Heap.get?_push_of_some _ (Heap.get?_push_size _ rfl))))
  show _ ∧ _
  rw [z3, z4, z5] at g6
  rw [z1, z3] at g4
  rw [z4] at g5
  rw [z1] at g2
  rw [z5]
  exact ⟨⟨_, g6, rfl⟩, h _ g6 g4 g5 (itObj_at g1) (itObj_at g2) fun c o x =>
    Heap.get?_push_of_some _ (Heap.get?_push_of_some _ (Heap.get?_push_of_some _ (Heap.get?_push_of_some _ (Heap.get?_push_of_some _ x))))⟩
def iZip2 (K : PySem.W.Frag) (ta : TA) : TI := fun σ H R => ta σ H fun vs H1 => ∃ (x y : Src) (xs ys : List V), vs = [.ref x.a, .ref y.a] ∧ SqX K H1 x xs ∧ SqX K H1 y ys ∧ R (ItN K [x, y]) H1
theorem pi_zip2 {X : Cx} {e e2 : Expr} {ta : TA} {p pos tpos : Pos} {elts : List Expr} {kk : Nat} (hg : Gl X "zip") (hm : X.mg "zip" = none) (ha : PA X [e, e2] ta)
    (hs : starEach [e, e2] X.env = (false, eval e X.env) :: starEach [e2] X.env := by rfl) (hpl : (backTo pos (starEach [e2] X.env)).any (·.1) = false := by rfl) :
    PI X (.Tuple elts kk tpos) (.Call (.Name "zip" p) [e, e2] [] pos) (iZip2 X.K ta) := by
  refine ⟨fun pins s σ H R I h => ?_⟩
  refine Call_ (ld_blt I hg hm PyProof.Rows.boot_zip (PyProof.Rows.callWith_type1 (thn (ha.run pos pins s σ H _ I h) fun us s1 ⟨vs, H1, I1, r1, q1⟩ => ?_) hs hpl))
  obtain ⟨x, y, xs, ys, ex, qx, qy, q⟩ := q1
  subst ex
  cases r1 with
  | cons r rr =>
    cases rr with
    | cons r' rr =>
      cases rr
      cases r
      cases r'
      obtain ⟨its, _, p1⟩ := sq_get I1 qx
      obtain ⟨its2, _, p2⟩ := sq_get I1 qy
      refine call2 p1 p2 fun h' hz hTI hTO i1 i2 hk => wpAny_pyIter_zip hz ?_
      have I2 : Inv X pins σ H1 { s1 with heap := h' } := I1.kept (t' := s1.toks) hk
      refine ⟨s1.heap.objs.size + 4, [s1.heap.objs.size + 4, s1.heap.objs.size + 2, s1.heap.objs.size + 3, s1.heap.objs.size, s1.heap.objs.size + 1], _, _, H1, rfl, I2,
        turnN (apart2 s1.heap.objs.size p1.lt p2.lt) rfl (fun q => nomatch q) (by show 2 ≤ 1000; decide), ⟨hz, hTI, ⟨_, rfl, hTO⟩, fun j b u e1 e2 => ?_⟩, fun c hcm => ?_, q⟩
      · match j, e1, e2 with
        | 0, e1, e2 => cases e1; cases e2; exact i1
        | 1, e1, e2 => cases e1; cases e2; exact i2
        | n + 2, e1, _ => cases e1
      · have hle : s1.heap.objs.size ≤ c := by
          simp only [List.mem_cons, List.not_mem_nil, or_false] at hcm
          rcases hcm with z | z | z | z | z <;> rw [z] <;> first | exact Nat.le_refl _ | exact Nat.le_add_right _ _
        exact I1.fpOk hle (I1.hok.fresh hle)
theorem walk2 {K : PySem.W.Frag} {x y : Src} {xs ys : List V} (h1 : ys.length = xs.length) : Walk (ItN K [x, y]) xs.length (fun H => SqX K H x xs ∧ SqX K H y ys) (YPair (fun i => xs[i]?) (fun i => ys[i]?)) where
  goes := fun i H hi g j u e => by
    match j, e with
    | 0, e => cases e; exact ⟨xs, _, g.1, List.getElem?_eq_getElem hi⟩
    | 1, e => cases e; exact ⟨ys, _, g.2, List.getElem?_eq_getElem (by omega)⟩
    | n + 2, e => cases e
  stops := fun H g => by
    refine ⟨fun j u e => ?_, 0, x, xs, rfl, g.1, Nat.le_refl _⟩
    match j, e with
    | 0, e => cases e; exact ⟨xs, g.1⟩
    | 1, e => cases e; exact ⟨ys, g.2⟩
    | n + 2, e => cases e
  yields := fun i H v H' hi g q => by
    obtain ⟨T, vs, rfl, nT, rfl, lv, hv⟩ := q
    obtain ⟨a, a1, a2⟩ := hv 0 x xs rfl g.1
    obtain ⟨b, b1, b2⟩ := hv 1 y ys rfl g.2
    refine ⟨T, a, b, rfl, nT, ?_, a1, b1⟩
    match vs, lv with
    | [u, v], _ =>
      cases a2
      cases b2
      rfl
end ZN

namespace TP
open PySem PySem.Spec PyProof.Rows L2 ZN
/-! ### zip of two or three, lists and tuples -/
theorem walk2m {K : PySem.W.Frag} {x y : Src} {xs ys : List V} : Walk (ItN K [x, y]) (min xs.length ys.length) (fun H => SqX K H x xs ∧ SqX K H y ys) (YPair (fun i => xs[i]?) (fun i => ys[i]?)) where
  goes := fun i H hi g j u e => by
    match j, e with
    | 0, e => cases e; exact ⟨xs, _, g.1, List.getElem?_eq_getElem (by omega)⟩
    | 1, e => cases e; exact ⟨ys, _, g.2, List.getElem?_eq_getElem (by omega)⟩
    | n + 2, e => cases e
  stops := fun H g => by
    refine ⟨fun j u e => ?_, ?_⟩
    · match j, e with
      | 0, e => cases e; exact ⟨xs, g.1⟩
      | 1, e => cases e; exact ⟨ys, g.2⟩
      | n + 2, e => cases e
    · by_cases q : xs.length ≤ ys.length
      · exact ⟨0, x, xs, rfl, g.1, by omega⟩
      · exact ⟨1, y, ys, rfl, g.2, by omega⟩
  yields := fun i H v H' hi g q => by
    obtain ⟨T, vs, rfl, nT, rfl, lv, hv⟩ := q
    obtain ⟨a, a1, a2⟩ := hv 0 x xs rfl g.1
    obtain ⟨b, b1, b2⟩ := hv 1 y ys rfl g.2
    refine ⟨T, a, b, rfl, nT, ?_, a1, b1⟩
    match vs, lv with
    | [u, v], _ =>
      cases a2
      cases b2
      rfl
theorem walk3m {K : PySem.W.Frag} {x y z : Src} {xs ys zs : List V} : Walk (ItN K [x, y, z]) (min xs.length (min ys.length zs.length)) (fun H => SqX K H x xs ∧ SqX K H y ys ∧ SqX K H z zs) (Y3 xs ys zs) where
  goes := fun i H hi g j u e => by
    match j, e with
    | 0, e => cases e; exact ⟨xs, _, g.1, List.getElem?_eq_getElem (by omega)⟩
    | 1, e => cases e; exact ⟨ys, _, g.2.1, List.getElem?_eq_getElem (by omega)⟩
    | 2, e => cases e; exact ⟨zs, _, g.2.2, List.getElem?_eq_getElem (by omega)⟩
    | n + 3, e => cases e
  stops := fun H g => by
    refine ⟨fun j u e => ?_, ?_⟩
    · match j, e with
      | 0, e => cases e; exact ⟨xs, g.1⟩
      | 1, e => cases e; exact ⟨ys, g.2.1⟩
      | 2, e => cases e; exact ⟨zs, g.2.2⟩
      | n + 3, e => cases e
    · by_cases q : xs.length ≤ min ys.length zs.length
      · exact ⟨0, x, xs, rfl, g.1, by omega⟩
      · by_cases q2 : ys.length ≤ zs.length
        · exact ⟨1, y, ys, rfl, g.2.1, by omega⟩
        · exact ⟨2, z, zs, rfl, g.2.2, by omega⟩
  yields := fun i H v H' hi g q => by
    obtain ⟨T, vs, rfl, nT, rfl, lv, hv⟩ := q
    obtain ⟨a, a1, a2⟩ := hv 0 x xs rfl g.1
    obtain ⟨b, b1, b2⟩ := hv 1 y ys rfl g.2.1
    obtain ⟨c, c1, c2⟩ := hv 2 z zs rfl g.2.2
    refine ⟨T, a, b, c, rfl, nT, ?_, a1, b1, c1⟩
    match vs, lv with
    | [u, v, w], _ =>
      cases a2
      cases b2
      cases c2
      rfl
/-- what is walked by zip -/
def SrcOf (K : PySem.W.Frag) {α : Type} (τs : Ty (List α)) (τ : Ty α) : Prop := ∀ Z v xs, τs.r Z v xs → ∃ (x : Src) (vs : List V), v = .ref x.a ∧ (∀ H, Same Z H → SqX K H x vs) ∧ All (τ.r Z) vs xs ∧ xs.length ≤ sizeLine
section
variable {K : PySem.W.Frag} {α β γ : Type} {τ : Ty α} {υ : Ty β} {φ : Ty γ}
theorem src_list : SrcOf K (yList τ) τ := fun Z v xs ⟨a, vs, e, h, t, l⟩ => ⟨⟨a, false⟩, vs, e, fun H s => SqL.of (s _ _ h), t, l⟩
theorem src_tup : SrcOf K (yTup K τ) τ := fun Z v xs ⟨a, vs, e, h, t, l⟩ => ⟨⟨a, true⟩, vs, e, fun H s => seqT_same s h, t, l⟩
theorem src_seq : SrcOf K (ySeq K τ) τ := fun Z v xs ⟨a, vs, e, h, t, l⟩ => by
  rcases h with h | h
  · exact ⟨⟨a, false⟩, vs, e, fun H s => SqL.of (s _ _ h), t, l⟩
  · exact ⟨⟨a, true⟩, vs, e, fun H s => seqT_same s h, t, l⟩
section
variable {μ : Type} {M : Mu μ} {σ : L2.St} {Z H : Hp} {s s1 s2 s3 : μ} {t : TA} {τs : Ty (List α)} {υs : Ty (List β)} {φs : Ty (List γ)} {xs : List α} {ys : List β} {zs : List γ} {X : Hp → Hp → Prop}
theorem ei_zip2 (f : SrcOf K τs τ) (g : SrcOf K υs υ) (ha : EvA M t σ Z H s (rac (ty τs xs) (rac (ty υs ys) ra0)) s1) : EvI M X (iZip2 K t) σ Z H s (yP2 K τ υ) (xs.zip ys) s1 :=
  fun Z1 H1 a b c d R q => ha Z1 H1 a b c d _ fun us Z2 H2 e m ⟨v, r, e1, h1, w, r2, e2, h2, e3⟩ => by
    cases e3; cases e2; cases e1
    obtain ⟨x, vs, rfl, hx, tx, lx⟩ := f _ _ _ h1
    obtain ⟨y, ws, rfl, hy, ty, ly⟩ := g _ _ _ h2
    exact ⟨x, y, vs, ws, rfl, hx _ e.s, hy _ e.s, q _ Z2 H2 e m (walk_pairs _ rfl walk2m (fun Z' H' z sz _ => ⟨hx _ (z.trans sz), hy _ (z.trans sz)⟩) tx ty (by rw [tx.len]; exact lx))⟩
theorem ei_zip3 (f : SrcOf K τs τ) (g : SrcOf K υs υ) (k : SrcOf K φs φ) (ha : EvA M t σ Z H s (rac (ty τs xs) (rac (ty υs ys) (rac (ty φs zs) ra0))) s1) : EvI M X (iZip3 K t) σ Z H s (yP3 K τ υ φ) (xs.zip (ys.zip zs)) s1 :=
  fun Z1 H1 a b c d R q => ha Z1 H1 a b c d _ fun us Z2 H2 e m ⟨v, r, e1, h1, w, r2, e2, h2, u, r3, e3, h3, e4⟩ => by
    cases e4; cases e3; cases e2; cases e1
    obtain ⟨x, vs, rfl, hx, tx, lx⟩ := f _ _ _ h1
    obtain ⟨y, ws, rfl, hy, ty, ly⟩ := g _ _ _ h2
    obtain ⟨z, us, rfl, hz, tz, lz⟩ := k _ _ _ h3
    refine ⟨x, y, z, vs, ws, us, rfl, hx _ e.s, hy _ e.s, hz _ e.s, q _ Z2 H2 e m ?_⟩
    have ln : (xs.zip (ys.zip zs)).length = min vs.length (min ws.length us.length) := by rw [List.length_zip, List.length_zip, tx.len, ty.len, tz.len]
    refine ⟨by rw [ln, tx.len]; omega, fun H => SqX K H x vs ∧ SqX K H y ws ∧ SqX K H z us, Y3 vs ws us, by rw [ln]; exact walk3m, fun Z' H' zz sz _ => ⟨hx _ (zz.trans sz), hy _ (zz.trans sz), hz _ (zz.trans sz)⟩, fun i Z' H' v H'' hi zz sz _ yy => ?_⟩
    obtain ⟨T, v1, v2, v3, rfl, nT, rfl, g1, g2, g3⟩ := yy
    obtain ⟨x1, ex1, rx1⟩ := tx.get g1
    obtain ⟨x2, ex2, rx2⟩ := ty.get g2
    obtain ⟨x3, ex3, rx3⟩ := tz.get g3
    have st : Step [] Z' H' (upd Z' T (.tup [v1, v2, v3])) (upd H' T (.tup [v1, v2, v3])) := Step.new sz nT
    refine ⟨upd Z' T (.tup [v1, v2, v3]), (x1, x2, x3), ?_, st, T, v1, v2, v3, rfl, sqT_new, τ.mono (zz.trans st.z) rx1, υ.mono (zz.trans st.z) rx2, φ.mono (zz.trans st.z) rx3⟩
    rw [List.getElem?_zip_eq_some]
    exact ⟨ex1, by rw [List.getElem?_zip_eq_some]; exact ⟨ex2, ex3⟩⟩
end
end
section
variable {μ : Type} {M : Mu μ} {σ : L2.St} {Z H : Hp} {s s1 s2 : μ} {ta tb : TE} {K : PySem.W.Frag}
/-- int of a flag -/
theorem ev_int_bl {b : Bool} (ha : Ev M ta σ Z H s (ty yBool b) s1) : Ev M (tCB (fun xs H Q => (∃ i, xs = [.int i] ∧ Q (.int i) H) ∨ ∃ k, xs = [.bl k] ∧ Q (.int (if k then 1 else 0)) H) (tCons ta tNil)) σ Z H s (ty yInt (if b = true then 1 else 0)) s1 :=
  ev_cb (eva_cons ha eva_nil) fun _ _ vs sz ⟨v, r, e, h, e2⟩ Q q => .inr ⟨b, by rw [e, show v = .bl b from h, show r = [] from e2], q _ _ _ (Step.refl sz) rfl⟩
/-- the text of a number -/
def strI (i : Int) : Str := Str.ofString (toString i)
theorem strOk_of (s : String) : PyData.strOk (Str.ofString s) = true := by
  rw [Str.ofString_eq_toList]
  unfold PyData.strOk
  rw [Array.all_eq_true_iff_forall_mem]
  intro x hx
  simp only [List.mem_toArray, List.mem_map] at hx
  obtain ⟨c, _, rfl⟩ := hx
  have := c.valid
  refine decide_eq_true ?_
  show c.val.toNat < 0x110000
  rcases this with h | ⟨_, h⟩
  · have : c.val.toNat < 0xd800 := h
    omega
  · exact h
def StrIOk (i : Int) : Prop := i.natAbs.log2 < 1920 ∧ (strI i).length ≤ 16777216
instance {i : Int} : Decidable (StrIOk i) := inferInstanceAs (Decidable (_ ∧ _))
theorem ev_str_int {i : Int} (ha : Ev M ta σ Z H s (ty yInt i) s1) (h : StrIOk i) : Ev M (tCB (fun xs H Q => ∃ i, xs = [.int i] ∧ i.natAbs.log2 < 1920 ∧ Q (.str (toString i)) H) (tCons ta tNil)) σ Z H s (ty yStr (strI i)) s1 :=
  ev_cb (eva_cons ha eva_nil) fun _ _ vs sz ⟨v, r, e, h1, e2⟩ Q q => ⟨i, by rw [e, show v = .int i from h1, show r = [] from e2], h.1, q _ _ _ (Step.refl sz) ⟨rfl, by
    unfold okS
    rw [Bool.and_eq_true]
    exact ⟨strOk_of _, decide_eq_true h.2⟩⟩⟩
theorem strIOk_of {i : Int} (h0 : 0 ≤ i) (h : i < 10 ^ 100) : StrIOk i := by
  refine ⟨?_, Nat.le_trans (toString_length_le (k := 100) h0 (by decide) h) (by decide)⟩
  by_cases q : i = 0
  · subst q; decide
  · have : i.natAbs < 2 ^ 1920 := by
      have h2 : i.natAbs < 10 ^ 100 := by
        have e : ((10 : Int) ^ 100) = ((10 ^ 100 : Nat) : Int) := by decide
        rw [e] at h
        omega
      exact Nat.lt_trans h2 (by decide)
    exact (Nat.log2_lt (by omega)).mpr this
end
end TP

namespace TP
open PySem PySem.Spec PyProof.Rows L2
/-! ### < of values of one kind: integers, texts, flags -/
def SameK (x y : V) : Prop := (∃ i j : Int, x = .int i ∧ y = .int j) ∨ (∃ i j : Str, x = .str i ∧ y = .str j) ∨ (∃ i j : Bool, x = .bl i ∧ y = .bl j)
def ltV : V → V → Bool
  | .int a, .int b => decide (a < b)
  | .str a, .str b => decide (a.cps.toList < b.cps.toList)
  | .bl a, .bl b => decide (b2i a < b2i b)
  | _, _ => false
def rCmpV (f : V → V → Bool) : R2 := fun x y H Q => SameK x y ∧ Q (.bl (f x y)) H
theorem vnlt {a b : Int} : (decide (a ≤ b)) = !decide (b < a) := by
  by_cases h : a ≤ b
  · rw [decide_eq_true h, decide_eq_false (by omega)]; rfl
  · rw [decide_eq_false h, decide_eq_true (by omega)]; rfl
section
variable {X : Cx}
theorem op_ltV : OpR X (compareOp .Lt) (rCmpV ltV) := by
  intro pins s σ H x y v u Q I rx ry h
  obtain ⟨⟨i, j, rfl, rfl⟩ | ⟨i, j, rfl, rfl⟩ | ⟨i, j, rfl, rfl⟩, q⟩ := h
  · obtain ⟨t, rfl⟩ := rx
    obtain ⟨t', rfl⟩ := ry
    exact lt_int (fin_bl I q rfl)
  · obtain ⟨t, rfl⟩ := rx
    obtain ⟨t', rfl⟩ := ry
    exact lt_str (fin_bl I q rfl)
  · cases rx
    cases ry
    exact lt_bool (fin_bl I q rfl)
theorem op_gtV : OpR X (compareOp .Gt) (rCmpV fun x y => ltV y x) := by
  intro pins s σ H x y v u Q I rx ry h
  obtain ⟨⟨i, j, rfl, rfl⟩ | ⟨i, j, rfl, rfl⟩ | ⟨i, j, rfl, rfl⟩, q⟩ := h
  · obtain ⟨t, rfl⟩ := rx
    obtain ⟨t', rfl⟩ := ry
    exact gt_int (fin_bl I q rfl)
  · obtain ⟨t, rfl⟩ := rx
    obtain ⟨t', rfl⟩ := ry
    exact PySem.P.gt_str (fin_bl I q rfl)
  · cases rx
    cases ry
    exact gt_bool (fin_bl I q rfl)
theorem op_leV : OpR X (compareOp .LtE) (rCmpV fun x y => !ltV y x) := by
  intro pins s σ H x y v u Q I rx ry h
  obtain ⟨⟨i, j, rfl, rfl⟩ | ⟨i, j, rfl, rfl⟩ | ⟨i, j, rfl, rfl⟩, q⟩ := h
  · obtain ⟨t, rfl⟩ := rx
    obtain ⟨t', rfl⟩ := ry
    exact le_int (fin_bl I q vnlt.symm)
  · exact op_le_str pins s σ H _ _ v u Q I rx ry ⟨_, _, rfl, rfl, q⟩
  · cases rx
    cases ry
    exact le_bool (fin_bl I q vnlt.symm)
theorem op_geV : OpR X (compareOp .GtE) (rCmpV fun x y => !ltV x y) := by
  intro pins s σ H x y v u Q I rx ry h
  obtain ⟨⟨i, j, rfl, rfl⟩ | ⟨i, j, rfl, rfl⟩ | ⟨i, j, rfl, rfl⟩, q⟩ := h
  · obtain ⟨t, rfl⟩ := rx
    obtain ⟨t', rfl⟩ := ry
    exact ge_int (fin_bl I q vnlt.symm)
  · obtain ⟨t, rfl⟩ := rx
    obtain ⟨t', rfl⟩ := ry
    exact PySem.P.ge_str (fin_bl I q rfl)
  · cases rx
    cases ry
    exact ge_bool (fin_bl I q vnlt.symm)
end
section
variable {μ : Type} {M : Mu μ} {σ : L2.St} {Z H : Hp} {s s1 s2 : μ} {ta tb : TE}
/-- the rows of a sum of values: to what they are in the program -/
theorem ev_cmpV {α : Type} {τ : Ty α} {toV : α → V} {f : V → V → Bool} {x y : α} (ht : ∀ Z v x, τ.r Z v x → v = toV x) (k : SameK (toV x) (toV y)) (ha : Ev M ta σ Z H s (ty τ x) s1) (hb : Ev M tb σ Z H s1 (ty τ y) s2) : Ev M (tOp (rCmpV f) ta tb) σ Z H s (ty yBool (f (toV x) (toV y))) s2 :=
  ev_op ha hb fun _ _ _ _ sz e1 e2 _ q => by
    rw [ht _ _ _ e1, ht _ _ _ e2]
    exact ⟨k, q _ _ _ (Step.refl sz) rfl⟩
def sameB : V → V → Bool
  | .int _, .int _ => true
  | .str _, .str _ => true
  | .bl _, .bl _ => true
  | _, _ => false
theorem sameB_of {x y : V} (h : sameB x y = true) : SameK x y := by
  cases x <;> cases y <;> first | exact .inl ⟨_, _, rfl, rfl⟩ | exact .inr (.inl ⟨_, _, rfl, rfl⟩) | exact .inr (.inr ⟨_, _, rfl, rfl⟩) | exact absurd h (by simp [sameB])
end
end TP

namespace K29
open PySem PySem.Spec PyProof.Rows L2
open C8 (tCut pss_cut)
theorem exm_any {K : PySem.W.Frag} {a b : Value} {v : Bool} (h1 : PySem.W.subIn K b (.type "BaseException") = some true) (h2 : ∀ c, b = .ref c → PySem.W.isClsIn K c = true) (h3 : PySem.W.typeIn K b = some (.type "type")) (h4 : PySem.W.subIn K a b = some v) (h5 : ∃ c, b = .ref c) : PySem.W.exmOne K a b = some v := by
  obtain ⟨c, rfl⟩ := h5
  have g := h2 c rfl
  have e1 : (PySem.W.subIn K (.ref c) (.type "BaseException") == some true) = true := by rw [h1]; rfl
  have e2 : ((PySem.W.clsIn K c).isSome && PySem.W.typeIn K (.ref c) == some (.type "type")) = true := by
    have g' : (PySem.W.clsIn K c).isSome = true := g
    rw [g', h3]; rfl
  unfold PySem.W.exmOne PySem.W.kitCls
  simp only [e1, e2, h4, if_true]
/-! the text by places -/
def topS (i : Nat) : Stmt := PySem.Challenge.pw_surenear_k29_blocks.main.body.getD i (.Pass ⟨0, 0, 0, 0⟩)
abbrev s_law_row : Stmt := (topS 34)
abbrev s_law_next : Stmt := (topS 35)
abbrev s_check_least : Stmt := (topS 12)
abbrev s_Blocks___init__ : Stmt := (inClass (topS 10) 0)
abbrev s_SortedBlocks___init__ : Stmt := (inClass (topS 11) 0)
abbrev s_law_made : Stmt := (topS 37)
abbrev s_is_letter : Stmt := (topS 19)
abbrev s_is_digit : Stmt := (topS 20)
abbrev s_is_word : Stmt := (topS 21)
abbrev s_check_vectors : Stmt := (topS 28)
abbrev s_check_fields : Stmt := (topS 29)
abbrev s_Schema___init__ : Stmt := (inClass (topS 27) 0)
abbrev s_law_shown : Stmt := (topS 36)
abbrev s_law_due : Stmt := (topS 38)
abbrev s_Record___init__ : Stmt := (inClass (topS 16) 0)
abbrev s_Layout___init__ : Stmt := (inClass (topS 3) 0)
abbrev s_Sketch___init__ : Stmt := (inClass (topS 2) 0)
abbrev s_block_layout : Stmt := (topS 4)
abbrev s_Blocks_layout : Stmt := (inClass (topS 10) 1)
abbrev s_Record_value : Stmt := (inClass (topS 16) 1)
abbrev s_SortedBlocks_layout : Stmt := (inClass (topS 11) 1)
abbrev s_law : Stmt := (topS 39)
theorem sc_law_row : FnScope ["script", "k", "cell", "a", "b", "c"] ["script", "k"] (defScope s_law_row) := ⟨rfl, rfl, rfl, by decide +kernel, rfl, by decide +kernel, by decide +kernel⟩
theorem sc_law_next : FnScope ["state", "many", "drawn"] ["state", "many"] (defScope s_law_next) := ⟨rfl, rfl, rfl, by decide +kernel, rfl, by decide +kernel, by decide +kernel⟩
theorem sc_check_least : FnScope ["least", "number"] ["least", "number"] (defScope s_check_least) := ⟨rfl, rfl, rfl, by decide +kernel, rfl, by decide +kernel, by decide +kernel⟩
theorem sc_Blocks___init__ : FnScope ["self", "size"] ["self", "size"] (defScope s_Blocks___init__) := ⟨rfl, rfl, rfl, by decide +kernel, rfl, by decide +kernel, by decide +kernel⟩
theorem sc_SortedBlocks___init__ : FnScope ["self", "field", "size"] ["self", "field", "size"] (defScope s_SortedBlocks___init__) := ⟨rfl, rfl, rfl, by decide +kernel, rfl, by decide +kernel, by decide +kernel⟩
theorem sc_law_made : FnScope ["sort", "size"] ["sort", "size"] (defScope s_law_made) := ⟨rfl, rfl, rfl, by decide +kernel, rfl, by decide +kernel, by decide +kernel⟩
theorem sc_is_letter : FnScope ["char"] ["char"] (defScope s_is_letter) := ⟨rfl, rfl, rfl, by decide +kernel, rfl, by decide +kernel, by decide +kernel⟩
theorem sc_is_digit : FnScope ["char"] ["char"] (defScope s_is_digit) := ⟨rfl, rfl, rfl, by decide +kernel, rfl, by decide +kernel, by decide +kernel⟩
theorem sc_is_word : FnScope ["text", "char"] ["text"] (defScope s_is_word) := ⟨rfl, rfl, rfl, by decide +kernel, rfl, by decide +kernel, by decide +kernel⟩
theorem sc_check_vectors : FnScope ["size", "width", "measure"] ["size", "width", "measure"] (defScope s_check_vectors) := ⟨rfl, rfl, rfl, by decide +kernel, rfl, by decide +kernel, by decide +kernel⟩
theorem sc_check_fields : FnScope ["fields", "name", "kind", "_"] ["fields"] (defScope s_check_fields) := ⟨rfl, rfl, rfl, by decide +kernel, rfl, by decide +kernel, by decide +kernel⟩
theorem sc_Schema___init__ : FnScope ["self", "size", "width", "measure", "fields", "pair"] ["self", "size", "width", "measure", "fields"] (defScope s_Schema___init__) := ⟨rfl, rfl, rfl, by decide +kernel, rfl, by decide +kernel, by decide +kernel⟩
theorem sc_law_shown : FnScope ["layout", "shown", "sketch", "centres", "start", "centre", "cells", "near", "rival"] ["layout"] (defScope s_law_shown) := ⟨rfl, rfl, rfl, by decide +kernel, rfl, by decide +kernel, by decide +kernel⟩
theorem sc_law_due : FnScope ["order", "size", "leaves", "place", "k", "many"] ["order", "size"] (defScope s_law_due) := ⟨rfl, rfl, rfl, by decide +kernel, rfl, by decide +kernel, by decide +kernel⟩
theorem sc_Record___init__ : FnScope ["self", "name", "vector", "fields", "words", "pair"] ["self", "name", "vector", "fields", "words"] (defScope s_Record___init__) := ⟨rfl, rfl, rfl, by decide +kernel, rfl, by decide +kernel, by decide +kernel⟩
theorem sc_Layout___init__ : FnScope ["self", "sketches", "leaves"] ["self", "sketches", "leaves"] (defScope s_Layout___init__) := ⟨rfl, rfl, rfl, by decide +kernel, rfl, by decide +kernel, by decide +kernel⟩
theorem sc_Sketch___init__ : FnScope ["self", "parent", "centres", "cells", "start", "centre", "near", "rival"] ["self", "parent", "centres", "cells"] (defScope s_Sketch___init__) := ⟨rfl, rfl, rfl, by decide +kernel, rfl, by decide +kernel, by decide +kernel⟩
theorem sc_block_layout : FnScope ["order", "size", "leaves", "turn", "place", "many", "_"] ["order", "size"] (defScope s_block_layout) := ⟨rfl, rfl, rfl, by decide +kernel, rfl, by decide +kernel, by decide +kernel⟩
theorem sc_Blocks_layout : FnScope ["self", "schema", "records"] ["self", "schema", "records"] (defScope s_Blocks_layout) := ⟨rfl, rfl, rfl, by decide +kernel, rfl, by decide +kernel, by decide +kernel⟩
theorem sc_Record_value : FnScope ["self", "name", "known", "worth"] ["self", "name"] (defScope s_Record_value) := ⟨rfl, rfl, rfl, by decide +kernel, rfl, by decide +kernel, by decide +kernel⟩
theorem sc_SortedBlocks_layout : FnScope ["self", "schema", "records", "values", "record", "having", "place", "worth", "lacking"] ["self", "schema", "records"] (defScope s_SortedBlocks_layout) := ⟨rfl, rfl, rfl, by decide +kernel, rfl, by decide +kernel, by decide +kernel⟩
theorem sc_law : FnScope ["script", "state", "kind", "worths", "k", "worth", "records", "fields", "size", "plain", "sort", "schema", "present", "at", "j", "order"] ["script"] (defScope s_law) := ⟨rfl, rfl, rfl, by decide +kernel, rfl, by decide +kernel, by decide +kernel⟩
/-! the mathematics -/
open TP

theorem getD_lt {ns : List Int} {k : Nat} (h : k < ns.length) : ns[k]? = some (ns.getD k 0) := by
  rw [List.getD_eq_getElem?_getD, List.getElem?_eq_getElem h]; rfl
theorem getD_ge {ns : List Int} {k : Nat} (h : ¬ k < ns.length) : ns.getD k 0 = 0 := by
  rw [List.getD_eq_getElem?_getD, List.getElem?_eq_none (by omega)]; rfl
def row1 (ns : List Int) (k : Nat) : Int := if ns.getD k 0 < 0 then -2 * ns.getD k 0 - 1 else ns.getD k 0
def rowA (c : Int) (k : Nat) : Int := (c * 48271 + k * 69621 + 11) % 2147483647
def rowB (a c : Int) (k : Nat) : Int := (a * 16807 + c * 7 + k + 5) % 2147483629
def rowC (a b : Int) : Int := (b * 39373 + a * b + 3) % 2147483587
theorem rowZ_hi {ns : List Int} {k : Nat} (h : ¬ row1 ns k < 10 ^ 9) : rowZ ns k = row1 ns k := by
  unfold rowZ
  exact if_neg h
theorem rowZ_lo {ns : List Int} {k : Nat} (h : row1 ns k < 10 ^ 9) : rowZ ns k = rowA (row1 ns k) k + rowB (rowA (row1 ns k) k) (row1 ns k) k * 2147483647 + rowC (rowA (row1 ns k) k) (rowB (rowA (row1 ns k) k) (row1 ns k) k) * 2147483647 ^ 2 := by
  unfold rowZ
  exact if_pos h
theorem row1_nn (ns : List Int) (k : Nat) : 0 ≤ row1 ns k := by
  unfold row1
  by_cases h : ns.getD k 0 < 0
  · rw [if_pos h]; omega
  · rw [if_neg h]; omega
theorem rowZ_nn (ns : List Int) (k : Nat) : 0 ≤ rowZ ns k := by
  by_cases h : row1 ns k < 10 ^ 9
  · rw [rowZ_lo h]
    have a0 : 0 ≤ rowA (row1 ns k) k := Int.emod_nonneg _ (by decide)
    have b0 : 0 ≤ rowB (rowA (row1 ns k) k) (row1 ns k) k := Int.emod_nonneg _ (by decide)
    have d0 : 0 ≤ rowC (rowA (row1 ns k) k) (rowB (rowA (row1 ns k) k) (row1 ns k) k) := Int.emod_nonneg _ (by decide)
    have e2 : (2147483647 : Int) ^ 2 = 4611686014132420609 := by decide
    rw [e2]
    omega
  · rw [rowZ_hi h]; exact row1_nn ns k

inductive Exc
  | InvalidSchema
  | InvalidRule
deriving DecidableEq

abbrev lq_SortedBlocks_layout : Str := ("SortedBlocks.layout" : Str) ++ ".<locals>." ++ "<lambda>"
inductive Val
  | i (x : Int)
  | t (x : Str)
  | b (x : Bool)
deriving DecidableEq
def Val.p_i : Val → Option Int
  | .i x => some x
  | _ => none
def Val.p_t : Val → Option Str
  | .t x => some x
  | _ => none
def Val.p_b : Val → Option Bool
  | .b x => some x
  | _ => none
def d_Val : Val → PyData
  | .i x => PyData.int x
  | .t x => PyData.str x
  | .b x => PyData.bool x
def Val.toV : Val → V
  | .i x => V.int x
  | .t x => V.str x
  | .b x => V.bl x
structure Record where
  name : Str
  vector : (List Int)
  fields : (List (Str × Val))
  words : (List (Str × Int))
deriving DecidableEq
structure Sketch where
  parent : (Option Int)
  centres : (List (Int × (List Int)))
  cells : (List ((List Int) × (List Int)))
deriving DecidableEq
structure Layout where
  sketches : (List Sketch)
  leaves : (List Int)
deriving DecidableEq
structure Blocks where
  size : Int
deriving DecidableEq
structure SortedBlocks where
  field : Str
  size : Int
deriving DecidableEq
structure Schema where
  size : Int
  width : Str
  measure : Str
  fields : (List (Str × Str))
deriving DecidableEq
inductive Lay
  | s (x : SortedBlocks)
  | p (x : Blocks)
deriving DecidableEq
def Lay.p_s : Lay → Option SortedBlocks
  | .s x => some x
  | _ => none
def Lay.p_p : Lay → Option Blocks
  | .p x => some x
  | _ => none
def in_WIDTHS (z : Str) : Option Bool :=
  if z = "bit" then some true else
  if z = "small" then some true else
  if z = "wide" then some true else none


def F_check_least (x_least : Int) (x_number : Int) : Option (Res Exc Unit) :=
  if (decide (x_number < x_least)) = true then
  some (Res.er Exc.InvalidRule)
  else
  some (Res.ok ())
def F_Blocks___init__ (x_size : Int) : Option (Res Exc Blocks) :=
  (F_check_least (1 : Int) x_size).bind (Res.thn (fun e => some (Res.er e)) fun r_2 =>
  some (Res.ok (⟨x_size⟩ : Blocks)))
def F_SortedBlocks___init__ (x_field : Str) (x_size : Int) : Option (Res Exc SortedBlocks) :=
  (F_check_least (1 : Int) x_size).bind (Res.thn (fun e => some (Res.er e)) fun r_8 =>
  some (Res.ok (⟨x_field, x_size⟩ : SortedBlocks)))
def F_law_made (x_sort : Bool) (x_size : Int) : Option (Option Lay) :=
  if x_sort = true then
  (F_SortedBlocks___init__ ("n" : Str) x_size).bind (Res.thn (fun e => (match e with
    | .InvalidSchema =>
        none
    | .InvalidRule =>
        some none)) fun r_17 =>
  some (some (Lay.s r_17)))
  else
  (F_Blocks___init__ x_size).bind (Res.thn (fun e => (match e with
    | .InvalidSchema =>
        none
    | .InvalidRule =>
        some none)) fun r_21 =>
  some (some (Lay.p r_21)))
def F_is_letter (x_char : Str) : Bool :=
  (((!decide (x_char.cps.toList < ("a" : Str).cps.toList)) && (!decide (("z" : Str).cps.toList < x_char.cps.toList))) || (((!decide (x_char.cps.toList < ("A" : Str).cps.toList)) && (!decide (("Z" : Str).cps.toList < x_char.cps.toList))) || (decide (x_char = ("_" : Str)))))
def F_is_digit (x_char : Str) : Bool :=
  ((!decide (x_char.cps.toList < ("0" : Str).cps.toList)) && (!decide (("9" : Str).cps.toList < x_char.cps.toList)))
def F_is_word (x_text : Str) : Option Bool :=
  (if (decide (x_text = ("" : Str))) = true then some true else ((atSi x_text (0 : Int)).bind fun i_29 =>
  some (!(F_is_letter i_29)))).bind fun b_32 =>
  if b_32 = true then
  some false
  else
  some (((x_text.cps.toList.map fun c => (⟨#[c]⟩ : Str)).map (fun (x_34 : Str) => ((F_is_letter x_34) || (F_is_digit x_34)))).all id)
def F_check_vectors (x_size : Int) (x_width : Str) (x_measure : Str) : Option (Res Exc Unit) :=
  if (decide (x_size < (1 : Int))) = true then
  some (Res.er Exc.InvalidSchema)
  else
  (in_WIDTHS x_width).bind fun b_38 =>
  if (!b_38) = true then
  some (Res.er Exc.InvalidSchema)
  else
  if (!decide (x_measure ∈ (["square", "dot", "bits"] : List Str))) = true then
  some (Res.er Exc.InvalidSchema)
  else
  if ((decide (x_measure = ("bits" : Str))) && (!decide (x_width = ("bit" : Str)))) = true then
  some (Res.er Exc.InvalidSchema)
  else
  some (Res.ok ())
def L_check_fields_1 (x_44 : (Str × Str)) (w_43 : Unit) : Option (Flow (Res Exc Unit) Unit) :=
  (F_is_word x_44.1).bind fun r_67 =>
  if ((!r_67) || (decide (x_44.1 ∈ (["every", "has", "in", "and", "or", "not", "true", "false"] : List Str)))) = true then
  some (Flow.ret (Res.er Exc.InvalidSchema))
  else
  if (!decide (x_44.2 ∈ (["integer", "text", "flag"] : List Str))) = true then
  some (Flow.ret (Res.er Exc.InvalidSchema))
  else
  some (Flow.go ())
def F_check_fields (x_fields : (List (Str × Str))) : Option (Res Exc Unit) :=
  (forS L_check_fields_1 x_fields ()).bind (Flow.thn (fun w_54 =>
  if (x_fields.map (fun (x_73 : (Str × Str)) => x_73.1)).length ≤ 1000 then
  if (decide (((uZ (x_fields.map (fun (x_73 : (Str × Str)) => x_73.1))).length : Int) < (x_fields.length : Int))) = true then
  some (Res.er Exc.InvalidSchema)
  else
  some (Res.ok ()) else none) (fun r => some r))
def F_Schema___init__ (x_size : Int) (x_width : Str) (x_measure : Str) (x_fields : (List (Str × Str))) : Option (Res Exc Schema) :=
  (F_check_vectors x_size x_width x_measure).bind (Res.thn (fun e => some (Res.er e)) fun r_97 =>
  (F_check_fields x_fields).bind (Res.thn (fun e => some (Res.er e)) fun r_101 =>
  some (Res.ok (⟨x_size, x_width, x_measure, x_fields⟩ : Schema))))
def L_law_shown_1 (x_114 : Sketch) (w_113 : (List ((Option Int) × (List (Int × (List Int))) × (List ((List Int) × (List Int)))))) : Option (List ((Option Int) × (List (Int × (List Int))) × (List ((List Int) × (List Int))))) :=
  (some (x_114.centres.map (fun (x_142 : (Int × (List Int))) => (x_142.1, x_142.2)))).bind fun x_centres_150 =>
  (some (x_114.cells.map (fun (x_154 : ((List Int) × (List Int))) => (x_154.1, x_154.2)))).bind fun x_cells_162 =>
  if w_113.length < 16777216 then
  some (w_113 ++ [(x_114.parent, x_centres_150, x_cells_162)]) else none
def F_law_shown (x_layout : Layout) : Option ((List ((Option Int) × (List (Int × (List Int))) × (List ((List Int) × (List Int))))) × (List Int)) :=
  (some ([] : List ((Option Int) × (List (Int × (List Int))) × (List ((List Int) × (List Int)))))).bind fun x_shown_108 =>
  (forF L_law_shown_1 x_layout.sketches x_shown_108).bind fun w_129 =>
  some (w_129, x_layout.leaves)
def L_law_due_1 (x_order : (List Int)) (x_size : Int) (x_187 : Int) (w_186 : (List Int)) : Option (List Int) :=
  if CDiv x_187 x_size then
  (atI x_order x_187).bind fun i_208 =>
  (ixN w_186.length i_208).bind fun j_210 =>
  some (w_186.set j_210 (x_187 / x_size)) else none
def F_law_due (x_order : (List Int)) (x_size : Int) : Option ((List ((Option Int) × (List (Int × (List Int))) × (List ((List Int) × (List Int))))) × (List Int)) :=
  (some (x_order.map (fun (x_177 : Int) => (0 : Int)))).bind fun x_leaves_180 =>
  if RangeOk 0 (x_order.length : Int) then
  (forF (L_law_due_1 x_order x_size) (rangeZ 0 (x_order.length : Int)) x_leaves_180).bind fun w_198 =>
  (if (decide ((0 : Int) < (x_order.length : Int))) = true then
  if CDiv ((x_order.length : Int) - (1 : Int)) x_size then
  (some ((((x_order.length : Int) - (1 : Int)) / x_size) + (1 : Int))).bind fun x_many_229 =>
  some x_many_229 else none
  else
  some (0 : Int) : Option Int).bind fun w_219 =>
  if RangeOk 0 w_219 then
  some (((rangeZ 0 w_219).map (fun (x_235 : Int) => (none, ([] : List (Int × (List Int))), ([] : List ((List Int) × (List Int)))))), w_198) else none else none
def F_Record___init__ (x_name : Str) (x_vector : (List Int)) (x_fields : (List (Str × Val))) (x_words : (List (Str × Int))) : Record :=
  (⟨x_name, x_vector, x_fields, x_words⟩ : Record)
def F_Layout___init__ (x_sketches : (List Sketch)) (x_leaves : (List Int)) : Layout :=
  (⟨x_sketches, x_leaves⟩ : Layout)
def F_Sketch___init__ (x_parent : (Option Int)) (x_centres : (List (Int × (List Int)))) (x_cells : (List ((List Int) × (List Int)))) : Sketch :=
  (⟨x_parent, (x_centres.map (fun (x_272 : (Int × (List Int))) => (x_272.1, x_272.2))), (x_cells.map (fun (x_290 : ((List Int) × (List Int))) => (x_290.1, x_290.2)))⟩ : Sketch)
def L_block_layout_1 (x_size : Int) (x_311 : (Int × Int)) (w_310 : (List Int)) : Option (List Int) :=
  if CDiv x_311.1 x_size then
  (ixN w_310.length x_311.2).bind fun j_339 =>
  some (w_310.set j_339 (x_311.1 / x_size)) else none
def F_block_layout (x_order : (List Int)) (x_size : Int) : Option Layout :=
  if (-(2 ^ 63) ≤ (x_order.length : Int) ∧ (x_order.length : Int) < 2 ^ 63 ∧ ([(0 : Int)] : List Int).length * (x_order.length : Int).toNat ≤ 16777216) then
  (some (repZ ([(0 : Int)] : List Int) (x_order.length : Int))).bind fun x_leaves_305 =>
  (forF (L_block_layout_1 x_size) (enumZ x_order) x_leaves_305).bind fun w_323 =>
  if CDiv (((x_order.length : Int) + x_size) - (1 : Int)) x_size then
  (some ((((x_order.length : Int) + x_size) - (1 : Int)) / x_size)).bind fun x_many_345 =>
  if RangeOk 0 x_many_345 then
  some (F_Layout___init__ ((rangeZ 0 x_many_345).map (fun (x_351 : Int) => (F_Sketch___init__ none [] []))) w_323) else none else none else none
def F_Blocks_layout (ds : Unit) (x_self : Blocks) (x_schema : Schema) (x_records : (List Record)) : Option Layout :=
  if RangeOk 0 (x_records.length : Int) then
  (F_block_layout (rangeZ 0 (x_records.length : Int)) x_self.size).bind fun r_358 =>
  some r_358 else none
def L_Record_value_1 (x_name : Str) (x_361 : (Str × Val)) (w_360 : Unit) : Option (Flow (Option Val) Unit) :=
  if (decide (x_361.1 = x_name)) = true then
  some (Flow.ret (some x_361.2))
  else
  some (Flow.go ())
def F_Record_value (x_self : Record) (x_name : Str) : Option (Option Val) :=
  (forS (L_Record_value_1 x_name) x_self.fields ()).bind (Flow.thn (fun w_370 =>
  some none) (fun r => some r))
def F_SortedBlocks_layout (ds : Unit) (x_self : SortedBlocks) (x_schema : Schema) (x_records : (List Record)) : Option Layout :=
  (mapO (fun (x_394 : Record) => ((F_Record_value x_394 x_self.field).bind fun r_398 =>
  some r_398 : Option (Option Val))) x_records).bind fun l_400 =>
  (some (((enumZ l_400).filter (fun (x_404 : (Int × (Option Val))) => x_404.2.isSome)).map (fun (x_404 : (Int × (Option Val))) => x_404.1))).bind fun x_having_413 =>
  (some (((enumZ l_400).filter (fun (x_417 : (Int × (Option Val))) => x_417.2.isNone)).map (fun (x_417 : (Int × (Option Val))) => x_417.1))).bind fun x_lacking_426 =>
  if x_having_413.length ≤ 1000 then
  (mapO (fun (x_441 : Int) => ((atI l_400 x_441).bind fun i_445 =>
  (i_445).bind fun u_447 =>
  some u_447 : Option Val)) x_having_413).bind fun l_450 =>
  if KeysOk (l_450.map d_Val) = true then
  if (SLam.sortV x_having_413 (l_450.map d_Val)).length + x_lacking_426.length ≤ 16777216 then
  (F_block_layout ((SLam.sortV x_having_413 (l_450.map d_Val)) ++ x_lacking_426) x_self.size).bind fun r_453 =>
  some r_453 else none else none else none
def L_law_1 (x_kind_455 : Int) (x_464 : Int) (w_463 : ((List (Option Val)) × (DS × Unit))) : Option ((List (Option Val)) × (DS × Unit)) :=
  (atI ([(Val.t ("b" : Str)), (Val.t ("a" : Str)), (Val.t ("ab" : Str))] : List Val) (nxV (nxS w_463.2.1 (4 : Int)) (3 : Int))).bind fun i_502 =>
  (atI ([(Val.i ((nxV w_463.2.1 (4 : Int)) - (1 : Int))), i_502, (Val.b (decide ((nxV (nxS (nxS w_463.2.1 (4 : Int)) (3 : Int)) (2 : Int)) = (0 : Int))))] : List Val) x_kind_455).bind fun i_504 =>
  (atI ([(some i_504), (some i_504), none] : List (Option Val)) (nxV (nxS (nxS (nxS w_463.2.1 (4 : Int)) (3 : Int)) (2 : Int)) (3 : Int))).bind fun i_508 =>
  if w_463.1.length < 16777216 then
  some ((w_463.1 ++ [i_508]), ((nxS (nxS (nxS (nxS w_463.2.1 (4 : Int)) (3 : Int)) (2 : Int)) (3 : Int)), w_463.2.2)) else none
def L_law_2 (w_484 : ((List (Option Val)) × (DS × Unit))) (x_520 : Int) (w_519 : (List Record)) : Option (List Record) :=
  (atI w_484.1 x_520).bind fun i_560 =>
  (if i_560.isSome = true then
  (atI w_484.1 x_520).bind fun i_580 =>
  (i_580).bind fun u_582 =>
  (some ([(("n" : Str), u_582)] : List (Str × Val))).bind fun x_fields_584 =>
  some x_fields_584
  else
  some ([] : List (Str × Val)) : Option (List (Str × Val))).bind fun w_564 =>
  if StrIOk x_520 then
  if ("r" : Str).length + (strI x_520).length ≤ 16777216 then
  if w_519.length < 16777216 then
  some (w_519 ++ [(F_Record___init__ (("r" : Str) ++ (strI x_520)) ([(0 : Int)] : List Int) w_564 [])]) else none else none else none
def L_law_4 (w_484 : ((List (Option Val)) × (DS × Unit))) (w_616 : (List Int)) (x_617 : Int) (x_664 : Int) (w_663 : Int) : Option Int :=
  (atI w_484.1 x_617).bind fun i_704 =>
  (i_704).bind fun u_706 =>
  (atI w_616 x_664).bind fun i_708 =>
  (atI w_484.1 i_708).bind fun i_710 =>
  (i_710).bind fun u_712 =>
  if sameB (u_706.toV) (u_712.toV) = true then
  if (!(ltV u_706.toV u_712.toV)) = true then
  some (x_664 + (1 : Int))
  else
  some w_663 else none
def L_law_3 (w_484 : ((List (Option Val)) × (DS × Unit))) (x_617 : Int) (w_616 : (List Int)) : Option (List Int) :=
  (atI w_484.1 x_617).bind fun i_657 =>
  if i_657.isSome = true then
  if RangeOk 0 (w_616.length : Int) then
  (forF (L_law_4 w_484 w_616 x_617) (rangeZ 0 (w_616.length : Int)) (0 : Int)).bind fun w_685 =>
  if (cutA w_616 none (some w_685)).length + ([x_617] : List Int).length ≤ 16777216 then
  if ((cutA w_616 none (some w_685)) ++ ([x_617] : List Int)).length + (cutA w_616 (some w_685) none).length ≤ 16777216 then
  (some (((cutA w_616 none (some w_685)) ++ ([x_617] : List Int)) ++ (cutA w_616 (some w_685) none))).bind fun x_present_723 =>
  some x_present_723 else none else none else none
  else
  some w_616
def F_law (ns : List Int) : Option Bool :=
  (some (nxV (DS.mk ns 0 0) (3 : Int))).bind fun x_kind_455 =>
  if RangeOk 0 (nxV (nxS (DS.mk ns 0 0) (3 : Int)) (9 : Int)) then
  (forF (L_law_1 x_kind_455) (rangeZ 0 (nxV (nxS (DS.mk ns 0 0) (3 : Int)) (9 : Int))) (([] : List (Option Val)), ((nxS (nxS (DS.mk ns 0 0) (3 : Int)) (9 : Int)), ()))).bind fun w_484 =>
  if RangeOk 0 (w_484.1.length : Int) then
  (forF (L_law_2 w_484) (rangeZ 0 (w_484.1.length : Int)) ([] : List Record)).bind fun w_540 =>
  (atI ([(1 : Int), (2 : Int), (3 : Int), (4 : Int), (0 : Int), (-(1 : Int))] : List Int) (nxV ((w_484.2.1, w_484.2.2).1) (6 : Int))).bind fun i_594 =>
  (F_law_made false i_594).bind fun r_598 =>
  (F_law_made true i_594).bind fun r_602 =>
  if (decide (i_594 < (1 : Int))) = true then
  some (r_598.isNone && r_602.isNone)
  else
  (atI ([("integer" : Str), ("text" : Str), ("flag" : Str)] : List Str) x_kind_455).bind fun i_607 =>
  (Res.val (F_Schema___init__ (1 : Int) ("small" : Str) ("square" : Str) ([(("n" : Str), i_607)] : List (Str × Str)))).bind fun r_609 =>
  if RangeOk 0 (w_484.1.length : Int) then
  (forF (L_law_3 w_484) (rangeZ 0 (w_484.1.length : Int)) ([] : List Int)).bind fun w_638 =>
  if RangeOk 0 (w_484.1.length : Int) then
  (fmO (fun (x_730 : Int) => ((atI w_484.1 x_730).bind fun i_734 =>
  if i_734.isNone = true then (some (some x_730)) else some none : Option (Option Int))) (rangeZ 0 (w_484.1.length : Int))).bind fun l_736 =>
  if w_638.length + l_736.length ≤ 16777216 then
  (r_598).bind fun u_741 =>
  (u_741.p_p).bind fun u_743 =>
  (F_Blocks_layout (((nxS ((w_484.2.1, w_484.2.2).1) (6 : Int)), (w_484.2.1, w_484.2.2).2).2) u_743 r_609 w_540).bind fun r_745 =>
  (F_law_shown r_745).bind fun r_747 =>
  if RangeOk 0 (w_540.length : Int) then
  (F_law_due (rangeZ 0 (w_540.length : Int)) i_594).bind fun r_750 =>
  if (!decide (r_747 = r_750)) = true then
  some false
  else
  (r_602).bind fun u_753 =>
  (u_753.p_s).bind fun u_755 =>
  (F_SortedBlocks_layout (((nxS ((w_484.2.1, w_484.2.2).1) (6 : Int)), (w_484.2.1, w_484.2.2).2).2) u_755 r_609 w_540).bind fun r_757 =>
  (F_law_shown r_757).bind fun r_759 =>
  (F_law_due (w_638 ++ l_736) i_594).bind fun r_761 =>
  if (!decide (r_759 = r_761)) = true then
  some false
  else
  (F_block_layout (w_638 ++ l_736) i_594).bind fun r_764 =>
  (F_law_shown r_764).bind fun r_766 =>
  (F_law_due (w_638 ++ l_736) i_594).bind fun r_768 =>
  some (decide (r_766 = r_768)) else none else none else none else none else none else none
-- MATH BEGINS
theorem least_ok {a b : Int} (h : a ≤ b) : F_check_least a b = some (.ok ()) := by
  unfold F_check_least
  rw [if_neg (by simp; omega)]
/-! what is shown -/
def sh (s : Sketch) : Option Int × List (Int × List Int) × List (List Int × List Int) := (s.parent, s.centres, s.cells)
theorem shown_loop : ∀ (xs : List Sketch) (w : List (Option Int × List (Int × List Int) × List (List Int × List Int))), w.length + xs.length ≤ 10000 → forF L_law_shown_1 xs w = some (w ++ xs.map sh)
  | [], w, _ => by rw [List.map_nil, List.append_nil]; rfl
  | x :: r, w, h => by
    show (L_law_shown_1 x w).bind _ = _
    rw [List.length_cons] at h
    have e : L_law_shown_1 x w = some (w ++ [sh x]) := by
      unfold L_law_shown_1
      have e1 : (fun (x : Int × List Int) => (x.1, x.2)) = id := rfl
      have e2 : (fun (x : List Int × List Int) => (x.1, x.2)) = id := rfl
      rw [bsome, bsome, if_pos (by omega), e1, e2, List.map_id, List.map_id]
      rfl
    rw [e, bsome, shown_loop r _ (by rw [List.length_append, List.length_singleton]; omega), List.map_cons, List.append_assoc]
    rfl
theorem shown_eq (l : Layout) (h : l.sketches.length ≤ 10000) : F_law_shown l = some (l.sketches.map sh, l.leaves) := by
  unfold F_law_shown
  rw [bsome, shown_loop _ _ (by simpa using h), bsome, List.nil_append]
/-! a list in order is told by its parts of one key -/
theorem same_sorted {D : Nat → Int} : ∀ {xs ys : List Nat}, xs.Pairwise (fun a b => D a ≤ D b) → ys.Pairwise (fun a b => D a ≤ D b) → (∀ k, xs.filter (fun a => decide (D a = k)) = ys.filter (fun a => decide (D a = k))) → xs = ys
  | [], [], _, _, _ => rfl
  | [], y :: ys, _, _, h => by
    have := h (D y)
    simp at this
  | x :: xs, [], _, _, h => by
    have := h (D x)
    simp at this
  | x :: xs, y :: ys, hx, hy, h => by
    have e1 := h (D x)
    have e2 := h (D y)
    have m1 : x ∈ y :: ys := by
      have : x ∈ (x :: xs).filter (fun a => decide (D a = D x)) := by simp
      rw [e1] at this
      exact (List.mem_filter.mp this).1
    have m2 : y ∈ x :: xs := by
      have : y ∈ (y :: ys).filter (fun a => decide (D a = D y)) := by simp
      rw [← e2] at this
      exact (List.mem_filter.mp this).1
    have hx2 := List.pairwise_cons.mp hx
    have hy2 := List.pairwise_cons.mp hy
    have l1 : D y ≤ D x := by
      rcases List.mem_cons.mp m1 with e | m
      · rw [e]; exact Int.le_refl _
      · exact hy2.1 _ m
    have l2 : D x ≤ D y := by
      rcases List.mem_cons.mp m2 with e | m
      · rw [e]; exact Int.le_refl _
      · exact hx2.1 _ m
    have e : D x = D y := by omega
    rw [List.filter_cons_of_pos (by simp), List.filter_cons_of_pos (by simp [e])] at e1
    have exy : x = y := (List.cons.inj e1).1
    subst exy
    congr 1
    refine same_sorted hx2.2 hy2.2 fun k => ?_
    have hk := h k
    by_cases q : D x = k
    · rw [List.filter_cons_of_pos (by simp [q]), List.filter_cons_of_pos (by simp [q])] at hk
      exact (List.cons.inj hk).2
    · rw [List.filter_cons_of_neg (by simp [q]), List.filter_cons_of_neg (by simp [q])] at hk
      exact hk
def leD (D : Nat → Int) (a b : Nat) : Bool := decide (D a ≤ D b)
def SI (D : Nat → Int) (l : List Nat) : List Nat := l.mergeSort (leD D)
theorem leD_trans (D : Nat → Int) : ∀ a b c, leD D a b = true → leD D b c = true → leD D a c = true := fun a b c h1 h2 => by
  have h1 := of_decide_eq_true h1
  have h2 := of_decide_eq_true h2
  exact decide_eq_true (by omega)
theorem leD_total (D : Nat → Int) : ∀ a b, (leD D a b || leD D b a) = true := fun a b => by
  unfold leD
  rw [Bool.or_eq_true, decide_eq_true_eq, decide_eq_true_eq]
  omega
theorem si_sorted (D : Nat → Int) (l : List Nat) : (SI D l).Pairwise (fun a b => D a ≤ D b) := by
  have := List.pairwise_mergeSort (le := leD D) (leD_trans D) (leD_total D) l
  exact this.imp fun h => of_decide_eq_true h
theorem pair_same {D : Nat → Int} {k : Int} : ∀ {c : List Nat}, (∀ a ∈ c, D a = k) → c.Pairwise (fun a b => leD D a b = true)
  | [], _ => List.Pairwise.nil
  | x :: r, h => List.pairwise_cons.mpr ⟨fun b hb => decide_eq_true (by rw [h x List.mem_cons_self, h b (List.mem_cons_of_mem _ hb)]; exact Int.le_refl _), pair_same fun a ha => h a (List.mem_cons_of_mem _ ha)⟩
theorem si_filter (D : Nat → Int) (l : List Nat) (k : Int) : (SI D l).filter (fun a => decide (D a = k)) = l.filter (fun a => decide (D a = k)) := by
  have hc : (l.filter (fun a => decide (D a = k))).Pairwise (fun a b => leD D a b = true) := pair_same (k := k) fun a ha => of_decide_eq_true (List.mem_filter.mp ha).2
  have sub := List.sublist_mergeSort (leD_trans D) (leD_total D) hc List.filter_sublist
  have s2 := sub.filter (fun a => decide (D a = k))
  rw [List.filter_filter] at s2
  have e0 : (l.filter fun a => (decide (D a = k) && decide (D a = k))) = l.filter fun a => decide (D a = k) := by
    congr 1
    funext a
    rw [Bool.and_self]
  rw [e0] at s2
  refine (s2.eq_of_length ?_).symm
  exact ((List.mergeSort_perm l (leD D)).filter _).length_eq.symm
def toZ (ws : List Nat) : List Int := ws.map fun (x : Nat) => (x : Int)
theorem toZ_get {ws : List Nat} {i x : Nat} (h : ws[i]? = some x) : (toZ ws)[i]? = some (x : Int) := by
  unfold toZ
  rw [List.getElem?_map, h]; rfl
theorem rangeZ_toZ (n : Nat) : rangeZ 0 (n : Int) = toZ (List.range n) := by
  have := rangeZ_map n (fun x => x)
  rw [List.map_id'] at this
  exact this
theorem enumZ_range {α : Type} (n : Nat) (f : Nat → α) : enumZ ((List.range n).map f) = (List.range n).map fun (p : Nat) => ((p : Int), f p) := by
  unfold enumZ
  rw [List.length_map, List.length_range, rangeZ_toZ]
  unfold toZ
  rw [List.zip_map']
theorem rep_eq {α : Type} (rs : List α) : repZ [(0 : Int)] (rs.length : Int) = rs.map fun _ => (0 : Int) := by
  unfold repZ
  rw [Int.toNat_natCast, List.map_const']
  generalize rs.length = n
  induction n with
  | zero => rfl
  | succ n ih => rw [List.replicate_succ, List.flatten_cons, ih, List.replicate_succ]; rfl
/-! values of a kind -/
def kvs : Nat → List Val
  | 0 => [.i (-1), .i 0, .i 1, .i 2]
  | 1 => [.t "b", .t "a", .t "ab"]
  | _ => [.b true, .b false]
def kap : Val → Int
  | .i x => x
  | .t x => if x = "a" then 0 else if x = "ab" then 1 else 2
  | .b x => if x = true then 1 else 0
theorem kv_facts : ∀ k, k < 3 → ∀ u ∈ kvs k, ∀ v ∈ kvs k, sameB u.toV v.toV = true ∧ ltV u.toV v.toV = decide (kap u < kap v) ∧ PySem.W.dataLe false id (d_Val u) (d_Val v) = decide (kap u ≤ kap v) ∧ PySem.W.alike (d_Val u) (d_Val v) = true ∧ plainK (d_Val u) = true := by
  decide +kernel
def KindOk (kd : Nat) (ws : List (Option Val)) : Prop := ∀ v, some v ∈ ws → v ∈ kvs kd
theorem worth_one {kd : Nat} (hk : kd < 3) (x : Int) (ws : List (Option Val)) (s : DS) (u : Unit) (hl : ws.length ≤ 100) : ∃ o s', L_law_1 (kd : Int) x (ws, (s, u)) = some (ws ++ [o], (s', u)) ∧ ∀ v, o = some v → v ∈ kvs kd := by
  unfold L_law_1
  dsimp only
  have e0 := nx_ge s (m := 4) (by decide)
  have e1 := nx_lt s (m := 4) (by decide)
  obtain ⟨p, ep, hp⟩ := atI_lit (xs := [(Val.t ("b" : Str)), (Val.t ("a" : Str)), (Val.t ("ab" : Str))]) (nx_ge (nxS s 4) (m := 3) (by decide)) (nx_lt (nxS s 4) (m := 3) (by decide))
  rw [ep, bsome]
  have key : ∀ (b : Bool), ∃ v, L2.atI ([(Val.i ((nxV s (4 : Int)) - (1 : Int))), p, (Val.b b)] : List Val) (kd : Int) = some v ∧ v ∈ kvs kd := fun b => by
    have : kd = 0 ∨ kd = 1 ∨ kd = 2 := by omega
    rcases this with rfl | rfl | rfl
    · refine ⟨_, TP.atI_nat (k := 0) rfl, ?_⟩
      have : nxV s 4 = 0 ∨ nxV s 4 = 1 ∨ nxV s 4 = 2 ∨ nxV s 4 = 3 := by omega
      rcases this with e | e | e | e <;> rw [e] <;> decide +kernel
    · exact ⟨_, TP.atI_nat (k := 1) rfl, hp⟩
    · refine ⟨_, TP.atI_nat (k := 2) rfl, ?_⟩
      cases b <;> decide +kernel
  obtain ⟨v, ev, hv⟩ := key (decide ((nxV (nxS (nxS s (4 : Int)) (3 : Int)) (2 : Int)) = (0 : Int)))
  rw [ev, bsome]
  obtain ⟨o, eo, ho⟩ := atI_lit (xs := [some v, some v, none]) (nx_ge (nxS (nxS (nxS s 4) 3) 2) (m := 3) (by decide)) (nx_lt (nxS (nxS (nxS s 4) 3) 2) (m := 3) (by decide))
  rw [eo, bsome, if_pos (by omega)]
  refine ⟨o, _, rfl, fun v' e => ?_⟩
  simp only [List.mem_cons, List.not_mem_nil, or_false] at ho
  rcases ho with q | q | q
  · rw [q] at e; rw [← Option.some.inj e]; exact hv
  · rw [q] at e; rw [← Option.some.inj e]; exact hv
  · rw [q] at e; cases e
theorem worths_ex {kd : Nat} (hk : kd < 3) (s : DS) {m : Int} (h0 : 0 ≤ m) (h1 : m < 9) : ∃ ws s', forF (L_law_1 (kd : Int)) (rangeZ 0 m) (([] : List (Option Val)), (s, ())) = some (ws, (s', ())) ∧ ws.length ≤ 8 ∧ KindOk kd ws := by
  obtain ⟨w, e, i⟩ := forF_rng (f := L_law_1 (kd : Int)) (fun n w => ∃ ws s', w = (ws, (s', ())) ∧ ws.length = n ∧ KindOk kd ws) (m := m) (b := (([] : List (Option Val)), (s, ()))) ⟨[], s, rfl, rfl, fun _ h => (nomatch h)⟩ (by
    rintro n w hn ⟨ws, s', rfl, l, g⟩
    obtain ⟨o, s2, e, ho⟩ := worth_one hk (n : Int) ws s' () (by omega)
    refine ⟨_, e, _, _, rfl, by rw [List.length_append, l]; rfl, fun v hv => ?_⟩
    rcases List.mem_append.mp hv with hv | hv
    · exact g v hv
    · exact ho v (List.mem_singleton.mp hv).symm)
  obtain ⟨ws, s', rfl, l, g⟩ := i
  exact ⟨ws, s', e, by omega, g⟩
/-! the records -/
def wO (ws : List (Option Val)) (k : Nat) : Option Val := ws.getD k none
theorem wO_get {ws : List (Option Val)} {k : Nat} (h : k < ws.length) : ws[k]? = some (wO ws k) := by
  unfold wO
  rw [List.getD_eq_getElem?_getD, List.getElem?_eq_getElem h]; rfl
def flds : Option Val → List (Str × Val)
  | some v => [("n", v)]
  | none => []
def recW (ws : List (Option Val)) (k : Nat) : Record := ⟨("r" : Str) ++ strI (k : Int), [0], flds (wO ws k), []⟩
theorem recs_ex {ws : List (Option Val)} (hl : ws.length ≤ 8) {st : DS × Unit} : forF (L_law_2 (ws, st)) (rangeZ 0 (ws.length : Int)) ([] : List Record) = some ((List.range ws.length).map (recW ws)) := by
  obtain ⟨w, e, i⟩ := forF_rng (f := L_law_2 (ws, st)) (fun n w => w = (List.range n).map (recW ws)) (m := (ws.length : Int)) (b := []) rfl (by
    rintro n w hn rfl
    have hn' : n < ws.length := by omega
    unfold L_law_2
    dsimp only
    have ok : StrIOk (n : Int) := strIOk_of (by omega) (Int.lt_trans (show (n : Int) < 9 by omega) (by decide))
    have hs : (strI (n : Int)).length ≤ 3 := toString_length_le (k := 3) (by omega) (by decide) (by omega)
    have l1 : ("r" : Str).length = 1 := by decide +kernel
    rw [TP.atI_nat (wO_get hn'), bsome]
    have fin : ∀ fs, fs = flds (wO ws n) → (if StrIOk (n : Int) then if ("r" : Str).length + (strI (n : Int)).length ≤ 16777216 then if ((List.range n).map (recW ws)).length < 16777216 then some ((List.range n).map (recW ws) ++ [(F_Record___init__ (("r" : Str) ++ (strI (n : Int))) ([(0 : Int)] : List Int) fs [])]) else none else none else none) = some ((List.range (n + 1)).map (recW ws)) := by
      rintro fs rfl
      rw [if_pos ok, if_pos (by omega), if_pos (by rw [List.length_map, List.length_range]; omega), List.range_succ, List.map_append]
      rfl
    cases q : wO ws n with
    | none =>
      rw [if_neg (by simp), bsome]
      exact ⟨_, fin _ (by rw [q]; rfl), rfl⟩
    | some v =>
      rw [if_pos (by simp), bsome, bsome, bsome, bsome]
      exact ⟨_, fin _ (by rw [q]; rfl), rfl⟩)
  rw [e, i, Int.toNat_natCast]
theorem value_eq (ws : List (Option Val)) (k : Nat) : F_Record_value (recW ws k) "n" = some (wO ws k) := by
  unfold F_Record_value recW
  dsimp only
  cases wO ws k with
  | none => rfl
  | some v =>
    show (((L_Record_value_1 "n" ("n", v) ()).bind _).bind _) = _
    unfold L_Record_value_1
    rw [if_pos (decide_eq_true rfl)]
    rfl
/-! the order -/
def hav (ws : List (Option Val)) (n : Nat) : List Nat := (List.range n).filter fun j => (wO ws j).isSome
def dK (ws : List (Option Val)) (j : Nat) : Int := kap ((wO ws j).getD (.i 0))
theorem hav_succ (ws : List (Option Val)) (n : Nat) : hav ws (n + 1) = hav ws n ++ if (wO ws n).isSome = true then [n] else [] := by
  unfold hav
  rw [List.range_succ, List.filter_append]
  by_cases q : (wO ws n).isSome = true
  · rw [if_pos q, List.filter_cons_of_pos (p := fun j => (wO ws j).isSome) q]; rfl
  · rw [if_neg q, List.filter_cons_of_neg (p := fun j => (wO ws j).isSome) q]; rfl
theorem hav_mem {ws : List (Option Val)} {n j : Nat} (h : j ∈ hav ws n) : j < n ∧ ∃ v, wO ws j = some v := by
  refine ⟨List.mem_range.mp (List.mem_filter.mp h).1, Option.isSome_iff_exists.mp (List.mem_filter.mp h).2⟩
theorem hav_val {kd : Nat} {ws : List (Option Val)} (g : KindOk kd ws) {j : Nat} (hj : j < ws.length) {v : Val} (e : wO ws j = some v) : v ∈ kvs kd := g v (by rw [← e]; exact List.mem_of_getElem? (wO_get hj))
theorem scan_ex {D : Nat → Int} {f : Int → Int → Option Int} {ps : List Nat} {c : Int} (hf : ∀ (i x : Nat) (w : Int), ps[i]? = some x → f (i : Int) w = some (if D x ≤ c then (i : Int) + 1 else w)) (hs : ps.Pairwise fun a b => D a ≤ D b) :
    ∃ a : Nat, forF f (rangeZ 0 (ps.length : Int)) (0 : Int) = some (a : Int) ∧ a ≤ ps.length ∧ (∀ t x, t < a → ps[t]? = some x → D x ≤ c) ∧ ∀ t x, a ≤ t → ps[t]? = some x → c < D x := by
  obtain ⟨w, e, i⟩ := forF_rng (f := f) (fun i w => ∃ a : Nat, w = (a : Int) ∧ a ≤ i ∧ (∀ t x, t < a → ps[t]? = some x → D x ≤ c) ∧ ∀ t x, a ≤ t → t < i → ps[t]? = some x → c < D x) (m := (ps.length : Int)) (b := 0) ⟨0, rfl, Nat.le_refl _, fun _ _ h => absurd h (by omega), fun _ _ _ h => absurd h (by omega)⟩ (by
    rintro n w hn ⟨a, rfl, ha, h1, h2⟩
    have hn' : n < ps.length := by omega
    have en : ps[n]? = some ps[n] := List.getElem?_eq_getElem hn'
    rw [hf n _ _ en]
    by_cases q : D ps[n] ≤ c
    · rw [if_pos q]
      refine ⟨_, rfl, n + 1, by omega, Nat.le_refl _, fun t x ht ex => ?_, fun t x h3 h4 => absurd h4 (by omega)⟩
      by_cases tn : t = n
      · subst tn
        rw [en] at ex
        rw [← Option.some.inj ex]
        exact q
      · have hl : t < ps.length := by omega
        have := List.pairwise_iff_getElem.mp hs t n hl hn' (by omega)
        rw [List.getElem?_eq_getElem hl] at ex
        rw [← Option.some.inj ex]
        omega
    · rw [if_neg q]
      refine ⟨_, rfl, a, rfl, by omega, h1, fun t x h3 h4 ex => ?_⟩
      by_cases tn : t = n
      · subst tn
        rw [en] at ex
        rw [← Option.some.inj ex]
        omega
      · exact h2 t x h3 (by omega) ex)
  obtain ⟨a, rfl, ha, h1, h2⟩ := i
  rw [Int.toNat_natCast] at ha h2
  exact ⟨a, e, ha, h1, fun t x h3 ex => h2 t x h3 (List.getElem?_eq_some_iff.mp ex).1 ex⟩
theorem put_ok {D : Nat → Int} {ps : List Nat} {a m : Nat} (hs : ps.Pairwise fun a b => D a ≤ D b) (h1 : ∀ t x, t < a → ps[t]? = some x → D x ≤ D m) (h2 : ∀ t x, a ≤ t → ps[t]? = some x → D m < D x) :
    ((ps.take a ++ [m] ++ ps.drop a).Pairwise fun a b => D a ≤ D b) ∧ ∀ key, (ps.take a ++ [m] ++ ps.drop a).filter (fun a => decide (D a = key)) = ps.filter (fun a => decide (D a = key)) ++ [m].filter fun a => decide (D a = key) := by
  have tk : ∀ x ∈ ps.take a, D x ≤ D m := fun x hx => by
    obtain ⟨t, ht, ex⟩ := List.mem_iff_getElem.mp hx
    have ht' : t < a := by rw [List.length_take] at ht; omega
    exact h1 t x ht' (by rw [← ex, List.getElem_take, List.getElem?_eq_getElem])
  have dr : ∀ x ∈ ps.drop a, D m < D x := fun x hx => by
    obtain ⟨t, ht, ex⟩ := List.mem_iff_getElem.mp hx
    exact h2 (a + t) x (by omega) (by rw [← ex, List.getElem_drop, List.getElem?_eq_getElem])
  have ew : ps.take a ++ ps.drop a = ps := List.take_append_drop a ps
  refine ⟨?_, fun key => ?_⟩
  · rw [← ew] at hs
    obtain ⟨s1, s2, s3⟩ := List.pairwise_append.mp hs
    refine List.pairwise_append.mpr ⟨List.pairwise_append.mpr ⟨s1, List.pairwise_singleton _ _, fun x hx y hy => by rw [List.mem_singleton.mp hy]; exact tk x hx⟩, s2, fun x hx y hy => ?_⟩
    rcases List.mem_append.mp hx with hx | hx
    · exact s3 x hx y hy
    · rw [List.mem_singleton.mp hx]
      exact Int.le_of_lt (dr y hy)
  · rw [List.filter_append, List.filter_append]
    conv => rhs; rw [← ew, List.filter_append]
    by_cases z : D m = key
    · have : (ps.drop a).filter (fun a => decide (D a = key)) = [] := List.filter_eq_nil_iff.mpr fun x hx => by
        have := dr x hx
        simp
        omega
      rw [this, List.append_nil, List.append_nil]
    · rw [List.filter_cons_of_neg (by simp [z]), List.filter_nil, List.append_nil, List.append_nil]
theorem present_step {kd : Nat} (hk : kd < 3) {ws : List (Option Val)} (hl : ws.length ≤ 8) (g : KindOk kd ws) {st : DS × Unit} {m : Nat} (hm : m < ws.length) {ps : List Nat} (hw : ∀ x ∈ ps, x ∈ hav ws m) (hs : ps.Pairwise fun a b => dK ws a ≤ dK ws b) (ln : ps.length ≤ m)
    (hf : ∀ key, ps.filter (fun a => decide (dK ws a = key)) = (hav ws m).filter fun a => decide (dK ws a = key)) :
    ∃ ps', L_law_3 (ws, st) (m : Int) (toZ ps) = some (toZ ps') ∧ (∀ x ∈ ps', x ∈ hav ws (m + 1)) ∧ (ps'.Pairwise fun a b => dK ws a ≤ dK ws b) ∧ ps'.length ≤ m + 1 ∧ ∀ key, ps'.filter (fun a => decide (dK ws a = key)) = (hav ws (m + 1)).filter fun a => decide (dK ws a = key) := by
  unfold L_law_3
  have lz : (toZ ps).length = ps.length := by unfold toZ; rw [List.length_map]
  rw [TP.atI_nat (wO_get hm), bsome]
  have up : ∀ x ∈ ps, x ∈ hav ws (m + 1) := fun x hx => by
    rw [hav_succ]
    exact List.mem_append_left _ (hw x hx)
  cases q : wO ws m with
  | none =>
    rw [if_neg (by simp)]
    refine ⟨ps, rfl, up, hs, by omega, fun key => ?_⟩
    rw [hav_succ, q, if_neg (by simp), List.append_nil]
    exact hf key
  | some v =>
    have hv := hav_val g hm q
    have ed : dK ws m = kap v := by unfold dK; rw [q]; rfl
    obtain ⟨a, e, ha, h1, h2⟩ := scan_ex (D := dK ws) (f := L_law_4 (ws, st) (toZ ps) (m : Int)) (c := dK ws m) (fun i x w ex => by
      obtain ⟨hx, u, eu⟩ := hav_mem (hw x (List.mem_of_getElem? ex))
      have hxl : x < ws.length := by omega
      have hu := hav_val g hxl eu
      obtain ⟨f1, f2, _⟩ := kv_facts kd hk v hv u hu
      unfold L_law_4
      dsimp only
      rw [TP.atI_nat (wO_get hm), bsome, q, bsome, TP.atI_nat (toZ_get ex), bsome, TP.atI_nat (wO_get hxl), bsome, eu, bsome, if_pos f1, f2, ed, show dK ws x = kap u by unfold dK; rw [eu]; rfl]
      by_cases z : kap u ≤ kap v
      · rw [if_pos z, if_pos (by rw [decide_eq_false (by omega)]; rfl)]
      · rw [if_neg z, if_neg (by rw [decide_eq_true (by omega)]; simp)]) hs
    rw [if_pos (by simp), lz, if_pos (rangeOk_of (by omega) (by omega) (by omega) (by omega)), e, bsome, cutA_none _ (by omega), cutA_from _ (by omega), Int.toNat_natCast]
    have l1 : ((toZ ps).take a).length ≤ 100 := by rw [List.length_take, lz]; omega
    have l2 : ((toZ ps).drop a).length ≤ 100 := by rw [List.length_drop, lz]; omega
    rw [if_pos (by show _ + 1 ≤ _; omega), if_pos (by rw [List.length_append]; show _ + 1 + _ ≤ _; omega), bsome]
    obtain ⟨p1, p2⟩ := put_ok (D := dK ws) hs h1 h2
    refine ⟨ps.take a ++ [m] ++ ps.drop a, by unfold toZ; rw [List.map_append, List.map_append, List.map_take, List.map_drop]; rfl, fun x hx => ?_, p1, ?_, fun key => ?_⟩
    · rcases List.mem_append.mp hx with hx | hx
      · rcases List.mem_append.mp hx with hx | hx
        · exact up x (List.mem_of_mem_take hx)
        · rw [List.mem_singleton.mp hx, hav_succ, q, if_pos (by simp)]
          exact List.mem_append_right _ List.mem_cons_self
      · exact up x (List.mem_of_mem_drop hx)
    · rw [List.length_append, List.length_append, List.length_take, List.length_drop]
      show _ + 1 + _ ≤ _
      omega
    · rw [p2 key, hf key, hav_succ, q, if_pos (by simp), List.filter_append]
theorem present_eq {kd : Nat} (hk : kd < 3) {ws : List (Option Val)} (hl : ws.length ≤ 8) (g : KindOk kd ws) {st : DS × Unit} : forF (L_law_3 (ws, st)) (rangeZ 0 (ws.length : Int)) ([] : List Int) = some (toZ (SI (dK ws) (hav ws ws.length))) := by
  obtain ⟨w, e, i⟩ := forF_rng (f := L_law_3 (ws, st)) (fun m w => m ≤ ws.length → ∃ ps, w = toZ ps ∧ (∀ x ∈ ps, x ∈ hav ws m) ∧ (ps.Pairwise fun a b => dK ws a ≤ dK ws b) ∧ ps.length ≤ m ∧ ∀ key, ps.filter (fun a => decide (dK ws a = key)) = (hav ws m).filter fun a => decide (dK ws a = key)) (m := (ws.length : Int)) (b := []) (fun _ => ⟨[], rfl, fun _ h => (nomatch h), List.Pairwise.nil, Nat.le_refl _, fun _ => rfl⟩) (by
    intro m w hm hi
    obtain ⟨ps, rfl, g1, g2, g3, g4⟩ := hi (by omega)
    obtain ⟨ps', e, h⟩ := present_step hk hl g (m := m) (by omega) g1 g2 g3 g4
    exact ⟨_, e, fun _ => ⟨ps', rfl, h⟩⟩)
  obtain ⟨ps, rfl, g1, g2, g3, g4⟩ := i (by omega)
  rw [Int.toNat_natCast] at g4
  rw [e, same_sorted g2 (si_sorted _ _) fun key => by rw [g4 key, si_filter]]
/-! the blocks of an order -/
def lvB (size : Int) : Nat → List Nat → List Int → List Int
  | _, [], l => l
  | t, o :: os, l => lvB size (t + 1) os (l.set o ((t : Int) / size))
theorem lvB_app (size : Int) : ∀ (os : List Nat) (t : Nat) (l : List Int) (x : Nat), lvB size t (os ++ [x]) l = (lvB size t os l).set x (((t + os.length : Nat) : Int) / size)
  | [], t, l, x => rfl
  | o :: os, t, l, x => by
    show lvB size (t + 1) (os ++ [x]) (l.set o ((t : Int) / size)) = _
    rw [lvB_app size os (t + 1) _ x, List.length_cons, show t + 1 + os.length = t + (os.length + 1) by omega]
    rfl
theorem lvB_len (size : Int) : ∀ (os : List Nat) (t : Nat) (l : List Int), (lvB size t os l).length = l.length
  | [], _, _ => rfl
  | o :: os, t, l => by
    show (lvB size (t + 1) os _).length = _
    rw [lvB_len size os, List.length_set]
theorem block_loop (size : Int) (hs : 0 < size) (hs2 : size ≤ 100) : ∀ (os : List Nat) (t : Nat) (l : List Int), (∀ o ∈ os, o < l.length) → forF (L_block_layout_1 size) (enumF (t : Int) (toZ os)) l = some (lvB size t os l)
  | [], _, _, _ => rfl
  | o :: os, t, l, h => by
    have ho := h o List.mem_cons_self
    show (L_block_layout_1 size ((t : Int), (o : Int)) l).bind (fun b => forF (L_block_layout_1 size) (enumF ((t : Int) + 1) (toZ os)) b) = _
    have e : L_block_layout_1 size ((t : Int), (o : Int)) l = some (l.set o ((t : Int) / size)) := by
      unfold L_block_layout_1
      dsimp only
      rw [if_pos ⟨hs, by omega⟩, ixN_of (by omega) (by omega), bsome, Int.toNat_natCast]
    rw [e, bsome, show (t : Int) + 1 = ((t + 1 : Nat) : Int) by omega, block_loop size hs hs2 os (t + 1) _ fun x hx => by
      rw [List.length_set]
      exact h x (List.mem_cons_of_mem _ hx)]
    rfl
def manyB (size : Int) (n : Nat) : Int := ((n : Int) + size - 1) / size
theorem many_facts {size : Int} (hs : size = 1 ∨ size = 2 ∨ size = 3 ∨ size = 4) {n : Nat} (hn : n ≤ 100) : 0 ≤ manyB size n ∧ manyB size n ≤ 110 ∧ (0 < n → manyB size n = ((n : Int) - 1) / size + 1) ∧ (n = 0 → manyB size n = 0) := by
  unfold manyB
  rcases hs with rfl | rfl | rfl | rfl <;> refine ⟨by omega, by omega, fun _ => by omega, fun _ => by omega⟩
theorem layout_eq {size : Int} (hs : size = 1 ∨ size = 2 ∨ size = 3 ∨ size = 4) {os : List Nat} (hl : os.length ≤ 100) (h : ∀ o ∈ os, o < os.length) : F_block_layout (toZ os) size = some ⟨(rangeZ 0 (manyB size os.length)).map (fun (x_351 : Int) => (F_Sketch___init__ none [] [])), lvB size 0 os (os.map fun _ => (0 : Int))⟩ := by
  have lz : (toZ os).length = os.length := by unfold toZ; rw [List.length_map]
  obtain ⟨m0, m1, _⟩ := many_facts hs hl
  unfold F_block_layout
  rw [lz, if_pos ⟨by omega, by omega, by rw [List.length_singleton, Int.toNat_natCast]; omega⟩, bsome, rep_eq, enumZ_eq]
  have q := block_loop size (by omega) (by omega) os 0 (os.map fun _ => (0 : Int)) (fun o ho => by rw [List.length_map]; exact h o ho)
  rw [show ((0 : Nat) : Int) = 0 from rfl] at q
  rw [q, bsome, if_pos ⟨by omega, by omega⟩, bsome, show ((os.length : Int) + size - 1) / size = manyB size os.length from rfl, if_pos (rangeOk_of (by omega) (by omega) (by omega) (by omega))]
  rfl
theorem due_eq {size : Int} (hs : size = 1 ∨ size = 2 ∨ size = 3 ∨ size = 4) {os : List Nat} (hl : os.length ≤ 100) (h : ∀ o ∈ os, o < os.length) : F_law_due (toZ os) size = some ((rangeZ 0 (manyB size os.length)).map (fun (x_235 : Int) => ((none : Option Int), ([] : List (Int × (List Int))), ([] : List ((List Int) × (List Int))))), lvB size 0 os (os.map fun _ => (0 : Int))) := by
  have lz : (toZ os).length = os.length := by unfold toZ; rw [List.length_map]
  obtain ⟨m0, m1, m2, m3⟩ := many_facts hs hl
  unfold F_law_due
  rw [bsome, lz, if_pos (rangeOk_of (by omega) (by omega) (by omega) (by omega))]
  have e0 : (toZ os).map (fun (x_177 : Int) => (0 : Int)) = os.map fun _ => (0 : Int) := by unfold toZ; rw [List.map_map]; rfl
  rw [e0]
  obtain ⟨w, e, i⟩ := forF_rng (f := L_law_due_1 (toZ os) size) (fun k w => w = lvB size 0 (os.take k) (os.map fun _ => (0 : Int))) (m := (os.length : Int)) (b := os.map fun _ => (0 : Int)) rfl (by
    rintro k w hk rfl
    have hk' : k < os.length := by omega
    have ho := h _ (List.getElem_mem hk')
    unfold L_law_due_1
    rw [if_pos ⟨by omega, by omega⟩, TP.atI_nat (toZ_get (List.getElem?_eq_getElem hk')), bsome, lvB_len, List.length_map, ixN_of (by omega) (by omega), bsome, Int.toNat_natCast]
    refine ⟨_, rfl, ?_⟩
    rw [List.take_succ_eq_append_getElem hk', lvB_app, List.length_take, show 0 + min k os.length = k by omega])
  rw [e, bsome, i, Int.toNat_natCast, List.take_of_length_le (Nat.le_refl _)]
  have em : (if (decide ((0 : Int) < (os.length : Int))) = true then if CDiv ((os.length : Int) - (1 : Int)) size then (some ((((os.length : Int) - (1 : Int)) / size) + (1 : Int))).bind fun x_many_229 => some x_many_229 else none else some (0 : Int) : Option Int) = some (manyB size os.length) := by
    by_cases z : 0 < os.length
    · rw [if_pos (decide_eq_true (by omega)), if_pos ⟨by omega, by omega⟩, bsome, m2 z]
    · rw [if_neg (fun y => z (by have := of_decide_eq_true y; omega)), m3 (by omega)]
  rw [em, bsome, if_pos (rangeOk_of (by omega) (by omega) (by omega) (by omega))]
theorem block_due {size : Int} (hs : size = 1 ∨ size = 2 ∨ size = 3 ∨ size = 4) {os : List Nat} (hl : os.length ≤ 100) (h : ∀ o ∈ os, o < os.length) : ∃ l r, F_block_layout (toZ os) size = some l ∧ F_law_shown l = some r ∧ F_law_due (toZ os) size = some r := by
  obtain ⟨m0, m1, _⟩ := many_facts hs hl
  refine ⟨_, _, layout_eq hs hl h, shown_eq _ (by dsimp only; rw [List.length_map, rangeZ_len]; omega), ?_⟩
  rw [due_eq hs hl h, List.map_map]
  rfl
/-! sorted by the values -/
def lac (ws : List (Option Val)) (n : Nat) : List Nat := (List.range n).filter fun j => (wO ws j).isNone
theorem sort_eq (g : Nat → Int) (k : Nat → PyData) (D : Nat → Int) (l : List Nat) (hd : ∀ a ∈ l, ∀ b ∈ l, leD D a b = PySem.W.dataLe false id (k a) (k b)) : SLam.sortV (l.map g) (l.map k) = (SI D l).map g := by
  unfold SLam.sortV SI
  rw [List.zip_map', ← List.map_mergeSort (r := leD D) (s := PySem.W.dataLe false (fun x : Int × PyData => x.2)) (f := fun j => (g j, k j)) (fun a ha b hb => (hd a ha b hb).trans rfl), List.map_map]
  rfl
theorem ws_range (ws : List (Option Val)) : ws = (List.range ws.length).map (wO ws) := by
  refine List.ext_getElem? fun i => ?_
  rw [List.getElem?_map]
  by_cases hi : i < ws.length
  · rw [List.getElem?_range hi, wO_get hi]; rfl
  · rw [List.getElem?_eq_none (by omega), List.getElem?_eq_none (by rw [List.length_range]; omega)]; rfl
theorem enum_fil (ws : List (Option Val)) (p : Option Val → Bool) : ((enumZ ws).filter (fun (x : Int × Option Val) => p x.2)).map (fun (x : Int × Option Val) => x.1) = toZ ((List.range ws.length).filter fun j => p (wO ws j)) := by
  have e : enumZ ws = (List.range ws.length).map fun (k : Nat) => ((k : Int), wO ws k) := by
    conv => lhs; rw [ws_range ws]
    exact enumZ_range _ _
  rw [e, List.filter_map, List.map_map]
  rfl
theorem sorted_eq {kd : Nat} (hk : kd < 3) {ws : List (Option Val)} (hl : ws.length ≤ 8) (g : KindOk kd ws) {size : Int} {sch : Schema} {u : Unit} : F_SortedBlocks_layout u ⟨"n", size⟩ sch ((List.range ws.length).map (recW ws)) = F_block_layout (toZ (SI (dK ws) (hav ws ws.length) ++ lac ws ws.length)) size := by
  unfold F_SortedBlocks_layout
  rw [mapO_eq (g := fun r => (F_Record_value r "n").getD none) fun r hr => by
    obtain ⟨k, _, rfl⟩ := List.mem_map.mp hr
    rw [value_eq]
    rfl]
  rw [bsome, List.map_map, show ((fun r => (F_Record_value r "n").getD none) ∘ recW ws) = wO ws from funext fun k => by
    show (F_Record_value (recW ws k) "n").getD none = _
    rw [value_eq]
    rfl]
  rw [← ws_range, bsome, bsome, enum_fil ws Option.isSome, enum_fil ws Option.isNone]
  rw [show ((List.range ws.length).filter fun j => Option.isSome (wO ws j)) = hav ws ws.length from rfl, show ((List.range ws.length).filter fun j => Option.isNone (wO ws j)) = lac ws ws.length from rfl]
  have lh : (hav ws ws.length).length ≤ 8 := Nat.le_trans (Nat.le_trans (List.length_filter_le _ _) (Nat.le_of_eq List.length_range)) hl
  have lc : (lac ws ws.length).length ≤ 8 := Nat.le_trans (Nat.le_trans (List.length_filter_le _ _) (Nat.le_of_eq List.length_range)) hl
  have lz : (toZ (hav ws ws.length)).length ≤ 8 := by unfold toZ; rw [List.length_map]; exact lh
  rw [if_pos (by omega), mapO_eq (g := fun z : Int => (wO ws z.toNat).getD (.i 0)) fun z hz => by
    obtain ⟨x, hx, rfl⟩ := List.mem_map.mp hz
    obtain ⟨hx1, v, ev⟩ := hav_mem hx
    rw [TP.atI_nat (wO_get hx1), bsome, ev, bsome, Int.toNat_natCast, ev]
    rfl]
  have ek : ((toZ (hav ws ws.length)).map fun z : Int => (wO ws z.toNat).getD (.i 0)).map d_Val = (hav ws ws.length).map fun j => d_Val ((wO ws j).getD (.i 0)) := by
    unfold toZ
    rw [List.map_map, List.map_map]
    rfl
  have hd : ∀ a ∈ hav ws ws.length, ∀ b ∈ hav ws ws.length, leD (dK ws) a b = PySem.W.dataLe false id (d_Val ((wO ws a).getD (.i 0))) (d_Val ((wO ws b).getD (.i 0))) ∧ PySem.W.alike (d_Val ((wO ws a).getD (.i 0))) (d_Val ((wO ws b).getD (.i 0))) = true ∧ plainK (d_Val ((wO ws a).getD (.i 0))) = true := fun a ha b hb => by
    obtain ⟨ha1, u, eu⟩ := hav_mem ha
    obtain ⟨hb1, v, ev⟩ := hav_mem hb
    obtain ⟨_, _, f3, f4, f5⟩ := kv_facts kd hk u (hav_val g ha1 eu) v (hav_val g hb1 ev)
    unfold leD dK
    rw [eu, ev]
    exact ⟨f3.symm, f4, f5⟩
  have ok : KeysOk ((hav ws ws.length).map fun j => d_Val ((wO ws j).getD (.i 0))) = true := by
    unfold KeysOk
    refine List.all_eq_true.mpr fun x hx => ?_
    obtain ⟨a, ha, rfl⟩ := List.mem_map.mp hx
    rw [Bool.and_eq_true]
    refine ⟨(hd a ha a ha).2.2, List.all_eq_true.mpr fun y hy => ?_⟩
    obtain ⟨b, hb, rfl⟩ := List.mem_map.mp hy
    exact (hd a ha b hb).2.1
  have es : SLam.sortV (toZ (hav ws ws.length)) ((hav ws ws.length).map fun j => d_Val ((wO ws j).getD (.i 0))) = toZ (SI (dK ws) (hav ws ws.length)) := sort_eq (fun x : Nat => (x : Int)) _ (dK ws) _ fun a ha b hb => (hd a ha b hb).1
  have ls : (toZ (SI (dK ws) (hav ws ws.length))).length ≤ 8 := by
    unfold toZ SI
    rw [List.length_map, List.length_mergeSort]
    exact lh
  have lt : (toZ (lac ws ws.length)).length ≤ 8 := by unfold toZ; rw [List.length_map]; exact lc
  rw [bsome, ek, if_pos ok, es, if_pos (by omega)]
  have ea : toZ (SI (dK ws) (hav ws ws.length)) ++ toZ (lac ws ws.length) = toZ (SI (dK ws) (hav ws ws.length) ++ lac ws ws.length) := by unfold toZ; rw [List.map_append]
  rw [ea]
  cases F_block_layout (toZ (SI (dK ws) (hav ws ws.length) ++ lac ws ws.length)) size <;> rfl
theorem part_len (p : Nat → Option Val) : ∀ xs : List Nat, (xs.filter fun j => (p j).isSome).length + (xs.filter fun j => (p j).isNone).length = xs.length
  | [] => rfl
  | x :: r => by
    have ih := part_len p r
    rw [List.filter_cons, List.filter_cons]
    cases p x with
    | none =>
      rw [if_neg (by simp), if_pos (by simp), List.length_cons, List.length_cons]
      omega
    | some v =>
      rw [if_pos (by simp), if_neg (by simp), List.length_cons, List.length_cons]
      omega
theorem order_len (ws : List (Option Val)) : (SI (dK ws) (hav ws ws.length) ++ lac ws ws.length).length = ws.length := by
  have := part_len (wO ws) (List.range ws.length)
  rw [List.length_range] at this
  unfold SI
  rw [List.length_append, List.length_mergeSort]
  exact this
theorem order_mem (ws : List (Option Val)) : ∀ o ∈ SI (dK ws) (hav ws ws.length) ++ lac ws ws.length, o < (SI (dK ws) (hav ws ws.length) ++ lac ws ws.length).length := fun o ho => by
  rw [order_len]
  rcases List.mem_append.mp ho with ho | ho
  · exact (hav_mem (List.mem_mergeSort.mp ho)).1
  · exact List.mem_range.mp (List.mem_filter.mp ho).1
theorem lac_eq (ws : List (Option Val)) : fmO (fun (x_730 : Int) => ((atI ws x_730).bind fun i_734 =>
  if i_734.isNone = true then (some (some x_730)) else some none : Option (Option Int))) (rangeZ 0 (ws.length : Int)) = some (toZ (lac ws ws.length)) := by
  rw [fmO_eq (p := fun x : Int => (wO ws x.toNat).isNone) (g := fun x => x) fun x hx => by
    obtain ⟨a, b⟩ := rangeZ_mem hx
    obtain ⟨k, rfl⟩ := Int.eq_ofNat_of_zero_le a
    rw [TP.atI_nat (wO_get (show k < ws.length by omega)), bsome, Int.toNat_natCast]
    cases wO ws k <;> rfl]
  rw [rangeZ_toZ]
  unfold toZ lac
  rw [List.filter_map, List.map_map]
  rfl
theorem made_ok {size : Int} (h : 1 ≤ size) : F_law_made false size = some (some (.p ⟨size⟩)) ∧ F_law_made true size = some (some (.s ⟨"n", size⟩)) := by
  unfold F_law_made F_Blocks___init__ F_SortedBlocks___init__
  rw [least_ok h]
  exact ⟨rfl, rfl⟩
theorem made_no {size : Int} (h : size < 1) : F_law_made false size = some none ∧ F_law_made true size = some none := by
  have e : F_check_least 1 size = some (.er .InvalidRule) := by
    unfold F_check_least
    rw [if_pos (decide_eq_true h)]
  unfold F_law_made F_Blocks___init__ F_SortedBlocks___init__
  rw [e]
  exact ⟨rfl, rfl⟩
theorem sch_ex {w : Str} (h : w ∈ [("integer" : Str), ("text" : Str), ("flag" : Str)]) : ∃ sch, Res.val (F_Schema___init__ (1 : Int) ("small" : Str) ("square" : Str) ([(("n" : Str), w)] : List (Str × Str))) = some sch := by
  have : (Res.val (F_Schema___init__ (1 : Int) ("small" : Str) ("square" : Str) ([(("n" : Str), w)] : List (Str × Str)))).isSome = true := by
    simp only [List.mem_cons, List.not_mem_nil, or_false] at h
    rcases h with rfl | rfl | rfl <;> decide +kernel
  exact Option.isSome_iff_exists.mp this
theorem law_true (ns : List Int) (h : ns.length ≤ 63) : F_law ns = some true := by
  unfold F_law
  have a0 := nx_ge (DS.mk ns 0 0) (m := 3) (by decide)
  have a1 := nx_lt (DS.mk ns 0 0) (m := 3) (by decide)
  have b0 := nx_ge (nxS (DS.mk ns 0 0) 3) (m := 9) (by decide)
  have b1 := nx_lt (nxS (DS.mk ns 0 0) 3) (m := 9) (by decide)
  obtain ⟨kd, hkd⟩ := Int.eq_ofNat_of_zero_le a0
  rw [bsome, hkd, if_pos (rangeOk_of (by omega) (by omega) (by omega) (by omega))]
  have hk : kd < 3 := by omega
  obtain ⟨ws, s, e, hl, g⟩ := worths_ex hk (nxS (nxS (DS.mk ns 0 0) 3) 9) b0 (by omega)
  rw [e, bsome]
  dsimp only
  rw [if_pos (rangeOk_of (by omega) (by omega) (by omega) (by omega)), recs_ex hl, bsome]
  obtain ⟨size, es, hsz⟩ := atI_lit (xs := [(1 : Int), (2 : Int), (3 : Int), (4 : Int), (0 : Int), (-(1 : Int))]) (nx_ge s (m := 6) (by decide)) (nx_lt s (m := 6) (by decide))
  rw [es, bsome]
  simp only [List.mem_cons, List.not_mem_nil, or_false] at hsz
  by_cases q : size < 1
  · obtain ⟨e1, e2⟩ := made_no q
    rw [e1, bsome, e2, bsome, if_pos (decide_eq_true q)]
    rfl
  obtain ⟨e1, e2⟩ := made_ok (size := size) (by omega)
  have hs : size = 1 ∨ size = 2 ∨ size = 3 ∨ size = 4 := by omega
  rw [e1, bsome, e2, bsome, if_neg (fun z => q (of_decide_eq_true z))]
  obtain ⟨w, ew, hw⟩ := atI_lit (xs := [("integer" : Str), ("text" : Str), ("flag" : Str)]) (i := (kd : Int)) (by omega) (by show _ < ((3 : Nat) : Int); omega)
  obtain ⟨sch, esc⟩ := sch_ex hw
  rw [ew, bsome, esc, bsome, if_pos (rangeOk_of (by omega) (by omega) (by omega) (by omega)), present_eq hk hl g, bsome, if_pos (rangeOk_of (by omega) (by omega) (by omega) (by omega)), lac_eq, bsome]
  have ea : toZ (SI (dK ws) (hav ws ws.length)) ++ toZ (lac ws ws.length) = toZ (SI (dK ws) (hav ws ws.length) ++ lac ws ws.length) := by unfold toZ; rw [List.map_append]
  have ol := order_len ws
  have lz : (toZ (SI (dK ws) (hav ws ws.length)) ++ toZ (lac ws ws.length)).length = ws.length := by rw [ea]; unfold toZ; rw [List.length_map]; exact ol
  rw [List.length_append] at lz
  rw [if_pos (by omega), bsome, show (Lay.p ⟨size⟩).p_p = some ⟨size⟩ from rfl, bsome, ea]
  obtain ⟨l1, r1, x1, x2, x3⟩ := block_due hs (os := List.range ws.length) (by rw [List.length_range]; omega) (fun o ho => by rw [List.length_range]; exact List.mem_range.mp ho)
  obtain ⟨l2, r2, y1, y2, y3⟩ := block_due hs (os := SI (dK ws) (hav ws ws.length) ++ lac ws ws.length) (by omega) (order_mem ws)
  have lr : ((List.range ws.length).map (recW ws)).length = ws.length := by rw [List.length_map, List.length_range]
  have eb : F_Blocks_layout () ⟨size⟩ sch ((List.range ws.length).map (recW ws)) = some l1 := by
    unfold F_Blocks_layout
    rw [lr, if_pos (rangeOk_of (by omega) (by omega) (by omega) (by omega)), rangeZ_toZ, x1]
    rfl
  rw [eb, bsome, x2, bsome, lr, if_pos (rangeOk_of (by omega) (by omega) (by omega) (by omega)), rangeZ_toZ, x3, bsome, if_neg (by simp), bsome, show (Lay.s ⟨"n", size⟩).p_s = some ⟨"n", size⟩ from rfl, bsome, sorted_eq hk hl g, y1, bsome, y2, bsome, y3, bsome, if_neg (by simp), bsome, y2, bsome, bsome, decide_eq_true rfl]

def ff_Record (v0 v1 v2 v3 : V) : List (Str × V) := putF "words" v3 (putF "fields" v2 (putF "vector" v1 (putF "name" v0 [])))
theorem lk_Record_name {v0 v1 v2 v3 : V} : (ff_Record v0 v1 v2 v3).lookup ("name" : Str) = some v0 := by
  unfold ff_Record
  rw [lookup_putF, if_neg (by decide +kernel), lookup_putF, if_neg (by decide +kernel), lookup_putF, if_neg (by decide +kernel), lookup_putF, if_pos rfl]
theorem lk_Record_vector {v0 v1 v2 v3 : V} : (ff_Record v0 v1 v2 v3).lookup ("vector" : Str) = some v1 := by
  unfold ff_Record
  rw [lookup_putF, if_neg (by decide +kernel), lookup_putF, if_neg (by decide +kernel), lookup_putF, if_pos rfl]
theorem lk_Record_fields {v0 v1 v2 v3 : V} : (ff_Record v0 v1 v2 v3).lookup ("fields" : Str) = some v2 := by
  unfold ff_Record
  rw [lookup_putF, if_neg (by decide +kernel), lookup_putF, if_pos rfl]
theorem lk_Record_words {v0 v1 v2 v3 : V} : (ff_Record v0 v1 v2 v3).lookup ("words" : Str) = some v3 := by
  unfold ff_Record
  rw [lookup_putF, if_pos rfl]
theorem no_Record {v0 v1 v2 v3 : V} {m : Str} (h0 : ¬ m = "name" := by decide +kernel) (h1 : ¬ m = "vector" := by decide +kernel) (h2 : ¬ m = "fields" := by decide +kernel) (h3 : ¬ m = "words" := by decide +kernel) : (ff_Record v0 v1 v2 v3).lookup m = none := by
  unfold ff_Record
  rw [lookup_putF, if_neg h3, lookup_putF, if_neg h2, lookup_putF, if_neg h1, lookup_putF, if_neg h0]
  rfl
def ff_Sketch (v0 v1 v2 : V) : List (Str × V) := putF "cells" v2 (putF "centres" v1 (putF "parent" v0 []))
theorem lk_Sketch_parent {v0 v1 v2 : V} : (ff_Sketch v0 v1 v2).lookup ("parent" : Str) = some v0 := by
  unfold ff_Sketch
  rw [lookup_putF, if_neg (by decide +kernel), lookup_putF, if_neg (by decide +kernel), lookup_putF, if_pos rfl]
theorem lk_Sketch_centres {v0 v1 v2 : V} : (ff_Sketch v0 v1 v2).lookup ("centres" : Str) = some v1 := by
  unfold ff_Sketch
  rw [lookup_putF, if_neg (by decide +kernel), lookup_putF, if_pos rfl]
theorem lk_Sketch_cells {v0 v1 v2 : V} : (ff_Sketch v0 v1 v2).lookup ("cells" : Str) = some v2 := by
  unfold ff_Sketch
  rw [lookup_putF, if_pos rfl]
theorem no_Sketch {v0 v1 v2 : V} {m : Str} (h0 : ¬ m = "parent" := by decide +kernel) (h1 : ¬ m = "centres" := by decide +kernel) (h2 : ¬ m = "cells" := by decide +kernel) : (ff_Sketch v0 v1 v2).lookup m = none := by
  unfold ff_Sketch
  rw [lookup_putF, if_neg h2, lookup_putF, if_neg h1, lookup_putF, if_neg h0]
  rfl
def ff_Layout (v0 v1 : V) : List (Str × V) := putF "leaves" v1 (putF "sketches" v0 [])
theorem lk_Layout_sketches {v0 v1 : V} : (ff_Layout v0 v1).lookup ("sketches" : Str) = some v0 := by
  unfold ff_Layout
  rw [lookup_putF, if_neg (by decide +kernel), lookup_putF, if_pos rfl]
theorem lk_Layout_leaves {v0 v1 : V} : (ff_Layout v0 v1).lookup ("leaves" : Str) = some v1 := by
  unfold ff_Layout
  rw [lookup_putF, if_pos rfl]
theorem no_Layout {v0 v1 : V} {m : Str} (h0 : ¬ m = "sketches" := by decide +kernel) (h1 : ¬ m = "leaves" := by decide +kernel) : (ff_Layout v0 v1).lookup m = none := by
  unfold ff_Layout
  rw [lookup_putF, if_neg h1, lookup_putF, if_neg h0]
  rfl
def ff_Blocks (v0 : V) : List (Str × V) := putF "size" v0 []
theorem lk_Blocks_size {v0 : V} : (ff_Blocks v0).lookup ("size" : Str) = some v0 := by
  unfold ff_Blocks
  rw [lookup_putF, if_pos rfl]
theorem no_Blocks {v0 : V} {m : Str} (h0 : ¬ m = "size" := by decide +kernel) : (ff_Blocks v0).lookup m = none := by
  unfold ff_Blocks
  rw [lookup_putF, if_neg h0]
  rfl
def ff_SortedBlocks (v0 v1 : V) : List (Str × V) := putF "size" v1 (putF "field" v0 [])
theorem lk_SortedBlocks_field {v0 v1 : V} : (ff_SortedBlocks v0 v1).lookup ("field" : Str) = some v0 := by
  unfold ff_SortedBlocks
  rw [lookup_putF, if_neg (by decide +kernel), lookup_putF, if_pos rfl]
theorem lk_SortedBlocks_size {v0 v1 : V} : (ff_SortedBlocks v0 v1).lookup ("size" : Str) = some v1 := by
  unfold ff_SortedBlocks
  rw [lookup_putF, if_pos rfl]
theorem no_SortedBlocks {v0 v1 : V} {m : Str} (h0 : ¬ m = "field" := by decide +kernel) (h1 : ¬ m = "size" := by decide +kernel) : (ff_SortedBlocks v0 v1).lookup m = none := by
  unfold ff_SortedBlocks
  rw [lookup_putF, if_neg h1, lookup_putF, if_neg h0]
  rfl
def ff_Schema (v0 v1 v2 v3 : V) : List (Str × V) := putF "fields" v3 (putF "measure" v2 (putF "width" v1 (putF "size" v0 [])))
theorem lk_Schema_size {v0 v1 v2 v3 : V} : (ff_Schema v0 v1 v2 v3).lookup ("size" : Str) = some v0 := by
  unfold ff_Schema
  rw [lookup_putF, if_neg (by decide +kernel), lookup_putF, if_neg (by decide +kernel), lookup_putF, if_neg (by decide +kernel), lookup_putF, if_pos rfl]
theorem lk_Schema_width {v0 v1 v2 v3 : V} : (ff_Schema v0 v1 v2 v3).lookup ("width" : Str) = some v1 := by
  unfold ff_Schema
  rw [lookup_putF, if_neg (by decide +kernel), lookup_putF, if_neg (by decide +kernel), lookup_putF, if_pos rfl]
theorem lk_Schema_measure {v0 v1 v2 v3 : V} : (ff_Schema v0 v1 v2 v3).lookup ("measure" : Str) = some v2 := by
  unfold ff_Schema
  rw [lookup_putF, if_neg (by decide +kernel), lookup_putF, if_pos rfl]
theorem lk_Schema_fields {v0 v1 v2 v3 : V} : (ff_Schema v0 v1 v2 v3).lookup ("fields" : Str) = some v3 := by
  unfold ff_Schema
  rw [lookup_putF, if_pos rfl]
theorem no_Schema {v0 v1 v2 v3 : V} {m : Str} (h0 : ¬ m = "size" := by decide +kernel) (h1 : ¬ m = "width" := by decide +kernel) (h2 : ¬ m = "measure" := by decide +kernel) (h3 : ¬ m = "fields" := by decide +kernel) : (ff_Schema v0 v1 v2 v3).lookup m = none := by
  unfold ff_Schema
  rw [lookup_putF, if_neg h3, lookup_putF, if_neg h2, lookup_putF, if_neg h1, lookup_putF, if_neg h0]
  rfl
theorem putF_le {f : Str} {v : V} {fs : List (Str × V)} {n : Nat} (h : fs.length ≤ n) : (putF f v fs).length ≤ n + 1 := by
  induction fs generalizing n with
  | nil => show 1 ≤ n + 1; omega
  | cons x r ih =>
    obtain ⟨g, y⟩ := x
    show (if g = f then (g, v) :: r else (g, y) :: putF f v r).length ≤ n + 1
    rw [List.length_cons] at h
    by_cases e : g = f
    · rw [if_pos e, List.length_cons]; omega
    · rw [if_neg e, List.length_cons]
      have := ih (n := r.length) (Nat.le_refl _)
      omega
/-! what the top has made -/
set_option maxHeartbeats 0 in
structure Txt (w : World) (K : PySem.W.Frag) (mg : Str → Option Value) (base : Heap) where
  f_law_row : Addr
  d_law_row : FuncData
  F_law_row : Fun K "_law_row" "_law_row" s_law_row f_law_row d_law_row
  b_law_row : Binds K d_law_row ["script", "k"] []
  g_law_row : mg "_law_row" = some (.ref f_law_row)
  f_law_next : Addr
  d_law_next : FuncData
  F_law_next : Fun K "_law_next" "_law_next" s_law_next f_law_next d_law_next
  b_law_next : Binds K d_law_next ["state", "many"] []
  g_law_next : mg "_law_next" = some (.ref f_law_next)
  f_check_least : Addr
  d_check_least : FuncData
  F_check_least : Fun K "check_least" "check_least" s_check_least f_check_least d_check_least
  b_check_least : Binds K d_check_least ["least", "number"] []
  g_check_least : mg "check_least" = some (.ref f_check_least)
  f_Blocks___init__ : Addr
  d_Blocks___init__ : FuncData
  F_Blocks___init__ : Fun K "__init__" "Blocks.__init__" s_Blocks___init__ f_Blocks___init__ d_Blocks___init__
  b_Blocks___init__ : Binds K d_Blocks___init__ ["self", "size"] []
  f_SortedBlocks___init__ : Addr
  d_SortedBlocks___init__ : FuncData
  F_SortedBlocks___init__ : Fun K "__init__" "SortedBlocks.__init__" s_SortedBlocks___init__ f_SortedBlocks___init__ d_SortedBlocks___init__
  b_SortedBlocks___init__ : Binds K d_SortedBlocks___init__ ["self", "field", "size"] []
  f_law_made : Addr
  d_law_made : FuncData
  F_law_made : Fun K "_law_made" "_law_made" s_law_made f_law_made d_law_made
  b_law_made : Binds K d_law_made ["sort", "size"] []
  g_law_made : mg "_law_made" = some (.ref f_law_made)
  f_is_letter : Addr
  d_is_letter : FuncData
  F_is_letter : Fun K "is_letter" "is_letter" s_is_letter f_is_letter d_is_letter
  b_is_letter : Binds K d_is_letter ["char"] []
  g_is_letter : mg "is_letter" = some (.ref f_is_letter)
  f_is_digit : Addr
  d_is_digit : FuncData
  F_is_digit : Fun K "is_digit" "is_digit" s_is_digit f_is_digit d_is_digit
  b_is_digit : Binds K d_is_digit ["char"] []
  g_is_digit : mg "is_digit" = some (.ref f_is_digit)
  f_is_word : Addr
  d_is_word : FuncData
  F_is_word : Fun K "is_word" "is_word" s_is_word f_is_word d_is_word
  b_is_word : Binds K d_is_word ["text"] []
  g_is_word : mg "is_word" = some (.ref f_is_word)
  f_check_vectors : Addr
  d_check_vectors : FuncData
  F_check_vectors : Fun K "check_vectors" "check_vectors" s_check_vectors f_check_vectors d_check_vectors
  b_check_vectors : Binds K d_check_vectors ["size", "width", "measure"] []
  g_check_vectors : mg "check_vectors" = some (.ref f_check_vectors)
  f_check_fields : Addr
  d_check_fields : FuncData
  F_check_fields : Fun K "check_fields" "check_fields" s_check_fields f_check_fields d_check_fields
  b_check_fields : Binds K d_check_fields ["fields"] []
  g_check_fields : mg "check_fields" = some (.ref f_check_fields)
  f_Schema___init__ : Addr
  d_Schema___init__ : FuncData
  e_Schema___init___fields : Addr
  et_Schema___init___fields : ∀ H, SqT K H e_Schema___init___fields []
  F_Schema___init__ : FunD K "__init__" "Schema.__init__" (defArgs s_Schema___init__) (defBody s_Schema___init__) (defScope s_Schema___init__) [] [("width", .str "small"), ("measure", .str "square"), ("fields", .ref e_Schema___init___fields)] f_Schema___init__ d_Schema___init__
  kb_Schema___init__ : KBn K d_Schema___init__ ["self", "size", "width", "measure", "fields"] 2 ["width", "measure", "fields"] (fun us ws => us ++ ws) (fun vs zs => vs ++ zs)
  mv_Schema___init___k0 : List Value
  kb_Schema___init___k0 : KBn K d_Schema___init__ ["self", "size", "width", "measure", "fields"] 2 ["fields"] (fun us ws => us ++ ((mv_Schema___init___k0.drop 0).take 1 ++ ((mv_Schema___init___k0.drop 1).take 1 ++ ((ws.drop 0).take 1)))) (fun vs zs => vs ++ (([.str "small", .str "square"].drop 0).take 1 ++ (([.str "small", .str "square"].drop 1).take 1 ++ ((zs.drop 0).take 1))))
  ds_Schema___init__ : List Value
  v_Schema___init__ : Vals [.str "small", .str "square", .ref e_Schema___init___fields] ds_Schema___init__
  b_Schema___init__ : Binds K d_Schema___init__ ["self", "size", "width", "measure", "fields"] ds_Schema___init__
  f_law_shown : Addr
  d_law_shown : FuncData
  F_law_shown : Fun K "_law_shown" "_law_shown" s_law_shown f_law_shown d_law_shown
  b_law_shown : Binds K d_law_shown ["layout"] []
  g_law_shown : mg "_law_shown" = some (.ref f_law_shown)
  f_law_due : Addr
  d_law_due : FuncData
  F_law_due : Fun K "_law_due" "_law_due" s_law_due f_law_due d_law_due
  b_law_due : Binds K d_law_due ["order", "size"] []
  g_law_due : mg "_law_due" = some (.ref f_law_due)
  f_Record___init__ : Addr
  d_Record___init__ : FuncData
  e_Record___init___fields : Addr
  et_Record___init___fields : ∀ H, SqT K H e_Record___init___fields []
  e_Record___init___words : Addr
  et_Record___init___words : ∀ H, SqT K H e_Record___init___words []
  F_Record___init__ : FunD K "__init__" "Record.__init__" (defArgs s_Record___init__) (defBody s_Record___init__) (defScope s_Record___init__) [] [("fields", .ref e_Record___init___fields), ("words", .ref e_Record___init___words)] f_Record___init__ d_Record___init__
  kb_Record___init__ : KBn K d_Record___init__ ["self", "name", "vector", "fields", "words"] 3 ["fields", "words"] (fun us ws => us ++ ws) (fun vs zs => vs ++ zs)
  mv_Record___init___k0 : List Value
  kb_Record___init___k0 : KBn K d_Record___init__ ["self", "name", "vector", "fields", "words"] 3 ["fields"] (fun us ws => us ++ ((ws.drop 0).take 1 ++ ((mv_Record___init___k0.drop 0).take 1))) (fun vs zs => vs ++ ((zs.drop 0).take 1 ++ (([.ref e_Record___init___words].drop 0).take 1)))
  ds_Record___init__ : List Value
  v_Record___init__ : Vals [.ref e_Record___init___fields, .ref e_Record___init___words] ds_Record___init__
  b_Record___init__ : Binds K d_Record___init__ ["self", "name", "vector", "fields", "words"] ds_Record___init__
  f_Layout___init__ : Addr
  d_Layout___init__ : FuncData
  F_Layout___init__ : Fun K "__init__" "Layout.__init__" s_Layout___init__ f_Layout___init__ d_Layout___init__
  b_Layout___init__ : Binds K d_Layout___init__ ["self", "sketches", "leaves"] []
  f_Sketch___init__ : Addr
  d_Sketch___init__ : FuncData
  e_Sketch___init___centres : Addr
  et_Sketch___init___centres : ∀ H, SqT K H e_Sketch___init___centres []
  e_Sketch___init___cells : Addr
  et_Sketch___init___cells : ∀ H, SqT K H e_Sketch___init___cells []
  F_Sketch___init__ : FunD K "__init__" "Sketch.__init__" (defArgs s_Sketch___init__) (defBody s_Sketch___init__) (defScope s_Sketch___init__) [] [("centres", .ref e_Sketch___init___centres), ("cells", .ref e_Sketch___init___cells)] f_Sketch___init__ d_Sketch___init__
  kb_Sketch___init__ : KBn K d_Sketch___init__ ["self", "parent", "centres", "cells"] 2 ["centres", "cells"] (fun us ws => us ++ ws) (fun vs zs => vs ++ zs)
  ds_Sketch___init__ : List Value
  v_Sketch___init__ : Vals [.ref e_Sketch___init___centres, .ref e_Sketch___init___cells] ds_Sketch___init__
  b_Sketch___init__ : Binds K d_Sketch___init__ ["self", "parent", "centres", "cells"] ds_Sketch___init__
  f_block_layout : Addr
  d_block_layout : FuncData
  F_block_layout : Fun K "block_layout" "block_layout" s_block_layout f_block_layout d_block_layout
  b_block_layout : Binds K d_block_layout ["order", "size"] []
  g_block_layout : mg "block_layout" = some (.ref f_block_layout)
  f_Blocks_layout : Addr
  d_Blocks_layout : FuncData
  F_Blocks_layout : Fun K "layout" "Blocks.layout" s_Blocks_layout f_Blocks_layout d_Blocks_layout
  b_Blocks_layout : Binds K d_Blocks_layout ["self", "schema", "records"] []
  f_Record_value : Addr
  d_Record_value : FuncData
  F_Record_value : Fun K "value" "Record.value" s_Record_value f_Record_value d_Record_value
  b_Record_value : Binds K d_Record_value ["self", "name"] []
  f_SortedBlocks_layout : Addr
  d_SortedBlocks_layout : FuncData
  F_SortedBlocks_layout : Fun K "layout" "SortedBlocks.layout" s_SortedBlocks_layout f_SortedBlocks_layout d_SortedBlocks_layout
  b_SortedBlocks_layout : Binds K d_SortedBlocks_layout ["self", "schema", "records"] []
  k_SortedBlocks_layout : Addr
  P_SortedBlocks_layout : Addr
  L_SortedBlocks_layout : FunC K "layout" "SortedBlocks.layout" s_SortedBlocks_layout k_SortedBlocks_layout f_SortedBlocks_layout d_SortedBlocks_layout
  tb_SortedBlocks_layout : LamX.TabB base mg k_SortedBlocks_layout P_SortedBlocks_layout
  f_law : Addr
  d_law : FuncData
  F_law : Fun K "law" "law" s_law f_law d_law
  b_law : Binds K d_law ["script"] []
  g_law : mg "law" = some (.ref f_law)
  c_InvalidRule : Addr
  mc_InvalidRule : mg "InvalidRule" = some (.ref c_InvalidRule)
  kp_InvalidRule : PySem.W.keepIn K (.ref c_InvalidRule) = true
  x_InvalidRule : PySem.W.excIn K c_InvalidRule [.type "ValueError", .type "Exception", .type "BaseException", .type "object"] "ValueError.__new__" = true
  xb_InvalidRule : PySem.W.subIn K (.ref c_InvalidRule) (.type "BaseException") = some true
  xt_InvalidRule : PySem.W.typeIn K (.ref c_InvalidRule) = some (.type "type")
  c_InvalidSchema : Addr
  mc_InvalidSchema : mg "InvalidSchema" = some (.ref c_InvalidSchema)
  kp_InvalidSchema : PySem.W.keepIn K (.ref c_InvalidSchema) = true
  x_InvalidSchema : PySem.W.excIn K c_InvalidSchema [.type "ValueError", .type "Exception", .type "BaseException", .type "object"] "ValueError.__new__" = true
  xb_InvalidSchema : PySem.W.subIn K (.ref c_InvalidSchema) (.type "BaseException") = some true
  xt_InvalidSchema : PySem.W.typeIn K (.ref c_InvalidSchema) = some (.type "type")
  c_SurenearError : Addr
  mc_SurenearError : mg "SurenearError" = some (.ref c_SurenearError)
  kp_SurenearError : PySem.W.keepIn K (.ref c_SurenearError) = true
  x_SurenearError : PySem.W.excIn K c_SurenearError [.type "ValueError", .type "Exception", .type "BaseException", .type "object"] "ValueError.__new__" = true
  xb_SurenearError : PySem.W.subIn K (.ref c_SurenearError) (.type "BaseException") = some true
  xt_SurenearError : PySem.W.typeIn K (.ref c_SurenearError) = some (.type "type")
  xm_InvalidSchema_InvalidRule : PySem.W.exmOne K (.ref c_InvalidSchema) (.ref c_InvalidRule) = some false
  xm_InvalidSchema_SurenearError : PySem.W.exmOne K (.ref c_InvalidSchema) (.ref c_SurenearError) = some true
  xm_InvalidRule_InvalidRule : PySem.W.exmOne K (.ref c_InvalidRule) (.ref c_InvalidRule) = some true
  c_Record : Addr
  cl_Record : Cls K c_Record
  mc_Record : mg "Record" = some (.ref c_Record)
  n_Record_name : NoAttr K c_Record "name"
  n_Record_vector : NoAttr K c_Record "vector"
  n_Record_fields : NoAttr K c_Record "fields"
  n_Record_words : NoAttr K c_Record "words"
  mk_Record : Mk K c_Record f_Record___init__
  me_Record_value : Meth K c_Record "value" f_Record_value
  c_Sketch : Addr
  cl_Sketch : Cls K c_Sketch
  mc_Sketch : mg "Sketch" = some (.ref c_Sketch)
  n_Sketch_parent : NoAttr K c_Sketch "parent"
  n_Sketch_centres : NoAttr K c_Sketch "centres"
  n_Sketch_cells : NoAttr K c_Sketch "cells"
  mk_Sketch : Mk K c_Sketch f_Sketch___init__
  c_Layout : Addr
  cl_Layout : Cls K c_Layout
  mc_Layout : mg "Layout" = some (.ref c_Layout)
  n_Layout_sketches : NoAttr K c_Layout "sketches"
  n_Layout_leaves : NoAttr K c_Layout "leaves"
  mk_Layout : Mk K c_Layout f_Layout___init__
  c_Blocks : Addr
  cl_Blocks : Cls K c_Blocks
  mc_Blocks : mg "Blocks" = some (.ref c_Blocks)
  n_Blocks_size : NoAttr K c_Blocks "size"
  mk_Blocks : Mk K c_Blocks f_Blocks___init__
  me_Blocks_layout : Meth K c_Blocks "layout" f_Blocks_layout
  c_SortedBlocks : Addr
  cl_SortedBlocks : Cls K c_SortedBlocks
  mc_SortedBlocks : mg "SortedBlocks" = some (.ref c_SortedBlocks)
  n_SortedBlocks_field : NoAttr K c_SortedBlocks "field"
  n_SortedBlocks_size : NoAttr K c_SortedBlocks "size"
  mk_SortedBlocks : Mk K c_SortedBlocks f_SortedBlocks___init__
  me_SortedBlocks_layout : Meth K c_SortedBlocks "layout" f_SortedBlocks_layout
  c_Schema : Addr
  cl_Schema : Cls K c_Schema
  mc_Schema : mg "Schema" = some (.ref c_Schema)
  n_Schema_size : NoAttr K c_Schema "size"
  n_Schema_width : NoAttr K c_Schema "width"
  n_Schema_measure : NoAttr K c_Schema "measure"
  n_Schema_fields : NoAttr K c_Schema "fields"
  mk_Schema : Mk K c_Schema f_Schema___init__
  a_KINDS : Addr
  m_KINDS : mg "KINDS" = some (.ref a_KINDS)
  sq_KINDS : ∀ H, SqT K H a_KINDS [.str "integer", .str "text", .str "flag"]
  a_MEASURES : Addr
  m_MEASURES : mg "MEASURES" = some (.ref a_MEASURES)
  sq_MEASURES : ∀ H, SqT K H a_MEASURES [.str "square", .str "dot", .str "bits"]
  a_RESERVED : Addr
  m_RESERVED : mg "RESERVED" = some (.ref a_RESERVED)
  sq_RESERVED : ∀ H, SqT K H a_RESERVED [.str "every", .str "has", .str "in", .str "and", .str "or", .str "not", .str "true", .str "false"]
  a_WIDTHS : Addr
  m_WIDTHS : mg "WIDTHS" = some (.ref a_WIDTHS)
  es_WIDTHS : Array DictEntry
  en_WIDTHS : Nat
  kd_WIDTHS : KDict K w a_WIDTHS es_WIDTHS en_WIDTHS
  av_WIDTHS_bit : Addr
  ns_WIDTHS_bit : PySem.W.nsIn K a_WIDTHS "bit" = some (some (.ref av_WIDTHS_bit))
  sv_WIDTHS_bit : ∀ H, SqT K H av_WIDTHS_bit [.int (0), .int (1)]
  av_WIDTHS_small : Addr
  ns_WIDTHS_small : PySem.W.nsIn K a_WIDTHS "small" = some (some (.ref av_WIDTHS_small))
  sv_WIDTHS_small : ∀ H, SqT K H av_WIDTHS_small [.int (-128), .int (127)]
  av_WIDTHS_wide : Addr
  ns_WIDTHS_wide : PySem.W.nsIn K a_WIDTHS "wide" = some (some (.ref av_WIDTHS_wide))
  sv_WIDTHS_wide : ∀ H, SqT K H av_WIDTHS_wide [.int (-32768), .int (32767)]
  m_all : mg "all" = none
  m_enumerate : mg "enumerate" = none
  m_int : mg "int" = none
  m_len : mg "len" = none
  m_list : mg "list" = none
  m_range : mg "range" = none
  m_set : mg "set" = none
  m_sorted : mg "sorted" = none
  m_str : mg "str" = none
  m_tuple : mg "tuple" = none
section
variable {P : Program} {w : World} {K : PySem.W.Frag} {mg : Str → Option Value} {base : Heap}
def y_Val (T : Txt w K mg base) : Ty Val := ⟨fun Z v x => match x with
  | .i y => (yInt).r Z v y
  | .t y => (yStr).r Z v y
  | .b y => (yBool).r Z v y,
  fun {Z Z2 v x} s h => match x, h with
  | .i y, h => (yInt).mono s h
  | .t y, h => (yStr).mono s h
  | .b y, h => (yBool).mono s h⟩
theorem nn_Val (T : Txt w K mg base) : NonNil (y_Val T) := fun Z v x h => match x, h with
  | .i y, h => nn_int Z v y h
  | .t y, h => nn_str Z v y h
  | .b y, h => nn_bool Z v y h
theorem ij_Val_i (T : Txt w K mg base) {μ : Type} {M : Mu μ} {σ : L2.St} {Z H : Hp} {s s1 : μ} {ta : TE} {x : Int} (h : Ev M ta σ Z H s (ty yInt x) s1) : Ev M ta σ Z H s (ty (y_Val T) (.i x)) s1 := h.weak fun _ _ _ _ e => e
theorem pj_Val_i (T : Txt w K mg base) {μ : Type} {M : Mu μ} {σ : L2.St} {Z H : Hp} {s s1 : μ} {ta : TE} {x : Val} {y : Int} (h : Ev M ta σ Z H s (ty (y_Val T) x) s1) (e : x.p_i = some y) : Ev M ta σ Z H s (ty yInt y) s1 := by
  cases x <;> first | (have e := Option.some.inj e; subst e; exact h.weak fun _ _ _ _ e => e) | cases e
theorem ij_Val_t (T : Txt w K mg base) {μ : Type} {M : Mu μ} {σ : L2.St} {Z H : Hp} {s s1 : μ} {ta : TE} {x : Str} (h : Ev M ta σ Z H s (ty yStr x) s1) : Ev M ta σ Z H s (ty (y_Val T) (.t x)) s1 := h.weak fun _ _ _ _ e => e
theorem pj_Val_t (T : Txt w K mg base) {μ : Type} {M : Mu μ} {σ : L2.St} {Z H : Hp} {s s1 : μ} {ta : TE} {x : Val} {y : Str} (h : Ev M ta σ Z H s (ty (y_Val T) x) s1) (e : x.p_t = some y) : Ev M ta σ Z H s (ty yStr y) s1 := by
  cases x <;> first | (have e := Option.some.inj e; subst e; exact h.weak fun _ _ _ _ e => e) | cases e
theorem ij_Val_b (T : Txt w K mg base) {μ : Type} {M : Mu μ} {σ : L2.St} {Z H : Hp} {s s1 : μ} {ta : TE} {x : Bool} (h : Ev M ta σ Z H s (ty yBool x) s1) : Ev M ta σ Z H s (ty (y_Val T) (.b x)) s1 := h.weak fun _ _ _ _ e => e
theorem pj_Val_b (T : Txt w K mg base) {μ : Type} {M : Mu μ} {σ : L2.St} {Z H : Hp} {s s1 : μ} {ta : TE} {x : Val} {y : Bool} (h : Ev M ta σ Z H s (ty (y_Val T) x) s1) (e : x.p_b = some y) : Ev M ta σ Z H s (ty yBool y) s1 := by
  cases x <;> first | (have e := Option.some.inj e; subst e; exact h.weak fun _ _ _ _ e => e) | cases e
theorem eqw_Val (T : Txt w K mg base) : EqW K (y_Val T) d_Val 8 where
  dp := fun Z H v x sz h => match x, h with
    | .i y, h => EqW.dp (K := K) (τ := yInt) eqd_int.w Z H v y sz h
    | .t y, h => EqW.dp (K := K) (τ := yStr) eqd_str.w Z H v y sz h
    | .b y, h => EqW.dp (K := K) (τ := yBool) eqd_bool.w Z H v y sz h
  lay := fun Z v x h => match x, h with
    | .i y, h => EqW.lay (K := K) (τ := yInt) eqd_int.w Z v y h
    | .t y, h => EqW.lay (K := K) (τ := yStr) eqd_str.w Z v y h
    | .b y, h => EqW.lay (K := K) (τ := yBool) eqd_bool.w Z v y h
  dep := fun x => match x with
    | .i y => Nat.le_trans (EqW.dep (K := K) (τ := yInt) eqd_int.w y) (by decide)
    | .t y => Nat.le_trans (EqW.dep (K := K) (τ := yStr) eqd_str.w y) (by decide)
    | .b y => Nat.le_trans (EqW.dep (K := K) (τ := yBool) eqd_bool.w y) (by decide)
theorem tv_Val (T : Txt w K mg base) : ∀ Z v x, (y_Val T).r Z v x → v = x.toV := fun Z v x h => match x, h with
  | .i y, h => h
  | .t y, h => h.1
  | .b y, h => h
theorem sk_Val (T : Txt w K mg base) : ∀ Z v x, (y_Val T).r Z v x → SLam.Sc v (d_Val x) := fun Z v x h => match x, h with
  | .i y, h => (by rw [show v = V.int _ from h]; rfl)
  | .t y, h => (by rw [show v = V.str _ from h.1]; rfl)
  | .b y, h => (by rw [show v = V.bl _ from h]; rfl)
def y_Record (T : Txt w K mg base) : Ty Record := ⟨fun Z v x => ∃ a dx w0 w1 w2 w3, v = .ref a ∧ Z a = some (.ins T.c_Record dx (ff_Record w0 w1 w2 w3)) ∧ (yStr).r Z w0 x.name ∧ ((yTup K yInt)).r Z w1 x.vector ∧ ((yTup K (yP2 K yStr (y_Val T)))).r Z w2 x.fields ∧ ((yTup K (yP2 K yStr yInt))).r Z w3 x.words,
  fun s ⟨a, dx, w0, w1, w2, w3, e, h, h0, h1, h2, h3⟩ => ⟨a, dx, w0, w1, w2, w3, e, s _ _ h, (yStr).mono s h0, ((yTup K yInt)).mono s h1, ((yTup K (yP2 K yStr (y_Val T)))).mono s h2, ((yTup K (yP2 K yStr yInt))).mono s h3⟩⟩
theorem nn_Record (T : Txt w K mg base) : NonNil (y_Record T) := fun _ _ _ ⟨_, _, _, _, _, _, e, _⟩ => by rw [e]; exact fun z => nomatch z
theorem fo_Record_name (T : Txt w K mg base) : FldOf (y_Record T) T.c_Record "name" yStr Record.name := fun _ _ _ ⟨a, dx, w0, w1, w2, w3, e, h, h0, h1, h2, h3⟩ => ⟨a, dx, _, w0, e, h, lk_Record_name, h0⟩
theorem fo_Record_vector (T : Txt w K mg base) : FldOf (y_Record T) T.c_Record "vector" (yTup K yInt) Record.vector := fun _ _ _ ⟨a, dx, w0, w1, w2, w3, e, h, h0, h1, h2, h3⟩ => ⟨a, dx, _, w1, e, h, lk_Record_vector, h1⟩
theorem fo_Record_fields (T : Txt w K mg base) : FldOf (y_Record T) T.c_Record "fields" (yTup K (yP2 K yStr (y_Val T))) Record.fields := fun _ _ _ ⟨a, dx, w0, w1, w2, w3, e, h, h0, h1, h2, h3⟩ => ⟨a, dx, _, w2, e, h, lk_Record_fields, h2⟩
theorem fo_Record_words (T : Txt w K mg base) : FldOf (y_Record T) T.c_Record "words" (yTup K (yP2 K yStr yInt)) Record.words := fun _ _ _ ⟨a, dx, w0, w1, w2, w3, e, h, h0, h1, h2, h3⟩ => ⟨a, dx, _, w3, e, h, lk_Record_words, h3⟩
theorem oo_Record (T : Txt w K mg base) {m : Str} (h : ¬ m = "name" ∧ ¬ m = "vector" ∧ ¬ m = "fields" ∧ ¬ m = "words") : ObjOf (y_Record T) T.c_Record m := fun _ _ _ ⟨a, dx, w0, w1, w2, w3, e, g, _⟩ => ⟨a, dx, _, e, g, no_Record (h.1) (h.2.1) (h.2.2.1) (h.2.2.2)⟩
def y_Sketch (T : Txt w K mg base) : Ty Sketch := ⟨fun Z v x => ∃ a dx w0 w1 w2, v = .ref a ∧ Z a = some (.ins T.c_Sketch dx (ff_Sketch w0 w1 w2)) ∧ ((yOpt yInt)).r Z w0 x.parent ∧ ((yTup K (yP2 K yInt (yTup K yInt)))).r Z w1 x.centres ∧ ((yTup K (yP2 K (yTup K yInt) (yTup K yInt)))).r Z w2 x.cells,
  fun s ⟨a, dx, w0, w1, w2, e, h, h0, h1, h2⟩ => ⟨a, dx, w0, w1, w2, e, s _ _ h, ((yOpt yInt)).mono s h0, ((yTup K (yP2 K yInt (yTup K yInt)))).mono s h1, ((yTup K (yP2 K (yTup K yInt) (yTup K yInt)))).mono s h2⟩⟩
theorem nn_Sketch (T : Txt w K mg base) : NonNil (y_Sketch T) := fun _ _ _ ⟨_, _, _, _, _, e, _⟩ => by rw [e]; exact fun z => nomatch z
theorem fo_Sketch_parent (T : Txt w K mg base) : FldOf (y_Sketch T) T.c_Sketch "parent" (yOpt yInt) Sketch.parent := fun _ _ _ ⟨a, dx, w0, w1, w2, e, h, h0, h1, h2⟩ => ⟨a, dx, _, w0, e, h, lk_Sketch_parent, h0⟩
theorem fo_Sketch_centres (T : Txt w K mg base) : FldOf (y_Sketch T) T.c_Sketch "centres" (yTup K (yP2 K yInt (yTup K yInt))) Sketch.centres := fun _ _ _ ⟨a, dx, w0, w1, w2, e, h, h0, h1, h2⟩ => ⟨a, dx, _, w1, e, h, lk_Sketch_centres, h1⟩
theorem fo_Sketch_cells (T : Txt w K mg base) : FldOf (y_Sketch T) T.c_Sketch "cells" (yTup K (yP2 K (yTup K yInt) (yTup K yInt))) Sketch.cells := fun _ _ _ ⟨a, dx, w0, w1, w2, e, h, h0, h1, h2⟩ => ⟨a, dx, _, w2, e, h, lk_Sketch_cells, h2⟩
theorem oo_Sketch (T : Txt w K mg base) {m : Str} (h : ¬ m = "parent" ∧ ¬ m = "centres" ∧ ¬ m = "cells") : ObjOf (y_Sketch T) T.c_Sketch m := fun _ _ _ ⟨a, dx, w0, w1, w2, e, g, _⟩ => ⟨a, dx, _, e, g, no_Sketch (h.1) (h.2.1) (h.2.2)⟩
def y_Layout (T : Txt w K mg base) : Ty Layout := ⟨fun Z v x => ∃ a dx w0 w1, v = .ref a ∧ Z a = some (.ins T.c_Layout dx (ff_Layout w0 w1)) ∧ ((yTup K (y_Sketch T))).r Z w0 x.sketches ∧ ((yTup K yInt)).r Z w1 x.leaves,
  fun s ⟨a, dx, w0, w1, e, h, h0, h1⟩ => ⟨a, dx, w0, w1, e, s _ _ h, ((yTup K (y_Sketch T))).mono s h0, ((yTup K yInt)).mono s h1⟩⟩
theorem nn_Layout (T : Txt w K mg base) : NonNil (y_Layout T) := fun _ _ _ ⟨_, _, _, _, e, _⟩ => by rw [e]; exact fun z => nomatch z
theorem fo_Layout_sketches (T : Txt w K mg base) : FldOf (y_Layout T) T.c_Layout "sketches" (yTup K (y_Sketch T)) Layout.sketches := fun _ _ _ ⟨a, dx, w0, w1, e, h, h0, h1⟩ => ⟨a, dx, _, w0, e, h, lk_Layout_sketches, h0⟩
theorem fo_Layout_leaves (T : Txt w K mg base) : FldOf (y_Layout T) T.c_Layout "leaves" (yTup K yInt) Layout.leaves := fun _ _ _ ⟨a, dx, w0, w1, e, h, h0, h1⟩ => ⟨a, dx, _, w1, e, h, lk_Layout_leaves, h1⟩
theorem oo_Layout (T : Txt w K mg base) {m : Str} (h : ¬ m = "sketches" ∧ ¬ m = "leaves") : ObjOf (y_Layout T) T.c_Layout m := fun _ _ _ ⟨a, dx, w0, w1, e, g, _⟩ => ⟨a, dx, _, e, g, no_Layout (h.1) (h.2)⟩
def y_Blocks (T : Txt w K mg base) : Ty Blocks := ⟨fun Z v x => ∃ a dx w0, v = .ref a ∧ Z a = some (.ins T.c_Blocks dx (ff_Blocks w0)) ∧ (yInt).r Z w0 x.size,
  fun s ⟨a, dx, w0, e, h, h0⟩ => ⟨a, dx, w0, e, s _ _ h, (yInt).mono s h0⟩⟩
theorem nn_Blocks (T : Txt w K mg base) : NonNil (y_Blocks T) := fun _ _ _ ⟨_, _, _, e, _⟩ => by rw [e]; exact fun z => nomatch z
theorem fo_Blocks_size (T : Txt w K mg base) : FldOf (y_Blocks T) T.c_Blocks "size" yInt Blocks.size := fun _ _ _ ⟨a, dx, w0, e, h, h0⟩ => ⟨a, dx, _, w0, e, h, lk_Blocks_size, h0⟩
theorem oo_Blocks (T : Txt w K mg base) {m : Str} (h : ¬ m = "size") : ObjOf (y_Blocks T) T.c_Blocks m := fun _ _ _ ⟨a, dx, w0, e, g, _⟩ => ⟨a, dx, _, e, g, no_Blocks (h)⟩
def y_SortedBlocks (T : Txt w K mg base) : Ty SortedBlocks := ⟨fun Z v x => ∃ a dx w0 w1, v = .ref a ∧ Z a = some (.ins T.c_SortedBlocks dx (ff_SortedBlocks w0 w1)) ∧ (yStr).r Z w0 x.field ∧ (yInt).r Z w1 x.size,
  fun s ⟨a, dx, w0, w1, e, h, h0, h1⟩ => ⟨a, dx, w0, w1, e, s _ _ h, (yStr).mono s h0, (yInt).mono s h1⟩⟩
theorem nn_SortedBlocks (T : Txt w K mg base) : NonNil (y_SortedBlocks T) := fun _ _ _ ⟨_, _, _, _, e, _⟩ => by rw [e]; exact fun z => nomatch z
theorem fo_SortedBlocks_field (T : Txt w K mg base) : FldOf (y_SortedBlocks T) T.c_SortedBlocks "field" yStr SortedBlocks.field := fun _ _ _ ⟨a, dx, w0, w1, e, h, h0, h1⟩ => ⟨a, dx, _, w0, e, h, lk_SortedBlocks_field, h0⟩
theorem fo_SortedBlocks_size (T : Txt w K mg base) : FldOf (y_SortedBlocks T) T.c_SortedBlocks "size" yInt SortedBlocks.size := fun _ _ _ ⟨a, dx, w0, w1, e, h, h0, h1⟩ => ⟨a, dx, _, w1, e, h, lk_SortedBlocks_size, h1⟩
theorem oo_SortedBlocks (T : Txt w K mg base) {m : Str} (h : ¬ m = "field" ∧ ¬ m = "size") : ObjOf (y_SortedBlocks T) T.c_SortedBlocks m := fun _ _ _ ⟨a, dx, w0, w1, e, g, _⟩ => ⟨a, dx, _, e, g, no_SortedBlocks (h.1) (h.2)⟩
def y_Schema (T : Txt w K mg base) : Ty Schema := ⟨fun Z v x => ∃ a dx w0 w1 w2 w3, v = .ref a ∧ Z a = some (.ins T.c_Schema dx (ff_Schema w0 w1 w2 w3)) ∧ (yInt).r Z w0 x.size ∧ (yStr).r Z w1 x.width ∧ (yStr).r Z w2 x.measure ∧ ((yTup K (yP2 K yStr yStr))).r Z w3 x.fields,
  fun s ⟨a, dx, w0, w1, w2, w3, e, h, h0, h1, h2, h3⟩ => ⟨a, dx, w0, w1, w2, w3, e, s _ _ h, (yInt).mono s h0, (yStr).mono s h1, (yStr).mono s h2, ((yTup K (yP2 K yStr yStr))).mono s h3⟩⟩
theorem nn_Schema (T : Txt w K mg base) : NonNil (y_Schema T) := fun _ _ _ ⟨_, _, _, _, _, _, e, _⟩ => by rw [e]; exact fun z => nomatch z
theorem fo_Schema_size (T : Txt w K mg base) : FldOf (y_Schema T) T.c_Schema "size" yInt Schema.size := fun _ _ _ ⟨a, dx, w0, w1, w2, w3, e, h, h0, h1, h2, h3⟩ => ⟨a, dx, _, w0, e, h, lk_Schema_size, h0⟩
theorem fo_Schema_width (T : Txt w K mg base) : FldOf (y_Schema T) T.c_Schema "width" yStr Schema.width := fun _ _ _ ⟨a, dx, w0, w1, w2, w3, e, h, h0, h1, h2, h3⟩ => ⟨a, dx, _, w1, e, h, lk_Schema_width, h1⟩
theorem fo_Schema_measure (T : Txt w K mg base) : FldOf (y_Schema T) T.c_Schema "measure" yStr Schema.measure := fun _ _ _ ⟨a, dx, w0, w1, w2, w3, e, h, h0, h1, h2, h3⟩ => ⟨a, dx, _, w2, e, h, lk_Schema_measure, h2⟩
theorem fo_Schema_fields (T : Txt w K mg base) : FldOf (y_Schema T) T.c_Schema "fields" (yTup K (yP2 K yStr yStr)) Schema.fields := fun _ _ _ ⟨a, dx, w0, w1, w2, w3, e, h, h0, h1, h2, h3⟩ => ⟨a, dx, _, w3, e, h, lk_Schema_fields, h3⟩
theorem oo_Schema (T : Txt w K mg base) {m : Str} (h : ¬ m = "size" ∧ ¬ m = "width" ∧ ¬ m = "measure" ∧ ¬ m = "fields") : ObjOf (y_Schema T) T.c_Schema m := fun _ _ _ ⟨a, dx, w0, w1, w2, w3, e, g, _⟩ => ⟨a, dx, _, e, g, no_Schema (h.1) (h.2.1) (h.2.2.1) (h.2.2.2)⟩
def y_Lay (T : Txt w K mg base) : Ty Lay := ⟨fun Z v x => match x with
  | .s y => ((y_SortedBlocks T)).r Z v y
  | .p y => ((y_Blocks T)).r Z v y,
  fun {Z Z2 v x} s h => match x, h with
  | .s y, h => ((y_SortedBlocks T)).mono s h
  | .p y, h => ((y_Blocks T)).mono s h⟩
theorem nn_Lay (T : Txt w K mg base) : NonNil (y_Lay T) := fun Z v x h => match x, h with
  | .s y, h => (nn_SortedBlocks T) Z v y h
  | .p y, h => (nn_Blocks T) Z v y h
theorem ij_Lay_s (T : Txt w K mg base) {μ : Type} {M : Mu μ} {σ : L2.St} {Z H : Hp} {s s1 : μ} {ta : TE} {x : SortedBlocks} (h : Ev M ta σ Z H s (ty (y_SortedBlocks T) x) s1) : Ev M ta σ Z H s (ty (y_Lay T) (.s x)) s1 := h.weak fun _ _ _ _ e => e
theorem pj_Lay_s (T : Txt w K mg base) {μ : Type} {M : Mu μ} {σ : L2.St} {Z H : Hp} {s s1 : μ} {ta : TE} {x : Lay} {y : SortedBlocks} (h : Ev M ta σ Z H s (ty (y_Lay T) x) s1) (e : x.p_s = some y) : Ev M ta σ Z H s (ty (y_SortedBlocks T) y) s1 := by
  cases x <;> first | (have e := Option.some.inj e; subst e; exact h.weak fun _ _ _ _ e => e) | cases e
theorem ij_Lay_p (T : Txt w K mg base) {μ : Type} {M : Mu μ} {σ : L2.St} {Z H : Hp} {s s1 : μ} {ta : TE} {x : Blocks} (h : Ev M ta σ Z H s (ty (y_Blocks T) x) s1) : Ev M ta σ Z H s (ty (y_Lay T) (.p x)) s1 := h.weak fun _ _ _ _ e => e
theorem pj_Lay_p (T : Txt w K mg base) {μ : Type} {M : Mu μ} {σ : L2.St} {Z H : Hp} {s s1 : μ} {ta : TE} {x : Lay} {y : Blocks} (h : Ev M ta σ Z H s (ty (y_Lay T) x) s1) (e : x.p_p = some y) : Ev M ta σ Z H s (ty (y_Blocks T) y) s1 := by
  cases x <;> first | (have e := Option.some.inj e; subst e; exact h.weak fun _ _ _ _ e => e) | cases e
theorem ev_in_WIDTHS (T : Txt w K mg base) {μ : Type} {M : Mu μ} {σ : L2.St} {Z H : Hp} {s s1 : μ} {ta : TE} {z : Str} {b : Bool} (ha : Ev M ta σ Z H s (ty yStr z) s1) (h : in_WIDTHS z = some b) :
    Ev M (tOp (fun x y H Q => ∃ (z : Str) (r : Option Value), x = .str z ∧ y = .ref T.a_WIDTHS ∧ PySem.W.nsIn K T.a_WIDTHS z = some r ∧ Q (.bl (r.isSome)) H) ta (tC (.ref T.a_WIDTHS))) σ Z H s (ty yBool (b)) s1 := by
  have key : ∃ r, PySem.W.nsIn K T.a_WIDTHS z = some r ∧ r.isSome = b := by
    unfold in_WIDTHS at h
    by_cases q : z = "bit"
    · subst q
      rw [if_pos rfl] at h
      have h := Option.some.inj h
      subst h
      exact ⟨_, T.ns_WIDTHS_bit, rfl⟩
    rw [if_neg q] at h
    by_cases q : z = "small"
    · subst q
      rw [if_pos rfl] at h
      have h := Option.some.inj h
      subst h
      exact ⟨_, T.ns_WIDTHS_small, rfl⟩
    rw [if_neg q] at h
    by_cases q : z = "wide"
    · subst q
      rw [if_pos rfl] at h
      have h := Option.some.inj h
      subst h
      exact ⟨_, T.ns_WIDTHS_wide, rfl⟩
    rw [if_neg q] at h
    cases h
  obtain ⟨r, hr, hb⟩ := key
  subst hb
  exact ev_op ha (ev_of (R := ⟨fun _ _ v => v = .ref T.a_WIDTHS, fun _ h => h⟩) fun _ _ _ _ _ _ q => q _ rfl) fun _ _ _ _ sz e1 e2 _ q => ⟨z, r, e1.1, e2, hr, q _ _ _ (Step.refl sz) rfl⟩
theorem ev_notin_WIDTHS (T : Txt w K mg base) {μ : Type} {M : Mu μ} {σ : L2.St} {Z H : Hp} {s s1 : μ} {ta : TE} {z : Str} {b : Bool} (ha : Ev M ta σ Z H s (ty yStr z) s1) (h : in_WIDTHS z = some b) :
    Ev M (tOp (fun x y H Q => ∃ (z : Str) (r : Option Value), x = .str z ∧ y = .ref T.a_WIDTHS ∧ PySem.W.nsIn K T.a_WIDTHS z = some r ∧ Q (.bl (!r.isSome)) H) ta (tC (.ref T.a_WIDTHS))) σ Z H s (ty yBool (!b)) s1 := by
  have key : ∃ r, PySem.W.nsIn K T.a_WIDTHS z = some r ∧ r.isSome = b := by
    unfold in_WIDTHS at h
    by_cases q : z = "bit"
    · subst q
      rw [if_pos rfl] at h
      have h := Option.some.inj h
      subst h
      exact ⟨_, T.ns_WIDTHS_bit, rfl⟩
    rw [if_neg q] at h
    by_cases q : z = "small"
    · subst q
      rw [if_pos rfl] at h
      have h := Option.some.inj h
      subst h
      exact ⟨_, T.ns_WIDTHS_small, rfl⟩
    rw [if_neg q] at h
    by_cases q : z = "wide"
    · subst q
      rw [if_pos rfl] at h
      have h := Option.some.inj h
      subst h
      exact ⟨_, T.ns_WIDTHS_wide, rfl⟩
    rw [if_neg q] at h
    cases h
  obtain ⟨r, hr, hb⟩ := key
  subst hb
  exact ev_op ha (ev_of (R := ⟨fun _ _ v => v = .ref T.a_WIDTHS, fun _ h => h⟩) fun _ _ _ _ _ _ q => q _ rfl) fun _ _ _ _ sz e1 e2 _ q => ⟨z, r, e1.1, e2, hr, q _ _ _ (Step.refl sz) rfl⟩

def exv (T : Txt w K mg base) : Exc → Value
  | .InvalidSchema => .ref T.c_InvalidSchema
  | .InvalidRule => .ref T.c_InvalidRule

def sp_law_row (T : Txt w K mg base) : Sp := fun vs H Q _ => ∃ (sc : Addr) (ns : List Int) (k : Nat), vs = [.ref sc, .int (k : Nat)] ∧ (H sc = some (.lst (ns.map V.int))) ∧ Q (.int (rowZ ns k)) H
set_option maxHeartbeats 4000000 in
theorem ok_law_row (T : Txt w K mg base) : FnOk P w K mg base CX0 1 T.f_law_row T.d_law_row ["script", "k"] (sp_law_row T) := by
  refine T.F_law_row.ok sc_law_row (fun vs H Q E h => ?_) (fun cdv A outer s H vs Q E hr h => ?_)
  · obtain ⟨sc, ns, k, rfl, _⟩ := h
    rfl
  · obtain ⟨sc, ns, k, rfl, hS, q⟩ := h
    refine ⟨_, (pss_cons (ps_set (i := 2) sc_law_row.nd rfl (.inl rfl) pe_int) 
      (pss_cut (ps_if (pt_cmpR op_lt (pv 1) (pe_callB call_len_seq (by rfl) T.m_len PySem.boot_len (pa_cons (pv 0) pa_nil)) (nomark _)) (pss_one (ps_set (i := 2) sc_law_row.nd rfl (.inl rfl) (pe_ix ix_list (pv 0) (pv 1) (fun _ _ => rfl)))) pss_nil) 
      (pss_cut (ps_if (pt_cmpR op_lt (pv 2) pe_int (nomark _)) (pss_one (ps_set (i := 2) sc_law_row.nd rfl (.inl rfl) (pe_op op_sub (pe_op op_mul (pe_un un_neg pe_int) (pv 2)) pe_int))) pss_nil) 
      (pss_cut (ps_if (pt_cmpR op_lt (pv 2) (pe_op op_pow pe_int pe_int) (nomark _)) (pss_cons (ps_set (i := 3) sc_law_row.nd rfl (.inl rfl) (pe_op op_mod (pe_callTy call_int1 (by rfl) T.m_int (by decide +kernel) (pa_cons (pe_op op_add (pe_op op_add (pe_op op_mul (pv 2) pe_int) (pe_op op_mul (pv 1) pe_int)) pe_int) pa_nil)) pe_int)) 
      (pss_cons (ps_set (i := 4) sc_law_row.nd rfl (.inl rfl) (pe_op op_mod (pe_callTy call_int1 (by rfl) T.m_int (by decide +kernel) (pa_cons (pe_op op_add (pe_op op_add (pe_op op_add (pe_op op_mul (pv 3) pe_int) (pe_op op_mul (pv 2) pe_int)) (pv 1)) pe_int) pa_nil)) pe_int)) 
      (pss_cons (ps_set (i := 5) sc_law_row.nd rfl (.inl rfl) (pe_op op_mod (pe_callTy call_int1 (by rfl) T.m_int (by decide +kernel) (pa_cons (pe_op op_add (pe_op op_add (pe_op op_mul (pv 4) pe_int) (pe_op op_mul (pv 3) (pv 4))) pe_int) pa_nil)) pe_int)) 
      (pss_one (ps_set (i := 2) sc_law_row.nd rfl (.inl rfl) (pe_op op_add (pe_op op_add (pv 3) (pe_op op_mul (pv 4) pe_int)) (pe_op op_mul (pv 5) (pe_op op_pow pe_int pe_int)))))))) pss_nil) 
      (pss_one (ps_ret (pv 2))))))), ?_⟩
    -- if k < len(script): cell = script[k]
    refine ⟨fun σ' H' => H' = H ∧ σ' = [some (.ref sc), some (.int (k : Nat)), some (.int (ns.getD k 0)), none, none, none], ?_, ?_⟩
    · refine ⟨_, rfl, _, rfl, sc, _, rfl, .inl (SqL.of hS), _, _, rfl, rfl, _, rfl, ite2 (fun e => ?_) (fun e => ?_)⟩
      · have hl : (k : Int) < ((ns.map V.int).length : Int) := of_decide_eq_true e
        rw [List.length_map] at hl
        have hk : k < ns.length := by omega
        exact ⟨_, rfl, _, rfl, sc, _, (k : Nat), .int (ns.getD k 0), rfl, rfl, SqL.of hS, at_of (j := k) rfl (by rw [List.getElem?_map, getD_lt hk]; rfl), rfl, rfl⟩
      · have hl : ¬ (k : Int) < ((ns.map V.int).length : Int) := fun h => e (decide_eq_true h)
        rw [List.length_map] at hl
        have hk : ¬ k < ns.length := by omega
        exact ⟨rfl, by rw [getD_ge hk]; rfl⟩
    rintro σ' H' ⟨rfl, rfl⟩
    -- if cell < 0: cell = -2 * cell - 1
    refine ⟨fun σ' H2 => H2 = H' ∧ σ' = [some (.ref sc), some (.int (k : Nat)), some (.int (row1 ns k)), none, none, none], ?_, ?_⟩
    · refine ⟨_, rfl, _, _, rfl, rfl, _, rfl, ite2 (fun e => ?_) (fun e => ?_)⟩
      · have hc : ns.getD k 0 < 0 := of_decide_eq_true e
        refine ⟨2, rfl, _, rfl, _, _, rfl, rfl, .inl ⟨by decide, by decide⟩, _, _, rfl, rfl, rfl, ?_⟩
        unfold row1
        rw [if_pos hc]
        rfl
      · have hc : ¬ ns.getD k 0 < 0 := fun h => e (decide_eq_true h)
        exact ⟨rfl, by unfold row1; rw [if_neg hc]⟩
    rintro σ' H2 ⟨rfl, rfl⟩
    have c0 := row1_nn ns k
    -- if cell < 10 ** 9: ..
    refine ⟨fun σ' H' => H' = H2 ∧ ∃ (x y z : Option V), σ' = [some (.ref sc), some (.int (k : Nat)), some (.int (rowZ ns k)), x, y, z], ?_, ?_⟩
    · refine ⟨_, rfl, _, _, rfl, rfl, ⟨by decide, by decide, by decide⟩, _, _, rfl, rfl, _, rfl, ite2 (fun e => ?_) (fun e => ?_)⟩
      · have h9 : row1 ns k < 10 ^ 9 := of_decide_eq_true e
        rw [rowZ_lo h9]
        generalize row1 ns k = c at h9 c0
        refine ⟨_, rfl, _, _, rfl, rfl, .inr ⟨by decide, by decide⟩, _, rfl, _, _, rfl, rfl, .inr ⟨by decide, by decide⟩, _, _, rfl, rfl, _, _, rfl, rfl, .inl ⟨_, rfl, ?_⟩⟩
        refine ⟨_, _, rfl, rfl, (by decide : (0 : Int) < 2147483647), ?_⟩
        dsimp only
        refine ⟨_, rfl, _, _, rfl, rfl, .inr ⟨by decide, by decide⟩, _, rfl, _, _, rfl, rfl, .inr ⟨by decide, by decide⟩, _, _, rfl, rfl, _, rfl, _, _, rfl, rfl, _, _, rfl, rfl, .inl ⟨_, rfl, ?_⟩⟩
        refine ⟨_, _, rfl, rfl, (by decide : (0 : Int) < 2147483629), ?_⟩
        dsimp only
        refine ⟨_, rfl, _, _, rfl, rfl, .inr ⟨by decide, by decide⟩, _, rfl, _, rfl, _, _, rfl, rfl, .inl ⟨by omega, by omega⟩, _, _, rfl, rfl, _, _, rfl, rfl, .inl ⟨_, rfl, ?_⟩⟩
        refine ⟨_, _, rfl, rfl, (by decide : (0 : Int) < 2147483587), ?_⟩
        dsimp only
        refine ⟨_, rfl, _, rfl, _, _, rfl, rfl, .inr ⟨by decide, by decide⟩, _, _, rfl, rfl, _, rfl, _, _, rfl, rfl, ⟨by decide, by decide, by decide⟩, _, _, rfl, rfl, .inr ⟨by decide, by decide⟩, _, _, rfl, rfl, rfl, _, _, _, rfl⟩
      · have h9 : ¬ row1 ns k < 10 ^ 9 := fun h => e (decide_eq_true h)
        rw [rowZ_hi h9]
        exact ⟨rfl, _, _, _, rfl⟩
    rintro σ' H' ⟨rfl, x, y, z, rfl⟩
    exact ⟨_, rfl, q⟩
def sp_law_next (T : Txt w K mg base) : Sp := fun vs H Q _ => ∃ (st sc : Addr) (Z0 : Hp) (ds : DS) (v_many : V) (m : Int), vs = [.ref st, v_many] ∧ (Same Z0 H) ∧ ((muD st sc).m ds Z0 H) ∧ (v_many = .int m) ∧ (NxOk m) ∧ ∀ v Z' H', Step (muD st sc).fp Z0 H Z' H' → (muD st sc).m (nxS ds m) Z' H' → yInt.r Z' v (nxV ds m) → Q v H'
set_option maxHeartbeats 4000000 in
theorem ok_law_next (T : Txt w K mg base) : FnOk P w K mg base CX0 2 T.f_law_next T.d_law_next ["state", "many"] (sp_law_next T) := by
  have G_law_row : FnOk P w K mg base CX0 1 T.f_law_row T.d_law_row ["script", "k"] (sp_law_row T) := ok_law_row T
  refine T.F_law_next.ok sc_law_next (fun vs H Q E h => ?_) (fun cdv A outer s H vs Q E hr h => ?_)
  · obtain ⟨st, sc, Z0, ds, v_many, m, rfl, _⟩ := h
    rfl
  · obtain ⟨st, sc, Z0, ds, v_many, m, rfl, sz, hm, h_many, hok, q⟩ := h
    refine ⟨_, (pss_cut (ps_if (pt_cmpR op_lt (pe_ix ix_list (pv 0) pe_int (fun _ _ => rfl)) (pv 1) (nomark _)) (pss_cons (ps_asg (pe_call G_law_row (hr.mono (by decide)) (by rfl) T.g_law_row T.F_law_row.kp T.b_law_row .nil pass0 (pa_cons (pe_ix ix_list (pv 0) pe_int (fun _ _ => rfl)) (pa_cons (pe_ix ix_list (pv 0) pe_int (fun _ _ => rfl)) pa_nil))) (pg_sub (pv 0) pe_int set_list)) 
      (pss_one (ps_asg (pe_op op_add (pe_ix ix_list (pv 0) pe_int (fun _ _ => rfl)) pe_int) (pg_sub (pv 0) pe_int set_list)))) pss_nil) 
      (pss_cons (ps_set (i := 2) sc_law_next.nd rfl (.inl rfl) (pe_op op_mod (pe_callTy call_int1 (by rfl) T.m_int (by decide +kernel) (pa_cons (pe_ix ix_list (pv 0) pe_int (fun _ _ => rfl)) pa_nil)) (pv 1))) 
      (pss_cons (ps_asg (pe_op op_fdivW (pe_ix ix_list (pv 0) pe_int (fun _ _ => rfl)) (pv 1)) (pg_sub (pv 0) pe_int set_list)) 
      (pss_one (ps_ret (pv 2)))))), ?_⟩
    obtain ⟨m0, m1⟩ := hok
    subst h_many
    obtain ⟨h1, h2, h3⟩ := hm
    obtain ⟨ns, k, x⟩ := ds
    have g2 : H sc = some (.lst (ns.map V.int)) := sz _ _ h2
    have ne : sc ≠ st := fun e => by rw [e] at h2; rw [h2] at h3; cases h3
    refine ⟨fun σ' H' => Step [st] Z0 H Z0 H' ∧ σ' = [some (.ref st), some (.int m), none] ∧ H' st = some (.lst [.ref sc, .int ((if (x : Int) < m then k + 1 else k : Nat) : Int), .int ((DS.cur ⟨ns, k, x⟩ m : Nat) : Int)]), ?_, ?_⟩
    · refine ⟨_, rfl, st, _, _, _, rfl, rfl, SqL.of h1, at_of (j := 2) rfl rfl, _, rfl, _, _, rfl, rfl, _, rfl, ite2 (fun e => ?_) (fun e => ?_)⟩
      · have hlt : (x : Int) < m := of_decide_eq_true e
        refine ⟨_, rfl, st, _, _, _, rfl, rfl, SqL.of h1, at_of (j := 0) rfl rfl, _, rfl, st, _, _, _, rfl, rfl, SqL.of h1, at_of (j := 1) rfl rfl, sc, ns, k, rfl, g2, ?_⟩
        refine ⟨_, rfl, st, _, _, 2, rfl, rfl, h1, rfl, ?_⟩
        refine ⟨_, rfl, st, _, _, _, rfl, rfl, SqL.of upd_same, at_of (j := 1) rfl rfl, _, _, rfl, rfl, _, rfl, st, _, _, 1, rfl, rfl, upd_same, rfl, ?_⟩
        refine ⟨(Step.set sz h3).trans (Step.set (Step.set sz h3).s h3), rfl, ?_⟩
        rw [upd_same, if_pos hlt]
        have : ((DS.cur ⟨ns, k, x⟩ m : Nat) : Int) = rowZ ns k := by
          unfold DS.cur
          rw [if_pos hlt]
          have := rowZ_nn ns k
          show (((rowZ ns k).toNat : Nat) : Int) = rowZ ns k
          omega
        rw [this]
        rfl
      · have hlt : ¬ (x : Int) < m := fun h => e (decide_eq_true h)
        refine ⟨Step.refl sz, rfl, ?_⟩
        rw [h1, if_neg hlt]
        unfold DS.cur
        rw [if_neg hlt]
    rintro σ' H' ⟨hO, rfl, h4⟩
    -- drawn = int(state[2]) % many
    refine ⟨_, rfl, st, _, _, _, rfl, rfl, SqL.of h4, at_of (j := 2) rfl rfl, .inl ⟨_, rfl, ?_⟩⟩
    refine ⟨_, rfl, _, _, rfl, rfl, m0, ?_⟩
    -- state[2] = state[2] // many
    refine ⟨_, rfl, st, _, _, _, rfl, rfl, SqL.of h4, at_of (j := 2) rfl rfl, _, rfl, _, _, rfl, rfl, wide_div m0 m1 (by decide) (by decide), ?_⟩
    refine ⟨_, rfl, st, _, _, 2, rfl, rfl, h4, rfl, ?_⟩
    have nn : 0 ≤ ((DS.cur ⟨ns, k, x⟩ m : Nat) : Int) / m := Int.ediv_nonneg (Int.natCast_nonneg _) (by omega)
    refine ⟨_, rfl, q _ Z0 _ (hO.trans (Step.set hO.s h3)) ⟨?_, h2, h3⟩ rfl⟩
    rw [upd_same]
    show some (HO.lst [_, _, _]) = some (HO.lst [_, _, V.int (((((DS.cur ⟨ns, k, x⟩ m : Nat) : Int) / m).toNat : Nat) : Int)])
    rw [Int.toNat_of_nonneg nn]
    rfl
theorem cs__law_next (T : Txt w K mg base) {st sc : Addr} {ds : DS} {E : XK} {m : Int} (h : NxOk m) : CallS (muD st sc) (sp_law_next T) E (rac (isRef st) (rac (ty yInt m) ra0)) ds (ty yInt (nxV ds m)) (nxS ds m) := by
  rintro Z H vs sz mm ⟨_, _, rfl, rfl, v_many, _, rfl, h_many, rfl⟩ Q q
  exact ⟨st, sc, Z, ds, v_many, m, rfl, sz, mm, h_many, h, q⟩
theorem cu__law_next (T : Txt w K mg base) {st sc : Addr} {ds : DS} {E : XK} {m : Int} {μ : Type} {M : Mu μ} {s s2 : μ} (hm : ∀ Z H, M.m s Z H → (muD st sc).m ds Z H) (hf : ∀ a ∈ (muD st sc).fp, a ∈ M.fp) (hp : ∀ Z H Z' H', M.m s Z H → Step (muD st sc).fp Z H Z' H' → (muD st sc).m (nxS ds m) Z' H' → M.m s2 Z' H') (h : NxOk m) : CallS M (sp_law_next T) E (rac (isRef st) (rac (ty yInt m) ra0)) s (ty yInt (nxV ds m)) s2 := by
  rintro Z H vs sz mm ⟨_, _, rfl, rfl, v_many, _, rfl, h_many, rfl⟩ Q q
  exact ⟨st, sc, Z, ds, v_many, m, rfl, sz, hm _ _ mm, h_many, h, fun v Z2 H2 st2 m2 hv => q v Z2 H2 (st2.weak fun a h => .inl (hf a h)) (hp _ _ _ _ mm st2 m2) hv⟩
def sp_check_least (T : Txt w K mg base) : Sp := fun vs H Q E => ∃ (Z0 : Hp) (v_least : V) (v_number : V) (x_least : Int) (x_number : Int) (y : (Res Exc Unit)), vs = [v_least, v_number] ∧ (Same Z0 H) ∧ ((yInt).r Z0 v_least x_least) ∧ ((yInt).r Z0 v_number x_number) ∧ (F_check_least x_least x_number = some y) ∧ (∀ a, y = .ok a → ∀ v Z' H', Step [] Z0 H Z' H' → (yNon).r Z' v a → Q v H') ∧ (∀ c, y = .er c → ∀ Z' H', Step [] Z0 H Z' H' → E (exv T c) none H')
set_option maxHeartbeats 4000000 in
theorem ok_check_least (T : Txt w K mg base) : FnOk P w K mg base (L2.CX P w) 1 T.f_check_least T.d_check_least ["least", "number"] (sp_check_least T) := by
  refine T.F_check_least.okX sc_check_least (fun vs H Q E h => ?_) (fun cdv A outer s H vs Q E hr h => ?_)
  · obtain ⟨Z0, v_least, v_number, x_least, x_number, y, rfl, _⟩ := h
    rfl
  · obtain ⟨Z0, v_least, v_number, x_least, x_number, y, rfl, sz, h_least, h_number, hF, q⟩ := h
    refine ⟨_, (pss_one (ps_if (pt_cmpR op_lt (pv 1) (pv 0) (nomark _)) (pss_one (ps_raise rfl (takes_of rfl rfl rfl rfl) (pmk_own PySem.F.excBase_ValueError T.x_InvalidRule T.mc_InvalidRule T.kp_InvalidRule (raises_own T.xb_InvalidRule T.xt_InvalidRule) rfl))) pss_nil)), ?_⟩
    obtain ⟨q, qx⟩ := q
    have P := Pt.start0 sz
    unfold F_check_least at hF
    refine st_if P (et_cmp (ev_lt (ev_var (τ := yInt) rfl h_number) (ev_var (τ := yInt) rfl h_least))) (fun b_1 Z1 H1 e P1 => ?_) (fun b_1 Z1 H1 e P1 => ?_)
    · replace P := P1
      have hB := ifT b_1 hF
      replace hF := hB
      clear hB
      replace hF := Option.some.inj hF
      subst hF
      exact qx _ rfl _ _ P.st
    · replace P := P1
      have hB := ifF b_1 hF
      replace hF := hB
      clear hB
      refine st_next ?_
      replace hF := Option.some.inj hF
      subst hF
      exact q _ rfl .non _ _ P.st rfl
theorem cs_check_least (T : Txt w K mg base) {μ : Type} {M : Mu μ} {s : μ} {E : XK} {x_least : Int} {x_number : Int} {y : Unit} (h : F_check_least x_least x_number = some (.ok y)) : CallS M (sp_check_least T) E (rac (ty yInt x_least) (rac (ty yInt x_number) ra0)) s (ty yNon y) s := by
  rintro Z H vs sz m ⟨v_least, _, rfl, h_least, ⟨v_number, _, rfl, h_number, rfl⟩⟩ Q q
  exact ⟨Z, v_least, v_number, x_least, x_number, _, rfl, sz, h_least, h_number, h, fun a e v Z2 H2 st hv => by cases e; exact q v Z2 H2 st.pure (M.pure st m) hv, fun _ z => nomatch z⟩
theorem cx_check_least (T : Txt w K mg base) {μ : Type} {M : Mu μ} {s : μ} {E : XK} {x_least : Int} {x_number : Int} {e : Exc} (h : F_check_least x_least x_number = some (.er e)) : CallE M (sp_check_least T) E (rac (ty yInt x_least) (rac (ty yInt x_number) ra0)) s (exv T e) s := by
  rintro Z H vs sz m ⟨v_least, _, rfl, h_least, ⟨v_number, _, rfl, h_number, rfl⟩⟩ Q q
  exact ⟨Z, v_least, v_number, x_least, x_number, _, rfl, sz, h_least, h_number, h, (fun _ z => nomatch z), fun c e Z2 H2 st => by cases e; exact q Z2 H2 st.pure (M.pure st m)⟩
def sp_Blocks___init__ (T : Txt w K mg base) : Sp := fun vs H Q E => ∃ (p dx : Addr) (Z0 : Hp) (v_size : V) (x_size : Int) (y : (Res Exc Blocks)), vs = [.ref p, v_size] ∧ (Same Z0 H) ∧ (H p = some (.ins T.c_Blocks dx [])) ∧ (Z0 p = none) ∧ ((yInt).r Z0 v_size x_size) ∧ (F_Blocks___init__ x_size = some y) ∧ (∀ a, y = .ok a → ∀ Z' H' o, Step [p] Z0 H Z' H' → H' p = some o → (y_Blocks T).r (upd Z' p o) (.ref p) a → Q .non H') ∧ (∀ c, y = .er c → ∀ Z' H', Step [p] Z0 H Z' H' → E (exv T c) none H')
set_option maxHeartbeats 4000000 in
theorem ok_Blocks___init__ (T : Txt w K mg base) : FnOk P w K mg base (L2.CX P w) 2 T.f_Blocks___init__ T.d_Blocks___init__ ["self", "size"] (sp_Blocks___init__ T) := by
  have G_check_least : FnOk P w K mg base (L2.CX P w) 1 T.f_check_least T.d_check_least ["least", "number"] (sp_check_least T) := ok_check_least T
  refine T.F_Blocks___init__.okX sc_Blocks___init__ (fun vs H Q E h => ?_) (fun cdv A outer s H vs Q E hr h => ?_)
  · obtain ⟨p, dx, Z0, v_size, x_size, y, rfl, _⟩ := h
    rfl
  · obtain ⟨p, dx, Z0, v_size, x_size, y, rfl, sz, hself, zself, h_size, hF, q⟩ := h
    refine ⟨_, (pss_cons (ps_expr (pe_call G_check_least (hr.mono (by decide)) (by rfl) T.g_check_least T.F_check_least.kp T.b_check_least .nil (passes_call (takes_of rfl rfl rfl rfl) (fun _ _ _ _ h => h)) (pa_cons pe_int (pa_cons (pv 1) pa_nil)))) 
      (pss_one (ps_fld (pv 0) (pv 1) rfl))), ?_⟩
    obtain ⟨q, qx⟩ := q
    have P : Pt [p] Z0 H muN Z0 H () := ⟨Step.refl sz, trivial, fun _ h => (nomatch h)⟩
    unfold F_Blocks___init__ at hF
    obtain ⟨p_4, h_3, hF⟩ := bind_inv hF
    rcases p_4 with r_2 | e
    rotate_left
    · replace hF := rer_inv hF
      replace hF := Option.some.inj hF
      subst hF
      refine st_seq (st_exprE P (eve_call (cx_check_least T h_3) (eva_cons ev_int (eva_cons (ev_var (τ := yInt) rfl h_size) eva_nil))) (fun Z1 H1 e1 P1 => ?_))
      exact qx _ rfl _ _ P1.st
    replace hF := rok_inv hF
    refine st_seq (st_expr P (ev_call (cs_check_least T h_3) (eva_cons ev_int (eva_cons (ev_var (τ := yInt) rfl h_size) eva_nil))) (fun Z1 H1 e P1 => ?_))
    refine st_nx ?_
    replace P := P1
    replace zself := e.n _ (some_ne hself) zself
    replace hself := e.h _ _ List.not_mem_nil hself
    refine st_fld (x := x_size) (τ := yInt) P hself zself List.not_mem_nil (.inl List.mem_cons_self) rfl (ev_var (τ := yInt) rfl h_size) T.cl_Blocks T.n_Blocks_size (Nat.lt_of_le_of_lt (Nat.le_refl 0) (by decide)) (fun v_6 Z1 H1 e P1 k_7 hself1 zself1 => ?_)
    replace P := P1
    replace hself := hself1
    replace zself := zself1
    replace hF := Option.some.inj hF
    subst hF
    exact q _ rfl _ _ _ P.st hself ⟨p, dx, v_6, rfl, upd_same, k_7⟩
theorem is_Blocks___init__ (T : Txt w K mg base) {μ : Type} {M : Mu μ} {s : μ} {E : XK} {x_size : Int} {y : Blocks} (h : F_Blocks___init__ x_size = some (.ok y)) : InitS M T.c_Blocks (sp_Blocks___init__ T) E (rac (ty yInt x_size) ra0) s (ty (y_Blocks T) y) s := by
  rintro Z H vs x dx sz m ⟨v_size, _, rfl, h_size, rfl⟩ hx zx nx Q q
  exact ⟨x, dx, Z, v_size, x_size, _, rfl, sz, hx, zx, h_size, h, fun a e Z2 H2 o st ho hr => by cases e; exact q Z2 H2 o (st.weak fun a h => by rw [List.mem_singleton] at h; rw [h]; exact .inl List.mem_cons_self) (Mu.away st nx m) ho hr, fun _ z => nomatch z⟩
theorem ix_Blocks___init__ (T : Txt w K mg base) {μ : Type} {M : Mu μ} {s : μ} {E : XK} {x_size : Int} {e : Exc} (h : F_Blocks___init__ x_size = some (.er e)) : InitE M T.c_Blocks (sp_Blocks___init__ T) E (rac (ty yInt x_size) ra0) s (exv T e) s := by
  rintro Z H vs x dx sz m ⟨v_size, _, rfl, h_size, rfl⟩ hx zx nx Q q
  exact ⟨x, dx, Z, v_size, x_size, _, rfl, sz, hx, zx, h_size, h, (fun _ z => nomatch z), fun c e Z2 H2 st => by cases e; exact q Z2 H2 (st.weak fun a h => by rw [List.mem_singleton] at h; rw [h]; exact .inl List.mem_cons_self) (Mu.away st nx m)⟩
def sp_SortedBlocks___init__ (T : Txt w K mg base) : Sp := fun vs H Q E => ∃ (p dx : Addr) (Z0 : Hp) (v_field : V) (v_size : V) (x_field : Str) (x_size : Int) (y : (Res Exc SortedBlocks)), vs = [.ref p, v_field, v_size] ∧ (Same Z0 H) ∧ (H p = some (.ins T.c_SortedBlocks dx [])) ∧ (Z0 p = none) ∧ ((yStr).r Z0 v_field x_field) ∧ ((yInt).r Z0 v_size x_size) ∧ (F_SortedBlocks___init__ x_field x_size = some y) ∧ (∀ a, y = .ok a → ∀ Z' H' o, Step [p] Z0 H Z' H' → H' p = some o → (y_SortedBlocks T).r (upd Z' p o) (.ref p) a → Q .non H') ∧ (∀ c, y = .er c → ∀ Z' H', Step [p] Z0 H Z' H' → E (exv T c) none H')
set_option maxHeartbeats 4000000 in
theorem ok_SortedBlocks___init__ (T : Txt w K mg base) : FnOk P w K mg base (L2.CX P w) 2 T.f_SortedBlocks___init__ T.d_SortedBlocks___init__ ["self", "field", "size"] (sp_SortedBlocks___init__ T) := by
  have G_check_least : FnOk P w K mg base (L2.CX P w) 1 T.f_check_least T.d_check_least ["least", "number"] (sp_check_least T) := ok_check_least T
  refine T.F_SortedBlocks___init__.okX sc_SortedBlocks___init__ (fun vs H Q E h => ?_) (fun cdv A outer s H vs Q E hr h => ?_)
  · obtain ⟨p, dx, Z0, v_field, v_size, x_field, x_size, y, rfl, _⟩ := h
    rfl
  · obtain ⟨p, dx, Z0, v_field, v_size, x_field, x_size, y, rfl, sz, hself, zself, h_field, h_size, hF, q⟩ := h
    refine ⟨_, (pss_cons (ps_expr (pe_call G_check_least (hr.mono (by decide)) (by rfl) T.g_check_least T.F_check_least.kp T.b_check_least .nil (passes_call (takes_of rfl rfl rfl rfl) (fun _ _ _ _ h => h)) (pa_cons pe_int (pa_cons (pv 2) pa_nil)))) 
      (pss_cons (ps_fld (pv 0) (pv 1) rfl) 
      (pss_one (ps_fld (pv 0) (pv 2) rfl)))), ?_⟩
    obtain ⟨q, qx⟩ := q
    have P : Pt [p] Z0 H muN Z0 H () := ⟨Step.refl sz, trivial, fun _ h => (nomatch h)⟩
    unfold F_SortedBlocks___init__ at hF
    obtain ⟨p_10, h_9, hF⟩ := bind_inv hF
    rcases p_10 with r_8 | e
    rotate_left
    · replace hF := rer_inv hF
      replace hF := Option.some.inj hF
      subst hF
      refine st_seq (st_exprE P (eve_call (cx_check_least T h_9) (eva_cons ev_int (eva_cons (ev_var (τ := yInt) rfl h_size) eva_nil))) (fun Z1 H1 e1 P1 => ?_))
      exact qx _ rfl _ _ P1.st
    replace hF := rok_inv hF
    refine st_seq (st_expr P (ev_call (cs_check_least T h_9) (eva_cons ev_int (eva_cons (ev_var (τ := yInt) rfl h_size) eva_nil))) (fun Z1 H1 e P1 => ?_))
    refine st_nx ?_
    replace P := P1
    replace zself := e.n _ (some_ne hself) zself
    replace hself := e.h _ _ List.not_mem_nil hself
    refine st_seq (st_fld (x := x_field) (τ := yStr) P hself zself List.not_mem_nil (.inl List.mem_cons_self) rfl (ev_var (τ := yStr) rfl h_field) T.cl_SortedBlocks T.n_SortedBlocks_field (Nat.lt_of_le_of_lt (Nat.le_refl 0) (by decide)) (fun v_12 Z1 H1 e P1 k_13 hself1 zself1 => ?_))
    refine st_nx ?_
    replace P := P1
    replace hself := hself1
    replace zself := zself1
    refine st_fld (x := x_size) (τ := yInt) P hself zself List.not_mem_nil (.inl List.mem_cons_self) rfl (ev_var (τ := yInt) rfl h_size) T.cl_SortedBlocks T.n_SortedBlocks_size (Nat.lt_of_le_of_lt (putF_le (Nat.le_refl 0)) (by decide)) (fun v_14 Z1 H1 e P1 k_15 hself1 zself1 => ?_)
    replace P := P1
    replace hself := hself1
    replace zself := zself1
    replace hF := Option.some.inj hF
    subst hF
    exact q _ rfl _ _ _ P.st hself ⟨p, dx, v_12, v_14, rfl, upd_same, k_13, k_15⟩
theorem is_SortedBlocks___init__ (T : Txt w K mg base) {μ : Type} {M : Mu μ} {s : μ} {E : XK} {x_field : Str} {x_size : Int} {y : SortedBlocks} (h : F_SortedBlocks___init__ x_field x_size = some (.ok y)) : InitS M T.c_SortedBlocks (sp_SortedBlocks___init__ T) E (rac (ty yStr x_field) (rac (ty yInt x_size) ra0)) s (ty (y_SortedBlocks T) y) s := by
  rintro Z H vs x dx sz m ⟨v_field, _, rfl, h_field, ⟨v_size, _, rfl, h_size, rfl⟩⟩ hx zx nx Q q
  exact ⟨x, dx, Z, v_field, v_size, x_field, x_size, _, rfl, sz, hx, zx, h_field, h_size, h, fun a e Z2 H2 o st ho hr => by cases e; exact q Z2 H2 o (st.weak fun a h => by rw [List.mem_singleton] at h; rw [h]; exact .inl List.mem_cons_self) (Mu.away st nx m) ho hr, fun _ z => nomatch z⟩
theorem ix_SortedBlocks___init__ (T : Txt w K mg base) {μ : Type} {M : Mu μ} {s : μ} {E : XK} {x_field : Str} {x_size : Int} {e : Exc} (h : F_SortedBlocks___init__ x_field x_size = some (.er e)) : InitE M T.c_SortedBlocks (sp_SortedBlocks___init__ T) E (rac (ty yStr x_field) (rac (ty yInt x_size) ra0)) s (exv T e) s := by
  rintro Z H vs x dx sz m ⟨v_field, _, rfl, h_field, ⟨v_size, _, rfl, h_size, rfl⟩⟩ hx zx nx Q q
  exact ⟨x, dx, Z, v_field, v_size, x_field, x_size, _, rfl, sz, hx, zx, h_field, h_size, h, (fun _ z => nomatch z), fun c e Z2 H2 st => by cases e; exact q Z2 H2 (st.weak fun a h => by rw [List.mem_singleton] at h; rw [h]; exact .inl List.mem_cons_self) (Mu.away st nx m)⟩
def sp_law_made (T : Txt w K mg base) : Sp := fun vs H Q _ => ∃ (Z0 : Hp) (v_sort : V) (v_size : V) (x_sort : Bool) (x_size : Int) (y : (Option Lay)), vs = [v_sort, v_size] ∧ (Same Z0 H) ∧ ((yBool).r Z0 v_sort x_sort) ∧ ((yInt).r Z0 v_size x_size) ∧ (F_law_made x_sort x_size = some y) ∧ ∀ v Z' H', Step [] Z0 H Z' H' → ((yOpt (y_Lay T))).r Z' v y → Q v H'
set_option maxHeartbeats 4000000 in
theorem ok_law_made (T : Txt w K mg base) : FnOk P w K mg base CX0 4 T.f_law_made T.d_law_made ["sort", "size"] (sp_law_made T) := by
  have G_Blocks___init__ : FnOk P w K mg base (L2.CX P w) 2 T.f_Blocks___init__ T.d_Blocks___init__ ["self", "size"] (sp_Blocks___init__ T) := ok_Blocks___init__ T
  have G_SortedBlocks___init__ : FnOk P w K mg base (L2.CX P w) 2 T.f_SortedBlocks___init__ T.d_SortedBlocks___init__ ["self", "field", "size"] (sp_SortedBlocks___init__ T) := ok_SortedBlocks___init__ T
  refine T.F_law_made.ok sc_law_made (fun vs H Q E h => ?_) (fun cdv A outer s H vs Q E hr h => ?_)
  · obtain ⟨Z0, v_sort, v_size, x_sort, x_size, y, rfl, _⟩ := h
    rfl
  · obtain ⟨Z0, v_sort, v_size, x_sort, x_size, y, rfl, sz, h_sort, h_size, hF, q⟩ := h
    refine ⟨_, (pss_one (ps_try_many (Wout := fun _ _ _ _ => False) rfl rfl takes0 (fun W pn xe tk po => (by exact (pss_cons (ps_if (pt_val (pv 0)) (pss_one (ps_ret (pe_make T.mk_SortedBlocks G_SortedBlocks___init__ (hr.mono (by decide)) (by rfl) T.mc_SortedBlocks T.b_SortedBlocks___init__ .nil (passes_call (E := fun cls d H => ∀ σ, W cls d σ H) tk (fun _ _ σ _ h => h σ)) (pa_cons pe_str (pa_cons (pv 1) pa_nil))))) pss_nil) 
      (pss_one (ps_ret (pe_make T.mk_Blocks G_Blocks___init__ (hr.mono (by decide)) (by rfl) T.mc_Blocks T.b_Blocks___init__ .nil (passes_call (E := fun cls d H => ∀ σ, W cls d σ H) tk (fun _ _ σ _ h => h σ)) (pa_cons (pv 1) pa_nil))))))) (.cons ⟨rfl, by decide, .inl T.mc_InvalidRule⟩ (fun a oe cls d pn _ _ => (pss_one (ps_ret pe_non))) (.cons ⟨rfl, by decide, .inl T.mc_SurenearError⟩ (fun a oe cls d pn _ _ => (pss_one ps_dead)) .nil)))), ?_⟩
    have P := Pt.start0 sz
    unfold F_law_made at hF
    refine st_seq (st_if P (et_val (ev_var (τ := yBool) rfl h_sort)) (fun b_16 Z1 H1 e P1 => ?_) (fun b_16 Z1 H1 e P1 => ?_))
    · replace P := P1
      have hB := ifT b_16 hF
      replace hF := hB
      clear hB
      obtain ⟨p_19, h_18, hF⟩ := bind_inv hF
      rcases p_19 with r_17 | e
      rotate_left
      · replace hF := rer_inv hF
        cases e
        · refine st_retE P (eve_make (ix_SortedBlocks___init__ T h_18) (eva_cons ev_str (eva_cons (ev_var (τ := yInt) rfl h_size) eva_nil))) (fun Z1 H1 e1 P1 => ?_)
          intro σ
          refine ⟨false, T.xm_InvalidSchema_InvalidRule, fun z => (nomatch z), fun _ => ?_⟩
          refine ⟨true, T.xm_InvalidSchema_SurenearError, fun _ a ha => ?_, fun z => nomatch z⟩
          replace P := P1
          cases hF
        · refine st_retE P (eve_make (ix_SortedBlocks___init__ T h_18) (eva_cons ev_str (eva_cons (ev_var (τ := yInt) rfl h_size) eva_nil))) (fun Z1 H1 e1 P1 => ?_)
          intro σ
          refine ⟨true, T.xm_InvalidRule_InvalidRule, fun _ a ha => ?_, fun z => nomatch z⟩
          replace P := P1
          replace hF := Option.some.inj hF
          subst hF
          refine st_ret P (ev_none (τ := (y_Lay T)) ev_non) (fun v Z1 H1 P1 hv => ?_)
          exact q v _ _ P1.st hv
      replace hF := rok_inv hF
      replace hF := Option.some.inj hF
      subst hF
      refine st_ret P (ev_some (nn_Lay T) (ij_Lay_s T (ev_make (is_SortedBlocks___init__ T h_18) (eva_cons ev_str (eva_cons (ev_var (τ := yInt) rfl h_size) eva_nil))))) (fun v Z1 H1 P1 hv => ?_)
      exact q v _ _ P1.st hv
    · replace P := P1
      have hB := ifF b_16 hF
      replace hF := hB
      clear hB
      refine st_next0 ?_
      obtain ⟨p_23, h_22, hF⟩ := bind_inv hF
      rcases p_23 with r_21 | e
      rotate_left
      · replace hF := rer_inv hF
        cases e
        · refine st_retE P (eve_make (ix_Blocks___init__ T h_22) (eva_cons (ev_var (τ := yInt) rfl h_size) eva_nil)) (fun Z1 H1 e1 P1 => ?_)
          intro σ
          refine ⟨false, T.xm_InvalidSchema_InvalidRule, fun z => (nomatch z), fun _ => ?_⟩
          refine ⟨true, T.xm_InvalidSchema_SurenearError, fun _ a ha => ?_, fun z => nomatch z⟩
          replace P := P1
          cases hF
        · refine st_retE P (eve_make (ix_Blocks___init__ T h_22) (eva_cons (ev_var (τ := yInt) rfl h_size) eva_nil)) (fun Z1 H1 e1 P1 => ?_)
          intro σ
          refine ⟨true, T.xm_InvalidRule_InvalidRule, fun _ a ha => ?_, fun z => nomatch z⟩
          replace P := P1
          replace hF := Option.some.inj hF
          subst hF
          refine st_ret P (ev_none (τ := (y_Lay T)) ev_non) (fun v Z1 H1 P1 hv => ?_)
          exact q v _ _ P1.st hv
      replace hF := rok_inv hF
      replace hF := Option.some.inj hF
      subst hF
      refine st_ret P (ev_some (nn_Lay T) (ij_Lay_p T (ev_make (is_Blocks___init__ T h_22) (eva_cons (ev_var (τ := yInt) rfl h_size) eva_nil)))) (fun v Z1 H1 P1 hv => ?_)
      exact q v _ _ P1.st hv
theorem cs_law_made (T : Txt w K mg base) {μ : Type} {M : Mu μ} {s : μ} {E : XK} {x_sort : Bool} {x_size : Int} {y : (Option Lay)} (h : F_law_made x_sort x_size = some y) : CallS M (sp_law_made T) E (rac (ty yBool x_sort) (rac (ty yInt x_size) ra0)) s (ty (yOpt (y_Lay T)) y) s := by
  rintro Z H vs sz m ⟨v_sort, _, rfl, h_sort, ⟨v_size, _, rfl, h_size, rfl⟩⟩ Q q
  exact ⟨Z, v_sort, v_size, x_sort, x_size, y, rfl, sz, h_sort, h_size, h, fun v Z2 H2 st hv => q v Z2 H2 st.pure (M.pure st m) hv⟩
def sp_is_letter (T : Txt w K mg base) : Sp := fun vs H Q _ => ∃ (Z0 : Hp) (v_char : V) (x_char : Str), vs = [v_char] ∧ (Same Z0 H) ∧ ((yStr).r Z0 v_char x_char) ∧ ∀ v Z' H', Step [] Z0 H Z' H' → (yBool).r Z' v (F_is_letter x_char) → Q v H'
set_option maxHeartbeats 4000000 in
theorem ok_is_letter (T : Txt w K mg base) : FnOk P w K mg base CX0 1 T.f_is_letter T.d_is_letter ["char"] (sp_is_letter T) := by
  refine T.F_is_letter.ok sc_is_letter (fun vs H Q E h => ?_) (fun cdv A outer s H vs Q E hr h => ?_)
  · obtain ⟨Z0, v_char, x_char, rfl, _⟩ := h
    rfl
  · obtain ⟨Z0, v_char, x_char, rfl, sz, h_char, q⟩ := h
    refine ⟨_, (pss_one (ps_ret (pe_or (pe_chain op_le_str op_le_str pe_str (pv 0) pe_str) (pe_or (pe_chain op_le_str op_le_str pe_str (pv 0) pe_str) (pe_one (pe_cmpR op_eq (pv 0) pe_str (nomark _))))))), ?_⟩
    have P := Pt.start0 sz
    generalize hF : F_is_letter x_char = y at q
    unfold F_is_letter at hF
    subst hF
    refine st_ret P (ev_or0 (ev_chainS ev_str (ev_var (τ := yStr) rfl h_char) ev_str) (ev_or0 (ev_chainS ev_str (ev_var (τ := yStr) rfl h_char) ev_str) (ev_eq flat_str (ev_var (τ := yStr) rfl h_char) ev_str))) (fun v Z1 H1 P1 hv => ?_)
    exact q v _ _ P1.st hv
theorem cs_is_letter (T : Txt w K mg base) {μ : Type} {M : Mu μ} {s : μ} {E : XK} {x_char : Str} : CallS M (sp_is_letter T) E (rac (ty yStr x_char) ra0) s (ty yBool (F_is_letter x_char)) s := by
  rintro Z H vs sz m ⟨v_char, _, rfl, h_char, rfl⟩ Q q
  exact ⟨Z, v_char, x_char, rfl, sz, h_char, fun v Z2 H2 st hv => q v Z2 H2 st.pure (M.pure st m) hv⟩
def sp_is_digit (T : Txt w K mg base) : Sp := fun vs H Q _ => ∃ (Z0 : Hp) (v_char : V) (x_char : Str), vs = [v_char] ∧ (Same Z0 H) ∧ ((yStr).r Z0 v_char x_char) ∧ ∀ v Z' H', Step [] Z0 H Z' H' → (yBool).r Z' v (F_is_digit x_char) → Q v H'
set_option maxHeartbeats 4000000 in
theorem ok_is_digit (T : Txt w K mg base) : FnOk P w K mg base CX0 1 T.f_is_digit T.d_is_digit ["char"] (sp_is_digit T) := by
  refine T.F_is_digit.ok sc_is_digit (fun vs H Q E h => ?_) (fun cdv A outer s H vs Q E hr h => ?_)
  · obtain ⟨Z0, v_char, x_char, rfl, _⟩ := h
    rfl
  · obtain ⟨Z0, v_char, x_char, rfl, sz, h_char, q⟩ := h
    refine ⟨_, (pss_one (ps_ret (pe_chain op_le_str op_le_str pe_str (pv 0) pe_str))), ?_⟩
    have P := Pt.start0 sz
    generalize hF : F_is_digit x_char = y at q
    unfold F_is_digit at hF
    subst hF
    refine st_ret P (ev_chainS ev_str (ev_var (τ := yStr) rfl h_char) ev_str) (fun v Z1 H1 P1 hv => ?_)
    exact q v _ _ P1.st hv
theorem cs_is_digit (T : Txt w K mg base) {μ : Type} {M : Mu μ} {s : μ} {E : XK} {x_char : Str} : CallS M (sp_is_digit T) E (rac (ty yStr x_char) ra0) s (ty yBool (F_is_digit x_char)) s := by
  rintro Z H vs sz m ⟨v_char, _, rfl, h_char, rfl⟩ Q q
  exact ⟨Z, v_char, x_char, rfl, sz, h_char, fun v Z2 H2 st hv => q v Z2 H2 st.pure (M.pure st m) hv⟩
def sp_is_word (T : Txt w K mg base) : Sp := fun vs H Q _ => ∃ (Z0 : Hp) (v_text : V) (x_text : Str) (y : Bool), vs = [v_text] ∧ (Same Z0 H) ∧ ((yStr).r Z0 v_text x_text) ∧ (F_is_word x_text = some y) ∧ ∀ v Z' H', Step [] Z0 H Z' H' → (yBool).r Z' v y → Q v H'
set_option maxHeartbeats 4000000 in
theorem ok_is_word (T : Txt w K mg base) : FnOk P w K mg base CX0 2 T.f_is_word T.d_is_word ["text"] (sp_is_word T) := by
  have G_is_digit : FnOk P w K mg base CX0 1 T.f_is_digit T.d_is_digit ["char"] (sp_is_digit T) := ok_is_digit T
  have G_is_letter : FnOk P w K mg base CX0 1 T.f_is_letter T.d_is_letter ["char"] (sp_is_letter T) := ok_is_letter T
  refine T.F_is_word.ok sc_is_word (fun vs H Q E h => ?_) (fun cdv A outer s H vs Q E hr h => ?_)
  · obtain ⟨Z0, v_text, x_text, y, rfl, _⟩ := h
    rfl
  · obtain ⟨Z0, v_text, x_text, y, rfl, sz, h_text, hF, q⟩ := h
    refine ⟨_, (pss_cons (ps_if (PW.pt (pw_or (pt_cmpR op_eq (pv 0) pe_str (nomark _)) (pw_or1 (pt_not (pt_val (pe_call G_is_letter (hr.mono (by decide)) (by rfl) T.g_is_letter T.F_is_letter.kp T.b_is_letter .nil pass0 (pa_cons (pe_ix ix_str (pv 0) pe_int (fun _ _ => rfl)) pa_nil))))))) (pss_one (ps_ret pe_bl)) pss_nil) 
      (pss_one (ps_ret (pe_callB (cr_all rfl) (by rfl) T.m_all (by decide +kernel) (pa_cons (pe_lc (own := [("char", 1)]) (g := gName 1) rfl sc_is_word.nd (pi_str (pv 0)) (blkOk_by (own := [("char", 1)]) (N := ["text", "char"]) (sc := defScope s_is_word) (by decide +kernel)) (fun _ _ _ _ _ => (pg_name (i := 1) sc_is_word.nd rfl (Or.inl rfl))) (fun _ _ _ _ _ => pts_nil) (fun _ _ _ _ _ => (pe_or (pe_call G_is_letter (hr.mono (by decide)) (by rfl) T.g_is_letter T.F_is_letter.kp T.b_is_letter .nil pass0 (pa_cons (pv 1) pa_nil)) (pe_one (pe_call G_is_digit (hr.mono (by decide)) (by rfl) T.g_is_digit T.F_is_digit.kp T.b_is_digit .nil pass0 (pa_cons (pv 1) pa_nil)))))) pa_nil))))), ?_⟩
    have P := Pt.start0 sz
    unfold F_is_word at hF
    obtain ⟨b_32, h_31, hF⟩ := bind_inv hF
    refine st_seq (st_if P (et_orO (et_cmp (ev_eq flat_str (ev_var (τ := yStr) rfl h_text) ev_str)) (fun _ y hy => by
          obtain ⟨i_29, h_30, hy⟩ := bind_inv hy
          have hy := Option.some.inj hy
          subst hy
          exact (et_not (et_val (ev_call (cs_is_letter T) (eva_cons (ev_ixS (ev_var (τ := yStr) rfl h_text) ev_int h_30) eva_nil))))) h_31) (fun b_33 Z1 H1 e P1 => ?_) (fun b_33 Z1 H1 e P1 => ?_))
    · replace P := P1
      have hB := ifT b_33 hF
      replace hF := hB
      clear hB
      replace hF := Option.some.inj hF
      subst hF
      refine st_ret P ev_bl (fun v Z1 H1 P1 hv => ?_)
      exact q v _ _ P1.st hv
    · replace P := P1
      have hB := ifF b_33 hF
      replace hF := hB
      clear hB
      refine st_next0 ?_
      replace hF := Option.some.inj hF
      subst hF
      refine st_ret P (ev_allL (ev_li (ev_fz (en_map (υ := yBool) (fun (x_34 : Str) => ((F_is_letter x_34) || (F_is_digit x_34))) (ei_str (ev_var (τ := yStr) rfl h_text)) (fun x_34 v_35 Z' H' zz hh rx_36 => by
            exact ⟨_, tgt_name, (wpe_s wpe_z (by decide)), (ev_or0 (ev_call (cs_is_letter T) (eva_cons (ev_var (τ := yStr) rfl rx_36) eva_nil)) (ev_call (cs_is_digit T) (eva_cons (ev_var (τ := yStr) rfl rx_36) eva_nil)))⟩))))) (fun v Z1 H1 P1 hv => ?_)
      exact q v _ _ P1.st hv
theorem cs_is_word (T : Txt w K mg base) {μ : Type} {M : Mu μ} {s : μ} {E : XK} {x_text : Str} {y : Bool} (h : F_is_word x_text = some y) : CallS M (sp_is_word T) E (rac (ty yStr x_text) ra0) s (ty yBool y) s := by
  rintro Z H vs sz m ⟨v_text, _, rfl, h_text, rfl⟩ Q q
  exact ⟨Z, v_text, x_text, y, rfl, sz, h_text, h, fun v Z2 H2 st hv => q v Z2 H2 st.pure (M.pure st m) hv⟩
def sp_check_vectors (T : Txt w K mg base) : Sp := fun vs H Q E => ∃ (Z0 : Hp) (v_size : V) (v_width : V) (v_measure : V) (x_size : Int) (x_width : Str) (x_measure : Str) (y : (Res Exc Unit)), vs = [v_size, v_width, v_measure] ∧ (Same Z0 H) ∧ ((yInt).r Z0 v_size x_size) ∧ ((yStr).r Z0 v_width x_width) ∧ ((yStr).r Z0 v_measure x_measure) ∧ (F_check_vectors x_size x_width x_measure = some y) ∧ (∀ a, y = .ok a → ∀ v Z' H', Step [] Z0 H Z' H' → (yNon).r Z' v a → Q v H') ∧ (∀ c, y = .er c → ∀ Z' H', Step [] Z0 H Z' H' → E (exv T c) none H')
set_option maxHeartbeats 4000000 in
theorem ok_check_vectors (T : Txt w K mg base) : FnOk P w K mg base (L2.CX P w) 1 T.f_check_vectors T.d_check_vectors ["size", "width", "measure"] (sp_check_vectors T) := by
  refine T.F_check_vectors.okX sc_check_vectors (fun vs H Q E h => ?_) (fun cdv A outer s H vs Q E hr h => ?_)
  · obtain ⟨Z0, v_size, v_width, v_measure, x_size, x_width, x_measure, y, rfl, _⟩ := h
    rfl
  · obtain ⟨Z0, v_size, v_width, v_measure, x_size, x_width, x_measure, y, rfl, sz, h_size, h_width, h_measure, hF, q⟩ := h
    refine ⟨_, (pss_cons (ps_if (pt_cmpR op_lt (pv 0) pe_int (nomark _)) (pss_one (ps_raise rfl (takes_of rfl rfl rfl rfl) (pmk_own PySem.F.excBase_ValueError T.x_InvalidSchema T.mc_InvalidSchema T.kp_InvalidSchema (raises_own T.xb_InvalidSchema T.xt_InvalidSchema) rfl))) pss_nil) 
      (pss_cons (ps_if (pt_cmpR (op_notIn_kd T.kd_WIDTHS) (pv 1) (pe_glob (v := .ref T.a_WIDTHS) rfl T.m_WIDTHS rfl) rfl) (pss_one (ps_raise rfl (takes_of rfl rfl rfl rfl) (pmk_own PySem.F.excBase_ValueError T.x_InvalidSchema T.mc_InvalidSchema T.kp_InvalidSchema (raises_own T.xb_InvalidSchema T.xt_InvalidSchema) rfl))) pss_nil) 
      (pss_cons (ps_if (pt_cmpR op_notIn_seq (pv 2) (pe_glob (v := .ref T.a_MEASURES) rfl T.m_MEASURES rfl) rfl) (pss_one (ps_raise rfl (takes_of rfl rfl rfl rfl) (pmk_own PySem.F.excBase_ValueError T.x_InvalidSchema T.mc_InvalidSchema T.kp_InvalidSchema (raises_own T.xb_InvalidSchema T.xt_InvalidSchema) rfl))) pss_nil) 
      (pss_one (ps_if (PW.pt (pw_and (pt_cmpR op_eq (pv 2) pe_str (nomark _)) (pw_and1 (pt_cmpR op_ne (pv 1) pe_str (nomark _))))) (pss_one (ps_raise rfl (takes_of rfl rfl rfl rfl) (pmk_own PySem.F.excBase_ValueError T.x_InvalidSchema T.mc_InvalidSchema T.kp_InvalidSchema (raises_own T.xb_InvalidSchema T.xt_InvalidSchema) rfl))) pss_nil))))), ?_⟩
    obtain ⟨q, qx⟩ := q
    have P := Pt.start0 sz
    unfold F_check_vectors at hF
    refine st_seq (st_if P (et_cmp (ev_lt (ev_var (τ := yInt) rfl h_size) ev_int)) (fun b_37 Z1 H1 e P1 => ?_) (fun b_37 Z1 H1 e P1 => ?_))
    · replace P := P1
      have hB := ifT b_37 hF
      replace hF := hB
      clear hB
      replace hF := Option.some.inj hF
      subst hF
      exact qx _ rfl _ _ P.st
    · replace P := P1
      have hB := ifF b_37 hF
      replace hF := hB
      clear hB
      refine st_next0 ?_
      obtain ⟨b_38, h_39, hF⟩ := bind_inv hF
      refine st_seq (st_if P (et_cmp (ev_notin_WIDTHS T (ev_var (τ := yStr) rfl h_width) h_39)) (fun b_40 Z1 H1 e P1 => ?_) (fun b_40 Z1 H1 e P1 => ?_))
      · replace P := P1
        have hB := ifT b_40 hF
        replace hF := hB
        clear hB
        replace hF := Option.some.inj hF
        subst hF
        exact qx _ rfl _ _ P.st
      · replace P := P1
        have hB := ifF b_40 hF
        replace hF := hB
        clear hB
        refine st_next0 ?_
        refine st_seq (st_if P (et_cmp (ev_notinT fi_str (ev_var (τ := yStr) rfl h_measure) (ev_const (τ := yTup K yStr) fun Z => ⟨_, _, rfl, T.sq_MEASURES Z, (.cons ⟨rfl, by decide +kernel⟩ (.cons ⟨rfl, by decide +kernel⟩ (.cons ⟨rfl, by decide +kernel⟩ .nil))), by decide⟩))) (fun b_41 Z1 H1 e P1 => ?_) (fun b_41 Z1 H1 e P1 => ?_))
        · replace P := P1
          have hB := ifT b_41 hF
          replace hF := hB
          clear hB
          replace hF := Option.some.inj hF
          subst hF
          exact qx _ rfl _ _ P.st
        · replace P := P1
          have hB := ifF b_41 hF
          replace hF := hB
          clear hB
          refine st_next0 ?_
          refine st_if P (et_and0 (et_cmp (ev_eq flat_str (ev_var (τ := yStr) rfl h_measure) ev_str)) (et_cmp (ev_ne flat_str (ev_var (τ := yStr) rfl h_width) ev_str))) (fun b_42 Z1 H1 e P1 => ?_) (fun b_42 Z1 H1 e P1 => ?_)
          · replace P := P1
            have hB := ifT b_42 hF
            replace hF := hB
            clear hB
            replace hF := Option.some.inj hF
            subst hF
            exact qx _ rfl _ _ P.st
          · replace P := P1
            have hB := ifF b_42 hF
            replace hF := hB
            clear hB
            refine st_next ?_
            replace hF := Option.some.inj hF
            subst hF
            exact q _ rfl .non _ _ P.st rfl
theorem cs_check_vectors (T : Txt w K mg base) {μ : Type} {M : Mu μ} {s : μ} {E : XK} {x_size : Int} {x_width : Str} {x_measure : Str} {y : Unit} (h : F_check_vectors x_size x_width x_measure = some (.ok y)) : CallS M (sp_check_vectors T) E (rac (ty yInt x_size) (rac (ty yStr x_width) (rac (ty yStr x_measure) ra0))) s (ty yNon y) s := by
  rintro Z H vs sz m ⟨v_size, _, rfl, h_size, ⟨v_width, _, rfl, h_width, ⟨v_measure, _, rfl, h_measure, rfl⟩⟩⟩ Q q
  exact ⟨Z, v_size, v_width, v_measure, x_size, x_width, x_measure, _, rfl, sz, h_size, h_width, h_measure, h, fun a e v Z2 H2 st hv => by cases e; exact q v Z2 H2 st.pure (M.pure st m) hv, fun _ z => nomatch z⟩
theorem cx_check_vectors (T : Txt w K mg base) {μ : Type} {M : Mu μ} {s : μ} {E : XK} {x_size : Int} {x_width : Str} {x_measure : Str} {e : Exc} (h : F_check_vectors x_size x_width x_measure = some (.er e)) : CallE M (sp_check_vectors T) E (rac (ty yInt x_size) (rac (ty yStr x_width) (rac (ty yStr x_measure) ra0))) s (exv T e) s := by
  rintro Z H vs sz m ⟨v_size, _, rfl, h_size, ⟨v_width, _, rfl, h_width, ⟨v_measure, _, rfl, h_measure, rfl⟩⟩⟩ Q q
  exact ⟨Z, v_size, v_width, v_measure, x_size, x_width, x_measure, _, rfl, sz, h_size, h_width, h_measure, h, (fun _ z => nomatch z), fun c e Z2 H2 st => by cases e; exact q Z2 H2 st.pure (M.pure st m)⟩
def sp_check_fields (T : Txt w K mg base) : Sp := fun vs H Q E => ∃ (Z0 : Hp) (v_fields : V) (x_fields : (List (Str × Str))) (y : (Res Exc Unit)), vs = [v_fields] ∧ (Same Z0 H) ∧ (((yTup K (yP2 K yStr yStr))).r Z0 v_fields x_fields) ∧ (F_check_fields x_fields = some y) ∧ (∀ a, y = .ok a → ∀ v Z' H', Step [] Z0 H Z' H' → (yNon).r Z' v a → Q v H') ∧ (∀ c, y = .er c → ∀ Z' H', Step [] Z0 H Z' H' → E (exv T c) none H')
set_option maxHeartbeats 4000000 in
theorem ok_check_fields (T : Txt w K mg base) : FnOk P w K mg base (L2.CX P w) 3 T.f_check_fields T.d_check_fields ["fields"] (sp_check_fields T) := by
  have G_is_word : FnOk P w K mg base CX0 2 T.f_is_word T.d_is_word ["text"] (sp_is_word T) := ok_is_word T
  refine T.F_check_fields.okX sc_check_fields (fun vs H Q E h => ?_) (fun cdv A outer s H vs Q E hr h => ?_)
  · obtain ⟨Z0, v_fields, x_fields, y, rfl, _⟩ := h
    rfl
  · obtain ⟨Z0, v_fields, x_fields, y, rfl, sz, h_fields, hF, q⟩ := h
    refine ⟨_, (pss_cons (ps_for (passes_of rfl) rfl (pi_tup (pv 0)) (pg_tup rfl (pgs_cons (pg_name (i := 1) sc_check_fields.nd rfl (.inl rfl)) (pgs_cons (pg_name (i := 2) sc_check_fields.nd rfl (.inl rfl)) pgs_nil))) (pss_cons (ps_if (PW.pt (pw_or (pt_not (pt_val (pe_call G_is_word (hr.mono (by decide)) (by rfl) T.g_is_word T.F_is_word.kp T.b_is_word .nil pass0 (pa_cons (pv 1) pa_nil)))) (pw_or1 (pt_cmpR op_in_seq (pv 1) (pe_glob (v := .ref T.a_RESERVED) rfl T.m_RESERVED rfl) rfl)))) (pss_one (ps_raise rfl (takes_of rfl rfl rfl rfl) (pmk_own PySem.F.excBase_ValueError T.x_InvalidSchema T.mc_InvalidSchema T.kp_InvalidSchema (raises_own T.xb_InvalidSchema T.xt_InvalidSchema) rfl))) pss_nil) 
      (pss_one (ps_if (pt_cmpR op_notIn_seq (pv 2) (pe_glob (v := .ref T.a_KINDS) rfl T.m_KINDS rfl) rfl) (pss_one (ps_raise rfl (takes_of rfl rfl rfl rfl) (pmk_own PySem.F.excBase_ValueError T.x_InvalidSchema T.mc_InvalidSchema T.kp_InvalidSchema (raises_own T.xb_InvalidSchema T.xt_InvalidSchema) rfl))) pss_nil)))) 
      (pss_one (ps_if (pt_cmpR op_lt (TSN.pe_lenSetT rfl (by rfl) T.m_len (by rfl) T.m_set (pe_lc (own := [("name", 1), ("_", 3)]) (g := gTup K 2 (gCons (gName 1) (gCons (gName 3) gNil))) rfl sc_check_fields.nd (pi_tup (pv 0)) (blkOk_by (own := [("name", 1), ("_", 3)]) (N := ["fields", "name", "kind", "_"]) (sc := defScope s_check_fields) (by decide +kernel)) (fun _ _ _ _ _ => (by exact (pg_tup rfl (pgs_cons (pg_name (i := 1) sc_check_fields.nd rfl (Or.inl rfl)) (pgs_cons (pg_name (i := 3) sc_check_fields.nd rfl (Or.inl rfl)) pgs_nil))))) (fun _ _ _ _ _ => pts_nil) (fun _ _ _ _ _ => (pv 1)))) (pe_callB call_len_seq (by rfl) T.m_len PySem.boot_len (pa_cons (pv 0) pa_nil)) (nomark _)) (pss_one (ps_raise rfl (takes_of rfl rfl rfl rfl) (pmk_own PySem.F.excBase_ValueError T.x_InvalidSchema T.mc_InvalidSchema T.kp_InvalidSchema (raises_own T.xb_InvalidSchema T.xt_InvalidSchema) rfl))) pss_nil))), ?_⟩
    obtain ⟨q, qx⟩ := q
    have P := Pt.start0 sz
    unfold F_check_fields at hF
    obtain ⟨f_71, hL_72, hF⟩ := bind_inv hF
    refine st_seq (st_for (τ := (yP2 K yStr yStr)) (fun (r_45 : List (Str × Str)) σ' Z' H' => ∃ w_43, ∃ (y_51 : Option V) (y_52 : Option V) (y_53 : Option V), σ' = [some v_fields, y_51, y_52, y_53] ∧ Pt [] Z0 H muN Z' H' () ∧ ((yTup K (yP2 K yStr yStr))).r Z' v_fields x_fields ∧ forS L_check_fields_1 r_45 w_43 = some f_71) P (ei_tup (ev_var (τ := (yTup K (yP2 K yStr yStr))) rfl h_fields)) ?_ ?_ ?_)
    · rintro Z1 H1 e P1
      replace P := P1
      replace h_fields := ((yTup K (yP2 K yStr yStr))).mono e.z h_fields
      exact ⟨(), _, _, _, rfl, P, h_fields, hL_72⟩
    · rintro Zb_49 Hb eb x_44 r_45 σ' v_59 Z1 H1 Z2 H2 zs_48 ⟨w_43, y_51, y_52, y_53, rfl, P, k_50, hq_47⟩ e hx_60
      replace P := P.item e
      replace k_50 := ((yTup K (yP2 K yStr yStr))).mono e.z k_50
      replace zs_48 := zs_48.trans e.z
      obtain ⟨u_61, hB_46, hq_47⟩ := bind_inv (forS_cons hq_47)
      unfold L_check_fields_1 at hB_46
      obtain ⟨v_62, v_63, k_64, k_65, tg_66⟩ := tgt_p2 hx_60
      refine (tg_66 tgt_name tgt_name) _ P.sub _ ?_
      obtain ⟨r_67, h_68, hB_46⟩ := bind_inv hB_46
      refine st_seq (st_if P (et_or0 (et_not (et_val (ev_call (cs_is_word T h_68) (eva_cons (ev_var (τ := yStr) rfl k_64) eva_nil)))) (et_cmp (ev_inT fi_str (ev_var (τ := yStr) rfl k_64) (ev_const (τ := yTup K yStr) fun Z => ⟨_, _, rfl, T.sq_RESERVED Z, (.cons ⟨rfl, by decide +kernel⟩ (.cons ⟨rfl, by decide +kernel⟩ (.cons ⟨rfl, by decide +kernel⟩ (.cons ⟨rfl, by decide +kernel⟩ (.cons ⟨rfl, by decide +kernel⟩ (.cons ⟨rfl, by decide +kernel⟩ (.cons ⟨rfl, by decide +kernel⟩ (.cons ⟨rfl, by decide +kernel⟩ .nil)))))))), by decide⟩)))) (fun b_69 Z1 H1 e P1 => ?_) (fun b_69 Z1 H1 e P1 => ?_))
      · replace P := P1
        have hB := ifT b_69 hB_46
        replace hB_46 := hB
        clear hB
        replace zs_48 := zs_48.trans e.z
        replace hB_46 := Option.some.inj hB_46
        subst hB_46
        have hz := nxt_ret hq_47
        subst hz
        have hz := ret_inv hF
        replace hz := Option.some.inj hz
        subst hz
        exact qx _ rfl _ _ P.st
      · replace P := P1
        have hB := ifF b_69 hB_46
        replace hB_46 := hB
        clear hB
        refine st_next0 ?_
        replace k_50 := ((yTup K (yP2 K yStr yStr))).mono e.z k_50
        replace zs_48 := zs_48.trans e.z
        refine st_if P (et_cmp (ev_notinT fi_str (ev_var (τ := yStr) rfl k_65) (ev_const (τ := yTup K yStr) fun Z => ⟨_, _, rfl, T.sq_KINDS Z, (.cons ⟨rfl, by decide +kernel⟩ (.cons ⟨rfl, by decide +kernel⟩ (.cons ⟨rfl, by decide +kernel⟩ .nil))), by decide⟩))) (fun b_70 Z1 H1 e P1 => ?_) (fun b_70 Z1 H1 e P1 => ?_)
        · replace P := P1
          have hB := ifT b_70 hB_46
          replace hB_46 := hB
          clear hB
          replace zs_48 := zs_48.trans e.z
          replace hB_46 := Option.some.inj hB_46
          subst hB_46
          have hz := nxt_ret hq_47
          subst hz
          have hz := ret_inv hF
          replace hz := Option.some.inj hz
          subst hz
          exact qx _ rfl _ _ P.st
        · replace P := P1
          have hB := ifF b_70 hB_46
          replace hB_46 := hB
          clear hB
          refine st_next ?_
          replace k_50 := ((yTup K (yP2 K yStr yStr))).mono e.z k_50
          replace zs_48 := zs_48.trans e.z
          replace hB_46 := Option.some.inj hB_46
          subst hB_46
          exact ⟨_, zs_48, P.sub, (), _, _, _, rfl, P, k_50, (nxt_go hq_47)⟩
    rintro σ' Z1 H1 _ _ ⟨w_54, y_51, y_52, y_53, rfl, P, k_55, hl⟩
    have hz := forS_nil hl
    subst hz
    replace hF := go_inv hF
    refine st_nx ?_
    obtain ⟨g_81, hF⟩ := guard_inv hF
    refine st_if P (et_cmp (ev_lt (ev_lenSetT (ev_li (ev_fz (en_map (υ := yStr) (fun (x_73 : (Str × Str)) => x_73.1) (ei_tup (ev_var (τ := (yTup K (yP2 K yStr yStr))) rfl k_55)) (fun x_73 v_74 Z' H' zz hh rx_75 => by
          obtain ⟨v_76, v_77, k_78, k_79, tg_80⟩ := tgt_p2 rx_75
          exact ⟨_, (tg_80 tgt_name tgt_name), (wpe_s (wpe_s wpe_z (by decide)) (by decide)), (ev_var (τ := yStr) rfl k_78)⟩)))) g_81) (ev_lenT (fun _ _ _ h => h) (ev_var (τ := (yTup K (yP2 K yStr yStr))) rfl k_55)))) (fun b_82 Z1 H1 e P1 => ?_) (fun b_82 Z1 H1 e P1 => ?_)
    · replace P := P1
      have hB := ifT b_82 hF
      replace hF := hB
      clear hB
      replace hF := Option.some.inj hF
      subst hF
      exact qx _ rfl _ _ P.st
    · replace P := P1
      have hB := ifF b_82 hF
      replace hF := hB
      clear hB
      refine st_next ?_
      replace hF := Option.some.inj hF
      subst hF
      exact q _ rfl .non _ _ P.st rfl
theorem cs_check_fields (T : Txt w K mg base) {μ : Type} {M : Mu μ} {s : μ} {E : XK} {x_fields : (List (Str × Str))} {y : Unit} (h : F_check_fields x_fields = some (.ok y)) : CallS M (sp_check_fields T) E (rac (ty (yTup K (yP2 K yStr yStr)) x_fields) ra0) s (ty yNon y) s := by
  rintro Z H vs sz m ⟨v_fields, _, rfl, h_fields, rfl⟩ Q q
  exact ⟨Z, v_fields, x_fields, _, rfl, sz, h_fields, h, fun a e v Z2 H2 st hv => by cases e; exact q v Z2 H2 st.pure (M.pure st m) hv, fun _ z => nomatch z⟩
theorem cx_check_fields (T : Txt w K mg base) {μ : Type} {M : Mu μ} {s : μ} {E : XK} {x_fields : (List (Str × Str))} {e : Exc} (h : F_check_fields x_fields = some (.er e)) : CallE M (sp_check_fields T) E (rac (ty (yTup K (yP2 K yStr yStr)) x_fields) ra0) s (exv T e) s := by
  rintro Z H vs sz m ⟨v_fields, _, rfl, h_fields, rfl⟩ Q q
  exact ⟨Z, v_fields, x_fields, _, rfl, sz, h_fields, h, (fun _ z => nomatch z), fun c e Z2 H2 st => by cases e; exact q Z2 H2 st.pure (M.pure st m)⟩
def sp_Schema___init__ (T : Txt w K mg base) : Sp := fun vs H Q E => ∃ (p dx : Addr) (Z0 : Hp) (v_size : V) (v_width : V) (v_measure : V) (v_fields : V) (x_size : Int) (x_width : Str) (x_measure : Str) (x_fields : (List (Str × Str))) (y : (Res Exc Schema)), vs = [.ref p, v_size, v_width, v_measure, v_fields] ∧ (Same Z0 H) ∧ (H p = some (.ins T.c_Schema dx [])) ∧ (Z0 p = none) ∧ ((yInt).r Z0 v_size x_size) ∧ ((yStr).r Z0 v_width x_width) ∧ ((yStr).r Z0 v_measure x_measure) ∧ (((yList (yP2 K yStr yStr))).r Z0 v_fields x_fields) ∧ (F_Schema___init__ x_size x_width x_measure x_fields = some y) ∧ (∀ a, y = .ok a → ∀ Z' H' o, Step [p] Z0 H Z' H' → H' p = some o → (y_Schema T).r (upd Z' p o) (.ref p) a → Q .non H') ∧ (∀ c, y = .er c → ∀ Z' H', Step [p] Z0 H Z' H' → E (exv T c) none H')
set_option maxHeartbeats 4000000 in
theorem ok_Schema___init__ (T : Txt w K mg base) : FnOk P w K mg base (L2.CX P w) 4 T.f_Schema___init__ T.d_Schema___init__ ["self", "size", "width", "measure", "fields"] (sp_Schema___init__ T) := by
  have G_check_fields : FnOk P w K mg base (L2.CX P w) 3 T.f_check_fields T.d_check_fields ["fields"] (sp_check_fields T) := ok_check_fields T
  have G_check_vectors : FnOk P w K mg base (L2.CX P w) 1 T.f_check_vectors T.d_check_vectors ["size", "width", "measure"] (sp_check_vectors T) := ok_check_vectors T
  refine T.F_Schema___init__.ok sc_Schema___init__ (fun vs H Q E h => ?_) (fun cdv A outer s H vs Q E hr h => ?_)
  · obtain ⟨p, dx, Z0, v_size, v_width, v_measure, v_fields, x_size, x_width, x_measure, x_fields, y, rfl, _⟩ := h
    rfl
  · obtain ⟨p, dx, Z0, v_size, v_width, v_measure, v_fields, x_size, x_width, x_measure, x_fields, y, rfl, sz, hself, zself, h_size, h_width, h_measure, h_fields, hF, q⟩ := h
    refine ⟨_, (pss_cons (ps_fld (pv 0) (pv 1) rfl) 
      (pss_cons (ps_fld (pv 0) (pv 2) rfl) 
      (pss_cons (ps_fld (pv 0) (pv 3) rfl) 
      (pss_cons (ps_fld (pv 0) (pe_callTy call_tuple_of (by rfl) T.m_tuple (by decide +kernel) (pa_cons (pe_lc (own := [("pair", 5)]) (g := gName 5) rfl sc_Schema___init__.nd (pi_list (pv 4)) (blkOk_by (own := [("pair", 5)]) (N := ["self", "size", "width", "measure", "fields", "pair"]) (sc := defScope s_Schema___init__) (by decide +kernel)) (fun _ _ _ _ _ => (pg_name (i := 5) sc_Schema___init__.nd rfl (Or.inl rfl))) (fun _ _ _ _ _ => pts_nil) (fun _ _ _ _ _ => (pe_callTy (r := rTupleB K) (by exact call_tuple_of) (by rfl) T.m_tuple (by decide +kernel) (pa_cons (pv 5) pa_nil)))) pa_nil)) rfl) 
      (pss_cons (ps_expr (pe_call G_check_vectors (hr.mono (by decide)) (by rfl) T.g_check_vectors T.F_check_vectors.kp T.b_check_vectors .nil (passes_call (takes_of rfl rfl rfl rfl) (fun _ _ _ _ h => h)) (pa_cons (pv 1) (pa_cons (pv 2) (pa_cons (pv 3) pa_nil))))) 
      (pss_one (ps_expr (pe_call G_check_fields (hr.mono (by decide)) (by rfl) T.g_check_fields T.F_check_fields.kp T.b_check_fields .nil (passes_call (takes_of rfl rfl rfl rfl) (fun _ _ _ _ h => h)) (pa_cons (pe_fld (pv 0) rfl) pa_nil))))))))), ?_⟩
    obtain ⟨q, qx⟩ := q
    have P : Pt [p] Z0 H muN Z0 H () := ⟨Step.refl sz, trivial, fun _ h => (nomatch h)⟩
    unfold F_Schema___init__ at hF
    refine st_seq (st_fld (x := x_size) (τ := yInt) P hself zself List.not_mem_nil (.inl List.mem_cons_self) rfl (ev_var (τ := yInt) rfl h_size) T.cl_Schema T.n_Schema_size (Nat.lt_of_le_of_lt (Nat.le_refl 0) (by decide)) (fun v_83 Z1 H1 e P1 k_84 hself1 zself1 => ?_))
    refine st_nx ?_
    replace P := P1
    replace hself := hself1
    replace zself := zself1
    replace h_fields := ((yList (yP2 K yStr yStr))).mono e.z h_fields
    refine st_seq (st_fld (x := x_width) (τ := yStr) P hself zself List.not_mem_nil (.inl List.mem_cons_self) rfl (ev_var (τ := yStr) rfl h_width) T.cl_Schema T.n_Schema_width (Nat.lt_of_le_of_lt (putF_le (Nat.le_refl 0)) (by decide)) (fun v_85 Z1 H1 e P1 k_86 hself1 zself1 => ?_))
    refine st_nx ?_
    replace P := P1
    replace hself := hself1
    replace zself := zself1
    replace h_fields := ((yList (yP2 K yStr yStr))).mono e.z h_fields
    refine st_seq (st_fld (x := x_measure) (τ := yStr) P hself zself List.not_mem_nil (.inl List.mem_cons_self) rfl (ev_var (τ := yStr) rfl h_measure) T.cl_Schema T.n_Schema_measure (Nat.lt_of_le_of_lt (putF_le (putF_le (Nat.le_refl 0))) (by decide)) (fun v_87 Z1 H1 e P1 k_88 hself1 zself1 => ?_))
    refine st_nx ?_
    replace P := P1
    replace hself := hself1
    replace zself := zself1
    replace h_fields := ((yList (yP2 K yStr yStr))).mono e.z h_fields
    refine st_seq (st_fld (x := x_fields) (τ := (yTup K (yP2 K yStr yStr))) P hself zself List.not_mem_nil (.inl List.mem_cons_self) rfl (ev_tuple_of (fun _ _ _ h => h) (ev_li (ev_fz (en_cast (en_map (fun x => x) (ei_list (ev_var (τ := (yList (yP2 K yStr yStr))) rfl h_fields)) (fun x_92 v_93 Z' H' zz hh rx_94 => by
          exact ⟨_, tgt_name, (wpe_s wpe_z (by decide)), (ev_tuple_id (fun _ _ _ h => h) it_p2 (ev_var (τ := (yP2 K yStr yStr)) rfl rx_94))⟩)) (List.map_id' _))))) T.cl_Schema T.n_Schema_fields (Nat.lt_of_le_of_lt (putF_le (putF_le (putF_le (Nat.le_refl 0)))) (by decide)) (fun v_95 Z1 H1 e P1 k_96 hself1 zself1 => ?_))
    refine st_nx ?_
    replace P := P1
    replace hself := hself1
    replace zself := zself1
    obtain ⟨p_99, h_98, hF⟩ := bind_inv hF
    rcases p_99 with r_97 | e
    rotate_left
    · replace hF := rer_inv hF
      replace hF := Option.some.inj hF
      subst hF
      refine st_seq (st_exprE P (eve_call (cx_check_vectors T h_98) (eva_cons (ev_var (τ := yInt) rfl h_size) (eva_cons (ev_var (τ := yStr) rfl h_width) (eva_cons (ev_var (τ := yStr) rfl h_measure) eva_nil)))) (fun Z1 H1 e1 P1 => ?_))
      exact qx _ rfl _ _ P1.st
    replace hF := rok_inv hF
    refine st_seq (st_expr P (ev_call (cs_check_vectors T h_98) (eva_cons (ev_var (τ := yInt) rfl h_size) (eva_cons (ev_var (τ := yStr) rfl h_width) (eva_cons (ev_var (τ := yStr) rfl h_measure) eva_nil)))) (fun Z1 H1 e P1 => ?_))
    refine st_nx ?_
    replace P := P1
    replace k_96 := ((yTup K (yP2 K yStr yStr))).mono e.z k_96
    replace zself := e.n _ (some_ne hself) zself
    replace hself := e.h _ _ List.not_mem_nil hself
    obtain ⟨p_103, h_102, hF⟩ := bind_inv hF
    rcases p_103 with r_101 | e
    rotate_left
    · replace hF := rer_inv hF
      replace hF := Option.some.inj hF
      subst hF
      refine st_exprE P (eve_call (cx_check_fields T h_102) (eva_cons (ev_selfF hself List.not_mem_nil rfl T.cl_Schema T.n_Schema_fields (by rw [lookup_putF, if_pos rfl]) k_96) eva_nil)) (fun Z1 H1 e1 P1 => ?_)
      exact qx _ rfl _ _ P1.st
    replace hF := rok_inv hF
    refine st_expr P (ev_call (cs_check_fields T h_102) (eva_cons (ev_selfF hself List.not_mem_nil rfl T.cl_Schema T.n_Schema_fields (by rw [lookup_putF, if_pos rfl]) k_96) eva_nil)) (fun Z1 H1 e P1 => ?_)
    replace P := P1
    replace k_96 := ((yTup K (yP2 K yStr yStr))).mono e.z k_96
    replace zself := e.n _ (some_ne hself) zself
    replace hself := e.h _ _ List.not_mem_nil hself
    replace hF := Option.some.inj hF
    subst hF
    exact q _ rfl _ _ _ P.st hself ⟨p, dx, v_83, v_85, v_87, v_95, rfl, upd_same, k_84, k_86, k_88, ((yTup K (yP2 K yStr yStr))).mono (same_upd zself) k_96⟩
theorem is_Schema___init__ (T : Txt w K mg base) {μ : Type} {M : Mu μ} {s : μ} {E : XK} {x_size : Int} {x_width : Str} {x_measure : Str} {x_fields : (List (Str × Str))} {y : Schema} (h : F_Schema___init__ x_size x_width x_measure x_fields = some (.ok y)) : InitS M T.c_Schema (sp_Schema___init__ T) E (rac (ty yInt x_size) (rac (ty yStr x_width) (rac (ty yStr x_measure) (rac (ty (yList (yP2 K yStr yStr)) x_fields) ra0)))) s (ty (y_Schema T) y) s := by
  rintro Z H vs x dx sz m ⟨v_size, _, rfl, h_size, ⟨v_width, _, rfl, h_width, ⟨v_measure, _, rfl, h_measure, ⟨v_fields, _, rfl, h_fields, rfl⟩⟩⟩⟩ hx zx nx Q q
  exact ⟨x, dx, Z, v_size, v_width, v_measure, v_fields, x_size, x_width, x_measure, x_fields, _, rfl, sz, hx, zx, h_size, h_width, h_measure, h_fields, h, fun a e Z2 H2 o st ho hr => by cases e; exact q Z2 H2 o (st.weak fun a h => by rw [List.mem_singleton] at h; rw [h]; exact .inl List.mem_cons_self) (Mu.away st nx m) ho hr, fun _ z => nomatch z⟩
theorem ix_Schema___init__ (T : Txt w K mg base) {μ : Type} {M : Mu μ} {s : μ} {E : XK} {x_size : Int} {x_width : Str} {x_measure : Str} {x_fields : (List (Str × Str))} {e : Exc} (h : F_Schema___init__ x_size x_width x_measure x_fields = some (.er e)) : InitE M T.c_Schema (sp_Schema___init__ T) E (rac (ty yInt x_size) (rac (ty yStr x_width) (rac (ty yStr x_measure) (rac (ty (yList (yP2 K yStr yStr)) x_fields) ra0)))) s (exv T e) s := by
  rintro Z H vs x dx sz m ⟨v_size, _, rfl, h_size, ⟨v_width, _, rfl, h_width, ⟨v_measure, _, rfl, h_measure, ⟨v_fields, _, rfl, h_fields, rfl⟩⟩⟩⟩ hx zx nx Q q
  exact ⟨x, dx, Z, v_size, v_width, v_measure, v_fields, x_size, x_width, x_measure, x_fields, _, rfl, sz, hx, zx, h_size, h_width, h_measure, h_fields, h, (fun _ z => nomatch z), fun c e Z2 H2 st => by cases e; exact q Z2 H2 (st.weak fun a h => by rw [List.mem_singleton] at h; rw [h]; exact .inl List.mem_cons_self) (Mu.away st nx m)⟩
def sp_law_shown (T : Txt w K mg base) : Sp := fun vs H Q _ => ∃ (Z0 : Hp) (v_layout : V) (x_layout : Layout) (y : ((List ((Option Int) × (List (Int × (List Int))) × (List ((List Int) × (List Int))))) × (List Int))), vs = [v_layout] ∧ (Same Z0 H) ∧ (((y_Layout T)).r Z0 v_layout x_layout) ∧ (F_law_shown x_layout = some y) ∧ ∀ v Z' H', Step [] Z0 H Z' H' → ((yP2 K (yList (yP3 K (yOpt yInt) (yList (yP2 K yInt (yList yInt))) (yList (yP2 K (yList yInt) (yList yInt))))) (yList yInt))).r Z' v y → Q v H'
set_option maxHeartbeats 4000000 in
theorem ok_law_shown (T : Txt w K mg base) : FnOk P w K mg base CX0 1 T.f_law_shown T.d_law_shown ["layout"] (sp_law_shown T) := by
  refine T.F_law_shown.ok sc_law_shown (fun vs H Q E h => ?_) (fun cdv A outer s H vs Q E hr h => ?_)
  · obtain ⟨Z0, v_layout, x_layout, y, rfl, _⟩ := h
    rfl
  · obtain ⟨Z0, v_layout, x_layout, y, rfl, sz, h_layout, hF, q⟩ := h
    refine ⟨_, (pss_cons (ps_set (i := 1) sc_law_shown.nd rfl (.inl rfl) (pe_lst pa_nil)) 
      (pss_cons (ps_for PassesOwn.never rfl (pi_tup (pe_fld (pv 0) rfl)) (pg_name (i := 2) sc_law_shown.nd rfl (.inl rfl)) (pss_cons (ps_setLc (i := 3) (own := [("start", 4), ("centre", 5)]) (g := gTup K 2 (gCons (gName 4) (gCons (gName 5) gNil))) rfl sc_law_shown.nd rfl rfl (sw_true rfl rfl rfl (by decide +kernel)) (pi_tup (pe_fld (pv 2) rfl)) (blkOk_by (own := [("start", 4), ("centre", 5)]) (N := ["layout", "shown", "sketch", "centres", "start", "centre", "cells", "near", "rival"]) (sc := defScope s_law_shown) (by decide +kernel)) (fun _ _ _ _ _ => (by exact (pg_tup rfl (pgs_cons (pg_name (i := 4) sc_law_shown.nd rfl (Or.inl rfl)) (pgs_cons (pg_name (i := 5) sc_law_shown.nd rfl (Or.inl rfl)) pgs_nil))))) (fun _ _ _ _ _ => pts_nil) (fun _ _ _ _ _ => (pe_tup (pa_cons (pv 4) (pa_cons (pe_callTy (r := rListB K) (by exact call_list_of) (by rfl) T.m_list (by decide +kernel) (pa_cons (pv 5) pa_nil)) pa_nil))))) 
      (pss_cons (ps_setLc (i := 6) (own := [("near", 7), ("rival", 8)]) (g := gTup K 2 (gCons (gName 7) (gCons (gName 8) gNil))) rfl sc_law_shown.nd rfl rfl (sw_true rfl rfl rfl (by decide +kernel)) (pi_tup (pe_fld (pv 2) rfl)) (blkOk_by (own := [("near", 7), ("rival", 8)]) (N := ["layout", "shown", "sketch", "centres", "start", "centre", "cells", "near", "rival"]) (sc := defScope s_law_shown) (by decide +kernel)) (fun _ _ _ _ _ => (by exact (pg_tup rfl (pgs_cons (pg_name (i := 7) sc_law_shown.nd rfl (Or.inl rfl)) (pgs_cons (pg_name (i := 8) sc_law_shown.nd rfl (Or.inl rfl)) pgs_nil))))) (fun _ _ _ _ _ => pts_nil) (fun _ _ _ _ _ => (pe_tup (pa_cons (pe_callTy (r := rListB K) (by exact call_list_of) (by rfl) T.m_list (by decide +kernel) (pa_cons (pv 7) pa_nil)) (pa_cons (pe_callTy (r := rListB K) (by exact call_list_of) (by rfl) T.m_list (by decide +kernel) (pa_cons (pv 8) pa_nil)) pa_nil))))) 
      (pss_one (ps_expr (pe_bm PySem.F.plainAttrs_list PySem.F.slot_list_append PySem.F.type_list_append mt_append (pv 1) (pa_cons (pe_tup (pa_cons (pe_fld (pv 2) rfl) (pa_cons (pv 3) (pa_cons (pv 6) pa_nil)))) pa_nil))))))) 
      (pss_one (ps_ret (pe_tup (pa_cons (pv 1) (pa_cons (pe_callTy call_list_of (by rfl) T.m_list (by decide +kernel) (pa_cons (pe_fld (pv 0) rfl) pa_nil)) pa_nil))))))), ?_⟩
    have P := Pt.start0 sz
    unfold F_law_shown at hF
    refine st_norm (by dsimp only [List.set, L2.start, List.map, List.length, List.replicate, List.cons_append, List.nil_append, Nat.reduceSub, Nat.reduceAdd]) ?_
    obtain ⟨x_shown_108, h_109, hF⟩ := bind_inv hF
    replace h_109 := Option.some.inj h_109
    refine st_seq (st_setN (τ := (yP3 K (yOpt yInt) (yList (yP2 K yInt (yList yInt))) (yList (yP2 K (yList yInt) (yList yInt))))) P (en_cast (en_listD (eva_nils (τ := (yP3 K (yOpt yInt) (yList (yP2 K yInt (yList yInt))) (yList (yP2 K (yList yInt) (yList yInt)))))) (by show 0 ≤ sizeLine; decide)) h_109) (fun p_110 Z1 H1 e P1 fr_112 o_111 => ?_))
    refine st_nx ?_
    replace P := P1
    replace h_layout := ((y_Layout T)).mono e.z h_layout
    refine st_norm (by dsimp only [List.set, L2.start, List.map, List.length, List.replicate, List.cons_append, List.nil_append, Nat.reduceSub, Nat.reduceAdd]) ?_
    obtain ⟨f_168, hL_169, hF⟩ := bind_inv hF
    refine st_seq (st_for (τ := (y_Sketch T)) (fun (r_115 : List Sketch) σ' Z' H' => ∃ w_113, ∃ (y_122 : Option V) (y_123 : Option V) (y_124 : Option V) (y_125 : Option V) (y_126 : Option V) (y_127 : Option V) (y_128 : Option V), σ' = [some v_layout, some (.ref p_110), y_122, y_123, y_124, y_125, y_126, y_127, y_128] ∧ Pt [] Z0 H muN Z' H' () ∧ ((y_Layout T)).r Z' v_layout x_layout ∧ Own [] H muN.fp Z' H' (yP3 K (yOpt yInt) (yList (yP2 K yInt (yList yInt))) (yList (yP2 K (yList yInt) (yList yInt)))) p_110 w_113 ∧ forF L_law_shown_1 r_115 w_113 = some f_168) P (ei_tup (ev_fld (fo_Layout_sketches T) T.cl_Layout T.n_Layout_sketches (ev_var (τ := (y_Layout T)) rfl h_layout))) ?_ ?_ ?_)
    · rintro Z1 H1 e P1
      replace P := P1
      replace h_layout := ((y_Layout T)).mono e.z h_layout
      replace o_111 := o_111.next e
      exact ⟨x_shown_108, _, _, _, _, _, _, _, rfl, P, h_layout, o_111, hL_169⟩
    · rintro Zb_119 Hb eb x_114 r_115 σ' v_139 Z1 H1 Z2 H2 zs_118 ⟨w_113, y_122, y_123, y_124, y_125, y_126, y_127, y_128, rfl, P, k_120, o_121, hq_117⟩ e hx_140
      replace P := P.item e
      replace k_120 := ((y_Layout T)).mono e.z k_120
      replace o_121 := o_121.step e List.not_mem_nil
      replace zs_118 := zs_118.trans e.z
      obtain ⟨u_141, hB_116, hq_117⟩ := bind_inv (forF_cons hq_117)
      unfold L_law_shown_1 at hB_116
      refine tgt_name _ P.sub _ ?_
      refine st_norm (by dsimp only [List.set, L2.start, List.map, List.length, List.replicate, List.cons_append, List.nil_append, Nat.reduceSub, Nat.reduceAdd]) ?_
      obtain ⟨x_centres_150, h_151, hB_116⟩ := bind_inv hB_116
      replace h_151 := Option.some.inj h_151
      refine st_seq (st_set P (ev_cast (ev_fz (en_map (υ := (yP2 K yInt (yList yInt))) (fun (x_142 : (Int × (List Int))) => (x_142.1, x_142.2)) (ei_tup (ev_fld (fo_Sketch_centres T) T.cl_Sketch T.n_Sketch_centres (ev_var (τ := (y_Sketch T)) rfl hx_140))) (fun x_142 v_143 Z' H' zz hh rx_144 => by
            obtain ⟨v_145, v_146, k_147, k_148, tg_149⟩ := tgt_p2 rx_144
            exact ⟨_, (tg_149 tgt_name tgt_name), (wpe_s (wpe_s wpe_z (by decide)) (by decide)), (ev_p2 (K := K) (eva_cons (ev_var (τ := yInt) rfl k_147) (eva_cons (ev_fz (en_list_ofT (fun _ _ _ h => h) (ev_var (τ := (yTup K yInt)) rfl k_148))) eva_nil)))⟩))) h_151) (fun v_152 Z1 H1 e P1 k_153 => ?_))
      refine st_nx ?_
      replace P := P1
      replace k_120 := ((y_Layout T)).mono e.z k_120
      replace o_121 := o_121.next e
      replace hx_140 := ((y_Sketch T)).mono e.z hx_140
      replace zs_118 := zs_118.trans e.z
      refine st_norm (by dsimp only [List.set, L2.start, List.map, List.length, List.replicate, List.cons_append, List.nil_append, Nat.reduceSub, Nat.reduceAdd]) ?_
      obtain ⟨x_cells_162, h_163, hB_116⟩ := bind_inv hB_116
      replace h_163 := Option.some.inj h_163
      refine st_seq (st_set P (ev_cast (ev_fz (en_map (υ := (yP2 K (yList yInt) (yList yInt))) (fun (x_154 : ((List Int) × (List Int))) => (x_154.1, x_154.2)) (ei_tup (ev_fld (fo_Sketch_cells T) T.cl_Sketch T.n_Sketch_cells (ev_var (τ := (y_Sketch T)) rfl hx_140))) (fun x_154 v_155 Z' H' zz hh rx_156 => by
            obtain ⟨v_157, v_158, k_159, k_160, tg_161⟩ := tgt_p2 rx_156
            exact ⟨_, (tg_161 tgt_name tgt_name), (wpe_s (wpe_s wpe_z (by decide)) (by decide)), (ev_p2 (K := K) (eva_cons (ev_fz (en_list_ofT (fun _ _ _ h => h) (ev_var (τ := (yTup K yInt)) rfl k_159))) (eva_cons (ev_fz (en_list_ofT (fun _ _ _ h => h) (ev_var (τ := (yTup K yInt)) rfl k_160))) eva_nil)))⟩))) h_163) (fun v_164 Z1 H1 e P1 k_165 => ?_))
      refine st_nx ?_
      replace P := P1
      replace k_120 := ((y_Layout T)).mono e.z k_120
      replace o_121 := o_121.next e
      replace hx_140 := ((y_Sketch T)).mono e.z hx_140
      replace k_153 := ((yList (yP2 K yInt (yList yInt)))).mono e.z k_153
      replace zs_118 := zs_118.trans e.z
      refine st_norm (by dsimp only [List.set, L2.start, List.map, List.length, List.replicate, List.cons_append, List.nil_append, Nat.reduceSub, Nat.reduceAdd]) ?_
      obtain ⟨g_166, hB_116⟩ := guard_inv hB_116
      refine st_append P o_121 rfl (ev_p3 (K := K) (eva_cons (ev_fld (fo_Sketch_parent T) T.cl_Sketch T.n_Sketch_parent (ev_var (τ := (y_Sketch T)) rfl hx_140)) (eva_cons (ev_var (τ := (yList (yP2 K yInt (yList yInt)))) rfl k_153) (eva_cons (ev_var (τ := (yList (yP2 K (yList yInt) (yList yInt)))) rfl k_165) eva_nil)))) g_166 (fun Z1 H1 e P1 o_167 => ?_)
      replace P := P1
      replace k_120 := ((y_Layout T)).mono e.z k_120
      replace zs_118 := zs_118.trans e.z
      replace hB_116 := Option.some.inj hB_116
      subst hB_116
      exact ⟨_, zs_118, P.sub, (w_113 ++ [(x_114.parent, x_centres_150, x_cells_162)]), _, _, _, _, _, _, _, rfl, P, k_120, o_167, hq_117⟩
    rintro σ' Z1 H1 _ _ ⟨w_129, y_122, y_123, y_124, y_125, y_126, y_127, y_128, rfl, P, k_130, o_131, hl⟩
    have hz := (forF_nil hl).symm
    subst hz
    refine st_nx ?_
    refine st_norm (by dsimp only [List.set, L2.start, List.map, List.length, List.replicate, List.cons_append, List.nil_append, Nat.reduceSub, Nat.reduceAdd]) ?_
    obtain ⟨Z, P, zf, hf, of⟩ := o_131.fz P
    replace k_130 := ((y_Layout T)).mono zf k_130
    have k_170 := hf
    clear hf zf of
    replace hF := Option.some.inj hF
    subst hF
    refine st_ret P (ev_p2 (K := K) (eva_cons (ev_var (τ := (yList (yP3 K (yOpt yInt) (yList (yP2 K yInt (yList yInt))) (yList (yP2 K (yList yInt) (yList yInt)))))) rfl k_170) (eva_cons (ev_fz (en_list_ofT (fun _ _ _ h => h) (ev_fld (fo_Layout_leaves T) T.cl_Layout T.n_Layout_leaves (ev_var (τ := (y_Layout T)) rfl k_130)))) eva_nil))) (fun v Z1 H1 P1 hv => ?_)
    exact q v _ _ P1.st hv
theorem cs_law_shown (T : Txt w K mg base) {μ : Type} {M : Mu μ} {s : μ} {E : XK} {x_layout : Layout} {y : ((List ((Option Int) × (List (Int × (List Int))) × (List ((List Int) × (List Int))))) × (List Int))} (h : F_law_shown x_layout = some y) : CallS M (sp_law_shown T) E (rac (ty (y_Layout T) x_layout) ra0) s (ty (yP2 K (yList (yP3 K (yOpt yInt) (yList (yP2 K yInt (yList yInt))) (yList (yP2 K (yList yInt) (yList yInt))))) (yList yInt)) y) s := by
  rintro Z H vs sz m ⟨v_layout, _, rfl, h_layout, rfl⟩ Q q
  exact ⟨Z, v_layout, x_layout, y, rfl, sz, h_layout, h, fun v Z2 H2 st hv => q v Z2 H2 st.pure (M.pure st m) hv⟩
def sp_law_due (T : Txt w K mg base) : Sp := fun vs H Q _ => ∃ (Z0 : Hp) (v_order : V) (v_size : V) (x_order : (List Int)) (x_size : Int) (y : ((List ((Option Int) × (List (Int × (List Int))) × (List ((List Int) × (List Int))))) × (List Int))), vs = [v_order, v_size] ∧ (Same Z0 H) ∧ (((yList yInt)).r Z0 v_order x_order) ∧ ((yInt).r Z0 v_size x_size) ∧ (F_law_due x_order x_size = some y) ∧ ∀ v Z' H', Step [] Z0 H Z' H' → ((yP2 K (yList (yP3 K (yOpt yInt) (yList (yP2 K yInt (yList yInt))) (yList (yP2 K (yList yInt) (yList yInt))))) (yList yInt))).r Z' v y → Q v H'
set_option maxHeartbeats 4000000 in
theorem ok_law_due (T : Txt w K mg base) : FnOk P w K mg base CX0 1 T.f_law_due T.d_law_due ["order", "size"] (sp_law_due T) := by
  refine T.F_law_due.ok sc_law_due (fun vs H Q E h => ?_) (fun cdv A outer s H vs Q E hr h => ?_)
  · obtain ⟨Z0, v_order, v_size, x_order, x_size, y, rfl, _⟩ := h
    rfl
  · obtain ⟨Z0, v_order, v_size, x_order, x_size, y, rfl, sz, h_order, h_size, hF, q⟩ := h
    refine ⟨_, (pss_cons (ps_setLc (i := 2) (own := [("place", 3)]) (g := gName 3) rfl sc_law_due.nd rfl rfl (sw_true rfl rfl rfl (by decide +kernel)) (pi_list (pv 0)) (blkOk_by (own := [("place", 3)]) (N := ["order", "size", "leaves", "place", "k", "many"]) (sc := defScope s_law_due) (by decide +kernel)) (fun _ _ _ _ _ => (pg_name (i := 3) sc_law_due.nd rfl (Or.inl rfl))) (fun _ _ _ _ _ => pts_nil) (fun _ _ _ _ _ => pe_int)) 
      (pss_cons (ps_for PassesOwn.never rfl (pi_range1 rfl T.m_range (pa_cons (pe_callB call_len_seq (by rfl) T.m_len PySem.boot_len (pa_cons (pv 0) pa_nil)) pa_nil)) (pg_name (i := 4) sc_law_due.nd rfl (.inl rfl)) (pss_one (ps_asg (pe_op op_fdiv (pv 4) (pv 1)) (pg_sub (pv 2) (pe_ix ix_list (pv 0) (pv 4) (fun _ _ => rfl)) set_list)))) 
      (pss_cons (ps_set (i := 5) sc_law_due.nd rfl (.inl rfl) pe_int) 
      (pss_cut (ps_if (pt_cmpR op_gt (pe_callB call_len_seq (by rfl) T.m_len PySem.boot_len (pa_cons (pv 0) pa_nil)) pe_int (nomark _)) (pss_one (ps_set (i := 5) sc_law_due.nd rfl (.inl rfl) (pe_op op_add (pe_op op_fdiv (pe_op op_sub (pe_callB call_len_seq (by rfl) T.m_len PySem.boot_len (pa_cons (pv 0) pa_nil)) pe_int) (pv 1)) pe_int))) pss_nil) 
      (pss_one (ps_ret (pe_tup (pa_cons (pe_lc (own := [("k", 4)]) (g := gName 4) rfl sc_law_due.nd (pi_range1 rfl T.m_range (pa_cons (pv 5) pa_nil)) (blkOk_by (own := [("k", 4)]) (N := ["order", "size", "leaves", "place", "k", "many"]) (sc := defScope s_law_due) (by decide +kernel)) (fun _ _ _ _ _ => (pg_name (i := 4) sc_law_due.nd rfl (Or.inl rfl))) (fun _ _ _ _ _ => pts_nil) (fun _ _ _ _ _ => (pe_tup (pa_cons pe_non (pa_cons (pe_lst pa_nil) (pa_cons (pe_lst pa_nil) pa_nil)))))) (pa_cons (pv 2) pa_nil))))))))), ?_⟩
    have P := Pt.start0 sz
    unfold F_law_due at hF
    obtain ⟨x_leaves_180, h_181, hF⟩ := bind_inv hF
    replace h_181 := Option.some.inj h_181
    refine st_seq (st_setN (τ := yInt) P (en_cast (en_map (υ := yInt) (fun (x_177 : Int) => (0 : Int)) (ei_list (ev_var (τ := (yList yInt)) rfl h_order)) (fun x_177 v_178 Z' H' zz hh rx_179 => by
          exact ⟨_, tgt_name, (wpe_s wpe_z (by decide)), ev_int⟩)) h_181) (fun p_182 Z1 H1 e P1 fr_184 o_183 => ?_))
    refine st_nx ?_
    replace P := P1
    replace h_order := ((yList yInt)).mono e.z h_order
    obtain ⟨g_185, hF⟩ := guard_inv hF
    obtain ⟨f_213, hL_214, hF⟩ := bind_inv hF
    refine st_seq (st_for (τ := yInt) (fun (r_188 : List Int) σ' Z' H' => ∃ w_186, ∃ (y_195 : Option V) (y_196 : Option V) (y_197 : Option V), σ' = [some v_order, some v_size, some (.ref p_182), y_195, y_196, y_197] ∧ Pt [] Z0 H muN Z' H' () ∧ ((yList yInt)).r Z' v_order x_order ∧ Own [] H muN.fp Z' H' yInt p_182 w_186 ∧ forF (L_law_due_1 x_order x_size) r_188 w_186 = some f_213) P (ei_rng1 (ev_len (fun _ _ _ h => h) (ev_li (ev_var (τ := (yList yInt)) rfl h_order))) g_185) ?_ ?_ ?_)
    · rintro Z1 H1 e P1
      replace P := P1
      replace h_order := ((yList yInt)).mono e.z h_order
      replace o_183 := o_183.next e
      exact ⟨x_leaves_180, _, _, _, rfl, P, h_order, o_183, hL_214⟩
    · rintro Zb_192 Hb eb x_187 r_188 σ' v_204 Z1 H1 Z2 H2 zs_191 ⟨w_186, y_195, y_196, y_197, rfl, P, k_193, o_194, hq_190⟩ e hx_205
      replace P := P.item e
      replace k_193 := ((yList yInt)).mono e.z k_193
      replace o_194 := o_194.step e List.not_mem_nil
      replace zs_191 := zs_191.trans e.z
      obtain ⟨u_206, hB_189, hq_190⟩ := bind_inv (forF_cons hq_190)
      unfold L_law_due_1 at hB_189
      refine tgt_name _ P.sub _ ?_
      obtain ⟨g_207, hB_189⟩ := guard_inv hB_189
      obtain ⟨i_208, h_209, hB_189⟩ := bind_inv hB_189
      obtain ⟨j_210, h_211, hB_189⟩ := bind_inv hB_189
      refine st_setitem P o_194 rfl (ev_fdiv (ev_var (τ := yInt) rfl hx_205) (ev_var (τ := yInt) rfl h_size) g_207) (fun Z1 H1 e => by
            have k_193 := ((yList yInt)).mono e.z k_193
            exact (ev_ixL (ev_li (ev_var (τ := (yList yInt)) rfl k_193)) (ev_var (τ := yInt) rfl hx_205) h_209)) h_211 (fun Z1 H1 e P1 o_212 => ?_)
      replace P := P1
      replace k_193 := ((yList yInt)).mono e.z k_193
      replace zs_191 := zs_191.trans e.z
      replace hB_189 := Option.some.inj hB_189
      subst hB_189
      exact ⟨_, zs_191, P.sub, (w_186.set j_210 (x_187 / x_size)), _, _, _, rfl, P, k_193, o_212, hq_190⟩
    rintro σ' Z1 H1 _ _ ⟨w_198, y_195, y_196, y_197, rfl, P, k_199, o_200, hl⟩
    have hz := (forF_nil hl).symm
    subst hz
    refine st_nx ?_
    refine st_seq (st_set P ev_int (fun v_215 Z1 H1 e P1 k_216 => ?_))
    refine st_nx ?_
    replace P := P1
    replace k_199 := ((yList yInt)).mono e.z k_199
    replace o_200 := o_200.next e
    obtain ⟨w_219, hB_218, hF⟩ := bind_inv hF
    refine ⟨fun σ' H' => ∃ Z', ∃ (y_220 : Option V) (y_221 : Option V) (y_223 : Option V) (y_224 : Option V) (v_225 : V), σ' = [y_220, y_221, some (.ref p_182), y_223, y_224, some v_225] ∧ Pt [] Z0 H muN Z' H' () ∧ Own [] H muN.fp Z' H' yInt p_182 w_198 ∧ (yInt).r Z' v_225 w_219, ?_, ?_⟩
    · refine st_if P (et_cmp (ev_gt (ev_len (fun _ _ _ h => h) (ev_li (ev_var (τ := (yList yInt)) rfl k_199))) ev_int)) (fun b_217 Z1 H1 e P1 => ?_) (fun b_217 Z1 H1 e P1 => ?_)
      · replace P := P1
        replace hB_218 := ifT b_217 hB_218
        replace k_199 := ((yList yInt)).mono e.z k_199
        replace o_200 := o_200.next e
        obtain ⟨g_228, hB_218⟩ := guard_inv hB_218
        obtain ⟨x_many_229, h_230, hB_218⟩ := bind_inv hB_218
        replace h_230 := Option.some.inj h_230
        refine st_set P (ev_cast (ev_add (ev_fdiv (ev_sub (ev_len (fun _ _ _ h => h) (ev_li (ev_var (τ := (yList yInt)) rfl k_199))) ev_int) (ev_var (τ := yInt) rfl h_size) g_228) ev_int) h_230) (fun v_231 Z1 H1 e P1 k_232 => ?_)
        replace P := P1
        replace o_200 := o_200.next e
        replace hB_218 := Option.some.inj hB_218
        subst hB_218
        exact ⟨_, _, _, _, _, _, rfl, P, o_200, k_232⟩
      · replace P := P1
        replace hB_218 := ifF b_217 hB_218
        replace o_200 := o_200.next e
        replace hB_218 := Option.some.inj hB_218
        subst hB_218
        exact ⟨_, _, _, _, _, _, rfl, P, o_200, k_216⟩
    rintro σ' H' ⟨Z1, y_220, y_221, y_223, y_224, v_225, rfl, P, o_222, k_226⟩
    obtain ⟨Z, P, zf, hf, of⟩ := o_222.fz P
    have k_233 := hf
    clear hf zf of
    obtain ⟨g_234, hF⟩ := guard_inv hF
    replace hF := Option.some.inj hF
    subst hF
    refine st_ret P (ev_p2 (K := K) (eva_cons (ev_fz (en_map (υ := (yP3 K (yOpt yInt) (yList (yP2 K yInt (yList yInt))) (yList (yP2 K (yList yInt) (yList yInt))))) (fun (x_235 : Int) => (none, ([] : List (Int × (List Int))), ([] : List ((List Int) × (List Int))))) (ei_rng1 (ev_var (τ := yInt) rfl k_226) g_234) (fun x_235 v_236 Z' H' zz hh rx_237 => by
          exact ⟨_, tgt_name, (wpe_s wpe_z (by decide)), (ev_p3 (K := K) (eva_cons (ev_none (τ := yInt) ev_non) (eva_cons (ev_fz (en_listD (eva_nils (τ := (yP2 K yInt (yList yInt)))) (by show 0 ≤ sizeLine; decide))) (eva_cons (ev_fz (en_listD (eva_nils (τ := (yP2 K (yList yInt) (yList yInt)))) (by show 0 ≤ sizeLine; decide))) eva_nil))))⟩))) (eva_cons (ev_var (τ := (yList yInt)) rfl k_233) eva_nil))) (fun v Z1 H1 P1 hv => ?_)
    exact q v _ _ P1.st hv
theorem cs_law_due (T : Txt w K mg base) {μ : Type} {M : Mu μ} {s : μ} {E : XK} {x_order : (List Int)} {x_size : Int} {y : ((List ((Option Int) × (List (Int × (List Int))) × (List ((List Int) × (List Int))))) × (List Int))} (h : F_law_due x_order x_size = some y) : CallS M (sp_law_due T) E (rac (ty (yList yInt) x_order) (rac (ty yInt x_size) ra0)) s (ty (yP2 K (yList (yP3 K (yOpt yInt) (yList (yP2 K yInt (yList yInt))) (yList (yP2 K (yList yInt) (yList yInt))))) (yList yInt)) y) s := by
  rintro Z H vs sz m ⟨v_order, _, rfl, h_order, ⟨v_size, _, rfl, h_size, rfl⟩⟩ Q q
  exact ⟨Z, v_order, v_size, x_order, x_size, y, rfl, sz, h_order, h_size, h, fun v Z2 H2 st hv => q v Z2 H2 st.pure (M.pure st m) hv⟩
def sp_Record___init__ (T : Txt w K mg base) : Sp := fun vs H Q _ => ∃ (p dx : Addr) (Z0 : Hp) (v_name : V) (v_vector : V) (v_fields : V) (v_words : V) (x_name : Str) (x_vector : (List Int)) (x_fields : (List (Str × Val))) (x_words : (List (Str × Int))), vs = [.ref p, v_name, v_vector, v_fields, v_words] ∧ (Same Z0 H) ∧ (H p = some (.ins T.c_Record dx [])) ∧ (Z0 p = none) ∧ ((yStr).r Z0 v_name x_name) ∧ (((yList yInt)).r Z0 v_vector x_vector) ∧ (((yList (yP2 K yStr (y_Val T)))).r Z0 v_fields x_fields) ∧ (((yTup K (yP2 K yStr yInt))).r Z0 v_words x_words) ∧ ∀ Z' H' o, Step [p] Z0 H Z' H' → H' p = some o → (y_Record T).r (upd Z' p o) (.ref p) (F_Record___init__ x_name x_vector x_fields x_words) → Q .non H'
set_option maxHeartbeats 4000000 in
theorem ok_Record___init__ (T : Txt w K mg base) : FnOk P w K mg base CX0 1 T.f_Record___init__ T.d_Record___init__ ["self", "name", "vector", "fields", "words"] (sp_Record___init__ T) := by
  refine T.F_Record___init__.ok sc_Record___init__ (fun vs H Q E h => ?_) (fun cdv A outer s H vs Q E hr h => ?_)
  · obtain ⟨p, dx, Z0, v_name, v_vector, v_fields, v_words, x_name, x_vector, x_fields, x_words, rfl, _⟩ := h
    rfl
  · obtain ⟨p, dx, Z0, v_name, v_vector, v_fields, v_words, x_name, x_vector, x_fields, x_words, rfl, sz, hself, zself, h_name, h_vector, h_fields, h_words, q⟩ := h
    refine ⟨_, PSs.nox (pss_cons (ps_fld (pv 0) (pv 1) rfl) 
      (pss_cons (ps_fld (pv 0) (pe_callTy call_tuple_of (by rfl) T.m_tuple (by decide +kernel) (pa_cons (pv 2) pa_nil)) rfl) 
      (pss_cons (ps_fld (pv 0) (pe_callTy call_tuple_of (by rfl) T.m_tuple (by decide +kernel) (pa_cons (pe_lc (own := [("pair", 5)]) (g := gName 5) rfl sc_Record___init__.nd (pi_list (pv 3)) (blkOk_by (own := [("pair", 5)]) (N := ["self", "name", "vector", "fields", "words", "pair"]) (sc := defScope s_Record___init__) (by decide +kernel)) (fun _ _ _ _ _ => (pg_name (i := 5) sc_Record___init__.nd rfl (Or.inl rfl))) (fun _ _ _ _ _ => pts_nil) (fun _ _ _ _ _ => (pe_callTy (r := rTupleB K) (by exact call_tuple_of) (by rfl) T.m_tuple (by decide +kernel) (pa_cons (pv 5) pa_nil)))) pa_nil)) rfl) 
      (pss_one (ps_fld (pv 0) (pe_callTy call_tuple_of (by rfl) T.m_tuple (by decide +kernel) (pa_cons (pe_lc (own := [("pair", 5)]) (g := gName 5) rfl sc_Record___init__.nd (pi_tup (pv 4)) (blkOk_by (own := [("pair", 5)]) (N := ["self", "name", "vector", "fields", "words", "pair"]) (sc := defScope s_Record___init__) (by decide +kernel)) (fun _ _ _ _ _ => (pg_name (i := 5) sc_Record___init__.nd rfl (Or.inl rfl))) (fun _ _ _ _ _ => pts_nil) (fun _ _ _ _ _ => (pe_callTy (r := rTupleB K) (by exact call_tuple_of) (by rfl) T.m_tuple (by decide +kernel) (pa_cons (pv 5) pa_nil)))) pa_nil)) rfl))))), ?_⟩
    have P : Pt [p] Z0 H muN Z0 H () := ⟨Step.refl sz, trivial, fun _ h => (nomatch h)⟩
    generalize hF : F_Record___init__ x_name x_vector x_fields x_words = y at q
    unfold F_Record___init__ at hF
    refine st_seq (st_fld (x := x_name) (τ := yStr) P hself zself List.not_mem_nil (.inl List.mem_cons_self) rfl (ev_var (τ := yStr) rfl h_name) T.cl_Record T.n_Record_name (Nat.lt_of_le_of_lt (Nat.le_refl 0) (by decide)) (fun v_238 Z1 H1 e P1 k_239 hself1 zself1 => ?_))
    refine st_nx ?_
    replace P := P1
    replace hself := hself1
    replace zself := zself1
    replace h_vector := ((yList yInt)).mono e.z h_vector
    replace h_fields := ((yList (yP2 K yStr (y_Val T)))).mono e.z h_fields
    replace h_words := ((yTup K (yP2 K yStr yInt))).mono e.z h_words
    refine st_seq (st_fld (x := x_vector) (τ := (yTup K yInt)) P hself zself List.not_mem_nil (.inl List.mem_cons_self) rfl (ev_tuple_of (fun _ _ _ h => h) (ev_li (ev_var (τ := (yList yInt)) rfl h_vector))) T.cl_Record T.n_Record_vector (Nat.lt_of_le_of_lt (putF_le (Nat.le_refl 0)) (by decide)) (fun v_240 Z1 H1 e P1 k_241 hself1 zself1 => ?_))
    refine st_nx ?_
    replace P := P1
    replace hself := hself1
    replace zself := zself1
    replace h_fields := ((yList (yP2 K yStr (y_Val T)))).mono e.z h_fields
    replace h_words := ((yTup K (yP2 K yStr yInt))).mono e.z h_words
    refine st_seq (st_fld (x := x_fields) (τ := (yTup K (yP2 K yStr (y_Val T)))) P hself zself List.not_mem_nil (.inl List.mem_cons_self) rfl (ev_tuple_of (fun _ _ _ h => h) (ev_li (ev_fz (en_cast (en_map (fun x => x) (ei_list (ev_var (τ := (yList (yP2 K yStr (y_Val T)))) rfl h_fields)) (fun x_245 v_246 Z' H' zz hh rx_247 => by
          exact ⟨_, tgt_name, (wpe_s wpe_z (by decide)), (ev_tuple_id (fun _ _ _ h => h) it_p2 (ev_var (τ := (yP2 K yStr (y_Val T))) rfl rx_247))⟩)) (List.map_id' _))))) T.cl_Record T.n_Record_fields (Nat.lt_of_le_of_lt (putF_le (putF_le (Nat.le_refl 0))) (by decide)) (fun v_248 Z1 H1 e P1 k_249 hself1 zself1 => ?_))
    refine st_nx ?_
    replace P := P1
    replace hself := hself1
    replace zself := zself1
    replace h_words := ((yTup K (yP2 K yStr yInt))).mono e.z h_words
    replace k_241 := ((yTup K yInt)).mono e.z k_241
    refine st_fld (x := x_words) (τ := (yTup K (yP2 K yStr yInt))) P hself zself List.not_mem_nil (.inl List.mem_cons_self) rfl (ev_tuple_of (fun _ _ _ h => h) (ev_li (ev_fz (en_cast (en_map (fun x => x) (ei_tup (ev_var (τ := (yTup K (yP2 K yStr yInt))) rfl h_words)) (fun x_253 v_254 Z' H' zz hh rx_255 => by
          exact ⟨_, tgt_name, (wpe_s wpe_z (by decide)), (ev_tuple_id (fun _ _ _ h => h) it_p2 (ev_var (τ := (yP2 K yStr yInt)) rfl rx_255))⟩)) (List.map_id' _))))) T.cl_Record T.n_Record_words (Nat.lt_of_le_of_lt (putF_le (putF_le (putF_le (Nat.le_refl 0)))) (by decide)) (fun v_256 Z1 H1 e P1 k_257 hself1 zself1 => ?_)
    replace P := P1
    replace hself := hself1
    replace zself := zself1
    replace k_241 := ((yTup K yInt)).mono e.z k_241
    replace k_249 := ((yTup K (yP2 K yStr (y_Val T)))).mono e.z k_249
    subst hF
    exact q _ _ _ P.st hself ⟨p, dx, v_238, v_240, v_248, v_256, rfl, upd_same, k_239, ((yTup K yInt)).mono (same_upd zself) k_241, ((yTup K (yP2 K yStr (y_Val T)))).mono (same_upd zself) k_249, ((yTup K (yP2 K yStr yInt))).mono (same_upd zself) k_257⟩
theorem is_Record___init__ (T : Txt w K mg base) {μ : Type} {M : Mu μ} {s : μ} {E : XK} {x_name : Str} {x_vector : (List Int)} {x_fields : (List (Str × Val))} {x_words : (List (Str × Int))} : InitS M T.c_Record (sp_Record___init__ T) E (rac (ty yStr x_name) (rac (ty (yList yInt) x_vector) (rac (ty (yList (yP2 K yStr (y_Val T))) x_fields) (rac (ty (yTup K (yP2 K yStr yInt)) x_words) ra0)))) s (ty (y_Record T) (F_Record___init__ x_name x_vector x_fields x_words)) s := by
  rintro Z H vs x dx sz m ⟨v_name, _, rfl, h_name, ⟨v_vector, _, rfl, h_vector, ⟨v_fields, _, rfl, h_fields, ⟨v_words, _, rfl, h_words, rfl⟩⟩⟩⟩ hx zx nx Q q
  exact ⟨x, dx, Z, v_name, v_vector, v_fields, v_words, x_name, x_vector, x_fields, x_words, rfl, sz, hx, zx, h_name, h_vector, h_fields, h_words, fun Z2 H2 o st ho hr => q Z2 H2 o (st.weak fun a h => by rw [List.mem_singleton] at h; rw [h]; exact .inl List.mem_cons_self) (Mu.away st nx m) ho hr⟩
def sp_Layout___init__ (T : Txt w K mg base) : Sp := fun vs H Q _ => ∃ (p dx : Addr) (Z0 : Hp) (v_sketches : V) (v_leaves : V) (x_sketches : (List Sketch)) (x_leaves : (List Int)), vs = [.ref p, v_sketches, v_leaves] ∧ (Same Z0 H) ∧ (H p = some (.ins T.c_Layout dx [])) ∧ (Z0 p = none) ∧ (((yList (y_Sketch T))).r Z0 v_sketches x_sketches) ∧ (((yList yInt)).r Z0 v_leaves x_leaves) ∧ ∀ Z' H' o, Step [p] Z0 H Z' H' → H' p = some o → (y_Layout T).r (upd Z' p o) (.ref p) (F_Layout___init__ x_sketches x_leaves) → Q .non H'
set_option maxHeartbeats 4000000 in
theorem ok_Layout___init__ (T : Txt w K mg base) : FnOk P w K mg base CX0 1 T.f_Layout___init__ T.d_Layout___init__ ["self", "sketches", "leaves"] (sp_Layout___init__ T) := by
  refine T.F_Layout___init__.ok sc_Layout___init__ (fun vs H Q E h => ?_) (fun cdv A outer s H vs Q E hr h => ?_)
  · obtain ⟨p, dx, Z0, v_sketches, v_leaves, x_sketches, x_leaves, rfl, _⟩ := h
    rfl
  · obtain ⟨p, dx, Z0, v_sketches, v_leaves, x_sketches, x_leaves, rfl, sz, hself, zself, h_sketches, h_leaves, q⟩ := h
    refine ⟨_, (pss_cons (ps_fld (pv 0) (pe_callTy call_tuple_of (by rfl) T.m_tuple (by decide +kernel) (pa_cons (pv 1) pa_nil)) rfl) 
      (pss_one (ps_fld (pv 0) (pe_callTy call_tuple_of (by rfl) T.m_tuple (by decide +kernel) (pa_cons (pv 2) pa_nil)) rfl))), ?_⟩
    have P : Pt [p] Z0 H muN Z0 H () := ⟨Step.refl sz, trivial, fun _ h => (nomatch h)⟩
    generalize hF : F_Layout___init__ x_sketches x_leaves = y at q
    unfold F_Layout___init__ at hF
    refine st_seq (st_fld (x := x_sketches) (τ := (yTup K (y_Sketch T))) P hself zself List.not_mem_nil (.inl List.mem_cons_self) rfl (ev_tuple_of (fun _ _ _ h => h) (ev_li (ev_var (τ := (yList (y_Sketch T))) rfl h_sketches))) T.cl_Layout T.n_Layout_sketches (Nat.lt_of_le_of_lt (Nat.le_refl 0) (by decide)) (fun v_258 Z1 H1 e P1 k_259 hself1 zself1 => ?_))
    refine st_nx ?_
    replace P := P1
    replace hself := hself1
    replace zself := zself1
    replace h_leaves := ((yList yInt)).mono e.z h_leaves
    refine st_fld (x := x_leaves) (τ := (yTup K yInt)) P hself zself List.not_mem_nil (.inl List.mem_cons_self) rfl (ev_tuple_of (fun _ _ _ h => h) (ev_li (ev_var (τ := (yList yInt)) rfl h_leaves))) T.cl_Layout T.n_Layout_leaves (Nat.lt_of_le_of_lt (putF_le (Nat.le_refl 0)) (by decide)) (fun v_260 Z1 H1 e P1 k_261 hself1 zself1 => ?_)
    replace P := P1
    replace hself := hself1
    replace zself := zself1
    replace k_259 := ((yTup K (y_Sketch T))).mono e.z k_259
    subst hF
    exact q _ _ _ P.st hself ⟨p, dx, v_258, v_260, rfl, upd_same, ((yTup K (y_Sketch T))).mono (same_upd zself) k_259, ((yTup K yInt)).mono (same_upd zself) k_261⟩
theorem is_Layout___init__ (T : Txt w K mg base) {μ : Type} {M : Mu μ} {s : μ} {E : XK} {x_sketches : (List Sketch)} {x_leaves : (List Int)} : InitS M T.c_Layout (sp_Layout___init__ T) E (rac (ty (yList (y_Sketch T)) x_sketches) (rac (ty (yList yInt) x_leaves) ra0)) s (ty (y_Layout T) (F_Layout___init__ x_sketches x_leaves)) s := by
  rintro Z H vs x dx sz m ⟨v_sketches, _, rfl, h_sketches, ⟨v_leaves, _, rfl, h_leaves, rfl⟩⟩ hx zx nx Q q
  exact ⟨x, dx, Z, v_sketches, v_leaves, x_sketches, x_leaves, rfl, sz, hx, zx, h_sketches, h_leaves, fun Z2 H2 o st ho hr => q Z2 H2 o (st.weak fun a h => by rw [List.mem_singleton] at h; rw [h]; exact .inl List.mem_cons_self) (Mu.away st nx m) ho hr⟩
def sp_Sketch___init__ (T : Txt w K mg base) : Sp := fun vs H Q _ => ∃ (p dx : Addr) (Z0 : Hp) (v_parent : V) (v_centres : V) (v_cells : V) (x_parent : (Option Int)) (x_centres : (List (Int × (List Int)))) (x_cells : (List ((List Int) × (List Int)))), vs = [.ref p, v_parent, v_centres, v_cells] ∧ (Same Z0 H) ∧ (H p = some (.ins T.c_Sketch dx [])) ∧ (Z0 p = none) ∧ (((yOpt yInt)).r Z0 v_parent x_parent) ∧ (((ySeq K (yP2 K yInt (yTup K yInt)))).r Z0 v_centres x_centres) ∧ (((ySeq K (yP2 K (yTup K yInt) (yTup K yInt)))).r Z0 v_cells x_cells) ∧ ∀ Z' H' o, Step [p] Z0 H Z' H' → H' p = some o → (y_Sketch T).r (upd Z' p o) (.ref p) (F_Sketch___init__ x_parent x_centres x_cells) → Q .non H'
set_option maxHeartbeats 4000000 in
theorem ok_Sketch___init__ (T : Txt w K mg base) : FnOk P w K mg base CX0 1 T.f_Sketch___init__ T.d_Sketch___init__ ["self", "parent", "centres", "cells"] (sp_Sketch___init__ T) := by
  refine T.F_Sketch___init__.ok sc_Sketch___init__ (fun vs H Q E h => ?_) (fun cdv A outer s H vs Q E hr h => ?_)
  · obtain ⟨p, dx, Z0, v_parent, v_centres, v_cells, x_parent, x_centres, x_cells, rfl, _⟩ := h
    rfl
  · obtain ⟨p, dx, Z0, v_parent, v_centres, v_cells, x_parent, x_centres, x_cells, rfl, sz, hself, zself, h_parent, h_centres, h_cells, q⟩ := h
    refine ⟨_, PSs.nox (pss_cons (ps_fld (pv 0) (pv 1) rfl) 
      (pss_cons (ps_fld (pv 0) (pe_callTy call_tuple_of (by rfl) T.m_tuple (by decide +kernel) (pa_cons (pe_lc (own := [("start", 4), ("centre", 5)]) (g := gTup K 2 (gCons (gName 4) (gCons (gName 5) gNil))) rfl sc_Sketch___init__.nd (pi_seq (pv 2)) (blkOk_by (own := [("start", 4), ("centre", 5)]) (N := ["self", "parent", "centres", "cells", "start", "centre", "near", "rival"]) (sc := defScope s_Sketch___init__) (by decide +kernel)) (fun _ _ _ _ _ => (by exact (pg_tup rfl (pgs_cons (pg_name (i := 4) sc_Sketch___init__.nd rfl (Or.inl rfl)) (pgs_cons (pg_name (i := 5) sc_Sketch___init__.nd rfl (Or.inl rfl)) pgs_nil))))) (fun _ _ _ _ _ => pts_nil) (fun _ _ _ _ _ => (pe_tup (pa_cons (pv 4) (pa_cons (pe_callTy (r := rTupleB K) (by exact call_tuple_of) (by rfl) T.m_tuple (by decide +kernel) (pa_cons (pv 5) pa_nil)) pa_nil))))) pa_nil)) rfl) 
      (pss_one (ps_fld (pv 0) (pe_callTy call_tuple_of (by rfl) T.m_tuple (by decide +kernel) (pa_cons (pe_lc (own := [("near", 6), ("rival", 7)]) (g := gTup K 2 (gCons (gName 6) (gCons (gName 7) gNil))) rfl sc_Sketch___init__.nd (pi_seq (pv 3)) (blkOk_by (own := [("near", 6), ("rival", 7)]) (N := ["self", "parent", "centres", "cells", "start", "centre", "near", "rival"]) (sc := defScope s_Sketch___init__) (by decide +kernel)) (fun _ _ _ _ _ => (by exact (pg_tup rfl (pgs_cons (pg_name (i := 6) sc_Sketch___init__.nd rfl (Or.inl rfl)) (pgs_cons (pg_name (i := 7) sc_Sketch___init__.nd rfl (Or.inl rfl)) pgs_nil))))) (fun _ _ _ _ _ => pts_nil) (fun _ _ _ _ _ => (pe_tup (pa_cons (pe_callTy (r := rTupleB K) (by exact call_tuple_of) (by rfl) T.m_tuple (by decide +kernel) (pa_cons (pv 6) pa_nil)) (pa_cons (pe_callTy (r := rTupleB K) (by exact call_tuple_of) (by rfl) T.m_tuple (by decide +kernel) (pa_cons (pv 7) pa_nil)) pa_nil))))) pa_nil)) rfl)))), ?_⟩
    have P : Pt [p] Z0 H muN Z0 H () := ⟨Step.refl sz, trivial, fun _ h => (nomatch h)⟩
    generalize hF : F_Sketch___init__ x_parent x_centres x_cells = y at q
    unfold F_Sketch___init__ at hF
    refine st_seq (st_fld (x := x_parent) (τ := (yOpt yInt)) P hself zself List.not_mem_nil (.inl List.mem_cons_self) rfl (ev_var (τ := (yOpt yInt)) rfl h_parent) T.cl_Sketch T.n_Sketch_parent (Nat.lt_of_le_of_lt (Nat.le_refl 0) (by decide)) (fun v_262 Z1 H1 e P1 k_263 hself1 zself1 => ?_))
    refine st_nx ?_
    replace P := P1
    replace hself := hself1
    replace zself := zself1
    replace h_centres := ((ySeq K (yP2 K yInt (yTup K yInt)))).mono e.z h_centres
    replace h_cells := ((ySeq K (yP2 K (yTup K yInt) (yTup K yInt)))).mono e.z h_cells
    refine st_seq (st_fld (x := (x_centres.map (fun (x_272 : (Int × (List Int))) => (x_272.1, x_272.2)))) (τ := (yTup K (yP2 K yInt (yTup K yInt)))) P hself zself List.not_mem_nil (.inl List.mem_cons_self) rfl (ev_tuple_of (fun _ _ _ h => h) (ev_li (ev_fz (en_map (υ := (yP2 K yInt (yTup K yInt))) (fun (x_272 : (Int × (List Int))) => (x_272.1, x_272.2)) (ei_seq (ev_var (τ := (ySeq K (yP2 K yInt (yTup K yInt)))) rfl h_centres)) (fun x_272 v_273 Z' H' zz hh rx_274 => by
          obtain ⟨v_275, v_276, k_277, k_278, tg_279⟩ := tgt_p2 rx_274
          exact ⟨_, (tg_279 tgt_name tgt_name), (wpe_s (wpe_s wpe_z (by decide)) (by decide)), (ev_p2 (K := K) (eva_cons (ev_var (τ := yInt) rfl k_277) (eva_cons (ev_tuple_ofT (fun _ _ _ h => h) (ev_var (τ := (yTup K yInt)) rfl k_278)) eva_nil)))⟩))))) T.cl_Sketch T.n_Sketch_centres (Nat.lt_of_le_of_lt (putF_le (Nat.le_refl 0)) (by decide)) (fun v_280 Z1 H1 e P1 k_281 hself1 zself1 => ?_))
    refine st_nx ?_
    replace P := P1
    replace hself := hself1
    replace zself := zself1
    replace h_cells := ((ySeq K (yP2 K (yTup K yInt) (yTup K yInt)))).mono e.z h_cells
    replace k_263 := ((yOpt yInt)).mono e.z k_263
    refine st_fld (x := (x_cells.map (fun (x_290 : ((List Int) × (List Int))) => (x_290.1, x_290.2)))) (τ := (yTup K (yP2 K (yTup K yInt) (yTup K yInt)))) P hself zself List.not_mem_nil (.inl List.mem_cons_self) rfl (ev_tuple_of (fun _ _ _ h => h) (ev_li (ev_fz (en_map (υ := (yP2 K (yTup K yInt) (yTup K yInt))) (fun (x_290 : ((List Int) × (List Int))) => (x_290.1, x_290.2)) (ei_seq (ev_var (τ := (ySeq K (yP2 K (yTup K yInt) (yTup K yInt)))) rfl h_cells)) (fun x_290 v_291 Z' H' zz hh rx_292 => by
          obtain ⟨v_293, v_294, k_295, k_296, tg_297⟩ := tgt_p2 rx_292
          exact ⟨_, (tg_297 tgt_name tgt_name), (wpe_s (wpe_s wpe_z (by decide)) (by decide)), (ev_p2 (K := K) (eva_cons (ev_tuple_ofT (fun _ _ _ h => h) (ev_var (τ := (yTup K yInt)) rfl k_295)) (eva_cons (ev_tuple_ofT (fun _ _ _ h => h) (ev_var (τ := (yTup K yInt)) rfl k_296)) eva_nil)))⟩))))) T.cl_Sketch T.n_Sketch_cells (Nat.lt_of_le_of_lt (putF_le (putF_le (Nat.le_refl 0))) (by decide)) (fun v_298 Z1 H1 e P1 k_299 hself1 zself1 => ?_)
    replace P := P1
    replace hself := hself1
    replace zself := zself1
    replace k_263 := ((yOpt yInt)).mono e.z k_263
    replace k_281 := ((yTup K (yP2 K yInt (yTup K yInt)))).mono e.z k_281
    subst hF
    exact q _ _ _ P.st hself ⟨p, dx, v_262, v_280, v_298, rfl, upd_same, ((yOpt yInt)).mono (same_upd zself) k_263, ((yTup K (yP2 K yInt (yTup K yInt)))).mono (same_upd zself) k_281, ((yTup K (yP2 K (yTup K yInt) (yTup K yInt)))).mono (same_upd zself) k_299⟩
theorem is_Sketch___init__ (T : Txt w K mg base) {μ : Type} {M : Mu μ} {s : μ} {E : XK} {x_parent : (Option Int)} {x_centres : (List (Int × (List Int)))} {x_cells : (List ((List Int) × (List Int)))} : InitS M T.c_Sketch (sp_Sketch___init__ T) E (rac (ty (yOpt yInt) x_parent) (rac (ty (ySeq K (yP2 K yInt (yTup K yInt))) x_centres) (rac (ty (ySeq K (yP2 K (yTup K yInt) (yTup K yInt))) x_cells) ra0))) s (ty (y_Sketch T) (F_Sketch___init__ x_parent x_centres x_cells)) s := by
  rintro Z H vs x dx sz m ⟨v_parent, _, rfl, h_parent, ⟨v_centres, _, rfl, h_centres, ⟨v_cells, _, rfl, h_cells, rfl⟩⟩⟩ hx zx nx Q q
  exact ⟨x, dx, Z, v_parent, v_centres, v_cells, x_parent, x_centres, x_cells, rfl, sz, hx, zx, h_parent, h_centres, h_cells, fun Z2 H2 o st ho hr => q Z2 H2 o (st.weak fun a h => by rw [List.mem_singleton] at h; rw [h]; exact .inl List.mem_cons_self) (Mu.away st nx m) ho hr⟩
def sp_block_layout (T : Txt w K mg base) : Sp := fun vs H Q _ => ∃ (Z0 : Hp) (v_order : V) (v_size : V) (x_order : (List Int)) (x_size : Int) (y : Layout), vs = [v_order, v_size] ∧ (Same Z0 H) ∧ (((yList yInt)).r Z0 v_order x_order) ∧ ((yInt).r Z0 v_size x_size) ∧ (F_block_layout x_order x_size = some y) ∧ ∀ v Z' H', Step [] Z0 H Z' H' → ((y_Layout T)).r Z' v y → Q v H'
set_option maxHeartbeats 4000000 in
theorem ok_block_layout (T : Txt w K mg base) : FnOk P w K mg base CX0 3 T.f_block_layout T.d_block_layout ["order", "size"] (sp_block_layout T) := by
  have G_Sketch___init__ : FnOk P w K mg base CX0 1 T.f_Sketch___init__ T.d_Sketch___init__ ["self", "parent", "centres", "cells"] (sp_Sketch___init__ T) := ok_Sketch___init__ T
  have G_Layout___init__ : FnOk P w K mg base CX0 1 T.f_Layout___init__ T.d_Layout___init__ ["self", "sketches", "leaves"] (sp_Layout___init__ T) := ok_Layout___init__ T
  refine T.F_block_layout.ok sc_block_layout (fun vs H Q E h => ?_) (fun cdv A outer s H vs Q E hr h => ?_)
  · obtain ⟨Z0, v_order, v_size, x_order, x_size, y, rfl, _⟩ := h
    rfl
  · obtain ⟨Z0, v_order, v_size, x_order, x_size, y, rfl, sz, h_order, h_size, hF, q⟩ := h
    refine ⟨_, (pss_cons (ps_set (i := 2) sc_block_layout.nd rfl (.inl rfl) (pe_op op_rep (pe_lst (pa_cons pe_int pa_nil)) (pe_callB call_len_seq (by rfl) T.m_len PySem.boot_len (pa_cons (pv 0) pa_nil)))) 
      (pss_cons (ps_for PassesOwn.never rfl (pi_enum (by rfl) T.m_enumerate (pa_cons (pv 0) pa_nil)) (pg_tup rfl (pgs_cons (pg_name (i := 3) sc_block_layout.nd rfl (.inl rfl)) (pgs_cons (pg_name (i := 4) sc_block_layout.nd rfl (.inl rfl)) pgs_nil))) (pss_one (ps_asg (pe_op op_fdiv (pv 3) (pv 1)) (pg_sub (pv 2) (pv 4) set_list)))) 
      (pss_cons (ps_set (i := 5) sc_block_layout.nd rfl (.inl rfl) (pe_op op_fdiv (pe_op op_sub (pe_op op_add (pe_callB call_len_seq (by rfl) T.m_len PySem.boot_len (pa_cons (pv 0) pa_nil)) (pv 1)) pe_int) (pv 1))) 
      (pss_one (ps_ret (pe_make T.mk_Layout G_Layout___init__ (hr.mono (by decide)) (by rfl) T.mc_Layout T.b_Layout___init__ .nil pass0 (pa_cons (pe_lc (own := [("_", 6)]) (g := gName 6) rfl sc_block_layout.nd (pi_range1 rfl T.m_range (pa_cons (pv 5) pa_nil)) (blkOk_by (own := [("_", 6)]) (N := ["order", "size", "leaves", "turn", "place", "many", "_"]) (sc := defScope s_block_layout) (by decide +kernel)) (fun _ _ _ _ _ => (pg_name (i := 6) sc_block_layout.nd rfl (Or.inl rfl))) (fun _ _ _ _ _ => pts_nil) (fun _ _ _ _ _ => (pe_make T.mk_Sketch G_Sketch___init__ (hr.mono (by decide)) (by rfl) T.mc_Sketch T.b_Sketch___init__ T.v_Sketch___init__ pass0 (pa_cons pe_non pa_nil)))) (pa_cons (pv 2) pa_nil)))))))), ?_⟩
    have P := Pt.start0 sz
    unfold F_block_layout at hF
    obtain ⟨g_304, hF⟩ := guard_inv hF
    obtain ⟨x_leaves_305, h_306, hF⟩ := bind_inv hF
    replace h_306 := Option.some.inj h_306
    refine st_seq (st_setN (τ := yInt) P (en_cast (en_rep (ev_li (ev_fz (en_listD (eva_conss ev_int (eva_nils (τ := yInt))) (by show 1 ≤ sizeLine; decide)))) (ev_len (fun _ _ _ h => h) (ev_li (ev_var (τ := (yList yInt)) rfl h_order))) g_304) h_306) (fun p_307 Z1 H1 e P1 fr_309 o_308 => ?_))
    refine st_nx ?_
    replace P := P1
    replace h_order := ((yList yInt)).mono e.z h_order
    obtain ⟨f_342, hL_343, hF⟩ := bind_inv hF
    refine st_seq (st_for (τ := (yP2 K yInt yInt)) (fun (r_312 : List (Int × Int)) σ' Z' H' => ∃ w_310, ∃ (y_319 : Option V) (y_320 : Option V) (y_321 : Option V) (y_322 : Option V), σ' = [some v_order, some v_size, some (.ref p_307), y_319, y_320, y_321, y_322] ∧ Pt [] Z0 H muN Z' H' () ∧ ((yList yInt)).r Z' v_order x_order ∧ Own [] H muN.fp Z' H' yInt p_307 w_310 ∧ forF (L_block_layout_1 x_size) r_312 w_310 = some f_342) P (ei_enum (ev_var (τ := (yList yInt)) rfl h_order)) ?_ ?_ ?_)
    · rintro Z1 H1 e P1
      replace P := P1
      replace h_order := ((yList yInt)).mono e.z h_order
      replace o_308 := o_308.next e
      exact ⟨x_leaves_305, _, _, _, _, rfl, P, h_order, o_308, hL_343⟩
    · rintro Zb_316 Hb eb x_311 r_312 σ' v_330 Z1 H1 Z2 H2 zs_315 ⟨w_310, y_319, y_320, y_321, y_322, rfl, P, k_317, o_318, hq_314⟩ e hx_331
      replace P := P.item e
      replace k_317 := ((yList yInt)).mono e.z k_317
      replace o_318 := o_318.step e List.not_mem_nil
      replace zs_315 := zs_315.trans e.z
      obtain ⟨u_332, hB_313, hq_314⟩ := bind_inv (forF_cons hq_314)
      unfold L_block_layout_1 at hB_313
      obtain ⟨v_333, v_334, k_335, k_336, tg_337⟩ := tgt_p2 hx_331
      refine (tg_337 tgt_name tgt_name) _ P.sub _ ?_
      obtain ⟨g_338, hB_313⟩ := guard_inv hB_313
      obtain ⟨j_339, h_340, hB_313⟩ := bind_inv hB_313
      refine st_setitem P o_318 rfl (ev_fdiv (ev_var (τ := yInt) rfl k_335) (ev_var (τ := yInt) rfl h_size) g_338) (fun Z1 H1 e => by
            exact (ev_var (τ := yInt) rfl k_336)) h_340 (fun Z1 H1 e P1 o_341 => ?_)
      replace P := P1
      replace k_317 := ((yList yInt)).mono e.z k_317
      replace zs_315 := zs_315.trans e.z
      replace hB_313 := Option.some.inj hB_313
      subst hB_313
      exact ⟨_, zs_315, P.sub, (w_310.set j_339 (x_311.1 / x_size)), _, _, _, _, rfl, P, k_317, o_341, hq_314⟩
    rintro σ' Z1 H1 _ _ ⟨w_323, y_319, y_320, y_321, y_322, rfl, P, k_324, o_325, hl⟩
    have hz := (forF_nil hl).symm
    subst hz
    refine st_nx ?_
    obtain ⟨g_344, hF⟩ := guard_inv hF
    obtain ⟨x_many_345, h_346, hF⟩ := bind_inv hF
    replace h_346 := Option.some.inj h_346
    refine st_seq (st_set P (ev_cast (ev_fdiv (ev_sub (ev_add (ev_len (fun _ _ _ h => h) (ev_li (ev_var (τ := (yList yInt)) rfl k_324))) (ev_var (τ := yInt) rfl h_size)) ev_int) (ev_var (τ := yInt) rfl h_size) g_344) h_346) (fun v_347 Z1 H1 e P1 k_348 => ?_))
    refine st_nx ?_
    replace P := P1
    replace o_325 := o_325.next e
    obtain ⟨Z, P, zf, hf, of⟩ := o_325.fz P
    have k_349 := hf
    clear hf zf of
    obtain ⟨g_350, hF⟩ := guard_inv hF
    replace hF := Option.some.inj hF
    subst hF
    refine st_ret P (ev_make (is_Layout___init__ T) (eva_cons (ev_fz (en_map (υ := (y_Sketch T)) (fun (x_351 : Int) => (F_Sketch___init__ none [] [])) (ei_rng1 (ev_var (τ := yInt) rfl k_348) g_350) (fun x_351 v_352 Z' H' zz hh rx_353 => by
          exact ⟨_, tgt_name, (wpe_s wpe_z (by decide)), (ev_makeD (is_Sketch___init__ T) (eva_cons (ev_none (τ := yInt) ev_non) eva_nil) (fun Z H vs hh => by
                obtain ⟨v0, _, rfl, h0, rfl⟩ := hh
                exact ⟨v0, _, rfl, h0, ⟨_, _, rfl, ⟨_, [], rfl, .inr (T.et_Sketch___init___centres Z), .nil, Nat.zero_le _⟩, ⟨_, _, rfl, ⟨_, [], rfl, .inr (T.et_Sketch___init___cells Z), .nil, Nat.zero_le _⟩, rfl⟩⟩⟩))⟩))) (eva_cons (ev_var (τ := (yList yInt)) rfl k_349) eva_nil))) (fun v Z1 H1 P1 hv => ?_)
    exact q v _ _ P1.st hv
theorem cs_block_layout (T : Txt w K mg base) {μ : Type} {M : Mu μ} {s : μ} {E : XK} {x_order : (List Int)} {x_size : Int} {y : Layout} (h : F_block_layout x_order x_size = some y) : CallS M (sp_block_layout T) E (rac (ty (yList yInt) x_order) (rac (ty yInt x_size) ra0)) s (ty (y_Layout T) y) s := by
  rintro Z H vs sz m ⟨v_order, _, rfl, h_order, ⟨v_size, _, rfl, h_size, rfl⟩⟩ Q q
  exact ⟨Z, v_order, v_size, x_order, x_size, y, rfl, sz, h_order, h_size, h, fun v Z2 H2 st hv => q v Z2 H2 st.pure (M.pure st m) hv⟩
def sp_Blocks_layout (T : Txt w K mg base) : Sp := fun vs H Q _ => ∃ (Z0 : Hp) (ds : Unit) (v_self : V) (v_schema : V) (v_records : V) (x_self : Blocks) (x_schema : Schema) (x_records : (List Record)) (y : Layout), vs = [v_self, v_schema, v_records] ∧ (Same Z0 H) ∧ ((muT T.P_SortedBlocks_layout lq_SortedBlocks_layout).m ds Z0 H) ∧ (((y_Blocks T)).r Z0 v_self x_self) ∧ (((y_Schema T)).r Z0 v_schema x_schema) ∧ (((yList (y_Record T))).r Z0 v_records x_records) ∧ (F_Blocks_layout ds x_self x_schema x_records = some y) ∧ ∀ v Z' H', Step (muT T.P_SortedBlocks_layout lq_SortedBlocks_layout).fp Z0 H Z' H' → (muT T.P_SortedBlocks_layout lq_SortedBlocks_layout).m ds Z' H' → ((y_Layout T)).r Z' v y → Q v H'
set_option maxHeartbeats 4000000 in
theorem ok_Blocks_layout (T : Txt w K mg base) : FnOk P w K mg base CX0 4 T.f_Blocks_layout T.d_Blocks_layout ["self", "schema", "records"] (sp_Blocks_layout T) := by
  have G_block_layout : FnOk P w K mg base CX0 3 T.f_block_layout T.d_block_layout ["order", "size"] (sp_block_layout T) := ok_block_layout T
  refine T.F_Blocks_layout.ok sc_Blocks_layout (fun vs H Q E h => ?_) (fun cdv A outer s H vs Q E hr h => ?_)
  · obtain ⟨Z0, ds, v_self, v_schema, v_records, x_self, x_schema, x_records, y, rfl, _⟩ := h
    rfl
  · obtain ⟨Z0, ds, v_self, v_schema, v_records, x_self, x_schema, x_records, y, rfl, sz, hm, h_self, h_schema, h_records, hF, q⟩ := h
    refine ⟨_, (pss_one (ps_ret (pe_call G_block_layout (hr.mono (by decide)) (by rfl) T.g_block_layout T.F_block_layout.kp T.b_block_layout .nil pass0 (pa_cons (pe_listRg rfl (by rfl) T.m_list (prg_1 (by rfl) T.m_range (pe_callB call_len_seq (by rfl) T.m_len PySem.boot_len (pa_cons (pv 2) pa_nil)))) (pa_cons (pe_fld (pv 0) rfl) pa_nil))))), ?_⟩
    have P := Pt.start (muT T.P_SortedBlocks_layout lq_SortedBlocks_layout) sz hm
    unfold F_Blocks_layout at hF
    obtain ⟨g_357, hF⟩ := guard_inv hF
    obtain ⟨r_358, h_359, hF⟩ := bind_inv hF
    replace hF := Option.some.inj hF
    subst hF
    refine st_ret P (ev_call (cs_block_layout T h_359) (eva_cons (ev_fz (en_lrg1 (ev_len (fun _ _ _ h => h) (ev_li (ev_var (τ := (yList (y_Record T))) rfl h_records))) g_357)) (eva_cons (ev_fld (fo_Blocks_size T) T.cl_Blocks T.n_Blocks_size (ev_var (τ := (y_Blocks T)) rfl h_self)) eva_nil))) (fun v Z1 H1 P1 hv => ?_)
    exact q v _ _ P1.st P1.m hv
theorem cs_Blocks_layout (T : Txt w K mg base) {ds : Unit} {E : XK} {x_self : Blocks} {x_schema : Schema} {x_records : (List Record)} {y : Layout} (h : F_Blocks_layout ds x_self x_schema x_records = some y) : CallS (muT T.P_SortedBlocks_layout lq_SortedBlocks_layout) (sp_Blocks_layout T) E (rac (ty (y_Blocks T) x_self) (rac (ty (y_Schema T) x_schema) (rac (ty (yList (y_Record T)) x_records) ra0))) ds (ty (y_Layout T) y) ds := by
  rintro Z H vs sz m ⟨v_self, _, rfl, h_self, ⟨v_schema, _, rfl, h_schema, ⟨v_records, _, rfl, h_records, rfl⟩⟩⟩ Q q
  exact ⟨Z, ds, v_self, v_schema, v_records, x_self, x_schema, x_records, y, rfl, sz, m, h_self, h_schema, h_records, h, fun v Z2 H2 s2 m2 hv => q v Z2 H2 s2 m2 hv⟩
theorem cu_Blocks_layout (T : Txt w K mg base) {ds : Unit} {E : XK} {x_self : Blocks} {x_schema : Schema} {x_records : (List Record)} {y : Layout} {μ : Type} {M : Mu μ} {s s2 : μ} (hm : ∀ Z H, M.m s Z H → (muT T.P_SortedBlocks_layout lq_SortedBlocks_layout).m ds Z H) (hf : ∀ a ∈ (muT T.P_SortedBlocks_layout lq_SortedBlocks_layout).fp, a ∈ M.fp) (hp : ∀ Z H Z' H', M.m s Z H → Step (muT T.P_SortedBlocks_layout lq_SortedBlocks_layout).fp Z H Z' H' → (muT T.P_SortedBlocks_layout lq_SortedBlocks_layout).m ds Z' H' → M.m s2 Z' H') (h : F_Blocks_layout ds x_self x_schema x_records = some y) : CallS M (sp_Blocks_layout T) E (rac (ty (y_Blocks T) x_self) (rac (ty (y_Schema T) x_schema) (rac (ty (yList (y_Record T)) x_records) ra0))) s (ty (y_Layout T) y) s2 := by
  rintro Z H vs sz m ⟨v_self, _, rfl, h_self, ⟨v_schema, _, rfl, h_schema, ⟨v_records, _, rfl, h_records, rfl⟩⟩⟩ Q q
  exact ⟨Z, ds, v_self, v_schema, v_records, x_self, x_schema, x_records, y, rfl, sz, hm _ _ m, h_self, h_schema, h_records, h, fun v Z2 H2 st2 m2 hv => q v Z2 H2 (st2.weak fun a h => .inl (hf a h)) (hp _ _ _ _ m st2 m2) hv⟩
def sp_Record_value (T : Txt w K mg base) : Sp := fun vs H Q _ => ∃ (Z0 : Hp) (v_self : V) (v_name : V) (x_self : Record) (x_name : Str) (y : (Option Val)), vs = [v_self, v_name] ∧ (Same Z0 H) ∧ (((y_Record T)).r Z0 v_self x_self) ∧ ((yStr).r Z0 v_name x_name) ∧ (F_Record_value x_self x_name = some y) ∧ ∀ v Z' H', Step [] Z0 H Z' H' → ((yOpt (y_Val T))).r Z' v y → Q v H'
set_option maxHeartbeats 4000000 in
theorem ok_Record_value (T : Txt w K mg base) : FnOk P w K mg base CX0 1 T.f_Record_value T.d_Record_value ["self", "name"] (sp_Record_value T) := by
  refine T.F_Record_value.ok sc_Record_value (fun vs H Q E h => ?_) (fun cdv A outer s H vs Q E hr h => ?_)
  · obtain ⟨Z0, v_self, v_name, x_self, x_name, y, rfl, _⟩ := h
    rfl
  · obtain ⟨Z0, v_self, v_name, x_self, x_name, y, rfl, sz, h_self, h_name, hF, q⟩ := h
    refine ⟨_, (pss_cons (ps_for PassesOwn.never rfl (pi_tup (pe_fld (pv 0) rfl)) (pg_tup rfl (pgs_cons (pg_name (i := 2) sc_Record_value.nd rfl (.inl rfl)) (pgs_cons (pg_name (i := 3) sc_Record_value.nd rfl (.inl rfl)) pgs_nil))) (pss_one (ps_if (pt_cmpR op_eq (pv 2) (pv 1) (nomark _)) (pss_one (ps_ret (pv 3))) pss_nil))) 
      (pss_one (ps_ret pe_non))), ?_⟩
    have P := Pt.start0 sz
    unfold F_Record_value at hF
    obtain ⟨f_384, hL_385, hF⟩ := bind_inv hF
    refine st_seq (st_for (τ := (yP2 K yStr (y_Val T))) (fun (r_362 : List (Str × Val)) σ' Z' H' => ∃ w_360, ∃ (y_367 : Option V) (y_368 : Option V) (y_369 : Option V), σ' = [y_367, some v_name, y_368, y_369] ∧ Pt [] Z0 H muN Z' H' () ∧ forS (L_Record_value_1 x_name) r_362 w_360 = some f_384) P (ei_tup (ev_fld (fo_Record_fields T) T.cl_Record T.n_Record_fields (ev_var (τ := (y_Record T)) rfl h_self))) ?_ ?_ ?_)
    · rintro Z1 H1 e P1
      replace P := P1
      replace h_self := ((y_Record T)).mono e.z h_self
      exact ⟨(), _, _, _, rfl, P, hL_385⟩
    · rintro Zb_366 Hb eb x_361 r_362 σ' v_375 Z1 H1 Z2 H2 zs_365 ⟨w_360, y_367, y_368, y_369, rfl, P, hq_364⟩ e hx_376
      replace P := P.item e
      replace zs_365 := zs_365.trans e.z
      obtain ⟨u_377, hB_363, hq_364⟩ := bind_inv (forS_cons hq_364)
      unfold L_Record_value_1 at hB_363
      obtain ⟨v_378, v_379, k_380, k_381, tg_382⟩ := tgt_p2 hx_376
      refine (tg_382 tgt_name tgt_name) _ P.sub _ ?_
      refine st_if P (et_cmp (ev_eq flat_str (ev_var (τ := yStr) rfl k_380) (ev_var (τ := yStr) rfl h_name))) (fun b_383 Z1 H1 e P1 => ?_) (fun b_383 Z1 H1 e P1 => ?_)
      · replace P := P1
        have hB := ifT b_383 hB_363
        replace hB_363 := hB
        clear hB
        replace k_381 := ((y_Val T)).mono e.z k_381
        replace zs_365 := zs_365.trans e.z
        replace hB_363 := Option.some.inj hB_363
        subst hB_363
        have hz := nxt_ret hq_364
        subst hz
        have hz := ret_inv hF
        replace hz := Option.some.inj hz
        subst hz
        refine st_ret P (ev_some (nn_Val T) (ev_var (τ := (y_Val T)) rfl k_381)) (fun v Z1 H1 P1 hv => ?_)
        exact q v _ _ P1.st hv
      · replace P := P1
        have hB := ifF b_383 hB_363
        replace hB_363 := hB
        clear hB
        refine st_next ?_
        replace zs_365 := zs_365.trans e.z
        replace hB_363 := Option.some.inj hB_363
        subst hB_363
        exact ⟨_, zs_365, P.sub, (), _, _, _, rfl, P, (nxt_go hq_364)⟩
    rintro σ' Z1 H1 _ _ ⟨w_370, y_367, y_368, y_369, rfl, P, hl⟩
    have hz := forS_nil hl
    subst hz
    replace hF := go_inv hF
    refine st_nx ?_
    replace hF := Option.some.inj hF
    subst hF
    refine st_ret P (ev_none (τ := (y_Val T)) ev_non) (fun v Z1 H1 P1 hv => ?_)
    exact q v _ _ P1.st hv
theorem cs_Record_value (T : Txt w K mg base) {μ : Type} {M : Mu μ} {s : μ} {E : XK} {x_self : Record} {x_name : Str} {y : (Option Val)} (h : F_Record_value x_self x_name = some y) : CallS M (sp_Record_value T) E (rac (ty (y_Record T) x_self) (rac (ty yStr x_name) ra0)) s (ty (yOpt (y_Val T)) y) s := by
  rintro Z H vs sz m ⟨v_self, _, rfl, h_self, ⟨v_name, _, rfl, h_name, rfl⟩⟩ Q q
  exact ⟨Z, v_self, v_name, x_self, x_name, y, rfl, sz, h_self, h_name, h, fun v Z2 H2 st hv => q v Z2 H2 st.pure (M.pure st m) hv⟩
def sp_SortedBlocks_layout (T : Txt w K mg base) : Sp := fun vs H Q _ => ∃ (Z0 : Hp) (ds : Unit) (v_self : V) (v_schema : V) (v_records : V) (x_self : SortedBlocks) (x_schema : Schema) (x_records : (List Record)) (y : Layout), vs = [v_self, v_schema, v_records] ∧ (Same Z0 H) ∧ ((muT T.P_SortedBlocks_layout lq_SortedBlocks_layout).m ds Z0 H) ∧ (((y_SortedBlocks T)).r Z0 v_self x_self) ∧ (((y_Schema T)).r Z0 v_schema x_schema) ∧ (((yList (y_Record T))).r Z0 v_records x_records) ∧ (F_SortedBlocks_layout ds x_self x_schema x_records = some y) ∧ ∀ v Z' H', Step (muT T.P_SortedBlocks_layout lq_SortedBlocks_layout).fp Z0 H Z' H' → (muT T.P_SortedBlocks_layout lq_SortedBlocks_layout).m ds Z' H' → ((y_Layout T)).r Z' v y → Q v H'
set_option maxHeartbeats 4000000 in
theorem ok_SortedBlocks_layout (T : Txt w K mg base) : FnOk P w K mg base CX0 4 T.f_SortedBlocks_layout T.d_SortedBlocks_layout ["self", "schema", "records"] (sp_SortedBlocks_layout T) := by
  have G_block_layout : FnOk P w K mg base CX0 3 T.f_block_layout T.d_block_layout ["order", "size"] (sp_block_layout T) := ok_block_layout T
  have G_Record_value : FnOk P w K mg base CX0 1 T.f_Record_value T.d_Record_value ["self", "name"] (sp_Record_value T) := ok_Record_value T
  refine T.L_SortedBlocks_layout.ok sc_SortedBlocks_layout (fun vs H Q E h => ?_) (fun A outer s H vs Q E hr h => ?_)
  · obtain ⟨Z0, ds, v_self, v_schema, v_records, x_self, x_schema, x_records, y, rfl, _⟩ := h
    rfl
  · obtain ⟨Z0, ds, v_self, v_schema, v_records, x_self, x_schema, x_records, y, rfl, sz, hm, h_self, h_schema, h_records, hF, q⟩ := h
    refine ⟨_, (pss_cons (ps_set (i := 3) sc_SortedBlocks_layout.nd rfl (.inr rfl) (pe_lc (own := [("record", 4)]) (g := gName 4) rfl sc_SortedBlocks_layout.nd (pi_list (pv 2)) (blkOk_by (own := [("record", 4)]) (N := ["self", "schema", "records", "values", "record", "having", "place", "worth", "lacking"]) (sc := defScope s_SortedBlocks_layout) (by decide +kernel)) (fun _ _ _ _ _ => (pg_name (i := 4) sc_SortedBlocks_layout.nd rfl (Or.inl rfl))) (fun _ _ _ _ _ => pts_nil) (fun _ _ _ _ _ => (pe_meth (pv 4) T.cl_Record T.me_Record_value G_Record_value (hr.mono (by decide)) T.b_Record_value .nil pass0 (pa_cons (pe_fldB (K := K) rfl (by exact (pv 0)) rfl) pa_nil))))) 
      (pss_cons (ps_setLc (i := 5) (own := [("place", 6), ("worth", 7)]) (g := gTup K 2 (gCons (gName 6) (gCons (gName 7) gNil))) rfl sc_SortedBlocks_layout.nd rfl rfl (sw_true rfl rfl rfl (by decide +kernel)) (pi_enum (by rfl) T.m_enumerate (pa_cons (pv 3) pa_nil)) (blkOk_by (own := [("place", 6), ("worth", 7)]) (N := ["self", "schema", "records", "values", "record", "having", "place", "worth", "lacking"]) (sc := defScope s_SortedBlocks_layout) (by decide +kernel)) (fun _ _ _ _ _ => (by exact (pg_tup rfl (pgs_cons (pg_name (i := 6) sc_SortedBlocks_layout.nd rfl (Or.inl rfl)) (pgs_cons (pg_name (i := 7) sc_SortedBlocks_layout.nd rfl (Or.inl rfl)) pgs_nil))))) (fun _ _ _ _ _ => (by exact pts_one (pt_cmpR op_notN (pv 7) pe_non (nomark _)))) (fun _ _ _ _ _ => (pv 6))) 
      (pss_cons (ps_setLc (i := 8) (own := [("place", 6), ("worth", 7)]) (g := gTup K 2 (gCons (gName 6) (gCons (gName 7) gNil))) rfl sc_SortedBlocks_layout.nd rfl rfl (sw_true rfl rfl rfl (by decide +kernel)) (pi_enum (by rfl) T.m_enumerate (pa_cons (pv 3) pa_nil)) (blkOk_by (own := [("place", 6), ("worth", 7)]) (N := ["self", "schema", "records", "values", "record", "having", "place", "worth", "lacking"]) (sc := defScope s_SortedBlocks_layout) (by decide +kernel)) (fun _ _ _ _ _ => (by exact (pg_tup rfl (pgs_cons (pg_name (i := 6) sc_SortedBlocks_layout.nd rfl (Or.inl rfl)) (pgs_cons (pg_name (i := 7) sc_SortedBlocks_layout.nd rfl (Or.inl rfl)) pgs_nil))))) (fun _ _ _ _ _ => (by exact pts_one (pt_cmpR op_isN (pv 7) pe_non (nomark _)))) (fun _ _ _ _ _ => (pv 6))) 
      (pss_one (ps_ret (pe_call G_block_layout (hr.mono (by decide)) (by rfl) T.g_block_layout T.F_block_layout.kp T.b_block_layout .nil pass0 (pa_cons (pe_op op_cat (SLam.pe_sortL (P := T.P_SortedBlocks_layout) (c := T.k_SortedBlocks_layout) (q := lq_SortedBlocks_layout) (N := ["place", "values"]) (ps := ["place"]) (fr := ["values"]) (js := [3]) (k := 0) T.tb_SortedBlocks_layout rfl rfl (by rfl) T.m_sorted (pa_cons (pv 5) pa_nil) rfl (by rfl) (NdefX.nscope_by (by decide +kernel)) rfl rfl (fun _ _ _ _ us hus => match us, hus with | [_], _ => rfl) (hr.mono (by decide)) (fun A outer s H f c' cl hr => (pe_ix (r := rIxL K) (by exact ix_list) (pv 1) (pv 0) (fun _ _ => rfl)))) (pv 8)) (pa_cons (pe_fld (pv 0) rfl) pa_nil)))))))), ?_⟩
    have P := Pt.start (muT T.P_SortedBlocks_layout lq_SortedBlocks_layout) sz hm
    unfold F_SortedBlocks_layout at hF
    refine st_norm (by dsimp only [List.set, L2.start, List.map, List.length, List.replicate, List.cons_append, List.nil_append, Nat.reduceSub, Nat.reduceAdd]) ?_
    obtain ⟨l_400, h_401, hF⟩ := bind_inv hF
    refine st_seq (st_set P (ev_fz (en_mapO (υ := (yOpt (y_Val T))) (fun (x_394 : Record) => ((F_Record_value x_394 x_self.field).bind fun r_398 =>
    some r_398 : Option (Option Val))) (ei_list (ev_var (τ := (yList (y_Record T))) rfl h_records)) (fun x_394 v_396 Z' H' p zz hh rx_397 hp => by
          replace h_self := ((y_SortedBlocks T)).mono zz h_self
          have hy := hp
          obtain ⟨r_398, h_399, hy⟩ := bind_inv hy
          have hy := Option.some.inj hy
          subst hy
          exact ⟨_, tgt_name, (wpe_s wpe_z (by decide)), (ev_meth (oo_Record T (by decide +kernel)) (cs_Record_value T h_399) (ev_var (τ := (y_Record T)) rfl rx_397) (eva_cons (ev_fld (fo_SortedBlocks_field T) T.cl_SortedBlocks T.n_SortedBlocks_field (ev_var (τ := (y_SortedBlocks T)) rfl h_self)) eva_nil))⟩) h_401)) (fun v_402 Z1 H1 e P1 k_403 => ?_))
    refine st_nx ?_
    replace P := P1
    replace h_self := ((y_SortedBlocks T)).mono e.z h_self
    refine st_norm (by dsimp only [List.set, L2.start, List.map, List.length, List.replicate, List.cons_append, List.nil_append, Nat.reduceSub, Nat.reduceAdd]) ?_
    obtain ⟨x_having_413, h_414, hF⟩ := bind_inv hF
    replace h_414 := Option.some.inj h_414
    refine st_seq (st_set P (ev_cast (ev_fz (en_fil (υ := yInt) (fun (x_404 : (Int × (Option Val))) => x_404.2.isSome) (fun (x_404 : (Int × (Option Val))) => x_404.1) (ei_enum (ev_var (τ := (yList (yOpt (y_Val T)))) rfl k_403)) (fun x_404 v_406 Z' H' zz hh rx_407 => by
          obtain ⟨v_408, v_409, k_410, k_411, tg_412⟩ := tgt_p2 rx_407
          exact ⟨_, (tg_412 tgt_name tgt_name), (wpe_s (wpe_s wpe_z (by decide)) (by decide)), (et_cmp (ev_notN (ev_var (τ := (yOpt (y_Val T))) rfl k_411) ev_non)), (ev_var (τ := yInt) rfl k_410)⟩))) h_414) (fun v_415 Z1 H1 e P1 k_416 => ?_))
    refine st_nx ?_
    replace P := P1
    replace h_self := ((y_SortedBlocks T)).mono e.z h_self
    replace k_403 := ((yList (yOpt (y_Val T)))).mono e.z k_403
    refine st_norm (by dsimp only [List.set, L2.start, List.map, List.length, List.replicate, List.cons_append, List.nil_append, Nat.reduceSub, Nat.reduceAdd]) ?_
    obtain ⟨x_lacking_426, h_427, hF⟩ := bind_inv hF
    replace h_427 := Option.some.inj h_427
    refine st_seq (st_set P (ev_cast (ev_fz (en_fil (υ := yInt) (fun (x_417 : (Int × (Option Val))) => x_417.2.isNone) (fun (x_417 : (Int × (Option Val))) => x_417.1) (ei_enum (ev_var (τ := (yList (yOpt (y_Val T)))) rfl k_403)) (fun x_417 v_419 Z' H' zz hh rx_420 => by
          obtain ⟨v_421, v_422, k_423, k_424, tg_425⟩ := tgt_p2 rx_420
          exact ⟨_, (tg_425 tgt_name tgt_name), (wpe_s (wpe_s wpe_z (by decide)) (by decide)), (et_cmp (ev_isN (ev_var (τ := (yOpt (y_Val T))) rfl k_424) ev_non)), (ev_var (τ := yInt) rfl k_423)⟩))) h_427) (fun v_428 Z1 H1 e P1 k_429 => ?_))
    refine st_nx ?_
    replace P := P1
    replace h_self := ((y_SortedBlocks T)).mono e.z h_self
    replace k_403 := ((yList (yOpt (y_Val T)))).mono e.z k_403
    replace k_416 := ((yList yInt)).mono e.z k_416
    refine st_norm (by dsimp only [List.set, L2.start, List.map, List.length, List.replicate, List.cons_append, List.nil_append, Nat.reduceSub, Nat.reduceAdd]) ?_
    obtain ⟨g_449, hF⟩ := guard_inv hF
    obtain ⟨l_450, h_451, hF⟩ := bind_inv hF
    obtain ⟨h_451k, hF⟩ := guard_inv hF
    obtain ⟨g_452, hF⟩ := guard_inv hF
    obtain ⟨r_453, h_454, hF⟩ := bind_inv hF
    replace hF := Option.some.inj hF
    subst hF
    refine st_ret P (ev_call (cs_block_layout T h_454) (eva_cons (ev_fz (en_cat (ev_li (ev_fz (en_sortLG (τ := yInt) (κ := (y_Val T)) (d := d_Val) (g := fun (x_441 : Int) => ((atI l_400 x_441).bind fun i_445 =>
    (i_445).bind fun u_447 =>
    some u_447 : Option Val)) (sk_Val T) h_451k (fun _ _ m => m) (fun _ h => h) (fun _ _ _ _ _ _ n => n) (ev_li (ev_var (τ := (yList yInt)) rfl k_416)) g_449 h_451 (fun x_441 v_442 Z' H' y_444 zz hh rx_443 hp => by
          replace k_403 := ((yList (yOpt (y_Val T)))).mono zz k_403
          have hy := hp
          obtain ⟨i_445, h_446, hy⟩ := bind_inv hy
          obtain ⟨u_447, h_448, hy⟩ := bind_inv hy
          have hy := Option.some.inj hy
          subst hy
          exact (ev_uno (ev_ixL (ev_li (ev_var (τ := (yList (yOpt (y_Val T)))) rfl k_403)) (ev_var (τ := yInt) rfl rx_443) h_446) h_448))))) (ev_li (ev_var (τ := (yList yInt)) rfl k_429)) g_452)) (eva_cons (ev_fld (fo_SortedBlocks_size T) T.cl_SortedBlocks T.n_SortedBlocks_size (ev_var (τ := (y_SortedBlocks T)) rfl h_self)) eva_nil))) (fun v Z1 H1 P1 hv => ?_)
    exact q v _ _ P1.st P1.m hv
theorem cs_SortedBlocks_layout (T : Txt w K mg base) {ds : Unit} {E : XK} {x_self : SortedBlocks} {x_schema : Schema} {x_records : (List Record)} {y : Layout} (h : F_SortedBlocks_layout ds x_self x_schema x_records = some y) : CallS (muT T.P_SortedBlocks_layout lq_SortedBlocks_layout) (sp_SortedBlocks_layout T) E (rac (ty (y_SortedBlocks T) x_self) (rac (ty (y_Schema T) x_schema) (rac (ty (yList (y_Record T)) x_records) ra0))) ds (ty (y_Layout T) y) ds := by
  rintro Z H vs sz m ⟨v_self, _, rfl, h_self, ⟨v_schema, _, rfl, h_schema, ⟨v_records, _, rfl, h_records, rfl⟩⟩⟩ Q q
  exact ⟨Z, ds, v_self, v_schema, v_records, x_self, x_schema, x_records, y, rfl, sz, m, h_self, h_schema, h_records, h, fun v Z2 H2 s2 m2 hv => q v Z2 H2 s2 m2 hv⟩
theorem cu_SortedBlocks_layout (T : Txt w K mg base) {ds : Unit} {E : XK} {x_self : SortedBlocks} {x_schema : Schema} {x_records : (List Record)} {y : Layout} {μ : Type} {M : Mu μ} {s s2 : μ} (hm : ∀ Z H, M.m s Z H → (muT T.P_SortedBlocks_layout lq_SortedBlocks_layout).m ds Z H) (hf : ∀ a ∈ (muT T.P_SortedBlocks_layout lq_SortedBlocks_layout).fp, a ∈ M.fp) (hp : ∀ Z H Z' H', M.m s Z H → Step (muT T.P_SortedBlocks_layout lq_SortedBlocks_layout).fp Z H Z' H' → (muT T.P_SortedBlocks_layout lq_SortedBlocks_layout).m ds Z' H' → M.m s2 Z' H') (h : F_SortedBlocks_layout ds x_self x_schema x_records = some y) : CallS M (sp_SortedBlocks_layout T) E (rac (ty (y_SortedBlocks T) x_self) (rac (ty (y_Schema T) x_schema) (rac (ty (yList (y_Record T)) x_records) ra0))) s (ty (y_Layout T) y) s2 := by
  rintro Z H vs sz m ⟨v_self, _, rfl, h_self, ⟨v_schema, _, rfl, h_schema, ⟨v_records, _, rfl, h_records, rfl⟩⟩⟩ Q q
  exact ⟨Z, ds, v_self, v_schema, v_records, x_self, x_schema, x_records, y, rfl, sz, hm _ _ m, h_self, h_schema, h_records, h, fun v Z2 H2 st2 m2 hv => q v Z2 H2 (st2.weak fun a h => .inl (hf a h)) (hp _ _ _ _ m st2 m2) hv⟩
def sp_law (K : PySem.W.Frag) (P_SortedBlocks_layout : Addr) : Sp := fun vs H Q _ => ∃ (a : Addr) (ns : List Int), vs = [.ref a] ∧ (SqL K H a (ns.map V.int)) ∧ (ns.length ≤ 63) ∧ (H P_SortedBlocks_layout = some (.tbl #[])) ∧ ∀ H', Q (.bl true) H'
set_option maxHeartbeats 8000000 in
theorem ok_law (T : Txt w K mg base) : FnOk P w K mg base CX0 6 T.f_law T.d_law ["script"] (sp_law K T.P_SortedBlocks_layout) := by
  have G_block_layout : FnOk P w K mg base CX0 3 T.f_block_layout T.d_block_layout ["order", "size"] (sp_block_layout T) := ok_block_layout T
  have G_law_shown : FnOk P w K mg base CX0 1 T.f_law_shown T.d_law_shown ["layout"] (sp_law_shown T) := ok_law_shown T
  have G_law_due : FnOk P w K mg base CX0 1 T.f_law_due T.d_law_due ["order", "size"] (sp_law_due T) := ok_law_due T
  have G_SortedBlocks_layout : FnOk P w K mg base CX0 4 T.f_SortedBlocks_layout T.d_SortedBlocks_layout ["self", "schema", "records"] (sp_SortedBlocks_layout T) := ok_SortedBlocks_layout T
  have G_Blocks_layout : FnOk P w K mg base CX0 4 T.f_Blocks_layout T.d_Blocks_layout ["self", "schema", "records"] (sp_Blocks_layout T) := ok_Blocks_layout T
  have G_Schema___init__ : FnOk P w K mg base (L2.CX P w) 4 T.f_Schema___init__ T.d_Schema___init__ ["self", "size", "width", "measure", "fields"] (sp_Schema___init__ T) := ok_Schema___init__ T
  have G_law_made : FnOk P w K mg base CX0 4 T.f_law_made T.d_law_made ["sort", "size"] (sp_law_made T) := ok_law_made T
  have G_law_next : FnOk P w K mg base CX0 2 T.f_law_next T.d_law_next ["state", "many"] (sp_law_next T) := ok_law_next T
  have G_Record___init__ : FnOk P w K mg base CX0 1 T.f_Record___init__ T.d_Record___init__ ["self", "name", "vector", "fields", "words"] (sp_Record___init__ T) := ok_Record___init__ T
  refine T.F_law.ok sc_law (fun vs H Q E h => ?_) (fun cdv A outer s H vs Q E hr h => ?_)
  · obtain ⟨a, ns, rfl, _⟩ := h
    rfl
  · obtain ⟨a, ns, rfl, hA, hlen, ht_SortedBlocks_layout, q⟩ := h
    refine ⟨_, (pss_cons (ps_set (i := 1) sc_law.nd rfl (.inl rfl) (pe_lst (pa_cons (pe_callTy call_list_of (by rfl) T.m_list (by decide +kernel) (pa_cons (pv 0) pa_nil)) (pa_cons pe_int (pa_cons pe_int pa_nil))))) 
      (pss_cons (ps_set (i := 2) sc_law.nd rfl (.inl rfl) (pe_call G_law_next (hr.mono (by decide)) (by rfl) T.g_law_next T.F_law_next.kp T.b_law_next .nil pass0 (pa_cons (pv 1) (pa_cons pe_int pa_nil)))) 
      (pss_cons (ps_set (i := 3) sc_law.nd rfl (.inr rfl) (pe_lst pa_nil)) 
      (pss_cons (ps_for PassesOwn.never rfl (pi_range1 rfl T.m_range (pa_cons (pe_call G_law_next (hr.mono (by decide)) (by rfl) T.g_law_next T.F_law_next.kp T.b_law_next .nil pass0 (pa_cons (pv 1) (pa_cons pe_int pa_nil))) pa_nil)) (pg_name (i := 4) sc_law.nd rfl (.inl rfl)) (pss_cons (ps_set (i := 5) sc_law.nd rfl (.inl rfl) (pe_ix ix_list (pe_lst (pa_cons (pe_op op_sub (pe_call G_law_next (hr.mono (by decide)) (by rfl) T.g_law_next T.F_law_next.kp T.b_law_next .nil pass0 (pa_cons (pv 1) (pa_cons pe_int pa_nil))) pe_int) (pa_cons (pe_ix ix_list (pe_lst (pa_cons pe_str (pa_cons pe_str (pa_cons pe_str pa_nil)))) (pe_call G_law_next (hr.mono (by decide)) (by rfl) T.g_law_next T.F_law_next.kp T.b_law_next .nil pass0 (pa_cons (pv 1) (pa_cons pe_int pa_nil))) (fun _ _ => rfl)) (pa_cons (pe_cmpR op_eq (pe_call G_law_next (hr.mono (by decide)) (by rfl) T.g_law_next T.F_law_next.kp T.b_law_next .nil pass0 (pa_cons (pv 1) (pa_cons pe_int pa_nil))) pe_int (nomark _)) pa_nil)))) (pv 2) (fun _ _ => rfl))) 
      (pss_one (ps_expr (pe_bm PySem.F.plainAttrs_list PySem.F.slot_list_append PySem.F.type_list_append mt_append (pv 3) (pa_cons (pe_ix ix_list (pe_lst (pa_cons (pv 5) (pa_cons (pv 5) (pa_cons pe_non pa_nil)))) (pe_call G_law_next (hr.mono (by decide)) (by rfl) T.g_law_next T.F_law_next.kp T.b_law_next .nil pass0 (pa_cons (pv 1) (pa_cons pe_int pa_nil))) (fun _ _ => rfl)) pa_nil)))))) 
      (pss_cons (ps_set (i := 6) sc_law.nd rfl (.inl rfl) (pe_lst pa_nil)) 
      (pss_cons (ps_for PassesOwn.never rfl (pi_range1 rfl T.m_range (pa_cons (pe_callB call_len_seq (by rfl) T.m_len PySem.boot_len (pa_cons (pv 3) pa_nil)) pa_nil)) (pg_name (i := 4) sc_law.nd rfl (.inl rfl)) (pss_cons (ps_set (i := 7) sc_law.nd rfl (.inl rfl) (pe_lst pa_nil)) 
      (pss_cut (ps_if (pt_cmpR op_notN (pe_ix ix_list (pv 3) (pv 4) (fun _ _ => rfl)) pe_non (nomark _)) (pss_one (ps_set (i := 7) sc_law.nd rfl (.inl rfl) (pe_lst (pa_cons (pe_tup (pa_cons pe_str (pa_cons (pe_ix ix_list (pv 3) (pv 4) (fun _ _ => rfl)) pa_nil))) pa_nil)))) pss_nil) 
      (pss_one (ps_expr (pe_bm PySem.F.plainAttrs_list PySem.F.slot_list_append PySem.F.type_list_append mt_append (pv 6) (pa_cons (pe_makeK T.mk_Record G_Record___init__ (hr.mono (by decide)) (by rfl) T.mc_Record T.kb_Record___init___k0 pass0 (pa_cons (pe_op op_add_str pe_str (pe_callTy call_str_int (by rfl) T.m_str (by decide +kernel) (pa_cons (pv 4) pa_nil))) (pa_cons (pe_lst (pa_cons pe_int pa_nil)) pa_nil)) (pk_cons (pv 7) pk_nil)) pa_nil))))))) 
      (pss_cons (ps_set (i := 8) sc_law.nd rfl (.inl rfl) (pe_ix ix_list (pe_lst (pa_cons pe_int (pa_cons pe_int (pa_cons pe_int (pa_cons pe_int (pa_cons pe_int (pa_cons (pe_un un_neg pe_int) pa_nil))))))) (pe_call G_law_next (hr.mono (by decide)) (by rfl) T.g_law_next T.F_law_next.kp T.b_law_next .nil pass0 (pa_cons (pv 1) (pa_cons pe_int pa_nil))) (fun _ _ => rfl))) 
      (pss_cons (ps_set (i := 9) sc_law.nd rfl (.inl rfl) (pe_call G_law_made (hr.mono (by decide)) (by rfl) T.g_law_made T.F_law_made.kp T.b_law_made .nil pass0 (pa_cons pe_bl (pa_cons (pv 8) pa_nil)))) 
      (pss_cons (ps_set (i := 10) sc_law.nd rfl (.inl rfl) (pe_call G_law_made (hr.mono (by decide)) (by rfl) T.g_law_made T.F_law_made.kp T.b_law_made .nil pass0 (pa_cons pe_bl (pa_cons (pv 8) pa_nil)))) 
      (pss_cons (ps_if (pt_cmpR op_lt (pv 8) pe_int (nomark _)) (pss_one (ps_ret (pe_and (pe_cmpR op_isN (pv 9) pe_non (nomark _)) (pe_one (pe_cmpR op_isN (pv 10) pe_non (nomark _)))))) pss_nil) 
      (pss_cons (ps_set (i := 11) sc_law.nd rfl (.inl rfl) (pe_makeK T.mk_Schema G_Schema___init__ (hr.mono (by decide)) (by rfl) T.mc_Schema T.kb_Schema___init___k0 passL (pa_cons pe_int pa_nil) (pk_cons (pe_lst (pa_cons (pe_tup (pa_cons pe_str (pa_cons (pe_ix ix_list (pe_lst (pa_cons pe_str (pa_cons pe_str (pa_cons pe_str pa_nil)))) (pv 2) (fun _ _ => rfl)) pa_nil))) pa_nil)) pk_nil))) 
      (pss_cons (ps_set (i := 12) sc_law.nd rfl (.inl rfl) (pe_lst pa_nil)) 
      (pss_cons (ps_for PassesOwn.never rfl (pi_range1 rfl T.m_range (pa_cons (pe_callB call_len_seq (by rfl) T.m_len PySem.boot_len (pa_cons (pv 3) pa_nil)) pa_nil)) (pg_name (i := 4) sc_law.nd rfl (.inl rfl)) (pss_one (ps_if (pt_cmpR op_notN (pe_ix ix_list (pv 3) (pv 4) (fun _ _ => rfl)) pe_non (nomark _)) (pss_cons (ps_set (i := 13) sc_law.nd rfl (.inl rfl) pe_int) 
      (pss_cons (ps_for PassesOwn.never rfl (pi_range1 rfl T.m_range (pa_cons (pe_callB call_len_seq (by rfl) T.m_len PySem.boot_len (pa_cons (pv 12) pa_nil)) pa_nil)) (pg_name (i := 14) sc_law.nd rfl (.inl rfl)) (pss_one (ps_if (pt_not (pt_cmpR op_ltV (pe_ix ix_list (pv 3) (pv 4) (fun _ _ => rfl)) (pe_ix ix_list (pv 3) (pe_ix ix_list (pv 12) (pv 14) (fun _ _ => rfl)) (fun _ _ => rfl)) (nomark _))) (pss_one (ps_set (i := 13) sc_law.nd rfl (.inl rfl) (pe_op op_add (pv 14) pe_int))) pss_nil))) 
      (pss_one (ps_set (i := 12) sc_law.nd rfl (.inl rfl) (pe_op op_cat (pe_op op_cat (pe_slice sl_list (pv 12) po_none (po_some (pv 13))) (pe_lst (pa_cons (pv 4) pa_nil))) (pe_slice sl_list (pv 12) (po_some (pv 13)) po_none)))))) pss_nil))) 
      (pss_cons (ps_set (i := 15) sc_law.nd rfl (.inl rfl) (pe_op op_cat (pv 12) (pe_lc (own := [("k", 4)]) (g := gName 4) rfl sc_law.nd (pi_range1 rfl T.m_range (pa_cons (pe_callB call_len_seq (by rfl) T.m_len PySem.boot_len (pa_cons (pv 3) pa_nil)) pa_nil)) (blkOk_by (own := [("k", 4)]) (N := ["script", "state", "kind", "worths", "k", "worth", "records", "fields", "size", "plain", "sort", "schema", "present", "at", "j", "order"]) (sc := defScope s_law) (by decide +kernel)) (fun _ _ _ _ _ => (pg_name (i := 4) sc_law.nd rfl (Or.inl rfl))) (fun _ _ _ _ _ => (by exact pts_one (pt_cmpR op_isN (pe_ix (r := rIxL K) (by exact ix_list) (pv 3) (pv 4) (fun _ _ => rfl)) pe_non (nomark _)))) (fun _ _ _ _ _ => (pv 4))))) 
      (pss_cons (ps_if (pt_cmpR (op_neD hr.units) (pe_call G_law_shown (hr.mono (by decide)) (by rfl) T.g_law_shown T.F_law_shown.kp T.b_law_shown .nil pass0 (pa_cons (pe_meth (pv 9) T.cl_Blocks T.me_Blocks_layout G_Blocks_layout (hr.mono (by decide)) T.b_Blocks_layout .nil pass0 (pa_cons (pv 11) (pa_cons (pe_callTy call_list_of (by rfl) T.m_list (by decide +kernel) (pa_cons (pv 6) pa_nil)) pa_nil))) pa_nil)) (pe_call G_law_due (hr.mono (by decide)) (by rfl) T.g_law_due T.F_law_due.kp T.b_law_due .nil pass0 (pa_cons (pe_listRg rfl (by rfl) T.m_list (prg_1 (by rfl) T.m_range (pe_callB call_len_seq (by rfl) T.m_len PySem.boot_len (pa_cons (pv 6) pa_nil)))) (pa_cons (pv 8) pa_nil))) (nomark _)) (pss_one (ps_ret pe_bl)) pss_nil) 
      (pss_cons (ps_if (pt_cmpR (op_neD hr.units) (pe_call G_law_shown (hr.mono (by decide)) (by rfl) T.g_law_shown T.F_law_shown.kp T.b_law_shown .nil pass0 (pa_cons (pe_meth (pv 10) T.cl_SortedBlocks T.me_SortedBlocks_layout G_SortedBlocks_layout (hr.mono (by decide)) T.b_SortedBlocks_layout .nil pass0 (pa_cons (pv 11) (pa_cons (pe_callTy call_list_of (by rfl) T.m_list (by decide +kernel) (pa_cons (pv 6) pa_nil)) pa_nil))) pa_nil)) (pe_call G_law_due (hr.mono (by decide)) (by rfl) T.g_law_due T.F_law_due.kp T.b_law_due .nil pass0 (pa_cons (pv 15) (pa_cons (pv 8) pa_nil))) (nomark _)) (pss_one (ps_ret pe_bl)) pss_nil) 
      (pss_one (ps_ret (pe_cmpR (op_eqD hr.units) (pe_call G_law_shown (hr.mono (by decide)) (by rfl) T.g_law_shown T.F_law_shown.kp T.b_law_shown .nil pass0 (pa_cons (pe_call G_block_layout (hr.mono (by decide)) (by rfl) T.g_block_layout T.F_block_layout.kp T.b_block_layout .nil pass0 (pa_cons (pe_callTy call_list_of (by rfl) T.m_list (by decide +kernel) (pa_cons (pv 15) pa_nil)) (pa_cons (pv 8) pa_nil))) pa_nil)) (pe_call G_law_due (hr.mono (by decide)) (by rfl) T.g_law_due T.F_law_due.kp T.b_law_due .nil pass0 (pa_cons (pv 15) (pa_cons (pv 8) pa_nil))) (nomark _)))))))))))))))))))), ?_⟩
    have hF := law_true ns hlen
    unfold F_law at hF
    refine st_norm (by dsimp only [List.set, L2.start, List.map, List.length, List.replicate, List.cons_append, List.nil_append, Nat.reduceSub, Nat.reduceAdd]) ?_
    refine st_seq ?_
    refine st_drawsT (q := lq_SortedBlocks_layout) ht_SortedBlocks_layout hA hlen (fun st sc Z0 Z1 H1 P => ?_)
    refine st_nx ?_
    refine st_norm (by dsimp only [List.set, L2.start, List.map, List.length, List.replicate, List.cons_append, List.nil_append, Nat.reduceSub, Nat.reduceAdd]) ?_
    obtain ⟨x_kind_455, h_456, hF⟩ := bind_inv hF
    replace h_456 := Option.some.inj h_456
    refine st_seq (st_set P (ev_cast (ev_call (cu__law_next T (s := ((DS.mk ns 0 0), ())) (s2 := ((nxS (DS.mk ns 0 0) (3 : Int)), ())) (ds := (DS.mk ns 0 0)) (fun Z H m => by
          obtain ⟨m0, m1, d1⟩ := m
          exact m0) (fun a hb => (List.mem_append_left _ hb)) (fun Z H Z' H' m e n => by
          obtain ⟨m0, m1, d1⟩ := m
          have n0 := n
          exact ⟨n0, (Mu.keep m1 e (fun a ha hb => (fun a ha hb => d1 a hb ha) a ha hb)), d1⟩) (by decide +kernel)) (eva_cons (ev_ref rfl) (eva_cons ev_int eva_nil))) h_456) (fun v_457 Z1 H1 e P1 k_458 => ?_))
    refine st_nx ?_
    replace P := P1
    refine st_norm (by dsimp only [List.set, L2.start, List.map, List.length, List.replicate, List.cons_append, List.nil_append, Nat.reduceSub, Nat.reduceAdd]) ?_
    refine st_seq (st_setN (τ := (yOpt (y_Val T))) P (en_listD (eva_nils (τ := (yOpt (y_Val T)))) (by show 0 ≤ sizeLine; decide)) (fun p_459 Z1 H1 e P1 fr_461 o_460 => ?_))
    refine st_nx ?_
    replace P := P1
    refine st_norm (by dsimp only [List.set, L2.start, List.map, List.length, List.replicate, List.cons_append, List.nil_append, Nat.reduceSub, Nat.reduceAdd]) ?_
    obtain ⟨g_462, hF⟩ := guard_inv hF
    obtain ⟨f_512, hL_513, hF⟩ := bind_inv hF
    refine st_seq (st_for (τ := yInt) (fun (r_465 : List Int) σ' Z' H' => ∃ w_463, ∃ (y_470 : Option V) (y_472 : Option V) (y_473 : Option V) (y_474 : Option V) (y_475 : Option V) (y_476 : Option V) (y_477 : Option V) (y_478 : Option V) (y_479 : Option V) (y_480 : Option V) (y_481 : Option V) (y_482 : Option V) (y_483 : Option V), σ' = [y_470, some (.ref st), some v_457, some (.ref p_459), y_472, y_473, y_474, y_475, y_476, y_477, y_478, y_479, y_480, y_481, y_482, y_483] ∧ Pt [T.P_SortedBlocks_layout] Z0 H (muX (muD st sc) (muT T.P_SortedBlocks_layout lq_SortedBlocks_layout)) Z' H' w_463.2 ∧ Own [T.P_SortedBlocks_layout] H (muX (muD st sc) (muT T.P_SortedBlocks_layout lq_SortedBlocks_layout)).fp Z' H' (yOpt (y_Val T)) p_459 w_463.1 ∧ forF (L_law_1 x_kind_455) r_465 w_463 = some f_512) P (ei_rng1 (ev_call (cu__law_next T (s := ((nxS (DS.mk ns 0 0) (3 : Int)), ())) (s2 := ((nxS (nxS (DS.mk ns 0 0) (3 : Int)) (9 : Int)), ())) (ds := (nxS (DS.mk ns 0 0) (3 : Int))) (fun Z H m => by
          obtain ⟨m0, m1, d1⟩ := m
          exact m0) (fun a hb => (List.mem_append_left _ hb)) (fun Z H Z' H' m e n => by
          obtain ⟨m0, m1, d1⟩ := m
          have n0 := n
          exact ⟨n0, (Mu.keep m1 e (fun a ha hb => (fun a ha hb => d1 a hb ha) a ha hb)), d1⟩) (by decide +kernel)) (eva_cons (ev_ref rfl) (eva_cons ev_int eva_nil))) g_462) ?_ ?_ ?_)
    · rintro Z1 H1 e P1
      replace P := P1
      replace o_460 := o_460.next e
      exact ⟨(([] : List (Option Val)), ((nxS (nxS (DS.mk ns 0 0) (3 : Int)) (9 : Int)), ())), _, _, _, _, _, _, _, _, _, _, _, _, _, rfl, P, o_460, hL_513⟩
    · rintro Zb_469 Hb eb x_464 r_465 σ' v_499 Z1 H1 Z2 H2 zs_468 ⟨w_463, y_470, y_472, y_473, y_474, y_475, y_476, y_477, y_478, y_479, y_480, y_481, y_482, y_483, rfl, P, o_471, hq_467⟩ e hx_500
      replace P := P.item e
      replace o_471 := o_471.step e List.not_mem_nil
      replace zs_468 := zs_468.trans e.z
      obtain ⟨u_501, hB_466, hq_467⟩ := bind_inv (forF_cons hq_467)
      unfold L_law_1 at hB_466
      refine tgt_name _ P.sub _ ?_
      refine st_norm (by dsimp only [List.set, L2.start, List.map, List.length, List.replicate, List.cons_append, List.nil_append, Nat.reduceSub, Nat.reduceAdd]) ?_
      obtain ⟨i_502, h_503, hB_466⟩ := bind_inv hB_466
      obtain ⟨i_504, h_505, hB_466⟩ := bind_inv hB_466
      refine st_seq (st_set P (ev_ixL (ev_li (ev_fz (en_listD (eva_conss (ij_Val_i T (ev_sub (ev_call (cu__law_next T (s := (w_463.2.1, w_463.2.2)) (s2 := ((nxS w_463.2.1 (4 : Int)), w_463.2.2)) (ds := w_463.2.1) (fun Z H m => by
            obtain ⟨m0, m1, d1⟩ := m
            exact m0) (fun a hb => (List.mem_append_left _ hb)) (fun Z H Z' H' m e n => by
            obtain ⟨m0, m1, d1⟩ := m
            have n0 := n
            exact ⟨n0, (Mu.keep m1 e (fun a ha hb => (fun a ha hb => d1 a hb ha) a ha hb)), d1⟩) (by decide +kernel)) (eva_cons (ev_ref rfl) (eva_cons ev_int eva_nil))) ev_int)) (eva_conss (ev_ixL (ev_li (ev_fz (en_listD (eva_conss (ij_Val_t T ev_str) (eva_conss (ij_Val_t T ev_str) (eva_conss (ij_Val_t T ev_str) (eva_nils (τ := (y_Val T)))))) (by show 3 ≤ sizeLine; decide)))) (ev_call (cu__law_next T (s := ((nxS w_463.2.1 (4 : Int)), w_463.2.2)) (s2 := ((nxS (nxS w_463.2.1 (4 : Int)) (3 : Int)), w_463.2.2)) (ds := (nxS w_463.2.1 (4 : Int))) (fun Z H m => by
            obtain ⟨m0, m1, d1⟩ := m
            exact m0) (fun a hb => (List.mem_append_left _ hb)) (fun Z H Z' H' m e n => by
            obtain ⟨m0, m1, d1⟩ := m
            have n0 := n
            exact ⟨n0, (Mu.keep m1 e (fun a ha hb => (fun a ha hb => d1 a hb ha) a ha hb)), d1⟩) (by decide +kernel)) (eva_cons (ev_ref rfl) (eva_cons ev_int eva_nil))) h_503) (eva_conss (ij_Val_b T (ev_eq flat_int (ev_call (cu__law_next T (s := ((nxS (nxS w_463.2.1 (4 : Int)) (3 : Int)), w_463.2.2)) (s2 := ((nxS (nxS (nxS w_463.2.1 (4 : Int)) (3 : Int)) (2 : Int)), w_463.2.2)) (ds := (nxS (nxS w_463.2.1 (4 : Int)) (3 : Int))) (fun Z H m => by
            obtain ⟨m0, m1, d1⟩ := m
            exact m0) (fun a hb => (List.mem_append_left _ hb)) (fun Z H Z' H' m e n => by
            obtain ⟨m0, m1, d1⟩ := m
            have n0 := n
            exact ⟨n0, (Mu.keep m1 e (fun a ha hb => (fun a ha hb => d1 a hb ha) a ha hb)), d1⟩) (by decide +kernel)) (eva_cons (ev_ref rfl) (eva_cons ev_int eva_nil))) ev_int)) (eva_nils (τ := (y_Val T)))))) (by show 3 ≤ sizeLine; decide)))) (ev_var (τ := yInt) rfl k_458) h_505) (fun v_506 Z1 H1 e P1 k_507 => ?_))
      refine st_nx ?_
      replace P := P1
      replace o_471 := o_471.next e
      replace zs_468 := zs_468.trans e.z
      refine st_norm (by dsimp only [List.set, L2.start, List.map, List.length, List.replicate, List.cons_append, List.nil_append, Nat.reduceSub, Nat.reduceAdd]) ?_
      obtain ⟨i_508, h_509, hB_466⟩ := bind_inv hB_466
      obtain ⟨g_510, hB_466⟩ := guard_inv hB_466
      refine st_append P o_471 rfl (ev_ixL (ev_li (ev_fz (en_listD (eva_conss (ev_some (nn_Val T) (ev_var (τ := (y_Val T)) rfl k_507)) (eva_conss (ev_some (nn_Val T) (ev_var (τ := (y_Val T)) rfl k_507)) (eva_conss (ev_none (τ := (y_Val T)) ev_non) (eva_nils (τ := (yOpt (y_Val T))))))) (by show 3 ≤ sizeLine; decide)))) (ev_call (cu__law_next T (s := ((nxS (nxS (nxS w_463.2.1 (4 : Int)) (3 : Int)) (2 : Int)), w_463.2.2)) (s2 := ((nxS (nxS (nxS (nxS w_463.2.1 (4 : Int)) (3 : Int)) (2 : Int)) (3 : Int)), w_463.2.2)) (ds := (nxS (nxS (nxS w_463.2.1 (4 : Int)) (3 : Int)) (2 : Int))) (fun Z H m => by
            obtain ⟨m0, m1, d1⟩ := m
            exact m0) (fun a hb => (List.mem_append_left _ hb)) (fun Z H Z' H' m e n => by
            obtain ⟨m0, m1, d1⟩ := m
            have n0 := n
            exact ⟨n0, (Mu.keep m1 e (fun a ha hb => (fun a ha hb => d1 a hb ha) a ha hb)), d1⟩) (by decide +kernel)) (eva_cons (ev_ref rfl) (eva_cons ev_int eva_nil))) h_509) g_510 (fun Z1 H1 e P1 o_511 => ?_)
      replace P := P1
      replace zs_468 := zs_468.trans e.z
      replace hB_466 := Option.some.inj hB_466
      subst hB_466
      exact ⟨_, zs_468, P.sub, ((w_463.1 ++ [i_508]), ((nxS (nxS (nxS (nxS w_463.2.1 (4 : Int)) (3 : Int)) (2 : Int)) (3 : Int)), w_463.2.2)), _, _, _, _, _, _, _, _, _, _, _, _, _, rfl, P, o_511, hq_467⟩
    rintro σ' Z1 H1 _ _ ⟨w_484, y_470, y_472, y_473, y_474, y_475, y_476, y_477, y_478, y_479, y_480, y_481, y_482, y_483, rfl, P, o_486, hl⟩
    have hz := (forF_nil hl).symm
    subst hz
    refine st_nx ?_
    refine st_norm (by dsimp only [List.set, L2.start, List.map, List.length, List.replicate, List.cons_append, List.nil_append, Nat.reduceSub, Nat.reduceAdd]) ?_
    refine st_seq (st_setN (τ := (y_Record T)) P (en_listD (eva_nils (τ := (y_Record T))) (by show 0 ≤ sizeLine; decide)) (fun p_514 Z1 H1 e P1 fr_516 o_515 => ?_))
    refine st_nx ?_
    have ne_517 := o_486.ne fr_516
    replace P := P1
    replace o_486 := o_486.next e
    refine st_norm (by dsimp only [List.set, L2.start, List.map, List.length, List.replicate, List.cons_append, List.nil_append, Nat.reduceSub, Nat.reduceAdd]) ?_
    obtain ⟨g_518, hF⟩ := guard_inv hF
    obtain ⟨f_592, hL_593, hF⟩ := bind_inv hF
    refine st_seq (st_for (τ := yInt) (fun (r_521 : List Int) σ' Z' H' => ∃ w_519, ∃ (y_526 : Option V) (y_528 : Option V) (y_529 : Option V) (y_531 : Option V) (y_532 : Option V) (y_533 : Option V) (y_534 : Option V) (y_535 : Option V) (y_536 : Option V) (y_537 : Option V) (y_538 : Option V) (y_539 : Option V), σ' = [y_526, some (.ref st), some v_457, some (.ref p_459), y_528, y_529, some (.ref p_514), y_531, y_532, y_533, y_534, y_535, y_536, y_537, y_538, y_539] ∧ Pt [T.P_SortedBlocks_layout] Z0 H (muX (muD st sc) (muT T.P_SortedBlocks_layout lq_SortedBlocks_layout)) Z' H' (w_484.2.1, w_484.2.2) ∧ Own [T.P_SortedBlocks_layout] H (muX (muD st sc) (muT T.P_SortedBlocks_layout lq_SortedBlocks_layout)).fp Z' H' (yOpt (y_Val T)) p_459 w_484.1 ∧ Own [T.P_SortedBlocks_layout] H (muX (muD st sc) (muT T.P_SortedBlocks_layout lq_SortedBlocks_layout)).fp Z' H' (y_Record T) p_514 w_519 ∧ forF (L_law_2 w_484) r_521 w_519 = some f_592) P (ei_rng1 (ev_len (fun _ _ _ h => h) (ev_o o_486 rfl)) g_518) ?_ ?_ ?_)
    · rintro Z1 H1 e P1
      replace P := P1
      replace o_486 := o_486.next e
      replace o_515 := o_515.next e
      exact ⟨([] : List Record), _, _, _, _, _, _, _, _, _, _, _, _, rfl, P, o_486, o_515, hL_593⟩
    · rintro Zb_525 Hb eb x_520 r_521 σ' v_555 Z1 H1 Z2 H2 zs_524 ⟨w_519, y_526, y_528, y_529, y_531, y_532, y_533, y_534, y_535, y_536, y_537, y_538, y_539, rfl, P, o_527, o_530, hq_523⟩ e hx_556
      replace P := P.item e
      replace o_527 := o_527.step e List.not_mem_nil
      replace o_530 := o_530.step e List.not_mem_nil
      replace zs_524 := zs_524.trans e.z
      obtain ⟨u_557, hB_522, hq_523⟩ := bind_inv (forF_cons hq_523)
      unfold L_law_2 at hB_522
      refine tgt_name _ P.sub _ ?_
      refine st_norm (by dsimp only [List.set, L2.start, List.map, List.length, List.replicate, List.cons_append, List.nil_append, Nat.reduceSub, Nat.reduceAdd]) ?_
      refine st_seq (st_set P (ev_fz (en_listD (eva_nils (τ := (yP2 K yStr (y_Val T)))) (by show 0 ≤ sizeLine; decide))) (fun v_558 Z1 H1 e P1 k_559 => ?_))
      refine st_nx ?_
      replace P := P1
      replace o_527 := o_527.next e
      replace o_530 := o_530.next e
      replace zs_524 := zs_524.trans e.z
      refine st_norm (by dsimp only [List.set, L2.start, List.map, List.length, List.replicate, List.cons_append, List.nil_append, Nat.reduceSub, Nat.reduceAdd]) ?_
      obtain ⟨i_560, h_561, hB_522⟩ := bind_inv hB_522
      obtain ⟨w_564, hB_563, hB_522⟩ := bind_inv hB_522
      refine ⟨fun σ' H' => ∃ Z', ∃ (y_565 : Option V) (y_567 : Option V) (v_569 : V) (y_571 : Option V) (y_572 : Option V) (y_573 : Option V) (y_574 : Option V) (y_575 : Option V) (y_576 : Option V) (y_577 : Option V) (y_578 : Option V), σ' = [y_565, some (.ref st), some v_457, some (.ref p_459), some v_555, y_567, some (.ref p_514), some v_569, y_571, y_572, y_573, y_574, y_575, y_576, y_577, y_578] ∧ Pt [T.P_SortedBlocks_layout] Z0 H (muX (muD st sc) (muT T.P_SortedBlocks_layout lq_SortedBlocks_layout)) Z' H' ((w_484.2.1, w_484.2.2).1, (w_484.2.1, w_484.2.2).2) ∧ Same Zb_525 Z' ∧ Own [T.P_SortedBlocks_layout] H (muX (muD st sc) (muT T.P_SortedBlocks_layout lq_SortedBlocks_layout)).fp Z' H' (yOpt (y_Val T)) p_459 w_484.1 ∧ Own [T.P_SortedBlocks_layout] H (muX (muD st sc) (muT T.P_SortedBlocks_layout lq_SortedBlocks_layout)).fp Z' H' (y_Record T) p_514 w_519 ∧ ((yList (yP2 K yStr (y_Val T)))).r Z' v_569 w_564, ?_, ?_⟩
      · refine st_if P (et_cmp (ev_notN (ev_ixL (ev_o o_527 rfl) (ev_var (τ := yInt) rfl hx_556) h_561) ev_non)) (fun b_562 Z1 H1 e P1 => ?_) (fun b_562 Z1 H1 e P1 => ?_)
        · replace P := P1
          replace hB_563 := ifT b_562 hB_563
          replace o_527 := o_527.next e
          replace o_530 := o_530.next e
          replace k_559 := ((yList (yP2 K yStr (y_Val T)))).mono e.z k_559
          replace zs_524 := zs_524.trans e.z
          refine st_norm (by dsimp only [List.set, L2.start, List.map, List.length, List.replicate, List.cons_append, List.nil_append, Nat.reduceSub, Nat.reduceAdd]) ?_
          obtain ⟨i_580, h_581, hB_563⟩ := bind_inv hB_563
          obtain ⟨u_582, h_583, hB_563⟩ := bind_inv hB_563
          obtain ⟨x_fields_584, h_585, hB_563⟩ := bind_inv hB_563
          replace h_585 := Option.some.inj h_585
          refine st_set P (ev_cast (ev_fz (en_listD (eva_conss (ev_p2 (K := K) (eva_cons ev_str (eva_cons (ev_uno (ev_ixL (ev_o o_527 rfl) (ev_var (τ := yInt) rfl hx_556) h_581) h_583) eva_nil))) (eva_nils (τ := (yP2 K yStr (y_Val T))))) (by show 1 ≤ sizeLine; decide))) h_585) (fun v_586 Z1 H1 e P1 k_587 => ?_)
          replace P := P1
          replace o_527 := o_527.next e
          replace o_530 := o_530.next e
          replace zs_524 := zs_524.trans e.z
          replace hB_563 := Option.some.inj hB_563
          subst hB_563
          exact ⟨_, _, _, _, _, _, _, _, _, _, _, _, rfl, P, zs_524, o_527, o_530, k_587⟩
        · replace P := P1
          replace hB_563 := ifF b_562 hB_563
          replace o_527 := o_527.next e
          replace o_530 := o_530.next e
          replace k_559 := ((yList (yP2 K yStr (y_Val T)))).mono e.z k_559
          replace zs_524 := zs_524.trans e.z
          replace hB_563 := Option.some.inj hB_563
          subst hB_563
          exact ⟨_, _, _, _, _, _, _, _, _, _, _, _, rfl, P, zs_524, o_527, o_530, k_559⟩
      rintro σ' H' ⟨Z1, y_565, y_567, v_569, y_571, y_572, y_573, y_574, y_575, y_576, y_577, y_578, rfl, P, zs_579, o_566, o_568, k_570⟩
      refine st_norm (by dsimp only [List.set, L2.start, List.map, List.length, List.replicate, List.cons_append, List.nil_append, Nat.reduceSub, Nat.reduceAdd]) ?_
      obtain ⟨g_588, hB_522⟩ := guard_inv hB_522
      obtain ⟨g_589, hB_522⟩ := guard_inv hB_522
      obtain ⟨g_590, hB_522⟩ := guard_inv hB_522
      refine st_append P o_568 rfl (ev_makeK (is_Record___init__ T) (eva_cons (ev_cat_str ev_str (ev_str_int (ev_var (τ := yInt) rfl hx_556) g_588) g_589) (eva_cons (ev_fz (en_listD (eva_conss ev_int (eva_nils (τ := yInt))) (by show 1 ≤ sizeLine; decide))) eva_nil)) (eva_cons (ev_var (τ := (yList (yP2 K yStr (y_Val T)))) rfl k_570) eva_nil) (fun Z H vs zs x hv hz => by
            obtain ⟨v0, _, rfl, hv0, ⟨v1, _, rfl, hv1, rfl⟩⟩ := hv
            obtain ⟨w0, _, rfl, hw0, rfl⟩ := hz
            exact ⟨rfl, rfl, _, rfl, ⟨v0, _, rfl, hv0, ⟨v1, _, rfl, hv1, ⟨w0, _, rfl, hw0, ⟨_, _, rfl, ⟨_, [], rfl, T.et_Record___init___words Z, .nil, Nat.zero_le _⟩, rfl⟩⟩⟩⟩⟩)) g_590 (fun Z1 H1 e P1 o_591 => ?_)
      replace P := P1
      replace o_566 := o_566.step e (fun h => (List.mem_cons.mp h).elim (fun z => ne_517 z) o_566.n)
      replace zs_579 := zs_579.trans e.z
      replace hB_522 := Option.some.inj hB_522
      subst hB_522
      exact ⟨_, zs_579, P.sub, (w_519 ++ [(F_Record___init__ (("r" : Str) ++ (strI x_520)) ([(0 : Int)] : List Int) w_564 [])]), _, _, _, _, _, _, _, _, _, _, _, _, rfl, P, o_566, o_591, hq_523⟩
    rintro σ' Z1 H1 _ _ ⟨w_540, y_526, y_528, y_529, y_531, y_532, y_533, y_534, y_535, y_536, y_537, y_538, y_539, rfl, P, o_542, o_545, hl⟩
    have hz := (forF_nil hl).symm
    subst hz
    refine st_nx ?_
    refine st_norm (by dsimp only [List.set, L2.start, List.map, List.length, List.replicate, List.cons_append, List.nil_append, Nat.reduceSub, Nat.reduceAdd]) ?_
    obtain ⟨i_594, h_595, hF⟩ := bind_inv hF
    refine st_seq (st_set P (ev_ixL (ev_li (ev_fz (en_listD (eva_conss ev_int (eva_conss ev_int (eva_conss ev_int (eva_conss ev_int (eva_conss ev_int (eva_conss (ev_neg ev_int) (eva_nils (τ := yInt)))))))) (by show 6 ≤ sizeLine; decide)))) (ev_call (cu__law_next T (s := ((w_484.2.1, w_484.2.2).1, (w_484.2.1, w_484.2.2).2)) (s2 := ((nxS ((w_484.2.1, w_484.2.2).1) (6 : Int)), (w_484.2.1, w_484.2.2).2)) (ds := ((w_484.2.1, w_484.2.2).1)) (fun Z H m => by
          obtain ⟨m0, m1, d1⟩ := m
          exact m0) (fun a hb => (List.mem_append_left _ hb)) (fun Z H Z' H' m e n => by
          obtain ⟨m0, m1, d1⟩ := m
          have n0 := n
          exact ⟨n0, (Mu.keep m1 e (fun a ha hb => (fun a ha hb => d1 a hb ha) a ha hb)), d1⟩) (by decide +kernel)) (eva_cons (ev_ref rfl) (eva_cons ev_int eva_nil))) h_595) (fun v_596 Z1 H1 e P1 k_597 => ?_))
    refine st_nx ?_
    replace P := P1
    replace o_542 := o_542.next e
    replace o_545 := o_545.next e
    refine st_norm (by dsimp only [List.set, L2.start, List.map, List.length, List.replicate, List.cons_append, List.nil_append, Nat.reduceSub, Nat.reduceAdd]) ?_
    obtain ⟨r_598, h_599, hF⟩ := bind_inv hF
    refine st_seq (st_set P (ev_call (cs_law_made T h_599) (eva_cons ev_bl (eva_cons (ev_var (τ := yInt) rfl k_597) eva_nil))) (fun v_600 Z1 H1 e P1 k_601 => ?_))
    refine st_nx ?_
    replace P := P1
    replace k_601 : ((yOpt (y_Lay T))).r Z1 v_600 r_598 := k_601
    replace o_542 := o_542.next e
    replace o_545 := o_545.next e
    refine st_norm (by dsimp only [List.set, L2.start, List.map, List.length, List.replicate, List.cons_append, List.nil_append, Nat.reduceSub, Nat.reduceAdd]) ?_
    obtain ⟨r_602, h_603, hF⟩ := bind_inv hF
    refine st_seq (st_set P (ev_call (cs_law_made T h_603) (eva_cons ev_bl (eva_cons (ev_var (τ := yInt) rfl k_597) eva_nil))) (fun v_604 Z1 H1 e P1 k_605 => ?_))
    refine st_nx ?_
    replace P := P1
    replace k_605 : ((yOpt (y_Lay T))).r Z1 v_604 r_602 := k_605
    replace o_542 := o_542.next e
    replace o_545 := o_545.next e
    replace k_601 := ((yOpt (y_Lay T))).mono e.z k_601
    refine st_norm (by dsimp only [List.set, L2.start, List.map, List.length, List.replicate, List.cons_append, List.nil_append, Nat.reduceSub, Nat.reduceAdd]) ?_
    refine st_seq (st_if P (et_cmp (ev_lt (ev_var (τ := yInt) rfl k_597) ev_int)) (fun b_606 Z1 H1 e P1 => ?_) (fun b_606 Z1 H1 e P1 => ?_))
    · replace P := P1
      have hB := ifT b_606 hF
      replace hF := hB
      clear hB
      replace k_601 := ((yOpt (y_Lay T))).mono e.z k_601
      replace k_605 := ((yOpt (y_Lay T))).mono e.z k_605
      refine st_norm (by dsimp only [List.set, L2.start, List.map, List.length, List.replicate, List.cons_append, List.nil_append, Nat.reduceSub, Nat.reduceAdd]) ?_
      have hb := Option.some.inj hF
      refine st_ret P (ev_and0 (ev_isN (ev_var (τ := (yOpt (y_Lay T))) rfl k_601) ev_non) (ev_isN (ev_var (τ := (yOpt (y_Lay T))) rfl k_605) ev_non)) (fun v Z H P hv => ?_)
      have hv2 : v = V.bl _ := hv
      rw [hb] at hv2
      rw [hv2]
      exact q _
    · replace P := P1
      have hB := ifF b_606 hF
      replace hF := hB
      clear hB
      refine st_next0 ?_
      replace o_542 := o_542.next e
      replace o_545 := o_545.next e
      replace k_601 := ((yOpt (y_Lay T))).mono e.z k_601
      replace k_605 := ((yOpt (y_Lay T))).mono e.z k_605
      refine st_norm (by dsimp only [List.set, L2.start, List.map, List.length, List.replicate, List.cons_append, List.nil_append, Nat.reduceSub, Nat.reduceAdd]) ?_
      obtain ⟨i_607, h_608, hF⟩ := bind_inv hF
      obtain ⟨r_609, h_610, hF⟩ := bind_inv hF
      refine st_seq (st_set P (ev_makeK (is_Schema___init__ T (val_inv h_610)) (eva_cons ev_int eva_nil) (eva_cons (ev_fz (en_listD (eva_conss (ev_p2 (K := K) (eva_cons ev_str (eva_cons (ev_ixL (ev_li (ev_fz (en_listD (eva_conss ev_str (eva_conss ev_str (eva_conss ev_str (eva_nils (τ := yStr))))) (by show 3 ≤ sizeLine; decide)))) (ev_var (τ := yInt) rfl k_458) h_608) eva_nil))) (eva_nils (τ := (yP2 K yStr yStr)))) (by show 1 ≤ sizeLine; decide))) eva_nil) (fun Z H vs zs x hv hz => by
            obtain ⟨v0, _, rfl, hv0, rfl⟩ := hv
            obtain ⟨w0, _, rfl, hw0, rfl⟩ := hz
            exact ⟨rfl, rfl, _, rfl, ⟨v0, _, rfl, hv0, ⟨_, _, rfl, ⟨rfl, by decide +kernel⟩, ⟨_, _, rfl, ⟨rfl, by decide +kernel⟩, ⟨w0, _, rfl, hw0, rfl⟩⟩⟩⟩⟩)) (fun v_611 Z1 H1 e P1 k_612 => ?_))
      refine st_nx ?_
      replace P := P1
      replace o_542 := o_542.next e
      replace o_545 := o_545.next e
      replace k_601 := ((yOpt (y_Lay T))).mono e.z k_601
      replace k_605 := ((yOpt (y_Lay T))).mono e.z k_605
      refine st_norm (by dsimp only [List.set, L2.start, List.map, List.length, List.replicate, List.cons_append, List.nil_append, Nat.reduceSub, Nat.reduceAdd]) ?_
      refine st_seq (st_set P (ev_fz (en_listD (eva_nils (τ := yInt)) (by show 0 ≤ sizeLine; decide))) (fun v_613 Z1 H1 e P1 k_614 => ?_))
      refine st_nx ?_
      replace P := P1
      replace o_542 := o_542.next e
      replace o_545 := o_545.next e
      replace k_601 := ((yOpt (y_Lay T))).mono e.z k_601
      replace k_605 := ((yOpt (y_Lay T))).mono e.z k_605
      replace k_612 := ((y_Schema T)).mono e.z k_612
      refine st_norm (by dsimp only [List.set, L2.start, List.map, List.length, List.replicate, List.cons_append, List.nil_append, Nat.reduceSub, Nat.reduceAdd]) ?_
      obtain ⟨g_615, hF⟩ := guard_inv hF
      obtain ⟨f_727, hL_728, hF⟩ := bind_inv hF
      refine st_seq (st_for (τ := yInt) (fun (r_618 : List Int) σ' Z' H' => ∃ w_616, ∃ (y_623 : Option V) (y_624 : Option V) (y_626 : Option V) (y_627 : Option V) (y_629 : Option V) (v_633 : V) (y_635 : Option V) (y_636 : Option V) (y_637 : Option V), σ' = [y_623, some (.ref st), y_624, some (.ref p_459), y_626, y_627, some (.ref p_514), y_629, some v_596, some v_600, some v_604, some v_611, some v_633, y_635, y_636, y_637] ∧ Pt [T.P_SortedBlocks_layout] Z0 H (muX (muD st sc) (muT T.P_SortedBlocks_layout lq_SortedBlocks_layout)) Z' H' ((nxS ((w_484.2.1, w_484.2.2).1) (6 : Int)), (w_484.2.1, w_484.2.2).2) ∧ Own [T.P_SortedBlocks_layout] H (muX (muD st sc) (muT T.P_SortedBlocks_layout lq_SortedBlocks_layout)).fp Z' H' (yOpt (y_Val T)) p_459 w_484.1 ∧ Own [T.P_SortedBlocks_layout] H (muX (muD st sc) (muT T.P_SortedBlocks_layout lq_SortedBlocks_layout)).fp Z' H' (y_Record T) p_514 w_540 ∧ ((yOpt (y_Lay T))).r Z' v_600 r_598 ∧ ((yOpt (y_Lay T))).r Z' v_604 r_602 ∧ ((y_Schema T)).r Z' v_611 r_609 ∧ ((yList yInt)).r Z' v_633 w_616 ∧ forF (L_law_3 w_484) r_618 w_616 = some f_727) P (ei_rng1 (ev_len (fun _ _ _ h => h) (ev_o o_542 rfl)) g_615) ?_ ?_ ?_)
      · rintro Z1 H1 e P1
        replace P := P1
        replace o_542 := o_542.next e
        replace o_545 := o_545.next e
        replace k_601 := ((yOpt (y_Lay T))).mono e.z k_601
        replace k_605 := ((yOpt (y_Lay T))).mono e.z k_605
        replace k_612 := ((y_Schema T)).mono e.z k_612
        replace k_614 := ((yList yInt)).mono e.z k_614
        exact ⟨([] : List Int), _, _, _, _, _, _, _, _, _, rfl, P, o_542, o_545, k_601, k_605, k_612, k_614, hL_728⟩
      · rintro Zb_622 Hb eb x_617 r_618 σ' v_654 Z1 H1 Z2 H2 zs_621 ⟨w_616, y_623, y_624, y_626, y_627, y_629, v_633, y_635, y_636, y_637, rfl, P, o_625, o_628, k_630, k_631, k_632, k_634, hq_620⟩ e hx_655
        replace P := P.item e
        replace o_625 := o_625.step e List.not_mem_nil
        replace o_628 := o_628.step e List.not_mem_nil
        replace k_630 := ((yOpt (y_Lay T))).mono e.z k_630
        replace k_631 := ((yOpt (y_Lay T))).mono e.z k_631
        replace k_632 := ((y_Schema T)).mono e.z k_632
        replace k_634 := ((yList yInt)).mono e.z k_634
        replace zs_621 := zs_621.trans e.z
        obtain ⟨u_656, hB_619, hq_620⟩ := bind_inv (forF_cons hq_620)
        unfold L_law_3 at hB_619
        refine tgt_name _ P.sub _ ?_
        refine st_norm (by dsimp only [List.set, L2.start, List.map, List.length, List.replicate, List.cons_append, List.nil_append, Nat.reduceSub, Nat.reduceAdd]) ?_
        obtain ⟨i_657, h_658, hB_619⟩ := bind_inv hB_619
        refine st_if P (et_cmp (ev_notN (ev_ixL (ev_o o_625 rfl) (ev_var (τ := yInt) rfl hx_655) h_658) ev_non)) (fun b_659 Z1 H1 e P1 => ?_) (fun b_659 Z1 H1 e P1 => ?_)
        · replace P := P1
          have hB := ifT b_659 hB_619
          replace hB_619 := hB
          clear hB
          replace o_625 := o_625.next e
          replace o_628 := o_628.next e
          replace k_630 := ((yOpt (y_Lay T))).mono e.z k_630
          replace k_631 := ((yOpt (y_Lay T))).mono e.z k_631
          replace k_632 := ((y_Schema T)).mono e.z k_632
          replace k_634 := ((yList yInt)).mono e.z k_634
          replace zs_621 := zs_621.trans e.z
          refine st_norm (by dsimp only [List.set, L2.start, List.map, List.length, List.replicate, List.cons_append, List.nil_append, Nat.reduceSub, Nat.reduceAdd]) ?_
          refine st_seq (st_set P ev_int (fun v_660 Z1 H1 e P1 k_661 => ?_))
          refine st_nx ?_
          replace P := P1
          replace o_625 := o_625.next e
          replace o_628 := o_628.next e
          replace k_630 := ((yOpt (y_Lay T))).mono e.z k_630
          replace k_631 := ((yOpt (y_Lay T))).mono e.z k_631
          replace k_632 := ((y_Schema T)).mono e.z k_632
          replace k_634 := ((yList yInt)).mono e.z k_634
          replace zs_621 := zs_621.trans e.z
          refine st_norm (by dsimp only [List.set, L2.start, List.map, List.length, List.replicate, List.cons_append, List.nil_append, Nat.reduceSub, Nat.reduceAdd]) ?_
          obtain ⟨g_662, hB_619⟩ := guard_inv hB_619
          obtain ⟨f_718, hL_719, hB_619⟩ := bind_inv hB_619
          refine st_seq (st_for (τ := yInt) (fun (r_665 : List Int) σ' Z' H' => ∃ w_663, ∃ (y_670 : Option V) (y_671 : Option V) (y_673 : Option V) (y_675 : Option V) (v_680 : V) (y_682 : Option V) (y_683 : Option V), σ' = [y_670, some (.ref st), y_671, some (.ref p_459), some v_654, y_673, some (.ref p_514), y_675, some v_596, some v_600, some v_604, some v_611, some v_633, some v_680, y_682, y_683] ∧ Pt [T.P_SortedBlocks_layout] Z0 H (muX (muD st sc) (muT T.P_SortedBlocks_layout lq_SortedBlocks_layout)) Z' H' (((nxS ((w_484.2.1, w_484.2.2).1) (6 : Int)), (w_484.2.1, w_484.2.2).2).1, ((nxS ((w_484.2.1, w_484.2.2).1) (6 : Int)), (w_484.2.1, w_484.2.2).2).2) ∧ Same Zb_622 Z' ∧ Own [T.P_SortedBlocks_layout] H (muX (muD st sc) (muT T.P_SortedBlocks_layout lq_SortedBlocks_layout)).fp Z' H' (yOpt (y_Val T)) p_459 w_484.1 ∧ Own [T.P_SortedBlocks_layout] H (muX (muD st sc) (muT T.P_SortedBlocks_layout lq_SortedBlocks_layout)).fp Z' H' (y_Record T) p_514 w_540 ∧ ((yOpt (y_Lay T))).r Z' v_600 r_598 ∧ ((yOpt (y_Lay T))).r Z' v_604 r_602 ∧ ((y_Schema T)).r Z' v_611 r_609 ∧ ((yList yInt)).r Z' v_633 w_616 ∧ (yInt).r Z' v_680 w_663 ∧ forF (L_law_4 w_484 w_616 x_617) r_665 w_663 = some f_718) P (ei_rng1 (ev_len (fun _ _ _ h => h) (ev_li (ev_var (τ := (yList yInt)) rfl k_634))) g_662) ?_ ?_ ?_)
          · rintro Z1 H1 e P1
            replace P := P1
            replace o_625 := o_625.next e
            replace o_628 := o_628.next e
            replace k_630 := ((yOpt (y_Lay T))).mono e.z k_630
            replace k_631 := ((yOpt (y_Lay T))).mono e.z k_631
            replace k_632 := ((y_Schema T)).mono e.z k_632
            replace k_634 := ((yList yInt)).mono e.z k_634
            replace zs_621 := zs_621.trans e.z
            exact ⟨(0 : Int), _, _, _, _, _, _, _, rfl, P, zs_621, o_625, o_628, k_630, k_631, k_632, k_634, k_661, hL_719⟩
          · rintro Zb_669 Hb eb x_664 r_665 σ' v_701 Z1 H1 Z2 H2 zs_668 ⟨w_663, y_670, y_671, y_673, y_675, v_680, y_682, y_683, rfl, P, zs_684, o_672, o_674, k_676, k_677, k_678, k_679, k_681, hq_667⟩ e hx_702
            replace P := P.item e
            replace o_672 := o_672.step e List.not_mem_nil
            replace o_674 := o_674.step e List.not_mem_nil
            replace k_676 := ((yOpt (y_Lay T))).mono e.z k_676
            replace k_677 := ((yOpt (y_Lay T))).mono e.z k_677
            replace k_678 := ((y_Schema T)).mono e.z k_678
            replace k_679 := ((yList yInt)).mono e.z k_679
            replace zs_684 := zs_684.trans e.z
            replace zs_668 := zs_668.trans e.z
            obtain ⟨u_703, hB_666, hq_667⟩ := bind_inv (forF_cons hq_667)
            unfold L_law_4 at hB_666
            refine tgt_name _ P.sub _ ?_
            refine st_norm (by dsimp only [List.set, L2.start, List.map, List.length, List.replicate, List.cons_append, List.nil_append, Nat.reduceSub, Nat.reduceAdd]) ?_
            obtain ⟨i_704, h_705, hB_666⟩ := bind_inv hB_666
            obtain ⟨u_706, h_707, hB_666⟩ := bind_inv hB_666
            obtain ⟨i_708, h_709, hB_666⟩ := bind_inv hB_666
            obtain ⟨i_710, h_711, hB_666⟩ := bind_inv hB_666
            obtain ⟨u_712, h_713, hB_666⟩ := bind_inv hB_666
            obtain ⟨g_714, hB_666⟩ := guard_inv hB_666
            refine st_if P (et_not (et_cmp (ev_cmpV (tv_Val T) (sameB_of g_714) (ev_uno (ev_ixL (ev_o o_672 rfl) (ev_var (τ := yInt) rfl hx_655) h_705) h_707) (ev_uno (ev_ixL (ev_o o_672 rfl) (ev_ixL (ev_li (ev_var (τ := (yList yInt)) rfl k_679)) (ev_var (τ := yInt) rfl hx_702) h_709) h_711) h_713)))) (fun b_715 Z1 H1 e P1 => ?_) (fun b_715 Z1 H1 e P1 => ?_)
            · replace P := P1
              have hB := ifT b_715 hB_666
              replace hB_666 := hB
              clear hB
              replace o_672 := o_672.next e
              replace o_674 := o_674.next e
              replace k_676 := ((yOpt (y_Lay T))).mono e.z k_676
              replace k_677 := ((yOpt (y_Lay T))).mono e.z k_677
              replace k_678 := ((y_Schema T)).mono e.z k_678
              replace k_679 := ((yList yInt)).mono e.z k_679
              replace zs_684 := zs_684.trans e.z
              replace zs_668 := zs_668.trans e.z
              refine st_norm (by dsimp only [List.set, L2.start, List.map, List.length, List.replicate, List.cons_append, List.nil_append, Nat.reduceSub, Nat.reduceAdd]) ?_
              refine st_set P (ev_add (ev_var (τ := yInt) rfl hx_702) ev_int) (fun v_716 Z1 H1 e P1 k_717 => ?_)
              replace P := P1
              replace o_672 := o_672.next e
              replace o_674 := o_674.next e
              replace k_676 := ((yOpt (y_Lay T))).mono e.z k_676
              replace k_677 := ((yOpt (y_Lay T))).mono e.z k_677
              replace k_678 := ((y_Schema T)).mono e.z k_678
              replace k_679 := ((yList yInt)).mono e.z k_679
              replace zs_684 := zs_684.trans e.z
              replace zs_668 := zs_668.trans e.z
              replace hB_666 := Option.some.inj hB_666
              subst hB_666
              exact ⟨_, zs_668, P.sub, (x_664 + (1 : Int)), _, _, _, _, _, _, _, rfl, P, zs_684, o_672, o_674, k_676, k_677, k_678, k_679, k_717, hq_667⟩
            · replace P := P1
              have hB := ifF b_715 hB_666
              replace hB_666 := hB
              clear hB
              refine st_next ?_
              replace o_672 := o_672.next e
              replace o_674 := o_674.next e
              replace k_676 := ((yOpt (y_Lay T))).mono e.z k_676
              replace k_677 := ((yOpt (y_Lay T))).mono e.z k_677
              replace k_678 := ((y_Schema T)).mono e.z k_678
              replace k_679 := ((yList yInt)).mono e.z k_679
              replace zs_684 := zs_684.trans e.z
              replace zs_668 := zs_668.trans e.z
              replace hB_666 := Option.some.inj hB_666
              subst hB_666
              exact ⟨_, zs_668, P.sub, w_663, _, _, _, _, _, _, _, rfl, P, zs_684, o_672, o_674, k_676, k_677, k_678, k_679, k_681, hq_667⟩
          rintro σ' Z1 H1 _ _ ⟨w_685, y_670, y_671, y_673, y_675, v_696, y_682, y_683, rfl, P, zs_700, o_688, o_690, k_692, k_693, k_694, k_695, k_697, hl⟩
          have hz := (forF_nil hl).symm
          subst hz
          refine st_nx ?_
          refine st_norm (by dsimp only [List.set, L2.start, List.map, List.length, List.replicate, List.cons_append, List.nil_append, Nat.reduceSub, Nat.reduceAdd]) ?_
          obtain ⟨g_721, hB_619⟩ := guard_inv hB_619
          obtain ⟨g_722, hB_619⟩ := guard_inv hB_619
          obtain ⟨x_present_723, h_724, hB_619⟩ := bind_inv hB_619
          replace h_724 := Option.some.inj h_724
          refine st_set P (ev_cast (ev_fz (en_cat (ev_li (ev_fz (en_cat (ev_li (ev_fz (en_slL (ev_li (ev_var (τ := (yList yInt)) rfl k_695)) eo_none (eo_some (ev_var (τ := yInt) rfl k_697))))) (ev_li (ev_fz (en_listD (eva_conss (ev_var (τ := yInt) rfl hx_655) (eva_nils (τ := yInt))) (by show 1 ≤ sizeLine; decide)))) g_721))) (ev_li (ev_fz (en_slL (ev_li (ev_var (τ := (yList yInt)) rfl k_695)) (eo_some (ev_var (τ := yInt) rfl k_697)) eo_none))) g_722)) h_724) (fun v_725 Z1 H1 e P1 k_726 => ?_)
          replace P := P1
          replace o_688 := o_688.next e
          replace o_690 := o_690.next e
          replace k_692 := ((yOpt (y_Lay T))).mono e.z k_692
          replace k_693 := ((yOpt (y_Lay T))).mono e.z k_693
          replace k_694 := ((y_Schema T)).mono e.z k_694
          replace zs_700 := zs_700.trans e.z
          replace hB_619 := Option.some.inj hB_619
          subst hB_619
          exact ⟨_, zs_700, P.sub, x_present_723, _, _, _, _, _, _, _, _, _, rfl, P, o_688, o_690, k_692, k_693, k_694, k_726, hq_620⟩
        · replace P := P1
          have hB := ifF b_659 hB_619
          replace hB_619 := hB
          clear hB
          refine st_next ?_
          replace o_625 := o_625.next e
          replace o_628 := o_628.next e
          replace k_630 := ((yOpt (y_Lay T))).mono e.z k_630
          replace k_631 := ((yOpt (y_Lay T))).mono e.z k_631
          replace k_632 := ((y_Schema T)).mono e.z k_632
          replace k_634 := ((yList yInt)).mono e.z k_634
          replace zs_621 := zs_621.trans e.z
          replace hB_619 := Option.some.inj hB_619
          subst hB_619
          exact ⟨_, zs_621, P.sub, w_616, _, _, _, _, _, _, _, _, _, rfl, P, o_625, o_628, k_630, k_631, k_632, k_634, hq_620⟩
      rintro σ' Z1 H1 _ _ ⟨w_638, y_623, y_624, y_626, y_627, y_629, v_649, y_635, y_636, y_637, rfl, P, o_641, o_644, k_646, k_647, k_648, k_650, hl⟩
      have hz := (forF_nil hl).symm
      subst hz
      refine st_nx ?_
      refine st_norm (by dsimp only [List.set, L2.start, List.map, List.length, List.replicate, List.cons_append, List.nil_append, Nat.reduceSub, Nat.reduceAdd]) ?_
      obtain ⟨g_729, hF⟩ := guard_inv hF
      obtain ⟨l_736, h_737, hF⟩ := bind_inv hF
      obtain ⟨g_738, hF⟩ := guard_inv hF
      refine st_seq (st_set P (ev_fz (en_cat (ev_li (ev_var (τ := (yList yInt)) rfl k_650)) (ev_li (ev_fz (en_fmO (υ := yInt) (fun (x_730 : Int) => ((atI w_484.1 x_730).bind fun i_734 =>
      if i_734.isNone = true then (some (some x_730)) else some none : Option (Option Int))) (ei_rng1 (ev_len (fun _ _ _ h => h) (ev_o o_641 rfl)) g_729) (fun x_730 v_732 Z' H' p zz hh rx_733 hp => by
            have hy := hp
            obtain ⟨i_734, h_735, hy⟩ := bind_inv hy
            cases hb : i_734.isNone
            · have hy := ifF hb hy
              have hy := Option.some.inj hy
              subst hy
              exact ⟨_, tgt_name, (wpe_s wpe_z (by decide)), false, hb ▸ (et_cmp (ev_isN (ev_ixL (ev_oX o_641 zz hh rfl) (ev_var (τ := yInt) rfl rx_733) h_735) ev_non)), (fun z => nomatch z), fun _ => rfl⟩
            · have hy := ifT hb hy
              have hy := Option.some.inj hy
              subst hy
              exact ⟨_, tgt_name, (wpe_s wpe_z (by decide)), true, hb ▸ (et_cmp (ev_isN (ev_ixL (ev_oX o_641 zz hh rfl) (ev_var (τ := yInt) rfl rx_733) h_735) ev_non)), fun _ => ⟨_, rfl, (ev_var (τ := yInt) rfl rx_733)⟩, fun z => nomatch z⟩) h_737))) g_738)) (fun v_739 Z1 H1 e P1 k_740 => ?_))
      refine st_nx ?_
      replace P := P1
      replace o_644 := o_644.next e
      replace k_646 := ((yOpt (y_Lay T))).mono e.z k_646
      replace k_647 := ((yOpt (y_Lay T))).mono e.z k_647
      replace k_648 := ((y_Schema T)).mono e.z k_648
      refine st_norm (by dsimp only [List.set, L2.start, List.map, List.length, List.replicate, List.cons_append, List.nil_append, Nat.reduceSub, Nat.reduceAdd]) ?_
      obtain ⟨u_741, h_742, hF⟩ := bind_inv hF
      obtain ⟨u_743, h_744, hF⟩ := bind_inv hF
      obtain ⟨r_745, h_746, hF⟩ := bind_inv hF
      obtain ⟨r_747, h_748, hF⟩ := bind_inv hF
      obtain ⟨g_749, hF⟩ := guard_inv hF
      obtain ⟨r_750, h_751, hF⟩ := bind_inv hF
      refine st_seq (st_if P (et_cmp (ev_neD (eqd_p2 (eqd_list (eqd_p3 (eqd_opt eqd_int (fun _ z => nomatch z)) (eqd_list (eqd_p2 eqd_int (eqd_list eqd_int))) (eqd_list (eqd_p2 (eqd_list eqd_int) (eqd_list eqd_int))))) (eqd_list eqd_int)) (by decide) (ev_call (cs_law_shown T h_748) (eva_cons (ev_meth (oo_Blocks T (by decide +kernel)) (cu_Blocks_layout T (s := (((nxS ((w_484.2.1, w_484.2.2).1) (6 : Int)), (w_484.2.1, w_484.2.2).2).1, ((nxS ((w_484.2.1, w_484.2.2).1) (6 : Int)), (w_484.2.1, w_484.2.2).2).2)) (s2 := (((nxS ((w_484.2.1, w_484.2.2).1) (6 : Int)), (w_484.2.1, w_484.2.2).2).1, ((nxS ((w_484.2.1, w_484.2.2).1) (6 : Int)), (w_484.2.1, w_484.2.2).2).2)) (fun Z H m => by
            obtain ⟨m0, m1, d1⟩ := m
            exact m1) (fun a hb => (List.mem_append_right _ hb)) (fun Z H Z' H' m e n => by
            obtain ⟨m0, m1, d1⟩ := m
            have n0 := n
            exact ⟨(Mu.keep m0 e (fun a ha hb => (fun a ha => d1 a ha) a ha hb)), n0, d1⟩) h_746) (pj_Lay_p T (ev_uno (ev_var (τ := (yOpt (y_Lay T))) rfl k_646) h_742) h_744) (eva_cons (ev_var (τ := (y_Schema T)) rfl k_648) (eva_cons (ev_fz (en_list_of (fun _ _ _ h => h) (ev_o o_644 rfl))) eva_nil))) eva_nil)) (ev_call (cs_law_due T h_751) (eva_cons (ev_fz (en_lrg1 (ev_len (fun _ _ _ h => h) (ev_o o_644 rfl)) g_749)) (eva_cons (ev_var (τ := yInt) rfl k_597) eva_nil))))) (fun b_752 Z1 H1 e P1 => ?_) (fun b_752 Z1 H1 e P1 => ?_))
      · replace P := P1
        have hB := ifT b_752 hF
        replace hF := hB
        clear hB
        refine st_norm (by dsimp only [List.set, L2.start, List.map, List.length, List.replicate, List.cons_append, List.nil_append, Nat.reduceSub, Nat.reduceAdd]) ?_
        have hb := Option.some.inj hF
        refine st_ret P ev_bl (fun v Z H P hv => ?_)
        have hv2 : v = V.bl _ := hv
        rw [hb] at hv2
        rw [hv2]
        exact q _
      · replace P := P1
        have hB := ifF b_752 hF
        replace hF := hB
        clear hB
        refine st_next0 ?_
        replace o_644 := o_644.next e
        replace k_647 := ((yOpt (y_Lay T))).mono e.z k_647
        replace k_648 := ((y_Schema T)).mono e.z k_648
        replace k_740 := ((yList yInt)).mono e.z k_740
        refine st_norm (by dsimp only [List.set, L2.start, List.map, List.length, List.replicate, List.cons_append, List.nil_append, Nat.reduceSub, Nat.reduceAdd]) ?_
        obtain ⟨u_753, h_754, hF⟩ := bind_inv hF
        obtain ⟨u_755, h_756, hF⟩ := bind_inv hF
        obtain ⟨r_757, h_758, hF⟩ := bind_inv hF
        obtain ⟨r_759, h_760, hF⟩ := bind_inv hF
        obtain ⟨r_761, h_762, hF⟩ := bind_inv hF
        refine st_seq (st_if P (et_cmp (ev_neD (eqd_p2 (eqd_list (eqd_p3 (eqd_opt eqd_int (fun _ z => nomatch z)) (eqd_list (eqd_p2 eqd_int (eqd_list eqd_int))) (eqd_list (eqd_p2 (eqd_list eqd_int) (eqd_list eqd_int))))) (eqd_list eqd_int)) (by decide) (ev_call (cs_law_shown T h_760) (eva_cons (ev_meth (oo_SortedBlocks T (by decide +kernel)) (cu_SortedBlocks_layout T (s := (((nxS ((w_484.2.1, w_484.2.2).1) (6 : Int)), (w_484.2.1, w_484.2.2).2).1, ((nxS ((w_484.2.1, w_484.2.2).1) (6 : Int)), (w_484.2.1, w_484.2.2).2).2)) (s2 := (((nxS ((w_484.2.1, w_484.2.2).1) (6 : Int)), (w_484.2.1, w_484.2.2).2).1, ((nxS ((w_484.2.1, w_484.2.2).1) (6 : Int)), (w_484.2.1, w_484.2.2).2).2)) (fun Z H m => by
              obtain ⟨m0, m1, d1⟩ := m
              exact m1) (fun a hb => (List.mem_append_right _ hb)) (fun Z H Z' H' m e n => by
              obtain ⟨m0, m1, d1⟩ := m
              have n0 := n
              exact ⟨(Mu.keep m0 e (fun a ha hb => (fun a ha => d1 a ha) a ha hb)), n0, d1⟩) h_758) (pj_Lay_s T (ev_uno (ev_var (τ := (yOpt (y_Lay T))) rfl k_647) h_754) h_756) (eva_cons (ev_var (τ := (y_Schema T)) rfl k_648) (eva_cons (ev_fz (en_list_of (fun _ _ _ h => h) (ev_o o_644 rfl))) eva_nil))) eva_nil)) (ev_call (cs_law_due T h_762) (eva_cons (ev_var (τ := (yList yInt)) rfl k_740) (eva_cons (ev_var (τ := yInt) rfl k_597) eva_nil))))) (fun b_763 Z1 H1 e P1 => ?_) (fun b_763 Z1 H1 e P1 => ?_))
        · replace P := P1
          have hB := ifT b_763 hF
          replace hF := hB
          clear hB
          refine st_norm (by dsimp only [List.set, L2.start, List.map, List.length, List.replicate, List.cons_append, List.nil_append, Nat.reduceSub, Nat.reduceAdd]) ?_
          have hb := Option.some.inj hF
          refine st_ret P ev_bl (fun v Z H P hv => ?_)
          have hv2 : v = V.bl _ := hv
          rw [hb] at hv2
          rw [hv2]
          exact q _
        · replace P := P1
          have hB := ifF b_763 hF
          replace hF := hB
          clear hB
          refine st_next0 ?_
          replace k_740 := ((yList yInt)).mono e.z k_740
          refine st_norm (by dsimp only [List.set, L2.start, List.map, List.length, List.replicate, List.cons_append, List.nil_append, Nat.reduceSub, Nat.reduceAdd]) ?_
          obtain ⟨r_764, h_765, hF⟩ := bind_inv hF
          obtain ⟨r_766, h_767, hF⟩ := bind_inv hF
          obtain ⟨r_768, h_769, hF⟩ := bind_inv hF
          have hb := Option.some.inj hF
          refine st_ret P (ev_eqD (eqd_p2 (eqd_list (eqd_p3 (eqd_opt eqd_int (fun _ z => nomatch z)) (eqd_list (eqd_p2 eqd_int (eqd_list eqd_int))) (eqd_list (eqd_p2 (eqd_list eqd_int) (eqd_list eqd_int))))) (eqd_list eqd_int)) (by decide) (ev_call (cs_law_shown T h_767) (eva_cons (ev_call (cs_block_layout T h_765) (eva_cons (ev_fz (en_list_of (fun _ _ _ h => h) (ev_li (ev_var (τ := (yList yInt)) rfl k_740)))) (eva_cons (ev_var (τ := yInt) rfl k_597) eva_nil))) eva_nil)) (ev_call (cs_law_due T h_769) (eva_cons (ev_var (τ := (yList yInt)) rfl k_740) (eva_cons (ev_var (τ := yInt) rfl k_597) eva_nil)))) (fun v Z H P hv => ?_)
          have hv2 : v = V.bl _ := hv
          rw [hb] at hv2
          rw [hv2]
          exact q _
end
set_option maxRecDepth 100000 in
set_option maxHeartbeats 0 in
theorem all_mk {l : PySem.W.OpenLaw} {w : World} {K : PySem.W.Frag} {h : Heap} {mg : Str → Option Value} {fa f0 f1 f2 f3 f4 f5 f6 f7 f8 f9 f10 f11 f12 f13 f14 f15 f16 f17 f18 f19 f20 f21 : Addr} (X : K.In h) (G : h.Ns mainGlobals mg) (hfa : mg "law" = some (.ref fa))
    {od0 an0 od1 an1 od2 an2 od3 an3 od4 an4 od5 an5 od6 an6 od7 an7 od8 an8 od9 an9 od10 an10 od11 an11 od12 an12 od13 an13 od14 an14 od15 an15 od16 an16 od17 an17 od18 an18 od19 an19 od20 an20 od21 an21 : Option Addr} {sl0 sl1 sl2 sl3 sl4 sl5 sl6 sl7 sl8 sl9 sl10 sl11 sl12 sl13 sl14 sl15 sl16 sl17 sl18 sl19 sl20 sl21 : Array (Option Value)} {oc0 kV0 dc0 pm0 cd0 ct0 oc1 kV1 dc1 pm1 cd1 ct1 oc2 kV2 dc2 pm2 cd2 ct2 oc3 kV3 dc3 pm3 cd3 ct3 oc4 kV4 dc4 pm4 cd4 ct4 oc5 kV5 dc5 pm5 cd5 ct5 oc6 kV6 dc6 pm6 cd6 ct6 oc7 kV7 dc7 pm7 cd7 ct7 oc8 kV8 dc8 pm8 cd8 ct8 oc9 kV9 dc9 pm9 cd9 ct9 oc10 kV10 dc10 pm10 cd10 ct10 oc11 dc11 pm11 cd11 ct11 oc12 kV12 dc12 pm12 cd12 ct12 oc13 kV13 dc13 pm13 cd13 ct13 oc14 dc14 pm14 cd14 ct14 oc15 kV15 dc15 pm15 cd15 ct15 oc16 dc16 pm16 cd16 ct16 oc17 kV17 dc17 pm17 cd17 ct17 oc18 kV18 dc18 pm18 cd18 ct18 oc19 kV19 dc19 pm19 cd19 ct19 oc20 kV20 dc20 pm20 cd20 ct20 oc21 kV21 dc21 pm21 cd21 ct21 : Value}
    {C_Record C_Sketch C_Layout C_Blocks C_SortedBlocks C_Schema : Addr}
    (a0 : PySem.W.nsIn K mainGlobals "_law_row" = some (some (.ref f0))) (l0 : K.lookup f0 = some ⟨oc0, od0, .func (PySem.W.fnOf "_law_row" "_law_row" (defArgs s_law_row) (defBody s_law_row) (defScope s_law_row) .none kV0 dc0 pm0 an0 cd0 ct0), sl0⟩) (c0 : PySem.W.codeIn K cd0 "_law_row" = true) (k0 : PySem.W.keepIn K (.ref f0) = true)
    (a1 : PySem.W.nsIn K mainGlobals "_law_next" = some (some (.ref f1))) (l1 : K.lookup f1 = some ⟨oc1, od1, .func (PySem.W.fnOf "_law_next" "_law_next" (defArgs s_law_next) (defBody s_law_next) (defScope s_law_next) .none kV1 dc1 pm1 an1 cd1 ct1), sl1⟩) (c1 : PySem.W.codeIn K cd1 "_law_next" = true) (k1 : PySem.W.keepIn K (.ref f1) = true)
    (a2 : PySem.W.nsIn K mainGlobals "check_least" = some (some (.ref f2))) (l2 : K.lookup f2 = some ⟨oc2, od2, .func (PySem.W.fnOf "check_least" "check_least" (defArgs s_check_least) (defBody s_check_least) (defScope s_check_least) .none kV2 dc2 pm2 an2 cd2 ct2), sl2⟩) (c2 : PySem.W.codeIn K cd2 "check_least" = true) (k2 : PySem.W.keepIn K (.ref f2) = true)
    (l3 : K.lookup f3 = some ⟨oc3, od3, .func (PySem.W.fnOf "__init__" "Blocks.__init__" (defArgs s_Blocks___init__) (defBody s_Blocks___init__) (defScope s_Blocks___init__) .none kV3 dc3 pm3 an3 cd3 ct3), sl3⟩) (c3 : PySem.W.codeIn K cd3 "Blocks.__init__" = true) (k3 : PySem.W.keepIn K (.ref f3) = true)
    (l4 : K.lookup f4 = some ⟨oc4, od4, .func (PySem.W.fnOf "__init__" "SortedBlocks.__init__" (defArgs s_SortedBlocks___init__) (defBody s_SortedBlocks___init__) (defScope s_SortedBlocks___init__) .none kV4 dc4 pm4 an4 cd4 ct4), sl4⟩) (c4 : PySem.W.codeIn K cd4 "SortedBlocks.__init__" = true) (k4 : PySem.W.keepIn K (.ref f4) = true)
    (a5 : PySem.W.nsIn K mainGlobals "_law_made" = some (some (.ref f5))) (l5 : K.lookup f5 = some ⟨oc5, od5, .func (PySem.W.fnOf "_law_made" "_law_made" (defArgs s_law_made) (defBody s_law_made) (defScope s_law_made) .none kV5 dc5 pm5 an5 cd5 ct5), sl5⟩) (c5 : PySem.W.codeIn K cd5 "_law_made" = true) (k5 : PySem.W.keepIn K (.ref f5) = true)
    (a6 : PySem.W.nsIn K mainGlobals "is_letter" = some (some (.ref f6))) (l6 : K.lookup f6 = some ⟨oc6, od6, .func (PySem.W.fnOf "is_letter" "is_letter" (defArgs s_is_letter) (defBody s_is_letter) (defScope s_is_letter) .none kV6 dc6 pm6 an6 cd6 ct6), sl6⟩) (c6 : PySem.W.codeIn K cd6 "is_letter" = true) (k6 : PySem.W.keepIn K (.ref f6) = true)
    (a7 : PySem.W.nsIn K mainGlobals "is_digit" = some (some (.ref f7))) (l7 : K.lookup f7 = some ⟨oc7, od7, .func (PySem.W.fnOf "is_digit" "is_digit" (defArgs s_is_digit) (defBody s_is_digit) (defScope s_is_digit) .none kV7 dc7 pm7 an7 cd7 ct7), sl7⟩) (c7 : PySem.W.codeIn K cd7 "is_digit" = true) (k7 : PySem.W.keepIn K (.ref f7) = true)
    (a8 : PySem.W.nsIn K mainGlobals "is_word" = some (some (.ref f8))) (l8 : K.lookup f8 = some ⟨oc8, od8, .func (PySem.W.fnOf "is_word" "is_word" (defArgs s_is_word) (defBody s_is_word) (defScope s_is_word) .none kV8 dc8 pm8 an8 cd8 ct8), sl8⟩) (c8 : PySem.W.codeIn K cd8 "is_word" = true) (k8 : PySem.W.keepIn K (.ref f8) = true)
    (a9 : PySem.W.nsIn K mainGlobals "check_vectors" = some (some (.ref f9))) (l9 : K.lookup f9 = some ⟨oc9, od9, .func (PySem.W.fnOf "check_vectors" "check_vectors" (defArgs s_check_vectors) (defBody s_check_vectors) (defScope s_check_vectors) .none kV9 dc9 pm9 an9 cd9 ct9), sl9⟩) (c9 : PySem.W.codeIn K cd9 "check_vectors" = true) (k9 : PySem.W.keepIn K (.ref f9) = true)
    (a10 : PySem.W.nsIn K mainGlobals "check_fields" = some (some (.ref f10))) (l10 : K.lookup f10 = some ⟨oc10, od10, .func (PySem.W.fnOf "check_fields" "check_fields" (defArgs s_check_fields) (defBody s_check_fields) (defScope s_check_fields) .none kV10 dc10 pm10 an10 cd10 ct10), sl10⟩) (c10 : PySem.W.codeIn K cd10 "check_fields" = true) (k10 : PySem.W.keepIn K (.ref f10) = true)
    {DK11 : Addr} (l11 : K.lookup f11 = some ⟨oc11, od11, .func (PySem.W.fnOf "__init__" "Schema.__init__" (defArgs s_Schema___init__) (defBody s_Schema___init__) (defScope s_Schema___init__) .none (.ref DK11) dc11 pm11 an11 cd11 ct11), sl11⟩) (c11 : PySem.W.codeIn K cd11 "Schema.__init__" = true) (k11 : PySem.W.keepIn K (.ref f11) = true)
    {tq11_width : Tok} (n11_width : PySem.W.nsIn K DK11 "width" = some (some (.str "small" tq11_width)))
    {tq11_measure : Tok} (n11_measure : PySem.W.nsIn K DK11 "measure" = some (some (.str "square" tq11_measure)))
    {E11_fields : Addr} {eo11_fields : Option Addr} {en11_fields : Nat} {es11_fields : Array (Option Value)} (n11_fields : PySem.W.nsIn K DK11 "fields" = some (some (.ref E11_fields))) (t11_fields : K.lookup E11_fields = some ⟨.type "tuple", eo11_fields, .seq #[] en11_fields, es11_fields⟩)
    (a12 : PySem.W.nsIn K mainGlobals "_law_shown" = some (some (.ref f12))) (l12 : K.lookup f12 = some ⟨oc12, od12, .func (PySem.W.fnOf "_law_shown" "_law_shown" (defArgs s_law_shown) (defBody s_law_shown) (defScope s_law_shown) .none kV12 dc12 pm12 an12 cd12 ct12), sl12⟩) (c12 : PySem.W.codeIn K cd12 "_law_shown" = true) (k12 : PySem.W.keepIn K (.ref f12) = true)
    (a13 : PySem.W.nsIn K mainGlobals "_law_due" = some (some (.ref f13))) (l13 : K.lookup f13 = some ⟨oc13, od13, .func (PySem.W.fnOf "_law_due" "_law_due" (defArgs s_law_due) (defBody s_law_due) (defScope s_law_due) .none kV13 dc13 pm13 an13 cd13 ct13), sl13⟩) (c13 : PySem.W.codeIn K cd13 "_law_due" = true) (k13 : PySem.W.keepIn K (.ref f13) = true)
    {DK14 : Addr} (l14 : K.lookup f14 = some ⟨oc14, od14, .func (PySem.W.fnOf "__init__" "Record.__init__" (defArgs s_Record___init__) (defBody s_Record___init__) (defScope s_Record___init__) .none (.ref DK14) dc14 pm14 an14 cd14 ct14), sl14⟩) (c14 : PySem.W.codeIn K cd14 "Record.__init__" = true) (k14 : PySem.W.keepIn K (.ref f14) = true)
    {E14_fields : Addr} {eo14_fields : Option Addr} {en14_fields : Nat} {es14_fields : Array (Option Value)} (n14_fields : PySem.W.nsIn K DK14 "fields" = some (some (.ref E14_fields))) (t14_fields : K.lookup E14_fields = some ⟨.type "tuple", eo14_fields, .seq #[] en14_fields, es14_fields⟩)
    {E14_words : Addr} {eo14_words : Option Addr} {en14_words : Nat} {es14_words : Array (Option Value)} (n14_words : PySem.W.nsIn K DK14 "words" = some (some (.ref E14_words))) (t14_words : K.lookup E14_words = some ⟨.type "tuple", eo14_words, .seq #[] en14_words, es14_words⟩)
    (l15 : K.lookup f15 = some ⟨oc15, od15, .func (PySem.W.fnOf "__init__" "Layout.__init__" (defArgs s_Layout___init__) (defBody s_Layout___init__) (defScope s_Layout___init__) .none kV15 dc15 pm15 an15 cd15 ct15), sl15⟩) (c15 : PySem.W.codeIn K cd15 "Layout.__init__" = true) (k15 : PySem.W.keepIn K (.ref f15) = true)
    {DK16 : Addr} (l16 : K.lookup f16 = some ⟨oc16, od16, .func (PySem.W.fnOf "__init__" "Sketch.__init__" (defArgs s_Sketch___init__) (defBody s_Sketch___init__) (defScope s_Sketch___init__) .none (.ref DK16) dc16 pm16 an16 cd16 ct16), sl16⟩) (c16 : PySem.W.codeIn K cd16 "Sketch.__init__" = true) (k16 : PySem.W.keepIn K (.ref f16) = true)
    {E16_centres : Addr} {eo16_centres : Option Addr} {en16_centres : Nat} {es16_centres : Array (Option Value)} (n16_centres : PySem.W.nsIn K DK16 "centres" = some (some (.ref E16_centres))) (t16_centres : K.lookup E16_centres = some ⟨.type "tuple", eo16_centres, .seq #[] en16_centres, es16_centres⟩)
    {E16_cells : Addr} {eo16_cells : Option Addr} {en16_cells : Nat} {es16_cells : Array (Option Value)} (n16_cells : PySem.W.nsIn K DK16 "cells" = some (some (.ref E16_cells))) (t16_cells : K.lookup E16_cells = some ⟨.type "tuple", eo16_cells, .seq #[] en16_cells, es16_cells⟩)
    (a17 : PySem.W.nsIn K mainGlobals "block_layout" = some (some (.ref f17))) (l17 : K.lookup f17 = some ⟨oc17, od17, .func (PySem.W.fnOf "block_layout" "block_layout" (defArgs s_block_layout) (defBody s_block_layout) (defScope s_block_layout) .none kV17 dc17 pm17 an17 cd17 ct17), sl17⟩) (c17 : PySem.W.codeIn K cd17 "block_layout" = true) (k17 : PySem.W.keepIn K (.ref f17) = true)
    (l18 : K.lookup f18 = some ⟨oc18, od18, .func (PySem.W.fnOf "layout" "Blocks.layout" (defArgs s_Blocks_layout) (defBody s_Blocks_layout) (defScope s_Blocks_layout) .none kV18 dc18 pm18 an18 cd18 ct18), sl18⟩) (c18 : PySem.W.codeIn K cd18 "Blocks.layout" = true) (k18 : PySem.W.keepIn K (.ref f18) = true)
    (l19 : K.lookup f19 = some ⟨oc19, od19, .func (PySem.W.fnOf "value" "Record.value" (defArgs s_Record_value) (defBody s_Record_value) (defScope s_Record_value) .none kV19 dc19 pm19 an19 cd19 ct19), sl19⟩) (c19 : PySem.W.codeIn K cd19 "Record.value" = true) (k19 : PySem.W.keepIn K (.ref f19) = true)
    (l20 : K.lookup f20 = some ⟨oc20, od20, .func (PySem.W.fnOf "layout" "SortedBlocks.layout" (defArgs s_SortedBlocks_layout) (defBody s_SortedBlocks_layout) (defScope s_SortedBlocks_layout) .none kV20 dc20 pm20 an20 cd20 ct20), sl20⟩) (c20 : PySem.W.codeIn K cd20 "SortedBlocks.layout" = true) (k20 : PySem.W.keepIn K (.ref f20) = true)
    (a21 : PySem.W.nsIn K mainGlobals "law" = some (some (.ref f21))) (l21 : K.lookup f21 = some ⟨oc21, od21, .func (PySem.W.fnOf "law" "law" (defArgs s_law) (defBody s_law) (defScope s_law) .none kV21 dc21 pm21 an21 cd21 ct21), sl21⟩) (c21 : PySem.W.codeIn K cd21 "law" = true) (k21 : PySem.W.keepIn K (.ref f21) = true)
    (aC_Record : PySem.W.nsIn K mainGlobals "Record" = some (some (.ref C_Record)))
    (pg_Record : PySem.W.plainGet K C_Record Str.empty = true)
    (hd_Record : PySem.W.hasDictIn K C_Record = true)
    (po_Record : PySem.W.plainOver K C_Record = true)
    (sa_Record : PySem.W.findIn K (.ref C_Record) "__setattr__" = some (some (.builtin "object.__setattr__")))
    (n_Record_name : PySem.W.findIn K (.ref C_Record) "name" = some none)
    (n_Record_vector : PySem.W.findIn K (.ref C_Record) "vector" = some none)
    (n_Record_fields : PySem.W.findIn K (.ref C_Record) "fields" = some none)
    (n_Record_words : PySem.W.findIn K (.ref C_Record) "words" = some none)
    (mk_Record : PySem.W.makesIn K C_Record = true)
    (in_Record : PySem.W.findIn K (.ref C_Record) "__init__" = some (some (.ref f14)))
    (if_Record : PySem.W.isFn K (.ref f14) = true)
    (kc_Record : PySem.W.keepIn K (.ref C_Record) = true)
    (fm_Record_value : PySem.W.findIn K (.ref C_Record) "value" = some (some (.ref f19)))
    (im_Record_value : PySem.W.isFn K (.ref f19) = true)
    (aC_Sketch : PySem.W.nsIn K mainGlobals "Sketch" = some (some (.ref C_Sketch)))
    (pg_Sketch : PySem.W.plainGet K C_Sketch Str.empty = true)
    (hd_Sketch : PySem.W.hasDictIn K C_Sketch = true)
    (po_Sketch : PySem.W.plainOver K C_Sketch = true)
    (sa_Sketch : PySem.W.findIn K (.ref C_Sketch) "__setattr__" = some (some (.builtin "object.__setattr__")))
    (n_Sketch_parent : PySem.W.findIn K (.ref C_Sketch) "parent" = some none)
    (n_Sketch_centres : PySem.W.findIn K (.ref C_Sketch) "centres" = some none)
    (n_Sketch_cells : PySem.W.findIn K (.ref C_Sketch) "cells" = some none)
    (mk_Sketch : PySem.W.makesIn K C_Sketch = true)
    (in_Sketch : PySem.W.findIn K (.ref C_Sketch) "__init__" = some (some (.ref f16)))
    (if_Sketch : PySem.W.isFn K (.ref f16) = true)
    (kc_Sketch : PySem.W.keepIn K (.ref C_Sketch) = true)
    (aC_Layout : PySem.W.nsIn K mainGlobals "Layout" = some (some (.ref C_Layout)))
    (pg_Layout : PySem.W.plainGet K C_Layout Str.empty = true)
    (hd_Layout : PySem.W.hasDictIn K C_Layout = true)
    (po_Layout : PySem.W.plainOver K C_Layout = true)
    (sa_Layout : PySem.W.findIn K (.ref C_Layout) "__setattr__" = some (some (.builtin "object.__setattr__")))
    (n_Layout_sketches : PySem.W.findIn K (.ref C_Layout) "sketches" = some none)
    (n_Layout_leaves : PySem.W.findIn K (.ref C_Layout) "leaves" = some none)
    (mk_Layout : PySem.W.makesIn K C_Layout = true)
    (in_Layout : PySem.W.findIn K (.ref C_Layout) "__init__" = some (some (.ref f15)))
    (if_Layout : PySem.W.isFn K (.ref f15) = true)
    (kc_Layout : PySem.W.keepIn K (.ref C_Layout) = true)
    (aC_Blocks : PySem.W.nsIn K mainGlobals "Blocks" = some (some (.ref C_Blocks)))
    (pg_Blocks : PySem.W.plainGet K C_Blocks Str.empty = true)
    (hd_Blocks : PySem.W.hasDictIn K C_Blocks = true)
    (po_Blocks : PySem.W.plainOver K C_Blocks = true)
    (sa_Blocks : PySem.W.findIn K (.ref C_Blocks) "__setattr__" = some (some (.builtin "object.__setattr__")))
    (n_Blocks_size : PySem.W.findIn K (.ref C_Blocks) "size" = some none)
    (mk_Blocks : PySem.W.makesIn K C_Blocks = true)
    (in_Blocks : PySem.W.findIn K (.ref C_Blocks) "__init__" = some (some (.ref f3)))
    (if_Blocks : PySem.W.isFn K (.ref f3) = true)
    (kc_Blocks : PySem.W.keepIn K (.ref C_Blocks) = true)
    (fm_Blocks_layout : PySem.W.findIn K (.ref C_Blocks) "layout" = some (some (.ref f18)))
    (im_Blocks_layout : PySem.W.isFn K (.ref f18) = true)
    (aC_SortedBlocks : PySem.W.nsIn K mainGlobals "SortedBlocks" = some (some (.ref C_SortedBlocks)))
    (pg_SortedBlocks : PySem.W.plainGet K C_SortedBlocks Str.empty = true)
    (hd_SortedBlocks : PySem.W.hasDictIn K C_SortedBlocks = true)
    (po_SortedBlocks : PySem.W.plainOver K C_SortedBlocks = true)
    (sa_SortedBlocks : PySem.W.findIn K (.ref C_SortedBlocks) "__setattr__" = some (some (.builtin "object.__setattr__")))
    (n_SortedBlocks_field : PySem.W.findIn K (.ref C_SortedBlocks) "field" = some none)
    (n_SortedBlocks_size : PySem.W.findIn K (.ref C_SortedBlocks) "size" = some none)
    (mk_SortedBlocks : PySem.W.makesIn K C_SortedBlocks = true)
    (in_SortedBlocks : PySem.W.findIn K (.ref C_SortedBlocks) "__init__" = some (some (.ref f4)))
    (if_SortedBlocks : PySem.W.isFn K (.ref f4) = true)
    (kc_SortedBlocks : PySem.W.keepIn K (.ref C_SortedBlocks) = true)
    (fm_SortedBlocks_layout : PySem.W.findIn K (.ref C_SortedBlocks) "layout" = some (some (.ref f20)))
    (im_SortedBlocks_layout : PySem.W.isFn K (.ref f20) = true)
    (aC_Schema : PySem.W.nsIn K mainGlobals "Schema" = some (some (.ref C_Schema)))
    (pg_Schema : PySem.W.plainGet K C_Schema Str.empty = true)
    (hd_Schema : PySem.W.hasDictIn K C_Schema = true)
    (po_Schema : PySem.W.plainOver K C_Schema = true)
    (sa_Schema : PySem.W.findIn K (.ref C_Schema) "__setattr__" = some (some (.builtin "object.__setattr__")))
    (n_Schema_size : PySem.W.findIn K (.ref C_Schema) "size" = some none)
    (n_Schema_width : PySem.W.findIn K (.ref C_Schema) "width" = some none)
    (n_Schema_measure : PySem.W.findIn K (.ref C_Schema) "measure" = some none)
    (n_Schema_fields : PySem.W.findIn K (.ref C_Schema) "fields" = some none)
    (mk_Schema : PySem.W.makesIn K C_Schema = true)
    (in_Schema : PySem.W.findIn K (.ref C_Schema) "__init__" = some (some (.ref f11)))
    (if_Schema : PySem.W.isFn K (.ref f11) = true)
    (kc_Schema : PySem.W.keepIn K (.ref C_Schema) = true)
    {C_InvalidRule : Addr}
    (aX_InvalidRule : PySem.W.nsIn K mainGlobals "InvalidRule" = some (some (.ref C_InvalidRule)))
    (kx_InvalidRule : PySem.W.keepIn K (.ref C_InvalidRule) = true)
    (ex_InvalidRule : PySem.W.excIn K C_InvalidRule [.type "ValueError", .type "Exception", .type "BaseException", .type "object"] "ValueError.__new__" = true)
    (bx_InvalidRule : PySem.W.subIn K (.ref C_InvalidRule) (.type "BaseException") = some true)
    (tx_InvalidRule : PySem.W.typeIn K (.ref C_InvalidRule) = some (.type "type"))
    (ix_InvalidRule : PySem.W.isClsIn K C_InvalidRule = true)
    {C_InvalidSchema : Addr}
    (aX_InvalidSchema : PySem.W.nsIn K mainGlobals "InvalidSchema" = some (some (.ref C_InvalidSchema)))
    (kx_InvalidSchema : PySem.W.keepIn K (.ref C_InvalidSchema) = true)
    (ex_InvalidSchema : PySem.W.excIn K C_InvalidSchema [.type "ValueError", .type "Exception", .type "BaseException", .type "object"] "ValueError.__new__" = true)
    (bx_InvalidSchema : PySem.W.subIn K (.ref C_InvalidSchema) (.type "BaseException") = some true)
    (tx_InvalidSchema : PySem.W.typeIn K (.ref C_InvalidSchema) = some (.type "type"))
    (ix_InvalidSchema : PySem.W.isClsIn K C_InvalidSchema = true)
    {C_SurenearError : Addr}
    (aX_SurenearError : PySem.W.nsIn K mainGlobals "SurenearError" = some (some (.ref C_SurenearError)))
    (kx_SurenearError : PySem.W.keepIn K (.ref C_SurenearError) = true)
    (ex_SurenearError : PySem.W.excIn K C_SurenearError [.type "ValueError", .type "Exception", .type "BaseException", .type "object"] "ValueError.__new__" = true)
    (bx_SurenearError : PySem.W.subIn K (.ref C_SurenearError) (.type "BaseException") = some true)
    (tx_SurenearError : PySem.W.typeIn K (.ref C_SurenearError) = some (.type "type"))
    (ix_SurenearError : PySem.W.isClsIn K C_SurenearError = true)
    (sx_InvalidSchema_InvalidRule : PySem.W.subIn K (.ref C_InvalidSchema) (.ref C_InvalidRule) = some false)
    (sx_InvalidSchema_SurenearError : PySem.W.subIn K (.ref C_InvalidSchema) (.ref C_SurenearError) = some true)
    (sx_InvalidRule_InvalidRule : PySem.W.subIn K (.ref C_InvalidRule) (.ref C_InvalidRule) = some true)
    {A_KINDS : Addr} {to_KINDS : Option Addr} {ti_KINDS : Array Value} {tn_KINDS : Nat} {ts_KINDS : Array (Option Value)} (z_KINDS : PySem.W.nsIn K mainGlobals "KINDS" = some (some (.ref A_KINDS))) (zl_KINDS : K.lookup A_KINDS = some ⟨.type "tuple", to_KINDS, .seq ti_KINDS tn_KINDS, ts_KINDS⟩) (zv_KINDS : Vals [.str "integer", .str "text", .str "flag"] ti_KINDS.toList) (zn_KINDS : ti_KINDS.size ≤ sizeLine)
    {A_MEASURES : Addr} {to_MEASURES : Option Addr} {ti_MEASURES : Array Value} {tn_MEASURES : Nat} {ts_MEASURES : Array (Option Value)} (z_MEASURES : PySem.W.nsIn K mainGlobals "MEASURES" = some (some (.ref A_MEASURES))) (zl_MEASURES : K.lookup A_MEASURES = some ⟨.type "tuple", to_MEASURES, .seq ti_MEASURES tn_MEASURES, ts_MEASURES⟩) (zv_MEASURES : Vals [.str "square", .str "dot", .str "bits"] ti_MEASURES.toList) (zn_MEASURES : ti_MEASURES.size ≤ sizeLine)
    {A_RESERVED : Addr} {to_RESERVED : Option Addr} {ti_RESERVED : Array Value} {tn_RESERVED : Nat} {ts_RESERVED : Array (Option Value)} (z_RESERVED : PySem.W.nsIn K mainGlobals "RESERVED" = some (some (.ref A_RESERVED))) (zl_RESERVED : K.lookup A_RESERVED = some ⟨.type "tuple", to_RESERVED, .seq ti_RESERVED tn_RESERVED, ts_RESERVED⟩) (zv_RESERVED : Vals [.str "every", .str "has", .str "in", .str "and", .str "or", .str "not", .str "true", .str "false"] ti_RESERVED.toList) (zn_RESERVED : ti_RESERVED.size ≤ sizeLine)
    {A_WIDTHS : Addr} {de_WIDTHS : Array DictEntry} {dn_WIDTHS : Nat} (z_WIDTHS : PySem.W.nsIn K mainGlobals "WIDTHS" = some (some (.ref A_WIDTHS))) (zl_WIDTHS : K.lookup A_WIDTHS = some ⟨.type "dict", none, .dict de_WIDTHS dn_WIDTHS, #[]⟩) (zk_WIDTHS : PySem.W.KeysLit w.params de_WIDTHS.toList) (zs_WIDTHS : (A_WIDTHS == sysModules) = false)
    {A_WIDTHS_bit : Addr} {to_WIDTHS_bit : Option Addr} {ti_WIDTHS_bit : Array Value} {tn_WIDTHS_bit : Nat} {ts_WIDTHS_bit : Array (Option Value)} (z_WIDTHS_bit : PySem.W.nsIn K A_WIDTHS "bit" = some (some (.ref A_WIDTHS_bit))) (zl_WIDTHS_bit : K.lookup A_WIDTHS_bit = some ⟨.type "tuple", to_WIDTHS_bit, .seq ti_WIDTHS_bit tn_WIDTHS_bit, ts_WIDTHS_bit⟩) (zv_WIDTHS_bit : Vals [.int (0), .int (1)] ti_WIDTHS_bit.toList) (zn_WIDTHS_bit : ti_WIDTHS_bit.size ≤ sizeLine)
    {A_WIDTHS_small : Addr} {to_WIDTHS_small : Option Addr} {ti_WIDTHS_small : Array Value} {tn_WIDTHS_small : Nat} {ts_WIDTHS_small : Array (Option Value)} (z_WIDTHS_small : PySem.W.nsIn K A_WIDTHS "small" = some (some (.ref A_WIDTHS_small))) (zl_WIDTHS_small : K.lookup A_WIDTHS_small = some ⟨.type "tuple", to_WIDTHS_small, .seq ti_WIDTHS_small tn_WIDTHS_small, ts_WIDTHS_small⟩) (zv_WIDTHS_small : Vals [.int (-128), .int (127)] ti_WIDTHS_small.toList) (zn_WIDTHS_small : ti_WIDTHS_small.size ≤ sizeLine)
    {A_WIDTHS_wide : Addr} {to_WIDTHS_wide : Option Addr} {ti_WIDTHS_wide : Array Value} {tn_WIDTHS_wide : Nat} {ts_WIDTHS_wide : Array (Option Value)} (z_WIDTHS_wide : PySem.W.nsIn K A_WIDTHS "wide" = some (some (.ref A_WIDTHS_wide))) (zl_WIDTHS_wide : K.lookup A_WIDTHS_wide = some ⟨.type "tuple", to_WIDTHS_wide, .seq ti_WIDTHS_wide tn_WIDTHS_wide, ts_WIDTHS_wide⟩) (zv_WIDTHS_wide : Vals [.int (-32768), .int (32767)] ti_WIDTHS_wide.toList) (zn_WIDTHS_wide : ti_WIDTHS_wide.size ≤ sizeLine)
    (z_all : PySem.W.nsIn K mainGlobals "all" = some none)
    (z_enumerate : PySem.W.nsIn K mainGlobals "enumerate" = some none)
    (z_int : PySem.W.nsIn K mainGlobals "int" = some none)
    (z_len : PySem.W.nsIn K mainGlobals "len" = some none)
    (z_list : PySem.W.nsIn K mainGlobals "list" = some none)
    (z_range : PySem.W.nsIn K mainGlobals "range" = some none)
    (z_set : PySem.W.nsIn K mainGlobals "set" = some none)
    (z_sorted : PySem.W.nsIn K mainGlobals "sorted" = some none)
    (z_str : PySem.W.nsIn K mainGlobals "str" = some none)
    (z_tuple : PySem.W.nsIn K mainGlobals "tuple" = some none)
    {KC_SortedBlocks_layout PC_SortedBlocks_layout : Addr} {oq_SortedBlocks_layout : Value} {ot_SortedBlocks_layout : Option Addr} {vs_SortedBlocks_layout : Array Value} {so_SortedBlocks_layout : Array (Option Value)} (ck_SortedBlocks_layout : cd20 = .ref KC_SortedBlocks_layout) (lk_SortedBlocks_layout : K.lookup KC_SortedBlocks_layout = some ⟨oq_SortedBlocks_layout, ot_SortedBlocks_layout, .fields vs_SortedBlocks_layout, so_SortedBlocks_layout⟩) (pp_SortedBlocks_layout : vs_SortedBlocks_layout[11]? = some (.ref PC_SortedBlocks_layout)) (ch_SortedBlocks_layout : PySem.W.codeHdIn K KC_SortedBlocks_layout PC_SortedBlocks_layout = true) (pt_SortedBlocks_layout : h.get? PC_SortedBlocks_layout = some { cls := .none, data := .fields #[] }) (pn_SortedBlocks_layout : K.lookup PC_SortedBlocks_layout = none)
    : LamX.LawAtS l w K L2.CX0 6 63 "script" mg fa h := by
  have e := hfa.symm.trans (PySem.W.mg_of X G a21)
  cases e
  have F0 := fun_mk (st := s_law_row) l0 c0 k0
  have b0 := F0.binds (ps := ["script", "k"]) fun _ _ _ _ _ _ us hl => match us, hl with | [_, _], _ => rfl
  have F1 := fun_mk (st := s_law_next) l1 c1 k1
  have b1 := F1.binds (ps := ["state", "many"]) fun _ _ _ _ _ _ us hl => match us, hl with | [_, _], _ => rfl
  have F2 := fun_mk (st := s_check_least) l2 c2 k2
  have b2 := F2.binds (ps := ["least", "number"]) fun _ _ _ _ _ _ us hl => match us, hl with | [_, _], _ => rfl
  have F3 := fun_mk (st := s_Blocks___init__) l3 c3 k3
  have b3 := F3.binds (ps := ["self", "size"]) fun _ _ _ _ _ _ us hl => match us, hl with | [_, _], _ => rfl
  have F4 := fun_mk (st := s_SortedBlocks___init__) l4 c4 k4
  have b4 := F4.binds (ps := ["self", "field", "size"]) fun _ _ _ _ _ _ us hl => match us, hl with | [_, _, _], _ => rfl
  have F5 := fun_mk (st := s_law_made) l5 c5 k5
  have b5 := F5.binds (ps := ["sort", "size"]) fun _ _ _ _ _ _ us hl => match us, hl with | [_, _], _ => rfl
  have F6 := fun_mk (st := s_is_letter) l6 c6 k6
  have b6 := F6.binds (ps := ["char"]) fun _ _ _ _ _ _ us hl => match us, hl with | [_], _ => rfl
  have F7 := fun_mk (st := s_is_digit) l7 c7 k7
  have b7 := F7.binds (ps := ["char"]) fun _ _ _ _ _ _ us hl => match us, hl with | [_], _ => rfl
  have F8 := fun_mk (st := s_is_word) l8 c8 k8
  have b8 := F8.binds (ps := ["text"]) fun _ _ _ _ _ _ us hl => match us, hl with | [_], _ => rfl
  have F9 := fun_mk (st := s_check_vectors) l9 c9 k9
  have b9 := F9.binds (ps := ["size", "width", "measure"]) fun _ _ _ _ _ _ us hl => match us, hl with | [_, _, _], _ => rfl
  have F10 := fun_mk (st := s_check_fields) l10 c10 k10
  have b10 := F10.binds (ps := ["fields"]) fun _ _ _ _ _ _ us hl => match us, hl with | [_], _ => rfl
  have F11 : FunD K "__init__" "Schema.__init__" (defArgs s_Schema___init__) (defBody s_Schema___init__) (defScope s_Schema___init__) [] [("width", .str "small"), ("measure", .str "square"), ("fields", .ref E11_fields)] f11 _ := ⟨⟨_, _, _, _, _, _, _, _, _, _, rfl, l11, c11, .inl ⟨rfl, rfl⟩, .inr ⟨DK11, rfl, fun q hq => by
    simp only [List.mem_cons, List.not_mem_nil, or_false] at hq
    rcases hq with rfl | rfl | rfl
    · exact ⟨_, n11_width, ⟨_, rfl⟩⟩
    · exact ⟨_, n11_measure, ⟨_, rfl⟩⟩
    · exact ⟨_, n11_fields, rfl⟩⟩⟩, k11⟩
  obtain ⟨mv11, kb11⟩ := F11.kbinds0 (ps := ["self", "size", "width", "measure", "fields"]) 2 ["width", "measure", "fields"] [] (fun us mv ws => us ++ ws) (by intro h; cases h) (fun q h => by cases h) (fun r1 _ r3 => r1.append r3) (fun D doc pm an cdv ct us mv ws l1 l2 l3 => match us, mv, ws, l1, l2, l3 with | [_, _], [], [_, _, _], _, _, _ => rfl)
  obtain ⟨mv_Schema___init___k0, kb_Schema___init___k0⟩ := F11.kbinds0 (ps := ["self", "size", "width", "measure", "fields"]) 2 ["fields"] [("width", .str "small"), ("measure", .str "square")] (fun us mv ws => us ++ ((mv.drop 0).take 1 ++ ((mv.drop 1).take 1 ++ ((ws.drop 0).take 1)))) (by intro h; cases h) (fun q h => by
    simp only [List.mem_cons, List.not_mem_nil, or_false] at h ⊢
    rcases h with rfl | rfl <;> simp) (fun r1 r2 r3 => r1.append (((r2.drop 0).take 1).append (((r2.drop 1).take 1).append ((r3.drop 0).take 1)))) (fun D doc pm an cdv ct us mv ws l1 l2 l3 => match us, mv, ws, l1, l2, l3 with | [_, _], [_, _], [_], _, _, _ => ⟨_, _, _, _, _, _, rfl, rfl, ⟨_, _, _, _, _, _, rfl, rfl, rfl⟩⟩)
  obtain ⟨ds11, v11, b11⟩ := F11.binds0 (ps := ["self", "size", "width", "measure", "fields"]) 2 (by intro h; cases h) rfl (fun D doc pm an cdv ct us ks l1 l2 => match us, ks, l1, l2 with | [_, _], [_, _, _], _, _ => ⟨_, _, _, _, _, _, rfl, rfl, ⟨_, _, _, _, _, _, rfl, rfl, ⟨_, _, _, _, _, _, rfl, rfl, rfl⟩⟩⟩)
  have F12 := fun_mk (st := s_law_shown) l12 c12 k12
  have b12 := F12.binds (ps := ["layout"]) fun _ _ _ _ _ _ us hl => match us, hl with | [_], _ => rfl
  have F13 := fun_mk (st := s_law_due) l13 c13 k13
  have b13 := F13.binds (ps := ["order", "size"]) fun _ _ _ _ _ _ us hl => match us, hl with | [_, _], _ => rfl
  have F14 : FunD K "__init__" "Record.__init__" (defArgs s_Record___init__) (defBody s_Record___init__) (defScope s_Record___init__) [] [("fields", .ref E14_fields), ("words", .ref E14_words)] f14 _ := ⟨⟨_, _, _, _, _, _, _, _, _, _, rfl, l14, c14, .inl ⟨rfl, rfl⟩, .inr ⟨DK14, rfl, fun q hq => by
    simp only [List.mem_cons, List.not_mem_nil, or_false] at hq
    rcases hq with rfl | rfl
    · exact ⟨_, n14_fields, rfl⟩
    · exact ⟨_, n14_words, rfl⟩⟩⟩, k14⟩
  obtain ⟨mv14, kb14⟩ := F14.kbinds0 (ps := ["self", "name", "vector", "fields", "words"]) 3 ["fields", "words"] [] (fun us mv ws => us ++ ws) (by intro h; cases h) (fun q h => by cases h) (fun r1 _ r3 => r1.append r3) (fun D doc pm an cdv ct us mv ws l1 l2 l3 => match us, mv, ws, l1, l2, l3 with | [_, _, _], [], [_, _], _, _, _ => rfl)
  obtain ⟨mv_Record___init___k0, kb_Record___init___k0⟩ := F14.kbinds0 (ps := ["self", "name", "vector", "fields", "words"]) 3 ["fields"] [("words", .ref E14_words)] (fun us mv ws => us ++ ((ws.drop 0).take 1 ++ ((mv.drop 0).take 1))) (by intro h; cases h) (fun q h => by
    simp only [List.mem_cons, List.not_mem_nil, or_false] at h ⊢
    subst h; simp) (fun r1 r2 r3 => r1.append (((r3.drop 0).take 1).append ((r2.drop 0).take 1))) (fun D doc pm an cdv ct us mv ws l1 l2 l3 => match us, mv, ws, l1, l2, l3 with | [_, _, _], [_], [_], _, _, _ => ⟨_, _, _, _, _, _, rfl, rfl, rfl⟩)
  obtain ⟨ds14, v14, b14⟩ := F14.binds0 (ps := ["self", "name", "vector", "fields", "words"]) 3 (by intro h; cases h) rfl (fun D doc pm an cdv ct us ks l1 l2 => match us, ks, l1, l2 with | [_, _, _], [_, _], _, _ => ⟨_, _, _, _, _, _, rfl, rfl, ⟨_, _, _, _, _, _, rfl, rfl, rfl⟩⟩)
  have F15 := fun_mk (st := s_Layout___init__) l15 c15 k15
  have b15 := F15.binds (ps := ["self", "sketches", "leaves"]) fun _ _ _ _ _ _ us hl => match us, hl with | [_, _, _], _ => rfl
  have F16 : FunD K "__init__" "Sketch.__init__" (defArgs s_Sketch___init__) (defBody s_Sketch___init__) (defScope s_Sketch___init__) [] [("centres", .ref E16_centres), ("cells", .ref E16_cells)] f16 _ := ⟨⟨_, _, _, _, _, _, _, _, _, _, rfl, l16, c16, .inl ⟨rfl, rfl⟩, .inr ⟨DK16, rfl, fun q hq => by
    simp only [List.mem_cons, List.not_mem_nil, or_false] at hq
    rcases hq with rfl | rfl
    · exact ⟨_, n16_centres, rfl⟩
    · exact ⟨_, n16_cells, rfl⟩⟩⟩, k16⟩
  obtain ⟨mv16, kb16⟩ := F16.kbinds0 (ps := ["self", "parent", "centres", "cells"]) 2 ["centres", "cells"] [] (fun us mv ws => us ++ ws) (by intro h; cases h) (fun q h => by cases h) (fun r1 _ r3 => r1.append r3) (fun D doc pm an cdv ct us mv ws l1 l2 l3 => match us, mv, ws, l1, l2, l3 with | [_, _], [], [_, _], _, _, _ => rfl)
  obtain ⟨ds16, v16, b16⟩ := F16.binds0 (ps := ["self", "parent", "centres", "cells"]) 2 (by intro h; cases h) rfl (fun D doc pm an cdv ct us ks l1 l2 => match us, ks, l1, l2 with | [_, _], [_, _], _, _ => ⟨_, _, _, _, _, _, rfl, rfl, ⟨_, _, _, _, _, _, rfl, rfl, rfl⟩⟩)
  have F17 := fun_mk (st := s_block_layout) l17 c17 k17
  have b17 := F17.binds (ps := ["order", "size"]) fun _ _ _ _ _ _ us hl => match us, hl with | [_, _], _ => rfl
  have F18 := fun_mk (st := s_Blocks_layout) l18 c18 k18
  have b18 := F18.binds (ps := ["self", "schema", "records"]) fun _ _ _ _ _ _ us hl => match us, hl with | [_, _, _], _ => rfl
  have F19 := fun_mk (st := s_Record_value) l19 c19 k19
  have b19 := F19.binds (ps := ["self", "name"]) fun _ _ _ _ _ _ us hl => match us, hl with | [_, _], _ => rfl
  subst ck_SortedBlocks_layout
  have L20 : FunC K "layout" "SortedBlocks.layout" s_SortedBlocks_layout _ _ _ := ⟨_, _, _, _, _, _, _, _, rfl, l20, c20⟩
  have F20 := fun_mk (st := s_SortedBlocks_layout) l20 c20 k20
  have b20 := F20.binds (ps := ["self", "schema", "records"]) fun _ _ _ _ _ _ us hl => match us, hl with | [_, _, _], _ => rfl
  have F21 := fun_mk (st := s_law) l21 c21 k21
  have b21 := F21.binds (ps := ["script"]) fun _ _ _ _ _ _ us hl => match us, hl with | [_], _ => rfl
  refine ⟨PySem.W.fnOf "law" "law" (defArgs s_law) (defBody s_law) (defScope s_law) .none kV21 dc21 pm21 an21 cd21 ct21, [(KC_SortedBlocks_layout, PC_SortedBlocks_layout)], sp_law K PC_SortedBlocks_layout, fun p hp => ?_, fun p hp => ?_, fun p hp => ?_, fun s v => .of_eq rfl, fun H a ns hl _ ht hS => ⟨a, ns, rfl, hS, hl, ht (KC_SortedBlocks_layout, PC_SortedBlocks_layout) (by simp), fun _ => rfl⟩, fun base _ _ TB => ?_⟩
  ·
    simp only [List.mem_cons, List.not_mem_nil, or_false] at hp
    rcases hp with rfl
    · exact pt_SortedBlocks_layout
  ·
    simp only [List.mem_cons, List.not_mem_nil, or_false] at hp
    rcases hp with rfl
    · exact pn_SortedBlocks_layout
  ·
    simp only [List.mem_cons, List.not_mem_nil, or_false] at hp
    rcases hp with rfl
    · exact PySem.W.codeHd_of_K X ch_SortedBlocks_layout
  let T : Txt w K mg base := ⟨_, _, F0, b0, PySem.W.mg_of X G a0,
    _, _, F1, b1, PySem.W.mg_of X G a1,
    _, _, F2, b2, PySem.W.mg_of X G a2,
    _, _, F3, b3,
    _, _, F4, b4,
    _, _, F5, b5, PySem.W.mg_of X G a5,
    _, _, F6, b6, PySem.W.mg_of X G a6,
    _, _, F7, b7, PySem.W.mg_of X G a7,
    _, _, F8, b8, PySem.W.mg_of X G a8,
    _, _, F9, b9, PySem.W.mg_of X G a9,
    _, _, F10, b10, PySem.W.mg_of X G a10,
    _, _, _, fun H => .inr ⟨_, _, _, t11_fields, rfl, rfl, by decide, .nil⟩, F11, kb11, _, kb_Schema___init___k0, _, v11, b11,
    _, _, F12, b12, PySem.W.mg_of X G a12,
    _, _, F13, b13, PySem.W.mg_of X G a13,
    _, _, _, fun H => .inr ⟨_, _, _, t14_fields, rfl, rfl, by decide, .nil⟩, _, fun H => .inr ⟨_, _, _, t14_words, rfl, rfl, by decide, .nil⟩, F14, kb14, _, kb_Record___init___k0, _, v14, b14,
    _, _, F15, b15,
    _, _, _, fun H => .inr ⟨_, _, _, t16_centres, rfl, rfl, by decide, .nil⟩, _, fun H => .inr ⟨_, _, _, t16_cells, rfl, rfl, by decide, .nil⟩, F16, kb16, _, v16, b16,
    _, _, F17, b17, PySem.W.mg_of X G a17,
    _, _, F18, b18,
    _, _, F19, b19,
    _, _, F20, b20, _, _, L20, TB (KC_SortedBlocks_layout, PC_SortedBlocks_layout) (by simp),
    _, _, F21, b21, PySem.W.mg_of X G a21,
    _, PySem.W.mg_of X G aX_InvalidRule, kx_InvalidRule, ex_InvalidRule, bx_InvalidRule, tx_InvalidRule,
    _, PySem.W.mg_of X G aX_InvalidSchema, kx_InvalidSchema, ex_InvalidSchema, bx_InvalidSchema, tx_InvalidSchema,
    _, PySem.W.mg_of X G aX_SurenearError, kx_SurenearError, ex_SurenearError, bx_SurenearError, tx_SurenearError,
    exm_any bx_InvalidRule (fun c e => by cases e; exact ix_InvalidRule) tx_InvalidRule sx_InvalidSchema_InvalidRule ⟨_, rfl⟩,
    exm_any bx_SurenearError (fun c e => by cases e; exact ix_SurenearError) tx_SurenearError sx_InvalidSchema_SurenearError ⟨_, rfl⟩,
    exm_any bx_InvalidRule (fun c e => by cases e; exact ix_InvalidRule) tx_InvalidRule sx_InvalidRule_InvalidRule ⟨_, rfl⟩,
    _, ⟨pg_Record, hd_Record, po_Record, sa_Record⟩, PySem.W.mg_of X G aC_Record, n_Record_name, n_Record_vector, n_Record_fields, n_Record_words, ⟨mk_Record, in_Record, if_Record, kc_Record⟩, ⟨fm_Record_value, im_Record_value, k19⟩,
    _, ⟨pg_Sketch, hd_Sketch, po_Sketch, sa_Sketch⟩, PySem.W.mg_of X G aC_Sketch, n_Sketch_parent, n_Sketch_centres, n_Sketch_cells, ⟨mk_Sketch, in_Sketch, if_Sketch, kc_Sketch⟩,
    _, ⟨pg_Layout, hd_Layout, po_Layout, sa_Layout⟩, PySem.W.mg_of X G aC_Layout, n_Layout_sketches, n_Layout_leaves, ⟨mk_Layout, in_Layout, if_Layout, kc_Layout⟩,
    _, ⟨pg_Blocks, hd_Blocks, po_Blocks, sa_Blocks⟩, PySem.W.mg_of X G aC_Blocks, n_Blocks_size, ⟨mk_Blocks, in_Blocks, if_Blocks, kc_Blocks⟩, ⟨fm_Blocks_layout, im_Blocks_layout, k18⟩,
    _, ⟨pg_SortedBlocks, hd_SortedBlocks, po_SortedBlocks, sa_SortedBlocks⟩, PySem.W.mg_of X G aC_SortedBlocks, n_SortedBlocks_field, n_SortedBlocks_size, ⟨mk_SortedBlocks, in_SortedBlocks, if_SortedBlocks, kc_SortedBlocks⟩, ⟨fm_SortedBlocks_layout, im_SortedBlocks_layout, k20⟩,
    _, ⟨pg_Schema, hd_Schema, po_Schema, sa_Schema⟩, PySem.W.mg_of X G aC_Schema, n_Schema_size, n_Schema_width, n_Schema_measure, n_Schema_fields, ⟨mk_Schema, in_Schema, if_Schema, kc_Schema⟩,
    _, PySem.W.mg_of X G z_KINDS, fun H => .inr ⟨_, _, _, zl_KINDS, rfl, rfl, zn_KINDS, zv_KINDS⟩,
    _, PySem.W.mg_of X G z_MEASURES, fun H => .inr ⟨_, _, _, zl_MEASURES, rfl, rfl, zn_MEASURES, zv_MEASURES⟩,
    _, PySem.W.mg_of X G z_RESERVED, fun H => .inr ⟨_, _, _, zl_RESERVED, rfl, rfl, zn_RESERVED, zv_RESERVED⟩,
    _, PySem.W.mg_of X G z_WIDTHS, _, _, ⟨zl_WIDTHS, zk_WIDTHS, zs_WIDTHS⟩, _, z_WIDTHS_bit, fun H => .inr ⟨_, _, _, zl_WIDTHS_bit, rfl, rfl, zn_WIDTHS_bit, zv_WIDTHS_bit⟩, _, z_WIDTHS_small, fun H => .inr ⟨_, _, _, zl_WIDTHS_small, rfl, rfl, zn_WIDTHS_small, zv_WIDTHS_small⟩, _, z_WIDTHS_wide, fun H => .inr ⟨_, _, _, zl_WIDTHS_wide, rfl, rfl, zn_WIDTHS_wide, zv_WIDTHS_wide⟩,
    PySem.W.mg_none_of X G z_all,
    PySem.W.mg_none_of X G z_enumerate,
    PySem.W.mg_none_of X G z_int,
    PySem.W.mg_none_of X G z_len,
    PySem.W.mg_none_of X G z_list,
    PySem.W.mg_none_of X G z_range,
    PySem.W.mg_none_of X G z_set,
    PySem.W.mg_none_of X G z_sorted,
    PySem.W.mg_none_of X G z_str,
    PySem.W.mg_none_of X G z_tuple⟩
  exact ok_law T
end K29
open PySem PySem.W PyProof.Rows
set_option maxRecDepth 100000 in
set_option maxHeartbeats 0 in
theorem PySem.Challenge.cw_surenear_k29_blocks_holds : PySem.Challenge.rw_surenear_k29_blocks.Holds := by
  w_on; o_law; k_head; (case hw => w_witness2)
  k_fill
  refine LamX.walk_ofTs (l := PySem.Challenge.rw_surenear_k29_blocks) (n := 63) (k := 6) (x := "script") (CX := fun _ => L2.CX0) rfl (by decide) rfl ⟨rfl, by decide, by decide⟩ (fun w h Y => PySem.W.km_in_of Y) ?F (fun _ _ _ _ _ h => h)
  case F =>
    intro w mg fa h Y KX G hmg
    refine' K29.all_mk KX G hmg (a0 := ?a0) (l0 := ?l0) (c0 := ?c0) (k0 := ?k0) (a1 := ?a1) (l1 := ?l1) (c1 := ?c1) (k1 := ?k1) (a2 := ?a2) (l2 := ?l2) (c2 := ?c2) (k2 := ?k2) (a5 := ?a5) (l5 := ?l5) (c5 := ?c5) (k5 := ?k5) (a6 := ?a6) (l6 := ?l6) (c6 := ?c6) (k6 := ?k6) (a7 := ?a7) (l7 := ?l7) (c7 := ?c7) (k7 := ?k7) (a8 := ?a8) (l8 := ?l8) (c8 := ?c8) (k8 := ?k8) (a9 := ?a9) (l9 := ?l9) (c9 := ?c9) (k9 := ?k9) (a10 := ?a10) (l10 := ?l10) (c10 := ?c10) (k10 := ?k10) (a12 := ?a12) (l12 := ?l12) (c12 := ?c12) (k12 := ?k12) (a13 := ?a13) (l13 := ?l13) (c13 := ?c13) (k13 := ?k13) (a17 := ?a17) (l17 := ?l17) (c17 := ?c17) (k17 := ?k17) (a21 := ?a21) (l21 := ?l21) (c21 := ?c21) (k21 := ?k21) (aC_Record := ?aC_Record) (pg_Record := ?pg_Record) (hd_Record := ?hd_Record) (po_Record := ?po_Record) (sa_Record := ?sa_Record) (n_Record_name := ?n_Record_name) (n_Record_vector := ?n_Record_vector) (n_Record_fields := ?n_Record_fields) (n_Record_words := ?n_Record_words) (mk_Record := ?mk_Record) (in_Record := ?in_Record) (if_Record := ?if_Record) (kc_Record := ?kc_Record) (fm_Record_value := ?fm_Record_value) (im_Record_value := ?im_Record_value) (aC_Sketch := ?aC_Sketch) (pg_Sketch := ?pg_Sketch) (hd_Sketch := ?hd_Sketch) (po_Sketch := ?po_Sketch) (sa_Sketch := ?sa_Sketch) (n_Sketch_parent := ?n_Sketch_parent) (n_Sketch_centres := ?n_Sketch_centres) (n_Sketch_cells := ?n_Sketch_cells) (mk_Sketch := ?mk_Sketch) (in_Sketch := ?in_Sketch) (if_Sketch := ?if_Sketch) (kc_Sketch := ?kc_Sketch) (aC_Layout := ?aC_Layout) (pg_Layout := ?pg_Layout) (hd_Layout := ?hd_Layout) (po_Layout := ?po_Layout) (sa_Layout := ?sa_Layout) (n_Layout_sketches := ?n_Layout_sketches) (n_Layout_leaves := ?n_Layout_leaves) (mk_Layout := ?mk_Layout) (in_Layout := ?in_Layout) (if_Layout := ?if_Layout) (kc_Layout := ?kc_Layout) (aC_Blocks := ?aC_Blocks) (pg_Blocks := ?pg_Blocks) (hd_Blocks := ?hd_Blocks) (po_Blocks := ?po_Blocks) (sa_Blocks := ?sa_Blocks) (n_Blocks_size := ?n_Blocks_size) (mk_Blocks := ?mk_Blocks) (in_Blocks := ?in_Blocks) (if_Blocks := ?if_Blocks) (kc_Blocks := ?kc_Blocks) (fm_Blocks_layout := ?fm_Blocks_layout) (im_Blocks_layout := ?im_Blocks_layout) (aC_SortedBlocks := ?aC_SortedBlocks) (pg_SortedBlocks := ?pg_SortedBlocks) (hd_SortedBlocks := ?hd_SortedBlocks) (po_SortedBlocks := ?po_SortedBlocks) (sa_SortedBlocks := ?sa_SortedBlocks) (n_SortedBlocks_field := ?n_SortedBlocks_field) (n_SortedBlocks_size := ?n_SortedBlocks_size) (mk_SortedBlocks := ?mk_SortedBlocks) (in_SortedBlocks := ?in_SortedBlocks) (if_SortedBlocks := ?if_SortedBlocks) (kc_SortedBlocks := ?kc_SortedBlocks) (fm_SortedBlocks_layout := ?fm_SortedBlocks_layout) (im_SortedBlocks_layout := ?im_SortedBlocks_layout) (aC_Schema := ?aC_Schema) (pg_Schema := ?pg_Schema) (hd_Schema := ?hd_Schema) (po_Schema := ?po_Schema) (sa_Schema := ?sa_Schema) (n_Schema_size := ?n_Schema_size) (n_Schema_width := ?n_Schema_width) (n_Schema_measure := ?n_Schema_measure) (n_Schema_fields := ?n_Schema_fields) (mk_Schema := ?mk_Schema) (in_Schema := ?in_Schema) (if_Schema := ?if_Schema) (kc_Schema := ?kc_Schema) (aX_InvalidRule := ?aX_InvalidRule) (kx_InvalidRule := ?kx_InvalidRule) (bx_InvalidRule := ?bx_InvalidRule) (tx_InvalidRule := ?tx_InvalidRule) (ix_InvalidRule := ?ix_InvalidRule) (aX_InvalidSchema := ?aX_InvalidSchema) (kx_InvalidSchema := ?kx_InvalidSchema) (bx_InvalidSchema := ?bx_InvalidSchema) (tx_InvalidSchema := ?tx_InvalidSchema) (ix_InvalidSchema := ?ix_InvalidSchema) (aX_SurenearError := ?aX_SurenearError) (kx_SurenearError := ?kx_SurenearError) (bx_SurenearError := ?bx_SurenearError) (tx_SurenearError := ?tx_SurenearError) (ix_SurenearError := ?ix_SurenearError) (sx_InvalidSchema_InvalidRule := ?sx_InvalidSchema_InvalidRule) (sx_InvalidSchema_SurenearError := ?sx_InvalidSchema_SurenearError) (sx_InvalidRule_InvalidRule := ?sx_InvalidRule_InvalidRule) (l3 := ?l3) (c3 := ?c3) (k3 := ?k3) (l4 := ?l4) (c4 := ?c4) (k4 := ?k4) (l11 := ?l11) (n11_width := ?n11_width) (n11_measure := ?n11_measure) (n11_fields := ?n11_fields) (t11_fields := ?t11_fields) (c11 := ?c11) (k11 := ?k11) (l14 := ?l14) (n14_fields := ?n14_fields) (t14_fields := ?t14_fields) (n14_words := ?n14_words) (t14_words := ?t14_words) (c14 := ?c14) (k14 := ?k14) (l15 := ?l15) (c15 := ?c15) (k15 := ?k15) (l16 := ?l16) (n16_centres := ?n16_centres) (t16_centres := ?t16_centres) (n16_cells := ?n16_cells) (t16_cells := ?t16_cells) (c16 := ?c16) (k16 := ?k16) (l18 := ?l18) (c18 := ?c18) (k18 := ?k18) (l19 := ?l19) (c19 := ?c19) (k19 := ?k19) (l20 := ?l20) (c20 := ?c20) (k20 := ?k20) (z_KINDS := ?z_KINDS) (zl_KINDS := ?zl_KINDS) (z_MEASURES := ?z_MEASURES) (zl_MEASURES := ?zl_MEASURES) (z_RESERVED := ?z_RESERVED) (zl_RESERVED := ?zl_RESERVED) (z_WIDTHS := ?z_WIDTHS) (zl_WIDTHS := ?zl_WIDTHS) (z_WIDTHS_bit := ?z_WIDTHS_bit) (zl_WIDTHS_bit := ?zl_WIDTHS_bit) (z_WIDTHS_small := ?z_WIDTHS_small) (zl_WIDTHS_small := ?zl_WIDTHS_small) (z_WIDTHS_wide := ?z_WIDTHS_wide) (zl_WIDTHS_wide := ?zl_WIDTHS_wide) (z_all := ?z_all) (z_enumerate := ?z_enumerate) (z_int := ?z_int) (z_len := ?z_len) (z_list := ?z_list) (z_range := ?z_range) (z_set := ?z_set) (z_sorted := ?z_sorted) (z_str := ?z_str) (z_tuple := ?z_tuple) (ex_InvalidRule := ?ex_InvalidRule) (ex_InvalidSchema := ?ex_InvalidSchema) (ex_SurenearError := ?ex_SurenearError) (zv_KINDS := ?zv_KINDS) (zn_KINDS := ?zn_KINDS) (zv_MEASURES := ?zv_MEASURES) (zn_MEASURES := ?zn_MEASURES) (zv_RESERVED := ?zv_RESERVED) (zn_RESERVED := ?zn_RESERVED) (zk_WIDTHS := ?zk_WIDTHS) (zs_WIDTHS := ?zs_WIDTHS) (zv_WIDTHS_bit := ?zv_WIDTHS_bit) (zn_WIDTHS_bit := ?zn_WIDTHS_bit) (zv_WIDTHS_small := ?zv_WIDTHS_small) (zn_WIDTHS_small := ?zn_WIDTHS_small) (zv_WIDTHS_wide := ?zv_WIDTHS_wide) (zn_WIDTHS_wide := ?zn_WIDTHS_wide) (ck_SortedBlocks_layout := ?ck_SortedBlocks_layout) (lk_SortedBlocks_layout := ?lk_SortedBlocks_layout) (pp_SortedBlocks_layout := ?pp_SortedBlocks_layout) (ch_SortedBlocks_layout := ?ch_SortedBlocks_layout) (pt_SortedBlocks_layout := ?pt_SortedBlocks_layout) (pn_SortedBlocks_layout := ?pn_SortedBlocks_layout)
    (case a0 => k_is); (case l0 => k_is); (case c0 => k_is); (case k0 => k_is); (case a1 => k_is); (case l1 => k_is); (case c1 => k_is); (case k1 => k_is); (case a2 => k_is); (case l2 => k_is); (case c2 => k_is); (case k2 => k_is); (case a5 => k_is); (case l5 => k_is); (case c5 => k_is); (case k5 => k_is); (case a6 => k_is); (case l6 => k_is); (case c6 => k_is); (case k6 => k_is); (case a7 => k_is); (case l7 => k_is); (case c7 => k_is); (case k7 => k_is); (case a8 => k_is); (case l8 => k_is); (case c8 => k_is); (case k8 => k_is); (case a9 => k_is); (case l9 => k_is); (case c9 => k_is); (case k9 => k_is); (case a10 => k_is); (case l10 => k_is); (case c10 => k_is); (case k10 => k_is); (case a12 => k_is); (case l12 => k_is); (case c12 => k_is); (case k12 => k_is); (case a13 => k_is); (case l13 => k_is); (case c13 => k_is); (case k13 => k_is); (case a17 => k_is); (case l17 => k_is); (case c17 => k_is); (case k17 => k_is); (case a21 => k_is); (case l21 => k_is); (case c21 => k_is); (case k21 => k_is); (case aC_Record => k_is); (case pg_Record => k_is); (case hd_Record => k_is); (case po_Record => k_is); (case sa_Record => k_is); (case n_Record_name => k_is); (case n_Record_vector => k_is); (case n_Record_fields => k_is); (case n_Record_words => k_is); (case mk_Record => k_is); (case in_Record => k_is); (case if_Record => k_is); (case kc_Record => k_is); (case fm_Record_value => k_is); (case im_Record_value => k_is); (case aC_Sketch => k_is); (case pg_Sketch => k_is); (case hd_Sketch => k_is); (case po_Sketch => k_is); (case sa_Sketch => k_is); (case n_Sketch_parent => k_is); (case n_Sketch_centres => k_is); (case n_Sketch_cells => k_is); (case mk_Sketch => k_is); (case in_Sketch => k_is); (case if_Sketch => k_is); (case kc_Sketch => k_is); (case aC_Layout => k_is); (case pg_Layout => k_is); (case hd_Layout => k_is); (case po_Layout => k_is); (case sa_Layout => k_is); (case n_Layout_sketches => k_is); (case n_Layout_leaves => k_is); (case mk_Layout => k_is); (case in_Layout => k_is); (case if_Layout => k_is); (case kc_Layout => k_is); (case aC_Blocks => k_is); (case pg_Blocks => k_is); (case hd_Blocks => k_is); (case po_Blocks => k_is); (case sa_Blocks => k_is); (case n_Blocks_size => k_is); (case mk_Blocks => k_is); (case in_Blocks => k_is); (case if_Blocks => k_is); (case kc_Blocks => k_is); (case fm_Blocks_layout => k_is); (case im_Blocks_layout => k_is); (case aC_SortedBlocks => k_is); (case pg_SortedBlocks => k_is); (case hd_SortedBlocks => k_is); (case po_SortedBlocks => k_is); (case sa_SortedBlocks => k_is); (case n_SortedBlocks_field => k_is); (case n_SortedBlocks_size => k_is); (case mk_SortedBlocks => k_is); (case in_SortedBlocks => k_is); (case if_SortedBlocks => k_is); (case kc_SortedBlocks => k_is); (case fm_SortedBlocks_layout => k_is); (case im_SortedBlocks_layout => k_is); (case aC_Schema => k_is); (case pg_Schema => k_is); (case hd_Schema => k_is); (case po_Schema => k_is); (case sa_Schema => k_is); (case n_Schema_size => k_is); (case n_Schema_width => k_is); (case n_Schema_measure => k_is); (case n_Schema_fields => k_is); (case mk_Schema => k_is); (case in_Schema => k_is); (case if_Schema => k_is); (case kc_Schema => k_is); (case aX_InvalidRule => k_is); (case kx_InvalidRule => k_is); (case bx_InvalidRule => k_is); (case tx_InvalidRule => k_is); (case ix_InvalidRule => k_is); (case aX_InvalidSchema => k_is); (case kx_InvalidSchema => k_is); (case bx_InvalidSchema => k_is); (case tx_InvalidSchema => k_is); (case ix_InvalidSchema => k_is); (case aX_SurenearError => k_is); (case kx_SurenearError => k_is); (case bx_SurenearError => k_is); (case tx_SurenearError => k_is); (case ix_SurenearError => k_is); (case sx_InvalidSchema_InvalidRule => k_is); (case sx_InvalidSchema_SurenearError => k_is); (case sx_InvalidRule_InvalidRule => k_is); (case l3 => k_is); (case c3 => k_is); (case k3 => k_is); (case l4 => k_is); (case c4 => k_is); (case k4 => k_is); (case l11 => k_is); (case n11_width => k_is); (case n11_measure => k_is); (case n11_fields => k_is); (case t11_fields => k_is); (case c11 => k_is); (case k11 => k_is); (case l14 => k_is); (case n14_fields => k_is); (case t14_fields => k_is); (case n14_words => k_is); (case t14_words => k_is); (case c14 => k_is); (case k14 => k_is); (case l15 => k_is); (case c15 => k_is); (case k15 => k_is); (case l16 => k_is); (case n16_centres => k_is); (case t16_centres => k_is); (case n16_cells => k_is); (case t16_cells => k_is); (case c16 => k_is); (case k16 => k_is); (case l18 => k_is); (case c18 => k_is); (case k18 => k_is); (case l19 => k_is); (case c19 => k_is); (case k19 => k_is); (case l20 => k_is); (case c20 => k_is); (case k20 => k_is); (case z_KINDS => k_is); (case zl_KINDS => k_is); (case z_MEASURES => k_is); (case zl_MEASURES => k_is); (case z_RESERVED => k_is); (case zl_RESERVED => k_is); (case z_WIDTHS => k_is); (case zl_WIDTHS => k_is); (case z_WIDTHS_bit => k_is); (case zl_WIDTHS_bit => k_is); (case z_WIDTHS_small => k_is); (case zl_WIDTHS_small => k_is); (case z_WIDTHS_wide => k_is); (case zl_WIDTHS_wide => k_is); (case z_all => k_is); (case z_enumerate => k_is); (case z_int => k_is); (case z_len => k_is); (case z_list => k_is); (case z_range => k_is); (case z_set => k_is); (case z_sorted => k_is); (case z_str => k_is); (case z_tuple => k_is)
    (case zv_KINDS => exact .cons ⟨_, rfl⟩ (.cons ⟨_, rfl⟩ (.cons ⟨_, rfl⟩ .nil))); (case zn_KINDS => decide); (case zv_MEASURES => exact .cons ⟨_, rfl⟩ (.cons ⟨_, rfl⟩ (.cons ⟨_, rfl⟩ .nil))); (case zn_MEASURES => decide); (case zv_RESERVED => exact .cons ⟨_, rfl⟩ (.cons ⟨_, rfl⟩ (.cons ⟨_, rfl⟩ (.cons ⟨_, rfl⟩ (.cons ⟨_, rfl⟩ (.cons ⟨_, rfl⟩ (.cons ⟨_, rfl⟩ (.cons ⟨_, rfl⟩ .nil)))))))); (case zn_RESERVED => decide); (case zk_WIDTHS => exact ⟨⟨_, _, rfl, rfl⟩, ⟨⟨_, _, rfl, rfl⟩, ⟨⟨_, _, rfl, rfl⟩, trivial⟩⟩⟩); (case zs_WIDTHS => first | rfl | decide); (case zv_WIDTHS_bit => exact .cons ⟨_, rfl⟩ (.cons ⟨_, rfl⟩ .nil)); (case zn_WIDTHS_bit => decide); (case zv_WIDTHS_small => exact .cons ⟨_, rfl⟩ (.cons ⟨_, rfl⟩ .nil)); (case zn_WIDTHS_small => decide); (case zv_WIDTHS_wide => exact .cons ⟨_, rfl⟩ (.cons ⟨_, rfl⟩ .nil)); (case zn_WIDTHS_wide => decide); (case ck_SortedBlocks_layout => exact rfl); (case lk_SortedBlocks_layout => k_is); (case pp_SortedBlocks_layout => exact rfl); (case ch_SortedBlocks_layout => kernel_rfl); (case pt_SortedBlocks_layout => exact PySem.W.km_tabs_of Y _ (by simp)); (case pn_SortedBlocks_layout => kernel_rfl)
    (case ex_InvalidRule => k_exc); (case ex_InvalidSchema => k_exc); (case ex_SurenearError => k_exc)
