import PyProof.Rows.All
import Wide.All
import OpenK.AllK
import Wide.FinOn
import HandS.ForMost
import HandS.Codes
import HandS.Wide
import HandS.IsInst
import HandS.Walk
import HandS.Zip
import HandS.MakeKwOnly
import HandS.ForExc
import HandS.TryMany
import HandS.Strs
import HandS.More
import HandS.Property
import HandS.SetFor
import HandS.Conv
import HandS.Text
import HandS.TupAny
import HandS.Style
import KE.KEqSeq
import KE.LtData
import KE.OsRunLaw
import KE.GoesEnum
import HandS.OwnEq
import PyProof.NeKinds
import HandS.Small
import HandS.Deep
import HandS.Nested
import HandS.Lambda
import HandS.EndTab
import KE.SortKeyHeap
import KE.KNestM
import HandS.DictComp
import KE.KTupSum
import KE.KDictZip
import KE.KStar
import HandS.Star
import HandS.FStr
import KE.HD2
import HandS.SetKeys
import PySem.Challenge.RW_surenear_k70_names_belong_to_shards
set_option Elab.async false
set_option linter.all false
set_option maxRecDepth 100000
set_option synthInstance.maxHeartbeats 400000
set_option synthInstance.maxSize 4000
namespace TP
open PySem PySem.Spec PyProof.Rows L2
/-! ### heaps: Z is the part that never changes, H is all -/
def SameX (S : List Addr) (H H' : Hp) : Prop := ∀ a o, a ∉ S → H a = some o → H' a = some o
theorem SameX.refl {S : List Addr} {H : Hp} : SameX S H H := fun _ _ _ h => h
theorem SameX.trans {S : List Addr} {H H1 H2 : Hp} (f : SameX S H H1) (g : SameX S H1 H2) : SameX S H H2 := fun a o n h => g a o n (f a o n h)
structure Step (S : List Addr) (Z H Z' H' : Hp) : Prop where
  z : Same Z Z'
  s : Same Z' H'
  h : SameX S H H'
  n : ∀ a, H a ≠ none → Z a = none → Z' a = none
  al : ∀ a, H a ≠ none → H' a ≠ none
theorem Step.refl {S : List Addr} {Z H : Hp} (s : Same Z H) : Step S Z H Z H := ⟨Same.refl _, s, SameX.refl, fun _ _ h => h, fun _ h => h⟩
theorem Step.mine {S F : List Addr} {Z H Z1 H1 Z2 H2 : Hp} (f : Step S Z H Z1 H1) (g : Step F Z1 H1 Z2 H2) (m : ∀ a ∈ F, a ∈ S ∨ H a = none) : Step S Z H Z2 H2 :=
  ⟨f.z.trans g.z, g.s, fun a o na h => g.h a o (fun q => by rcases m a q with x | x; exact na x; rw [x] at h; cases h) (f.h a o na h), fun a h z => g.n a (f.al a h) (f.n a h z), fun a h => g.al a (f.al a h)⟩
theorem Step.trans {S : List Addr} {Z H Z1 H1 Z2 H2 : Hp} (f : Step S Z H Z1 H1) (g : Step S Z1 H1 Z2 H2) : Step S Z H Z2 H2 := f.mine g fun _ h => .inl h
theorem Step.weak {S F : List Addr} {Z H Z1 H1 : Hp} (g : Step F Z H Z1 H1) (m : ∀ a ∈ F, a ∈ S ∨ H a = none) : Step S Z H Z1 H1 :=
  ⟨g.z, g.s, fun a o na h => g.h a o (fun q => by rcases m a q with x | x; exact na x; rw [x] at h; cases h) h, g.n, g.al⟩
theorem Step.pure {S : List Addr} {Z H Z1 H1 : Hp} (g : Step [] Z H Z1 H1) : Step S Z H Z1 H1 := g.weak fun _ h => by cases h
theorem ne_of_some {H : Hp} {a p : Addr} (h : H a ≠ none) (hp : H p = none) : a ≠ p := fun e => h (e ▸ hp)
theorem some_ne {H : Hp} {a : Addr} {o : HO} (h : H a = some o) : H a ≠ none := by rw [h]; exact fun z => nomatch z
theorem same_none {Z H : Hp} (s : Same Z H) {p : Addr} (h : H p = none) : Z p = none := s.free h
theorem same_upd {H : Hp} {p : Addr} {o : HO} (h : H p = none) : Same H (upd H p o) := fun a u e => by
  rw [upd_ne (ne_of_some (some_ne e) h)]; exact e
theorem same_upd2 {Z H : Hp} {p : Addr} {o : HO} (s : Same Z H) : Same (upd Z p o) (upd H p o) := fun a u e => by
  by_cases q : a = p
  · subst q; rw [upd_same] at e ⊢; exact e
  · rw [upd_ne q] at e ⊢; exact s a u e
/-- something new that never changes -/
theorem Step.new {Z H : Hp} {p : Addr} {o : HO} (s : Same Z H) (hp : H p = none) : Step [] Z H (upd Z p o) (upd H p o) :=
  ⟨same_upd (same_none s hp), same_upd2 s, fun a u _ e => same_upd hp a u e, fun a h z => by rw [upd_ne (ne_of_some h hp)]; exact z, fun a h => by rw [upd_ne (ne_of_some h hp)]; exact h⟩
/-- something new of one's own -/
theorem Step.own {Z H : Hp} {p : Addr} {o : HO} (s : Same Z H) (hp : H p = none) : Step [] Z H Z (upd H p o) :=
  ⟨Same.refl _, s.trans (same_upd hp), fun a u _ e => same_upd hp a u e, fun _ _ z => z, fun a h => by rw [upd_ne (ne_of_some h hp)]; exact h⟩
/-- one's own is changed -/
theorem Step.set {Z H : Hp} {p : Addr} {o : HO} (s : Same Z H) (hz : Z p = none) : Step [p] Z H Z (upd H p o) := by
  refine ⟨Same.refl _, fun a u e => ?_, fun a u n e => ?_, fun _ _ z => z, fun a h => ?_⟩
  · rw [upd_ne (ne_of_some (some_ne e) hz)]; exact s a u e
  · rw [upd_ne (fun q => n (by rw [q]; exact List.mem_cons_self))]; exact e
  · by_cases q : a = p
    · subst q; rw [upd_same]; exact fun z => nomatch z
    · rw [upd_ne q]; exact h

/-! ### kinds of values -/
structure Ty (α : Type) where
  r : Hp → V → α → Prop
  mono : ∀ {Z Z' : Hp} {v : V} {x : α}, Same Z Z' → r Z v x → r Z' v x
def yInt : Ty Int := ⟨fun _ v x => v = .int x, fun _ h => h⟩
def yBool : Ty Bool := ⟨fun _ v x => v = .bl x, fun _ h => h⟩
def okS (x : Str) : Bool := PyData.strOk x && decide (x.length ≤ sizeLine)
def yStr : Ty Str := ⟨fun _ v x => v = .str x ∧ okS x = true, fun _ h => h⟩
def yNon : Ty Unit := ⟨fun _ v _ => v = .non, fun _ h => h⟩
def yOpt {α : Type} (τ : Ty α) : Ty (Option α) := ⟨fun Z v x => match x with | none => v = .non | some y => τ.r Z v y ∧ v ≠ .non, fun {_ _ _ x} s h => match x, h with | none, h => h | some _, h => ⟨τ.mono s h.1, h.2⟩⟩
/-- place by place -/
inductive All {α : Type} (R : V → α → Prop) : List V → List α → Prop
  | nil : All R [] []
  | cons {v : V} {vs : List V} {x : α} {xs : List α} : R v x → All R vs xs → All R (v :: vs) (x :: xs)
section
variable {α β : Type} {R R' : V → α → Prop}
theorem All.imp (f : ∀ v x, R v x → R' v x) : ∀ {vs : List V} {xs : List α}, All R vs xs → All R' vs xs
  | _, _, .nil => .nil
  | _, _, .cons h t => .cons (f _ _ h) (t.imp f)
theorem All.len : ∀ {vs : List V} {xs : List α}, All R vs xs → vs.length = xs.length
  | _, _, .nil => rfl
  | _, _, .cons _ t => congrArg Nat.succ t.len
theorem All.app : ∀ {vs ws : List V} {xs ys : List α}, All R vs xs → All R ws ys → All R (vs ++ ws) (xs ++ ys)
  | _, _, _, _, .nil, h => h
  | _, _, _, _, .cons h t, g => .cons h (t.app g)
theorem All.snoc {vs : List V} {xs : List α} {v : V} {x : α} (h : All R vs xs) (g : R v x) : All R (vs ++ [v]) (xs ++ [x]) := h.app (.cons g .nil)
theorem All.get : ∀ {vs : List V} {xs : List α} {i : Nat} {v : V}, All R vs xs → vs[i]? = some v → ∃ x, xs[i]? = some x ∧ R v x
  | _, _, _, _, .nil, h => by simp at h
  | _, _, 0, _, .cons h _, e => ⟨_, rfl, by have := Option.some.inj e; rw [← this]; exact h⟩
  | _, _, i + 1, _, .cons _ t, e => t.get (i := i) e
theorem All.at : ∀ {vs : List V} {xs : List α} {i : Nat} {x : α}, All R vs xs → xs[i]? = some x → ∃ v, vs[i]? = some v ∧ R v x
  | _, _, _, _, .nil, h => by simp at h
  | _, _, 0, _, .cons h _, e => ⟨_, rfl, by have := Option.some.inj e; rw [← this]; exact h⟩
  | _, _, i + 1, _, .cons _ t, e => t.at (i := i) e
theorem All.take : ∀ {vs : List V} {xs : List α} (n : Nat), All R vs xs → All R (vs.take n) (xs.take n)
  | _, _, 0, _ => .nil
  | _, _, _ + 1, .nil => .nil
  | _, _, n + 1, .cons h t => .cons h (t.take n)
theorem All.drop : ∀ {vs : List V} {xs : List α} (n : Nat), All R vs xs → All R (vs.drop n) (xs.drop n)
  | _, _, 0, h => h
  | _, _, _ + 1, .nil => .nil
  | _, _, n + 1, .cons _ t => t.drop n
theorem All.set {v : V} {x : α} (g : R v x) : ∀ {vs : List V} {xs : List α} (n : Nat), All R vs xs → All R (vs.set n v) (xs.set n x)
  | _, _, _, .nil => .nil
  | _, _, 0, .cons _ t => .cons g t
  | _, _, n + 1, .cons h t => .cons h (t.set g n)
theorem All.ints : ∀ {vs : List V} {xs : List Int}, All (fun v x => v = .int x) vs xs → vs = xs.map V.int
  | _, _, .nil => rfl
  | _, _, .cons h t => by rw [h, t.ints]; rfl
theorem All.map {f : α → V} (e : ∀ v x, R v x → v = f x) : ∀ {vs : List V} {xs : List α}, All R vs xs → vs = xs.map f
  | _, _, .nil => rfl
  | _, _, .cons h t => by rw [e _ _ h, t.map e]; rfl
theorem All.bls : ∀ {vs : List V} {xs : List Bool}, All (fun v x => v = .bl x) vs xs → vs = xs.map V.bl
  | _, _, .nil => rfl
  | _, _, .cons h t => by rw [h, t.bls]; rfl
theorem All.ofInts : ∀ xs : List Int, All (fun v x => v = .int x) (xs.map V.int) xs
  | [] => .nil
  | _ :: r => .cons rfl (All.ofInts r)
theorem All.atI {vs : List V} {xs : List α} {i : Int} {x : α} (h : All R vs xs) (e : L2.atI xs i = some x) : ∃ v, L2.atI vs i = some v ∧ R v x := by
  unfold L2.atI at e ⊢
  rw [h.len]
  cases q : ixN xs.length i with
  | none => rw [q] at e; cases e
  | some j =>
    rw [q] at e
    exact h.at (i := j) e
end
/-- a list that never changes -/
def yList {α : Type} (τ : Ty α) : Ty (List α) := ⟨fun Z v xs => ∃ a vs, v = .ref a ∧ Z a = some (.lst vs) ∧ All (τ.r Z) vs xs ∧ xs.length ≤ sizeLine,
  fun s ⟨a, vs, e, h, t, l⟩ => ⟨a, vs, e, s _ _ h, t.imp fun _ _ => τ.mono s, l⟩⟩
theorem seqT_same {K : PySem.W.Frag} {H H' : Hp} {q : Addr} {xs : List V} (f : Same H H') (h : SqT K H q xs) : SqT K H' q xs := by
  rcases h with (h | ⟨o, h⟩) | h
  · exact .inl (.inl (f _ _ h))
  · exact .inl (.inr ⟨o, f _ _ h⟩)
  · exact .inr h
section
variable (K : PySem.W.Frag)
def yTup {α : Type} (τ : Ty α) : Ty (List α) := ⟨fun Z v xs => ∃ a vs, v = .ref a ∧ SqT K Z a vs ∧ All (τ.r Z) vs xs ∧ xs.length ≤ sizeLine,
  fun s ⟨a, vs, e, h, t, l⟩ => ⟨a, vs, e, seqT_same s h, t.imp fun _ _ => τ.mono s, l⟩⟩
def yP0 : Ty Unit := ⟨fun Z v _ => ∃ a, v = .ref a ∧ SqT K Z a [], fun s ⟨a, e, h⟩ => ⟨a, e, seqT_same s h⟩⟩
def yP1 {α : Type} (τ : Ty α) : Ty α := ⟨fun Z v x => ∃ a v1, v = .ref a ∧ SqT K Z a [v1] ∧ τ.r Z v1 x, fun s ⟨a, v1, e, h, h1⟩ => ⟨a, v1, e, seqT_same s h, τ.mono s h1⟩⟩
def yP2 {α β : Type} (τ : Ty α) (υ : Ty β) : Ty (α × β) := ⟨fun Z v x => ∃ a v1 v2, v = .ref a ∧ SqT K Z a [v1, v2] ∧ τ.r Z v1 x.1 ∧ υ.r Z v2 x.2,
  fun s ⟨a, v1, v2, e, h, h1, h2⟩ => ⟨a, v1, v2, e, seqT_same s h, τ.mono s h1, υ.mono s h2⟩⟩
def yP3 {α β γ : Type} (τ : Ty α) (υ : Ty β) (φ : Ty γ) : Ty (α × β × γ) := ⟨fun Z v x => ∃ a v1 v2 v3, v = .ref a ∧ SqT K Z a [v1, v2, v3] ∧ τ.r Z v1 x.1 ∧ υ.r Z v2 x.2.1 ∧ φ.r Z v3 x.2.2,
  fun s ⟨a, v1, v2, v3, e, h, h1, h2, h3⟩ => ⟨a, v1, v2, v3, e, seqT_same s h, τ.mono s h1, υ.mono s h2, φ.mono s h3⟩⟩
def yP4 {α β γ δ : Type} (τ : Ty α) (υ : Ty β) (φ : Ty γ) (ψ : Ty δ) : Ty (α × β × γ × δ) := ⟨fun Z v x => ∃ a v1 v2 v3 v4, v = .ref a ∧ SqT K Z a [v1, v2, v3, v4] ∧ τ.r Z v1 x.1 ∧ υ.r Z v2 x.2.1 ∧ φ.r Z v3 x.2.2.1 ∧ ψ.r Z v4 x.2.2.2,
  fun s ⟨a, v1, v2, v3, v4, e, h, h1, h2, h3, h4⟩ => ⟨a, v1, v2, v3, v4, e, seqT_same s h, τ.mono s h1, υ.mono s h2, φ.mono s h3, ψ.mono s h4⟩⟩
end

/-! ### what changes: s of a kind μ stands at the addresses fp -/
structure Mu (μ : Type) where
  fp : List Addr
  m : μ → Hp → Hp → Prop
  al : ∀ {s : μ} {Z H : Hp}, m s Z H → ∀ a ∈ fp, H a ≠ none ∧ Z a = none
  loc : ∀ {s : μ} {Z H Z' H' : Hp}, Same Z Z' → (∀ a ∈ fp, ∀ o, H a = some o → H' a = some o) → (∀ a ∈ fp, H a ≠ none → Z a = none → Z' a = none) → m s Z H → m s Z' H'
def muN : Mu Unit := ⟨[], fun _ _ _ => True, fun _ _ h => (nomatch h), fun _ _ _ _ => trivial⟩
/-- what was told of more that stands still is told without it -/
def Mu.Back {μ : Type} (M : Mu μ) : Prop := ∀ {s s' : μ} {Z H Z' H' : Hp}, Same Z Z' → M.m s Z H → M.m s' Z' H' → M.m s' Z H'
theorem muN_back : muN.Back := fun _ _ _ => trivial
theorem Mu.pure {μ : Type} (M : Mu μ) {s : μ} {Z H Z' H' : Hp} (g : Step [] Z H Z' H') (h : M.m s Z H) : M.m s Z' H' := M.loc g.z (fun a _ o e => g.h a o (List.not_mem_nil) e) (fun a _ x y => g.n a x y) h
/-- what a value is, of the heaps -/
structure Rr (fp : List Addr) where
  r : Hp → Hp → V → Prop
  st : ∀ {Z H Z' H' : Hp} {v : V}, Step fp Z H Z' H' → r Z H v → r Z' H' v
structure Ra (fp : List Addr) where
  r : Hp → Hp → List V → Prop
  st : ∀ {Z H Z' H' : Hp} {vs : List V}, Step fp Z H Z' H' → r Z H vs → r Z' H' vs
def ty {fp : List Addr} {α : Type} (τ : Ty α) (x : α) : Rr fp := ⟨fun Z _ v => τ.r Z v x, fun g h => τ.mono g.z h⟩
/-- a list that may be read: one that never changes, or one of one's own -/
def RdL (fp : List Addr) (Z H : Hp) (p : Addr) (vs : List V) : Prop := Z p = some (.lst vs) ∨ (H p = some (.lst vs) ∧ p ∉ fp)
theorem RdL.st {fp : List Addr} {Z H Z' H' : Hp} {p : Addr} {vs : List V} (g : Step fp Z H Z' H') (h : RdL fp Z H p vs) : RdL fp Z' H' p vs := h.elim (fun e => .inl (g.z _ _ e)) fun e => .inr ⟨g.h _ _ e.2 e.1, e.2⟩
theorem RdL.get {fp : List Addr} {Z H : Hp} {p : Addr} {vs : List V} (s : Same Z H) (h : RdL fp Z H p vs) : H p = some (.lst vs) := h.elim (fun e => s _ _ e) fun e => e.1
def li {fp : List Addr} {α : Type} (τ : Ty α) (xs : List α) : Rr fp := ⟨fun Z H v => ∃ p vs, v = .ref p ∧ RdL fp Z H p vs ∧ All (τ.r Z) vs xs ∧ xs.length ≤ sizeLine,
  fun g ⟨p, vs, e, h, t, l⟩ => ⟨p, vs, e, h.st g, t.imp fun _ _ => τ.mono g.z, l⟩⟩
/-- an address, whatever stands there -/
def isRef {fp : List Addr} (a : Addr) : Rr fp := ⟨fun _ _ v => v = .ref a, fun _ h => h⟩
def ra0 {fp : List Addr} : Ra fp := ⟨fun _ _ vs => vs = [], fun _ h => h⟩
def rac {fp : List Addr} (R : Rr fp) (Rs : Ra fp) : Ra fp := ⟨fun Z H vs => ∃ v r, vs = v :: r ∧ R.r Z H v ∧ Rs.r Z H r, fun g ⟨v, r, e, h, t⟩ => ⟨v, r, e, R.st g h, Rs.st g t⟩⟩

section
variable {μ : Type}
/-- from the state s the expression gives a value of which R is true, and the state s' -/
def Ev (M : Mu μ) (t : TE) (σ : L2.St) (Z H : Hp) (s : μ) (R : Rr M.fp) (s' : μ) : Prop :=
  ∀ Z1 H1, Same Z Z1 → SameX M.fp H H1 → Same Z1 H1 → M.m s Z1 H1 → ∀ Q : VK, (∀ v Z2 H2, Step M.fp Z1 H1 Z2 H2 → M.m s' Z2 H2 → R.r Z2 H2 v → Q v H2) → t σ H1 Q
def EvT (M : Mu μ) (t : TT) (σ : L2.St) (Z H : Hp) (s : μ) (b : Bool) (s' : μ) : Prop :=
  ∀ Z1 H1, Same Z Z1 → SameX M.fp H H1 → Same Z1 H1 → M.m s Z1 H1 → ∀ Q : Bool → Hp → Prop, (∀ Z2 H2, Step M.fp Z1 H1 Z2 H2 → M.m s' Z2 H2 → Q b H2) → t σ H1 Q
def EvA (M : Mu μ) (t : TA) (σ : L2.St) (Z H : Hp) (s : μ) (Rs : Ra M.fp) (s' : μ) : Prop :=
  ∀ Z1 H1, Same Z Z1 → SameX M.fp H H1 → Same Z1 H1 → M.m s Z1 H1 → ∀ Q : List V → Hp → Prop, (∀ vs Z2 H2, Step M.fp Z1 H1 Z2 H2 → M.m s' Z2 H2 → Rs.r Z2 H2 vs → Q vs H2) → t σ H1 Q
variable {M : Mu μ} {σ : L2.St} {Z H : Hp} {s s' s1 s2 s3 : μ} {ta tb tc te : TE} {t : TA}
theorem Ev.up {t : TE} {R : Rr M.fp} {Z' H' : Hp} (h : Ev M t σ Z H s R s') (z : Same Z Z') (x : SameX M.fp H H') : Ev M t σ Z' H' s R s' := fun Z1 H1 a b => h Z1 H1 (z.trans a) (x.trans b)
theorem Ev.weak {t : TE} {R R' : Rr M.fp} (h : Ev M t σ Z H s R s') (f : ∀ Z H v, Same Z H → R.r Z H v → R'.r Z H v) : Ev M t σ Z H s R' s' := fun Z1 H1 a b c d Q q => h Z1 H1 a b c d Q fun v Z2 H2 e m r => q v Z2 H2 e m (f _ _ _ e.s r)
/-- nothing is done -/
theorem ev_of {t : TE} {R : Rr M.fp} (h : ∀ Z1 H1, Same Z Z1 → SameX M.fp H H1 → Same Z1 H1 → ∀ Q : VK, (∀ v, R.r Z1 H1 v → Q v H1) → t σ H1 Q) : Ev M t σ Z H s R s := fun Z1 H1 a b c d Q q => h Z1 H1 a b c Q fun v r => q v Z1 H1 (Step.refl c) d r
/-- one after the other, by values -/
theorem ev_op {R1 R3 R : Rr M.fp} {r : R2} (ha : Ev M ta σ Z H s R1 s1) (hb : Ev M tb σ Z H s1 R3 s2) (h : ∀ Z H v w, Same Z H → R1.r Z H v → R3.r Z H w → ∀ Q : VK, (∀ u Z2 H2, Step [] Z H Z2 H2 → R.r Z2 H2 u → Q u H2) → r v w H Q) : Ev M (tOp r ta tb) σ Z H s R s2 :=
  fun Z1 H1 a b c d Q q => ha Z1 H1 a b c d _ fun v Z2 H2 e m rv => hb Z2 H2 (a.trans e.z) (b.trans e.h) e.s m _ fun w Z3 H3 e2 m2 rw => h Z3 H3 v w e2.s (R1.st e2 rv) rw _ fun u Z4 H4 e3 ru => q u Z4 H4 ((e.trans e2).trans e3.pure) (M.pure e3 m2) ru
theorem ev_un {R1 R : Rr M.fp} {r : V → Hp → VK → Prop} (ha : Ev M ta σ Z H s R1 s1) (h : ∀ Z H v, Same Z H → R1.r Z H v → ∀ Q : VK, (∀ u Z2 H2, Step [] Z H Z2 H2 → R.r Z2 H2 u → Q u H2) → r v H Q) : Ev M (fun σ H Q => ta σ H fun x H1 => r x H1 Q) σ Z H s R s1 :=
  fun Z1 H1 a b c d Q q => ha Z1 H1 a b c d _ fun v Z2 H2 e m rv => h Z2 H2 v e.s rv _ fun u Z4 H4 e3 ru => q u Z4 H4 (e.trans e3.pure) (M.pure e3 m) ru
theorem eva_nil : EvA M tNil σ Z H s ra0 s := fun Z1 H1 _ _ c d Q q => q [] Z1 H1 (Step.refl c) d rfl
theorem eva_cons {R : Rr M.fp} {Rs : Ra M.fp} (ha : Ev M ta σ Z H s R s1) (hr : EvA M t σ Z H s1 Rs s2) : EvA M (tCons ta t) σ Z H s (rac R Rs) s2 :=
  fun Z1 H1 a b c d Q q => ha Z1 H1 a b c d _ fun v Z2 H2 e m rv => hr Z2 H2 (a.trans e.z) (b.trans e.h) e.s m _ fun vs Z3 H3 e2 m2 rs => q _ Z3 H3 (e.trans e2) m2 ⟨v, vs, rfl, R.st e2 rv, rs⟩
/-- by all arguments -/
theorem ev_cb {Rs : Ra M.fp} {R : Rr M.fp} {r : List V → Hp → VK → Prop} (ha : EvA M t σ Z H s Rs s1) (h : ∀ Z H vs, Same Z H → Rs.r Z H vs → ∀ Q : VK, (∀ u Z2 H2, Step [] Z H Z2 H2 → R.r Z2 H2 u → Q u H2) → r vs H Q) : Ev M (tCB r t) σ Z H s R s1 :=
  fun Z1 H1 a b c d Q q => ha Z1 H1 a b c d _ fun vs Z2 H2 e m rv => h Z2 H2 vs e.s rv _ fun u Z4 H4 e3 ru => q u Z4 H4 (e.trans e3.pure) (M.pure e3 m) ru
/-! names and constants -/
theorem ev_var {i : Nat} {v : V} {α : Type} {τ : Ty α} {x : α} (e : σ[i]? = some (some v)) (h : τ.r Z v x) : Ev M (tVar i) σ Z H s (ty τ x) s := ev_of fun _ _ a _ _ _ q => ⟨v, e, q v (τ.mono a h)⟩
/-- a list of one's own -/
theorem ev_own {i : Nat} {p : Addr} {vs : List V} {α : Type} {τ : Ty α} {xs : List α} (e : σ[i]? = some (some (.ref p))) (h : H p = some (.lst vs)) (n : p ∉ M.fp) (t : All (τ.r Z) vs xs) (l : xs.length ≤ sizeLine) : Ev M (tVar i) σ Z H s (li τ xs) s :=
  ev_of fun _ _ a b _ _ q => ⟨.ref p, e, q _ ⟨p, vs, rfl, .inr ⟨b _ _ n h, n⟩, t.imp fun _ _ => τ.mono a, l⟩⟩
theorem ev_ref {i : Nat} {p : Addr} (e : σ[i]? = some (some (.ref p))) : Ev M (tVar i) σ Z H s (isRef p) s := ev_of fun _ _ _ _ _ _ q => ⟨_, e, q _ rfl⟩
theorem ev_int {i : Int} : Ev M (tC (.int i)) σ Z H s (ty yInt i) s := ev_of fun _ _ _ _ _ _ q => q _ rfl
theorem ev_bl {i : Bool} : Ev M (tC (.bl i)) σ Z H s (ty yBool i) s := ev_of fun _ _ _ _ _ _ q => q _ rfl
theorem ev_str {i : Str} (h : okS i = true := by decide +kernel) : Ev M (tC (.str i)) σ Z H s (ty yStr i) s := ev_of fun _ _ _ _ _ _ q => q _ ⟨rfl, h⟩
theorem ev_non : Ev M (tC .non) σ Z H s (ty yNon ()) s := ev_of fun _ _ _ _ _ _ q => q _ rfl
theorem ev_const {v : V} {α : Type} {τ : Ty α} {x : α} (h : ∀ Z, τ.r Z v x) : Ev M (tC v) σ Z H s (ty τ x) s := ev_of fun _ _ _ _ _ _ q => q _ (h _)
theorem ev_li {α : Type} {τ : Ty α} {xs : List α} (h : Ev M ta σ Z H s (ty (yList τ) xs) s') : Ev M ta σ Z H s (li τ xs) s' := h.weak fun _ _ _ _ ⟨a, vs, e, g, t, l⟩ => ⟨a, vs, e, .inl g, t, l⟩
theorem ev_none {α : Type} {τ : Ty α} (h : Ev M ta σ Z H s (ty yNon ()) s') : Ev M ta σ Z H s (ty (yOpt τ) none) s' := h.weak fun _ _ _ _ e => e
/-- of this kind nothing is None -/
def NonNil {α : Type} (τ : Ty α) : Prop := ∀ Z v x, τ.r Z v x → v ≠ .non
theorem nn_int : NonNil yInt := fun _ _ _ e => by rw [show _ = V.int _ from e]; exact fun z => nomatch z
theorem nn_bool : NonNil yBool := fun _ _ _ e => by rw [show _ = V.bl _ from e]; exact fun z => nomatch z
theorem nn_str : NonNil yStr := fun _ _ _ e => by rw [show _ = V.str _ from e.1]; exact fun z => nomatch z
theorem nn_list {α : Type} {τ : Ty α} : NonNil (yList τ) := fun _ _ _ ⟨_, _, e, _⟩ => by rw [e]; exact fun z => nomatch z
theorem nn_tup {K : PySem.W.Frag} {α : Type} {τ : Ty α} : NonNil (yTup K τ) := fun _ _ _ ⟨_, _, e, _⟩ => by rw [e]; exact fun z => nomatch z
theorem nn_p2 {K : PySem.W.Frag} {α β : Type} {τ : Ty α} {υ : Ty β} : NonNil (yP2 K τ υ) := fun _ _ _ ⟨_, _, _, e, _⟩ => by rw [e]; exact fun z => nomatch z
theorem nn_p3 {K : PySem.W.Frag} {α β γ : Type} {τ : Ty α} {υ : Ty β} {φ : Ty γ} : NonNil (yP3 K τ υ φ) := fun _ _ _ ⟨_, _, _, _, e, _⟩ => by rw [e]; exact fun z => nomatch z
theorem nn_p4 {K : PySem.W.Frag} {α β γ δ : Type} {τ : Ty α} {υ : Ty β} {φ : Ty γ} {ψ : Ty δ} : NonNil (yP4 K τ υ φ ψ) := fun _ _ _ ⟨_, _, _, _, _, e, _⟩ => by rw [e]; exact fun z => nomatch z
theorem ev_some {α : Type} {τ : Ty α} {x : α} (n : NonNil τ) (h : Ev M ta σ Z H s (ty τ x) s') : Ev M ta σ Z H s (ty (yOpt τ) (some x)) s' := h.weak fun _ _ _ _ e => ⟨e, n _ _ _ e⟩
theorem ev_uno {α : Type} {τ : Ty α} {x : α} {o : Option α} (h : Ev M ta σ Z H s (ty (yOpt τ) o) s') (e : o = some x) : Ev M ta σ Z H s (ty τ x) s' := by
  subst e; exact h.weak fun _ _ _ _ e => e.1
theorem ev_cast {α : Type} {τ : Ty α} {x y : α} (h : Ev M ta σ Z H s (ty τ x) s') (e : x = y) : Ev M ta σ Z H s (ty τ y) s' := e ▸ h
/-! numbers -/
section
variable {i j : Int}
theorem ev_I0 {g : Int → Int → V} {R : Rr M.fp} (ha : Ev M ta σ Z H s (ty yInt i) s1) (hb : Ev M tb σ Z H s1 (ty yInt j) s2) (h : ∀ Z H, R.r Z H (g i j)) : Ev M (tOp (rI0 g) ta tb) σ Z H s R s2 :=
  ev_op ha hb fun _ _ _ _ sz e1 e2 _ q => ⟨i, j, e1, e2, q _ _ _ (Step.refl sz) (h _ _)⟩
theorem ev_I1 {C : Int → Int → Prop} {g : Int → Int → V} {R : Rr M.fp} (ha : Ev M ta σ Z H s (ty yInt i) s1) (hb : Ev M tb σ Z H s1 (ty yInt j) s2) (c : C i j) (h : ∀ Z H, R.r Z H (g i j)) : Ev M (tOp (rI C g) ta tb) σ Z H s R s2 :=
  ev_op ha hb fun _ _ _ _ sz e1 e2 _ q => ⟨i, j, e1, e2, c, q _ _ _ (Step.refl sz) (h _ _)⟩
theorem ev_add (ha : Ev M ta σ Z H s (ty yInt i) s1) (hb : Ev M tb σ Z H s1 (ty yInt j) s2) : Ev M (tOp (rI0 fun i j => .int (i + j)) ta tb) σ Z H s (ty yInt (i + j)) s2 := ev_I0 ha hb fun _ _ => rfl
theorem ev_sub (ha : Ev M ta σ Z H s (ty yInt i) s1) (hb : Ev M tb σ Z H s1 (ty yInt j) s2) : Ev M (tOp (rI0 fun i j => .int (i - j)) ta tb) σ Z H s (ty yInt (i - j)) s2 := ev_I0 ha hb fun _ _ => rfl
theorem ev_mul (ha : Ev M ta σ Z H s (ty yInt i) s1) (hb : Ev M tb σ Z H s1 (ty yInt j) s2) (c : CMul i j) : Ev M (tOp (rI CMul fun i j => .int (i * j)) ta tb) σ Z H s (ty yInt (i * j)) s2 := ev_I1 ha hb c fun _ _ => rfl
theorem ev_fdiv (ha : Ev M ta σ Z H s (ty yInt i) s1) (hb : Ev M tb σ Z H s1 (ty yInt j) s2) (c : CDiv i j) : Ev M (tOp (rI CDiv fun i j => .int (i / j)) ta tb) σ Z H s (ty yInt (i / j)) s2 := ev_I1 ha hb c fun _ _ => rfl
theorem ev_mod (ha : Ev M ta σ Z H s (ty yInt i) s1) (hb : Ev M tb σ Z H s1 (ty yInt j) s2) (c : 0 < j) : Ev M (tOp (rI (fun _ j => 0 < j) fun i j => .int (i % j)) ta tb) σ Z H s (ty yInt (i % j)) s2 := ev_I1 (C := fun _ j => 0 < j) ha hb c fun _ _ => rfl
theorem ev_pow (ha : Ev M ta σ Z H s (ty yInt i) s1) (hb : Ev M tb σ Z H s1 (ty yInt j) s2) (c : CPow i j) : Ev M (tOp (rI CPow fun i j => .int (i ^ j.toNat)) ta tb) σ Z H s (ty yInt (i ^ j.toNat)) s2 := ev_I1 ha hb c fun _ _ => rfl
theorem ev_tun {R1 R : Rr M.fp} {r : V → Hp → VK → Prop} (ha : Ev M ta σ Z H s R1 s1) (h : ∀ Z H v, Same Z H → R1.r Z H v → ∀ Q : VK, (∀ u Z2 H2, Step [] Z H Z2 H2 → R.r Z2 H2 u → Q u H2) → r v H Q) : Ev M (tUn r ta) σ Z H s R s1 :=
  fun Z1 H1 a b c d Q q => ha Z1 H1 a b c d _ fun v Z2 H2 e m rv => h Z2 H2 v e.s rv _ fun u Z4 H4 e3 ru => q u Z4 H4 (e.trans e3.pure) (M.pure e3 m) ru
theorem ev_neg (ha : Ev M ta σ Z H s (ty yInt i) s1) : Ev M (tUn (rU fun i => .int (-i)) ta) σ Z H s (ty yInt (-i)) s1 := ev_tun ha fun _ _ _ sz e _ q => ⟨i, e, q _ _ _ (Step.refl sz) rfl⟩
theorem ev_lt (ha : Ev M ta σ Z H s (ty yInt i) s1) (hb : Ev M tb σ Z H s1 (ty yInt j) s2) : Ev M (tOp (rI0 fun i j => .bl (decide (i < j))) ta tb) σ Z H s (ty yBool (decide (i < j))) s2 := ev_I0 ha hb fun _ _ => rfl
theorem ev_le (ha : Ev M ta σ Z H s (ty yInt i) s1) (hb : Ev M tb σ Z H s1 (ty yInt j) s2) : Ev M (tOp (rI0 fun i j => .bl (decide (i ≤ j))) ta tb) σ Z H s (ty yBool (decide (i ≤ j))) s2 := ev_I0 ha hb fun _ _ => rfl
theorem ev_gt (ha : Ev M ta σ Z H s (ty yInt i) s1) (hb : Ev M tb σ Z H s1 (ty yInt j) s2) : Ev M (tOp (rI0 fun i j => .bl (decide (j < i))) ta tb) σ Z H s (ty yBool (decide (j < i))) s2 := ev_I0 ha hb fun _ _ => rfl
theorem ev_ge (ha : Ev M ta σ Z H s (ty yInt i) s1) (hb : Ev M tb σ Z H s1 (ty yInt j) s2) : Ev M (tOp (rI0 fun i j => .bl (decide (j ≤ i))) ta tb) σ Z H s (ty yBool (decide (j ≤ i))) s2 := ev_I0 ha hb fun _ _ => rfl
end
/-! equality of flat things -/
/-- flat: the value is told by the thing alone -/
structure Flat {α : Type} (τ : Ty α) (f : α → V) : Prop where
  eq : ∀ Z v x, τ.r Z v x → v = f x
  inj : ∀ x y, f x = f y → x = y
  sc : ∀ x y, scal (f x) (f y) = true
theorem flat_int : Flat yInt V.int := ⟨fun _ _ _ h => h, fun _ _ h => V.int.inj h, fun _ _ => rfl⟩
theorem flat_str : Flat yStr V.str := ⟨fun _ _ _ h => h.1, fun _ _ h => V.str.inj h, fun _ _ => rfl⟩
theorem flat_bool : Flat yBool V.bl := ⟨fun _ _ _ h => h, fun _ _ h => V.bl.inj h, fun _ _ => rfl⟩
section
variable {α : Type} {τ : Ty α} {f : α → V} {x y : α}
theorem ev_eq [DecidableEq α] (F : Flat τ f) (ha : Ev M ta σ Z H s (ty τ x) s1) (hb : Ev M tb σ Z H s1 (ty τ y) s2) : Ev M (tOp rEq ta tb) σ Z H s (ty yBool (decide (x = y))) s2 :=
  ev_op ha hb fun Z H v w sz e1 e2 Q q => by
    rw [F.eq _ _ _ e1, F.eq _ _ _ e2]
    have : decide (f x = f y) = decide (x = y) := decide_eq_decide.mpr ⟨F.inj x y, congrArg f⟩
    exact ⟨F.sc _ _, q _ _ _ (Step.refl sz) (congrArg V.bl this)⟩
theorem ev_ne [DecidableEq α] (F : Flat τ f) (ha : Ev M ta σ Z H s (ty τ x) s1) (hb : Ev M tb σ Z H s1 (ty τ y) s2) : Ev M (tOp rNe ta tb) σ Z H s (ty yBool (!decide (x = y))) s2 :=
  ev_op ha hb fun Z H v w sz e1 e2 Q q => by
    rw [F.eq _ _ _ e1, F.eq _ _ _ e2]
    have : decide (f x = f y) = decide (x = y) := decide_eq_decide.mpr ⟨F.inj x y, congrArg f⟩
    exact ⟨F.sc _ _, q _ _ _ (Step.refl sz) (congrArg (fun b => V.bl (!b)) this)⟩
end
theorem ev_isN {α : Type} {τ : Ty α} {o : Option α} (ha : Ev M ta σ Z H s (ty (yOpt τ) o) s1) (hb : Ev M tb σ Z H s1 (ty yNon ()) s2) : Ev M (tOp (fun x y H Q => y = .non ∧ Q (.bl (decide (x = .non))) H) ta tb) σ Z H s (ty yBool o.isNone) s2 :=
  ev_op ha hb fun Z H v w sz e1 e2 Q q => by
    refine ⟨e2, q _ _ _ (Step.refl sz) ?_⟩
    cases o with
    | none => rw [show v = .non from e1]; rfl
    | some y => rw [show decide (v = .non) = false from decide_eq_false e1.2]; rfl
theorem ev_notN {α : Type} {τ : Ty α} {o : Option α} (ha : Ev M ta σ Z H s (ty (yOpt τ) o) s1) (hb : Ev M tb σ Z H s1 (ty yNon ()) s2) : Ev M (tOp (fun x y H Q => y = .non ∧ Q (.bl (!decide (x = .non))) H) ta tb) σ Z H s (ty yBool o.isSome) s2 :=
  ev_op ha hb fun Z H v w sz e1 e2 Q q => by
    refine ⟨e2, q _ _ _ (Step.refl sz) ?_⟩
    cases o with
    | none => rw [show v = .non from e1]; rfl
    | some y => rw [show decide (v = .non) = false from decide_eq_false e1.2]; rfl
/-! and, or, not, if, as values -/
theorem ev_and {a b : Bool} {o : Option (Bool × μ)} (ha : Ev M ta σ Z H s (ty yBool a) s1) (hb : a = true → ∀ y s', o = some (y, s') → Ev M tb σ Z H s1 (ty yBool y) s') (h : (if a = true then o else some (false, s1)) = some (b, s2)) : Ev M (tAndV ta tb) σ Z H s (ty yBool b) s2 :=
  fun Z1 H1 p q r d Q k => ha Z1 H1 p q r d _ fun v Z2 H2 e m rv => ⟨a, rv, by
    cases a with
    | true => rw [if_pos rfl] at h ⊢; exact hb rfl b s2 h Z2 H2 (p.trans e.z) (q.trans e.h) e.s m _ fun w Z3 H3 e2 m2 rw => k w Z3 H3 (e.trans e2) m2 rw
    | false => rw [if_neg Bool.false_ne_true] at h ⊢; cases h; exact k _ Z2 H2 e m rfl⟩
theorem ev_or {a b : Bool} {o : Option (Bool × μ)} (ha : Ev M ta σ Z H s (ty yBool a) s1) (hb : a = false → ∀ y s', o = some (y, s') → Ev M tb σ Z H s1 (ty yBool y) s') (h : (if a = true then some (true, s1) else o) = some (b, s2)) : Ev M (tOrV ta tb) σ Z H s (ty yBool b) s2 :=
  fun Z1 H1 p q r d Q k => ha Z1 H1 p q r d _ fun v Z2 H2 e m rv => ⟨a, rv, by
    cases a with
    | false => rw [if_neg Bool.false_ne_true] at h ⊢; exact hb rfl b s2 h Z2 H2 (p.trans e.z) (q.trans e.h) e.s m _ fun w Z3 H3 e2 m2 rw => k w Z3 H3 (e.trans e2) m2 rw
    | true => rw [if_pos rfl] at h ⊢; cases h; exact k _ Z2 H2 e m rfl⟩
theorem ev_and0 {a b : Bool} (ha : Ev M ta σ Z H s (ty yBool a) s1) (hb : Ev M tb σ Z H s1 (ty yBool b) s1) : Ev M (tAndV ta tb) σ Z H s (ty yBool (a && b)) s1 :=
  ev_and (o := some (b, s1)) ha (fun _ y s' e => by cases e; exact hb) (by cases a <;> rfl)
theorem ev_or0 {a b : Bool} (ha : Ev M ta σ Z H s (ty yBool a) s1) (hb : Ev M tb σ Z H s1 (ty yBool b) s1) : Ev M (tOrV ta tb) σ Z H s (ty yBool (a || b)) s1 :=
  ev_or (o := some (b, s1)) ha (fun _ y s' e => by cases e; exact hb) (by cases a <;> rfl)
theorem ev_not {a : Bool} (ha : Ev M ta σ Z H s (ty yBool a) s1) : Ev M (tNotV ta) σ Z H s (ty yBool (!a)) s1 :=
  fun Z1 H1 p q r d Q k => ha Z1 H1 p q r d _ fun v Z2 H2 e m rv => ⟨a, rv, k _ Z2 H2 e m rfl⟩
theorem ev_if {tt : TT} {a : Bool} {R : Rr M.fp} (ht : EvT M tt σ Z H s a s1) (ha : a = true → Ev M ta σ Z H s1 R s2) (hb : a = false → Ev M tb σ Z H s1 R s2) : Ev M (tIf tt ta tb) σ Z H s R s2 :=
  fun Z1 H1 p q r d Q k => ht Z1 H1 p q r d _ fun Z2 H2 e m => by
    cases a with
    | true => rw [if_pos rfl]; exact ha rfl Z2 H2 (p.trans e.z) (q.trans e.h) e.s m _ fun w Z3 H3 e2 m2 rw => k w Z3 H3 (e.trans e2) m2 rw
    | false => rw [if_neg Bool.false_ne_true]; exact hb rfl Z2 H2 (p.trans e.z) (q.trans e.h) e.s m _ fun w Z3 H3 e2 m2 rw => k w Z3 H3 (e.trans e2) m2 rw
theorem ev_if0 {tt : TT} {a : Bool} {α : Type} {τ : Ty α} {x y : α} (ht : EvT M tt σ Z H s a s1) (ha : Ev M ta σ Z H s1 (ty τ x) s1) (hb : Ev M tb σ Z H s1 (ty τ y) s1) : Ev M (tIf tt ta tb) σ Z H s (ty τ (if a = true then x else y)) s1 :=
  ev_if ht (fun e => by rw [if_pos e]; exact ha) (fun e => by rw [if_neg (by rw [e]; exact Bool.false_ne_true)]; exact hb)
/-! tests -/
theorem et_val {a : Bool} (h : Ev M te σ Z H s (ty yBool a) s1) : EvT M (tB te) σ Z H s a s1 := fun Z1 H1 p q r d _ k => h Z1 H1 p q r d _ fun _ Z2 H2 e m rv => ⟨a, rv, k Z2 H2 e m⟩
theorem et_cmp {a : Bool} (h : Ev M te σ Z H s (ty yBool a) s1) : EvT M (tTest te) σ Z H s a s1 := fun Z1 H1 p q r d _ k => h Z1 H1 p q r d _ fun _ Z2 H2 e m rv => ⟨a, rv, k Z2 H2 e m⟩
section
variable {tA tB' : TT} {a b : Bool}
theorem et_and {o : Option (Bool × μ)} (ha : EvT M tA σ Z H s a s1) (hb : a = true → ∀ y s', o = some (y, s') → EvT M tB' σ Z H s1 y s') (h : (if a = true then o else some (false, s1)) = some (b, s2)) : EvT M (tAnd tA tB') σ Z H s b s2 :=
  fun Z1 H1 p q r d Q k => ha Z1 H1 p q r d _ fun Z2 H2 e m => by
    cases a with
    | true => rw [if_pos rfl] at h ⊢; exact hb rfl b s2 h Z2 H2 (p.trans e.z) (q.trans e.h) e.s m _ fun Z3 H3 e2 m2 => k Z3 H3 (e.trans e2) m2
    | false => rw [if_neg Bool.false_ne_true] at h ⊢; cases h; exact k Z2 H2 e m
theorem et_or {o : Option (Bool × μ)} (ha : EvT M tA σ Z H s a s1) (hb : a = false → ∀ y s', o = some (y, s') → EvT M tB' σ Z H s1 y s') (h : (if a = true then some (true, s1) else o) = some (b, s2)) : EvT M (tOr tA tB') σ Z H s b s2 :=
  fun Z1 H1 p q r d Q k => ha Z1 H1 p q r d _ fun Z2 H2 e m => by
    cases a with
    | false => rw [if_neg Bool.false_ne_true] at h ⊢; exact hb rfl b s2 h Z2 H2 (p.trans e.z) (q.trans e.h) e.s m _ fun Z3 H3 e2 m2 => k Z3 H3 (e.trans e2) m2
    | true => rw [if_pos rfl] at h ⊢; cases h; exact k Z2 H2 e m
theorem et_and0 (ha : EvT M tA σ Z H s a s1) (hb : EvT M tB' σ Z H s1 b s1) : EvT M (tAnd tA tB') σ Z H s (a && b) s1 := et_and (o := some (b, s1)) ha (fun _ y s' e => by cases e; exact hb) (by cases a <;> rfl)
theorem et_or0 (ha : EvT M tA σ Z H s a s1) (hb : EvT M tB' σ Z H s1 b s1) : EvT M (tOr tA tB') σ Z H s (a || b) s1 := et_or (o := some (b, s1)) ha (fun _ y s' e => by cases e; exact hb) (by cases a <;> rfl)
theorem et_not (ha : EvT M tA σ Z H s a s1) : EvT M (tNot tA) σ Z H s (!a) s1 := fun Z1 H1 p q r d _ k => ha Z1 H1 p q r d _ k
end
end
end TP

namespace TP
open PySem PySem.Spec PyProof.Rows L2
instance {i j : Int} : Decidable (CMul i j) := inferInstanceAs (Decidable ((_ ∧ _) ∨ (_ ∧ _)))
instance {i j : Int} : Decidable (CDiv i j) := inferInstanceAs (Decidable (_ ∧ _))
instance {i j : Int} : Decidable (CPow i j) := inferInstanceAs (Decidable (_ ∧ _ ∧ _))
section
variable {μ : Type} {M : Mu μ} {σ : L2.St} {Z H : Hp} {s s' s1 s2 s3 : μ} {ta tb tc te : TE} {t : TA} {K : PySem.W.Frag}
theorem same_x {S : List Addr} {Z H Z1 H1 : Hp} (g : Step S Z H Z1 H1) {p : Addr} (h : H1 p = none) : H p = none := by
  cases q : H p with
  | none => rfl
  | some o => exact absurd h (g.al p (some_ne q))
theorem fresh_fp {fp : List Addr} {Z H : Hp} {p : Addr} {o : HO} (sz : Same Z H) (hp : H p = none) : Step fp Z H (upd Z p o) (upd H p o) := (Step.new sz hp).pure
/-! ### texts -/
theorem okS_app {x y : Str} (hx : okS x = true) (hy : okS y = true) (l : x.length + y.length ≤ sizeLine) : okS (x ++ y) = true := by
  unfold okS PyData.strOk at *
  rw [Bool.and_eq_true] at hx hy ⊢
  refine ⟨?_, ?_⟩
  · have e : (x ++ y).cps = x.cps ++ y.cps := rfl
    rw [e, Array.all_append, hx.1, hy.1]; rfl
  · refine decide_eq_true ?_
    have e : (x ++ y).length = x.length + y.length := by
      show (x.cps ++ y.cps).size = _
      rw [Array.size_append]; rfl
    omega
theorem ev_cat_str {x y : Str} (ha : Ev M ta σ Z H s (ty yStr x) s1) (hb : Ev M tb σ Z H s1 (ty yStr y) s2) (l : x.length + y.length ≤ sizeLine) : Ev M (tOp (fun x y H Q => ∃ i j, x = .str i ∧ y = .str j ∧ i.length + j.length ≤ sizeLine ∧ Q (.str (i ++ j)) H) ta tb) σ Z H s (ty yStr (x ++ y)) s2 :=
  ev_op ha hb fun _ _ _ _ sz e1 e2 _ q => ⟨x, y, e1.1, e2.1, l, q _ _ _ (Step.refl sz) ⟨rfl, okS_app e1.2 e2.2 l⟩⟩
theorem ev_lt_str {x y : Str} (ha : Ev M ta σ Z H s (ty yStr x) s1) (hb : Ev M tb σ Z H s1 (ty yStr y) s2) : Ev M (tOp (fun x y H Q => ∃ i j, x = .str i ∧ y = .str j ∧ Q (.bl (decide (i.cps.toList < j.cps.toList))) H) ta tb) σ Z H s (ty yBool (decide (x.cps.toList < y.cps.toList))) s2 :=
  ev_op ha hb fun _ _ _ _ sz e1 e2 _ q => ⟨x, y, e1.1, e2.1, q _ _ _ (Step.refl sz) rfl⟩
theorem ev_len_str {x : Str} (ha : Ev M ta σ Z H s (ty yStr x) s1) : Ev M (tCB (fun xs H Q => ∃ z, xs = [.str z] ∧ z.length ≤ sizeLine ∧ Q (.int z.length) H) (tCons ta tNil)) σ Z H s (ty yInt (x.length : Nat)) s1 :=
  ev_cb (eva_cons ha eva_nil) fun _ _ vs sz ⟨v, r, e, h, e2⟩ Q q => ⟨x, by rw [e, h.1, show r = [] from e2], of_decide_eq_true (Bool.and_eq_true_iff.mp (show (PyData.strOk x && decide (x.length ≤ sizeLine)) = true from h.2)).2, q _ _ _ (Step.refl sz) rfl⟩
/-! ### lists and tuples that are made -/
theorem ev_tup {Rs : Ra M.fp} {R : Rr M.fp} (ha : EvA M t σ Z H s Rs s1) (h : ∀ Z H vs, Same Z H → Rs.r Z H vs → vs.length ≤ sizeLine ∧ ∀ p, H p = none → R.r (upd Z p (.tup vs)) (upd H p (.tup vs)) (.ref p)) : Ev M (tTup t) σ Z H s R s1 :=
  fun Z1 H1 a b c d Q q => ha Z1 H1 a b c d _ fun vs Z2 H2 e m rv => by
    obtain ⟨l, hr⟩ := h Z2 H2 vs e.s rv
    exact ⟨l, fun p hp => q _ _ _ (e.trans (fresh_fp e.s hp)) (M.pure (Step.new e.s hp) m) (hr p hp)⟩
theorem ev_lst {Rs : Ra M.fp} {R : Rr M.fp} (ha : EvA M t σ Z H s Rs s1) (h : ∀ Z H vs, Same Z H → Rs.r Z H vs → vs.length ≤ sizeLine ∧ ∀ p, H p = none → R.r (upd Z p (.lst vs)) (upd H p (.lst vs)) (.ref p)) : Ev M (tLst t) σ Z H s R s1 :=
  fun Z1 H1 a b c d Q q => ha Z1 H1 a b c d _ fun vs Z2 H2 e m rv => by
    obtain ⟨l, hr⟩ := h Z2 H2 vs e.s rv
    exact ⟨l, fun p hp => q _ _ _ (e.trans (fresh_fp e.s hp)) (M.pure (Step.new e.s hp) m) (hr p hp)⟩
theorem sqT_new {Z : Hp} {p : Addr} {vs : List V} : SqT K (upd Z p (.tup vs)) p vs := .inl (.inl upd_same)
section
variable {α β γ δ : Type} {τ : Ty α} {υ : Ty β} {φ : Ty γ} {ψ : Ty δ} {x : α} {y : β} {z : γ} {u : δ}
theorem ev_p0 : Ev M (tTup tNil) σ Z H s (ty (yP0 K) ()) s := ev_tup eva_nil fun _ _ vs _ e => ⟨by rw [show vs = [] from e]; exact Nat.zero_le _, fun p _ => ⟨p, rfl, by rw [show vs = [] from e]; exact sqT_new⟩⟩
theorem ev_p1 (ha : EvA M t σ Z H s (rac (ty τ x) ra0) s1) : Ev M (tTup t) σ Z H s (ty (yP1 K τ) x) s1 :=
  ev_tup ha fun Z H vs sz ⟨v1, r1, e1, h1, e2⟩ => by
    cases e2; cases e1
    exact ⟨by show 1 ≤ sizeLine; decide, fun p hp => ⟨p, v1, rfl, sqT_new, τ.mono (same_upd (same_none sz hp)) h1⟩⟩
theorem ev_p2 (ha : EvA M t σ Z H s (rac (ty τ x) (rac (ty υ y) ra0)) s1) : Ev M (tTup t) σ Z H s (ty (yP2 K τ υ) (x, y)) s1 :=
  ev_tup ha fun Z H vs sz ⟨v1, r1, e1, h1, v2, r2, e2, h2, e3⟩ => by
    cases e3; cases e2; cases e1
    exact ⟨by show 2 ≤ sizeLine; decide, fun p hp => have q := same_upd (same_none sz hp); ⟨p, v1, v2, rfl, sqT_new, τ.mono q h1, υ.mono q h2⟩⟩
theorem ev_p3 (ha : EvA M t σ Z H s (rac (ty τ x) (rac (ty υ y) (rac (ty φ z) ra0))) s1) : Ev M (tTup t) σ Z H s (ty (yP3 K τ υ φ) (x, y, z)) s1 :=
  ev_tup ha fun Z H vs sz ⟨v1, r1, e1, h1, v2, r2, e2, h2, v3, r3, e3, h3, e4⟩ => by
    cases e4; cases e3; cases e2; cases e1
    exact ⟨by show 3 ≤ sizeLine; decide, fun p hp => have q := same_upd (same_none sz hp); ⟨p, v1, v2, v3, rfl, sqT_new, τ.mono q h1, υ.mono q h2, φ.mono q h3⟩⟩
theorem ev_p4 (ha : EvA M t σ Z H s (rac (ty τ x) (rac (ty υ y) (rac (ty φ z) (rac (ty ψ u) ra0)))) s1) : Ev M (tTup t) σ Z H s (ty (yP4 K τ υ φ ψ) (x, y, z, u)) s1 :=
  ev_tup ha fun Z H vs sz ⟨v1, r1, e1, h1, v2, r2, e2, h2, v3, r3, e3, h3, v4, r4, e4, h4, e5⟩ => by
    cases e5; cases e4; cases e3; cases e2; cases e1
    exact ⟨by show 4 ≤ sizeLine; decide, fun p hp => have q := same_upd (same_none sz hp); ⟨p, v1, v2, v3, v4, rfl, sqT_new, τ.mono q h1, υ.mono q h2, φ.mono q h3, ψ.mono q h4⟩⟩
/-- arguments all of one kind -/
def ras {fp : List Addr} (τ : Ty α) (xs : List α) : Ra fp := ⟨fun Z _ vs => All (τ.r Z) vs xs, fun g h => h.imp fun _ _ => τ.mono g.z⟩
theorem eva_nils : EvA M tNil σ Z H s (ras τ []) s := fun Z1 H1 _ _ c d Q q => q [] Z1 H1 (Step.refl c) d .nil
theorem eva_conss {xs : List α} (ha : Ev M ta σ Z H s (ty τ x) s1) (hr : EvA M t σ Z H s1 (ras τ xs) s2) : EvA M (tCons ta t) σ Z H s (ras τ (x :: xs)) s2 :=
  fun Z1 H1 a b c d Q q => ha Z1 H1 a b c d _ fun v Z2 H2 e m rv => hr Z2 H2 (a.trans e.z) (b.trans e.h) e.s m _ fun vs Z3 H3 e2 m2 rs => q _ Z3 H3 (e.trans e2) m2 (.cons (τ.mono e2.z rv) rs)
/-- a new list of one's own -/
def EvN {α : Type} (M : Mu μ) (t : TE) (σ : L2.St) (Z H : Hp) (s : μ) (τ : Ty α) (xs : List α) (s' : μ) : Prop :=
  ∀ Z1 H1, Same Z Z1 → SameX M.fp H H1 → Same Z1 H1 → M.m s Z1 H1 → ∀ Q : VK, (∀ p vs Z2 H2, Step M.fp Z1 H1 Z2 H2 → M.m s' Z2 H2 → H1 p = none → Z2 p = none → H2 p = some (.lst vs) → All (τ.r Z2) vs xs → xs.length ≤ sizeLine → Q (.ref p) H2) → t σ H1 Q
theorem Step.fz {S : List Addr} {Z H Z1 H1 : Hp} {x : Addr} {o : HO} (g : Step S Z H Z1 H1) (hx : H x = none) (h1 : H1 x = some o) (hz : Z1 x = none) : Step S Z H (upd Z1 x o) H1 := by
  refine ⟨g.z.trans (same_upd hz), fun a u e => ?_, g.h, fun a h z => ?_, g.al⟩
  · by_cases q : a = x
    · subst q; rw [upd_same] at e; rw [← Option.some.inj e]; exact h1
    · rw [upd_ne q] at e; exact g.s a u e
  · rw [upd_ne (ne_of_some h hx)]; exact g.n a h z
theorem Mu.fz {M : Mu μ} {s : μ} {Z H : Hp} {x : Addr} {o : HO} (m : M.m s Z H) (hz : Z x = none) (nx : x ∉ M.fp) : M.m s (upd Z x o) H := by
  refine M.loc (same_upd hz) (fun _ _ _ x => x) (fun a ha _ z => ?_) m
  rw [upd_ne (fun q => nx (by rw [← q]; exact ha))]
  exact z
theorem ev_fz {α : Type} {τ : Ty α} {xs : List α} (h : EvN M ta σ Z H s τ xs s1) : Ev M ta σ Z H s (ty (yList τ) xs) s1 :=
  fun Z1 H1 a b c d Q q => h Z1 H1 a b c d Q fun p vs Z2 H2 e m hp zp h2 t l =>
    q _ _ _ (e.fz hp h2 zp) (Mu.fz m zp (fun hf => (M.al d p hf).1 hp)) ⟨p, vs, rfl, upd_same, t.imp fun _ _ => τ.mono (same_upd zp), l⟩
theorem en_op {α : Type} {τ : Ty α} {xs : List α} {R1 R3 : Rr M.fp} {r : R2} (ha : Ev M ta σ Z H s R1 s1) (hb : Ev M tb σ Z H s1 R3 s2) (h : ∀ Z H v w, Same Z H → R1.r Z H v → R3.r Z H w → ∃ vs, All (τ.r Z) vs xs ∧ xs.length ≤ sizeLine ∧ ∀ Q : VK, (∀ p, H p = none → Q (.ref p) (upd H p (.lst vs))) → r v w H Q) : EvN M (tOp r ta tb) σ Z H s τ xs s2 :=
  fun Z1 H1 a b c d Q q => ha Z1 H1 a b c d _ fun v Z2 H2 e m rv => hb Z2 H2 (a.trans e.z) (b.trans e.h) e.s m _ fun w Z3 H3 e2 m2 rw => by
    obtain ⟨vs, t, l, k⟩ := h Z3 H3 v w e2.s (R1.st e2 rv) rw
    refine k _ fun p hp => ?_
    have e3 := Step.own (o := .lst vs) e2.s hp
    exact q p vs Z3 _ ((e.trans e2).trans e3.pure) (M.pure e3 m2) (same_x (e.trans e2) hp) (same_none e2.s hp) upd_same t l
theorem en_cb {α : Type} {τ : Ty α} {xs : List α} {Rs : Ra M.fp} {r : List V → Hp → VK → Prop} (ha : EvA M t σ Z H s Rs s1) (h : ∀ Z H vs, Same Z H → Rs.r Z H vs → ∃ ws, All (τ.r Z) ws xs ∧ xs.length ≤ sizeLine ∧ ∀ Q : VK, (∀ p, H p = none → Q (.ref p) (upd H p (.lst ws))) → r vs H Q) : EvN M (tCB r t) σ Z H s τ xs s1 :=
  fun Z1 H1 a b c d Q q => ha Z1 H1 a b c d _ fun v Z2 H2 e m rv => by
    obtain ⟨vs, t, l, k⟩ := h Z2 H2 v e.s rv
    refine k _ fun p hp => ?_
    have e3 := Step.own (o := .lst vs) e.s hp
    exact q p vs Z2 _ (e.trans e3.pure) (M.pure e3 m) (same_x e hp) (same_none e.s hp) upd_same t l
theorem en_listD {xs : List α} (ha : EvA M t σ Z H s (ras τ xs) s1) (l : xs.length ≤ sizeLine) : EvN M (tLst t) σ Z H s τ xs s1 :=
  fun Z1 H1 a b c d Q q => ha Z1 H1 a b c d _ fun vs Z2 H2 e m rv => ⟨by rw [All.len rv]; exact l, fun p hp => by
    have e3 := Step.own (o := .lst vs) e.s hp
    exact q p vs Z2 _ (e.trans e3.pure) (M.pure e3 m) (same_x e hp) (same_none e.s hp) upd_same rv l⟩
theorem ev_tupD {xs : List α} (ha : EvA M t σ Z H s (ras τ xs) s1) (l : xs.length ≤ sizeLine) : Ev M (tTup t) σ Z H s (ty (yTup K τ) xs) s1 :=
  ev_tup ha fun Z H vs sz h => ⟨by rw [h.len]; exact l, fun p hp => ⟨p, vs, rfl, sqT_new, h.imp fun _ _ => τ.mono (same_upd (same_none sz hp)), l⟩⟩
/-! ### lists and tuples that are read -/
variable {xs ys : List α}
theorem rdl {fp : List Addr} {Z H : Hp} {v : V} (sz : Same Z H) (h : (li (fp := fp) τ xs).r Z H v) : ∃ p vs, v = .ref p ∧ H p = some (.lst vs) ∧ All (τ.r Z) vs xs ∧ xs.length ≤ sizeLine := by
  obtain ⟨p, vs, e, g, t, l⟩ := h
  exact ⟨p, vs, e, g.get sz, t, l⟩
theorem ev_ixL {i : Int} (ha : Ev M ta σ Z H s (li τ xs) s1) (hb : Ev M tb σ Z H s1 (ty yInt i) s2) (e : atI xs i = some x) : Ev M (tOp (rIxL K) ta tb) σ Z H s (ty τ x) s2 :=
  ev_op ha hb fun _ _ _ _ sz e1 e2 _ q => by
    obtain ⟨p, vs, rfl, g, t, _⟩ := rdl sz e1
    obtain ⟨w, hw, rw'⟩ := t.atI e
    exact ⟨p, vs, i, w, rfl, e2, SqL.of g, hw, q _ _ _ (Step.refl sz) rw'⟩
theorem ev_ixT {i : Int} (ha : Ev M ta σ Z H s (ty (yTup K τ) xs) s1) (hb : Ev M tb σ Z H s1 (ty yInt i) s2) (e : atI xs i = some x) : Ev M (tOp (rIxT K) ta tb) σ Z H s (ty τ x) s2 :=
  ev_op ha hb fun _ _ _ _ sz e1 e2 _ q => by
    obtain ⟨p, vs, rfl, g, t, _⟩ := e1
    obtain ⟨w, hw, rw'⟩ := t.atI e
    exact ⟨p, vs, i, w, rfl, e2, seqT_same sz g, hw, q _ _ _ (Step.refl sz) rw'⟩
/-- a part of a tuple by its written place -/
def PartOf {α' β' : Type} (K : PySem.W.Frag) (τ : Ty α') (i : Int) (τ' : Ty β') (f : α' → β') : Prop := ∀ Z v x, τ.r Z v x → ∃ a vs w, v = .ref a ∧ SqT K Z a vs ∧ atI vs i = some w ∧ τ'.r Z w (f x)
theorem po1_0 : PartOf K (yP1 K τ) 0 τ id := fun _ _ _ ⟨a, v1, e, h, h1⟩ => ⟨a, _, v1, e, h, rfl, h1⟩
theorem po2_0 : PartOf K (yP2 K τ υ) 0 τ Prod.fst := fun _ _ _ ⟨a, v1, v2, e, h, h1, _⟩ => ⟨a, _, v1, e, h, rfl, h1⟩
theorem po2_1 : PartOf K (yP2 K τ υ) 1 υ Prod.snd := fun _ _ _ ⟨a, v1, v2, e, h, _, h1⟩ => ⟨a, _, v2, e, h, rfl, h1⟩
theorem po3_0 : PartOf K (yP3 K τ υ φ) 0 τ (fun x => x.1) := fun _ _ _ ⟨a, v1, v2, v3, e, h, h1, _⟩ => ⟨a, _, v1, e, h, rfl, h1⟩
theorem po3_1 : PartOf K (yP3 K τ υ φ) 1 υ (fun x => x.2.1) := fun _ _ _ ⟨a, v1, v2, v3, e, h, _, h1, _⟩ => ⟨a, _, v2, e, h, rfl, h1⟩
theorem po3_2 : PartOf K (yP3 K τ υ φ) 2 φ (fun x => x.2.2) := fun _ _ _ ⟨a, v1, v2, v3, e, h, _, _, h1⟩ => ⟨a, _, v3, e, h, rfl, h1⟩
theorem po4_0 : PartOf K (yP4 K τ υ φ ψ) 0 τ (fun x => x.1) := fun _ _ _ ⟨a, v1, v2, v3, v4, e, h, h1, _⟩ => ⟨a, _, v1, e, h, rfl, h1⟩
theorem po4_1 : PartOf K (yP4 K τ υ φ ψ) 1 υ (fun x => x.2.1) := fun _ _ _ ⟨a, v1, v2, v3, v4, e, h, _, h1, _⟩ => ⟨a, _, v2, e, h, rfl, h1⟩
theorem po4_2 : PartOf K (yP4 K τ υ φ ψ) 2 φ (fun x => x.2.2.1) := fun _ _ _ ⟨a, v1, v2, v3, v4, e, h, _, _, h1, _⟩ => ⟨a, _, v3, e, h, rfl, h1⟩
theorem po4_3 : PartOf K (yP4 K τ υ φ ψ) 3 ψ (fun x => x.2.2.2) := fun _ _ _ ⟨a, v1, v2, v3, v4, e, h, _, _, _, h1⟩ => ⟨a, _, v4, e, h, rfl, h1⟩
theorem ev_part {i : Int} {f : α → β} (P : PartOf K τ i υ f) (ha : Ev M ta σ Z H s (ty τ x) s1) (hb : Ev M tb σ Z H s1 (ty yInt i) s2) : Ev M (tOp (rIxT K) ta tb) σ Z H s (ty υ (f x)) s2 :=
  ev_op ha hb fun _ _ _ _ sz e1 e2 _ q => by
    obtain ⟨p, vs, w, rfl, g, hw, rw'⟩ := P _ _ _ e1
    exact ⟨p, vs, i, w, rfl, e2, seqT_same sz g, hw, q _ _ _ (Step.refl sz) rw'⟩
theorem ev_len {r : List V → Hp → VK → Prop} (hr : ∀ xs H Q, (∃ p ys, xs = [.ref p] ∧ (SqL K H p ys ∨ SqT K H p ys) ∧ Q (.int ys.length) H) → r xs H Q) (ha : Ev M ta σ Z H s (li τ xs) s1) : Ev M (tCB r (tCons ta tNil)) σ Z H s (ty yInt (xs.length : Nat)) s1 :=
  ev_cb (eva_cons ha eva_nil) fun _ _ _ sz ⟨v, r, e, h, e2⟩ _ q => by
    cases e2; cases e
    obtain ⟨p, vs, rfl, g, t, _⟩ := rdl sz h
    exact hr _ _ _ ⟨p, vs, rfl, .inl (SqL.of g), by rw [t.len]; exact q _ _ _ (Step.refl sz) rfl⟩
theorem ev_lenT {r : List V → Hp → VK → Prop} (hr : ∀ xs H Q, (∃ p ys, xs = [.ref p] ∧ (SqL K H p ys ∨ SqT K H p ys) ∧ Q (.int ys.length) H) → r xs H Q) (ha : Ev M ta σ Z H s (ty (yTup K τ) xs) s1) : Ev M (tCB r (tCons ta tNil)) σ Z H s (ty yInt (xs.length : Nat)) s1 :=
  ev_cb (eva_cons ha eva_nil) fun _ _ _ sz ⟨v, r, e, h, e2⟩ _ q => by
    cases e2; cases e
    obtain ⟨p, vs, rfl, g, t, _⟩ := h
    exact hr _ _ _ ⟨p, vs, rfl, .inr (seqT_same sz g), by rw [t.len]; exact q _ _ _ (Step.refl sz) rfl⟩
theorem en_list_of {r : List V → Hp → VK → Prop} (hr : ∀ xs H Q, (∃ p ys, xs = [.ref p] ∧ (SqL K H p ys ∨ SqT K H p ys) ∧ ∀ l, H l = none → Q (.ref l) (upd H l (.lst ys))) → r xs H Q) (ha : Ev M ta σ Z H s (li τ xs) s1) : EvN M (tCB r (tCons ta tNil)) σ Z H s τ xs s1 :=
  en_cb (eva_cons ha eva_nil) fun _ _ _ sz ⟨v, r, e, h, e2⟩ => by
    cases e2; cases e
    obtain ⟨p, vs, rfl, g, t, l⟩ := rdl sz h
    exact ⟨vs, t, l, fun Q q => hr _ _ _ ⟨p, vs, rfl, .inl (SqL.of g), q⟩⟩
theorem en_list_ofT {r : List V → Hp → VK → Prop} (hr : ∀ xs H Q, (∃ p ys, xs = [.ref p] ∧ (SqL K H p ys ∨ SqT K H p ys) ∧ ∀ l, H l = none → Q (.ref l) (upd H l (.lst ys))) → r xs H Q) (ha : Ev M ta σ Z H s (ty (yTup K τ) xs) s1) : EvN M (tCB r (tCons ta tNil)) σ Z H s τ xs s1 :=
  en_cb (eva_cons ha eva_nil) fun _ _ _ sz ⟨v, r, e, h, e2⟩ => by
    cases e2; cases e
    obtain ⟨p, vs, rfl, g, t, l⟩ := h
    exact ⟨vs, t, l, fun Q q => hr _ _ _ ⟨p, vs, rfl, .inr (seqT_same sz g), q⟩⟩
theorem ev_tuple_of {r : List V → Hp → VK → Prop} (hr : ∀ xs H Q, (∃ p ys, xs = [.ref p] ∧ ((SqL K H p ys ∧ ∀ l, H l = none → Q (.ref l) (upd H l (.tup ys))) ∨ (SqT K H p ys ∧ Q (.ref p) H))) → r xs H Q) (ha : Ev M ta σ Z H s (li τ xs) s1) : Ev M (tCB r (tCons ta tNil)) σ Z H s (ty (yTup K τ) xs) s1 :=
  ev_cb (eva_cons ha eva_nil) fun _ _ _ sz ⟨v, r, e, h, e2⟩ _ q => by
    cases e2; cases e
    obtain ⟨p, vs, rfl, g, t, l⟩ := rdl sz h
    exact hr _ _ _ ⟨p, vs, rfl, .inl ⟨SqL.of g, fun d hd => q _ _ _ (Step.new sz hd) ⟨d, vs, rfl, sqT_new, t.imp fun _ _ => τ.mono (same_upd (same_none sz hd)), l⟩⟩⟩
theorem ev_tuple_ofT {r : List V → Hp → VK → Prop} (hr : ∀ xs H Q, (∃ p ys, xs = [.ref p] ∧ ((SqL K H p ys ∧ ∀ l, H l = none → Q (.ref l) (upd H l (.tup ys))) ∨ (SqT K H p ys ∧ Q (.ref p) H))) → r xs H Q) (ha : Ev M ta σ Z H s (ty (yTup K τ) xs) s1) : Ev M (tCB r (tCons ta tNil)) σ Z H s (ty (yTup K τ) xs) s1 :=
  ev_cb (eva_cons ha eva_nil) fun _ _ _ sz ⟨v, r, e, h, e2⟩ _ q => by
    cases e2; cases e
    obtain ⟨p, vs, rfl, g, t, l⟩ := h
    exact hr _ _ _ ⟨p, vs, rfl, .inr ⟨seqT_same sz g, q _ _ _ (Step.refl sz) ⟨p, vs, rfl, g, t, l⟩⟩⟩
/-- a pair, as a tuple of a pair: itself -/
theorem ev_tuple_id {r : List V → Hp → VK → Prop} (hr : ∀ xs H Q, (∃ p ys, xs = [.ref p] ∧ ((SqL K H p ys ∧ ∀ l, H l = none → Q (.ref l) (upd H l (.tup ys))) ∨ (SqT K H p ys ∧ Q (.ref p) H))) → r xs H Q) (hτ : ∀ Z v x, τ.r Z v x → ∃ p ys, v = .ref p ∧ SqT K Z p ys) (ha : Ev M ta σ Z H s (ty τ x) s1) : Ev M (tCB r (tCons ta tNil)) σ Z H s (ty τ x) s1 :=
  ev_cb (eva_cons ha eva_nil) fun _ _ _ sz ⟨v, r, e, h, e2⟩ _ q => by
    cases e2; cases e
    obtain ⟨p, vs, rfl, g⟩ := hτ _ _ _ h
    exact hr _ _ _ ⟨p, vs, rfl, .inr ⟨seqT_same sz g, q _ _ _ (Step.refl sz) h⟩⟩
theorem it_p2 : ∀ Z v x, (yP2 K τ υ).r Z v x → ∃ p ys, v = .ref p ∧ SqT K Z p ys := fun _ _ _ ⟨a, _, _, e, h, _⟩ => ⟨a, _, e, h⟩
theorem it_p3 : ∀ Z v x, (yP3 K τ υ φ).r Z v x → ∃ p ys, v = .ref p ∧ SqT K Z p ys := fun _ _ _ ⟨a, _, _, _, e, h, _⟩ => ⟨a, _, e, h⟩
theorem en_cat (ha : Ev M ta σ Z H s (li τ xs) s1) (hb : Ev M tb σ Z H s1 (li τ ys) s2) (l : xs.length + ys.length ≤ sizeLine) : EvN M (tOp rCat ta tb) σ Z H s τ (xs ++ ys) s2 :=
  en_op ha hb fun _ _ _ _ sz e1 e2 => by
    obtain ⟨p, vs, rfl, g, t, _⟩ := rdl sz e1
    obtain ⟨p2, ws, rfl, g2, t2, _⟩ := rdl sz e2
    exact ⟨vs ++ ws, t.app t2, by rw [List.length_append]; exact l, fun Q q => ⟨p, p2, vs, ws, rfl, rfl, g, g2, by rw [t.len, t2.len]; exact l, q⟩⟩
end
def cutA {α : Type} (xs : List α) (lo hi : Option Int) : List α := (xs.drop (HT.sIx xs.length 0 lo)).take (HT.sIx xs.length xs.length hi - HT.sIx xs.length 0 lo)
theorem All.cut {α : Type} {R : V → α → Prop} {vs : List V} {xs : List α} (h : All R vs xs) (lo hi : Option Int) : All R (cutV vs lo hi) (cutA xs lo hi) := by
  unfold cutV cutA
  rw [h.len]
  exact (h.drop _).take _
theorem cutA_len {α : Type} (xs : List α) (lo hi : Option Int) : (cutA xs lo hi).length ≤ xs.length := by
  unfold cutA
  rw [List.length_take, List.length_drop]
  omega
def EvO (M : Mu μ) (t : TO) (σ : L2.St) (Z H : Hp) (s : μ) (i : Option Int) (s' : μ) : Prop :=
  ∀ Z1 H1, Same Z Z1 → SameX M.fp H H1 → Same Z1 H1 → M.m s Z1 H1 → ∀ Q : Option Int → Hp → Prop, (∀ Z2 H2, Step M.fp Z1 H1 Z2 H2 → M.m s' Z2 H2 → Q i H2) → t σ H1 Q
theorem eo_none : EvO M tNoPart σ Z H s none s := fun Z1 H1 _ _ c d Q q => q Z1 H1 (Step.refl c) d
theorem eo_some {i : Int} (h : Ev M te σ Z H s (ty yInt i) s1) : EvO M (tPart te) σ Z H s (some i) s1 := fun Z1 H1 a b c d Q q => h Z1 H1 a b c d _ fun v Z2 H2 e m rv => ⟨i, rv, q Z2 H2 e m⟩
theorem ev_slice {r : V → Option Int → Option Int → Hp → VK → Prop} {tl th : TO} {lo hi : Option Int} {R R' : Rr M.fp} (ha : Ev M ta σ Z H s R s1) (hl : EvO M tl σ Z H s1 lo s2) (hh : EvO M th σ Z H s2 hi s3)
    (h : ∀ Z H v, Same Z H → R.r Z H v → ∀ Q : VK, (∀ u Z2 H2, Step [] Z H Z2 H2 → R'.r Z2 H2 u → Q u H2) → r v lo hi H Q) : Ev M (tSl r ta tl th) σ Z H s R' s3 :=
  fun Z1 H1 a b c d Q q => ha Z1 H1 a b c d _ fun v Z2 H2 e m rv => hl Z2 H2 (a.trans e.z) (b.trans e.h) e.s m _ fun Z3 H3 e2 m2 => hh Z3 H3 ((a.trans e.z).trans e2.z) ((b.trans e.h).trans e2.h) e2.s m2 _ fun Z4 H4 e3 m3 =>
    h Z4 H4 v e3.s (R.st e3 (R.st e2 rv)) _ fun u Z5 H5 e4 ru => q u Z5 H5 (((e.trans e2).trans e3).trans e4.pure) (M.pure e4 m3) ru
theorem en_slL {α : Type} {τ : Ty α} {xs : List α} {tl th : TO} {lo hi : Option Int} (ha : Ev M ta σ Z H s (li τ xs) s1) (hl : EvO M tl σ Z H s1 lo s2) (hh : EvO M th σ Z H s2 hi s3) : EvN M (tSl (rSlL K) ta tl th) σ Z H s τ (cutA xs lo hi) s3 :=
  fun Z1 H1 a b c d Q q => ha Z1 H1 a b c d _ fun v Z2 H2 e m rv => hl Z2 H2 (a.trans e.z) (b.trans e.h) e.s m _ fun Z3 H3 e2 m2 => hh Z3 H3 ((a.trans e.z).trans e2.z) ((b.trans e.h).trans e2.h) e2.s m2 _ fun Z4 H4 e3 m3 => by
    obtain ⟨p, vs, rfl, g, t, l⟩ := rdl e3.s ((li τ xs).st e3 ((li τ xs).st e2 rv))
    refine ⟨p, vs, rfl, SqL.of g, fun d hd => ?_⟩
    have e4 := Step.own (o := .lst (cutV vs lo hi)) e3.s hd
    exact q d _ Z4 _ (((e.trans e2).trans e3).trans e4.pure) (M.pure e4 m3) (same_x ((e.trans e2).trans e3) hd) (same_none e3.s hd) upd_same (t.cut lo hi) (Nat.le_trans (cutA_len _ _ _) l)
/-- a tuple's slice: the whole is the tuple itself -/
def rSlW (K : PySem.W.Frag) : V → Option Int → Option Int → Hp → VK → Prop := fun x lo hi H Q => ∃ a xs, x = .ref a ∧ SqT K H a xs ∧
  ((HT.sIx xs.length 0 lo = 0 ∧ HT.sIx xs.length xs.length hi = xs.length) → Q (.ref a) H) ∧ (¬ (HT.sIx xs.length 0 lo = 0 ∧ HT.sIx xs.length xs.length hi = xs.length) → ∀ p, H p = none → Q (.ref p) (upd H p (.tup (cutV xs lo hi))))
theorem ev_slT {α : Type} {τ : Ty α} {xs : List α} {tl th : TO} {lo hi : Option Int} (ha : Ev M ta σ Z H s (ty (yTup K τ) xs) s1) (hl : EvO M tl σ Z H s1 lo s2) (hh : EvO M th σ Z H s2 hi s3) : Ev M (tSl (rSlW K) ta tl th) σ Z H s (ty (yTup K τ) (cutA xs lo hi)) s3 :=
  ev_slice ha hl hh fun _ _ _ sz ⟨p, vs, e, g, t, l⟩ _ q => by
    subst e
    refine ⟨p, vs, rfl, seqT_same sz g, fun w => q _ _ _ (Step.refl sz) ⟨p, vs, rfl, g, ?_, Nat.le_trans (cutA_len _ _ _) l⟩, fun _ d hd => q _ _ _ (Step.new sz hd) ⟨d, _, rfl, sqT_new, (t.cut lo hi).imp fun _ _ => τ.mono (same_upd (same_none sz hd)), Nat.le_trans (cutA_len _ _ _) l⟩⟩
    have c := t.cut lo hi
    have e : cutV vs lo hi = vs := by
      unfold cutV
      rw [w.1, w.2, List.drop_zero, Nat.sub_zero, List.take_length]
    rw [e] at c
    exact c
/-! ### sums and the like -/
theorem ev_sum {xs : List Int} (ha : Ev M ta σ Z H s (li yInt xs) s1) : Ev M (tCB (rSum K) (tCons ta tNil)) σ Z H s (ty yInt xs.sum) s1 :=
  ev_cb (eva_cons ha eva_nil) fun _ _ _ sz ⟨v, r, e, h, e2⟩ _ q => by
    cases e2; cases e
    obtain ⟨p, vs, rfl, g, t, _⟩ := rdl sz h
    rw [t.ints] at g
    exact ⟨p, xs, rfl, SqL.of g, q _ _ _ (Step.refl sz) rfl⟩
theorem ev_anyL {xs : List Bool} (ha : Ev M ta σ Z H s (li yBool xs) s1) : Ev M (tCB (rAny K) (tCons ta tNil)) σ Z H s (ty yBool (xs.any id)) s1 :=
  ev_cb (eva_cons ha eva_nil) fun _ _ _ sz ⟨v, r, e, h, e2⟩ _ q => by
    cases e2; cases e
    obtain ⟨p, vs, rfl, g, t, _⟩ := rdl sz h
    rw [t.bls] at g
    exact ⟨p, xs, rfl, SqL.of g, q _ _ _ (Step.refl sz) rfl⟩
theorem ev_allL {xs : List Bool} (ha : Ev M ta σ Z H s (li yBool xs) s1) : Ev M (tCB (rAll K) (tCons ta tNil)) σ Z H s (ty yBool (xs.all id)) s1 :=
  ev_cb (eva_cons ha eva_nil) fun _ _ _ sz ⟨v, r, e, h, e2⟩ _ q => by
    cases e2; cases e
    obtain ⟨p, vs, rfl, g, t, _⟩ := rdl sz h
    rw [t.bls] at g
    exact ⟨p, xs, rfl, SqL.of g, q _ _ _ (Step.refl sz) rfl⟩
def maxZ : List Int → Option Int
  | [] => none
  | x :: xs => some (xs.foldl max x)
def minZ : List Int → Option Int
  | [] => none
  | x :: xs => some (xs.foldl min x)
theorem foldl_max_of : ∀ (xs : List Int) (x m : Int), m ∈ x :: xs → (∀ y ∈ x :: xs, y ≤ m) → m = xs.foldl max x
  | [], x, m, h, _ => by simpa using h
  | y :: r, x, m, h, g => by
    refine foldl_max_of r (max x y) m ?_ (fun z hz => ?_)
    · have hx := g x (by simp)
      have hy := g y (by simp)
      rcases List.mem_cons.mp h with e | h
      · have : max x y = m := by omega
        rw [this]; exact List.mem_cons_self
      · rcases List.mem_cons.mp h with e | h
        · have : max x y = m := by omega
          rw [this]; exact List.mem_cons_self
        · exact List.mem_cons_of_mem _ h
    · rcases List.mem_cons.mp hz with e | hz
      · have hx := g x (by simp)
        have hy := g y (by simp)
        omega
      · exact g z (by simp [hz])
theorem foldl_min_of : ∀ (xs : List Int) (x m : Int), m ∈ x :: xs → (∀ y ∈ x :: xs, m ≤ y) → m = xs.foldl min x
  | [], x, m, h, _ => by simpa using h
  | y :: r, x, m, h, g => by
    refine foldl_min_of r (min x y) m ?_ (fun z hz => ?_)
    · have hx := g x (by simp)
      have hy := g y (by simp)
      rcases List.mem_cons.mp h with e | h
      · have : min x y = m := by omega
        rw [this]; exact List.mem_cons_self
      · rcases List.mem_cons.mp h with e | h
        · have : min x y = m := by omega
          rw [this]; exact List.mem_cons_self
        · exact List.mem_cons_of_mem _ h
    · rcases List.mem_cons.mp hz with e | hz
      · have hx := g x (by simp)
        have hy := g y (by simp)
        omega
      · exact g z (by simp [hz])
theorem ev_maxL {xs : List Int} {m : Int} (ha : Ev M ta σ Z H s (li yInt xs) s1) (e : maxZ xs = some m) : Ev M (tCB (rMax K) (tCons ta tNil)) σ Z H s (ty yInt m) s1 :=
  ev_cb (eva_cons ha eva_nil) fun _ _ _ sz ⟨v, r, e1, h, e2⟩ _ q => by
    cases e2; cases e1
    obtain ⟨p, vs, rfl, g, t, _⟩ := rdl sz h
    rw [t.ints] at g
    cases xs with
    | nil => cases e
    | cons x r =>
      refine ⟨p, x :: r, rfl, SqL.of g, Nat.succ_pos _, fun n hn hg => q _ _ _ (Step.refl sz) ?_⟩
      rw [foldl_max_of r x n hn hg, ← Option.some.inj (e : some (r.foldl max x) = some m)]
      rfl
theorem ev_minL {xs : List Int} {m : Int} (ha : Ev M ta σ Z H s (li yInt xs) s1) (e : minZ xs = some m) : Ev M (tCB (rMin K) (tCons ta tNil)) σ Z H s (ty yInt m) s1 :=
  ev_cb (eva_cons ha eva_nil) fun _ _ _ sz ⟨v, r, e1, h, e2⟩ _ q => by
    cases e2; cases e1
    obtain ⟨p, vs, rfl, g, t, _⟩ := rdl sz h
    rw [t.ints] at g
    cases xs with
    | nil => cases e
    | cons x r =>
      refine ⟨p, x :: r, rfl, SqL.of g, Nat.succ_pos _, fun n hn hg => q _ _ _ (Step.refl sz) ?_⟩
      rw [foldl_min_of r x n hn hg, ← Option.some.inj (e : some (r.foldl min x) = some m)]
      rfl
theorem ev_max2 {i j : Int} (ha : Ev M ta σ Z H s (ty yInt i) s1) (hb : Ev M tb σ Z H s1 (ty yInt j) s2) : Ev M (tCB (fun xs H Q => ∃ i j, xs = [.int i, .int j] ∧ Q (.int (if j > i then j else i)) H) (tCons ta (tCons tb tNil))) σ Z H s (ty yInt (max i j)) s2 :=
  ev_cb (eva_cons ha (eva_cons hb eva_nil)) fun _ _ _ sz ⟨v, r, e1, h, w, r2, e2, h2, e3⟩ _ q => by
    cases e3; cases e2; cases e1; cases h; cases h2
    refine ⟨i, j, rfl, q _ _ _ (Step.refl sz) ?_⟩
    show V.int _ = V.int _
    by_cases c : j > i
    · rw [if_pos c, Int.max_eq_right (by omega)]
    · rw [if_neg c, Int.max_eq_left (by omega)]
theorem ev_min2 {i j : Int} (ha : Ev M ta σ Z H s (ty yInt i) s1) (hb : Ev M tb σ Z H s1 (ty yInt j) s2) : Ev M (tCB (fun xs H Q => ∃ i j, xs = [.int i, .int j] ∧ Q (.int (if j < i then j else i)) H) (tCons ta (tCons tb tNil))) σ Z H s (ty yInt (min i j)) s2 :=
  ev_cb (eva_cons ha (eva_cons hb eva_nil)) fun _ _ _ sz ⟨v, r, e1, h, w, r2, e2, h2, e3⟩ _ q => by
    cases e3; cases e2; cases e1; cases h; cases h2
    refine ⟨i, j, rfl, q _ _ _ (Step.refl sz) ?_⟩
    show V.int _ = V.int _
    by_cases c : j < i
    · rw [if_pos c, Int.min_eq_right (by omega)]
    · rw [if_neg c, Int.min_eq_left (by omega)]
theorem ev_int_of {i : Int} (ha : Ev M ta σ Z H s (ty yInt i) s1) : Ev M (tCB (fun xs H Q => (∃ i, xs = [.int i] ∧ Q (.int i) H) ∨ ∃ k, xs = [.bl k] ∧ Q (.int (if k then 1 else 0)) H) (tCons ta tNil)) σ Z H s (ty yInt i) s1 :=
  ev_cb (eva_cons ha eva_nil) fun _ _ _ sz ⟨v, r, e1, h, e2⟩ _ q => by
    cases e2; cases e1; cases h
    exact .inl ⟨i, rfl, q _ _ _ (Step.refl sz) rfl⟩
/-! ### in -/
/-- flat, and its equality is the thing's -/
structure FlatI {α : Type} (τ : Ty α) (f : α → V) : Prop where
  flat : Flat τ f
  fl : ∀ x, flatV (f x) = true
  eqv : ∀ x y, eqV (f x) (f y) = true ↔ x = y
theorem fi_int : FlatI yInt V.int := ⟨flat_int, fun _ => rfl, fun x y => by show (x == y) = true ↔ _; exact beq_iff_eq⟩
theorem fi_str : FlatI yStr V.str := ⟨flat_str, fun _ => rfl, fun x y => by show (x == y) = true ↔ _; exact beq_iff_eq⟩
theorem fi_bool : FlatI yBool V.bl := ⟨flat_bool, fun _ => rfl, fun x y => by show (x == y) = true ↔ _; exact beq_iff_eq⟩
section
variable {α : Type} [DecidableEq α] {τ : Ty α} {f : α → V} {x : α} {xs : List α}
theorem inV_map (F : FlatI τ f) : inV (f x) (xs.map f) = decide (x ∈ xs) := by
  unfold inV
  rw [List.any_map]
  apply Bool.eq_iff_iff.mpr
  rw [List.any_eq_true, decide_eq_true_iff]
  constructor
  · rintro ⟨y, hy, e⟩
    rw [← (F.eqv y x).mp e]; exact hy
  · exact fun h => ⟨x, h, (F.eqv x x).mpr rfl⟩
theorem flat_map (F : FlatI τ f) : (xs.map f).all flatV = true := by
  rw [List.all_map]
  exact List.all_eq_true.mpr fun y _ => F.fl y
theorem ev_in (F : FlatI τ f) (ha : Ev M ta σ Z H s (ty τ x) s1) (hb : Ev M tb σ Z H s1 (li τ xs) s2) : Ev M (tOp (rIn K false) ta tb) σ Z H s (ty yBool (decide (x ∈ xs))) s2 :=
  ev_op ha hb fun _ _ _ _ sz e1 e2 _ q => by
    obtain ⟨p, vs, rfl, g, t, _⟩ := rdl sz e2
    have ev := t.map (F.flat.eq _); subst ev
    rw [F.flat.eq _ _ _ e1]
    exact ⟨p, _, rfl, .inl (SqL.of g), F.fl x, flat_map F, q _ _ _ (Step.refl sz) (congrArg V.bl (inV_map F))⟩
theorem ev_notin (F : FlatI τ f) (ha : Ev M ta σ Z H s (ty τ x) s1) (hb : Ev M tb σ Z H s1 (li τ xs) s2) : Ev M (tOp (rIn K true) ta tb) σ Z H s (ty yBool (!decide (x ∈ xs))) s2 :=
  ev_op ha hb fun _ _ _ _ sz e1 e2 _ q => by
    obtain ⟨p, vs, rfl, g, t, _⟩ := rdl sz e2
    have ev := t.map (F.flat.eq _); subst ev
    rw [F.flat.eq _ _ _ e1]
    exact ⟨p, _, rfl, .inl (SqL.of g), F.fl x, flat_map F, q _ _ _ (Step.refl sz) (congrArg (fun b => V.bl (!b)) (inV_map F))⟩
theorem ev_inT (F : FlatI τ f) (ha : Ev M ta σ Z H s (ty τ x) s1) (hb : Ev M tb σ Z H s1 (ty (yTup K τ) xs) s2) : Ev M (tOp (rIn K false) ta tb) σ Z H s (ty yBool (decide (x ∈ xs))) s2 :=
  ev_op ha hb fun _ _ _ _ sz e1 ⟨p, vs, e, g, t, _⟩ _ q => by
    subst e
    have ev := t.map (F.flat.eq _); subst ev
    rw [F.flat.eq _ _ _ e1]
    exact ⟨p, _, rfl, .inr (seqT_same sz g), F.fl x, flat_map F, q _ _ _ (Step.refl sz) (congrArg V.bl (inV_map F))⟩
theorem ev_notinT (F : FlatI τ f) (ha : Ev M ta σ Z H s (ty τ x) s1) (hb : Ev M tb σ Z H s1 (ty (yTup K τ) xs) s2) : Ev M (tOp (rIn K true) ta tb) σ Z H s (ty yBool (!decide (x ∈ xs))) s2 :=
  ev_op ha hb fun _ _ _ _ sz e1 ⟨p, vs, e, g, t, _⟩ _ q => by
    subst e
    have ev := t.map (F.flat.eq _); subst ev
    rw [F.flat.eq _ _ _ e1]
    exact ⟨p, _, rfl, .inr (seqT_same sz g), F.fl x, flat_map F, q _ _ _ (Step.refl sz) (congrArg (fun b => V.bl (!b)) (inV_map F))⟩
end
end
end TP

namespace TP
open PySem PySem.Spec PyProof.Rows L2
section
variable {μ : Type} {M : Mu μ} {σ : L2.St} {Z H : Hp} {s s' s1 s2 s3 : μ} {ta tb tc te : TE} {t : TA} {K : PySem.W.Frag}
/-! ### equality of data -/
structure EqD (K : PySem.W.Frag) {α : Type} (τ : Ty α) (d : α → PyData) (n : Nat) : Prop where
  dp : ∀ Z H v x, Same Z H → τ.r Z v x → Dp K H v (d x)
  lay : ∀ Z v x, τ.r Z v x → (d x).canLay0 = true
  dep : ∀ x, (d x).depth ≤ n
  eqv : ∀ x y, PyData.eqv (d x) (d y) = true ↔ x = y
theorem eqd_int : EqD K yInt PyData.int 0 := ⟨fun _ _ _ x _ h => by cases h; exact .int x, fun _ _ _ _ => rfl, fun _ => Nat.le_refl _, fun x y => by simp [PyData.eqv]⟩
theorem eqd_bool : EqD K yBool PyData.bool 0 := ⟨fun _ _ _ x _ h => by cases h; exact .bl x, fun _ _ _ _ => rfl, fun _ => Nat.le_refl _, fun x y => by simp [PyData.eqv]⟩
theorem eqd_str : EqD K yStr PyData.str 0 := ⟨fun _ _ _ x _ h => by rw [h.1]; exact .str x, fun _ _ x h => by
  have := (Bool.and_eq_true_iff.mp (show (PyData.strOk x && decide (x.length ≤ sizeLine)) = true from h.2)).1
  simpa [PyData.canLay0] using this, fun _ => Nat.le_refl _, fun x y => by simp [PyData.eqv]⟩
theorem eqd_non : EqD K yNon (fun _ => PyData.none) 0 := ⟨fun _ _ _ x _ h => by cases h; exact .non, fun _ _ _ _ => rfl, fun _ => Nat.le_refl _, fun x y => by simp [PyData.eqv]⟩
section
variable {α β γ δ : Type} {τ : Ty α} {υ : Ty β} {φ : Ty γ} {ψ : Ty δ} {d : α → PyData} {e : β → PyData} {f : γ → PyData} {g : δ → PyData} {n m k l : Nat}
theorem EqD.all (E : EqD K τ d n) {Z H : Hp} (sz : Same Z H) : ∀ {vs : List V} {xs : List α}, All (τ.r Z) vs xs → DpAll K H vs (xs.map d)
  | _, _, .nil => .nil
  | _, _, .cons h t => .cons (E.dp _ _ _ _ sz h) (E.all sz t)
theorem EqD.lays (E : EqD K τ d n) {Z : Hp} : ∀ {vs : List V} {xs : List α}, All (τ.r Z) vs xs → PyData.canLayAll0 (xs.map d) = true
  | _, _, .nil => by simp [PyData.canLayAll0]
  | _, _, .cons h t => by
    have h1 := E.lay _ _ _ h
    have h2 := E.lays t
    simp [PyData.canLayAll0, h1, h2]
theorem EqD.deps (E : EqD K τ d n) : ∀ xs : List α, PyData.depthAll (xs.map d) ≤ n
  | [] => by simp [PyData.depthAll]
  | x :: r => by
    have h1 := E.dep x
    have h2 := E.deps r
    simp only [List.map_cons, PyData.depthAll]
    omega
theorem EqD.eqvs (E : EqD K τ d n) : ∀ xs ys : List α, PyData.eqvAll (xs.map d) (ys.map d) = true ↔ xs = ys
  | [], [] => by simp [PyData.eqvAll]
  | [], _ :: _ => by simp [PyData.eqvAll]
  | _ :: _, [] => by simp [PyData.eqvAll]
  | x :: xs, y :: ys => by
    simp only [List.map_cons, PyData.eqvAll, Bool.and_eq_true, E.eqv x y, E.eqvs xs ys, List.cons.injEq]
theorem eqd_list (E : EqD K τ d n) : EqD K (yList τ) (fun xs => .list (xs.map d)) (n + 1) where
  dp := fun Z H v x sz ⟨a, vs, e, h, t, _⟩ => by subst e; exact .lst (SqL.of (sz _ _ h)) (E.all sz t)
  lay := fun Z v x ⟨a, vs, e, h, t, _⟩ => by simpa [PyData.canLay0] using E.lays t
  dep := fun x => by have := E.deps x; simp only [PyData.depth]; omega
  eqv := fun x y => by simp only [PyData.eqv]; exact E.eqvs x y
theorem eqd_tup (E : EqD K τ d n) : EqD K (yTup K τ) (fun xs => .tuple (xs.map d)) (n + 1) where
  dp := fun Z H v x sz ⟨a, vs, e, h, t, _⟩ => by subst e; exact .tup (seqT_same sz h) (E.all sz t)
  lay := fun Z v x ⟨a, vs, e, h, t, _⟩ => by simpa [PyData.canLay0] using E.lays t
  dep := fun x => by have := E.deps x; simp only [PyData.depth]; omega
  eqv := fun x y => by simp only [PyData.eqv]; exact E.eqvs x y
theorem eqd_p1 (E : EqD K τ d n) : EqD K (yP1 K τ) (fun x => .tuple [d x]) (n + 1) where
  dp := fun Z H v x sz ⟨a, v1, e, h, h1⟩ => by subst e; exact .tup (seqT_same sz h) (.cons (E.dp _ _ _ _ sz h1) .nil)
  lay := fun Z v x ⟨a, v1, e, h, h1⟩ => by simp [PyData.canLay0, PyData.canLayAll0, E.lay _ _ _ h1]
  dep := fun x => by have := E.dep x; simp only [PyData.depth, PyData.depthAll]; omega
  eqv := fun x y => by simp only [PyData.eqv, PyData.eqvAll, Bool.and_true]; exact E.eqv x y
theorem eqd_p2 (E : EqD K τ d n) (F : EqD K υ e m) : EqD K (yP2 K τ υ) (fun x => .tuple [d x.1, e x.2]) (max n m + 1) where
  dp := fun Z H v x sz ⟨a, v1, v2, e, h, h1, h2⟩ => by subst e; exact .tup (seqT_same sz h) (.cons (E.dp _ _ _ _ sz h1) (.cons (F.dp _ _ _ _ sz h2) .nil))
  lay := fun Z v x ⟨a, v1, v2, e, h, h1, h2⟩ => by simp [PyData.canLay0, PyData.canLayAll0, E.lay _ _ _ h1, F.lay _ _ _ h2]
  dep := fun x => by have := E.dep x.1; have := F.dep x.2; simp only [PyData.depth, PyData.depthAll]; omega
  eqv := fun x y => by
    simp only [PyData.eqv, PyData.eqvAll, Bool.and_true, Bool.and_eq_true, E.eqv, F.eqv]
    exact Prod.ext_iff.symm
theorem eqd_p3 (E : EqD K τ d n) (F : EqD K υ e m) (G : EqD K φ f k) : EqD K (yP3 K τ υ φ) (fun x => .tuple [d x.1, e x.2.1, f x.2.2]) (max n (max m k) + 1) where
  dp := fun Z H v x sz ⟨a, v1, v2, v3, e, h, h1, h2, h3⟩ => by subst e; exact .tup (seqT_same sz h) (.cons (E.dp _ _ _ _ sz h1) (.cons (F.dp _ _ _ _ sz h2) (.cons (G.dp _ _ _ _ sz h3) .nil)))
  lay := fun Z v x ⟨a, v1, v2, v3, e, h, h1, h2, h3⟩ => by simp [PyData.canLay0, PyData.canLayAll0, E.lay _ _ _ h1, F.lay _ _ _ h2, G.lay _ _ _ h3]
  dep := fun x => by have := E.dep x.1; have := F.dep x.2.1; have := G.dep x.2.2; simp only [PyData.depth, PyData.depthAll]; omega
  eqv := fun x y => by
    simp only [PyData.eqv, PyData.eqvAll, Bool.and_true, Bool.and_eq_true, E.eqv, F.eqv, G.eqv]
    rw [Prod.ext_iff, Prod.ext_iff]
theorem eqd_p4 (E : EqD K τ d n) (F : EqD K υ e m) (G : EqD K φ f k) (I : EqD K ψ g l) : EqD K (yP4 K τ υ φ ψ) (fun x => .tuple [d x.1, e x.2.1, f x.2.2.1, g x.2.2.2]) (max n (max m (max k l)) + 1) where
  dp := fun Z H v x sz ⟨a, v1, v2, v3, v4, e, h, h1, h2, h3, h4⟩ => by subst e; exact .tup (seqT_same sz h) (.cons (E.dp _ _ _ _ sz h1) (.cons (F.dp _ _ _ _ sz h2) (.cons (G.dp _ _ _ _ sz h3) (.cons (I.dp _ _ _ _ sz h4) .nil))))
  lay := fun Z v x ⟨a, v1, v2, v3, v4, e, h, h1, h2, h3, h4⟩ => by simp [PyData.canLay0, PyData.canLayAll0, E.lay _ _ _ h1, F.lay _ _ _ h2, G.lay _ _ _ h3, I.lay _ _ _ h4]
  dep := fun x => by have := E.dep x.1; have := F.dep x.2.1; have := G.dep x.2.2.1; have := I.dep x.2.2.2; simp only [PyData.depth, PyData.depthAll]; omega
  eqv := fun x y => by
    simp only [PyData.eqv, PyData.eqvAll, Bool.and_true, Bool.and_eq_true, E.eqv, F.eqv, G.eqv, I.eqv]
    rw [Prod.ext_iff, Prod.ext_iff, Prod.ext_iff]
def optD (d : α → PyData) : Option α → PyData
  | none => .none
  | some x => d x
theorem eqv_none : ∀ c : PyData, PyData.eqv .none c = true ↔ c = .none
  | .none => by simp [PyData.eqv]
  | .bool _ => by simp [PyData.eqv]
  | .int _ => by simp [PyData.eqv]
  | .str _ => by simp [PyData.eqv]
  | .list _ => by simp [PyData.eqv]
  | .tuple _ => by simp [PyData.eqv]
  | .dict _ => by simp [PyData.eqv]
theorem none_eqv : ∀ c : PyData, PyData.eqv c .none = true ↔ c = .none
  | .none => by simp [PyData.eqv]
  | .bool _ => by simp [PyData.eqv]
  | .int _ => by simp [PyData.eqv]
  | .str _ => by simp [PyData.eqv]
  | .list _ => by simp [PyData.eqv]
  | .tuple _ => by simp [PyData.eqv]
  | .dict _ => by simp [PyData.eqv]
theorem eqd_opt (E : EqD K τ d n) (nn : ∀ x, d x ≠ .none) : EqD K (yOpt τ) (optD d) n where
  dp := fun Z H v x sz h => match x, h with
    | none, h => by rw [show v = .non from h]; exact .non
    | some x, h => E.dp _ _ _ _ sz h.1
  lay := fun Z v x h => match x, h with
    | none, h => rfl
    | some x, h => E.lay _ _ _ h.1
  dep := fun x => match x with
    | none => Nat.zero_le _
    | some x => E.dep x
  eqv := fun x y => match x, y with
    | none, none => by simp [optD, PyData.eqv]
    | none, some y => by simp [optD, eqv_none, nn y]
    | some x, none => by simp [optD, none_eqv, nn x]
    | some x, some y => by simp [optD, E.eqv x y]
end
/-- the value is read as the data d -/
def GD {fp : List Addr} (K : PySem.W.Frag) (R : Rr fp) (d : PyData) : Prop := ∀ Z H v, Same Z H → R.r Z H v → Dp K H v d ∧ d.canLay0 = true
theorem EqD.gd {fp : List Addr} {α : Type} {τ : Ty α} {d : α → PyData} {n : Nat} (E : EqD K τ d n) (x : α) : GD K (ty (fp := fp) τ x) (d x) := fun _ _ _ sz h => ⟨E.dp _ _ _ _ sz h, E.lay _ _ _ h⟩
theorem EqD.gdl {fp : List Addr} {α : Type} {τ : Ty α} {d : α → PyData} {n : Nat} (E : EqD K τ d n) (xs : List α) : GD K (li (fp := fp) τ xs) (.list (xs.map d)) := fun _ _ _ sz h => by
  obtain ⟨p, vs, rfl, g, t, _⟩ := rdl sz h
  exact ⟨.lst (SqL.of g) (E.all sz t), by simpa [PyData.canLay0] using E.lays t⟩
theorem shaped_of {d : PyData} {n : Nat} (h : d.canLay0 = true) (l : d.depth ≤ n) (hn : n ≤ 64) : SeqAt.shaped d = true := by
  unfold SeqAt.shaped
  rw [h, Bool.true_and]
  exact decide_eq_true (by omega)
theorem ev_eqG {R R' : Rr M.fp} {c c' : PyData} {P : Prop} [Decidable P] (hc : PyData.eqv c c' = true ↔ P) (G : GD K R c) (G' : GD K R' c') (l : c.depth ≤ 64) (l' : c'.depth ≤ 64) (ha : Ev M ta σ Z H s R s1) (hb : Ev M tb σ Z H s1 R' s2) : Ev M (tOp (rEqD K) ta tb) σ Z H s (ty yBool (decide P)) s2 :=
  ev_op ha hb fun _ _ _ _ sz e1 e2 _ q => by
    obtain ⟨d1, k1⟩ := G _ _ _ sz e1
    obtain ⟨d2, k2⟩ := G' _ _ _ sz e2
    exact ⟨c, c', d1, d2, shaped_of k1 l (Nat.le_refl _), shaped_of k2 l' (Nat.le_refl _), q _ _ _ (Step.refl sz) (congrArg V.bl (Bool.eq_iff_iff.mpr (hc.trans decide_eq_true_iff.symm)))⟩
theorem ev_neG {R R' : Rr M.fp} {c c' : PyData} {P : Prop} [Decidable P] (hc : PyData.eqv c c' = true ↔ P) (G : GD K R c) (G' : GD K R' c') (l : c.depth ≤ 64) (l' : c'.depth ≤ 64) (ha : Ev M ta σ Z H s R s1) (hb : Ev M tb σ Z H s1 R' s2) : Ev M (tOp (rNeD K) ta tb) σ Z H s (ty yBool (!decide P)) s2 :=
  ev_op ha hb fun _ _ _ _ sz e1 e2 _ q => by
    obtain ⟨d1, k1⟩ := G _ _ _ sz e1
    obtain ⟨d2, k2⟩ := G' _ _ _ sz e2
    exact ⟨c, c', d1, d2, shaped_of k1 l (Nat.le_refl _), shaped_of k2 l' (Nat.le_refl _), q _ _ _ (Step.refl sz) (congrArg (fun b => V.bl (!b)) (Bool.eq_iff_iff.mpr (hc.trans decide_eq_true_iff.symm)))⟩
section
variable {α : Type} [DecidableEq α] {τ : Ty α} {d : α → PyData} {n : Nat} {x y : α} {xs ys : List α}
theorem ev_eqD (E : EqD K τ d n) (hn : n ≤ 64) (ha : Ev M ta σ Z H s (ty τ x) s1) (hb : Ev M tb σ Z H s1 (ty τ y) s2) : Ev M (tOp (rEqD K) ta tb) σ Z H s (ty yBool (decide (x = y))) s2 :=
  ev_eqG (E.eqv x y) (E.gd x) (E.gd y) (Nat.le_trans (E.dep x) hn) (Nat.le_trans (E.dep y) hn) ha hb
theorem ev_neD (E : EqD K τ d n) (hn : n ≤ 64) (ha : Ev M ta σ Z H s (ty τ x) s1) (hb : Ev M tb σ Z H s1 (ty τ y) s2) : Ev M (tOp (rNeD K) ta tb) σ Z H s (ty yBool (!decide (x = y))) s2 :=
  ev_neG (E.eqv x y) (E.gd x) (E.gd y) (Nat.le_trans (E.dep x) hn) (Nat.le_trans (E.dep y) hn) ha hb
theorem depL (E : EqD K τ d n) (hn : n + 1 ≤ 64) : (PyData.list (xs.map d)).depth ≤ 64 := by have := E.deps xs; simp only [PyData.depth]; omega
theorem ev_eqL (E : EqD K τ d n) (hn : n + 1 ≤ 64) (ha : Ev M ta σ Z H s (li τ xs) s1) (hb : Ev M tb σ Z H s1 (li τ ys) s2) : Ev M (tOp (rEqD K) ta tb) σ Z H s (ty yBool (decide (xs = ys))) s2 :=
  ev_eqG (by simp only [PyData.eqv]; exact E.eqvs xs ys) (E.gdl xs) (E.gdl ys) (depL E hn) (depL E hn) ha hb
theorem ev_neL (E : EqD K τ d n) (hn : n + 1 ≤ 64) (ha : Ev M ta σ Z H s (li τ xs) s1) (hb : Ev M tb σ Z H s1 (li τ ys) s2) : Ev M (tOp (rNeD K) ta tb) σ Z H s (ty yBool (!decide (xs = ys))) s2 :=
  ev_neG (by simp only [PyData.eqv]; exact E.eqvs xs ys) (E.gdl xs) (E.gdl ys) (depL E hn) (depL E hn) ha hb
end
theorem en_cast {α : Type} {τ : Ty α} {xs ys : List α} (h : EvN M te σ Z H s τ xs s1) (e : xs = ys) : EvN M te σ Z H s τ ys s1 := e ▸ h
theorem ev_chain {i j k : Int} {p r : Int → Int → Bool} (ha : Ev M ta σ Z H s (ty yInt i) s1) (hb : Ev M tb σ Z H s1 (ty yInt j) s1) (hc : Ev M tc σ Z H s1 (ty yInt k) s1) : Ev M (tChain (rI0 fun i j => .bl (p i j)) (rI0 fun i j => .bl (r i j)) ta tb tc) σ Z H s (ty yBool (p i j && r j k)) s1 :=
  fun Z1 H1 a b c d Q q => ha Z1 H1 a b c d _ fun v Z2 H2 e m rv => hb Z2 H2 (a.trans e.z) (b.trans e.h) e.s m _ fun w Z3 H3 e2 m2 rw => ⟨i, j, rv, rw, p i j, rfl, by
    have e3 := e.trans e2
    cases hp : p i j with
    | true => rw [if_pos rfl]; exact hc Z3 H3 (a.trans e3.z) (b.trans e3.h) e3.s m2 _ fun u Z4 H4 e4 m4 ru => ⟨j, k, rw, ru, q _ Z4 H4 (e3.trans e4) m4 (by rw [hp]; rfl)⟩
    | false => rw [if_neg Bool.false_ne_true]; exact q _ Z3 H3 e3 m2 (by rw [hp]; rfl)⟩
theorem ev_chainO {i j k : Int} {b : Bool} {o : Option Bool} {p r : Int → Int → Bool} (ha : Ev M ta σ Z H s (ty yInt i) s1) (hb : Ev M tb σ Z H s1 (ty yInt j) s1) (hc : p i j = true → Ev M tc σ Z H s1 (ty yInt k) s1) : Ev M (tChain (rI0 fun i j => .bl (p i j)) (rI0 fun i j => .bl (r i j)) ta tb tc) σ Z H s (ty yBool (p i j && r j k)) s1 :=
  fun Z1 H1 a b c d Q q => ha Z1 H1 a b c d _ fun v Z2 H2 e m rv => hb Z2 H2 (a.trans e.z) (b.trans e.h) e.s m _ fun w Z3 H3 e2 m2 rw => ⟨i, j, rv, rw, p i j, rfl, by
    have e3 := e.trans e2
    cases hp : p i j with
    | true => rw [if_pos rfl]; exact hc hp Z3 H3 (a.trans e3.z) (b.trans e3.h) e3.s m2 _ fun u Z4 H4 e4 m4 ru => ⟨j, k, rw, ru, q _ Z4 H4 (e3.trans e4) m4 (by rw [hp]; rfl)⟩
    | false => rw [if_neg Bool.false_ne_true]; exact q _ Z3 H3 e3 m2 (by rw [hp]; rfl)⟩
section
variable {a b : Bool} {o o' : Option Bool} {tA tB' tt : TT}
theorem ev_andO (ha : Ev M ta σ Z H s (ty yBool a) s1) (hb : a = true → ∀ y, o = some y → Ev M tb σ Z H s1 (ty yBool y) s1) (h : (if a = true then o else some false) = some b) : Ev M (tAndV ta tb) σ Z H s (ty yBool b) s1 :=
  ev_and (o := o.map fun y => (y, s1)) ha (fun e y s' hy => by obtain ⟨z, hz, e2⟩ := Option.map_eq_some_iff.mp hy; cases e2; exact hb e _ hz) (by
    cases a with
    | true => rw [if_pos rfl] at h ⊢; rw [h]; rfl
    | false => rw [if_neg Bool.false_ne_true] at h ⊢; rw [← Option.some.inj h])
theorem ev_orO (ha : Ev M ta σ Z H s (ty yBool a) s1) (hb : a = false → ∀ y, o = some y → Ev M tb σ Z H s1 (ty yBool y) s1) (h : (if a = true then some true else o) = some b) : Ev M (tOrV ta tb) σ Z H s (ty yBool b) s1 :=
  ev_or (o := o.map fun y => (y, s1)) ha (fun e y s' hy => by obtain ⟨z, hz, e2⟩ := Option.map_eq_some_iff.mp hy; cases e2; exact hb e _ hz) (by
    cases a with
    | false => rw [if_neg Bool.false_ne_true] at h ⊢; rw [h]; rfl
    | true => rw [if_pos rfl] at h ⊢; rw [← Option.some.inj h])
theorem et_andO (ha : EvT M tA σ Z H s a s1) (hb : a = true → ∀ y, o = some y → EvT M tB' σ Z H s1 y s1) (h : (if a = true then o else some false) = some b) : EvT M (tAnd tA tB') σ Z H s b s1 :=
  et_and (o := o.map fun y => (y, s1)) ha (fun e y s' hy => by obtain ⟨z, hz, e2⟩ := Option.map_eq_some_iff.mp hy; cases e2; exact hb e _ hz) (by
    cases a with
    | true => rw [if_pos rfl] at h ⊢; rw [h]; rfl
    | false => rw [if_neg Bool.false_ne_true] at h ⊢; rw [← Option.some.inj h])
theorem et_orO (ha : EvT M tA σ Z H s a s1) (hb : a = false → ∀ y, o = some y → EvT M tB' σ Z H s1 y s1) (h : (if a = true then some true else o) = some b) : EvT M (tOr tA tB') σ Z H s b s1 :=
  et_or (o := o.map fun y => (y, s1)) ha (fun e y s' hy => by obtain ⟨z, hz, e2⟩ := Option.map_eq_some_iff.mp hy; cases e2; exact hb e _ hz) (by
    cases a with
    | false => rw [if_neg Bool.false_ne_true] at h ⊢; rw [h]; rfl
    | true => rw [if_pos rfl] at h ⊢; rw [← Option.some.inj h])
end
/-! ### fields, calls -/
/-- the attribute f of things of this kind -/
def FldOf {α β : Type} (τ : Ty α) (C : Addr) (f : Str) (υ : Ty β) (pr : α → β) : Prop := ∀ Z v x, τ.r Z v x → ∃ a dx fs w, v = .ref a ∧ Z a = some (.ins C dx fs) ∧ fs.lookup f = some w ∧ υ.r Z w (pr x)
theorem ev_fld {α β : Type} {τ : Ty α} {υ : Ty β} {C : Addr} {f : Str} {pr : α → β} {x : α} (F : FldOf τ C f υ pr) (c : Cls K C) (n : NoAttr K C f) (ha : Ev M ta σ Z H s (ty τ x) s1) : Ev M (tFld K ta f) σ Z H s (ty υ (pr x)) s1 :=
  fun Z1 H1 a b c' d Q q => ha Z1 H1 a b c' d _ fun v Z2 H2 e m rv => by
    obtain ⟨p, dx, fs, w, rfl, hp, l, rw'⟩ := F _ _ _ rv
    exact ⟨p, C, dx, fs, w, rfl, e.s _ _ hp, c, n, l, q _ _ _ e m rw'⟩
/-- things of this kind are instances of the class at C without an own attribute m -/
def ObjOf {α : Type} (τ : Ty α) (C : Addr) (m : Str) : Prop := ∀ Z v x, τ.r Z v x → ∃ a dx fs, v = .ref a ∧ Z a = some (.ins C dx fs) ∧ fs.lookup m = none
/-- what a promise gives for arguments of which Rs is true -/
def CallS (M : Mu μ) (sp : Sp) (E : XK) (Rs : Ra M.fp) (s : μ) (R : Rr M.fp) (s' : μ) : Prop :=
  ∀ Z H vs, Same Z H → M.m s Z H → Rs.r Z H vs → ∀ Q : VK, (∀ v Z2 H2, Step M.fp Z H Z2 H2 → M.m s' Z2 H2 → R.r Z2 H2 v → Q v H2) → sp vs H Q E
theorem ev_call {sp : Sp} {E : XK} {Rs : Ra M.fp} {R : Rr M.fp} (C : CallS M sp E Rs s1 R s2) (ha : EvA M t σ Z H s Rs s1) : Ev M (tCall sp [] E t) σ Z H s R s2 :=
  fun Z1 H1 a b c d Q q => ha Z1 H1 a b c d _ fun vs Z2 H2 e m rs => by
    rw [List.append_nil]
    exact C Z2 H2 vs e.s m rs Q fun v Z3 H3 e2 m2 rv => q v Z3 H3 (e.trans e2) m2 rv
theorem ev_meth {α : Type} {τ : Ty α} {x : α} {C' : Addr} {m : Str} {sp : Sp} {E : XK} {Rs : Ra M.fp} {R : Rr M.fp} (O : ObjOf τ C' m) (C : CallS M sp E (rac (ty τ x) Rs) s2 R s3) (hx : Ev M ta σ Z H s (ty τ x) s1) (ha : EvA M t σ Z H s1 Rs s2) : Ev M (tMeth C' m sp [] E ta t) σ Z H s R s3 :=
  fun Z1 H1 a b c d Q q => hx Z1 H1 a b c d _ fun v Z2 H2 e mm rv => by
    obtain ⟨p, dx, fs, rfl, hp, l⟩ := O _ _ _ rv
    refine ⟨p, dx, fs, rfl, e.s _ _ hp, l, ha Z2 H2 (a.trans e.z) (b.trans e.h) e.s mm _ fun vs Z3 H3 e2 m2 rs => ?_⟩
    rw [List.append_nil]
    exact C Z3 H3 _ e2.s m2 ⟨_, vs, rfl, τ.mono e2.z rv, rs⟩ Q fun v Z4 H4 e3 m3 rv' => q v Z4 H4 ((e.trans e2).trans e3) m3 rv'
theorem ev_meth0 {α : Type} {τ : Ty α} {x : α} {C' : Addr} {m : Str} {sp : Sp} {E : XK} {R : Rr M.fp} (O : ObjOf τ C' m) (C : CallS M sp E (rac (ty τ x) ra0) s1 R s2) (hx : Ev M ta σ Z H s (ty τ x) s1) : Ev M (tMeth C' m sp [] E ta tNil) σ Z H s R s2 := ev_meth O C hx eva_nil
theorem ev_prop {α : Type} {τ : Ty α} {x : α} {C' : Addr} {m : Str} {sp : Sp} {E : XK} {R : Rr M.fp} (O : ObjOf τ C' m) (C : CallS M sp E (rac (ty τ x) ra0) s1 R s2) (hx : Ev M ta σ Z H s (ty τ x) s1) : Ev M (tProp C' sp [] E ta) σ Z H s R s2 :=
  fun Z1 H1 a b c d Q q => hx Z1 H1 a b c d _ fun v Z2 H2 e mm rv => by
    obtain ⟨p, dx, fs, rfl, hp, l⟩ := O _ _ _ rv
    exact ⟨p, dx, fs, rfl, e.s _ _ hp, C Z2 H2 _ e.s mm ⟨_, [], rfl, rv, rfl⟩ Q fun v Z4 H4 e3 m3 rv' => q v Z4 H4 (e.trans e3) m3 rv'⟩
/-- what the __init__ of the class at C makes of a new instance: a thing of which R is true -/
def InitS (M : Mu μ) (C : Addr) (sp : Sp) (E : XK) (Rs : Ra M.fp) (s : μ) (R : Rr M.fp) (s' : μ) : Prop :=
  ∀ Z H vs x dx, Same Z H → M.m s Z H → Rs.r Z H vs → H x = some (.ins C dx []) → Z x = none → x ∉ M.fp → ∀ Q : VK, (∀ Z2 H2 o, Step (x :: M.fp) Z H Z2 H2 → M.m s' Z2 H2 → H2 x = some o → R.r (upd Z2 x o) H2 (.ref x) → Q .non H2) → sp (.ref x :: vs) H Q E
theorem Step.dict {Z H : Hp} {x dx C : Addr} (sz : Same Z H) (hx : H x = none) (hd : H dx = none) (ne : dx ≠ x) : Step [] Z H Z (upd (upd H dx (.own x)) x (.ins C dx [])) :=
  (Step.own sz hd).trans (Step.own (Step.own sz hd).s (by rw [upd_ne ne.symm]; exact hx))
theorem Step.freeze {S : List Addr} {Z H Z1 H1 : Hp} {x : Addr} {o : HO} (g : Step (x :: S) Z H Z1 H1) (hx : H x = none) (h1 : H1 x = some o) (hz : Z1 x = none) : Step S Z H (upd Z1 x o) H1 := by
  have g' : Step S Z H Z1 H1 := g.weak fun a h => by
    rcases List.mem_cons.mp h with e | h
    · exact .inr (e ▸ hx)
    · exact .inl h
  refine ⟨g'.z.trans (same_upd hz), fun a u e => ?_, g'.h, fun a h z => ?_, g'.al⟩
  · by_cases q : a = x
    · subst q; rw [upd_same] at e; rw [← Option.some.inj e]; exact h1
    · rw [upd_ne q] at e; exact g'.s a u e
  · rw [upd_ne (ne_of_some h hx)]; exact g'.n a h z
theorem ev_make {C : Addr} {sp : Sp} {E : XK} {Rs : Ra M.fp} {R : Rr M.fp} (I : InitS M C sp E Rs s1 R s2) (ha : EvA M t σ Z H s Rs s1) : Ev M (tMake C sp [] E t) σ Z H s R s2 :=
  fun Z1 H1 a b c d Q q => ha Z1 H1 a b c d _ fun vs Z2 H2 e m rs x dx hx hd ne => by
    rw [List.append_nil]
    have st := Step.dict (C := C) e.s hx hd ne
    have nf : x ∉ M.fp := fun h => (M.al m x h).1 hx
    refine I Z2 _ vs x dx st.s (M.pure st m) (Rs.st st.pure rs) upd_same (same_none e.s hx) nf _ fun Z3 H3 o e2 m2 ho rv => ⟨rfl, ?_⟩
    have hz3 : Z3 x = none := e2.n x (by rw [upd_same]; exact fun z => nomatch z) (same_none e.s hx)
    have e3 : Step M.fp Z2 H2 (upd Z3 x o) H3 := ((st.pure (S := x :: M.fp)).trans e2).freeze hx ho hz3
    refine q _ _ _ (e.trans e3) (M.loc (same_upd hz3) (fun _ _ _ e => e) (fun a ha _ z => ?_) m2) rv
    rw [upd_ne (fun q => nf (by rw [← q]; exact ha))]
    exact z
theorem ev_makeK {C : Addr} {n k : Nat} {sp : Sp} {E : XK} {Rs Rk Rs' : Ra M.fp} {R : Rr M.fp} {gV : List V → List V → List V} {tk : TA} (I : InitS M C sp E Rs' s2 R s3) (ha : EvA M t σ Z H s Rs s1) (hk : EvA M tk σ Z H s1 Rk s2)
    (hg : ∀ Z H vs zs x, Rs.r Z H vs → Rk.r Z H zs → vs.length = n ∧ zs.length = k ∧ ∃ ws, gV (.ref x :: vs) zs = .ref x :: ws ∧ Rs'.r Z H ws) : Ev M (tMakeK C n k sp gV E t tk) σ Z H s R s3 :=
  fun Z1 H1 a b c d Q q => ha Z1 H1 a b c d _ fun vs Z2 H2 e m rs => hk Z2 H2 (a.trans e.z) (b.trans e.h) e.s m _ fun zs Z3 H3 e1 m1 rk => by
    have rs3 := Rs.st e1 rs
    obtain ⟨l1, l2, _⟩ := hg Z3 H3 vs zs 0 rs3 rk
    refine ⟨l1, l2, fun x dx hx hd ne => ?_⟩
    obtain ⟨_, _, ws, eg, rw'⟩ := hg Z3 H3 vs zs x rs3 rk
    rw [eg]
    have st := Step.dict (C := C) e1.s hx hd ne
    have nf : x ∉ M.fp := fun h => (M.al m1 x h).1 hx
    refine I Z3 _ ws x dx st.s (M.pure st m1) (Rs'.st st.pure rw') upd_same (same_none e1.s hx) nf _ fun Z4 H4 o e2 m2 ho rv => ⟨rfl, ?_⟩
    have hz3 : Z4 x = none := e2.n x (by rw [upd_same]; exact fun z => nomatch z) (same_none e1.s hx)
    have e3 : Step M.fp Z3 H3 (upd Z4 x o) H4 := ((st.pure (S := x :: M.fp)).trans e2).freeze hx ho hz3
    refine q _ _ _ ((e.trans e1).trans e3) (M.loc (same_upd hz3) (fun _ _ _ e => e) (fun a ha _ z => ?_) m2) rv
    rw [upd_ne (fun q => nf (by rw [← q]; exact ha))]
    exact z
/-! ### what is walked -/
/-- the things xs, of the kind τ, one after the other; what stands at F may change meanwhile -/
def WalkT {α : Type} (X : Hp → Hp → Prop) (J : It) (Z H : Hp) (τ : Ty α) (xs : List α) : Prop := xs.length ≤ sizeLine ∧ ∃ G Y, Walk J xs.length G Y ∧ (∀ Z' H', Same Z Z' → Same Z' H' → X H H' → G H') ∧
  ∀ i Z' H' v H'', i < xs.length → Same Z Z' → Same Z' H' → G H' → Y i H' v H'' → ∃ Z'' x, xs[i]? = some x ∧ Step [] Z' H' Z'' H'' ∧ τ.r Z'' v x
def EvI {α : Type} (M : Mu μ) (X : Hp → Hp → Prop) (wi : TI) (σ : L2.St) (Z H : Hp) (s : μ) (τ : Ty α) (xs : List α) (s' : μ) : Prop :=
  ∀ Z1 H1, Same Z Z1 → SameX M.fp H H1 → Same Z1 H1 → M.m s Z1 H1 → ∀ R : It → Hp → Prop, (∀ J Z2 H2, Step M.fp Z1 H1 Z2 H2 → M.m s' Z2 H2 → WalkT X J Z2 H2 τ xs → R J H2) → wi σ H1 R
section
variable {α β : Type} {τ : Ty α} {υ : Ty β} {xs : List α} {X : Hp → Hp → Prop}
theorem walk_at {J : It} {vs : List V} {G : Hp → Prop} (w : Walk J vs.length G (YAt vs)) {Z H : Hp} (hG : ∀ Z' H', Same Z Z' → Same Z' H' → X H H' → G H') (t : All (τ.r Z) vs xs) (l : xs.length ≤ sizeLine) : WalkT X J Z H τ xs := by
  refine ⟨l, G, YAt vs, by rw [← t.len]; exact w, hG, fun i Z' H' v H'' hi z sz _ y => ?_⟩
  obtain ⟨e, y⟩ := y
  subst e
  obtain ⟨x, ex, rx⟩ := t.get y
  exact ⟨Z', x, ex, Step.refl sz, τ.mono z rx⟩
theorem ei_list (ha : Ev M ta σ Z H s (ty (yList τ) xs) s1) : EvI M X (iList K ta) σ Z H s τ xs s1 :=
  fun Z1 H1 a b c d R q => ha Z1 H1 a b c d _ fun v Z2 H2 e m ⟨p, vs, ev, h, t, l⟩ => by
    subst ev
    exact ⟨p, rfl, ⟨vs, SqL.of (e.s _ _ h)⟩, q _ Z2 H2 e m (walk_at walk_list (fun Z' H' z sz _ => SqL.of (sz _ _ (z _ _ h))) t l)⟩
theorem ei_own (ha : Ev M ta σ Z H s (li τ xs) s1) : EvI M (SameX M.fp) (iList K ta) σ Z H s τ xs s1 :=
  fun Z1 H1 a b c d R q => ha Z1 H1 a b c d _ fun v Z2 H2 e m ⟨p, vs, ev, h, t, l⟩ => by
    subst ev
    refine ⟨p, rfl, ⟨vs, SqL.of (h.get e.s)⟩, q _ Z2 H2 e m (walk_at walk_list (fun Z' H' z sz x => ?_) t l)⟩
    rcases h with h | h
    · exact SqL.of (sz _ _ (z _ _ h))
    · exact SqL.of (x _ _ h.2 h.1)
theorem ei_tup (ha : Ev M ta σ Z H s (ty (yTup K τ) xs) s1) : EvI M X (iTup K ta) σ Z H s τ xs s1 :=
  fun Z1 H1 a b c d R q => ha Z1 H1 a b c d _ fun v Z2 H2 e m ⟨p, vs, ev, h, t, l⟩ => by
    subst ev
    exact ⟨p, rfl, ⟨vs, seqT_same e.s h⟩, q _ Z2 H2 e m (walk_at walk_tup (fun Z' H' z sz _ => seqT_same sz (seqT_same z h)) t l)⟩
def rangeZ (lo hi : Int) : List Int := (List.range (hi - lo).toNat).map fun (i : Nat) => lo + (i : Int)
def RangeOk (lo hi : Int) : Prop := (-(2 ^ 62) ≤ lo ∧ lo < 2 ^ 62) ∧ (-(2 ^ 62) ≤ hi ∧ hi < 2 ^ 62) ∧ hi - lo ≤ 16777216
instance {lo hi : Int} : Decidable (RangeOk lo hi) := inferInstanceAs (Decidable (_ ∧ _ ∧ _))
theorem rangeZ_len (lo hi : Int) : (rangeZ lo hi).length = (hi - lo).toNat := by unfold rangeZ; rw [List.length_map, List.length_range]
theorem walk_rng {lo hi : Int} {Z H : Hp} (l : hi - lo ≤ 16777216) : WalkT X (Itr lo (hi - lo).toNat) Z H yInt (rangeZ lo hi) := by
  refine ⟨by rw [rangeZ_len]; show (hi - lo).toNat ≤ 2 ^ 24; omega, fun _ => True, YFn fun i => .int (lo + i), by rw [rangeZ_len]; exact walk_range, fun _ _ _ _ _ => trivial, fun i Z' H' v H'' hi z sz _ y => ?_⟩
  obtain ⟨e, y⟩ := y
  subst e
  rw [rangeZ_len] at hi
  refine ⟨Z', lo + (i : Int), ?_, Step.refl sz, y⟩
  unfold rangeZ
  rw [List.getElem?_map, List.getElem?_range hi]
  rfl
theorem ei_rng1 {i : Int} (ha : Ev M ta σ Z H s (ty yInt i) s1) (h1 : RangeOk 0 i) : EvI M X (iRng1 (tCons ta tNil)) σ Z H s yInt (rangeZ 0 i) s1 :=
  fun Z1 H1 a b c d R q => eva_cons ha eva_nil Z1 H1 a b c d _ fun vs Z2 H2 e m ⟨v, r, e1, h, e2⟩ => by
    cases e2; cases h
    refine ⟨i, e1, h1.2.1.1, h1.2.1.2, q _ Z2 H2 e m ?_⟩
    have := walk_rng (X := X) (lo := 0) (hi := i) (Z := Z2) (H := H2) h1.2.2
    rw [Int.sub_zero] at this
    exact this
theorem ei_rng2 {i j : Int} (ha : Ev M ta σ Z H s (ty yInt i) s1) (hb : Ev M tb σ Z H s1 (ty yInt j) s2) (h1 : RangeOk i j) : EvI M X (iRng2 (tCons ta (tCons tb tNil))) σ Z H s yInt (rangeZ i j) s2 :=
  fun Z1 H1 a b c d R q => eva_cons ha (eva_cons hb eva_nil) Z1 H1 a b c d _ fun vs Z2 H2 e m ⟨v, r, e1, h, w, r2, e3, h3, e2⟩ => by
    cases e2; cases h; cases h3; cases e3
    exact ⟨i, j, e1, ⟨h1.1.1, h1.1.2, h1.2.1.1, h1.2.1.2⟩, q _ Z2 H2 e m (walk_rng h1.2.2)⟩
/-- pairs that are laid turn by turn -/
theorem walk_pairs {ys : List β} {vs ws : List V} {J : It} {G : Hp → Prop} (n : Nat) (hn : n = min vs.length ws.length) (w : Walk J n G (YPair (fun i => vs[i]?) (fun i => ws[i]?))) {Z H : Hp} (hG : ∀ Z' H', Same Z Z' → Same Z' H' → X H H' → G H') (t : All (τ.r Z) vs xs) (u : All (υ.r Z) ws ys) (l : vs.length ≤ sizeLine) : WalkT X J Z H (yP2 K τ υ) (xs.zip ys) := by
  have ln : (xs.zip ys).length = n := by rw [List.length_zip, ← t.len, ← u.len, hn]
  refine ⟨by rw [ln, hn]; omega, G, _, by rw [ln]; exact w, hG, fun i Z' H' v H'' hi z sz _ y => ?_⟩
  obtain ⟨T, v1, v2, rfl, nT, rfl, g1, g2⟩ := y
  obtain ⟨x1, ex1, rx1⟩ := t.get g1
  obtain ⟨x2, ex2, rx2⟩ := u.get g2
  have st := Step.new (o := .tup [v1, v2]) sz nT
  exact ⟨upd Z' T (.tup [v1, v2]), (x1, x2), by rw [List.getElem?_zip_eq_some]; exact ⟨ex1, ex2⟩, st, T, v1, v2, rfl, sqT_new, τ.mono (z.trans st.z) rx1, υ.mono (z.trans st.z) rx2⟩
def enumZ {α : Type} (xs : List α) : List (Int × α) := (rangeZ 0 (xs.length : Nat)).zip xs
theorem enum_rng (n : Nat) (i : Nat) (h : i < n) : ((rangeZ 0 (n : Nat)).map V.int)[i]? = some (.int (i : Nat)) := by
  unfold rangeZ
  rw [List.getElem?_map, List.getElem?_map, List.getElem?_range (by omega)]
  show some (V.int (0 + (i : Int))) = _
  rw [Int.zero_add]
theorem ei_enum (ha : Ev M ta σ Z H s (ty (yList τ) xs) s1) : EvI M X (iEnum K (tCons ta tNil)) σ Z H s (yP2 K yInt τ) (enumZ xs) s1 :=
  fun Z1 H1 a b c d R q => eva_cons ha eva_nil Z1 H1 a b c d _ fun us Z2 H2 e m ⟨v, r, e1, ⟨p, vs, ev, h, t, l⟩, e2⟩ => by
    cases e2; cases ev; cases e1
    refine ⟨p, vs, rfl, SqL.of (e.s _ _ h), q _ Z2 H2 e m ?_⟩
    have hl : ((rangeZ 0 (xs.length : Nat)).map V.int).length = vs.length := by
      rw [List.length_map, rangeZ_len, t.len]; omega
    refine walk_pairs (vs := (rangeZ 0 (xs.length : Nat)).map V.int) (ws := vs) vs.length (by rw [hl]; omega) (walk_enum.mono (fun _ g => g) fun i H v H' hi _ ⟨T, x, y, h1, h2, h3, h4, h5⟩ => ⟨T, x, y, h1, h2, h3, ?_, h5⟩) (fun Z' H' z sz _ => SqL.of (sz _ _ (z _ _ h))) (All.ofInts _) t (by rw [hl, t.len]; exact l)
    show ((rangeZ 0 (xs.length : Nat)).map V.int)[i]? = some x
    rw [enum_rng _ _ (by rw [← t.len]; exact hi)]
    exact h4
theorem ei_str {x : Str} (ha : Ev M ta σ Z H s (ty yStr x) s1) : EvI M X (iStr ta) σ Z H s yStr (x.cps.toList.map fun c => (⟨#[c]⟩ : Str)) s1 :=
  fun Z1 H1 a b c d R q => ha Z1 H1 a b c d _ fun v Z2 H2 e m rv => by
    refine ⟨x, rv.1, q _ Z2 H2 e m ?_⟩
    have ln : (x.cps.toList.map fun c => (⟨#[c]⟩ : Str)).length = x.cps.size := by rw [List.length_map, Array.length_toList]
    have lz : x.cps.size ≤ sizeLine := of_decide_eq_true (Bool.and_eq_true_iff.mp (show (PyData.strOk x && decide (x.length ≤ sizeLine)) = true from rv.2)).2
    refine ⟨by rw [ln]; exact lz, fun _ => True, _, by rw [ln]; exact walk_str, fun _ _ _ _ _ => trivial, fun i Z' H' v H'' hi z sz _ y => ?_⟩
    obtain ⟨e, c, hc, rfl⟩ := y
    subst e
    have hc' : x.cps.toList[i]? = some c := by rw [Array.getElem?_toList]; exact hc
    refine ⟨Z', ⟨#[c]⟩, by rw [List.getElem?_map, hc']; rfl, Step.refl sz, rfl, ?_⟩
    have ok := rv.2
    unfold okS PyData.strOk at ok ⊢
    rw [Bool.and_eq_true] at ok ⊢
    refine ⟨?_, decide_eq_true (by show (#[c] : Array Nat).size ≤ sizeLine; exact (by decide : 1 ≤ sizeLine))⟩
    have h2 := Array.all_eq_true_iff_forall_mem.mp ok.1 c (Array.mem_of_getElem? hc)
    simpa using h2
end
/-! ### list comprehensions -/
/-- the target stores the value: from the slots σ to σ2 -/
def Tgt (g : TG) (v : V) (σ σ2 : L2.St) (Z : Hp) : Prop := ∀ H, Same Z H → ∀ Q : L2.St → Hp → Prop, Q σ2 H → g v σ H Q
theorem tgt_name {i : Nat} {v : V} {σ : L2.St} {Z : Hp} : Tgt (gName i) v σ (σ.set i (some v)) Z := fun _ _ _ q => q
theorem tgt_p2 {α β : Type} {τ : Ty α} {υ : Ty β} {g1 g2 : TG} {v : V} {x : α × β} {Z : Hp} (h : (yP2 K τ υ).r Z v x) : ∃ v1 v2, τ.r Z v1 x.1 ∧ υ.r Z v2 x.2 ∧ ∀ {σ σ1 σ2 : L2.St}, Tgt g1 v1 σ σ1 Z → Tgt g2 v2 σ1 σ2 Z → Tgt (gTup K 2 (gCons g1 (gCons g2 gNil))) v σ σ2 Z := by
  obtain ⟨a, v1, v2, rfl, t, h1, h2⟩ := h
  exact ⟨v1, v2, h1, h2, fun {σ σ1 σ2} t1 t2 H sz Q q => ⟨a, _, rfl, seqT_same sz t, rfl, v1, _, rfl, t1 H sz _ ⟨v2, _, rfl, t2 H sz _ ⟨rfl, q⟩⟩⟩⟩
theorem tgt_p3 {α β γ : Type} {τ : Ty α} {υ : Ty β} {φ : Ty γ} {g1 g2 g3 : TG} {v : V} {x : α × β × γ} {Z : Hp} (h : (yP3 K τ υ φ).r Z v x) : ∃ v1 v2 v3, τ.r Z v1 x.1 ∧ υ.r Z v2 x.2.1 ∧ φ.r Z v3 x.2.2 ∧ ∀ {σ σ1 σ2 σ3 : L2.St}, Tgt g1 v1 σ σ1 Z → Tgt g2 v2 σ1 σ2 Z → Tgt g3 v3 σ2 σ3 Z → Tgt (gTup K 3 (gCons g1 (gCons g2 (gCons g3 gNil)))) v σ σ3 Z := by
  obtain ⟨a, v1, v2, v3, rfl, t, h1, h2, h3⟩ := h
  exact ⟨v1, v2, v3, h1, h2, h3, fun {σ σ1 σ2 σ3} t1 t2 t3 H sz Q q => ⟨a, _, rfl, seqT_same sz t, rfl, v1, _, rfl, t1 H sz _ ⟨v2, _, rfl, t2 H sz _ ⟨v3, _, rfl, t3 H sz _ ⟨rfl, q⟩⟩⟩⟩⟩
section
variable {α β : Type} {τ : Ty α} {υ : Ty β} {xs : List α} {ys : List β}
/-- the comprehension as a plain walk: none leaves an item out -/
def lcM (g : α → μ → Option (Option β × μ)) : List α → μ → Option (List β × μ)
  | [], s => some ([], s)
  | x :: xs, s => (g x s).bind fun p => (lcM g xs p.2).bind fun q => some (match p.1 with | none => q.1 | some y => y :: q.1, q.2)
theorem en_lc {wi : TI} {g : TG} {tt : TT} {vs : List Nat} (P : μ → Prop) (h : α → μ → Option (Option β × μ)) (hP : P s1) (hi : EvI M (SameX M.fp) wi σ Z H s τ xs s1)
    (hb : ∀ x v Z' H' si p, Same Z Z' → SameX M.fp H H' → τ.r Z' v x → P si → h x si = some p → P p.2 ∧ ∃ σ2, Tgt g v (wipe σ vs) σ2 Z' ∧ wipe σ2 vs = wipe σ vs ∧ ∃ b s', EvT M tt σ2 Z' H' si b s' ∧ (b = true → ∃ y, p.1 = some y ∧ Ev M te σ2 Z' H' s' (ty υ y) p.2) ∧ (b = false → p = (none, s')))
    (hF : lcM h xs s1 = some (ys, s2)) : EvN M (tLc wi g tt te vs) σ Z H s υ ys s2 := by
  intro Z1 H1 a b c d Q q
  refine hi Z1 H1 a b c d _ fun J Z2 H2 e m ⟨hx, G, Y, wk, hG, hY⟩ D hD => ?_
  have zD : Z2 D = none := same_none e.s hD
  have st0 := Step.own (o := .lst []) e.s hD
  refine lc_it wk (fun i H' => ∃ Z' si zs ws r, Step M.fp Z2 H2 Z' H' ∧ Z' D = none ∧ H' D = some (.lst ws) ∧ All (υ.r Z') ws zs ∧ ws.length ≤ i ∧ M.m si Z' H' ∧ P si ∧ lcM h (xs.drop i) si = some (r, s2) ∧ ys = zs ++ r)
    ⟨Z2, s1, [], [], ys, st0.pure, zD, upd_same, .nil, Nat.le_refl _, M.pure st0 m, hP, by rw [List.drop_zero]; exact hF, rfl⟩ ?_ ?_ ?_
  · rintro i H' _ ⟨Z', si, zs, ws, r, st, _⟩
    exact hG Z' H' st.z st.s st.h
  · rintro i v H3 H4 hin ⟨Z', si, zs, ws, r, st, zD', hD', al, lw, m', pi, hF', ey⟩ y
    obtain ⟨Z4, x, ex, st4, rx⟩ := hY i Z' H3 v H4 hin st.z st.s (hG Z' H3 st.z st.s st.h) y
    have hd : xs.drop i = x :: xs.drop (i + 1) := by
      rw [List.drop_eq_getElem_cons hin]
      rw [List.getElem?_eq_getElem hin] at ex
      rw [Option.some.inj ex]
    rw [hd] at hF'
    obtain ⟨p, hp, hF2⟩ := Option.bind_eq_some_iff.mp hF'
    obtain ⟨⟨r2, s2'⟩, hr, hF3⟩ := Option.bind_eq_some_iff.mp hF2
    have e4 := st.trans st4.pure
    have eZ : Same Z Z4 := (a.trans e.z).trans e4.z
    have eH : SameX M.fp H H4 := (b.trans e.h).trans e4.h
    obtain ⟨pp, σ2, tg, wp, bb, s', et, ht, hf⟩ := hb x v Z4 H4 si p eZ eH rx pi hp
    have es2 : s2' = s2 := by injection hF3 with q; exact congrArg Prod.snd q
    subst es2
    refine tg H4 e4.s _ ⟨wp, et Z4 H4 (Same.refl _) SameX.refl e4.s (M.pure st4 m') _ fun Z5 H5 e5 m5 => ?_⟩
    have nD : D ∉ M.fp := fun h => absurd hD (M.al m D h).1
    have hD4 : H4 D = some (.lst ws) := st4.h _ _ List.not_mem_nil hD'
    have hD5 : H5 D = some (.lst ws) := e5.h _ _ nD hD4
    have zD5 : Z5 D = none := e5.n D (some_ne hD4) (st4.n D (some_ne hD') zD')
    have e15 := e4.trans e5
    cases bb with
    | false =>
      rw [if_neg Bool.false_ne_true]
      have ep := hf rfl
      subst ep
      refine ⟨Z5, s', zs, ws, r2, e15, zD5, hD5, al.imp fun _ _ => υ.mono (st4.z.trans e5.z), by omega, m5, pp, hr, ?_⟩
      injection hF3 with q3
      have q4 : r2 = r := congrArg Prod.fst q3
      rw [ey, q4]
    | true =>
      rw [if_pos rfl]
      obtain ⟨y, ep, ev⟩ := ht rfl
      refine ev Z5 H5 e5.z e5.h e5.s m5 _ fun w Z6 H6 e6 m6 rw' => ?_
      have hD6 : H6 D = some (.lst ws) := e6.h _ _ nD hD5
      have zD6 : Z6 D = none := e6.n D (some_ne hD5) zD5
      have s7 := Step.set (o := .lst (ws ++ [w])) e6.s zD6
      refine ⟨ws, hD6, by omega, Z6, p.2, zs ++ [y], ws ++ [w], r2, (e15.trans e6).mine s7 (fun x hx => by rw [List.mem_singleton] at hx; subst hx; exact .inr hD), zD6, upd_same, (al.imp fun _ _ => υ.mono ((st4.z.trans e5.z).trans e6.z)).snoc rw', by rw [List.length_append]; show ws.length + 1 ≤ _; omega, ?_, pp, hr, ?_⟩
      · refine M.loc (Same.refl _) (fun a' ha' o ho => ?_) (fun _ _ _ z => z) m6
        rw [upd_ne (fun q' => nD (by rw [← q']; exact ha'))]
        exact ho
      · injection hF3 with q3
        rw [ep] at q3
        have q4 : y :: r2 = r := congrArg Prod.fst q3
        rw [ey, ← q4, List.append_assoc]
        rfl
  · rintro H' ⟨Z', si, zs, ws, r, st, zD', hD', al, lw, m', _, hF', ey⟩
    rw [List.drop_length] at hF'
    injection hF' with q'
    have e1 : r = [] := (congrArg Prod.fst q').symm
    have e2 : si = s2 := congrArg Prod.snd q'
    subst e1 e2
    rw [List.append_nil] at ey
    subst ey
    exact q D ws Z' H' (e.trans st) m' (same_x e hD) zD' hD' al (by rw [← al.len]; omega)
def mapO (f : α → Option β) : List α → Option (List β)
  | [] => some []
  | x :: r => (f x).bind fun y => (mapO f r).bind fun ys => some (y :: ys)
def fmO (f : α → Option (Option β)) : List α → Option (List β)
  | [] => some []
  | x :: r => (f x).bind fun y => (fmO f r).bind fun ys => some (match y with | none => ys | some z => z :: ys)
def mapS (f : α → μ → Option (β × μ)) : List α → μ → Option (List β × μ)
  | [], s => some ([], s)
  | x :: r, s => (f x s).bind fun p => (mapS f r p.2).bind fun q => some (p.1 :: q.1, q.2)
theorem lcM_fmO (f : α → Option (Option β)) (s : μ) : ∀ xs : List α, lcM (fun x s => (f x).map fun y => (y, s)) xs s = (fmO f xs).map fun ys => (ys, s)
  | [] => rfl
  | x :: r => by
    have ih := lcM_fmO f s r
    unfold lcM fmO
    cases f x with
    | none => rfl
    | some y =>
      simp only [Option.map_some, Option.bind_some, ih]
      cases fmO f r with
      | none => rfl
      | some ys => cases y <;> rfl
theorem lcM_mapS (f : α → μ → Option (β × μ)) : ∀ (xs : List α) (s : μ), lcM (fun x s => (f x s).map fun p => (some p.1, p.2)) xs s = mapS f xs s
  | [], _ => rfl
  | x :: r, s => by
    unfold lcM mapS
    cases f x s with
    | none => rfl
    | some p =>
      simp only [Option.map_some, Option.bind_some, lcM_mapS f r p.2]
theorem fmO_mapO (f : α → Option β) : ∀ xs : List α, fmO (fun x => (f x).map some) xs = mapO f xs
  | [] => rfl
  | x :: r => by
    unfold fmO mapO
    rw [fmO_mapO f r]
    cases f x <;> rfl
theorem fmO_fil (p : α → Bool) (f : α → β) : ∀ xs : List α, fmO (fun x => some (if p x = true then some (f x) else none)) xs = some ((xs.filter p).map f)
  | [] => rfl
  | x :: r => by
    unfold fmO
    rw [fmO_fil p f r]
    cases e : p x with
    | true => rw [List.filter_cons_of_pos e]; rfl
    | false => rw [List.filter_cons_of_neg (by rw [e]; exact Bool.false_ne_true)]; rfl
section
variable {wi : TI} {g : TG} {tt : TT} {vs : List Nat}
/-- stateless, with a test -/
theorem en_fmO (f : α → Option (Option β)) (hi : EvI M (SameX M.fp) wi σ Z H s τ xs s1)
    (hb : ∀ x v Z' H' p, Same Z Z' → SameX M.fp H H' → τ.r Z' v x → f x = some p → ∃ σ2, Tgt g v (wipe σ vs) σ2 Z' ∧ wipe σ2 vs = wipe σ vs ∧ ∃ b, EvT M tt σ2 Z' H' s1 b s1 ∧ (b = true → ∃ y, p = some y ∧ Ev M te σ2 Z' H' s1 (ty υ y) s1) ∧ (b = false → p = none))
    (hF : fmO f xs = some ys) : EvN M (tLc wi g tt te vs) σ Z H s υ ys s1 := by
  refine en_lc (· = s1) (fun x s => (f x).map fun y => (y, s)) rfl hi (fun x v Z' H' si p z h rv e hp => ?_) (by rw [lcM_fmO, hF]; rfl)
  subst e
  obtain ⟨q, hq, rfl⟩ := Option.map_eq_some_iff.mp hp
  obtain ⟨σ2, tg, wp, b, et, h1, h2⟩ := hb x v Z' H' q z h rv hq
  exact ⟨rfl, σ2, tg, wp, b, _, et, h1, fun e => by rw [h2 e]⟩
/-- stateless, partial -/
theorem en_mapO (f : α → Option β) (hi : EvI M (SameX M.fp) wi σ Z H s τ xs s1)
    (hb : ∀ x v Z' H' y, Same Z Z' → SameX M.fp H H' → τ.r Z' v x → f x = some y → ∃ σ2, Tgt g v (wipe σ vs) σ2 Z' ∧ wipe σ2 vs = wipe σ vs ∧ Ev M te σ2 Z' H' s1 (ty υ y) s1)
    (hF : mapO f xs = some ys) : EvN M (tLc wi g tYes te vs) σ Z H s υ ys s1 :=
  en_fmO (fun x => (f x).map some) hi (fun x v Z' H' p z h rv hp => by
    obtain ⟨y, hy, rfl⟩ := Option.map_eq_some_iff.mp hp
    obtain ⟨σ2, tg, wp, ev⟩ := hb x v Z' H' y z h rv hy
    exact ⟨σ2, tg, wp, true, fun Z1 H1 _ _ c d _ k => k Z1 H1 (Step.refl c) d, fun _ => ⟨y, rfl, ev⟩, fun e => nomatch e⟩) (by rw [fmO_mapO, hF])
/-- stateless, total -/
theorem en_map (f : α → β) (hi : EvI M (SameX M.fp) wi σ Z H s τ xs s1)
    (hb : ∀ x v Z' H', Same Z Z' → SameX M.fp H H' → τ.r Z' v x → ∃ σ2, Tgt g v (wipe σ vs) σ2 Z' ∧ wipe σ2 vs = wipe σ vs ∧ Ev M te σ2 Z' H' s1 (ty υ (f x)) s1) : EvN M (tLc wi g tYes te vs) σ Z H s υ (xs.map f) s1 :=
  en_mapO (fun x => some (f x)) hi (fun x v Z' H' y z h rv hy => by cases hy; exact hb x v Z' H' z h rv) (by
    clear hb hi
    induction xs with
    | nil => rfl
    | cons x r ih => unfold mapO; rw [ih]; rfl)
theorem en_fil (p : α → Bool) (f : α → β) (hi : EvI M (SameX M.fp) wi σ Z H s τ xs s1)
    (hb : ∀ x v Z' H', Same Z Z' → SameX M.fp H H' → τ.r Z' v x → ∃ σ2, Tgt g v (wipe σ vs) σ2 Z' ∧ wipe σ2 vs = wipe σ vs ∧ EvT M tt σ2 Z' H' s1 (p x) s1 ∧ Ev M te σ2 Z' H' s1 (ty υ (f x)) s1) : EvN M (tLc wi g tt te vs) σ Z H s υ ((xs.filter p).map f) s1 :=
  en_fmO (fun x => some (if p x = true then some (f x) else none)) hi (fun x v Z' H' q z h rv hq => by
    obtain ⟨σ2, tg, wp, et, ev⟩ := hb x v Z' H' z h rv
    cases hq
    exact ⟨σ2, tg, wp, p x, et, fun e => ⟨f x, if_pos e, ev⟩, fun e => if_neg (by rw [e]; exact Bool.false_ne_true)⟩) (fmO_fil p f xs)
theorem en_mapS (f : α → μ → Option (β × μ)) (hi : EvI M (SameX M.fp) wi σ Z H s τ xs s1)
    (hb : ∀ x v Z' H' si p, Same Z Z' → SameX M.fp H H' → τ.r Z' v x → f x si = some p → ∃ σ2, Tgt g v (wipe σ vs) σ2 Z' ∧ wipe σ2 vs = wipe σ vs ∧ Ev M te σ2 Z' H' si (ty υ p.1) p.2)
    (hF : mapS f xs s1 = some (ys, s2)) : EvN M (tLc wi g tYes te vs) σ Z H s υ ys s2 :=
  en_lc (fun _ => True) (fun x s => (f x s).map fun p => (some p.1, p.2)) trivial hi (fun x v Z' H' si p z h rv _ hp => by
    obtain ⟨q, hq, rfl⟩ := Option.map_eq_some_iff.mp hp
    obtain ⟨σ2, tg, wp, ev⟩ := hb x v Z' H' si q z h rv hq
    exact ⟨trivial, σ2, tg, wp, true, si, fun Z1 H1 _ _ c d _ k => k Z1 H1 (Step.refl c) d, fun _ => ⟨q.1, rfl, ev⟩, fun e => nomatch e⟩) (by rw [lcM_mapS, hF])
end
end
end
end TP

namespace TP
open PySem PySem.Spec PyProof.Rows L2
section
variable {μ : Type} {S : List Addr} {Z0 H0 : Hp} {M : Mu μ} {σ : L2.St} {Z H : Hp} {s s' s1 s2 s3 : μ} {ta tb tc te : TE} {t : TA} {K : PySem.W.Frag} {D : Ends} {u w : TS}
/-! ### a place in a def's body -/
structure Pt (S : List Addr) (Z0 H0 : Hp) (M : Mu μ) (Z H : Hp) (s : μ) : Prop where
  st : Step S Z0 H0 Z H
  m : M.m s Z H
  mine : ∀ a ∈ M.fp, a ∈ S ∨ H0 a = none
theorem Pt.next {Z1 H1 : Hp} (P : Pt S Z0 H0 M Z H s) (e : Step M.fp Z H Z1 H1) (m : M.m s1 Z1 H1) : Pt S Z0 H0 M Z1 H1 s1 := ⟨P.st.mine e P.mine, m, P.mine⟩
theorem Pt.start (M : Mu μ) (sz : Same Z H) (m : M.m s Z H) : Pt M.fp Z H M Z H s := ⟨Step.refl sz, m, fun _ h => .inl h⟩
theorem Pt.start0 (sz : Same Z H) : Pt [] Z H muN Z H () := ⟨Step.refl sz, trivial, fun _ h => (nomatch h)⟩
theorem Pt.sub (P : Pt S Z0 H0 M Z H s) : Same Z H := P.st.s
/-- a list of one's own: it may change -/
structure Own {α : Type} (S : List Addr) (H0 : Hp) (fp : List Addr) (Z H : Hp) (τ : Ty α) (p : Addr) (xs : List α) : Prop where
  ex : ∃ vs, H p = some (.lst vs) ∧ All (τ.r Z) vs xs
  z : Z p = none
  n : p ∉ fp
  mine : H0 p = none
  l : xs.length ≤ sizeLine
section
variable {α : Type} {τ : Ty α} {xs : List α} {p : Addr} {fp : List Addr}
theorem Own.step {F : List Addr} {Z1 H1 : Hp} (o : Own S H0 fp Z H τ p xs) (e : Step F Z H Z1 H1) (n : p ∉ F) : Own S H0 fp Z1 H1 τ p xs := by
  obtain ⟨vs, h, t⟩ := o.ex
  exact ⟨⟨vs, e.h _ _ n h, t.imp fun _ _ => τ.mono e.z⟩, e.n _ (some_ne h) o.z, o.n, o.mine, o.l⟩
theorem Own.next {Z1 H1 : Hp} (o : Own S H0 fp Z H τ p xs) (e : Step fp Z H Z1 H1) : Own S H0 fp Z1 H1 τ p xs := o.step e o.n
theorem Own.ne (o : Own S H0 fp Z H τ p xs) {q : Addr} (h : H q = none) : p ≠ q := by
  obtain ⟨vs, hp, _⟩ := o.ex
  exact ne_of_some (some_ne hp) h
theorem ev_o {i : Nat} (o : Own S H0 M.fp Z H τ p xs) (e : σ[i]? = some (some (.ref p))) : Ev M (tVar i) σ Z H s (li τ xs) s := by
  obtain ⟨vs, h, t⟩ := o.ex
  exact ev_own e h o.n t o.l
/-- it never changes from now on -/
theorem Own.fz (o : Own S H0 M.fp Z H τ p xs) (P : Pt S Z0 H0 M Z H s) : ∃ Z', Pt S Z0 H0 M Z' H s ∧ Same Z Z' ∧ (yList τ).r Z' (.ref p) xs ∧ ∀ q, q ≠ p → Z q = none → Z' q = none := by
  obtain ⟨vs, h, t⟩ := o.ex
  refine ⟨upd Z p (.lst vs), ⟨?_, Mu.fz P.m o.z o.n, P.mine⟩, same_upd o.z, ⟨p, vs, rfl, upd_same, t.imp fun _ _ => τ.mono (same_upd o.z), o.l⟩, fun q n e => by rw [upd_ne n]; exact e⟩
  exact P.st.fz o.mine h o.z
theorem Own.keep {Z1 : Hp} (o : Own S H0 fp Z H τ p xs) (e : Same Z Z1) (n : Z1 p = none) : Own S H0 fp Z1 H τ p xs := by
  obtain ⟨vs, h, t⟩ := o.ex
  exact ⟨⟨vs, h, t.imp fun _ _ => τ.mono e⟩, n, o.n, o.mine, o.l⟩
end
/-- a list of one's own is lent: for a while it does not change -/
theorem Own.bor {α : Type} {τ : Ty α} {xs : List α} {p : Addr} (o : Own S H0 M.fp Z H τ p xs) (sz : Same Z H) (m : M.m s Z H) : ∃ Zb, Same Z Zb ∧ Same Zb H ∧ M.m s Zb H ∧ (yList τ).r Zb (.ref p) xs ∧ ∀ q, q ≠ p → Z q = none → Zb q = none := by
  obtain ⟨vs, h, t⟩ := o.ex
  refine ⟨upd Z p (.lst vs), same_upd o.z, fun a u e => ?_, Mu.fz m o.z o.n, ⟨p, vs, rfl, upd_same, t.imp fun _ _ => τ.mono (same_upd o.z), o.l⟩, fun q n e => by rw [upd_ne n]; exact e⟩
  by_cases q : a = p
  · subst q; rw [upd_same] at e; rw [← Option.some.inj e]; exact h
  · rw [upd_ne q] at e; exact sz a u e
theorem Step.lent {S : List Addr} {Z Zb H Z1 H1 : Hp} (zf : Same Z Zb) (e : Step S Zb H Z1 H1) : Step S Z H Z H1 := ⟨Same.refl _, zf.trans (e.z.trans e.s), e.h, fun _ _ z => z, e.al⟩
/-! ### statements -/
theorem st_nx {nx bk ct : L2.St → Hp → Prop} {rt : VK} (h : nx σ H) : Ends.nx ⟨nx, rt, bk, ct⟩ σ H := h
theorem st_next0 {nx bk ct : L2.St → Hp → Prop} {rt : VK} (h : nx σ H) : tNext ⟨nx, rt, bk, ct⟩ σ H := h
theorem st_next (h : D.nx σ H) : tNext D σ H := h
theorem st_seq (h : u { D with nx := w D } σ H) : tSeq u w D σ H := h
theorem st_set {R : Rr M.fp} {i : Nat} (P : Pt S Z0 H0 M Z H s) (e : Ev M te σ Z H s R s1) (k : ∀ v Z1 H1, Step M.fp Z H Z1 H1 → Pt S Z0 H0 M Z1 H1 s1 → R.r Z1 H1 v → D.nx (σ.set i (some v)) H1) : tAsg te (gName i) D σ H :=
  e Z H (Same.refl _) SameX.refl P.sub P.m _ fun v Z1 H1 e m r => k v Z1 H1 e (P.next e m) r
theorem st_asg {R : Rr M.fp} {g : TG} (P : Pt S Z0 H0 M Z H s) (e : Ev M te σ Z H s R s1) (k : ∀ v Z1 H1, Step M.fp Z H Z1 H1 → Pt S Z0 H0 M Z1 H1 s1 → R.r Z1 H1 v → ∃ σ2, Tgt g v σ σ2 Z1 ∧ D.nx σ2 H1) : tAsg te g D σ H :=
  e Z H (Same.refl _) SameX.refl P.sub P.m _ fun v Z1 H1 e m r => by
    obtain ⟨σ2, tg, q⟩ := k v Z1 H1 e (P.next e m) r
    exact tg H1 e.s _ q
theorem st_ret {R : Rr M.fp} (P : Pt S Z0 H0 M Z H s) (e : Ev M te σ Z H s R s1) (k : ∀ v Z1 H1, Pt S Z0 H0 M Z1 H1 s1 → R.r Z1 H1 v → D.rt v H1) : tRet te D σ H :=
  e Z H (Same.refl _) SameX.refl P.sub P.m _ fun v Z1 H1 e m r => k v Z1 H1 (P.next e m) r
theorem st_expr {R : Rr M.fp} (P : Pt S Z0 H0 M Z H s) (e : Ev M te σ Z H s R s1) (k : ∀ Z1 H1, Step M.fp Z H Z1 H1 → Pt S Z0 H0 M Z1 H1 s1 → D.nx σ H1) : tDrop te D σ H :=
  e Z H (Same.refl _) SameX.refl P.sub P.m _ fun v Z1 H1 e m r => k Z1 H1 e (P.next e m)
theorem st_if {b : Bool} {tt : TT} (P : Pt S Z0 H0 M Z H s) (e : EvT M tt σ Z H s b s1) (ht : b = true → ∀ Z1 H1, Step M.fp Z H Z1 H1 → Pt S Z0 H0 M Z1 H1 s1 → u D σ H1) (hf : b = false → ∀ Z1 H1, Step M.fp Z H Z1 H1 → Pt S Z0 H0 M Z1 H1 s1 → w D σ H1) : tIfS tt u w D σ H :=
  e Z H (Same.refl _) SameX.refl P.sub P.m _ fun Z1 H1 e' m => by
    cases b with
    | true => rw [if_pos rfl]; exact ht rfl Z1 H1 e' (P.next e' m)
    | false => rw [if_neg Bool.false_ne_true]; exact hf rfl Z1 H1 e' (P.next e' m)
theorem st_ifB {b : Bool} {tt : TT} {Zb : Hp} (bk : M.Back) (P : Pt S Z0 H0 M Z H s) (zf : Same Z Zb) (sb : Same Zb H) (mb : M.m s Zb H) (e : EvT M tt σ Zb H s b s1) (ht : b = true → ∀ Z1 H1, Step M.fp Z H Z1 H1 → Pt S Z0 H0 M Z1 H1 s1 → u D σ H1) (hf : b = false → ∀ Z1 H1, Step M.fp Z H Z1 H1 → Pt S Z0 H0 M Z1 H1 s1 → w D σ H1) : tIfS tt u w D σ H :=
  e Zb H (Same.refl _) SameX.refl sb mb _ fun Z1 H1 e' m => by
    have e2 := Step.lent zf e'
    have m2 := bk (zf.trans e'.z) P.m m
    cases b with
    | true => rw [if_pos rfl]; exact ht rfl Z H1 e2 (P.next e2 m2)
    | false => rw [if_neg Bool.false_ne_true]; exact hf rfl Z H1 e2 (P.next e2 m2)
theorem st_aug {i : Nat} {a b : Int} {v : V} {f : Int → Int → Int} (P : Pt S Z0 H0 M Z H s) (hσ : σ[i]? = some (some v)) (hv : v = .int a) (e : Ev M te σ Z H s (ty yInt b) s1) (k : ∀ v Z1 H1, Step M.fp Z H Z1 H1 → Pt S Z0 H0 M Z1 H1 s1 → yInt.r Z1 v (f a b) → D.nx (σ.set i (some v)) H1) : tAug i te (ipI f) D σ H :=
  ⟨v, hσ, e Z H (Same.refl _) SameX.refl P.sub P.m _ fun v' Z1 H1 e m r => ⟨a, b, hv, r, k _ Z1 H1 e (P.next e m) rfl⟩⟩
section
variable {α β : Type} {τ : Ty α} {υ : Ty β} {xs ys : List α} {p : Addr} {x : α}
/-- a new list of one's own -/
theorem st_setN {i : Nat} (P : Pt S Z0 H0 M Z H s) (e : EvN M te σ Z H s τ xs s1) (k : ∀ p Z1 H1, Step M.fp Z H Z1 H1 → Pt S Z0 H0 M Z1 H1 s1 → H p = none → Own S H0 M.fp Z1 H1 τ p xs → D.nx (σ.set i (some (.ref p))) H1) : tAsg te (gName i) D σ H :=
  e Z H (Same.refl _) SameX.refl P.sub P.m _ fun p vs Z1 H1 e m hp zp h1 t l => k p Z1 H1 e (P.next e m) hp ⟨⟨vs, h1, t⟩, zp, fun hf => (M.al P.m p hf).1 hp, same_x P.st hp, l⟩
theorem Pt.set {o : HO} (P : Pt S Z0 H0 M Z H s) (hz : Z p = none) (n : p ∉ M.fp) (mine : p ∈ S ∨ H0 p = none) : Pt S Z0 H0 M Z (upd H p o) s := by
  refine ⟨P.st.mine (Step.set P.sub hz) fun a h => by rw [List.mem_singleton] at h; rw [h]; exact mine, M.loc (Same.refl _) (fun a ha u e => ?_) (fun _ _ _ z => z) P.m, P.mine⟩
  rw [upd_ne (fun q => n (by rw [← q]; exact ha))]
  exact e
theorem step2 {F : List Addr} {Z1 H1 : Hp} {o : HO} (e : Step F Z H Z1 H1) (hz : Z1 p = none) : Step (p :: F) Z H Z1 (upd H1 p o) :=
  (e.weak fun _ h => .inl (List.mem_cons_of_mem _ h)).mine (Step.set e.s hz) fun a h => by rw [List.mem_singleton] at h; rw [h]; exact .inl List.mem_cons_self
/-- xs.append(x) -/
theorem st_append {i : Nat} (P : Pt S Z0 H0 M Z H s) (o : Own S H0 M.fp Z H τ p xs) (hσ : σ[i]? = some (some (.ref p))) (e : Ev M te σ Z H s (ty τ x) s1) (l : xs.length < sizeLine)
    (k : ∀ Z1 H1, Step (p :: M.fp) Z H Z1 H1 → Pt S Z0 H0 M Z1 H1 s1 → Own S H0 M.fp Z1 H1 τ p (xs ++ [x]) → D.nx σ H1) : tDrop (tBM K "list" rAppend (tVar i) (tCons te tNil)) D σ H := by
  obtain ⟨vs, h, t⟩ := o.ex
  refine ⟨.ref p, hσ, .inl ⟨rfl, _, .inl (.inl h)⟩, e Z H (Same.refl _) SameX.refl P.sub P.m _ fun v Z1 H1 e m r => ?_⟩
  have o1 := o.next e
  have P1 := P.next e m
  refine ⟨p, vs, v, rfl, rfl, e.h _ _ o.n h, by rw [t.len]; exact l, ?_⟩
  exact k _ _ (step2 e o1.z) (P1.set o1.z o.n (.inr o.mine)) ⟨⟨_, upd_same, (t.imp fun _ _ => τ.mono e.z).snoc r⟩, o1.z, o.n, o.mine, by rw [List.length_append]; show xs.length + 1 ≤ _; omega⟩
/-- xs.extend(ys) -/
theorem st_extend {i : Nat} (P : Pt S Z0 H0 M Z H s) (o : Own S H0 M.fp Z H τ p xs) (hσ : σ[i]? = some (some (.ref p))) (e : Ev M te σ Z H s (ty (yList τ) ys) s1) (l : xs.length + ys.length ≤ sizeLine)
    (k : ∀ Z1 H1, Step (p :: M.fp) Z H Z1 H1 → Pt S Z0 H0 M Z1 H1 s1 → Own S H0 M.fp Z1 H1 τ p (xs ++ ys) → D.nx σ H1) : tDrop (tBM K "list" rExtend (tVar i) (tCons te tNil)) D σ H := by
  obtain ⟨vs, h, t⟩ := o.ex
  refine ⟨.ref p, hσ, .inl ⟨rfl, _, .inl (.inl h)⟩, e Z H (Same.refl _) SameX.refl P.sub P.m _ fun v Z1 H1 e m ⟨q, ws, ev, hq, t2, _⟩ => ?_⟩
  subst ev
  have o1 := o.next e
  have P1 := P.next e m
  refine ⟨p, q, vs, ws, rfl, rfl, e.h _ _ o.n h, e.s _ _ hq, by rw [t.len, t2.len]; exact l, ?_⟩
  exact k _ _ (step2 e o1.z) (P1.set o1.z o.n (.inr o.mine)) ⟨⟨_, upd_same, (t.imp fun _ _ => τ.mono e.z).app t2⟩, o1.z, o.n, o.mine, by rw [List.length_append]; exact l⟩
/-- xs[i] = x -/
theorem st_setitem {i : Nat} {j : Int} {n : Nat} {tj : TE} (P : Pt S Z0 H0 M Z H s) (o : Own S H0 M.fp Z H τ p xs) (hσ : σ[i]? = some (some (.ref p))) (e : Ev M te σ Z H s (ty τ x) s1) (ej : ∀ Z1 H1, Step M.fp Z H Z1 H1 → Ev M tj σ Z1 H1 s1 (ty yInt j) s2) (hj : ixN xs.length j = some n)
    (k : ∀ Z1 H1, Step (p :: M.fp) Z H Z1 H1 → Pt S Z0 H0 M Z1 H1 s2 → Own S H0 M.fp Z1 H1 τ p (xs.set n x) → D.nx σ H1) : tAsg te (gSub (tVar i) tj rSetL) D σ H := by
  obtain ⟨vs, h, t⟩ := o.ex
  refine e Z H (Same.refl _) SameX.refl P.sub P.m _ fun v Z1 H1 e m r => ⟨.ref p, hσ, ej Z1 H1 e Z1 H1 (Same.refl _) SameX.refl e.s m _ fun v2 Z2 H2 e2 m2 r2 => ?_⟩
  have o1 := (o.next e).next e2
  have P1 := (P.next e m).next e2 m2
  refine ⟨p, vs, j, n, rfl, r2, e2.h _ _ o.n (e.h _ _ o.n h), by rw [t.len]; exact hj, ?_⟩
  exact k _ _ (step2 (e.trans e2) o1.z) (P1.set o1.z o.n (.inr o.mine)) ⟨⟨_, upd_same, (t.imp fun _ _ => τ.mono (e.trans e2).z).set (τ.mono e2.z r) n⟩, o1.z, o.n, o.mine, by rw [List.length_set]; exact o.l⟩
end
/-! ### loops -/
inductive Flow (ρ β : Type)
  | go (b : β) | brk (b : β) | ret (r : ρ)
def forF {α β : Type} (f : α → β → Option β) : List α → β → Option β
  | [], b => some b
  | x :: r, b => (f x b).bind fun b' => forF f r b'
def Flow.nxt {ρ β : Type} (k : β → Option (Flow ρ β)) : Flow ρ β → Option (Flow ρ β)
  | .go b => k b
  | .brk b => some (.go b)
  | .ret y => some (.ret y)
def Flow.thn {ρ β γ : Type} (k : β → Option γ) (g : ρ → Option γ) : Flow ρ β → Option γ
  | .go b => k b
  | .brk b => k b
  | .ret y => g y
def forS {ρ α β : Type} (f : α → β → Option (Flow ρ β)) : List α → β → Option (Flow ρ β)
  | [], b => some (.go b)
  | x :: r, b => (f x b).bind (Flow.nxt (forS f r))
def whileS {ρ β : Type} (f : β → Option (Flow ρ β)) : Nat → β → Option (Flow ρ β)
  | 0, _ => none
  | n + 1, b => (f b).bind (Flow.nxt (whileS f n))
section
variable {ρ α β γ : Type} {k : β → Option (Flow ρ β)} {f : α → β → Option (Flow ρ β)} {f' : α → β → Option β} {x : α} {r : List α} {b : β} {y : ρ} {q : Flow ρ β}
theorem nxt_go (h : Flow.nxt k (.go b) = some q) : k b = some q := h
theorem nxt_brk (h : Flow.nxt k (.brk b) = some q) : q = .go b := (Option.some.inj h).symm
theorem nxt_ret (h : Flow.nxt k (.ret y) = some q) : q = .ret y := (Option.some.inj h).symm
theorem go_inv {k : β → Option γ} {g : ρ → Option γ} {z : γ} (h : Flow.thn k g (.go b) = some z) : k b = some z := h
theorem ret_inv {k : β → Option γ} {g : ρ → Option γ} {z : γ} (h : Flow.thn k g (.ret y) = some z) : g y = some z := h
theorem forS_cons (h : forS f (x :: r) b = some q) : (f x b).bind (Flow.nxt (forS f r)) = some q := h
theorem forS_nil (h : forS f [] b = some q) : q = .go b := (Option.some.inj h).symm
theorem forF_cons {c : β} (h : forF f' (x :: r) b = some c) : (f' x b).bind (fun b' => forF f' r b') = some c := h
theorem forF_nil {c : β} (h : forF f' [] b = some c) : c = b := (Option.some.inj h).symm
end
section
variable {α β : Type} {τ : Ty α} {xs : List α}
/-- what a turn is to reach -/
def LoopW (I : List α → L2.St → Hp → Hp → Prop) (Z1 : Hp) (r : List α) : L2.St → Hp → Prop := fun σ H => ∃ Z, Same Z1 Z ∧ Same Z H ∧ I r σ Z H
/-- I: what is true ahead of the turns for the rest of the items -/
theorem st_for {wi : TI} {g : TG} (I : List α → L2.St → Hp → Hp → Prop) (P : Pt S Z0 H0 M Z H s) (hi : EvI M (fun _ _ => True) wi σ Z H s τ xs s1)
    (h0 : ∀ Z1 H1, Step M.fp Z H Z1 H1 → Pt S Z0 H0 M Z1 H1 s1 → I xs σ Z1 H1)
    (hs : ∀ Z1 H1, Step M.fp Z H Z1 H1 → ∀ x r σ' v Z' H' Z2 H2, Same Z1 Z' → I (x :: r) σ' Z' H' → Step [] Z' H' Z2 H2 → τ.r Z2 v x →
      g v σ' H2 fun σ2 H3 => u { D with nx := LoopW I Z1 r, ct := LoopW I Z1 r, bk := D.nx } σ2 H3)
    (hd : ∀ σ' Z' H', Same Z Z' → Same Z' H' → I [] σ' Z' H' → D.nx σ' H') : tFor wi g u D σ H := by
  refine hi Z H (Same.refl _) SameX.refl P.sub P.m _ fun J Z1 H1 e m ⟨_, G, Y, wk, hG, hY⟩ => ?_
  refine for_it wk (fun i => LoopW I Z1 (xs.drop i)) ⟨Z1, Same.refl _, e.s, by rw [List.drop_zero]; exact h0 Z1 H1 e (P.next e m)⟩ ?_ ?_ ?_
  · rintro i σ' H' _ ⟨Z', sa, sb, _⟩
    exact hG Z' H' sa sb trivial
  · rintro i v σ' H3 H4 hin ⟨Z', sa, sb, hI⟩ y
    obtain ⟨Z4, x, ex, st4, rx⟩ := hY i Z' H3 v H4 hin sa sb (hG Z' H3 sa sb trivial) y
    have hd : xs.drop i = x :: xs.drop (i + 1) := by
      rw [List.drop_eq_getElem_cons hin]
      rw [List.getElem?_eq_getElem hin] at ex
      rw [Option.some.inj ex]
    rw [hd] at hI
    exact hs Z1 H1 e x _ σ' v Z' H3 Z4 H4 sa hI st4 rx
  · rintro σ' H' ⟨Z', sa, sb, hI⟩
    rw [List.drop_length] at hI
    exact hd σ' Z' H' (e.z.trans sa) sb hI
end
theorem bind_inv {α β : Type} {o : Option α} {f : α → Option β} {y : β} (h : o.bind f = some y) : ∃ x, o = some x ∧ f x = some y := Option.bind_eq_some_iff.mp h
theorem guard_inv {c : Prop} [Decidable c] {β : Type} {o : Option β} {y : β} (h : (if c then o else none) = some y) : c ∧ o = some y := by
  by_cases hc : c
  · rw [if_pos hc] at h; exact ⟨hc, h⟩
  · rw [if_neg hc] at h; cases h
theorem ifT {β : Type} {b : Bool} {o p y : β} (hb : b = true) (h : (if b = true then o else p) = y) : o = y := by rw [if_pos hb] at h; exact h
theorem ifF {β : Type} {b : Bool} {o p y : β} (hb : b = false) (h : (if b = true then o else p) = y) : p = y := by rw [if_neg (by rw [hb]; exact Bool.false_ne_true)] at h; exact h
theorem Pt.item {Z1 H1 : Hp} (P : Pt S Z0 H0 M Z H s) (e : Step [] Z H Z1 H1) : Pt S Z0 H0 M Z1 H1 s := P.next e.pure (M.pure e P.m)
theorem Mu.away {x : Addr} {Z1 H1 : Hp} (e : Step [x] Z H Z1 H1) (nx : x ∉ M.fp) (m : M.m s Z H) : M.m s Z1 H1 :=
  M.loc e.z (fun a ha o ho => e.h a o (fun q => nx (by rw [List.mem_singleton] at q; rw [← q]; exact ha)) ho) (fun a _ h z => e.n a h z) m
/-- self.f = e, self new -/
theorem st_fld {α : Type} {τ : Ty α} {x : α} {i : Nat} {p C dx : Addr} {fs : List (Str × V)} {f : Str} {tv : TE} (P : Pt S Z0 H0 M Z H s) (hp : H p = some (.ins C dx fs)) (zp : Z p = none) (np : p ∉ M.fp) (mp : p ∈ S ∨ H0 p = none) (hσ : σ[i]? = some (some (.ref p)))
    (e : Ev M tv σ Z H s (ty τ x) s1) (c : Cls K C) (n : NoAttr K C f) (l : fs.length < 1000) (k : ∀ v Z1 H1, Step (p :: M.fp) Z H Z1 H1 → Pt S Z0 H0 M Z1 H1 s1 → τ.r Z1 v x → H1 p = some (.ins C dx (putF f v fs)) → Z1 p = none → D.nx σ H1) : sFld K (tVar i) tv f D σ H :=
  e Z H (Same.refl _) SameX.refl P.sub P.m _ fun v Z1 H1 e m r => by
    have h1 : H1 p = some (.ins C dx fs) := e.h _ _ np hp
    have z1 : Z1 p = none := e.n p (some_ne hp) zp
    exact ⟨.ref p, hσ, p, C, dx, fs, rfl, h1, c, n, l, k v Z1 _ (step2 e z1) ((P.next e m).set z1 np mp) r upd_same z1⟩
/-- a list of one's own in the block of a comprehension -/
theorem ev_oX {α : Type} {τ : Ty α} {xs : List α} {p : Addr} {i : Nat} {Z1 H1 : Hp} (o : Own S H0 M.fp Z H τ p xs) (zz : Same Z Z1) (hh : SameX M.fp H H1) (e : σ[i]? = some (some (.ref p))) : Ev M (tVar i) σ Z1 H1 s (li τ xs) s := by
  obtain ⟨vs, h, t⟩ := o.ex
  exact ev_own e (hh _ _ o.n h) o.n (t.imp fun _ _ => τ.mono zz) o.l
end
/-! ### the draws -/
structure DS where
  ns : List Int
  k : Nat
  x : Nat
def rowZ (ns : List Int) (k : Nat) : Int :=
  let c0 := ns.getD k 0
  let c := if c0 < 0 then -2 * c0 - 1 else c0
  if c < 10 ^ 9 then
    let a := (c * 48271 + k * 69621 + 11) % 2147483647
    let b := (a * 16807 + c * 7 + k + 5) % 2147483629
    let d := (b * 39373 + a * b + 3) % 2147483587
    a + b * 2147483647 + d * 2147483647 ^ 2
  else c
def DS.cur (s : DS) (m : Int) : Nat := if (s.x : Int) < m then (rowZ s.ns s.k).toNat else s.x
def nxV (s : DS) (m : Int) : Int := (s.cur m : Int) % m
def nxS (s : DS) (m : Int) : DS := ⟨s.ns, if (s.x : Int) < m then s.k + 1 else s.k, ((s.cur m : Int) / m).toNat⟩
theorem nx_ge (s : DS) {m : Int} (h : 0 < m) : 0 ≤ nxV s m := Int.emod_nonneg _ (by omega)
theorem nx_lt (s : DS) {m : Int} (h : 0 < m) : nxV s m < m := Int.emod_lt_of_pos _ h
def NxOk (m : Int) : Prop := 0 < m ∧ m.natAbs < 2 ^ 200
instance {m : Int} : Decidable (NxOk m) := inferInstanceAs (Decidable (_ ∧ _))
def muD (st sc : Addr) : Mu DS where
  fp := [st]
  m := fun s Z H => H st = some (.lst [.ref sc, .int (s.k : Nat), .int (s.x : Nat)]) ∧ Z sc = some (.lst (s.ns.map V.int)) ∧ Z st = none
  al := fun ⟨h, _, z⟩ a ha => by rw [List.mem_singleton] at ha; subst ha; exact ⟨some_ne h, z⟩
  loc := fun sz hk hn ⟨h, hs, z⟩ => ⟨hk _ List.mem_cons_self _ h, sz _ _ hs, hn _ List.mem_cons_self (some_ne h) z⟩
theorem muD_back {st sc : Addr} : (muD st sc).Back := fun sz ⟨_, hs, z⟩ ⟨h', hs', _⟩ => ⟨h', by rw [hs, ← hs', sz _ _ hs], z⟩
section
variable {K : PySem.W.Frag} {σ : L2.St} {H : Hp} {D : Ends}
theorem st_draws {r : List V → Hp → VK → Prop} {a : Addr} {ns : List Int} {i j : Nat} (hA : SqL K H a (ns.map V.int)) (hlen : ns.length ≤ 63) (k : ∀ st sc Z0 Z1 H1, Pt [] Z0 H (muD st sc) Z1 H1 ⟨ns, 0, 0⟩ → D.nx (σ.set i (some (.ref st))) H1)
    (hr : ∀ xs H Q, (∃ p ys, xs = [.ref p] ∧ (SqL K H p ys ∨ SqT K H p ys) ∧ ∀ l, H l = none → Q (.ref l) (upd H l (.lst ys))) → r xs H Q := by exact fun _ _ _ h => h) (hσ : σ[j]? = some (some (.ref a)) := by rfl) :
    tAsg (tLst (tCons (tCB r (tCons (tVar j) tNil)) (tCons (tC (.int 0)) (tCons (tC (.int 0)) tNil)))) (gName i) D σ H := by
  refine ⟨.ref a, hσ, hr _ _ _ ⟨a, _, rfl, .inl hA, fun sc hsc => ?_⟩⟩
  refine ⟨by show 3 ≤ sizeLine; decide, fun st hst => ?_⟩
  have s0 : Same (fun _ => none : Hp) H := fun _ _ h => by cases h
  have e1 := Step.new (o := .lst (ns.map V.int)) s0 hsc
  have e2 := Step.own (o := .lst [.ref sc, .int 0, .int 0]) e1.s hst
  exact k st sc (fun _ => none) _ _ ⟨e1.trans e2, ⟨upd_same, upd_same, by rw [upd_ne (fun q => by rw [q, upd_same] at hst; cases hst)]⟩, fun x hx => by rw [show x = st from List.mem_singleton.mp hx]; exact .inr (same_x e1 hst)⟩
end
end TP
namespace TP
open PySem PySem.Spec PyProof.Rows L2
section
variable {μ : Type} {S : List Addr} {Z0 H0 : Hp} {M : Mu μ} {σ : L2.St} {Z H : Hp} {s s' s1 s2 s3 : μ} {ta tb tc te : TE} {t : TA} {K : PySem.W.Frag} {D : Ends} {u w : TS}
theorem whileS_cons {ρ β : Type} {f : β → Option (Flow ρ β)} {n : Nat} {b : β} {q : Flow ρ β} (h : whileS f n b = some q) : ∃ k, n = k + 1 ∧ (f b).bind (Flow.nxt (whileS f k)) = some q := by
  cases n with
  | zero => cases h
  | succ k => exact ⟨k, rfl, h⟩
def WhW (I : Nat → L2.St → Hp → Hp → Prop) (k : Nat) : L2.St → Hp → Prop := fun σ H => ∃ Z, I k σ Z H
theorem st_while {c : TT} {tb : TS} (I : Nat → L2.St → Hp → Hp → Prop) (n : Nat) (P : Pt S Z0 H0 M Z H s) (h0 : I n σ Z H)
    (hs : ∀ n σ' Z' H', I n σ' Z' H' → ∃ k s s1 b, n = k + 1 ∧ Pt S Z0 H0 M Z' H' s ∧ EvT M c σ' Z' H' s b s1 ∧ (b = true → ∀ Z1 H1, Step M.fp Z' H' Z1 H1 → Pt S Z0 H0 M Z1 H1 s1 → tb { D with nx := WhW I k, ct := WhW I k, bk := D.nx } σ' H1) ∧
      (b = false → ∀ Z1 H1, Step M.fp Z' H' Z1 H1 → Pt S Z0 H0 M Z1 H1 s1 → D.nx σ' H1)) : tWhile c tb D σ H := by
  refine ⟨fun m σ H => ∃ Z, I m σ Z H, ⟨n, Z, h0⟩, ?_⟩
  rintro m σ' H' ⟨Z', hI⟩
  obtain ⟨k, s, s1, b, rfl, P, et, ht, hf⟩ := hs m σ' Z' H' hI
  refine et Z' H' (Same.refl _) SameX.refl P.sub P.m _ fun Z1 H1 e m => ?_
  cases b with
  | true =>
    rw [if_pos rfl]
    exact ⟨WhW I k, fun σ3 H3 h3 => ⟨k, Nat.lt_succ_self _, h3⟩, ht rfl Z1 H1 e (P.next e m)⟩
  | false =>
    rw [if_neg Bool.false_ne_true]
    exact hf rfl Z1 H1 e (P.next e m)
end
end TP

namespace TP
open PySem PySem.Spec PyProof.Rows L2
section
variable {μ : Type} {S : List Addr} {Z0 H0 : Hp} {M : Mu μ} {σ : L2.St} {Z H : Hp} {s s' s1 s2 s3 : μ} {ta tb tc te : TE} {t : TA} {K : PySem.W.Frag} {D : Ends} {u w : TS}
/-! ### isinstance -/
theorem ev_isi {r : List V → Hp → VK → Prop} {R : Rr M.fp} {c : V} {v t : Value} {b : Bool} (hr : ∀ xs H Q, rIsi K xs H Q → r xs H Q) (ha : Ev M ta σ Z H s R s1) (tx : ∀ Z H v, Same Z H → R.r Z H v → TyX K H v t) (hc : ClsV c v) (hk : PySem.W.kitOne K t v = some b) :
    Ev M (tCB r (tCons ta (tCons (tC c) tNil))) σ Z H s (ty yBool b) s1 :=
  ev_cb (Rs := rac R (rac ⟨fun _ _ v => v = c, fun _ h => h⟩ ra0)) (eva_cons ha (eva_cons (ev_of fun _ _ _ _ _ _ q => q _ rfl) eva_nil)) fun _ _ _ sz ⟨x, r1, e1, h1, y, r2, e2, h2, e3⟩ _ q => by
    cases e3; cases e2; cases e1
    have h2' : y = c := h2
    subst h2'
    exact hr _ _ _ ⟨x, y, t, v, b, rfl, hc, tx _ _ _ sz h1, hk, q _ _ _ (Step.refl sz) rfl⟩
section
variable {fp : List Addr} {α β γ δ : Type} {τ : Ty α} {υ : Ty β} {φ : Ty γ} {ψ : Ty δ}
theorem tx_int {x : Int} : ∀ Z H v, Same Z H → (ty (fp := fp) yInt x).r Z H v → TyX K H v (.type "int") := fun _ _ _ _ h => by cases h; exact .base (.int _)
theorem tx_bool {x : Bool} : ∀ Z H v, Same Z H → (ty (fp := fp) yBool x).r Z H v → TyX K H v (.type "bool") := fun _ _ _ _ h => by cases h; exact .base (.bl _)
theorem tx_str {x : Str} : ∀ Z H v, Same Z H → (ty (fp := fp) yStr x).r Z H v → TyX K H v (.type "str") := fun _ _ _ _ h => by rw [h.1]; exact .base (.str _)
theorem tx_li {x : List α} : ∀ Z H v, Same Z H → (li (fp := fp) τ x).r Z H v → TyX K H v (.type "list") := fun _ _ _ sz h => by
  obtain ⟨p, vs, rfl, g, _, _⟩ := rdl sz h
  exact .base (.lst g)
theorem tx_sqT {H : Hp} {a : Addr} {vs : List V} (h : SqT K H a vs) : TyX K H (.ref a) (.type "tuple") := by
  rcases h with (h | ⟨o, h⟩) | ⟨o, its, n, h, hc, _⟩
  · exact .base (.tup h)
  · exact .fTuple h
  · exact .kTuple h hc
theorem tx_tup {x : List α} : ∀ Z H v, Same Z H → (ty (fp := fp) (yTup K τ) x).r Z H v → TyX K H v (.type "tuple") := fun _ _ _ sz ⟨a, vs, e, h, _⟩ => by subst e; exact tx_sqT (seqT_same sz h)
theorem tx_p2 {x : α × β} : ∀ Z H v, Same Z H → (ty (fp := fp) (yP2 K τ υ) x).r Z H v → TyX K H v (.type "tuple") := fun _ _ _ sz ⟨a, _, _, e, h, _⟩ => by subst e; exact tx_sqT (seqT_same sz h)
theorem tx_p3 {x : α × β × γ} : ∀ Z H v, Same Z H → (ty (fp := fp) (yP3 K τ υ φ) x).r Z H v → TyX K H v (.type "tuple") := fun _ _ _ sz ⟨a, _, _, _, e, h, _⟩ => by subst e; exact tx_sqT (seqT_same sz h)
end
end
end TP

namespace TP
open PySem PySem.Spec PyProof.Rows L2
/-! on, where what is bound is known: proofs that are no rfl, so that the kernel evaluates nothing -/
theorem bsome {α β : Type} {x : α} {f : α → Option β} : (some x).bind f = f x := by rw [Option.bind_some]
theorem bnone {α β : Type} {f : α → Option β} : (none : Option α).bind f = none := of_eq_true (eq_self _)
theorem thn_go {ρ β γ : Type} {b : β} {k : β → Option γ} {g : ρ → Option γ} : Flow.thn k g (.go b) = k b := by simp only [Flow.thn]
theorem thn_brk {ρ β γ : Type} {b : β} {k : β → Option γ} {g : ρ → Option γ} : Flow.thn k g (.brk b) = k b := by simp only [Flow.thn]
theorem thn_ret {ρ β γ : Type} {y : ρ} {k : β → Option γ} {g : ρ → Option γ} : Flow.thn k g (.ret y) = g y := by simp only [Flow.thn]
theorem forF_foldl {α β : Type} {f : α → β → Option β} {g : β → α → β} (h : ∀ x b, f x b = some (g b x)) : ∀ (xs : List α) (b : β), forF f xs b = some (xs.foldl g b)
  | [], _ => rfl
  | x :: r, b => by
    show (f x b).bind _ = _
    rw [h x b]
    exact forF_foldl h r _
theorem forF_inv {α β : Type} {f : α → β → Option β} {I : Nat → β → Prop} {m : Nat} (h : ∀ n x b, n < m → I n b → ∃ b', f x b = some b' ∧ I (n + 1) b') : ∀ (xs : List α) (n : Nat) (b : β), n + xs.length ≤ m → I n b → ∃ b', forF f xs b = some b' ∧ I (n + xs.length) b'
  | [], _, b, _, i => ⟨b, rfl, i⟩
  | x :: r, n, b, l, i => by
    rw [List.length_cons] at l
    obtain ⟨b1, e, i1⟩ := h n x b (by omega) i
    obtain ⟨b2, e2, i2⟩ := forF_inv h r (n + 1) b1 (by omega) i1
    refine ⟨b2, ?_, by rw [List.length_cons, show n + (r.length + 1) = n + 1 + r.length by omega]; exact i2⟩
    show (f x b).bind _ = _
    rw [e]
    exact e2
theorem forS_inv {ρ α β : Type} {f : α → β → Option (Flow ρ β)} {I : Nat → β → Prop} {m : Nat} (h : ∀ n x b, n < m → I n b → ∃ b', f x b = some (.go b') ∧ I (n + 1) b') : ∀ (xs : List α) (n : Nat) (b : β), n + xs.length ≤ m → I n b → ∃ b', forS f xs b = some (.go b') ∧ I (n + xs.length) b'
  | [], _, b, _, i => ⟨b, rfl, i⟩
  | x :: r, n, b, l, i => by
    rw [List.length_cons] at l
    obtain ⟨b1, e, i1⟩ := h n x b (by omega) i
    obtain ⟨b2, e2, i2⟩ := forS_inv h r (n + 1) b1 (by omega) i1
    refine ⟨b2, ?_, by rw [List.length_cons, show n + (r.length + 1) = n + 1 + r.length by omega]; exact i2⟩
    show (f x b).bind _ = _
    rw [e]
    exact e2
theorem mapS_all {α β μ : Type} {f : α → μ → Option (β × μ)} {R : β → Prop} (h : ∀ x s, ∃ y s', f x s = some (y, s') ∧ R y) : ∀ (xs : List α) (s : μ), ∃ ys s', mapS f xs s = some (ys, s') ∧ ys.length = xs.length ∧ ∀ y ∈ ys, R y
  | [], s => ⟨[], s, rfl, rfl, fun _ h => nomatch h⟩
  | x :: r, s => by
    obtain ⟨y, s1, e, hy⟩ := h x s
    obtain ⟨ys, s2, e2, l, hs⟩ := mapS_all h r s1
    refine ⟨y :: ys, s2, ?_, congrArg Nat.succ l, fun z hz => ?_⟩
    · show (f x s).bind _ = _
      rw [e]
      show (mapS f r s1).bind _ = _
      rw [e2]
      rfl
    · rcases List.mem_cons.mp hz with rfl | hz
      · exact hy
      · exact hs z hz
theorem cutA_none {α : Type} (xs : List α) {c : Int} (h : 0 ≤ c) : cutA xs none (some c) = xs.take c.toNat := by
  obtain ⟨k, rfl⟩ := Int.eq_ofNat_of_zero_le h
  unfold cutA
  rw [HT.sIx_none, HT.sIx_nat, List.drop_zero, Nat.sub_zero, Int.toNat_natCast]
  by_cases q : k ≤ xs.length
  · rw [Nat.min_eq_left q]
  · rw [Nat.min_eq_right (by omega), List.take_length, List.take_of_length_le (by omega)]
theorem cutA_to {α : Type} (xs : List α) {a c : Int} (h : 0 ≤ a) (h2 : a ≤ c) (h3 : c ≤ xs.length) : cutA xs (some a) (some c) = (xs.drop a.toNat).take (c - a).toNat := by
  obtain ⟨k, rfl⟩ := Int.eq_ofNat_of_zero_le h
  obtain ⟨m, rfl⟩ := Int.eq_ofNat_of_zero_le (show 0 ≤ c by omega)
  unfold cutA
  rw [HT.sIx_nat, HT.sIx_nat, Nat.min_eq_left (by omega), Nat.min_eq_left (by omega), Int.toNat_natCast, show ((m : Int) - (k : Int)).toNat = m - k by omega]
theorem cutA_from {α : Type} (xs : List α) {a : Int} (h : 0 ≤ a) : cutA xs (some a) none = xs.drop a.toNat := by
  obtain ⟨k, rfl⟩ := Int.eq_ofNat_of_zero_le h
  unfold cutA
  rw [HT.sIx_nat, HT.sIx_none, Int.toNat_natCast]
  by_cases q : k ≤ xs.length
  · rw [Nat.min_eq_left q, List.take_of_length_le (by rw [List.length_drop]; omega)]
  · rw [Nat.min_eq_right (by omega), List.drop_length, List.drop_of_length_le (by omega)]
    simp
theorem ixN_of {n : Nat} {i : Int} (h : 0 ≤ i) (l : i < n) : ixN n i = some i.toNat := by
  obtain ⟨k, rfl⟩ := Int.eq_ofNat_of_zero_le h
  rw [Int.toNat_natCast]
  unfold ixN
  split <;> first | rfl | omega | (split <;> first | rfl | omega) | skip
theorem atI_of {α : Type} {xs : List α} {i : Int} (h : 0 ≤ i) : L2.atI xs i = xs[i.toNat]? := by
  by_cases l : i < xs.length
  · unfold L2.atI
    rw [ixN_of h l]
    rfl
  · rw [List.getElem?_eq_none (by omega)]
    obtain ⟨k, rfl⟩ := Int.eq_ofNat_of_zero_le h
    unfold L2.atI ixN
    split <;> first | rfl | (split <;> first | rfl | omega) | skip
theorem nxOk_of {m : Int} (h : 0 < m) (l : m < 2 ^ 199) : NxOk m := ⟨h, by
  have : m.natAbs < 2 ^ 199 := by
    have e : (2 : Int) ^ 199 = ((2 ^ 199 : Nat) : Int) := by decide
    rw [e] at l
    omega
  exact Nat.lt_trans this (by decide)⟩
theorem rangeOk_of {a b : Int} (h : 0 ≤ a) (h1 : a ≤ 16777216) (l : b ≤ 16777216) (l2 : -16777216 ≤ b) : RangeOk a b := ⟨⟨by omega, by omega⟩, ⟨by omega, by omega⟩, by omega⟩
end TP
namespace TP
open PySem PySem.Spec PyProof.Rows L2
theorem forF_idx {α β : Type} {f : α → β → Option β} {I : Nat → β → Prop} : ∀ (xs : List α) (k : Nat) (b : β), (∀ n x b, xs[n]? = some x → I (k + n) b → ∃ b', f x b = some b' ∧ I (k + n + 1) b') → I k b → ∃ b', forF f xs b = some b' ∧ I (k + xs.length) b'
  | [], k, b, _, i => ⟨b, rfl, i⟩
  | x :: r, k, b, h, i => by
    obtain ⟨b1, e1, i1⟩ := h 0 x b rfl i
    obtain ⟨b2, e2, i2⟩ := forF_idx (I := I) r (k + 1) b1 (fun n y b' hy ib => by
      have := h (n + 1) y b' (by simpa using hy) (by rw [show k + (n + 1) = k + 1 + n by omega]; exact ib)
      rw [show k + 1 + n + 1 = k + (n + 1) + 1 by omega]
      exact this) i1
    refine ⟨b2, ?_, by rw [List.length_cons, show k + (r.length + 1) = k + 1 + r.length by omega]; exact i2⟩
    show (f x b).bind _ = _
    rw [e1]
    exact e2
theorem forS_idx {ρ α β : Type} {f : α → β → Option (Flow ρ β)} {I : Nat → β → Prop} : ∀ (xs : List α) (k : Nat) (b : β), (∀ n x b, xs[n]? = some x → I (k + n) b → ∃ b', f x b = some (.go b') ∧ I (k + n + 1) b') → I k b → ∃ b', forS f xs b = some (.go b') ∧ I (k + xs.length) b'
  | [], k, b, _, i => ⟨b, rfl, i⟩
  | x :: r, k, b, h, i => by
    obtain ⟨b1, e1, i1⟩ := h 0 x b rfl i
    obtain ⟨b2, e2, i2⟩ := forS_idx (I := I) r (k + 1) b1 (fun n y b' hy ib => by
      have := h (n + 1) y b' (by simpa using hy) (by rw [show k + (n + 1) = k + 1 + n by omega]; exact ib)
      rw [show k + 1 + n + 1 = k + (n + 1) + 1 by omega]
      exact this) i1
    refine ⟨b2, ?_, by rw [List.length_cons, show k + (r.length + 1) = k + 1 + r.length by omega]; exact i2⟩
    show (f x b).bind _ = _
    rw [e1]
    exact e2
theorem rangeZ_get {lo hi : Int} {n : Nat} {x : Int} (h : (rangeZ lo hi)[n]? = some x) : x = lo + (n : Int) ∧ (n : Int) < hi - lo := by
  have l := (List.getElem?_eq_some_iff.mp h).1
  rw [rangeZ_len] at l
  unfold rangeZ at h
  rw [List.getElem?_map, List.getElem?_range l] at h
  exact ⟨(Option.some.inj h).symm, by omega⟩
/-- a loop over range(m) that always goes on -/
theorem forF_rng {β : Type} {f : Int → β → Option β} (I : Nat → β → Prop) {m : Int} {b : β} (h0 : I 0 b) (h : ∀ (n : Nat) b, (n : Int) < m → I n b → ∃ b', f (n : Int) b = some b' ∧ I (n + 1) b') : ∃ b', forF f (rangeZ 0 m) b = some b' ∧ I m.toNat b' := by
  obtain ⟨b', e, i⟩ := forF_idx (f := f) (I := I) (rangeZ 0 m) 0 b (fun n x b hx ib => by
    obtain ⟨rfl, hm⟩ := rangeZ_get hx
    rw [Nat.zero_add] at ib ⊢
    obtain ⟨b', e, i⟩ := h n b (by omega) ib
    exact ⟨b', by rw [show (0 : Int) + (n : Int) = n by omega]; exact e, i⟩) h0
  refine ⟨b', e, ?_⟩
  rw [Nat.zero_add, rangeZ_len, Int.sub_zero] at i
  exact i
theorem forS_rng {ρ β : Type} {f : Int → β → Option (Flow ρ β)} (I : Nat → β → Prop) {m : Int} {b : β} (h0 : I 0 b) (h : ∀ (n : Nat) b, (n : Int) < m → I n b → ∃ b', f (n : Int) b = some (.go b') ∧ I (n + 1) b') : ∃ b', forS f (rangeZ 0 m) b = some (.go b') ∧ I m.toNat b' := by
  obtain ⟨b', e, i⟩ := forS_idx (f := f) (I := I) (rangeZ 0 m) 0 b (fun n x b hx ib => by
    obtain ⟨rfl, hm⟩ := rangeZ_get hx
    rw [Nat.zero_add] at ib ⊢
    obtain ⟨b', e, i⟩ := h n b (by omega) ib
    exact ⟨b', by rw [show (0 : Int) + (n : Int) = n by omega]; exact e, i⟩) h0
  refine ⟨b', e, ?_⟩
  rw [Nat.zero_add, rangeZ_len, Int.sub_zero] at i
  exact i
/-- enumerate, from k on -/
def enumF {α : Type} : Int → List α → List (Int × α)
  | _, [] => []
  | k, x :: r => (k, x) :: enumF (k + 1) r
theorem enumZ_eq {α : Type} (xs : List α) : enumZ xs = enumF 0 xs := by
  have key : ∀ (xs : List α) (k : Nat), ((List.range xs.length).map fun (i : Nat) => ((k + i : Nat) : Int)).zip xs = enumF (k : Int) xs := fun xs => by
    induction xs with
    | nil => intro k; rfl
    | cons x r ih =>
      intro k
      rw [List.length_cons, List.range_succ_eq_map, List.map_cons, List.map_map, List.zip_cons_cons]
      show (((k + 0 : Nat) : Int), x) :: _ = ((k : Int), x) :: enumF ((k : Int) + 1) r
      have := ih (k + 1)
      rw [Nat.add_zero]
      congr 1
      have e : ((k + 1 : Nat) : Int) = (k : Int) + 1 := by omega
      rw [← e, ← this]
      congr 2
      funext i
      show ((k + (i + 1) : Nat) : Int) = ((k + 1 + i : Nat) : Int)
      omega
  have := key xs 0
  unfold enumZ rangeZ
  rw [Int.sub_zero, Int.toNat_natCast]
  refine Eq.trans ?_ this
  congr 2
end TP

namespace TP
open PySem PySem.Spec PyProof.Rows L2
section
variable {α β γ μ : Type}
theorem mapO_eq {f : α → Option β} {g : α → β} : ∀ {xs : List α}, (∀ x ∈ xs, f x = some (g x)) → mapO f xs = some (xs.map g)
  | [], _ => rfl
  | x :: r, h => by
    show (f x).bind _ = _
    rw [h x List.mem_cons_self, Option.bind_some, mapO_eq fun y hy => h y (List.mem_cons_of_mem _ hy)]
    rfl
theorem mapO_ex {f : α → Option β} {R : β → Prop} : ∀ {xs : List α}, (∀ x ∈ xs, ∃ y, f x = some y ∧ R y) → ∃ ys, mapO f xs = some ys ∧ ys.length = xs.length ∧ ∀ y ∈ ys, R y
  | [], _ => ⟨[], rfl, rfl, fun _ h => nomatch h⟩
  | x :: r, h => by
    obtain ⟨y, e, hy⟩ := h x List.mem_cons_self
    obtain ⟨ys, e2, l, hs⟩ := mapO_ex fun y hy => h y (List.mem_cons_of_mem _ hy)
    refine ⟨y :: ys, ?_, congrArg Nat.succ l, fun z hz => ?_⟩
    · show (f x).bind _ = _
      rw [e, Option.bind_some, e2]
      rfl
    · rcases List.mem_cons.mp hz with rfl | hz
      · exact hy
      · exact hs z hz
/-- a comprehension that draws, with a fact of the items -/
theorem mapS_mem {f : α → μ → Option (β × μ)} {R : β → Prop} : ∀ {xs : List α} (s : μ), (∀ x ∈ xs, ∀ s, ∃ y s', f x s = some (y, s') ∧ R y) → ∃ ys s', mapS f xs s = some (ys, s') ∧ ys.length = xs.length ∧ ∀ y ∈ ys, R y
  | [], s, _ => ⟨[], s, rfl, rfl, fun _ h => nomatch h⟩
  | x :: r, s, h => by
    obtain ⟨y, s1, e, hy⟩ := h x List.mem_cons_self s
    obtain ⟨ys, s2, e2, l, hs⟩ := mapS_mem s1 fun y hy => h y (List.mem_cons_of_mem _ hy)
    refine ⟨y :: ys, s2, ?_, congrArg Nat.succ l, fun z hz => ?_⟩
    · show (f x s).bind _ = _
      rw [e]
      show (mapS f r s1).bind _ = _
      rw [e2]
      rfl
    · rcases List.mem_cons.mp hz with rfl | hz
      · exact hy
      · exact hs z hz
theorem forF_mem {f : α → β → Option β} {I : β → Prop} : ∀ {xs : List α} {b : β}, I b → (∀ x ∈ xs, ∀ b, I b → ∃ b', f x b = some b' ∧ I b') → ∃ b', forF f xs b = some b' ∧ I b'
  | [], b, i, _ => ⟨b, rfl, i⟩
  | x :: r, b, i, h => by
    obtain ⟨b1, e, i1⟩ := h x List.mem_cons_self b i
    obtain ⟨b2, e2, i2⟩ := forF_mem i1 fun y hy => h y (List.mem_cons_of_mem _ hy)
    refine ⟨b2, ?_, i2⟩
    show (f x b).bind _ = _
    rw [e]
    exact e2
theorem forS_mem {ρ : Type} {f : α → β → Option (Flow ρ β)} {I : β → Prop} : ∀ {xs : List α} {b : β}, I b → (∀ x ∈ xs, ∀ b, I b → ∃ b', f x b = some (.go b') ∧ I b') → ∃ b', forS f xs b = some (.go b') ∧ I b'
  | [], b, i, _ => ⟨b, rfl, i⟩
  | x :: r, b, i, h => by
    obtain ⟨b1, e, i1⟩ := h x List.mem_cons_self b i
    obtain ⟨b2, e2, i2⟩ := forS_mem i1 fun y hy => h y (List.mem_cons_of_mem _ hy)
    refine ⟨b2, ?_, i2⟩
    show (f x b).bind _ = _
    rw [e]
    exact e2
/-- the loop by places: what is true behind n items -/
theorem forF_take {f : α → β → Option β} {I : List α → β → Prop} {xs : List α} {b : β} (h0 : I [] b) (h : ∀ p x r b, xs = p ++ x :: r → I p b → ∃ b', f x b = some b' ∧ I (p ++ [x]) b') : ∃ b', forF f xs b = some b' ∧ I xs b' := by
  have key : ∀ (r p : List α) (b : β), xs = p ++ r → I p b → ∃ b', forF f r b = some b' ∧ I xs b' := fun r => by
    induction r with
    | nil => intro p b e i; rw [List.append_nil] at e; exact ⟨b, rfl, e ▸ i⟩
    | cons x r ih =>
      intro p b e i
      obtain ⟨b1, e1, i1⟩ := h p x r b e i
      obtain ⟨b2, e2, i2⟩ := ih (p ++ [x]) b1 (by rw [e]; simp) i1
      refine ⟨b2, ?_, i2⟩
      show (f x b).bind _ = _
      rw [e1]
      exact e2
  exact key xs [] b rfl h0
theorem forS_take {ρ : Type} {f : α → β → Option (Flow ρ β)} {I : List α → β → Prop} {xs : List α} {b : β} (h0 : I [] b) (h : ∀ p x r b, xs = p ++ x :: r → I p b → ∃ b', f x b = some (.go b') ∧ I (p ++ [x]) b') : ∃ b', forS f xs b = some (.go b') ∧ I xs b' := by
  have key : ∀ (r p : List α) (b : β), xs = p ++ r → I p b → ∃ b', forS f r b = some (.go b') ∧ I xs b' := fun r => by
    induction r with
    | nil => intro p b e i; rw [List.append_nil] at e; exact ⟨b, rfl, e ▸ i⟩
    | cons x r ih =>
      intro p b e i
      obtain ⟨b1, e1, i1⟩ := h p x r b e i
      obtain ⟨b2, e2, i2⟩ := ih (p ++ [x]) b1 (by rw [e]; simp) i1
      refine ⟨b2, ?_, i2⟩
      show (f x b).bind _ = _
      rw [e1]
      exact e2
  exact key xs [] b rfl h0
theorem str_len1 {c : Nat} : (⟨#[c]⟩ : Str).length = 1 := rfl
theorem str_app_len (x y : Str) : (x ++ y).length = x.length + y.length := by
  show (x.cps ++ y.cps).size = _
  rw [Array.size_append]; rfl
/-- == of data that are compared by their terms -/
theorem EqD.eqvB {K : PySem.W.Frag} {τ : Ty α} {d : α → PyData} {n : Nat} (E : EqD K τ d n) [DecidableEq α] (x y : α) : PyData.eqv (d x) (d y) = decide (x = y) := Bool.eq_iff_iff.mpr ((E.eqv x y).trans decide_eq_true_iff.symm)
theorem atI_lit {xs : List α} {i : Int} (h : 0 ≤ i) (l : i < xs.length) : ∃ x, L2.atI xs i = some x ∧ x ∈ xs := by
  rw [atI_of h]
  obtain ⟨k, rfl⟩ := Int.eq_ofNat_of_zero_le h
  rw [Int.toNat_natCast]
  have hk : k < xs.length := by omega
  exact ⟨xs[k], List.getElem?_eq_getElem hk, List.getElem_mem hk⟩
/-- a loop that looks at each item and may say no -/
theorem forS_all {ρ : Type} {f : α → Unit → Option (Flow ρ Unit)} {p : α → Bool} {r : ρ} : ∀ {xs : List α}, (∀ x ∈ xs, f x () = some (if p x = true then .go () else .ret r)) → forS f xs () = some (if xs.all p = true then .go () else .ret r)
  | [], _ => rfl
  | x :: t, h => by
    show (f x ()).bind _ = _
    rw [h x List.mem_cons_self, bsome]
    cases hp : p x with
    | true =>
      rw [if_pos rfl, List.all_cons, hp, Bool.true_and]
      exact forS_all fun y hy => h y (List.mem_cons_of_mem _ hy)
    | false =>
      rw [if_neg Bool.false_ne_true, List.all_cons, hp, Bool.false_and, if_neg Bool.false_ne_true]
      rfl
theorem rangeZ_mem {lo hi x : Int} (h : x ∈ rangeZ lo hi) : lo ≤ x ∧ x < hi := by
  unfold rangeZ at h
  obtain ⟨i, hi', rfl⟩ := List.mem_map.mp h
  have := List.mem_range.mp hi'
  omega
theorem rangeZ_map (n : Nat) (f : Int → α) : (rangeZ 0 (n : Int)).map f = (List.range n).map fun (k : Nat) => f (k : Int) := by
  unfold rangeZ
  rw [List.map_map, Int.sub_zero, Int.toNat_natCast]
  refine List.map_congr_left fun k _ => ?_
  show f (0 + (k : Int)) = f k
  rw [Int.zero_add]
theorem atI_nat {xs : List α} {k : Nat} {x : α} (h : xs[k]? = some x) : L2.atI xs (k : Int) = some x := by
  rw [atI_of (by omega), Int.toNat_natCast, h]
theorem fmO_eq {f : α → Option (Option β)} {p : α → Bool} {g : α → β} : ∀ {xs : List α}, (∀ x ∈ xs, f x = some (if p x = true then some (g x) else none)) → fmO f xs = some ((xs.filter p).map g)
  | [], _ => rfl
  | x :: t, h => by
    show (f x).bind _ = _
    rw [h x List.mem_cons_self, bsome, fmO_eq fun y hy => h y (List.mem_cons_of_mem _ hy), bsome]
    cases hp : p x with
    | true => rw [if_pos rfl, List.filter_cons_of_pos hp]; rfl
    | false => rw [if_neg Bool.false_ne_true, List.filter_cons_of_neg (by rw [hp]; exact Bool.false_ne_true)]
end
end TP

namespace TP
open PySem PySem.Spec PyProof.Rows L2
/-! ### exceptions -/
/-- a value, or an exception -/
inductive Res (ε α : Type)
  | ok (a : α) | er (e : ε)
deriving DecidableEq
def Res.thn {ε α γ : Type} (g : ε → Option γ) (k : α → Option γ) : Res ε α → Option γ
  | .ok a => k a
  | .er e => g e
section
variable {ε α γ : Type} {g : ε → Option γ} {k : α → Option γ} {y : γ}
theorem rok_inv {a : α} (h : Res.thn g k (.ok a) = some y) : k a = some y := h
theorem rer_inv {e : ε} (h : Res.thn g k (.er e) = some y) : g e = some y := h
end
section
variable {μ : Type} {S : List Addr} {Z0 H0 : Hp} {M : Mu μ} {σ : L2.St} {Z H : Hp} {s s' s1 s2 s3 : μ} {ta tb tc te : TE} {t : TA} {K : PySem.W.Frag} {D : Ends} {u w : TS} {X : Hp → Prop}
/-- the expression raises: X is asked of the heap then -/
def EvE (M : Mu μ) (t : TE) (σ : L2.St) (Z H : Hp) (s : μ) (X : Hp → Prop) (s' : μ) : Prop :=
  ∀ Z1 H1, Same Z Z1 → SameX M.fp H H1 → Same Z1 H1 → M.m s Z1 H1 → ∀ Q : VK, (∀ Z2 H2, Step M.fp Z1 H1 Z2 H2 → M.m s' Z2 H2 → X H2) → t σ H1 Q
def EvAE (M : Mu μ) (t : TA) (σ : L2.St) (Z H : Hp) (s : μ) (X : Hp → Prop) (s' : μ) : Prop :=
  ∀ Z1 H1, Same Z Z1 → SameX M.fp H H1 → Same Z1 H1 → M.m s Z1 H1 → ∀ Q : List V → Hp → Prop, (∀ Z2 H2, Step M.fp Z1 H1 Z2 H2 → M.m s' Z2 H2 → X H2) → t σ H1 Q
def EvTE (M : Mu μ) (t : TT) (σ : L2.St) (Z H : Hp) (s : μ) (X : Hp → Prop) (s' : μ) : Prop :=
  ∀ Z1 H1, Same Z Z1 → SameX M.fp H H1 → Same Z1 H1 → M.m s Z1 H1 → ∀ Q : Bool → Hp → Prop, (∀ Z2 H2, Step M.fp Z1 H1 Z2 H2 → M.m s' Z2 H2 → X H2) → t σ H1 Q
/-- for arguments of which Rs is true the promise raises: the class cls -/
def CallE (M : Mu μ) (sp : Sp) (E : XK) (Rs : Ra M.fp) (s : μ) (cls : Value) (s' : μ) : Prop :=
  ∀ Z H vs, Same Z H → M.m s Z H → Rs.r Z H vs → ∀ Q : VK, (∀ Z2 H2, Step M.fp Z H Z2 H2 → M.m s' Z2 H2 → E cls none H2) → sp vs H Q E
def InitE (M : Mu μ) (C : Addr) (sp : Sp) (E : XK) (Rs : Ra M.fp) (s : μ) (cls : Value) (s' : μ) : Prop :=
  ∀ Z H vs x dx, Same Z H → M.m s Z H → Rs.r Z H vs → H x = some (.ins C dx []) → Z x = none → x ∉ M.fp → ∀ Q : VK, (∀ Z2 H2, Step (x :: M.fp) Z H Z2 H2 → M.m s' Z2 H2 → E cls none H2) → sp (.ref x :: vs) H Q E
theorem eae_head (ha : EvE M ta σ Z H s X s1) : EvAE M (tCons ta t) σ Z H s X s1 := fun Z1 H1 a b c d _ q => ha Z1 H1 a b c d _ q
theorem eae_tail {R : Rr M.fp} (ha : Ev M ta σ Z H s R s1) (hr : EvAE M t σ Z H s1 X s2) : EvAE M (tCons ta t) σ Z H s X s2 :=
  fun Z1 H1 a b c d _ q => ha Z1 H1 a b c d _ fun _ Z2 H2 e m _ => hr Z2 H2 (a.trans e.z) (b.trans e.h) e.s m _ fun Z3 H3 e2 m2 => q Z3 H3 (e.trans e2) m2
theorem eve_args {sp : Sp} {E : XK} {dvs : List V} (ha : EvAE M t σ Z H s X s1) : EvE M (tCall sp dvs E t) σ Z H s X s1 := fun Z1 H1 a b c d _ q => ha Z1 H1 a b c d _ q
theorem eve_cb {r : List V → Hp → VK → Prop} (ha : EvAE M t σ Z H s X s1) : EvE M (tCB r t) σ Z H s X s1 := fun Z1 H1 a b c d _ q => ha Z1 H1 a b c d _ q
theorem eve_tup (ha : EvAE M t σ Z H s X s1) : EvE M (tTup t) σ Z H s X s1 := fun Z1 H1 a b c d _ q => ha Z1 H1 a b c d _ q
theorem eve_lst (ha : EvAE M t σ Z H s X s1) : EvE M (tLst t) σ Z H s X s1 := fun Z1 H1 a b c d _ q => ha Z1 H1 a b c d _ q
theorem eve_left {r : R2} (ha : EvE M ta σ Z H s X s1) : EvE M (tOp r ta tb) σ Z H s X s1 := fun Z1 H1 a b c d _ q => ha Z1 H1 a b c d _ q
theorem eve_right {r : R2} {R : Rr M.fp} (ha : Ev M ta σ Z H s R s1) (hb : EvE M tb σ Z H s1 X s2) : EvE M (tOp r ta tb) σ Z H s X s2 :=
  fun Z1 H1 a b c d _ q => ha Z1 H1 a b c d _ fun _ Z2 H2 e m _ => hb Z2 H2 (a.trans e.z) (b.trans e.h) e.s m _ fun Z3 H3 e2 m2 => q Z3 H3 (e.trans e2) m2
theorem eve_fld {f : Str} (ha : EvE M ta σ Z H s X s1) : EvE M (tFld K ta f) σ Z H s X s1 := fun Z1 H1 a b c d _ q => ha Z1 H1 a b c d _ q
theorem eve_call {sp : Sp} {E : XK} {Rs : Ra M.fp} {cls : Value} (C : CallE M sp E Rs s1 cls s2) (ha : EvA M t σ Z H s Rs s1) : EvE M (tCall sp [] E t) σ Z H s (E cls none) s2 :=
  fun Z1 H1 a b c d Q q => ha Z1 H1 a b c d _ fun vs Z2 H2 e m rs => by
    rw [List.append_nil]
    exact C Z2 H2 vs e.s m rs Q fun Z3 H3 e2 m2 => q Z3 H3 (e.trans e2) m2
theorem eve_meth {α : Type} {τ : Ty α} {x : α} {C' : Addr} {m : Str} {sp : Sp} {E : XK} {Rs : Ra M.fp} {cls : Value} (O : ObjOf τ C' m) (C : CallE M sp E (rac (ty τ x) Rs) s2 cls s3) (hx : Ev M ta σ Z H s (ty τ x) s1) (ha : EvA M t σ Z H s1 Rs s2) : EvE M (tMeth C' m sp [] E ta t) σ Z H s (E cls none) s3 :=
  fun Z1 H1 a b c d Q q => hx Z1 H1 a b c d _ fun v Z2 H2 e mm rv => by
    obtain ⟨p, dx, fs, rfl, hp, l⟩ := O _ _ _ rv
    refine ⟨p, dx, fs, rfl, e.s _ _ hp, l, ha Z2 H2 (a.trans e.z) (b.trans e.h) e.s mm _ fun vs Z3 H3 e2 m2 rs => ?_⟩
    rw [List.append_nil]
    exact C Z3 H3 _ e2.s m2 ⟨_, vs, rfl, τ.mono e2.z rv, rs⟩ Q fun Z4 H4 e3 m3 => q Z4 H4 ((e.trans e2).trans e3) m3
theorem eve_methA {α : Type} {τ : Ty α} {x : α} {C' : Addr} {m : Str} {sp : Sp} {E : XK} (O : ObjOf τ C' m) (hx : Ev M ta σ Z H s (ty τ x) s1) (ha : EvAE M t σ Z H s1 X s2) : EvE M (tMeth C' m sp [] E ta t) σ Z H s X s2 :=
  fun Z1 H1 a b c d Q q => hx Z1 H1 a b c d _ fun v Z2 H2 e mm rv => by
    obtain ⟨p, dx, fs, rfl, hp, l⟩ := O _ _ _ rv
    exact ⟨p, dx, fs, rfl, e.s _ _ hp, l, ha Z2 H2 (a.trans e.z) (b.trans e.h) e.s mm _ fun Z3 H3 e2 m2 => q Z3 H3 (e.trans e2) m2⟩
theorem eve_methO {C' : Addr} {m : Str} {sp : Sp} {E : XK} (hx : EvE M ta σ Z H s X s1) : EvE M (tMeth C' m sp [] E ta t) σ Z H s X s1 := fun Z1 H1 a b c d _ q => hx Z1 H1 a b c d _ q
theorem eve_makeA {C : Addr} {sp : Sp} {E : XK} (ha : EvAE M t σ Z H s X s1) : EvE M (tMake C sp [] E t) σ Z H s X s1 := fun Z1 H1 a b c d _ q => ha Z1 H1 a b c d _ q
theorem eve_makeKA {C : Addr} {n k : Nat} {sp : Sp} {E : XK} {gV : List V → List V → List V} {tk : TA} (ha : EvAE M t σ Z H s X s1) : EvE M (tMakeK C n k sp gV E t tk) σ Z H s X s1 := fun Z1 H1 a b c d _ q => ha Z1 H1 a b c d _ q
theorem Step.drop {S : List Addr} {Z H Z1 H1 : Hp} {x : Addr} (g : Step (x :: S) Z H Z1 H1) (hx : H x = none) : Step S Z H Z1 H1 := g.weak fun a h => by
  rcases List.mem_cons.mp h with e | h
  · exact .inr (e ▸ hx)
  · exact .inl h
theorem eve_make {C : Addr} {sp : Sp} {E : XK} {Rs : Ra M.fp} {cls : Value} (I : InitE M C sp E Rs s1 cls s2) (ha : EvA M t σ Z H s Rs s1) : EvE M (tMake C sp [] E t) σ Z H s (E cls none) s2 :=
  fun Z1 H1 a b c d Q q => ha Z1 H1 a b c d _ fun vs Z2 H2 e m rs x dx hx hd ne => by
    rw [List.append_nil]
    have st := Step.dict (C := C) e.s hx hd ne
    have nf : x ∉ M.fp := fun h => (M.al m x h).1 hx
    refine I Z2 _ vs x dx st.s (M.pure st m) (Rs.st st.pure rs) upd_same (same_none e.s hx) nf _ fun Z3 H3 e2 m2 => ?_
    exact q _ _ (e.trans (((st.pure (S := x :: M.fp)).trans e2).drop hx)) m2
theorem eve_makeK {C : Addr} {n k : Nat} {sp : Sp} {E : XK} {Rs Rk Rs' : Ra M.fp} {cls : Value} {gV : List V → List V → List V} {tk : TA} (I : InitE M C sp E Rs' s2 cls s3) (ha : EvA M t σ Z H s Rs s1) (hk : EvA M tk σ Z H s1 Rk s2)
    (hg : ∀ Z H vs zs x, Rs.r Z H vs → Rk.r Z H zs → vs.length = n ∧ zs.length = k ∧ ∃ ws, gV (.ref x :: vs) zs = .ref x :: ws ∧ Rs'.r Z H ws) : EvE M (tMakeK C n k sp gV E t tk) σ Z H s (E cls none) s3 :=
  fun Z1 H1 a b c d Q q => ha Z1 H1 a b c d _ fun vs Z2 H2 e m rs => hk Z2 H2 (a.trans e.z) (b.trans e.h) e.s m _ fun zs Z3 H3 e1 m1 rk => by
    have rs3 := Rs.st e1 rs
    obtain ⟨l1, l2, _⟩ := hg Z3 H3 vs zs 0 rs3 rk
    refine ⟨l1, l2, fun x dx hx hd ne => ?_⟩
    obtain ⟨_, _, ws, eg, rw'⟩ := hg Z3 H3 vs zs x rs3 rk
    rw [eg]
    have st := Step.dict (C := C) e1.s hx hd ne
    have nf : x ∉ M.fp := fun h => (M.al m1 x h).1 hx
    refine I Z3 _ ws x dx st.s (M.pure st m1) (Rs'.st st.pure rw') upd_same (same_none e1.s hx) nf _ fun Z4 H4 e2 m2 => ?_
    exact q _ _ ((e.trans e1).trans (((st.pure (S := x :: M.fp)).trans e2).drop hx)) m2
/-- defaults for all that are not written -/
theorem ev_makeD {C : Addr} {dvs : List V} {sp : Sp} {E : XK} {Rs Rs' : Ra M.fp} {R : Rr M.fp} (I : InitS M C sp E Rs' s1 R s2) (ha : EvA M t σ Z H s Rs s1) (hg : ∀ Z H vs, Rs.r Z H vs → Rs'.r Z H (vs ++ dvs)) : Ev M (tMake C sp dvs E t) σ Z H s R s2 :=
  fun Z1 H1 a b c d Q q => ha Z1 H1 a b c d _ fun vs Z2 H2 e m rs x dx hx hd ne => by
    have st := Step.dict (C := C) e.s hx hd ne
    have nf : x ∉ M.fp := fun h => (M.al m x h).1 hx
    refine I Z2 _ (vs ++ dvs) x dx st.s (M.pure st m) (hg _ _ _ (Rs.st st.pure rs)) upd_same (same_none e.s hx) nf _ fun Z3 H3 o e2 m2 ho rv => ⟨rfl, ?_⟩
    have hz3 : Z3 x = none := e2.n x (by rw [upd_same]; exact fun z => nomatch z) (same_none e.s hx)
    have e3 : Step M.fp Z2 H2 (upd Z3 x o) H3 := ((st.pure (S := x :: M.fp)).trans e2).freeze hx ho hz3
    refine q _ _ _ (e.trans e3) (M.loc (same_upd hz3) (fun _ _ _ e => e) (fun a ha _ z => ?_) m2) rv
    rw [upd_ne (fun q => nf (by rw [← q]; exact ha))]
    exact z
theorem eve_makeD {C : Addr} {dvs : List V} {sp : Sp} {E : XK} {Rs Rs' : Ra M.fp} {cls : Value} (I : InitE M C sp E Rs' s1 cls s2) (ha : EvA M t σ Z H s Rs s1) (hg : ∀ Z H vs, Rs.r Z H vs → Rs'.r Z H (vs ++ dvs)) : EvE M (tMake C sp dvs E t) σ Z H s (E cls none) s2 :=
  fun Z1 H1 a b c d Q q => ha Z1 H1 a b c d _ fun vs Z2 H2 e m rs x dx hx hd ne => by
    have st := Step.dict (C := C) e.s hx hd ne
    have nf : x ∉ M.fp := fun h => (M.al m x h).1 hx
    refine I Z2 _ (vs ++ dvs) x dx st.s (M.pure st m) (hg _ _ _ (Rs.st st.pure rs)) upd_same (same_none e.s hx) nf _ fun Z3 H3 e2 m2 => ?_
    exact q _ _ (e.trans (((st.pure (S := x :: M.fp)).trans e2).drop hx)) m2
/-! a call that is known not to raise -/
end
def Res.val {ε α : Type} (o : Option (Res ε α)) : Option α := o.bind (Res.thn (fun _ => none) some)
def Res.valS {ε α μ : Type} (o : Option (Res ε α × μ)) : Option (α × μ) := o.bind fun p => Res.thn (fun _ => none) (fun a => some (a, p.2)) p.1
theorem val_inv {ε α : Type} {o : Option (Res ε α)} {v : α} (h : Res.val o = some v) : o = some (.ok v) := by
  cases o with
  | none => cases h
  | some r =>
    cases r with
    | ok a => rw [show a = v from Option.some.inj h]
    | er e => cases h
theorem valS_inv {ε α μ : Type} {o : Option (Res ε α × μ)} {v : α × μ} (h : Res.valS o = some v) : o = some (.ok v.1, v.2) := by
  cases o with
  | none => cases h
  | some r =>
    obtain ⟨r, s⟩ := r
    cases r with
    | ok a => rw [← Option.some.inj h]
    | er e => cases h
section
variable {μ : Type} {S : List Addr} {Z0 H0 : Hp} {M : Mu μ} {σ : L2.St} {Z H : Hp} {s s' s1 s2 s3 : μ} {ta tb tc te : TE} {t : TA} {K : PySem.W.Frag} {D : Ends} {u w : TS} {X : Hp → Prop}
/-! tests that raise -/
theorem ete_val (h : EvE M te σ Z H s X s1) : EvTE M (tB te) σ Z H s X s1 := fun Z1 H1 p q r d _ k => h Z1 H1 p q r d _ k
theorem ete_cmp (h : EvE M te σ Z H s X s1) : EvTE M (tTest te) σ Z H s X s1 := fun Z1 H1 p q r d _ k => h Z1 H1 p q r d _ k
theorem ete_not {tA : TT} (h : EvTE M tA σ Z H s X s1) : EvTE M (tNot tA) σ Z H s X s1 := fun Z1 H1 p q r d _ k => h Z1 H1 p q r d _ k
/-! statements that raise -/
theorem st_setE {g : TG} (P : Pt S Z0 H0 M Z H s) (e : EvE M te σ Z H s X s1) (k : ∀ Z1 H1, Step M.fp Z H Z1 H1 → Pt S Z0 H0 M Z1 H1 s1 → X H1) : tAsg te g D σ H :=
  e Z H (Same.refl _) SameX.refl P.sub P.m _ fun Z1 H1 e m => k Z1 H1 e (P.next e m)
theorem st_retE (P : Pt S Z0 H0 M Z H s) (e : EvE M te σ Z H s X s1) (k : ∀ Z1 H1, Step M.fp Z H Z1 H1 → Pt S Z0 H0 M Z1 H1 s1 → X H1) : tRet te D σ H :=
  e Z H (Same.refl _) SameX.refl P.sub P.m _ fun Z1 H1 e m => k Z1 H1 e (P.next e m)
theorem st_exprE (P : Pt S Z0 H0 M Z H s) (e : EvE M te σ Z H s X s1) (k : ∀ Z1 H1, Step M.fp Z H Z1 H1 → Pt S Z0 H0 M Z1 H1 s1 → X H1) : tDrop te D σ H :=
  e Z H (Same.refl _) SameX.refl P.sub P.m _ fun Z1 H1 e m => k Z1 H1 e (P.next e m)
theorem st_ifE {tt : TT} (P : Pt S Z0 H0 M Z H s) (e : EvTE M tt σ Z H s X s1) (k : ∀ Z1 H1, Step M.fp Z H Z1 H1 → Pt S Z0 H0 M Z1 H1 s1 → X H1) : tIfS tt u w D σ H :=
  e Z H (Same.refl _) SameX.refl P.sub P.m _ fun Z1 H1 e m => k Z1 H1 e (P.next e m)
/-- a field of the thing that is being made -/
theorem ev_selfF {α : Type} {τ : Ty α} {x : α} {i : Nat} {p C dx : Addr} {fs : List (Str × V)} {f : Str} {v : V} (hp : H p = some (.ins C dx fs)) (np : p ∉ M.fp) (hσ : σ[i]? = some (some (.ref p))) (c : Cls K C) (n : NoAttr K C f) (l : fs.lookup f = some v) (hv : τ.r Z v x) : Ev M (tFld K (tVar i) f) σ Z H s (ty τ x) s :=
  fun Z1 H1 a b c' d Q q => ⟨.ref p, hσ, p, C, dx, fs, v, rfl, b _ _ np hp, c, n, l, q _ _ _ (Step.refl c') d (τ.mono a hv)⟩
end
end TP
namespace TP
open PySem PySem.Spec PyProof.Rows L2

theorem pi_tupB {X : Cx} {K : PySem.W.Frag} (hK : X.K = K) {tg l : Expr} {tl : TE} (hl : PE X l tl) : PI X tg l (iTup K tl) := by
  subst hK
  exact pi_tup hl
theorem pi_listB {X : Cx} {K : PySem.W.Frag} (hK : X.K = K) {tg l : Expr} {tl : TE} (hl : PE X l tl) : PI X tg l (iList K tl) := by
  subst hK
  exact pi_list hl
def rLenB (K : PySem.W.Frag) : List V → Hp → VK → Prop := fun xs H Q => ∃ p ys, xs = [.ref p] ∧ (SqL K H p ys ∨ SqT K H p ys) ∧ Q (.int ys.length) H
def rListB (K : PySem.W.Frag) : List V → Hp → VK → Prop := fun xs H Q => ∃ p ys, xs = [.ref p] ∧ (SqL K H p ys ∨ SqT K H p ys) ∧ ∀ l, H l = none → Q (.ref l) (upd H l (.lst ys))
def rTupleB (K : PySem.W.Frag) : List V → Hp → VK → Prop := fun xs H Q => ∃ p ys, xs = [.ref p] ∧ ((SqL K H p ys ∧ ∀ l, H l = none → Q (.ref l) (upd H l (.tup ys))) ∨ (SqT K H p ys ∧ Q (.ref p) H))
theorem pe_fldB {X : Cx} {K : PySem.W.Frag} (hK : X.K = K) {e : Expr} {f : Str} {pos : Pos} {ta : TE} (he : PE X e ta) (hb : attributeBase e f X.env (eval e X.env) = eval e X.env) : PE X (.Attribute e f pos) (tFld K ta f) := by
  subst hK
  exact pe_fld he hb
end TP

namespace TP
open PySem PySem.Spec PyProof.Rows L2
theorem kit_self {K : PySem.W.Frag} {C : Addr} : PySem.W.kitOne K (.ref C) (.ref C) = some true := by
  unfold PySem.W.kitOne
  rw [if_pos (by simp)]
theorem kit_sub {K : PySem.W.Frag} {t : Value} {C : Addr} {v : Bool} (h1 : PySem.W.isClsIn K C = true) (h2 : PySem.W.typeIn K (.ref C) = some (.type "type")) (h3 : PySem.W.subIn K t (.ref C) = some v) (h4 : (t == .ref C) = false) : PySem.W.kitOne K t (.ref C) = some v := by
  unfold PySem.W.kitOne
  rw [h4, if_neg Bool.false_ne_true]
  unfold PySem.W.kitCls
  have h1' : (PySem.W.clsIn K C).isSome = true := h1
  simp only [h1', h2, Bool.true_and]
  simp [h3]
theorem kit_subN {K : PySem.W.Frag} {t : Value} {C : Addr} (h1 : PySem.W.isClsIn K C = true) (h2 : PySem.W.typeIn K (.ref C) = some (.type "type")) (h3 : PySem.W.subIn K t (.ref C) = some false) (h4 : PySem.W.subIn K (.ref C) (.ref C) = some true) : PySem.W.kitOne K t (.ref C) = some false := by
  refine kit_sub h1 h2 h3 ?_
  cases e : (t == .ref C) with
  | false => rfl
  | true =>
    have e' : t = .ref C := beq_iff_eq.mp e
    rw [e', h4] at h3
    cases h3
theorem nf_self {K : PySem.W.Frag} {C : Addr} : PySem.W.notFirst K C (.ref C) = true := by simp [PySem.W.notFirst]
theorem nf_sub {K : PySem.W.Frag} {C : Addr} {t : Value} (h : PySem.W.subIn K t (.ref C) = some false) : PySem.W.notFirst K C t = true := by simp [PySem.W.notFirst, h]
end TP

namespace TP
open PySem PySem.Spec PyProof.Rows L2
/-! ### slots of a block forgotten -/
theorem wipe_at {σ : L2.St} {j : Nat} : ∀ {vs : List Nat}, (wipe σ vs)[j]? = if j ∈ vs then (σ[j]?).map fun _ => none else σ[j]?
  | [] => by simp [wipe]
  | v :: vs => by
    unfold wipe
    by_cases h : v = j
    · subst h
      rw [if_pos List.mem_cons_self]
      by_cases hl : v < σ.length
      · rw [List.getElem?_set_self (by rw [wipe_length]; exact hl), List.getElem?_eq_getElem hl]; rfl
      · rw [List.getElem?_eq_none (by rw [List.length_set, wipe_length]; omega), List.getElem?_eq_none (by omega)]; rfl
    · rw [List.getElem?_set_ne h, wipe_at (vs := vs)]
      by_cases g : j ∈ vs
      · rw [if_pos g, if_pos (List.mem_cons_of_mem _ g)]
      · rw [if_neg g, if_neg (fun z => (List.mem_cons.mp z).elim (fun q => h q.symm) g)]
theorem wpe_z {σ : L2.St} {vs : List Nat} : wipe (wipe σ vs) vs = wipe σ vs := by
  refine List.ext_getElem? fun j => ?_
  rw [wipe_at, wipe_at]
  by_cases g : j ∈ vs
  · rw [if_pos g, if_pos g]; cases σ[j]? <;> rfl
  · rw [if_neg g, if_neg g]
theorem wpe_s {σ σ1 : L2.St} {vs : List Nat} {i : Nat} {x : Option V} (h : wipe σ1 vs = wipe σ vs) (m : i ∈ vs) : wipe (σ1.set i x) vs = wipe σ vs := by
  rw [← h]
  refine List.ext_getElem? fun j => ?_
  rw [wipe_at, wipe_at]
  by_cases g : j ∈ vs
  · rw [if_pos g, if_pos g]
    by_cases e : i = j
    · subst e
      by_cases hl : i < σ1.length
      · rw [List.getElem?_set_self hl, List.getElem?_eq_getElem hl]; rfl
      · rw [List.getElem?_eq_none (by rw [List.length_set]; omega), List.getElem?_eq_none (by omega)]
    · rw [List.getElem?_set_ne e]
  · rw [if_neg g, if_neg g, List.getElem?_set_ne (fun e => g (by rw [← e]; exact m))]
end TP

namespace TP
open PySem PySem.Spec PyProof.Rows L2
/-- the slots written out -/
theorem st_norm {nx : L2.St → Hp → Prop} {σ σ' : L2.St} {H : Hp} (e : σ = σ') (h : nx σ' H) : nx σ H := by
  rw [e]; exact h
end TP

/-! != of instances with an own ==, and == and != of such an instance with anything -/
namespace TPN
open PySem PySem.Spec PyProof.Rows L2
section
variable {M : Model} {prog : Program} {w : World} {A : Around} {E : Value → Shared → Prop} {s : Shared} {K : PySem.W.Frag} {x C f : Addr} {ox : Obj} {od : Option Obj} {b tb : Value}
theorem ifBound_ne {args : List Value} {Q : Option Value → Shared → Prop} (X : K.In s.heap) (I : PySem.W.InstAt s.heap x ox C od) (hs : PySem.W.findIn K (.ref C) "__ne__" = some (some (.builtin "object.__ne__")))
    (h : wpAny M A (call (.builtin "object.__ne__") (.ref x :: args)) (fun v => Q (some v)) E s) : wpAny M A (callSpecialIfBound? (.ref x) "__ne__" args) Q E s := by
  simp only [callSpecialIfBound?, bindSpecialIfBound?]
  refine wpAny_holding (wpAny_bind (wpAny_bind (wpAny_bind (I.type.here ((PySem.W.looks_findIn X hs).here ?_)))))
  refine wpAny_bind (wpAny_askSetting (wpAny_ite ?_))
  have fin : wpAny M A (call (.builtin "object.__ne__") ([.ref x] ++ args) >>= fun v => pure (some v)) Q E s := wpAny_bind (wpAny_mono h (fun v s' h' => wpAny_pure h') fun _ _ h' => h')
  split
  · exact wpAny_bind (wpAny_of_eq (F.cmp_object.ne.bind _) (wpAny_pure (by exact fin)))
  · exact wpAny_tryCatch (wpAny_bind (wpAny_of_eq (F.cmp_object.ne.bind _) (wpAny_pure (by exact fin))))
theorem entry_ne {Q : Fin → Shared → Prop} (hu : A.units < cLine) (X : K.In s.heap) (I : PySem.W.InstAt s.heap x ox C od) (hs : PySem.W.findIn K (.ref C) "__eq__" = some (some (.ref f))) (hf : PySem.W.isFn K (.ref f) = true)
    (h : wpAny M A (call (.ref f) [.ref x, b]) (fun v s' => ∃ r, v = .bool r ∧ Q (.done (.ret (.bool (!r)))) s') E s) : wpAny M A (Builtin.«object.__ne__» ⟨[.ref x, b], []⟩) Q E s := by
  unfold Builtin.«object.__ne__»
  repeat (first
    | with_reducible refine wpAny_cRoomFor hu ?_
    | (refine wpAny_bind (m := callSpecialIfBound? (.ref x) (Str.ofString "__eq__") [b]) (PySem.W.ifBound_K X I hs hf (wpAny_mono h (fun r s' hr => by
        obtain ⟨b, rfl, hq⟩ := hr
        repeat (first | exact hq | exact wpAny_pure hq | exact wpAny_truthy_bool hq | (refine wpAny_bind (m := truthy (.bool _)) (wpAny_truthy_bool ?_)) | wp_step)) fun _ _ e => e)))
    | wp_step)
theorem call_ne {Q : Value → Shared → Prop} (hu : A.units + 1 < cLine) (X : K.In s.heap) (I : PySem.W.InstAt s.heap x ox C od) (hm : PySem.W.mroIn K C (.type "object") = some true) (hs : PySem.W.findIn K (.ref C) "__eq__" = some (some (.ref f))) (hf : PySem.W.isFn K (.ref f) = true)
    (h : wpAny (model prog w) A.in1 (call (.ref f) [.ref x, b]) (fun v s' => ∃ r, v = .bool r ∧ Q (.bool (!r)) s') E s) :
    wpAny (model prog w) A (call (.builtin "object.__ne__") [.ref x, b]) Q E s :=
  wpAny_call (codeAny_call_builtin F.cmp_object.ne.plain F.cmpEntry_ne (PySem.W.check_slot F.cmpKind_ne F.cmpSplit_ne (I.type.andThen (PySem.W.looks_mroIn X hm)) (F.cmpArgs_ne _ _) (entry_ne (A := A.in1) hu X I hs hf (wpAny_mono h (fun v s' hv => by
    obtain ⟨r, e, q⟩ := hv
    exact ⟨r, e, q⟩) fun _ _ e => e))))
theorem ne_K {Q : Value → Shared → Prop} (hu : A.units + 1 < cLine) (X : K.In s.heap) (I : PySem.W.InstAt s.heap x ox C od) (hb : PySem.W.Looks (model prog w) s.heap (typeOf b) tb) (hn : PySem.W.notFirst K C tb = true)
    (hm : PySem.W.mroIn K C (.type "object") = some true) (hne : PySem.W.findIn K (.ref C) "__ne__" = some (some (.builtin "object.__ne__")))
    (hs : PySem.W.findIn K (.ref C) "__eq__" = some (some (.ref f))) (hf : PySem.W.isFn K (.ref f) = true)
    (h : wpAny (model prog w) A.in1 (call (.ref f) [.ref x, b]) (fun v s' => ∃ r, v = .bool r ∧ Q (.bool (!r)) s') E s) : wpAny (model prog w) A (richCompare .NotEq (.ref x) b) Q E s := by
  have one : wpAny (model prog w) A (tryCompare (.ref x) "__ne__" b) (fun r s' => ∃ v, r = some v ∧ Q v s') E s := by
    unfold tryCompare
    refine wpAny_bind (ifBound_ne X I hne (call_ne hu X I hm hs hf (wpAny_mono h (fun v s' hv => ?_) fun _ _ e => e)))
    obtain ⟨r, rfl, q⟩ := hv
    exact ⟨r, rfl, wpAny_pure ⟨_, rfl, q⟩⟩
  unfold richCompare
  simp only [oneThing_ref]
  refine wpAny_holding (wpAny_bind (wpAny_cRoomFor (by omega) ?_))
  rw [cmpInfo_NotEq]
  dsimp only
  refine wpAny_bind (I.type.here (wpAny_bind (hb.here ?_)))
  split
  · rename_i q
    have e : PySem.W.subIn K tb (.ref C) = some false := by
      rcases Bool.or_eq_true_iff.mp hn with e | e
      · rw [beq_iff_eq.mp e] at q; simp at q
      · exact beq_iff_eq.mp e
    refine wpAny_bind ((PySem.W.looks_subIn X e).here ?_)
    simp only [Bool.false_eq_true, if_false]
    refine wpAny_bind (wpAny_mono one (fun r s' z => ?_) fun _ _ e => e)
    obtain ⟨v, rfl, hq⟩ := z
    exact wpAny_pure hq
  · refine wpAny_bind (wpAny_pure ?_)
    simp only [Bool.false_eq_true, if_false]
    refine wpAny_bind (wpAny_mono one (fun r s' z => ?_) fun _ _ e => e)
    obtain ⟨v, rfl, hq⟩ := z
    exact wpAny_pure hq
end
end TPN
namespace TPN
open PySem PySem.Spec PyProof.Rows L2
/-- == (neg false) or != of x, an instance of a class with an own ==, with anything -/
def rOwnE (K : PySem.W.Frag) (C : Addr) (neg : Bool) (sp : Sp) (E : XK) : R2 := fun x y H Q => ∃ a dx fs t, x = .ref a ∧ H a = some (.ins C dx fs) ∧ TyX K H y t ∧ PySem.W.notFirst K C t = true ∧ sp [x, y] H (fun z H' => ∃ b, z = .bl b ∧ Q (.bl (b != neg)) H') E
theorem nf_self {K : PySem.W.Frag} {C : Addr} : PySem.W.notFirst K C (.ref C) = true := by simp [PySem.W.notFirst]
theorem op_ownE {X : Cx} {CX : CXT} {C f : Addr} {fd : FuncData} {ps : List Str} {sp : Sp} {n : Nat} {E : XK} (M : Meth X.K C "__eq__" f) (F : FnOk X.prog X.w X.K X.mg X.base CX n f fd ps sp) (hr : Room n X.A)
    (hb : Binds X.K fd ps []) (hx : Passes CX X E) : OpR X (compareOp .Eq) (rOwnE X.K C false sp E) := by
  intro pins s σ H x y v u Q I rx ry h
  obtain ⟨a, dx, fs, t, rfl, ha, ty, hn, q⟩ := h
  cases (show v = Value.ref a from rx)
  obtain ⟨mA, J, _⟩ := ins_get I.hok ha
  obtain ⟨od, J, _⟩ := J.look
  obtain ⟨P, Z, p, _⟩ := kit_of I ry ty
  obtain ⟨m, hF⟩ := I.fr
  show wpAny (model X.prog X.w) X.A (richCompare .Eq (.ref a) u) _ _ _
  refine PySem.W.cmp_K (op := .Eq) (tb := t) hr.units0 hF I.ok.mod.kin J (Z.ty _ _ I.kIn p) hn M.at_ M.fn ?_
  refine wpAny_mono (run_fn (Q := fun z H' => ∃ b, z = .bl b ∧ Q (.bl (b != false)) H') (us := [.ref a, u]) (vs := [.ref a, y]) F hr hb .nil hx I (.cons rfl (.cons ry .nil)) (by simpa using q)) (fun w s' z => ?_) fun _ _ x => x
  obtain ⟨z', H', I', rz, b, ez, qz⟩ := z
  subst ez
  cases (show w = Value.bool b from rz)
  exact ⟨.bl b, H', I', rfl, by simpa using qz⟩
theorem op_ownNE {X : Cx} {CX : CXT} {C f : Addr} {fd : FuncData} {ps : List Str} {sp : Sp} {n : Nat} {E : XK} (hm : PySem.W.mroIn X.K C (.type "object") = some true) (hne : PySem.W.findIn X.K (.ref C) "__ne__" = some (some (.builtin "object.__ne__")))
    (M : Meth X.K C "__eq__" f) (F : FnOk X.prog X.w X.K X.mg X.base CX n f fd ps sp) (hr : Room (n + 1) X.A)
    (hb : Binds X.K fd ps []) (hx : ∀ (pins : List (Addr × Obj)) (σ : L2.St) (H : Hp) (s : Shared) (e : Value) (s' : Shared), Inv X pins σ H s → CX X.stack H s E e s' → X.xe e s') : OpR X (compareOp .NotEq) (rOwnE X.K C true sp E) := by
  intro pins s σ H x y v u Q I rx ry h
  obtain ⟨a, dx, fs, t, rfl, ha, ty, hn, q⟩ := h
  cases (show v = Value.ref a from rx)
  obtain ⟨mA, J, _⟩ := ins_get I.hok ha
  obtain ⟨od, J, _⟩ := J.look
  obtain ⟨P, Z, p, _⟩ := kit_of I ry ty
  show wpAny (model X.prog X.w) X.A (richCompare .NotEq (.ref a) u) _ _ _
  have hr1 : Room n X.A.in1 := hr.in1
  refine ne_K (A := X.A) (tb := t) (by have := hr1.units0; exact this) I.kIn J (Z.ty _ _ I.kIn p) hn hm hne M.at_ M.fn ?_
  have e0 : Env0 X.prog X.w X.K X.mg X.base X.A.in1 X.stack s H := I.env0.in1
  have r2 : Vals [V.ref a, y] [Value.ref a, u] := .cons rfl (.cons ry .nil)
  have hl : ([Value.ref a, u] : List Value).length = ps.length := by rw [← r2.length]; exact F.len _ _ _ _ q
  refine wpAny_call (codeAny_mono (F.run X.A.in1 X.stack s H ⟨[.ref a, u], []⟩ [.ref a, u] [.ref a, y] _ E hr1 e0 (by
    have := hb s [.ref a, u] I.kIn (by simpa using hl)
    simpa using this) r2 q) fun r s' hq => ?_)
  cases r with
  | error e => exact hx pins σ H s e s' I hq
  | ok fl =>
    cases fl with
    | ret w =>
      obtain ⟨z, H', I', rz, b, ez, qz⟩ := I.after hq
      subst ez
      cases (show w = Value.bool b from rz)
      exact ⟨b, rfl, .bl (!b), H', I', rfl, by simpa using qz⟩
    | next => exact False.elim hq
    | brk => exact False.elim hq
    | cont => exact False.elim hq
end TPN

namespace TPN
open PySem PySem.Spec PyProof.Rows L2 PySem.SeqAt
section
variable {prog : Program} {w : World} {A : Around} {E : Value → Shared → Prop} {s : Shared} {K : PySem.W.Frag} {y C f : Addr} {oy : Obj} {od : Option Obj}
/-- None == an instance: its own == is asked -/
theorem eq_none_ref {Q : Value → Shared → Prop} (hu : A.units < cLine) (X : K.In s.heap) (I : PySem.W.InstAt s.heap y oy C od) (hsub : PySem.W.subIn K (.ref C) (.type "NoneType") = some false)
    (hs : PySem.W.findIn K (.ref C) "__eq__" = some (some (.ref f))) (hf : PySem.W.isFn K (.ref f) = true)
    (h : wpAny (model prog w) A (call (.ref f) [.ref y, .none]) (fun v s' => ∃ r, v = .bool r ∧ Q (.bool r) s') E s) : wpAny (model prog w) A (richCompare .Eq .none (.ref y)) Q E s := by
  have one : wpAny (model prog w) A (tryCompare .none "__eq__" (.ref y)) (fun r s' => r = none ∧ s' = s) E s :=
    wpAny_tryCompare_declines (show s.TypeIs .none "NoneType" from rfl) F.slot_NoneType_eq (call_gives F.slot_NoneType_eq rfl F.entry_NoneType_eq (F.args_NoneType_eq_2 _ _) (NoneType___eq___none_ref_0 y) ⟨rfl, rfl, rfl⟩)
  have two : wpAny (model prog w) A (tryCompare (.ref y) "__eq__" .none) (fun r s' => ∃ v, r = some v ∧ Q v s') E s := by
    unfold tryCompare
    refine wpAny_bind (PySem.W.ifBound_K X I hs hf (wpAny_mono h (fun v s' hv => ?_) fun _ _ e => e))
    obtain ⟨r, rfl, q⟩ := hv
    exact wpAny_pure ⟨_, rfl, q⟩
  have e0 : oneThing? .Eq .none (.ref y) = none := rfl
  simp only [richCompare, cmpInfo_Eq, e0]
  refine wpAny_holding (wpAny_bind (wpAny_cRoomFor hu ?_))
  refine wpAny_bind (wpAny_typeOf (show s.TypeIs .none "NoneType" from rfl) ?_)
  refine wpAny_bind (I.type.here ?_)
  have fin : wpAny (model prog w) A (tryCompare .none "__eq__" (.ref y)) (fun r s' => r = none ∧ s' = s) E s := one
  split
  · refine wpAny_bind ((PySem.W.looks_subIn X hsub).here ?_)
    simp only [Bool.false_eq_true, if_false, Bool.not_false, if_true]
    refine wpAny_bind (m := tryCompare .none _ (.ref y)) (wpAny_mono one (fun r s1 z => ?_) fun _ _ e => e)
    obtain ⟨z1, z2⟩ := z
    subst z1
    subst z2
    refine wpAny_bind (m := tryCompare (.ref y) _ .none) (wpAny_mono two (fun r s2 z => ?_) fun _ _ e => e)
    obtain ⟨v, rfl, q⟩ := z
    exact wpAny_pure q
  · rename_i q
    exact absurd (by simp) q
end
/-- == of what may be None or an instance of the class at C with an own == -/
def rOptE (K : PySem.W.Frag) (C : Addr) (sp : Sp) (E : XK) : R2 := fun x y H Q => (x = .non ∧ y = .non ∧ Q (.bl true) H) ∨ (x = .non ∧ (∃ a dx fs, y = .ref a ∧ H a = some (.ins C dx fs)) ∧ sp [y, x] H (fun z H' => ∃ b, z = .bl b ∧ Q (.bl b) H') E) ∨ rOwnE K C false sp E x y H Q
theorem op_optE {X : Cx} {CX : CXT} {C f : Addr} {fd : FuncData} {ps : List Str} {sp : Sp} {n : Nat} {E : XK} (hn : PySem.W.subIn X.K (.ref C) (.type "NoneType") = some false) (M : Meth X.K C "__eq__" f) (F : FnOk X.prog X.w X.K X.mg X.base CX n f fd ps sp) (hr : Room n X.A)
    (hb : Binds X.K fd ps []) (hx : Passes CX X E) : OpR X (compareOp .Eq) (rOptE X.K C sp E) := by
  intro pins s σ H x y v u Q I rx ry h
  rcases h with ⟨rfl, rfl, q⟩ | ⟨rfl, ⟨a, dx, fs, rfl, ha⟩, q⟩ | h
  · exact op_eq pins s σ H .non .non v u Q I rx ry ⟨rfl, by simpa using q⟩
  · cases rx
    cases (show u = Value.ref a from ry)
    obtain ⟨mA, J, _⟩ := ins_get I.hok ha
    obtain ⟨od, J, _⟩ := J.look
    show wpAny (model X.prog X.w) X.A (richCompare .Eq .none (.ref a)) _ _ _
    refine eq_none_ref hr.units0 I.kIn J hn M.at_ M.fn ?_
    refine wpAny_mono (run_fn (Q := fun z H' => ∃ b, z = .bl b ∧ Q (.bl b) H') (us := [.ref a, .none]) (vs := [.ref a, .non]) F hr hb .nil hx I (.cons rfl (.cons rfl .nil)) (by simpa using q)) (fun w s' z => ?_) fun _ _ x => x
    obtain ⟨z', H', I', rz, b, ez, qz⟩ := z
    subst ez
    cases (show w = Value.bool b from rz)
    exact ⟨b, rfl, .bl b, H', I', rfl, qz⟩
  · exact op_ownE M F hr hb hx pins s σ H x y v u Q I rx ry h
end TPN

namespace TP
open PySem PySem.Spec PyProof.Rows L2
/-! ### data by what == says of it -/
structure EqW (K : PySem.W.Frag) {α : Type} (τ : Ty α) (d : α → PyData) (n : Nat) : Prop where
  dp : ∀ Z H v x, Same Z H → τ.r Z v x → Dp K H v (d x)
  lay : ∀ Z v x, τ.r Z v x → (d x).canLay0 = true
  dep : ∀ x, (d x).depth ≤ n
def dLst {α : Type} (d : α → PyData) (xs : List α) : PyData := .list (xs.map d)
def dTup {α : Type} (d : α → PyData) (xs : List α) : PyData := .tuple (xs.map d)
def dP1 {α : Type} (d : α → PyData) (x : α) : PyData := .tuple [d x]
def dP2 {α β : Type} (d : α → PyData) (e : β → PyData) (x : α × β) : PyData := .tuple [d x.1, e x.2]
def dP3 {α β γ : Type} (d : α → PyData) (e : β → PyData) (f : γ → PyData) (x : α × β × γ) : PyData := .tuple [d x.1, e x.2.1, f x.2.2]
def dP4 {α β γ δ : Type} (d : α → PyData) (e : β → PyData) (f : γ → PyData) (g : δ → PyData) (x : α × β × γ × δ) : PyData := .tuple [d x.1, e x.2.1, f x.2.2.1, g x.2.2.2]
def dNon (_ : Unit) : PyData := .none
section
variable {K : PySem.W.Frag} {α β γ δ : Type} {τ : Ty α} {υ : Ty β} {φ : Ty γ} {ψ : Ty δ} {d : α → PyData} {e : β → PyData} {f : γ → PyData} {g : δ → PyData} {n m k l : Nat}
theorem EqD.w (E : EqD K τ d n) : EqW K τ d n := ⟨E.dp, E.lay, E.dep⟩
theorem EqW.all (E : EqW K τ d n) {Z H : Hp} (sz : Same Z H) : ∀ {vs : List V} {xs : List α}, All (τ.r Z) vs xs → DpAll K H vs (xs.map d)
  | _, _, .nil => .nil
  | _, _, .cons h t => .cons (E.dp _ _ _ _ sz h) (E.all sz t)
theorem EqW.lays (E : EqW K τ d n) {Z : Hp} : ∀ {vs : List V} {xs : List α}, All (τ.r Z) vs xs → PyData.canLayAll0 (xs.map d) = true
  | _, _, .nil => by simp [PyData.canLayAll0]
  | _, _, .cons h t => by
    have h1 := E.lay _ _ _ h
    have h2 := E.lays t
    simp [PyData.canLayAll0, h1, h2]
theorem EqW.deps (E : EqW K τ d n) : ∀ xs : List α, PyData.depthAll (xs.map d) ≤ n
  | [] => by simp [PyData.depthAll]
  | x :: r => by
    have h1 := E.dep x
    have h2 := E.deps r
    simp only [List.map_cons, PyData.depthAll]
    omega
theorem eqw_list (E : EqW K τ d n) : EqW K (yList τ) (dLst d) (n + 1) where
  dp := fun Z H v x sz ⟨a, vs, e, h, t, _⟩ => by subst e; exact .lst (SqL.of (sz _ _ h)) (E.all sz t)
  lay := fun Z v x ⟨a, vs, e, h, t, _⟩ => by simpa [PyData.canLay0, dLst] using E.lays t
  dep := fun x => by have := E.deps x; simp only [PyData.depth, dLst]; omega
theorem eqw_tup (E : EqW K τ d n) : EqW K (yTup K τ) (dTup d) (n + 1) where
  dp := fun Z H v x sz ⟨a, vs, e, h, t, _⟩ => by subst e; exact .tup (seqT_same sz h) (E.all sz t)
  lay := fun Z v x ⟨a, vs, e, h, t, _⟩ => by simpa [PyData.canLay0, dTup] using E.lays t
  dep := fun x => by have := E.deps x; simp only [PyData.depth, dTup]; omega
theorem eqw_p1 (E : EqW K τ d n) : EqW K (yP1 K τ) (dP1 d) (n + 1) where
  dp := fun Z H v x sz ⟨a, v1, e, h, h1⟩ => by subst e; exact .tup (seqT_same sz h) (.cons (E.dp _ _ _ _ sz h1) .nil)
  lay := fun Z v x ⟨a, v1, e, h, h1⟩ => by simp [PyData.canLay0, PyData.canLayAll0, dP1, E.lay _ _ _ h1]
  dep := fun x => by have := E.dep x; simp only [PyData.depth, PyData.depthAll, dP1]; omega
theorem eqw_p2 (E : EqW K τ d n) (F : EqW K υ e m) : EqW K (yP2 K τ υ) (dP2 d e) (max n m + 1) where
  dp := fun Z H v x sz ⟨a, v1, v2, e, h, h1, h2⟩ => by subst e; exact .tup (seqT_same sz h) (.cons (E.dp _ _ _ _ sz h1) (.cons (F.dp _ _ _ _ sz h2) .nil))
  lay := fun Z v x ⟨a, v1, v2, e, h, h1, h2⟩ => by simp [PyData.canLay0, PyData.canLayAll0, dP2, E.lay _ _ _ h1, F.lay _ _ _ h2]
  dep := fun x => by have := E.dep x.1; have := F.dep x.2; simp only [PyData.depth, PyData.depthAll, dP2]; omega
theorem eqw_p3 (E : EqW K τ d n) (F : EqW K υ e m) (G : EqW K φ f k) : EqW K (yP3 K τ υ φ) (dP3 d e f) (max n (max m k) + 1) where
  dp := fun Z H v x sz ⟨a, v1, v2, v3, e, h, h1, h2, h3⟩ => by subst e; exact .tup (seqT_same sz h) (.cons (E.dp _ _ _ _ sz h1) (.cons (F.dp _ _ _ _ sz h2) (.cons (G.dp _ _ _ _ sz h3) .nil)))
  lay := fun Z v x ⟨a, v1, v2, v3, e, h, h1, h2, h3⟩ => by simp [PyData.canLay0, PyData.canLayAll0, dP3, E.lay _ _ _ h1, F.lay _ _ _ h2, G.lay _ _ _ h3]
  dep := fun x => by have := E.dep x.1; have := F.dep x.2.1; have := G.dep x.2.2; simp only [PyData.depth, PyData.depthAll, dP3]; omega
theorem eqw_p4 (E : EqW K τ d n) (F : EqW K υ e m) (G : EqW K φ f k) (I : EqW K ψ g l) : EqW K (yP4 K τ υ φ ψ) (dP4 d e f g) (max n (max m (max k l)) + 1) where
  dp := fun Z H v x sz ⟨a, v1, v2, v3, v4, e, h, h1, h2, h3, h4⟩ => by subst e; exact .tup (seqT_same sz h) (.cons (E.dp _ _ _ _ sz h1) (.cons (F.dp _ _ _ _ sz h2) (.cons (G.dp _ _ _ _ sz h3) (.cons (I.dp _ _ _ _ sz h4) .nil))))
  lay := fun Z v x ⟨a, v1, v2, v3, v4, e, h, h1, h2, h3, h4⟩ => by simp [PyData.canLay0, PyData.canLayAll0, dP4, E.lay _ _ _ h1, F.lay _ _ _ h2, G.lay _ _ _ h3, I.lay _ _ _ h4]
  dep := fun x => by have := E.dep x.1; have := F.dep x.2.1; have := G.dep x.2.2.1; have := I.dep x.2.2.2; simp only [PyData.depth, PyData.depthAll, dP4]; omega
theorem eqw_non : EqW K yNon dNon 0 := ⟨fun _ _ _ x _ h => by cases h; exact .non, fun _ _ _ _ => rfl, fun _ => Nat.le_refl _⟩
theorem eqw_opt (E : EqW K τ d n) : EqW K (yOpt τ) (optD d) n where
  dp := fun Z H v x sz h => match x, h with
    | none, h => by rw [show v = .non from h]; exact .non
    | some x, h => E.dp _ _ _ _ sz h.1
  lay := fun Z v x h => match x, h with
    | none, h => rfl
    | some x, h => E.lay _ _ _ h.1
  dep := fun x => match x with
    | none => Nat.zero_le _
    | some x => E.dep x
theorem EqW.gd {fp : List Addr} (E : EqW K τ d n) (x : α) : GD K (ty (fp := fp) τ x) (d x) := fun _ _ _ sz h => ⟨E.dp _ _ _ _ sz h, E.lay _ _ _ h⟩
theorem EqW.gdl {fp : List Addr} (E : EqW K τ d n) (xs : List α) : GD K (li (fp := fp) τ xs) (dLst d xs) := fun _ _ _ sz h => by
  obtain ⟨p, vs, rfl, g, t, _⟩ := rdl sz h
  exact ⟨.lst (SqL.of g) (E.all sz t), by simpa [PyData.canLay0, dLst] using E.lays t⟩
theorem EqW.dpt (E : EqW K τ d n) (h : n ≤ 64) (x : α) : (d x).depth ≤ 64 := Nat.le_trans (E.dep x) h
theorem EqW.dpl (E : EqW K τ d n) (h : n + 1 ≤ 64) (xs : List α) : (dLst d xs).depth ≤ 64 := by have := E.deps xs; simp only [PyData.depth, dLst]; omega
end
section
variable {μ : Type} {M : Mu μ} {σ : L2.St} {Z H : Hp} {s s' s1 s2 s3 : μ} {ta tb tc te : TE} {t : TA} {K : PySem.W.Frag}
theorem ev_eqW {R R' : Rr M.fp} {c c' : PyData} (G : GD K R c) (G' : GD K R' c') (l : c.depth ≤ 64) (l' : c'.depth ≤ 64) (ha : Ev M ta σ Z H s R s1) (hb : Ev M tb σ Z H s1 R' s2) : Ev M (tOp (rEqD K) ta tb) σ Z H s (ty yBool (PyData.eqv c c')) s2 :=
  ev_op ha hb fun _ _ _ _ sz e1 e2 _ q => by
    obtain ⟨d1, k1⟩ := G _ _ _ sz e1
    obtain ⟨d2, k2⟩ := G' _ _ _ sz e2
    exact ⟨c, c', d1, d2, shaped_of k1 l (Nat.le_refl _), shaped_of k2 l' (Nat.le_refl _), q _ _ _ (Step.refl sz) rfl⟩
theorem ev_neW {R R' : Rr M.fp} {c c' : PyData} (G : GD K R c) (G' : GD K R' c') (l : c.depth ≤ 64) (l' : c'.depth ≤ 64) (ha : Ev M ta σ Z H s R s1) (hb : Ev M tb σ Z H s1 R' s2) : Ev M (tOp (rNeD K) ta tb) σ Z H s (ty yBool (!PyData.eqv c c')) s2 :=
  ev_op ha hb fun _ _ _ _ sz e1 e2 _ q => by
    obtain ⟨d1, k1⟩ := G _ _ _ sz e1
    obtain ⟨d2, k2⟩ := G' _ _ _ sz e2
    exact ⟨c, c', d1, d2, shaped_of k1 l (Nat.le_refl _), shaped_of k2 l' (Nat.le_refl _), q _ _ _ (Step.refl sz) rfl⟩
theorem ev_cmpS {F : Str → Str → Bool} {x y : Str} (ha : Ev M ta σ Z H s (ty yStr x) s1) (hb : Ev M tb σ Z H s1 (ty yStr y) s2) : Ev M (tOp (fun x y H Q => ∃ i j, x = .str i ∧ y = .str j ∧ Q (.bl (F i j)) H) ta tb) σ Z H s (ty yBool (F x y)) s2 :=
  ev_op ha hb fun _ _ _ _ sz e1 e2 _ q => ⟨x, y, e1.1, e2.1, q _ _ _ (Step.refl sz) rfl⟩
theorem ev_chainG {R1 R0 R3 : Rr M.fp} {r r' : R2} {p q : Bool} (h1 : ∀ Z H x y, Same Z H → R1.r Z H x → R0.r Z H y → ∀ Q : VK, Q (.bl p) H → r x y H Q) (h2 : ∀ Z H x y, Same Z H → R0.r Z H x → R3.r Z H y → ∀ Q : VK, Q (.bl q) H → r' x y H Q)
    (ha : Ev M ta σ Z H s R1 s1) (hb : Ev M tb σ Z H s1 R0 s1) (hc : Ev M tc σ Z H s1 R3 s1) : Ev M (tChain r r' ta tb tc) σ Z H s (ty yBool (p && q)) s1 :=
  fun Z1 H1 a b c d Q k => ha Z1 H1 a b c d _ fun v Z2 H2 e m rv => hb Z2 H2 (a.trans e.z) (b.trans e.h) e.s m _ fun w Z3 H3 e2 m2 rw => by
    have e3 := e.trans e2
    refine h1 Z3 H3 v w e2.s (R1.st e2 rv) rw _ ⟨p, rfl, ?_⟩
    cases p with
    | true => rw [if_pos rfl]; exact hc Z3 H3 (a.trans e3.z) (b.trans e3.h) e3.s m2 _ fun u Z4 H4 e4 m4 ru => h2 Z4 H4 w u e4.s (R0.st e4 rw) ru _ (k _ Z4 H4 (e3.trans e4) m4 rfl)
    | false => rw [if_neg Bool.false_ne_true]; exact k _ Z3 H3 e3 m2 rfl
/-- the third part is read only where the first two hold -/
theorem ev_chainB {i j : Int} {b : Bool} {o : Option Bool} {p r : Int → Int → Bool} (ha : Ev M ta σ Z H s (ty yInt i) s1) (hb : Ev M tb σ Z H s1 (ty yInt j) s1) (hc : p i j = true → ∀ y, o = some y → ∃ k, y = r j k ∧ Ev M tc σ Z H s1 (ty yInt k) s1) (h : (if p i j = true then o else some false) = some b) :
    Ev M (tChain (rI0 fun i j => .bl (p i j)) (rI0 fun i j => .bl (r i j)) ta tb tc) σ Z H s (ty yBool b) s1 := by
  cases hp : p i j with
  | false =>
    rw [if_neg (by rw [hp]; exact Bool.false_ne_true)] at h
    have hb' := Option.some.inj h
    subst hb'
    intro Z1 H1 a b c d Q q
    exact ha Z1 H1 a b c d _ fun v Z2 H2 e m rv => hb Z2 H2 (a.trans e.z) (b.trans e.h) e.s m _ fun w Z3 H3 e2 m2 rw => ⟨i, j, rv, rw, p i j, rfl, by
      rw [hp, if_neg Bool.false_ne_true]
      exact q _ Z3 H3 (e.trans e2) m2 rfl⟩
  | true =>
    rw [if_pos hp] at h
    obtain ⟨k, rfl, hk⟩ := hc hp b h
    have := ev_chainO (b := true) (o := none) (p := p) (r := r) ha hb (fun _ => hk)
    rw [hp, Bool.true_and] at this
    exact this
theorem ev_chainS {F G : Str → Str → Bool} {x y z : Str} (ha : Ev M ta σ Z H s (ty yStr x) s1) (hb : Ev M tb σ Z H s1 (ty yStr y) s1) (hc : Ev M tc σ Z H s1 (ty yStr z) s1) :
    Ev M (tChain (fun x y H Q => ∃ i j, x = .str i ∧ y = .str j ∧ Q (.bl (F i j)) H) (fun x y H Q => ∃ i j, x = .str i ∧ y = .str j ∧ Q (.bl (G i j)) H) ta tb tc) σ Z H s (ty yBool (F x y && G y z)) s1 :=
  ev_chainG (R1 := ty yStr x) (R0 := ty yStr y) (R3 := ty yStr z) (fun _ _ _ _ _ e1 e2 _ q => ⟨x, y, e1.1, e2.1, q⟩) (fun _ _ _ _ _ e1 e2 _ q => ⟨y, z, e1.1, e2.1, q⟩) ha hb hc
theorem ev_isB {x y : Bool} (ha : Ev M ta σ Z H s (ty yBool x) s1) (hb : Ev M tb σ Z H s1 (ty yBool y) s2) : Ev M (tOp rIsB ta tb) σ Z H s (ty yBool (decide (x = y))) s2 :=
  ev_op ha hb fun _ _ _ _ sz e1 e2 _ q => ⟨x, y, e1, e2, q _ _ _ (Step.refl sz) rfl⟩
theorem ev_notB {x y : Bool} (ha : Ev M ta σ Z H s (ty yBool x) s1) (hb : Ev M tb σ Z H s1 (ty yBool y) s2) : Ev M (tOp rNotB ta tb) σ Z H s (ty yBool (!decide (x = y))) s2 :=
  ev_op ha hb fun _ _ _ _ sz e1 e2 _ q => ⟨x, y, e1, e2, q _ _ _ (Step.refl sz) rfl⟩
theorem all_nil {α : Type} {R : V → α → Prop} {vs : List V} {xs : List α} (h : All R vs xs) (e : vs = []) : xs = [] := by
  cases h with
  | nil => rfl
  | cons _ _ => cases e
theorem ev_catT {α : Type} {τ : Ty α} {xs ys : List α} (ha : Ev M ta σ Z H s (ty (yTup K τ) xs) s1) (hb : Ev M tb σ Z H s1 (ty (yTup K τ) ys) s2) (l : xs.length + ys.length ≤ sizeLine) : Ev M (tOp (rCatA K) ta tb) σ Z H s (ty (yTup K τ) (xs ++ ys)) s2 :=
  ev_op ha hb fun Z H v w sz ⟨a, vs, e1, h1, t1, l1⟩ ⟨b, ws, e2, h2, t2, l2⟩ _ q =>
    ⟨a, b, vs, ws, e1, e2, seqT_same sz h1, seqT_same sz h2, by rw [t1.len, t2.len]; exact l,
      fun e => q _ _ _ (Step.refl sz) ⟨b, ws, rfl, h2, by rw [all_nil t1 e]; exact t2, by rw [all_nil t1 e]; exact l2⟩,
      fun _ e => q _ _ _ (Step.refl sz) ⟨a, vs, rfl, h1, by rw [all_nil t2 e, List.append_nil]; exact t1, by rw [all_nil t2 e, List.append_nil]; exact l1⟩,
      fun _ _ p hp => q _ _ _ (Step.new sz hp) ⟨p, _, rfl, sqT_new, (t1.app t2).imp fun _ _ => τ.mono (same_upd (same_none sz hp)), by rw [List.length_append]; exact l⟩⟩
theorem ev_ord {x : Str} (ha : Ev M ta σ Z H s (ty yStr x) s1) (l : x.length = 1) : Ev M (tCB (fun xs H Q => ∃ x, xs = [.str x] ∧ x.length = 1 ∧ Q (.int (x.cps.getD 0 0 : Nat)) H) (tCons ta tNil)) σ Z H s (ty yInt ((x.cps.getD 0 0 : Nat) : Int)) s1 :=
  ev_cb (eva_cons ha eva_nil) fun _ _ vs sz ⟨v, r, e, h, e2⟩ Q q => ⟨x, by rw [e, h.1, show r = [] from e2], l, q _ _ _ (Step.refl sz) rfl⟩
/-- == and != of an instance by its own == with anything -/
theorem ev_ownE {α : Type} {τ : Ty α} {x : α} {R0 : Rr M.fp} {C : Addr} {t : Value} {sp : Sp} {E : XK} {b neg : Bool} (O : ∀ Z v x, τ.r Z v x → ∃ a dx fs, v = .ref a ∧ Z a = some (.ins C dx fs)) (tx : ∀ Z H v, Same Z H → R0.r Z H v → TyX K H v t) (hn : PySem.W.notFirst K C t = true)
    (c : CallS M sp E (rac (ty τ x) (rac R0 ra0)) s2 (ty yBool b) s3) (ha : Ev M ta σ Z H s (ty τ x) s1) (hb : Ev M tb σ Z H s1 R0 s2) : Ev M (tOp (TPN.rOwnE K C neg sp E) ta tb) σ Z H s (ty yBool (b != neg)) s3 :=
  fun Z1 H1 a' b' c' d' Q q => ha Z1 H1 a' b' c' d' _ fun v Z2 H2 e m rv => hb Z2 H2 (a'.trans e.z) (b'.trans e.h) e.s m _ fun w Z3 H3 e2 m2 rw => by
    have rv3 := τ.mono e2.z rv
    obtain ⟨p, dx, fs, rfl, hp⟩ := O _ _ _ rv3
    exact ⟨p, dx, fs, t, rfl, e2.s _ _ hp, tx _ _ _ e2.s rw, hn, c Z3 H3 _ e2.s m2 ⟨_, _, rfl, rv3, _, _, rfl, rw, rfl⟩ _ fun u Z4 H4 e3 m3 ru => ⟨b, ru, q _ Z4 H4 ((e.trans e2).trans e3) m3 rfl⟩⟩
/-- the class of what may be None -/
def clsO {α : Type} (c : Value) : Option α → Value
  | none => .type "NoneType"
  | some _ => c
theorem tx_opt {fp : List Addr} {α : Type} {τ : Ty α} {c : Value} (h : ∀ (x : α) Z H v, Same Z H → (ty (fp := fp) τ x).r Z H v → TyX K H v c) {x : Option α} : ∀ Z H v, Same Z H → (ty (fp := fp) (yOpt τ) x).r Z H v → TyX K H v (clsO c x) := fun Z H v sz e => match x, e with
  | none, e => by rw [show v = .non from e]; exact .base .non
  | some y, e => h y Z H v sz e.1
theorem tx_non {fp : List Addr} {x : Unit} : ∀ Z H v, Same Z H → (ty (fp := fp) yNon x).r Z H v → TyX K H v (.type "NoneType") := fun _ _ _ _ h => by rw [show _ = V.non from h]; exact .base .non
theorem kit_opt {α : Type} {c t : Value} {b : Bool} (h0 : PySem.W.kitOne K (.type "NoneType") t = some false) (h1 : PySem.W.kitOne K c t = some b) (x : Option α) : PySem.W.kitOne K (clsO c x) t = some (x.isSome && b) := match x with
  | none => h0
  | some _ => h1
theorem nf_opt {α : Type} {C : Addr} {c : Value} (h0 : PySem.W.notFirst K C (.type "NoneType") = true) (h1 : PySem.W.notFirst K C c = true) (x : Option α) : PySem.W.notFirst K C (clsO c x) = true := match x with
  | none => h0
  | some _ => h1
def optEqO {α : Type} (f : α → Option α → Option Bool) : Option α → Option α → Option Bool
  | none, none => some true
  | none, some y => f y none
  | some x, y => f x y
theorem ev_optE {α : Type} {τ : Ty α} {a b : Option α} {r : Bool} {f : α → Option α → Option Bool} {C : Addr} {t : Option α → Value} {sp : Sp} {E : XK} (h : optEqO f a b = some r) (O : ∀ Z v x, τ.r Z v x → ∃ a dx fs, v = .ref a ∧ Z a = some (.ins C dx fs))
    (tx : ∀ (y : Option α) Z H v, Same Z H → (ty (fp := M.fp) (yOpt τ) y).r Z H v → TyX K H v (t y)) (hn : ∀ y, PySem.W.notFirst K C (t y) = true) (c : ∀ x y r, f x y = some r → CallS M sp E (rac (ty τ x) (rac (ty (yOpt τ) y) ra0)) s2 (ty yBool r) s2)
    (ha : Ev M ta σ Z H s (ty (yOpt τ) a) s1) (hb : Ev M tb σ Z H s1 (ty (yOpt τ) b) s2) : Ev M (tOp (TPN.rOptE K C sp E) ta tb) σ Z H s (ty yBool r) s2 :=
  fun Z1 H1 a' b' c' d' Q q => ha Z1 H1 a' b' c' d' _ fun v Z2 H2 e m rv => hb Z2 H2 (a'.trans e.z) (b'.trans e.h) e.s m _ fun w Z3 H3 e2 m2 rw => by
    have rv3 := (yOpt τ).mono e2.z rv
    match a, b, h, rv3, rw with
    | none, none, h, rv3, rw => exact .inl ⟨rv3, rw, q _ Z3 H3 (e.trans e2) m2 (congrArg V.bl (Option.some.inj h))⟩
    | none, some y, h, rv3, rw =>
      obtain ⟨p, dx, fs, rfl, hp⟩ := O _ _ _ rw.1
      exact .inr (.inl ⟨rv3, ⟨p, dx, fs, rfl, e2.s _ _ hp⟩, c y none r h Z3 H3 _ e2.s m2 ⟨_, _, rfl, rw.1, _, _, rfl, rv3, rfl⟩ _ fun u Z4 H4 e3 m3 ru => ⟨r, ru, q _ Z4 H4 ((e.trans e2).trans e3) m3 rfl⟩⟩)
    | some x, y, h, rv3, rw =>
      obtain ⟨p, dx, fs, rfl, hp⟩ := O _ _ _ rv3.1
      exact .inr (.inr ⟨p, dx, fs, t y, rfl, e2.s _ _ hp, tx _ _ _ _ e2.s rw, hn y, c x y r h Z3 H3 _ e2.s m2 ⟨_, _, rfl, rv3.1, _, _, rfl, rw, rfl⟩ _ fun u Z4 H4 e3 m3 ru => ⟨r, ru, q _ Z4 H4 ((e.trans e2).trans e3) m3 (by rw [show (r != false) = r by cases r <;> rfl]; exact rfl)⟩⟩)
end
end TP

namespace TP
open PySem PySem.Spec PyProof.Rows L2
/-! ### a list that never changes, or a tuple -/
def iSeq (K : PySem.W.Frag) (tl : TE) : TI := fun σ H R => tl σ H fun x H1 => (∃ a, x = .ref a ∧ (∃ xs, SqL K H1 a xs) ∧ R (Itl K a) H1) ∨ (∃ a, x = .ref a ∧ (∃ xs, SqT K H1 a xs) ∧ R (Itt K a) H1)
theorem pi_seq {X : Cx} {tg l : Expr} {tl : TE} (hl : PE X l tl) : PI X tg l (iSeq X.K tl) := by
  refine ⟨fun pins s σ H R I h => ?_⟩
  refine thn (hl.run pins s σ H _ I h) fun v s1 ⟨x, H1, I1, r1, q1⟩ => ?_
  rcases q1 with q1 | q1
  · obtain ⟨a, e, ⟨xs, hq⟩, q⟩ := q1
    subst e
    cases r1
    obtain ⟨its, rv, p, hz⟩ := I1.list hq
    refine wpAny_pyIter_list p.isList ?_
    refine ⟨s1.heap.objs.size, [s1.heap.objs.size], _, _, H1, rfl, I1.kept (t' := s1.toks) fun b o e => Heap.get?_push_of_some _ e, turn_list a _, ⟨_, Heap.get?_push_size _ rfl, rfl, rfl⟩, fun b hb => ?_, q⟩
    have e : b = s1.heap.objs.size := by simpa using hb
    subst e
    exact I1.fpOk (Nat.le_refl _) (I1.hok.fresh (Nat.le_refl _))
  · obtain ⟨a, e, ⟨xs, hq⟩, q⟩ := q1
    subst e
    cases r1
    obtain ⟨its, rv, p, hz⟩ := I1.tuple hq
    refine wpAny_pyIter_tuple (show s1.heap.IsTuple a its.toArray from p) ?_
    refine ⟨s1.heap.objs.size, [s1.heap.objs.size], _, _, H1, rfl, I1.kept (t' := s1.toks) fun b o e => Heap.get?_push_of_some _ e, turn_tuple a _, ⟨_, Heap.get?_push_size _ rfl, rfl, rfl⟩, fun b hb => ?_, q⟩
    have e : b = s1.heap.objs.size := by simpa using hb
    subst e
    exact I1.fpOk (Nat.le_refl _) (I1.hok.fresh (Nat.le_refl _))
theorem pi_seqB {X : Cx} {K : PySem.W.Frag} (hK : X.K = K) {tg l : Expr} {tl : TE} (hl : PE X l tl) : PI X tg l (iSeq K tl) := by
  subst hK
  exact pi_seq hl
section
variable {K : PySem.W.Frag} {α : Type}
def ySeq (K : PySem.W.Frag) (τ : Ty α) : Ty (List α) := ⟨fun Z v xs => ∃ a vs, v = .ref a ∧ (Z a = some (.lst vs) ∨ SqT K Z a vs) ∧ All (τ.r Z) vs xs ∧ xs.length ≤ sizeLine,
  fun s ⟨a, vs, e, h, t, l⟩ => ⟨a, vs, e, h.imp (fun h => s _ _ h) (seqT_same s), t.imp fun _ _ => τ.mono s, l⟩⟩
theorem nn_seq {τ : Ty α} : NonNil (ySeq K τ) := fun _ _ _ ⟨_, _, e, _⟩ => by rw [e]; exact fun z => nomatch z
section
variable {μ : Type} {M : Mu μ} {σ : L2.St} {Z H : Hp} {s s1 : μ} {ta : TE} {τ : Ty α} {xs : List α} {X : Hp → Hp → Prop}
theorem ev_seqL (h : Ev M ta σ Z H s (ty (yList τ) xs) s1) : Ev M ta σ Z H s (ty (ySeq K τ) xs) s1 := h.weak fun _ _ _ _ ⟨a, vs, e, h, t, l⟩ => ⟨a, vs, e, .inl h, t, l⟩
theorem ev_seqT (h : Ev M ta σ Z H s (ty (yTup K τ) xs) s1) : Ev M ta σ Z H s (ty (ySeq K τ) xs) s1 := h.weak fun _ _ _ _ ⟨a, vs, e, h, t, l⟩ => ⟨a, vs, e, .inr h, t, l⟩
theorem ei_seq (ha : Ev M ta σ Z H s (ty (ySeq K τ) xs) s1) : EvI M X (iSeq K ta) σ Z H s τ xs s1 :=
  fun Z1 H1 a b c d R q => ha Z1 H1 a b c d _ fun v Z2 H2 e m ⟨p, vs, ev, h, t, l⟩ => by
    subst ev
    rcases h with h | h
    · exact .inl ⟨p, rfl, ⟨vs, SqL.of (e.s _ _ h)⟩, q _ Z2 H2 e m (walk_at walk_list (fun Z' H' z sz _ => SqL.of (sz _ _ (z _ _ h))) t l)⟩
    · exact .inr ⟨p, rfl, ⟨vs, seqT_same e.s h⟩, q _ Z2 H2 e m (walk_at walk_tup (fun Z' H' z sz _ => seqT_same sz (seqT_same z h)) t l)⟩
theorem ev_lenS {r : List V → Hp → VK → Prop} (hr : ∀ xs H Q, (∃ p ys, xs = [.ref p] ∧ (SqL K H p ys ∨ SqT K H p ys) ∧ Q (.int ys.length) H) → r xs H Q) (ha : Ev M ta σ Z H s (ty (ySeq K τ) xs) s1) : Ev M (tCB r (tCons ta tNil)) σ Z H s (ty yInt (xs.length : Nat)) s1 :=
  ev_cb (eva_cons ha eva_nil) fun _ _ _ sz ⟨v, r, e, h, e2⟩ _ q => by
    cases e2; cases e
    obtain ⟨p, vs, rfl, g, t, _⟩ := h
    exact hr _ _ _ ⟨p, vs, rfl, g.imp (fun g => SqL.of (sz _ _ g)) (seqT_same sz), by rw [t.len]; exact q _ _ _ (Step.refl sz) rfl⟩
theorem en_list_ofS {r : List V → Hp → VK → Prop} (hr : ∀ xs H Q, (∃ p ys, xs = [.ref p] ∧ (SqL K H p ys ∨ SqT K H p ys) ∧ ∀ l, H l = none → Q (.ref l) (upd H l (.lst ys))) → r xs H Q) (ha : Ev M ta σ Z H s (ty (ySeq K τ) xs) s1) : EvN M (tCB r (tCons ta tNil)) σ Z H s τ xs s1 :=
  en_cb (eva_cons ha eva_nil) fun _ _ _ sz ⟨v, r, e, h, e2⟩ => by
    cases e2; cases e
    obtain ⟨p, vs, rfl, g, t, l⟩ := h
    exact ⟨vs, t, l, fun Q q => hr _ _ _ ⟨p, vs, rfl, g.imp (fun g => SqL.of (sz _ _ g)) (seqT_same sz), q⟩⟩
theorem ev_tuple_ofS {r : List V → Hp → VK → Prop} (hr : ∀ xs H Q, (∃ p ys, xs = [.ref p] ∧ ((SqL K H p ys ∧ ∀ l, H l = none → Q (.ref l) (upd H l (.tup ys))) ∨ (SqT K H p ys ∧ Q (.ref p) H))) → r xs H Q) (ha : Ev M ta σ Z H s (ty (ySeq K τ) xs) s1) : Ev M (tCB r (tCons ta tNil)) σ Z H s (ty (yTup K τ) xs) s1 :=
  ev_cb (eva_cons ha eva_nil) fun _ _ _ sz ⟨v, r, e, h, e2⟩ _ q => by
    cases e2; cases e
    obtain ⟨p, vs, rfl, g, t, l⟩ := h
    rcases g with g | g
    · exact hr _ _ _ ⟨p, vs, rfl, .inl ⟨SqL.of (sz _ _ g), fun d hd => q _ _ _ (Step.new sz hd) ⟨d, vs, rfl, sqT_new, t.imp fun _ _ => τ.mono (same_upd (same_none sz hd)), l⟩⟩⟩
    · exact hr _ _ _ ⟨p, vs, rfl, .inr ⟨seqT_same sz g, q _ _ _ (Step.refl sz) ⟨p, vs, rfl, g, t, l⟩⟩⟩
end
end
end TP

namespace TP
open PySem PySem.Spec PyProof.Rows L2
/-- a list grows by a tuple's items -/
def rExtS (K : PySem.W.Frag) : V → List V → Hp → VK → Prop := fun x vs H Q => ∃ l b xs zs, x = .ref l ∧ vs = [.ref b] ∧ H l = some (.lst xs) ∧ SqT K H b zs ∧ xs.length + zs.length ≤ sizeLine ∧ Q .non (upd H l (.lst (xs ++ zs)))
open PySem.AutoSeq1 in
theorem ext_tup (l b : Addr) (xs ys : Array Value) (n m : Nat) (dd : Option Addr) (sl : Array (Option Value)) (k0 : ¬ (!xs.isEmpty && Builtin.List.listTooLong (xs.size + ys.size)) = true) (k1 : xs.size ≤ sizeLine) (k2 : xs.size + ys.size ≤ sizeLine + 1) :
    Meets (Builtin.«list.extend» ⟨[.ref l, .ref b], []⟩) (fun _ R s => (s.heap.get? b = some ⟨.type "tuple", dd, .seq ys m, sl⟩ ∧ s.heap.get? l = some ⟨.type "list", none, .seq xs n, #[]⟩) ∧
      R (.ok (.ret Value.none)) { s with heap := s.heap.update l (Obj.mapSeq fun z => z ++ ys), toks := s.toks }) :=
  .of_wp fun prog w A R s ⟨⟨gb, gl⟩, q⟩ => by
    obtain ⟨hp, ge, dr, tk, os⟩ := s
    have s1 := PySem.AutoSeq1.idx_int
    have s2 := PySem.AutoSeq1.sub_list_list
    have s3 := PySem.AutoSeq1.sub_tuple_list
    have s4 := PySem.AutoSeq1.sub_tuple_tuple
    have s5 := PySem.AutoSeq1.sub_list_tuple
    have tot : (xs ++ ys).size ≤ sizeLine + 1 := by simpa [Array.size_append] using k2
    wp_walk using (wpAny_updateSeq gl rfl (hz := k1) (_hz' := tot)), wpAny_loadPart' gl, wpAny_loadPart' gb
    exact ⟨_, rfl, q⟩
theorem mt_extendT {X : Cx} : MtM X "list.extend" (rExtS X.K) := by
  intro pins s σ H x vs v us Q I rx rv g
  obtain ⟨l, b, xs, zs, rfl, rfl, gl, gb, gz, q⟩ := g
  cases rx
  obtain ⟨u, rfl, ru⟩ := rv.one
  cases ru
  obtain ⟨_, its, n, r, _, e⟩ := I.lstM gl
  obtain ⟨js, r2, ⟨⟨oc, od, ot, os⟩, e2, e3, m, e4⟩, _⟩ := I.tuple gb
  dsimp only at e3 e4
  subst e3 e4
  have k1 := r.length
  have k2 := r2.length
  have fits : its.toArray.size + js.toArray.size ≤ sizeLine := by
    rw [List.size_toArray, List.size_toArray]
    omega
  have open_ : ¬ (!its.toArray.isEmpty && Builtin.List.listTooLong (its.toArray.size + js.toArray.size)) = true := by
    rw [notLongL fits, Bool.and_false]
    decide
  refine call_meets F.slot_list_extend ⟨_, e, rfl⟩ F.entry_list_extend (F.args_list_extend_2 _ _) (ext_tup l b its.toArray js.toArray n m _ _ open_ (by omega) (by omega)) ⟨⟨e2, e⟩, .non, _, I.lset (its' := its ++ js) gl e (by simp) (r.append r2) (by rw [List.length_append]; omega), rfl, q⟩
section
variable {μ : Type} {S : List Addr} {Z0 H0 : Hp} {M : Mu μ} {σ : L2.St} {Z H : Hp} {s s1 s2 : μ} {ta tb te : TE} {K : PySem.W.Frag} {D : Ends} {α : Type} {τ : Ty α} {xs ys : List α} {p : Addr}
theorem st_extendT {i : Nat} (P : Pt S Z0 H0 M Z H s) (o : Own S H0 M.fp Z H τ p xs) (hσ : σ[i]? = some (some (.ref p))) (e : Ev M te σ Z H s (ty (yTup K τ) ys) s1) (l : xs.length + ys.length ≤ sizeLine)
    (k : ∀ Z1 H1, Step (p :: M.fp) Z H Z1 H1 → Pt S Z0 H0 M Z1 H1 s1 → Own S H0 M.fp Z1 H1 τ p (xs ++ ys) → D.nx σ H1) : tDrop (tBM K "list" (rExtS K) (tVar i) (tCons te tNil)) D σ H := by
  obtain ⟨vs, h, t⟩ := o.ex
  refine ⟨.ref p, hσ, .inl ⟨rfl, _, .inl (.inl h)⟩, e Z H (Same.refl _) SameX.refl P.sub P.m _ fun v Z1 H1 e m ⟨q, ws, ev, hq, t2, _⟩ => ?_⟩
  subst ev
  have o1 := o.next e
  have P1 := P.next e m
  refine ⟨p, q, vs, ws, rfl, rfl, e.h _ _ o.n h, seqT_same e.s hq, by rw [t.len, t2.len]; exact l, ?_⟩
  exact k _ _ (step2 e o1.z) (P1.set o1.z o.n (.inr o.mine)) ⟨⟨_, upd_same, (t.imp fun _ _ => τ.mono e.z).app t2⟩, o1.z, o.n, o.mine, by rw [List.length_append]; exact l⟩
/-- a sign of a text -/
def atSi (x : Str) (i : Int) : Option Str := (atI x.cps.toList i).map fun c => ⟨#[c]⟩
theorem ev_ixS {x y : Str} {i : Int} (ha : Ev M ta σ Z H s (ty yStr x) s1) (hb : Ev M tb σ Z H s1 (ty yInt i) s2) (e : atSi x i = some y) : Ev M (tOp rIxS ta tb) σ Z H s (ty yStr y) s2 :=
  ev_op ha hb fun _ _ _ _ sz e1 e2 _ q => by
    obtain ⟨c, hc, rfl⟩ := Option.map_eq_some_iff.mp e
    have ok := (show (PyData.strOk x && decide (x.length ≤ sizeLine)) = true from e1.2)
    rw [Bool.and_eq_true] at ok
    refine ⟨x, i, c, e1.1, e2, of_decide_eq_true ok.2, hc, q _ _ _ (Step.refl sz) ⟨rfl, ?_⟩⟩
    show (PyData.strOk ⟨#[c]⟩ && decide ((⟨#[c]⟩ : Str).length ≤ sizeLine)) = true
    have h1 : c ∈ x.cps.toList := by
      unfold atI at hc
      obtain ⟨j, _, hj⟩ := Option.bind_eq_some_iff.mp hc
      exact List.mem_of_getElem? hj
    have h2 := ok.1
    unfold PyData.strOk at h2 ⊢
    rw [Array.all_eq_true_iff_forall_mem] at h2
    rw [Bool.and_eq_true]
    refine ⟨?_, by show decide (1 ≤ sizeLine) = true; decide⟩
    simpa using h2 c (by simpa using h1)
end
end TP

namespace TP
open PySem PySem.Spec PyProof.Rows L2
/-! ### things that change: products -/
def muX {α β : Type} (A : Mu α) (B : Mu β) : Mu (α × β) where
  fp := A.fp ++ B.fp
  m := fun s Z H => A.m s.1 Z H ∧ B.m s.2 Z H ∧ ∀ a ∈ A.fp, a ∉ B.fp
  al := fun ⟨h, g, _⟩ a ha => by
    rcases List.mem_append.mp ha with ha | ha
    · exact A.al h a ha
    · exact B.al g a ha
  loc := fun sz hk hn ⟨h, g, d⟩ => ⟨A.loc sz (fun a ha => hk a (List.mem_append_left _ ha)) (fun a ha => hn a (List.mem_append_left _ ha)) h, B.loc sz (fun a ha => hk a (List.mem_append_right _ ha)) (fun a ha => hn a (List.mem_append_right _ ha)) g, d⟩
theorem Mu.keep {μ : Type} {N : Mu μ} {s : μ} {F : List Addr} {Z H Z' H' : Hp} (m : N.m s Z H) (e : Step F Z H Z' H') (d : ∀ a ∈ N.fp, a ∉ F) : N.m s Z' H' :=
  N.loc e.z (fun a ha o h => e.h a o (d a ha) h) (fun a _ h z => e.n a h z) m
section
variable {μ ν ι : Type} {S : List Addr} {Z0 H0 : Hp} {M : Mu μ} {N : Mu ν} {σ : L2.St} {Z H : Hp} {s s' s1 s2 s3 : μ} {c c' : ν} {ta tb tc te : TE} {t : TA} {K : PySem.W.Frag} {D : Ends}
/-- the attribute f of the thing at p -/
def MFld {α : Type} (N : Mu ν) (p C : Addr) (f : Str) (τ : Ty α) (pr : ν → α) : Prop := ∀ c Z H, N.m c Z H → ∃ dx fs w, H p = some (.ins C dx fs) ∧ fs.lookup f = some w ∧ τ.r Z w (pr c)
theorem ev_mfld {α : Type} {τ : Ty α} {p C : Addr} {f : Str} {pr : ν → α} {i : Nat} (hm : ∀ Z H, M.m s Z H → N.m c Z H) (F : MFld N p C f τ pr) (cl : Cls K C) (n : NoAttr K C f) (e : σ[i]? = some (some (.ref p))) : Ev M (tFld K (tVar i) f) σ Z H s (ty τ (pr c)) s :=
  fun Z1 H1 _ _ c' d Q q => ⟨_, e, by
    obtain ⟨dx, fs, w, hp, l, r⟩ := F c Z1 H1 (hm Z1 H1 d)
    exact ⟨p, C, dx, fs, w, rfl, hp, cl, n, l, q w Z1 H1 (Step.refl c') d r⟩⟩
/-- the attribute f is itself a thing that changes, at q -/
def MRef (N : Mu ν) (p C : Addr) (f : Str) (q : Addr) : Prop := ∀ c Z H, N.m c Z H → ∃ dx fs, H p = some (.ins C dx fs) ∧ fs.lookup f = some (.ref q)
theorem ev_mref {p C q : Addr} {f : Str} {i : Nat} (hm : ∀ Z H, M.m s Z H → N.m c Z H) (F : MRef N p C f q) (cl : Cls K C) (n : NoAttr K C f) (e : σ[i]? = some (some (.ref p))) : Ev M (tFld K (tVar i) f) σ Z H s (isRef q) s :=
  fun Z1 H1 _ _ c' d Q k => ⟨_, e, by
    obtain ⟨dx, fs, hp, l⟩ := F c Z1 H1 (hm Z1 H1 d)
    exact ⟨p, C, dx, fs, _, rfl, hp, cl, n, l, k _ Z1 H1 (Step.refl c') d rfl⟩⟩
/-- the thing at p is an instance of the class at C without an own attribute m -/
def MObj (N : Mu ν) (p C : Addr) (m : Str) : Prop := ∀ c Z H, N.m c Z H → ∃ dx fs, H p = some (.ins C dx fs) ∧ fs.lookup m = none
theorem ev_mmeth {p C' : Addr} {m : Str} {sp : Sp} {E : XK} {Rs : Ra M.fp} {R : Rr M.fp} (hm : ∀ Z H, M.m s1 Z H → N.m c Z H) (O : MObj N p C' m) (cs : CallS M sp E (rac (isRef p) Rs) s2 R s3) (hx : Ev M ta σ Z H s (isRef p) s1) (ha : EvA M t σ Z H s1 Rs s2) : Ev M (tMeth C' m sp [] E ta t) σ Z H s R s3 :=
  fun Z1 H1 a b c' d Q q => hx Z1 H1 a b c' d _ fun v Z2 H2 e mm rv => by
    obtain ⟨dx, fs, hp, l⟩ := O _ Z2 H2 (hm Z2 H2 mm)
    have ev : v = .ref p := rv
    subst ev
    refine ⟨p, dx, fs, rfl, hp, l, ha Z2 H2 (a.trans e.z) (b.trans e.h) e.s mm _ fun vs Z3 H3 e2 m2 rs => ?_⟩
    rw [List.append_nil]
    exact cs Z3 H3 _ e2.s m2 ⟨_, vs, rfl, rfl, rs⟩ Q fun v Z4 H4 e3 m3 rv' => q v Z4 H4 ((e.trans e2).trans e3) m3 rv'
theorem ev_mprop {p C' : Addr} {m : Str} {sp : Sp} {E : XK} {R : Rr M.fp} (hm : ∀ Z H, M.m s1 Z H → N.m c Z H) (O : MObj N p C' m) (cs : CallS M sp E (rac (isRef p) ra0) s1 R s2) (hx : Ev M ta σ Z H s (isRef p) s1) : Ev M (tProp C' sp [] E ta) σ Z H s R s2 :=
  fun Z1 H1 a b c' d Q q => hx Z1 H1 a b c' d _ fun v Z2 H2 e mm rv => by
    obtain ⟨dx, fs, hp, l⟩ := O _ Z2 H2 (hm Z2 H2 mm)
    have ev : v = .ref p := rv
    subst ev
    exact ⟨p, dx, fs, rfl, hp, cs Z2 H2 _ e.s mm ⟨_, [], rfl, rfl, rfl⟩ Q fun v Z4 H4 e3 m3 rv' => q v Z4 H4 (e.trans e3) m3 rv'⟩
theorem eve_mmeth {p C' : Addr} {m : Str} {sp : Sp} {E : XK} {Rs : Ra M.fp} {cls : Value} (hm : ∀ Z H, M.m s1 Z H → N.m c Z H) (O : MObj N p C' m) (cs : CallE M sp E (rac (isRef p) Rs) s2 cls s3) (hx : Ev M ta σ Z H s (isRef p) s1) (ha : EvA M t σ Z H s1 Rs s2) : EvE M (tMeth C' m sp [] E ta t) σ Z H s (E cls none) s3 :=
  fun Z1 H1 a b c' d Q q => hx Z1 H1 a b c' d _ fun v Z2 H2 e mm rv => by
    obtain ⟨dx, fs, hp, l⟩ := O _ Z2 H2 (hm Z2 H2 mm)
    have ev : v = .ref p := rv
    subst ev
    refine ⟨p, dx, fs, rfl, hp, l, ha Z2 H2 (a.trans e.z) (b.trans e.h) e.s mm _ fun vs Z3 H3 e2 m2 rs => ?_⟩
    rw [List.append_nil]
    exact cs Z3 H3 _ e2.s m2 ⟨_, vs, rfl, rfl, rs⟩ Q fun Z4 H4 e3 m3 => q Z4 H4 ((e.trans e2).trans e3) m3
theorem eve_mmethA {p C' : Addr} {m : Str} {sp : Sp} {E : XK} {X : Hp → Prop} (hm : ∀ Z H, M.m s1 Z H → N.m c Z H) (O : MObj N p C' m) (hx : Ev M ta σ Z H s (isRef p) s1) (ha : EvAE M t σ Z H s1 X s2) : EvE M (tMeth C' m sp [] E ta t) σ Z H s X s2 :=
  fun Z1 H1 a b c' d Q q => hx Z1 H1 a b c' d _ fun v Z2 H2 e mm rv => by
    obtain ⟨dx, fs, hp, l⟩ := O _ Z2 H2 (hm Z2 H2 mm)
    have ev : v = .ref p := rv
    subst ev
    exact ⟨p, dx, fs, rfl, hp, l, ha Z2 H2 (a.trans e.z) (b.trans e.h) e.s mm _ fun Z3 H3 e2 m2 => q Z3 H3 (e.trans e2) m2⟩
/-- the attribute f is stored anew -/
def MSet {α : Type} (N : Mu ν) (p C : Addr) (f : Str) (τ : Ty α) (up : ν → α → ν) : Prop := ∀ c Z H, N.m c Z H → p ∈ N.fp ∧ Z p = none ∧ ∃ dx fs, H p = some (.ins C dx fs) ∧ fs.length < 1000 ∧ ∀ w x, τ.r Z w x → N.m (up c x) Z (upd H p (.ins C dx (putF f w fs)))
theorem st_mset {α : Type} {τ : Ty α} {x : α} {p C : Addr} {f : Str} {i : Nat} {up : ν → α → ν} {tv : TE} (P : Pt S Z0 H0 M Z H s) (hm : ∀ Z H, M.m s1 Z H → N.m c Z H) (hf : ∀ a ∈ N.fp, a ∈ M.fp) (hp : ∀ Z H Z' H', M.m s1 Z H → Step N.fp Z H Z' H' → N.m (up c x) Z' H' → M.m s2 Z' H')
    (F : MSet N p C f τ up) (cl : Cls K C) (n : NoAttr K C f) (hσ : σ[i]? = some (some (.ref p))) (e : Ev M tv σ Z H s (ty τ x) s1) (k : ∀ Z1 H1, Step M.fp Z H Z1 H1 → Pt S Z0 H0 M Z1 H1 s2 → D.nx σ H1) : sFld K (tVar i) tv f D σ H :=
  e Z H (Same.refl _) SameX.refl P.sub P.m _ fun v Z1 H1 e m r => by
    obtain ⟨pf, zp, dx, fs, h1, l, up'⟩ := F c Z1 H1 (hm Z1 H1 m)
    have m' := up' v x r
    have st : Step [p] Z1 H1 Z1 (upd H1 p (.ins C dx (putF f v fs))) := Step.set e.s zp
    have stN : Step N.fp Z1 H1 Z1 (upd H1 p (.ins C dx (putF f v fs))) := st.weak fun a ha => by rw [List.mem_singleton] at ha; rw [ha]; exact .inl pf
    have m2 := hp _ _ _ _ m stN m'
    have e2 := e.trans (stN.weak fun a ha => .inl (hf a ha))
    exact ⟨.ref p, hσ, p, C, dx, fs, rfl, h1, cl, n, l, k _ _ e2 (P.next e2 m2)⟩
/-- self.f += e of integers -/
theorem st_maug {p C : Addr} {f : Str} {i : Nat} {up : ν → Int → ν} {tv : TE} {pr : ν → Int} {b : Int} {g : Int → Int → Int} (P : Pt S Z0 H0 M Z H s) (hm : ∀ Z H, M.m s Z H → N.m c Z H) (hf : ∀ a ∈ N.fp, a ∈ M.fp) (hp : ∀ Z H Z' H', M.m s Z H → Step N.fp Z H Z' H' → N.m (up c (g (pr c) b)) Z' H' → M.m s2 Z' H')
    (F : MSet N p C f yInt up) (G : MFld N p C f yInt pr) (cl : Cls K C) (n : NoAttr K C f) (hσ : σ[i]? = some (some (.ref p))) (e : Ev M tv σ Z H s (ty yInt b) s) (k : ∀ Z1 H1, Step M.fp Z H Z1 H1 → Pt S Z0 H0 M Z1 H1 s2 → D.nx σ H1) : sFldAug K (tVar i) tv (ipI g) f D σ H := by
  obtain ⟨dx0, fs0, w, h0, l0, r0⟩ := G c Z H (hm Z H P.m)
  refine ⟨.ref p, hσ, p, C, dx0, fs0, w, rfl, h0, cl, n, l0, e Z H (Same.refl _) SameX.refl P.sub P.m _ fun v Z1 H1 e m r => ?_⟩
  obtain ⟨pf, zp, dx, fs, h1, l, up'⟩ := F c Z1 H1 (hm Z1 H1 m)
  refine ⟨pr c, b, r0, r, dx, fs, h1, l, ?_⟩
  have m' := up' (.int (g (pr c) b)) (g (pr c) b) rfl
  have st : Step [p] Z1 H1 Z1 (upd H1 p (.ins C dx (putF f (.int (g (pr c) b)) fs))) := Step.set e.s zp
  have stN : Step N.fp Z1 H1 Z1 (upd H1 p (.ins C dx (putF f (.int (g (pr c) b)) fs))) := st.weak fun a ha => by rw [List.mem_singleton] at ha; rw [ha]; exact .inl pf
  have m2 := hp _ _ _ _ m stN m'
  have e2 := e.trans (stN.weak fun a ha => .inl (hf a ha))
  exact k _ _ e2 (P.next e2 m2)
/-- a new thing that changes -/
def EvM (M : Mu μ) (t : TE) (σ : L2.St) (Z H : Hp) (s : μ) (N : ι → Mu ν) (pr : ι → Addr) (x : ν) (s' : μ) : Prop :=
  ∀ Z1 H1, Same Z Z1 → SameX M.fp H H1 → Same Z1 H1 → M.m s Z1 H1 → ∀ Q : VK, (∀ i Z2 H2, Step M.fp Z1 H1 Z2 H2 → M.m s' Z2 H2 → (∀ a ∈ (N i).fp, H1 a = none) → (N i).m x Z2 H2 → Q (.ref (pr i)) H2) → t σ H1 Q
/-- what the __init__ makes: a thing that changes -/
def InitM (M : Mu μ) (C : Addr) (sp : Sp) (E : XK) (Rs : Ra M.fp) (s : μ) (N : ι → Mu ν) (pr : ι → Addr) (x : ν) (s' : μ) : Prop :=
  ∀ Z H vs p dx, Same Z H → M.m s Z H → Rs.r Z H vs → H p = some (.ins C dx []) → Z p = none → p ∉ M.fp → ∀ Q : VK, (∀ i Z2 H2, pr i = p → Step (p :: M.fp) Z H Z2 H2 → M.m s' Z2 H2 → (∀ a ∈ (N i).fp, a = p ∨ H a = none) → (N i).m x Z2 H2 → Q .non H2) → sp (.ref p :: vs) H Q E
theorem ev_makeM {C : Addr} {sp : Sp} {E : XK} {Rs : Ra M.fp} {N : ι → Mu ν} {pr : ι → Addr} {x : ν} (I : InitM M C sp E Rs s1 N pr x s2) (ha : EvA M t σ Z H s Rs s1) : EvM M (tMake C sp [] E t) σ Z H s N pr x s2 :=
  fun Z1 H1 a b c d Q q => ha Z1 H1 a b c d _ fun vs Z2 H2 e m rs x' dx hx hd ne => by
    rw [List.append_nil]
    have st := Step.dict (C := C) e.s hx hd ne
    have nf : x' ∉ M.fp := fun h => (M.al m x' h).1 hx
    have back : ∀ a, upd (upd H2 dx (.own x')) x' (.ins C dx []) a = none → H2 a = none := fun a h => by
      cases q : H2 a with
      | none => rfl
      | some o => exact absurd h (st.al a (some_ne q))
    refine I Z2 _ vs x' dx st.s (M.pure st m) (Rs.st st.pure rs) upd_same (same_none e.s hx) nf _ fun i Z3 H3 ei e2 m2 fr mi => ⟨rfl, ?_⟩
    subst ei
    have e3 : Step M.fp Z2 H2 Z3 H3 := ((st.pure (S := pr i :: M.fp)).trans e2).weak fun a h => by
      rcases List.mem_cons.mp h with e | h
      · exact .inr (e ▸ hx)
      · exact .inl h
    exact q i Z3 H3 (e.trans e3) m2 (fun a ha => by
      rcases fr a ha with r | r
      · rw [r]; exact same_x e hx
      · exact same_x e (back a r)) mi
/-- it is called x from now on -/
theorem st_setM {N : ι → Mu ν} {pr : ι → Addr} {x : ν} {j : Nat} (P : Pt S Z0 H0 M Z H s) (e : EvM M te σ Z H s N pr x s1) (k : ∀ i Z1 H1, Step M.fp Z H Z1 H1 → (∀ a ∈ (N i).fp, H a = none) → Pt S Z0 H0 (muX M (N i)) Z1 H1 (s1, x) → D.nx (σ.set j (some (.ref (pr i)))) H1) : tAsg te (gName j) D σ H :=
  e Z H (Same.refl _) SameX.refl P.sub P.m _ fun i Z1 H1 e m fr mi => k i Z1 H1 e fr ⟨P.st.mine e P.mine, ⟨m, mi, fun a ha hb => (M.al P.m a ha).1 (fr a hb)⟩, fun a ha => by
    rcases List.mem_append.mp ha with ha | ha
    · exact P.mine a ha
    · exact .inr (same_x P.st (fr a ha))⟩
theorem Pt.left {N : Mu ν} {x : ν} (P : Pt S Z0 H0 (muX M N) Z H (s, x)) : Pt S Z0 H0 M Z H s := ⟨P.st, P.m.1, fun a ha => P.mine a (List.mem_append_left _ ha)⟩
theorem Own.grow {α : Type} {τ : Ty α} {xs : List α} {p : Addr} {F : List Addr} {Z1 H1 : Hp} (o : Own S H0 M.fp Z H τ p xs) (e : Step M.fp Z H Z1 H1) (fr : ∀ a ∈ F, H a = none) : Own S H0 (M.fp ++ F) Z1 H1 τ p xs := by
  have o1 := o.next e
  obtain ⟨vs, h, _⟩ := o.ex
  have nf : p ∉ F := fun hb => by
    rw [fr p hb] at h
    exact nomatch h
  exact ⟨o1.ex, o1.z, fun ha => (List.mem_append.mp ha).elim o.n nf, o1.mine, o1.l⟩
theorem Own.left {α : Type} {τ : Ty α} {xs : List α} {p : Addr} {F G : List Addr} (o : Own S H0 (F ++ G) Z H τ p xs) : Own S H0 F Z H τ p xs := ⟨o.ex, o.z, fun h => o.n (List.mem_append_left _ h), o.mine, o.l⟩
theorem Step.left {F G : List Addr} {Z H Z1 H1 : Hp} (e : Step F Z H Z1 H1) : Step (F ++ G) Z H Z1 H1 := e.weak fun a h => .inl (List.mem_append_left _ h)
theorem putF_ne {f g : Str} {v w : V} {r : List (Str × V)} (h : ¬ g = f) : putF f v ((g, w) :: r) = (g, w) :: putF f v r := by
  show (if g = f then (g, v) :: r else (g, w) :: putF f v r) = _
  rw [if_neg h]
theorem putF_eq {f : Str} {v w : V} {r : List (Str × V)} : putF f v ((f, w) :: r) = (f, v) :: r := by
  show (if f = f then (f, v) :: r else _) = _
  rw [if_pos rfl]
theorem putF_nil {f : Str} {v : V} : putF f v [] = [(f, v)] := rfl
end
end TP

namespace TP
open PySem PySem.Spec PyProof.Rows L2
/-- what never is reached -/
theorem ps_dead {X : Cx} {s : Stmt} : PS X s (fun _ _ _ => False) := ⟨fun _ _ _ _ _ _ h => h.elim⟩
theorem sl_tupW {X : Cx} : SlR X (rSlW X.K) := sl_tupA
/-- an expression that is read in one of two ways -/
theorem pe_or2 {X : Cx} {e : Expr} {t u : TE} (h : PE X e t) (g : PE X e u) : PE X e (fun σ H Q => t σ H Q ∨ u σ H Q) := ⟨fun pins s σ H Q I q => by
  rcases q with q | q
  · exact h.run pins s σ H Q I q
  · exact g.run pins s σ H Q I q⟩
def rOr (r r' : R2) : R2 := fun x y H Q => r x y H Q ∨ r' x y H Q
theorem op_or {X : Cx} {f : Value → Value → Sem Value} {r r' : R2} (h : OpR X f r) (h' : OpR X f r') : OpR X f (rOr r r') := fun pins s σ H x y v u Q I rx ry q => by
  rcases q with q | q
  · exact h pins s σ H x y v u Q I rx ry q
  · exact h' pins s σ H x y v u Q I rx ry q
def rImp (r r' : R2) : Prop := ∀ x y H Q, r x y H Q → r' x y H Q
theorem ri_self {r : R2} : rImp r r := fun _ _ _ _ h => h
theorem ri_l {r r' : R2} : rImp r (rOr r r') := fun _ _ _ _ h => .inl h
theorem ri_r {r r' r'' : R2} (h : rImp r r') : rImp r (rOr r'' r') := fun _ _ _ _ q => .inr (h _ _ _ _ q)
section
variable {μ : Type} {M : Mu μ} {σ : L2.St} {Z H : Hp} {s s1 s2 s3 : μ} {ta tb t u : TE} {K : PySem.W.Frag}
theorem ev_orl {R : Rr M.fp} (h : Ev M t σ Z H s R s1) : Ev M (fun σ H Q => t σ H Q ∨ u σ H Q) σ Z H s R s1 := fun Z1 H1 a b c d Q q => .inl (h Z1 H1 a b c d Q q)
theorem ev_orr {R : Rr M.fp} (h : Ev M u σ Z H s R s1) : Ev M (fun σ H Q => t σ H Q ∨ u σ H Q) σ Z H s R s1 := fun Z1 H1 a b c d Q q => .inr (h Z1 H1 a b c d Q q)
theorem ev_ownR {α : Type} {τ : Ty α} {x : α} {R0 : Rr M.fp} {C : Addr} {t : Value} {sp : Sp} {E : XK} {b neg : Bool} {r : R2} (hr : rImp (TPN.rOwnE K C neg sp E) r) (O : ∀ Z v x, τ.r Z v x → ∃ a dx fs, v = .ref a ∧ Z a = some (.ins C dx fs)) (tx : ∀ Z H v, Same Z H → R0.r Z H v → TyX K H v t) (hn : PySem.W.notFirst K C t = true)
    (c : CallS M sp E (rac (ty τ x) (rac R0 ra0)) s2 (ty yBool b) s3) (ha : Ev M ta σ Z H s (ty τ x) s1) (hb : Ev M tb σ Z H s1 R0 s2) : Ev M (tOp r ta tb) σ Z H s (ty yBool (b != neg)) s3 :=
  fun Z1 H1 a' b' c' d' Q q => ha Z1 H1 a' b' c' d' _ fun v Z2 H2 e m rv => hb Z2 H2 (a'.trans e.z) (b'.trans e.h) e.s m _ fun w Z3 H3 e2 m2 rw => by
    have rv3 := τ.mono e2.z rv
    obtain ⟨p, dx, fs, rfl, hp⟩ := O _ _ _ rv3
    exact hr _ _ _ _ ⟨p, dx, fs, t, rfl, e2.s _ _ hp, tx _ _ _ e2.s rw, hn, c Z3 H3 _ e2.s m2 ⟨_, _, rfl, rv3, _, _, rfl, rw, rfl⟩ _ fun u Z4 H4 e3 m3 ru => ⟨b, ru, q _ Z4 H4 ((e.trans e2).trans e3) m3 rfl⟩⟩
variable {fp : List Addr} {α β γ δ : Type} {τ : Ty α} {υ : Ty β} {φ : Ty γ} {ψ : Ty δ}
theorem tx_p1 {x : α} : ∀ Z H v, Same Z H → (ty (fp := fp) (yP1 K τ) x).r Z H v → TyX K H v (.type "tuple") := fun _ _ _ sz ⟨a, _, e, h, _⟩ => by subst e; exact tx_sqT (seqT_same sz h)
theorem tx_p4 {x : α × β × γ × δ} : ∀ Z H v, Same Z H → (ty (fp := fp) (yP4 K τ υ φ ψ) x).r Z H v → TyX K H v (.type "tuple") := fun _ _ _ sz ⟨a, _, _, _, _, e, h, _⟩ => by subst e; exact tx_sqT (seqT_same sz h)
end
end TP

/-! len(set(xs)) of numbers -/
namespace TSN
open PySem PySem.Spec PyProof.Rows L2
theorem fold_first (f : List Int → Int → List Int) : ∀ ns : List Int, ((List.range ns.length).map fun i => ns.getD i 0) = ns
  | [] => rfl
  | n :: r => by
    rw [List.length_cons, List.range_succ_eq_map, List.map_cons, List.map_map]
    congr 1
    exact fold_first f r
/-- len(set(xs)), xs a list of numbers -/
def tLenSetI (K : PySem.W.Frag) (ta : TE) : TE := fun σ H Q => ta σ H fun x H1 => ∃ l, ∃ ns : List Int, x = .ref l ∧ SqL K H1 l (ns.map V.int) ∧ ns.length ≤ 1000 ∧ Q (.int (ns.foldl step_dedup []).length) H1
theorem pe_lenSetI {X : Cx} {a : Expr} {ta : TE} {p p2 q pos : Pos} (hc : X.calm = true) (hg : Gl X "len") (hm : X.mg "len" = none) (hg2 : Gl X "set") (hm2 : X.mg "set" = none) (ha : PE X a ta)
    (na : starEach [a] X.env = (false, eval a X.env) :: starEach [] X.env := by rfl) : PE X (.Call (.Name "len" p) [.Call (.Name "set" p2) [a] [] q] [] pos) (tLenSetI X.K ta) := by
  refine ⟨fun pins s σ H Q I g => Call_ (ld_blt I hg hm boot_len (PyProof.Rows.callWith_builtin1 (PyProof.Rows.args_cons ?_ rfl) rfl rfl))⟩
  refine Call_ (ld_blt I hg2 hm2 boot_set (PyProof.Rows.callWith_type1 (PyProof.Rows.args_cons (thn (ha.run pins s σ H _ I g) fun v s1 ⟨x, H1, I1, r1, q1⟩ => PyProof.Rows.args_nil ?_) na) na rfl))
  obtain ⟨l, xs, rfl, gl, few, q1⟩ := q1
  cases r1
  obtain ⟨its, r, pl, _⟩ := I1.list gl
  have hl : its.length = xs.length := by have := r.length; rw [List.length_map] at this; exact this.symm
  refine PySem.call_set_list (ns := xs) (I1.ok.hd hc) pl.isList (by simpa using L2.intsAre_of r) (by rw [List.size_toArray, hl]; unfold scanBound; omega) fun h2 tk held more => PyProof.Rows.args_nil ?_
  have e : PyProof.Rows.firstMet (fun i => xs.getD i 0) its.toArray.size = xs.foldl step_dedup [] := by
    unfold firstMet
    rw [List.size_toArray, hl, fold_first step_dedup]
  rw [e] at held
  obtain ⟨ob, es, ep, tb, g1, g2, g3, _, _, _, g4, g5⟩ := held
  have I2 : Inv X pins σ H1 { s1 with heap := h2, toks := tk } := I1.kept fun b o e => more b o (Heap.lt_size e) e
  have small : (xs.foldl step_dedup []).length ≤ xs.length := by rw [← e]; have := firstMet_length_le (fun i => xs.getD i 0) its.toArray.size; rw [List.size_toArray, hl] at this; rw [List.size_toArray, hl]; exact this
  exact call_len_set g1 g2 g3 g4 (by rw [g5]; omega) ⟨.int (xs.foldl step_dedup []).length, H1, I2.tok _, ⟨_, by rw [g5]⟩, q1⟩
end TSN
namespace TP
open PySem PySem.Spec PyProof.Rows L2
/-- the different ones, in their first order -/
def addZ {α : Type} [DecidableEq α] (l : List α) (v : α) : List α := if v ∈ l then l else l ++ [v]
def uZ {α : Type} [DecidableEq α] (xs : List α) : List α := xs.foldl addZ []
section
variable {α : Type} [DecidableEq α]
theorem uZ_fold : ∀ (xs acc : List α), (xs.foldl addZ acc).length ≤ acc.length + xs.length ∧ ((xs.foldl addZ acc).length = acc.length + xs.length ↔ (∀ x ∈ xs, x ∉ acc) ∧ xs.Nodup)
  | [], acc => ⟨Nat.le_refl _, fun _ => ⟨fun x h => (nomatch h), List.nodup_nil⟩, fun _ => rfl⟩
  | x :: r, acc => by
    have ih := uZ_fold r (addZ acc x)
    show (r.foldl addZ (addZ acc x)).length ≤ _ ∧ ((r.foldl addZ (addZ acc x)).length = _ ↔ _)
    rw [List.length_cons]
    by_cases g : x ∈ acc
    · have e : addZ acc x = acc := if_pos g
      rw [e] at ih ⊢
      exact ⟨by omega, fun h => by omega, fun h => absurd g (h.1 x (List.mem_cons_self ..))⟩
    · have e : addZ acc x = acc ++ [x] := if_neg g
      rw [e] at ih ⊢
      rw [List.length_append, List.length_singleton] at ih
      refine ⟨by omega, fun h => ?_, fun h => ?_⟩
      · obtain ⟨a, b⟩ := ih.2.mp (by omega)
        refine ⟨fun y hy => ?_, List.nodup_cons.mpr ⟨fun hx => a x hx (List.mem_append_right _ (List.mem_singleton.mpr rfl)), b⟩⟩
        rcases List.mem_cons.mp hy with z | z
        · rw [z]; exact g
        · exact fun w => a y z (List.mem_append_left _ w)
      · have b := List.nodup_cons.mp h.2
        have := ih.2.mpr ⟨fun y hy w => ?_, b.2⟩
        · omega
        · rcases List.mem_append.mp w with z | z
          · exact h.1 y (List.mem_cons_of_mem _ hy) z
          · rw [List.mem_singleton.mp z] at hy
            exact b.1 hy
theorem uZ_le (xs : List α) : (uZ xs).length ≤ xs.length := by
  have := (uZ_fold xs []).1
  rw [List.length_nil, Nat.zero_add] at this
  exact this
theorem uZ_nodup (xs : List α) : (uZ xs).length = xs.length ↔ xs.Nodup := by
  have := (uZ_fold xs []).2
  unfold uZ
  simp only [List.length_nil, Nat.zero_add] at this
  rw [this]
  exact ⟨fun h => h.2, fun h => ⟨fun x _ z => (nomatch z), h⟩⟩
end
theorem fold_ext {α β : Type} {f g : β → α → β} (h : ∀ b a, f b a = g b a) : ∀ (xs : List α) (b : β), xs.foldl f b = xs.foldl g b
  | [], _ => rfl
  | x :: r, b => by
    show r.foldl f (f b x) = r.foldl g (g b x)
    rw [h, fold_ext h r]
theorem any_mem {α : Type} [DecidableEq α] [BEq α] [LawfulBEq α] (l : List α) (v : α) : (l.any (· == v)) = decide (v ∈ l) := by
  apply Bool.eq_iff_iff.mpr
  rw [List.any_eq_true, decide_eq_true_iff]
  exact ⟨fun ⟨y, h, e⟩ => by rw [← eq_of_beq e]; exact h, fun h => ⟨v, h, beq_self_eq_true v⟩⟩
theorem uZ_int (ns : List Int) : ns.foldl step_dedup [] = uZ ns := fold_ext (fun l v => by
  unfold step_dedup addZ
  rw [any_mem]
  by_cases h : v ∈ l
  · rw [if_pos (decide_eq_true h), if_pos h]
  · rw [if_neg (fun z => h (of_decide_eq_true z)), if_neg h]) ns []
section
variable {μ : Type} {M : Mu μ} {σ : L2.St} {Z H : Hp} {s s1 : μ} {ta : TE} {K : PySem.W.Frag}
theorem ev_lenSetI {xs : List Int} (ha : Ev M ta σ Z H s (li yInt xs) s1) (l : xs.length ≤ 1000) : Ev M (TSN.tLenSetI K ta) σ Z H s (ty yInt ((uZ xs).length : Nat)) s1 :=
  fun Z1 H1 a b c d Q q => ha Z1 H1 a b c d _ fun v Z2 H2 e m rv => by
    obtain ⟨p, vs, rfl, g, t, _⟩ := rdl e.s rv
    rw [t.ints] at g
    exact ⟨p, xs, rfl, SqL.of g, l, q _ Z2 H2 e m (by rw [uZ_int]; rfl)⟩
end
end TP

/-! len(set(xs)): of texts, of numbers -/
namespace TSN
open PySem PySem.Spec PyProof.Rows L2

def addS (l : List Str) (v : Str) : List Str := if l.any (· == v) then l else l ++ [v]
def uS (xs : List Str) : List Str := xs.foldl addS []
theorem addS_any (l : List Str) (v k : Str) : (addS l v).any (· == k) = (l.any (· == k) || decide (k = v)) := by
  unfold addS
  by_cases g : l.any (· == v) = true
  · rw [if_pos g]
    by_cases e : k = v
    · subst e
      rw [g]
      rfl
    · rw [decide_eq_false e, Bool.or_false]
  · rw [if_neg g, List.any_append]
    congr 1
    by_cases e : k = v
    · subst e
      simp
    · rw [decide_eq_false e]
      simpa using fun z : v = k => e z.symm
theorem addS_len (l : List Str) (v : Str) : (addS l v).length = if l.any (· == v) then l.length else l.length + 1 := by
  unfold addS
  by_cases g : l.any (· == v) = true
  · rw [if_pos g, if_pos g]
  · rw [if_neg g, if_neg g, List.length_append]
    rfl
theorem uS_succ {xs : List Str} {i : Nat} {v : Str} (h : xs[i]? = some v) : uS (xs.take (i + 1)) = addS (uS (xs.take i)) v := by
  unfold uS
  rw [List.take_add_one, h, List.foldl_append]
  rfl
theorem uS_fold : ∀ (xs acc : List Str), (xs.foldl addS acc).length ≤ acc.length + xs.length ∧ ((xs.foldl addS acc).length = acc.length + xs.length ↔ (∀ x ∈ xs, x ∉ acc) ∧ xs.Nodup)
  | [], acc => ⟨Nat.le_refl _, fun _ => ⟨fun x h => (nomatch h), List.nodup_nil⟩, fun _ => rfl⟩
  | x :: r, acc => by
    have ih := uS_fold r (addS acc x)
    show (r.foldl addS (addS acc x)).length ≤ _ ∧ ((r.foldl addS (addS acc x)).length = _ ↔ _)
    rw [List.length_cons]
    by_cases g : x ∈ acc
    · have e : addS acc x = acc := by
        unfold addS
        have z : (acc.any (· == x)) = true := List.any_eq_true.mpr ⟨x, g, beq_self_eq_true x⟩
        rw [if_pos z]
      rw [e] at ih ⊢
      refine ⟨by omega, fun h => by omega, fun h => absurd g (h.1 x (List.mem_cons_self ..))⟩
    · have e : addS acc x = acc ++ [x] := by
        unfold addS
        rw [if_neg]
        intro h
        obtain ⟨y, h1, h2⟩ := List.any_eq_true.mp h
        rw [eq_of_beq h2] at h1
        exact g h1
      rw [e] at ih ⊢
      rw [List.length_append, List.length_singleton] at ih
      refine ⟨by omega, fun h => ?_, fun h => ?_⟩
      · obtain ⟨a, b⟩ := ih.2.mp (by omega)
        refine ⟨fun y hy => ?_, List.nodup_cons.mpr ⟨fun hx => a x hx (List.mem_append_right _ (List.mem_singleton.mpr rfl)), b⟩⟩
        rcases List.mem_cons.mp hy with z | z
        · rw [z]; exact g
        · exact fun w => a y z (List.mem_append_left _ w)
      · have b := List.nodup_cons.mp h.2
        have := ih.2.mpr ⟨fun y hy w => ?_, b.2⟩
        · omega
        · rcases List.mem_append.mp w with z | z
          · exact h.1 y (List.mem_cons_of_mem _ hy) z
          · rw [List.mem_singleton.mp z] at hy
            exact b.1 hy
theorem uS_le (xs : List Str) : (uS xs).length ≤ xs.length := by
  have := (uS_fold xs []).1
  rw [List.length_nil, Nat.zero_add] at this
  exact this
theorem uS_nodup (xs : List Str) : (uS xs).length = xs.length ↔ xs.Nodup := by
  have := (uS_fold xs []).2
  unfold uS
  simp only [List.length_nil, Nat.zero_add] at this
  rw [this]
  exact ⟨fun h => h.2, fun h => ⟨fun x _ z => (nomatch z), h⟩⟩
section
variable {prog : Program} {w : World} {A : Around} {E : Value → Shared → Prop} {s : Shared}
/-- the set's own loop: the items enter one by one -/
theorem enter_texts {R : Result → Shared → Prop} {it : Addr} {own wr : List Addr} {G : Array GenState → Array GenState → Prop} {m : Nat} {P : Nat → Value → Prop} {St : Nat → Shared → Prop} (W : WalksS prog w A.in1 it own wr G m P St) (Z : Addr) (zo : Z ∉ own)
    (xs : List Str) (lx : xs.length = m) (room : m + 1 < scanBound) (isT : ∀ j v, P j v → ∃ t, v = .str (xs.getD j Str.empty) t) (left j : Nat) (t : Shared) (hj : m - j = left) (jm : j ≤ m) (at_ : St j t)
    (held : t.heap.SetOf (PySem.strKind prog w) Z (fun c => (uS (xs.take j)).any (· == c)) (uS (xs.take j)).length)
    (fin : ∀ u, Moved (Z :: wr) G t u → u.heap.SetOf (PySem.strKind prog w) Z (fun c => (uS (xs.take m)).any (· == c)) (uS (xs.take m)).length → R (.ok (.ret .none)) u) :
    codeAny (model prog w) A (.builtin "set.update.loop" ⟨[.ref Z, .ref it], []⟩) R t := by
  have zw : Z ∉ wr := fun b => zo (W.sub _ b)
  have inw : ∀ b ∈ wr, b ∈ Z :: wr := fun b g => List.mem_cons_of_mem _ g
  induction left generalizing j t with
  | zero =>
    obtain rfl : j = m := by omega
    refine codeAny_builtin (PyProof.Rows.F.entry_set_update_loop) ?_
    rw [Around.under_plainId (PyProof.Rows.F.plain_set_update_loop) _]
    show wpAny _ A.in1 (pyNext (.ref it) >>= _) _ _ t
    refine wpAny_bind (W.done t _ _ at_ fun u mv => ?_)
    show wpAny _ A.in1 (ret Value.none) _ _ u
    refine wpAny_pure (fin u (mv.mono inw) ?_)
    obtain ⟨ob, es, ep, tb, g, more⟩ := held
    exact ⟨ob, es, ep, tb, mv.heap Z _ zw g, more⟩
  | succ left ih =>
    have lt : j < m := by omega
    refine codeAny_builtin (PyProof.Rows.F.entry_set_update_loop) ?_
    rw [Around.under_plainId (PyProof.Rows.F.plain_set_update_loop) _]
    show wpAny _ A.in1 (pyNext (.ref it) >>= _) _ _ t
    refine wpAny_bind (W.item j t _ _ lt at_ fun v u pv at2 mv => ?_)
    obtain ⟨tk, rfl⟩ := isT j v pv
    have held2 : u.heap.SetOf (PySem.strKind prog w) Z (fun c => (uS (xs.take j)).any (· == c)) (uS (xs.take j)).length := by
      obtain ⟨ob, es, ep, tb, g, more⟩ := held
      exact ⟨ob, es, ep, tb, mv.heap Z _ zw g, more⟩
    show wpAny _ A.in1 (holding [Value.str (xs.getD j Str.empty) tk] (setAdd Z (.str (xs.getD j Str.empty) tk)) >>= _) _ _ u
    refine wpAny_bind (wpAny_holding ?_)
    unfold setAdd
    refine wpAny_holding (wpAny_bind ((PySem.strKind prog w).pyHash (k := xs.getD j Str.empty) (strKind_is _ _ _ _) ?_))
    have few : (uS (xs.take j)).length + 1 < scanBound := by
      have a := uS_le (xs.take j)
      have b : (xs.take j).length ≤ m := by rw [List.length_take]; omega
      omega
    refine wpAny_setAddHashed_of (knd := PySem.strKind prog w) (s := { u with toks := u.toks + 1 }) (strKind_is _ _ _ _) rfl held2 few fun h2 but held3 => ?_
    have gx : xs[j]? = some (xs.getD j Str.empty) := by
      rw [List.getD_eq_getElem?_getD, List.getElem?_eq_getElem (by omega)]
      rfl
    have held4 : h2.SetOf (PySem.strKind prog w) Z (fun c => (uS (xs.take (j + 1))).any (· == c)) (uS (xs.take (j + 1))).length := by
      rw [uS_succ gx]
      exact PyProof.Rows.SetOf_congr held3 (fun c => (addS_any _ _ c).symm) (addS_len _ _).symm
    refine wpAny_pure ⟨plainId_quiet (PyProof.Rows.F.plain_set_update_loop) _, ih (j + 1) _ (by omega) lt (W.frame _ u _ _ at2 (Nat.le_succ _) fun b g ob e => ?_) held4 fun u2 mv2 held5 => ?_⟩
    · rw [but.2 b (fun y : b = Z => zo (by rw [← y]; exact g))]
      exact e
    · refine fin u2 (Moved.trans W.gtrans ((mv.mono inw).then_heap (Nat.le_succ _) fun b ob g e => ?_) mv2) held5
      rw [but.2 b (fun y : b = Z => g (by rw [y]; exact List.mem_cons_self))]
      exact e
set_option maxHeartbeats 6400000 in
theorem made_of_texts {l : Addr} {its : Array Value} {xs : List Str} {Q : Value → Shared → Prop} (calm : A.handled = none) (gl : s.heap.IsList l its) (are : PyProof.Rows.StrsAre its.toList xs) (room : xs.length + 1 < scanBound)
    (q : ∀ (h2 : Heap) (tk : Nat), h2.SetOf (PySem.strKind prog w) s.heap.objs.size (fun c => (uS xs).any (· == c)) (uS xs).length → (∀ b ob, b < s.heap.objs.size → s.heap.get? b = some ob → h2.get? b = some ob) → Q (.ref s.heap.objs.size) { s with heap := h2, toks := tk }) :
    wpAny (model prog w) A (call (.type "set") [.ref l]) Q E s := by
  have k1 := PySem.F.called_set.made
  have k2 := PySem.F.called_set.sub
  obtain ⟨cc, tl, k3⟩ := PySem.F.called_set.mro
  refine wpAny_call (codeAny_of_tree ?_)
  show wpAny _ _ (callAny (.type "set") _) _ _ _
  refine wpAny_pure ⟨Code.quiet_builtin _ (by decide +kernel), codeAny_builtin (PySem.F.entry_type_call) ?_⟩
  rw [Around.under_plain (weight_type_call_type "set" [.ref l] []) (rfl)]
  have k4 := PySem.F.called_set.notType
  have k5 := PySem.F.called_set.canCreate
  have k6 := PySem.F.typeCall_set_1 (.ref l)
  repeat (any_goals (first | assumption | (wp_step)))
  refine codeAny_mono (code_set_new_1 (.ref l) (E := E) (Q₁ := fun o u => ∃ b : Bool, o = .ref s.heap.objs.size ∧ u = { s with heap := s.heap.push { cls := .type "set", dict := none, data := .set #[] 0 (.fresh 0 0 b) } }) fun b => ⟨b, rfl, rfl⟩) fun r u ru => ?_
  cases r with
  | error e => exact ru
  | ok f1 =>
    cases f1 with
    | ret o =>
      obtain ⟨b, rfl, rfl⟩ := ru
      have gS : (s.heap.push { cls := .type "set", dict := none, data := .set #[] 0 (.fresh 0 0 b) }).get? s.heap.objs.size = some { cls := .type "set", dict := none, data := .set #[] 0 (.fresh 0 0 b) } := Heap.get?_push_size _ (rfl)
      have tS : Shared.TypeIs { s with heap := s.heap.push { cls := .type "set", dict := none, data := .set #[] 0 (.fresh 0 0 b) } } (.ref s.heap.objs.size) "set" := ⟨_, gS, (rfl)⟩
      have k7 := PySem.F.called_set.init.lookup
      have k8 := PySem.F.called_set.init.bind (.ref s.heap.objs.size)
      repeat (any_goals (first | assumption | (wp_step)))
      refine codeAny_mono (codeAny_call_builtin (R := wants (fun o u => o = .none ∧ ∃ h2 tk, u = { s with heap := h2, toks := tk } ∧ h2.SetOf (PySem.strKind prog w) s.heap.objs.size (fun c => (uS xs).any (· == c)) (uS xs).length ∧
          (∀ a ob, a < s.heap.objs.size → s.heap.get? a = some ob → h2.get? a = some ob)) E) (PySem.F.called_set.init.plain) (PySem.F.entry_set_init) (check_set_init_1 tS ?_)) fun r2 u2 ru2 => ?_
      · obtain ⟨⟨c1, d1, e1, f1⟩, ol, ec, nl, ed⟩ := gl
        simp only at ec ed
        subst ec ed
        have ol2 : (s.heap.push { cls := .type "set", dict := none, data := .set #[] 0 (.fresh 0 0 b) }).get? l = some ⟨.type "list", d1, .seq its nl, f1⟩ := Heap.get?_push_of_some _ (ol)
        have k9 := PySem.F.sub_list_set
        have ka := PySem.F.sub_list_frozenset
        have kb : (Value.type "list" == Value.type "dict") = false := by (decide)
        have il : (s.heap.push { cls := .type "set", dict := none, data := .set #[] 0 (.fresh 0 0 b) }).IsList l its := ⟨_, ol2, rfl, nl, (rfl)⟩
        unfold Builtin.«set.__init__» Builtin.Frozenset.updateFrom noKeywords
        generalize ePI : pyIter = PI
        wp_walk
        subst ePI
        refine wpAny_pyIter_list il (wpAny_bind (wpAny_runValue ?_))
        have ll : l < s.heap.objs.size := Heap.lt_size ol
        have calm3 : A.in1.in1.in1.handled = none := by (simp [calm])
        have ne1 : l ≠ (s.heap.push { cls := .type "set", dict := none, data := .set #[] 0 (.fresh 0 0 b) }).objs.size := by
          rw [Heap.size_push]
          exact Nat.ne_of_lt (Nat.lt_succ_of_lt ll)
        have nin : s.heap.objs.size ∉ [(s.heap.push { cls := .type "set", dict := none, data := .set #[] 0 (.fresh 0 0 b) }).objs.size, l] := by
          rw [Heap.size_push]
          intro z
          rcases List.mem_cons.mp z with y | y
          · exact absurd y (Nat.ne_of_lt (Nat.lt_succ_self _))
          · exact absurd (List.mem_singleton.mp y) (Nat.ne_of_gt ll)
        have lx : xs.length = its.size := by rw [← StrsAre.len_eq are, Array.length_toList]
        have isT : ∀ (j : Nat) (v : Value), its[j]? = some v → ∃ t, v = .str (xs.getD j Str.empty) t := fun j v gv => SS.strs_at are j v (by rw [Array.getElem?_toList]; exact (gv))
        refine enter_texts ((Walks.list calm3 _ l ne1 its).toS) s.heap.objs.size nin xs lx (by rw [← lx]; exact room) isT (its.size - 0) 0 _ (by omega) (Nat.zero_le _) ⟨⟨_, Heap.get?_push_size _ rfl, rfl, rfl⟩, (il.push _)⟩ ?start ?stop
        case start =>
          have g0 : ((s.heap.push { cls := .type "set", dict := none, data := .set #[] 0 (.fresh 0 0 b) }).push { cls := .type "list_iterator", data := .fields #[.ref l, .int 0 0] }).get? s.heap.objs.size = some { cls := .type "set", dict := none, data := .set #[] 0 (.fresh 0 0 b) } := Heap.get?_push_of_some _ (gS)
          exact PyProof.Rows.SetOf_congr ((PyProof.Rows.setObjOf_fresh (knd := PySem.strKind prog w) b).setOf g0 (by unfold scanBound; omega)) (fun _ => by rw [List.take_zero]; rfl) (by rw [List.take_zero]; rfl)
        case stop =>
          intro u mv held
          obtain ⟨h2, g2, d2, t2, o2⟩ := u
          obtain rfl : g2 = s.gens := mv.gens
          obtain rfl : d2 = s.drawn := mv.drawn
          obtain rfl : o2 = s.os := mv.os
          rw [← lx, List.take_length] at held
          show wpAny _ _ _ _ _ _
          refine wpAny_pure ?_
          show wpAny _ _ (ret Value.none) _ _ _
          refine wpAny_pure ⟨rfl, h2, t2, rfl, held, fun a ob la e => ?_⟩
          refine mv.heap a ob (fun z => ?_) (Heap.get?_push_of_some _ (Heap.get?_push_of_some _ (e)))
          rw [Heap.size_push] at z
          rcases List.mem_cons.mp z with y | y
          · exact absurd y (Nat.ne_of_lt la)
          · exact absurd (List.mem_singleton.mp y) (Nat.ne_of_lt (Nat.lt_succ_of_lt la))
      · cases r2 with
        | error e => exact ru2
        | ok f2 =>
          cases f2 with
          | ret o =>
            obtain ⟨rfl, h2, t2, rfl, held, more⟩ := ru2
            repeat (any_goals (first | assumption | (wp_step)))
            exact q _ _ held (more)
          | _ => exact (ru2.elim)
    | _ => exact (ru.elim)
end
/-- len(set(xs)), xs a list of texts -/
def tLenSetT (K : PySem.W.Frag) (ta : TE) : TE := fun σ H Q => ta σ H fun x H1 => ∃ l, ∃ xs : List Str, x = .ref l ∧ SqL K H1 l (xs.map V.str) ∧ xs.length ≤ 1000 ∧ Q (.int (uS xs).length) H1
theorem pe_lenSetT {X : Cx} {a : Expr} {ta : TE} {p p2 q pos : Pos} (hc : X.calm = true) (hg : Gl X "len") (hm : X.mg "len" = none) (hg2 : Gl X "set") (hm2 : X.mg "set" = none) (ha : PE X a ta)
    (na : starEach [a] X.env = (false, eval a X.env) :: starEach [] X.env := by rfl) : PE X (.Call (.Name "len" p) [.Call (.Name "set" p2) [a] [] q] [] pos) (tLenSetT X.K ta) := by
  refine ⟨fun pins s σ H Q I g => Call_ (ld_blt I hg hm boot_len (PyProof.Rows.callWith_builtin1 (PyProof.Rows.args_cons ?_ rfl) rfl rfl))⟩
  refine Call_ (ld_blt I hg2 hm2 boot_set (PyProof.Rows.callWith_type1 (PyProof.Rows.args_cons (thn (ha.run pins s σ H _ I g) fun v s1 ⟨x, H1, I1, r1, q1⟩ => PyProof.Rows.args_nil ?_) na) na rfl))
  obtain ⟨l, xs, rfl, gl, few, q1⟩ := q1
  cases r1
  obtain ⟨its, r, pl, _⟩ := I1.list gl
  refine made_of_texts (I1.ok.hd hc) pl.isList (by simpa using L2.strsAre_of r) (by unfold scanBound; omega) fun h2 tk held more => PyProof.Rows.args_nil ?_
  obtain ⟨ob, es, ep, tb, g1, g2, g3, _, _, _, g4, g5⟩ := held
  have I2 : Inv X pins σ H1 { s1 with heap := h2, toks := tk } := I1.kept fun b o e => more b o (Heap.lt_size e) e
  have small := uS_le xs
  exact call_len_set g1 g2 g3 g4 (by rw [g5]; omega) ⟨.int (uS xs).length, H1, I2.tok _, ⟨_, by rw [g5]⟩, q1⟩

end TSN
namespace TP
open PySem PySem.Spec PyProof.Rows L2
theorem uZ_str (ns : List Str) : TSN.uS ns = uZ ns := fold_ext (fun l v => by
  unfold TSN.addS addZ
  rw [any_mem]
  by_cases h : v ∈ l
  · rw [if_pos (decide_eq_true h), if_pos h]
  · rw [if_neg (fun z => h (of_decide_eq_true z)), if_neg h]) ns []
section
variable {μ : Type} {M : Mu μ} {σ : L2.St} {Z H : Hp} {s s1 : μ} {ta : TE} {K : PySem.W.Frag}
theorem All.strs {Z : Hp} : ∀ {vs : List V} {xs : List Str}, All (yStr.r Z) vs xs → vs = xs.map V.str
  | _, _, .nil => rfl
  | _, _, .cons h t => by rw [h.1, t.strs]; rfl
theorem ev_lenSetT {xs : List Str} (ha : Ev M ta σ Z H s (li yStr xs) s1) (l : xs.length ≤ 1000) : Ev M (TSN.tLenSetT K ta) σ Z H s (ty yInt ((uZ xs).length : Nat)) s1 :=
  fun Z1 H1 a b c d Q q => ha Z1 H1 a b c d _ fun v Z2 H2 e m rv => by
    obtain ⟨p, vs, rfl, g, t, _⟩ := rdl e.s rv
    rw [t.strs] at g
    exact ⟨p, xs, rfl, SqL.of g, l, q _ Z2 H2 e m (by rw [uZ_str]; rfl)⟩
end
end TP

namespace SLam
open PySem PySem.Spec PyProof.Rows L2 PySem.W LamX NdefX
/-! ### sorted(xs, key=lambda x: ..) -/
/-- keys: numbers, texts, flags, and tuples of them -/
def Sc : V → PyData → Prop
  | .int i, d => d = .int i
  | .str x, d => d = .str x
  | .bl b, d => d = .bool b
  | _, _ => False
inductive ScAll : List V → List PyData → Prop
  | nil : ScAll [] []
  | cons {v : V} {vs : List V} {d : PyData} {ds : List PyData} : Sc v d → ScAll vs ds → ScAll (v :: vs) (d :: ds)
def DpT (K : PySem.W.Frag) (H : Hp) (v : V) (d : PyData) : Prop := Sc v d ∨ ∃ a xs ds, v = .ref a ∧ d = .tuple ds ∧ SqT K H a xs ∧ ScAll xs ds
theorem Sc.dp {K : PySem.W.Frag} {H : Hp} : ∀ {v : V} {d : PyData}, Sc v d → Dp K H v d
  | .int _, _, h => by cases h; exact .int _
  | .str _, _, h => by cases h; exact .str _
  | .bl _, _, h => by cases h; exact .bl _
theorem ScAll.dp {K : PySem.W.Frag} {H : Hp} : ∀ {vs : List V} {ds : List PyData}, ScAll vs ds → DpAll K H vs ds
  | _, _, .nil => .nil
  | _, _, .cons h t => .cons h.dp t.dp
theorem DpT.dp {K : PySem.W.Frag} {H : Hp} {v : V} {d : PyData} (h : DpT K H v d) : Dp K H v d := by
  rcases h with h | ⟨a, xs, ds, rfl, rfl, s, t⟩
  · exact h.dp
  · exact .tup s t.dp
theorem DpT.mono {K : PySem.W.Frag} {H H' : Hp} (t : ∀ b xs, H b = some (.tup xs) → H' b = some (.tup xs)) (f : ∀ b o u, H b = some (.frz o u) → H' b = some (.frz o u)) {v : V} {d : PyData} (h : DpT K H v d) : DpT K H' v d := by
  rcases h with h | ⟨a, xs, ds, rfl, rfl, s, c⟩
  · exact .inl h
  · refine .inr ⟨a, xs, ds, rfl, rfl, ?_, c⟩
    rcases s with (s | ⟨o, s⟩) | s
    · exact .inl (.inl (t _ _ s))
    · exact .inl (.inr ⟨o, f _ _ _ s⟩)
    · exact .inr s
/-- the object at f is the lambda F with the body -/
def LamAt (h : Heap) (f : Addr) (F : NF) (body : Expr) : Prop := ∃ pm ctv, h.get? f = some (kla_obj "<lambda>" F.qual F.params body F.scope F.cl pm F.c ctv)
section
variable {CX : CXT} {P : Program} {w : World} {K : PySem.W.Frag} {mg : Str → Option Value} {base : Heap} {N ps fr : List Str} {F : NF} {f : Addr} {A : Around} {outer : List Env} {s : Shared} {H : Hp} {E : XK} {us : List Value} {vs : List V} {ws : List (Option V)} {body : Expr} {tb : TE} {Q : VK} {k : Nat}
theorem lam_call (S : NScope N ps fr F.scope) (hr : Room (k + 1) A) (e0 : Env0 P w K mg base A outer s H) (ho : LamAt s.heap f F body) (hc : H F.c = some (CodeO F.c F.qual)) (C : CellsAt F.cl fr ws s.heap H)
    (hb : ∀ (pm ctv : Value) (us : List Value), us.length = ps.length → bindArgs (kla_fn "<lambda>" F.qual F.params body F.scope F.cl pm (.ref F.c) ctv) ⟨us, []⟩ = pure (ps.zip us)) (r : Vals vs us) (hl : vs.length = ps.length)
    (hbody : PE (ncx CX P w K mg base N F f A outer s H E) body tb) (hq : tb (startF N vs ws) H Q) : codeAny (model P w) A (.call (.ref f) ⟨us, []⟩) (CR CX outer P w H s Q E) s := by
  have lim : s.heap.NoLimit := e0.mod.nolimit.keeps fun b o e => (e0.bs b o e).1
  obtain ⟨pm, ctv, ho⟩ := ho
  refine kla_callFunE hr.depth ho rfl S.co S.gen rfl (codeO_at e0.hok hc) ?_
  rw [hb pm ctv us (by rw [← r.length]; exact hl)]
  refine wpAny_pure (wpAny_newFunctionEnv S.nocell (fun ⟨n, _⟩ hy => S.par n (List.of_mem_zip hy).1) (fun h₁ hns hsb => ⟨lim.fresh _ hsb, ?_⟩) S.kind)
  show codeAny _ _ (.expr body (envF F f s.heap.objs.size)) _ _
  have kp : ∀ b o, s.heap.get? b = some o → h₁.get? b = some o := fun b o e => hsb.extBut b o (Nat.ne_of_lt (Heap.lt_size e)) (Heap.get?_push_of_some _ e)
  have I : Inv (ncx CX P w K mg base N F f A outer s H E) [] (startF N vs ws) H { s with heap := h₁, toks := s.toks + (ps.zip us).length } := inv_startN S hr.hd e0 hl r C hns kp
  refine kla_codeExpr (wpAny_mono (hbody.run [] _ (startF N vs ws) H Q I hq) (fun u s' hs => ?_) fun e s' hs => hs)
  obtain ⟨v', H', J, rv, q⟩ := hs
  exact ⟨v', H', J.os, J.bare, J.base, J.hok, rv, q⟩
end
/-- the outcome: sorted by the keys, ties as they come -/
def sortV {α : Type} (xs : List α) (ks : List PyData) : List α := ((xs.zip ks).mergeSort (dataLe false (·.2))).map (·.1)
section
variable {X : Cx} {pins : List (Addr × Obj)} {σ : L2.St} {H H' : Hp} {s : Shared}
/-- records of ours, that are not tracked, are changed -/
theorem inv_changed {h' : Heap} {t' : Nat} (I : Inv X pins σ H s) (ch : List Addr) (k : ∀ b o, b ∉ ch → s.heap.get? b = some o → h'.get? b = some o) (hn : ∀ b ∈ ch, H b = none)
    (hch : ∀ b ∈ ch, (b ∈ X.ex ∨ X.s_0.heap.objs.size ≤ b) ∧ b ≠ X.env.locals ∧ (∀ x c, X.env.cells.lookup x = some c → c ≠ b) ∧ ∀ p ∈ X.pn ++ pins, p.1 ≠ b) : Inv X pins σ H { s with heap := h', toks := t' } := by
  have nit : ∀ b u, H b = some u → b ∉ ch := fun b u e z => by rw [hn b z] at e; cases e
  have nL : X.env.locals ∉ ch := fun z => (hch _ z).2.1 rfl
  refine I.step (g' := s.gens) (d' := s.drawn) (ch := ch) hch (fun b o _ _ hc e _ => k b o hc e) (fun b o _ _ hc e _ => ⟨o.slots, k b o hc e⟩) (fun _ _ _ _ n => n)
    (fun b o hc e => ⟨o, k b o hc e⟩) (fun _ _ e => e) (fun _ _ _ e => e) (fun b ps e => ⟨#[], by rw [e]; simp⟩) (fun m hm => ?_) (fun b u e => ?_) I.bare
  · obtain ⟨o, es, ep, ho, r⟩ := hm
    exact ⟨o, es, ep, k _ o nL ho, r⟩
  · refine (I.hok b u e).stay (fun c v hc q => k c v ?_ q) (fun _ q => q) fun _ _ q => q
    rcases hc with z | z
    · rw [z]; exact nit b u e
    · exact nit c _ z
/-- a list of ours is known from now on -/
theorem inv_track {a : Addr} {its : List Value} {n : Nat} {vs : List V} (I : Inv X pins σ H s) (hn : H a = none) (ho : s.heap.get? a = some (seqObj "list" its.toArray n)) (r : Vals vs its) (hz : vs.length ≤ sizeLine)
    (hch : (a ∈ X.ex ∨ X.s_0.heap.objs.size ≤ a) ∧ a ≠ X.env.locals ∧ (∀ x c, X.env.cells.lookup x = some c → c ≠ a) ∧ ∀ p ∈ X.pn ++ pins, p.1 ≠ a) : Inv X pins σ (upd H a (.lst vs)) s := by
  refine I.step (h' := s.heap) (t' := s.toks) (g' := s.gens) (d' := s.drawn) (ch := [a]) (fun b hb => by rw [List.mem_singleton.mp hb]; exact hch) (fun b o _ _ hc e _ => e) (fun b o _ _ hc e _ => ⟨o.slots, e⟩) (fun b o hc e n => by rw [upd_ne (fun z => hc (by rw [z]; exact List.mem_singleton_self _))]; exact n)
    (fun b o hc e => ⟨o, e⟩) (fun b xs e => by rw [upd_ne (ne_of_none e hn)]; exact e) (fun b o u e => by rw [upd_ne (ne_of_none e hn)]; exact e) (fun b ps e => ⟨#[], by rw [upd_ne (ne_of_none e hn), e]; simp⟩) (fun m hm => hm) (fun b u e => ?_) I.bare
  by_cases hb : b = a
  · subst hb
    rw [upd_same] at e
    cases e
    exact ⟨hz, its, n, r, ho⟩
  · rw [upd_ne hb] at e
    exact (I.hok b u e).stay (fun c v hc q => q) (fun c q => by rw [upd_ne (ne_of_none q hn)]; exact q) fun c xs q => by rw [upd_ne (ne_of_none q hn)]; exact q
theorem each_vals : ∀ {xs : List V} {us : List Value} {ks : List PyData}, Vals xs us → ks.length = xs.length → EachIs (fun (u : Value) (b : V × PyData) => RelV b.1 u) us (xs.zip ks)
  | _, _, _, .nil, _ => by simpa using EachIs.nil
  | _, _, [], .cons _ _, h => by simp at h
  | _, _, _ :: _, .cons r t, h => .cons r (each_vals t (by simpa using h))
theorem vals_each : ∀ {us : List Value} {bs : List (V × PyData)}, EachIs (fun (u : Value) (b : V × PyData) => RelV b.1 u) us bs → Vals (bs.map (·.1)) us
  | _, _, .nil => .nil
  | _, _, .cons r t => .cons r (vals_each t)
theorem zip_snd : ∀ {α β : Type} {xs : List α} {ks : List β}, ks.length = xs.length → (xs.zip ks).map (·.2) = ks
  | _, _, [], [], _ => rfl
  | _, _, [], _ :: _, h => by simp at h
  | _, _, _ :: _, [], h => by simp at h
  | _, _, _ :: xs, _ :: ks, h => by
    rw [List.zip_cons_cons, List.map_cons, zip_snd (by simpa using h)]
/-- the keys that were told so far -/
def KeysAre (K : PySem.W.Frag) (H : Hp) : List Value → List PyData → Prop := EachIs fun u d => ∃ v, RelV v u ∧ DpT K H v d
theorem KeysAre.mono {K : PySem.W.Frag} {us : List Value} {ds : List PyData} (h : KeysAre K H us ds) (t : ∀ b xs, H b = some (.tup xs) → H' b = some (.tup xs)) (f : ∀ b o u, H b = some (.frz o u) → H' b = some (.frz o u)) : KeysAre K H' us ds :=
  EachIs.mono (fun _ _ ⟨v, r, d⟩ => ⟨v, r, d.mono t f⟩) h
end
end SLam
namespace SLam
open PySem PySem.Spec PyProof.Rows L2 PySem.W LamX NdefX
section
variable {X : Cx} {pins : List (Addr × Obj)} {σ : L2.St} {H H' : Hp} {s : Shared} {F : NF} {f a kS : Addr} {body : Expr} {N ps fr : List Str} {js : List Nat} {tb : TE} {k : Nat} {J : Hp → Prop} {xs : List V} {us : List Value} {ks : List PyData}
/-- an address that is free -/
theorem fresh_ok (I : Inv X pins σ H s) {b : Addr} (h : s.heap.objs.size ≤ b) : ((b ∈ X.ex ∨ X.s_0.heap.objs.size ≤ b) ∧ b ≠ X.env.locals ∧ (∀ x c, X.env.cells.lookup x = some c → c ≠ b) ∧ ∀ p ∈ X.pn ++ pins, p.1 ≠ b) ∧ b ∉ frs X.stack := by
  have lt : ∀ {c : Addr} {o : Obj}, s.heap.get? c = some o → c ≠ b := fun {c o} e z => by
    rw [z] at e
    exact Nat.lt_irrefl _ (Nat.lt_of_lt_of_le (Heap.lt_size e) h)
  have nl : b ≠ X.env.locals := fun z => by
    have := I.lt
    rw [← z] at this
    exact Nat.lt_irrefl _ (Nat.lt_of_lt_of_le this h)
  refine ⟨⟨.inr (Nat.le_trans I.sz h), nl, fun x c e z => ?_, fun p hp => lt (I.pin p hp).1⟩, fun z => ?_⟩
  · obtain ⟨v, o, ho, _⟩ := I.cell x c e
    exact lt ho z
  · rcases List.mem_cons.mp (I.stkSub _ z) with e | e
    · exact nl e
    · exact I.nofs h e
/-- one key is asked for -/
theorem lam_turn (I : Inv X pins σ H s) (cap : X.Ok → Caps X F.cl fr js) (S : NScope N ps fr F.scope) (hps : ps.length = 1) (hr : Room (k + 1) X.A.in1.in1) (ho : LamAt s.heap f F body) (hc : H F.c = some (CodeO F.c F.qual))
    (hb : ∀ (pm ctv : Value) (us : List Value), us.length = ps.length → bindArgs (kla_fn "<lambda>" F.qual F.params body F.scope F.cl pm (.ref F.c) ctv) ⟨us, []⟩ = pure (ps.zip us))
    (hbody : PE (ncx L2.CX0 X.prog X.w X.K X.mg X.base N F f X.A.in1.in1 X.stack s H L2.E0) body tb) {x : V} {u : Value} (r : RelV x u) {Q : VK} (hq : tb (startF N [x] (js.map (slotAt σ))) H Q) :
    wpAny (model X.prog X.w) X.A.in1.in1 (call (.ref f) [u]) (fun y s2 => ∃ v H2, Inv X pins σ H2 s2 ∧ RelV v y ∧ Q v H2 ∧ Un (frs X.stack) [] H H2 s.heap s2.heap) (fun _ _ => False) s := by
  refine wpAny_call (codeAny_mono (lam_call S hr I.env0.in1.in1 ho hc (cells_of I (cap I.ok)) hb (.cons r .nil) (by rw [hps]; rfl) hbody hq) fun y s' h => ?_)
  cases y with
  | error e => exact (show False from h).elim
  | ok fl =>
    cases fl with
    | ret u2 =>
      obtain ⟨v, H2, os, bare, un, hok, rv, q⟩ := h
      obtain ⟨hh, g, d, t, os'⟩ := s'
      obtain rfl : os' = s.os := os
      exact ⟨v, H2, I.call (h' := hh) (g' := g) (d' := d) (t' := t) (ch := []) un hok bare (fun b z => absurd z (by simp)), rv, q, un⟩
    | next => exact False.elim h
    | brk => exact False.elim h
    | cont => exact False.elim h
/-- the keys, then the sorting -/
theorem sortL_rest {e1 : Nat} {P : PySem.Fin → Shared → Prop} {E : Value → Shared → Prop} (I0 : Inv X pins σ H s) (j0 : J H) (rv : Vals xs us) (hlen : ks.length = us.length) (hZ : us.length ≤ sizeLine) (hal : AllAlike ks) (hsk : Sortable ks) (hu : ∀ d, d ∈ ks → X.A.in1.in1.units + d.depth < cLine)
    (oa : ((a ∈ X.ex ∨ X.s_0.heap.objs.size ≤ a) ∧ a ≠ X.env.locals ∧ (∀ x c, X.env.cells.lookup x = some c → c ≠ a) ∧ ∀ p ∈ X.pn ++ pins, p.1 ≠ a) ∧ a ∉ frs X.stack)
    (ok : ((kS ∈ X.ex ∨ X.s_0.heap.objs.size ≤ kS) ∧ kS ≠ X.env.locals ∧ (∀ x c, X.env.cells.lookup x = some c → c ≠ kS) ∧ ∀ p ∈ X.pn ++ pins, p.1 ≠ kS) ∧ kS ∉ frs X.stack)
    (nk : s.heap.get? kS = some (seqObj "list" #[] 0)) (na : s.heap.get? a = some (seqObj "list" #[] e1)) (hka : kS ≠ a) (hna : H a = none) (hnk : H kS = none) (hf : LamAt s.heap f F body) (hfn : H f = none) (hfr : f ∉ frs X.stack) (hfa : f ≠ a) (hfk : f ≠ kS)
    (turn : ∀ (i : Nat) (x : V) (u : Value) (d : PyData), xs[i]? = some x → RelV x u → ks[i]? = some d → ∀ (H1 : Hp) (s1 : Shared), Inv X pins σ H1 s1 → J H1 → LamAt s1.heap f F body →
      wpAny (model X.prog X.w) X.A.in1.in1 (call (.ref f) [u]) (fun y s2 => ∃ v H2, Inv X pins σ H2 s2 ∧ RelV v y ∧ (J H2 ∧ DpT X.K H2 v d) ∧ Un (frs X.stack) [] H1 H2 s1.heap s2.heap) (fun _ _ => False) s1)
    (fin : ∀ H' s', J H' → H' a = none → Inv X pins σ (upd H' a (.lst (sortV xs ks))) s' → P (.done (.ret .none)) s') :
    wpAny (model X.prog X.w) X.A.in1.in1 (ksk_rest a (.ref f) false us.toArray e1 (.ref kS)) P E s := by
  unfold ksk_rest
  refine wpAny_bind (wpAny_rule ?_)
  first
    | rw [List.forIn_toArray]
    | (rw [← Array.forIn_toList]; simp only [List.toList_toArray])
    | rw [← Array.forIn_toList]
  refine wpAny_bind (ksk_fold (fun i s' => ∃ H' kA e, Inv X pins σ H' s' ∧ J H' ∧ H' a = none ∧ H' kS = none ∧ H' f = none ∧ LamAt s'.heap f F body ∧ s'.heap.get? kS = some (seqObj "list" kA e) ∧ s'.heap.get? a = some (seqObj "list" #[] e1) ∧ KeysAre X.K H' kA.toList (ks.take i)) us 0 s
    ⟨H, #[], 0, I0, j0, hna, hnk, hfn, hf, nk, na, by rw [List.take_zero]; exact EachIs.nil⟩ ?step ?done)
  case step =>
    rintro j x s' hx ⟨H', kA, e, I', j', na', nkH, nf', hf', nk', naO, hk⟩
    simp only [Nat.zero_add] at hk ⊢
    have hj : j < us.length := (List.getElem?_eq_some_iff.mp hx).1
    obtain ⟨d, hkj⟩ : ∃ d, ks[j]? = some d := ⟨_, List.getElem?_eq_getElem (by omega)⟩
    obtain ⟨v0, hv0⟩ : ∃ v0, xs[j]? = some v0 := ⟨_, List.getElem?_eq_getElem (by rw [rv.length]; exact hj)⟩
    obtain ⟨u', hu', r0⟩ := rv.get hv0
    rw [hx] at hu'
    cases hu'
    have hz : kA.size ≤ us.length := by
      have h1 := EachIs.length hk
      rw [Array.length_toList, List.length_take] at h1
      omega
    refine wpAny_bind (wpAny_attempt (wpAny_mono (turn j v0 x d hv0 r0 hkj H' s' I' j' hf') (fun y s'' he => ?_) fun _ _ hF => hF.elim))
    obtain ⟨v, H2, I2, ry, ⟨j2, dk⟩, un⟩ := he
    try dsimp only
    have kS2 : s''.heap.get? kS = some (seqObj "list" kA e) := un.keep kS _ nk' nkH ok.2 (by simp)
    have a2 : s''.heap.get? a = some (seqObj "list" #[] e1) := un.keep a _ naO na' oa.2 (by simp)
    have hnk2 : H2 kS = none := un.free kS _ nk' nkH (by simp)
    have hna2 : H2 a = none := un.free a _ naO na' (by simp)
    obtain ⟨pm, ctv, hfo⟩ := hf'
    have hnf2 : H2 f = none := un.free f _ hfo nf' (by simp)
    have hf2 : s''.heap.get? f = _ := un.keep f _ hfo nf' hfr (by simp)
    obtain ⟨hp2, g2, d2, t2, o2⟩ := s''
    have s1 := Heap.SameBut.update hp2 kS (Obj.mapSeq (·.push y))
    obtain ⟨c2, hc2⟩ : ∃ c2, (hp2.update kS (Obj.mapSeq (·.push y))).get? kS = some (seqObj "list" (kA.push y) c2) := ⟨_, get?_update_seq kS2 (·.push y)⟩
    refine wpAny_bind (listUpdate_at kS2 rfl ?_ (Nat.le_trans hz hZ) (Nat.le_trans (Nat.le_of_eq (Array.size_push ..)) (Nat.succ_le_succ (Nat.le_trans hz hZ))))
    have I3 : Inv X pins σ H2 { (⟨hp2, g2, d2, t2, o2⟩ : Shared) with heap := hp2.update kS (Obj.mapSeq (·.push y)), toks := t2 } := inv_changed I2 [kS] (fun b o hb q => (s1.2 b (fun z => hb (by rw [z]; exact List.mem_singleton_self _))).trans q) (fun b hb => by rw [List.mem_singleton.mp hb]; exact hnk2) (fun b hb => by rw [List.mem_singleton.mp hb]; exact ok.1)
    refine wpAny_pure ⟨rfl, H2, kA.push y, c2, I3, j2, hna2, hnk2, hnf2, ⟨pm, ctv, (s1.2 f hfk).trans hf2⟩, hc2, (s1.2 a hka.symm).trans a2, ?_⟩
    have ek : ks.take (j + 1) = ks.take j ++ [d] := by rw [List.take_add_one, hkj]; simp
    have ea : (kA.push y).toList = kA.toList ++ [y] := by simp
    rw [ea, ek]
    exact each_snoc (R := fun u d => ∃ v, RelV v u ∧ DpT X.K H2 v d) ⟨v, ry, dk⟩ (hk.mono un.tups un.frzs)
  case done =>
    rintro s' ⟨H', kA, e, I', j', na', nkH, nf', hf', nk', naO, hk⟩
    have hk' : EachIs (fun v k => ∃ as, Reads s'.heap v k as) kA.toList ks := by
      have e3 : ks.take (0 + us.length) = ks := List.take_of_length_le (by omega)
      rw [e3] at hk
      exact EachIs.mono (fun u d ⟨v, r, q⟩ => q.dp.reads I' d v u r) hk
    have hsz : kA.size = us.length := by
      have h1 := EachIs.length hk'
      rw [Array.length_toList] at h1
      omega
    try dsimp only
    refine wpAny_bind (listItems_at nk' rfl ?_)
    obtain ⟨G, g1, g2⟩ := restrict s'.heap fun b => decide (b ≠ kS)
    have gk : ∀ b, b ≠ kS → G.get? b = s'.heap.get? b := fun b hb => g1 b (decide_eq_true hb)
    have ge : G.get? kS = none := g2 kS (by simp)
    have kp : KeepsBut a G s'.heap := fun b o hb q => by
      by_cases z : b = kS
      · rw [z, ge] at q; cases q
      · rw [← gk b z]; exact q
    obtain ⟨hp, gn, dr, tk0, os⟩ := s'
    refine keyH_end (κ := dataKind hp ks) (h₁ := G) kp ge nk' naO hka (SortsAt.data (s := ⟨hp, gn, dr, tk0, os⟩) hk' hal hsk hu) hsz hZ fun h3 tk3 c k3 n3 => ?_
    have ko : KeyedOut false ks us (sortVals (dataKind hp ks) false kA.toList us) := ⟨hp, kA.toList, hal, rfl, hk'⟩
    have hl2 : ks.length = xs.length := by rw [rv.length]; exact hlen
    have eo := keyedOut_each (bs := xs.zip ks) (·.2) (by rw [zip_snd hl2]; exact ko) (each_vals rv hl2)
    have vo : Vals (sortV xs ks) (sortVals (dataKind hp ks) false kA.toList us) := vals_each eo
    have I3 : Inv X pins σ H' ⟨h3, gn, dr, tk3, os⟩ := inv_changed (s := ⟨hp, gn, dr, tk0, os⟩) (h' := h3) (t' := tk3) I' [a, kS] (fun b o hb q => k3 b o (fun z => hb (by rw [z]; simp)) (by rw [gk b (fun z => hb (by rw [z]; simp))]; exact q)) (fun b hb => by
      rcases List.mem_cons.mp hb with z | z
      · rw [z]; exact na'
      · rw [List.mem_singleton.mp z]; exact nkH) (fun b hb => by
      rcases List.mem_cons.mp hb with z | z
      · rw [z]; exact oa.1
      · rw [List.mem_singleton.mp z]; exact ok.1)
    have lz : (sortV xs ks).length ≤ sizeLine := by
      rw [vo.length, ko.length (by omega)]
      exact hZ
    exact fin H' _ j' na' (inv_track I3 na' n3 vo lz oa.1)
end
end SLam
namespace SLam
open PySem PySem.Spec PyProof.Rows L2 PySem.W LamX NdefX
/-- the table at P, with a code object at c' of the name q more, or as it was -/
def Grown (P c' : Addr) (q : Str) (H H1 : Hp) : Prop :=
  TabS H1 P q ∧ ((H1 = H ∧ ∃ pos ps, H P = some (.tbl ps) ∧ codeAmong pos ps.toList = some (.ref c')) ∨
    (H c' = none ∧ c' ≠ P ∧ ∃ ps more, H P = some (.tbl ps) ∧ (∀ pos cv, codeAmong pos (ps ++ more).toList = some cv → codeAmong pos ps.toList = some cv ∨ cv = .ref c') ∧ H1 = upd (upd H P (.tbl (ps ++ more))) c' (CodeO c' q)))
section
variable {X : Cx} {pins : List (Addr × Obj)} {σ : L2.St} {H : Hp} {s : Shared}
/-- the lambda is made, and all that changes is told -/
theorem lam_new {c P : Addr} {q : Str} {params : Arguments} {body : Expr} {scope : Scope} {pos : Pos} {E : Value → Shared → Prop} {Q : Value → Shared → Prop} (I : Inv X pins σ H s) (TB : TabB X.base X.mg c P) (hcode : X.env.code = .ref c) (hq : X.env.qual ++ "<lambda>" = q)
    (hT : TabS H P q) (hdef : defaultsOf params X.env = ([], [])) (hfree : ∀ y ∈ scope.names, y.2 = .free → ∃ c, X.env.cells.lookup y.1 = some c)
    (h : ∀ (f c' : Addr) (H1 : Hp) (s' : Shared), Inv X pins σ H1 s' → Grown P c' q H H1 → LamAt s'.heap f ⟨"<lambda>", q, params, [], scope, cloFrom X.env.cells scope.names [], c'⟩ body → H1 f = none → f ∉ frs X.stack → Q (.ref f) s') :
    wpAny (model X.prog X.w) X.A (eval (.Lambda params body scope pos) X.env) Q E s := by
  subst hq
  obtain ⟨ps, hP, ht, ha⟩ := id hT
  have bP : s.heap.BuiltinsAt X.mg P := TB.bm.keeps I.bk
  have oP : s.heap.get? P = some { cls := .none, data := .fields ps } := I.hok P _ hP
  have gg := I.mod.glob.keeps I.bk
  have cc := TB.code.keeps I.bk
  refine kla_eval hdef ?_
  cases hc : codeAmong pos ps.toList with
  | some cv =>
    obtain ⟨c', rfl, hco⟩ := ha pos cv hc
    refine kla_makeFunctionHit (mg := X.mg) (c := c) (P := P) (ps := ps) (closure_ok hfree) I.ok.glob gg hcode cc oP ht hc bP fun ctv h' tk hx hsz => ?_
    refine h h'.objs.size c' H _ (I.kept fun b o e => Heap.get?_push_of_some _ (hx b o e)) ⟨hT, .inl ⟨rfl, pos, ps, hP, hc⟩⟩ ⟨_, ctv, Heap.get?_push_size _ rfl⟩ (I.hok.fresh hsz) (fresh_ok I hsz).2
  | none =>
    refine kla_makeFunction (mg := X.mg) (c := c) (P := P) (ps := ps) (closure_ok hfree) I.ok.glob gg hcode cc oP ht hc TB.gP bP fun c' ctv h' tk hx hge hlt hrec htb => ?_
    obtain ⟨_, oc, vs, t, e2, hoc, hd, hv⟩ := hrec
    cases e2
    have nC : H c' = none := I.hok.fresh hge
    have nPc : c' ≠ P := fun z => by rw [z, hP] at nC; cases nC
    have hsz : s.heap.objs.size ≤ h'.objs.size := Nat.le_trans hge (Nat.le_of_lt hlt)
    have I1 := inv_table (t' := tk) (q := X.env.qual ++ "<lambda>") (more := #[rawInt pos.line, rawInt pos.col, .ref c']) (h' := h'.push (kla_obj "<lambda>" (X.env.qual ++ "<lambda>") params body scope (cloFrom X.env.cells scope.names []) ((X.mg "__name__").getD .none) c' ctv)) I hP
      (fun b o hb e => Heap.get?_push_of_some _ (hx b o hb e)) (Heap.get?_push_of_some _ htb) hge ⟨oc, vs, t, Heap.get?_push_of_some _ hoc, hd, hv⟩
    have n1 : h'.objs.size ≠ c' := Nat.ne_of_gt hlt
    have n2 : h'.objs.size ≠ P := fun z => Nat.lt_irrefl _ (Nat.lt_of_lt_of_le (Heap.lt_size oP) (Nat.le_trans hsz (Nat.le_of_eq z)))
    have ls : (ps ++ #[rawInt pos.line, rawInt pos.col, Value.ref c']).toList = ps.toList ++ [rawInt pos.line, rawInt pos.col, Value.ref c'] := by simp
    refine h h'.objs.size c' _ _ I1 ⟨?_, .inr ⟨nC, nPc, ps, _, hP, fun p' cv hcv => ?_, rfl⟩⟩ ⟨_, ctv, Heap.get?_push_size _ rfl⟩ (by rw [upd_ne n1, upd_ne n2]; exact I.hok.fresh hsz) (fresh_ok I hsz).2
    rotate_left
    · rw [ls] at hcv
      exact among_app _ ht hcv
    refine ⟨ps ++ #[rawInt pos.line, rawInt pos.col, .ref c'], by rw [upd_ne (Ne.symm nPc), upd_same], ?_, fun p' cv hcv => ?_⟩
    · rw [ls]
      exact PySem.TriplesOk_snoc _ _ _ _ ht
    · rw [ls] at hcv
      rcases among_app _ ht hcv with z | z
      · obtain ⟨c0, e1, e2⟩ := ha p' cv z
        refine ⟨c0, e1, ?_⟩
        rw [upd_ne (ne_of_none e2 nC), upd_ne (fun y => by rw [y, hP] at e2; exact codeO_ne _ (Option.some.inj e2).symm)]
        exact e2
      · exact ⟨c', z, upd_same⟩
end
def tSortR (K : PySem.W.Frag) (P : Addr) (q : Str) (N : List Str) (js : List Nat) (tb : TE) (σ : L2.St) (Q : VK) (v : V) (H1 : Hp) : Prop := ∃ (l : Addr) (xs : List V), v = .ref l ∧ SqL K H1 l xs ∧ xs.length ≤ 1000 ∧ TabS H1 P q ∧
  ∀ c' H2, Grown P c' q H1 H2 → ∃ (ks : List PyData) (J : Hp → Prop), ks.length = xs.length ∧ AllAlike ks ∧ Sortable ks ∧ (∀ d ∈ ks, d.depth ≤ 8) ∧ J H2 ∧ (∀ H', J H' → H' c' = some (CodeO c' q)) ∧
    (∀ (i : Nat) (x : V) (d : PyData), xs[i]? = some x → ks[i]? = some d → ∀ H', J H' → tb (startF N [x] (js.map (slotAt σ))) H' (fun v H'' => J H'' ∧ DpT K H'' v d)) ∧ ∀ H' r, J H' → H' r = none → Q (.ref r) (upd H' r (.lst (sortV xs ks)))
/-- the reading of sorted(e, key=lambda x: ..) -/
def tSortL (K : PySem.W.Frag) (P : Addr) (q : Str) (N : List Str) (js : List Nat) (tb tx : TE) : TE := fun σ H Q => tx σ H (tSortR K P q N js tb σ Q)
def onOne (R : V → Hp → Prop) : List V → Hp → Prop
  | [v], H => R v H
  | _, _ => False
section
variable {X : Cx} {c P : Addr} {q : Str} {params : Arguments} {body ex : Expr} {scope : Scope} {p pos lpos kpos : Pos} {N ps fr : List Str} {js : List Nat} {tb tx : TE} {k : Nat}
theorem pe_sortL (TB : TabB X.base X.mg c P) (hcode : X.env.code = .ref c) (hq : X.env.qual ++ "<lambda>" = q) (hg : Gl X "sorted") (hm : X.mg "sorted" = none) (ha : PA X [ex] (tCons tx tNil)) (hdef : defaultsOf params X.env = ([], [])) (hL : ndefB X.env.scope scope fr = true) (S : NScope N ps fr scope) (hps : ps.length = 1)
    (hjs : js.map (fun j => X.N[j]?) = fr.map some) (hb : ∀ (cl : List (Str × Addr)) (pm cv ctv : Value) (us : List Value), us.length = ps.length → bindArgs (kla_fn "<lambda>" q params body scope cl pm cv ctv) ⟨us, []⟩ = pure (ps.zip us)) (hr : Room (k + 3) X.A)
    (hbody : ∀ (A : Around) (outer : List Env) (s : Shared) (H : Hp) (f c' : Addr) (cl : List (Str × Addr)), Room k (A.deeper (envF ⟨"<lambda>", q, params, [], scope, cl, c'⟩ f s.heap.objs.size)) → PE (ncx L2.CX0 X.prog X.w X.K X.mg X.base N ⟨"<lambda>", q, params, [], scope, cl, c'⟩ f A outer s H L2.E0) body tb)
    (he : backTo pos (starEach [ex] X.env) = (false, eval ex X.env) :: backTo pos (starEach [] X.env) := by rfl) (hpl : (backTo pos (starEach [ex] X.env)).any (·.1) = false := by rfl) :
    PE X (.Call (.Name "sorted" p) [ex] [⟨some "key", .Lambda params body scope lpos, kpos⟩] pos) (tSortL X.K P q N js tb tx) := by
  refine ⟨fun pins s σ H Q I h => ?_⟩
  have hf := ndef_free hL
  have hfr := ndef_fr hL
  have fr1 : ∀ y ∈ scope.names, y.2 = .free → ∃ c, X.env.cells.lookup y.1 = some c := fun y hy e => (hf y hy e).elim (fun z => I.ok.has _ (.inl z)) fun z => I.ok.has _ (.inr z)
  refine wpAny_Call_Name_kw (ld_blt I hg hm (u := .builtin "sorted") (by decide +kernel) ?_ (by decide) (by decide))
  have h0 : (tCons tx tNil) σ H (onOne (tSortR X.K P q N js tb σ Q)) := h
  refine PyProof.Rows.callWith_kw (thn (ha.run pos pins s σ H _ I h0) fun us s1 ⟨vs, H1, I1, r1, hq1⟩ => ?_) he hpl
  obtain ⟨v, rfl⟩ : ∃ v, vs = [v] := by
    match vs, hq1 with
    | [v], _ => exact ⟨v, rfl⟩
  obtain ⟨l, xs, ev, hs, hz, hT, q1⟩ := (show tSortR X.K P q N js tb σ Q v H1 from hq1)
  subst ev
  obtain rfl := Vals.ref1 r1
  show wpAny _ _ (evalAll ((do let v ← eval (.Lambda params body scope lpos) X.env; standAt pos; pure v) :: [])) _ _ s1
  refine wpAny_evalAll_cons (wpAny_bind (lam_new I1 TB hcode hq hT hdef fr1 fun f c' H2 s2 I2 gr hla hfn hfs => wpAny_bind (wpAny_standAt (wpAny_pure (wpAny_evalAll_nil ?_)))))
  show wpAny _ _ (call (.builtin "sorted") [.ref l] [(Str.ofString "key", .ref f)]) _ _ s2
  obtain ⟨ks, J, hlen, hal, hsk, hdp, j2, jc, turn, fin⟩ := q1 c' H2 gr
  have hs2 : SqL X.K H2 l xs := by
    rcases gr.2 with ⟨rfl, _⟩ | ⟨nc, _, ps', more, eP, _, rfl⟩
    · exact hs
    · rcases hs with (hs | ⟨o, hs⟩) | hs
      · exact .inl (.inl (by rw [upd_ne (ne_of_none hs nc), upd_ne (fun z => by rw [z, eP] at hs; cases hs)]; exact hs))
      · exact .inl (.inr ⟨o, by rw [upd_ne (ne_of_none hs nc), upd_ne (fun z => by rw [z, eP] at hs; cases hs)]; exact hs⟩)
      · exact .inr hs
  obtain ⟨its, rv, hl, hzz⟩ := I2.list hs2
  have liz : its.length = xs.length := rv.length.symm
  have hu : ∀ d, d ∈ ks → X.A.in1.in1.units + d.depth < cLine := fun d hd => by
    have := hdp d hd
    have := hr.un
    show X.A.units + 1 + 1 + d.depth < cLine
    omega
  refine sorted_of_sort hl.isList (by rw [liz]; exact hzz) (PyProof.Rows.ksk_s1 _ _) (fun _ => PyProof.Rows.ksk_l1 _ _) fun E' => ?_
  rw [ksk_t1]
  obtain ⟨e1, ho1⟩ : ∃ e1, ((copyHeap s2.heap its).update (s2.heap.objs.size + 1) (Obj.mapSeq fun _ => (#[] : Array Value))).get? (s2.heap.objs.size + 1) = some (seqObj "list" #[] e1) := ⟨_, get?_update_seq (copyHeap_at s2.heap its) fun _ => #[]⟩
  unfold ksk_tree
  refine wpAny_bind (listItems_at (copyHeap_at s2.heap its) rfl ?_)
  refine wpAny_bind (listUpdate_at (copyHeap_at s2.heap its) rfl ?_ (by rw [List.size_toArray, liz]; exact hzz) (Nat.zero_le _))
  refine wpAny_bind (seqEpoch_at ho1 rfl ?_)
  refine wpAny_bind (wpAny_newTuple ?_ (by show its.length ≤ _; rw [liz]; exact hzz))
  refine wpAny_bind (wpAny_newList ?_ (Nat.zero_le _))
  refine wpAny_holding ?_
  have csz : (copyHeap s2.heap its).objs.size = s2.heap.objs.size + 2 := by
    unfold copyHeap
    rw [size_push', Heap.size_update, size_push']
  have ksz : ((copyHeap s2.heap its |>.update (s2.heap.objs.size + 1) (Obj.mapSeq fun _ => (#[] : Array Value))).push (seqObj "tuple" its.toArray 0)).objs.size = s2.heap.objs.size + 3 := by rw [size_push', Heap.size_update, csz]
  have up : ∀ b o, s2.heap.get? b = some o → (((copyHeap s2.heap its |>.update (s2.heap.objs.size + 1) (Obj.mapSeq fun _ => (#[] : Array Value))).push (seqObj "tuple" its.toArray 0)).push (seqObj "list" #[] 0)).get? b = some o := fun b o e => sorting_copy_old e
  have I3 := I2.kept (t' := s2.toks) up
  have oa := fresh_ok I2 (b := s2.heap.objs.size + 1) (by omega)
  have ok := fresh_ok I2 (b := s2.heap.objs.size + 3) (by omega)
  obtain ⟨pm, ctv, hfo⟩ := hla
  have hflt := Heap.lt_size hfo
  refine sortL_rest (a := s2.heap.objs.size + 1) (f := f) (F := ⟨"<lambda>", q, params, [], scope, cloFrom X.env.cells scope.names [], c'⟩) (body := body) (J := J) (ks := ks) (kS := ((copyHeap s2.heap its |>.update (s2.heap.objs.size + 1) (Obj.mapSeq fun _ => (#[] : Array Value))).push (seqObj "tuple" its.toArray 0)).objs.size) I3 j2 rv (by rw [liz]; exact hlen) (by rw [liz]; exact hzz) hal hsk hu oa (by rw [ksz]; exact ok)
    (Heap.get?_push_size _ rfl) (Heap.get?_push_of_some _ (Heap.get?_push_of_some _ ho1)) (by rw [ksz]; exact Nat.ne_of_gt (Nat.lt_succ_of_lt (Nat.lt_succ_self _))) (I2.hok.fresh (by omega)) (by rw [ksz]; exact I2.hok.fresh (by omega)) ⟨pm, ctv, up _ _ hfo⟩ hfn hfs (Nat.ne_of_lt (Nat.lt_succ_of_lt hflt)) (by rw [ksz]; exact Nat.ne_of_lt (Nat.lt_succ_of_lt (Nat.lt_succ_of_lt (Nat.lt_succ_of_lt hflt)))) ?_ ?_
  · intro i x u d hi ru hk H1' s1' I1' j1' hla'
    exact lam_turn (F := ⟨"<lambda>", q, params, [], scope, cloFrom X.env.cells scope.names [], c'⟩) I1' (fun okX => Caps.made okX hf hfr hjs) S hps (hr.in1.in1) hla' (jc _ j1') (fun pm ctv us hus => hb _ _ _ _ us hus) (hbody _ _ _ _ _ _ _ ((hr.in1.in1).deeper _)) ru (turn i x d hi hk _ j1')
  · intro H' s' j' na' I'
    exact ⟨rfl, .ref _, _, I', rfl, fin H' _ j' na'⟩
end
end SLam

namespace TP
open PySem PySem.Spec PyProof.Rows L2 LamX NdefX SLam PySem.W
/-- the table of code objects at P: its lambdas bear the name q -/
def muT (P : Addr) (q : Str) : Mu Unit where
  fp := [P]
  m := fun _ Z H => Z P = none ∧ ∃ ps, H P = some (.tbl ps) ∧ TriplesOk ps.toList ∧ ∀ pos cv, codeAmong pos ps.toList = some cv → ∃ c, cv = .ref c ∧ Z c = some (CodeO c q)
  al := fun ⟨z, ps, h, _⟩ a ha => by rw [List.mem_singleton] at ha; subst ha; exact ⟨some_ne h, z⟩
  loc := fun sz hk hn ⟨z, ps, h, t, f⟩ => ⟨hn _ List.mem_cons_self (some_ne h) z, ps, hk _ List.mem_cons_self _ h, t, fun pos cv e => by
    obtain ⟨c, e1, e2⟩ := f pos cv e
    exact ⟨c, e1, sz _ _ e2⟩⟩
theorem muT_start {P : Addr} {q : Str} {Z H : Hp} (z : Z P = none) (h : H P = some (.tbl #[])) : (muT P q).m () Z H := ⟨z, #[], h, trivial, fun pos cv e => by
  have e : codeAmong pos [] = some cv := e
  simp [codeAmong] at e⟩
theorem muT_tab {P : Addr} {q : Str} {Z H : Hp} (sz : Same Z H) (m : (muT P q).m () Z H) : TabS H P q := by
  obtain ⟨_, ps, h, t, f⟩ := m
  exact ⟨ps, h, t, fun pos cv e => by
    obtain ⟨c, e1, e2⟩ := f pos cv e
    exact ⟨c, e1, sz _ _ e2⟩⟩
theorem grown_step {P c' : Addr} {q : Str} {Z H H2 : Hp} (sz : Same Z H) (m : (muT P q).m () Z H) (g : Grown P c' q H H2) : ∃ Z2, Step [P] Z H Z2 H2 ∧ (muT P q).m () Z2 H2 ∧ Z2 c' = some (CodeO c' q) := by
  obtain ⟨z, ps, h, t, f⟩ := m
  obtain ⟨T2, ⟨rfl, pos, ps', h', hc⟩ | ⟨nc, ne, ps', more, h', am, rfl⟩⟩ := g
  · rw [h] at h'
    cases h'
    obtain ⟨c, e1, e2⟩ := f pos _ hc
    cases e1
    exact ⟨Z, Step.refl sz, ⟨z, ps, h, t, f⟩, e2⟩
  · rw [h] at h'
    cases h'
    have s1 : Step [P] Z H Z (upd H P (.tbl (ps ++ more))) := Step.set sz z
    have n1 : (upd H P (.tbl (ps ++ more))) c' = none := by rw [upd_ne ne]; exact nc
    have s2 : Step [] Z (upd H P (.tbl (ps ++ more))) (upd Z c' (CodeO c' q)) (upd (upd H P (.tbl (ps ++ more))) c' (CodeO c' q)) := Step.new s1.s n1
    obtain ⟨ps2, h2, t2, _⟩ := T2
    have hP : (upd (upd H P (.tbl (ps ++ more))) c' (CodeO c' q)) P = some (.tbl (ps ++ more)) := by rw [upd_ne (Ne.symm ne), upd_same]
    rw [hP] at h2
    cases h2
    refine ⟨_, s1.trans s2.pure, ⟨by rw [upd_ne (Ne.symm ne)]; exact z, _, hP, t2, fun pos cv e => ?_⟩, upd_same⟩
    rcases am pos cv e with y | y
    · obtain ⟨c, e1, e2⟩ := f pos cv y
      refine ⟨c, e1, ?_⟩
      rw [upd_ne (ne_of_some (some_ne e2) (same_none sz nc))]
      exact e2
    · exact ⟨c', y, upd_same⟩
/-! ### kinds of keys -/
structure KeyS {α : Type} (τ : Ty α) (d : α → PyData) : Prop where
  sc : ∀ Z v x, τ.r Z v x → Sc v (d x)
  al : ∀ x y, alike (d x) (d y) = true
  so : ∀ x, d x ≠ .none ∧ ∀ xs, d x ≠ .tuple xs
  dep : ∀ x, (d x).depth ≤ 1
structure KeyD (K : PySem.W.Frag) {α : Type} (τ : Ty α) (d : α → PyData) : Prop where
  dpt : ∀ Z H v x, Same Z H → τ.r Z v x → DpT K H v (d x)
  al : ∀ x y, alike (d x) (d y) = true
  so : (∀ x, ∃ y r, d x = .tuple (y :: r)) ∨ ∀ x, d x ≠ .none ∧ ∀ xs, d x ≠ .tuple xs
  dep : ∀ x, (d x).depth ≤ 8
theorem keys_int : KeyS yInt PyData.int := ⟨fun _ _ _ h => by rw [show _ = V.int _ from h]; rfl, fun _ _ => rfl, fun _ => ⟨fun z => (nomatch z), fun _ z => (nomatch z)⟩, fun _ => Nat.zero_le _⟩
theorem keys_str : KeyS yStr PyData.str := ⟨fun _ _ _ h => by rw [show _ = V.str _ from h.1]; rfl, fun _ _ => rfl, fun _ => ⟨fun z => (nomatch z), fun _ z => (nomatch z)⟩, fun _ => Nat.zero_le _⟩
theorem keys_bool : KeyS yBool PyData.bool := ⟨fun _ _ _ h => by rw [show _ = V.bl _ from h]; rfl, fun _ _ => rfl, fun _ => ⟨fun z => (nomatch z), fun _ z => (nomatch z)⟩, fun _ => Nat.zero_le _⟩
section
variable {K : PySem.W.Frag} {α β : Type} {τ : Ty α} {υ : Ty β} {d : α → PyData} {e : β → PyData}
theorem KeyS.keyd (k : KeyS τ d) : KeyD K τ d := ⟨fun _ _ _ _ _ h => .inl (k.sc _ _ _ h), k.al, .inr k.so, fun x => Nat.le_trans (k.dep x) (by decide)⟩
theorem keyd_p2 (k : KeyS τ d) (l : KeyS υ e) : KeyD K (yP2 K τ υ) (fun x => .tuple [d x.1, e x.2]) :=
  ⟨fun Z H v x sz ⟨a, v1, v2, ev, h, h1, h2⟩ => .inr ⟨a, _, _, ev, rfl, seqT_same sz h, .cons (k.sc _ _ _ h1) (.cons (l.sc _ _ _ h2) .nil)⟩,
    fun x y => by simp [alike, alikeAll, k.al, l.al], .inl fun x => ⟨_, _, rfl⟩, fun x => by
      have := k.dep x.1
      have := l.dep x.2
      simp only [PyData.depth, PyData.depthAll]
      omega⟩
end
/-- keys of one kind: numbers, texts or flags -/
def plainK : PyData → Bool
  | .int _ => true
  | .str _ => true
  | .bool _ => true
  | _ => false
def KeysOk (ds : List PyData) : Bool := ds.all fun x => plainK x && ds.all fun y => alike x y
theorem keysOk_mem {ds : List PyData} (h : KeysOk ds = true) {x : PyData} (hx : x ∈ ds) : plainK x = true ∧ ∀ y ∈ ds, alike x y = true := by
  have := List.all_eq_true.mp h x hx
  rw [Bool.and_eq_true] at this
  exact ⟨this.1, fun y hy => List.all_eq_true.mp this.2 y hy⟩
theorem keysOk_al {ds : List PyData} (h : KeysOk ds = true) {x y : PyData} (hx : x ∈ ds) (hy : y ∈ ds) : alike x y = true := (keysOk_mem h hx).2 y hy
theorem keysOk_so {ds : List PyData} (h : KeysOk ds = true) {x : PyData} (hx : x ∈ ds) : x ≠ .none ∧ ∀ xs, x ≠ .tuple xs := by
  have := (keysOk_mem h hx).1
  cases x with
  | int i => exact ⟨fun z => (nomatch z), fun _ z => (nomatch z)⟩
  | str i => exact ⟨fun z => (nomatch z), fun _ z => (nomatch z)⟩
  | bool i => exact ⟨fun z => (nomatch z), fun _ z => (nomatch z)⟩
  | _ => cases this
theorem keysOk_dep {ds : List PyData} (h : KeysOk ds = true) {x : PyData} (hx : x ∈ ds) : x.depth ≤ 8 := by
  have := (keysOk_mem h hx).1
  cases x <;> first | exact Nat.zero_le _ | cases this
theorem mapO_len {α β : Type} {g : α → Option β} : ∀ {xs : List α} {ys : List β}, mapO g xs = some ys → ys.length = xs.length
  | [], _, h => by cases h; rfl
  | x :: xs, ys, h => by
    obtain ⟨y, _, h2⟩ := Option.bind_eq_some_iff.mp (show (g x).bind _ = some ys from h)
    obtain ⟨zs, h3, h4⟩ := Option.bind_eq_some_iff.mp h2
    cases h4
    rw [List.length_cons, List.length_cons, mapO_len h3]
theorem mapO_get {α β : Type} {g : α → Option β} : ∀ {xs : List α} {ys : List β} {i : Nat} {x : α} {y : β}, mapO g xs = some ys → xs[i]? = some x → ys[i]? = some y → g x = some y
  | [], _, _, _, _, _, h, _ => by simp at h
  | x :: xs, ys, i, x', y', h, hx, hy => by
    obtain ⟨y, h1, h2⟩ := Option.bind_eq_some_iff.mp (show (g x).bind _ = some ys from h)
    obtain ⟨zs, h3, h4⟩ := Option.bind_eq_some_iff.mp h2
    cases h4
    cases i with
    | zero =>
      rw [List.getElem?_cons_zero] at hx hy
      rw [← Option.some.inj hx, ← Option.some.inj hy]
      exact h1
    | succ i =>
      rw [List.getElem?_cons_succ] at hx hy
      exact mapO_get h3 hx hy
theorem all_zip {α : Type} {R : V → α → Prop} : ∀ {vs : List V} {xs : List α}, All R vs xs → ∀ p ∈ vs.zip xs, R p.1 p.2
  | _, _, .nil, p, h => by simp at h
  | _, _, .cons r t, p, h => by
    rw [List.zip_cons_cons] at h
    rcases List.mem_cons.mp h with rfl | h
    · exact r
    · exact all_zip t p h
theorem all_unzip {α : Type} {R : V → α → Prop} : ∀ {ps : List (V × α)}, (∀ p ∈ ps, R p.1 p.2) → All R (ps.map (·.1)) (ps.map (·.2))
  | [], _ => .nil
  | p :: ps, h => .cons (h p List.mem_cons_self) (all_unzip fun q hq => h q (List.mem_cons_of_mem _ hq))
/-- things and their values are sorted alike -/
theorem all_sort {α : Type} {R : V → α → Prop} {vs : List V} {xs : List α} {ks : List PyData} (h : All R vs xs) (l : ks.length = xs.length) : All R (sortV vs ks) (sortV xs ks) := by
  have lv := h.len
  have key : ∀ {β : Type} (f : V × α → β), sortV ((vs.zip xs).map f) ks = (((vs.zip xs).zip ks).mergeSort (dataLe false (·.2))).map fun t => f t.1 := fun f => by
    unfold sortV
    rw [List.zip_map_left, ← List.map_mergeSort (r := dataLe false (·.2)) (s := dataLe false (·.2)) (f := Prod.map f id) (l := (vs.zip xs).zip ks) (fun a _ b _ => rfl), List.map_map]
    rfl
  have e1 : (vs.zip xs).map (·.1) = vs := by rw [List.map_fst_zip (by omega)]
  have e2 : (vs.zip xs).map (·.2) = xs := by rw [List.map_snd_zip (by omega)]
  have k1 := key (·.1)
  have k2 := key (·.2)
  rw [e1] at k1
  rw [e2] at k2
  rw [k1, k2]
  have m : ∀ t ∈ ((vs.zip xs).zip ks).mergeSort (dataLe false (·.2)), R t.1.1 t.1.2 := fun t ht => all_zip h _ (List.of_mem_zip (List.mem_mergeSort.mp ht)).1
  have := all_unzip (ps := (((vs.zip xs).zip ks).mergeSort (dataLe false (·.2))).map (·.1)) (R := R) (fun p hp => by
    obtain ⟨t, ht, rfl⟩ := List.mem_map.mp hp
    exact m t ht)
  rw [List.map_map, List.map_map] at this
  exact this
theorem sortV_len {α : Type} {xs : List α} {ks : List PyData} (l : ks.length = xs.length) : (sortV xs ks).length = xs.length := by
  unfold sortV
  rw [List.length_map, List.length_mergeSort, List.length_zip]
  omega
section
variable {μ : Type} {M : Mu μ} {σ : L2.St} {Z H : Hp} {s s1 : μ} {K : PySem.W.Frag} {P : Addr} {q : Str} {N : List Str} {js : List Nat} {tb tx : TE} {α β : Type} {τ : Ty α} {κ : Ty β} {d : β → PyData} {xs : List α} {kks : List β} {g : α → Option β}
theorem en_sortL (kd : KeyD K κ d) (hm : ∀ Z H, M.m s1 Z H → (muT P q).m () Z H) (hf : ∀ a ∈ (muT P q).fp, a ∈ M.fp) (hp : ∀ Z H Z' H', M.m s1 Z H → Step (muT P q).fp Z H Z' H' → (muT P q).m () Z' H' → M.m s1 Z' H')
    (hx : Ev M tx σ Z H s (li τ xs) s1) (l : xs.length ≤ 1000) (hk : mapO g xs = some kks)
    (hb : ∀ x v Z' H' y, Same Z Z' → SameX M.fp H H' → τ.r Z' v x → g x = some y → Ev M tb (startF N [v] (js.map (slotAt σ))) Z' H' s1 (ty κ y) s1) :
    EvN M (tSortL K P q N js tb tx) σ Z H s τ (sortV xs (kks.map d)) s1 := by
  intro Z1 H1 a b c dd Q qq
  refine hx Z1 H1 a b c dd _ fun v Z2 H2 e m rv => ?_
  obtain ⟨p, vs, rfl, hpp, al, lz⟩ := rdl e.s rv
  have lv := al.len
  have T := hm _ _ m
  have lk := mapO_len hk
  refine ⟨p, vs, rfl, SqL.of hpp, by omega, muT_tab e.s T, fun c' H3 gr => ?_⟩
  obtain ⟨Z3, st, T3, zc⟩ := grown_step e.s T gr
  have m3 := hp _ _ _ _ m st T3
  have st3 : Step M.fp Z2 H2 Z3 H3 := st.weak fun a h => .inl (hf a h)
  have ln : (kks.map d).length = xs.length := by rw [List.length_map, lk]
  refine ⟨kks.map d, fun H' => ∃ Z', Step M.fp Z3 H3 Z' H' ∧ M.m s1 Z' H', by rw [ln]; omega, ?_, ?_, ?_, ⟨Z3, Step.refl st.s, m3⟩, ?_, ?_, ?_⟩
  · intro x hx y hy
    obtain ⟨x', _, rfl⟩ := List.mem_map.mp hx
    obtain ⟨y', _, rfl⟩ := List.mem_map.mp hy
    exact kd.al _ _
  · rcases kd.so with h | h
    · exact .inl fun x hx => by
        obtain ⟨x', _, rfl⟩ := List.mem_map.mp hx
        exact h x'
    · exact .inr fun x hx => by
        obtain ⟨x', _, rfl⟩ := List.mem_map.mp hx
        exact h x'
  · intro x hx
    obtain ⟨x', _, rfl⟩ := List.mem_map.mp hx
    exact kd.dep x'
  · rintro H' ⟨Z', gz, _⟩
    exact gz.s _ _ (gz.z _ _ zc)
  · rintro i x dt hi hd H' ⟨Z', gz, m'⟩
    obtain ⟨x0, hx0, rx⟩ := al.get hi
    rw [List.getElem?_map] at hd
    obtain ⟨y, hy, rfl⟩ := Option.map_eq_some_iff.mp hd
    have hg := mapO_get hk hx0 hy
    have zz : Same Z2 Z' := st.z.trans gz.z
    exact hb x0 x Z' H' y (a.trans (e.z.trans zz)) (b.trans (e.h.trans (st3.h.trans gz.h))) (τ.mono zz rx) hg Z' H' (Same.refl _) SameX.refl gz.s m' _ fun w Z4 H4 e4 m4 rw => ⟨⟨Z4, gz.trans e4, m4⟩, kd.dpt _ _ _ _ e4.s rw⟩
  · rintro H' r ⟨Z', gz, m'⟩ hr
    have own := Step.own (o := .lst (sortV vs (kks.map d))) gz.s hr
    have all : All (τ.r Z') vs xs := al.imp fun _ _ => τ.mono (st.z.trans gz.z)
    exact qq r _ Z' _ (((e.trans st3).trans gz).trans own.pure) (M.pure own m') (same_x e (same_x st3 (same_x gz hr))) (same_none gz.s hr) upd_same (all_sort all ln) (by rw [sortV_len ln]; exact lz)
theorem en_sortLG (dp : ∀ Z v x, κ.r Z v x → Sc v (d x)) (ko : KeysOk (kks.map d) = true) (hm : ∀ Z H, M.m s1 Z H → (muT P q).m () Z H) (hf : ∀ a ∈ (muT P q).fp, a ∈ M.fp) (hp : ∀ Z H Z' H', M.m s1 Z H → Step (muT P q).fp Z H Z' H' → (muT P q).m () Z' H' → M.m s1 Z' H')
    (hx : Ev M tx σ Z H s (li τ xs) s1) (l : xs.length ≤ 1000) (hk : mapO g xs = some kks)
    (hb : ∀ x v Z' H' y, Same Z Z' → SameX M.fp H H' → τ.r Z' v x → g x = some y → Ev M tb (startF N [v] (js.map (slotAt σ))) Z' H' s1 (ty κ y) s1) :
    EvN M (tSortL K P q N js tb tx) σ Z H s τ (sortV xs (kks.map d)) s1 := by
  intro Z1 H1 a b c dd Q qq
  refine hx Z1 H1 a b c dd _ fun v Z2 H2 e m rv => ?_
  obtain ⟨p, vs, rfl, hpp, al, lz⟩ := rdl e.s rv
  have lv := al.len
  have T := hm _ _ m
  have lk := mapO_len hk
  refine ⟨p, vs, rfl, SqL.of hpp, by omega, muT_tab e.s T, fun c' H3 gr => ?_⟩
  obtain ⟨Z3, st, T3, zc⟩ := grown_step e.s T gr
  have m3 := hp _ _ _ _ m st T3
  have st3 : Step M.fp Z2 H2 Z3 H3 := st.weak fun a h => .inl (hf a h)
  have ln : (kks.map d).length = xs.length := by rw [List.length_map, lk]
  refine ⟨kks.map d, fun H' => ∃ Z', Step M.fp Z3 H3 Z' H' ∧ M.m s1 Z' H', by rw [ln]; omega, ?_, ?_, ?_, ⟨Z3, Step.refl st.s, m3⟩, ?_, ?_, ?_⟩
  · exact fun x hx y hy => keysOk_al ko hx hy
  · exact .inr fun x hx => keysOk_so ko hx
  · exact fun x hx => keysOk_dep ko hx
  · rintro H' ⟨Z', gz, _⟩
    exact gz.s _ _ (gz.z _ _ zc)
  · rintro i x dt hi hd H' ⟨Z', gz, m'⟩
    obtain ⟨x0, hx0, rx⟩ := al.get hi
    rw [List.getElem?_map] at hd
    obtain ⟨y, hy, rfl⟩ := Option.map_eq_some_iff.mp hd
    have hg := mapO_get hk hx0 hy
    have zz : Same Z2 Z' := st.z.trans gz.z
    exact hb x0 x Z' H' y (a.trans (e.z.trans zz)) (b.trans (e.h.trans (st3.h.trans gz.h))) (τ.mono zz rx) hg Z' H' (Same.refl _) SameX.refl gz.s m' _ fun w Z4 H4 e4 m4 rw => ⟨⟨Z4, gz.trans e4, m4⟩, (.inl (dp _ _ _ rw))⟩
  · rintro H' r ⟨Z', gz, m'⟩ hr
    have own := Step.own (o := .lst (sortV vs (kks.map d))) gz.s hr
    have all : All (τ.r Z') vs xs := al.imp fun _ _ => τ.mono (st.z.trans gz.z)
    exact qq r _ Z' _ (((e.trans st3).trans gz).trans own.pure) (M.pure own m') (same_x e (same_x st3 (same_x gz hr))) (same_none gz.s hr) upd_same (all_sort all ln) (by rw [sortV_len ln]; exact lz)
end
end TP
namespace TP
open PySem PySem.Spec PyProof.Rows L2 LamX NdefX SLam PySem.W
/-- a def whose code object is known -/
structure FunC (K : PySem.W.Frag) (x qual : Str) (st : Stmt) (c f : Addr) (fd : FuncData) : Prop where
  ex : ∃ (oc : Value) (od : Option Addr) (kV doc pm : Value) (an : Option Addr) (ct : Value) (osl : Array (Option Value)),
    fd = PySem.W.fnOf x qual (defArgs st) (defBody st) (defScope st) .none kV doc pm an (.ref c) ct ∧ K.lookup f = some ⟨oc, od, .func fd, osl⟩ ∧ PySem.W.codeIn K (.ref c) qual = true
theorem FunC.ok {P : Program} {w : World} {K : PySem.W.Frag} {mg : Str → Option Value} {base : Heap} {x qual : Str} {st : Stmt} {c f : Addr} {fd : FuncData} {CX : CXT} {N ps : List Str} {k : Nat} {sp : Sp} (F : FunC K x qual st c f fd) (S : FnScope N ps (defScope st)) (len : ∀ vs H Q E, sp vs H Q E → vs.length = ps.length)
    (hbody : ∀ (A : Around) (outer : List Env) (s : Shared) (H : Hp) (vs : List V) (Q : VK) (E : XK), Room k (A.deeper (envOfC qual (defScope st) s.heap.objs.size f (.ref c))) → sp vs H Q E →
      ∃ t, PSs (cxOf CX P w K mg base N qual (defScope st) f (.ref c) A outer s H E) (defBody st) t ∧ t { nx := fun _ H' => Q .non H', rt := Q } (start N vs) H) : FnOk P w K mg base CX (k + 1) f fd ps sp := by
  obtain ⟨oc, od, kV, doc, pm, an, ct, osl, rfl, lk, hcd⟩ := F.ex
  exact fn_of lk hcd S len hbody
section
variable {K : PySem.W.Frag} {σ : L2.St} {H : Hp} {D : Ends}
theorem st_drawsT {r : List V → Hp → VK → Prop} {a P : Addr} {q : Str} {ns : List Int} {i j : Nat} (ht : H P = some (.tbl #[])) (hA : SqL K H a (ns.map V.int)) (hlen : ns.length ≤ 63) (k : ∀ st sc Z0 Z1 H1, Pt [P] Z0 H (muX (muD st sc) (muT P q)) Z1 H1 (⟨ns, 0, 0⟩, ()) → D.nx (σ.set i (some (.ref st))) H1)
    (hr : ∀ xs H Q, (∃ p ys, xs = [.ref p] ∧ (SqL K H p ys ∨ SqT K H p ys) ∧ ∀ l, H l = none → Q (.ref l) (upd H l (.lst ys))) → r xs H Q := by exact fun _ _ _ h => h) (hσ : σ[j]? = some (some (.ref a)) := by rfl) :
    tAsg (tLst (tCons (tCB r (tCons (tVar j) tNil)) (tCons (tC (.int 0)) (tCons (tC (.int 0)) tNil)))) (gName i) D σ H :=
  by
  refine ⟨.ref a, hσ, hr _ _ _ ⟨a, _, rfl, .inl hA, fun sc hsc => ?_⟩⟩
  refine ⟨by show 3 ≤ sizeLine; decide, fun st hst => ?_⟩
  have s0 : Same (fun _ => none : Hp) H := fun _ _ h => by cases h
  have e1 := Step.new (o := .lst (ns.map V.int)) s0 hsc
  have e2 := Step.own (o := .lst [.ref sc, .int 0, .int 0]) e1.s hst
  have n1 : P ≠ sc := fun e => by rw [e, hsc] at ht; cases ht
  have h1 := e1.h P _ List.not_mem_nil ht
  have n2 : P ≠ st := fun e => by rw [e, hst] at h1; cases h1
  have h2 := e2.h P _ List.not_mem_nil h1
  refine k st sc (fun _ => none) _ _ ⟨(e1.trans e2).weak fun _ h => absurd h List.not_mem_nil, ⟨⟨upd_same, upd_same, by rw [upd_ne (fun q => by rw [q, upd_same] at hst; cases hst)]⟩, ⟨by rw [upd_ne n1], #[], h2, trivial, fun pos cv e => by
    have e : codeAmong pos [] = some cv := e
    simp [codeAmong] at e⟩, fun b hb hb2 => ?_⟩, fun x hx => ?_⟩
  · rw [show b = st from List.mem_singleton.mp hb] at hb2
    exact n2 (List.mem_singleton.mp hb2).symm
  · rcases List.mem_append.mp hx with hx | hx
    · rw [show x = st from List.mem_singleton.mp hx]
      exact .inr (same_x e1 hst)
    · exact .inl hx
end
end TP
namespace SLam
open PySem PySem.Spec PyProof.Rows L2 PySem.W LamX NdefX
/-- sorted(xs): the items are data of one shape -/
def rSortD (K : PySem.W.Frag) : List V → Hp → VK → Prop := fun vs H Q => ∃ (l : Addr) (xs : List V) (ds : List PyData), vs = [.ref l] ∧ SqL K H l xs ∧ ds.length = xs.length ∧ AllAlike ds ∧ Sortable ds ∧ (∀ d ∈ ds, d.depth ≤ 8) ∧ (∀ (i : Nat) (x : V) (d : PyData), xs[i]? = some x → ds[i]? = some d → Dp K H x d) ∧
  ∀ r, H r = none → Q (.ref r) (upd H r (.lst (sortV xs ds)))
section
variable {X : Cx}
theorem each_reads {pins : List (Addr × Obj)} {s : Shared} {σ : L2.St} {H : Hp} (I : Inv X pins σ H s) : ∀ {xs : List V} {us : List Value} {ds : List PyData}, Vals xs us → ds.length = xs.length → (∀ (i : Nat) (x : V) (d : PyData), xs[i]? = some x → ds[i]? = some d → Dp X.K H x d) → EachIs (fun (u : Value) (b : V × PyData) => ∃ as, Reads s.heap u b.2 as) us (xs.zip ds)
  | _, _, _, .nil, _, _ => by simpa using EachIs.nil
  | _, _, [], .cons _ _, h, _ => by simp at h
  | _, _, d :: _, .cons r t, h, g => by
    rw [List.zip_cons_cons]
    exact .cons ((g 0 _ _ rfl rfl).reads I d _ _ r) (each_reads I t (by simpa using h) fun i x e hx he => g (i + 1) x e (by simpa using hx) (by simpa using he))
theorem cr_sortedD {k : Nat} (hr : Room k X.A) : CallR X (.builtin "sorted") (rSortD X.K) := by
  intro pins s σ H vs us Q I r h
  obtain ⟨a, xs, ds, rfl, hs, hl, hal, hso, hdp, hd, q⟩ := h
  obtain ⟨its, rv, hl2, hz⟩ := I.list hs
  rw [Vals.ref1 r]
  have e1 : (xs.zip ds).map (·.2) = ds := zip_snd hl
  have lz : (xs.zip ds).length = xs.length := by rw [List.length_zip]; omega
  refine sorted_data (enc := (·.2)) (bs := xs.zip ds) (R := fun (u : Value) (b : V × PyData) => RelV b.1 u) hl2.isList (each_vals rv hl) (each_reads I rv hl hd) (by rw [e1]; exact hal) (by rw [e1]; exact hso) (by rw [lz]; exact hz) (fun b hb => ?_) fun out hlen ho => ?_
  · have := hdp b.2 (List.of_mem_zip (show (b.1, b.2) ∈ xs.zip ds from hb)).2
    have := hr.un
    omega
  · obtain ⟨ep, he'⟩ := PyProof.Rows.sortedAll_at s.heap its out.toArray
    have vo : Vals (sortV xs ds) out := vals_each ho
    have hlen2 : (sortV xs ds).length ≤ sizeLine := by rw [vo.length, hlen, lz]; exact hz
    exact ⟨.ref _, upd H (s.heap.objs.size + 1) (.lst (sortV xs ds)), I.laid (t' := s.toks) (fun _ _ => PyProof.Rows.sortedAll_old) (Nat.le_succ _) ⟨hlen2, out, ep, vo, he'⟩, rfl, q _ (I.hok.fresh (Nat.le_succ _))⟩
end
end SLam
namespace TP
open PySem PySem.Spec PyProof.Rows L2 LamX NdefX SLam PySem.W
section
variable {μ : Type} {M : Mu μ} {σ : L2.St} {Z H : Hp} {s s1 : μ} {K : PySem.W.Frag} {ta : TE} {α : Type} {τ : Ty α} {d : α → PyData} {xs : List α}
theorem en_sortD (kd : KeyD K τ d) (ha : Ev M ta σ Z H s (li τ xs) s1) : EvN M (tCB (rSortD K) (tCons ta tNil)) σ Z H s τ (sortV xs (xs.map d)) s1 :=
  en_cb (eva_cons ha eva_nil) fun Z' H' vs0 sz ⟨v, r, e, h, e2⟩ => by
    cases e2; cases e
    obtain ⟨p, vs, rfl, hp, al, lz⟩ := rdl sz h
    have ll := al.len
    refine ⟨sortV vs (xs.map d), all_sort al (by rw [List.length_map]), by rw [sortV_len (by rw [List.length_map])]; exact lz, fun Q q => ⟨p, vs, xs.map d, rfl, SqL.of hp, by rw [List.length_map]; omega, ?_, ?_, ?_, ?_, q⟩⟩
    · intro x hx y hy
      obtain ⟨x', _, rfl⟩ := List.mem_map.mp hx
      obtain ⟨y', _, rfl⟩ := List.mem_map.mp hy
      exact kd.al _ _
    · rcases kd.so with h | h
      · exact .inl fun x hx => by
          obtain ⟨x', _, rfl⟩ := List.mem_map.mp hx
          exact h x'
      · exact .inr fun x hx => by
          obtain ⟨x', _, rfl⟩ := List.mem_map.mp hx
          exact h x'
    · intro x hx
      obtain ⟨x', _, rfl⟩ := List.mem_map.mp hx
      exact kd.dep x'
    · intro i x dt hi hd
      obtain ⟨x0, hx0, rx⟩ := al.get hi
      rw [List.getElem?_map, hx0] at hd
      cases hd
      exact (kd.dpt _ _ _ _ sz rx).dp
end
end TP

namespace TP
open PySem PySem.Spec PyProof.Rows L2
section
variable {κ κ' α : Type}
/-- what a dict holds -/
inductive DA (e : κ → κ') (R : V → α → Prop) : List (κ' × V) → List (κ × α) → Prop
  | nil : DA e R [] []
  | cons {k : κ} {v : V} {x : α} {ws : List (κ' × V)} {kvs : List (κ × α)} (r : R v x) (t : DA e R ws kvs) : DA e R ((e k, v) :: ws) ((k, x) :: kvs)
theorem DA.imp {e : κ → κ'} {R R' : V → α → Prop} (f : ∀ v x, R v x → R' v x) {ws : List (κ' × V)} {kvs : List (κ × α)} (h : DA e R ws kvs) : DA e R' ws kvs := by
  induction h with
  | nil => exact .nil
  | cons r _ ih => exact .cons (f _ _ r) ih
theorem DA.len {e : κ → κ'} {R : V → α → Prop} {ws : List (κ' × V)} {kvs : List (κ × α)} (h : DA e R ws kvs) : ws.length = kvs.length := by
  induction h with
  | nil => rfl
  | cons _ _ ih => rw [List.length_cons, List.length_cons, ih]
theorem DA.snoc {e : κ → κ'} {R : V → α → Prop} {k : κ} {v : V} {x : α} {ws : List (κ' × V)} {kvs : List (κ × α)} (h : DA e R ws kvs) (r : R v x) : DA e R (ws ++ [(e k, v)]) (kvs ++ [(k, x)]) := by
  induction h with
  | nil => exact .cons r .nil
  | cons r1 _ ih => exact .cons r1 ih
variable [DecidableEq κ] [DecidableEq κ']
def getA (kvs : List (κ × α)) (k : κ) : Option α := (kvs.find? fun kv => decide (kv.1 = k)).map (·.2)
def putA (kvs : List (κ × α)) (k : κ) (x : α) : List (κ × α) := if (kvs.any fun kv => decide (kv.1 = k)) = true then kvs.map (fun kv => if kv.1 = k then (kv.1, x) else kv) else kvs ++ [(k, x)]
theorem DA.any {e : κ → κ'} {R : V → α → Prop} (inj : ∀ a b, e a = e b → a = b) {ws : List (κ' × V)} {kvs : List (κ × α)} (h : DA e R ws kvs) (k : κ) : (ws.any fun kv => decide (kv.1 = e k)) = kvs.any fun kv => decide (kv.1 = k) := by
  induction h with
  | nil => rfl
  | cons r t ih =>
    rw [List.any_cons, List.any_cons, ih]
    congr 1
    exact decide_eq_decide.mpr ⟨inj _ _, fun q => congrArg e q⟩
theorem DA.get {e : κ → κ'} {R : V → α → Prop} (inj : ∀ a b, e a = e b → a = b) {ws : List (κ' × V)} {kvs : List (κ × α)} (h : DA e R ws kvs) (k : κ) : (getA kvs k = none ∧ valV ws (e k) = none) ∨ ∃ x v, getA kvs k = some x ∧ valV ws (e k) = some v ∧ R v x := by
  induction h with
  | nil => exact .inl ⟨rfl, rfl⟩
  | @cons j v x ws kvs r t ih =>
    by_cases q : j = k
    · right
      refine ⟨x, v, ?_, valV_pos (congrArg e q), r⟩
      unfold getA
      rw [List.find?_cons, decide_eq_true (show (j, x).1 = k from q)]
      rfl
    · have q2 : ¬ e j = e k := fun z => q (inj _ _ z)
      rw [valV_neg (p := (e j, v)) q2]
      unfold getA
      rw [List.find?_cons, decide_eq_false (show ¬ (j, x).1 = k from q)]
      exact ih
theorem DA.map {e : κ → κ'} {R : V → α → Prop} (inj : ∀ a b, e a = e b → a = b) {k : κ} {v : V} {x : α} (r : R v x) {ws : List (κ' × V)} {kvs : List (κ × α)} (h : DA e R ws kvs) : DA e R (ws.map fun kv => if kv.1 = e k then (kv.1, v) else kv) (kvs.map fun kv => if kv.1 = k then (kv.1, x) else kv) := by
  induction h with
  | nil => exact .nil
  | @cons j w y ws kvs r1 t ih =>
    rw [List.map_cons, List.map_cons]
    by_cases q : j = k
    · rw [if_pos (show (e j, w).1 = e k from congrArg e q), if_pos (show (j, y).1 = k from q)]
      exact .cons r ih
    · rw [if_neg (show ¬ (e j, w).1 = e k from fun z => q (inj _ _ z)), if_neg (show ¬ (j, y).1 = k from q)]
      exact .cons r1 ih
theorem DA.put {e : κ → κ'} {R : V → α → Prop} (inj : ∀ a b, e a = e b → a = b) {k : κ} {v : V} {x : α} (r : R v x) {ws : List (κ' × V)} {kvs : List (κ × α)} (h : DA e R ws kvs) : DA e R (putK ws (e k) v) (putA kvs k x) := by
  unfold putK putA
  rw [h.any inj k]
  by_cases q : (kvs.any fun kv => decide (kv.1 = k)) = true
  · rw [if_pos q, if_pos q]; exact h.map inj r
  · rw [if_neg q, if_neg q]; exact h.snoc r
theorem putA_len (kvs : List (κ × α)) (k : κ) (x : α) : (putA kvs k x).length ≤ kvs.length + 1 := by
  unfold putA
  split
  · rw [List.length_map]; omega
  · rw [List.length_append]; exact Nat.le_refl _
/-- the kinds of keys -/
structure KeyT (τ : Ty κ) (e : κ → Key) : Prop where
  v : ∀ Z v k, τ.r Z v k → v = kV (e k)
  inj : ∀ a b, e a = e b → a = b
end
theorem kt_str : KeyT yStr (fun x => Sum.inr x) := ⟨fun _ _ _ h => h.1, fun _ _ h => Sum.inr.inj h⟩
theorem kt_int : KeyT yInt (fun x => Sum.inl x) := ⟨fun _ _ _ h => h, fun _ _ h => Sum.inl.inj h⟩
section
variable {κ α : Type}
def yDict (e : κ → Key) (τ : Ty α) : Ty (List (κ × α)) := ⟨fun Z v kvs => ∃ a ws, v = .ref a ∧ Z a = some (.dK ws) ∧ DA e (τ.r Z) ws kvs ∧ kvs.length ≤ sizeLine,
  fun s ⟨a, ws, e1, h, t, l⟩ => ⟨a, ws, e1, s _ _ h, t.imp fun _ _ => τ.mono s, l⟩⟩
theorem nn_dict {e : κ → Key} {τ : Ty α} : NonNil (yDict e τ) := fun _ _ _ ⟨_, _, h, _⟩ => by rw [h]; exact fun z => nomatch z
variable {μ : Type} {S : List Addr} {Z0 H0 : Hp} {M : Mu μ} {σ : L2.St} {Z H : Hp} {s s' s1 s2 s3 : μ} {te tk tx : TE} {K : PySem.W.Frag} {D : Ends} {e : κ → Key} {τ : Ty α} {τk : Ty κ} {kvs : List (κ × α)} {p : Addr} {fp : List Addr}
/-- a dict of one's own: it may change -/
structure OwnD (S : List Addr) (H0 : Hp) (fp : List Addr) (Z H : Hp) (e : κ → Key) (τ : Ty α) (p : Addr) (kvs : List (κ × α)) : Prop where
  ex : ∃ ws, H p = some (.dK ws) ∧ DA e (τ.r Z) ws kvs
  z : Z p = none
  n : p ∉ fp
  mine : H0 p = none
  l : kvs.length ≤ sizeLine
theorem OwnD.step {F : List Addr} {Z1 H1 : Hp} (o : OwnD S H0 fp Z H e τ p kvs) (g : Step F Z H Z1 H1) (n : p ∉ F) : OwnD S H0 fp Z1 H1 e τ p kvs := by
  obtain ⟨vs, h, t⟩ := o.ex
  exact ⟨⟨vs, g.h _ _ n h, t.imp fun _ _ => τ.mono g.z⟩, g.n _ (some_ne h) o.z, o.n, o.mine, o.l⟩
theorem OwnD.next {Z1 H1 : Hp} (o : OwnD S H0 fp Z H e τ p kvs) (g : Step fp Z H Z1 H1) : OwnD S H0 fp Z1 H1 e τ p kvs := o.step g o.n
theorem OwnD.ne (o : OwnD S H0 fp Z H e τ p kvs) {q : Addr} (h : H q = none) : p ≠ q := by
  obtain ⟨vs, hp, _⟩ := o.ex
  exact ne_of_some (some_ne hp) h
theorem OwnD.fz (o : OwnD S H0 M.fp Z H e τ p kvs) (P : Pt S Z0 H0 M Z H s) : ∃ Z', Pt S Z0 H0 M Z' H s ∧ Same Z Z' ∧ (yDict e τ).r Z' (.ref p) kvs ∧ ∀ q, q ≠ p → Z q = none → Z' q = none := by
  obtain ⟨vs, h, t⟩ := o.ex
  refine ⟨upd Z p (.dK vs), ⟨?_, Mu.fz P.m o.z o.n, P.mine⟩, same_upd o.z, ⟨p, vs, rfl, upd_same, t.imp fun _ _ => τ.mono (same_upd o.z), o.l⟩, fun q n e => by rw [upd_ne n]; exact e⟩
  exact P.st.fz o.mine h o.z
theorem OwnD.keep {Z1 : Hp} (o : OwnD S H0 fp Z H e τ p kvs) (g : Same Z Z1) (n : Z1 p = none) : OwnD S H0 fp Z1 H e τ p kvs := by
  obtain ⟨vs, h, t⟩ := o.ex
  exact ⟨⟨vs, h, t.imp fun _ _ => τ.mono g⟩, n, o.n, o.mine, o.l⟩
theorem OwnD.grow {F : List Addr} {Z1 H1 : Hp} (o : OwnD S H0 M.fp Z H e τ p kvs) (g : Step M.fp Z H Z1 H1) (fr : ∀ a ∈ F, H a = none) : OwnD S H0 (M.fp ++ F) Z1 H1 e τ p kvs := by
  have o1 := o.next g
  obtain ⟨vs, h, _⟩ := o.ex
  have nf : p ∉ F := fun hb => by
    rw [fr p hb] at h
    exact nomatch h
  exact ⟨o1.ex, o1.z, fun ha => (List.mem_append.mp ha).elim o.n nf, o1.mine, o1.l⟩
theorem OwnD.left {F G : List Addr} (o : OwnD S H0 (F ++ G) Z H e τ p kvs) : OwnD S H0 F Z H e τ p kvs := ⟨o.ex, o.z, fun h => o.n (List.mem_append_left _ h), o.mine, o.l⟩
/-- x = {} -/
theorem st_setD {i : Nat} (P : Pt S Z0 H0 M Z H s) (k : ∀ p Z1 H1, Step M.fp Z H Z1 H1 → Pt S Z0 H0 M Z1 H1 s → H p = none → OwnD S H0 M.fp Z1 H1 e τ p ([] : List (κ × α)) → D.nx (σ.set i (some (.ref p))) H1) : tAsg tDNewK (gName i) D σ H := fun p hp => by
  have e4 : Step M.fp Z H Z (upd H p (.dK [])) := (Step.own (o := .dK []) P.sub hp).pure
  exact k p Z _ e4 (P.next e4 (M.pure (Step.own (o := .dK []) P.sub hp) P.m)) hp ⟨⟨[], upd_same, .nil⟩, same_none P.sub hp, fun hf => (M.al P.m p hf).1 hp, same_x P.st hp, Nat.zero_le _⟩
variable [DecidableEq κ]
/-- d[k] = x -/
theorem st_dput {i : Nat} {k : κ} {x : α} (ke : KeyT τk e) (P : Pt S Z0 H0 M Z H s) (o : OwnD S H0 M.fp Z H e τ p kvs) (hσ : σ[i]? = some (some (.ref p))) (ex : Ev M te σ Z H s (ty τ x) s1) (ek : ∀ Z1 H1, Step M.fp Z H Z1 H1 → Ev M tk σ Z1 H1 s1 (ty τk k) s2) (l : kvs.length < sizeLine)
    (kk : ∀ Z1 H1, Step (p :: M.fp) Z H Z1 H1 → Pt S Z0 H0 M Z1 H1 s2 → OwnD S H0 M.fp Z1 H1 e τ p (putA kvs k x) → D.nx σ H1) : tAsg te (gSub (tVar i) tk rSetD) D σ H := by
  obtain ⟨vs, h, t⟩ := o.ex
  refine ex Z H (Same.refl _) SameX.refl P.sub P.m _ fun v Z1 H1 e1 m r => ⟨.ref p, hσ, ek Z1 H1 e1 Z1 H1 (Same.refl _) SameX.refl e1.s m _ fun v2 Z2 H2 e2 m2 r2 => ?_⟩
  have o1 := (o.next e1).next e2
  have P1 := (P.next e1 m).next e2 m2
  have hv2 := ke.v _ _ _ r2
  have hl : vs.length < sizeLine := by rw [t.len]; exact l
  show ∃ a H', V.ref p = .ref a ∧ DPut H2 a v2 v H' ∧ D.nx σ H'
  refine ⟨p, _, rfl, by rw [hv2]; exact DPut.k (e2.h _ _ o.n (e1.h _ _ o.n h)) hl, ?_⟩
  exact kk _ _ (step2 (e1.trans e2) o1.z) (P1.set o1.z o.n (.inr o.mine)) ⟨⟨_, upd_same, (t.imp fun _ _ => τ.mono (e1.trans e2).z).put ke.inj (τ.mono e2.z r)⟩, o1.z, o.n, o.mine, Nat.le_trans (putA_len _ _ _) l⟩
theorem ev_dgetX {k : κ} {x : α} {td : TE} {R : Rr M.fp} (ke : KeyT τk e) (hd : Ev M td σ Z H s R s1) (hR : ∀ Z H v, Same Z H → R.r Z H v → ∃ a ws, v = .ref a ∧ a ∉ M.fp ∧ H a = some (.dK ws) ∧ DA e (τ.r Z) ws kvs) (ek : Ev M tk σ Z H s1 (ty τk k) s2) (ed : Ev M tx σ Z H s2 (ty τ x) s3) : Ev M (tDGet2 td tk tx) σ Z H s (ty τ ((getA kvs k).getD x)) s3 :=
  fun Z1 H1 a b c d Q q => hd Z1 H1 a b c d _ fun v Z2 H2 g m rv => by
    obtain ⟨p, ws, rfl, np, hp, t⟩ := hR _ _ _ g.s rv
    refine ⟨p, rfl, .inl ⟨ws, .inl hp⟩, ek Z2 H2 (a.trans g.z) (b.trans g.h) g.s m _ fun v2 Z3 H3 g2 m2 rk => ed Z3 H3 ((a.trans g.z).trans g2.z) ((b.trans g.h).trans g2.h) g2.s m2 _ fun v3 Z4 H4 g3 m3 rx => ?_⟩
    have hp4 := g3.h _ _ np (g2.h _ _ np hp)
    rw [ke.v _ _ _ rk]
    refine ⟨_, DGet.k hp4, ?_⟩
    rcases t.get ke.inj k with ⟨e1, e2⟩ | ⟨y, w, e1, e2, r⟩
    · rw [e2]
      exact q _ _ _ ((g.trans g2).trans g3) m3 (by rw [e1]; exact rx)
    · rw [e2]
      exact q _ _ _ ((g.trans g2).trans g3) m3 (by rw [e1]; exact τ.mono (g2.trans g3).z r)
/-- d.get(k, x) of a dict of one's own -/
theorem ev_dget {i : Nat} {k : κ} {x : α} (ke : KeyT τk e) (o : OwnD S H0 M.fp Z H e τ p kvs) (hσ : σ[i]? = some (some (.ref p))) (ek : Ev M tk σ Z H s (ty τk k) s1) (ed : Ev M tx σ Z H s1 (ty τ x) s2) : Ev M (tDGet2 (tVar i) tk tx) σ Z H s (ty τ ((getA kvs k).getD x)) s2 := by
  obtain ⟨ws, h, t⟩ := o.ex
  refine ev_dgetX (R := ⟨fun Z1 H1 v => v = .ref p ∧ H1 p = some (.dK ws) ∧ DA e (τ.r Z1) ws kvs, ?_⟩) ke (fun Z1 H1 a b c d Q q => ⟨.ref p, hσ, q _ Z1 H1 (Step.refl c) d ⟨rfl, b _ _ o.n h, t.imp fun _ _ => τ.mono a⟩⟩) (fun Z1 H1 v _ ⟨ev, hp, t1⟩ => ⟨p, ws, ev, o.n, hp, t1⟩) ek ed
  first
    | exact fun g ⟨e1, hp, t1⟩ => ⟨e1, g.h _ _ o.n hp, t1.imp fun _ _ => τ.mono g.z⟩
    | exact fun _ _ _ _ _ g ⟨e1, hp, t1⟩ => ⟨e1, g.h _ _ o.n hp, t1.imp fun _ _ => τ.mono g.z⟩
end

/-! ### keys that are tuples of integers -/
section
variable {α : Type}
def yKeyI : Ty (List Int) := ⟨fun Z v k => ∃ b, v = .ref b ∧ Z b = some (.tup (k.map V.int)), fun s ⟨b, e, h⟩ => ⟨b, e, s _ _ h⟩⟩
theorem nn_ikey : NonNil yKeyI := fun _ _ _ ⟨_, h, _⟩ => by rw [h]; exact fun z => nomatch z
def keyI (k : List Int) : List Key := k.map Sum.inl
theorem keyI_inj (a b : List Int) (h : keyI a = keyI b) : a = b := by
  have := congrArg (List.map fun k : Key => match k with | .inl i => i | .inr _ => 0) h
  unfold keyI at this
  rw [List.map_map, List.map_map] at this
  have i : ∀ xs : List Int, xs.map ((fun k : Key => match k with | .inl i => i | .inr _ => (0 : Int)) ∘ Sum.inl) = xs := fun xs => by
    rw [show (fun k : Key => match k with | .inl i => i | .inr _ => (0 : Int)) ∘ Sum.inl = id from rfl, List.map_id]
  rwa [i, i] at this
theorem keyI_V (k : List Int) : (keyI k).map kV = k.map V.int := by
  unfold keyI
  rw [List.map_map]
  rfl
variable {μ : Type} {S : List Addr} {Z0 H0 : Hp} {M : Mu μ} {σ : L2.St} {Z H : Hp} {s s' s1 s2 s3 : μ} {te tk tx ta : TE} {K : PySem.W.Frag} {D : Ends} {τ : Ty α} {kvs : List (List Int × α)} {p : Addr} {fp : List Addr}
theorem ev_tupleK {r : List V → Hp → VK → Prop} {xs : List Int} (hr : ∀ xs H Q, (∃ p ys, xs = [.ref p] ∧ ((SqL K H p ys ∧ ∀ l, H l = none → Q (.ref l) (upd H l (.tup ys))) ∨ (SqT K H p ys ∧ Q (.ref p) H))) → r xs H Q) (ha : Ev M ta σ Z H s (li yInt xs) s1) : Ev M (tCB r (tCons ta tNil)) σ Z H s (ty yKeyI xs) s1 :=
  ev_cb (eva_cons ha eva_nil) fun _ _ _ sz ⟨v, r, e, h, e2⟩ _ q => by
    cases e2; cases e
    obtain ⟨p, vs, rfl, g, t, l⟩ := rdl sz h
    have hv : vs = xs.map V.int := All.ints t
    exact hr _ _ _ ⟨p, vs, rfl, .inl ⟨SqL.of g, fun d hd => q _ _ _ (Step.new sz hd) ⟨d, rfl, by rw [upd_same, hv]⟩⟩⟩
/-- a dict of one's own with such keys -/
structure OwnT (S : List Addr) (H0 : Hp) (fp : List Addr) (Z H : Hp) (τ : Ty α) (p : Addr) (kvs : List (List Int × α)) : Prop where
  ex : ∃ ws, H p = some (.dT ws) ∧ DA keyI (τ.r Z) ws kvs
  z : Z p = none
  n : p ∉ fp
  mine : H0 p = none
  l : kvs.length ≤ sizeLine
theorem OwnT.step {F : List Addr} {Z1 H1 : Hp} (o : OwnT S H0 fp Z H τ p kvs) (g : Step F Z H Z1 H1) (n : p ∉ F) : OwnT S H0 fp Z1 H1 τ p kvs := by
  obtain ⟨vs, h, t⟩ := o.ex
  exact ⟨⟨vs, g.h _ _ n h, t.imp fun _ _ => τ.mono g.z⟩, g.n _ (some_ne h) o.z, o.n, o.mine, o.l⟩
theorem OwnT.next {Z1 H1 : Hp} (o : OwnT S H0 fp Z H τ p kvs) (g : Step fp Z H Z1 H1) : OwnT S H0 fp Z1 H1 τ p kvs := o.step g o.n
theorem OwnT.ne (o : OwnT S H0 fp Z H τ p kvs) {q : Addr} (h : H q = none) : p ≠ q := by
  obtain ⟨vs, hp, _⟩ := o.ex
  exact ne_of_some (some_ne hp) h
theorem OwnT.keep {Z1 : Hp} (o : OwnT S H0 fp Z H τ p kvs) (g : Same Z Z1) (n : Z1 p = none) : OwnT S H0 fp Z1 H τ p kvs := by
  obtain ⟨vs, h, t⟩ := o.ex
  exact ⟨⟨vs, h, t.imp fun _ _ => τ.mono g⟩, n, o.n, o.mine, o.l⟩
theorem OwnT.left {F G : List Addr} (o : OwnT S H0 (F ++ G) Z H τ p kvs) : OwnT S H0 F Z H τ p kvs := ⟨o.ex, o.z, fun h => o.n (List.mem_append_left _ h), o.mine, o.l⟩
theorem st_setDT {i : Nat} (P : Pt S Z0 H0 M Z H s) (k : ∀ p Z1 H1, Step M.fp Z H Z1 H1 → Pt S Z0 H0 M Z1 H1 s → H p = none → OwnT S H0 M.fp Z1 H1 τ p ([] : List (List Int × α)) → D.nx (σ.set i (some (.ref p))) H1) : tAsg tDNewT (gName i) D σ H := fun p hp => by
  have e4 : Step M.fp Z H Z (upd H p (.dT [])) := (Step.own (o := .dT []) P.sub hp).pure
  exact k p Z _ e4 (P.next e4 (M.pure (Step.own (o := .dT []) P.sub hp) P.m)) hp ⟨⟨[], upd_same, .nil⟩, same_none P.sub hp, fun hf => (M.al P.m p hf).1 hp, same_x P.st hp, Nat.zero_le _⟩
theorem st_dputT {i : Nat} {k : List Int} {x : α} (P : Pt S Z0 H0 M Z H s) (o : OwnT S H0 M.fp Z H τ p kvs) (hσ : σ[i]? = some (some (.ref p))) (ex : Ev M te σ Z H s (ty τ x) s1) (ek : ∀ Z1 H1, Step M.fp Z H Z1 H1 → Ev M tk σ Z1 H1 s1 (ty yKeyI k) s2) (l : kvs.length < sizeLine)
    (kk : ∀ Z1 H1, Step (p :: M.fp) Z H Z1 H1 → Pt S Z0 H0 M Z1 H1 s2 → OwnT S H0 M.fp Z1 H1 τ p (putA kvs k x) → D.nx σ H1) : tAsg te (gSub (tVar i) tk rSetD) D σ H := by
  obtain ⟨vs, h, t⟩ := o.ex
  refine ex Z H (Same.refl _) SameX.refl P.sub P.m _ fun v Z1 H1 e1 m r => ⟨.ref p, hσ, ek Z1 H1 e1 Z1 H1 (Same.refl _) SameX.refl e1.s m _ fun v2 Z2 H2 e2 m2 ⟨b, eb, hb⟩ => ?_⟩
  have o1 := (o.next e1).next e2
  have P1 := (P.next e1 m).next e2 m2
  have hl : vs.length < sizeLine := by rw [t.len]; exact l
  have hb2 : H2 b = some (.tup ((keyI k).map kV)) := by rw [keyI_V]; exact e2.s _ _ hb
  show ∃ a H', V.ref p = .ref a ∧ DPut H2 a v2 v H' ∧ D.nx σ H'
  refine ⟨p, _, rfl, by rw [eb]; exact DPut.t (e2.h _ _ o.n (e1.h _ _ o.n h)) hb2 hl, ?_⟩
  exact kk _ _ (step2 (e1.trans e2) o1.z) (P1.set o1.z o.n (.inr o.mine)) ⟨⟨_, upd_same, (t.imp fun _ _ => τ.mono (e1.trans e2).z).put keyI_inj (τ.mono e2.z r)⟩, o1.z, o.n, o.mine, Nat.le_trans (putA_len _ _ _) l⟩
/-- d[k] of a dict of one's own -/
theorem ev_dixT {i : Nat} {k : List Int} {x : α} (o : OwnT S H0 M.fp Z H τ p kvs) (hσ : σ[i]? = some (some (.ref p))) (ek : Ev M tk σ Z H s (ty yKeyI k) s1) (hx : getA kvs k = some x) : Ev M (tDGet (tVar i) tk) σ Z H s (ty τ x) s1 := by
  obtain ⟨ws, h, t⟩ := o.ex
  intro Z1 H1 a b c d Q q
  refine ⟨.ref p, hσ, ek Z1 H1 a b c d _ fun v2 Z2 H2 e m ⟨b', eb, hb⟩ => ?_⟩
  have hp2 : H2 p = some (.dT ws) := e.h _ _ o.n (b _ _ o.n h)
  have hb2 : H2 b' = some (.tup ((keyI k).map kV)) := by rw [keyI_V]; exact e.s _ _ hb
  rcases t.get keyI_inj k with ⟨e1, _⟩ | ⟨y, w, e1, e2, r⟩
  · rw [e1] at hx; cases hx
  · rw [e1] at hx
    cases hx
    refine ⟨p, w, rfl, ?_, q _ _ _ e m (τ.mono (a.trans e.z) r)⟩
    rw [eb, ← e2]
    exact DGet.t hp2 hb2
theorem ev_dinT {i : Nat} {k : List Int} (o : OwnT S H0 M.fp Z H τ p kvs) (hσ : σ[i]? = some (some (.ref p))) (ek : Ev M tk σ Z H s (ty yKeyI k) s1) : Ev M (tDIn tk (tVar i)) σ Z H s (ty yBool (getA kvs k).isSome) s1 := by
  obtain ⟨ws, h, t⟩ := o.ex
  intro Z1 H1 a b c d Q q
  refine ek Z1 H1 a b c d _ fun v2 Z2 H2 e m ⟨b', eb, hb⟩ => ⟨.ref p, hσ, ?_⟩
  have hp2 : H2 p = some (.dT ws) := e.h _ _ o.n (b _ _ o.n h)
  have hb2 : H2 b' = some (.tup ((keyI k).map kV)) := by rw [keyI_V]; exact e.s _ _ hb
  refine ⟨p, valV ws (keyI k), rfl, by rw [eb]; exact DGet.t hp2 hb2, q _ _ _ e m ?_⟩
  rcases t.get keyI_inj k with ⟨e1, e2⟩ | ⟨y, w, e1, e2, r⟩ <;> rw [e1, e2] <;> rfl
theorem ev_dnotinT {i : Nat} {k : List Int} (o : OwnT S H0 M.fp Z H τ p kvs) (hσ : σ[i]? = some (some (.ref p))) (ek : Ev M tk σ Z H s (ty yKeyI k) s1) : Ev M (tDNotIn tk (tVar i)) σ Z H s (ty yBool (!(getA kvs k).isSome)) s1 := by
  obtain ⟨ws, h, t⟩ := o.ex
  intro Z1 H1 a b c d Q q
  refine ek Z1 H1 a b c d _ fun v2 Z2 H2 e m ⟨b', eb, hb⟩ => ⟨.ref p, hσ, ?_⟩
  have hp2 : H2 p = some (.dT ws) := e.h _ _ o.n (b _ _ o.n h)
  have hb2 : H2 b' = some (.tup ((keyI k).map kV)) := by rw [keyI_V]; exact e.s _ _ hb
  refine ⟨p, valV ws (keyI k), rfl, by rw [eb]; exact DGet.t hp2 hb2, q _ _ _ e m ?_⟩
  rcases t.get keyI_inj k with ⟨e1, e2⟩ | ⟨y, w, e1, e2, r⟩ <;> rw [e1, e2] <;> rfl
end
end TP

namespace TP
open PySem PySem.Spec PyProof.Rows L2
/-! what is never evaluated, and a dict's comprehension over nothing -/
theorem pe_dead {X : Cx} {e : Expr} : PE X e (fun _ _ _ => False) := ⟨fun _ _ _ _ _ _ h => h.elim⟩
theorem pt_dead {X : Cx} {e : Expr} : PT X e (fun _ _ _ => False) := ⟨fun _ _ _ _ _ _ h => h.elim⟩
theorem pg_dead {X : Cx} {e : Expr} : PG X e (fun _ _ _ _ => False) := ⟨fun _ _ _ _ _ _ _ _ _ h => h.elim⟩
section
variable {μ : Type} {S : List Addr} {Z0 H0 : Hp} {M : Mu μ} {σ : L2.St} {Z H : Hp} {s s1 : μ} {D : Ends} {α α0 κ : Type} {τ : Ty α} {τ0 : Ty α0} {xs : List α0} {e : κ → Key} {wi : TI} {g : TG} {tt : TT} {tk tv : TE} {vs : List Nat}
theorem st_dc0 {i : Nat} (P : Pt S Z0 H0 M Z H s) (hi : EvI M (SameX M.fp) wi σ Z H s τ0 xs s1) (hx : xs = []) (k : ∀ p Z1 H1, Step M.fp Z H Z1 H1 → Pt S Z0 H0 M Z1 H1 s1 → H p = none → OwnD S H0 M.fp Z1 H1 e τ p ([] : List (κ × α)) → D.nx (σ.set i (some (.ref p))) H1) : tAsg (tDc wi g tt tk tv vs) (gName i) D σ H := by
  subst hx
  refine hi Z H (Same.refl _) SameX.refl P.sub P.m _ fun J Z2 H2 e1 m w p hp => ?_
  obtain ⟨_, G, Y, wk, hG, _⟩ := w
  have P2 := P.next e1 m
  have st := (Step.own (o := .dK []) P2.sub hp).pure (S := M.fp)
  have hn : H p = none := by
    cases q : H p with
    | none => rfl
    | some o => exact absurd hp (e1.al p (by rw [q]; exact fun z => nomatch z))
  refine ⟨fun i _ H => i = 0 ∧ H = upd H2 p (.dK []), ⟨0, rfl, rfl⟩, ?_⟩
  rintro _ _ _ ⟨rfl, rfl⟩
  refine .inl ⟨wk.stops _ (hG Z2 _ (Same.refl _) (st.s) fun a o na h => by rw [upd_ne (ne_of_none h hp)]; exact h), ?_⟩
  exact k p Z2 _ (e1.trans st) (P2.next st (M.pure (Step.own (o := .dK []) P2.sub hp) P2.m)) hn ⟨⟨[], upd_same, .nil⟩, same_none P2.sub hp, fun hf => (M.al P2.m p hf).1 hp, same_x P2.st hp, Nat.zero_le _⟩
end
end TP

namespace K70
open PySem PySem.Spec PyProof.Rows L2
open C8 (tCut pss_cut)
/-! the text by places -/
def topS (i : Nat) : Stmt := PySem.Challenge.pw_surenear_k70_names_belong_to_shards.main.body.getD i (.Pass ⟨0, 0, 0, 0⟩)
abbrev s_law_row : Stmt := (topS 41)
abbrev s_law_next : Stmt := (topS 42)
abbrev s_check_key : Stmt := (topS 14)
abbrev s_Ledger___init__ : Stmt := (inClass (topS 21) 0)
abbrev s_Catalog___init__ : Stmt := (inClass (topS 24) 0)
abbrev s_is_letter : Stmt := (topS 26)
abbrev s_is_digit : Stmt := (topS 27)
abbrev s_is_word : Stmt := (topS 28)
abbrev s_check_vectors : Stmt := (topS 35)
abbrev s_check_fields : Stmt := (topS 36)
abbrev s_Schema___init__ : Stmt := (inClass (topS 34) 0)
abbrev s_law_word : Stmt := (topS 43)
abbrev s_law_due : Stmt := (topS 44)
abbrev s_Catalog_shard_of : Stmt := (inClass (topS 24) 9)
abbrev s_Catalog_route : Stmt := (inClass (topS 24) 5)
abbrev s_Catalog_outcome_of : Stmt := (inClass (topS 24) 2)
abbrev s_Catalog_close_lost : Stmt := (inClass (topS 24) 7)
abbrev s_Catalog_apply : Stmt := (inClass (topS 24) 1)
abbrev s_law : Stmt := (topS 45)
theorem sc_law_row : FnScope ["script", "k", "cell", "a", "b", "c"] ["script", "k"] (defScope s_law_row) := ⟨rfl, rfl, rfl, by decide +kernel, rfl, by decide +kernel, by decide +kernel⟩
theorem sc_law_next : FnScope ["state", "many", "drawn"] ["state", "many"] (defScope s_law_next) := ⟨rfl, rfl, rfl, by decide +kernel, rfl, by decide +kernel, by decide +kernel⟩
theorem sc_check_key : FnScope ["key", "number"] ["key"] (defScope s_check_key) := ⟨rfl, rfl, rfl, by decide +kernel, rfl, by decide +kernel, by decide +kernel⟩
theorem sc_Ledger___init__ : FnScope ["self", "schema", "key"] ["self", "schema", "key"] (defScope s_Ledger___init__) := ⟨rfl, rfl, rfl, by decide +kernel, rfl, by decide +kernel, by decide +kernel⟩
theorem sc_Catalog___init__ : FnScope ["self", "schema", "key", "shard"] ["self", "schema", "key", "shard"] (defScope s_Catalog___init__) := ⟨rfl, rfl, rfl, by decide +kernel, rfl, by decide +kernel, by decide +kernel⟩
theorem sc_is_letter : FnScope ["char"] ["char"] (defScope s_is_letter) := ⟨rfl, rfl, rfl, by decide +kernel, rfl, by decide +kernel, by decide +kernel⟩
theorem sc_is_digit : FnScope ["char"] ["char"] (defScope s_is_digit) := ⟨rfl, rfl, rfl, by decide +kernel, rfl, by decide +kernel, by decide +kernel⟩
theorem sc_is_word : FnScope ["text", "char"] ["text"] (defScope s_is_word) := ⟨rfl, rfl, rfl, by decide +kernel, rfl, by decide +kernel, by decide +kernel⟩
theorem sc_check_vectors : FnScope ["size", "width", "measure"] ["size", "width", "measure"] (defScope s_check_vectors) := ⟨rfl, rfl, rfl, by decide +kernel, rfl, by decide +kernel, by decide +kernel⟩
theorem sc_check_fields : FnScope ["fields", "name", "kind", "_"] ["fields"] (defScope s_check_fields) := ⟨rfl, rfl, rfl, by decide +kernel, rfl, by decide +kernel, by decide +kernel⟩
theorem sc_Schema___init__ : FnScope ["self", "size", "width", "measure", "fields", "pair"] ["self", "size", "width", "measure", "fields"] (defScope s_Schema___init__) := ⟨rfl, rfl, rfl, by decide +kernel, rfl, by decide +kernel, by decide +kernel⟩
theorem sc_law_word : FnScope ["state", "word", "turn"] ["state"] (defScope s_law_word) := ⟨rfl, rfl, rfl, by decide +kernel, rfl, by decide +kernel, by decide +kernel⟩
theorem sc_law_due : FnScope ["routes", "name", "best", "low", "shard"] ["routes", "name"] (defScope s_law_due) := ⟨rfl, rfl, rfl, by decide +kernel, rfl, by decide +kernel, by decide +kernel⟩
theorem sc_Catalog_shard_of : FnScope ["self", "name", "low", "shard"] ["self", "name"] (defScope s_Catalog_shard_of) := ⟨rfl, rfl, rfl, by decide +kernel, rfl, by decide +kernel, by decide +kernel⟩
theorem sc_Catalog_route : FnScope ["self", "low", "shard", "others", "pair"] ["self", "low", "shard"] (defScope s_Catalog_route) := ⟨rfl, rfl, rfl, by decide +kernel, rfl, by decide +kernel, by decide +kernel⟩
theorem sc_Catalog_outcome_of : FnScope ["self", "deed", "kind", "pair"] ["self", "deed"] (defScope s_Catalog_outcome_of) := ⟨rfl, rfl, rfl, by decide +kernel, rfl, by decide +kernel, by decide +kernel⟩
theorem sc_Catalog_close_lost : FnScope ["self", "there", "segment", "number", "shard", "name", "title"] ["self"] (defScope s_Catalog_close_lost) := ⟨rfl, rfl, rfl, by decide +kernel, rfl, by decide +kernel, by decide +kernel⟩
theorem sc_Catalog_apply : FnScope ["self", "deed", "outcome"] ["self", "deed"] (defScope s_Catalog_apply) := ⟨rfl, rfl, rfl, by decide +kernel, rfl, by decide +kernel, by decide +kernel⟩
theorem sc_law : FnScope ["script", "state", "catalog", "routes", "turn", "low", "shard", "row", "name"] ["script"] (defScope s_law) := ⟨rfl, rfl, rfl, by decide +kernel, rfl, by decide +kernel, by decide +kernel⟩
/-! the mathematics -/
open TP

theorem getD_lt {ns : List Int} {k : Nat} (h : k < ns.length) : ns[k]? = some (ns.getD k 0) := by
  rw [List.getD_eq_getElem?_getD, List.getElem?_eq_getElem h]; rfl
theorem getD_ge {ns : List Int} {k : Nat} (h : ¬ k < ns.length) : ns.getD k 0 = 0 := by
  rw [List.getD_eq_getElem?_getD, List.getElem?_eq_none (by omega)]; rfl
def row1 (ns : List Int) (k : Nat) : Int := if ns.getD k 0 < 0 then -2 * ns.getD k 0 - 1 else ns.getD k 0
def rowA (c : Int) (k : Nat) : Int := (c * 48271 + k * 69621 + 11) % 2147483647
def rowB (a c : Int) (k : Nat) : Int := (a * 16807 + c * 7 + k + 5) % 2147483629
def rowC (a b : Int) : Int := (b * 39373 + a * b + 3) % 2147483587
theorem rowZ_hi {ns : List Int} {k : Nat} (h : ¬ row1 ns k < 10 ^ 9) : rowZ ns k = row1 ns k := by
  unfold rowZ
  exact if_neg h
theorem rowZ_lo {ns : List Int} {k : Nat} (h : row1 ns k < 10 ^ 9) : rowZ ns k = rowA (row1 ns k) k + rowB (rowA (row1 ns k) k) (row1 ns k) k * 2147483647 + rowC (rowA (row1 ns k) k) (rowB (rowA (row1 ns k) k) (row1 ns k) k) * 2147483647 ^ 2 := by
  unfold rowZ
  exact if_pos h
theorem row1_nn (ns : List Int) (k : Nat) : 0 ≤ row1 ns k := by
  unfold row1
  by_cases h : ns.getD k 0 < 0
  · rw [if_pos h]; omega
  · rw [if_neg h]; omega
theorem rowZ_nn (ns : List Int) (k : Nat) : 0 ≤ rowZ ns k := by
  by_cases h : row1 ns k < 10 ^ 9
  · rw [rowZ_lo h]
    have a0 : 0 ≤ rowA (row1 ns k) k := Int.emod_nonneg _ (by decide)
    have b0 : 0 ≤ rowB (rowA (row1 ns k) k) (row1 ns k) k := Int.emod_nonneg _ (by decide)
    have d0 : 0 ≤ rowC (rowA (row1 ns k) k) (rowB (rowA (row1 ns k) k) (row1 ns k) k) := Int.emod_nonneg _ (by decide)
    have e2 : (2147483647 : Int) ^ 2 = 4611686014132420609 := by decide
    rw [e2]
    omega
  · rw [rowZ_hi h]; exact row1_nn ns k

inductive Exc
  | InvalidSchema
  | InvalidKey
deriving DecidableEq

abbrev lq_Catalog_route : Str := ("Catalog.route" : Str) ++ ".<locals>." ++ "<lambda>"
structure Schema where
  size : Int
  width : Str
  measure : Str
  fields : (List (Str × Str))
deriving DecidableEq
structure Ledger where
  schema : Schema
  key : (List Int)
  now : Int
  floor : Int
  pins : (List Int)
  notes : (List Int)
  segments : (List Int)
  upcoming : Int
deriving DecidableEq
structure Catalog where
  ledger : Ledger
  titles : (List (Int × Int × Str))
  closed : (List (Int × Str))
  routes : (List (Str × Int))
  begins : Int
deriving DecidableEq
def in_WIDTHS (z : Str) : Option Bool :=
  if z = "bit" then some true else
  if z = "small" then some true else
  if z = "wide" then some true else none


def L_check_key_1 (x_2 : Int) (w_1 : Unit) : Option (Flow (Res Exc Unit) Unit) :=
  if ((decide (x_2 < (0 : Int))) || (decide ((4294967291 : Int) ≤ x_2))) = true then
  some (Flow.ret (Res.er Exc.InvalidKey))
  else
  some (Flow.go ())
def F_check_key (x_key : (List Int)) : Option (Res Exc Unit) :=
  (forS L_check_key_1 x_key ()).bind (Flow.thn (fun w_10 =>
  some (Res.ok ())) (fun r => some r))
def F_Ledger___init__ (x_schema : Schema) (x_key : (List Int)) : Option (Res Exc Ledger) :=
  (F_check_key x_key).bind (Res.thn (fun e => some (Res.er e)) fun r_19 =>
  some (Res.ok (⟨x_schema, x_key, (0 : Int), (0 : Int), ([] : List Int), ([] : List Int), ([] : List Int), (1 : Int)⟩ : Ledger)))
def F_Catalog___init__ (x_schema : Schema) (x_key : (List Int)) (x_shard : Int) : Option (Res Exc Catalog) :=
  (Res.val (F_Ledger___init__ x_schema x_key)).bind fun r_39 =>
  (some ([] : List (Int × Int × Str))).bind fun x_titles_43 =>
  (some ([(("" : Str), x_shard)] : List (Str × Int))).bind fun x_routes_49 =>
  some (Res.ok (⟨r_39, x_titles_43, ([] : List (Int × Str)), x_routes_49, (0 : Int)⟩ : Catalog))
def F_is_letter (x_char : Str) : Bool :=
  (((!decide (x_char.cps.toList < ("a" : Str).cps.toList)) && (!decide (("z" : Str).cps.toList < x_char.cps.toList))) || (((!decide (x_char.cps.toList < ("A" : Str).cps.toList)) && (!decide (("Z" : Str).cps.toList < x_char.cps.toList))) || (decide (x_char = ("_" : Str)))))
def F_is_digit (x_char : Str) : Bool :=
  ((!decide (x_char.cps.toList < ("0" : Str).cps.toList)) && (!decide (("9" : Str).cps.toList < x_char.cps.toList)))
def F_is_word (x_text : Str) : Option Bool :=
  (if (decide (x_text = ("" : Str))) = true then some true else ((atSi x_text (0 : Int)).bind fun i_59 =>
  some (!(F_is_letter i_59)))).bind fun b_62 =>
  if b_62 = true then
  some false
  else
  some (((x_text.cps.toList.map fun c => (⟨#[c]⟩ : Str)).map (fun (x_64 : Str) => ((F_is_letter x_64) || (F_is_digit x_64)))).all id)
def F_check_vectors (x_size : Int) (x_width : Str) (x_measure : Str) : Option (Res Exc Unit) :=
  if (decide (x_size < (1 : Int))) = true then
  some (Res.er Exc.InvalidSchema)
  else
  (in_WIDTHS x_width).bind fun b_68 =>
  if (!b_68) = true then
  some (Res.er Exc.InvalidSchema)
  else
  if (!decide (x_measure ∈ (["square", "dot", "bits"] : List Str))) = true then
  some (Res.er Exc.InvalidSchema)
  else
  if ((decide (x_measure = ("bits" : Str))) && (!decide (x_width = ("bit" : Str)))) = true then
  some (Res.er Exc.InvalidSchema)
  else
  some (Res.ok ())
def L_check_fields_1 (x_74 : (Str × Str)) (w_73 : Unit) : Option (Flow (Res Exc Unit) Unit) :=
  (F_is_word x_74.1).bind fun r_97 =>
  if ((!r_97) || (decide (x_74.1 ∈ (["every", "has", "in", "and", "or", "not", "true", "false"] : List Str)))) = true then
  some (Flow.ret (Res.er Exc.InvalidSchema))
  else
  if (!decide (x_74.2 ∈ (["integer", "text", "flag"] : List Str))) = true then
  some (Flow.ret (Res.er Exc.InvalidSchema))
  else
  some (Flow.go ())
def F_check_fields (x_fields : (List (Str × Str))) : Option (Res Exc Unit) :=
  (forS L_check_fields_1 x_fields ()).bind (Flow.thn (fun w_84 =>
  if (x_fields.map (fun (x_103 : (Str × Str)) => x_103.1)).length ≤ 1000 then
  if (decide (((uZ (x_fields.map (fun (x_103 : (Str × Str)) => x_103.1))).length : Int) < (x_fields.length : Int))) = true then
  some (Res.er Exc.InvalidSchema)
  else
  some (Res.ok ()) else none) (fun r => some r))
def F_Schema___init__ (x_size : Int) (x_width : Str) (x_measure : Str) (x_fields : (List (Str × Str))) : Option (Res Exc Schema) :=
  (F_check_vectors x_size x_width x_measure).bind (Res.thn (fun e => some (Res.er e)) fun r_127 =>
  (F_check_fields x_fields).bind (Res.thn (fun e => some (Res.er e)) fun r_131 =>
  some (Res.ok (⟨x_size, x_width, x_measure, x_fields⟩ : Schema))))
def L_law_word_1 (x_141 : Int) (w_140 : (Str × DS)) : Option (Str × DS) :=
  (atSi ("abz" : Str) (nxV w_140.2 (3 : Int))).bind fun i_157 =>
  if w_140.1.length + i_157.length ≤ 16777216 then
  some ((w_140.1 ++ i_157), (nxS w_140.2 (3 : Int))) else none
def F_law_word (ds : DS) : Option (Str × DS) :=
  if RangeOk 0 (nxV ds (3 : Int)) then
  (forF L_law_word_1 (rangeZ 0 (nxV ds (3 : Int))) (("" : Str), (nxS ds (3 : Int)))).bind fun w_150 =>
  some (w_150.1, w_150.2) else none
def L_law_due_1 (x_name : Str) (x_169 : (Str × Int)) (w_168 : (Option (Str × Int))) : Option (Option (Str × Int)) :=
  (if (!decide (x_name.cps.toList < x_169.1.cps.toList)) = true then ((if w_168.isNone = true then some true else ((w_168).bind fun u_195 =>
  some (decide (u_195.1.cps.toList < x_169.1.cps.toList)))).bind fun b_198 =>
  some b_198) else some false).bind fun b_200 =>
  if b_200 = true then
  (some (some (x_169.1, x_169.2))).bind fun x_best_202 =>
  some x_best_202
  else
  some w_168
def F_law_due (x_routes : (List (Str × Int))) (x_name : Str) : Option Int :=
  (forF (L_law_due_1 x_name) x_routes none).bind fun w_180 =>
  (w_180).bind fun u_208 =>
  some u_208.2
def F_Catalog_shard_of (ds : Catalog) (x_name : Str) : Option Int :=
  (atI ((ds.routes.filter (fun (x_221 : (Str × Int)) => (!decide (x_name.cps.toList < x_221.1.cps.toList)))).map (fun (x_221 : (Str × Int)) => x_221.2)) (-(1 : Int))).bind fun i_230 =>
  some i_230
def F_Catalog_route (ds : (Catalog × Unit)) (x_low : Str) (x_shard : Int) : Option (Int × (Catalog × Unit)) :=
  (some (ds.1.routes.filter (fun (x_246 : (Str × Int)) => (!decide (x_246.1 = x_low))))).bind fun x_others_250 =>
  if x_others_250.length + ([(x_low, x_shard)] : List (Str × Int)).length ≤ 16777216 then
  if (x_others_250 ++ ([(x_low, x_shard)] : List (Str × Int))).length ≤ 1000 then
  (mapO (fun (x_255 : (Str × Int)) => (some x_255.1 : Option Str)) (x_others_250 ++ ([(x_low, x_shard)] : List (Str × Int)))).bind fun l_260 =>
  (some (SLam.sortV (x_others_250 ++ ([(x_low, x_shard)] : List (Str × Int))) (l_260.map PyData.str))).bind fun x_routes_262 =>
  some (x_shard, ({ ds.1 with routes := x_routes_262 }, ds.2)) else none else none
def F_Catalog_outcome_of (ds : (Catalog × Unit)) (x_deed : (Str × Str × Int)) : Option (Int × (Catalog × Unit)) :=
  if (decide (x_deed.1 = ("put" : Str))) = true then
  none
  else
  if (decide (x_deed.1 = ("drop" : Str))) = true then
  none
  else
  if (decide (x_deed.1 = ("pin" : Str))) = true then
  none
  else
  if (decide (x_deed.1 = ("unpin" : Str))) = true then
  none
  else
  if (decide (x_deed.1 = ("lift" : Str))) = true then
  none
  else
  if (decide (x_deed.1 = ("own" : Str))) = true then
  none
  else
  if (decide (x_deed.1 = ("route" : Str))) = true then
  (F_Catalog_route (ds.1, ds.2) x_deed.2.1 x_deed.2.2).bind fun r_276 =>
  some (r_276.1, (r_276.2.1, r_276.2.2))
  else
  if (decide (x_deed.1 = ("begin" : Str))) = true then
  none
  else
  (if (decide (x_deed.1 = ("close" : Str))) = true then
  none
  else
  none : Option (Catalog × Unit)).bind fun w_281 =>
  none
def L_Catalog_close_lost_1 (x_294 : (Int × Int × Str)) (w_293 : Catalog) : Option Catalog :=
  none
def F_Catalog_close_lost (ds : Catalog) : Option (Unit × Catalog) :=
  if ds.ledger.segments = [] then
  (forF L_Catalog_close_lost_1 ds.titles ds).bind fun w_306 =>
  (fmO (fun (x_325 : (Int × Int × Str)) => (((none : Option Bool)).bind fun b_329 =>
  if b_329 = true then (some (some x_325)) else some none : Option (Option (Int × Int × Str)))) w_306.titles).bind fun l_331 =>
  some ((), { w_306 with titles := l_331 }) else none
def F_Catalog_apply (ds : (Catalog × Unit)) (x_deed : (Str × Str × Int)) : Option (Int × (Catalog × Unit)) :=
  (F_Catalog_outcome_of (ds.1, ds.2) x_deed).bind fun r_339 =>
  (F_Catalog_close_lost r_339.2.1).bind fun r_343 =>
  some (r_339.1, (r_343.2, r_339.2.2))
def L_law_1 (x_359 : Int) (w_358 : ((List (Str × Int)) × ((DS × Unit) × Catalog))) : Option (Flow Bool ((List (Str × Int)) × ((DS × Unit) × Catalog))) :=
  (F_law_word w_358.2.1.1).bind fun r_385 =>
  if (w_358.1.filter (fun (x_395 : (Str × Int)) => (!decide (x_395.1 = r_385.1)))).length + ([(r_385.1, (nxV r_385.2 (5 : Int)))] : List (Str × Int)).length ≤ 16777216 then
  (some ((w_358.1.filter (fun (x_395 : (Str × Int)) => (!decide (x_395.1 = r_385.1)))) ++ ([(r_385.1, (nxV r_385.2 (5 : Int)))] : List (Str × Int)))).bind fun x_routes_400 =>
  (F_Catalog_apply (w_358.2.2, w_358.2.1.2) (("route" : Str), r_385.1, (nxV r_385.2 (5 : Int)))).bind fun r_404 =>
  if (!decide (r_404.1 = (nxV r_385.2 (5 : Int)))) = true then
  some (Flow.ret false)
  else
  some (Flow.go (x_routes_400, (((nxS r_385.2 (5 : Int)), r_404.2.2), r_404.2.1))) else none
def L_law_2 (w_373 : ((List (Str × Int)) × ((DS × Unit) × Catalog))) (x_415 : Int) (w_414 : ((DS × Unit) × Catalog)) : Option (Flow Bool ((DS × Unit) × Catalog)) :=
  (F_law_word w_414.1.1).bind fun r_441 =>
  (F_law_word r_441.2).bind fun r_443 =>
  if r_441.1.length + r_443.1.length ≤ 16777216 then
  (F_Catalog_shard_of w_414.2 (r_441.1 ++ r_443.1)).bind fun r_448 =>
  (F_law_due w_373.1 (r_441.1 ++ r_443.1)).bind fun r_450 =>
  if (!decide (r_448 = r_450)) = true then
  some (Flow.ret false)
  else
  some (Flow.go ((r_443.2, w_414.1.2), w_414.2)) else none
def F_law (ns : List Int) : Option Bool :=
  (Res.val (F_Schema___init__ (1 : Int) ("small" : Str) ("square" : Str) [])).bind fun r_345 =>
  (Res.val (F_Catalog___init__ r_345 ([(3 : Int), (5 : Int)] : List Int) (7 : Int))).bind fun r_347 =>
  (some r_347).bind fun x_catalog_351 =>
  (some ([(("" : Str), (7 : Int))] : List (Str × Int))).bind fun x_routes_353 =>
  if RangeOk 0 (nxV (DS.mk ns 0 0) (11 : Int)) then
  (forS L_law_1 (rangeZ 0 (nxV (DS.mk ns 0 0) (11 : Int))) (x_routes_353, (((nxS (DS.mk ns 0 0) (11 : Int)), ()), x_catalog_351))).bind (Flow.thn (fun w_373 =>
  (if (!decide (w_373.2.2.routes = (SLam.sortV w_373.1 (w_373.1.map (fun x => PyData.tuple [PyData.str x.1, PyData.int x.2]))))) = true then some (true, ((w_373.2.1.1, w_373.2.1.2), w_373.2.2)) else ((if (!decide (w_373.2.2.closed = ([] : List (Int × Str)))) = true then some (true, ((w_373.2.1.1, w_373.2.1.2), w_373.2.2)) else (some (((!decide (w_373.2.2.titles = ([] : List (Int × Int × Str)))) || (!decide (w_373.2.2.begins = (0 : Int)))), ((((w_373.2.1.1, w_373.2.1.2), w_373.2.2).1.1, ((w_373.2.1.1, w_373.2.1.2), w_373.2.2).1.2), ((w_373.2.1.1, w_373.2.1.2), w_373.2.2).2)))).bind fun b_410 =>
  some (b_410.1, ((b_410.2.1.1, b_410.2.1.2), b_410.2.2)))).bind fun b_412 =>
  if b_412.1 = true then
  some false
  else
  (forS (L_law_2 w_373) (rangeZ 0 (12 : Int)) ((b_412.2.1.1, b_412.2.1.2), b_412.2.2)).bind (Flow.thn (fun w_428 =>
  (F_Catalog_shard_of w_428.2 ("" : Str)).bind fun r_455 =>
  (F_law_due w_373.1 ("" : Str)).bind fun r_457 =>
  some ((decide (r_455 = r_457)) && (decide (w_428.2.ledger.now = (0 : Int))))) (fun r => some r))) (fun r => some r)) else none
-- MATH BEGINS
/-! texts in order -/
def sLt (x y : Str) : Prop := x.cps.toList < y.cps.toList
theorem sLt_irr (x : Str) : ¬ sLt x x := List.lt_irrefl _
theorem sLt_tr {x y z : Str} (h : sLt x y) (g : sLt y z) : sLt x z := List.lt_trans h g
theorem sLt_asy {x y : Str} (h : sLt x y) (g : sLt y x) : False := sLt_irr x (sLt_tr h g)
theorem str_ext {x y : Str} (h : x.cps.toList = y.cps.toList) : x = y := by
  obtain ⟨a⟩ := x
  obtain ⟨b⟩ := y
  have : a = b := Array.toList_inj.mp h
  rw [this]
theorem sLt_tri {x y : Str} (h : ¬ sLt x y) (g : ¬ sLt y x) : x = y := str_ext (List.le_antisymm (List.not_lt.mp g) (List.not_lt.mp h))
theorem sLt_nil (x : Str) : ¬ sLt x "" := by
  unfold sLt
  rw [show ("" : Str).cps.toList = [] from by decide +kernel]
  exact List.not_lt_nil _
/-! sorted rows -/
abbrev Rw0 : Type := Str × Int
def Srt (xs : List Rw0) : Prop := xs.Pairwise fun a b => sLt a.1 b.1
def Dis (xs : List Rw0) : Prop := xs.Pairwise fun a b => a.1 ≠ b.1
theorem srt_dis {xs : List Rw0} (h : Srt xs) : Dis xs := List.Pairwise.imp (S := fun a b : Rw0 => a.1 ≠ b.1) (fun {a b} g e => sLt_irr b.1 (by rw [e] at g; exact g)) h
theorem dis_perm {xs ys : List Rw0} (p : xs.Perm ys) (h : Dis xs) : Dis ys := (p.pairwise_iff fun g e => g e.symm).mp h
theorem dis_eq : ∀ {xs : List Rw0}, Dis xs → ∀ {a b : Rw0}, a ∈ xs → b ∈ xs → a.1 = b.1 → a = b
  | x :: r, h, a, b, ha, hb, e => by
    obtain ⟨h1, h2⟩ := List.pairwise_cons.mp h
    rcases List.mem_cons.mp ha with ea | ma
    · rcases List.mem_cons.mp hb with eb | mb
      · rw [ea, eb]
      · rw [ea] at e
        exact absurd e (h1 b mb)
    · rcases List.mem_cons.mp hb with eb | mb
      · rw [eb] at e
        exact absurd e.symm (h1 a ma)
      · exact dis_eq h2 ma mb e
theorem srt_uniq : ∀ {xs ys : List Rw0}, Srt xs → Srt ys → (∀ a, a ∈ xs ↔ a ∈ ys) → xs = ys
  | [], [], _, _, _ => rfl
  | [], y :: ys, _, _, h => absurd ((h y).mpr List.mem_cons_self) List.not_mem_nil
  | x :: xs, [], _, _, h => absurd ((h x).mp List.mem_cons_self) List.not_mem_nil
  | x :: xs, y :: ys, hx, hy, h => by
    obtain ⟨x1, x2⟩ := List.pairwise_cons.mp hx
    obtain ⟨y1, y2⟩ := List.pairwise_cons.mp hy
    have e : x = y := by
      rcases List.mem_cons.mp ((h x).mp List.mem_cons_self) with e | m
      · exact e
      · rcases List.mem_cons.mp ((h y).mpr List.mem_cons_self) with e | m2
        · exact e.symm
        · exact (sLt_asy (y1 x m) (x1 y m2)).elim
    subst e
    congr 1
    refine srt_uniq x2 y2 fun a => ⟨fun ha => ?_, fun ha => ?_⟩
    · rcases List.mem_cons.mp ((h a).mp (List.mem_cons_of_mem _ ha)) with e | m
      · subst e; exact absurd (x1 _ ha) (sLt_irr _)
      · exact m
    · rcases List.mem_cons.mp ((h a).mpr (List.mem_cons_of_mem _ ha)) with e | m
      · subst e; exact absurd (y1 _ ha) (sLt_irr _)
      · exact m
theorem sortV_eq {α : Type} (e : α → PyData) (xs : List α) : SLam.sortV xs (xs.map e) = xs.mergeSort (PySem.W.dataLe false e) := by
  unfold SLam.sortV
  have z : xs.zip (xs.map e) = xs.map fun x => (x, e x) := by
    have := List.zip_map' (f := fun x : α => x) (g := e) (l := xs)
    rw [List.map_id'] at this
    exact this
  rw [z, ← List.map_mergeSort (r := PySem.W.dataLe false e) (s := PySem.W.dataLe false (fun x : α × PyData => x.2)) (f := fun x => (x, e x)) (fun a _ b _ => rfl), List.map_map]
  exact List.map_id' _
theorem sort_srt {e : Rw0 → PyData} (he : ∀ a b : Rw0, a.1 ≠ b.1 → PySem.W.dataLe false e a b = true → sLt a.1 b.1) {xs : List Rw0} (hd : Dis xs) : Srt (SLam.sortV xs (xs.map e)) ∧ (SLam.sortV xs (xs.map e)).Perm xs := by
  rw [sortV_eq]
  have p := List.mergeSort_perm xs (PySem.W.dataLe false e)
  have tl : PySem.W.TotalLe (PySem.W.dataLe false e) := PySem.W.sortLe_total _ _ _
  have s := List.pairwise_mergeSort (le := PySem.W.dataLe false e) tl.trans (fun a b => by rw [Bool.or_eq_true]; exact tl.total a b) xs
  exact ⟨List.Pairwise.imp₂ (fun a b g d => he a b d g) s (dis_perm p.symm hd), p⟩
theorem le_one (a b : Rw0) (d : a.1 ≠ b.1) (h : PySem.W.dataLe false (fun x : Rw0 => PyData.str x.1) a b = true) : sLt a.1 b.1 := by
  rw [PySem.W.dataLe_str] at h
  have h := of_decide_eq_true h
  by_cases q : sLt a.1 b.1
  · exact q
  · exact absurd (sLt_tri q (fun z => List.not_lt.mpr h z)) d
theorem le_two (a b : Rw0) (d : a.1 ≠ b.1) (h : PySem.W.dataLe false (fun x : Rw0 => PyData.tuple [PyData.str x.1, PyData.int x.2]) a b = true) : sLt a.1 b.1 := by
  have h : (!PySem.W.dataLt (.tuple [.str b.1, .int b.2]) (.tuple [.str a.1, .int a.2])) = true := h
  rw [PySem.W.dataLt_pair (by simp [PySem.W.alike]) (by simp [PySem.W.alike]), if_neg (by simp only [PyData.eqv, beq_iff_eq]; exact fun z => d z.symm), PySem.W.dataLt_str] at h
  by_cases q : sLt a.1 b.1
  · exact q
  · refine absurd (sLt_tri q fun z => ?_) d
    have z : b.1.cps.toList < a.1.cps.toList := z
    rw [decide_eq_true z] at h
    cases h
/-! the catalog's routes beside the law's -/
structure Ok (rs : List Rw0) (c : Catalog) : Prop where
  p : c.routes.Perm rs
  s : Srt c.routes
  e : ∃ z, (("", z) : Rw0) ∈ rs
  g : c.ledger.segments = []
  w : c.ledger.now = 0
  t : c.titles = []
  l : c.closed = []
  b : c.begins = 0
theorem Ok.dis {rs : List Rw0} {c : Catalog} (o : Ok rs c) : Dis rs := dis_perm o.p (srt_dis o.s)
theorem Ok.sorted {rs : List Rw0} {c : Catalog} (o : Ok rs c) : c.routes = SLam.sortV rs (rs.map fun x => PyData.tuple [PyData.str x.1, PyData.int x.2]) := by
  obtain ⟨s, p⟩ := sort_srt le_two o.dis
  exact srt_uniq o.s s fun a => (o.p.mem_iff).trans p.mem_iff.symm
def putR (rs : List Rw0) (low : Str) (z : Int) : List Rw0 := rs.filter (fun x => !decide (x.1 = low)) ++ [(low, z)]
theorem put_dis {rs : List Rw0} (h : Dis rs) (low : Str) (z : Int) : Dis (putR rs low z) := by
  refine List.pairwise_append.mpr ⟨h.sublist List.filter_sublist, List.pairwise_singleton _ _, fun a ha b hb => ?_⟩
  have := (List.mem_filter.mp ha).2
  rw [List.mem_singleton.mp hb]
  simpa using this
theorem put_e {rs : List Rw0} (h : ∃ z, (("", z) : Rw0) ∈ rs) (low : Str) (y : Int) : ∃ z, (("", z) : Rw0) ∈ putR rs low y := by
  obtain ⟨z, hz⟩ := h
  by_cases q : ("" : Str) = low
  · refine ⟨y, List.mem_append_right _ ?_⟩
    rw [q]
    exact List.mem_cons_self
  · exact ⟨z, List.mem_append_left _ (List.mem_filter.mpr ⟨hz, by rw [decide_eq_false q]; rfl⟩)⟩
theorem put_len (rs : List Rw0) (low : Str) (z : Int) : (putR rs low z).length ≤ rs.length + 1 := by
  unfold putR
  rw [List.length_append]
  have := List.length_filter_le (fun x : Rw0 => !decide (x.1 = low)) rs
  show _ + 1 ≤ _
  omega
theorem route_eq {rs : List Rw0} {c : Catalog} (o : Ok rs c) (hl : rs.length ≤ 100) (u : Unit) (low : Str) (z : Int) : ∃ c', F_Catalog_route (c, u) low z = some (z, (c', u)) ∧ Ok (putR rs low z) c' := by
  have cl : c.routes.length ≤ 100 := by rw [o.p.length_eq]; exact hl
  have fl := put_len c.routes low z
  have fl2 : (putR c.routes low z).length = (c.routes.filter (fun x => !decide (x.1 = low))).length + 1 := by unfold putR; rw [List.length_append]; rfl
  obtain ⟨s, p⟩ := sort_srt le_one (put_dis (srt_dis o.s) low z)
  refine ⟨{ c with routes := SLam.sortV (putR c.routes low z) ((putR c.routes low z).map fun x => PyData.str x.1) }, ?_, ⟨?_, s, put_e o.e low z, o.g, o.w, o.t, o.l, o.b⟩⟩
  · unfold F_Catalog_route
    dsimp only
    rw [bsome, if_pos (by show _ + 1 ≤ _; omega), if_pos (by show (putR c.routes low z).length ≤ _; omega), mapO_eq (g := fun x : Rw0 => x.1) fun x _ => rfl, bsome, bsome, List.map_map]
    rfl
  · exact p.trans ((o.p.filter _).append_right _)
theorem word_eq : ("abz" : Str).cps.toList.length = 3 := by decide +kernel
theorem apply_eq {rs : List Rw0} {c : Catalog} (o : Ok rs c) (hl : rs.length ≤ 100) (u : Unit) (low : Str) (z : Int) : ∃ c', F_Catalog_apply (c, u) ("route", low, z) = some (z, (c', u)) ∧ Ok (putR rs low z) c' := by
  obtain ⟨c', e, o'⟩ := route_eq o hl u low z
  refine ⟨c', ?_, o'⟩
  unfold F_Catalog_apply F_Catalog_outcome_of
  dsimp only
  have n1 : ¬ decide (("route" : Str) = ("put" : Str)) = true := by decide +kernel
  have n2 : ¬ decide (("route" : Str) = ("drop" : Str)) = true := by decide +kernel
  have n3 : ¬ decide (("route" : Str) = ("pin" : Str)) = true := by decide +kernel
  have n4 : ¬ decide (("route" : Str) = ("unpin" : Str)) = true := by decide +kernel
  have n5 : ¬ decide (("route" : Str) = ("lift" : Str)) = true := by decide +kernel
  have n6 : ¬ decide (("route" : Str) = ("own" : Str)) = true := by decide +kernel
  have n7 : decide (("route" : Str) = ("route" : Str)) = true := by decide +kernel
  rw [if_neg n1, if_neg n2, if_neg n3, if_neg n4, if_neg n5, if_neg n6, if_pos n7, e, bsome, bsome]
  unfold F_Catalog_close_lost
  dsimp only
  rw [if_pos o'.g, o'.t]
  show (((some c').bind _).bind _) = _
  rw [bsome, o'.t]
  show ((some _).bind _) = _
  rw [bsome]
  have ec : { c' with titles := ([] : List (Int × Int × Str)) } = c' := by rw [← o'.t]
  dsimp only
  rw [ec]
/-! the shard of a name -/
def Best (rs : List Rw0) (name : Str) (b : Rw0) : Prop := b ∈ rs ∧ ¬ sLt name b.1 ∧ ∀ x ∈ rs, ¬ sLt name x.1 → ¬ sLt b.1 x.1
theorem best_uniq {rs : List Rw0} (hd : Dis rs) {name : Str} {a b : Rw0} (ha : Best rs name a) (hb : Best rs name b) : a = b := dis_eq hd ha.1 hb.1 (sLt_tri (ha.2.2 b hb.1 hb.2.1) (hb.2.2 a ha.1 ha.2.1))
theorem last_best : ∀ {xs : List Rw0}, Srt xs → xs ≠ [] → ∃ b, xs.getLast? = some b ∧ b ∈ xs ∧ ∀ x ∈ xs, ¬ sLt b.1 x.1
  | [], _, h => absurd rfl h
  | [x], _, _ => ⟨x, rfl, List.mem_cons_self, fun y hy => by rw [List.mem_singleton.mp hy]; exact sLt_irr _⟩
  | x :: y :: r, h, _ => by
    obtain ⟨h1, h2⟩ := List.pairwise_cons.mp h
    obtain ⟨b, e, m, k⟩ := last_best h2 (by simp)
    refine ⟨b, by rw [List.getLast?_cons_cons]; exact e, List.mem_cons_of_mem _ m, fun z hz => ?_⟩
    rcases List.mem_cons.mp hz with rfl | hz
    · exact fun q => sLt_asy (h1 b m) q
    · exact k z hz
theorem shard_eq {rs : List Rw0} {c : Catalog} (o : Ok rs c) (hl : rs.length ≤ 100) (name : Str) : ∃ b, Best rs name b ∧ F_Catalog_shard_of c name = some b.2 := by
  have hs : Srt (c.routes.filter fun x => !decide (name.cps.toList < x.1.cps.toList)) := o.s.sublist List.filter_sublist
  obtain ⟨z, hz⟩ := o.e
  have hz2 : (("", z) : Rw0) ∈ c.routes.filter fun x => !decide (name.cps.toList < x.1.cps.toList) := List.mem_filter.mpr ⟨o.p.mem_iff.mpr hz, by rw [decide_eq_false (show ¬ name.cps.toList < ("" : Str).cps.toList from sLt_nil name)]; rfl⟩
  obtain ⟨b, e, m, k⟩ := last_best hs (List.ne_nil_of_mem hz2)
  have pb : ∀ x : Rw0, (!decide (name.cps.toList < x.1.cps.toList)) = true ↔ ¬ sLt name x.1 := fun x => by
    rw [Bool.not_eq_true', decide_eq_false_iff_not]
    exact Iff.rfl
  refine ⟨b, ⟨o.p.mem_iff.mp (List.mem_filter.mp m).1, (pb b).mp (List.mem_filter.mp m).2, fun x hx hn => k x (List.mem_filter.mpr ⟨o.p.mem_iff.mpr hx, (pb x).mpr hn⟩)⟩, ?_⟩
  unfold F_Catalog_shard_of
  have hl2 : (c.routes.filter fun x => !decide (name.cps.toList < x.1.cps.toList)).length ≤ 100 := Nat.le_trans (List.length_filter_le _ _) (by rw [o.p.length_eq]; exact hl)
  have ea : L2.atI ((c.routes.filter fun (x : Str × Int) => !decide (name.cps.toList < x.1.cps.toList)).map fun (x : Str × Int) => x.2) (-(1 : Int)) = some b.2 := by
    have hne : (c.routes.filter fun x => !decide (name.cps.toList < x.1.cps.toList)).length ≠ 0 := fun z => List.ne_nil_of_mem hz2 (List.length_eq_zero_iff.mp z)
    rw [List.getLast?_eq_getElem?] at e
    generalize (c.routes.filter fun x => !decide (name.cps.toList < x.1.cps.toList)) = ys at e hl2 hne
    unfold L2.atI L2.ixN
    rw [List.length_map, if_neg (by decide), if_pos (by omega)]
    show (ys.map fun (x : Str × Int) => x.2)[((ys.length : Int) + -1).toNat]? = _
    rw [show ((ys.length : Int) + -1).toNat = ys.length - 1 by omega, List.getElem?_map, e]
    rfl
  rw [ea]
  rfl
theorem due_eq {rs : List Rw0} (he : ∃ z, (("", z) : Rw0) ∈ rs) (name : Str) : ∃ b, Best rs name b ∧ F_law_due rs name = some b.2 := by
  unfold F_law_due
  obtain ⟨w, e, i⟩ := forF_take (f := L_law_due_1 name) (I := fun p w => (w = none ∧ ∀ x ∈ p, sLt name x.1) ∨ ∃ b, w = some b ∧ Best p name b) (xs := rs) (b := none) (.inl ⟨rfl, fun _ h => nomatch h⟩) (by
    rintro p x r w hx hi
    unfold L_law_due_1
    by_cases q : sLt name x.1
    · have qd : ¬ (!decide (name.cps.toList < x.1.cps.toList)) = true := by rw [decide_eq_true (show name.cps.toList < x.1.cps.toList from q)]; simp
      rw [if_neg qd, bsome, if_neg (by simp)]
      refine ⟨w, rfl, ?_⟩
      rcases hi with ⟨rfl, h⟩ | ⟨b, rfl, h1, h2, h3⟩
      · exact .inl ⟨rfl, fun y hy => by
          rcases List.mem_append.mp hy with hy | hy
          · exact h y hy
          · rw [List.mem_singleton.mp hy]; exact q⟩
      · refine .inr ⟨b, rfl, List.mem_append_left _ h1, h2, fun y hy hn => ?_⟩
        rcases List.mem_append.mp hy with hy | hy
        · exact h3 y hy hn
        · rw [List.mem_singleton.mp hy] at hn
          exact absurd q hn
    · have qd : (!decide (name.cps.toList < x.1.cps.toList)) = true := by rw [decide_eq_false (show ¬ name.cps.toList < x.1.cps.toList from q)]; rfl
      rw [if_pos qd]
      rcases hi with ⟨rfl, h⟩ | ⟨b, rfl, h1, h2, h3⟩
      · rw [if_pos (by rfl), bsome, bsome, if_pos rfl, bsome]
        refine ⟨_, rfl, .inr ⟨_, rfl, List.mem_append_right _ List.mem_cons_self, q, fun y hy hn => ?_⟩⟩
        rcases List.mem_append.mp hy with hy | hy
        · exact absurd (h y hy) hn
        · rw [List.mem_singleton.mp hy]; exact sLt_irr _
      · rw [if_neg (by simp), bsome, bsome, bsome]
        by_cases z : sLt b.1 x.1
        · rw [if_pos (decide_eq_true (show b.1.cps.toList < x.1.cps.toList from z)), bsome]
          refine ⟨_, rfl, .inr ⟨_, rfl, List.mem_append_right _ List.mem_cons_self, q, fun y hy hn => ?_⟩⟩
          rcases List.mem_append.mp hy with hy | hy
          · exact fun t => h3 y hy hn (sLt_tr z t)
          · rw [List.mem_singleton.mp hy]; exact sLt_irr _
        · rw [if_neg (fun t => (show ¬ b.1.cps.toList < x.1.cps.toList from z) (of_decide_eq_true t))]
          refine ⟨_, rfl, .inr ⟨b, rfl, List.mem_append_left _ h1, h2, fun y hy hn => ?_⟩⟩
          rcases List.mem_append.mp hy with hy | hy
          · exact h3 y hy hn
          · rw [List.mem_singleton.mp hy]; exact z)
  rw [e, bsome]
  rcases i with ⟨rfl, h⟩ | ⟨b, rfl, hb⟩
  · obtain ⟨z, hz⟩ := he
    exact absurd (h _ hz) (sLt_nil name)
  · exact ⟨b, hb, rfl⟩
theorem shard_due {rs : List Rw0} {c : Catalog} (o : Ok rs c) (hl : rs.length ≤ 100) (name : Str) : ∃ z, F_Catalog_shard_of c name = some z ∧ F_law_due rs name = some z := by
  obtain ⟨b, h1, e1⟩ := shard_eq o hl name
  obtain ⟨d, h2, e2⟩ := due_eq o.e name
  rw [best_uniq o.dis h1 h2] at e1
  exact ⟨d.2, e1, e2⟩
/-! drawn words -/
theorem word_ex (s : DS) : ∃ w s', F_law_word s = some (w, s') ∧ w.length ≤ 2 := by
  unfold F_law_word
  have b0 := nx_ge s (m := 3) (by decide)
  have b1 := nx_lt s (m := 3) (by decide)
  rw [if_pos (rangeOk_of (by omega) (by omega) (by omega) (by omega))]
  obtain ⟨⟨w, s'⟩, e, i⟩ := forF_rng (f := L_law_word_1) (fun n w => w.1.length ≤ n) (m := nxV s 3) (b := (("" : Str), nxS s 3)) (by show ("" : Str).length ≤ 0; decide +kernel) (by
    rintro n ⟨w, s⟩ hn i
    dsimp only at i
    unfold L_law_word_1
    obtain ⟨y, ey, hy⟩ : ∃ y, atSi ("abz" : Str) (nxV s (3 : Int)) = some y ∧ y.length = 1 := by
      have c0 := nx_ge s (m := 3) (by decide)
      have c1 := nx_lt s (m := 3) (by decide)
      have : nxV s 3 = 0 ∨ nxV s 3 = 1 ∨ nxV s 3 = 2 := by omega
      rcases this with q | q | q <;> rw [q]
      · exact ⟨"a", by decide +kernel, by decide +kernel⟩
      · exact ⟨"b", by decide +kernel, by decide +kernel⟩
      · exact ⟨"z", by decide +kernel, by decide +kernel⟩
    dsimp only
    rw [ey, bsome, if_pos (by omega)]
    refine ⟨_, rfl, ?_⟩
    show (w ++ y).length ≤ n + 1
    have ea : (w ++ y).length = w.length + y.length := Array.size_append
    rw [ea]
    omega)
  rw [e, bsome]
  dsimp only at i
  exact ⟨w, s', rfl, by omega⟩
/-! the turns -/
theorem turns_one : ∀ (xs : List Int) (rs : List Rw0) (s : DS) (u : Unit) (c : Catalog), Ok rs c → rs.length + xs.length ≤ 50 → ∃ rs' s' u' c', forS L_law_1 xs (rs, ((s, u), c)) = some (.go (rs', ((s', u'), c'))) ∧ Ok rs' c' ∧ rs'.length ≤ rs.length + xs.length
  | [], rs, s, u, c, o, _ => ⟨rs, s, u, c, rfl, o, Nat.le_refl _⟩
  | x :: xs, rs, s, u, c, o, hl => by
    rw [List.length_cons] at hl
    obtain ⟨w, s1, ew, _⟩ := word_ex s
    obtain ⟨c1, ec, o1⟩ := apply_eq o (by omega) u w (nxV s1 5)
    have pl := put_len rs w (nxV s1 5)
    have pl2 : (putR rs w (nxV s1 5)).length = (rs.filter (fun x => !decide (x.1 = w))).length + 1 := by unfold putR; rw [List.length_append]; rfl
    obtain ⟨rs', s', u', c', e, o', l'⟩ := turns_one xs (putR rs w (nxV s1 5)) (nxS s1 5) u c1 o1 (by omega)
    refine ⟨rs', s', u', c', ?_, o', by rw [List.length_cons]; omega⟩
    show (L_law_1 x (rs, ((s, u), c))).bind _ = _
    unfold L_law_1
    dsimp only
    rw [ew, bsome]
    dsimp only
    rw [if_pos (Nat.le_trans (Nat.add_le_add (List.length_filter_le _ _) (Nat.le_refl _)) (by show rs.length + 1 ≤ _; omega)), bsome, ec, bsome]
    dsimp only
    rw [if_neg (by rw [decide_eq_true rfl]; simp), bsome]
    exact e
theorem turns_two {rs : List Rw0} {c : Catalog} (o : Ok rs c) (hl : rs.length ≤ 100) (w : (DS × Unit) × Catalog) : ∀ (xs : List Int) (s : DS) (u : Unit), ∃ s', forS (L_law_2 (rs, w)) xs ((s, u), c) = some (.go ((s', u), c))
  | [], s, u => ⟨s, rfl⟩
  | x :: xs, s, u => by
    obtain ⟨w1, s1, e1, l1⟩ := word_ex s
    obtain ⟨w2, s2, e2, l2⟩ := word_ex s1
    obtain ⟨z, z1, z2⟩ := shard_due o hl (w1 ++ w2)
    obtain ⟨s', e⟩ := turns_two o hl w xs s2 u
    refine ⟨s', ?_⟩
    show (L_law_2 (rs, w) x ((s, u), c)).bind _ = _
    unfold L_law_2
    dsimp only
    rw [e1, bsome]
    dsimp only
    rw [e2, bsome]
    dsimp only
    rw [if_pos (by omega), z1, bsome, z2, bsome, if_neg (by rw [decide_eq_true rfl]; simp), bsome]
    exact e
theorem law_true (ns : List Int) (h : ns.length ≤ 63) : F_law ns = some true := by
  unfold F_law
  have b0 := nx_ge (DS.mk ns 0 0) (m := 11) (by decide)
  have b1 := nx_lt (DS.mk ns 0 0) (m := 11) (by decide)
  obtain ⟨sch, es⟩ : ∃ sch, Res.val (F_Schema___init__ (1 : Int) ("small" : Str) ("square" : Str) []) = some sch := Option.isSome_iff_exists.mp (by decide +kernel)
  rw [es, bsome]
  have ek : F_check_key [3, 5] = some (.ok ()) := by decide +kernel
  have ec : Res.val (F_Catalog___init__ sch ([(3 : Int), (5 : Int)] : List Int) (7 : Int)) = some ⟨⟨sch, [3, 5], 0, 0, [], [], [], 1⟩, [], [], [("", 7)], 0⟩ := by
    unfold F_Catalog___init__ F_Ledger___init__
    rw [ek]
    rfl
  rw [ec, bsome, bsome, bsome, if_pos (rangeOk_of (by omega) (by omega) (by omega) (by omega))]
  have o : Ok [("", 7)] ⟨⟨sch, [3, 5], 0, 0, [], [], [], 1⟩, [], [], [("", 7)], 0⟩ := ⟨List.Perm.refl _, List.pairwise_singleton _ _, ⟨7, List.mem_cons_self⟩, rfl, rfl, rfl, rfl, rfl⟩
  have lr := rangeZ_len (lo := 0) (hi := nxV (DS.mk ns 0 0) 11)
  obtain ⟨rs, s, u, c, e, o', l⟩ := turns_one (rangeZ 0 (nxV (DS.mk ns 0 0) (11 : Int))) _ (nxS (DS.mk ns 0 0) 11) () _ o (by rw [lr, List.length_singleton]; omega)
  have hl : rs.length ≤ 100 := by rw [lr, List.length_singleton] at l; omega
  rw [e, bsome]
  show (((if _ then _ else _) : Option _).bind _) = _
  dsimp only
  rw [if_neg (by rw [← o'.sorted, decide_eq_true rfl]; simp), if_neg (by rw [o'.l, decide_eq_true rfl]; simp), o'.t, o'.b, decide_eq_true rfl, decide_eq_true rfl, bsome, bsome]
  dsimp only
  rw [if_neg (by simp)]
  obtain ⟨s', e2⟩ := turns_two o' hl ((s, u), c) (rangeZ 0 (12 : Int)) s u
  obtain ⟨z, z1, z2⟩ := shard_due o' hl ""
  rw [e2, bsome]
  show ((F_Catalog_shard_of c ("" : Str)).bind _) = _
  rw [z1, bsome, z2, bsome, o'.w, decide_eq_true rfl, decide_eq_true rfl]
  rfl

def ff_Ledger (v0 v1 v2 v3 v4 v5 v6 v7 : V) : List (Str × V) := putF "upcoming" v7 (putF "segments" v6 (putF "notes" v5 (putF "pins" v4 (putF "floor" v3 (putF "now" v2 (putF "key" v1 (putF "schema" v0 [])))))))
theorem lk_Ledger_schema {v0 v1 v2 v3 v4 v5 v6 v7 : V} : (ff_Ledger v0 v1 v2 v3 v4 v5 v6 v7).lookup ("schema" : Str) = some v0 := by
  unfold ff_Ledger
  rw [lookup_putF, if_neg (by decide +kernel), lookup_putF, if_neg (by decide +kernel), lookup_putF, if_neg (by decide +kernel), lookup_putF, if_neg (by decide +kernel), lookup_putF, if_neg (by decide +kernel), lookup_putF, if_neg (by decide +kernel), lookup_putF, if_neg (by decide +kernel), lookup_putF, if_pos rfl]
theorem lk_Ledger_key {v0 v1 v2 v3 v4 v5 v6 v7 : V} : (ff_Ledger v0 v1 v2 v3 v4 v5 v6 v7).lookup ("key" : Str) = some v1 := by
  unfold ff_Ledger
  rw [lookup_putF, if_neg (by decide +kernel), lookup_putF, if_neg (by decide +kernel), lookup_putF, if_neg (by decide +kernel), lookup_putF, if_neg (by decide +kernel), lookup_putF, if_neg (by decide +kernel), lookup_putF, if_neg (by decide +kernel), lookup_putF, if_pos rfl]
theorem lk_Ledger_now {v0 v1 v2 v3 v4 v5 v6 v7 : V} : (ff_Ledger v0 v1 v2 v3 v4 v5 v6 v7).lookup ("now" : Str) = some v2 := by
  unfold ff_Ledger
  rw [lookup_putF, if_neg (by decide +kernel), lookup_putF, if_neg (by decide +kernel), lookup_putF, if_neg (by decide +kernel), lookup_putF, if_neg (by decide +kernel), lookup_putF, if_neg (by decide +kernel), lookup_putF, if_pos rfl]
theorem lk_Ledger_floor {v0 v1 v2 v3 v4 v5 v6 v7 : V} : (ff_Ledger v0 v1 v2 v3 v4 v5 v6 v7).lookup ("floor" : Str) = some v3 := by
  unfold ff_Ledger
  rw [lookup_putF, if_neg (by decide +kernel), lookup_putF, if_neg (by decide +kernel), lookup_putF, if_neg (by decide +kernel), lookup_putF, if_neg (by decide +kernel), lookup_putF, if_pos rfl]
theorem lk_Ledger_pins {v0 v1 v2 v3 v4 v5 v6 v7 : V} : (ff_Ledger v0 v1 v2 v3 v4 v5 v6 v7).lookup ("pins" : Str) = some v4 := by
  unfold ff_Ledger
  rw [lookup_putF, if_neg (by decide +kernel), lookup_putF, if_neg (by decide +kernel), lookup_putF, if_neg (by decide +kernel), lookup_putF, if_pos rfl]
theorem lk_Ledger_notes {v0 v1 v2 v3 v4 v5 v6 v7 : V} : (ff_Ledger v0 v1 v2 v3 v4 v5 v6 v7).lookup ("notes" : Str) = some v5 := by
  unfold ff_Ledger
  rw [lookup_putF, if_neg (by decide +kernel), lookup_putF, if_neg (by decide +kernel), lookup_putF, if_pos rfl]
theorem lk_Ledger_segments {v0 v1 v2 v3 v4 v5 v6 v7 : V} : (ff_Ledger v0 v1 v2 v3 v4 v5 v6 v7).lookup ("segments" : Str) = some v6 := by
  unfold ff_Ledger
  rw [lookup_putF, if_neg (by decide +kernel), lookup_putF, if_pos rfl]
theorem lk_Ledger_upcoming {v0 v1 v2 v3 v4 v5 v6 v7 : V} : (ff_Ledger v0 v1 v2 v3 v4 v5 v6 v7).lookup ("upcoming" : Str) = some v7 := by
  unfold ff_Ledger
  rw [lookup_putF, if_pos rfl]
theorem no_Ledger {v0 v1 v2 v3 v4 v5 v6 v7 : V} {m : Str} (h0 : ¬ m = "schema" := by decide +kernel) (h1 : ¬ m = "key" := by decide +kernel) (h2 : ¬ m = "now" := by decide +kernel) (h3 : ¬ m = "floor" := by decide +kernel) (h4 : ¬ m = "pins" := by decide +kernel) (h5 : ¬ m = "notes" := by decide +kernel) (h6 : ¬ m = "segments" := by decide +kernel) (h7 : ¬ m = "upcoming" := by decide +kernel) : (ff_Ledger v0 v1 v2 v3 v4 v5 v6 v7).lookup m = none := by
  unfold ff_Ledger
  rw [lookup_putF, if_neg h7, lookup_putF, if_neg h6, lookup_putF, if_neg h5, lookup_putF, if_neg h4, lookup_putF, if_neg h3, lookup_putF, if_neg h2, lookup_putF, if_neg h1, lookup_putF, if_neg h0]
  rfl
def ff_Catalog (v0 v1 v2 v3 v4 : V) : List (Str × V) := putF "begins" v4 (putF "routes" v3 (putF "closed" v2 (putF "titles" v1 (putF "ledger" v0 []))))
theorem lk_Catalog_ledger {v0 v1 v2 v3 v4 : V} : (ff_Catalog v0 v1 v2 v3 v4).lookup ("ledger" : Str) = some v0 := by
  unfold ff_Catalog
  rw [lookup_putF, if_neg (by decide +kernel), lookup_putF, if_neg (by decide +kernel), lookup_putF, if_neg (by decide +kernel), lookup_putF, if_neg (by decide +kernel), lookup_putF, if_pos rfl]
theorem lk_Catalog_titles {v0 v1 v2 v3 v4 : V} : (ff_Catalog v0 v1 v2 v3 v4).lookup ("titles" : Str) = some v1 := by
  unfold ff_Catalog
  rw [lookup_putF, if_neg (by decide +kernel), lookup_putF, if_neg (by decide +kernel), lookup_putF, if_neg (by decide +kernel), lookup_putF, if_pos rfl]
theorem lk_Catalog_closed {v0 v1 v2 v3 v4 : V} : (ff_Catalog v0 v1 v2 v3 v4).lookup ("closed" : Str) = some v2 := by
  unfold ff_Catalog
  rw [lookup_putF, if_neg (by decide +kernel), lookup_putF, if_neg (by decide +kernel), lookup_putF, if_pos rfl]
theorem lk_Catalog_routes {v0 v1 v2 v3 v4 : V} : (ff_Catalog v0 v1 v2 v3 v4).lookup ("routes" : Str) = some v3 := by
  unfold ff_Catalog
  rw [lookup_putF, if_neg (by decide +kernel), lookup_putF, if_pos rfl]
theorem lk_Catalog_begins {v0 v1 v2 v3 v4 : V} : (ff_Catalog v0 v1 v2 v3 v4).lookup ("begins" : Str) = some v4 := by
  unfold ff_Catalog
  rw [lookup_putF, if_pos rfl]
theorem no_Catalog {v0 v1 v2 v3 v4 : V} {m : Str} (h0 : ¬ m = "ledger" := by decide +kernel) (h1 : ¬ m = "titles" := by decide +kernel) (h2 : ¬ m = "closed" := by decide +kernel) (h3 : ¬ m = "routes" := by decide +kernel) (h4 : ¬ m = "begins" := by decide +kernel) : (ff_Catalog v0 v1 v2 v3 v4).lookup m = none := by
  unfold ff_Catalog
  rw [lookup_putF, if_neg h4, lookup_putF, if_neg h3, lookup_putF, if_neg h2, lookup_putF, if_neg h1, lookup_putF, if_neg h0]
  rfl
def ff_Schema (v0 v1 v2 v3 : V) : List (Str × V) := putF "fields" v3 (putF "measure" v2 (putF "width" v1 (putF "size" v0 [])))
theorem lk_Schema_size {v0 v1 v2 v3 : V} : (ff_Schema v0 v1 v2 v3).lookup ("size" : Str) = some v0 := by
  unfold ff_Schema
  rw [lookup_putF, if_neg (by decide +kernel), lookup_putF, if_neg (by decide +kernel), lookup_putF, if_neg (by decide +kernel), lookup_putF, if_pos rfl]
theorem lk_Schema_width {v0 v1 v2 v3 : V} : (ff_Schema v0 v1 v2 v3).lookup ("width" : Str) = some v1 := by
  unfold ff_Schema
  rw [lookup_putF, if_neg (by decide +kernel), lookup_putF, if_neg (by decide +kernel), lookup_putF, if_pos rfl]
theorem lk_Schema_measure {v0 v1 v2 v3 : V} : (ff_Schema v0 v1 v2 v3).lookup ("measure" : Str) = some v2 := by
  unfold ff_Schema
  rw [lookup_putF, if_neg (by decide +kernel), lookup_putF, if_pos rfl]
theorem lk_Schema_fields {v0 v1 v2 v3 : V} : (ff_Schema v0 v1 v2 v3).lookup ("fields" : Str) = some v3 := by
  unfold ff_Schema
  rw [lookup_putF, if_pos rfl]
theorem no_Schema {v0 v1 v2 v3 : V} {m : Str} (h0 : ¬ m = "size" := by decide +kernel) (h1 : ¬ m = "width" := by decide +kernel) (h2 : ¬ m = "measure" := by decide +kernel) (h3 : ¬ m = "fields" := by decide +kernel) : (ff_Schema v0 v1 v2 v3).lookup m = none := by
  unfold ff_Schema
  rw [lookup_putF, if_neg h3, lookup_putF, if_neg h2, lookup_putF, if_neg h1, lookup_putF, if_neg h0]
  rfl
theorem putF_le {f : Str} {v : V} {fs : List (Str × V)} {n : Nat} (h : fs.length ≤ n) : (putF f v fs).length ≤ n + 1 := by
  induction fs generalizing n with
  | nil => show 1 ≤ n + 1; omega
  | cons x r ih =>
    obtain ⟨g, y⟩ := x
    show (if g = f then (g, v) :: r else (g, y) :: putF f v r).length ≤ n + 1
    rw [List.length_cons] at h
    by_cases e : g = f
    · rw [if_pos e, List.length_cons]; omega
    · rw [if_neg e, List.length_cons]
      have := ih (n := r.length) (Nat.le_refl _)
      omega
/-! what the top has made -/
set_option maxHeartbeats 0 in
structure Txt (w : World) (K : PySem.W.Frag) (mg : Str → Option Value) (base : Heap) where
  f_law_row : Addr
  d_law_row : FuncData
  F_law_row : Fun K "_law_row" "_law_row" s_law_row f_law_row d_law_row
  b_law_row : Binds K d_law_row ["script", "k"] []
  g_law_row : mg "_law_row" = some (.ref f_law_row)
  f_law_next : Addr
  d_law_next : FuncData
  F_law_next : Fun K "_law_next" "_law_next" s_law_next f_law_next d_law_next
  b_law_next : Binds K d_law_next ["state", "many"] []
  g_law_next : mg "_law_next" = some (.ref f_law_next)
  f_check_key : Addr
  d_check_key : FuncData
  F_check_key : Fun K "check_key" "check_key" s_check_key f_check_key d_check_key
  b_check_key : Binds K d_check_key ["key"] []
  g_check_key : mg "check_key" = some (.ref f_check_key)
  f_Ledger___init__ : Addr
  d_Ledger___init__ : FuncData
  F_Ledger___init__ : Fun K "__init__" "Ledger.__init__" s_Ledger___init__ f_Ledger___init__ d_Ledger___init__
  b_Ledger___init__ : Binds K d_Ledger___init__ ["self", "schema", "key"] []
  f_Catalog___init__ : Addr
  d_Catalog___init__ : FuncData
  F_Catalog___init__ : Fun K "__init__" "Catalog.__init__" s_Catalog___init__ f_Catalog___init__ d_Catalog___init__
  b_Catalog___init__ : Binds K d_Catalog___init__ ["self", "schema", "key", "shard"] []
  f_is_letter : Addr
  d_is_letter : FuncData
  F_is_letter : Fun K "is_letter" "is_letter" s_is_letter f_is_letter d_is_letter
  b_is_letter : Binds K d_is_letter ["char"] []
  g_is_letter : mg "is_letter" = some (.ref f_is_letter)
  f_is_digit : Addr
  d_is_digit : FuncData
  F_is_digit : Fun K "is_digit" "is_digit" s_is_digit f_is_digit d_is_digit
  b_is_digit : Binds K d_is_digit ["char"] []
  g_is_digit : mg "is_digit" = some (.ref f_is_digit)
  f_is_word : Addr
  d_is_word : FuncData
  F_is_word : Fun K "is_word" "is_word" s_is_word f_is_word d_is_word
  b_is_word : Binds K d_is_word ["text"] []
  g_is_word : mg "is_word" = some (.ref f_is_word)
  f_check_vectors : Addr
  d_check_vectors : FuncData
  F_check_vectors : Fun K "check_vectors" "check_vectors" s_check_vectors f_check_vectors d_check_vectors
  b_check_vectors : Binds K d_check_vectors ["size", "width", "measure"] []
  g_check_vectors : mg "check_vectors" = some (.ref f_check_vectors)
  f_check_fields : Addr
  d_check_fields : FuncData
  F_check_fields : Fun K "check_fields" "check_fields" s_check_fields f_check_fields d_check_fields
  b_check_fields : Binds K d_check_fields ["fields"] []
  g_check_fields : mg "check_fields" = some (.ref f_check_fields)
  f_Schema___init__ : Addr
  d_Schema___init__ : FuncData
  e_Schema___init___fields : Addr
  et_Schema___init___fields : ∀ H, SqT K H e_Schema___init___fields []
  F_Schema___init__ : FunD K "__init__" "Schema.__init__" (defArgs s_Schema___init__) (defBody s_Schema___init__) (defScope s_Schema___init__) [] [("width", .str "small"), ("measure", .str "square"), ("fields", .ref e_Schema___init___fields)] f_Schema___init__ d_Schema___init__
  kb_Schema___init__ : KBn K d_Schema___init__ ["self", "size", "width", "measure", "fields"] 2 ["width", "measure", "fields"] (fun us ws => us ++ ws) (fun vs zs => vs ++ zs)
  ds_Schema___init__ : List Value
  v_Schema___init__ : Vals [.str "small", .str "square", .ref e_Schema___init___fields] ds_Schema___init__
  b_Schema___init__ : Binds K d_Schema___init__ ["self", "size", "width", "measure", "fields"] ds_Schema___init__
  f_law_word : Addr
  d_law_word : FuncData
  F_law_word : Fun K "_law_word" "_law_word" s_law_word f_law_word d_law_word
  b_law_word : Binds K d_law_word ["state"] []
  g_law_word : mg "_law_word" = some (.ref f_law_word)
  f_law_due : Addr
  d_law_due : FuncData
  F_law_due : Fun K "_law_due" "_law_due" s_law_due f_law_due d_law_due
  b_law_due : Binds K d_law_due ["routes", "name"] []
  g_law_due : mg "_law_due" = some (.ref f_law_due)
  f_Catalog_shard_of : Addr
  d_Catalog_shard_of : FuncData
  F_Catalog_shard_of : Fun K "shard_of" "Catalog.shard_of" s_Catalog_shard_of f_Catalog_shard_of d_Catalog_shard_of
  b_Catalog_shard_of : Binds K d_Catalog_shard_of ["self", "name"] []
  f_Catalog_route : Addr
  d_Catalog_route : FuncData
  F_Catalog_route : Fun K "route" "Catalog.route" s_Catalog_route f_Catalog_route d_Catalog_route
  b_Catalog_route : Binds K d_Catalog_route ["self", "low", "shard"] []
  k_Catalog_route : Addr
  P_Catalog_route : Addr
  L_Catalog_route : FunC K "route" "Catalog.route" s_Catalog_route k_Catalog_route f_Catalog_route d_Catalog_route
  tb_Catalog_route : LamX.TabB base mg k_Catalog_route P_Catalog_route
  f_Catalog_outcome_of : Addr
  d_Catalog_outcome_of : FuncData
  F_Catalog_outcome_of : Fun K "outcome_of" "Catalog.outcome_of" s_Catalog_outcome_of f_Catalog_outcome_of d_Catalog_outcome_of
  b_Catalog_outcome_of : Binds K d_Catalog_outcome_of ["self", "deed"] []
  f_Catalog_close_lost : Addr
  d_Catalog_close_lost : FuncData
  F_Catalog_close_lost : Fun K "close_lost" "Catalog.close_lost" s_Catalog_close_lost f_Catalog_close_lost d_Catalog_close_lost
  b_Catalog_close_lost : Binds K d_Catalog_close_lost ["self"] []
  f_Catalog_apply : Addr
  d_Catalog_apply : FuncData
  F_Catalog_apply : Fun K "apply" "Catalog.apply" s_Catalog_apply f_Catalog_apply d_Catalog_apply
  b_Catalog_apply : Binds K d_Catalog_apply ["self", "deed"] []
  f_law : Addr
  d_law : FuncData
  F_law : Fun K "law" "law" s_law f_law d_law
  b_law : Binds K d_law ["script"] []
  g_law : mg "law" = some (.ref f_law)
  c_InvalidKey : Addr
  mc_InvalidKey : mg "InvalidKey" = some (.ref c_InvalidKey)
  kp_InvalidKey : PySem.W.keepIn K (.ref c_InvalidKey) = true
  x_InvalidKey : PySem.W.excIn K c_InvalidKey [.type "ValueError", .type "Exception", .type "BaseException", .type "object"] "ValueError.__new__" = true
  xb_InvalidKey : PySem.W.subIn K (.ref c_InvalidKey) (.type "BaseException") = some true
  xt_InvalidKey : PySem.W.typeIn K (.ref c_InvalidKey) = some (.type "type")
  c_InvalidSchema : Addr
  mc_InvalidSchema : mg "InvalidSchema" = some (.ref c_InvalidSchema)
  kp_InvalidSchema : PySem.W.keepIn K (.ref c_InvalidSchema) = true
  x_InvalidSchema : PySem.W.excIn K c_InvalidSchema [.type "ValueError", .type "Exception", .type "BaseException", .type "object"] "ValueError.__new__" = true
  xb_InvalidSchema : PySem.W.subIn K (.ref c_InvalidSchema) (.type "BaseException") = some true
  xt_InvalidSchema : PySem.W.typeIn K (.ref c_InvalidSchema) = some (.type "type")
  c_Ledger : Addr
  cl_Ledger : Cls K c_Ledger
  mc_Ledger : mg "Ledger" = some (.ref c_Ledger)
  n_Ledger_schema : NoAttr K c_Ledger "schema"
  n_Ledger_key : NoAttr K c_Ledger "key"
  n_Ledger_now : NoAttr K c_Ledger "now"
  n_Ledger_floor : NoAttr K c_Ledger "floor"
  n_Ledger_pins : NoAttr K c_Ledger "pins"
  n_Ledger_notes : NoAttr K c_Ledger "notes"
  n_Ledger_segments : NoAttr K c_Ledger "segments"
  n_Ledger_upcoming : NoAttr K c_Ledger "upcoming"
  mk_Ledger : Mk K c_Ledger f_Ledger___init__
  c_Catalog : Addr
  cl_Catalog : Cls K c_Catalog
  mc_Catalog : mg "Catalog" = some (.ref c_Catalog)
  n_Catalog_ledger : NoAttr K c_Catalog "ledger"
  n_Catalog_titles : NoAttr K c_Catalog "titles"
  n_Catalog_closed : NoAttr K c_Catalog "closed"
  n_Catalog_routes : NoAttr K c_Catalog "routes"
  n_Catalog_begins : NoAttr K c_Catalog "begins"
  mk_Catalog : Mk K c_Catalog f_Catalog___init__
  me_Catalog_route : Meth K c_Catalog "route" f_Catalog_route
  me_Catalog_outcome_of : Meth K c_Catalog "outcome_of" f_Catalog_outcome_of
  me_Catalog_close_lost : Meth K c_Catalog "close_lost" f_Catalog_close_lost
  me_Catalog_apply : Meth K c_Catalog "apply" f_Catalog_apply
  me_Catalog_shard_of : Meth K c_Catalog "shard_of" f_Catalog_shard_of
  c_Schema : Addr
  cl_Schema : Cls K c_Schema
  mc_Schema : mg "Schema" = some (.ref c_Schema)
  n_Schema_size : NoAttr K c_Schema "size"
  n_Schema_width : NoAttr K c_Schema "width"
  n_Schema_measure : NoAttr K c_Schema "measure"
  n_Schema_fields : NoAttr K c_Schema "fields"
  mk_Schema : Mk K c_Schema f_Schema___init__
  a_KINDS : Addr
  m_KINDS : mg "KINDS" = some (.ref a_KINDS)
  sq_KINDS : ∀ H, SqT K H a_KINDS [.str "integer", .str "text", .str "flag"]
  a_MEASURES : Addr
  m_MEASURES : mg "MEASURES" = some (.ref a_MEASURES)
  sq_MEASURES : ∀ H, SqT K H a_MEASURES [.str "square", .str "dot", .str "bits"]
  m_MODULUS : ∃ t, mg "MODULUS" = some (.int 4294967291 t)
  a_RESERVED : Addr
  m_RESERVED : mg "RESERVED" = some (.ref a_RESERVED)
  sq_RESERVED : ∀ H, SqT K H a_RESERVED [.str "every", .str "has", .str "in", .str "and", .str "or", .str "not", .str "true", .str "false"]
  a_WIDTHS : Addr
  m_WIDTHS : mg "WIDTHS" = some (.ref a_WIDTHS)
  es_WIDTHS : Array DictEntry
  en_WIDTHS : Nat
  kd_WIDTHS : KDict K w a_WIDTHS es_WIDTHS en_WIDTHS
  av_WIDTHS_bit : Addr
  ns_WIDTHS_bit : PySem.W.nsIn K a_WIDTHS "bit" = some (some (.ref av_WIDTHS_bit))
  sv_WIDTHS_bit : ∀ H, SqT K H av_WIDTHS_bit [.int (0), .int (1)]
  av_WIDTHS_small : Addr
  ns_WIDTHS_small : PySem.W.nsIn K a_WIDTHS "small" = some (some (.ref av_WIDTHS_small))
  sv_WIDTHS_small : ∀ H, SqT K H av_WIDTHS_small [.int (-128), .int (127)]
  av_WIDTHS_wide : Addr
  ns_WIDTHS_wide : PySem.W.nsIn K a_WIDTHS "wide" = some (some (.ref av_WIDTHS_wide))
  sv_WIDTHS_wide : ∀ H, SqT K H av_WIDTHS_wide [.int (-32768), .int (32767)]
  m_all : mg "all" = none
  m_int : mg "int" = none
  m_len : mg "len" = none
  m_list : mg "list" = none
  m_range : mg "range" = none
  m_set : mg "set" = none
  m_sorted : mg "sorted" = none
  m_tuple : mg "tuple" = none
section
variable {P : Program} {w : World} {K : PySem.W.Frag} {mg : Str → Option Value} {base : Heap}
def y_Schema (T : Txt w K mg base) : Ty Schema := ⟨fun Z v x => ∃ a dx w0 w1 w2 w3, v = .ref a ∧ Z a = some (.ins T.c_Schema dx (ff_Schema w0 w1 w2 w3)) ∧ (yInt).r Z w0 x.size ∧ (yStr).r Z w1 x.width ∧ (yStr).r Z w2 x.measure ∧ ((yTup K (yP2 K yStr yStr))).r Z w3 x.fields,
  fun s ⟨a, dx, w0, w1, w2, w3, e, h, h0, h1, h2, h3⟩ => ⟨a, dx, w0, w1, w2, w3, e, s _ _ h, (yInt).mono s h0, (yStr).mono s h1, (yStr).mono s h2, ((yTup K (yP2 K yStr yStr))).mono s h3⟩⟩
theorem nn_Schema (T : Txt w K mg base) : NonNil (y_Schema T) := fun _ _ _ ⟨_, _, _, _, _, _, e, _⟩ => by rw [e]; exact fun z => nomatch z
theorem fo_Schema_size (T : Txt w K mg base) : FldOf (y_Schema T) T.c_Schema "size" yInt Schema.size := fun _ _ _ ⟨a, dx, w0, w1, w2, w3, e, h, h0, h1, h2, h3⟩ => ⟨a, dx, _, w0, e, h, lk_Schema_size, h0⟩
theorem fo_Schema_width (T : Txt w K mg base) : FldOf (y_Schema T) T.c_Schema "width" yStr Schema.width := fun _ _ _ ⟨a, dx, w0, w1, w2, w3, e, h, h0, h1, h2, h3⟩ => ⟨a, dx, _, w1, e, h, lk_Schema_width, h1⟩
theorem fo_Schema_measure (T : Txt w K mg base) : FldOf (y_Schema T) T.c_Schema "measure" yStr Schema.measure := fun _ _ _ ⟨a, dx, w0, w1, w2, w3, e, h, h0, h1, h2, h3⟩ => ⟨a, dx, _, w2, e, h, lk_Schema_measure, h2⟩
theorem fo_Schema_fields (T : Txt w K mg base) : FldOf (y_Schema T) T.c_Schema "fields" (yTup K (yP2 K yStr yStr)) Schema.fields := fun _ _ _ ⟨a, dx, w0, w1, w2, w3, e, h, h0, h1, h2, h3⟩ => ⟨a, dx, _, w3, e, h, lk_Schema_fields, h3⟩
theorem oo_Schema (T : Txt w K mg base) {m : Str} (h : ¬ m = "size" ∧ ¬ m = "width" ∧ ¬ m = "measure" ∧ ¬ m = "fields") : ObjOf (y_Schema T) T.c_Schema m := fun _ _ _ ⟨a, dx, w0, w1, w2, w3, e, g, _⟩ => ⟨a, dx, _, e, g, no_Schema (h.1) (h.2.1) (h.2.2.1) (h.2.2.2)⟩
def y_Ledger (T : Txt w K mg base) : Ty Ledger := ⟨fun Z v x => ∃ a dx w0 w1 w2 w3 w4 w5 w6 w7, v = .ref a ∧ Z a = some (.ins T.c_Ledger dx (ff_Ledger w0 w1 w2 w3 w4 w5 w6 w7)) ∧ ((y_Schema T)).r Z w0 x.schema ∧ ((yTup K yInt)).r Z w1 x.key ∧ (yInt).r Z w2 x.now ∧ (yInt).r Z w3 x.floor ∧ ((yList yInt)).r Z w4 x.pins ∧ ((yList yInt)).r Z w5 x.notes ∧ ((yList yInt)).r Z w6 x.segments ∧ (yInt).r Z w7 x.upcoming,
  fun s ⟨a, dx, w0, w1, w2, w3, w4, w5, w6, w7, e, h, h0, h1, h2, h3, h4, h5, h6, h7⟩ => ⟨a, dx, w0, w1, w2, w3, w4, w5, w6, w7, e, s _ _ h, ((y_Schema T)).mono s h0, ((yTup K yInt)).mono s h1, (yInt).mono s h2, (yInt).mono s h3, ((yList yInt)).mono s h4, ((yList yInt)).mono s h5, ((yList yInt)).mono s h6, (yInt).mono s h7⟩⟩
theorem nn_Ledger (T : Txt w K mg base) : NonNil (y_Ledger T) := fun _ _ _ ⟨_, _, _, _, _, _, _, _, _, _, e, _⟩ => by rw [e]; exact fun z => nomatch z
theorem fo_Ledger_schema (T : Txt w K mg base) : FldOf (y_Ledger T) T.c_Ledger "schema" (y_Schema T) Ledger.schema := fun _ _ _ ⟨a, dx, w0, w1, w2, w3, w4, w5, w6, w7, e, h, h0, h1, h2, h3, h4, h5, h6, h7⟩ => ⟨a, dx, _, w0, e, h, lk_Ledger_schema, h0⟩
theorem fo_Ledger_key (T : Txt w K mg base) : FldOf (y_Ledger T) T.c_Ledger "key" (yTup K yInt) Ledger.key := fun _ _ _ ⟨a, dx, w0, w1, w2, w3, w4, w5, w6, w7, e, h, h0, h1, h2, h3, h4, h5, h6, h7⟩ => ⟨a, dx, _, w1, e, h, lk_Ledger_key, h1⟩
theorem fo_Ledger_now (T : Txt w K mg base) : FldOf (y_Ledger T) T.c_Ledger "now" yInt Ledger.now := fun _ _ _ ⟨a, dx, w0, w1, w2, w3, w4, w5, w6, w7, e, h, h0, h1, h2, h3, h4, h5, h6, h7⟩ => ⟨a, dx, _, w2, e, h, lk_Ledger_now, h2⟩
theorem fo_Ledger_floor (T : Txt w K mg base) : FldOf (y_Ledger T) T.c_Ledger "floor" yInt Ledger.floor := fun _ _ _ ⟨a, dx, w0, w1, w2, w3, w4, w5, w6, w7, e, h, h0, h1, h2, h3, h4, h5, h6, h7⟩ => ⟨a, dx, _, w3, e, h, lk_Ledger_floor, h3⟩
theorem fo_Ledger_pins (T : Txt w K mg base) : FldOf (y_Ledger T) T.c_Ledger "pins" (yList yInt) Ledger.pins := fun _ _ _ ⟨a, dx, w0, w1, w2, w3, w4, w5, w6, w7, e, h, h0, h1, h2, h3, h4, h5, h6, h7⟩ => ⟨a, dx, _, w4, e, h, lk_Ledger_pins, h4⟩
theorem fo_Ledger_notes (T : Txt w K mg base) : FldOf (y_Ledger T) T.c_Ledger "notes" (yList yInt) Ledger.notes := fun _ _ _ ⟨a, dx, w0, w1, w2, w3, w4, w5, w6, w7, e, h, h0, h1, h2, h3, h4, h5, h6, h7⟩ => ⟨a, dx, _, w5, e, h, lk_Ledger_notes, h5⟩
theorem fo_Ledger_segments (T : Txt w K mg base) : FldOf (y_Ledger T) T.c_Ledger "segments" (yList yInt) Ledger.segments := fun _ _ _ ⟨a, dx, w0, w1, w2, w3, w4, w5, w6, w7, e, h, h0, h1, h2, h3, h4, h5, h6, h7⟩ => ⟨a, dx, _, w6, e, h, lk_Ledger_segments, h6⟩
theorem fo_Ledger_upcoming (T : Txt w K mg base) : FldOf (y_Ledger T) T.c_Ledger "upcoming" yInt Ledger.upcoming := fun _ _ _ ⟨a, dx, w0, w1, w2, w3, w4, w5, w6, w7, e, h, h0, h1, h2, h3, h4, h5, h6, h7⟩ => ⟨a, dx, _, w7, e, h, lk_Ledger_upcoming, h7⟩
theorem oo_Ledger (T : Txt w K mg base) {m : Str} (h : ¬ m = "schema" ∧ ¬ m = "key" ∧ ¬ m = "now" ∧ ¬ m = "floor" ∧ ¬ m = "pins" ∧ ¬ m = "notes" ∧ ¬ m = "segments" ∧ ¬ m = "upcoming") : ObjOf (y_Ledger T) T.c_Ledger m := fun _ _ _ ⟨a, dx, w0, w1, w2, w3, w4, w5, w6, w7, e, g, _⟩ => ⟨a, dx, _, e, g, no_Ledger (h.1) (h.2.1) (h.2.2.1) (h.2.2.2.1) (h.2.2.2.2.1) (h.2.2.2.2.2.1) (h.2.2.2.2.2.2.1) (h.2.2.2.2.2.2.2)⟩
theorem lf_Catalog {v0 v1 v2 v3 v4 : V} : ff_Catalog v0 v1 v2 v3 v4 = [(("ledger" : Str), v0), (("titles" : Str), v1), (("closed" : Str), v2), (("routes" : Str), v3), (("begins" : Str), v4)] := by
  unfold ff_Catalog
  rw [putF_nil (f := "ledger")]
  rw [putF_ne (f := "titles") (g := "ledger") (by decide +kernel), putF_nil (f := "titles")]
  rw [putF_ne (f := "closed") (g := "ledger") (by decide +kernel), putF_ne (f := "closed") (g := "titles") (by decide +kernel), putF_nil (f := "closed")]
  rw [putF_ne (f := "routes") (g := "ledger") (by decide +kernel), putF_ne (f := "routes") (g := "titles") (by decide +kernel), putF_ne (f := "routes") (g := "closed") (by decide +kernel), putF_nil (f := "routes")]
  rw [putF_ne (f := "begins") (g := "ledger") (by decide +kernel), putF_ne (f := "begins") (g := "titles") (by decide +kernel), putF_ne (f := "begins") (g := "closed") (by decide +kernel), putF_ne (f := "begins") (g := "routes") (by decide +kernel), putF_nil (f := "begins")]
theorem lenf_Catalog {v0 v1 v2 v3 v4 : V} : (ff_Catalog v0 v1 v2 v3 v4).length ≤ 5 := by
  rw [lf_Catalog]
  exact Nat.le_refl _
def mu_Catalog (T : Txt w K mg base) (p : Addr) : Mu Catalog where
  fp := [p]
  m := fun x Z H => Z p = none ∧ (∃ dx w0 w1 w2 w3 w4, H p = some (.ins T.c_Catalog dx (ff_Catalog w0 w1 w2 w3 w4)) ∧ ((y_Ledger T)).r Z w0 x.ledger ∧ ((yList (yP3 K yInt yInt yStr))).r Z w1 x.titles ∧ ((yList (yP2 K yInt yStr))).r Z w2 x.closed ∧ ((yList (yP2 K yStr yInt))).r Z w3 x.routes ∧ (yInt).r Z w4 x.begins)
  al := fun ⟨z, ⟨dx, w0, w1, w2, w3, w4, h, _⟩⟩ a ha => by
    rw [List.mem_singleton] at ha; subst ha; exact ⟨some_ne h, z⟩
  loc := fun sz hk hn ⟨z, ⟨dx, w0, w1, w2, w3, w4, h, h0, h1, h2, h3, h4⟩⟩ => ⟨hn p List.mem_cons_self (some_ne h) z, ⟨dx, w0, w1, w2, w3, w4, hk p List.mem_cons_self _ h, ((y_Ledger T)).mono sz h0, ((yList (yP3 K yInt yInt yStr))).mono sz h1, ((yList (yP2 K yInt yStr))).mono sz h2, ((yList (yP2 K yStr yInt))).mono sz h3, (yInt).mono sz h4⟩⟩
theorem mf_Catalog_ledger (T : Txt w K mg base) {p : Addr} : MFld (mu_Catalog T p) p T.c_Catalog "ledger" (y_Ledger T) (fun x => x.ledger) := fun x Z H ⟨z, ⟨dx, w0, w1, w2, w3, w4, h, h0, h1, h2, h3, h4⟩⟩ => ⟨dx, _, w0, h, lk_Catalog_ledger, h0⟩
theorem pf_Catalog_ledger {w0 w1 w2 w3 w4 v : V} : putF "ledger" v (ff_Catalog w0 w1 w2 w3 w4) = ff_Catalog v w1 w2 w3 w4 := by
  rw [lf_Catalog, lf_Catalog]
  rw [putF_eq]
theorem ms_Catalog_ledger (T : Txt w K mg base) {p : Addr} : MSet (mu_Catalog T p) p T.c_Catalog "ledger" (y_Ledger T) (fun x y => { x with ledger := y }) := fun x Z H ⟨z, ⟨dx, w0, w1, w2, w3, w4, h, h0, h1, h2, h3, h4⟩⟩ => ⟨List.mem_cons_self, z, dx, _, h, Nat.lt_of_le_of_lt (lenf_Catalog) (by decide), fun w y r => ⟨z, ⟨dx, w, w1, w2, w3, w4, by rw [upd_same, pf_Catalog_ledger], r, h1, h2, h3, h4⟩⟩⟩
theorem mf_Catalog_titles (T : Txt w K mg base) {p : Addr} : MFld (mu_Catalog T p) p T.c_Catalog "titles" (yList (yP3 K yInt yInt yStr)) (fun x => x.titles) := fun x Z H ⟨z, ⟨dx, w0, w1, w2, w3, w4, h, h0, h1, h2, h3, h4⟩⟩ => ⟨dx, _, w1, h, lk_Catalog_titles, h1⟩
theorem pf_Catalog_titles {w0 w1 w2 w3 w4 v : V} : putF "titles" v (ff_Catalog w0 w1 w2 w3 w4) = ff_Catalog w0 v w2 w3 w4 := by
  rw [lf_Catalog, lf_Catalog]
  rw [putF_ne (by decide +kernel), putF_eq]
theorem ms_Catalog_titles (T : Txt w K mg base) {p : Addr} : MSet (mu_Catalog T p) p T.c_Catalog "titles" (yList (yP3 K yInt yInt yStr)) (fun x y => { x with titles := y }) := fun x Z H ⟨z, ⟨dx, w0, w1, w2, w3, w4, h, h0, h1, h2, h3, h4⟩⟩ => ⟨List.mem_cons_self, z, dx, _, h, Nat.lt_of_le_of_lt (lenf_Catalog) (by decide), fun w y r => ⟨z, ⟨dx, w0, w, w2, w3, w4, by rw [upd_same, pf_Catalog_titles], h0, r, h2, h3, h4⟩⟩⟩
theorem mf_Catalog_closed (T : Txt w K mg base) {p : Addr} : MFld (mu_Catalog T p) p T.c_Catalog "closed" (yList (yP2 K yInt yStr)) (fun x => x.closed) := fun x Z H ⟨z, ⟨dx, w0, w1, w2, w3, w4, h, h0, h1, h2, h3, h4⟩⟩ => ⟨dx, _, w2, h, lk_Catalog_closed, h2⟩
theorem pf_Catalog_closed {w0 w1 w2 w3 w4 v : V} : putF "closed" v (ff_Catalog w0 w1 w2 w3 w4) = ff_Catalog w0 w1 v w3 w4 := by
  rw [lf_Catalog, lf_Catalog]
  rw [putF_ne (by decide +kernel), putF_ne (by decide +kernel), putF_eq]
theorem ms_Catalog_closed (T : Txt w K mg base) {p : Addr} : MSet (mu_Catalog T p) p T.c_Catalog "closed" (yList (yP2 K yInt yStr)) (fun x y => { x with closed := y }) := fun x Z H ⟨z, ⟨dx, w0, w1, w2, w3, w4, h, h0, h1, h2, h3, h4⟩⟩ => ⟨List.mem_cons_self, z, dx, _, h, Nat.lt_of_le_of_lt (lenf_Catalog) (by decide), fun w y r => ⟨z, ⟨dx, w0, w1, w, w3, w4, by rw [upd_same, pf_Catalog_closed], h0, h1, r, h3, h4⟩⟩⟩
theorem mf_Catalog_routes (T : Txt w K mg base) {p : Addr} : MFld (mu_Catalog T p) p T.c_Catalog "routes" (yList (yP2 K yStr yInt)) (fun x => x.routes) := fun x Z H ⟨z, ⟨dx, w0, w1, w2, w3, w4, h, h0, h1, h2, h3, h4⟩⟩ => ⟨dx, _, w3, h, lk_Catalog_routes, h3⟩
theorem pf_Catalog_routes {w0 w1 w2 w3 w4 v : V} : putF "routes" v (ff_Catalog w0 w1 w2 w3 w4) = ff_Catalog w0 w1 w2 v w4 := by
  rw [lf_Catalog, lf_Catalog]
  rw [putF_ne (by decide +kernel), putF_ne (by decide +kernel), putF_ne (by decide +kernel), putF_eq]
theorem ms_Catalog_routes (T : Txt w K mg base) {p : Addr} : MSet (mu_Catalog T p) p T.c_Catalog "routes" (yList (yP2 K yStr yInt)) (fun x y => { x with routes := y }) := fun x Z H ⟨z, ⟨dx, w0, w1, w2, w3, w4, h, h0, h1, h2, h3, h4⟩⟩ => ⟨List.mem_cons_self, z, dx, _, h, Nat.lt_of_le_of_lt (lenf_Catalog) (by decide), fun w y r => ⟨z, ⟨dx, w0, w1, w2, w, w4, by rw [upd_same, pf_Catalog_routes], h0, h1, h2, r, h4⟩⟩⟩
theorem mf_Catalog_begins (T : Txt w K mg base) {p : Addr} : MFld (mu_Catalog T p) p T.c_Catalog "begins" yInt (fun x => x.begins) := fun x Z H ⟨z, ⟨dx, w0, w1, w2, w3, w4, h, h0, h1, h2, h3, h4⟩⟩ => ⟨dx, _, w4, h, lk_Catalog_begins, h4⟩
theorem pf_Catalog_begins {w0 w1 w2 w3 w4 v : V} : putF "begins" v (ff_Catalog w0 w1 w2 w3 w4) = ff_Catalog w0 w1 w2 w3 v := by
  rw [lf_Catalog, lf_Catalog]
  rw [putF_ne (by decide +kernel), putF_ne (by decide +kernel), putF_ne (by decide +kernel), putF_ne (by decide +kernel), putF_eq]
theorem ms_Catalog_begins (T : Txt w K mg base) {p : Addr} : MSet (mu_Catalog T p) p T.c_Catalog "begins" yInt (fun x y => { x with begins := y }) := fun x Z H ⟨z, ⟨dx, w0, w1, w2, w3, w4, h, h0, h1, h2, h3, h4⟩⟩ => ⟨List.mem_cons_self, z, dx, _, h, Nat.lt_of_le_of_lt (lenf_Catalog) (by decide), fun w y r => ⟨z, ⟨dx, w0, w1, w2, w3, w, by rw [upd_same, pf_Catalog_begins], h0, h1, h2, h3, r⟩⟩⟩
theorem mo_Catalog (T : Txt w K mg base) {p : Addr} {m : Str} (hh : ¬ m = "ledger" ∧ ¬ m = "titles" ∧ ¬ m = "closed" ∧ ¬ m = "routes" ∧ ¬ m = "begins") : MObj (mu_Catalog T p) p T.c_Catalog m := fun x Z H ⟨z, ⟨dx, w0, w1, w2, w3, w4, h, h0, h1, h2, h3, h4⟩⟩ => ⟨dx, _, h, no_Catalog (hh.1) (hh.2.1) (hh.2.2.1) (hh.2.2.2.1) (hh.2.2.2.2)⟩
theorem ev_in_WIDTHS (T : Txt w K mg base) {μ : Type} {M : Mu μ} {σ : L2.St} {Z H : Hp} {s s1 : μ} {ta : TE} {z : Str} {b : Bool} (ha : Ev M ta σ Z H s (ty yStr z) s1) (h : in_WIDTHS z = some b) :
    Ev M (tOp (fun x y H Q => ∃ (z : Str) (r : Option Value), x = .str z ∧ y = .ref T.a_WIDTHS ∧ PySem.W.nsIn K T.a_WIDTHS z = some r ∧ Q (.bl (r.isSome)) H) ta (tC (.ref T.a_WIDTHS))) σ Z H s (ty yBool (b)) s1 := by
  have key : ∃ r, PySem.W.nsIn K T.a_WIDTHS z = some r ∧ r.isSome = b := by
    unfold in_WIDTHS at h
    by_cases q : z = "bit"
    · subst q
      rw [if_pos rfl] at h
      have h := Option.some.inj h
      subst h
      exact ⟨_, T.ns_WIDTHS_bit, rfl⟩
    rw [if_neg q] at h
    by_cases q : z = "small"
    · subst q
      rw [if_pos rfl] at h
      have h := Option.some.inj h
      subst h
      exact ⟨_, T.ns_WIDTHS_small, rfl⟩
    rw [if_neg q] at h
    by_cases q : z = "wide"
    · subst q
      rw [if_pos rfl] at h
      have h := Option.some.inj h
      subst h
      exact ⟨_, T.ns_WIDTHS_wide, rfl⟩
    rw [if_neg q] at h
    cases h
  obtain ⟨r, hr, hb⟩ := key
  subst hb
  exact ev_op ha (ev_of (R := ⟨fun _ _ v => v = .ref T.a_WIDTHS, fun _ h => h⟩) fun _ _ _ _ _ _ q => q _ rfl) fun _ _ _ _ sz e1 e2 _ q => ⟨z, r, e1.1, e2, hr, q _ _ _ (Step.refl sz) rfl⟩
theorem ev_notin_WIDTHS (T : Txt w K mg base) {μ : Type} {M : Mu μ} {σ : L2.St} {Z H : Hp} {s s1 : μ} {ta : TE} {z : Str} {b : Bool} (ha : Ev M ta σ Z H s (ty yStr z) s1) (h : in_WIDTHS z = some b) :
    Ev M (tOp (fun x y H Q => ∃ (z : Str) (r : Option Value), x = .str z ∧ y = .ref T.a_WIDTHS ∧ PySem.W.nsIn K T.a_WIDTHS z = some r ∧ Q (.bl (!r.isSome)) H) ta (tC (.ref T.a_WIDTHS))) σ Z H s (ty yBool (!b)) s1 := by
  have key : ∃ r, PySem.W.nsIn K T.a_WIDTHS z = some r ∧ r.isSome = b := by
    unfold in_WIDTHS at h
    by_cases q : z = "bit"
    · subst q
      rw [if_pos rfl] at h
      have h := Option.some.inj h
      subst h
      exact ⟨_, T.ns_WIDTHS_bit, rfl⟩
    rw [if_neg q] at h
    by_cases q : z = "small"
    · subst q
      rw [if_pos rfl] at h
      have h := Option.some.inj h
      subst h
      exact ⟨_, T.ns_WIDTHS_small, rfl⟩
    rw [if_neg q] at h
    by_cases q : z = "wide"
    · subst q
      rw [if_pos rfl] at h
      have h := Option.some.inj h
      subst h
      exact ⟨_, T.ns_WIDTHS_wide, rfl⟩
    rw [if_neg q] at h
    cases h
  obtain ⟨r, hr, hb⟩ := key
  subst hb
  exact ev_op ha (ev_of (R := ⟨fun _ _ v => v = .ref T.a_WIDTHS, fun _ h => h⟩) fun _ _ _ _ _ _ q => q _ rfl) fun _ _ _ _ sz e1 e2 _ q => ⟨z, r, e1.1, e2, hr, q _ _ _ (Step.refl sz) rfl⟩

def exv (T : Txt w K mg base) : Exc → Value
  | .InvalidSchema => .ref T.c_InvalidSchema
  | .InvalidKey => .ref T.c_InvalidKey

def sp_law_row (T : Txt w K mg base) : Sp := fun vs H Q _ => ∃ (sc : Addr) (ns : List Int) (k : Nat), vs = [.ref sc, .int (k : Nat)] ∧ (H sc = some (.lst (ns.map V.int))) ∧ Q (.int (rowZ ns k)) H
set_option maxHeartbeats 4000000 in
theorem ok_law_row (T : Txt w K mg base) : FnOk P w K mg base CX0 1 T.f_law_row T.d_law_row ["script", "k"] (sp_law_row T) := by
  refine T.F_law_row.ok sc_law_row (fun vs H Q E h => ?_) (fun cdv A outer s H vs Q E hr h => ?_)
  · obtain ⟨sc, ns, k, rfl, _⟩ := h
    rfl
  · obtain ⟨sc, ns, k, rfl, hS, q⟩ := h
    refine ⟨_, (pss_cons (ps_set (i := 2) sc_law_row.nd rfl (.inl rfl) pe_int) 
      (pss_cut (ps_if (pt_cmpR op_lt (pv 1) (pe_callB call_len_seq (by rfl) T.m_len PySem.boot_len (pa_cons (pv 0) pa_nil)) (nomark _)) (pss_one (ps_set (i := 2) sc_law_row.nd rfl (.inl rfl) (pe_ix ix_list (pv 0) (pv 1) (fun _ _ => rfl)))) pss_nil) 
      (pss_cut (ps_if (pt_cmpR op_lt (pv 2) pe_int (nomark _)) (pss_one (ps_set (i := 2) sc_law_row.nd rfl (.inl rfl) (pe_op op_sub (pe_op op_mul (pe_un un_neg pe_int) (pv 2)) pe_int))) pss_nil) 
      (pss_cut (ps_if (pt_cmpR op_lt (pv 2) (pe_op op_pow pe_int pe_int) (nomark _)) (pss_cons (ps_set (i := 3) sc_law_row.nd rfl (.inl rfl) (pe_op op_mod (pe_callTy call_int1 (by rfl) T.m_int (by decide +kernel) (pa_cons (pe_op op_add (pe_op op_add (pe_op op_mul (pv 2) pe_int) (pe_op op_mul (pv 1) pe_int)) pe_int) pa_nil)) pe_int)) 
      (pss_cons (ps_set (i := 4) sc_law_row.nd rfl (.inl rfl) (pe_op op_mod (pe_callTy call_int1 (by rfl) T.m_int (by decide +kernel) (pa_cons (pe_op op_add (pe_op op_add (pe_op op_add (pe_op op_mul (pv 3) pe_int) (pe_op op_mul (pv 2) pe_int)) (pv 1)) pe_int) pa_nil)) pe_int)) 
      (pss_cons (ps_set (i := 5) sc_law_row.nd rfl (.inl rfl) (pe_op op_mod (pe_callTy call_int1 (by rfl) T.m_int (by decide +kernel) (pa_cons (pe_op op_add (pe_op op_add (pe_op op_mul (pv 4) pe_int) (pe_op op_mul (pv 3) (pv 4))) pe_int) pa_nil)) pe_int)) 
      (pss_one (ps_set (i := 2) sc_law_row.nd rfl (.inl rfl) (pe_op op_add (pe_op op_add (pv 3) (pe_op op_mul (pv 4) pe_int)) (pe_op op_mul (pv 5) (pe_op op_pow pe_int pe_int)))))))) pss_nil) 
      (pss_one (ps_ret (pv 2))))))), ?_⟩
    -- if k < len(script): cell = script[k]
    refine ⟨fun σ' H' => H' = H ∧ σ' = [some (.ref sc), some (.int (k : Nat)), some (.int (ns.getD k 0)), none, none, none], ?_, ?_⟩
    · refine ⟨_, rfl, _, rfl, sc, _, rfl, .inl (SqL.of hS), _, _, rfl, rfl, _, rfl, ite2 (fun e => ?_) (fun e => ?_)⟩
      · have hl : (k : Int) < ((ns.map V.int).length : Int) := of_decide_eq_true e
        rw [List.length_map] at hl
        have hk : k < ns.length := by omega
        exact ⟨_, rfl, _, rfl, sc, _, (k : Nat), .int (ns.getD k 0), rfl, rfl, SqL.of hS, at_of (j := k) rfl (by rw [List.getElem?_map, getD_lt hk]; rfl), rfl, rfl⟩
      · have hl : ¬ (k : Int) < ((ns.map V.int).length : Int) := fun h => e (decide_eq_true h)
        rw [List.length_map] at hl
        have hk : ¬ k < ns.length := by omega
        exact ⟨rfl, by rw [getD_ge hk]; rfl⟩
    rintro σ' H' ⟨rfl, rfl⟩
    -- if cell < 0: cell = -2 * cell - 1
    refine ⟨fun σ' H2 => H2 = H' ∧ σ' = [some (.ref sc), some (.int (k : Nat)), some (.int (row1 ns k)), none, none, none], ?_, ?_⟩
    · refine ⟨_, rfl, _, _, rfl, rfl, _, rfl, ite2 (fun e => ?_) (fun e => ?_)⟩
      · have hc : ns.getD k 0 < 0 := of_decide_eq_true e
        refine ⟨2, rfl, _, rfl, _, _, rfl, rfl, .inl ⟨by decide, by decide⟩, _, _, rfl, rfl, rfl, ?_⟩
        unfold row1
        rw [if_pos hc]
        rfl
      · have hc : ¬ ns.getD k 0 < 0 := fun h => e (decide_eq_true h)
        exact ⟨rfl, by unfold row1; rw [if_neg hc]⟩
    rintro σ' H2 ⟨rfl, rfl⟩
    have c0 := row1_nn ns k
    -- if cell < 10 ** 9: ..
    refine ⟨fun σ' H' => H' = H2 ∧ ∃ (x y z : Option V), σ' = [some (.ref sc), some (.int (k : Nat)), some (.int (rowZ ns k)), x, y, z], ?_, ?_⟩
    · refine ⟨_, rfl, _, _, rfl, rfl, ⟨by decide, by decide, by decide⟩, _, _, rfl, rfl, _, rfl, ite2 (fun e => ?_) (fun e => ?_)⟩
      · have h9 : row1 ns k < 10 ^ 9 := of_decide_eq_true e
        rw [rowZ_lo h9]
        generalize row1 ns k = c at h9 c0
        refine ⟨_, rfl, _, _, rfl, rfl, .inr ⟨by decide, by decide⟩, _, rfl, _, _, rfl, rfl, .inr ⟨by decide, by decide⟩, _, _, rfl, rfl, _, _, rfl, rfl, .inl ⟨_, rfl, ?_⟩⟩
        refine ⟨_, _, rfl, rfl, (by decide : (0 : Int) < 2147483647), ?_⟩
        dsimp only
        refine ⟨_, rfl, _, _, rfl, rfl, .inr ⟨by decide, by decide⟩, _, rfl, _, _, rfl, rfl, .inr ⟨by decide, by decide⟩, _, _, rfl, rfl, _, rfl, _, _, rfl, rfl, _, _, rfl, rfl, .inl ⟨_, rfl, ?_⟩⟩
        refine ⟨_, _, rfl, rfl, (by decide : (0 : Int) < 2147483629), ?_⟩
        dsimp only
        refine ⟨_, rfl, _, _, rfl, rfl, .inr ⟨by decide, by decide⟩, _, rfl, _, rfl, _, _, rfl, rfl, .inl ⟨by omega, by omega⟩, _, _, rfl, rfl, _, _, rfl, rfl, .inl ⟨_, rfl, ?_⟩⟩
        refine ⟨_, _, rfl, rfl, (by decide : (0 : Int) < 2147483587), ?_⟩
        dsimp only
        refine ⟨_, rfl, _, rfl, _, _, rfl, rfl, .inr ⟨by decide, by decide⟩, _, _, rfl, rfl, _, rfl, _, _, rfl, rfl, ⟨by decide, by decide, by decide⟩, _, _, rfl, rfl, .inr ⟨by decide, by decide⟩, _, _, rfl, rfl, rfl, _, _, _, rfl⟩
      · have h9 : ¬ row1 ns k < 10 ^ 9 := fun h => e (decide_eq_true h)
        rw [rowZ_hi h9]
        exact ⟨rfl, _, _, _, rfl⟩
    rintro σ' H' ⟨rfl, x, y, z, rfl⟩
    exact ⟨_, rfl, q⟩
def sp_law_next (T : Txt w K mg base) : Sp := fun vs H Q _ => ∃ (st sc : Addr) (Z0 : Hp) (ds : DS) (v_many : V) (m : Int), vs = [.ref st, v_many] ∧ (Same Z0 H) ∧ ((muD st sc).m ds Z0 H) ∧ (v_many = .int m) ∧ (NxOk m) ∧ ∀ v Z' H', Step (muD st sc).fp Z0 H Z' H' → (muD st sc).m (nxS ds m) Z' H' → yInt.r Z' v (nxV ds m) → Q v H'
set_option maxHeartbeats 4000000 in
theorem ok_law_next (T : Txt w K mg base) : FnOk P w K mg base CX0 2 T.f_law_next T.d_law_next ["state", "many"] (sp_law_next T) := by
  have G_law_row : FnOk P w K mg base CX0 1 T.f_law_row T.d_law_row ["script", "k"] (sp_law_row T) := ok_law_row T
  refine T.F_law_next.ok sc_law_next (fun vs H Q E h => ?_) (fun cdv A outer s H vs Q E hr h => ?_)
  · obtain ⟨st, sc, Z0, ds, v_many, m, rfl, _⟩ := h
    rfl
  · obtain ⟨st, sc, Z0, ds, v_many, m, rfl, sz, hm, h_many, hok, q⟩ := h
    refine ⟨_, (pss_cut (ps_if (pt_cmpR op_lt (pe_ix ix_list (pv 0) pe_int (fun _ _ => rfl)) (pv 1) (nomark _)) (pss_cons (ps_asg (pe_call G_law_row (hr.mono (by decide)) (by rfl) T.g_law_row T.F_law_row.kp T.b_law_row .nil pass0 (pa_cons (pe_ix ix_list (pv 0) pe_int (fun _ _ => rfl)) (pa_cons (pe_ix ix_list (pv 0) pe_int (fun _ _ => rfl)) pa_nil))) (pg_sub (pv 0) pe_int set_list)) 
      (pss_one (ps_asg (pe_op op_add (pe_ix ix_list (pv 0) pe_int (fun _ _ => rfl)) pe_int) (pg_sub (pv 0) pe_int set_list)))) pss_nil) 
      (pss_cons (ps_set (i := 2) sc_law_next.nd rfl (.inl rfl) (pe_op op_mod (pe_callTy call_int1 (by rfl) T.m_int (by decide +kernel) (pa_cons (pe_ix ix_list (pv 0) pe_int (fun _ _ => rfl)) pa_nil)) (pv 1))) 
      (pss_cons (ps_asg (pe_op op_fdivW (pe_ix ix_list (pv 0) pe_int (fun _ _ => rfl)) (pv 1)) (pg_sub (pv 0) pe_int set_list)) 
      (pss_one (ps_ret (pv 2)))))), ?_⟩
    obtain ⟨m0, m1⟩ := hok
    subst h_many
    obtain ⟨h1, h2, h3⟩ := hm
    obtain ⟨ns, k, x⟩ := ds
    have g2 : H sc = some (.lst (ns.map V.int)) := sz _ _ h2
    have ne : sc ≠ st := fun e => by rw [e] at h2; rw [h2] at h3; cases h3
    refine ⟨fun σ' H' => Step [st] Z0 H Z0 H' ∧ σ' = [some (.ref st), some (.int m), none] ∧ H' st = some (.lst [.ref sc, .int ((if (x : Int) < m then k + 1 else k : Nat) : Int), .int ((DS.cur ⟨ns, k, x⟩ m : Nat) : Int)]), ?_, ?_⟩
    · refine ⟨_, rfl, st, _, _, _, rfl, rfl, SqL.of h1, at_of (j := 2) rfl rfl, _, rfl, _, _, rfl, rfl, _, rfl, ite2 (fun e => ?_) (fun e => ?_)⟩
      · have hlt : (x : Int) < m := of_decide_eq_true e
        refine ⟨_, rfl, st, _, _, _, rfl, rfl, SqL.of h1, at_of (j := 0) rfl rfl, _, rfl, st, _, _, _, rfl, rfl, SqL.of h1, at_of (j := 1) rfl rfl, sc, ns, k, rfl, g2, ?_⟩
        refine ⟨_, rfl, st, _, _, 2, rfl, rfl, h1, rfl, ?_⟩
        refine ⟨_, rfl, st, _, _, _, rfl, rfl, SqL.of upd_same, at_of (j := 1) rfl rfl, _, _, rfl, rfl, _, rfl, st, _, _, 1, rfl, rfl, upd_same, rfl, ?_⟩
        refine ⟨(Step.set sz h3).trans (Step.set (Step.set sz h3).s h3), rfl, ?_⟩
        rw [upd_same, if_pos hlt]
        have : ((DS.cur ⟨ns, k, x⟩ m : Nat) : Int) = rowZ ns k := by
          unfold DS.cur
          rw [if_pos hlt]
          have := rowZ_nn ns k
          show (((rowZ ns k).toNat : Nat) : Int) = rowZ ns k
          omega
        rw [this]
        rfl
      · have hlt : ¬ (x : Int) < m := fun h => e (decide_eq_true h)
        refine ⟨Step.refl sz, rfl, ?_⟩
        rw [h1, if_neg hlt]
        unfold DS.cur
        rw [if_neg hlt]
    rintro σ' H' ⟨hO, rfl, h4⟩
    -- drawn = int(state[2]) % many
    refine ⟨_, rfl, st, _, _, _, rfl, rfl, SqL.of h4, at_of (j := 2) rfl rfl, .inl ⟨_, rfl, ?_⟩⟩
    refine ⟨_, rfl, _, _, rfl, rfl, m0, ?_⟩
    -- state[2] = state[2] // many
    refine ⟨_, rfl, st, _, _, _, rfl, rfl, SqL.of h4, at_of (j := 2) rfl rfl, _, rfl, _, _, rfl, rfl, wide_div m0 m1 (by decide) (by decide), ?_⟩
    refine ⟨_, rfl, st, _, _, 2, rfl, rfl, h4, rfl, ?_⟩
    have nn : 0 ≤ ((DS.cur ⟨ns, k, x⟩ m : Nat) : Int) / m := Int.ediv_nonneg (Int.natCast_nonneg _) (by omega)
    refine ⟨_, rfl, q _ Z0 _ (hO.trans (Step.set hO.s h3)) ⟨?_, h2, h3⟩ rfl⟩
    rw [upd_same]
    show some (HO.lst [_, _, _]) = some (HO.lst [_, _, V.int (((((DS.cur ⟨ns, k, x⟩ m : Nat) : Int) / m).toNat : Nat) : Int)])
    rw [Int.toNat_of_nonneg nn]
    rfl
theorem cs__law_next (T : Txt w K mg base) {st sc : Addr} {ds : DS} {E : XK} {m : Int} (h : NxOk m) : CallS (muD st sc) (sp_law_next T) E (rac (isRef st) (rac (ty yInt m) ra0)) ds (ty yInt (nxV ds m)) (nxS ds m) := by
  rintro Z H vs sz mm ⟨_, _, rfl, rfl, v_many, _, rfl, h_many, rfl⟩ Q q
  exact ⟨st, sc, Z, ds, v_many, m, rfl, sz, mm, h_many, h, q⟩
theorem cu__law_next (T : Txt w K mg base) {st sc : Addr} {ds : DS} {E : XK} {m : Int} {μ : Type} {M : Mu μ} {s s2 : μ} (hm : ∀ Z H, M.m s Z H → (muD st sc).m ds Z H) (hf : ∀ a ∈ (muD st sc).fp, a ∈ M.fp) (hp : ∀ Z H Z' H', M.m s Z H → Step (muD st sc).fp Z H Z' H' → (muD st sc).m (nxS ds m) Z' H' → M.m s2 Z' H') (h : NxOk m) : CallS M (sp_law_next T) E (rac (isRef st) (rac (ty yInt m) ra0)) s (ty yInt (nxV ds m)) s2 := by
  rintro Z H vs sz mm ⟨_, _, rfl, rfl, v_many, _, rfl, h_many, rfl⟩ Q q
  exact ⟨st, sc, Z, ds, v_many, m, rfl, sz, hm _ _ mm, h_many, h, fun v Z2 H2 st2 m2 hv => q v Z2 H2 (st2.weak fun a h => .inl (hf a h)) (hp _ _ _ _ mm st2 m2) hv⟩
def sp_check_key (T : Txt w K mg base) : Sp := fun vs H Q E => ∃ (Z0 : Hp) (v_key : V) (x_key : (List Int)) (y : (Res Exc Unit)), vs = [v_key] ∧ (Same Z0 H) ∧ (((yTup K yInt)).r Z0 v_key x_key) ∧ (F_check_key x_key = some y) ∧ (∀ a, y = .ok a → ∀ v Z' H', Step [] Z0 H Z' H' → (yNon).r Z' v a → Q v H') ∧ (∀ c, y = .er c → ∀ Z' H', Step [] Z0 H Z' H' → E (exv T c) none H')
set_option maxHeartbeats 4000000 in
theorem ok_check_key (T : Txt w K mg base) : FnOk P w K mg base (L2.CX P w) 1 T.f_check_key T.d_check_key ["key"] (sp_check_key T) := by
  refine T.F_check_key.okX sc_check_key (fun vs H Q E h => ?_) (fun cdv A outer s H vs Q E hr h => ?_)
  · obtain ⟨Z0, v_key, x_key, y, rfl, _⟩ := h
    rfl
  · obtain ⟨Z0, v_key, x_key, y, rfl, sz, h_key, hF, q⟩ := h
    refine ⟨_, (pss_one (ps_for (passes_of rfl) rfl (pi_tup (pv 0)) (pg_name (i := 1) sc_check_key.nd rfl (.inl rfl)) (pss_one (ps_if (PW.pt (pw_or (pt_cmpR op_lt (pv 1) pe_int (nomark _)) (pw_or1 (pt_cmpR op_ge (pv 1) (pe_glob (v := .int 4294967291) rfl T.m_MODULUS.choose_spec ⟨_, rfl⟩) (nomark _))))) (pss_one (ps_raise rfl (takes_of rfl rfl rfl rfl) (pmk_own PySem.F.excBase_ValueError T.x_InvalidKey T.mc_InvalidKey T.kp_InvalidKey (raises_own T.xb_InvalidKey T.xt_InvalidKey) rfl))) pss_nil)))), ?_⟩
    obtain ⟨q, qx⟩ := q
    have P := Pt.start0 sz
    unfold F_check_key at hF
    obtain ⟨f_17, hL_18, hF⟩ := bind_inv hF
    refine st_for (τ := yInt) (fun (r_3 : List Int) σ' Z' H' => ∃ w_1, ∃ (y_8 : Option V) (y_9 : Option V), σ' = [y_8, y_9] ∧ Pt [] Z0 H muN Z' H' () ∧ forS L_check_key_1 r_3 w_1 = some f_17) P (ei_tup (ev_var (τ := (yTup K yInt)) rfl h_key)) ?_ ?_ ?_
    · rintro Z1 H1 e P1
      replace P := P1
      replace h_key := ((yTup K yInt)).mono e.z h_key
      exact ⟨(), _, _, rfl, P, hL_18⟩
    · rintro Zb_7 Hb eb x_2 r_3 σ' v_13 Z1 H1 Z2 H2 zs_6 ⟨w_1, y_8, y_9, rfl, P, hq_5⟩ e hx_14
      replace P := P.item e
      replace zs_6 := zs_6.trans e.z
      obtain ⟨u_15, hB_4, hq_5⟩ := bind_inv (forS_cons hq_5)
      unfold L_check_key_1 at hB_4
      refine tgt_name _ P.sub _ ?_
      refine st_if P (et_or0 (et_cmp (ev_lt (ev_var (τ := yInt) rfl hx_14) ev_int)) (et_cmp (ev_ge (ev_var (τ := yInt) rfl hx_14) ev_int))) (fun b_16 Z1 H1 e P1 => ?_) (fun b_16 Z1 H1 e P1 => ?_)
      · replace P := P1
        have hB := ifT b_16 hB_4
        replace hB_4 := hB
        clear hB
        replace zs_6 := zs_6.trans e.z
        replace hB_4 := Option.some.inj hB_4
        subst hB_4
        have hz := nxt_ret hq_5
        subst hz
        have hz := ret_inv hF
        replace hz := Option.some.inj hz
        subst hz
        exact qx _ rfl _ _ P.st
      · replace P := P1
        have hB := ifF b_16 hB_4
        replace hB_4 := hB
        clear hB
        refine st_next ?_
        replace zs_6 := zs_6.trans e.z
        replace hB_4 := Option.some.inj hB_4
        subst hB_4
        exact ⟨_, zs_6, P.sub, (), _, _, rfl, P, (nxt_go hq_5)⟩
    rintro σ' Z1 H1 _ _ ⟨w_10, y_8, y_9, rfl, P, hl⟩
    have hz := forS_nil hl
    subst hz
    replace hF := go_inv hF
    replace hF := Option.some.inj hF
    subst hF
    exact q _ rfl .non _ _ P.st rfl
theorem cs_check_key (T : Txt w K mg base) {μ : Type} {M : Mu μ} {s : μ} {E : XK} {x_key : (List Int)} {y : Unit} (h : F_check_key x_key = some (.ok y)) : CallS M (sp_check_key T) E (rac (ty (yTup K yInt) x_key) ra0) s (ty yNon y) s := by
  rintro Z H vs sz m ⟨v_key, _, rfl, h_key, rfl⟩ Q q
  exact ⟨Z, v_key, x_key, _, rfl, sz, h_key, h, fun a e v Z2 H2 st hv => by cases e; exact q v Z2 H2 st.pure (M.pure st m) hv, fun _ z => nomatch z⟩
theorem cx_check_key (T : Txt w K mg base) {μ : Type} {M : Mu μ} {s : μ} {E : XK} {x_key : (List Int)} {e : Exc} (h : F_check_key x_key = some (.er e)) : CallE M (sp_check_key T) E (rac (ty (yTup K yInt) x_key) ra0) s (exv T e) s := by
  rintro Z H vs sz m ⟨v_key, _, rfl, h_key, rfl⟩ Q q
  exact ⟨Z, v_key, x_key, _, rfl, sz, h_key, h, (fun _ z => nomatch z), fun c e Z2 H2 st => by cases e; exact q Z2 H2 st.pure (M.pure st m)⟩
def sp_Ledger___init__ (T : Txt w K mg base) : Sp := fun vs H Q E => ∃ (p dx : Addr) (Z0 : Hp) (v_schema : V) (v_key : V) (x_schema : Schema) (x_key : (List Int)) (y : (Res Exc Ledger)), vs = [.ref p, v_schema, v_key] ∧ (Same Z0 H) ∧ (H p = some (.ins T.c_Ledger dx [])) ∧ (Z0 p = none) ∧ (((y_Schema T)).r Z0 v_schema x_schema) ∧ (((yTup K yInt)).r Z0 v_key x_key) ∧ (F_Ledger___init__ x_schema x_key = some y) ∧ (∀ a, y = .ok a → ∀ Z' H' o, Step [p] Z0 H Z' H' → H' p = some o → (y_Ledger T).r (upd Z' p o) (.ref p) a → Q .non H') ∧ (∀ c, y = .er c → ∀ Z' H', Step [p] Z0 H Z' H' → E (exv T c) none H')
set_option maxHeartbeats 4000000 in
theorem ok_Ledger___init__ (T : Txt w K mg base) : FnOk P w K mg base (L2.CX P w) 2 T.f_Ledger___init__ T.d_Ledger___init__ ["self", "schema", "key"] (sp_Ledger___init__ T) := by
  have G_check_key : FnOk P w K mg base (L2.CX P w) 1 T.f_check_key T.d_check_key ["key"] (sp_check_key T) := ok_check_key T
  refine T.F_Ledger___init__.okX sc_Ledger___init__ (fun vs H Q E h => ?_) (fun cdv A outer s H vs Q E hr h => ?_)
  · obtain ⟨p, dx, Z0, v_schema, v_key, x_schema, x_key, y, rfl, _⟩ := h
    rfl
  · obtain ⟨p, dx, Z0, v_schema, v_key, x_schema, x_key, y, rfl, sz, hself, zself, h_schema, h_key, hF, q⟩ := h
    refine ⟨_, (pss_cons (ps_expr (pe_call G_check_key (hr.mono (by decide)) (by rfl) T.g_check_key T.F_check_key.kp T.b_check_key .nil (passes_call (takes_of rfl rfl rfl rfl) (fun _ _ _ _ h => h)) (pa_cons (pv 2) pa_nil))) 
      (pss_cons (ps_fld (pv 0) (pv 1) rfl) 
      (pss_cons (ps_fld (pv 0) (pe_callTy call_tuple_of (by rfl) T.m_tuple (by decide +kernel) (pa_cons (pv 2) pa_nil)) rfl) 
      (pss_cons (ps_fld (pv 0) pe_int rfl) 
      (pss_cons (ps_fld (pv 0) pe_int rfl) 
      (pss_cons (ps_fld (pv 0) (pe_lst pa_nil) rfl) 
      (pss_cons (ps_fld (pv 0) (pe_lst pa_nil) rfl) 
      (pss_cons (ps_fld (pv 0) (pe_lst pa_nil) rfl) 
      (pss_one (ps_fld (pv 0) pe_int rfl)))))))))), ?_⟩
    obtain ⟨q, qx⟩ := q
    have P : Pt [p] Z0 H muN Z0 H () := ⟨Step.refl sz, trivial, fun _ h => (nomatch h)⟩
    unfold F_Ledger___init__ at hF
    obtain ⟨p_21, h_20, hF⟩ := bind_inv hF
    rcases p_21 with r_19 | e
    rotate_left
    · replace hF := rer_inv hF
      replace hF := Option.some.inj hF
      subst hF
      refine st_seq (st_exprE P (eve_call (cx_check_key T h_20) (eva_cons (ev_var (τ := (yTup K yInt)) rfl h_key) eva_nil)) (fun Z1 H1 e1 P1 => ?_))
      exact qx _ rfl _ _ P1.st
    replace hF := rok_inv hF
    refine st_seq (st_expr P (ev_call (cs_check_key T h_20) (eva_cons (ev_var (τ := (yTup K yInt)) rfl h_key) eva_nil)) (fun Z1 H1 e P1 => ?_))
    refine st_nx ?_
    replace P := P1
    replace h_schema := ((y_Schema T)).mono e.z h_schema
    replace h_key := ((yTup K yInt)).mono e.z h_key
    replace zself := e.n _ (some_ne hself) zself
    replace hself := e.h _ _ List.not_mem_nil hself
    refine st_seq (st_fld (x := x_schema) (τ := (y_Schema T)) P hself zself List.not_mem_nil (.inl List.mem_cons_self) rfl (ev_var (τ := (y_Schema T)) rfl h_schema) T.cl_Ledger T.n_Ledger_schema (Nat.lt_of_le_of_lt (Nat.le_refl 0) (by decide)) (fun v_23 Z1 H1 e P1 k_24 hself1 zself1 => ?_))
    refine st_nx ?_
    replace P := P1
    replace hself := hself1
    replace zself := zself1
    replace h_key := ((yTup K yInt)).mono e.z h_key
    refine st_seq (st_fld (x := x_key) (τ := (yTup K yInt)) P hself zself List.not_mem_nil (.inl List.mem_cons_self) rfl (ev_tuple_ofT (fun _ _ _ h => h) (ev_var (τ := (yTup K yInt)) rfl h_key)) T.cl_Ledger T.n_Ledger_key (Nat.lt_of_le_of_lt (putF_le (Nat.le_refl 0)) (by decide)) (fun v_25 Z1 H1 e P1 k_26 hself1 zself1 => ?_))
    refine st_nx ?_
    replace P := P1
    replace hself := hself1
    replace zself := zself1
    replace k_24 := ((y_Schema T)).mono e.z k_24
    refine st_seq (st_fld (x := (0 : Int)) (τ := yInt) P hself zself List.not_mem_nil (.inl List.mem_cons_self) rfl ev_int T.cl_Ledger T.n_Ledger_now (Nat.lt_of_le_of_lt (putF_le (putF_le (Nat.le_refl 0))) (by decide)) (fun v_27 Z1 H1 e P1 k_28 hself1 zself1 => ?_))
    refine st_nx ?_
    replace P := P1
    replace hself := hself1
    replace zself := zself1
    replace k_24 := ((y_Schema T)).mono e.z k_24
    replace k_26 := ((yTup K yInt)).mono e.z k_26
    refine st_seq (st_fld (x := (0 : Int)) (τ := yInt) P hself zself List.not_mem_nil (.inl List.mem_cons_self) rfl ev_int T.cl_Ledger T.n_Ledger_floor (Nat.lt_of_le_of_lt (putF_le (putF_le (putF_le (Nat.le_refl 0)))) (by decide)) (fun v_29 Z1 H1 e P1 k_30 hself1 zself1 => ?_))
    refine st_nx ?_
    replace P := P1
    replace hself := hself1
    replace zself := zself1
    replace k_24 := ((y_Schema T)).mono e.z k_24
    replace k_26 := ((yTup K yInt)).mono e.z k_26
    refine st_seq (st_fld (x := ([] : List Int)) (τ := (yList yInt)) P hself zself List.not_mem_nil (.inl List.mem_cons_self) rfl (ev_fz (en_listD (eva_nils (τ := yInt)) (by show 0 ≤ sizeLine; decide))) T.cl_Ledger T.n_Ledger_pins (Nat.lt_of_le_of_lt (putF_le (putF_le (putF_le (putF_le (Nat.le_refl 0))))) (by decide)) (fun v_31 Z1 H1 e P1 k_32 hself1 zself1 => ?_))
    refine st_nx ?_
    replace P := P1
    replace hself := hself1
    replace zself := zself1
    replace k_24 := ((y_Schema T)).mono e.z k_24
    replace k_26 := ((yTup K yInt)).mono e.z k_26
    refine st_seq (st_fld (x := ([] : List Int)) (τ := (yList yInt)) P hself zself List.not_mem_nil (.inl List.mem_cons_self) rfl (ev_fz (en_listD (eva_nils (τ := yInt)) (by show 0 ≤ sizeLine; decide))) T.cl_Ledger T.n_Ledger_notes (Nat.lt_of_le_of_lt (putF_le (putF_le (putF_le (putF_le (putF_le (Nat.le_refl 0)))))) (by decide)) (fun v_33 Z1 H1 e P1 k_34 hself1 zself1 => ?_))
    refine st_nx ?_
    replace P := P1
    replace hself := hself1
    replace zself := zself1
    replace k_24 := ((y_Schema T)).mono e.z k_24
    replace k_26 := ((yTup K yInt)).mono e.z k_26
    replace k_32 := ((yList yInt)).mono e.z k_32
    refine st_seq (st_fld (x := ([] : List Int)) (τ := (yList yInt)) P hself zself List.not_mem_nil (.inl List.mem_cons_self) rfl (ev_fz (en_listD (eva_nils (τ := yInt)) (by show 0 ≤ sizeLine; decide))) T.cl_Ledger T.n_Ledger_segments (Nat.lt_of_le_of_lt (putF_le (putF_le (putF_le (putF_le (putF_le (putF_le (Nat.le_refl 0))))))) (by decide)) (fun v_35 Z1 H1 e P1 k_36 hself1 zself1 => ?_))
    refine st_nx ?_
    replace P := P1
    replace hself := hself1
    replace zself := zself1
    replace k_24 := ((y_Schema T)).mono e.z k_24
    replace k_26 := ((yTup K yInt)).mono e.z k_26
    replace k_32 := ((yList yInt)).mono e.z k_32
    replace k_34 := ((yList yInt)).mono e.z k_34
    refine st_fld (x := (1 : Int)) (τ := yInt) P hself zself List.not_mem_nil (.inl List.mem_cons_self) rfl ev_int T.cl_Ledger T.n_Ledger_upcoming (Nat.lt_of_le_of_lt (putF_le (putF_le (putF_le (putF_le (putF_le (putF_le (putF_le (Nat.le_refl 0)))))))) (by decide)) (fun v_37 Z1 H1 e P1 k_38 hself1 zself1 => ?_)
    replace P := P1
    replace hself := hself1
    replace zself := zself1
    replace k_24 := ((y_Schema T)).mono e.z k_24
    replace k_26 := ((yTup K yInt)).mono e.z k_26
    replace k_32 := ((yList yInt)).mono e.z k_32
    replace k_34 := ((yList yInt)).mono e.z k_34
    replace k_36 := ((yList yInt)).mono e.z k_36
    replace hF := Option.some.inj hF
    subst hF
    exact q _ rfl _ _ _ P.st hself ⟨p, dx, v_23, v_25, v_27, v_29, v_31, v_33, v_35, v_37, rfl, upd_same, ((y_Schema T)).mono (same_upd zself) k_24, ((yTup K yInt)).mono (same_upd zself) k_26, k_28, k_30, ((yList yInt)).mono (same_upd zself) k_32, ((yList yInt)).mono (same_upd zself) k_34, ((yList yInt)).mono (same_upd zself) k_36, k_38⟩
theorem is_Ledger___init__ (T : Txt w K mg base) {μ : Type} {M : Mu μ} {s : μ} {E : XK} {x_schema : Schema} {x_key : (List Int)} {y : Ledger} (h : F_Ledger___init__ x_schema x_key = some (.ok y)) : InitS M T.c_Ledger (sp_Ledger___init__ T) E (rac (ty (y_Schema T) x_schema) (rac (ty (yTup K yInt) x_key) ra0)) s (ty (y_Ledger T) y) s := by
  rintro Z H vs x dx sz m ⟨v_schema, _, rfl, h_schema, ⟨v_key, _, rfl, h_key, rfl⟩⟩ hx zx nx Q q
  exact ⟨x, dx, Z, v_schema, v_key, x_schema, x_key, _, rfl, sz, hx, zx, h_schema, h_key, h, fun a e Z2 H2 o st ho hr => by cases e; exact q Z2 H2 o (st.weak fun a h => by rw [List.mem_singleton] at h; rw [h]; exact .inl List.mem_cons_self) (Mu.away st nx m) ho hr, fun _ z => nomatch z⟩
theorem ix_Ledger___init__ (T : Txt w K mg base) {μ : Type} {M : Mu μ} {s : μ} {E : XK} {x_schema : Schema} {x_key : (List Int)} {e : Exc} (h : F_Ledger___init__ x_schema x_key = some (.er e)) : InitE M T.c_Ledger (sp_Ledger___init__ T) E (rac (ty (y_Schema T) x_schema) (rac (ty (yTup K yInt) x_key) ra0)) s (exv T e) s := by
  rintro Z H vs x dx sz m ⟨v_schema, _, rfl, h_schema, ⟨v_key, _, rfl, h_key, rfl⟩⟩ hx zx nx Q q
  exact ⟨x, dx, Z, v_schema, v_key, x_schema, x_key, _, rfl, sz, hx, zx, h_schema, h_key, h, (fun _ z => nomatch z), fun c e Z2 H2 st => by cases e; exact q Z2 H2 (st.weak fun a h => by rw [List.mem_singleton] at h; rw [h]; exact .inl List.mem_cons_self) (Mu.away st nx m)⟩
def sp_Catalog___init__ (T : Txt w K mg base) : Sp := fun vs H Q E => ∃ (p dx : Addr) (Z0 : Hp) (v_schema : V) (v_key : V) (v_shard : V) (x_schema : Schema) (x_key : (List Int)) (x_shard : Int) (y : (Res Exc Catalog)), vs = [.ref p, v_schema, v_key, v_shard] ∧ (Same Z0 H) ∧ (H p = some (.ins T.c_Catalog dx [])) ∧ (Z0 p = none) ∧ (((y_Schema T)).r Z0 v_schema x_schema) ∧ (((yTup K yInt)).r Z0 v_key x_key) ∧ ((yInt).r Z0 v_shard x_shard) ∧ (F_Catalog___init__ x_schema x_key x_shard = some y) ∧ (∀ a, y = .ok a → ∀ Z' H', Step [p] Z0 H Z' H' → (mu_Catalog T p).m a Z' H' → Q .non H') ∧ (∀ c, y = .er c → ∀ Z' H', Step [p] Z0 H Z' H' → E (exv T c) none H')
set_option maxHeartbeats 4000000 in
theorem ok_Catalog___init__ (T : Txt w K mg base) : FnOk P w K mg base (L2.CX P w) 4 T.f_Catalog___init__ T.d_Catalog___init__ ["self", "schema", "key", "shard"] (sp_Catalog___init__ T) := by
  have G_Ledger___init__ : FnOk P w K mg base (L2.CX P w) 2 T.f_Ledger___init__ T.d_Ledger___init__ ["self", "schema", "key"] (sp_Ledger___init__ T) := ok_Ledger___init__ T
  refine T.F_Catalog___init__.okX sc_Catalog___init__ (fun vs H Q E h => ?_) (fun cdv A outer s H vs Q E hr h => ?_)
  · obtain ⟨p, dx, Z0, v_schema, v_key, v_shard, x_schema, x_key, x_shard, y, rfl, _⟩ := h
    rfl
  · obtain ⟨p, dx, Z0, v_schema, v_key, v_shard, x_schema, x_key, x_shard, y, rfl, sz, hself, zself, h_schema, h_key, h_shard, hF, q⟩ := h
    refine ⟨_, (pss_cons (ps_fld (pv 0) (pe_make T.mk_Ledger G_Ledger___init__ (hr.mono (by decide)) (by rfl) T.mc_Ledger T.b_Ledger___init__ .nil (passes_call (takes_of rfl rfl rfl rfl) (fun _ _ _ _ h => h)) (pa_cons (pv 1) (pa_cons (pv 2) pa_nil))) rfl) 
      (pss_cons (ps_fld (pv 0) (pe_lst pa_nil) rfl) 
      (pss_cons (ps_fld (pv 0) (pe_lst pa_nil) rfl) 
      (pss_cons (ps_fld (pv 0) (pe_lst (pa_cons (pe_tup (pa_cons pe_str (pa_cons (pv 3) pa_nil))) pa_nil)) rfl) 
      (pss_one (ps_fld (pv 0) pe_int rfl)))))), ?_⟩
    obtain ⟨q, qx⟩ := q
    have P : Pt [p] Z0 H muN Z0 H () := ⟨Step.refl sz, trivial, fun _ h => (nomatch h)⟩
    unfold F_Catalog___init__ at hF
    obtain ⟨r_39, h_40, hF⟩ := bind_inv hF
    refine st_seq (st_fld (x := r_39) (τ := (y_Ledger T)) P hself zself List.not_mem_nil (.inl List.mem_cons_self) rfl (ev_make (is_Ledger___init__ T (val_inv h_40)) (eva_cons (ev_var (τ := (y_Schema T)) rfl h_schema) (eva_cons (ev_var (τ := (yTup K yInt)) rfl h_key) eva_nil))) T.cl_Catalog T.n_Catalog_ledger (Nat.lt_of_le_of_lt (Nat.le_refl 0) (by decide)) (fun v_41 Z1 H1 e P1 k_42 hself1 zself1 => ?_))
    refine st_nx ?_
    replace P := P1
    replace hself := hself1
    replace zself := zself1
    obtain ⟨x_titles_43, h_44, hF⟩ := bind_inv hF
    replace h_44 := Option.some.inj h_44
    refine st_seq (st_fld (x := x_titles_43) (τ := (yList (yP3 K yInt yInt yStr))) P hself zself List.not_mem_nil (.inl List.mem_cons_self) rfl (ev_cast (ev_fz (en_listD (eva_nils (τ := (yP3 K yInt yInt yStr))) (by show 0 ≤ sizeLine; decide))) h_44) T.cl_Catalog T.n_Catalog_titles (Nat.lt_of_le_of_lt (putF_le (Nat.le_refl 0)) (by decide)) (fun v_45 Z1 H1 e P1 k_46 hself1 zself1 => ?_))
    refine st_nx ?_
    replace P := P1
    replace hself := hself1
    replace zself := zself1
    replace k_42 := ((y_Ledger T)).mono e.z k_42
    refine st_seq (st_fld (x := ([] : List (Int × Str))) (τ := (yList (yP2 K yInt yStr))) P hself zself List.not_mem_nil (.inl List.mem_cons_self) rfl (ev_fz (en_listD (eva_nils (τ := (yP2 K yInt yStr))) (by show 0 ≤ sizeLine; decide))) T.cl_Catalog T.n_Catalog_closed (Nat.lt_of_le_of_lt (putF_le (putF_le (Nat.le_refl 0))) (by decide)) (fun v_47 Z1 H1 e P1 k_48 hself1 zself1 => ?_))
    refine st_nx ?_
    replace P := P1
    replace hself := hself1
    replace zself := zself1
    replace k_42 := ((y_Ledger T)).mono e.z k_42
    replace k_46 := ((yList (yP3 K yInt yInt yStr))).mono e.z k_46
    obtain ⟨x_routes_49, h_50, hF⟩ := bind_inv hF
    replace h_50 := Option.some.inj h_50
    refine st_seq (st_fld (x := x_routes_49) (τ := (yList (yP2 K yStr yInt))) P hself zself List.not_mem_nil (.inl List.mem_cons_self) rfl (ev_cast (ev_fz (en_listD (eva_conss (ev_p2 (K := K) (eva_cons ev_str (eva_cons (ev_var (τ := yInt) rfl h_shard) eva_nil))) (eva_nils (τ := (yP2 K yStr yInt)))) (by show 1 ≤ sizeLine; decide))) h_50) T.cl_Catalog T.n_Catalog_routes (Nat.lt_of_le_of_lt (putF_le (putF_le (putF_le (Nat.le_refl 0)))) (by decide)) (fun v_51 Z1 H1 e P1 k_52 hself1 zself1 => ?_))
    refine st_nx ?_
    replace P := P1
    replace hself := hself1
    replace zself := zself1
    replace k_42 := ((y_Ledger T)).mono e.z k_42
    replace k_46 := ((yList (yP3 K yInt yInt yStr))).mono e.z k_46
    replace k_48 := ((yList (yP2 K yInt yStr))).mono e.z k_48
    refine st_fld (x := (0 : Int)) (τ := yInt) P hself zself List.not_mem_nil (.inl List.mem_cons_self) rfl ev_int T.cl_Catalog T.n_Catalog_begins (Nat.lt_of_le_of_lt (putF_le (putF_le (putF_le (putF_le (Nat.le_refl 0))))) (by decide)) (fun v_53 Z1 H1 e P1 k_54 hself1 zself1 => ?_)
    replace P := P1
    replace hself := hself1
    replace zself := zself1
    replace k_42 := ((y_Ledger T)).mono e.z k_42
    replace k_46 := ((yList (yP3 K yInt yInt yStr))).mono e.z k_46
    replace k_48 := ((yList (yP2 K yInt yStr))).mono e.z k_48
    replace k_52 := ((yList (yP2 K yStr yInt))).mono e.z k_52
    replace hF := Option.some.inj hF
    subst hF
    exact q _ rfl _ _ P.st ⟨zself, ⟨dx, v_41, v_45, v_47, v_51, v_53, hself, k_42, k_46, k_48, k_52, k_54⟩⟩
theorem im_Catalog___init__ (T : Txt w K mg base) {μ : Type} {M : Mu μ} {s : μ} {E : XK} {x_schema : Schema} {x_key : (List Int)} {x_shard : Int} {y : Catalog} (h : F_Catalog___init__ x_schema x_key x_shard = some (.ok y)) : InitM (ι := Addr) M T.c_Catalog (sp_Catalog___init__ T) E (rac (ty (y_Schema T) x_schema) (rac (ty (yTup K yInt) x_key) (rac (ty yInt x_shard) ra0))) s (fun p => mu_Catalog T p) (fun p => p) y s := by
  rintro Z H vs x dx sz m ⟨v_schema, _, rfl, h_schema, ⟨v_key, _, rfl, h_key, ⟨v_shard, _, rfl, h_shard, rfl⟩⟩⟩ hx zx nx Q q
  exact ⟨x, dx, Z, v_schema, v_key, v_shard, x_schema, x_key, x_shard, _, rfl, sz, hx, zx, h_schema, h_key, h_shard, h, fun a e Z2 H2 st mi => by cases e; exact q x Z2 H2 rfl (st.weak fun a h => by rw [List.mem_singleton] at h; rw [h]; exact .inl List.mem_cons_self) (Mu.away st nx m) (fun a ha => .inl (List.mem_singleton.mp ha)) mi, fun _ z => nomatch z⟩
theorem ix_Catalog___init__ (T : Txt w K mg base) {μ : Type} {M : Mu μ} {s : μ} {E : XK} {x_schema : Schema} {x_key : (List Int)} {x_shard : Int} {e : Exc} (h : F_Catalog___init__ x_schema x_key x_shard = some (.er e)) : InitE M T.c_Catalog (sp_Catalog___init__ T) E (rac (ty (y_Schema T) x_schema) (rac (ty (yTup K yInt) x_key) (rac (ty yInt x_shard) ra0))) s (exv T e) s := by
  rintro Z H vs x dx sz m ⟨v_schema, _, rfl, h_schema, ⟨v_key, _, rfl, h_key, ⟨v_shard, _, rfl, h_shard, rfl⟩⟩⟩ hx zx nx Q q
  exact ⟨x, dx, Z, v_schema, v_key, v_shard, x_schema, x_key, x_shard, _, rfl, sz, hx, zx, h_schema, h_key, h_shard, h, (fun _ z => nomatch z), fun c e Z2 H2 st => by cases e; exact q Z2 H2 (st.weak fun a h => by rw [List.mem_singleton] at h; rw [h]; exact .inl List.mem_cons_self) (Mu.away st nx m)⟩
def sp_is_letter (T : Txt w K mg base) : Sp := fun vs H Q _ => ∃ (Z0 : Hp) (v_char : V) (x_char : Str), vs = [v_char] ∧ (Same Z0 H) ∧ ((yStr).r Z0 v_char x_char) ∧ ∀ v Z' H', Step [] Z0 H Z' H' → (yBool).r Z' v (F_is_letter x_char) → Q v H'
set_option maxHeartbeats 4000000 in
theorem ok_is_letter (T : Txt w K mg base) : FnOk P w K mg base CX0 1 T.f_is_letter T.d_is_letter ["char"] (sp_is_letter T) := by
  refine T.F_is_letter.ok sc_is_letter (fun vs H Q E h => ?_) (fun cdv A outer s H vs Q E hr h => ?_)
  · obtain ⟨Z0, v_char, x_char, rfl, _⟩ := h
    rfl
  · obtain ⟨Z0, v_char, x_char, rfl, sz, h_char, q⟩ := h
    refine ⟨_, (pss_one (ps_ret (pe_or (pe_chain op_le_str op_le_str pe_str (pv 0) pe_str) (pe_or (pe_chain op_le_str op_le_str pe_str (pv 0) pe_str) (pe_one (pe_cmpR op_eq (pv 0) pe_str (nomark _))))))), ?_⟩
    have P := Pt.start0 sz
    generalize hF : F_is_letter x_char = y at q
    unfold F_is_letter at hF
    subst hF
    refine st_ret P (ev_or0 (ev_chainS ev_str (ev_var (τ := yStr) rfl h_char) ev_str) (ev_or0 (ev_chainS ev_str (ev_var (τ := yStr) rfl h_char) ev_str) (ev_eq flat_str (ev_var (τ := yStr) rfl h_char) ev_str))) (fun v Z1 H1 P1 hv => ?_)
    exact q v _ _ P1.st hv
theorem cs_is_letter (T : Txt w K mg base) {μ : Type} {M : Mu μ} {s : μ} {E : XK} {x_char : Str} : CallS M (sp_is_letter T) E (rac (ty yStr x_char) ra0) s (ty yBool (F_is_letter x_char)) s := by
  rintro Z H vs sz m ⟨v_char, _, rfl, h_char, rfl⟩ Q q
  exact ⟨Z, v_char, x_char, rfl, sz, h_char, fun v Z2 H2 st hv => q v Z2 H2 st.pure (M.pure st m) hv⟩
def sp_is_digit (T : Txt w K mg base) : Sp := fun vs H Q _ => ∃ (Z0 : Hp) (v_char : V) (x_char : Str), vs = [v_char] ∧ (Same Z0 H) ∧ ((yStr).r Z0 v_char x_char) ∧ ∀ v Z' H', Step [] Z0 H Z' H' → (yBool).r Z' v (F_is_digit x_char) → Q v H'
set_option maxHeartbeats 4000000 in
theorem ok_is_digit (T : Txt w K mg base) : FnOk P w K mg base CX0 1 T.f_is_digit T.d_is_digit ["char"] (sp_is_digit T) := by
  refine T.F_is_digit.ok sc_is_digit (fun vs H Q E h => ?_) (fun cdv A outer s H vs Q E hr h => ?_)
  · obtain ⟨Z0, v_char, x_char, rfl, _⟩ := h
    rfl
  · obtain ⟨Z0, v_char, x_char, rfl, sz, h_char, q⟩ := h
    refine ⟨_, (pss_one (ps_ret (pe_chain op_le_str op_le_str pe_str (pv 0) pe_str))), ?_⟩
    have P := Pt.start0 sz
    generalize hF : F_is_digit x_char = y at q
    unfold F_is_digit at hF
    subst hF
    refine st_ret P (ev_chainS ev_str (ev_var (τ := yStr) rfl h_char) ev_str) (fun v Z1 H1 P1 hv => ?_)
    exact q v _ _ P1.st hv
theorem cs_is_digit (T : Txt w K mg base) {μ : Type} {M : Mu μ} {s : μ} {E : XK} {x_char : Str} : CallS M (sp_is_digit T) E (rac (ty yStr x_char) ra0) s (ty yBool (F_is_digit x_char)) s := by
  rintro Z H vs sz m ⟨v_char, _, rfl, h_char, rfl⟩ Q q
  exact ⟨Z, v_char, x_char, rfl, sz, h_char, fun v Z2 H2 st hv => q v Z2 H2 st.pure (M.pure st m) hv⟩
def sp_is_word (T : Txt w K mg base) : Sp := fun vs H Q _ => ∃ (Z0 : Hp) (v_text : V) (x_text : Str) (y : Bool), vs = [v_text] ∧ (Same Z0 H) ∧ ((yStr).r Z0 v_text x_text) ∧ (F_is_word x_text = some y) ∧ ∀ v Z' H', Step [] Z0 H Z' H' → (yBool).r Z' v y → Q v H'
set_option maxHeartbeats 4000000 in
theorem ok_is_word (T : Txt w K mg base) : FnOk P w K mg base CX0 2 T.f_is_word T.d_is_word ["text"] (sp_is_word T) := by
  have G_is_digit : FnOk P w K mg base CX0 1 T.f_is_digit T.d_is_digit ["char"] (sp_is_digit T) := ok_is_digit T
  have G_is_letter : FnOk P w K mg base CX0 1 T.f_is_letter T.d_is_letter ["char"] (sp_is_letter T) := ok_is_letter T
  refine T.F_is_word.ok sc_is_word (fun vs H Q E h => ?_) (fun cdv A outer s H vs Q E hr h => ?_)
  · obtain ⟨Z0, v_text, x_text, y, rfl, _⟩ := h
    rfl
  · obtain ⟨Z0, v_text, x_text, y, rfl, sz, h_text, hF, q⟩ := h
    refine ⟨_, (pss_cons (ps_if (PW.pt (pw_or (pt_cmpR op_eq (pv 0) pe_str (nomark _)) (pw_or1 (pt_not (pt_val (pe_call G_is_letter (hr.mono (by decide)) (by rfl) T.g_is_letter T.F_is_letter.kp T.b_is_letter .nil pass0 (pa_cons (pe_ix ix_str (pv 0) pe_int (fun _ _ => rfl)) pa_nil))))))) (pss_one (ps_ret pe_bl)) pss_nil) 
      (pss_one (ps_ret (pe_callB (cr_all rfl) (by rfl) T.m_all (by decide +kernel) (pa_cons (pe_lc (own := [("char", 1)]) (g := gName 1) rfl sc_is_word.nd (pi_str (pv 0)) (blkOk_by (own := [("char", 1)]) (N := ["text", "char"]) (sc := defScope s_is_word) (by decide +kernel)) (fun _ _ _ _ _ => (pg_name (i := 1) sc_is_word.nd rfl (Or.inl rfl))) (fun _ _ _ _ _ => pts_nil) (fun _ _ _ _ _ => (pe_or (pe_call G_is_letter (hr.mono (by decide)) (by rfl) T.g_is_letter T.F_is_letter.kp T.b_is_letter .nil pass0 (pa_cons (pv 1) pa_nil)) (pe_one (pe_call G_is_digit (hr.mono (by decide)) (by rfl) T.g_is_digit T.F_is_digit.kp T.b_is_digit .nil pass0 (pa_cons (pv 1) pa_nil)))))) pa_nil))))), ?_⟩
    have P := Pt.start0 sz
    unfold F_is_word at hF
    obtain ⟨b_62, h_61, hF⟩ := bind_inv hF
    refine st_seq (st_if P (et_orO (et_cmp (ev_eq flat_str (ev_var (τ := yStr) rfl h_text) ev_str)) (fun _ y hy => by
          obtain ⟨i_59, h_60, hy⟩ := bind_inv hy
          have hy := Option.some.inj hy
          subst hy
          exact (et_not (et_val (ev_call (cs_is_letter T) (eva_cons (ev_ixS (ev_var (τ := yStr) rfl h_text) ev_int h_60) eva_nil))))) h_61) (fun b_63 Z1 H1 e P1 => ?_) (fun b_63 Z1 H1 e P1 => ?_))
    · replace P := P1
      have hB := ifT b_63 hF
      replace hF := hB
      clear hB
      replace hF := Option.some.inj hF
      subst hF
      refine st_ret P ev_bl (fun v Z1 H1 P1 hv => ?_)
      exact q v _ _ P1.st hv
    · replace P := P1
      have hB := ifF b_63 hF
      replace hF := hB
      clear hB
      refine st_next0 ?_
      replace hF := Option.some.inj hF
      subst hF
      refine st_ret P (ev_allL (ev_li (ev_fz (en_map (υ := yBool) (fun (x_64 : Str) => ((F_is_letter x_64) || (F_is_digit x_64))) (ei_str (ev_var (τ := yStr) rfl h_text)) (fun x_64 v_65 Z' H' zz hh rx_66 => by
            exact ⟨_, tgt_name, (wpe_s wpe_z (by decide)), (ev_or0 (ev_call (cs_is_letter T) (eva_cons (ev_var (τ := yStr) rfl rx_66) eva_nil)) (ev_call (cs_is_digit T) (eva_cons (ev_var (τ := yStr) rfl rx_66) eva_nil)))⟩))))) (fun v Z1 H1 P1 hv => ?_)
      exact q v _ _ P1.st hv
theorem cs_is_word (T : Txt w K mg base) {μ : Type} {M : Mu μ} {s : μ} {E : XK} {x_text : Str} {y : Bool} (h : F_is_word x_text = some y) : CallS M (sp_is_word T) E (rac (ty yStr x_text) ra0) s (ty yBool y) s := by
  rintro Z H vs sz m ⟨v_text, _, rfl, h_text, rfl⟩ Q q
  exact ⟨Z, v_text, x_text, y, rfl, sz, h_text, h, fun v Z2 H2 st hv => q v Z2 H2 st.pure (M.pure st m) hv⟩
def sp_check_vectors (T : Txt w K mg base) : Sp := fun vs H Q E => ∃ (Z0 : Hp) (v_size : V) (v_width : V) (v_measure : V) (x_size : Int) (x_width : Str) (x_measure : Str) (y : (Res Exc Unit)), vs = [v_size, v_width, v_measure] ∧ (Same Z0 H) ∧ ((yInt).r Z0 v_size x_size) ∧ ((yStr).r Z0 v_width x_width) ∧ ((yStr).r Z0 v_measure x_measure) ∧ (F_check_vectors x_size x_width x_measure = some y) ∧ (∀ a, y = .ok a → ∀ v Z' H', Step [] Z0 H Z' H' → (yNon).r Z' v a → Q v H') ∧ (∀ c, y = .er c → ∀ Z' H', Step [] Z0 H Z' H' → E (exv T c) none H')
set_option maxHeartbeats 4000000 in
theorem ok_check_vectors (T : Txt w K mg base) : FnOk P w K mg base (L2.CX P w) 1 T.f_check_vectors T.d_check_vectors ["size", "width", "measure"] (sp_check_vectors T) := by
  refine T.F_check_vectors.okX sc_check_vectors (fun vs H Q E h => ?_) (fun cdv A outer s H vs Q E hr h => ?_)
  · obtain ⟨Z0, v_size, v_width, v_measure, x_size, x_width, x_measure, y, rfl, _⟩ := h
    rfl
  · obtain ⟨Z0, v_size, v_width, v_measure, x_size, x_width, x_measure, y, rfl, sz, h_size, h_width, h_measure, hF, q⟩ := h
    refine ⟨_, (pss_cons (ps_if (pt_cmpR op_lt (pv 0) pe_int (nomark _)) (pss_one (ps_raise rfl (takes_of rfl rfl rfl rfl) (pmk_own PySem.F.excBase_ValueError T.x_InvalidSchema T.mc_InvalidSchema T.kp_InvalidSchema (raises_own T.xb_InvalidSchema T.xt_InvalidSchema) rfl))) pss_nil) 
      (pss_cons (ps_if (pt_cmpR (op_notIn_kd T.kd_WIDTHS) (pv 1) (pe_glob (v := .ref T.a_WIDTHS) rfl T.m_WIDTHS rfl) rfl) (pss_one (ps_raise rfl (takes_of rfl rfl rfl rfl) (pmk_own PySem.F.excBase_ValueError T.x_InvalidSchema T.mc_InvalidSchema T.kp_InvalidSchema (raises_own T.xb_InvalidSchema T.xt_InvalidSchema) rfl))) pss_nil) 
      (pss_cons (ps_if (pt_cmpR op_notIn_seq (pv 2) (pe_glob (v := .ref T.a_MEASURES) rfl T.m_MEASURES rfl) rfl) (pss_one (ps_raise rfl (takes_of rfl rfl rfl rfl) (pmk_own PySem.F.excBase_ValueError T.x_InvalidSchema T.mc_InvalidSchema T.kp_InvalidSchema (raises_own T.xb_InvalidSchema T.xt_InvalidSchema) rfl))) pss_nil) 
      (pss_one (ps_if (PW.pt (pw_and (pt_cmpR op_eq (pv 2) pe_str (nomark _)) (pw_and1 (pt_cmpR op_ne (pv 1) pe_str (nomark _))))) (pss_one (ps_raise rfl (takes_of rfl rfl rfl rfl) (pmk_own PySem.F.excBase_ValueError T.x_InvalidSchema T.mc_InvalidSchema T.kp_InvalidSchema (raises_own T.xb_InvalidSchema T.xt_InvalidSchema) rfl))) pss_nil))))), ?_⟩
    obtain ⟨q, qx⟩ := q
    have P := Pt.start0 sz
    unfold F_check_vectors at hF
    refine st_seq (st_if P (et_cmp (ev_lt (ev_var (τ := yInt) rfl h_size) ev_int)) (fun b_67 Z1 H1 e P1 => ?_) (fun b_67 Z1 H1 e P1 => ?_))
    · replace P := P1
      have hB := ifT b_67 hF
      replace hF := hB
      clear hB
      replace hF := Option.some.inj hF
      subst hF
      exact qx _ rfl _ _ P.st
    · replace P := P1
      have hB := ifF b_67 hF
      replace hF := hB
      clear hB
      refine st_next0 ?_
      obtain ⟨b_68, h_69, hF⟩ := bind_inv hF
      refine st_seq (st_if P (et_cmp (ev_notin_WIDTHS T (ev_var (τ := yStr) rfl h_width) h_69)) (fun b_70 Z1 H1 e P1 => ?_) (fun b_70 Z1 H1 e P1 => ?_))
      · replace P := P1
        have hB := ifT b_70 hF
        replace hF := hB
        clear hB
        replace hF := Option.some.inj hF
        subst hF
        exact qx _ rfl _ _ P.st
      · replace P := P1
        have hB := ifF b_70 hF
        replace hF := hB
        clear hB
        refine st_next0 ?_
        refine st_seq (st_if P (et_cmp (ev_notinT fi_str (ev_var (τ := yStr) rfl h_measure) (ev_const (τ := yTup K yStr) fun Z => ⟨_, _, rfl, T.sq_MEASURES Z, (.cons ⟨rfl, by decide +kernel⟩ (.cons ⟨rfl, by decide +kernel⟩ (.cons ⟨rfl, by decide +kernel⟩ .nil))), by decide⟩))) (fun b_71 Z1 H1 e P1 => ?_) (fun b_71 Z1 H1 e P1 => ?_))
        · replace P := P1
          have hB := ifT b_71 hF
          replace hF := hB
          clear hB
          replace hF := Option.some.inj hF
          subst hF
          exact qx _ rfl _ _ P.st
        · replace P := P1
          have hB := ifF b_71 hF
          replace hF := hB
          clear hB
          refine st_next0 ?_
          refine st_if P (et_and0 (et_cmp (ev_eq flat_str (ev_var (τ := yStr) rfl h_measure) ev_str)) (et_cmp (ev_ne flat_str (ev_var (τ := yStr) rfl h_width) ev_str))) (fun b_72 Z1 H1 e P1 => ?_) (fun b_72 Z1 H1 e P1 => ?_)
          · replace P := P1
            have hB := ifT b_72 hF
            replace hF := hB
            clear hB
            replace hF := Option.some.inj hF
            subst hF
            exact qx _ rfl _ _ P.st
          · replace P := P1
            have hB := ifF b_72 hF
            replace hF := hB
            clear hB
            refine st_next ?_
            replace hF := Option.some.inj hF
            subst hF
            exact q _ rfl .non _ _ P.st rfl
theorem cs_check_vectors (T : Txt w K mg base) {μ : Type} {M : Mu μ} {s : μ} {E : XK} {x_size : Int} {x_width : Str} {x_measure : Str} {y : Unit} (h : F_check_vectors x_size x_width x_measure = some (.ok y)) : CallS M (sp_check_vectors T) E (rac (ty yInt x_size) (rac (ty yStr x_width) (rac (ty yStr x_measure) ra0))) s (ty yNon y) s := by
  rintro Z H vs sz m ⟨v_size, _, rfl, h_size, ⟨v_width, _, rfl, h_width, ⟨v_measure, _, rfl, h_measure, rfl⟩⟩⟩ Q q
  exact ⟨Z, v_size, v_width, v_measure, x_size, x_width, x_measure, _, rfl, sz, h_size, h_width, h_measure, h, fun a e v Z2 H2 st hv => by cases e; exact q v Z2 H2 st.pure (M.pure st m) hv, fun _ z => nomatch z⟩
theorem cx_check_vectors (T : Txt w K mg base) {μ : Type} {M : Mu μ} {s : μ} {E : XK} {x_size : Int} {x_width : Str} {x_measure : Str} {e : Exc} (h : F_check_vectors x_size x_width x_measure = some (.er e)) : CallE M (sp_check_vectors T) E (rac (ty yInt x_size) (rac (ty yStr x_width) (rac (ty yStr x_measure) ra0))) s (exv T e) s := by
  rintro Z H vs sz m ⟨v_size, _, rfl, h_size, ⟨v_width, _, rfl, h_width, ⟨v_measure, _, rfl, h_measure, rfl⟩⟩⟩ Q q
  exact ⟨Z, v_size, v_width, v_measure, x_size, x_width, x_measure, _, rfl, sz, h_size, h_width, h_measure, h, (fun _ z => nomatch z), fun c e Z2 H2 st => by cases e; exact q Z2 H2 st.pure (M.pure st m)⟩
def sp_check_fields (T : Txt w K mg base) : Sp := fun vs H Q E => ∃ (Z0 : Hp) (v_fields : V) (x_fields : (List (Str × Str))) (y : (Res Exc Unit)), vs = [v_fields] ∧ (Same Z0 H) ∧ (((yTup K (yP2 K yStr yStr))).r Z0 v_fields x_fields) ∧ (F_check_fields x_fields = some y) ∧ (∀ a, y = .ok a → ∀ v Z' H', Step [] Z0 H Z' H' → (yNon).r Z' v a → Q v H') ∧ (∀ c, y = .er c → ∀ Z' H', Step [] Z0 H Z' H' → E (exv T c) none H')
set_option maxHeartbeats 4000000 in
theorem ok_check_fields (T : Txt w K mg base) : FnOk P w K mg base (L2.CX P w) 3 T.f_check_fields T.d_check_fields ["fields"] (sp_check_fields T) := by
  have G_is_word : FnOk P w K mg base CX0 2 T.f_is_word T.d_is_word ["text"] (sp_is_word T) := ok_is_word T
  refine T.F_check_fields.okX sc_check_fields (fun vs H Q E h => ?_) (fun cdv A outer s H vs Q E hr h => ?_)
  · obtain ⟨Z0, v_fields, x_fields, y, rfl, _⟩ := h
    rfl
  · obtain ⟨Z0, v_fields, x_fields, y, rfl, sz, h_fields, hF, q⟩ := h
    refine ⟨_, (pss_cons (ps_for (passes_of rfl) rfl (pi_tup (pv 0)) (pg_tup rfl (pgs_cons (pg_name (i := 1) sc_check_fields.nd rfl (.inl rfl)) (pgs_cons (pg_name (i := 2) sc_check_fields.nd rfl (.inl rfl)) pgs_nil))) (pss_cons (ps_if (PW.pt (pw_or (pt_not (pt_val (pe_call G_is_word (hr.mono (by decide)) (by rfl) T.g_is_word T.F_is_word.kp T.b_is_word .nil pass0 (pa_cons (pv 1) pa_nil)))) (pw_or1 (pt_cmpR op_in_seq (pv 1) (pe_glob (v := .ref T.a_RESERVED) rfl T.m_RESERVED rfl) rfl)))) (pss_one (ps_raise rfl (takes_of rfl rfl rfl rfl) (pmk_own PySem.F.excBase_ValueError T.x_InvalidSchema T.mc_InvalidSchema T.kp_InvalidSchema (raises_own T.xb_InvalidSchema T.xt_InvalidSchema) rfl))) pss_nil) 
      (pss_one (ps_if (pt_cmpR op_notIn_seq (pv 2) (pe_glob (v := .ref T.a_KINDS) rfl T.m_KINDS rfl) rfl) (pss_one (ps_raise rfl (takes_of rfl rfl rfl rfl) (pmk_own PySem.F.excBase_ValueError T.x_InvalidSchema T.mc_InvalidSchema T.kp_InvalidSchema (raises_own T.xb_InvalidSchema T.xt_InvalidSchema) rfl))) pss_nil)))) 
      (pss_one (ps_if (pt_cmpR op_lt (TSN.pe_lenSetT rfl (by rfl) T.m_len (by rfl) T.m_set (pe_lc (own := [("name", 1), ("_", 3)]) (g := gTup K 2 (gCons (gName 1) (gCons (gName 3) gNil))) rfl sc_check_fields.nd (pi_tup (pv 0)) (blkOk_by (own := [("name", 1), ("_", 3)]) (N := ["fields", "name", "kind", "_"]) (sc := defScope s_check_fields) (by decide +kernel)) (fun _ _ _ _ _ => (by exact (pg_tup rfl (pgs_cons (pg_name (i := 1) sc_check_fields.nd rfl (Or.inl rfl)) (pgs_cons (pg_name (i := 3) sc_check_fields.nd rfl (Or.inl rfl)) pgs_nil))))) (fun _ _ _ _ _ => pts_nil) (fun _ _ _ _ _ => (pv 1)))) (pe_callB call_len_seq (by rfl) T.m_len PySem.boot_len (pa_cons (pv 0) pa_nil)) (nomark _)) (pss_one (ps_raise rfl (takes_of rfl rfl rfl rfl) (pmk_own PySem.F.excBase_ValueError T.x_InvalidSchema T.mc_InvalidSchema T.kp_InvalidSchema (raises_own T.xb_InvalidSchema T.xt_InvalidSchema) rfl))) pss_nil))), ?_⟩
    obtain ⟨q, qx⟩ := q
    have P := Pt.start0 sz
    unfold F_check_fields at hF
    obtain ⟨f_101, hL_102, hF⟩ := bind_inv hF
    refine st_seq (st_for (τ := (yP2 K yStr yStr)) (fun (r_75 : List (Str × Str)) σ' Z' H' => ∃ w_73, ∃ (y_81 : Option V) (y_82 : Option V) (y_83 : Option V), σ' = [some v_fields, y_81, y_82, y_83] ∧ Pt [] Z0 H muN Z' H' () ∧ ((yTup K (yP2 K yStr yStr))).r Z' v_fields x_fields ∧ forS L_check_fields_1 r_75 w_73 = some f_101) P (ei_tup (ev_var (τ := (yTup K (yP2 K yStr yStr))) rfl h_fields)) ?_ ?_ ?_)
    · rintro Z1 H1 e P1
      replace P := P1
      replace h_fields := ((yTup K (yP2 K yStr yStr))).mono e.z h_fields
      exact ⟨(), _, _, _, rfl, P, h_fields, hL_102⟩
    · rintro Zb_79 Hb eb x_74 r_75 σ' v_89 Z1 H1 Z2 H2 zs_78 ⟨w_73, y_81, y_82, y_83, rfl, P, k_80, hq_77⟩ e hx_90
      replace P := P.item e
      replace k_80 := ((yTup K (yP2 K yStr yStr))).mono e.z k_80
      replace zs_78 := zs_78.trans e.z
      obtain ⟨u_91, hB_76, hq_77⟩ := bind_inv (forS_cons hq_77)
      unfold L_check_fields_1 at hB_76
      obtain ⟨v_92, v_93, k_94, k_95, tg_96⟩ := tgt_p2 hx_90
      refine (tg_96 tgt_name tgt_name) _ P.sub _ ?_
      obtain ⟨r_97, h_98, hB_76⟩ := bind_inv hB_76
      refine st_seq (st_if P (et_or0 (et_not (et_val (ev_call (cs_is_word T h_98) (eva_cons (ev_var (τ := yStr) rfl k_94) eva_nil)))) (et_cmp (ev_inT fi_str (ev_var (τ := yStr) rfl k_94) (ev_const (τ := yTup K yStr) fun Z => ⟨_, _, rfl, T.sq_RESERVED Z, (.cons ⟨rfl, by decide +kernel⟩ (.cons ⟨rfl, by decide +kernel⟩ (.cons ⟨rfl, by decide +kernel⟩ (.cons ⟨rfl, by decide +kernel⟩ (.cons ⟨rfl, by decide +kernel⟩ (.cons ⟨rfl, by decide +kernel⟩ (.cons ⟨rfl, by decide +kernel⟩ (.cons ⟨rfl, by decide +kernel⟩ .nil)))))))), by decide⟩)))) (fun b_99 Z1 H1 e P1 => ?_) (fun b_99 Z1 H1 e P1 => ?_))
      · replace P := P1
        have hB := ifT b_99 hB_76
        replace hB_76 := hB
        clear hB
        replace zs_78 := zs_78.trans e.z
        replace hB_76 := Option.some.inj hB_76
        subst hB_76
        have hz := nxt_ret hq_77
        subst hz
        have hz := ret_inv hF
        replace hz := Option.some.inj hz
        subst hz
        exact qx _ rfl _ _ P.st
      · replace P := P1
        have hB := ifF b_99 hB_76
        replace hB_76 := hB
        clear hB
        refine st_next0 ?_
        replace k_80 := ((yTup K (yP2 K yStr yStr))).mono e.z k_80
        replace zs_78 := zs_78.trans e.z
        refine st_if P (et_cmp (ev_notinT fi_str (ev_var (τ := yStr) rfl k_95) (ev_const (τ := yTup K yStr) fun Z => ⟨_, _, rfl, T.sq_KINDS Z, (.cons ⟨rfl, by decide +kernel⟩ (.cons ⟨rfl, by decide +kernel⟩ (.cons ⟨rfl, by decide +kernel⟩ .nil))), by decide⟩))) (fun b_100 Z1 H1 e P1 => ?_) (fun b_100 Z1 H1 e P1 => ?_)
        · replace P := P1
          have hB := ifT b_100 hB_76
          replace hB_76 := hB
          clear hB
          replace zs_78 := zs_78.trans e.z
          replace hB_76 := Option.some.inj hB_76
          subst hB_76
          have hz := nxt_ret hq_77
          subst hz
          have hz := ret_inv hF
          replace hz := Option.some.inj hz
          subst hz
          exact qx _ rfl _ _ P.st
        · replace P := P1
          have hB := ifF b_100 hB_76
          replace hB_76 := hB
          clear hB
          refine st_next ?_
          replace k_80 := ((yTup K (yP2 K yStr yStr))).mono e.z k_80
          replace zs_78 := zs_78.trans e.z
          replace hB_76 := Option.some.inj hB_76
          subst hB_76
          exact ⟨_, zs_78, P.sub, (), _, _, _, rfl, P, k_80, (nxt_go hq_77)⟩
    rintro σ' Z1 H1 _ _ ⟨w_84, y_81, y_82, y_83, rfl, P, k_85, hl⟩
    have hz := forS_nil hl
    subst hz
    replace hF := go_inv hF
    refine st_nx ?_
    obtain ⟨g_111, hF⟩ := guard_inv hF
    refine st_if P (et_cmp (ev_lt (ev_lenSetT (ev_li (ev_fz (en_map (υ := yStr) (fun (x_103 : (Str × Str)) => x_103.1) (ei_tup (ev_var (τ := (yTup K (yP2 K yStr yStr))) rfl k_85)) (fun x_103 v_104 Z' H' zz hh rx_105 => by
          obtain ⟨v_106, v_107, k_108, k_109, tg_110⟩ := tgt_p2 rx_105
          exact ⟨_, (tg_110 tgt_name tgt_name), (wpe_s (wpe_s wpe_z (by decide)) (by decide)), (ev_var (τ := yStr) rfl k_108)⟩)))) g_111) (ev_lenT (fun _ _ _ h => h) (ev_var (τ := (yTup K (yP2 K yStr yStr))) rfl k_85)))) (fun b_112 Z1 H1 e P1 => ?_) (fun b_112 Z1 H1 e P1 => ?_)
    · replace P := P1
      have hB := ifT b_112 hF
      replace hF := hB
      clear hB
      replace hF := Option.some.inj hF
      subst hF
      exact qx _ rfl _ _ P.st
    · replace P := P1
      have hB := ifF b_112 hF
      replace hF := hB
      clear hB
      refine st_next ?_
      replace hF := Option.some.inj hF
      subst hF
      exact q _ rfl .non _ _ P.st rfl
theorem cs_check_fields (T : Txt w K mg base) {μ : Type} {M : Mu μ} {s : μ} {E : XK} {x_fields : (List (Str × Str))} {y : Unit} (h : F_check_fields x_fields = some (.ok y)) : CallS M (sp_check_fields T) E (rac (ty (yTup K (yP2 K yStr yStr)) x_fields) ra0) s (ty yNon y) s := by
  rintro Z H vs sz m ⟨v_fields, _, rfl, h_fields, rfl⟩ Q q
  exact ⟨Z, v_fields, x_fields, _, rfl, sz, h_fields, h, fun a e v Z2 H2 st hv => by cases e; exact q v Z2 H2 st.pure (M.pure st m) hv, fun _ z => nomatch z⟩
theorem cx_check_fields (T : Txt w K mg base) {μ : Type} {M : Mu μ} {s : μ} {E : XK} {x_fields : (List (Str × Str))} {e : Exc} (h : F_check_fields x_fields = some (.er e)) : CallE M (sp_check_fields T) E (rac (ty (yTup K (yP2 K yStr yStr)) x_fields) ra0) s (exv T e) s := by
  rintro Z H vs sz m ⟨v_fields, _, rfl, h_fields, rfl⟩ Q q
  exact ⟨Z, v_fields, x_fields, _, rfl, sz, h_fields, h, (fun _ z => nomatch z), fun c e Z2 H2 st => by cases e; exact q Z2 H2 st.pure (M.pure st m)⟩
def sp_Schema___init__ (T : Txt w K mg base) : Sp := fun vs H Q E => ∃ (p dx : Addr) (Z0 : Hp) (v_size : V) (v_width : V) (v_measure : V) (v_fields : V) (x_size : Int) (x_width : Str) (x_measure : Str) (x_fields : (List (Str × Str))) (y : (Res Exc Schema)), vs = [.ref p, v_size, v_width, v_measure, v_fields] ∧ (Same Z0 H) ∧ (H p = some (.ins T.c_Schema dx [])) ∧ (Z0 p = none) ∧ ((yInt).r Z0 v_size x_size) ∧ ((yStr).r Z0 v_width x_width) ∧ ((yStr).r Z0 v_measure x_measure) ∧ (((yTup K (yP2 K yStr yStr))).r Z0 v_fields x_fields) ∧ (F_Schema___init__ x_size x_width x_measure x_fields = some y) ∧ (∀ a, y = .ok a → ∀ Z' H' o, Step [p] Z0 H Z' H' → H' p = some o → (y_Schema T).r (upd Z' p o) (.ref p) a → Q .non H') ∧ (∀ c, y = .er c → ∀ Z' H', Step [p] Z0 H Z' H' → E (exv T c) none H')
set_option maxHeartbeats 4000000 in
theorem ok_Schema___init__ (T : Txt w K mg base) : FnOk P w K mg base (L2.CX P w) 4 T.f_Schema___init__ T.d_Schema___init__ ["self", "size", "width", "measure", "fields"] (sp_Schema___init__ T) := by
  have G_check_fields : FnOk P w K mg base (L2.CX P w) 3 T.f_check_fields T.d_check_fields ["fields"] (sp_check_fields T) := ok_check_fields T
  have G_check_vectors : FnOk P w K mg base (L2.CX P w) 1 T.f_check_vectors T.d_check_vectors ["size", "width", "measure"] (sp_check_vectors T) := ok_check_vectors T
  refine T.F_Schema___init__.ok sc_Schema___init__ (fun vs H Q E h => ?_) (fun cdv A outer s H vs Q E hr h => ?_)
  · obtain ⟨p, dx, Z0, v_size, v_width, v_measure, v_fields, x_size, x_width, x_measure, x_fields, y, rfl, _⟩ := h
    rfl
  · obtain ⟨p, dx, Z0, v_size, v_width, v_measure, v_fields, x_size, x_width, x_measure, x_fields, y, rfl, sz, hself, zself, h_size, h_width, h_measure, h_fields, hF, q⟩ := h
    refine ⟨_, (pss_cons (ps_fld (pv 0) (pv 1) rfl) 
      (pss_cons (ps_fld (pv 0) (pv 2) rfl) 
      (pss_cons (ps_fld (pv 0) (pv 3) rfl) 
      (pss_cons (ps_fld (pv 0) (pe_callTy call_tuple_of (by rfl) T.m_tuple (by decide +kernel) (pa_cons (pe_lc (own := [("pair", 5)]) (g := gName 5) rfl sc_Schema___init__.nd (pi_tup (pv 4)) (blkOk_by (own := [("pair", 5)]) (N := ["self", "size", "width", "measure", "fields", "pair"]) (sc := defScope s_Schema___init__) (by decide +kernel)) (fun _ _ _ _ _ => (pg_name (i := 5) sc_Schema___init__.nd rfl (Or.inl rfl))) (fun _ _ _ _ _ => pts_nil) (fun _ _ _ _ _ => (pe_callTy (r := rTupleB K) (by exact call_tuple_of) (by rfl) T.m_tuple (by decide +kernel) (pa_cons (pv 5) pa_nil)))) pa_nil)) rfl) 
      (pss_cons (ps_expr (pe_call G_check_vectors (hr.mono (by decide)) (by rfl) T.g_check_vectors T.F_check_vectors.kp T.b_check_vectors .nil (passes_call (takes_of rfl rfl rfl rfl) (fun _ _ _ _ h => h)) (pa_cons (pv 1) (pa_cons (pv 2) (pa_cons (pv 3) pa_nil))))) 
      (pss_one (ps_expr (pe_call G_check_fields (hr.mono (by decide)) (by rfl) T.g_check_fields T.F_check_fields.kp T.b_check_fields .nil (passes_call (takes_of rfl rfl rfl rfl) (fun _ _ _ _ h => h)) (pa_cons (pe_fld (pv 0) rfl) pa_nil))))))))), ?_⟩
    obtain ⟨q, qx⟩ := q
    have P : Pt [p] Z0 H muN Z0 H () := ⟨Step.refl sz, trivial, fun _ h => (nomatch h)⟩
    unfold F_Schema___init__ at hF
    refine st_seq (st_fld (x := x_size) (τ := yInt) P hself zself List.not_mem_nil (.inl List.mem_cons_self) rfl (ev_var (τ := yInt) rfl h_size) T.cl_Schema T.n_Schema_size (Nat.lt_of_le_of_lt (Nat.le_refl 0) (by decide)) (fun v_113 Z1 H1 e P1 k_114 hself1 zself1 => ?_))
    refine st_nx ?_
    replace P := P1
    replace hself := hself1
    replace zself := zself1
    replace h_fields := ((yTup K (yP2 K yStr yStr))).mono e.z h_fields
    refine st_seq (st_fld (x := x_width) (τ := yStr) P hself zself List.not_mem_nil (.inl List.mem_cons_self) rfl (ev_var (τ := yStr) rfl h_width) T.cl_Schema T.n_Schema_width (Nat.lt_of_le_of_lt (putF_le (Nat.le_refl 0)) (by decide)) (fun v_115 Z1 H1 e P1 k_116 hself1 zself1 => ?_))
    refine st_nx ?_
    replace P := P1
    replace hself := hself1
    replace zself := zself1
    replace h_fields := ((yTup K (yP2 K yStr yStr))).mono e.z h_fields
    refine st_seq (st_fld (x := x_measure) (τ := yStr) P hself zself List.not_mem_nil (.inl List.mem_cons_self) rfl (ev_var (τ := yStr) rfl h_measure) T.cl_Schema T.n_Schema_measure (Nat.lt_of_le_of_lt (putF_le (putF_le (Nat.le_refl 0))) (by decide)) (fun v_117 Z1 H1 e P1 k_118 hself1 zself1 => ?_))
    refine st_nx ?_
    replace P := P1
    replace hself := hself1
    replace zself := zself1
    replace h_fields := ((yTup K (yP2 K yStr yStr))).mono e.z h_fields
    refine st_seq (st_fld (x := x_fields) (τ := (yTup K (yP2 K yStr yStr))) P hself zself List.not_mem_nil (.inl List.mem_cons_self) rfl (ev_tuple_of (fun _ _ _ h => h) (ev_li (ev_fz (en_cast (en_map (fun x => x) (ei_tup (ev_var (τ := (yTup K (yP2 K yStr yStr))) rfl h_fields)) (fun x_122 v_123 Z' H' zz hh rx_124 => by
          exact ⟨_, tgt_name, (wpe_s wpe_z (by decide)), (ev_tuple_id (fun _ _ _ h => h) it_p2 (ev_var (τ := (yP2 K yStr yStr)) rfl rx_124))⟩)) (List.map_id' _))))) T.cl_Schema T.n_Schema_fields (Nat.lt_of_le_of_lt (putF_le (putF_le (putF_le (Nat.le_refl 0)))) (by decide)) (fun v_125 Z1 H1 e P1 k_126 hself1 zself1 => ?_))
    refine st_nx ?_
    replace P := P1
    replace hself := hself1
    replace zself := zself1
    obtain ⟨p_129, h_128, hF⟩ := bind_inv hF
    rcases p_129 with r_127 | e
    rotate_left
    · replace hF := rer_inv hF
      replace hF := Option.some.inj hF
      subst hF
      refine st_seq (st_exprE P (eve_call (cx_check_vectors T h_128) (eva_cons (ev_var (τ := yInt) rfl h_size) (eva_cons (ev_var (τ := yStr) rfl h_width) (eva_cons (ev_var (τ := yStr) rfl h_measure) eva_nil)))) (fun Z1 H1 e1 P1 => ?_))
      exact qx _ rfl _ _ P1.st
    replace hF := rok_inv hF
    refine st_seq (st_expr P (ev_call (cs_check_vectors T h_128) (eva_cons (ev_var (τ := yInt) rfl h_size) (eva_cons (ev_var (τ := yStr) rfl h_width) (eva_cons (ev_var (τ := yStr) rfl h_measure) eva_nil)))) (fun Z1 H1 e P1 => ?_))
    refine st_nx ?_
    replace P := P1
    replace k_126 := ((yTup K (yP2 K yStr yStr))).mono e.z k_126
    replace zself := e.n _ (some_ne hself) zself
    replace hself := e.h _ _ List.not_mem_nil hself
    obtain ⟨p_133, h_132, hF⟩ := bind_inv hF
    rcases p_133 with r_131 | e
    rotate_left
    · replace hF := rer_inv hF
      replace hF := Option.some.inj hF
      subst hF
      refine st_exprE P (eve_call (cx_check_fields T h_132) (eva_cons (ev_selfF hself List.not_mem_nil rfl T.cl_Schema T.n_Schema_fields (by rw [lookup_putF, if_pos rfl]) k_126) eva_nil)) (fun Z1 H1 e1 P1 => ?_)
      exact qx _ rfl _ _ P1.st
    replace hF := rok_inv hF
    refine st_expr P (ev_call (cs_check_fields T h_132) (eva_cons (ev_selfF hself List.not_mem_nil rfl T.cl_Schema T.n_Schema_fields (by rw [lookup_putF, if_pos rfl]) k_126) eva_nil)) (fun Z1 H1 e P1 => ?_)
    replace P := P1
    replace k_126 := ((yTup K (yP2 K yStr yStr))).mono e.z k_126
    replace zself := e.n _ (some_ne hself) zself
    replace hself := e.h _ _ List.not_mem_nil hself
    replace hF := Option.some.inj hF
    subst hF
    exact q _ rfl _ _ _ P.st hself ⟨p, dx, v_113, v_115, v_117, v_125, rfl, upd_same, k_114, k_116, k_118, ((yTup K (yP2 K yStr yStr))).mono (same_upd zself) k_126⟩
theorem is_Schema___init__ (T : Txt w K mg base) {μ : Type} {M : Mu μ} {s : μ} {E : XK} {x_size : Int} {x_width : Str} {x_measure : Str} {x_fields : (List (Str × Str))} {y : Schema} (h : F_Schema___init__ x_size x_width x_measure x_fields = some (.ok y)) : InitS M T.c_Schema (sp_Schema___init__ T) E (rac (ty yInt x_size) (rac (ty yStr x_width) (rac (ty yStr x_measure) (rac (ty (yTup K (yP2 K yStr yStr)) x_fields) ra0)))) s (ty (y_Schema T) y) s := by
  rintro Z H vs x dx sz m ⟨v_size, _, rfl, h_size, ⟨v_width, _, rfl, h_width, ⟨v_measure, _, rfl, h_measure, ⟨v_fields, _, rfl, h_fields, rfl⟩⟩⟩⟩ hx zx nx Q q
  exact ⟨x, dx, Z, v_size, v_width, v_measure, v_fields, x_size, x_width, x_measure, x_fields, _, rfl, sz, hx, zx, h_size, h_width, h_measure, h_fields, h, fun a e Z2 H2 o st ho hr => by cases e; exact q Z2 H2 o (st.weak fun a h => by rw [List.mem_singleton] at h; rw [h]; exact .inl List.mem_cons_self) (Mu.away st nx m) ho hr, fun _ z => nomatch z⟩
theorem ix_Schema___init__ (T : Txt w K mg base) {μ : Type} {M : Mu μ} {s : μ} {E : XK} {x_size : Int} {x_width : Str} {x_measure : Str} {x_fields : (List (Str × Str))} {e : Exc} (h : F_Schema___init__ x_size x_width x_measure x_fields = some (.er e)) : InitE M T.c_Schema (sp_Schema___init__ T) E (rac (ty yInt x_size) (rac (ty yStr x_width) (rac (ty yStr x_measure) (rac (ty (yTup K (yP2 K yStr yStr)) x_fields) ra0)))) s (exv T e) s := by
  rintro Z H vs x dx sz m ⟨v_size, _, rfl, h_size, ⟨v_width, _, rfl, h_width, ⟨v_measure, _, rfl, h_measure, ⟨v_fields, _, rfl, h_fields, rfl⟩⟩⟩⟩ hx zx nx Q q
  exact ⟨x, dx, Z, v_size, v_width, v_measure, v_fields, x_size, x_width, x_measure, x_fields, _, rfl, sz, hx, zx, h_size, h_width, h_measure, h_fields, h, (fun _ z => nomatch z), fun c e Z2 H2 st => by cases e; exact q Z2 H2 (st.weak fun a h => by rw [List.mem_singleton] at h; rw [h]; exact .inl List.mem_cons_self) (Mu.away st nx m)⟩
def sp_law_word (T : Txt w K mg base) : Sp := fun vs H Q _ => ∃ (st sc : Addr) (Z0 : Hp) (ds : DS) (y : (Str × DS)), vs = [.ref st] ∧ (Same Z0 H) ∧ ((muD st sc).m ds Z0 H) ∧ (F_law_word ds = some y) ∧ ∀ v Z' H', Step (muD st sc).fp Z0 H Z' H' → (muD st sc).m y.2 Z' H' → (yStr).r Z' v y.1 → Q v H'
set_option maxHeartbeats 4000000 in
theorem ok_law_word (T : Txt w K mg base) : FnOk P w K mg base CX0 3 T.f_law_word T.d_law_word ["state"] (sp_law_word T) := by
  have G_law_next : FnOk P w K mg base CX0 2 T.f_law_next T.d_law_next ["state", "many"] (sp_law_next T) := ok_law_next T
  refine T.F_law_word.ok sc_law_word (fun vs H Q E h => ?_) (fun cdv A outer s H vs Q E hr h => ?_)
  · obtain ⟨st, sc, Z0, ds, y, rfl, _⟩ := h
    rfl
  · obtain ⟨st, sc, Z0, ds, y, rfl, sz, hm, hF, q⟩ := h
    refine ⟨_, (pss_cons (ps_set (i := 1) sc_law_word.nd rfl (.inl rfl) pe_str) 
      (pss_cons (ps_for PassesOwn.never rfl (pi_range1 rfl T.m_range (pa_cons (pe_call G_law_next (hr.mono (by decide)) (by rfl) T.g_law_next T.F_law_next.kp T.b_law_next .nil pass0 (pa_cons (pv 0) (pa_cons pe_int pa_nil))) pa_nil)) (pg_name (i := 2) sc_law_word.nd rfl (.inl rfl)) (pss_one (ps_set (i := 1) sc_law_word.nd rfl (.inl rfl) (pe_op op_add_str (pv 1) (pe_ix ix_str pe_str (pe_call G_law_next (hr.mono (by decide)) (by rfl) T.g_law_next T.F_law_next.kp T.b_law_next .nil pass0 (pa_cons (pv 0) (pa_cons pe_int pa_nil))) (fun _ _ => rfl)))))) 
      (pss_one (ps_ret (pv 1))))), ?_⟩
    have P := Pt.start (muD st sc) sz hm
    unfold F_law_word at hF
    refine st_seq (st_set P ev_str (fun v_137 Z1 H1 e P1 k_138 => ?_))
    refine st_nx ?_
    replace P := P1
    obtain ⟨g_139, hF⟩ := guard_inv hF
    obtain ⟨f_162, hL_163, hF⟩ := bind_inv hF
    refine st_seq (st_for (τ := yInt) (fun (r_142 : List Int) σ' Z' H' => ∃ w_140, ∃ (v_147 : V) (y_149 : Option V), σ' = [some (.ref st), some v_147, y_149] ∧ Pt (muD st sc).fp Z0 H (muD st sc) Z' H' w_140.2 ∧ (yStr).r Z' v_147 w_140.1 ∧ forF L_law_word_1 r_142 w_140 = some f_162) P (ei_rng1 (ev_call (cs__law_next T (by decide +kernel)) (eva_cons (ev_ref rfl) (eva_cons ev_int eva_nil))) g_139) ?_ ?_ ?_)
    · rintro Z1 H1 e P1
      replace P := P1
      exact ⟨(("" : Str), (nxS ds (3 : Int))), _, _, rfl, P, k_138, hL_163⟩
    · rintro Zb_146 Hb eb x_141 r_142 σ' v_154 Z1 H1 Z2 H2 zs_145 ⟨w_140, v_147, y_149, rfl, P, k_148, hq_144⟩ e hx_155
      replace P := P.item e
      replace zs_145 := zs_145.trans e.z
      obtain ⟨u_156, hB_143, hq_144⟩ := bind_inv (forF_cons hq_144)
      unfold L_law_word_1 at hB_143
      refine tgt_name _ P.sub _ ?_
      obtain ⟨i_157, h_158, hB_143⟩ := bind_inv hB_143
      obtain ⟨g_159, hB_143⟩ := guard_inv hB_143
      refine st_set P (ev_cat_str (ev_var (τ := yStr) rfl k_148) (ev_ixS ev_str (ev_call (cs__law_next T (by decide +kernel)) (eva_cons (ev_ref rfl) (eva_cons ev_int eva_nil))) h_158) g_159) (fun v_160 Z1 H1 e P1 k_161 => ?_)
      replace P := P1
      replace zs_145 := zs_145.trans e.z
      replace hB_143 := Option.some.inj hB_143
      subst hB_143
      exact ⟨_, zs_145, P.sub, ((w_140.1 ++ i_157), (nxS w_140.2 (3 : Int))), _, _, rfl, P, k_161, hq_144⟩
    rintro σ' Z1 H1 _ _ ⟨w_150, v_151, y_149, rfl, P, k_152, hl⟩
    have hz := (forF_nil hl).symm
    subst hz
    refine st_nx ?_
    replace hF := Option.some.inj hF
    subst hF
    refine st_ret P (ev_var (τ := yStr) rfl k_152) (fun v Z1 H1 P1 hv => ?_)
    exact q v _ _ P1.st P1.m hv
theorem cs_law_word (T : Txt w K mg base) {st sc : Addr} {ds : DS} {E : XK}  {y : Str × DS} (h : F_law_word ds = some y) : CallS (muD st sc) (sp_law_word T) E (rac (isRef st) ra0) ds (ty yStr y.1) y.2 := by
  rintro Z H vs sz m ⟨_, _, rfl, rfl, rfl⟩ Q q
  exact ⟨st, sc, Z, ds, y, rfl, sz, m, h, fun v Z2 H2 s2 m2 hv => q v Z2 H2 s2 m2 hv⟩
theorem cu_law_word (T : Txt w K mg base) {st sc : Addr} {ds : DS} {E : XK}  {y : Str × DS} {μ : Type} {M : Mu μ} {s s2 : μ} (hm : ∀ Z H, M.m s Z H → (muD st sc).m ds Z H) (hf : ∀ a ∈ (muD st sc).fp, a ∈ M.fp) (hp : ∀ Z H Z' H', M.m s Z H → Step (muD st sc).fp Z H Z' H' → (muD st sc).m y.2 Z' H' → M.m s2 Z' H') (h : F_law_word ds = some y) : CallS M (sp_law_word T) E (rac (isRef st) ra0) s (ty yStr y.1) s2 := by
  rintro Z H vs sz m ⟨_, _, rfl, rfl, rfl⟩ Q q
  exact ⟨st, sc, Z, ds, y, rfl, sz, hm _ _ m, h, fun v Z2 H2 st2 m2 hv => q v Z2 H2 (st2.weak fun a h => .inl (hf a h)) (hp _ _ _ _ m st2 m2) hv⟩
def sp_law_due (T : Txt w K mg base) : Sp := fun vs H Q _ => ∃ (Z0 : Hp) (v_routes : V) (v_name : V) (x_routes : (List (Str × Int))) (x_name : Str) (y : Int), vs = [v_routes, v_name] ∧ (Same Z0 H) ∧ (((yList (yP2 K yStr yInt))).r Z0 v_routes x_routes) ∧ ((yStr).r Z0 v_name x_name) ∧ (F_law_due x_routes x_name = some y) ∧ ∀ v Z' H', Step [] Z0 H Z' H' → (yInt).r Z' v y → Q v H'
set_option maxHeartbeats 4000000 in
theorem ok_law_due (T : Txt w K mg base) : FnOk P w K mg base CX0 1 T.f_law_due T.d_law_due ["routes", "name"] (sp_law_due T) := by
  refine T.F_law_due.ok sc_law_due (fun vs H Q E h => ?_) (fun cdv A outer s H vs Q E hr h => ?_)
  · obtain ⟨Z0, v_routes, v_name, x_routes, x_name, y, rfl, _⟩ := h
    rfl
  · obtain ⟨Z0, v_routes, v_name, x_routes, x_name, y, rfl, sz, h_routes, h_name, hF, q⟩ := h
    refine ⟨_, (pss_cons (ps_set (i := 2) sc_law_due.nd rfl (.inl rfl) pe_non) 
      (pss_cons (ps_for PassesOwn.never rfl (pi_list (pv 0)) (pg_tup rfl (pgs_cons (pg_name (i := 3) sc_law_due.nd rfl (.inl rfl)) (pgs_cons (pg_name (i := 4) sc_law_due.nd rfl (.inl rfl)) pgs_nil))) (pss_one (ps_if (PW.pt (pw_and (pt_cmpR op_le_str (pv 3) (pv 1) (nomark _)) (pw_and1 (PW.pt (pw_or (pt_cmpR op_isN (pv 2) pe_non (nomark _)) (pw_or1 (pt_cmpR op_lt_str (pe_ix ix_tup (pv 2) pe_int (fun _ _ => rfl)) (pv 3) (nomark _)))))))) (pss_one (ps_set (i := 2) sc_law_due.nd rfl (.inl rfl) (pe_tup (pa_cons (pv 3) (pa_cons (pv 4) pa_nil))))) pss_nil))) 
      (pss_one (ps_ret (pe_ix ix_tup (pv 2) pe_int (fun _ _ => rfl)))))), ?_⟩
    have P := Pt.start0 sz
    unfold F_law_due at hF
    refine st_seq (st_set P (ev_none (τ := (yP2 K yStr yInt)) ev_non) (fun v_166 Z1 H1 e P1 k_167 => ?_))
    refine st_nx ?_
    replace P := P1
    replace k_167 : ((yOpt (yP2 K yStr yInt))).r Z1 v_166 none := k_167
    replace h_routes := ((yList (yP2 K yStr yInt))).mono e.z h_routes
    obtain ⟨f_206, hL_207, hF⟩ := bind_inv hF
    refine st_seq (st_for (τ := (yP2 K yStr yInt)) (fun (r_170 : List (Str × Int)) σ' Z' H' => ∃ w_168, ∃ (y_175 : Option V) (v_176 : V) (y_178 : Option V) (y_179 : Option V), σ' = [y_175, some v_name, some v_176, y_178, y_179] ∧ Pt [] Z0 H muN Z' H' () ∧ ((yOpt (yP2 K yStr yInt))).r Z' v_176 w_168 ∧ forF (L_law_due_1 x_name) r_170 w_168 = some f_206) P (ei_list (ev_var (τ := (yList (yP2 K yStr yInt))) rfl h_routes)) ?_ ?_ ?_)
    · rintro Z1 H1 e P1
      replace P := P1
      replace h_routes := ((yList (yP2 K yStr yInt))).mono e.z h_routes
      replace k_167 := ((yOpt (yP2 K yStr yInt))).mono e.z k_167
      exact ⟨none, _, _, _, _, rfl, P, k_167, hL_207⟩
    · rintro Zb_174 Hb eb x_169 r_170 σ' v_187 Z1 H1 Z2 H2 zs_173 ⟨w_168, y_175, v_176, y_178, y_179, rfl, P, k_177, hq_172⟩ e hx_188
      replace P := P.item e
      replace k_177 := ((yOpt (yP2 K yStr yInt))).mono e.z k_177
      replace zs_173 := zs_173.trans e.z
      obtain ⟨u_189, hB_171, hq_172⟩ := bind_inv (forF_cons hq_172)
      unfold L_law_due_1 at hB_171
      obtain ⟨v_190, v_191, k_192, k_193, tg_194⟩ := tgt_p2 hx_188
      refine (tg_194 tgt_name tgt_name) _ P.sub _ ?_
      obtain ⟨b_200, h_199, hB_171⟩ := bind_inv hB_171
      refine st_if P (et_andO (et_cmp (ev_cmpS (ev_var (τ := yStr) rfl k_192) (ev_var (τ := yStr) rfl h_name))) (fun _ y hy => by
            obtain ⟨b_198, h_197, hy⟩ := bind_inv hy
            have hy := Option.some.inj hy
            subst hy
            exact (et_orO (et_cmp (ev_isN (ev_var (τ := (yOpt (yP2 K yStr yInt))) rfl k_177) ev_non)) (fun _ y hy => by
                  obtain ⟨u_195, h_196, hy⟩ := bind_inv hy
                  have hy := Option.some.inj hy
                  subst hy
                  exact (et_cmp (ev_cmpS (ev_cast (ev_part po2_0 (ev_uno (ev_var (τ := (yOpt (yP2 K yStr yInt))) rfl k_177) h_196) ev_int) rfl) (ev_var (τ := yStr) rfl k_192)))) h_197)) h_199) (fun b_201 Z1 H1 e P1 => ?_) (fun b_201 Z1 H1 e P1 => ?_)
      · replace P := P1
        have hB := ifT b_201 hB_171
        replace hB_171 := hB
        clear hB
        replace zs_173 := zs_173.trans e.z
        obtain ⟨x_best_202, h_203, hB_171⟩ := bind_inv hB_171
        replace h_203 := Option.some.inj h_203
        refine st_set P (ev_cast (ev_some nn_p2 (ev_p2 (K := K) (eva_cons (ev_var (τ := yStr) rfl k_192) (eva_cons (ev_var (τ := yInt) rfl k_193) eva_nil)))) h_203) (fun v_204 Z1 H1 e P1 k_205 => ?_)
        replace P := P1
        replace k_205 : ((yOpt (yP2 K yStr yInt))).r Z1 v_204 x_best_202 := k_205
        replace zs_173 := zs_173.trans e.z
        replace hB_171 := Option.some.inj hB_171
        subst hB_171
        exact ⟨_, zs_173, P.sub, x_best_202, _, _, _, _, rfl, P, k_205, hq_172⟩
      · replace P := P1
        have hB := ifF b_201 hB_171
        replace hB_171 := hB
        clear hB
        refine st_next ?_
        replace k_177 := ((yOpt (yP2 K yStr yInt))).mono e.z k_177
        replace zs_173 := zs_173.trans e.z
        replace hB_171 := Option.some.inj hB_171
        subst hB_171
        exact ⟨_, zs_173, P.sub, w_168, _, _, _, _, rfl, P, k_177, hq_172⟩
    rintro σ' Z1 H1 _ _ ⟨w_180, y_175, v_183, y_178, y_179, rfl, P, k_184, hl⟩
    have hz := (forF_nil hl).symm
    subst hz
    refine st_nx ?_
    obtain ⟨u_208, h_209, hF⟩ := bind_inv hF
    replace hF := Option.some.inj hF
    subst hF
    refine st_ret P (ev_cast (ev_part po2_1 (ev_uno (ev_var (τ := (yOpt (yP2 K yStr yInt))) rfl k_184) h_209) ev_int) rfl) (fun v Z1 H1 P1 hv => ?_)
    exact q v _ _ P1.st hv
theorem cs_law_due (T : Txt w K mg base) {μ : Type} {M : Mu μ} {s : μ} {E : XK} {x_routes : (List (Str × Int))} {x_name : Str} {y : Int} (h : F_law_due x_routes x_name = some y) : CallS M (sp_law_due T) E (rac (ty (yList (yP2 K yStr yInt)) x_routes) (rac (ty yStr x_name) ra0)) s (ty yInt y) s := by
  rintro Z H vs sz m ⟨v_routes, _, rfl, h_routes, ⟨v_name, _, rfl, h_name, rfl⟩⟩ Q q
  exact ⟨Z, v_routes, v_name, x_routes, x_name, y, rfl, sz, h_routes, h_name, h, fun v Z2 H2 st hv => q v Z2 H2 st.pure (M.pure st m) hv⟩
def sp_Catalog_shard_of (T : Txt w K mg base) : Sp := fun vs H Q _ => ∃ (p_self : Addr) (Z0 : Hp) (ds : Catalog) (v_name : V) (x_name : Str) (y : Int), vs = [.ref p_self, v_name] ∧ (Same Z0 H) ∧ ((mu_Catalog T p_self).m ds Z0 H) ∧ ((yStr).r Z0 v_name x_name) ∧ (F_Catalog_shard_of ds x_name = some y) ∧ ∀ v Z' H', Step (mu_Catalog T p_self).fp Z0 H Z' H' → (mu_Catalog T p_self).m ds Z' H' → (yInt).r Z' v y → Q v H'
set_option maxHeartbeats 4000000 in
theorem ok_Catalog_shard_of (T : Txt w K mg base) : FnOk P w K mg base CX0 1 T.f_Catalog_shard_of T.d_Catalog_shard_of ["self", "name"] (sp_Catalog_shard_of T) := by
  refine T.F_Catalog_shard_of.ok sc_Catalog_shard_of (fun vs H Q E h => ?_) (fun cdv A outer s H vs Q E hr h => ?_)
  · obtain ⟨p_self, Z0, ds, v_name, x_name, y, rfl, _⟩ := h
    rfl
  · obtain ⟨p_self, Z0, ds, v_name, x_name, y, rfl, sz, hm, h_name, hF, q⟩ := h
    refine ⟨_, (pss_one (ps_ret (pe_ix ix_list (pe_lc (own := [("low", 2), ("shard", 3)]) (g := gTup K 2 (gCons (gName 2) (gCons (gName 3) gNil))) rfl sc_Catalog_shard_of.nd (pi_list (pe_fld (pv 0) rfl)) (blkOk_by (own := [("low", 2), ("shard", 3)]) (N := ["self", "name", "low", "shard"]) (sc := defScope s_Catalog_shard_of) (by decide +kernel)) (fun _ _ _ _ _ => (by exact (pg_tup rfl (pgs_cons (pg_name (i := 2) sc_Catalog_shard_of.nd rfl (Or.inl rfl)) (pgs_cons (pg_name (i := 3) sc_Catalog_shard_of.nd rfl (Or.inl rfl)) pgs_nil))))) (fun _ _ _ _ _ => (by exact pts_one (pt_cmpR op_le_str (pv 2) (pv 1) (nomark _)))) (fun _ _ _ _ _ => (pv 3))) (pe_un un_neg pe_int) (fun _ _ => rfl)))), ?_⟩
    have P := Pt.start (mu_Catalog T p_self) sz hm
    unfold F_Catalog_shard_of at hF
    obtain ⟨i_230, h_231, hF⟩ := bind_inv hF
    replace hF := Option.some.inj hF
    subst hF
    refine st_ret P (ev_ixL (ev_li (ev_fz (en_fil (υ := yInt) (fun (x_221 : (Str × Int)) => (!decide (x_name.cps.toList < x_221.1.cps.toList))) (fun (x_221 : (Str × Int)) => x_221.2) (ei_list (ev_mfld (fun _ _ m => m) (mf_Catalog_routes T) T.cl_Catalog T.n_Catalog_routes rfl)) (fun x_221 v_223 Z' H' zz hh rx_224 => by
          obtain ⟨v_225, v_226, k_227, k_228, tg_229⟩ := tgt_p2 rx_224
          exact ⟨_, (tg_229 tgt_name tgt_name), (wpe_s (wpe_s wpe_z (by decide)) (by decide)), (et_cmp (ev_cmpS (ev_var (τ := yStr) rfl k_227) (ev_var (τ := yStr) rfl h_name))), (ev_var (τ := yInt) rfl k_228)⟩)))) (ev_neg ev_int) h_231) (fun v Z1 H1 P1 hv => ?_)
    exact q v _ _ P1.st P1.m hv
theorem cs_Catalog_shard_of (T : Txt w K mg base) {p_self : Addr} {ds : Catalog} {E : XK} {x_name : Str} {y : Int} (h : F_Catalog_shard_of ds x_name = some y) : CallS (mu_Catalog T p_self) (sp_Catalog_shard_of T) E (rac (isRef p_self) (rac (ty yStr x_name) ra0)) ds (ty yInt y) ds := by
  rintro Z H vs sz m ⟨_, _, rfl, rfl, ⟨v_name, _, rfl, h_name, rfl⟩⟩ Q q
  exact ⟨p_self, Z, ds, v_name, x_name, y, rfl, sz, m, h_name, h, fun v Z2 H2 s2 m2 hv => q v Z2 H2 s2 m2 hv⟩
theorem cu_Catalog_shard_of (T : Txt w K mg base) {p_self : Addr} {ds : Catalog} {E : XK} {x_name : Str} {y : Int} {μ : Type} {M : Mu μ} {s s2 : μ} (hm : ∀ Z H, M.m s Z H → (mu_Catalog T p_self).m ds Z H) (hf : ∀ a ∈ (mu_Catalog T p_self).fp, a ∈ M.fp) (hp : ∀ Z H Z' H', M.m s Z H → Step (mu_Catalog T p_self).fp Z H Z' H' → (mu_Catalog T p_self).m ds Z' H' → M.m s2 Z' H') (h : F_Catalog_shard_of ds x_name = some y) : CallS M (sp_Catalog_shard_of T) E (rac (isRef p_self) (rac (ty yStr x_name) ra0)) s (ty yInt y) s2 := by
  rintro Z H vs sz m ⟨_, _, rfl, rfl, ⟨v_name, _, rfl, h_name, rfl⟩⟩ Q q
  exact ⟨p_self, Z, ds, v_name, x_name, y, rfl, sz, hm _ _ m, h_name, h, fun v Z2 H2 st2 m2 hv => q v Z2 H2 (st2.weak fun a h => .inl (hf a h)) (hp _ _ _ _ m st2 m2) hv⟩
def sp_Catalog_route (T : Txt w K mg base) : Sp := fun vs H Q _ => ∃ (p_self : Addr) (Z0 : Hp) (ds : (Catalog × Unit)) (v_low : V) (v_shard : V) (x_low : Str) (x_shard : Int) (y : (Int × (Catalog × Unit))), vs = [.ref p_self, v_low, v_shard] ∧ (Same Z0 H) ∧ ((muX (mu_Catalog T p_self) (muT T.P_Catalog_route lq_Catalog_route)).m ds Z0 H) ∧ ((yStr).r Z0 v_low x_low) ∧ ((yInt).r Z0 v_shard x_shard) ∧ (F_Catalog_route ds x_low x_shard = some y) ∧ ∀ v Z' H', Step (muX (mu_Catalog T p_self) (muT T.P_Catalog_route lq_Catalog_route)).fp Z0 H Z' H' → (muX (mu_Catalog T p_self) (muT T.P_Catalog_route lq_Catalog_route)).m y.2 Z' H' → (yInt).r Z' v y.1 → Q v H'
set_option maxHeartbeats 4000000 in
theorem ok_Catalog_route (T : Txt w K mg base) : FnOk P w K mg base CX0 4 T.f_Catalog_route T.d_Catalog_route ["self", "low", "shard"] (sp_Catalog_route T) := by
  refine T.L_Catalog_route.ok sc_Catalog_route (fun vs H Q E h => ?_) (fun A outer s H vs Q E hr h => ?_)
  · obtain ⟨p_self, Z0, ds, v_low, v_shard, x_low, x_shard, y, rfl, _⟩ := h
    rfl
  · obtain ⟨p_self, Z0, ds, v_low, v_shard, x_low, x_shard, y, rfl, sz, hm, h_low, h_shard, hF, q⟩ := h
    refine ⟨_, (pss_cons (ps_setLc (i := 3) (own := [("pair", 4)]) (g := gName 4) rfl sc_Catalog_route.nd rfl rfl (sw_true rfl rfl rfl (by decide +kernel)) (pi_list (pe_fld (pv 0) rfl)) (blkOk_by (own := [("pair", 4)]) (N := ["self", "low", "shard", "others", "pair"]) (sc := defScope s_Catalog_route) (by decide +kernel)) (fun _ _ _ _ _ => (pg_name (i := 4) sc_Catalog_route.nd rfl (Or.inl rfl))) (fun _ _ _ _ _ => (by exact pts_one (pt_cmpR op_ne (pe_ix (r := rIxT K) (by exact ix_tup) (pv 4) pe_int (fun _ _ => rfl)) (pv 1) (nomark _)))) (fun _ _ _ _ _ => (pv 4))) 
      (pss_cons (ps_fld (pv 0) (SLam.pe_sortL (P := T.P_Catalog_route) (c := T.k_Catalog_route) (q := lq_Catalog_route) (N := ["pair"]) (ps := ["pair"]) (fr := []) (js := []) (k := 0) T.tb_Catalog_route rfl rfl (by rfl) T.m_sorted (pa_cons (pe_op op_cat (pv 3) (pe_lst (pa_cons (pe_tup (pa_cons (pv 1) (pa_cons (pv 2) pa_nil))) pa_nil))) pa_nil) rfl (by rfl) (NdefX.nscope_by (by decide +kernel)) rfl rfl (fun _ _ _ _ us hus => match us, hus with | [_], _ => rfl) (hr.mono (by decide)) (fun A outer s H f c' cl hr => (pe_ix (r := rIxT K) (by exact ix_tup) (pv 0) pe_int (fun _ _ => rfl)))) rfl) 
      (pss_one (ps_ret (pv 2))))), ?_⟩
    have P := Pt.start (muX (mu_Catalog T p_self) (muT T.P_Catalog_route lq_Catalog_route)) sz hm
    unfold F_Catalog_route at hF
    obtain ⟨x_others_250, h_251, hF⟩ := bind_inv hF
    replace h_251 := Option.some.inj h_251
    refine st_seq (st_set P (ev_cast (ev_fz (en_cast (en_fil (υ := (yP2 K yStr yInt)) (fun (x_246 : (Str × Int)) => (!decide (x_246.1 = x_low))) (fun (x_246 : (Str × Int)) => x_246) (ei_list (ev_mfld (fun Z H m => by
          obtain ⟨m0, m1, d1⟩ := m
          exact m0) (mf_Catalog_routes T) T.cl_Catalog T.n_Catalog_routes rfl)) (fun x_246 v_248 Z' H' zz hh rx_249 => by
          exact ⟨_, tgt_name, (wpe_s wpe_z (by decide)), (et_cmp (ev_ne flat_str (ev_cast (ev_part po2_0 (ev_var (τ := (yP2 K yStr yInt)) rfl rx_249) ev_int) rfl) (ev_var (τ := yStr) rfl h_low))), (ev_var (τ := (yP2 K yStr yInt)) rfl rx_249)⟩)) (List.map_id' _))) h_251) (fun v_252 Z1 H1 e P1 k_253 => ?_))
    refine st_nx ?_
    replace P := P1
    obtain ⟨g_254, hF⟩ := guard_inv hF
    obtain ⟨g_259, hF⟩ := guard_inv hF
    obtain ⟨l_260, h_261, hF⟩ := bind_inv hF
    obtain ⟨x_routes_262, h_263, hF⟩ := bind_inv hF
    replace h_263 := Option.some.inj h_263
    refine st_seq (st_mset (s1 := (ds.1, ds.2)) (s2 := ({ ds.1 with routes := x_routes_262 }, ds.2)) (c := ds.1) (x := x_routes_262) P (fun Z H m => by
          obtain ⟨m0, m1, d1⟩ := m
          exact m0) (fun a hb => (List.mem_append_left _ hb)) (fun Z H Z' H' m e n => by
          obtain ⟨m0, m1, d1⟩ := m
          have n0 := n
          exact ⟨n0, (Mu.keep m1 e (fun a ha hb => (fun a ha hb => d1 a hb ha) a ha hb)), d1⟩) (ms_Catalog_routes T) T.cl_Catalog T.n_Catalog_routes rfl (ev_cast (ev_fz (en_sortL (τ := (yP2 K yStr yInt)) (κ := yStr) (d := PyData.str) (g := fun (x_255 : (Str × Int)) => (some x_255.1 : Option Str)) keys_str.keyd (fun Z H m => by
          obtain ⟨m0, m1, d1⟩ := m
          exact m1) (fun a hb => (List.mem_append_right _ hb)) (fun Z H Z' H' m e n => by
          obtain ⟨m0, m1, d1⟩ := m
          have n0 := n
          exact ⟨(Mu.keep m0 e (fun a ha hb => (fun a ha => d1 a ha) a ha hb)), n0, d1⟩) (ev_li (ev_fz (en_cat (ev_li (ev_var (τ := (yList (yP2 K yStr yInt))) rfl k_253)) (ev_li (ev_fz (en_listD (eva_conss (ev_p2 (K := K) (eva_cons (ev_var (τ := yStr) rfl h_low) (eva_cons (ev_var (τ := yInt) rfl h_shard) eva_nil))) (eva_nils (τ := (yP2 K yStr yInt)))) (by show 1 ≤ sizeLine; decide)))) g_254))) g_259 h_261 (fun x_255 v_256 Z' H' y_258 zz hh rx_257 hp => by
          have hy := hp
          have hy := Option.some.inj hy
          subst hy
          exact (ev_cast (ev_part po2_0 (ev_var (τ := (yP2 K yStr yInt)) rfl rx_257) ev_int) rfl)))) h_263) (fun Z1 H1 e P1 => ?_))
    refine st_nx ?_
    replace P := P1
    replace hF := Option.some.inj hF
    subst hF
    refine st_ret P (ev_var (τ := yInt) rfl h_shard) (fun v Z1 H1 P1 hv => ?_)
    exact q v _ _ P1.st P1.m hv
theorem cs_Catalog_route (T : Txt w K mg base) {p_self : Addr} {ds : (Catalog × Unit)} {E : XK} {x_low : Str} {x_shard : Int} {y : Int × (Catalog × Unit)} (h : F_Catalog_route ds x_low x_shard = some y) : CallS (muX (mu_Catalog T p_self) (muT T.P_Catalog_route lq_Catalog_route)) (sp_Catalog_route T) E (rac (isRef p_self) (rac (ty yStr x_low) (rac (ty yInt x_shard) ra0))) ds (ty yInt y.1) y.2 := by
  rintro Z H vs sz m ⟨_, _, rfl, rfl, ⟨v_low, _, rfl, h_low, ⟨v_shard, _, rfl, h_shard, rfl⟩⟩⟩ Q q
  exact ⟨p_self, Z, ds, v_low, v_shard, x_low, x_shard, y, rfl, sz, m, h_low, h_shard, h, fun v Z2 H2 s2 m2 hv => q v Z2 H2 s2 m2 hv⟩
theorem cu_Catalog_route (T : Txt w K mg base) {p_self : Addr} {ds : (Catalog × Unit)} {E : XK} {x_low : Str} {x_shard : Int} {y : Int × (Catalog × Unit)} {μ : Type} {M : Mu μ} {s s2 : μ} (hm : ∀ Z H, M.m s Z H → (muX (mu_Catalog T p_self) (muT T.P_Catalog_route lq_Catalog_route)).m ds Z H) (hf : ∀ a ∈ (muX (mu_Catalog T p_self) (muT T.P_Catalog_route lq_Catalog_route)).fp, a ∈ M.fp) (hp : ∀ Z H Z' H', M.m s Z H → Step (muX (mu_Catalog T p_self) (muT T.P_Catalog_route lq_Catalog_route)).fp Z H Z' H' → (muX (mu_Catalog T p_self) (muT T.P_Catalog_route lq_Catalog_route)).m y.2 Z' H' → M.m s2 Z' H') (h : F_Catalog_route ds x_low x_shard = some y) : CallS M (sp_Catalog_route T) E (rac (isRef p_self) (rac (ty yStr x_low) (rac (ty yInt x_shard) ra0))) s (ty yInt y.1) s2 := by
  rintro Z H vs sz m ⟨_, _, rfl, rfl, ⟨v_low, _, rfl, h_low, ⟨v_shard, _, rfl, h_shard, rfl⟩⟩⟩ Q q
  exact ⟨p_self, Z, ds, v_low, v_shard, x_low, x_shard, y, rfl, sz, hm _ _ m, h_low, h_shard, h, fun v Z2 H2 st2 m2 hv => q v Z2 H2 (st2.weak fun a h => .inl (hf a h)) (hp _ _ _ _ m st2 m2) hv⟩
def sp_Catalog_outcome_of (T : Txt w K mg base) : Sp := fun vs H Q _ => ∃ (p_self : Addr) (Z0 : Hp) (ds : (Catalog × Unit)) (v_deed : V) (x_deed : (Str × Str × Int)) (y : (Int × (Catalog × Unit))), vs = [.ref p_self, v_deed] ∧ (Same Z0 H) ∧ ((muX (mu_Catalog T p_self) (muT T.P_Catalog_route lq_Catalog_route)).m ds Z0 H) ∧ (((yP3 K yStr yStr yInt)).r Z0 v_deed x_deed) ∧ (F_Catalog_outcome_of ds x_deed = some y) ∧ ∀ v Z' H', Step (muX (mu_Catalog T p_self) (muT T.P_Catalog_route lq_Catalog_route)).fp Z0 H Z' H' → (muX (mu_Catalog T p_self) (muT T.P_Catalog_route lq_Catalog_route)).m y.2 Z' H' → (yInt).r Z' v y.1 → Q v H'
set_option maxHeartbeats 4000000 in
theorem ok_Catalog_outcome_of (T : Txt w K mg base) : FnOk P w K mg base CX0 5 T.f_Catalog_outcome_of T.d_Catalog_outcome_of ["self", "deed"] (sp_Catalog_outcome_of T) := by
  have G_Catalog_route : FnOk P w K mg base CX0 4 T.f_Catalog_route T.d_Catalog_route ["self", "low", "shard"] (sp_Catalog_route T) := ok_Catalog_route T
  refine T.F_Catalog_outcome_of.ok sc_Catalog_outcome_of (fun vs H Q E h => ?_) (fun cdv A outer s H vs Q E hr h => ?_)
  · obtain ⟨p_self, Z0, ds, v_deed, x_deed, y, rfl, _⟩ := h
    rfl
  · obtain ⟨p_self, Z0, ds, v_deed, x_deed, y, rfl, sz, hm, h_deed, hF, q⟩ := h
    refine ⟨_, (pss_cons (ps_set (i := 2) sc_Catalog_outcome_of.nd rfl (.inl rfl) (pe_ix ix_tup (pv 1) pe_int (fun _ _ => rfl))) 
      (pss_cons (ps_if (pt_cmpR op_eq (pv 2) pe_str (nomark _)) (pss_one ps_dead) pss_nil) 
      (pss_cons (ps_if (pt_cmpR op_eq (pv 2) pe_str (nomark _)) (pss_one ps_dead) pss_nil) 
      (pss_cons (ps_if (pt_cmpR op_eq (pv 2) pe_str (nomark _)) (pss_one ps_dead) pss_nil) 
      (pss_cons (ps_if (pt_cmpR op_eq (pv 2) pe_str (nomark _)) (pss_one ps_dead) pss_nil) 
      (pss_cons (ps_if (pt_cmpR op_eq (pv 2) pe_str (nomark _)) (pss_one ps_dead) pss_nil) 
      (pss_cons (ps_if (pt_cmpR op_eq (pv 2) pe_str (nomark _)) (pss_one ps_dead) pss_nil) 
      (pss_cons (ps_if (pt_cmpR op_eq (pv 2) pe_str (nomark _)) (pss_one (ps_ret (pe_meth (pv 0) T.cl_Catalog T.me_Catalog_route G_Catalog_route (hr.mono (by decide)) T.b_Catalog_route .nil pass0 (pa_cons (pe_ix ix_tup (pv 1) pe_int (fun _ _ => rfl)) (pa_cons (pe_ix ix_tup (pv 1) pe_int (fun _ _ => rfl)) pa_nil))))) pss_nil) 
      (pss_cons (ps_if (pt_cmpR op_eq (pv 2) pe_str (nomark _)) (pss_cons ps_dead 
      (pss_one ps_dead)) pss_nil) 
      (pss_cut (ps_if (pt_cmpR op_eq (pv 2) pe_str (nomark _)) (pss_one ps_dead) (pss_one ps_dead)) 
      (pss_one ps_dead))))))))))), ?_⟩
    have P := Pt.start (muX (mu_Catalog T p_self) (muT T.P_Catalog_route lq_Catalog_route)) sz hm
    unfold F_Catalog_outcome_of at hF
    refine st_seq (st_set P (ev_cast (ev_part po3_0 (ev_var (τ := (yP3 K yStr yStr yInt)) rfl h_deed) ev_int) rfl) (fun v_267 Z1 H1 e P1 k_268 => ?_))
    refine st_nx ?_
    replace P := P1
    replace h_deed := ((yP3 K yStr yStr yInt)).mono e.z h_deed
    refine st_seq (st_if P (et_cmp (ev_eq flat_str (ev_var (τ := yStr) rfl k_268) ev_str)) (fun b_269 Z1 H1 e P1 => ?_) (fun b_269 Z1 H1 e P1 => ?_))
    · replace P := P1
      have hB := ifT b_269 hF
      replace hF := hB
      clear hB
      replace h_deed := ((yP3 K yStr yStr yInt)).mono e.z h_deed
      cases hF
    · replace P := P1
      have hB := ifF b_269 hF
      replace hF := hB
      clear hB
      refine st_next0 ?_
      replace h_deed := ((yP3 K yStr yStr yInt)).mono e.z h_deed
      refine st_seq (st_if P (et_cmp (ev_eq flat_str (ev_var (τ := yStr) rfl k_268) ev_str)) (fun b_270 Z1 H1 e P1 => ?_) (fun b_270 Z1 H1 e P1 => ?_))
      · replace P := P1
        have hB := ifT b_270 hF
        replace hF := hB
        clear hB
        replace h_deed := ((yP3 K yStr yStr yInt)).mono e.z h_deed
        cases hF
      · replace P := P1
        have hB := ifF b_270 hF
        replace hF := hB
        clear hB
        refine st_next0 ?_
        replace h_deed := ((yP3 K yStr yStr yInt)).mono e.z h_deed
        refine st_seq (st_if P (et_cmp (ev_eq flat_str (ev_var (τ := yStr) rfl k_268) ev_str)) (fun b_271 Z1 H1 e P1 => ?_) (fun b_271 Z1 H1 e P1 => ?_))
        · replace P := P1
          have hB := ifT b_271 hF
          replace hF := hB
          clear hB
          cases hF
        · replace P := P1
          have hB := ifF b_271 hF
          replace hF := hB
          clear hB
          refine st_next0 ?_
          replace h_deed := ((yP3 K yStr yStr yInt)).mono e.z h_deed
          refine st_seq (st_if P (et_cmp (ev_eq flat_str (ev_var (τ := yStr) rfl k_268) ev_str)) (fun b_272 Z1 H1 e P1 => ?_) (fun b_272 Z1 H1 e P1 => ?_))
          · replace P := P1
            have hB := ifT b_272 hF
            replace hF := hB
            clear hB
            replace h_deed := ((yP3 K yStr yStr yInt)).mono e.z h_deed
            cases hF
          · replace P := P1
            have hB := ifF b_272 hF
            replace hF := hB
            clear hB
            refine st_next0 ?_
            replace h_deed := ((yP3 K yStr yStr yInt)).mono e.z h_deed
            refine st_seq (st_if P (et_cmp (ev_eq flat_str (ev_var (τ := yStr) rfl k_268) ev_str)) (fun b_273 Z1 H1 e P1 => ?_) (fun b_273 Z1 H1 e P1 => ?_))
            · replace P := P1
              have hB := ifT b_273 hF
              replace hF := hB
              clear hB
              replace h_deed := ((yP3 K yStr yStr yInt)).mono e.z h_deed
              cases hF
            · replace P := P1
              have hB := ifF b_273 hF
              replace hF := hB
              clear hB
              refine st_next0 ?_
              replace h_deed := ((yP3 K yStr yStr yInt)).mono e.z h_deed
              refine st_seq (st_if P (et_cmp (ev_eq flat_str (ev_var (τ := yStr) rfl k_268) ev_str)) (fun b_274 Z1 H1 e P1 => ?_) (fun b_274 Z1 H1 e P1 => ?_))
              · replace P := P1
                have hB := ifT b_274 hF
                replace hF := hB
                clear hB
                replace h_deed := ((yP3 K yStr yStr yInt)).mono e.z h_deed
                cases hF
              · replace P := P1
                have hB := ifF b_274 hF
                replace hF := hB
                clear hB
                refine st_next0 ?_
                replace h_deed := ((yP3 K yStr yStr yInt)).mono e.z h_deed
                refine st_seq (st_if P (et_cmp (ev_eq flat_str (ev_var (τ := yStr) rfl k_268) ev_str)) (fun b_275 Z1 H1 e P1 => ?_) (fun b_275 Z1 H1 e P1 => ?_))
                · replace P := P1
                  have hB := ifT b_275 hF
                  replace hF := hB
                  clear hB
                  replace h_deed := ((yP3 K yStr yStr yInt)).mono e.z h_deed
                  obtain ⟨r_276, h_277, hF⟩ := bind_inv hF
                  replace hF := Option.some.inj hF
                  subst hF
                  refine st_ret P (ev_mmeth (fun Z H m => by
                        obtain ⟨m0, m1, d1⟩ := m
                        exact m0) (mo_Catalog T (by decide +kernel)) (cs_Catalog_route T h_277) (ev_ref rfl) (eva_cons (ev_cast (ev_part po3_1 (ev_var (τ := (yP3 K yStr yStr yInt)) rfl h_deed) ev_int) rfl) (eva_cons (ev_cast (ev_part po3_2 (ev_var (τ := (yP3 K yStr yStr yInt)) rfl h_deed) ev_int) rfl) eva_nil))) (fun v Z1 H1 P1 hv => ?_)
                  exact q v _ _ P1.st P1.m hv
                · replace P := P1
                  have hB := ifF b_275 hF
                  replace hF := hB
                  clear hB
                  refine st_next0 ?_
                  replace h_deed := ((yP3 K yStr yStr yInt)).mono e.z h_deed
                  refine st_seq (st_if P (et_cmp (ev_eq flat_str (ev_var (τ := yStr) rfl k_268) ev_str)) (fun b_278 Z1 H1 e P1 => ?_) (fun b_278 Z1 H1 e P1 => ?_))
                  · replace P := P1
                    have hB := ifT b_278 hF
                    replace hF := hB
                    clear hB
                    cases hF
                  · replace P := P1
                    have hB := ifF b_278 hF
                    replace hF := hB
                    clear hB
                    refine st_next0 ?_
                    replace h_deed := ((yP3 K yStr yStr yInt)).mono e.z h_deed
                    obtain ⟨w_281, hB_280, hF⟩ := bind_inv hF
                    refine ⟨fun σ' H' => ∃ Z', ∃ (y_282 : Option V) (y_283 : Option V) (y_284 : Option V), σ' = [some (.ref p_self), y_282, y_283, y_284] ∧ Pt (muX (mu_Catalog T p_self) (muT T.P_Catalog_route lq_Catalog_route)).fp Z0 H (muX (mu_Catalog T p_self) (muT T.P_Catalog_route lq_Catalog_route)) Z' H' w_281, ?_, ?_⟩
                    · refine st_if P (et_cmp (ev_eq flat_str (ev_var (τ := yStr) rfl k_268) ev_str)) (fun b_279 Z1 H1 e P1 => ?_) (fun b_279 Z1 H1 e P1 => ?_)
                      · replace P := P1
                        replace hB_280 := ifT b_279 hB_280
                        replace h_deed := ((yP3 K yStr yStr yInt)).mono e.z h_deed
                        cases hB_280
                      · replace P := P1
                        replace hB_280 := ifF b_279 hB_280
                        replace h_deed := ((yP3 K yStr yStr yInt)).mono e.z h_deed
                        cases hB_280
                    rintro σ' H' ⟨Z1, y_282, y_283, y_284, rfl, P⟩
                    cases hF
theorem cs_Catalog_outcome_of (T : Txt w K mg base) {p_self : Addr} {ds : (Catalog × Unit)} {E : XK} {x_deed : (Str × Str × Int)} {y : Int × (Catalog × Unit)} (h : F_Catalog_outcome_of ds x_deed = some y) : CallS (muX (mu_Catalog T p_self) (muT T.P_Catalog_route lq_Catalog_route)) (sp_Catalog_outcome_of T) E (rac (isRef p_self) (rac (ty (yP3 K yStr yStr yInt) x_deed) ra0)) ds (ty yInt y.1) y.2 := by
  rintro Z H vs sz m ⟨_, _, rfl, rfl, ⟨v_deed, _, rfl, h_deed, rfl⟩⟩ Q q
  exact ⟨p_self, Z, ds, v_deed, x_deed, y, rfl, sz, m, h_deed, h, fun v Z2 H2 s2 m2 hv => q v Z2 H2 s2 m2 hv⟩
theorem cu_Catalog_outcome_of (T : Txt w K mg base) {p_self : Addr} {ds : (Catalog × Unit)} {E : XK} {x_deed : (Str × Str × Int)} {y : Int × (Catalog × Unit)} {μ : Type} {M : Mu μ} {s s2 : μ} (hm : ∀ Z H, M.m s Z H → (muX (mu_Catalog T p_self) (muT T.P_Catalog_route lq_Catalog_route)).m ds Z H) (hf : ∀ a ∈ (muX (mu_Catalog T p_self) (muT T.P_Catalog_route lq_Catalog_route)).fp, a ∈ M.fp) (hp : ∀ Z H Z' H', M.m s Z H → Step (muX (mu_Catalog T p_self) (muT T.P_Catalog_route lq_Catalog_route)).fp Z H Z' H' → (muX (mu_Catalog T p_self) (muT T.P_Catalog_route lq_Catalog_route)).m y.2 Z' H' → M.m s2 Z' H') (h : F_Catalog_outcome_of ds x_deed = some y) : CallS M (sp_Catalog_outcome_of T) E (rac (isRef p_self) (rac (ty (yP3 K yStr yStr yInt) x_deed) ra0)) s (ty yInt y.1) s2 := by
  rintro Z H vs sz m ⟨_, _, rfl, rfl, ⟨v_deed, _, rfl, h_deed, rfl⟩⟩ Q q
  exact ⟨p_self, Z, ds, v_deed, x_deed, y, rfl, sz, hm _ _ m, h_deed, h, fun v Z2 H2 st2 m2 hv => q v Z2 H2 (st2.weak fun a h => .inl (hf a h)) (hp _ _ _ _ m st2 m2) hv⟩
def sp_Catalog_close_lost (T : Txt w K mg base) : Sp := fun vs H Q _ => ∃ (p_self : Addr) (Z0 : Hp) (ds : Catalog) (y : (Unit × Catalog)), vs = [.ref p_self] ∧ (Same Z0 H) ∧ ((mu_Catalog T p_self).m ds Z0 H) ∧ (F_Catalog_close_lost ds = some y) ∧ ∀ v Z' H', Step (mu_Catalog T p_self).fp Z0 H Z' H' → (mu_Catalog T p_self).m y.2 Z' H' → (yNon).r Z' v y.1 → Q v H'
set_option maxHeartbeats 4000000 in
theorem ok_Catalog_close_lost (T : Txt w K mg base) : FnOk P w K mg base CX0 1 T.f_Catalog_close_lost T.d_Catalog_close_lost ["self"] (sp_Catalog_close_lost T) := by
  refine T.F_Catalog_close_lost.ok sc_Catalog_close_lost (fun vs H Q E h => ?_) (fun cdv A outer s H vs Q E hr h => ?_)
  · obtain ⟨p_self, Z0, ds, y, rfl, _⟩ := h
    rfl
  · obtain ⟨p_self, Z0, ds, y, rfl, sz, hm, hF, q⟩ := h
    refine ⟨_, (pss_cons (ps_set (i := 1) sc_Catalog_close_lost.nd rfl (.inr rfl) (pe_dc (own := [("segment", 2)]) rfl sc_Catalog_close_lost.nd (pi_list (pe_fld (pe_fld (pv 0) rfl) rfl)) (blkOk_by (own := [("segment", 2)]) (N := ["self", "there", "segment", "number", "shard", "name", "title"]) (sc := defScope s_Catalog_close_lost) (by decide +kernel)) (fun _ _ _ _ _ => pg_dead) (fun _ _ _ _ _ => pts_nil) (fun _ _ _ _ _ => pe_dead) (fun _ _ _ _ _ => pe_dead))) 
      (pss_cons (ps_for PassesOwn.never rfl (pi_list (pe_fld (pv 0) rfl)) (pg_tup rfl (pgs_cons (pg_name (i := 3) sc_Catalog_close_lost.nd rfl (.inl rfl)) (pgs_cons (pg_name (i := 4) sc_Catalog_close_lost.nd rfl (.inl rfl)) (pgs_cons (pg_name (i := 5) sc_Catalog_close_lost.nd rfl (.inl rfl)) pgs_nil)))) (pss_one ps_dead)) 
      (pss_one (ps_fld (pv 0) (pe_lc (own := [("title", 6)]) (g := gName 6) rfl sc_Catalog_close_lost.nd (pi_list (pe_fld (pv 0) rfl)) (blkOk_by (own := [("title", 6)]) (N := ["self", "there", "segment", "number", "shard", "name", "title"]) (sc := defScope s_Catalog_close_lost) (by decide +kernel)) (fun _ _ _ _ _ => (pg_name (i := 6) sc_Catalog_close_lost.nd rfl (Or.inl rfl))) (fun _ _ _ _ _ => (by exact pts_one pt_dead)) (fun _ _ _ _ _ => (pv 6))) rfl)))), ?_⟩
    have P := Pt.start (mu_Catalog T p_self) sz hm
    unfold F_Catalog_close_lost at hF
    obtain ⟨g_289, hF⟩ := guard_inv hF
    refine st_seq (st_dc0 (e := (fun x => Sum.inl x)) (τ := yBool) P (ei_list (ev_fld (fo_Ledger_segments T) T.cl_Ledger T.n_Ledger_segments (ev_mfld (fun _ _ m => m) (mf_Catalog_ledger T) T.cl_Catalog T.n_Catalog_ledger rfl))) g_289 (fun p_290 Z1 H1 e P1 fr_292 o_291 => ?_))
    refine st_nx ?_
    replace P := P1
    obtain ⟨f_323, hL_324, hF⟩ := bind_inv hF
    refine st_seq (st_for (τ := (yP3 K yInt yInt yStr)) (fun (r_295 : List (Int × Int × Str)) σ' Z' H' => ∃ w_293, ∃ (y_301 : Option V) (y_302 : Option V) (y_303 : Option V) (y_304 : Option V) (y_305 : Option V), σ' = [some (.ref p_self), some (.ref p_290), y_301, y_302, y_303, y_304, y_305] ∧ Pt (mu_Catalog T p_self).fp Z0 H (mu_Catalog T p_self) Z' H' w_293 ∧ OwnD (mu_Catalog T p_self).fp H (mu_Catalog T p_self).fp Z' H' (fun x => Sum.inl x) yBool p_290 ([] : List (Int × Bool)) ∧ forF L_Catalog_close_lost_1 r_295 w_293 = some f_323) P (ei_list (ev_mfld (fun _ _ m => m) (mf_Catalog_titles T) T.cl_Catalog T.n_Catalog_titles rfl)) ?_ ?_ ?_)
    · rintro Z1 H1 e P1
      replace P := P1
      replace o_291 := o_291.next e
      exact ⟨ds, _, _, _, _, _, rfl, P, o_291, hL_324⟩
    · rintro Zb_299 Hb eb x_294 r_295 σ' v_313 Z1 H1 Z2 H2 zs_298 ⟨w_293, y_301, y_302, y_303, y_304, y_305, rfl, P, o_300, hq_297⟩ e hx_314
      replace P := P.item e
      replace o_300 := o_300.step e List.not_mem_nil
      replace zs_298 := zs_298.trans e.z
      obtain ⟨u_315, hB_296, hq_297⟩ := bind_inv (forF_cons hq_297)
      unfold L_Catalog_close_lost_1 at hB_296
      obtain ⟨v_316, v_317, v_318, k_319, k_320, k_321, tg_322⟩ := tgt_p3 hx_314
      refine (tg_322 tgt_name tgt_name tgt_name) _ P.sub _ ?_
      cases hB_296
    rintro σ' Z1 H1 _ _ ⟨w_306, y_301, y_302, y_303, y_304, y_305, rfl, P, o_307, hl⟩
    have hz := (forF_nil hl).symm
    subst hz
    refine st_nx ?_
    obtain ⟨l_331, h_332, hF⟩ := bind_inv hF
    refine st_mset (s1 := w_306) (s2 := { w_306 with titles := l_331 }) (c := w_306) (x := l_331) P (fun _ _ m => m) (fun _ h => h) (fun _ _ _ _ _ _ n => n) (ms_Catalog_titles T) T.cl_Catalog T.n_Catalog_titles rfl (ev_fz (en_fmO (υ := (yP3 K yInt yInt yStr)) (fun (x_325 : (Int × Int × Str)) => (((none : Option Bool)).bind fun b_329 =>
    if b_329 = true then (some (some x_325)) else some none : Option (Option (Int × Int × Str)))) (ei_list (ev_mfld (fun _ _ m => m) (mf_Catalog_titles T) T.cl_Catalog T.n_Catalog_titles rfl)) (fun x_325 v_327 Z' H' p zz hh rx_328 hp => by
          have hy := hp
          obtain ⟨b_329, h_330, hy⟩ := bind_inv hy
          cases hb : b_329
          · have hy := ifF hb hy
            have hy := Option.some.inj hy
            subst hy
            exact ⟨_, tgt_name, (wpe_s wpe_z (by decide)), false, hb ▸ (by cases h_330), (fun z => nomatch z), fun _ => rfl⟩
          · have hy := ifT hb hy
            have hy := Option.some.inj hy
            subst hy
            exact ⟨_, tgt_name, (wpe_s wpe_z (by decide)), true, hb ▸ (by cases h_330), fun _ => ⟨_, rfl, (ev_var (τ := (yP3 K yInt yInt yStr)) rfl rx_328)⟩, fun z => nomatch z⟩) h_332)) (fun Z1 H1 e P1 => ?_)
    replace P := P1
    replace hF := Option.some.inj hF
    subst hF
    exact q .non _ _ P.st P.m rfl
theorem cs_Catalog_close_lost (T : Txt w K mg base) {p_self : Addr} {ds : Catalog} {E : XK}  {y : Unit × Catalog} (h : F_Catalog_close_lost ds = some y) : CallS (mu_Catalog T p_self) (sp_Catalog_close_lost T) E (rac (isRef p_self) ra0) ds (ty yNon y.1) y.2 := by
  rintro Z H vs sz m ⟨_, _, rfl, rfl, rfl⟩ Q q
  exact ⟨p_self, Z, ds, y, rfl, sz, m, h, fun v Z2 H2 s2 m2 hv => q v Z2 H2 s2 m2 hv⟩
theorem cu_Catalog_close_lost (T : Txt w K mg base) {p_self : Addr} {ds : Catalog} {E : XK}  {y : Unit × Catalog} {μ : Type} {M : Mu μ} {s s2 : μ} (hm : ∀ Z H, M.m s Z H → (mu_Catalog T p_self).m ds Z H) (hf : ∀ a ∈ (mu_Catalog T p_self).fp, a ∈ M.fp) (hp : ∀ Z H Z' H', M.m s Z H → Step (mu_Catalog T p_self).fp Z H Z' H' → (mu_Catalog T p_self).m y.2 Z' H' → M.m s2 Z' H') (h : F_Catalog_close_lost ds = some y) : CallS M (sp_Catalog_close_lost T) E (rac (isRef p_self) ra0) s (ty yNon y.1) s2 := by
  rintro Z H vs sz m ⟨_, _, rfl, rfl, rfl⟩ Q q
  exact ⟨p_self, Z, ds, y, rfl, sz, hm _ _ m, h, fun v Z2 H2 st2 m2 hv => q v Z2 H2 (st2.weak fun a h => .inl (hf a h)) (hp _ _ _ _ m st2 m2) hv⟩
def sp_Catalog_apply (T : Txt w K mg base) : Sp := fun vs H Q _ => ∃ (p_self : Addr) (Z0 : Hp) (ds : (Catalog × Unit)) (v_deed : V) (x_deed : (Str × Str × Int)) (y : (Int × (Catalog × Unit))), vs = [.ref p_self, v_deed] ∧ (Same Z0 H) ∧ ((muX (mu_Catalog T p_self) (muT T.P_Catalog_route lq_Catalog_route)).m ds Z0 H) ∧ (((yP3 K yStr yStr yInt)).r Z0 v_deed x_deed) ∧ (F_Catalog_apply ds x_deed = some y) ∧ ∀ v Z' H', Step (muX (mu_Catalog T p_self) (muT T.P_Catalog_route lq_Catalog_route)).fp Z0 H Z' H' → (muX (mu_Catalog T p_self) (muT T.P_Catalog_route lq_Catalog_route)).m y.2 Z' H' → (yInt).r Z' v y.1 → Q v H'
set_option maxHeartbeats 4000000 in
theorem ok_Catalog_apply (T : Txt w K mg base) : FnOk P w K mg base CX0 6 T.f_Catalog_apply T.d_Catalog_apply ["self", "deed"] (sp_Catalog_apply T) := by
  have G_Catalog_close_lost : FnOk P w K mg base CX0 1 T.f_Catalog_close_lost T.d_Catalog_close_lost ["self"] (sp_Catalog_close_lost T) := ok_Catalog_close_lost T
  have G_Catalog_outcome_of : FnOk P w K mg base CX0 5 T.f_Catalog_outcome_of T.d_Catalog_outcome_of ["self", "deed"] (sp_Catalog_outcome_of T) := ok_Catalog_outcome_of T
  refine T.F_Catalog_apply.ok sc_Catalog_apply (fun vs H Q E h => ?_) (fun cdv A outer s H vs Q E hr h => ?_)
  · obtain ⟨p_self, Z0, ds, v_deed, x_deed, y, rfl, _⟩ := h
    rfl
  · obtain ⟨p_self, Z0, ds, v_deed, x_deed, y, rfl, sz, hm, h_deed, hF, q⟩ := h
    refine ⟨_, (pss_cons (ps_set (i := 2) sc_Catalog_apply.nd rfl (.inl rfl) (pe_meth (pv 0) T.cl_Catalog T.me_Catalog_outcome_of G_Catalog_outcome_of (hr.mono (by decide)) T.b_Catalog_outcome_of .nil pass0 (pa_cons (pv 1) pa_nil))) 
      (pss_cons (ps_expr (pe_meth0 (pv 0) T.cl_Catalog T.me_Catalog_close_lost G_Catalog_close_lost (hr.mono (by decide)) T.b_Catalog_close_lost .nil pass0)) 
      (pss_one (ps_ret (pv 2))))), ?_⟩
    have P := Pt.start (muX (mu_Catalog T p_self) (muT T.P_Catalog_route lq_Catalog_route)) sz hm
    unfold F_Catalog_apply at hF
    obtain ⟨r_339, h_340, hF⟩ := bind_inv hF
    refine st_seq (st_set P (ev_mmeth (fun Z H m => by
          obtain ⟨m0, m1, d1⟩ := m
          exact m0) (mo_Catalog T (by decide +kernel)) (cs_Catalog_outcome_of T h_340) (ev_ref rfl) (eva_cons (ev_var (τ := (yP3 K yStr yStr yInt)) rfl h_deed) eva_nil)) (fun v_341 Z1 H1 e P1 k_342 => ?_))
    refine st_nx ?_
    replace P := P1
    obtain ⟨r_343, h_344, hF⟩ := bind_inv hF
    refine st_seq (st_expr P (ev_mmeth (fun Z H m => by
          obtain ⟨m0, m1, d1⟩ := m
          exact m0) (mo_Catalog T (by decide +kernel)) (cu_Catalog_close_lost T (s := (r_339.2.1, r_339.2.2)) (s2 := (r_343.2, r_339.2.2)) (fun Z H m => by
          obtain ⟨m0, m1, d1⟩ := m
          exact m0) (fun a hb => (List.mem_append_left _ hb)) (fun Z H Z' H' m e n => by
          obtain ⟨m0, m1, d1⟩ := m
          have n0 := n
          exact ⟨n0, (Mu.keep m1 e (fun a ha hb => (fun a ha hb => d1 a hb ha) a ha hb)), d1⟩) h_344) (ev_ref rfl) eva_nil) (fun Z1 H1 e P1 => ?_))
    refine st_nx ?_
    replace P := P1
    replace hF := Option.some.inj hF
    subst hF
    refine st_ret P (ev_var (τ := yInt) rfl k_342) (fun v Z1 H1 P1 hv => ?_)
    exact q v _ _ P1.st P1.m hv
theorem cs_Catalog_apply (T : Txt w K mg base) {p_self : Addr} {ds : (Catalog × Unit)} {E : XK} {x_deed : (Str × Str × Int)} {y : Int × (Catalog × Unit)} (h : F_Catalog_apply ds x_deed = some y) : CallS (muX (mu_Catalog T p_self) (muT T.P_Catalog_route lq_Catalog_route)) (sp_Catalog_apply T) E (rac (isRef p_self) (rac (ty (yP3 K yStr yStr yInt) x_deed) ra0)) ds (ty yInt y.1) y.2 := by
  rintro Z H vs sz m ⟨_, _, rfl, rfl, ⟨v_deed, _, rfl, h_deed, rfl⟩⟩ Q q
  exact ⟨p_self, Z, ds, v_deed, x_deed, y, rfl, sz, m, h_deed, h, fun v Z2 H2 s2 m2 hv => q v Z2 H2 s2 m2 hv⟩
theorem cu_Catalog_apply (T : Txt w K mg base) {p_self : Addr} {ds : (Catalog × Unit)} {E : XK} {x_deed : (Str × Str × Int)} {y : Int × (Catalog × Unit)} {μ : Type} {M : Mu μ} {s s2 : μ} (hm : ∀ Z H, M.m s Z H → (muX (mu_Catalog T p_self) (muT T.P_Catalog_route lq_Catalog_route)).m ds Z H) (hf : ∀ a ∈ (muX (mu_Catalog T p_self) (muT T.P_Catalog_route lq_Catalog_route)).fp, a ∈ M.fp) (hp : ∀ Z H Z' H', M.m s Z H → Step (muX (mu_Catalog T p_self) (muT T.P_Catalog_route lq_Catalog_route)).fp Z H Z' H' → (muX (mu_Catalog T p_self) (muT T.P_Catalog_route lq_Catalog_route)).m y.2 Z' H' → M.m s2 Z' H') (h : F_Catalog_apply ds x_deed = some y) : CallS M (sp_Catalog_apply T) E (rac (isRef p_self) (rac (ty (yP3 K yStr yStr yInt) x_deed) ra0)) s (ty yInt y.1) s2 := by
  rintro Z H vs sz m ⟨_, _, rfl, rfl, ⟨v_deed, _, rfl, h_deed, rfl⟩⟩ Q q
  exact ⟨p_self, Z, ds, v_deed, x_deed, y, rfl, sz, hm _ _ m, h_deed, h, fun v Z2 H2 st2 m2 hv => q v Z2 H2 (st2.weak fun a h => .inl (hf a h)) (hp _ _ _ _ m st2 m2) hv⟩
def sp_law (K : PySem.W.Frag) (P_Catalog_route : Addr) : Sp := fun vs H Q _ => ∃ (a : Addr) (ns : List Int), vs = [.ref a] ∧ (SqL K H a (ns.map V.int)) ∧ (ns.length ≤ 63) ∧ (H P_Catalog_route = some (.tbl #[])) ∧ ∀ H', Q (.bl true) H'
set_option maxHeartbeats 8000000 in
theorem ok_law (T : Txt w K mg base) : FnOk P w K mg base CX0 7 T.f_law T.d_law ["script"] (sp_law K T.P_Catalog_route) := by
  have G_Catalog_shard_of : FnOk P w K mg base CX0 1 T.f_Catalog_shard_of T.d_Catalog_shard_of ["self", "name"] (sp_Catalog_shard_of T) := ok_Catalog_shard_of T
  have G_law_due : FnOk P w K mg base CX0 1 T.f_law_due T.d_law_due ["routes", "name"] (sp_law_due T) := ok_law_due T
  have G_law_word : FnOk P w K mg base CX0 3 T.f_law_word T.d_law_word ["state"] (sp_law_word T) := ok_law_word T
  have G_law_next : FnOk P w K mg base CX0 2 T.f_law_next T.d_law_next ["state", "many"] (sp_law_next T) := ok_law_next T
  have G_Catalog_apply : FnOk P w K mg base CX0 6 T.f_Catalog_apply T.d_Catalog_apply ["self", "deed"] (sp_Catalog_apply T) := ok_Catalog_apply T
  have G_Schema___init__ : FnOk P w K mg base (L2.CX P w) 4 T.f_Schema___init__ T.d_Schema___init__ ["self", "size", "width", "measure", "fields"] (sp_Schema___init__ T) := ok_Schema___init__ T
  have G_Catalog___init__ : FnOk P w K mg base (L2.CX P w) 4 T.f_Catalog___init__ T.d_Catalog___init__ ["self", "schema", "key", "shard"] (sp_Catalog___init__ T) := ok_Catalog___init__ T
  refine T.F_law.ok sc_law (fun vs H Q E h => ?_) (fun cdv A outer s H vs Q E hr h => ?_)
  · obtain ⟨a, ns, rfl, _⟩ := h
    rfl
  · obtain ⟨a, ns, rfl, hA, hlen, ht_Catalog_route, q⟩ := h
    refine ⟨_, (pss_cons (ps_set (i := 1) sc_law.nd rfl (.inl rfl) (pe_lst (pa_cons (pe_callTy call_list_of (by rfl) T.m_list (by decide +kernel) (pa_cons (pv 0) pa_nil)) (pa_cons pe_int (pa_cons pe_int pa_nil))))) 
      (pss_cons (ps_set (i := 2) sc_law.nd rfl (.inl rfl) (pe_make T.mk_Catalog G_Catalog___init__ (hr.mono (by decide)) (by rfl) T.mc_Catalog T.b_Catalog___init__ .nil passL (pa_cons (pe_make T.mk_Schema G_Schema___init__ (hr.mono (by decide)) (by rfl) T.mc_Schema T.b_Schema___init__ T.v_Schema___init__ passL (pa_cons pe_int pa_nil)) (pa_cons (pe_tup (pa_cons pe_int (pa_cons pe_int pa_nil))) (pa_cons pe_int pa_nil))))) 
      (pss_cons (ps_set (i := 3) sc_law.nd rfl (.inl rfl) (pe_lst (pa_cons (pe_tup (pa_cons pe_str (pa_cons pe_int pa_nil))) pa_nil))) 
      (pss_cons (ps_for PassesOwn.never rfl (pi_range1 rfl T.m_range (pa_cons (pe_call G_law_next (hr.mono (by decide)) (by rfl) T.g_law_next T.F_law_next.kp T.b_law_next .nil pass0 (pa_cons (pv 1) (pa_cons pe_int pa_nil))) pa_nil)) (pg_name (i := 4) sc_law.nd rfl (.inl rfl)) (pss_cons (ps_set (i := 5) sc_law.nd rfl (.inr rfl) (pe_call G_law_word (hr.mono (by decide)) (by rfl) T.g_law_word T.F_law_word.kp T.b_law_word .nil pass0 (pa_cons (pv 1) pa_nil))) 
      (pss_cons (ps_set (i := 6) sc_law.nd rfl (.inl rfl) (pe_call G_law_next (hr.mono (by decide)) (by rfl) T.g_law_next T.F_law_next.kp T.b_law_next .nil pass0 (pa_cons (pv 1) (pa_cons pe_int pa_nil)))) 
      (pss_cons (ps_set (i := 3) sc_law.nd rfl (.inl rfl) (pe_op op_cat (pe_lc (own := [("row", 7)]) (g := gName 7) rfl sc_law.nd (pi_list (pv 3)) (blkOk_by (own := [("row", 7)]) (N := ["script", "state", "catalog", "routes", "turn", "low", "shard", "row", "name"]) (sc := defScope s_law) (by decide +kernel)) (fun _ _ _ _ _ => (pg_name (i := 7) sc_law.nd rfl (Or.inl rfl))) (fun _ _ _ _ _ => (by exact pts_one (pt_cmpR op_ne (pe_ix (r := rIxT K) (by exact ix_tup) (pv 7) pe_int (fun _ _ => rfl)) (pv 5) (nomark _)))) (fun _ _ _ _ _ => (pv 7))) (pe_lst (pa_cons (pe_tup (pa_cons (pv 5) (pa_cons (pv 6) pa_nil))) pa_nil)))) 
      (pss_one (ps_if (pt_cmpR op_ne (pe_meth (pv 2) T.cl_Catalog T.me_Catalog_apply G_Catalog_apply (hr.mono (by decide)) T.b_Catalog_apply .nil pass0 (pa_cons (pe_tup (pa_cons pe_str (pa_cons (pv 5) (pa_cons (pv 6) pa_nil)))) pa_nil)) (pv 6) (nomark _)) (pss_one (ps_ret pe_bl)) pss_nil)))))) 
      (pss_cons (ps_if (PW.pt (pw_or (pt_cmpR (op_neD hr.units) (pe_fld (pv 2) rfl) (pe_callB (r := SLam.rSortD K) (by exact SLam.cr_sortedD hr) (by rfl) T.m_sorted (by decide +kernel) (pa_cons (pv 3) pa_nil)) (nomark _)) (pw_or (pt_cmpR (op_neD hr.units) (pe_fld (pv 2) rfl) (pe_lst pa_nil) (nomark _)) (pw_or (pt_cmpR (op_neD hr.units) (pe_fld (pv 2) rfl) (pe_lst pa_nil) (nomark _)) (pw_or1 (pt_cmpR op_ne (pe_fld (pv 2) rfl) pe_int (nomark _))))))) (pss_one (ps_ret pe_bl)) pss_nil) 
      (pss_cons (ps_for PassesOwn.never rfl (pi_range1 rfl T.m_range (pa_cons pe_int pa_nil)) (pg_name (i := 4) sc_law.nd rfl (.inl rfl)) (pss_cons (ps_set (i := 8) sc_law.nd rfl (.inl rfl) (pe_op op_add_str (pe_call G_law_word (hr.mono (by decide)) (by rfl) T.g_law_word T.F_law_word.kp T.b_law_word .nil pass0 (pa_cons (pv 1) pa_nil)) (pe_call G_law_word (hr.mono (by decide)) (by rfl) T.g_law_word T.F_law_word.kp T.b_law_word .nil pass0 (pa_cons (pv 1) pa_nil)))) 
      (pss_one (ps_if (pt_cmpR op_ne (pe_meth (pv 2) T.cl_Catalog T.me_Catalog_shard_of G_Catalog_shard_of (hr.mono (by decide)) T.b_Catalog_shard_of .nil pass0 (pa_cons (pv 8) pa_nil)) (pe_call G_law_due (hr.mono (by decide)) (by rfl) T.g_law_due T.F_law_due.kp T.b_law_due .nil pass0 (pa_cons (pv 3) (pa_cons (pv 8) pa_nil))) (nomark _)) (pss_one (ps_ret pe_bl)) pss_nil)))) 
      (pss_one (ps_ret (pe_and (pe_cmpR op_eq (pe_meth (pv 2) T.cl_Catalog T.me_Catalog_shard_of G_Catalog_shard_of (hr.mono (by decide)) T.b_Catalog_shard_of .nil pass0 (pa_cons pe_str pa_nil)) (pe_call G_law_due (hr.mono (by decide)) (by rfl) T.g_law_due T.F_law_due.kp T.b_law_due .nil pass0 (pa_cons (pv 3) (pa_cons pe_str pa_nil))) (nomark _)) (pe_one (pe_cmpR op_eq (pe_fld (pe_fld (pv 2) rfl) rfl) pe_int (nomark _)))))))))))), ?_⟩
    have hF := law_true ns hlen
    unfold F_law at hF
    refine st_norm (by dsimp only [List.set, L2.start, List.map, List.length, List.replicate, List.cons_append, List.nil_append, Nat.reduceSub, Nat.reduceAdd]) ?_
    refine st_seq ?_
    refine st_drawsT (q := lq_Catalog_route) ht_Catalog_route hA hlen (fun st sc Z0 Z1 H1 P => ?_)
    refine st_nx ?_
    refine st_norm (by dsimp only [List.set, L2.start, List.map, List.length, List.replicate, List.cons_append, List.nil_append, Nat.reduceSub, Nat.reduceAdd]) ?_
    obtain ⟨r_345, h_346, hF⟩ := bind_inv hF
    obtain ⟨r_347, h_348, hF⟩ := bind_inv hF
    obtain ⟨x_catalog_351, h_352, hF⟩ := bind_inv hF
    replace h_352 := Option.some.inj h_352
    refine st_seq (st_setM (x := x_catalog_351) P (by rw [← h_352]; exact (ev_makeM (im_Catalog___init__ T (val_inv h_348)) (eva_cons (ev_makeD (is_Schema___init__ T (val_inv h_346)) (eva_cons ev_int eva_nil) (fun Z H vs hh => by
          obtain ⟨v0, _, rfl, h0, rfl⟩ := hh
          exact ⟨v0, _, rfl, h0, ⟨_, _, rfl, ⟨rfl, by decide +kernel⟩, ⟨_, _, rfl, ⟨rfl, by decide +kernel⟩, ⟨_, _, rfl, ⟨_, [], rfl, T.et_Schema___init___fields Z, .nil, Nat.zero_le _⟩, rfl⟩⟩⟩⟩)) (eva_cons (ev_tupD (K := K) (eva_conss ev_int (eva_conss ev_int (eva_nils (τ := yInt)))) (by show 2 ≤ sizeLine; decide)) (eva_cons ev_int eva_nil))))) (fun p_catalog_350 Z1 H1 e fr P1 => ?_))
    refine st_nx ?_
    replace P := P1
    refine st_norm (by dsimp only [List.set, L2.start, List.map, List.length, List.replicate, List.cons_append, List.nil_append, Nat.reduceSub, Nat.reduceAdd]) ?_
    obtain ⟨x_routes_353, h_354, hF⟩ := bind_inv hF
    replace h_354 := Option.some.inj h_354
    refine st_seq (st_set P (ev_cast (ev_fz (en_listD (eva_conss (ev_p2 (K := K) (eva_cons ev_str (eva_cons ev_int eva_nil))) (eva_nils (τ := (yP2 K yStr yInt)))) (by show 1 ≤ sizeLine; decide))) h_354) (fun v_355 Z1 H1 e P1 k_356 => ?_))
    refine st_nx ?_
    replace P := P1
    refine st_norm (by dsimp only [List.set, L2.start, List.map, List.length, List.replicate, List.cons_append, List.nil_append, Nat.reduceSub, Nat.reduceAdd]) ?_
    obtain ⟨g_357, hF⟩ := guard_inv hF
    obtain ⟨f_407, hL_408, hF⟩ := bind_inv hF
    refine st_seq (st_for (τ := yInt) (fun (r_360 : List Int) σ' Z' H' => ∃ w_358, ∃ (y_365 : Option V) (v_366 : V) (y_368 : Option V) (y_369 : Option V) (y_370 : Option V) (y_371 : Option V) (y_372 : Option V), σ' = [y_365, some (.ref st), some (.ref p_catalog_350), some v_366, y_368, y_369, y_370, y_371, y_372] ∧ Pt [T.P_Catalog_route] Z0 H (muX (muX (muD st sc) (muT T.P_Catalog_route lq_Catalog_route)) (mu_Catalog T p_catalog_350)) Z' H' w_358.2 ∧ ((yList (yP2 K yStr yInt))).r Z' v_366 w_358.1 ∧ forS L_law_1 r_360 w_358 = some f_407) P (ei_rng1 (ev_call (cu__law_next T (s := (((DS.mk ns 0 0), ()), x_catalog_351)) (s2 := (((nxS (DS.mk ns 0 0) (11 : Int)), ()), x_catalog_351)) (ds := (DS.mk ns 0 0)) (fun Z H m => by
          obtain ⟨⟨m0, m1, d1⟩, m2, d2⟩ := m
          exact m0) (fun a hb => (List.mem_append_left _ (List.mem_append_left _ hb))) (fun Z H Z' H' m e n => by
          obtain ⟨⟨m0, m1, d1⟩, m2, d2⟩ := m
          have n0 := n
          exact ⟨⟨n0, (Mu.keep m1 e (fun a ha hb => (fun a ha hb => d1 a hb ha) a ha hb)), d1⟩, (Mu.keep m2 e (fun a ha hb => (fun a ha hb => d2 a (List.mem_append_left _ hb) ha) a ha hb)), d2⟩) (by decide +kernel)) (eva_cons (ev_ref rfl) (eva_cons ev_int eva_nil))) g_357) ?_ ?_ ?_)
    · rintro Z1 H1 e P1
      replace P := P1
      replace k_356 := ((yList (yP2 K yStr yInt))).mono e.z k_356
      exact ⟨(x_routes_353, (((nxS (DS.mk ns 0 0) (11 : Int)), ()), x_catalog_351)), _, _, _, _, _, _, _, rfl, P, k_356, hL_408⟩
    · rintro Zb_364 Hb eb x_359 r_360 σ' v_382 Z1 H1 Z2 H2 zs_363 ⟨w_358, y_365, v_366, y_368, y_369, y_370, y_371, y_372, rfl, P, k_367, hq_362⟩ e hx_383
      replace P := P.item e
      replace k_367 := ((yList (yP2 K yStr yInt))).mono e.z k_367
      replace zs_363 := zs_363.trans e.z
      obtain ⟨u_384, hB_361, hq_362⟩ := bind_inv (forS_cons hq_362)
      unfold L_law_1 at hB_361
      refine tgt_name _ P.sub _ ?_
      refine st_norm (by dsimp only [List.set, L2.start, List.map, List.length, List.replicate, List.cons_append, List.nil_append, Nat.reduceSub, Nat.reduceAdd]) ?_
      obtain ⟨r_385, h_386, hB_361⟩ := bind_inv hB_361
      refine st_seq (st_set P (ev_call (cu_law_word T (s := ((w_358.2.1.1, w_358.2.1.2), w_358.2.2)) (s2 := ((r_385.2, w_358.2.1.2), w_358.2.2)) (fun Z H m => by
            obtain ⟨⟨m0, m1, d1⟩, m2, d2⟩ := m
            exact m0) (fun a hb => (List.mem_append_left _ (List.mem_append_left _ hb))) (fun Z H Z' H' m e n => by
            obtain ⟨⟨m0, m1, d1⟩, m2, d2⟩ := m
            have n0 := n
            exact ⟨⟨n0, (Mu.keep m1 e (fun a ha hb => (fun a ha hb => d1 a hb ha) a ha hb)), d1⟩, (Mu.keep m2 e (fun a ha hb => (fun a ha hb => d2 a (List.mem_append_left _ hb) ha) a ha hb)), d2⟩) h_386) (eva_cons (ev_ref rfl) eva_nil)) (fun v_387 Z1 H1 e P1 k_388 => ?_))
      refine st_nx ?_
      replace P := P1
      replace k_367 := ((yList (yP2 K yStr yInt))).mono e.z k_367
      replace zs_363 := zs_363.trans e.z
      refine st_norm (by dsimp only [List.set, L2.start, List.map, List.length, List.replicate, List.cons_append, List.nil_append, Nat.reduceSub, Nat.reduceAdd]) ?_
      refine st_seq (st_set P (ev_call (cu__law_next T (s := ((r_385.2, w_358.2.1.2), w_358.2.2)) (s2 := (((nxS r_385.2 (5 : Int)), w_358.2.1.2), w_358.2.2)) (ds := r_385.2) (fun Z H m => by
            obtain ⟨⟨m0, m1, d1⟩, m2, d2⟩ := m
            exact m0) (fun a hb => (List.mem_append_left _ (List.mem_append_left _ hb))) (fun Z H Z' H' m e n => by
            obtain ⟨⟨m0, m1, d1⟩, m2, d2⟩ := m
            have n0 := n
            exact ⟨⟨n0, (Mu.keep m1 e (fun a ha hb => (fun a ha hb => d1 a hb ha) a ha hb)), d1⟩, (Mu.keep m2 e (fun a ha hb => (fun a ha hb => d2 a (List.mem_append_left _ hb) ha) a ha hb)), d2⟩) (by decide +kernel)) (eva_cons (ev_ref rfl) (eva_cons ev_int eva_nil))) (fun v_389 Z1 H1 e P1 k_390 => ?_))
      refine st_nx ?_
      replace P := P1
      replace k_367 := ((yList (yP2 K yStr yInt))).mono e.z k_367
      replace zs_363 := zs_363.trans e.z
      refine st_norm (by dsimp only [List.set, L2.start, List.map, List.length, List.replicate, List.cons_append, List.nil_append, Nat.reduceSub, Nat.reduceAdd]) ?_
      obtain ⟨g_399, hB_361⟩ := guard_inv hB_361
      obtain ⟨x_routes_400, h_401, hB_361⟩ := bind_inv hB_361
      replace h_401 := Option.some.inj h_401
      refine st_seq (st_set P (ev_cast (ev_fz (en_cat (ev_li (ev_fz (en_cast (en_fil (υ := (yP2 K yStr yInt)) (fun (x_395 : (Str × Int)) => (!decide (x_395.1 = r_385.1))) (fun (x_395 : (Str × Int)) => x_395) (ei_list (ev_var (τ := (yList (yP2 K yStr yInt))) rfl k_367)) (fun x_395 v_397 Z' H' zz hh rx_398 => by
            exact ⟨_, tgt_name, (wpe_s wpe_z (by decide)), (et_cmp (ev_ne flat_str (ev_cast (ev_part po2_0 (ev_var (τ := (yP2 K yStr yInt)) rfl rx_398) ev_int) rfl) (ev_var (τ := yStr) rfl k_388))), (ev_var (τ := (yP2 K yStr yInt)) rfl rx_398)⟩)) (List.map_id' _)))) (ev_li (ev_fz (en_listD (eva_conss (ev_p2 (K := K) (eva_cons (ev_var (τ := yStr) rfl k_388) (eva_cons (ev_var (τ := yInt) rfl k_390) eva_nil))) (eva_nils (τ := (yP2 K yStr yInt)))) (by show 1 ≤ sizeLine; decide)))) g_399)) h_401) (fun v_402 Z1 H1 e P1 k_403 => ?_))
      refine st_nx ?_
      replace P := P1
      replace zs_363 := zs_363.trans e.z
      refine st_norm (by dsimp only [List.set, L2.start, List.map, List.length, List.replicate, List.cons_append, List.nil_append, Nat.reduceSub, Nat.reduceAdd]) ?_
      obtain ⟨r_404, h_405, hB_361⟩ := bind_inv hB_361
      refine st_if P (et_cmp (ev_ne flat_int (ev_mmeth (fun Z H m => by
            obtain ⟨⟨m0, m1, d1⟩, m2, d2⟩ := m
            exact m2) (mo_Catalog T (by decide +kernel)) (cu_Catalog_apply T (s := (((nxS r_385.2 (5 : Int)), w_358.2.1.2), w_358.2.2)) (s2 := (((nxS r_385.2 (5 : Int)), r_404.2.2), r_404.2.1)) (fun Z H m => by
            obtain ⟨⟨m0, m1, d1⟩, m2, d2⟩ := m
            exact ⟨m2, m1, (fun a ha hb => (fun a ha hb => d2 a (List.mem_append_right _ hb) ha) a ha hb)⟩) (fun a hb => ((List.mem_append.mp hb).elim (fun hb => (List.mem_append_right _ hb)) (fun hb => (List.mem_append_left _ (List.mem_append_right _ hb))))) (fun Z H Z' H' m e n => by
            obtain ⟨⟨m0, m1, d1⟩, m2, d2⟩ := m
            obtain ⟨n0, n1, _⟩ := n
            exact ⟨⟨(Mu.keep m0 e (fun a ha hb => ((List.mem_append.mp hb).elim (fun hb => (fun a ha => d2 a (List.mem_append_left _ ha)) a ha hb) (fun hb => (fun a ha => d1 a ha) a ha hb)))), n1, d1⟩, n0, d2⟩) h_405) (ev_ref rfl) (eva_cons (ev_p3 (K := K) (eva_cons ev_str (eva_cons (ev_var (τ := yStr) rfl k_388) (eva_cons (ev_var (τ := yInt) rfl k_390) eva_nil)))) eva_nil)) (ev_var (τ := yInt) rfl k_390))) (fun b_406 Z1 H1 e P1 => ?_) (fun b_406 Z1 H1 e P1 => ?_)
      · replace P := P1
        have hB := ifT b_406 hB_361
        replace hB_361 := hB
        clear hB
        replace zs_363 := zs_363.trans e.z
        refine st_norm (by dsimp only [List.set, L2.start, List.map, List.length, List.replicate, List.cons_append, List.nil_append, Nat.reduceSub, Nat.reduceAdd]) ?_
        replace hB_361 := Option.some.inj hB_361
        subst hB_361
        have hz := nxt_ret hq_362
        subst hz
        have hz := ret_inv hF
        have hb := Option.some.inj hz
        refine st_ret P ev_bl (fun v Z H P hv => ?_)
        have hv2 : v = V.bl _ := hv
        rw [hb] at hv2
        rw [hv2]
        exact q _
      · replace P := P1
        have hB := ifF b_406 hB_361
        replace hB_361 := hB
        clear hB
        refine st_next ?_
        replace k_403 := ((yList (yP2 K yStr yInt))).mono e.z k_403
        replace zs_363 := zs_363.trans e.z
        replace hB_361 := Option.some.inj hB_361
        subst hB_361
        exact ⟨_, zs_363, P.sub, (x_routes_400, (((nxS r_385.2 (5 : Int)), r_404.2.2), r_404.2.1)), _, _, _, _, _, _, _, rfl, P, k_403, (nxt_go hq_362)⟩
    rintro σ' Z1 H1 _ _ ⟨w_373, y_365, v_375, y_368, y_369, y_370, y_371, y_372, rfl, P, k_376, hl⟩
    have hz := forS_nil hl
    subst hz
    replace hF := go_inv hF
    refine st_nx ?_
    refine st_norm (by dsimp only [List.set, L2.start, List.map, List.length, List.replicate, List.cons_append, List.nil_append, Nat.reduceSub, Nat.reduceAdd]) ?_
    obtain ⟨b_412, h_411, hF⟩ := bind_inv hF
    refine st_seq (st_if P (et_or (et_cmp (ev_neD (eqd_list (eqd_p2 eqd_str eqd_int)) (by decide) (ev_mfld (fun Z H m => by
          obtain ⟨⟨m0, m1, d1⟩, m2, d2⟩ := m
          exact m2) (mf_Catalog_routes T) T.cl_Catalog T.n_Catalog_routes rfl) (ev_fz (en_sortD (d := (fun x => PyData.tuple [PyData.str x.1, PyData.int x.2])) (keyd_p2 keys_str keys_int) (ev_li (ev_var (τ := (yList (yP2 K yStr yInt))) rfl k_376)))))) (fun _ y s' hy => by
          obtain ⟨b_410, h_409, hy⟩ := bind_inv hy
          have hy := Option.some.inj hy
          first | subst hy | (obtain ⟨rfl, rfl⟩ := Prod.mk.inj hy)
          exact (et_or (et_cmp (ev_neD (eqd_list (eqd_p2 eqd_int eqd_str)) (by decide) (ev_mfld (fun Z H m => by
                obtain ⟨⟨m0, m1, d1⟩, m2, d2⟩ := m
                exact m2) (mf_Catalog_closed T) T.cl_Catalog T.n_Catalog_closed rfl) (ev_fz (en_listD (eva_nils (τ := (yP2 K yInt yStr))) (by show 0 ≤ sizeLine; decide))))) (fun _ y s' hy => by
                have hy := Option.some.inj hy
                first | subst hy | (obtain ⟨rfl, rfl⟩ := Prod.mk.inj hy)
                exact (et_or0 (et_cmp (ev_neD (eqd_list (eqd_p3 eqd_int eqd_int eqd_str)) (by decide) (ev_mfld (fun Z H m => by
                      obtain ⟨⟨m0, m1, d1⟩, m2, d2⟩ := m
                      exact m2) (mf_Catalog_titles T) T.cl_Catalog T.n_Catalog_titles rfl) (ev_fz (en_listD (eva_nils (τ := (yP3 K yInt yInt yStr))) (by show 0 ≤ sizeLine; decide))))) (et_cmp (ev_ne flat_int (ev_mfld (fun Z H m => by
                      obtain ⟨⟨m0, m1, d1⟩, m2, d2⟩ := m
                      exact m2) (mf_Catalog_begins T) T.cl_Catalog T.n_Catalog_begins rfl) ev_int)))) (h_409 : _ = some (b_410.1, b_410.2)))) (h_411 : _ = some (b_412.1, b_412.2))) (fun b_413 Z1 H1 e P1 => ?_) (fun b_413 Z1 H1 e P1 => ?_))
    · replace P := P1
      have hB := ifT b_413 hF
      replace hF := hB
      clear hB
      refine st_norm (by dsimp only [List.set, L2.start, List.map, List.length, List.replicate, List.cons_append, List.nil_append, Nat.reduceSub, Nat.reduceAdd]) ?_
      have hb := Option.some.inj hF
      refine st_ret P ev_bl (fun v Z H P hv => ?_)
      have hv2 : v = V.bl _ := hv
      rw [hb] at hv2
      rw [hv2]
      exact q _
    · replace P := P1
      have hB := ifF b_413 hF
      replace hF := hB
      clear hB
      refine st_next0 ?_
      replace k_376 := ((yList (yP2 K yStr yInt))).mono e.z k_376
      refine st_norm (by dsimp only [List.set, L2.start, List.map, List.length, List.replicate, List.cons_append, List.nil_append, Nat.reduceSub, Nat.reduceAdd]) ?_
      obtain ⟨f_453, hL_454, hF⟩ := bind_inv hF
      refine st_seq (st_for (τ := yInt) (fun (r_416 : List Int) σ' Z' H' => ∃ w_414, ∃ (y_421 : Option V) (y_423 : Option V) (y_424 : Option V) (y_425 : Option V) (y_426 : Option V) (y_427 : Option V), σ' = [y_421, some (.ref st), some (.ref p_catalog_350), some v_375, y_423, y_424, y_425, y_426, y_427] ∧ Pt [T.P_Catalog_route] Z0 H (muX (muX (muD st sc) (muT T.P_Catalog_route lq_Catalog_route)) (mu_Catalog T p_catalog_350)) Z' H' w_414 ∧ ((yList (yP2 K yStr yInt))).r Z' v_375 w_373.1 ∧ forS (L_law_2 w_373) r_416 w_414 = some f_453) P (ei_rng1 ev_int (by decide)) ?_ ?_ ?_)
      · rintro Z1 H1 e P1
        replace P := P1
        replace k_376 := ((yList (yP2 K yStr yInt))).mono e.z k_376
        exact ⟨((b_412.2.1.1, b_412.2.1.2), b_412.2.2), _, _, _, _, _, _, rfl, P, k_376, hL_454⟩
      · rintro Zb_420 Hb eb x_415 r_416 σ' v_436 Z1 H1 Z2 H2 zs_419 ⟨w_414, y_421, y_423, y_424, y_425, y_426, y_427, rfl, P, k_422, hq_418⟩ e hx_437
        replace P := P.item e
        replace k_422 := ((yList (yP2 K yStr yInt))).mono e.z k_422
        replace zs_419 := zs_419.trans e.z
        obtain ⟨u_438, hB_417, hq_418⟩ := bind_inv (forS_cons hq_418)
        unfold L_law_2 at hB_417
        refine tgt_name _ P.sub _ ?_
        refine st_norm (by dsimp only [List.set, L2.start, List.map, List.length, List.replicate, List.cons_append, List.nil_append, Nat.reduceSub, Nat.reduceAdd]) ?_
        obtain ⟨r_441, h_442, hB_417⟩ := bind_inv hB_417
        obtain ⟨r_443, h_444, hB_417⟩ := bind_inv hB_417
        obtain ⟨g_445, hB_417⟩ := guard_inv hB_417
        refine st_seq (st_set P (ev_cat_str (ev_call (cu_law_word T (s := ((w_414.1.1, w_414.1.2), w_414.2)) (s2 := ((r_441.2, w_414.1.2), w_414.2)) (fun Z H m => by
              obtain ⟨⟨m0, m1, d1⟩, m2, d2⟩ := m
              exact m0) (fun a hb => (List.mem_append_left _ (List.mem_append_left _ hb))) (fun Z H Z' H' m e n => by
              obtain ⟨⟨m0, m1, d1⟩, m2, d2⟩ := m
              have n0 := n
              exact ⟨⟨n0, (Mu.keep m1 e (fun a ha hb => (fun a ha hb => d1 a hb ha) a ha hb)), d1⟩, (Mu.keep m2 e (fun a ha hb => (fun a ha hb => d2 a (List.mem_append_left _ hb) ha) a ha hb)), d2⟩) h_442) (eva_cons (ev_ref rfl) eva_nil)) (ev_call (cu_law_word T (s := ((r_441.2, w_414.1.2), w_414.2)) (s2 := ((r_443.2, w_414.1.2), w_414.2)) (fun Z H m => by
              obtain ⟨⟨m0, m1, d1⟩, m2, d2⟩ := m
              exact m0) (fun a hb => (List.mem_append_left _ (List.mem_append_left _ hb))) (fun Z H Z' H' m e n => by
              obtain ⟨⟨m0, m1, d1⟩, m2, d2⟩ := m
              have n0 := n
              exact ⟨⟨n0, (Mu.keep m1 e (fun a ha hb => (fun a ha hb => d1 a hb ha) a ha hb)), d1⟩, (Mu.keep m2 e (fun a ha hb => (fun a ha hb => d2 a (List.mem_append_left _ hb) ha) a ha hb)), d2⟩) h_444) (eva_cons (ev_ref rfl) eva_nil)) g_445) (fun v_446 Z1 H1 e P1 k_447 => ?_))
        refine st_nx ?_
        replace P := P1
        replace k_422 := ((yList (yP2 K yStr yInt))).mono e.z k_422
        replace zs_419 := zs_419.trans e.z
        refine st_norm (by dsimp only [List.set, L2.start, List.map, List.length, List.replicate, List.cons_append, List.nil_append, Nat.reduceSub, Nat.reduceAdd]) ?_
        obtain ⟨r_448, h_449, hB_417⟩ := bind_inv hB_417
        obtain ⟨r_450, h_451, hB_417⟩ := bind_inv hB_417
        refine st_if P (et_cmp (ev_ne flat_int (ev_mmeth (fun Z H m => by
              obtain ⟨⟨m0, m1, d1⟩, m2, d2⟩ := m
              exact m2) (mo_Catalog T (by decide +kernel)) (cu_Catalog_shard_of T (s := ((r_443.2, w_414.1.2), w_414.2)) (s2 := ((r_443.2, w_414.1.2), w_414.2)) (fun Z H m => by
              obtain ⟨⟨m0, m1, d1⟩, m2, d2⟩ := m
              exact m2) (fun a hb => (List.mem_append_right _ hb)) (fun Z H Z' H' m e n => by
              obtain ⟨⟨m0, m1, d1⟩, m2, d2⟩ := m
              have n0 := n
              exact ⟨⟨(Mu.keep m0 e (fun a ha hb => (fun a ha => d2 a (List.mem_append_left _ ha)) a ha hb)), (Mu.keep m1 e (fun a ha hb => (fun a ha => d2 a (List.mem_append_right _ ha)) a ha hb)), d1⟩, n0, d2⟩) h_449) (ev_ref rfl) (eva_cons (ev_var (τ := yStr) rfl k_447) eva_nil)) (ev_call (cs_law_due T h_451) (eva_cons (ev_var (τ := (yList (yP2 K yStr yInt))) rfl k_422) (eva_cons (ev_var (τ := yStr) rfl k_447) eva_nil))))) (fun b_452 Z1 H1 e P1 => ?_) (fun b_452 Z1 H1 e P1 => ?_)
        · replace P := P1
          have hB := ifT b_452 hB_417
          replace hB_417 := hB
          clear hB
          replace zs_419 := zs_419.trans e.z
          refine st_norm (by dsimp only [List.set, L2.start, List.map, List.length, List.replicate, List.cons_append, List.nil_append, Nat.reduceSub, Nat.reduceAdd]) ?_
          replace hB_417 := Option.some.inj hB_417
          subst hB_417
          have hz := nxt_ret hq_418
          subst hz
          have hz := ret_inv hF
          have hb := Option.some.inj hz
          refine st_ret P ev_bl (fun v Z H P hv => ?_)
          have hv2 : v = V.bl _ := hv
          rw [hb] at hv2
          rw [hv2]
          exact q _
        · replace P := P1
          have hB := ifF b_452 hB_417
          replace hB_417 := hB
          clear hB
          refine st_next ?_
          replace k_422 := ((yList (yP2 K yStr yInt))).mono e.z k_422
          replace zs_419 := zs_419.trans e.z
          replace hB_417 := Option.some.inj hB_417
          subst hB_417
          exact ⟨_, zs_419, P.sub, ((r_443.2, w_414.1.2), w_414.2), _, _, _, _, _, _, rfl, P, k_422, (nxt_go hq_418)⟩
      rintro σ' Z1 H1 _ _ ⟨w_428, y_421, y_423, y_424, y_425, y_426, y_427, rfl, P, k_430, hl⟩
      have hz := forS_nil hl
      subst hz
      replace hF := go_inv hF
      refine st_nx ?_
      refine st_norm (by dsimp only [List.set, L2.start, List.map, List.length, List.replicate, List.cons_append, List.nil_append, Nat.reduceSub, Nat.reduceAdd]) ?_
      obtain ⟨r_455, h_456, hF⟩ := bind_inv hF
      obtain ⟨r_457, h_458, hF⟩ := bind_inv hF
      have hb := Option.some.inj hF
      refine st_ret P (ev_and0 (ev_eq flat_int (ev_mmeth (fun Z H m => by
            obtain ⟨⟨m0, m1, d1⟩, m2, d2⟩ := m
            exact m2) (mo_Catalog T (by decide +kernel)) (cu_Catalog_shard_of T (s := ((w_428.1.1, w_428.1.2), w_428.2)) (s2 := ((w_428.1.1, w_428.1.2), w_428.2)) (fun Z H m => by
            obtain ⟨⟨m0, m1, d1⟩, m2, d2⟩ := m
            exact m2) (fun a hb => (List.mem_append_right _ hb)) (fun Z H Z' H' m e n => by
            obtain ⟨⟨m0, m1, d1⟩, m2, d2⟩ := m
            have n0 := n
            exact ⟨⟨(Mu.keep m0 e (fun a ha hb => (fun a ha => d2 a (List.mem_append_left _ ha)) a ha hb)), (Mu.keep m1 e (fun a ha hb => (fun a ha => d2 a (List.mem_append_right _ ha)) a ha hb)), d1⟩, n0, d2⟩) h_456) (ev_ref rfl) (eva_cons ev_str eva_nil)) (ev_call (cs_law_due T h_458) (eva_cons (ev_var (τ := (yList (yP2 K yStr yInt))) rfl k_430) (eva_cons ev_str eva_nil)))) (ev_eq flat_int (ev_fld (fo_Ledger_now T) T.cl_Ledger T.n_Ledger_now (ev_mfld (fun Z H m => by
            obtain ⟨⟨m0, m1, d1⟩, m2, d2⟩ := m
            exact m2) (mf_Catalog_ledger T) T.cl_Catalog T.n_Catalog_ledger rfl)) ev_int)) (fun v Z H P hv => ?_)
      have hv2 : v = V.bl _ := hv
      rw [hb] at hv2
      rw [hv2]
      exact q _
end
set_option maxRecDepth 100000 in
set_option maxHeartbeats 0 in
theorem all_mk {l : PySem.W.OpenLaw} {w : World} {K : PySem.W.Frag} {h : Heap} {mg : Str → Option Value} {fa f0 f1 f2 f3 f4 f5 f6 f7 f8 f9 f10 f11 f12 f13 f14 f15 f16 f17 f18 : Addr} (X : K.In h) (G : h.Ns mainGlobals mg) (hfa : mg "law" = some (.ref fa))
    {od0 an0 od1 an1 od2 an2 od3 an3 od4 an4 od5 an5 od6 an6 od7 an7 od8 an8 od9 an9 od10 an10 od11 an11 od12 an12 od13 an13 od14 an14 od15 an15 od16 an16 od17 an17 od18 an18 : Option Addr} {sl0 sl1 sl2 sl3 sl4 sl5 sl6 sl7 sl8 sl9 sl10 sl11 sl12 sl13 sl14 sl15 sl16 sl17 sl18 : Array (Option Value)} {oc0 kV0 dc0 pm0 cd0 ct0 oc1 kV1 dc1 pm1 cd1 ct1 oc2 kV2 dc2 pm2 cd2 ct2 oc3 kV3 dc3 pm3 cd3 ct3 oc4 kV4 dc4 pm4 cd4 ct4 oc5 kV5 dc5 pm5 cd5 ct5 oc6 kV6 dc6 pm6 cd6 ct6 oc7 kV7 dc7 pm7 cd7 ct7 oc8 kV8 dc8 pm8 cd8 ct8 oc9 kV9 dc9 pm9 cd9 ct9 oc10 dc10 pm10 cd10 ct10 oc11 kV11 dc11 pm11 cd11 ct11 oc12 kV12 dc12 pm12 cd12 ct12 oc13 kV13 dc13 pm13 cd13 ct13 oc14 kV14 dc14 pm14 cd14 ct14 oc15 kV15 dc15 pm15 cd15 ct15 oc16 kV16 dc16 pm16 cd16 ct16 oc17 kV17 dc17 pm17 cd17 ct17 oc18 kV18 dc18 pm18 cd18 ct18 : Value}
    {C_Ledger C_Catalog C_Schema : Addr}
    (a0 : PySem.W.nsIn K mainGlobals "_law_row" = some (some (.ref f0))) (l0 : K.lookup f0 = some ⟨oc0, od0, .func (PySem.W.fnOf "_law_row" "_law_row" (defArgs s_law_row) (defBody s_law_row) (defScope s_law_row) .none kV0 dc0 pm0 an0 cd0 ct0), sl0⟩) (c0 : PySem.W.codeIn K cd0 "_law_row" = true) (k0 : PySem.W.keepIn K (.ref f0) = true)
    (a1 : PySem.W.nsIn K mainGlobals "_law_next" = some (some (.ref f1))) (l1 : K.lookup f1 = some ⟨oc1, od1, .func (PySem.W.fnOf "_law_next" "_law_next" (defArgs s_law_next) (defBody s_law_next) (defScope s_law_next) .none kV1 dc1 pm1 an1 cd1 ct1), sl1⟩) (c1 : PySem.W.codeIn K cd1 "_law_next" = true) (k1 : PySem.W.keepIn K (.ref f1) = true)
    (a2 : PySem.W.nsIn K mainGlobals "check_key" = some (some (.ref f2))) (l2 : K.lookup f2 = some ⟨oc2, od2, .func (PySem.W.fnOf "check_key" "check_key" (defArgs s_check_key) (defBody s_check_key) (defScope s_check_key) .none kV2 dc2 pm2 an2 cd2 ct2), sl2⟩) (c2 : PySem.W.codeIn K cd2 "check_key" = true) (k2 : PySem.W.keepIn K (.ref f2) = true)
    (l3 : K.lookup f3 = some ⟨oc3, od3, .func (PySem.W.fnOf "__init__" "Ledger.__init__" (defArgs s_Ledger___init__) (defBody s_Ledger___init__) (defScope s_Ledger___init__) .none kV3 dc3 pm3 an3 cd3 ct3), sl3⟩) (c3 : PySem.W.codeIn K cd3 "Ledger.__init__" = true) (k3 : PySem.W.keepIn K (.ref f3) = true)
    (l4 : K.lookup f4 = some ⟨oc4, od4, .func (PySem.W.fnOf "__init__" "Catalog.__init__" (defArgs s_Catalog___init__) (defBody s_Catalog___init__) (defScope s_Catalog___init__) .none kV4 dc4 pm4 an4 cd4 ct4), sl4⟩) (c4 : PySem.W.codeIn K cd4 "Catalog.__init__" = true) (k4 : PySem.W.keepIn K (.ref f4) = true)
    (a5 : PySem.W.nsIn K mainGlobals "is_letter" = some (some (.ref f5))) (l5 : K.lookup f5 = some ⟨oc5, od5, .func (PySem.W.fnOf "is_letter" "is_letter" (defArgs s_is_letter) (defBody s_is_letter) (defScope s_is_letter) .none kV5 dc5 pm5 an5 cd5 ct5), sl5⟩) (c5 : PySem.W.codeIn K cd5 "is_letter" = true) (k5 : PySem.W.keepIn K (.ref f5) = true)
    (a6 : PySem.W.nsIn K mainGlobals "is_digit" = some (some (.ref f6))) (l6 : K.lookup f6 = some ⟨oc6, od6, .func (PySem.W.fnOf "is_digit" "is_digit" (defArgs s_is_digit) (defBody s_is_digit) (defScope s_is_digit) .none kV6 dc6 pm6 an6 cd6 ct6), sl6⟩) (c6 : PySem.W.codeIn K cd6 "is_digit" = true) (k6 : PySem.W.keepIn K (.ref f6) = true)
    (a7 : PySem.W.nsIn K mainGlobals "is_word" = some (some (.ref f7))) (l7 : K.lookup f7 = some ⟨oc7, od7, .func (PySem.W.fnOf "is_word" "is_word" (defArgs s_is_word) (defBody s_is_word) (defScope s_is_word) .none kV7 dc7 pm7 an7 cd7 ct7), sl7⟩) (c7 : PySem.W.codeIn K cd7 "is_word" = true) (k7 : PySem.W.keepIn K (.ref f7) = true)
    (a8 : PySem.W.nsIn K mainGlobals "check_vectors" = some (some (.ref f8))) (l8 : K.lookup f8 = some ⟨oc8, od8, .func (PySem.W.fnOf "check_vectors" "check_vectors" (defArgs s_check_vectors) (defBody s_check_vectors) (defScope s_check_vectors) .none kV8 dc8 pm8 an8 cd8 ct8), sl8⟩) (c8 : PySem.W.codeIn K cd8 "check_vectors" = true) (k8 : PySem.W.keepIn K (.ref f8) = true)
    (a9 : PySem.W.nsIn K mainGlobals "check_fields" = some (some (.ref f9))) (l9 : K.lookup f9 = some ⟨oc9, od9, .func (PySem.W.fnOf "check_fields" "check_fields" (defArgs s_check_fields) (defBody s_check_fields) (defScope s_check_fields) .none kV9 dc9 pm9 an9 cd9 ct9), sl9⟩) (c9 : PySem.W.codeIn K cd9 "check_fields" = true) (k9 : PySem.W.keepIn K (.ref f9) = true)
    {DK10 : Addr} (l10 : K.lookup f10 = some ⟨oc10, od10, .func (PySem.W.fnOf "__init__" "Schema.__init__" (defArgs s_Schema___init__) (defBody s_Schema___init__) (defScope s_Schema___init__) .none (.ref DK10) dc10 pm10 an10 cd10 ct10), sl10⟩) (c10 : PySem.W.codeIn K cd10 "Schema.__init__" = true) (k10 : PySem.W.keepIn K (.ref f10) = true)
    {tq10_width : Tok} (n10_width : PySem.W.nsIn K DK10 "width" = some (some (.str "small" tq10_width)))
    {tq10_measure : Tok} (n10_measure : PySem.W.nsIn K DK10 "measure" = some (some (.str "square" tq10_measure)))
    {E10_fields : Addr} {eo10_fields : Option Addr} {en10_fields : Nat} {es10_fields : Array (Option Value)} (n10_fields : PySem.W.nsIn K DK10 "fields" = some (some (.ref E10_fields))) (t10_fields : K.lookup E10_fields = some ⟨.type "tuple", eo10_fields, .seq #[] en10_fields, es10_fields⟩)
    (a11 : PySem.W.nsIn K mainGlobals "_law_word" = some (some (.ref f11))) (l11 : K.lookup f11 = some ⟨oc11, od11, .func (PySem.W.fnOf "_law_word" "_law_word" (defArgs s_law_word) (defBody s_law_word) (defScope s_law_word) .none kV11 dc11 pm11 an11 cd11 ct11), sl11⟩) (c11 : PySem.W.codeIn K cd11 "_law_word" = true) (k11 : PySem.W.keepIn K (.ref f11) = true)
    (a12 : PySem.W.nsIn K mainGlobals "_law_due" = some (some (.ref f12))) (l12 : K.lookup f12 = some ⟨oc12, od12, .func (PySem.W.fnOf "_law_due" "_law_due" (defArgs s_law_due) (defBody s_law_due) (defScope s_law_due) .none kV12 dc12 pm12 an12 cd12 ct12), sl12⟩) (c12 : PySem.W.codeIn K cd12 "_law_due" = true) (k12 : PySem.W.keepIn K (.ref f12) = true)
    (l13 : K.lookup f13 = some ⟨oc13, od13, .func (PySem.W.fnOf "shard_of" "Catalog.shard_of" (defArgs s_Catalog_shard_of) (defBody s_Catalog_shard_of) (defScope s_Catalog_shard_of) .none kV13 dc13 pm13 an13 cd13 ct13), sl13⟩) (c13 : PySem.W.codeIn K cd13 "Catalog.shard_of" = true) (k13 : PySem.W.keepIn K (.ref f13) = true)
    (l14 : K.lookup f14 = some ⟨oc14, od14, .func (PySem.W.fnOf "route" "Catalog.route" (defArgs s_Catalog_route) (defBody s_Catalog_route) (defScope s_Catalog_route) .none kV14 dc14 pm14 an14 cd14 ct14), sl14⟩) (c14 : PySem.W.codeIn K cd14 "Catalog.route" = true) (k14 : PySem.W.keepIn K (.ref f14) = true)
    (l15 : K.lookup f15 = some ⟨oc15, od15, .func (PySem.W.fnOf "outcome_of" "Catalog.outcome_of" (defArgs s_Catalog_outcome_of) (defBody s_Catalog_outcome_of) (defScope s_Catalog_outcome_of) .none kV15 dc15 pm15 an15 cd15 ct15), sl15⟩) (c15 : PySem.W.codeIn K cd15 "Catalog.outcome_of" = true) (k15 : PySem.W.keepIn K (.ref f15) = true)
    (l16 : K.lookup f16 = some ⟨oc16, od16, .func (PySem.W.fnOf "close_lost" "Catalog.close_lost" (defArgs s_Catalog_close_lost) (defBody s_Catalog_close_lost) (defScope s_Catalog_close_lost) .none kV16 dc16 pm16 an16 cd16 ct16), sl16⟩) (c16 : PySem.W.codeIn K cd16 "Catalog.close_lost" = true) (k16 : PySem.W.keepIn K (.ref f16) = true)
    (l17 : K.lookup f17 = some ⟨oc17, od17, .func (PySem.W.fnOf "apply" "Catalog.apply" (defArgs s_Catalog_apply) (defBody s_Catalog_apply) (defScope s_Catalog_apply) .none kV17 dc17 pm17 an17 cd17 ct17), sl17⟩) (c17 : PySem.W.codeIn K cd17 "Catalog.apply" = true) (k17 : PySem.W.keepIn K (.ref f17) = true)
    (a18 : PySem.W.nsIn K mainGlobals "law" = some (some (.ref f18))) (l18 : K.lookup f18 = some ⟨oc18, od18, .func (PySem.W.fnOf "law" "law" (defArgs s_law) (defBody s_law) (defScope s_law) .none kV18 dc18 pm18 an18 cd18 ct18), sl18⟩) (c18 : PySem.W.codeIn K cd18 "law" = true) (k18 : PySem.W.keepIn K (.ref f18) = true)
    (aC_Ledger : PySem.W.nsIn K mainGlobals "Ledger" = some (some (.ref C_Ledger)))
    (pg_Ledger : PySem.W.plainGet K C_Ledger Str.empty = true)
    (hd_Ledger : PySem.W.hasDictIn K C_Ledger = true)
    (po_Ledger : PySem.W.plainOver K C_Ledger = true)
    (sa_Ledger : PySem.W.findIn K (.ref C_Ledger) "__setattr__" = some (some (.builtin "object.__setattr__")))
    (n_Ledger_schema : PySem.W.findIn K (.ref C_Ledger) "schema" = some none)
    (n_Ledger_key : PySem.W.findIn K (.ref C_Ledger) "key" = some none)
    (n_Ledger_now : PySem.W.findIn K (.ref C_Ledger) "now" = some none)
    (n_Ledger_floor : PySem.W.findIn K (.ref C_Ledger) "floor" = some none)
    (n_Ledger_pins : PySem.W.findIn K (.ref C_Ledger) "pins" = some none)
    (n_Ledger_notes : PySem.W.findIn K (.ref C_Ledger) "notes" = some none)
    (n_Ledger_segments : PySem.W.findIn K (.ref C_Ledger) "segments" = some none)
    (n_Ledger_upcoming : PySem.W.findIn K (.ref C_Ledger) "upcoming" = some none)
    (mk_Ledger : PySem.W.makesIn K C_Ledger = true)
    (in_Ledger : PySem.W.findIn K (.ref C_Ledger) "__init__" = some (some (.ref f3)))
    (if_Ledger : PySem.W.isFn K (.ref f3) = true)
    (kc_Ledger : PySem.W.keepIn K (.ref C_Ledger) = true)
    (aC_Catalog : PySem.W.nsIn K mainGlobals "Catalog" = some (some (.ref C_Catalog)))
    (pg_Catalog : PySem.W.plainGet K C_Catalog Str.empty = true)
    (hd_Catalog : PySem.W.hasDictIn K C_Catalog = true)
    (po_Catalog : PySem.W.plainOver K C_Catalog = true)
    (sa_Catalog : PySem.W.findIn K (.ref C_Catalog) "__setattr__" = some (some (.builtin "object.__setattr__")))
    (n_Catalog_ledger : PySem.W.findIn K (.ref C_Catalog) "ledger" = some none)
    (n_Catalog_titles : PySem.W.findIn K (.ref C_Catalog) "titles" = some none)
    (n_Catalog_closed : PySem.W.findIn K (.ref C_Catalog) "closed" = some none)
    (n_Catalog_routes : PySem.W.findIn K (.ref C_Catalog) "routes" = some none)
    (n_Catalog_begins : PySem.W.findIn K (.ref C_Catalog) "begins" = some none)
    (mk_Catalog : PySem.W.makesIn K C_Catalog = true)
    (in_Catalog : PySem.W.findIn K (.ref C_Catalog) "__init__" = some (some (.ref f4)))
    (if_Catalog : PySem.W.isFn K (.ref f4) = true)
    (kc_Catalog : PySem.W.keepIn K (.ref C_Catalog) = true)
    (fm_Catalog_route : PySem.W.findIn K (.ref C_Catalog) "route" = some (some (.ref f14)))
    (im_Catalog_route : PySem.W.isFn K (.ref f14) = true)
    (fm_Catalog_outcome_of : PySem.W.findIn K (.ref C_Catalog) "outcome_of" = some (some (.ref f15)))
    (im_Catalog_outcome_of : PySem.W.isFn K (.ref f15) = true)
    (fm_Catalog_close_lost : PySem.W.findIn K (.ref C_Catalog) "close_lost" = some (some (.ref f16)))
    (im_Catalog_close_lost : PySem.W.isFn K (.ref f16) = true)
    (fm_Catalog_apply : PySem.W.findIn K (.ref C_Catalog) "apply" = some (some (.ref f17)))
    (im_Catalog_apply : PySem.W.isFn K (.ref f17) = true)
    (fm_Catalog_shard_of : PySem.W.findIn K (.ref C_Catalog) "shard_of" = some (some (.ref f13)))
    (im_Catalog_shard_of : PySem.W.isFn K (.ref f13) = true)
    (aC_Schema : PySem.W.nsIn K mainGlobals "Schema" = some (some (.ref C_Schema)))
    (pg_Schema : PySem.W.plainGet K C_Schema Str.empty = true)
    (hd_Schema : PySem.W.hasDictIn K C_Schema = true)
    (po_Schema : PySem.W.plainOver K C_Schema = true)
    (sa_Schema : PySem.W.findIn K (.ref C_Schema) "__setattr__" = some (some (.builtin "object.__setattr__")))
    (n_Schema_size : PySem.W.findIn K (.ref C_Schema) "size" = some none)
    (n_Schema_width : PySem.W.findIn K (.ref C_Schema) "width" = some none)
    (n_Schema_measure : PySem.W.findIn K (.ref C_Schema) "measure" = some none)
    (n_Schema_fields : PySem.W.findIn K (.ref C_Schema) "fields" = some none)
    (mk_Schema : PySem.W.makesIn K C_Schema = true)
    (in_Schema : PySem.W.findIn K (.ref C_Schema) "__init__" = some (some (.ref f10)))
    (if_Schema : PySem.W.isFn K (.ref f10) = true)
    (kc_Schema : PySem.W.keepIn K (.ref C_Schema) = true)
    {C_InvalidKey : Addr}
    (aX_InvalidKey : PySem.W.nsIn K mainGlobals "InvalidKey" = some (some (.ref C_InvalidKey)))
    (kx_InvalidKey : PySem.W.keepIn K (.ref C_InvalidKey) = true)
    (ex_InvalidKey : PySem.W.excIn K C_InvalidKey [.type "ValueError", .type "Exception", .type "BaseException", .type "object"] "ValueError.__new__" = true)
    (bx_InvalidKey : PySem.W.subIn K (.ref C_InvalidKey) (.type "BaseException") = some true)
    (tx_InvalidKey : PySem.W.typeIn K (.ref C_InvalidKey) = some (.type "type"))
    (ix_InvalidKey : PySem.W.isClsIn K C_InvalidKey = true)
    {C_InvalidSchema : Addr}
    (aX_InvalidSchema : PySem.W.nsIn K mainGlobals "InvalidSchema" = some (some (.ref C_InvalidSchema)))
    (kx_InvalidSchema : PySem.W.keepIn K (.ref C_InvalidSchema) = true)
    (ex_InvalidSchema : PySem.W.excIn K C_InvalidSchema [.type "ValueError", .type "Exception", .type "BaseException", .type "object"] "ValueError.__new__" = true)
    (bx_InvalidSchema : PySem.W.subIn K (.ref C_InvalidSchema) (.type "BaseException") = some true)
    (tx_InvalidSchema : PySem.W.typeIn K (.ref C_InvalidSchema) = some (.type "type"))
    (ix_InvalidSchema : PySem.W.isClsIn K C_InvalidSchema = true)
    {A_KINDS : Addr} {to_KINDS : Option Addr} {ti_KINDS : Array Value} {tn_KINDS : Nat} {ts_KINDS : Array (Option Value)} (z_KINDS : PySem.W.nsIn K mainGlobals "KINDS" = some (some (.ref A_KINDS))) (zl_KINDS : K.lookup A_KINDS = some ⟨.type "tuple", to_KINDS, .seq ti_KINDS tn_KINDS, ts_KINDS⟩) (zv_KINDS : Vals [.str "integer", .str "text", .str "flag"] ti_KINDS.toList) (zn_KINDS : ti_KINDS.size ≤ sizeLine)
    {A_MEASURES : Addr} {to_MEASURES : Option Addr} {ti_MEASURES : Array Value} {tn_MEASURES : Nat} {ts_MEASURES : Array (Option Value)} (z_MEASURES : PySem.W.nsIn K mainGlobals "MEASURES" = some (some (.ref A_MEASURES))) (zl_MEASURES : K.lookup A_MEASURES = some ⟨.type "tuple", to_MEASURES, .seq ti_MEASURES tn_MEASURES, ts_MEASURES⟩) (zv_MEASURES : Vals [.str "square", .str "dot", .str "bits"] ti_MEASURES.toList) (zn_MEASURES : ti_MEASURES.size ≤ sizeLine)
    {tk_MODULUS : Tok} (z_MODULUS : PySem.W.nsIn K mainGlobals "MODULUS" = some (some (.int 4294967291 tk_MODULUS)))
    {A_RESERVED : Addr} {to_RESERVED : Option Addr} {ti_RESERVED : Array Value} {tn_RESERVED : Nat} {ts_RESERVED : Array (Option Value)} (z_RESERVED : PySem.W.nsIn K mainGlobals "RESERVED" = some (some (.ref A_RESERVED))) (zl_RESERVED : K.lookup A_RESERVED = some ⟨.type "tuple", to_RESERVED, .seq ti_RESERVED tn_RESERVED, ts_RESERVED⟩) (zv_RESERVED : Vals [.str "every", .str "has", .str "in", .str "and", .str "or", .str "not", .str "true", .str "false"] ti_RESERVED.toList) (zn_RESERVED : ti_RESERVED.size ≤ sizeLine)
    {A_WIDTHS : Addr} {de_WIDTHS : Array DictEntry} {dn_WIDTHS : Nat} (z_WIDTHS : PySem.W.nsIn K mainGlobals "WIDTHS" = some (some (.ref A_WIDTHS))) (zl_WIDTHS : K.lookup A_WIDTHS = some ⟨.type "dict", none, .dict de_WIDTHS dn_WIDTHS, #[]⟩) (zk_WIDTHS : PySem.W.KeysLit w.params de_WIDTHS.toList) (zs_WIDTHS : (A_WIDTHS == sysModules) = false)
    {A_WIDTHS_bit : Addr} {to_WIDTHS_bit : Option Addr} {ti_WIDTHS_bit : Array Value} {tn_WIDTHS_bit : Nat} {ts_WIDTHS_bit : Array (Option Value)} (z_WIDTHS_bit : PySem.W.nsIn K A_WIDTHS "bit" = some (some (.ref A_WIDTHS_bit))) (zl_WIDTHS_bit : K.lookup A_WIDTHS_bit = some ⟨.type "tuple", to_WIDTHS_bit, .seq ti_WIDTHS_bit tn_WIDTHS_bit, ts_WIDTHS_bit⟩) (zv_WIDTHS_bit : Vals [.int (0), .int (1)] ti_WIDTHS_bit.toList) (zn_WIDTHS_bit : ti_WIDTHS_bit.size ≤ sizeLine)
    {A_WIDTHS_small : Addr} {to_WIDTHS_small : Option Addr} {ti_WIDTHS_small : Array Value} {tn_WIDTHS_small : Nat} {ts_WIDTHS_small : Array (Option Value)} (z_WIDTHS_small : PySem.W.nsIn K A_WIDTHS "small" = some (some (.ref A_WIDTHS_small))) (zl_WIDTHS_small : K.lookup A_WIDTHS_small = some ⟨.type "tuple", to_WIDTHS_small, .seq ti_WIDTHS_small tn_WIDTHS_small, ts_WIDTHS_small⟩) (zv_WIDTHS_small : Vals [.int (-128), .int (127)] ti_WIDTHS_small.toList) (zn_WIDTHS_small : ti_WIDTHS_small.size ≤ sizeLine)
    {A_WIDTHS_wide : Addr} {to_WIDTHS_wide : Option Addr} {ti_WIDTHS_wide : Array Value} {tn_WIDTHS_wide : Nat} {ts_WIDTHS_wide : Array (Option Value)} (z_WIDTHS_wide : PySem.W.nsIn K A_WIDTHS "wide" = some (some (.ref A_WIDTHS_wide))) (zl_WIDTHS_wide : K.lookup A_WIDTHS_wide = some ⟨.type "tuple", to_WIDTHS_wide, .seq ti_WIDTHS_wide tn_WIDTHS_wide, ts_WIDTHS_wide⟩) (zv_WIDTHS_wide : Vals [.int (-32768), .int (32767)] ti_WIDTHS_wide.toList) (zn_WIDTHS_wide : ti_WIDTHS_wide.size ≤ sizeLine)
    (z_all : PySem.W.nsIn K mainGlobals "all" = some none)
    (z_int : PySem.W.nsIn K mainGlobals "int" = some none)
    (z_len : PySem.W.nsIn K mainGlobals "len" = some none)
    (z_list : PySem.W.nsIn K mainGlobals "list" = some none)
    (z_range : PySem.W.nsIn K mainGlobals "range" = some none)
    (z_set : PySem.W.nsIn K mainGlobals "set" = some none)
    (z_sorted : PySem.W.nsIn K mainGlobals "sorted" = some none)
    (z_tuple : PySem.W.nsIn K mainGlobals "tuple" = some none)
    {KC_Catalog_route PC_Catalog_route : Addr} {oq_Catalog_route : Value} {ot_Catalog_route : Option Addr} {vs_Catalog_route : Array Value} {so_Catalog_route : Array (Option Value)} (ck_Catalog_route : cd14 = .ref KC_Catalog_route) (lk_Catalog_route : K.lookup KC_Catalog_route = some ⟨oq_Catalog_route, ot_Catalog_route, .fields vs_Catalog_route, so_Catalog_route⟩) (pp_Catalog_route : vs_Catalog_route[11]? = some (.ref PC_Catalog_route)) (ch_Catalog_route : PySem.W.codeHdIn K KC_Catalog_route PC_Catalog_route = true) (pt_Catalog_route : h.get? PC_Catalog_route = some { cls := .none, data := .fields #[] }) (pn_Catalog_route : K.lookup PC_Catalog_route = none)
    : LamX.LawAtS l w K L2.CX0 7 63 "script" mg fa h := by
  have e := hfa.symm.trans (PySem.W.mg_of X G a18)
  cases e
  have F0 := fun_mk (st := s_law_row) l0 c0 k0
  have b0 := F0.binds (ps := ["script", "k"]) fun _ _ _ _ _ _ us hl => match us, hl with | [_, _], _ => rfl
  have F1 := fun_mk (st := s_law_next) l1 c1 k1
  have b1 := F1.binds (ps := ["state", "many"]) fun _ _ _ _ _ _ us hl => match us, hl with | [_, _], _ => rfl
  have F2 := fun_mk (st := s_check_key) l2 c2 k2
  have b2 := F2.binds (ps := ["key"]) fun _ _ _ _ _ _ us hl => match us, hl with | [_], _ => rfl
  have F3 := fun_mk (st := s_Ledger___init__) l3 c3 k3
  have b3 := F3.binds (ps := ["self", "schema", "key"]) fun _ _ _ _ _ _ us hl => match us, hl with | [_, _, _], _ => rfl
  have F4 := fun_mk (st := s_Catalog___init__) l4 c4 k4
  have b4 := F4.binds (ps := ["self", "schema", "key", "shard"]) fun _ _ _ _ _ _ us hl => match us, hl with | [_, _, _, _], _ => rfl
  have F5 := fun_mk (st := s_is_letter) l5 c5 k5
  have b5 := F5.binds (ps := ["char"]) fun _ _ _ _ _ _ us hl => match us, hl with | [_], _ => rfl
  have F6 := fun_mk (st := s_is_digit) l6 c6 k6
  have b6 := F6.binds (ps := ["char"]) fun _ _ _ _ _ _ us hl => match us, hl with | [_], _ => rfl
  have F7 := fun_mk (st := s_is_word) l7 c7 k7
  have b7 := F7.binds (ps := ["text"]) fun _ _ _ _ _ _ us hl => match us, hl with | [_], _ => rfl
  have F8 := fun_mk (st := s_check_vectors) l8 c8 k8
  have b8 := F8.binds (ps := ["size", "width", "measure"]) fun _ _ _ _ _ _ us hl => match us, hl with | [_, _, _], _ => rfl
  have F9 := fun_mk (st := s_check_fields) l9 c9 k9
  have b9 := F9.binds (ps := ["fields"]) fun _ _ _ _ _ _ us hl => match us, hl with | [_], _ => rfl
  have F10 : FunD K "__init__" "Schema.__init__" (defArgs s_Schema___init__) (defBody s_Schema___init__) (defScope s_Schema___init__) [] [("width", .str "small"), ("measure", .str "square"), ("fields", .ref E10_fields)] f10 _ := ⟨⟨_, _, _, _, _, _, _, _, _, _, rfl, l10, c10, .inl ⟨rfl, rfl⟩, .inr ⟨DK10, rfl, fun q hq => by
    simp only [List.mem_cons, List.not_mem_nil, or_false] at hq
    rcases hq with rfl | rfl | rfl
    · exact ⟨_, n10_width, ⟨_, rfl⟩⟩
    · exact ⟨_, n10_measure, ⟨_, rfl⟩⟩
    · exact ⟨_, n10_fields, rfl⟩⟩⟩, k10⟩
  obtain ⟨mv10, kb10⟩ := F10.kbinds0 (ps := ["self", "size", "width", "measure", "fields"]) 2 ["width", "measure", "fields"] [] (fun us mv ws => us ++ ws) (by intro h; cases h) (fun q h => by cases h) (fun r1 _ r3 => r1.append r3) (fun D doc pm an cdv ct us mv ws l1 l2 l3 => match us, mv, ws, l1, l2, l3 with | [_, _], [], [_, _, _], _, _, _ => rfl)
  obtain ⟨ds10, v10, b10⟩ := F10.binds0 (ps := ["self", "size", "width", "measure", "fields"]) 2 (by intro h; cases h) rfl (fun D doc pm an cdv ct us ks l1 l2 => match us, ks, l1, l2 with | [_, _], [_, _, _], _, _ => ⟨_, _, _, _, _, _, rfl, rfl, ⟨_, _, _, _, _, _, rfl, rfl, ⟨_, _, _, _, _, _, rfl, rfl, rfl⟩⟩⟩)
  have F11 := fun_mk (st := s_law_word) l11 c11 k11
  have b11 := F11.binds (ps := ["state"]) fun _ _ _ _ _ _ us hl => match us, hl with | [_], _ => rfl
  have F12 := fun_mk (st := s_law_due) l12 c12 k12
  have b12 := F12.binds (ps := ["routes", "name"]) fun _ _ _ _ _ _ us hl => match us, hl with | [_, _], _ => rfl
  have F13 := fun_mk (st := s_Catalog_shard_of) l13 c13 k13
  have b13 := F13.binds (ps := ["self", "name"]) fun _ _ _ _ _ _ us hl => match us, hl with | [_, _], _ => rfl
  subst ck_Catalog_route
  have L14 : FunC K "route" "Catalog.route" s_Catalog_route _ _ _ := ⟨_, _, _, _, _, _, _, _, rfl, l14, c14⟩
  have F14 := fun_mk (st := s_Catalog_route) l14 c14 k14
  have b14 := F14.binds (ps := ["self", "low", "shard"]) fun _ _ _ _ _ _ us hl => match us, hl with | [_, _, _], _ => rfl
  have F15 := fun_mk (st := s_Catalog_outcome_of) l15 c15 k15
  have b15 := F15.binds (ps := ["self", "deed"]) fun _ _ _ _ _ _ us hl => match us, hl with | [_, _], _ => rfl
  have F16 := fun_mk (st := s_Catalog_close_lost) l16 c16 k16
  have b16 := F16.binds (ps := ["self"]) fun _ _ _ _ _ _ us hl => match us, hl with | [_], _ => rfl
  have F17 := fun_mk (st := s_Catalog_apply) l17 c17 k17
  have b17 := F17.binds (ps := ["self", "deed"]) fun _ _ _ _ _ _ us hl => match us, hl with | [_, _], _ => rfl
  have F18 := fun_mk (st := s_law) l18 c18 k18
  have b18 := F18.binds (ps := ["script"]) fun _ _ _ _ _ _ us hl => match us, hl with | [_], _ => rfl
  refine ⟨PySem.W.fnOf "law" "law" (defArgs s_law) (defBody s_law) (defScope s_law) .none kV18 dc18 pm18 an18 cd18 ct18, [(KC_Catalog_route, PC_Catalog_route)], sp_law K PC_Catalog_route, fun p hp => ?_, fun p hp => ?_, fun p hp => ?_, fun s v => .of_eq rfl, fun H a ns hl _ ht hS => ⟨a, ns, rfl, hS, hl, ht (KC_Catalog_route, PC_Catalog_route) (by simp), fun _ => rfl⟩, fun base _ _ TB => ?_⟩
  ·
    simp only [List.mem_cons, List.not_mem_nil, or_false] at hp
    rcases hp with rfl
    · exact pt_Catalog_route
  ·
    simp only [List.mem_cons, List.not_mem_nil, or_false] at hp
    rcases hp with rfl
    · exact pn_Catalog_route
  ·
    simp only [List.mem_cons, List.not_mem_nil, or_false] at hp
    rcases hp with rfl
    · exact PySem.W.codeHd_of_K X ch_Catalog_route
  let T : Txt w K mg base := ⟨_, _, F0, b0, PySem.W.mg_of X G a0,
    _, _, F1, b1, PySem.W.mg_of X G a1,
    _, _, F2, b2, PySem.W.mg_of X G a2,
    _, _, F3, b3,
    _, _, F4, b4,
    _, _, F5, b5, PySem.W.mg_of X G a5,
    _, _, F6, b6, PySem.W.mg_of X G a6,
    _, _, F7, b7, PySem.W.mg_of X G a7,
    _, _, F8, b8, PySem.W.mg_of X G a8,
    _, _, F9, b9, PySem.W.mg_of X G a9,
    _, _, _, fun H => .inr ⟨_, _, _, t10_fields, rfl, rfl, by decide, .nil⟩, F10, kb10, _, v10, b10,
    _, _, F11, b11, PySem.W.mg_of X G a11,
    _, _, F12, b12, PySem.W.mg_of X G a12,
    _, _, F13, b13,
    _, _, F14, b14, _, _, L14, TB (KC_Catalog_route, PC_Catalog_route) (by simp),
    _, _, F15, b15,
    _, _, F16, b16,
    _, _, F17, b17,
    _, _, F18, b18, PySem.W.mg_of X G a18,
    _, PySem.W.mg_of X G aX_InvalidKey, kx_InvalidKey, ex_InvalidKey, bx_InvalidKey, tx_InvalidKey,
    _, PySem.W.mg_of X G aX_InvalidSchema, kx_InvalidSchema, ex_InvalidSchema, bx_InvalidSchema, tx_InvalidSchema,
    _, ⟨pg_Ledger, hd_Ledger, po_Ledger, sa_Ledger⟩, PySem.W.mg_of X G aC_Ledger, n_Ledger_schema, n_Ledger_key, n_Ledger_now, n_Ledger_floor, n_Ledger_pins, n_Ledger_notes, n_Ledger_segments, n_Ledger_upcoming, ⟨mk_Ledger, in_Ledger, if_Ledger, kc_Ledger⟩,
    _, ⟨pg_Catalog, hd_Catalog, po_Catalog, sa_Catalog⟩, PySem.W.mg_of X G aC_Catalog, n_Catalog_ledger, n_Catalog_titles, n_Catalog_closed, n_Catalog_routes, n_Catalog_begins, ⟨mk_Catalog, in_Catalog, if_Catalog, kc_Catalog⟩, ⟨fm_Catalog_route, im_Catalog_route, k14⟩, ⟨fm_Catalog_outcome_of, im_Catalog_outcome_of, k15⟩, ⟨fm_Catalog_close_lost, im_Catalog_close_lost, k16⟩, ⟨fm_Catalog_apply, im_Catalog_apply, k17⟩, ⟨fm_Catalog_shard_of, im_Catalog_shard_of, k13⟩,
    _, ⟨pg_Schema, hd_Schema, po_Schema, sa_Schema⟩, PySem.W.mg_of X G aC_Schema, n_Schema_size, n_Schema_width, n_Schema_measure, n_Schema_fields, ⟨mk_Schema, in_Schema, if_Schema, kc_Schema⟩,
    _, PySem.W.mg_of X G z_KINDS, fun H => .inr ⟨_, _, _, zl_KINDS, rfl, rfl, zn_KINDS, zv_KINDS⟩,
    _, PySem.W.mg_of X G z_MEASURES, fun H => .inr ⟨_, _, _, zl_MEASURES, rfl, rfl, zn_MEASURES, zv_MEASURES⟩,
    ⟨_, PySem.W.mg_of X G z_MODULUS⟩,
    _, PySem.W.mg_of X G z_RESERVED, fun H => .inr ⟨_, _, _, zl_RESERVED, rfl, rfl, zn_RESERVED, zv_RESERVED⟩,
    _, PySem.W.mg_of X G z_WIDTHS, _, _, ⟨zl_WIDTHS, zk_WIDTHS, zs_WIDTHS⟩, _, z_WIDTHS_bit, fun H => .inr ⟨_, _, _, zl_WIDTHS_bit, rfl, rfl, zn_WIDTHS_bit, zv_WIDTHS_bit⟩, _, z_WIDTHS_small, fun H => .inr ⟨_, _, _, zl_WIDTHS_small, rfl, rfl, zn_WIDTHS_small, zv_WIDTHS_small⟩, _, z_WIDTHS_wide, fun H => .inr ⟨_, _, _, zl_WIDTHS_wide, rfl, rfl, zn_WIDTHS_wide, zv_WIDTHS_wide⟩,
    PySem.W.mg_none_of X G z_all,
    PySem.W.mg_none_of X G z_int,
    PySem.W.mg_none_of X G z_len,
    PySem.W.mg_none_of X G z_list,
    PySem.W.mg_none_of X G z_range,
    PySem.W.mg_none_of X G z_set,
    PySem.W.mg_none_of X G z_sorted,
    PySem.W.mg_none_of X G z_tuple⟩
  exact ok_law T
end K70
open PySem PySem.W PyProof.Rows
set_option maxRecDepth 100000 in
set_option maxHeartbeats 0 in
theorem PySem.Challenge.cw_surenear_k70_names_belong_to_shards_holds : PySem.Challenge.rw_surenear_k70_names_belong_to_shards.Holds := by
  w_on; o_law; k_head; (case hw => w_witness2)
  k_fill
  refine LamX.walk_ofTs (l := PySem.Challenge.rw_surenear_k70_names_belong_to_shards) (n := 63) (k := 7) (x := "script") (CX := fun _ => L2.CX0) rfl (by decide) rfl ⟨rfl, by decide, by decide⟩ (fun w h Y => PySem.W.km_in_of Y) ?F (fun _ _ _ _ _ h => h)
  case F =>
    intro w mg fa h Y KX G hmg
    refine' K70.all_mk KX G hmg (a0 := ?a0) (l0 := ?l0) (c0 := ?c0) (k0 := ?k0) (a1 := ?a1) (l1 := ?l1) (c1 := ?c1) (k1 := ?k1) (a2 := ?a2) (l2 := ?l2) (c2 := ?c2) (k2 := ?k2) (a5 := ?a5) (l5 := ?l5) (c5 := ?c5) (k5 := ?k5) (a6 := ?a6) (l6 := ?l6) (c6 := ?c6) (k6 := ?k6) (a7 := ?a7) (l7 := ?l7) (c7 := ?c7) (k7 := ?k7) (a8 := ?a8) (l8 := ?l8) (c8 := ?c8) (k8 := ?k8) (a9 := ?a9) (l9 := ?l9) (c9 := ?c9) (k9 := ?k9) (a11 := ?a11) (l11 := ?l11) (c11 := ?c11) (k11 := ?k11) (a12 := ?a12) (l12 := ?l12) (c12 := ?c12) (k12 := ?k12) (a18 := ?a18) (l18 := ?l18) (c18 := ?c18) (k18 := ?k18) (aC_Ledger := ?aC_Ledger) (pg_Ledger := ?pg_Ledger) (hd_Ledger := ?hd_Ledger) (po_Ledger := ?po_Ledger) (sa_Ledger := ?sa_Ledger) (n_Ledger_schema := ?n_Ledger_schema) (n_Ledger_key := ?n_Ledger_key) (n_Ledger_now := ?n_Ledger_now) (n_Ledger_floor := ?n_Ledger_floor) (n_Ledger_pins := ?n_Ledger_pins) (n_Ledger_notes := ?n_Ledger_notes) (n_Ledger_segments := ?n_Ledger_segments) (n_Ledger_upcoming := ?n_Ledger_upcoming) (mk_Ledger := ?mk_Ledger) (in_Ledger := ?in_Ledger) (if_Ledger := ?if_Ledger) (kc_Ledger := ?kc_Ledger) (aC_Catalog := ?aC_Catalog) (pg_Catalog := ?pg_Catalog) (hd_Catalog := ?hd_Catalog) (po_Catalog := ?po_Catalog) (sa_Catalog := ?sa_Catalog) (n_Catalog_ledger := ?n_Catalog_ledger) (n_Catalog_titles := ?n_Catalog_titles) (n_Catalog_closed := ?n_Catalog_closed) (n_Catalog_routes := ?n_Catalog_routes) (n_Catalog_begins := ?n_Catalog_begins) (mk_Catalog := ?mk_Catalog) (in_Catalog := ?in_Catalog) (if_Catalog := ?if_Catalog) (kc_Catalog := ?kc_Catalog) (fm_Catalog_route := ?fm_Catalog_route) (im_Catalog_route := ?im_Catalog_route) (fm_Catalog_outcome_of := ?fm_Catalog_outcome_of) (im_Catalog_outcome_of := ?im_Catalog_outcome_of) (fm_Catalog_close_lost := ?fm_Catalog_close_lost) (im_Catalog_close_lost := ?im_Catalog_close_lost) (fm_Catalog_apply := ?fm_Catalog_apply) (im_Catalog_apply := ?im_Catalog_apply) (fm_Catalog_shard_of := ?fm_Catalog_shard_of) (im_Catalog_shard_of := ?im_Catalog_shard_of) (aC_Schema := ?aC_Schema) (pg_Schema := ?pg_Schema) (hd_Schema := ?hd_Schema) (po_Schema := ?po_Schema) (sa_Schema := ?sa_Schema) (n_Schema_size := ?n_Schema_size) (n_Schema_width := ?n_Schema_width) (n_Schema_measure := ?n_Schema_measure) (n_Schema_fields := ?n_Schema_fields) (mk_Schema := ?mk_Schema) (in_Schema := ?in_Schema) (if_Schema := ?if_Schema) (kc_Schema := ?kc_Schema) (aX_InvalidKey := ?aX_InvalidKey) (kx_InvalidKey := ?kx_InvalidKey) (bx_InvalidKey := ?bx_InvalidKey) (tx_InvalidKey := ?tx_InvalidKey) (ix_InvalidKey := ?ix_InvalidKey) (aX_InvalidSchema := ?aX_InvalidSchema) (kx_InvalidSchema := ?kx_InvalidSchema) (bx_InvalidSchema := ?bx_InvalidSchema) (tx_InvalidSchema := ?tx_InvalidSchema) (ix_InvalidSchema := ?ix_InvalidSchema) (l3 := ?l3) (c3 := ?c3) (k3 := ?k3) (l4 := ?l4) (c4 := ?c4) (k4 := ?k4) (l10 := ?l10) (n10_width := ?n10_width) (n10_measure := ?n10_measure) (n10_fields := ?n10_fields) (t10_fields := ?t10_fields) (c10 := ?c10) (k10 := ?k10) (l13 := ?l13) (c13 := ?c13) (k13 := ?k13) (l14 := ?l14) (c14 := ?c14) (k14 := ?k14) (l15 := ?l15) (c15 := ?c15) (k15 := ?k15) (l16 := ?l16) (c16 := ?c16) (k16 := ?k16) (l17 := ?l17) (c17 := ?c17) (k17 := ?k17) (z_KINDS := ?z_KINDS) (zl_KINDS := ?zl_KINDS) (z_MEASURES := ?z_MEASURES) (zl_MEASURES := ?zl_MEASURES) (z_MODULUS := ?z_MODULUS) (z_RESERVED := ?z_RESERVED) (zl_RESERVED := ?zl_RESERVED) (z_WIDTHS := ?z_WIDTHS) (zl_WIDTHS := ?zl_WIDTHS) (z_WIDTHS_bit := ?z_WIDTHS_bit) (zl_WIDTHS_bit := ?zl_WIDTHS_bit) (z_WIDTHS_small := ?z_WIDTHS_small) (zl_WIDTHS_small := ?zl_WIDTHS_small) (z_WIDTHS_wide := ?z_WIDTHS_wide) (zl_WIDTHS_wide := ?zl_WIDTHS_wide) (z_all := ?z_all) (z_int := ?z_int) (z_len := ?z_len) (z_list := ?z_list) (z_range := ?z_range) (z_set := ?z_set) (z_sorted := ?z_sorted) (z_tuple := ?z_tuple) (ex_InvalidKey := ?ex_InvalidKey) (ex_InvalidSchema := ?ex_InvalidSchema) (zv_KINDS := ?zv_KINDS) (zn_KINDS := ?zn_KINDS) (zv_MEASURES := ?zv_MEASURES) (zn_MEASURES := ?zn_MEASURES) (zv_RESERVED := ?zv_RESERVED) (zn_RESERVED := ?zn_RESERVED) (zk_WIDTHS := ?zk_WIDTHS) (zs_WIDTHS := ?zs_WIDTHS) (zv_WIDTHS_bit := ?zv_WIDTHS_bit) (zn_WIDTHS_bit := ?zn_WIDTHS_bit) (zv_WIDTHS_small := ?zv_WIDTHS_small) (zn_WIDTHS_small := ?zn_WIDTHS_small) (zv_WIDTHS_wide := ?zv_WIDTHS_wide) (zn_WIDTHS_wide := ?zn_WIDTHS_wide) (ck_Catalog_route := ?ck_Catalog_route) (lk_Catalog_route := ?lk_Catalog_route) (pp_Catalog_route := ?pp_Catalog_route) (ch_Catalog_route := ?ch_Catalog_route) (pt_Catalog_route := ?pt_Catalog_route) (pn_Catalog_route := ?pn_Catalog_route)
    (case a0 => k_is); (case l0 => k_is); (case c0 => k_is); (case k0 => k_is); (case a1 => k_is); (case l1 => k_is); (case c1 => k_is); (case k1 => k_is); (case a2 => k_is); (case l2 => k_is); (case c2 => k_is); (case k2 => k_is); (case a5 => k_is); (case l5 => k_is); (case c5 => k_is); (case k5 => k_is); (case a6 => k_is); (case l6 => k_is); (case c6 => k_is); (case k6 => k_is); (case a7 => k_is); (case l7 => k_is); (case c7 => k_is); (case k7 => k_is); (case a8 => k_is); (case l8 => k_is); (case c8 => k_is); (case k8 => k_is); (case a9 => k_is); (case l9 => k_is); (case c9 => k_is); (case k9 => k_is); (case a11 => k_is); (case l11 => k_is); (case c11 => k_is); (case k11 => k_is); (case a12 => k_is); (case l12 => k_is); (case c12 => k_is); (case k12 => k_is); (case a18 => k_is); (case l18 => k_is); (case c18 => k_is); (case k18 => k_is); (case aC_Ledger => k_is); (case pg_Ledger => k_is); (case hd_Ledger => k_is); (case po_Ledger => k_is); (case sa_Ledger => k_is); (case n_Ledger_schema => k_is); (case n_Ledger_key => k_is); (case n_Ledger_now => k_is); (case n_Ledger_floor => k_is); (case n_Ledger_pins => k_is); (case n_Ledger_notes => k_is); (case n_Ledger_segments => k_is); (case n_Ledger_upcoming => k_is); (case mk_Ledger => k_is); (case in_Ledger => k_is); (case if_Ledger => k_is); (case kc_Ledger => k_is); (case aC_Catalog => k_is); (case pg_Catalog => k_is); (case hd_Catalog => k_is); (case po_Catalog => k_is); (case sa_Catalog => k_is); (case n_Catalog_ledger => k_is); (case n_Catalog_titles => k_is); (case n_Catalog_closed => k_is); (case n_Catalog_routes => k_is); (case n_Catalog_begins => k_is); (case mk_Catalog => k_is); (case in_Catalog => k_is); (case if_Catalog => k_is); (case kc_Catalog => k_is); (case fm_Catalog_route => k_is); (case im_Catalog_route => k_is); (case fm_Catalog_outcome_of => k_is); (case im_Catalog_outcome_of => k_is); (case fm_Catalog_close_lost => k_is); (case im_Catalog_close_lost => k_is); (case fm_Catalog_apply => k_is); (case im_Catalog_apply => k_is); (case fm_Catalog_shard_of => k_is); (case im_Catalog_shard_of => k_is); (case aC_Schema => k_is); (case pg_Schema => k_is); (case hd_Schema => k_is); (case po_Schema => k_is); (case sa_Schema => k_is); (case n_Schema_size => k_is); (case n_Schema_width => k_is); (case n_Schema_measure => k_is); (case n_Schema_fields => k_is); (case mk_Schema => k_is); (case in_Schema => k_is); (case if_Schema => k_is); (case kc_Schema => k_is); (case aX_InvalidKey => k_is); (case kx_InvalidKey => k_is); (case bx_InvalidKey => k_is); (case tx_InvalidKey => k_is); (case ix_InvalidKey => k_is); (case aX_InvalidSchema => k_is); (case kx_InvalidSchema => k_is); (case bx_InvalidSchema => k_is); (case tx_InvalidSchema => k_is); (case ix_InvalidSchema => k_is); (case l3 => k_is); (case c3 => k_is); (case k3 => k_is); (case l4 => k_is); (case c4 => k_is); (case k4 => k_is); (case l10 => k_is); (case n10_width => k_is); (case n10_measure => k_is); (case n10_fields => k_is); (case t10_fields => k_is); (case c10 => k_is); (case k10 => k_is); (case l13 => k_is); (case c13 => k_is); (case k13 => k_is); (case l14 => k_is); (case c14 => k_is); (case k14 => k_is); (case l15 => k_is); (case c15 => k_is); (case k15 => k_is); (case l16 => k_is); (case c16 => k_is); (case k16 => k_is); (case l17 => k_is); (case c17 => k_is); (case k17 => k_is); (case z_KINDS => k_is); (case zl_KINDS => k_is); (case z_MEASURES => k_is); (case zl_MEASURES => k_is); (case z_MODULUS => k_is); (case z_RESERVED => k_is); (case zl_RESERVED => k_is); (case z_WIDTHS => k_is); (case zl_WIDTHS => k_is); (case z_WIDTHS_bit => k_is); (case zl_WIDTHS_bit => k_is); (case z_WIDTHS_small => k_is); (case zl_WIDTHS_small => k_is); (case z_WIDTHS_wide => k_is); (case zl_WIDTHS_wide => k_is); (case z_all => k_is); (case z_int => k_is); (case z_len => k_is); (case z_list => k_is); (case z_range => k_is); (case z_set => k_is); (case z_sorted => k_is); (case z_tuple => k_is)
    (case zv_KINDS => exact .cons ⟨_, rfl⟩ (.cons ⟨_, rfl⟩ (.cons ⟨_, rfl⟩ .nil))); (case zn_KINDS => decide); (case zv_MEASURES => exact .cons ⟨_, rfl⟩ (.cons ⟨_, rfl⟩ (.cons ⟨_, rfl⟩ .nil))); (case zn_MEASURES => decide); (case zv_RESERVED => exact .cons ⟨_, rfl⟩ (.cons ⟨_, rfl⟩ (.cons ⟨_, rfl⟩ (.cons ⟨_, rfl⟩ (.cons ⟨_, rfl⟩ (.cons ⟨_, rfl⟩ (.cons ⟨_, rfl⟩ (.cons ⟨_, rfl⟩ .nil)))))))); (case zn_RESERVED => decide); (case zk_WIDTHS => exact ⟨⟨_, _, rfl, rfl⟩, ⟨⟨_, _, rfl, rfl⟩, ⟨⟨_, _, rfl, rfl⟩, trivial⟩⟩⟩); (case zs_WIDTHS => first | rfl | decide); (case zv_WIDTHS_bit => exact .cons ⟨_, rfl⟩ (.cons ⟨_, rfl⟩ .nil)); (case zn_WIDTHS_bit => decide); (case zv_WIDTHS_small => exact .cons ⟨_, rfl⟩ (.cons ⟨_, rfl⟩ .nil)); (case zn_WIDTHS_small => decide); (case zv_WIDTHS_wide => exact .cons ⟨_, rfl⟩ (.cons ⟨_, rfl⟩ .nil)); (case zn_WIDTHS_wide => decide); (case ck_Catalog_route => exact rfl); (case lk_Catalog_route => k_is); (case pp_Catalog_route => exact rfl); (case ch_Catalog_route => kernel_rfl); (case pt_Catalog_route => exact PySem.W.km_tabs_of Y _ (by simp)); (case pn_Catalog_route => kernel_rfl)
    (case ex_InvalidKey => k_exc); (case ex_InvalidSchema => k_exc)
