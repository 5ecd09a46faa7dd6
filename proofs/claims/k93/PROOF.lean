import PyProof.Rows.All
import Wide.All
import OpenK.AllK
import Wide.FinOn
import HandS.ForMost
import HandS.Codes
import HandS.Wide
import HandS.IsInst
import HandS.Walk
import HandS.Zip
import HandS.MakeKwOnly
import HandS.ForExc
import HandS.TryMany
import HandS.Strs
import HandS.More
import HandS.Property
import HandS.SetFor
import HandS.Conv
import HandS.Text
import HandS.TupAny
import HandS.Style
import KE.KEqSeq
import KE.LtData
import KE.OsRunLaw
import KE.GoesEnum
import HandS.OwnEq
import PyProof.NeKinds
import HandS.Small
import HandS.Deep
import KE.KTupSum
import KE.KDictZip
import KE.KStar
import HandS.Star
import HandS.FStr
import KE.HD2
import HandS.SetKeys
import PySem.Challenge.RW_surenear_k93_things_are_equal_by_all_fie
set_option Elab.async false
set_option linter.all false
set_option maxRecDepth 100000
set_option synthInstance.maxHeartbeats 400000
set_option synthInstance.maxSize 4000
namespace TP
open PySem PySem.Spec PyProof.Rows L2
/-! ### heaps: Z is the part that never changes, H is all -/
def SameX (S : List Addr) (H H' : Hp) : Prop := ∀ a o, a ∉ S → H a = some o → H' a = some o
theorem SameX.refl {S : List Addr} {H : Hp} : SameX S H H := fun _ _ _ h => h
theorem SameX.trans {S : List Addr} {H H1 H2 : Hp} (f : SameX S H H1) (g : SameX S H1 H2) : SameX S H H2 := fun a o n h => g a o n (f a o n h)
structure Step (S : List Addr) (Z H Z' H' : Hp) : Prop where
  z : Same Z Z'
  s : Same Z' H'
  h : SameX S H H'
  n : ∀ a, H a ≠ none → Z a = none → Z' a = none
  al : ∀ a, H a ≠ none → H' a ≠ none
theorem Step.refl {S : List Addr} {Z H : Hp} (s : Same Z H) : Step S Z H Z H := ⟨Same.refl _, s, SameX.refl, fun _ _ h => h, fun _ h => h⟩
theorem Step.mine {S F : List Addr} {Z H Z1 H1 Z2 H2 : Hp} (f : Step S Z H Z1 H1) (g : Step F Z1 H1 Z2 H2) (m : ∀ a ∈ F, a ∈ S ∨ H a = none) : Step S Z H Z2 H2 :=
  ⟨f.z.trans g.z, g.s, fun a o na h => g.h a o (fun q => by rcases m a q with x | x; exact na x; rw [x] at h; cases h) (f.h a o na h), fun a h z => g.n a (f.al a h) (f.n a h z), fun a h => g.al a (f.al a h)⟩
theorem Step.trans {S : List Addr} {Z H Z1 H1 Z2 H2 : Hp} (f : Step S Z H Z1 H1) (g : Step S Z1 H1 Z2 H2) : Step S Z H Z2 H2 := f.mine g fun _ h => .inl h
theorem Step.weak {S F : List Addr} {Z H Z1 H1 : Hp} (g : Step F Z H Z1 H1) (m : ∀ a ∈ F, a ∈ S ∨ H a = none) : Step S Z H Z1 H1 :=
  ⟨g.z, g.s, fun a o na h => g.h a o (fun q => by rcases m a q with x | x; exact na x; rw [x] at h; cases h) h, g.n, g.al⟩
theorem Step.pure {S : List Addr} {Z H Z1 H1 : Hp} (g : Step [] Z H Z1 H1) : Step S Z H Z1 H1 := g.weak fun _ h => by cases h
theorem ne_of_some {H : Hp} {a p : Addr} (h : H a ≠ none) (hp : H p = none) : a ≠ p := fun e => h (e ▸ hp)
theorem some_ne {H : Hp} {a : Addr} {o : HO} (h : H a = some o) : H a ≠ none := by rw [h]; exact fun z => nomatch z
theorem same_none {Z H : Hp} (s : Same Z H) {p : Addr} (h : H p = none) : Z p = none := s.free h
theorem same_upd {H : Hp} {p : Addr} {o : HO} (h : H p = none) : Same H (upd H p o) := fun a u e => by
  rw [upd_ne (ne_of_some (some_ne e) h)]; exact e
theorem same_upd2 {Z H : Hp} {p : Addr} {o : HO} (s : Same Z H) : Same (upd Z p o) (upd H p o) := fun a u e => by
  by_cases q : a = p
  · subst q; rw [upd_same] at e ⊢; exact e
  · rw [upd_ne q] at e ⊢; exact s a u e
/-- something new that never changes -/
theorem Step.new {Z H : Hp} {p : Addr} {o : HO} (s : Same Z H) (hp : H p = none) : Step [] Z H (upd Z p o) (upd H p o) :=
  ⟨same_upd (same_none s hp), same_upd2 s, fun a u _ e => same_upd hp a u e, fun a h z => by rw [upd_ne (ne_of_some h hp)]; exact z, fun a h => by rw [upd_ne (ne_of_some h hp)]; exact h⟩
/-- something new of one's own -/
theorem Step.own {Z H : Hp} {p : Addr} {o : HO} (s : Same Z H) (hp : H p = none) : Step [] Z H Z (upd H p o) :=
  ⟨Same.refl _, s.trans (same_upd hp), fun a u _ e => same_upd hp a u e, fun _ _ z => z, fun a h => by rw [upd_ne (ne_of_some h hp)]; exact h⟩
/-- one's own is changed -/
theorem Step.set {Z H : Hp} {p : Addr} {o : HO} (s : Same Z H) (hz : Z p = none) : Step [p] Z H Z (upd H p o) := by
  refine ⟨Same.refl _, fun a u e => ?_, fun a u n e => ?_, fun _ _ z => z, fun a h => ?_⟩
  · rw [upd_ne (ne_of_some (some_ne e) hz)]; exact s a u e
  · rw [upd_ne (fun q => n (by rw [q]; exact List.mem_cons_self))]; exact e
  · by_cases q : a = p
    · subst q; rw [upd_same]; exact fun z => nomatch z
    · rw [upd_ne q]; exact h

/-! ### kinds of values -/
structure Ty (α : Type) where
  r : Hp → V → α → Prop
  mono : ∀ {Z Z' : Hp} {v : V} {x : α}, Same Z Z' → r Z v x → r Z' v x
def yInt : Ty Int := ⟨fun _ v x => v = .int x, fun _ h => h⟩
def yBool : Ty Bool := ⟨fun _ v x => v = .bl x, fun _ h => h⟩
def okS (x : Str) : Bool := PyData.strOk x && decide (x.length ≤ sizeLine)
def yStr : Ty Str := ⟨fun _ v x => v = .str x ∧ okS x = true, fun _ h => h⟩
def yNon : Ty Unit := ⟨fun _ v _ => v = .non, fun _ h => h⟩
def yOpt {α : Type} (τ : Ty α) : Ty (Option α) := ⟨fun Z v x => match x with | none => v = .non | some y => τ.r Z v y ∧ v ≠ .non, fun {_ _ _ x} s h => match x, h with | none, h => h | some _, h => ⟨τ.mono s h.1, h.2⟩⟩
/-- place by place -/
inductive All {α : Type} (R : V → α → Prop) : List V → List α → Prop
  | nil : All R [] []
  | cons {v : V} {vs : List V} {x : α} {xs : List α} : R v x → All R vs xs → All R (v :: vs) (x :: xs)
section
variable {α β : Type} {R R' : V → α → Prop}
theorem All.imp (f : ∀ v x, R v x → R' v x) : ∀ {vs : List V} {xs : List α}, All R vs xs → All R' vs xs
  | _, _, .nil => .nil
  | _, _, .cons h t => .cons (f _ _ h) (t.imp f)
theorem All.len : ∀ {vs : List V} {xs : List α}, All R vs xs → vs.length = xs.length
  | _, _, .nil => rfl
  | _, _, .cons _ t => congrArg Nat.succ t.len
theorem All.app : ∀ {vs ws : List V} {xs ys : List α}, All R vs xs → All R ws ys → All R (vs ++ ws) (xs ++ ys)
  | _, _, _, _, .nil, h => h
  | _, _, _, _, .cons h t, g => .cons h (t.app g)
theorem All.snoc {vs : List V} {xs : List α} {v : V} {x : α} (h : All R vs xs) (g : R v x) : All R (vs ++ [v]) (xs ++ [x]) := h.app (.cons g .nil)
theorem All.get : ∀ {vs : List V} {xs : List α} {i : Nat} {v : V}, All R vs xs → vs[i]? = some v → ∃ x, xs[i]? = some x ∧ R v x
  | _, _, _, _, .nil, h => by simp at h
  | _, _, 0, _, .cons h _, e => ⟨_, rfl, by have := Option.some.inj e; rw [← this]; exact h⟩
  | _, _, i + 1, _, .cons _ t, e => t.get (i := i) e
theorem All.at : ∀ {vs : List V} {xs : List α} {i : Nat} {x : α}, All R vs xs → xs[i]? = some x → ∃ v, vs[i]? = some v ∧ R v x
  | _, _, _, _, .nil, h => by simp at h
  | _, _, 0, _, .cons h _, e => ⟨_, rfl, by have := Option.some.inj e; rw [← this]; exact h⟩
  | _, _, i + 1, _, .cons _ t, e => t.at (i := i) e
theorem All.take : ∀ {vs : List V} {xs : List α} (n : Nat), All R vs xs → All R (vs.take n) (xs.take n)
  | _, _, 0, _ => .nil
  | _, _, _ + 1, .nil => .nil
  | _, _, n + 1, .cons h t => .cons h (t.take n)
theorem All.drop : ∀ {vs : List V} {xs : List α} (n : Nat), All R vs xs → All R (vs.drop n) (xs.drop n)
  | _, _, 0, h => h
  | _, _, _ + 1, .nil => .nil
  | _, _, n + 1, .cons _ t => t.drop n
theorem All.set {v : V} {x : α} (g : R v x) : ∀ {vs : List V} {xs : List α} (n : Nat), All R vs xs → All R (vs.set n v) (xs.set n x)
  | _, _, _, .nil => .nil
  | _, _, 0, .cons _ t => .cons g t
  | _, _, n + 1, .cons h t => .cons h (t.set g n)
theorem All.ints : ∀ {vs : List V} {xs : List Int}, All (fun v x => v = .int x) vs xs → vs = xs.map V.int
  | _, _, .nil => rfl
  | _, _, .cons h t => by rw [h, t.ints]; rfl
theorem All.map {f : α → V} (e : ∀ v x, R v x → v = f x) : ∀ {vs : List V} {xs : List α}, All R vs xs → vs = xs.map f
  | _, _, .nil => rfl
  | _, _, .cons h t => by rw [e _ _ h, t.map e]; rfl
theorem All.bls : ∀ {vs : List V} {xs : List Bool}, All (fun v x => v = .bl x) vs xs → vs = xs.map V.bl
  | _, _, .nil => rfl
  | _, _, .cons h t => by rw [h, t.bls]; rfl
theorem All.ofInts : ∀ xs : List Int, All (fun v x => v = .int x) (xs.map V.int) xs
  | [] => .nil
  | _ :: r => .cons rfl (All.ofInts r)
theorem All.atI {vs : List V} {xs : List α} {i : Int} {x : α} (h : All R vs xs) (e : L2.atI xs i = some x) : ∃ v, L2.atI vs i = some v ∧ R v x := by
  unfold L2.atI at e ⊢
  rw [h.len]
  cases q : ixN xs.length i with
  | none => rw [q] at e; cases e
  | some j =>
    rw [q] at e
    exact h.at (i := j) e
end
/-- a list that never changes -/
def yList {α : Type} (τ : Ty α) : Ty (List α) := ⟨fun Z v xs => ∃ a vs, v = .ref a ∧ Z a = some (.lst vs) ∧ All (τ.r Z) vs xs ∧ xs.length ≤ sizeLine,
  fun s ⟨a, vs, e, h, t, l⟩ => ⟨a, vs, e, s _ _ h, t.imp fun _ _ => τ.mono s, l⟩⟩
theorem seqT_same {K : PySem.W.Frag} {H H' : Hp} {q : Addr} {xs : List V} (f : Same H H') (h : SqT K H q xs) : SqT K H' q xs := by
  rcases h with (h | ⟨o, h⟩) | h
  · exact .inl (.inl (f _ _ h))
  · exact .inl (.inr ⟨o, f _ _ h⟩)
  · exact .inr h
section
variable (K : PySem.W.Frag)
def yTup {α : Type} (τ : Ty α) : Ty (List α) := ⟨fun Z v xs => ∃ a vs, v = .ref a ∧ SqT K Z a vs ∧ All (τ.r Z) vs xs ∧ xs.length ≤ sizeLine,
  fun s ⟨a, vs, e, h, t, l⟩ => ⟨a, vs, e, seqT_same s h, t.imp fun _ _ => τ.mono s, l⟩⟩
def yP0 : Ty Unit := ⟨fun Z v _ => ∃ a, v = .ref a ∧ SqT K Z a [], fun s ⟨a, e, h⟩ => ⟨a, e, seqT_same s h⟩⟩
def yP1 {α : Type} (τ : Ty α) : Ty α := ⟨fun Z v x => ∃ a v1, v = .ref a ∧ SqT K Z a [v1] ∧ τ.r Z v1 x, fun s ⟨a, v1, e, h, h1⟩ => ⟨a, v1, e, seqT_same s h, τ.mono s h1⟩⟩
def yP2 {α β : Type} (τ : Ty α) (υ : Ty β) : Ty (α × β) := ⟨fun Z v x => ∃ a v1 v2, v = .ref a ∧ SqT K Z a [v1, v2] ∧ τ.r Z v1 x.1 ∧ υ.r Z v2 x.2,
  fun s ⟨a, v1, v2, e, h, h1, h2⟩ => ⟨a, v1, v2, e, seqT_same s h, τ.mono s h1, υ.mono s h2⟩⟩
def yP3 {α β γ : Type} (τ : Ty α) (υ : Ty β) (φ : Ty γ) : Ty (α × β × γ) := ⟨fun Z v x => ∃ a v1 v2 v3, v = .ref a ∧ SqT K Z a [v1, v2, v3] ∧ τ.r Z v1 x.1 ∧ υ.r Z v2 x.2.1 ∧ φ.r Z v3 x.2.2,
  fun s ⟨a, v1, v2, v3, e, h, h1, h2, h3⟩ => ⟨a, v1, v2, v3, e, seqT_same s h, τ.mono s h1, υ.mono s h2, φ.mono s h3⟩⟩
def yP4 {α β γ δ : Type} (τ : Ty α) (υ : Ty β) (φ : Ty γ) (ψ : Ty δ) : Ty (α × β × γ × δ) := ⟨fun Z v x => ∃ a v1 v2 v3 v4, v = .ref a ∧ SqT K Z a [v1, v2, v3, v4] ∧ τ.r Z v1 x.1 ∧ υ.r Z v2 x.2.1 ∧ φ.r Z v3 x.2.2.1 ∧ ψ.r Z v4 x.2.2.2,
  fun s ⟨a, v1, v2, v3, v4, e, h, h1, h2, h3, h4⟩ => ⟨a, v1, v2, v3, v4, e, seqT_same s h, τ.mono s h1, υ.mono s h2, φ.mono s h3, ψ.mono s h4⟩⟩
end

/-! ### what changes: s of a kind μ stands at the addresses fp -/
structure Mu (μ : Type) where
  fp : List Addr
  m : μ → Hp → Hp → Prop
  al : ∀ {s : μ} {Z H : Hp}, m s Z H → ∀ a ∈ fp, H a ≠ none ∧ Z a = none
  loc : ∀ {s : μ} {Z H Z' H' : Hp}, Same Z Z' → (∀ a ∈ fp, ∀ o, H a = some o → H' a = some o) → (∀ a ∈ fp, H a ≠ none → Z a = none → Z' a = none) → m s Z H → m s Z' H'
def muN : Mu Unit := ⟨[], fun _ _ _ => True, fun _ _ h => (nomatch h), fun _ _ _ _ => trivial⟩
/-- what was told of more that stands still is told without it -/
def Mu.Back {μ : Type} (M : Mu μ) : Prop := ∀ {s s' : μ} {Z H Z' H' : Hp}, Same Z Z' → M.m s Z H → M.m s' Z' H' → M.m s' Z H'
theorem muN_back : muN.Back := fun _ _ _ => trivial
theorem Mu.pure {μ : Type} (M : Mu μ) {s : μ} {Z H Z' H' : Hp} (g : Step [] Z H Z' H') (h : M.m s Z H) : M.m s Z' H' := M.loc g.z (fun a _ o e => g.h a o (List.not_mem_nil) e) (fun a _ x y => g.n a x y) h
/-- what a value is, of the heaps -/
structure Rr (fp : List Addr) where
  r : Hp → Hp → V → Prop
  st : ∀ {Z H Z' H' : Hp} {v : V}, Step fp Z H Z' H' → r Z H v → r Z' H' v
structure Ra (fp : List Addr) where
  r : Hp → Hp → List V → Prop
  st : ∀ {Z H Z' H' : Hp} {vs : List V}, Step fp Z H Z' H' → r Z H vs → r Z' H' vs
def ty {fp : List Addr} {α : Type} (τ : Ty α) (x : α) : Rr fp := ⟨fun Z _ v => τ.r Z v x, fun g h => τ.mono g.z h⟩
/-- a list that may be read: one that never changes, or one of one's own -/
def RdL (fp : List Addr) (Z H : Hp) (p : Addr) (vs : List V) : Prop := Z p = some (.lst vs) ∨ (H p = some (.lst vs) ∧ p ∉ fp)
theorem RdL.st {fp : List Addr} {Z H Z' H' : Hp} {p : Addr} {vs : List V} (g : Step fp Z H Z' H') (h : RdL fp Z H p vs) : RdL fp Z' H' p vs := h.elim (fun e => .inl (g.z _ _ e)) fun e => .inr ⟨g.h _ _ e.2 e.1, e.2⟩
theorem RdL.get {fp : List Addr} {Z H : Hp} {p : Addr} {vs : List V} (s : Same Z H) (h : RdL fp Z H p vs) : H p = some (.lst vs) := h.elim (fun e => s _ _ e) fun e => e.1
def li {fp : List Addr} {α : Type} (τ : Ty α) (xs : List α) : Rr fp := ⟨fun Z H v => ∃ p vs, v = .ref p ∧ RdL fp Z H p vs ∧ All (τ.r Z) vs xs ∧ xs.length ≤ sizeLine,
  fun g ⟨p, vs, e, h, t, l⟩ => ⟨p, vs, e, h.st g, t.imp fun _ _ => τ.mono g.z, l⟩⟩
/-- an address, whatever stands there -/
def isRef {fp : List Addr} (a : Addr) : Rr fp := ⟨fun _ _ v => v = .ref a, fun _ h => h⟩
def ra0 {fp : List Addr} : Ra fp := ⟨fun _ _ vs => vs = [], fun _ h => h⟩
def rac {fp : List Addr} (R : Rr fp) (Rs : Ra fp) : Ra fp := ⟨fun Z H vs => ∃ v r, vs = v :: r ∧ R.r Z H v ∧ Rs.r Z H r, fun g ⟨v, r, e, h, t⟩ => ⟨v, r, e, R.st g h, Rs.st g t⟩⟩

section
variable {μ : Type}
/-- from the state s the expression gives a value of which R is true, and the state s' -/
def Ev (M : Mu μ) (t : TE) (σ : L2.St) (Z H : Hp) (s : μ) (R : Rr M.fp) (s' : μ) : Prop :=
  ∀ Z1 H1, Same Z Z1 → SameX M.fp H H1 → Same Z1 H1 → M.m s Z1 H1 → ∀ Q : VK, (∀ v Z2 H2, Step M.fp Z1 H1 Z2 H2 → M.m s' Z2 H2 → R.r Z2 H2 v → Q v H2) → t σ H1 Q
def EvT (M : Mu μ) (t : TT) (σ : L2.St) (Z H : Hp) (s : μ) (b : Bool) (s' : μ) : Prop :=
  ∀ Z1 H1, Same Z Z1 → SameX M.fp H H1 → Same Z1 H1 → M.m s Z1 H1 → ∀ Q : Bool → Hp → Prop, (∀ Z2 H2, Step M.fp Z1 H1 Z2 H2 → M.m s' Z2 H2 → Q b H2) → t σ H1 Q
def EvA (M : Mu μ) (t : TA) (σ : L2.St) (Z H : Hp) (s : μ) (Rs : Ra M.fp) (s' : μ) : Prop :=
  ∀ Z1 H1, Same Z Z1 → SameX M.fp H H1 → Same Z1 H1 → M.m s Z1 H1 → ∀ Q : List V → Hp → Prop, (∀ vs Z2 H2, Step M.fp Z1 H1 Z2 H2 → M.m s' Z2 H2 → Rs.r Z2 H2 vs → Q vs H2) → t σ H1 Q
variable {M : Mu μ} {σ : L2.St} {Z H : Hp} {s s' s1 s2 s3 : μ} {ta tb tc te : TE} {t : TA}
theorem Ev.up {t : TE} {R : Rr M.fp} {Z' H' : Hp} (h : Ev M t σ Z H s R s') (z : Same Z Z') (x : SameX M.fp H H') : Ev M t σ Z' H' s R s' := fun Z1 H1 a b => h Z1 H1 (z.trans a) (x.trans b)
theorem Ev.weak {t : TE} {R R' : Rr M.fp} (h : Ev M t σ Z H s R s') (f : ∀ Z H v, Same Z H → R.r Z H v → R'.r Z H v) : Ev M t σ Z H s R' s' := fun Z1 H1 a b c d Q q => h Z1 H1 a b c d Q fun v Z2 H2 e m r => q v Z2 H2 e m (f _ _ _ e.s r)
/-- nothing is done -/
theorem ev_of {t : TE} {R : Rr M.fp} (h : ∀ Z1 H1, Same Z Z1 → SameX M.fp H H1 → Same Z1 H1 → ∀ Q : VK, (∀ v, R.r Z1 H1 v → Q v H1) → t σ H1 Q) : Ev M t σ Z H s R s := fun Z1 H1 a b c d Q q => h Z1 H1 a b c Q fun v r => q v Z1 H1 (Step.refl c) d r
/-- one after the other, by values -/
theorem ev_op {R1 R3 R : Rr M.fp} {r : R2} (ha : Ev M ta σ Z H s R1 s1) (hb : Ev M tb σ Z H s1 R3 s2) (h : ∀ Z H v w, Same Z H → R1.r Z H v → R3.r Z H w → ∀ Q : VK, (∀ u Z2 H2, Step [] Z H Z2 H2 → R.r Z2 H2 u → Q u H2) → r v w H Q) : Ev M (tOp r ta tb) σ Z H s R s2 :=
  fun Z1 H1 a b c d Q q => ha Z1 H1 a b c d _ fun v Z2 H2 e m rv => hb Z2 H2 (a.trans e.z) (b.trans e.h) e.s m _ fun w Z3 H3 e2 m2 rw => h Z3 H3 v w e2.s (R1.st e2 rv) rw _ fun u Z4 H4 e3 ru => q u Z4 H4 ((e.trans e2).trans e3.pure) (M.pure e3 m2) ru
theorem ev_un {R1 R : Rr M.fp} {r : V → Hp → VK → Prop} (ha : Ev M ta σ Z H s R1 s1) (h : ∀ Z H v, Same Z H → R1.r Z H v → ∀ Q : VK, (∀ u Z2 H2, Step [] Z H Z2 H2 → R.r Z2 H2 u → Q u H2) → r v H Q) : Ev M (fun σ H Q => ta σ H fun x H1 => r x H1 Q) σ Z H s R s1 :=
  fun Z1 H1 a b c d Q q => ha Z1 H1 a b c d _ fun v Z2 H2 e m rv => h Z2 H2 v e.s rv _ fun u Z4 H4 e3 ru => q u Z4 H4 (e.trans e3.pure) (M.pure e3 m) ru
theorem eva_nil : EvA M tNil σ Z H s ra0 s := fun Z1 H1 _ _ c d Q q => q [] Z1 H1 (Step.refl c) d rfl
theorem eva_cons {R : Rr M.fp} {Rs : Ra M.fp} (ha : Ev M ta σ Z H s R s1) (hr : EvA M t σ Z H s1 Rs s2) : EvA M (tCons ta t) σ Z H s (rac R Rs) s2 :=
  fun Z1 H1 a b c d Q q => ha Z1 H1 a b c d _ fun v Z2 H2 e m rv => hr Z2 H2 (a.trans e.z) (b.trans e.h) e.s m _ fun vs Z3 H3 e2 m2 rs => q _ Z3 H3 (e.trans e2) m2 ⟨v, vs, rfl, R.st e2 rv, rs⟩
/-- by all arguments -/
theorem ev_cb {Rs : Ra M.fp} {R : Rr M.fp} {r : List V → Hp → VK → Prop} (ha : EvA M t σ Z H s Rs s1) (h : ∀ Z H vs, Same Z H → Rs.r Z H vs → ∀ Q : VK, (∀ u Z2 H2, Step [] Z H Z2 H2 → R.r Z2 H2 u → Q u H2) → r vs H Q) : Ev M (tCB r t) σ Z H s R s1 :=
  fun Z1 H1 a b c d Q q => ha Z1 H1 a b c d _ fun vs Z2 H2 e m rv => h Z2 H2 vs e.s rv _ fun u Z4 H4 e3 ru => q u Z4 H4 (e.trans e3.pure) (M.pure e3 m) ru
/-! names and constants -/
theorem ev_var {i : Nat} {v : V} {α : Type} {τ : Ty α} {x : α} (e : σ[i]? = some (some v)) (h : τ.r Z v x) : Ev M (tVar i) σ Z H s (ty τ x) s := ev_of fun _ _ a _ _ _ q => ⟨v, e, q v (τ.mono a h)⟩
/-- a list of one's own -/
theorem ev_own {i : Nat} {p : Addr} {vs : List V} {α : Type} {τ : Ty α} {xs : List α} (e : σ[i]? = some (some (.ref p))) (h : H p = some (.lst vs)) (n : p ∉ M.fp) (t : All (τ.r Z) vs xs) (l : xs.length ≤ sizeLine) : Ev M (tVar i) σ Z H s (li τ xs) s :=
  ev_of fun _ _ a b _ _ q => ⟨.ref p, e, q _ ⟨p, vs, rfl, .inr ⟨b _ _ n h, n⟩, t.imp fun _ _ => τ.mono a, l⟩⟩
theorem ev_ref {i : Nat} {p : Addr} (e : σ[i]? = some (some (.ref p))) : Ev M (tVar i) σ Z H s (isRef p) s := ev_of fun _ _ _ _ _ _ q => ⟨_, e, q _ rfl⟩
theorem ev_int {i : Int} : Ev M (tC (.int i)) σ Z H s (ty yInt i) s := ev_of fun _ _ _ _ _ _ q => q _ rfl
theorem ev_bl {i : Bool} : Ev M (tC (.bl i)) σ Z H s (ty yBool i) s := ev_of fun _ _ _ _ _ _ q => q _ rfl
theorem ev_str {i : Str} (h : okS i = true := by decide +kernel) : Ev M (tC (.str i)) σ Z H s (ty yStr i) s := ev_of fun _ _ _ _ _ _ q => q _ ⟨rfl, h⟩
theorem ev_non : Ev M (tC .non) σ Z H s (ty yNon ()) s := ev_of fun _ _ _ _ _ _ q => q _ rfl
theorem ev_const {v : V} {α : Type} {τ : Ty α} {x : α} (h : ∀ Z, τ.r Z v x) : Ev M (tC v) σ Z H s (ty τ x) s := ev_of fun _ _ _ _ _ _ q => q _ (h _)
theorem ev_li {α : Type} {τ : Ty α} {xs : List α} (h : Ev M ta σ Z H s (ty (yList τ) xs) s') : Ev M ta σ Z H s (li τ xs) s' := h.weak fun _ _ _ _ ⟨a, vs, e, g, t, l⟩ => ⟨a, vs, e, .inl g, t, l⟩
theorem ev_none {α : Type} {τ : Ty α} (h : Ev M ta σ Z H s (ty yNon ()) s') : Ev M ta σ Z H s (ty (yOpt τ) none) s' := h.weak fun _ _ _ _ e => e
/-- of this kind nothing is None -/
def NonNil {α : Type} (τ : Ty α) : Prop := ∀ Z v x, τ.r Z v x → v ≠ .non
theorem nn_int : NonNil yInt := fun _ _ _ e => by rw [show _ = V.int _ from e]; exact fun z => nomatch z
theorem nn_bool : NonNil yBool := fun _ _ _ e => by rw [show _ = V.bl _ from e]; exact fun z => nomatch z
theorem nn_str : NonNil yStr := fun _ _ _ e => by rw [show _ = V.str _ from e.1]; exact fun z => nomatch z
theorem nn_list {α : Type} {τ : Ty α} : NonNil (yList τ) := fun _ _ _ ⟨_, _, e, _⟩ => by rw [e]; exact fun z => nomatch z
theorem nn_tup {K : PySem.W.Frag} {α : Type} {τ : Ty α} : NonNil (yTup K τ) := fun _ _ _ ⟨_, _, e, _⟩ => by rw [e]; exact fun z => nomatch z
theorem nn_p2 {K : PySem.W.Frag} {α β : Type} {τ : Ty α} {υ : Ty β} : NonNil (yP2 K τ υ) := fun _ _ _ ⟨_, _, _, e, _⟩ => by rw [e]; exact fun z => nomatch z
theorem nn_p3 {K : PySem.W.Frag} {α β γ : Type} {τ : Ty α} {υ : Ty β} {φ : Ty γ} : NonNil (yP3 K τ υ φ) := fun _ _ _ ⟨_, _, _, _, e, _⟩ => by rw [e]; exact fun z => nomatch z
theorem nn_p4 {K : PySem.W.Frag} {α β γ δ : Type} {τ : Ty α} {υ : Ty β} {φ : Ty γ} {ψ : Ty δ} : NonNil (yP4 K τ υ φ ψ) := fun _ _ _ ⟨_, _, _, _, _, e, _⟩ => by rw [e]; exact fun z => nomatch z
theorem ev_some {α : Type} {τ : Ty α} {x : α} (n : NonNil τ) (h : Ev M ta σ Z H s (ty τ x) s') : Ev M ta σ Z H s (ty (yOpt τ) (some x)) s' := h.weak fun _ _ _ _ e => ⟨e, n _ _ _ e⟩
theorem ev_uno {α : Type} {τ : Ty α} {x : α} {o : Option α} (h : Ev M ta σ Z H s (ty (yOpt τ) o) s') (e : o = some x) : Ev M ta σ Z H s (ty τ x) s' := by
  subst e; exact h.weak fun _ _ _ _ e => e.1
theorem ev_cast {α : Type} {τ : Ty α} {x y : α} (h : Ev M ta σ Z H s (ty τ x) s') (e : x = y) : Ev M ta σ Z H s (ty τ y) s' := e ▸ h
/-! numbers -/
section
variable {i j : Int}
theorem ev_I0 {g : Int → Int → V} {R : Rr M.fp} (ha : Ev M ta σ Z H s (ty yInt i) s1) (hb : Ev M tb σ Z H s1 (ty yInt j) s2) (h : ∀ Z H, R.r Z H (g i j)) : Ev M (tOp (rI0 g) ta tb) σ Z H s R s2 :=
  ev_op ha hb fun _ _ _ _ sz e1 e2 _ q => ⟨i, j, e1, e2, q _ _ _ (Step.refl sz) (h _ _)⟩
theorem ev_I1 {C : Int → Int → Prop} {g : Int → Int → V} {R : Rr M.fp} (ha : Ev M ta σ Z H s (ty yInt i) s1) (hb : Ev M tb σ Z H s1 (ty yInt j) s2) (c : C i j) (h : ∀ Z H, R.r Z H (g i j)) : Ev M (tOp (rI C g) ta tb) σ Z H s R s2 :=
  ev_op ha hb fun _ _ _ _ sz e1 e2 _ q => ⟨i, j, e1, e2, c, q _ _ _ (Step.refl sz) (h _ _)⟩
theorem ev_add (ha : Ev M ta σ Z H s (ty yInt i) s1) (hb : Ev M tb σ Z H s1 (ty yInt j) s2) : Ev M (tOp (rI0 fun i j => .int (i + j)) ta tb) σ Z H s (ty yInt (i + j)) s2 := ev_I0 ha hb fun _ _ => rfl
theorem ev_sub (ha : Ev M ta σ Z H s (ty yInt i) s1) (hb : Ev M tb σ Z H s1 (ty yInt j) s2) : Ev M (tOp (rI0 fun i j => .int (i - j)) ta tb) σ Z H s (ty yInt (i - j)) s2 := ev_I0 ha hb fun _ _ => rfl
theorem ev_mul (ha : Ev M ta σ Z H s (ty yInt i) s1) (hb : Ev M tb σ Z H s1 (ty yInt j) s2) (c : CMul i j) : Ev M (tOp (rI CMul fun i j => .int (i * j)) ta tb) σ Z H s (ty yInt (i * j)) s2 := ev_I1 ha hb c fun _ _ => rfl
theorem ev_fdiv (ha : Ev M ta σ Z H s (ty yInt i) s1) (hb : Ev M tb σ Z H s1 (ty yInt j) s2) (c : CDiv i j) : Ev M (tOp (rI CDiv fun i j => .int (i / j)) ta tb) σ Z H s (ty yInt (i / j)) s2 := ev_I1 ha hb c fun _ _ => rfl
theorem ev_mod (ha : Ev M ta σ Z H s (ty yInt i) s1) (hb : Ev M tb σ Z H s1 (ty yInt j) s2) (c : 0 < j) : Ev M (tOp (rI (fun _ j => 0 < j) fun i j => .int (i % j)) ta tb) σ Z H s (ty yInt (i % j)) s2 := ev_I1 (C := fun _ j => 0 < j) ha hb c fun _ _ => rfl
theorem ev_pow (ha : Ev M ta σ Z H s (ty yInt i) s1) (hb : Ev M tb σ Z H s1 (ty yInt j) s2) (c : CPow i j) : Ev M (tOp (rI CPow fun i j => .int (i ^ j.toNat)) ta tb) σ Z H s (ty yInt (i ^ j.toNat)) s2 := ev_I1 ha hb c fun _ _ => rfl
theorem ev_tun {R1 R : Rr M.fp} {r : V → Hp → VK → Prop} (ha : Ev M ta σ Z H s R1 s1) (h : ∀ Z H v, Same Z H → R1.r Z H v → ∀ Q : VK, (∀ u Z2 H2, Step [] Z H Z2 H2 → R.r Z2 H2 u → Q u H2) → r v H Q) : Ev M (tUn r ta) σ Z H s R s1 :=
  fun Z1 H1 a b c d Q q => ha Z1 H1 a b c d _ fun v Z2 H2 e m rv => h Z2 H2 v e.s rv _ fun u Z4 H4 e3 ru => q u Z4 H4 (e.trans e3.pure) (M.pure e3 m) ru
theorem ev_neg (ha : Ev M ta σ Z H s (ty yInt i) s1) : Ev M (tUn (rU fun i => .int (-i)) ta) σ Z H s (ty yInt (-i)) s1 := ev_tun ha fun _ _ _ sz e _ q => ⟨i, e, q _ _ _ (Step.refl sz) rfl⟩
theorem ev_lt (ha : Ev M ta σ Z H s (ty yInt i) s1) (hb : Ev M tb σ Z H s1 (ty yInt j) s2) : Ev M (tOp (rI0 fun i j => .bl (decide (i < j))) ta tb) σ Z H s (ty yBool (decide (i < j))) s2 := ev_I0 ha hb fun _ _ => rfl
theorem ev_le (ha : Ev M ta σ Z H s (ty yInt i) s1) (hb : Ev M tb σ Z H s1 (ty yInt j) s2) : Ev M (tOp (rI0 fun i j => .bl (decide (i ≤ j))) ta tb) σ Z H s (ty yBool (decide (i ≤ j))) s2 := ev_I0 ha hb fun _ _ => rfl
theorem ev_gt (ha : Ev M ta σ Z H s (ty yInt i) s1) (hb : Ev M tb σ Z H s1 (ty yInt j) s2) : Ev M (tOp (rI0 fun i j => .bl (decide (j < i))) ta tb) σ Z H s (ty yBool (decide (j < i))) s2 := ev_I0 ha hb fun _ _ => rfl
theorem ev_ge (ha : Ev M ta σ Z H s (ty yInt i) s1) (hb : Ev M tb σ Z H s1 (ty yInt j) s2) : Ev M (tOp (rI0 fun i j => .bl (decide (j ≤ i))) ta tb) σ Z H s (ty yBool (decide (j ≤ i))) s2 := ev_I0 ha hb fun _ _ => rfl
end
/-! equality of flat things -/
/-- flat: the value is told by the thing alone -/
structure Flat {α : Type} (τ : Ty α) (f : α → V) : Prop where
  eq : ∀ Z v x, τ.r Z v x → v = f x
  inj : ∀ x y, f x = f y → x = y
  sc : ∀ x y, scal (f x) (f y) = true
theorem flat_int : Flat yInt V.int := ⟨fun _ _ _ h => h, fun _ _ h => V.int.inj h, fun _ _ => rfl⟩
theorem flat_str : Flat yStr V.str := ⟨fun _ _ _ h => h.1, fun _ _ h => V.str.inj h, fun _ _ => rfl⟩
theorem flat_bool : Flat yBool V.bl := ⟨fun _ _ _ h => h, fun _ _ h => V.bl.inj h, fun _ _ => rfl⟩
section
variable {α : Type} {τ : Ty α} {f : α → V} {x y : α}
theorem ev_eq [DecidableEq α] (F : Flat τ f) (ha : Ev M ta σ Z H s (ty τ x) s1) (hb : Ev M tb σ Z H s1 (ty τ y) s2) : Ev M (tOp rEq ta tb) σ Z H s (ty yBool (decide (x = y))) s2 :=
  ev_op ha hb fun Z H v w sz e1 e2 Q q => by
    rw [F.eq _ _ _ e1, F.eq _ _ _ e2]
    have : decide (f x = f y) = decide (x = y) := decide_eq_decide.mpr ⟨F.inj x y, congrArg f⟩
    exact ⟨F.sc _ _, q _ _ _ (Step.refl sz) (congrArg V.bl this)⟩
theorem ev_ne [DecidableEq α] (F : Flat τ f) (ha : Ev M ta σ Z H s (ty τ x) s1) (hb : Ev M tb σ Z H s1 (ty τ y) s2) : Ev M (tOp rNe ta tb) σ Z H s (ty yBool (!decide (x = y))) s2 :=
  ev_op ha hb fun Z H v w sz e1 e2 Q q => by
    rw [F.eq _ _ _ e1, F.eq _ _ _ e2]
    have : decide (f x = f y) = decide (x = y) := decide_eq_decide.mpr ⟨F.inj x y, congrArg f⟩
    exact ⟨F.sc _ _, q _ _ _ (Step.refl sz) (congrArg (fun b => V.bl (!b)) this)⟩
end
theorem ev_isN {α : Type} {τ : Ty α} {o : Option α} (ha : Ev M ta σ Z H s (ty (yOpt τ) o) s1) (hb : Ev M tb σ Z H s1 (ty yNon ()) s2) : Ev M (tOp (fun x y H Q => y = .non ∧ Q (.bl (decide (x = .non))) H) ta tb) σ Z H s (ty yBool o.isNone) s2 :=
  ev_op ha hb fun Z H v w sz e1 e2 Q q => by
    refine ⟨e2, q _ _ _ (Step.refl sz) ?_⟩
    cases o with
    | none => rw [show v = .non from e1]; rfl
    | some y => rw [show decide (v = .non) = false from decide_eq_false e1.2]; rfl
theorem ev_notN {α : Type} {τ : Ty α} {o : Option α} (ha : Ev M ta σ Z H s (ty (yOpt τ) o) s1) (hb : Ev M tb σ Z H s1 (ty yNon ()) s2) : Ev M (tOp (fun x y H Q => y = .non ∧ Q (.bl (!decide (x = .non))) H) ta tb) σ Z H s (ty yBool o.isSome) s2 :=
  ev_op ha hb fun Z H v w sz e1 e2 Q q => by
    refine ⟨e2, q _ _ _ (Step.refl sz) ?_⟩
    cases o with
    | none => rw [show v = .non from e1]; rfl
    | some y => rw [show decide (v = .non) = false from decide_eq_false e1.2]; rfl
/-! and, or, not, if, as values -/
theorem ev_and {a b : Bool} {o : Option (Bool × μ)} (ha : Ev M ta σ Z H s (ty yBool a) s1) (hb : a = true → ∀ y s', o = some (y, s') → Ev M tb σ Z H s1 (ty yBool y) s') (h : (if a = true then o else some (false, s1)) = some (b, s2)) : Ev M (tAndV ta tb) σ Z H s (ty yBool b) s2 :=
  fun Z1 H1 p q r d Q k => ha Z1 H1 p q r d _ fun v Z2 H2 e m rv => ⟨a, rv, by
    cases a with
    | true => rw [if_pos rfl] at h ⊢; exact hb rfl b s2 h Z2 H2 (p.trans e.z) (q.trans e.h) e.s m _ fun w Z3 H3 e2 m2 rw => k w Z3 H3 (e.trans e2) m2 rw
    | false => rw [if_neg Bool.false_ne_true] at h ⊢; cases h; exact k _ Z2 H2 e m rfl⟩
theorem ev_or {a b : Bool} {o : Option (Bool × μ)} (ha : Ev M ta σ Z H s (ty yBool a) s1) (hb : a = false → ∀ y s', o = some (y, s') → Ev M tb σ Z H s1 (ty yBool y) s') (h : (if a = true then some (true, s1) else o) = some (b, s2)) : Ev M (tOrV ta tb) σ Z H s (ty yBool b) s2 :=
  fun Z1 H1 p q r d Q k => ha Z1 H1 p q r d _ fun v Z2 H2 e m rv => ⟨a, rv, by
    cases a with
    | false => rw [if_neg Bool.false_ne_true] at h ⊢; exact hb rfl b s2 h Z2 H2 (p.trans e.z) (q.trans e.h) e.s m _ fun w Z3 H3 e2 m2 rw => k w Z3 H3 (e.trans e2) m2 rw
    | true => rw [if_pos rfl] at h ⊢; cases h; exact k _ Z2 H2 e m rfl⟩
theorem ev_and0 {a b : Bool} (ha : Ev M ta σ Z H s (ty yBool a) s1) (hb : Ev M tb σ Z H s1 (ty yBool b) s1) : Ev M (tAndV ta tb) σ Z H s (ty yBool (a && b)) s1 :=
  ev_and (o := some (b, s1)) ha (fun _ y s' e => by cases e; exact hb) (by cases a <;> rfl)
theorem ev_or0 {a b : Bool} (ha : Ev M ta σ Z H s (ty yBool a) s1) (hb : Ev M tb σ Z H s1 (ty yBool b) s1) : Ev M (tOrV ta tb) σ Z H s (ty yBool (a || b)) s1 :=
  ev_or (o := some (b, s1)) ha (fun _ y s' e => by cases e; exact hb) (by cases a <;> rfl)
theorem ev_not {a : Bool} (ha : Ev M ta σ Z H s (ty yBool a) s1) : Ev M (tNotV ta) σ Z H s (ty yBool (!a)) s1 :=
  fun Z1 H1 p q r d Q k => ha Z1 H1 p q r d _ fun v Z2 H2 e m rv => ⟨a, rv, k _ Z2 H2 e m rfl⟩
theorem ev_if {tt : TT} {a : Bool} {R : Rr M.fp} (ht : EvT M tt σ Z H s a s1) (ha : a = true → Ev M ta σ Z H s1 R s2) (hb : a = false → Ev M tb σ Z H s1 R s2) : Ev M (tIf tt ta tb) σ Z H s R s2 :=
  fun Z1 H1 p q r d Q k => ht Z1 H1 p q r d _ fun Z2 H2 e m => by
    cases a with
    | true => rw [if_pos rfl]; exact ha rfl Z2 H2 (p.trans e.z) (q.trans e.h) e.s m _ fun w Z3 H3 e2 m2 rw => k w Z3 H3 (e.trans e2) m2 rw
    | false => rw [if_neg Bool.false_ne_true]; exact hb rfl Z2 H2 (p.trans e.z) (q.trans e.h) e.s m _ fun w Z3 H3 e2 m2 rw => k w Z3 H3 (e.trans e2) m2 rw
theorem ev_if0 {tt : TT} {a : Bool} {α : Type} {τ : Ty α} {x y : α} (ht : EvT M tt σ Z H s a s1) (ha : Ev M ta σ Z H s1 (ty τ x) s1) (hb : Ev M tb σ Z H s1 (ty τ y) s1) : Ev M (tIf tt ta tb) σ Z H s (ty τ (if a = true then x else y)) s1 :=
  ev_if ht (fun e => by rw [if_pos e]; exact ha) (fun e => by rw [if_neg (by rw [e]; exact Bool.false_ne_true)]; exact hb)
/-! tests -/
theorem et_val {a : Bool} (h : Ev M te σ Z H s (ty yBool a) s1) : EvT M (tB te) σ Z H s a s1 := fun Z1 H1 p q r d _ k => h Z1 H1 p q r d _ fun _ Z2 H2 e m rv => ⟨a, rv, k Z2 H2 e m⟩
theorem et_cmp {a : Bool} (h : Ev M te σ Z H s (ty yBool a) s1) : EvT M (tTest te) σ Z H s a s1 := fun Z1 H1 p q r d _ k => h Z1 H1 p q r d _ fun _ Z2 H2 e m rv => ⟨a, rv, k Z2 H2 e m⟩
section
variable {tA tB' : TT} {a b : Bool}
theorem et_and {o : Option (Bool × μ)} (ha : EvT M tA σ Z H s a s1) (hb : a = true → ∀ y s', o = some (y, s') → EvT M tB' σ Z H s1 y s') (h : (if a = true then o else some (false, s1)) = some (b, s2)) : EvT M (tAnd tA tB') σ Z H s b s2 :=
  fun Z1 H1 p q r d Q k => ha Z1 H1 p q r d _ fun Z2 H2 e m => by
    cases a with
    | true => rw [if_pos rfl] at h ⊢; exact hb rfl b s2 h Z2 H2 (p.trans e.z) (q.trans e.h) e.s m _ fun Z3 H3 e2 m2 => k Z3 H3 (e.trans e2) m2
    | false => rw [if_neg Bool.false_ne_true] at h ⊢; cases h; exact k Z2 H2 e m
theorem et_or {o : Option (Bool × μ)} (ha : EvT M tA σ Z H s a s1) (hb : a = false → ∀ y s', o = some (y, s') → EvT M tB' σ Z H s1 y s') (h : (if a = true then some (true, s1) else o) = some (b, s2)) : EvT M (tOr tA tB') σ Z H s b s2 :=
  fun Z1 H1 p q r d Q k => ha Z1 H1 p q r d _ fun Z2 H2 e m => by
    cases a with
    | false => rw [if_neg Bool.false_ne_true] at h ⊢; exact hb rfl b s2 h Z2 H2 (p.trans e.z) (q.trans e.h) e.s m _ fun Z3 H3 e2 m2 => k Z3 H3 (e.trans e2) m2
    | true => rw [if_pos rfl] at h ⊢; cases h; exact k Z2 H2 e m
theorem et_and0 (ha : EvT M tA σ Z H s a s1) (hb : EvT M tB' σ Z H s1 b s1) : EvT M (tAnd tA tB') σ Z H s (a && b) s1 := et_and (o := some (b, s1)) ha (fun _ y s' e => by cases e; exact hb) (by cases a <;> rfl)
theorem et_or0 (ha : EvT M tA σ Z H s a s1) (hb : EvT M tB' σ Z H s1 b s1) : EvT M (tOr tA tB') σ Z H s (a || b) s1 := et_or (o := some (b, s1)) ha (fun _ y s' e => by cases e; exact hb) (by cases a <;> rfl)
theorem et_not (ha : EvT M tA σ Z H s a s1) : EvT M (tNot tA) σ Z H s (!a) s1 := fun Z1 H1 p q r d _ k => ha Z1 H1 p q r d _ k
end
end
end TP

namespace TP
open PySem PySem.Spec PyProof.Rows L2
instance {i j : Int} : Decidable (CMul i j) := inferInstanceAs (Decidable ((_ ∧ _) ∨ (_ ∧ _)))
instance {i j : Int} : Decidable (CDiv i j) := inferInstanceAs (Decidable (_ ∧ _))
instance {i j : Int} : Decidable (CPow i j) := inferInstanceAs (Decidable (_ ∧ _ ∧ _))
section
variable {μ : Type} {M : Mu μ} {σ : L2.St} {Z H : Hp} {s s' s1 s2 s3 : μ} {ta tb tc te : TE} {t : TA} {K : PySem.W.Frag}
theorem same_x {S : List Addr} {Z H Z1 H1 : Hp} (g : Step S Z H Z1 H1) {p : Addr} (h : H1 p = none) : H p = none := by
  cases q : H p with
  | none => rfl
  | some o => exact absurd h (g.al p (some_ne q))
theorem fresh_fp {fp : List Addr} {Z H : Hp} {p : Addr} {o : HO} (sz : Same Z H) (hp : H p = none) : Step fp Z H (upd Z p o) (upd H p o) := (Step.new sz hp).pure
/-! ### texts -/
theorem okS_app {x y : Str} (hx : okS x = true) (hy : okS y = true) (l : x.length + y.length ≤ sizeLine) : okS (x ++ y) = true := by
  unfold okS PyData.strOk at *
  rw [Bool.and_eq_true] at hx hy ⊢
  refine ⟨?_, ?_⟩
  · have e : (x ++ y).cps = x.cps ++ y.cps := rfl
    rw [e, Array.all_append, hx.1, hy.1]; rfl
  · refine decide_eq_true ?_
    have e : (x ++ y).length = x.length + y.length := by
      show (x.cps ++ y.cps).size = _
      rw [Array.size_append]; rfl
    omega
theorem ev_cat_str {x y : Str} (ha : Ev M ta σ Z H s (ty yStr x) s1) (hb : Ev M tb σ Z H s1 (ty yStr y) s2) (l : x.length + y.length ≤ sizeLine) : Ev M (tOp (fun x y H Q => ∃ i j, x = .str i ∧ y = .str j ∧ i.length + j.length ≤ sizeLine ∧ Q (.str (i ++ j)) H) ta tb) σ Z H s (ty yStr (x ++ y)) s2 :=
  ev_op ha hb fun _ _ _ _ sz e1 e2 _ q => ⟨x, y, e1.1, e2.1, l, q _ _ _ (Step.refl sz) ⟨rfl, okS_app e1.2 e2.2 l⟩⟩
theorem ev_lt_str {x y : Str} (ha : Ev M ta σ Z H s (ty yStr x) s1) (hb : Ev M tb σ Z H s1 (ty yStr y) s2) : Ev M (tOp (fun x y H Q => ∃ i j, x = .str i ∧ y = .str j ∧ Q (.bl (decide (i.cps.toList < j.cps.toList))) H) ta tb) σ Z H s (ty yBool (decide (x.cps.toList < y.cps.toList))) s2 :=
  ev_op ha hb fun _ _ _ _ sz e1 e2 _ q => ⟨x, y, e1.1, e2.1, q _ _ _ (Step.refl sz) rfl⟩
theorem ev_len_str {x : Str} (ha : Ev M ta σ Z H s (ty yStr x) s1) : Ev M (tCB (fun xs H Q => ∃ z, xs = [.str z] ∧ z.length ≤ sizeLine ∧ Q (.int z.length) H) (tCons ta tNil)) σ Z H s (ty yInt (x.length : Nat)) s1 :=
  ev_cb (eva_cons ha eva_nil) fun _ _ vs sz ⟨v, r, e, h, e2⟩ Q q => ⟨x, by rw [e, h.1, show r = [] from e2], of_decide_eq_true (Bool.and_eq_true_iff.mp (show (PyData.strOk x && decide (x.length ≤ sizeLine)) = true from h.2)).2, q _ _ _ (Step.refl sz) rfl⟩
/-! ### lists and tuples that are made -/
theorem ev_tup {Rs : Ra M.fp} {R : Rr M.fp} (ha : EvA M t σ Z H s Rs s1) (h : ∀ Z H vs, Same Z H → Rs.r Z H vs → vs.length ≤ sizeLine ∧ ∀ p, H p = none → R.r (upd Z p (.tup vs)) (upd H p (.tup vs)) (.ref p)) : Ev M (tTup t) σ Z H s R s1 :=
  fun Z1 H1 a b c d Q q => ha Z1 H1 a b c d _ fun vs Z2 H2 e m rv => by
    obtain ⟨l, hr⟩ := h Z2 H2 vs e.s rv
    exact ⟨l, fun p hp => q _ _ _ (e.trans (fresh_fp e.s hp)) (M.pure (Step.new e.s hp) m) (hr p hp)⟩
theorem ev_lst {Rs : Ra M.fp} {R : Rr M.fp} (ha : EvA M t σ Z H s Rs s1) (h : ∀ Z H vs, Same Z H → Rs.r Z H vs → vs.length ≤ sizeLine ∧ ∀ p, H p = none → R.r (upd Z p (.lst vs)) (upd H p (.lst vs)) (.ref p)) : Ev M (tLst t) σ Z H s R s1 :=
  fun Z1 H1 a b c d Q q => ha Z1 H1 a b c d _ fun vs Z2 H2 e m rv => by
    obtain ⟨l, hr⟩ := h Z2 H2 vs e.s rv
    exact ⟨l, fun p hp => q _ _ _ (e.trans (fresh_fp e.s hp)) (M.pure (Step.new e.s hp) m) (hr p hp)⟩
theorem sqT_new {Z : Hp} {p : Addr} {vs : List V} : SqT K (upd Z p (.tup vs)) p vs := .inl (.inl upd_same)
section
variable {α β γ δ : Type} {τ : Ty α} {υ : Ty β} {φ : Ty γ} {ψ : Ty δ} {x : α} {y : β} {z : γ} {u : δ}
theorem ev_p0 : Ev M (tTup tNil) σ Z H s (ty (yP0 K) ()) s := ev_tup eva_nil fun _ _ vs _ e => ⟨by rw [show vs = [] from e]; exact Nat.zero_le _, fun p _ => ⟨p, rfl, by rw [show vs = [] from e]; exact sqT_new⟩⟩
theorem ev_p1 (ha : EvA M t σ Z H s (rac (ty τ x) ra0) s1) : Ev M (tTup t) σ Z H s (ty (yP1 K τ) x) s1 :=
  ev_tup ha fun Z H vs sz ⟨v1, r1, e1, h1, e2⟩ => by
    cases e2; cases e1
    exact ⟨by show 1 ≤ sizeLine; decide, fun p hp => ⟨p, v1, rfl, sqT_new, τ.mono (same_upd (same_none sz hp)) h1⟩⟩
theorem ev_p2 (ha : EvA M t σ Z H s (rac (ty τ x) (rac (ty υ y) ra0)) s1) : Ev M (tTup t) σ Z H s (ty (yP2 K τ υ) (x, y)) s1 :=
  ev_tup ha fun Z H vs sz ⟨v1, r1, e1, h1, v2, r2, e2, h2, e3⟩ => by
    cases e3; cases e2; cases e1
    exact ⟨by show 2 ≤ sizeLine; decide, fun p hp => have q := same_upd (same_none sz hp); ⟨p, v1, v2, rfl, sqT_new, τ.mono q h1, υ.mono q h2⟩⟩
theorem ev_p3 (ha : EvA M t σ Z H s (rac (ty τ x) (rac (ty υ y) (rac (ty φ z) ra0))) s1) : Ev M (tTup t) σ Z H s (ty (yP3 K τ υ φ) (x, y, z)) s1 :=
  ev_tup ha fun Z H vs sz ⟨v1, r1, e1, h1, v2, r2, e2, h2, v3, r3, e3, h3, e4⟩ => by
    cases e4; cases e3; cases e2; cases e1
    exact ⟨by show 3 ≤ sizeLine; decide, fun p hp => have q := same_upd (same_none sz hp); ⟨p, v1, v2, v3, rfl, sqT_new, τ.mono q h1, υ.mono q h2, φ.mono q h3⟩⟩
theorem ev_p4 (ha : EvA M t σ Z H s (rac (ty τ x) (rac (ty υ y) (rac (ty φ z) (rac (ty ψ u) ra0)))) s1) : Ev M (tTup t) σ Z H s (ty (yP4 K τ υ φ ψ) (x, y, z, u)) s1 :=
  ev_tup ha fun Z H vs sz ⟨v1, r1, e1, h1, v2, r2, e2, h2, v3, r3, e3, h3, v4, r4, e4, h4, e5⟩ => by
    cases e5; cases e4; cases e3; cases e2; cases e1
    exact ⟨by show 4 ≤ sizeLine; decide, fun p hp => have q := same_upd (same_none sz hp); ⟨p, v1, v2, v3, v4, rfl, sqT_new, τ.mono q h1, υ.mono q h2, φ.mono q h3, ψ.mono q h4⟩⟩
/-- arguments all of one kind -/
def ras {fp : List Addr} (τ : Ty α) (xs : List α) : Ra fp := ⟨fun Z _ vs => All (τ.r Z) vs xs, fun g h => h.imp fun _ _ => τ.mono g.z⟩
theorem eva_nils : EvA M tNil σ Z H s (ras τ []) s := fun Z1 H1 _ _ c d Q q => q [] Z1 H1 (Step.refl c) d .nil
theorem eva_conss {xs : List α} (ha : Ev M ta σ Z H s (ty τ x) s1) (hr : EvA M t σ Z H s1 (ras τ xs) s2) : EvA M (tCons ta t) σ Z H s (ras τ (x :: xs)) s2 :=
  fun Z1 H1 a b c d Q q => ha Z1 H1 a b c d _ fun v Z2 H2 e m rv => hr Z2 H2 (a.trans e.z) (b.trans e.h) e.s m _ fun vs Z3 H3 e2 m2 rs => q _ Z3 H3 (e.trans e2) m2 (.cons (τ.mono e2.z rv) rs)
/-- a new list of one's own -/
def EvN {α : Type} (M : Mu μ) (t : TE) (σ : L2.St) (Z H : Hp) (s : μ) (τ : Ty α) (xs : List α) (s' : μ) : Prop :=
  ∀ Z1 H1, Same Z Z1 → SameX M.fp H H1 → Same Z1 H1 → M.m s Z1 H1 → ∀ Q : VK, (∀ p vs Z2 H2, Step M.fp Z1 H1 Z2 H2 → M.m s' Z2 H2 → H1 p = none → Z2 p = none → H2 p = some (.lst vs) → All (τ.r Z2) vs xs → xs.length ≤ sizeLine → Q (.ref p) H2) → t σ H1 Q
theorem Step.fz {S : List Addr} {Z H Z1 H1 : Hp} {x : Addr} {o : HO} (g : Step S Z H Z1 H1) (hx : H x = none) (h1 : H1 x = some o) (hz : Z1 x = none) : Step S Z H (upd Z1 x o) H1 := by
  refine ⟨g.z.trans (same_upd hz), fun a u e => ?_, g.h, fun a h z => ?_, g.al⟩
  · by_cases q : a = x
    · subst q; rw [upd_same] at e; rw [← Option.some.inj e]; exact h1
    · rw [upd_ne q] at e; exact g.s a u e
  · rw [upd_ne (ne_of_some h hx)]; exact g.n a h z
theorem Mu.fz {M : Mu μ} {s : μ} {Z H : Hp} {x : Addr} {o : HO} (m : M.m s Z H) (hz : Z x = none) (nx : x ∉ M.fp) : M.m s (upd Z x o) H := by
  refine M.loc (same_upd hz) (fun _ _ _ x => x) (fun a ha _ z => ?_) m
  rw [upd_ne (fun q => nx (by rw [← q]; exact ha))]
  exact z
theorem ev_fz {α : Type} {τ : Ty α} {xs : List α} (h : EvN M ta σ Z H s τ xs s1) : Ev M ta σ Z H s (ty (yList τ) xs) s1 :=
  fun Z1 H1 a b c d Q q => h Z1 H1 a b c d Q fun p vs Z2 H2 e m hp zp h2 t l =>
    q _ _ _ (e.fz hp h2 zp) (Mu.fz m zp (fun hf => (M.al d p hf).1 hp)) ⟨p, vs, rfl, upd_same, t.imp fun _ _ => τ.mono (same_upd zp), l⟩
theorem en_op {α : Type} {τ : Ty α} {xs : List α} {R1 R3 : Rr M.fp} {r : R2} (ha : Ev M ta σ Z H s R1 s1) (hb : Ev M tb σ Z H s1 R3 s2) (h : ∀ Z H v w, Same Z H → R1.r Z H v → R3.r Z H w → ∃ vs, All (τ.r Z) vs xs ∧ xs.length ≤ sizeLine ∧ ∀ Q : VK, (∀ p, H p = none → Q (.ref p) (upd H p (.lst vs))) → r v w H Q) : EvN M (tOp r ta tb) σ Z H s τ xs s2 :=
  fun Z1 H1 a b c d Q q => ha Z1 H1 a b c d _ fun v Z2 H2 e m rv => hb Z2 H2 (a.trans e.z) (b.trans e.h) e.s m _ fun w Z3 H3 e2 m2 rw => by
    obtain ⟨vs, t, l, k⟩ := h Z3 H3 v w e2.s (R1.st e2 rv) rw
    refine k _ fun p hp => ?_
    have e3 := Step.own (o := .lst vs) e2.s hp
    exact q p vs Z3 _ ((e.trans e2).trans e3.pure) (M.pure e3 m2) (same_x (e.trans e2) hp) (same_none e2.s hp) upd_same t l
theorem en_cb {α : Type} {τ : Ty α} {xs : List α} {Rs : Ra M.fp} {r : List V → Hp → VK → Prop} (ha : EvA M t σ Z H s Rs s1) (h : ∀ Z H vs, Same Z H → Rs.r Z H vs → ∃ ws, All (τ.r Z) ws xs ∧ xs.length ≤ sizeLine ∧ ∀ Q : VK, (∀ p, H p = none → Q (.ref p) (upd H p (.lst ws))) → r vs H Q) : EvN M (tCB r t) σ Z H s τ xs s1 :=
  fun Z1 H1 a b c d Q q => ha Z1 H1 a b c d _ fun v Z2 H2 e m rv => by
    obtain ⟨vs, t, l, k⟩ := h Z2 H2 v e.s rv
    refine k _ fun p hp => ?_
    have e3 := Step.own (o := .lst vs) e.s hp
    exact q p vs Z2 _ (e.trans e3.pure) (M.pure e3 m) (same_x e hp) (same_none e.s hp) upd_same t l
theorem en_listD {xs : List α} (ha : EvA M t σ Z H s (ras τ xs) s1) (l : xs.length ≤ sizeLine) : EvN M (tLst t) σ Z H s τ xs s1 :=
  fun Z1 H1 a b c d Q q => ha Z1 H1 a b c d _ fun vs Z2 H2 e m rv => ⟨by rw [All.len rv]; exact l, fun p hp => by
    have e3 := Step.own (o := .lst vs) e.s hp
    exact q p vs Z2 _ (e.trans e3.pure) (M.pure e3 m) (same_x e hp) (same_none e.s hp) upd_same rv l⟩
theorem ev_tupD {xs : List α} (ha : EvA M t σ Z H s (ras τ xs) s1) (l : xs.length ≤ sizeLine) : Ev M (tTup t) σ Z H s (ty (yTup K τ) xs) s1 :=
  ev_tup ha fun Z H vs sz h => ⟨by rw [h.len]; exact l, fun p hp => ⟨p, vs, rfl, sqT_new, h.imp fun _ _ => τ.mono (same_upd (same_none sz hp)), l⟩⟩
/-! ### lists and tuples that are read -/
variable {xs ys : List α}
theorem rdl {fp : List Addr} {Z H : Hp} {v : V} (sz : Same Z H) (h : (li (fp := fp) τ xs).r Z H v) : ∃ p vs, v = .ref p ∧ H p = some (.lst vs) ∧ All (τ.r Z) vs xs ∧ xs.length ≤ sizeLine := by
  obtain ⟨p, vs, e, g, t, l⟩ := h
  exact ⟨p, vs, e, g.get sz, t, l⟩
theorem ev_ixL {i : Int} (ha : Ev M ta σ Z H s (li τ xs) s1) (hb : Ev M tb σ Z H s1 (ty yInt i) s2) (e : atI xs i = some x) : Ev M (tOp (rIxL K) ta tb) σ Z H s (ty τ x) s2 :=
  ev_op ha hb fun _ _ _ _ sz e1 e2 _ q => by
    obtain ⟨p, vs, rfl, g, t, _⟩ := rdl sz e1
    obtain ⟨w, hw, rw'⟩ := t.atI e
    exact ⟨p, vs, i, w, rfl, e2, SqL.of g, hw, q _ _ _ (Step.refl sz) rw'⟩
theorem ev_ixT {i : Int} (ha : Ev M ta σ Z H s (ty (yTup K τ) xs) s1) (hb : Ev M tb σ Z H s1 (ty yInt i) s2) (e : atI xs i = some x) : Ev M (tOp (rIxT K) ta tb) σ Z H s (ty τ x) s2 :=
  ev_op ha hb fun _ _ _ _ sz e1 e2 _ q => by
    obtain ⟨p, vs, rfl, g, t, _⟩ := e1
    obtain ⟨w, hw, rw'⟩ := t.atI e
    exact ⟨p, vs, i, w, rfl, e2, seqT_same sz g, hw, q _ _ _ (Step.refl sz) rw'⟩
/-- a part of a tuple by its written place -/
def PartOf {α' β' : Type} (K : PySem.W.Frag) (τ : Ty α') (i : Int) (τ' : Ty β') (f : α' → β') : Prop := ∀ Z v x, τ.r Z v x → ∃ a vs w, v = .ref a ∧ SqT K Z a vs ∧ atI vs i = some w ∧ τ'.r Z w (f x)
theorem po1_0 : PartOf K (yP1 K τ) 0 τ id := fun _ _ _ ⟨a, v1, e, h, h1⟩ => ⟨a, _, v1, e, h, rfl, h1⟩
theorem po2_0 : PartOf K (yP2 K τ υ) 0 τ Prod.fst := fun _ _ _ ⟨a, v1, v2, e, h, h1, _⟩ => ⟨a, _, v1, e, h, rfl, h1⟩
theorem po2_1 : PartOf K (yP2 K τ υ) 1 υ Prod.snd := fun _ _ _ ⟨a, v1, v2, e, h, _, h1⟩ => ⟨a, _, v2, e, h, rfl, h1⟩
theorem po3_0 : PartOf K (yP3 K τ υ φ) 0 τ (fun x => x.1) := fun _ _ _ ⟨a, v1, v2, v3, e, h, h1, _⟩ => ⟨a, _, v1, e, h, rfl, h1⟩
theorem po3_1 : PartOf K (yP3 K τ υ φ) 1 υ (fun x => x.2.1) := fun _ _ _ ⟨a, v1, v2, v3, e, h, _, h1, _⟩ => ⟨a, _, v2, e, h, rfl, h1⟩
theorem po3_2 : PartOf K (yP3 K τ υ φ) 2 φ (fun x => x.2.2) := fun _ _ _ ⟨a, v1, v2, v3, e, h, _, _, h1⟩ => ⟨a, _, v3, e, h, rfl, h1⟩
theorem po4_0 : PartOf K (yP4 K τ υ φ ψ) 0 τ (fun x => x.1) := fun _ _ _ ⟨a, v1, v2, v3, v4, e, h, h1, _⟩ => ⟨a, _, v1, e, h, rfl, h1⟩
theorem po4_1 : PartOf K (yP4 K τ υ φ ψ) 1 υ (fun x => x.2.1) := fun _ _ _ ⟨a, v1, v2, v3, v4, e, h, _, h1, _⟩ => ⟨a, _, v2, e, h, rfl, h1⟩
theorem po4_2 : PartOf K (yP4 K τ υ φ ψ) 2 φ (fun x => x.2.2.1) := fun _ _ _ ⟨a, v1, v2, v3, v4, e, h, _, _, h1, _⟩ => ⟨a, _, v3, e, h, rfl, h1⟩
theorem po4_3 : PartOf K (yP4 K τ υ φ ψ) 3 ψ (fun x => x.2.2.2) := fun _ _ _ ⟨a, v1, v2, v3, v4, e, h, _, _, _, h1⟩ => ⟨a, _, v4, e, h, rfl, h1⟩
theorem ev_part {i : Int} {f : α → β} (P : PartOf K τ i υ f) (ha : Ev M ta σ Z H s (ty τ x) s1) (hb : Ev M tb σ Z H s1 (ty yInt i) s2) : Ev M (tOp (rIxT K) ta tb) σ Z H s (ty υ (f x)) s2 :=
  ev_op ha hb fun _ _ _ _ sz e1 e2 _ q => by
    obtain ⟨p, vs, w, rfl, g, hw, rw'⟩ := P _ _ _ e1
    exact ⟨p, vs, i, w, rfl, e2, seqT_same sz g, hw, q _ _ _ (Step.refl sz) rw'⟩
theorem ev_len {r : List V → Hp → VK → Prop} (hr : ∀ xs H Q, (∃ p ys, xs = [.ref p] ∧ (SqL K H p ys ∨ SqT K H p ys) ∧ Q (.int ys.length) H) → r xs H Q) (ha : Ev M ta σ Z H s (li τ xs) s1) : Ev M (tCB r (tCons ta tNil)) σ Z H s (ty yInt (xs.length : Nat)) s1 :=
  ev_cb (eva_cons ha eva_nil) fun _ _ _ sz ⟨v, r, e, h, e2⟩ _ q => by
    cases e2; cases e
    obtain ⟨p, vs, rfl, g, t, _⟩ := rdl sz h
    exact hr _ _ _ ⟨p, vs, rfl, .inl (SqL.of g), by rw [t.len]; exact q _ _ _ (Step.refl sz) rfl⟩
theorem ev_lenT {r : List V → Hp → VK → Prop} (hr : ∀ xs H Q, (∃ p ys, xs = [.ref p] ∧ (SqL K H p ys ∨ SqT K H p ys) ∧ Q (.int ys.length) H) → r xs H Q) (ha : Ev M ta σ Z H s (ty (yTup K τ) xs) s1) : Ev M (tCB r (tCons ta tNil)) σ Z H s (ty yInt (xs.length : Nat)) s1 :=
  ev_cb (eva_cons ha eva_nil) fun _ _ _ sz ⟨v, r, e, h, e2⟩ _ q => by
    cases e2; cases e
    obtain ⟨p, vs, rfl, g, t, _⟩ := h
    exact hr _ _ _ ⟨p, vs, rfl, .inr (seqT_same sz g), by rw [t.len]; exact q _ _ _ (Step.refl sz) rfl⟩
theorem en_list_of {r : List V → Hp → VK → Prop} (hr : ∀ xs H Q, (∃ p ys, xs = [.ref p] ∧ (SqL K H p ys ∨ SqT K H p ys) ∧ ∀ l, H l = none → Q (.ref l) (upd H l (.lst ys))) → r xs H Q) (ha : Ev M ta σ Z H s (li τ xs) s1) : EvN M (tCB r (tCons ta tNil)) σ Z H s τ xs s1 :=
  en_cb (eva_cons ha eva_nil) fun _ _ _ sz ⟨v, r, e, h, e2⟩ => by
    cases e2; cases e
    obtain ⟨p, vs, rfl, g, t, l⟩ := rdl sz h
    exact ⟨vs, t, l, fun Q q => hr _ _ _ ⟨p, vs, rfl, .inl (SqL.of g), q⟩⟩
theorem en_list_ofT {r : List V → Hp → VK → Prop} (hr : ∀ xs H Q, (∃ p ys, xs = [.ref p] ∧ (SqL K H p ys ∨ SqT K H p ys) ∧ ∀ l, H l = none → Q (.ref l) (upd H l (.lst ys))) → r xs H Q) (ha : Ev M ta σ Z H s (ty (yTup K τ) xs) s1) : EvN M (tCB r (tCons ta tNil)) σ Z H s τ xs s1 :=
  en_cb (eva_cons ha eva_nil) fun _ _ _ sz ⟨v, r, e, h, e2⟩ => by
    cases e2; cases e
    obtain ⟨p, vs, rfl, g, t, l⟩ := h
    exact ⟨vs, t, l, fun Q q => hr _ _ _ ⟨p, vs, rfl, .inr (seqT_same sz g), q⟩⟩
theorem ev_tuple_of {r : List V → Hp → VK → Prop} (hr : ∀ xs H Q, (∃ p ys, xs = [.ref p] ∧ ((SqL K H p ys ∧ ∀ l, H l = none → Q (.ref l) (upd H l (.tup ys))) ∨ (SqT K H p ys ∧ Q (.ref p) H))) → r xs H Q) (ha : Ev M ta σ Z H s (li τ xs) s1) : Ev M (tCB r (tCons ta tNil)) σ Z H s (ty (yTup K τ) xs) s1 :=
  ev_cb (eva_cons ha eva_nil) fun _ _ _ sz ⟨v, r, e, h, e2⟩ _ q => by
    cases e2; cases e
    obtain ⟨p, vs, rfl, g, t, l⟩ := rdl sz h
    exact hr _ _ _ ⟨p, vs, rfl, .inl ⟨SqL.of g, fun d hd => q _ _ _ (Step.new sz hd) ⟨d, vs, rfl, sqT_new, t.imp fun _ _ => τ.mono (same_upd (same_none sz hd)), l⟩⟩⟩
theorem ev_tuple_ofT {r : List V → Hp → VK → Prop} (hr : ∀ xs H Q, (∃ p ys, xs = [.ref p] ∧ ((SqL K H p ys ∧ ∀ l, H l = none → Q (.ref l) (upd H l (.tup ys))) ∨ (SqT K H p ys ∧ Q (.ref p) H))) → r xs H Q) (ha : Ev M ta σ Z H s (ty (yTup K τ) xs) s1) : Ev M (tCB r (tCons ta tNil)) σ Z H s (ty (yTup K τ) xs) s1 :=
  ev_cb (eva_cons ha eva_nil) fun _ _ _ sz ⟨v, r, e, h, e2⟩ _ q => by
    cases e2; cases e
    obtain ⟨p, vs, rfl, g, t, l⟩ := h
    exact hr _ _ _ ⟨p, vs, rfl, .inr ⟨seqT_same sz g, q _ _ _ (Step.refl sz) ⟨p, vs, rfl, g, t, l⟩⟩⟩
/-- a pair, as a tuple of a pair: itself -/
theorem ev_tuple_id {r : List V → Hp → VK → Prop} (hr : ∀ xs H Q, (∃ p ys, xs = [.ref p] ∧ ((SqL K H p ys ∧ ∀ l, H l = none → Q (.ref l) (upd H l (.tup ys))) ∨ (SqT K H p ys ∧ Q (.ref p) H))) → r xs H Q) (hτ : ∀ Z v x, τ.r Z v x → ∃ p ys, v = .ref p ∧ SqT K Z p ys) (ha : Ev M ta σ Z H s (ty τ x) s1) : Ev M (tCB r (tCons ta tNil)) σ Z H s (ty τ x) s1 :=
  ev_cb (eva_cons ha eva_nil) fun _ _ _ sz ⟨v, r, e, h, e2⟩ _ q => by
    cases e2; cases e
    obtain ⟨p, vs, rfl, g⟩ := hτ _ _ _ h
    exact hr _ _ _ ⟨p, vs, rfl, .inr ⟨seqT_same sz g, q _ _ _ (Step.refl sz) h⟩⟩
theorem it_p2 : ∀ Z v x, (yP2 K τ υ).r Z v x → ∃ p ys, v = .ref p ∧ SqT K Z p ys := fun _ _ _ ⟨a, _, _, e, h, _⟩ => ⟨a, _, e, h⟩
theorem it_p3 : ∀ Z v x, (yP3 K τ υ φ).r Z v x → ∃ p ys, v = .ref p ∧ SqT K Z p ys := fun _ _ _ ⟨a, _, _, _, e, h, _⟩ => ⟨a, _, e, h⟩
theorem en_cat (ha : Ev M ta σ Z H s (li τ xs) s1) (hb : Ev M tb σ Z H s1 (li τ ys) s2) (l : xs.length + ys.length ≤ sizeLine) : EvN M (tOp rCat ta tb) σ Z H s τ (xs ++ ys) s2 :=
  en_op ha hb fun _ _ _ _ sz e1 e2 => by
    obtain ⟨p, vs, rfl, g, t, _⟩ := rdl sz e1
    obtain ⟨p2, ws, rfl, g2, t2, _⟩ := rdl sz e2
    exact ⟨vs ++ ws, t.app t2, by rw [List.length_append]; exact l, fun Q q => ⟨p, p2, vs, ws, rfl, rfl, g, g2, by rw [t.len, t2.len]; exact l, q⟩⟩
end
def cutA {α : Type} (xs : List α) (lo hi : Option Int) : List α := (xs.drop (HT.sIx xs.length 0 lo)).take (HT.sIx xs.length xs.length hi - HT.sIx xs.length 0 lo)
theorem All.cut {α : Type} {R : V → α → Prop} {vs : List V} {xs : List α} (h : All R vs xs) (lo hi : Option Int) : All R (cutV vs lo hi) (cutA xs lo hi) := by
  unfold cutV cutA
  rw [h.len]
  exact (h.drop _).take _
theorem cutA_len {α : Type} (xs : List α) (lo hi : Option Int) : (cutA xs lo hi).length ≤ xs.length := by
  unfold cutA
  rw [List.length_take, List.length_drop]
  omega
def EvO (M : Mu μ) (t : TO) (σ : L2.St) (Z H : Hp) (s : μ) (i : Option Int) (s' : μ) : Prop :=
  ∀ Z1 H1, Same Z Z1 → SameX M.fp H H1 → Same Z1 H1 → M.m s Z1 H1 → ∀ Q : Option Int → Hp → Prop, (∀ Z2 H2, Step M.fp Z1 H1 Z2 H2 → M.m s' Z2 H2 → Q i H2) → t σ H1 Q
theorem eo_none : EvO M tNoPart σ Z H s none s := fun Z1 H1 _ _ c d Q q => q Z1 H1 (Step.refl c) d
theorem eo_some {i : Int} (h : Ev M te σ Z H s (ty yInt i) s1) : EvO M (tPart te) σ Z H s (some i) s1 := fun Z1 H1 a b c d Q q => h Z1 H1 a b c d _ fun v Z2 H2 e m rv => ⟨i, rv, q Z2 H2 e m⟩
theorem ev_slice {r : V → Option Int → Option Int → Hp → VK → Prop} {tl th : TO} {lo hi : Option Int} {R R' : Rr M.fp} (ha : Ev M ta σ Z H s R s1) (hl : EvO M tl σ Z H s1 lo s2) (hh : EvO M th σ Z H s2 hi s3)
    (h : ∀ Z H v, Same Z H → R.r Z H v → ∀ Q : VK, (∀ u Z2 H2, Step [] Z H Z2 H2 → R'.r Z2 H2 u → Q u H2) → r v lo hi H Q) : Ev M (tSl r ta tl th) σ Z H s R' s3 :=
  fun Z1 H1 a b c d Q q => ha Z1 H1 a b c d _ fun v Z2 H2 e m rv => hl Z2 H2 (a.trans e.z) (b.trans e.h) e.s m _ fun Z3 H3 e2 m2 => hh Z3 H3 ((a.trans e.z).trans e2.z) ((b.trans e.h).trans e2.h) e2.s m2 _ fun Z4 H4 e3 m3 =>
    h Z4 H4 v e3.s (R.st e3 (R.st e2 rv)) _ fun u Z5 H5 e4 ru => q u Z5 H5 (((e.trans e2).trans e3).trans e4.pure) (M.pure e4 m3) ru
theorem en_slL {α : Type} {τ : Ty α} {xs : List α} {tl th : TO} {lo hi : Option Int} (ha : Ev M ta σ Z H s (li τ xs) s1) (hl : EvO M tl σ Z H s1 lo s2) (hh : EvO M th σ Z H s2 hi s3) : EvN M (tSl (rSlL K) ta tl th) σ Z H s τ (cutA xs lo hi) s3 :=
  fun Z1 H1 a b c d Q q => ha Z1 H1 a b c d _ fun v Z2 H2 e m rv => hl Z2 H2 (a.trans e.z) (b.trans e.h) e.s m _ fun Z3 H3 e2 m2 => hh Z3 H3 ((a.trans e.z).trans e2.z) ((b.trans e.h).trans e2.h) e2.s m2 _ fun Z4 H4 e3 m3 => by
    obtain ⟨p, vs, rfl, g, t, l⟩ := rdl e3.s ((li τ xs).st e3 ((li τ xs).st e2 rv))
    refine ⟨p, vs, rfl, SqL.of g, fun d hd => ?_⟩
    have e4 := Step.own (o := .lst (cutV vs lo hi)) e3.s hd
    exact q d _ Z4 _ (((e.trans e2).trans e3).trans e4.pure) (M.pure e4 m3) (same_x ((e.trans e2).trans e3) hd) (same_none e3.s hd) upd_same (t.cut lo hi) (Nat.le_trans (cutA_len _ _ _) l)
/-- a tuple's slice: the whole is the tuple itself -/
def rSlW (K : PySem.W.Frag) : V → Option Int → Option Int → Hp → VK → Prop := fun x lo hi H Q => ∃ a xs, x = .ref a ∧ SqT K H a xs ∧
  ((HT.sIx xs.length 0 lo = 0 ∧ HT.sIx xs.length xs.length hi = xs.length) → Q (.ref a) H) ∧ (¬ (HT.sIx xs.length 0 lo = 0 ∧ HT.sIx xs.length xs.length hi = xs.length) → ∀ p, H p = none → Q (.ref p) (upd H p (.tup (cutV xs lo hi))))
theorem ev_slT {α : Type} {τ : Ty α} {xs : List α} {tl th : TO} {lo hi : Option Int} (ha : Ev M ta σ Z H s (ty (yTup K τ) xs) s1) (hl : EvO M tl σ Z H s1 lo s2) (hh : EvO M th σ Z H s2 hi s3) : Ev M (tSl (rSlW K) ta tl th) σ Z H s (ty (yTup K τ) (cutA xs lo hi)) s3 :=
  ev_slice ha hl hh fun _ _ _ sz ⟨p, vs, e, g, t, l⟩ _ q => by
    subst e
    refine ⟨p, vs, rfl, seqT_same sz g, fun w => q _ _ _ (Step.refl sz) ⟨p, vs, rfl, g, ?_, Nat.le_trans (cutA_len _ _ _) l⟩, fun _ d hd => q _ _ _ (Step.new sz hd) ⟨d, _, rfl, sqT_new, (t.cut lo hi).imp fun _ _ => τ.mono (same_upd (same_none sz hd)), Nat.le_trans (cutA_len _ _ _) l⟩⟩
    have c := t.cut lo hi
    have e : cutV vs lo hi = vs := by
      unfold cutV
      rw [w.1, w.2, List.drop_zero, Nat.sub_zero, List.take_length]
    rw [e] at c
    exact c
/-! ### sums and the like -/
theorem ev_sum {xs : List Int} (ha : Ev M ta σ Z H s (li yInt xs) s1) : Ev M (tCB (rSum K) (tCons ta tNil)) σ Z H s (ty yInt xs.sum) s1 :=
  ev_cb (eva_cons ha eva_nil) fun _ _ _ sz ⟨v, r, e, h, e2⟩ _ q => by
    cases e2; cases e
    obtain ⟨p, vs, rfl, g, t, _⟩ := rdl sz h
    rw [t.ints] at g
    exact ⟨p, xs, rfl, SqL.of g, q _ _ _ (Step.refl sz) rfl⟩
theorem ev_anyL {xs : List Bool} (ha : Ev M ta σ Z H s (li yBool xs) s1) : Ev M (tCB (rAny K) (tCons ta tNil)) σ Z H s (ty yBool (xs.any id)) s1 :=
  ev_cb (eva_cons ha eva_nil) fun _ _ _ sz ⟨v, r, e, h, e2⟩ _ q => by
    cases e2; cases e
    obtain ⟨p, vs, rfl, g, t, _⟩ := rdl sz h
    rw [t.bls] at g
    exact ⟨p, xs, rfl, SqL.of g, q _ _ _ (Step.refl sz) rfl⟩
theorem ev_allL {xs : List Bool} (ha : Ev M ta σ Z H s (li yBool xs) s1) : Ev M (tCB (rAll K) (tCons ta tNil)) σ Z H s (ty yBool (xs.all id)) s1 :=
  ev_cb (eva_cons ha eva_nil) fun _ _ _ sz ⟨v, r, e, h, e2⟩ _ q => by
    cases e2; cases e
    obtain ⟨p, vs, rfl, g, t, _⟩ := rdl sz h
    rw [t.bls] at g
    exact ⟨p, xs, rfl, SqL.of g, q _ _ _ (Step.refl sz) rfl⟩
def maxZ : List Int → Option Int
  | [] => none
  | x :: xs => some (xs.foldl max x)
def minZ : List Int → Option Int
  | [] => none
  | x :: xs => some (xs.foldl min x)
theorem foldl_max_of : ∀ (xs : List Int) (x m : Int), m ∈ x :: xs → (∀ y ∈ x :: xs, y ≤ m) → m = xs.foldl max x
  | [], x, m, h, _ => by simpa using h
  | y :: r, x, m, h, g => by
    refine foldl_max_of r (max x y) m ?_ (fun z hz => ?_)
    · have hx := g x (by simp)
      have hy := g y (by simp)
      rcases List.mem_cons.mp h with e | h
      · have : max x y = m := by omega
        rw [this]; exact List.mem_cons_self
      · rcases List.mem_cons.mp h with e | h
        · have : max x y = m := by omega
          rw [this]; exact List.mem_cons_self
        · exact List.mem_cons_of_mem _ h
    · rcases List.mem_cons.mp hz with e | hz
      · have hx := g x (by simp)
        have hy := g y (by simp)
        omega
      · exact g z (by simp [hz])
theorem foldl_min_of : ∀ (xs : List Int) (x m : Int), m ∈ x :: xs → (∀ y ∈ x :: xs, m ≤ y) → m = xs.foldl min x
  | [], x, m, h, _ => by simpa using h
  | y :: r, x, m, h, g => by
    refine foldl_min_of r (min x y) m ?_ (fun z hz => ?_)
    · have hx := g x (by simp)
      have hy := g y (by simp)
      rcases List.mem_cons.mp h with e | h
      · have : min x y = m := by omega
        rw [this]; exact List.mem_cons_self
      · rcases List.mem_cons.mp h with e | h
        · have : min x y = m := by omega
          rw [this]; exact List.mem_cons_self
        · exact List.mem_cons_of_mem _ h
    · rcases List.mem_cons.mp hz with e | hz
      · have hx := g x (by simp)
        have hy := g y (by simp)
        omega
      · exact g z (by simp [hz])
theorem ev_maxL {xs : List Int} {m : Int} (ha : Ev M ta σ Z H s (li yInt xs) s1) (e : maxZ xs = some m) : Ev M (tCB (rMax K) (tCons ta tNil)) σ Z H s (ty yInt m) s1 :=
  ev_cb (eva_cons ha eva_nil) fun _ _ _ sz ⟨v, r, e1, h, e2⟩ _ q => by
    cases e2; cases e1
    obtain ⟨p, vs, rfl, g, t, _⟩ := rdl sz h
    rw [t.ints] at g
    cases xs with
    | nil => cases e
    | cons x r =>
      refine ⟨p, x :: r, rfl, SqL.of g, Nat.succ_pos _, fun n hn hg => q _ _ _ (Step.refl sz) ?_⟩
      rw [foldl_max_of r x n hn hg, ← Option.some.inj (e : some (r.foldl max x) = some m)]
      rfl
theorem ev_minL {xs : List Int} {m : Int} (ha : Ev M ta σ Z H s (li yInt xs) s1) (e : minZ xs = some m) : Ev M (tCB (rMin K) (tCons ta tNil)) σ Z H s (ty yInt m) s1 :=
  ev_cb (eva_cons ha eva_nil) fun _ _ _ sz ⟨v, r, e1, h, e2⟩ _ q => by
    cases e2; cases e1
    obtain ⟨p, vs, rfl, g, t, _⟩ := rdl sz h
    rw [t.ints] at g
    cases xs with
    | nil => cases e
    | cons x r =>
      refine ⟨p, x :: r, rfl, SqL.of g, Nat.succ_pos _, fun n hn hg => q _ _ _ (Step.refl sz) ?_⟩
      rw [foldl_min_of r x n hn hg, ← Option.some.inj (e : some (r.foldl min x) = some m)]
      rfl
theorem ev_max2 {i j : Int} (ha : Ev M ta σ Z H s (ty yInt i) s1) (hb : Ev M tb σ Z H s1 (ty yInt j) s2) : Ev M (tCB (fun xs H Q => ∃ i j, xs = [.int i, .int j] ∧ Q (.int (if j > i then j else i)) H) (tCons ta (tCons tb tNil))) σ Z H s (ty yInt (max i j)) s2 :=
  ev_cb (eva_cons ha (eva_cons hb eva_nil)) fun _ _ _ sz ⟨v, r, e1, h, w, r2, e2, h2, e3⟩ _ q => by
    cases e3; cases e2; cases e1; cases h; cases h2
    refine ⟨i, j, rfl, q _ _ _ (Step.refl sz) ?_⟩
    show V.int _ = V.int _
    by_cases c : j > i
    · rw [if_pos c, Int.max_eq_right (by omega)]
    · rw [if_neg c, Int.max_eq_left (by omega)]
theorem ev_min2 {i j : Int} (ha : Ev M ta σ Z H s (ty yInt i) s1) (hb : Ev M tb σ Z H s1 (ty yInt j) s2) : Ev M (tCB (fun xs H Q => ∃ i j, xs = [.int i, .int j] ∧ Q (.int (if j < i then j else i)) H) (tCons ta (tCons tb tNil))) σ Z H s (ty yInt (min i j)) s2 :=
  ev_cb (eva_cons ha (eva_cons hb eva_nil)) fun _ _ _ sz ⟨v, r, e1, h, w, r2, e2, h2, e3⟩ _ q => by
    cases e3; cases e2; cases e1; cases h; cases h2
    refine ⟨i, j, rfl, q _ _ _ (Step.refl sz) ?_⟩
    show V.int _ = V.int _
    by_cases c : j < i
    · rw [if_pos c, Int.min_eq_right (by omega)]
    · rw [if_neg c, Int.min_eq_left (by omega)]
theorem ev_int_of {i : Int} (ha : Ev M ta σ Z H s (ty yInt i) s1) : Ev M (tCB (fun xs H Q => (∃ i, xs = [.int i] ∧ Q (.int i) H) ∨ ∃ k, xs = [.bl k] ∧ Q (.int (if k then 1 else 0)) H) (tCons ta tNil)) σ Z H s (ty yInt i) s1 :=
  ev_cb (eva_cons ha eva_nil) fun _ _ _ sz ⟨v, r, e1, h, e2⟩ _ q => by
    cases e2; cases e1; cases h
    exact .inl ⟨i, rfl, q _ _ _ (Step.refl sz) rfl⟩
/-! ### in -/
/-- flat, and its equality is the thing's -/
structure FlatI {α : Type} (τ : Ty α) (f : α → V) : Prop where
  flat : Flat τ f
  fl : ∀ x, flatV (f x) = true
  eqv : ∀ x y, eqV (f x) (f y) = true ↔ x = y
theorem fi_int : FlatI yInt V.int := ⟨flat_int, fun _ => rfl, fun x y => by show (x == y) = true ↔ _; exact beq_iff_eq⟩
theorem fi_str : FlatI yStr V.str := ⟨flat_str, fun _ => rfl, fun x y => by show (x == y) = true ↔ _; exact beq_iff_eq⟩
theorem fi_bool : FlatI yBool V.bl := ⟨flat_bool, fun _ => rfl, fun x y => by show (x == y) = true ↔ _; exact beq_iff_eq⟩
section
variable {α : Type} [DecidableEq α] {τ : Ty α} {f : α → V} {x : α} {xs : List α}
theorem inV_map (F : FlatI τ f) : inV (f x) (xs.map f) = decide (x ∈ xs) := by
  unfold inV
  rw [List.any_map]
  apply Bool.eq_iff_iff.mpr
  rw [List.any_eq_true, decide_eq_true_iff]
  constructor
  · rintro ⟨y, hy, e⟩
    rw [← (F.eqv y x).mp e]; exact hy
  · exact fun h => ⟨x, h, (F.eqv x x).mpr rfl⟩
theorem flat_map (F : FlatI τ f) : (xs.map f).all flatV = true := by
  rw [List.all_map]
  exact List.all_eq_true.mpr fun y _ => F.fl y
theorem ev_in (F : FlatI τ f) (ha : Ev M ta σ Z H s (ty τ x) s1) (hb : Ev M tb σ Z H s1 (li τ xs) s2) : Ev M (tOp (rIn K false) ta tb) σ Z H s (ty yBool (decide (x ∈ xs))) s2 :=
  ev_op ha hb fun _ _ _ _ sz e1 e2 _ q => by
    obtain ⟨p, vs, rfl, g, t, _⟩ := rdl sz e2
    have ev := t.map (F.flat.eq _); subst ev
    rw [F.flat.eq _ _ _ e1]
    exact ⟨p, _, rfl, .inl (SqL.of g), F.fl x, flat_map F, q _ _ _ (Step.refl sz) (congrArg V.bl (inV_map F))⟩
theorem ev_notin (F : FlatI τ f) (ha : Ev M ta σ Z H s (ty τ x) s1) (hb : Ev M tb σ Z H s1 (li τ xs) s2) : Ev M (tOp (rIn K true) ta tb) σ Z H s (ty yBool (!decide (x ∈ xs))) s2 :=
  ev_op ha hb fun _ _ _ _ sz e1 e2 _ q => by
    obtain ⟨p, vs, rfl, g, t, _⟩ := rdl sz e2
    have ev := t.map (F.flat.eq _); subst ev
    rw [F.flat.eq _ _ _ e1]
    exact ⟨p, _, rfl, .inl (SqL.of g), F.fl x, flat_map F, q _ _ _ (Step.refl sz) (congrArg (fun b => V.bl (!b)) (inV_map F))⟩
theorem ev_inT (F : FlatI τ f) (ha : Ev M ta σ Z H s (ty τ x) s1) (hb : Ev M tb σ Z H s1 (ty (yTup K τ) xs) s2) : Ev M (tOp (rIn K false) ta tb) σ Z H s (ty yBool (decide (x ∈ xs))) s2 :=
  ev_op ha hb fun _ _ _ _ sz e1 ⟨p, vs, e, g, t, _⟩ _ q => by
    subst e
    have ev := t.map (F.flat.eq _); subst ev
    rw [F.flat.eq _ _ _ e1]
    exact ⟨p, _, rfl, .inr (seqT_same sz g), F.fl x, flat_map F, q _ _ _ (Step.refl sz) (congrArg V.bl (inV_map F))⟩
theorem ev_notinT (F : FlatI τ f) (ha : Ev M ta σ Z H s (ty τ x) s1) (hb : Ev M tb σ Z H s1 (ty (yTup K τ) xs) s2) : Ev M (tOp (rIn K true) ta tb) σ Z H s (ty yBool (!decide (x ∈ xs))) s2 :=
  ev_op ha hb fun _ _ _ _ sz e1 ⟨p, vs, e, g, t, _⟩ _ q => by
    subst e
    have ev := t.map (F.flat.eq _); subst ev
    rw [F.flat.eq _ _ _ e1]
    exact ⟨p, _, rfl, .inr (seqT_same sz g), F.fl x, flat_map F, q _ _ _ (Step.refl sz) (congrArg (fun b => V.bl (!b)) (inV_map F))⟩
end
end
end TP

namespace TP
open PySem PySem.Spec PyProof.Rows L2
section
variable {μ : Type} {M : Mu μ} {σ : L2.St} {Z H : Hp} {s s' s1 s2 s3 : μ} {ta tb tc te : TE} {t : TA} {K : PySem.W.Frag}
/-! ### equality of data -/
structure EqD (K : PySem.W.Frag) {α : Type} (τ : Ty α) (d : α → PyData) (n : Nat) : Prop where
  dp : ∀ Z H v x, Same Z H → τ.r Z v x → Dp K H v (d x)
  lay : ∀ Z v x, τ.r Z v x → (d x).canLay0 = true
  dep : ∀ x, (d x).depth ≤ n
  eqv : ∀ x y, PyData.eqv (d x) (d y) = true ↔ x = y
theorem eqd_int : EqD K yInt PyData.int 0 := ⟨fun _ _ _ x _ h => by cases h; exact .int x, fun _ _ _ _ => rfl, fun _ => Nat.le_refl _, fun x y => by simp [PyData.eqv]⟩
theorem eqd_bool : EqD K yBool PyData.bool 0 := ⟨fun _ _ _ x _ h => by cases h; exact .bl x, fun _ _ _ _ => rfl, fun _ => Nat.le_refl _, fun x y => by simp [PyData.eqv]⟩
theorem eqd_str : EqD K yStr PyData.str 0 := ⟨fun _ _ _ x _ h => by rw [h.1]; exact .str x, fun _ _ x h => by
  have := (Bool.and_eq_true_iff.mp (show (PyData.strOk x && decide (x.length ≤ sizeLine)) = true from h.2)).1
  simpa [PyData.canLay0] using this, fun _ => Nat.le_refl _, fun x y => by simp [PyData.eqv]⟩
theorem eqd_non : EqD K yNon (fun _ => PyData.none) 0 := ⟨fun _ _ _ x _ h => by cases h; exact .non, fun _ _ _ _ => rfl, fun _ => Nat.le_refl _, fun x y => by simp [PyData.eqv]⟩
section
variable {α β γ δ : Type} {τ : Ty α} {υ : Ty β} {φ : Ty γ} {ψ : Ty δ} {d : α → PyData} {e : β → PyData} {f : γ → PyData} {g : δ → PyData} {n m k l : Nat}
theorem EqD.all (E : EqD K τ d n) {Z H : Hp} (sz : Same Z H) : ∀ {vs : List V} {xs : List α}, All (τ.r Z) vs xs → DpAll K H vs (xs.map d)
  | _, _, .nil => .nil
  | _, _, .cons h t => .cons (E.dp _ _ _ _ sz h) (E.all sz t)
theorem EqD.lays (E : EqD K τ d n) {Z : Hp} : ∀ {vs : List V} {xs : List α}, All (τ.r Z) vs xs → PyData.canLayAll0 (xs.map d) = true
  | _, _, .nil => by simp [PyData.canLayAll0]
  | _, _, .cons h t => by
    have h1 := E.lay _ _ _ h
    have h2 := E.lays t
    simp [PyData.canLayAll0, h1, h2]
theorem EqD.deps (E : EqD K τ d n) : ∀ xs : List α, PyData.depthAll (xs.map d) ≤ n
  | [] => by simp [PyData.depthAll]
  | x :: r => by
    have h1 := E.dep x
    have h2 := E.deps r
    simp only [List.map_cons, PyData.depthAll]
    omega
theorem EqD.eqvs (E : EqD K τ d n) : ∀ xs ys : List α, PyData.eqvAll (xs.map d) (ys.map d) = true ↔ xs = ys
  | [], [] => by simp [PyData.eqvAll]
  | [], _ :: _ => by simp [PyData.eqvAll]
  | _ :: _, [] => by simp [PyData.eqvAll]
  | x :: xs, y :: ys => by
    simp only [List.map_cons, PyData.eqvAll, Bool.and_eq_true, E.eqv x y, E.eqvs xs ys, List.cons.injEq]
theorem eqd_list (E : EqD K τ d n) : EqD K (yList τ) (fun xs => .list (xs.map d)) (n + 1) where
  dp := fun Z H v x sz ⟨a, vs, e, h, t, _⟩ => by subst e; exact .lst (SqL.of (sz _ _ h)) (E.all sz t)
  lay := fun Z v x ⟨a, vs, e, h, t, _⟩ => by simpa [PyData.canLay0] using E.lays t
  dep := fun x => by have := E.deps x; simp only [PyData.depth]; omega
  eqv := fun x y => by simp only [PyData.eqv]; exact E.eqvs x y
theorem eqd_tup (E : EqD K τ d n) : EqD K (yTup K τ) (fun xs => .tuple (xs.map d)) (n + 1) where
  dp := fun Z H v x sz ⟨a, vs, e, h, t, _⟩ => by subst e; exact .tup (seqT_same sz h) (E.all sz t)
  lay := fun Z v x ⟨a, vs, e, h, t, _⟩ => by simpa [PyData.canLay0] using E.lays t
  dep := fun x => by have := E.deps x; simp only [PyData.depth]; omega
  eqv := fun x y => by simp only [PyData.eqv]; exact E.eqvs x y
theorem eqd_p1 (E : EqD K τ d n) : EqD K (yP1 K τ) (fun x => .tuple [d x]) (n + 1) where
  dp := fun Z H v x sz ⟨a, v1, e, h, h1⟩ => by subst e; exact .tup (seqT_same sz h) (.cons (E.dp _ _ _ _ sz h1) .nil)
  lay := fun Z v x ⟨a, v1, e, h, h1⟩ => by simp [PyData.canLay0, PyData.canLayAll0, E.lay _ _ _ h1]
  dep := fun x => by have := E.dep x; simp only [PyData.depth, PyData.depthAll]; omega
  eqv := fun x y => by simp only [PyData.eqv, PyData.eqvAll, Bool.and_true]; exact E.eqv x y
theorem eqd_p2 (E : EqD K τ d n) (F : EqD K υ e m) : EqD K (yP2 K τ υ) (fun x => .tuple [d x.1, e x.2]) (max n m + 1) where
  dp := fun Z H v x sz ⟨a, v1, v2, e, h, h1, h2⟩ => by subst e; exact .tup (seqT_same sz h) (.cons (E.dp _ _ _ _ sz h1) (.cons (F.dp _ _ _ _ sz h2) .nil))
  lay := fun Z v x ⟨a, v1, v2, e, h, h1, h2⟩ => by simp [PyData.canLay0, PyData.canLayAll0, E.lay _ _ _ h1, F.lay _ _ _ h2]
  dep := fun x => by have := E.dep x.1; have := F.dep x.2; simp only [PyData.depth, PyData.depthAll]; omega
  eqv := fun x y => by
    simp only [PyData.eqv, PyData.eqvAll, Bool.and_true, Bool.and_eq_true, E.eqv, F.eqv]
    exact Prod.ext_iff.symm
theorem eqd_p3 (E : EqD K τ d n) (F : EqD K υ e m) (G : EqD K φ f k) : EqD K (yP3 K τ υ φ) (fun x => .tuple [d x.1, e x.2.1, f x.2.2]) (max n (max m k) + 1) where
  dp := fun Z H v x sz ⟨a, v1, v2, v3, e, h, h1, h2, h3⟩ => by subst e; exact .tup (seqT_same sz h) (.cons (E.dp _ _ _ _ sz h1) (.cons (F.dp _ _ _ _ sz h2) (.cons (G.dp _ _ _ _ sz h3) .nil)))
  lay := fun Z v x ⟨a, v1, v2, v3, e, h, h1, h2, h3⟩ => by simp [PyData.canLay0, PyData.canLayAll0, E.lay _ _ _ h1, F.lay _ _ _ h2, G.lay _ _ _ h3]
  dep := fun x => by have := E.dep x.1; have := F.dep x.2.1; have := G.dep x.2.2; simp only [PyData.depth, PyData.depthAll]; omega
  eqv := fun x y => by
    simp only [PyData.eqv, PyData.eqvAll, Bool.and_true, Bool.and_eq_true, E.eqv, F.eqv, G.eqv]
    rw [Prod.ext_iff, Prod.ext_iff]
theorem eqd_p4 (E : EqD K τ d n) (F : EqD K υ e m) (G : EqD K φ f k) (I : EqD K ψ g l) : EqD K (yP4 K τ υ φ ψ) (fun x => .tuple [d x.1, e x.2.1, f x.2.2.1, g x.2.2.2]) (max n (max m (max k l)) + 1) where
  dp := fun Z H v x sz ⟨a, v1, v2, v3, v4, e, h, h1, h2, h3, h4⟩ => by subst e; exact .tup (seqT_same sz h) (.cons (E.dp _ _ _ _ sz h1) (.cons (F.dp _ _ _ _ sz h2) (.cons (G.dp _ _ _ _ sz h3) (.cons (I.dp _ _ _ _ sz h4) .nil))))
  lay := fun Z v x ⟨a, v1, v2, v3, v4, e, h, h1, h2, h3, h4⟩ => by simp [PyData.canLay0, PyData.canLayAll0, E.lay _ _ _ h1, F.lay _ _ _ h2, G.lay _ _ _ h3, I.lay _ _ _ h4]
  dep := fun x => by have := E.dep x.1; have := F.dep x.2.1; have := G.dep x.2.2.1; have := I.dep x.2.2.2; simp only [PyData.depth, PyData.depthAll]; omega
  eqv := fun x y => by
    simp only [PyData.eqv, PyData.eqvAll, Bool.and_true, Bool.and_eq_true, E.eqv, F.eqv, G.eqv, I.eqv]
    rw [Prod.ext_iff, Prod.ext_iff, Prod.ext_iff]
def optD (d : α → PyData) : Option α → PyData
  | none => .none
  | some x => d x
theorem eqv_none : ∀ c : PyData, PyData.eqv .none c = true ↔ c = .none
  | .none => by simp [PyData.eqv]
  | .bool _ => by simp [PyData.eqv]
  | .int _ => by simp [PyData.eqv]
  | .str _ => by simp [PyData.eqv]
  | .list _ => by simp [PyData.eqv]
  | .tuple _ => by simp [PyData.eqv]
  | .dict _ => by simp [PyData.eqv]
theorem none_eqv : ∀ c : PyData, PyData.eqv c .none = true ↔ c = .none
  | .none => by simp [PyData.eqv]
  | .bool _ => by simp [PyData.eqv]
  | .int _ => by simp [PyData.eqv]
  | .str _ => by simp [PyData.eqv]
  | .list _ => by simp [PyData.eqv]
  | .tuple _ => by simp [PyData.eqv]
  | .dict _ => by simp [PyData.eqv]
theorem eqd_opt (E : EqD K τ d n) (nn : ∀ x, d x ≠ .none) : EqD K (yOpt τ) (optD d) n where
  dp := fun Z H v x sz h => match x, h with
    | none, h => by rw [show v = .non from h]; exact .non
    | some x, h => E.dp _ _ _ _ sz h.1
  lay := fun Z v x h => match x, h with
    | none, h => rfl
    | some x, h => E.lay _ _ _ h.1
  dep := fun x => match x with
    | none => Nat.zero_le _
    | some x => E.dep x
  eqv := fun x y => match x, y with
    | none, none => by simp [optD, PyData.eqv]
    | none, some y => by simp [optD, eqv_none, nn y]
    | some x, none => by simp [optD, none_eqv, nn x]
    | some x, some y => by simp [optD, E.eqv x y]
end
/-- the value is read as the data d -/
def GD {fp : List Addr} (K : PySem.W.Frag) (R : Rr fp) (d : PyData) : Prop := ∀ Z H v, Same Z H → R.r Z H v → Dp K H v d ∧ d.canLay0 = true
theorem EqD.gd {fp : List Addr} {α : Type} {τ : Ty α} {d : α → PyData} {n : Nat} (E : EqD K τ d n) (x : α) : GD K (ty (fp := fp) τ x) (d x) := fun _ _ _ sz h => ⟨E.dp _ _ _ _ sz h, E.lay _ _ _ h⟩
theorem EqD.gdl {fp : List Addr} {α : Type} {τ : Ty α} {d : α → PyData} {n : Nat} (E : EqD K τ d n) (xs : List α) : GD K (li (fp := fp) τ xs) (.list (xs.map d)) := fun _ _ _ sz h => by
  obtain ⟨p, vs, rfl, g, t, _⟩ := rdl sz h
  exact ⟨.lst (SqL.of g) (E.all sz t), by simpa [PyData.canLay0] using E.lays t⟩
theorem shaped_of {d : PyData} {n : Nat} (h : d.canLay0 = true) (l : d.depth ≤ n) (hn : n ≤ 64) : SeqAt.shaped d = true := by
  unfold SeqAt.shaped
  rw [h, Bool.true_and]
  exact decide_eq_true (by omega)
theorem ev_eqG {R R' : Rr M.fp} {c c' : PyData} {P : Prop} [Decidable P] (hc : PyData.eqv c c' = true ↔ P) (G : GD K R c) (G' : GD K R' c') (l : c.depth ≤ 64) (l' : c'.depth ≤ 64) (ha : Ev M ta σ Z H s R s1) (hb : Ev M tb σ Z H s1 R' s2) : Ev M (tOp (rEqD K) ta tb) σ Z H s (ty yBool (decide P)) s2 :=
  ev_op ha hb fun _ _ _ _ sz e1 e2 _ q => by
    obtain ⟨d1, k1⟩ := G _ _ _ sz e1
    obtain ⟨d2, k2⟩ := G' _ _ _ sz e2
    exact ⟨c, c', d1, d2, shaped_of k1 l (Nat.le_refl _), shaped_of k2 l' (Nat.le_refl _), q _ _ _ (Step.refl sz) (congrArg V.bl (Bool.eq_iff_iff.mpr (hc.trans decide_eq_true_iff.symm)))⟩
theorem ev_neG {R R' : Rr M.fp} {c c' : PyData} {P : Prop} [Decidable P] (hc : PyData.eqv c c' = true ↔ P) (G : GD K R c) (G' : GD K R' c') (l : c.depth ≤ 64) (l' : c'.depth ≤ 64) (ha : Ev M ta σ Z H s R s1) (hb : Ev M tb σ Z H s1 R' s2) : Ev M (tOp (rNeD K) ta tb) σ Z H s (ty yBool (!decide P)) s2 :=
  ev_op ha hb fun _ _ _ _ sz e1 e2 _ q => by
    obtain ⟨d1, k1⟩ := G _ _ _ sz e1
    obtain ⟨d2, k2⟩ := G' _ _ _ sz e2
    exact ⟨c, c', d1, d2, shaped_of k1 l (Nat.le_refl _), shaped_of k2 l' (Nat.le_refl _), q _ _ _ (Step.refl sz) (congrArg (fun b => V.bl (!b)) (Bool.eq_iff_iff.mpr (hc.trans decide_eq_true_iff.symm)))⟩
section
variable {α : Type} [DecidableEq α] {τ : Ty α} {d : α → PyData} {n : Nat} {x y : α} {xs ys : List α}
theorem ev_eqD (E : EqD K τ d n) (hn : n ≤ 64) (ha : Ev M ta σ Z H s (ty τ x) s1) (hb : Ev M tb σ Z H s1 (ty τ y) s2) : Ev M (tOp (rEqD K) ta tb) σ Z H s (ty yBool (decide (x = y))) s2 :=
  ev_eqG (E.eqv x y) (E.gd x) (E.gd y) (Nat.le_trans (E.dep x) hn) (Nat.le_trans (E.dep y) hn) ha hb
theorem ev_neD (E : EqD K τ d n) (hn : n ≤ 64) (ha : Ev M ta σ Z H s (ty τ x) s1) (hb : Ev M tb σ Z H s1 (ty τ y) s2) : Ev M (tOp (rNeD K) ta tb) σ Z H s (ty yBool (!decide (x = y))) s2 :=
  ev_neG (E.eqv x y) (E.gd x) (E.gd y) (Nat.le_trans (E.dep x) hn) (Nat.le_trans (E.dep y) hn) ha hb
theorem depL (E : EqD K τ d n) (hn : n + 1 ≤ 64) : (PyData.list (xs.map d)).depth ≤ 64 := by have := E.deps xs; simp only [PyData.depth]; omega
theorem ev_eqL (E : EqD K τ d n) (hn : n + 1 ≤ 64) (ha : Ev M ta σ Z H s (li τ xs) s1) (hb : Ev M tb σ Z H s1 (li τ ys) s2) : Ev M (tOp (rEqD K) ta tb) σ Z H s (ty yBool (decide (xs = ys))) s2 :=
  ev_eqG (by simp only [PyData.eqv]; exact E.eqvs xs ys) (E.gdl xs) (E.gdl ys) (depL E hn) (depL E hn) ha hb
theorem ev_neL (E : EqD K τ d n) (hn : n + 1 ≤ 64) (ha : Ev M ta σ Z H s (li τ xs) s1) (hb : Ev M tb σ Z H s1 (li τ ys) s2) : Ev M (tOp (rNeD K) ta tb) σ Z H s (ty yBool (!decide (xs = ys))) s2 :=
  ev_neG (by simp only [PyData.eqv]; exact E.eqvs xs ys) (E.gdl xs) (E.gdl ys) (depL E hn) (depL E hn) ha hb
end
theorem en_cast {α : Type} {τ : Ty α} {xs ys : List α} (h : EvN M te σ Z H s τ xs s1) (e : xs = ys) : EvN M te σ Z H s τ ys s1 := e ▸ h
theorem ev_chain {i j k : Int} {p r : Int → Int → Bool} (ha : Ev M ta σ Z H s (ty yInt i) s1) (hb : Ev M tb σ Z H s1 (ty yInt j) s1) (hc : Ev M tc σ Z H s1 (ty yInt k) s1) : Ev M (tChain (rI0 fun i j => .bl (p i j)) (rI0 fun i j => .bl (r i j)) ta tb tc) σ Z H s (ty yBool (p i j && r j k)) s1 :=
  fun Z1 H1 a b c d Q q => ha Z1 H1 a b c d _ fun v Z2 H2 e m rv => hb Z2 H2 (a.trans e.z) (b.trans e.h) e.s m _ fun w Z3 H3 e2 m2 rw => ⟨i, j, rv, rw, p i j, rfl, by
    have e3 := e.trans e2
    cases hp : p i j with
    | true => rw [if_pos rfl]; exact hc Z3 H3 (a.trans e3.z) (b.trans e3.h) e3.s m2 _ fun u Z4 H4 e4 m4 ru => ⟨j, k, rw, ru, q _ Z4 H4 (e3.trans e4) m4 (by rw [hp]; rfl)⟩
    | false => rw [if_neg Bool.false_ne_true]; exact q _ Z3 H3 e3 m2 (by rw [hp]; rfl)⟩
theorem ev_chainO {i j k : Int} {b : Bool} {o : Option Bool} {p r : Int → Int → Bool} (ha : Ev M ta σ Z H s (ty yInt i) s1) (hb : Ev M tb σ Z H s1 (ty yInt j) s1) (hc : p i j = true → Ev M tc σ Z H s1 (ty yInt k) s1) : Ev M (tChain (rI0 fun i j => .bl (p i j)) (rI0 fun i j => .bl (r i j)) ta tb tc) σ Z H s (ty yBool (p i j && r j k)) s1 :=
  fun Z1 H1 a b c d Q q => ha Z1 H1 a b c d _ fun v Z2 H2 e m rv => hb Z2 H2 (a.trans e.z) (b.trans e.h) e.s m _ fun w Z3 H3 e2 m2 rw => ⟨i, j, rv, rw, p i j, rfl, by
    have e3 := e.trans e2
    cases hp : p i j with
    | true => rw [if_pos rfl]; exact hc hp Z3 H3 (a.trans e3.z) (b.trans e3.h) e3.s m2 _ fun u Z4 H4 e4 m4 ru => ⟨j, k, rw, ru, q _ Z4 H4 (e3.trans e4) m4 (by rw [hp]; rfl)⟩
    | false => rw [if_neg Bool.false_ne_true]; exact q _ Z3 H3 e3 m2 (by rw [hp]; rfl)⟩
section
variable {a b : Bool} {o o' : Option Bool} {tA tB' tt : TT}
theorem ev_andO (ha : Ev M ta σ Z H s (ty yBool a) s1) (hb : a = true → ∀ y, o = some y → Ev M tb σ Z H s1 (ty yBool y) s1) (h : (if a = true then o else some false) = some b) : Ev M (tAndV ta tb) σ Z H s (ty yBool b) s1 :=
  ev_and (o := o.map fun y => (y, s1)) ha (fun e y s' hy => by obtain ⟨z, hz, e2⟩ := Option.map_eq_some_iff.mp hy; cases e2; exact hb e _ hz) (by
    cases a with
    | true => rw [if_pos rfl] at h ⊢; rw [h]; rfl
    | false => rw [if_neg Bool.false_ne_true] at h ⊢; rw [← Option.some.inj h])
theorem ev_orO (ha : Ev M ta σ Z H s (ty yBool a) s1) (hb : a = false → ∀ y, o = some y → Ev M tb σ Z H s1 (ty yBool y) s1) (h : (if a = true then some true else o) = some b) : Ev M (tOrV ta tb) σ Z H s (ty yBool b) s1 :=
  ev_or (o := o.map fun y => (y, s1)) ha (fun e y s' hy => by obtain ⟨z, hz, e2⟩ := Option.map_eq_some_iff.mp hy; cases e2; exact hb e _ hz) (by
    cases a with
    | false => rw [if_neg Bool.false_ne_true] at h ⊢; rw [h]; rfl
    | true => rw [if_pos rfl] at h ⊢; rw [← Option.some.inj h])
theorem et_andO (ha : EvT M tA σ Z H s a s1) (hb : a = true → ∀ y, o = some y → EvT M tB' σ Z H s1 y s1) (h : (if a = true then o else some false) = some b) : EvT M (tAnd tA tB') σ Z H s b s1 :=
  et_and (o := o.map fun y => (y, s1)) ha (fun e y s' hy => by obtain ⟨z, hz, e2⟩ := Option.map_eq_some_iff.mp hy; cases e2; exact hb e _ hz) (by
    cases a with
    | true => rw [if_pos rfl] at h ⊢; rw [h]; rfl
    | false => rw [if_neg Bool.false_ne_true] at h ⊢; rw [← Option.some.inj h])
theorem et_orO (ha : EvT M tA σ Z H s a s1) (hb : a = false → ∀ y, o = some y → EvT M tB' σ Z H s1 y s1) (h : (if a = true then some true else o) = some b) : EvT M (tOr tA tB') σ Z H s b s1 :=
  et_or (o := o.map fun y => (y, s1)) ha (fun e y s' hy => by obtain ⟨z, hz, e2⟩ := Option.map_eq_some_iff.mp hy; cases e2; exact hb e _ hz) (by
    cases a with
    | false => rw [if_neg Bool.false_ne_true] at h ⊢; rw [h]; rfl
    | true => rw [if_pos rfl] at h ⊢; rw [← Option.some.inj h])
end
/-! ### fields, calls -/
/-- the attribute f of things of this kind -/
def FldOf {α β : Type} (τ : Ty α) (C : Addr) (f : Str) (υ : Ty β) (pr : α → β) : Prop := ∀ Z v x, τ.r Z v x → ∃ a dx fs w, v = .ref a ∧ Z a = some (.ins C dx fs) ∧ fs.lookup f = some w ∧ υ.r Z w (pr x)
theorem ev_fld {α β : Type} {τ : Ty α} {υ : Ty β} {C : Addr} {f : Str} {pr : α → β} {x : α} (F : FldOf τ C f υ pr) (c : Cls K C) (n : NoAttr K C f) (ha : Ev M ta σ Z H s (ty τ x) s1) : Ev M (tFld K ta f) σ Z H s (ty υ (pr x)) s1 :=
  fun Z1 H1 a b c' d Q q => ha Z1 H1 a b c' d _ fun v Z2 H2 e m rv => by
    obtain ⟨p, dx, fs, w, rfl, hp, l, rw'⟩ := F _ _ _ rv
    exact ⟨p, C, dx, fs, w, rfl, e.s _ _ hp, c, n, l, q _ _ _ e m rw'⟩
/-- things of this kind are instances of the class at C without an own attribute m -/
def ObjOf {α : Type} (τ : Ty α) (C : Addr) (m : Str) : Prop := ∀ Z v x, τ.r Z v x → ∃ a dx fs, v = .ref a ∧ Z a = some (.ins C dx fs) ∧ fs.lookup m = none
/-- what a promise gives for arguments of which Rs is true -/
def CallS (M : Mu μ) (sp : Sp) (E : XK) (Rs : Ra M.fp) (s : μ) (R : Rr M.fp) (s' : μ) : Prop :=
  ∀ Z H vs, Same Z H → M.m s Z H → Rs.r Z H vs → ∀ Q : VK, (∀ v Z2 H2, Step M.fp Z H Z2 H2 → M.m s' Z2 H2 → R.r Z2 H2 v → Q v H2) → sp vs H Q E
theorem ev_call {sp : Sp} {E : XK} {Rs : Ra M.fp} {R : Rr M.fp} (C : CallS M sp E Rs s1 R s2) (ha : EvA M t σ Z H s Rs s1) : Ev M (tCall sp [] E t) σ Z H s R s2 :=
  fun Z1 H1 a b c d Q q => ha Z1 H1 a b c d _ fun vs Z2 H2 e m rs => by
    rw [List.append_nil]
    exact C Z2 H2 vs e.s m rs Q fun v Z3 H3 e2 m2 rv => q v Z3 H3 (e.trans e2) m2 rv
theorem ev_meth {α : Type} {τ : Ty α} {x : α} {C' : Addr} {m : Str} {sp : Sp} {E : XK} {Rs : Ra M.fp} {R : Rr M.fp} (O : ObjOf τ C' m) (C : CallS M sp E (rac (ty τ x) Rs) s2 R s3) (hx : Ev M ta σ Z H s (ty τ x) s1) (ha : EvA M t σ Z H s1 Rs s2) : Ev M (tMeth C' m sp [] E ta t) σ Z H s R s3 :=
  fun Z1 H1 a b c d Q q => hx Z1 H1 a b c d _ fun v Z2 H2 e mm rv => by
    obtain ⟨p, dx, fs, rfl, hp, l⟩ := O _ _ _ rv
    refine ⟨p, dx, fs, rfl, e.s _ _ hp, l, ha Z2 H2 (a.trans e.z) (b.trans e.h) e.s mm _ fun vs Z3 H3 e2 m2 rs => ?_⟩
    rw [List.append_nil]
    exact C Z3 H3 _ e2.s m2 ⟨_, vs, rfl, τ.mono e2.z rv, rs⟩ Q fun v Z4 H4 e3 m3 rv' => q v Z4 H4 ((e.trans e2).trans e3) m3 rv'
theorem ev_meth0 {α : Type} {τ : Ty α} {x : α} {C' : Addr} {m : Str} {sp : Sp} {E : XK} {R : Rr M.fp} (O : ObjOf τ C' m) (C : CallS M sp E (rac (ty τ x) ra0) s1 R s2) (hx : Ev M ta σ Z H s (ty τ x) s1) : Ev M (tMeth C' m sp [] E ta tNil) σ Z H s R s2 := ev_meth O C hx eva_nil
theorem ev_prop {α : Type} {τ : Ty α} {x : α} {C' : Addr} {m : Str} {sp : Sp} {E : XK} {R : Rr M.fp} (O : ObjOf τ C' m) (C : CallS M sp E (rac (ty τ x) ra0) s1 R s2) (hx : Ev M ta σ Z H s (ty τ x) s1) : Ev M (tProp C' sp [] E ta) σ Z H s R s2 :=
  fun Z1 H1 a b c d Q q => hx Z1 H1 a b c d _ fun v Z2 H2 e mm rv => by
    obtain ⟨p, dx, fs, rfl, hp, l⟩ := O _ _ _ rv
    exact ⟨p, dx, fs, rfl, e.s _ _ hp, C Z2 H2 _ e.s mm ⟨_, [], rfl, rv, rfl⟩ Q fun v Z4 H4 e3 m3 rv' => q v Z4 H4 (e.trans e3) m3 rv'⟩
/-- what the __init__ of the class at C makes of a new instance: a thing of which R is true -/
def InitS (M : Mu μ) (C : Addr) (sp : Sp) (E : XK) (Rs : Ra M.fp) (s : μ) (R : Rr M.fp) (s' : μ) : Prop :=
  ∀ Z H vs x dx, Same Z H → M.m s Z H → Rs.r Z H vs → H x = some (.ins C dx []) → Z x = none → x ∉ M.fp → ∀ Q : VK, (∀ Z2 H2 o, Step (x :: M.fp) Z H Z2 H2 → M.m s' Z2 H2 → H2 x = some o → R.r (upd Z2 x o) H2 (.ref x) → Q .non H2) → sp (.ref x :: vs) H Q E
theorem Step.dict {Z H : Hp} {x dx C : Addr} (sz : Same Z H) (hx : H x = none) (hd : H dx = none) (ne : dx ≠ x) : Step [] Z H Z (upd (upd H dx (.own x)) x (.ins C dx [])) :=
  (Step.own sz hd).trans (Step.own (Step.own sz hd).s (by rw [upd_ne ne.symm]; exact hx))
theorem Step.freeze {S : List Addr} {Z H Z1 H1 : Hp} {x : Addr} {o : HO} (g : Step (x :: S) Z H Z1 H1) (hx : H x = none) (h1 : H1 x = some o) (hz : Z1 x = none) : Step S Z H (upd Z1 x o) H1 := by
  have g' : Step S Z H Z1 H1 := g.weak fun a h => by
    rcases List.mem_cons.mp h with e | h
    · exact .inr (e ▸ hx)
    · exact .inl h
  refine ⟨g'.z.trans (same_upd hz), fun a u e => ?_, g'.h, fun a h z => ?_, g'.al⟩
  · by_cases q : a = x
    · subst q; rw [upd_same] at e; rw [← Option.some.inj e]; exact h1
    · rw [upd_ne q] at e; exact g'.s a u e
  · rw [upd_ne (ne_of_some h hx)]; exact g'.n a h z
theorem ev_make {C : Addr} {sp : Sp} {E : XK} {Rs : Ra M.fp} {R : Rr M.fp} (I : InitS M C sp E Rs s1 R s2) (ha : EvA M t σ Z H s Rs s1) : Ev M (tMake C sp [] E t) σ Z H s R s2 :=
  fun Z1 H1 a b c d Q q => ha Z1 H1 a b c d _ fun vs Z2 H2 e m rs x dx hx hd ne => by
    rw [List.append_nil]
    have st := Step.dict (C := C) e.s hx hd ne
    have nf : x ∉ M.fp := fun h => (M.al m x h).1 hx
    refine I Z2 _ vs x dx st.s (M.pure st m) (Rs.st st.pure rs) upd_same (same_none e.s hx) nf _ fun Z3 H3 o e2 m2 ho rv => ⟨rfl, ?_⟩
    have hz3 : Z3 x = none := e2.n x (by rw [upd_same]; exact fun z => nomatch z) (same_none e.s hx)
    have e3 : Step M.fp Z2 H2 (upd Z3 x o) H3 := ((st.pure (S := x :: M.fp)).trans e2).freeze hx ho hz3
    refine q _ _ _ (e.trans e3) (M.loc (same_upd hz3) (fun _ _ _ e => e) (fun a ha _ z => ?_) m2) rv
    rw [upd_ne (fun q => nf (by rw [← q]; exact ha))]
    exact z
theorem ev_makeK {C : Addr} {n k : Nat} {sp : Sp} {E : XK} {Rs Rk Rs' : Ra M.fp} {R : Rr M.fp} {gV : List V → List V → List V} {tk : TA} (I : InitS M C sp E Rs' s2 R s3) (ha : EvA M t σ Z H s Rs s1) (hk : EvA M tk σ Z H s1 Rk s2)
    (hg : ∀ Z H vs zs x, Rs.r Z H vs → Rk.r Z H zs → vs.length = n ∧ zs.length = k ∧ ∃ ws, gV (.ref x :: vs) zs = .ref x :: ws ∧ Rs'.r Z H ws) : Ev M (tMakeK C n k sp gV E t tk) σ Z H s R s3 :=
  fun Z1 H1 a b c d Q q => ha Z1 H1 a b c d _ fun vs Z2 H2 e m rs => hk Z2 H2 (a.trans e.z) (b.trans e.h) e.s m _ fun zs Z3 H3 e1 m1 rk => by
    have rs3 := Rs.st e1 rs
    obtain ⟨l1, l2, _⟩ := hg Z3 H3 vs zs 0 rs3 rk
    refine ⟨l1, l2, fun x dx hx hd ne => ?_⟩
    obtain ⟨_, _, ws, eg, rw'⟩ := hg Z3 H3 vs zs x rs3 rk
    rw [eg]
    have st := Step.dict (C := C) e1.s hx hd ne
    have nf : x ∉ M.fp := fun h => (M.al m1 x h).1 hx
    refine I Z3 _ ws x dx st.s (M.pure st m1) (Rs'.st st.pure rw') upd_same (same_none e1.s hx) nf _ fun Z4 H4 o e2 m2 ho rv => ⟨rfl, ?_⟩
    have hz3 : Z4 x = none := e2.n x (by rw [upd_same]; exact fun z => nomatch z) (same_none e1.s hx)
    have e3 : Step M.fp Z3 H3 (upd Z4 x o) H4 := ((st.pure (S := x :: M.fp)).trans e2).freeze hx ho hz3
    refine q _ _ _ ((e.trans e1).trans e3) (M.loc (same_upd hz3) (fun _ _ _ e => e) (fun a ha _ z => ?_) m2) rv
    rw [upd_ne (fun q => nf (by rw [← q]; exact ha))]
    exact z
/-! ### what is walked -/
/-- the things xs, of the kind τ, one after the other; what stands at F may change meanwhile -/
def WalkT {α : Type} (X : Hp → Hp → Prop) (J : It) (Z H : Hp) (τ : Ty α) (xs : List α) : Prop := xs.length ≤ sizeLine ∧ ∃ G Y, Walk J xs.length G Y ∧ (∀ Z' H', Same Z Z' → Same Z' H' → X H H' → G H') ∧
  ∀ i Z' H' v H'', i < xs.length → Same Z Z' → Same Z' H' → G H' → Y i H' v H'' → ∃ Z'' x, xs[i]? = some x ∧ Step [] Z' H' Z'' H'' ∧ τ.r Z'' v x
def EvI {α : Type} (M : Mu μ) (X : Hp → Hp → Prop) (wi : TI) (σ : L2.St) (Z H : Hp) (s : μ) (τ : Ty α) (xs : List α) (s' : μ) : Prop :=
  ∀ Z1 H1, Same Z Z1 → SameX M.fp H H1 → Same Z1 H1 → M.m s Z1 H1 → ∀ R : It → Hp → Prop, (∀ J Z2 H2, Step M.fp Z1 H1 Z2 H2 → M.m s' Z2 H2 → WalkT X J Z2 H2 τ xs → R J H2) → wi σ H1 R
section
variable {α β : Type} {τ : Ty α} {υ : Ty β} {xs : List α} {X : Hp → Hp → Prop}
theorem walk_at {J : It} {vs : List V} {G : Hp → Prop} (w : Walk J vs.length G (YAt vs)) {Z H : Hp} (hG : ∀ Z' H', Same Z Z' → Same Z' H' → X H H' → G H') (t : All (τ.r Z) vs xs) (l : xs.length ≤ sizeLine) : WalkT X J Z H τ xs := by
  refine ⟨l, G, YAt vs, by rw [← t.len]; exact w, hG, fun i Z' H' v H'' hi z sz _ y => ?_⟩
  obtain ⟨e, y⟩ := y
  subst e
  obtain ⟨x, ex, rx⟩ := t.get y
  exact ⟨Z', x, ex, Step.refl sz, τ.mono z rx⟩
theorem ei_list (ha : Ev M ta σ Z H s (ty (yList τ) xs) s1) : EvI M X (iList K ta) σ Z H s τ xs s1 :=
  fun Z1 H1 a b c d R q => ha Z1 H1 a b c d _ fun v Z2 H2 e m ⟨p, vs, ev, h, t, l⟩ => by
    subst ev
    exact ⟨p, rfl, ⟨vs, SqL.of (e.s _ _ h)⟩, q _ Z2 H2 e m (walk_at walk_list (fun Z' H' z sz _ => SqL.of (sz _ _ (z _ _ h))) t l)⟩
theorem ei_own (ha : Ev M ta σ Z H s (li τ xs) s1) : EvI M (SameX M.fp) (iList K ta) σ Z H s τ xs s1 :=
  fun Z1 H1 a b c d R q => ha Z1 H1 a b c d _ fun v Z2 H2 e m ⟨p, vs, ev, h, t, l⟩ => by
    subst ev
    refine ⟨p, rfl, ⟨vs, SqL.of (h.get e.s)⟩, q _ Z2 H2 e m (walk_at walk_list (fun Z' H' z sz x => ?_) t l)⟩
    rcases h with h | h
    · exact SqL.of (sz _ _ (z _ _ h))
    · exact SqL.of (x _ _ h.2 h.1)
theorem ei_tup (ha : Ev M ta σ Z H s (ty (yTup K τ) xs) s1) : EvI M X (iTup K ta) σ Z H s τ xs s1 :=
  fun Z1 H1 a b c d R q => ha Z1 H1 a b c d _ fun v Z2 H2 e m ⟨p, vs, ev, h, t, l⟩ => by
    subst ev
    exact ⟨p, rfl, ⟨vs, seqT_same e.s h⟩, q _ Z2 H2 e m (walk_at walk_tup (fun Z' H' z sz _ => seqT_same sz (seqT_same z h)) t l)⟩
def rangeZ (lo hi : Int) : List Int := (List.range (hi - lo).toNat).map fun (i : Nat) => lo + (i : Int)
def RangeOk (lo hi : Int) : Prop := (-(2 ^ 62) ≤ lo ∧ lo < 2 ^ 62) ∧ (-(2 ^ 62) ≤ hi ∧ hi < 2 ^ 62) ∧ hi - lo ≤ 16777216
instance {lo hi : Int} : Decidable (RangeOk lo hi) := inferInstanceAs (Decidable (_ ∧ _ ∧ _))
theorem rangeZ_len (lo hi : Int) : (rangeZ lo hi).length = (hi - lo).toNat := by unfold rangeZ; rw [List.length_map, List.length_range]
theorem walk_rng {lo hi : Int} {Z H : Hp} (l : hi - lo ≤ 16777216) : WalkT X (Itr lo (hi - lo).toNat) Z H yInt (rangeZ lo hi) := by
  refine ⟨by rw [rangeZ_len]; show (hi - lo).toNat ≤ 2 ^ 24; omega, fun _ => True, YFn fun i => .int (lo + i), by rw [rangeZ_len]; exact walk_range, fun _ _ _ _ _ => trivial, fun i Z' H' v H'' hi z sz _ y => ?_⟩
  obtain ⟨e, y⟩ := y
  subst e
  rw [rangeZ_len] at hi
  refine ⟨Z', lo + (i : Int), ?_, Step.refl sz, y⟩
  unfold rangeZ
  rw [List.getElem?_map, List.getElem?_range hi]
  rfl
theorem ei_rng1 {i : Int} (ha : Ev M ta σ Z H s (ty yInt i) s1) (h1 : RangeOk 0 i) : EvI M X (iRng1 (tCons ta tNil)) σ Z H s yInt (rangeZ 0 i) s1 :=
  fun Z1 H1 a b c d R q => eva_cons ha eva_nil Z1 H1 a b c d _ fun vs Z2 H2 e m ⟨v, r, e1, h, e2⟩ => by
    cases e2; cases h
    refine ⟨i, e1, h1.2.1.1, h1.2.1.2, q _ Z2 H2 e m ?_⟩
    have := walk_rng (X := X) (lo := 0) (hi := i) (Z := Z2) (H := H2) h1.2.2
    rw [Int.sub_zero] at this
    exact this
theorem ei_rng2 {i j : Int} (ha : Ev M ta σ Z H s (ty yInt i) s1) (hb : Ev M tb σ Z H s1 (ty yInt j) s2) (h1 : RangeOk i j) : EvI M X (iRng2 (tCons ta (tCons tb tNil))) σ Z H s yInt (rangeZ i j) s2 :=
  fun Z1 H1 a b c d R q => eva_cons ha (eva_cons hb eva_nil) Z1 H1 a b c d _ fun vs Z2 H2 e m ⟨v, r, e1, h, w, r2, e3, h3, e2⟩ => by
    cases e2; cases h; cases h3; cases e3
    exact ⟨i, j, e1, ⟨h1.1.1, h1.1.2, h1.2.1.1, h1.2.1.2⟩, q _ Z2 H2 e m (walk_rng h1.2.2)⟩
/-- pairs that are laid turn by turn -/
theorem walk_pairs {ys : List β} {vs ws : List V} {J : It} {G : Hp → Prop} (n : Nat) (hn : n = min vs.length ws.length) (w : Walk J n G (YPair (fun i => vs[i]?) (fun i => ws[i]?))) {Z H : Hp} (hG : ∀ Z' H', Same Z Z' → Same Z' H' → X H H' → G H') (t : All (τ.r Z) vs xs) (u : All (υ.r Z) ws ys) (l : vs.length ≤ sizeLine) : WalkT X J Z H (yP2 K τ υ) (xs.zip ys) := by
  have ln : (xs.zip ys).length = n := by rw [List.length_zip, ← t.len, ← u.len, hn]
  refine ⟨by rw [ln, hn]; omega, G, _, by rw [ln]; exact w, hG, fun i Z' H' v H'' hi z sz _ y => ?_⟩
  obtain ⟨T, v1, v2, rfl, nT, rfl, g1, g2⟩ := y
  obtain ⟨x1, ex1, rx1⟩ := t.get g1
  obtain ⟨x2, ex2, rx2⟩ := u.get g2
  have st := Step.new (o := .tup [v1, v2]) sz nT
  exact ⟨upd Z' T (.tup [v1, v2]), (x1, x2), by rw [List.getElem?_zip_eq_some]; exact ⟨ex1, ex2⟩, st, T, v1, v2, rfl, sqT_new, τ.mono (z.trans st.z) rx1, υ.mono (z.trans st.z) rx2⟩
def enumZ {α : Type} (xs : List α) : List (Int × α) := (rangeZ 0 (xs.length : Nat)).zip xs
theorem enum_rng (n : Nat) (i : Nat) (h : i < n) : ((rangeZ 0 (n : Nat)).map V.int)[i]? = some (.int (i : Nat)) := by
  unfold rangeZ
  rw [List.getElem?_map, List.getElem?_map, List.getElem?_range (by omega)]
  show some (V.int (0 + (i : Int))) = _
  rw [Int.zero_add]
theorem ei_enum (ha : Ev M ta σ Z H s (ty (yList τ) xs) s1) : EvI M X (iEnum K (tCons ta tNil)) σ Z H s (yP2 K yInt τ) (enumZ xs) s1 :=
  fun Z1 H1 a b c d R q => eva_cons ha eva_nil Z1 H1 a b c d _ fun us Z2 H2 e m ⟨v, r, e1, ⟨p, vs, ev, h, t, l⟩, e2⟩ => by
    cases e2; cases ev; cases e1
    refine ⟨p, vs, rfl, SqL.of (e.s _ _ h), q _ Z2 H2 e m ?_⟩
    have hl : ((rangeZ 0 (xs.length : Nat)).map V.int).length = vs.length := by
      rw [List.length_map, rangeZ_len, t.len]; omega
    refine walk_pairs (vs := (rangeZ 0 (xs.length : Nat)).map V.int) (ws := vs) vs.length (by rw [hl]; omega) (walk_enum.mono (fun _ g => g) fun i H v H' hi _ ⟨T, x, y, h1, h2, h3, h4, h5⟩ => ⟨T, x, y, h1, h2, h3, ?_, h5⟩) (fun Z' H' z sz _ => SqL.of (sz _ _ (z _ _ h))) (All.ofInts _) t (by rw [hl, t.len]; exact l)
    show ((rangeZ 0 (xs.length : Nat)).map V.int)[i]? = some x
    rw [enum_rng _ _ (by rw [← t.len]; exact hi)]
    exact h4
theorem ei_str {x : Str} (ha : Ev M ta σ Z H s (ty yStr x) s1) : EvI M X (iStr ta) σ Z H s yStr (x.cps.toList.map fun c => (⟨#[c]⟩ : Str)) s1 :=
  fun Z1 H1 a b c d R q => ha Z1 H1 a b c d _ fun v Z2 H2 e m rv => by
    refine ⟨x, rv.1, q _ Z2 H2 e m ?_⟩
    have ln : (x.cps.toList.map fun c => (⟨#[c]⟩ : Str)).length = x.cps.size := by rw [List.length_map, Array.length_toList]
    have lz : x.cps.size ≤ sizeLine := of_decide_eq_true (Bool.and_eq_true_iff.mp (show (PyData.strOk x && decide (x.length ≤ sizeLine)) = true from rv.2)).2
    refine ⟨by rw [ln]; exact lz, fun _ => True, _, by rw [ln]; exact walk_str, fun _ _ _ _ _ => trivial, fun i Z' H' v H'' hi z sz _ y => ?_⟩
    obtain ⟨e, c, hc, rfl⟩ := y
    subst e
    have hc' : x.cps.toList[i]? = some c := by rw [Array.getElem?_toList]; exact hc
    refine ⟨Z', ⟨#[c]⟩, by rw [List.getElem?_map, hc']; rfl, Step.refl sz, rfl, ?_⟩
    have ok := rv.2
    unfold okS PyData.strOk at ok ⊢
    rw [Bool.and_eq_true] at ok ⊢
    refine ⟨?_, decide_eq_true (by show (#[c] : Array Nat).size ≤ sizeLine; exact (by decide : 1 ≤ sizeLine))⟩
    have h2 := Array.all_eq_true_iff_forall_mem.mp ok.1 c (Array.mem_of_getElem? hc)
    simpa using h2
end
/-! ### list comprehensions -/
/-- the target stores the value: from the slots σ to σ2 -/
def Tgt (g : TG) (v : V) (σ σ2 : L2.St) (Z : Hp) : Prop := ∀ H, Same Z H → ∀ Q : L2.St → Hp → Prop, Q σ2 H → g v σ H Q
theorem tgt_name {i : Nat} {v : V} {σ : L2.St} {Z : Hp} : Tgt (gName i) v σ (σ.set i (some v)) Z := fun _ _ _ q => q
theorem tgt_p2 {α β : Type} {τ : Ty α} {υ : Ty β} {g1 g2 : TG} {v : V} {x : α × β} {Z : Hp} (h : (yP2 K τ υ).r Z v x) : ∃ v1 v2, τ.r Z v1 x.1 ∧ υ.r Z v2 x.2 ∧ ∀ {σ σ1 σ2 : L2.St}, Tgt g1 v1 σ σ1 Z → Tgt g2 v2 σ1 σ2 Z → Tgt (gTup K 2 (gCons g1 (gCons g2 gNil))) v σ σ2 Z := by
  obtain ⟨a, v1, v2, rfl, t, h1, h2⟩ := h
  exact ⟨v1, v2, h1, h2, fun {σ σ1 σ2} t1 t2 H sz Q q => ⟨a, _, rfl, seqT_same sz t, rfl, v1, _, rfl, t1 H sz _ ⟨v2, _, rfl, t2 H sz _ ⟨rfl, q⟩⟩⟩⟩
theorem tgt_p3 {α β γ : Type} {τ : Ty α} {υ : Ty β} {φ : Ty γ} {g1 g2 g3 : TG} {v : V} {x : α × β × γ} {Z : Hp} (h : (yP3 K τ υ φ).r Z v x) : ∃ v1 v2 v3, τ.r Z v1 x.1 ∧ υ.r Z v2 x.2.1 ∧ φ.r Z v3 x.2.2 ∧ ∀ {σ σ1 σ2 σ3 : L2.St}, Tgt g1 v1 σ σ1 Z → Tgt g2 v2 σ1 σ2 Z → Tgt g3 v3 σ2 σ3 Z → Tgt (gTup K 3 (gCons g1 (gCons g2 (gCons g3 gNil)))) v σ σ3 Z := by
  obtain ⟨a, v1, v2, v3, rfl, t, h1, h2, h3⟩ := h
  exact ⟨v1, v2, v3, h1, h2, h3, fun {σ σ1 σ2 σ3} t1 t2 t3 H sz Q q => ⟨a, _, rfl, seqT_same sz t, rfl, v1, _, rfl, t1 H sz _ ⟨v2, _, rfl, t2 H sz _ ⟨v3, _, rfl, t3 H sz _ ⟨rfl, q⟩⟩⟩⟩⟩
section
variable {α β : Type} {τ : Ty α} {υ : Ty β} {xs : List α} {ys : List β}
/-- the comprehension as a plain walk: none leaves an item out -/
def lcM (g : α → μ → Option (Option β × μ)) : List α → μ → Option (List β × μ)
  | [], s => some ([], s)
  | x :: xs, s => (g x s).bind fun p => (lcM g xs p.2).bind fun q => some (match p.1 with | none => q.1 | some y => y :: q.1, q.2)
theorem en_lc {wi : TI} {g : TG} {tt : TT} {vs : List Nat} (P : μ → Prop) (h : α → μ → Option (Option β × μ)) (hP : P s1) (hi : EvI M (SameX M.fp) wi σ Z H s τ xs s1)
    (hb : ∀ x v Z' H' si p, Same Z Z' → SameX M.fp H H' → τ.r Z' v x → P si → h x si = some p → P p.2 ∧ ∃ σ2, Tgt g v (wipe σ vs) σ2 Z' ∧ wipe σ2 vs = wipe σ vs ∧ ∃ b s', EvT M tt σ2 Z' H' si b s' ∧ (b = true → ∃ y, p.1 = some y ∧ Ev M te σ2 Z' H' s' (ty υ y) p.2) ∧ (b = false → p = (none, s')))
    (hF : lcM h xs s1 = some (ys, s2)) : EvN M (tLc wi g tt te vs) σ Z H s υ ys s2 := by
  intro Z1 H1 a b c d Q q
  refine hi Z1 H1 a b c d _ fun J Z2 H2 e m ⟨hx, G, Y, wk, hG, hY⟩ D hD => ?_
  have zD : Z2 D = none := same_none e.s hD
  have st0 := Step.own (o := .lst []) e.s hD
  refine lc_it wk (fun i H' => ∃ Z' si zs ws r, Step M.fp Z2 H2 Z' H' ∧ Z' D = none ∧ H' D = some (.lst ws) ∧ All (υ.r Z') ws zs ∧ ws.length ≤ i ∧ M.m si Z' H' ∧ P si ∧ lcM h (xs.drop i) si = some (r, s2) ∧ ys = zs ++ r)
    ⟨Z2, s1, [], [], ys, st0.pure, zD, upd_same, .nil, Nat.le_refl _, M.pure st0 m, hP, by rw [List.drop_zero]; exact hF, rfl⟩ ?_ ?_ ?_
  · rintro i H' _ ⟨Z', si, zs, ws, r, st, _⟩
    exact hG Z' H' st.z st.s st.h
  · rintro i v H3 H4 hin ⟨Z', si, zs, ws, r, st, zD', hD', al, lw, m', pi, hF', ey⟩ y
    obtain ⟨Z4, x, ex, st4, rx⟩ := hY i Z' H3 v H4 hin st.z st.s (hG Z' H3 st.z st.s st.h) y
    have hd : xs.drop i = x :: xs.drop (i + 1) := by
      rw [List.drop_eq_getElem_cons hin]
      rw [List.getElem?_eq_getElem hin] at ex
      rw [Option.some.inj ex]
    rw [hd] at hF'
    obtain ⟨p, hp, hF2⟩ := Option.bind_eq_some_iff.mp hF'
    obtain ⟨⟨r2, s2'⟩, hr, hF3⟩ := Option.bind_eq_some_iff.mp hF2
    have e4 := st.trans st4.pure
    have eZ : Same Z Z4 := (a.trans e.z).trans e4.z
    have eH : SameX M.fp H H4 := (b.trans e.h).trans e4.h
    obtain ⟨pp, σ2, tg, wp, bb, s', et, ht, hf⟩ := hb x v Z4 H4 si p eZ eH rx pi hp
    have es2 : s2' = s2 := by injection hF3 with q; exact congrArg Prod.snd q
    subst es2
    refine tg H4 e4.s _ ⟨wp, et Z4 H4 (Same.refl _) SameX.refl e4.s (M.pure st4 m') _ fun Z5 H5 e5 m5 => ?_⟩
    have nD : D ∉ M.fp := fun h => absurd hD (M.al m D h).1
    have hD4 : H4 D = some (.lst ws) := st4.h _ _ List.not_mem_nil hD'
    have hD5 : H5 D = some (.lst ws) := e5.h _ _ nD hD4
    have zD5 : Z5 D = none := e5.n D (some_ne hD4) (st4.n D (some_ne hD') zD')
    have e15 := e4.trans e5
    cases bb with
    | false =>
      rw [if_neg Bool.false_ne_true]
      have ep := hf rfl
      subst ep
      refine ⟨Z5, s', zs, ws, r2, e15, zD5, hD5, al.imp fun _ _ => υ.mono (st4.z.trans e5.z), by omega, m5, pp, hr, ?_⟩
      injection hF3 with q3
      have q4 : r2 = r := congrArg Prod.fst q3
      rw [ey, q4]
    | true =>
      rw [if_pos rfl]
      obtain ⟨y, ep, ev⟩ := ht rfl
      refine ev Z5 H5 e5.z e5.h e5.s m5 _ fun w Z6 H6 e6 m6 rw' => ?_
      have hD6 : H6 D = some (.lst ws) := e6.h _ _ nD hD5
      have zD6 : Z6 D = none := e6.n D (some_ne hD5) zD5
      have s7 := Step.set (o := .lst (ws ++ [w])) e6.s zD6
      refine ⟨ws, hD6, by omega, Z6, p.2, zs ++ [y], ws ++ [w], r2, (e15.trans e6).mine s7 (fun x hx => by rw [List.mem_singleton] at hx; subst hx; exact .inr hD), zD6, upd_same, (al.imp fun _ _ => υ.mono ((st4.z.trans e5.z).trans e6.z)).snoc rw', by rw [List.length_append]; show ws.length + 1 ≤ _; omega, ?_, pp, hr, ?_⟩
      · refine M.loc (Same.refl _) (fun a' ha' o ho => ?_) (fun _ _ _ z => z) m6
        rw [upd_ne (fun q' => nD (by rw [← q']; exact ha'))]
        exact ho
      · injection hF3 with q3
        rw [ep] at q3
        have q4 : y :: r2 = r := congrArg Prod.fst q3
        rw [ey, ← q4, List.append_assoc]
        rfl
  · rintro H' ⟨Z', si, zs, ws, r, st, zD', hD', al, lw, m', _, hF', ey⟩
    rw [List.drop_length] at hF'
    injection hF' with q'
    have e1 : r = [] := (congrArg Prod.fst q').symm
    have e2 : si = s2 := congrArg Prod.snd q'
    subst e1 e2
    rw [List.append_nil] at ey
    subst ey
    exact q D ws Z' H' (e.trans st) m' (same_x e hD) zD' hD' al (by rw [← al.len]; omega)
def mapO (f : α → Option β) : List α → Option (List β)
  | [] => some []
  | x :: r => (f x).bind fun y => (mapO f r).bind fun ys => some (y :: ys)
def fmO (f : α → Option (Option β)) : List α → Option (List β)
  | [] => some []
  | x :: r => (f x).bind fun y => (fmO f r).bind fun ys => some (match y with | none => ys | some z => z :: ys)
def mapS (f : α → μ → Option (β × μ)) : List α → μ → Option (List β × μ)
  | [], s => some ([], s)
  | x :: r, s => (f x s).bind fun p => (mapS f r p.2).bind fun q => some (p.1 :: q.1, q.2)
theorem lcM_fmO (f : α → Option (Option β)) (s : μ) : ∀ xs : List α, lcM (fun x s => (f x).map fun y => (y, s)) xs s = (fmO f xs).map fun ys => (ys, s)
  | [] => rfl
  | x :: r => by
    have ih := lcM_fmO f s r
    unfold lcM fmO
    cases f x with
    | none => rfl
    | some y =>
      simp only [Option.map_some, Option.bind_some, ih]
      cases fmO f r with
      | none => rfl
      | some ys => cases y <;> rfl
theorem lcM_mapS (f : α → μ → Option (β × μ)) : ∀ (xs : List α) (s : μ), lcM (fun x s => (f x s).map fun p => (some p.1, p.2)) xs s = mapS f xs s
  | [], _ => rfl
  | x :: r, s => by
    unfold lcM mapS
    cases f x s with
    | none => rfl
    | some p =>
      simp only [Option.map_some, Option.bind_some, lcM_mapS f r p.2]
theorem fmO_mapO (f : α → Option β) : ∀ xs : List α, fmO (fun x => (f x).map some) xs = mapO f xs
  | [] => rfl
  | x :: r => by
    unfold fmO mapO
    rw [fmO_mapO f r]
    cases f x <;> rfl
theorem fmO_fil (p : α → Bool) (f : α → β) : ∀ xs : List α, fmO (fun x => some (if p x = true then some (f x) else none)) xs = some ((xs.filter p).map f)
  | [] => rfl
  | x :: r => by
    unfold fmO
    rw [fmO_fil p f r]
    cases e : p x with
    | true => rw [List.filter_cons_of_pos e]; rfl
    | false => rw [List.filter_cons_of_neg (by rw [e]; exact Bool.false_ne_true)]; rfl
section
variable {wi : TI} {g : TG} {tt : TT} {vs : List Nat}
/-- stateless, with a test -/
theorem en_fmO (f : α → Option (Option β)) (hi : EvI M (SameX M.fp) wi σ Z H s τ xs s1)
    (hb : ∀ x v Z' H' p, Same Z Z' → SameX M.fp H H' → τ.r Z' v x → f x = some p → ∃ σ2, Tgt g v (wipe σ vs) σ2 Z' ∧ wipe σ2 vs = wipe σ vs ∧ ∃ b, EvT M tt σ2 Z' H' s1 b s1 ∧ (b = true → ∃ y, p = some y ∧ Ev M te σ2 Z' H' s1 (ty υ y) s1) ∧ (b = false → p = none))
    (hF : fmO f xs = some ys) : EvN M (tLc wi g tt te vs) σ Z H s υ ys s1 := by
  refine en_lc (· = s1) (fun x s => (f x).map fun y => (y, s)) rfl hi (fun x v Z' H' si p z h rv e hp => ?_) (by rw [lcM_fmO, hF]; rfl)
  subst e
  obtain ⟨q, hq, rfl⟩ := Option.map_eq_some_iff.mp hp
  obtain ⟨σ2, tg, wp, b, et, h1, h2⟩ := hb x v Z' H' q z h rv hq
  exact ⟨rfl, σ2, tg, wp, b, _, et, h1, fun e => by rw [h2 e]⟩
/-- stateless, partial -/
theorem en_mapO (f : α → Option β) (hi : EvI M (SameX M.fp) wi σ Z H s τ xs s1)
    (hb : ∀ x v Z' H' y, Same Z Z' → SameX M.fp H H' → τ.r Z' v x → f x = some y → ∃ σ2, Tgt g v (wipe σ vs) σ2 Z' ∧ wipe σ2 vs = wipe σ vs ∧ Ev M te σ2 Z' H' s1 (ty υ y) s1)
    (hF : mapO f xs = some ys) : EvN M (tLc wi g tYes te vs) σ Z H s υ ys s1 :=
  en_fmO (fun x => (f x).map some) hi (fun x v Z' H' p z h rv hp => by
    obtain ⟨y, hy, rfl⟩ := Option.map_eq_some_iff.mp hp
    obtain ⟨σ2, tg, wp, ev⟩ := hb x v Z' H' y z h rv hy
    exact ⟨σ2, tg, wp, true, fun Z1 H1 _ _ c d _ k => k Z1 H1 (Step.refl c) d, fun _ => ⟨y, rfl, ev⟩, fun e => nomatch e⟩) (by rw [fmO_mapO, hF])
/-- stateless, total -/
theorem en_map (f : α → β) (hi : EvI M (SameX M.fp) wi σ Z H s τ xs s1)
    (hb : ∀ x v Z' H', Same Z Z' → SameX M.fp H H' → τ.r Z' v x → ∃ σ2, Tgt g v (wipe σ vs) σ2 Z' ∧ wipe σ2 vs = wipe σ vs ∧ Ev M te σ2 Z' H' s1 (ty υ (f x)) s1) : EvN M (tLc wi g tYes te vs) σ Z H s υ (xs.map f) s1 :=
  en_mapO (fun x => some (f x)) hi (fun x v Z' H' y z h rv hy => by cases hy; exact hb x v Z' H' z h rv) (by
    clear hb hi
    induction xs with
    | nil => rfl
    | cons x r ih => unfold mapO; rw [ih]; rfl)
theorem en_fil (p : α → Bool) (f : α → β) (hi : EvI M (SameX M.fp) wi σ Z H s τ xs s1)
    (hb : ∀ x v Z' H', Same Z Z' → SameX M.fp H H' → τ.r Z' v x → ∃ σ2, Tgt g v (wipe σ vs) σ2 Z' ∧ wipe σ2 vs = wipe σ vs ∧ EvT M tt σ2 Z' H' s1 (p x) s1 ∧ Ev M te σ2 Z' H' s1 (ty υ (f x)) s1) : EvN M (tLc wi g tt te vs) σ Z H s υ ((xs.filter p).map f) s1 :=
  en_fmO (fun x => some (if p x = true then some (f x) else none)) hi (fun x v Z' H' q z h rv hq => by
    obtain ⟨σ2, tg, wp, et, ev⟩ := hb x v Z' H' z h rv
    cases hq
    exact ⟨σ2, tg, wp, p x, et, fun e => ⟨f x, if_pos e, ev⟩, fun e => if_neg (by rw [e]; exact Bool.false_ne_true)⟩) (fmO_fil p f xs)
theorem en_mapS (f : α → μ → Option (β × μ)) (hi : EvI M (SameX M.fp) wi σ Z H s τ xs s1)
    (hb : ∀ x v Z' H' si p, Same Z Z' → SameX M.fp H H' → τ.r Z' v x → f x si = some p → ∃ σ2, Tgt g v (wipe σ vs) σ2 Z' ∧ wipe σ2 vs = wipe σ vs ∧ Ev M te σ2 Z' H' si (ty υ p.1) p.2)
    (hF : mapS f xs s1 = some (ys, s2)) : EvN M (tLc wi g tYes te vs) σ Z H s υ ys s2 :=
  en_lc (fun _ => True) (fun x s => (f x s).map fun p => (some p.1, p.2)) trivial hi (fun x v Z' H' si p z h rv _ hp => by
    obtain ⟨q, hq, rfl⟩ := Option.map_eq_some_iff.mp hp
    obtain ⟨σ2, tg, wp, ev⟩ := hb x v Z' H' si q z h rv hq
    exact ⟨trivial, σ2, tg, wp, true, si, fun Z1 H1 _ _ c d _ k => k Z1 H1 (Step.refl c) d, fun _ => ⟨q.1, rfl, ev⟩, fun e => nomatch e⟩) (by rw [lcM_mapS, hF])
end
end
end
end TP

namespace TP
open PySem PySem.Spec PyProof.Rows L2
section
variable {μ : Type} {S : List Addr} {Z0 H0 : Hp} {M : Mu μ} {σ : L2.St} {Z H : Hp} {s s' s1 s2 s3 : μ} {ta tb tc te : TE} {t : TA} {K : PySem.W.Frag} {D : Ends} {u w : TS}
/-! ### a place in a def's body -/
structure Pt (S : List Addr) (Z0 H0 : Hp) (M : Mu μ) (Z H : Hp) (s : μ) : Prop where
  st : Step S Z0 H0 Z H
  m : M.m s Z H
  mine : ∀ a ∈ M.fp, a ∈ S ∨ H0 a = none
theorem Pt.next {Z1 H1 : Hp} (P : Pt S Z0 H0 M Z H s) (e : Step M.fp Z H Z1 H1) (m : M.m s1 Z1 H1) : Pt S Z0 H0 M Z1 H1 s1 := ⟨P.st.mine e P.mine, m, P.mine⟩
theorem Pt.start (M : Mu μ) (sz : Same Z H) (m : M.m s Z H) : Pt M.fp Z H M Z H s := ⟨Step.refl sz, m, fun _ h => .inl h⟩
theorem Pt.start0 (sz : Same Z H) : Pt [] Z H muN Z H () := ⟨Step.refl sz, trivial, fun _ h => (nomatch h)⟩
theorem Pt.sub (P : Pt S Z0 H0 M Z H s) : Same Z H := P.st.s
/-- a list of one's own: it may change -/
structure Own {α : Type} (S : List Addr) (H0 : Hp) (fp : List Addr) (Z H : Hp) (τ : Ty α) (p : Addr) (xs : List α) : Prop where
  ex : ∃ vs, H p = some (.lst vs) ∧ All (τ.r Z) vs xs
  z : Z p = none
  n : p ∉ fp
  mine : H0 p = none
  l : xs.length ≤ sizeLine
section
variable {α : Type} {τ : Ty α} {xs : List α} {p : Addr} {fp : List Addr}
theorem Own.step {F : List Addr} {Z1 H1 : Hp} (o : Own S H0 fp Z H τ p xs) (e : Step F Z H Z1 H1) (n : p ∉ F) : Own S H0 fp Z1 H1 τ p xs := by
  obtain ⟨vs, h, t⟩ := o.ex
  exact ⟨⟨vs, e.h _ _ n h, t.imp fun _ _ => τ.mono e.z⟩, e.n _ (some_ne h) o.z, o.n, o.mine, o.l⟩
theorem Own.next {Z1 H1 : Hp} (o : Own S H0 fp Z H τ p xs) (e : Step fp Z H Z1 H1) : Own S H0 fp Z1 H1 τ p xs := o.step e o.n
theorem Own.ne (o : Own S H0 fp Z H τ p xs) {q : Addr} (h : H q = none) : p ≠ q := by
  obtain ⟨vs, hp, _⟩ := o.ex
  exact ne_of_some (some_ne hp) h
theorem ev_o {i : Nat} (o : Own S H0 M.fp Z H τ p xs) (e : σ[i]? = some (some (.ref p))) : Ev M (tVar i) σ Z H s (li τ xs) s := by
  obtain ⟨vs, h, t⟩ := o.ex
  exact ev_own e h o.n t o.l
/-- it never changes from now on -/
theorem Own.fz (o : Own S H0 M.fp Z H τ p xs) (P : Pt S Z0 H0 M Z H s) : ∃ Z', Pt S Z0 H0 M Z' H s ∧ Same Z Z' ∧ (yList τ).r Z' (.ref p) xs ∧ ∀ q, q ≠ p → Z q = none → Z' q = none := by
  obtain ⟨vs, h, t⟩ := o.ex
  refine ⟨upd Z p (.lst vs), ⟨?_, Mu.fz P.m o.z o.n, P.mine⟩, same_upd o.z, ⟨p, vs, rfl, upd_same, t.imp fun _ _ => τ.mono (same_upd o.z), o.l⟩, fun q n e => by rw [upd_ne n]; exact e⟩
  exact P.st.fz o.mine h o.z
theorem Own.keep {Z1 : Hp} (o : Own S H0 fp Z H τ p xs) (e : Same Z Z1) (n : Z1 p = none) : Own S H0 fp Z1 H τ p xs := by
  obtain ⟨vs, h, t⟩ := o.ex
  exact ⟨⟨vs, h, t.imp fun _ _ => τ.mono e⟩, n, o.n, o.mine, o.l⟩
end
/-- a list of one's own is lent: for a while it does not change -/
theorem Own.bor {α : Type} {τ : Ty α} {xs : List α} {p : Addr} (o : Own S H0 M.fp Z H τ p xs) (sz : Same Z H) (m : M.m s Z H) : ∃ Zb, Same Z Zb ∧ Same Zb H ∧ M.m s Zb H ∧ (yList τ).r Zb (.ref p) xs ∧ ∀ q, q ≠ p → Z q = none → Zb q = none := by
  obtain ⟨vs, h, t⟩ := o.ex
  refine ⟨upd Z p (.lst vs), same_upd o.z, fun a u e => ?_, Mu.fz m o.z o.n, ⟨p, vs, rfl, upd_same, t.imp fun _ _ => τ.mono (same_upd o.z), o.l⟩, fun q n e => by rw [upd_ne n]; exact e⟩
  by_cases q : a = p
  · subst q; rw [upd_same] at e; rw [← Option.some.inj e]; exact h
  · rw [upd_ne q] at e; exact sz a u e
theorem Step.lent {S : List Addr} {Z Zb H Z1 H1 : Hp} (zf : Same Z Zb) (e : Step S Zb H Z1 H1) : Step S Z H Z H1 := ⟨Same.refl _, zf.trans (e.z.trans e.s), e.h, fun _ _ z => z, e.al⟩
/-! ### statements -/
theorem st_nx {nx bk ct : L2.St → Hp → Prop} {rt : VK} (h : nx σ H) : Ends.nx ⟨nx, rt, bk, ct⟩ σ H := h
theorem st_next0 {nx bk ct : L2.St → Hp → Prop} {rt : VK} (h : nx σ H) : tNext ⟨nx, rt, bk, ct⟩ σ H := h
theorem st_next (h : D.nx σ H) : tNext D σ H := h
theorem st_seq (h : u { D with nx := w D } σ H) : tSeq u w D σ H := h
theorem st_set {R : Rr M.fp} {i : Nat} (P : Pt S Z0 H0 M Z H s) (e : Ev M te σ Z H s R s1) (k : ∀ v Z1 H1, Step M.fp Z H Z1 H1 → Pt S Z0 H0 M Z1 H1 s1 → R.r Z1 H1 v → D.nx (σ.set i (some v)) H1) : tAsg te (gName i) D σ H :=
  e Z H (Same.refl _) SameX.refl P.sub P.m _ fun v Z1 H1 e m r => k v Z1 H1 e (P.next e m) r
theorem st_asg {R : Rr M.fp} {g : TG} (P : Pt S Z0 H0 M Z H s) (e : Ev M te σ Z H s R s1) (k : ∀ v Z1 H1, Step M.fp Z H Z1 H1 → Pt S Z0 H0 M Z1 H1 s1 → R.r Z1 H1 v → ∃ σ2, Tgt g v σ σ2 Z1 ∧ D.nx σ2 H1) : tAsg te g D σ H :=
  e Z H (Same.refl _) SameX.refl P.sub P.m _ fun v Z1 H1 e m r => by
    obtain ⟨σ2, tg, q⟩ := k v Z1 H1 e (P.next e m) r
    exact tg H1 e.s _ q
theorem st_ret {R : Rr M.fp} (P : Pt S Z0 H0 M Z H s) (e : Ev M te σ Z H s R s1) (k : ∀ v Z1 H1, Pt S Z0 H0 M Z1 H1 s1 → R.r Z1 H1 v → D.rt v H1) : tRet te D σ H :=
  e Z H (Same.refl _) SameX.refl P.sub P.m _ fun v Z1 H1 e m r => k v Z1 H1 (P.next e m) r
theorem st_expr {R : Rr M.fp} (P : Pt S Z0 H0 M Z H s) (e : Ev M te σ Z H s R s1) (k : ∀ Z1 H1, Step M.fp Z H Z1 H1 → Pt S Z0 H0 M Z1 H1 s1 → D.nx σ H1) : tDrop te D σ H :=
  e Z H (Same.refl _) SameX.refl P.sub P.m _ fun v Z1 H1 e m r => k Z1 H1 e (P.next e m)
theorem st_if {b : Bool} {tt : TT} (P : Pt S Z0 H0 M Z H s) (e : EvT M tt σ Z H s b s1) (ht : b = true → ∀ Z1 H1, Step M.fp Z H Z1 H1 → Pt S Z0 H0 M Z1 H1 s1 → u D σ H1) (hf : b = false → ∀ Z1 H1, Step M.fp Z H Z1 H1 → Pt S Z0 H0 M Z1 H1 s1 → w D σ H1) : tIfS tt u w D σ H :=
  e Z H (Same.refl _) SameX.refl P.sub P.m _ fun Z1 H1 e' m => by
    cases b with
    | true => rw [if_pos rfl]; exact ht rfl Z1 H1 e' (P.next e' m)
    | false => rw [if_neg Bool.false_ne_true]; exact hf rfl Z1 H1 e' (P.next e' m)
theorem st_ifB {b : Bool} {tt : TT} {Zb : Hp} (bk : M.Back) (P : Pt S Z0 H0 M Z H s) (zf : Same Z Zb) (sb : Same Zb H) (mb : M.m s Zb H) (e : EvT M tt σ Zb H s b s1) (ht : b = true → ∀ Z1 H1, Step M.fp Z H Z1 H1 → Pt S Z0 H0 M Z1 H1 s1 → u D σ H1) (hf : b = false → ∀ Z1 H1, Step M.fp Z H Z1 H1 → Pt S Z0 H0 M Z1 H1 s1 → w D σ H1) : tIfS tt u w D σ H :=
  e Zb H (Same.refl _) SameX.refl sb mb _ fun Z1 H1 e' m => by
    have e2 := Step.lent zf e'
    have m2 := bk (zf.trans e'.z) P.m m
    cases b with
    | true => rw [if_pos rfl]; exact ht rfl Z H1 e2 (P.next e2 m2)
    | false => rw [if_neg Bool.false_ne_true]; exact hf rfl Z H1 e2 (P.next e2 m2)
theorem st_aug {i : Nat} {a b : Int} {v : V} {f : Int → Int → Int} (P : Pt S Z0 H0 M Z H s) (hσ : σ[i]? = some (some v)) (hv : v = .int a) (e : Ev M te σ Z H s (ty yInt b) s1) (k : ∀ v Z1 H1, Step M.fp Z H Z1 H1 → Pt S Z0 H0 M Z1 H1 s1 → yInt.r Z1 v (f a b) → D.nx (σ.set i (some v)) H1) : tAug i te (ipI f) D σ H :=
  ⟨v, hσ, e Z H (Same.refl _) SameX.refl P.sub P.m _ fun v' Z1 H1 e m r => ⟨a, b, hv, r, k _ Z1 H1 e (P.next e m) rfl⟩⟩
section
variable {α β : Type} {τ : Ty α} {υ : Ty β} {xs ys : List α} {p : Addr} {x : α}
/-- a new list of one's own -/
theorem st_setN {i : Nat} (P : Pt S Z0 H0 M Z H s) (e : EvN M te σ Z H s τ xs s1) (k : ∀ p Z1 H1, Step M.fp Z H Z1 H1 → Pt S Z0 H0 M Z1 H1 s1 → H p = none → Own S H0 M.fp Z1 H1 τ p xs → D.nx (σ.set i (some (.ref p))) H1) : tAsg te (gName i) D σ H :=
  e Z H (Same.refl _) SameX.refl P.sub P.m _ fun p vs Z1 H1 e m hp zp h1 t l => k p Z1 H1 e (P.next e m) hp ⟨⟨vs, h1, t⟩, zp, fun hf => (M.al P.m p hf).1 hp, same_x P.st hp, l⟩
theorem Pt.set {o : HO} (P : Pt S Z0 H0 M Z H s) (hz : Z p = none) (n : p ∉ M.fp) (mine : p ∈ S ∨ H0 p = none) : Pt S Z0 H0 M Z (upd H p o) s := by
  refine ⟨P.st.mine (Step.set P.sub hz) fun a h => by rw [List.mem_singleton] at h; rw [h]; exact mine, M.loc (Same.refl _) (fun a ha u e => ?_) (fun _ _ _ z => z) P.m, P.mine⟩
  rw [upd_ne (fun q => n (by rw [← q]; exact ha))]
  exact e
theorem step2 {F : List Addr} {Z1 H1 : Hp} {o : HO} (e : Step F Z H Z1 H1) (hz : Z1 p = none) : Step (p :: F) Z H Z1 (upd H1 p o) :=
  (e.weak fun _ h => .inl (List.mem_cons_of_mem _ h)).mine (Step.set e.s hz) fun a h => by rw [List.mem_singleton] at h; rw [h]; exact .inl List.mem_cons_self
/-- xs.append(x) -/
theorem st_append {i : Nat} (P : Pt S Z0 H0 M Z H s) (o : Own S H0 M.fp Z H τ p xs) (hσ : σ[i]? = some (some (.ref p))) (e : Ev M te σ Z H s (ty τ x) s1) (l : xs.length < sizeLine)
    (k : ∀ Z1 H1, Step (p :: M.fp) Z H Z1 H1 → Pt S Z0 H0 M Z1 H1 s1 → Own S H0 M.fp Z1 H1 τ p (xs ++ [x]) → D.nx σ H1) : tDrop (tBM K "list" rAppend (tVar i) (tCons te tNil)) D σ H := by
  obtain ⟨vs, h, t⟩ := o.ex
  refine ⟨.ref p, hσ, .inl ⟨rfl, _, .inl (.inl h)⟩, e Z H (Same.refl _) SameX.refl P.sub P.m _ fun v Z1 H1 e m r => ?_⟩
  have o1 := o.next e
  have P1 := P.next e m
  refine ⟨p, vs, v, rfl, rfl, e.h _ _ o.n h, by rw [t.len]; exact l, ?_⟩
  exact k _ _ (step2 e o1.z) (P1.set o1.z o.n (.inr o.mine)) ⟨⟨_, upd_same, (t.imp fun _ _ => τ.mono e.z).snoc r⟩, o1.z, o.n, o.mine, by rw [List.length_append]; show xs.length + 1 ≤ _; omega⟩
/-- xs.extend(ys) -/
theorem st_extend {i : Nat} (P : Pt S Z0 H0 M Z H s) (o : Own S H0 M.fp Z H τ p xs) (hσ : σ[i]? = some (some (.ref p))) (e : Ev M te σ Z H s (ty (yList τ) ys) s1) (l : xs.length + ys.length ≤ sizeLine)
    (k : ∀ Z1 H1, Step (p :: M.fp) Z H Z1 H1 → Pt S Z0 H0 M Z1 H1 s1 → Own S H0 M.fp Z1 H1 τ p (xs ++ ys) → D.nx σ H1) : tDrop (tBM K "list" rExtend (tVar i) (tCons te tNil)) D σ H := by
  obtain ⟨vs, h, t⟩ := o.ex
  refine ⟨.ref p, hσ, .inl ⟨rfl, _, .inl (.inl h)⟩, e Z H (Same.refl _) SameX.refl P.sub P.m _ fun v Z1 H1 e m ⟨q, ws, ev, hq, t2, _⟩ => ?_⟩
  subst ev
  have o1 := o.next e
  have P1 := P.next e m
  refine ⟨p, q, vs, ws, rfl, rfl, e.h _ _ o.n h, e.s _ _ hq, by rw [t.len, t2.len]; exact l, ?_⟩
  exact k _ _ (step2 e o1.z) (P1.set o1.z o.n (.inr o.mine)) ⟨⟨_, upd_same, (t.imp fun _ _ => τ.mono e.z).app t2⟩, o1.z, o.n, o.mine, by rw [List.length_append]; exact l⟩
/-- xs[i] = x -/
theorem st_setitem {i : Nat} {j : Int} {n : Nat} {tj : TE} (P : Pt S Z0 H0 M Z H s) (o : Own S H0 M.fp Z H τ p xs) (hσ : σ[i]? = some (some (.ref p))) (e : Ev M te σ Z H s (ty τ x) s1) (ej : ∀ Z1 H1, Step M.fp Z H Z1 H1 → Ev M tj σ Z1 H1 s1 (ty yInt j) s2) (hj : ixN xs.length j = some n)
    (k : ∀ Z1 H1, Step (p :: M.fp) Z H Z1 H1 → Pt S Z0 H0 M Z1 H1 s2 → Own S H0 M.fp Z1 H1 τ p (xs.set n x) → D.nx σ H1) : tAsg te (gSub (tVar i) tj rSetL) D σ H := by
  obtain ⟨vs, h, t⟩ := o.ex
  refine e Z H (Same.refl _) SameX.refl P.sub P.m _ fun v Z1 H1 e m r => ⟨.ref p, hσ, ej Z1 H1 e Z1 H1 (Same.refl _) SameX.refl e.s m _ fun v2 Z2 H2 e2 m2 r2 => ?_⟩
  have o1 := (o.next e).next e2
  have P1 := (P.next e m).next e2 m2
  refine ⟨p, vs, j, n, rfl, r2, e2.h _ _ o.n (e.h _ _ o.n h), by rw [t.len]; exact hj, ?_⟩
  exact k _ _ (step2 (e.trans e2) o1.z) (P1.set o1.z o.n (.inr o.mine)) ⟨⟨_, upd_same, (t.imp fun _ _ => τ.mono (e.trans e2).z).set (τ.mono e2.z r) n⟩, o1.z, o.n, o.mine, by rw [List.length_set]; exact o.l⟩
end
/-! ### loops -/
inductive Flow (ρ β : Type)
  | go (b : β) | brk (b : β) | ret (r : ρ)
def forF {α β : Type} (f : α → β → Option β) : List α → β → Option β
  | [], b => some b
  | x :: r, b => (f x b).bind fun b' => forF f r b'
def Flow.nxt {ρ β : Type} (k : β → Option (Flow ρ β)) : Flow ρ β → Option (Flow ρ β)
  | .go b => k b
  | .brk b => some (.go b)
  | .ret y => some (.ret y)
def Flow.thn {ρ β γ : Type} (k : β → Option γ) (g : ρ → Option γ) : Flow ρ β → Option γ
  | .go b => k b
  | .brk b => k b
  | .ret y => g y
def forS {ρ α β : Type} (f : α → β → Option (Flow ρ β)) : List α → β → Option (Flow ρ β)
  | [], b => some (.go b)
  | x :: r, b => (f x b).bind (Flow.nxt (forS f r))
def whileS {ρ β : Type} (f : β → Option (Flow ρ β)) : Nat → β → Option (Flow ρ β)
  | 0, _ => none
  | n + 1, b => (f b).bind (Flow.nxt (whileS f n))
section
variable {ρ α β γ : Type} {k : β → Option (Flow ρ β)} {f : α → β → Option (Flow ρ β)} {f' : α → β → Option β} {x : α} {r : List α} {b : β} {y : ρ} {q : Flow ρ β}
theorem nxt_go (h : Flow.nxt k (.go b) = some q) : k b = some q := h
theorem nxt_brk (h : Flow.nxt k (.brk b) = some q) : q = .go b := (Option.some.inj h).symm
theorem nxt_ret (h : Flow.nxt k (.ret y) = some q) : q = .ret y := (Option.some.inj h).symm
theorem go_inv {k : β → Option γ} {g : ρ → Option γ} {z : γ} (h : Flow.thn k g (.go b) = some z) : k b = some z := h
theorem ret_inv {k : β → Option γ} {g : ρ → Option γ} {z : γ} (h : Flow.thn k g (.ret y) = some z) : g y = some z := h
theorem forS_cons (h : forS f (x :: r) b = some q) : (f x b).bind (Flow.nxt (forS f r)) = some q := h
theorem forS_nil (h : forS f [] b = some q) : q = .go b := (Option.some.inj h).symm
theorem forF_cons {c : β} (h : forF f' (x :: r) b = some c) : (f' x b).bind (fun b' => forF f' r b') = some c := h
theorem forF_nil {c : β} (h : forF f' [] b = some c) : c = b := (Option.some.inj h).symm
end
section
variable {α β : Type} {τ : Ty α} {xs : List α}
/-- what a turn is to reach -/
def LoopW (I : List α → L2.St → Hp → Hp → Prop) (Z1 : Hp) (r : List α) : L2.St → Hp → Prop := fun σ H => ∃ Z, Same Z1 Z ∧ Same Z H ∧ I r σ Z H
/-- I: what is true ahead of the turns for the rest of the items -/
theorem st_for {wi : TI} {g : TG} (I : List α → L2.St → Hp → Hp → Prop) (P : Pt S Z0 H0 M Z H s) (hi : EvI M (fun _ _ => True) wi σ Z H s τ xs s1)
    (h0 : ∀ Z1 H1, Step M.fp Z H Z1 H1 → Pt S Z0 H0 M Z1 H1 s1 → I xs σ Z1 H1)
    (hs : ∀ Z1 H1, Step M.fp Z H Z1 H1 → ∀ x r σ' v Z' H' Z2 H2, Same Z1 Z' → I (x :: r) σ' Z' H' → Step [] Z' H' Z2 H2 → τ.r Z2 v x →
      g v σ' H2 fun σ2 H3 => u { D with nx := LoopW I Z1 r, ct := LoopW I Z1 r, bk := D.nx } σ2 H3)
    (hd : ∀ σ' Z' H', Same Z Z' → Same Z' H' → I [] σ' Z' H' → D.nx σ' H') : tFor wi g u D σ H := by
  refine hi Z H (Same.refl _) SameX.refl P.sub P.m _ fun J Z1 H1 e m ⟨_, G, Y, wk, hG, hY⟩ => ?_
  refine for_it wk (fun i => LoopW I Z1 (xs.drop i)) ⟨Z1, Same.refl _, e.s, by rw [List.drop_zero]; exact h0 Z1 H1 e (P.next e m)⟩ ?_ ?_ ?_
  · rintro i σ' H' _ ⟨Z', sa, sb, _⟩
    exact hG Z' H' sa sb trivial
  · rintro i v σ' H3 H4 hin ⟨Z', sa, sb, hI⟩ y
    obtain ⟨Z4, x, ex, st4, rx⟩ := hY i Z' H3 v H4 hin sa sb (hG Z' H3 sa sb trivial) y
    have hd : xs.drop i = x :: xs.drop (i + 1) := by
      rw [List.drop_eq_getElem_cons hin]
      rw [List.getElem?_eq_getElem hin] at ex
      rw [Option.some.inj ex]
    rw [hd] at hI
    exact hs Z1 H1 e x _ σ' v Z' H3 Z4 H4 sa hI st4 rx
  · rintro σ' H' ⟨Z', sa, sb, hI⟩
    rw [List.drop_length] at hI
    exact hd σ' Z' H' (e.z.trans sa) sb hI
end
theorem bind_inv {α β : Type} {o : Option α} {f : α → Option β} {y : β} (h : o.bind f = some y) : ∃ x, o = some x ∧ f x = some y := Option.bind_eq_some_iff.mp h
theorem guard_inv {c : Prop} [Decidable c] {β : Type} {o : Option β} {y : β} (h : (if c then o else none) = some y) : c ∧ o = some y := by
  by_cases hc : c
  · rw [if_pos hc] at h; exact ⟨hc, h⟩
  · rw [if_neg hc] at h; cases h
theorem ifT {β : Type} {b : Bool} {o p y : β} (hb : b = true) (h : (if b = true then o else p) = y) : o = y := by rw [if_pos hb] at h; exact h
theorem ifF {β : Type} {b : Bool} {o p y : β} (hb : b = false) (h : (if b = true then o else p) = y) : p = y := by rw [if_neg (by rw [hb]; exact Bool.false_ne_true)] at h; exact h
theorem Pt.item {Z1 H1 : Hp} (P : Pt S Z0 H0 M Z H s) (e : Step [] Z H Z1 H1) : Pt S Z0 H0 M Z1 H1 s := P.next e.pure (M.pure e P.m)
theorem Mu.away {x : Addr} {Z1 H1 : Hp} (e : Step [x] Z H Z1 H1) (nx : x ∉ M.fp) (m : M.m s Z H) : M.m s Z1 H1 :=
  M.loc e.z (fun a ha o ho => e.h a o (fun q => nx (by rw [List.mem_singleton] at q; rw [← q]; exact ha)) ho) (fun a _ h z => e.n a h z) m
/-- self.f = e, self new -/
theorem st_fld {α : Type} {τ : Ty α} {x : α} {i : Nat} {p C dx : Addr} {fs : List (Str × V)} {f : Str} {tv : TE} (P : Pt S Z0 H0 M Z H s) (hp : H p = some (.ins C dx fs)) (zp : Z p = none) (np : p ∉ M.fp) (mp : p ∈ S ∨ H0 p = none) (hσ : σ[i]? = some (some (.ref p)))
    (e : Ev M tv σ Z H s (ty τ x) s1) (c : Cls K C) (n : NoAttr K C f) (l : fs.length < 1000) (k : ∀ v Z1 H1, Step (p :: M.fp) Z H Z1 H1 → Pt S Z0 H0 M Z1 H1 s1 → τ.r Z1 v x → H1 p = some (.ins C dx (putF f v fs)) → Z1 p = none → D.nx σ H1) : sFld K (tVar i) tv f D σ H :=
  e Z H (Same.refl _) SameX.refl P.sub P.m _ fun v Z1 H1 e m r => by
    have h1 : H1 p = some (.ins C dx fs) := e.h _ _ np hp
    have z1 : Z1 p = none := e.n p (some_ne hp) zp
    exact ⟨.ref p, hσ, p, C, dx, fs, rfl, h1, c, n, l, k v Z1 _ (step2 e z1) ((P.next e m).set z1 np mp) r upd_same z1⟩
/-- a list of one's own in the block of a comprehension -/
theorem ev_oX {α : Type} {τ : Ty α} {xs : List α} {p : Addr} {i : Nat} {Z1 H1 : Hp} (o : Own S H0 M.fp Z H τ p xs) (zz : Same Z Z1) (hh : SameX M.fp H H1) (e : σ[i]? = some (some (.ref p))) : Ev M (tVar i) σ Z1 H1 s (li τ xs) s := by
  obtain ⟨vs, h, t⟩ := o.ex
  exact ev_own e (hh _ _ o.n h) o.n (t.imp fun _ _ => τ.mono zz) o.l
end
/-! ### the draws -/
structure DS where
  ns : List Int
  k : Nat
  x : Nat
def rowZ (ns : List Int) (k : Nat) : Int :=
  let c0 := ns.getD k 0
  let c := if c0 < 0 then -2 * c0 - 1 else c0
  if c < 10 ^ 9 then
    let a := (c * 48271 + k * 69621 + 11) % 2147483647
    let b := (a * 16807 + c * 7 + k + 5) % 2147483629
    let d := (b * 39373 + a * b + 3) % 2147483587
    a + b * 2147483647 + d * 2147483647 ^ 2
  else c
def DS.cur (s : DS) (m : Int) : Nat := if (s.x : Int) < m then (rowZ s.ns s.k).toNat else s.x
def nxV (s : DS) (m : Int) : Int := (s.cur m : Int) % m
def nxS (s : DS) (m : Int) : DS := ⟨s.ns, if (s.x : Int) < m then s.k + 1 else s.k, ((s.cur m : Int) / m).toNat⟩
theorem nx_ge (s : DS) {m : Int} (h : 0 < m) : 0 ≤ nxV s m := Int.emod_nonneg _ (by omega)
theorem nx_lt (s : DS) {m : Int} (h : 0 < m) : nxV s m < m := Int.emod_lt_of_pos _ h
def NxOk (m : Int) : Prop := 0 < m ∧ m.natAbs < 2 ^ 200
instance {m : Int} : Decidable (NxOk m) := inferInstanceAs (Decidable (_ ∧ _))
def muD (st sc : Addr) : Mu DS where
  fp := [st]
  m := fun s Z H => H st = some (.lst [.ref sc, .int (s.k : Nat), .int (s.x : Nat)]) ∧ Z sc = some (.lst (s.ns.map V.int)) ∧ Z st = none
  al := fun ⟨h, _, z⟩ a ha => by rw [List.mem_singleton] at ha; subst ha; exact ⟨some_ne h, z⟩
  loc := fun sz hk hn ⟨h, hs, z⟩ => ⟨hk _ List.mem_cons_self _ h, sz _ _ hs, hn _ List.mem_cons_self (some_ne h) z⟩
theorem muD_back {st sc : Addr} : (muD st sc).Back := fun sz ⟨_, hs, z⟩ ⟨h', hs', _⟩ => ⟨h', by rw [hs, ← hs', sz _ _ hs], z⟩
section
variable {K : PySem.W.Frag} {σ : L2.St} {H : Hp} {D : Ends}
theorem st_draws {r : List V → Hp → VK → Prop} {a : Addr} {ns : List Int} {i j : Nat} (hA : SqL K H a (ns.map V.int)) (hlen : ns.length ≤ 63) (k : ∀ st sc Z0 Z1 H1, Pt [] Z0 H (muD st sc) Z1 H1 ⟨ns, 0, 0⟩ → D.nx (σ.set i (some (.ref st))) H1)
    (hr : ∀ xs H Q, (∃ p ys, xs = [.ref p] ∧ (SqL K H p ys ∨ SqT K H p ys) ∧ ∀ l, H l = none → Q (.ref l) (upd H l (.lst ys))) → r xs H Q := by exact fun _ _ _ h => h) (hσ : σ[j]? = some (some (.ref a)) := by rfl) :
    tAsg (tLst (tCons (tCB r (tCons (tVar j) tNil)) (tCons (tC (.int 0)) (tCons (tC (.int 0)) tNil)))) (gName i) D σ H := by
  refine ⟨.ref a, hσ, hr _ _ _ ⟨a, _, rfl, .inl hA, fun sc hsc => ?_⟩⟩
  refine ⟨by show 3 ≤ sizeLine; decide, fun st hst => ?_⟩
  have s0 : Same (fun _ => none : Hp) H := fun _ _ h => by cases h
  have e1 := Step.new (o := .lst (ns.map V.int)) s0 hsc
  have e2 := Step.own (o := .lst [.ref sc, .int 0, .int 0]) e1.s hst
  exact k st sc (fun _ => none) _ _ ⟨e1.trans e2, ⟨upd_same, upd_same, by rw [upd_ne (fun q => by rw [q, upd_same] at hst; cases hst)]⟩, fun x hx => by rw [show x = st from List.mem_singleton.mp hx]; exact .inr (same_x e1 hst)⟩
end
end TP
namespace TP
open PySem PySem.Spec PyProof.Rows L2
section
variable {μ : Type} {S : List Addr} {Z0 H0 : Hp} {M : Mu μ} {σ : L2.St} {Z H : Hp} {s s' s1 s2 s3 : μ} {ta tb tc te : TE} {t : TA} {K : PySem.W.Frag} {D : Ends} {u w : TS}
theorem whileS_cons {ρ β : Type} {f : β → Option (Flow ρ β)} {n : Nat} {b : β} {q : Flow ρ β} (h : whileS f n b = some q) : ∃ k, n = k + 1 ∧ (f b).bind (Flow.nxt (whileS f k)) = some q := by
  cases n with
  | zero => cases h
  | succ k => exact ⟨k, rfl, h⟩
def WhW (I : Nat → L2.St → Hp → Hp → Prop) (k : Nat) : L2.St → Hp → Prop := fun σ H => ∃ Z, I k σ Z H
theorem st_while {c : TT} {tb : TS} (I : Nat → L2.St → Hp → Hp → Prop) (n : Nat) (P : Pt S Z0 H0 M Z H s) (h0 : I n σ Z H)
    (hs : ∀ n σ' Z' H', I n σ' Z' H' → ∃ k s s1 b, n = k + 1 ∧ Pt S Z0 H0 M Z' H' s ∧ EvT M c σ' Z' H' s b s1 ∧ (b = true → ∀ Z1 H1, Step M.fp Z' H' Z1 H1 → Pt S Z0 H0 M Z1 H1 s1 → tb { D with nx := WhW I k, ct := WhW I k, bk := D.nx } σ' H1) ∧
      (b = false → ∀ Z1 H1, Step M.fp Z' H' Z1 H1 → Pt S Z0 H0 M Z1 H1 s1 → D.nx σ' H1)) : tWhile c tb D σ H := by
  refine ⟨fun m σ H => ∃ Z, I m σ Z H, ⟨n, Z, h0⟩, ?_⟩
  rintro m σ' H' ⟨Z', hI⟩
  obtain ⟨k, s, s1, b, rfl, P, et, ht, hf⟩ := hs m σ' Z' H' hI
  refine et Z' H' (Same.refl _) SameX.refl P.sub P.m _ fun Z1 H1 e m => ?_
  cases b with
  | true =>
    rw [if_pos rfl]
    exact ⟨WhW I k, fun σ3 H3 h3 => ⟨k, Nat.lt_succ_self _, h3⟩, ht rfl Z1 H1 e (P.next e m)⟩
  | false =>
    rw [if_neg Bool.false_ne_true]
    exact hf rfl Z1 H1 e (P.next e m)
end
end TP

namespace TP
open PySem PySem.Spec PyProof.Rows L2
section
variable {μ : Type} {S : List Addr} {Z0 H0 : Hp} {M : Mu μ} {σ : L2.St} {Z H : Hp} {s s' s1 s2 s3 : μ} {ta tb tc te : TE} {t : TA} {K : PySem.W.Frag} {D : Ends} {u w : TS}
/-! ### isinstance -/
theorem ev_isi {r : List V → Hp → VK → Prop} {R : Rr M.fp} {c : V} {v t : Value} {b : Bool} (hr : ∀ xs H Q, rIsi K xs H Q → r xs H Q) (ha : Ev M ta σ Z H s R s1) (tx : ∀ Z H v, Same Z H → R.r Z H v → TyX K H v t) (hc : ClsV c v) (hk : PySem.W.kitOne K t v = some b) :
    Ev M (tCB r (tCons ta (tCons (tC c) tNil))) σ Z H s (ty yBool b) s1 :=
  ev_cb (Rs := rac R (rac ⟨fun _ _ v => v = c, fun _ h => h⟩ ra0)) (eva_cons ha (eva_cons (ev_of fun _ _ _ _ _ _ q => q _ rfl) eva_nil)) fun _ _ _ sz ⟨x, r1, e1, h1, y, r2, e2, h2, e3⟩ _ q => by
    cases e3; cases e2; cases e1
    have h2' : y = c := h2
    subst h2'
    exact hr _ _ _ ⟨x, y, t, v, b, rfl, hc, tx _ _ _ sz h1, hk, q _ _ _ (Step.refl sz) rfl⟩
section
variable {fp : List Addr} {α β γ δ : Type} {τ : Ty α} {υ : Ty β} {φ : Ty γ} {ψ : Ty δ}
theorem tx_int {x : Int} : ∀ Z H v, Same Z H → (ty (fp := fp) yInt x).r Z H v → TyX K H v (.type "int") := fun _ _ _ _ h => by cases h; exact .base (.int _)
theorem tx_bool {x : Bool} : ∀ Z H v, Same Z H → (ty (fp := fp) yBool x).r Z H v → TyX K H v (.type "bool") := fun _ _ _ _ h => by cases h; exact .base (.bl _)
theorem tx_str {x : Str} : ∀ Z H v, Same Z H → (ty (fp := fp) yStr x).r Z H v → TyX K H v (.type "str") := fun _ _ _ _ h => by rw [h.1]; exact .base (.str _)
theorem tx_li {x : List α} : ∀ Z H v, Same Z H → (li (fp := fp) τ x).r Z H v → TyX K H v (.type "list") := fun _ _ _ sz h => by
  obtain ⟨p, vs, rfl, g, _, _⟩ := rdl sz h
  exact .base (.lst g)
theorem tx_sqT {H : Hp} {a : Addr} {vs : List V} (h : SqT K H a vs) : TyX K H (.ref a) (.type "tuple") := by
  rcases h with (h | ⟨o, h⟩) | ⟨o, its, n, h, hc, _⟩
  · exact .base (.tup h)
  · exact .fTuple h
  · exact .kTuple h hc
theorem tx_tup {x : List α} : ∀ Z H v, Same Z H → (ty (fp := fp) (yTup K τ) x).r Z H v → TyX K H v (.type "tuple") := fun _ _ _ sz ⟨a, vs, e, h, _⟩ => by subst e; exact tx_sqT (seqT_same sz h)
theorem tx_p2 {x : α × β} : ∀ Z H v, Same Z H → (ty (fp := fp) (yP2 K τ υ) x).r Z H v → TyX K H v (.type "tuple") := fun _ _ _ sz ⟨a, _, _, e, h, _⟩ => by subst e; exact tx_sqT (seqT_same sz h)
theorem tx_p3 {x : α × β × γ} : ∀ Z H v, Same Z H → (ty (fp := fp) (yP3 K τ υ φ) x).r Z H v → TyX K H v (.type "tuple") := fun _ _ _ sz ⟨a, _, _, _, e, h, _⟩ => by subst e; exact tx_sqT (seqT_same sz h)
end
end
end TP

namespace TP
open PySem PySem.Spec PyProof.Rows L2
/-! on, where what is bound is known: proofs that are no rfl, so that the kernel evaluates nothing -/
theorem bsome {α β : Type} {x : α} {f : α → Option β} : (some x).bind f = f x := by rw [Option.bind_some]
theorem bnone {α β : Type} {f : α → Option β} : (none : Option α).bind f = none := of_eq_true (eq_self _)
theorem thn_go {ρ β γ : Type} {b : β} {k : β → Option γ} {g : ρ → Option γ} : Flow.thn k g (.go b) = k b := by simp only [Flow.thn]
theorem thn_brk {ρ β γ : Type} {b : β} {k : β → Option γ} {g : ρ → Option γ} : Flow.thn k g (.brk b) = k b := by simp only [Flow.thn]
theorem thn_ret {ρ β γ : Type} {y : ρ} {k : β → Option γ} {g : ρ → Option γ} : Flow.thn k g (.ret y) = g y := by simp only [Flow.thn]
theorem forF_foldl {α β : Type} {f : α → β → Option β} {g : β → α → β} (h : ∀ x b, f x b = some (g b x)) : ∀ (xs : List α) (b : β), forF f xs b = some (xs.foldl g b)
  | [], _ => rfl
  | x :: r, b => by
    show (f x b).bind _ = _
    rw [h x b]
    exact forF_foldl h r _
theorem forF_inv {α β : Type} {f : α → β → Option β} {I : Nat → β → Prop} {m : Nat} (h : ∀ n x b, n < m → I n b → ∃ b', f x b = some b' ∧ I (n + 1) b') : ∀ (xs : List α) (n : Nat) (b : β), n + xs.length ≤ m → I n b → ∃ b', forF f xs b = some b' ∧ I (n + xs.length) b'
  | [], _, b, _, i => ⟨b, rfl, i⟩
  | x :: r, n, b, l, i => by
    rw [List.length_cons] at l
    obtain ⟨b1, e, i1⟩ := h n x b (by omega) i
    obtain ⟨b2, e2, i2⟩ := forF_inv h r (n + 1) b1 (by omega) i1
    refine ⟨b2, ?_, by rw [List.length_cons, show n + (r.length + 1) = n + 1 + r.length by omega]; exact i2⟩
    show (f x b).bind _ = _
    rw [e]
    exact e2
theorem forS_inv {ρ α β : Type} {f : α → β → Option (Flow ρ β)} {I : Nat → β → Prop} {m : Nat} (h : ∀ n x b, n < m → I n b → ∃ b', f x b = some (.go b') ∧ I (n + 1) b') : ∀ (xs : List α) (n : Nat) (b : β), n + xs.length ≤ m → I n b → ∃ b', forS f xs b = some (.go b') ∧ I (n + xs.length) b'
  | [], _, b, _, i => ⟨b, rfl, i⟩
  | x :: r, n, b, l, i => by
    rw [List.length_cons] at l
    obtain ⟨b1, e, i1⟩ := h n x b (by omega) i
    obtain ⟨b2, e2, i2⟩ := forS_inv h r (n + 1) b1 (by omega) i1
    refine ⟨b2, ?_, by rw [List.length_cons, show n + (r.length + 1) = n + 1 + r.length by omega]; exact i2⟩
    show (f x b).bind _ = _
    rw [e]
    exact e2
theorem mapS_all {α β μ : Type} {f : α → μ → Option (β × μ)} {R : β → Prop} (h : ∀ x s, ∃ y s', f x s = some (y, s') ∧ R y) : ∀ (xs : List α) (s : μ), ∃ ys s', mapS f xs s = some (ys, s') ∧ ys.length = xs.length ∧ ∀ y ∈ ys, R y
  | [], s => ⟨[], s, rfl, rfl, fun _ h => nomatch h⟩
  | x :: r, s => by
    obtain ⟨y, s1, e, hy⟩ := h x s
    obtain ⟨ys, s2, e2, l, hs⟩ := mapS_all h r s1
    refine ⟨y :: ys, s2, ?_, congrArg Nat.succ l, fun z hz => ?_⟩
    · show (f x s).bind _ = _
      rw [e]
      show (mapS f r s1).bind _ = _
      rw [e2]
      rfl
    · rcases List.mem_cons.mp hz with rfl | hz
      · exact hy
      · exact hs z hz
theorem cutA_none {α : Type} (xs : List α) {c : Int} (h : 0 ≤ c) : cutA xs none (some c) = xs.take c.toNat := by
  obtain ⟨k, rfl⟩ := Int.eq_ofNat_of_zero_le h
  unfold cutA
  rw [HT.sIx_none, HT.sIx_nat, List.drop_zero, Nat.sub_zero, Int.toNat_natCast]
  by_cases q : k ≤ xs.length
  · rw [Nat.min_eq_left q]
  · rw [Nat.min_eq_right (by omega), List.take_length, List.take_of_length_le (by omega)]
theorem cutA_to {α : Type} (xs : List α) {a c : Int} (h : 0 ≤ a) (h2 : a ≤ c) (h3 : c ≤ xs.length) : cutA xs (some a) (some c) = (xs.drop a.toNat).take (c - a).toNat := by
  obtain ⟨k, rfl⟩ := Int.eq_ofNat_of_zero_le h
  obtain ⟨m, rfl⟩ := Int.eq_ofNat_of_zero_le (show 0 ≤ c by omega)
  unfold cutA
  rw [HT.sIx_nat, HT.sIx_nat, Nat.min_eq_left (by omega), Nat.min_eq_left (by omega), Int.toNat_natCast, show ((m : Int) - (k : Int)).toNat = m - k by omega]
theorem cutA_from {α : Type} (xs : List α) {a : Int} (h : 0 ≤ a) : cutA xs (some a) none = xs.drop a.toNat := by
  obtain ⟨k, rfl⟩ := Int.eq_ofNat_of_zero_le h
  unfold cutA
  rw [HT.sIx_nat, HT.sIx_none, Int.toNat_natCast]
  by_cases q : k ≤ xs.length
  · rw [Nat.min_eq_left q, List.take_of_length_le (by rw [List.length_drop]; omega)]
  · rw [Nat.min_eq_right (by omega), List.drop_length, List.drop_of_length_le (by omega)]
    simp
theorem ixN_of {n : Nat} {i : Int} (h : 0 ≤ i) (l : i < n) : ixN n i = some i.toNat := by
  obtain ⟨k, rfl⟩ := Int.eq_ofNat_of_zero_le h
  rw [Int.toNat_natCast]
  unfold ixN
  split <;> first | rfl | omega | (split <;> first | rfl | omega) | skip
theorem atI_of {α : Type} {xs : List α} {i : Int} (h : 0 ≤ i) : L2.atI xs i = xs[i.toNat]? := by
  by_cases l : i < xs.length
  · unfold L2.atI
    rw [ixN_of h l]
    rfl
  · rw [List.getElem?_eq_none (by omega)]
    obtain ⟨k, rfl⟩ := Int.eq_ofNat_of_zero_le h
    unfold L2.atI ixN
    split <;> first | rfl | (split <;> first | rfl | omega) | skip
theorem nxOk_of {m : Int} (h : 0 < m) (l : m < 2 ^ 199) : NxOk m := ⟨h, by
  have : m.natAbs < 2 ^ 199 := by
    have e : (2 : Int) ^ 199 = ((2 ^ 199 : Nat) : Int) := by decide
    rw [e] at l
    omega
  exact Nat.lt_trans this (by decide)⟩
theorem rangeOk_of {a b : Int} (h : 0 ≤ a) (h1 : a ≤ 16777216) (l : b ≤ 16777216) (l2 : -16777216 ≤ b) : RangeOk a b := ⟨⟨by omega, by omega⟩, ⟨by omega, by omega⟩, by omega⟩
end TP
namespace TP
open PySem PySem.Spec PyProof.Rows L2
theorem forF_idx {α β : Type} {f : α → β → Option β} {I : Nat → β → Prop} : ∀ (xs : List α) (k : Nat) (b : β), (∀ n x b, xs[n]? = some x → I (k + n) b → ∃ b', f x b = some b' ∧ I (k + n + 1) b') → I k b → ∃ b', forF f xs b = some b' ∧ I (k + xs.length) b'
  | [], k, b, _, i => ⟨b, rfl, i⟩
  | x :: r, k, b, h, i => by
    obtain ⟨b1, e1, i1⟩ := h 0 x b rfl i
    obtain ⟨b2, e2, i2⟩ := forF_idx (I := I) r (k + 1) b1 (fun n y b' hy ib => by
      have := h (n + 1) y b' (by simpa using hy) (by rw [show k + (n + 1) = k + 1 + n by omega]; exact ib)
      rw [show k + 1 + n + 1 = k + (n + 1) + 1 by omega]
      exact this) i1
    refine ⟨b2, ?_, by rw [List.length_cons, show k + (r.length + 1) = k + 1 + r.length by omega]; exact i2⟩
    show (f x b).bind _ = _
    rw [e1]
    exact e2
theorem forS_idx {ρ α β : Type} {f : α → β → Option (Flow ρ β)} {I : Nat → β → Prop} : ∀ (xs : List α) (k : Nat) (b : β), (∀ n x b, xs[n]? = some x → I (k + n) b → ∃ b', f x b = some (.go b') ∧ I (k + n + 1) b') → I k b → ∃ b', forS f xs b = some (.go b') ∧ I (k + xs.length) b'
  | [], k, b, _, i => ⟨b, rfl, i⟩
  | x :: r, k, b, h, i => by
    obtain ⟨b1, e1, i1⟩ := h 0 x b rfl i
    obtain ⟨b2, e2, i2⟩ := forS_idx (I := I) r (k + 1) b1 (fun n y b' hy ib => by
      have := h (n + 1) y b' (by simpa using hy) (by rw [show k + (n + 1) = k + 1 + n by omega]; exact ib)
      rw [show k + 1 + n + 1 = k + (n + 1) + 1 by omega]
      exact this) i1
    refine ⟨b2, ?_, by rw [List.length_cons, show k + (r.length + 1) = k + 1 + r.length by omega]; exact i2⟩
    show (f x b).bind _ = _
    rw [e1]
    exact e2
theorem rangeZ_get {lo hi : Int} {n : Nat} {x : Int} (h : (rangeZ lo hi)[n]? = some x) : x = lo + (n : Int) ∧ (n : Int) < hi - lo := by
  have l := (List.getElem?_eq_some_iff.mp h).1
  rw [rangeZ_len] at l
  unfold rangeZ at h
  rw [List.getElem?_map, List.getElem?_range l] at h
  exact ⟨(Option.some.inj h).symm, by omega⟩
/-- a loop over range(m) that always goes on -/
theorem forF_rng {β : Type} {f : Int → β → Option β} (I : Nat → β → Prop) {m : Int} {b : β} (h0 : I 0 b) (h : ∀ (n : Nat) b, (n : Int) < m → I n b → ∃ b', f (n : Int) b = some b' ∧ I (n + 1) b') : ∃ b', forF f (rangeZ 0 m) b = some b' ∧ I m.toNat b' := by
  obtain ⟨b', e, i⟩ := forF_idx (f := f) (I := I) (rangeZ 0 m) 0 b (fun n x b hx ib => by
    obtain ⟨rfl, hm⟩ := rangeZ_get hx
    rw [Nat.zero_add] at ib ⊢
    obtain ⟨b', e, i⟩ := h n b (by omega) ib
    exact ⟨b', by rw [show (0 : Int) + (n : Int) = n by omega]; exact e, i⟩) h0
  refine ⟨b', e, ?_⟩
  rw [Nat.zero_add, rangeZ_len, Int.sub_zero] at i
  exact i
theorem forS_rng {ρ β : Type} {f : Int → β → Option (Flow ρ β)} (I : Nat → β → Prop) {m : Int} {b : β} (h0 : I 0 b) (h : ∀ (n : Nat) b, (n : Int) < m → I n b → ∃ b', f (n : Int) b = some (.go b') ∧ I (n + 1) b') : ∃ b', forS f (rangeZ 0 m) b = some (.go b') ∧ I m.toNat b' := by
  obtain ⟨b', e, i⟩ := forS_idx (f := f) (I := I) (rangeZ 0 m) 0 b (fun n x b hx ib => by
    obtain ⟨rfl, hm⟩ := rangeZ_get hx
    rw [Nat.zero_add] at ib ⊢
    obtain ⟨b', e, i⟩ := h n b (by omega) ib
    exact ⟨b', by rw [show (0 : Int) + (n : Int) = n by omega]; exact e, i⟩) h0
  refine ⟨b', e, ?_⟩
  rw [Nat.zero_add, rangeZ_len, Int.sub_zero] at i
  exact i
/-- enumerate, from k on -/
def enumF {α : Type} : Int → List α → List (Int × α)
  | _, [] => []
  | k, x :: r => (k, x) :: enumF (k + 1) r
theorem enumZ_eq {α : Type} (xs : List α) : enumZ xs = enumF 0 xs := by
  have key : ∀ (xs : List α) (k : Nat), ((List.range xs.length).map fun (i : Nat) => ((k + i : Nat) : Int)).zip xs = enumF (k : Int) xs := fun xs => by
    induction xs with
    | nil => intro k; rfl
    | cons x r ih =>
      intro k
      rw [List.length_cons, List.range_succ_eq_map, List.map_cons, List.map_map, List.zip_cons_cons]
      show (((k + 0 : Nat) : Int), x) :: _ = ((k : Int), x) :: enumF ((k : Int) + 1) r
      have := ih (k + 1)
      rw [Nat.add_zero]
      congr 1
      have e : ((k + 1 : Nat) : Int) = (k : Int) + 1 := by omega
      rw [← e, ← this]
      congr 2
      funext i
      show ((k + (i + 1) : Nat) : Int) = ((k + 1 + i : Nat) : Int)
      omega
  have := key xs 0
  unfold enumZ rangeZ
  rw [Int.sub_zero, Int.toNat_natCast]
  refine Eq.trans ?_ this
  congr 2
end TP

namespace TP
open PySem PySem.Spec PyProof.Rows L2
section
variable {α β γ μ : Type}
theorem mapO_eq {f : α → Option β} {g : α → β} : ∀ {xs : List α}, (∀ x ∈ xs, f x = some (g x)) → mapO f xs = some (xs.map g)
  | [], _ => rfl
  | x :: r, h => by
    show (f x).bind _ = _
    rw [h x List.mem_cons_self, Option.bind_some, mapO_eq fun y hy => h y (List.mem_cons_of_mem _ hy)]
    rfl
theorem mapO_ex {f : α → Option β} {R : β → Prop} : ∀ {xs : List α}, (∀ x ∈ xs, ∃ y, f x = some y ∧ R y) → ∃ ys, mapO f xs = some ys ∧ ys.length = xs.length ∧ ∀ y ∈ ys, R y
  | [], _ => ⟨[], rfl, rfl, fun _ h => nomatch h⟩
  | x :: r, h => by
    obtain ⟨y, e, hy⟩ := h x List.mem_cons_self
    obtain ⟨ys, e2, l, hs⟩ := mapO_ex fun y hy => h y (List.mem_cons_of_mem _ hy)
    refine ⟨y :: ys, ?_, congrArg Nat.succ l, fun z hz => ?_⟩
    · show (f x).bind _ = _
      rw [e, Option.bind_some, e2]
      rfl
    · rcases List.mem_cons.mp hz with rfl | hz
      · exact hy
      · exact hs z hz
/-- a comprehension that draws, with a fact of the items -/
theorem mapS_mem {f : α → μ → Option (β × μ)} {R : β → Prop} : ∀ {xs : List α} (s : μ), (∀ x ∈ xs, ∀ s, ∃ y s', f x s = some (y, s') ∧ R y) → ∃ ys s', mapS f xs s = some (ys, s') ∧ ys.length = xs.length ∧ ∀ y ∈ ys, R y
  | [], s, _ => ⟨[], s, rfl, rfl, fun _ h => nomatch h⟩
  | x :: r, s, h => by
    obtain ⟨y, s1, e, hy⟩ := h x List.mem_cons_self s
    obtain ⟨ys, s2, e2, l, hs⟩ := mapS_mem s1 fun y hy => h y (List.mem_cons_of_mem _ hy)
    refine ⟨y :: ys, s2, ?_, congrArg Nat.succ l, fun z hz => ?_⟩
    · show (f x s).bind _ = _
      rw [e]
      show (mapS f r s1).bind _ = _
      rw [e2]
      rfl
    · rcases List.mem_cons.mp hz with rfl | hz
      · exact hy
      · exact hs z hz
theorem forF_mem {f : α → β → Option β} {I : β → Prop} : ∀ {xs : List α} {b : β}, I b → (∀ x ∈ xs, ∀ b, I b → ∃ b', f x b = some b' ∧ I b') → ∃ b', forF f xs b = some b' ∧ I b'
  | [], b, i, _ => ⟨b, rfl, i⟩
  | x :: r, b, i, h => by
    obtain ⟨b1, e, i1⟩ := h x List.mem_cons_self b i
    obtain ⟨b2, e2, i2⟩ := forF_mem i1 fun y hy => h y (List.mem_cons_of_mem _ hy)
    refine ⟨b2, ?_, i2⟩
    show (f x b).bind _ = _
    rw [e]
    exact e2
theorem forS_mem {ρ : Type} {f : α → β → Option (Flow ρ β)} {I : β → Prop} : ∀ {xs : List α} {b : β}, I b → (∀ x ∈ xs, ∀ b, I b → ∃ b', f x b = some (.go b') ∧ I b') → ∃ b', forS f xs b = some (.go b') ∧ I b'
  | [], b, i, _ => ⟨b, rfl, i⟩
  | x :: r, b, i, h => by
    obtain ⟨b1, e, i1⟩ := h x List.mem_cons_self b i
    obtain ⟨b2, e2, i2⟩ := forS_mem i1 fun y hy => h y (List.mem_cons_of_mem _ hy)
    refine ⟨b2, ?_, i2⟩
    show (f x b).bind _ = _
    rw [e]
    exact e2
/-- the loop by places: what is true behind n items -/
theorem forF_take {f : α → β → Option β} {I : List α → β → Prop} {xs : List α} {b : β} (h0 : I [] b) (h : ∀ p x r b, xs = p ++ x :: r → I p b → ∃ b', f x b = some b' ∧ I (p ++ [x]) b') : ∃ b', forF f xs b = some b' ∧ I xs b' := by
  have key : ∀ (r p : List α) (b : β), xs = p ++ r → I p b → ∃ b', forF f r b = some b' ∧ I xs b' := fun r => by
    induction r with
    | nil => intro p b e i; rw [List.append_nil] at e; exact ⟨b, rfl, e ▸ i⟩
    | cons x r ih =>
      intro p b e i
      obtain ⟨b1, e1, i1⟩ := h p x r b e i
      obtain ⟨b2, e2, i2⟩ := ih (p ++ [x]) b1 (by rw [e]; simp) i1
      refine ⟨b2, ?_, i2⟩
      show (f x b).bind _ = _
      rw [e1]
      exact e2
  exact key xs [] b rfl h0
theorem forS_take {ρ : Type} {f : α → β → Option (Flow ρ β)} {I : List α → β → Prop} {xs : List α} {b : β} (h0 : I [] b) (h : ∀ p x r b, xs = p ++ x :: r → I p b → ∃ b', f x b = some (.go b') ∧ I (p ++ [x]) b') : ∃ b', forS f xs b = some (.go b') ∧ I xs b' := by
  have key : ∀ (r p : List α) (b : β), xs = p ++ r → I p b → ∃ b', forS f r b = some (.go b') ∧ I xs b' := fun r => by
    induction r with
    | nil => intro p b e i; rw [List.append_nil] at e; exact ⟨b, rfl, e ▸ i⟩
    | cons x r ih =>
      intro p b e i
      obtain ⟨b1, e1, i1⟩ := h p x r b e i
      obtain ⟨b2, e2, i2⟩ := ih (p ++ [x]) b1 (by rw [e]; simp) i1
      refine ⟨b2, ?_, i2⟩
      show (f x b).bind _ = _
      rw [e1]
      exact e2
  exact key xs [] b rfl h0
theorem str_len1 {c : Nat} : (⟨#[c]⟩ : Str).length = 1 := rfl
theorem str_app_len (x y : Str) : (x ++ y).length = x.length + y.length := by
  show (x.cps ++ y.cps).size = _
  rw [Array.size_append]; rfl
/-- == of data that are compared by their terms -/
theorem EqD.eqvB {K : PySem.W.Frag} {τ : Ty α} {d : α → PyData} {n : Nat} (E : EqD K τ d n) [DecidableEq α] (x y : α) : PyData.eqv (d x) (d y) = decide (x = y) := Bool.eq_iff_iff.mpr ((E.eqv x y).trans decide_eq_true_iff.symm)
theorem atI_lit {xs : List α} {i : Int} (h : 0 ≤ i) (l : i < xs.length) : ∃ x, L2.atI xs i = some x ∧ x ∈ xs := by
  rw [atI_of h]
  obtain ⟨k, rfl⟩ := Int.eq_ofNat_of_zero_le h
  rw [Int.toNat_natCast]
  have hk : k < xs.length := by omega
  exact ⟨xs[k], List.getElem?_eq_getElem hk, List.getElem_mem hk⟩
/-- a loop that looks at each item and may say no -/
theorem forS_all {ρ : Type} {f : α → Unit → Option (Flow ρ Unit)} {p : α → Bool} {r : ρ} : ∀ {xs : List α}, (∀ x ∈ xs, f x () = some (if p x = true then .go () else .ret r)) → forS f xs () = some (if xs.all p = true then .go () else .ret r)
  | [], _ => rfl
  | x :: t, h => by
    show (f x ()).bind _ = _
    rw [h x List.mem_cons_self, bsome]
    cases hp : p x with
    | true =>
      rw [if_pos rfl, List.all_cons, hp, Bool.true_and]
      exact forS_all fun y hy => h y (List.mem_cons_of_mem _ hy)
    | false =>
      rw [if_neg Bool.false_ne_true, List.all_cons, hp, Bool.false_and, if_neg Bool.false_ne_true]
      rfl
theorem rangeZ_mem {lo hi x : Int} (h : x ∈ rangeZ lo hi) : lo ≤ x ∧ x < hi := by
  unfold rangeZ at h
  obtain ⟨i, hi', rfl⟩ := List.mem_map.mp h
  have := List.mem_range.mp hi'
  omega
theorem rangeZ_map (n : Nat) (f : Int → α) : (rangeZ 0 (n : Int)).map f = (List.range n).map fun (k : Nat) => f (k : Int) := by
  unfold rangeZ
  rw [List.map_map, Int.sub_zero, Int.toNat_natCast]
  refine List.map_congr_left fun k _ => ?_
  show f (0 + (k : Int)) = f k
  rw [Int.zero_add]
theorem atI_nat {xs : List α} {k : Nat} {x : α} (h : xs[k]? = some x) : L2.atI xs (k : Int) = some x := by
  rw [atI_of (by omega), Int.toNat_natCast, h]
theorem fmO_eq {f : α → Option (Option β)} {p : α → Bool} {g : α → β} : ∀ {xs : List α}, (∀ x ∈ xs, f x = some (if p x = true then some (g x) else none)) → fmO f xs = some ((xs.filter p).map g)
  | [], _ => rfl
  | x :: t, h => by
    show (f x).bind _ = _
    rw [h x List.mem_cons_self, bsome, fmO_eq fun y hy => h y (List.mem_cons_of_mem _ hy), bsome]
    cases hp : p x with
    | true => rw [if_pos rfl, List.filter_cons_of_pos hp]; rfl
    | false => rw [if_neg Bool.false_ne_true, List.filter_cons_of_neg (by rw [hp]; exact Bool.false_ne_true)]
end
end TP

namespace TP
open PySem PySem.Spec PyProof.Rows L2
/-! ### exceptions -/
/-- a value, or an exception -/
inductive Res (ε α : Type)
  | ok (a : α) | er (e : ε)
deriving DecidableEq
def Res.thn {ε α γ : Type} (g : ε → Option γ) (k : α → Option γ) : Res ε α → Option γ
  | .ok a => k a
  | .er e => g e
section
variable {ε α γ : Type} {g : ε → Option γ} {k : α → Option γ} {y : γ}
theorem rok_inv {a : α} (h : Res.thn g k (.ok a) = some y) : k a = some y := h
theorem rer_inv {e : ε} (h : Res.thn g k (.er e) = some y) : g e = some y := h
end
section
variable {μ : Type} {S : List Addr} {Z0 H0 : Hp} {M : Mu μ} {σ : L2.St} {Z H : Hp} {s s' s1 s2 s3 : μ} {ta tb tc te : TE} {t : TA} {K : PySem.W.Frag} {D : Ends} {u w : TS} {X : Hp → Prop}
/-- the expression raises: X is asked of the heap then -/
def EvE (M : Mu μ) (t : TE) (σ : L2.St) (Z H : Hp) (s : μ) (X : Hp → Prop) (s' : μ) : Prop :=
  ∀ Z1 H1, Same Z Z1 → SameX M.fp H H1 → Same Z1 H1 → M.m s Z1 H1 → ∀ Q : VK, (∀ Z2 H2, Step M.fp Z1 H1 Z2 H2 → M.m s' Z2 H2 → X H2) → t σ H1 Q
def EvAE (M : Mu μ) (t : TA) (σ : L2.St) (Z H : Hp) (s : μ) (X : Hp → Prop) (s' : μ) : Prop :=
  ∀ Z1 H1, Same Z Z1 → SameX M.fp H H1 → Same Z1 H1 → M.m s Z1 H1 → ∀ Q : List V → Hp → Prop, (∀ Z2 H2, Step M.fp Z1 H1 Z2 H2 → M.m s' Z2 H2 → X H2) → t σ H1 Q
def EvTE (M : Mu μ) (t : TT) (σ : L2.St) (Z H : Hp) (s : μ) (X : Hp → Prop) (s' : μ) : Prop :=
  ∀ Z1 H1, Same Z Z1 → SameX M.fp H H1 → Same Z1 H1 → M.m s Z1 H1 → ∀ Q : Bool → Hp → Prop, (∀ Z2 H2, Step M.fp Z1 H1 Z2 H2 → M.m s' Z2 H2 → X H2) → t σ H1 Q
/-- for arguments of which Rs is true the promise raises: the class cls -/
def CallE (M : Mu μ) (sp : Sp) (E : XK) (Rs : Ra M.fp) (s : μ) (cls : Value) (s' : μ) : Prop :=
  ∀ Z H vs, Same Z H → M.m s Z H → Rs.r Z H vs → ∀ Q : VK, (∀ Z2 H2, Step M.fp Z H Z2 H2 → M.m s' Z2 H2 → E cls none H2) → sp vs H Q E
def InitE (M : Mu μ) (C : Addr) (sp : Sp) (E : XK) (Rs : Ra M.fp) (s : μ) (cls : Value) (s' : μ) : Prop :=
  ∀ Z H vs x dx, Same Z H → M.m s Z H → Rs.r Z H vs → H x = some (.ins C dx []) → Z x = none → x ∉ M.fp → ∀ Q : VK, (∀ Z2 H2, Step (x :: M.fp) Z H Z2 H2 → M.m s' Z2 H2 → E cls none H2) → sp (.ref x :: vs) H Q E
theorem eae_head (ha : EvE M ta σ Z H s X s1) : EvAE M (tCons ta t) σ Z H s X s1 := fun Z1 H1 a b c d _ q => ha Z1 H1 a b c d _ q
theorem eae_tail {R : Rr M.fp} (ha : Ev M ta σ Z H s R s1) (hr : EvAE M t σ Z H s1 X s2) : EvAE M (tCons ta t) σ Z H s X s2 :=
  fun Z1 H1 a b c d _ q => ha Z1 H1 a b c d _ fun _ Z2 H2 e m _ => hr Z2 H2 (a.trans e.z) (b.trans e.h) e.s m _ fun Z3 H3 e2 m2 => q Z3 H3 (e.trans e2) m2
theorem eve_args {sp : Sp} {E : XK} {dvs : List V} (ha : EvAE M t σ Z H s X s1) : EvE M (tCall sp dvs E t) σ Z H s X s1 := fun Z1 H1 a b c d _ q => ha Z1 H1 a b c d _ q
theorem eve_cb {r : List V → Hp → VK → Prop} (ha : EvAE M t σ Z H s X s1) : EvE M (tCB r t) σ Z H s X s1 := fun Z1 H1 a b c d _ q => ha Z1 H1 a b c d _ q
theorem eve_tup (ha : EvAE M t σ Z H s X s1) : EvE M (tTup t) σ Z H s X s1 := fun Z1 H1 a b c d _ q => ha Z1 H1 a b c d _ q
theorem eve_lst (ha : EvAE M t σ Z H s X s1) : EvE M (tLst t) σ Z H s X s1 := fun Z1 H1 a b c d _ q => ha Z1 H1 a b c d _ q
theorem eve_left {r : R2} (ha : EvE M ta σ Z H s X s1) : EvE M (tOp r ta tb) σ Z H s X s1 := fun Z1 H1 a b c d _ q => ha Z1 H1 a b c d _ q
theorem eve_right {r : R2} {R : Rr M.fp} (ha : Ev M ta σ Z H s R s1) (hb : EvE M tb σ Z H s1 X s2) : EvE M (tOp r ta tb) σ Z H s X s2 :=
  fun Z1 H1 a b c d _ q => ha Z1 H1 a b c d _ fun _ Z2 H2 e m _ => hb Z2 H2 (a.trans e.z) (b.trans e.h) e.s m _ fun Z3 H3 e2 m2 => q Z3 H3 (e.trans e2) m2
theorem eve_fld {f : Str} (ha : EvE M ta σ Z H s X s1) : EvE M (tFld K ta f) σ Z H s X s1 := fun Z1 H1 a b c d _ q => ha Z1 H1 a b c d _ q
theorem eve_call {sp : Sp} {E : XK} {Rs : Ra M.fp} {cls : Value} (C : CallE M sp E Rs s1 cls s2) (ha : EvA M t σ Z H s Rs s1) : EvE M (tCall sp [] E t) σ Z H s (E cls none) s2 :=
  fun Z1 H1 a b c d Q q => ha Z1 H1 a b c d _ fun vs Z2 H2 e m rs => by
    rw [List.append_nil]
    exact C Z2 H2 vs e.s m rs Q fun Z3 H3 e2 m2 => q Z3 H3 (e.trans e2) m2
theorem eve_meth {α : Type} {τ : Ty α} {x : α} {C' : Addr} {m : Str} {sp : Sp} {E : XK} {Rs : Ra M.fp} {cls : Value} (O : ObjOf τ C' m) (C : CallE M sp E (rac (ty τ x) Rs) s2 cls s3) (hx : Ev M ta σ Z H s (ty τ x) s1) (ha : EvA M t σ Z H s1 Rs s2) : EvE M (tMeth C' m sp [] E ta t) σ Z H s (E cls none) s3 :=
  fun Z1 H1 a b c d Q q => hx Z1 H1 a b c d _ fun v Z2 H2 e mm rv => by
    obtain ⟨p, dx, fs, rfl, hp, l⟩ := O _ _ _ rv
    refine ⟨p, dx, fs, rfl, e.s _ _ hp, l, ha Z2 H2 (a.trans e.z) (b.trans e.h) e.s mm _ fun vs Z3 H3 e2 m2 rs => ?_⟩
    rw [List.append_nil]
    exact C Z3 H3 _ e2.s m2 ⟨_, vs, rfl, τ.mono e2.z rv, rs⟩ Q fun Z4 H4 e3 m3 => q Z4 H4 ((e.trans e2).trans e3) m3
theorem eve_methA {α : Type} {τ : Ty α} {x : α} {C' : Addr} {m : Str} {sp : Sp} {E : XK} (O : ObjOf τ C' m) (hx : Ev M ta σ Z H s (ty τ x) s1) (ha : EvAE M t σ Z H s1 X s2) : EvE M (tMeth C' m sp [] E ta t) σ Z H s X s2 :=
  fun Z1 H1 a b c d Q q => hx Z1 H1 a b c d _ fun v Z2 H2 e mm rv => by
    obtain ⟨p, dx, fs, rfl, hp, l⟩ := O _ _ _ rv
    exact ⟨p, dx, fs, rfl, e.s _ _ hp, l, ha Z2 H2 (a.trans e.z) (b.trans e.h) e.s mm _ fun Z3 H3 e2 m2 => q Z3 H3 (e.trans e2) m2⟩
theorem eve_methO {C' : Addr} {m : Str} {sp : Sp} {E : XK} (hx : EvE M ta σ Z H s X s1) : EvE M (tMeth C' m sp [] E ta t) σ Z H s X s1 := fun Z1 H1 a b c d _ q => hx Z1 H1 a b c d _ q
theorem eve_makeA {C : Addr} {sp : Sp} {E : XK} (ha : EvAE M t σ Z H s X s1) : EvE M (tMake C sp [] E t) σ Z H s X s1 := fun Z1 H1 a b c d _ q => ha Z1 H1 a b c d _ q
theorem eve_makeKA {C : Addr} {n k : Nat} {sp : Sp} {E : XK} {gV : List V → List V → List V} {tk : TA} (ha : EvAE M t σ Z H s X s1) : EvE M (tMakeK C n k sp gV E t tk) σ Z H s X s1 := fun Z1 H1 a b c d _ q => ha Z1 H1 a b c d _ q
theorem Step.drop {S : List Addr} {Z H Z1 H1 : Hp} {x : Addr} (g : Step (x :: S) Z H Z1 H1) (hx : H x = none) : Step S Z H Z1 H1 := g.weak fun a h => by
  rcases List.mem_cons.mp h with e | h
  · exact .inr (e ▸ hx)
  · exact .inl h
theorem eve_make {C : Addr} {sp : Sp} {E : XK} {Rs : Ra M.fp} {cls : Value} (I : InitE M C sp E Rs s1 cls s2) (ha : EvA M t σ Z H s Rs s1) : EvE M (tMake C sp [] E t) σ Z H s (E cls none) s2 :=
  fun Z1 H1 a b c d Q q => ha Z1 H1 a b c d _ fun vs Z2 H2 e m rs x dx hx hd ne => by
    rw [List.append_nil]
    have st := Step.dict (C := C) e.s hx hd ne
    have nf : x ∉ M.fp := fun h => (M.al m x h).1 hx
    refine I Z2 _ vs x dx st.s (M.pure st m) (Rs.st st.pure rs) upd_same (same_none e.s hx) nf _ fun Z3 H3 e2 m2 => ?_
    exact q _ _ (e.trans (((st.pure (S := x :: M.fp)).trans e2).drop hx)) m2
theorem eve_makeK {C : Addr} {n k : Nat} {sp : Sp} {E : XK} {Rs Rk Rs' : Ra M.fp} {cls : Value} {gV : List V → List V → List V} {tk : TA} (I : InitE M C sp E Rs' s2 cls s3) (ha : EvA M t σ Z H s Rs s1) (hk : EvA M tk σ Z H s1 Rk s2)
    (hg : ∀ Z H vs zs x, Rs.r Z H vs → Rk.r Z H zs → vs.length = n ∧ zs.length = k ∧ ∃ ws, gV (.ref x :: vs) zs = .ref x :: ws ∧ Rs'.r Z H ws) : EvE M (tMakeK C n k sp gV E t tk) σ Z H s (E cls none) s3 :=
  fun Z1 H1 a b c d Q q => ha Z1 H1 a b c d _ fun vs Z2 H2 e m rs => hk Z2 H2 (a.trans e.z) (b.trans e.h) e.s m _ fun zs Z3 H3 e1 m1 rk => by
    have rs3 := Rs.st e1 rs
    obtain ⟨l1, l2, _⟩ := hg Z3 H3 vs zs 0 rs3 rk
    refine ⟨l1, l2, fun x dx hx hd ne => ?_⟩
    obtain ⟨_, _, ws, eg, rw'⟩ := hg Z3 H3 vs zs x rs3 rk
    rw [eg]
    have st := Step.dict (C := C) e1.s hx hd ne
    have nf : x ∉ M.fp := fun h => (M.al m1 x h).1 hx
    refine I Z3 _ ws x dx st.s (M.pure st m1) (Rs'.st st.pure rw') upd_same (same_none e1.s hx) nf _ fun Z4 H4 e2 m2 => ?_
    exact q _ _ ((e.trans e1).trans (((st.pure (S := x :: M.fp)).trans e2).drop hx)) m2
/-- defaults for all that are not written -/
theorem ev_makeD {C : Addr} {dvs : List V} {sp : Sp} {E : XK} {Rs Rs' : Ra M.fp} {R : Rr M.fp} (I : InitS M C sp E Rs' s1 R s2) (ha : EvA M t σ Z H s Rs s1) (hg : ∀ Z H vs, Rs.r Z H vs → Rs'.r Z H (vs ++ dvs)) : Ev M (tMake C sp dvs E t) σ Z H s R s2 :=
  fun Z1 H1 a b c d Q q => ha Z1 H1 a b c d _ fun vs Z2 H2 e m rs x dx hx hd ne => by
    have st := Step.dict (C := C) e.s hx hd ne
    have nf : x ∉ M.fp := fun h => (M.al m x h).1 hx
    refine I Z2 _ (vs ++ dvs) x dx st.s (M.pure st m) (hg _ _ _ (Rs.st st.pure rs)) upd_same (same_none e.s hx) nf _ fun Z3 H3 o e2 m2 ho rv => ⟨rfl, ?_⟩
    have hz3 : Z3 x = none := e2.n x (by rw [upd_same]; exact fun z => nomatch z) (same_none e.s hx)
    have e3 : Step M.fp Z2 H2 (upd Z3 x o) H3 := ((st.pure (S := x :: M.fp)).trans e2).freeze hx ho hz3
    refine q _ _ _ (e.trans e3) (M.loc (same_upd hz3) (fun _ _ _ e => e) (fun a ha _ z => ?_) m2) rv
    rw [upd_ne (fun q => nf (by rw [← q]; exact ha))]
    exact z
theorem eve_makeD {C : Addr} {dvs : List V} {sp : Sp} {E : XK} {Rs Rs' : Ra M.fp} {cls : Value} (I : InitE M C sp E Rs' s1 cls s2) (ha : EvA M t σ Z H s Rs s1) (hg : ∀ Z H vs, Rs.r Z H vs → Rs'.r Z H (vs ++ dvs)) : EvE M (tMake C sp dvs E t) σ Z H s (E cls none) s2 :=
  fun Z1 H1 a b c d Q q => ha Z1 H1 a b c d _ fun vs Z2 H2 e m rs x dx hx hd ne => by
    have st := Step.dict (C := C) e.s hx hd ne
    have nf : x ∉ M.fp := fun h => (M.al m x h).1 hx
    refine I Z2 _ (vs ++ dvs) x dx st.s (M.pure st m) (hg _ _ _ (Rs.st st.pure rs)) upd_same (same_none e.s hx) nf _ fun Z3 H3 e2 m2 => ?_
    exact q _ _ (e.trans (((st.pure (S := x :: M.fp)).trans e2).drop hx)) m2
/-! a call that is known not to raise -/
end
def Res.val {ε α : Type} (o : Option (Res ε α)) : Option α := o.bind (Res.thn (fun _ => none) some)
def Res.valS {ε α μ : Type} (o : Option (Res ε α × μ)) : Option (α × μ) := o.bind fun p => Res.thn (fun _ => none) (fun a => some (a, p.2)) p.1
theorem val_inv {ε α : Type} {o : Option (Res ε α)} {v : α} (h : Res.val o = some v) : o = some (.ok v) := by
  cases o with
  | none => cases h
  | some r =>
    cases r with
    | ok a => rw [show a = v from Option.some.inj h]
    | er e => cases h
theorem valS_inv {ε α μ : Type} {o : Option (Res ε α × μ)} {v : α × μ} (h : Res.valS o = some v) : o = some (.ok v.1, v.2) := by
  cases o with
  | none => cases h
  | some r =>
    obtain ⟨r, s⟩ := r
    cases r with
    | ok a => rw [← Option.some.inj h]
    | er e => cases h
section
variable {μ : Type} {S : List Addr} {Z0 H0 : Hp} {M : Mu μ} {σ : L2.St} {Z H : Hp} {s s' s1 s2 s3 : μ} {ta tb tc te : TE} {t : TA} {K : PySem.W.Frag} {D : Ends} {u w : TS} {X : Hp → Prop}
/-! tests that raise -/
theorem ete_val (h : EvE M te σ Z H s X s1) : EvTE M (tB te) σ Z H s X s1 := fun Z1 H1 p q r d _ k => h Z1 H1 p q r d _ k
theorem ete_cmp (h : EvE M te σ Z H s X s1) : EvTE M (tTest te) σ Z H s X s1 := fun Z1 H1 p q r d _ k => h Z1 H1 p q r d _ k
theorem ete_not {tA : TT} (h : EvTE M tA σ Z H s X s1) : EvTE M (tNot tA) σ Z H s X s1 := fun Z1 H1 p q r d _ k => h Z1 H1 p q r d _ k
/-! statements that raise -/
theorem st_setE {g : TG} (P : Pt S Z0 H0 M Z H s) (e : EvE M te σ Z H s X s1) (k : ∀ Z1 H1, Step M.fp Z H Z1 H1 → Pt S Z0 H0 M Z1 H1 s1 → X H1) : tAsg te g D σ H :=
  e Z H (Same.refl _) SameX.refl P.sub P.m _ fun Z1 H1 e m => k Z1 H1 e (P.next e m)
theorem st_retE (P : Pt S Z0 H0 M Z H s) (e : EvE M te σ Z H s X s1) (k : ∀ Z1 H1, Step M.fp Z H Z1 H1 → Pt S Z0 H0 M Z1 H1 s1 → X H1) : tRet te D σ H :=
  e Z H (Same.refl _) SameX.refl P.sub P.m _ fun Z1 H1 e m => k Z1 H1 e (P.next e m)
theorem st_exprE (P : Pt S Z0 H0 M Z H s) (e : EvE M te σ Z H s X s1) (k : ∀ Z1 H1, Step M.fp Z H Z1 H1 → Pt S Z0 H0 M Z1 H1 s1 → X H1) : tDrop te D σ H :=
  e Z H (Same.refl _) SameX.refl P.sub P.m _ fun Z1 H1 e m => k Z1 H1 e (P.next e m)
theorem st_ifE {tt : TT} (P : Pt S Z0 H0 M Z H s) (e : EvTE M tt σ Z H s X s1) (k : ∀ Z1 H1, Step M.fp Z H Z1 H1 → Pt S Z0 H0 M Z1 H1 s1 → X H1) : tIfS tt u w D σ H :=
  e Z H (Same.refl _) SameX.refl P.sub P.m _ fun Z1 H1 e m => k Z1 H1 e (P.next e m)
/-- a field of the thing that is being made -/
theorem ev_selfF {α : Type} {τ : Ty α} {x : α} {i : Nat} {p C dx : Addr} {fs : List (Str × V)} {f : Str} {v : V} (hp : H p = some (.ins C dx fs)) (np : p ∉ M.fp) (hσ : σ[i]? = some (some (.ref p))) (c : Cls K C) (n : NoAttr K C f) (l : fs.lookup f = some v) (hv : τ.r Z v x) : Ev M (tFld K (tVar i) f) σ Z H s (ty τ x) s :=
  fun Z1 H1 a b c' d Q q => ⟨.ref p, hσ, p, C, dx, fs, v, rfl, b _ _ np hp, c, n, l, q _ _ _ (Step.refl c') d (τ.mono a hv)⟩
end
end TP
namespace TP
open PySem PySem.Spec PyProof.Rows L2

theorem pi_tupB {X : Cx} {K : PySem.W.Frag} (hK : X.K = K) {tg l : Expr} {tl : TE} (hl : PE X l tl) : PI X tg l (iTup K tl) := by
  subst hK
  exact pi_tup hl
theorem pi_listB {X : Cx} {K : PySem.W.Frag} (hK : X.K = K) {tg l : Expr} {tl : TE} (hl : PE X l tl) : PI X tg l (iList K tl) := by
  subst hK
  exact pi_list hl
def rLenB (K : PySem.W.Frag) : List V → Hp → VK → Prop := fun xs H Q => ∃ p ys, xs = [.ref p] ∧ (SqL K H p ys ∨ SqT K H p ys) ∧ Q (.int ys.length) H
def rListB (K : PySem.W.Frag) : List V → Hp → VK → Prop := fun xs H Q => ∃ p ys, xs = [.ref p] ∧ (SqL K H p ys ∨ SqT K H p ys) ∧ ∀ l, H l = none → Q (.ref l) (upd H l (.lst ys))
def rTupleB (K : PySem.W.Frag) : List V → Hp → VK → Prop := fun xs H Q => ∃ p ys, xs = [.ref p] ∧ ((SqL K H p ys ∧ ∀ l, H l = none → Q (.ref l) (upd H l (.tup ys))) ∨ (SqT K H p ys ∧ Q (.ref p) H))
theorem pe_fldB {X : Cx} {K : PySem.W.Frag} (hK : X.K = K) {e : Expr} {f : Str} {pos : Pos} {ta : TE} (he : PE X e ta) (hb : attributeBase e f X.env (eval e X.env) = eval e X.env) : PE X (.Attribute e f pos) (tFld K ta f) := by
  subst hK
  exact pe_fld he hb
end TP

namespace TP
open PySem PySem.Spec PyProof.Rows L2
theorem kit_self {K : PySem.W.Frag} {C : Addr} : PySem.W.kitOne K (.ref C) (.ref C) = some true := by
  unfold PySem.W.kitOne
  rw [if_pos (by simp)]
theorem kit_sub {K : PySem.W.Frag} {t : Value} {C : Addr} {v : Bool} (h1 : PySem.W.isClsIn K C = true) (h2 : PySem.W.typeIn K (.ref C) = some (.type "type")) (h3 : PySem.W.subIn K t (.ref C) = some v) (h4 : (t == .ref C) = false) : PySem.W.kitOne K t (.ref C) = some v := by
  unfold PySem.W.kitOne
  rw [h4, if_neg Bool.false_ne_true]
  unfold PySem.W.kitCls
  have h1' : (PySem.W.clsIn K C).isSome = true := h1
  simp only [h1', h2, Bool.true_and]
  simp [h3]
theorem kit_subN {K : PySem.W.Frag} {t : Value} {C : Addr} (h1 : PySem.W.isClsIn K C = true) (h2 : PySem.W.typeIn K (.ref C) = some (.type "type")) (h3 : PySem.W.subIn K t (.ref C) = some false) (h4 : PySem.W.subIn K (.ref C) (.ref C) = some true) : PySem.W.kitOne K t (.ref C) = some false := by
  refine kit_sub h1 h2 h3 ?_
  cases e : (t == .ref C) with
  | false => rfl
  | true =>
    have e' : t = .ref C := beq_iff_eq.mp e
    rw [e', h4] at h3
    cases h3
theorem nf_self {K : PySem.W.Frag} {C : Addr} : PySem.W.notFirst K C (.ref C) = true := by simp [PySem.W.notFirst]
theorem nf_sub {K : PySem.W.Frag} {C : Addr} {t : Value} (h : PySem.W.subIn K t (.ref C) = some false) : PySem.W.notFirst K C t = true := by simp [PySem.W.notFirst, h]
end TP

namespace TP
open PySem PySem.Spec PyProof.Rows L2
/-! ### slots of a block forgotten -/
theorem wipe_at {σ : L2.St} {j : Nat} : ∀ {vs : List Nat}, (wipe σ vs)[j]? = if j ∈ vs then (σ[j]?).map fun _ => none else σ[j]?
  | [] => by simp [wipe]
  | v :: vs => by
    unfold wipe
    by_cases h : v = j
    · subst h
      rw [if_pos List.mem_cons_self]
      by_cases hl : v < σ.length
      · rw [List.getElem?_set_self (by rw [wipe_length]; exact hl), List.getElem?_eq_getElem hl]; rfl
      · rw [List.getElem?_eq_none (by rw [List.length_set, wipe_length]; omega), List.getElem?_eq_none (by omega)]; rfl
    · rw [List.getElem?_set_ne h, wipe_at (vs := vs)]
      by_cases g : j ∈ vs
      · rw [if_pos g, if_pos (List.mem_cons_of_mem _ g)]
      · rw [if_neg g, if_neg (fun z => (List.mem_cons.mp z).elim (fun q => h q.symm) g)]
theorem wpe_z {σ : L2.St} {vs : List Nat} : wipe (wipe σ vs) vs = wipe σ vs := by
  refine List.ext_getElem? fun j => ?_
  rw [wipe_at, wipe_at]
  by_cases g : j ∈ vs
  · rw [if_pos g, if_pos g]; cases σ[j]? <;> rfl
  · rw [if_neg g, if_neg g]
theorem wpe_s {σ σ1 : L2.St} {vs : List Nat} {i : Nat} {x : Option V} (h : wipe σ1 vs = wipe σ vs) (m : i ∈ vs) : wipe (σ1.set i x) vs = wipe σ vs := by
  rw [← h]
  refine List.ext_getElem? fun j => ?_
  rw [wipe_at, wipe_at]
  by_cases g : j ∈ vs
  · rw [if_pos g, if_pos g]
    by_cases e : i = j
    · subst e
      by_cases hl : i < σ1.length
      · rw [List.getElem?_set_self hl, List.getElem?_eq_getElem hl]; rfl
      · rw [List.getElem?_eq_none (by rw [List.length_set]; omega), List.getElem?_eq_none (by omega)]
    · rw [List.getElem?_set_ne e]
  · rw [if_neg g, if_neg g, List.getElem?_set_ne (fun e => g (by rw [← e]; exact m))]
end TP

namespace TP
open PySem PySem.Spec PyProof.Rows L2
/-- the slots written out -/
theorem st_norm {nx : L2.St → Hp → Prop} {σ σ' : L2.St} {H : Hp} (e : σ = σ') (h : nx σ' H) : nx σ H := by
  rw [e]; exact h
end TP

/-! != of instances with an own ==, and == and != of such an instance with anything -/
namespace TPN
open PySem PySem.Spec PyProof.Rows L2
section
variable {M : Model} {prog : Program} {w : World} {A : Around} {E : Value → Shared → Prop} {s : Shared} {K : PySem.W.Frag} {x C f : Addr} {ox : Obj} {od : Option Obj} {b tb : Value}
theorem ifBound_ne {args : List Value} {Q : Option Value → Shared → Prop} (X : K.In s.heap) (I : PySem.W.InstAt s.heap x ox C od) (hs : PySem.W.findIn K (.ref C) "__ne__" = some (some (.builtin "object.__ne__")))
    (h : wpAny M A (call (.builtin "object.__ne__") (.ref x :: args)) (fun v => Q (some v)) E s) : wpAny M A (callSpecialIfBound? (.ref x) "__ne__" args) Q E s := by
  simp only [callSpecialIfBound?, bindSpecialIfBound?]
  refine wpAny_holding (wpAny_bind (wpAny_bind (wpAny_bind (I.type.here ((PySem.W.looks_findIn X hs).here ?_)))))
  refine wpAny_bind (wpAny_askSetting (wpAny_ite ?_))
  have fin : wpAny M A (call (.builtin "object.__ne__") ([.ref x] ++ args) >>= fun v => pure (some v)) Q E s := wpAny_bind (wpAny_mono h (fun v s' h' => wpAny_pure h') fun _ _ h' => h')
  split
  · exact wpAny_bind (wpAny_of_eq (F.cmp_object.ne.bind _) (wpAny_pure (by exact fin)))
  · exact wpAny_tryCatch (wpAny_bind (wpAny_of_eq (F.cmp_object.ne.bind _) (wpAny_pure (by exact fin))))
theorem entry_ne {Q : Fin → Shared → Prop} (hu : A.units < cLine) (X : K.In s.heap) (I : PySem.W.InstAt s.heap x ox C od) (hs : PySem.W.findIn K (.ref C) "__eq__" = some (some (.ref f))) (hf : PySem.W.isFn K (.ref f) = true)
    (h : wpAny M A (call (.ref f) [.ref x, b]) (fun v s' => ∃ r, v = .bool r ∧ Q (.done (.ret (.bool (!r)))) s') E s) : wpAny M A (Builtin.«object.__ne__» ⟨[.ref x, b], []⟩) Q E s := by
  unfold Builtin.«object.__ne__»
  repeat (first
    | with_reducible refine wpAny_cRoomFor hu ?_
    | (refine wpAny_bind (m := callSpecialIfBound? (.ref x) (Str.ofString "__eq__") [b]) (PySem.W.ifBound_K X I hs hf (wpAny_mono h (fun r s' hr => by
        obtain ⟨b, rfl, hq⟩ := hr
        repeat (first | exact hq | exact wpAny_pure hq | exact wpAny_truthy_bool hq | (refine wpAny_bind (m := truthy (.bool _)) (wpAny_truthy_bool ?_)) | wp_step)) fun _ _ e => e)))
    | wp_step)
theorem call_ne {Q : Value → Shared → Prop} (hu : A.units + 1 < cLine) (X : K.In s.heap) (I : PySem.W.InstAt s.heap x ox C od) (hm : PySem.W.mroIn K C (.type "object") = some true) (hs : PySem.W.findIn K (.ref C) "__eq__" = some (some (.ref f))) (hf : PySem.W.isFn K (.ref f) = true)
    (h : wpAny (model prog w) A.in1 (call (.ref f) [.ref x, b]) (fun v s' => ∃ r, v = .bool r ∧ Q (.bool (!r)) s') E s) :
    wpAny (model prog w) A (call (.builtin "object.__ne__") [.ref x, b]) Q E s :=
  wpAny_call (codeAny_call_builtin F.cmp_object.ne.plain F.cmpEntry_ne (PySem.W.check_slot F.cmpKind_ne F.cmpSplit_ne (I.type.andThen (PySem.W.looks_mroIn X hm)) (F.cmpArgs_ne _ _) (entry_ne (A := A.in1) hu X I hs hf (wpAny_mono h (fun v s' hv => by
    obtain ⟨r, e, q⟩ := hv
    exact ⟨r, e, q⟩) fun _ _ e => e))))
theorem ne_K {Q : Value → Shared → Prop} (hu : A.units + 1 < cLine) (X : K.In s.heap) (I : PySem.W.InstAt s.heap x ox C od) (hb : PySem.W.Looks (model prog w) s.heap (typeOf b) tb) (hn : PySem.W.notFirst K C tb = true)
    (hm : PySem.W.mroIn K C (.type "object") = some true) (hne : PySem.W.findIn K (.ref C) "__ne__" = some (some (.builtin "object.__ne__")))
    (hs : PySem.W.findIn K (.ref C) "__eq__" = some (some (.ref f))) (hf : PySem.W.isFn K (.ref f) = true)
    (h : wpAny (model prog w) A.in1 (call (.ref f) [.ref x, b]) (fun v s' => ∃ r, v = .bool r ∧ Q (.bool (!r)) s') E s) : wpAny (model prog w) A (richCompare .NotEq (.ref x) b) Q E s := by
  have one : wpAny (model prog w) A (tryCompare (.ref x) "__ne__" b) (fun r s' => ∃ v, r = some v ∧ Q v s') E s := by
    unfold tryCompare
    refine wpAny_bind (ifBound_ne X I hne (call_ne hu X I hm hs hf (wpAny_mono h (fun v s' hv => ?_) fun _ _ e => e)))
    obtain ⟨r, rfl, q⟩ := hv
    exact ⟨r, rfl, wpAny_pure ⟨_, rfl, q⟩⟩
  unfold richCompare
  simp only [oneThing_ref]
  refine wpAny_holding (wpAny_bind (wpAny_cRoomFor (by omega) ?_))
  rw [cmpInfo_NotEq]
  dsimp only
  refine wpAny_bind (I.type.here (wpAny_bind (hb.here ?_)))
  split
  · rename_i q
    have e : PySem.W.subIn K tb (.ref C) = some false := by
      rcases Bool.or_eq_true_iff.mp hn with e | e
      · rw [beq_iff_eq.mp e] at q; simp at q
      · exact beq_iff_eq.mp e
    refine wpAny_bind ((PySem.W.looks_subIn X e).here ?_)
    simp only [Bool.false_eq_true, if_false]
    refine wpAny_bind (wpAny_mono one (fun r s' z => ?_) fun _ _ e => e)
    obtain ⟨v, rfl, hq⟩ := z
    exact wpAny_pure hq
  · refine wpAny_bind (wpAny_pure ?_)
    simp only [Bool.false_eq_true, if_false]
    refine wpAny_bind (wpAny_mono one (fun r s' z => ?_) fun _ _ e => e)
    obtain ⟨v, rfl, hq⟩ := z
    exact wpAny_pure hq
end
end TPN
namespace TPN
open PySem PySem.Spec PyProof.Rows L2
/-- == (neg false) or != of x, an instance of a class with an own ==, with anything -/
def rOwnE (K : PySem.W.Frag) (C : Addr) (neg : Bool) (sp : Sp) (E : XK) : R2 := fun x y H Q => ∃ a dx fs t, x = .ref a ∧ H a = some (.ins C dx fs) ∧ TyX K H y t ∧ PySem.W.notFirst K C t = true ∧ sp [x, y] H (fun z H' => ∃ b, z = .bl b ∧ Q (.bl (b != neg)) H') E
theorem nf_self {K : PySem.W.Frag} {C : Addr} : PySem.W.notFirst K C (.ref C) = true := by simp [PySem.W.notFirst]
theorem op_ownE {X : Cx} {CX : CXT} {C f : Addr} {fd : FuncData} {ps : List Str} {sp : Sp} {n : Nat} {E : XK} (M : Meth X.K C "__eq__" f) (F : FnOk X.prog X.w X.K X.mg X.base CX n f fd ps sp) (hr : Room n X.A)
    (hb : Binds X.K fd ps []) (hx : Passes CX X E) : OpR X (compareOp .Eq) (rOwnE X.K C false sp E) := by
  intro pins s σ H x y v u Q I rx ry h
  obtain ⟨a, dx, fs, t, rfl, ha, ty, hn, q⟩ := h
  cases (show v = Value.ref a from rx)
  obtain ⟨mA, J, _⟩ := ins_get I.hok ha
  obtain ⟨od, J, _⟩ := J.look
  obtain ⟨P, Z, p, _⟩ := kit_of I ry ty
  obtain ⟨m, hF⟩ := I.fr
  show wpAny (model X.prog X.w) X.A (richCompare .Eq (.ref a) u) _ _ _
  refine PySem.W.cmp_K (op := .Eq) (tb := t) hr.units0 hF I.ok.mod.kin J (Z.ty _ _ I.kIn p) hn M.at_ M.fn ?_
  refine wpAny_mono (run_fn (Q := fun z H' => ∃ b, z = .bl b ∧ Q (.bl (b != false)) H') (us := [.ref a, u]) (vs := [.ref a, y]) F hr hb .nil hx I (.cons rfl (.cons ry .nil)) (by simpa using q)) (fun w s' z => ?_) fun _ _ x => x
  obtain ⟨z', H', I', rz, b, ez, qz⟩ := z
  subst ez
  cases (show w = Value.bool b from rz)
  exact ⟨.bl b, H', I', rfl, by simpa using qz⟩
theorem op_ownNE {X : Cx} {CX : CXT} {C f : Addr} {fd : FuncData} {ps : List Str} {sp : Sp} {n : Nat} {E : XK} (hm : PySem.W.mroIn X.K C (.type "object") = some true) (hne : PySem.W.findIn X.K (.ref C) "__ne__" = some (some (.builtin "object.__ne__")))
    (M : Meth X.K C "__eq__" f) (F : FnOk X.prog X.w X.K X.mg X.base CX n f fd ps sp) (hr : Room (n + 1) X.A)
    (hb : Binds X.K fd ps []) (hx : ∀ (pins : List (Addr × Obj)) (σ : L2.St) (H : Hp) (s : Shared) (e : Value) (s' : Shared), Inv X pins σ H s → CX X.stack H s E e s' → X.xe e s') : OpR X (compareOp .NotEq) (rOwnE X.K C true sp E) := by
  intro pins s σ H x y v u Q I rx ry h
  obtain ⟨a, dx, fs, t, rfl, ha, ty, hn, q⟩ := h
  cases (show v = Value.ref a from rx)
  obtain ⟨mA, J, _⟩ := ins_get I.hok ha
  obtain ⟨od, J, _⟩ := J.look
  obtain ⟨P, Z, p, _⟩ := kit_of I ry ty
  show wpAny (model X.prog X.w) X.A (richCompare .NotEq (.ref a) u) _ _ _
  have hr1 : Room n X.A.in1 := hr.in1
  refine ne_K (A := X.A) (tb := t) (by have := hr1.units0; exact this) I.kIn J (Z.ty _ _ I.kIn p) hn hm hne M.at_ M.fn ?_
  have e0 : Env0 X.prog X.w X.K X.mg X.base X.A.in1 X.stack s H := I.env0.in1
  have r2 : Vals [V.ref a, y] [Value.ref a, u] := .cons rfl (.cons ry .nil)
  have hl : ([Value.ref a, u] : List Value).length = ps.length := by rw [← r2.length]; exact F.len _ _ _ _ q
  refine wpAny_call (codeAny_mono (F.run X.A.in1 X.stack s H ⟨[.ref a, u], []⟩ [.ref a, u] [.ref a, y] _ E hr1 e0 (by
    have := hb s [.ref a, u] I.kIn (by simpa using hl)
    simpa using this) r2 q) fun r s' hq => ?_)
  cases r with
  | error e => exact hx pins σ H s e s' I hq
  | ok fl =>
    cases fl with
    | ret w =>
      obtain ⟨z, H', I', rz, b, ez, qz⟩ := I.after hq
      subst ez
      cases (show w = Value.bool b from rz)
      exact ⟨b, rfl, .bl (!b), H', I', rfl, by simpa using qz⟩
    | next => exact False.elim hq
    | brk => exact False.elim hq
    | cont => exact False.elim hq
end TPN

namespace TPN
open PySem PySem.Spec PyProof.Rows L2 PySem.SeqAt
section
variable {prog : Program} {w : World} {A : Around} {E : Value → Shared → Prop} {s : Shared} {K : PySem.W.Frag} {y C f : Addr} {oy : Obj} {od : Option Obj}
/-- None == an instance: its own == is asked -/
theorem eq_none_ref {Q : Value → Shared → Prop} (hu : A.units < cLine) (X : K.In s.heap) (I : PySem.W.InstAt s.heap y oy C od) (hsub : PySem.W.subIn K (.ref C) (.type "NoneType") = some false)
    (hs : PySem.W.findIn K (.ref C) "__eq__" = some (some (.ref f))) (hf : PySem.W.isFn K (.ref f) = true)
    (h : wpAny (model prog w) A (call (.ref f) [.ref y, .none]) (fun v s' => ∃ r, v = .bool r ∧ Q (.bool r) s') E s) : wpAny (model prog w) A (richCompare .Eq .none (.ref y)) Q E s := by
  have one : wpAny (model prog w) A (tryCompare .none "__eq__" (.ref y)) (fun r s' => r = none ∧ s' = s) E s :=
    wpAny_tryCompare_declines (show s.TypeIs .none "NoneType" from rfl) F.slot_NoneType_eq (call_gives F.slot_NoneType_eq rfl F.entry_NoneType_eq (F.args_NoneType_eq_2 _ _) (NoneType___eq___none_ref_0 y) ⟨rfl, rfl, rfl⟩)
  have two : wpAny (model prog w) A (tryCompare (.ref y) "__eq__" .none) (fun r s' => ∃ v, r = some v ∧ Q v s') E s := by
    unfold tryCompare
    refine wpAny_bind (PySem.W.ifBound_K X I hs hf (wpAny_mono h (fun v s' hv => ?_) fun _ _ e => e))
    obtain ⟨r, rfl, q⟩ := hv
    exact wpAny_pure ⟨_, rfl, q⟩
  have e0 : oneThing? .Eq .none (.ref y) = none := rfl
  simp only [richCompare, cmpInfo_Eq, e0]
  refine wpAny_holding (wpAny_bind (wpAny_cRoomFor hu ?_))
  refine wpAny_bind (wpAny_typeOf (show s.TypeIs .none "NoneType" from rfl) ?_)
  refine wpAny_bind (I.type.here ?_)
  have fin : wpAny (model prog w) A (tryCompare .none "__eq__" (.ref y)) (fun r s' => r = none ∧ s' = s) E s := one
  split
  · refine wpAny_bind ((PySem.W.looks_subIn X hsub).here ?_)
    simp only [Bool.false_eq_true, if_false, Bool.not_false, if_true]
    refine wpAny_bind (m := tryCompare .none _ (.ref y)) (wpAny_mono one (fun r s1 z => ?_) fun _ _ e => e)
    obtain ⟨z1, z2⟩ := z
    subst z1
    subst z2
    refine wpAny_bind (m := tryCompare (.ref y) _ .none) (wpAny_mono two (fun r s2 z => ?_) fun _ _ e => e)
    obtain ⟨v, rfl, q⟩ := z
    exact wpAny_pure q
  · rename_i q
    exact absurd (by simp) q
end
/-- == of what may be None or an instance of the class at C with an own == -/
def rOptE (K : PySem.W.Frag) (C : Addr) (sp : Sp) (E : XK) : R2 := fun x y H Q => (x = .non ∧ y = .non ∧ Q (.bl true) H) ∨ (x = .non ∧ (∃ a dx fs, y = .ref a ∧ H a = some (.ins C dx fs)) ∧ sp [y, x] H (fun z H' => ∃ b, z = .bl b ∧ Q (.bl b) H') E) ∨ rOwnE K C false sp E x y H Q
theorem op_optE {X : Cx} {CX : CXT} {C f : Addr} {fd : FuncData} {ps : List Str} {sp : Sp} {n : Nat} {E : XK} (hn : PySem.W.subIn X.K (.ref C) (.type "NoneType") = some false) (M : Meth X.K C "__eq__" f) (F : FnOk X.prog X.w X.K X.mg X.base CX n f fd ps sp) (hr : Room n X.A)
    (hb : Binds X.K fd ps []) (hx : Passes CX X E) : OpR X (compareOp .Eq) (rOptE X.K C sp E) := by
  intro pins s σ H x y v u Q I rx ry h
  rcases h with ⟨rfl, rfl, q⟩ | ⟨rfl, ⟨a, dx, fs, rfl, ha⟩, q⟩ | h
  · exact op_eq pins s σ H .non .non v u Q I rx ry ⟨rfl, by simpa using q⟩
  · cases rx
    cases (show u = Value.ref a from ry)
    obtain ⟨mA, J, _⟩ := ins_get I.hok ha
    obtain ⟨od, J, _⟩ := J.look
    show wpAny (model X.prog X.w) X.A (richCompare .Eq .none (.ref a)) _ _ _
    refine eq_none_ref hr.units0 I.kIn J hn M.at_ M.fn ?_
    refine wpAny_mono (run_fn (Q := fun z H' => ∃ b, z = .bl b ∧ Q (.bl b) H') (us := [.ref a, .none]) (vs := [.ref a, .non]) F hr hb .nil hx I (.cons rfl (.cons rfl .nil)) (by simpa using q)) (fun w s' z => ?_) fun _ _ x => x
    obtain ⟨z', H', I', rz, b, ez, qz⟩ := z
    subst ez
    cases (show w = Value.bool b from rz)
    exact ⟨b, rfl, .bl b, H', I', rfl, qz⟩
  · exact op_ownE M F hr hb hx pins s σ H x y v u Q I rx ry h
end TPN

namespace TP
open PySem PySem.Spec PyProof.Rows L2
/-! ### data by what == says of it -/
structure EqW (K : PySem.W.Frag) {α : Type} (τ : Ty α) (d : α → PyData) (n : Nat) : Prop where
  dp : ∀ Z H v x, Same Z H → τ.r Z v x → Dp K H v (d x)
  lay : ∀ Z v x, τ.r Z v x → (d x).canLay0 = true
  dep : ∀ x, (d x).depth ≤ n
def dLst {α : Type} (d : α → PyData) (xs : List α) : PyData := .list (xs.map d)
def dTup {α : Type} (d : α → PyData) (xs : List α) : PyData := .tuple (xs.map d)
def dP1 {α : Type} (d : α → PyData) (x : α) : PyData := .tuple [d x]
def dP2 {α β : Type} (d : α → PyData) (e : β → PyData) (x : α × β) : PyData := .tuple [d x.1, e x.2]
def dP3 {α β γ : Type} (d : α → PyData) (e : β → PyData) (f : γ → PyData) (x : α × β × γ) : PyData := .tuple [d x.1, e x.2.1, f x.2.2]
def dP4 {α β γ δ : Type} (d : α → PyData) (e : β → PyData) (f : γ → PyData) (g : δ → PyData) (x : α × β × γ × δ) : PyData := .tuple [d x.1, e x.2.1, f x.2.2.1, g x.2.2.2]
def dNon (_ : Unit) : PyData := .none
section
variable {K : PySem.W.Frag} {α β γ δ : Type} {τ : Ty α} {υ : Ty β} {φ : Ty γ} {ψ : Ty δ} {d : α → PyData} {e : β → PyData} {f : γ → PyData} {g : δ → PyData} {n m k l : Nat}
theorem EqD.w (E : EqD K τ d n) : EqW K τ d n := ⟨E.dp, E.lay, E.dep⟩
theorem EqW.all (E : EqW K τ d n) {Z H : Hp} (sz : Same Z H) : ∀ {vs : List V} {xs : List α}, All (τ.r Z) vs xs → DpAll K H vs (xs.map d)
  | _, _, .nil => .nil
  | _, _, .cons h t => .cons (E.dp _ _ _ _ sz h) (E.all sz t)
theorem EqW.lays (E : EqW K τ d n) {Z : Hp} : ∀ {vs : List V} {xs : List α}, All (τ.r Z) vs xs → PyData.canLayAll0 (xs.map d) = true
  | _, _, .nil => by simp [PyData.canLayAll0]
  | _, _, .cons h t => by
    have h1 := E.lay _ _ _ h
    have h2 := E.lays t
    simp [PyData.canLayAll0, h1, h2]
theorem EqW.deps (E : EqW K τ d n) : ∀ xs : List α, PyData.depthAll (xs.map d) ≤ n
  | [] => by simp [PyData.depthAll]
  | x :: r => by
    have h1 := E.dep x
    have h2 := E.deps r
    simp only [List.map_cons, PyData.depthAll]
    omega
theorem eqw_list (E : EqW K τ d n) : EqW K (yList τ) (dLst d) (n + 1) where
  dp := fun Z H v x sz ⟨a, vs, e, h, t, _⟩ => by subst e; exact .lst (SqL.of (sz _ _ h)) (E.all sz t)
  lay := fun Z v x ⟨a, vs, e, h, t, _⟩ => by simpa [PyData.canLay0, dLst] using E.lays t
  dep := fun x => by have := E.deps x; simp only [PyData.depth, dLst]; omega
theorem eqw_tup (E : EqW K τ d n) : EqW K (yTup K τ) (dTup d) (n + 1) where
  dp := fun Z H v x sz ⟨a, vs, e, h, t, _⟩ => by subst e; exact .tup (seqT_same sz h) (E.all sz t)
  lay := fun Z v x ⟨a, vs, e, h, t, _⟩ => by simpa [PyData.canLay0, dTup] using E.lays t
  dep := fun x => by have := E.deps x; simp only [PyData.depth, dTup]; omega
theorem eqw_p1 (E : EqW K τ d n) : EqW K (yP1 K τ) (dP1 d) (n + 1) where
  dp := fun Z H v x sz ⟨a, v1, e, h, h1⟩ => by subst e; exact .tup (seqT_same sz h) (.cons (E.dp _ _ _ _ sz h1) .nil)
  lay := fun Z v x ⟨a, v1, e, h, h1⟩ => by simp [PyData.canLay0, PyData.canLayAll0, dP1, E.lay _ _ _ h1]
  dep := fun x => by have := E.dep x; simp only [PyData.depth, PyData.depthAll, dP1]; omega
theorem eqw_p2 (E : EqW K τ d n) (F : EqW K υ e m) : EqW K (yP2 K τ υ) (dP2 d e) (max n m + 1) where
  dp := fun Z H v x sz ⟨a, v1, v2, e, h, h1, h2⟩ => by subst e; exact .tup (seqT_same sz h) (.cons (E.dp _ _ _ _ sz h1) (.cons (F.dp _ _ _ _ sz h2) .nil))
  lay := fun Z v x ⟨a, v1, v2, e, h, h1, h2⟩ => by simp [PyData.canLay0, PyData.canLayAll0, dP2, E.lay _ _ _ h1, F.lay _ _ _ h2]
  dep := fun x => by have := E.dep x.1; have := F.dep x.2; simp only [PyData.depth, PyData.depthAll, dP2]; omega
theorem eqw_p3 (E : EqW K τ d n) (F : EqW K υ e m) (G : EqW K φ f k) : EqW K (yP3 K τ υ φ) (dP3 d e f) (max n (max m k) + 1) where
  dp := fun Z H v x sz ⟨a, v1, v2, v3, e, h, h1, h2, h3⟩ => by subst e; exact .tup (seqT_same sz h) (.cons (E.dp _ _ _ _ sz h1) (.cons (F.dp _ _ _ _ sz h2) (.cons (G.dp _ _ _ _ sz h3) .nil)))
  lay := fun Z v x ⟨a, v1, v2, v3, e, h, h1, h2, h3⟩ => by simp [PyData.canLay0, PyData.canLayAll0, dP3, E.lay _ _ _ h1, F.lay _ _ _ h2, G.lay _ _ _ h3]
  dep := fun x => by have := E.dep x.1; have := F.dep x.2.1; have := G.dep x.2.2; simp only [PyData.depth, PyData.depthAll, dP3]; omega
theorem eqw_p4 (E : EqW K τ d n) (F : EqW K υ e m) (G : EqW K φ f k) (I : EqW K ψ g l) : EqW K (yP4 K τ υ φ ψ) (dP4 d e f g) (max n (max m (max k l)) + 1) where
  dp := fun Z H v x sz ⟨a, v1, v2, v3, v4, e, h, h1, h2, h3, h4⟩ => by subst e; exact .tup (seqT_same sz h) (.cons (E.dp _ _ _ _ sz h1) (.cons (F.dp _ _ _ _ sz h2) (.cons (G.dp _ _ _ _ sz h3) (.cons (I.dp _ _ _ _ sz h4) .nil))))
  lay := fun Z v x ⟨a, v1, v2, v3, v4, e, h, h1, h2, h3, h4⟩ => by simp [PyData.canLay0, PyData.canLayAll0, dP4, E.lay _ _ _ h1, F.lay _ _ _ h2, G.lay _ _ _ h3, I.lay _ _ _ h4]
  dep := fun x => by have := E.dep x.1; have := F.dep x.2.1; have := G.dep x.2.2.1; have := I.dep x.2.2.2; simp only [PyData.depth, PyData.depthAll, dP4]; omega
theorem eqw_non : EqW K yNon dNon 0 := ⟨fun _ _ _ x _ h => by cases h; exact .non, fun _ _ _ _ => rfl, fun _ => Nat.le_refl _⟩
theorem eqw_opt (E : EqW K τ d n) : EqW K (yOpt τ) (optD d) n where
  dp := fun Z H v x sz h => match x, h with
    | none, h => by rw [show v = .non from h]; exact .non
    | some x, h => E.dp _ _ _ _ sz h.1
  lay := fun Z v x h => match x, h with
    | none, h => rfl
    | some x, h => E.lay _ _ _ h.1
  dep := fun x => match x with
    | none => Nat.zero_le _
    | some x => E.dep x
theorem EqW.gd {fp : List Addr} (E : EqW K τ d n) (x : α) : GD K (ty (fp := fp) τ x) (d x) := fun _ _ _ sz h => ⟨E.dp _ _ _ _ sz h, E.lay _ _ _ h⟩
theorem EqW.gdl {fp : List Addr} (E : EqW K τ d n) (xs : List α) : GD K (li (fp := fp) τ xs) (dLst d xs) := fun _ _ _ sz h => by
  obtain ⟨p, vs, rfl, g, t, _⟩ := rdl sz h
  exact ⟨.lst (SqL.of g) (E.all sz t), by simpa [PyData.canLay0, dLst] using E.lays t⟩
theorem EqW.dpt (E : EqW K τ d n) (h : n ≤ 64) (x : α) : (d x).depth ≤ 64 := Nat.le_trans (E.dep x) h
theorem EqW.dpl (E : EqW K τ d n) (h : n + 1 ≤ 64) (xs : List α) : (dLst d xs).depth ≤ 64 := by have := E.deps xs; simp only [PyData.depth, dLst]; omega
end
section
variable {μ : Type} {M : Mu μ} {σ : L2.St} {Z H : Hp} {s s' s1 s2 s3 : μ} {ta tb tc te : TE} {t : TA} {K : PySem.W.Frag}
theorem ev_eqW {R R' : Rr M.fp} {c c' : PyData} (G : GD K R c) (G' : GD K R' c') (l : c.depth ≤ 64) (l' : c'.depth ≤ 64) (ha : Ev M ta σ Z H s R s1) (hb : Ev M tb σ Z H s1 R' s2) : Ev M (tOp (rEqD K) ta tb) σ Z H s (ty yBool (PyData.eqv c c')) s2 :=
  ev_op ha hb fun _ _ _ _ sz e1 e2 _ q => by
    obtain ⟨d1, k1⟩ := G _ _ _ sz e1
    obtain ⟨d2, k2⟩ := G' _ _ _ sz e2
    exact ⟨c, c', d1, d2, shaped_of k1 l (Nat.le_refl _), shaped_of k2 l' (Nat.le_refl _), q _ _ _ (Step.refl sz) rfl⟩
theorem ev_neW {R R' : Rr M.fp} {c c' : PyData} (G : GD K R c) (G' : GD K R' c') (l : c.depth ≤ 64) (l' : c'.depth ≤ 64) (ha : Ev M ta σ Z H s R s1) (hb : Ev M tb σ Z H s1 R' s2) : Ev M (tOp (rNeD K) ta tb) σ Z H s (ty yBool (!PyData.eqv c c')) s2 :=
  ev_op ha hb fun _ _ _ _ sz e1 e2 _ q => by
    obtain ⟨d1, k1⟩ := G _ _ _ sz e1
    obtain ⟨d2, k2⟩ := G' _ _ _ sz e2
    exact ⟨c, c', d1, d2, shaped_of k1 l (Nat.le_refl _), shaped_of k2 l' (Nat.le_refl _), q _ _ _ (Step.refl sz) rfl⟩
theorem ev_cmpS {F : Str → Str → Bool} {x y : Str} (ha : Ev M ta σ Z H s (ty yStr x) s1) (hb : Ev M tb σ Z H s1 (ty yStr y) s2) : Ev M (tOp (fun x y H Q => ∃ i j, x = .str i ∧ y = .str j ∧ Q (.bl (F i j)) H) ta tb) σ Z H s (ty yBool (F x y)) s2 :=
  ev_op ha hb fun _ _ _ _ sz e1 e2 _ q => ⟨x, y, e1.1, e2.1, q _ _ _ (Step.refl sz) rfl⟩
theorem ev_chainG {R1 R0 R3 : Rr M.fp} {r r' : R2} {p q : Bool} (h1 : ∀ Z H x y, Same Z H → R1.r Z H x → R0.r Z H y → ∀ Q : VK, Q (.bl p) H → r x y H Q) (h2 : ∀ Z H x y, Same Z H → R0.r Z H x → R3.r Z H y → ∀ Q : VK, Q (.bl q) H → r' x y H Q)
    (ha : Ev M ta σ Z H s R1 s1) (hb : Ev M tb σ Z H s1 R0 s1) (hc : Ev M tc σ Z H s1 R3 s1) : Ev M (tChain r r' ta tb tc) σ Z H s (ty yBool (p && q)) s1 :=
  fun Z1 H1 a b c d Q k => ha Z1 H1 a b c d _ fun v Z2 H2 e m rv => hb Z2 H2 (a.trans e.z) (b.trans e.h) e.s m _ fun w Z3 H3 e2 m2 rw => by
    have e3 := e.trans e2
    refine h1 Z3 H3 v w e2.s (R1.st e2 rv) rw _ ⟨p, rfl, ?_⟩
    cases p with
    | true => rw [if_pos rfl]; exact hc Z3 H3 (a.trans e3.z) (b.trans e3.h) e3.s m2 _ fun u Z4 H4 e4 m4 ru => h2 Z4 H4 w u e4.s (R0.st e4 rw) ru _ (k _ Z4 H4 (e3.trans e4) m4 rfl)
    | false => rw [if_neg Bool.false_ne_true]; exact k _ Z3 H3 e3 m2 rfl
/-- the third part is read only where the first two hold -/
theorem ev_chainB {i j : Int} {b : Bool} {o : Option Bool} {p r : Int → Int → Bool} (ha : Ev M ta σ Z H s (ty yInt i) s1) (hb : Ev M tb σ Z H s1 (ty yInt j) s1) (hc : p i j = true → ∀ y, o = some y → ∃ k, y = r j k ∧ Ev M tc σ Z H s1 (ty yInt k) s1) (h : (if p i j = true then o else some false) = some b) :
    Ev M (tChain (rI0 fun i j => .bl (p i j)) (rI0 fun i j => .bl (r i j)) ta tb tc) σ Z H s (ty yBool b) s1 := by
  cases hp : p i j with
  | false =>
    rw [if_neg (by rw [hp]; exact Bool.false_ne_true)] at h
    have hb' := Option.some.inj h
    subst hb'
    intro Z1 H1 a b c d Q q
    exact ha Z1 H1 a b c d _ fun v Z2 H2 e m rv => hb Z2 H2 (a.trans e.z) (b.trans e.h) e.s m _ fun w Z3 H3 e2 m2 rw => ⟨i, j, rv, rw, p i j, rfl, by
      rw [hp, if_neg Bool.false_ne_true]
      exact q _ Z3 H3 (e.trans e2) m2 rfl⟩
  | true =>
    rw [if_pos hp] at h
    obtain ⟨k, rfl, hk⟩ := hc hp b h
    have := ev_chainO (b := true) (o := none) (p := p) (r := r) ha hb (fun _ => hk)
    rw [hp, Bool.true_and] at this
    exact this
theorem ev_chainS {F G : Str → Str → Bool} {x y z : Str} (ha : Ev M ta σ Z H s (ty yStr x) s1) (hb : Ev M tb σ Z H s1 (ty yStr y) s1) (hc : Ev M tc σ Z H s1 (ty yStr z) s1) :
    Ev M (tChain (fun x y H Q => ∃ i j, x = .str i ∧ y = .str j ∧ Q (.bl (F i j)) H) (fun x y H Q => ∃ i j, x = .str i ∧ y = .str j ∧ Q (.bl (G i j)) H) ta tb tc) σ Z H s (ty yBool (F x y && G y z)) s1 :=
  ev_chainG (R1 := ty yStr x) (R0 := ty yStr y) (R3 := ty yStr z) (fun _ _ _ _ _ e1 e2 _ q => ⟨x, y, e1.1, e2.1, q⟩) (fun _ _ _ _ _ e1 e2 _ q => ⟨y, z, e1.1, e2.1, q⟩) ha hb hc
theorem ev_isB {x y : Bool} (ha : Ev M ta σ Z H s (ty yBool x) s1) (hb : Ev M tb σ Z H s1 (ty yBool y) s2) : Ev M (tOp rIsB ta tb) σ Z H s (ty yBool (decide (x = y))) s2 :=
  ev_op ha hb fun _ _ _ _ sz e1 e2 _ q => ⟨x, y, e1, e2, q _ _ _ (Step.refl sz) rfl⟩
theorem ev_notB {x y : Bool} (ha : Ev M ta σ Z H s (ty yBool x) s1) (hb : Ev M tb σ Z H s1 (ty yBool y) s2) : Ev M (tOp rNotB ta tb) σ Z H s (ty yBool (!decide (x = y))) s2 :=
  ev_op ha hb fun _ _ _ _ sz e1 e2 _ q => ⟨x, y, e1, e2, q _ _ _ (Step.refl sz) rfl⟩
theorem all_nil {α : Type} {R : V → α → Prop} {vs : List V} {xs : List α} (h : All R vs xs) (e : vs = []) : xs = [] := by
  cases h with
  | nil => rfl
  | cons _ _ => cases e
theorem ev_catT {α : Type} {τ : Ty α} {xs ys : List α} (ha : Ev M ta σ Z H s (ty (yTup K τ) xs) s1) (hb : Ev M tb σ Z H s1 (ty (yTup K τ) ys) s2) (l : xs.length + ys.length ≤ sizeLine) : Ev M (tOp (rCatA K) ta tb) σ Z H s (ty (yTup K τ) (xs ++ ys)) s2 :=
  ev_op ha hb fun Z H v w sz ⟨a, vs, e1, h1, t1, l1⟩ ⟨b, ws, e2, h2, t2, l2⟩ _ q =>
    ⟨a, b, vs, ws, e1, e2, seqT_same sz h1, seqT_same sz h2, by rw [t1.len, t2.len]; exact l,
      fun e => q _ _ _ (Step.refl sz) ⟨b, ws, rfl, h2, by rw [all_nil t1 e]; exact t2, by rw [all_nil t1 e]; exact l2⟩,
      fun _ e => q _ _ _ (Step.refl sz) ⟨a, vs, rfl, h1, by rw [all_nil t2 e, List.append_nil]; exact t1, by rw [all_nil t2 e, List.append_nil]; exact l1⟩,
      fun _ _ p hp => q _ _ _ (Step.new sz hp) ⟨p, _, rfl, sqT_new, (t1.app t2).imp fun _ _ => τ.mono (same_upd (same_none sz hp)), by rw [List.length_append]; exact l⟩⟩
theorem ev_ord {x : Str} (ha : Ev M ta σ Z H s (ty yStr x) s1) (l : x.length = 1) : Ev M (tCB (fun xs H Q => ∃ x, xs = [.str x] ∧ x.length = 1 ∧ Q (.int (x.cps.getD 0 0 : Nat)) H) (tCons ta tNil)) σ Z H s (ty yInt ((x.cps.getD 0 0 : Nat) : Int)) s1 :=
  ev_cb (eva_cons ha eva_nil) fun _ _ vs sz ⟨v, r, e, h, e2⟩ Q q => ⟨x, by rw [e, h.1, show r = [] from e2], l, q _ _ _ (Step.refl sz) rfl⟩
/-- == and != of an instance by its own == with anything -/
theorem ev_ownE {α : Type} {τ : Ty α} {x : α} {R0 : Rr M.fp} {C : Addr} {t : Value} {sp : Sp} {E : XK} {b neg : Bool} (O : ∀ Z v x, τ.r Z v x → ∃ a dx fs, v = .ref a ∧ Z a = some (.ins C dx fs)) (tx : ∀ Z H v, Same Z H → R0.r Z H v → TyX K H v t) (hn : PySem.W.notFirst K C t = true)
    (c : CallS M sp E (rac (ty τ x) (rac R0 ra0)) s2 (ty yBool b) s3) (ha : Ev M ta σ Z H s (ty τ x) s1) (hb : Ev M tb σ Z H s1 R0 s2) : Ev M (tOp (TPN.rOwnE K C neg sp E) ta tb) σ Z H s (ty yBool (b != neg)) s3 :=
  fun Z1 H1 a' b' c' d' Q q => ha Z1 H1 a' b' c' d' _ fun v Z2 H2 e m rv => hb Z2 H2 (a'.trans e.z) (b'.trans e.h) e.s m _ fun w Z3 H3 e2 m2 rw => by
    have rv3 := τ.mono e2.z rv
    obtain ⟨p, dx, fs, rfl, hp⟩ := O _ _ _ rv3
    exact ⟨p, dx, fs, t, rfl, e2.s _ _ hp, tx _ _ _ e2.s rw, hn, c Z3 H3 _ e2.s m2 ⟨_, _, rfl, rv3, _, _, rfl, rw, rfl⟩ _ fun u Z4 H4 e3 m3 ru => ⟨b, ru, q _ Z4 H4 ((e.trans e2).trans e3) m3 rfl⟩⟩
/-- the class of what may be None -/
def clsO {α : Type} (c : Value) : Option α → Value
  | none => .type "NoneType"
  | some _ => c
theorem tx_opt {fp : List Addr} {α : Type} {τ : Ty α} {c : Value} (h : ∀ (x : α) Z H v, Same Z H → (ty (fp := fp) τ x).r Z H v → TyX K H v c) {x : Option α} : ∀ Z H v, Same Z H → (ty (fp := fp) (yOpt τ) x).r Z H v → TyX K H v (clsO c x) := fun Z H v sz e => match x, e with
  | none, e => by rw [show v = .non from e]; exact .base .non
  | some y, e => h y Z H v sz e.1
theorem tx_non {fp : List Addr} {x : Unit} : ∀ Z H v, Same Z H → (ty (fp := fp) yNon x).r Z H v → TyX K H v (.type "NoneType") := fun _ _ _ _ h => by rw [show _ = V.non from h]; exact .base .non
theorem kit_opt {α : Type} {c t : Value} {b : Bool} (h0 : PySem.W.kitOne K (.type "NoneType") t = some false) (h1 : PySem.W.kitOne K c t = some b) (x : Option α) : PySem.W.kitOne K (clsO c x) t = some (x.isSome && b) := match x with
  | none => h0
  | some _ => h1
theorem nf_opt {α : Type} {C : Addr} {c : Value} (h0 : PySem.W.notFirst K C (.type "NoneType") = true) (h1 : PySem.W.notFirst K C c = true) (x : Option α) : PySem.W.notFirst K C (clsO c x) = true := match x with
  | none => h0
  | some _ => h1
def optEqO {α : Type} (f : α → Option α → Option Bool) : Option α → Option α → Option Bool
  | none, none => some true
  | none, some y => f y none
  | some x, y => f x y
theorem ev_optE {α : Type} {τ : Ty α} {a b : Option α} {r : Bool} {f : α → Option α → Option Bool} {C : Addr} {t : Option α → Value} {sp : Sp} {E : XK} (h : optEqO f a b = some r) (O : ∀ Z v x, τ.r Z v x → ∃ a dx fs, v = .ref a ∧ Z a = some (.ins C dx fs))
    (tx : ∀ (y : Option α) Z H v, Same Z H → (ty (fp := M.fp) (yOpt τ) y).r Z H v → TyX K H v (t y)) (hn : ∀ y, PySem.W.notFirst K C (t y) = true) (c : ∀ x y r, f x y = some r → CallS M sp E (rac (ty τ x) (rac (ty (yOpt τ) y) ra0)) s2 (ty yBool r) s2)
    (ha : Ev M ta σ Z H s (ty (yOpt τ) a) s1) (hb : Ev M tb σ Z H s1 (ty (yOpt τ) b) s2) : Ev M (tOp (TPN.rOptE K C sp E) ta tb) σ Z H s (ty yBool r) s2 :=
  fun Z1 H1 a' b' c' d' Q q => ha Z1 H1 a' b' c' d' _ fun v Z2 H2 e m rv => hb Z2 H2 (a'.trans e.z) (b'.trans e.h) e.s m _ fun w Z3 H3 e2 m2 rw => by
    have rv3 := (yOpt τ).mono e2.z rv
    match a, b, h, rv3, rw with
    | none, none, h, rv3, rw => exact .inl ⟨rv3, rw, q _ Z3 H3 (e.trans e2) m2 (congrArg V.bl (Option.some.inj h))⟩
    | none, some y, h, rv3, rw =>
      obtain ⟨p, dx, fs, rfl, hp⟩ := O _ _ _ rw.1
      exact .inr (.inl ⟨rv3, ⟨p, dx, fs, rfl, e2.s _ _ hp⟩, c y none r h Z3 H3 _ e2.s m2 ⟨_, _, rfl, rw.1, _, _, rfl, rv3, rfl⟩ _ fun u Z4 H4 e3 m3 ru => ⟨r, ru, q _ Z4 H4 ((e.trans e2).trans e3) m3 rfl⟩⟩)
    | some x, y, h, rv3, rw =>
      obtain ⟨p, dx, fs, rfl, hp⟩ := O _ _ _ rv3.1
      exact .inr (.inr ⟨p, dx, fs, t y, rfl, e2.s _ _ hp, tx _ _ _ _ e2.s rw, hn y, c x y r h Z3 H3 _ e2.s m2 ⟨_, _, rfl, rv3.1, _, _, rfl, rw, rfl⟩ _ fun u Z4 H4 e3 m3 ru => ⟨r, ru, q _ Z4 H4 ((e.trans e2).trans e3) m3 (by rw [show (r != false) = r by cases r <;> rfl]; exact rfl)⟩⟩)
end
end TP

namespace TP
open PySem PySem.Spec PyProof.Rows L2
/-! ### a list that never changes, or a tuple -/
def iSeq (K : PySem.W.Frag) (tl : TE) : TI := fun σ H R => tl σ H fun x H1 => (∃ a, x = .ref a ∧ (∃ xs, SqL K H1 a xs) ∧ R (Itl K a) H1) ∨ (∃ a, x = .ref a ∧ (∃ xs, SqT K H1 a xs) ∧ R (Itt K a) H1)
theorem pi_seq {X : Cx} {tg l : Expr} {tl : TE} (hl : PE X l tl) : PI X tg l (iSeq X.K tl) := by
  refine ⟨fun pins s σ H R I h => ?_⟩
  refine thn (hl.run pins s σ H _ I h) fun v s1 ⟨x, H1, I1, r1, q1⟩ => ?_
  rcases q1 with q1 | q1
  · obtain ⟨a, e, ⟨xs, hq⟩, q⟩ := q1
    subst e
    cases r1
    obtain ⟨its, rv, p, hz⟩ := I1.list hq
    refine wpAny_pyIter_list p.isList ?_
    refine ⟨s1.heap.objs.size, [s1.heap.objs.size], _, _, H1, rfl, I1.kept (t' := s1.toks) fun b o e => Heap.get?_push_of_some _ e, turn_list a _, ⟨_, Heap.get?_push_size _ rfl, rfl, rfl⟩, fun b hb => ?_, q⟩
    have e : b = s1.heap.objs.size := by simpa using hb
    subst e
    exact I1.fpOk (Nat.le_refl _) (I1.hok.fresh (Nat.le_refl _))
  · obtain ⟨a, e, ⟨xs, hq⟩, q⟩ := q1
    subst e
    cases r1
    obtain ⟨its, rv, p, hz⟩ := I1.tuple hq
    refine wpAny_pyIter_tuple (show s1.heap.IsTuple a its.toArray from p) ?_
    refine ⟨s1.heap.objs.size, [s1.heap.objs.size], _, _, H1, rfl, I1.kept (t' := s1.toks) fun b o e => Heap.get?_push_of_some _ e, turn_tuple a _, ⟨_, Heap.get?_push_size _ rfl, rfl, rfl⟩, fun b hb => ?_, q⟩
    have e : b = s1.heap.objs.size := by simpa using hb
    subst e
    exact I1.fpOk (Nat.le_refl _) (I1.hok.fresh (Nat.le_refl _))
theorem pi_seqB {X : Cx} {K : PySem.W.Frag} (hK : X.K = K) {tg l : Expr} {tl : TE} (hl : PE X l tl) : PI X tg l (iSeq K tl) := by
  subst hK
  exact pi_seq hl
section
variable {K : PySem.W.Frag} {α : Type}
def ySeq (K : PySem.W.Frag) (τ : Ty α) : Ty (List α) := ⟨fun Z v xs => ∃ a vs, v = .ref a ∧ (Z a = some (.lst vs) ∨ SqT K Z a vs) ∧ All (τ.r Z) vs xs ∧ xs.length ≤ sizeLine,
  fun s ⟨a, vs, e, h, t, l⟩ => ⟨a, vs, e, h.imp (fun h => s _ _ h) (seqT_same s), t.imp fun _ _ => τ.mono s, l⟩⟩
theorem nn_seq {τ : Ty α} : NonNil (ySeq K τ) := fun _ _ _ ⟨_, _, e, _⟩ => by rw [e]; exact fun z => nomatch z
section
variable {μ : Type} {M : Mu μ} {σ : L2.St} {Z H : Hp} {s s1 : μ} {ta : TE} {τ : Ty α} {xs : List α} {X : Hp → Hp → Prop}
theorem ev_seqL (h : Ev M ta σ Z H s (ty (yList τ) xs) s1) : Ev M ta σ Z H s (ty (ySeq K τ) xs) s1 := h.weak fun _ _ _ _ ⟨a, vs, e, h, t, l⟩ => ⟨a, vs, e, .inl h, t, l⟩
theorem ev_seqT (h : Ev M ta σ Z H s (ty (yTup K τ) xs) s1) : Ev M ta σ Z H s (ty (ySeq K τ) xs) s1 := h.weak fun _ _ _ _ ⟨a, vs, e, h, t, l⟩ => ⟨a, vs, e, .inr h, t, l⟩
theorem ei_seq (ha : Ev M ta σ Z H s (ty (ySeq K τ) xs) s1) : EvI M X (iSeq K ta) σ Z H s τ xs s1 :=
  fun Z1 H1 a b c d R q => ha Z1 H1 a b c d _ fun v Z2 H2 e m ⟨p, vs, ev, h, t, l⟩ => by
    subst ev
    rcases h with h | h
    · exact .inl ⟨p, rfl, ⟨vs, SqL.of (e.s _ _ h)⟩, q _ Z2 H2 e m (walk_at walk_list (fun Z' H' z sz _ => SqL.of (sz _ _ (z _ _ h))) t l)⟩
    · exact .inr ⟨p, rfl, ⟨vs, seqT_same e.s h⟩, q _ Z2 H2 e m (walk_at walk_tup (fun Z' H' z sz _ => seqT_same sz (seqT_same z h)) t l)⟩
theorem ev_lenS {r : List V → Hp → VK → Prop} (hr : ∀ xs H Q, (∃ p ys, xs = [.ref p] ∧ (SqL K H p ys ∨ SqT K H p ys) ∧ Q (.int ys.length) H) → r xs H Q) (ha : Ev M ta σ Z H s (ty (ySeq K τ) xs) s1) : Ev M (tCB r (tCons ta tNil)) σ Z H s (ty yInt (xs.length : Nat)) s1 :=
  ev_cb (eva_cons ha eva_nil) fun _ _ _ sz ⟨v, r, e, h, e2⟩ _ q => by
    cases e2; cases e
    obtain ⟨p, vs, rfl, g, t, _⟩ := h
    exact hr _ _ _ ⟨p, vs, rfl, g.imp (fun g => SqL.of (sz _ _ g)) (seqT_same sz), by rw [t.len]; exact q _ _ _ (Step.refl sz) rfl⟩
theorem en_list_ofS {r : List V → Hp → VK → Prop} (hr : ∀ xs H Q, (∃ p ys, xs = [.ref p] ∧ (SqL K H p ys ∨ SqT K H p ys) ∧ ∀ l, H l = none → Q (.ref l) (upd H l (.lst ys))) → r xs H Q) (ha : Ev M ta σ Z H s (ty (ySeq K τ) xs) s1) : EvN M (tCB r (tCons ta tNil)) σ Z H s τ xs s1 :=
  en_cb (eva_cons ha eva_nil) fun _ _ _ sz ⟨v, r, e, h, e2⟩ => by
    cases e2; cases e
    obtain ⟨p, vs, rfl, g, t, l⟩ := h
    exact ⟨vs, t, l, fun Q q => hr _ _ _ ⟨p, vs, rfl, g.imp (fun g => SqL.of (sz _ _ g)) (seqT_same sz), q⟩⟩
theorem ev_tuple_ofS {r : List V → Hp → VK → Prop} (hr : ∀ xs H Q, (∃ p ys, xs = [.ref p] ∧ ((SqL K H p ys ∧ ∀ l, H l = none → Q (.ref l) (upd H l (.tup ys))) ∨ (SqT K H p ys ∧ Q (.ref p) H))) → r xs H Q) (ha : Ev M ta σ Z H s (ty (ySeq K τ) xs) s1) : Ev M (tCB r (tCons ta tNil)) σ Z H s (ty (yTup K τ) xs) s1 :=
  ev_cb (eva_cons ha eva_nil) fun _ _ _ sz ⟨v, r, e, h, e2⟩ _ q => by
    cases e2; cases e
    obtain ⟨p, vs, rfl, g, t, l⟩ := h
    rcases g with g | g
    · exact hr _ _ _ ⟨p, vs, rfl, .inl ⟨SqL.of (sz _ _ g), fun d hd => q _ _ _ (Step.new sz hd) ⟨d, vs, rfl, sqT_new, t.imp fun _ _ => τ.mono (same_upd (same_none sz hd)), l⟩⟩⟩
    · exact hr _ _ _ ⟨p, vs, rfl, .inr ⟨seqT_same sz g, q _ _ _ (Step.refl sz) ⟨p, vs, rfl, g, t, l⟩⟩⟩
end
end
end TP

namespace TP
open PySem PySem.Spec PyProof.Rows L2
/-- a list grows by a tuple's items -/
def rExtS (K : PySem.W.Frag) : V → List V → Hp → VK → Prop := fun x vs H Q => ∃ l b xs zs, x = .ref l ∧ vs = [.ref b] ∧ H l = some (.lst xs) ∧ SqT K H b zs ∧ xs.length + zs.length ≤ sizeLine ∧ Q .non (upd H l (.lst (xs ++ zs)))
open PySem.AutoSeq1 in
theorem ext_tup (l b : Addr) (xs ys : Array Value) (n m : Nat) (dd : Option Addr) (sl : Array (Option Value)) (k0 : ¬ (!xs.isEmpty && Builtin.List.listTooLong (xs.size + ys.size)) = true) (k1 : xs.size ≤ sizeLine) (k2 : xs.size + ys.size ≤ sizeLine + 1) :
    Meets (Builtin.«list.extend» ⟨[.ref l, .ref b], []⟩) (fun _ R s => (s.heap.get? b = some ⟨.type "tuple", dd, .seq ys m, sl⟩ ∧ s.heap.get? l = some ⟨.type "list", none, .seq xs n, #[]⟩) ∧
      R (.ok (.ret Value.none)) { s with heap := s.heap.update l (Obj.mapSeq fun z => z ++ ys), toks := s.toks }) :=
  .of_wp fun prog w A R s ⟨⟨gb, gl⟩, q⟩ => by
    obtain ⟨hp, ge, dr, tk, os⟩ := s
    have s1 := PySem.AutoSeq1.idx_int
    have s2 := PySem.AutoSeq1.sub_list_list
    have s3 := PySem.AutoSeq1.sub_tuple_list
    have s4 := PySem.AutoSeq1.sub_tuple_tuple
    have s5 := PySem.AutoSeq1.sub_list_tuple
    have tot : (xs ++ ys).size ≤ sizeLine + 1 := by simpa [Array.size_append] using k2
    wp_walk using (wpAny_updateSeq gl rfl (hz := k1) (_hz' := tot)), wpAny_loadPart' gl, wpAny_loadPart' gb
    exact ⟨_, rfl, q⟩
theorem mt_extendT {X : Cx} : MtM X "list.extend" (rExtS X.K) := by
  intro pins s σ H x vs v us Q I rx rv g
  obtain ⟨l, b, xs, zs, rfl, rfl, gl, gb, gz, q⟩ := g
  cases rx
  obtain ⟨u, rfl, ru⟩ := rv.one
  cases ru
  obtain ⟨_, its, n, r, _, e⟩ := I.lstM gl
  obtain ⟨js, r2, ⟨⟨oc, od, ot, os⟩, e2, e3, m, e4⟩, _⟩ := I.tuple gb
  dsimp only at e3 e4
  subst e3 e4
  have k1 := r.length
  have k2 := r2.length
  have fits : its.toArray.size + js.toArray.size ≤ sizeLine := by
    rw [List.size_toArray, List.size_toArray]
    omega
  have open_ : ¬ (!its.toArray.isEmpty && Builtin.List.listTooLong (its.toArray.size + js.toArray.size)) = true := by
    rw [notLongL fits, Bool.and_false]
    decide
  refine call_meets F.slot_list_extend ⟨_, e, rfl⟩ F.entry_list_extend (F.args_list_extend_2 _ _) (ext_tup l b its.toArray js.toArray n m _ _ open_ (by omega) (by omega)) ⟨⟨e2, e⟩, .non, _, I.lset (its' := its ++ js) gl e (by simp) (r.append r2) (by rw [List.length_append]; omega), rfl, q⟩
section
variable {μ : Type} {S : List Addr} {Z0 H0 : Hp} {M : Mu μ} {σ : L2.St} {Z H : Hp} {s s1 s2 : μ} {ta tb te : TE} {K : PySem.W.Frag} {D : Ends} {α : Type} {τ : Ty α} {xs ys : List α} {p : Addr}
theorem st_extendT {i : Nat} (P : Pt S Z0 H0 M Z H s) (o : Own S H0 M.fp Z H τ p xs) (hσ : σ[i]? = some (some (.ref p))) (e : Ev M te σ Z H s (ty (yTup K τ) ys) s1) (l : xs.length + ys.length ≤ sizeLine)
    (k : ∀ Z1 H1, Step (p :: M.fp) Z H Z1 H1 → Pt S Z0 H0 M Z1 H1 s1 → Own S H0 M.fp Z1 H1 τ p (xs ++ ys) → D.nx σ H1) : tDrop (tBM K "list" (rExtS K) (tVar i) (tCons te tNil)) D σ H := by
  obtain ⟨vs, h, t⟩ := o.ex
  refine ⟨.ref p, hσ, .inl ⟨rfl, _, .inl (.inl h)⟩, e Z H (Same.refl _) SameX.refl P.sub P.m _ fun v Z1 H1 e m ⟨q, ws, ev, hq, t2, _⟩ => ?_⟩
  subst ev
  have o1 := o.next e
  have P1 := P.next e m
  refine ⟨p, q, vs, ws, rfl, rfl, e.h _ _ o.n h, seqT_same e.s hq, by rw [t.len, t2.len]; exact l, ?_⟩
  exact k _ _ (step2 e o1.z) (P1.set o1.z o.n (.inr o.mine)) ⟨⟨_, upd_same, (t.imp fun _ _ => τ.mono e.z).app t2⟩, o1.z, o.n, o.mine, by rw [List.length_append]; exact l⟩
/-- a sign of a text -/
def atSi (x : Str) (i : Int) : Option Str := (atI x.cps.toList i).map fun c => ⟨#[c]⟩
theorem ev_ixS {x y : Str} {i : Int} (ha : Ev M ta σ Z H s (ty yStr x) s1) (hb : Ev M tb σ Z H s1 (ty yInt i) s2) (e : atSi x i = some y) : Ev M (tOp rIxS ta tb) σ Z H s (ty yStr y) s2 :=
  ev_op ha hb fun _ _ _ _ sz e1 e2 _ q => by
    obtain ⟨c, hc, rfl⟩ := Option.map_eq_some_iff.mp e
    have ok := (show (PyData.strOk x && decide (x.length ≤ sizeLine)) = true from e1.2)
    rw [Bool.and_eq_true] at ok
    refine ⟨x, i, c, e1.1, e2, of_decide_eq_true ok.2, hc, q _ _ _ (Step.refl sz) ⟨rfl, ?_⟩⟩
    show (PyData.strOk ⟨#[c]⟩ && decide ((⟨#[c]⟩ : Str).length ≤ sizeLine)) = true
    have h1 : c ∈ x.cps.toList := by
      unfold atI at hc
      obtain ⟨j, _, hj⟩ := Option.bind_eq_some_iff.mp hc
      exact List.mem_of_getElem? hj
    have h2 := ok.1
    unfold PyData.strOk at h2 ⊢
    rw [Array.all_eq_true_iff_forall_mem] at h2
    rw [Bool.and_eq_true]
    refine ⟨?_, by show decide (1 ≤ sizeLine) = true; decide⟩
    simpa using h2 c (by simpa using h1)
end
end TP

namespace TP
open PySem PySem.Spec PyProof.Rows L2
/-! ### things that change: products -/
def muX {α β : Type} (A : Mu α) (B : Mu β) : Mu (α × β) where
  fp := A.fp ++ B.fp
  m := fun s Z H => A.m s.1 Z H ∧ B.m s.2 Z H ∧ ∀ a ∈ A.fp, a ∉ B.fp
  al := fun ⟨h, g, _⟩ a ha => by
    rcases List.mem_append.mp ha with ha | ha
    · exact A.al h a ha
    · exact B.al g a ha
  loc := fun sz hk hn ⟨h, g, d⟩ => ⟨A.loc sz (fun a ha => hk a (List.mem_append_left _ ha)) (fun a ha => hn a (List.mem_append_left _ ha)) h, B.loc sz (fun a ha => hk a (List.mem_append_right _ ha)) (fun a ha => hn a (List.mem_append_right _ ha)) g, d⟩
theorem Mu.keep {μ : Type} {N : Mu μ} {s : μ} {F : List Addr} {Z H Z' H' : Hp} (m : N.m s Z H) (e : Step F Z H Z' H') (d : ∀ a ∈ N.fp, a ∉ F) : N.m s Z' H' :=
  N.loc e.z (fun a ha o h => e.h a o (d a ha) h) (fun a _ h z => e.n a h z) m
section
variable {μ ν ι : Type} {S : List Addr} {Z0 H0 : Hp} {M : Mu μ} {N : Mu ν} {σ : L2.St} {Z H : Hp} {s s' s1 s2 s3 : μ} {c c' : ν} {ta tb tc te : TE} {t : TA} {K : PySem.W.Frag} {D : Ends}
/-- the attribute f of the thing at p -/
def MFld {α : Type} (N : Mu ν) (p C : Addr) (f : Str) (τ : Ty α) (pr : ν → α) : Prop := ∀ c Z H, N.m c Z H → ∃ dx fs w, H p = some (.ins C dx fs) ∧ fs.lookup f = some w ∧ τ.r Z w (pr c)
theorem ev_mfld {α : Type} {τ : Ty α} {p C : Addr} {f : Str} {pr : ν → α} {i : Nat} (hm : ∀ Z H, M.m s Z H → N.m c Z H) (F : MFld N p C f τ pr) (cl : Cls K C) (n : NoAttr K C f) (e : σ[i]? = some (some (.ref p))) : Ev M (tFld K (tVar i) f) σ Z H s (ty τ (pr c)) s :=
  fun Z1 H1 _ _ c' d Q q => ⟨_, e, by
    obtain ⟨dx, fs, w, hp, l, r⟩ := F c Z1 H1 (hm Z1 H1 d)
    exact ⟨p, C, dx, fs, w, rfl, hp, cl, n, l, q w Z1 H1 (Step.refl c') d r⟩⟩
/-- the attribute f is itself a thing that changes, at q -/
def MRef (N : Mu ν) (p C : Addr) (f : Str) (q : Addr) : Prop := ∀ c Z H, N.m c Z H → ∃ dx fs, H p = some (.ins C dx fs) ∧ fs.lookup f = some (.ref q)
theorem ev_mref {p C q : Addr} {f : Str} {i : Nat} (hm : ∀ Z H, M.m s Z H → N.m c Z H) (F : MRef N p C f q) (cl : Cls K C) (n : NoAttr K C f) (e : σ[i]? = some (some (.ref p))) : Ev M (tFld K (tVar i) f) σ Z H s (isRef q) s :=
  fun Z1 H1 _ _ c' d Q k => ⟨_, e, by
    obtain ⟨dx, fs, hp, l⟩ := F c Z1 H1 (hm Z1 H1 d)
    exact ⟨p, C, dx, fs, _, rfl, hp, cl, n, l, k _ Z1 H1 (Step.refl c') d rfl⟩⟩
/-- the thing at p is an instance of the class at C without an own attribute m -/
def MObj (N : Mu ν) (p C : Addr) (m : Str) : Prop := ∀ c Z H, N.m c Z H → ∃ dx fs, H p = some (.ins C dx fs) ∧ fs.lookup m = none
theorem ev_mmeth {p C' : Addr} {m : Str} {sp : Sp} {E : XK} {Rs : Ra M.fp} {R : Rr M.fp} (hm : ∀ Z H, M.m s1 Z H → N.m c Z H) (O : MObj N p C' m) (cs : CallS M sp E (rac (isRef p) Rs) s2 R s3) (hx : Ev M ta σ Z H s (isRef p) s1) (ha : EvA M t σ Z H s1 Rs s2) : Ev M (tMeth C' m sp [] E ta t) σ Z H s R s3 :=
  fun Z1 H1 a b c' d Q q => hx Z1 H1 a b c' d _ fun v Z2 H2 e mm rv => by
    obtain ⟨dx, fs, hp, l⟩ := O _ Z2 H2 (hm Z2 H2 mm)
    have ev : v = .ref p := rv
    subst ev
    refine ⟨p, dx, fs, rfl, hp, l, ha Z2 H2 (a.trans e.z) (b.trans e.h) e.s mm _ fun vs Z3 H3 e2 m2 rs => ?_⟩
    rw [List.append_nil]
    exact cs Z3 H3 _ e2.s m2 ⟨_, vs, rfl, rfl, rs⟩ Q fun v Z4 H4 e3 m3 rv' => q v Z4 H4 ((e.trans e2).trans e3) m3 rv'
theorem ev_mprop {p C' : Addr} {m : Str} {sp : Sp} {E : XK} {R : Rr M.fp} (hm : ∀ Z H, M.m s1 Z H → N.m c Z H) (O : MObj N p C' m) (cs : CallS M sp E (rac (isRef p) ra0) s1 R s2) (hx : Ev M ta σ Z H s (isRef p) s1) : Ev M (tProp C' sp [] E ta) σ Z H s R s2 :=
  fun Z1 H1 a b c' d Q q => hx Z1 H1 a b c' d _ fun v Z2 H2 e mm rv => by
    obtain ⟨dx, fs, hp, l⟩ := O _ Z2 H2 (hm Z2 H2 mm)
    have ev : v = .ref p := rv
    subst ev
    exact ⟨p, dx, fs, rfl, hp, cs Z2 H2 _ e.s mm ⟨_, [], rfl, rfl, rfl⟩ Q fun v Z4 H4 e3 m3 rv' => q v Z4 H4 (e.trans e3) m3 rv'⟩
theorem eve_mmeth {p C' : Addr} {m : Str} {sp : Sp} {E : XK} {Rs : Ra M.fp} {cls : Value} (hm : ∀ Z H, M.m s1 Z H → N.m c Z H) (O : MObj N p C' m) (cs : CallE M sp E (rac (isRef p) Rs) s2 cls s3) (hx : Ev M ta σ Z H s (isRef p) s1) (ha : EvA M t σ Z H s1 Rs s2) : EvE M (tMeth C' m sp [] E ta t) σ Z H s (E cls none) s3 :=
  fun Z1 H1 a b c' d Q q => hx Z1 H1 a b c' d _ fun v Z2 H2 e mm rv => by
    obtain ⟨dx, fs, hp, l⟩ := O _ Z2 H2 (hm Z2 H2 mm)
    have ev : v = .ref p := rv
    subst ev
    refine ⟨p, dx, fs, rfl, hp, l, ha Z2 H2 (a.trans e.z) (b.trans e.h) e.s mm _ fun vs Z3 H3 e2 m2 rs => ?_⟩
    rw [List.append_nil]
    exact cs Z3 H3 _ e2.s m2 ⟨_, vs, rfl, rfl, rs⟩ Q fun Z4 H4 e3 m3 => q Z4 H4 ((e.trans e2).trans e3) m3
theorem eve_mmethA {p C' : Addr} {m : Str} {sp : Sp} {E : XK} {X : Hp → Prop} (hm : ∀ Z H, M.m s1 Z H → N.m c Z H) (O : MObj N p C' m) (hx : Ev M ta σ Z H s (isRef p) s1) (ha : EvAE M t σ Z H s1 X s2) : EvE M (tMeth C' m sp [] E ta t) σ Z H s X s2 :=
  fun Z1 H1 a b c' d Q q => hx Z1 H1 a b c' d _ fun v Z2 H2 e mm rv => by
    obtain ⟨dx, fs, hp, l⟩ := O _ Z2 H2 (hm Z2 H2 mm)
    have ev : v = .ref p := rv
    subst ev
    exact ⟨p, dx, fs, rfl, hp, l, ha Z2 H2 (a.trans e.z) (b.trans e.h) e.s mm _ fun Z3 H3 e2 m2 => q Z3 H3 (e.trans e2) m2⟩
/-- the attribute f is stored anew -/
def MSet {α : Type} (N : Mu ν) (p C : Addr) (f : Str) (τ : Ty α) (up : ν → α → ν) : Prop := ∀ c Z H, N.m c Z H → p ∈ N.fp ∧ Z p = none ∧ ∃ dx fs, H p = some (.ins C dx fs) ∧ fs.length < 1000 ∧ ∀ w x, τ.r Z w x → N.m (up c x) Z (upd H p (.ins C dx (putF f w fs)))
theorem st_mset {α : Type} {τ : Ty α} {x : α} {p C : Addr} {f : Str} {i : Nat} {up : ν → α → ν} {tv : TE} (P : Pt S Z0 H0 M Z H s) (hm : ∀ Z H, M.m s1 Z H → N.m c Z H) (hf : ∀ a ∈ N.fp, a ∈ M.fp) (hp : ∀ Z H Z' H', M.m s1 Z H → Step N.fp Z H Z' H' → N.m (up c x) Z' H' → M.m s2 Z' H')
    (F : MSet N p C f τ up) (cl : Cls K C) (n : NoAttr K C f) (hσ : σ[i]? = some (some (.ref p))) (e : Ev M tv σ Z H s (ty τ x) s1) (k : ∀ Z1 H1, Step M.fp Z H Z1 H1 → Pt S Z0 H0 M Z1 H1 s2 → D.nx σ H1) : sFld K (tVar i) tv f D σ H :=
  e Z H (Same.refl _) SameX.refl P.sub P.m _ fun v Z1 H1 e m r => by
    obtain ⟨pf, zp, dx, fs, h1, l, up'⟩ := F c Z1 H1 (hm Z1 H1 m)
    have m' := up' v x r
    have st : Step [p] Z1 H1 Z1 (upd H1 p (.ins C dx (putF f v fs))) := Step.set e.s zp
    have stN : Step N.fp Z1 H1 Z1 (upd H1 p (.ins C dx (putF f v fs))) := st.weak fun a ha => by rw [List.mem_singleton] at ha; rw [ha]; exact .inl pf
    have m2 := hp _ _ _ _ m stN m'
    have e2 := e.trans (stN.weak fun a ha => .inl (hf a ha))
    exact ⟨.ref p, hσ, p, C, dx, fs, rfl, h1, cl, n, l, k _ _ e2 (P.next e2 m2)⟩
/-- self.f += e of integers -/
theorem st_maug {p C : Addr} {f : Str} {i : Nat} {up : ν → Int → ν} {tv : TE} {pr : ν → Int} {b : Int} {g : Int → Int → Int} (P : Pt S Z0 H0 M Z H s) (hm : ∀ Z H, M.m s Z H → N.m c Z H) (hf : ∀ a ∈ N.fp, a ∈ M.fp) (hp : ∀ Z H Z' H', M.m s Z H → Step N.fp Z H Z' H' → N.m (up c (g (pr c) b)) Z' H' → M.m s2 Z' H')
    (F : MSet N p C f yInt up) (G : MFld N p C f yInt pr) (cl : Cls K C) (n : NoAttr K C f) (hσ : σ[i]? = some (some (.ref p))) (e : Ev M tv σ Z H s (ty yInt b) s) (k : ∀ Z1 H1, Step M.fp Z H Z1 H1 → Pt S Z0 H0 M Z1 H1 s2 → D.nx σ H1) : sFldAug K (tVar i) tv (ipI g) f D σ H := by
  obtain ⟨dx0, fs0, w, h0, l0, r0⟩ := G c Z H (hm Z H P.m)
  refine ⟨.ref p, hσ, p, C, dx0, fs0, w, rfl, h0, cl, n, l0, e Z H (Same.refl _) SameX.refl P.sub P.m _ fun v Z1 H1 e m r => ?_⟩
  obtain ⟨pf, zp, dx, fs, h1, l, up'⟩ := F c Z1 H1 (hm Z1 H1 m)
  refine ⟨pr c, b, r0, r, dx, fs, h1, l, ?_⟩
  have m' := up' (.int (g (pr c) b)) (g (pr c) b) rfl
  have st : Step [p] Z1 H1 Z1 (upd H1 p (.ins C dx (putF f (.int (g (pr c) b)) fs))) := Step.set e.s zp
  have stN : Step N.fp Z1 H1 Z1 (upd H1 p (.ins C dx (putF f (.int (g (pr c) b)) fs))) := st.weak fun a ha => by rw [List.mem_singleton] at ha; rw [ha]; exact .inl pf
  have m2 := hp _ _ _ _ m stN m'
  have e2 := e.trans (stN.weak fun a ha => .inl (hf a ha))
  exact k _ _ e2 (P.next e2 m2)
/-- a new thing that changes -/
def EvM (M : Mu μ) (t : TE) (σ : L2.St) (Z H : Hp) (s : μ) (N : ι → Mu ν) (pr : ι → Addr) (x : ν) (s' : μ) : Prop :=
  ∀ Z1 H1, Same Z Z1 → SameX M.fp H H1 → Same Z1 H1 → M.m s Z1 H1 → ∀ Q : VK, (∀ i Z2 H2, Step M.fp Z1 H1 Z2 H2 → M.m s' Z2 H2 → (∀ a ∈ (N i).fp, H1 a = none) → (N i).m x Z2 H2 → Q (.ref (pr i)) H2) → t σ H1 Q
/-- what the __init__ makes: a thing that changes -/
def InitM (M : Mu μ) (C : Addr) (sp : Sp) (E : XK) (Rs : Ra M.fp) (s : μ) (N : ι → Mu ν) (pr : ι → Addr) (x : ν) (s' : μ) : Prop :=
  ∀ Z H vs p dx, Same Z H → M.m s Z H → Rs.r Z H vs → H p = some (.ins C dx []) → Z p = none → p ∉ M.fp → ∀ Q : VK, (∀ i Z2 H2, pr i = p → Step (p :: M.fp) Z H Z2 H2 → M.m s' Z2 H2 → (∀ a ∈ (N i).fp, a = p ∨ H a = none) → (N i).m x Z2 H2 → Q .non H2) → sp (.ref p :: vs) H Q E
theorem ev_makeM {C : Addr} {sp : Sp} {E : XK} {Rs : Ra M.fp} {N : ι → Mu ν} {pr : ι → Addr} {x : ν} (I : InitM M C sp E Rs s1 N pr x s2) (ha : EvA M t σ Z H s Rs s1) : EvM M (tMake C sp [] E t) σ Z H s N pr x s2 :=
  fun Z1 H1 a b c d Q q => ha Z1 H1 a b c d _ fun vs Z2 H2 e m rs x' dx hx hd ne => by
    rw [List.append_nil]
    have st := Step.dict (C := C) e.s hx hd ne
    have nf : x' ∉ M.fp := fun h => (M.al m x' h).1 hx
    have back : ∀ a, upd (upd H2 dx (.own x')) x' (.ins C dx []) a = none → H2 a = none := fun a h => by
      cases q : H2 a with
      | none => rfl
      | some o => exact absurd h (st.al a (some_ne q))
    refine I Z2 _ vs x' dx st.s (M.pure st m) (Rs.st st.pure rs) upd_same (same_none e.s hx) nf _ fun i Z3 H3 ei e2 m2 fr mi => ⟨rfl, ?_⟩
    subst ei
    have e3 : Step M.fp Z2 H2 Z3 H3 := ((st.pure (S := pr i :: M.fp)).trans e2).weak fun a h => by
      rcases List.mem_cons.mp h with e | h
      · exact .inr (e ▸ hx)
      · exact .inl h
    exact q i Z3 H3 (e.trans e3) m2 (fun a ha => by
      rcases fr a ha with r | r
      · rw [r]; exact same_x e hx
      · exact same_x e (back a r)) mi
/-- it is called x from now on -/
theorem st_setM {N : ι → Mu ν} {pr : ι → Addr} {x : ν} {j : Nat} (P : Pt S Z0 H0 M Z H s) (e : EvM M te σ Z H s N pr x s1) (k : ∀ i Z1 H1, Step M.fp Z H Z1 H1 → (∀ a ∈ (N i).fp, H a = none) → Pt S Z0 H0 (muX M (N i)) Z1 H1 (s1, x) → D.nx (σ.set j (some (.ref (pr i)))) H1) : tAsg te (gName j) D σ H :=
  e Z H (Same.refl _) SameX.refl P.sub P.m _ fun i Z1 H1 e m fr mi => k i Z1 H1 e fr ⟨P.st.mine e P.mine, ⟨m, mi, fun a ha hb => (M.al P.m a ha).1 (fr a hb)⟩, fun a ha => by
    rcases List.mem_append.mp ha with ha | ha
    · exact P.mine a ha
    · exact .inr (same_x P.st (fr a ha))⟩
theorem Pt.left {N : Mu ν} {x : ν} (P : Pt S Z0 H0 (muX M N) Z H (s, x)) : Pt S Z0 H0 M Z H s := ⟨P.st, P.m.1, fun a ha => P.mine a (List.mem_append_left _ ha)⟩
theorem Own.grow {α : Type} {τ : Ty α} {xs : List α} {p : Addr} {F : List Addr} {Z1 H1 : Hp} (o : Own S H0 M.fp Z H τ p xs) (e : Step M.fp Z H Z1 H1) (fr : ∀ a ∈ F, H a = none) : Own S H0 (M.fp ++ F) Z1 H1 τ p xs := by
  have o1 := o.next e
  obtain ⟨vs, h, _⟩ := o.ex
  have nf : p ∉ F := fun hb => by
    rw [fr p hb] at h
    exact nomatch h
  exact ⟨o1.ex, o1.z, fun ha => (List.mem_append.mp ha).elim o.n nf, o1.mine, o1.l⟩
theorem Own.left {α : Type} {τ : Ty α} {xs : List α} {p : Addr} {F G : List Addr} (o : Own S H0 (F ++ G) Z H τ p xs) : Own S H0 F Z H τ p xs := ⟨o.ex, o.z, fun h => o.n (List.mem_append_left _ h), o.mine, o.l⟩
theorem Step.left {F G : List Addr} {Z H Z1 H1 : Hp} (e : Step F Z H Z1 H1) : Step (F ++ G) Z H Z1 H1 := e.weak fun a h => .inl (List.mem_append_left _ h)
theorem putF_ne {f g : Str} {v w : V} {r : List (Str × V)} (h : ¬ g = f) : putF f v ((g, w) :: r) = (g, w) :: putF f v r := by
  show (if g = f then (g, v) :: r else (g, w) :: putF f v r) = _
  rw [if_neg h]
theorem putF_eq {f : Str} {v w : V} {r : List (Str × V)} : putF f v ((f, w) :: r) = (f, v) :: r := by
  show (if f = f then (f, v) :: r else _) = _
  rw [if_pos rfl]
theorem putF_nil {f : Str} {v : V} : putF f v [] = [(f, v)] := rfl
end
end TP

namespace TP
open PySem PySem.Spec PyProof.Rows L2
/-- what never is reached -/
theorem ps_dead {X : Cx} {s : Stmt} : PS X s (fun _ _ _ => False) := ⟨fun _ _ _ _ _ _ h => h.elim⟩
theorem sl_tupW {X : Cx} : SlR X (rSlW X.K) := sl_tupA
/-- an expression that is read in one of two ways -/
theorem pe_or2 {X : Cx} {e : Expr} {t u : TE} (h : PE X e t) (g : PE X e u) : PE X e (fun σ H Q => t σ H Q ∨ u σ H Q) := ⟨fun pins s σ H Q I q => by
  rcases q with q | q
  · exact h.run pins s σ H Q I q
  · exact g.run pins s σ H Q I q⟩
def rOr (r r' : R2) : R2 := fun x y H Q => r x y H Q ∨ r' x y H Q
theorem op_or {X : Cx} {f : Value → Value → Sem Value} {r r' : R2} (h : OpR X f r) (h' : OpR X f r') : OpR X f (rOr r r') := fun pins s σ H x y v u Q I rx ry q => by
  rcases q with q | q
  · exact h pins s σ H x y v u Q I rx ry q
  · exact h' pins s σ H x y v u Q I rx ry q
def rImp (r r' : R2) : Prop := ∀ x y H Q, r x y H Q → r' x y H Q
theorem ri_self {r : R2} : rImp r r := fun _ _ _ _ h => h
theorem ri_l {r r' : R2} : rImp r (rOr r r') := fun _ _ _ _ h => .inl h
theorem ri_r {r r' r'' : R2} (h : rImp r r') : rImp r (rOr r'' r') := fun _ _ _ _ q => .inr (h _ _ _ _ q)
section
variable {μ : Type} {M : Mu μ} {σ : L2.St} {Z H : Hp} {s s1 s2 s3 : μ} {ta tb t u : TE} {K : PySem.W.Frag}
theorem ev_orl {R : Rr M.fp} (h : Ev M t σ Z H s R s1) : Ev M (fun σ H Q => t σ H Q ∨ u σ H Q) σ Z H s R s1 := fun Z1 H1 a b c d Q q => .inl (h Z1 H1 a b c d Q q)
theorem ev_orr {R : Rr M.fp} (h : Ev M u σ Z H s R s1) : Ev M (fun σ H Q => t σ H Q ∨ u σ H Q) σ Z H s R s1 := fun Z1 H1 a b c d Q q => .inr (h Z1 H1 a b c d Q q)
theorem ev_ownR {α : Type} {τ : Ty α} {x : α} {R0 : Rr M.fp} {C : Addr} {t : Value} {sp : Sp} {E : XK} {b neg : Bool} {r : R2} (hr : rImp (TPN.rOwnE K C neg sp E) r) (O : ∀ Z v x, τ.r Z v x → ∃ a dx fs, v = .ref a ∧ Z a = some (.ins C dx fs)) (tx : ∀ Z H v, Same Z H → R0.r Z H v → TyX K H v t) (hn : PySem.W.notFirst K C t = true)
    (c : CallS M sp E (rac (ty τ x) (rac R0 ra0)) s2 (ty yBool b) s3) (ha : Ev M ta σ Z H s (ty τ x) s1) (hb : Ev M tb σ Z H s1 R0 s2) : Ev M (tOp r ta tb) σ Z H s (ty yBool (b != neg)) s3 :=
  fun Z1 H1 a' b' c' d' Q q => ha Z1 H1 a' b' c' d' _ fun v Z2 H2 e m rv => hb Z2 H2 (a'.trans e.z) (b'.trans e.h) e.s m _ fun w Z3 H3 e2 m2 rw => by
    have rv3 := τ.mono e2.z rv
    obtain ⟨p, dx, fs, rfl, hp⟩ := O _ _ _ rv3
    exact hr _ _ _ _ ⟨p, dx, fs, t, rfl, e2.s _ _ hp, tx _ _ _ e2.s rw, hn, c Z3 H3 _ e2.s m2 ⟨_, _, rfl, rv3, _, _, rfl, rw, rfl⟩ _ fun u Z4 H4 e3 m3 ru => ⟨b, ru, q _ Z4 H4 ((e.trans e2).trans e3) m3 rfl⟩⟩
variable {fp : List Addr} {α β γ δ : Type} {τ : Ty α} {υ : Ty β} {φ : Ty γ} {ψ : Ty δ}
theorem tx_p1 {x : α} : ∀ Z H v, Same Z H → (ty (fp := fp) (yP1 K τ) x).r Z H v → TyX K H v (.type "tuple") := fun _ _ _ sz ⟨a, _, e, h, _⟩ => by subst e; exact tx_sqT (seqT_same sz h)
theorem tx_p4 {x : α × β × γ × δ} : ∀ Z H v, Same Z H → (ty (fp := fp) (yP4 K τ υ φ ψ) x).r Z H v → TyX K H v (.type "tuple") := fun _ _ _ sz ⟨a, _, _, _, _, e, h, _⟩ => by subst e; exact tx_sqT (seqT_same sz h)
end
end TP

namespace TP
open PySem PySem.Spec PyProof.Rows L2
/-! ### a value of one kind taken as one of another -/
section
variable {μ : Type} {M : Mu μ} {σ : L2.St} {Z H : Hp} {s s1 : μ} {te : TE} {K : PySem.W.Frag} {α β γ δ : Type} {τ : Ty α} {υ : Ty β} {φ : Ty γ} {ψ : Ty δ} {f : α → Option β} {g : γ → Option δ}
def CastO (τ : Ty α) (υ : Ty β) (f : α → Option β) : Prop := ∀ Z v x y, τ.r Z v x → f x = some y → υ.r Z v y
theorem ev_castK {x : α} {y : β} (c : CastO τ υ f) (h : Ev M te σ Z H s (ty τ x) s1) (e : f x = some y) : Ev M te σ Z H s (ty υ y) s1 := h.weak fun _ _ _ _ r => c _ _ _ _ r e
theorem cast_id : CastO τ τ some := fun _ _ _ _ h e => by
  have e := Option.some.inj e
  subst e
  exact h
theorem all_mapO {Z : Hp} (c : CastO τ υ f) {vs : List V} {xs : List α} (t : All (τ.r Z) vs xs) : ∀ {ys : List β}, mapO f xs = some ys → All (υ.r Z) vs ys ∧ ys.length = xs.length := by
  induction t with
  | nil => intro ys e; have e := Option.some.inj e; subst e; exact ⟨.nil, rfl⟩
  | cons h _ ih =>
    intro ys e
    obtain ⟨y, hy, e⟩ := Option.bind_eq_some_iff.mp e
    obtain ⟨zs, hz, e⟩ := Option.bind_eq_some_iff.mp e
    have e := Option.some.inj e
    subst e
    obtain ⟨a, l⟩ := ih hz
    exact ⟨.cons (c _ _ _ _ h hy) a, by rw [List.length_cons, List.length_cons, l]⟩
theorem cast_list (c : CastO τ υ f) : CastO (yList τ) (yList υ) (mapO f) := fun _ _ _ _ ⟨p, vs, e, h, t, l⟩ hf => by
  obtain ⟨a, b⟩ := all_mapO c t hf
  exact ⟨p, vs, e, h, a, by omega⟩
theorem cast_tup (c : CastO τ υ f) : CastO (yTup K τ) (yTup K υ) (mapO f) := fun _ _ _ _ ⟨p, vs, e, h, t, l⟩ hf => by
  obtain ⟨a, b⟩ := all_mapO c t hf
  exact ⟨p, vs, e, h, a, by omega⟩
theorem cast_p2 (c : CastO τ υ f) (d : CastO φ ψ g) : CastO (yP2 K τ φ) (yP2 K υ ψ) (fun x => (f x.1).bind fun a => (g x.2).bind fun b => some (a, b)) := fun _ _ _ _ ⟨p, v1, v2, e, h, h1, h2⟩ hf => by
  obtain ⟨y, hy, hf⟩ := Option.bind_eq_some_iff.mp hf
  obtain ⟨z, hz, hf⟩ := Option.bind_eq_some_iff.mp hf
  have e' := Option.some.inj hf
  subst e'
  exact ⟨p, v1, v2, e, h, c _ _ _ _ h1 hy, d _ _ _ _ h2 hz⟩
theorem tx_list {fp : List Addr} {x : List α} : ∀ Z H v, Same Z H → (ty (fp := fp) (yList τ) x).r Z H v → TyX K H v (.type "list") := fun _ _ _ sz ⟨a, vs, e, h, _⟩ => by subst e; exact .base (.lst (sz _ _ h))
end
end TP

/-! == and != of lists, tuples and instances with an own ==, with either outcome -/
namespace TPQ
open PySem PySem.SeqAt
open AutoSeq1 (wpAny_loadPart')
open MeetsSeq MeetsSeq2 MeetsSeq3 SeqRoads2
section
variable {prog : Program} {w : World} {A : Around} {R : Result → Shared → Prop} {E : Value → Shared → Prop}
/-- at each turn the two lists are read anew; the i-th two are equal as e i says -/
def ListB (prog : Program) (w : World) (A : Around) (E : Value → Shared → Prop) (l b : Addr) (N : Nat) (e : Nat → Bool) (I : Shared → Prop) : Prop :=
  ∀ s, I s → ∃ (items items2 : Array Value) (dd dd2 : Option Addr) (n n2 : Nat) (sl sl2 : Array (Option Value)), s.heap.get? l = some { cls := .type "list", dict := dd, data := .seq items n, slots := sl } ∧ s.heap.get? b = some { cls := .type "list", dict := dd2, data := .seq items2 n2, slots := sl2 } ∧ items.size = N ∧ items2.size = N ∧
    ∀ i (h1 : i < items.size) (h2 : i < items2.size), wpAny (model prog w) A.in1 (eqBool items[i] items2[i]) (fun r s' => r = e i ∧ I s') E s
set_option maxHeartbeats 2000000 in
theorem list_loop (neg : Bool) (l b : Addr) (N : Nat) (e : Nat → Bool) (I : Shared → Prop) (hl : ListB prog w A (fun e s' => R (.error e) s') l b N e I)
    (fin : ∀ s, I s → R (.ok (.ret (.bool ((List.range N).all e != neg)))) s) (k : Nat) :
    ∀ i : Nat, N - i = k → i ≤ N → (∀ j, j < i → e j = true) → ∀ s, I s →
      wpAny (model prog w) A.in1 (Builtin.«list.__eq__.loop» ⟨[.ref l, .ref b, rawInt i, rawInt (if neg then 3 else 2)], []⟩) (GQ.FinOf prog w A R) (fun e s' => R (.error e) s') s := by
  induction k with
  | zero =>
    intro i hk hi he s h
    obtain ⟨items, items2, dd, dd2, n, n2, sl, sl2, hl1, hb1, hs1, hs2, _⟩ := hl _ h
    have hi' : i = N := by omega
    subst hi'
    have hR := fin s h
    have ha : (List.range i).all e = true := by rw [List.all_eq_true]; exact fun j hj => he j (List.mem_range.mp hj)
    rw [ha] at hR
    have hi1 : items[((i : Nat) : Int).toNat]? = none := by simp; omega
    have hi2 : items2[((i : Nat) : Int).toNat]? = none := by simp; omega
    obtain ⟨hp, g, d, tk, os⟩ := s
    cases neg
    · rw [if_neg Bool.false_ne_true]
      wp_walk using wpAny_loadPart' hl1, wpAny_loadPart' hb1
      rw [hi1, hi2]
      wp_walk using wpAny_loadPart' hl1, wpAny_loadPart' hb1
      show R (.ok (.ret (.bool (items.size == items2.size)))) _
      rw [hs1, hs2]
      simpa using hR
    · rw [if_pos rfl]
      wp_walk using wpAny_loadPart' hl1, wpAny_loadPart' hb1
      rw [hi1, hi2]
      wp_walk using wpAny_loadPart' hl1, wpAny_loadPart' hb1
      show R (.ok (.ret (.bool (items.size != items2.size)))) _
      rw [hs1, hs2]
      simpa using hR
  | succ k ih =>
    intro i hk hi he s h
    obtain ⟨items, items2, dd, dd2, n, n2, sl, sl2, hl1, hb1, hs1, hs2, turn⟩ := hl _ h
    have hlt : i < items.size := by omega
    have hlt2 : i < items2.size := by omega
    have ht := turn i hlt hlt2
    have hi1 : items[((i : Nat) : Int).toNat]? = some items[i] := by simp [hlt]
    have hi2 : items2[((i : Nat) : Int).toNat]? = some items2[i] := by simp [hlt2]
    have hc : ((i : Int) + 1) = ((i + 1 : Nat) : Int) := by omega
    have go : e i = true → ∀ s2, I s2 → wpAny (model prog w) A.in1 (Builtin.«list.__eq__.loop» ⟨[.ref l, .ref b, rawInt ((i + 1 : Nat) : Int), rawInt (if neg then 3 else 2)], []⟩) (GQ.FinOf prog w A R) (fun e s' => R (.error e) s') s2 := fun ei s2 h2 =>
      ih (i + 1) (by omega) (by omega) (fun j hj => by
        rcases Nat.lt_or_ge j i with g | g
        · exact he j g
        · have : j = i := by omega
          rw [this]; exact ei) s2 h2
    have stop : e i = false → (List.range N).all e = false := fun ei => by
      cases q : (List.range N).all e with
      | false => rfl
      | true => rw [List.all_eq_true.mp q i (List.mem_range.mpr (by omega))] at ei; cases ei
    obtain ⟨hp, g, d, tk, os⟩ := s
    cases neg
    · rw [if_neg Bool.false_ne_true] at go ⊢
      wp_walk using wpAny_loadPart' hl1, wpAny_loadPart' hb1
      rw [hi1, hi2]
      refine wpAny_bind (wpAny_mono ht (fun r s2 h2 => ?_) fun _ _ x => x)
      obtain ⟨hr, h2⟩ := h2
      subst hr
      cases ei : e i with
      | true =>
        have hrec := go ei s2 h2
        obtain ⟨hp2, g2, d2, tk2, os2⟩ := s2
        wp_walk
        rw [hc]
        exact ⟨plainId_quiet plain_eq_loop _, codeAny_builtin entry_eq_loop (by
          rw [Around.under_plainId plain_eq_loop _]
          exact hrec)⟩
      | false =>
        have hR := fin s2 h2
        rw [stop ei] at hR
        obtain ⟨its, its2, _, _, m, m2, _, _, hl2, hb2, z1, z2, _⟩ := hl _ h2
        have ki1 : its[((i : Nat) : Int).toNat]? = some (its[i]'(by omega)) := by simp
        have ki2 : its2[((i : Nat) : Int).toNat]? = some (its2[i]'(by omega)) := by simp
        obtain ⟨hp2, g2, d2, tk2, os2⟩ := s2
        wp_walk using wpAny_loadPart' hl2, wpAny_loadPart' hb2
        rw [ki1, ki2]
        wp_walk
        simpa using hR
    · rw [if_pos rfl] at go ⊢
      wp_walk using wpAny_loadPart' hl1, wpAny_loadPart' hb1
      rw [hi1, hi2]
      refine wpAny_bind (wpAny_mono ht (fun r s2 h2 => ?_) fun _ _ x => x)
      obtain ⟨hr, h2⟩ := h2
      subst hr
      cases ei : e i with
      | true =>
        have hrec := go ei s2 h2
        obtain ⟨hp2, g2, d2, tk2, os2⟩ := s2
        wp_walk
        rw [hc]
        exact ⟨plainId_quiet plain_eq_loop _, codeAny_builtin entry_eq_loop (by
          rw [Around.under_plainId plain_eq_loop _]
          exact hrec)⟩
      | false =>
        have hR := fin s2 h2
        rw [stop ei] at hR
        obtain ⟨its, its2, _, _, m, m2, _, _, hl2, hb2, z1, z2, _⟩ := hl _ h2
        have ki1 : its[((i : Nat) : Int).toNat]? = some (its[i]'(by omega)) := by simp
        have ki2 : its2[((i : Nat) : Int).toNat]? = some (its2[i]'(by omega)) := by simp
        obtain ⟨hp2, g2, d2, tk2, os2⟩ := s2
        wp_walk using wpAny_loadPart' hl2, wpAny_loadPart' hb2
        rw [ki1, ki2]
        wp_walk
        simpa using hR
set_option maxHeartbeats 2000000 in
theorem list_cmp (neg : Bool) (l b : Addr) (N : Nat) (e : Nat → Bool) (I : Shared → Prop) (hl : ListB prog w A (fun e s' => R (.error e) s') l b N e I)
    (fin : ∀ s, I s → R (.ok (.ret (.bool ((List.range N).all e != neg)))) s) {s : Shared} (h : I s) :
    wpAny (model prog w) A.in1 ((if neg then Builtin.«list.__ne__» else Builtin.«list.__eq__») ⟨[.ref l, .ref b], []⟩) (GQ.FinOf prog w A R) (fun e s' => R (.error e) s') s := by
  obtain ⟨items, items2, dd, dd2, n, n2, sl, sl2, hl1, hb1, hs1, hs2, _⟩ := hl _ h
  have hrec := list_loop (A := A) (R := R) neg l b N e I hl fin _ 0 rfl (Nat.zero_le _) (fun j hj => absurd hj (Nat.not_lt_zero j)) s h
  obtain ⟨hp, g, d, tk, os⟩ := s
  have f3 := AutoSeq1.sub_list_list
  have hne : ¬ (items.size != items2.size) = true := by simp [hs1, hs2]
  cases neg
  · rw [if_neg Bool.false_ne_true] at hrec ⊢
    wp_walk using wpAny_loadPart' hl1, wpAny_loadPart' hb1
    exact ⟨plainId_quiet plain_eq_loop _, codeAny_builtin entry_eq_loop (by
      rw [Around.under_plainId plain_eq_loop _]
      exact hrec)⟩
  · rw [if_pos rfl] at hrec ⊢
    wp_walk using wpAny_loadPart' hl1, wpAny_loadPart' hb1
    exact ⟨plainId_quiet plain_eq_loop _, codeAny_builtin entry_eq_loop (by
      rw [Around.under_plainId plain_eq_loop _]
      exact hrec)⟩
set_option maxHeartbeats 2000000 in
theorem list_len (neg : Bool) (l b : Addr) (items items2 : Array Value) (dd dd2 : Option Addr) (n n2 : Nat) (sl sl2 : Array (Option Value)) (hne : (items.size != items2.size) = true) {s : Shared} (hl1 : s.heap.get? l = some { cls := .type "list", dict := dd, data := .seq items n, slots := sl }) (hb1 : s.heap.get? b = some { cls := .type "list", dict := dd2, data := .seq items2 n2, slots := sl2 })
    (fin : R (.ok (.ret (.bool neg))) s) :
    wpAny (model prog w) A.in1 ((if neg then Builtin.«list.__ne__» else Builtin.«list.__eq__») ⟨[.ref l, .ref b], []⟩) (GQ.FinOf prog w A R) (fun e s' => R (.error e) s') s := by
  obtain ⟨hp, g, d, tk, os⟩ := s
  have f3 := AutoSeq1.sub_list_list
  cases neg
  · rw [if_neg Bool.false_ne_true]
    wp_walk using wpAny_loadPart' hl1, wpAny_loadPart' hb1
    exact fin
  · rw [if_pos rfl]
    wp_walk using wpAny_loadPart' hl1, wpAny_loadPart' hb1
    exact fin
set_option maxHeartbeats 2000000 in
theorem tup_cmp (neg : Bool) (l b : Addr) (items items2 : Array Value) (n n2 : Nat) (dd dd2 : Option Addr) (sl sl2 : Array (Option Value)) (e : Nat → Bool) (I : Shared → Prop)
    (turn : ∀ i (h1 : i < items.size) (h2 : i < items2.size) s, I s → wpAny (model prog w) A.in1 (eqBool items[i] items2[i]) (fun r s' => r = e i ∧ I s') (fun e s' => R (.error e) s') s)
    (fin : ∀ s, I s → R (.ok (.ret (.bool (((List.range (min items.size items2.size)).all e && items.size == items2.size) != neg)))) s) {s : Shared} (hl1 : s.heap.get? l = some { cls := .type "tuple", dict := dd, data := .seq items n, slots := sl }) (hb1 : s.heap.get? b = some { cls := .type "tuple", dict := dd2, data := .seq items2 n2, slots := sl2 }) (h : I s) :
    wpAny (model prog w) A.in1 ((if neg then Builtin.«tuple.__ne__» else Builtin.«tuple.__eq__») ⟨[.ref l, .ref b], []⟩) (GQ.FinOf prog w A R) (fun e s' => R (.error e) s') s := by
  have f2 := AutoSeq1.sub_tuple_tuple
  have hZ : (items.toList.zip items2.toList).length = min items.size items2.size := by simp
  have h0 := h
  have stop : ∀ i, i < min items.size items2.size → e i = false → (List.range (min items.size items2.size)).all e = false := fun i hi ei => by
    cases q : (List.range (min items.size items2.size)).all e with
    | false => rfl
    | true => rw [List.all_eq_true.mp q i (List.mem_range.mpr hi)] at ei; cases ei
  have turn' : ∀ (y x : Value) (rest : List (Value × Value)) (i : Nat), (y, x) :: rest = (items.toList.zip items2.toList).drop i → i < min items.size items2.size ∧ rest = (items.toList.zip items2.toList).drop (i + 1) ∧ ∀ s, I s → wpAny (model prog w) A.in1 (eqBool y x) (fun r s' => r = e i ∧ I s') (fun e s' => R (.error e) s') s := fun y x rest i hz => by
    have hlt : i < (items.toList.zip items2.toList).length := by
      rcases Nat.lt_or_ge i (items.toList.zip items2.toList).length with h' | h'
      · exact h'
      · rw [List.drop_of_length_le h'] at hz; cases hz
    have hm : i < min items.size items2.size := hZ ▸ hlt
    have h1 : i < items.size := Nat.lt_of_lt_of_le hm (Nat.min_le_left _ _)
    have h2 : i < items2.size := Nat.lt_of_lt_of_le hm (Nat.min_le_right _ _)
    rw [List.drop_eq_getElem_cons hlt] at hz
    injection hz with hyx hrest
    have hy : y = items[i] := by have := congrArg Prod.fst hyx; simpa using this
    have hx : x = items2[i] := by have := congrArg Prod.snd hyx; simpa using this
    subst hy hx
    exact ⟨hm, hrest, turn i h1 h2⟩
  have last : ∀ i, [] = (items.toList.zip items2.toList).drop i → (∀ j, j < i → j < min items.size items2.size → e j = true) → (List.range (min items.size items2.size)).all e = true := fun i hz he => by
    have hge : min items.size items2.size ≤ i := by
      rcases Nat.lt_or_ge i (items.toList.zip items2.toList).length with h' | h'
      · rw [List.drop_eq_getElem_cons h'] at hz; cases hz
      · exact hZ ▸ h'
    rw [List.all_eq_true]
    exact fun j hj => he j (Nat.lt_of_lt_of_le (List.mem_range.mp hj) hge) (List.mem_range.mp hj)
  have grow : ∀ i, e i = true → (∀ j, j < i → j < min items.size items2.size → e j = true) → ∀ j, j < i + 1 → j < min items.size items2.size → e j = true := fun i ei he j hj hm => by
    rcases Nat.lt_or_ge j i with g | g
    · exact he j g hm
    · have : j = i := by omega
      rw [this]; exact ei
  obtain ⟨hp, g, d, tk, os⟩ := s
  cases neg
  · rw [if_neg Bool.false_ne_true]
    wp_walk using wpAny_loadPart' hl1, wpAny_loadPart' hb1, wpAny_forIn_list _ (fun rest b s' => b.1 = none ∧ I s' ∧ ∃ i, rest = (items.toList.zip items2.toList).drop i ∧ ∀ j, j < i → j < min items.size items2.size → e j = true) _
    case turn =>
      rintro ⟨y, x⟩ rest b s' ⟨hb', hI, i, hz, he⟩
      obtain ⟨hm, hrest, tr⟩ := turn' y x rest i hz
      refine wpAny_bind (wpAny_mono (tr s' hI) (fun r s2 q2 => ?_) fun _ _ x => x)
      obtain ⟨hr, q2⟩ := q2
      subst hr
      cases ei : e i with
      | true =>
        wp_walk
        exact ⟨rfl, q2, i + 1, hrest, grow i ei he⟩
      | false =>
        have hR := fin s2 q2
        rw [stop i hm ei] at hR
        obtain ⟨hp2, g2, d2, tk2, os2⟩ := s2
        wp_walk
        simpa using hR
    case fin =>
      rintro ⟨b1, b2⟩ s' ⟨hb', hI, i, hz, he⟩
      simp only at hb'
      subst hb'
      have hR := fin s' hI
      rw [last i hz he] at hR
      wp_walk
      simpa [Builtin.Tuple.tupleCompareSizes, bne] using hR
    case h =>
      exact ⟨rfl, h0, 0, rfl, fun j hj => absurd hj (Nat.not_lt_zero j)⟩
  · rw [if_pos rfl]
    wp_walk using wpAny_loadPart' hl1, wpAny_loadPart' hb1, wpAny_forIn_list _ (fun rest b s' => b.1 = none ∧ I s' ∧ ∃ i, rest = (items.toList.zip items2.toList).drop i ∧ ∀ j, j < i → j < min items.size items2.size → e j = true) _
    case turn =>
      rintro ⟨y, x⟩ rest b s' ⟨hb', hI, i, hz, he⟩
      obtain ⟨hm, hrest, tr⟩ := turn' y x rest i hz
      refine wpAny_bind (wpAny_mono (tr s' hI) (fun r s2 q2 => ?_) fun _ _ x => x)
      obtain ⟨hr, q2⟩ := q2
      subst hr
      cases ei : e i with
      | true =>
        wp_walk
        exact ⟨rfl, q2, i + 1, hrest, grow i ei he⟩
      | false =>
        have hR := fin s2 q2
        rw [stop i hm ei] at hR
        obtain ⟨hp2, g2, d2, tk2, os2⟩ := s2
        wp_walk
        simpa using hR
    case fin =>
      rintro ⟨b1, b2⟩ s' ⟨hb', hI, i, hz, he⟩
      simp only at hb'
      subst hb'
      have hR := fin s' hI
      rw [last i hz he] at hR
      wp_walk
      simpa [Builtin.Tuple.tupleCompareSizes, bne] using hR
    case h =>
      exact ⟨rfl, h0, 0, rfl, fun j hj => absurd hj (Nat.not_lt_zero j)⟩

section
variable {s : Shared}
theorem rc_list (neg : Bool) {l b : Addr} {N : Nat} {Q : Value → Shared → Prop} (hu : A.units < cLine) (e : Nat → Bool) (I : Shared → Prop) (hl : ListB prog w A E l b N e I)
    (fin : ∀ s, I s → Q (.bool ((List.range N).all e != neg)) s) (h : I s) : wpAny (model prog w) A (richCompare (if neg then .NotEq else .Eq) (.ref l) (.ref b)) Q E s := by
  obtain ⟨items, items2, dd, dd2, n, n2, sl, sl2, hl1, hb1, _, _, _⟩ := hl _ h
  cases neg
  · rw [if_neg Bool.false_ne_true]
    refine wpAny_richCompare_same_room (op := .Eq) ⟨_, hl1, rfl⟩ ⟨_, hb1, rfl⟩ F.slot_list_eq (GQ.call_here F.slot_list_eq ⟨_, hl1, rfl⟩ F.entry_list_eq (F.args_list_eq_2 _ _) ?_) hu
    exact list_cmp (R := wants (fun v s' => v ≠ .notImplemented ∧ Q v s') E) false l b N e I hl (fun s' q => ⟨(fun x => nomatch x), fin s' q⟩) h
  · rw [if_pos rfl]
    refine wpAny_richCompare_same_room (op := .NotEq) ⟨_, hl1, rfl⟩ ⟨_, hb1, rfl⟩ F.slot_list_ne (GQ.call_here F.slot_list_ne ⟨_, hl1, rfl⟩ F.entry_list_ne (F.args_list_ne_2 _ _) ?_) hu
    exact list_cmp (R := wants (fun v s' => v ≠ .notImplemented ∧ Q v s') E) true l b N e I hl (fun s' q => ⟨(fun x => nomatch x), fin s' q⟩) h
theorem rc_list_len (neg : Bool) {l b : Addr} {items items2 : Array Value} {Q : Value → Shared → Prop} (hu : A.units < cLine) (hl : s.heap.IsList l items) (hb : s.heap.IsList b items2) (hne : (items.size != items2.size) = true) (fin : Q (.bool neg) s) :
    wpAny (model prog w) A (richCompare (if neg then .NotEq else .Eq) (.ref l) (.ref b)) Q E s := by
  obtain ⟨⟨cls, dd, data, sl⟩, ho, hc, n, hd⟩ := id hl
  obtain ⟨⟨cls2, dd2, data2, sl2⟩, ho2, hc2, n2, hd2⟩ := id hb
  simp only at hc hd hc2 hd2
  subst hc hd hc2 hd2
  cases neg
  · rw [if_neg Bool.false_ne_true]
    refine wpAny_richCompare_same_room (op := .Eq) ⟨_, ho, rfl⟩ ⟨_, ho2, rfl⟩ F.slot_list_eq (GQ.call_here F.slot_list_eq ⟨_, ho, rfl⟩ F.entry_list_eq (F.args_list_eq_2 _ _) ?_) hu
    exact list_len (R := wants (fun v s' => v ≠ .notImplemented ∧ Q v s') E) false l b items items2 dd dd2 n n2 sl sl2 hne ho ho2 ⟨(fun x => nomatch x), fin⟩
  · rw [if_pos rfl]
    refine wpAny_richCompare_same_room (op := .NotEq) ⟨_, ho, rfl⟩ ⟨_, ho2, rfl⟩ F.slot_list_ne (GQ.call_here F.slot_list_ne ⟨_, ho, rfl⟩ F.entry_list_ne (F.args_list_ne_2 _ _) ?_) hu
    exact list_len (R := wants (fun v s' => v ≠ .notImplemented ∧ Q v s') E) true l b items items2 dd dd2 n n2 sl sl2 hne ho ho2 ⟨(fun x => nomatch x), fin⟩
theorem rc_tup (neg : Bool) {l b : Addr} {items items2 : Array Value} {Q : Value → Shared → Prop} (hu : A.units < cLine) (e : Nat → Bool) (I : Shared → Prop) (hl : s.heap.IsTuple l items) (hb : s.heap.IsTuple b items2)
    (turn : ∀ i (h1 : i < items.size) (h2 : i < items2.size) s, I s → wpAny (model prog w) A.in1 (eqBool items[i] items2[i]) (fun r s' => r = e i ∧ I s') E s)
    (fin : ∀ s, I s → Q (.bool (((List.range (min items.size items2.size)).all e && items.size == items2.size) != neg)) s) (h : I s) : wpAny (model prog w) A (richCompare (if neg then .NotEq else .Eq) (.ref l) (.ref b)) Q E s := by
  obtain ⟨⟨cls, dd, data, sl⟩, ho, hc, n, hd⟩ := id hl
  obtain ⟨⟨cls2, dd2, data2, sl2⟩, ho2, hc2, n2, hd2⟩ := id hb
  simp only at hc hd hc2 hd2
  subst hc hd hc2 hd2
  cases neg
  · rw [if_neg Bool.false_ne_true]
    refine wpAny_richCompare_same_room (op := .Eq) ⟨_, ho, rfl⟩ ⟨_, ho2, rfl⟩ F.slot_tuple_eq (GQ.call_here F.slot_tuple_eq ⟨_, ho, rfl⟩ F.entry_tuple_eq (F.args_tuple_eq_2 _ _) ?_) hu
    exact tup_cmp (R := wants (fun v s' => v ≠ .notImplemented ∧ Q v s') E) false l b items items2 n n2 dd dd2 sl sl2 e I turn (fun s' q => ⟨(fun x => nomatch x), fin s' q⟩) ho ho2 h
  · rw [if_pos rfl]
    refine wpAny_richCompare_same_room (op := .NotEq) ⟨_, ho, rfl⟩ ⟨_, ho2, rfl⟩ F.slot_tuple_ne (GQ.call_here F.slot_tuple_ne ⟨_, ho, rfl⟩ F.entry_tuple_ne (F.args_tuple_ne_2 _ _) ?_) hu
    exact tup_cmp (R := wants (fun v s' => v ≠ .notImplemented ∧ Q v s') E) true l b items items2 n n2 dd dd2 sl sl2 e I turn (fun s' q => ⟨(fun x => nomatch x), fin s' q⟩) ho ho2 h
end
end
end TPQ
namespace TPQ
open PySem PySem.Spec PyProof.Rows L2
/-- how two values compare, by the abstract heap: with what outcome -/
abbrev EqF := V → V → Hp → Bool → Prop
def MonF (D : EqF) : Prop := ∀ x y b H H', L2.Ext H H' → D x y H b → D x y H' b
/-- ==, within a builtin -/
def EqB (X : Cx) (n : Nat) (D : EqF) : Prop :=
  ∀ (A : Around) (pins : List (Addr × Obj)) (s : Shared) (σ : L2.St) (H : Hp) (x y : V) (u v : Value) (b : Bool), Sub X n A → Inv X pins σ H s → RelV x u → RelV y v → D x y H b →
    wpAny (model X.prog X.w) A (eqBool u v) (fun r s' => r = b ∧ ∃ H', Inv X pins σ H' s' ∧ L2.Ext H H') X.xe s
/-- == and !=, as operators -/
def RcB (X : Cx) (n : Nat) (neg : Bool) (D : EqF) : Prop :=
  ∀ (A : Around) (pins : List (Addr × Obj)) (s : Shared) (σ : L2.St) (H : Hp) (x y : V) (u v : Value) (b : Bool), Sub X n A → Inv X pins σ H s → RelV x u → RelV y v → D x y H b →
    wpAny (model X.prog X.w) A (richCompare (if neg then .NotEq else .Eq) u v) (fun r s' => r = .bool (b != neg) ∧ ∃ H', Inv X pins σ H' s' ∧ L2.Ext H H') X.xe s
section
variable {X : Cx} {n m : Nat} {D D' : EqF}
theorem EqB.mono (h : EqB X n D) (hn : n ≤ m) : EqB X m D := fun A pins s σ H x y u v b sb => h A pins s σ H x y u v b (sb.mono hn)
theorem RcB.mono {neg : Bool} (h : RcB X n neg D) (hn : n ≤ m) : RcB X m neg D := fun A pins s σ H x y u v b sb => h A pins s σ H x y u v b (sb.mono hn)
theorem EqB.imp (h : EqB X n D) (hd : ∀ x y H b, D' x y H b → D x y H b) : EqB X n D' := fun A pins s σ H x y u v b sb I rx ry d => h A pins s σ H x y u v b sb I rx ry (hd x y H b d)
theorem RcB.imp {neg : Bool} (h : RcB X n neg D) (hd : ∀ x y H b, D' x y H b → D x y H b) : RcB X n neg D' := fun A pins s σ H x y u v b sb I rx ry d => h A pins s σ H x y u v b sb I rx ry (hd x y H b d)
/-- flat values -/
def FFlat : EqF := fun x y _ b => flatV x = true ∧ flatV y = true ∧ eqV x y = b
theorem eqB_flat : EqB X 0 FFlat := by
  intro A pins s σ H x y u v b sb I rx ry d
  obtain ⟨fx, fy, e⟩ := d
  have q := eqAt_V (A := A) (s := s) rx ry fx fy
  rw [e] at q
  exact q X.prog X.w X.xe _ ⟨rfl, H, I, Ext.rfl'⟩
/-- pair by pair -/
inductive PrB (D : EqF) : List V → List V → Hp → List Bool → Prop
  | nil {xs ys : List V} {H : Hp} (h : xs = [] ∨ ys = []) : PrB D xs ys H []
  | cons {x y : V} {xs ys : List V} {H : Hp} {b : Bool} {bs : List Bool} (h : D x y H b) (r : PrB D xs ys H bs) : PrB D (x :: xs) (y :: ys) H (b :: bs)
theorem PrB.mon (hD : MonF D) {H H' : Hp} (e : L2.Ext H H') : ∀ {xs ys : List V} {bs : List Bool}, PrB D xs ys H bs → PrB D xs ys H' bs
  | _, _, _, .nil h => .nil h
  | _, _, _, .cons h r => .cons (hD _ _ _ _ _ e h) (r.mon hD e)
theorem PrB.len {H : Hp} : ∀ {xs ys : List V} {bs : List Bool}, PrB D xs ys H bs → bs.length = min xs.length ys.length
  | _, _, _, .nil h => by rcases h with rfl | rfl <;> simp
  | _, _, _, .cons h r => by have := r.len; simp only [List.length_cons]; omega
theorem PrB.get {H : Hp} : ∀ {xs ys : List V} {bs : List Bool} (i : Nat) {x y : V}, PrB D xs ys H bs → xs[i]? = some x → ys[i]? = some y → D x y H (bs.getD i false)
  | _, _, _, i, _, _, .nil h, h1, h2 => by rcases h with rfl | rfl <;> simp at h1 h2
  | _, _, _, 0, _, _, .cons h r, h1, h2 => by
    simp at h1 h2
    subst h1 h2
    exact h
  | _, _, _, i + 1, _, _, .cons h r, h1, h2 => by
    simp at h1 h2
    have := r.get i h1 h2
    simpa using this
theorem all_range : ∀ bs : List Bool, (List.range bs.length).all (fun i => bs.getD i false) = bs.all id
  | [] => rfl
  | b :: bs => by
    rw [List.length_cons, List.range_succ_eq_map, List.all_cons, List.all_map, List.all_cons, ← all_range bs]
    rfl
def LoopB (X : Cx) (pins : List (Addr × Obj)) (σ : L2.St) (H : Hp) (s' : Shared) : Prop := ∃ H', Inv X pins σ H' s' ∧ L2.Ext H H'
theorem turnB (hD : MonF D) (h : EqB X n D) {A : Around} (sb : Sub X (n + 1) A) {pins : List (Addr × Obj)} {σ : L2.St} {H : Hp} {xs ys : List V} {bs : List Bool} {its its2 : List Value} (p : PrB D xs ys H bs) (r : Vals xs its) (r2 : Vals ys its2)
    (i : Nat) (h1 : i < its.toArray.size) (h2 : i < its2.toArray.size) (s' : Shared) (l : LoopB X pins σ H s') :
    wpAny (model X.prog X.w) A.in1 (eqBool its.toArray[i] its2.toArray[i]) (fun r s2 => r = bs.getD i false ∧ LoopB X pins σ H s2) X.xe s' := by
  obtain ⟨H1, I1, e1⟩ := l
  have g1 : its[i]? = some its.toArray[i] := by
    have h1' : i < its.length := by simpa using h1
    rw [List.getElem?_eq_getElem h1'] <;> simp
  have g2 : its2[i]? = some its2.toArray[i] := by
    have h2' : i < its2.length := by simpa using h2
    rw [List.getElem?_eq_getElem h2'] <;> simp
  have k1 : i < xs.length := by rw [r.length]; simpa using h1
  have k2 : i < ys.length := by rw [r2.length]; simpa using h2
  obtain ⟨u, hu, ru⟩ := r.get (List.getElem?_eq_getElem k1)
  obtain ⟨v, hv, rv⟩ := r2.get (List.getElem?_eq_getElem k2)
  rw [g1] at hu
  rw [g2] at hv
  rw [Option.some.inj hu, Option.some.inj hv]
  refine wpAny_mono (h A.in1 pins s' σ H1 _ _ u v _ sb.in1 I1 ru rv ((p.mon hD e1).get i (List.getElem?_eq_getElem k1) (List.getElem?_eq_getElem k2))) (fun r s2 q => ?_) fun _ _ x => x
  obtain ⟨hr, H2, I2, e2⟩ := q
  exact ⟨hr, H2, I2, e1.trans e2⟩
def FList (D : EqF) : EqF := fun x y H b => ∃ a c xs ys bs, x = .ref a ∧ y = .ref c ∧ H a = some (.lst xs) ∧ H c = some (.lst ys) ∧ PrB D xs ys H bs ∧ b = (bs.all id && decide (xs.length = ys.length))
def FTup (K : PySem.W.Frag) (D : EqF) : EqF := fun x y H b => ∃ a c xs ys bs, x = .ref a ∧ y = .ref c ∧ SqT K H a xs ∧ SqT K H c ys ∧ PrB D xs ys H bs ∧ b = (bs.all id && decide (xs.length = ys.length))
theorem mon_list (hD : MonF D) : MonF (FList D) := fun x y b H H' e ⟨a, c, xs, ys, bs, hx, hy, h1, h2, p, hb⟩ => ⟨a, c, xs, ys, bs, hx, hy, e _ _ h1, e _ _ h2, p.mon hD e, hb⟩
theorem mon_tup {K : PySem.W.Frag} (hD : MonF D) : MonF (FTup K D) := fun x y b H H' e ⟨a, c, xs, ys, bs, hx, hy, h1, h2, p, hb⟩ => ⟨a, c, xs, ys, bs, hx, hy, h1.ext e, h2.ext e, p.mon hD e, hb⟩
theorem rcB_list (neg : Bool) (hD : MonF D) (h : EqB X n D) : RcB X (n + 1) neg (FList D) := by
  intro A pins s σ H x y u v b sb I rx ry d
  obtain ⟨a, c, xs, ys, bs, rfl, rfl, ha, hc, p, rfl⟩ := d
  cases rx
  cases ry
  by_cases hn : xs.length = ys.length
  · have hl : bs.length = xs.length := by have := p.len; omega
    rw [decide_eq_true hn, Bool.and_true]
    refine rc_list neg (N := xs.length) sb.room.units0 (fun i => bs.getD i false) (LoopB X pins σ H) (fun s' q => ?_) (fun s' q => ⟨?_, q⟩) ⟨H, I, Ext.rfl'⟩
    · obtain ⟨H1, I1, e1⟩ := id q
      obtain ⟨z, its, k, r, e⟩ := I1.hok a _ (e1 _ _ ha)
      obtain ⟨z2, its2, k2, r2, e2⟩ := I1.hok c _ (e1 _ _ hc)
      exact ⟨its.toArray, its2.toArray, _, _, k, k2, _, _, e, e2, by rw [List.size_toArray, ← r.length], by rw [List.size_toArray, ← r2.length, ← hn], fun i h1 h2 => turnB hD h sb p r r2 i h1 h2 s' q⟩
    · rw [← hl, all_range]
  · rw [decide_eq_false hn, Bool.and_false]
    obtain ⟨z, its, k, r, e⟩ := I.hok a _ ha
    obtain ⟨z2, its2, k2, r2, e2⟩ := I.hok c _ hc
    refine rc_list_len neg sb.room.units0 (items := its.toArray) (items2 := its2.toArray) ⟨_, e, rfl, _, rfl⟩ ⟨_, e2, rfl, _, rfl⟩ ?_ ⟨by simp, H, I, Ext.rfl'⟩
    rw [List.size_toArray, List.size_toArray, ← r.length, ← r2.length]
    simpa using hn
theorem rcB_tup (neg : Bool) (hD : MonF D) (h : EqB X n D) : RcB X (n + 1) neg (FTup X.K D) := by
  intro A pins s σ H x y u v b sb I rx ry d
  obtain ⟨a, c, xs, ys, bs, rfl, rfl, ha, hc, p, rfl⟩ := d
  cases rx
  cases ry
  obtain ⟨its, r, e, z⟩ := I.tuple ha
  obtain ⟨its2, r2, e2, z2⟩ := I.tuple hc
  refine rc_tup neg sb.room.units0 (fun i => bs.getD i false) (LoopB X pins σ H) e e2 (fun i h1 h2 s' q => turnB hD h sb p r r2 i h1 h2 s' q) (fun s' q => ⟨?_, q⟩) ⟨H, I, Ext.rfl'⟩
  have hl := p.len
  have e3 : min its.toArray.size its2.toArray.size = bs.length := by rw [List.size_toArray, List.size_toArray, ← r.length, ← r2.length, hl]
  rw [e3, all_range, List.size_toArray, List.size_toArray, ← r.length, ← r2.length]
  rfl
/-- instances of the class at C with the text's own == : R tells the outcome -/
def FIns (C : Addr) (R : Addr → Addr → Hp → Bool → Prop) : EqF := fun x y H b => ∃ a c dx dy fs gs, x = .ref a ∧ y = .ref c ∧ H a = some (.ins C dx fs) ∧ H c = some (.ins C dy gs) ∧ R a c H b
theorem mon_ins {C : Addr} {R : Addr → Addr → Hp → Bool → Prop} (hR : ∀ a c b H H', L2.Ext H H' → R a c H b → R a c H' b) : MonF (FIns C R) := fun x y b H H' e ⟨a, c, dx, dy, fs, gs, hx, hy, h1, h2, r⟩ => ⟨a, c, dx, dy, fs, gs, hx, hy, e _ _ h1, e _ _ h2, hR a c b H H' e r⟩
def spEqB (R : Addr → Addr → Hp → Bool → Prop) : Sp := fun vs H Q _ => ∃ a c b, vs = [.ref a, .ref c] ∧ R a c H b ∧ ∀ H', L2.Ext H H' → Q (.bl b) H'
theorem rcB_ins {CX : CXT} {C f : Addr} {fd : FuncData} {ps : List Str} {R : Addr → Addr → Hp → Bool → Prop} {E : XK} (F : FnOk X.prog X.w X.K X.mg X.base CX n f fd ps (spEqB R))
    (hs : PySem.W.findIn X.K (.ref C) "__eq__" = some (some (.ref f))) (hf : PySem.W.isFn X.K (.ref f) = true) (hb : Binds X.K fd ps []) (hx : Passes CX X E) : RcB X n false (FIns C R) := by
  intro A pins s σ H x y u v b sb I rx ry d
  obtain ⟨a, c, dx, dy, fs, gs, rfl, rfl, ha, hc, hr⟩ := d
  cases rx
  cases ry
  obtain ⟨mA, J, _⟩ := ins_get I.hok ha
  obtain ⟨mB, J', _⟩ := ins_get I.hok hc
  obtain ⟨od, J, _⟩ := J.look
  obtain ⟨od', J', _⟩ := J'.look
  obtain ⟨m, hF⟩ := I.fr
  rw [if_neg Bool.false_ne_true]
  refine PySem.W.cmp_K (op := .Eq) (tb := .ref C) sb.room.units0 hF I.ok.mod.kin J J'.type (by simp [PySem.W.notFirst]) hs hf ?_
  have hsp : spEqB R [.ref a, .ref c] H (fun v H' => v = .bl b ∧ L2.Ext H H') E := ⟨a, c, b, rfl, hr, fun H' e => ⟨rfl, e⟩⟩
  have e0 : Env0 X.prog X.w X.K X.mg X.base A X.stack s H := by
    have e := I.env0
    exact ⟨by rw [sb.fr]; exact e.frames, e.mod, e.bs, e.bsz, e.funs, e.frf, e.hok, e.bare⟩
  have hl := F.len _ _ _ _ hsp
  have r2 : Vals [V.ref a, V.ref c] [Value.ref a, Value.ref c] := .cons rfl (.cons rfl .nil)
  refine wpAny_call (codeAny_mono (F.run A X.stack s H ⟨[.ref a, .ref c], []⟩ [.ref a, .ref c] [.ref a, .ref c] _ E sb.room e0 (by
    have := hb s [.ref a, .ref c] I.kIn (by simpa using hl)
    simpa using this) r2 hsp) fun r s' hq => ?_)
  cases r with
  | error e => exact hx pins σ H s e s' I hq
  | ok fl =>
    cases fl with
    | ret w =>
      obtain ⟨z, H', I', rz, ez, ex⟩ := I.after hq
      subst ez
      cases rz
      exact ⟨by simp, H', I', ex⟩
    | next => exact False.elim hq
    | brk => exact False.elim hq
    | cont => exact False.elim hq
/-- within a builtin the same object is equal to itself: D must say so too -/
theorem RcB.eqB (h : RcB X n false D) (hr : ∀ x y H b, D x y H b → ∃ a c, x = .ref a ∧ y = .ref c) (hs : ∀ a H b, D (.ref a) (.ref a) H b → b = true) : EqB X n D := by
  intro A pins s σ H x y u v b sb I rx ry d
  obtain ⟨a, c, rfl, rfl⟩ := hr _ _ _ _ d
  cases rx
  cases ry
  by_cases hab : a = c
  · subst hab
    rw [hs _ _ _ d]
    exact SeqAt.EqAt.same (A := A) (s := s) (.ref a) X.prog X.w X.xe _ ⟨rfl, H, I, Ext.rfl'⟩
  · refine GQ.eqBool_refG hab (wpAny_mono (h A pins s σ H (.ref a) (.ref c) _ _ b sb I rfl rfl d) (fun r s' q => ?_) fun _ _ x => x)
    obtain ⟨hr', q⟩ := q
    exact ⟨b, by rw [hr']; simp, rfl, q⟩
/-- as an expression -/
def rCmpB (neg : Bool) (D : EqF) : R2 := fun x y H Q => ∃ b, D x y H b ∧ ∀ H', L2.Ext H H' → Q (.bl (b != neg)) H'
theorem op_eqB (h : RcB X n false D) (hr : Room n X.A) : OpR X (compareOp .Eq) (rCmpB false D) := by
  intro pins s σ H x y v u Q I rx ry hq
  obtain ⟨b, d, q⟩ := hq
  show wpAny (model X.prog X.w) X.A (richCompare .Eq v u) (EP X pins σ Q) X.xe s
  refine wpAny_mono (h X.A pins s σ H x y v u b ⟨hr, rfl⟩ I rx ry d) (fun r s' z => ?_) fun _ _ x => x
  obtain ⟨hr', H', I', e⟩ := z
  subst hr'
  exact ⟨.bl (b != false), H', I', rfl, q H' e⟩
theorem op_neB (h : RcB X n true D) (hr : Room n X.A) : OpR X (compareOp .NotEq) (rCmpB true D) := by
  intro pins s σ H x y v u Q I rx ry hq
  obtain ⟨b, d, q⟩ := hq
  show wpAny (model X.prog X.w) X.A (richCompare .NotEq v u) (EP X pins σ Q) X.xe s
  refine wpAny_mono (h X.A pins s σ H x y v u b ⟨hr, rfl⟩ I rx ry d) (fun r s' z => ?_) fun _ _ x => x
  obtain ⟨hr', H', I', e⟩ := z
  subst hr'
  exact ⟨.bl (b != true), H', I', rfl, q H' e⟩
end
end TPQ

namespace TP
open PySem PySem.Spec PyProof.Rows L2 TPQ
/-! ### == of things that hold instances -/
section
variable {X : Cx} {n m : Nat} {α β γ δ : Type} [DecidableEq α] [DecidableEq β] [DecidableEq γ] [DecidableEq δ] {τ : Ty α} {υ : Ty β} {φ : Ty γ} {ψ : Ty δ}
/-- the two are equal just when the things are -/
def FT (τ : Ty α) : EqF := fun x y H b => ∃ Z a c, Same Z H ∧ τ.r Z x a ∧ τ.r Z y c ∧ b = decide (a = c)
theorem mon_FT : MonF (FT τ) := fun _ _ _ _ _ e ⟨Z, a, c, s, r1, r2, h⟩ => ⟨Z, a, c, fun p o q => e _ _ (s p o q), r1, r2, h⟩
/-- a value stands for one thing only -/
def FnI (X : Cx) (τ : Ty α) : Prop := ∀ pins σ s Z H v x y, Inv X pins σ H s → Same Z H → τ.r Z v x → τ.r Z v y → x = y
theorem fn_int : FnI X yInt := fun _ _ _ _ _ _ _ _ _ _ h g => by cases h; cases g; rfl
theorem fn_bool : FnI X yBool := fun _ _ _ _ _ _ _ _ _ _ h g => by cases h; cases g; rfl
theorem fn_str : FnI X yStr := fun _ _ _ _ _ _ _ _ _ _ h g => by have := h.1.symm.trans g.1; cases this; rfl
theorem fn_non : FnI X yNon := fun _ _ _ _ _ _ _ _ _ _ _ _ => rfl
theorem fn_opt (F : FnI X τ) : FnI X (yOpt τ) := fun pins σ s Z H v x y I sz h g => by
  cases x with
  | none =>
    cases y with
    | none => rfl
    | some b => exact absurd (show v = .non from h) g.2
  | some a =>
    cases y with
    | none => exact absurd (show v = .non from g) h.2
    | some b => rw [F pins σ s Z H v a b I sz h.1 g.1]
theorem all_fn {R : V → α → Prop} (h : ∀ v x y, R v x → R v y → x = y) : ∀ {vs : List V} {xs ys : List α}, All R vs xs → All R vs ys → xs = ys
  | _, _, _, .nil, .nil => rfl
  | _, _, _, .cons a r, .cons b t => by rw [h _ _ _ a b, all_fn h r t]
theorem vals_inj : ∀ {us : List Value} {vs ws : List V}, Vals vs us → Vals ws us → vs = ws
  | _, _, _, .nil, .nil => rfl
  | _, _, _, .cons a r, .cons b t => by rw [RelV.inj a b, vals_inj r t]
theorem sqt_fn {pins : List (Addr × Obj)} {σ : L2.St} {s : Shared} {H : Hp} {a : Addr} {vs ws : List V} (I : Inv X pins σ H s) (h : SqT X.K H a vs) (g : SqT X.K H a ws) : vs = ws := by
  obtain ⟨its, r, e, _⟩ := I.tuple h
  obtain ⟨its2, r2, e2, _⟩ := I.tuple g
  obtain ⟨o, h1, _, n, d1⟩ := e
  obtain ⟨o2, h2, _, n2, d2⟩ := e2
  rw [h1] at h2
  cases Option.some.inj h2
  rw [d1] at d2
  have e3 : its.toArray = its2.toArray := by injection d2
  have e4 : its = its2 := by simpa using e3
  subst e4
  exact vals_inj r r2
theorem fn_list (F : FnI X τ) : FnI X (yList τ) := fun pins σ s Z H v x y I sz ⟨a, vs, e, h, t, _⟩ ⟨c, ws, e2, h2, t2, _⟩ => by
  cases e
  cases e2
  rw [h] at h2
  cases Option.some.inj h2
  exact all_fn (fun v x y => F pins σ s Z H v x y I sz) t t2
theorem fn_tup (F : FnI X τ) : FnI X (yTup X.K τ) := fun pins σ s Z H v x y I sz ⟨a, vs, e, h, t, _⟩ ⟨c, ws, e2, h2, t2, _⟩ => by
  cases e
  cases e2
  cases sqt_fn I (seqT_same sz h) (seqT_same sz h2)
  exact all_fn (fun v x y => F pins σ s Z H v x y I sz) t t2
theorem fn_p2 (F : FnI X τ) (G : FnI X υ) : FnI X (yP2 X.K τ υ) := fun pins σ s Z H v x y I sz ⟨a, v1, v2, e, h, h1, h2⟩ ⟨c, w1, w2, e2, g, g1, g2⟩ => by
  cases e
  cases e2
  cases sqt_fn I (seqT_same sz h) (seqT_same sz g)
  exact Prod.ext (F pins σ s Z H _ _ _ I sz h1 g1) (G pins σ s Z H _ _ _ I sz h2 g2)
theorem fn_p3 (F : FnI X τ) (G : FnI X υ) (K' : FnI X φ) : FnI X (yP3 X.K τ υ φ) := fun pins σ s Z H v x y I sz ⟨a, v1, v2, v3, e, h, h1, h2, h3⟩ ⟨c, w1, w2, w3, e2, g, g1, g2, g3⟩ => by
  cases e
  cases e2
  cases sqt_fn I (seqT_same sz h) (seqT_same sz g)
  exact Prod.ext (F pins σ s Z H _ _ _ I sz h1 g1) (Prod.ext (G pins σ s Z H _ _ _ I sz h2 g2) (K' pins σ s Z H _ _ _ I sz h3 g3))
theorem fn_p4 (F : FnI X τ) (G : FnI X υ) (K' : FnI X φ) (L : FnI X ψ) : FnI X (yP4 X.K τ υ φ ψ) := fun pins σ s Z H v x y I sz ⟨a, v1, v2, v3, v4, e, h, h1, h2, h3, h4⟩ ⟨c, w1, w2, w3, w4, e2, g, g1, g2, g3, g4⟩ => by
  cases e
  cases e2
  cases sqt_fn I (seqT_same sz h) (seqT_same sz g)
  exact Prod.ext (F pins σ s Z H _ _ _ I sz h1 g1) (Prod.ext (G pins σ s Z H _ _ _ I sz h2 g2) (Prod.ext (K' pins σ s Z H _ _ _ I sz h3 g3) (L pins σ s Z H _ _ _ I sz h4 g4)))
/-- within a builtin the same object is equal to itself -/
theorem eqT_of (F : FnI X τ) (hr : ∀ Z v x, τ.r Z v x → ∃ a, v = .ref a) (h : RcB X n false (FT τ)) : EqB X n (FT τ) := by
  intro A pins s σ H x y u v b sb I rx ry d
  obtain ⟨Z, a, c, sz, r1, r2, hb⟩ := id d
  obtain ⟨p, rfl⟩ := hr _ _ _ r1
  obtain ⟨q, rfl⟩ := hr _ _ _ r2
  cases rx
  cases ry
  by_cases hab : p = q
  · subst hab
    have e := F pins σ s Z H _ a c I sz r1 r2
    rw [hb, decide_eq_true e]
    exact SeqAt.EqAt.same (A := A) (s := s) (.ref p) X.prog X.w X.xe _ ⟨rfl, H, I, Ext.rfl'⟩
  · refine GQ.eqBool_refG hab (wpAny_mono (h A pins s σ H (.ref p) (.ref q) _ _ b sb I rfl rfl d) (fun r s' z => ?_) fun _ _ x => x)
    obtain ⟨hr', z⟩ := z
    exact ⟨b, by rw [hr']; simp, rfl, z⟩
theorem eqT_data {d : α → PyData} {k : Nat} (E : EqD X.K τ d k) (hk : k ≤ 60) : EqB X 0 (FT τ) := by
  intro A pins s σ H x y u v b sb I rx ry ⟨Z, a, c, sz, r1, r2, hb⟩
  obtain ⟨as, w1⟩ := Dp.reads I (d a) x u (E.dp _ _ _ _ sz r1) rx
  obtain ⟨bs, w2⟩ := Dp.reads I (d c) y v (E.dp _ _ _ _ sz r2) ry
  have h1 := E.dep a
  have hu := sb.room.un
  have q := SeqAt.eqAt_reads (d a) (d c) A s u v as bs w1 w2 (E.lay _ _ _ r1) (E.lay _ _ _ r2) (by omega)
  have e : PyData.eqv (d a) (d c) = b := by
    rw [hb]
    exact Bool.eq_iff_iff.mpr ((E.eqv a c).trans decide_eq_true_iff.symm)
  rw [e] at q
  exact q X.prog X.w X.xe _ ⟨rfl, H, I, Ext.rfl'⟩
/-- two lists of things, pair by pair -/
theorem prB {Z H : Hp} (sz : Same Z H) : ∀ {vs ws : List V} {xs ys : List α}, All (τ.r Z) vs xs → All (τ.r Z) ws ys → ∃ bs, PrB (FT τ) vs ws H bs ∧ decide (xs = ys) = (bs.all id && decide (vs.length = ws.length))
  | _, _, _, _, .nil, .nil => ⟨[], .nil (.inl rfl), by simp⟩
  | _, _, _, _, .nil, .cons _ _ => ⟨[], .nil (.inl rfl), by simp⟩
  | _, _, _, _, .cons _ _, .nil => ⟨[], .nil (.inr rfl), by simp⟩
  | v :: vs, w :: ws, x :: xs, y :: ys, .cons a r, .cons b t => by
    obtain ⟨bs, p, e⟩ := prB sz r t
    refine ⟨decide (x = y) :: bs, .cons ⟨Z, x, y, sz, a, b, rfl⟩ p, ?_⟩
    rw [List.all_cons, Bool.and_assoc]
    have e2 : decide (x :: xs = y :: ys) = (decide (x = y) && decide (xs = ys)) := by simp
    rw [e2, e]
    simp
theorem rcT_tup (neg : Bool) (E : EqB X n (FT τ)) : RcB X (n + 1) neg (FT (yTup X.K τ)) :=
  (rcB_tup neg mon_FT E).imp fun x y H b ⟨Z, xs, ys, sz, ⟨a, vs, e, h, t, _⟩, ⟨c, ws, e2, h2, t2, _⟩, hb⟩ => by
    obtain ⟨bs, p, q⟩ := prB sz t t2
    exact ⟨a, c, vs, ws, bs, e, e2, seqT_same sz h, seqT_same sz h2, p, hb.trans q⟩
theorem rcT_list (neg : Bool) (E : EqB X n (FT τ)) : RcB X (n + 1) neg (FT (yList τ)) :=
  (rcB_list neg mon_FT E).imp fun x y H b ⟨Z, xs, ys, sz, ⟨a, vs, e, h, t, _⟩, ⟨c, ws, e2, h2, t2, _⟩, hb⟩ => by
    obtain ⟨bs, p, q⟩ := prB sz t t2
    exact ⟨a, c, vs, ws, bs, e, e2, sz _ _ h, sz _ _ h2, p, hb.trans q⟩
/-- lists of one's own too -/
def FL (τ : Ty α) : EqF := fun x y H b => ∃ Z xs ys p q vs ws, Same Z H ∧ x = .ref p ∧ y = .ref q ∧ H p = some (.lst vs) ∧ H q = some (.lst ws) ∧ All (τ.r Z) vs xs ∧ All (τ.r Z) ws ys ∧ b = decide (xs = ys)
theorem rcT_own (neg : Bool) (E : EqB X n (FT τ)) : RcB X (n + 1) neg (FL τ) :=
  (rcB_list neg mon_FT E).imp fun x y H b ⟨Z, xs, ys, a, c, vs, ws, sz, e, e2, h, h2, t, t2, hb⟩ => by
    obtain ⟨bs, p, q⟩ := prB sz t t2
    exact ⟨a, c, vs, ws, bs, e, e2, h, h2, p, hb.trans q⟩
theorem eqT_tup (F : FnI X τ) (E : EqB X n (FT τ)) : EqB X (n + 1) (FT (yTup X.K τ)) := eqT_of (fn_tup F) (fun _ _ _ ⟨a, _, e, _⟩ => ⟨a, e⟩) (rcT_tup false E)
theorem eqT_list (F : FnI X τ) (E : EqB X n (FT τ)) : EqB X (n + 1) (FT (yList τ)) := eqT_of (fn_list F) (fun _ _ _ ⟨a, _, e, _⟩ => ⟨a, e⟩) (rcT_list false E)
def Or2 (D D' : EqF) : EqF := fun x y H b => D x y H b ∨ D' x y H b
theorem mon_or {D D' : EqF} (h : MonF D) (g : MonF D') : MonF (Or2 D D') := fun _ _ _ _ _ e d => d.imp (h _ _ _ _ _ e) (g _ _ _ _ _ e)
theorem eqB_or {D D' : EqF} (h : EqB X n D) (g : EqB X m D') : EqB X (max n m) (Or2 D D') := fun A pins s σ H x y u v b sb I rx ry d => by
  rcases d with d | d
  · exact h A pins s σ H x y u v b (sb.mono (Nat.le_max_left _ _)) I rx ry d
  · exact g A pins s σ H x y u v b (sb.mono (Nat.le_max_right _ _)) I rx ry d
theorem rcT_p2 (neg : Bool) (E : EqB X n (FT τ)) (F : EqB X m (FT υ)) : RcB X (max n m + 1) neg (FT (yP2 X.K τ υ)) :=
  (rcB_tup neg (mon_or mon_FT mon_FT) (eqB_or E F)).imp fun x y H b ⟨Z, x1, y1, sz, ⟨a, v1, v2, e, h, h1, h2⟩, ⟨c, w1, w2, e2, g, g1, g2⟩, hb⟩ =>
    ⟨a, c, _, _, [decide (x1.1 = y1.1), decide (x1.2 = y1.2)], e, e2, seqT_same sz h, seqT_same sz g, .cons (.inl ⟨Z, _, _, sz, h1, g1, rfl⟩) (.cons (.inr ⟨Z, _, _, sz, h2, g2, rfl⟩) (.nil (.inl rfl))), by rw [hb]; simp [Prod.ext_iff]⟩
theorem rcT_p3 {k : Nat} (neg : Bool) (E : EqB X n (FT τ)) (F : EqB X m (FT υ)) (G : EqB X k (FT φ)) : RcB X (max n (max m k) + 1) neg (FT (yP3 X.K τ υ φ)) :=
  (rcB_tup neg (mon_or mon_FT (mon_or mon_FT mon_FT)) (eqB_or E (eqB_or F G))).imp fun x y H b ⟨Z, x1, y1, sz, ⟨a, v1, v2, v3, e, h, h1, h2, h3⟩, ⟨c, w1, w2, w3, e2, g, g1, g2, g3⟩, hb⟩ =>
    ⟨a, c, _, _, [decide (x1.1 = y1.1), decide (x1.2.1 = y1.2.1), decide (x1.2.2 = y1.2.2)], e, e2, seqT_same sz h, seqT_same sz g, .cons (.inl ⟨Z, _, _, sz, h1, g1, rfl⟩) (.cons (.inr (.inl ⟨Z, _, _, sz, h2, g2, rfl⟩)) (.cons (.inr (.inr ⟨Z, _, _, sz, h3, g3, rfl⟩)) (.nil (.inl rfl)))), by rw [hb]; simp [Prod.ext_iff]⟩
theorem rcT_p4 {k l : Nat} (neg : Bool) (E : EqB X n (FT τ)) (F : EqB X m (FT υ)) (G : EqB X k (FT φ)) (L : EqB X l (FT ψ)) : RcB X (max n (max m (max k l)) + 1) neg (FT (yP4 X.K τ υ φ ψ)) :=
  (rcB_tup neg (mon_or mon_FT (mon_or mon_FT (mon_or mon_FT mon_FT))) (eqB_or E (eqB_or F (eqB_or G L)))).imp fun x y H b ⟨Z, x1, y1, sz, ⟨a, v1, v2, v3, v4, e, h, h1, h2, h3, h4⟩, ⟨c, w1, w2, w3, w4, e2, g, g1, g2, g3, g4⟩, hb⟩ =>
    ⟨a, c, _, _, [decide (x1.1 = y1.1), decide (x1.2.1 = y1.2.1), decide (x1.2.2.1 = y1.2.2.1), decide (x1.2.2.2 = y1.2.2.2)], e, e2, seqT_same sz h, seqT_same sz g, .cons (.inl ⟨Z, _, _, sz, h1, g1, rfl⟩) (.cons (.inr (.inl ⟨Z, _, _, sz, h2, g2, rfl⟩)) (.cons (.inr (.inr (.inl ⟨Z, _, _, sz, h3, g3, rfl⟩))) (.cons (.inr (.inr (.inr ⟨Z, _, _, sz, h4, g4, rfl⟩))) (.nil (.inl rfl))))), by rw [hb]; simp [Prod.ext_iff]⟩
theorem eqT_p2 (f : FnI X τ) (g : FnI X υ) (E : EqB X n (FT τ)) (F : EqB X m (FT υ)) : EqB X (max n m + 1) (FT (yP2 X.K τ υ)) := eqT_of (fn_p2 f g) (fun _ _ _ ⟨a, _, _, e, _⟩ => ⟨a, e⟩) (rcT_p2 false E F)
theorem eqT_p3 {k : Nat} (f : FnI X τ) (g : FnI X υ) (i : FnI X φ) (E : EqB X n (FT τ)) (F : EqB X m (FT υ)) (G : EqB X k (FT φ)) : EqB X (max n (max m k) + 1) (FT (yP3 X.K τ υ φ)) := eqT_of (fn_p3 f g i) (fun _ _ _ ⟨a, _, _, _, e, _⟩ => ⟨a, e⟩) (rcT_p3 false E F G)
theorem eqT_p4 {k l : Nat} (f : FnI X τ) (g : FnI X υ) (i : FnI X φ) (j : FnI X ψ) (E : EqB X n (FT τ)) (F : EqB X m (FT υ)) (G : EqB X k (FT φ)) (L : EqB X l (FT ψ)) : EqB X (max n (max m (max k l)) + 1) (FT (yP4 X.K τ υ φ ψ)) := eqT_of (fn_p4 f g i j) (fun _ _ _ ⟨a, _, _, _, _, e, _⟩ => ⟨a, e⟩) (rcT_p4 false E F G L)
/-- instances: by the text's own == -/
def FTr (τ : Ty α) : Addr → Addr → Hp → Bool → Prop := fun a c H b => FT τ (.ref a) (.ref c) H b
theorem rcT_obj {C f : Addr} {CX : CXT} {fd : FuncData} {ps : List Str} {sp : Sp} {E : XK} (ho : ∀ Z v x, τ.r Z v x → ∃ a dx fs, v = .ref a ∧ Z a = some (.ins C dx fs)) (F : FnOk X.prog X.w X.K X.mg X.base CX n f fd ps sp) (hsp : ∀ vs H Q E, spEqB (FTr τ) vs H Q E → sp vs H Q E)
    (M : Meth X.K C "__eq__" f) (hb : Binds X.K fd ps []) (hx : Passes CX X E) : RcB X n false (FT τ) :=
  (rcB_ins (R := FTr τ) (F.imp hsp) M.at_ M.fn hb hx).imp fun x y H b ⟨Z, a, c, sz, r1, r2, hb⟩ => by
    obtain ⟨p, dx, fs, e, h⟩ := ho _ _ _ r1
    obtain ⟨q, dy, gs, e2, h2⟩ := ho _ _ _ r2
    exact ⟨p, q, dx, dy, fs, gs, e, e2, sz _ _ h, sz _ _ h2, Z, a, c, sz, by rw [← e]; exact r1, by rw [← e2]; exact r2, hb⟩
end
section
variable {μ : Type} {M : Mu μ} {σ : L2.St} {Z H : Hp} {s s1 s2 : μ} {ta tb : TE} {K : PySem.W.Frag} {α : Type} [DecidableEq α] {τ : Ty α} {x y : α} {xs ys : List α} {neg : Bool}
theorem bneT {b : Bool} : (b != true) = !b := by cases b <;> rfl
theorem bneF {b : Bool} : (b != false) = b := by cases b <;> rfl
theorem step_ext {Z H H' : Hp} (sz : Same Z H) (e : L2.Ext H H') : Step [] Z H Z H' := ⟨Same.refl _, fun a o h => e _ _ (sz a o h), fun a o _ h => e _ _ h, fun _ _ h => h, fun a h q => by
  cases e1 : H a with
  | none => exact h e1
  | some o => rw [e _ _ e1] at q; cases q⟩
theorem ev_cmpO (ha : Ev M ta σ Z H s (ty τ x) s1) (hb : Ev M tb σ Z H s1 (ty τ y) s2) : Ev M (tOp (rCmpB neg (FT τ)) ta tb) σ Z H s (ty yBool (decide (x = y) != neg)) s2 :=
  ev_op ha hb fun Z H v w sz e1 e2 _ q => ⟨_, ⟨Z, x, y, sz, e1, e2, rfl⟩, fun H' e => q _ Z H' (step_ext sz e) rfl⟩
theorem ev_cmpL (ha : Ev M ta σ Z H s (li τ xs) s1) (hb : Ev M tb σ Z H s1 (li τ ys) s2) : Ev M (tOp (rCmpB neg (FL τ)) ta tb) σ Z H s (ty yBool (decide (xs = ys) != neg)) s2 :=
  ev_op ha hb fun Z H v w sz e1 e2 _ q => by
    obtain ⟨p, vs, rfl, g, t, _⟩ := rdl sz e1
    obtain ⟨p2, ws, rfl, g2, t2, _⟩ := rdl sz e2
    exact ⟨_, ⟨Z, xs, ys, p, p2, vs, ws, sz, rfl, rfl, g, g2, t, t2, rfl⟩, fun H' e => q _ Z H' (step_ext sz e) rfl⟩
end
end TP

namespace K93
open PySem PySem.Spec PyProof.Rows L2
open C8 (tCut pss_cut)
/-! the text by places -/
def topS (i : Nat) : Stmt := PySem.Challenge.pw_surenear_k93_things_are_equal_by_all_fie.main.body.getD i (.Pass ⟨0, 0, 0, 0⟩)
abbrev s_law_row : Stmt := (topS 24)
abbrev s_law_next : Stmt := (topS 25)
abbrev s_Record___init__ : Stmt := (inClass (topS 4) 0)
abbrev s_kind_of_value : Stmt := (topS 2)
abbrev s_same_fields : Stmt := (topS 5)
abbrev s_Record___eq__ : Stmt := (inClass (topS 4) 3)
abbrev s_law_flags : Stmt := (topS 32)
abbrev s_law_numbers : Stmt := (topS 26)
abbrev s_law_parts : Stmt := (topS 30)
abbrev s_law_record : Stmt := (topS 27)
abbrev s_Query___init__ : Stmt := (inClass (topS 7) 0)
abbrev s_law_query : Stmt := (topS 28)
abbrev s_Part___init__ : Stmt := (inClass (topS 16) 0)
abbrev s_Bound___init__ : Stmt := (inClass (topS 12) 0)
abbrev s_Norms___init__ : Stmt := (inClass (topS 17) 0)
abbrev s_Region___init__ : Stmt := (inClass (topS 19) 0)
abbrev s_Entry___init__ : Stmt := (inClass (topS 21) 0)
abbrev s_Offer___init__ : Stmt := (inClass (topS 22) 0)
abbrev s_law_made : Stmt := (topS 29)
abbrev s_law_other : Stmt := (topS 31)
abbrev s_Query___eq__ : Stmt := (inClass (topS 7) 1)
abbrev s_Bound___eq__ : Stmt := (inClass (topS 12) 1)
abbrev s_Part___eq__ : Stmt := (inClass (topS 16) 2)
abbrev s_Norms___eq__ : Stmt := (inClass (topS 17) 4)
abbrev s_Region___eq__ : Stmt := (inClass (topS 19) 1)
abbrev s_Entry___eq__ : Stmt := (inClass (topS 21) 1)
abbrev s_Offer___eq__ : Stmt := (inClass (topS 22) 4)
abbrev s_law : Stmt := (topS 33)
theorem sc_law_row : FnScope ["script", "k", "cell", "a", "b", "c"] ["script", "k"] (defScope s_law_row) := ⟨rfl, rfl, rfl, by decide +kernel, rfl, by decide +kernel, by decide +kernel⟩
theorem sc_law_next : FnScope ["state", "many", "drawn"] ["state", "many"] (defScope s_law_next) := ⟨rfl, rfl, rfl, by decide +kernel, rfl, by decide +kernel, by decide +kernel⟩
theorem sc_Record___init__ : FnScope ["self", "name", "vector", "fields", "words", "pair"] ["self", "name", "vector", "fields", "words"] (defScope s_Record___init__) := ⟨rfl, rfl, rfl, by decide +kernel, rfl, by decide +kernel, by decide +kernel⟩
theorem sc_kind_of_value : FnScope ["worth"] ["worth"] (defScope s_kind_of_value) := ⟨rfl, rfl, rfl, by decide +kernel, rfl, by decide +kernel, by decide +kernel⟩
theorem sc_same_fields : FnScope ["ones", "others", "kinds", "_", "worth"] ["ones", "others"] (defScope s_same_fields) := ⟨rfl, rfl, rfl, by decide +kernel, rfl, by decide +kernel, by decide +kernel⟩
theorem sc_Record___eq__ : FnScope ["self", "other"] ["self", "other"] (defScope s_Record___eq__) := ⟨rfl, rfl, rfl, by decide +kernel, rfl, by decide +kernel, by decide +kernel⟩
theorem sc_law_flags : FnScope ["one", "two"] [] (defScope s_law_flags) := ⟨rfl, rfl, rfl, by decide +kernel, rfl, by decide +kernel, by decide +kernel⟩
theorem sc_law_numbers : FnScope ["state", "k"] ["state"] (defScope s_law_numbers) := ⟨rfl, rfl, rfl, by decide +kernel, rfl, by decide +kernel, by decide +kernel⟩
theorem sc_law_parts : FnScope ["state", "kind", "numbers", "number"] ["state", "kind"] (defScope s_law_parts) := ⟨rfl, rfl, rfl, by decide +kernel, rfl, by decide +kernel, by decide +kernel⟩
theorem sc_law_record : FnScope ["parts"] ["parts"] (defScope s_law_record) := ⟨rfl, rfl, rfl, by decide +kernel, rfl, by decide +kernel, by decide +kernel⟩
theorem sc_Query___init__ : FnScope ["self", "vector", "near", "words", "text", "most", "pair"] ["self", "vector", "near", "words", "text", "most"] (defScope s_Query___init__) := ⟨rfl, rfl, rfl, by decide +kernel, rfl, by decide +kernel, by decide +kernel⟩
theorem sc_law_query : FnScope ["parts"] ["parts"] (defScope s_law_query) := ⟨rfl, rfl, rfl, by decide +kernel, rfl, by decide +kernel, by decide +kernel⟩
theorem sc_Part___init__ : FnScope ["self", "start", "centre", "radius"] ["self", "start", "centre", "radius"] (defScope s_Part___init__) := ⟨rfl, rfl, rfl, by decide +kernel, rfl, by decide +kernel, by decide +kernel⟩
theorem sc_Bound___init__ : FnScope ["self", "cost", "name", "can"] ["self", "cost", "name", "can"] (defScope s_Bound___init__) := ⟨rfl, rfl, rfl, by decide +kernel, rfl, by decide +kernel, by decide +kernel⟩
theorem sc_Norms___init__ : FnScope ["self", "low", "high"] ["self", "low", "high"] (defScope s_Norms___init__) := ⟨rfl, rfl, rfl, by decide +kernel, rfl, by decide +kernel, by decide +kernel⟩
theorem sc_Region___init__ : FnScope ["self", "parent", "facts"] ["self", "parent", "facts"] (defScope s_Region___init__) := ⟨rfl, rfl, rfl, by decide +kernel, rfl, by decide +kernel, by decide +kernel⟩
theorem sc_Entry___init__ : FnScope ["self", "number", "record", "leaves"] ["self", "number", "record", "leaves"] (defScope s_Entry___init__) := ⟨rfl, rfl, rfl, by decide +kernel, rfl, by decide +kernel, by decide +kernel⟩
theorem sc_Offer___init__ : FnScope ["self", "partitions", "entries", "regions"] ["self", "partitions", "entries"] (defScope s_Offer___init__) := ⟨rfl, rfl, rfl, by decide +kernel, rfl, by decide +kernel, by decide +kernel⟩
theorem sc_law_made : FnScope ["kind", "parts", "number", "regions"] ["kind", "parts"] (defScope s_law_made) := ⟨rfl, rfl, rfl, by decide +kernel, rfl, by decide +kernel, by decide +kernel⟩
theorem sc_law_other : FnScope ["kind", "at", "part"] ["kind", "at", "part"] (defScope s_law_other) := ⟨rfl, rfl, rfl, by decide +kernel, rfl, by decide +kernel, by decide +kernel⟩
theorem sc_Query___eq__ : FnScope ["self", "other"] ["self", "other"] (defScope s_Query___eq__) := ⟨rfl, rfl, rfl, by decide +kernel, rfl, by decide +kernel, by decide +kernel⟩
theorem sc_Bound___eq__ : FnScope ["self", "other"] ["self", "other"] (defScope s_Bound___eq__) := ⟨rfl, rfl, rfl, by decide +kernel, rfl, by decide +kernel, by decide +kernel⟩
theorem sc_Part___eq__ : FnScope ["self", "other"] ["self", "other"] (defScope s_Part___eq__) := ⟨rfl, rfl, rfl, by decide +kernel, rfl, by decide +kernel, by decide +kernel⟩
theorem sc_Norms___eq__ : FnScope ["self", "other"] ["self", "other"] (defScope s_Norms___eq__) := ⟨rfl, rfl, rfl, by decide +kernel, rfl, by decide +kernel, by decide +kernel⟩
theorem sc_Region___eq__ : FnScope ["self", "other"] ["self", "other"] (defScope s_Region___eq__) := ⟨rfl, rfl, rfl, by decide +kernel, rfl, by decide +kernel, by decide +kernel⟩
theorem sc_Entry___eq__ : FnScope ["self", "other"] ["self", "other"] (defScope s_Entry___eq__) := ⟨rfl, rfl, rfl, by decide +kernel, rfl, by decide +kernel, by decide +kernel⟩
theorem sc_Offer___eq__ : FnScope ["self", "other"] ["self", "other"] (defScope s_Offer___eq__) := ⟨rfl, rfl, rfl, by decide +kernel, rfl, by decide +kernel, by decide +kernel⟩
theorem sc_law : FnScope ["script", "state", "kind", "parts", "thing", "at", "changed", "other"] ["script"] (defScope s_law) := ⟨rfl, rfl, rfl, by decide +kernel, rfl, by decide +kernel, by decide +kernel⟩
/-! the mathematics -/
open TP

theorem getD_lt {ns : List Int} {k : Nat} (h : k < ns.length) : ns[k]? = some (ns.getD k 0) := by
  rw [List.getD_eq_getElem?_getD, List.getElem?_eq_getElem h]; rfl
theorem getD_ge {ns : List Int} {k : Nat} (h : ¬ k < ns.length) : ns.getD k 0 = 0 := by
  rw [List.getD_eq_getElem?_getD, List.getElem?_eq_none (by omega)]; rfl
def row1 (ns : List Int) (k : Nat) : Int := if ns.getD k 0 < 0 then -2 * ns.getD k 0 - 1 else ns.getD k 0
def rowA (c : Int) (k : Nat) : Int := (c * 48271 + k * 69621 + 11) % 2147483647
def rowB (a c : Int) (k : Nat) : Int := (a * 16807 + c * 7 + k + 5) % 2147483629
def rowC (a b : Int) : Int := (b * 39373 + a * b + 3) % 2147483587
theorem rowZ_hi {ns : List Int} {k : Nat} (h : ¬ row1 ns k < 10 ^ 9) : rowZ ns k = row1 ns k := by
  unfold rowZ
  exact if_neg h
theorem rowZ_lo {ns : List Int} {k : Nat} (h : row1 ns k < 10 ^ 9) : rowZ ns k = rowA (row1 ns k) k + rowB (rowA (row1 ns k) k) (row1 ns k) k * 2147483647 + rowC (rowA (row1 ns k) k) (rowB (rowA (row1 ns k) k) (row1 ns k) k) * 2147483647 ^ 2 := by
  unfold rowZ
  exact if_pos h
theorem row1_nn (ns : List Int) (k : Nat) : 0 ≤ row1 ns k := by
  unfold row1
  by_cases h : ns.getD k 0 < 0
  · rw [if_pos h]; omega
  · rw [if_neg h]; omega
theorem rowZ_nn (ns : List Int) (k : Nat) : 0 ≤ rowZ ns k := by
  by_cases h : row1 ns k < 10 ^ 9
  · rw [rowZ_lo h]
    have a0 : 0 ≤ rowA (row1 ns k) k := Int.emod_nonneg _ (by decide)
    have b0 : 0 ≤ rowB (rowA (row1 ns k) k) (row1 ns k) k := Int.emod_nonneg _ (by decide)
    have d0 : 0 ≤ rowC (rowA (row1 ns k) k) (rowB (rowA (row1 ns k) k) (row1 ns k) k) := Int.emod_nonneg _ (by decide)
    have e2 : (2147483647 : Int) ^ 2 = 4611686014132420609 := by decide
    rw [e2]
    omega
  · rw [rowZ_hi h]; exact row1_nn ns k

inductive Val
  | i (x : Int)
  | b (x : Bool)
deriving DecidableEq
def Val.p_i : Val → Option Int
  | .i x => some x
  | _ => none
def Val.p_b : Val → Option Bool
  | .b x => some x
  | _ => none
def d_Val : Val → PyData
  | .i x => PyData.int x
  | .b x => PyData.bool x
def Val.is_bool : Val → Bool
  | .i _ => false
  | .b _ => true
def Val.is_int : Val → Bool
  | .i _ => true
  | .b _ => true
structure Record where
  name : Str
  vector : (List Int)
  fields : (List (Str × Val))
  words : (List (Str × Int))
deriving DecidableEq
structure Query where
  vector : (List Int)
  near : Int
  words : (List (Str × Int))
  text : Str
  most : Int
deriving DecidableEq
structure Part where
  start : Int
  centre : (List Int)
  radius : Int
deriving DecidableEq
structure Bound where
  cost : (Option Int)
  name : Str
  can : Bool
deriving DecidableEq
structure Norms where
  low : Int
  high : Int
deriving DecidableEq
structure Region where
  parent : (Option Int)
  facts : (List Norms)
deriving DecidableEq
structure Entry where
  number : Int
  record : Record
  leaves : (List Int)
deriving DecidableEq
structure Offer where
  partitions : (List (List Region))
  entries : (List Entry)
deriving DecidableEq
inductive El
  | i (x : Int)
  | w (x : (Str × Val))
deriving DecidableEq
def El.p_i : El → Option Int
  | .i x => some x
  | _ => none
def El.p_w : El → Option (Str × Val)
  | .w x => some x
  | _ => none
def d_El : El → PyData
  | .i x => PyData.int x
  | .w x => (dP2 PyData.str d_Val) x
def El.is_tuple : El → Bool
  | .i _ => false
  | .w _ => true
inductive Any
  | i (x : Int)
  | b (x : Bool)
  | n (x : Unit)
  | s (x : Str)
  | l (x : (List El))
deriving DecidableEq
def Any.p_i : Any → Option Int
  | .i x => some x
  | _ => none
def Any.p_b : Any → Option Bool
  | .b x => some x
  | _ => none
def Any.p_n : Any → Option Unit
  | .n x => some x
  | _ => none
def Any.p_s : Any → Option Str
  | .s x => some x
  | _ => none
def Any.p_l : Any → Option (List El)
  | .l x => some x
  | _ => none
def Any.on : Any → Option Any
  | .i x => some (.i x)
  | .b x => some (.b x)
  | .n x => none
  | .s x => some (.s x)
  | .l x => some (.l x)
def d_Any : Any → PyData
  | .i x => PyData.int x
  | .b x => PyData.bool x
  | .n x => dNon x
  | .s x => PyData.str x
  | .l x => (dLst d_El) x
def Any.is_bool : Any → Bool
  | .i _ => false
  | .b _ => true
  | .n _ => false
  | .s _ => false
  | .l _ => false
def Any.is_str : Any → Bool
  | .i _ => false
  | .b _ => false
  | .n _ => false
  | .s _ => true
  | .l _ => false
def Any.is_list : Any → Bool
  | .i _ => false
  | .b _ => false
  | .n _ => false
  | .s _ => false
  | .l _ => true
inductive Oth
  | record (x : Record)
  | query (x : Query)
  | part (x : Part)
  | bound (x : Bound)
  | region (x : Region)
  | entry (x : Entry)
  | offer (x : Offer)
  | norms (x : Norms)
  | tu (x : (List Any))
  | li (x : (List Any))
deriving DecidableEq
def Oth.p_record : Oth → Option Record
  | .record x => some x
  | _ => none
def Oth.p_query : Oth → Option Query
  | .query x => some x
  | _ => none
def Oth.p_part : Oth → Option Part
  | .part x => some x
  | _ => none
def Oth.p_bound : Oth → Option Bound
  | .bound x => some x
  | _ => none
def Oth.p_region : Oth → Option Region
  | .region x => some x
  | _ => none
def Oth.p_entry : Oth → Option Entry
  | .entry x => some x
  | _ => none
def Oth.p_offer : Oth → Option Offer
  | .offer x => some x
  | _ => none
def Oth.p_norms : Oth → Option Norms
  | .norms x => some x
  | _ => none
def Oth.p_tu : Oth → Option (List Any)
  | .tu x => some x
  | _ => none
def Oth.p_li : Oth → Option (List Any)
  | .li x => some x
  | _ => none
def Oth.is_Record : Oth → Bool
  | .record _ => true
  | .query _ => false
  | .part _ => false
  | .bound _ => false
  | .region _ => false
  | .entry _ => false
  | .offer _ => false
  | .norms _ => false
  | .tu _ => false
  | .li _ => false
def Oth.is_Query : Oth → Bool
  | .record _ => false
  | .query _ => true
  | .part _ => false
  | .bound _ => false
  | .region _ => false
  | .entry _ => false
  | .offer _ => false
  | .norms _ => false
  | .tu _ => false
  | .li _ => false
def Oth.is_Bound : Oth → Bool
  | .record _ => false
  | .query _ => false
  | .part _ => false
  | .bound _ => true
  | .region _ => false
  | .entry _ => false
  | .offer _ => false
  | .norms _ => false
  | .tu _ => false
  | .li _ => false
def Oth.is_Part : Oth → Bool
  | .record _ => false
  | .query _ => false
  | .part _ => true
  | .bound _ => false
  | .region _ => false
  | .entry _ => false
  | .offer _ => false
  | .norms _ => false
  | .tu _ => false
  | .li _ => false
def Oth.is_Norms : Oth → Bool
  | .record _ => false
  | .query _ => false
  | .part _ => false
  | .bound _ => false
  | .region _ => false
  | .entry _ => false
  | .offer _ => false
  | .norms _ => true
  | .tu _ => false
  | .li _ => false
def Oth.is_Region : Oth → Bool
  | .record _ => false
  | .query _ => false
  | .part _ => false
  | .bound _ => false
  | .region _ => true
  | .entry _ => false
  | .offer _ => false
  | .norms _ => false
  | .tu _ => false
  | .li _ => false
def Oth.is_Entry : Oth → Bool
  | .record _ => false
  | .query _ => false
  | .part _ => false
  | .bound _ => false
  | .region _ => false
  | .entry _ => true
  | .offer _ => false
  | .norms _ => false
  | .tu _ => false
  | .li _ => false
def Oth.is_Offer : Oth → Bool
  | .record _ => false
  | .query _ => false
  | .part _ => false
  | .bound _ => false
  | .region _ => false
  | .entry _ => false
  | .offer _ => true
  | .norms _ => false
  | .tu _ => false
  | .li _ => false
inductive Thing
  | record (x : Record)
  | query (x : Query)
  | part (x : Part)
  | bound (x : Bound)
  | region (x : Region)
  | entry (x : Entry)
  | offer (x : Offer)
deriving DecidableEq
def Thing.p_record : Thing → Option Record
  | .record x => some x
  | _ => none
def Thing.p_query : Thing → Option Query
  | .query x => some x
  | _ => none
def Thing.p_part : Thing → Option Part
  | .part x => some x
  | _ => none
def Thing.p_bound : Thing → Option Bound
  | .bound x => some x
  | _ => none
def Thing.p_region : Thing → Option Region
  | .region x => some x
  | _ => none
def Thing.p_entry : Thing → Option Entry
  | .entry x => some x
  | _ => none
def Thing.p_offer : Thing → Option Offer
  | .offer x => some x
  | _ => none


def F_Record___init__ (x_name : Str) (x_vector : (List Int)) (x_fields : (List (Str × Val))) (x_words : (List (Str × Int))) : Record :=
  (⟨x_name, x_vector, x_fields, x_words⟩ : Record)
def F_kind_of_value (x_worth : Val) : Str :=
  if (x_worth.is_bool) = true then
  ("flag" : Str)
  else
  if (x_worth.is_int) = true then
  ("integer" : Str)
  else
  ("text" : Str)
def F_same_fields (x_ones : (List (Str × Val))) (x_others : (List (Str × Val))) : Bool :=
  ((decide ((x_ones.map (fun (x_23 : (Str × Val)) => (F_kind_of_value x_23.2))) = (x_others.map (fun (x_33 : (Str × Val)) => (F_kind_of_value x_33.2))))) && (PyData.eqv ((dTup (dP2 PyData.str d_Val)) x_ones) ((dTup (dP2 PyData.str d_Val)) x_others)))
def F_Record___eq__ (x_self : Record) (x_other : Oth) : Option Bool :=
  (if (x_other.is_Record) = true then ((x_other.p_record).bind fun u_51 =>
  (if (decide (x_self.name = u_51.name)) = true then ((x_other.p_record).bind fun u_53 =>
  (if (decide (x_self.vector = u_53.vector)) = true then ((x_other.p_record).bind fun u_55 =>
  (if (F_same_fields x_self.fields u_55.fields) = true then ((x_other.p_record).bind fun u_57 =>
  some (decide (x_self.words = u_57.words))) else some false).bind fun b_60 =>
  some b_60) else some false).bind fun b_62 =>
  some b_62) else some false).bind fun b_64 =>
  some b_64) else some false).bind fun b_66 =>
  some b_66
def F_law_flags : Option Bool :=
  (some (F_Record___init__ ("a" : Str) ([(0 : Int)] : List Int) ([(("n" : Str), (Val.i (1 : Int)))] : List (Str × Val)) [])).bind fun x_one_81 =>
  (some (F_Record___init__ ("a" : Str) ([(0 : Int)] : List Int) ([(("n" : Str), (Val.b true))] : List (Str × Val)) [])).bind fun x_two_85 =>
  (F_Record___eq__ x_one_81 (Oth.record x_one_81)).bind fun r_89 =>
  (if r_89 = true then ((F_Record___eq__ x_two_85 (Oth.record x_two_85)).bind fun r_91 =>
  (if r_91 = true then ((F_Record___eq__ x_one_81 (Oth.record x_two_85)).bind fun r_93 =>
  (if (!r_93) = true then ((F_Record___eq__ x_two_85 (Oth.record x_one_81)).bind fun r_95 =>
  some (!r_95)) else some false).bind fun b_98 =>
  some b_98) else some false).bind fun b_100 =>
  some b_100) else some false).bind fun b_102 =>
  some b_102
def F_law_numbers (ds : DS) : Option ((List Int) × DS) :=
  if RangeOk 0 ((1 : Int) + (nxV ds (3 : Int))) then
  (mapS (fun (x_111 : Int) (s_112 : DS) => (some (((nxV s_112 (5 : Int)) - (2 : Int)), (nxS s_112 (5 : Int))) : Option (Int × DS))) (rangeZ 0 ((1 : Int) + (nxV ds (3 : Int)))) (nxS ds (3 : Int))).bind fun l_115 =>
  some (l_115.1, l_115.2) else none
def F_law_parts (ds : DS) (x_kind : Int) : Option ((List Any) × DS) :=
  (F_law_numbers ds).bind fun r_130 =>
  if (decide (x_kind = (0 : Int))) = true then
  ((fun x : (List Int) => ((mapO (fun x : Int => some (El.i x))) x).map Any.l) r_130.1).bind fun u_137 =>
  ((fun x : (List (Str × Int)) => ((mapO (fun x : (Str × Int) => ((fun x : (Str × Int) => ((some : Str → Option Str) x.1).bind fun a => ((fun x : Int => some (Val.i x)) x.2).bind fun b => some (a, b)) x).map El.w)) x).map Any.l) ([(("n" : Str), (nxV r_130.2 (4 : Int)))] : List (Str × Int))).bind fun u_139 =>
  ((fun x : (List (Str × Int)) => ((mapO (fun x : (Str × Int) => ((fun x : (Str × Int) => ((some : Str → Option Str) x.1).bind fun a => ((fun x : Int => some (Val.i x)) x.2).bind fun b => some (a, b)) x).map El.w)) x).map Any.l) ([(("w" : Str), ((1 : Int) + (nxV r_130.2 (4 : Int))))] : List (Str × Int))).bind fun u_141 =>
  some (([(Any.s ("a" : Str)), u_137, u_139, u_141] : List Any), (nxS r_130.2 (4 : Int)))
  else
  if (decide (x_kind = (1 : Int))) = true then
  ((fun x : (List Int) => ((mapO (fun x : Int => some (El.i x))) x).map Any.l) r_130.1).bind fun u_144 =>
  ((fun x : (List (Str × Int)) => ((mapO (fun x : (Str × Int) => ((fun x : (Str × Int) => ((some : Str → Option Str) x.1).bind fun a => ((fun x : Int => some (Val.i x)) x.2).bind fun b => some (a, b)) x).map El.w)) x).map Any.l) ([(("w" : Str), (nxV r_130.2 (4 : Int)))] : List (Str × Int))).bind fun u_146 =>
  some (([u_144, (Any.i (nxV r_130.2 (4 : Int))), u_146, (Any.s ("every" : Str)), (Any.i ((1 : Int) + (nxV r_130.2 (4 : Int))))] : List Any), (nxS r_130.2 (4 : Int)))
  else
  if (decide (x_kind = (2 : Int))) = true then
  ((fun x : (List Int) => ((mapO (fun x : Int => some (El.i x))) x).map Any.l) r_130.1).bind fun u_149 =>
  some (([(Any.i (nxV r_130.2 (4 : Int))), u_149, (Any.i ((nxV r_130.2 (4 : Int)) + (1 : Int)))] : List Any), (nxS r_130.2 (4 : Int)))
  else
  if (decide (x_kind = (3 : Int))) = true then
  (atI ([(Any.i (nxV r_130.2 (4 : Int))), (Any.n ())] : List Any) (nxV (nxS r_130.2 (4 : Int)) (2 : Int))).bind fun i_152 =>
  some (([i_152, (Any.s ("b" : Str)), (Any.b (decide ((1 : Int) < (nxV r_130.2 (4 : Int)))))] : List Any), (nxS (nxS r_130.2 (4 : Int)) (2 : Int)))
  else
  if (decide (x_kind = (4 : Int))) = true then
  (atI ([(Any.i (nxV r_130.2 (4 : Int))), (Any.n ())] : List Any) (nxV (nxS r_130.2 (4 : Int)) (2 : Int))).bind fun i_155 =>
  ((fun x : (List Int) => ((mapO (fun x : Int => some (El.i x))) x).map Any.l) r_130.1).bind fun u_157 =>
  some (([i_155, u_157] : List Any), (nxS (nxS r_130.2 (4 : Int)) (2 : Int)))
  else
  if (decide (x_kind = (5 : Int))) = true then
  ((fun x : (List Int) => ((mapO (fun x : Int => some (El.i x))) x).map Any.l) r_130.1).bind fun u_160 =>
  ((fun x : (List Int) => ((mapO (fun x : Int => some (El.i x))) x).map Any.l) ([(nxV r_130.2 (4 : Int))] : List Int)).bind fun u_162 =>
  some (([(Any.i (nxV r_130.2 (4 : Int))), u_160, u_162] : List Any), (nxS r_130.2 (4 : Int)))
  else
  ((fun x : (List Int) => ((mapO (fun x : Int => some (El.i x))) x).map Any.l) r_130.1).bind fun u_164 =>
  ((fun x : (List Int) => ((mapO (fun x : Int => some (El.i x))) x).map Any.l) ([(nxV r_130.2 (4 : Int)), ((nxV r_130.2 (4 : Int)) + (1 : Int))] : List Int)).bind fun u_166 =>
  some (([u_164, u_166] : List Any), (nxS r_130.2 (4 : Int)))
def F_law_record (x_parts : (List Any)) : Option Record :=
  (atI x_parts (0 : Int)).bind fun i_196 =>
  (i_196.p_s).bind fun u_198 =>
  (atI x_parts (1 : Int)).bind fun i_204 =>
  ((fun x : Any => (x.p_l).bind (mapO El.p_i)) i_204).bind fun u_206 =>
  (atI x_parts (2 : Int)).bind fun i_212 =>
  ((fun x : Any => (x.p_l).bind (mapO El.p_w)) i_212).bind fun u_214 =>
  (atI x_parts (3 : Int)).bind fun i_220 =>
  ((fun x : Any => (x.p_l).bind (mapO (fun x : El => (x.p_w).bind (fun x : (Str × Val) => ((some : Str → Option Str) x.1).bind fun a => (Val.p_i x.2).bind fun b => some (a, b))))) i_220).bind fun u_222 =>
  some (F_Record___init__ u_198 u_206 u_214 u_222)
def F_Query___init__ (x_vector : (List Int)) (x_near : Int) (x_words : (List (Str × Int))) (x_text : Str) (x_most : Int) : Query :=
  (⟨x_vector, x_near, x_words, x_text, x_most⟩ : Query)
def F_law_query (x_parts : (List Any)) : Option Query :=
  (atI x_parts (0 : Int)).bind fun i_272 =>
  ((fun x : Any => (x.p_l).bind (mapO El.p_i)) i_272).bind fun u_274 =>
  (atI x_parts (1 : Int)).bind fun i_276 =>
  (i_276.p_i).bind fun u_278 =>
  (atI x_parts (2 : Int)).bind fun i_284 =>
  ((fun x : Any => (x.p_l).bind (mapO (fun x : El => (x.p_w).bind (fun x : (Str × Val) => ((some : Str → Option Str) x.1).bind fun a => (Val.p_i x.2).bind fun b => some (a, b))))) i_284).bind fun u_286 =>
  (atI x_parts (3 : Int)).bind fun i_288 =>
  (i_288.p_s).bind fun u_290 =>
  (atI x_parts (4 : Int)).bind fun i_292 =>
  (i_292.p_i).bind fun u_294 =>
  some (F_Query___init__ u_274 u_278 u_286 u_290 u_294)
def F_Part___init__ (x_start : Int) (x_centre : (List Int)) (x_radius : Int) : Part :=
  (⟨x_start, x_centre, x_radius⟩ : Part)
def F_Bound___init__ (x_cost : (Option Int)) (x_name : Str) (x_can : Bool) : Bound :=
  (⟨x_cost, x_name, x_can⟩ : Bound)
def F_Norms___init__ (x_low : Int) (x_high : Int) : Norms :=
  (⟨x_low, x_high⟩ : Norms)
def F_Region___init__ (x_parent : (Option Int)) (x_facts : (List Norms)) : Region :=
  (⟨x_parent, x_facts⟩ : Region)
def F_Entry___init__ (x_number : Int) (x_record : Record) (x_leaves : (List Int)) : Entry :=
  (⟨x_number, x_record, x_leaves⟩ : Entry)
def F_Offer___init__ (x_partitions : (List (List Region))) (x_entries : (List Entry)) : Offer :=
  (⟨x_partitions, x_entries⟩ : Offer)
def F_law_made (x_kind : Int) (x_parts : (List Any)) : Option Thing :=
  if (decide (x_kind = (0 : Int))) = true then
  (F_law_record x_parts).bind fun r_336 =>
  some (Thing.record r_336)
  else
  if (decide (x_kind = (1 : Int))) = true then
  (F_law_query x_parts).bind fun r_339 =>
  some (Thing.query r_339)
  else
  if (decide (x_kind = (2 : Int))) = true then
  (atI x_parts (0 : Int)).bind fun i_342 =>
  (i_342.p_i).bind fun u_344 =>
  (atI x_parts (1 : Int)).bind fun i_350 =>
  ((fun x : Any => (x.p_l).bind (mapO El.p_i)) i_350).bind fun u_352 =>
  (atI x_parts (2 : Int)).bind fun i_354 =>
  (i_354.p_i).bind fun u_356 =>
  some (Thing.part (F_Part___init__ u_344 u_352 u_356))
  else
  if (decide (x_kind = (3 : Int))) = true then
  (atI x_parts (0 : Int)).bind fun i_359 =>
  ((fun x : Any => match x with | .n _ => some none | .i y => some (some y) | _ => none) i_359).bind fun u_361 =>
  (atI x_parts (1 : Int)).bind fun i_363 =>
  (i_363.p_s).bind fun u_365 =>
  (atI x_parts (2 : Int)).bind fun i_367 =>
  (i_367.p_b).bind fun u_369 =>
  some (Thing.bound (F_Bound___init__ u_361 u_365 u_369))
  else
  if (decide (x_kind = (4 : Int))) = true then
  (atI x_parts (0 : Int)).bind fun i_372 =>
  ((fun x : Any => match x with | .n _ => some none | .i y => some (some y) | _ => none) i_372).bind fun u_374 =>
  (atI x_parts (1 : Int)).bind fun i_380 =>
  ((fun x : Any => (x.p_l).bind (mapO El.p_i)) i_380).bind fun u_382 =>
  some (Thing.region (F_Region___init__ u_374 (u_382.map (fun (x_384 : Int) => (F_Norms___init__ (0 : Int) x_384)))))
  else
  if (decide (x_kind = (5 : Int))) = true then
  (atI x_parts (0 : Int)).bind fun i_388 =>
  (i_388.p_i).bind fun u_390 =>
  (atI x_parts (1 : Int)).bind fun i_392 =>
  (F_law_record ([(Any.s ("a" : Str)), i_392, (Any.l []), (Any.l [])] : List Any)).bind fun r_394 =>
  (atI x_parts (2 : Int)).bind fun i_400 =>
  ((fun x : Any => (x.p_l).bind (mapO El.p_i)) i_400).bind fun u_402 =>
  some (Thing.entry (F_Entry___init__ u_390 r_394 u_402))
  else
  (atI x_parts (0 : Int)).bind fun i_408 =>
  ((fun x : Any => (x.p_l).bind (mapO El.p_i)) i_408).bind fun u_410 =>
  (some (u_410.map (fun (x_412 : Int) => (F_Region___init__ none ([(F_Norms___init__ (0 : Int) x_412)] : List Norms))))).bind fun x_regions_415 =>
  (atI x_parts (1 : Int)).bind fun i_423 =>
  ((fun x : Any => (x.p_l).bind (mapO El.p_i)) i_423).bind fun u_425 =>
  (mapO (fun (x_427 : Int) => (((fun x : (List Int) => ((mapO (fun x : Int => some (El.i x))) x).map Any.l) ([(0 : Int)] : List Int)).bind fun u_430 =>
  (F_law_record ([(Any.s ("a" : Str)), u_430, (Any.l []), (Any.l [])] : List Any)).bind fun r_432 =>
  some (F_Entry___init__ x_427 r_432 ([(0 : Int)] : List Int)) : Option Entry)) u_425).bind fun l_434 =>
  some (Thing.offer (F_Offer___init__ ([x_regions_415] : List (List Region)) l_434))
def F_law_other (x_kind : Int) (x_at : Int) (x_part : Any) : Option Any :=
  if (x_part.is_bool) = true then
  (x_part.p_b).bind fun u_440 =>
  some (Any.b (!u_440))
  else
  if ((Any.on x_part).isNone) = true then
  some (Any.i (0 : Int))
  else
  if (x_part.is_str) = true then
  (x_part.p_s).bind fun u_446 =>
  if u_446.length + ("x" : Str).length ≤ 16777216 then
  some (Any.s (u_446 ++ ("x" : Str))) else none
  else
  if (x_part.is_list) = true then
  if ((decide (x_kind = (0 : Int))) && (decide (x_at = (2 : Int)))) = true then
  (x_part.p_l).bind fun u_459 =>
  (atI u_459 (0 : Int)).bind fun i_461 =>
  (i_461.p_w).bind fun u_463 =>
  (u_463.2.p_i).bind fun u_465 =>
  ((fun x : (List (Str × Int)) => ((mapO (fun x : (Str × Int) => ((fun x : (Str × Int) => ((some : Str → Option Str) x.1).bind fun a => ((fun x : Int => some (Val.i x)) x.2).bind fun b => some (a, b)) x).map El.w)) x).map Any.l) ([(("n" : Str), (u_465 + (1 : Int)))] : List (Str × Int))).bind fun u_467 =>
  some u_467
  else
  (if (decide (x_kind < (2 : Int))) = true then ((x_part.p_l).bind fun u_471 =>
  (if (decide ((0 : Int) < (u_471.length : Int))) = true then ((x_part.p_l).bind fun u_473 =>
  (atI u_473 (0 : Int)).bind fun i_475 =>
  some (i_475.is_tuple)) else some false).bind fun b_478 =>
  some b_478) else some false).bind fun b_480 =>
  if b_480 = true then
  (x_part.p_l).bind fun u_490 =>
  (atI u_490 (0 : Int)).bind fun i_492 =>
  (i_492.p_w).bind fun u_494 =>
  (u_494.2.p_i).bind fun u_496 =>
  ((fun x : (List (Str × Int)) => ((mapO (fun x : (Str × Int) => ((fun x : (Str × Int) => ((some : Str → Option Str) x.1).bind fun a => ((fun x : Int => some (Val.i x)) x.2).bind fun b => some (a, b)) x).map El.w)) x).map Any.l) ([(("w" : Str), (u_496 + (1 : Int)))] : List (Str × Int))).bind fun u_498 =>
  some u_498
  else
  (x_part.p_l).bind fun u_502 =>
  if u_502.length + ([(El.i (7 : Int))] : List El).length ≤ 16777216 then
  some (Any.l (u_502 ++ ([(El.i (7 : Int))] : List El))) else none
  else
  (x_part.p_i).bind fun u_507 =>
  some (Any.i (u_507 + (1 : Int)))
def F_Query___eq__ (x_self : Query) (x_other : Oth) : Option Bool :=
  (if (x_other.is_Query) = true then ((x_other.p_query).bind fun u_521 =>
  (if (decide (x_self.vector = u_521.vector)) = true then ((x_other.p_query).bind fun u_523 =>
  (if (decide (x_self.near = u_523.near)) = true then ((x_other.p_query).bind fun u_525 =>
  (if (decide (x_self.words = u_525.words)) = true then ((x_other.p_query).bind fun u_527 =>
  (if (decide (x_self.text = u_527.text)) = true then ((x_other.p_query).bind fun u_529 =>
  some (decide (x_self.most = u_529.most))) else some false).bind fun b_532 =>
  some b_532) else some false).bind fun b_534 =>
  some b_534) else some false).bind fun b_536 =>
  some b_536) else some false).bind fun b_538 =>
  some b_538) else some false).bind fun b_540 =>
  some b_540
def F_Bound___eq__ (x_self : Bound) (x_other : Oth) : Option Bool :=
  (if (x_other.is_Bound) = true then ((x_other.p_bound).bind fun u_549 =>
  (if (decide (x_self.cost = u_549.cost)) = true then ((x_other.p_bound).bind fun u_551 =>
  (if (decide (x_self.name = u_551.name)) = true then ((x_other.p_bound).bind fun u_553 =>
  some (decide (x_self.can = u_553.can))) else some false).bind fun b_556 =>
  some b_556) else some false).bind fun b_558 =>
  some b_558) else some false).bind fun b_560 =>
  some b_560
def F_Part___eq__ (x_self : Part) (x_other : Oth) : Option Bool :=
  (if (x_other.is_Part) = true then ((x_other.p_part).bind fun u_569 =>
  (if (decide (x_self.start = u_569.start)) = true then ((x_other.p_part).bind fun u_571 =>
  (if (decide (x_self.centre = u_571.centre)) = true then ((x_other.p_part).bind fun u_573 =>
  some (decide (x_self.radius = u_573.radius))) else some false).bind fun b_576 =>
  some b_576) else some false).bind fun b_578 =>
  some b_578) else some false).bind fun b_580 =>
  some b_580
def F_Norms___eq__ (x_self : Norms) (x_other : Oth) : Option Bool :=
  (if (x_other.is_Norms) = true then ((x_other.p_norms).bind fun u_587 =>
  (if (decide (x_self.low = u_587.low)) = true then ((x_other.p_norms).bind fun u_589 =>
  some (decide (x_self.high = u_589.high))) else some false).bind fun b_592 =>
  some b_592) else some false).bind fun b_594 =>
  some b_594
def F_Region___eq__ (x_self : Region) (x_other : Oth) : Option Bool :=
  (if (x_other.is_Region) = true then ((x_other.p_region).bind fun u_601 =>
  (if (decide (x_self.parent = u_601.parent)) = true then ((x_other.p_region).bind fun u_603 =>
  some (decide (x_self.facts = u_603.facts))) else some false).bind fun b_606 =>
  some b_606) else some false).bind fun b_608 =>
  some b_608
def F_Entry___eq__ (x_self : Entry) (x_other : Oth) : Option Bool :=
  (if (x_other.is_Entry) = true then ((x_other.p_entry).bind fun u_619 =>
  (if (decide (x_self.number = u_619.number)) = true then ((x_other.p_entry).bind fun u_621 =>
  (F_Record___eq__ x_self.record (Oth.record u_621.record)).bind fun r_623 =>
  (if r_623 = true then ((x_other.p_entry).bind fun u_625 =>
  some (decide (x_self.leaves = u_625.leaves))) else some false).bind fun b_628 =>
  some b_628) else some false).bind fun b_630 =>
  some b_630) else some false).bind fun b_632 =>
  some b_632
def F_Offer___eq__ (x_self : Offer) (x_other : Oth) : Option Bool :=
  (if (x_other.is_Offer) = true then ((x_other.p_offer).bind fun u_639 =>
  (if (decide (x_self.partitions = u_639.partitions)) = true then ((x_other.p_offer).bind fun u_641 =>
  some (decide (x_self.entries = u_641.entries))) else some false).bind fun b_644 =>
  some b_644) else some false).bind fun b_646 =>
  some b_646
def A_law_1 (x : Thing) (z0 : Oth) : Option Bool := match x with
  | .record y => F_Record___eq__ y z0
  | .query y => F_Query___eq__ y z0
  | .part y => F_Part___eq__ y z0
  | .bound y => F_Bound___eq__ y z0
  | .region y => F_Region___eq__ y z0
  | .entry y => F_Entry___eq__ y z0
  | .offer y => F_Offer___eq__ y z0
def A_law_2 (x : Thing) (z0 : Oth) : Option Bool := match x with
  | .record y => F_Record___eq__ y z0
  | .query y => F_Query___eq__ y z0
  | .part y => F_Part___eq__ y z0
  | .bound y => F_Bound___eq__ y z0
  | .region y => F_Region___eq__ y z0
  | .entry y => F_Entry___eq__ y z0
  | .offer y => F_Offer___eq__ y z0
def A_law_3 (x : Thing) (z0 : Oth) : Option Bool := match x with
  | .record y => F_Record___eq__ y z0
  | .query y => F_Query___eq__ y z0
  | .part y => F_Part___eq__ y z0
  | .bound y => F_Bound___eq__ y z0
  | .region y => F_Region___eq__ y z0
  | .entry y => F_Entry___eq__ y z0
  | .offer y => F_Offer___eq__ y z0
def A_law_4 (x : Thing) (z0 : Oth) : Option Bool := match x with
  | .record y => F_Record___eq__ y z0
  | .query y => F_Query___eq__ y z0
  | .part y => F_Part___eq__ y z0
  | .bound y => F_Bound___eq__ y z0
  | .region y => F_Region___eq__ y z0
  | .entry y => F_Entry___eq__ y z0
  | .offer y => F_Offer___eq__ y z0
def A_law_5 (x : Thing) (z0 : Oth) : Option Bool := match x with
  | .record y => F_Record___eq__ y z0
  | .query y => F_Query___eq__ y z0
  | .part y => F_Part___eq__ y z0
  | .bound y => F_Bound___eq__ y z0
  | .region y => F_Region___eq__ y z0
  | .entry y => F_Entry___eq__ y z0
  | .offer y => F_Offer___eq__ y z0
def L_law_2 (x_651 : Int) (r_675 : ((List Any) × DS)) (r_679 : Thing) (x_700 : Int) (w_699 : Unit) : Option (Flow Bool Unit) :=
  (atI r_675.1 x_700).bind fun i_728 =>
  (F_law_other x_651 x_700 i_728).bind fun r_730 =>
  (ixN r_675.1.length x_700).bind fun j_732 =>
  (F_law_made x_651 (r_675.1.set j_732 r_730)).bind fun r_736 =>
  ((fun x : Thing => (match x with | .record y => some (.record y) | .query y => some (.query y) | .part y => some (.part y) | .bound y => some (.bound y) | .region y => some (.region y) | .entry y => some (.entry y) | .offer y => some (.offer y) : Option Oth)) r_736).bind fun u_740 =>
  (A_law_4 r_679 u_740).bind fun r_742 =>
  (if r_742 = true then some true else (((fun x : Thing => (match x with | .record y => some (.record y) | .query y => some (.query y) | .part y => some (.part y) | .bound y => some (.bound y) | .region y => some (.region y) | .entry y => some (.entry y) | .offer y => some (.offer y) : Option Oth)) r_679).bind fun u_744 =>
  (A_law_5 r_736 u_744).bind fun r_746 =>
  some r_746)).bind fun b_749 =>
  if b_749 = true then
  some (Flow.ret false)
  else
  some (Flow.go ())
def L_law_1 (x_651 : Int) (w_650 : DS) : Option (Flow Bool DS) :=
  (F_law_parts w_650 x_651).bind fun r_675 =>
  (F_law_made x_651 r_675.1).bind fun r_679 =>
  (F_law_made x_651 r_675.1).bind fun r_683 =>
  ((fun x : Thing => (match x with | .record y => some (.record y) | .query y => some (.query y) | .part y => some (.part y) | .bound y => some (.bound y) | .region y => some (.region y) | .entry y => some (.entry y) | .offer y => some (.offer y) : Option Oth)) r_683).bind fun u_685 =>
  (A_law_1 r_679 u_685).bind fun r_687 =>
  (if (!r_687) = true then some true else ((A_law_2 r_679 (Oth.tu r_675.1)).bind fun r_689 =>
  (if r_689 = true then some true else ((A_law_3 r_679 (Oth.li r_675.1)).bind fun r_691 =>
  some r_691)).bind fun b_694 =>
  some b_694)).bind fun b_696 =>
  if b_696 = true then
  some (Flow.ret false)
  else
  if RangeOk 0 (r_675.1.length : Int) then
  (forS (L_law_2 x_651 r_675 r_679) (rangeZ 0 (r_675.1.length : Int)) ()).bind (Flow.thn (fun w_713 =>
  some (Flow.go r_675.2)) (fun r => some (Flow.ret r))) else none
def F_law (ns : List Int) : Option Bool :=
  (F_law_flags).bind fun r_647 =>
  if (!r_647) = true then
  some false
  else
  (forS L_law_1 (rangeZ 0 (7 : Int)) (DS.mk ns 0 0)).bind (Flow.thn (fun w_664 =>
  some true) (fun r => some r))
-- MATH BEGINS
/-! == of each class -/
theorem same_iff : ∀ xs ys : List (Str × Val), (xs.map (fun x => F_kind_of_value x.2) = ys.map (fun x => F_kind_of_value x.2) ∧ PyData.eqvAll (xs.map (dP2 PyData.str d_Val)) (ys.map (dP2 PyData.str d_Val)) = true) ↔ xs = ys
  | [], [] => by simp [PyData.eqvAll]
  | [], _ :: _ => by simp [PyData.eqvAll]
  | _ :: _, [] => by simp [PyData.eqvAll]
  | (a, u) :: xs, (b, v) :: ys => by
    have ih := same_iff xs ys
    have k1 : ∀ x : Int, F_kind_of_value (Val.i x) = "integer" := fun _ => rfl
    have k2 : ∀ x : Bool, F_kind_of_value (Val.b x) = "flag" := fun _ => rfl
    have n1 : ¬ ("integer" : Str) = "flag" := by decide +kernel
    have n2 : ¬ ("flag" : Str) = "integer" := by decide +kernel
    simp only [List.map_cons, List.cons.injEq, PyData.eqvAll, Bool.and_eq_true, Prod.mk.injEq]
    rw [← ih]
    have p : PyData.eqv (dP2 PyData.str d_Val (a, u)) (dP2 PyData.str d_Val (b, v)) = (a == b && PyData.eqv (d_Val u) (d_Val v)) := by simp [dP2, PyData.eqv, PyData.eqvAll]
    rw [p]
    cases u <;> cases v <;> simp [k1, k2, n1, n2, d_Val, PyData.eqv] <;> grind
theorem same_eq (xs ys : List (Str × Val)) : F_same_fields xs ys = decide (xs = ys) := by
  unfold F_same_fields
  have h := same_iff xs ys
  have e : PyData.eqv ((dTup (dP2 PyData.str d_Val)) xs) ((dTup (dP2 PyData.str d_Val)) ys) = PyData.eqvAll (xs.map (dP2 PyData.str d_Val)) (ys.map (dP2 PyData.str d_Val)) := rfl
  rw [e, Bool.eq_iff_iff, Bool.and_eq_true, decide_eq_true_iff, decide_eq_true_iff]
  exact h
theorem eq_Record (x y : Record) : F_Record___eq__ x (Oth.record y) = some (decide (x = y)) := by
  unfold F_Record___eq__
  obtain ⟨a1, a2, a3, a4⟩ := x
  obtain ⟨b1, b2, b3, b4⟩ := y
  simp only [same_eq, Oth.is_Record, Oth.p_record, if_true, TP.bsome, Record.mk.injEq]
  by_cases h1 : a1 = b1 <;> by_cases h2 : a2 = b2 <;> by_cases h3 : a3 = b3 <;> by_cases h4 : a4 = b4 <;> simp [h1, h2, h3, h4]
theorem eq_Norms (x y : Norms) : F_Norms___eq__ x (Oth.norms y) = some (decide (x = y)) := by
  unfold F_Norms___eq__
  obtain ⟨a1, a2⟩ := x
  obtain ⟨b1, b2⟩ := y
  simp only [Oth.is_Norms, Oth.p_norms, if_true, TP.bsome, Norms.mk.injEq]
  by_cases h1 : a1 = b1 <;> by_cases h2 : a2 = b2 <;> simp [h1, h2]
theorem eq_Region (x y : Region) : F_Region___eq__ x (Oth.region y) = some (decide (x = y)) := by
  unfold F_Region___eq__
  obtain ⟨a1, a2⟩ := x
  obtain ⟨b1, b2⟩ := y
  simp only [Oth.is_Region, Oth.p_region, if_true, TP.bsome, Region.mk.injEq]
  by_cases h1 : a1 = b1 <;> by_cases h2 : a2 = b2 <;> simp [h1, h2]
theorem eq_Entry (x y : Entry) : F_Entry___eq__ x (Oth.entry y) = some (decide (x = y)) := by
  unfold F_Entry___eq__
  obtain ⟨a1, a2, a3⟩ := x
  obtain ⟨b1, b2, b3⟩ := y
  simp only [eq_Record, Oth.is_Entry, Oth.p_entry, if_true, TP.bsome, Entry.mk.injEq]
  by_cases h1 : a1 = b1 <;> by_cases h2 : a2 = b2 <;> by_cases h3 : a3 = b3 <;> simp [h1, h2, h3]
theorem eq_Offer (x y : Offer) : F_Offer___eq__ x (Oth.offer y) = some (decide (x = y)) := by
  unfold F_Offer___eq__
  obtain ⟨a1, a2⟩ := x
  obtain ⟨b1, b2⟩ := y
  simp only [Oth.is_Offer, Oth.p_offer, if_true, TP.bsome, Offer.mk.injEq]
  by_cases h1 : a1 = b1 <;> by_cases h2 : a2 = b2 <;> simp [h1, h2]
theorem eq_Part (x y : Part) : F_Part___eq__ x (Oth.part y) = some (decide (x = y)) := by
  unfold F_Part___eq__
  obtain ⟨a1, a2, a3⟩ := x
  obtain ⟨b1, b2, b3⟩ := y
  simp only [Oth.is_Part, Oth.p_part, if_true, TP.bsome, Part.mk.injEq]
  by_cases h1 : a1 = b1 <;> by_cases h2 : a2 = b2 <;> by_cases h3 : a3 = b3 <;> simp [h1, h2, h3]
theorem eq_Bound (x y : Bound) : F_Bound___eq__ x (Oth.bound y) = some (decide (x = y)) := by
  unfold F_Bound___eq__
  obtain ⟨a1, a2, a3⟩ := x
  obtain ⟨b1, b2, b3⟩ := y
  simp only [Oth.is_Bound, Oth.p_bound, if_true, TP.bsome, Bound.mk.injEq]
  by_cases h1 : a1 = b1 <;> by_cases h2 : a2 = b2 <;> by_cases h3 : a3 = b3 <;> simp [h1, h2, h3]
theorem eq_Query (x y : Query) : F_Query___eq__ x (Oth.query y) = some (decide (x = y)) := by
  unfold F_Query___eq__
  obtain ⟨a1, a2, a3, a4, a5⟩ := x
  obtain ⟨b1, b2, b3, b4, b5⟩ := y
  simp only [Oth.is_Query, Oth.p_query, if_true, TP.bsome, Query.mk.injEq]
  by_cases h1 : a1 = b1 <;> by_cases h2 : a2 = b2 <;> by_cases h3 : a3 = b3 <;> by_cases h4 : a4 = b4 <;> by_cases h5 : a5 = b5 <;> simp [h1, h2, h3, h4, h5]
def toO : Thing → Oth
  | .record y => .record y | .query y => .query y | .part y => .part y | .bound y => .bound y | .region y => .region y | .entry y => .entry y | .offer y => .offer y
theorem eq_Thing (x y : Thing) : A_law_1 x (toO y) = some (decide (x = y)) := by
  cases x <;> cases y <;> first
    | (simp only [Thing.record.injEq]; exact eq_Record _ _)
    | (simp only [Thing.query.injEq]; exact eq_Query _ _)
    | (simp only [Thing.part.injEq]; exact eq_Part _ _)
    | (simp only [Thing.bound.injEq]; exact eq_Bound _ _)
    | (simp only [Thing.region.injEq]; exact eq_Region _ _)
    | (simp only [Thing.entry.injEq]; exact eq_Entry _ _)
    | (simp only [Thing.offer.injEq]; exact eq_Offer _ _)
    | (rw [decide_eq_false (fun h => nomatch h)]; rfl)
theorem no_tu (x : Thing) (l : List Any) : A_law_2 x (Oth.tu l) = some false := by cases x <;> rfl
theorem no_li (x : Thing) (l : List Any) : A_law_3 x (Oth.li l) = some false := by cases x <;> rfl
/-! what is made, what is changed -/
theorem mI (l : List Int) : mapO (fun x : Int => some (El.i x)) l = some (l.map El.i) := mapO_eq fun _ _ => rfl
theorem pI : ∀ l : List Int, mapO El.p_i (l.map El.i) = some l
  | [] => rfl
  | x :: r => by
    show (some x).bind _ = _
    rw [bsome, pI r, bsome]
theorem pI7 (l : List Int) : mapO El.p_i (l.map El.i ++ [El.i 7]) = some (l ++ [7]) := by
  have := pI (l ++ [7])
  rwa [List.map_append] at this
theorem numbers_ex (s : DS) : ∃ l s', F_law_numbers s = some (l, s') ∧ l.length ≤ 3 := by
  unfold F_law_numbers
  have b0 := nx_ge s (m := 3) (by decide)
  have b1 := nx_lt s (m := 3) (by decide)
  rw [if_pos (rangeOk_of (by omega) (by omega) (by omega) (by omega))]
  obtain ⟨ys, s', e, l2, _⟩ := mapS_mem (f := fun (x_111 : Int) (s_112 : DS) => (some (((nxV s_112 (5 : Int)) - (2 : Int)), (nxS s_112 (5 : Int))) : Option (Int × DS))) (R := fun _ => True) (xs := rangeZ 0 ((1 : Int) + (nxV s (3 : Int)))) (nxS s 3) (fun _ _ _ => ⟨_, _, rfl, trivial⟩)
  rw [rangeZ_len] at l2
  rw [e, bsome]
  exact ⟨ys, s', rfl, by omega⟩
theorem other_i (k a x : Int) : F_law_other k a (Any.i x) = some (Any.i (x + 1)) := rfl
theorem other_b (k a : Int) (x : Bool) : F_law_other k a (Any.b x) = some (Any.b (!x)) := rfl
theorem other_n (k a : Int) : F_law_other k a (Any.n ()) = some (Any.i 0) := rfl
theorem flags_true : F_law_flags = some true := by
  unfold F_law_flags
  rw [bsome, bsome]
  rw [eq_Record, eq_Record, eq_Record, eq_Record]
  decide +kernel
theorem at0 {α : Type} (x : α) (r : List α) : L2.atI (x :: r) 0 = some x := by rw [atI_of (by decide)]; rfl
theorem at1 {α : Type} (x y : α) (r : List α) : L2.atI (x :: y :: r) 1 = some y := by rw [atI_of (by decide)]; rfl
theorem at2 {α : Type} (x y z : α) (r : List α) : L2.atI (x :: y :: z :: r) 2 = some z := by rw [atI_of (by decide)]; rfl
theorem at3 {α : Type} (x y z u : α) (r : List α) : L2.atI (x :: y :: z :: u :: r) 3 = some u := by rw [atI_of (by decide)]; rfl
theorem at4 {α : Type} (x y z u v : α) (r : List α) : L2.atI (x :: y :: z :: u :: v :: r) 4 = some v := by rw [atI_of (by decide)]; rfl
theorem rec_eq {n : Str} {L : List El} {l : List Int} (h : mapO El.p_i L = some l) (F W : List (Str × Int)) : F_law_record [Any.s n, Any.l L, Any.l (F.map fun x => El.w (x.1, Val.i x.2)), Any.l (W.map fun x => El.w (x.1, Val.i x.2))] = some ⟨n, l, F.map fun x => (x.1, Val.i x.2), W⟩ := by
  unfold F_law_record
  have h1 : mapO El.p_w (F.map fun x => El.w (x.1, Val.i x.2)) = some (F.map fun x => (x.1, Val.i x.2)) := by
    induction F with
    | nil => rfl
    | cons x r ih => show (some _).bind _ = _; rw [bsome, ih, bsome]; rfl
  have h2 : mapO (fun x : El => (x.p_w).bind (fun x : (Str × Val) => ((some : Str → Option Str) x.1).bind fun a => (Val.p_i x.2).bind fun b => some (a, b))) (W.map fun x => El.w (x.1, Val.i x.2)) = some W := by
    induction W with
    | nil => rfl
    | cons x r ih => show (some _).bind _ = _; rw [bsome, ih, bsome]
  rw [at0, bsome]
  show (some n).bind _ = _
  rw [bsome, at1, bsome]
  show (mapO El.p_i L).bind _ = _
  rw [h, bsome, at2, bsome]
  show (mapO El.p_w _).bind _ = _
  rw [h1, bsome, at3, bsome]
  show (mapO _ _).bind _ = _
  rw [h2, bsome]
  rfl
theorem kind_step {k : Int} {parts : List Any} {t : Thing} {s s' : DS} (hp : F_law_parts s k = some (parts, s')) (hm : F_law_made k parts = some t) (hc : ∀ (i : Nat) (x : Any), parts[i]? = some x → ∃ w t', F_law_other k (i : Int) x = some w ∧ F_law_made k (parts.set i w) = some t' ∧ t ≠ t') (hl : parts.length ≤ 10) : L_law_1 k s = some (.go s') := by
  have e4 : A_law_4 = A_law_1 := rfl
  have e5 : A_law_5 = A_law_1 := rfl
  have ec : ∀ t : Thing, (match t with | .record y => some (Oth.record y) | .query y => some (.query y) | .part y => some (.part y) | .bound y => some (.bound y) | .region y => some (.region y) | .entry y => some (.entry y) | .offer y => some (.offer y) : Option Oth) = some (toO t) := fun t => by cases t <;> rfl
  unfold L_law_1
  rw [hp, bsome]
  dsimp only
  rw [hm, bsome, bsome, ec, bsome, eq_Thing, bsome, decide_eq_true rfl, if_neg (by decide), no_tu, bsome, if_neg (by decide), no_li, bsome, bsome, bsome, if_neg (by decide), if_pos (rangeOk_of (by omega) (by omega) (by omega) (by omega))]
  obtain ⟨u, e, _⟩ := forS_mem (f := L_law_2 k (parts, s') t) (I := fun _ => True) (xs := rangeZ 0 (parts.length : Int)) (b := ()) trivial fun x hx _ _ => by
    obtain ⟨a, b⟩ := rangeZ_mem hx
    obtain ⟨n, rfl⟩ := Int.eq_ofNat_of_zero_le a
    have hn : n < parts.length := by omega
    obtain ⟨w, t', h1, h2, h3⟩ := hc n _ (List.getElem?_eq_getElem hn)
    unfold L_law_2
    dsimp only
    rw [TP.atI_nat (List.getElem?_eq_getElem hn), bsome, h1, bsome, ixN_of (by omega) (by omega), Int.toNat_natCast, bsome, h2, bsome, ec, bsome, e4, eq_Thing, bsome, decide_eq_false h3, if_neg (by decide), ec, bsome, e5, eq_Thing, bsome, decide_eq_false (fun h => h3 h.symm), bsome, if_neg (by decide)]
    exact ⟨_, rfl, trivial⟩
  rw [e, bsome]
  rfl
theorem other_l {k a : Int} (l : List Int) (hl : l.length ≤ 3) (hk : ¬ (k = 0 ∧ a = 2)) : F_law_other k a (Any.l (l.map El.i)) = some (Any.l (l.map El.i ++ [El.i 7])) := by
  have g : (l.map El.i).length + ([(El.i (7 : Int))] : List El).length ≤ 16777216 := by rw [List.length_map, List.length_singleton]; omega
  unfold F_law_other
  have n1 : ¬ (Any.l (l.map El.i)).is_bool = true := Bool.false_ne_true
  have n2 : ¬ ((Any.on (Any.l (l.map El.i))).isNone) = true := Bool.false_ne_true
  have n3 : ¬ (Any.l (l.map El.i)).is_str = true := Bool.false_ne_true
  have n4 : (Any.l (l.map El.i)).is_list = true := rfl
  rw [if_neg n1, if_neg n2, if_neg n3, if_pos n4, if_neg (by rw [Bool.and_eq_true, decide_eq_true_iff, decide_eq_true_iff]; exact hk)]
  have ep : (Any.l (l.map El.i)).p_l = some (l.map El.i) := rfl
  rw [ep, bsome]
  have hb : (if (decide (k < (2 : Int))) = true then (if (decide ((0 : Int) < ((l.map El.i).length : Int))) = true then ((some (l.map El.i)).bind fun u_473 => (atI u_473 (0 : Int)).bind fun i_475 => some (i_475.is_tuple)) else some false).bind (fun b_478 => some b_478) else some false : Option Bool) = some false := by
    by_cases q : k < 2
    · rw [if_pos (decide_eq_true q)]
      cases l with
      | nil => rfl
      | cons x r =>
        rw [if_pos (by rw [decide_eq_true_iff, List.map_cons, List.length_cons]; omega), bsome, List.map_cons, at0, bsome]
        rfl
    · rw [if_neg (fun z => q (of_decide_eq_true z))]
  rw [hb, bsome, if_neg Bool.false_ne_true, bsome, if_pos g]
theorem ne_app (l : List Int) : ¬ l = l ++ [7] := fun h => by
  have := congrArg List.length h
  rw [List.length_append, List.length_singleton] at this
  omega
theorem pl (l : List Int) : (Any.l (l.map El.i)).p_l = some (l.map El.i) := rfl
theorem pl7 (l : List Int) : (Any.l (l.map El.i ++ [El.i 7])).p_l = some (l.map El.i ++ [El.i 7]) := rfl
theorem made0 {n : Str} {L : List El} {l : List Int} (h : mapO El.p_i L = some l) (a b : Str) (v w : Int) : F_law_made 0 [Any.s n, Any.l L, Any.l [El.w (a, Val.i v)], Any.l [El.w (b, Val.i w)]] = some (.record ⟨n, l, [(a, Val.i v)], [(b, w)]⟩) := by
  unfold F_law_made
  rw [if_pos (by decide)]
  have := rec_eq (n := n) h [(a, v)] [(b, w)]
  rw [show ([(a, v)].map fun x => El.w (x.1, Val.i x.2)) = [El.w (a, Val.i v)] from rfl, show ([(b, w)].map fun x => El.w (x.1, Val.i x.2)) = [El.w (b, Val.i w)] from rfl] at this
  rw [this, bsome]
  rfl
theorem step0 (s : DS) : ∃ s', L_law_1 0 s = some (.go s') := by
  obtain ⟨l, s1, e, l3⟩ := numbers_ex s
  have na : ¬ ("a" : Str) = "a" ++ "x" := by decide +kernel
  generalize hv : nxV s1 4 = v
  have hp : F_law_parts s 0 = some ([Any.s "a", Any.l (l.map El.i), Any.l [El.w ("n", Val.i v)], Any.l [El.w ("w", Val.i (1 + v))]], nxS s1 4) := by
    unfold F_law_parts
    rw [e, bsome]
    dsimp only
    rw [hv, mI, if_pos (by decide)]
    rfl
  refine ⟨_, kind_step hp (made0 (pI l) _ _ _ _) (fun i x hx => ?_) (by simp)⟩
  match i, hx with
  | 0, hx =>
    cases hx
    exact ⟨_, _, (show F_law_other 0 0 (Any.s "a") = some (Any.s ("a" ++ "x")) from rfl), made0 (pI l) _ _ _ _, fun h => by injection h with h; injection h with h; exact na h⟩
  | 1, hx =>
    cases hx
    exact ⟨_, _, other_l l l3 (by decide), made0 (pI7 l) _ _ _ _, fun h => by injection h with h; injection h with _ h; exact ne_app l h⟩
  | 2, hx =>
    cases hx
    exact ⟨_, _, (show F_law_other 0 2 (Any.l [El.w ("n", Val.i v)]) = some (Any.l [El.w ("n", Val.i (v + 1))]) from rfl), made0 (pI l) _ _ _ _, fun h => by simp at h; omega⟩
  | 3, hx =>
    cases hx
    exact ⟨_, _, (show F_law_other 0 3 (Any.l [El.w ("w", Val.i (1 + v))]) = some (Any.l [El.w ("w", Val.i (1 + v + 1))]) from rfl), made0 (pI l) _ _ _ _, fun h => by simp at h; omega⟩
  | n + 4, hx => exact nomatch hx
theorem made1 {L : List El} {l : List Int} (h : mapO El.p_i L = some l) (n m w : Int) (b t : Str) : F_law_made 1 [Any.l L, Any.i n, Any.l [El.w (b, Val.i w)], Any.s t, Any.i m] = some (.query ⟨l, n, [(b, w)], t, m⟩) := by
  unfold F_law_made
  rw [if_neg (by decide), if_pos (by decide)]
  unfold F_law_query
  rw [at0, bsome]
  show ((mapO El.p_i L).bind _).bind _ = _
  rw [h]
  rfl
theorem made2 {L : List El} {l : List Int} (h : mapO El.p_i L = some l) (a b : Int) : F_law_made 2 [Any.i a, Any.l L, Any.i b] = some (.part ⟨a, l, b⟩) := by
  unfold F_law_made
  rw [if_neg (by decide), if_neg (by decide), if_pos (by decide), at0, bsome]
  show (some a).bind _ = _
  rw [bsome, at1, bsome]
  show (mapO El.p_i L).bind _ = _
  rw [h]
  rfl
theorem made3i (x : Int) (t : Str) (q : Bool) : F_law_made 3 [Any.i x, Any.s t, Any.b q] = some (.bound ⟨some x, t, q⟩) := rfl
theorem made3n (t : Str) (q : Bool) : F_law_made 3 [Any.n (), Any.s t, Any.b q] = some (.bound ⟨none, t, q⟩) := rfl
def nm (l : List Int) : List Norms := l.map fun x => F_Norms___init__ 0 x
theorem made4i {L : List El} {l : List Int} (h : mapO El.p_i L = some l) (x : Int) : F_law_made 4 [Any.i x, Any.l L] = some (.region ⟨some x, nm l⟩) := by
  unfold F_law_made
  rw [if_neg (by decide), if_neg (by decide), if_neg (by decide), if_neg (by decide), if_pos (by decide), at0, bsome]
  show (some (some x)).bind _ = _
  rw [bsome, at1, bsome]
  show (mapO El.p_i L).bind _ = _
  rw [h]
  rfl
theorem made4n {L : List El} {l : List Int} (h : mapO El.p_i L = some l) : F_law_made 4 [Any.n (), Any.l L] = some (.region ⟨none, nm l⟩) := by
  unfold F_law_made
  rw [if_neg (by decide), if_neg (by decide), if_neg (by decide), if_neg (by decide), if_pos (by decide), at0, bsome]
  show (some none).bind _ = _
  rw [bsome, at1, bsome]
  show (mapO El.p_i L).bind _ = _
  rw [h]
  rfl
theorem made5 {L M : List El} {l m : List Int} (h : mapO El.p_i L = some l) (h2 : mapO El.p_i M = some m) (a : Int) : F_law_made 5 [Any.i a, Any.l L, Any.l M] = some (.entry ⟨a, ⟨"a", l, [], []⟩, m⟩) := by
  unfold F_law_made
  rw [if_neg (by decide), if_neg (by decide), if_neg (by decide), if_neg (by decide), if_neg (by decide), if_pos (by decide), at0, bsome]
  show (some a).bind _ = _
  rw [bsome, at1, bsome]
  have r := rec_eq (n := "a") h [] []
  rw [show ([] : List (Str × Int)).map (fun x => El.w (x.1, Val.i x.2)) = [] from rfl] at r
  rw [r, bsome, at2, bsome]
  show (mapO El.p_i M).bind _ = _
  rw [h2]
  rfl
def rg (l : List Int) : List Region := l.map fun x => F_Region___init__ none [F_Norms___init__ 0 x]
def en (l : List Int) : List Entry := l.map fun x => F_Entry___init__ x ⟨"a", [0], [], []⟩ [0]
theorem made6 {L M : List El} {l m : List Int} (h : mapO El.p_i L = some l) (h2 : mapO El.p_i M = some m) : F_law_made 6 [Any.l L, Any.l M] = some (.offer ⟨[rg l], en m⟩) := by
  unfold F_law_made
  rw [if_neg (by decide), if_neg (by decide), if_neg (by decide), if_neg (by decide), if_neg (by decide), if_neg (by decide), at0, bsome]
  show (mapO El.p_i L).bind _ = _
  rw [h, bsome, bsome, at1, bsome]
  show (mapO El.p_i M).bind _ = _
  rw [h2, bsome]
  have this : ∀ f : Int → Option Entry, (∀ x, f x = some (F_Entry___init__ x ⟨"a", [0], [], []⟩ [0])) → mapO f m = some (en m) := fun f hf => mapO_eq fun x _ => hf x
  rw [this, bsome]
  · rfl
  · intro x
    rfl
theorem two {α : Type} {x y : α} {i : Int} (h0 : 0 ≤ i) (h1 : i < 2) : L2.atI [x, y] i = some x ∨ L2.atI [x, y] i = some y := by
  rcases (by omega : i = 0 ∨ i = 1) with rfl | rfl
  · exact .inl (at0 _ _)
  · exact .inr (at1 _ _ _)
theorem step1 (s : DS) : ∃ s', L_law_1 1 s = some (.go s') := by
  obtain ⟨l, s1, e, l3⟩ := numbers_ex s
  have na : ¬ ("every" : Str) = "every" ++ "x" := by decide +kernel
  generalize hv : nxV s1 4 = v
  have hp : F_law_parts s 1 = some ([Any.l (l.map El.i), Any.i v, Any.l [El.w ("w", Val.i v)], Any.s "every", Any.i (1 + v)], nxS s1 4) := by
    unfold F_law_parts
    rw [e, bsome]
    dsimp only
    rw [hv, mI, if_neg (by decide), if_pos (by decide)]
    rfl
  refine ⟨_, kind_step hp (made1 (pI l) _ _ _ _ _) (fun i x hx => ?_) (by simp)⟩
  match i, hx with
  | 0, hx =>
    cases hx
    exact ⟨_, _, other_l l l3 (by decide), made1 (pI7 l) _ _ _ _ _, fun h => by injection h with h; injection h with h; exact ne_app l h⟩
  | 1, hx =>
    cases hx
    exact ⟨_, _, other_i _ _ _, made1 (pI l) _ _ _ _ _, fun h => by simp at h; omega⟩
  | 2, hx =>
    cases hx
    exact ⟨_, _, (show F_law_other 1 2 (Any.l [El.w ("w", Val.i v)]) = some (Any.l [El.w ("w", Val.i (v + 1))]) from rfl), made1 (pI l) _ _ _ _ _, fun h => by simp at h; omega⟩
  | 3, hx =>
    cases hx
    exact ⟨_, _, (show F_law_other 1 3 (Any.s "every") = some (Any.s ("every" ++ "x")) from rfl), made1 (pI l) _ _ _ _ _, fun h => by injection h with h; injection h with _ _ _ h; exact na h⟩
  | 4, hx =>
    cases hx
    exact ⟨_, _, other_i _ _ _, made1 (pI l) _ _ _ _ _, fun h => by simp at h; omega⟩
  | n + 5, hx => exact nomatch hx
theorem step2 (s : DS) : ∃ s', L_law_1 2 s = some (.go s') := by
  obtain ⟨l, s1, e, l3⟩ := numbers_ex s
  generalize hv : nxV s1 4 = v
  have hp : F_law_parts s 2 = some ([Any.i v, Any.l (l.map El.i), Any.i (v + 1)], nxS s1 4) := by
    unfold F_law_parts
    rw [e, bsome]
    dsimp only
    rw [hv, mI, if_neg (by decide), if_neg (by decide), if_pos (by decide)]
    rfl
  refine ⟨_, kind_step hp (made2 (pI l) _ _) (fun i x hx => ?_) (by simp)⟩
  match i, hx with
  | 0, hx =>
    cases hx
    exact ⟨_, _, other_i _ _ _, made2 (pI l) _ _, fun h => by simp at h; omega⟩
  | 1, hx =>
    cases hx
    exact ⟨_, _, other_l l l3 (by decide), made2 (pI7 l) _ _, fun h => by injection h with h; injection h with _ h; exact ne_app l h⟩
  | 2, hx =>
    cases hx
    exact ⟨_, _, other_i _ _ _, made2 (pI l) _ _, fun h => by simp at h; omega⟩
  | n + 3, hx => exact nomatch hx
theorem step3 (s : DS) : ∃ s', L_law_1 3 s = some (.go s') := by
  obtain ⟨l, s1, e, l3⟩ := numbers_ex s
  have nb : ¬ ("b" : Str) = "b" ++ "x" := by decide +kernel
  generalize hv : nxV s1 4 = v
  generalize hq : decide ((1 : Int) < v) = q
  have hp : ∀ c, L2.atI [Any.i v, Any.n ()] (nxV (nxS s1 4) 2) = some c → F_law_parts s 3 = some ([c, Any.s "b", Any.b q], nxS (nxS s1 4) 2) := fun c hc => by
    unfold F_law_parts
    rw [e, bsome]
    dsimp only
    rw [hv, hq, if_neg (by decide), if_neg (by decide), if_neg (by decide), if_pos (by decide), hc, bsome]
  rcases two (x := Any.i v) (y := Any.n ()) (nx_ge (nxS s1 4) (m := 2) (by decide)) (nx_lt (nxS s1 4) (m := 2) (by decide)) with hc | hc
  · refine ⟨_, kind_step (hp _ hc) (made3i _ _ _) (fun i x hx => ?_) (by simp)⟩
    match i, hx with
    | 0, hx =>
      cases hx
      exact ⟨_, _, other_i _ _ _, made3i _ _ _, fun h => by simp at h; omega⟩
    | 1, hx =>
      cases hx
      exact ⟨_, _, (show F_law_other 3 1 (Any.s "b") = some (Any.s ("b" ++ "x")) from rfl), made3i _ _ _, fun h => by injection h with h; injection h with _ h; exact nb h⟩
    | 2, hx =>
      cases hx
      exact ⟨_, _, other_b _ _ _, made3i _ _ _, fun h => by cases q <;> simp at h⟩
    | n + 3, hx => exact nomatch hx
  · refine ⟨_, kind_step (hp _ hc) (made3n _ _) (fun i x hx => ?_) (by simp)⟩
    match i, hx with
    | 0, hx =>
      cases hx
      exact ⟨_, _, other_n _ _, made3i _ _ _, fun h => by simp at h⟩
    | 1, hx =>
      cases hx
      exact ⟨_, _, (show F_law_other 3 1 (Any.s "b") = some (Any.s ("b" ++ "x")) from rfl), made3n _ _, fun h => by injection h with h; injection h with _ h; exact nb h⟩
    | 2, hx =>
      cases hx
      exact ⟨_, _, other_b _ _ _, made3n _ _, fun h => by cases q <;> simp at h⟩
    | n + 3, hx => exact nomatch hx
theorem ne_nm (l : List Int) : ¬ nm l = nm (l ++ [7]) := fun h => by
  have := congrArg List.length h
  unfold nm at this
  rw [List.length_map, List.length_map, List.length_append, List.length_singleton] at this
  omega
theorem step4 (s : DS) : ∃ s', L_law_1 4 s = some (.go s') := by
  obtain ⟨l, s1, e, l3⟩ := numbers_ex s
  generalize hv : nxV s1 4 = v
  have hp : ∀ c, L2.atI [Any.i v, Any.n ()] (nxV (nxS s1 4) 2) = some c → F_law_parts s 4 = some ([c, Any.l (l.map El.i)], nxS (nxS s1 4) 2) := fun c hc => by
    unfold F_law_parts
    rw [e, bsome]
    dsimp only
    rw [hv, mI, if_neg (by decide), if_neg (by decide), if_neg (by decide), if_neg (by decide), if_pos (by decide), hc, bsome]
    rfl
  rcases two (x := Any.i v) (y := Any.n ()) (nx_ge (nxS s1 4) (m := 2) (by decide)) (nx_lt (nxS s1 4) (m := 2) (by decide)) with hc | hc
  · refine ⟨_, kind_step (hp _ hc) (made4i (pI l) _) (fun i x hx => ?_) (by simp)⟩
    match i, hx with
    | 0, hx =>
      cases hx
      exact ⟨_, _, other_i _ _ _, made4i (pI l) _, fun h => by simp at h; omega⟩
    | 1, hx =>
      cases hx
      exact ⟨_, _, other_l l l3 (by decide), made4i (pI7 l) _, fun h => by injection h with h; injection h with _ h; exact ne_nm l h⟩
    | n + 2, hx => exact nomatch hx
  · refine ⟨_, kind_step (hp _ hc) (made4n (pI l)) (fun i x hx => ?_) (by simp)⟩
    match i, hx with
    | 0, hx =>
      cases hx
      exact ⟨_, _, other_n _ _, made4i (pI l) _, fun h => by simp at h⟩
    | 1, hx =>
      cases hx
      exact ⟨_, _, other_l l l3 (by decide), made4n (pI7 l), fun h => by injection h with h; injection h with _ h; exact ne_nm l h⟩
    | n + 2, hx => exact nomatch hx
theorem step5 (s : DS) : ∃ s', L_law_1 5 s = some (.go s') := by
  obtain ⟨l, s1, e, l3⟩ := numbers_ex s
  generalize hv : nxV s1 4 = v
  have hp : F_law_parts s 5 = some ([Any.i v, Any.l (l.map El.i), Any.l ([v].map El.i)], nxS s1 4) := by
    unfold F_law_parts
    rw [e, bsome]
    dsimp only
    rw [hv, mI, mI, if_neg (by decide), if_neg (by decide), if_neg (by decide), if_neg (by decide), if_neg (by decide), if_pos (by decide)]
    rfl
  refine ⟨_, kind_step hp (made5 (pI l) (pI [v]) _) (fun i x hx => ?_) (by simp)⟩
  match i, hx with
  | 0, hx =>
    cases hx
    exact ⟨_, _, other_i _ _ _, made5 (pI l) (pI [v]) _, fun h => by simp at h; omega⟩
  | 1, hx =>
    cases hx
    exact ⟨_, _, other_l l l3 (by decide), made5 (pI7 l) (pI [v]) _, fun h => by injection h with h; injection h with _ h; injection h with _ h; exact ne_app l h⟩
  | 2, hx =>
    cases hx
    exact ⟨_, _, other_l [v] (by simp) (by decide), made5 (pI l) (pI7 [v]) _, fun h => by simp at h⟩
  | n + 3, hx => exact nomatch hx
theorem step6 (s : DS) : ∃ s', L_law_1 6 s = some (.go s') := by
  obtain ⟨l, s1, e, l3⟩ := numbers_ex s
  generalize hv : nxV s1 4 = v
  have hp : F_law_parts s 6 = some ([Any.l (l.map El.i), Any.l ([v, v + 1].map El.i)], nxS s1 4) := by
    unfold F_law_parts
    rw [e, bsome]
    dsimp only
    rw [hv, mI, mI, if_neg (by decide), if_neg (by decide), if_neg (by decide), if_neg (by decide), if_neg (by decide), if_neg (by decide)]
    rfl
  refine ⟨_, kind_step hp (made6 (pI l) (pI [v, v + 1])) (fun i x hx => ?_) (by simp)⟩
  match i, hx with
  | 0, hx =>
    cases hx
    refine ⟨_, _, other_l l l3 (by decide), made6 (pI7 l) (pI [v, v + 1]), fun h => ?_⟩
    injection h with h
    injection h with h
    injection h with h
    have := congrArg List.length h
    unfold rg at this
    rw [List.length_map, List.length_map, List.length_append, List.length_singleton] at this
    omega
  | 1, hx =>
    cases hx
    exact ⟨_, _, other_l [v, v + 1] (by simp) (by decide), made6 (pI l) (pI7 [v, v + 1]), fun h => by
      injection h with h
      injection h with _ h
      exact nomatch congrArg List.length h⟩
  | n + 2, hx => exact nomatch hx
theorem law_true (ns : List Int) (h : ns.length ≤ 63) : F_law ns = some true := by
  unfold F_law
  rw [flags_true, bsome, if_neg (by decide)]
  obtain ⟨u, e, _⟩ := forS_mem (f := L_law_1) (I := fun _ => True) (xs := rangeZ 0 7) (b := DS.mk ns 0 0) trivial fun x hx s _ => by
    obtain ⟨a, b⟩ := rangeZ_mem hx
    have : ∃ s', L_law_1 x s = some (.go s') := by
      rcases (by omega : x = 0 ∨ x = 1 ∨ x = 2 ∨ x = 3 ∨ x = 4 ∨ x = 5 ∨ x = 6) with rfl | rfl | rfl | rfl | rfl | rfl | rfl
      · exact step0 s
      · exact step1 s
      · exact step2 s
      · exact step3 s
      · exact step4 s
      · exact step5 s
      · exact step6 s
    obtain ⟨s', hs⟩ := this
    exact ⟨s', hs, trivial⟩
  rw [e, bsome]
  rfl

def ff_Record (v0 v1 v2 v3 : V) : List (Str × V) := putF "words" v3 (putF "fields" v2 (putF "vector" v1 (putF "name" v0 [])))
theorem lk_Record_name {v0 v1 v2 v3 : V} : (ff_Record v0 v1 v2 v3).lookup ("name" : Str) = some v0 := by
  unfold ff_Record
  rw [lookup_putF, if_neg (by decide +kernel), lookup_putF, if_neg (by decide +kernel), lookup_putF, if_neg (by decide +kernel), lookup_putF, if_pos rfl]
theorem lk_Record_vector {v0 v1 v2 v3 : V} : (ff_Record v0 v1 v2 v3).lookup ("vector" : Str) = some v1 := by
  unfold ff_Record
  rw [lookup_putF, if_neg (by decide +kernel), lookup_putF, if_neg (by decide +kernel), lookup_putF, if_pos rfl]
theorem lk_Record_fields {v0 v1 v2 v3 : V} : (ff_Record v0 v1 v2 v3).lookup ("fields" : Str) = some v2 := by
  unfold ff_Record
  rw [lookup_putF, if_neg (by decide +kernel), lookup_putF, if_pos rfl]
theorem lk_Record_words {v0 v1 v2 v3 : V} : (ff_Record v0 v1 v2 v3).lookup ("words" : Str) = some v3 := by
  unfold ff_Record
  rw [lookup_putF, if_pos rfl]
theorem no_Record {v0 v1 v2 v3 : V} {m : Str} (h0 : ¬ m = "name" := by decide +kernel) (h1 : ¬ m = "vector" := by decide +kernel) (h2 : ¬ m = "fields" := by decide +kernel) (h3 : ¬ m = "words" := by decide +kernel) : (ff_Record v0 v1 v2 v3).lookup m = none := by
  unfold ff_Record
  rw [lookup_putF, if_neg h3, lookup_putF, if_neg h2, lookup_putF, if_neg h1, lookup_putF, if_neg h0]
  rfl
def ff_Query (v0 v1 v2 v3 v4 : V) : List (Str × V) := putF "most" v4 (putF "text" v3 (putF "words" v2 (putF "near" v1 (putF "vector" v0 []))))
theorem lk_Query_vector {v0 v1 v2 v3 v4 : V} : (ff_Query v0 v1 v2 v3 v4).lookup ("vector" : Str) = some v0 := by
  unfold ff_Query
  rw [lookup_putF, if_neg (by decide +kernel), lookup_putF, if_neg (by decide +kernel), lookup_putF, if_neg (by decide +kernel), lookup_putF, if_neg (by decide +kernel), lookup_putF, if_pos rfl]
theorem lk_Query_near {v0 v1 v2 v3 v4 : V} : (ff_Query v0 v1 v2 v3 v4).lookup ("near" : Str) = some v1 := by
  unfold ff_Query
  rw [lookup_putF, if_neg (by decide +kernel), lookup_putF, if_neg (by decide +kernel), lookup_putF, if_neg (by decide +kernel), lookup_putF, if_pos rfl]
theorem lk_Query_words {v0 v1 v2 v3 v4 : V} : (ff_Query v0 v1 v2 v3 v4).lookup ("words" : Str) = some v2 := by
  unfold ff_Query
  rw [lookup_putF, if_neg (by decide +kernel), lookup_putF, if_neg (by decide +kernel), lookup_putF, if_pos rfl]
theorem lk_Query_text {v0 v1 v2 v3 v4 : V} : (ff_Query v0 v1 v2 v3 v4).lookup ("text" : Str) = some v3 := by
  unfold ff_Query
  rw [lookup_putF, if_neg (by decide +kernel), lookup_putF, if_pos rfl]
theorem lk_Query_most {v0 v1 v2 v3 v4 : V} : (ff_Query v0 v1 v2 v3 v4).lookup ("most" : Str) = some v4 := by
  unfold ff_Query
  rw [lookup_putF, if_pos rfl]
theorem no_Query {v0 v1 v2 v3 v4 : V} {m : Str} (h0 : ¬ m = "vector" := by decide +kernel) (h1 : ¬ m = "near" := by decide +kernel) (h2 : ¬ m = "words" := by decide +kernel) (h3 : ¬ m = "text" := by decide +kernel) (h4 : ¬ m = "most" := by decide +kernel) : (ff_Query v0 v1 v2 v3 v4).lookup m = none := by
  unfold ff_Query
  rw [lookup_putF, if_neg h4, lookup_putF, if_neg h3, lookup_putF, if_neg h2, lookup_putF, if_neg h1, lookup_putF, if_neg h0]
  rfl
def ff_Part (v0 v1 v2 : V) : List (Str × V) := putF "radius" v2 (putF "centre" v1 (putF "start" v0 []))
theorem lk_Part_start {v0 v1 v2 : V} : (ff_Part v0 v1 v2).lookup ("start" : Str) = some v0 := by
  unfold ff_Part
  rw [lookup_putF, if_neg (by decide +kernel), lookup_putF, if_neg (by decide +kernel), lookup_putF, if_pos rfl]
theorem lk_Part_centre {v0 v1 v2 : V} : (ff_Part v0 v1 v2).lookup ("centre" : Str) = some v1 := by
  unfold ff_Part
  rw [lookup_putF, if_neg (by decide +kernel), lookup_putF, if_pos rfl]
theorem lk_Part_radius {v0 v1 v2 : V} : (ff_Part v0 v1 v2).lookup ("radius" : Str) = some v2 := by
  unfold ff_Part
  rw [lookup_putF, if_pos rfl]
theorem no_Part {v0 v1 v2 : V} {m : Str} (h0 : ¬ m = "start" := by decide +kernel) (h1 : ¬ m = "centre" := by decide +kernel) (h2 : ¬ m = "radius" := by decide +kernel) : (ff_Part v0 v1 v2).lookup m = none := by
  unfold ff_Part
  rw [lookup_putF, if_neg h2, lookup_putF, if_neg h1, lookup_putF, if_neg h0]
  rfl
def ff_Bound (v0 v1 v2 : V) : List (Str × V) := putF "can" v2 (putF "name" v1 (putF "cost" v0 []))
theorem lk_Bound_cost {v0 v1 v2 : V} : (ff_Bound v0 v1 v2).lookup ("cost" : Str) = some v0 := by
  unfold ff_Bound
  rw [lookup_putF, if_neg (by decide +kernel), lookup_putF, if_neg (by decide +kernel), lookup_putF, if_pos rfl]
theorem lk_Bound_name {v0 v1 v2 : V} : (ff_Bound v0 v1 v2).lookup ("name" : Str) = some v1 := by
  unfold ff_Bound
  rw [lookup_putF, if_neg (by decide +kernel), lookup_putF, if_pos rfl]
theorem lk_Bound_can {v0 v1 v2 : V} : (ff_Bound v0 v1 v2).lookup ("can" : Str) = some v2 := by
  unfold ff_Bound
  rw [lookup_putF, if_pos rfl]
theorem no_Bound {v0 v1 v2 : V} {m : Str} (h0 : ¬ m = "cost" := by decide +kernel) (h1 : ¬ m = "name" := by decide +kernel) (h2 : ¬ m = "can" := by decide +kernel) : (ff_Bound v0 v1 v2).lookup m = none := by
  unfold ff_Bound
  rw [lookup_putF, if_neg h2, lookup_putF, if_neg h1, lookup_putF, if_neg h0]
  rfl
def ff_Norms (v0 v1 : V) : List (Str × V) := putF "high" v1 (putF "low" v0 [])
theorem lk_Norms_low {v0 v1 : V} : (ff_Norms v0 v1).lookup ("low" : Str) = some v0 := by
  unfold ff_Norms
  rw [lookup_putF, if_neg (by decide +kernel), lookup_putF, if_pos rfl]
theorem lk_Norms_high {v0 v1 : V} : (ff_Norms v0 v1).lookup ("high" : Str) = some v1 := by
  unfold ff_Norms
  rw [lookup_putF, if_pos rfl]
theorem no_Norms {v0 v1 : V} {m : Str} (h0 : ¬ m = "low" := by decide +kernel) (h1 : ¬ m = "high" := by decide +kernel) : (ff_Norms v0 v1).lookup m = none := by
  unfold ff_Norms
  rw [lookup_putF, if_neg h1, lookup_putF, if_neg h0]
  rfl
def ff_Region (v0 v1 : V) : List (Str × V) := putF "facts" v1 (putF "parent" v0 [])
theorem lk_Region_parent {v0 v1 : V} : (ff_Region v0 v1).lookup ("parent" : Str) = some v0 := by
  unfold ff_Region
  rw [lookup_putF, if_neg (by decide +kernel), lookup_putF, if_pos rfl]
theorem lk_Region_facts {v0 v1 : V} : (ff_Region v0 v1).lookup ("facts" : Str) = some v1 := by
  unfold ff_Region
  rw [lookup_putF, if_pos rfl]
theorem no_Region {v0 v1 : V} {m : Str} (h0 : ¬ m = "parent" := by decide +kernel) (h1 : ¬ m = "facts" := by decide +kernel) : (ff_Region v0 v1).lookup m = none := by
  unfold ff_Region
  rw [lookup_putF, if_neg h1, lookup_putF, if_neg h0]
  rfl
def ff_Entry (v0 v1 v2 : V) : List (Str × V) := putF "leaves" v2 (putF "record" v1 (putF "number" v0 []))
theorem lk_Entry_number {v0 v1 v2 : V} : (ff_Entry v0 v1 v2).lookup ("number" : Str) = some v0 := by
  unfold ff_Entry
  rw [lookup_putF, if_neg (by decide +kernel), lookup_putF, if_neg (by decide +kernel), lookup_putF, if_pos rfl]
theorem lk_Entry_record {v0 v1 v2 : V} : (ff_Entry v0 v1 v2).lookup ("record" : Str) = some v1 := by
  unfold ff_Entry
  rw [lookup_putF, if_neg (by decide +kernel), lookup_putF, if_pos rfl]
theorem lk_Entry_leaves {v0 v1 v2 : V} : (ff_Entry v0 v1 v2).lookup ("leaves" : Str) = some v2 := by
  unfold ff_Entry
  rw [lookup_putF, if_pos rfl]
theorem no_Entry {v0 v1 v2 : V} {m : Str} (h0 : ¬ m = "number" := by decide +kernel) (h1 : ¬ m = "record" := by decide +kernel) (h2 : ¬ m = "leaves" := by decide +kernel) : (ff_Entry v0 v1 v2).lookup m = none := by
  unfold ff_Entry
  rw [lookup_putF, if_neg h2, lookup_putF, if_neg h1, lookup_putF, if_neg h0]
  rfl
def ff_Offer (v0 v1 : V) : List (Str × V) := putF "entries" v1 (putF "partitions" v0 [])
theorem lk_Offer_partitions {v0 v1 : V} : (ff_Offer v0 v1).lookup ("partitions" : Str) = some v0 := by
  unfold ff_Offer
  rw [lookup_putF, if_neg (by decide +kernel), lookup_putF, if_pos rfl]
theorem lk_Offer_entries {v0 v1 : V} : (ff_Offer v0 v1).lookup ("entries" : Str) = some v1 := by
  unfold ff_Offer
  rw [lookup_putF, if_pos rfl]
theorem no_Offer {v0 v1 : V} {m : Str} (h0 : ¬ m = "partitions" := by decide +kernel) (h1 : ¬ m = "entries" := by decide +kernel) : (ff_Offer v0 v1).lookup m = none := by
  unfold ff_Offer
  rw [lookup_putF, if_neg h1, lookup_putF, if_neg h0]
  rfl
theorem putF_le {f : Str} {v : V} {fs : List (Str × V)} {n : Nat} (h : fs.length ≤ n) : (putF f v fs).length ≤ n + 1 := by
  induction fs generalizing n with
  | nil => show 1 ≤ n + 1; omega
  | cons x r ih =>
    obtain ⟨g, y⟩ := x
    show (if g = f then (g, v) :: r else (g, y) :: putF f v r).length ≤ n + 1
    rw [List.length_cons] at h
    by_cases e : g = f
    · rw [if_pos e, List.length_cons]; omega
    · rw [if_neg e, List.length_cons]
      have := ih (n := r.length) (Nat.le_refl _)
      omega
/-! what the top has made -/
set_option maxHeartbeats 0 in
structure Txt (K : PySem.W.Frag) (mg : Str → Option Value) where
  f_law_row : Addr
  d_law_row : FuncData
  F_law_row : Fun K "_law_row" "_law_row" s_law_row f_law_row d_law_row
  b_law_row : Binds K d_law_row ["script", "k"] []
  g_law_row : mg "_law_row" = some (.ref f_law_row)
  f_law_next : Addr
  d_law_next : FuncData
  F_law_next : Fun K "_law_next" "_law_next" s_law_next f_law_next d_law_next
  b_law_next : Binds K d_law_next ["state", "many"] []
  g_law_next : mg "_law_next" = some (.ref f_law_next)
  f_Record___init__ : Addr
  d_Record___init__ : FuncData
  e_Record___init___fields : Addr
  et_Record___init___fields : ∀ H, SqT K H e_Record___init___fields []
  e_Record___init___words : Addr
  et_Record___init___words : ∀ H, SqT K H e_Record___init___words []
  F_Record___init__ : FunD K "__init__" "Record.__init__" (defArgs s_Record___init__) (defBody s_Record___init__) (defScope s_Record___init__) [] [("fields", .ref e_Record___init___fields), ("words", .ref e_Record___init___words)] f_Record___init__ d_Record___init__
  kb_Record___init__ : KBn K d_Record___init__ ["self", "name", "vector", "fields", "words"] 3 ["fields", "words"] (fun us ws => us ++ ws) (fun vs zs => vs ++ zs)
  mv_Record___init___k0 : List Value
  kb_Record___init___k0 : KBn K d_Record___init__ ["self", "name", "vector", "fields", "words"] 3 ["fields"] (fun us ws => us ++ ((ws.drop 0).take 1 ++ ((mv_Record___init___k0.drop 0).take 1))) (fun vs zs => vs ++ ((zs.drop 0).take 1 ++ (([.ref e_Record___init___words].drop 0).take 1)))
  ds_Record___init__ : List Value
  v_Record___init__ : Vals [.ref e_Record___init___fields, .ref e_Record___init___words] ds_Record___init__
  b_Record___init__ : Binds K d_Record___init__ ["self", "name", "vector", "fields", "words"] ds_Record___init__
  f_kind_of_value : Addr
  d_kind_of_value : FuncData
  F_kind_of_value : Fun K "kind_of_value" "kind_of_value" s_kind_of_value f_kind_of_value d_kind_of_value
  b_kind_of_value : Binds K d_kind_of_value ["worth"] []
  g_kind_of_value : mg "kind_of_value" = some (.ref f_kind_of_value)
  f_same_fields : Addr
  d_same_fields : FuncData
  F_same_fields : Fun K "same_fields" "same_fields" s_same_fields f_same_fields d_same_fields
  b_same_fields : Binds K d_same_fields ["ones", "others"] []
  g_same_fields : mg "same_fields" = some (.ref f_same_fields)
  f_Record___eq__ : Addr
  d_Record___eq__ : FuncData
  F_Record___eq__ : Fun K "__eq__" "Record.__eq__" s_Record___eq__ f_Record___eq__ d_Record___eq__
  b_Record___eq__ : Binds K d_Record___eq__ ["self", "other"] []
  f_law_flags : Addr
  d_law_flags : FuncData
  F_law_flags : Fun K "_law_flags" "_law_flags" s_law_flags f_law_flags d_law_flags
  b_law_flags : Binds K d_law_flags [] []
  g_law_flags : mg "_law_flags" = some (.ref f_law_flags)
  f_law_numbers : Addr
  d_law_numbers : FuncData
  F_law_numbers : Fun K "_law_numbers" "_law_numbers" s_law_numbers f_law_numbers d_law_numbers
  b_law_numbers : Binds K d_law_numbers ["state"] []
  g_law_numbers : mg "_law_numbers" = some (.ref f_law_numbers)
  f_law_parts : Addr
  d_law_parts : FuncData
  F_law_parts : Fun K "_law_parts" "_law_parts" s_law_parts f_law_parts d_law_parts
  b_law_parts : Binds K d_law_parts ["state", "kind"] []
  g_law_parts : mg "_law_parts" = some (.ref f_law_parts)
  f_law_record : Addr
  d_law_record : FuncData
  F_law_record : Fun K "_law_record" "_law_record" s_law_record f_law_record d_law_record
  b_law_record : Binds K d_law_record ["parts"] []
  g_law_record : mg "_law_record" = some (.ref f_law_record)
  f_Query___init__ : Addr
  d_Query___init__ : FuncData
  e_Query___init___words : Addr
  et_Query___init___words : ∀ H, SqT K H e_Query___init___words []
  F_Query___init__ : FunD K "__init__" "Query.__init__" (defArgs s_Query___init__) (defBody s_Query___init__) (defScope s_Query___init__) [] [("near", .int (1)), ("words", .ref e_Query___init___words), ("text", .str "every"), ("most", .int (1))] f_Query___init__ d_Query___init__
  kb_Query___init__ : KBn K d_Query___init__ ["self", "vector", "near", "words", "text", "most"] 2 ["near", "words", "text", "most"] (fun us ws => us ++ ws) (fun vs zs => vs ++ zs)
  ds_Query___init__ : List Value
  v_Query___init__ : Vals [.int (1), .ref e_Query___init___words, .str "every", .int (1)] ds_Query___init__
  b_Query___init__ : Binds K d_Query___init__ ["self", "vector", "near", "words", "text", "most"] ds_Query___init__
  f_law_query : Addr
  d_law_query : FuncData
  F_law_query : Fun K "_law_query" "_law_query" s_law_query f_law_query d_law_query
  b_law_query : Binds K d_law_query ["parts"] []
  g_law_query : mg "_law_query" = some (.ref f_law_query)
  f_Part___init__ : Addr
  d_Part___init__ : FuncData
  F_Part___init__ : Fun K "__init__" "Part.__init__" s_Part___init__ f_Part___init__ d_Part___init__
  b_Part___init__ : Binds K d_Part___init__ ["self", "start", "centre", "radius"] []
  f_Bound___init__ : Addr
  d_Bound___init__ : FuncData
  F_Bound___init__ : Fun K "__init__" "Bound.__init__" s_Bound___init__ f_Bound___init__ d_Bound___init__
  b_Bound___init__ : Binds K d_Bound___init__ ["self", "cost", "name", "can"] []
  f_Norms___init__ : Addr
  d_Norms___init__ : FuncData
  F_Norms___init__ : Fun K "__init__" "Norms.__init__" s_Norms___init__ f_Norms___init__ d_Norms___init__
  b_Norms___init__ : Binds K d_Norms___init__ ["self", "low", "high"] []
  f_Region___init__ : Addr
  d_Region___init__ : FuncData
  F_Region___init__ : Fun K "__init__" "Region.__init__" s_Region___init__ f_Region___init__ d_Region___init__
  b_Region___init__ : Binds K d_Region___init__ ["self", "parent", "facts"] []
  f_Entry___init__ : Addr
  d_Entry___init__ : FuncData
  F_Entry___init__ : Fun K "__init__" "Entry.__init__" s_Entry___init__ f_Entry___init__ d_Entry___init__
  b_Entry___init__ : Binds K d_Entry___init__ ["self", "number", "record", "leaves"] []
  f_Offer___init__ : Addr
  d_Offer___init__ : FuncData
  F_Offer___init__ : Fun K "__init__" "Offer.__init__" s_Offer___init__ f_Offer___init__ d_Offer___init__
  b_Offer___init__ : Binds K d_Offer___init__ ["self", "partitions", "entries"] []
  f_law_made : Addr
  d_law_made : FuncData
  F_law_made : Fun K "_law_made" "_law_made" s_law_made f_law_made d_law_made
  b_law_made : Binds K d_law_made ["kind", "parts"] []
  g_law_made : mg "_law_made" = some (.ref f_law_made)
  f_law_other : Addr
  d_law_other : FuncData
  F_law_other : Fun K "_law_other" "_law_other" s_law_other f_law_other d_law_other
  b_law_other : Binds K d_law_other ["kind", "at", "part"] []
  g_law_other : mg "_law_other" = some (.ref f_law_other)
  f_Query___eq__ : Addr
  d_Query___eq__ : FuncData
  F_Query___eq__ : Fun K "__eq__" "Query.__eq__" s_Query___eq__ f_Query___eq__ d_Query___eq__
  b_Query___eq__ : Binds K d_Query___eq__ ["self", "other"] []
  f_Bound___eq__ : Addr
  d_Bound___eq__ : FuncData
  F_Bound___eq__ : Fun K "__eq__" "Bound.__eq__" s_Bound___eq__ f_Bound___eq__ d_Bound___eq__
  b_Bound___eq__ : Binds K d_Bound___eq__ ["self", "other"] []
  f_Part___eq__ : Addr
  d_Part___eq__ : FuncData
  F_Part___eq__ : Fun K "__eq__" "Part.__eq__" s_Part___eq__ f_Part___eq__ d_Part___eq__
  b_Part___eq__ : Binds K d_Part___eq__ ["self", "other"] []
  f_Norms___eq__ : Addr
  d_Norms___eq__ : FuncData
  F_Norms___eq__ : Fun K "__eq__" "Norms.__eq__" s_Norms___eq__ f_Norms___eq__ d_Norms___eq__
  b_Norms___eq__ : Binds K d_Norms___eq__ ["self", "other"] []
  f_Region___eq__ : Addr
  d_Region___eq__ : FuncData
  F_Region___eq__ : Fun K "__eq__" "Region.__eq__" s_Region___eq__ f_Region___eq__ d_Region___eq__
  b_Region___eq__ : Binds K d_Region___eq__ ["self", "other"] []
  f_Entry___eq__ : Addr
  d_Entry___eq__ : FuncData
  F_Entry___eq__ : Fun K "__eq__" "Entry.__eq__" s_Entry___eq__ f_Entry___eq__ d_Entry___eq__
  b_Entry___eq__ : Binds K d_Entry___eq__ ["self", "other"] []
  f_Offer___eq__ : Addr
  d_Offer___eq__ : FuncData
  F_Offer___eq__ : Fun K "__eq__" "Offer.__eq__" s_Offer___eq__ f_Offer___eq__ d_Offer___eq__
  b_Offer___eq__ : Binds K d_Offer___eq__ ["self", "other"] []
  f_law : Addr
  d_law : FuncData
  F_law : Fun K "law" "law" s_law f_law d_law
  b_law : Binds K d_law ["script"] []
  g_law : mg "law" = some (.ref f_law)
  c_Record : Addr
  cl_Record : Cls K c_Record
  mc_Record : mg "Record" = some (.ref c_Record)
  n_Record_name : NoAttr K c_Record "name"
  n_Record_vector : NoAttr K c_Record "vector"
  n_Record_fields : NoAttr K c_Record "fields"
  n_Record_words : NoAttr K c_Record "words"
  mk_Record : Mk K c_Record f_Record___init__
  me_Record___eq__ : Meth K c_Record "__eq__" f_Record___eq__
  ha_Record : PySem.W.findIn K (.ref c_Record) "__class__" = some (some (.builtin "object.__class__"))
  hm_Record : PySem.W.mroIn K c_Record (.type "object") = some true
  c_Query : Addr
  cl_Query : Cls K c_Query
  mc_Query : mg "Query" = some (.ref c_Query)
  n_Query_vector : NoAttr K c_Query "vector"
  n_Query_near : NoAttr K c_Query "near"
  n_Query_words : NoAttr K c_Query "words"
  n_Query_text : NoAttr K c_Query "text"
  n_Query_most : NoAttr K c_Query "most"
  mk_Query : Mk K c_Query f_Query___init__
  me_Query___eq__ : Meth K c_Query "__eq__" f_Query___eq__
  ha_Query : PySem.W.findIn K (.ref c_Query) "__class__" = some (some (.builtin "object.__class__"))
  hm_Query : PySem.W.mroIn K c_Query (.type "object") = some true
  c_Part : Addr
  cl_Part : Cls K c_Part
  mc_Part : mg "Part" = some (.ref c_Part)
  n_Part_start : NoAttr K c_Part "start"
  n_Part_centre : NoAttr K c_Part "centre"
  n_Part_radius : NoAttr K c_Part "radius"
  mk_Part : Mk K c_Part f_Part___init__
  me_Part___eq__ : Meth K c_Part "__eq__" f_Part___eq__
  ha_Part : PySem.W.findIn K (.ref c_Part) "__class__" = some (some (.builtin "object.__class__"))
  hm_Part : PySem.W.mroIn K c_Part (.type "object") = some true
  c_Bound : Addr
  cl_Bound : Cls K c_Bound
  mc_Bound : mg "Bound" = some (.ref c_Bound)
  n_Bound_cost : NoAttr K c_Bound "cost"
  n_Bound_name : NoAttr K c_Bound "name"
  n_Bound_can : NoAttr K c_Bound "can"
  mk_Bound : Mk K c_Bound f_Bound___init__
  me_Bound___eq__ : Meth K c_Bound "__eq__" f_Bound___eq__
  ha_Bound : PySem.W.findIn K (.ref c_Bound) "__class__" = some (some (.builtin "object.__class__"))
  hm_Bound : PySem.W.mroIn K c_Bound (.type "object") = some true
  c_Norms : Addr
  cl_Norms : Cls K c_Norms
  mc_Norms : mg "Norms" = some (.ref c_Norms)
  n_Norms_low : NoAttr K c_Norms "low"
  n_Norms_high : NoAttr K c_Norms "high"
  mk_Norms : Mk K c_Norms f_Norms___init__
  me_Norms___eq__ : Meth K c_Norms "__eq__" f_Norms___eq__
  ha_Norms : PySem.W.findIn K (.ref c_Norms) "__class__" = some (some (.builtin "object.__class__"))
  hm_Norms : PySem.W.mroIn K c_Norms (.type "object") = some true
  c_Region : Addr
  cl_Region : Cls K c_Region
  mc_Region : mg "Region" = some (.ref c_Region)
  n_Region_parent : NoAttr K c_Region "parent"
  n_Region_facts : NoAttr K c_Region "facts"
  mk_Region : Mk K c_Region f_Region___init__
  me_Region___eq__ : Meth K c_Region "__eq__" f_Region___eq__
  ha_Region : PySem.W.findIn K (.ref c_Region) "__class__" = some (some (.builtin "object.__class__"))
  hm_Region : PySem.W.mroIn K c_Region (.type "object") = some true
  c_Entry : Addr
  cl_Entry : Cls K c_Entry
  mc_Entry : mg "Entry" = some (.ref c_Entry)
  n_Entry_number : NoAttr K c_Entry "number"
  n_Entry_record : NoAttr K c_Entry "record"
  n_Entry_leaves : NoAttr K c_Entry "leaves"
  mk_Entry : Mk K c_Entry f_Entry___init__
  me_Entry___eq__ : Meth K c_Entry "__eq__" f_Entry___eq__
  ha_Entry : PySem.W.findIn K (.ref c_Entry) "__class__" = some (some (.builtin "object.__class__"))
  hm_Entry : PySem.W.mroIn K c_Entry (.type "object") = some true
  c_Offer : Addr
  cl_Offer : Cls K c_Offer
  mc_Offer : mg "Offer" = some (.ref c_Offer)
  n_Offer_partitions : NoAttr K c_Offer "partitions"
  n_Offer_entries : NoAttr K c_Offer "entries"
  mk_Offer : Mk K c_Offer f_Offer___init__
  me_Offer___eq__ : Meth K c_Offer "__eq__" f_Offer___eq__
  ha_Offer : PySem.W.findIn K (.ref c_Offer) "__class__" = some (some (.builtin "object.__class__"))
  hm_Offer : PySem.W.mroIn K c_Offer (.type "object") = some true
  kit_Record_Record : PySem.W.kitOne K (.ref c_Record) (.ref c_Record) = some true
  kit_Query_Record : PySem.W.kitOne K (.ref c_Query) (.ref c_Record) = some false
  kit_Part_Record : PySem.W.kitOne K (.ref c_Part) (.ref c_Record) = some false
  kit_Bound_Record : PySem.W.kitOne K (.ref c_Bound) (.ref c_Record) = some false
  kit_Region_Record : PySem.W.kitOne K (.ref c_Region) (.ref c_Record) = some false
  kit_Entry_Record : PySem.W.kitOne K (.ref c_Entry) (.ref c_Record) = some false
  kit_Offer_Record : PySem.W.kitOne K (.ref c_Offer) (.ref c_Record) = some false
  kit_Norms_Record : PySem.W.kitOne K (.ref c_Norms) (.ref c_Record) = some false
  kit_tuple_Record : PySem.W.kitOne K (.type "tuple") (.ref c_Record) = some false
  kit_list_Record : PySem.W.kitOne K (.type "list") (.ref c_Record) = some false
  kit_Record_Query : PySem.W.kitOne K (.ref c_Record) (.ref c_Query) = some false
  kit_Query_Query : PySem.W.kitOne K (.ref c_Query) (.ref c_Query) = some true
  kit_Part_Query : PySem.W.kitOne K (.ref c_Part) (.ref c_Query) = some false
  kit_Bound_Query : PySem.W.kitOne K (.ref c_Bound) (.ref c_Query) = some false
  kit_Region_Query : PySem.W.kitOne K (.ref c_Region) (.ref c_Query) = some false
  kit_Entry_Query : PySem.W.kitOne K (.ref c_Entry) (.ref c_Query) = some false
  kit_Offer_Query : PySem.W.kitOne K (.ref c_Offer) (.ref c_Query) = some false
  kit_Norms_Query : PySem.W.kitOne K (.ref c_Norms) (.ref c_Query) = some false
  kit_tuple_Query : PySem.W.kitOne K (.type "tuple") (.ref c_Query) = some false
  kit_list_Query : PySem.W.kitOne K (.type "list") (.ref c_Query) = some false
  kit_Record_Bound : PySem.W.kitOne K (.ref c_Record) (.ref c_Bound) = some false
  kit_Query_Bound : PySem.W.kitOne K (.ref c_Query) (.ref c_Bound) = some false
  kit_Part_Bound : PySem.W.kitOne K (.ref c_Part) (.ref c_Bound) = some false
  kit_Bound_Bound : PySem.W.kitOne K (.ref c_Bound) (.ref c_Bound) = some true
  kit_Region_Bound : PySem.W.kitOne K (.ref c_Region) (.ref c_Bound) = some false
  kit_Entry_Bound : PySem.W.kitOne K (.ref c_Entry) (.ref c_Bound) = some false
  kit_Offer_Bound : PySem.W.kitOne K (.ref c_Offer) (.ref c_Bound) = some false
  kit_Norms_Bound : PySem.W.kitOne K (.ref c_Norms) (.ref c_Bound) = some false
  kit_tuple_Bound : PySem.W.kitOne K (.type "tuple") (.ref c_Bound) = some false
  kit_list_Bound : PySem.W.kitOne K (.type "list") (.ref c_Bound) = some false
  kit_Record_Part : PySem.W.kitOne K (.ref c_Record) (.ref c_Part) = some false
  kit_Query_Part : PySem.W.kitOne K (.ref c_Query) (.ref c_Part) = some false
  kit_Part_Part : PySem.W.kitOne K (.ref c_Part) (.ref c_Part) = some true
  kit_Bound_Part : PySem.W.kitOne K (.ref c_Bound) (.ref c_Part) = some false
  kit_Region_Part : PySem.W.kitOne K (.ref c_Region) (.ref c_Part) = some false
  kit_Entry_Part : PySem.W.kitOne K (.ref c_Entry) (.ref c_Part) = some false
  kit_Offer_Part : PySem.W.kitOne K (.ref c_Offer) (.ref c_Part) = some false
  kit_Norms_Part : PySem.W.kitOne K (.ref c_Norms) (.ref c_Part) = some false
  kit_tuple_Part : PySem.W.kitOne K (.type "tuple") (.ref c_Part) = some false
  kit_list_Part : PySem.W.kitOne K (.type "list") (.ref c_Part) = some false
  kit_Record_Norms : PySem.W.kitOne K (.ref c_Record) (.ref c_Norms) = some false
  kit_Query_Norms : PySem.W.kitOne K (.ref c_Query) (.ref c_Norms) = some false
  kit_Part_Norms : PySem.W.kitOne K (.ref c_Part) (.ref c_Norms) = some false
  kit_Bound_Norms : PySem.W.kitOne K (.ref c_Bound) (.ref c_Norms) = some false
  kit_Region_Norms : PySem.W.kitOne K (.ref c_Region) (.ref c_Norms) = some false
  kit_Entry_Norms : PySem.W.kitOne K (.ref c_Entry) (.ref c_Norms) = some false
  kit_Offer_Norms : PySem.W.kitOne K (.ref c_Offer) (.ref c_Norms) = some false
  kit_Norms_Norms : PySem.W.kitOne K (.ref c_Norms) (.ref c_Norms) = some true
  kit_tuple_Norms : PySem.W.kitOne K (.type "tuple") (.ref c_Norms) = some false
  kit_list_Norms : PySem.W.kitOne K (.type "list") (.ref c_Norms) = some false
  kit_Record_Region : PySem.W.kitOne K (.ref c_Record) (.ref c_Region) = some false
  kit_Query_Region : PySem.W.kitOne K (.ref c_Query) (.ref c_Region) = some false
  kit_Part_Region : PySem.W.kitOne K (.ref c_Part) (.ref c_Region) = some false
  kit_Bound_Region : PySem.W.kitOne K (.ref c_Bound) (.ref c_Region) = some false
  kit_Region_Region : PySem.W.kitOne K (.ref c_Region) (.ref c_Region) = some true
  kit_Entry_Region : PySem.W.kitOne K (.ref c_Entry) (.ref c_Region) = some false
  kit_Offer_Region : PySem.W.kitOne K (.ref c_Offer) (.ref c_Region) = some false
  kit_Norms_Region : PySem.W.kitOne K (.ref c_Norms) (.ref c_Region) = some false
  kit_tuple_Region : PySem.W.kitOne K (.type "tuple") (.ref c_Region) = some false
  kit_list_Region : PySem.W.kitOne K (.type "list") (.ref c_Region) = some false
  kit_Record_Entry : PySem.W.kitOne K (.ref c_Record) (.ref c_Entry) = some false
  kit_Query_Entry : PySem.W.kitOne K (.ref c_Query) (.ref c_Entry) = some false
  kit_Part_Entry : PySem.W.kitOne K (.ref c_Part) (.ref c_Entry) = some false
  kit_Bound_Entry : PySem.W.kitOne K (.ref c_Bound) (.ref c_Entry) = some false
  kit_Region_Entry : PySem.W.kitOne K (.ref c_Region) (.ref c_Entry) = some false
  kit_Entry_Entry : PySem.W.kitOne K (.ref c_Entry) (.ref c_Entry) = some true
  kit_Offer_Entry : PySem.W.kitOne K (.ref c_Offer) (.ref c_Entry) = some false
  kit_Norms_Entry : PySem.W.kitOne K (.ref c_Norms) (.ref c_Entry) = some false
  kit_tuple_Entry : PySem.W.kitOne K (.type "tuple") (.ref c_Entry) = some false
  kit_list_Entry : PySem.W.kitOne K (.type "list") (.ref c_Entry) = some false
  kit_Record_Offer : PySem.W.kitOne K (.ref c_Record) (.ref c_Offer) = some false
  kit_Query_Offer : PySem.W.kitOne K (.ref c_Query) (.ref c_Offer) = some false
  kit_Part_Offer : PySem.W.kitOne K (.ref c_Part) (.ref c_Offer) = some false
  kit_Bound_Offer : PySem.W.kitOne K (.ref c_Bound) (.ref c_Offer) = some false
  kit_Region_Offer : PySem.W.kitOne K (.ref c_Region) (.ref c_Offer) = some false
  kit_Entry_Offer : PySem.W.kitOne K (.ref c_Entry) (.ref c_Offer) = some false
  kit_Offer_Offer : PySem.W.kitOne K (.ref c_Offer) (.ref c_Offer) = some true
  kit_Norms_Offer : PySem.W.kitOne K (.ref c_Norms) (.ref c_Offer) = some false
  kit_tuple_Offer : PySem.W.kitOne K (.type "tuple") (.ref c_Offer) = some false
  kit_list_Offer : PySem.W.kitOne K (.type "list") (.ref c_Offer) = some false
  nf_Record_Query : PySem.W.notFirst K c_Record (.ref c_Query) = true
  nf_Record_Part : PySem.W.notFirst K c_Record (.ref c_Part) = true
  nf_Record_Bound : PySem.W.notFirst K c_Record (.ref c_Bound) = true
  nf_Record_Region : PySem.W.notFirst K c_Record (.ref c_Region) = true
  nf_Record_Entry : PySem.W.notFirst K c_Record (.ref c_Entry) = true
  nf_Record_Offer : PySem.W.notFirst K c_Record (.ref c_Offer) = true
  nf_Record_Norms : PySem.W.notFirst K c_Record (.ref c_Norms) = true
  nf_Record_tuple : PySem.W.notFirst K c_Record (.type "tuple") = true
  nf_Record_list : PySem.W.notFirst K c_Record (.type "list") = true
  nf_Query_Record : PySem.W.notFirst K c_Query (.ref c_Record) = true
  nf_Query_Part : PySem.W.notFirst K c_Query (.ref c_Part) = true
  nf_Query_Bound : PySem.W.notFirst K c_Query (.ref c_Bound) = true
  nf_Query_Region : PySem.W.notFirst K c_Query (.ref c_Region) = true
  nf_Query_Entry : PySem.W.notFirst K c_Query (.ref c_Entry) = true
  nf_Query_Offer : PySem.W.notFirst K c_Query (.ref c_Offer) = true
  nf_Query_Norms : PySem.W.notFirst K c_Query (.ref c_Norms) = true
  nf_Query_tuple : PySem.W.notFirst K c_Query (.type "tuple") = true
  nf_Query_list : PySem.W.notFirst K c_Query (.type "list") = true
  nf_Part_Record : PySem.W.notFirst K c_Part (.ref c_Record) = true
  nf_Part_Query : PySem.W.notFirst K c_Part (.ref c_Query) = true
  nf_Part_Bound : PySem.W.notFirst K c_Part (.ref c_Bound) = true
  nf_Part_Region : PySem.W.notFirst K c_Part (.ref c_Region) = true
  nf_Part_Entry : PySem.W.notFirst K c_Part (.ref c_Entry) = true
  nf_Part_Offer : PySem.W.notFirst K c_Part (.ref c_Offer) = true
  nf_Part_Norms : PySem.W.notFirst K c_Part (.ref c_Norms) = true
  nf_Part_tuple : PySem.W.notFirst K c_Part (.type "tuple") = true
  nf_Part_list : PySem.W.notFirst K c_Part (.type "list") = true
  nf_Bound_Record : PySem.W.notFirst K c_Bound (.ref c_Record) = true
  nf_Bound_Query : PySem.W.notFirst K c_Bound (.ref c_Query) = true
  nf_Bound_Part : PySem.W.notFirst K c_Bound (.ref c_Part) = true
  nf_Bound_Region : PySem.W.notFirst K c_Bound (.ref c_Region) = true
  nf_Bound_Entry : PySem.W.notFirst K c_Bound (.ref c_Entry) = true
  nf_Bound_Offer : PySem.W.notFirst K c_Bound (.ref c_Offer) = true
  nf_Bound_Norms : PySem.W.notFirst K c_Bound (.ref c_Norms) = true
  nf_Bound_tuple : PySem.W.notFirst K c_Bound (.type "tuple") = true
  nf_Bound_list : PySem.W.notFirst K c_Bound (.type "list") = true
  nf_Region_Record : PySem.W.notFirst K c_Region (.ref c_Record) = true
  nf_Region_Query : PySem.W.notFirst K c_Region (.ref c_Query) = true
  nf_Region_Part : PySem.W.notFirst K c_Region (.ref c_Part) = true
  nf_Region_Bound : PySem.W.notFirst K c_Region (.ref c_Bound) = true
  nf_Region_Entry : PySem.W.notFirst K c_Region (.ref c_Entry) = true
  nf_Region_Offer : PySem.W.notFirst K c_Region (.ref c_Offer) = true
  nf_Region_Norms : PySem.W.notFirst K c_Region (.ref c_Norms) = true
  nf_Region_tuple : PySem.W.notFirst K c_Region (.type "tuple") = true
  nf_Region_list : PySem.W.notFirst K c_Region (.type "list") = true
  nf_Entry_Record : PySem.W.notFirst K c_Entry (.ref c_Record) = true
  nf_Entry_Query : PySem.W.notFirst K c_Entry (.ref c_Query) = true
  nf_Entry_Part : PySem.W.notFirst K c_Entry (.ref c_Part) = true
  nf_Entry_Bound : PySem.W.notFirst K c_Entry (.ref c_Bound) = true
  nf_Entry_Region : PySem.W.notFirst K c_Entry (.ref c_Region) = true
  nf_Entry_Offer : PySem.W.notFirst K c_Entry (.ref c_Offer) = true
  nf_Entry_Norms : PySem.W.notFirst K c_Entry (.ref c_Norms) = true
  nf_Entry_tuple : PySem.W.notFirst K c_Entry (.type "tuple") = true
  nf_Entry_list : PySem.W.notFirst K c_Entry (.type "list") = true
  nf_Offer_Record : PySem.W.notFirst K c_Offer (.ref c_Record) = true
  nf_Offer_Query : PySem.W.notFirst K c_Offer (.ref c_Query) = true
  nf_Offer_Part : PySem.W.notFirst K c_Offer (.ref c_Part) = true
  nf_Offer_Bound : PySem.W.notFirst K c_Offer (.ref c_Bound) = true
  nf_Offer_Region : PySem.W.notFirst K c_Offer (.ref c_Region) = true
  nf_Offer_Entry : PySem.W.notFirst K c_Offer (.ref c_Entry) = true
  nf_Offer_Norms : PySem.W.notFirst K c_Offer (.ref c_Norms) = true
  nf_Offer_tuple : PySem.W.notFirst K c_Offer (.type "tuple") = true
  nf_Offer_list : PySem.W.notFirst K c_Offer (.type "list") = true
  hn0 : PySem.W.specialIn K (.builtin "object.__class__") "__get__" = some (some (.builtin "getset_descriptor.__get__"))
  ht0 : PySem.W.takesIn K (.builtin "object.__class__") = some true
  m_bool : mg "bool" = none
  m_int : mg "int" = none
  m_isinstance : mg "isinstance" = none
  m_len : mg "len" = none
  m_list : mg "list" = none
  m_range : mg "range" = none
  m_str : mg "str" = none
  m_tuple : mg "tuple" = none
section
variable {P : Program} {w : World} {K : PySem.W.Frag} {mg : Str → Option Value} {base : Heap}
def y_Val (T : Txt K mg) : Ty Val := ⟨fun Z v x => match x with
  | .i y => (yInt).r Z v y
  | .b y => (yBool).r Z v y,
  fun {Z Z2 v x} s h => match x, h with
  | .i y, h => (yInt).mono s h
  | .b y, h => (yBool).mono s h⟩
theorem nn_Val (T : Txt K mg) : NonNil (y_Val T) := fun Z v x h => match x, h with
  | .i y, h => nn_int Z v y h
  | .b y, h => nn_bool Z v y h
theorem ij_Val_i (T : Txt K mg) {μ : Type} {M : Mu μ} {σ : L2.St} {Z H : Hp} {s s1 : μ} {ta : TE} {x : Int} (h : Ev M ta σ Z H s (ty yInt x) s1) : Ev M ta σ Z H s (ty (y_Val T) (.i x)) s1 := h.weak fun _ _ _ _ e => e
theorem pj_Val_i (T : Txt K mg) {μ : Type} {M : Mu μ} {σ : L2.St} {Z H : Hp} {s s1 : μ} {ta : TE} {x : Val} {y : Int} (h : Ev M ta σ Z H s (ty (y_Val T) x) s1) (e : x.p_i = some y) : Ev M ta σ Z H s (ty yInt y) s1 := by
  cases x <;> first | (have e := Option.some.inj e; subst e; exact h.weak fun _ _ _ _ e => e) | cases e
theorem ij_Val_b (T : Txt K mg) {μ : Type} {M : Mu μ} {σ : L2.St} {Z H : Hp} {s s1 : μ} {ta : TE} {x : Bool} (h : Ev M ta σ Z H s (ty yBool x) s1) : Ev M ta σ Z H s (ty (y_Val T) (.b x)) s1 := h.weak fun _ _ _ _ e => e
theorem pj_Val_b (T : Txt K mg) {μ : Type} {M : Mu μ} {σ : L2.St} {Z H : Hp} {s s1 : μ} {ta : TE} {x : Val} {y : Bool} (h : Ev M ta σ Z H s (ty (y_Val T) x) s1) (e : x.p_b = some y) : Ev M ta σ Z H s (ty yBool y) s1 := by
  cases x <;> first | (have e := Option.some.inj e; subst e; exact h.weak fun _ _ _ _ e => e) | cases e
theorem eqw_Val (T : Txt K mg) : EqW K (y_Val T) d_Val 8 where
  dp := fun Z H v x sz h => match x, h with
    | .i y, h => EqW.dp (K := K) (τ := yInt) eqd_int.w Z H v y sz h
    | .b y, h => EqW.dp (K := K) (τ := yBool) eqd_bool.w Z H v y sz h
  lay := fun Z v x h => match x, h with
    | .i y, h => EqW.lay (K := K) (τ := yInt) eqd_int.w Z v y h
    | .b y, h => EqW.lay (K := K) (τ := yBool) eqd_bool.w Z v y h
  dep := fun x => match x with
    | .i y => Nat.le_trans (EqW.dep (K := K) (τ := yInt) eqd_int.w y) (by decide)
    | .b y => Nat.le_trans (EqW.dep (K := K) (τ := yBool) eqd_bool.w y) (by decide)
theorem fn_Val {X : Cx} (T : Txt K mg) (hK : X.K = K) : FnI X (y_Val T) := fun pins σ s Z H v x y I sz h g => match x, y, h, g with
  | .i a, .i b, h, g => congrArg Val.i (fn_int pins σ s Z H v a b I sz h g)
  | .i a, .b b, h, g => absurd ((show v = V.int _ from h).symm.trans (show v = V.bl _ from g)) (fun z => nomatch z)
  | .b a, .i b, h, g => absurd ((show v = V.bl _ from h).symm.trans (show v = V.int _ from g)) (fun z => nomatch z)
  | .b a, .b b, h, g => congrArg Val.b (fn_bool pins σ s Z H v a b I sz h g)
def cls_Val (T : Txt K mg) : Val → Value
  | .i _ => (.type "int")
  | .b _ => (.type "bool")
theorem tx_Val (T : Txt K mg) {fp : List Addr} {x : Val} : ∀ Z H v, Same Z H → (ty (fp := fp) (y_Val T) x).r Z H v → TyX K H v (cls_Val T x) := fun Z H v sz h => match x, h with
  | .i y, h => tx_int Z H v sz (show (ty (fp := fp) yInt y).r Z H v from h)
  | .b y, h => tx_bool Z H v sz (show (ty (fp := fp) yBool y).r Z H v from h)
theorem kit_Val_bool (T : Txt K mg) (x : Val) : PySem.W.kitOne K (cls_Val T x) (.type "bool") = some (x.is_bool) := match x with
  | .i _ => (show PySem.W.kitOne K (.type "int") (.type "bool") = some false from (kit_ty (by decide +kernel)))
  | .b _ => (show PySem.W.kitOne K (.type "bool") (.type "bool") = some true from (kit_ty (by decide +kernel)))
theorem kit_Val_int (T : Txt K mg) (x : Val) : PySem.W.kitOne K (cls_Val T x) (.type "int") = some (x.is_int) := match x with
  | .i _ => (show PySem.W.kitOne K (.type "int") (.type "int") = some true from (kit_ty (by decide +kernel)))
  | .b _ => (show PySem.W.kitOne K (.type "bool") (.type "int") = some true from (kit_ty (by decide +kernel)))
def y_Record (T : Txt K mg) : Ty Record := ⟨fun Z v x => ∃ a dx w0 w1 w2 w3, v = .ref a ∧ Z a = some (.ins T.c_Record dx (ff_Record w0 w1 w2 w3)) ∧ (yStr).r Z w0 x.name ∧ ((yTup K yInt)).r Z w1 x.vector ∧ ((yTup K (yP2 K yStr (y_Val T)))).r Z w2 x.fields ∧ ((yTup K (yP2 K yStr yInt))).r Z w3 x.words,
  fun s ⟨a, dx, w0, w1, w2, w3, e, h, h0, h1, h2, h3⟩ => ⟨a, dx, w0, w1, w2, w3, e, s _ _ h, (yStr).mono s h0, ((yTup K yInt)).mono s h1, ((yTup K (yP2 K yStr (y_Val T)))).mono s h2, ((yTup K (yP2 K yStr yInt))).mono s h3⟩⟩
theorem nn_Record (T : Txt K mg) : NonNil (y_Record T) := fun _ _ _ ⟨_, _, _, _, _, _, e, _⟩ => by rw [e]; exact fun z => nomatch z
theorem fo_Record_name (T : Txt K mg) : FldOf (y_Record T) T.c_Record "name" yStr Record.name := fun _ _ _ ⟨a, dx, w0, w1, w2, w3, e, h, h0, h1, h2, h3⟩ => ⟨a, dx, _, w0, e, h, lk_Record_name, h0⟩
theorem fo_Record_vector (T : Txt K mg) : FldOf (y_Record T) T.c_Record "vector" (yTup K yInt) Record.vector := fun _ _ _ ⟨a, dx, w0, w1, w2, w3, e, h, h0, h1, h2, h3⟩ => ⟨a, dx, _, w1, e, h, lk_Record_vector, h1⟩
theorem fo_Record_fields (T : Txt K mg) : FldOf (y_Record T) T.c_Record "fields" (yTup K (yP2 K yStr (y_Val T))) Record.fields := fun _ _ _ ⟨a, dx, w0, w1, w2, w3, e, h, h0, h1, h2, h3⟩ => ⟨a, dx, _, w2, e, h, lk_Record_fields, h2⟩
theorem fo_Record_words (T : Txt K mg) : FldOf (y_Record T) T.c_Record "words" (yTup K (yP2 K yStr yInt)) Record.words := fun _ _ _ ⟨a, dx, w0, w1, w2, w3, e, h, h0, h1, h2, h3⟩ => ⟨a, dx, _, w3, e, h, lk_Record_words, h3⟩
theorem tx_Record (T : Txt K mg) {fp : List Addr} {x : Record} : ∀ Z H v, Same Z H → (ty (fp := fp) (y_Record T) x).r Z H v → TyX K H v (.ref T.c_Record) := fun _ _ _ sz ⟨a, dx, w0, w1, w2, w3, e, h, _⟩ => by subst e; exact .base (.ins (sz _ _ h) T.cl_Record T.ha_Record T.hn0 T.ht0 T.hm_Record)
theorem oo_Record (T : Txt K mg) {m : Str} (h : ¬ m = "name" ∧ ¬ m = "vector" ∧ ¬ m = "fields" ∧ ¬ m = "words") : ObjOf (y_Record T) T.c_Record m := fun _ _ _ ⟨a, dx, w0, w1, w2, w3, e, g, _⟩ => ⟨a, dx, _, e, g, no_Record (h.1) (h.2.1) (h.2.2.1) (h.2.2.2)⟩
theorem ins_Record (T : Txt K mg) : ∀ Z v x, (y_Record T).r Z v x → ∃ a dx fs, v = .ref a ∧ Z a = some (.ins T.c_Record dx fs) := fun _ _ _ ⟨a, dx, _, _, _, _, e, h, _⟩ => ⟨a, dx, _, e, h⟩
def y_Query (T : Txt K mg) : Ty Query := ⟨fun Z v x => ∃ a dx w0 w1 w2 w3 w4, v = .ref a ∧ Z a = some (.ins T.c_Query dx (ff_Query w0 w1 w2 w3 w4)) ∧ ((yTup K yInt)).r Z w0 x.vector ∧ (yInt).r Z w1 x.near ∧ ((yTup K (yP2 K yStr yInt))).r Z w2 x.words ∧ (yStr).r Z w3 x.text ∧ (yInt).r Z w4 x.most,
  fun s ⟨a, dx, w0, w1, w2, w3, w4, e, h, h0, h1, h2, h3, h4⟩ => ⟨a, dx, w0, w1, w2, w3, w4, e, s _ _ h, ((yTup K yInt)).mono s h0, (yInt).mono s h1, ((yTup K (yP2 K yStr yInt))).mono s h2, (yStr).mono s h3, (yInt).mono s h4⟩⟩
theorem nn_Query (T : Txt K mg) : NonNil (y_Query T) := fun _ _ _ ⟨_, _, _, _, _, _, _, e, _⟩ => by rw [e]; exact fun z => nomatch z
theorem fo_Query_vector (T : Txt K mg) : FldOf (y_Query T) T.c_Query "vector" (yTup K yInt) Query.vector := fun _ _ _ ⟨a, dx, w0, w1, w2, w3, w4, e, h, h0, h1, h2, h3, h4⟩ => ⟨a, dx, _, w0, e, h, lk_Query_vector, h0⟩
theorem fo_Query_near (T : Txt K mg) : FldOf (y_Query T) T.c_Query "near" yInt Query.near := fun _ _ _ ⟨a, dx, w0, w1, w2, w3, w4, e, h, h0, h1, h2, h3, h4⟩ => ⟨a, dx, _, w1, e, h, lk_Query_near, h1⟩
theorem fo_Query_words (T : Txt K mg) : FldOf (y_Query T) T.c_Query "words" (yTup K (yP2 K yStr yInt)) Query.words := fun _ _ _ ⟨a, dx, w0, w1, w2, w3, w4, e, h, h0, h1, h2, h3, h4⟩ => ⟨a, dx, _, w2, e, h, lk_Query_words, h2⟩
theorem fo_Query_text (T : Txt K mg) : FldOf (y_Query T) T.c_Query "text" yStr Query.text := fun _ _ _ ⟨a, dx, w0, w1, w2, w3, w4, e, h, h0, h1, h2, h3, h4⟩ => ⟨a, dx, _, w3, e, h, lk_Query_text, h3⟩
theorem fo_Query_most (T : Txt K mg) : FldOf (y_Query T) T.c_Query "most" yInt Query.most := fun _ _ _ ⟨a, dx, w0, w1, w2, w3, w4, e, h, h0, h1, h2, h3, h4⟩ => ⟨a, dx, _, w4, e, h, lk_Query_most, h4⟩
theorem tx_Query (T : Txt K mg) {fp : List Addr} {x : Query} : ∀ Z H v, Same Z H → (ty (fp := fp) (y_Query T) x).r Z H v → TyX K H v (.ref T.c_Query) := fun _ _ _ sz ⟨a, dx, w0, w1, w2, w3, w4, e, h, _⟩ => by subst e; exact .base (.ins (sz _ _ h) T.cl_Query T.ha_Query T.hn0 T.ht0 T.hm_Query)
theorem oo_Query (T : Txt K mg) {m : Str} (h : ¬ m = "vector" ∧ ¬ m = "near" ∧ ¬ m = "words" ∧ ¬ m = "text" ∧ ¬ m = "most") : ObjOf (y_Query T) T.c_Query m := fun _ _ _ ⟨a, dx, w0, w1, w2, w3, w4, e, g, _⟩ => ⟨a, dx, _, e, g, no_Query (h.1) (h.2.1) (h.2.2.1) (h.2.2.2.1) (h.2.2.2.2)⟩
theorem ins_Query (T : Txt K mg) : ∀ Z v x, (y_Query T).r Z v x → ∃ a dx fs, v = .ref a ∧ Z a = some (.ins T.c_Query dx fs) := fun _ _ _ ⟨a, dx, _, _, _, _, _, e, h, _⟩ => ⟨a, dx, _, e, h⟩
def y_Part (T : Txt K mg) : Ty Part := ⟨fun Z v x => ∃ a dx w0 w1 w2, v = .ref a ∧ Z a = some (.ins T.c_Part dx (ff_Part w0 w1 w2)) ∧ (yInt).r Z w0 x.start ∧ ((yTup K yInt)).r Z w1 x.centre ∧ (yInt).r Z w2 x.radius,
  fun s ⟨a, dx, w0, w1, w2, e, h, h0, h1, h2⟩ => ⟨a, dx, w0, w1, w2, e, s _ _ h, (yInt).mono s h0, ((yTup K yInt)).mono s h1, (yInt).mono s h2⟩⟩
theorem nn_Part (T : Txt K mg) : NonNil (y_Part T) := fun _ _ _ ⟨_, _, _, _, _, e, _⟩ => by rw [e]; exact fun z => nomatch z
theorem fo_Part_start (T : Txt K mg) : FldOf (y_Part T) T.c_Part "start" yInt Part.start := fun _ _ _ ⟨a, dx, w0, w1, w2, e, h, h0, h1, h2⟩ => ⟨a, dx, _, w0, e, h, lk_Part_start, h0⟩
theorem fo_Part_centre (T : Txt K mg) : FldOf (y_Part T) T.c_Part "centre" (yTup K yInt) Part.centre := fun _ _ _ ⟨a, dx, w0, w1, w2, e, h, h0, h1, h2⟩ => ⟨a, dx, _, w1, e, h, lk_Part_centre, h1⟩
theorem fo_Part_radius (T : Txt K mg) : FldOf (y_Part T) T.c_Part "radius" yInt Part.radius := fun _ _ _ ⟨a, dx, w0, w1, w2, e, h, h0, h1, h2⟩ => ⟨a, dx, _, w2, e, h, lk_Part_radius, h2⟩
theorem tx_Part (T : Txt K mg) {fp : List Addr} {x : Part} : ∀ Z H v, Same Z H → (ty (fp := fp) (y_Part T) x).r Z H v → TyX K H v (.ref T.c_Part) := fun _ _ _ sz ⟨a, dx, w0, w1, w2, e, h, _⟩ => by subst e; exact .base (.ins (sz _ _ h) T.cl_Part T.ha_Part T.hn0 T.ht0 T.hm_Part)
theorem oo_Part (T : Txt K mg) {m : Str} (h : ¬ m = "start" ∧ ¬ m = "centre" ∧ ¬ m = "radius") : ObjOf (y_Part T) T.c_Part m := fun _ _ _ ⟨a, dx, w0, w1, w2, e, g, _⟩ => ⟨a, dx, _, e, g, no_Part (h.1) (h.2.1) (h.2.2)⟩
theorem ins_Part (T : Txt K mg) : ∀ Z v x, (y_Part T).r Z v x → ∃ a dx fs, v = .ref a ∧ Z a = some (.ins T.c_Part dx fs) := fun _ _ _ ⟨a, dx, _, _, _, e, h, _⟩ => ⟨a, dx, _, e, h⟩
def y_Bound (T : Txt K mg) : Ty Bound := ⟨fun Z v x => ∃ a dx w0 w1 w2, v = .ref a ∧ Z a = some (.ins T.c_Bound dx (ff_Bound w0 w1 w2)) ∧ ((yOpt yInt)).r Z w0 x.cost ∧ (yStr).r Z w1 x.name ∧ (yBool).r Z w2 x.can,
  fun s ⟨a, dx, w0, w1, w2, e, h, h0, h1, h2⟩ => ⟨a, dx, w0, w1, w2, e, s _ _ h, ((yOpt yInt)).mono s h0, (yStr).mono s h1, (yBool).mono s h2⟩⟩
theorem nn_Bound (T : Txt K mg) : NonNil (y_Bound T) := fun _ _ _ ⟨_, _, _, _, _, e, _⟩ => by rw [e]; exact fun z => nomatch z
theorem fo_Bound_cost (T : Txt K mg) : FldOf (y_Bound T) T.c_Bound "cost" (yOpt yInt) Bound.cost := fun _ _ _ ⟨a, dx, w0, w1, w2, e, h, h0, h1, h2⟩ => ⟨a, dx, _, w0, e, h, lk_Bound_cost, h0⟩
theorem fo_Bound_name (T : Txt K mg) : FldOf (y_Bound T) T.c_Bound "name" yStr Bound.name := fun _ _ _ ⟨a, dx, w0, w1, w2, e, h, h0, h1, h2⟩ => ⟨a, dx, _, w1, e, h, lk_Bound_name, h1⟩
theorem fo_Bound_can (T : Txt K mg) : FldOf (y_Bound T) T.c_Bound "can" yBool Bound.can := fun _ _ _ ⟨a, dx, w0, w1, w2, e, h, h0, h1, h2⟩ => ⟨a, dx, _, w2, e, h, lk_Bound_can, h2⟩
theorem tx_Bound (T : Txt K mg) {fp : List Addr} {x : Bound} : ∀ Z H v, Same Z H → (ty (fp := fp) (y_Bound T) x).r Z H v → TyX K H v (.ref T.c_Bound) := fun _ _ _ sz ⟨a, dx, w0, w1, w2, e, h, _⟩ => by subst e; exact .base (.ins (sz _ _ h) T.cl_Bound T.ha_Bound T.hn0 T.ht0 T.hm_Bound)
theorem oo_Bound (T : Txt K mg) {m : Str} (h : ¬ m = "cost" ∧ ¬ m = "name" ∧ ¬ m = "can") : ObjOf (y_Bound T) T.c_Bound m := fun _ _ _ ⟨a, dx, w0, w1, w2, e, g, _⟩ => ⟨a, dx, _, e, g, no_Bound (h.1) (h.2.1) (h.2.2)⟩
theorem ins_Bound (T : Txt K mg) : ∀ Z v x, (y_Bound T).r Z v x → ∃ a dx fs, v = .ref a ∧ Z a = some (.ins T.c_Bound dx fs) := fun _ _ _ ⟨a, dx, _, _, _, e, h, _⟩ => ⟨a, dx, _, e, h⟩
def y_Norms (T : Txt K mg) : Ty Norms := ⟨fun Z v x => ∃ a dx w0 w1, v = .ref a ∧ Z a = some (.ins T.c_Norms dx (ff_Norms w0 w1)) ∧ (yInt).r Z w0 x.low ∧ (yInt).r Z w1 x.high,
  fun s ⟨a, dx, w0, w1, e, h, h0, h1⟩ => ⟨a, dx, w0, w1, e, s _ _ h, (yInt).mono s h0, (yInt).mono s h1⟩⟩
theorem nn_Norms (T : Txt K mg) : NonNil (y_Norms T) := fun _ _ _ ⟨_, _, _, _, e, _⟩ => by rw [e]; exact fun z => nomatch z
theorem fo_Norms_low (T : Txt K mg) : FldOf (y_Norms T) T.c_Norms "low" yInt Norms.low := fun _ _ _ ⟨a, dx, w0, w1, e, h, h0, h1⟩ => ⟨a, dx, _, w0, e, h, lk_Norms_low, h0⟩
theorem fo_Norms_high (T : Txt K mg) : FldOf (y_Norms T) T.c_Norms "high" yInt Norms.high := fun _ _ _ ⟨a, dx, w0, w1, e, h, h0, h1⟩ => ⟨a, dx, _, w1, e, h, lk_Norms_high, h1⟩
theorem tx_Norms (T : Txt K mg) {fp : List Addr} {x : Norms} : ∀ Z H v, Same Z H → (ty (fp := fp) (y_Norms T) x).r Z H v → TyX K H v (.ref T.c_Norms) := fun _ _ _ sz ⟨a, dx, w0, w1, e, h, _⟩ => by subst e; exact .base (.ins (sz _ _ h) T.cl_Norms T.ha_Norms T.hn0 T.ht0 T.hm_Norms)
theorem oo_Norms (T : Txt K mg) {m : Str} (h : ¬ m = "low" ∧ ¬ m = "high") : ObjOf (y_Norms T) T.c_Norms m := fun _ _ _ ⟨a, dx, w0, w1, e, g, _⟩ => ⟨a, dx, _, e, g, no_Norms (h.1) (h.2)⟩
theorem ins_Norms (T : Txt K mg) : ∀ Z v x, (y_Norms T).r Z v x → ∃ a dx fs, v = .ref a ∧ Z a = some (.ins T.c_Norms dx fs) := fun _ _ _ ⟨a, dx, _, _, e, h, _⟩ => ⟨a, dx, _, e, h⟩
def y_Region (T : Txt K mg) : Ty Region := ⟨fun Z v x => ∃ a dx w0 w1, v = .ref a ∧ Z a = some (.ins T.c_Region dx (ff_Region w0 w1)) ∧ ((yOpt yInt)).r Z w0 x.parent ∧ ((yTup K (y_Norms T))).r Z w1 x.facts,
  fun s ⟨a, dx, w0, w1, e, h, h0, h1⟩ => ⟨a, dx, w0, w1, e, s _ _ h, ((yOpt yInt)).mono s h0, ((yTup K (y_Norms T))).mono s h1⟩⟩
theorem nn_Region (T : Txt K mg) : NonNil (y_Region T) := fun _ _ _ ⟨_, _, _, _, e, _⟩ => by rw [e]; exact fun z => nomatch z
theorem fo_Region_parent (T : Txt K mg) : FldOf (y_Region T) T.c_Region "parent" (yOpt yInt) Region.parent := fun _ _ _ ⟨a, dx, w0, w1, e, h, h0, h1⟩ => ⟨a, dx, _, w0, e, h, lk_Region_parent, h0⟩
theorem fo_Region_facts (T : Txt K mg) : FldOf (y_Region T) T.c_Region "facts" (yTup K (y_Norms T)) Region.facts := fun _ _ _ ⟨a, dx, w0, w1, e, h, h0, h1⟩ => ⟨a, dx, _, w1, e, h, lk_Region_facts, h1⟩
theorem tx_Region (T : Txt K mg) {fp : List Addr} {x : Region} : ∀ Z H v, Same Z H → (ty (fp := fp) (y_Region T) x).r Z H v → TyX K H v (.ref T.c_Region) := fun _ _ _ sz ⟨a, dx, w0, w1, e, h, _⟩ => by subst e; exact .base (.ins (sz _ _ h) T.cl_Region T.ha_Region T.hn0 T.ht0 T.hm_Region)
theorem oo_Region (T : Txt K mg) {m : Str} (h : ¬ m = "parent" ∧ ¬ m = "facts") : ObjOf (y_Region T) T.c_Region m := fun _ _ _ ⟨a, dx, w0, w1, e, g, _⟩ => ⟨a, dx, _, e, g, no_Region (h.1) (h.2)⟩
theorem ins_Region (T : Txt K mg) : ∀ Z v x, (y_Region T).r Z v x → ∃ a dx fs, v = .ref a ∧ Z a = some (.ins T.c_Region dx fs) := fun _ _ _ ⟨a, dx, _, _, e, h, _⟩ => ⟨a, dx, _, e, h⟩
def y_Entry (T : Txt K mg) : Ty Entry := ⟨fun Z v x => ∃ a dx w0 w1 w2, v = .ref a ∧ Z a = some (.ins T.c_Entry dx (ff_Entry w0 w1 w2)) ∧ (yInt).r Z w0 x.number ∧ ((y_Record T)).r Z w1 x.record ∧ ((yTup K yInt)).r Z w2 x.leaves,
  fun s ⟨a, dx, w0, w1, w2, e, h, h0, h1, h2⟩ => ⟨a, dx, w0, w1, w2, e, s _ _ h, (yInt).mono s h0, ((y_Record T)).mono s h1, ((yTup K yInt)).mono s h2⟩⟩
theorem nn_Entry (T : Txt K mg) : NonNil (y_Entry T) := fun _ _ _ ⟨_, _, _, _, _, e, _⟩ => by rw [e]; exact fun z => nomatch z
theorem fo_Entry_number (T : Txt K mg) : FldOf (y_Entry T) T.c_Entry "number" yInt Entry.number := fun _ _ _ ⟨a, dx, w0, w1, w2, e, h, h0, h1, h2⟩ => ⟨a, dx, _, w0, e, h, lk_Entry_number, h0⟩
theorem fo_Entry_record (T : Txt K mg) : FldOf (y_Entry T) T.c_Entry "record" (y_Record T) Entry.record := fun _ _ _ ⟨a, dx, w0, w1, w2, e, h, h0, h1, h2⟩ => ⟨a, dx, _, w1, e, h, lk_Entry_record, h1⟩
theorem fo_Entry_leaves (T : Txt K mg) : FldOf (y_Entry T) T.c_Entry "leaves" (yTup K yInt) Entry.leaves := fun _ _ _ ⟨a, dx, w0, w1, w2, e, h, h0, h1, h2⟩ => ⟨a, dx, _, w2, e, h, lk_Entry_leaves, h2⟩
theorem tx_Entry (T : Txt K mg) {fp : List Addr} {x : Entry} : ∀ Z H v, Same Z H → (ty (fp := fp) (y_Entry T) x).r Z H v → TyX K H v (.ref T.c_Entry) := fun _ _ _ sz ⟨a, dx, w0, w1, w2, e, h, _⟩ => by subst e; exact .base (.ins (sz _ _ h) T.cl_Entry T.ha_Entry T.hn0 T.ht0 T.hm_Entry)
theorem oo_Entry (T : Txt K mg) {m : Str} (h : ¬ m = "number" ∧ ¬ m = "record" ∧ ¬ m = "leaves") : ObjOf (y_Entry T) T.c_Entry m := fun _ _ _ ⟨a, dx, w0, w1, w2, e, g, _⟩ => ⟨a, dx, _, e, g, no_Entry (h.1) (h.2.1) (h.2.2)⟩
theorem ins_Entry (T : Txt K mg) : ∀ Z v x, (y_Entry T).r Z v x → ∃ a dx fs, v = .ref a ∧ Z a = some (.ins T.c_Entry dx fs) := fun _ _ _ ⟨a, dx, _, _, _, e, h, _⟩ => ⟨a, dx, _, e, h⟩
def y_Offer (T : Txt K mg) : Ty Offer := ⟨fun Z v x => ∃ a dx w0 w1, v = .ref a ∧ Z a = some (.ins T.c_Offer dx (ff_Offer w0 w1)) ∧ ((yTup K (yTup K (y_Region T)))).r Z w0 x.partitions ∧ ((yTup K (y_Entry T))).r Z w1 x.entries,
  fun s ⟨a, dx, w0, w1, e, h, h0, h1⟩ => ⟨a, dx, w0, w1, e, s _ _ h, ((yTup K (yTup K (y_Region T)))).mono s h0, ((yTup K (y_Entry T))).mono s h1⟩⟩
theorem nn_Offer (T : Txt K mg) : NonNil (y_Offer T) := fun _ _ _ ⟨_, _, _, _, e, _⟩ => by rw [e]; exact fun z => nomatch z
theorem fo_Offer_partitions (T : Txt K mg) : FldOf (y_Offer T) T.c_Offer "partitions" (yTup K (yTup K (y_Region T))) Offer.partitions := fun _ _ _ ⟨a, dx, w0, w1, e, h, h0, h1⟩ => ⟨a, dx, _, w0, e, h, lk_Offer_partitions, h0⟩
theorem fo_Offer_entries (T : Txt K mg) : FldOf (y_Offer T) T.c_Offer "entries" (yTup K (y_Entry T)) Offer.entries := fun _ _ _ ⟨a, dx, w0, w1, e, h, h0, h1⟩ => ⟨a, dx, _, w1, e, h, lk_Offer_entries, h1⟩
theorem tx_Offer (T : Txt K mg) {fp : List Addr} {x : Offer} : ∀ Z H v, Same Z H → (ty (fp := fp) (y_Offer T) x).r Z H v → TyX K H v (.ref T.c_Offer) := fun _ _ _ sz ⟨a, dx, w0, w1, e, h, _⟩ => by subst e; exact .base (.ins (sz _ _ h) T.cl_Offer T.ha_Offer T.hn0 T.ht0 T.hm_Offer)
theorem oo_Offer (T : Txt K mg) {m : Str} (h : ¬ m = "partitions" ∧ ¬ m = "entries") : ObjOf (y_Offer T) T.c_Offer m := fun _ _ _ ⟨a, dx, w0, w1, e, g, _⟩ => ⟨a, dx, _, e, g, no_Offer (h.1) (h.2)⟩
theorem ins_Offer (T : Txt K mg) : ∀ Z v x, (y_Offer T).r Z v x → ∃ a dx fs, v = .ref a ∧ Z a = some (.ins T.c_Offer dx fs) := fun _ _ _ ⟨a, dx, _, _, e, h, _⟩ => ⟨a, dx, _, e, h⟩
def y_El (T : Txt K mg) : Ty El := ⟨fun Z v x => match x with
  | .i y => (yInt).r Z v y
  | .w y => ((yP2 K yStr (y_Val T))).r Z v y,
  fun {Z Z2 v x} s h => match x, h with
  | .i y, h => (yInt).mono s h
  | .w y, h => ((yP2 K yStr (y_Val T))).mono s h⟩
theorem nn_El (T : Txt K mg) : NonNil (y_El T) := fun Z v x h => match x, h with
  | .i y, h => nn_int Z v y h
  | .w y, h => nn_p2 Z v y h
theorem ij_El_i (T : Txt K mg) {μ : Type} {M : Mu μ} {σ : L2.St} {Z H : Hp} {s s1 : μ} {ta : TE} {x : Int} (h : Ev M ta σ Z H s (ty yInt x) s1) : Ev M ta σ Z H s (ty (y_El T) (.i x)) s1 := h.weak fun _ _ _ _ e => e
theorem pj_El_i (T : Txt K mg) {μ : Type} {M : Mu μ} {σ : L2.St} {Z H : Hp} {s s1 : μ} {ta : TE} {x : El} {y : Int} (h : Ev M ta σ Z H s (ty (y_El T) x) s1) (e : x.p_i = some y) : Ev M ta σ Z H s (ty yInt y) s1 := by
  cases x <;> first | (have e := Option.some.inj e; subst e; exact h.weak fun _ _ _ _ e => e) | cases e
theorem ij_El_w (T : Txt K mg) {μ : Type} {M : Mu μ} {σ : L2.St} {Z H : Hp} {s s1 : μ} {ta : TE} {x : (Str × Val)} (h : Ev M ta σ Z H s (ty (yP2 K yStr (y_Val T)) x) s1) : Ev M ta σ Z H s (ty (y_El T) (.w x)) s1 := h.weak fun _ _ _ _ e => e
theorem pj_El_w (T : Txt K mg) {μ : Type} {M : Mu μ} {σ : L2.St} {Z H : Hp} {s s1 : μ} {ta : TE} {x : El} {y : (Str × Val)} (h : Ev M ta σ Z H s (ty (y_El T) x) s1) (e : x.p_w = some y) : Ev M ta σ Z H s (ty (yP2 K yStr (y_Val T)) y) s1 := by
  cases x <;> first | (have e := Option.some.inj e; subst e; exact h.weak fun _ _ _ _ e => e) | cases e
theorem eqw_El (T : Txt K mg) : EqW K (y_El T) d_El 16 where
  dp := fun Z H v x sz h => match x, h with
    | .i y, h => EqW.dp (K := K) (τ := yInt) eqd_int.w Z H v y sz h
    | .w y, h => EqW.dp (K := K) (τ := (yP2 K yStr (y_Val T))) (eqw_p2 eqd_str.w (eqw_Val T)) Z H v y sz h
  lay := fun Z v x h => match x, h with
    | .i y, h => EqW.lay (K := K) (τ := yInt) eqd_int.w Z v y h
    | .w y, h => EqW.lay (K := K) (τ := (yP2 K yStr (y_Val T))) (eqw_p2 eqd_str.w (eqw_Val T)) Z v y h
  dep := fun x => match x with
    | .i y => Nat.le_trans (EqW.dep (K := K) (τ := yInt) eqd_int.w y) (by decide)
    | .w y => Nat.le_trans (EqW.dep (K := K) (τ := (yP2 K yStr (y_Val T))) (eqw_p2 eqd_str.w (eqw_Val T)) y) (by decide)
def cls_El (T : Txt K mg) : El → Value
  | .i _ => (.type "int")
  | .w _ => (.type "tuple")
theorem tx_El (T : Txt K mg) {fp : List Addr} {x : El} : ∀ Z H v, Same Z H → (ty (fp := fp) (y_El T) x).r Z H v → TyX K H v (cls_El T x) := fun Z H v sz h => match x, h with
  | .i y, h => tx_int Z H v sz (show (ty (fp := fp) yInt y).r Z H v from h)
  | .w y, h => tx_p2 Z H v sz (show (ty (fp := fp) (yP2 K yStr (y_Val T)) y).r Z H v from h)
theorem kit_El_tuple (T : Txt K mg) (x : El) : PySem.W.kitOne K (cls_El T x) (.type "tuple") = some (x.is_tuple) := match x with
  | .i _ => (show PySem.W.kitOne K (.type "int") (.type "tuple") = some false from (kit_ty (by decide +kernel)))
  | .w _ => (show PySem.W.kitOne K (.type "tuple") (.type "tuple") = some true from (kit_ty (by decide +kernel)))
def y_Any (T : Txt K mg) : Ty Any := ⟨fun Z v x => match x with
  | .i y => (yInt).r Z v y
  | .b y => (yBool).r Z v y
  | .n y => (yNon).r Z v y
  | .s y => (yStr).r Z v y
  | .l y => ((yList (y_El T))).r Z v y,
  fun {Z Z2 v x} s h => match x, h with
  | .i y, h => (yInt).mono s h
  | .b y, h => (yBool).mono s h
  | .n y, h => (yNon).mono s h
  | .s y, h => (yStr).mono s h
  | .l y, h => ((yList (y_El T))).mono s h⟩
theorem ij_Any_i (T : Txt K mg) {μ : Type} {M : Mu μ} {σ : L2.St} {Z H : Hp} {s s1 : μ} {ta : TE} {x : Int} (h : Ev M ta σ Z H s (ty yInt x) s1) : Ev M ta σ Z H s (ty (y_Any T) (.i x)) s1 := h.weak fun _ _ _ _ e => e
theorem pj_Any_i (T : Txt K mg) {μ : Type} {M : Mu μ} {σ : L2.St} {Z H : Hp} {s s1 : μ} {ta : TE} {x : Any} {y : Int} (h : Ev M ta σ Z H s (ty (y_Any T) x) s1) (e : x.p_i = some y) : Ev M ta σ Z H s (ty yInt y) s1 := by
  cases x <;> first | (have e := Option.some.inj e; subst e; exact h.weak fun _ _ _ _ e => e) | cases e
theorem ij_Any_b (T : Txt K mg) {μ : Type} {M : Mu μ} {σ : L2.St} {Z H : Hp} {s s1 : μ} {ta : TE} {x : Bool} (h : Ev M ta σ Z H s (ty yBool x) s1) : Ev M ta σ Z H s (ty (y_Any T) (.b x)) s1 := h.weak fun _ _ _ _ e => e
theorem pj_Any_b (T : Txt K mg) {μ : Type} {M : Mu μ} {σ : L2.St} {Z H : Hp} {s s1 : μ} {ta : TE} {x : Any} {y : Bool} (h : Ev M ta σ Z H s (ty (y_Any T) x) s1) (e : x.p_b = some y) : Ev M ta σ Z H s (ty yBool y) s1 := by
  cases x <;> first | (have e := Option.some.inj e; subst e; exact h.weak fun _ _ _ _ e => e) | cases e
theorem ij_Any_n (T : Txt K mg) {μ : Type} {M : Mu μ} {σ : L2.St} {Z H : Hp} {s s1 : μ} {ta : TE} {x : Unit} (h : Ev M ta σ Z H s (ty yNon x) s1) : Ev M ta σ Z H s (ty (y_Any T) (.n x)) s1 := h.weak fun _ _ _ _ e => e
theorem pj_Any_n (T : Txt K mg) {μ : Type} {M : Mu μ} {σ : L2.St} {Z H : Hp} {s s1 : μ} {ta : TE} {x : Any} {y : Unit} (h : Ev M ta σ Z H s (ty (y_Any T) x) s1) (e : x.p_n = some y) : Ev M ta σ Z H s (ty yNon y) s1 := by
  cases x <;> first | (have e := Option.some.inj e; subst e; exact h.weak fun _ _ _ _ e => e) | cases e
theorem ij_Any_s (T : Txt K mg) {μ : Type} {M : Mu μ} {σ : L2.St} {Z H : Hp} {s s1 : μ} {ta : TE} {x : Str} (h : Ev M ta σ Z H s (ty yStr x) s1) : Ev M ta σ Z H s (ty (y_Any T) (.s x)) s1 := h.weak fun _ _ _ _ e => e
theorem pj_Any_s (T : Txt K mg) {μ : Type} {M : Mu μ} {σ : L2.St} {Z H : Hp} {s s1 : μ} {ta : TE} {x : Any} {y : Str} (h : Ev M ta σ Z H s (ty (y_Any T) x) s1) (e : x.p_s = some y) : Ev M ta σ Z H s (ty yStr y) s1 := by
  cases x <;> first | (have e := Option.some.inj e; subst e; exact h.weak fun _ _ _ _ e => e) | cases e
theorem ij_Any_l (T : Txt K mg) {μ : Type} {M : Mu μ} {σ : L2.St} {Z H : Hp} {s s1 : μ} {ta : TE} {x : (List El)} (h : Ev M ta σ Z H s (ty (yList (y_El T)) x) s1) : Ev M ta σ Z H s (ty (y_Any T) (.l x)) s1 := h.weak fun _ _ _ _ e => e
theorem pj_Any_l (T : Txt K mg) {μ : Type} {M : Mu μ} {σ : L2.St} {Z H : Hp} {s s1 : μ} {ta : TE} {x : Any} {y : (List El)} (h : Ev M ta σ Z H s (ty (y_Any T) x) s1) (e : x.p_l = some y) : Ev M ta σ Z H s (ty (yList (y_El T)) y) s1 := by
  cases x <;> first | (have e := Option.some.inj e; subst e; exact h.weak fun _ _ _ _ e => e) | cases e
theorem on_Any (T : Txt K mg) {μ : Type} {M : Mu μ} {σ : L2.St} {Z H : Hp} {s s1 : μ} {ta : TE} {x : Any} (h : Ev M ta σ Z H s (ty (y_Any T) x) s1) : Ev M ta σ Z H s (ty (yOpt (y_Any T)) x.on) s1 := h.weak fun Z _ v _ h => match x, h with
  | .i y, h => ⟨h, nn_int Z v y h⟩
  | .b y, h => ⟨h, nn_bool Z v y h⟩
  | .n y, h => h
  | .s y, h => ⟨h, nn_str Z v y h⟩
  | .l y, h => ⟨h, nn_list Z v y h⟩
theorem eqw_Any (T : Txt K mg) : EqW K (y_Any T) d_Any 24 where
  dp := fun Z H v x sz h => match x, h with
    | .i y, h => EqW.dp (K := K) (τ := yInt) eqd_int.w Z H v y sz h
    | .b y, h => EqW.dp (K := K) (τ := yBool) eqd_bool.w Z H v y sz h
    | .n y, h => EqW.dp (K := K) (τ := yNon) eqw_non Z H v y sz h
    | .s y, h => EqW.dp (K := K) (τ := yStr) eqd_str.w Z H v y sz h
    | .l y, h => EqW.dp (K := K) (τ := (yList (y_El T))) (eqw_list (eqw_El T)) Z H v y sz h
  lay := fun Z v x h => match x, h with
    | .i y, h => EqW.lay (K := K) (τ := yInt) eqd_int.w Z v y h
    | .b y, h => EqW.lay (K := K) (τ := yBool) eqd_bool.w Z v y h
    | .n y, h => EqW.lay (K := K) (τ := yNon) eqw_non Z v y h
    | .s y, h => EqW.lay (K := K) (τ := yStr) eqd_str.w Z v y h
    | .l y, h => EqW.lay (K := K) (τ := (yList (y_El T))) (eqw_list (eqw_El T)) Z v y h
  dep := fun x => match x with
    | .i y => Nat.le_trans (EqW.dep (K := K) (τ := yInt) eqd_int.w y) (by decide)
    | .b y => Nat.le_trans (EqW.dep (K := K) (τ := yBool) eqd_bool.w y) (by decide)
    | .n y => Nat.le_trans (EqW.dep (K := K) (τ := yNon) eqw_non y) (by decide)
    | .s y => Nat.le_trans (EqW.dep (K := K) (τ := yStr) eqd_str.w y) (by decide)
    | .l y => Nat.le_trans (EqW.dep (K := K) (τ := (yList (y_El T))) (eqw_list (eqw_El T)) y) (by decide)
def cls_Any (T : Txt K mg) : Any → Value
  | .i _ => (.type "int")
  | .b _ => (.type "bool")
  | .n _ => (.type "NoneType")
  | .s _ => (.type "str")
  | .l _ => (.type "list")
theorem tx_Any (T : Txt K mg) {fp : List Addr} {x : Any} : ∀ Z H v, Same Z H → (ty (fp := fp) (y_Any T) x).r Z H v → TyX K H v (cls_Any T x) := fun Z H v sz h => match x, h with
  | .i y, h => tx_int Z H v sz (show (ty (fp := fp) yInt y).r Z H v from h)
  | .b y, h => tx_bool Z H v sz (show (ty (fp := fp) yBool y).r Z H v from h)
  | .n y, h => tx_non Z H v sz (show (ty (fp := fp) yNon y).r Z H v from h)
  | .s y, h => tx_str Z H v sz (show (ty (fp := fp) yStr y).r Z H v from h)
  | .l y, h => tx_list Z H v sz (show (ty (fp := fp) (yList (y_El T)) y).r Z H v from h)
theorem kit_Any_bool (T : Txt K mg) (x : Any) : PySem.W.kitOne K (cls_Any T x) (.type "bool") = some (x.is_bool) := match x with
  | .i _ => (show PySem.W.kitOne K (.type "int") (.type "bool") = some false from (kit_ty (by decide +kernel)))
  | .b _ => (show PySem.W.kitOne K (.type "bool") (.type "bool") = some true from (kit_ty (by decide +kernel)))
  | .n _ => (show PySem.W.kitOne K (.type "NoneType") (.type "bool") = some false from (kit_ty (by decide +kernel)))
  | .s _ => (show PySem.W.kitOne K (.type "str") (.type "bool") = some false from (kit_ty (by decide +kernel)))
  | .l _ => (show PySem.W.kitOne K (.type "list") (.type "bool") = some false from (kit_ty (by decide +kernel)))
theorem kit_Any_str (T : Txt K mg) (x : Any) : PySem.W.kitOne K (cls_Any T x) (.type "str") = some (x.is_str) := match x with
  | .i _ => (show PySem.W.kitOne K (.type "int") (.type "str") = some false from (kit_ty (by decide +kernel)))
  | .b _ => (show PySem.W.kitOne K (.type "bool") (.type "str") = some false from (kit_ty (by decide +kernel)))
  | .n _ => (show PySem.W.kitOne K (.type "NoneType") (.type "str") = some false from (kit_ty (by decide +kernel)))
  | .s _ => (show PySem.W.kitOne K (.type "str") (.type "str") = some true from (kit_ty (by decide +kernel)))
  | .l _ => (show PySem.W.kitOne K (.type "list") (.type "str") = some false from (kit_ty (by decide +kernel)))
theorem kit_Any_list (T : Txt K mg) (x : Any) : PySem.W.kitOne K (cls_Any T x) (.type "list") = some (x.is_list) := match x with
  | .i _ => (show PySem.W.kitOne K (.type "int") (.type "list") = some false from (kit_ty (by decide +kernel)))
  | .b _ => (show PySem.W.kitOne K (.type "bool") (.type "list") = some false from (kit_ty (by decide +kernel)))
  | .n _ => (show PySem.W.kitOne K (.type "NoneType") (.type "list") = some false from (kit_ty (by decide +kernel)))
  | .s _ => (show PySem.W.kitOne K (.type "str") (.type "list") = some false from (kit_ty (by decide +kernel)))
  | .l _ => (show PySem.W.kitOne K (.type "list") (.type "list") = some true from (kit_ty (by decide +kernel)))
def y_Oth (T : Txt K mg) : Ty Oth := ⟨fun Z v x => match x with
  | .record y => ((y_Record T)).r Z v y
  | .query y => ((y_Query T)).r Z v y
  | .part y => ((y_Part T)).r Z v y
  | .bound y => ((y_Bound T)).r Z v y
  | .region y => ((y_Region T)).r Z v y
  | .entry y => ((y_Entry T)).r Z v y
  | .offer y => ((y_Offer T)).r Z v y
  | .norms y => ((y_Norms T)).r Z v y
  | .tu y => ((yTup K (y_Any T))).r Z v y
  | .li y => ((yList (y_Any T))).r Z v y,
  fun {Z Z2 v x} s h => match x, h with
  | .record y, h => ((y_Record T)).mono s h
  | .query y, h => ((y_Query T)).mono s h
  | .part y, h => ((y_Part T)).mono s h
  | .bound y, h => ((y_Bound T)).mono s h
  | .region y, h => ((y_Region T)).mono s h
  | .entry y, h => ((y_Entry T)).mono s h
  | .offer y, h => ((y_Offer T)).mono s h
  | .norms y, h => ((y_Norms T)).mono s h
  | .tu y, h => ((yTup K (y_Any T))).mono s h
  | .li y, h => ((yList (y_Any T))).mono s h⟩
theorem nn_Oth (T : Txt K mg) : NonNil (y_Oth T) := fun Z v x h => match x, h with
  | .record y, h => (nn_Record T) Z v y h
  | .query y, h => (nn_Query T) Z v y h
  | .part y, h => (nn_Part T) Z v y h
  | .bound y, h => (nn_Bound T) Z v y h
  | .region y, h => (nn_Region T) Z v y h
  | .entry y, h => (nn_Entry T) Z v y h
  | .offer y, h => (nn_Offer T) Z v y h
  | .norms y, h => (nn_Norms T) Z v y h
  | .tu y, h => nn_tup Z v y h
  | .li y, h => nn_list Z v y h
theorem ij_Oth_record (T : Txt K mg) {μ : Type} {M : Mu μ} {σ : L2.St} {Z H : Hp} {s s1 : μ} {ta : TE} {x : Record} (h : Ev M ta σ Z H s (ty (y_Record T) x) s1) : Ev M ta σ Z H s (ty (y_Oth T) (.record x)) s1 := h.weak fun _ _ _ _ e => e
theorem pj_Oth_record (T : Txt K mg) {μ : Type} {M : Mu μ} {σ : L2.St} {Z H : Hp} {s s1 : μ} {ta : TE} {x : Oth} {y : Record} (h : Ev M ta σ Z H s (ty (y_Oth T) x) s1) (e : x.p_record = some y) : Ev M ta σ Z H s (ty (y_Record T) y) s1 := by
  cases x <;> first | (have e := Option.some.inj e; subst e; exact h.weak fun _ _ _ _ e => e) | cases e
theorem ij_Oth_query (T : Txt K mg) {μ : Type} {M : Mu μ} {σ : L2.St} {Z H : Hp} {s s1 : μ} {ta : TE} {x : Query} (h : Ev M ta σ Z H s (ty (y_Query T) x) s1) : Ev M ta σ Z H s (ty (y_Oth T) (.query x)) s1 := h.weak fun _ _ _ _ e => e
theorem pj_Oth_query (T : Txt K mg) {μ : Type} {M : Mu μ} {σ : L2.St} {Z H : Hp} {s s1 : μ} {ta : TE} {x : Oth} {y : Query} (h : Ev M ta σ Z H s (ty (y_Oth T) x) s1) (e : x.p_query = some y) : Ev M ta σ Z H s (ty (y_Query T) y) s1 := by
  cases x <;> first | (have e := Option.some.inj e; subst e; exact h.weak fun _ _ _ _ e => e) | cases e
theorem ij_Oth_part (T : Txt K mg) {μ : Type} {M : Mu μ} {σ : L2.St} {Z H : Hp} {s s1 : μ} {ta : TE} {x : Part} (h : Ev M ta σ Z H s (ty (y_Part T) x) s1) : Ev M ta σ Z H s (ty (y_Oth T) (.part x)) s1 := h.weak fun _ _ _ _ e => e
theorem pj_Oth_part (T : Txt K mg) {μ : Type} {M : Mu μ} {σ : L2.St} {Z H : Hp} {s s1 : μ} {ta : TE} {x : Oth} {y : Part} (h : Ev M ta σ Z H s (ty (y_Oth T) x) s1) (e : x.p_part = some y) : Ev M ta σ Z H s (ty (y_Part T) y) s1 := by
  cases x <;> first | (have e := Option.some.inj e; subst e; exact h.weak fun _ _ _ _ e => e) | cases e
theorem ij_Oth_bound (T : Txt K mg) {μ : Type} {M : Mu μ} {σ : L2.St} {Z H : Hp} {s s1 : μ} {ta : TE} {x : Bound} (h : Ev M ta σ Z H s (ty (y_Bound T) x) s1) : Ev M ta σ Z H s (ty (y_Oth T) (.bound x)) s1 := h.weak fun _ _ _ _ e => e
theorem pj_Oth_bound (T : Txt K mg) {μ : Type} {M : Mu μ} {σ : L2.St} {Z H : Hp} {s s1 : μ} {ta : TE} {x : Oth} {y : Bound} (h : Ev M ta σ Z H s (ty (y_Oth T) x) s1) (e : x.p_bound = some y) : Ev M ta σ Z H s (ty (y_Bound T) y) s1 := by
  cases x <;> first | (have e := Option.some.inj e; subst e; exact h.weak fun _ _ _ _ e => e) | cases e
theorem ij_Oth_region (T : Txt K mg) {μ : Type} {M : Mu μ} {σ : L2.St} {Z H : Hp} {s s1 : μ} {ta : TE} {x : Region} (h : Ev M ta σ Z H s (ty (y_Region T) x) s1) : Ev M ta σ Z H s (ty (y_Oth T) (.region x)) s1 := h.weak fun _ _ _ _ e => e
theorem pj_Oth_region (T : Txt K mg) {μ : Type} {M : Mu μ} {σ : L2.St} {Z H : Hp} {s s1 : μ} {ta : TE} {x : Oth} {y : Region} (h : Ev M ta σ Z H s (ty (y_Oth T) x) s1) (e : x.p_region = some y) : Ev M ta σ Z H s (ty (y_Region T) y) s1 := by
  cases x <;> first | (have e := Option.some.inj e; subst e; exact h.weak fun _ _ _ _ e => e) | cases e
theorem ij_Oth_entry (T : Txt K mg) {μ : Type} {M : Mu μ} {σ : L2.St} {Z H : Hp} {s s1 : μ} {ta : TE} {x : Entry} (h : Ev M ta σ Z H s (ty (y_Entry T) x) s1) : Ev M ta σ Z H s (ty (y_Oth T) (.entry x)) s1 := h.weak fun _ _ _ _ e => e
theorem pj_Oth_entry (T : Txt K mg) {μ : Type} {M : Mu μ} {σ : L2.St} {Z H : Hp} {s s1 : μ} {ta : TE} {x : Oth} {y : Entry} (h : Ev M ta σ Z H s (ty (y_Oth T) x) s1) (e : x.p_entry = some y) : Ev M ta σ Z H s (ty (y_Entry T) y) s1 := by
  cases x <;> first | (have e := Option.some.inj e; subst e; exact h.weak fun _ _ _ _ e => e) | cases e
theorem ij_Oth_offer (T : Txt K mg) {μ : Type} {M : Mu μ} {σ : L2.St} {Z H : Hp} {s s1 : μ} {ta : TE} {x : Offer} (h : Ev M ta σ Z H s (ty (y_Offer T) x) s1) : Ev M ta σ Z H s (ty (y_Oth T) (.offer x)) s1 := h.weak fun _ _ _ _ e => e
theorem pj_Oth_offer (T : Txt K mg) {μ : Type} {M : Mu μ} {σ : L2.St} {Z H : Hp} {s s1 : μ} {ta : TE} {x : Oth} {y : Offer} (h : Ev M ta σ Z H s (ty (y_Oth T) x) s1) (e : x.p_offer = some y) : Ev M ta σ Z H s (ty (y_Offer T) y) s1 := by
  cases x <;> first | (have e := Option.some.inj e; subst e; exact h.weak fun _ _ _ _ e => e) | cases e
theorem ij_Oth_norms (T : Txt K mg) {μ : Type} {M : Mu μ} {σ : L2.St} {Z H : Hp} {s s1 : μ} {ta : TE} {x : Norms} (h : Ev M ta σ Z H s (ty (y_Norms T) x) s1) : Ev M ta σ Z H s (ty (y_Oth T) (.norms x)) s1 := h.weak fun _ _ _ _ e => e
theorem pj_Oth_norms (T : Txt K mg) {μ : Type} {M : Mu μ} {σ : L2.St} {Z H : Hp} {s s1 : μ} {ta : TE} {x : Oth} {y : Norms} (h : Ev M ta σ Z H s (ty (y_Oth T) x) s1) (e : x.p_norms = some y) : Ev M ta σ Z H s (ty (y_Norms T) y) s1 := by
  cases x <;> first | (have e := Option.some.inj e; subst e; exact h.weak fun _ _ _ _ e => e) | cases e
theorem ij_Oth_tu (T : Txt K mg) {μ : Type} {M : Mu μ} {σ : L2.St} {Z H : Hp} {s s1 : μ} {ta : TE} {x : (List Any)} (h : Ev M ta σ Z H s (ty (yTup K (y_Any T)) x) s1) : Ev M ta σ Z H s (ty (y_Oth T) (.tu x)) s1 := h.weak fun _ _ _ _ e => e
theorem pj_Oth_tu (T : Txt K mg) {μ : Type} {M : Mu μ} {σ : L2.St} {Z H : Hp} {s s1 : μ} {ta : TE} {x : Oth} {y : (List Any)} (h : Ev M ta σ Z H s (ty (y_Oth T) x) s1) (e : x.p_tu = some y) : Ev M ta σ Z H s (ty (yTup K (y_Any T)) y) s1 := by
  cases x <;> first | (have e := Option.some.inj e; subst e; exact h.weak fun _ _ _ _ e => e) | cases e
theorem ij_Oth_li (T : Txt K mg) {μ : Type} {M : Mu μ} {σ : L2.St} {Z H : Hp} {s s1 : μ} {ta : TE} {x : (List Any)} (h : Ev M ta σ Z H s (ty (yList (y_Any T)) x) s1) : Ev M ta σ Z H s (ty (y_Oth T) (.li x)) s1 := h.weak fun _ _ _ _ e => e
theorem pj_Oth_li (T : Txt K mg) {μ : Type} {M : Mu μ} {σ : L2.St} {Z H : Hp} {s s1 : μ} {ta : TE} {x : Oth} {y : (List Any)} (h : Ev M ta σ Z H s (ty (y_Oth T) x) s1) (e : x.p_li = some y) : Ev M ta σ Z H s (ty (yList (y_Any T)) y) s1 := by
  cases x <;> first | (have e := Option.some.inj e; subst e; exact h.weak fun _ _ _ _ e => e) | cases e
def cls_Oth (T : Txt K mg) : Oth → Value
  | .record _ => (.ref T.c_Record)
  | .query _ => (.ref T.c_Query)
  | .part _ => (.ref T.c_Part)
  | .bound _ => (.ref T.c_Bound)
  | .region _ => (.ref T.c_Region)
  | .entry _ => (.ref T.c_Entry)
  | .offer _ => (.ref T.c_Offer)
  | .norms _ => (.ref T.c_Norms)
  | .tu _ => (.type "tuple")
  | .li _ => (.type "list")
theorem tx_Oth (T : Txt K mg) {fp : List Addr} {x : Oth} : ∀ Z H v, Same Z H → (ty (fp := fp) (y_Oth T) x).r Z H v → TyX K H v (cls_Oth T x) := fun Z H v sz h => match x, h with
  | .record y, h => (tx_Record T) Z H v sz (show (ty (fp := fp) (y_Record T) y).r Z H v from h)
  | .query y, h => (tx_Query T) Z H v sz (show (ty (fp := fp) (y_Query T) y).r Z H v from h)
  | .part y, h => (tx_Part T) Z H v sz (show (ty (fp := fp) (y_Part T) y).r Z H v from h)
  | .bound y, h => (tx_Bound T) Z H v sz (show (ty (fp := fp) (y_Bound T) y).r Z H v from h)
  | .region y, h => (tx_Region T) Z H v sz (show (ty (fp := fp) (y_Region T) y).r Z H v from h)
  | .entry y, h => (tx_Entry T) Z H v sz (show (ty (fp := fp) (y_Entry T) y).r Z H v from h)
  | .offer y, h => (tx_Offer T) Z H v sz (show (ty (fp := fp) (y_Offer T) y).r Z H v from h)
  | .norms y, h => (tx_Norms T) Z H v sz (show (ty (fp := fp) (y_Norms T) y).r Z H v from h)
  | .tu y, h => tx_tup Z H v sz (show (ty (fp := fp) (yTup K (y_Any T)) y).r Z H v from h)
  | .li y, h => tx_list Z H v sz (show (ty (fp := fp) (yList (y_Any T)) y).r Z H v from h)
theorem kit_Oth_Record (T : Txt K mg) (x : Oth) : PySem.W.kitOne K (cls_Oth T x) (.ref T.c_Record) = some (x.is_Record) := match x with
  | .record _ => (show PySem.W.kitOne K (.ref T.c_Record) (.ref T.c_Record) = some true from T.kit_Record_Record)
  | .query _ => (show PySem.W.kitOne K (.ref T.c_Query) (.ref T.c_Record) = some false from T.kit_Query_Record)
  | .part _ => (show PySem.W.kitOne K (.ref T.c_Part) (.ref T.c_Record) = some false from T.kit_Part_Record)
  | .bound _ => (show PySem.W.kitOne K (.ref T.c_Bound) (.ref T.c_Record) = some false from T.kit_Bound_Record)
  | .region _ => (show PySem.W.kitOne K (.ref T.c_Region) (.ref T.c_Record) = some false from T.kit_Region_Record)
  | .entry _ => (show PySem.W.kitOne K (.ref T.c_Entry) (.ref T.c_Record) = some false from T.kit_Entry_Record)
  | .offer _ => (show PySem.W.kitOne K (.ref T.c_Offer) (.ref T.c_Record) = some false from T.kit_Offer_Record)
  | .norms _ => (show PySem.W.kitOne K (.ref T.c_Norms) (.ref T.c_Record) = some false from T.kit_Norms_Record)
  | .tu _ => (show PySem.W.kitOne K (.type "tuple") (.ref T.c_Record) = some false from T.kit_tuple_Record)
  | .li _ => (show PySem.W.kitOne K (.type "list") (.ref T.c_Record) = some false from T.kit_list_Record)
theorem kit_Oth_Query (T : Txt K mg) (x : Oth) : PySem.W.kitOne K (cls_Oth T x) (.ref T.c_Query) = some (x.is_Query) := match x with
  | .record _ => (show PySem.W.kitOne K (.ref T.c_Record) (.ref T.c_Query) = some false from T.kit_Record_Query)
  | .query _ => (show PySem.W.kitOne K (.ref T.c_Query) (.ref T.c_Query) = some true from T.kit_Query_Query)
  | .part _ => (show PySem.W.kitOne K (.ref T.c_Part) (.ref T.c_Query) = some false from T.kit_Part_Query)
  | .bound _ => (show PySem.W.kitOne K (.ref T.c_Bound) (.ref T.c_Query) = some false from T.kit_Bound_Query)
  | .region _ => (show PySem.W.kitOne K (.ref T.c_Region) (.ref T.c_Query) = some false from T.kit_Region_Query)
  | .entry _ => (show PySem.W.kitOne K (.ref T.c_Entry) (.ref T.c_Query) = some false from T.kit_Entry_Query)
  | .offer _ => (show PySem.W.kitOne K (.ref T.c_Offer) (.ref T.c_Query) = some false from T.kit_Offer_Query)
  | .norms _ => (show PySem.W.kitOne K (.ref T.c_Norms) (.ref T.c_Query) = some false from T.kit_Norms_Query)
  | .tu _ => (show PySem.W.kitOne K (.type "tuple") (.ref T.c_Query) = some false from T.kit_tuple_Query)
  | .li _ => (show PySem.W.kitOne K (.type "list") (.ref T.c_Query) = some false from T.kit_list_Query)
theorem kit_Oth_Bound (T : Txt K mg) (x : Oth) : PySem.W.kitOne K (cls_Oth T x) (.ref T.c_Bound) = some (x.is_Bound) := match x with
  | .record _ => (show PySem.W.kitOne K (.ref T.c_Record) (.ref T.c_Bound) = some false from T.kit_Record_Bound)
  | .query _ => (show PySem.W.kitOne K (.ref T.c_Query) (.ref T.c_Bound) = some false from T.kit_Query_Bound)
  | .part _ => (show PySem.W.kitOne K (.ref T.c_Part) (.ref T.c_Bound) = some false from T.kit_Part_Bound)
  | .bound _ => (show PySem.W.kitOne K (.ref T.c_Bound) (.ref T.c_Bound) = some true from T.kit_Bound_Bound)
  | .region _ => (show PySem.W.kitOne K (.ref T.c_Region) (.ref T.c_Bound) = some false from T.kit_Region_Bound)
  | .entry _ => (show PySem.W.kitOne K (.ref T.c_Entry) (.ref T.c_Bound) = some false from T.kit_Entry_Bound)
  | .offer _ => (show PySem.W.kitOne K (.ref T.c_Offer) (.ref T.c_Bound) = some false from T.kit_Offer_Bound)
  | .norms _ => (show PySem.W.kitOne K (.ref T.c_Norms) (.ref T.c_Bound) = some false from T.kit_Norms_Bound)
  | .tu _ => (show PySem.W.kitOne K (.type "tuple") (.ref T.c_Bound) = some false from T.kit_tuple_Bound)
  | .li _ => (show PySem.W.kitOne K (.type "list") (.ref T.c_Bound) = some false from T.kit_list_Bound)
theorem kit_Oth_Part (T : Txt K mg) (x : Oth) : PySem.W.kitOne K (cls_Oth T x) (.ref T.c_Part) = some (x.is_Part) := match x with
  | .record _ => (show PySem.W.kitOne K (.ref T.c_Record) (.ref T.c_Part) = some false from T.kit_Record_Part)
  | .query _ => (show PySem.W.kitOne K (.ref T.c_Query) (.ref T.c_Part) = some false from T.kit_Query_Part)
  | .part _ => (show PySem.W.kitOne K (.ref T.c_Part) (.ref T.c_Part) = some true from T.kit_Part_Part)
  | .bound _ => (show PySem.W.kitOne K (.ref T.c_Bound) (.ref T.c_Part) = some false from T.kit_Bound_Part)
  | .region _ => (show PySem.W.kitOne K (.ref T.c_Region) (.ref T.c_Part) = some false from T.kit_Region_Part)
  | .entry _ => (show PySem.W.kitOne K (.ref T.c_Entry) (.ref T.c_Part) = some false from T.kit_Entry_Part)
  | .offer _ => (show PySem.W.kitOne K (.ref T.c_Offer) (.ref T.c_Part) = some false from T.kit_Offer_Part)
  | .norms _ => (show PySem.W.kitOne K (.ref T.c_Norms) (.ref T.c_Part) = some false from T.kit_Norms_Part)
  | .tu _ => (show PySem.W.kitOne K (.type "tuple") (.ref T.c_Part) = some false from T.kit_tuple_Part)
  | .li _ => (show PySem.W.kitOne K (.type "list") (.ref T.c_Part) = some false from T.kit_list_Part)
theorem kit_Oth_Norms (T : Txt K mg) (x : Oth) : PySem.W.kitOne K (cls_Oth T x) (.ref T.c_Norms) = some (x.is_Norms) := match x with
  | .record _ => (show PySem.W.kitOne K (.ref T.c_Record) (.ref T.c_Norms) = some false from T.kit_Record_Norms)
  | .query _ => (show PySem.W.kitOne K (.ref T.c_Query) (.ref T.c_Norms) = some false from T.kit_Query_Norms)
  | .part _ => (show PySem.W.kitOne K (.ref T.c_Part) (.ref T.c_Norms) = some false from T.kit_Part_Norms)
  | .bound _ => (show PySem.W.kitOne K (.ref T.c_Bound) (.ref T.c_Norms) = some false from T.kit_Bound_Norms)
  | .region _ => (show PySem.W.kitOne K (.ref T.c_Region) (.ref T.c_Norms) = some false from T.kit_Region_Norms)
  | .entry _ => (show PySem.W.kitOne K (.ref T.c_Entry) (.ref T.c_Norms) = some false from T.kit_Entry_Norms)
  | .offer _ => (show PySem.W.kitOne K (.ref T.c_Offer) (.ref T.c_Norms) = some false from T.kit_Offer_Norms)
  | .norms _ => (show PySem.W.kitOne K (.ref T.c_Norms) (.ref T.c_Norms) = some true from T.kit_Norms_Norms)
  | .tu _ => (show PySem.W.kitOne K (.type "tuple") (.ref T.c_Norms) = some false from T.kit_tuple_Norms)
  | .li _ => (show PySem.W.kitOne K (.type "list") (.ref T.c_Norms) = some false from T.kit_list_Norms)
theorem kit_Oth_Region (T : Txt K mg) (x : Oth) : PySem.W.kitOne K (cls_Oth T x) (.ref T.c_Region) = some (x.is_Region) := match x with
  | .record _ => (show PySem.W.kitOne K (.ref T.c_Record) (.ref T.c_Region) = some false from T.kit_Record_Region)
  | .query _ => (show PySem.W.kitOne K (.ref T.c_Query) (.ref T.c_Region) = some false from T.kit_Query_Region)
  | .part _ => (show PySem.W.kitOne K (.ref T.c_Part) (.ref T.c_Region) = some false from T.kit_Part_Region)
  | .bound _ => (show PySem.W.kitOne K (.ref T.c_Bound) (.ref T.c_Region) = some false from T.kit_Bound_Region)
  | .region _ => (show PySem.W.kitOne K (.ref T.c_Region) (.ref T.c_Region) = some true from T.kit_Region_Region)
  | .entry _ => (show PySem.W.kitOne K (.ref T.c_Entry) (.ref T.c_Region) = some false from T.kit_Entry_Region)
  | .offer _ => (show PySem.W.kitOne K (.ref T.c_Offer) (.ref T.c_Region) = some false from T.kit_Offer_Region)
  | .norms _ => (show PySem.W.kitOne K (.ref T.c_Norms) (.ref T.c_Region) = some false from T.kit_Norms_Region)
  | .tu _ => (show PySem.W.kitOne K (.type "tuple") (.ref T.c_Region) = some false from T.kit_tuple_Region)
  | .li _ => (show PySem.W.kitOne K (.type "list") (.ref T.c_Region) = some false from T.kit_list_Region)
theorem kit_Oth_Entry (T : Txt K mg) (x : Oth) : PySem.W.kitOne K (cls_Oth T x) (.ref T.c_Entry) = some (x.is_Entry) := match x with
  | .record _ => (show PySem.W.kitOne K (.ref T.c_Record) (.ref T.c_Entry) = some false from T.kit_Record_Entry)
  | .query _ => (show PySem.W.kitOne K (.ref T.c_Query) (.ref T.c_Entry) = some false from T.kit_Query_Entry)
  | .part _ => (show PySem.W.kitOne K (.ref T.c_Part) (.ref T.c_Entry) = some false from T.kit_Part_Entry)
  | .bound _ => (show PySem.W.kitOne K (.ref T.c_Bound) (.ref T.c_Entry) = some false from T.kit_Bound_Entry)
  | .region _ => (show PySem.W.kitOne K (.ref T.c_Region) (.ref T.c_Entry) = some false from T.kit_Region_Entry)
  | .entry _ => (show PySem.W.kitOne K (.ref T.c_Entry) (.ref T.c_Entry) = some true from T.kit_Entry_Entry)
  | .offer _ => (show PySem.W.kitOne K (.ref T.c_Offer) (.ref T.c_Entry) = some false from T.kit_Offer_Entry)
  | .norms _ => (show PySem.W.kitOne K (.ref T.c_Norms) (.ref T.c_Entry) = some false from T.kit_Norms_Entry)
  | .tu _ => (show PySem.W.kitOne K (.type "tuple") (.ref T.c_Entry) = some false from T.kit_tuple_Entry)
  | .li _ => (show PySem.W.kitOne K (.type "list") (.ref T.c_Entry) = some false from T.kit_list_Entry)
theorem kit_Oth_Offer (T : Txt K mg) (x : Oth) : PySem.W.kitOne K (cls_Oth T x) (.ref T.c_Offer) = some (x.is_Offer) := match x with
  | .record _ => (show PySem.W.kitOne K (.ref T.c_Record) (.ref T.c_Offer) = some false from T.kit_Record_Offer)
  | .query _ => (show PySem.W.kitOne K (.ref T.c_Query) (.ref T.c_Offer) = some false from T.kit_Query_Offer)
  | .part _ => (show PySem.W.kitOne K (.ref T.c_Part) (.ref T.c_Offer) = some false from T.kit_Part_Offer)
  | .bound _ => (show PySem.W.kitOne K (.ref T.c_Bound) (.ref T.c_Offer) = some false from T.kit_Bound_Offer)
  | .region _ => (show PySem.W.kitOne K (.ref T.c_Region) (.ref T.c_Offer) = some false from T.kit_Region_Offer)
  | .entry _ => (show PySem.W.kitOne K (.ref T.c_Entry) (.ref T.c_Offer) = some false from T.kit_Entry_Offer)
  | .offer _ => (show PySem.W.kitOne K (.ref T.c_Offer) (.ref T.c_Offer) = some true from T.kit_Offer_Offer)
  | .norms _ => (show PySem.W.kitOne K (.ref T.c_Norms) (.ref T.c_Offer) = some false from T.kit_Norms_Offer)
  | .tu _ => (show PySem.W.kitOne K (.type "tuple") (.ref T.c_Offer) = some false from T.kit_tuple_Offer)
  | .li _ => (show PySem.W.kitOne K (.type "list") (.ref T.c_Offer) = some false from T.kit_list_Offer)
theorem nfs_Record_Oth (T : Txt K mg) (x : Oth) : PySem.W.notFirst K T.c_Record (cls_Oth T x) = true := match x with
  | .record _ => TPN.nf_self
  | .query _ => T.nf_Record_Query
  | .part _ => T.nf_Record_Part
  | .bound _ => T.nf_Record_Bound
  | .region _ => T.nf_Record_Region
  | .entry _ => T.nf_Record_Entry
  | .offer _ => T.nf_Record_Offer
  | .norms _ => T.nf_Record_Norms
  | .tu _ => T.nf_Record_tuple
  | .li _ => T.nf_Record_list
theorem nfs_Query_Oth (T : Txt K mg) (x : Oth) : PySem.W.notFirst K T.c_Query (cls_Oth T x) = true := match x with
  | .record _ => T.nf_Query_Record
  | .query _ => TPN.nf_self
  | .part _ => T.nf_Query_Part
  | .bound _ => T.nf_Query_Bound
  | .region _ => T.nf_Query_Region
  | .entry _ => T.nf_Query_Entry
  | .offer _ => T.nf_Query_Offer
  | .norms _ => T.nf_Query_Norms
  | .tu _ => T.nf_Query_tuple
  | .li _ => T.nf_Query_list
theorem nfs_Part_Oth (T : Txt K mg) (x : Oth) : PySem.W.notFirst K T.c_Part (cls_Oth T x) = true := match x with
  | .record _ => T.nf_Part_Record
  | .query _ => T.nf_Part_Query
  | .part _ => TPN.nf_self
  | .bound _ => T.nf_Part_Bound
  | .region _ => T.nf_Part_Region
  | .entry _ => T.nf_Part_Entry
  | .offer _ => T.nf_Part_Offer
  | .norms _ => T.nf_Part_Norms
  | .tu _ => T.nf_Part_tuple
  | .li _ => T.nf_Part_list
theorem nfs_Bound_Oth (T : Txt K mg) (x : Oth) : PySem.W.notFirst K T.c_Bound (cls_Oth T x) = true := match x with
  | .record _ => T.nf_Bound_Record
  | .query _ => T.nf_Bound_Query
  | .part _ => T.nf_Bound_Part
  | .bound _ => TPN.nf_self
  | .region _ => T.nf_Bound_Region
  | .entry _ => T.nf_Bound_Entry
  | .offer _ => T.nf_Bound_Offer
  | .norms _ => T.nf_Bound_Norms
  | .tu _ => T.nf_Bound_tuple
  | .li _ => T.nf_Bound_list
theorem nfs_Region_Oth (T : Txt K mg) (x : Oth) : PySem.W.notFirst K T.c_Region (cls_Oth T x) = true := match x with
  | .record _ => T.nf_Region_Record
  | .query _ => T.nf_Region_Query
  | .part _ => T.nf_Region_Part
  | .bound _ => T.nf_Region_Bound
  | .region _ => TPN.nf_self
  | .entry _ => T.nf_Region_Entry
  | .offer _ => T.nf_Region_Offer
  | .norms _ => T.nf_Region_Norms
  | .tu _ => T.nf_Region_tuple
  | .li _ => T.nf_Region_list
theorem nfs_Entry_Oth (T : Txt K mg) (x : Oth) : PySem.W.notFirst K T.c_Entry (cls_Oth T x) = true := match x with
  | .record _ => T.nf_Entry_Record
  | .query _ => T.nf_Entry_Query
  | .part _ => T.nf_Entry_Part
  | .bound _ => T.nf_Entry_Bound
  | .region _ => T.nf_Entry_Region
  | .entry _ => TPN.nf_self
  | .offer _ => T.nf_Entry_Offer
  | .norms _ => T.nf_Entry_Norms
  | .tu _ => T.nf_Entry_tuple
  | .li _ => T.nf_Entry_list
theorem nfs_Offer_Oth (T : Txt K mg) (x : Oth) : PySem.W.notFirst K T.c_Offer (cls_Oth T x) = true := match x with
  | .record _ => T.nf_Offer_Record
  | .query _ => T.nf_Offer_Query
  | .part _ => T.nf_Offer_Part
  | .bound _ => T.nf_Offer_Bound
  | .region _ => T.nf_Offer_Region
  | .entry _ => T.nf_Offer_Entry
  | .offer _ => TPN.nf_self
  | .norms _ => T.nf_Offer_Norms
  | .tu _ => T.nf_Offer_tuple
  | .li _ => T.nf_Offer_list
def y_Thing (T : Txt K mg) : Ty Thing := ⟨fun Z v x => match x with
  | .record y => ((y_Record T)).r Z v y
  | .query y => ((y_Query T)).r Z v y
  | .part y => ((y_Part T)).r Z v y
  | .bound y => ((y_Bound T)).r Z v y
  | .region y => ((y_Region T)).r Z v y
  | .entry y => ((y_Entry T)).r Z v y
  | .offer y => ((y_Offer T)).r Z v y,
  fun {Z Z2 v x} s h => match x, h with
  | .record y, h => ((y_Record T)).mono s h
  | .query y, h => ((y_Query T)).mono s h
  | .part y, h => ((y_Part T)).mono s h
  | .bound y, h => ((y_Bound T)).mono s h
  | .region y, h => ((y_Region T)).mono s h
  | .entry y, h => ((y_Entry T)).mono s h
  | .offer y, h => ((y_Offer T)).mono s h⟩
theorem nn_Thing (T : Txt K mg) : NonNil (y_Thing T) := fun Z v x h => match x, h with
  | .record y, h => (nn_Record T) Z v y h
  | .query y, h => (nn_Query T) Z v y h
  | .part y, h => (nn_Part T) Z v y h
  | .bound y, h => (nn_Bound T) Z v y h
  | .region y, h => (nn_Region T) Z v y h
  | .entry y, h => (nn_Entry T) Z v y h
  | .offer y, h => (nn_Offer T) Z v y h
theorem ij_Thing_record (T : Txt K mg) {μ : Type} {M : Mu μ} {σ : L2.St} {Z H : Hp} {s s1 : μ} {ta : TE} {x : Record} (h : Ev M ta σ Z H s (ty (y_Record T) x) s1) : Ev M ta σ Z H s (ty (y_Thing T) (.record x)) s1 := h.weak fun _ _ _ _ e => e
theorem pj_Thing_record (T : Txt K mg) {μ : Type} {M : Mu μ} {σ : L2.St} {Z H : Hp} {s s1 : μ} {ta : TE} {x : Thing} {y : Record} (h : Ev M ta σ Z H s (ty (y_Thing T) x) s1) (e : x.p_record = some y) : Ev M ta σ Z H s (ty (y_Record T) y) s1 := by
  cases x <;> first | (have e := Option.some.inj e; subst e; exact h.weak fun _ _ _ _ e => e) | cases e
theorem ij_Thing_query (T : Txt K mg) {μ : Type} {M : Mu μ} {σ : L2.St} {Z H : Hp} {s s1 : μ} {ta : TE} {x : Query} (h : Ev M ta σ Z H s (ty (y_Query T) x) s1) : Ev M ta σ Z H s (ty (y_Thing T) (.query x)) s1 := h.weak fun _ _ _ _ e => e
theorem pj_Thing_query (T : Txt K mg) {μ : Type} {M : Mu μ} {σ : L2.St} {Z H : Hp} {s s1 : μ} {ta : TE} {x : Thing} {y : Query} (h : Ev M ta σ Z H s (ty (y_Thing T) x) s1) (e : x.p_query = some y) : Ev M ta σ Z H s (ty (y_Query T) y) s1 := by
  cases x <;> first | (have e := Option.some.inj e; subst e; exact h.weak fun _ _ _ _ e => e) | cases e
theorem ij_Thing_part (T : Txt K mg) {μ : Type} {M : Mu μ} {σ : L2.St} {Z H : Hp} {s s1 : μ} {ta : TE} {x : Part} (h : Ev M ta σ Z H s (ty (y_Part T) x) s1) : Ev M ta σ Z H s (ty (y_Thing T) (.part x)) s1 := h.weak fun _ _ _ _ e => e
theorem pj_Thing_part (T : Txt K mg) {μ : Type} {M : Mu μ} {σ : L2.St} {Z H : Hp} {s s1 : μ} {ta : TE} {x : Thing} {y : Part} (h : Ev M ta σ Z H s (ty (y_Thing T) x) s1) (e : x.p_part = some y) : Ev M ta σ Z H s (ty (y_Part T) y) s1 := by
  cases x <;> first | (have e := Option.some.inj e; subst e; exact h.weak fun _ _ _ _ e => e) | cases e
theorem ij_Thing_bound (T : Txt K mg) {μ : Type} {M : Mu μ} {σ : L2.St} {Z H : Hp} {s s1 : μ} {ta : TE} {x : Bound} (h : Ev M ta σ Z H s (ty (y_Bound T) x) s1) : Ev M ta σ Z H s (ty (y_Thing T) (.bound x)) s1 := h.weak fun _ _ _ _ e => e
theorem pj_Thing_bound (T : Txt K mg) {μ : Type} {M : Mu μ} {σ : L2.St} {Z H : Hp} {s s1 : μ} {ta : TE} {x : Thing} {y : Bound} (h : Ev M ta σ Z H s (ty (y_Thing T) x) s1) (e : x.p_bound = some y) : Ev M ta σ Z H s (ty (y_Bound T) y) s1 := by
  cases x <;> first | (have e := Option.some.inj e; subst e; exact h.weak fun _ _ _ _ e => e) | cases e
theorem ij_Thing_region (T : Txt K mg) {μ : Type} {M : Mu μ} {σ : L2.St} {Z H : Hp} {s s1 : μ} {ta : TE} {x : Region} (h : Ev M ta σ Z H s (ty (y_Region T) x) s1) : Ev M ta σ Z H s (ty (y_Thing T) (.region x)) s1 := h.weak fun _ _ _ _ e => e
theorem pj_Thing_region (T : Txt K mg) {μ : Type} {M : Mu μ} {σ : L2.St} {Z H : Hp} {s s1 : μ} {ta : TE} {x : Thing} {y : Region} (h : Ev M ta σ Z H s (ty (y_Thing T) x) s1) (e : x.p_region = some y) : Ev M ta σ Z H s (ty (y_Region T) y) s1 := by
  cases x <;> first | (have e := Option.some.inj e; subst e; exact h.weak fun _ _ _ _ e => e) | cases e
theorem ij_Thing_entry (T : Txt K mg) {μ : Type} {M : Mu μ} {σ : L2.St} {Z H : Hp} {s s1 : μ} {ta : TE} {x : Entry} (h : Ev M ta σ Z H s (ty (y_Entry T) x) s1) : Ev M ta σ Z H s (ty (y_Thing T) (.entry x)) s1 := h.weak fun _ _ _ _ e => e
theorem pj_Thing_entry (T : Txt K mg) {μ : Type} {M : Mu μ} {σ : L2.St} {Z H : Hp} {s s1 : μ} {ta : TE} {x : Thing} {y : Entry} (h : Ev M ta σ Z H s (ty (y_Thing T) x) s1) (e : x.p_entry = some y) : Ev M ta σ Z H s (ty (y_Entry T) y) s1 := by
  cases x <;> first | (have e := Option.some.inj e; subst e; exact h.weak fun _ _ _ _ e => e) | cases e
theorem ij_Thing_offer (T : Txt K mg) {μ : Type} {M : Mu μ} {σ : L2.St} {Z H : Hp} {s s1 : μ} {ta : TE} {x : Offer} (h : Ev M ta σ Z H s (ty (y_Offer T) x) s1) : Ev M ta σ Z H s (ty (y_Thing T) (.offer x)) s1 := h.weak fun _ _ _ _ e => e
theorem pj_Thing_offer (T : Txt K mg) {μ : Type} {M : Mu μ} {σ : L2.St} {Z H : Hp} {s s1 : μ} {ta : TE} {x : Thing} {y : Offer} (h : Ev M ta σ Z H s (ty (y_Thing T) x) s1) (e : x.p_offer = some y) : Ev M ta σ Z H s (ty (y_Offer T) y) s1 := by
  cases x <;> first | (have e := Option.some.inj e; subst e; exact h.weak fun _ _ _ _ e => e) | cases e


def sp_law_row (T : Txt K mg) : Sp := fun vs H Q _ => ∃ (sc : Addr) (ns : List Int) (k : Nat), vs = [.ref sc, .int (k : Nat)] ∧ (H sc = some (.lst (ns.map V.int))) ∧ Q (.int (rowZ ns k)) H
set_option maxHeartbeats 4000000 in
theorem ok_law_row (T : Txt K mg) : FnOk P w K mg base CX0 1 T.f_law_row T.d_law_row ["script", "k"] (sp_law_row T) := by
  refine T.F_law_row.ok sc_law_row (fun vs H Q E h => ?_) (fun cdv A outer s H vs Q E hr h => ?_)
  · obtain ⟨sc, ns, k, rfl, _⟩ := h
    rfl
  · obtain ⟨sc, ns, k, rfl, hS, q⟩ := h
    refine ⟨_, (pss_cons (ps_set (i := 2) sc_law_row.nd rfl (.inl rfl) pe_int) 
      (pss_cut (ps_if (pt_cmpR op_lt (pv 1) (pe_callB call_len_seq (by rfl) T.m_len PySem.boot_len (pa_cons (pv 0) pa_nil)) (nomark _)) (pss_one (ps_set (i := 2) sc_law_row.nd rfl (.inl rfl) (pe_ix ix_list (pv 0) (pv 1) (fun _ _ => rfl)))) pss_nil) 
      (pss_cut (ps_if (pt_cmpR op_lt (pv 2) pe_int (nomark _)) (pss_one (ps_set (i := 2) sc_law_row.nd rfl (.inl rfl) (pe_op op_sub (pe_op op_mul (pe_un un_neg pe_int) (pv 2)) pe_int))) pss_nil) 
      (pss_cut (ps_if (pt_cmpR op_lt (pv 2) (pe_op op_pow pe_int pe_int) (nomark _)) (pss_cons (ps_set (i := 3) sc_law_row.nd rfl (.inl rfl) (pe_op op_mod (pe_callTy call_int1 (by rfl) T.m_int (by decide +kernel) (pa_cons (pe_op op_add (pe_op op_add (pe_op op_mul (pv 2) pe_int) (pe_op op_mul (pv 1) pe_int)) pe_int) pa_nil)) pe_int)) 
      (pss_cons (ps_set (i := 4) sc_law_row.nd rfl (.inl rfl) (pe_op op_mod (pe_callTy call_int1 (by rfl) T.m_int (by decide +kernel) (pa_cons (pe_op op_add (pe_op op_add (pe_op op_add (pe_op op_mul (pv 3) pe_int) (pe_op op_mul (pv 2) pe_int)) (pv 1)) pe_int) pa_nil)) pe_int)) 
      (pss_cons (ps_set (i := 5) sc_law_row.nd rfl (.inl rfl) (pe_op op_mod (pe_callTy call_int1 (by rfl) T.m_int (by decide +kernel) (pa_cons (pe_op op_add (pe_op op_add (pe_op op_mul (pv 4) pe_int) (pe_op op_mul (pv 3) (pv 4))) pe_int) pa_nil)) pe_int)) 
      (pss_one (ps_set (i := 2) sc_law_row.nd rfl (.inl rfl) (pe_op op_add (pe_op op_add (pv 3) (pe_op op_mul (pv 4) pe_int)) (pe_op op_mul (pv 5) (pe_op op_pow pe_int pe_int)))))))) pss_nil) 
      (pss_one (ps_ret (pv 2))))))), ?_⟩
    -- if k < len(script): cell = script[k]
    refine ⟨fun σ' H' => H' = H ∧ σ' = [some (.ref sc), some (.int (k : Nat)), some (.int (ns.getD k 0)), none, none, none], ?_, ?_⟩
    · refine ⟨_, rfl, _, rfl, sc, _, rfl, .inl (SqL.of hS), _, _, rfl, rfl, _, rfl, ite2 (fun e => ?_) (fun e => ?_)⟩
      · have hl : (k : Int) < ((ns.map V.int).length : Int) := of_decide_eq_true e
        rw [List.length_map] at hl
        have hk : k < ns.length := by omega
        exact ⟨_, rfl, _, rfl, sc, _, (k : Nat), .int (ns.getD k 0), rfl, rfl, SqL.of hS, at_of (j := k) rfl (by rw [List.getElem?_map, getD_lt hk]; rfl), rfl, rfl⟩
      · have hl : ¬ (k : Int) < ((ns.map V.int).length : Int) := fun h => e (decide_eq_true h)
        rw [List.length_map] at hl
        have hk : ¬ k < ns.length := by omega
        exact ⟨rfl, by rw [getD_ge hk]; rfl⟩
    rintro σ' H' ⟨rfl, rfl⟩
    -- if cell < 0: cell = -2 * cell - 1
    refine ⟨fun σ' H2 => H2 = H' ∧ σ' = [some (.ref sc), some (.int (k : Nat)), some (.int (row1 ns k)), none, none, none], ?_, ?_⟩
    · refine ⟨_, rfl, _, _, rfl, rfl, _, rfl, ite2 (fun e => ?_) (fun e => ?_)⟩
      · have hc : ns.getD k 0 < 0 := of_decide_eq_true e
        refine ⟨2, rfl, _, rfl, _, _, rfl, rfl, .inl ⟨by decide, by decide⟩, _, _, rfl, rfl, rfl, ?_⟩
        unfold row1
        rw [if_pos hc]
        rfl
      · have hc : ¬ ns.getD k 0 < 0 := fun h => e (decide_eq_true h)
        exact ⟨rfl, by unfold row1; rw [if_neg hc]⟩
    rintro σ' H2 ⟨rfl, rfl⟩
    have c0 := row1_nn ns k
    -- if cell < 10 ** 9: ..
    refine ⟨fun σ' H' => H' = H2 ∧ ∃ (x y z : Option V), σ' = [some (.ref sc), some (.int (k : Nat)), some (.int (rowZ ns k)), x, y, z], ?_, ?_⟩
    · refine ⟨_, rfl, _, _, rfl, rfl, ⟨by decide, by decide, by decide⟩, _, _, rfl, rfl, _, rfl, ite2 (fun e => ?_) (fun e => ?_)⟩
      · have h9 : row1 ns k < 10 ^ 9 := of_decide_eq_true e
        rw [rowZ_lo h9]
        generalize row1 ns k = c at h9 c0
        refine ⟨_, rfl, _, _, rfl, rfl, .inr ⟨by decide, by decide⟩, _, rfl, _, _, rfl, rfl, .inr ⟨by decide, by decide⟩, _, _, rfl, rfl, _, _, rfl, rfl, .inl ⟨_, rfl, ?_⟩⟩
        refine ⟨_, _, rfl, rfl, (by decide : (0 : Int) < 2147483647), ?_⟩
        dsimp only
        refine ⟨_, rfl, _, _, rfl, rfl, .inr ⟨by decide, by decide⟩, _, rfl, _, _, rfl, rfl, .inr ⟨by decide, by decide⟩, _, _, rfl, rfl, _, rfl, _, _, rfl, rfl, _, _, rfl, rfl, .inl ⟨_, rfl, ?_⟩⟩
        refine ⟨_, _, rfl, rfl, (by decide : (0 : Int) < 2147483629), ?_⟩
        dsimp only
        refine ⟨_, rfl, _, _, rfl, rfl, .inr ⟨by decide, by decide⟩, _, rfl, _, rfl, _, _, rfl, rfl, .inl ⟨by omega, by omega⟩, _, _, rfl, rfl, _, _, rfl, rfl, .inl ⟨_, rfl, ?_⟩⟩
        refine ⟨_, _, rfl, rfl, (by decide : (0 : Int) < 2147483587), ?_⟩
        dsimp only
        refine ⟨_, rfl, _, rfl, _, _, rfl, rfl, .inr ⟨by decide, by decide⟩, _, _, rfl, rfl, _, rfl, _, _, rfl, rfl, ⟨by decide, by decide, by decide⟩, _, _, rfl, rfl, .inr ⟨by decide, by decide⟩, _, _, rfl, rfl, rfl, _, _, _, rfl⟩
      · have h9 : ¬ row1 ns k < 10 ^ 9 := fun h => e (decide_eq_true h)
        rw [rowZ_hi h9]
        exact ⟨rfl, _, _, _, rfl⟩
    rintro σ' H' ⟨rfl, x, y, z, rfl⟩
    exact ⟨_, rfl, q⟩
def sp_law_next (T : Txt K mg) : Sp := fun vs H Q _ => ∃ (st sc : Addr) (Z0 : Hp) (ds : DS) (v_many : V) (m : Int), vs = [.ref st, v_many] ∧ (Same Z0 H) ∧ ((muD st sc).m ds Z0 H) ∧ (v_many = .int m) ∧ (NxOk m) ∧ ∀ v Z' H', Step (muD st sc).fp Z0 H Z' H' → (muD st sc).m (nxS ds m) Z' H' → yInt.r Z' v (nxV ds m) → Q v H'
set_option maxHeartbeats 4000000 in
theorem ok_law_next (T : Txt K mg) : FnOk P w K mg base CX0 2 T.f_law_next T.d_law_next ["state", "many"] (sp_law_next T) := by
  have G_law_row : FnOk P w K mg base CX0 1 T.f_law_row T.d_law_row ["script", "k"] (sp_law_row T) := ok_law_row T
  refine T.F_law_next.ok sc_law_next (fun vs H Q E h => ?_) (fun cdv A outer s H vs Q E hr h => ?_)
  · obtain ⟨st, sc, Z0, ds, v_many, m, rfl, _⟩ := h
    rfl
  · obtain ⟨st, sc, Z0, ds, v_many, m, rfl, sz, hm, h_many, hok, q⟩ := h
    refine ⟨_, (pss_cut (ps_if (pt_cmpR op_lt (pe_ix ix_list (pv 0) pe_int (fun _ _ => rfl)) (pv 1) (nomark _)) (pss_cons (ps_asg (pe_call G_law_row (hr.mono (by decide)) (by rfl) T.g_law_row T.F_law_row.kp T.b_law_row .nil pass0 (pa_cons (pe_ix ix_list (pv 0) pe_int (fun _ _ => rfl)) (pa_cons (pe_ix ix_list (pv 0) pe_int (fun _ _ => rfl)) pa_nil))) (pg_sub (pv 0) pe_int set_list)) 
      (pss_one (ps_asg (pe_op op_add (pe_ix ix_list (pv 0) pe_int (fun _ _ => rfl)) pe_int) (pg_sub (pv 0) pe_int set_list)))) pss_nil) 
      (pss_cons (ps_set (i := 2) sc_law_next.nd rfl (.inl rfl) (pe_op op_mod (pe_callTy call_int1 (by rfl) T.m_int (by decide +kernel) (pa_cons (pe_ix ix_list (pv 0) pe_int (fun _ _ => rfl)) pa_nil)) (pv 1))) 
      (pss_cons (ps_asg (pe_op op_fdivW (pe_ix ix_list (pv 0) pe_int (fun _ _ => rfl)) (pv 1)) (pg_sub (pv 0) pe_int set_list)) 
      (pss_one (ps_ret (pv 2)))))), ?_⟩
    obtain ⟨m0, m1⟩ := hok
    subst h_many
    obtain ⟨h1, h2, h3⟩ := hm
    obtain ⟨ns, k, x⟩ := ds
    have g2 : H sc = some (.lst (ns.map V.int)) := sz _ _ h2
    have ne : sc ≠ st := fun e => by rw [e] at h2; rw [h2] at h3; cases h3
    refine ⟨fun σ' H' => Step [st] Z0 H Z0 H' ∧ σ' = [some (.ref st), some (.int m), none] ∧ H' st = some (.lst [.ref sc, .int ((if (x : Int) < m then k + 1 else k : Nat) : Int), .int ((DS.cur ⟨ns, k, x⟩ m : Nat) : Int)]), ?_, ?_⟩
    · refine ⟨_, rfl, st, _, _, _, rfl, rfl, SqL.of h1, at_of (j := 2) rfl rfl, _, rfl, _, _, rfl, rfl, _, rfl, ite2 (fun e => ?_) (fun e => ?_)⟩
      · have hlt : (x : Int) < m := of_decide_eq_true e
        refine ⟨_, rfl, st, _, _, _, rfl, rfl, SqL.of h1, at_of (j := 0) rfl rfl, _, rfl, st, _, _, _, rfl, rfl, SqL.of h1, at_of (j := 1) rfl rfl, sc, ns, k, rfl, g2, ?_⟩
        refine ⟨_, rfl, st, _, _, 2, rfl, rfl, h1, rfl, ?_⟩
        refine ⟨_, rfl, st, _, _, _, rfl, rfl, SqL.of upd_same, at_of (j := 1) rfl rfl, _, _, rfl, rfl, _, rfl, st, _, _, 1, rfl, rfl, upd_same, rfl, ?_⟩
        refine ⟨(Step.set sz h3).trans (Step.set (Step.set sz h3).s h3), rfl, ?_⟩
        rw [upd_same, if_pos hlt]
        have : ((DS.cur ⟨ns, k, x⟩ m : Nat) : Int) = rowZ ns k := by
          unfold DS.cur
          rw [if_pos hlt]
          have := rowZ_nn ns k
          show (((rowZ ns k).toNat : Nat) : Int) = rowZ ns k
          omega
        rw [this]
        rfl
      · have hlt : ¬ (x : Int) < m := fun h => e (decide_eq_true h)
        refine ⟨Step.refl sz, rfl, ?_⟩
        rw [h1, if_neg hlt]
        unfold DS.cur
        rw [if_neg hlt]
    rintro σ' H' ⟨hO, rfl, h4⟩
    -- drawn = int(state[2]) % many
    refine ⟨_, rfl, st, _, _, _, rfl, rfl, SqL.of h4, at_of (j := 2) rfl rfl, .inl ⟨_, rfl, ?_⟩⟩
    refine ⟨_, rfl, _, _, rfl, rfl, m0, ?_⟩
    -- state[2] = state[2] // many
    refine ⟨_, rfl, st, _, _, _, rfl, rfl, SqL.of h4, at_of (j := 2) rfl rfl, _, rfl, _, _, rfl, rfl, wide_div m0 m1 (by decide) (by decide), ?_⟩
    refine ⟨_, rfl, st, _, _, 2, rfl, rfl, h4, rfl, ?_⟩
    have nn : 0 ≤ ((DS.cur ⟨ns, k, x⟩ m : Nat) : Int) / m := Int.ediv_nonneg (Int.natCast_nonneg _) (by omega)
    refine ⟨_, rfl, q _ Z0 _ (hO.trans (Step.set hO.s h3)) ⟨?_, h2, h3⟩ rfl⟩
    rw [upd_same]
    show some (HO.lst [_, _, _]) = some (HO.lst [_, _, V.int (((((DS.cur ⟨ns, k, x⟩ m : Nat) : Int) / m).toNat : Nat) : Int)])
    rw [Int.toNat_of_nonneg nn]
    rfl
theorem cs__law_next (T : Txt K mg) {st sc : Addr} {ds : DS} {E : XK} {m : Int} (h : NxOk m) : CallS (muD st sc) (sp_law_next T) E (rac (isRef st) (rac (ty yInt m) ra0)) ds (ty yInt (nxV ds m)) (nxS ds m) := by
  rintro Z H vs sz mm ⟨_, _, rfl, rfl, v_many, _, rfl, h_many, rfl⟩ Q q
  exact ⟨st, sc, Z, ds, v_many, m, rfl, sz, mm, h_many, h, q⟩
theorem cu__law_next (T : Txt K mg) {st sc : Addr} {ds : DS} {E : XK} {m : Int} {μ : Type} {M : Mu μ} {s s2 : μ} (hm : ∀ Z H, M.m s Z H → (muD st sc).m ds Z H) (hf : ∀ a ∈ (muD st sc).fp, a ∈ M.fp) (hp : ∀ Z H Z' H', M.m s Z H → Step (muD st sc).fp Z H Z' H' → (muD st sc).m (nxS ds m) Z' H' → M.m s2 Z' H') (h : NxOk m) : CallS M (sp_law_next T) E (rac (isRef st) (rac (ty yInt m) ra0)) s (ty yInt (nxV ds m)) s2 := by
  rintro Z H vs sz mm ⟨_, _, rfl, rfl, v_many, _, rfl, h_many, rfl⟩ Q q
  exact ⟨st, sc, Z, ds, v_many, m, rfl, sz, hm _ _ mm, h_many, h, fun v Z2 H2 st2 m2 hv => q v Z2 H2 (st2.weak fun a h => .inl (hf a h)) (hp _ _ _ _ mm st2 m2) hv⟩
def sp_Record___init__ (T : Txt K mg) : Sp := fun vs H Q _ => ∃ (p dx : Addr) (Z0 : Hp) (v_name : V) (v_vector : V) (v_fields : V) (v_words : V) (x_name : Str) (x_vector : (List Int)) (x_fields : (List (Str × Val))) (x_words : (List (Str × Int))), vs = [.ref p, v_name, v_vector, v_fields, v_words] ∧ (Same Z0 H) ∧ (H p = some (.ins T.c_Record dx [])) ∧ (Z0 p = none) ∧ ((yStr).r Z0 v_name x_name) ∧ (((yList yInt)).r Z0 v_vector x_vector) ∧ (((yList (yP2 K yStr (y_Val T)))).r Z0 v_fields x_fields) ∧ (((ySeq K (yP2 K yStr yInt))).r Z0 v_words x_words) ∧ ∀ Z' H' o, Step [p] Z0 H Z' H' → H' p = some o → (y_Record T).r (upd Z' p o) (.ref p) (F_Record___init__ x_name x_vector x_fields x_words) → Q .non H'
set_option maxHeartbeats 4000000 in
theorem ok_Record___init__ (T : Txt K mg) : FnOk P w K mg base CX0 1 T.f_Record___init__ T.d_Record___init__ ["self", "name", "vector", "fields", "words"] (sp_Record___init__ T) := by
  refine T.F_Record___init__.ok sc_Record___init__ (fun vs H Q E h => ?_) (fun cdv A outer s H vs Q E hr h => ?_)
  · obtain ⟨p, dx, Z0, v_name, v_vector, v_fields, v_words, x_name, x_vector, x_fields, x_words, rfl, _⟩ := h
    rfl
  · obtain ⟨p, dx, Z0, v_name, v_vector, v_fields, v_words, x_name, x_vector, x_fields, x_words, rfl, sz, hself, zself, h_name, h_vector, h_fields, h_words, q⟩ := h
    refine ⟨_, PSs.nox (pss_cons (ps_fld (pv 0) (pv 1) rfl) 
      (pss_cons (ps_fld (pv 0) (pe_callTy call_tuple_of (by rfl) T.m_tuple (by decide +kernel) (pa_cons (pv 2) pa_nil)) rfl) 
      (pss_cons (ps_fld (pv 0) (pe_callTy call_tuple_of (by rfl) T.m_tuple (by decide +kernel) (pa_cons (pe_lc (own := [("pair", 5)]) (g := gName 5) rfl sc_Record___init__.nd (pi_list (pv 3)) (blkOk_by (own := [("pair", 5)]) (N := ["self", "name", "vector", "fields", "words", "pair"]) (sc := defScope s_Record___init__) (by decide +kernel)) (fun _ _ _ _ _ => (pg_name (i := 5) sc_Record___init__.nd rfl (Or.inl rfl))) (fun _ _ _ _ _ => pts_nil) (fun _ _ _ _ _ => (pe_callTy (r := rTupleB K) (by exact call_tuple_of) (by rfl) T.m_tuple (by decide +kernel) (pa_cons (pv 5) pa_nil)))) pa_nil)) rfl) 
      (pss_one (ps_fld (pv 0) (pe_callTy call_tuple_of (by rfl) T.m_tuple (by decide +kernel) (pa_cons (pe_lc (own := [("pair", 5)]) (g := gName 5) rfl sc_Record___init__.nd (pi_seq (pv 4)) (blkOk_by (own := [("pair", 5)]) (N := ["self", "name", "vector", "fields", "words", "pair"]) (sc := defScope s_Record___init__) (by decide +kernel)) (fun _ _ _ _ _ => (pg_name (i := 5) sc_Record___init__.nd rfl (Or.inl rfl))) (fun _ _ _ _ _ => pts_nil) (fun _ _ _ _ _ => (pe_callTy (r := rTupleB K) (by exact call_tuple_of) (by rfl) T.m_tuple (by decide +kernel) (pa_cons (pv 5) pa_nil)))) pa_nil)) rfl))))), ?_⟩
    have P : Pt [p] Z0 H muN Z0 H () := ⟨Step.refl sz, trivial, fun _ h => (nomatch h)⟩
    generalize hF : F_Record___init__ x_name x_vector x_fields x_words = y at q
    unfold F_Record___init__ at hF
    refine st_seq (st_fld (x := x_name) (τ := yStr) P hself zself List.not_mem_nil (.inl List.mem_cons_self) rfl (ev_var (τ := yStr) rfl h_name) T.cl_Record T.n_Record_name (Nat.lt_of_le_of_lt (Nat.le_refl 0) (by decide)) (fun v_1 Z1 H1 e P1 k_2 hself1 zself1 => ?_))
    refine st_nx ?_
    replace P := P1
    replace hself := hself1
    replace zself := zself1
    replace h_vector := ((yList yInt)).mono e.z h_vector
    replace h_fields := ((yList (yP2 K yStr (y_Val T)))).mono e.z h_fields
    replace h_words := ((ySeq K (yP2 K yStr yInt))).mono e.z h_words
    refine st_seq (st_fld (x := x_vector) (τ := (yTup K yInt)) P hself zself List.not_mem_nil (.inl List.mem_cons_self) rfl (ev_tuple_of (fun _ _ _ h => h) (ev_li (ev_var (τ := (yList yInt)) rfl h_vector))) T.cl_Record T.n_Record_vector (Nat.lt_of_le_of_lt (putF_le (Nat.le_refl 0)) (by decide)) (fun v_3 Z1 H1 e P1 k_4 hself1 zself1 => ?_))
    refine st_nx ?_
    replace P := P1
    replace hself := hself1
    replace zself := zself1
    replace h_fields := ((yList (yP2 K yStr (y_Val T)))).mono e.z h_fields
    replace h_words := ((ySeq K (yP2 K yStr yInt))).mono e.z h_words
    refine st_seq (st_fld (x := x_fields) (τ := (yTup K (yP2 K yStr (y_Val T)))) P hself zself List.not_mem_nil (.inl List.mem_cons_self) rfl (ev_tuple_of (fun _ _ _ h => h) (ev_li (ev_fz (en_cast (en_map (fun x => x) (ei_list (ev_var (τ := (yList (yP2 K yStr (y_Val T)))) rfl h_fields)) (fun x_8 v_9 Z' H' zz hh rx_10 => by
          exact ⟨_, tgt_name, (wpe_s wpe_z (by decide)), (ev_tuple_id (fun _ _ _ h => h) it_p2 (ev_var (τ := (yP2 K yStr (y_Val T))) rfl rx_10))⟩)) (List.map_id' _))))) T.cl_Record T.n_Record_fields (Nat.lt_of_le_of_lt (putF_le (putF_le (Nat.le_refl 0))) (by decide)) (fun v_11 Z1 H1 e P1 k_12 hself1 zself1 => ?_))
    refine st_nx ?_
    replace P := P1
    replace hself := hself1
    replace zself := zself1
    replace h_words := ((ySeq K (yP2 K yStr yInt))).mono e.z h_words
    replace k_4 := ((yTup K yInt)).mono e.z k_4
    refine st_fld (x := x_words) (τ := (yTup K (yP2 K yStr yInt))) P hself zself List.not_mem_nil (.inl List.mem_cons_self) rfl (ev_tuple_of (fun _ _ _ h => h) (ev_li (ev_fz (en_cast (en_map (fun x => x) (ei_seq (ev_var (τ := (ySeq K (yP2 K yStr yInt))) rfl h_words)) (fun x_16 v_17 Z' H' zz hh rx_18 => by
          exact ⟨_, tgt_name, (wpe_s wpe_z (by decide)), (ev_tuple_id (fun _ _ _ h => h) it_p2 (ev_var (τ := (yP2 K yStr yInt)) rfl rx_18))⟩)) (List.map_id' _))))) T.cl_Record T.n_Record_words (Nat.lt_of_le_of_lt (putF_le (putF_le (putF_le (Nat.le_refl 0)))) (by decide)) (fun v_19 Z1 H1 e P1 k_20 hself1 zself1 => ?_)
    replace P := P1
    replace hself := hself1
    replace zself := zself1
    replace k_4 := ((yTup K yInt)).mono e.z k_4
    replace k_12 := ((yTup K (yP2 K yStr (y_Val T)))).mono e.z k_12
    subst hF
    exact q _ _ _ P.st hself ⟨p, dx, v_1, v_3, v_11, v_19, rfl, upd_same, k_2, ((yTup K yInt)).mono (same_upd zself) k_4, ((yTup K (yP2 K yStr (y_Val T)))).mono (same_upd zself) k_12, ((yTup K (yP2 K yStr yInt))).mono (same_upd zself) k_20⟩
theorem is_Record___init__ (T : Txt K mg) {μ : Type} {M : Mu μ} {s : μ} {E : XK} {x_name : Str} {x_vector : (List Int)} {x_fields : (List (Str × Val))} {x_words : (List (Str × Int))} : InitS M T.c_Record (sp_Record___init__ T) E (rac (ty yStr x_name) (rac (ty (yList yInt) x_vector) (rac (ty (yList (yP2 K yStr (y_Val T))) x_fields) (rac (ty (ySeq K (yP2 K yStr yInt)) x_words) ra0)))) s (ty (y_Record T) (F_Record___init__ x_name x_vector x_fields x_words)) s := by
  rintro Z H vs x dx sz m ⟨v_name, _, rfl, h_name, ⟨v_vector, _, rfl, h_vector, ⟨v_fields, _, rfl, h_fields, ⟨v_words, _, rfl, h_words, rfl⟩⟩⟩⟩ hx zx nx Q q
  exact ⟨x, dx, Z, v_name, v_vector, v_fields, v_words, x_name, x_vector, x_fields, x_words, rfl, sz, hx, zx, h_name, h_vector, h_fields, h_words, fun Z2 H2 o st ho hr => q Z2 H2 o (st.weak fun a h => by rw [List.mem_singleton] at h; rw [h]; exact .inl List.mem_cons_self) (Mu.away st nx m) ho hr⟩
def sp_kind_of_value (T : Txt K mg) : Sp := fun vs H Q _ => ∃ (Z0 : Hp) (v_worth : V) (x_worth : Val), vs = [v_worth] ∧ (Same Z0 H) ∧ (((y_Val T)).r Z0 v_worth x_worth) ∧ ∀ v Z' H', Step [] Z0 H Z' H' → (yStr).r Z' v (F_kind_of_value x_worth) → Q v H'
set_option maxHeartbeats 4000000 in
theorem ok_kind_of_value (T : Txt K mg) : FnOk P w K mg base CX0 1 T.f_kind_of_value T.d_kind_of_value ["worth"] (sp_kind_of_value T) := by
  refine T.F_kind_of_value.ok sc_kind_of_value (fun vs H Q E h => ?_) (fun cdv A outer s H vs Q E hr h => ?_)
  · obtain ⟨Z0, v_worth, x_worth, rfl, _⟩ := h
    rfl
  · obtain ⟨Z0, v_worth, x_worth, rfl, sz, h_worth, q⟩ := h
    refine ⟨_, (pss_cons (ps_if (pt_val (pe_callB call_isi (by rfl) T.m_isinstance (by decide +kernel) (pa_cons (pv 0) (pa_cons (pe_bltn (v := .ty "bool") (u := .type "bool") (by rfl) T.m_bool (by decide +kernel) rfl) pa_nil)))) (pss_one (ps_ret pe_str)) pss_nil) 
      (pss_cons (ps_if (pt_val (pe_callB call_isi (by rfl) T.m_isinstance (by decide +kernel) (pa_cons (pv 0) (pa_cons (pe_bltn (v := .ty "int") (u := .type "int") (by rfl) T.m_int (by decide +kernel) rfl) pa_nil)))) (pss_one (ps_ret pe_str)) pss_nil) 
      (pss_one (ps_ret pe_str)))), ?_⟩
    have P := Pt.start0 sz
    generalize hF : F_kind_of_value x_worth = y at q
    unfold F_kind_of_value at hF
    refine st_seq (st_if P (et_val (ev_isi (b := x_worth.is_bool) (fun _ _ _ h => h) (ev_var (τ := (y_Val T)) rfl h_worth) (tx_Val T) (.ty _) (kit_Val_bool T _))) (fun b_21 Z1 H1 e P1 => ?_) (fun b_21 Z1 H1 e P1 => ?_))
    · replace P := P1
      have hB := ifT b_21 hF
      replace hF := hB
      clear hB
      subst hF
      refine st_ret P ev_str (fun v Z1 H1 P1 hv => ?_)
      exact q v _ _ P1.st hv
    · replace P := P1
      have hB := ifF b_21 hF
      replace hF := hB
      clear hB
      refine st_next0 ?_
      replace h_worth := ((y_Val T)).mono e.z h_worth
      refine st_seq (st_if P (et_val (ev_isi (b := x_worth.is_int) (fun _ _ _ h => h) (ev_var (τ := (y_Val T)) rfl h_worth) (tx_Val T) (.ty _) (kit_Val_int T _))) (fun b_22 Z1 H1 e P1 => ?_) (fun b_22 Z1 H1 e P1 => ?_))
      · replace P := P1
        have hB := ifT b_22 hF
        replace hF := hB
        clear hB
        subst hF
        refine st_ret P ev_str (fun v Z1 H1 P1 hv => ?_)
        exact q v _ _ P1.st hv
      · replace P := P1
        have hB := ifF b_22 hF
        replace hF := hB
        clear hB
        refine st_next0 ?_
        subst hF
        refine st_ret P ev_str (fun v Z1 H1 P1 hv => ?_)
        exact q v _ _ P1.st hv
theorem cs_kind_of_value (T : Txt K mg) {μ : Type} {M : Mu μ} {s : μ} {E : XK} {x_worth : Val} : CallS M (sp_kind_of_value T) E (rac (ty (y_Val T) x_worth) ra0) s (ty yStr (F_kind_of_value x_worth)) s := by
  rintro Z H vs sz m ⟨v_worth, _, rfl, h_worth, rfl⟩ Q q
  exact ⟨Z, v_worth, x_worth, rfl, sz, h_worth, fun v Z2 H2 st hv => q v Z2 H2 st.pure (M.pure st m) hv⟩
def sp_same_fields (T : Txt K mg) : Sp := fun vs H Q _ => ∃ (Z0 : Hp) (v_ones : V) (v_others : V) (x_ones : (List (Str × Val))) (x_others : (List (Str × Val))), vs = [v_ones, v_others] ∧ (Same Z0 H) ∧ (((yTup K (yP2 K yStr (y_Val T)))).r Z0 v_ones x_ones) ∧ (((yTup K (yP2 K yStr (y_Val T)))).r Z0 v_others x_others) ∧ ∀ v Z' H', Step [] Z0 H Z' H' → (yBool).r Z' v (F_same_fields x_ones x_others) → Q v H'
set_option maxHeartbeats 4000000 in
theorem ok_same_fields (T : Txt K mg) : FnOk P w K mg base CX0 2 T.f_same_fields T.d_same_fields ["ones", "others"] (sp_same_fields T) := by
  have G_kind_of_value : FnOk P w K mg base CX0 1 T.f_kind_of_value T.d_kind_of_value ["worth"] (sp_kind_of_value T) := ok_kind_of_value T
  refine T.F_same_fields.ok sc_same_fields (fun vs H Q E h => ?_) (fun cdv A outer s H vs Q E hr h => ?_)
  · obtain ⟨Z0, v_ones, v_others, x_ones, x_others, rfl, _⟩ := h
    rfl
  · obtain ⟨Z0, v_ones, v_others, x_ones, x_others, rfl, sz, h_ones, h_others, q⟩ := h
    refine ⟨_, (pss_cons (ps_setLc (i := 2) (own := [("_", 3), ("worth", 4)]) (g := gTup K 2 (gCons (gName 3) (gCons (gName 4) gNil))) rfl sc_same_fields.nd rfl rfl (sw_true rfl rfl rfl (by decide +kernel)) (pi_tup (pv 0)) (blkOk_by (own := [("_", 3), ("worth", 4)]) (N := ["ones", "others", "kinds", "_", "worth"]) (sc := defScope s_same_fields) (by decide +kernel)) (fun _ _ _ _ _ => (by exact (pg_tup rfl (pgs_cons (pg_name (i := 3) sc_same_fields.nd rfl (Or.inl rfl)) (pgs_cons (pg_name (i := 4) sc_same_fields.nd rfl (Or.inl rfl)) pgs_nil))))) (fun _ _ _ _ _ => pts_nil) (fun _ _ _ _ _ => (pe_call G_kind_of_value (hr.mono (by decide)) (by rfl) T.g_kind_of_value T.F_kind_of_value.kp T.b_kind_of_value .nil pass0 (pa_cons (pv 4) pa_nil)))) 
      (pss_one (ps_ret (pe_and (pe_cmpR (op_eqD hr.units) (pv 2) (pe_lc (own := [("_", 3), ("worth", 4)]) (g := gTup K 2 (gCons (gName 3) (gCons (gName 4) gNil))) rfl sc_same_fields.nd (pi_tup (pv 1)) (blkOk_by (own := [("_", 3), ("worth", 4)]) (N := ["ones", "others", "kinds", "_", "worth"]) (sc := defScope s_same_fields) (by decide +kernel)) (fun _ _ _ _ _ => (by exact (pg_tup rfl (pgs_cons (pg_name (i := 3) sc_same_fields.nd rfl (Or.inl rfl)) (pgs_cons (pg_name (i := 4) sc_same_fields.nd rfl (Or.inl rfl)) pgs_nil))))) (fun _ _ _ _ _ => pts_nil) (fun _ _ _ _ _ => (pe_call G_kind_of_value (hr.mono (by decide)) (by rfl) T.g_kind_of_value T.F_kind_of_value.kp T.b_kind_of_value .nil pass0 (pa_cons (pv 4) pa_nil)))) (nomark _)) (pe_one (pe_cmpR (op_eqD hr.units) (pv 0) (pv 1) (nomark _))))))), ?_⟩
    have P := Pt.start0 sz
    generalize hF : F_same_fields x_ones x_others = y at q
    unfold F_same_fields at hF
    refine st_seq (st_set P (ev_fz (en_map (υ := yStr) (fun (x_23 : (Str × Val)) => (F_kind_of_value x_23.2)) (ei_tup (ev_var (τ := (yTup K (yP2 K yStr (y_Val T)))) rfl h_ones)) (fun x_23 v_24 Z' H' zz hh rx_25 => by
          obtain ⟨v_26, v_27, k_28, k_29, tg_30⟩ := tgt_p2 rx_25
          exact ⟨_, (tg_30 tgt_name tgt_name), (wpe_s (wpe_s wpe_z (by decide)) (by decide)), (ev_call (cs_kind_of_value T) (eva_cons (ev_var (τ := (y_Val T)) rfl k_29) eva_nil))⟩))) (fun v_31 Z1 H1 e P1 k_32 => ?_))
    refine st_nx ?_
    replace P := P1
    replace h_ones := ((yTup K (yP2 K yStr (y_Val T)))).mono e.z h_ones
    replace h_others := ((yTup K (yP2 K yStr (y_Val T)))).mono e.z h_others
    subst hF
    refine st_ret P (ev_and0 (ev_eqD (eqd_list eqd_str) (by decide) (ev_var (τ := (yList yStr)) rfl k_32) (ev_fz (en_map (υ := yStr) (fun (x_33 : (Str × Val)) => (F_kind_of_value x_33.2)) (ei_tup (ev_var (τ := (yTup K (yP2 K yStr (y_Val T)))) rfl h_others)) (fun x_33 v_34 Z' H' zz hh rx_35 => by
          obtain ⟨v_36, v_37, k_38, k_39, tg_40⟩ := tgt_p2 rx_35
          exact ⟨_, (tg_40 tgt_name tgt_name), (wpe_s (wpe_s wpe_z (by decide)) (by decide)), (ev_call (cs_kind_of_value T) (eva_cons (ev_var (τ := (y_Val T)) rfl k_39) eva_nil))⟩)))) (ev_eqW (EqW.gd (eqw_tup (eqw_p2 eqd_str.w (eqw_Val T))) _) (EqW.gd (eqw_tup (eqw_p2 eqd_str.w (eqw_Val T))) _) (EqW.dpt (K := K) (τ := (yTup K (yP2 K yStr (y_Val T)))) (eqw_tup (eqw_p2 eqd_str.w (eqw_Val T))) (by decide) _) (EqW.dpt (K := K) (τ := (yTup K (yP2 K yStr (y_Val T)))) (eqw_tup (eqw_p2 eqd_str.w (eqw_Val T))) (by decide) _) (ev_var (τ := (yTup K (yP2 K yStr (y_Val T)))) rfl h_ones) (ev_var (τ := (yTup K (yP2 K yStr (y_Val T)))) rfl h_others))) (fun v Z1 H1 P1 hv => ?_)
    exact q v _ _ P1.st hv
theorem cs_same_fields (T : Txt K mg) {μ : Type} {M : Mu μ} {s : μ} {E : XK} {x_ones : (List (Str × Val))} {x_others : (List (Str × Val))} : CallS M (sp_same_fields T) E (rac (ty (yTup K (yP2 K yStr (y_Val T))) x_ones) (rac (ty (yTup K (yP2 K yStr (y_Val T))) x_others) ra0)) s (ty yBool (F_same_fields x_ones x_others)) s := by
  rintro Z H vs sz m ⟨v_ones, _, rfl, h_ones, ⟨v_others, _, rfl, h_others, rfl⟩⟩ Q q
  exact ⟨Z, v_ones, v_others, x_ones, x_others, rfl, sz, h_ones, h_others, fun v Z2 H2 st hv => q v Z2 H2 st.pure (M.pure st m) hv⟩
def sp_Record___eq__ (T : Txt K mg) : Sp := fun vs H Q _ => ∃ (Z0 : Hp) (v_self : V) (v_other : V) (x_self : Record) (x_other : Oth) (y : Bool), vs = [v_self, v_other] ∧ (Same Z0 H) ∧ (((y_Record T)).r Z0 v_self x_self) ∧ (((y_Oth T)).r Z0 v_other x_other) ∧ (F_Record___eq__ x_self x_other = some y) ∧ ∀ v Z' H', Step [] Z0 H Z' H' → (yBool).r Z' v y → Q v H'
set_option maxHeartbeats 4000000 in
theorem ok_Record___eq__ (T : Txt K mg) : FnOk P w K mg base CX0 3 T.f_Record___eq__ T.d_Record___eq__ ["self", "other"] (sp_Record___eq__ T) := by
  have G_same_fields : FnOk P w K mg base CX0 2 T.f_same_fields T.d_same_fields ["ones", "others"] (sp_same_fields T) := ok_same_fields T
  refine T.F_Record___eq__.ok sc_Record___eq__ (fun vs H Q E h => ?_) (fun cdv A outer s H vs Q E hr h => ?_)
  · obtain ⟨Z0, v_self, v_other, x_self, x_other, y, rfl, _⟩ := h
    rfl
  · obtain ⟨Z0, v_self, v_other, x_self, x_other, y, rfl, sz, h_self, h_other, hF, q⟩ := h
    refine ⟨_, (pss_one (ps_ret (pe_and (pe_callB call_isi (by rfl) T.m_isinstance (by decide +kernel) (pa_cons (pv 1) (pa_cons (pe_glob (v := .ref T.c_Record) rfl T.mc_Record rfl) pa_nil))) (pe_and (pe_cmpR op_eq (pe_fld (pv 0) rfl) (pe_fld (pv 1) rfl) (nomark _)) (pe_and (pe_cmpR (op_eqD hr.units) (pe_fld (pv 0) rfl) (pe_fld (pv 1) rfl) (nomark _)) (pe_and (pe_call G_same_fields (hr.mono (by decide)) (by rfl) T.g_same_fields T.F_same_fields.kp T.b_same_fields .nil pass0 (pa_cons (pe_fld (pv 0) rfl) (pa_cons (pe_fld (pv 1) rfl) pa_nil))) (pe_one (pe_cmpR (op_eqD hr.units) (pe_fld (pv 0) rfl) (pe_fld (pv 1) rfl) (nomark _))))))))), ?_⟩
    have P := Pt.start0 sz
    unfold F_Record___eq__ at hF
    obtain ⟨b_66, h_65, hF⟩ := bind_inv hF
    replace hF := Option.some.inj hF
    subst hF
    refine st_ret P (ev_andO (ev_isi (b := x_other.is_Record) (fun _ _ _ h => h) (ev_var (τ := (y_Oth T)) rfl h_other) (tx_Oth T) (.own _) (kit_Oth_Record T _)) (fun _ y hy => by
          obtain ⟨u_51, h_52, hy⟩ := bind_inv hy
          obtain ⟨b_64, h_63, hy⟩ := bind_inv hy
          have hy := Option.some.inj hy
          subst hy
          exact (ev_andO (ev_eq flat_str (ev_fld (fo_Record_name T) T.cl_Record T.n_Record_name (ev_var (τ := (y_Record T)) rfl h_self)) (ev_fld (fo_Record_name T) T.cl_Record T.n_Record_name (pj_Oth_record T (ev_var (τ := (y_Oth T)) rfl h_other) h_52))) (fun _ y hy => by
                obtain ⟨u_53, h_54, hy⟩ := bind_inv hy
                obtain ⟨b_62, h_61, hy⟩ := bind_inv hy
                have hy := Option.some.inj hy
                subst hy
                exact (ev_andO (ev_eqD (eqd_tup eqd_int) (by decide) (ev_fld (fo_Record_vector T) T.cl_Record T.n_Record_vector (ev_var (τ := (y_Record T)) rfl h_self)) (ev_fld (fo_Record_vector T) T.cl_Record T.n_Record_vector (pj_Oth_record T (ev_var (τ := (y_Oth T)) rfl h_other) h_54))) (fun _ y hy => by
                      obtain ⟨u_55, h_56, hy⟩ := bind_inv hy
                      obtain ⟨b_60, h_59, hy⟩ := bind_inv hy
                      have hy := Option.some.inj hy
                      subst hy
                      exact (ev_andO (ev_call (cs_same_fields T) (eva_cons (ev_fld (fo_Record_fields T) T.cl_Record T.n_Record_fields (ev_var (τ := (y_Record T)) rfl h_self)) (eva_cons (ev_fld (fo_Record_fields T) T.cl_Record T.n_Record_fields (pj_Oth_record T (ev_var (τ := (y_Oth T)) rfl h_other) h_56)) eva_nil))) (fun _ y hy => by
                            obtain ⟨u_57, h_58, hy⟩ := bind_inv hy
                            have hy := Option.some.inj hy
                            subst hy
                            exact (ev_eqD (eqd_tup (eqd_p2 eqd_str eqd_int)) (by decide) (ev_fld (fo_Record_words T) T.cl_Record T.n_Record_words (ev_var (τ := (y_Record T)) rfl h_self)) (ev_fld (fo_Record_words T) T.cl_Record T.n_Record_words (pj_Oth_record T (ev_var (τ := (y_Oth T)) rfl h_other) h_58)))) h_59)) h_61)) h_63)) h_65) (fun v Z1 H1 P1 hv => ?_)
    exact q v _ _ P1.st hv
theorem cs_Record___eq__ (T : Txt K mg) {μ : Type} {M : Mu μ} {s : μ} {E : XK} {x_self : Record} {x_other : Oth} {y : Bool} (h : F_Record___eq__ x_self x_other = some y) : CallS M (sp_Record___eq__ T) E (rac (ty (y_Record T) x_self) (rac (ty (y_Oth T) x_other) ra0)) s (ty yBool y) s := by
  rintro Z H vs sz m ⟨v_self, _, rfl, h_self, ⟨v_other, _, rfl, h_other, rfl⟩⟩ Q q
  exact ⟨Z, v_self, v_other, x_self, x_other, y, rfl, sz, h_self, h_other, h, fun v Z2 H2 st hv => q v Z2 H2 st.pure (M.pure st m) hv⟩
theorem ref_Record (T : Txt K mg) : ∀ Z v x, (y_Record T).r Z v x → ∃ a, v = .ref a := fun _ _ _ ⟨a, _, _, _, _, _, e, _⟩ => ⟨a, e⟩
theorem fn_Record {X : Cx} (T : Txt K mg) (hK : X.K = K) : FnI X (y_Record T) := fun pins σ s Z H v x y I sz ⟨a, dx, w0, w1, w2, w3, e, h, h0, h1, h2, h3⟩ ⟨c, dy, u0, u1, u2, u3, e2, h2, g0, g1, g2, g3⟩ => by
  subst hK; cases e; cases e2
  rw [h] at h2
  have e3 := Option.some.inj h2
  injection e3 with _ _ e3
  have lk : ∀ m, (ff_Record w0 w1 w2 w3).lookup m = (ff_Record u0 u1 u2 u3).lookup m := fun m => by rw [e3]
  have q0 := lk "name"
  rw [lk_Record_name, lk_Record_name] at q0
  cases q0
  have q1 := lk "vector"
  rw [lk_Record_vector, lk_Record_vector] at q1
  cases q1
  have q2 := lk "fields"
  rw [lk_Record_fields, lk_Record_fields] at q2
  cases q2
  have q3 := lk "words"
  rw [lk_Record_words, lk_Record_words] at q3
  cases q3
  cases x; cases y
  simp only [Record.mk.injEq]
  exact ⟨fn_str pins σ s Z H _ _ _ I sz h0 g0, (fn_tup fn_int) pins σ s Z H _ _ _ I sz h1 g1, (fn_tup (fn_p2 fn_str (fn_Val T rfl))) pins σ s Z H _ _ _ I sz h2 g2, (fn_tup (fn_p2 fn_str fn_int)) pins σ s Z H _ _ _ I sz h3 g3⟩
theorem hsp_Record (T : Txt K mg) : ∀ vs H Q E, TPQ.spEqB (FTr (y_Record T)) vs H Q E → sp_Record___eq__ T vs H Q E := by
  rintro vs H Q E ⟨a, c, b, rfl, ⟨Z, x, y, sz, r1, r2, rfl⟩, k⟩
  refine ⟨Z, _, _, x, (Oth.record y), _, rfl, sz, r1, r2, eq_Record x y, fun v Z' H' st hv => ?_⟩
  have hv2 : v = V.bl (decide (x = y)) := hv
  rw [hv2]
  exact k H' fun p o h => st.h p o List.not_mem_nil h
def sp_law_flags (T : Txt K mg) : Sp := fun vs H Q _ => ∃ (Z0 : Hp) (y : Bool), vs = [] ∧ (Same Z0 H) ∧ (F_law_flags = some y) ∧ ∀ v Z' H', Step [] Z0 H Z' H' → (yBool).r Z' v y → Q v H'
set_option maxHeartbeats 4000000 in
theorem ok_law_flags (T : Txt K mg) : FnOk P w K mg base CX0 4 T.f_law_flags T.d_law_flags [] (sp_law_flags T) := by
  have G_Record___eq__ : FnOk P w K mg base CX0 3 T.f_Record___eq__ T.d_Record___eq__ ["self", "other"] (sp_Record___eq__ T) := ok_Record___eq__ T
  have G_Record___init__ : FnOk P w K mg base CX0 1 T.f_Record___init__ T.d_Record___init__ ["self", "name", "vector", "fields", "words"] (sp_Record___init__ T) := ok_Record___init__ T
  refine T.F_law_flags.ok sc_law_flags (fun vs H Q E h => ?_) (fun cdv A outer s H vs Q E hr h => ?_)
  · obtain ⟨Z0, y, rfl, _⟩ := h
    rfl
  · obtain ⟨Z0, y, rfl, sz, hF, q⟩ := h
    refine ⟨_, (pss_cons (ps_set (i := 0) sc_law_flags.nd rfl (.inl rfl) (pe_makeK T.mk_Record G_Record___init__ (hr.mono (by decide)) (by rfl) T.mc_Record T.kb_Record___init___k0 pass0 (pa_cons pe_str (pa_cons (pe_lst (pa_cons pe_int pa_nil)) pa_nil)) (pk_cons (pe_lst (pa_cons (pe_tup (pa_cons pe_str (pa_cons pe_int pa_nil))) pa_nil)) pk_nil))) 
      (pss_cons (ps_set (i := 1) sc_law_flags.nd rfl (.inl rfl) (pe_makeK T.mk_Record G_Record___init__ (hr.mono (by decide)) (by rfl) T.mc_Record T.kb_Record___init___k0 pass0 (pa_cons pe_str (pa_cons (pe_lst (pa_cons pe_int pa_nil)) pa_nil)) (pk_cons (pe_lst (pa_cons (pe_tup (pa_cons pe_str (pa_cons pe_bl pa_nil))) pa_nil)) pk_nil))) 
      (pss_one (ps_ret (pe_and (pe_cmpR (TPN.op_ownE T.me_Record___eq__ G_Record___eq__ (hr.mono (by decide)) T.b_Record___eq__ pass0) (pv 0) (pv 0) (nomark _)) (pe_and (pe_cmpR (TPN.op_ownE T.me_Record___eq__ G_Record___eq__ (hr.mono (by decide)) T.b_Record___eq__ pass0) (pv 1) (pv 1) (nomark _)) (pe_and (pe_not (pe_cmpR (TPN.op_ownE T.me_Record___eq__ G_Record___eq__ (hr.mono (by decide)) T.b_Record___eq__ pass0) (pv 0) (pv 1) (nomark _))) (pe_one (pe_not (pe_cmpR (TPN.op_ownE T.me_Record___eq__ G_Record___eq__ (hr.mono (by decide)) T.b_Record___eq__ pass0) (pv 1) (pv 0) (nomark _))))))))))), ?_⟩
    have P := Pt.start0 sz
    unfold F_law_flags at hF
    obtain ⟨x_one_81, h_82, hF⟩ := bind_inv hF
    replace h_82 := Option.some.inj h_82
    refine st_seq (st_set P (ev_cast (ev_makeK (is_Record___init__ T) (eva_cons ev_str (eva_cons (ev_fz (en_listD (eva_conss ev_int (eva_nils (τ := yInt))) (by show 1 ≤ sizeLine; decide))) eva_nil)) (eva_cons (ev_fz (en_listD (eva_conss (ev_p2 (K := K) (eva_cons ev_str (eva_cons (ij_Val_i T ev_int) eva_nil))) (eva_nils (τ := (yP2 K yStr (y_Val T))))) (by show 1 ≤ sizeLine; decide))) eva_nil) (fun Z H vs zs x hv hz => by
          obtain ⟨v0, _, rfl, hv0, ⟨v1, _, rfl, hv1, rfl⟩⟩ := hv
          obtain ⟨w0, _, rfl, hw0, rfl⟩ := hz
          exact ⟨rfl, rfl, _, rfl, ⟨v0, _, rfl, hv0, ⟨v1, _, rfl, hv1, ⟨w0, _, rfl, hw0, ⟨_, _, rfl, ⟨_, [], rfl, .inr (T.et_Record___init___words Z), .nil, Nat.zero_le _⟩, rfl⟩⟩⟩⟩⟩)) h_82) (fun v_83 Z1 H1 e P1 k_84 => ?_))
    refine st_nx ?_
    replace P := P1
    obtain ⟨x_two_85, h_86, hF⟩ := bind_inv hF
    replace h_86 := Option.some.inj h_86
    refine st_seq (st_set P (ev_cast (ev_makeK (is_Record___init__ T) (eva_cons ev_str (eva_cons (ev_fz (en_listD (eva_conss ev_int (eva_nils (τ := yInt))) (by show 1 ≤ sizeLine; decide))) eva_nil)) (eva_cons (ev_fz (en_listD (eva_conss (ev_p2 (K := K) (eva_cons ev_str (eva_cons (ij_Val_b T ev_bl) eva_nil))) (eva_nils (τ := (yP2 K yStr (y_Val T))))) (by show 1 ≤ sizeLine; decide))) eva_nil) (fun Z H vs zs x hv hz => by
          obtain ⟨v0, _, rfl, hv0, ⟨v1, _, rfl, hv1, rfl⟩⟩ := hv
          obtain ⟨w0, _, rfl, hw0, rfl⟩ := hz
          exact ⟨rfl, rfl, _, rfl, ⟨v0, _, rfl, hv0, ⟨v1, _, rfl, hv1, ⟨w0, _, rfl, hw0, ⟨_, _, rfl, ⟨_, [], rfl, .inr (T.et_Record___init___words Z), .nil, Nat.zero_le _⟩, rfl⟩⟩⟩⟩⟩)) h_86) (fun v_87 Z1 H1 e P1 k_88 => ?_))
    refine st_nx ?_
    replace P := P1
    replace k_84 := ((y_Record T)).mono e.z k_84
    obtain ⟨r_89, h_90, hF⟩ := bind_inv hF
    obtain ⟨b_102, h_101, hF⟩ := bind_inv hF
    replace hF := Option.some.inj hF
    subst hF
    refine st_ret P (ev_andO (ev_cast (ev_ownE (neg := false) (ins_Record T) (tx_Oth T) (nfs_Record_Oth T _) (cs_Record___eq__ T h_90) (ev_var (τ := (y_Record T)) rfl k_84) (ij_Oth_record T (ev_var (τ := (y_Record T)) rfl k_84))) bneF) (fun _ y hy => by
          obtain ⟨r_91, h_92, hy⟩ := bind_inv hy
          obtain ⟨b_100, h_99, hy⟩ := bind_inv hy
          have hy := Option.some.inj hy
          subst hy
          exact (ev_andO (ev_cast (ev_ownE (neg := false) (ins_Record T) (tx_Oth T) (nfs_Record_Oth T _) (cs_Record___eq__ T h_92) (ev_var (τ := (y_Record T)) rfl k_88) (ij_Oth_record T (ev_var (τ := (y_Record T)) rfl k_88))) bneF) (fun _ y hy => by
                obtain ⟨r_93, h_94, hy⟩ := bind_inv hy
                obtain ⟨b_98, h_97, hy⟩ := bind_inv hy
                have hy := Option.some.inj hy
                subst hy
                exact (ev_andO (ev_not (ev_cast (ev_ownE (neg := false) (ins_Record T) (tx_Oth T) (nfs_Record_Oth T _) (cs_Record___eq__ T h_94) (ev_var (τ := (y_Record T)) rfl k_84) (ij_Oth_record T (ev_var (τ := (y_Record T)) rfl k_88))) bneF)) (fun _ y hy => by
                      obtain ⟨r_95, h_96, hy⟩ := bind_inv hy
                      have hy := Option.some.inj hy
                      subst hy
                      exact (ev_not (ev_cast (ev_ownE (neg := false) (ins_Record T) (tx_Oth T) (nfs_Record_Oth T _) (cs_Record___eq__ T h_96) (ev_var (τ := (y_Record T)) rfl k_88) (ij_Oth_record T (ev_var (τ := (y_Record T)) rfl k_84))) bneF))) h_97)) h_99)) h_101) (fun v Z1 H1 P1 hv => ?_)
    exact q v _ _ P1.st hv
theorem cs_law_flags (T : Txt K mg) {μ : Type} {M : Mu μ} {s : μ} {E : XK}  {y : Bool} (h : F_law_flags = some y) : CallS M (sp_law_flags T) E ra0 s (ty yBool y) s := by
  rintro Z H vs sz m rfl Q q
  exact ⟨Z, y, rfl, sz, h, fun v Z2 H2 st hv => q v Z2 H2 st.pure (M.pure st m) hv⟩
def sp_law_numbers (T : Txt K mg) : Sp := fun vs H Q _ => ∃ (st sc : Addr) (Z0 : Hp) (ds : DS) (y : ((List Int) × DS)), vs = [.ref st] ∧ (Same Z0 H) ∧ ((muD st sc).m ds Z0 H) ∧ (F_law_numbers ds = some y) ∧ ∀ v Z' H', Step (muD st sc).fp Z0 H Z' H' → (muD st sc).m y.2 Z' H' → ((yList yInt)).r Z' v y.1 → Q v H'
set_option maxHeartbeats 4000000 in
theorem ok_law_numbers (T : Txt K mg) : FnOk P w K mg base CX0 3 T.f_law_numbers T.d_law_numbers ["state"] (sp_law_numbers T) := by
  have G_law_next : FnOk P w K mg base CX0 2 T.f_law_next T.d_law_next ["state", "many"] (sp_law_next T) := ok_law_next T
  refine T.F_law_numbers.ok sc_law_numbers (fun vs H Q E h => ?_) (fun cdv A outer s H vs Q E hr h => ?_)
  · obtain ⟨st, sc, Z0, ds, y, rfl, _⟩ := h
    rfl
  · obtain ⟨st, sc, Z0, ds, y, rfl, sz, hm, hF, q⟩ := h
    refine ⟨_, (pss_one (ps_ret (pe_lc (own := [("k", 1)]) (g := gName 1) rfl sc_law_numbers.nd (pi_range1 rfl T.m_range (pa_cons (pe_op op_add pe_int (pe_call G_law_next (hr.mono (by decide)) (by rfl) T.g_law_next T.F_law_next.kp T.b_law_next .nil pass0 (pa_cons (pv 0) (pa_cons pe_int pa_nil)))) pa_nil)) (blkOk_by (own := [("k", 1)]) (N := ["state", "k"]) (sc := defScope s_law_numbers) (by decide +kernel)) (fun _ _ _ _ _ => (pg_name (i := 1) sc_law_numbers.nd rfl (Or.inl rfl))) (fun _ _ _ _ _ => pts_nil) (fun _ _ _ _ _ => (pe_op op_sub (pe_call G_law_next (hr.mono (by decide)) (by rfl) T.g_law_next T.F_law_next.kp T.b_law_next .nil pass0 (pa_cons (pv 0) (pa_cons pe_int pa_nil))) pe_int))))), ?_⟩
    have P := Pt.start (muD st sc) sz hm
    unfold F_law_numbers at hF
    obtain ⟨g_110, hF⟩ := guard_inv hF
    obtain ⟨l_115, h_116, hF⟩ := bind_inv hF
    replace hF := Option.some.inj hF
    subst hF
    refine st_ret P (ev_fz (en_mapS (υ := yInt) (fun (x_111 : Int) (s_112 : DS) => (some (((nxV s_112 (5 : Int)) - (2 : Int)), (nxS s_112 (5 : Int))) : Option (Int × DS))) (ei_rng1 (ev_add ev_int (ev_call (cs__law_next T (by decide +kernel)) (eva_cons (ev_ref rfl) (eva_cons ev_int eva_nil)))) g_110) (fun x_111 v_113 Z' H' s_112 p zz hh rx_114 hp => by
          have hy := hp
          have hy := Option.some.inj hy
          subst hy
          exact ⟨_, tgt_name, (wpe_s wpe_z (by decide)), (ev_sub (ev_call (cs__law_next T (by decide +kernel)) (eva_cons (ev_ref rfl) (eva_cons ev_int eva_nil))) ev_int)⟩) h_116)) (fun v Z1 H1 P1 hv => ?_)
    exact q v _ _ P1.st P1.m hv
theorem cs_law_numbers (T : Txt K mg) {st sc : Addr} {ds : DS} {E : XK}  {y : (List Int) × DS} (h : F_law_numbers ds = some y) : CallS (muD st sc) (sp_law_numbers T) E (rac (isRef st) ra0) ds (ty (yList yInt) y.1) y.2 := by
  rintro Z H vs sz m ⟨_, _, rfl, rfl, rfl⟩ Q q
  exact ⟨st, sc, Z, ds, y, rfl, sz, m, h, fun v Z2 H2 s2 m2 hv => q v Z2 H2 s2 m2 hv⟩
theorem cu_law_numbers (T : Txt K mg) {st sc : Addr} {ds : DS} {E : XK}  {y : (List Int) × DS} {μ : Type} {M : Mu μ} {s s2 : μ} (hm : ∀ Z H, M.m s Z H → (muD st sc).m ds Z H) (hf : ∀ a ∈ (muD st sc).fp, a ∈ M.fp) (hp : ∀ Z H Z' H', M.m s Z H → Step (muD st sc).fp Z H Z' H' → (muD st sc).m y.2 Z' H' → M.m s2 Z' H') (h : F_law_numbers ds = some y) : CallS M (sp_law_numbers T) E (rac (isRef st) ra0) s (ty (yList yInt) y.1) s2 := by
  rintro Z H vs sz m ⟨_, _, rfl, rfl, rfl⟩ Q q
  exact ⟨st, sc, Z, ds, y, rfl, sz, hm _ _ m, h, fun v Z2 H2 st2 m2 hv => q v Z2 H2 (st2.weak fun a h => .inl (hf a h)) (hp _ _ _ _ m st2 m2) hv⟩
def sp_law_parts (T : Txt K mg) : Sp := fun vs H Q _ => ∃ (st sc : Addr) (Z0 : Hp) (ds : DS) (v_kind : V) (x_kind : Int) (y : ((List Any) × DS)), vs = [.ref st, v_kind] ∧ (Same Z0 H) ∧ ((muD st sc).m ds Z0 H) ∧ ((yInt).r Z0 v_kind x_kind) ∧ (F_law_parts ds x_kind = some y) ∧ ∀ v Z' H', Step (muD st sc).fp Z0 H Z' H' → (muD st sc).m y.2 Z' H' → ((yList (y_Any T))).r Z' v y.1 → Q v H'
set_option maxHeartbeats 4000000 in
theorem ok_law_parts (T : Txt K mg) : FnOk P w K mg base CX0 4 T.f_law_parts T.d_law_parts ["state", "kind"] (sp_law_parts T) := by
  have G_law_next : FnOk P w K mg base CX0 2 T.f_law_next T.d_law_next ["state", "many"] (sp_law_next T) := ok_law_next T
  have G_law_numbers : FnOk P w K mg base CX0 3 T.f_law_numbers T.d_law_numbers ["state"] (sp_law_numbers T) := ok_law_numbers T
  refine T.F_law_parts.ok sc_law_parts (fun vs H Q E h => ?_) (fun cdv A outer s H vs Q E hr h => ?_)
  · obtain ⟨st, sc, Z0, ds, v_kind, x_kind, y, rfl, _⟩ := h
    rfl
  · obtain ⟨st, sc, Z0, ds, v_kind, x_kind, y, rfl, sz, hm, h_kind, hF, q⟩ := h
    refine ⟨_, (pss_cons (ps_set (i := 2) sc_law_parts.nd rfl (.inl rfl) (pe_call G_law_numbers (hr.mono (by decide)) (by rfl) T.g_law_numbers T.F_law_numbers.kp T.b_law_numbers .nil pass0 (pa_cons (pv 0) pa_nil))) 
      (pss_cons (ps_set (i := 3) sc_law_parts.nd rfl (.inl rfl) (pe_call G_law_next (hr.mono (by decide)) (by rfl) T.g_law_next T.F_law_next.kp T.b_law_next .nil pass0 (pa_cons (pv 0) (pa_cons pe_int pa_nil)))) 
      (pss_cons (ps_if (pt_cmpR op_eq (pv 1) pe_int (nomark _)) (pss_one (ps_ret (pe_lst (pa_cons pe_str (pa_cons (pv 2) (pa_cons (pe_lst (pa_cons (pe_tup (pa_cons pe_str (pa_cons (pv 3) pa_nil))) pa_nil)) (pa_cons (pe_lst (pa_cons (pe_tup (pa_cons pe_str (pa_cons (pe_op op_add pe_int (pv 3)) pa_nil))) pa_nil)) pa_nil))))))) pss_nil) 
      (pss_cons (ps_if (pt_cmpR op_eq (pv 1) pe_int (nomark _)) (pss_one (ps_ret (pe_lst (pa_cons (pv 2) (pa_cons (pv 3) (pa_cons (pe_lst (pa_cons (pe_tup (pa_cons pe_str (pa_cons (pv 3) pa_nil))) pa_nil)) (pa_cons pe_str (pa_cons (pe_op op_add pe_int (pv 3)) pa_nil)))))))) pss_nil) 
      (pss_cons (ps_if (pt_cmpR op_eq (pv 1) pe_int (nomark _)) (pss_one (ps_ret (pe_lst (pa_cons (pv 3) (pa_cons (pv 2) (pa_cons (pe_op op_add (pv 3) pe_int) pa_nil)))))) pss_nil) 
      (pss_cons (ps_if (pt_cmpR op_eq (pv 1) pe_int (nomark _)) (pss_one (ps_ret (pe_lst (pa_cons (pe_ix ix_list (pe_lst (pa_cons (pv 3) (pa_cons pe_non pa_nil))) (pe_call G_law_next (hr.mono (by decide)) (by rfl) T.g_law_next T.F_law_next.kp T.b_law_next .nil pass0 (pa_cons (pv 0) (pa_cons pe_int pa_nil))) (fun _ _ => rfl)) (pa_cons pe_str (pa_cons (pe_cmpR op_gt (pv 3) pe_int (nomark _)) pa_nil)))))) pss_nil) 
      (pss_cons (ps_if (pt_cmpR op_eq (pv 1) pe_int (nomark _)) (pss_one (ps_ret (pe_lst (pa_cons (pe_ix ix_list (pe_lst (pa_cons (pv 3) (pa_cons pe_non pa_nil))) (pe_call G_law_next (hr.mono (by decide)) (by rfl) T.g_law_next T.F_law_next.kp T.b_law_next .nil pass0 (pa_cons (pv 0) (pa_cons pe_int pa_nil))) (fun _ _ => rfl)) (pa_cons (pv 2) pa_nil))))) pss_nil) 
      (pss_cons (ps_if (pt_cmpR op_eq (pv 1) pe_int (nomark _)) (pss_one (ps_ret (pe_lst (pa_cons (pv 3) (pa_cons (pv 2) (pa_cons (pe_lst (pa_cons (pv 3) pa_nil)) pa_nil)))))) pss_nil) 
      (pss_one (ps_ret (pe_lst (pa_cons (pv 2) (pa_cons (pe_lst (pa_cons (pv 3) (pa_cons (pe_op op_add (pv 3) pe_int) pa_nil))) pa_nil))))))))))))), ?_⟩
    have P := Pt.start (muD st sc) sz hm
    unfold F_law_parts at hF
    obtain ⟨r_130, h_131, hF⟩ := bind_inv hF
    refine st_seq (st_set P (ev_call (cs_law_numbers T h_131) (eva_cons (ev_ref rfl) eva_nil)) (fun v_132 Z1 H1 e P1 k_133 => ?_))
    refine st_nx ?_
    replace P := P1
    refine st_seq (st_set P (ev_call (cs__law_next T (by decide +kernel)) (eva_cons (ev_ref rfl) (eva_cons ev_int eva_nil))) (fun v_134 Z1 H1 e P1 k_135 => ?_))
    refine st_nx ?_
    replace P := P1
    replace k_133 := ((yList yInt)).mono e.z k_133
    refine st_seq (st_if P (et_cmp (ev_eq flat_int (ev_var (τ := yInt) rfl h_kind) ev_int)) (fun b_136 Z1 H1 e P1 => ?_) (fun b_136 Z1 H1 e P1 => ?_))
    · replace P := P1
      have hB := ifT b_136 hF
      replace hF := hB
      clear hB
      replace k_133 := ((yList yInt)).mono e.z k_133
      obtain ⟨u_137, h_138, hF⟩ := bind_inv hF
      obtain ⟨u_139, h_140, hF⟩ := bind_inv hF
      obtain ⟨u_141, h_142, hF⟩ := bind_inv hF
      replace hF := Option.some.inj hF
      subst hF
      refine st_ret P (ev_fz (en_listD (eva_conss (ij_Any_s T ev_str) (eva_conss (ev_castK (show CastO (yList yInt) (y_Any T) (fun x : (List Int) => ((mapO (fun x : Int => some (El.i x))) x).map Any.l) from (fun _ _ _ _ h e => by obtain ⟨z, hz, e⟩ := Option.map_eq_some_iff.mp e; subst e; exact (show CastO (yList yInt) (yList (y_El T)) (mapO (fun x : Int => some (El.i x))) from (cast_list (show CastO yInt (y_El T) (fun x : Int => some (El.i x)) from (fun _ _ _ _ h e => by have e := Option.some.inj e; subst e; exact h)))) _ _ _ _ h hz)) (ev_var (τ := (yList yInt)) rfl k_133) h_138) (eva_conss (ev_castK (show CastO (yList (yP2 K yStr yInt)) (y_Any T) (fun x : (List (Str × Int)) => ((mapO (fun x : (Str × Int) => ((fun x : (Str × Int) => ((some : Str → Option Str) x.1).bind fun a => ((fun x : Int => some (Val.i x)) x.2).bind fun b => some (a, b)) x).map El.w)) x).map Any.l) from (fun _ _ _ _ h e => by obtain ⟨z, hz, e⟩ := Option.map_eq_some_iff.mp e; subst e; exact (show CastO (yList (yP2 K yStr yInt)) (yList (y_El T)) (mapO (fun x : (Str × Int) => ((fun x : (Str × Int) => ((some : Str → Option Str) x.1).bind fun a => ((fun x : Int => some (Val.i x)) x.2).bind fun b => some (a, b)) x).map El.w)) from (cast_list (show CastO (yP2 K yStr yInt) (y_El T) (fun x : (Str × Int) => ((fun x : (Str × Int) => ((some : Str → Option Str) x.1).bind fun a => ((fun x : Int => some (Val.i x)) x.2).bind fun b => some (a, b)) x).map El.w) from (fun _ _ _ _ h e => by obtain ⟨z, hz, e⟩ := Option.map_eq_some_iff.mp e; subst e; exact (show CastO (yP2 K yStr yInt) (yP2 K yStr (y_Val T)) (fun x : (Str × Int) => ((some : Str → Option Str) x.1).bind fun a => ((fun x : Int => some (Val.i x)) x.2).bind fun b => some (a, b)) from (cast_p2 (show CastO yStr yStr (some : Str → Option Str) from cast_id) (show CastO yInt (y_Val T) (fun x : Int => some (Val.i x)) from (fun _ _ _ _ h e => by have e := Option.some.inj e; subst e; exact h)))) _ _ _ _ h hz)))) _ _ _ _ h hz)) (ev_fz (en_listD (eva_conss (ev_p2 (K := K) (eva_cons ev_str (eva_cons (ev_var (τ := yInt) rfl k_135) eva_nil))) (eva_nils (τ := (yP2 K yStr yInt)))) (by show 1 ≤ sizeLine; decide))) h_140) (eva_conss (ev_castK (show CastO (yList (yP2 K yStr yInt)) (y_Any T) (fun x : (List (Str × Int)) => ((mapO (fun x : (Str × Int) => ((fun x : (Str × Int) => ((some : Str → Option Str) x.1).bind fun a => ((fun x : Int => some (Val.i x)) x.2).bind fun b => some (a, b)) x).map El.w)) x).map Any.l) from (fun _ _ _ _ h e => by obtain ⟨z, hz, e⟩ := Option.map_eq_some_iff.mp e; subst e; exact (show CastO (yList (yP2 K yStr yInt)) (yList (y_El T)) (mapO (fun x : (Str × Int) => ((fun x : (Str × Int) => ((some : Str → Option Str) x.1).bind fun a => ((fun x : Int => some (Val.i x)) x.2).bind fun b => some (a, b)) x).map El.w)) from (cast_list (show CastO (yP2 K yStr yInt) (y_El T) (fun x : (Str × Int) => ((fun x : (Str × Int) => ((some : Str → Option Str) x.1).bind fun a => ((fun x : Int => some (Val.i x)) x.2).bind fun b => some (a, b)) x).map El.w) from (fun _ _ _ _ h e => by obtain ⟨z, hz, e⟩ := Option.map_eq_some_iff.mp e; subst e; exact (show CastO (yP2 K yStr yInt) (yP2 K yStr (y_Val T)) (fun x : (Str × Int) => ((some : Str → Option Str) x.1).bind fun a => ((fun x : Int => some (Val.i x)) x.2).bind fun b => some (a, b)) from (cast_p2 (show CastO yStr yStr (some : Str → Option Str) from cast_id) (show CastO yInt (y_Val T) (fun x : Int => some (Val.i x)) from (fun _ _ _ _ h e => by have e := Option.some.inj e; subst e; exact h)))) _ _ _ _ h hz)))) _ _ _ _ h hz)) (ev_fz (en_listD (eva_conss (ev_p2 (K := K) (eva_cons ev_str (eva_cons (ev_add ev_int (ev_var (τ := yInt) rfl k_135)) eva_nil))) (eva_nils (τ := (yP2 K yStr yInt)))) (by show 1 ≤ sizeLine; decide))) h_142) (eva_nils (τ := (y_Any T))))))) (by show 4 ≤ sizeLine; decide))) (fun v Z1 H1 P1 hv => ?_)
      exact q v _ _ P1.st P1.m hv
    · replace P := P1
      have hB := ifF b_136 hF
      replace hF := hB
      clear hB
      refine st_next0 ?_
      replace k_133 := ((yList yInt)).mono e.z k_133
      refine st_seq (st_if P (et_cmp (ev_eq flat_int (ev_var (τ := yInt) rfl h_kind) ev_int)) (fun b_143 Z1 H1 e P1 => ?_) (fun b_143 Z1 H1 e P1 => ?_))
      · replace P := P1
        have hB := ifT b_143 hF
        replace hF := hB
        clear hB
        replace k_133 := ((yList yInt)).mono e.z k_133
        obtain ⟨u_144, h_145, hF⟩ := bind_inv hF
        obtain ⟨u_146, h_147, hF⟩ := bind_inv hF
        replace hF := Option.some.inj hF
        subst hF
        refine st_ret P (ev_fz (en_listD (eva_conss (ev_castK (show CastO (yList yInt) (y_Any T) (fun x : (List Int) => ((mapO (fun x : Int => some (El.i x))) x).map Any.l) from (fun _ _ _ _ h e => by obtain ⟨z, hz, e⟩ := Option.map_eq_some_iff.mp e; subst e; exact (show CastO (yList yInt) (yList (y_El T)) (mapO (fun x : Int => some (El.i x))) from (cast_list (show CastO yInt (y_El T) (fun x : Int => some (El.i x)) from (fun _ _ _ _ h e => by have e := Option.some.inj e; subst e; exact h)))) _ _ _ _ h hz)) (ev_var (τ := (yList yInt)) rfl k_133) h_145) (eva_conss (ij_Any_i T (ev_var (τ := yInt) rfl k_135)) (eva_conss (ev_castK (show CastO (yList (yP2 K yStr yInt)) (y_Any T) (fun x : (List (Str × Int)) => ((mapO (fun x : (Str × Int) => ((fun x : (Str × Int) => ((some : Str → Option Str) x.1).bind fun a => ((fun x : Int => some (Val.i x)) x.2).bind fun b => some (a, b)) x).map El.w)) x).map Any.l) from (fun _ _ _ _ h e => by obtain ⟨z, hz, e⟩ := Option.map_eq_some_iff.mp e; subst e; exact (show CastO (yList (yP2 K yStr yInt)) (yList (y_El T)) (mapO (fun x : (Str × Int) => ((fun x : (Str × Int) => ((some : Str → Option Str) x.1).bind fun a => ((fun x : Int => some (Val.i x)) x.2).bind fun b => some (a, b)) x).map El.w)) from (cast_list (show CastO (yP2 K yStr yInt) (y_El T) (fun x : (Str × Int) => ((fun x : (Str × Int) => ((some : Str → Option Str) x.1).bind fun a => ((fun x : Int => some (Val.i x)) x.2).bind fun b => some (a, b)) x).map El.w) from (fun _ _ _ _ h e => by obtain ⟨z, hz, e⟩ := Option.map_eq_some_iff.mp e; subst e; exact (show CastO (yP2 K yStr yInt) (yP2 K yStr (y_Val T)) (fun x : (Str × Int) => ((some : Str → Option Str) x.1).bind fun a => ((fun x : Int => some (Val.i x)) x.2).bind fun b => some (a, b)) from (cast_p2 (show CastO yStr yStr (some : Str → Option Str) from cast_id) (show CastO yInt (y_Val T) (fun x : Int => some (Val.i x)) from (fun _ _ _ _ h e => by have e := Option.some.inj e; subst e; exact h)))) _ _ _ _ h hz)))) _ _ _ _ h hz)) (ev_fz (en_listD (eva_conss (ev_p2 (K := K) (eva_cons ev_str (eva_cons (ev_var (τ := yInt) rfl k_135) eva_nil))) (eva_nils (τ := (yP2 K yStr yInt)))) (by show 1 ≤ sizeLine; decide))) h_147) (eva_conss (ij_Any_s T ev_str) (eva_conss (ij_Any_i T (ev_add ev_int (ev_var (τ := yInt) rfl k_135))) (eva_nils (τ := (y_Any T)))))))) (by show 5 ≤ sizeLine; decide))) (fun v Z1 H1 P1 hv => ?_)
        exact q v _ _ P1.st P1.m hv
      · replace P := P1
        have hB := ifF b_143 hF
        replace hF := hB
        clear hB
        refine st_next0 ?_
        replace k_133 := ((yList yInt)).mono e.z k_133
        refine st_seq (st_if P (et_cmp (ev_eq flat_int (ev_var (τ := yInt) rfl h_kind) ev_int)) (fun b_148 Z1 H1 e P1 => ?_) (fun b_148 Z1 H1 e P1 => ?_))
        · replace P := P1
          have hB := ifT b_148 hF
          replace hF := hB
          clear hB
          replace k_133 := ((yList yInt)).mono e.z k_133
          obtain ⟨u_149, h_150, hF⟩ := bind_inv hF
          replace hF := Option.some.inj hF
          subst hF
          refine st_ret P (ev_fz (en_listD (eva_conss (ij_Any_i T (ev_var (τ := yInt) rfl k_135)) (eva_conss (ev_castK (show CastO (yList yInt) (y_Any T) (fun x : (List Int) => ((mapO (fun x : Int => some (El.i x))) x).map Any.l) from (fun _ _ _ _ h e => by obtain ⟨z, hz, e⟩ := Option.map_eq_some_iff.mp e; subst e; exact (show CastO (yList yInt) (yList (y_El T)) (mapO (fun x : Int => some (El.i x))) from (cast_list (show CastO yInt (y_El T) (fun x : Int => some (El.i x)) from (fun _ _ _ _ h e => by have e := Option.some.inj e; subst e; exact h)))) _ _ _ _ h hz)) (ev_var (τ := (yList yInt)) rfl k_133) h_150) (eva_conss (ij_Any_i T (ev_add (ev_var (τ := yInt) rfl k_135) ev_int)) (eva_nils (τ := (y_Any T)))))) (by show 3 ≤ sizeLine; decide))) (fun v Z1 H1 P1 hv => ?_)
          exact q v _ _ P1.st P1.m hv
        · replace P := P1
          have hB := ifF b_148 hF
          replace hF := hB
          clear hB
          refine st_next0 ?_
          replace k_133 := ((yList yInt)).mono e.z k_133
          refine st_seq (st_if P (et_cmp (ev_eq flat_int (ev_var (τ := yInt) rfl h_kind) ev_int)) (fun b_151 Z1 H1 e P1 => ?_) (fun b_151 Z1 H1 e P1 => ?_))
          · replace P := P1
            have hB := ifT b_151 hF
            replace hF := hB
            clear hB
            obtain ⟨i_152, h_153, hF⟩ := bind_inv hF
            replace hF := Option.some.inj hF
            subst hF
            refine st_ret P (ev_fz (en_listD (eva_conss (ev_ixL (ev_li (ev_fz (en_listD (eva_conss (ij_Any_i T (ev_var (τ := yInt) rfl k_135)) (eva_conss (ij_Any_n T ev_non) (eva_nils (τ := (y_Any T))))) (by show 2 ≤ sizeLine; decide)))) (ev_call (cs__law_next T (by decide +kernel)) (eva_cons (ev_ref rfl) (eva_cons ev_int eva_nil))) h_153) (eva_conss (ij_Any_s T ev_str) (eva_conss (ij_Any_b T (ev_gt (ev_var (τ := yInt) rfl k_135) ev_int)) (eva_nils (τ := (y_Any T)))))) (by show 3 ≤ sizeLine; decide))) (fun v Z1 H1 P1 hv => ?_)
            exact q v _ _ P1.st P1.m hv
          · replace P := P1
            have hB := ifF b_151 hF
            replace hF := hB
            clear hB
            refine st_next0 ?_
            replace k_133 := ((yList yInt)).mono e.z k_133
            refine st_seq (st_if P (et_cmp (ev_eq flat_int (ev_var (τ := yInt) rfl h_kind) ev_int)) (fun b_154 Z1 H1 e P1 => ?_) (fun b_154 Z1 H1 e P1 => ?_))
            · replace P := P1
              have hB := ifT b_154 hF
              replace hF := hB
              clear hB
              replace k_133 := ((yList yInt)).mono e.z k_133
              obtain ⟨i_155, h_156, hF⟩ := bind_inv hF
              obtain ⟨u_157, h_158, hF⟩ := bind_inv hF
              replace hF := Option.some.inj hF
              subst hF
              refine st_ret P (ev_fz (en_listD (eva_conss (ev_ixL (ev_li (ev_fz (en_listD (eva_conss (ij_Any_i T (ev_var (τ := yInt) rfl k_135)) (eva_conss (ij_Any_n T ev_non) (eva_nils (τ := (y_Any T))))) (by show 2 ≤ sizeLine; decide)))) (ev_call (cs__law_next T (by decide +kernel)) (eva_cons (ev_ref rfl) (eva_cons ev_int eva_nil))) h_156) (eva_conss (ev_castK (show CastO (yList yInt) (y_Any T) (fun x : (List Int) => ((mapO (fun x : Int => some (El.i x))) x).map Any.l) from (fun _ _ _ _ h e => by obtain ⟨z, hz, e⟩ := Option.map_eq_some_iff.mp e; subst e; exact (show CastO (yList yInt) (yList (y_El T)) (mapO (fun x : Int => some (El.i x))) from (cast_list (show CastO yInt (y_El T) (fun x : Int => some (El.i x)) from (fun _ _ _ _ h e => by have e := Option.some.inj e; subst e; exact h)))) _ _ _ _ h hz)) (ev_var (τ := (yList yInt)) rfl k_133) h_158) (eva_nils (τ := (y_Any T))))) (by show 2 ≤ sizeLine; decide))) (fun v Z1 H1 P1 hv => ?_)
              exact q v _ _ P1.st P1.m hv
            · replace P := P1
              have hB := ifF b_154 hF
              replace hF := hB
              clear hB
              refine st_next0 ?_
              replace k_133 := ((yList yInt)).mono e.z k_133
              refine st_seq (st_if P (et_cmp (ev_eq flat_int (ev_var (τ := yInt) rfl h_kind) ev_int)) (fun b_159 Z1 H1 e P1 => ?_) (fun b_159 Z1 H1 e P1 => ?_))
              · replace P := P1
                have hB := ifT b_159 hF
                replace hF := hB
                clear hB
                replace k_133 := ((yList yInt)).mono e.z k_133
                obtain ⟨u_160, h_161, hF⟩ := bind_inv hF
                obtain ⟨u_162, h_163, hF⟩ := bind_inv hF
                replace hF := Option.some.inj hF
                subst hF
                refine st_ret P (ev_fz (en_listD (eva_conss (ij_Any_i T (ev_var (τ := yInt) rfl k_135)) (eva_conss (ev_castK (show CastO (yList yInt) (y_Any T) (fun x : (List Int) => ((mapO (fun x : Int => some (El.i x))) x).map Any.l) from (fun _ _ _ _ h e => by obtain ⟨z, hz, e⟩ := Option.map_eq_some_iff.mp e; subst e; exact (show CastO (yList yInt) (yList (y_El T)) (mapO (fun x : Int => some (El.i x))) from (cast_list (show CastO yInt (y_El T) (fun x : Int => some (El.i x)) from (fun _ _ _ _ h e => by have e := Option.some.inj e; subst e; exact h)))) _ _ _ _ h hz)) (ev_var (τ := (yList yInt)) rfl k_133) h_161) (eva_conss (ev_castK (show CastO (yList yInt) (y_Any T) (fun x : (List Int) => ((mapO (fun x : Int => some (El.i x))) x).map Any.l) from (fun _ _ _ _ h e => by obtain ⟨z, hz, e⟩ := Option.map_eq_some_iff.mp e; subst e; exact (show CastO (yList yInt) (yList (y_El T)) (mapO (fun x : Int => some (El.i x))) from (cast_list (show CastO yInt (y_El T) (fun x : Int => some (El.i x)) from (fun _ _ _ _ h e => by have e := Option.some.inj e; subst e; exact h)))) _ _ _ _ h hz)) (ev_fz (en_listD (eva_conss (ev_var (τ := yInt) rfl k_135) (eva_nils (τ := yInt))) (by show 1 ≤ sizeLine; decide))) h_163) (eva_nils (τ := (y_Any T)))))) (by show 3 ≤ sizeLine; decide))) (fun v Z1 H1 P1 hv => ?_)
                exact q v _ _ P1.st P1.m hv
              · replace P := P1
                have hB := ifF b_159 hF
                replace hF := hB
                clear hB
                refine st_next0 ?_
                replace k_133 := ((yList yInt)).mono e.z k_133
                obtain ⟨u_164, h_165, hF⟩ := bind_inv hF
                obtain ⟨u_166, h_167, hF⟩ := bind_inv hF
                replace hF := Option.some.inj hF
                subst hF
                refine st_ret P (ev_fz (en_listD (eva_conss (ev_castK (show CastO (yList yInt) (y_Any T) (fun x : (List Int) => ((mapO (fun x : Int => some (El.i x))) x).map Any.l) from (fun _ _ _ _ h e => by obtain ⟨z, hz, e⟩ := Option.map_eq_some_iff.mp e; subst e; exact (show CastO (yList yInt) (yList (y_El T)) (mapO (fun x : Int => some (El.i x))) from (cast_list (show CastO yInt (y_El T) (fun x : Int => some (El.i x)) from (fun _ _ _ _ h e => by have e := Option.some.inj e; subst e; exact h)))) _ _ _ _ h hz)) (ev_var (τ := (yList yInt)) rfl k_133) h_165) (eva_conss (ev_castK (show CastO (yList yInt) (y_Any T) (fun x : (List Int) => ((mapO (fun x : Int => some (El.i x))) x).map Any.l) from (fun _ _ _ _ h e => by obtain ⟨z, hz, e⟩ := Option.map_eq_some_iff.mp e; subst e; exact (show CastO (yList yInt) (yList (y_El T)) (mapO (fun x : Int => some (El.i x))) from (cast_list (show CastO yInt (y_El T) (fun x : Int => some (El.i x)) from (fun _ _ _ _ h e => by have e := Option.some.inj e; subst e; exact h)))) _ _ _ _ h hz)) (ev_fz (en_listD (eva_conss (ev_var (τ := yInt) rfl k_135) (eva_conss (ev_add (ev_var (τ := yInt) rfl k_135) ev_int) (eva_nils (τ := yInt)))) (by show 2 ≤ sizeLine; decide))) h_167) (eva_nils (τ := (y_Any T))))) (by show 2 ≤ sizeLine; decide))) (fun v Z1 H1 P1 hv => ?_)
                exact q v _ _ P1.st P1.m hv
theorem cs_law_parts (T : Txt K mg) {st sc : Addr} {ds : DS} {E : XK} {x_kind : Int} {y : (List Any) × DS} (h : F_law_parts ds x_kind = some y) : CallS (muD st sc) (sp_law_parts T) E (rac (isRef st) (rac (ty yInt x_kind) ra0)) ds (ty (yList (y_Any T)) y.1) y.2 := by
  rintro Z H vs sz m ⟨_, _, rfl, rfl, ⟨v_kind, _, rfl, h_kind, rfl⟩⟩ Q q
  exact ⟨st, sc, Z, ds, v_kind, x_kind, y, rfl, sz, m, h_kind, h, fun v Z2 H2 s2 m2 hv => q v Z2 H2 s2 m2 hv⟩
theorem cu_law_parts (T : Txt K mg) {st sc : Addr} {ds : DS} {E : XK} {x_kind : Int} {y : (List Any) × DS} {μ : Type} {M : Mu μ} {s s2 : μ} (hm : ∀ Z H, M.m s Z H → (muD st sc).m ds Z H) (hf : ∀ a ∈ (muD st sc).fp, a ∈ M.fp) (hp : ∀ Z H Z' H', M.m s Z H → Step (muD st sc).fp Z H Z' H' → (muD st sc).m y.2 Z' H' → M.m s2 Z' H') (h : F_law_parts ds x_kind = some y) : CallS M (sp_law_parts T) E (rac (isRef st) (rac (ty yInt x_kind) ra0)) s (ty (yList (y_Any T)) y.1) s2 := by
  rintro Z H vs sz m ⟨_, _, rfl, rfl, ⟨v_kind, _, rfl, h_kind, rfl⟩⟩ Q q
  exact ⟨st, sc, Z, ds, v_kind, x_kind, y, rfl, sz, hm _ _ m, h_kind, h, fun v Z2 H2 st2 m2 hv => q v Z2 H2 (st2.weak fun a h => .inl (hf a h)) (hp _ _ _ _ m st2 m2) hv⟩
def sp_law_record (T : Txt K mg) : Sp := fun vs H Q _ => ∃ (Z0 : Hp) (v_parts : V) (x_parts : (List Any)) (y : Record), vs = [v_parts] ∧ (Same Z0 H) ∧ (((yList (y_Any T))).r Z0 v_parts x_parts) ∧ (F_law_record x_parts = some y) ∧ ∀ v Z' H', Step [] Z0 H Z' H' → ((y_Record T)).r Z' v y → Q v H'
set_option maxHeartbeats 4000000 in
theorem ok_law_record (T : Txt K mg) : FnOk P w K mg base CX0 3 T.f_law_record T.d_law_record ["parts"] (sp_law_record T) := by
  have G_Record___init__ : FnOk P w K mg base CX0 1 T.f_Record___init__ T.d_Record___init__ ["self", "name", "vector", "fields", "words"] (sp_Record___init__ T) := ok_Record___init__ T
  refine T.F_law_record.ok sc_law_record (fun vs H Q E h => ?_) (fun cdv A outer s H vs Q E hr h => ?_)
  · obtain ⟨Z0, v_parts, x_parts, y, rfl, _⟩ := h
    rfl
  · obtain ⟨Z0, v_parts, x_parts, y, rfl, sz, h_parts, hF, q⟩ := h
    refine ⟨_, (pss_one (ps_ret (pe_makeK T.mk_Record G_Record___init__ (hr.mono (by decide)) (by rfl) T.mc_Record T.kb_Record___init__ pass0 (pa_cons (pe_ix ix_list (pv 0) pe_int (fun _ _ => rfl)) (pa_cons (pe_callTy call_list_of (by rfl) T.m_list (by decide +kernel) (pa_cons (pe_ix ix_list (pv 0) pe_int (fun _ _ => rfl)) pa_nil)) pa_nil)) (pk_cons (pe_callTy call_list_of (by rfl) T.m_list (by decide +kernel) (pa_cons (pe_ix ix_list (pv 0) pe_int (fun _ _ => rfl)) pa_nil)) (pk_cons (pe_callTy call_list_of (by rfl) T.m_list (by decide +kernel) (pa_cons (pe_ix ix_list (pv 0) pe_int (fun _ _ => rfl)) pa_nil)) pk_nil))))), ?_⟩
    have P := Pt.start0 sz
    unfold F_law_record at hF
    obtain ⟨i_196, h_197, hF⟩ := bind_inv hF
    obtain ⟨u_198, h_199, hF⟩ := bind_inv hF
    obtain ⟨i_204, h_205, hF⟩ := bind_inv hF
    obtain ⟨u_206, h_207, hF⟩ := bind_inv hF
    obtain ⟨i_212, h_213, hF⟩ := bind_inv hF
    obtain ⟨u_214, h_215, hF⟩ := bind_inv hF
    obtain ⟨i_220, h_221, hF⟩ := bind_inv hF
    obtain ⟨u_222, h_223, hF⟩ := bind_inv hF
    replace hF := Option.some.inj hF
    subst hF
    refine st_ret P (ev_makeK (is_Record___init__ T) (eva_cons (pj_Any_s T (ev_ixL (ev_li (ev_var (τ := (yList (y_Any T))) rfl h_parts)) ev_int h_197) h_199) (eva_cons (ev_fz (en_list_of (fun _ _ _ h => h) (ev_li (ev_castK (show CastO (y_Any T) (yList yInt) (fun x : Any => (x.p_l).bind (mapO El.p_i)) from (fun _ _ x _ h e => by obtain ⟨z, hz, e⟩ := Option.bind_eq_some_iff.mp e; cases x <;> first | (have hz := Option.some.inj hz; subst hz; exact (show CastO (yList (y_El T)) (yList yInt) (mapO El.p_i) from (cast_list (show CastO (y_El T) yInt El.p_i from (fun _ _ x _ h e => by cases x <;> first | (have e := Option.some.inj e; subst e; exact h) | cases e)))) _ _ _ _ h e) | cases hz)) (ev_ixL (ev_li (ev_var (τ := (yList (y_Any T))) rfl h_parts)) ev_int h_205) h_207)))) eva_nil)) (eva_cons (ev_fz (en_list_of (fun _ _ _ h => h) (ev_li (ev_castK (show CastO (y_Any T) (yList (yP2 K yStr (y_Val T))) (fun x : Any => (x.p_l).bind (mapO El.p_w)) from (fun _ _ x _ h e => by obtain ⟨z, hz, e⟩ := Option.bind_eq_some_iff.mp e; cases x <;> first | (have hz := Option.some.inj hz; subst hz; exact (show CastO (yList (y_El T)) (yList (yP2 K yStr (y_Val T))) (mapO El.p_w) from (cast_list (show CastO (y_El T) (yP2 K yStr (y_Val T)) El.p_w from (fun _ _ x _ h e => by cases x <;> first | (have e := Option.some.inj e; subst e; exact h) | cases e)))) _ _ _ _ h e) | cases hz)) (ev_ixL (ev_li (ev_var (τ := (yList (y_Any T))) rfl h_parts)) ev_int h_213) h_215)))) (eva_cons (ev_seqL (ev_fz (en_list_of (fun _ _ _ h => h) (ev_li (ev_castK (show CastO (y_Any T) (yList (yP2 K yStr yInt)) (fun x : Any => (x.p_l).bind (mapO (fun x : El => (x.p_w).bind (fun x : (Str × Val) => ((some : Str → Option Str) x.1).bind fun a => (Val.p_i x.2).bind fun b => some (a, b))))) from (fun _ _ x _ h e => by obtain ⟨z, hz, e⟩ := Option.bind_eq_some_iff.mp e; cases x <;> first | (have hz := Option.some.inj hz; subst hz; exact (show CastO (yList (y_El T)) (yList (yP2 K yStr yInt)) (mapO (fun x : El => (x.p_w).bind (fun x : (Str × Val) => ((some : Str → Option Str) x.1).bind fun a => (Val.p_i x.2).bind fun b => some (a, b)))) from (cast_list (show CastO (y_El T) (yP2 K yStr yInt) (fun x : El => (x.p_w).bind (fun x : (Str × Val) => ((some : Str → Option Str) x.1).bind fun a => (Val.p_i x.2).bind fun b => some (a, b))) from (fun _ _ x _ h e => by obtain ⟨z, hz, e⟩ := Option.bind_eq_some_iff.mp e; cases x <;> first | (have hz := Option.some.inj hz; subst hz; exact (show CastO (yP2 K yStr (y_Val T)) (yP2 K yStr yInt) (fun x : (Str × Val) => ((some : Str → Option Str) x.1).bind fun a => (Val.p_i x.2).bind fun b => some (a, b)) from (cast_p2 (show CastO yStr yStr (some : Str → Option Str) from cast_id) (show CastO (y_Val T) yInt Val.p_i from (fun _ _ x _ h e => by cases x <;> first | (have e := Option.some.inj e; subst e; exact h) | cases e)))) _ _ _ _ h e) | cases hz)))) _ _ _ _ h e) | cases hz)) (ev_ixL (ev_li (ev_var (τ := (yList (y_Any T))) rfl h_parts)) ev_int h_221) h_223))))) eva_nil)) (fun Z H vs zs x hv hz => by
          obtain ⟨v0, _, rfl, hv0, ⟨v1, _, rfl, hv1, rfl⟩⟩ := hv
          obtain ⟨w0, _, rfl, hw0, ⟨w1, _, rfl, hw1, rfl⟩⟩ := hz
          exact ⟨rfl, rfl, _, rfl, ⟨v0, _, rfl, hv0, ⟨v1, _, rfl, hv1, ⟨w0, _, rfl, hw0, ⟨w1, _, rfl, hw1, rfl⟩⟩⟩⟩⟩)) (fun v Z1 H1 P1 hv => ?_)
    exact q v _ _ P1.st hv
theorem cs_law_record (T : Txt K mg) {μ : Type} {M : Mu μ} {s : μ} {E : XK} {x_parts : (List Any)} {y : Record} (h : F_law_record x_parts = some y) : CallS M (sp_law_record T) E (rac (ty (yList (y_Any T)) x_parts) ra0) s (ty (y_Record T) y) s := by
  rintro Z H vs sz m ⟨v_parts, _, rfl, h_parts, rfl⟩ Q q
  exact ⟨Z, v_parts, x_parts, y, rfl, sz, h_parts, h, fun v Z2 H2 st hv => q v Z2 H2 st.pure (M.pure st m) hv⟩
def sp_Query___init__ (T : Txt K mg) : Sp := fun vs H Q _ => ∃ (p dx : Addr) (Z0 : Hp) (v_vector : V) (v_near : V) (v_words : V) (v_text : V) (v_most : V) (x_vector : (List Int)) (x_near : Int) (x_words : (List (Str × Int))) (x_text : Str) (x_most : Int), vs = [.ref p, v_vector, v_near, v_words, v_text, v_most] ∧ (Same Z0 H) ∧ (H p = some (.ins T.c_Query dx [])) ∧ (Z0 p = none) ∧ (((yList yInt)).r Z0 v_vector x_vector) ∧ ((yInt).r Z0 v_near x_near) ∧ (((yList (yP2 K yStr yInt))).r Z0 v_words x_words) ∧ ((yStr).r Z0 v_text x_text) ∧ ((yInt).r Z0 v_most x_most) ∧ ∀ Z' H' o, Step [p] Z0 H Z' H' → H' p = some o → (y_Query T).r (upd Z' p o) (.ref p) (F_Query___init__ x_vector x_near x_words x_text x_most) → Q .non H'
set_option maxHeartbeats 4000000 in
theorem ok_Query___init__ (T : Txt K mg) : FnOk P w K mg base CX0 1 T.f_Query___init__ T.d_Query___init__ ["self", "vector", "near", "words", "text", "most"] (sp_Query___init__ T) := by
  refine T.F_Query___init__.ok sc_Query___init__ (fun vs H Q E h => ?_) (fun cdv A outer s H vs Q E hr h => ?_)
  · obtain ⟨p, dx, Z0, v_vector, v_near, v_words, v_text, v_most, x_vector, x_near, x_words, x_text, x_most, rfl, _⟩ := h
    rfl
  · obtain ⟨p, dx, Z0, v_vector, v_near, v_words, v_text, v_most, x_vector, x_near, x_words, x_text, x_most, rfl, sz, hself, zself, h_vector, h_near, h_words, h_text, h_most, q⟩ := h
    refine ⟨_, PSs.nox (pss_cons (ps_fld (pv 0) (pe_callTy call_tuple_of (by rfl) T.m_tuple (by decide +kernel) (pa_cons (pv 1) pa_nil)) rfl) 
      (pss_cons (ps_fld (pv 0) (pv 2) rfl) 
      (pss_cons (ps_fld (pv 0) (pe_callTy call_tuple_of (by rfl) T.m_tuple (by decide +kernel) (pa_cons (pe_lc (own := [("pair", 6)]) (g := gName 6) rfl sc_Query___init__.nd (pi_list (pv 3)) (blkOk_by (own := [("pair", 6)]) (N := ["self", "vector", "near", "words", "text", "most", "pair"]) (sc := defScope s_Query___init__) (by decide +kernel)) (fun _ _ _ _ _ => (pg_name (i := 6) sc_Query___init__.nd rfl (Or.inl rfl))) (fun _ _ _ _ _ => pts_nil) (fun _ _ _ _ _ => (pe_callTy (r := rTupleB K) (by exact call_tuple_of) (by rfl) T.m_tuple (by decide +kernel) (pa_cons (pv 6) pa_nil)))) pa_nil)) rfl) 
      (pss_cons (ps_fld (pv 0) (pv 4) rfl) 
      (pss_one (ps_fld (pv 0) (pv 5) rfl)))))), ?_⟩
    have P : Pt [p] Z0 H muN Z0 H () := ⟨Step.refl sz, trivial, fun _ h => (nomatch h)⟩
    generalize hF : F_Query___init__ x_vector x_near x_words x_text x_most = y at q
    unfold F_Query___init__ at hF
    refine st_seq (st_fld (x := x_vector) (τ := (yTup K yInt)) P hself zself List.not_mem_nil (.inl List.mem_cons_self) rfl (ev_tuple_of (fun _ _ _ h => h) (ev_li (ev_var (τ := (yList yInt)) rfl h_vector))) T.cl_Query T.n_Query_vector (Nat.lt_of_le_of_lt (Nat.le_refl 0) (by decide)) (fun v_224 Z1 H1 e P1 k_225 hself1 zself1 => ?_))
    refine st_nx ?_
    replace P := P1
    replace hself := hself1
    replace zself := zself1
    replace h_words := ((yList (yP2 K yStr yInt))).mono e.z h_words
    refine st_seq (st_fld (x := x_near) (τ := yInt) P hself zself List.not_mem_nil (.inl List.mem_cons_self) rfl (ev_var (τ := yInt) rfl h_near) T.cl_Query T.n_Query_near (Nat.lt_of_le_of_lt (putF_le (Nat.le_refl 0)) (by decide)) (fun v_226 Z1 H1 e P1 k_227 hself1 zself1 => ?_))
    refine st_nx ?_
    replace P := P1
    replace hself := hself1
    replace zself := zself1
    replace h_words := ((yList (yP2 K yStr yInt))).mono e.z h_words
    replace k_225 := ((yTup K yInt)).mono e.z k_225
    refine st_seq (st_fld (x := x_words) (τ := (yTup K (yP2 K yStr yInt))) P hself zself List.not_mem_nil (.inl List.mem_cons_self) rfl (ev_tuple_of (fun _ _ _ h => h) (ev_li (ev_fz (en_cast (en_map (fun x => x) (ei_list (ev_var (τ := (yList (yP2 K yStr yInt))) rfl h_words)) (fun x_231 v_232 Z' H' zz hh rx_233 => by
          exact ⟨_, tgt_name, (wpe_s wpe_z (by decide)), (ev_tuple_id (fun _ _ _ h => h) it_p2 (ev_var (τ := (yP2 K yStr yInt)) rfl rx_233))⟩)) (List.map_id' _))))) T.cl_Query T.n_Query_words (Nat.lt_of_le_of_lt (putF_le (putF_le (Nat.le_refl 0))) (by decide)) (fun v_234 Z1 H1 e P1 k_235 hself1 zself1 => ?_))
    refine st_nx ?_
    replace P := P1
    replace hself := hself1
    replace zself := zself1
    replace k_225 := ((yTup K yInt)).mono e.z k_225
    refine st_seq (st_fld (x := x_text) (τ := yStr) P hself zself List.not_mem_nil (.inl List.mem_cons_self) rfl (ev_var (τ := yStr) rfl h_text) T.cl_Query T.n_Query_text (Nat.lt_of_le_of_lt (putF_le (putF_le (putF_le (Nat.le_refl 0)))) (by decide)) (fun v_236 Z1 H1 e P1 k_237 hself1 zself1 => ?_))
    refine st_nx ?_
    replace P := P1
    replace hself := hself1
    replace zself := zself1
    replace k_225 := ((yTup K yInt)).mono e.z k_225
    replace k_235 := ((yTup K (yP2 K yStr yInt))).mono e.z k_235
    refine st_fld (x := x_most) (τ := yInt) P hself zself List.not_mem_nil (.inl List.mem_cons_self) rfl (ev_var (τ := yInt) rfl h_most) T.cl_Query T.n_Query_most (Nat.lt_of_le_of_lt (putF_le (putF_le (putF_le (putF_le (Nat.le_refl 0))))) (by decide)) (fun v_238 Z1 H1 e P1 k_239 hself1 zself1 => ?_)
    replace P := P1
    replace hself := hself1
    replace zself := zself1
    replace k_225 := ((yTup K yInt)).mono e.z k_225
    replace k_235 := ((yTup K (yP2 K yStr yInt))).mono e.z k_235
    subst hF
    exact q _ _ _ P.st hself ⟨p, dx, v_224, v_226, v_234, v_236, v_238, rfl, upd_same, ((yTup K yInt)).mono (same_upd zself) k_225, k_227, ((yTup K (yP2 K yStr yInt))).mono (same_upd zself) k_235, k_237, k_239⟩
theorem is_Query___init__ (T : Txt K mg) {μ : Type} {M : Mu μ} {s : μ} {E : XK} {x_vector : (List Int)} {x_near : Int} {x_words : (List (Str × Int))} {x_text : Str} {x_most : Int} : InitS M T.c_Query (sp_Query___init__ T) E (rac (ty (yList yInt) x_vector) (rac (ty yInt x_near) (rac (ty (yList (yP2 K yStr yInt)) x_words) (rac (ty yStr x_text) (rac (ty yInt x_most) ra0))))) s (ty (y_Query T) (F_Query___init__ x_vector x_near x_words x_text x_most)) s := by
  rintro Z H vs x dx sz m ⟨v_vector, _, rfl, h_vector, ⟨v_near, _, rfl, h_near, ⟨v_words, _, rfl, h_words, ⟨v_text, _, rfl, h_text, ⟨v_most, _, rfl, h_most, rfl⟩⟩⟩⟩⟩ hx zx nx Q q
  exact ⟨x, dx, Z, v_vector, v_near, v_words, v_text, v_most, x_vector, x_near, x_words, x_text, x_most, rfl, sz, hx, zx, h_vector, h_near, h_words, h_text, h_most, fun Z2 H2 o st ho hr => q Z2 H2 o (st.weak fun a h => by rw [List.mem_singleton] at h; rw [h]; exact .inl List.mem_cons_self) (Mu.away st nx m) ho hr⟩
def sp_law_query (T : Txt K mg) : Sp := fun vs H Q _ => ∃ (Z0 : Hp) (v_parts : V) (x_parts : (List Any)) (y : Query), vs = [v_parts] ∧ (Same Z0 H) ∧ (((yList (y_Any T))).r Z0 v_parts x_parts) ∧ (F_law_query x_parts = some y) ∧ ∀ v Z' H', Step [] Z0 H Z' H' → ((y_Query T)).r Z' v y → Q v H'
set_option maxHeartbeats 4000000 in
theorem ok_law_query (T : Txt K mg) : FnOk P w K mg base CX0 3 T.f_law_query T.d_law_query ["parts"] (sp_law_query T) := by
  have G_Query___init__ : FnOk P w K mg base CX0 1 T.f_Query___init__ T.d_Query___init__ ["self", "vector", "near", "words", "text", "most"] (sp_Query___init__ T) := ok_Query___init__ T
  refine T.F_law_query.ok sc_law_query (fun vs H Q E h => ?_) (fun cdv A outer s H vs Q E hr h => ?_)
  · obtain ⟨Z0, v_parts, x_parts, y, rfl, _⟩ := h
    rfl
  · obtain ⟨Z0, v_parts, x_parts, y, rfl, sz, h_parts, hF, q⟩ := h
    refine ⟨_, (pss_one (ps_ret (pe_makeK T.mk_Query G_Query___init__ (hr.mono (by decide)) (by rfl) T.mc_Query T.kb_Query___init__ pass0 (pa_cons (pe_callTy call_list_of (by rfl) T.m_list (by decide +kernel) (pa_cons (pe_ix ix_list (pv 0) pe_int (fun _ _ => rfl)) pa_nil)) pa_nil) (pk_cons (pe_ix ix_list (pv 0) pe_int (fun _ _ => rfl)) (pk_cons (pe_callTy call_list_of (by rfl) T.m_list (by decide +kernel) (pa_cons (pe_ix ix_list (pv 0) pe_int (fun _ _ => rfl)) pa_nil)) (pk_cons (pe_ix ix_list (pv 0) pe_int (fun _ _ => rfl)) (pk_cons (pe_ix ix_list (pv 0) pe_int (fun _ _ => rfl)) pk_nil))))))), ?_⟩
    have P := Pt.start0 sz
    unfold F_law_query at hF
    obtain ⟨i_272, h_273, hF⟩ := bind_inv hF
    obtain ⟨u_274, h_275, hF⟩ := bind_inv hF
    obtain ⟨i_276, h_277, hF⟩ := bind_inv hF
    obtain ⟨u_278, h_279, hF⟩ := bind_inv hF
    obtain ⟨i_284, h_285, hF⟩ := bind_inv hF
    obtain ⟨u_286, h_287, hF⟩ := bind_inv hF
    obtain ⟨i_288, h_289, hF⟩ := bind_inv hF
    obtain ⟨u_290, h_291, hF⟩ := bind_inv hF
    obtain ⟨i_292, h_293, hF⟩ := bind_inv hF
    obtain ⟨u_294, h_295, hF⟩ := bind_inv hF
    replace hF := Option.some.inj hF
    subst hF
    refine st_ret P (ev_makeK (is_Query___init__ T) (eva_cons (ev_fz (en_list_of (fun _ _ _ h => h) (ev_li (ev_castK (show CastO (y_Any T) (yList yInt) (fun x : Any => (x.p_l).bind (mapO El.p_i)) from (fun _ _ x _ h e => by obtain ⟨z, hz, e⟩ := Option.bind_eq_some_iff.mp e; cases x <;> first | (have hz := Option.some.inj hz; subst hz; exact (show CastO (yList (y_El T)) (yList yInt) (mapO El.p_i) from (cast_list (show CastO (y_El T) yInt El.p_i from (fun _ _ x _ h e => by cases x <;> first | (have e := Option.some.inj e; subst e; exact h) | cases e)))) _ _ _ _ h e) | cases hz)) (ev_ixL (ev_li (ev_var (τ := (yList (y_Any T))) rfl h_parts)) ev_int h_273) h_275)))) eva_nil) (eva_cons (pj_Any_i T (ev_ixL (ev_li (ev_var (τ := (yList (y_Any T))) rfl h_parts)) ev_int h_277) h_279) (eva_cons (ev_fz (en_list_of (fun _ _ _ h => h) (ev_li (ev_castK (show CastO (y_Any T) (yList (yP2 K yStr yInt)) (fun x : Any => (x.p_l).bind (mapO (fun x : El => (x.p_w).bind (fun x : (Str × Val) => ((some : Str → Option Str) x.1).bind fun a => (Val.p_i x.2).bind fun b => some (a, b))))) from (fun _ _ x _ h e => by obtain ⟨z, hz, e⟩ := Option.bind_eq_some_iff.mp e; cases x <;> first | (have hz := Option.some.inj hz; subst hz; exact (show CastO (yList (y_El T)) (yList (yP2 K yStr yInt)) (mapO (fun x : El => (x.p_w).bind (fun x : (Str × Val) => ((some : Str → Option Str) x.1).bind fun a => (Val.p_i x.2).bind fun b => some (a, b)))) from (cast_list (show CastO (y_El T) (yP2 K yStr yInt) (fun x : El => (x.p_w).bind (fun x : (Str × Val) => ((some : Str → Option Str) x.1).bind fun a => (Val.p_i x.2).bind fun b => some (a, b))) from (fun _ _ x _ h e => by obtain ⟨z, hz, e⟩ := Option.bind_eq_some_iff.mp e; cases x <;> first | (have hz := Option.some.inj hz; subst hz; exact (show CastO (yP2 K yStr (y_Val T)) (yP2 K yStr yInt) (fun x : (Str × Val) => ((some : Str → Option Str) x.1).bind fun a => (Val.p_i x.2).bind fun b => some (a, b)) from (cast_p2 (show CastO yStr yStr (some : Str → Option Str) from cast_id) (show CastO (y_Val T) yInt Val.p_i from (fun _ _ x _ h e => by cases x <;> first | (have e := Option.some.inj e; subst e; exact h) | cases e)))) _ _ _ _ h e) | cases hz)))) _ _ _ _ h e) | cases hz)) (ev_ixL (ev_li (ev_var (τ := (yList (y_Any T))) rfl h_parts)) ev_int h_285) h_287)))) (eva_cons (pj_Any_s T (ev_ixL (ev_li (ev_var (τ := (yList (y_Any T))) rfl h_parts)) ev_int h_289) h_291) (eva_cons (pj_Any_i T (ev_ixL (ev_li (ev_var (τ := (yList (y_Any T))) rfl h_parts)) ev_int h_293) h_295) eva_nil)))) (fun Z H vs zs x hv hz => by
          obtain ⟨v0, _, rfl, hv0, rfl⟩ := hv
          obtain ⟨w0, _, rfl, hw0, ⟨w1, _, rfl, hw1, ⟨w2, _, rfl, hw2, ⟨w3, _, rfl, hw3, rfl⟩⟩⟩⟩ := hz
          exact ⟨rfl, rfl, _, rfl, ⟨v0, _, rfl, hv0, ⟨w0, _, rfl, hw0, ⟨w1, _, rfl, hw1, ⟨w2, _, rfl, hw2, ⟨w3, _, rfl, hw3, rfl⟩⟩⟩⟩⟩⟩)) (fun v Z1 H1 P1 hv => ?_)
    exact q v _ _ P1.st hv
theorem cs_law_query (T : Txt K mg) {μ : Type} {M : Mu μ} {s : μ} {E : XK} {x_parts : (List Any)} {y : Query} (h : F_law_query x_parts = some y) : CallS M (sp_law_query T) E (rac (ty (yList (y_Any T)) x_parts) ra0) s (ty (y_Query T) y) s := by
  rintro Z H vs sz m ⟨v_parts, _, rfl, h_parts, rfl⟩ Q q
  exact ⟨Z, v_parts, x_parts, y, rfl, sz, h_parts, h, fun v Z2 H2 st hv => q v Z2 H2 st.pure (M.pure st m) hv⟩
def sp_Part___init__ (T : Txt K mg) : Sp := fun vs H Q _ => ∃ (p dx : Addr) (Z0 : Hp) (v_start : V) (v_centre : V) (v_radius : V) (x_start : Int) (x_centre : (List Int)) (x_radius : Int), vs = [.ref p, v_start, v_centre, v_radius] ∧ (Same Z0 H) ∧ (H p = some (.ins T.c_Part dx [])) ∧ (Z0 p = none) ∧ ((yInt).r Z0 v_start x_start) ∧ (((yList yInt)).r Z0 v_centre x_centre) ∧ ((yInt).r Z0 v_radius x_radius) ∧ ∀ Z' H' o, Step [p] Z0 H Z' H' → H' p = some o → (y_Part T).r (upd Z' p o) (.ref p) (F_Part___init__ x_start x_centre x_radius) → Q .non H'
set_option maxHeartbeats 4000000 in
theorem ok_Part___init__ (T : Txt K mg) : FnOk P w K mg base CX0 1 T.f_Part___init__ T.d_Part___init__ ["self", "start", "centre", "radius"] (sp_Part___init__ T) := by
  refine T.F_Part___init__.ok sc_Part___init__ (fun vs H Q E h => ?_) (fun cdv A outer s H vs Q E hr h => ?_)
  · obtain ⟨p, dx, Z0, v_start, v_centre, v_radius, x_start, x_centre, x_radius, rfl, _⟩ := h
    rfl
  · obtain ⟨p, dx, Z0, v_start, v_centre, v_radius, x_start, x_centre, x_radius, rfl, sz, hself, zself, h_start, h_centre, h_radius, q⟩ := h
    refine ⟨_, (pss_cons (ps_fld (pv 0) (pv 1) rfl) 
      (pss_cons (ps_fld (pv 0) (pe_callTy call_tuple_of (by rfl) T.m_tuple (by decide +kernel) (pa_cons (pv 2) pa_nil)) rfl) 
      (pss_one (ps_fld (pv 0) (pv 3) rfl)))), ?_⟩
    have P : Pt [p] Z0 H muN Z0 H () := ⟨Step.refl sz, trivial, fun _ h => (nomatch h)⟩
    generalize hF : F_Part___init__ x_start x_centre x_radius = y at q
    unfold F_Part___init__ at hF
    refine st_seq (st_fld (x := x_start) (τ := yInt) P hself zself List.not_mem_nil (.inl List.mem_cons_self) rfl (ev_var (τ := yInt) rfl h_start) T.cl_Part T.n_Part_start (Nat.lt_of_le_of_lt (Nat.le_refl 0) (by decide)) (fun v_296 Z1 H1 e P1 k_297 hself1 zself1 => ?_))
    refine st_nx ?_
    replace P := P1
    replace hself := hself1
    replace zself := zself1
    replace h_centre := ((yList yInt)).mono e.z h_centre
    refine st_seq (st_fld (x := x_centre) (τ := (yTup K yInt)) P hself zself List.not_mem_nil (.inl List.mem_cons_self) rfl (ev_tuple_of (fun _ _ _ h => h) (ev_li (ev_var (τ := (yList yInt)) rfl h_centre))) T.cl_Part T.n_Part_centre (Nat.lt_of_le_of_lt (putF_le (Nat.le_refl 0)) (by decide)) (fun v_298 Z1 H1 e P1 k_299 hself1 zself1 => ?_))
    refine st_nx ?_
    replace P := P1
    replace hself := hself1
    replace zself := zself1
    refine st_fld (x := x_radius) (τ := yInt) P hself zself List.not_mem_nil (.inl List.mem_cons_self) rfl (ev_var (τ := yInt) rfl h_radius) T.cl_Part T.n_Part_radius (Nat.lt_of_le_of_lt (putF_le (putF_le (Nat.le_refl 0))) (by decide)) (fun v_300 Z1 H1 e P1 k_301 hself1 zself1 => ?_)
    replace P := P1
    replace hself := hself1
    replace zself := zself1
    replace k_299 := ((yTup K yInt)).mono e.z k_299
    subst hF
    exact q _ _ _ P.st hself ⟨p, dx, v_296, v_298, v_300, rfl, upd_same, k_297, ((yTup K yInt)).mono (same_upd zself) k_299, k_301⟩
theorem is_Part___init__ (T : Txt K mg) {μ : Type} {M : Mu μ} {s : μ} {E : XK} {x_start : Int} {x_centre : (List Int)} {x_radius : Int} : InitS M T.c_Part (sp_Part___init__ T) E (rac (ty yInt x_start) (rac (ty (yList yInt) x_centre) (rac (ty yInt x_radius) ra0))) s (ty (y_Part T) (F_Part___init__ x_start x_centre x_radius)) s := by
  rintro Z H vs x dx sz m ⟨v_start, _, rfl, h_start, ⟨v_centre, _, rfl, h_centre, ⟨v_radius, _, rfl, h_radius, rfl⟩⟩⟩ hx zx nx Q q
  exact ⟨x, dx, Z, v_start, v_centre, v_radius, x_start, x_centre, x_radius, rfl, sz, hx, zx, h_start, h_centre, h_radius, fun Z2 H2 o st ho hr => q Z2 H2 o (st.weak fun a h => by rw [List.mem_singleton] at h; rw [h]; exact .inl List.mem_cons_self) (Mu.away st nx m) ho hr⟩
def sp_Bound___init__ (T : Txt K mg) : Sp := fun vs H Q _ => ∃ (p dx : Addr) (Z0 : Hp) (v_cost : V) (v_name : V) (v_can : V) (x_cost : (Option Int)) (x_name : Str) (x_can : Bool), vs = [.ref p, v_cost, v_name, v_can] ∧ (Same Z0 H) ∧ (H p = some (.ins T.c_Bound dx [])) ∧ (Z0 p = none) ∧ (((yOpt yInt)).r Z0 v_cost x_cost) ∧ ((yStr).r Z0 v_name x_name) ∧ ((yBool).r Z0 v_can x_can) ∧ ∀ Z' H' o, Step [p] Z0 H Z' H' → H' p = some o → (y_Bound T).r (upd Z' p o) (.ref p) (F_Bound___init__ x_cost x_name x_can) → Q .non H'
set_option maxHeartbeats 4000000 in
theorem ok_Bound___init__ (T : Txt K mg) : FnOk P w K mg base CX0 1 T.f_Bound___init__ T.d_Bound___init__ ["self", "cost", "name", "can"] (sp_Bound___init__ T) := by
  refine T.F_Bound___init__.ok sc_Bound___init__ (fun vs H Q E h => ?_) (fun cdv A outer s H vs Q E hr h => ?_)
  · obtain ⟨p, dx, Z0, v_cost, v_name, v_can, x_cost, x_name, x_can, rfl, _⟩ := h
    rfl
  · obtain ⟨p, dx, Z0, v_cost, v_name, v_can, x_cost, x_name, x_can, rfl, sz, hself, zself, h_cost, h_name, h_can, q⟩ := h
    refine ⟨_, (pss_cons (ps_fld (pv 0) (pv 1) rfl) 
      (pss_cons (ps_fld (pv 0) (pv 2) rfl) 
      (pss_one (ps_fld (pv 0) (pv 3) rfl)))), ?_⟩
    have P : Pt [p] Z0 H muN Z0 H () := ⟨Step.refl sz, trivial, fun _ h => (nomatch h)⟩
    generalize hF : F_Bound___init__ x_cost x_name x_can = y at q
    unfold F_Bound___init__ at hF
    refine st_seq (st_fld (x := x_cost) (τ := (yOpt yInt)) P hself zself List.not_mem_nil (.inl List.mem_cons_self) rfl (ev_var (τ := (yOpt yInt)) rfl h_cost) T.cl_Bound T.n_Bound_cost (Nat.lt_of_le_of_lt (Nat.le_refl 0) (by decide)) (fun v_302 Z1 H1 e P1 k_303 hself1 zself1 => ?_))
    refine st_nx ?_
    replace P := P1
    replace hself := hself1
    replace zself := zself1
    refine st_seq (st_fld (x := x_name) (τ := yStr) P hself zself List.not_mem_nil (.inl List.mem_cons_self) rfl (ev_var (τ := yStr) rfl h_name) T.cl_Bound T.n_Bound_name (Nat.lt_of_le_of_lt (putF_le (Nat.le_refl 0)) (by decide)) (fun v_304 Z1 H1 e P1 k_305 hself1 zself1 => ?_))
    refine st_nx ?_
    replace P := P1
    replace hself := hself1
    replace zself := zself1
    replace k_303 := ((yOpt yInt)).mono e.z k_303
    refine st_fld (x := x_can) (τ := yBool) P hself zself List.not_mem_nil (.inl List.mem_cons_self) rfl (ev_var (τ := yBool) rfl h_can) T.cl_Bound T.n_Bound_can (Nat.lt_of_le_of_lt (putF_le (putF_le (Nat.le_refl 0))) (by decide)) (fun v_306 Z1 H1 e P1 k_307 hself1 zself1 => ?_)
    replace P := P1
    replace hself := hself1
    replace zself := zself1
    replace k_303 := ((yOpt yInt)).mono e.z k_303
    subst hF
    exact q _ _ _ P.st hself ⟨p, dx, v_302, v_304, v_306, rfl, upd_same, ((yOpt yInt)).mono (same_upd zself) k_303, k_305, k_307⟩
theorem is_Bound___init__ (T : Txt K mg) {μ : Type} {M : Mu μ} {s : μ} {E : XK} {x_cost : (Option Int)} {x_name : Str} {x_can : Bool} : InitS M T.c_Bound (sp_Bound___init__ T) E (rac (ty (yOpt yInt) x_cost) (rac (ty yStr x_name) (rac (ty yBool x_can) ra0))) s (ty (y_Bound T) (F_Bound___init__ x_cost x_name x_can)) s := by
  rintro Z H vs x dx sz m ⟨v_cost, _, rfl, h_cost, ⟨v_name, _, rfl, h_name, ⟨v_can, _, rfl, h_can, rfl⟩⟩⟩ hx zx nx Q q
  exact ⟨x, dx, Z, v_cost, v_name, v_can, x_cost, x_name, x_can, rfl, sz, hx, zx, h_cost, h_name, h_can, fun Z2 H2 o st ho hr => q Z2 H2 o (st.weak fun a h => by rw [List.mem_singleton] at h; rw [h]; exact .inl List.mem_cons_self) (Mu.away st nx m) ho hr⟩
def sp_Norms___init__ (T : Txt K mg) : Sp := fun vs H Q _ => ∃ (p dx : Addr) (Z0 : Hp) (v_low : V) (v_high : V) (x_low : Int) (x_high : Int), vs = [.ref p, v_low, v_high] ∧ (Same Z0 H) ∧ (H p = some (.ins T.c_Norms dx [])) ∧ (Z0 p = none) ∧ ((yInt).r Z0 v_low x_low) ∧ ((yInt).r Z0 v_high x_high) ∧ ∀ Z' H' o, Step [p] Z0 H Z' H' → H' p = some o → (y_Norms T).r (upd Z' p o) (.ref p) (F_Norms___init__ x_low x_high) → Q .non H'
set_option maxHeartbeats 4000000 in
theorem ok_Norms___init__ (T : Txt K mg) : FnOk P w K mg base CX0 1 T.f_Norms___init__ T.d_Norms___init__ ["self", "low", "high"] (sp_Norms___init__ T) := by
  refine T.F_Norms___init__.ok sc_Norms___init__ (fun vs H Q E h => ?_) (fun cdv A outer s H vs Q E hr h => ?_)
  · obtain ⟨p, dx, Z0, v_low, v_high, x_low, x_high, rfl, _⟩ := h
    rfl
  · obtain ⟨p, dx, Z0, v_low, v_high, x_low, x_high, rfl, sz, hself, zself, h_low, h_high, q⟩ := h
    refine ⟨_, (pss_cons (ps_fld (pv 0) (pv 1) rfl) 
      (pss_one (ps_fld (pv 0) (pv 2) rfl))), ?_⟩
    have P : Pt [p] Z0 H muN Z0 H () := ⟨Step.refl sz, trivial, fun _ h => (nomatch h)⟩
    generalize hF : F_Norms___init__ x_low x_high = y at q
    unfold F_Norms___init__ at hF
    refine st_seq (st_fld (x := x_low) (τ := yInt) P hself zself List.not_mem_nil (.inl List.mem_cons_self) rfl (ev_var (τ := yInt) rfl h_low) T.cl_Norms T.n_Norms_low (Nat.lt_of_le_of_lt (Nat.le_refl 0) (by decide)) (fun v_308 Z1 H1 e P1 k_309 hself1 zself1 => ?_))
    refine st_nx ?_
    replace P := P1
    replace hself := hself1
    replace zself := zself1
    refine st_fld (x := x_high) (τ := yInt) P hself zself List.not_mem_nil (.inl List.mem_cons_self) rfl (ev_var (τ := yInt) rfl h_high) T.cl_Norms T.n_Norms_high (Nat.lt_of_le_of_lt (putF_le (Nat.le_refl 0)) (by decide)) (fun v_310 Z1 H1 e P1 k_311 hself1 zself1 => ?_)
    replace P := P1
    replace hself := hself1
    replace zself := zself1
    subst hF
    exact q _ _ _ P.st hself ⟨p, dx, v_308, v_310, rfl, upd_same, k_309, k_311⟩
theorem is_Norms___init__ (T : Txt K mg) {μ : Type} {M : Mu μ} {s : μ} {E : XK} {x_low : Int} {x_high : Int} : InitS M T.c_Norms (sp_Norms___init__ T) E (rac (ty yInt x_low) (rac (ty yInt x_high) ra0)) s (ty (y_Norms T) (F_Norms___init__ x_low x_high)) s := by
  rintro Z H vs x dx sz m ⟨v_low, _, rfl, h_low, ⟨v_high, _, rfl, h_high, rfl⟩⟩ hx zx nx Q q
  exact ⟨x, dx, Z, v_low, v_high, x_low, x_high, rfl, sz, hx, zx, h_low, h_high, fun Z2 H2 o st ho hr => q Z2 H2 o (st.weak fun a h => by rw [List.mem_singleton] at h; rw [h]; exact .inl List.mem_cons_self) (Mu.away st nx m) ho hr⟩
def sp_Region___init__ (T : Txt K mg) : Sp := fun vs H Q _ => ∃ (p dx : Addr) (Z0 : Hp) (v_parent : V) (v_facts : V) (x_parent : (Option Int)) (x_facts : (List Norms)), vs = [.ref p, v_parent, v_facts] ∧ (Same Z0 H) ∧ (H p = some (.ins T.c_Region dx [])) ∧ (Z0 p = none) ∧ (((yOpt yInt)).r Z0 v_parent x_parent) ∧ (((yList (y_Norms T))).r Z0 v_facts x_facts) ∧ ∀ Z' H' o, Step [p] Z0 H Z' H' → H' p = some o → (y_Region T).r (upd Z' p o) (.ref p) (F_Region___init__ x_parent x_facts) → Q .non H'
set_option maxHeartbeats 4000000 in
theorem ok_Region___init__ (T : Txt K mg) : FnOk P w K mg base CX0 1 T.f_Region___init__ T.d_Region___init__ ["self", "parent", "facts"] (sp_Region___init__ T) := by
  refine T.F_Region___init__.ok sc_Region___init__ (fun vs H Q E h => ?_) (fun cdv A outer s H vs Q E hr h => ?_)
  · obtain ⟨p, dx, Z0, v_parent, v_facts, x_parent, x_facts, rfl, _⟩ := h
    rfl
  · obtain ⟨p, dx, Z0, v_parent, v_facts, x_parent, x_facts, rfl, sz, hself, zself, h_parent, h_facts, q⟩ := h
    refine ⟨_, (pss_cons (ps_fld (pv 0) (pv 1) rfl) 
      (pss_one (ps_fld (pv 0) (pe_callTy call_tuple_of (by rfl) T.m_tuple (by decide +kernel) (pa_cons (pv 2) pa_nil)) rfl))), ?_⟩
    have P : Pt [p] Z0 H muN Z0 H () := ⟨Step.refl sz, trivial, fun _ h => (nomatch h)⟩
    generalize hF : F_Region___init__ x_parent x_facts = y at q
    unfold F_Region___init__ at hF
    refine st_seq (st_fld (x := x_parent) (τ := (yOpt yInt)) P hself zself List.not_mem_nil (.inl List.mem_cons_self) rfl (ev_var (τ := (yOpt yInt)) rfl h_parent) T.cl_Region T.n_Region_parent (Nat.lt_of_le_of_lt (Nat.le_refl 0) (by decide)) (fun v_312 Z1 H1 e P1 k_313 hself1 zself1 => ?_))
    refine st_nx ?_
    replace P := P1
    replace hself := hself1
    replace zself := zself1
    replace h_facts := ((yList (y_Norms T))).mono e.z h_facts
    refine st_fld (x := x_facts) (τ := (yTup K (y_Norms T))) P hself zself List.not_mem_nil (.inl List.mem_cons_self) rfl (ev_tuple_of (fun _ _ _ h => h) (ev_li (ev_var (τ := (yList (y_Norms T))) rfl h_facts))) T.cl_Region T.n_Region_facts (Nat.lt_of_le_of_lt (putF_le (Nat.le_refl 0)) (by decide)) (fun v_314 Z1 H1 e P1 k_315 hself1 zself1 => ?_)
    replace P := P1
    replace hself := hself1
    replace zself := zself1
    replace k_313 := ((yOpt yInt)).mono e.z k_313
    subst hF
    exact q _ _ _ P.st hself ⟨p, dx, v_312, v_314, rfl, upd_same, ((yOpt yInt)).mono (same_upd zself) k_313, ((yTup K (y_Norms T))).mono (same_upd zself) k_315⟩
theorem is_Region___init__ (T : Txt K mg) {μ : Type} {M : Mu μ} {s : μ} {E : XK} {x_parent : (Option Int)} {x_facts : (List Norms)} : InitS M T.c_Region (sp_Region___init__ T) E (rac (ty (yOpt yInt) x_parent) (rac (ty (yList (y_Norms T)) x_facts) ra0)) s (ty (y_Region T) (F_Region___init__ x_parent x_facts)) s := by
  rintro Z H vs x dx sz m ⟨v_parent, _, rfl, h_parent, ⟨v_facts, _, rfl, h_facts, rfl⟩⟩ hx zx nx Q q
  exact ⟨x, dx, Z, v_parent, v_facts, x_parent, x_facts, rfl, sz, hx, zx, h_parent, h_facts, fun Z2 H2 o st ho hr => q Z2 H2 o (st.weak fun a h => by rw [List.mem_singleton] at h; rw [h]; exact .inl List.mem_cons_self) (Mu.away st nx m) ho hr⟩
def sp_Entry___init__ (T : Txt K mg) : Sp := fun vs H Q _ => ∃ (p dx : Addr) (Z0 : Hp) (v_number : V) (v_record : V) (v_leaves : V) (x_number : Int) (x_record : Record) (x_leaves : (List Int)), vs = [.ref p, v_number, v_record, v_leaves] ∧ (Same Z0 H) ∧ (H p = some (.ins T.c_Entry dx [])) ∧ (Z0 p = none) ∧ ((yInt).r Z0 v_number x_number) ∧ (((y_Record T)).r Z0 v_record x_record) ∧ (((yList yInt)).r Z0 v_leaves x_leaves) ∧ ∀ Z' H' o, Step [p] Z0 H Z' H' → H' p = some o → (y_Entry T).r (upd Z' p o) (.ref p) (F_Entry___init__ x_number x_record x_leaves) → Q .non H'
set_option maxHeartbeats 4000000 in
theorem ok_Entry___init__ (T : Txt K mg) : FnOk P w K mg base CX0 1 T.f_Entry___init__ T.d_Entry___init__ ["self", "number", "record", "leaves"] (sp_Entry___init__ T) := by
  refine T.F_Entry___init__.ok sc_Entry___init__ (fun vs H Q E h => ?_) (fun cdv A outer s H vs Q E hr h => ?_)
  · obtain ⟨p, dx, Z0, v_number, v_record, v_leaves, x_number, x_record, x_leaves, rfl, _⟩ := h
    rfl
  · obtain ⟨p, dx, Z0, v_number, v_record, v_leaves, x_number, x_record, x_leaves, rfl, sz, hself, zself, h_number, h_record, h_leaves, q⟩ := h
    refine ⟨_, (pss_cons (ps_fld (pv 0) (pv 1) rfl) 
      (pss_cons (ps_fld (pv 0) (pv 2) rfl) 
      (pss_one (ps_fld (pv 0) (pe_callTy call_tuple_of (by rfl) T.m_tuple (by decide +kernel) (pa_cons (pv 3) pa_nil)) rfl)))), ?_⟩
    have P : Pt [p] Z0 H muN Z0 H () := ⟨Step.refl sz, trivial, fun _ h => (nomatch h)⟩
    generalize hF : F_Entry___init__ x_number x_record x_leaves = y at q
    unfold F_Entry___init__ at hF
    refine st_seq (st_fld (x := x_number) (τ := yInt) P hself zself List.not_mem_nil (.inl List.mem_cons_self) rfl (ev_var (τ := yInt) rfl h_number) T.cl_Entry T.n_Entry_number (Nat.lt_of_le_of_lt (Nat.le_refl 0) (by decide)) (fun v_316 Z1 H1 e P1 k_317 hself1 zself1 => ?_))
    refine st_nx ?_
    replace P := P1
    replace hself := hself1
    replace zself := zself1
    replace h_record := ((y_Record T)).mono e.z h_record
    replace h_leaves := ((yList yInt)).mono e.z h_leaves
    refine st_seq (st_fld (x := x_record) (τ := (y_Record T)) P hself zself List.not_mem_nil (.inl List.mem_cons_self) rfl (ev_var (τ := (y_Record T)) rfl h_record) T.cl_Entry T.n_Entry_record (Nat.lt_of_le_of_lt (putF_le (Nat.le_refl 0)) (by decide)) (fun v_318 Z1 H1 e P1 k_319 hself1 zself1 => ?_))
    refine st_nx ?_
    replace P := P1
    replace hself := hself1
    replace zself := zself1
    replace h_leaves := ((yList yInt)).mono e.z h_leaves
    refine st_fld (x := x_leaves) (τ := (yTup K yInt)) P hself zself List.not_mem_nil (.inl List.mem_cons_self) rfl (ev_tuple_of (fun _ _ _ h => h) (ev_li (ev_var (τ := (yList yInt)) rfl h_leaves))) T.cl_Entry T.n_Entry_leaves (Nat.lt_of_le_of_lt (putF_le (putF_le (Nat.le_refl 0))) (by decide)) (fun v_320 Z1 H1 e P1 k_321 hself1 zself1 => ?_)
    replace P := P1
    replace hself := hself1
    replace zself := zself1
    replace k_319 := ((y_Record T)).mono e.z k_319
    subst hF
    exact q _ _ _ P.st hself ⟨p, dx, v_316, v_318, v_320, rfl, upd_same, k_317, ((y_Record T)).mono (same_upd zself) k_319, ((yTup K yInt)).mono (same_upd zself) k_321⟩
theorem is_Entry___init__ (T : Txt K mg) {μ : Type} {M : Mu μ} {s : μ} {E : XK} {x_number : Int} {x_record : Record} {x_leaves : (List Int)} : InitS M T.c_Entry (sp_Entry___init__ T) E (rac (ty yInt x_number) (rac (ty (y_Record T) x_record) (rac (ty (yList yInt) x_leaves) ra0))) s (ty (y_Entry T) (F_Entry___init__ x_number x_record x_leaves)) s := by
  rintro Z H vs x dx sz m ⟨v_number, _, rfl, h_number, ⟨v_record, _, rfl, h_record, ⟨v_leaves, _, rfl, h_leaves, rfl⟩⟩⟩ hx zx nx Q q
  exact ⟨x, dx, Z, v_number, v_record, v_leaves, x_number, x_record, x_leaves, rfl, sz, hx, zx, h_number, h_record, h_leaves, fun Z2 H2 o st ho hr => q Z2 H2 o (st.weak fun a h => by rw [List.mem_singleton] at h; rw [h]; exact .inl List.mem_cons_self) (Mu.away st nx m) ho hr⟩
def sp_Offer___init__ (T : Txt K mg) : Sp := fun vs H Q _ => ∃ (p dx : Addr) (Z0 : Hp) (v_partitions : V) (v_entries : V) (x_partitions : (List (List Region))) (x_entries : (List Entry)), vs = [.ref p, v_partitions, v_entries] ∧ (Same Z0 H) ∧ (H p = some (.ins T.c_Offer dx [])) ∧ (Z0 p = none) ∧ (((yList (yList (y_Region T)))).r Z0 v_partitions x_partitions) ∧ (((yList (y_Entry T))).r Z0 v_entries x_entries) ∧ ∀ Z' H' o, Step [p] Z0 H Z' H' → H' p = some o → (y_Offer T).r (upd Z' p o) (.ref p) (F_Offer___init__ x_partitions x_entries) → Q .non H'
set_option maxHeartbeats 4000000 in
theorem ok_Offer___init__ (T : Txt K mg) : FnOk P w K mg base CX0 1 T.f_Offer___init__ T.d_Offer___init__ ["self", "partitions", "entries"] (sp_Offer___init__ T) := by
  refine T.F_Offer___init__.ok sc_Offer___init__ (fun vs H Q E h => ?_) (fun cdv A outer s H vs Q E hr h => ?_)
  · obtain ⟨p, dx, Z0, v_partitions, v_entries, x_partitions, x_entries, rfl, _⟩ := h
    rfl
  · obtain ⟨p, dx, Z0, v_partitions, v_entries, x_partitions, x_entries, rfl, sz, hself, zself, h_partitions, h_entries, q⟩ := h
    refine ⟨_, (pss_cons (ps_fld (pv 0) (pe_callTy call_tuple_of (by rfl) T.m_tuple (by decide +kernel) (pa_cons (pe_lc (own := [("regions", 3)]) (g := gName 3) rfl sc_Offer___init__.nd (pi_list (pv 1)) (blkOk_by (own := [("regions", 3)]) (N := ["self", "partitions", "entries", "regions"]) (sc := defScope s_Offer___init__) (by decide +kernel)) (fun _ _ _ _ _ => (pg_name (i := 3) sc_Offer___init__.nd rfl (Or.inl rfl))) (fun _ _ _ _ _ => pts_nil) (fun _ _ _ _ _ => (pe_callTy (r := rTupleB K) (by exact call_tuple_of) (by rfl) T.m_tuple (by decide +kernel) (pa_cons (pv 3) pa_nil)))) pa_nil)) rfl) 
      (pss_one (ps_fld (pv 0) (pe_callTy call_tuple_of (by rfl) T.m_tuple (by decide +kernel) (pa_cons (pv 2) pa_nil)) rfl))), ?_⟩
    have P : Pt [p] Z0 H muN Z0 H () := ⟨Step.refl sz, trivial, fun _ h => (nomatch h)⟩
    generalize hF : F_Offer___init__ x_partitions x_entries = y at q
    unfold F_Offer___init__ at hF
    refine st_seq (st_fld (x := x_partitions) (τ := (yTup K (yTup K (y_Region T)))) P hself zself List.not_mem_nil (.inl List.mem_cons_self) rfl (ev_tuple_of (fun _ _ _ h => h) (ev_li (ev_fz (en_cast (en_map (fun x => x) (ei_list (ev_var (τ := (yList (yList (y_Region T)))) rfl h_partitions)) (fun x_325 v_326 Z' H' zz hh rx_327 => by
          exact ⟨_, tgt_name, (wpe_s wpe_z (by decide)), (ev_tuple_of (fun _ _ _ h => h) (ev_li (ev_var (τ := (yList (y_Region T))) rfl rx_327)))⟩)) (List.map_id' _))))) T.cl_Offer T.n_Offer_partitions (Nat.lt_of_le_of_lt (Nat.le_refl 0) (by decide)) (fun v_328 Z1 H1 e P1 k_329 hself1 zself1 => ?_))
    refine st_nx ?_
    replace P := P1
    replace hself := hself1
    replace zself := zself1
    replace h_entries := ((yList (y_Entry T))).mono e.z h_entries
    refine st_fld (x := x_entries) (τ := (yTup K (y_Entry T))) P hself zself List.not_mem_nil (.inl List.mem_cons_self) rfl (ev_tuple_of (fun _ _ _ h => h) (ev_li (ev_var (τ := (yList (y_Entry T))) rfl h_entries))) T.cl_Offer T.n_Offer_entries (Nat.lt_of_le_of_lt (putF_le (Nat.le_refl 0)) (by decide)) (fun v_330 Z1 H1 e P1 k_331 hself1 zself1 => ?_)
    replace P := P1
    replace hself := hself1
    replace zself := zself1
    replace k_329 := ((yTup K (yTup K (y_Region T)))).mono e.z k_329
    subst hF
    exact q _ _ _ P.st hself ⟨p, dx, v_328, v_330, rfl, upd_same, ((yTup K (yTup K (y_Region T)))).mono (same_upd zself) k_329, ((yTup K (y_Entry T))).mono (same_upd zself) k_331⟩
theorem is_Offer___init__ (T : Txt K mg) {μ : Type} {M : Mu μ} {s : μ} {E : XK} {x_partitions : (List (List Region))} {x_entries : (List Entry)} : InitS M T.c_Offer (sp_Offer___init__ T) E (rac (ty (yList (yList (y_Region T))) x_partitions) (rac (ty (yList (y_Entry T)) x_entries) ra0)) s (ty (y_Offer T) (F_Offer___init__ x_partitions x_entries)) s := by
  rintro Z H vs x dx sz m ⟨v_partitions, _, rfl, h_partitions, ⟨v_entries, _, rfl, h_entries, rfl⟩⟩ hx zx nx Q q
  exact ⟨x, dx, Z, v_partitions, v_entries, x_partitions, x_entries, rfl, sz, hx, zx, h_partitions, h_entries, fun Z2 H2 o st ho hr => q Z2 H2 o (st.weak fun a h => by rw [List.mem_singleton] at h; rw [h]; exact .inl List.mem_cons_self) (Mu.away st nx m) ho hr⟩
def sp_law_made (T : Txt K mg) : Sp := fun vs H Q _ => ∃ (Z0 : Hp) (v_kind : V) (v_parts : V) (x_kind : Int) (x_parts : (List Any)) (y : Thing), vs = [v_kind, v_parts] ∧ (Same Z0 H) ∧ ((yInt).r Z0 v_kind x_kind) ∧ (((yList (y_Any T))).r Z0 v_parts x_parts) ∧ (F_law_made x_kind x_parts = some y) ∧ ∀ v Z' H', Step [] Z0 H Z' H' → ((y_Thing T)).r Z' v y → Q v H'
set_option maxHeartbeats 4000000 in
theorem ok_law_made (T : Txt K mg) : FnOk P w K mg base CX0 4 T.f_law_made T.d_law_made ["kind", "parts"] (sp_law_made T) := by
  have G_law_record : FnOk P w K mg base CX0 3 T.f_law_record T.d_law_record ["parts"] (sp_law_record T) := ok_law_record T
  have G_Entry___init__ : FnOk P w K mg base CX0 1 T.f_Entry___init__ T.d_Entry___init__ ["self", "number", "record", "leaves"] (sp_Entry___init__ T) := ok_Entry___init__ T
  have G_Offer___init__ : FnOk P w K mg base CX0 1 T.f_Offer___init__ T.d_Offer___init__ ["self", "partitions", "entries"] (sp_Offer___init__ T) := ok_Offer___init__ T
  have G_Norms___init__ : FnOk P w K mg base CX0 1 T.f_Norms___init__ T.d_Norms___init__ ["self", "low", "high"] (sp_Norms___init__ T) := ok_Norms___init__ T
  have G_Region___init__ : FnOk P w K mg base CX0 1 T.f_Region___init__ T.d_Region___init__ ["self", "parent", "facts"] (sp_Region___init__ T) := ok_Region___init__ T
  have G_Bound___init__ : FnOk P w K mg base CX0 1 T.f_Bound___init__ T.d_Bound___init__ ["self", "cost", "name", "can"] (sp_Bound___init__ T) := ok_Bound___init__ T
  have G_Part___init__ : FnOk P w K mg base CX0 1 T.f_Part___init__ T.d_Part___init__ ["self", "start", "centre", "radius"] (sp_Part___init__ T) := ok_Part___init__ T
  have G_law_query : FnOk P w K mg base CX0 3 T.f_law_query T.d_law_query ["parts"] (sp_law_query T) := ok_law_query T
  refine T.F_law_made.ok sc_law_made (fun vs H Q E h => ?_) (fun cdv A outer s H vs Q E hr h => ?_)
  · obtain ⟨Z0, v_kind, v_parts, x_kind, x_parts, y, rfl, _⟩ := h
    rfl
  · obtain ⟨Z0, v_kind, v_parts, x_kind, x_parts, y, rfl, sz, h_kind, h_parts, hF, q⟩ := h
    refine ⟨_, (pss_cons (ps_if (pt_cmpR op_eq (pv 0) pe_int (nomark _)) (pss_one (ps_ret (pe_call G_law_record (hr.mono (by decide)) (by rfl) T.g_law_record T.F_law_record.kp T.b_law_record .nil pass0 (pa_cons (pv 1) pa_nil)))) pss_nil) 
      (pss_cons (ps_if (pt_cmpR op_eq (pv 0) pe_int (nomark _)) (pss_one (ps_ret (pe_call G_law_query (hr.mono (by decide)) (by rfl) T.g_law_query T.F_law_query.kp T.b_law_query .nil pass0 (pa_cons (pv 1) pa_nil)))) pss_nil) 
      (pss_cons (ps_if (pt_cmpR op_eq (pv 0) pe_int (nomark _)) (pss_one (ps_ret (pe_make T.mk_Part G_Part___init__ (hr.mono (by decide)) (by rfl) T.mc_Part T.b_Part___init__ .nil pass0 (pa_cons (pe_ix ix_list (pv 1) pe_int (fun _ _ => rfl)) (pa_cons (pe_callTy call_list_of (by rfl) T.m_list (by decide +kernel) (pa_cons (pe_ix ix_list (pv 1) pe_int (fun _ _ => rfl)) pa_nil)) (pa_cons (pe_ix ix_list (pv 1) pe_int (fun _ _ => rfl)) pa_nil)))))) pss_nil) 
      (pss_cons (ps_if (pt_cmpR op_eq (pv 0) pe_int (nomark _)) (pss_one (ps_ret (pe_make T.mk_Bound G_Bound___init__ (hr.mono (by decide)) (by rfl) T.mc_Bound T.b_Bound___init__ .nil pass0 (pa_cons (pe_ix ix_list (pv 1) pe_int (fun _ _ => rfl)) (pa_cons (pe_ix ix_list (pv 1) pe_int (fun _ _ => rfl)) (pa_cons (pe_ix ix_list (pv 1) pe_int (fun _ _ => rfl)) pa_nil)))))) pss_nil) 
      (pss_cons (ps_if (pt_cmpR op_eq (pv 0) pe_int (nomark _)) (pss_one (ps_ret (pe_make T.mk_Region G_Region___init__ (hr.mono (by decide)) (by rfl) T.mc_Region T.b_Region___init__ .nil pass0 (pa_cons (pe_ix ix_list (pv 1) pe_int (fun _ _ => rfl)) (pa_cons (pe_lc (own := [("number", 2)]) (g := gName 2) rfl sc_law_made.nd (pi_list (pe_ix ix_list (pv 1) pe_int (fun _ _ => rfl))) (blkOk_by (own := [("number", 2)]) (N := ["kind", "parts", "number", "regions"]) (sc := defScope s_law_made) (by decide +kernel)) (fun _ _ _ _ _ => (pg_name (i := 2) sc_law_made.nd rfl (Or.inl rfl))) (fun _ _ _ _ _ => pts_nil) (fun _ _ _ _ _ => (pe_make T.mk_Norms G_Norms___init__ (hr.mono (by decide)) (by rfl) T.mc_Norms T.b_Norms___init__ .nil pass0 (pa_cons pe_int (pa_cons (pv 2) pa_nil))))) pa_nil))))) pss_nil) 
      (pss_cons (ps_if (pt_cmpR op_eq (pv 0) pe_int (nomark _)) (pss_one (ps_ret (pe_make T.mk_Entry G_Entry___init__ (hr.mono (by decide)) (by rfl) T.mc_Entry T.b_Entry___init__ .nil pass0 (pa_cons (pe_ix ix_list (pv 1) pe_int (fun _ _ => rfl)) (pa_cons (pe_call G_law_record (hr.mono (by decide)) (by rfl) T.g_law_record T.F_law_record.kp T.b_law_record .nil pass0 (pa_cons (pe_lst (pa_cons pe_str (pa_cons (pe_ix ix_list (pv 1) pe_int (fun _ _ => rfl)) (pa_cons (pe_lst pa_nil) (pa_cons (pe_lst pa_nil) pa_nil))))) pa_nil)) (pa_cons (pe_callTy call_list_of (by rfl) T.m_list (by decide +kernel) (pa_cons (pe_ix ix_list (pv 1) pe_int (fun _ _ => rfl)) pa_nil)) pa_nil)))))) pss_nil) 
      (pss_cons (ps_setLc (i := 3) (own := [("number", 2)]) (g := gName 2) rfl sc_law_made.nd rfl rfl (sw_true rfl rfl rfl (by decide +kernel)) (pi_list (pe_ix ix_list (pv 1) pe_int (fun _ _ => rfl))) (blkOk_by (own := [("number", 2)]) (N := ["kind", "parts", "number", "regions"]) (sc := defScope s_law_made) (by decide +kernel)) (fun _ _ _ _ _ => (pg_name (i := 2) sc_law_made.nd rfl (Or.inl rfl))) (fun _ _ _ _ _ => pts_nil) (fun _ _ _ _ _ => (pe_make T.mk_Region G_Region___init__ (hr.mono (by decide)) (by rfl) T.mc_Region T.b_Region___init__ .nil pass0 (pa_cons pe_non (pa_cons (pe_lst (pa_cons (pe_make T.mk_Norms G_Norms___init__ (hr.mono (by decide)) (by rfl) T.mc_Norms T.b_Norms___init__ .nil pass0 (pa_cons pe_int (pa_cons (pv 2) pa_nil))) pa_nil)) pa_nil))))) 
      (pss_one (ps_ret (pe_make T.mk_Offer G_Offer___init__ (hr.mono (by decide)) (by rfl) T.mc_Offer T.b_Offer___init__ .nil pass0 (pa_cons (pe_lst (pa_cons (pv 3) pa_nil)) (pa_cons (pe_lc (own := [("number", 2)]) (g := gName 2) rfl sc_law_made.nd (pi_list (pe_ix ix_list (pv 1) pe_int (fun _ _ => rfl))) (blkOk_by (own := [("number", 2)]) (N := ["kind", "parts", "number", "regions"]) (sc := defScope s_law_made) (by decide +kernel)) (fun _ _ _ _ _ => (pg_name (i := 2) sc_law_made.nd rfl (Or.inl rfl))) (fun _ _ _ _ _ => pts_nil) (fun _ _ _ _ _ => (pe_make T.mk_Entry G_Entry___init__ (hr.mono (by decide)) (by rfl) T.mc_Entry T.b_Entry___init__ .nil pass0 (pa_cons (pv 2) (pa_cons (pe_call G_law_record (hr.mono (by decide)) (by rfl) T.g_law_record T.F_law_record.kp T.b_law_record .nil pass0 (pa_cons (pe_lst (pa_cons pe_str (pa_cons (pe_lst (pa_cons pe_int pa_nil)) (pa_cons (pe_lst pa_nil) (pa_cons (pe_lst pa_nil) pa_nil))))) pa_nil)) (pa_cons (pe_lst (pa_cons pe_int pa_nil)) pa_nil)))))) pa_nil)))))))))))), ?_⟩
    have P := Pt.start0 sz
    unfold F_law_made at hF
    refine st_seq (st_if P (et_cmp (ev_eq flat_int (ev_var (τ := yInt) rfl h_kind) ev_int)) (fun b_335 Z1 H1 e P1 => ?_) (fun b_335 Z1 H1 e P1 => ?_))
    · replace P := P1
      have hB := ifT b_335 hF
      replace hF := hB
      clear hB
      replace h_parts := ((yList (y_Any T))).mono e.z h_parts
      obtain ⟨r_336, h_337, hF⟩ := bind_inv hF
      replace hF := Option.some.inj hF
      subst hF
      refine st_ret P (ij_Thing_record T (ev_call (cs_law_record T h_337) (eva_cons (ev_var (τ := (yList (y_Any T))) rfl h_parts) eva_nil))) (fun v Z1 H1 P1 hv => ?_)
      exact q v _ _ P1.st hv
    · replace P := P1
      have hB := ifF b_335 hF
      replace hF := hB
      clear hB
      refine st_next0 ?_
      replace h_parts := ((yList (y_Any T))).mono e.z h_parts
      refine st_seq (st_if P (et_cmp (ev_eq flat_int (ev_var (τ := yInt) rfl h_kind) ev_int)) (fun b_338 Z1 H1 e P1 => ?_) (fun b_338 Z1 H1 e P1 => ?_))
      · replace P := P1
        have hB := ifT b_338 hF
        replace hF := hB
        clear hB
        replace h_parts := ((yList (y_Any T))).mono e.z h_parts
        obtain ⟨r_339, h_340, hF⟩ := bind_inv hF
        replace hF := Option.some.inj hF
        subst hF
        refine st_ret P (ij_Thing_query T (ev_call (cs_law_query T h_340) (eva_cons (ev_var (τ := (yList (y_Any T))) rfl h_parts) eva_nil))) (fun v Z1 H1 P1 hv => ?_)
        exact q v _ _ P1.st hv
      · replace P := P1
        have hB := ifF b_338 hF
        replace hF := hB
        clear hB
        refine st_next0 ?_
        replace h_parts := ((yList (y_Any T))).mono e.z h_parts
        refine st_seq (st_if P (et_cmp (ev_eq flat_int (ev_var (τ := yInt) rfl h_kind) ev_int)) (fun b_341 Z1 H1 e P1 => ?_) (fun b_341 Z1 H1 e P1 => ?_))
        · replace P := P1
          have hB := ifT b_341 hF
          replace hF := hB
          clear hB
          replace h_parts := ((yList (y_Any T))).mono e.z h_parts
          obtain ⟨i_342, h_343, hF⟩ := bind_inv hF
          obtain ⟨u_344, h_345, hF⟩ := bind_inv hF
          obtain ⟨i_350, h_351, hF⟩ := bind_inv hF
          obtain ⟨u_352, h_353, hF⟩ := bind_inv hF
          obtain ⟨i_354, h_355, hF⟩ := bind_inv hF
          obtain ⟨u_356, h_357, hF⟩ := bind_inv hF
          replace hF := Option.some.inj hF
          subst hF
          refine st_ret P (ij_Thing_part T (ev_make (is_Part___init__ T) (eva_cons (pj_Any_i T (ev_ixL (ev_li (ev_var (τ := (yList (y_Any T))) rfl h_parts)) ev_int h_343) h_345) (eva_cons (ev_fz (en_list_of (fun _ _ _ h => h) (ev_li (ev_castK (show CastO (y_Any T) (yList yInt) (fun x : Any => (x.p_l).bind (mapO El.p_i)) from (fun _ _ x _ h e => by obtain ⟨z, hz, e⟩ := Option.bind_eq_some_iff.mp e; cases x <;> first | (have hz := Option.some.inj hz; subst hz; exact (show CastO (yList (y_El T)) (yList yInt) (mapO El.p_i) from (cast_list (show CastO (y_El T) yInt El.p_i from (fun _ _ x _ h e => by cases x <;> first | (have e := Option.some.inj e; subst e; exact h) | cases e)))) _ _ _ _ h e) | cases hz)) (ev_ixL (ev_li (ev_var (τ := (yList (y_Any T))) rfl h_parts)) ev_int h_351) h_353)))) (eva_cons (pj_Any_i T (ev_ixL (ev_li (ev_var (τ := (yList (y_Any T))) rfl h_parts)) ev_int h_355) h_357) eva_nil))))) (fun v Z1 H1 P1 hv => ?_)
          exact q v _ _ P1.st hv
        · replace P := P1
          have hB := ifF b_341 hF
          replace hF := hB
          clear hB
          refine st_next0 ?_
          replace h_parts := ((yList (y_Any T))).mono e.z h_parts
          refine st_seq (st_if P (et_cmp (ev_eq flat_int (ev_var (τ := yInt) rfl h_kind) ev_int)) (fun b_358 Z1 H1 e P1 => ?_) (fun b_358 Z1 H1 e P1 => ?_))
          · replace P := P1
            have hB := ifT b_358 hF
            replace hF := hB
            clear hB
            replace h_parts := ((yList (y_Any T))).mono e.z h_parts
            obtain ⟨i_359, h_360, hF⟩ := bind_inv hF
            obtain ⟨u_361, h_362, hF⟩ := bind_inv hF
            obtain ⟨i_363, h_364, hF⟩ := bind_inv hF
            obtain ⟨u_365, h_366, hF⟩ := bind_inv hF
            obtain ⟨i_367, h_368, hF⟩ := bind_inv hF
            obtain ⟨u_369, h_370, hF⟩ := bind_inv hF
            replace hF := Option.some.inj hF
            subst hF
            refine st_ret P (ij_Thing_bound T (ev_make (is_Bound___init__ T) (eva_cons (ev_castK (show CastO (y_Any T) (yOpt yInt) (fun x : Any => match x with | .n _ => some none | .i y => some (some y) | _ => none) from (fun Z v x _ h e => match x, h, e with | .i z, h, e => by (have e := Option.some.inj e; subst e; exact ⟨h, nn_int Z v z h⟩) | .b _, _, e => by cases e | .n _, h, e => by (have e := Option.some.inj e; subst e; exact h) | .s _, _, e => by cases e | .l _, _, e => by cases e)) (ev_ixL (ev_li (ev_var (τ := (yList (y_Any T))) rfl h_parts)) ev_int h_360) h_362) (eva_cons (pj_Any_s T (ev_ixL (ev_li (ev_var (τ := (yList (y_Any T))) rfl h_parts)) ev_int h_364) h_366) (eva_cons (pj_Any_b T (ev_ixL (ev_li (ev_var (τ := (yList (y_Any T))) rfl h_parts)) ev_int h_368) h_370) eva_nil))))) (fun v Z1 H1 P1 hv => ?_)
            exact q v _ _ P1.st hv
          · replace P := P1
            have hB := ifF b_358 hF
            replace hF := hB
            clear hB
            refine st_next0 ?_
            replace h_parts := ((yList (y_Any T))).mono e.z h_parts
            refine st_seq (st_if P (et_cmp (ev_eq flat_int (ev_var (τ := yInt) rfl h_kind) ev_int)) (fun b_371 Z1 H1 e P1 => ?_) (fun b_371 Z1 H1 e P1 => ?_))
            · replace P := P1
              have hB := ifT b_371 hF
              replace hF := hB
              clear hB
              replace h_parts := ((yList (y_Any T))).mono e.z h_parts
              obtain ⟨i_372, h_373, hF⟩ := bind_inv hF
              obtain ⟨u_374, h_375, hF⟩ := bind_inv hF
              obtain ⟨i_380, h_381, hF⟩ := bind_inv hF
              obtain ⟨u_382, h_383, hF⟩ := bind_inv hF
              replace hF := Option.some.inj hF
              subst hF
              refine st_ret P (ij_Thing_region T (ev_make (is_Region___init__ T) (eva_cons (ev_castK (show CastO (y_Any T) (yOpt yInt) (fun x : Any => match x with | .n _ => some none | .i y => some (some y) | _ => none) from (fun Z v x _ h e => match x, h, e with | .i z, h, e => by (have e := Option.some.inj e; subst e; exact ⟨h, nn_int Z v z h⟩) | .b _, _, e => by cases e | .n _, h, e => by (have e := Option.some.inj e; subst e; exact h) | .s _, _, e => by cases e | .l _, _, e => by cases e)) (ev_ixL (ev_li (ev_var (τ := (yList (y_Any T))) rfl h_parts)) ev_int h_373) h_375) (eva_cons (ev_fz (en_map (υ := (y_Norms T)) (fun (x_384 : Int) => (F_Norms___init__ (0 : Int) x_384)) (ei_list (ev_castK (show CastO (y_Any T) (yList yInt) (fun x : Any => (x.p_l).bind (mapO El.p_i)) from (fun _ _ x _ h e => by obtain ⟨z, hz, e⟩ := Option.bind_eq_some_iff.mp e; cases x <;> first | (have hz := Option.some.inj hz; subst hz; exact (show CastO (yList (y_El T)) (yList yInt) (mapO El.p_i) from (cast_list (show CastO (y_El T) yInt El.p_i from (fun _ _ x _ h e => by cases x <;> first | (have e := Option.some.inj e; subst e; exact h) | cases e)))) _ _ _ _ h e) | cases hz)) (ev_ixL (ev_li (ev_var (τ := (yList (y_Any T))) rfl h_parts)) ev_int h_381) h_383)) (fun x_384 v_385 Z' H' zz hh rx_386 => by
                    exact ⟨_, tgt_name, (wpe_s wpe_z (by decide)), (ev_make (is_Norms___init__ T) (eva_cons ev_int (eva_cons (ev_var (τ := yInt) rfl rx_386) eva_nil)))⟩))) eva_nil)))) (fun v Z1 H1 P1 hv => ?_)
              exact q v _ _ P1.st hv
            · replace P := P1
              have hB := ifF b_371 hF
              replace hF := hB
              clear hB
              refine st_next0 ?_
              replace h_parts := ((yList (y_Any T))).mono e.z h_parts
              refine st_seq (st_if P (et_cmp (ev_eq flat_int (ev_var (τ := yInt) rfl h_kind) ev_int)) (fun b_387 Z1 H1 e P1 => ?_) (fun b_387 Z1 H1 e P1 => ?_))
              · replace P := P1
                have hB := ifT b_387 hF
                replace hF := hB
                clear hB
                replace h_parts := ((yList (y_Any T))).mono e.z h_parts
                obtain ⟨i_388, h_389, hF⟩ := bind_inv hF
                obtain ⟨u_390, h_391, hF⟩ := bind_inv hF
                obtain ⟨i_392, h_393, hF⟩ := bind_inv hF
                obtain ⟨r_394, h_395, hF⟩ := bind_inv hF
                obtain ⟨i_400, h_401, hF⟩ := bind_inv hF
                obtain ⟨u_402, h_403, hF⟩ := bind_inv hF
                replace hF := Option.some.inj hF
                subst hF
                refine st_ret P (ij_Thing_entry T (ev_make (is_Entry___init__ T) (eva_cons (pj_Any_i T (ev_ixL (ev_li (ev_var (τ := (yList (y_Any T))) rfl h_parts)) ev_int h_389) h_391) (eva_cons (ev_call (cs_law_record T h_395) (eva_cons (ev_fz (en_listD (eva_conss (ij_Any_s T ev_str) (eva_conss (ev_ixL (ev_li (ev_var (τ := (yList (y_Any T))) rfl h_parts)) ev_int h_393) (eva_conss (ij_Any_l T (ev_fz (en_listD eva_nils (by show 0 ≤ sizeLine; decide)))) (eva_conss (ij_Any_l T (ev_fz (en_listD eva_nils (by show 0 ≤ sizeLine; decide)))) (eva_nils (τ := (y_Any T))))))) (by show 4 ≤ sizeLine; decide))) eva_nil)) (eva_cons (ev_fz (en_list_of (fun _ _ _ h => h) (ev_li (ev_castK (show CastO (y_Any T) (yList yInt) (fun x : Any => (x.p_l).bind (mapO El.p_i)) from (fun _ _ x _ h e => by obtain ⟨z, hz, e⟩ := Option.bind_eq_some_iff.mp e; cases x <;> first | (have hz := Option.some.inj hz; subst hz; exact (show CastO (yList (y_El T)) (yList yInt) (mapO El.p_i) from (cast_list (show CastO (y_El T) yInt El.p_i from (fun _ _ x _ h e => by cases x <;> first | (have e := Option.some.inj e; subst e; exact h) | cases e)))) _ _ _ _ h e) | cases hz)) (ev_ixL (ev_li (ev_var (τ := (yList (y_Any T))) rfl h_parts)) ev_int h_401) h_403)))) eva_nil))))) (fun v Z1 H1 P1 hv => ?_)
                exact q v _ _ P1.st hv
              · replace P := P1
                have hB := ifF b_387 hF
                replace hF := hB
                clear hB
                refine st_next0 ?_
                replace h_parts := ((yList (y_Any T))).mono e.z h_parts
                obtain ⟨i_408, h_409, hF⟩ := bind_inv hF
                obtain ⟨u_410, h_411, hF⟩ := bind_inv hF
                obtain ⟨x_regions_415, h_416, hF⟩ := bind_inv hF
                replace h_416 := Option.some.inj h_416
                refine st_seq (st_set P (ev_cast (ev_fz (en_map (υ := (y_Region T)) (fun (x_412 : Int) => (F_Region___init__ none ([(F_Norms___init__ (0 : Int) x_412)] : List Norms))) (ei_list (ev_castK (show CastO (y_Any T) (yList yInt) (fun x : Any => (x.p_l).bind (mapO El.p_i)) from (fun _ _ x _ h e => by obtain ⟨z, hz, e⟩ := Option.bind_eq_some_iff.mp e; cases x <;> first | (have hz := Option.some.inj hz; subst hz; exact (show CastO (yList (y_El T)) (yList yInt) (mapO El.p_i) from (cast_list (show CastO (y_El T) yInt El.p_i from (fun _ _ x _ h e => by cases x <;> first | (have e := Option.some.inj e; subst e; exact h) | cases e)))) _ _ _ _ h e) | cases hz)) (ev_ixL (ev_li (ev_var (τ := (yList (y_Any T))) rfl h_parts)) ev_int h_409) h_411)) (fun x_412 v_413 Z' H' zz hh rx_414 => by
                      exact ⟨_, tgt_name, (wpe_s wpe_z (by decide)), (ev_make (is_Region___init__ T) (eva_cons (ev_none (τ := yInt) ev_non) (eva_cons (ev_fz (en_listD (eva_conss (ev_make (is_Norms___init__ T) (eva_cons ev_int (eva_cons (ev_var (τ := yInt) rfl rx_414) eva_nil))) (eva_nils (τ := (y_Norms T)))) (by show 1 ≤ sizeLine; decide))) eva_nil)))⟩))) h_416) (fun v_417 Z1 H1 e P1 k_418 => ?_))
                refine st_nx ?_
                replace P := P1
                replace h_parts := ((yList (y_Any T))).mono e.z h_parts
                obtain ⟨i_423, h_424, hF⟩ := bind_inv hF
                obtain ⟨u_425, h_426, hF⟩ := bind_inv hF
                obtain ⟨l_434, h_435, hF⟩ := bind_inv hF
                replace hF := Option.some.inj hF
                subst hF
                refine st_ret P (ij_Thing_offer T (ev_make (is_Offer___init__ T) (eva_cons (ev_fz (en_listD (eva_conss (ev_var (τ := (yList (y_Region T))) rfl k_418) (eva_nils (τ := (yList (y_Region T))))) (by show 1 ≤ sizeLine; decide))) (eva_cons (ev_fz (en_mapO (υ := (y_Entry T)) (fun (x_427 : Int) => (((fun x : (List Int) => ((mapO (fun x : Int => some (El.i x))) x).map Any.l) ([(0 : Int)] : List Int)).bind fun u_430 =>
                (F_law_record ([(Any.s ("a" : Str)), u_430, (Any.l []), (Any.l [])] : List Any)).bind fun r_432 =>
                some (F_Entry___init__ x_427 r_432 ([(0 : Int)] : List Int)) : Option Entry)) (ei_list (ev_castK (show CastO (y_Any T) (yList yInt) (fun x : Any => (x.p_l).bind (mapO El.p_i)) from (fun _ _ x _ h e => by obtain ⟨z, hz, e⟩ := Option.bind_eq_some_iff.mp e; cases x <;> first | (have hz := Option.some.inj hz; subst hz; exact (show CastO (yList (y_El T)) (yList yInt) (mapO El.p_i) from (cast_list (show CastO (y_El T) yInt El.p_i from (fun _ _ x _ h e => by cases x <;> first | (have e := Option.some.inj e; subst e; exact h) | cases e)))) _ _ _ _ h e) | cases hz)) (ev_ixL (ev_li (ev_var (τ := (yList (y_Any T))) rfl h_parts)) ev_int h_424) h_426)) (fun x_427 v_428 Z' H' p zz hh rx_429 hp => by
                      have hy := hp
                      obtain ⟨u_430, h_431, hy⟩ := bind_inv hy
                      obtain ⟨r_432, h_433, hy⟩ := bind_inv hy
                      have hy := Option.some.inj hy
                      subst hy
                      exact ⟨_, tgt_name, (wpe_s wpe_z (by decide)), (ev_make (is_Entry___init__ T) (eva_cons (ev_var (τ := yInt) rfl rx_429) (eva_cons (ev_call (cs_law_record T h_433) (eva_cons (ev_fz (en_listD (eva_conss (ij_Any_s T ev_str) (eva_conss (ev_castK (show CastO (yList yInt) (y_Any T) (fun x : (List Int) => ((mapO (fun x : Int => some (El.i x))) x).map Any.l) from (fun _ _ _ _ h e => by obtain ⟨z, hz, e⟩ := Option.map_eq_some_iff.mp e; subst e; exact (show CastO (yList yInt) (yList (y_El T)) (mapO (fun x : Int => some (El.i x))) from (cast_list (show CastO yInt (y_El T) (fun x : Int => some (El.i x)) from (fun _ _ _ _ h e => by have e := Option.some.inj e; subst e; exact h)))) _ _ _ _ h hz)) (ev_fz (en_listD (eva_conss ev_int (eva_nils (τ := yInt))) (by show 1 ≤ sizeLine; decide))) h_431) (eva_conss (ij_Any_l T (ev_fz (en_listD eva_nils (by show 0 ≤ sizeLine; decide)))) (eva_conss (ij_Any_l T (ev_fz (en_listD eva_nils (by show 0 ≤ sizeLine; decide)))) (eva_nils (τ := (y_Any T))))))) (by show 4 ≤ sizeLine; decide))) eva_nil)) (eva_cons (ev_fz (en_listD (eva_conss ev_int (eva_nils (τ := yInt))) (by show 1 ≤ sizeLine; decide))) eva_nil))))⟩) h_435)) eva_nil)))) (fun v Z1 H1 P1 hv => ?_)
                exact q v _ _ P1.st hv
theorem cs_law_made (T : Txt K mg) {μ : Type} {M : Mu μ} {s : μ} {E : XK} {x_kind : Int} {x_parts : (List Any)} {y : Thing} (h : F_law_made x_kind x_parts = some y) : CallS M (sp_law_made T) E (rac (ty yInt x_kind) (rac (ty (yList (y_Any T)) x_parts) ra0)) s (ty (y_Thing T) y) s := by
  rintro Z H vs sz m ⟨v_kind, _, rfl, h_kind, ⟨v_parts, _, rfl, h_parts, rfl⟩⟩ Q q
  exact ⟨Z, v_kind, v_parts, x_kind, x_parts, y, rfl, sz, h_kind, h_parts, h, fun v Z2 H2 st hv => q v Z2 H2 st.pure (M.pure st m) hv⟩
def sp_law_other (T : Txt K mg) : Sp := fun vs H Q _ => ∃ (Z0 : Hp) (v_kind : V) (v_at : V) (v_part : V) (x_kind : Int) (x_at : Int) (x_part : Any) (y : Any), vs = [v_kind, v_at, v_part] ∧ (Same Z0 H) ∧ ((yInt).r Z0 v_kind x_kind) ∧ ((yInt).r Z0 v_at x_at) ∧ (((y_Any T)).r Z0 v_part x_part) ∧ (F_law_other x_kind x_at x_part = some y) ∧ ∀ v Z' H', Step [] Z0 H Z' H' → ((y_Any T)).r Z' v y → Q v H'
set_option maxHeartbeats 4000000 in
theorem ok_law_other (T : Txt K mg) : FnOk P w K mg base CX0 1 T.f_law_other T.d_law_other ["kind", "at", "part"] (sp_law_other T) := by
  refine T.F_law_other.ok sc_law_other (fun vs H Q E h => ?_) (fun cdv A outer s H vs Q E hr h => ?_)
  · obtain ⟨Z0, v_kind, v_at, v_part, x_kind, x_at, x_part, y, rfl, _⟩ := h
    rfl
  · obtain ⟨Z0, v_kind, v_at, v_part, x_kind, x_at, x_part, y, rfl, sz, h_kind, h_at, h_part, hF, q⟩ := h
    refine ⟨_, (pss_cons (ps_if (pt_val (pe_callB call_isi (by rfl) T.m_isinstance (by decide +kernel) (pa_cons (pv 2) (pa_cons (pe_bltn (v := .ty "bool") (u := .type "bool") (by rfl) T.m_bool (by decide +kernel) rfl) pa_nil)))) (pss_one (ps_ret (pe_not (pv 2)))) pss_nil) 
      (pss_cons (ps_if (pt_cmpR op_isN (pv 2) pe_non (nomark _)) (pss_one (ps_ret pe_int)) pss_nil) 
      (pss_cons (ps_if (pt_val (pe_callB call_isi (by rfl) T.m_isinstance (by decide +kernel) (pa_cons (pv 2) (pa_cons (pe_bltn (v := .ty "str") (u := .type "str") (by rfl) T.m_str (by decide +kernel) rfl) pa_nil)))) (pss_one (ps_ret (pe_op op_add_str (pv 2) pe_str))) pss_nil) 
      (pss_cons (ps_if (pt_val (pe_callB call_isi (by rfl) T.m_isinstance (by decide +kernel) (pa_cons (pv 2) (pa_cons (pe_bltn (v := .ty "list") (u := .type "list") (by rfl) T.m_list (by decide +kernel) rfl) pa_nil)))) (pss_cons (ps_if (PW.pt (pw_and (pt_cmpR op_eq (pv 0) pe_int (nomark _)) (pw_and1 (pt_cmpR op_eq (pv 1) pe_int (nomark _))))) (pss_one (ps_ret (pe_lst (pa_cons (pe_tup (pa_cons pe_str (pa_cons (pe_op op_add (pe_ix ix_tup (pe_ix ix_list (pv 2) pe_int (fun _ _ => rfl)) pe_int (fun _ _ => rfl)) pe_int) pa_nil))) pa_nil)))) pss_nil) 
      (pss_cons (ps_if (PW.pt (pw_and (pt_cmpR op_lt (pv 0) pe_int (nomark _)) (pw_and (pt_cmpR op_gt (pe_callB call_len_seq (by rfl) T.m_len PySem.boot_len (pa_cons (pv 2) pa_nil)) pe_int (nomark _)) (pw_and1 (pt_val (pe_callB call_isi (by rfl) T.m_isinstance (by decide +kernel) (pa_cons (pe_ix ix_list (pv 2) pe_int (fun _ _ => rfl)) (pa_cons (pe_bltn (v := .ty "tuple") (u := .type "tuple") (by rfl) T.m_tuple (by decide +kernel) rfl) pa_nil)))))))) (pss_one (ps_ret (pe_lst (pa_cons (pe_tup (pa_cons pe_str (pa_cons (pe_op op_add (pe_ix ix_tup (pe_ix ix_list (pv 2) pe_int (fun _ _ => rfl)) pe_int (fun _ _ => rfl)) pe_int) pa_nil))) pa_nil)))) pss_nil) 
      (pss_one (ps_ret (pe_op op_cat (pv 2) (pe_lst (pa_cons pe_int pa_nil))))))) pss_nil) 
      (pss_one (ps_ret (pe_op op_add (pv 2) pe_int))))))), ?_⟩
    have P := Pt.start0 sz
    unfold F_law_other at hF
    refine st_seq (st_if P (et_val (ev_isi (b := x_part.is_bool) (fun _ _ _ h => h) (ev_var (τ := (y_Any T)) rfl h_part) (tx_Any T) (.ty _) (kit_Any_bool T _))) (fun b_439 Z1 H1 e P1 => ?_) (fun b_439 Z1 H1 e P1 => ?_))
    · replace P := P1
      have hB := ifT b_439 hF
      replace hF := hB
      clear hB
      replace h_part := ((y_Any T)).mono e.z h_part
      obtain ⟨u_440, h_441, hF⟩ := bind_inv hF
      replace hF := Option.some.inj hF
      subst hF
      refine st_ret P (ij_Any_b T (ev_not (pj_Any_b T (ev_var (τ := (y_Any T)) rfl h_part) h_441))) (fun v Z1 H1 P1 hv => ?_)
      exact q v _ _ P1.st hv
    · replace P := P1
      have hB := ifF b_439 hF
      replace hF := hB
      clear hB
      refine st_next0 ?_
      replace h_part := ((y_Any T)).mono e.z h_part
      refine st_seq (st_if P (et_cmp (ev_isN (on_Any T (ev_var (τ := (y_Any T)) rfl h_part)) ev_non)) (fun b_442 Z1 H1 e P1 => ?_) (fun b_442 Z1 H1 e P1 => ?_))
      · replace P := P1
        have hB := ifT b_442 hF
        replace hF := hB
        clear hB
        replace hF := Option.some.inj hF
        subst hF
        refine st_ret P (ij_Any_i T ev_int) (fun v Z1 H1 P1 hv => ?_)
        exact q v _ _ P1.st hv
      · replace P := P1
        have hB := ifF b_442 hF
        replace hF := hB
        clear hB
        refine st_next0 ?_
        replace h_part := ((y_Any T)).mono e.z h_part
        refine st_seq (st_if P (et_val (ev_isi (b := x_part.is_str) (fun _ _ _ h => h) (ev_var (τ := (y_Any T)) rfl h_part) (tx_Any T) (.ty _) (kit_Any_str T _))) (fun b_443 Z1 H1 e P1 => ?_) (fun b_443 Z1 H1 e P1 => ?_))
        · replace P := P1
          have hB := ifT b_443 hF
          replace hF := hB
          clear hB
          replace h_part := ((y_Any T)).mono e.z h_part
          obtain ⟨u_446, h_447, hF⟩ := bind_inv hF
          obtain ⟨g_448, hF⟩ := guard_inv hF
          replace hF := Option.some.inj hF
          subst hF
          refine st_ret P (ij_Any_s T (ev_cat_str (pj_Any_s T (ev_var (τ := (y_Any T)) rfl h_part) h_447) ev_str g_448)) (fun v Z1 H1 P1 hv => ?_)
          exact q v _ _ P1.st hv
        · replace P := P1
          have hB := ifF b_443 hF
          replace hF := hB
          clear hB
          refine st_next0 ?_
          replace h_part := ((y_Any T)).mono e.z h_part
          refine st_seq (st_if P (et_val (ev_isi (b := x_part.is_list) (fun _ _ _ h => h) (ev_var (τ := (y_Any T)) rfl h_part) (tx_Any T) (.ty _) (kit_Any_list T _))) (fun b_449 Z1 H1 e P1 => ?_) (fun b_449 Z1 H1 e P1 => ?_))
          · replace P := P1
            have hB := ifT b_449 hF
            replace hF := hB
            clear hB
            replace h_part := ((y_Any T)).mono e.z h_part
            refine st_seq (st_if P (et_and0 (et_cmp (ev_eq flat_int (ev_var (τ := yInt) rfl h_kind) ev_int)) (et_cmp (ev_eq flat_int (ev_var (τ := yInt) rfl h_at) ev_int))) (fun b_450 Z1 H1 e P1 => ?_) (fun b_450 Z1 H1 e P1 => ?_))
            · replace P := P1
              have hB := ifT b_450 hF
              replace hF := hB
              clear hB
              replace h_part := ((y_Any T)).mono e.z h_part
              obtain ⟨u_459, h_460, hF⟩ := bind_inv hF
              obtain ⟨i_461, h_462, hF⟩ := bind_inv hF
              obtain ⟨u_463, h_464, hF⟩ := bind_inv hF
              obtain ⟨u_465, h_466, hF⟩ := bind_inv hF
              obtain ⟨u_467, h_468, hF⟩ := bind_inv hF
              replace hF := Option.some.inj hF
              subst hF
              refine st_ret P (ev_castK (show CastO (yList (yP2 K yStr yInt)) (y_Any T) (fun x : (List (Str × Int)) => ((mapO (fun x : (Str × Int) => ((fun x : (Str × Int) => ((some : Str → Option Str) x.1).bind fun a => ((fun x : Int => some (Val.i x)) x.2).bind fun b => some (a, b)) x).map El.w)) x).map Any.l) from (fun _ _ _ _ h e => by obtain ⟨z, hz, e⟩ := Option.map_eq_some_iff.mp e; subst e; exact (show CastO (yList (yP2 K yStr yInt)) (yList (y_El T)) (mapO (fun x : (Str × Int) => ((fun x : (Str × Int) => ((some : Str → Option Str) x.1).bind fun a => ((fun x : Int => some (Val.i x)) x.2).bind fun b => some (a, b)) x).map El.w)) from (cast_list (show CastO (yP2 K yStr yInt) (y_El T) (fun x : (Str × Int) => ((fun x : (Str × Int) => ((some : Str → Option Str) x.1).bind fun a => ((fun x : Int => some (Val.i x)) x.2).bind fun b => some (a, b)) x).map El.w) from (fun _ _ _ _ h e => by obtain ⟨z, hz, e⟩ := Option.map_eq_some_iff.mp e; subst e; exact (show CastO (yP2 K yStr yInt) (yP2 K yStr (y_Val T)) (fun x : (Str × Int) => ((some : Str → Option Str) x.1).bind fun a => ((fun x : Int => some (Val.i x)) x.2).bind fun b => some (a, b)) from (cast_p2 (show CastO yStr yStr (some : Str → Option Str) from cast_id) (show CastO yInt (y_Val T) (fun x : Int => some (Val.i x)) from (fun _ _ _ _ h e => by have e := Option.some.inj e; subst e; exact h)))) _ _ _ _ h hz)))) _ _ _ _ h hz)) (ev_fz (en_listD (eva_conss (ev_p2 (K := K) (eva_cons ev_str (eva_cons (ev_add (pj_Val_i T (ev_cast (ev_part po2_1 (pj_El_w T (ev_ixL (ev_li (pj_Any_l T (ev_var (τ := (y_Any T)) rfl h_part) h_460)) ev_int h_462) h_464) ev_int) rfl) h_466) ev_int) eva_nil))) (eva_nils (τ := (yP2 K yStr yInt)))) (by show 1 ≤ sizeLine; decide))) h_468) (fun v Z1 H1 P1 hv => ?_)
              exact q v _ _ P1.st hv
            · replace P := P1
              have hB := ifF b_450 hF
              replace hF := hB
              clear hB
              refine st_next0 ?_
              replace h_part := ((y_Any T)).mono e.z h_part
              obtain ⟨b_480, h_479, hF⟩ := bind_inv hF
              refine st_seq (st_if P (et_andO (et_cmp (ev_lt (ev_var (τ := yInt) rfl h_kind) ev_int)) (fun _ y hy => by
                    obtain ⟨u_471, h_472, hy⟩ := bind_inv hy
                    obtain ⟨b_478, h_477, hy⟩ := bind_inv hy
                    have hy := Option.some.inj hy
                    subst hy
                    exact (et_andO (et_cmp (ev_gt (ev_len (fun _ _ _ h => h) (ev_li (pj_Any_l T (ev_var (τ := (y_Any T)) rfl h_part) h_472))) ev_int)) (fun _ y hy => by
                          obtain ⟨u_473, h_474, hy⟩ := bind_inv hy
                          obtain ⟨i_475, h_476, hy⟩ := bind_inv hy
                          have hy := Option.some.inj hy
                          subst hy
                          exact (et_val (ev_isi (b := i_475.is_tuple) (fun _ _ _ h => h) (ev_ixL (ev_li (pj_Any_l T (ev_var (τ := (y_Any T)) rfl h_part) h_474)) ev_int h_476) (tx_El T) (.ty _) (kit_El_tuple T _)))) h_477)) h_479) (fun b_481 Z1 H1 e P1 => ?_) (fun b_481 Z1 H1 e P1 => ?_))
              · replace P := P1
                have hB := ifT b_481 hF
                replace hF := hB
                clear hB
                replace h_part := ((y_Any T)).mono e.z h_part
                obtain ⟨u_490, h_491, hF⟩ := bind_inv hF
                obtain ⟨i_492, h_493, hF⟩ := bind_inv hF
                obtain ⟨u_494, h_495, hF⟩ := bind_inv hF
                obtain ⟨u_496, h_497, hF⟩ := bind_inv hF
                obtain ⟨u_498, h_499, hF⟩ := bind_inv hF
                replace hF := Option.some.inj hF
                subst hF
                refine st_ret P (ev_castK (show CastO (yList (yP2 K yStr yInt)) (y_Any T) (fun x : (List (Str × Int)) => ((mapO (fun x : (Str × Int) => ((fun x : (Str × Int) => ((some : Str → Option Str) x.1).bind fun a => ((fun x : Int => some (Val.i x)) x.2).bind fun b => some (a, b)) x).map El.w)) x).map Any.l) from (fun _ _ _ _ h e => by obtain ⟨z, hz, e⟩ := Option.map_eq_some_iff.mp e; subst e; exact (show CastO (yList (yP2 K yStr yInt)) (yList (y_El T)) (mapO (fun x : (Str × Int) => ((fun x : (Str × Int) => ((some : Str → Option Str) x.1).bind fun a => ((fun x : Int => some (Val.i x)) x.2).bind fun b => some (a, b)) x).map El.w)) from (cast_list (show CastO (yP2 K yStr yInt) (y_El T) (fun x : (Str × Int) => ((fun x : (Str × Int) => ((some : Str → Option Str) x.1).bind fun a => ((fun x : Int => some (Val.i x)) x.2).bind fun b => some (a, b)) x).map El.w) from (fun _ _ _ _ h e => by obtain ⟨z, hz, e⟩ := Option.map_eq_some_iff.mp e; subst e; exact (show CastO (yP2 K yStr yInt) (yP2 K yStr (y_Val T)) (fun x : (Str × Int) => ((some : Str → Option Str) x.1).bind fun a => ((fun x : Int => some (Val.i x)) x.2).bind fun b => some (a, b)) from (cast_p2 (show CastO yStr yStr (some : Str → Option Str) from cast_id) (show CastO yInt (y_Val T) (fun x : Int => some (Val.i x)) from (fun _ _ _ _ h e => by have e := Option.some.inj e; subst e; exact h)))) _ _ _ _ h hz)))) _ _ _ _ h hz)) (ev_fz (en_listD (eva_conss (ev_p2 (K := K) (eva_cons ev_str (eva_cons (ev_add (pj_Val_i T (ev_cast (ev_part po2_1 (pj_El_w T (ev_ixL (ev_li (pj_Any_l T (ev_var (τ := (y_Any T)) rfl h_part) h_491)) ev_int h_493) h_495) ev_int) rfl) h_497) ev_int) eva_nil))) (eva_nils (τ := (yP2 K yStr yInt)))) (by show 1 ≤ sizeLine; decide))) h_499) (fun v Z1 H1 P1 hv => ?_)
                exact q v _ _ P1.st hv
              · replace P := P1
                have hB := ifF b_481 hF
                replace hF := hB
                clear hB
                refine st_next0 ?_
                replace h_part := ((y_Any T)).mono e.z h_part
                obtain ⟨u_502, h_503, hF⟩ := bind_inv hF
                obtain ⟨g_504, hF⟩ := guard_inv hF
                replace hF := Option.some.inj hF
                subst hF
                refine st_ret P (ij_Any_l T (ev_fz (en_cat (ev_li (pj_Any_l T (ev_var (τ := (y_Any T)) rfl h_part) h_503)) (ev_li (ev_fz (en_listD (eva_conss (ij_El_i T ev_int) (eva_nils (τ := (y_El T)))) (by show 1 ≤ sizeLine; decide)))) g_504))) (fun v Z1 H1 P1 hv => ?_)
                exact q v _ _ P1.st hv
          · replace P := P1
            have hB := ifF b_449 hF
            replace hF := hB
            clear hB
            refine st_next0 ?_
            replace h_part := ((y_Any T)).mono e.z h_part
            obtain ⟨u_507, h_508, hF⟩ := bind_inv hF
            replace hF := Option.some.inj hF
            subst hF
            refine st_ret P (ij_Any_i T (ev_add (pj_Any_i T (ev_var (τ := (y_Any T)) rfl h_part) h_508) ev_int)) (fun v Z1 H1 P1 hv => ?_)
            exact q v _ _ P1.st hv
theorem cs_law_other (T : Txt K mg) {μ : Type} {M : Mu μ} {s : μ} {E : XK} {x_kind : Int} {x_at : Int} {x_part : Any} {y : Any} (h : F_law_other x_kind x_at x_part = some y) : CallS M (sp_law_other T) E (rac (ty yInt x_kind) (rac (ty yInt x_at) (rac (ty (y_Any T) x_part) ra0))) s (ty (y_Any T) y) s := by
  rintro Z H vs sz m ⟨v_kind, _, rfl, h_kind, ⟨v_at, _, rfl, h_at, ⟨v_part, _, rfl, h_part, rfl⟩⟩⟩ Q q
  exact ⟨Z, v_kind, v_at, v_part, x_kind, x_at, x_part, y, rfl, sz, h_kind, h_at, h_part, h, fun v Z2 H2 st hv => q v Z2 H2 st.pure (M.pure st m) hv⟩
def sp_Query___eq__ (T : Txt K mg) : Sp := fun vs H Q _ => ∃ (Z0 : Hp) (v_self : V) (v_other : V) (x_self : Query) (x_other : Oth) (y : Bool), vs = [v_self, v_other] ∧ (Same Z0 H) ∧ (((y_Query T)).r Z0 v_self x_self) ∧ (((y_Oth T)).r Z0 v_other x_other) ∧ (F_Query___eq__ x_self x_other = some y) ∧ ∀ v Z' H', Step [] Z0 H Z' H' → (yBool).r Z' v y → Q v H'
set_option maxHeartbeats 4000000 in
theorem ok_Query___eq__ (T : Txt K mg) : FnOk P w K mg base CX0 1 T.f_Query___eq__ T.d_Query___eq__ ["self", "other"] (sp_Query___eq__ T) := by
  refine T.F_Query___eq__.ok sc_Query___eq__ (fun vs H Q E h => ?_) (fun cdv A outer s H vs Q E hr h => ?_)
  · obtain ⟨Z0, v_self, v_other, x_self, x_other, y, rfl, _⟩ := h
    rfl
  · obtain ⟨Z0, v_self, v_other, x_self, x_other, y, rfl, sz, h_self, h_other, hF, q⟩ := h
    refine ⟨_, (pss_one (ps_ret (pe_and (pe_callB call_isi (by rfl) T.m_isinstance (by decide +kernel) (pa_cons (pv 1) (pa_cons (pe_glob (v := .ref T.c_Query) rfl T.mc_Query rfl) pa_nil))) (pe_and (pe_cmpR (op_eqD hr.units) (pe_fld (pv 0) rfl) (pe_fld (pv 1) rfl) (nomark _)) (pe_and (pe_cmpR op_eq (pe_fld (pv 0) rfl) (pe_fld (pv 1) rfl) (nomark _)) (pe_and (pe_cmpR (op_eqD hr.units) (pe_fld (pv 0) rfl) (pe_fld (pv 1) rfl) (nomark _)) (pe_and (pe_cmpR op_eq (pe_fld (pv 0) rfl) (pe_fld (pv 1) rfl) (nomark _)) (pe_one (pe_cmpR op_eq (pe_fld (pv 0) rfl) (pe_fld (pv 1) rfl) (nomark _)))))))))), ?_⟩
    have P := Pt.start0 sz
    unfold F_Query___eq__ at hF
    obtain ⟨b_540, h_539, hF⟩ := bind_inv hF
    replace hF := Option.some.inj hF
    subst hF
    refine st_ret P (ev_andO (ev_isi (b := x_other.is_Query) (fun _ _ _ h => h) (ev_var (τ := (y_Oth T)) rfl h_other) (tx_Oth T) (.own _) (kit_Oth_Query T _)) (fun _ y hy => by
          obtain ⟨u_521, h_522, hy⟩ := bind_inv hy
          obtain ⟨b_538, h_537, hy⟩ := bind_inv hy
          have hy := Option.some.inj hy
          subst hy
          exact (ev_andO (ev_eqD (eqd_tup eqd_int) (by decide) (ev_fld (fo_Query_vector T) T.cl_Query T.n_Query_vector (ev_var (τ := (y_Query T)) rfl h_self)) (ev_fld (fo_Query_vector T) T.cl_Query T.n_Query_vector (pj_Oth_query T (ev_var (τ := (y_Oth T)) rfl h_other) h_522))) (fun _ y hy => by
                obtain ⟨u_523, h_524, hy⟩ := bind_inv hy
                obtain ⟨b_536, h_535, hy⟩ := bind_inv hy
                have hy := Option.some.inj hy
                subst hy
                exact (ev_andO (ev_eq flat_int (ev_fld (fo_Query_near T) T.cl_Query T.n_Query_near (ev_var (τ := (y_Query T)) rfl h_self)) (ev_fld (fo_Query_near T) T.cl_Query T.n_Query_near (pj_Oth_query T (ev_var (τ := (y_Oth T)) rfl h_other) h_524))) (fun _ y hy => by
                      obtain ⟨u_525, h_526, hy⟩ := bind_inv hy
                      obtain ⟨b_534, h_533, hy⟩ := bind_inv hy
                      have hy := Option.some.inj hy
                      subst hy
                      exact (ev_andO (ev_eqD (eqd_tup (eqd_p2 eqd_str eqd_int)) (by decide) (ev_fld (fo_Query_words T) T.cl_Query T.n_Query_words (ev_var (τ := (y_Query T)) rfl h_self)) (ev_fld (fo_Query_words T) T.cl_Query T.n_Query_words (pj_Oth_query T (ev_var (τ := (y_Oth T)) rfl h_other) h_526))) (fun _ y hy => by
                            obtain ⟨u_527, h_528, hy⟩ := bind_inv hy
                            obtain ⟨b_532, h_531, hy⟩ := bind_inv hy
                            have hy := Option.some.inj hy
                            subst hy
                            exact (ev_andO (ev_eq flat_str (ev_fld (fo_Query_text T) T.cl_Query T.n_Query_text (ev_var (τ := (y_Query T)) rfl h_self)) (ev_fld (fo_Query_text T) T.cl_Query T.n_Query_text (pj_Oth_query T (ev_var (τ := (y_Oth T)) rfl h_other) h_528))) (fun _ y hy => by
                                  obtain ⟨u_529, h_530, hy⟩ := bind_inv hy
                                  have hy := Option.some.inj hy
                                  subst hy
                                  exact (ev_eq flat_int (ev_fld (fo_Query_most T) T.cl_Query T.n_Query_most (ev_var (τ := (y_Query T)) rfl h_self)) (ev_fld (fo_Query_most T) T.cl_Query T.n_Query_most (pj_Oth_query T (ev_var (τ := (y_Oth T)) rfl h_other) h_530)))) h_531)) h_533)) h_535)) h_537)) h_539) (fun v Z1 H1 P1 hv => ?_)
    exact q v _ _ P1.st hv
theorem cs_Query___eq__ (T : Txt K mg) {μ : Type} {M : Mu μ} {s : μ} {E : XK} {x_self : Query} {x_other : Oth} {y : Bool} (h : F_Query___eq__ x_self x_other = some y) : CallS M (sp_Query___eq__ T) E (rac (ty (y_Query T) x_self) (rac (ty (y_Oth T) x_other) ra0)) s (ty yBool y) s := by
  rintro Z H vs sz m ⟨v_self, _, rfl, h_self, ⟨v_other, _, rfl, h_other, rfl⟩⟩ Q q
  exact ⟨Z, v_self, v_other, x_self, x_other, y, rfl, sz, h_self, h_other, h, fun v Z2 H2 st hv => q v Z2 H2 st.pure (M.pure st m) hv⟩
def sp_Bound___eq__ (T : Txt K mg) : Sp := fun vs H Q _ => ∃ (Z0 : Hp) (v_self : V) (v_other : V) (x_self : Bound) (x_other : Oth) (y : Bool), vs = [v_self, v_other] ∧ (Same Z0 H) ∧ (((y_Bound T)).r Z0 v_self x_self) ∧ (((y_Oth T)).r Z0 v_other x_other) ∧ (F_Bound___eq__ x_self x_other = some y) ∧ ∀ v Z' H', Step [] Z0 H Z' H' → (yBool).r Z' v y → Q v H'
set_option maxHeartbeats 4000000 in
theorem ok_Bound___eq__ (T : Txt K mg) : FnOk P w K mg base CX0 1 T.f_Bound___eq__ T.d_Bound___eq__ ["self", "other"] (sp_Bound___eq__ T) := by
  refine T.F_Bound___eq__.ok sc_Bound___eq__ (fun vs H Q E h => ?_) (fun cdv A outer s H vs Q E hr h => ?_)
  · obtain ⟨Z0, v_self, v_other, x_self, x_other, y, rfl, _⟩ := h
    rfl
  · obtain ⟨Z0, v_self, v_other, x_self, x_other, y, rfl, sz, h_self, h_other, hF, q⟩ := h
    refine ⟨_, (pss_one (ps_ret (pe_and (pe_callB call_isi (by rfl) T.m_isinstance (by decide +kernel) (pa_cons (pv 1) (pa_cons (pe_glob (v := .ref T.c_Bound) rfl T.mc_Bound rfl) pa_nil))) (pe_and (pe_cmpR (op_eqD hr.units) (pe_fld (pv 0) rfl) (pe_fld (pv 1) rfl) (nomark _)) (pe_and (pe_cmpR op_eq (pe_fld (pv 0) rfl) (pe_fld (pv 1) rfl) (nomark _)) (pe_one (pe_cmpR op_eq (pe_fld (pv 0) rfl) (pe_fld (pv 1) rfl) (nomark _)))))))), ?_⟩
    have P := Pt.start0 sz
    unfold F_Bound___eq__ at hF
    obtain ⟨b_560, h_559, hF⟩ := bind_inv hF
    replace hF := Option.some.inj hF
    subst hF
    refine st_ret P (ev_andO (ev_isi (b := x_other.is_Bound) (fun _ _ _ h => h) (ev_var (τ := (y_Oth T)) rfl h_other) (tx_Oth T) (.own _) (kit_Oth_Bound T _)) (fun _ y hy => by
          obtain ⟨u_549, h_550, hy⟩ := bind_inv hy
          obtain ⟨b_558, h_557, hy⟩ := bind_inv hy
          have hy := Option.some.inj hy
          subst hy
          exact (ev_andO (ev_eqD (eqd_opt eqd_int (fun _ z => nomatch z)) (by decide) (ev_fld (fo_Bound_cost T) T.cl_Bound T.n_Bound_cost (ev_var (τ := (y_Bound T)) rfl h_self)) (ev_fld (fo_Bound_cost T) T.cl_Bound T.n_Bound_cost (pj_Oth_bound T (ev_var (τ := (y_Oth T)) rfl h_other) h_550))) (fun _ y hy => by
                obtain ⟨u_551, h_552, hy⟩ := bind_inv hy
                obtain ⟨b_556, h_555, hy⟩ := bind_inv hy
                have hy := Option.some.inj hy
                subst hy
                exact (ev_andO (ev_eq flat_str (ev_fld (fo_Bound_name T) T.cl_Bound T.n_Bound_name (ev_var (τ := (y_Bound T)) rfl h_self)) (ev_fld (fo_Bound_name T) T.cl_Bound T.n_Bound_name (pj_Oth_bound T (ev_var (τ := (y_Oth T)) rfl h_other) h_552))) (fun _ y hy => by
                      obtain ⟨u_553, h_554, hy⟩ := bind_inv hy
                      have hy := Option.some.inj hy
                      subst hy
                      exact (ev_eq flat_bool (ev_fld (fo_Bound_can T) T.cl_Bound T.n_Bound_can (ev_var (τ := (y_Bound T)) rfl h_self)) (ev_fld (fo_Bound_can T) T.cl_Bound T.n_Bound_can (pj_Oth_bound T (ev_var (τ := (y_Oth T)) rfl h_other) h_554)))) h_555)) h_557)) h_559) (fun v Z1 H1 P1 hv => ?_)
    exact q v _ _ P1.st hv
theorem cs_Bound___eq__ (T : Txt K mg) {μ : Type} {M : Mu μ} {s : μ} {E : XK} {x_self : Bound} {x_other : Oth} {y : Bool} (h : F_Bound___eq__ x_self x_other = some y) : CallS M (sp_Bound___eq__ T) E (rac (ty (y_Bound T) x_self) (rac (ty (y_Oth T) x_other) ra0)) s (ty yBool y) s := by
  rintro Z H vs sz m ⟨v_self, _, rfl, h_self, ⟨v_other, _, rfl, h_other, rfl⟩⟩ Q q
  exact ⟨Z, v_self, v_other, x_self, x_other, y, rfl, sz, h_self, h_other, h, fun v Z2 H2 st hv => q v Z2 H2 st.pure (M.pure st m) hv⟩
def sp_Part___eq__ (T : Txt K mg) : Sp := fun vs H Q _ => ∃ (Z0 : Hp) (v_self : V) (v_other : V) (x_self : Part) (x_other : Oth) (y : Bool), vs = [v_self, v_other] ∧ (Same Z0 H) ∧ (((y_Part T)).r Z0 v_self x_self) ∧ (((y_Oth T)).r Z0 v_other x_other) ∧ (F_Part___eq__ x_self x_other = some y) ∧ ∀ v Z' H', Step [] Z0 H Z' H' → (yBool).r Z' v y → Q v H'
set_option maxHeartbeats 4000000 in
theorem ok_Part___eq__ (T : Txt K mg) : FnOk P w K mg base CX0 1 T.f_Part___eq__ T.d_Part___eq__ ["self", "other"] (sp_Part___eq__ T) := by
  refine T.F_Part___eq__.ok sc_Part___eq__ (fun vs H Q E h => ?_) (fun cdv A outer s H vs Q E hr h => ?_)
  · obtain ⟨Z0, v_self, v_other, x_self, x_other, y, rfl, _⟩ := h
    rfl
  · obtain ⟨Z0, v_self, v_other, x_self, x_other, y, rfl, sz, h_self, h_other, hF, q⟩ := h
    refine ⟨_, (pss_one (ps_ret (pe_and (pe_callB call_isi (by rfl) T.m_isinstance (by decide +kernel) (pa_cons (pv 1) (pa_cons (pe_glob (v := .ref T.c_Part) rfl T.mc_Part rfl) pa_nil))) (pe_and (pe_cmpR op_eq (pe_fld (pv 0) rfl) (pe_fld (pv 1) rfl) (nomark _)) (pe_and (pe_cmpR (op_eqD hr.units) (pe_fld (pv 0) rfl) (pe_fld (pv 1) rfl) (nomark _)) (pe_one (pe_cmpR op_eq (pe_fld (pv 0) rfl) (pe_fld (pv 1) rfl) (nomark _)))))))), ?_⟩
    have P := Pt.start0 sz
    unfold F_Part___eq__ at hF
    obtain ⟨b_580, h_579, hF⟩ := bind_inv hF
    replace hF := Option.some.inj hF
    subst hF
    refine st_ret P (ev_andO (ev_isi (b := x_other.is_Part) (fun _ _ _ h => h) (ev_var (τ := (y_Oth T)) rfl h_other) (tx_Oth T) (.own _) (kit_Oth_Part T _)) (fun _ y hy => by
          obtain ⟨u_569, h_570, hy⟩ := bind_inv hy
          obtain ⟨b_578, h_577, hy⟩ := bind_inv hy
          have hy := Option.some.inj hy
          subst hy
          exact (ev_andO (ev_eq flat_int (ev_fld (fo_Part_start T) T.cl_Part T.n_Part_start (ev_var (τ := (y_Part T)) rfl h_self)) (ev_fld (fo_Part_start T) T.cl_Part T.n_Part_start (pj_Oth_part T (ev_var (τ := (y_Oth T)) rfl h_other) h_570))) (fun _ y hy => by
                obtain ⟨u_571, h_572, hy⟩ := bind_inv hy
                obtain ⟨b_576, h_575, hy⟩ := bind_inv hy
                have hy := Option.some.inj hy
                subst hy
                exact (ev_andO (ev_eqD (eqd_tup eqd_int) (by decide) (ev_fld (fo_Part_centre T) T.cl_Part T.n_Part_centre (ev_var (τ := (y_Part T)) rfl h_self)) (ev_fld (fo_Part_centre T) T.cl_Part T.n_Part_centre (pj_Oth_part T (ev_var (τ := (y_Oth T)) rfl h_other) h_572))) (fun _ y hy => by
                      obtain ⟨u_573, h_574, hy⟩ := bind_inv hy
                      have hy := Option.some.inj hy
                      subst hy
                      exact (ev_eq flat_int (ev_fld (fo_Part_radius T) T.cl_Part T.n_Part_radius (ev_var (τ := (y_Part T)) rfl h_self)) (ev_fld (fo_Part_radius T) T.cl_Part T.n_Part_radius (pj_Oth_part T (ev_var (τ := (y_Oth T)) rfl h_other) h_574)))) h_575)) h_577)) h_579) (fun v Z1 H1 P1 hv => ?_)
    exact q v _ _ P1.st hv
theorem cs_Part___eq__ (T : Txt K mg) {μ : Type} {M : Mu μ} {s : μ} {E : XK} {x_self : Part} {x_other : Oth} {y : Bool} (h : F_Part___eq__ x_self x_other = some y) : CallS M (sp_Part___eq__ T) E (rac (ty (y_Part T) x_self) (rac (ty (y_Oth T) x_other) ra0)) s (ty yBool y) s := by
  rintro Z H vs sz m ⟨v_self, _, rfl, h_self, ⟨v_other, _, rfl, h_other, rfl⟩⟩ Q q
  exact ⟨Z, v_self, v_other, x_self, x_other, y, rfl, sz, h_self, h_other, h, fun v Z2 H2 st hv => q v Z2 H2 st.pure (M.pure st m) hv⟩
def sp_Norms___eq__ (T : Txt K mg) : Sp := fun vs H Q _ => ∃ (Z0 : Hp) (v_self : V) (v_other : V) (x_self : Norms) (x_other : Oth) (y : Bool), vs = [v_self, v_other] ∧ (Same Z0 H) ∧ (((y_Norms T)).r Z0 v_self x_self) ∧ (((y_Oth T)).r Z0 v_other x_other) ∧ (F_Norms___eq__ x_self x_other = some y) ∧ ∀ v Z' H', Step [] Z0 H Z' H' → (yBool).r Z' v y → Q v H'
set_option maxHeartbeats 4000000 in
theorem ok_Norms___eq__ (T : Txt K mg) : FnOk P w K mg base CX0 1 T.f_Norms___eq__ T.d_Norms___eq__ ["self", "other"] (sp_Norms___eq__ T) := by
  refine T.F_Norms___eq__.ok sc_Norms___eq__ (fun vs H Q E h => ?_) (fun cdv A outer s H vs Q E hr h => ?_)
  · obtain ⟨Z0, v_self, v_other, x_self, x_other, y, rfl, _⟩ := h
    rfl
  · obtain ⟨Z0, v_self, v_other, x_self, x_other, y, rfl, sz, h_self, h_other, hF, q⟩ := h
    refine ⟨_, (pss_one (ps_ret (pe_and (pe_callB call_isi (by rfl) T.m_isinstance (by decide +kernel) (pa_cons (pv 1) (pa_cons (pe_glob (v := .ref T.c_Norms) rfl T.mc_Norms rfl) pa_nil))) (pe_and (pe_cmpR op_eq (pe_fld (pv 0) rfl) (pe_fld (pv 1) rfl) (nomark _)) (pe_one (pe_cmpR op_eq (pe_fld (pv 0) rfl) (pe_fld (pv 1) rfl) (nomark _))))))), ?_⟩
    have P := Pt.start0 sz
    unfold F_Norms___eq__ at hF
    obtain ⟨b_594, h_593, hF⟩ := bind_inv hF
    replace hF := Option.some.inj hF
    subst hF
    refine st_ret P (ev_andO (ev_isi (b := x_other.is_Norms) (fun _ _ _ h => h) (ev_var (τ := (y_Oth T)) rfl h_other) (tx_Oth T) (.own _) (kit_Oth_Norms T _)) (fun _ y hy => by
          obtain ⟨u_587, h_588, hy⟩ := bind_inv hy
          obtain ⟨b_592, h_591, hy⟩ := bind_inv hy
          have hy := Option.some.inj hy
          subst hy
          exact (ev_andO (ev_eq flat_int (ev_fld (fo_Norms_low T) T.cl_Norms T.n_Norms_low (ev_var (τ := (y_Norms T)) rfl h_self)) (ev_fld (fo_Norms_low T) T.cl_Norms T.n_Norms_low (pj_Oth_norms T (ev_var (τ := (y_Oth T)) rfl h_other) h_588))) (fun _ y hy => by
                obtain ⟨u_589, h_590, hy⟩ := bind_inv hy
                have hy := Option.some.inj hy
                subst hy
                exact (ev_eq flat_int (ev_fld (fo_Norms_high T) T.cl_Norms T.n_Norms_high (ev_var (τ := (y_Norms T)) rfl h_self)) (ev_fld (fo_Norms_high T) T.cl_Norms T.n_Norms_high (pj_Oth_norms T (ev_var (τ := (y_Oth T)) rfl h_other) h_590)))) h_591)) h_593) (fun v Z1 H1 P1 hv => ?_)
    exact q v _ _ P1.st hv
theorem cs_Norms___eq__ (T : Txt K mg) {μ : Type} {M : Mu μ} {s : μ} {E : XK} {x_self : Norms} {x_other : Oth} {y : Bool} (h : F_Norms___eq__ x_self x_other = some y) : CallS M (sp_Norms___eq__ T) E (rac (ty (y_Norms T) x_self) (rac (ty (y_Oth T) x_other) ra0)) s (ty yBool y) s := by
  rintro Z H vs sz m ⟨v_self, _, rfl, h_self, ⟨v_other, _, rfl, h_other, rfl⟩⟩ Q q
  exact ⟨Z, v_self, v_other, x_self, x_other, y, rfl, sz, h_self, h_other, h, fun v Z2 H2 st hv => q v Z2 H2 st.pure (M.pure st m) hv⟩
theorem ref_Norms (T : Txt K mg) : ∀ Z v x, (y_Norms T).r Z v x → ∃ a, v = .ref a := fun _ _ _ ⟨a, _, _, _, e, _⟩ => ⟨a, e⟩
theorem fn_Norms {X : Cx} (T : Txt K mg) (hK : X.K = K) : FnI X (y_Norms T) := fun pins σ s Z H v x y I sz ⟨a, dx, w0, w1, e, h, h0, h1⟩ ⟨c, dy, u0, u1, e2, h2, g0, g1⟩ => by
  subst hK; cases e; cases e2
  rw [h] at h2
  have e3 := Option.some.inj h2
  injection e3 with _ _ e3
  have lk : ∀ m, (ff_Norms w0 w1).lookup m = (ff_Norms u0 u1).lookup m := fun m => by rw [e3]
  have q0 := lk "low"
  rw [lk_Norms_low, lk_Norms_low] at q0
  cases q0
  have q1 := lk "high"
  rw [lk_Norms_high, lk_Norms_high] at q1
  cases q1
  cases x; cases y
  simp only [Norms.mk.injEq]
  exact ⟨fn_int pins σ s Z H _ _ _ I sz h0 g0, fn_int pins σ s Z H _ _ _ I sz h1 g1⟩
theorem hsp_Norms (T : Txt K mg) : ∀ vs H Q E, TPQ.spEqB (FTr (y_Norms T)) vs H Q E → sp_Norms___eq__ T vs H Q E := by
  rintro vs H Q E ⟨a, c, b, rfl, ⟨Z, x, y, sz, r1, r2, rfl⟩, k⟩
  refine ⟨Z, _, _, x, (Oth.norms y), _, rfl, sz, r1, r2, eq_Norms x y, fun v Z' H' st hv => ?_⟩
  have hv2 : v = V.bl (decide (x = y)) := hv
  rw [hv2]
  exact k H' fun p o h => st.h p o List.not_mem_nil h
def sp_Region___eq__ (T : Txt K mg) : Sp := fun vs H Q _ => ∃ (Z0 : Hp) (v_self : V) (v_other : V) (x_self : Region) (x_other : Oth) (y : Bool), vs = [v_self, v_other] ∧ (Same Z0 H) ∧ (((y_Region T)).r Z0 v_self x_self) ∧ (((y_Oth T)).r Z0 v_other x_other) ∧ (F_Region___eq__ x_self x_other = some y) ∧ ∀ v Z' H', Step [] Z0 H Z' H' → (yBool).r Z' v y → Q v H'
set_option maxHeartbeats 4000000 in
theorem ok_Region___eq__ (T : Txt K mg) : FnOk P w K mg base CX0 3 T.f_Region___eq__ T.d_Region___eq__ ["self", "other"] (sp_Region___eq__ T) := by
  have G_Norms___eq__ : FnOk P w K mg base CX0 1 T.f_Norms___eq__ T.d_Norms___eq__ ["self", "other"] (sp_Norms___eq__ T) := ok_Norms___eq__ T
  refine T.F_Region___eq__.ok sc_Region___eq__ (fun vs H Q E h => ?_) (fun cdv A outer s H vs Q E hr h => ?_)
  · obtain ⟨Z0, v_self, v_other, x_self, x_other, y, rfl, _⟩ := h
    rfl
  · obtain ⟨Z0, v_self, v_other, x_self, x_other, y, rfl, sz, h_self, h_other, hF, q⟩ := h
    refine ⟨_, (pss_one (ps_ret (pe_and (pe_callB call_isi (by rfl) T.m_isinstance (by decide +kernel) (pa_cons (pv 1) (pa_cons (pe_glob (v := .ref T.c_Region) rfl T.mc_Region rfl) pa_nil))) (pe_and (pe_cmpR (op_eqD hr.units) (pe_fld (pv 0) rfl) (pe_fld (pv 1) rfl) (nomark _)) (pe_one (pe_cmpR (TPQ.op_eqB (rcT_tup false (eqT_of (fn_Norms T rfl) (ref_Norms T) (rcT_obj (ins_Norms T) G_Norms___eq__ (hsp_Norms T) T.me_Norms___eq__ T.b_Norms___eq__ pass0))) (hr.mono (by decide))) (pe_fld (pv 0) rfl) (pe_fld (pv 1) rfl) (nomark _))))))), ?_⟩
    have P := Pt.start0 sz
    unfold F_Region___eq__ at hF
    obtain ⟨b_608, h_607, hF⟩ := bind_inv hF
    replace hF := Option.some.inj hF
    subst hF
    refine st_ret P (ev_andO (ev_isi (b := x_other.is_Region) (fun _ _ _ h => h) (ev_var (τ := (y_Oth T)) rfl h_other) (tx_Oth T) (.own _) (kit_Oth_Region T _)) (fun _ y hy => by
          obtain ⟨u_601, h_602, hy⟩ := bind_inv hy
          obtain ⟨b_606, h_605, hy⟩ := bind_inv hy
          have hy := Option.some.inj hy
          subst hy
          exact (ev_andO (ev_eqD (eqd_opt eqd_int (fun _ z => nomatch z)) (by decide) (ev_fld (fo_Region_parent T) T.cl_Region T.n_Region_parent (ev_var (τ := (y_Region T)) rfl h_self)) (ev_fld (fo_Region_parent T) T.cl_Region T.n_Region_parent (pj_Oth_region T (ev_var (τ := (y_Oth T)) rfl h_other) h_602))) (fun _ y hy => by
                obtain ⟨u_603, h_604, hy⟩ := bind_inv hy
                have hy := Option.some.inj hy
                subst hy
                exact (ev_cast (ev_cmpO (neg := false) (ev_fld (fo_Region_facts T) T.cl_Region T.n_Region_facts (ev_var (τ := (y_Region T)) rfl h_self)) (ev_fld (fo_Region_facts T) T.cl_Region T.n_Region_facts (pj_Oth_region T (ev_var (τ := (y_Oth T)) rfl h_other) h_604))) bneF)) h_605)) h_607) (fun v Z1 H1 P1 hv => ?_)
    exact q v _ _ P1.st hv
theorem cs_Region___eq__ (T : Txt K mg) {μ : Type} {M : Mu μ} {s : μ} {E : XK} {x_self : Region} {x_other : Oth} {y : Bool} (h : F_Region___eq__ x_self x_other = some y) : CallS M (sp_Region___eq__ T) E (rac (ty (y_Region T) x_self) (rac (ty (y_Oth T) x_other) ra0)) s (ty yBool y) s := by
  rintro Z H vs sz m ⟨v_self, _, rfl, h_self, ⟨v_other, _, rfl, h_other, rfl⟩⟩ Q q
  exact ⟨Z, v_self, v_other, x_self, x_other, y, rfl, sz, h_self, h_other, h, fun v Z2 H2 st hv => q v Z2 H2 st.pure (M.pure st m) hv⟩
theorem ref_Region (T : Txt K mg) : ∀ Z v x, (y_Region T).r Z v x → ∃ a, v = .ref a := fun _ _ _ ⟨a, _, _, _, e, _⟩ => ⟨a, e⟩
theorem fn_Region {X : Cx} (T : Txt K mg) (hK : X.K = K) : FnI X (y_Region T) := fun pins σ s Z H v x y I sz ⟨a, dx, w0, w1, e, h, h0, h1⟩ ⟨c, dy, u0, u1, e2, h2, g0, g1⟩ => by
  subst hK; cases e; cases e2
  rw [h] at h2
  have e3 := Option.some.inj h2
  injection e3 with _ _ e3
  have lk : ∀ m, (ff_Region w0 w1).lookup m = (ff_Region u0 u1).lookup m := fun m => by rw [e3]
  have q0 := lk "parent"
  rw [lk_Region_parent, lk_Region_parent] at q0
  cases q0
  have q1 := lk "facts"
  rw [lk_Region_facts, lk_Region_facts] at q1
  cases q1
  cases x; cases y
  simp only [Region.mk.injEq]
  exact ⟨(fn_opt fn_int) pins σ s Z H _ _ _ I sz h0 g0, (fn_tup (fn_Norms T rfl)) pins σ s Z H _ _ _ I sz h1 g1⟩
theorem hsp_Region (T : Txt K mg) : ∀ vs H Q E, TPQ.spEqB (FTr (y_Region T)) vs H Q E → sp_Region___eq__ T vs H Q E := by
  rintro vs H Q E ⟨a, c, b, rfl, ⟨Z, x, y, sz, r1, r2, rfl⟩, k⟩
  refine ⟨Z, _, _, x, (Oth.region y), _, rfl, sz, r1, r2, eq_Region x y, fun v Z' H' st hv => ?_⟩
  have hv2 : v = V.bl (decide (x = y)) := hv
  rw [hv2]
  exact k H' fun p o h => st.h p o List.not_mem_nil h
def sp_Entry___eq__ (T : Txt K mg) : Sp := fun vs H Q _ => ∃ (Z0 : Hp) (v_self : V) (v_other : V) (x_self : Entry) (x_other : Oth) (y : Bool), vs = [v_self, v_other] ∧ (Same Z0 H) ∧ (((y_Entry T)).r Z0 v_self x_self) ∧ (((y_Oth T)).r Z0 v_other x_other) ∧ (F_Entry___eq__ x_self x_other = some y) ∧ ∀ v Z' H', Step [] Z0 H Z' H' → (yBool).r Z' v y → Q v H'
set_option maxHeartbeats 4000000 in
theorem ok_Entry___eq__ (T : Txt K mg) : FnOk P w K mg base CX0 4 T.f_Entry___eq__ T.d_Entry___eq__ ["self", "other"] (sp_Entry___eq__ T) := by
  have G_Record___eq__ : FnOk P w K mg base CX0 3 T.f_Record___eq__ T.d_Record___eq__ ["self", "other"] (sp_Record___eq__ T) := ok_Record___eq__ T
  refine T.F_Entry___eq__.ok sc_Entry___eq__ (fun vs H Q E h => ?_) (fun cdv A outer s H vs Q E hr h => ?_)
  · obtain ⟨Z0, v_self, v_other, x_self, x_other, y, rfl, _⟩ := h
    rfl
  · obtain ⟨Z0, v_self, v_other, x_self, x_other, y, rfl, sz, h_self, h_other, hF, q⟩ := h
    refine ⟨_, (pss_one (ps_ret (pe_and (pe_callB call_isi (by rfl) T.m_isinstance (by decide +kernel) (pa_cons (pv 1) (pa_cons (pe_glob (v := .ref T.c_Entry) rfl T.mc_Entry rfl) pa_nil))) (pe_and (pe_cmpR op_eq (pe_fld (pv 0) rfl) (pe_fld (pv 1) rfl) (nomark _)) (pe_and (pe_cmpR (TPN.op_ownE T.me_Record___eq__ G_Record___eq__ (hr.mono (by decide)) T.b_Record___eq__ pass0) (pe_fld (pv 0) rfl) (pe_fld (pv 1) rfl) (nomark _)) (pe_one (pe_cmpR (op_eqD hr.units) (pe_fld (pv 0) rfl) (pe_fld (pv 1) rfl) (nomark _)))))))), ?_⟩
    have P := Pt.start0 sz
    unfold F_Entry___eq__ at hF
    obtain ⟨b_632, h_631, hF⟩ := bind_inv hF
    replace hF := Option.some.inj hF
    subst hF
    refine st_ret P (ev_andO (ev_isi (b := x_other.is_Entry) (fun _ _ _ h => h) (ev_var (τ := (y_Oth T)) rfl h_other) (tx_Oth T) (.own _) (kit_Oth_Entry T _)) (fun _ y hy => by
          obtain ⟨u_619, h_620, hy⟩ := bind_inv hy
          obtain ⟨b_630, h_629, hy⟩ := bind_inv hy
          have hy := Option.some.inj hy
          subst hy
          exact (ev_andO (ev_eq flat_int (ev_fld (fo_Entry_number T) T.cl_Entry T.n_Entry_number (ev_var (τ := (y_Entry T)) rfl h_self)) (ev_fld (fo_Entry_number T) T.cl_Entry T.n_Entry_number (pj_Oth_entry T (ev_var (τ := (y_Oth T)) rfl h_other) h_620))) (fun _ y hy => by
                obtain ⟨u_621, h_622, hy⟩ := bind_inv hy
                obtain ⟨r_623, h_624, hy⟩ := bind_inv hy
                obtain ⟨b_628, h_627, hy⟩ := bind_inv hy
                have hy := Option.some.inj hy
                subst hy
                exact (ev_andO (ev_cast (ev_ownE (neg := false) (ins_Record T) (tx_Oth T) (nfs_Record_Oth T _) (cs_Record___eq__ T h_624) (ev_fld (fo_Entry_record T) T.cl_Entry T.n_Entry_record (ev_var (τ := (y_Entry T)) rfl h_self)) (ij_Oth_record T (ev_fld (fo_Entry_record T) T.cl_Entry T.n_Entry_record (pj_Oth_entry T (ev_var (τ := (y_Oth T)) rfl h_other) h_622)))) bneF) (fun _ y hy => by
                      obtain ⟨u_625, h_626, hy⟩ := bind_inv hy
                      have hy := Option.some.inj hy
                      subst hy
                      exact (ev_eqD (eqd_tup eqd_int) (by decide) (ev_fld (fo_Entry_leaves T) T.cl_Entry T.n_Entry_leaves (ev_var (τ := (y_Entry T)) rfl h_self)) (ev_fld (fo_Entry_leaves T) T.cl_Entry T.n_Entry_leaves (pj_Oth_entry T (ev_var (τ := (y_Oth T)) rfl h_other) h_626)))) h_627)) h_629)) h_631) (fun v Z1 H1 P1 hv => ?_)
    exact q v _ _ P1.st hv
theorem cs_Entry___eq__ (T : Txt K mg) {μ : Type} {M : Mu μ} {s : μ} {E : XK} {x_self : Entry} {x_other : Oth} {y : Bool} (h : F_Entry___eq__ x_self x_other = some y) : CallS M (sp_Entry___eq__ T) E (rac (ty (y_Entry T) x_self) (rac (ty (y_Oth T) x_other) ra0)) s (ty yBool y) s := by
  rintro Z H vs sz m ⟨v_self, _, rfl, h_self, ⟨v_other, _, rfl, h_other, rfl⟩⟩ Q q
  exact ⟨Z, v_self, v_other, x_self, x_other, y, rfl, sz, h_self, h_other, h, fun v Z2 H2 st hv => q v Z2 H2 st.pure (M.pure st m) hv⟩
theorem ref_Entry (T : Txt K mg) : ∀ Z v x, (y_Entry T).r Z v x → ∃ a, v = .ref a := fun _ _ _ ⟨a, _, _, _, _, e, _⟩ => ⟨a, e⟩
theorem fn_Entry {X : Cx} (T : Txt K mg) (hK : X.K = K) : FnI X (y_Entry T) := fun pins σ s Z H v x y I sz ⟨a, dx, w0, w1, w2, e, h, h0, h1, h2⟩ ⟨c, dy, u0, u1, u2, e2, h2, g0, g1, g2⟩ => by
  subst hK; cases e; cases e2
  rw [h] at h2
  have e3 := Option.some.inj h2
  injection e3 with _ _ e3
  have lk : ∀ m, (ff_Entry w0 w1 w2).lookup m = (ff_Entry u0 u1 u2).lookup m := fun m => by rw [e3]
  have q0 := lk "number"
  rw [lk_Entry_number, lk_Entry_number] at q0
  cases q0
  have q1 := lk "record"
  rw [lk_Entry_record, lk_Entry_record] at q1
  cases q1
  have q2 := lk "leaves"
  rw [lk_Entry_leaves, lk_Entry_leaves] at q2
  cases q2
  cases x; cases y
  simp only [Entry.mk.injEq]
  exact ⟨fn_int pins σ s Z H _ _ _ I sz h0 g0, (fn_Record T rfl) pins σ s Z H _ _ _ I sz h1 g1, (fn_tup fn_int) pins σ s Z H _ _ _ I sz h2 g2⟩
theorem hsp_Entry (T : Txt K mg) : ∀ vs H Q E, TPQ.spEqB (FTr (y_Entry T)) vs H Q E → sp_Entry___eq__ T vs H Q E := by
  rintro vs H Q E ⟨a, c, b, rfl, ⟨Z, x, y, sz, r1, r2, rfl⟩, k⟩
  refine ⟨Z, _, _, x, (Oth.entry y), _, rfl, sz, r1, r2, eq_Entry x y, fun v Z' H' st hv => ?_⟩
  have hv2 : v = V.bl (decide (x = y)) := hv
  rw [hv2]
  exact k H' fun p o h => st.h p o List.not_mem_nil h
def sp_Offer___eq__ (T : Txt K mg) : Sp := fun vs H Q _ => ∃ (Z0 : Hp) (v_self : V) (v_other : V) (x_self : Offer) (x_other : Oth) (y : Bool), vs = [v_self, v_other] ∧ (Same Z0 H) ∧ (((y_Offer T)).r Z0 v_self x_self) ∧ (((y_Oth T)).r Z0 v_other x_other) ∧ (F_Offer___eq__ x_self x_other = some y) ∧ ∀ v Z' H', Step [] Z0 H Z' H' → (yBool).r Z' v y → Q v H'
set_option maxHeartbeats 4000000 in
theorem ok_Offer___eq__ (T : Txt K mg) : FnOk P w K mg base CX0 6 T.f_Offer___eq__ T.d_Offer___eq__ ["self", "other"] (sp_Offer___eq__ T) := by
  have G_Region___eq__ : FnOk P w K mg base CX0 3 T.f_Region___eq__ T.d_Region___eq__ ["self", "other"] (sp_Region___eq__ T) := ok_Region___eq__ T
  have G_Entry___eq__ : FnOk P w K mg base CX0 4 T.f_Entry___eq__ T.d_Entry___eq__ ["self", "other"] (sp_Entry___eq__ T) := ok_Entry___eq__ T
  refine T.F_Offer___eq__.ok sc_Offer___eq__ (fun vs H Q E h => ?_) (fun cdv A outer s H vs Q E hr h => ?_)
  · obtain ⟨Z0, v_self, v_other, x_self, x_other, y, rfl, _⟩ := h
    rfl
  · obtain ⟨Z0, v_self, v_other, x_self, x_other, y, rfl, sz, h_self, h_other, hF, q⟩ := h
    refine ⟨_, (pss_one (ps_ret (pe_and (pe_callB call_isi (by rfl) T.m_isinstance (by decide +kernel) (pa_cons (pv 1) (pa_cons (pe_glob (v := .ref T.c_Offer) rfl T.mc_Offer rfl) pa_nil))) (pe_and (pe_cmpR (TPQ.op_eqB (rcT_tup false (eqT_tup (fn_Region T rfl) (eqT_of (fn_Region T rfl) (ref_Region T) (rcT_obj (ins_Region T) G_Region___eq__ (hsp_Region T) T.me_Region___eq__ T.b_Region___eq__ pass0)))) (hr.mono (by decide))) (pe_fld (pv 0) rfl) (pe_fld (pv 1) rfl) (nomark _)) (pe_one (pe_cmpR (TPQ.op_eqB (rcT_tup false (eqT_of (fn_Entry T rfl) (ref_Entry T) (rcT_obj (ins_Entry T) G_Entry___eq__ (hsp_Entry T) T.me_Entry___eq__ T.b_Entry___eq__ pass0))) (hr.mono (by decide))) (pe_fld (pv 0) rfl) (pe_fld (pv 1) rfl) (nomark _))))))), ?_⟩
    have P := Pt.start0 sz
    unfold F_Offer___eq__ at hF
    obtain ⟨b_646, h_645, hF⟩ := bind_inv hF
    replace hF := Option.some.inj hF
    subst hF
    refine st_ret P (ev_andO (ev_isi (b := x_other.is_Offer) (fun _ _ _ h => h) (ev_var (τ := (y_Oth T)) rfl h_other) (tx_Oth T) (.own _) (kit_Oth_Offer T _)) (fun _ y hy => by
          obtain ⟨u_639, h_640, hy⟩ := bind_inv hy
          obtain ⟨b_644, h_643, hy⟩ := bind_inv hy
          have hy := Option.some.inj hy
          subst hy
          exact (ev_andO (ev_cast (ev_cmpO (neg := false) (ev_fld (fo_Offer_partitions T) T.cl_Offer T.n_Offer_partitions (ev_var (τ := (y_Offer T)) rfl h_self)) (ev_fld (fo_Offer_partitions T) T.cl_Offer T.n_Offer_partitions (pj_Oth_offer T (ev_var (τ := (y_Oth T)) rfl h_other) h_640))) bneF) (fun _ y hy => by
                obtain ⟨u_641, h_642, hy⟩ := bind_inv hy
                have hy := Option.some.inj hy
                subst hy
                exact (ev_cast (ev_cmpO (neg := false) (ev_fld (fo_Offer_entries T) T.cl_Offer T.n_Offer_entries (ev_var (τ := (y_Offer T)) rfl h_self)) (ev_fld (fo_Offer_entries T) T.cl_Offer T.n_Offer_entries (pj_Oth_offer T (ev_var (τ := (y_Oth T)) rfl h_other) h_642))) bneF)) h_643)) h_645) (fun v Z1 H1 P1 hv => ?_)
    exact q v _ _ P1.st hv
theorem cs_Offer___eq__ (T : Txt K mg) {μ : Type} {M : Mu μ} {s : μ} {E : XK} {x_self : Offer} {x_other : Oth} {y : Bool} (h : F_Offer___eq__ x_self x_other = some y) : CallS M (sp_Offer___eq__ T) E (rac (ty (y_Offer T) x_self) (rac (ty (y_Oth T) x_other) ra0)) s (ty yBool y) s := by
  rintro Z H vs sz m ⟨v_self, _, rfl, h_self, ⟨v_other, _, rfl, h_other, rfl⟩⟩ Q q
  exact ⟨Z, v_self, v_other, x_self, x_other, y, rfl, sz, h_self, h_other, h, fun v Z2 H2 st hv => q v Z2 H2 st.pure (M.pure st m) hv⟩
def sp_law (K : PySem.W.Frag) : Sp := fun vs H Q _ => ∃ (a : Addr) (ns : List Int), vs = [.ref a] ∧ (SqL K H a (ns.map V.int)) ∧ (ns.length ≤ 63) ∧ ∀ H', Q (.bl true) H'
set_option maxHeartbeats 8000000 in
theorem ok_law (T : Txt K mg) : FnOk P w K mg base CX0 7 T.f_law T.d_law ["script"] (sp_law K) := by
  have G_Record___eq__ : FnOk P w K mg base CX0 3 T.f_Record___eq__ T.d_Record___eq__ ["self", "other"] (sp_Record___eq__ T) := ok_Record___eq__ T
  have G_Query___eq__ : FnOk P w K mg base CX0 1 T.f_Query___eq__ T.d_Query___eq__ ["self", "other"] (sp_Query___eq__ T) := ok_Query___eq__ T
  have G_Part___eq__ : FnOk P w K mg base CX0 1 T.f_Part___eq__ T.d_Part___eq__ ["self", "other"] (sp_Part___eq__ T) := ok_Part___eq__ T
  have G_Bound___eq__ : FnOk P w K mg base CX0 1 T.f_Bound___eq__ T.d_Bound___eq__ ["self", "other"] (sp_Bound___eq__ T) := ok_Bound___eq__ T
  have G_Region___eq__ : FnOk P w K mg base CX0 3 T.f_Region___eq__ T.d_Region___eq__ ["self", "other"] (sp_Region___eq__ T) := ok_Region___eq__ T
  have G_Entry___eq__ : FnOk P w K mg base CX0 4 T.f_Entry___eq__ T.d_Entry___eq__ ["self", "other"] (sp_Entry___eq__ T) := ok_Entry___eq__ T
  have G_Offer___eq__ : FnOk P w K mg base CX0 6 T.f_Offer___eq__ T.d_Offer___eq__ ["self", "other"] (sp_Offer___eq__ T) := ok_Offer___eq__ T
  have G_law_made : FnOk P w K mg base CX0 4 T.f_law_made T.d_law_made ["kind", "parts"] (sp_law_made T) := ok_law_made T
  have G_law_other : FnOk P w K mg base CX0 1 T.f_law_other T.d_law_other ["kind", "at", "part"] (sp_law_other T) := ok_law_other T
  have G_law_parts : FnOk P w K mg base CX0 4 T.f_law_parts T.d_law_parts ["state", "kind"] (sp_law_parts T) := ok_law_parts T
  have G_law_flags : FnOk P w K mg base CX0 4 T.f_law_flags T.d_law_flags [] (sp_law_flags T) := ok_law_flags T
  refine T.F_law.ok sc_law (fun vs H Q E h => ?_) (fun cdv A outer s H vs Q E hr h => ?_)
  · obtain ⟨a, ns, rfl, _⟩ := h
    rfl
  · obtain ⟨a, ns, rfl, hA, hlen, q⟩ := h
    refine ⟨_, (pss_cons (ps_set (i := 1) sc_law.nd rfl (.inl rfl) (pe_lst (pa_cons (pe_callTy call_list_of (by rfl) T.m_list (by decide +kernel) (pa_cons (pv 0) pa_nil)) (pa_cons pe_int (pa_cons pe_int pa_nil))))) 
      (pss_cons (ps_if (pt_not (pt_val (pe_call0 G_law_flags (hr.mono (by decide)) (by rfl) T.g_law_flags T.F_law_flags.kp T.b_law_flags .nil pass0))) (pss_one (ps_ret pe_bl)) pss_nil) 
      (pss_cons (ps_for PassesOwn.never rfl (pi_range1 rfl T.m_range (pa_cons pe_int pa_nil)) (pg_name (i := 2) sc_law.nd rfl (.inl rfl)) (pss_cons (ps_set (i := 3) sc_law.nd rfl (.inl rfl) (pe_call G_law_parts (hr.mono (by decide)) (by rfl) T.g_law_parts T.F_law_parts.kp T.b_law_parts .nil pass0 (pa_cons (pv 1) (pa_cons (pv 2) pa_nil)))) 
      (pss_cons (ps_set (i := 4) sc_law.nd rfl (.inl rfl) (pe_call G_law_made (hr.mono (by decide)) (by rfl) T.g_law_made T.F_law_made.kp T.b_law_made .nil pass0 (pa_cons (pv 2) (pa_cons (pv 3) pa_nil)))) 
      (pss_cons (ps_if (PW.pt (pw_or (pt_not (pt_cmpR (op_or (TPN.op_ownE T.me_Record___eq__ G_Record___eq__ (hr.mono (by decide)) T.b_Record___eq__ pass0) (op_or (TPN.op_ownE T.me_Query___eq__ G_Query___eq__ (hr.mono (by decide)) T.b_Query___eq__ pass0) (op_or (TPN.op_ownE T.me_Part___eq__ G_Part___eq__ (hr.mono (by decide)) T.b_Part___eq__ pass0) (op_or (TPN.op_ownE T.me_Bound___eq__ G_Bound___eq__ (hr.mono (by decide)) T.b_Bound___eq__ pass0) (op_or (TPN.op_ownE T.me_Region___eq__ G_Region___eq__ (hr.mono (by decide)) T.b_Region___eq__ pass0) (op_or (TPN.op_ownE T.me_Entry___eq__ G_Entry___eq__ (hr.mono (by decide)) T.b_Entry___eq__ pass0) (TPN.op_ownE T.me_Offer___eq__ G_Offer___eq__ (hr.mono (by decide)) T.b_Offer___eq__ pass0))))))) (pv 4) (pe_call G_law_made (hr.mono (by decide)) (by rfl) T.g_law_made T.F_law_made.kp T.b_law_made .nil pass0 (pa_cons (pv 2) (pa_cons (pe_callTy call_list_of (by rfl) T.m_list (by decide +kernel) (pa_cons (pv 3) pa_nil)) pa_nil))) (nomark _))) (pw_or (pt_cmpR (op_or (TPN.op_ownE T.me_Record___eq__ G_Record___eq__ (hr.mono (by decide)) T.b_Record___eq__ pass0) (op_or (TPN.op_ownE T.me_Query___eq__ G_Query___eq__ (hr.mono (by decide)) T.b_Query___eq__ pass0) (op_or (TPN.op_ownE T.me_Part___eq__ G_Part___eq__ (hr.mono (by decide)) T.b_Part___eq__ pass0) (op_or (TPN.op_ownE T.me_Bound___eq__ G_Bound___eq__ (hr.mono (by decide)) T.b_Bound___eq__ pass0) (op_or (TPN.op_ownE T.me_Region___eq__ G_Region___eq__ (hr.mono (by decide)) T.b_Region___eq__ pass0) (op_or (TPN.op_ownE T.me_Entry___eq__ G_Entry___eq__ (hr.mono (by decide)) T.b_Entry___eq__ pass0) (TPN.op_ownE T.me_Offer___eq__ G_Offer___eq__ (hr.mono (by decide)) T.b_Offer___eq__ pass0))))))) (pv 4) (pe_callTy call_tuple_of (by rfl) T.m_tuple (by decide +kernel) (pa_cons (pv 3) pa_nil)) (nomark _)) (pw_or1 (pt_cmpR (op_or (TPN.op_ownE T.me_Record___eq__ G_Record___eq__ (hr.mono (by decide)) T.b_Record___eq__ pass0) (op_or (TPN.op_ownE T.me_Query___eq__ G_Query___eq__ (hr.mono (by decide)) T.b_Query___eq__ pass0) (op_or (TPN.op_ownE T.me_Part___eq__ G_Part___eq__ (hr.mono (by decide)) T.b_Part___eq__ pass0) (op_or (TPN.op_ownE T.me_Bound___eq__ G_Bound___eq__ (hr.mono (by decide)) T.b_Bound___eq__ pass0) (op_or (TPN.op_ownE T.me_Region___eq__ G_Region___eq__ (hr.mono (by decide)) T.b_Region___eq__ pass0) (op_or (TPN.op_ownE T.me_Entry___eq__ G_Entry___eq__ (hr.mono (by decide)) T.b_Entry___eq__ pass0) (TPN.op_ownE T.me_Offer___eq__ G_Offer___eq__ (hr.mono (by decide)) T.b_Offer___eq__ pass0))))))) (pv 4) (pv 3) (nomark _)))))) (pss_one (ps_ret pe_bl)) pss_nil) 
      (pss_one (ps_for PassesOwn.never rfl (pi_range1 rfl T.m_range (pa_cons (pe_callB call_len_seq (by rfl) T.m_len PySem.boot_len (pa_cons (pv 3) pa_nil)) pa_nil)) (pg_name (i := 5) sc_law.nd rfl (.inl rfl)) (pss_cons (ps_set (i := 6) sc_law.nd rfl (.inl rfl) (pe_callTy call_list_of (by rfl) T.m_list (by decide +kernel) (pa_cons (pv 3) pa_nil))) 
      (pss_cons (ps_asg (pe_call G_law_other (hr.mono (by decide)) (by rfl) T.g_law_other T.F_law_other.kp T.b_law_other .nil pass0 (pa_cons (pv 2) (pa_cons (pv 5) (pa_cons (pe_ix ix_list (pv 3) (pv 5) (fun _ _ => rfl)) pa_nil)))) (pg_sub (pv 6) (pv 5) set_list)) 
      (pss_cons (ps_set (i := 7) sc_law.nd rfl (.inl rfl) (pe_call G_law_made (hr.mono (by decide)) (by rfl) T.g_law_made T.F_law_made.kp T.b_law_made .nil pass0 (pa_cons (pv 2) (pa_cons (pv 6) pa_nil)))) 
      (pss_one (ps_if (PW.pt (pw_or (pt_cmpR (op_or (TPN.op_ownE T.me_Record___eq__ G_Record___eq__ (hr.mono (by decide)) T.b_Record___eq__ pass0) (op_or (TPN.op_ownE T.me_Query___eq__ G_Query___eq__ (hr.mono (by decide)) T.b_Query___eq__ pass0) (op_or (TPN.op_ownE T.me_Part___eq__ G_Part___eq__ (hr.mono (by decide)) T.b_Part___eq__ pass0) (op_or (TPN.op_ownE T.me_Bound___eq__ G_Bound___eq__ (hr.mono (by decide)) T.b_Bound___eq__ pass0) (op_or (TPN.op_ownE T.me_Region___eq__ G_Region___eq__ (hr.mono (by decide)) T.b_Region___eq__ pass0) (op_or (TPN.op_ownE T.me_Entry___eq__ G_Entry___eq__ (hr.mono (by decide)) T.b_Entry___eq__ pass0) (TPN.op_ownE T.me_Offer___eq__ G_Offer___eq__ (hr.mono (by decide)) T.b_Offer___eq__ pass0))))))) (pv 4) (pv 7) (nomark _)) (pw_or1 (pt_cmpR (op_or (TPN.op_ownE T.me_Record___eq__ G_Record___eq__ (hr.mono (by decide)) T.b_Record___eq__ pass0) (op_or (TPN.op_ownE T.me_Query___eq__ G_Query___eq__ (hr.mono (by decide)) T.b_Query___eq__ pass0) (op_or (TPN.op_ownE T.me_Part___eq__ G_Part___eq__ (hr.mono (by decide)) T.b_Part___eq__ pass0) (op_or (TPN.op_ownE T.me_Bound___eq__ G_Bound___eq__ (hr.mono (by decide)) T.b_Bound___eq__ pass0) (op_or (TPN.op_ownE T.me_Region___eq__ G_Region___eq__ (hr.mono (by decide)) T.b_Region___eq__ pass0) (op_or (TPN.op_ownE T.me_Entry___eq__ G_Entry___eq__ (hr.mono (by decide)) T.b_Entry___eq__ pass0) (TPN.op_ownE T.me_Offer___eq__ G_Offer___eq__ (hr.mono (by decide)) T.b_Offer___eq__ pass0))))))) (pv 7) (pv 4) (nomark _))))) (pss_one (ps_ret pe_bl)) pss_nil))))))))))) 
      (pss_one (ps_ret pe_bl))))), ?_⟩
    have hF := law_true ns hlen
    unfold F_law at hF
    refine st_norm (by dsimp only [List.set, L2.start, List.map, List.length, List.replicate, List.cons_append, List.nil_append, Nat.reduceSub, Nat.reduceAdd]) ?_
    refine st_seq ?_
    refine st_draws hA hlen (fun st sc Z0 Z1 H1 P => ?_)
    refine st_nx ?_
    refine st_norm (by dsimp only [List.set, L2.start, List.map, List.length, List.replicate, List.cons_append, List.nil_append, Nat.reduceSub, Nat.reduceAdd]) ?_
    obtain ⟨r_647, h_648, hF⟩ := bind_inv hF
    refine st_seq (st_if P (et_not (et_val (ev_call (cs_law_flags T h_648) eva_nil))) (fun b_649 Z1 H1 e P1 => ?_) (fun b_649 Z1 H1 e P1 => ?_))
    · replace P := P1
      have hB := ifT b_649 hF
      replace hF := hB
      clear hB
      refine st_norm (by dsimp only [List.set, L2.start, List.map, List.length, List.replicate, List.cons_append, List.nil_append, Nat.reduceSub, Nat.reduceAdd]) ?_
      have hb := Option.some.inj hF
      refine st_ret P ev_bl (fun v Z H P hv => ?_)
      have hv2 : v = V.bl _ := hv
      rw [hb] at hv2
      rw [hv2]
      exact q _
    · replace P := P1
      have hB := ifF b_649 hF
      replace hF := hB
      clear hB
      refine st_next0 ?_
      refine st_norm (by dsimp only [List.set, L2.start, List.map, List.length, List.replicate, List.cons_append, List.nil_append, Nat.reduceSub, Nat.reduceAdd]) ?_
      obtain ⟨f_753, hL_754, hF⟩ := bind_inv hF
      refine st_seq (st_for (τ := yInt) (fun (r_652 : List Int) σ' Z' H' => ∃ w_650, ∃ (y_657 : Option V) (y_658 : Option V) (y_659 : Option V) (y_660 : Option V) (y_661 : Option V) (y_662 : Option V) (y_663 : Option V), σ' = [y_657, some (.ref st), y_658, y_659, y_660, y_661, y_662, y_663] ∧ Pt [] Z0 H (muD st sc) Z' H' w_650 ∧ forS L_law_1 r_652 w_650 = some f_753) P (ei_rng1 ev_int (by decide)) ?_ ?_ ?_)
      · rintro Z1 H1 e P1
        replace P := P1
        exact ⟨(DS.mk ns 0 0), _, _, _, _, _, _, _, rfl, P, hL_754⟩
      · rintro Zb_656 Hb eb x_651 r_652 σ' v_672 Z1 H1 Z2 H2 zs_655 ⟨w_650, y_657, y_658, y_659, y_660, y_661, y_662, y_663, rfl, P, hq_654⟩ e hx_673
        replace P := P.item e
        replace zs_655 := zs_655.trans e.z
        obtain ⟨u_674, hB_653, hq_654⟩ := bind_inv (forS_cons hq_654)
        unfold L_law_1 at hB_653
        refine tgt_name _ P.sub _ ?_
        refine st_norm (by dsimp only [List.set, L2.start, List.map, List.length, List.replicate, List.cons_append, List.nil_append, Nat.reduceSub, Nat.reduceAdd]) ?_
        obtain ⟨r_675, h_676, hB_653⟩ := bind_inv hB_653
        refine st_seq (st_set P (ev_call (cs_law_parts T h_676) (eva_cons (ev_ref rfl) (eva_cons (ev_var (τ := yInt) rfl hx_673) eva_nil))) (fun v_677 Z1 H1 e P1 k_678 => ?_))
        refine st_nx ?_
        replace P := P1
        replace zs_655 := zs_655.trans e.z
        refine st_norm (by dsimp only [List.set, L2.start, List.map, List.length, List.replicate, List.cons_append, List.nil_append, Nat.reduceSub, Nat.reduceAdd]) ?_
        obtain ⟨r_679, h_680, hB_653⟩ := bind_inv hB_653
        refine st_seq (st_set P (ev_call (cs_law_made T h_680) (eva_cons (ev_var (τ := yInt) rfl hx_673) (eva_cons (ev_var (τ := (yList (y_Any T))) rfl k_678) eva_nil))) (fun v_681 Z1 H1 e P1 k_682 => ?_))
        refine st_nx ?_
        replace P := P1
        replace k_678 := ((yList (y_Any T))).mono e.z k_678
        replace zs_655 := zs_655.trans e.z
        refine st_norm (by dsimp only [List.set, L2.start, List.map, List.length, List.replicate, List.cons_append, List.nil_append, Nat.reduceSub, Nat.reduceAdd]) ?_
        obtain ⟨r_683, h_684, hB_653⟩ := bind_inv hB_653
        obtain ⟨u_685, h_686, hB_653⟩ := bind_inv hB_653
        obtain ⟨r_687, h_688, hB_653⟩ := bind_inv hB_653
        obtain ⟨b_696, h_695, hB_653⟩ := bind_inv hB_653
        refine st_seq (st_if P (et_orO (et_not (et_cmp (match (generalizing := false) r_679, (ev_var (τ := (y_Thing T)) rfl k_682), h_688 with
            | .record y, ha, h => (ev_cast (ev_ownR (neg := false) ri_l (ins_Record T) (tx_Oth T) (nfs_Record_Oth T _) (cs_Record___eq__ T (show F_Record___eq__ y u_685 = some r_687 from h)) (ha.weak (R' := ty (y_Record T) y) fun _ _ _ _ e => e) (ev_castK (show CastO (y_Thing T) (y_Oth T) (fun x : Thing => (match x with | .record y => some (.record y) | .query y => some (.query y) | .part y => some (.part y) | .bound y => some (.bound y) | .region y => some (.region y) | .entry y => some (.entry y) | .offer y => some (.offer y) : Option Oth)) from (fun _ _ x _ h e => by cases x <;> first | (have e := Option.some.inj e; subst e; exact h) | cases e)) (ev_call (cs_law_made T h_684) (eva_cons (ev_var (τ := yInt) rfl hx_673) (eva_cons (ev_fz (en_list_of (fun _ _ _ h => h) (ev_li (ev_var (τ := (yList (y_Any T))) rfl k_678)))) eva_nil))) h_686)) bneF)
            | .query y, ha, h => (ev_cast (ev_ownR (neg := false) (ri_r ri_l) (ins_Query T) (tx_Oth T) (nfs_Query_Oth T _) (cs_Query___eq__ T (show F_Query___eq__ y u_685 = some r_687 from h)) (ha.weak (R' := ty (y_Query T) y) fun _ _ _ _ e => e) (ev_castK (show CastO (y_Thing T) (y_Oth T) (fun x : Thing => (match x with | .record y => some (.record y) | .query y => some (.query y) | .part y => some (.part y) | .bound y => some (.bound y) | .region y => some (.region y) | .entry y => some (.entry y) | .offer y => some (.offer y) : Option Oth)) from (fun _ _ x _ h e => by cases x <;> first | (have e := Option.some.inj e; subst e; exact h) | cases e)) (ev_call (cs_law_made T h_684) (eva_cons (ev_var (τ := yInt) rfl hx_673) (eva_cons (ev_fz (en_list_of (fun _ _ _ h => h) (ev_li (ev_var (τ := (yList (y_Any T))) rfl k_678)))) eva_nil))) h_686)) bneF)
            | .part y, ha, h => (ev_cast (ev_ownR (neg := false) (ri_r (ri_r ri_l)) (ins_Part T) (tx_Oth T) (nfs_Part_Oth T _) (cs_Part___eq__ T (show F_Part___eq__ y u_685 = some r_687 from h)) (ha.weak (R' := ty (y_Part T) y) fun _ _ _ _ e => e) (ev_castK (show CastO (y_Thing T) (y_Oth T) (fun x : Thing => (match x with | .record y => some (.record y) | .query y => some (.query y) | .part y => some (.part y) | .bound y => some (.bound y) | .region y => some (.region y) | .entry y => some (.entry y) | .offer y => some (.offer y) : Option Oth)) from (fun _ _ x _ h e => by cases x <;> first | (have e := Option.some.inj e; subst e; exact h) | cases e)) (ev_call (cs_law_made T h_684) (eva_cons (ev_var (τ := yInt) rfl hx_673) (eva_cons (ev_fz (en_list_of (fun _ _ _ h => h) (ev_li (ev_var (τ := (yList (y_Any T))) rfl k_678)))) eva_nil))) h_686)) bneF)
            | .bound y, ha, h => (ev_cast (ev_ownR (neg := false) (ri_r (ri_r (ri_r ri_l))) (ins_Bound T) (tx_Oth T) (nfs_Bound_Oth T _) (cs_Bound___eq__ T (show F_Bound___eq__ y u_685 = some r_687 from h)) (ha.weak (R' := ty (y_Bound T) y) fun _ _ _ _ e => e) (ev_castK (show CastO (y_Thing T) (y_Oth T) (fun x : Thing => (match x with | .record y => some (.record y) | .query y => some (.query y) | .part y => some (.part y) | .bound y => some (.bound y) | .region y => some (.region y) | .entry y => some (.entry y) | .offer y => some (.offer y) : Option Oth)) from (fun _ _ x _ h e => by cases x <;> first | (have e := Option.some.inj e; subst e; exact h) | cases e)) (ev_call (cs_law_made T h_684) (eva_cons (ev_var (τ := yInt) rfl hx_673) (eva_cons (ev_fz (en_list_of (fun _ _ _ h => h) (ev_li (ev_var (τ := (yList (y_Any T))) rfl k_678)))) eva_nil))) h_686)) bneF)
            | .region y, ha, h => (ev_cast (ev_ownR (neg := false) (ri_r (ri_r (ri_r (ri_r ri_l)))) (ins_Region T) (tx_Oth T) (nfs_Region_Oth T _) (cs_Region___eq__ T (show F_Region___eq__ y u_685 = some r_687 from h)) (ha.weak (R' := ty (y_Region T) y) fun _ _ _ _ e => e) (ev_castK (show CastO (y_Thing T) (y_Oth T) (fun x : Thing => (match x with | .record y => some (.record y) | .query y => some (.query y) | .part y => some (.part y) | .bound y => some (.bound y) | .region y => some (.region y) | .entry y => some (.entry y) | .offer y => some (.offer y) : Option Oth)) from (fun _ _ x _ h e => by cases x <;> first | (have e := Option.some.inj e; subst e; exact h) | cases e)) (ev_call (cs_law_made T h_684) (eva_cons (ev_var (τ := yInt) rfl hx_673) (eva_cons (ev_fz (en_list_of (fun _ _ _ h => h) (ev_li (ev_var (τ := (yList (y_Any T))) rfl k_678)))) eva_nil))) h_686)) bneF)
            | .entry y, ha, h => (ev_cast (ev_ownR (neg := false) (ri_r (ri_r (ri_r (ri_r (ri_r ri_l))))) (ins_Entry T) (tx_Oth T) (nfs_Entry_Oth T _) (cs_Entry___eq__ T (show F_Entry___eq__ y u_685 = some r_687 from h)) (ha.weak (R' := ty (y_Entry T) y) fun _ _ _ _ e => e) (ev_castK (show CastO (y_Thing T) (y_Oth T) (fun x : Thing => (match x with | .record y => some (.record y) | .query y => some (.query y) | .part y => some (.part y) | .bound y => some (.bound y) | .region y => some (.region y) | .entry y => some (.entry y) | .offer y => some (.offer y) : Option Oth)) from (fun _ _ x _ h e => by cases x <;> first | (have e := Option.some.inj e; subst e; exact h) | cases e)) (ev_call (cs_law_made T h_684) (eva_cons (ev_var (τ := yInt) rfl hx_673) (eva_cons (ev_fz (en_list_of (fun _ _ _ h => h) (ev_li (ev_var (τ := (yList (y_Any T))) rfl k_678)))) eva_nil))) h_686)) bneF)
            | .offer y, ha, h => (ev_cast (ev_ownR (neg := false) (ri_r (ri_r (ri_r (ri_r (ri_r (ri_r ri_self)))))) (ins_Offer T) (tx_Oth T) (nfs_Offer_Oth T _) (cs_Offer___eq__ T (show F_Offer___eq__ y u_685 = some r_687 from h)) (ha.weak (R' := ty (y_Offer T) y) fun _ _ _ _ e => e) (ev_castK (show CastO (y_Thing T) (y_Oth T) (fun x : Thing => (match x with | .record y => some (.record y) | .query y => some (.query y) | .part y => some (.part y) | .bound y => some (.bound y) | .region y => some (.region y) | .entry y => some (.entry y) | .offer y => some (.offer y) : Option Oth)) from (fun _ _ x _ h e => by cases x <;> first | (have e := Option.some.inj e; subst e; exact h) | cases e)) (ev_call (cs_law_made T h_684) (eva_cons (ev_var (τ := yInt) rfl hx_673) (eva_cons (ev_fz (en_list_of (fun _ _ _ h => h) (ev_li (ev_var (τ := (yList (y_Any T))) rfl k_678)))) eva_nil))) h_686)) bneF)))) (fun _ y hy => by
              obtain ⟨r_689, h_690, hy⟩ := bind_inv hy
              obtain ⟨b_694, h_693, hy⟩ := bind_inv hy
              have hy := Option.some.inj hy
              subst hy
              exact (et_orO (et_cmp (match (generalizing := false) r_679, (ev_var (τ := (y_Thing T)) rfl k_682), h_690 with
                  | .record y, ha, h => (ev_cast (ev_ownR (neg := false) ri_l (ins_Record T) (tx_Oth T) (nfs_Record_Oth T _) (cs_Record___eq__ T (show F_Record___eq__ y (Oth.tu r_675.1) = some r_689 from h)) (ha.weak (R' := ty (y_Record T) y) fun _ _ _ _ e => e) (ij_Oth_tu T (ev_tuple_of (fun _ _ _ h => h) (ev_li (ev_var (τ := (yList (y_Any T))) rfl k_678))))) bneF)
                  | .query y, ha, h => (ev_cast (ev_ownR (neg := false) (ri_r ri_l) (ins_Query T) (tx_Oth T) (nfs_Query_Oth T _) (cs_Query___eq__ T (show F_Query___eq__ y (Oth.tu r_675.1) = some r_689 from h)) (ha.weak (R' := ty (y_Query T) y) fun _ _ _ _ e => e) (ij_Oth_tu T (ev_tuple_of (fun _ _ _ h => h) (ev_li (ev_var (τ := (yList (y_Any T))) rfl k_678))))) bneF)
                  | .part y, ha, h => (ev_cast (ev_ownR (neg := false) (ri_r (ri_r ri_l)) (ins_Part T) (tx_Oth T) (nfs_Part_Oth T _) (cs_Part___eq__ T (show F_Part___eq__ y (Oth.tu r_675.1) = some r_689 from h)) (ha.weak (R' := ty (y_Part T) y) fun _ _ _ _ e => e) (ij_Oth_tu T (ev_tuple_of (fun _ _ _ h => h) (ev_li (ev_var (τ := (yList (y_Any T))) rfl k_678))))) bneF)
                  | .bound y, ha, h => (ev_cast (ev_ownR (neg := false) (ri_r (ri_r (ri_r ri_l))) (ins_Bound T) (tx_Oth T) (nfs_Bound_Oth T _) (cs_Bound___eq__ T (show F_Bound___eq__ y (Oth.tu r_675.1) = some r_689 from h)) (ha.weak (R' := ty (y_Bound T) y) fun _ _ _ _ e => e) (ij_Oth_tu T (ev_tuple_of (fun _ _ _ h => h) (ev_li (ev_var (τ := (yList (y_Any T))) rfl k_678))))) bneF)
                  | .region y, ha, h => (ev_cast (ev_ownR (neg := false) (ri_r (ri_r (ri_r (ri_r ri_l)))) (ins_Region T) (tx_Oth T) (nfs_Region_Oth T _) (cs_Region___eq__ T (show F_Region___eq__ y (Oth.tu r_675.1) = some r_689 from h)) (ha.weak (R' := ty (y_Region T) y) fun _ _ _ _ e => e) (ij_Oth_tu T (ev_tuple_of (fun _ _ _ h => h) (ev_li (ev_var (τ := (yList (y_Any T))) rfl k_678))))) bneF)
                  | .entry y, ha, h => (ev_cast (ev_ownR (neg := false) (ri_r (ri_r (ri_r (ri_r (ri_r ri_l))))) (ins_Entry T) (tx_Oth T) (nfs_Entry_Oth T _) (cs_Entry___eq__ T (show F_Entry___eq__ y (Oth.tu r_675.1) = some r_689 from h)) (ha.weak (R' := ty (y_Entry T) y) fun _ _ _ _ e => e) (ij_Oth_tu T (ev_tuple_of (fun _ _ _ h => h) (ev_li (ev_var (τ := (yList (y_Any T))) rfl k_678))))) bneF)
                  | .offer y, ha, h => (ev_cast (ev_ownR (neg := false) (ri_r (ri_r (ri_r (ri_r (ri_r (ri_r ri_self)))))) (ins_Offer T) (tx_Oth T) (nfs_Offer_Oth T _) (cs_Offer___eq__ T (show F_Offer___eq__ y (Oth.tu r_675.1) = some r_689 from h)) (ha.weak (R' := ty (y_Offer T) y) fun _ _ _ _ e => e) (ij_Oth_tu T (ev_tuple_of (fun _ _ _ h => h) (ev_li (ev_var (τ := (yList (y_Any T))) rfl k_678))))) bneF))) (fun _ y hy => by
                    obtain ⟨r_691, h_692, hy⟩ := bind_inv hy
                    have hy := Option.some.inj hy
                    subst hy
                    exact (et_cmp (match (generalizing := false) r_679, (ev_var (τ := (y_Thing T)) rfl k_682), h_692 with
                        | .record y, ha, h => (ev_cast (ev_ownR (neg := false) ri_l (ins_Record T) (tx_Oth T) (nfs_Record_Oth T _) (cs_Record___eq__ T (show F_Record___eq__ y (Oth.li r_675.1) = some r_691 from h)) (ha.weak (R' := ty (y_Record T) y) fun _ _ _ _ e => e) (ij_Oth_li T (ev_var (τ := (yList (y_Any T))) rfl k_678))) bneF)
                        | .query y, ha, h => (ev_cast (ev_ownR (neg := false) (ri_r ri_l) (ins_Query T) (tx_Oth T) (nfs_Query_Oth T _) (cs_Query___eq__ T (show F_Query___eq__ y (Oth.li r_675.1) = some r_691 from h)) (ha.weak (R' := ty (y_Query T) y) fun _ _ _ _ e => e) (ij_Oth_li T (ev_var (τ := (yList (y_Any T))) rfl k_678))) bneF)
                        | .part y, ha, h => (ev_cast (ev_ownR (neg := false) (ri_r (ri_r ri_l)) (ins_Part T) (tx_Oth T) (nfs_Part_Oth T _) (cs_Part___eq__ T (show F_Part___eq__ y (Oth.li r_675.1) = some r_691 from h)) (ha.weak (R' := ty (y_Part T) y) fun _ _ _ _ e => e) (ij_Oth_li T (ev_var (τ := (yList (y_Any T))) rfl k_678))) bneF)
                        | .bound y, ha, h => (ev_cast (ev_ownR (neg := false) (ri_r (ri_r (ri_r ri_l))) (ins_Bound T) (tx_Oth T) (nfs_Bound_Oth T _) (cs_Bound___eq__ T (show F_Bound___eq__ y (Oth.li r_675.1) = some r_691 from h)) (ha.weak (R' := ty (y_Bound T) y) fun _ _ _ _ e => e) (ij_Oth_li T (ev_var (τ := (yList (y_Any T))) rfl k_678))) bneF)
                        | .region y, ha, h => (ev_cast (ev_ownR (neg := false) (ri_r (ri_r (ri_r (ri_r ri_l)))) (ins_Region T) (tx_Oth T) (nfs_Region_Oth T _) (cs_Region___eq__ T (show F_Region___eq__ y (Oth.li r_675.1) = some r_691 from h)) (ha.weak (R' := ty (y_Region T) y) fun _ _ _ _ e => e) (ij_Oth_li T (ev_var (τ := (yList (y_Any T))) rfl k_678))) bneF)
                        | .entry y, ha, h => (ev_cast (ev_ownR (neg := false) (ri_r (ri_r (ri_r (ri_r (ri_r ri_l))))) (ins_Entry T) (tx_Oth T) (nfs_Entry_Oth T _) (cs_Entry___eq__ T (show F_Entry___eq__ y (Oth.li r_675.1) = some r_691 from h)) (ha.weak (R' := ty (y_Entry T) y) fun _ _ _ _ e => e) (ij_Oth_li T (ev_var (τ := (yList (y_Any T))) rfl k_678))) bneF)
                        | .offer y, ha, h => (ev_cast (ev_ownR (neg := false) (ri_r (ri_r (ri_r (ri_r (ri_r (ri_r ri_self)))))) (ins_Offer T) (tx_Oth T) (nfs_Offer_Oth T _) (cs_Offer___eq__ T (show F_Offer___eq__ y (Oth.li r_675.1) = some r_691 from h)) (ha.weak (R' := ty (y_Offer T) y) fun _ _ _ _ e => e) (ij_Oth_li T (ev_var (τ := (yList (y_Any T))) rfl k_678))) bneF)))) h_693)) h_695) (fun b_697 Z1 H1 e P1 => ?_) (fun b_697 Z1 H1 e P1 => ?_))
        · replace P := P1
          have hB := ifT b_697 hB_653
          replace hB_653 := hB
          clear hB
          replace zs_655 := zs_655.trans e.z
          refine st_norm (by dsimp only [List.set, L2.start, List.map, List.length, List.replicate, List.cons_append, List.nil_append, Nat.reduceSub, Nat.reduceAdd]) ?_
          replace hB_653 := Option.some.inj hB_653
          subst hB_653
          have hz := nxt_ret hq_654
          subst hz
          have hz := ret_inv hF
          have hb := Option.some.inj hz
          refine st_ret P ev_bl (fun v Z H P hv => ?_)
          have hv2 : v = V.bl _ := hv
          rw [hb] at hv2
          rw [hv2]
          exact q _
        · replace P := P1
          have hB := ifF b_697 hB_653
          replace hB_653 := hB
          clear hB
          refine st_next0 ?_
          replace k_678 := ((yList (y_Any T))).mono e.z k_678
          replace k_682 := ((y_Thing T)).mono e.z k_682
          replace zs_655 := zs_655.trans e.z
          refine st_norm (by dsimp only [List.set, L2.start, List.map, List.length, List.replicate, List.cons_append, List.nil_append, Nat.reduceSub, Nat.reduceAdd]) ?_
          obtain ⟨g_698, hB_653⟩ := guard_inv hB_653
          obtain ⟨f_751, hL_752, hB_653⟩ := bind_inv hB_653
          refine st_for (τ := yInt) (fun (r_701 : List Int) σ' Z' H' => ∃ w_699, ∃ (y_706 : Option V) (y_709 : Option V) (y_710 : Option V) (y_711 : Option V), σ' = [y_706, some (.ref st), some v_672, some v_677, some v_681, y_709, y_710, y_711] ∧ Pt [] Z0 H (muD st sc) Z' H' r_675.2 ∧ Same Zb_656 Z' ∧ ((yList (y_Any T))).r Z' v_677 r_675.1 ∧ ((y_Thing T)).r Z' v_681 r_679 ∧ forS (L_law_2 x_651 r_675 r_679) r_701 w_699 = some f_751) P (ei_rng1 (ev_len (fun _ _ _ h => h) (ev_li (ev_var (τ := (yList (y_Any T))) rfl k_678))) g_698) ?_ ?_ ?_
          · rintro Z1 H1 e P1
            replace P := P1
            replace k_678 := ((yList (y_Any T))).mono e.z k_678
            replace k_682 := ((y_Thing T)).mono e.z k_682
            replace zs_655 := zs_655.trans e.z
            exact ⟨(), _, _, _, _, rfl, P, zs_655, k_678, k_682, hL_752⟩
          · rintro Zb_705 Hb eb x_700 r_701 σ' v_722 Z1 H1 Z2 H2 zs_704 ⟨w_699, y_706, y_709, y_710, y_711, rfl, P, zs_712, k_707, k_708, hq_703⟩ e hx_723
            replace P := P.item e
            replace k_707 := ((yList (y_Any T))).mono e.z k_707
            replace k_708 := ((y_Thing T)).mono e.z k_708
            replace zs_712 := zs_712.trans e.z
            replace zs_704 := zs_704.trans e.z
            obtain ⟨u_724, hB_702, hq_703⟩ := bind_inv (forS_cons hq_703)
            unfold L_law_2 at hB_702
            refine tgt_name _ P.sub _ ?_
            refine st_norm (by dsimp only [List.set, L2.start, List.map, List.length, List.replicate, List.cons_append, List.nil_append, Nat.reduceSub, Nat.reduceAdd]) ?_
            refine st_seq (st_setN (τ := (y_Any T)) P (en_list_of (fun _ _ _ h => h) (ev_li (ev_var (τ := (yList (y_Any T))) rfl k_707))) (fun p_725 Z1 H1 e P1 fr_727 o_726 => ?_))
            refine st_nx ?_
            replace P := P1
            replace k_707 := ((yList (y_Any T))).mono e.z k_707
            replace k_708 := ((y_Thing T)).mono e.z k_708
            replace zs_712 := zs_712.trans e.z
            replace zs_704 := zs_704.trans e.z
            refine st_norm (by dsimp only [List.set, L2.start, List.map, List.length, List.replicate, List.cons_append, List.nil_append, Nat.reduceSub, Nat.reduceAdd]) ?_
            obtain ⟨i_728, h_729, hB_702⟩ := bind_inv hB_702
            obtain ⟨r_730, h_731, hB_702⟩ := bind_inv hB_702
            obtain ⟨j_732, h_733, hB_702⟩ := bind_inv hB_702
            refine st_seq (st_setitem P o_726 rfl (ev_call (cs_law_other T h_731) (eva_cons (ev_var (τ := yInt) rfl hx_673) (eva_cons (ev_var (τ := yInt) rfl hx_723) (eva_cons (ev_ixL (ev_li (ev_var (τ := (yList (y_Any T))) rfl k_707)) (ev_var (τ := yInt) rfl hx_723) h_729) eva_nil)))) (fun Z1 H1 e => by
                  exact (ev_var (τ := yInt) rfl hx_723)) h_733 (fun Z1 H1 e P1 o_734 => ?_))
            refine st_nx ?_
            replace P := P1
            replace k_707 := ((yList (y_Any T))).mono e.z k_707
            replace k_708 := ((y_Thing T)).mono e.z k_708
            replace zs_712 := zs_712.trans e.z
            replace zs_704 := zs_704.trans e.z
            refine st_norm (by dsimp only [List.set, L2.start, List.map, List.length, List.replicate, List.cons_append, List.nil_append, Nat.reduceSub, Nat.reduceAdd]) ?_
            obtain ⟨Z, P, zf, hf, of⟩ := o_734.fz P
            replace k_707 := ((yList (y_Any T))).mono zf k_707
            replace k_708 := ((y_Thing T)).mono zf k_708
            replace zs_712 := zs_712.trans zf
            replace zs_704 := zs_704.trans zf
            have k_735 := hf
            clear hf zf of
            obtain ⟨r_736, h_737, hB_702⟩ := bind_inv hB_702
            refine st_seq (st_set P (ev_call (cs_law_made T h_737) (eva_cons (ev_var (τ := yInt) rfl hx_673) (eva_cons (ev_var (τ := (yList (y_Any T))) rfl k_735) eva_nil))) (fun v_738 Z1 H1 e P1 k_739 => ?_))
            refine st_nx ?_
            replace P := P1
            replace k_707 := ((yList (y_Any T))).mono e.z k_707
            replace k_708 := ((y_Thing T)).mono e.z k_708
            replace zs_712 := zs_712.trans e.z
            replace zs_704 := zs_704.trans e.z
            refine st_norm (by dsimp only [List.set, L2.start, List.map, List.length, List.replicate, List.cons_append, List.nil_append, Nat.reduceSub, Nat.reduceAdd]) ?_
            obtain ⟨u_740, h_741, hB_702⟩ := bind_inv hB_702
            obtain ⟨r_742, h_743, hB_702⟩ := bind_inv hB_702
            obtain ⟨b_749, h_748, hB_702⟩ := bind_inv hB_702
            refine st_if P (et_orO (et_cmp (match (generalizing := false) r_679, (ev_var (τ := (y_Thing T)) rfl k_708), h_743 with
                | .record y, ha, h => (ev_cast (ev_ownR (neg := false) ri_l (ins_Record T) (tx_Oth T) (nfs_Record_Oth T _) (cs_Record___eq__ T (show F_Record___eq__ y u_740 = some r_742 from h)) (ha.weak (R' := ty (y_Record T) y) fun _ _ _ _ e => e) (ev_castK (show CastO (y_Thing T) (y_Oth T) (fun x : Thing => (match x with | .record y => some (.record y) | .query y => some (.query y) | .part y => some (.part y) | .bound y => some (.bound y) | .region y => some (.region y) | .entry y => some (.entry y) | .offer y => some (.offer y) : Option Oth)) from (fun _ _ x _ h e => by cases x <;> first | (have e := Option.some.inj e; subst e; exact h) | cases e)) (ev_var (τ := (y_Thing T)) rfl k_739) h_741)) bneF)
                | .query y, ha, h => (ev_cast (ev_ownR (neg := false) (ri_r ri_l) (ins_Query T) (tx_Oth T) (nfs_Query_Oth T _) (cs_Query___eq__ T (show F_Query___eq__ y u_740 = some r_742 from h)) (ha.weak (R' := ty (y_Query T) y) fun _ _ _ _ e => e) (ev_castK (show CastO (y_Thing T) (y_Oth T) (fun x : Thing => (match x with | .record y => some (.record y) | .query y => some (.query y) | .part y => some (.part y) | .bound y => some (.bound y) | .region y => some (.region y) | .entry y => some (.entry y) | .offer y => some (.offer y) : Option Oth)) from (fun _ _ x _ h e => by cases x <;> first | (have e := Option.some.inj e; subst e; exact h) | cases e)) (ev_var (τ := (y_Thing T)) rfl k_739) h_741)) bneF)
                | .part y, ha, h => (ev_cast (ev_ownR (neg := false) (ri_r (ri_r ri_l)) (ins_Part T) (tx_Oth T) (nfs_Part_Oth T _) (cs_Part___eq__ T (show F_Part___eq__ y u_740 = some r_742 from h)) (ha.weak (R' := ty (y_Part T) y) fun _ _ _ _ e => e) (ev_castK (show CastO (y_Thing T) (y_Oth T) (fun x : Thing => (match x with | .record y => some (.record y) | .query y => some (.query y) | .part y => some (.part y) | .bound y => some (.bound y) | .region y => some (.region y) | .entry y => some (.entry y) | .offer y => some (.offer y) : Option Oth)) from (fun _ _ x _ h e => by cases x <;> first | (have e := Option.some.inj e; subst e; exact h) | cases e)) (ev_var (τ := (y_Thing T)) rfl k_739) h_741)) bneF)
                | .bound y, ha, h => (ev_cast (ev_ownR (neg := false) (ri_r (ri_r (ri_r ri_l))) (ins_Bound T) (tx_Oth T) (nfs_Bound_Oth T _) (cs_Bound___eq__ T (show F_Bound___eq__ y u_740 = some r_742 from h)) (ha.weak (R' := ty (y_Bound T) y) fun _ _ _ _ e => e) (ev_castK (show CastO (y_Thing T) (y_Oth T) (fun x : Thing => (match x with | .record y => some (.record y) | .query y => some (.query y) | .part y => some (.part y) | .bound y => some (.bound y) | .region y => some (.region y) | .entry y => some (.entry y) | .offer y => some (.offer y) : Option Oth)) from (fun _ _ x _ h e => by cases x <;> first | (have e := Option.some.inj e; subst e; exact h) | cases e)) (ev_var (τ := (y_Thing T)) rfl k_739) h_741)) bneF)
                | .region y, ha, h => (ev_cast (ev_ownR (neg := false) (ri_r (ri_r (ri_r (ri_r ri_l)))) (ins_Region T) (tx_Oth T) (nfs_Region_Oth T _) (cs_Region___eq__ T (show F_Region___eq__ y u_740 = some r_742 from h)) (ha.weak (R' := ty (y_Region T) y) fun _ _ _ _ e => e) (ev_castK (show CastO (y_Thing T) (y_Oth T) (fun x : Thing => (match x with | .record y => some (.record y) | .query y => some (.query y) | .part y => some (.part y) | .bound y => some (.bound y) | .region y => some (.region y) | .entry y => some (.entry y) | .offer y => some (.offer y) : Option Oth)) from (fun _ _ x _ h e => by cases x <;> first | (have e := Option.some.inj e; subst e; exact h) | cases e)) (ev_var (τ := (y_Thing T)) rfl k_739) h_741)) bneF)
                | .entry y, ha, h => (ev_cast (ev_ownR (neg := false) (ri_r (ri_r (ri_r (ri_r (ri_r ri_l))))) (ins_Entry T) (tx_Oth T) (nfs_Entry_Oth T _) (cs_Entry___eq__ T (show F_Entry___eq__ y u_740 = some r_742 from h)) (ha.weak (R' := ty (y_Entry T) y) fun _ _ _ _ e => e) (ev_castK (show CastO (y_Thing T) (y_Oth T) (fun x : Thing => (match x with | .record y => some (.record y) | .query y => some (.query y) | .part y => some (.part y) | .bound y => some (.bound y) | .region y => some (.region y) | .entry y => some (.entry y) | .offer y => some (.offer y) : Option Oth)) from (fun _ _ x _ h e => by cases x <;> first | (have e := Option.some.inj e; subst e; exact h) | cases e)) (ev_var (τ := (y_Thing T)) rfl k_739) h_741)) bneF)
                | .offer y, ha, h => (ev_cast (ev_ownR (neg := false) (ri_r (ri_r (ri_r (ri_r (ri_r (ri_r ri_self)))))) (ins_Offer T) (tx_Oth T) (nfs_Offer_Oth T _) (cs_Offer___eq__ T (show F_Offer___eq__ y u_740 = some r_742 from h)) (ha.weak (R' := ty (y_Offer T) y) fun _ _ _ _ e => e) (ev_castK (show CastO (y_Thing T) (y_Oth T) (fun x : Thing => (match x with | .record y => some (.record y) | .query y => some (.query y) | .part y => some (.part y) | .bound y => some (.bound y) | .region y => some (.region y) | .entry y => some (.entry y) | .offer y => some (.offer y) : Option Oth)) from (fun _ _ x _ h e => by cases x <;> first | (have e := Option.some.inj e; subst e; exact h) | cases e)) (ev_var (τ := (y_Thing T)) rfl k_739) h_741)) bneF))) (fun _ y hy => by
                  obtain ⟨u_744, h_745, hy⟩ := bind_inv hy
                  obtain ⟨r_746, h_747, hy⟩ := bind_inv hy
                  have hy := Option.some.inj hy
                  subst hy
                  exact (et_cmp (match (generalizing := false) r_736, (ev_var (τ := (y_Thing T)) rfl k_739), h_747 with
                      | .record y, ha, h => (ev_cast (ev_ownR (neg := false) ri_l (ins_Record T) (tx_Oth T) (nfs_Record_Oth T _) (cs_Record___eq__ T (show F_Record___eq__ y u_744 = some r_746 from h)) (ha.weak (R' := ty (y_Record T) y) fun _ _ _ _ e => e) (ev_castK (show CastO (y_Thing T) (y_Oth T) (fun x : Thing => (match x with | .record y => some (.record y) | .query y => some (.query y) | .part y => some (.part y) | .bound y => some (.bound y) | .region y => some (.region y) | .entry y => some (.entry y) | .offer y => some (.offer y) : Option Oth)) from (fun _ _ x _ h e => by cases x <;> first | (have e := Option.some.inj e; subst e; exact h) | cases e)) (ev_var (τ := (y_Thing T)) rfl k_708) h_745)) bneF)
                      | .query y, ha, h => (ev_cast (ev_ownR (neg := false) (ri_r ri_l) (ins_Query T) (tx_Oth T) (nfs_Query_Oth T _) (cs_Query___eq__ T (show F_Query___eq__ y u_744 = some r_746 from h)) (ha.weak (R' := ty (y_Query T) y) fun _ _ _ _ e => e) (ev_castK (show CastO (y_Thing T) (y_Oth T) (fun x : Thing => (match x with | .record y => some (.record y) | .query y => some (.query y) | .part y => some (.part y) | .bound y => some (.bound y) | .region y => some (.region y) | .entry y => some (.entry y) | .offer y => some (.offer y) : Option Oth)) from (fun _ _ x _ h e => by cases x <;> first | (have e := Option.some.inj e; subst e; exact h) | cases e)) (ev_var (τ := (y_Thing T)) rfl k_708) h_745)) bneF)
                      | .part y, ha, h => (ev_cast (ev_ownR (neg := false) (ri_r (ri_r ri_l)) (ins_Part T) (tx_Oth T) (nfs_Part_Oth T _) (cs_Part___eq__ T (show F_Part___eq__ y u_744 = some r_746 from h)) (ha.weak (R' := ty (y_Part T) y) fun _ _ _ _ e => e) (ev_castK (show CastO (y_Thing T) (y_Oth T) (fun x : Thing => (match x with | .record y => some (.record y) | .query y => some (.query y) | .part y => some (.part y) | .bound y => some (.bound y) | .region y => some (.region y) | .entry y => some (.entry y) | .offer y => some (.offer y) : Option Oth)) from (fun _ _ x _ h e => by cases x <;> first | (have e := Option.some.inj e; subst e; exact h) | cases e)) (ev_var (τ := (y_Thing T)) rfl k_708) h_745)) bneF)
                      | .bound y, ha, h => (ev_cast (ev_ownR (neg := false) (ri_r (ri_r (ri_r ri_l))) (ins_Bound T) (tx_Oth T) (nfs_Bound_Oth T _) (cs_Bound___eq__ T (show F_Bound___eq__ y u_744 = some r_746 from h)) (ha.weak (R' := ty (y_Bound T) y) fun _ _ _ _ e => e) (ev_castK (show CastO (y_Thing T) (y_Oth T) (fun x : Thing => (match x with | .record y => some (.record y) | .query y => some (.query y) | .part y => some (.part y) | .bound y => some (.bound y) | .region y => some (.region y) | .entry y => some (.entry y) | .offer y => some (.offer y) : Option Oth)) from (fun _ _ x _ h e => by cases x <;> first | (have e := Option.some.inj e; subst e; exact h) | cases e)) (ev_var (τ := (y_Thing T)) rfl k_708) h_745)) bneF)
                      | .region y, ha, h => (ev_cast (ev_ownR (neg := false) (ri_r (ri_r (ri_r (ri_r ri_l)))) (ins_Region T) (tx_Oth T) (nfs_Region_Oth T _) (cs_Region___eq__ T (show F_Region___eq__ y u_744 = some r_746 from h)) (ha.weak (R' := ty (y_Region T) y) fun _ _ _ _ e => e) (ev_castK (show CastO (y_Thing T) (y_Oth T) (fun x : Thing => (match x with | .record y => some (.record y) | .query y => some (.query y) | .part y => some (.part y) | .bound y => some (.bound y) | .region y => some (.region y) | .entry y => some (.entry y) | .offer y => some (.offer y) : Option Oth)) from (fun _ _ x _ h e => by cases x <;> first | (have e := Option.some.inj e; subst e; exact h) | cases e)) (ev_var (τ := (y_Thing T)) rfl k_708) h_745)) bneF)
                      | .entry y, ha, h => (ev_cast (ev_ownR (neg := false) (ri_r (ri_r (ri_r (ri_r (ri_r ri_l))))) (ins_Entry T) (tx_Oth T) (nfs_Entry_Oth T _) (cs_Entry___eq__ T (show F_Entry___eq__ y u_744 = some r_746 from h)) (ha.weak (R' := ty (y_Entry T) y) fun _ _ _ _ e => e) (ev_castK (show CastO (y_Thing T) (y_Oth T) (fun x : Thing => (match x with | .record y => some (.record y) | .query y => some (.query y) | .part y => some (.part y) | .bound y => some (.bound y) | .region y => some (.region y) | .entry y => some (.entry y) | .offer y => some (.offer y) : Option Oth)) from (fun _ _ x _ h e => by cases x <;> first | (have e := Option.some.inj e; subst e; exact h) | cases e)) (ev_var (τ := (y_Thing T)) rfl k_708) h_745)) bneF)
                      | .offer y, ha, h => (ev_cast (ev_ownR (neg := false) (ri_r (ri_r (ri_r (ri_r (ri_r (ri_r ri_self)))))) (ins_Offer T) (tx_Oth T) (nfs_Offer_Oth T _) (cs_Offer___eq__ T (show F_Offer___eq__ y u_744 = some r_746 from h)) (ha.weak (R' := ty (y_Offer T) y) fun _ _ _ _ e => e) (ev_castK (show CastO (y_Thing T) (y_Oth T) (fun x : Thing => (match x with | .record y => some (.record y) | .query y => some (.query y) | .part y => some (.part y) | .bound y => some (.bound y) | .region y => some (.region y) | .entry y => some (.entry y) | .offer y => some (.offer y) : Option Oth)) from (fun _ _ x _ h e => by cases x <;> first | (have e := Option.some.inj e; subst e; exact h) | cases e)) (ev_var (τ := (y_Thing T)) rfl k_708) h_745)) bneF)))) h_748) (fun b_750 Z1 H1 e P1 => ?_) (fun b_750 Z1 H1 e P1 => ?_)
            · replace P := P1
              have hB := ifT b_750 hB_702
              replace hB_702 := hB
              clear hB
              replace zs_712 := zs_712.trans e.z
              replace zs_704 := zs_704.trans e.z
              refine st_norm (by dsimp only [List.set, L2.start, List.map, List.length, List.replicate, List.cons_append, List.nil_append, Nat.reduceSub, Nat.reduceAdd]) ?_
              replace hB_702 := Option.some.inj hB_702
              subst hB_702
              have hz := nxt_ret hq_703
              subst hz
              have hz := ret_inv hB_653
              replace hz := Option.some.inj hz
              subst hz
              have hz := nxt_ret hq_654
              subst hz
              have hz := ret_inv hF
              have hb := Option.some.inj hz
              refine st_ret P ev_bl (fun v Z H P hv => ?_)
              have hv2 : v = V.bl _ := hv
              rw [hb] at hv2
              rw [hv2]
              exact q _
            · replace P := P1
              have hB := ifF b_750 hB_702
              replace hB_702 := hB
              clear hB
              refine st_next ?_
              replace k_707 := ((yList (y_Any T))).mono e.z k_707
              replace k_708 := ((y_Thing T)).mono e.z k_708
              replace zs_712 := zs_712.trans e.z
              replace zs_704 := zs_704.trans e.z
              replace hB_702 := Option.some.inj hB_702
              subst hB_702
              exact ⟨_, zs_704, P.sub, (), _, _, _, _, rfl, P, zs_712, k_707, k_708, (nxt_go hq_703)⟩
          rintro σ' Z1 H1 _ _ ⟨w_713, y_706, y_709, y_710, y_711, rfl, P, zs_721, k_707, k_708, hl⟩
          have hz := forS_nil hl
          subst hz
          replace hB_653 := go_inv hB_653
          replace hB_653 := Option.some.inj hB_653
          subst hB_653
          exact ⟨_, zs_721, P.sub, r_675.2, _, _, _, _, _, _, _, rfl, P, (nxt_go hq_654)⟩
      rintro σ' Z1 H1 _ _ ⟨w_664, y_657, y_658, y_659, y_660, y_661, y_662, y_663, rfl, P, hl⟩
      have hz := forS_nil hl
      subst hz
      replace hF := go_inv hF
      refine st_nx ?_
      refine st_norm (by dsimp only [List.set, L2.start, List.map, List.length, List.replicate, List.cons_append, List.nil_append, Nat.reduceSub, Nat.reduceAdd]) ?_
      have hb := Option.some.inj hF
      refine st_ret P ev_bl (fun v Z H P hv => ?_)
      have hv2 : v = V.bl _ := hv
      rw [hb] at hv2
      rw [hv2]
      exact q _
end
set_option maxRecDepth 100000 in
set_option maxHeartbeats 0 in
theorem all_mk {l : PySem.W.OpenLaw} {w : World} {K : PySem.W.Frag} {h : Heap} {mg : Str → Option Value} {fa f0 f1 f2 f3 f4 f5 f6 f7 f8 f9 f10 f11 f12 f13 f14 f15 f16 f17 f18 f19 f20 f21 f22 f23 f24 f25 f26 f27 : Addr} (X : K.In h) (G : h.Ns mainGlobals mg) (hfa : mg "law" = some (.ref fa))
    {od0 an0 od1 an1 od2 an2 od3 an3 od4 an4 od5 an5 od6 an6 od7 an7 od8 an8 od9 an9 od10 an10 od11 an11 od12 an12 od13 an13 od14 an14 od15 an15 od16 an16 od17 an17 od18 an18 od19 an19 od20 an20 od21 an21 od22 an22 od23 an23 od24 an24 od25 an25 od26 an26 od27 an27 : Option Addr} {sl0 sl1 sl2 sl3 sl4 sl5 sl6 sl7 sl8 sl9 sl10 sl11 sl12 sl13 sl14 sl15 sl16 sl17 sl18 sl19 sl20 sl21 sl22 sl23 sl24 sl25 sl26 sl27 : Array (Option Value)} {oc0 kV0 dc0 pm0 cd0 ct0 oc1 kV1 dc1 pm1 cd1 ct1 oc2 dc2 pm2 cd2 ct2 oc3 kV3 dc3 pm3 cd3 ct3 oc4 kV4 dc4 pm4 cd4 ct4 oc5 kV5 dc5 pm5 cd5 ct5 oc6 kV6 dc6 pm6 cd6 ct6 oc7 kV7 dc7 pm7 cd7 ct7 oc8 kV8 dc8 pm8 cd8 ct8 oc9 kV9 dc9 pm9 cd9 ct9 oc10 dc10 pm10 cd10 ct10 oc11 kV11 dc11 pm11 cd11 ct11 oc12 kV12 dc12 pm12 cd12 ct12 oc13 kV13 dc13 pm13 cd13 ct13 oc14 kV14 dc14 pm14 cd14 ct14 oc15 kV15 dc15 pm15 cd15 ct15 oc16 kV16 dc16 pm16 cd16 ct16 oc17 kV17 dc17 pm17 cd17 ct17 oc18 kV18 dc18 pm18 cd18 ct18 oc19 kV19 dc19 pm19 cd19 ct19 oc20 kV20 dc20 pm20 cd20 ct20 oc21 kV21 dc21 pm21 cd21 ct21 oc22 kV22 dc22 pm22 cd22 ct22 oc23 kV23 dc23 pm23 cd23 ct23 oc24 kV24 dc24 pm24 cd24 ct24 oc25 kV25 dc25 pm25 cd25 ct25 oc26 kV26 dc26 pm26 cd26 ct26 oc27 kV27 dc27 pm27 cd27 ct27 : Value}
    {C_Record C_Query C_Part C_Bound C_Norms C_Region C_Entry C_Offer : Addr}
    (a0 : PySem.W.nsIn K mainGlobals "_law_row" = some (some (.ref f0))) (l0 : K.lookup f0 = some ⟨oc0, od0, .func (PySem.W.fnOf "_law_row" "_law_row" (defArgs s_law_row) (defBody s_law_row) (defScope s_law_row) .none kV0 dc0 pm0 an0 cd0 ct0), sl0⟩) (c0 : PySem.W.codeIn K cd0 "_law_row" = true) (k0 : PySem.W.keepIn K (.ref f0) = true)
    (a1 : PySem.W.nsIn K mainGlobals "_law_next" = some (some (.ref f1))) (l1 : K.lookup f1 = some ⟨oc1, od1, .func (PySem.W.fnOf "_law_next" "_law_next" (defArgs s_law_next) (defBody s_law_next) (defScope s_law_next) .none kV1 dc1 pm1 an1 cd1 ct1), sl1⟩) (c1 : PySem.W.codeIn K cd1 "_law_next" = true) (k1 : PySem.W.keepIn K (.ref f1) = true)
    {DK2 : Addr} (l2 : K.lookup f2 = some ⟨oc2, od2, .func (PySem.W.fnOf "__init__" "Record.__init__" (defArgs s_Record___init__) (defBody s_Record___init__) (defScope s_Record___init__) .none (.ref DK2) dc2 pm2 an2 cd2 ct2), sl2⟩) (c2 : PySem.W.codeIn K cd2 "Record.__init__" = true) (k2 : PySem.W.keepIn K (.ref f2) = true)
    {E2_fields : Addr} {eo2_fields : Option Addr} {en2_fields : Nat} {es2_fields : Array (Option Value)} (n2_fields : PySem.W.nsIn K DK2 "fields" = some (some (.ref E2_fields))) (t2_fields : K.lookup E2_fields = some ⟨.type "tuple", eo2_fields, .seq #[] en2_fields, es2_fields⟩)
    {E2_words : Addr} {eo2_words : Option Addr} {en2_words : Nat} {es2_words : Array (Option Value)} (n2_words : PySem.W.nsIn K DK2 "words" = some (some (.ref E2_words))) (t2_words : K.lookup E2_words = some ⟨.type "tuple", eo2_words, .seq #[] en2_words, es2_words⟩)
    (a3 : PySem.W.nsIn K mainGlobals "kind_of_value" = some (some (.ref f3))) (l3 : K.lookup f3 = some ⟨oc3, od3, .func (PySem.W.fnOf "kind_of_value" "kind_of_value" (defArgs s_kind_of_value) (defBody s_kind_of_value) (defScope s_kind_of_value) .none kV3 dc3 pm3 an3 cd3 ct3), sl3⟩) (c3 : PySem.W.codeIn K cd3 "kind_of_value" = true) (k3 : PySem.W.keepIn K (.ref f3) = true)
    (a4 : PySem.W.nsIn K mainGlobals "same_fields" = some (some (.ref f4))) (l4 : K.lookup f4 = some ⟨oc4, od4, .func (PySem.W.fnOf "same_fields" "same_fields" (defArgs s_same_fields) (defBody s_same_fields) (defScope s_same_fields) .none kV4 dc4 pm4 an4 cd4 ct4), sl4⟩) (c4 : PySem.W.codeIn K cd4 "same_fields" = true) (k4 : PySem.W.keepIn K (.ref f4) = true)
    (l5 : K.lookup f5 = some ⟨oc5, od5, .func (PySem.W.fnOf "__eq__" "Record.__eq__" (defArgs s_Record___eq__) (defBody s_Record___eq__) (defScope s_Record___eq__) .none kV5 dc5 pm5 an5 cd5 ct5), sl5⟩) (c5 : PySem.W.codeIn K cd5 "Record.__eq__" = true) (k5 : PySem.W.keepIn K (.ref f5) = true)
    (a6 : PySem.W.nsIn K mainGlobals "_law_flags" = some (some (.ref f6))) (l6 : K.lookup f6 = some ⟨oc6, od6, .func (PySem.W.fnOf "_law_flags" "_law_flags" (defArgs s_law_flags) (defBody s_law_flags) (defScope s_law_flags) .none kV6 dc6 pm6 an6 cd6 ct6), sl6⟩) (c6 : PySem.W.codeIn K cd6 "_law_flags" = true) (k6 : PySem.W.keepIn K (.ref f6) = true)
    (a7 : PySem.W.nsIn K mainGlobals "_law_numbers" = some (some (.ref f7))) (l7 : K.lookup f7 = some ⟨oc7, od7, .func (PySem.W.fnOf "_law_numbers" "_law_numbers" (defArgs s_law_numbers) (defBody s_law_numbers) (defScope s_law_numbers) .none kV7 dc7 pm7 an7 cd7 ct7), sl7⟩) (c7 : PySem.W.codeIn K cd7 "_law_numbers" = true) (k7 : PySem.W.keepIn K (.ref f7) = true)
    (a8 : PySem.W.nsIn K mainGlobals "_law_parts" = some (some (.ref f8))) (l8 : K.lookup f8 = some ⟨oc8, od8, .func (PySem.W.fnOf "_law_parts" "_law_parts" (defArgs s_law_parts) (defBody s_law_parts) (defScope s_law_parts) .none kV8 dc8 pm8 an8 cd8 ct8), sl8⟩) (c8 : PySem.W.codeIn K cd8 "_law_parts" = true) (k8 : PySem.W.keepIn K (.ref f8) = true)
    (a9 : PySem.W.nsIn K mainGlobals "_law_record" = some (some (.ref f9))) (l9 : K.lookup f9 = some ⟨oc9, od9, .func (PySem.W.fnOf "_law_record" "_law_record" (defArgs s_law_record) (defBody s_law_record) (defScope s_law_record) .none kV9 dc9 pm9 an9 cd9 ct9), sl9⟩) (c9 : PySem.W.codeIn K cd9 "_law_record" = true) (k9 : PySem.W.keepIn K (.ref f9) = true)
    {DK10 : Addr} (l10 : K.lookup f10 = some ⟨oc10, od10, .func (PySem.W.fnOf "__init__" "Query.__init__" (defArgs s_Query___init__) (defBody s_Query___init__) (defScope s_Query___init__) .none (.ref DK10) dc10 pm10 an10 cd10 ct10), sl10⟩) (c10 : PySem.W.codeIn K cd10 "Query.__init__" = true) (k10 : PySem.W.keepIn K (.ref f10) = true)
    {tq10_near : Tok} (n10_near : PySem.W.nsIn K DK10 "near" = some (some (.int (1) tq10_near)))
    {E10_words : Addr} {eo10_words : Option Addr} {en10_words : Nat} {es10_words : Array (Option Value)} (n10_words : PySem.W.nsIn K DK10 "words" = some (some (.ref E10_words))) (t10_words : K.lookup E10_words = some ⟨.type "tuple", eo10_words, .seq #[] en10_words, es10_words⟩)
    {tq10_text : Tok} (n10_text : PySem.W.nsIn K DK10 "text" = some (some (.str "every" tq10_text)))
    {tq10_most : Tok} (n10_most : PySem.W.nsIn K DK10 "most" = some (some (.int (1) tq10_most)))
    (a11 : PySem.W.nsIn K mainGlobals "_law_query" = some (some (.ref f11))) (l11 : K.lookup f11 = some ⟨oc11, od11, .func (PySem.W.fnOf "_law_query" "_law_query" (defArgs s_law_query) (defBody s_law_query) (defScope s_law_query) .none kV11 dc11 pm11 an11 cd11 ct11), sl11⟩) (c11 : PySem.W.codeIn K cd11 "_law_query" = true) (k11 : PySem.W.keepIn K (.ref f11) = true)
    (l12 : K.lookup f12 = some ⟨oc12, od12, .func (PySem.W.fnOf "__init__" "Part.__init__" (defArgs s_Part___init__) (defBody s_Part___init__) (defScope s_Part___init__) .none kV12 dc12 pm12 an12 cd12 ct12), sl12⟩) (c12 : PySem.W.codeIn K cd12 "Part.__init__" = true) (k12 : PySem.W.keepIn K (.ref f12) = true)
    (l13 : K.lookup f13 = some ⟨oc13, od13, .func (PySem.W.fnOf "__init__" "Bound.__init__" (defArgs s_Bound___init__) (defBody s_Bound___init__) (defScope s_Bound___init__) .none kV13 dc13 pm13 an13 cd13 ct13), sl13⟩) (c13 : PySem.W.codeIn K cd13 "Bound.__init__" = true) (k13 : PySem.W.keepIn K (.ref f13) = true)
    (l14 : K.lookup f14 = some ⟨oc14, od14, .func (PySem.W.fnOf "__init__" "Norms.__init__" (defArgs s_Norms___init__) (defBody s_Norms___init__) (defScope s_Norms___init__) .none kV14 dc14 pm14 an14 cd14 ct14), sl14⟩) (c14 : PySem.W.codeIn K cd14 "Norms.__init__" = true) (k14 : PySem.W.keepIn K (.ref f14) = true)
    (l15 : K.lookup f15 = some ⟨oc15, od15, .func (PySem.W.fnOf "__init__" "Region.__init__" (defArgs s_Region___init__) (defBody s_Region___init__) (defScope s_Region___init__) .none kV15 dc15 pm15 an15 cd15 ct15), sl15⟩) (c15 : PySem.W.codeIn K cd15 "Region.__init__" = true) (k15 : PySem.W.keepIn K (.ref f15) = true)
    (l16 : K.lookup f16 = some ⟨oc16, od16, .func (PySem.W.fnOf "__init__" "Entry.__init__" (defArgs s_Entry___init__) (defBody s_Entry___init__) (defScope s_Entry___init__) .none kV16 dc16 pm16 an16 cd16 ct16), sl16⟩) (c16 : PySem.W.codeIn K cd16 "Entry.__init__" = true) (k16 : PySem.W.keepIn K (.ref f16) = true)
    (l17 : K.lookup f17 = some ⟨oc17, od17, .func (PySem.W.fnOf "__init__" "Offer.__init__" (defArgs s_Offer___init__) (defBody s_Offer___init__) (defScope s_Offer___init__) .none kV17 dc17 pm17 an17 cd17 ct17), sl17⟩) (c17 : PySem.W.codeIn K cd17 "Offer.__init__" = true) (k17 : PySem.W.keepIn K (.ref f17) = true)
    (a18 : PySem.W.nsIn K mainGlobals "_law_made" = some (some (.ref f18))) (l18 : K.lookup f18 = some ⟨oc18, od18, .func (PySem.W.fnOf "_law_made" "_law_made" (defArgs s_law_made) (defBody s_law_made) (defScope s_law_made) .none kV18 dc18 pm18 an18 cd18 ct18), sl18⟩) (c18 : PySem.W.codeIn K cd18 "_law_made" = true) (k18 : PySem.W.keepIn K (.ref f18) = true)
    (a19 : PySem.W.nsIn K mainGlobals "_law_other" = some (some (.ref f19))) (l19 : K.lookup f19 = some ⟨oc19, od19, .func (PySem.W.fnOf "_law_other" "_law_other" (defArgs s_law_other) (defBody s_law_other) (defScope s_law_other) .none kV19 dc19 pm19 an19 cd19 ct19), sl19⟩) (c19 : PySem.W.codeIn K cd19 "_law_other" = true) (k19 : PySem.W.keepIn K (.ref f19) = true)
    (l20 : K.lookup f20 = some ⟨oc20, od20, .func (PySem.W.fnOf "__eq__" "Query.__eq__" (defArgs s_Query___eq__) (defBody s_Query___eq__) (defScope s_Query___eq__) .none kV20 dc20 pm20 an20 cd20 ct20), sl20⟩) (c20 : PySem.W.codeIn K cd20 "Query.__eq__" = true) (k20 : PySem.W.keepIn K (.ref f20) = true)
    (l21 : K.lookup f21 = some ⟨oc21, od21, .func (PySem.W.fnOf "__eq__" "Bound.__eq__" (defArgs s_Bound___eq__) (defBody s_Bound___eq__) (defScope s_Bound___eq__) .none kV21 dc21 pm21 an21 cd21 ct21), sl21⟩) (c21 : PySem.W.codeIn K cd21 "Bound.__eq__" = true) (k21 : PySem.W.keepIn K (.ref f21) = true)
    (l22 : K.lookup f22 = some ⟨oc22, od22, .func (PySem.W.fnOf "__eq__" "Part.__eq__" (defArgs s_Part___eq__) (defBody s_Part___eq__) (defScope s_Part___eq__) .none kV22 dc22 pm22 an22 cd22 ct22), sl22⟩) (c22 : PySem.W.codeIn K cd22 "Part.__eq__" = true) (k22 : PySem.W.keepIn K (.ref f22) = true)
    (l23 : K.lookup f23 = some ⟨oc23, od23, .func (PySem.W.fnOf "__eq__" "Norms.__eq__" (defArgs s_Norms___eq__) (defBody s_Norms___eq__) (defScope s_Norms___eq__) .none kV23 dc23 pm23 an23 cd23 ct23), sl23⟩) (c23 : PySem.W.codeIn K cd23 "Norms.__eq__" = true) (k23 : PySem.W.keepIn K (.ref f23) = true)
    (l24 : K.lookup f24 = some ⟨oc24, od24, .func (PySem.W.fnOf "__eq__" "Region.__eq__" (defArgs s_Region___eq__) (defBody s_Region___eq__) (defScope s_Region___eq__) .none kV24 dc24 pm24 an24 cd24 ct24), sl24⟩) (c24 : PySem.W.codeIn K cd24 "Region.__eq__" = true) (k24 : PySem.W.keepIn K (.ref f24) = true)
    (l25 : K.lookup f25 = some ⟨oc25, od25, .func (PySem.W.fnOf "__eq__" "Entry.__eq__" (defArgs s_Entry___eq__) (defBody s_Entry___eq__) (defScope s_Entry___eq__) .none kV25 dc25 pm25 an25 cd25 ct25), sl25⟩) (c25 : PySem.W.codeIn K cd25 "Entry.__eq__" = true) (k25 : PySem.W.keepIn K (.ref f25) = true)
    (l26 : K.lookup f26 = some ⟨oc26, od26, .func (PySem.W.fnOf "__eq__" "Offer.__eq__" (defArgs s_Offer___eq__) (defBody s_Offer___eq__) (defScope s_Offer___eq__) .none kV26 dc26 pm26 an26 cd26 ct26), sl26⟩) (c26 : PySem.W.codeIn K cd26 "Offer.__eq__" = true) (k26 : PySem.W.keepIn K (.ref f26) = true)
    (a27 : PySem.W.nsIn K mainGlobals "law" = some (some (.ref f27))) (l27 : K.lookup f27 = some ⟨oc27, od27, .func (PySem.W.fnOf "law" "law" (defArgs s_law) (defBody s_law) (defScope s_law) .none kV27 dc27 pm27 an27 cd27 ct27), sl27⟩) (c27 : PySem.W.codeIn K cd27 "law" = true) (k27 : PySem.W.keepIn K (.ref f27) = true)
    (aC_Record : PySem.W.nsIn K mainGlobals "Record" = some (some (.ref C_Record)))
    (pg_Record : PySem.W.plainGet K C_Record Str.empty = true)
    (hd_Record : PySem.W.hasDictIn K C_Record = true)
    (po_Record : PySem.W.plainOver K C_Record = true)
    (sa_Record : PySem.W.findIn K (.ref C_Record) "__setattr__" = some (some (.builtin "object.__setattr__")))
    (n_Record_name : PySem.W.findIn K (.ref C_Record) "name" = some none)
    (n_Record_vector : PySem.W.findIn K (.ref C_Record) "vector" = some none)
    (n_Record_fields : PySem.W.findIn K (.ref C_Record) "fields" = some none)
    (n_Record_words : PySem.W.findIn K (.ref C_Record) "words" = some none)
    (mk_Record : PySem.W.makesIn K C_Record = true)
    (in_Record : PySem.W.findIn K (.ref C_Record) "__init__" = some (some (.ref f2)))
    (if_Record : PySem.W.isFn K (.ref f2) = true)
    (kc_Record : PySem.W.keepIn K (.ref C_Record) = true)
    (fm_Record___eq__ : PySem.W.findIn K (.ref C_Record) "__eq__" = some (some (.ref f5)))
    (im_Record___eq__ : PySem.W.isFn K (.ref f5) = true)
    (ha_Record : PySem.W.findIn K (.ref C_Record) "__class__" = some (some (.builtin "object.__class__")))
    (hm_Record : PySem.W.mroIn K C_Record (.type "object") = some true)
    (aC_Query : PySem.W.nsIn K mainGlobals "Query" = some (some (.ref C_Query)))
    (pg_Query : PySem.W.plainGet K C_Query Str.empty = true)
    (hd_Query : PySem.W.hasDictIn K C_Query = true)
    (po_Query : PySem.W.plainOver K C_Query = true)
    (sa_Query : PySem.W.findIn K (.ref C_Query) "__setattr__" = some (some (.builtin "object.__setattr__")))
    (n_Query_vector : PySem.W.findIn K (.ref C_Query) "vector" = some none)
    (n_Query_near : PySem.W.findIn K (.ref C_Query) "near" = some none)
    (n_Query_words : PySem.W.findIn K (.ref C_Query) "words" = some none)
    (n_Query_text : PySem.W.findIn K (.ref C_Query) "text" = some none)
    (n_Query_most : PySem.W.findIn K (.ref C_Query) "most" = some none)
    (mk_Query : PySem.W.makesIn K C_Query = true)
    (in_Query : PySem.W.findIn K (.ref C_Query) "__init__" = some (some (.ref f10)))
    (if_Query : PySem.W.isFn K (.ref f10) = true)
    (kc_Query : PySem.W.keepIn K (.ref C_Query) = true)
    (fm_Query___eq__ : PySem.W.findIn K (.ref C_Query) "__eq__" = some (some (.ref f20)))
    (im_Query___eq__ : PySem.W.isFn K (.ref f20) = true)
    (ha_Query : PySem.W.findIn K (.ref C_Query) "__class__" = some (some (.builtin "object.__class__")))
    (hm_Query : PySem.W.mroIn K C_Query (.type "object") = some true)
    (aC_Part : PySem.W.nsIn K mainGlobals "Part" = some (some (.ref C_Part)))
    (pg_Part : PySem.W.plainGet K C_Part Str.empty = true)
    (hd_Part : PySem.W.hasDictIn K C_Part = true)
    (po_Part : PySem.W.plainOver K C_Part = true)
    (sa_Part : PySem.W.findIn K (.ref C_Part) "__setattr__" = some (some (.builtin "object.__setattr__")))
    (n_Part_start : PySem.W.findIn K (.ref C_Part) "start" = some none)
    (n_Part_centre : PySem.W.findIn K (.ref C_Part) "centre" = some none)
    (n_Part_radius : PySem.W.findIn K (.ref C_Part) "radius" = some none)
    (mk_Part : PySem.W.makesIn K C_Part = true)
    (in_Part : PySem.W.findIn K (.ref C_Part) "__init__" = some (some (.ref f12)))
    (if_Part : PySem.W.isFn K (.ref f12) = true)
    (kc_Part : PySem.W.keepIn K (.ref C_Part) = true)
    (fm_Part___eq__ : PySem.W.findIn K (.ref C_Part) "__eq__" = some (some (.ref f22)))
    (im_Part___eq__ : PySem.W.isFn K (.ref f22) = true)
    (ha_Part : PySem.W.findIn K (.ref C_Part) "__class__" = some (some (.builtin "object.__class__")))
    (hm_Part : PySem.W.mroIn K C_Part (.type "object") = some true)
    (aC_Bound : PySem.W.nsIn K mainGlobals "Bound" = some (some (.ref C_Bound)))
    (pg_Bound : PySem.W.plainGet K C_Bound Str.empty = true)
    (hd_Bound : PySem.W.hasDictIn K C_Bound = true)
    (po_Bound : PySem.W.plainOver K C_Bound = true)
    (sa_Bound : PySem.W.findIn K (.ref C_Bound) "__setattr__" = some (some (.builtin "object.__setattr__")))
    (n_Bound_cost : PySem.W.findIn K (.ref C_Bound) "cost" = some none)
    (n_Bound_name : PySem.W.findIn K (.ref C_Bound) "name" = some none)
    (n_Bound_can : PySem.W.findIn K (.ref C_Bound) "can" = some none)
    (mk_Bound : PySem.W.makesIn K C_Bound = true)
    (in_Bound : PySem.W.findIn K (.ref C_Bound) "__init__" = some (some (.ref f13)))
    (if_Bound : PySem.W.isFn K (.ref f13) = true)
    (kc_Bound : PySem.W.keepIn K (.ref C_Bound) = true)
    (fm_Bound___eq__ : PySem.W.findIn K (.ref C_Bound) "__eq__" = some (some (.ref f21)))
    (im_Bound___eq__ : PySem.W.isFn K (.ref f21) = true)
    (ha_Bound : PySem.W.findIn K (.ref C_Bound) "__class__" = some (some (.builtin "object.__class__")))
    (hm_Bound : PySem.W.mroIn K C_Bound (.type "object") = some true)
    (aC_Norms : PySem.W.nsIn K mainGlobals "Norms" = some (some (.ref C_Norms)))
    (pg_Norms : PySem.W.plainGet K C_Norms Str.empty = true)
    (hd_Norms : PySem.W.hasDictIn K C_Norms = true)
    (po_Norms : PySem.W.plainOver K C_Norms = true)
    (sa_Norms : PySem.W.findIn K (.ref C_Norms) "__setattr__" = some (some (.builtin "object.__setattr__")))
    (n_Norms_low : PySem.W.findIn K (.ref C_Norms) "low" = some none)
    (n_Norms_high : PySem.W.findIn K (.ref C_Norms) "high" = some none)
    (mk_Norms : PySem.W.makesIn K C_Norms = true)
    (in_Norms : PySem.W.findIn K (.ref C_Norms) "__init__" = some (some (.ref f14)))
    (if_Norms : PySem.W.isFn K (.ref f14) = true)
    (kc_Norms : PySem.W.keepIn K (.ref C_Norms) = true)
    (fm_Norms___eq__ : PySem.W.findIn K (.ref C_Norms) "__eq__" = some (some (.ref f23)))
    (im_Norms___eq__ : PySem.W.isFn K (.ref f23) = true)
    (ha_Norms : PySem.W.findIn K (.ref C_Norms) "__class__" = some (some (.builtin "object.__class__")))
    (hm_Norms : PySem.W.mroIn K C_Norms (.type "object") = some true)
    (aC_Region : PySem.W.nsIn K mainGlobals "Region" = some (some (.ref C_Region)))
    (pg_Region : PySem.W.plainGet K C_Region Str.empty = true)
    (hd_Region : PySem.W.hasDictIn K C_Region = true)
    (po_Region : PySem.W.plainOver K C_Region = true)
    (sa_Region : PySem.W.findIn K (.ref C_Region) "__setattr__" = some (some (.builtin "object.__setattr__")))
    (n_Region_parent : PySem.W.findIn K (.ref C_Region) "parent" = some none)
    (n_Region_facts : PySem.W.findIn K (.ref C_Region) "facts" = some none)
    (mk_Region : PySem.W.makesIn K C_Region = true)
    (in_Region : PySem.W.findIn K (.ref C_Region) "__init__" = some (some (.ref f15)))
    (if_Region : PySem.W.isFn K (.ref f15) = true)
    (kc_Region : PySem.W.keepIn K (.ref C_Region) = true)
    (fm_Region___eq__ : PySem.W.findIn K (.ref C_Region) "__eq__" = some (some (.ref f24)))
    (im_Region___eq__ : PySem.W.isFn K (.ref f24) = true)
    (ha_Region : PySem.W.findIn K (.ref C_Region) "__class__" = some (some (.builtin "object.__class__")))
    (hm_Region : PySem.W.mroIn K C_Region (.type "object") = some true)
    (aC_Entry : PySem.W.nsIn K mainGlobals "Entry" = some (some (.ref C_Entry)))
    (pg_Entry : PySem.W.plainGet K C_Entry Str.empty = true)
    (hd_Entry : PySem.W.hasDictIn K C_Entry = true)
    (po_Entry : PySem.W.plainOver K C_Entry = true)
    (sa_Entry : PySem.W.findIn K (.ref C_Entry) "__setattr__" = some (some (.builtin "object.__setattr__")))
    (n_Entry_number : PySem.W.findIn K (.ref C_Entry) "number" = some none)
    (n_Entry_record : PySem.W.findIn K (.ref C_Entry) "record" = some none)
    (n_Entry_leaves : PySem.W.findIn K (.ref C_Entry) "leaves" = some none)
    (mk_Entry : PySem.W.makesIn K C_Entry = true)
    (in_Entry : PySem.W.findIn K (.ref C_Entry) "__init__" = some (some (.ref f16)))
    (if_Entry : PySem.W.isFn K (.ref f16) = true)
    (kc_Entry : PySem.W.keepIn K (.ref C_Entry) = true)
    (fm_Entry___eq__ : PySem.W.findIn K (.ref C_Entry) "__eq__" = some (some (.ref f25)))
    (im_Entry___eq__ : PySem.W.isFn K (.ref f25) = true)
    (ha_Entry : PySem.W.findIn K (.ref C_Entry) "__class__" = some (some (.builtin "object.__class__")))
    (hm_Entry : PySem.W.mroIn K C_Entry (.type "object") = some true)
    (aC_Offer : PySem.W.nsIn K mainGlobals "Offer" = some (some (.ref C_Offer)))
    (pg_Offer : PySem.W.plainGet K C_Offer Str.empty = true)
    (hd_Offer : PySem.W.hasDictIn K C_Offer = true)
    (po_Offer : PySem.W.plainOver K C_Offer = true)
    (sa_Offer : PySem.W.findIn K (.ref C_Offer) "__setattr__" = some (some (.builtin "object.__setattr__")))
    (n_Offer_partitions : PySem.W.findIn K (.ref C_Offer) "partitions" = some none)
    (n_Offer_entries : PySem.W.findIn K (.ref C_Offer) "entries" = some none)
    (mk_Offer : PySem.W.makesIn K C_Offer = true)
    (in_Offer : PySem.W.findIn K (.ref C_Offer) "__init__" = some (some (.ref f17)))
    (if_Offer : PySem.W.isFn K (.ref f17) = true)
    (kc_Offer : PySem.W.keepIn K (.ref C_Offer) = true)
    (fm_Offer___eq__ : PySem.W.findIn K (.ref C_Offer) "__eq__" = some (some (.ref f26)))
    (im_Offer___eq__ : PySem.W.isFn K (.ref f26) = true)
    (ha_Offer : PySem.W.findIn K (.ref C_Offer) "__class__" = some (some (.builtin "object.__class__")))
    (hm_Offer : PySem.W.mroIn K C_Offer (.type "object") = some true)
    (ic_Record : PySem.W.isClsIn K C_Record = true)
    (ty_Record : PySem.W.typeIn K (.ref C_Record) = some (.type "type"))
    (ic_Query : PySem.W.isClsIn K C_Query = true)
    (ty_Query : PySem.W.typeIn K (.ref C_Query) = some (.type "type"))
    (ic_Bound : PySem.W.isClsIn K C_Bound = true)
    (ty_Bound : PySem.W.typeIn K (.ref C_Bound) = some (.type "type"))
    (ic_Part : PySem.W.isClsIn K C_Part = true)
    (ty_Part : PySem.W.typeIn K (.ref C_Part) = some (.type "type"))
    (ic_Norms : PySem.W.isClsIn K C_Norms = true)
    (ty_Norms : PySem.W.typeIn K (.ref C_Norms) = some (.type "type"))
    (ic_Region : PySem.W.isClsIn K C_Region = true)
    (ty_Region : PySem.W.typeIn K (.ref C_Region) = some (.type "type"))
    (ic_Entry : PySem.W.isClsIn K C_Entry = true)
    (ty_Entry : PySem.W.typeIn K (.ref C_Entry) = some (.type "type"))
    (ic_Offer : PySem.W.isClsIn K C_Offer = true)
    (ty_Offer : PySem.W.typeIn K (.ref C_Offer) = some (.type "type"))
    (ss_Record : PySem.W.subIn K (.ref C_Record) (.ref C_Record) = some true)
    (sb_Query_Record : PySem.W.subIn K (.ref C_Query) (.ref C_Record) = some false)
    (sb_Part_Record : PySem.W.subIn K (.ref C_Part) (.ref C_Record) = some false)
    (sb_Bound_Record : PySem.W.subIn K (.ref C_Bound) (.ref C_Record) = some false)
    (sb_Region_Record : PySem.W.subIn K (.ref C_Region) (.ref C_Record) = some false)
    (sb_Entry_Record : PySem.W.subIn K (.ref C_Entry) (.ref C_Record) = some false)
    (sb_Offer_Record : PySem.W.subIn K (.ref C_Offer) (.ref C_Record) = some false)
    (sb_Norms_Record : PySem.W.subIn K (.ref C_Norms) (.ref C_Record) = some false)
    (sb_tuple_Record : PySem.W.subIn K (.type "tuple") (.ref C_Record) = some false)
    (sb_list_Record : PySem.W.subIn K (.type "list") (.ref C_Record) = some false)
    (ss_Query : PySem.W.subIn K (.ref C_Query) (.ref C_Query) = some true)
    (sb_Record_Query : PySem.W.subIn K (.ref C_Record) (.ref C_Query) = some false)
    (sb_Part_Query : PySem.W.subIn K (.ref C_Part) (.ref C_Query) = some false)
    (sb_Bound_Query : PySem.W.subIn K (.ref C_Bound) (.ref C_Query) = some false)
    (sb_Region_Query : PySem.W.subIn K (.ref C_Region) (.ref C_Query) = some false)
    (sb_Entry_Query : PySem.W.subIn K (.ref C_Entry) (.ref C_Query) = some false)
    (sb_Offer_Query : PySem.W.subIn K (.ref C_Offer) (.ref C_Query) = some false)
    (sb_Norms_Query : PySem.W.subIn K (.ref C_Norms) (.ref C_Query) = some false)
    (sb_tuple_Query : PySem.W.subIn K (.type "tuple") (.ref C_Query) = some false)
    (sb_list_Query : PySem.W.subIn K (.type "list") (.ref C_Query) = some false)
    (ss_Bound : PySem.W.subIn K (.ref C_Bound) (.ref C_Bound) = some true)
    (sb_Record_Bound : PySem.W.subIn K (.ref C_Record) (.ref C_Bound) = some false)
    (sb_Query_Bound : PySem.W.subIn K (.ref C_Query) (.ref C_Bound) = some false)
    (sb_Part_Bound : PySem.W.subIn K (.ref C_Part) (.ref C_Bound) = some false)
    (sb_Region_Bound : PySem.W.subIn K (.ref C_Region) (.ref C_Bound) = some false)
    (sb_Entry_Bound : PySem.W.subIn K (.ref C_Entry) (.ref C_Bound) = some false)
    (sb_Offer_Bound : PySem.W.subIn K (.ref C_Offer) (.ref C_Bound) = some false)
    (sb_Norms_Bound : PySem.W.subIn K (.ref C_Norms) (.ref C_Bound) = some false)
    (sb_tuple_Bound : PySem.W.subIn K (.type "tuple") (.ref C_Bound) = some false)
    (sb_list_Bound : PySem.W.subIn K (.type "list") (.ref C_Bound) = some false)
    (ss_Part : PySem.W.subIn K (.ref C_Part) (.ref C_Part) = some true)
    (sb_Record_Part : PySem.W.subIn K (.ref C_Record) (.ref C_Part) = some false)
    (sb_Query_Part : PySem.W.subIn K (.ref C_Query) (.ref C_Part) = some false)
    (sb_Bound_Part : PySem.W.subIn K (.ref C_Bound) (.ref C_Part) = some false)
    (sb_Region_Part : PySem.W.subIn K (.ref C_Region) (.ref C_Part) = some false)
    (sb_Entry_Part : PySem.W.subIn K (.ref C_Entry) (.ref C_Part) = some false)
    (sb_Offer_Part : PySem.W.subIn K (.ref C_Offer) (.ref C_Part) = some false)
    (sb_Norms_Part : PySem.W.subIn K (.ref C_Norms) (.ref C_Part) = some false)
    (sb_tuple_Part : PySem.W.subIn K (.type "tuple") (.ref C_Part) = some false)
    (sb_list_Part : PySem.W.subIn K (.type "list") (.ref C_Part) = some false)
    (ss_Norms : PySem.W.subIn K (.ref C_Norms) (.ref C_Norms) = some true)
    (sb_Record_Norms : PySem.W.subIn K (.ref C_Record) (.ref C_Norms) = some false)
    (sb_Query_Norms : PySem.W.subIn K (.ref C_Query) (.ref C_Norms) = some false)
    (sb_Part_Norms : PySem.W.subIn K (.ref C_Part) (.ref C_Norms) = some false)
    (sb_Bound_Norms : PySem.W.subIn K (.ref C_Bound) (.ref C_Norms) = some false)
    (sb_Region_Norms : PySem.W.subIn K (.ref C_Region) (.ref C_Norms) = some false)
    (sb_Entry_Norms : PySem.W.subIn K (.ref C_Entry) (.ref C_Norms) = some false)
    (sb_Offer_Norms : PySem.W.subIn K (.ref C_Offer) (.ref C_Norms) = some false)
    (sb_tuple_Norms : PySem.W.subIn K (.type "tuple") (.ref C_Norms) = some false)
    (sb_list_Norms : PySem.W.subIn K (.type "list") (.ref C_Norms) = some false)
    (ss_Region : PySem.W.subIn K (.ref C_Region) (.ref C_Region) = some true)
    (sb_Record_Region : PySem.W.subIn K (.ref C_Record) (.ref C_Region) = some false)
    (sb_Query_Region : PySem.W.subIn K (.ref C_Query) (.ref C_Region) = some false)
    (sb_Part_Region : PySem.W.subIn K (.ref C_Part) (.ref C_Region) = some false)
    (sb_Bound_Region : PySem.W.subIn K (.ref C_Bound) (.ref C_Region) = some false)
    (sb_Entry_Region : PySem.W.subIn K (.ref C_Entry) (.ref C_Region) = some false)
    (sb_Offer_Region : PySem.W.subIn K (.ref C_Offer) (.ref C_Region) = some false)
    (sb_Norms_Region : PySem.W.subIn K (.ref C_Norms) (.ref C_Region) = some false)
    (sb_tuple_Region : PySem.W.subIn K (.type "tuple") (.ref C_Region) = some false)
    (sb_list_Region : PySem.W.subIn K (.type "list") (.ref C_Region) = some false)
    (ss_Entry : PySem.W.subIn K (.ref C_Entry) (.ref C_Entry) = some true)
    (sb_Record_Entry : PySem.W.subIn K (.ref C_Record) (.ref C_Entry) = some false)
    (sb_Query_Entry : PySem.W.subIn K (.ref C_Query) (.ref C_Entry) = some false)
    (sb_Part_Entry : PySem.W.subIn K (.ref C_Part) (.ref C_Entry) = some false)
    (sb_Bound_Entry : PySem.W.subIn K (.ref C_Bound) (.ref C_Entry) = some false)
    (sb_Region_Entry : PySem.W.subIn K (.ref C_Region) (.ref C_Entry) = some false)
    (sb_Offer_Entry : PySem.W.subIn K (.ref C_Offer) (.ref C_Entry) = some false)
    (sb_Norms_Entry : PySem.W.subIn K (.ref C_Norms) (.ref C_Entry) = some false)
    (sb_tuple_Entry : PySem.W.subIn K (.type "tuple") (.ref C_Entry) = some false)
    (sb_list_Entry : PySem.W.subIn K (.type "list") (.ref C_Entry) = some false)
    (ss_Offer : PySem.W.subIn K (.ref C_Offer) (.ref C_Offer) = some true)
    (sb_Record_Offer : PySem.W.subIn K (.ref C_Record) (.ref C_Offer) = some false)
    (sb_Query_Offer : PySem.W.subIn K (.ref C_Query) (.ref C_Offer) = some false)
    (sb_Part_Offer : PySem.W.subIn K (.ref C_Part) (.ref C_Offer) = some false)
    (sb_Bound_Offer : PySem.W.subIn K (.ref C_Bound) (.ref C_Offer) = some false)
    (sb_Region_Offer : PySem.W.subIn K (.ref C_Region) (.ref C_Offer) = some false)
    (sb_Entry_Offer : PySem.W.subIn K (.ref C_Entry) (.ref C_Offer) = some false)
    (sb_Norms_Offer : PySem.W.subIn K (.ref C_Norms) (.ref C_Offer) = some false)
    (sb_tuple_Offer : PySem.W.subIn K (.type "tuple") (.ref C_Offer) = some false)
    (sb_list_Offer : PySem.W.subIn K (.type "list") (.ref C_Offer) = some false)
    (nf_Record_Query : PySem.W.subIn K (.ref C_Query) (.ref C_Record) = some false)
    (nf_Record_Part : PySem.W.subIn K (.ref C_Part) (.ref C_Record) = some false)
    (nf_Record_Bound : PySem.W.subIn K (.ref C_Bound) (.ref C_Record) = some false)
    (nf_Record_Region : PySem.W.subIn K (.ref C_Region) (.ref C_Record) = some false)
    (nf_Record_Entry : PySem.W.subIn K (.ref C_Entry) (.ref C_Record) = some false)
    (nf_Record_Offer : PySem.W.subIn K (.ref C_Offer) (.ref C_Record) = some false)
    (nf_Record_Norms : PySem.W.subIn K (.ref C_Norms) (.ref C_Record) = some false)
    (nf_Record_tuple : PySem.W.subIn K (.type "tuple") (.ref C_Record) = some false)
    (nf_Record_list : PySem.W.subIn K (.type "list") (.ref C_Record) = some false)
    (nf_Query_Record : PySem.W.subIn K (.ref C_Record) (.ref C_Query) = some false)
    (nf_Query_Part : PySem.W.subIn K (.ref C_Part) (.ref C_Query) = some false)
    (nf_Query_Bound : PySem.W.subIn K (.ref C_Bound) (.ref C_Query) = some false)
    (nf_Query_Region : PySem.W.subIn K (.ref C_Region) (.ref C_Query) = some false)
    (nf_Query_Entry : PySem.W.subIn K (.ref C_Entry) (.ref C_Query) = some false)
    (nf_Query_Offer : PySem.W.subIn K (.ref C_Offer) (.ref C_Query) = some false)
    (nf_Query_Norms : PySem.W.subIn K (.ref C_Norms) (.ref C_Query) = some false)
    (nf_Query_tuple : PySem.W.subIn K (.type "tuple") (.ref C_Query) = some false)
    (nf_Query_list : PySem.W.subIn K (.type "list") (.ref C_Query) = some false)
    (nf_Part_Record : PySem.W.subIn K (.ref C_Record) (.ref C_Part) = some false)
    (nf_Part_Query : PySem.W.subIn K (.ref C_Query) (.ref C_Part) = some false)
    (nf_Part_Bound : PySem.W.subIn K (.ref C_Bound) (.ref C_Part) = some false)
    (nf_Part_Region : PySem.W.subIn K (.ref C_Region) (.ref C_Part) = some false)
    (nf_Part_Entry : PySem.W.subIn K (.ref C_Entry) (.ref C_Part) = some false)
    (nf_Part_Offer : PySem.W.subIn K (.ref C_Offer) (.ref C_Part) = some false)
    (nf_Part_Norms : PySem.W.subIn K (.ref C_Norms) (.ref C_Part) = some false)
    (nf_Part_tuple : PySem.W.subIn K (.type "tuple") (.ref C_Part) = some false)
    (nf_Part_list : PySem.W.subIn K (.type "list") (.ref C_Part) = some false)
    (nf_Bound_Record : PySem.W.subIn K (.ref C_Record) (.ref C_Bound) = some false)
    (nf_Bound_Query : PySem.W.subIn K (.ref C_Query) (.ref C_Bound) = some false)
    (nf_Bound_Part : PySem.W.subIn K (.ref C_Part) (.ref C_Bound) = some false)
    (nf_Bound_Region : PySem.W.subIn K (.ref C_Region) (.ref C_Bound) = some false)
    (nf_Bound_Entry : PySem.W.subIn K (.ref C_Entry) (.ref C_Bound) = some false)
    (nf_Bound_Offer : PySem.W.subIn K (.ref C_Offer) (.ref C_Bound) = some false)
    (nf_Bound_Norms : PySem.W.subIn K (.ref C_Norms) (.ref C_Bound) = some false)
    (nf_Bound_tuple : PySem.W.subIn K (.type "tuple") (.ref C_Bound) = some false)
    (nf_Bound_list : PySem.W.subIn K (.type "list") (.ref C_Bound) = some false)
    (nf_Region_Record : PySem.W.subIn K (.ref C_Record) (.ref C_Region) = some false)
    (nf_Region_Query : PySem.W.subIn K (.ref C_Query) (.ref C_Region) = some false)
    (nf_Region_Part : PySem.W.subIn K (.ref C_Part) (.ref C_Region) = some false)
    (nf_Region_Bound : PySem.W.subIn K (.ref C_Bound) (.ref C_Region) = some false)
    (nf_Region_Entry : PySem.W.subIn K (.ref C_Entry) (.ref C_Region) = some false)
    (nf_Region_Offer : PySem.W.subIn K (.ref C_Offer) (.ref C_Region) = some false)
    (nf_Region_Norms : PySem.W.subIn K (.ref C_Norms) (.ref C_Region) = some false)
    (nf_Region_tuple : PySem.W.subIn K (.type "tuple") (.ref C_Region) = some false)
    (nf_Region_list : PySem.W.subIn K (.type "list") (.ref C_Region) = some false)
    (nf_Entry_Record : PySem.W.subIn K (.ref C_Record) (.ref C_Entry) = some false)
    (nf_Entry_Query : PySem.W.subIn K (.ref C_Query) (.ref C_Entry) = some false)
    (nf_Entry_Part : PySem.W.subIn K (.ref C_Part) (.ref C_Entry) = some false)
    (nf_Entry_Bound : PySem.W.subIn K (.ref C_Bound) (.ref C_Entry) = some false)
    (nf_Entry_Region : PySem.W.subIn K (.ref C_Region) (.ref C_Entry) = some false)
    (nf_Entry_Offer : PySem.W.subIn K (.ref C_Offer) (.ref C_Entry) = some false)
    (nf_Entry_Norms : PySem.W.subIn K (.ref C_Norms) (.ref C_Entry) = some false)
    (nf_Entry_tuple : PySem.W.subIn K (.type "tuple") (.ref C_Entry) = some false)
    (nf_Entry_list : PySem.W.subIn K (.type "list") (.ref C_Entry) = some false)
    (nf_Offer_Record : PySem.W.subIn K (.ref C_Record) (.ref C_Offer) = some false)
    (nf_Offer_Query : PySem.W.subIn K (.ref C_Query) (.ref C_Offer) = some false)
    (nf_Offer_Part : PySem.W.subIn K (.ref C_Part) (.ref C_Offer) = some false)
    (nf_Offer_Bound : PySem.W.subIn K (.ref C_Bound) (.ref C_Offer) = some false)
    (nf_Offer_Region : PySem.W.subIn K (.ref C_Region) (.ref C_Offer) = some false)
    (nf_Offer_Entry : PySem.W.subIn K (.ref C_Entry) (.ref C_Offer) = some false)
    (nf_Offer_Norms : PySem.W.subIn K (.ref C_Norms) (.ref C_Offer) = some false)
    (nf_Offer_tuple : PySem.W.subIn K (.type "tuple") (.ref C_Offer) = some false)
    (nf_Offer_list : PySem.W.subIn K (.type "list") (.ref C_Offer) = some false)
    (hn0 : PySem.W.specialIn K (.builtin "object.__class__") "__get__" = some (some (.builtin "getset_descriptor.__get__")))
    (ht0 : PySem.W.takesIn K (.builtin "object.__class__") = some true)
    (z_bool : PySem.W.nsIn K mainGlobals "bool" = some none)
    (z_int : PySem.W.nsIn K mainGlobals "int" = some none)
    (z_isinstance : PySem.W.nsIn K mainGlobals "isinstance" = some none)
    (z_len : PySem.W.nsIn K mainGlobals "len" = some none)
    (z_list : PySem.W.nsIn K mainGlobals "list" = some none)
    (z_range : PySem.W.nsIn K mainGlobals "range" = some none)
    (z_str : PySem.W.nsIn K mainGlobals "str" = some none)
    (z_tuple : PySem.W.nsIn K mainGlobals "tuple" = some none)
    : ∃ fd : FuncData, (∀ (s : Shared) (v : Value), BindsTo s fd ⟨[v], []⟩ [("script", v)]) ∧ ∀ base : Heap, K.In base → base.Ns mainGlobals mg → FnOk l.prog w K mg base CX0 7 fa fd ["script"] (sp_law K) := by
  have e := hfa.symm.trans (PySem.W.mg_of X G a27)
  cases e
  have F0 := fun_mk (st := s_law_row) l0 c0 k0
  have b0 := F0.binds (ps := ["script", "k"]) fun _ _ _ _ _ _ us hl => match us, hl with | [_, _], _ => rfl
  have F1 := fun_mk (st := s_law_next) l1 c1 k1
  have b1 := F1.binds (ps := ["state", "many"]) fun _ _ _ _ _ _ us hl => match us, hl with | [_, _], _ => rfl
  have F2 : FunD K "__init__" "Record.__init__" (defArgs s_Record___init__) (defBody s_Record___init__) (defScope s_Record___init__) [] [("fields", .ref E2_fields), ("words", .ref E2_words)] f2 _ := ⟨⟨_, _, _, _, _, _, _, _, _, _, rfl, l2, c2, .inl ⟨rfl, rfl⟩, .inr ⟨DK2, rfl, fun q hq => by
    simp only [List.mem_cons, List.not_mem_nil, or_false] at hq
    rcases hq with rfl | rfl
    · exact ⟨_, n2_fields, rfl⟩
    · exact ⟨_, n2_words, rfl⟩⟩⟩, k2⟩
  obtain ⟨mv2, kb2⟩ := F2.kbinds0 (ps := ["self", "name", "vector", "fields", "words"]) 3 ["fields", "words"] [] (fun us mv ws => us ++ ws) (by intro h; cases h) (fun q h => by cases h) (fun r1 _ r3 => r1.append r3) (fun D doc pm an cdv ct us mv ws l1 l2 l3 => match us, mv, ws, l1, l2, l3 with | [_, _, _], [], [_, _], _, _, _ => rfl)
  obtain ⟨mv_Record___init___k0, kb_Record___init___k0⟩ := F2.kbinds0 (ps := ["self", "name", "vector", "fields", "words"]) 3 ["fields"] [("words", .ref E2_words)] (fun us mv ws => us ++ ((ws.drop 0).take 1 ++ ((mv.drop 0).take 1))) (by intro h; cases h) (fun q h => by
    simp only [List.mem_cons, List.not_mem_nil, or_false] at h ⊢
    subst h; simp) (fun r1 r2 r3 => r1.append (((r3.drop 0).take 1).append ((r2.drop 0).take 1))) (fun D doc pm an cdv ct us mv ws l1 l2 l3 => match us, mv, ws, l1, l2, l3 with | [_, _, _], [_], [_], _, _, _ => ⟨_, _, _, _, _, _, rfl, rfl, rfl⟩)
  obtain ⟨ds2, v2, b2⟩ := F2.binds0 (ps := ["self", "name", "vector", "fields", "words"]) 3 (by intro h; cases h) rfl (fun D doc pm an cdv ct us ks l1 l2 => match us, ks, l1, l2 with | [_, _, _], [_, _], _, _ => ⟨_, _, _, _, _, _, rfl, rfl, ⟨_, _, _, _, _, _, rfl, rfl, rfl⟩⟩)
  have F3 := fun_mk (st := s_kind_of_value) l3 c3 k3
  have b3 := F3.binds (ps := ["worth"]) fun _ _ _ _ _ _ us hl => match us, hl with | [_], _ => rfl
  have F4 := fun_mk (st := s_same_fields) l4 c4 k4
  have b4 := F4.binds (ps := ["ones", "others"]) fun _ _ _ _ _ _ us hl => match us, hl with | [_, _], _ => rfl
  have F5 := fun_mk (st := s_Record___eq__) l5 c5 k5
  have b5 := F5.binds (ps := ["self", "other"]) fun _ _ _ _ _ _ us hl => match us, hl with | [_, _], _ => rfl
  have F6 := fun_mk (st := s_law_flags) l6 c6 k6
  have b6 := F6.binds (ps := []) fun _ _ _ _ _ _ us hl => match us, hl with | [], _ => rfl
  have F7 := fun_mk (st := s_law_numbers) l7 c7 k7
  have b7 := F7.binds (ps := ["state"]) fun _ _ _ _ _ _ us hl => match us, hl with | [_], _ => rfl
  have F8 := fun_mk (st := s_law_parts) l8 c8 k8
  have b8 := F8.binds (ps := ["state", "kind"]) fun _ _ _ _ _ _ us hl => match us, hl with | [_, _], _ => rfl
  have F9 := fun_mk (st := s_law_record) l9 c9 k9
  have b9 := F9.binds (ps := ["parts"]) fun _ _ _ _ _ _ us hl => match us, hl with | [_], _ => rfl
  have F10 : FunD K "__init__" "Query.__init__" (defArgs s_Query___init__) (defBody s_Query___init__) (defScope s_Query___init__) [] [("near", .int (1)), ("words", .ref E10_words), ("text", .str "every"), ("most", .int (1))] f10 _ := ⟨⟨_, _, _, _, _, _, _, _, _, _, rfl, l10, c10, .inl ⟨rfl, rfl⟩, .inr ⟨DK10, rfl, fun q hq => by
    simp only [List.mem_cons, List.not_mem_nil, or_false] at hq
    rcases hq with rfl | rfl | rfl | rfl
    · exact ⟨_, n10_near, ⟨_, rfl⟩⟩
    · exact ⟨_, n10_words, rfl⟩
    · exact ⟨_, n10_text, ⟨_, rfl⟩⟩
    · exact ⟨_, n10_most, ⟨_, rfl⟩⟩⟩⟩, k10⟩
  obtain ⟨mv10, kb10⟩ := F10.kbinds0 (ps := ["self", "vector", "near", "words", "text", "most"]) 2 ["near", "words", "text", "most"] [] (fun us mv ws => us ++ ws) (by intro h; cases h) (fun q h => by cases h) (fun r1 _ r3 => r1.append r3) (fun D doc pm an cdv ct us mv ws l1 l2 l3 => match us, mv, ws, l1, l2, l3 with | [_, _], [], [_, _, _, _], _, _, _ => rfl)
  obtain ⟨ds10, v10, b10⟩ := F10.binds0 (ps := ["self", "vector", "near", "words", "text", "most"]) 2 (by intro h; cases h) rfl (fun D doc pm an cdv ct us ks l1 l2 => match us, ks, l1, l2 with | [_, _], [_, _, _, _], _, _ => ⟨_, _, _, _, _, _, rfl, rfl, ⟨_, _, _, _, _, _, rfl, rfl, ⟨_, _, _, _, _, _, rfl, rfl, ⟨_, _, _, _, _, _, rfl, rfl, rfl⟩⟩⟩⟩)
  have F11 := fun_mk (st := s_law_query) l11 c11 k11
  have b11 := F11.binds (ps := ["parts"]) fun _ _ _ _ _ _ us hl => match us, hl with | [_], _ => rfl
  have F12 := fun_mk (st := s_Part___init__) l12 c12 k12
  have b12 := F12.binds (ps := ["self", "start", "centre", "radius"]) fun _ _ _ _ _ _ us hl => match us, hl with | [_, _, _, _], _ => rfl
  have F13 := fun_mk (st := s_Bound___init__) l13 c13 k13
  have b13 := F13.binds (ps := ["self", "cost", "name", "can"]) fun _ _ _ _ _ _ us hl => match us, hl with | [_, _, _, _], _ => rfl
  have F14 := fun_mk (st := s_Norms___init__) l14 c14 k14
  have b14 := F14.binds (ps := ["self", "low", "high"]) fun _ _ _ _ _ _ us hl => match us, hl with | [_, _, _], _ => rfl
  have F15 := fun_mk (st := s_Region___init__) l15 c15 k15
  have b15 := F15.binds (ps := ["self", "parent", "facts"]) fun _ _ _ _ _ _ us hl => match us, hl with | [_, _, _], _ => rfl
  have F16 := fun_mk (st := s_Entry___init__) l16 c16 k16
  have b16 := F16.binds (ps := ["self", "number", "record", "leaves"]) fun _ _ _ _ _ _ us hl => match us, hl with | [_, _, _, _], _ => rfl
  have F17 := fun_mk (st := s_Offer___init__) l17 c17 k17
  have b17 := F17.binds (ps := ["self", "partitions", "entries"]) fun _ _ _ _ _ _ us hl => match us, hl with | [_, _, _], _ => rfl
  have F18 := fun_mk (st := s_law_made) l18 c18 k18
  have b18 := F18.binds (ps := ["kind", "parts"]) fun _ _ _ _ _ _ us hl => match us, hl with | [_, _], _ => rfl
  have F19 := fun_mk (st := s_law_other) l19 c19 k19
  have b19 := F19.binds (ps := ["kind", "at", "part"]) fun _ _ _ _ _ _ us hl => match us, hl with | [_, _, _], _ => rfl
  have F20 := fun_mk (st := s_Query___eq__) l20 c20 k20
  have b20 := F20.binds (ps := ["self", "other"]) fun _ _ _ _ _ _ us hl => match us, hl with | [_, _], _ => rfl
  have F21 := fun_mk (st := s_Bound___eq__) l21 c21 k21
  have b21 := F21.binds (ps := ["self", "other"]) fun _ _ _ _ _ _ us hl => match us, hl with | [_, _], _ => rfl
  have F22 := fun_mk (st := s_Part___eq__) l22 c22 k22
  have b22 := F22.binds (ps := ["self", "other"]) fun _ _ _ _ _ _ us hl => match us, hl with | [_, _], _ => rfl
  have F23 := fun_mk (st := s_Norms___eq__) l23 c23 k23
  have b23 := F23.binds (ps := ["self", "other"]) fun _ _ _ _ _ _ us hl => match us, hl with | [_, _], _ => rfl
  have F24 := fun_mk (st := s_Region___eq__) l24 c24 k24
  have b24 := F24.binds (ps := ["self", "other"]) fun _ _ _ _ _ _ us hl => match us, hl with | [_, _], _ => rfl
  have F25 := fun_mk (st := s_Entry___eq__) l25 c25 k25
  have b25 := F25.binds (ps := ["self", "other"]) fun _ _ _ _ _ _ us hl => match us, hl with | [_, _], _ => rfl
  have F26 := fun_mk (st := s_Offer___eq__) l26 c26 k26
  have b26 := F26.binds (ps := ["self", "other"]) fun _ _ _ _ _ _ us hl => match us, hl with | [_, _], _ => rfl
  have F27 := fun_mk (st := s_law) l27 c27 k27
  have b27 := F27.binds (ps := ["script"]) fun _ _ _ _ _ _ us hl => match us, hl with | [_], _ => rfl
  let T : Txt K mg := ⟨_, _, F0, b0, PySem.W.mg_of X G a0,
    _, _, F1, b1, PySem.W.mg_of X G a1,
    _, _, _, fun H => .inr ⟨_, _, _, t2_fields, rfl, rfl, by decide, .nil⟩, _, fun H => .inr ⟨_, _, _, t2_words, rfl, rfl, by decide, .nil⟩, F2, kb2, _, kb_Record___init___k0, _, v2, b2,
    _, _, F3, b3, PySem.W.mg_of X G a3,
    _, _, F4, b4, PySem.W.mg_of X G a4,
    _, _, F5, b5,
    _, _, F6, b6, PySem.W.mg_of X G a6,
    _, _, F7, b7, PySem.W.mg_of X G a7,
    _, _, F8, b8, PySem.W.mg_of X G a8,
    _, _, F9, b9, PySem.W.mg_of X G a9,
    _, _, _, fun H => .inr ⟨_, _, _, t10_words, rfl, rfl, by decide, .nil⟩, F10, kb10, _, v10, b10,
    _, _, F11, b11, PySem.W.mg_of X G a11,
    _, _, F12, b12,
    _, _, F13, b13,
    _, _, F14, b14,
    _, _, F15, b15,
    _, _, F16, b16,
    _, _, F17, b17,
    _, _, F18, b18, PySem.W.mg_of X G a18,
    _, _, F19, b19, PySem.W.mg_of X G a19,
    _, _, F20, b20,
    _, _, F21, b21,
    _, _, F22, b22,
    _, _, F23, b23,
    _, _, F24, b24,
    _, _, F25, b25,
    _, _, F26, b26,
    _, _, F27, b27, PySem.W.mg_of X G a27,
    _, ⟨pg_Record, hd_Record, po_Record, sa_Record⟩, PySem.W.mg_of X G aC_Record, n_Record_name, n_Record_vector, n_Record_fields, n_Record_words, ⟨mk_Record, in_Record, if_Record, kc_Record⟩, ⟨fm_Record___eq__, im_Record___eq__, k5⟩, ha_Record, hm_Record,
    _, ⟨pg_Query, hd_Query, po_Query, sa_Query⟩, PySem.W.mg_of X G aC_Query, n_Query_vector, n_Query_near, n_Query_words, n_Query_text, n_Query_most, ⟨mk_Query, in_Query, if_Query, kc_Query⟩, ⟨fm_Query___eq__, im_Query___eq__, k20⟩, ha_Query, hm_Query,
    _, ⟨pg_Part, hd_Part, po_Part, sa_Part⟩, PySem.W.mg_of X G aC_Part, n_Part_start, n_Part_centre, n_Part_radius, ⟨mk_Part, in_Part, if_Part, kc_Part⟩, ⟨fm_Part___eq__, im_Part___eq__, k22⟩, ha_Part, hm_Part,
    _, ⟨pg_Bound, hd_Bound, po_Bound, sa_Bound⟩, PySem.W.mg_of X G aC_Bound, n_Bound_cost, n_Bound_name, n_Bound_can, ⟨mk_Bound, in_Bound, if_Bound, kc_Bound⟩, ⟨fm_Bound___eq__, im_Bound___eq__, k21⟩, ha_Bound, hm_Bound,
    _, ⟨pg_Norms, hd_Norms, po_Norms, sa_Norms⟩, PySem.W.mg_of X G aC_Norms, n_Norms_low, n_Norms_high, ⟨mk_Norms, in_Norms, if_Norms, kc_Norms⟩, ⟨fm_Norms___eq__, im_Norms___eq__, k23⟩, ha_Norms, hm_Norms,
    _, ⟨pg_Region, hd_Region, po_Region, sa_Region⟩, PySem.W.mg_of X G aC_Region, n_Region_parent, n_Region_facts, ⟨mk_Region, in_Region, if_Region, kc_Region⟩, ⟨fm_Region___eq__, im_Region___eq__, k24⟩, ha_Region, hm_Region,
    _, ⟨pg_Entry, hd_Entry, po_Entry, sa_Entry⟩, PySem.W.mg_of X G aC_Entry, n_Entry_number, n_Entry_record, n_Entry_leaves, ⟨mk_Entry, in_Entry, if_Entry, kc_Entry⟩, ⟨fm_Entry___eq__, im_Entry___eq__, k25⟩, ha_Entry, hm_Entry,
    _, ⟨pg_Offer, hd_Offer, po_Offer, sa_Offer⟩, PySem.W.mg_of X G aC_Offer, n_Offer_partitions, n_Offer_entries, ⟨mk_Offer, in_Offer, if_Offer, kc_Offer⟩, ⟨fm_Offer___eq__, im_Offer___eq__, k26⟩, ha_Offer, hm_Offer,
    kit_self,
    kit_subN ic_Record ty_Record sb_Query_Record ss_Record,
    kit_subN ic_Record ty_Record sb_Part_Record ss_Record,
    kit_subN ic_Record ty_Record sb_Bound_Record ss_Record,
    kit_subN ic_Record ty_Record sb_Region_Record ss_Record,
    kit_subN ic_Record ty_Record sb_Entry_Record ss_Record,
    kit_subN ic_Record ty_Record sb_Offer_Record ss_Record,
    kit_subN ic_Record ty_Record sb_Norms_Record ss_Record,
    kit_sub ic_Record ty_Record sb_tuple_Record (by rfl),
    kit_sub ic_Record ty_Record sb_list_Record (by rfl),
    kit_subN ic_Query ty_Query sb_Record_Query ss_Query,
    kit_self,
    kit_subN ic_Query ty_Query sb_Part_Query ss_Query,
    kit_subN ic_Query ty_Query sb_Bound_Query ss_Query,
    kit_subN ic_Query ty_Query sb_Region_Query ss_Query,
    kit_subN ic_Query ty_Query sb_Entry_Query ss_Query,
    kit_subN ic_Query ty_Query sb_Offer_Query ss_Query,
    kit_subN ic_Query ty_Query sb_Norms_Query ss_Query,
    kit_sub ic_Query ty_Query sb_tuple_Query (by rfl),
    kit_sub ic_Query ty_Query sb_list_Query (by rfl),
    kit_subN ic_Bound ty_Bound sb_Record_Bound ss_Bound,
    kit_subN ic_Bound ty_Bound sb_Query_Bound ss_Bound,
    kit_subN ic_Bound ty_Bound sb_Part_Bound ss_Bound,
    kit_self,
    kit_subN ic_Bound ty_Bound sb_Region_Bound ss_Bound,
    kit_subN ic_Bound ty_Bound sb_Entry_Bound ss_Bound,
    kit_subN ic_Bound ty_Bound sb_Offer_Bound ss_Bound,
    kit_subN ic_Bound ty_Bound sb_Norms_Bound ss_Bound,
    kit_sub ic_Bound ty_Bound sb_tuple_Bound (by rfl),
    kit_sub ic_Bound ty_Bound sb_list_Bound (by rfl),
    kit_subN ic_Part ty_Part sb_Record_Part ss_Part,
    kit_subN ic_Part ty_Part sb_Query_Part ss_Part,
    kit_self,
    kit_subN ic_Part ty_Part sb_Bound_Part ss_Part,
    kit_subN ic_Part ty_Part sb_Region_Part ss_Part,
    kit_subN ic_Part ty_Part sb_Entry_Part ss_Part,
    kit_subN ic_Part ty_Part sb_Offer_Part ss_Part,
    kit_subN ic_Part ty_Part sb_Norms_Part ss_Part,
    kit_sub ic_Part ty_Part sb_tuple_Part (by rfl),
    kit_sub ic_Part ty_Part sb_list_Part (by rfl),
    kit_subN ic_Norms ty_Norms sb_Record_Norms ss_Norms,
    kit_subN ic_Norms ty_Norms sb_Query_Norms ss_Norms,
    kit_subN ic_Norms ty_Norms sb_Part_Norms ss_Norms,
    kit_subN ic_Norms ty_Norms sb_Bound_Norms ss_Norms,
    kit_subN ic_Norms ty_Norms sb_Region_Norms ss_Norms,
    kit_subN ic_Norms ty_Norms sb_Entry_Norms ss_Norms,
    kit_subN ic_Norms ty_Norms sb_Offer_Norms ss_Norms,
    kit_self,
    kit_sub ic_Norms ty_Norms sb_tuple_Norms (by rfl),
    kit_sub ic_Norms ty_Norms sb_list_Norms (by rfl),
    kit_subN ic_Region ty_Region sb_Record_Region ss_Region,
    kit_subN ic_Region ty_Region sb_Query_Region ss_Region,
    kit_subN ic_Region ty_Region sb_Part_Region ss_Region,
    kit_subN ic_Region ty_Region sb_Bound_Region ss_Region,
    kit_self,
    kit_subN ic_Region ty_Region sb_Entry_Region ss_Region,
    kit_subN ic_Region ty_Region sb_Offer_Region ss_Region,
    kit_subN ic_Region ty_Region sb_Norms_Region ss_Region,
    kit_sub ic_Region ty_Region sb_tuple_Region (by rfl),
    kit_sub ic_Region ty_Region sb_list_Region (by rfl),
    kit_subN ic_Entry ty_Entry sb_Record_Entry ss_Entry,
    kit_subN ic_Entry ty_Entry sb_Query_Entry ss_Entry,
    kit_subN ic_Entry ty_Entry sb_Part_Entry ss_Entry,
    kit_subN ic_Entry ty_Entry sb_Bound_Entry ss_Entry,
    kit_subN ic_Entry ty_Entry sb_Region_Entry ss_Entry,
    kit_self,
    kit_subN ic_Entry ty_Entry sb_Offer_Entry ss_Entry,
    kit_subN ic_Entry ty_Entry sb_Norms_Entry ss_Entry,
    kit_sub ic_Entry ty_Entry sb_tuple_Entry (by rfl),
    kit_sub ic_Entry ty_Entry sb_list_Entry (by rfl),
    kit_subN ic_Offer ty_Offer sb_Record_Offer ss_Offer,
    kit_subN ic_Offer ty_Offer sb_Query_Offer ss_Offer,
    kit_subN ic_Offer ty_Offer sb_Part_Offer ss_Offer,
    kit_subN ic_Offer ty_Offer sb_Bound_Offer ss_Offer,
    kit_subN ic_Offer ty_Offer sb_Region_Offer ss_Offer,
    kit_subN ic_Offer ty_Offer sb_Entry_Offer ss_Offer,
    kit_self,
    kit_subN ic_Offer ty_Offer sb_Norms_Offer ss_Offer,
    kit_sub ic_Offer ty_Offer sb_tuple_Offer (by rfl),
    kit_sub ic_Offer ty_Offer sb_list_Offer (by rfl),
    nf_sub nf_Record_Query,
    nf_sub nf_Record_Part,
    nf_sub nf_Record_Bound,
    nf_sub nf_Record_Region,
    nf_sub nf_Record_Entry,
    nf_sub nf_Record_Offer,
    nf_sub nf_Record_Norms,
    nf_sub nf_Record_tuple,
    nf_sub nf_Record_list,
    nf_sub nf_Query_Record,
    nf_sub nf_Query_Part,
    nf_sub nf_Query_Bound,
    nf_sub nf_Query_Region,
    nf_sub nf_Query_Entry,
    nf_sub nf_Query_Offer,
    nf_sub nf_Query_Norms,
    nf_sub nf_Query_tuple,
    nf_sub nf_Query_list,
    nf_sub nf_Part_Record,
    nf_sub nf_Part_Query,
    nf_sub nf_Part_Bound,
    nf_sub nf_Part_Region,
    nf_sub nf_Part_Entry,
    nf_sub nf_Part_Offer,
    nf_sub nf_Part_Norms,
    nf_sub nf_Part_tuple,
    nf_sub nf_Part_list,
    nf_sub nf_Bound_Record,
    nf_sub nf_Bound_Query,
    nf_sub nf_Bound_Part,
    nf_sub nf_Bound_Region,
    nf_sub nf_Bound_Entry,
    nf_sub nf_Bound_Offer,
    nf_sub nf_Bound_Norms,
    nf_sub nf_Bound_tuple,
    nf_sub nf_Bound_list,
    nf_sub nf_Region_Record,
    nf_sub nf_Region_Query,
    nf_sub nf_Region_Part,
    nf_sub nf_Region_Bound,
    nf_sub nf_Region_Entry,
    nf_sub nf_Region_Offer,
    nf_sub nf_Region_Norms,
    nf_sub nf_Region_tuple,
    nf_sub nf_Region_list,
    nf_sub nf_Entry_Record,
    nf_sub nf_Entry_Query,
    nf_sub nf_Entry_Part,
    nf_sub nf_Entry_Bound,
    nf_sub nf_Entry_Region,
    nf_sub nf_Entry_Offer,
    nf_sub nf_Entry_Norms,
    nf_sub nf_Entry_tuple,
    nf_sub nf_Entry_list,
    nf_sub nf_Offer_Record,
    nf_sub nf_Offer_Query,
    nf_sub nf_Offer_Part,
    nf_sub nf_Offer_Bound,
    nf_sub nf_Offer_Region,
    nf_sub nf_Offer_Entry,
    nf_sub nf_Offer_Norms,
    nf_sub nf_Offer_tuple,
    nf_sub nf_Offer_list,
    hn0,
    ht0,
    PySem.W.mg_none_of X G z_bool,
    PySem.W.mg_none_of X G z_int,
    PySem.W.mg_none_of X G z_isinstance,
    PySem.W.mg_none_of X G z_len,
    PySem.W.mg_none_of X G z_list,
    PySem.W.mg_none_of X G z_range,
    PySem.W.mg_none_of X G z_str,
    PySem.W.mg_none_of X G z_tuple⟩
  exact ⟨_, fun s v => .of_eq rfl, fun base _ _ => ok_law T⟩
end K93
open PySem PySem.W PyProof.Rows
set_option maxRecDepth 100000 in
set_option maxHeartbeats 0 in
theorem PySem.Challenge.cw_surenear_k93_things_are_equal_by_all_fie_holds : PySem.Challenge.rw_surenear_k93_things_are_equal_by_all_fie.Holds := by
  w_on; o_law; k_headL; (case hw => w_witness2)
  k_fill
  refine L2.walk_of (l := PySem.Challenge.rw_surenear_k93_things_are_equal_by_all_fie) (n := 63) (k := 7) (x := "script") (CX := fun _ => L2.CX0) (sp := fun w => K93.sp_law _) rfl (by decide) rfl ⟨rfl, by decide, by decide⟩ (fun w h Y => PySem.W.kIn_of Y) ?F (fun _ _ a ns hl _ hS => ⟨a, ns, rfl, hS, hl, fun _ => rfl⟩) (fun _ _ _ _ _ h => h)
  case F =>
    intro w mg fa h KX G hmg
    refine' K93.all_mk KX G hmg (a0 := ?a0) (l0 := ?l0) (c0 := ?c0) (k0 := ?k0) (a1 := ?a1) (l1 := ?l1) (c1 := ?c1) (k1 := ?k1) (a3 := ?a3) (l3 := ?l3) (c3 := ?c3) (k3 := ?k3) (a4 := ?a4) (l4 := ?l4) (c4 := ?c4) (k4 := ?k4) (a6 := ?a6) (l6 := ?l6) (c6 := ?c6) (k6 := ?k6) (a7 := ?a7) (l7 := ?l7) (c7 := ?c7) (k7 := ?k7) (a8 := ?a8) (l8 := ?l8) (c8 := ?c8) (k8 := ?k8) (a9 := ?a9) (l9 := ?l9) (c9 := ?c9) (k9 := ?k9) (a11 := ?a11) (l11 := ?l11) (c11 := ?c11) (k11 := ?k11) (a18 := ?a18) (l18 := ?l18) (c18 := ?c18) (k18 := ?k18) (a19 := ?a19) (l19 := ?l19) (c19 := ?c19) (k19 := ?k19) (a27 := ?a27) (l27 := ?l27) (c27 := ?c27) (k27 := ?k27) (aC_Record := ?aC_Record) (pg_Record := ?pg_Record) (hd_Record := ?hd_Record) (po_Record := ?po_Record) (sa_Record := ?sa_Record) (n_Record_name := ?n_Record_name) (n_Record_vector := ?n_Record_vector) (n_Record_fields := ?n_Record_fields) (n_Record_words := ?n_Record_words) (mk_Record := ?mk_Record) (in_Record := ?in_Record) (if_Record := ?if_Record) (kc_Record := ?kc_Record) (fm_Record___eq__ := ?fm_Record___eq__) (im_Record___eq__ := ?im_Record___eq__) (ha_Record := ?ha_Record) (hm_Record := ?hm_Record) (aC_Query := ?aC_Query) (pg_Query := ?pg_Query) (hd_Query := ?hd_Query) (po_Query := ?po_Query) (sa_Query := ?sa_Query) (n_Query_vector := ?n_Query_vector) (n_Query_near := ?n_Query_near) (n_Query_words := ?n_Query_words) (n_Query_text := ?n_Query_text) (n_Query_most := ?n_Query_most) (mk_Query := ?mk_Query) (in_Query := ?in_Query) (if_Query := ?if_Query) (kc_Query := ?kc_Query) (fm_Query___eq__ := ?fm_Query___eq__) (im_Query___eq__ := ?im_Query___eq__) (ha_Query := ?ha_Query) (hm_Query := ?hm_Query) (aC_Part := ?aC_Part) (pg_Part := ?pg_Part) (hd_Part := ?hd_Part) (po_Part := ?po_Part) (sa_Part := ?sa_Part) (n_Part_start := ?n_Part_start) (n_Part_centre := ?n_Part_centre) (n_Part_radius := ?n_Part_radius) (mk_Part := ?mk_Part) (in_Part := ?in_Part) (if_Part := ?if_Part) (kc_Part := ?kc_Part) (fm_Part___eq__ := ?fm_Part___eq__) (im_Part___eq__ := ?im_Part___eq__) (ha_Part := ?ha_Part) (hm_Part := ?hm_Part) (aC_Bound := ?aC_Bound) (pg_Bound := ?pg_Bound) (hd_Bound := ?hd_Bound) (po_Bound := ?po_Bound) (sa_Bound := ?sa_Bound) (n_Bound_cost := ?n_Bound_cost) (n_Bound_name := ?n_Bound_name) (n_Bound_can := ?n_Bound_can) (mk_Bound := ?mk_Bound) (in_Bound := ?in_Bound) (if_Bound := ?if_Bound) (kc_Bound := ?kc_Bound) (fm_Bound___eq__ := ?fm_Bound___eq__) (im_Bound___eq__ := ?im_Bound___eq__) (ha_Bound := ?ha_Bound) (hm_Bound := ?hm_Bound) (aC_Norms := ?aC_Norms) (pg_Norms := ?pg_Norms) (hd_Norms := ?hd_Norms) (po_Norms := ?po_Norms) (sa_Norms := ?sa_Norms) (n_Norms_low := ?n_Norms_low) (n_Norms_high := ?n_Norms_high) (mk_Norms := ?mk_Norms) (in_Norms := ?in_Norms) (if_Norms := ?if_Norms) (kc_Norms := ?kc_Norms) (fm_Norms___eq__ := ?fm_Norms___eq__) (im_Norms___eq__ := ?im_Norms___eq__) (ha_Norms := ?ha_Norms) (hm_Norms := ?hm_Norms) (aC_Region := ?aC_Region) (pg_Region := ?pg_Region) (hd_Region := ?hd_Region) (po_Region := ?po_Region) (sa_Region := ?sa_Region) (n_Region_parent := ?n_Region_parent) (n_Region_facts := ?n_Region_facts) (mk_Region := ?mk_Region) (in_Region := ?in_Region) (if_Region := ?if_Region) (kc_Region := ?kc_Region) (fm_Region___eq__ := ?fm_Region___eq__) (im_Region___eq__ := ?im_Region___eq__) (ha_Region := ?ha_Region) (hm_Region := ?hm_Region) (aC_Entry := ?aC_Entry) (pg_Entry := ?pg_Entry) (hd_Entry := ?hd_Entry) (po_Entry := ?po_Entry) (sa_Entry := ?sa_Entry) (n_Entry_number := ?n_Entry_number) (n_Entry_record := ?n_Entry_record) (n_Entry_leaves := ?n_Entry_leaves) (mk_Entry := ?mk_Entry) (in_Entry := ?in_Entry) (if_Entry := ?if_Entry) (kc_Entry := ?kc_Entry) (fm_Entry___eq__ := ?fm_Entry___eq__) (im_Entry___eq__ := ?im_Entry___eq__) (ha_Entry := ?ha_Entry) (hm_Entry := ?hm_Entry) (aC_Offer := ?aC_Offer) (pg_Offer := ?pg_Offer) (hd_Offer := ?hd_Offer) (po_Offer := ?po_Offer) (sa_Offer := ?sa_Offer) (n_Offer_partitions := ?n_Offer_partitions) (n_Offer_entries := ?n_Offer_entries) (mk_Offer := ?mk_Offer) (in_Offer := ?in_Offer) (if_Offer := ?if_Offer) (kc_Offer := ?kc_Offer) (fm_Offer___eq__ := ?fm_Offer___eq__) (im_Offer___eq__ := ?im_Offer___eq__) (ha_Offer := ?ha_Offer) (hm_Offer := ?hm_Offer) (ic_Record := ?ic_Record) (ty_Record := ?ty_Record) (ic_Query := ?ic_Query) (ty_Query := ?ty_Query) (ic_Bound := ?ic_Bound) (ty_Bound := ?ty_Bound) (ic_Part := ?ic_Part) (ty_Part := ?ty_Part) (ic_Norms := ?ic_Norms) (ty_Norms := ?ty_Norms) (ic_Region := ?ic_Region) (ty_Region := ?ty_Region) (ic_Entry := ?ic_Entry) (ty_Entry := ?ty_Entry) (ic_Offer := ?ic_Offer) (ty_Offer := ?ty_Offer) (ss_Record := ?ss_Record) (sb_Query_Record := ?sb_Query_Record) (sb_Part_Record := ?sb_Part_Record) (sb_Bound_Record := ?sb_Bound_Record) (sb_Region_Record := ?sb_Region_Record) (sb_Entry_Record := ?sb_Entry_Record) (sb_Offer_Record := ?sb_Offer_Record) (sb_Norms_Record := ?sb_Norms_Record) (sb_tuple_Record := ?sb_tuple_Record) (sb_list_Record := ?sb_list_Record) (ss_Query := ?ss_Query) (sb_Record_Query := ?sb_Record_Query) (sb_Part_Query := ?sb_Part_Query) (sb_Bound_Query := ?sb_Bound_Query) (sb_Region_Query := ?sb_Region_Query) (sb_Entry_Query := ?sb_Entry_Query) (sb_Offer_Query := ?sb_Offer_Query) (sb_Norms_Query := ?sb_Norms_Query) (sb_tuple_Query := ?sb_tuple_Query) (sb_list_Query := ?sb_list_Query) (ss_Bound := ?ss_Bound) (sb_Record_Bound := ?sb_Record_Bound) (sb_Query_Bound := ?sb_Query_Bound) (sb_Part_Bound := ?sb_Part_Bound) (sb_Region_Bound := ?sb_Region_Bound) (sb_Entry_Bound := ?sb_Entry_Bound) (sb_Offer_Bound := ?sb_Offer_Bound) (sb_Norms_Bound := ?sb_Norms_Bound) (sb_tuple_Bound := ?sb_tuple_Bound) (sb_list_Bound := ?sb_list_Bound) (ss_Part := ?ss_Part) (sb_Record_Part := ?sb_Record_Part) (sb_Query_Part := ?sb_Query_Part) (sb_Bound_Part := ?sb_Bound_Part) (sb_Region_Part := ?sb_Region_Part) (sb_Entry_Part := ?sb_Entry_Part) (sb_Offer_Part := ?sb_Offer_Part) (sb_Norms_Part := ?sb_Norms_Part) (sb_tuple_Part := ?sb_tuple_Part) (sb_list_Part := ?sb_list_Part) (ss_Norms := ?ss_Norms) (sb_Record_Norms := ?sb_Record_Norms) (sb_Query_Norms := ?sb_Query_Norms) (sb_Part_Norms := ?sb_Part_Norms) (sb_Bound_Norms := ?sb_Bound_Norms) (sb_Region_Norms := ?sb_Region_Norms) (sb_Entry_Norms := ?sb_Entry_Norms) (sb_Offer_Norms := ?sb_Offer_Norms) (sb_tuple_Norms := ?sb_tuple_Norms) (sb_list_Norms := ?sb_list_Norms) (ss_Region := ?ss_Region) (sb_Record_Region := ?sb_Record_Region) (sb_Query_Region := ?sb_Query_Region) (sb_Part_Region := ?sb_Part_Region) (sb_Bound_Region := ?sb_Bound_Region) (sb_Entry_Region := ?sb_Entry_Region) (sb_Offer_Region := ?sb_Offer_Region) (sb_Norms_Region := ?sb_Norms_Region) (sb_tuple_Region := ?sb_tuple_Region) (sb_list_Region := ?sb_list_Region) (ss_Entry := ?ss_Entry) (sb_Record_Entry := ?sb_Record_Entry) (sb_Query_Entry := ?sb_Query_Entry) (sb_Part_Entry := ?sb_Part_Entry) (sb_Bound_Entry := ?sb_Bound_Entry) (sb_Region_Entry := ?sb_Region_Entry) (sb_Offer_Entry := ?sb_Offer_Entry) (sb_Norms_Entry := ?sb_Norms_Entry) (sb_tuple_Entry := ?sb_tuple_Entry) (sb_list_Entry := ?sb_list_Entry) (ss_Offer := ?ss_Offer) (sb_Record_Offer := ?sb_Record_Offer) (sb_Query_Offer := ?sb_Query_Offer) (sb_Part_Offer := ?sb_Part_Offer) (sb_Bound_Offer := ?sb_Bound_Offer) (sb_Region_Offer := ?sb_Region_Offer) (sb_Entry_Offer := ?sb_Entry_Offer) (sb_Norms_Offer := ?sb_Norms_Offer) (sb_tuple_Offer := ?sb_tuple_Offer) (sb_list_Offer := ?sb_list_Offer) (nf_Record_Query := ?nf_Record_Query) (nf_Record_Part := ?nf_Record_Part) (nf_Record_Bound := ?nf_Record_Bound) (nf_Record_Region := ?nf_Record_Region) (nf_Record_Entry := ?nf_Record_Entry) (nf_Record_Offer := ?nf_Record_Offer) (nf_Record_Norms := ?nf_Record_Norms) (nf_Record_tuple := ?nf_Record_tuple) (nf_Record_list := ?nf_Record_list) (nf_Query_Record := ?nf_Query_Record) (nf_Query_Part := ?nf_Query_Part) (nf_Query_Bound := ?nf_Query_Bound) (nf_Query_Region := ?nf_Query_Region) (nf_Query_Entry := ?nf_Query_Entry) (nf_Query_Offer := ?nf_Query_Offer) (nf_Query_Norms := ?nf_Query_Norms) (nf_Query_tuple := ?nf_Query_tuple) (nf_Query_list := ?nf_Query_list) (nf_Part_Record := ?nf_Part_Record) (nf_Part_Query := ?nf_Part_Query) (nf_Part_Bound := ?nf_Part_Bound) (nf_Part_Region := ?nf_Part_Region) (nf_Part_Entry := ?nf_Part_Entry) (nf_Part_Offer := ?nf_Part_Offer) (nf_Part_Norms := ?nf_Part_Norms) (nf_Part_tuple := ?nf_Part_tuple) (nf_Part_list := ?nf_Part_list) (nf_Bound_Record := ?nf_Bound_Record) (nf_Bound_Query := ?nf_Bound_Query) (nf_Bound_Part := ?nf_Bound_Part) (nf_Bound_Region := ?nf_Bound_Region) (nf_Bound_Entry := ?nf_Bound_Entry) (nf_Bound_Offer := ?nf_Bound_Offer) (nf_Bound_Norms := ?nf_Bound_Norms) (nf_Bound_tuple := ?nf_Bound_tuple) (nf_Bound_list := ?nf_Bound_list) (nf_Region_Record := ?nf_Region_Record) (nf_Region_Query := ?nf_Region_Query) (nf_Region_Part := ?nf_Region_Part) (nf_Region_Bound := ?nf_Region_Bound) (nf_Region_Entry := ?nf_Region_Entry) (nf_Region_Offer := ?nf_Region_Offer) (nf_Region_Norms := ?nf_Region_Norms) (nf_Region_tuple := ?nf_Region_tuple) (nf_Region_list := ?nf_Region_list) (nf_Entry_Record := ?nf_Entry_Record) (nf_Entry_Query := ?nf_Entry_Query) (nf_Entry_Part := ?nf_Entry_Part) (nf_Entry_Bound := ?nf_Entry_Bound) (nf_Entry_Region := ?nf_Entry_Region) (nf_Entry_Offer := ?nf_Entry_Offer) (nf_Entry_Norms := ?nf_Entry_Norms) (nf_Entry_tuple := ?nf_Entry_tuple) (nf_Entry_list := ?nf_Entry_list) (nf_Offer_Record := ?nf_Offer_Record) (nf_Offer_Query := ?nf_Offer_Query) (nf_Offer_Part := ?nf_Offer_Part) (nf_Offer_Bound := ?nf_Offer_Bound) (nf_Offer_Region := ?nf_Offer_Region) (nf_Offer_Entry := ?nf_Offer_Entry) (nf_Offer_Norms := ?nf_Offer_Norms) (nf_Offer_tuple := ?nf_Offer_tuple) (nf_Offer_list := ?nf_Offer_list) (hn0 := ?hn0) (ht0 := ?ht0) (l2 := ?l2) (n2_fields := ?n2_fields) (t2_fields := ?t2_fields) (n2_words := ?n2_words) (t2_words := ?t2_words) (c2 := ?c2) (k2 := ?k2) (l5 := ?l5) (c5 := ?c5) (k5 := ?k5) (l10 := ?l10) (n10_near := ?n10_near) (n10_words := ?n10_words) (t10_words := ?t10_words) (n10_text := ?n10_text) (n10_most := ?n10_most) (c10 := ?c10) (k10 := ?k10) (l12 := ?l12) (c12 := ?c12) (k12 := ?k12) (l13 := ?l13) (c13 := ?c13) (k13 := ?k13) (l14 := ?l14) (c14 := ?c14) (k14 := ?k14) (l15 := ?l15) (c15 := ?c15) (k15 := ?k15) (l16 := ?l16) (c16 := ?c16) (k16 := ?k16) (l17 := ?l17) (c17 := ?c17) (k17 := ?k17) (l20 := ?l20) (c20 := ?c20) (k20 := ?k20) (l21 := ?l21) (c21 := ?c21) (k21 := ?k21) (l22 := ?l22) (c22 := ?c22) (k22 := ?k22) (l23 := ?l23) (c23 := ?c23) (k23 := ?k23) (l24 := ?l24) (c24 := ?c24) (k24 := ?k24) (l25 := ?l25) (c25 := ?c25) (k25 := ?k25) (l26 := ?l26) (c26 := ?c26) (k26 := ?k26) (z_bool := ?z_bool) (z_int := ?z_int) (z_isinstance := ?z_isinstance) (z_len := ?z_len) (z_list := ?z_list) (z_range := ?z_range) (z_str := ?z_str) (z_tuple := ?z_tuple)
    (case a0 => k_is); (case l0 => k_is); (case c0 => k_is); (case k0 => k_is); (case a1 => k_is); (case l1 => k_is); (case c1 => k_is); (case k1 => k_is); (case a3 => k_is); (case l3 => k_is); (case c3 => k_is); (case k3 => k_is); (case a4 => k_is); (case l4 => k_is); (case c4 => k_is); (case k4 => k_is); (case a6 => k_is); (case l6 => k_is); (case c6 => k_is); (case k6 => k_is); (case a7 => k_is); (case l7 => k_is); (case c7 => k_is); (case k7 => k_is); (case a8 => k_is); (case l8 => k_is); (case c8 => k_is); (case k8 => k_is); (case a9 => k_is); (case l9 => k_is); (case c9 => k_is); (case k9 => k_is); (case a11 => k_is); (case l11 => k_is); (case c11 => k_is); (case k11 => k_is); (case a18 => k_is); (case l18 => k_is); (case c18 => k_is); (case k18 => k_is); (case a19 => k_is); (case l19 => k_is); (case c19 => k_is); (case k19 => k_is); (case a27 => k_is); (case l27 => k_is); (case c27 => k_is); (case k27 => k_is); (case aC_Record => k_is); (case pg_Record => k_is); (case hd_Record => k_is); (case po_Record => k_is); (case sa_Record => k_is); (case n_Record_name => k_is); (case n_Record_vector => k_is); (case n_Record_fields => k_is); (case n_Record_words => k_is); (case mk_Record => k_is); (case in_Record => k_is); (case if_Record => k_is); (case kc_Record => k_is); (case fm_Record___eq__ => k_is); (case im_Record___eq__ => k_is); (case ha_Record => k_is); (case hm_Record => k_is); (case aC_Query => k_is); (case pg_Query => k_is); (case hd_Query => k_is); (case po_Query => k_is); (case sa_Query => k_is); (case n_Query_vector => k_is); (case n_Query_near => k_is); (case n_Query_words => k_is); (case n_Query_text => k_is); (case n_Query_most => k_is); (case mk_Query => k_is); (case in_Query => k_is); (case if_Query => k_is); (case kc_Query => k_is); (case fm_Query___eq__ => k_is); (case im_Query___eq__ => k_is); (case ha_Query => k_is); (case hm_Query => k_is); (case aC_Part => k_is); (case pg_Part => k_is); (case hd_Part => k_is); (case po_Part => k_is); (case sa_Part => k_is); (case n_Part_start => k_is); (case n_Part_centre => k_is); (case n_Part_radius => k_is); (case mk_Part => k_is); (case in_Part => k_is); (case if_Part => k_is); (case kc_Part => k_is); (case fm_Part___eq__ => k_is); (case im_Part___eq__ => k_is); (case ha_Part => k_is); (case hm_Part => k_is); (case aC_Bound => k_is); (case pg_Bound => k_is); (case hd_Bound => k_is); (case po_Bound => k_is); (case sa_Bound => k_is); (case n_Bound_cost => k_is); (case n_Bound_name => k_is); (case n_Bound_can => k_is); (case mk_Bound => k_is); (case in_Bound => k_is); (case if_Bound => k_is); (case kc_Bound => k_is); (case fm_Bound___eq__ => k_is); (case im_Bound___eq__ => k_is); (case ha_Bound => k_is); (case hm_Bound => k_is); (case aC_Norms => k_is); (case pg_Norms => k_is); (case hd_Norms => k_is); (case po_Norms => k_is); (case sa_Norms => k_is); (case n_Norms_low => k_is); (case n_Norms_high => k_is); (case mk_Norms => k_is); (case in_Norms => k_is); (case if_Norms => k_is); (case kc_Norms => k_is); (case fm_Norms___eq__ => k_is); (case im_Norms___eq__ => k_is); (case ha_Norms => k_is); (case hm_Norms => k_is); (case aC_Region => k_is); (case pg_Region => k_is); (case hd_Region => k_is); (case po_Region => k_is); (case sa_Region => k_is); (case n_Region_parent => k_is); (case n_Region_facts => k_is); (case mk_Region => k_is); (case in_Region => k_is); (case if_Region => k_is); (case kc_Region => k_is); (case fm_Region___eq__ => k_is); (case im_Region___eq__ => k_is); (case ha_Region => k_is); (case hm_Region => k_is); (case aC_Entry => k_is); (case pg_Entry => k_is); (case hd_Entry => k_is); (case po_Entry => k_is); (case sa_Entry => k_is); (case n_Entry_number => k_is); (case n_Entry_record => k_is); (case n_Entry_leaves => k_is); (case mk_Entry => k_is); (case in_Entry => k_is); (case if_Entry => k_is); (case kc_Entry => k_is); (case fm_Entry___eq__ => k_is); (case im_Entry___eq__ => k_is); (case ha_Entry => k_is); (case hm_Entry => k_is); (case aC_Offer => k_is); (case pg_Offer => k_is); (case hd_Offer => k_is); (case po_Offer => k_is); (case sa_Offer => k_is); (case n_Offer_partitions => k_is); (case n_Offer_entries => k_is); (case mk_Offer => k_is); (case in_Offer => k_is); (case if_Offer => k_is); (case kc_Offer => k_is); (case fm_Offer___eq__ => k_is); (case im_Offer___eq__ => k_is); (case ha_Offer => k_is); (case hm_Offer => k_is); (case ic_Record => k_is); (case ty_Record => k_is); (case ic_Query => k_is); (case ty_Query => k_is); (case ic_Bound => k_is); (case ty_Bound => k_is); (case ic_Part => k_is); (case ty_Part => k_is); (case ic_Norms => k_is); (case ty_Norms => k_is); (case ic_Region => k_is); (case ty_Region => k_is); (case ic_Entry => k_is); (case ty_Entry => k_is); (case ic_Offer => k_is); (case ty_Offer => k_is); (case ss_Record => k_is); (case sb_Query_Record => k_is); (case sb_Part_Record => k_is); (case sb_Bound_Record => k_is); (case sb_Region_Record => k_is); (case sb_Entry_Record => k_is); (case sb_Offer_Record => k_is); (case sb_Norms_Record => k_is); (case sb_tuple_Record => k_is); (case sb_list_Record => k_is); (case ss_Query => k_is); (case sb_Record_Query => k_is); (case sb_Part_Query => k_is); (case sb_Bound_Query => k_is); (case sb_Region_Query => k_is); (case sb_Entry_Query => k_is); (case sb_Offer_Query => k_is); (case sb_Norms_Query => k_is); (case sb_tuple_Query => k_is); (case sb_list_Query => k_is); (case ss_Bound => k_is); (case sb_Record_Bound => k_is); (case sb_Query_Bound => k_is); (case sb_Part_Bound => k_is); (case sb_Region_Bound => k_is); (case sb_Entry_Bound => k_is); (case sb_Offer_Bound => k_is); (case sb_Norms_Bound => k_is); (case sb_tuple_Bound => k_is); (case sb_list_Bound => k_is); (case ss_Part => k_is); (case sb_Record_Part => k_is); (case sb_Query_Part => k_is); (case sb_Bound_Part => k_is); (case sb_Region_Part => k_is); (case sb_Entry_Part => k_is); (case sb_Offer_Part => k_is); (case sb_Norms_Part => k_is); (case sb_tuple_Part => k_is); (case sb_list_Part => k_is); (case ss_Norms => k_is); (case sb_Record_Norms => k_is); (case sb_Query_Norms => k_is); (case sb_Part_Norms => k_is); (case sb_Bound_Norms => k_is); (case sb_Region_Norms => k_is); (case sb_Entry_Norms => k_is); (case sb_Offer_Norms => k_is); (case sb_tuple_Norms => k_is); (case sb_list_Norms => k_is); (case ss_Region => k_is); (case sb_Record_Region => k_is); (case sb_Query_Region => k_is); (case sb_Part_Region => k_is); (case sb_Bound_Region => k_is); (case sb_Entry_Region => k_is); (case sb_Offer_Region => k_is); (case sb_Norms_Region => k_is); (case sb_tuple_Region => k_is); (case sb_list_Region => k_is); (case ss_Entry => k_is); (case sb_Record_Entry => k_is); (case sb_Query_Entry => k_is); (case sb_Part_Entry => k_is); (case sb_Bound_Entry => k_is); (case sb_Region_Entry => k_is); (case sb_Offer_Entry => k_is); (case sb_Norms_Entry => k_is); (case sb_tuple_Entry => k_is); (case sb_list_Entry => k_is); (case ss_Offer => k_is); (case sb_Record_Offer => k_is); (case sb_Query_Offer => k_is); (case sb_Part_Offer => k_is); (case sb_Bound_Offer => k_is); (case sb_Region_Offer => k_is); (case sb_Entry_Offer => k_is); (case sb_Norms_Offer => k_is); (case sb_tuple_Offer => k_is); (case sb_list_Offer => k_is); (case nf_Record_Query => k_is); (case nf_Record_Part => k_is); (case nf_Record_Bound => k_is); (case nf_Record_Region => k_is); (case nf_Record_Entry => k_is); (case nf_Record_Offer => k_is); (case nf_Record_Norms => k_is); (case nf_Record_tuple => k_is); (case nf_Record_list => k_is); (case nf_Query_Record => k_is); (case nf_Query_Part => k_is); (case nf_Query_Bound => k_is); (case nf_Query_Region => k_is); (case nf_Query_Entry => k_is); (case nf_Query_Offer => k_is); (case nf_Query_Norms => k_is); (case nf_Query_tuple => k_is); (case nf_Query_list => k_is); (case nf_Part_Record => k_is); (case nf_Part_Query => k_is); (case nf_Part_Bound => k_is); (case nf_Part_Region => k_is); (case nf_Part_Entry => k_is); (case nf_Part_Offer => k_is); (case nf_Part_Norms => k_is); (case nf_Part_tuple => k_is); (case nf_Part_list => k_is); (case nf_Bound_Record => k_is); (case nf_Bound_Query => k_is); (case nf_Bound_Part => k_is); (case nf_Bound_Region => k_is); (case nf_Bound_Entry => k_is); (case nf_Bound_Offer => k_is); (case nf_Bound_Norms => k_is); (case nf_Bound_tuple => k_is); (case nf_Bound_list => k_is); (case nf_Region_Record => k_is); (case nf_Region_Query => k_is); (case nf_Region_Part => k_is); (case nf_Region_Bound => k_is); (case nf_Region_Entry => k_is); (case nf_Region_Offer => k_is); (case nf_Region_Norms => k_is); (case nf_Region_tuple => k_is); (case nf_Region_list => k_is); (case nf_Entry_Record => k_is); (case nf_Entry_Query => k_is); (case nf_Entry_Part => k_is); (case nf_Entry_Bound => k_is); (case nf_Entry_Region => k_is); (case nf_Entry_Offer => k_is); (case nf_Entry_Norms => k_is); (case nf_Entry_tuple => k_is); (case nf_Entry_list => k_is); (case nf_Offer_Record => k_is); (case nf_Offer_Query => k_is); (case nf_Offer_Part => k_is); (case nf_Offer_Bound => k_is); (case nf_Offer_Region => k_is); (case nf_Offer_Entry => k_is); (case nf_Offer_Norms => k_is); (case nf_Offer_tuple => k_is); (case nf_Offer_list => k_is); (case hn0 => k_is); (case ht0 => k_is); (case l2 => k_is); (case n2_fields => k_is); (case t2_fields => k_is); (case n2_words => k_is); (case t2_words => k_is); (case c2 => k_is); (case k2 => k_is); (case l5 => k_is); (case c5 => k_is); (case k5 => k_is); (case l10 => k_is); (case n10_near => k_is); (case n10_words => k_is); (case t10_words => k_is); (case n10_text => k_is); (case n10_most => k_is); (case c10 => k_is); (case k10 => k_is); (case l12 => k_is); (case c12 => k_is); (case k12 => k_is); (case l13 => k_is); (case c13 => k_is); (case k13 => k_is); (case l14 => k_is); (case c14 => k_is); (case k14 => k_is); (case l15 => k_is); (case c15 => k_is); (case k15 => k_is); (case l16 => k_is); (case c16 => k_is); (case k16 => k_is); (case l17 => k_is); (case c17 => k_is); (case k17 => k_is); (case l20 => k_is); (case c20 => k_is); (case k20 => k_is); (case l21 => k_is); (case c21 => k_is); (case k21 => k_is); (case l22 => k_is); (case c22 => k_is); (case k22 => k_is); (case l23 => k_is); (case c23 => k_is); (case k23 => k_is); (case l24 => k_is); (case c24 => k_is); (case k24 => k_is); (case l25 => k_is); (case c25 => k_is); (case k25 => k_is); (case l26 => k_is); (case c26 => k_is); (case k26 => k_is); (case z_bool => k_is); (case z_int => k_is); (case z_isinstance => k_is); (case z_len => k_is); (case z_list => k_is); (case z_range => k_is); (case z_str => k_is); (case z_tuple => k_is)
