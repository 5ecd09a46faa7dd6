import PyProof.Rows.All
import Wide.All
import OpenK.AllK
import Wide.FinOn
import HandS.ForMost
import HandS.Codes
import HandS.Wide
import HandS.IsInst
import HandS.Walk
import HandS.Zip
import HandS.MakeKwOnly
import HandS.ForExc
import HandS.TryMany
import HandS.Strs
import HandS.More
import HandS.Property
import HandS.SetFor
import HandS.Conv
import HandS.Text
import HandS.TupAny
import HandS.Style
import KE.KEqSeq
import KE.LtData
import KE.OsRunLaw
import KE.GoesEnum
import HandS.OwnEq
import PyProof.NeKinds
import PySem.Challenge.RW_surenear_k18_facts_about_vectors_hold
set_option Elab.async false
set_option linter.all false
set_option maxRecDepth 100000
namespace TP
open PySem PySem.Spec PyProof.Rows L2
/-! ### heaps: Z is the part that never changes, H is all -/
def SameX (S : List Addr) (H H' : Hp) : Prop := ∀ a o, a ∉ S → H a = some o → H' a = some o
theorem SameX.refl {S : List Addr} {H : Hp} : SameX S H H := fun _ _ _ h => h
theorem SameX.trans {S : List Addr} {H H1 H2 : Hp} (f : SameX S H H1) (g : SameX S H1 H2) : SameX S H H2 := fun a o n h => g a o n (f a o n h)
structure Step (S : List Addr) (Z H Z' H' : Hp) : Prop where
  z : Same Z Z'
  s : Same Z' H'
  h : SameX S H H'
  n : ∀ a, H a ≠ none → Z a = none → Z' a = none
  al : ∀ a, H a ≠ none → H' a ≠ none
theorem Step.refl {S : List Addr} {Z H : Hp} (s : Same Z H) : Step S Z H Z H := ⟨Same.refl _, s, SameX.refl, fun _ _ h => h, fun _ h => h⟩
theorem Step.mine {S F : List Addr} {Z H Z1 H1 Z2 H2 : Hp} (f : Step S Z H Z1 H1) (g : Step F Z1 H1 Z2 H2) (m : ∀ a ∈ F, a ∈ S ∨ H a = none) : Step S Z H Z2 H2 :=
  ⟨f.z.trans g.z, g.s, fun a o na h => g.h a o (fun q => by rcases m a q with x | x; exact na x; rw [x] at h; cases h) (f.h a o na h), fun a h z => g.n a (f.al a h) (f.n a h z), fun a h => g.al a (f.al a h)⟩
theorem Step.trans {S : List Addr} {Z H Z1 H1 Z2 H2 : Hp} (f : Step S Z H Z1 H1) (g : Step S Z1 H1 Z2 H2) : Step S Z H Z2 H2 := f.mine g fun _ h => .inl h
theorem Step.weak {S F : List Addr} {Z H Z1 H1 : Hp} (g : Step F Z H Z1 H1) (m : ∀ a ∈ F, a ∈ S ∨ H a = none) : Step S Z H Z1 H1 :=
  ⟨g.z, g.s, fun a o na h => g.h a o (fun q => by rcases m a q with x | x; exact na x; rw [x] at h; cases h) h, g.n, g.al⟩
theorem Step.pure {S : List Addr} {Z H Z1 H1 : Hp} (g : Step [] Z H Z1 H1) : Step S Z H Z1 H1 := g.weak fun _ h => by cases h
theorem ne_of_some {H : Hp} {a p : Addr} (h : H a ≠ none) (hp : H p = none) : a ≠ p := fun e => h (e ▸ hp)
theorem some_ne {H : Hp} {a : Addr} {o : HO} (h : H a = some o) : H a ≠ none := by rw [h]; exact fun z => nomatch z
theorem same_none {Z H : Hp} (s : Same Z H) {p : Addr} (h : H p = none) : Z p = none := s.free h
theorem same_upd {H : Hp} {p : Addr} {o : HO} (h : H p = none) : Same H (upd H p o) := fun a u e => by
  rw [upd_ne (ne_of_some (some_ne e) h)]; exact e
theorem same_upd2 {Z H : Hp} {p : Addr} {o : HO} (s : Same Z H) : Same (upd Z p o) (upd H p o) := fun a u e => by
  by_cases q : a = p
  · subst q; rw [upd_same] at e ⊢; exact e
  · rw [upd_ne q] at e ⊢; exact s a u e
/-- something new that never changes -/
theorem Step.new {Z H : Hp} {p : Addr} {o : HO} (s : Same Z H) (hp : H p = none) : Step [] Z H (upd Z p o) (upd H p o) :=
  ⟨same_upd (same_none s hp), same_upd2 s, fun a u _ e => same_upd hp a u e, fun a h z => by rw [upd_ne (ne_of_some h hp)]; exact z, fun a h => by rw [upd_ne (ne_of_some h hp)]; exact h⟩
/-- something new of one's own -/
theorem Step.own {Z H : Hp} {p : Addr} {o : HO} (s : Same Z H) (hp : H p = none) : Step [] Z H Z (upd H p o) :=
  ⟨Same.refl _, s.trans (same_upd hp), fun a u _ e => same_upd hp a u e, fun _ _ z => z, fun a h => by rw [upd_ne (ne_of_some h hp)]; exact h⟩
/-- one's own is changed -/
theorem Step.set {Z H : Hp} {p : Addr} {o : HO} (s : Same Z H) (hz : Z p = none) : Step [p] Z H Z (upd H p o) := by
  refine ⟨Same.refl _, fun a u e => ?_, fun a u n e => ?_, fun _ _ z => z, fun a h => ?_⟩
  · rw [upd_ne (ne_of_some (some_ne e) hz)]; exact s a u e
  · rw [upd_ne (fun q => n (by rw [q]; exact List.mem_cons_self))]; exact e
  · by_cases q : a = p
    · subst q; rw [upd_same]; exact fun z => nomatch z
    · rw [upd_ne q]; exact h

/-! ### kinds of values -/
structure Ty (α : Type) where
  r : Hp → V → α → Prop
  mono : ∀ {Z Z' : Hp} {v : V} {x : α}, Same Z Z' → r Z v x → r Z' v x
def yInt : Ty Int := ⟨fun _ v x => v = .int x, fun _ h => h⟩
def yBool : Ty Bool := ⟨fun _ v x => v = .bl x, fun _ h => h⟩
def okS (x : Str) : Bool := PyData.strOk x && decide (x.length ≤ sizeLine)
def yStr : Ty Str := ⟨fun _ v x => v = .str x ∧ okS x = true, fun _ h => h⟩
def yNon : Ty Unit := ⟨fun _ v _ => v = .non, fun _ h => h⟩
def yOpt {α : Type} (τ : Ty α) : Ty (Option α) := ⟨fun Z v x => match x with | none => v = .non | some y => τ.r Z v y ∧ v ≠ .non, fun {_ _ _ x} s h => match x, h with | none, h => h | some _, h => ⟨τ.mono s h.1, h.2⟩⟩
/-- place by place -/
inductive All {α : Type} (R : V → α → Prop) : List V → List α → Prop
  | nil : All R [] []
  | cons {v : V} {vs : List V} {x : α} {xs : List α} : R v x → All R vs xs → All R (v :: vs) (x :: xs)
section
variable {α β : Type} {R R' : V → α → Prop}
theorem All.imp (f : ∀ v x, R v x → R' v x) : ∀ {vs : List V} {xs : List α}, All R vs xs → All R' vs xs
  | _, _, .nil => .nil
  | _, _, .cons h t => .cons (f _ _ h) (t.imp f)
theorem All.len : ∀ {vs : List V} {xs : List α}, All R vs xs → vs.length = xs.length
  | _, _, .nil => rfl
  | _, _, .cons _ t => congrArg Nat.succ t.len
theorem All.app : ∀ {vs ws : List V} {xs ys : List α}, All R vs xs → All R ws ys → All R (vs ++ ws) (xs ++ ys)
  | _, _, _, _, .nil, h => h
  | _, _, _, _, .cons h t, g => .cons h (t.app g)
theorem All.snoc {vs : List V} {xs : List α} {v : V} {x : α} (h : All R vs xs) (g : R v x) : All R (vs ++ [v]) (xs ++ [x]) := h.app (.cons g .nil)
theorem All.get : ∀ {vs : List V} {xs : List α} {i : Nat} {v : V}, All R vs xs → vs[i]? = some v → ∃ x, xs[i]? = some x ∧ R v x
  | _, _, _, _, .nil, h => by simp at h
  | _, _, 0, _, .cons h _, e => ⟨_, rfl, by have := Option.some.inj e; rw [← this]; exact h⟩
  | _, _, i + 1, _, .cons _ t, e => t.get (i := i) e
theorem All.at : ∀ {vs : List V} {xs : List α} {i : Nat} {x : α}, All R vs xs → xs[i]? = some x → ∃ v, vs[i]? = some v ∧ R v x
  | _, _, _, _, .nil, h => by simp at h
  | _, _, 0, _, .cons h _, e => ⟨_, rfl, by have := Option.some.inj e; rw [← this]; exact h⟩
  | _, _, i + 1, _, .cons _ t, e => t.at (i := i) e
theorem All.take : ∀ {vs : List V} {xs : List α} (n : Nat), All R vs xs → All R (vs.take n) (xs.take n)
  | _, _, 0, _ => .nil
  | _, _, _ + 1, .nil => .nil
  | _, _, n + 1, .cons h t => .cons h (t.take n)
theorem All.drop : ∀ {vs : List V} {xs : List α} (n : Nat), All R vs xs → All R (vs.drop n) (xs.drop n)
  | _, _, 0, h => h
  | _, _, _ + 1, .nil => .nil
  | _, _, n + 1, .cons _ t => t.drop n
theorem All.set {v : V} {x : α} (g : R v x) : ∀ {vs : List V} {xs : List α} (n : Nat), All R vs xs → All R (vs.set n v) (xs.set n x)
  | _, _, _, .nil => .nil
  | _, _, 0, .cons _ t => .cons g t
  | _, _, n + 1, .cons h t => .cons h (t.set g n)
theorem All.ints : ∀ {vs : List V} {xs : List Int}, All (fun v x => v = .int x) vs xs → vs = xs.map V.int
  | _, _, .nil => rfl
  | _, _, .cons h t => by rw [h, t.ints]; rfl
theorem All.map {f : α → V} (e : ∀ v x, R v x → v = f x) : ∀ {vs : List V} {xs : List α}, All R vs xs → vs = xs.map f
  | _, _, .nil => rfl
  | _, _, .cons h t => by rw [e _ _ h, t.map e]; rfl
theorem All.bls : ∀ {vs : List V} {xs : List Bool}, All (fun v x => v = .bl x) vs xs → vs = xs.map V.bl
  | _, _, .nil => rfl
  | _, _, .cons h t => by rw [h, t.bls]; rfl
theorem All.ofInts : ∀ xs : List Int, All (fun v x => v = .int x) (xs.map V.int) xs
  | [] => .nil
  | _ :: r => .cons rfl (All.ofInts r)
theorem All.atI {vs : List V} {xs : List α} {i : Int} {x : α} (h : All R vs xs) (e : L2.atI xs i = some x) : ∃ v, L2.atI vs i = some v ∧ R v x := by
  unfold L2.atI at e ⊢
  rw [h.len]
  cases q : ixN xs.length i with
  | none => rw [q] at e; cases e
  | some j =>
    rw [q] at e
    exact h.at (i := j) e
end
/-- a list that never changes -/
def yList {α : Type} (τ : Ty α) : Ty (List α) := ⟨fun Z v xs => ∃ a vs, v = .ref a ∧ Z a = some (.lst vs) ∧ All (τ.r Z) vs xs ∧ xs.length ≤ sizeLine,
  fun s ⟨a, vs, e, h, t, l⟩ => ⟨a, vs, e, s _ _ h, t.imp fun _ _ => τ.mono s, l⟩⟩
theorem seqT_same {K : PySem.W.Frag} {H H' : Hp} {q : Addr} {xs : List V} (f : Same H H') (h : SqT K H q xs) : SqT K H' q xs := by
  rcases h with (h | ⟨o, h⟩) | h
  · exact .inl (.inl (f _ _ h))
  · exact .inl (.inr ⟨o, f _ _ h⟩)
  · exact .inr h
section
variable (K : PySem.W.Frag)
def yTup {α : Type} (τ : Ty α) : Ty (List α) := ⟨fun Z v xs => ∃ a vs, v = .ref a ∧ SqT K Z a vs ∧ All (τ.r Z) vs xs ∧ xs.length ≤ sizeLine,
  fun s ⟨a, vs, e, h, t, l⟩ => ⟨a, vs, e, seqT_same s h, t.imp fun _ _ => τ.mono s, l⟩⟩
def yP0 : Ty Unit := ⟨fun Z v _ => ∃ a, v = .ref a ∧ SqT K Z a [], fun s ⟨a, e, h⟩ => ⟨a, e, seqT_same s h⟩⟩
def yP1 {α : Type} (τ : Ty α) : Ty α := ⟨fun Z v x => ∃ a v1, v = .ref a ∧ SqT K Z a [v1] ∧ τ.r Z v1 x, fun s ⟨a, v1, e, h, h1⟩ => ⟨a, v1, e, seqT_same s h, τ.mono s h1⟩⟩
def yP2 {α β : Type} (τ : Ty α) (υ : Ty β) : Ty (α × β) := ⟨fun Z v x => ∃ a v1 v2, v = .ref a ∧ SqT K Z a [v1, v2] ∧ τ.r Z v1 x.1 ∧ υ.r Z v2 x.2,
  fun s ⟨a, v1, v2, e, h, h1, h2⟩ => ⟨a, v1, v2, e, seqT_same s h, τ.mono s h1, υ.mono s h2⟩⟩
def yP3 {α β γ : Type} (τ : Ty α) (υ : Ty β) (φ : Ty γ) : Ty (α × β × γ) := ⟨fun Z v x => ∃ a v1 v2 v3, v = .ref a ∧ SqT K Z a [v1, v2, v3] ∧ τ.r Z v1 x.1 ∧ υ.r Z v2 x.2.1 ∧ φ.r Z v3 x.2.2,
  fun s ⟨a, v1, v2, v3, e, h, h1, h2, h3⟩ => ⟨a, v1, v2, v3, e, seqT_same s h, τ.mono s h1, υ.mono s h2, φ.mono s h3⟩⟩
def yP4 {α β γ δ : Type} (τ : Ty α) (υ : Ty β) (φ : Ty γ) (ψ : Ty δ) : Ty (α × β × γ × δ) := ⟨fun Z v x => ∃ a v1 v2 v3 v4, v = .ref a ∧ SqT K Z a [v1, v2, v3, v4] ∧ τ.r Z v1 x.1 ∧ υ.r Z v2 x.2.1 ∧ φ.r Z v3 x.2.2.1 ∧ ψ.r Z v4 x.2.2.2,
  fun s ⟨a, v1, v2, v3, v4, e, h, h1, h2, h3, h4⟩ => ⟨a, v1, v2, v3, v4, e, seqT_same s h, τ.mono s h1, υ.mono s h2, φ.mono s h3, ψ.mono s h4⟩⟩
end

/-! ### what changes: s of a kind μ stands at the addresses fp -/
structure Mu (μ : Type) where
  fp : List Addr
  m : μ → Hp → Hp → Prop
  al : ∀ {s : μ} {Z H : Hp}, m s Z H → ∀ a ∈ fp, H a ≠ none ∧ Z a = none
  loc : ∀ {s : μ} {Z H Z' H' : Hp}, Same Z Z' → (∀ a ∈ fp, ∀ o, H a = some o → H' a = some o) → (∀ a ∈ fp, H a ≠ none → Z a = none → Z' a = none) → m s Z H → m s Z' H'
def muN : Mu Unit := ⟨[], fun _ _ _ => True, fun _ _ h => (nomatch h), fun _ _ _ _ => trivial⟩
/-- what was told of more that stands still is told without it -/
def Mu.Back {μ : Type} (M : Mu μ) : Prop := ∀ {s s' : μ} {Z H Z' H' : Hp}, Same Z Z' → M.m s Z H → M.m s' Z' H' → M.m s' Z H'
theorem muN_back : muN.Back := fun _ _ _ => trivial
theorem Mu.pure {μ : Type} (M : Mu μ) {s : μ} {Z H Z' H' : Hp} (g : Step [] Z H Z' H') (h : M.m s Z H) : M.m s Z' H' := M.loc g.z (fun a _ o e => g.h a o (List.not_mem_nil) e) (fun a _ x y => g.n a x y) h
/-- what a value is, of the heaps -/
structure Rr (fp : List Addr) where
  r : Hp → Hp → V → Prop
  st : ∀ {Z H Z' H' : Hp} {v : V}, Step fp Z H Z' H' → r Z H v → r Z' H' v
structure Ra (fp : List Addr) where
  r : Hp → Hp → List V → Prop
  st : ∀ {Z H Z' H' : Hp} {vs : List V}, Step fp Z H Z' H' → r Z H vs → r Z' H' vs
def ty {fp : List Addr} {α : Type} (τ : Ty α) (x : α) : Rr fp := ⟨fun Z _ v => τ.r Z v x, fun g h => τ.mono g.z h⟩
/-- a list that may be read: one that never changes, or one of one's own -/
def RdL (fp : List Addr) (Z H : Hp) (p : Addr) (vs : List V) : Prop := Z p = some (.lst vs) ∨ (H p = some (.lst vs) ∧ p ∉ fp)
theorem RdL.st {fp : List Addr} {Z H Z' H' : Hp} {p : Addr} {vs : List V} (g : Step fp Z H Z' H') (h : RdL fp Z H p vs) : RdL fp Z' H' p vs := h.elim (fun e => .inl (g.z _ _ e)) fun e => .inr ⟨g.h _ _ e.2 e.1, e.2⟩
theorem RdL.get {fp : List Addr} {Z H : Hp} {p : Addr} {vs : List V} (s : Same Z H) (h : RdL fp Z H p vs) : H p = some (.lst vs) := h.elim (fun e => s _ _ e) fun e => e.1
def li {fp : List Addr} {α : Type} (τ : Ty α) (xs : List α) : Rr fp := ⟨fun Z H v => ∃ p vs, v = .ref p ∧ RdL fp Z H p vs ∧ All (τ.r Z) vs xs ∧ xs.length ≤ sizeLine,
  fun g ⟨p, vs, e, h, t, l⟩ => ⟨p, vs, e, h.st g, t.imp fun _ _ => τ.mono g.z, l⟩⟩
/-- an address, whatever stands there -/
def isRef {fp : List Addr} (a : Addr) : Rr fp := ⟨fun _ _ v => v = .ref a, fun _ h => h⟩
def ra0 {fp : List Addr} : Ra fp := ⟨fun _ _ vs => vs = [], fun _ h => h⟩
def rac {fp : List Addr} (R : Rr fp) (Rs : Ra fp) : Ra fp := ⟨fun Z H vs => ∃ v r, vs = v :: r ∧ R.r Z H v ∧ Rs.r Z H r, fun g ⟨v, r, e, h, t⟩ => ⟨v, r, e, R.st g h, Rs.st g t⟩⟩

section
variable {μ : Type}
/-- from the state s the expression gives a value of which R is true, and the state s' -/
def Ev (M : Mu μ) (t : TE) (σ : L2.St) (Z H : Hp) (s : μ) (R : Rr M.fp) (s' : μ) : Prop :=
  ∀ Z1 H1, Same Z Z1 → SameX M.fp H H1 → Same Z1 H1 → M.m s Z1 H1 → ∀ Q : VK, (∀ v Z2 H2, Step M.fp Z1 H1 Z2 H2 → M.m s' Z2 H2 → R.r Z2 H2 v → Q v H2) → t σ H1 Q
def EvT (M : Mu μ) (t : TT) (σ : L2.St) (Z H : Hp) (s : μ) (b : Bool) (s' : μ) : Prop :=
  ∀ Z1 H1, Same Z Z1 → SameX M.fp H H1 → Same Z1 H1 → M.m s Z1 H1 → ∀ Q : Bool → Hp → Prop, (∀ Z2 H2, Step M.fp Z1 H1 Z2 H2 → M.m s' Z2 H2 → Q b H2) → t σ H1 Q
def EvA (M : Mu μ) (t : TA) (σ : L2.St) (Z H : Hp) (s : μ) (Rs : Ra M.fp) (s' : μ) : Prop :=
  ∀ Z1 H1, Same Z Z1 → SameX M.fp H H1 → Same Z1 H1 → M.m s Z1 H1 → ∀ Q : List V → Hp → Prop, (∀ vs Z2 H2, Step M.fp Z1 H1 Z2 H2 → M.m s' Z2 H2 → Rs.r Z2 H2 vs → Q vs H2) → t σ H1 Q
variable {M : Mu μ} {σ : L2.St} {Z H : Hp} {s s' s1 s2 s3 : μ} {ta tb tc te : TE} {t : TA}
theorem Ev.up {t : TE} {R : Rr M.fp} {Z' H' : Hp} (h : Ev M t σ Z H s R s') (z : Same Z Z') (x : SameX M.fp H H') : Ev M t σ Z' H' s R s' := fun Z1 H1 a b => h Z1 H1 (z.trans a) (x.trans b)
theorem Ev.weak {t : TE} {R R' : Rr M.fp} (h : Ev M t σ Z H s R s') (f : ∀ Z H v, Same Z H → R.r Z H v → R'.r Z H v) : Ev M t σ Z H s R' s' := fun Z1 H1 a b c d Q q => h Z1 H1 a b c d Q fun v Z2 H2 e m r => q v Z2 H2 e m (f _ _ _ e.s r)
/-- nothing is done -/
theorem ev_of {t : TE} {R : Rr M.fp} (h : ∀ Z1 H1, Same Z Z1 → SameX M.fp H H1 → Same Z1 H1 → ∀ Q : VK, (∀ v, R.r Z1 H1 v → Q v H1) → t σ H1 Q) : Ev M t σ Z H s R s := fun Z1 H1 a b c d Q q => h Z1 H1 a b c Q fun v r => q v Z1 H1 (Step.refl c) d r
/-- one after the other, by values -/
theorem ev_op {R1 R3 R : Rr M.fp} {r : R2} (ha : Ev M ta σ Z H s R1 s1) (hb : Ev M tb σ Z H s1 R3 s2) (h : ∀ Z H v w, Same Z H → R1.r Z H v → R3.r Z H w → ∀ Q : VK, (∀ u Z2 H2, Step [] Z H Z2 H2 → R.r Z2 H2 u → Q u H2) → r v w H Q) : Ev M (tOp r ta tb) σ Z H s R s2 :=
  fun Z1 H1 a b c d Q q => ha Z1 H1 a b c d _ fun v Z2 H2 e m rv => hb Z2 H2 (a.trans e.z) (b.trans e.h) e.s m _ fun w Z3 H3 e2 m2 rw => h Z3 H3 v w e2.s (R1.st e2 rv) rw _ fun u Z4 H4 e3 ru => q u Z4 H4 ((e.trans e2).trans e3.pure) (M.pure e3 m2) ru
theorem ev_un {R1 R : Rr M.fp} {r : V → Hp → VK → Prop} (ha : Ev M ta σ Z H s R1 s1) (h : ∀ Z H v, Same Z H → R1.r Z H v → ∀ Q : VK, (∀ u Z2 H2, Step [] Z H Z2 H2 → R.r Z2 H2 u → Q u H2) → r v H Q) : Ev M (fun σ H Q => ta σ H fun x H1 => r x H1 Q) σ Z H s R s1 :=
  fun Z1 H1 a b c d Q q => ha Z1 H1 a b c d _ fun v Z2 H2 e m rv => h Z2 H2 v e.s rv _ fun u Z4 H4 e3 ru => q u Z4 H4 (e.trans e3.pure) (M.pure e3 m) ru
theorem eva_nil : EvA M tNil σ Z H s ra0 s := fun Z1 H1 _ _ c d Q q => q [] Z1 H1 (Step.refl c) d rfl
theorem eva_cons {R : Rr M.fp} {Rs : Ra M.fp} (ha : Ev M ta σ Z H s R s1) (hr : EvA M t σ Z H s1 Rs s2) : EvA M (tCons ta t) σ Z H s (rac R Rs) s2 :=
  fun Z1 H1 a b c d Q q => ha Z1 H1 a b c d _ fun v Z2 H2 e m rv => hr Z2 H2 (a.trans e.z) (b.trans e.h) e.s m _ fun vs Z3 H3 e2 m2 rs => q _ Z3 H3 (e.trans e2) m2 ⟨v, vs, rfl, R.st e2 rv, rs⟩
/-- by all arguments -/
theorem ev_cb {Rs : Ra M.fp} {R : Rr M.fp} {r : List V → Hp → VK → Prop} (ha : EvA M t σ Z H s Rs s1) (h : ∀ Z H vs, Same Z H → Rs.r Z H vs → ∀ Q : VK, (∀ u Z2 H2, Step [] Z H Z2 H2 → R.r Z2 H2 u → Q u H2) → r vs H Q) : Ev M (tCB r t) σ Z H s R s1 :=
  fun Z1 H1 a b c d Q q => ha Z1 H1 a b c d _ fun vs Z2 H2 e m rv => h Z2 H2 vs e.s rv _ fun u Z4 H4 e3 ru => q u Z4 H4 (e.trans e3.pure) (M.pure e3 m) ru
/-! names and constants -/
theorem ev_var {i : Nat} {v : V} {α : Type} {τ : Ty α} {x : α} (e : σ[i]? = some (some v)) (h : τ.r Z v x) : Ev M (tVar i) σ Z H s (ty τ x) s := ev_of fun _ _ a _ _ _ q => ⟨v, e, q v (τ.mono a h)⟩
/-- a list of one's own -/
theorem ev_own {i : Nat} {p : Addr} {vs : List V} {α : Type} {τ : Ty α} {xs : List α} (e : σ[i]? = some (some (.ref p))) (h : H p = some (.lst vs)) (n : p ∉ M.fp) (t : All (τ.r Z) vs xs) (l : xs.length ≤ sizeLine) : Ev M (tVar i) σ Z H s (li τ xs) s :=
  ev_of fun _ _ a b _ _ q => ⟨.ref p, e, q _ ⟨p, vs, rfl, .inr ⟨b _ _ n h, n⟩, t.imp fun _ _ => τ.mono a, l⟩⟩
theorem ev_ref {i : Nat} {p : Addr} (e : σ[i]? = some (some (.ref p))) : Ev M (tVar i) σ Z H s (isRef p) s := ev_of fun _ _ _ _ _ _ q => ⟨_, e, q _ rfl⟩
theorem ev_int {i : Int} : Ev M (tC (.int i)) σ Z H s (ty yInt i) s := ev_of fun _ _ _ _ _ _ q => q _ rfl
theorem ev_bl {i : Bool} : Ev M (tC (.bl i)) σ Z H s (ty yBool i) s := ev_of fun _ _ _ _ _ _ q => q _ rfl
theorem ev_str {i : Str} (h : okS i = true := by decide +kernel) : Ev M (tC (.str i)) σ Z H s (ty yStr i) s := ev_of fun _ _ _ _ _ _ q => q _ ⟨rfl, h⟩
theorem ev_non : Ev M (tC .non) σ Z H s (ty yNon ()) s := ev_of fun _ _ _ _ _ _ q => q _ rfl
theorem ev_const {v : V} {α : Type} {τ : Ty α} {x : α} (h : ∀ Z, τ.r Z v x) : Ev M (tC v) σ Z H s (ty τ x) s := ev_of fun _ _ _ _ _ _ q => q _ (h _)
theorem ev_li {α : Type} {τ : Ty α} {xs : List α} (h : Ev M ta σ Z H s (ty (yList τ) xs) s') : Ev M ta σ Z H s (li τ xs) s' := h.weak fun _ _ _ _ ⟨a, vs, e, g, t, l⟩ => ⟨a, vs, e, .inl g, t, l⟩
theorem ev_none {α : Type} {τ : Ty α} (h : Ev M ta σ Z H s (ty yNon ()) s') : Ev M ta σ Z H s (ty (yOpt τ) none) s' := h.weak fun _ _ _ _ e => e
/-- of this kind nothing is None -/
def NonNil {α : Type} (τ : Ty α) : Prop := ∀ Z v x, τ.r Z v x → v ≠ .non
theorem nn_int : NonNil yInt := fun _ _ _ e => by rw [show _ = V.int _ from e]; exact fun z => nomatch z
theorem nn_bool : NonNil yBool := fun _ _ _ e => by rw [show _ = V.bl _ from e]; exact fun z => nomatch z
theorem nn_str : NonNil yStr := fun _ _ _ e => by rw [show _ = V.str _ from e.1]; exact fun z => nomatch z
theorem nn_list {α : Type} {τ : Ty α} : NonNil (yList τ) := fun _ _ _ ⟨_, _, e, _⟩ => by rw [e]; exact fun z => nomatch z
theorem nn_tup {K : PySem.W.Frag} {α : Type} {τ : Ty α} : NonNil (yTup K τ) := fun _ _ _ ⟨_, _, e, _⟩ => by rw [e]; exact fun z => nomatch z
theorem nn_p2 {K : PySem.W.Frag} {α β : Type} {τ : Ty α} {υ : Ty β} : NonNil (yP2 K τ υ) := fun _ _ _ ⟨_, _, _, e, _⟩ => by rw [e]; exact fun z => nomatch z
theorem nn_p3 {K : PySem.W.Frag} {α β γ : Type} {τ : Ty α} {υ : Ty β} {φ : Ty γ} : NonNil (yP3 K τ υ φ) := fun _ _ _ ⟨_, _, _, _, e, _⟩ => by rw [e]; exact fun z => nomatch z
theorem nn_p4 {K : PySem.W.Frag} {α β γ δ : Type} {τ : Ty α} {υ : Ty β} {φ : Ty γ} {ψ : Ty δ} : NonNil (yP4 K τ υ φ ψ) := fun _ _ _ ⟨_, _, _, _, _, e, _⟩ => by rw [e]; exact fun z => nomatch z
theorem ev_some {α : Type} {τ : Ty α} {x : α} (n : NonNil τ) (h : Ev M ta σ Z H s (ty τ x) s') : Ev M ta σ Z H s (ty (yOpt τ) (some x)) s' := h.weak fun _ _ _ _ e => ⟨e, n _ _ _ e⟩
theorem ev_uno {α : Type} {τ : Ty α} {x : α} {o : Option α} (h : Ev M ta σ Z H s (ty (yOpt τ) o) s') (e : o = some x) : Ev M ta σ Z H s (ty τ x) s' := by
  subst e; exact h.weak fun _ _ _ _ e => e.1
theorem ev_cast {α : Type} {τ : Ty α} {x y : α} (h : Ev M ta σ Z H s (ty τ x) s') (e : x = y) : Ev M ta σ Z H s (ty τ y) s' := e ▸ h
/-! numbers -/
section
variable {i j : Int}
theorem ev_I0 {g : Int → Int → V} {R : Rr M.fp} (ha : Ev M ta σ Z H s (ty yInt i) s1) (hb : Ev M tb σ Z H s1 (ty yInt j) s2) (h : ∀ Z H, R.r Z H (g i j)) : Ev M (tOp (rI0 g) ta tb) σ Z H s R s2 :=
  ev_op ha hb fun _ _ _ _ sz e1 e2 _ q => ⟨i, j, e1, e2, q _ _ _ (Step.refl sz) (h _ _)⟩
theorem ev_I1 {C : Int → Int → Prop} {g : Int → Int → V} {R : Rr M.fp} (ha : Ev M ta σ Z H s (ty yInt i) s1) (hb : Ev M tb σ Z H s1 (ty yInt j) s2) (c : C i j) (h : ∀ Z H, R.r Z H (g i j)) : Ev M (tOp (rI C g) ta tb) σ Z H s R s2 :=
  ev_op ha hb fun _ _ _ _ sz e1 e2 _ q => ⟨i, j, e1, e2, c, q _ _ _ (Step.refl sz) (h _ _)⟩
theorem ev_add (ha : Ev M ta σ Z H s (ty yInt i) s1) (hb : Ev M tb σ Z H s1 (ty yInt j) s2) : Ev M (tOp (rI0 fun i j => .int (i + j)) ta tb) σ Z H s (ty yInt (i + j)) s2 := ev_I0 ha hb fun _ _ => rfl
theorem ev_sub (ha : Ev M ta σ Z H s (ty yInt i) s1) (hb : Ev M tb σ Z H s1 (ty yInt j) s2) : Ev M (tOp (rI0 fun i j => .int (i - j)) ta tb) σ Z H s (ty yInt (i - j)) s2 := ev_I0 ha hb fun _ _ => rfl
theorem ev_mul (ha : Ev M ta σ Z H s (ty yInt i) s1) (hb : Ev M tb σ Z H s1 (ty yInt j) s2) (c : CMul i j) : Ev M (tOp (rI CMul fun i j => .int (i * j)) ta tb) σ Z H s (ty yInt (i * j)) s2 := ev_I1 ha hb c fun _ _ => rfl
theorem ev_fdiv (ha : Ev M ta σ Z H s (ty yInt i) s1) (hb : Ev M tb σ Z H s1 (ty yInt j) s2) (c : CDiv i j) : Ev M (tOp (rI CDiv fun i j => .int (i / j)) ta tb) σ Z H s (ty yInt (i / j)) s2 := ev_I1 ha hb c fun _ _ => rfl
theorem ev_mod (ha : Ev M ta σ Z H s (ty yInt i) s1) (hb : Ev M tb σ Z H s1 (ty yInt j) s2) (c : 0 < j) : Ev M (tOp (rI (fun _ j => 0 < j) fun i j => .int (i % j)) ta tb) σ Z H s (ty yInt (i % j)) s2 := ev_I1 (C := fun _ j => 0 < j) ha hb c fun _ _ => rfl
theorem ev_pow (ha : Ev M ta σ Z H s (ty yInt i) s1) (hb : Ev M tb σ Z H s1 (ty yInt j) s2) (c : CPow i j) : Ev M (tOp (rI CPow fun i j => .int (i ^ j.toNat)) ta tb) σ Z H s (ty yInt (i ^ j.toNat)) s2 := ev_I1 ha hb c fun _ _ => rfl
theorem ev_tun {R1 R : Rr M.fp} {r : V → Hp → VK → Prop} (ha : Ev M ta σ Z H s R1 s1) (h : ∀ Z H v, Same Z H → R1.r Z H v → ∀ Q : VK, (∀ u Z2 H2, Step [] Z H Z2 H2 → R.r Z2 H2 u → Q u H2) → r v H Q) : Ev M (tUn r ta) σ Z H s R s1 :=
  fun Z1 H1 a b c d Q q => ha Z1 H1 a b c d _ fun v Z2 H2 e m rv => h Z2 H2 v e.s rv _ fun u Z4 H4 e3 ru => q u Z4 H4 (e.trans e3.pure) (M.pure e3 m) ru
theorem ev_neg (ha : Ev M ta σ Z H s (ty yInt i) s1) : Ev M (tUn (rU fun i => .int (-i)) ta) σ Z H s (ty yInt (-i)) s1 := ev_tun ha fun _ _ _ sz e _ q => ⟨i, e, q _ _ _ (Step.refl sz) rfl⟩
theorem ev_lt (ha : Ev M ta σ Z H s (ty yInt i) s1) (hb : Ev M tb σ Z H s1 (ty yInt j) s2) : Ev M (tOp (rI0 fun i j => .bl (decide (i < j))) ta tb) σ Z H s (ty yBool (decide (i < j))) s2 := ev_I0 ha hb fun _ _ => rfl
theorem ev_le (ha : Ev M ta σ Z H s (ty yInt i) s1) (hb : Ev M tb σ Z H s1 (ty yInt j) s2) : Ev M (tOp (rI0 fun i j => .bl (decide (i ≤ j))) ta tb) σ Z H s (ty yBool (decide (i ≤ j))) s2 := ev_I0 ha hb fun _ _ => rfl
theorem ev_gt (ha : Ev M ta σ Z H s (ty yInt i) s1) (hb : Ev M tb σ Z H s1 (ty yInt j) s2) : Ev M (tOp (rI0 fun i j => .bl (decide (j < i))) ta tb) σ Z H s (ty yBool (decide (j < i))) s2 := ev_I0 ha hb fun _ _ => rfl
theorem ev_ge (ha : Ev M ta σ Z H s (ty yInt i) s1) (hb : Ev M tb σ Z H s1 (ty yInt j) s2) : Ev M (tOp (rI0 fun i j => .bl (decide (j ≤ i))) ta tb) σ Z H s (ty yBool (decide (j ≤ i))) s2 := ev_I0 ha hb fun _ _ => rfl
end
/-! equality of flat things -/
/-- flat: the value is told by the thing alone -/
structure Flat {α : Type} (τ : Ty α) (f : α → V) : Prop where
  eq : ∀ Z v x, τ.r Z v x → v = f x
  inj : ∀ x y, f x = f y → x = y
  sc : ∀ x y, scal (f x) (f y) = true
theorem flat_int : Flat yInt V.int := ⟨fun _ _ _ h => h, fun _ _ h => V.int.inj h, fun _ _ => rfl⟩
theorem flat_str : Flat yStr V.str := ⟨fun _ _ _ h => h.1, fun _ _ h => V.str.inj h, fun _ _ => rfl⟩
theorem flat_bool : Flat yBool V.bl := ⟨fun _ _ _ h => h, fun _ _ h => V.bl.inj h, fun _ _ => rfl⟩
section
variable {α : Type} {τ : Ty α} {f : α → V} {x y : α}
theorem ev_eq [DecidableEq α] (F : Flat τ f) (ha : Ev M ta σ Z H s (ty τ x) s1) (hb : Ev M tb σ Z H s1 (ty τ y) s2) : Ev M (tOp rEq ta tb) σ Z H s (ty yBool (decide (x = y))) s2 :=
  ev_op ha hb fun Z H v w sz e1 e2 Q q => by
    rw [F.eq _ _ _ e1, F.eq _ _ _ e2]
    have : decide (f x = f y) = decide (x = y) := decide_eq_decide.mpr ⟨F.inj x y, congrArg f⟩
    exact ⟨F.sc _ _, q _ _ _ (Step.refl sz) (congrArg V.bl this)⟩
theorem ev_ne [DecidableEq α] (F : Flat τ f) (ha : Ev M ta σ Z H s (ty τ x) s1) (hb : Ev M tb σ Z H s1 (ty τ y) s2) : Ev M (tOp rNe ta tb) σ Z H s (ty yBool (!decide (x = y))) s2 :=
  ev_op ha hb fun Z H v w sz e1 e2 Q q => by
    rw [F.eq _ _ _ e1, F.eq _ _ _ e2]
    have : decide (f x = f y) = decide (x = y) := decide_eq_decide.mpr ⟨F.inj x y, congrArg f⟩
    exact ⟨F.sc _ _, q _ _ _ (Step.refl sz) (congrArg (fun b => V.bl (!b)) this)⟩
end
theorem ev_isN {α : Type} {τ : Ty α} {o : Option α} (ha : Ev M ta σ Z H s (ty (yOpt τ) o) s1) (hb : Ev M tb σ Z H s1 (ty yNon ()) s2) : Ev M (tOp (fun x y H Q => y = .non ∧ Q (.bl (decide (x = .non))) H) ta tb) σ Z H s (ty yBool o.isNone) s2 :=
  ev_op ha hb fun Z H v w sz e1 e2 Q q => by
    refine ⟨e2, q _ _ _ (Step.refl sz) ?_⟩
    cases o with
    | none => rw [show v = .non from e1]; rfl
    | some y => rw [show decide (v = .non) = false from decide_eq_false e1.2]; rfl
theorem ev_notN {α : Type} {τ : Ty α} {o : Option α} (ha : Ev M ta σ Z H s (ty (yOpt τ) o) s1) (hb : Ev M tb σ Z H s1 (ty yNon ()) s2) : Ev M (tOp (fun x y H Q => y = .non ∧ Q (.bl (!decide (x = .non))) H) ta tb) σ Z H s (ty yBool o.isSome) s2 :=
  ev_op ha hb fun Z H v w sz e1 e2 Q q => by
    refine ⟨e2, q _ _ _ (Step.refl sz) ?_⟩
    cases o with
    | none => rw [show v = .non from e1]; rfl
    | some y => rw [show decide (v = .non) = false from decide_eq_false e1.2]; rfl
/-! and, or, not, if, as values -/
theorem ev_and {a b : Bool} {o : Option (Bool × μ)} (ha : Ev M ta σ Z H s (ty yBool a) s1) (hb : a = true → ∀ y s', o = some (y, s') → Ev M tb σ Z H s1 (ty yBool y) s') (h : (if a = true then o else some (false, s1)) = some (b, s2)) : Ev M (tAndV ta tb) σ Z H s (ty yBool b) s2 :=
  fun Z1 H1 p q r d Q k => ha Z1 H1 p q r d _ fun v Z2 H2 e m rv => ⟨a, rv, by
    cases a with
    | true => rw [if_pos rfl] at h ⊢; exact hb rfl b s2 h Z2 H2 (p.trans e.z) (q.trans e.h) e.s m _ fun w Z3 H3 e2 m2 rw => k w Z3 H3 (e.trans e2) m2 rw
    | false => rw [if_neg Bool.false_ne_true] at h ⊢; cases h; exact k _ Z2 H2 e m rfl⟩
theorem ev_or {a b : Bool} {o : Option (Bool × μ)} (ha : Ev M ta σ Z H s (ty yBool a) s1) (hb : a = false → ∀ y s', o = some (y, s') → Ev M tb σ Z H s1 (ty yBool y) s') (h : (if a = true then some (true, s1) else o) = some (b, s2)) : Ev M (tOrV ta tb) σ Z H s (ty yBool b) s2 :=
  fun Z1 H1 p q r d Q k => ha Z1 H1 p q r d _ fun v Z2 H2 e m rv => ⟨a, rv, by
    cases a with
    | false => rw [if_neg Bool.false_ne_true] at h ⊢; exact hb rfl b s2 h Z2 H2 (p.trans e.z) (q.trans e.h) e.s m _ fun w Z3 H3 e2 m2 rw => k w Z3 H3 (e.trans e2) m2 rw
    | true => rw [if_pos rfl] at h ⊢; cases h; exact k _ Z2 H2 e m rfl⟩
theorem ev_and0 {a b : Bool} (ha : Ev M ta σ Z H s (ty yBool a) s1) (hb : Ev M tb σ Z H s1 (ty yBool b) s1) : Ev M (tAndV ta tb) σ Z H s (ty yBool (a && b)) s1 :=
  ev_and (o := some (b, s1)) ha (fun _ y s' e => by cases e; exact hb) (by cases a <;> rfl)
theorem ev_or0 {a b : Bool} (ha : Ev M ta σ Z H s (ty yBool a) s1) (hb : Ev M tb σ Z H s1 (ty yBool b) s1) : Ev M (tOrV ta tb) σ Z H s (ty yBool (a || b)) s1 :=
  ev_or (o := some (b, s1)) ha (fun _ y s' e => by cases e; exact hb) (by cases a <;> rfl)
theorem ev_not {a : Bool} (ha : Ev M ta σ Z H s (ty yBool a) s1) : Ev M (tNotV ta) σ Z H s (ty yBool (!a)) s1 :=
  fun Z1 H1 p q r d Q k => ha Z1 H1 p q r d _ fun v Z2 H2 e m rv => ⟨a, rv, k _ Z2 H2 e m rfl⟩
theorem ev_if {tt : TT} {a : Bool} {R : Rr M.fp} (ht : EvT M tt σ Z H s a s1) (ha : a = true → Ev M ta σ Z H s1 R s2) (hb : a = false → Ev M tb σ Z H s1 R s2) : Ev M (tIf tt ta tb) σ Z H s R s2 :=
  fun Z1 H1 p q r d Q k => ht Z1 H1 p q r d _ fun Z2 H2 e m => by
    cases a with
    | true => rw [if_pos rfl]; exact ha rfl Z2 H2 (p.trans e.z) (q.trans e.h) e.s m _ fun w Z3 H3 e2 m2 rw => k w Z3 H3 (e.trans e2) m2 rw
    | false => rw [if_neg Bool.false_ne_true]; exact hb rfl Z2 H2 (p.trans e.z) (q.trans e.h) e.s m _ fun w Z3 H3 e2 m2 rw => k w Z3 H3 (e.trans e2) m2 rw
theorem ev_if0 {tt : TT} {a : Bool} {α : Type} {τ : Ty α} {x y : α} (ht : EvT M tt σ Z H s a s1) (ha : Ev M ta σ Z H s1 (ty τ x) s1) (hb : Ev M tb σ Z H s1 (ty τ y) s1) : Ev M (tIf tt ta tb) σ Z H s (ty τ (if a = true then x else y)) s1 :=
  ev_if ht (fun e => by rw [if_pos e]; exact ha) (fun e => by rw [if_neg (by rw [e]; exact Bool.false_ne_true)]; exact hb)
/-! tests -/
theorem et_val {a : Bool} (h : Ev M te σ Z H s (ty yBool a) s1) : EvT M (tB te) σ Z H s a s1 := fun Z1 H1 p q r d _ k => h Z1 H1 p q r d _ fun _ Z2 H2 e m rv => ⟨a, rv, k Z2 H2 e m⟩
theorem et_cmp {a : Bool} (h : Ev M te σ Z H s (ty yBool a) s1) : EvT M (tTest te) σ Z H s a s1 := fun Z1 H1 p q r d _ k => h Z1 H1 p q r d _ fun _ Z2 H2 e m rv => ⟨a, rv, k Z2 H2 e m⟩
section
variable {tA tB' : TT} {a b : Bool}
theorem et_and {o : Option (Bool × μ)} (ha : EvT M tA σ Z H s a s1) (hb : a = true → ∀ y s', o = some (y, s') → EvT M tB' σ Z H s1 y s') (h : (if a = true then o else some (false, s1)) = some (b, s2)) : EvT M (tAnd tA tB') σ Z H s b s2 :=
  fun Z1 H1 p q r d Q k => ha Z1 H1 p q r d _ fun Z2 H2 e m => by
    cases a with
    | true => rw [if_pos rfl] at h ⊢; exact hb rfl b s2 h Z2 H2 (p.trans e.z) (q.trans e.h) e.s m _ fun Z3 H3 e2 m2 => k Z3 H3 (e.trans e2) m2
    | false => rw [if_neg Bool.false_ne_true] at h ⊢; cases h; exact k Z2 H2 e m
theorem et_or {o : Option (Bool × μ)} (ha : EvT M tA σ Z H s a s1) (hb : a = false → ∀ y s', o = some (y, s') → EvT M tB' σ Z H s1 y s') (h : (if a = true then some (true, s1) else o) = some (b, s2)) : EvT M (tOr tA tB') σ Z H s b s2 :=
  fun Z1 H1 p q r d Q k => ha Z1 H1 p q r d _ fun Z2 H2 e m => by
    cases a with
    | false => rw [if_neg Bool.false_ne_true] at h ⊢; exact hb rfl b s2 h Z2 H2 (p.trans e.z) (q.trans e.h) e.s m _ fun Z3 H3 e2 m2 => k Z3 H3 (e.trans e2) m2
    | true => rw [if_pos rfl] at h ⊢; cases h; exact k Z2 H2 e m
theorem et_and0 (ha : EvT M tA σ Z H s a s1) (hb : EvT M tB' σ Z H s1 b s1) : EvT M (tAnd tA tB') σ Z H s (a && b) s1 := et_and (o := some (b, s1)) ha (fun _ y s' e => by cases e; exact hb) (by cases a <;> rfl)
theorem et_or0 (ha : EvT M tA σ Z H s a s1) (hb : EvT M tB' σ Z H s1 b s1) : EvT M (tOr tA tB') σ Z H s (a || b) s1 := et_or (o := some (b, s1)) ha (fun _ y s' e => by cases e; exact hb) (by cases a <;> rfl)
theorem et_not (ha : EvT M tA σ Z H s a s1) : EvT M (tNot tA) σ Z H s (!a) s1 := fun Z1 H1 p q r d _ k => ha Z1 H1 p q r d _ k
end
end
end TP

namespace TP
open PySem PySem.Spec PyProof.Rows L2
instance {i j : Int} : Decidable (CMul i j) := inferInstanceAs (Decidable ((_ ∧ _) ∨ (_ ∧ _)))
instance {i j : Int} : Decidable (CDiv i j) := inferInstanceAs (Decidable (_ ∧ _))
instance {i j : Int} : Decidable (CPow i j) := inferInstanceAs (Decidable (_ ∧ _ ∧ _))
section
variable {μ : Type} {M : Mu μ} {σ : L2.St} {Z H : Hp} {s s' s1 s2 s3 : μ} {ta tb tc te : TE} {t : TA} {K : PySem.W.Frag}
theorem same_x {S : List Addr} {Z H Z1 H1 : Hp} (g : Step S Z H Z1 H1) {p : Addr} (h : H1 p = none) : H p = none := by
  cases q : H p with
  | none => rfl
  | some o => exact absurd h (g.al p (some_ne q))
theorem fresh_fp {fp : List Addr} {Z H : Hp} {p : Addr} {o : HO} (sz : Same Z H) (hp : H p = none) : Step fp Z H (upd Z p o) (upd H p o) := (Step.new sz hp).pure
/-! ### texts -/
theorem okS_app {x y : Str} (hx : okS x = true) (hy : okS y = true) (l : x.length + y.length ≤ sizeLine) : okS (x ++ y) = true := by
  unfold okS PyData.strOk at *
  rw [Bool.and_eq_true] at hx hy ⊢
  refine ⟨?_, ?_⟩
  · have e : (x ++ y).cps = x.cps ++ y.cps := rfl
    rw [e, Array.all_append, hx.1, hy.1]; rfl
  · refine decide_eq_true ?_
    have e : (x ++ y).length = x.length + y.length := by
      show (x.cps ++ y.cps).size = _
      rw [Array.size_append]; rfl
    omega
theorem ev_cat_str {x y : Str} (ha : Ev M ta σ Z H s (ty yStr x) s1) (hb : Ev M tb σ Z H s1 (ty yStr y) s2) (l : x.length + y.length ≤ sizeLine) : Ev M (tOp (fun x y H Q => ∃ i j, x = .str i ∧ y = .str j ∧ i.length + j.length ≤ sizeLine ∧ Q (.str (i ++ j)) H) ta tb) σ Z H s (ty yStr (x ++ y)) s2 :=
  ev_op ha hb fun _ _ _ _ sz e1 e2 _ q => ⟨x, y, e1.1, e2.1, l, q _ _ _ (Step.refl sz) ⟨rfl, okS_app e1.2 e2.2 l⟩⟩
theorem ev_lt_str {x y : Str} (ha : Ev M ta σ Z H s (ty yStr x) s1) (hb : Ev M tb σ Z H s1 (ty yStr y) s2) : Ev M (tOp (fun x y H Q => ∃ i j, x = .str i ∧ y = .str j ∧ Q (.bl (decide (i.cps.toList < j.cps.toList))) H) ta tb) σ Z H s (ty yBool (decide (x.cps.toList < y.cps.toList))) s2 :=
  ev_op ha hb fun _ _ _ _ sz e1 e2 _ q => ⟨x, y, e1.1, e2.1, q _ _ _ (Step.refl sz) rfl⟩
theorem ev_len_str {x : Str} (ha : Ev M ta σ Z H s (ty yStr x) s1) : Ev M (tCB (fun xs H Q => ∃ z, xs = [.str z] ∧ z.length ≤ sizeLine ∧ Q (.int z.length) H) (tCons ta tNil)) σ Z H s (ty yInt (x.length : Nat)) s1 :=
  ev_cb (eva_cons ha eva_nil) fun _ _ vs sz ⟨v, r, e, h, e2⟩ Q q => ⟨x, by rw [e, h.1, show r = [] from e2], of_decide_eq_true (Bool.and_eq_true_iff.mp (show (PyData.strOk x && decide (x.length ≤ sizeLine)) = true from h.2)).2, q _ _ _ (Step.refl sz) rfl⟩
/-! ### lists and tuples that are made -/
theorem ev_tup {Rs : Ra M.fp} {R : Rr M.fp} (ha : EvA M t σ Z H s Rs s1) (h : ∀ Z H vs, Same Z H → Rs.r Z H vs → vs.length ≤ sizeLine ∧ ∀ p, H p = none → R.r (upd Z p (.tup vs)) (upd H p (.tup vs)) (.ref p)) : Ev M (tTup t) σ Z H s R s1 :=
  fun Z1 H1 a b c d Q q => ha Z1 H1 a b c d _ fun vs Z2 H2 e m rv => by
    obtain ⟨l, hr⟩ := h Z2 H2 vs e.s rv
    exact ⟨l, fun p hp => q _ _ _ (e.trans (fresh_fp e.s hp)) (M.pure (Step.new e.s hp) m) (hr p hp)⟩
theorem ev_lst {Rs : Ra M.fp} {R : Rr M.fp} (ha : EvA M t σ Z H s Rs s1) (h : ∀ Z H vs, Same Z H → Rs.r Z H vs → vs.length ≤ sizeLine ∧ ∀ p, H p = none → R.r (upd Z p (.lst vs)) (upd H p (.lst vs)) (.ref p)) : Ev M (tLst t) σ Z H s R s1 :=
  fun Z1 H1 a b c d Q q => ha Z1 H1 a b c d _ fun vs Z2 H2 e m rv => by
    obtain ⟨l, hr⟩ := h Z2 H2 vs e.s rv
    exact ⟨l, fun p hp => q _ _ _ (e.trans (fresh_fp e.s hp)) (M.pure (Step.new e.s hp) m) (hr p hp)⟩
theorem sqT_new {Z : Hp} {p : Addr} {vs : List V} : SqT K (upd Z p (.tup vs)) p vs := .inl (.inl upd_same)
section
variable {α β γ δ : Type} {τ : Ty α} {υ : Ty β} {φ : Ty γ} {ψ : Ty δ} {x : α} {y : β} {z : γ} {u : δ}
theorem ev_p0 : Ev M (tTup tNil) σ Z H s (ty (yP0 K) ()) s := ev_tup eva_nil fun _ _ vs _ e => ⟨by rw [show vs = [] from e]; exact Nat.zero_le _, fun p _ => ⟨p, rfl, by rw [show vs = [] from e]; exact sqT_new⟩⟩
theorem ev_p1 (ha : EvA M t σ Z H s (rac (ty τ x) ra0) s1) : Ev M (tTup t) σ Z H s (ty (yP1 K τ) x) s1 :=
  ev_tup ha fun Z H vs sz ⟨v1, r1, e1, h1, e2⟩ => by
    cases e2; cases e1
    exact ⟨by show 1 ≤ sizeLine; decide, fun p hp => ⟨p, v1, rfl, sqT_new, τ.mono (same_upd (same_none sz hp)) h1⟩⟩
theorem ev_p2 (ha : EvA M t σ Z H s (rac (ty τ x) (rac (ty υ y) ra0)) s1) : Ev M (tTup t) σ Z H s (ty (yP2 K τ υ) (x, y)) s1 :=
  ev_tup ha fun Z H vs sz ⟨v1, r1, e1, h1, v2, r2, e2, h2, e3⟩ => by
    cases e3; cases e2; cases e1
    exact ⟨by show 2 ≤ sizeLine; decide, fun p hp => have q := same_upd (same_none sz hp); ⟨p, v1, v2, rfl, sqT_new, τ.mono q h1, υ.mono q h2⟩⟩
theorem ev_p3 (ha : EvA M t σ Z H s (rac (ty τ x) (rac (ty υ y) (rac (ty φ z) ra0))) s1) : Ev M (tTup t) σ Z H s (ty (yP3 K τ υ φ) (x, y, z)) s1 :=
  ev_tup ha fun Z H vs sz ⟨v1, r1, e1, h1, v2, r2, e2, h2, v3, r3, e3, h3, e4⟩ => by
    cases e4; cases e3; cases e2; cases e1
    exact ⟨by show 3 ≤ sizeLine; decide, fun p hp => have q := same_upd (same_none sz hp); ⟨p, v1, v2, v3, rfl, sqT_new, τ.mono q h1, υ.mono q h2, φ.mono q h3⟩⟩
theorem ev_p4 (ha : EvA M t σ Z H s (rac (ty τ x) (rac (ty υ y) (rac (ty φ z) (rac (ty ψ u) ra0)))) s1) : Ev M (tTup t) σ Z H s (ty (yP4 K τ υ φ ψ) (x, y, z, u)) s1 :=
  ev_tup ha fun Z H vs sz ⟨v1, r1, e1, h1, v2, r2, e2, h2, v3, r3, e3, h3, v4, r4, e4, h4, e5⟩ => by
    cases e5; cases e4; cases e3; cases e2; cases e1
    exact ⟨by show 4 ≤ sizeLine; decide, fun p hp => have q := same_upd (same_none sz hp); ⟨p, v1, v2, v3, v4, rfl, sqT_new, τ.mono q h1, υ.mono q h2, φ.mono q h3, ψ.mono q h4⟩⟩
/-- arguments all of one kind -/
def ras {fp : List Addr} (τ : Ty α) (xs : List α) : Ra fp := ⟨fun Z _ vs => All (τ.r Z) vs xs, fun g h => h.imp fun _ _ => τ.mono g.z⟩
theorem eva_nils : EvA M tNil σ Z H s (ras τ []) s := fun Z1 H1 _ _ c d Q q => q [] Z1 H1 (Step.refl c) d .nil
theorem eva_conss {xs : List α} (ha : Ev M ta σ Z H s (ty τ x) s1) (hr : EvA M t σ Z H s1 (ras τ xs) s2) : EvA M (tCons ta t) σ Z H s (ras τ (x :: xs)) s2 :=
  fun Z1 H1 a b c d Q q => ha Z1 H1 a b c d _ fun v Z2 H2 e m rv => hr Z2 H2 (a.trans e.z) (b.trans e.h) e.s m _ fun vs Z3 H3 e2 m2 rs => q _ Z3 H3 (e.trans e2) m2 (.cons (τ.mono e2.z rv) rs)
/-- a new list of one's own -/
def EvN {α : Type} (M : Mu μ) (t : TE) (σ : L2.St) (Z H : Hp) (s : μ) (τ : Ty α) (xs : List α) (s' : μ) : Prop :=
  ∀ Z1 H1, Same Z Z1 → SameX M.fp H H1 → Same Z1 H1 → M.m s Z1 H1 → ∀ Q : VK, (∀ p vs Z2 H2, Step M.fp Z1 H1 Z2 H2 → M.m s' Z2 H2 → H1 p = none → Z2 p = none → H2 p = some (.lst vs) → All (τ.r Z2) vs xs → xs.length ≤ sizeLine → Q (.ref p) H2) → t σ H1 Q
theorem Step.fz {S : List Addr} {Z H Z1 H1 : Hp} {x : Addr} {o : HO} (g : Step S Z H Z1 H1) (hx : H x = none) (h1 : H1 x = some o) (hz : Z1 x = none) : Step S Z H (upd Z1 x o) H1 := by
  refine ⟨g.z.trans (same_upd hz), fun a u e => ?_, g.h, fun a h z => ?_, g.al⟩
  · by_cases q : a = x
    · subst q; rw [upd_same] at e; rw [← Option.some.inj e]; exact h1
    · rw [upd_ne q] at e; exact g.s a u e
  · rw [upd_ne (ne_of_some h hx)]; exact g.n a h z
theorem Mu.fz {M : Mu μ} {s : μ} {Z H : Hp} {x : Addr} {o : HO} (m : M.m s Z H) (hz : Z x = none) (nx : x ∉ M.fp) : M.m s (upd Z x o) H := by
  refine M.loc (same_upd hz) (fun _ _ _ x => x) (fun a ha _ z => ?_) m
  rw [upd_ne (fun q => nx (by rw [← q]; exact ha))]
  exact z
theorem ev_fz {α : Type} {τ : Ty α} {xs : List α} (h : EvN M ta σ Z H s τ xs s1) : Ev M ta σ Z H s (ty (yList τ) xs) s1 :=
  fun Z1 H1 a b c d Q q => h Z1 H1 a b c d Q fun p vs Z2 H2 e m hp zp h2 t l =>
    q _ _ _ (e.fz hp h2 zp) (Mu.fz m zp (fun hf => (M.al d p hf).1 hp)) ⟨p, vs, rfl, upd_same, t.imp fun _ _ => τ.mono (same_upd zp), l⟩
theorem en_op {α : Type} {τ : Ty α} {xs : List α} {R1 R3 : Rr M.fp} {r : R2} (ha : Ev M ta σ Z H s R1 s1) (hb : Ev M tb σ Z H s1 R3 s2) (h : ∀ Z H v w, Same Z H → R1.r Z H v → R3.r Z H w → ∃ vs, All (τ.r Z) vs xs ∧ xs.length ≤ sizeLine ∧ ∀ Q : VK, (∀ p, H p = none → Q (.ref p) (upd H p (.lst vs))) → r v w H Q) : EvN M (tOp r ta tb) σ Z H s τ xs s2 :=
  fun Z1 H1 a b c d Q q => ha Z1 H1 a b c d _ fun v Z2 H2 e m rv => hb Z2 H2 (a.trans e.z) (b.trans e.h) e.s m _ fun w Z3 H3 e2 m2 rw => by
    obtain ⟨vs, t, l, k⟩ := h Z3 H3 v w e2.s (R1.st e2 rv) rw
    refine k _ fun p hp => ?_
    have e3 := Step.own (o := .lst vs) e2.s hp
    exact q p vs Z3 _ ((e.trans e2).trans e3.pure) (M.pure e3 m2) (same_x (e.trans e2) hp) (same_none e2.s hp) upd_same t l
theorem en_cb {α : Type} {τ : Ty α} {xs : List α} {Rs : Ra M.fp} {r : List V → Hp → VK → Prop} (ha : EvA M t σ Z H s Rs s1) (h : ∀ Z H vs, Same Z H → Rs.r Z H vs → ∃ ws, All (τ.r Z) ws xs ∧ xs.length ≤ sizeLine ∧ ∀ Q : VK, (∀ p, H p = none → Q (.ref p) (upd H p (.lst ws))) → r vs H Q) : EvN M (tCB r t) σ Z H s τ xs s1 :=
  fun Z1 H1 a b c d Q q => ha Z1 H1 a b c d _ fun v Z2 H2 e m rv => by
    obtain ⟨vs, t, l, k⟩ := h Z2 H2 v e.s rv
    refine k _ fun p hp => ?_
    have e3 := Step.own (o := .lst vs) e.s hp
    exact q p vs Z2 _ (e.trans e3.pure) (M.pure e3 m) (same_x e hp) (same_none e.s hp) upd_same t l
theorem en_listD {xs : List α} (ha : EvA M t σ Z H s (ras τ xs) s1) (l : xs.length ≤ sizeLine) : EvN M (tLst t) σ Z H s τ xs s1 :=
  fun Z1 H1 a b c d Q q => ha Z1 H1 a b c d _ fun vs Z2 H2 e m rv => ⟨by rw [All.len rv]; exact l, fun p hp => by
    have e3 := Step.own (o := .lst vs) e.s hp
    exact q p vs Z2 _ (e.trans e3.pure) (M.pure e3 m) (same_x e hp) (same_none e.s hp) upd_same rv l⟩
theorem ev_tupD {xs : List α} (ha : EvA M t σ Z H s (ras τ xs) s1) (l : xs.length ≤ sizeLine) : Ev M (tTup t) σ Z H s (ty (yTup K τ) xs) s1 :=
  ev_tup ha fun Z H vs sz h => ⟨by rw [h.len]; exact l, fun p hp => ⟨p, vs, rfl, sqT_new, h.imp fun _ _ => τ.mono (same_upd (same_none sz hp)), l⟩⟩
/-! ### lists and tuples that are read -/
variable {xs ys : List α}
theorem rdl {fp : List Addr} {Z H : Hp} {v : V} (sz : Same Z H) (h : (li (fp := fp) τ xs).r Z H v) : ∃ p vs, v = .ref p ∧ H p = some (.lst vs) ∧ All (τ.r Z) vs xs ∧ xs.length ≤ sizeLine := by
  obtain ⟨p, vs, e, g, t, l⟩ := h
  exact ⟨p, vs, e, g.get sz, t, l⟩
theorem ev_ixL {i : Int} (ha : Ev M ta σ Z H s (li τ xs) s1) (hb : Ev M tb σ Z H s1 (ty yInt i) s2) (e : atI xs i = some x) : Ev M (tOp (rIxL K) ta tb) σ Z H s (ty τ x) s2 :=
  ev_op ha hb fun _ _ _ _ sz e1 e2 _ q => by
    obtain ⟨p, vs, rfl, g, t, _⟩ := rdl sz e1
    obtain ⟨w, hw, rw'⟩ := t.atI e
    exact ⟨p, vs, i, w, rfl, e2, SqL.of g, hw, q _ _ _ (Step.refl sz) rw'⟩
theorem ev_ixT {i : Int} (ha : Ev M ta σ Z H s (ty (yTup K τ) xs) s1) (hb : Ev M tb σ Z H s1 (ty yInt i) s2) (e : atI xs i = some x) : Ev M (tOp (rIxT K) ta tb) σ Z H s (ty τ x) s2 :=
  ev_op ha hb fun _ _ _ _ sz e1 e2 _ q => by
    obtain ⟨p, vs, rfl, g, t, _⟩ := e1
    obtain ⟨w, hw, rw'⟩ := t.atI e
    exact ⟨p, vs, i, w, rfl, e2, seqT_same sz g, hw, q _ _ _ (Step.refl sz) rw'⟩
/-- a part of a tuple by its written place -/
def PartOf {α' β' : Type} (K : PySem.W.Frag) (τ : Ty α') (i : Int) (τ' : Ty β') (f : α' → β') : Prop := ∀ Z v x, τ.r Z v x → ∃ a vs w, v = .ref a ∧ SqT K Z a vs ∧ atI vs i = some w ∧ τ'.r Z w (f x)
theorem po1_0 : PartOf K (yP1 K τ) 0 τ id := fun _ _ _ ⟨a, v1, e, h, h1⟩ => ⟨a, _, v1, e, h, rfl, h1⟩
theorem po2_0 : PartOf K (yP2 K τ υ) 0 τ Prod.fst := fun _ _ _ ⟨a, v1, v2, e, h, h1, _⟩ => ⟨a, _, v1, e, h, rfl, h1⟩
theorem po2_1 : PartOf K (yP2 K τ υ) 1 υ Prod.snd := fun _ _ _ ⟨a, v1, v2, e, h, _, h1⟩ => ⟨a, _, v2, e, h, rfl, h1⟩
theorem po3_0 : PartOf K (yP3 K τ υ φ) 0 τ (fun x => x.1) := fun _ _ _ ⟨a, v1, v2, v3, e, h, h1, _⟩ => ⟨a, _, v1, e, h, rfl, h1⟩
theorem po3_1 : PartOf K (yP3 K τ υ φ) 1 υ (fun x => x.2.1) := fun _ _ _ ⟨a, v1, v2, v3, e, h, _, h1, _⟩ => ⟨a, _, v2, e, h, rfl, h1⟩
theorem po3_2 : PartOf K (yP3 K τ υ φ) 2 φ (fun x => x.2.2) := fun _ _ _ ⟨a, v1, v2, v3, e, h, _, _, h1⟩ => ⟨a, _, v3, e, h, rfl, h1⟩
theorem po4_0 : PartOf K (yP4 K τ υ φ ψ) 0 τ (fun x => x.1) := fun _ _ _ ⟨a, v1, v2, v3, v4, e, h, h1, _⟩ => ⟨a, _, v1, e, h, rfl, h1⟩
theorem po4_1 : PartOf K (yP4 K τ υ φ ψ) 1 υ (fun x => x.2.1) := fun _ _ _ ⟨a, v1, v2, v3, v4, e, h, _, h1, _⟩ => ⟨a, _, v2, e, h, rfl, h1⟩
theorem po4_2 : PartOf K (yP4 K τ υ φ ψ) 2 φ (fun x => x.2.2.1) := fun _ _ _ ⟨a, v1, v2, v3, v4, e, h, _, _, h1, _⟩ => ⟨a, _, v3, e, h, rfl, h1⟩
theorem po4_3 : PartOf K (yP4 K τ υ φ ψ) 3 ψ (fun x => x.2.2.2) := fun _ _ _ ⟨a, v1, v2, v3, v4, e, h, _, _, _, h1⟩ => ⟨a, _, v4, e, h, rfl, h1⟩
theorem ev_part {i : Int} {f : α → β} (P : PartOf K τ i υ f) (ha : Ev M ta σ Z H s (ty τ x) s1) (hb : Ev M tb σ Z H s1 (ty yInt i) s2) : Ev M (tOp (rIxT K) ta tb) σ Z H s (ty υ (f x)) s2 :=
  ev_op ha hb fun _ _ _ _ sz e1 e2 _ q => by
    obtain ⟨p, vs, w, rfl, g, hw, rw'⟩ := P _ _ _ e1
    exact ⟨p, vs, i, w, rfl, e2, seqT_same sz g, hw, q _ _ _ (Step.refl sz) rw'⟩
theorem ev_len {r : List V → Hp → VK → Prop} (hr : ∀ xs H Q, (∃ p ys, xs = [.ref p] ∧ (SqL K H p ys ∨ SqT K H p ys) ∧ Q (.int ys.length) H) → r xs H Q) (ha : Ev M ta σ Z H s (li τ xs) s1) : Ev M (tCB r (tCons ta tNil)) σ Z H s (ty yInt (xs.length : Nat)) s1 :=
  ev_cb (eva_cons ha eva_nil) fun _ _ _ sz ⟨v, r, e, h, e2⟩ _ q => by
    cases e2; cases e
    obtain ⟨p, vs, rfl, g, t, _⟩ := rdl sz h
    exact hr _ _ _ ⟨p, vs, rfl, .inl (SqL.of g), by rw [t.len]; exact q _ _ _ (Step.refl sz) rfl⟩
theorem ev_lenT {r : List V → Hp → VK → Prop} (hr : ∀ xs H Q, (∃ p ys, xs = [.ref p] ∧ (SqL K H p ys ∨ SqT K H p ys) ∧ Q (.int ys.length) H) → r xs H Q) (ha : Ev M ta σ Z H s (ty (yTup K τ) xs) s1) : Ev M (tCB r (tCons ta tNil)) σ Z H s (ty yInt (xs.length : Nat)) s1 :=
  ev_cb (eva_cons ha eva_nil) fun _ _ _ sz ⟨v, r, e, h, e2⟩ _ q => by
    cases e2; cases e
    obtain ⟨p, vs, rfl, g, t, _⟩ := h
    exact hr _ _ _ ⟨p, vs, rfl, .inr (seqT_same sz g), by rw [t.len]; exact q _ _ _ (Step.refl sz) rfl⟩
theorem en_list_of {r : List V → Hp → VK → Prop} (hr : ∀ xs H Q, (∃ p ys, xs = [.ref p] ∧ (SqL K H p ys ∨ SqT K H p ys) ∧ ∀ l, H l = none → Q (.ref l) (upd H l (.lst ys))) → r xs H Q) (ha : Ev M ta σ Z H s (li τ xs) s1) : EvN M (tCB r (tCons ta tNil)) σ Z H s τ xs s1 :=
  en_cb (eva_cons ha eva_nil) fun _ _ _ sz ⟨v, r, e, h, e2⟩ => by
    cases e2; cases e
    obtain ⟨p, vs, rfl, g, t, l⟩ := rdl sz h
    exact ⟨vs, t, l, fun Q q => hr _ _ _ ⟨p, vs, rfl, .inl (SqL.of g), q⟩⟩
theorem en_list_ofT {r : List V → Hp → VK → Prop} (hr : ∀ xs H Q, (∃ p ys, xs = [.ref p] ∧ (SqL K H p ys ∨ SqT K H p ys) ∧ ∀ l, H l = none → Q (.ref l) (upd H l (.lst ys))) → r xs H Q) (ha : Ev M ta σ Z H s (ty (yTup K τ) xs) s1) : EvN M (tCB r (tCons ta tNil)) σ Z H s τ xs s1 :=
  en_cb (eva_cons ha eva_nil) fun _ _ _ sz ⟨v, r, e, h, e2⟩ => by
    cases e2; cases e
    obtain ⟨p, vs, rfl, g, t, l⟩ := h
    exact ⟨vs, t, l, fun Q q => hr _ _ _ ⟨p, vs, rfl, .inr (seqT_same sz g), q⟩⟩
theorem ev_tuple_of {r : List V → Hp → VK → Prop} (hr : ∀ xs H Q, (∃ p ys, xs = [.ref p] ∧ ((SqL K H p ys ∧ ∀ l, H l = none → Q (.ref l) (upd H l (.tup ys))) ∨ (SqT K H p ys ∧ Q (.ref p) H))) → r xs H Q) (ha : Ev M ta σ Z H s (li τ xs) s1) : Ev M (tCB r (tCons ta tNil)) σ Z H s (ty (yTup K τ) xs) s1 :=
  ev_cb (eva_cons ha eva_nil) fun _ _ _ sz ⟨v, r, e, h, e2⟩ _ q => by
    cases e2; cases e
    obtain ⟨p, vs, rfl, g, t, l⟩ := rdl sz h
    exact hr _ _ _ ⟨p, vs, rfl, .inl ⟨SqL.of g, fun d hd => q _ _ _ (Step.new sz hd) ⟨d, vs, rfl, sqT_new, t.imp fun _ _ => τ.mono (same_upd (same_none sz hd)), l⟩⟩⟩
theorem ev_tuple_ofT {r : List V → Hp → VK → Prop} (hr : ∀ xs H Q, (∃ p ys, xs = [.ref p] ∧ ((SqL K H p ys ∧ ∀ l, H l = none → Q (.ref l) (upd H l (.tup ys))) ∨ (SqT K H p ys ∧ Q (.ref p) H))) → r xs H Q) (ha : Ev M ta σ Z H s (ty (yTup K τ) xs) s1) : Ev M (tCB r (tCons ta tNil)) σ Z H s (ty (yTup K τ) xs) s1 :=
  ev_cb (eva_cons ha eva_nil) fun _ _ _ sz ⟨v, r, e, h, e2⟩ _ q => by
    cases e2; cases e
    obtain ⟨p, vs, rfl, g, t, l⟩ := h
    exact hr _ _ _ ⟨p, vs, rfl, .inr ⟨seqT_same sz g, q _ _ _ (Step.refl sz) ⟨p, vs, rfl, g, t, l⟩⟩⟩
/-- a pair, as a tuple of a pair: itself -/
theorem ev_tuple_id {r : List V → Hp → VK → Prop} (hr : ∀ xs H Q, (∃ p ys, xs = [.ref p] ∧ ((SqL K H p ys ∧ ∀ l, H l = none → Q (.ref l) (upd H l (.tup ys))) ∨ (SqT K H p ys ∧ Q (.ref p) H))) → r xs H Q) (hτ : ∀ Z v x, τ.r Z v x → ∃ p ys, v = .ref p ∧ SqT K Z p ys) (ha : Ev M ta σ Z H s (ty τ x) s1) : Ev M (tCB r (tCons ta tNil)) σ Z H s (ty τ x) s1 :=
  ev_cb (eva_cons ha eva_nil) fun _ _ _ sz ⟨v, r, e, h, e2⟩ _ q => by
    cases e2; cases e
    obtain ⟨p, vs, rfl, g⟩ := hτ _ _ _ h
    exact hr _ _ _ ⟨p, vs, rfl, .inr ⟨seqT_same sz g, q _ _ _ (Step.refl sz) h⟩⟩
theorem it_p2 : ∀ Z v x, (yP2 K τ υ).r Z v x → ∃ p ys, v = .ref p ∧ SqT K Z p ys := fun _ _ _ ⟨a, _, _, e, h, _⟩ => ⟨a, _, e, h⟩
theorem it_p3 : ∀ Z v x, (yP3 K τ υ φ).r Z v x → ∃ p ys, v = .ref p ∧ SqT K Z p ys := fun _ _ _ ⟨a, _, _, _, e, h, _⟩ => ⟨a, _, e, h⟩
theorem en_cat (ha : Ev M ta σ Z H s (li τ xs) s1) (hb : Ev M tb σ Z H s1 (li τ ys) s2) (l : xs.length + ys.length ≤ sizeLine) : EvN M (tOp rCat ta tb) σ Z H s τ (xs ++ ys) s2 :=
  en_op ha hb fun _ _ _ _ sz e1 e2 => by
    obtain ⟨p, vs, rfl, g, t, _⟩ := rdl sz e1
    obtain ⟨p2, ws, rfl, g2, t2, _⟩ := rdl sz e2
    exact ⟨vs ++ ws, t.app t2, by rw [List.length_append]; exact l, fun Q q => ⟨p, p2, vs, ws, rfl, rfl, g, g2, by rw [t.len, t2.len]; exact l, q⟩⟩
end
def cutA {α : Type} (xs : List α) (lo hi : Option Int) : List α := (xs.drop (HT.sIx xs.length 0 lo)).take (HT.sIx xs.length xs.length hi - HT.sIx xs.length 0 lo)
theorem All.cut {α : Type} {R : V → α → Prop} {vs : List V} {xs : List α} (h : All R vs xs) (lo hi : Option Int) : All R (cutV vs lo hi) (cutA xs lo hi) := by
  unfold cutV cutA
  rw [h.len]
  exact (h.drop _).take _
theorem cutA_len {α : Type} (xs : List α) (lo hi : Option Int) : (cutA xs lo hi).length ≤ xs.length := by
  unfold cutA
  rw [List.length_take, List.length_drop]
  omega
def EvO (M : Mu μ) (t : TO) (σ : L2.St) (Z H : Hp) (s : μ) (i : Option Int) (s' : μ) : Prop :=
  ∀ Z1 H1, Same Z Z1 → SameX M.fp H H1 → Same Z1 H1 → M.m s Z1 H1 → ∀ Q : Option Int → Hp → Prop, (∀ Z2 H2, Step M.fp Z1 H1 Z2 H2 → M.m s' Z2 H2 → Q i H2) → t σ H1 Q
theorem eo_none : EvO M tNoPart σ Z H s none s := fun Z1 H1 _ _ c d Q q => q Z1 H1 (Step.refl c) d
theorem eo_some {i : Int} (h : Ev M te σ Z H s (ty yInt i) s1) : EvO M (tPart te) σ Z H s (some i) s1 := fun Z1 H1 a b c d Q q => h Z1 H1 a b c d _ fun v Z2 H2 e m rv => ⟨i, rv, q Z2 H2 e m⟩
theorem ev_slice {r : V → Option Int → Option Int → Hp → VK → Prop} {tl th : TO} {lo hi : Option Int} {R R' : Rr M.fp} (ha : Ev M ta σ Z H s R s1) (hl : EvO M tl σ Z H s1 lo s2) (hh : EvO M th σ Z H s2 hi s3)
    (h : ∀ Z H v, Same Z H → R.r Z H v → ∀ Q : VK, (∀ u Z2 H2, Step [] Z H Z2 H2 → R'.r Z2 H2 u → Q u H2) → r v lo hi H Q) : Ev M (tSl r ta tl th) σ Z H s R' s3 :=
  fun Z1 H1 a b c d Q q => ha Z1 H1 a b c d _ fun v Z2 H2 e m rv => hl Z2 H2 (a.trans e.z) (b.trans e.h) e.s m _ fun Z3 H3 e2 m2 => hh Z3 H3 ((a.trans e.z).trans e2.z) ((b.trans e.h).trans e2.h) e2.s m2 _ fun Z4 H4 e3 m3 =>
    h Z4 H4 v e3.s (R.st e3 (R.st e2 rv)) _ fun u Z5 H5 e4 ru => q u Z5 H5 (((e.trans e2).trans e3).trans e4.pure) (M.pure e4 m3) ru
theorem en_slL {α : Type} {τ : Ty α} {xs : List α} {tl th : TO} {lo hi : Option Int} (ha : Ev M ta σ Z H s (li τ xs) s1) (hl : EvO M tl σ Z H s1 lo s2) (hh : EvO M th σ Z H s2 hi s3) : EvN M (tSl (rSlL K) ta tl th) σ Z H s τ (cutA xs lo hi) s3 :=
  fun Z1 H1 a b c d Q q => ha Z1 H1 a b c d _ fun v Z2 H2 e m rv => hl Z2 H2 (a.trans e.z) (b.trans e.h) e.s m _ fun Z3 H3 e2 m2 => hh Z3 H3 ((a.trans e.z).trans e2.z) ((b.trans e.h).trans e2.h) e2.s m2 _ fun Z4 H4 e3 m3 => by
    obtain ⟨p, vs, rfl, g, t, l⟩ := rdl e3.s ((li τ xs).st e3 ((li τ xs).st e2 rv))
    refine ⟨p, vs, rfl, SqL.of g, fun d hd => ?_⟩
    have e4 := Step.own (o := .lst (cutV vs lo hi)) e3.s hd
    exact q d _ Z4 _ (((e.trans e2).trans e3).trans e4.pure) (M.pure e4 m3) (same_x ((e.trans e2).trans e3) hd) (same_none e3.s hd) upd_same (t.cut lo hi) (Nat.le_trans (cutA_len _ _ _) l)
/-- a tuple's slice: the whole is the tuple itself -/
def rSlW (K : PySem.W.Frag) : V → Option Int → Option Int → Hp → VK → Prop := fun x lo hi H Q => ∃ a xs, x = .ref a ∧ SqT K H a xs ∧
  ((HT.sIx xs.length 0 lo = 0 ∧ HT.sIx xs.length xs.length hi = xs.length) → Q (.ref a) H) ∧ (¬ (HT.sIx xs.length 0 lo = 0 ∧ HT.sIx xs.length xs.length hi = xs.length) → ∀ p, H p = none → Q (.ref p) (upd H p (.tup (cutV xs lo hi))))
theorem ev_slT {α : Type} {τ : Ty α} {xs : List α} {tl th : TO} {lo hi : Option Int} (ha : Ev M ta σ Z H s (ty (yTup K τ) xs) s1) (hl : EvO M tl σ Z H s1 lo s2) (hh : EvO M th σ Z H s2 hi s3) : Ev M (tSl (rSlW K) ta tl th) σ Z H s (ty (yTup K τ) (cutA xs lo hi)) s3 :=
  ev_slice ha hl hh fun _ _ _ sz ⟨p, vs, e, g, t, l⟩ _ q => by
    subst e
    refine ⟨p, vs, rfl, seqT_same sz g, fun w => q _ _ _ (Step.refl sz) ⟨p, vs, rfl, g, ?_, Nat.le_trans (cutA_len _ _ _) l⟩, fun _ d hd => q _ _ _ (Step.new sz hd) ⟨d, _, rfl, sqT_new, (t.cut lo hi).imp fun _ _ => τ.mono (same_upd (same_none sz hd)), Nat.le_trans (cutA_len _ _ _) l⟩⟩
    have c := t.cut lo hi
    have e : cutV vs lo hi = vs := by
      unfold cutV
      rw [w.1, w.2, List.drop_zero, Nat.sub_zero, List.take_length]
    rw [e] at c
    exact c
/-! ### sums and the like -/
theorem ev_sum {xs : List Int} (ha : Ev M ta σ Z H s (li yInt xs) s1) : Ev M (tCB (rSum K) (tCons ta tNil)) σ Z H s (ty yInt xs.sum) s1 :=
  ev_cb (eva_cons ha eva_nil) fun _ _ _ sz ⟨v, r, e, h, e2⟩ _ q => by
    cases e2; cases e
    obtain ⟨p, vs, rfl, g, t, _⟩ := rdl sz h
    rw [t.ints] at g
    exact ⟨p, xs, rfl, SqL.of g, q _ _ _ (Step.refl sz) rfl⟩
theorem ev_anyL {xs : List Bool} (ha : Ev M ta σ Z H s (li yBool xs) s1) : Ev M (tCB (rAny K) (tCons ta tNil)) σ Z H s (ty yBool (xs.any id)) s1 :=
  ev_cb (eva_cons ha eva_nil) fun _ _ _ sz ⟨v, r, e, h, e2⟩ _ q => by
    cases e2; cases e
    obtain ⟨p, vs, rfl, g, t, _⟩ := rdl sz h
    rw [t.bls] at g
    exact ⟨p, xs, rfl, SqL.of g, q _ _ _ (Step.refl sz) rfl⟩
theorem ev_allL {xs : List Bool} (ha : Ev M ta σ Z H s (li yBool xs) s1) : Ev M (tCB (rAll K) (tCons ta tNil)) σ Z H s (ty yBool (xs.all id)) s1 :=
  ev_cb (eva_cons ha eva_nil) fun _ _ _ sz ⟨v, r, e, h, e2⟩ _ q => by
    cases e2; cases e
    obtain ⟨p, vs, rfl, g, t, _⟩ := rdl sz h
    rw [t.bls] at g
    exact ⟨p, xs, rfl, SqL.of g, q _ _ _ (Step.refl sz) rfl⟩
def maxZ : List Int → Option Int
  | [] => none
  | x :: xs => some (xs.foldl max x)
def minZ : List Int → Option Int
  | [] => none
  | x :: xs => some (xs.foldl min x)
theorem foldl_max_of : ∀ (xs : List Int) (x m : Int), m ∈ x :: xs → (∀ y ∈ x :: xs, y ≤ m) → m = xs.foldl max x
  | [], x, m, h, _ => by simpa using h
  | y :: r, x, m, h, g => by
    refine foldl_max_of r (max x y) m ?_ (fun z hz => ?_)
    · have hx := g x (by simp)
      have hy := g y (by simp)
      rcases List.mem_cons.mp h with e | h
      · have : max x y = m := by omega
        rw [this]; exact List.mem_cons_self
      · rcases List.mem_cons.mp h with e | h
        · have : max x y = m := by omega
          rw [this]; exact List.mem_cons_self
        · exact List.mem_cons_of_mem _ h
    · rcases List.mem_cons.mp hz with e | hz
      · have hx := g x (by simp)
        have hy := g y (by simp)
        omega
      · exact g z (by simp [hz])
theorem foldl_min_of : ∀ (xs : List Int) (x m : Int), m ∈ x :: xs → (∀ y ∈ x :: xs, m ≤ y) → m = xs.foldl min x
  | [], x, m, h, _ => by simpa using h
  | y :: r, x, m, h, g => by
    refine foldl_min_of r (min x y) m ?_ (fun z hz => ?_)
    · have hx := g x (by simp)
      have hy := g y (by simp)
      rcases List.mem_cons.mp h with e | h
      · have : min x y = m := by omega
        rw [this]; exact List.mem_cons_self
      · rcases List.mem_cons.mp h with e | h
        · have : min x y = m := by omega
          rw [this]; exact List.mem_cons_self
        · exact List.mem_cons_of_mem _ h
    · rcases List.mem_cons.mp hz with e | hz
      · have hx := g x (by simp)
        have hy := g y (by simp)
        omega
      · exact g z (by simp [hz])
theorem ev_maxL {xs : List Int} {m : Int} (ha : Ev M ta σ Z H s (li yInt xs) s1) (e : maxZ xs = some m) : Ev M (tCB (rMax K) (tCons ta tNil)) σ Z H s (ty yInt m) s1 :=
  ev_cb (eva_cons ha eva_nil) fun _ _ _ sz ⟨v, r, e1, h, e2⟩ _ q => by
    cases e2; cases e1
    obtain ⟨p, vs, rfl, g, t, _⟩ := rdl sz h
    rw [t.ints] at g
    cases xs with
    | nil => cases e
    | cons x r =>
      refine ⟨p, x :: r, rfl, SqL.of g, Nat.succ_pos _, fun n hn hg => q _ _ _ (Step.refl sz) ?_⟩
      rw [foldl_max_of r x n hn hg, ← Option.some.inj (e : some (r.foldl max x) = some m)]
      rfl
theorem ev_minL {xs : List Int} {m : Int} (ha : Ev M ta σ Z H s (li yInt xs) s1) (e : minZ xs = some m) : Ev M (tCB (rMin K) (tCons ta tNil)) σ Z H s (ty yInt m) s1 :=
  ev_cb (eva_cons ha eva_nil) fun _ _ _ sz ⟨v, r, e1, h, e2⟩ _ q => by
    cases e2; cases e1
    obtain ⟨p, vs, rfl, g, t, _⟩ := rdl sz h
    rw [t.ints] at g
    cases xs with
    | nil => cases e
    | cons x r =>
      refine ⟨p, x :: r, rfl, SqL.of g, Nat.succ_pos _, fun n hn hg => q _ _ _ (Step.refl sz) ?_⟩
      rw [foldl_min_of r x n hn hg, ← Option.some.inj (e : some (r.foldl min x) = some m)]
      rfl
theorem ev_max2 {i j : Int} (ha : Ev M ta σ Z H s (ty yInt i) s1) (hb : Ev M tb σ Z H s1 (ty yInt j) s2) : Ev M (tCB (fun xs H Q => ∃ i j, xs = [.int i, .int j] ∧ Q (.int (if j > i then j else i)) H) (tCons ta (tCons tb tNil))) σ Z H s (ty yInt (max i j)) s2 :=
  ev_cb (eva_cons ha (eva_cons hb eva_nil)) fun _ _ _ sz ⟨v, r, e1, h, w, r2, e2, h2, e3⟩ _ q => by
    cases e3; cases e2; cases e1; cases h; cases h2
    refine ⟨i, j, rfl, q _ _ _ (Step.refl sz) ?_⟩
    show V.int _ = V.int _
    by_cases c : j > i
    · rw [if_pos c, Int.max_eq_right (by omega)]
    · rw [if_neg c, Int.max_eq_left (by omega)]
theorem ev_min2 {i j : Int} (ha : Ev M ta σ Z H s (ty yInt i) s1) (hb : Ev M tb σ Z H s1 (ty yInt j) s2) : Ev M (tCB (fun xs H Q => ∃ i j, xs = [.int i, .int j] ∧ Q (.int (if j < i then j else i)) H) (tCons ta (tCons tb tNil))) σ Z H s (ty yInt (min i j)) s2 :=
  ev_cb (eva_cons ha (eva_cons hb eva_nil)) fun _ _ _ sz ⟨v, r, e1, h, w, r2, e2, h2, e3⟩ _ q => by
    cases e3; cases e2; cases e1; cases h; cases h2
    refine ⟨i, j, rfl, q _ _ _ (Step.refl sz) ?_⟩
    show V.int _ = V.int _
    by_cases c : j < i
    · rw [if_pos c, Int.min_eq_right (by omega)]
    · rw [if_neg c, Int.min_eq_left (by omega)]
theorem ev_int_of {i : Int} (ha : Ev M ta σ Z H s (ty yInt i) s1) : Ev M (tCB (fun xs H Q => (∃ i, xs = [.int i] ∧ Q (.int i) H) ∨ ∃ k, xs = [.bl k] ∧ Q (.int (if k then 1 else 0)) H) (tCons ta tNil)) σ Z H s (ty yInt i) s1 :=
  ev_cb (eva_cons ha eva_nil) fun _ _ _ sz ⟨v, r, e1, h, e2⟩ _ q => by
    cases e2; cases e1; cases h
    exact .inl ⟨i, rfl, q _ _ _ (Step.refl sz) rfl⟩
/-! ### in -/
/-- flat, and its equality is the thing's -/
structure FlatI {α : Type} (τ : Ty α) (f : α → V) : Prop where
  flat : Flat τ f
  fl : ∀ x, flatV (f x) = true
  eqv : ∀ x y, eqV (f x) (f y) = true ↔ x = y
theorem fi_int : FlatI yInt V.int := ⟨flat_int, fun _ => rfl, fun x y => by show (x == y) = true ↔ _; exact beq_iff_eq⟩
theorem fi_str : FlatI yStr V.str := ⟨flat_str, fun _ => rfl, fun x y => by show (x == y) = true ↔ _; exact beq_iff_eq⟩
theorem fi_bool : FlatI yBool V.bl := ⟨flat_bool, fun _ => rfl, fun x y => by show (x == y) = true ↔ _; exact beq_iff_eq⟩
section
variable {α : Type} [DecidableEq α] {τ : Ty α} {f : α → V} {x : α} {xs : List α}
theorem inV_map (F : FlatI τ f) : inV (f x) (xs.map f) = decide (x ∈ xs) := by
  unfold inV
  rw [List.any_map]
  apply Bool.eq_iff_iff.mpr
  rw [List.any_eq_true, decide_eq_true_iff]
  constructor
  · rintro ⟨y, hy, e⟩
    rw [← (F.eqv y x).mp e]; exact hy
  · exact fun h => ⟨x, h, (F.eqv x x).mpr rfl⟩
theorem flat_map (F : FlatI τ f) : (xs.map f).all flatV = true := by
  rw [List.all_map]
  exact List.all_eq_true.mpr fun y _ => F.fl y
theorem ev_in (F : FlatI τ f) (ha : Ev M ta σ Z H s (ty τ x) s1) (hb : Ev M tb σ Z H s1 (li τ xs) s2) : Ev M (tOp (rIn K false) ta tb) σ Z H s (ty yBool (decide (x ∈ xs))) s2 :=
  ev_op ha hb fun _ _ _ _ sz e1 e2 _ q => by
    obtain ⟨p, vs, rfl, g, t, _⟩ := rdl sz e2
    have ev := t.map (F.flat.eq _); subst ev
    rw [F.flat.eq _ _ _ e1]
    exact ⟨p, _, rfl, .inl (SqL.of g), F.fl x, flat_map F, q _ _ _ (Step.refl sz) (congrArg V.bl (inV_map F))⟩
theorem ev_notin (F : FlatI τ f) (ha : Ev M ta σ Z H s (ty τ x) s1) (hb : Ev M tb σ Z H s1 (li τ xs) s2) : Ev M (tOp (rIn K true) ta tb) σ Z H s (ty yBool (!decide (x ∈ xs))) s2 :=
  ev_op ha hb fun _ _ _ _ sz e1 e2 _ q => by
    obtain ⟨p, vs, rfl, g, t, _⟩ := rdl sz e2
    have ev := t.map (F.flat.eq _); subst ev
    rw [F.flat.eq _ _ _ e1]
    exact ⟨p, _, rfl, .inl (SqL.of g), F.fl x, flat_map F, q _ _ _ (Step.refl sz) (congrArg (fun b => V.bl (!b)) (inV_map F))⟩
theorem ev_inT (F : FlatI τ f) (ha : Ev M ta σ Z H s (ty τ x) s1) (hb : Ev M tb σ Z H s1 (ty (yTup K τ) xs) s2) : Ev M (tOp (rIn K false) ta tb) σ Z H s (ty yBool (decide (x ∈ xs))) s2 :=
  ev_op ha hb fun _ _ _ _ sz e1 ⟨p, vs, e, g, t, _⟩ _ q => by
    subst e
    have ev := t.map (F.flat.eq _); subst ev
    rw [F.flat.eq _ _ _ e1]
    exact ⟨p, _, rfl, .inr (seqT_same sz g), F.fl x, flat_map F, q _ _ _ (Step.refl sz) (congrArg V.bl (inV_map F))⟩
theorem ev_notinT (F : FlatI τ f) (ha : Ev M ta σ Z H s (ty τ x) s1) (hb : Ev M tb σ Z H s1 (ty (yTup K τ) xs) s2) : Ev M (tOp (rIn K true) ta tb) σ Z H s (ty yBool (!decide (x ∈ xs))) s2 :=
  ev_op ha hb fun _ _ _ _ sz e1 ⟨p, vs, e, g, t, _⟩ _ q => by
    subst e
    have ev := t.map (F.flat.eq _); subst ev
    rw [F.flat.eq _ _ _ e1]
    exact ⟨p, _, rfl, .inr (seqT_same sz g), F.fl x, flat_map F, q _ _ _ (Step.refl sz) (congrArg (fun b => V.bl (!b)) (inV_map F))⟩
end
end
end TP

namespace TP
open PySem PySem.Spec PyProof.Rows L2
section
variable {μ : Type} {M : Mu μ} {σ : L2.St} {Z H : Hp} {s s' s1 s2 s3 : μ} {ta tb tc te : TE} {t : TA} {K : PySem.W.Frag}
/-! ### equality of data -/
structure EqD (K : PySem.W.Frag) {α : Type} (τ : Ty α) (d : α → PyData) (n : Nat) : Prop where
  dp : ∀ Z H v x, Same Z H → τ.r Z v x → Dp K H v (d x)
  lay : ∀ Z v x, τ.r Z v x → (d x).canLay0 = true
  dep : ∀ x, (d x).depth ≤ n
  eqv : ∀ x y, PyData.eqv (d x) (d y) = true ↔ x = y
theorem eqd_int : EqD K yInt PyData.int 0 := ⟨fun _ _ _ x _ h => by cases h; exact .int x, fun _ _ _ _ => rfl, fun _ => Nat.le_refl _, fun x y => by simp [PyData.eqv]⟩
theorem eqd_bool : EqD K yBool PyData.bool 0 := ⟨fun _ _ _ x _ h => by cases h; exact .bl x, fun _ _ _ _ => rfl, fun _ => Nat.le_refl _, fun x y => by simp [PyData.eqv]⟩
theorem eqd_str : EqD K yStr PyData.str 0 := ⟨fun _ _ _ x _ h => by rw [h.1]; exact .str x, fun _ _ x h => by
  have := (Bool.and_eq_true_iff.mp (show (PyData.strOk x && decide (x.length ≤ sizeLine)) = true from h.2)).1
  simpa [PyData.canLay0] using this, fun _ => Nat.le_refl _, fun x y => by simp [PyData.eqv]⟩
theorem eqd_non : EqD K yNon (fun _ => PyData.none) 0 := ⟨fun _ _ _ x _ h => by cases h; exact .non, fun _ _ _ _ => rfl, fun _ => Nat.le_refl _, fun x y => by simp [PyData.eqv]⟩
section
variable {α β γ δ : Type} {τ : Ty α} {υ : Ty β} {φ : Ty γ} {ψ : Ty δ} {d : α → PyData} {e : β → PyData} {f : γ → PyData} {g : δ → PyData} {n m k l : Nat}
theorem EqD.all (E : EqD K τ d n) {Z H : Hp} (sz : Same Z H) : ∀ {vs : List V} {xs : List α}, All (τ.r Z) vs xs → DpAll K H vs (xs.map d)
  | _, _, .nil => .nil
  | _, _, .cons h t => .cons (E.dp _ _ _ _ sz h) (E.all sz t)
theorem EqD.lays (E : EqD K τ d n) {Z : Hp} : ∀ {vs : List V} {xs : List α}, All (τ.r Z) vs xs → PyData.canLayAll0 (xs.map d) = true
  | _, _, .nil => by simp [PyData.canLayAll0]
  | _, _, .cons h t => by
    have h1 := E.lay _ _ _ h
    have h2 := E.lays t
    simp [PyData.canLayAll0, h1, h2]
theorem EqD.deps (E : EqD K τ d n) : ∀ xs : List α, PyData.depthAll (xs.map d) ≤ n
  | [] => by simp [PyData.depthAll]
  | x :: r => by
    have h1 := E.dep x
    have h2 := E.deps r
    simp only [List.map_cons, PyData.depthAll]
    omega
theorem EqD.eqvs (E : EqD K τ d n) : ∀ xs ys : List α, PyData.eqvAll (xs.map d) (ys.map d) = true ↔ xs = ys
  | [], [] => by simp [PyData.eqvAll]
  | [], _ :: _ => by simp [PyData.eqvAll]
  | _ :: _, [] => by simp [PyData.eqvAll]
  | x :: xs, y :: ys => by
    simp only [List.map_cons, PyData.eqvAll, Bool.and_eq_true, E.eqv x y, E.eqvs xs ys, List.cons.injEq]
theorem eqd_list (E : EqD K τ d n) : EqD K (yList τ) (fun xs => .list (xs.map d)) (n + 1) where
  dp := fun Z H v x sz ⟨a, vs, e, h, t, _⟩ => by subst e; exact .lst (SqL.of (sz _ _ h)) (E.all sz t)
  lay := fun Z v x ⟨a, vs, e, h, t, _⟩ => by simpa [PyData.canLay0] using E.lays t
  dep := fun x => by have := E.deps x; simp only [PyData.depth]; omega
  eqv := fun x y => by simp only [PyData.eqv]; exact E.eqvs x y
theorem eqd_tup (E : EqD K τ d n) : EqD K (yTup K τ) (fun xs => .tuple (xs.map d)) (n + 1) where
  dp := fun Z H v x sz ⟨a, vs, e, h, t, _⟩ => by subst e; exact .tup (seqT_same sz h) (E.all sz t)
  lay := fun Z v x ⟨a, vs, e, h, t, _⟩ => by simpa [PyData.canLay0] using E.lays t
  dep := fun x => by have := E.deps x; simp only [PyData.depth]; omega
  eqv := fun x y => by simp only [PyData.eqv]; exact E.eqvs x y
theorem eqd_p1 (E : EqD K τ d n) : EqD K (yP1 K τ) (fun x => .tuple [d x]) (n + 1) where
  dp := fun Z H v x sz ⟨a, v1, e, h, h1⟩ => by subst e; exact .tup (seqT_same sz h) (.cons (E.dp _ _ _ _ sz h1) .nil)
  lay := fun Z v x ⟨a, v1, e, h, h1⟩ => by simp [PyData.canLay0, PyData.canLayAll0, E.lay _ _ _ h1]
  dep := fun x => by have := E.dep x; simp only [PyData.depth, PyData.depthAll]; omega
  eqv := fun x y => by simp only [PyData.eqv, PyData.eqvAll, Bool.and_true]; exact E.eqv x y
theorem eqd_p2 (E : EqD K τ d n) (F : EqD K υ e m) : EqD K (yP2 K τ υ) (fun x => .tuple [d x.1, e x.2]) (max n m + 1) where
  dp := fun Z H v x sz ⟨a, v1, v2, e, h, h1, h2⟩ => by subst e; exact .tup (seqT_same sz h) (.cons (E.dp _ _ _ _ sz h1) (.cons (F.dp _ _ _ _ sz h2) .nil))
  lay := fun Z v x ⟨a, v1, v2, e, h, h1, h2⟩ => by simp [PyData.canLay0, PyData.canLayAll0, E.lay _ _ _ h1, F.lay _ _ _ h2]
  dep := fun x => by have := E.dep x.1; have := F.dep x.2; simp only [PyData.depth, PyData.depthAll]; omega
  eqv := fun x y => by
    simp only [PyData.eqv, PyData.eqvAll, Bool.and_true, Bool.and_eq_true, E.eqv, F.eqv]
    exact Prod.ext_iff.symm
theorem eqd_p3 (E : EqD K τ d n) (F : EqD K υ e m) (G : EqD K φ f k) : EqD K (yP3 K τ υ φ) (fun x => .tuple [d x.1, e x.2.1, f x.2.2]) (max n (max m k) + 1) where
  dp := fun Z H v x sz ⟨a, v1, v2, v3, e, h, h1, h2, h3⟩ => by subst e; exact .tup (seqT_same sz h) (.cons (E.dp _ _ _ _ sz h1) (.cons (F.dp _ _ _ _ sz h2) (.cons (G.dp _ _ _ _ sz h3) .nil)))
  lay := fun Z v x ⟨a, v1, v2, v3, e, h, h1, h2, h3⟩ => by simp [PyData.canLay0, PyData.canLayAll0, E.lay _ _ _ h1, F.lay _ _ _ h2, G.lay _ _ _ h3]
  dep := fun x => by have := E.dep x.1; have := F.dep x.2.1; have := G.dep x.2.2; simp only [PyData.depth, PyData.depthAll]; omega
  eqv := fun x y => by
    simp only [PyData.eqv, PyData.eqvAll, Bool.and_true, Bool.and_eq_true, E.eqv, F.eqv, G.eqv]
    rw [Prod.ext_iff, Prod.ext_iff]
theorem eqd_p4 (E : EqD K τ d n) (F : EqD K υ e m) (G : EqD K φ f k) (I : EqD K ψ g l) : EqD K (yP4 K τ υ φ ψ) (fun x => .tuple [d x.1, e x.2.1, f x.2.2.1, g x.2.2.2]) (max n (max m (max k l)) + 1) where
  dp := fun Z H v x sz ⟨a, v1, v2, v3, v4, e, h, h1, h2, h3, h4⟩ => by subst e; exact .tup (seqT_same sz h) (.cons (E.dp _ _ _ _ sz h1) (.cons (F.dp _ _ _ _ sz h2) (.cons (G.dp _ _ _ _ sz h3) (.cons (I.dp _ _ _ _ sz h4) .nil))))
  lay := fun Z v x ⟨a, v1, v2, v3, v4, e, h, h1, h2, h3, h4⟩ => by simp [PyData.canLay0, PyData.canLayAll0, E.lay _ _ _ h1, F.lay _ _ _ h2, G.lay _ _ _ h3, I.lay _ _ _ h4]
  dep := fun x => by have := E.dep x.1; have := F.dep x.2.1; have := G.dep x.2.2.1; have := I.dep x.2.2.2; simp only [PyData.depth, PyData.depthAll]; omega
  eqv := fun x y => by
    simp only [PyData.eqv, PyData.eqvAll, Bool.and_true, Bool.and_eq_true, E.eqv, F.eqv, G.eqv, I.eqv]
    rw [Prod.ext_iff, Prod.ext_iff, Prod.ext_iff]
def optD (d : α → PyData) : Option α → PyData
  | none => .none
  | some x => d x
theorem eqv_none : ∀ c : PyData, PyData.eqv .none c = true ↔ c = .none
  | .none => by simp [PyData.eqv]
  | .bool _ => by simp [PyData.eqv]
  | .int _ => by simp [PyData.eqv]
  | .str _ => by simp [PyData.eqv]
  | .list _ => by simp [PyData.eqv]
  | .tuple _ => by simp [PyData.eqv]
  | .dict _ => by simp [PyData.eqv]
theorem none_eqv : ∀ c : PyData, PyData.eqv c .none = true ↔ c = .none
  | .none => by simp [PyData.eqv]
  | .bool _ => by simp [PyData.eqv]
  | .int _ => by simp [PyData.eqv]
  | .str _ => by simp [PyData.eqv]
  | .list _ => by simp [PyData.eqv]
  | .tuple _ => by simp [PyData.eqv]
  | .dict _ => by simp [PyData.eqv]
theorem eqd_opt (E : EqD K τ d n) (nn : ∀ x, d x ≠ .none) : EqD K (yOpt τ) (optD d) n where
  dp := fun Z H v x sz h => match x, h with
    | none, h => by rw [show v = .non from h]; exact .non
    | some x, h => E.dp _ _ _ _ sz h.1
  lay := fun Z v x h => match x, h with
    | none, h => rfl
    | some x, h => E.lay _ _ _ h.1
  dep := fun x => match x with
    | none => Nat.zero_le _
    | some x => E.dep x
  eqv := fun x y => match x, y with
    | none, none => by simp [optD, PyData.eqv]
    | none, some y => by simp [optD, eqv_none, nn y]
    | some x, none => by simp [optD, none_eqv, nn x]
    | some x, some y => by simp [optD, E.eqv x y]
end
/-- the value is read as the data d -/
def GD {fp : List Addr} (K : PySem.W.Frag) (R : Rr fp) (d : PyData) : Prop := ∀ Z H v, Same Z H → R.r Z H v → Dp K H v d ∧ d.canLay0 = true
theorem EqD.gd {fp : List Addr} {α : Type} {τ : Ty α} {d : α → PyData} {n : Nat} (E : EqD K τ d n) (x : α) : GD K (ty (fp := fp) τ x) (d x) := fun _ _ _ sz h => ⟨E.dp _ _ _ _ sz h, E.lay _ _ _ h⟩
theorem EqD.gdl {fp : List Addr} {α : Type} {τ : Ty α} {d : α → PyData} {n : Nat} (E : EqD K τ d n) (xs : List α) : GD K (li (fp := fp) τ xs) (.list (xs.map d)) := fun _ _ _ sz h => by
  obtain ⟨p, vs, rfl, g, t, _⟩ := rdl sz h
  exact ⟨.lst (SqL.of g) (E.all sz t), by simpa [PyData.canLay0] using E.lays t⟩
theorem shaped_of {d : PyData} {n : Nat} (h : d.canLay0 = true) (l : d.depth ≤ n) (hn : n ≤ 64) : SeqAt.shaped d = true := by
  unfold SeqAt.shaped
  rw [h, Bool.true_and]
  exact decide_eq_true (by omega)
theorem ev_eqG {R R' : Rr M.fp} {c c' : PyData} {P : Prop} [Decidable P] (hc : PyData.eqv c c' = true ↔ P) (G : GD K R c) (G' : GD K R' c') (l : c.depth ≤ 64) (l' : c'.depth ≤ 64) (ha : Ev M ta σ Z H s R s1) (hb : Ev M tb σ Z H s1 R' s2) : Ev M (tOp (rEqD K) ta tb) σ Z H s (ty yBool (decide P)) s2 :=
  ev_op ha hb fun _ _ _ _ sz e1 e2 _ q => by
    obtain ⟨d1, k1⟩ := G _ _ _ sz e1
    obtain ⟨d2, k2⟩ := G' _ _ _ sz e2
    exact ⟨c, c', d1, d2, shaped_of k1 l (Nat.le_refl _), shaped_of k2 l' (Nat.le_refl _), q _ _ _ (Step.refl sz) (congrArg V.bl (Bool.eq_iff_iff.mpr (hc.trans decide_eq_true_iff.symm)))⟩
theorem ev_neG {R R' : Rr M.fp} {c c' : PyData} {P : Prop} [Decidable P] (hc : PyData.eqv c c' = true ↔ P) (G : GD K R c) (G' : GD K R' c') (l : c.depth ≤ 64) (l' : c'.depth ≤ 64) (ha : Ev M ta σ Z H s R s1) (hb : Ev M tb σ Z H s1 R' s2) : Ev M (tOp (rNeD K) ta tb) σ Z H s (ty yBool (!decide P)) s2 :=
  ev_op ha hb fun _ _ _ _ sz e1 e2 _ q => by
    obtain ⟨d1, k1⟩ := G _ _ _ sz e1
    obtain ⟨d2, k2⟩ := G' _ _ _ sz e2
    exact ⟨c, c', d1, d2, shaped_of k1 l (Nat.le_refl _), shaped_of k2 l' (Nat.le_refl _), q _ _ _ (Step.refl sz) (congrArg (fun b => V.bl (!b)) (Bool.eq_iff_iff.mpr (hc.trans decide_eq_true_iff.symm)))⟩
section
variable {α : Type} [DecidableEq α] {τ : Ty α} {d : α → PyData} {n : Nat} {x y : α} {xs ys : List α}
theorem ev_eqD (E : EqD K τ d n) (hn : n ≤ 64) (ha : Ev M ta σ Z H s (ty τ x) s1) (hb : Ev M tb σ Z H s1 (ty τ y) s2) : Ev M (tOp (rEqD K) ta tb) σ Z H s (ty yBool (decide (x = y))) s2 :=
  ev_eqG (E.eqv x y) (E.gd x) (E.gd y) (Nat.le_trans (E.dep x) hn) (Nat.le_trans (E.dep y) hn) ha hb
theorem ev_neD (E : EqD K τ d n) (hn : n ≤ 64) (ha : Ev M ta σ Z H s (ty τ x) s1) (hb : Ev M tb σ Z H s1 (ty τ y) s2) : Ev M (tOp (rNeD K) ta tb) σ Z H s (ty yBool (!decide (x = y))) s2 :=
  ev_neG (E.eqv x y) (E.gd x) (E.gd y) (Nat.le_trans (E.dep x) hn) (Nat.le_trans (E.dep y) hn) ha hb
theorem depL (E : EqD K τ d n) (hn : n + 1 ≤ 64) : (PyData.list (xs.map d)).depth ≤ 64 := by have := E.deps xs; simp only [PyData.depth]; omega
theorem ev_eqL (E : EqD K τ d n) (hn : n + 1 ≤ 64) (ha : Ev M ta σ Z H s (li τ xs) s1) (hb : Ev M tb σ Z H s1 (li τ ys) s2) : Ev M (tOp (rEqD K) ta tb) σ Z H s (ty yBool (decide (xs = ys))) s2 :=
  ev_eqG (by simp only [PyData.eqv]; exact E.eqvs xs ys) (E.gdl xs) (E.gdl ys) (depL E hn) (depL E hn) ha hb
theorem ev_neL (E : EqD K τ d n) (hn : n + 1 ≤ 64) (ha : Ev M ta σ Z H s (li τ xs) s1) (hb : Ev M tb σ Z H s1 (li τ ys) s2) : Ev M (tOp (rNeD K) ta tb) σ Z H s (ty yBool (!decide (xs = ys))) s2 :=
  ev_neG (by simp only [PyData.eqv]; exact E.eqvs xs ys) (E.gdl xs) (E.gdl ys) (depL E hn) (depL E hn) ha hb
end
theorem en_cast {α : Type} {τ : Ty α} {xs ys : List α} (h : EvN M te σ Z H s τ xs s1) (e : xs = ys) : EvN M te σ Z H s τ ys s1 := e ▸ h
theorem ev_chain {i j k : Int} {p r : Int → Int → Bool} (ha : Ev M ta σ Z H s (ty yInt i) s1) (hb : Ev M tb σ Z H s1 (ty yInt j) s1) (hc : Ev M tc σ Z H s1 (ty yInt k) s1) : Ev M (tChain (rI0 fun i j => .bl (p i j)) (rI0 fun i j => .bl (r i j)) ta tb tc) σ Z H s (ty yBool (p i j && r j k)) s1 :=
  fun Z1 H1 a b c d Q q => ha Z1 H1 a b c d _ fun v Z2 H2 e m rv => hb Z2 H2 (a.trans e.z) (b.trans e.h) e.s m _ fun w Z3 H3 e2 m2 rw => ⟨i, j, rv, rw, p i j, rfl, by
    have e3 := e.trans e2
    cases hp : p i j with
    | true => rw [if_pos rfl]; exact hc Z3 H3 (a.trans e3.z) (b.trans e3.h) e3.s m2 _ fun u Z4 H4 e4 m4 ru => ⟨j, k, rw, ru, q _ Z4 H4 (e3.trans e4) m4 (by rw [hp]; rfl)⟩
    | false => rw [if_neg Bool.false_ne_true]; exact q _ Z3 H3 e3 m2 (by rw [hp]; rfl)⟩
theorem ev_chainO {i j k : Int} {b : Bool} {o : Option Bool} {p r : Int → Int → Bool} (ha : Ev M ta σ Z H s (ty yInt i) s1) (hb : Ev M tb σ Z H s1 (ty yInt j) s1) (hc : p i j = true → Ev M tc σ Z H s1 (ty yInt k) s1) : Ev M (tChain (rI0 fun i j => .bl (p i j)) (rI0 fun i j => .bl (r i j)) ta tb tc) σ Z H s (ty yBool (p i j && r j k)) s1 :=
  fun Z1 H1 a b c d Q q => ha Z1 H1 a b c d _ fun v Z2 H2 e m rv => hb Z2 H2 (a.trans e.z) (b.trans e.h) e.s m _ fun w Z3 H3 e2 m2 rw => ⟨i, j, rv, rw, p i j, rfl, by
    have e3 := e.trans e2
    cases hp : p i j with
    | true => rw [if_pos rfl]; exact hc hp Z3 H3 (a.trans e3.z) (b.trans e3.h) e3.s m2 _ fun u Z4 H4 e4 m4 ru => ⟨j, k, rw, ru, q _ Z4 H4 (e3.trans e4) m4 (by rw [hp]; rfl)⟩
    | false => rw [if_neg Bool.false_ne_true]; exact q _ Z3 H3 e3 m2 (by rw [hp]; rfl)⟩
section
variable {a b : Bool} {o o' : Option Bool} {tA tB' tt : TT}
theorem ev_andO (ha : Ev M ta σ Z H s (ty yBool a) s1) (hb : a = true → ∀ y, o = some y → Ev M tb σ Z H s1 (ty yBool y) s1) (h : (if a = true then o else some false) = some b) : Ev M (tAndV ta tb) σ Z H s (ty yBool b) s1 :=
  ev_and (o := o.map fun y => (y, s1)) ha (fun e y s' hy => by obtain ⟨z, hz, e2⟩ := Option.map_eq_some_iff.mp hy; cases e2; exact hb e _ hz) (by
    cases a with
    | true => rw [if_pos rfl] at h ⊢; rw [h]; rfl
    | false => rw [if_neg Bool.false_ne_true] at h ⊢; rw [← Option.some.inj h])
theorem ev_orO (ha : Ev M ta σ Z H s (ty yBool a) s1) (hb : a = false → ∀ y, o = some y → Ev M tb σ Z H s1 (ty yBool y) s1) (h : (if a = true then some true else o) = some b) : Ev M (tOrV ta tb) σ Z H s (ty yBool b) s1 :=
  ev_or (o := o.map fun y => (y, s1)) ha (fun e y s' hy => by obtain ⟨z, hz, e2⟩ := Option.map_eq_some_iff.mp hy; cases e2; exact hb e _ hz) (by
    cases a with
    | false => rw [if_neg Bool.false_ne_true] at h ⊢; rw [h]; rfl
    | true => rw [if_pos rfl] at h ⊢; rw [← Option.some.inj h])
theorem et_andO (ha : EvT M tA σ Z H s a s1) (hb : a = true → ∀ y, o = some y → EvT M tB' σ Z H s1 y s1) (h : (if a = true then o else some false) = some b) : EvT M (tAnd tA tB') σ Z H s b s1 :=
  et_and (o := o.map fun y => (y, s1)) ha (fun e y s' hy => by obtain ⟨z, hz, e2⟩ := Option.map_eq_some_iff.mp hy; cases e2; exact hb e _ hz) (by
    cases a with
    | true => rw [if_pos rfl] at h ⊢; rw [h]; rfl
    | false => rw [if_neg Bool.false_ne_true] at h ⊢; rw [← Option.some.inj h])
theorem et_orO (ha : EvT M tA σ Z H s a s1) (hb : a = false → ∀ y, o = some y → EvT M tB' σ Z H s1 y s1) (h : (if a = true then some true else o) = some b) : EvT M (tOr tA tB') σ Z H s b s1 :=
  et_or (o := o.map fun y => (y, s1)) ha (fun e y s' hy => by obtain ⟨z, hz, e2⟩ := Option.map_eq_some_iff.mp hy; cases e2; exact hb e _ hz) (by
    cases a with
    | false => rw [if_neg Bool.false_ne_true] at h ⊢; rw [h]; rfl
    | true => rw [if_pos rfl] at h ⊢; rw [← Option.some.inj h])
end
/-! ### fields, calls -/
/-- the attribute f of things of this kind -/
def FldOf {α β : Type} (τ : Ty α) (C : Addr) (f : Str) (υ : Ty β) (pr : α → β) : Prop := ∀ Z v x, τ.r Z v x → ∃ a dx fs w, v = .ref a ∧ Z a = some (.ins C dx fs) ∧ fs.lookup f = some w ∧ υ.r Z w (pr x)
theorem ev_fld {α β : Type} {τ : Ty α} {υ : Ty β} {C : Addr} {f : Str} {pr : α → β} {x : α} (F : FldOf τ C f υ pr) (c : Cls K C) (n : NoAttr K C f) (ha : Ev M ta σ Z H s (ty τ x) s1) : Ev M (tFld K ta f) σ Z H s (ty υ (pr x)) s1 :=
  fun Z1 H1 a b c' d Q q => ha Z1 H1 a b c' d _ fun v Z2 H2 e m rv => by
    obtain ⟨p, dx, fs, w, rfl, hp, l, rw'⟩ := F _ _ _ rv
    exact ⟨p, C, dx, fs, w, rfl, e.s _ _ hp, c, n, l, q _ _ _ e m rw'⟩
/-- things of this kind are instances of the class at C without an own attribute m -/
def ObjOf {α : Type} (τ : Ty α) (C : Addr) (m : Str) : Prop := ∀ Z v x, τ.r Z v x → ∃ a dx fs, v = .ref a ∧ Z a = some (.ins C dx fs) ∧ fs.lookup m = none
/-- what a promise gives for arguments of which Rs is true -/
def CallS (M : Mu μ) (sp : Sp) (E : XK) (Rs : Ra M.fp) (s : μ) (R : Rr M.fp) (s' : μ) : Prop :=
  ∀ Z H vs, Same Z H → M.m s Z H → Rs.r Z H vs → ∀ Q : VK, (∀ v Z2 H2, Step M.fp Z H Z2 H2 → M.m s' Z2 H2 → R.r Z2 H2 v → Q v H2) → sp vs H Q E
theorem ev_call {sp : Sp} {E : XK} {Rs : Ra M.fp} {R : Rr M.fp} (C : CallS M sp E Rs s1 R s2) (ha : EvA M t σ Z H s Rs s1) : Ev M (tCall sp [] E t) σ Z H s R s2 :=
  fun Z1 H1 a b c d Q q => ha Z1 H1 a b c d _ fun vs Z2 H2 e m rs => by
    rw [List.append_nil]
    exact C Z2 H2 vs e.s m rs Q fun v Z3 H3 e2 m2 rv => q v Z3 H3 (e.trans e2) m2 rv
theorem ev_meth {α : Type} {τ : Ty α} {x : α} {C' : Addr} {m : Str} {sp : Sp} {E : XK} {Rs : Ra M.fp} {R : Rr M.fp} (O : ObjOf τ C' m) (C : CallS M sp E (rac (ty τ x) Rs) s2 R s3) (hx : Ev M ta σ Z H s (ty τ x) s1) (ha : EvA M t σ Z H s1 Rs s2) : Ev M (tMeth C' m sp [] E ta t) σ Z H s R s3 :=
  fun Z1 H1 a b c d Q q => hx Z1 H1 a b c d _ fun v Z2 H2 e mm rv => by
    obtain ⟨p, dx, fs, rfl, hp, l⟩ := O _ _ _ rv
    refine ⟨p, dx, fs, rfl, e.s _ _ hp, l, ha Z2 H2 (a.trans e.z) (b.trans e.h) e.s mm _ fun vs Z3 H3 e2 m2 rs => ?_⟩
    rw [List.append_nil]
    exact C Z3 H3 _ e2.s m2 ⟨_, vs, rfl, τ.mono e2.z rv, rs⟩ Q fun v Z4 H4 e3 m3 rv' => q v Z4 H4 ((e.trans e2).trans e3) m3 rv'
theorem ev_meth0 {α : Type} {τ : Ty α} {x : α} {C' : Addr} {m : Str} {sp : Sp} {E : XK} {R : Rr M.fp} (O : ObjOf τ C' m) (C : CallS M sp E (rac (ty τ x) ra0) s1 R s2) (hx : Ev M ta σ Z H s (ty τ x) s1) : Ev M (tMeth C' m sp [] E ta tNil) σ Z H s R s2 := ev_meth O C hx eva_nil
theorem ev_prop {α : Type} {τ : Ty α} {x : α} {C' : Addr} {m : Str} {sp : Sp} {E : XK} {R : Rr M.fp} (O : ObjOf τ C' m) (C : CallS M sp E (rac (ty τ x) ra0) s1 R s2) (hx : Ev M ta σ Z H s (ty τ x) s1) : Ev M (tProp C' sp [] E ta) σ Z H s R s2 :=
  fun Z1 H1 a b c d Q q => hx Z1 H1 a b c d _ fun v Z2 H2 e mm rv => by
    obtain ⟨p, dx, fs, rfl, hp, l⟩ := O _ _ _ rv
    exact ⟨p, dx, fs, rfl, e.s _ _ hp, C Z2 H2 _ e.s mm ⟨_, [], rfl, rv, rfl⟩ Q fun v Z4 H4 e3 m3 rv' => q v Z4 H4 (e.trans e3) m3 rv'⟩
/-- what the __init__ of the class at C makes of a new instance: a thing of which R is true -/
def InitS (M : Mu μ) (C : Addr) (sp : Sp) (E : XK) (Rs : Ra M.fp) (s : μ) (R : Rr M.fp) (s' : μ) : Prop :=
  ∀ Z H vs x dx, Same Z H → M.m s Z H → Rs.r Z H vs → H x = some (.ins C dx []) → Z x = none → x ∉ M.fp → ∀ Q : VK, (∀ Z2 H2 o, Step (x :: M.fp) Z H Z2 H2 → M.m s' Z2 H2 → H2 x = some o → R.r (upd Z2 x o) H2 (.ref x) → Q .non H2) → sp (.ref x :: vs) H Q E
theorem Step.dict {Z H : Hp} {x dx C : Addr} (sz : Same Z H) (hx : H x = none) (hd : H dx = none) (ne : dx ≠ x) : Step [] Z H Z (upd (upd H dx (.own x)) x (.ins C dx [])) :=
  (Step.own sz hd).trans (Step.own (Step.own sz hd).s (by rw [upd_ne ne.symm]; exact hx))
theorem Step.freeze {S : List Addr} {Z H Z1 H1 : Hp} {x : Addr} {o : HO} (g : Step (x :: S) Z H Z1 H1) (hx : H x = none) (h1 : H1 x = some o) (hz : Z1 x = none) : Step S Z H (upd Z1 x o) H1 := by
  have g' : Step S Z H Z1 H1 := g.weak fun a h => by
    rcases List.mem_cons.mp h with e | h
    · exact .inr (e ▸ hx)
    · exact .inl h
  refine ⟨g'.z.trans (same_upd hz), fun a u e => ?_, g'.h, fun a h z => ?_, g'.al⟩
  · by_cases q : a = x
    · subst q; rw [upd_same] at e; rw [← Option.some.inj e]; exact h1
    · rw [upd_ne q] at e; exact g'.s a u e
  · rw [upd_ne (ne_of_some h hx)]; exact g'.n a h z
theorem ev_make {C : Addr} {sp : Sp} {E : XK} {Rs : Ra M.fp} {R : Rr M.fp} (I : InitS M C sp E Rs s1 R s2) (ha : EvA M t σ Z H s Rs s1) : Ev M (tMake C sp [] E t) σ Z H s R s2 :=
  fun Z1 H1 a b c d Q q => ha Z1 H1 a b c d _ fun vs Z2 H2 e m rs x dx hx hd ne => by
    rw [List.append_nil]
    have st := Step.dict (C := C) e.s hx hd ne
    have nf : x ∉ M.fp := fun h => (M.al m x h).1 hx
    refine I Z2 _ vs x dx st.s (M.pure st m) (Rs.st st.pure rs) upd_same (same_none e.s hx) nf _ fun Z3 H3 o e2 m2 ho rv => ⟨rfl, ?_⟩
    have hz3 : Z3 x = none := e2.n x (by rw [upd_same]; exact fun z => nomatch z) (same_none e.s hx)
    have e3 : Step M.fp Z2 H2 (upd Z3 x o) H3 := ((st.pure (S := x :: M.fp)).trans e2).freeze hx ho hz3
    refine q _ _ _ (e.trans e3) (M.loc (same_upd hz3) (fun _ _ _ e => e) (fun a ha _ z => ?_) m2) rv
    rw [upd_ne (fun q => nf (by rw [← q]; exact ha))]
    exact z
theorem ev_makeK {C : Addr} {n k : Nat} {sp : Sp} {E : XK} {Rs Rk Rs' : Ra M.fp} {R : Rr M.fp} {gV : List V → List V → List V} {tk : TA} (I : InitS M C sp E Rs' s2 R s3) (ha : EvA M t σ Z H s Rs s1) (hk : EvA M tk σ Z H s1 Rk s2)
    (hg : ∀ Z H vs zs x, Rs.r Z H vs → Rk.r Z H zs → vs.length = n ∧ zs.length = k ∧ ∃ ws, gV (.ref x :: vs) zs = .ref x :: ws ∧ Rs'.r Z H ws) : Ev M (tMakeK C n k sp gV E t tk) σ Z H s R s3 :=
  fun Z1 H1 a b c d Q q => ha Z1 H1 a b c d _ fun vs Z2 H2 e m rs => hk Z2 H2 (a.trans e.z) (b.trans e.h) e.s m _ fun zs Z3 H3 e1 m1 rk => by
    have rs3 := Rs.st e1 rs
    obtain ⟨l1, l2, _⟩ := hg Z3 H3 vs zs 0 rs3 rk
    refine ⟨l1, l2, fun x dx hx hd ne => ?_⟩
    obtain ⟨_, _, ws, eg, rw'⟩ := hg Z3 H3 vs zs x rs3 rk
    rw [eg]
    have st := Step.dict (C := C) e1.s hx hd ne
    have nf : x ∉ M.fp := fun h => (M.al m1 x h).1 hx
    refine I Z3 _ ws x dx st.s (M.pure st m1) (Rs'.st st.pure rw') upd_same (same_none e1.s hx) nf _ fun Z4 H4 o e2 m2 ho rv => ⟨rfl, ?_⟩
    have hz3 : Z4 x = none := e2.n x (by rw [upd_same]; exact fun z => nomatch z) (same_none e1.s hx)
    have e3 : Step M.fp Z3 H3 (upd Z4 x o) H4 := ((st.pure (S := x :: M.fp)).trans e2).freeze hx ho hz3
    refine q _ _ _ ((e.trans e1).trans e3) (M.loc (same_upd hz3) (fun _ _ _ e => e) (fun a ha _ z => ?_) m2) rv
    rw [upd_ne (fun q => nf (by rw [← q]; exact ha))]
    exact z
/-! ### what is walked -/
/-- the things xs, of the kind τ, one after the other; what stands at F may change meanwhile -/
def WalkT {α : Type} (X : Hp → Hp → Prop) (J : It) (Z H : Hp) (τ : Ty α) (xs : List α) : Prop := xs.length ≤ sizeLine ∧ ∃ G Y, Walk J xs.length G Y ∧ (∀ Z' H', Same Z Z' → Same Z' H' → X H H' → G H') ∧
  ∀ i Z' H' v H'', i < xs.length → Same Z Z' → Same Z' H' → G H' → Y i H' v H'' → ∃ Z'' x, xs[i]? = some x ∧ Step [] Z' H' Z'' H'' ∧ τ.r Z'' v x
def EvI {α : Type} (M : Mu μ) (X : Hp → Hp → Prop) (wi : TI) (σ : L2.St) (Z H : Hp) (s : μ) (τ : Ty α) (xs : List α) (s' : μ) : Prop :=
  ∀ Z1 H1, Same Z Z1 → SameX M.fp H H1 → Same Z1 H1 → M.m s Z1 H1 → ∀ R : It → Hp → Prop, (∀ J Z2 H2, Step M.fp Z1 H1 Z2 H2 → M.m s' Z2 H2 → WalkT X J Z2 H2 τ xs → R J H2) → wi σ H1 R
section
variable {α β : Type} {τ : Ty α} {υ : Ty β} {xs : List α} {X : Hp → Hp → Prop}
theorem walk_at {J : It} {vs : List V} {G : Hp → Prop} (w : Walk J vs.length G (YAt vs)) {Z H : Hp} (hG : ∀ Z' H', Same Z Z' → Same Z' H' → X H H' → G H') (t : All (τ.r Z) vs xs) (l : xs.length ≤ sizeLine) : WalkT X J Z H τ xs := by
  refine ⟨l, G, YAt vs, by rw [← t.len]; exact w, hG, fun i Z' H' v H'' hi z sz _ y => ?_⟩
  obtain ⟨e, y⟩ := y
  subst e
  obtain ⟨x, ex, rx⟩ := t.get y
  exact ⟨Z', x, ex, Step.refl sz, τ.mono z rx⟩
theorem ei_list (ha : Ev M ta σ Z H s (ty (yList τ) xs) s1) : EvI M X (iList K ta) σ Z H s τ xs s1 :=
  fun Z1 H1 a b c d R q => ha Z1 H1 a b c d _ fun v Z2 H2 e m ⟨p, vs, ev, h, t, l⟩ => by
    subst ev
    exact ⟨p, rfl, ⟨vs, SqL.of (e.s _ _ h)⟩, q _ Z2 H2 e m (walk_at walk_list (fun Z' H' z sz _ => SqL.of (sz _ _ (z _ _ h))) t l)⟩
theorem ei_own (ha : Ev M ta σ Z H s (li τ xs) s1) : EvI M (SameX M.fp) (iList K ta) σ Z H s τ xs s1 :=
  fun Z1 H1 a b c d R q => ha Z1 H1 a b c d _ fun v Z2 H2 e m ⟨p, vs, ev, h, t, l⟩ => by
    subst ev
    refine ⟨p, rfl, ⟨vs, SqL.of (h.get e.s)⟩, q _ Z2 H2 e m (walk_at walk_list (fun Z' H' z sz x => ?_) t l)⟩
    rcases h with h | h
    · exact SqL.of (sz _ _ (z _ _ h))
    · exact SqL.of (x _ _ h.2 h.1)
theorem ei_tup (ha : Ev M ta σ Z H s (ty (yTup K τ) xs) s1) : EvI M X (iTup K ta) σ Z H s τ xs s1 :=
  fun Z1 H1 a b c d R q => ha Z1 H1 a b c d _ fun v Z2 H2 e m ⟨p, vs, ev, h, t, l⟩ => by
    subst ev
    exact ⟨p, rfl, ⟨vs, seqT_same e.s h⟩, q _ Z2 H2 e m (walk_at walk_tup (fun Z' H' z sz _ => seqT_same sz (seqT_same z h)) t l)⟩
def rangeZ (lo hi : Int) : List Int := (List.range (hi - lo).toNat).map fun (i : Nat) => lo + (i : Int)
def RangeOk (lo hi : Int) : Prop := (-(2 ^ 62) ≤ lo ∧ lo < 2 ^ 62) ∧ (-(2 ^ 62) ≤ hi ∧ hi < 2 ^ 62) ∧ hi - lo ≤ 16777216
instance {lo hi : Int} : Decidable (RangeOk lo hi) := inferInstanceAs (Decidable (_ ∧ _ ∧ _))
theorem rangeZ_len (lo hi : Int) : (rangeZ lo hi).length = (hi - lo).toNat := by unfold rangeZ; rw [List.length_map, List.length_range]
theorem walk_rng {lo hi : Int} {Z H : Hp} (l : hi - lo ≤ 16777216) : WalkT X (Itr lo (hi - lo).toNat) Z H yInt (rangeZ lo hi) := by
  refine ⟨by rw [rangeZ_len]; show (hi - lo).toNat ≤ 2 ^ 24; omega, fun _ => True, YFn fun i => .int (lo + i), by rw [rangeZ_len]; exact walk_range, fun _ _ _ _ _ => trivial, fun i Z' H' v H'' hi z sz _ y => ?_⟩
  obtain ⟨e, y⟩ := y
  subst e
  rw [rangeZ_len] at hi
  refine ⟨Z', lo + (i : Int), ?_, Step.refl sz, y⟩
  unfold rangeZ
  rw [List.getElem?_map, List.getElem?_range hi]
  rfl
theorem ei_rng1 {i : Int} (ha : Ev M ta σ Z H s (ty yInt i) s1) (h1 : RangeOk 0 i) : EvI M X (iRng1 (tCons ta tNil)) σ Z H s yInt (rangeZ 0 i) s1 :=
  fun Z1 H1 a b c d R q => eva_cons ha eva_nil Z1 H1 a b c d _ fun vs Z2 H2 e m ⟨v, r, e1, h, e2⟩ => by
    cases e2; cases h
    refine ⟨i, e1, h1.2.1.1, h1.2.1.2, q _ Z2 H2 e m ?_⟩
    have := walk_rng (X := X) (lo := 0) (hi := i) (Z := Z2) (H := H2) h1.2.2
    rw [Int.sub_zero] at this
    exact this
theorem ei_rng2 {i j : Int} (ha : Ev M ta σ Z H s (ty yInt i) s1) (hb : Ev M tb σ Z H s1 (ty yInt j) s2) (h1 : RangeOk i j) : EvI M X (iRng2 (tCons ta (tCons tb tNil))) σ Z H s yInt (rangeZ i j) s2 :=
  fun Z1 H1 a b c d R q => eva_cons ha (eva_cons hb eva_nil) Z1 H1 a b c d _ fun vs Z2 H2 e m ⟨v, r, e1, h, w, r2, e3, h3, e2⟩ => by
    cases e2; cases h; cases h3; cases e3
    exact ⟨i, j, e1, ⟨h1.1.1, h1.1.2, h1.2.1.1, h1.2.1.2⟩, q _ Z2 H2 e m (walk_rng h1.2.2)⟩
/-- pairs that are laid turn by turn -/
theorem walk_pairs {ys : List β} {vs ws : List V} {J : It} {G : Hp → Prop} (n : Nat) (hn : n = min vs.length ws.length) (w : Walk J n G (YPair (fun i => vs[i]?) (fun i => ws[i]?))) {Z H : Hp} (hG : ∀ Z' H', Same Z Z' → Same Z' H' → X H H' → G H') (t : All (τ.r Z) vs xs) (u : All (υ.r Z) ws ys) (l : vs.length ≤ sizeLine) : WalkT X J Z H (yP2 K τ υ) (xs.zip ys) := by
  have ln : (xs.zip ys).length = n := by rw [List.length_zip, ← t.len, ← u.len, hn]
  refine ⟨by rw [ln, hn]; omega, G, _, by rw [ln]; exact w, hG, fun i Z' H' v H'' hi z sz _ y => ?_⟩
  obtain ⟨T, v1, v2, rfl, nT, rfl, g1, g2⟩ := y
  obtain ⟨x1, ex1, rx1⟩ := t.get g1
  obtain ⟨x2, ex2, rx2⟩ := u.get g2
  have st := Step.new (o := .tup [v1, v2]) sz nT
  exact ⟨upd Z' T (.tup [v1, v2]), (x1, x2), by rw [List.getElem?_zip_eq_some]; exact ⟨ex1, ex2⟩, st, T, v1, v2, rfl, sqT_new, τ.mono (z.trans st.z) rx1, υ.mono (z.trans st.z) rx2⟩
def enumZ {α : Type} (xs : List α) : List (Int × α) := (rangeZ 0 (xs.length : Nat)).zip xs
theorem enum_rng (n : Nat) (i : Nat) (h : i < n) : ((rangeZ 0 (n : Nat)).map V.int)[i]? = some (.int (i : Nat)) := by
  unfold rangeZ
  rw [List.getElem?_map, List.getElem?_map, List.getElem?_range (by omega)]
  show some (V.int (0 + (i : Int))) = _
  rw [Int.zero_add]
theorem ei_enum (ha : Ev M ta σ Z H s (ty (yList τ) xs) s1) : EvI M X (iEnum K (tCons ta tNil)) σ Z H s (yP2 K yInt τ) (enumZ xs) s1 :=
  fun Z1 H1 a b c d R q => eva_cons ha eva_nil Z1 H1 a b c d _ fun us Z2 H2 e m ⟨v, r, e1, ⟨p, vs, ev, h, t, l⟩, e2⟩ => by
    cases e2; cases ev; cases e1
    refine ⟨p, vs, rfl, SqL.of (e.s _ _ h), q _ Z2 H2 e m ?_⟩
    have hl : ((rangeZ 0 (xs.length : Nat)).map V.int).length = vs.length := by
      rw [List.length_map, rangeZ_len, t.len]; omega
    refine walk_pairs (vs := (rangeZ 0 (xs.length : Nat)).map V.int) (ws := vs) vs.length (by rw [hl]; omega) (walk_enum.mono (fun _ g => g) fun i H v H' hi _ ⟨T, x, y, h1, h2, h3, h4, h5⟩ => ⟨T, x, y, h1, h2, h3, ?_, h5⟩) (fun Z' H' z sz _ => SqL.of (sz _ _ (z _ _ h))) (All.ofInts _) t (by rw [hl, t.len]; exact l)
    show ((rangeZ 0 (xs.length : Nat)).map V.int)[i]? = some x
    rw [enum_rng _ _ (by rw [← t.len]; exact hi)]
    exact h4
theorem ei_str {x : Str} (ha : Ev M ta σ Z H s (ty yStr x) s1) : EvI M X (iStr ta) σ Z H s yStr (x.cps.toList.map fun c => (⟨#[c]⟩ : Str)) s1 :=
  fun Z1 H1 a b c d R q => ha Z1 H1 a b c d _ fun v Z2 H2 e m rv => by
    refine ⟨x, rv.1, q _ Z2 H2 e m ?_⟩
    have ln : (x.cps.toList.map fun c => (⟨#[c]⟩ : Str)).length = x.cps.size := by rw [List.length_map, Array.length_toList]
    have lz : x.cps.size ≤ sizeLine := of_decide_eq_true (Bool.and_eq_true_iff.mp (show (PyData.strOk x && decide (x.length ≤ sizeLine)) = true from rv.2)).2
    refine ⟨by rw [ln]; exact lz, fun _ => True, _, by rw [ln]; exact walk_str, fun _ _ _ _ _ => trivial, fun i Z' H' v H'' hi z sz _ y => ?_⟩
    obtain ⟨e, c, hc, rfl⟩ := y
    subst e
    have hc' : x.cps.toList[i]? = some c := by rw [Array.getElem?_toList]; exact hc
    refine ⟨Z', ⟨#[c]⟩, by rw [List.getElem?_map, hc']; rfl, Step.refl sz, rfl, ?_⟩
    have ok := rv.2
    unfold okS PyData.strOk at ok ⊢
    rw [Bool.and_eq_true] at ok ⊢
    refine ⟨?_, decide_eq_true (by show (#[c] : Array Nat).size ≤ sizeLine; exact (by decide : 1 ≤ sizeLine))⟩
    have h2 := Array.all_eq_true_iff_forall_mem.mp ok.1 c (Array.mem_of_getElem? hc)
    simpa using h2
end
/-! ### list comprehensions -/
/-- the target stores the value: from the slots σ to σ2 -/
def Tgt (g : TG) (v : V) (σ σ2 : L2.St) (Z : Hp) : Prop := ∀ H, Same Z H → ∀ Q : L2.St → Hp → Prop, Q σ2 H → g v σ H Q
theorem tgt_name {i : Nat} {v : V} {σ : L2.St} {Z : Hp} : Tgt (gName i) v σ (σ.set i (some v)) Z := fun _ _ _ q => q
theorem tgt_p2 {α β : Type} {τ : Ty α} {υ : Ty β} {g1 g2 : TG} {v : V} {x : α × β} {Z : Hp} (h : (yP2 K τ υ).r Z v x) : ∃ v1 v2, τ.r Z v1 x.1 ∧ υ.r Z v2 x.2 ∧ ∀ {σ σ1 σ2 : L2.St}, Tgt g1 v1 σ σ1 Z → Tgt g2 v2 σ1 σ2 Z → Tgt (gTup K 2 (gCons g1 (gCons g2 gNil))) v σ σ2 Z := by
  obtain ⟨a, v1, v2, rfl, t, h1, h2⟩ := h
  exact ⟨v1, v2, h1, h2, fun {σ σ1 σ2} t1 t2 H sz Q q => ⟨a, _, rfl, seqT_same sz t, rfl, v1, _, rfl, t1 H sz _ ⟨v2, _, rfl, t2 H sz _ ⟨rfl, q⟩⟩⟩⟩
theorem tgt_p3 {α β γ : Type} {τ : Ty α} {υ : Ty β} {φ : Ty γ} {g1 g2 g3 : TG} {v : V} {x : α × β × γ} {Z : Hp} (h : (yP3 K τ υ φ).r Z v x) : ∃ v1 v2 v3, τ.r Z v1 x.1 ∧ υ.r Z v2 x.2.1 ∧ φ.r Z v3 x.2.2 ∧ ∀ {σ σ1 σ2 σ3 : L2.St}, Tgt g1 v1 σ σ1 Z → Tgt g2 v2 σ1 σ2 Z → Tgt g3 v3 σ2 σ3 Z → Tgt (gTup K 3 (gCons g1 (gCons g2 (gCons g3 gNil)))) v σ σ3 Z := by
  obtain ⟨a, v1, v2, v3, rfl, t, h1, h2, h3⟩ := h
  exact ⟨v1, v2, v3, h1, h2, h3, fun {σ σ1 σ2 σ3} t1 t2 t3 H sz Q q => ⟨a, _, rfl, seqT_same sz t, rfl, v1, _, rfl, t1 H sz _ ⟨v2, _, rfl, t2 H sz _ ⟨v3, _, rfl, t3 H sz _ ⟨rfl, q⟩⟩⟩⟩⟩
section
variable {α β : Type} {τ : Ty α} {υ : Ty β} {xs : List α} {ys : List β}
/-- the comprehension as a plain walk: none leaves an item out -/
def lcM (g : α → μ → Option (Option β × μ)) : List α → μ → Option (List β × μ)
  | [], s => some ([], s)
  | x :: xs, s => (g x s).bind fun p => (lcM g xs p.2).bind fun q => some (match p.1 with | none => q.1 | some y => y :: q.1, q.2)
theorem en_lc {wi : TI} {g : TG} {tt : TT} {vs : List Nat} (P : μ → Prop) (h : α → μ → Option (Option β × μ)) (hP : P s1) (hi : EvI M (SameX M.fp) wi σ Z H s τ xs s1)
    (hb : ∀ x v Z' H' si p, Same Z Z' → SameX M.fp H H' → τ.r Z' v x → P si → h x si = some p → P p.2 ∧ ∃ σ2, Tgt g v (wipe σ vs) σ2 Z' ∧ wipe σ2 vs = wipe σ vs ∧ ∃ b s', EvT M tt σ2 Z' H' si b s' ∧ (b = true → ∃ y, p.1 = some y ∧ Ev M te σ2 Z' H' s' (ty υ y) p.2) ∧ (b = false → p = (none, s')))
    (hF : lcM h xs s1 = some (ys, s2)) : EvN M (tLc wi g tt te vs) σ Z H s υ ys s2 := by
  intro Z1 H1 a b c d Q q
  refine hi Z1 H1 a b c d _ fun J Z2 H2 e m ⟨hx, G, Y, wk, hG, hY⟩ D hD => ?_
  have zD : Z2 D = none := same_none e.s hD
  have st0 := Step.own (o := .lst []) e.s hD
  refine lc_it wk (fun i H' => ∃ Z' si zs ws r, Step M.fp Z2 H2 Z' H' ∧ Z' D = none ∧ H' D = some (.lst ws) ∧ All (υ.r Z') ws zs ∧ ws.length ≤ i ∧ M.m si Z' H' ∧ P si ∧ lcM h (xs.drop i) si = some (r, s2) ∧ ys = zs ++ r)
    ⟨Z2, s1, [], [], ys, st0.pure, zD, upd_same, .nil, Nat.le_refl _, M.pure st0 m, hP, by rw [List.drop_zero]; exact hF, rfl⟩ ?_ ?_ ?_
  · rintro i H' _ ⟨Z', si, zs, ws, r, st, _⟩
    exact hG Z' H' st.z st.s st.h
  · rintro i v H3 H4 hin ⟨Z', si, zs, ws, r, st, zD', hD', al, lw, m', pi, hF', ey⟩ y
    obtain ⟨Z4, x, ex, st4, rx⟩ := hY i Z' H3 v H4 hin st.z st.s (hG Z' H3 st.z st.s st.h) y
    have hd : xs.drop i = x :: xs.drop (i + 1) := by
      rw [List.drop_eq_getElem_cons hin]
      rw [List.getElem?_eq_getElem hin] at ex
      rw [Option.some.inj ex]
    rw [hd] at hF'
    obtain ⟨p, hp, hF2⟩ := Option.bind_eq_some_iff.mp hF'
    obtain ⟨⟨r2, s2'⟩, hr, hF3⟩ := Option.bind_eq_some_iff.mp hF2
    have e4 := st.trans st4.pure
    have eZ : Same Z Z4 := (a.trans e.z).trans e4.z
    have eH : SameX M.fp H H4 := (b.trans e.h).trans e4.h
    obtain ⟨pp, σ2, tg, wp, bb, s', et, ht, hf⟩ := hb x v Z4 H4 si p eZ eH rx pi hp
    have es2 : s2' = s2 := by injection hF3 with q; exact congrArg Prod.snd q
    subst es2
    refine tg H4 e4.s _ ⟨wp, et Z4 H4 (Same.refl _) SameX.refl e4.s (M.pure st4 m') _ fun Z5 H5 e5 m5 => ?_⟩
    have nD : D ∉ M.fp := fun h => absurd hD (M.al m D h).1
    have hD4 : H4 D = some (.lst ws) := st4.h _ _ List.not_mem_nil hD'
    have hD5 : H5 D = some (.lst ws) := e5.h _ _ nD hD4
    have zD5 : Z5 D = none := e5.n D (some_ne hD4) (st4.n D (some_ne hD') zD')
    have e15 := e4.trans e5
    cases bb with
    | false =>
      rw [if_neg Bool.false_ne_true]
      have ep := hf rfl
      subst ep
      refine ⟨Z5, s', zs, ws, r2, e15, zD5, hD5, al.imp fun _ _ => υ.mono (st4.z.trans e5.z), by omega, m5, pp, hr, ?_⟩
      injection hF3 with q3
      have q4 : r2 = r := congrArg Prod.fst q3
      rw [ey, q4]
    | true =>
      rw [if_pos rfl]
      obtain ⟨y, ep, ev⟩ := ht rfl
      refine ev Z5 H5 e5.z e5.h e5.s m5 _ fun w Z6 H6 e6 m6 rw' => ?_
      have hD6 : H6 D = some (.lst ws) := e6.h _ _ nD hD5
      have zD6 : Z6 D = none := e6.n D (some_ne hD5) zD5
      have s7 := Step.set (o := .lst (ws ++ [w])) e6.s zD6
      refine ⟨ws, hD6, by omega, Z6, p.2, zs ++ [y], ws ++ [w], r2, (e15.trans e6).mine s7 (fun x hx => by rw [List.mem_singleton] at hx; subst hx; exact .inr hD), zD6, upd_same, (al.imp fun _ _ => υ.mono ((st4.z.trans e5.z).trans e6.z)).snoc rw', by rw [List.length_append]; show ws.length + 1 ≤ _; omega, ?_, pp, hr, ?_⟩
      · refine M.loc (Same.refl _) (fun a' ha' o ho => ?_) (fun _ _ _ z => z) m6
        rw [upd_ne (fun q' => nD (by rw [← q']; exact ha'))]
        exact ho
      · injection hF3 with q3
        rw [ep] at q3
        have q4 : y :: r2 = r := congrArg Prod.fst q3
        rw [ey, ← q4, List.append_assoc]
        rfl
  · rintro H' ⟨Z', si, zs, ws, r, st, zD', hD', al, lw, m', _, hF', ey⟩
    rw [List.drop_length] at hF'
    injection hF' with q'
    have e1 : r = [] := (congrArg Prod.fst q').symm
    have e2 : si = s2 := congrArg Prod.snd q'
    subst e1 e2
    rw [List.append_nil] at ey
    subst ey
    exact q D ws Z' H' (e.trans st) m' (same_x e hD) zD' hD' al (by rw [← al.len]; omega)
def mapO (f : α → Option β) : List α → Option (List β)
  | [] => some []
  | x :: r => (f x).bind fun y => (mapO f r).bind fun ys => some (y :: ys)
def fmO (f : α → Option (Option β)) : List α → Option (List β)
  | [] => some []
  | x :: r => (f x).bind fun y => (fmO f r).bind fun ys => some (match y with | none => ys | some z => z :: ys)
def mapS (f : α → μ → Option (β × μ)) : List α → μ → Option (List β × μ)
  | [], s => some ([], s)
  | x :: r, s => (f x s).bind fun p => (mapS f r p.2).bind fun q => some (p.1 :: q.1, q.2)
theorem lcM_fmO (f : α → Option (Option β)) (s : μ) : ∀ xs : List α, lcM (fun x s => (f x).map fun y => (y, s)) xs s = (fmO f xs).map fun ys => (ys, s)
  | [] => rfl
  | x :: r => by
    have ih := lcM_fmO f s r
    unfold lcM fmO
    cases f x with
    | none => rfl
    | some y =>
      simp only [Option.map_some, Option.bind_some, ih]
      cases fmO f r with
      | none => rfl
      | some ys => cases y <;> rfl
theorem lcM_mapS (f : α → μ → Option (β × μ)) : ∀ (xs : List α) (s : μ), lcM (fun x s => (f x s).map fun p => (some p.1, p.2)) xs s = mapS f xs s
  | [], _ => rfl
  | x :: r, s => by
    unfold lcM mapS
    cases f x s with
    | none => rfl
    | some p =>
      simp only [Option.map_some, Option.bind_some, lcM_mapS f r p.2]
theorem fmO_mapO (f : α → Option β) : ∀ xs : List α, fmO (fun x => (f x).map some) xs = mapO f xs
  | [] => rfl
  | x :: r => by
    unfold fmO mapO
    rw [fmO_mapO f r]
    cases f x <;> rfl
theorem fmO_fil (p : α → Bool) (f : α → β) : ∀ xs : List α, fmO (fun x => some (if p x = true then some (f x) else none)) xs = some ((xs.filter p).map f)
  | [] => rfl
  | x :: r => by
    unfold fmO
    rw [fmO_fil p f r]
    cases e : p x with
    | true => rw [List.filter_cons_of_pos e]; rfl
    | false => rw [List.filter_cons_of_neg (by rw [e]; exact Bool.false_ne_true)]; rfl
section
variable {wi : TI} {g : TG} {tt : TT} {vs : List Nat}
/-- stateless, with a test -/
theorem en_fmO (f : α → Option (Option β)) (hi : EvI M (SameX M.fp) wi σ Z H s τ xs s1)
    (hb : ∀ x v Z' H' p, Same Z Z' → SameX M.fp H H' → τ.r Z' v x → f x = some p → ∃ σ2, Tgt g v (wipe σ vs) σ2 Z' ∧ wipe σ2 vs = wipe σ vs ∧ ∃ b, EvT M tt σ2 Z' H' s1 b s1 ∧ (b = true → ∃ y, p = some y ∧ Ev M te σ2 Z' H' s1 (ty υ y) s1) ∧ (b = false → p = none))
    (hF : fmO f xs = some ys) : EvN M (tLc wi g tt te vs) σ Z H s υ ys s1 := by
  refine en_lc (· = s1) (fun x s => (f x).map fun y => (y, s)) rfl hi (fun x v Z' H' si p z h rv e hp => ?_) (by rw [lcM_fmO, hF]; rfl)
  subst e
  obtain ⟨q, hq, rfl⟩ := Option.map_eq_some_iff.mp hp
  obtain ⟨σ2, tg, wp, b, et, h1, h2⟩ := hb x v Z' H' q z h rv hq
  exact ⟨rfl, σ2, tg, wp, b, _, et, h1, fun e => by rw [h2 e]⟩
/-- stateless, partial -/
theorem en_mapO (f : α → Option β) (hi : EvI M (SameX M.fp) wi σ Z H s τ xs s1)
    (hb : ∀ x v Z' H' y, Same Z Z' → SameX M.fp H H' → τ.r Z' v x → f x = some y → ∃ σ2, Tgt g v (wipe σ vs) σ2 Z' ∧ wipe σ2 vs = wipe σ vs ∧ Ev M te σ2 Z' H' s1 (ty υ y) s1)
    (hF : mapO f xs = some ys) : EvN M (tLc wi g tYes te vs) σ Z H s υ ys s1 :=
  en_fmO (fun x => (f x).map some) hi (fun x v Z' H' p z h rv hp => by
    obtain ⟨y, hy, rfl⟩ := Option.map_eq_some_iff.mp hp
    obtain ⟨σ2, tg, wp, ev⟩ := hb x v Z' H' y z h rv hy
    exact ⟨σ2, tg, wp, true, fun Z1 H1 _ _ c d _ k => k Z1 H1 (Step.refl c) d, fun _ => ⟨y, rfl, ev⟩, fun e => nomatch e⟩) (by rw [fmO_mapO, hF])
/-- stateless, total -/
theorem en_map (f : α → β) (hi : EvI M (SameX M.fp) wi σ Z H s τ xs s1)
    (hb : ∀ x v Z' H', Same Z Z' → SameX M.fp H H' → τ.r Z' v x → ∃ σ2, Tgt g v (wipe σ vs) σ2 Z' ∧ wipe σ2 vs = wipe σ vs ∧ Ev M te σ2 Z' H' s1 (ty υ (f x)) s1) : EvN M (tLc wi g tYes te vs) σ Z H s υ (xs.map f) s1 :=
  en_mapO (fun x => some (f x)) hi (fun x v Z' H' y z h rv hy => by cases hy; exact hb x v Z' H' z h rv) (by
    clear hb hi
    induction xs with
    | nil => rfl
    | cons x r ih => unfold mapO; rw [ih]; rfl)
theorem en_fil (p : α → Bool) (f : α → β) (hi : EvI M (SameX M.fp) wi σ Z H s τ xs s1)
    (hb : ∀ x v Z' H', Same Z Z' → SameX M.fp H H' → τ.r Z' v x → ∃ σ2, Tgt g v (wipe σ vs) σ2 Z' ∧ wipe σ2 vs = wipe σ vs ∧ EvT M tt σ2 Z' H' s1 (p x) s1 ∧ Ev M te σ2 Z' H' s1 (ty υ (f x)) s1) : EvN M (tLc wi g tt te vs) σ Z H s υ ((xs.filter p).map f) s1 :=
  en_fmO (fun x => some (if p x = true then some (f x) else none)) hi (fun x v Z' H' q z h rv hq => by
    obtain ⟨σ2, tg, wp, et, ev⟩ := hb x v Z' H' z h rv
    cases hq
    exact ⟨σ2, tg, wp, p x, et, fun e => ⟨f x, if_pos e, ev⟩, fun e => if_neg (by rw [e]; exact Bool.false_ne_true)⟩) (fmO_fil p f xs)
theorem en_mapS (f : α → μ → Option (β × μ)) (hi : EvI M (SameX M.fp) wi σ Z H s τ xs s1)
    (hb : ∀ x v Z' H' si p, Same Z Z' → SameX M.fp H H' → τ.r Z' v x → f x si = some p → ∃ σ2, Tgt g v (wipe σ vs) σ2 Z' ∧ wipe σ2 vs = wipe σ vs ∧ Ev M te σ2 Z' H' si (ty υ p.1) p.2)
    (hF : mapS f xs s1 = some (ys, s2)) : EvN M (tLc wi g tYes te vs) σ Z H s υ ys s2 :=
  en_lc (fun _ => True) (fun x s => (f x s).map fun p => (some p.1, p.2)) trivial hi (fun x v Z' H' si p z h rv _ hp => by
    obtain ⟨q, hq, rfl⟩ := Option.map_eq_some_iff.mp hp
    obtain ⟨σ2, tg, wp, ev⟩ := hb x v Z' H' si q z h rv hq
    exact ⟨trivial, σ2, tg, wp, true, si, fun Z1 H1 _ _ c d _ k => k Z1 H1 (Step.refl c) d, fun _ => ⟨q.1, rfl, ev⟩, fun e => nomatch e⟩) (by rw [lcM_mapS, hF])
end
end
end
end TP

namespace TP
open PySem PySem.Spec PyProof.Rows L2
section
variable {μ : Type} {S : List Addr} {Z0 H0 : Hp} {M : Mu μ} {σ : L2.St} {Z H : Hp} {s s' s1 s2 s3 : μ} {ta tb tc te : TE} {t : TA} {K : PySem.W.Frag} {D : Ends} {u w : TS}
/-! ### a place in a def's body -/
structure Pt (S : List Addr) (Z0 H0 : Hp) (M : Mu μ) (Z H : Hp) (s : μ) : Prop where
  st : Step S Z0 H0 Z H
  m : M.m s Z H
  mine : ∀ a ∈ M.fp, a ∈ S ∨ H0 a = none
theorem Pt.next {Z1 H1 : Hp} (P : Pt S Z0 H0 M Z H s) (e : Step M.fp Z H Z1 H1) (m : M.m s1 Z1 H1) : Pt S Z0 H0 M Z1 H1 s1 := ⟨P.st.mine e P.mine, m, P.mine⟩
theorem Pt.start (M : Mu μ) (sz : Same Z H) (m : M.m s Z H) : Pt M.fp Z H M Z H s := ⟨Step.refl sz, m, fun _ h => .inl h⟩
theorem Pt.start0 (sz : Same Z H) : Pt [] Z H muN Z H () := ⟨Step.refl sz, trivial, fun _ h => (nomatch h)⟩
theorem Pt.sub (P : Pt S Z0 H0 M Z H s) : Same Z H := P.st.s
/-- a list of one's own: it may change -/
structure Own {α : Type} (S : List Addr) (H0 : Hp) (fp : List Addr) (Z H : Hp) (τ : Ty α) (p : Addr) (xs : List α) : Prop where
  ex : ∃ vs, H p = some (.lst vs) ∧ All (τ.r Z) vs xs
  z : Z p = none
  n : p ∉ fp
  mine : H0 p = none
  l : xs.length ≤ sizeLine
section
variable {α : Type} {τ : Ty α} {xs : List α} {p : Addr} {fp : List Addr}
theorem Own.step {F : List Addr} {Z1 H1 : Hp} (o : Own S H0 fp Z H τ p xs) (e : Step F Z H Z1 H1) (n : p ∉ F) : Own S H0 fp Z1 H1 τ p xs := by
  obtain ⟨vs, h, t⟩ := o.ex
  exact ⟨⟨vs, e.h _ _ n h, t.imp fun _ _ => τ.mono e.z⟩, e.n _ (some_ne h) o.z, o.n, o.mine, o.l⟩
theorem Own.next {Z1 H1 : Hp} (o : Own S H0 fp Z H τ p xs) (e : Step fp Z H Z1 H1) : Own S H0 fp Z1 H1 τ p xs := o.step e o.n
theorem Own.ne (o : Own S H0 fp Z H τ p xs) {q : Addr} (h : H q = none) : p ≠ q := by
  obtain ⟨vs, hp, _⟩ := o.ex
  exact ne_of_some (some_ne hp) h
theorem ev_o {i : Nat} (o : Own S H0 M.fp Z H τ p xs) (e : σ[i]? = some (some (.ref p))) : Ev M (tVar i) σ Z H s (li τ xs) s := by
  obtain ⟨vs, h, t⟩ := o.ex
  exact ev_own e h o.n t o.l
/-- it never changes from now on -/
theorem Own.fz (o : Own S H0 M.fp Z H τ p xs) (P : Pt S Z0 H0 M Z H s) : ∃ Z', Pt S Z0 H0 M Z' H s ∧ Same Z Z' ∧ (yList τ).r Z' (.ref p) xs ∧ ∀ q, q ≠ p → Z q = none → Z' q = none := by
  obtain ⟨vs, h, t⟩ := o.ex
  refine ⟨upd Z p (.lst vs), ⟨?_, Mu.fz P.m o.z o.n, P.mine⟩, same_upd o.z, ⟨p, vs, rfl, upd_same, t.imp fun _ _ => τ.mono (same_upd o.z), o.l⟩, fun q n e => by rw [upd_ne n]; exact e⟩
  exact P.st.fz o.mine h o.z
theorem Own.keep {Z1 : Hp} (o : Own S H0 fp Z H τ p xs) (e : Same Z Z1) (n : Z1 p = none) : Own S H0 fp Z1 H τ p xs := by
  obtain ⟨vs, h, t⟩ := o.ex
  exact ⟨⟨vs, h, t.imp fun _ _ => τ.mono e⟩, n, o.n, o.mine, o.l⟩
end
/-- a list of one's own is lent: for a while it does not change -/
theorem Own.bor {α : Type} {τ : Ty α} {xs : List α} {p : Addr} (o : Own S H0 M.fp Z H τ p xs) (sz : Same Z H) (m : M.m s Z H) : ∃ Zb, Same Z Zb ∧ Same Zb H ∧ M.m s Zb H ∧ (yList τ).r Zb (.ref p) xs ∧ ∀ q, q ≠ p → Z q = none → Zb q = none := by
  obtain ⟨vs, h, t⟩ := o.ex
  refine ⟨upd Z p (.lst vs), same_upd o.z, fun a u e => ?_, Mu.fz m o.z o.n, ⟨p, vs, rfl, upd_same, t.imp fun _ _ => τ.mono (same_upd o.z), o.l⟩, fun q n e => by rw [upd_ne n]; exact e⟩
  by_cases q : a = p
  · subst q; rw [upd_same] at e; rw [← Option.some.inj e]; exact h
  · rw [upd_ne q] at e; exact sz a u e
theorem Step.lent {S : List Addr} {Z Zb H Z1 H1 : Hp} (zf : Same Z Zb) (e : Step S Zb H Z1 H1) : Step S Z H Z H1 := ⟨Same.refl _, zf.trans (e.z.trans e.s), e.h, fun _ _ z => z, e.al⟩
/-! ### statements -/
theorem st_nx {nx bk ct : L2.St → Hp → Prop} {rt : VK} (h : nx σ H) : Ends.nx ⟨nx, rt, bk, ct⟩ σ H := h
theorem st_next0 {nx bk ct : L2.St → Hp → Prop} {rt : VK} (h : nx σ H) : tNext ⟨nx, rt, bk, ct⟩ σ H := h
theorem st_next (h : D.nx σ H) : tNext D σ H := h
theorem st_seq (h : u { D with nx := w D } σ H) : tSeq u w D σ H := h
theorem st_set {R : Rr M.fp} {i : Nat} (P : Pt S Z0 H0 M Z H s) (e : Ev M te σ Z H s R s1) (k : ∀ v Z1 H1, Step M.fp Z H Z1 H1 → Pt S Z0 H0 M Z1 H1 s1 → R.r Z1 H1 v → D.nx (σ.set i (some v)) H1) : tAsg te (gName i) D σ H :=
  e Z H (Same.refl _) SameX.refl P.sub P.m _ fun v Z1 H1 e m r => k v Z1 H1 e (P.next e m) r
theorem st_asg {R : Rr M.fp} {g : TG} (P : Pt S Z0 H0 M Z H s) (e : Ev M te σ Z H s R s1) (k : ∀ v Z1 H1, Step M.fp Z H Z1 H1 → Pt S Z0 H0 M Z1 H1 s1 → R.r Z1 H1 v → ∃ σ2, Tgt g v σ σ2 Z1 ∧ D.nx σ2 H1) : tAsg te g D σ H :=
  e Z H (Same.refl _) SameX.refl P.sub P.m _ fun v Z1 H1 e m r => by
    obtain ⟨σ2, tg, q⟩ := k v Z1 H1 e (P.next e m) r
    exact tg H1 e.s _ q
theorem st_ret {R : Rr M.fp} (P : Pt S Z0 H0 M Z H s) (e : Ev M te σ Z H s R s1) (k : ∀ v Z1 H1, Pt S Z0 H0 M Z1 H1 s1 → R.r Z1 H1 v → D.rt v H1) : tRet te D σ H :=
  e Z H (Same.refl _) SameX.refl P.sub P.m _ fun v Z1 H1 e m r => k v Z1 H1 (P.next e m) r
theorem st_expr {R : Rr M.fp} (P : Pt S Z0 H0 M Z H s) (e : Ev M te σ Z H s R s1) (k : ∀ Z1 H1, Step M.fp Z H Z1 H1 → Pt S Z0 H0 M Z1 H1 s1 → D.nx σ H1) : tDrop te D σ H :=
  e Z H (Same.refl _) SameX.refl P.sub P.m _ fun v Z1 H1 e m r => k Z1 H1 e (P.next e m)
theorem st_if {b : Bool} {tt : TT} (P : Pt S Z0 H0 M Z H s) (e : EvT M tt σ Z H s b s1) (ht : b = true → ∀ Z1 H1, Step M.fp Z H Z1 H1 → Pt S Z0 H0 M Z1 H1 s1 → u D σ H1) (hf : b = false → ∀ Z1 H1, Step M.fp Z H Z1 H1 → Pt S Z0 H0 M Z1 H1 s1 → w D σ H1) : tIfS tt u w D σ H :=
  e Z H (Same.refl _) SameX.refl P.sub P.m _ fun Z1 H1 e' m => by
    cases b with
    | true => rw [if_pos rfl]; exact ht rfl Z1 H1 e' (P.next e' m)
    | false => rw [if_neg Bool.false_ne_true]; exact hf rfl Z1 H1 e' (P.next e' m)
theorem st_ifB {b : Bool} {tt : TT} {Zb : Hp} (bk : M.Back) (P : Pt S Z0 H0 M Z H s) (zf : Same Z Zb) (sb : Same Zb H) (mb : M.m s Zb H) (e : EvT M tt σ Zb H s b s1) (ht : b = true → ∀ Z1 H1, Step M.fp Z H Z1 H1 → Pt S Z0 H0 M Z1 H1 s1 → u D σ H1) (hf : b = false → ∀ Z1 H1, Step M.fp Z H Z1 H1 → Pt S Z0 H0 M Z1 H1 s1 → w D σ H1) : tIfS tt u w D σ H :=
  e Zb H (Same.refl _) SameX.refl sb mb _ fun Z1 H1 e' m => by
    have e2 := Step.lent zf e'
    have m2 := bk (zf.trans e'.z) P.m m
    cases b with
    | true => rw [if_pos rfl]; exact ht rfl Z H1 e2 (P.next e2 m2)
    | false => rw [if_neg Bool.false_ne_true]; exact hf rfl Z H1 e2 (P.next e2 m2)
theorem st_aug {i : Nat} {a b : Int} {v : V} {f : Int → Int → Int} (P : Pt S Z0 H0 M Z H s) (hσ : σ[i]? = some (some v)) (hv : v = .int a) (e : Ev M te σ Z H s (ty yInt b) s1) (k : ∀ v Z1 H1, Step M.fp Z H Z1 H1 → Pt S Z0 H0 M Z1 H1 s1 → yInt.r Z1 v (f a b) → D.nx (σ.set i (some v)) H1) : tAug i te (ipI f) D σ H :=
  ⟨v, hσ, e Z H (Same.refl _) SameX.refl P.sub P.m _ fun v' Z1 H1 e m r => ⟨a, b, hv, r, k _ Z1 H1 e (P.next e m) rfl⟩⟩
section
variable {α β : Type} {τ : Ty α} {υ : Ty β} {xs ys : List α} {p : Addr} {x : α}
/-- a new list of one's own -/
theorem st_setN {i : Nat} (P : Pt S Z0 H0 M Z H s) (e : EvN M te σ Z H s τ xs s1) (k : ∀ p Z1 H1, Step M.fp Z H Z1 H1 → Pt S Z0 H0 M Z1 H1 s1 → H p = none → Own S H0 M.fp Z1 H1 τ p xs → D.nx (σ.set i (some (.ref p))) H1) : tAsg te (gName i) D σ H :=
  e Z H (Same.refl _) SameX.refl P.sub P.m _ fun p vs Z1 H1 e m hp zp h1 t l => k p Z1 H1 e (P.next e m) hp ⟨⟨vs, h1, t⟩, zp, fun hf => (M.al P.m p hf).1 hp, same_x P.st hp, l⟩
theorem Pt.set {o : HO} (P : Pt S Z0 H0 M Z H s) (hz : Z p = none) (n : p ∉ M.fp) (mine : p ∈ S ∨ H0 p = none) : Pt S Z0 H0 M Z (upd H p o) s := by
  refine ⟨P.st.mine (Step.set P.sub hz) fun a h => by rw [List.mem_singleton] at h; rw [h]; exact mine, M.loc (Same.refl _) (fun a ha u e => ?_) (fun _ _ _ z => z) P.m, P.mine⟩
  rw [upd_ne (fun q => n (by rw [← q]; exact ha))]
  exact e
theorem step2 {F : List Addr} {Z1 H1 : Hp} {o : HO} (e : Step F Z H Z1 H1) (hz : Z1 p = none) : Step (p :: F) Z H Z1 (upd H1 p o) :=
  (e.weak fun _ h => .inl (List.mem_cons_of_mem _ h)).mine (Step.set e.s hz) fun a h => by rw [List.mem_singleton] at h; rw [h]; exact .inl List.mem_cons_self
/-- xs.append(x) -/
theorem st_append {i : Nat} (P : Pt S Z0 H0 M Z H s) (o : Own S H0 M.fp Z H τ p xs) (hσ : σ[i]? = some (some (.ref p))) (e : Ev M te σ Z H s (ty τ x) s1) (l : xs.length < sizeLine)
    (k : ∀ Z1 H1, Step (p :: M.fp) Z H Z1 H1 → Pt S Z0 H0 M Z1 H1 s1 → Own S H0 M.fp Z1 H1 τ p (xs ++ [x]) → D.nx σ H1) : tDrop (tBM K "list" rAppend (tVar i) (tCons te tNil)) D σ H := by
  obtain ⟨vs, h, t⟩ := o.ex
  refine ⟨.ref p, hσ, .inl ⟨rfl, _, .inl (.inl h)⟩, e Z H (Same.refl _) SameX.refl P.sub P.m _ fun v Z1 H1 e m r => ?_⟩
  have o1 := o.next e
  have P1 := P.next e m
  refine ⟨p, vs, v, rfl, rfl, e.h _ _ o.n h, by rw [t.len]; exact l, ?_⟩
  exact k _ _ (step2 e o1.z) (P1.set o1.z o.n (.inr o.mine)) ⟨⟨_, upd_same, (t.imp fun _ _ => τ.mono e.z).snoc r⟩, o1.z, o.n, o.mine, by rw [List.length_append]; show xs.length + 1 ≤ _; omega⟩
/-- xs.extend(ys) -/
theorem st_extend {i : Nat} (P : Pt S Z0 H0 M Z H s) (o : Own S H0 M.fp Z H τ p xs) (hσ : σ[i]? = some (some (.ref p))) (e : Ev M te σ Z H s (ty (yList τ) ys) s1) (l : xs.length + ys.length ≤ sizeLine)
    (k : ∀ Z1 H1, Step (p :: M.fp) Z H Z1 H1 → Pt S Z0 H0 M Z1 H1 s1 → Own S H0 M.fp Z1 H1 τ p (xs ++ ys) → D.nx σ H1) : tDrop (tBM K "list" rExtend (tVar i) (tCons te tNil)) D σ H := by
  obtain ⟨vs, h, t⟩ := o.ex
  refine ⟨.ref p, hσ, .inl ⟨rfl, _, .inl (.inl h)⟩, e Z H (Same.refl _) SameX.refl P.sub P.m _ fun v Z1 H1 e m ⟨q, ws, ev, hq, t2, _⟩ => ?_⟩
  subst ev
  have o1 := o.next e
  have P1 := P.next e m
  refine ⟨p, q, vs, ws, rfl, rfl, e.h _ _ o.n h, e.s _ _ hq, by rw [t.len, t2.len]; exact l, ?_⟩
  exact k _ _ (step2 e o1.z) (P1.set o1.z o.n (.inr o.mine)) ⟨⟨_, upd_same, (t.imp fun _ _ => τ.mono e.z).app t2⟩, o1.z, o.n, o.mine, by rw [List.length_append]; exact l⟩
/-- xs[i] = x -/
theorem st_setitem {i : Nat} {j : Int} {n : Nat} {tj : TE} (P : Pt S Z0 H0 M Z H s) (o : Own S H0 M.fp Z H τ p xs) (hσ : σ[i]? = some (some (.ref p))) (e : Ev M te σ Z H s (ty τ x) s1) (ej : ∀ Z1 H1, Step M.fp Z H Z1 H1 → Ev M tj σ Z1 H1 s1 (ty yInt j) s2) (hj : ixN xs.length j = some n)
    (k : ∀ Z1 H1, Step (p :: M.fp) Z H Z1 H1 → Pt S Z0 H0 M Z1 H1 s2 → Own S H0 M.fp Z1 H1 τ p (xs.set n x) → D.nx σ H1) : tAsg te (gSub (tVar i) tj rSetL) D σ H := by
  obtain ⟨vs, h, t⟩ := o.ex
  refine e Z H (Same.refl _) SameX.refl P.sub P.m _ fun v Z1 H1 e m r => ⟨.ref p, hσ, ej Z1 H1 e Z1 H1 (Same.refl _) SameX.refl e.s m _ fun v2 Z2 H2 e2 m2 r2 => ?_⟩
  have o1 := (o.next e).next e2
  have P1 := (P.next e m).next e2 m2
  refine ⟨p, vs, j, n, rfl, r2, e2.h _ _ o.n (e.h _ _ o.n h), by rw [t.len]; exact hj, ?_⟩
  exact k _ _ (step2 (e.trans e2) o1.z) (P1.set o1.z o.n (.inr o.mine)) ⟨⟨_, upd_same, (t.imp fun _ _ => τ.mono (e.trans e2).z).set (τ.mono e2.z r) n⟩, o1.z, o.n, o.mine, by rw [List.length_set]; exact o.l⟩
end
/-! ### loops -/
inductive Flow (ρ β : Type)
  | go (b : β) | brk (b : β) | ret (r : ρ)
def forF {α β : Type} (f : α → β → Option β) : List α → β → Option β
  | [], b => some b
  | x :: r, b => (f x b).bind fun b' => forF f r b'
def Flow.nxt {ρ β : Type} (k : β → Option (Flow ρ β)) : Flow ρ β → Option (Flow ρ β)
  | .go b => k b
  | .brk b => some (.go b)
  | .ret y => some (.ret y)
def Flow.thn {ρ β γ : Type} (k : β → Option γ) (g : ρ → Option γ) : Flow ρ β → Option γ
  | .go b => k b
  | .brk b => k b
  | .ret y => g y
def forS {ρ α β : Type} (f : α → β → Option (Flow ρ β)) : List α → β → Option (Flow ρ β)
  | [], b => some (.go b)
  | x :: r, b => (f x b).bind (Flow.nxt (forS f r))
def whileS {ρ β : Type} (f : β → Option (Flow ρ β)) : Nat → β → Option (Flow ρ β)
  | 0, _ => none
  | n + 1, b => (f b).bind (Flow.nxt (whileS f n))
section
variable {ρ α β γ : Type} {k : β → Option (Flow ρ β)} {f : α → β → Option (Flow ρ β)} {f' : α → β → Option β} {x : α} {r : List α} {b : β} {y : ρ} {q : Flow ρ β}
theorem nxt_go (h : Flow.nxt k (.go b) = some q) : k b = some q := h
theorem nxt_brk (h : Flow.nxt k (.brk b) = some q) : q = .go b := (Option.some.inj h).symm
theorem nxt_ret (h : Flow.nxt k (.ret y) = some q) : q = .ret y := (Option.some.inj h).symm
theorem go_inv {k : β → Option γ} {g : ρ → Option γ} {z : γ} (h : Flow.thn k g (.go b) = some z) : k b = some z := h
theorem ret_inv {k : β → Option γ} {g : ρ → Option γ} {z : γ} (h : Flow.thn k g (.ret y) = some z) : g y = some z := h
theorem forS_cons (h : forS f (x :: r) b = some q) : (f x b).bind (Flow.nxt (forS f r)) = some q := h
theorem forS_nil (h : forS f [] b = some q) : q = .go b := (Option.some.inj h).symm
theorem forF_cons {c : β} (h : forF f' (x :: r) b = some c) : (f' x b).bind (fun b' => forF f' r b') = some c := h
theorem forF_nil {c : β} (h : forF f' [] b = some c) : c = b := (Option.some.inj h).symm
end
section
variable {α β : Type} {τ : Ty α} {xs : List α}
/-- what a turn is to reach -/
def LoopW (I : List α → L2.St → Hp → Hp → Prop) (Z1 : Hp) (r : List α) : L2.St → Hp → Prop := fun σ H => ∃ Z, Same Z1 Z ∧ Same Z H ∧ I r σ Z H
/-- I: what is true ahead of the turns for the rest of the items -/
theorem st_for {wi : TI} {g : TG} (I : List α → L2.St → Hp → Hp → Prop) (P : Pt S Z0 H0 M Z H s) (hi : EvI M (fun _ _ => True) wi σ Z H s τ xs s1)
    (h0 : ∀ Z1 H1, Step M.fp Z H Z1 H1 → Pt S Z0 H0 M Z1 H1 s1 → I xs σ Z1 H1)
    (hs : ∀ Z1 H1, Step M.fp Z H Z1 H1 → ∀ x r σ' v Z' H' Z2 H2, Same Z1 Z' → I (x :: r) σ' Z' H' → Step [] Z' H' Z2 H2 → τ.r Z2 v x →
      g v σ' H2 fun σ2 H3 => u { D with nx := LoopW I Z1 r, ct := LoopW I Z1 r, bk := D.nx } σ2 H3)
    (hd : ∀ σ' Z' H', Same Z Z' → Same Z' H' → I [] σ' Z' H' → D.nx σ' H') : tFor wi g u D σ H := by
  refine hi Z H (Same.refl _) SameX.refl P.sub P.m _ fun J Z1 H1 e m ⟨_, G, Y, wk, hG, hY⟩ => ?_
  refine for_it wk (fun i => LoopW I Z1 (xs.drop i)) ⟨Z1, Same.refl _, e.s, by rw [List.drop_zero]; exact h0 Z1 H1 e (P.next e m)⟩ ?_ ?_ ?_
  · rintro i σ' H' _ ⟨Z', sa, sb, _⟩
    exact hG Z' H' sa sb trivial
  · rintro i v σ' H3 H4 hin ⟨Z', sa, sb, hI⟩ y
    obtain ⟨Z4, x, ex, st4, rx⟩ := hY i Z' H3 v H4 hin sa sb (hG Z' H3 sa sb trivial) y
    have hd : xs.drop i = x :: xs.drop (i + 1) := by
      rw [List.drop_eq_getElem_cons hin]
      rw [List.getElem?_eq_getElem hin] at ex
      rw [Option.some.inj ex]
    rw [hd] at hI
    exact hs Z1 H1 e x _ σ' v Z' H3 Z4 H4 sa hI st4 rx
  · rintro σ' H' ⟨Z', sa, sb, hI⟩
    rw [List.drop_length] at hI
    exact hd σ' Z' H' (e.z.trans sa) sb hI
end
theorem bind_inv {α β : Type} {o : Option α} {f : α → Option β} {y : β} (h : o.bind f = some y) : ∃ x, o = some x ∧ f x = some y := Option.bind_eq_some_iff.mp h
theorem guard_inv {c : Prop} [Decidable c] {β : Type} {o : Option β} {y : β} (h : (if c then o else none) = some y) : c ∧ o = some y := by
  by_cases hc : c
  · rw [if_pos hc] at h; exact ⟨hc, h⟩
  · rw [if_neg hc] at h; cases h
theorem ifT {β : Type} {b : Bool} {o p y : β} (hb : b = true) (h : (if b = true then o else p) = y) : o = y := by rw [if_pos hb] at h; exact h
theorem ifF {β : Type} {b : Bool} {o p y : β} (hb : b = false) (h : (if b = true then o else p) = y) : p = y := by rw [if_neg (by rw [hb]; exact Bool.false_ne_true)] at h; exact h
theorem Pt.item {Z1 H1 : Hp} (P : Pt S Z0 H0 M Z H s) (e : Step [] Z H Z1 H1) : Pt S Z0 H0 M Z1 H1 s := P.next e.pure (M.pure e P.m)
theorem Mu.away {x : Addr} {Z1 H1 : Hp} (e : Step [x] Z H Z1 H1) (nx : x ∉ M.fp) (m : M.m s Z H) : M.m s Z1 H1 :=
  M.loc e.z (fun a ha o ho => e.h a o (fun q => nx (by rw [List.mem_singleton] at q; rw [← q]; exact ha)) ho) (fun a _ h z => e.n a h z) m
/-- self.f = e, self new -/
theorem st_fld {α : Type} {τ : Ty α} {x : α} {i : Nat} {p C dx : Addr} {fs : List (Str × V)} {f : Str} {tv : TE} (P : Pt S Z0 H0 M Z H s) (hp : H p = some (.ins C dx fs)) (zp : Z p = none) (np : p ∉ M.fp) (mp : p ∈ S ∨ H0 p = none) (hσ : σ[i]? = some (some (.ref p)))
    (e : Ev M tv σ Z H s (ty τ x) s1) (c : Cls K C) (n : NoAttr K C f) (l : fs.length < 1000) (k : ∀ v Z1 H1, Step (p :: M.fp) Z H Z1 H1 → Pt S Z0 H0 M Z1 H1 s1 → τ.r Z1 v x → H1 p = some (.ins C dx (putF f v fs)) → Z1 p = none → D.nx σ H1) : sFld K (tVar i) tv f D σ H :=
  e Z H (Same.refl _) SameX.refl P.sub P.m _ fun v Z1 H1 e m r => by
    have h1 : H1 p = some (.ins C dx fs) := e.h _ _ np hp
    have z1 : Z1 p = none := e.n p (some_ne hp) zp
    exact ⟨.ref p, hσ, p, C, dx, fs, rfl, h1, c, n, l, k v Z1 _ (step2 e z1) ((P.next e m).set z1 np mp) r upd_same z1⟩
/-- a list of one's own in the block of a comprehension -/
theorem ev_oX {α : Type} {τ : Ty α} {xs : List α} {p : Addr} {i : Nat} {Z1 H1 : Hp} (o : Own S H0 M.fp Z H τ p xs) (zz : Same Z Z1) (hh : SameX M.fp H H1) (e : σ[i]? = some (some (.ref p))) : Ev M (tVar i) σ Z1 H1 s (li τ xs) s := by
  obtain ⟨vs, h, t⟩ := o.ex
  exact ev_own e (hh _ _ o.n h) o.n (t.imp fun _ _ => τ.mono zz) o.l
end
/-! ### the draws -/
structure DS where
  ns : List Int
  k : Nat
  x : Nat
def rowZ (ns : List Int) (k : Nat) : Int :=
  let c0 := ns.getD k 0
  let c := if c0 < 0 then -2 * c0 - 1 else c0
  if c < 10 ^ 9 then
    let a := (c * 48271 + k * 69621 + 11) % 2147483647
    let b := (a * 16807 + c * 7 + k + 5) % 2147483629
    let d := (b * 39373 + a * b + 3) % 2147483587
    a + b * 2147483647 + d * 2147483647 ^ 2
  else c
def DS.cur (s : DS) (m : Int) : Nat := if (s.x : Int) < m then (rowZ s.ns s.k).toNat else s.x
def nxV (s : DS) (m : Int) : Int := (s.cur m : Int) % m
def nxS (s : DS) (m : Int) : DS := ⟨s.ns, if (s.x : Int) < m then s.k + 1 else s.k, ((s.cur m : Int) / m).toNat⟩
theorem nx_ge (s : DS) {m : Int} (h : 0 < m) : 0 ≤ nxV s m := Int.emod_nonneg _ (by omega)
theorem nx_lt (s : DS) {m : Int} (h : 0 < m) : nxV s m < m := Int.emod_lt_of_pos _ h
def NxOk (m : Int) : Prop := 0 < m ∧ m.natAbs < 2 ^ 200
instance {m : Int} : Decidable (NxOk m) := inferInstanceAs (Decidable (_ ∧ _))
def muD (st sc : Addr) : Mu DS where
  fp := [st]
  m := fun s Z H => H st = some (.lst [.ref sc, .int (s.k : Nat), .int (s.x : Nat)]) ∧ Z sc = some (.lst (s.ns.map V.int)) ∧ Z st = none
  al := fun ⟨h, _, z⟩ a ha => by rw [List.mem_singleton] at ha; subst ha; exact ⟨some_ne h, z⟩
  loc := fun sz hk hn ⟨h, hs, z⟩ => ⟨hk _ List.mem_cons_self _ h, sz _ _ hs, hn _ List.mem_cons_self (some_ne h) z⟩
theorem muD_back {st sc : Addr} : (muD st sc).Back := fun sz ⟨_, hs, z⟩ ⟨h', hs', _⟩ => ⟨h', by rw [hs, ← hs', sz _ _ hs], z⟩
section
variable {K : PySem.W.Frag} {σ : L2.St} {H : Hp} {D : Ends}
theorem st_draws {r : List V → Hp → VK → Prop} {a : Addr} {ns : List Int} {i j : Nat} (hA : SqL K H a (ns.map V.int)) (hlen : ns.length ≤ 63) (k : ∀ st sc Z0 Z1 H1, Pt [] Z0 H (muD st sc) Z1 H1 ⟨ns, 0, 0⟩ → D.nx (σ.set i (some (.ref st))) H1)
    (hr : ∀ xs H Q, (∃ p ys, xs = [.ref p] ∧ (SqL K H p ys ∨ SqT K H p ys) ∧ ∀ l, H l = none → Q (.ref l) (upd H l (.lst ys))) → r xs H Q := by exact fun _ _ _ h => h) (hσ : σ[j]? = some (some (.ref a)) := by rfl) :
    tAsg (tLst (tCons (tCB r (tCons (tVar j) tNil)) (tCons (tC (.int 0)) (tCons (tC (.int 0)) tNil)))) (gName i) D σ H := by
  refine ⟨.ref a, hσ, hr _ _ _ ⟨a, _, rfl, .inl hA, fun sc hsc => ?_⟩⟩
  refine ⟨by show 3 ≤ sizeLine; decide, fun st hst => ?_⟩
  have s0 : Same (fun _ => none : Hp) H := fun _ _ h => by cases h
  have e1 := Step.new (o := .lst (ns.map V.int)) s0 hsc
  have e2 := Step.own (o := .lst [.ref sc, .int 0, .int 0]) e1.s hst
  exact k st sc (fun _ => none) _ _ ⟨e1.trans e2, ⟨upd_same, upd_same, by rw [upd_ne (fun q => by rw [q, upd_same] at hst; cases hst)]⟩, fun x hx => by rw [show x = st from List.mem_singleton.mp hx]; exact .inr (same_x e1 hst)⟩
end
end TP
namespace TP
open PySem PySem.Spec PyProof.Rows L2
section
variable {μ : Type} {S : List Addr} {Z0 H0 : Hp} {M : Mu μ} {σ : L2.St} {Z H : Hp} {s s' s1 s2 s3 : μ} {ta tb tc te : TE} {t : TA} {K : PySem.W.Frag} {D : Ends} {u w : TS}
theorem whileS_cons {ρ β : Type} {f : β → Option (Flow ρ β)} {n : Nat} {b : β} {q : Flow ρ β} (h : whileS f n b = some q) : ∃ k, n = k + 1 ∧ (f b).bind (Flow.nxt (whileS f k)) = some q := by
  cases n with
  | zero => cases h
  | succ k => exact ⟨k, rfl, h⟩
def WhW (I : Nat → L2.St → Hp → Hp → Prop) (k : Nat) : L2.St → Hp → Prop := fun σ H => ∃ Z, I k σ Z H
theorem st_while {c : TT} {tb : TS} (I : Nat → L2.St → Hp → Hp → Prop) (n : Nat) (P : Pt S Z0 H0 M Z H s) (h0 : I n σ Z H)
    (hs : ∀ n σ' Z' H', I n σ' Z' H' → ∃ k s s1 b, n = k + 1 ∧ Pt S Z0 H0 M Z' H' s ∧ EvT M c σ' Z' H' s b s1 ∧ (b = true → ∀ Z1 H1, Step M.fp Z' H' Z1 H1 → Pt S Z0 H0 M Z1 H1 s1 → tb { D with nx := WhW I k, ct := WhW I k, bk := D.nx } σ' H1) ∧
      (b = false → ∀ Z1 H1, Step M.fp Z' H' Z1 H1 → Pt S Z0 H0 M Z1 H1 s1 → D.nx σ' H1)) : tWhile c tb D σ H := by
  refine ⟨fun m σ H => ∃ Z, I m σ Z H, ⟨n, Z, h0⟩, ?_⟩
  rintro m σ' H' ⟨Z', hI⟩
  obtain ⟨k, s, s1, b, rfl, P, et, ht, hf⟩ := hs m σ' Z' H' hI
  refine et Z' H' (Same.refl _) SameX.refl P.sub P.m _ fun Z1 H1 e m => ?_
  cases b with
  | true =>
    rw [if_pos rfl]
    exact ⟨WhW I k, fun σ3 H3 h3 => ⟨k, Nat.lt_succ_self _, h3⟩, ht rfl Z1 H1 e (P.next e m)⟩
  | false =>
    rw [if_neg Bool.false_ne_true]
    exact hf rfl Z1 H1 e (P.next e m)
end
end TP

namespace TP
open PySem PySem.Spec PyProof.Rows L2
section
variable {μ : Type} {S : List Addr} {Z0 H0 : Hp} {M : Mu μ} {σ : L2.St} {Z H : Hp} {s s' s1 s2 s3 : μ} {ta tb tc te : TE} {t : TA} {K : PySem.W.Frag} {D : Ends} {u w : TS}
/-! ### isinstance -/
theorem ev_isi {r : List V → Hp → VK → Prop} {R : Rr M.fp} {c : V} {v t : Value} {b : Bool} (hr : ∀ xs H Q, rIsi K xs H Q → r xs H Q) (ha : Ev M ta σ Z H s R s1) (tx : ∀ Z H v, Same Z H → R.r Z H v → TyX K H v t) (hc : ClsV c v) (hk : PySem.W.kitOne K t v = some b) :
    Ev M (tCB r (tCons ta (tCons (tC c) tNil))) σ Z H s (ty yBool b) s1 :=
  ev_cb (Rs := rac R (rac ⟨fun _ _ v => v = c, fun _ h => h⟩ ra0)) (eva_cons ha (eva_cons (ev_of fun _ _ _ _ _ _ q => q _ rfl) eva_nil)) fun _ _ _ sz ⟨x, r1, e1, h1, y, r2, e2, h2, e3⟩ _ q => by
    cases e3; cases e2; cases e1
    have h2' : y = c := h2
    subst h2'
    exact hr _ _ _ ⟨x, y, t, v, b, rfl, hc, tx _ _ _ sz h1, hk, q _ _ _ (Step.refl sz) rfl⟩
section
variable {fp : List Addr} {α β γ δ : Type} {τ : Ty α} {υ : Ty β} {φ : Ty γ} {ψ : Ty δ}
theorem tx_int {x : Int} : ∀ Z H v, Same Z H → (ty (fp := fp) yInt x).r Z H v → TyX K H v (.type "int") := fun _ _ _ _ h => by cases h; exact .base (.int _)
theorem tx_bool {x : Bool} : ∀ Z H v, Same Z H → (ty (fp := fp) yBool x).r Z H v → TyX K H v (.type "bool") := fun _ _ _ _ h => by cases h; exact .base (.bl _)
theorem tx_str {x : Str} : ∀ Z H v, Same Z H → (ty (fp := fp) yStr x).r Z H v → TyX K H v (.type "str") := fun _ _ _ _ h => by rw [h.1]; exact .base (.str _)
theorem tx_li {x : List α} : ∀ Z H v, Same Z H → (li (fp := fp) τ x).r Z H v → TyX K H v (.type "list") := fun _ _ _ sz h => by
  obtain ⟨p, vs, rfl, g, _, _⟩ := rdl sz h
  exact .base (.lst g)
theorem tx_sqT {H : Hp} {a : Addr} {vs : List V} (h : SqT K H a vs) : TyX K H (.ref a) (.type "tuple") := by
  rcases h with (h | ⟨o, h⟩) | ⟨o, its, n, h, hc, _⟩
  · exact .base (.tup h)
  · exact .fTuple h
  · exact .kTuple h hc
theorem tx_tup {x : List α} : ∀ Z H v, Same Z H → (ty (fp := fp) (yTup K τ) x).r Z H v → TyX K H v (.type "tuple") := fun _ _ _ sz ⟨a, vs, e, h, _⟩ => by subst e; exact tx_sqT (seqT_same sz h)
theorem tx_p2 {x : α × β} : ∀ Z H v, Same Z H → (ty (fp := fp) (yP2 K τ υ) x).r Z H v → TyX K H v (.type "tuple") := fun _ _ _ sz ⟨a, _, _, e, h, _⟩ => by subst e; exact tx_sqT (seqT_same sz h)
theorem tx_p3 {x : α × β × γ} : ∀ Z H v, Same Z H → (ty (fp := fp) (yP3 K τ υ φ) x).r Z H v → TyX K H v (.type "tuple") := fun _ _ _ sz ⟨a, _, _, _, e, h, _⟩ => by subst e; exact tx_sqT (seqT_same sz h)
end
end
end TP

namespace TP
open PySem PySem.Spec PyProof.Rows L2
/-! on, where what is bound is known: proofs that are no rfl, so that the kernel evaluates nothing -/
theorem bsome {α β : Type} {x : α} {f : α → Option β} : (some x).bind f = f x := by rw [Option.bind_some]
theorem bnone {α β : Type} {f : α → Option β} : (none : Option α).bind f = none := of_eq_true (eq_self _)
theorem thn_go {ρ β γ : Type} {b : β} {k : β → Option γ} {g : ρ → Option γ} : Flow.thn k g (.go b) = k b := by simp only [Flow.thn]
theorem thn_brk {ρ β γ : Type} {b : β} {k : β → Option γ} {g : ρ → Option γ} : Flow.thn k g (.brk b) = k b := by simp only [Flow.thn]
theorem thn_ret {ρ β γ : Type} {y : ρ} {k : β → Option γ} {g : ρ → Option γ} : Flow.thn k g (.ret y) = g y := by simp only [Flow.thn]
theorem forF_foldl {α β : Type} {f : α → β → Option β} {g : β → α → β} (h : ∀ x b, f x b = some (g b x)) : ∀ (xs : List α) (b : β), forF f xs b = some (xs.foldl g b)
  | [], _ => rfl
  | x :: r, b => by
    show (f x b).bind _ = _
    rw [h x b]
    exact forF_foldl h r _
theorem forF_inv {α β : Type} {f : α → β → Option β} {I : Nat → β → Prop} {m : Nat} (h : ∀ n x b, n < m → I n b → ∃ b', f x b = some b' ∧ I (n + 1) b') : ∀ (xs : List α) (n : Nat) (b : β), n + xs.length ≤ m → I n b → ∃ b', forF f xs b = some b' ∧ I (n + xs.length) b'
  | [], _, b, _, i => ⟨b, rfl, i⟩
  | x :: r, n, b, l, i => by
    rw [List.length_cons] at l
    obtain ⟨b1, e, i1⟩ := h n x b (by omega) i
    obtain ⟨b2, e2, i2⟩ := forF_inv h r (n + 1) b1 (by omega) i1
    refine ⟨b2, ?_, by rw [List.length_cons, show n + (r.length + 1) = n + 1 + r.length by omega]; exact i2⟩
    show (f x b).bind _ = _
    rw [e]
    exact e2
theorem forS_inv {ρ α β : Type} {f : α → β → Option (Flow ρ β)} {I : Nat → β → Prop} {m : Nat} (h : ∀ n x b, n < m → I n b → ∃ b', f x b = some (.go b') ∧ I (n + 1) b') : ∀ (xs : List α) (n : Nat) (b : β), n + xs.length ≤ m → I n b → ∃ b', forS f xs b = some (.go b') ∧ I (n + xs.length) b'
  | [], _, b, _, i => ⟨b, rfl, i⟩
  | x :: r, n, b, l, i => by
    rw [List.length_cons] at l
    obtain ⟨b1, e, i1⟩ := h n x b (by omega) i
    obtain ⟨b2, e2, i2⟩ := forS_inv h r (n + 1) b1 (by omega) i1
    refine ⟨b2, ?_, by rw [List.length_cons, show n + (r.length + 1) = n + 1 + r.length by omega]; exact i2⟩
    show (f x b).bind _ = _
    rw [e]
    exact e2
theorem mapS_all {α β μ : Type} {f : α → μ → Option (β × μ)} {R : β → Prop} (h : ∀ x s, ∃ y s', f x s = some (y, s') ∧ R y) : ∀ (xs : List α) (s : μ), ∃ ys s', mapS f xs s = some (ys, s') ∧ ys.length = xs.length ∧ ∀ y ∈ ys, R y
  | [], s => ⟨[], s, rfl, rfl, fun _ h => nomatch h⟩
  | x :: r, s => by
    obtain ⟨y, s1, e, hy⟩ := h x s
    obtain ⟨ys, s2, e2, l, hs⟩ := mapS_all h r s1
    refine ⟨y :: ys, s2, ?_, congrArg Nat.succ l, fun z hz => ?_⟩
    · show (f x s).bind _ = _
      rw [e]
      show (mapS f r s1).bind _ = _
      rw [e2]
      rfl
    · rcases List.mem_cons.mp hz with rfl | hz
      · exact hy
      · exact hs z hz
theorem cutA_none {α : Type} (xs : List α) {c : Int} (h : 0 ≤ c) : cutA xs none (some c) = xs.take c.toNat := by
  obtain ⟨k, rfl⟩ := Int.eq_ofNat_of_zero_le h
  unfold cutA
  rw [HT.sIx_none, HT.sIx_nat, List.drop_zero, Nat.sub_zero, Int.toNat_natCast]
  by_cases q : k ≤ xs.length
  · rw [Nat.min_eq_left q]
  · rw [Nat.min_eq_right (by omega), List.take_length, List.take_of_length_le (by omega)]
theorem cutA_to {α : Type} (xs : List α) {a c : Int} (h : 0 ≤ a) (h2 : a ≤ c) (h3 : c ≤ xs.length) : cutA xs (some a) (some c) = (xs.drop a.toNat).take (c - a).toNat := by
  obtain ⟨k, rfl⟩ := Int.eq_ofNat_of_zero_le h
  obtain ⟨m, rfl⟩ := Int.eq_ofNat_of_zero_le (show 0 ≤ c by omega)
  unfold cutA
  rw [HT.sIx_nat, HT.sIx_nat, Nat.min_eq_left (by omega), Nat.min_eq_left (by omega), Int.toNat_natCast, show ((m : Int) - (k : Int)).toNat = m - k by omega]
theorem cutA_from {α : Type} (xs : List α) {a : Int} (h : 0 ≤ a) : cutA xs (some a) none = xs.drop a.toNat := by
  obtain ⟨k, rfl⟩ := Int.eq_ofNat_of_zero_le h
  unfold cutA
  rw [HT.sIx_nat, HT.sIx_none, Int.toNat_natCast]
  by_cases q : k ≤ xs.length
  · rw [Nat.min_eq_left q, List.take_of_length_le (by rw [List.length_drop]; omega)]
  · rw [Nat.min_eq_right (by omega), List.drop_length, List.drop_of_length_le (by omega)]
    simp
theorem ixN_of {n : Nat} {i : Int} (h : 0 ≤ i) (l : i < n) : ixN n i = some i.toNat := by
  obtain ⟨k, rfl⟩ := Int.eq_ofNat_of_zero_le h
  rw [Int.toNat_natCast]
  unfold ixN
  split <;> first | rfl | omega | (split <;> first | rfl | omega) | skip
theorem atI_of {α : Type} {xs : List α} {i : Int} (h : 0 ≤ i) : L2.atI xs i = xs[i.toNat]? := by
  by_cases l : i < xs.length
  · unfold L2.atI
    rw [ixN_of h l]
    rfl
  · rw [List.getElem?_eq_none (by omega)]
    obtain ⟨k, rfl⟩ := Int.eq_ofNat_of_zero_le h
    unfold L2.atI ixN
    split <;> first | rfl | (split <;> first | rfl | omega) | skip
theorem nxOk_of {m : Int} (h : 0 < m) (l : m < 2 ^ 199) : NxOk m := ⟨h, by
  have : m.natAbs < 2 ^ 199 := by
    have e : (2 : Int) ^ 199 = ((2 ^ 199 : Nat) : Int) := by decide
    rw [e] at l
    omega
  exact Nat.lt_trans this (by decide)⟩
theorem rangeOk_of {a b : Int} (h : 0 ≤ a) (h1 : a ≤ 16777216) (l : b ≤ 16777216) (l2 : -16777216 ≤ b) : RangeOk a b := ⟨⟨by omega, by omega⟩, ⟨by omega, by omega⟩, by omega⟩
end TP
namespace TP
open PySem PySem.Spec PyProof.Rows L2
theorem forF_idx {α β : Type} {f : α → β → Option β} {I : Nat → β → Prop} : ∀ (xs : List α) (k : Nat) (b : β), (∀ n x b, xs[n]? = some x → I (k + n) b → ∃ b', f x b = some b' ∧ I (k + n + 1) b') → I k b → ∃ b', forF f xs b = some b' ∧ I (k + xs.length) b'
  | [], k, b, _, i => ⟨b, rfl, i⟩
  | x :: r, k, b, h, i => by
    obtain ⟨b1, e1, i1⟩ := h 0 x b rfl i
    obtain ⟨b2, e2, i2⟩ := forF_idx (I := I) r (k + 1) b1 (fun n y b' hy ib => by
      have := h (n + 1) y b' (by simpa using hy) (by rw [show k + (n + 1) = k + 1 + n by omega]; exact ib)
      rw [show k + 1 + n + 1 = k + (n + 1) + 1 by omega]
      exact this) i1
    refine ⟨b2, ?_, by rw [List.length_cons, show k + (r.length + 1) = k + 1 + r.length by omega]; exact i2⟩
    show (f x b).bind _ = _
    rw [e1]
    exact e2
theorem forS_idx {ρ α β : Type} {f : α → β → Option (Flow ρ β)} {I : Nat → β → Prop} : ∀ (xs : List α) (k : Nat) (b : β), (∀ n x b, xs[n]? = some x → I (k + n) b → ∃ b', f x b = some (.go b') ∧ I (k + n + 1) b') → I k b → ∃ b', forS f xs b = some (.go b') ∧ I (k + xs.length) b'
  | [], k, b, _, i => ⟨b, rfl, i⟩
  | x :: r, k, b, h, i => by
    obtain ⟨b1, e1, i1⟩ := h 0 x b rfl i
    obtain ⟨b2, e2, i2⟩ := forS_idx (I := I) r (k + 1) b1 (fun n y b' hy ib => by
      have := h (n + 1) y b' (by simpa using hy) (by rw [show k + (n + 1) = k + 1 + n by omega]; exact ib)
      rw [show k + 1 + n + 1 = k + (n + 1) + 1 by omega]
      exact this) i1
    refine ⟨b2, ?_, by rw [List.length_cons, show k + (r.length + 1) = k + 1 + r.length by omega]; exact i2⟩
    show (f x b).bind _ = _
    rw [e1]
    exact e2
theorem rangeZ_get {lo hi : Int} {n : Nat} {x : Int} (h : (rangeZ lo hi)[n]? = some x) : x = lo + (n : Int) ∧ (n : Int) < hi - lo := by
  have l := (List.getElem?_eq_some_iff.mp h).1
  rw [rangeZ_len] at l
  unfold rangeZ at h
  rw [List.getElem?_map, List.getElem?_range l] at h
  exact ⟨(Option.some.inj h).symm, by omega⟩
/-- a loop over range(m) that always goes on -/
theorem forF_rng {β : Type} {f : Int → β → Option β} (I : Nat → β → Prop) {m : Int} {b : β} (h0 : I 0 b) (h : ∀ (n : Nat) b, (n : Int) < m → I n b → ∃ b', f (n : Int) b = some b' ∧ I (n + 1) b') : ∃ b', forF f (rangeZ 0 m) b = some b' ∧ I m.toNat b' := by
  obtain ⟨b', e, i⟩ := forF_idx (f := f) (I := I) (rangeZ 0 m) 0 b (fun n x b hx ib => by
    obtain ⟨rfl, hm⟩ := rangeZ_get hx
    rw [Nat.zero_add] at ib ⊢
    obtain ⟨b', e, i⟩ := h n b (by omega) ib
    exact ⟨b', by rw [show (0 : Int) + (n : Int) = n by omega]; exact e, i⟩) h0
  refine ⟨b', e, ?_⟩
  rw [Nat.zero_add, rangeZ_len, Int.sub_zero] at i
  exact i
theorem forS_rng {ρ β : Type} {f : Int → β → Option (Flow ρ β)} (I : Nat → β → Prop) {m : Int} {b : β} (h0 : I 0 b) (h : ∀ (n : Nat) b, (n : Int) < m → I n b → ∃ b', f (n : Int) b = some (.go b') ∧ I (n + 1) b') : ∃ b', forS f (rangeZ 0 m) b = some (.go b') ∧ I m.toNat b' := by
  obtain ⟨b', e, i⟩ := forS_idx (f := f) (I := I) (rangeZ 0 m) 0 b (fun n x b hx ib => by
    obtain ⟨rfl, hm⟩ := rangeZ_get hx
    rw [Nat.zero_add] at ib ⊢
    obtain ⟨b', e, i⟩ := h n b (by omega) ib
    exact ⟨b', by rw [show (0 : Int) + (n : Int) = n by omega]; exact e, i⟩) h0
  refine ⟨b', e, ?_⟩
  rw [Nat.zero_add, rangeZ_len, Int.sub_zero] at i
  exact i
/-- enumerate, from k on -/
def enumF {α : Type} : Int → List α → List (Int × α)
  | _, [] => []
  | k, x :: r => (k, x) :: enumF (k + 1) r
theorem enumZ_eq {α : Type} (xs : List α) : enumZ xs = enumF 0 xs := by
  have key : ∀ (xs : List α) (k : Nat), ((List.range xs.length).map fun (i : Nat) => ((k + i : Nat) : Int)).zip xs = enumF (k : Int) xs := fun xs => by
    induction xs with
    | nil => intro k; rfl
    | cons x r ih =>
      intro k
      rw [List.length_cons, List.range_succ_eq_map, List.map_cons, List.map_map, List.zip_cons_cons]
      show (((k + 0 : Nat) : Int), x) :: _ = ((k : Int), x) :: enumF ((k : Int) + 1) r
      have := ih (k + 1)
      rw [Nat.add_zero]
      congr 1
      have e : ((k + 1 : Nat) : Int) = (k : Int) + 1 := by omega
      rw [← e, ← this]
      congr 2
      funext i
      show ((k + (i + 1) : Nat) : Int) = ((k + 1 + i : Nat) : Int)
      omega
  have := key xs 0
  unfold enumZ rangeZ
  rw [Int.sub_zero, Int.toNat_natCast]
  refine Eq.trans ?_ this
  congr 2
end TP

namespace TP
open PySem PySem.Spec PyProof.Rows L2
section
variable {α β γ μ : Type}
theorem mapO_eq {f : α → Option β} {g : α → β} : ∀ {xs : List α}, (∀ x ∈ xs, f x = some (g x)) → mapO f xs = some (xs.map g)
  | [], _ => rfl
  | x :: r, h => by
    show (f x).bind _ = _
    rw [h x List.mem_cons_self, Option.bind_some, mapO_eq fun y hy => h y (List.mem_cons_of_mem _ hy)]
    rfl
theorem mapO_ex {f : α → Option β} {R : β → Prop} : ∀ {xs : List α}, (∀ x ∈ xs, ∃ y, f x = some y ∧ R y) → ∃ ys, mapO f xs = some ys ∧ ys.length = xs.length ∧ ∀ y ∈ ys, R y
  | [], _ => ⟨[], rfl, rfl, fun _ h => nomatch h⟩
  | x :: r, h => by
    obtain ⟨y, e, hy⟩ := h x List.mem_cons_self
    obtain ⟨ys, e2, l, hs⟩ := mapO_ex fun y hy => h y (List.mem_cons_of_mem _ hy)
    refine ⟨y :: ys, ?_, congrArg Nat.succ l, fun z hz => ?_⟩
    · show (f x).bind _ = _
      rw [e, Option.bind_some, e2]
      rfl
    · rcases List.mem_cons.mp hz with rfl | hz
      · exact hy
      · exact hs z hz
/-- a comprehension that draws, with a fact of the items -/
theorem mapS_mem {f : α → μ → Option (β × μ)} {R : β → Prop} : ∀ {xs : List α} (s : μ), (∀ x ∈ xs, ∀ s, ∃ y s', f x s = some (y, s') ∧ R y) → ∃ ys s', mapS f xs s = some (ys, s') ∧ ys.length = xs.length ∧ ∀ y ∈ ys, R y
  | [], s, _ => ⟨[], s, rfl, rfl, fun _ h => nomatch h⟩
  | x :: r, s, h => by
    obtain ⟨y, s1, e, hy⟩ := h x List.mem_cons_self s
    obtain ⟨ys, s2, e2, l, hs⟩ := mapS_mem s1 fun y hy => h y (List.mem_cons_of_mem _ hy)
    refine ⟨y :: ys, s2, ?_, congrArg Nat.succ l, fun z hz => ?_⟩
    · show (f x s).bind _ = _
      rw [e]
      show (mapS f r s1).bind _ = _
      rw [e2]
      rfl
    · rcases List.mem_cons.mp hz with rfl | hz
      · exact hy
      · exact hs z hz
theorem forF_mem {f : α → β → Option β} {I : β → Prop} : ∀ {xs : List α} {b : β}, I b → (∀ x ∈ xs, ∀ b, I b → ∃ b', f x b = some b' ∧ I b') → ∃ b', forF f xs b = some b' ∧ I b'
  | [], b, i, _ => ⟨b, rfl, i⟩
  | x :: r, b, i, h => by
    obtain ⟨b1, e, i1⟩ := h x List.mem_cons_self b i
    obtain ⟨b2, e2, i2⟩ := forF_mem i1 fun y hy => h y (List.mem_cons_of_mem _ hy)
    refine ⟨b2, ?_, i2⟩
    show (f x b).bind _ = _
    rw [e]
    exact e2
theorem forS_mem {ρ : Type} {f : α → β → Option (Flow ρ β)} {I : β → Prop} : ∀ {xs : List α} {b : β}, I b → (∀ x ∈ xs, ∀ b, I b → ∃ b', f x b = some (.go b') ∧ I b') → ∃ b', forS f xs b = some (.go b') ∧ I b'
  | [], b, i, _ => ⟨b, rfl, i⟩
  | x :: r, b, i, h => by
    obtain ⟨b1, e, i1⟩ := h x List.mem_cons_self b i
    obtain ⟨b2, e2, i2⟩ := forS_mem i1 fun y hy => h y (List.mem_cons_of_mem _ hy)
    refine ⟨b2, ?_, i2⟩
    show (f x b).bind _ = _
    rw [e]
    exact e2
/-- the loop by places: what is true behind n items -/
theorem forF_take {f : α → β → Option β} {I : List α → β → Prop} {xs : List α} {b : β} (h0 : I [] b) (h : ∀ p x r b, xs = p ++ x :: r → I p b → ∃ b', f x b = some b' ∧ I (p ++ [x]) b') : ∃ b', forF f xs b = some b' ∧ I xs b' := by
  have key : ∀ (r p : List α) (b : β), xs = p ++ r → I p b → ∃ b', forF f r b = some b' ∧ I xs b' := fun r => by
    induction r with
    | nil => intro p b e i; rw [List.append_nil] at e; exact ⟨b, rfl, e ▸ i⟩
    | cons x r ih =>
      intro p b e i
      obtain ⟨b1, e1, i1⟩ := h p x r b e i
      obtain ⟨b2, e2, i2⟩ := ih (p ++ [x]) b1 (by rw [e]; simp) i1
      refine ⟨b2, ?_, i2⟩
      show (f x b).bind _ = _
      rw [e1]
      exact e2
  exact key xs [] b rfl h0
theorem forS_take {ρ : Type} {f : α → β → Option (Flow ρ β)} {I : List α → β → Prop} {xs : List α} {b : β} (h0 : I [] b) (h : ∀ p x r b, xs = p ++ x :: r → I p b → ∃ b', f x b = some (.go b') ∧ I (p ++ [x]) b') : ∃ b', forS f xs b = some (.go b') ∧ I xs b' := by
  have key : ∀ (r p : List α) (b : β), xs = p ++ r → I p b → ∃ b', forS f r b = some (.go b') ∧ I xs b' := fun r => by
    induction r with
    | nil => intro p b e i; rw [List.append_nil] at e; exact ⟨b, rfl, e ▸ i⟩
    | cons x r ih =>
      intro p b e i
      obtain ⟨b1, e1, i1⟩ := h p x r b e i
      obtain ⟨b2, e2, i2⟩ := ih (p ++ [x]) b1 (by rw [e]; simp) i1
      refine ⟨b2, ?_, i2⟩
      show (f x b).bind _ = _
      rw [e1]
      exact e2
  exact key xs [] b rfl h0
theorem str_len1 {c : Nat} : (⟨#[c]⟩ : Str).length = 1 := rfl
theorem str_app_len (x y : Str) : (x ++ y).length = x.length + y.length := by
  show (x.cps ++ y.cps).size = _
  rw [Array.size_append]; rfl
/-- == of data that are compared by their terms -/
theorem EqD.eqvB {K : PySem.W.Frag} {τ : Ty α} {d : α → PyData} {n : Nat} (E : EqD K τ d n) [DecidableEq α] (x y : α) : PyData.eqv (d x) (d y) = decide (x = y) := Bool.eq_iff_iff.mpr ((E.eqv x y).trans decide_eq_true_iff.symm)
theorem atI_lit {xs : List α} {i : Int} (h : 0 ≤ i) (l : i < xs.length) : ∃ x, L2.atI xs i = some x ∧ x ∈ xs := by
  rw [atI_of h]
  obtain ⟨k, rfl⟩ := Int.eq_ofNat_of_zero_le h
  rw [Int.toNat_natCast]
  have hk : k < xs.length := by omega
  exact ⟨xs[k], List.getElem?_eq_getElem hk, List.getElem_mem hk⟩
/-- a loop that looks at each item and may say no -/
theorem forS_all {ρ : Type} {f : α → Unit → Option (Flow ρ Unit)} {p : α → Bool} {r : ρ} : ∀ {xs : List α}, (∀ x ∈ xs, f x () = some (if p x = true then .go () else .ret r)) → forS f xs () = some (if xs.all p = true then .go () else .ret r)
  | [], _ => rfl
  | x :: t, h => by
    show (f x ()).bind _ = _
    rw [h x List.mem_cons_self, bsome]
    cases hp : p x with
    | true =>
      rw [if_pos rfl, List.all_cons, hp, Bool.true_and]
      exact forS_all fun y hy => h y (List.mem_cons_of_mem _ hy)
    | false =>
      rw [if_neg Bool.false_ne_true, List.all_cons, hp, Bool.false_and, if_neg Bool.false_ne_true]
      rfl
theorem rangeZ_mem {lo hi x : Int} (h : x ∈ rangeZ lo hi) : lo ≤ x ∧ x < hi := by
  unfold rangeZ at h
  obtain ⟨i, hi', rfl⟩ := List.mem_map.mp h
  have := List.mem_range.mp hi'
  omega
theorem rangeZ_map (n : Nat) (f : Int → α) : (rangeZ 0 (n : Int)).map f = (List.range n).map fun (k : Nat) => f (k : Int) := by
  unfold rangeZ
  rw [List.map_map, Int.sub_zero, Int.toNat_natCast]
  refine List.map_congr_left fun k _ => ?_
  show f (0 + (k : Int)) = f k
  rw [Int.zero_add]
theorem atI_nat {xs : List α} {k : Nat} {x : α} (h : xs[k]? = some x) : L2.atI xs (k : Int) = some x := by
  rw [atI_of (by omega), Int.toNat_natCast, h]
theorem fmO_eq {f : α → Option (Option β)} {p : α → Bool} {g : α → β} : ∀ {xs : List α}, (∀ x ∈ xs, f x = some (if p x = true then some (g x) else none)) → fmO f xs = some ((xs.filter p).map g)
  | [], _ => rfl
  | x :: t, h => by
    show (f x).bind _ = _
    rw [h x List.mem_cons_self, bsome, fmO_eq fun y hy => h y (List.mem_cons_of_mem _ hy), bsome]
    cases hp : p x with
    | true => rw [if_pos rfl, List.filter_cons_of_pos hp]; rfl
    | false => rw [if_neg Bool.false_ne_true, List.filter_cons_of_neg (by rw [hp]; exact Bool.false_ne_true)]
end
end TP

namespace TP
open PySem PySem.Spec PyProof.Rows L2
/-! ### exceptions -/
/-- a value, or an exception -/
inductive Res (ε α : Type)
  | ok (a : α) | er (e : ε)
deriving DecidableEq
def Res.thn {ε α γ : Type} (g : ε → Option γ) (k : α → Option γ) : Res ε α → Option γ
  | .ok a => k a
  | .er e => g e
section
variable {ε α γ : Type} {g : ε → Option γ} {k : α → Option γ} {y : γ}
theorem rok_inv {a : α} (h : Res.thn g k (.ok a) = some y) : k a = some y := h
theorem rer_inv {e : ε} (h : Res.thn g k (.er e) = some y) : g e = some y := h
end
section
variable {μ : Type} {S : List Addr} {Z0 H0 : Hp} {M : Mu μ} {σ : L2.St} {Z H : Hp} {s s' s1 s2 s3 : μ} {ta tb tc te : TE} {t : TA} {K : PySem.W.Frag} {D : Ends} {u w : TS} {X : Hp → Prop}
/-- the expression raises: X is asked of the heap then -/
def EvE (M : Mu μ) (t : TE) (σ : L2.St) (Z H : Hp) (s : μ) (X : Hp → Prop) (s' : μ) : Prop :=
  ∀ Z1 H1, Same Z Z1 → SameX M.fp H H1 → Same Z1 H1 → M.m s Z1 H1 → ∀ Q : VK, (∀ Z2 H2, Step M.fp Z1 H1 Z2 H2 → M.m s' Z2 H2 → X H2) → t σ H1 Q
def EvAE (M : Mu μ) (t : TA) (σ : L2.St) (Z H : Hp) (s : μ) (X : Hp → Prop) (s' : μ) : Prop :=
  ∀ Z1 H1, Same Z Z1 → SameX M.fp H H1 → Same Z1 H1 → M.m s Z1 H1 → ∀ Q : List V → Hp → Prop, (∀ Z2 H2, Step M.fp Z1 H1 Z2 H2 → M.m s' Z2 H2 → X H2) → t σ H1 Q
def EvTE (M : Mu μ) (t : TT) (σ : L2.St) (Z H : Hp) (s : μ) (X : Hp → Prop) (s' : μ) : Prop :=
  ∀ Z1 H1, Same Z Z1 → SameX M.fp H H1 → Same Z1 H1 → M.m s Z1 H1 → ∀ Q : Bool → Hp → Prop, (∀ Z2 H2, Step M.fp Z1 H1 Z2 H2 → M.m s' Z2 H2 → X H2) → t σ H1 Q
/-- for arguments of which Rs is true the promise raises: the class cls -/
def CallE (M : Mu μ) (sp : Sp) (E : XK) (Rs : Ra M.fp) (s : μ) (cls : Value) (s' : μ) : Prop :=
  ∀ Z H vs, Same Z H → M.m s Z H → Rs.r Z H vs → ∀ Q : VK, (∀ Z2 H2, Step M.fp Z H Z2 H2 → M.m s' Z2 H2 → E cls none H2) → sp vs H Q E
def InitE (M : Mu μ) (C : Addr) (sp : Sp) (E : XK) (Rs : Ra M.fp) (s : μ) (cls : Value) (s' : μ) : Prop :=
  ∀ Z H vs x dx, Same Z H → M.m s Z H → Rs.r Z H vs → H x = some (.ins C dx []) → Z x = none → x ∉ M.fp → ∀ Q : VK, (∀ Z2 H2, Step (x :: M.fp) Z H Z2 H2 → M.m s' Z2 H2 → E cls none H2) → sp (.ref x :: vs) H Q E
theorem eae_head (ha : EvE M ta σ Z H s X s1) : EvAE M (tCons ta t) σ Z H s X s1 := fun Z1 H1 a b c d _ q => ha Z1 H1 a b c d _ q
theorem eae_tail {R : Rr M.fp} (ha : Ev M ta σ Z H s R s1) (hr : EvAE M t σ Z H s1 X s2) : EvAE M (tCons ta t) σ Z H s X s2 :=
  fun Z1 H1 a b c d _ q => ha Z1 H1 a b c d _ fun _ Z2 H2 e m _ => hr Z2 H2 (a.trans e.z) (b.trans e.h) e.s m _ fun Z3 H3 e2 m2 => q Z3 H3 (e.trans e2) m2
theorem eve_args {sp : Sp} {E : XK} {dvs : List V} (ha : EvAE M t σ Z H s X s1) : EvE M (tCall sp dvs E t) σ Z H s X s1 := fun Z1 H1 a b c d _ q => ha Z1 H1 a b c d _ q
theorem eve_cb {r : List V → Hp → VK → Prop} (ha : EvAE M t σ Z H s X s1) : EvE M (tCB r t) σ Z H s X s1 := fun Z1 H1 a b c d _ q => ha Z1 H1 a b c d _ q
theorem eve_tup (ha : EvAE M t σ Z H s X s1) : EvE M (tTup t) σ Z H s X s1 := fun Z1 H1 a b c d _ q => ha Z1 H1 a b c d _ q
theorem eve_lst (ha : EvAE M t σ Z H s X s1) : EvE M (tLst t) σ Z H s X s1 := fun Z1 H1 a b c d _ q => ha Z1 H1 a b c d _ q
theorem eve_left {r : R2} (ha : EvE M ta σ Z H s X s1) : EvE M (tOp r ta tb) σ Z H s X s1 := fun Z1 H1 a b c d _ q => ha Z1 H1 a b c d _ q
theorem eve_right {r : R2} {R : Rr M.fp} (ha : Ev M ta σ Z H s R s1) (hb : EvE M tb σ Z H s1 X s2) : EvE M (tOp r ta tb) σ Z H s X s2 :=
  fun Z1 H1 a b c d _ q => ha Z1 H1 a b c d _ fun _ Z2 H2 e m _ => hb Z2 H2 (a.trans e.z) (b.trans e.h) e.s m _ fun Z3 H3 e2 m2 => q Z3 H3 (e.trans e2) m2
theorem eve_fld {f : Str} (ha : EvE M ta σ Z H s X s1) : EvE M (tFld K ta f) σ Z H s X s1 := fun Z1 H1 a b c d _ q => ha Z1 H1 a b c d _ q
theorem eve_call {sp : Sp} {E : XK} {Rs : Ra M.fp} {cls : Value} (C : CallE M sp E Rs s1 cls s2) (ha : EvA M t σ Z H s Rs s1) : EvE M (tCall sp [] E t) σ Z H s (E cls none) s2 :=
  fun Z1 H1 a b c d Q q => ha Z1 H1 a b c d _ fun vs Z2 H2 e m rs => by
    rw [List.append_nil]
    exact C Z2 H2 vs e.s m rs Q fun Z3 H3 e2 m2 => q Z3 H3 (e.trans e2) m2
theorem eve_meth {α : Type} {τ : Ty α} {x : α} {C' : Addr} {m : Str} {sp : Sp} {E : XK} {Rs : Ra M.fp} {cls : Value} (O : ObjOf τ C' m) (C : CallE M sp E (rac (ty τ x) Rs) s2 cls s3) (hx : Ev M ta σ Z H s (ty τ x) s1) (ha : EvA M t σ Z H s1 Rs s2) : EvE M (tMeth C' m sp [] E ta t) σ Z H s (E cls none) s3 :=
  fun Z1 H1 a b c d Q q => hx Z1 H1 a b c d _ fun v Z2 H2 e mm rv => by
    obtain ⟨p, dx, fs, rfl, hp, l⟩ := O _ _ _ rv
    refine ⟨p, dx, fs, rfl, e.s _ _ hp, l, ha Z2 H2 (a.trans e.z) (b.trans e.h) e.s mm _ fun vs Z3 H3 e2 m2 rs => ?_⟩
    rw [List.append_nil]
    exact C Z3 H3 _ e2.s m2 ⟨_, vs, rfl, τ.mono e2.z rv, rs⟩ Q fun Z4 H4 e3 m3 => q Z4 H4 ((e.trans e2).trans e3) m3
theorem eve_methA {α : Type} {τ : Ty α} {x : α} {C' : Addr} {m : Str} {sp : Sp} {E : XK} (O : ObjOf τ C' m) (hx : Ev M ta σ Z H s (ty τ x) s1) (ha : EvAE M t σ Z H s1 X s2) : EvE M (tMeth C' m sp [] E ta t) σ Z H s X s2 :=
  fun Z1 H1 a b c d Q q => hx Z1 H1 a b c d _ fun v Z2 H2 e mm rv => by
    obtain ⟨p, dx, fs, rfl, hp, l⟩ := O _ _ _ rv
    exact ⟨p, dx, fs, rfl, e.s _ _ hp, l, ha Z2 H2 (a.trans e.z) (b.trans e.h) e.s mm _ fun Z3 H3 e2 m2 => q Z3 H3 (e.trans e2) m2⟩
theorem eve_methO {C' : Addr} {m : Str} {sp : Sp} {E : XK} (hx : EvE M ta σ Z H s X s1) : EvE M (tMeth C' m sp [] E ta t) σ Z H s X s1 := fun Z1 H1 a b c d _ q => hx Z1 H1 a b c d _ q
theorem eve_makeA {C : Addr} {sp : Sp} {E : XK} (ha : EvAE M t σ Z H s X s1) : EvE M (tMake C sp [] E t) σ Z H s X s1 := fun Z1 H1 a b c d _ q => ha Z1 H1 a b c d _ q
theorem eve_makeKA {C : Addr} {n k : Nat} {sp : Sp} {E : XK} {gV : List V → List V → List V} {tk : TA} (ha : EvAE M t σ Z H s X s1) : EvE M (tMakeK C n k sp gV E t tk) σ Z H s X s1 := fun Z1 H1 a b c d _ q => ha Z1 H1 a b c d _ q
theorem Step.drop {S : List Addr} {Z H Z1 H1 : Hp} {x : Addr} (g : Step (x :: S) Z H Z1 H1) (hx : H x = none) : Step S Z H Z1 H1 := g.weak fun a h => by
  rcases List.mem_cons.mp h with e | h
  · exact .inr (e ▸ hx)
  · exact .inl h
theorem eve_make {C : Addr} {sp : Sp} {E : XK} {Rs : Ra M.fp} {cls : Value} (I : InitE M C sp E Rs s1 cls s2) (ha : EvA M t σ Z H s Rs s1) : EvE M (tMake C sp [] E t) σ Z H s (E cls none) s2 :=
  fun Z1 H1 a b c d Q q => ha Z1 H1 a b c d _ fun vs Z2 H2 e m rs x dx hx hd ne => by
    rw [List.append_nil]
    have st := Step.dict (C := C) e.s hx hd ne
    have nf : x ∉ M.fp := fun h => (M.al m x h).1 hx
    refine I Z2 _ vs x dx st.s (M.pure st m) (Rs.st st.pure rs) upd_same (same_none e.s hx) nf _ fun Z3 H3 e2 m2 => ?_
    exact q _ _ (e.trans (((st.pure (S := x :: M.fp)).trans e2).drop hx)) m2
theorem eve_makeK {C : Addr} {n k : Nat} {sp : Sp} {E : XK} {Rs Rk Rs' : Ra M.fp} {cls : Value} {gV : List V → List V → List V} {tk : TA} (I : InitE M C sp E Rs' s2 cls s3) (ha : EvA M t σ Z H s Rs s1) (hk : EvA M tk σ Z H s1 Rk s2)
    (hg : ∀ Z H vs zs x, Rs.r Z H vs → Rk.r Z H zs → vs.length = n ∧ zs.length = k ∧ ∃ ws, gV (.ref x :: vs) zs = .ref x :: ws ∧ Rs'.r Z H ws) : EvE M (tMakeK C n k sp gV E t tk) σ Z H s (E cls none) s3 :=
  fun Z1 H1 a b c d Q q => ha Z1 H1 a b c d _ fun vs Z2 H2 e m rs => hk Z2 H2 (a.trans e.z) (b.trans e.h) e.s m _ fun zs Z3 H3 e1 m1 rk => by
    have rs3 := Rs.st e1 rs
    obtain ⟨l1, l2, _⟩ := hg Z3 H3 vs zs 0 rs3 rk
    refine ⟨l1, l2, fun x dx hx hd ne => ?_⟩
    obtain ⟨_, _, ws, eg, rw'⟩ := hg Z3 H3 vs zs x rs3 rk
    rw [eg]
    have st := Step.dict (C := C) e1.s hx hd ne
    have nf : x ∉ M.fp := fun h => (M.al m1 x h).1 hx
    refine I Z3 _ ws x dx st.s (M.pure st m1) (Rs'.st st.pure rw') upd_same (same_none e1.s hx) nf _ fun Z4 H4 e2 m2 => ?_
    exact q _ _ ((e.trans e1).trans (((st.pure (S := x :: M.fp)).trans e2).drop hx)) m2
/-- defaults for all that are not written -/
theorem ev_makeD {C : Addr} {dvs : List V} {sp : Sp} {E : XK} {Rs Rs' : Ra M.fp} {R : Rr M.fp} (I : InitS M C sp E Rs' s1 R s2) (ha : EvA M t σ Z H s Rs s1) (hg : ∀ Z H vs, Rs.r Z H vs → Rs'.r Z H (vs ++ dvs)) : Ev M (tMake C sp dvs E t) σ Z H s R s2 :=
  fun Z1 H1 a b c d Q q => ha Z1 H1 a b c d _ fun vs Z2 H2 e m rs x dx hx hd ne => by
    have st := Step.dict (C := C) e.s hx hd ne
    have nf : x ∉ M.fp := fun h => (M.al m x h).1 hx
    refine I Z2 _ (vs ++ dvs) x dx st.s (M.pure st m) (hg _ _ _ (Rs.st st.pure rs)) upd_same (same_none e.s hx) nf _ fun Z3 H3 o e2 m2 ho rv => ⟨rfl, ?_⟩
    have hz3 : Z3 x = none := e2.n x (by rw [upd_same]; exact fun z => nomatch z) (same_none e.s hx)
    have e3 : Step M.fp Z2 H2 (upd Z3 x o) H3 := ((st.pure (S := x :: M.fp)).trans e2).freeze hx ho hz3
    refine q _ _ _ (e.trans e3) (M.loc (same_upd hz3) (fun _ _ _ e => e) (fun a ha _ z => ?_) m2) rv
    rw [upd_ne (fun q => nf (by rw [← q]; exact ha))]
    exact z
theorem eve_makeD {C : Addr} {dvs : List V} {sp : Sp} {E : XK} {Rs Rs' : Ra M.fp} {cls : Value} (I : InitE M C sp E Rs' s1 cls s2) (ha : EvA M t σ Z H s Rs s1) (hg : ∀ Z H vs, Rs.r Z H vs → Rs'.r Z H (vs ++ dvs)) : EvE M (tMake C sp dvs E t) σ Z H s (E cls none) s2 :=
  fun Z1 H1 a b c d Q q => ha Z1 H1 a b c d _ fun vs Z2 H2 e m rs x dx hx hd ne => by
    have st := Step.dict (C := C) e.s hx hd ne
    have nf : x ∉ M.fp := fun h => (M.al m x h).1 hx
    refine I Z2 _ (vs ++ dvs) x dx st.s (M.pure st m) (hg _ _ _ (Rs.st st.pure rs)) upd_same (same_none e.s hx) nf _ fun Z3 H3 e2 m2 => ?_
    exact q _ _ (e.trans (((st.pure (S := x :: M.fp)).trans e2).drop hx)) m2
/-! a call that is known not to raise -/
end
def Res.val {ε α : Type} (o : Option (Res ε α)) : Option α := o.bind (Res.thn (fun _ => none) some)
def Res.valS {ε α μ : Type} (o : Option (Res ε α × μ)) : Option (α × μ) := o.bind fun p => Res.thn (fun _ => none) (fun a => some (a, p.2)) p.1
theorem val_inv {ε α : Type} {o : Option (Res ε α)} {v : α} (h : Res.val o = some v) : o = some (.ok v) := by
  cases o with
  | none => cases h
  | some r =>
    cases r with
    | ok a => rw [show a = v from Option.some.inj h]
    | er e => cases h
theorem valS_inv {ε α μ : Type} {o : Option (Res ε α × μ)} {v : α × μ} (h : Res.valS o = some v) : o = some (.ok v.1, v.2) := by
  cases o with
  | none => cases h
  | some r =>
    obtain ⟨r, s⟩ := r
    cases r with
    | ok a => rw [← Option.some.inj h]
    | er e => cases h
section
variable {μ : Type} {S : List Addr} {Z0 H0 : Hp} {M : Mu μ} {σ : L2.St} {Z H : Hp} {s s' s1 s2 s3 : μ} {ta tb tc te : TE} {t : TA} {K : PySem.W.Frag} {D : Ends} {u w : TS} {X : Hp → Prop}
/-! tests that raise -/
theorem ete_val (h : EvE M te σ Z H s X s1) : EvTE M (tB te) σ Z H s X s1 := fun Z1 H1 p q r d _ k => h Z1 H1 p q r d _ k
theorem ete_cmp (h : EvE M te σ Z H s X s1) : EvTE M (tTest te) σ Z H s X s1 := fun Z1 H1 p q r d _ k => h Z1 H1 p q r d _ k
theorem ete_not {tA : TT} (h : EvTE M tA σ Z H s X s1) : EvTE M (tNot tA) σ Z H s X s1 := fun Z1 H1 p q r d _ k => h Z1 H1 p q r d _ k
/-! statements that raise -/
theorem st_setE {g : TG} (P : Pt S Z0 H0 M Z H s) (e : EvE M te σ Z H s X s1) (k : ∀ Z1 H1, Step M.fp Z H Z1 H1 → Pt S Z0 H0 M Z1 H1 s1 → X H1) : tAsg te g D σ H :=
  e Z H (Same.refl _) SameX.refl P.sub P.m _ fun Z1 H1 e m => k Z1 H1 e (P.next e m)
theorem st_retE (P : Pt S Z0 H0 M Z H s) (e : EvE M te σ Z H s X s1) (k : ∀ Z1 H1, Step M.fp Z H Z1 H1 → Pt S Z0 H0 M Z1 H1 s1 → X H1) : tRet te D σ H :=
  e Z H (Same.refl _) SameX.refl P.sub P.m _ fun Z1 H1 e m => k Z1 H1 e (P.next e m)
theorem st_exprE (P : Pt S Z0 H0 M Z H s) (e : EvE M te σ Z H s X s1) (k : ∀ Z1 H1, Step M.fp Z H Z1 H1 → Pt S Z0 H0 M Z1 H1 s1 → X H1) : tDrop te D σ H :=
  e Z H (Same.refl _) SameX.refl P.sub P.m _ fun Z1 H1 e m => k Z1 H1 e (P.next e m)
theorem st_ifE {tt : TT} (P : Pt S Z0 H0 M Z H s) (e : EvTE M tt σ Z H s X s1) (k : ∀ Z1 H1, Step M.fp Z H Z1 H1 → Pt S Z0 H0 M Z1 H1 s1 → X H1) : tIfS tt u w D σ H :=
  e Z H (Same.refl _) SameX.refl P.sub P.m _ fun Z1 H1 e m => k Z1 H1 e (P.next e m)
/-- a field of the thing that is being made -/
theorem ev_selfF {α : Type} {τ : Ty α} {x : α} {i : Nat} {p C dx : Addr} {fs : List (Str × V)} {f : Str} {v : V} (hp : H p = some (.ins C dx fs)) (np : p ∉ M.fp) (hσ : σ[i]? = some (some (.ref p))) (c : Cls K C) (n : NoAttr K C f) (l : fs.lookup f = some v) (hv : τ.r Z v x) : Ev M (tFld K (tVar i) f) σ Z H s (ty τ x) s :=
  fun Z1 H1 a b c' d Q q => ⟨.ref p, hσ, p, C, dx, fs, v, rfl, b _ _ np hp, c, n, l, q _ _ _ (Step.refl c') d (τ.mono a hv)⟩
end
end TP
namespace TP
open PySem PySem.Spec PyProof.Rows L2

theorem pi_tupB {X : Cx} {K : PySem.W.Frag} (hK : X.K = K) {tg l : Expr} {tl : TE} (hl : PE X l tl) : PI X tg l (iTup K tl) := by
  subst hK
  exact pi_tup hl
theorem pi_listB {X : Cx} {K : PySem.W.Frag} (hK : X.K = K) {tg l : Expr} {tl : TE} (hl : PE X l tl) : PI X tg l (iList K tl) := by
  subst hK
  exact pi_list hl
def rLenB (K : PySem.W.Frag) : List V → Hp → VK → Prop := fun xs H Q => ∃ p ys, xs = [.ref p] ∧ (SqL K H p ys ∨ SqT K H p ys) ∧ Q (.int ys.length) H
def rListB (K : PySem.W.Frag) : List V → Hp → VK → Prop := fun xs H Q => ∃ p ys, xs = [.ref p] ∧ (SqL K H p ys ∨ SqT K H p ys) ∧ ∀ l, H l = none → Q (.ref l) (upd H l (.lst ys))
def rTupleB (K : PySem.W.Frag) : List V → Hp → VK → Prop := fun xs H Q => ∃ p ys, xs = [.ref p] ∧ ((SqL K H p ys ∧ ∀ l, H l = none → Q (.ref l) (upd H l (.tup ys))) ∨ (SqT K H p ys ∧ Q (.ref p) H))
theorem pe_fldB {X : Cx} {K : PySem.W.Frag} (hK : X.K = K) {e : Expr} {f : Str} {pos : Pos} {ta : TE} (he : PE X e ta) (hb : attributeBase e f X.env (eval e X.env) = eval e X.env) : PE X (.Attribute e f pos) (tFld K ta f) := by
  subst hK
  exact pe_fld he hb
end TP

namespace TP
open PySem PySem.Spec PyProof.Rows L2
theorem kit_self {K : PySem.W.Frag} {C : Addr} : PySem.W.kitOne K (.ref C) (.ref C) = some true := by
  unfold PySem.W.kitOne
  rw [if_pos (by simp)]
theorem kit_sub {K : PySem.W.Frag} {t : Value} {C : Addr} {v : Bool} (h1 : PySem.W.isClsIn K C = true) (h2 : PySem.W.typeIn K (.ref C) = some (.type "type")) (h3 : PySem.W.subIn K t (.ref C) = some v) (h4 : (t == .ref C) = false) : PySem.W.kitOne K t (.ref C) = some v := by
  unfold PySem.W.kitOne
  rw [h4, if_neg Bool.false_ne_true]
  unfold PySem.W.kitCls
  have h1' : (PySem.W.clsIn K C).isSome = true := h1
  simp only [h1', h2, Bool.true_and]
  simp [h3]
theorem kit_subN {K : PySem.W.Frag} {t : Value} {C : Addr} (h1 : PySem.W.isClsIn K C = true) (h2 : PySem.W.typeIn K (.ref C) = some (.type "type")) (h3 : PySem.W.subIn K t (.ref C) = some false) (h4 : PySem.W.subIn K (.ref C) (.ref C) = some true) : PySem.W.kitOne K t (.ref C) = some false := by
  refine kit_sub h1 h2 h3 ?_
  cases e : (t == .ref C) with
  | false => rfl
  | true =>
    have e' : t = .ref C := beq_iff_eq.mp e
    rw [e', h4] at h3
    cases h3
theorem nf_self {K : PySem.W.Frag} {C : Addr} : PySem.W.notFirst K C (.ref C) = true := by simp [PySem.W.notFirst]
theorem nf_sub {K : PySem.W.Frag} {C : Addr} {t : Value} (h : PySem.W.subIn K t (.ref C) = some false) : PySem.W.notFirst K C t = true := by simp [PySem.W.notFirst, h]
end TP

/-! != of instances with an own ==, and == and != of such an instance with anything -/
namespace TPN
open PySem PySem.Spec PyProof.Rows L2
section
variable {M : Model} {prog : Program} {w : World} {A : Around} {E : Value → Shared → Prop} {s : Shared} {K : PySem.W.Frag} {x C f : Addr} {ox : Obj} {od : Option Obj} {b tb : Value}
theorem ifBound_ne {args : List Value} {Q : Option Value → Shared → Prop} (X : K.In s.heap) (I : PySem.W.InstAt s.heap x ox C od) (hs : PySem.W.findIn K (.ref C) "__ne__" = some (some (.builtin "object.__ne__")))
    (h : wpAny M A (call (.builtin "object.__ne__") (.ref x :: args)) (fun v => Q (some v)) E s) : wpAny M A (callSpecialIfBound? (.ref x) "__ne__" args) Q E s := by
  simp only [callSpecialIfBound?, bindSpecialIfBound?]
  refine wpAny_holding (wpAny_bind (wpAny_bind (wpAny_bind (I.type.here ((PySem.W.looks_findIn X hs).here ?_)))))
  refine wpAny_bind (wpAny_askSetting (wpAny_ite ?_))
  have fin : wpAny M A (call (.builtin "object.__ne__") ([.ref x] ++ args) >>= fun v => pure (some v)) Q E s := wpAny_bind (wpAny_mono h (fun v s' h' => wpAny_pure h') fun _ _ h' => h')
  split
  · exact wpAny_bind (wpAny_of_eq (F.cmp_object.ne.bind _) (wpAny_pure (by exact fin)))
  · exact wpAny_tryCatch (wpAny_bind (wpAny_of_eq (F.cmp_object.ne.bind _) (wpAny_pure (by exact fin))))
theorem entry_ne {Q : Fin → Shared → Prop} (hu : A.units < cLine) (X : K.In s.heap) (I : PySem.W.InstAt s.heap x ox C od) (hs : PySem.W.findIn K (.ref C) "__eq__" = some (some (.ref f))) (hf : PySem.W.isFn K (.ref f) = true)
    (h : wpAny M A (call (.ref f) [.ref x, b]) (fun v s' => ∃ r, v = .bool r ∧ Q (.done (.ret (.bool (!r)))) s') E s) : wpAny M A (Builtin.«object.__ne__» ⟨[.ref x, b], []⟩) Q E s := by
  unfold Builtin.«object.__ne__»
  repeat (first
    | with_reducible refine wpAny_cRoomFor hu ?_
    | (refine wpAny_bind (m := callSpecialIfBound? (.ref x) (Str.ofString "__eq__") [b]) (PySem.W.ifBound_K X I hs hf (wpAny_mono h (fun r s' hr => by
        obtain ⟨b, rfl, hq⟩ := hr
        repeat (first | exact hq | exact wpAny_pure hq | exact wpAny_truthy_bool hq | (refine wpAny_bind (m := truthy (.bool _)) (wpAny_truthy_bool ?_)) | wp_step)) fun _ _ e => e)))
    | wp_step)
theorem call_ne {Q : Value → Shared → Prop} (hu : A.units + 1 < cLine) (X : K.In s.heap) (I : PySem.W.InstAt s.heap x ox C od) (hm : PySem.W.mroIn K C (.type "object") = some true) (hs : PySem.W.findIn K (.ref C) "__eq__" = some (some (.ref f))) (hf : PySem.W.isFn K (.ref f) = true)
    (h : wpAny (model prog w) A.in1 (call (.ref f) [.ref x, b]) (fun v s' => ∃ r, v = .bool r ∧ Q (.bool (!r)) s') E s) :
    wpAny (model prog w) A (call (.builtin "object.__ne__") [.ref x, b]) Q E s :=
  wpAny_call (codeAny_call_builtin F.cmp_object.ne.plain F.cmpEntry_ne (PySem.W.check_slot F.cmpKind_ne F.cmpSplit_ne (I.type.andThen (PySem.W.looks_mroIn X hm)) (F.cmpArgs_ne _ _) (entry_ne (A := A.in1) hu X I hs hf (wpAny_mono h (fun v s' hv => by
    obtain ⟨r, e, q⟩ := hv
    exact ⟨r, e, q⟩) fun _ _ e => e))))
theorem ne_K {Q : Value → Shared → Prop} (hu : A.units + 1 < cLine) (X : K.In s.heap) (I : PySem.W.InstAt s.heap x ox C od) (hb : PySem.W.Looks (model prog w) s.heap (typeOf b) tb) (hn : PySem.W.notFirst K C tb = true)
    (hm : PySem.W.mroIn K C (.type "object") = some true) (hne : PySem.W.findIn K (.ref C) "__ne__" = some (some (.builtin "object.__ne__")))
    (hs : PySem.W.findIn K (.ref C) "__eq__" = some (some (.ref f))) (hf : PySem.W.isFn K (.ref f) = true)
    (h : wpAny (model prog w) A.in1 (call (.ref f) [.ref x, b]) (fun v s' => ∃ r, v = .bool r ∧ Q (.bool (!r)) s') E s) : wpAny (model prog w) A (richCompare .NotEq (.ref x) b) Q E s := by
  have one : wpAny (model prog w) A (tryCompare (.ref x) "__ne__" b) (fun r s' => ∃ v, r = some v ∧ Q v s') E s := by
    unfold tryCompare
    refine wpAny_bind (ifBound_ne X I hne (call_ne hu X I hm hs hf (wpAny_mono h (fun v s' hv => ?_) fun _ _ e => e)))
    obtain ⟨r, rfl, q⟩ := hv
    exact ⟨r, rfl, wpAny_pure ⟨_, rfl, q⟩⟩
  unfold richCompare
  simp only [oneThing_ref]
  refine wpAny_holding (wpAny_bind (wpAny_cRoomFor (by omega) ?_))
  rw [cmpInfo_NotEq]
  dsimp only
  refine wpAny_bind (I.type.here (wpAny_bind (hb.here ?_)))
  split
  · rename_i q
    have e : PySem.W.subIn K tb (.ref C) = some false := by
      rcases Bool.or_eq_true_iff.mp hn with e | e
      · rw [beq_iff_eq.mp e] at q; simp at q
      · exact beq_iff_eq.mp e
    refine wpAny_bind ((PySem.W.looks_subIn X e).here ?_)
    simp only [Bool.false_eq_true, if_false]
    refine wpAny_bind (wpAny_mono one (fun r s' z => ?_) fun _ _ e => e)
    obtain ⟨v, rfl, hq⟩ := z
    exact wpAny_pure hq
  · refine wpAny_bind (wpAny_pure ?_)
    simp only [Bool.false_eq_true, if_false]
    refine wpAny_bind (wpAny_mono one (fun r s' z => ?_) fun _ _ e => e)
    obtain ⟨v, rfl, hq⟩ := z
    exact wpAny_pure hq
end
end TPN
namespace TPN
open PySem PySem.Spec PyProof.Rows L2
/-- == (neg false) or != of x, an instance of a class with an own ==, with anything -/
def rOwnE (K : PySem.W.Frag) (C : Addr) (neg : Bool) (sp : Sp) (E : XK) : R2 := fun x y H Q => ∃ a dx fs t, x = .ref a ∧ H a = some (.ins C dx fs) ∧ TyX K H y t ∧ PySem.W.notFirst K C t = true ∧ sp [x, y] H (fun z H' => ∃ b, z = .bl b ∧ Q (.bl (b != neg)) H') E
theorem nf_self {K : PySem.W.Frag} {C : Addr} : PySem.W.notFirst K C (.ref C) = true := by simp [PySem.W.notFirst]
theorem op_ownE {X : Cx} {CX : CXT} {C f : Addr} {fd : FuncData} {ps : List Str} {sp : Sp} {n : Nat} {E : XK} (M : Meth X.K C "__eq__" f) (F : FnOk X.prog X.w X.K X.mg X.base CX n f fd ps sp) (hr : Room n X.A)
    (hb : Binds X.K fd ps []) (hx : Passes CX X E) : OpR X (compareOp .Eq) (rOwnE X.K C false sp E) := by
  intro pins s σ H x y v u Q I rx ry h
  obtain ⟨a, dx, fs, t, rfl, ha, ty, hn, q⟩ := h
  cases (show v = Value.ref a from rx)
  obtain ⟨mA, J, _⟩ := ins_get I.hok ha
  obtain ⟨od, J, _⟩ := J.look
  obtain ⟨P, Z, p, _⟩ := kit_of I ry ty
  obtain ⟨m, hF⟩ := I.fr
  show wpAny (model X.prog X.w) X.A (richCompare .Eq (.ref a) u) _ _ _
  refine PySem.W.cmp_K (op := .Eq) (tb := t) hr.units0 hF I.ok.mod.kin J (Z.ty _ _ I.kIn p) hn M.at_ M.fn ?_
  refine wpAny_mono (run_fn (Q := fun z H' => ∃ b, z = .bl b ∧ Q (.bl (b != false)) H') (us := [.ref a, u]) (vs := [.ref a, y]) F hr hb .nil hx I (.cons rfl (.cons ry .nil)) (by simpa using q)) (fun w s' z => ?_) fun _ _ x => x
  obtain ⟨z', H', I', rz, b, ez, qz⟩ := z
  subst ez
  cases (show w = Value.bool b from rz)
  exact ⟨.bl b, H', I', rfl, by simpa using qz⟩
theorem op_ownNE {X : Cx} {CX : CXT} {C f : Addr} {fd : FuncData} {ps : List Str} {sp : Sp} {n : Nat} {E : XK} (hm : PySem.W.mroIn X.K C (.type "object") = some true) (hne : PySem.W.findIn X.K (.ref C) "__ne__" = some (some (.builtin "object.__ne__")))
    (M : Meth X.K C "__eq__" f) (F : FnOk X.prog X.w X.K X.mg X.base CX n f fd ps sp) (hr : Room (n + 1) X.A)
    (hb : Binds X.K fd ps []) (hx : ∀ (pins : List (Addr × Obj)) (σ : L2.St) (H : Hp) (s : Shared) (e : Value) (s' : Shared), Inv X pins σ H s → CX X.stack H s E e s' → X.xe e s') : OpR X (compareOp .NotEq) (rOwnE X.K C true sp E) := by
  intro pins s σ H x y v u Q I rx ry h
  obtain ⟨a, dx, fs, t, rfl, ha, ty, hn, q⟩ := h
  cases (show v = Value.ref a from rx)
  obtain ⟨mA, J, _⟩ := ins_get I.hok ha
  obtain ⟨od, J, _⟩ := J.look
  obtain ⟨P, Z, p, _⟩ := kit_of I ry ty
  show wpAny (model X.prog X.w) X.A (richCompare .NotEq (.ref a) u) _ _ _
  have hr1 : Room n X.A.in1 := hr.in1
  refine ne_K (A := X.A) (tb := t) (by have := hr1.units0; exact this) I.kIn J (Z.ty _ _ I.kIn p) hn hm hne M.at_ M.fn ?_
  have e0 : Env0 X.prog X.w X.K X.mg X.base X.A.in1 X.stack s H := I.env0.in1
  have r2 : Vals [V.ref a, y] [Value.ref a, u] := .cons rfl (.cons ry .nil)
  have hl : ([Value.ref a, u] : List Value).length = ps.length := by rw [← r2.length]; exact F.len _ _ _ _ q
  refine wpAny_call (codeAny_mono (F.run X.A.in1 X.stack s H ⟨[.ref a, u], []⟩ [.ref a, u] [.ref a, y] _ E hr1 e0 (by
    have := hb s [.ref a, u] I.kIn (by simpa using hl)
    simpa using this) r2 q) fun r s' hq => ?_)
  cases r with
  | error e => exact hx pins σ H s e s' I hq
  | ok fl =>
    cases fl with
    | ret w =>
      obtain ⟨z, H', I', rz, b, ez, qz⟩ := I.after hq
      subst ez
      cases (show w = Value.bool b from rz)
      exact ⟨b, rfl, .bl (!b), H', I', rfl, by simpa using qz⟩
    | next => exact False.elim hq
    | brk => exact False.elim hq
    | cont => exact False.elim hq
end TPN

namespace TPN
open PySem PySem.Spec PyProof.Rows L2 PySem.SeqAt
section
variable {prog : Program} {w : World} {A : Around} {E : Value → Shared → Prop} {s : Shared} {K : PySem.W.Frag} {y C f : Addr} {oy : Obj} {od : Option Obj}
/-- None == an instance: its own == is asked -/
theorem eq_none_ref {Q : Value → Shared → Prop} (hu : A.units < cLine) (X : K.In s.heap) (I : PySem.W.InstAt s.heap y oy C od) (hsub : PySem.W.subIn K (.ref C) (.type "NoneType") = some false)
    (hs : PySem.W.findIn K (.ref C) "__eq__" = some (some (.ref f))) (hf : PySem.W.isFn K (.ref f) = true)
    (h : wpAny (model prog w) A (call (.ref f) [.ref y, .none]) (fun v s' => ∃ r, v = .bool r ∧ Q (.bool r) s') E s) : wpAny (model prog w) A (richCompare .Eq .none (.ref y)) Q E s := by
  have one : wpAny (model prog w) A (tryCompare .none "__eq__" (.ref y)) (fun r s' => r = none ∧ s' = s) E s :=
    wpAny_tryCompare_declines (show s.TypeIs .none "NoneType" from rfl) F.slot_NoneType_eq (call_gives F.slot_NoneType_eq rfl F.entry_NoneType_eq (F.args_NoneType_eq_2 _ _) (NoneType___eq___none_ref_0 y) ⟨rfl, rfl, rfl⟩)
  have two : wpAny (model prog w) A (tryCompare (.ref y) "__eq__" .none) (fun r s' => ∃ v, r = some v ∧ Q v s') E s := by
    unfold tryCompare
    refine wpAny_bind (PySem.W.ifBound_K X I hs hf (wpAny_mono h (fun v s' hv => ?_) fun _ _ e => e))
    obtain ⟨r, rfl, q⟩ := hv
    exact wpAny_pure ⟨_, rfl, q⟩
  have e0 : oneThing? .Eq .none (.ref y) = none := rfl
  simp only [richCompare, cmpInfo_Eq, e0]
  refine wpAny_holding (wpAny_bind (wpAny_cRoomFor hu ?_))
  refine wpAny_bind (wpAny_typeOf (show s.TypeIs .none "NoneType" from rfl) ?_)
  refine wpAny_bind (I.type.here ?_)
  have fin : wpAny (model prog w) A (tryCompare .none "__eq__" (.ref y)) (fun r s' => r = none ∧ s' = s) E s := one
  split
  · refine wpAny_bind ((PySem.W.looks_subIn X hsub).here ?_)
    simp only [Bool.false_eq_true, if_false, Bool.not_false, if_true]
    refine wpAny_bind (m := tryCompare .none _ (.ref y)) (wpAny_mono one (fun r s1 z => ?_) fun _ _ e => e)
    obtain ⟨z1, z2⟩ := z
    subst z1
    subst z2
    refine wpAny_bind (m := tryCompare (.ref y) _ .none) (wpAny_mono two (fun r s2 z => ?_) fun _ _ e => e)
    obtain ⟨v, rfl, q⟩ := z
    exact wpAny_pure q
  · rename_i q
    exact absurd (by simp) q
end
/-- == of what may be None or an instance of the class at C with an own == -/
def rOptE (K : PySem.W.Frag) (C : Addr) (sp : Sp) (E : XK) : R2 := fun x y H Q => (x = .non ∧ y = .non ∧ Q (.bl true) H) ∨ (x = .non ∧ (∃ a dx fs, y = .ref a ∧ H a = some (.ins C dx fs)) ∧ sp [y, x] H (fun z H' => ∃ b, z = .bl b ∧ Q (.bl b) H') E) ∨ rOwnE K C false sp E x y H Q
theorem op_optE {X : Cx} {CX : CXT} {C f : Addr} {fd : FuncData} {ps : List Str} {sp : Sp} {n : Nat} {E : XK} (hn : PySem.W.subIn X.K (.ref C) (.type "NoneType") = some false) (M : Meth X.K C "__eq__" f) (F : FnOk X.prog X.w X.K X.mg X.base CX n f fd ps sp) (hr : Room n X.A)
    (hb : Binds X.K fd ps []) (hx : Passes CX X E) : OpR X (compareOp .Eq) (rOptE X.K C sp E) := by
  intro pins s σ H x y v u Q I rx ry h
  rcases h with ⟨rfl, rfl, q⟩ | ⟨rfl, ⟨a, dx, fs, rfl, ha⟩, q⟩ | h
  · exact op_eq pins s σ H .non .non v u Q I rx ry ⟨rfl, by simpa using q⟩
  · cases rx
    cases (show u = Value.ref a from ry)
    obtain ⟨mA, J, _⟩ := ins_get I.hok ha
    obtain ⟨od, J, _⟩ := J.look
    show wpAny (model X.prog X.w) X.A (richCompare .Eq .none (.ref a)) _ _ _
    refine eq_none_ref hr.units0 I.kIn J hn M.at_ M.fn ?_
    refine wpAny_mono (run_fn (Q := fun z H' => ∃ b, z = .bl b ∧ Q (.bl b) H') (us := [.ref a, .none]) (vs := [.ref a, .non]) F hr hb .nil hx I (.cons rfl (.cons rfl .nil)) (by simpa using q)) (fun w s' z => ?_) fun _ _ x => x
    obtain ⟨z', H', I', rz, b, ez, qz⟩ := z
    subst ez
    cases (show w = Value.bool b from rz)
    exact ⟨b, rfl, .bl b, H', I', rfl, qz⟩
  · exact op_ownE M F hr hb hx pins s σ H x y v u Q I rx ry h
end TPN

namespace TP
open PySem PySem.Spec PyProof.Rows L2
/-! ### data by what == says of it -/
structure EqW (K : PySem.W.Frag) {α : Type} (τ : Ty α) (d : α → PyData) (n : Nat) : Prop where
  dp : ∀ Z H v x, Same Z H → τ.r Z v x → Dp K H v (d x)
  lay : ∀ Z v x, τ.r Z v x → (d x).canLay0 = true
  dep : ∀ x, (d x).depth ≤ n
def dLst {α : Type} (d : α → PyData) (xs : List α) : PyData := .list (xs.map d)
def dTup {α : Type} (d : α → PyData) (xs : List α) : PyData := .tuple (xs.map d)
def dP1 {α : Type} (d : α → PyData) (x : α) : PyData := .tuple [d x]
def dP2 {α β : Type} (d : α → PyData) (e : β → PyData) (x : α × β) : PyData := .tuple [d x.1, e x.2]
def dP3 {α β γ : Type} (d : α → PyData) (e : β → PyData) (f : γ → PyData) (x : α × β × γ) : PyData := .tuple [d x.1, e x.2.1, f x.2.2]
def dP4 {α β γ δ : Type} (d : α → PyData) (e : β → PyData) (f : γ → PyData) (g : δ → PyData) (x : α × β × γ × δ) : PyData := .tuple [d x.1, e x.2.1, f x.2.2.1, g x.2.2.2]
def dNon (_ : Unit) : PyData := .none
section
variable {K : PySem.W.Frag} {α β γ δ : Type} {τ : Ty α} {υ : Ty β} {φ : Ty γ} {ψ : Ty δ} {d : α → PyData} {e : β → PyData} {f : γ → PyData} {g : δ → PyData} {n m k l : Nat}
theorem EqD.w (E : EqD K τ d n) : EqW K τ d n := ⟨E.dp, E.lay, E.dep⟩
theorem EqW.all (E : EqW K τ d n) {Z H : Hp} (sz : Same Z H) : ∀ {vs : List V} {xs : List α}, All (τ.r Z) vs xs → DpAll K H vs (xs.map d)
  | _, _, .nil => .nil
  | _, _, .cons h t => .cons (E.dp _ _ _ _ sz h) (E.all sz t)
theorem EqW.lays (E : EqW K τ d n) {Z : Hp} : ∀ {vs : List V} {xs : List α}, All (τ.r Z) vs xs → PyData.canLayAll0 (xs.map d) = true
  | _, _, .nil => by simp [PyData.canLayAll0]
  | _, _, .cons h t => by
    have h1 := E.lay _ _ _ h
    have h2 := E.lays t
    simp [PyData.canLayAll0, h1, h2]
theorem EqW.deps (E : EqW K τ d n) : ∀ xs : List α, PyData.depthAll (xs.map d) ≤ n
  | [] => by simp [PyData.depthAll]
  | x :: r => by
    have h1 := E.dep x
    have h2 := E.deps r
    simp only [List.map_cons, PyData.depthAll]
    omega
theorem eqw_list (E : EqW K τ d n) : EqW K (yList τ) (dLst d) (n + 1) where
  dp := fun Z H v x sz ⟨a, vs, e, h, t, _⟩ => by subst e; exact .lst (SqL.of (sz _ _ h)) (E.all sz t)
  lay := fun Z v x ⟨a, vs, e, h, t, _⟩ => by simpa [PyData.canLay0, dLst] using E.lays t
  dep := fun x => by have := E.deps x; simp only [PyData.depth, dLst]; omega
theorem eqw_tup (E : EqW K τ d n) : EqW K (yTup K τ) (dTup d) (n + 1) where
  dp := fun Z H v x sz ⟨a, vs, e, h, t, _⟩ => by subst e; exact .tup (seqT_same sz h) (E.all sz t)
  lay := fun Z v x ⟨a, vs, e, h, t, _⟩ => by simpa [PyData.canLay0, dTup] using E.lays t
  dep := fun x => by have := E.deps x; simp only [PyData.depth, dTup]; omega
theorem eqw_p1 (E : EqW K τ d n) : EqW K (yP1 K τ) (dP1 d) (n + 1) where
  dp := fun Z H v x sz ⟨a, v1, e, h, h1⟩ => by subst e; exact .tup (seqT_same sz h) (.cons (E.dp _ _ _ _ sz h1) .nil)
  lay := fun Z v x ⟨a, v1, e, h, h1⟩ => by simp [PyData.canLay0, PyData.canLayAll0, dP1, E.lay _ _ _ h1]
  dep := fun x => by have := E.dep x; simp only [PyData.depth, PyData.depthAll, dP1]; omega
theorem eqw_p2 (E : EqW K τ d n) (F : EqW K υ e m) : EqW K (yP2 K τ υ) (dP2 d e) (max n m + 1) where
  dp := fun Z H v x sz ⟨a, v1, v2, e, h, h1, h2⟩ => by subst e; exact .tup (seqT_same sz h) (.cons (E.dp _ _ _ _ sz h1) (.cons (F.dp _ _ _ _ sz h2) .nil))
  lay := fun Z v x ⟨a, v1, v2, e, h, h1, h2⟩ => by simp [PyData.canLay0, PyData.canLayAll0, dP2, E.lay _ _ _ h1, F.lay _ _ _ h2]
  dep := fun x => by have := E.dep x.1; have := F.dep x.2; simp only [PyData.depth, PyData.depthAll, dP2]; omega
theorem eqw_p3 (E : EqW K τ d n) (F : EqW K υ e m) (G : EqW K φ f k) : EqW K (yP3 K τ υ φ) (dP3 d e f) (max n (max m k) + 1) where
  dp := fun Z H v x sz ⟨a, v1, v2, v3, e, h, h1, h2, h3⟩ => by subst e; exact .tup (seqT_same sz h) (.cons (E.dp _ _ _ _ sz h1) (.cons (F.dp _ _ _ _ sz h2) (.cons (G.dp _ _ _ _ sz h3) .nil)))
  lay := fun Z v x ⟨a, v1, v2, v3, e, h, h1, h2, h3⟩ => by simp [PyData.canLay0, PyData.canLayAll0, dP3, E.lay _ _ _ h1, F.lay _ _ _ h2, G.lay _ _ _ h3]
  dep := fun x => by have := E.dep x.1; have := F.dep x.2.1; have := G.dep x.2.2; simp only [PyData.depth, PyData.depthAll, dP3]; omega
theorem eqw_p4 (E : EqW K τ d n) (F : EqW K υ e m) (G : EqW K φ f k) (I : EqW K ψ g l) : EqW K (yP4 K τ υ φ ψ) (dP4 d e f g) (max n (max m (max k l)) + 1) where
  dp := fun Z H v x sz ⟨a, v1, v2, v3, v4, e, h, h1, h2, h3, h4⟩ => by subst e; exact .tup (seqT_same sz h) (.cons (E.dp _ _ _ _ sz h1) (.cons (F.dp _ _ _ _ sz h2) (.cons (G.dp _ _ _ _ sz h3) (.cons (I.dp _ _ _ _ sz h4) .nil))))
  lay := fun Z v x ⟨a, v1, v2, v3, v4, e, h, h1, h2, h3, h4⟩ => by simp [PyData.canLay0, PyData.canLayAll0, dP4, E.lay _ _ _ h1, F.lay _ _ _ h2, G.lay _ _ _ h3, I.lay _ _ _ h4]
  dep := fun x => by have := E.dep x.1; have := F.dep x.2.1; have := G.dep x.2.2.1; have := I.dep x.2.2.2; simp only [PyData.depth, PyData.depthAll, dP4]; omega
theorem eqw_non : EqW K yNon dNon 0 := ⟨fun _ _ _ x _ h => by cases h; exact .non, fun _ _ _ _ => rfl, fun _ => Nat.le_refl _⟩
theorem eqw_opt (E : EqW K τ d n) : EqW K (yOpt τ) (optD d) n where
  dp := fun Z H v x sz h => match x, h with
    | none, h => by rw [show v = .non from h]; exact .non
    | some x, h => E.dp _ _ _ _ sz h.1
  lay := fun Z v x h => match x, h with
    | none, h => rfl
    | some x, h => E.lay _ _ _ h.1
  dep := fun x => match x with
    | none => Nat.zero_le _
    | some x => E.dep x
theorem EqW.gd {fp : List Addr} (E : EqW K τ d n) (x : α) : GD K (ty (fp := fp) τ x) (d x) := fun _ _ _ sz h => ⟨E.dp _ _ _ _ sz h, E.lay _ _ _ h⟩
theorem EqW.gdl {fp : List Addr} (E : EqW K τ d n) (xs : List α) : GD K (li (fp := fp) τ xs) (dLst d xs) := fun _ _ _ sz h => by
  obtain ⟨p, vs, rfl, g, t, _⟩ := rdl sz h
  exact ⟨.lst (SqL.of g) (E.all sz t), by simpa [PyData.canLay0, dLst] using E.lays t⟩
theorem EqW.dpt (E : EqW K τ d n) (h : n ≤ 64) (x : α) : (d x).depth ≤ 64 := Nat.le_trans (E.dep x) h
theorem EqW.dpl (E : EqW K τ d n) (h : n + 1 ≤ 64) (xs : List α) : (dLst d xs).depth ≤ 64 := by have := E.deps xs; simp only [PyData.depth, dLst]; omega
end
section
variable {μ : Type} {M : Mu μ} {σ : L2.St} {Z H : Hp} {s s' s1 s2 s3 : μ} {ta tb tc te : TE} {t : TA} {K : PySem.W.Frag}
theorem ev_eqW {R R' : Rr M.fp} {c c' : PyData} (G : GD K R c) (G' : GD K R' c') (l : c.depth ≤ 64) (l' : c'.depth ≤ 64) (ha : Ev M ta σ Z H s R s1) (hb : Ev M tb σ Z H s1 R' s2) : Ev M (tOp (rEqD K) ta tb) σ Z H s (ty yBool (PyData.eqv c c')) s2 :=
  ev_op ha hb fun _ _ _ _ sz e1 e2 _ q => by
    obtain ⟨d1, k1⟩ := G _ _ _ sz e1
    obtain ⟨d2, k2⟩ := G' _ _ _ sz e2
    exact ⟨c, c', d1, d2, shaped_of k1 l (Nat.le_refl _), shaped_of k2 l' (Nat.le_refl _), q _ _ _ (Step.refl sz) rfl⟩
theorem ev_neW {R R' : Rr M.fp} {c c' : PyData} (G : GD K R c) (G' : GD K R' c') (l : c.depth ≤ 64) (l' : c'.depth ≤ 64) (ha : Ev M ta σ Z H s R s1) (hb : Ev M tb σ Z H s1 R' s2) : Ev M (tOp (rNeD K) ta tb) σ Z H s (ty yBool (!PyData.eqv c c')) s2 :=
  ev_op ha hb fun _ _ _ _ sz e1 e2 _ q => by
    obtain ⟨d1, k1⟩ := G _ _ _ sz e1
    obtain ⟨d2, k2⟩ := G' _ _ _ sz e2
    exact ⟨c, c', d1, d2, shaped_of k1 l (Nat.le_refl _), shaped_of k2 l' (Nat.le_refl _), q _ _ _ (Step.refl sz) rfl⟩
theorem ev_cmpS {F : Str → Str → Bool} {x y : Str} (ha : Ev M ta σ Z H s (ty yStr x) s1) (hb : Ev M tb σ Z H s1 (ty yStr y) s2) : Ev M (tOp (fun x y H Q => ∃ i j, x = .str i ∧ y = .str j ∧ Q (.bl (F i j)) H) ta tb) σ Z H s (ty yBool (F x y)) s2 :=
  ev_op ha hb fun _ _ _ _ sz e1 e2 _ q => ⟨x, y, e1.1, e2.1, q _ _ _ (Step.refl sz) rfl⟩
theorem ev_chainG {R1 R0 R3 : Rr M.fp} {r r' : R2} {p q : Bool} (h1 : ∀ Z H x y, Same Z H → R1.r Z H x → R0.r Z H y → ∀ Q : VK, Q (.bl p) H → r x y H Q) (h2 : ∀ Z H x y, Same Z H → R0.r Z H x → R3.r Z H y → ∀ Q : VK, Q (.bl q) H → r' x y H Q)
    (ha : Ev M ta σ Z H s R1 s1) (hb : Ev M tb σ Z H s1 R0 s1) (hc : Ev M tc σ Z H s1 R3 s1) : Ev M (tChain r r' ta tb tc) σ Z H s (ty yBool (p && q)) s1 :=
  fun Z1 H1 a b c d Q k => ha Z1 H1 a b c d _ fun v Z2 H2 e m rv => hb Z2 H2 (a.trans e.z) (b.trans e.h) e.s m _ fun w Z3 H3 e2 m2 rw => by
    have e3 := e.trans e2
    refine h1 Z3 H3 v w e2.s (R1.st e2 rv) rw _ ⟨p, rfl, ?_⟩
    cases p with
    | true => rw [if_pos rfl]; exact hc Z3 H3 (a.trans e3.z) (b.trans e3.h) e3.s m2 _ fun u Z4 H4 e4 m4 ru => h2 Z4 H4 w u e4.s (R0.st e4 rw) ru _ (k _ Z4 H4 (e3.trans e4) m4 rfl)
    | false => rw [if_neg Bool.false_ne_true]; exact k _ Z3 H3 e3 m2 rfl
/-- the third part is read only where the first two hold -/
theorem ev_chainB {i j : Int} {b : Bool} {o : Option Bool} {p r : Int → Int → Bool} (ha : Ev M ta σ Z H s (ty yInt i) s1) (hb : Ev M tb σ Z H s1 (ty yInt j) s1) (hc : p i j = true → ∀ y, o = some y → ∃ k, y = r j k ∧ Ev M tc σ Z H s1 (ty yInt k) s1) (h : (if p i j = true then o else some false) = some b) :
    Ev M (tChain (rI0 fun i j => .bl (p i j)) (rI0 fun i j => .bl (r i j)) ta tb tc) σ Z H s (ty yBool b) s1 := by
  cases hp : p i j with
  | false =>
    rw [if_neg (by rw [hp]; exact Bool.false_ne_true)] at h
    have hb' := Option.some.inj h
    subst hb'
    intro Z1 H1 a b c d Q q
    exact ha Z1 H1 a b c d _ fun v Z2 H2 e m rv => hb Z2 H2 (a.trans e.z) (b.trans e.h) e.s m _ fun w Z3 H3 e2 m2 rw => ⟨i, j, rv, rw, p i j, rfl, by
      rw [hp, if_neg Bool.false_ne_true]
      exact q _ Z3 H3 (e.trans e2) m2 rfl⟩
  | true =>
    rw [if_pos hp] at h
    obtain ⟨k, rfl, hk⟩ := hc hp b h
    have := ev_chainO (b := true) (o := none) (p := p) (r := r) ha hb (fun _ => hk)
    rw [hp, Bool.true_and] at this
    exact this
theorem ev_chainS {F G : Str → Str → Bool} {x y z : Str} (ha : Ev M ta σ Z H s (ty yStr x) s1) (hb : Ev M tb σ Z H s1 (ty yStr y) s1) (hc : Ev M tc σ Z H s1 (ty yStr z) s1) :
    Ev M (tChain (fun x y H Q => ∃ i j, x = .str i ∧ y = .str j ∧ Q (.bl (F i j)) H) (fun x y H Q => ∃ i j, x = .str i ∧ y = .str j ∧ Q (.bl (G i j)) H) ta tb tc) σ Z H s (ty yBool (F x y && G y z)) s1 :=
  ev_chainG (R1 := ty yStr x) (R0 := ty yStr y) (R3 := ty yStr z) (fun _ _ _ _ _ e1 e2 _ q => ⟨x, y, e1.1, e2.1, q⟩) (fun _ _ _ _ _ e1 e2 _ q => ⟨y, z, e1.1, e2.1, q⟩) ha hb hc
theorem ev_isB {x y : Bool} (ha : Ev M ta σ Z H s (ty yBool x) s1) (hb : Ev M tb σ Z H s1 (ty yBool y) s2) : Ev M (tOp rIsB ta tb) σ Z H s (ty yBool (decide (x = y))) s2 :=
  ev_op ha hb fun _ _ _ _ sz e1 e2 _ q => ⟨x, y, e1, e2, q _ _ _ (Step.refl sz) rfl⟩
theorem ev_notB {x y : Bool} (ha : Ev M ta σ Z H s (ty yBool x) s1) (hb : Ev M tb σ Z H s1 (ty yBool y) s2) : Ev M (tOp rNotB ta tb) σ Z H s (ty yBool (!decide (x = y))) s2 :=
  ev_op ha hb fun _ _ _ _ sz e1 e2 _ q => ⟨x, y, e1, e2, q _ _ _ (Step.refl sz) rfl⟩
theorem all_nil {α : Type} {R : V → α → Prop} {vs : List V} {xs : List α} (h : All R vs xs) (e : vs = []) : xs = [] := by
  cases h with
  | nil => rfl
  | cons _ _ => cases e
theorem ev_catT {α : Type} {τ : Ty α} {xs ys : List α} (ha : Ev M ta σ Z H s (ty (yTup K τ) xs) s1) (hb : Ev M tb σ Z H s1 (ty (yTup K τ) ys) s2) (l : xs.length + ys.length ≤ sizeLine) : Ev M (tOp (rCatA K) ta tb) σ Z H s (ty (yTup K τ) (xs ++ ys)) s2 :=
  ev_op ha hb fun Z H v w sz ⟨a, vs, e1, h1, t1, l1⟩ ⟨b, ws, e2, h2, t2, l2⟩ _ q =>
    ⟨a, b, vs, ws, e1, e2, seqT_same sz h1, seqT_same sz h2, by rw [t1.len, t2.len]; exact l,
      fun e => q _ _ _ (Step.refl sz) ⟨b, ws, rfl, h2, by rw [all_nil t1 e]; exact t2, by rw [all_nil t1 e]; exact l2⟩,
      fun _ e => q _ _ _ (Step.refl sz) ⟨a, vs, rfl, h1, by rw [all_nil t2 e, List.append_nil]; exact t1, by rw [all_nil t2 e, List.append_nil]; exact l1⟩,
      fun _ _ p hp => q _ _ _ (Step.new sz hp) ⟨p, _, rfl, sqT_new, (t1.app t2).imp fun _ _ => τ.mono (same_upd (same_none sz hp)), by rw [List.length_append]; exact l⟩⟩
theorem ev_ord {x : Str} (ha : Ev M ta σ Z H s (ty yStr x) s1) (l : x.length = 1) : Ev M (tCB (fun xs H Q => ∃ x, xs = [.str x] ∧ x.length = 1 ∧ Q (.int (x.cps.getD 0 0 : Nat)) H) (tCons ta tNil)) σ Z H s (ty yInt ((x.cps.getD 0 0 : Nat) : Int)) s1 :=
  ev_cb (eva_cons ha eva_nil) fun _ _ vs sz ⟨v, r, e, h, e2⟩ Q q => ⟨x, by rw [e, h.1, show r = [] from e2], l, q _ _ _ (Step.refl sz) rfl⟩
/-- == and != of an instance by its own == with anything -/
theorem ev_ownE {α : Type} {τ : Ty α} {x : α} {R0 : Rr M.fp} {C : Addr} {t : Value} {sp : Sp} {E : XK} {b neg : Bool} (O : ∀ Z v x, τ.r Z v x → ∃ a dx fs, v = .ref a ∧ Z a = some (.ins C dx fs)) (tx : ∀ Z H v, Same Z H → R0.r Z H v → TyX K H v t) (hn : PySem.W.notFirst K C t = true)
    (c : CallS M sp E (rac (ty τ x) (rac R0 ra0)) s2 (ty yBool b) s3) (ha : Ev M ta σ Z H s (ty τ x) s1) (hb : Ev M tb σ Z H s1 R0 s2) : Ev M (tOp (TPN.rOwnE K C neg sp E) ta tb) σ Z H s (ty yBool (b != neg)) s3 :=
  fun Z1 H1 a' b' c' d' Q q => ha Z1 H1 a' b' c' d' _ fun v Z2 H2 e m rv => hb Z2 H2 (a'.trans e.z) (b'.trans e.h) e.s m _ fun w Z3 H3 e2 m2 rw => by
    have rv3 := τ.mono e2.z rv
    obtain ⟨p, dx, fs, rfl, hp⟩ := O _ _ _ rv3
    exact ⟨p, dx, fs, t, rfl, e2.s _ _ hp, tx _ _ _ e2.s rw, hn, c Z3 H3 _ e2.s m2 ⟨_, _, rfl, rv3, _, _, rfl, rw, rfl⟩ _ fun u Z4 H4 e3 m3 ru => ⟨b, ru, q _ Z4 H4 ((e.trans e2).trans e3) m3 rfl⟩⟩
/-- the class of what may be None -/
def clsO {α : Type} (c : Value) : Option α → Value
  | none => .type "NoneType"
  | some _ => c
theorem tx_opt {fp : List Addr} {α : Type} {τ : Ty α} {c : Value} (h : ∀ (x : α) Z H v, Same Z H → (ty (fp := fp) τ x).r Z H v → TyX K H v c) {x : Option α} : ∀ Z H v, Same Z H → (ty (fp := fp) (yOpt τ) x).r Z H v → TyX K H v (clsO c x) := fun Z H v sz e => match x, e with
  | none, e => by rw [show v = .non from e]; exact .base .non
  | some y, e => h y Z H v sz e.1
theorem tx_non {fp : List Addr} {x : Unit} : ∀ Z H v, Same Z H → (ty (fp := fp) yNon x).r Z H v → TyX K H v (.type "NoneType") := fun _ _ _ _ h => by rw [show _ = V.non from h]; exact .base .non
theorem kit_opt {α : Type} {c t : Value} {b : Bool} (h0 : PySem.W.kitOne K (.type "NoneType") t = some false) (h1 : PySem.W.kitOne K c t = some b) (x : Option α) : PySem.W.kitOne K (clsO c x) t = some (x.isSome && b) := match x with
  | none => h0
  | some _ => h1
theorem nf_opt {α : Type} {C : Addr} {c : Value} (h0 : PySem.W.notFirst K C (.type "NoneType") = true) (h1 : PySem.W.notFirst K C c = true) (x : Option α) : PySem.W.notFirst K C (clsO c x) = true := match x with
  | none => h0
  | some _ => h1
def optEqO {α : Type} (f : α → Option α → Option Bool) : Option α → Option α → Option Bool
  | none, none => some true
  | none, some y => f y none
  | some x, y => f x y
theorem ev_optE {α : Type} {τ : Ty α} {a b : Option α} {r : Bool} {f : α → Option α → Option Bool} {C : Addr} {t : Option α → Value} {sp : Sp} {E : XK} (h : optEqO f a b = some r) (O : ∀ Z v x, τ.r Z v x → ∃ a dx fs, v = .ref a ∧ Z a = some (.ins C dx fs))
    (tx : ∀ (y : Option α) Z H v, Same Z H → (ty (fp := M.fp) (yOpt τ) y).r Z H v → TyX K H v (t y)) (hn : ∀ y, PySem.W.notFirst K C (t y) = true) (c : ∀ x y r, f x y = some r → CallS M sp E (rac (ty τ x) (rac (ty (yOpt τ) y) ra0)) s2 (ty yBool r) s2)
    (ha : Ev M ta σ Z H s (ty (yOpt τ) a) s1) (hb : Ev M tb σ Z H s1 (ty (yOpt τ) b) s2) : Ev M (tOp (TPN.rOptE K C sp E) ta tb) σ Z H s (ty yBool r) s2 :=
  fun Z1 H1 a' b' c' d' Q q => ha Z1 H1 a' b' c' d' _ fun v Z2 H2 e m rv => hb Z2 H2 (a'.trans e.z) (b'.trans e.h) e.s m _ fun w Z3 H3 e2 m2 rw => by
    have rv3 := (yOpt τ).mono e2.z rv
    match a, b, h, rv3, rw with
    | none, none, h, rv3, rw => exact .inl ⟨rv3, rw, q _ Z3 H3 (e.trans e2) m2 (congrArg V.bl (Option.some.inj h))⟩
    | none, some y, h, rv3, rw =>
      obtain ⟨p, dx, fs, rfl, hp⟩ := O _ _ _ rw.1
      exact .inr (.inl ⟨rv3, ⟨p, dx, fs, rfl, e2.s _ _ hp⟩, c y none r h Z3 H3 _ e2.s m2 ⟨_, _, rfl, rw.1, _, _, rfl, rv3, rfl⟩ _ fun u Z4 H4 e3 m3 ru => ⟨r, ru, q _ Z4 H4 ((e.trans e2).trans e3) m3 rfl⟩⟩)
    | some x, y, h, rv3, rw =>
      obtain ⟨p, dx, fs, rfl, hp⟩ := O _ _ _ rv3.1
      exact .inr (.inr ⟨p, dx, fs, t y, rfl, e2.s _ _ hp, tx _ _ _ _ e2.s rw, hn y, c x y r h Z3 H3 _ e2.s m2 ⟨_, _, rfl, rv3.1, _, _, rfl, rw, rfl⟩ _ fun u Z4 H4 e3 m3 ru => ⟨r, ru, q _ Z4 H4 ((e.trans e2).trans e3) m3 (by rw [show (r != false) = r by cases r <;> rfl]; exact rfl)⟩⟩)
end
end TP

namespace TP
open PySem PySem.Spec PyProof.Rows L2
/-! ### a list that never changes, or a tuple -/
def iSeq (K : PySem.W.Frag) (tl : TE) : TI := fun σ H R => tl σ H fun x H1 => (∃ a, x = .ref a ∧ (∃ xs, SqL K H1 a xs) ∧ R (Itl K a) H1) ∨ (∃ a, x = .ref a ∧ (∃ xs, SqT K H1 a xs) ∧ R (Itt K a) H1)
theorem pi_seq {X : Cx} {tg l : Expr} {tl : TE} (hl : PE X l tl) : PI X tg l (iSeq X.K tl) := by
  refine ⟨fun pins s σ H R I h => ?_⟩
  refine thn (hl.run pins s σ H _ I h) fun v s1 ⟨x, H1, I1, r1, q1⟩ => ?_
  rcases q1 with q1 | q1
  · obtain ⟨a, e, ⟨xs, hq⟩, q⟩ := q1
    subst e
    cases r1
    obtain ⟨its, rv, p, hz⟩ := I1.list hq
    refine wpAny_pyIter_list p.isList ?_
    refine ⟨s1.heap.objs.size, [s1.heap.objs.size], _, _, H1, rfl, I1.kept (t' := s1.toks) fun b o e => Heap.get?_push_of_some _ e, turn_list a _, ⟨_, Heap.get?_push_size _ rfl, rfl, rfl⟩, fun b hb => ?_, q⟩
    have e : b = s1.heap.objs.size := by simpa using hb
    subst e
    exact I1.fpOk (Nat.le_refl _) (I1.hok.fresh (Nat.le_refl _))
  · obtain ⟨a, e, ⟨xs, hq⟩, q⟩ := q1
    subst e
    cases r1
    obtain ⟨its, rv, p, hz⟩ := I1.tuple hq
    refine wpAny_pyIter_tuple (show s1.heap.IsTuple a its.toArray from p) ?_
    refine ⟨s1.heap.objs.size, [s1.heap.objs.size], _, _, H1, rfl, I1.kept (t' := s1.toks) fun b o e => Heap.get?_push_of_some _ e, turn_tuple a _, ⟨_, Heap.get?_push_size _ rfl, rfl, rfl⟩, fun b hb => ?_, q⟩
    have e : b = s1.heap.objs.size := by simpa using hb
    subst e
    exact I1.fpOk (Nat.le_refl _) (I1.hok.fresh (Nat.le_refl _))
theorem pi_seqB {X : Cx} {K : PySem.W.Frag} (hK : X.K = K) {tg l : Expr} {tl : TE} (hl : PE X l tl) : PI X tg l (iSeq K tl) := by
  subst hK
  exact pi_seq hl
section
variable {K : PySem.W.Frag} {α : Type}
def ySeq (K : PySem.W.Frag) (τ : Ty α) : Ty (List α) := ⟨fun Z v xs => ∃ a vs, v = .ref a ∧ (Z a = some (.lst vs) ∨ SqT K Z a vs) ∧ All (τ.r Z) vs xs ∧ xs.length ≤ sizeLine,
  fun s ⟨a, vs, e, h, t, l⟩ => ⟨a, vs, e, h.imp (fun h => s _ _ h) (seqT_same s), t.imp fun _ _ => τ.mono s, l⟩⟩
theorem nn_seq {τ : Ty α} : NonNil (ySeq K τ) := fun _ _ _ ⟨_, _, e, _⟩ => by rw [e]; exact fun z => nomatch z
section
variable {μ : Type} {M : Mu μ} {σ : L2.St} {Z H : Hp} {s s1 : μ} {ta : TE} {τ : Ty α} {xs : List α} {X : Hp → Hp → Prop}
theorem ev_seqL (h : Ev M ta σ Z H s (ty (yList τ) xs) s1) : Ev M ta σ Z H s (ty (ySeq K τ) xs) s1 := h.weak fun _ _ _ _ ⟨a, vs, e, h, t, l⟩ => ⟨a, vs, e, .inl h, t, l⟩
theorem ev_seqT (h : Ev M ta σ Z H s (ty (yTup K τ) xs) s1) : Ev M ta σ Z H s (ty (ySeq K τ) xs) s1 := h.weak fun _ _ _ _ ⟨a, vs, e, h, t, l⟩ => ⟨a, vs, e, .inr h, t, l⟩
theorem ei_seq (ha : Ev M ta σ Z H s (ty (ySeq K τ) xs) s1) : EvI M X (iSeq K ta) σ Z H s τ xs s1 :=
  fun Z1 H1 a b c d R q => ha Z1 H1 a b c d _ fun v Z2 H2 e m ⟨p, vs, ev, h, t, l⟩ => by
    subst ev
    rcases h with h | h
    · exact .inl ⟨p, rfl, ⟨vs, SqL.of (e.s _ _ h)⟩, q _ Z2 H2 e m (walk_at walk_list (fun Z' H' z sz _ => SqL.of (sz _ _ (z _ _ h))) t l)⟩
    · exact .inr ⟨p, rfl, ⟨vs, seqT_same e.s h⟩, q _ Z2 H2 e m (walk_at walk_tup (fun Z' H' z sz _ => seqT_same sz (seqT_same z h)) t l)⟩
theorem ev_lenS {r : List V → Hp → VK → Prop} (hr : ∀ xs H Q, (∃ p ys, xs = [.ref p] ∧ (SqL K H p ys ∨ SqT K H p ys) ∧ Q (.int ys.length) H) → r xs H Q) (ha : Ev M ta σ Z H s (ty (ySeq K τ) xs) s1) : Ev M (tCB r (tCons ta tNil)) σ Z H s (ty yInt (xs.length : Nat)) s1 :=
  ev_cb (eva_cons ha eva_nil) fun _ _ _ sz ⟨v, r, e, h, e2⟩ _ q => by
    cases e2; cases e
    obtain ⟨p, vs, rfl, g, t, _⟩ := h
    exact hr _ _ _ ⟨p, vs, rfl, g.imp (fun g => SqL.of (sz _ _ g)) (seqT_same sz), by rw [t.len]; exact q _ _ _ (Step.refl sz) rfl⟩
theorem en_list_ofS {r : List V → Hp → VK → Prop} (hr : ∀ xs H Q, (∃ p ys, xs = [.ref p] ∧ (SqL K H p ys ∨ SqT K H p ys) ∧ ∀ l, H l = none → Q (.ref l) (upd H l (.lst ys))) → r xs H Q) (ha : Ev M ta σ Z H s (ty (ySeq K τ) xs) s1) : EvN M (tCB r (tCons ta tNil)) σ Z H s τ xs s1 :=
  en_cb (eva_cons ha eva_nil) fun _ _ _ sz ⟨v, r, e, h, e2⟩ => by
    cases e2; cases e
    obtain ⟨p, vs, rfl, g, t, l⟩ := h
    exact ⟨vs, t, l, fun Q q => hr _ _ _ ⟨p, vs, rfl, g.imp (fun g => SqL.of (sz _ _ g)) (seqT_same sz), q⟩⟩
theorem ev_tuple_ofS {r : List V → Hp → VK → Prop} (hr : ∀ xs H Q, (∃ p ys, xs = [.ref p] ∧ ((SqL K H p ys ∧ ∀ l, H l = none → Q (.ref l) (upd H l (.tup ys))) ∨ (SqT K H p ys ∧ Q (.ref p) H))) → r xs H Q) (ha : Ev M ta σ Z H s (ty (ySeq K τ) xs) s1) : Ev M (tCB r (tCons ta tNil)) σ Z H s (ty (yTup K τ) xs) s1 :=
  ev_cb (eva_cons ha eva_nil) fun _ _ _ sz ⟨v, r, e, h, e2⟩ _ q => by
    cases e2; cases e
    obtain ⟨p, vs, rfl, g, t, l⟩ := h
    rcases g with g | g
    · exact hr _ _ _ ⟨p, vs, rfl, .inl ⟨SqL.of (sz _ _ g), fun d hd => q _ _ _ (Step.new sz hd) ⟨d, vs, rfl, sqT_new, t.imp fun _ _ => τ.mono (same_upd (same_none sz hd)), l⟩⟩⟩
    · exact hr _ _ _ ⟨p, vs, rfl, .inr ⟨seqT_same sz g, q _ _ _ (Step.refl sz) ⟨p, vs, rfl, g, t, l⟩⟩⟩
end
end
end TP

namespace TP
open PySem PySem.Spec PyProof.Rows L2
/-- a list grows by a tuple's items -/
def rExtS (K : PySem.W.Frag) : V → List V → Hp → VK → Prop := fun x vs H Q => ∃ l b xs zs, x = .ref l ∧ vs = [.ref b] ∧ H l = some (.lst xs) ∧ SqT K H b zs ∧ xs.length + zs.length ≤ sizeLine ∧ Q .non (upd H l (.lst (xs ++ zs)))
open PySem.AutoSeq1 in
theorem ext_tup (l b : Addr) (xs ys : Array Value) (n m : Nat) (dd : Option Addr) (sl : Array (Option Value)) (k0 : ¬ (!xs.isEmpty && Builtin.List.listTooLong (xs.size + ys.size)) = true) (k1 : xs.size ≤ sizeLine) (k2 : xs.size + ys.size ≤ sizeLine + 1) :
    Meets (Builtin.«list.extend» ⟨[.ref l, .ref b], []⟩) (fun _ R s => (s.heap.get? b = some ⟨.type "tuple", dd, .seq ys m, sl⟩ ∧ s.heap.get? l = some ⟨.type "list", none, .seq xs n, #[]⟩) ∧
      R (.ok (.ret Value.none)) { s with heap := s.heap.update l (Obj.mapSeq fun z => z ++ ys), toks := s.toks }) :=
  .of_wp fun prog w A R s ⟨⟨gb, gl⟩, q⟩ => by
    obtain ⟨hp, ge, dr, tk, os⟩ := s
    have s1 := PySem.AutoSeq1.idx_int
    have s2 := PySem.AutoSeq1.sub_list_list
    have s3 := PySem.AutoSeq1.sub_tuple_list
    have s4 := PySem.AutoSeq1.sub_tuple_tuple
    have s5 := PySem.AutoSeq1.sub_list_tuple
    have tot : (xs ++ ys).size ≤ sizeLine + 1 := by simpa [Array.size_append] using k2
    wp_walk using (wpAny_updateSeq gl rfl (hz := k1) (_hz' := tot)), wpAny_loadPart' gl, wpAny_loadPart' gb
    exact ⟨_, rfl, q⟩
theorem mt_extendT {X : Cx} : MtM X "list.extend" (rExtS X.K) := by
  intro pins s σ H x vs v us Q I rx rv g
  obtain ⟨l, b, xs, zs, rfl, rfl, gl, gb, gz, q⟩ := g
  cases rx
  obtain ⟨u, rfl, ru⟩ := rv.one
  cases ru
  obtain ⟨_, its, n, r, _, e⟩ := I.lstM gl
  obtain ⟨js, r2, ⟨⟨oc, od, ot, os⟩, e2, e3, m, e4⟩, _⟩ := I.tuple gb
  dsimp only at e3 e4
  subst e3 e4
  have k1 := r.length
  have k2 := r2.length
  have fits : its.toArray.size + js.toArray.size ≤ sizeLine := by
    rw [List.size_toArray, List.size_toArray]
    omega
  have open_ : ¬ (!its.toArray.isEmpty && Builtin.List.listTooLong (its.toArray.size + js.toArray.size)) = true := by
    rw [notLongL fits, Bool.and_false]
    decide
  refine call_meets F.slot_list_extend ⟨_, e, rfl⟩ F.entry_list_extend (F.args_list_extend_2 _ _) (ext_tup l b its.toArray js.toArray n m _ _ open_ (by omega) (by omega)) ⟨⟨e2, e⟩, .non, _, I.lset (its' := its ++ js) gl e (by simp) (r.append r2) (by rw [List.length_append]; omega), rfl, q⟩
section
variable {μ : Type} {S : List Addr} {Z0 H0 : Hp} {M : Mu μ} {σ : L2.St} {Z H : Hp} {s s1 s2 : μ} {ta tb te : TE} {K : PySem.W.Frag} {D : Ends} {α : Type} {τ : Ty α} {xs ys : List α} {p : Addr}
theorem st_extendT {i : Nat} (P : Pt S Z0 H0 M Z H s) (o : Own S H0 M.fp Z H τ p xs) (hσ : σ[i]? = some (some (.ref p))) (e : Ev M te σ Z H s (ty (yTup K τ) ys) s1) (l : xs.length + ys.length ≤ sizeLine)
    (k : ∀ Z1 H1, Step (p :: M.fp) Z H Z1 H1 → Pt S Z0 H0 M Z1 H1 s1 → Own S H0 M.fp Z1 H1 τ p (xs ++ ys) → D.nx σ H1) : tDrop (tBM K "list" (rExtS K) (tVar i) (tCons te tNil)) D σ H := by
  obtain ⟨vs, h, t⟩ := o.ex
  refine ⟨.ref p, hσ, .inl ⟨rfl, _, .inl (.inl h)⟩, e Z H (Same.refl _) SameX.refl P.sub P.m _ fun v Z1 H1 e m ⟨q, ws, ev, hq, t2, _⟩ => ?_⟩
  subst ev
  have o1 := o.next e
  have P1 := P.next e m
  refine ⟨p, q, vs, ws, rfl, rfl, e.h _ _ o.n h, seqT_same e.s hq, by rw [t.len, t2.len]; exact l, ?_⟩
  exact k _ _ (step2 e o1.z) (P1.set o1.z o.n (.inr o.mine)) ⟨⟨_, upd_same, (t.imp fun _ _ => τ.mono e.z).app t2⟩, o1.z, o.n, o.mine, by rw [List.length_append]; exact l⟩
/-- a sign of a text -/
def atSi (x : Str) (i : Int) : Option Str := (atI x.cps.toList i).map fun c => ⟨#[c]⟩
theorem ev_ixS {x y : Str} {i : Int} (ha : Ev M ta σ Z H s (ty yStr x) s1) (hb : Ev M tb σ Z H s1 (ty yInt i) s2) (e : atSi x i = some y) : Ev M (tOp rIxS ta tb) σ Z H s (ty yStr y) s2 :=
  ev_op ha hb fun _ _ _ _ sz e1 e2 _ q => by
    obtain ⟨c, hc, rfl⟩ := Option.map_eq_some_iff.mp e
    have ok := (show (PyData.strOk x && decide (x.length ≤ sizeLine)) = true from e1.2)
    rw [Bool.and_eq_true] at ok
    refine ⟨x, i, c, e1.1, e2, of_decide_eq_true ok.2, hc, q _ _ _ (Step.refl sz) ⟨rfl, ?_⟩⟩
    show (PyData.strOk ⟨#[c]⟩ && decide ((⟨#[c]⟩ : Str).length ≤ sizeLine)) = true
    have h1 : c ∈ x.cps.toList := by
      unfold atI at hc
      obtain ⟨j, _, hj⟩ := Option.bind_eq_some_iff.mp hc
      exact List.mem_of_getElem? hj
    have h2 := ok.1
    unfold PyData.strOk at h2 ⊢
    rw [Array.all_eq_true_iff_forall_mem] at h2
    rw [Bool.and_eq_true]
    refine ⟨?_, by show decide (1 ≤ sizeLine) = true; decide⟩
    simpa using h2 c (by simpa using h1)
end
end TP

namespace TP
open PySem PySem.Spec PyProof.Rows L2
/-! ### things that change: products -/
def muX {α β : Type} (A : Mu α) (B : Mu β) : Mu (α × β) where
  fp := A.fp ++ B.fp
  m := fun s Z H => A.m s.1 Z H ∧ B.m s.2 Z H ∧ ∀ a ∈ A.fp, a ∉ B.fp
  al := fun ⟨h, g, _⟩ a ha => by
    rcases List.mem_append.mp ha with ha | ha
    · exact A.al h a ha
    · exact B.al g a ha
  loc := fun sz hk hn ⟨h, g, d⟩ => ⟨A.loc sz (fun a ha => hk a (List.mem_append_left _ ha)) (fun a ha => hn a (List.mem_append_left _ ha)) h, B.loc sz (fun a ha => hk a (List.mem_append_right _ ha)) (fun a ha => hn a (List.mem_append_right _ ha)) g, d⟩
theorem Mu.keep {μ : Type} {N : Mu μ} {s : μ} {F : List Addr} {Z H Z' H' : Hp} (m : N.m s Z H) (e : Step F Z H Z' H') (d : ∀ a ∈ N.fp, a ∉ F) : N.m s Z' H' :=
  N.loc e.z (fun a ha o h => e.h a o (d a ha) h) (fun a _ h z => e.n a h z) m
section
variable {μ ν ι : Type} {S : List Addr} {Z0 H0 : Hp} {M : Mu μ} {N : Mu ν} {σ : L2.St} {Z H : Hp} {s s' s1 s2 s3 : μ} {c c' : ν} {ta tb tc te : TE} {t : TA} {K : PySem.W.Frag} {D : Ends}
/-- the attribute f of the thing at p -/
def MFld {α : Type} (N : Mu ν) (p C : Addr) (f : Str) (τ : Ty α) (pr : ν → α) : Prop := ∀ c Z H, N.m c Z H → ∃ dx fs w, H p = some (.ins C dx fs) ∧ fs.lookup f = some w ∧ τ.r Z w (pr c)
theorem ev_mfld {α : Type} {τ : Ty α} {p C : Addr} {f : Str} {pr : ν → α} {i : Nat} (hm : ∀ Z H, M.m s Z H → N.m c Z H) (F : MFld N p C f τ pr) (cl : Cls K C) (n : NoAttr K C f) (e : σ[i]? = some (some (.ref p))) : Ev M (tFld K (tVar i) f) σ Z H s (ty τ (pr c)) s :=
  fun Z1 H1 _ _ c' d Q q => ⟨_, e, by
    obtain ⟨dx, fs, w, hp, l, r⟩ := F c Z1 H1 (hm Z1 H1 d)
    exact ⟨p, C, dx, fs, w, rfl, hp, cl, n, l, q w Z1 H1 (Step.refl c') d r⟩⟩
/-- the attribute f is itself a thing that changes, at q -/
def MRef (N : Mu ν) (p C : Addr) (f : Str) (q : Addr) : Prop := ∀ c Z H, N.m c Z H → ∃ dx fs, H p = some (.ins C dx fs) ∧ fs.lookup f = some (.ref q)
theorem ev_mref {p C q : Addr} {f : Str} {i : Nat} (hm : ∀ Z H, M.m s Z H → N.m c Z H) (F : MRef N p C f q) (cl : Cls K C) (n : NoAttr K C f) (e : σ[i]? = some (some (.ref p))) : Ev M (tFld K (tVar i) f) σ Z H s (isRef q) s :=
  fun Z1 H1 _ _ c' d Q k => ⟨_, e, by
    obtain ⟨dx, fs, hp, l⟩ := F c Z1 H1 (hm Z1 H1 d)
    exact ⟨p, C, dx, fs, _, rfl, hp, cl, n, l, k _ Z1 H1 (Step.refl c') d rfl⟩⟩
/-- the thing at p is an instance of the class at C without an own attribute m -/
def MObj (N : Mu ν) (p C : Addr) (m : Str) : Prop := ∀ c Z H, N.m c Z H → ∃ dx fs, H p = some (.ins C dx fs) ∧ fs.lookup m = none
theorem ev_mmeth {p C' : Addr} {m : Str} {sp : Sp} {E : XK} {Rs : Ra M.fp} {R : Rr M.fp} (hm : ∀ Z H, M.m s1 Z H → N.m c Z H) (O : MObj N p C' m) (cs : CallS M sp E (rac (isRef p) Rs) s2 R s3) (hx : Ev M ta σ Z H s (isRef p) s1) (ha : EvA M t σ Z H s1 Rs s2) : Ev M (tMeth C' m sp [] E ta t) σ Z H s R s3 :=
  fun Z1 H1 a b c' d Q q => hx Z1 H1 a b c' d _ fun v Z2 H2 e mm rv => by
    obtain ⟨dx, fs, hp, l⟩ := O _ Z2 H2 (hm Z2 H2 mm)
    have ev : v = .ref p := rv
    subst ev
    refine ⟨p, dx, fs, rfl, hp, l, ha Z2 H2 (a.trans e.z) (b.trans e.h) e.s mm _ fun vs Z3 H3 e2 m2 rs => ?_⟩
    rw [List.append_nil]
    exact cs Z3 H3 _ e2.s m2 ⟨_, vs, rfl, rfl, rs⟩ Q fun v Z4 H4 e3 m3 rv' => q v Z4 H4 ((e.trans e2).trans e3) m3 rv'
theorem ev_mprop {p C' : Addr} {m : Str} {sp : Sp} {E : XK} {R : Rr M.fp} (hm : ∀ Z H, M.m s1 Z H → N.m c Z H) (O : MObj N p C' m) (cs : CallS M sp E (rac (isRef p) ra0) s1 R s2) (hx : Ev M ta σ Z H s (isRef p) s1) : Ev M (tProp C' sp [] E ta) σ Z H s R s2 :=
  fun Z1 H1 a b c' d Q q => hx Z1 H1 a b c' d _ fun v Z2 H2 e mm rv => by
    obtain ⟨dx, fs, hp, l⟩ := O _ Z2 H2 (hm Z2 H2 mm)
    have ev : v = .ref p := rv
    subst ev
    exact ⟨p, dx, fs, rfl, hp, cs Z2 H2 _ e.s mm ⟨_, [], rfl, rfl, rfl⟩ Q fun v Z4 H4 e3 m3 rv' => q v Z4 H4 (e.trans e3) m3 rv'⟩
theorem eve_mmeth {p C' : Addr} {m : Str} {sp : Sp} {E : XK} {Rs : Ra M.fp} {cls : Value} (hm : ∀ Z H, M.m s1 Z H → N.m c Z H) (O : MObj N p C' m) (cs : CallE M sp E (rac (isRef p) Rs) s2 cls s3) (hx : Ev M ta σ Z H s (isRef p) s1) (ha : EvA M t σ Z H s1 Rs s2) : EvE M (tMeth C' m sp [] E ta t) σ Z H s (E cls none) s3 :=
  fun Z1 H1 a b c' d Q q => hx Z1 H1 a b c' d _ fun v Z2 H2 e mm rv => by
    obtain ⟨dx, fs, hp, l⟩ := O _ Z2 H2 (hm Z2 H2 mm)
    have ev : v = .ref p := rv
    subst ev
    refine ⟨p, dx, fs, rfl, hp, l, ha Z2 H2 (a.trans e.z) (b.trans e.h) e.s mm _ fun vs Z3 H3 e2 m2 rs => ?_⟩
    rw [List.append_nil]
    exact cs Z3 H3 _ e2.s m2 ⟨_, vs, rfl, rfl, rs⟩ Q fun Z4 H4 e3 m3 => q Z4 H4 ((e.trans e2).trans e3) m3
theorem eve_mmethA {p C' : Addr} {m : Str} {sp : Sp} {E : XK} {X : Hp → Prop} (hm : ∀ Z H, M.m s1 Z H → N.m c Z H) (O : MObj N p C' m) (hx : Ev M ta σ Z H s (isRef p) s1) (ha : EvAE M t σ Z H s1 X s2) : EvE M (tMeth C' m sp [] E ta t) σ Z H s X s2 :=
  fun Z1 H1 a b c' d Q q => hx Z1 H1 a b c' d _ fun v Z2 H2 e mm rv => by
    obtain ⟨dx, fs, hp, l⟩ := O _ Z2 H2 (hm Z2 H2 mm)
    have ev : v = .ref p := rv
    subst ev
    exact ⟨p, dx, fs, rfl, hp, l, ha Z2 H2 (a.trans e.z) (b.trans e.h) e.s mm _ fun Z3 H3 e2 m2 => q Z3 H3 (e.trans e2) m2⟩
/-- the attribute f is stored anew -/
def MSet {α : Type} (N : Mu ν) (p C : Addr) (f : Str) (τ : Ty α) (up : ν → α → ν) : Prop := ∀ c Z H, N.m c Z H → p ∈ N.fp ∧ Z p = none ∧ ∃ dx fs, H p = some (.ins C dx fs) ∧ fs.length < 1000 ∧ ∀ w x, τ.r Z w x → N.m (up c x) Z (upd H p (.ins C dx (putF f w fs)))
theorem st_mset {α : Type} {τ : Ty α} {x : α} {p C : Addr} {f : Str} {i : Nat} {up : ν → α → ν} {tv : TE} (P : Pt S Z0 H0 M Z H s) (hm : ∀ Z H, M.m s1 Z H → N.m c Z H) (hf : ∀ a ∈ N.fp, a ∈ M.fp) (hp : ∀ Z H Z' H', M.m s1 Z H → Step N.fp Z H Z' H' → N.m (up c x) Z' H' → M.m s2 Z' H')
    (F : MSet N p C f τ up) (cl : Cls K C) (n : NoAttr K C f) (hσ : σ[i]? = some (some (.ref p))) (e : Ev M tv σ Z H s (ty τ x) s1) (k : ∀ Z1 H1, Step M.fp Z H Z1 H1 → Pt S Z0 H0 M Z1 H1 s2 → D.nx σ H1) : sFld K (tVar i) tv f D σ H :=
  e Z H (Same.refl _) SameX.refl P.sub P.m _ fun v Z1 H1 e m r => by
    obtain ⟨pf, zp, dx, fs, h1, l, up'⟩ := F c Z1 H1 (hm Z1 H1 m)
    have m' := up' v x r
    have st : Step [p] Z1 H1 Z1 (upd H1 p (.ins C dx (putF f v fs))) := Step.set e.s zp
    have stN : Step N.fp Z1 H1 Z1 (upd H1 p (.ins C dx (putF f v fs))) := st.weak fun a ha => by rw [List.mem_singleton] at ha; rw [ha]; exact .inl pf
    have m2 := hp _ _ _ _ m stN m'
    have e2 := e.trans (stN.weak fun a ha => .inl (hf a ha))
    exact ⟨.ref p, hσ, p, C, dx, fs, rfl, h1, cl, n, l, k _ _ e2 (P.next e2 m2)⟩
/-- self.f += e of integers -/
theorem st_maug {p C : Addr} {f : Str} {i : Nat} {up : ν → Int → ν} {tv : TE} {pr : ν → Int} {b : Int} {g : Int → Int → Int} (P : Pt S Z0 H0 M Z H s) (hm : ∀ Z H, M.m s Z H → N.m c Z H) (hf : ∀ a ∈ N.fp, a ∈ M.fp) (hp : ∀ Z H Z' H', M.m s Z H → Step N.fp Z H Z' H' → N.m (up c (g (pr c) b)) Z' H' → M.m s2 Z' H')
    (F : MSet N p C f yInt up) (G : MFld N p C f yInt pr) (cl : Cls K C) (n : NoAttr K C f) (hσ : σ[i]? = some (some (.ref p))) (e : Ev M tv σ Z H s (ty yInt b) s) (k : ∀ Z1 H1, Step M.fp Z H Z1 H1 → Pt S Z0 H0 M Z1 H1 s2 → D.nx σ H1) : sFldAug K (tVar i) tv (ipI g) f D σ H := by
  obtain ⟨dx0, fs0, w, h0, l0, r0⟩ := G c Z H (hm Z H P.m)
  refine ⟨.ref p, hσ, p, C, dx0, fs0, w, rfl, h0, cl, n, l0, e Z H (Same.refl _) SameX.refl P.sub P.m _ fun v Z1 H1 e m r => ?_⟩
  obtain ⟨pf, zp, dx, fs, h1, l, up'⟩ := F c Z1 H1 (hm Z1 H1 m)
  refine ⟨pr c, b, r0, r, dx, fs, h1, l, ?_⟩
  have m' := up' (.int (g (pr c) b)) (g (pr c) b) rfl
  have st : Step [p] Z1 H1 Z1 (upd H1 p (.ins C dx (putF f (.int (g (pr c) b)) fs))) := Step.set e.s zp
  have stN : Step N.fp Z1 H1 Z1 (upd H1 p (.ins C dx (putF f (.int (g (pr c) b)) fs))) := st.weak fun a ha => by rw [List.mem_singleton] at ha; rw [ha]; exact .inl pf
  have m2 := hp _ _ _ _ m stN m'
  have e2 := e.trans (stN.weak fun a ha => .inl (hf a ha))
  exact k _ _ e2 (P.next e2 m2)
/-- a new thing that changes -/
def EvM (M : Mu μ) (t : TE) (σ : L2.St) (Z H : Hp) (s : μ) (N : ι → Mu ν) (pr : ι → Addr) (x : ν) (s' : μ) : Prop :=
  ∀ Z1 H1, Same Z Z1 → SameX M.fp H H1 → Same Z1 H1 → M.m s Z1 H1 → ∀ Q : VK, (∀ i Z2 H2, Step M.fp Z1 H1 Z2 H2 → M.m s' Z2 H2 → (∀ a ∈ (N i).fp, H1 a = none) → (N i).m x Z2 H2 → Q (.ref (pr i)) H2) → t σ H1 Q
/-- what the __init__ makes: a thing that changes -/
def InitM (M : Mu μ) (C : Addr) (sp : Sp) (E : XK) (Rs : Ra M.fp) (s : μ) (N : ι → Mu ν) (pr : ι → Addr) (x : ν) (s' : μ) : Prop :=
  ∀ Z H vs p dx, Same Z H → M.m s Z H → Rs.r Z H vs → H p = some (.ins C dx []) → Z p = none → p ∉ M.fp → ∀ Q : VK, (∀ i Z2 H2, pr i = p → Step (p :: M.fp) Z H Z2 H2 → M.m s' Z2 H2 → (∀ a ∈ (N i).fp, a = p ∨ H a = none) → (N i).m x Z2 H2 → Q .non H2) → sp (.ref p :: vs) H Q E
theorem ev_makeM {C : Addr} {sp : Sp} {E : XK} {Rs : Ra M.fp} {N : ι → Mu ν} {pr : ι → Addr} {x : ν} (I : InitM M C sp E Rs s1 N pr x s2) (ha : EvA M t σ Z H s Rs s1) : EvM M (tMake C sp [] E t) σ Z H s N pr x s2 :=
  fun Z1 H1 a b c d Q q => ha Z1 H1 a b c d _ fun vs Z2 H2 e m rs x' dx hx hd ne => by
    rw [List.append_nil]
    have st := Step.dict (C := C) e.s hx hd ne
    have nf : x' ∉ M.fp := fun h => (M.al m x' h).1 hx
    have back : ∀ a, upd (upd H2 dx (.own x')) x' (.ins C dx []) a = none → H2 a = none := fun a h => by
      cases q : H2 a with
      | none => rfl
      | some o => exact absurd h (st.al a (some_ne q))
    refine I Z2 _ vs x' dx st.s (M.pure st m) (Rs.st st.pure rs) upd_same (same_none e.s hx) nf _ fun i Z3 H3 ei e2 m2 fr mi => ⟨rfl, ?_⟩
    subst ei
    have e3 : Step M.fp Z2 H2 Z3 H3 := ((st.pure (S := pr i :: M.fp)).trans e2).weak fun a h => by
      rcases List.mem_cons.mp h with e | h
      · exact .inr (e ▸ hx)
      · exact .inl h
    exact q i Z3 H3 (e.trans e3) m2 (fun a ha => by
      rcases fr a ha with r | r
      · rw [r]; exact same_x e hx
      · exact same_x e (back a r)) mi
/-- it is called x from now on -/
theorem st_setM {N : ι → Mu ν} {pr : ι → Addr} {x : ν} {j : Nat} (P : Pt S Z0 H0 M Z H s) (e : EvM M te σ Z H s N pr x s1) (k : ∀ i Z1 H1, Step M.fp Z H Z1 H1 → (∀ a ∈ (N i).fp, H a = none) → Pt S Z0 H0 (muX M (N i)) Z1 H1 (s1, x) → D.nx (σ.set j (some (.ref (pr i)))) H1) : tAsg te (gName j) D σ H :=
  e Z H (Same.refl _) SameX.refl P.sub P.m _ fun i Z1 H1 e m fr mi => k i Z1 H1 e fr ⟨P.st.mine e P.mine, ⟨m, mi, fun a ha hb => (M.al P.m a ha).1 (fr a hb)⟩, fun a ha => by
    rcases List.mem_append.mp ha with ha | ha
    · exact P.mine a ha
    · exact .inr (same_x P.st (fr a ha))⟩
theorem Pt.left {N : Mu ν} {x : ν} (P : Pt S Z0 H0 (muX M N) Z H (s, x)) : Pt S Z0 H0 M Z H s := ⟨P.st, P.m.1, fun a ha => P.mine a (List.mem_append_left _ ha)⟩
theorem Own.grow {α : Type} {τ : Ty α} {xs : List α} {p : Addr} {F : List Addr} {Z1 H1 : Hp} (o : Own S H0 M.fp Z H τ p xs) (e : Step M.fp Z H Z1 H1) (fr : ∀ a ∈ F, H a = none) : Own S H0 (M.fp ++ F) Z1 H1 τ p xs := by
  have o1 := o.next e
  obtain ⟨vs, h, _⟩ := o.ex
  have nf : p ∉ F := fun hb => by
    rw [fr p hb] at h
    exact nomatch h
  exact ⟨o1.ex, o1.z, fun ha => (List.mem_append.mp ha).elim o.n nf, o1.mine, o1.l⟩
theorem Own.left {α : Type} {τ : Ty α} {xs : List α} {p : Addr} {F G : List Addr} (o : Own S H0 (F ++ G) Z H τ p xs) : Own S H0 F Z H τ p xs := ⟨o.ex, o.z, fun h => o.n (List.mem_append_left _ h), o.mine, o.l⟩
theorem Step.left {F G : List Addr} {Z H Z1 H1 : Hp} (e : Step F Z H Z1 H1) : Step (F ++ G) Z H Z1 H1 := e.weak fun a h => .inl (List.mem_append_left _ h)
theorem putF_ne {f g : Str} {v w : V} {r : List (Str × V)} (h : ¬ g = f) : putF f v ((g, w) :: r) = (g, w) :: putF f v r := by
  show (if g = f then (g, v) :: r else (g, w) :: putF f v r) = _
  rw [if_neg h]
theorem putF_eq {f : Str} {v w : V} {r : List (Str × V)} : putF f v ((f, w) :: r) = (f, v) :: r := by
  show (if f = f then (f, v) :: r else _) = _
  rw [if_pos rfl]
theorem putF_nil {f : Str} {v : V} : putF f v [] = [(f, v)] := rfl
end
end TP

namespace TP
open PySem PySem.Spec PyProof.Rows L2
/-- what never is reached -/
theorem ps_dead {X : Cx} {s : Stmt} : PS X s (fun _ _ _ => False) := ⟨fun _ _ _ _ _ _ h => h.elim⟩
theorem sl_tupW {X : Cx} : SlR X (rSlW X.K) := sl_tupA
/-- an expression that is read in one of two ways -/
theorem pe_or2 {X : Cx} {e : Expr} {t u : TE} (h : PE X e t) (g : PE X e u) : PE X e (fun σ H Q => t σ H Q ∨ u σ H Q) := ⟨fun pins s σ H Q I q => by
  rcases q with q | q
  · exact h.run pins s σ H Q I q
  · exact g.run pins s σ H Q I q⟩
def rOr (r r' : R2) : R2 := fun x y H Q => r x y H Q ∨ r' x y H Q
theorem op_or {X : Cx} {f : Value → Value → Sem Value} {r r' : R2} (h : OpR X f r) (h' : OpR X f r') : OpR X f (rOr r r') := fun pins s σ H x y v u Q I rx ry q => by
  rcases q with q | q
  · exact h pins s σ H x y v u Q I rx ry q
  · exact h' pins s σ H x y v u Q I rx ry q
def rImp (r r' : R2) : Prop := ∀ x y H Q, r x y H Q → r' x y H Q
theorem ri_self {r : R2} : rImp r r := fun _ _ _ _ h => h
theorem ri_l {r r' : R2} : rImp r (rOr r r') := fun _ _ _ _ h => .inl h
theorem ri_r {r r' r'' : R2} (h : rImp r r') : rImp r (rOr r'' r') := fun _ _ _ _ q => .inr (h _ _ _ _ q)
section
variable {μ : Type} {M : Mu μ} {σ : L2.St} {Z H : Hp} {s s1 s2 s3 : μ} {ta tb t u : TE} {K : PySem.W.Frag}
theorem ev_orl {R : Rr M.fp} (h : Ev M t σ Z H s R s1) : Ev M (fun σ H Q => t σ H Q ∨ u σ H Q) σ Z H s R s1 := fun Z1 H1 a b c d Q q => .inl (h Z1 H1 a b c d Q q)
theorem ev_orr {R : Rr M.fp} (h : Ev M u σ Z H s R s1) : Ev M (fun σ H Q => t σ H Q ∨ u σ H Q) σ Z H s R s1 := fun Z1 H1 a b c d Q q => .inr (h Z1 H1 a b c d Q q)
theorem ev_ownR {α : Type} {τ : Ty α} {x : α} {R0 : Rr M.fp} {C : Addr} {t : Value} {sp : Sp} {E : XK} {b neg : Bool} {r : R2} (hr : rImp (TPN.rOwnE K C neg sp E) r) (O : ∀ Z v x, τ.r Z v x → ∃ a dx fs, v = .ref a ∧ Z a = some (.ins C dx fs)) (tx : ∀ Z H v, Same Z H → R0.r Z H v → TyX K H v t) (hn : PySem.W.notFirst K C t = true)
    (c : CallS M sp E (rac (ty τ x) (rac R0 ra0)) s2 (ty yBool b) s3) (ha : Ev M ta σ Z H s (ty τ x) s1) (hb : Ev M tb σ Z H s1 R0 s2) : Ev M (tOp r ta tb) σ Z H s (ty yBool (b != neg)) s3 :=
  fun Z1 H1 a' b' c' d' Q q => ha Z1 H1 a' b' c' d' _ fun v Z2 H2 e m rv => hb Z2 H2 (a'.trans e.z) (b'.trans e.h) e.s m _ fun w Z3 H3 e2 m2 rw => by
    have rv3 := τ.mono e2.z rv
    obtain ⟨p, dx, fs, rfl, hp⟩ := O _ _ _ rv3
    exact hr _ _ _ _ ⟨p, dx, fs, t, rfl, e2.s _ _ hp, tx _ _ _ e2.s rw, hn, c Z3 H3 _ e2.s m2 ⟨_, _, rfl, rv3, _, _, rfl, rw, rfl⟩ _ fun u Z4 H4 e3 m3 ru => ⟨b, ru, q _ Z4 H4 ((e.trans e2).trans e3) m3 rfl⟩⟩
variable {fp : List Addr} {α β γ δ : Type} {τ : Ty α} {υ : Ty β} {φ : Ty γ} {ψ : Ty δ}
theorem tx_p1 {x : α} : ∀ Z H v, Same Z H → (ty (fp := fp) (yP1 K τ) x).r Z H v → TyX K H v (.type "tuple") := fun _ _ _ sz ⟨a, _, e, h, _⟩ => by subst e; exact tx_sqT (seqT_same sz h)
theorem tx_p4 {x : α × β × γ × δ} : ∀ Z H v, Same Z H → (ty (fp := fp) (yP4 K τ υ φ ψ) x).r Z H v → TyX K H v (.type "tuple") := fun _ _ _ sz ⟨a, _, _, _, _, e, h, _⟩ => by subst e; exact tx_sqT (seqT_same sz h)
end
end TP

namespace ZN
open PySem PySem.Spec PyProof.Rows L2
open PySem.Sem (wp)
/-- what is walked: an address, and whether a tuple stands there -/
structure Src where
  a : Addr
  t : Bool
def SIt (h : Heap) (it : Addr) (x : Src) (k : Nat) : Prop := match x.t with
  | true => h.IsTupleIter it x.a k
  | false => h.IsListIter it x.a k
def SSq (h : Heap) (x : Src) (r : Array Value) : Prop := match x.t with
  | true => h.IsTuple x.a r
  | false => h.IsList x.a r
theorem SIt.at {h h' : Heap} {it : Addr} {x : Src} {k : Nat} (g : SIt h it x k) (e : ∀ o, h.get? it = some o → h'.get? it = some o) : SIt h' it x k := by
  obtain ⟨a, t⟩ := x
  cases t
  · exact Heap.IsListIter.at g e
  · exact Heap.IsTupleIter.at g e
theorem SSq.at {h h' : Heap} {x : Src} {r : Array Value} (g : SSq h x r) (e : ∀ o, h.get? x.a = some o → h'.get? x.a = some o) : SSq h' x r := by
  obtain ⟨a, t⟩ := x
  cases t
  · exact Heap.IsList.at g e
  · exact Heap.IsTuple.at g e
theorem SIt.obj {h : Heap} {it : Addr} {x : Src} {k : Nat} (g : SIt h it x k) : ∃ o, h.get? it = some o ∧ ∀ v, o.data ≠ .cell v := by
  obtain ⟨a, t⟩ := x
  cases t
  · obtain ⟨o, e, _, d⟩ := g
    exact ⟨o, e, fun v q => by rw [d] at q; cases q⟩
  · obtain ⟨o, e, _, d⟩ := g
    exact ⟨o, e, fun v q => by rw [d] at q; cases q⟩
section
variable {prog : Program} {w : World} {A : Around} {E : Value → Shared → Prop} {s : Shared}
theorem nextOf_item {it : Addr} {x : Src} {k : Nat} {r : Array Value} {v : Value} {Q : Value → Shared → Prop} (hit : SIt s.heap it x k) (hl : SSq s.heap x r) (hx : r[k]? = some v)
    (hQ : ∀ h', SIt h' it x (k + 1) → Heap.SameBut it s.heap h' → Q v { s with heap := h' }) : wpAny (model prog w) A (Builtin.SmallTypes.nextOf (.ref it)) Q E s := by
  obtain ⟨a, t⟩ := x
  cases t
  · exact wpAny_nextOf_list_item hit hl hx hQ
  · exact RZ.nextOf_tuple_item hit hl hx hQ
theorem nextOf_end {it : Addr} {x : Src} {k : Nat} {r : Array Value} {Q : Value → Shared → Prop} (hh : A.handled = none) (hit : SIt s.heap it x k) (hl : SSq s.heap x r) (hx : r[k]? = none)
    (hE : ∀ h' e, Heap.ExtBut it s.heap h' → (∃ o, h'.get? e = some o ∧ o.cls = .type "StopIteration") → E (.ref e) { s with heap := h' }) : wpAny (model prog w) A (Builtin.SmallTypes.nextOf (.ref it)) Q E s := by
  obtain ⟨a, t⟩ := x
  cases t
  · exact wpAny_nextOf_list_end hh hit hl hx hE
  · exact RZ.nextOf_tuple_end hh hit hl hx hE
theorem pyIter_src {x : Src} {r : Array Value} {Q : Value → Shared → Prop} (hl : SSq s.heap x r)
    (hQ : Q (.ref s.heap.objs.size) { s with heap := s.heap.push { cls := .type (if x.t then "tuple_iterator" else "list_iterator"), data := .fields #[.ref x.a, .int 0 0] } }) :
    wpAny (model prog w) A (pyIter (.ref x.a)) Q E s := by
  obtain ⟨a, t⟩ := x
  cases t
  · exact wpAny_pyIter_list hl hQ
  · exact wpAny_pyIter_tuple hl hQ
theorem forIn_by {α β : Type} {r0 : β} {Q : β → Shared → Prop} : ∀ {l : List α} {f : α → β → Sem (ForInStep β)} (I : Nat → Shared → Prop) {s : Shared}, I 0 s →
    (∀ j x s, l[j]? = some x → I j s → wpAny (model prog w) A (f x r0) (fun r s' => r = .yield r0 ∧ I (j + 1) s') E s) → (∀ s, I l.length s → Q r0 s) → wpAny (model prog w) A (forIn l r0 f) Q E s
  | [], f, I, s, h0, _, hd => by
    rw [List.forIn_nil]
    exact wpAny_pure (hd s h0)
  | y :: r, f, I, s, h0, hs, hd => by
    rw [List.forIn_cons]
    refine wpAny_bind (wpAny_mono (hs 0 y s rfl h0) (fun z s' q => ?_) fun _ _ e => e)
    obtain ⟨rfl, q⟩ := q
    exact forIn_by (l := r) (fun j => I (j + 1)) q (fun j x s hx => hs (j + 1) x s hx) hd
theorem updateSeq_at {T : Addr} {ys : Array Value} {x : Value} {k : Nat} {Q : Unit → Shared → Prop} (hT : s.heap.get? T = some { cls := .type "tuple", data := .seq ys }) (hz : ys.size ≤ sizeLine)
    (h : ∀ h', h'.get? T = some { cls := .type "tuple", data := .seq (ys.setIfInBounds k x) } → Heap.SameBut T s.heap h' → Q () { s with heap := h' }) :
    wpAny (model prog w) A (updateSeq T (·.setIfInBounds k x)) Q E s := by
  refine wpAny_updateSeq hT rfl (h _ ?_ (Heap.SameBut.update ..)) hz (by simp; omega)
  rw [Heap.get?_update_self _ hT rfl]
  simp [Obj.mapSeq]
structure Apart (z TI TO : Addr) (is : List Addr) (srcs : List Src) : Prop where
  TIz : TI ≠ z
  TOz : TO ≠ z
  TITO : TI ≠ TO
  zi : z ∉ is
  TIi : TI ∉ is
  TOi : TO ∉ is
  nd : is.Nodup
  sz : ∀ x ∈ srcs, x.a ≠ z
  sTO : ∀ x ∈ srcs, x.a ≠ TO
  si : ∀ x ∈ srcs, x.a ∉ is
theorem nd_inj {α : Type} {is : List α} {i j : Nat} {a : α} (h : is.Nodup) (e1 : is[i]? = some a) (e2 : is[j]? = some a) : i = j := by
  obtain ⟨l1, g1⟩ := List.getElem?_eq_some_iff.mp e1
  obtain ⟨l2, g2⟩ := List.getElem?_eq_some_iff.mp e2
  rcases Nat.lt_trichotomy i j with g | g | g
  · exact absurd (g1.trans g2.symm) (List.pairwise_iff_getElem.mp h i j l1 l2 g)
  · exact g
  · exact absurd (g2.trans g1.symm) (List.pairwise_iff_getElem.mp h j i l2 l1 g)
def refs (is : List Addr) : Array Value := (is.map Value.ref).toArray
theorem next {z TI TO : Addr} {is : List Addr} {srcs : List Src} {k : Nat} {row : Nat → Array Value} {Q : Fin → Shared → Prop} (hh : A.handled = none) (D : Apart z TI TO is srcs) (hlen : is.length = srcs.length) (hne : is ≠ []) (hsm : is.length ≤ 1000)
    (hz : IsZip s.heap z TI TO .none) (hTI : s.heap.get? TI = some { cls := .type "tuple", data := .seq (refs is) }) (hTO : ∃ ys : Array Value, ys.size = is.length ∧ s.heap.get? TO = some { cls := .type "tuple", data := .seq ys })
    (hit : ∀ (j : Nat) (i : Addr) (x : Src), is[j]? = some i → srcs[j]? = some x → SIt s.heap i x k) (hsq : ∀ (j : Nat) (x : Src), srcs[j]? = some x → SSq s.heap x (row j))
    (hQ : (∀ j, j < is.length → (row j)[k]? ≠ none) → ∀ h' (ys : Array Value), IsZip h' z TI TO (rawInt s.heap.objs.size) → ys.size = is.length → (∀ j, j < is.length → ys[j]? = (row j)[k]?) → h'.get? TO = some { cls := .type "tuple", data := .seq ys } →
      (∀ (j : Nat) (i : Addr) (x : Src), is[j]? = some i → srcs[j]? = some x → SIt h' i x (k + 1)) → h'.get? s.heap.objs.size = some { cls := .type "tuple", data := .seq ys } → h'.objs.size = s.heap.objs.size + 1 →
      (∀ c o, c ≠ z → c ≠ TO → c ∉ is → s.heap.get? c = some o → h'.get? c = some o) → Q (.done (.ret (.ref s.heap.objs.size))) { s with heap := h' })
    (hE : (∃ j, j < is.length ∧ (row j)[k]? = none) → ∀ h' e, (∀ c o, c ≠ z → c ≠ TO → c ∉ is → s.heap.get? c = some o → h'.get? c = some o) → (∃ o, h'.get? e = some o ∧ o.cls = .type "StopIteration") → E (.ref e) { s with heap := h' }) :
    wpAny (model prog w) A (Builtin.«zip.__next__» ⟨[.ref z], []⟩) Q E s := by
  show wpAny _ _ (field (.ref z) 2 >>= _) _ _ _
  refine wpAny_bind (wpAny_field hz rfl (x := .bool false) rfl ?_)
  show wpAny _ _ (field (.ref z) 3 >>= _) _ _ _
  refine wpAny_bind (wpAny_field hz rfl (x := .ref TI) rfl ?_)
  refine wpAny_bind (wpAny_seqItems hTI rfl ?_)
  have hem : (refs is).isEmpty = false := by
    cases is with
    | nil => exact absurd rfl hne
    | cons i r => rfl
  simp only [hem, Bool.false_eq_true, if_false]
  show wpAny _ _ (Builtin.SmallTypes.ownedTupleIsFree (.ref z) >>= _) _ _ _
  refine wpAny_bind ?_
  unfold Builtin.SmallTypes.ownedTupleIsFree
  refine wpAny_bind (wpAny_field hz rfl (x := .none) rfl (wpAny_pure ?_))
  simp only [if_true]
  refine wpAny_bind (wpAny_rule ?_)
  refine wpAny_bind (wpAny_field hz rfl (x := .ref TO) rfl ?_)
  refine wpAny_bind (wpAny_setField_rec hz (by simp) fun h₁ hz₁ hs₁ => ?_)
  replace hz₁ : IsZip h₁ z TI TO .ellipsis := hz₁
  refine wpAny_bind ?_
  refine forIn_by (fun j s' => ∃ h', s' = { s with heap := h' } ∧ IsZip h' z TI TO .ellipsis ∧ (∃ ys : Array Value, ys.size = is.length ∧ h'.get? TO = some { cls := .type "tuple", data := .seq ys } ∧ ∀ i, i < j → i < is.length → ys[i]? = (row i)[k]?) ∧
    (∀ (i : Nat) (a : Addr) (x : Src), is[i]? = some a → srcs[i]? = some x → SIt h' a x (if i < j then k + 1 else k)) ∧ h'.objs.size = s.heap.objs.size ∧ (∀ i, i < j → i < is.length → (row i)[k]? ≠ none) ∧
    ∀ c o, c ≠ z → c ≠ TO → c ∉ is → s.heap.get? c = some o → h'.get? c = some o) ?_ ?_ ?_
  · obtain ⟨ys, y1, y2⟩ := hTO
    refine ⟨h₁, rfl, hz₁, ⟨ys, y1, hs₁.extBut _ _ D.TOz y2, fun i hi => absurd hi (Nat.not_lt_zero i)⟩, fun i a x e1 e2 => ?_, hs₁.1, fun i hi => absurd hi (Nat.not_lt_zero i), fun c o c1 _ _ e => hs₁.extBut _ _ c1 e⟩
    rw [if_neg (Nat.not_lt_zero i)]
    have ne : a ≠ z := fun q => D.zi (q ▸ List.mem_of_getElem? e1)
    exact (hit i a x e1 e2).at fun o q => hs₁.extBut _ _ ne q
  · rintro j ⟨v, n⟩ s' hj ⟨h', rfl, hz', ⟨ys, y1, y2, y3⟩, it', hsz, had, hk⟩
    rw [List.getElem?_zipIdx] at hj
    have hj' : ∃ a, is[j]? = some a ∧ v = .ref a ∧ n = j := by
      unfold refs at hj
      rw [List.toList_toArray, List.getElem?_map] at hj
      cases ea : is[j]? with
      | none => rw [ea] at hj; cases hj
      | some a =>
        rw [ea] at hj
        have := Option.some.inj hj
        have e1 := (Prod.mk.inj this).1
        have e2 := (Prod.mk.inj this).2
        exact ⟨a, rfl, e1.symm, by omega⟩
    obtain ⟨a, ea, rfl, rfl⟩ := hj'
    have jl : n < is.length := (List.getElem?_eq_some_iff.mp ea).1
    obtain ⟨x, ex⟩ : ∃ x, srcs[n]? = some x := ⟨srcs[n]'(by omega), List.getElem?_eq_getElem _⟩
    have ma := List.mem_of_getElem? ea
    have mx := List.mem_of_getElem? ex
    have az : a ≠ z := fun q => D.zi (q ▸ ma)
    have aTO : a ≠ TO := fun q => D.TOi (q ▸ ma)
    have hI := it' n a x ea ex
    rw [if_neg (Nat.lt_irrefl n)] at hI
    have hS : SSq h' x (row n) := (hsq n x ex).at fun o q => hk _ o (D.sz x mx) (D.sTO x mx) (D.si x mx) q
    refine wpAny_bind (wpAny_onRaise ?_)
    show wpAny _ _ (Builtin.SmallTypes.nextOf (.ref a) >>= _) _ _ _
    cases hx : (row n)[k]? with
    | none =>
      refine wpAny_bind (nextOf_end hh hI hS hx fun h₂ e hs₂ he => ?_)
      obtain ⟨oe, hoe, hce⟩ := he
      have hz₂ : IsZip h₂ z TI TO .ellipsis := hs₂ _ _ az.symm hz'
      have hez : e ≠ z := fun x => by subst x; rw [hz₂] at hoe; cases hoe; simp at hce
      refine wpAny_setField_rec hz₂ (by simp) fun h₃ _ hs₃ => hE ⟨n, jl, hx⟩ h₃ e (fun c o c1 c2 c3 q => hs₃.extBut _ _ c1 (hs₂ _ _ (fun q' => c3 (q' ▸ ma)) (hk c o c1 c2 c3 q))) ⟨oe, hs₃.extBut _ _ hez hoe, hce⟩
    | some u =>
      refine wpAny_bind (nextOf_item hI hS hx fun h₂ h1₂ hs₂ => wpAny_pure ?_)
      have hTO₂ : h₂.get? TO = some { cls := .type "tuple", data := .seq ys } := hs₂.extBut _ _ aTO.symm y2
      refine wpAny_bind (wpAny_seqItems hTO₂ rfl ?_)
      refine wpAny_bind (updateSeq_at hTO₂ (by rw [y1]; exact Nat.le_trans hsm (by decide)) fun h₃ hTO₃ hs₃ => ?_)
      refine wpAny_bind (wpAny_letGo (wpAny_pure ⟨rfl, h₃, rfl, hs₃.extBut _ _ D.TOz.symm (hs₂.extBut _ _ az.symm hz'), ⟨_, by simp [y1], hTO₃, fun i hi il => ?_⟩, fun i b x' e1 e2 => ?_, by rw [hs₃.1, hs₂.1, hsz], fun i hi il => ?_, fun c o c1 c2 c3 q => ?_⟩))
      · rcases Nat.lt_or_ge i n with g | g
        · rw [Array.getElem?_setIfInBounds_ne (by omega)]
          exact y3 i g il
        · have e : i = n := by omega
          subst e
          rw [Array.getElem?_setIfInBounds_self_of_lt (by omega), hx]
      · rcases Nat.lt_trichotomy i n with g | g | g
        · rw [if_pos (by omega)]
          have hb := it' i b x' e1 e2
          rw [if_pos g] at hb
          have ne : b ≠ a := fun q => by
            have := nd_inj D.nd e1 (q ▸ ea)
            omega
          have nT : b ≠ TO := fun q => D.TOi (q ▸ List.mem_of_getElem? e1)
          exact (hb.at fun o q => hs₂.extBut _ _ ne q).at fun o q => hs₃.extBut _ _ nT q
        · subst g
          rw [ea] at e1
          rw [ex] at e2
          cases e1
          cases e2
          rw [if_pos (by omega)]
          exact h1₂.at fun o q => hs₃.extBut _ _ aTO q
        · rw [if_neg (by omega)]
          have hb := it' i b x' e1 e2
          rw [if_neg (by omega)] at hb
          have ne : b ≠ a := fun q => by
            have := nd_inj D.nd e1 (q ▸ ea)
            omega
          have nT : b ≠ TO := fun q => D.TOi (q ▸ List.mem_of_getElem? e1)
          exact (hb.at fun o q => hs₂.extBut _ _ ne q).at fun o q => hs₃.extBut _ _ nT q
      · rcases Nat.lt_or_ge i n with g | g
        · exact had i g il
        · have e : i = n := by omega
          subst e
          rw [hx]
          exact fun q => nomatch q
      · exact hs₃.extBut _ _ c2 (hs₂.extBut _ _ (fun q' => c3 (q' ▸ ma)) (hk c o c1 c2 c3 q))
  · rintro s' ⟨h', rfl, hz', ⟨ys, y1, y2, y3⟩, it', hsz, had, hk⟩
    have ll : (refs is).toList.zipIdx.length = is.length := by simp [refs]
    rw [ll] at y3 it' had
    refine wpAny_bind (wpAny_seqItems y2 rfl ?_)
    refine wpAny_bind (wpAny_newTuple ?_ (by simp [y1]; exact Nat.le_trans hsm (by decide)))
    show wpAny _ _ (Builtin.SmallTypes.ownedTupleHandOut (.ref z) (.ref h'.objs.size) >>= _) _ _ _
    refine wpAny_bind ?_
    unfold Builtin.SmallTypes.ownedTupleHandOut
    have hzlt : z < h'.objs.size := Heap.lt_size hz'
    have hz₆ : IsZip (h'.push { cls := .type "tuple", data := .seq ys }) z TI TO .ellipsis := Heap.get?_push_of_some _ hz'
    refine wpAny_bind (wpAny_setField_rec hz₆ (by simp) fun h₇ hz₇ hs₇ => ?_)
    replace hz₇ : IsZip h₇ z TI TO (rawInt h'.objs.size) := hz₇
    refine wpAny_setField_rec hz₇ (by simp) fun h₈ hz₈ hs₈ => ?_
    replace hz₈ : IsZip h₈ z TI TO (rawInt h'.objs.size) := hz₈
    have up : ∀ c o, c ≠ z → h'.get? c = some o → h₈.get? c = some o := fun c o c1 e => hs₈.extBut _ _ c1 (hs₇.extBut _ _ c1 (Heap.get?_push_of_some _ e))
    have hT₈ : h₈.get? h'.objs.size = some { cls := .type "tuple", data := .seq ys } := hs₈.extBut _ _ (Nat.ne_of_gt hzlt) (hs₇.extBut _ _ (Nat.ne_of_gt hzlt) (Heap.get?_push_size _ rfl))
    have hz8 : h₈.objs.size = h'.objs.size + 1 := by rw [hs₈.1, hs₇.1, Heap.size_push]
    rw [hsz] at hz₈ hT₈ hz8
    refine wpAny_pure ?_
    show Q (.done (.ret (.ref h'.objs.size))) _
    rw [hsz]
    refine hQ (fun j hj => had j hj hj) h₈ ys hz₈ y1 (fun j hj => y3 j hj hj) (up _ _ D.TOz y2) (fun i a x e1 e2 => ?_) hT₈ hz8 fun c o c1 c2 c3 e => up c o c1 (hk c o c1 c2 c3 e)
    have hb := it' i a x e1 e2
    rw [if_pos (List.getElem?_eq_some_iff.mp e1).1] at hb
    exact hb.at fun o e => up _ o (fun q => D.zi (q ▸ List.mem_of_getElem? e1)) e
theorem pyNext_item {z TI TO : Addr} {is : List Addr} {srcs : List Src} {k : Nat} {row : Nat → Array Value} {Q : Option Value → Shared → Prop} (hh : A.handled = none) (D : Apart z TI TO is srcs) (hlen : is.length = srcs.length) (hne : is ≠ []) (hsm : is.length ≤ 1000)
    (hz : IsZip s.heap z TI TO .none) (hTI : s.heap.get? TI = some { cls := .type "tuple", data := .seq (refs is) }) (hTO : ∃ ys : Array Value, ys.size = is.length ∧ s.heap.get? TO = some { cls := .type "tuple", data := .seq ys })
    (hit : ∀ (j : Nat) (i : Addr) (x : Src), is[j]? = some i → srcs[j]? = some x → SIt s.heap i x k) (hsq : ∀ (j : Nat) (x : Src), srcs[j]? = some x → SSq s.heap x (row j)) (hall : ∀ j, j < is.length → (row j)[k]? ≠ none)
    (hQ : ∀ h' (ys : Array Value), IsZip h' z TI TO (rawInt s.heap.objs.size) → ys.size = is.length → (∀ j, j < is.length → ys[j]? = (row j)[k]?) → h'.get? TO = some { cls := .type "tuple", data := .seq ys } →
      (∀ (j : Nat) (i : Addr) (x : Src), is[j]? = some i → srcs[j]? = some x → SIt h' i x (k + 1)) → h'.get? s.heap.objs.size = some { cls := .type "tuple", data := .seq ys } → h'.objs.size = s.heap.objs.size + 1 →
      (∀ c o, c ≠ z → c ≠ TO → c ∉ is → s.heap.get? c = some o → h'.get? c = some o) → Q (some (.ref s.heap.objs.size)) { s with heap := h' }) :
    wpAny (model prog w) A (pyNext (.ref z)) Q E s := by
  have hT : s.TypeIs (.ref z) "zip" := ⟨_, hz, rfl⟩
  unfold pyNext
  refine wpAny_bind (wpAny_attempt (wpAny_callSpecial?_slot (name := Str.ofString "__next__") hT F.slot_zip_next
    (wpAny_call_entry F.slot_zip_next hT F.entry_zip_next
      (next (A := A.in1) hh D hlen hne hsm hz hTI hTO hit hsq (fun _ h' ys a1 a2 a3 a4 a5 a6 a7 a8 => ⟨_, rfl, wpAny_pure (hQ h' ys a1 a2 a3 a4 a5 a6 a7 a8)⟩) (fun g => ?_)) (F.args_zip_next_1 _))))
  obtain ⟨j, jl, e⟩ := g
  exact absurd e (hall j jl)
theorem pyNext_end {z TI TO : Addr} {is : List Addr} {srcs : List Src} {k : Nat} {row : Nat → Array Value} {Q : Option Value → Shared → Prop} (hh : A.handled = none) (D : Apart z TI TO is srcs) (hlen : is.length = srcs.length) (hne : is ≠ []) (hsm : is.length ≤ 1000)
    (hz : IsZip s.heap z TI TO .none) (hTI : s.heap.get? TI = some { cls := .type "tuple", data := .seq (refs is) }) (hTO : ∃ ys : Array Value, ys.size = is.length ∧ s.heap.get? TO = some { cls := .type "tuple", data := .seq ys })
    (hit : ∀ (j : Nat) (i : Addr) (x : Src), is[j]? = some i → srcs[j]? = some x → SIt s.heap i x k) (hsq : ∀ (j : Nat) (x : Src), srcs[j]? = some x → SSq s.heap x (row j)) (hend : ∃ j, j < is.length ∧ (row j)[k]? = none)
    (hQ : ∀ h', (∀ c o, c ≠ z → c ≠ TO → c ∉ is → s.heap.get? c = some o → h'.get? c = some o) → Q none { s with heap := h' }) : wpAny (model prog w) A (pyNext (.ref z)) Q E s := by
  have hT : s.TypeIs (.ref z) "zip" := ⟨_, hz, rfl⟩
  unfold pyNext
  refine wpAny_bind (wpAny_attempt (wpAny_callSpecial?_slot (name := Str.ofString "__next__") hT F.slot_zip_next
    (wpAny_call_entry F.slot_zip_next hT F.entry_zip_next (next (A := A.in1) hh D hlen hne hsm hz hTI hTO hit hsq (fun g => ?_) (fun _ h' e hk he => ?_)) (F.args_zip_next_1 _))))
  · obtain ⟨j, jl, e⟩ := hend
    exact absurd e (g j jl)
  · obtain ⟨o, ho, hc⟩ := he
    refine wpAny_bind (wpAny_isInstance (T := "StopIteration") (b := true) ⟨o, ho, hc⟩ isSubtype_stop ?_)
    exact wpAny_pure (hQ _ hk)
end
def SqX (K : PySem.W.Frag) (H : Hp) (x : Src) (xs : List V) : Prop := match x.t with
  | true => SqT K H x.a xs
  | false => SqL K H x.a xs
theorem sq_get {X : Cx} {pins : List (Addr × Obj)} {σ : L2.St} {H : Hp} {s : Shared} (I : Inv X pins σ H s) {x : Src} {xs : List V} (q : SqX X.K H x xs) : ∃ its : List Value, Vals xs its ∧ SSq s.heap x its.toArray := by
  obtain ⟨a, t⟩ := x
  cases t
  · obtain ⟨its, rv, p, _⟩ := I.list q
    exact ⟨its, rv, p.isList⟩
  · obtain ⟨its, rv, p, _⟩ := I.tuple q
    exact ⟨its, rv, p⟩
theorem sq_inj {X : Cx} {pins : List (Addr × Obj)} {σ : L2.St} {H : Hp} {s : Shared} (I : Inv X pins σ H s) {x : Src} {xs ys : List V} (q : SqX X.K H x xs) (r : SqX X.K H x ys) : xs = ys := by
  obtain ⟨a, t⟩ := x
  cases t
  · exact I.list_inj q r
  · exact I.tuple_inj q r
/-- things as they stand at each turn, the items in a new tuple -/
def ItN (K : PySem.W.Frag) (srcs : List Src) : It :=
  ⟨fun i H => ∀ (j : Nat) (x : Src), srcs[j]? = some x → ∃ xs v, SqX K H x xs ∧ xs[i]? = some v,
    fun i H v H' => ∃ T vs, v = .ref T ∧ H T = none ∧ H' = upd H T (.tup vs) ∧ vs.length = srcs.length ∧ ∀ (j : Nat) (x : Src) (xs : List V), srcs[j]? = some x → SqX K H x xs → ∃ y, xs[i]? = some y ∧ vs[j]? = some y,
    fun i H => (∀ (j : Nat) (x : Src), srcs[j]? = some x → ∃ xs, SqX K H x xs) ∧ ∃ (j : Nat) (x : Src) (xs : List V), srcs[j]? = some x ∧ SqX K H x xs ∧ xs.length ≤ i⟩
theorem vals_of : ∀ {us : List Value} {P : Nat → V → Prop}, (∀ j u, us[j]? = some u → ∃ v, RelV v u ∧ P j v) → ∃ vs, Vals vs us ∧ ∀ j v, vs[j]? = some v → P j v
  | [], _, _ => ⟨[], .nil, fun j v h => by simp at h⟩
  | u :: r, P, h => by
    obtain ⟨v, r1, p1⟩ := h 0 u rfl
    obtain ⟨vs, r2, p2⟩ := vals_of (us := r) (P := fun j => P (j + 1)) fun j u e => h (j + 1) u e
    refine ⟨v :: vs, .cons r1 r2, fun j w e => ?_⟩
    cases j with
    | zero =>
      have := Option.some.inj e
      subst this
      exact p1
    | succ j => exact p2 j w e
theorem rows {X : Cx} {pins : List (Addr × Obj)} {σ : L2.St} {H : Hp} {s : Shared} (I : Inv X pins σ H s) {srcs : List Src} (h : ∀ (j : Nat) (x : Src), srcs[j]? = some x → ∃ xs, SqX X.K H x xs) :
    ∃ row : Nat → List Value, ∀ (j : Nat) (x : Src), srcs[j]? = some x → ∃ xs, SqX X.K H x xs ∧ Vals xs (row j) ∧ SSq s.heap x (row j).toArray := by
  refine Classical.axiomOfChoice (r := fun (j : Nat) (r : List Value) => ∀ x : Src, srcs[j]? = some x → ∃ xs, SqX X.K H x xs ∧ Vals xs r ∧ SSq s.heap x r.toArray) fun j => ?_
  cases e : srcs[j]? with
  | none => exact ⟨[], fun x h => nomatch h⟩
  | some x =>
    obtain ⟨xs, q⟩ := h j x e
    obtain ⟨its, rv, p⟩ := sq_get I q
    exact ⟨its, fun y hy => by cases hy; exact ⟨xs, q, rv, p⟩⟩
theorem turnN {P : Program} {w : World} {K : PySem.W.Frag} {elts : List Expr} {kk : Nat} {tpos : Pos} {z TI TO : Addr} {is : List Addr} {srcs : List Src} (D : Apart z TI TO is srcs) (hlen : is.length = srcs.length) (hne : is ≠ []) (hsm : is.length ≤ 1000) :
    Turn P w K (.Tuple elts kk tpos) (ItN K srcs) (z :: TI :: TO :: is) z (fun i h => IsZip h z TI TO .none ∧ h.get? TI = some { cls := .type "tuple", data := .seq (refs is) } ∧ (∃ ys : Array Value, ys.size = is.length ∧ h.get? TO = some { cls := .type "tuple", data := .seq ys }) ∧
      ∀ (j : Nat) (b : Addr) (x : Src), is[j]? = some b → srcs[j]? = some x → SIt h b x i) where
  mem := List.mem_cons_self ..
  obj := fun i h st c hc => by
    obtain ⟨hz, hTI, ⟨ys, _, hTO⟩, hi⟩ := st
    rcases List.mem_cons.mp hc with q | hc
    · rw [q]; exact ⟨_, hz, fun v q => nomatch q⟩
    rcases List.mem_cons.mp hc with q | hc
    · rw [q]; exact ⟨_, hTI, fun v q => nomatch q⟩
    rcases List.mem_cons.mp hc with q | hc
    · rw [q]; exact ⟨_, hTO, fun v q => nomatch q⟩
    obtain ⟨j, ej⟩ := List.mem_iff_getElem?.mp hc
    have jl := (List.getElem?_eq_some_iff.mp ej).1
    exact (hi j c _ ej (List.getElem?_eq_getElem (by omega))).obj
  keep := fun i h h' st k => by
    obtain ⟨hz, hTI, ⟨ys, y1, hTO⟩, hi⟩ := st
    exact ⟨k z (by simp) _ hz, k TI (by simp) _ hTI, ⟨ys, y1, k TO (by simp) _ hTO⟩, fun j b x e1 e2 => (hi j b x e1 e2).at fun o q => k b (by simp [List.mem_of_getElem? e1]) o q⟩
  item := by
    intro X hP hw hK hc i pins s σ H E I hf st hg
    subst hP hw hK
    obtain ⟨hz, hTI, hTO, hi⟩ := st
    obtain ⟨row, hrow⟩ := rows I (srcs := srcs) fun j x e => by obtain ⟨xs, v, q, _⟩ := hg j x e; exact ⟨xs, q⟩
    have hzl : z < s.heap.objs.size := Heap.lt_size hz
    have src : ∀ j, j < is.length → ∃ x, srcs[j]? = some x := fun j hj => ⟨srcs[j]'(by omega), List.getElem?_eq_getElem _⟩
    refine pyNext_item (row := fun j => (row j).toArray) (I.ok.hd hc) D hlen hne hsm hz hTI hTO hi (fun j x e => by obtain ⟨xs, _, _, p⟩ := hrow j x e; exact p) (fun j hj => ?_) fun h' ys z' y1 y2 TO' hi' hT hsz hk => ?_
    · obtain ⟨x, ex⟩ := src j hj
      obtain ⟨xs, q, rv, _⟩ := hrow j x ex
      obtain ⟨xs', v, q', hv⟩ := hg j x ex
      rw [sq_inj I q' q] at hv
      obtain ⟨u, hu, _⟩ := rv.get hv
      rw [List.getElem?_toArray, hu]
      exact fun q => nomatch q
    refine ⟨_, rfl, wpAny_letOwnedTupleGo_zip (s := { s with heap := h' }) z' fun h'' z'' sb => ?_⟩
    have hT2 : h''.get? s.heap.objs.size = some { cls := .type "tuple", data := .seq ys } := (sb.2 _ (Nat.ne_of_gt hzl)).trans hT
    obtain ⟨vs, rvs, pvs⟩ := vals_of (us := ys.toList) (P := fun j v => ∀ (x : Src) (xs : List V), srcs[j]? = some x → SqX X.K H x xs → xs[i]? = some v) fun j u e => by
      have jl : j < is.length := by
        have := (List.getElem?_eq_some_iff.mp e).1
        simp at this
        omega
      obtain ⟨x, ex⟩ := src j jl
      obtain ⟨xs, q, rv, _⟩ := hrow j x ex
      obtain ⟨xs', v, q', hv⟩ := hg j x ex
      rw [sq_inj I q' q] at hv
      obtain ⟨u', hu, ru⟩ := rv.get hv
      have e2 := y2 j jl
      rw [← Array.getElem?_toList, e] at e2
      have e3 : u = u' := by
        have : (row j).toArray[i]? = some u' := by rw [List.getElem?_toArray]; exact hu
        rw [this] at e2
        exact Option.some.inj e2
      subst e3
      refine ⟨v, ru, fun x' ys' ex' q'' => ?_⟩
      rw [ex] at ex'
      cases ex'
      rw [sq_inj I q'' q]
      exact hv
    have lvs : vs.length = srcs.length := by
      have := rvs.length
      simp at this
      omega
    have new : ObjOk X.prog X.w (upd H s.heap.objs.size (.tup vs)) h'' s.heap.objs.size (.tup vs) :=
      ⟨by rw [lvs, ← hlen]; exact Nat.le_trans hsm (by decide), ys.toList, rvs, ⟨_, hT2, rfl, 0, by simp⟩⟩
    have I1 : Inv X pins σ (upd H s.heap.objs.size (.tup vs)) { s with heap := h'' } :=
      I.turnedNew (t' := s.toks) (ch := z :: TI :: TO :: is) (fun c o hb q => (sb.2 c (fun q' => hb (by simp [q']))).trans (hk c o (fun q' => hb (by simp [q'])) (fun q' => hb (by simp [q'])) (fun q' => hb (by simp [q'])) q)) hf (Nat.le_refl _) new
    refine ⟨.ref s.heap.objs.size, _, I1, rfl, ⟨_, vs, rfl, I.hok.fresh (Nat.le_refl _), rfl, lvs, fun j x xs ex q => ?_⟩, ⟨z'', ?_, ⟨ys, y1, ?_⟩, fun j b x e1 e2 => ?_⟩, fun c hcm => ?_⟩
    · have jl : j < vs.length := by rw [lvs]; exact (List.getElem?_eq_some_iff.mp ex).1
      exact ⟨vs[j], pvs j _ (List.getElem?_eq_getElem jl) x xs ex q, List.getElem?_eq_getElem jl⟩
    · exact (sb.2 _ D.TIz).trans (hk _ _ D.TIz D.TITO D.TIi hTI)
    · exact (sb.2 _ D.TOz).trans TO'
    · exact (hi' j b x e1 e2).at fun o q => (sb.2 _ (fun q' => D.zi (q' ▸ List.mem_of_getElem? e1))).trans q
    · have hlt : c < s.heap.objs.size := by
        rcases List.mem_cons.mp hcm with q | hcm
        · rw [q]; exact hzl
        rcases List.mem_cons.mp hcm with q | hcm
        · rw [q]; exact Heap.lt_size hTI
        rcases List.mem_cons.mp hcm with q | hcm
        · obtain ⟨_, _, e⟩ := hTO; rw [q]; exact Heap.lt_size e
        obtain ⟨j, ej⟩ := List.mem_iff_getElem?.mp hcm
        have jl := (List.getElem?_eq_some_iff.mp ej).1
        obtain ⟨o, e, _⟩ := (hi j c _ ej (List.getElem?_eq_getElem (by omega))).obj
        exact Heap.lt_size e
      rw [upd_ne (Nat.ne_of_lt hlt)]
      exact (hf c hcm).1
  done := by
    intro X hP hw hK hc i pins s σ H E I hf st hg
    subst hP hw hK
    obtain ⟨hz, hTI, hTO, hi⟩ := st
    obtain ⟨hall, j, x, xs, ex, q, hl⟩ := hg
    obtain ⟨row, hrow⟩ := rows I (srcs := srcs) hall
    refine pyNext_end (row := fun j => (row j).toArray) (I.ok.hd hc) D hlen hne hsm hz hTI hTO hi (fun j x e => by obtain ⟨xs, _, _, p⟩ := hrow j x e; exact p) ⟨j, by rw [hlen]; exact (List.getElem?_eq_some_iff.mp ex).1, ?_⟩ fun h' hk => ⟨rfl, I.turnedL (t' := s.toks) (ch := z :: TI :: TO :: is) (fun c o hb q =>
      hk c o (fun q' => hb (by simp [q'])) (fun q' => hb (by simp [q'])) (fun q' => hb (by simp [q'])) q) hf⟩
    obtain ⟨xs', q', rv, _⟩ := hrow j x ex
    rw [sq_inj I q q'] at hl
    have := rv.length
    rw [List.getElem?_toArray]
    exact List.getElem?_eq_none (by omega)
  self := fun A i s Q E st h => wpAny_pyIter_zip st.1 h
abbrev itObj (x : Src) : Obj := { cls := .type (if x.t then "tuple_iterator" else "list_iterator"), data := .fields #[.ref x.a, .int 0 0] }
theorem itObj_at {h : Heap} {i : Addr} {x : Src} (e : h.get? i = some (itObj x)) : SIt h i x 0 := by
  obtain ⟨a, t⟩ := x
  cases t
  · exact ⟨_, e, rfl, rfl⟩
  · exact ⟨_, e, rfl, rfl⟩
theorem SSq.push {h : Heap} {x : Src} {r : Array Value} (g : SSq h x r) (o : Obj) : SSq (h.push o) x r := g.at fun _ e => Heap.get?_push_of_some _ e
theorem SSq.lt {h : Heap} {x : Src} {r : Array Value} (g : SSq h x r) : x.a < h.objs.size := by
  obtain ⟨a, t⟩ := x
  cases t
  · obtain ⟨_, e, _⟩ := g
    exact Heap.lt_size e
  · obtain ⟨_, e, _⟩ := g
    exact Heap.lt_size e
abbrev tupO (vs : Array Value) : Obj := { cls := .type "tuple", data := .seq vs }
abbrev zipO (TI TO : Addr) : Obj := { cls := .type "zip", data := .fields #[.none, .bool false, .bool false, .ref TI, .ref TO] }
abbrev h3a (h : Heap) (x y z : Src) : Heap := ((h.push (itObj x)).push (itObj y)).push (itObj z)
abbrev h3b (h : Heap) (x y z : Src) : Heap := (h3a h x y z).push (tupO #[.ref h.objs.size, .ref (h.push (itObj x)).objs.size, .ref ((h.push (itObj x)).push (itObj y)).objs.size])
abbrev h3c (h : Heap) (x y z : Src) : Heap := (h3b h x y z).push (tupO #[.none, .none, .none])
abbrev h3d (h : Heap) (x y z : Src) : Heap := (h3c h x y z).push (zipO (h3a h x y z).objs.size (h3b h x y z).objs.size)
set_option maxHeartbeats 4000000 in
theorem meets_new3 (x y z : Src) (r1 r2 r3 : Array Value) :
    Meets (Builtin.«zip.__new__» ⟨[.type "zip", .ref x.a, .ref y.a, .ref z.a], []⟩) (fun _ R s => SSq s.heap x r1 ∧ SSq s.heap y r2 ∧ SSq s.heap z r3 ∧
      R (.ok (.ret (.ref (h3c s.heap x y z).objs.size))) { s with heap := h3d s.heap x y z }) :=
  .of_wp fun prog w A R s h => by
    obtain ⟨hp, g, d, tk, os⟩ := s; obtain ⟨hl1, hl2, hl3, h⟩ := h
    have hsub := sub_zip
    have hL1 : SSq (Shared.heap ⟨hp, g, d, tk, os⟩) x r1 := hl1
    have hL2 : SSq (Shared.heap ⟨hp.push (itObj x), g, d, tk, os⟩) y r2 := hl2.push _
    have hL3 : SSq (Shared.heap ⟨(hp.push (itObj x)).push (itObj y), g, d, tk, os⟩) z r3 := (hl3.push _).push _
    wp_walk using pyIter_src hL1, pyIter_src hL2, pyIter_src hL3
    exact ⟨_, rfl, h⟩
theorem typeCall_zip_3 (a b c : Value) : checkTypeCall "zip" ⟨[a, b, c], []⟩ = pure () := by kernel_rfl
theorem newCall_zip_3 (a b c : Value) : checkBuiltinCall "zip.__new__" ⟨[.type "zip", a, b, c], []⟩ = pure () := by kernel_rfl
theorem args_object_init_4 (a b c d : Value) : argsOk "object.__init__" ⟨[a, b, c, d], []⟩ := by
  unfold argsOk; rw [signature?_of (id := "object.__init__") (n := ['_', '_', 't', 'i', 'n', 'i', '_', '_']) (o := ['t', 'c', 'e', 'j', 'b', 'o']) (by kernel_rfl) F.owner_object]; kernel_rfl
theorem apart3 (n : Nat) {x y z : Src} (h1 : x.a < n) (h2 : y.a < n) (h3 : z.a < n) : Apart (n + 5) (n + 3) (n + 4) [n, n + 1, n + 2] [x, y, z] where
  TIz := by show (n + 3 : Nat) ≠ n + 5; omega
  TOz := by show (n + 4 : Nat) ≠ n + 5; omega
  TITO := by show (n + 3 : Nat) ≠ n + 4; omega
  zi := by simp
  TIi := by simp
  TOi := by simp
  nd := by simp
  sz := by
    intro s hs
    simp at hs
    rcases hs with rfl | rfl | rfl
    · exact Nat.ne_of_lt (Nat.lt_of_lt_of_le h1 (Nat.le_add_right _ _))
    · exact Nat.ne_of_lt (Nat.lt_of_lt_of_le h2 (Nat.le_add_right _ _))
    · exact Nat.ne_of_lt (Nat.lt_of_lt_of_le h3 (Nat.le_add_right _ _))
  sTO := by
    intro s hs
    simp at hs
    rcases hs with rfl | rfl | rfl
    · exact Nat.ne_of_lt (Nat.lt_of_lt_of_le h1 (Nat.le_add_right _ _))
    · exact Nat.ne_of_lt (Nat.lt_of_lt_of_le h2 (Nat.le_add_right _ _))
    · exact Nat.ne_of_lt (Nat.lt_of_lt_of_le h3 (Nat.le_add_right _ _))
  si := by
    have no : ∀ {a : Addr}, a < n → a ∉ ([n, n + 1, n + 2] : List Addr) := fun {a} h q => by
      rcases List.mem_cons.mp q with q | q
      · exact Nat.ne_of_lt h q
      rcases List.mem_cons.mp q with q | q
      · exact Nat.ne_of_lt (Nat.lt_of_lt_of_le h (Nat.le_add_right _ _)) q
      · exact Nat.ne_of_lt (Nat.lt_of_lt_of_le h (Nat.le_add_right _ _)) (List.mem_singleton.mp q)
    intro s hs
    simp at hs
    rcases hs with rfl | rfl | rfl
    · exact no h1
    · exact no h2
    · exact no h3
theorem call3 {prog : Program} {w : World} {A : Around} {E : Value → Shared → Prop} {s : Shared} {x y z : Src} {r1 r2 r3 : Array Value} {Q : Value → Shared → Prop} (hl1 : SSq s.heap x r1) (hl2 : SSq s.heap y r2) (hl3 : SSq s.heap z r3)
    (h : ∀ h', IsZip h' (s.heap.objs.size + 5) (s.heap.objs.size + 3) (s.heap.objs.size + 4) .none → h'.get? (s.heap.objs.size + 3) = some (tupO (refs [s.heap.objs.size, s.heap.objs.size + 1, s.heap.objs.size + 2])) → h'.get? (s.heap.objs.size + 4) = some (tupO #[.none, .none, .none]) →
      SIt h' s.heap.objs.size x 0 → SIt h' (s.heap.objs.size + 1) y 0 → SIt h' (s.heap.objs.size + 2) z 0 → (∀ c o, s.heap.get? c = some o → h'.get? c = some o) → Q (.ref (s.heap.objs.size + 5)) { s with heap := h' }) :
    wpAny (model prog w) A (call (.type "zip") [.ref x.a, .ref y.a, .ref z.a]) Q E s := by
  refine callType_new F.called_zip (by decide) (typeCall_zip_3 _ _ _) (newCall_zip_3 _ _ _) (fun obj => args_object_init_4 obj _ _ _) F.entry_zip_new (meets_new3 x y z r1 r2 r3) ⟨hl1, hl2, hl3, ?_⟩
  have z1 : (s.heap.push (itObj x)).objs.size = s.heap.objs.size + 1 := Heap.size_push ..
  have z2 : ((s.heap.push (itObj x)).push (itObj y)).objs.size = s.heap.objs.size + 2 := by rw [Heap.size_push, z1]
  have z3 : (h3a s.heap x y z).objs.size = s.heap.objs.size + 3 := by rw [Heap.size_push, z2]
  have z4 : (h3b s.heap x y z).objs.size = s.heap.objs.size + 4 := by rw [Heap.size_push, z3]
  have z5 : (h3c s.heap x y z).objs.size = s.heap.objs.size + 5 := by rw [Heap.size_push, z4]
  have g6 : (h3d s.heap x y z).get? (h3c s.heap x y z).objs.size = some _ := Heap.get?_push_size _ rfl
  have g5 : (h3d s.heap x y z).get? (h3b s.heap x y z).objs.size = some _ := Heap.get?_push_of_some _ (Heap.get?_push_size _ rfl)
  have g4 : (h3d s.heap x y z).get? (h3a s.heap x y z).objs.size = some _ := Heap.get?_push_of_some _ (Heap.get?_push_of_some _ (Heap.get?_push_size _ rfl))
  have g3 : (h3d s.heap x y z).get? ((s.heap.push (itObj x)).push (itObj y)).objs.size = some (itObj z) := Heap.get?_push_of_some _ (Heap.get?_push_of_some _ (Heap.get?_push_of_some _ (Heap.get?_push_size _ rfl)))
  have g2 : (h3d s.heap x y z).get? (s.heap.push (itObj x)).objs.size = some (itObj y) := Heap.get?_push_of_some _ (Heap.get?_push_of_some _ (Heap.get?_push_of_some _ (Heap.get?_push_of_some _ (Heap.get?_push_size _ rfl))))
  have g1 : (h3d s.heap x y z).get? s.heap.objs.size = some (itObj x) := Heap.get?_push_of_some _ (Heap.get?_push_of_some _ (Heap.get?_push_of_some _ (Heap.get?_push_of_some _ (Heap.get?_push_of_some _ (Heap.get?_push_size _ rfl)))))
  show _ ∧ _
  rw [z3, z4, z5] at g6
  rw [z1, z2, z3] at g4
  rw [z4] at g5
  rw [z2] at g3
  rw [z1] at g2
  rw [z5]
  exact ⟨⟨_, g6, rfl⟩, h _ g6 g4 g5 (itObj_at g1) (itObj_at g2) (itObj_at g3) fun c o x =>
    Heap.get?_push_of_some _ (Heap.get?_push_of_some _ (Heap.get?_push_of_some _ (Heap.get?_push_of_some _ (Heap.get?_push_of_some _ (Heap.get?_push_of_some _ x)))))⟩
def iZip3 (K : PySem.W.Frag) (ta : TA) : TI := fun σ H R => ta σ H fun vs H1 => ∃ (x y z : Src) (xs ys zs : List V), vs = [.ref x.a, .ref y.a, .ref z.a] ∧ SqX K H1 x xs ∧ SqX K H1 y ys ∧ SqX K H1 z zs ∧ R (ItN K [x, y, z]) H1
theorem pi_zip3 {X : Cx} {e e2 e3 : Expr} {ta : TA} {p pos tpos : Pos} {elts : List Expr} {kk : Nat} (hg : Gl X "zip") (hm : X.mg "zip" = none) (ha : PA X [e, e2, e3] ta)
    (hs : starEach [e, e2, e3] X.env = (false, eval e X.env) :: starEach [e2, e3] X.env := by rfl) (hpl : (backTo pos (starEach [e2, e3] X.env)).any (·.1) = false := by rfl) :
    PI X (.Tuple elts kk tpos) (.Call (.Name "zip" p) [e, e2, e3] [] pos) (iZip3 X.K ta) := by
  refine ⟨fun pins s σ H R I h => ?_⟩
  refine Call_ (ld_blt I hg hm PyProof.Rows.boot_zip (PyProof.Rows.callWith_type1 (thn (ha.run pos pins s σ H _ I h) fun us s1 ⟨vs, H1, I1, r1, q1⟩ => ?_) hs hpl))
  obtain ⟨x, y, z, xs, ys, zs, ex, qx, qy, qz, q⟩ := q1
  subst ex
  cases r1 with
  | cons r rr =>
    cases rr with
    | cons r' rr =>
      cases rr with
      | cons r'' rr =>
        cases rr
        cases r
        cases r'
        cases r''
        obtain ⟨its, _, p1⟩ := sq_get I1 qx
        obtain ⟨its2, _, p2⟩ := sq_get I1 qy
        obtain ⟨its3, _, p3⟩ := sq_get I1 qz
        refine call3 p1 p2 p3 fun h' hz hTI hTO i1 i2 i3 hk => wpAny_pyIter_zip hz ?_
        have I2 : Inv X pins σ H1 { s1 with heap := h' } := I1.kept (t' := s1.toks) hk
        refine ⟨s1.heap.objs.size + 5, [s1.heap.objs.size + 5, s1.heap.objs.size + 3, s1.heap.objs.size + 4, s1.heap.objs.size, s1.heap.objs.size + 1, s1.heap.objs.size + 2], _, _, H1, rfl, I2,
          turnN (apart3 s1.heap.objs.size p1.lt p2.lt p3.lt) rfl (fun q => nomatch q) (by show 3 ≤ 1000; decide), ⟨hz, hTI, ⟨_, rfl, hTO⟩, fun j b u e1 e2 => ?_⟩, fun c hcm => ?_, q⟩
        · match j, e1, e2 with
          | 0, e1, e2 => cases e1; cases e2; exact i1
          | 1, e1, e2 => cases e1; cases e2; exact i2
          | 2, e1, e2 => cases e1; cases e2; exact i3
          | n + 3, e1, _ => cases e1
        · have hle : s1.heap.objs.size ≤ c := by
            simp only [List.mem_cons, List.not_mem_nil, or_false] at hcm
            rcases hcm with z | z | z | z | z | z <;> rw [z] <;> first | exact Nat.le_refl _ | exact Nat.le_add_right _ _
          exact I1.fpOk hle (I1.hok.fresh hle)
def Y3 (xs ys zs : List V) : Nat → Hp → V → Hp → Prop := fun i H v H' => ∃ T x y z, v = .ref T ∧ H T = none ∧ H' = upd H T (.tup [x, y, z]) ∧ xs[i]? = some x ∧ ys[i]? = some y ∧ zs[i]? = some z
theorem walk3 {K : PySem.W.Frag} {x y z : Src} {xs ys zs : List V} (h1 : ys.length = xs.length) (h2 : zs.length = xs.length) : Walk (ItN K [x, y, z]) xs.length (fun H => SqX K H x xs ∧ SqX K H y ys ∧ SqX K H z zs) (Y3 xs ys zs) where
  goes := fun i H hi g j u e => by
    match j, e with
    | 0, e => cases e; exact ⟨xs, _, g.1, List.getElem?_eq_getElem hi⟩
    | 1, e => cases e; exact ⟨ys, _, g.2.1, List.getElem?_eq_getElem (by omega)⟩
    | 2, e => cases e; exact ⟨zs, _, g.2.2, List.getElem?_eq_getElem (by omega)⟩
    | n + 3, e => cases e
  stops := fun H g => by
    refine ⟨fun j u e => ?_, 0, x, xs, rfl, g.1, Nat.le_refl _⟩
    match j, e with
    | 0, e => cases e; exact ⟨xs, g.1⟩
    | 1, e => cases e; exact ⟨ys, g.2.1⟩
    | 2, e => cases e; exact ⟨zs, g.2.2⟩
    | n + 3, e => cases e
  yields := fun i H v H' hi g q => by
    obtain ⟨T, vs, rfl, nT, rfl, lv, hv⟩ := q
    obtain ⟨a, a1, a2⟩ := hv 0 x xs rfl g.1
    obtain ⟨b, b1, b2⟩ := hv 1 y ys rfl g.2.1
    obtain ⟨c, c1, c2⟩ := hv 2 z zs rfl g.2.2
    refine ⟨T, a, b, c, rfl, nT, ?_, a1, b1, c1⟩
    match vs, lv with
    | [u, v, w], _ =>
      cases a2
      cases b2
      cases c2
      rfl
abbrev h2a (h : Heap) (x y : Src) : Heap := (h.push (itObj x)).push (itObj y)
abbrev h2b (h : Heap) (x y : Src) : Heap := (h2a h x y).push (tupO #[.ref h.objs.size, .ref (h.push (itObj x)).objs.size])
abbrev h2c (h : Heap) (x y : Src) : Heap := (h2b h x y).push (tupO #[.none, .none])
abbrev h2d (h : Heap) (x y : Src) : Heap := (h2c h x y).push (zipO (h2a h x y).objs.size (h2b h x y).objs.size)
set_option maxHeartbeats 4000000 in
theorem meets_new2 (x y : Src) (r1 r2 : Array Value) :
    Meets (Builtin.«zip.__new__» ⟨[.type "zip", .ref x.a, .ref y.a], []⟩) (fun _ R s => SSq s.heap x r1 ∧ SSq s.heap y r2 ∧
      R (.ok (.ret (.ref (h2c s.heap x y).objs.size))) { s with heap := h2d s.heap x y }) :=
  .of_wp fun prog w A R s h => by
    obtain ⟨hp, g, d, tk, os⟩ := s; obtain ⟨hl1, hl2, h⟩ := h
    have hsub := sub_zip
    have hL1 : SSq (Shared.heap ⟨hp, g, d, tk, os⟩) x r1 := hl1
    have hL2 : SSq (Shared.heap ⟨hp.push (itObj x), g, d, tk, os⟩) y r2 := hl2.push _
    wp_walk using pyIter_src hL1, pyIter_src hL2
    exact ⟨_, rfl, h⟩
theorem apart2 (n : Nat) {x y : Src} (h1 : x.a < n) (h2 : y.a < n) : Apart (n + 4) (n + 2) (n + 3) [n, n + 1] [x, y] where
  TIz := by show (n + 2 : Nat) ≠ n + 4; omega
  TOz := by show (n + 3 : Nat) ≠ n + 4; omega
  TITO := by show (n + 2 : Nat) ≠ n + 3; omega
  zi := by simp
  TIi := by simp
  TOi := by simp
  nd := by simp
  sz := by
    intro s hs
    simp at hs
    rcases hs with rfl | rfl
    · exact Nat.ne_of_lt (Nat.lt_of_lt_of_le h1 (Nat.le_add_right _ _))
    · exact Nat.ne_of_lt (Nat.lt_of_lt_of_le h2 (Nat.le_add_right _ _))
  sTO := by
    intro s hs
    simp at hs
    rcases hs with rfl | rfl
    · exact Nat.ne_of_lt (Nat.lt_of_lt_of_le h1 (Nat.le_add_right _ _))
    · exact Nat.ne_of_lt (Nat.lt_of_lt_of_le h2 (Nat.le_add_right _ _))
  si := by
    have no : ∀ {a : Addr}, a < n → a ∉ ([n, n + 1] : List Addr) := fun {a} h q => by
      rcases List.mem_cons.mp q with q | q
      · exact Nat.ne_of_lt h q
      · exact Nat.ne_of_lt (Nat.lt_of_lt_of_le h (Nat.le_add_right _ _)) (List.mem_singleton.mp q)
    intro s hs
    simp at hs
    rcases hs with rfl | rfl
    · exact no h1
    · exact no h2
theorem call2 {prog : Program} {w : World} {A : Around} {E : Value → Shared → Prop} {s : Shared} {x y : Src} {r1 r2 : Array Value} {Q : Value → Shared → Prop} (hl1 : SSq s.heap x r1) (hl2 : SSq s.heap y r2)
    (h : ∀ h', IsZip h' (s.heap.objs.size + 4) (s.heap.objs.size + 2) (s.heap.objs.size + 3) .none → h'.get? (s.heap.objs.size + 2) = some (tupO (refs [s.heap.objs.size, s.heap.objs.size + 1])) → h'.get? (s.heap.objs.size + 3) = some (tupO #[.none, .none]) →
      SIt h' s.heap.objs.size x 0 → SIt h' (s.heap.objs.size + 1) y 0 → (∀ c o, s.heap.get? c = some o → h'.get? c = some o) → Q (.ref (s.heap.objs.size + 4)) { s with heap := h' }) :
    wpAny (model prog w) A (call (.type "zip") [.ref x.a, .ref y.a]) Q E s := by
  refine callType_new F.called_zip (by decide) (F.typeCall_zip_2 _ _) (F.newCall_zip_2 _ _) (fun obj => F.args_object_init_3 obj _ _) F.entry_zip_new (meets_new2 x y r1 r2) ⟨hl1, hl2, ?_⟩
  have z1 : (s.heap.push (itObj x)).objs.size = s.heap.objs.size + 1 := Heap.size_push ..
  have z3 : (h2a s.heap x y).objs.size = s.heap.objs.size + 2 := by rw [Heap.size_push, z1]
  have z4 : (h2b s.heap x y).objs.size = s.heap.objs.size + 3 := by rw [Heap.size_push, z3]
  have z5 : (h2c s.heap x y).objs.size = s.heap.objs.size + 4 := by rw [Heap.size_push, z4]
  have g6 : (h2d s.heap x y).get? (h2c s.heap x y).objs.size = some _ := Heap.get?_push_size _ rfl
  have g5 : (h2d s.heap x y).get? (h2b s.heap x y).objs.size = some _ := Heap.get?_push_of_some _ (Heap.get?_push_size _ rfl)
  have g4 : (h2d s.heap x y).get? (h2a s.heap x y).objs.size = some _ := Heap.get?_push_of_some _ (Heap.get?_push_of_some _ (Heap.get?_push_size _ rfl))
  have g2 : (h2d s.heap x y).get? (s.heap.push (itObj x)).objs.size = some (itObj y) := Heap.get?_push_of_some _ (Heap.get?_push_of_some _ (Heap.get?_push_of_some _ (Heap.get?_push_size _ rfl)))
  have g1 : (h2d s.heap x y).get? s.heap.objs.size = some (itObj x) := Heap.get?_push_of_some _ (Heap.get?_push_of_some _ (Heap.get?_push_of_some _ (Heap.get?_push_of_some _ (Heap.get?_push_size _ rfl))))
  show _ ∧ _
  rw [z3, z4, z5] at g6
  rw [z1, z3] at g4
  rw [z4] at g5
  rw [z1] at g2
  rw [z5]
  exact ⟨⟨_, g6, rfl⟩, h _ g6 g4 g5 (itObj_at g1) (itObj_at g2) fun c o x =>
    Heap.get?_push_of_some _ (Heap.get?_push_of_some _ (Heap.get?_push_of_some _ (Heap.get?_push_of_some _ (Heap.get?_push_of_some _ x))))⟩
def iZip2 (K : PySem.W.Frag) (ta : TA) : TI := fun σ H R => ta σ H fun vs H1 => ∃ (x y : Src) (xs ys : List V), vs = [.ref x.a, .ref y.a] ∧ SqX K H1 x xs ∧ SqX K H1 y ys ∧ R (ItN K [x, y]) H1
theorem pi_zip2 {X : Cx} {e e2 : Expr} {ta : TA} {p pos tpos : Pos} {elts : List Expr} {kk : Nat} (hg : Gl X "zip") (hm : X.mg "zip" = none) (ha : PA X [e, e2] ta)
    (hs : starEach [e, e2] X.env = (false, eval e X.env) :: starEach [e2] X.env := by rfl) (hpl : (backTo pos (starEach [e2] X.env)).any (·.1) = false := by rfl) :
    PI X (.Tuple elts kk tpos) (.Call (.Name "zip" p) [e, e2] [] pos) (iZip2 X.K ta) := by
  refine ⟨fun pins s σ H R I h => ?_⟩
  refine Call_ (ld_blt I hg hm PyProof.Rows.boot_zip (PyProof.Rows.callWith_type1 (thn (ha.run pos pins s σ H _ I h) fun us s1 ⟨vs, H1, I1, r1, q1⟩ => ?_) hs hpl))
  obtain ⟨x, y, xs, ys, ex, qx, qy, q⟩ := q1
  subst ex
  cases r1 with
  | cons r rr =>
    cases rr with
    | cons r' rr =>
      cases rr
      cases r
      cases r'
      obtain ⟨its, _, p1⟩ := sq_get I1 qx
      obtain ⟨its2, _, p2⟩ := sq_get I1 qy
      refine call2 p1 p2 fun h' hz hTI hTO i1 i2 hk => wpAny_pyIter_zip hz ?_
      have I2 : Inv X pins σ H1 { s1 with heap := h' } := I1.kept (t' := s1.toks) hk
      refine ⟨s1.heap.objs.size + 4, [s1.heap.objs.size + 4, s1.heap.objs.size + 2, s1.heap.objs.size + 3, s1.heap.objs.size, s1.heap.objs.size + 1], _, _, H1, rfl, I2,
        turnN (apart2 s1.heap.objs.size p1.lt p2.lt) rfl (fun q => nomatch q) (by show 2 ≤ 1000; decide), ⟨hz, hTI, ⟨_, rfl, hTO⟩, fun j b u e1 e2 => ?_⟩, fun c hcm => ?_, q⟩
      · match j, e1, e2 with
        | 0, e1, e2 => cases e1; cases e2; exact i1
        | 1, e1, e2 => cases e1; cases e2; exact i2
        | n + 2, e1, _ => cases e1
      · have hle : s1.heap.objs.size ≤ c := by
          simp only [List.mem_cons, List.not_mem_nil, or_false] at hcm
          rcases hcm with z | z | z | z | z <;> rw [z] <;> first | exact Nat.le_refl _ | exact Nat.le_add_right _ _
        exact I1.fpOk hle (I1.hok.fresh hle)
theorem walk2 {K : PySem.W.Frag} {x y : Src} {xs ys : List V} (h1 : ys.length = xs.length) : Walk (ItN K [x, y]) xs.length (fun H => SqX K H x xs ∧ SqX K H y ys) (YPair (fun i => xs[i]?) (fun i => ys[i]?)) where
  goes := fun i H hi g j u e => by
    match j, e with
    | 0, e => cases e; exact ⟨xs, _, g.1, List.getElem?_eq_getElem hi⟩
    | 1, e => cases e; exact ⟨ys, _, g.2, List.getElem?_eq_getElem (by omega)⟩
    | n + 2, e => cases e
  stops := fun H g => by
    refine ⟨fun j u e => ?_, 0, x, xs, rfl, g.1, Nat.le_refl _⟩
    match j, e with
    | 0, e => cases e; exact ⟨xs, g.1⟩
    | 1, e => cases e; exact ⟨ys, g.2⟩
    | n + 2, e => cases e
  yields := fun i H v H' hi g q => by
    obtain ⟨T, vs, rfl, nT, rfl, lv, hv⟩ := q
    obtain ⟨a, a1, a2⟩ := hv 0 x xs rfl g.1
    obtain ⟨b, b1, b2⟩ := hv 1 y ys rfl g.2
    refine ⟨T, a, b, rfl, nT, ?_, a1, b1⟩
    match vs, lv with
    | [u, v], _ =>
      cases a2
      cases b2
      rfl
end ZN

namespace TP
open PySem PySem.Spec PyProof.Rows L2 ZN
/-! ### zip of two or three, lists and tuples -/
theorem walk2m {K : PySem.W.Frag} {x y : Src} {xs ys : List V} : Walk (ItN K [x, y]) (min xs.length ys.length) (fun H => SqX K H x xs ∧ SqX K H y ys) (YPair (fun i => xs[i]?) (fun i => ys[i]?)) where
  goes := fun i H hi g j u e => by
    match j, e with
    | 0, e => cases e; exact ⟨xs, _, g.1, List.getElem?_eq_getElem (by omega)⟩
    | 1, e => cases e; exact ⟨ys, _, g.2, List.getElem?_eq_getElem (by omega)⟩
    | n + 2, e => cases e
  stops := fun H g => by
    refine ⟨fun j u e => ?_, ?_⟩
    · match j, e with
      | 0, e => cases e; exact ⟨xs, g.1⟩
      | 1, e => cases e; exact ⟨ys, g.2⟩
      | n + 2, e => cases e
    · by_cases q : xs.length ≤ ys.length
      · exact ⟨0, x, xs, rfl, g.1, by omega⟩
      · exact ⟨1, y, ys, rfl, g.2, by omega⟩
  yields := fun i H v H' hi g q => by
    obtain ⟨T, vs, rfl, nT, rfl, lv, hv⟩ := q
    obtain ⟨a, a1, a2⟩ := hv 0 x xs rfl g.1
    obtain ⟨b, b1, b2⟩ := hv 1 y ys rfl g.2
    refine ⟨T, a, b, rfl, nT, ?_, a1, b1⟩
    match vs, lv with
    | [u, v], _ =>
      cases a2
      cases b2
      rfl
theorem walk3m {K : PySem.W.Frag} {x y z : Src} {xs ys zs : List V} : Walk (ItN K [x, y, z]) (min xs.length (min ys.length zs.length)) (fun H => SqX K H x xs ∧ SqX K H y ys ∧ SqX K H z zs) (Y3 xs ys zs) where
  goes := fun i H hi g j u e => by
    match j, e with
    | 0, e => cases e; exact ⟨xs, _, g.1, List.getElem?_eq_getElem (by omega)⟩
    | 1, e => cases e; exact ⟨ys, _, g.2.1, List.getElem?_eq_getElem (by omega)⟩
    | 2, e => cases e; exact ⟨zs, _, g.2.2, List.getElem?_eq_getElem (by omega)⟩
    | n + 3, e => cases e
  stops := fun H g => by
    refine ⟨fun j u e => ?_, ?_⟩
    · match j, e with
      | 0, e => cases e; exact ⟨xs, g.1⟩
      | 1, e => cases e; exact ⟨ys, g.2.1⟩
      | 2, e => cases e; exact ⟨zs, g.2.2⟩
      | n + 3, e => cases e
    · by_cases q : xs.length ≤ min ys.length zs.length
      · exact ⟨0, x, xs, rfl, g.1, by omega⟩
      · by_cases q2 : ys.length ≤ zs.length
        · exact ⟨1, y, ys, rfl, g.2.1, by omega⟩
        · exact ⟨2, z, zs, rfl, g.2.2, by omega⟩
  yields := fun i H v H' hi g q => by
    obtain ⟨T, vs, rfl, nT, rfl, lv, hv⟩ := q
    obtain ⟨a, a1, a2⟩ := hv 0 x xs rfl g.1
    obtain ⟨b, b1, b2⟩ := hv 1 y ys rfl g.2.1
    obtain ⟨c, c1, c2⟩ := hv 2 z zs rfl g.2.2
    refine ⟨T, a, b, c, rfl, nT, ?_, a1, b1, c1⟩
    match vs, lv with
    | [u, v, w], _ =>
      cases a2
      cases b2
      cases c2
      rfl
/-- what is walked by zip -/
def SrcOf (K : PySem.W.Frag) {α : Type} (τs : Ty (List α)) (τ : Ty α) : Prop := ∀ Z v xs, τs.r Z v xs → ∃ (x : Src) (vs : List V), v = .ref x.a ∧ (∀ H, Same Z H → SqX K H x vs) ∧ All (τ.r Z) vs xs ∧ xs.length ≤ sizeLine
section
variable {K : PySem.W.Frag} {α β γ : Type} {τ : Ty α} {υ : Ty β} {φ : Ty γ}
theorem src_list : SrcOf K (yList τ) τ := fun Z v xs ⟨a, vs, e, h, t, l⟩ => ⟨⟨a, false⟩, vs, e, fun H s => SqL.of (s _ _ h), t, l⟩
theorem src_tup : SrcOf K (yTup K τ) τ := fun Z v xs ⟨a, vs, e, h, t, l⟩ => ⟨⟨a, true⟩, vs, e, fun H s => seqT_same s h, t, l⟩
theorem src_seq : SrcOf K (ySeq K τ) τ := fun Z v xs ⟨a, vs, e, h, t, l⟩ => by
  rcases h with h | h
  · exact ⟨⟨a, false⟩, vs, e, fun H s => SqL.of (s _ _ h), t, l⟩
  · exact ⟨⟨a, true⟩, vs, e, fun H s => seqT_same s h, t, l⟩
section
variable {μ : Type} {M : Mu μ} {σ : L2.St} {Z H : Hp} {s s1 s2 s3 : μ} {t : TA} {τs : Ty (List α)} {υs : Ty (List β)} {φs : Ty (List γ)} {xs : List α} {ys : List β} {zs : List γ} {X : Hp → Hp → Prop}
theorem ei_zip2 (f : SrcOf K τs τ) (g : SrcOf K υs υ) (ha : EvA M t σ Z H s (rac (ty τs xs) (rac (ty υs ys) ra0)) s1) : EvI M X (iZip2 K t) σ Z H s (yP2 K τ υ) (xs.zip ys) s1 :=
  fun Z1 H1 a b c d R q => ha Z1 H1 a b c d _ fun us Z2 H2 e m ⟨v, r, e1, h1, w, r2, e2, h2, e3⟩ => by
    cases e3; cases e2; cases e1
    obtain ⟨x, vs, rfl, hx, tx, lx⟩ := f _ _ _ h1
    obtain ⟨y, ws, rfl, hy, ty, ly⟩ := g _ _ _ h2
    exact ⟨x, y, vs, ws, rfl, hx _ e.s, hy _ e.s, q _ Z2 H2 e m (walk_pairs _ rfl walk2m (fun Z' H' z sz _ => ⟨hx _ (z.trans sz), hy _ (z.trans sz)⟩) tx ty (by rw [tx.len]; exact lx))⟩
theorem ei_zip3 (f : SrcOf K τs τ) (g : SrcOf K υs υ) (k : SrcOf K φs φ) (ha : EvA M t σ Z H s (rac (ty τs xs) (rac (ty υs ys) (rac (ty φs zs) ra0))) s1) : EvI M X (iZip3 K t) σ Z H s (yP3 K τ υ φ) (xs.zip (ys.zip zs)) s1 :=
  fun Z1 H1 a b c d R q => ha Z1 H1 a b c d _ fun us Z2 H2 e m ⟨v, r, e1, h1, w, r2, e2, h2, u, r3, e3, h3, e4⟩ => by
    cases e4; cases e3; cases e2; cases e1
    obtain ⟨x, vs, rfl, hx, tx, lx⟩ := f _ _ _ h1
    obtain ⟨y, ws, rfl, hy, ty, ly⟩ := g _ _ _ h2
    obtain ⟨z, us, rfl, hz, tz, lz⟩ := k _ _ _ h3
    refine ⟨x, y, z, vs, ws, us, rfl, hx _ e.s, hy _ e.s, hz _ e.s, q _ Z2 H2 e m ?_⟩
    have ln : (xs.zip (ys.zip zs)).length = min vs.length (min ws.length us.length) := by rw [List.length_zip, List.length_zip, tx.len, ty.len, tz.len]
    refine ⟨by rw [ln, tx.len]; omega, fun H => SqX K H x vs ∧ SqX K H y ws ∧ SqX K H z us, Y3 vs ws us, by rw [ln]; exact walk3m, fun Z' H' zz sz _ => ⟨hx _ (zz.trans sz), hy _ (zz.trans sz), hz _ (zz.trans sz)⟩, fun i Z' H' v H'' hi zz sz _ yy => ?_⟩
    obtain ⟨T, v1, v2, v3, rfl, nT, rfl, g1, g2, g3⟩ := yy
    obtain ⟨x1, ex1, rx1⟩ := tx.get g1
    obtain ⟨x2, ex2, rx2⟩ := ty.get g2
    obtain ⟨x3, ex3, rx3⟩ := tz.get g3
    have st : Step [] Z' H' (upd Z' T (.tup [v1, v2, v3])) (upd H' T (.tup [v1, v2, v3])) := Step.new sz nT
    refine ⟨upd Z' T (.tup [v1, v2, v3]), (x1, x2, x3), ?_, st, T, v1, v2, v3, rfl, sqT_new, τ.mono (zz.trans st.z) rx1, υ.mono (zz.trans st.z) rx2, φ.mono (zz.trans st.z) rx3⟩
    rw [List.getElem?_zip_eq_some]
    exact ⟨ex1, by rw [List.getElem?_zip_eq_some]; exact ⟨ex2, ex3⟩⟩
end
end
section
variable {μ : Type} {M : Mu μ} {σ : L2.St} {Z H : Hp} {s s1 s2 : μ} {ta tb : TE} {K : PySem.W.Frag}
/-- int of a flag -/
theorem ev_int_bl {b : Bool} (ha : Ev M ta σ Z H s (ty yBool b) s1) : Ev M (tCB (fun xs H Q => (∃ i, xs = [.int i] ∧ Q (.int i) H) ∨ ∃ k, xs = [.bl k] ∧ Q (.int (if k then 1 else 0)) H) (tCons ta tNil)) σ Z H s (ty yInt (if b = true then 1 else 0)) s1 :=
  ev_cb (eva_cons ha eva_nil) fun _ _ vs sz ⟨v, r, e, h, e2⟩ Q q => .inr ⟨b, by rw [e, show v = .bl b from h, show r = [] from e2], q _ _ _ (Step.refl sz) rfl⟩
/-- the text of a number -/
def strI (i : Int) : Str := Str.ofString (toString i)
theorem strOk_of (s : String) : PyData.strOk (Str.ofString s) = true := by
  rw [Str.ofString_eq_toList]
  unfold PyData.strOk
  rw [Array.all_eq_true_iff_forall_mem]
  intro x hx
  simp only [List.mem_toArray, List.mem_map] at hx
  obtain ⟨c, _, rfl⟩ := hx
  have := c.valid
  refine decide_eq_true ?_
  show c.val.toNat < 0x110000
  rcases this with h | ⟨_, h⟩
  · have : c.val.toNat < 0xd800 := h
    omega
  · exact h
def StrIOk (i : Int) : Prop := i.natAbs.log2 < 1920 ∧ (strI i).length ≤ 16777216
instance {i : Int} : Decidable (StrIOk i) := inferInstanceAs (Decidable (_ ∧ _))
theorem ev_str_int {i : Int} (ha : Ev M ta σ Z H s (ty yInt i) s1) (h : StrIOk i) : Ev M (tCB (fun xs H Q => ∃ i, xs = [.int i] ∧ i.natAbs.log2 < 1920 ∧ Q (.str (toString i)) H) (tCons ta tNil)) σ Z H s (ty yStr (strI i)) s1 :=
  ev_cb (eva_cons ha eva_nil) fun _ _ vs sz ⟨v, r, e, h1, e2⟩ Q q => ⟨i, by rw [e, show v = .int i from h1, show r = [] from e2], h.1, q _ _ _ (Step.refl sz) ⟨rfl, by
    unfold okS
    rw [Bool.and_eq_true]
    exact ⟨strOk_of _, decide_eq_true h.2⟩⟩⟩
theorem strIOk_of {i : Int} (h0 : 0 ≤ i) (h : i < 10 ^ 100) : StrIOk i := by
  refine ⟨?_, Nat.le_trans (toString_length_le (k := 100) h0 (by decide) h) (by decide)⟩
  by_cases q : i = 0
  · subst q; decide
  · have : i.natAbs < 2 ^ 1920 := by
      have h2 : i.natAbs < 10 ^ 100 := by
        have e : ((10 : Int) ^ 100) = ((10 ^ 100 : Nat) : Int) := by decide
        rw [e] at h
        omega
      exact Nat.lt_trans h2 (by decide)
    exact (Nat.log2_lt (by omega)).mpr this
end
end TP

/-! == and != of lists, tuples and instances with an own ==, with either outcome -/
namespace TPQ
open PySem PySem.SeqAt
open AutoSeq1 (wpAny_loadPart')
open MeetsSeq MeetsSeq2 MeetsSeq3 SeqRoads2
section
variable {prog : Program} {w : World} {A : Around} {R : Result → Shared → Prop} {E : Value → Shared → Prop}
/-- at each turn the two lists are read anew; the i-th two are equal as e i says -/
def ListB (prog : Program) (w : World) (A : Around) (E : Value → Shared → Prop) (l b : Addr) (N : Nat) (e : Nat → Bool) (I : Shared → Prop) : Prop :=
  ∀ s, I s → ∃ (items items2 : Array Value) (dd dd2 : Option Addr) (n n2 : Nat) (sl sl2 : Array (Option Value)), s.heap.get? l = some { cls := .type "list", dict := dd, data := .seq items n, slots := sl } ∧ s.heap.get? b = some { cls := .type "list", dict := dd2, data := .seq items2 n2, slots := sl2 } ∧ items.size = N ∧ items2.size = N ∧
    ∀ i (h1 : i < items.size) (h2 : i < items2.size), wpAny (model prog w) A.in1 (eqBool items[i] items2[i]) (fun r s' => r = e i ∧ I s') E s
set_option maxHeartbeats 2000000 in
theorem list_loop (neg : Bool) (l b : Addr) (N : Nat) (e : Nat → Bool) (I : Shared → Prop) (hl : ListB prog w A (fun e s' => R (.error e) s') l b N e I)
    (fin : ∀ s, I s → R (.ok (.ret (.bool ((List.range N).all e != neg)))) s) (k : Nat) :
    ∀ i : Nat, N - i = k → i ≤ N → (∀ j, j < i → e j = true) → ∀ s, I s →
      wpAny (model prog w) A.in1 (Builtin.«list.__eq__.loop» ⟨[.ref l, .ref b, rawInt i, rawInt (if neg then 3 else 2)], []⟩) (GQ.FinOf prog w A R) (fun e s' => R (.error e) s') s := by
  induction k with
  | zero =>
    intro i hk hi he s h
    obtain ⟨items, items2, dd, dd2, n, n2, sl, sl2, hl1, hb1, hs1, hs2, _⟩ := hl _ h
    have hi' : i = N := by omega
    subst hi'
    have hR := fin s h
    have ha : (List.range i).all e = true := by rw [List.all_eq_true]; exact fun j hj => he j (List.mem_range.mp hj)
    rw [ha] at hR
    have hi1 : items[((i : Nat) : Int).toNat]? = none := by simp; omega
    have hi2 : items2[((i : Nat) : Int).toNat]? = none := by simp; omega
    obtain ⟨hp, g, d, tk, os⟩ := s
    cases neg
    · rw [if_neg Bool.false_ne_true]
      wp_walk using wpAny_loadPart' hl1, wpAny_loadPart' hb1
      rw [hi1, hi2]
      wp_walk using wpAny_loadPart' hl1, wpAny_loadPart' hb1
      show R (.ok (.ret (.bool (items.size == items2.size)))) _
      rw [hs1, hs2]
      simpa using hR
    · rw [if_pos rfl]
      wp_walk using wpAny_loadPart' hl1, wpAny_loadPart' hb1
      rw [hi1, hi2]
      wp_walk using wpAny_loadPart' hl1, wpAny_loadPart' hb1
      show R (.ok (.ret (.bool (items.size != items2.size)))) _
      rw [hs1, hs2]
      simpa using hR
  | succ k ih =>
    intro i hk hi he s h
    obtain ⟨items, items2, dd, dd2, n, n2, sl, sl2, hl1, hb1, hs1, hs2, turn⟩ := hl _ h
    have hlt : i < items.size := by omega
    have hlt2 : i < items2.size := by omega
    have ht := turn i hlt hlt2
    have hi1 : items[((i : Nat) : Int).toNat]? = some items[i] := by simp [hlt]
    have hi2 : items2[((i : Nat) : Int).toNat]? = some items2[i] := by simp [hlt2]
    have hc : ((i : Int) + 1) = ((i + 1 : Nat) : Int) := by omega
    have go : e i = true → ∀ s2, I s2 → wpAny (model prog w) A.in1 (Builtin.«list.__eq__.loop» ⟨[.ref l, .ref b, rawInt ((i + 1 : Nat) : Int), rawInt (if neg then 3 else 2)], []⟩) (GQ.FinOf prog w A R) (fun e s' => R (.error e) s') s2 := fun ei s2 h2 =>
      ih (i + 1) (by omega) (by omega) (fun j hj => by
        rcases Nat.lt_or_ge j i with g | g
        · exact he j g
        · have : j = i := by omega
          rw [this]; exact ei) s2 h2
    have stop : e i = false → (List.range N).all e = false := fun ei => by
      cases q : (List.range N).all e with
      | false => rfl
      | true => rw [List.all_eq_true.mp q i (List.mem_range.mpr (by omega))] at ei; cases ei
    obtain ⟨hp, g, d, tk, os⟩ := s
    cases neg
    · rw [if_neg Bool.false_ne_true] at go ⊢
      wp_walk using wpAny_loadPart' hl1, wpAny_loadPart' hb1
      rw [hi1, hi2]
      refine wpAny_bind (wpAny_mono ht (fun r s2 h2 => ?_) fun _ _ x => x)
      obtain ⟨hr, h2⟩ := h2
      subst hr
      cases ei : e i with
      | true =>
        have hrec := go ei s2 h2
        obtain ⟨hp2, g2, d2, tk2, os2⟩ := s2
        wp_walk
        rw [hc]
        exact ⟨plainId_quiet plain_eq_loop _, codeAny_builtin entry_eq_loop (by
          rw [Around.under_plainId plain_eq_loop _]
          exact hrec)⟩
      | false =>
        have hR := fin s2 h2
        rw [stop ei] at hR
        obtain ⟨its, its2, _, _, m, m2, _, _, hl2, hb2, z1, z2, _⟩ := hl _ h2
        have ki1 : its[((i : Nat) : Int).toNat]? = some (its[i]'(by omega)) := by simp
        have ki2 : its2[((i : Nat) : Int).toNat]? = some (its2[i]'(by omega)) := by simp
        obtain ⟨hp2, g2, d2, tk2, os2⟩ := s2
        wp_walk using wpAny_loadPart' hl2, wpAny_loadPart' hb2
        rw [ki1, ki2]
        wp_walk
        simpa using hR
    · rw [if_pos rfl] at go ⊢
      wp_walk using wpAny_loadPart' hl1, wpAny_loadPart' hb1
      rw [hi1, hi2]
      refine wpAny_bind (wpAny_mono ht (fun r s2 h2 => ?_) fun _ _ x => x)
      obtain ⟨hr, h2⟩ := h2
      subst hr
      cases ei : e i with
      | true =>
        have hrec := go ei s2 h2
        obtain ⟨hp2, g2, d2, tk2, os2⟩ := s2
        wp_walk
        rw [hc]
        exact ⟨plainId_quiet plain_eq_loop _, codeAny_builtin entry_eq_loop (by
          rw [Around.under_plainId plain_eq_loop _]
          exact hrec)⟩
      | false =>
        have hR := fin s2 h2
        rw [stop ei] at hR
        obtain ⟨its, its2, _, _, m, m2, _, _, hl2, hb2, z1, z2, _⟩ := hl _ h2
        have ki1 : its[((i : Nat) : Int).toNat]? = some (its[i]'(by omega)) := by simp
        have ki2 : its2[((i : Nat) : Int).toNat]? = some (its2[i]'(by omega)) := by simp
        obtain ⟨hp2, g2, d2, tk2, os2⟩ := s2
        wp_walk using wpAny_loadPart' hl2, wpAny_loadPart' hb2
        rw [ki1, ki2]
        wp_walk
        simpa using hR
set_option maxHeartbeats 2000000 in
theorem list_cmp (neg : Bool) (l b : Addr) (N : Nat) (e : Nat → Bool) (I : Shared → Prop) (hl : ListB prog w A (fun e s' => R (.error e) s') l b N e I)
    (fin : ∀ s, I s → R (.ok (.ret (.bool ((List.range N).all e != neg)))) s) {s : Shared} (h : I s) :
    wpAny (model prog w) A.in1 ((if neg then Builtin.«list.__ne__» else Builtin.«list.__eq__») ⟨[.ref l, .ref b], []⟩) (GQ.FinOf prog w A R) (fun e s' => R (.error e) s') s := by
  obtain ⟨items, items2, dd, dd2, n, n2, sl, sl2, hl1, hb1, hs1, hs2, _⟩ := hl _ h
  have hrec := list_loop (A := A) (R := R) neg l b N e I hl fin _ 0 rfl (Nat.zero_le _) (fun j hj => absurd hj (Nat.not_lt_zero j)) s h
  obtain ⟨hp, g, d, tk, os⟩ := s
  have f3 := AutoSeq1.sub_list_list
  have hne : ¬ (items.size != items2.size) = true := by simp [hs1, hs2]
  cases neg
  · rw [if_neg Bool.false_ne_true] at hrec ⊢
    wp_walk using wpAny_loadPart' hl1, wpAny_loadPart' hb1
    exact ⟨plainId_quiet plain_eq_loop _, codeAny_builtin entry_eq_loop (by
      rw [Around.under_plainId plain_eq_loop _]
      exact hrec)⟩
  · rw [if_pos rfl] at hrec ⊢
    wp_walk using wpAny_loadPart' hl1, wpAny_loadPart' hb1
    exact ⟨plainId_quiet plain_eq_loop _, codeAny_builtin entry_eq_loop (by
      rw [Around.under_plainId plain_eq_loop _]
      exact hrec)⟩
set_option maxHeartbeats 2000000 in
theorem list_len (neg : Bool) (l b : Addr) (items items2 : Array Value) (dd dd2 : Option Addr) (n n2 : Nat) (sl sl2 : Array (Option Value)) (hne : (items.size != items2.size) = true) {s : Shared} (hl1 : s.heap.get? l = some { cls := .type "list", dict := dd, data := .seq items n, slots := sl }) (hb1 : s.heap.get? b = some { cls := .type "list", dict := dd2, data := .seq items2 n2, slots := sl2 })
    (fin : R (.ok (.ret (.bool neg))) s) :
    wpAny (model prog w) A.in1 ((if neg then Builtin.«list.__ne__» else Builtin.«list.__eq__») ⟨[.ref l, .ref b], []⟩) (GQ.FinOf prog w A R) (fun e s' => R (.error e) s') s := by
  obtain ⟨hp, g, d, tk, os⟩ := s
  have f3 := AutoSeq1.sub_list_list
  cases neg
  · rw [if_neg Bool.false_ne_true]
    wp_walk using wpAny_loadPart' hl1, wpAny_loadPart' hb1
    exact fin
  · rw [if_pos rfl]
    wp_walk using wpAny_loadPart' hl1, wpAny_loadPart' hb1
    exact fin
set_option maxHeartbeats 2000000 in
theorem tup_cmp (neg : Bool) (l b : Addr) (items items2 : Array Value) (n n2 : Nat) (dd dd2 : Option Addr) (sl sl2 : Array (Option Value)) (e : Nat → Bool) (I : Shared → Prop)
    (turn : ∀ i (h1 : i < items.size) (h2 : i < items2.size) s, I s → wpAny (model prog w) A.in1 (eqBool items[i] items2[i]) (fun r s' => r = e i ∧ I s') (fun e s' => R (.error e) s') s)
    (fin : ∀ s, I s → R (.ok (.ret (.bool (((List.range (min items.size items2.size)).all e && items.size == items2.size) != neg)))) s) {s : Shared} (hl1 : s.heap.get? l = some { cls := .type "tuple", dict := dd, data := .seq items n, slots := sl }) (hb1 : s.heap.get? b = some { cls := .type "tuple", dict := dd2, data := .seq items2 n2, slots := sl2 }) (h : I s) :
    wpAny (model prog w) A.in1 ((if neg then Builtin.«tuple.__ne__» else Builtin.«tuple.__eq__») ⟨[.ref l, .ref b], []⟩) (GQ.FinOf prog w A R) (fun e s' => R (.error e) s') s := by
  have f2 := AutoSeq1.sub_tuple_tuple
  have hZ : (items.toList.zip items2.toList).length = min items.size items2.size := by simp
  have h0 := h
  have stop : ∀ i, i < min items.size items2.size → e i = false → (List.range (min items.size items2.size)).all e = false := fun i hi ei => by
    cases q : (List.range (min items.size items2.size)).all e with
    | false => rfl
    | true => rw [List.all_eq_true.mp q i (List.mem_range.mpr hi)] at ei; cases ei
  have turn' : ∀ (y x : Value) (rest : List (Value × Value)) (i : Nat), (y, x) :: rest = (items.toList.zip items2.toList).drop i → i < min items.size items2.size ∧ rest = (items.toList.zip items2.toList).drop (i + 1) ∧ ∀ s, I s → wpAny (model prog w) A.in1 (eqBool y x) (fun r s' => r = e i ∧ I s') (fun e s' => R (.error e) s') s := fun y x rest i hz => by
    have hlt : i < (items.toList.zip items2.toList).length := by
      rcases Nat.lt_or_ge i (items.toList.zip items2.toList).length with h' | h'
      · exact h'
      · rw [List.drop_of_length_le h'] at hz; cases hz
    have hm : i < min items.size items2.size := hZ ▸ hlt
    have h1 : i < items.size := Nat.lt_of_lt_of_le hm (Nat.min_le_left _ _)
    have h2 : i < items2.size := Nat.lt_of_lt_of_le hm (Nat.min_le_right _ _)
    rw [List.drop_eq_getElem_cons hlt] at hz
    injection hz with hyx hrest
    have hy : y = items[i] := by have := congrArg Prod.fst hyx; simpa using this
    have hx : x = items2[i] := by have := congrArg Prod.snd hyx; simpa using this
    subst hy hx
    exact ⟨hm, hrest, turn i h1 h2⟩
  have last : ∀ i, [] = (items.toList.zip items2.toList).drop i → (∀ j, j < i → j < min items.size items2.size → e j = true) → (List.range (min items.size items2.size)).all e = true := fun i hz he => by
    have hge : min items.size items2.size ≤ i := by
      rcases Nat.lt_or_ge i (items.toList.zip items2.toList).length with h' | h'
      · rw [List.drop_eq_getElem_cons h'] at hz; cases hz
      · exact hZ ▸ h'
    rw [List.all_eq_true]
    exact fun j hj => he j (Nat.lt_of_lt_of_le (List.mem_range.mp hj) hge) (List.mem_range.mp hj)
  have grow : ∀ i, e i = true → (∀ j, j < i → j < min items.size items2.size → e j = true) → ∀ j, j < i + 1 → j < min items.size items2.size → e j = true := fun i ei he j hj hm => by
    rcases Nat.lt_or_ge j i with g | g
    · exact he j g hm
    · have : j = i := by omega
      rw [this]; exact ei
  obtain ⟨hp, g, d, tk, os⟩ := s
  cases neg
  · rw [if_neg Bool.false_ne_true]
    wp_walk using wpAny_loadPart' hl1, wpAny_loadPart' hb1, wpAny_forIn_list _ (fun rest b s' => b.1 = none ∧ I s' ∧ ∃ i, rest = (items.toList.zip items2.toList).drop i ∧ ∀ j, j < i → j < min items.size items2.size → e j = true) _
    case turn =>
      rintro ⟨y, x⟩ rest b s' ⟨hb', hI, i, hz, he⟩
      obtain ⟨hm, hrest, tr⟩ := turn' y x rest i hz
      refine wpAny_bind (wpAny_mono (tr s' hI) (fun r s2 q2 => ?_) fun _ _ x => x)
      obtain ⟨hr, q2⟩ := q2
      subst hr
      cases ei : e i with
      | true =>
        wp_walk
        exact ⟨rfl, q2, i + 1, hrest, grow i ei he⟩
      | false =>
        have hR := fin s2 q2
        rw [stop i hm ei] at hR
        obtain ⟨hp2, g2, d2, tk2, os2⟩ := s2
        wp_walk
        simpa using hR
    case fin =>
      rintro ⟨b1, b2⟩ s' ⟨hb', hI, i, hz, he⟩
      simp only at hb'
      subst hb'
      have hR := fin s' hI
      rw [last i hz he] at hR
      wp_walk
      simpa [Builtin.Tuple.tupleCompareSizes, bne] using hR
    case h =>
      exact ⟨rfl, h0, 0, rfl, fun j hj => absurd hj (Nat.not_lt_zero j)⟩
  · rw [if_pos rfl]
    wp_walk using wpAny_loadPart' hl1, wpAny_loadPart' hb1, wpAny_forIn_list _ (fun rest b s' => b.1 = none ∧ I s' ∧ ∃ i, rest = (items.toList.zip items2.toList).drop i ∧ ∀ j, j < i → j < min items.size items2.size → e j = true) _
    case turn =>
      rintro ⟨y, x⟩ rest b s' ⟨hb', hI, i, hz, he⟩
      obtain ⟨hm, hrest, tr⟩ := turn' y x rest i hz
      refine wpAny_bind (wpAny_mono (tr s' hI) (fun r s2 q2 => ?_) fun _ _ x => x)
      obtain ⟨hr, q2⟩ := q2
      subst hr
      cases ei : e i with
      | true =>
        wp_walk
        exact ⟨rfl, q2, i + 1, hrest, grow i ei he⟩
      | false =>
        have hR := fin s2 q2
        rw [stop i hm ei] at hR
        obtain ⟨hp2, g2, d2, tk2, os2⟩ := s2
        wp_walk
        simpa using hR
    case fin =>
      rintro ⟨b1, b2⟩ s' ⟨hb', hI, i, hz, he⟩
      simp only at hb'
      subst hb'
      have hR := fin s' hI
      rw [last i hz he] at hR
      wp_walk
      simpa [Builtin.Tuple.tupleCompareSizes, bne] using hR
    case h =>
      exact ⟨rfl, h0, 0, rfl, fun j hj => absurd hj (Nat.not_lt_zero j)⟩

section
variable {s : Shared}
theorem rc_list (neg : Bool) {l b : Addr} {N : Nat} {Q : Value → Shared → Prop} (hu : A.units < cLine) (e : Nat → Bool) (I : Shared → Prop) (hl : ListB prog w A E l b N e I)
    (fin : ∀ s, I s → Q (.bool ((List.range N).all e != neg)) s) (h : I s) : wpAny (model prog w) A (richCompare (if neg then .NotEq else .Eq) (.ref l) (.ref b)) Q E s := by
  obtain ⟨items, items2, dd, dd2, n, n2, sl, sl2, hl1, hb1, _, _, _⟩ := hl _ h
  cases neg
  · rw [if_neg Bool.false_ne_true]
    refine wpAny_richCompare_same_room (op := .Eq) ⟨_, hl1, rfl⟩ ⟨_, hb1, rfl⟩ F.slot_list_eq (GQ.call_here F.slot_list_eq ⟨_, hl1, rfl⟩ F.entry_list_eq (F.args_list_eq_2 _ _) ?_) hu
    exact list_cmp (R := wants (fun v s' => v ≠ .notImplemented ∧ Q v s') E) false l b N e I hl (fun s' q => ⟨(fun x => nomatch x), fin s' q⟩) h
  · rw [if_pos rfl]
    refine wpAny_richCompare_same_room (op := .NotEq) ⟨_, hl1, rfl⟩ ⟨_, hb1, rfl⟩ F.slot_list_ne (GQ.call_here F.slot_list_ne ⟨_, hl1, rfl⟩ F.entry_list_ne (F.args_list_ne_2 _ _) ?_) hu
    exact list_cmp (R := wants (fun v s' => v ≠ .notImplemented ∧ Q v s') E) true l b N e I hl (fun s' q => ⟨(fun x => nomatch x), fin s' q⟩) h
theorem rc_list_len (neg : Bool) {l b : Addr} {items items2 : Array Value} {Q : Value → Shared → Prop} (hu : A.units < cLine) (hl : s.heap.IsList l items) (hb : s.heap.IsList b items2) (hne : (items.size != items2.size) = true) (fin : Q (.bool neg) s) :
    wpAny (model prog w) A (richCompare (if neg then .NotEq else .Eq) (.ref l) (.ref b)) Q E s := by
  obtain ⟨⟨cls, dd, data, sl⟩, ho, hc, n, hd⟩ := id hl
  obtain ⟨⟨cls2, dd2, data2, sl2⟩, ho2, hc2, n2, hd2⟩ := id hb
  simp only at hc hd hc2 hd2
  subst hc hd hc2 hd2
  cases neg
  · rw [if_neg Bool.false_ne_true]
    refine wpAny_richCompare_same_room (op := .Eq) ⟨_, ho, rfl⟩ ⟨_, ho2, rfl⟩ F.slot_list_eq (GQ.call_here F.slot_list_eq ⟨_, ho, rfl⟩ F.entry_list_eq (F.args_list_eq_2 _ _) ?_) hu
    exact list_len (R := wants (fun v s' => v ≠ .notImplemented ∧ Q v s') E) false l b items items2 dd dd2 n n2 sl sl2 hne ho ho2 ⟨(fun x => nomatch x), fin⟩
  · rw [if_pos rfl]
    refine wpAny_richCompare_same_room (op := .NotEq) ⟨_, ho, rfl⟩ ⟨_, ho2, rfl⟩ F.slot_list_ne (GQ.call_here F.slot_list_ne ⟨_, ho, rfl⟩ F.entry_list_ne (F.args_list_ne_2 _ _) ?_) hu
    exact list_len (R := wants (fun v s' => v ≠ .notImplemented ∧ Q v s') E) true l b items items2 dd dd2 n n2 sl sl2 hne ho ho2 ⟨(fun x => nomatch x), fin⟩
theorem rc_tup (neg : Bool) {l b : Addr} {items items2 : Array Value} {Q : Value → Shared → Prop} (hu : A.units < cLine) (e : Nat → Bool) (I : Shared → Prop) (hl : s.heap.IsTuple l items) (hb : s.heap.IsTuple b items2)
    (turn : ∀ i (h1 : i < items.size) (h2 : i < items2.size) s, I s → wpAny (model prog w) A.in1 (eqBool items[i] items2[i]) (fun r s' => r = e i ∧ I s') E s)
    (fin : ∀ s, I s → Q (.bool (((List.range (min items.size items2.size)).all e && items.size == items2.size) != neg)) s) (h : I s) : wpAny (model prog w) A (richCompare (if neg then .NotEq else .Eq) (.ref l) (.ref b)) Q E s := by
  obtain ⟨⟨cls, dd, data, sl⟩, ho, hc, n, hd⟩ := id hl
  obtain ⟨⟨cls2, dd2, data2, sl2⟩, ho2, hc2, n2, hd2⟩ := id hb
  simp only at hc hd hc2 hd2
  subst hc hd hc2 hd2
  cases neg
  · rw [if_neg Bool.false_ne_true]
    refine wpAny_richCompare_same_room (op := .Eq) ⟨_, ho, rfl⟩ ⟨_, ho2, rfl⟩ F.slot_tuple_eq (GQ.call_here F.slot_tuple_eq ⟨_, ho, rfl⟩ F.entry_tuple_eq (F.args_tuple_eq_2 _ _) ?_) hu
    exact tup_cmp (R := wants (fun v s' => v ≠ .notImplemented ∧ Q v s') E) false l b items items2 n n2 dd dd2 sl sl2 e I turn (fun s' q => ⟨(fun x => nomatch x), fin s' q⟩) ho ho2 h
  · rw [if_pos rfl]
    refine wpAny_richCompare_same_room (op := .NotEq) ⟨_, ho, rfl⟩ ⟨_, ho2, rfl⟩ F.slot_tuple_ne (GQ.call_here F.slot_tuple_ne ⟨_, ho, rfl⟩ F.entry_tuple_ne (F.args_tuple_ne_2 _ _) ?_) hu
    exact tup_cmp (R := wants (fun v s' => v ≠ .notImplemented ∧ Q v s') E) true l b items items2 n n2 dd dd2 sl sl2 e I turn (fun s' q => ⟨(fun x => nomatch x), fin s' q⟩) ho ho2 h
end
end
end TPQ
namespace TPQ
open PySem PySem.Spec PyProof.Rows L2
/-- how two values compare, by the abstract heap: with what outcome -/
abbrev EqF := V → V → Hp → Bool → Prop
def MonF (D : EqF) : Prop := ∀ x y b H H', L2.Ext H H' → D x y H b → D x y H' b
/-- ==, within a builtin -/
def EqB (X : Cx) (n : Nat) (D : EqF) : Prop :=
  ∀ (A : Around) (pins : List (Addr × Obj)) (s : Shared) (σ : L2.St) (H : Hp) (x y : V) (u v : Value) (b : Bool), Sub X n A → Inv X pins σ H s → RelV x u → RelV y v → D x y H b →
    wpAny (model X.prog X.w) A (eqBool u v) (fun r s' => r = b ∧ ∃ H', Inv X pins σ H' s' ∧ L2.Ext H H') X.xe s
/-- == and !=, as operators -/
def RcB (X : Cx) (n : Nat) (neg : Bool) (D : EqF) : Prop :=
  ∀ (A : Around) (pins : List (Addr × Obj)) (s : Shared) (σ : L2.St) (H : Hp) (x y : V) (u v : Value) (b : Bool), Sub X n A → Inv X pins σ H s → RelV x u → RelV y v → D x y H b →
    wpAny (model X.prog X.w) A (richCompare (if neg then .NotEq else .Eq) u v) (fun r s' => r = .bool (b != neg) ∧ ∃ H', Inv X pins σ H' s' ∧ L2.Ext H H') X.xe s
section
variable {X : Cx} {n m : Nat} {D D' : EqF}
theorem EqB.mono (h : EqB X n D) (hn : n ≤ m) : EqB X m D := fun A pins s σ H x y u v b sb => h A pins s σ H x y u v b (sb.mono hn)
theorem RcB.mono {neg : Bool} (h : RcB X n neg D) (hn : n ≤ m) : RcB X m neg D := fun A pins s σ H x y u v b sb => h A pins s σ H x y u v b (sb.mono hn)
theorem EqB.imp (h : EqB X n D) (hd : ∀ x y H b, D' x y H b → D x y H b) : EqB X n D' := fun A pins s σ H x y u v b sb I rx ry d => h A pins s σ H x y u v b sb I rx ry (hd x y H b d)
theorem RcB.imp {neg : Bool} (h : RcB X n neg D) (hd : ∀ x y H b, D' x y H b → D x y H b) : RcB X n neg D' := fun A pins s σ H x y u v b sb I rx ry d => h A pins s σ H x y u v b sb I rx ry (hd x y H b d)
/-- flat values -/
def FFlat : EqF := fun x y _ b => flatV x = true ∧ flatV y = true ∧ eqV x y = b
theorem eqB_flat : EqB X 0 FFlat := by
  intro A pins s σ H x y u v b sb I rx ry d
  obtain ⟨fx, fy, e⟩ := d
  have q := eqAt_V (A := A) (s := s) rx ry fx fy
  rw [e] at q
  exact q X.prog X.w X.xe _ ⟨rfl, H, I, Ext.rfl'⟩
/-- pair by pair -/
inductive PrB (D : EqF) : List V → List V → Hp → List Bool → Prop
  | nil {xs ys : List V} {H : Hp} (h : xs = [] ∨ ys = []) : PrB D xs ys H []
  | cons {x y : V} {xs ys : List V} {H : Hp} {b : Bool} {bs : List Bool} (h : D x y H b) (r : PrB D xs ys H bs) : PrB D (x :: xs) (y :: ys) H (b :: bs)
theorem PrB.mon (hD : MonF D) {H H' : Hp} (e : L2.Ext H H') : ∀ {xs ys : List V} {bs : List Bool}, PrB D xs ys H bs → PrB D xs ys H' bs
  | _, _, _, .nil h => .nil h
  | _, _, _, .cons h r => .cons (hD _ _ _ _ _ e h) (r.mon hD e)
theorem PrB.len {H : Hp} : ∀ {xs ys : List V} {bs : List Bool}, PrB D xs ys H bs → bs.length = min xs.length ys.length
  | _, _, _, .nil h => by rcases h with rfl | rfl <;> simp
  | _, _, _, .cons h r => by have := r.len; simp only [List.length_cons]; omega
theorem PrB.get {H : Hp} : ∀ {xs ys : List V} {bs : List Bool} (i : Nat) {x y : V}, PrB D xs ys H bs → xs[i]? = some x → ys[i]? = some y → D x y H (bs.getD i false)
  | _, _, _, i, _, _, .nil h, h1, h2 => by rcases h with rfl | rfl <;> simp at h1 h2
  | _, _, _, 0, _, _, .cons h r, h1, h2 => by
    simp at h1 h2
    subst h1 h2
    exact h
  | _, _, _, i + 1, _, _, .cons h r, h1, h2 => by
    simp at h1 h2
    have := r.get i h1 h2
    simpa using this
theorem all_range : ∀ bs : List Bool, (List.range bs.length).all (fun i => bs.getD i false) = bs.all id
  | [] => rfl
  | b :: bs => by
    rw [List.length_cons, List.range_succ_eq_map, List.all_cons, List.all_map, List.all_cons, ← all_range bs]
    rfl
def LoopB (X : Cx) (pins : List (Addr × Obj)) (σ : L2.St) (H : Hp) (s' : Shared) : Prop := ∃ H', Inv X pins σ H' s' ∧ L2.Ext H H'
theorem turnB (hD : MonF D) (h : EqB X n D) {A : Around} (sb : Sub X (n + 1) A) {pins : List (Addr × Obj)} {σ : L2.St} {H : Hp} {xs ys : List V} {bs : List Bool} {its its2 : List Value} (p : PrB D xs ys H bs) (r : Vals xs its) (r2 : Vals ys its2)
    (i : Nat) (h1 : i < its.toArray.size) (h2 : i < its2.toArray.size) (s' : Shared) (l : LoopB X pins σ H s') :
    wpAny (model X.prog X.w) A.in1 (eqBool its.toArray[i] its2.toArray[i]) (fun r s2 => r = bs.getD i false ∧ LoopB X pins σ H s2) X.xe s' := by
  obtain ⟨H1, I1, e1⟩ := l
  have g1 : its[i]? = some its.toArray[i] := by
    have h1' : i < its.length := by simpa using h1
    rw [List.getElem?_eq_getElem h1'] <;> simp
  have g2 : its2[i]? = some its2.toArray[i] := by
    have h2' : i < its2.length := by simpa using h2
    rw [List.getElem?_eq_getElem h2'] <;> simp
  have k1 : i < xs.length := by rw [r.length]; simpa using h1
  have k2 : i < ys.length := by rw [r2.length]; simpa using h2
  obtain ⟨u, hu, ru⟩ := r.get (List.getElem?_eq_getElem k1)
  obtain ⟨v, hv, rv⟩ := r2.get (List.getElem?_eq_getElem k2)
  rw [g1] at hu
  rw [g2] at hv
  rw [Option.some.inj hu, Option.some.inj hv]
  refine wpAny_mono (h A.in1 pins s' σ H1 _ _ u v _ sb.in1 I1 ru rv ((p.mon hD e1).get i (List.getElem?_eq_getElem k1) (List.getElem?_eq_getElem k2))) (fun r s2 q => ?_) fun _ _ x => x
  obtain ⟨hr, H2, I2, e2⟩ := q
  exact ⟨hr, H2, I2, e1.trans e2⟩
def FList (D : EqF) : EqF := fun x y H b => ∃ a c xs ys bs, x = .ref a ∧ y = .ref c ∧ H a = some (.lst xs) ∧ H c = some (.lst ys) ∧ PrB D xs ys H bs ∧ b = (bs.all id && decide (xs.length = ys.length))
def FTup (K : PySem.W.Frag) (D : EqF) : EqF := fun x y H b => ∃ a c xs ys bs, x = .ref a ∧ y = .ref c ∧ SqT K H a xs ∧ SqT K H c ys ∧ PrB D xs ys H bs ∧ b = (bs.all id && decide (xs.length = ys.length))
theorem mon_list (hD : MonF D) : MonF (FList D) := fun x y b H H' e ⟨a, c, xs, ys, bs, hx, hy, h1, h2, p, hb⟩ => ⟨a, c, xs, ys, bs, hx, hy, e _ _ h1, e _ _ h2, p.mon hD e, hb⟩
theorem mon_tup {K : PySem.W.Frag} (hD : MonF D) : MonF (FTup K D) := fun x y b H H' e ⟨a, c, xs, ys, bs, hx, hy, h1, h2, p, hb⟩ => ⟨a, c, xs, ys, bs, hx, hy, h1.ext e, h2.ext e, p.mon hD e, hb⟩
theorem rcB_list (neg : Bool) (hD : MonF D) (h : EqB X n D) : RcB X (n + 1) neg (FList D) := by
  intro A pins s σ H x y u v b sb I rx ry d
  obtain ⟨a, c, xs, ys, bs, rfl, rfl, ha, hc, p, rfl⟩ := d
  cases rx
  cases ry
  by_cases hn : xs.length = ys.length
  · have hl : bs.length = xs.length := by have := p.len; omega
    rw [decide_eq_true hn, Bool.and_true]
    refine rc_list neg (N := xs.length) sb.room.units0 (fun i => bs.getD i false) (LoopB X pins σ H) (fun s' q => ?_) (fun s' q => ⟨?_, q⟩) ⟨H, I, Ext.rfl'⟩
    · obtain ⟨H1, I1, e1⟩ := id q
      obtain ⟨z, its, k, r, e⟩ := I1.hok a _ (e1 _ _ ha)
      obtain ⟨z2, its2, k2, r2, e2⟩ := I1.hok c _ (e1 _ _ hc)
      exact ⟨its.toArray, its2.toArray, _, _, k, k2, _, _, e, e2, by rw [List.size_toArray, ← r.length], by rw [List.size_toArray, ← r2.length, ← hn], fun i h1 h2 => turnB hD h sb p r r2 i h1 h2 s' q⟩
    · rw [← hl, all_range]
  · rw [decide_eq_false hn, Bool.and_false]
    obtain ⟨z, its, k, r, e⟩ := I.hok a _ ha
    obtain ⟨z2, its2, k2, r2, e2⟩ := I.hok c _ hc
    refine rc_list_len neg sb.room.units0 (items := its.toArray) (items2 := its2.toArray) ⟨_, e, rfl, _, rfl⟩ ⟨_, e2, rfl, _, rfl⟩ ?_ ⟨by simp, H, I, Ext.rfl'⟩
    rw [List.size_toArray, List.size_toArray, ← r.length, ← r2.length]
    simpa using hn
theorem rcB_tup (neg : Bool) (hD : MonF D) (h : EqB X n D) : RcB X (n + 1) neg (FTup X.K D) := by
  intro A pins s σ H x y u v b sb I rx ry d
  obtain ⟨a, c, xs, ys, bs, rfl, rfl, ha, hc, p, rfl⟩ := d
  cases rx
  cases ry
  obtain ⟨its, r, e, z⟩ := I.tuple ha
  obtain ⟨its2, r2, e2, z2⟩ := I.tuple hc
  refine rc_tup neg sb.room.units0 (fun i => bs.getD i false) (LoopB X pins σ H) e e2 (fun i h1 h2 s' q => turnB hD h sb p r r2 i h1 h2 s' q) (fun s' q => ⟨?_, q⟩) ⟨H, I, Ext.rfl'⟩
  have hl := p.len
  have e3 : min its.toArray.size its2.toArray.size = bs.length := by rw [List.size_toArray, List.size_toArray, ← r.length, ← r2.length, hl]
  rw [e3, all_range, List.size_toArray, List.size_toArray, ← r.length, ← r2.length]
  rfl
/-- instances of the class at C with the text's own == : R tells the outcome -/
def FIns (C : Addr) (R : Addr → Addr → Hp → Bool → Prop) : EqF := fun x y H b => ∃ a c dx dy fs gs, x = .ref a ∧ y = .ref c ∧ H a = some (.ins C dx fs) ∧ H c = some (.ins C dy gs) ∧ R a c H b
theorem mon_ins {C : Addr} {R : Addr → Addr → Hp → Bool → Prop} (hR : ∀ a c b H H', L2.Ext H H' → R a c H b → R a c H' b) : MonF (FIns C R) := fun x y b H H' e ⟨a, c, dx, dy, fs, gs, hx, hy, h1, h2, r⟩ => ⟨a, c, dx, dy, fs, gs, hx, hy, e _ _ h1, e _ _ h2, hR a c b H H' e r⟩
def spEqB (R : Addr → Addr → Hp → Bool → Prop) : Sp := fun vs H Q _ => ∃ a c b, vs = [.ref a, .ref c] ∧ R a c H b ∧ ∀ H', L2.Ext H H' → Q (.bl b) H'
theorem rcB_ins {CX : CXT} {C f : Addr} {fd : FuncData} {ps : List Str} {R : Addr → Addr → Hp → Bool → Prop} {E : XK} (F : FnOk X.prog X.w X.K X.mg X.base CX n f fd ps (spEqB R))
    (hs : PySem.W.findIn X.K (.ref C) "__eq__" = some (some (.ref f))) (hf : PySem.W.isFn X.K (.ref f) = true) (hb : Binds X.K fd ps []) (hx : Passes CX X E) : RcB X n false (FIns C R) := by
  intro A pins s σ H x y u v b sb I rx ry d
  obtain ⟨a, c, dx, dy, fs, gs, rfl, rfl, ha, hc, hr⟩ := d
  cases rx
  cases ry
  obtain ⟨mA, J, _⟩ := ins_get I.hok ha
  obtain ⟨mB, J', _⟩ := ins_get I.hok hc
  obtain ⟨od, J, _⟩ := J.look
  obtain ⟨od', J', _⟩ := J'.look
  obtain ⟨m, hF⟩ := I.fr
  rw [if_neg Bool.false_ne_true]
  refine PySem.W.cmp_K (op := .Eq) (tb := .ref C) sb.room.units0 hF I.ok.mod.kin J J'.type (by simp [PySem.W.notFirst]) hs hf ?_
  have hsp : spEqB R [.ref a, .ref c] H (fun v H' => v = .bl b ∧ L2.Ext H H') E := ⟨a, c, b, rfl, hr, fun H' e => ⟨rfl, e⟩⟩
  have e0 : Env0 X.prog X.w X.K X.mg X.base A X.stack s H := by
    have e := I.env0
    exact ⟨by rw [sb.fr]; exact e.frames, e.mod, e.bs, e.bsz, e.funs, e.frf, e.hok, e.bare⟩
  have hl := F.len _ _ _ _ hsp
  have r2 : Vals [V.ref a, V.ref c] [Value.ref a, Value.ref c] := .cons rfl (.cons rfl .nil)
  refine wpAny_call (codeAny_mono (F.run A X.stack s H ⟨[.ref a, .ref c], []⟩ [.ref a, .ref c] [.ref a, .ref c] _ E sb.room e0 (by
    have := hb s [.ref a, .ref c] I.kIn (by simpa using hl)
    simpa using this) r2 hsp) fun r s' hq => ?_)
  cases r with
  | error e => exact hx pins σ H s e s' I hq
  | ok fl =>
    cases fl with
    | ret w =>
      obtain ⟨z, H', I', rz, ez, ex⟩ := I.after hq
      subst ez
      cases rz
      exact ⟨by simp, H', I', ex⟩
    | next => exact False.elim hq
    | brk => exact False.elim hq
    | cont => exact False.elim hq
/-- within a builtin the same object is equal to itself: D must say so too -/
theorem RcB.eqB (h : RcB X n false D) (hr : ∀ x y H b, D x y H b → ∃ a c, x = .ref a ∧ y = .ref c) (hs : ∀ a H b, D (.ref a) (.ref a) H b → b = true) : EqB X n D := by
  intro A pins s σ H x y u v b sb I rx ry d
  obtain ⟨a, c, rfl, rfl⟩ := hr _ _ _ _ d
  cases rx
  cases ry
  by_cases hab : a = c
  · subst hab
    rw [hs _ _ _ d]
    exact SeqAt.EqAt.same (A := A) (s := s) (.ref a) X.prog X.w X.xe _ ⟨rfl, H, I, Ext.rfl'⟩
  · refine GQ.eqBool_refG hab (wpAny_mono (h A pins s σ H (.ref a) (.ref c) _ _ b sb I rfl rfl d) (fun r s' q => ?_) fun _ _ x => x)
    obtain ⟨hr', q⟩ := q
    exact ⟨b, by rw [hr']; simp, rfl, q⟩
/-- as an expression -/
def rCmpB (neg : Bool) (D : EqF) : R2 := fun x y H Q => ∃ b, D x y H b ∧ ∀ H', L2.Ext H H' → Q (.bl (b != neg)) H'
theorem op_eqB (h : RcB X n false D) (hr : Room n X.A) : OpR X (compareOp .Eq) (rCmpB false D) := by
  intro pins s σ H x y v u Q I rx ry hq
  obtain ⟨b, d, q⟩ := hq
  show wpAny (model X.prog X.w) X.A (richCompare .Eq v u) (EP X pins σ Q) X.xe s
  refine wpAny_mono (h X.A pins s σ H x y v u b ⟨hr, rfl⟩ I rx ry d) (fun r s' z => ?_) fun _ _ x => x
  obtain ⟨hr', H', I', e⟩ := z
  subst hr'
  exact ⟨.bl (b != false), H', I', rfl, q H' e⟩
theorem op_neB (h : RcB X n true D) (hr : Room n X.A) : OpR X (compareOp .NotEq) (rCmpB true D) := by
  intro pins s σ H x y v u Q I rx ry hq
  obtain ⟨b, d, q⟩ := hq
  show wpAny (model X.prog X.w) X.A (richCompare .NotEq v u) (EP X pins σ Q) X.xe s
  refine wpAny_mono (h X.A pins s σ H x y v u b ⟨hr, rfl⟩ I rx ry d) (fun r s' z => ?_) fun _ _ x => x
  obtain ⟨hr', H', I', e⟩ := z
  subst hr'
  exact ⟨.bl (b != true), H', I', rfl, q H' e⟩
end
end TPQ

namespace TP
open PySem PySem.Spec PyProof.Rows L2 TPQ
/-! ### == of things that hold instances -/
section
variable {X : Cx} {n m : Nat} {α β γ δ : Type} [DecidableEq α] [DecidableEq β] [DecidableEq γ] [DecidableEq δ] {τ : Ty α} {υ : Ty β} {φ : Ty γ} {ψ : Ty δ}
/-- the two are equal just when the things are -/
def FT (τ : Ty α) : EqF := fun x y H b => ∃ Z a c, Same Z H ∧ τ.r Z x a ∧ τ.r Z y c ∧ b = decide (a = c)
theorem mon_FT : MonF (FT τ) := fun _ _ _ _ _ e ⟨Z, a, c, s, r1, r2, h⟩ => ⟨Z, a, c, fun p o q => e _ _ (s p o q), r1, r2, h⟩
/-- a value stands for one thing only -/
def FnI (X : Cx) (τ : Ty α) : Prop := ∀ pins σ s Z H v x y, Inv X pins σ H s → Same Z H → τ.r Z v x → τ.r Z v y → x = y
theorem fn_int : FnI X yInt := fun _ _ _ _ _ _ _ _ _ _ h g => by cases h; cases g; rfl
theorem fn_bool : FnI X yBool := fun _ _ _ _ _ _ _ _ _ _ h g => by cases h; cases g; rfl
theorem fn_str : FnI X yStr := fun _ _ _ _ _ _ _ _ _ _ h g => by have := h.1.symm.trans g.1; cases this; rfl
theorem fn_non : FnI X yNon := fun _ _ _ _ _ _ _ _ _ _ _ _ => rfl
theorem fn_opt (F : FnI X τ) : FnI X (yOpt τ) := fun pins σ s Z H v x y I sz h g => by
  cases x with
  | none =>
    cases y with
    | none => rfl
    | some b => exact absurd (show v = .non from h) g.2
  | some a =>
    cases y with
    | none => exact absurd (show v = .non from g) h.2
    | some b => rw [F pins σ s Z H v a b I sz h.1 g.1]
theorem all_fn {R : V → α → Prop} (h : ∀ v x y, R v x → R v y → x = y) : ∀ {vs : List V} {xs ys : List α}, All R vs xs → All R vs ys → xs = ys
  | _, _, _, .nil, .nil => rfl
  | _, _, _, .cons a r, .cons b t => by rw [h _ _ _ a b, all_fn h r t]
theorem vals_inj : ∀ {us : List Value} {vs ws : List V}, Vals vs us → Vals ws us → vs = ws
  | _, _, _, .nil, .nil => rfl
  | _, _, _, .cons a r, .cons b t => by rw [RelV.inj a b, vals_inj r t]
theorem sqt_fn {pins : List (Addr × Obj)} {σ : L2.St} {s : Shared} {H : Hp} {a : Addr} {vs ws : List V} (I : Inv X pins σ H s) (h : SqT X.K H a vs) (g : SqT X.K H a ws) : vs = ws := by
  obtain ⟨its, r, e, _⟩ := I.tuple h
  obtain ⟨its2, r2, e2, _⟩ := I.tuple g
  obtain ⟨o, h1, _, n, d1⟩ := e
  obtain ⟨o2, h2, _, n2, d2⟩ := e2
  rw [h1] at h2
  cases Option.some.inj h2
  rw [d1] at d2
  have e3 : its.toArray = its2.toArray := by injection d2
  have e4 : its = its2 := by simpa using e3
  subst e4
  exact vals_inj r r2
theorem fn_list (F : FnI X τ) : FnI X (yList τ) := fun pins σ s Z H v x y I sz ⟨a, vs, e, h, t, _⟩ ⟨c, ws, e2, h2, t2, _⟩ => by
  cases e
  cases e2
  rw [h] at h2
  cases Option.some.inj h2
  exact all_fn (fun v x y => F pins σ s Z H v x y I sz) t t2
theorem fn_tup (F : FnI X τ) : FnI X (yTup X.K τ) := fun pins σ s Z H v x y I sz ⟨a, vs, e, h, t, _⟩ ⟨c, ws, e2, h2, t2, _⟩ => by
  cases e
  cases e2
  cases sqt_fn I (seqT_same sz h) (seqT_same sz h2)
  exact all_fn (fun v x y => F pins σ s Z H v x y I sz) t t2
theorem fn_p2 (F : FnI X τ) (G : FnI X υ) : FnI X (yP2 X.K τ υ) := fun pins σ s Z H v x y I sz ⟨a, v1, v2, e, h, h1, h2⟩ ⟨c, w1, w2, e2, g, g1, g2⟩ => by
  cases e
  cases e2
  cases sqt_fn I (seqT_same sz h) (seqT_same sz g)
  exact Prod.ext (F pins σ s Z H _ _ _ I sz h1 g1) (G pins σ s Z H _ _ _ I sz h2 g2)
theorem fn_p3 (F : FnI X τ) (G : FnI X υ) (K' : FnI X φ) : FnI X (yP3 X.K τ υ φ) := fun pins σ s Z H v x y I sz ⟨a, v1, v2, v3, e, h, h1, h2, h3⟩ ⟨c, w1, w2, w3, e2, g, g1, g2, g3⟩ => by
  cases e
  cases e2
  cases sqt_fn I (seqT_same sz h) (seqT_same sz g)
  exact Prod.ext (F pins σ s Z H _ _ _ I sz h1 g1) (Prod.ext (G pins σ s Z H _ _ _ I sz h2 g2) (K' pins σ s Z H _ _ _ I sz h3 g3))
theorem fn_p4 (F : FnI X τ) (G : FnI X υ) (K' : FnI X φ) (L : FnI X ψ) : FnI X (yP4 X.K τ υ φ ψ) := fun pins σ s Z H v x y I sz ⟨a, v1, v2, v3, v4, e, h, h1, h2, h3, h4⟩ ⟨c, w1, w2, w3, w4, e2, g, g1, g2, g3, g4⟩ => by
  cases e
  cases e2
  cases sqt_fn I (seqT_same sz h) (seqT_same sz g)
  exact Prod.ext (F pins σ s Z H _ _ _ I sz h1 g1) (Prod.ext (G pins σ s Z H _ _ _ I sz h2 g2) (Prod.ext (K' pins σ s Z H _ _ _ I sz h3 g3) (L pins σ s Z H _ _ _ I sz h4 g4)))
/-- within a builtin the same object is equal to itself -/
theorem eqT_of (F : FnI X τ) (hr : ∀ Z v x, τ.r Z v x → ∃ a, v = .ref a) (h : RcB X n false (FT τ)) : EqB X n (FT τ) := by
  intro A pins s σ H x y u v b sb I rx ry d
  obtain ⟨Z, a, c, sz, r1, r2, hb⟩ := id d
  obtain ⟨p, rfl⟩ := hr _ _ _ r1
  obtain ⟨q, rfl⟩ := hr _ _ _ r2
  cases rx
  cases ry
  by_cases hab : p = q
  · subst hab
    have e := F pins σ s Z H _ a c I sz r1 r2
    rw [hb, decide_eq_true e]
    exact SeqAt.EqAt.same (A := A) (s := s) (.ref p) X.prog X.w X.xe _ ⟨rfl, H, I, Ext.rfl'⟩
  · refine GQ.eqBool_refG hab (wpAny_mono (h A pins s σ H (.ref p) (.ref q) _ _ b sb I rfl rfl d) (fun r s' z => ?_) fun _ _ x => x)
    obtain ⟨hr', z⟩ := z
    exact ⟨b, by rw [hr']; simp, rfl, z⟩
theorem eqT_data {d : α → PyData} {k : Nat} (E : EqD X.K τ d k) (hk : k ≤ 60) : EqB X 0 (FT τ) := by
  intro A pins s σ H x y u v b sb I rx ry ⟨Z, a, c, sz, r1, r2, hb⟩
  obtain ⟨as, w1⟩ := Dp.reads I (d a) x u (E.dp _ _ _ _ sz r1) rx
  obtain ⟨bs, w2⟩ := Dp.reads I (d c) y v (E.dp _ _ _ _ sz r2) ry
  have h1 := E.dep a
  have hu := sb.room.un
  have q := SeqAt.eqAt_reads (d a) (d c) A s u v as bs w1 w2 (E.lay _ _ _ r1) (E.lay _ _ _ r2) (by omega)
  have e : PyData.eqv (d a) (d c) = b := by
    rw [hb]
    exact Bool.eq_iff_iff.mpr ((E.eqv a c).trans decide_eq_true_iff.symm)
  rw [e] at q
  exact q X.prog X.w X.xe _ ⟨rfl, H, I, Ext.rfl'⟩
/-- two lists of things, pair by pair -/
theorem prB {Z H : Hp} (sz : Same Z H) : ∀ {vs ws : List V} {xs ys : List α}, All (τ.r Z) vs xs → All (τ.r Z) ws ys → ∃ bs, PrB (FT τ) vs ws H bs ∧ decide (xs = ys) = (bs.all id && decide (vs.length = ws.length))
  | _, _, _, _, .nil, .nil => ⟨[], .nil (.inl rfl), by simp⟩
  | _, _, _, _, .nil, .cons _ _ => ⟨[], .nil (.inl rfl), by simp⟩
  | _, _, _, _, .cons _ _, .nil => ⟨[], .nil (.inr rfl), by simp⟩
  | v :: vs, w :: ws, x :: xs, y :: ys, .cons a r, .cons b t => by
    obtain ⟨bs, p, e⟩ := prB sz r t
    refine ⟨decide (x = y) :: bs, .cons ⟨Z, x, y, sz, a, b, rfl⟩ p, ?_⟩
    rw [List.all_cons, Bool.and_assoc]
    have e2 : decide (x :: xs = y :: ys) = (decide (x = y) && decide (xs = ys)) := by simp
    rw [e2, e]
    simp
theorem rcT_tup (neg : Bool) (E : EqB X n (FT τ)) : RcB X (n + 1) neg (FT (yTup X.K τ)) :=
  (rcB_tup neg mon_FT E).imp fun x y H b ⟨Z, xs, ys, sz, ⟨a, vs, e, h, t, _⟩, ⟨c, ws, e2, h2, t2, _⟩, hb⟩ => by
    obtain ⟨bs, p, q⟩ := prB sz t t2
    exact ⟨a, c, vs, ws, bs, e, e2, seqT_same sz h, seqT_same sz h2, p, hb.trans q⟩
theorem rcT_list (neg : Bool) (E : EqB X n (FT τ)) : RcB X (n + 1) neg (FT (yList τ)) :=
  (rcB_list neg mon_FT E).imp fun x y H b ⟨Z, xs, ys, sz, ⟨a, vs, e, h, t, _⟩, ⟨c, ws, e2, h2, t2, _⟩, hb⟩ => by
    obtain ⟨bs, p, q⟩ := prB sz t t2
    exact ⟨a, c, vs, ws, bs, e, e2, sz _ _ h, sz _ _ h2, p, hb.trans q⟩
/-- lists of one's own too -/
def FL (τ : Ty α) : EqF := fun x y H b => ∃ Z xs ys p q vs ws, Same Z H ∧ x = .ref p ∧ y = .ref q ∧ H p = some (.lst vs) ∧ H q = some (.lst ws) ∧ All (τ.r Z) vs xs ∧ All (τ.r Z) ws ys ∧ b = decide (xs = ys)
theorem rcT_own (neg : Bool) (E : EqB X n (FT τ)) : RcB X (n + 1) neg (FL τ) :=
  (rcB_list neg mon_FT E).imp fun x y H b ⟨Z, xs, ys, a, c, vs, ws, sz, e, e2, h, h2, t, t2, hb⟩ => by
    obtain ⟨bs, p, q⟩ := prB sz t t2
    exact ⟨a, c, vs, ws, bs, e, e2, h, h2, p, hb.trans q⟩
theorem eqT_tup (F : FnI X τ) (E : EqB X n (FT τ)) : EqB X (n + 1) (FT (yTup X.K τ)) := eqT_of (fn_tup F) (fun _ _ _ ⟨a, _, e, _⟩ => ⟨a, e⟩) (rcT_tup false E)
theorem eqT_list (F : FnI X τ) (E : EqB X n (FT τ)) : EqB X (n + 1) (FT (yList τ)) := eqT_of (fn_list F) (fun _ _ _ ⟨a, _, e, _⟩ => ⟨a, e⟩) (rcT_list false E)
def Or2 (D D' : EqF) : EqF := fun x y H b => D x y H b ∨ D' x y H b
theorem mon_or {D D' : EqF} (h : MonF D) (g : MonF D') : MonF (Or2 D D') := fun _ _ _ _ _ e d => d.imp (h _ _ _ _ _ e) (g _ _ _ _ _ e)
theorem eqB_or {D D' : EqF} (h : EqB X n D) (g : EqB X m D') : EqB X (max n m) (Or2 D D') := fun A pins s σ H x y u v b sb I rx ry d => by
  rcases d with d | d
  · exact h A pins s σ H x y u v b (sb.mono (Nat.le_max_left _ _)) I rx ry d
  · exact g A pins s σ H x y u v b (sb.mono (Nat.le_max_right _ _)) I rx ry d
theorem rcT_p2 (neg : Bool) (E : EqB X n (FT τ)) (F : EqB X m (FT υ)) : RcB X (max n m + 1) neg (FT (yP2 X.K τ υ)) :=
  (rcB_tup neg (mon_or mon_FT mon_FT) (eqB_or E F)).imp fun x y H b ⟨Z, x1, y1, sz, ⟨a, v1, v2, e, h, h1, h2⟩, ⟨c, w1, w2, e2, g, g1, g2⟩, hb⟩ =>
    ⟨a, c, _, _, [decide (x1.1 = y1.1), decide (x1.2 = y1.2)], e, e2, seqT_same sz h, seqT_same sz g, .cons (.inl ⟨Z, _, _, sz, h1, g1, rfl⟩) (.cons (.inr ⟨Z, _, _, sz, h2, g2, rfl⟩) (.nil (.inl rfl))), by rw [hb]; simp [Prod.ext_iff]⟩
theorem rcT_p3 {k : Nat} (neg : Bool) (E : EqB X n (FT τ)) (F : EqB X m (FT υ)) (G : EqB X k (FT φ)) : RcB X (max n (max m k) + 1) neg (FT (yP3 X.K τ υ φ)) :=
  (rcB_tup neg (mon_or mon_FT (mon_or mon_FT mon_FT)) (eqB_or E (eqB_or F G))).imp fun x y H b ⟨Z, x1, y1, sz, ⟨a, v1, v2, v3, e, h, h1, h2, h3⟩, ⟨c, w1, w2, w3, e2, g, g1, g2, g3⟩, hb⟩ =>
    ⟨a, c, _, _, [decide (x1.1 = y1.1), decide (x1.2.1 = y1.2.1), decide (x1.2.2 = y1.2.2)], e, e2, seqT_same sz h, seqT_same sz g, .cons (.inl ⟨Z, _, _, sz, h1, g1, rfl⟩) (.cons (.inr (.inl ⟨Z, _, _, sz, h2, g2, rfl⟩)) (.cons (.inr (.inr ⟨Z, _, _, sz, h3, g3, rfl⟩)) (.nil (.inl rfl)))), by rw [hb]; simp [Prod.ext_iff]⟩
theorem rcT_p4 {k l : Nat} (neg : Bool) (E : EqB X n (FT τ)) (F : EqB X m (FT υ)) (G : EqB X k (FT φ)) (L : EqB X l (FT ψ)) : RcB X (max n (max m (max k l)) + 1) neg (FT (yP4 X.K τ υ φ ψ)) :=
  (rcB_tup neg (mon_or mon_FT (mon_or mon_FT (mon_or mon_FT mon_FT))) (eqB_or E (eqB_or F (eqB_or G L)))).imp fun x y H b ⟨Z, x1, y1, sz, ⟨a, v1, v2, v3, v4, e, h, h1, h2, h3, h4⟩, ⟨c, w1, w2, w3, w4, e2, g, g1, g2, g3, g4⟩, hb⟩ =>
    ⟨a, c, _, _, [decide (x1.1 = y1.1), decide (x1.2.1 = y1.2.1), decide (x1.2.2.1 = y1.2.2.1), decide (x1.2.2.2 = y1.2.2.2)], e, e2, seqT_same sz h, seqT_same sz g, .cons (.inl ⟨Z, _, _, sz, h1, g1, rfl⟩) (.cons (.inr (.inl ⟨Z, _, _, sz, h2, g2, rfl⟩)) (.cons (.inr (.inr (.inl ⟨Z, _, _, sz, h3, g3, rfl⟩))) (.cons (.inr (.inr (.inr ⟨Z, _, _, sz, h4, g4, rfl⟩))) (.nil (.inl rfl))))), by rw [hb]; simp [Prod.ext_iff]⟩
theorem eqT_p2 (f : FnI X τ) (g : FnI X υ) (E : EqB X n (FT τ)) (F : EqB X m (FT υ)) : EqB X (max n m + 1) (FT (yP2 X.K τ υ)) := eqT_of (fn_p2 f g) (fun _ _ _ ⟨a, _, _, e, _⟩ => ⟨a, e⟩) (rcT_p2 false E F)
theorem eqT_p3 {k : Nat} (f : FnI X τ) (g : FnI X υ) (i : FnI X φ) (E : EqB X n (FT τ)) (F : EqB X m (FT υ)) (G : EqB X k (FT φ)) : EqB X (max n (max m k) + 1) (FT (yP3 X.K τ υ φ)) := eqT_of (fn_p3 f g i) (fun _ _ _ ⟨a, _, _, _, e, _⟩ => ⟨a, e⟩) (rcT_p3 false E F G)
theorem eqT_p4 {k l : Nat} (f : FnI X τ) (g : FnI X υ) (i : FnI X φ) (j : FnI X ψ) (E : EqB X n (FT τ)) (F : EqB X m (FT υ)) (G : EqB X k (FT φ)) (L : EqB X l (FT ψ)) : EqB X (max n (max m (max k l)) + 1) (FT (yP4 X.K τ υ φ ψ)) := eqT_of (fn_p4 f g i j) (fun _ _ _ ⟨a, _, _, _, _, e, _⟩ => ⟨a, e⟩) (rcT_p4 false E F G L)
/-- instances: by the text's own == -/
def FTr (τ : Ty α) : Addr → Addr → Hp → Bool → Prop := fun a c H b => FT τ (.ref a) (.ref c) H b
theorem rcT_obj {C f : Addr} {CX : CXT} {fd : FuncData} {ps : List Str} {sp : Sp} {E : XK} (ho : ∀ Z v x, τ.r Z v x → ∃ a dx fs, v = .ref a ∧ Z a = some (.ins C dx fs)) (F : FnOk X.prog X.w X.K X.mg X.base CX n f fd ps sp) (hsp : ∀ vs H Q E, spEqB (FTr τ) vs H Q E → sp vs H Q E)
    (M : Meth X.K C "__eq__" f) (hb : Binds X.K fd ps []) (hx : Passes CX X E) : RcB X n false (FT τ) :=
  (rcB_ins (R := FTr τ) (F.imp hsp) M.at_ M.fn hb hx).imp fun x y H b ⟨Z, a, c, sz, r1, r2, hb⟩ => by
    obtain ⟨p, dx, fs, e, h⟩ := ho _ _ _ r1
    obtain ⟨q, dy, gs, e2, h2⟩ := ho _ _ _ r2
    exact ⟨p, q, dx, dy, fs, gs, e, e2, sz _ _ h, sz _ _ h2, Z, a, c, sz, by rw [← e]; exact r1, by rw [← e2]; exact r2, hb⟩
end
section
variable {μ : Type} {M : Mu μ} {σ : L2.St} {Z H : Hp} {s s1 s2 : μ} {ta tb : TE} {K : PySem.W.Frag} {α : Type} [DecidableEq α] {τ : Ty α} {x y : α} {xs ys : List α} {neg : Bool}
theorem bneT {b : Bool} : (b != true) = !b := by cases b <;> rfl
theorem bneF {b : Bool} : (b != false) = b := by cases b <;> rfl
theorem step_ext {Z H H' : Hp} (sz : Same Z H) (e : L2.Ext H H') : Step [] Z H Z H' := ⟨Same.refl _, fun a o h => e _ _ (sz a o h), fun a o _ h => e _ _ h, fun _ _ h => h, fun a h q => by
  cases e1 : H a with
  | none => exact h e1
  | some o => rw [e _ _ e1] at q; cases q⟩
theorem ev_cmpO (ha : Ev M ta σ Z H s (ty τ x) s1) (hb : Ev M tb σ Z H s1 (ty τ y) s2) : Ev M (tOp (rCmpB neg (FT τ)) ta tb) σ Z H s (ty yBool (decide (x = y) != neg)) s2 :=
  ev_op ha hb fun Z H v w sz e1 e2 _ q => ⟨_, ⟨Z, x, y, sz, e1, e2, rfl⟩, fun H' e => q _ Z H' (step_ext sz e) rfl⟩
theorem ev_cmpL (ha : Ev M ta σ Z H s (li τ xs) s1) (hb : Ev M tb σ Z H s1 (li τ ys) s2) : Ev M (tOp (rCmpB neg (FL τ)) ta tb) σ Z H s (ty yBool (decide (xs = ys) != neg)) s2 :=
  ev_op ha hb fun Z H v w sz e1 e2 _ q => by
    obtain ⟨p, vs, rfl, g, t, _⟩ := rdl sz e1
    obtain ⟨p2, ws, rfl, g2, t2, _⟩ := rdl sz e2
    exact ⟨_, ⟨Z, xs, ys, p, p2, vs, ws, sz, rfl, rfl, g, g2, t, t2, rfl⟩, fun H' e => q _ Z H' (step_ext sz e) rfl⟩
end
end TP

namespace K18
open PySem PySem.Spec PyProof.Rows L2
open C8 (tCut pss_cut)
/-! the text by places -/
def topS (i : Nat) : Stmt := PySem.Challenge.pw_surenear_k18_facts_about_vectors_hold.main.body.getD i (.Pass ⟨0, 0, 0, 0⟩)
abbrev s_law_row : Stmt := (topS 35)
abbrev s_law_next : Stmt := (topS 36)
abbrev s_law_vector : Stmt := (topS 37)
abbrev s_Record___init__ : Stmt := (inClass (topS 32) 0)
abbrev s_law_parts : Stmt := (topS 41)
abbrev s_law_size : Stmt := (topS 42)
abbrev s_law_vector_fact : Stmt := (topS 43)
abbrev s_law_inner : Stmt := (topS 39)
abbrev s_law_differing : Stmt := (topS 40)
abbrev s_law_distance : Stmt := (topS 38)
abbrev s_law_moved : Stmt := (topS 46)
abbrev s_Part_after : Stmt := (inClass (topS 9) 1)
abbrev s_ends_within : Stmt := (topS 17)
abbrev s_distance : Stmt := (topS 3)
abbrev s_numbers_at : Stmt := (topS 16)
abbrev s_is_near : Stmt := (topS 18)
abbrev s_Parts_holds : Stmt := (inClass (topS 10) 1)
abbrev s_have_size : Stmt := (topS 15)
abbrev s_Cell_holds : Stmt := (inClass (topS 11) 1)
abbrev s_Box_holds : Stmt := (inClass (topS 12) 1)
abbrev s_inner : Stmt := (topS 2)
abbrev s_norm : Stmt := (topS 5)
abbrev s_Norms_holds : Stmt := (inClass (topS 13) 1)
abbrev s_differing : Stmt := (topS 4)
abbrev s_Differ_holds : Stmt := (inClass (topS 14) 1)
abbrev s_Parts___init__ : Stmt := (inClass (topS 10) 0)
abbrev s_Cell___init__ : Stmt := (inClass (topS 11) 0)
abbrev s_Box___init__ : Stmt := (inClass (topS 12) 0)
abbrev s_Norms___init__ : Stmt := (inClass (topS 13) 0)
abbrev s_Differ___init__ : Stmt := (inClass (topS 14) 0)
abbrev s_Part___init__ : Stmt := (inClass (topS 9) 0)
abbrev s_law_made : Stmt := (topS 44)
abbrev s_law_holds_vector : Stmt := (topS 45)
abbrev s_Part___eq__ : Stmt := (inClass (topS 9) 2)
abbrev s_Parts___eq__ : Stmt := (inClass (topS 10) 4)
abbrev s_Cell___eq__ : Stmt := (inClass (topS 11) 3)
abbrev s_Box___eq__ : Stmt := (inClass (topS 12) 4)
abbrev s_Norms___eq__ : Stmt := (inClass (topS 13) 4)
abbrev s_Differ___eq__ : Stmt := (inClass (topS 14) 3)
abbrev s_law : Stmt := (topS 47)
theorem sc_law_row : FnScope ["script", "k", "cell", "a", "b", "c"] ["script", "k"] (defScope s_law_row) := ⟨rfl, rfl, rfl, by decide +kernel, rfl, by decide +kernel, by decide +kernel⟩
theorem sc_law_next : FnScope ["state", "many", "drawn"] ["state", "many"] (defScope s_law_next) := ⟨rfl, rfl, rfl, by decide +kernel, rfl, by decide +kernel, by decide +kernel⟩
theorem sc_law_vector : FnScope ["state", "size", "spread", "k"] ["state", "size"] (defScope s_law_vector) := ⟨rfl, rfl, rfl, by decide +kernel, rfl, by decide +kernel, by decide +kernel⟩
theorem sc_Record___init__ : FnScope ["self", "name", "vector", "fields", "words", "pair"] ["self", "name", "vector", "fields", "words"] (defScope s_Record___init__) := ⟨rfl, rfl, rfl, by decide +kernel, rfl, by decide +kernel, by decide +kernel⟩
theorem sc_law_parts : FnScope ["state", "size", "parts", "place", "k", "long"] ["state", "size"] (defScope s_law_parts) := ⟨rfl, rfl, rfl, by decide +kernel, rfl, by decide +kernel, by decide +kernel⟩
theorem sc_law_size : FnScope ["state", "size"] ["state", "size"] (defScope s_law_size) := ⟨rfl, rfl, rfl, by decide +kernel, rfl, by decide +kernel, by decide +kernel⟩
theorem sc_law_vector_fact : FnScope ["state", "size", "kind", "near", "rival", "low", "number"] ["state", "size"] (defScope s_law_vector_fact) := ⟨rfl, rfl, rfl, by decide +kernel, rfl, by decide +kernel, by decide +kernel⟩
theorem sc_law_inner : FnScope ["a", "b", "total", "k"] ["a", "b"] (defScope s_law_inner) := ⟨rfl, rfl, rfl, by decide +kernel, rfl, by decide +kernel, by decide +kernel⟩
theorem sc_law_differing : FnScope ["a", "b", "k"] ["a", "b"] (defScope s_law_differing) := ⟨rfl, rfl, rfl, by decide +kernel, rfl, by decide +kernel, by decide +kernel⟩
theorem sc_law_distance : FnScope ["a", "b", "total", "k"] ["a", "b"] (defScope s_law_distance) := ⟨rfl, rfl, rfl, by decide +kernel, rfl, by decide +kernel, by decide +kernel⟩
theorem sc_law_moved : FnScope ["state", "fact", "vector", "start", "centre", "radius", "square", "low", "number", "high", "place", "k"] ["state", "fact", "vector"] (defScope s_law_moved) := ⟨rfl, rfl, rfl, by decide +kernel, rfl, by decide +kernel, by decide +kernel⟩
theorem sc_Part_after : FnScope ["self"] ["self"] (defScope s_Part_after) := ⟨rfl, rfl, rfl, by decide +kernel, rfl, by decide +kernel, by decide +kernel⟩
theorem sc_ends_within : FnScope ["part", "vector"] ["part", "vector"] (defScope s_ends_within) := ⟨rfl, rfl, rfl, by decide +kernel, rfl, by decide +kernel, by decide +kernel⟩
theorem sc_distance : FnScope ["a", "b", "x", "y"] ["a", "b"] (defScope s_distance) := ⟨rfl, rfl, rfl, by decide +kernel, rfl, by decide +kernel, by decide +kernel⟩
theorem sc_numbers_at : FnScope ["part", "vector"] ["part", "vector"] (defScope s_numbers_at) := ⟨rfl, rfl, rfl, by decide +kernel, rfl, by decide +kernel, by decide +kernel⟩
theorem sc_is_near : FnScope ["part", "vector"] ["part", "vector"] (defScope s_is_near) := ⟨rfl, rfl, rfl, by decide +kernel, rfl, by decide +kernel, by decide +kernel⟩
theorem sc_Parts_holds : FnScope ["self", "record", "part"] ["self", "record"] (defScope s_Parts_holds) := ⟨rfl, rfl, rfl, by decide +kernel, rfl, by decide +kernel, by decide +kernel⟩
theorem sc_have_size : FnScope ["one", "other", "size"] ["one", "other", "size"] (defScope s_have_size) := ⟨rfl, rfl, rfl, by decide +kernel, rfl, by decide +kernel, by decide +kernel⟩
theorem sc_Cell_holds : FnScope ["self", "record", "vector"] ["self", "record"] (defScope s_Cell_holds) := ⟨rfl, rfl, rfl, by decide +kernel, rfl, by decide +kernel, by decide +kernel⟩
theorem sc_Box_holds : FnScope ["self", "record", "vector", "low", "number", "high"] ["self", "record"] (defScope s_Box_holds) := ⟨rfl, rfl, rfl, by decide +kernel, rfl, by decide +kernel, by decide +kernel⟩
theorem sc_inner : FnScope ["a", "b", "x", "y"] ["a", "b"] (defScope s_inner) := ⟨rfl, rfl, rfl, by decide +kernel, rfl, by decide +kernel, by decide +kernel⟩
theorem sc_norm : FnScope ["a"] ["a"] (defScope s_norm) := ⟨rfl, rfl, rfl, by decide +kernel, rfl, by decide +kernel, by decide +kernel⟩
theorem sc_Norms_holds : FnScope ["self", "record"] ["self", "record"] (defScope s_Norms_holds) := ⟨rfl, rfl, rfl, by decide +kernel, rfl, by decide +kernel, by decide +kernel⟩
theorem sc_differing : FnScope ["a", "b", "x", "y"] ["a", "b"] (defScope s_differing) := ⟨rfl, rfl, rfl, by decide +kernel, rfl, by decide +kernel, by decide +kernel⟩
theorem sc_Differ_holds : FnScope ["self", "record", "vector"] ["self", "record"] (defScope s_Differ_holds) := ⟨rfl, rfl, rfl, by decide +kernel, rfl, by decide +kernel, by decide +kernel⟩
theorem sc_Parts___init__ : FnScope ["self", "parts"] ["self", "parts"] (defScope s_Parts___init__) := ⟨rfl, rfl, rfl, by decide +kernel, rfl, by decide +kernel, by decide +kernel⟩
theorem sc_Cell___init__ : FnScope ["self", "near", "rival"] ["self", "near", "rival"] (defScope s_Cell___init__) := ⟨rfl, rfl, rfl, by decide +kernel, rfl, by decide +kernel, by decide +kernel⟩
theorem sc_Box___init__ : FnScope ["self", "low", "high"] ["self", "low", "high"] (defScope s_Box___init__) := ⟨rfl, rfl, rfl, by decide +kernel, rfl, by decide +kernel, by decide +kernel⟩
theorem sc_Norms___init__ : FnScope ["self", "low", "high"] ["self", "low", "high"] (defScope s_Norms___init__) := ⟨rfl, rfl, rfl, by decide +kernel, rfl, by decide +kernel, by decide +kernel⟩
theorem sc_Differ___init__ : FnScope ["self", "centre", "most"] ["self", "centre", "most"] (defScope s_Differ___init__) := ⟨rfl, rfl, rfl, by decide +kernel, rfl, by decide +kernel, by decide +kernel⟩
theorem sc_Part___init__ : FnScope ["self", "start", "centre", "radius"] ["self", "start", "centre", "radius"] (defScope s_Part___init__) := ⟨rfl, rfl, rfl, by decide +kernel, rfl, by decide +kernel, by decide +kernel⟩
theorem sc_law_made : FnScope ["fact", "start", "centre", "radius"] ["fact"] (defScope s_law_made) := ⟨rfl, rfl, rfl, by decide +kernel, rfl, by decide +kernel, by decide +kernel⟩
theorem sc_law_holds_vector : FnScope ["fact", "vector", "start", "centre", "radius", "k"] ["fact", "vector"] (defScope s_law_holds_vector) := ⟨rfl, rfl, rfl, by decide +kernel, rfl, by decide +kernel, by decide +kernel⟩
theorem sc_Part___eq__ : FnScope ["self", "other"] ["self", "other"] (defScope s_Part___eq__) := ⟨rfl, rfl, rfl, by decide +kernel, rfl, by decide +kernel, by decide +kernel⟩
theorem sc_Parts___eq__ : FnScope ["self", "other"] ["self", "other"] (defScope s_Parts___eq__) := ⟨rfl, rfl, rfl, by decide +kernel, rfl, by decide +kernel, by decide +kernel⟩
theorem sc_Cell___eq__ : FnScope ["self", "other"] ["self", "other"] (defScope s_Cell___eq__) := ⟨rfl, rfl, rfl, by decide +kernel, rfl, by decide +kernel, by decide +kernel⟩
theorem sc_Box___eq__ : FnScope ["self", "other"] ["self", "other"] (defScope s_Box___eq__) := ⟨rfl, rfl, rfl, by decide +kernel, rfl, by decide +kernel, by decide +kernel⟩
theorem sc_Norms___eq__ : FnScope ["self", "other"] ["self", "other"] (defScope s_Norms___eq__) := ⟨rfl, rfl, rfl, by decide +kernel, rfl, by decide +kernel, by decide +kernel⟩
theorem sc_Differ___eq__ : FnScope ["self", "other"] ["self", "other"] (defScope s_Differ___eq__) := ⟨rfl, rfl, rfl, by decide +kernel, rfl, by decide +kernel, by decide +kernel⟩
theorem sc_law : FnScope ["script", "state", "vector", "record", "facts", "turn", "fact", "actual", "one", "two"] ["script"] (defScope s_law) := ⟨rfl, rfl, rfl, by decide +kernel, rfl, by decide +kernel, by decide +kernel⟩
/-! the mathematics -/
open TP

theorem getD_lt {ns : List Int} {k : Nat} (h : k < ns.length) : ns[k]? = some (ns.getD k 0) := by
  rw [List.getD_eq_getElem?_getD, List.getElem?_eq_getElem h]; rfl
theorem getD_ge {ns : List Int} {k : Nat} (h : ¬ k < ns.length) : ns.getD k 0 = 0 := by
  rw [List.getD_eq_getElem?_getD, List.getElem?_eq_none (by omega)]; rfl
def row1 (ns : List Int) (k : Nat) : Int := if ns.getD k 0 < 0 then -2 * ns.getD k 0 - 1 else ns.getD k 0
def rowA (c : Int) (k : Nat) : Int := (c * 48271 + k * 69621 + 11) % 2147483647
def rowB (a c : Int) (k : Nat) : Int := (a * 16807 + c * 7 + k + 5) % 2147483629
def rowC (a b : Int) : Int := (b * 39373 + a * b + 3) % 2147483587
theorem rowZ_hi {ns : List Int} {k : Nat} (h : ¬ row1 ns k < 10 ^ 9) : rowZ ns k = row1 ns k := by
  unfold rowZ
  exact if_neg h
theorem rowZ_lo {ns : List Int} {k : Nat} (h : row1 ns k < 10 ^ 9) : rowZ ns k = rowA (row1 ns k) k + rowB (rowA (row1 ns k) k) (row1 ns k) k * 2147483647 + rowC (rowA (row1 ns k) k) (rowB (rowA (row1 ns k) k) (row1 ns k) k) * 2147483647 ^ 2 := by
  unfold rowZ
  exact if_pos h
theorem row1_nn (ns : List Int) (k : Nat) : 0 ≤ row1 ns k := by
  unfold row1
  by_cases h : ns.getD k 0 < 0
  · rw [if_pos h]; omega
  · rw [if_neg h]; omega
theorem rowZ_nn (ns : List Int) (k : Nat) : 0 ≤ rowZ ns k := by
  by_cases h : row1 ns k < 10 ^ 9
  · rw [rowZ_lo h]
    have a0 : 0 ≤ rowA (row1 ns k) k := Int.emod_nonneg _ (by decide)
    have b0 : 0 ≤ rowB (rowA (row1 ns k) k) (row1 ns k) k := Int.emod_nonneg _ (by decide)
    have d0 : 0 ≤ rowC (rowA (row1 ns k) k) (rowB (rowA (row1 ns k) k) (row1 ns k) k) := Int.emod_nonneg _ (by decide)
    have e2 : (2147483647 : Int) ^ 2 = 4611686014132420609 := by decide
    rw [e2]
    omega
  · rw [rowZ_hi h]; exact row1_nn ns k

structure Record where
  name : Str
  vector : (List Int)
  fields : (List (Str × Int))
  words : (List (Str × Int))
deriving DecidableEq
structure Part where
  start : Int
  centre : (List Int)
  radius : Int
deriving DecidableEq
structure Parts where
  parts : (List Part)
deriving DecidableEq
structure Cell where
  near : (List Int)
  rival : (List Int)
deriving DecidableEq
structure Box where
  low : (List Int)
  high : (List Int)
deriving DecidableEq
structure Norms where
  low : Int
  high : Int
deriving DecidableEq
structure Differ where
  centre : (List Int)
  most : Int
deriving DecidableEq
inductive LFact
  | k_parts (a1 : (List (Int × (List Int) × Int)))
  | k_cell (a1 : (List Int)) (a2 : (List Int))
  | k_box (a1 : (List Int)) (a2 : (List Int))
  | k_norms (a1 : Int) (a2 : Int)
  | k_differ (a1 : (List Int)) (a2 : Int)
deriving DecidableEq
def LFact.tag : LFact → Str
  | .k_parts a1 => "parts"
  | .k_cell a1 a2 => "cell"
  | .k_box a1 a2 => "box"
  | .k_norms a1 a2 => "norms"
  | .k_differ a1 a2 => "differ"
def LFact.s_0 : LFact → Option (List (Int × (List Int) × Int))
  | .k_parts a1 => some a1
  | .k_cell a1 a2 => none
  | .k_box a1 a2 => none
  | .k_norms a1 a2 => none
  | .k_differ a1 a2 => none
def LFact.s_1 : LFact → Option (List Int)
  | .k_parts a1 => none
  | .k_cell a1 a2 => some a1
  | .k_box a1 a2 => some a1
  | .k_norms a1 a2 => none
  | .k_differ a1 a2 => some a1
def LFact.s_2 : LFact → Option (List Int)
  | .k_parts a1 => none
  | .k_cell a1 a2 => some a2
  | .k_box a1 a2 => some a2
  | .k_norms a1 a2 => none
  | .k_differ a1 a2 => none
def LFact.s_3 : LFact → Option Int
  | .k_parts a1 => none
  | .k_cell a1 a2 => none
  | .k_box a1 a2 => none
  | .k_norms a1 a2 => some a1
  | .k_differ a1 a2 => none
def LFact.s_4 : LFact → Option Int
  | .k_parts a1 => none
  | .k_cell a1 a2 => none
  | .k_box a1 a2 => none
  | .k_norms a1 a2 => some a2
  | .k_differ a1 a2 => some a2
def d_LFact : LFact → PyData
  | .k_parts a1 => (dP2 PyData.str (dLst (dP3 PyData.int (dLst PyData.int) PyData.int))) (("parts" : Str), a1)
  | .k_cell a1 a2 => (dP3 PyData.str (dLst PyData.int) (dLst PyData.int)) (("cell" : Str), a1, a2)
  | .k_box a1 a2 => (dP3 PyData.str (dLst PyData.int) (dLst PyData.int)) (("box" : Str), a1, a2)
  | .k_norms a1 a2 => (dP3 PyData.str PyData.int PyData.int) (("norms" : Str), a1, a2)
  | .k_differ a1 a2 => (dP3 PyData.str (dLst PyData.int) PyData.int) (("differ" : Str), a1, a2)
theorem LFact.tag_parts {a1 : (List (Int × (List Int) × Int))} : LFact.tag (.k_parts a1) = "parts" := of_eq_true (eq_self _)
theorem LFact.s_0_parts {a1 : (List (Int × (List Int) × Int))} : LFact.s_0 (.k_parts a1) = some a1 := of_eq_true (eq_self _)
theorem LFact.s_1_parts {a1 : (List (Int × (List Int) × Int))} : LFact.s_1 (.k_parts a1) = none := of_eq_true (eq_self _)
theorem LFact.s_2_parts {a1 : (List (Int × (List Int) × Int))} : LFact.s_2 (.k_parts a1) = none := of_eq_true (eq_self _)
theorem LFact.s_3_parts {a1 : (List (Int × (List Int) × Int))} : LFact.s_3 (.k_parts a1) = none := of_eq_true (eq_self _)
theorem LFact.s_4_parts {a1 : (List (Int × (List Int) × Int))} : LFact.s_4 (.k_parts a1) = none := of_eq_true (eq_self _)
theorem LFact.tag_cell {a1 : (List Int)} {a2 : (List Int)} : LFact.tag (.k_cell a1 a2) = "cell" := of_eq_true (eq_self _)
theorem LFact.s_0_cell {a1 : (List Int)} {a2 : (List Int)} : LFact.s_0 (.k_cell a1 a2) = none := of_eq_true (eq_self _)
theorem LFact.s_1_cell {a1 : (List Int)} {a2 : (List Int)} : LFact.s_1 (.k_cell a1 a2) = some a1 := of_eq_true (eq_self _)
theorem LFact.s_2_cell {a1 : (List Int)} {a2 : (List Int)} : LFact.s_2 (.k_cell a1 a2) = some a2 := of_eq_true (eq_self _)
theorem LFact.s_3_cell {a1 : (List Int)} {a2 : (List Int)} : LFact.s_3 (.k_cell a1 a2) = none := of_eq_true (eq_self _)
theorem LFact.s_4_cell {a1 : (List Int)} {a2 : (List Int)} : LFact.s_4 (.k_cell a1 a2) = none := of_eq_true (eq_self _)
theorem LFact.tag_box {a1 : (List Int)} {a2 : (List Int)} : LFact.tag (.k_box a1 a2) = "box" := of_eq_true (eq_self _)
theorem LFact.s_0_box {a1 : (List Int)} {a2 : (List Int)} : LFact.s_0 (.k_box a1 a2) = none := of_eq_true (eq_self _)
theorem LFact.s_1_box {a1 : (List Int)} {a2 : (List Int)} : LFact.s_1 (.k_box a1 a2) = some a1 := of_eq_true (eq_self _)
theorem LFact.s_2_box {a1 : (List Int)} {a2 : (List Int)} : LFact.s_2 (.k_box a1 a2) = some a2 := of_eq_true (eq_self _)
theorem LFact.s_3_box {a1 : (List Int)} {a2 : (List Int)} : LFact.s_3 (.k_box a1 a2) = none := of_eq_true (eq_self _)
theorem LFact.s_4_box {a1 : (List Int)} {a2 : (List Int)} : LFact.s_4 (.k_box a1 a2) = none := of_eq_true (eq_self _)
theorem LFact.tag_norms {a1 : Int} {a2 : Int} : LFact.tag (.k_norms a1 a2) = "norms" := of_eq_true (eq_self _)
theorem LFact.s_0_norms {a1 : Int} {a2 : Int} : LFact.s_0 (.k_norms a1 a2) = none := of_eq_true (eq_self _)
theorem LFact.s_1_norms {a1 : Int} {a2 : Int} : LFact.s_1 (.k_norms a1 a2) = none := of_eq_true (eq_self _)
theorem LFact.s_2_norms {a1 : Int} {a2 : Int} : LFact.s_2 (.k_norms a1 a2) = none := of_eq_true (eq_self _)
theorem LFact.s_3_norms {a1 : Int} {a2 : Int} : LFact.s_3 (.k_norms a1 a2) = some a1 := of_eq_true (eq_self _)
theorem LFact.s_4_norms {a1 : Int} {a2 : Int} : LFact.s_4 (.k_norms a1 a2) = some a2 := of_eq_true (eq_self _)
theorem LFact.tag_differ {a1 : (List Int)} {a2 : Int} : LFact.tag (.k_differ a1 a2) = "differ" := of_eq_true (eq_self _)
theorem LFact.s_0_differ {a1 : (List Int)} {a2 : Int} : LFact.s_0 (.k_differ a1 a2) = none := of_eq_true (eq_self _)
theorem LFact.s_1_differ {a1 : (List Int)} {a2 : Int} : LFact.s_1 (.k_differ a1 a2) = some a1 := of_eq_true (eq_self _)
theorem LFact.s_2_differ {a1 : (List Int)} {a2 : Int} : LFact.s_2 (.k_differ a1 a2) = none := of_eq_true (eq_self _)
theorem LFact.s_3_differ {a1 : (List Int)} {a2 : Int} : LFact.s_3 (.k_differ a1 a2) = none := of_eq_true (eq_self _)
theorem LFact.s_4_differ {a1 : (List Int)} {a2 : Int} : LFact.s_4 (.k_differ a1 a2) = some a2 := of_eq_true (eq_self _)
theorem LFact.ne_parts_cell : (("parts" : Str) = "cell") = False := eq_false (by decide +kernel)
theorem LFact.ne_parts_box : (("parts" : Str) = "box") = False := eq_false (by decide +kernel)
theorem LFact.ne_parts_norms : (("parts" : Str) = "norms") = False := eq_false (by decide +kernel)
theorem LFact.ne_parts_differ : (("parts" : Str) = "differ") = False := eq_false (by decide +kernel)
theorem LFact.ne_parts_range : (("parts" : Str) = "range") = False := eq_false (by decide +kernel)
theorem LFact.ne_parts_values : (("parts" : Str) = "values") = False := eq_false (by decide +kernel)
theorem LFact.ne_parts_counts : (("parts" : Str) = "counts") = False := eq_false (by decide +kernel)
theorem LFact.ne_cell_parts : (("cell" : Str) = "parts") = False := eq_false (by decide +kernel)
theorem LFact.ne_cell_box : (("cell" : Str) = "box") = False := eq_false (by decide +kernel)
theorem LFact.ne_cell_norms : (("cell" : Str) = "norms") = False := eq_false (by decide +kernel)
theorem LFact.ne_cell_differ : (("cell" : Str) = "differ") = False := eq_false (by decide +kernel)
theorem LFact.ne_cell_range : (("cell" : Str) = "range") = False := eq_false (by decide +kernel)
theorem LFact.ne_cell_values : (("cell" : Str) = "values") = False := eq_false (by decide +kernel)
theorem LFact.ne_cell_counts : (("cell" : Str) = "counts") = False := eq_false (by decide +kernel)
theorem LFact.ne_box_parts : (("box" : Str) = "parts") = False := eq_false (by decide +kernel)
theorem LFact.ne_box_cell : (("box" : Str) = "cell") = False := eq_false (by decide +kernel)
theorem LFact.ne_box_norms : (("box" : Str) = "norms") = False := eq_false (by decide +kernel)
theorem LFact.ne_box_differ : (("box" : Str) = "differ") = False := eq_false (by decide +kernel)
theorem LFact.ne_box_range : (("box" : Str) = "range") = False := eq_false (by decide +kernel)
theorem LFact.ne_box_values : (("box" : Str) = "values") = False := eq_false (by decide +kernel)
theorem LFact.ne_box_counts : (("box" : Str) = "counts") = False := eq_false (by decide +kernel)
theorem LFact.ne_norms_parts : (("norms" : Str) = "parts") = False := eq_false (by decide +kernel)
theorem LFact.ne_norms_cell : (("norms" : Str) = "cell") = False := eq_false (by decide +kernel)
theorem LFact.ne_norms_box : (("norms" : Str) = "box") = False := eq_false (by decide +kernel)
theorem LFact.ne_norms_differ : (("norms" : Str) = "differ") = False := eq_false (by decide +kernel)
theorem LFact.ne_norms_range : (("norms" : Str) = "range") = False := eq_false (by decide +kernel)
theorem LFact.ne_norms_values : (("norms" : Str) = "values") = False := eq_false (by decide +kernel)
theorem LFact.ne_norms_counts : (("norms" : Str) = "counts") = False := eq_false (by decide +kernel)
theorem LFact.ne_differ_parts : (("differ" : Str) = "parts") = False := eq_false (by decide +kernel)
theorem LFact.ne_differ_cell : (("differ" : Str) = "cell") = False := eq_false (by decide +kernel)
theorem LFact.ne_differ_box : (("differ" : Str) = "box") = False := eq_false (by decide +kernel)
theorem LFact.ne_differ_norms : (("differ" : Str) = "norms") = False := eq_false (by decide +kernel)
theorem LFact.ne_differ_range : (("differ" : Str) = "range") = False := eq_false (by decide +kernel)
theorem LFact.ne_differ_values : (("differ" : Str) = "values") = False := eq_false (by decide +kernel)
theorem LFact.ne_differ_counts : (("differ" : Str) = "counts") = False := eq_false (by decide +kernel)
theorem LFact.ne_range_parts : (("range" : Str) = "parts") = False := eq_false (by decide +kernel)
theorem LFact.ne_range_cell : (("range" : Str) = "cell") = False := eq_false (by decide +kernel)
theorem LFact.ne_range_box : (("range" : Str) = "box") = False := eq_false (by decide +kernel)
theorem LFact.ne_range_norms : (("range" : Str) = "norms") = False := eq_false (by decide +kernel)
theorem LFact.ne_range_differ : (("range" : Str) = "differ") = False := eq_false (by decide +kernel)
theorem LFact.ne_range_values : (("range" : Str) = "values") = False := eq_false (by decide +kernel)
theorem LFact.ne_range_counts : (("range" : Str) = "counts") = False := eq_false (by decide +kernel)
theorem LFact.ne_values_parts : (("values" : Str) = "parts") = False := eq_false (by decide +kernel)
theorem LFact.ne_values_cell : (("values" : Str) = "cell") = False := eq_false (by decide +kernel)
theorem LFact.ne_values_box : (("values" : Str) = "box") = False := eq_false (by decide +kernel)
theorem LFact.ne_values_norms : (("values" : Str) = "norms") = False := eq_false (by decide +kernel)
theorem LFact.ne_values_differ : (("values" : Str) = "differ") = False := eq_false (by decide +kernel)
theorem LFact.ne_values_range : (("values" : Str) = "range") = False := eq_false (by decide +kernel)
theorem LFact.ne_values_counts : (("values" : Str) = "counts") = False := eq_false (by decide +kernel)
theorem LFact.ne_counts_parts : (("counts" : Str) = "parts") = False := eq_false (by decide +kernel)
theorem LFact.ne_counts_cell : (("counts" : Str) = "cell") = False := eq_false (by decide +kernel)
theorem LFact.ne_counts_box : (("counts" : Str) = "box") = False := eq_false (by decide +kernel)
theorem LFact.ne_counts_norms : (("counts" : Str) = "norms") = False := eq_false (by decide +kernel)
theorem LFact.ne_counts_differ : (("counts" : Str) = "differ") = False := eq_false (by decide +kernel)
theorem LFact.ne_counts_range : (("counts" : Str) = "range") = False := eq_false (by decide +kernel)
theorem LFact.ne_counts_values : (("counts" : Str) = "values") = False := eq_false (by decide +kernel)
inductive Any
  | parts (x : Parts)
  | cell (x : Cell)
  | box (x : Box)
  | norms (x : Norms)
  | differ (x : Differ)
  | t (x : LFact)
deriving DecidableEq
def Any.p_parts : Any → Option Parts
  | .parts x => some x
  | _ => none
def Any.p_cell : Any → Option Cell
  | .cell x => some x
  | _ => none
def Any.p_box : Any → Option Box
  | .box x => some x
  | _ => none
def Any.p_norms : Any → Option Norms
  | .norms x => some x
  | _ => none
def Any.p_differ : Any → Option Differ
  | .differ x => some x
  | _ => none
def Any.p_t : Any → Option LFact
  | .t x => some x
  | _ => none
def Any.is_Parts : Any → Bool
  | .parts _ => true
  | .cell _ => false
  | .box _ => false
  | .norms _ => false
  | .differ _ => false
  | .t _ => false
def Any.is_Cell : Any → Bool
  | .parts _ => false
  | .cell _ => true
  | .box _ => false
  | .norms _ => false
  | .differ _ => false
  | .t _ => false
def Any.is_Box : Any → Bool
  | .parts _ => false
  | .cell _ => false
  | .box _ => true
  | .norms _ => false
  | .differ _ => false
  | .t _ => false
def Any.is_Norms : Any → Bool
  | .parts _ => false
  | .cell _ => false
  | .box _ => false
  | .norms _ => true
  | .differ _ => false
  | .t _ => false
def Any.is_Differ : Any → Bool
  | .parts _ => false
  | .cell _ => false
  | .box _ => false
  | .norms _ => false
  | .differ _ => true
  | .t _ => false


def F_law_vector (ds : DS) (x_size : Int) : Option ((List Int) × DS) :=
  (atI ([(2 : Int), (6 : Int), (300 : Int)] : List Int) (nxV ds (3 : Int))).bind fun i_11 =>
  if RangeOk 0 x_size then
  (mapS (fun (x_16 : Int) (s_17 : DS) => (if NxOk (((2 : Int) * i_11) + (1 : Int)) then
  some (((nxV s_17 (((2 : Int) * i_11) + (1 : Int))) - i_11), (nxS s_17 (((2 : Int) * i_11) + (1 : Int)))) else none : Option (Int × DS))) (rangeZ 0 x_size) (nxS ds (3 : Int))).bind fun l_21 =>
  some (l_21.1, l_21.2) else none
def F_Record___init__ (x_name : Str) (x_vector : (List Int)) (x_fields : (List (Str × Int))) (x_words : (List (Str × Int))) : Record :=
  (⟨x_name, x_vector, x_fields, x_words⟩ : Record)
def L_law_parts_1 (x_size : Int) (x_72 : Int) (w_71 : ((List (Int × (List Int) × Int)) × Int × DS)) : Option ((List (Int × (List Int) × Int)) × Int × DS) :=
  (if ((decide ((nxV (nxS w_71.2.2 (3 : Int)) (3 : Int)) = (0 : Int))) && (decide (w_71.2.1 < x_size))) = true then
  some (x_size - w_71.2.1)
  else
  some (nxV w_71.2.2 (3 : Int)) : Option Int).bind fun w_97 =>
  (F_law_vector (nxS (nxS w_71.2.2 (3 : Int)) (3 : Int)) w_97).bind fun r_105 =>
  if CMul (nxV r_105.2 (40 : Int)) (nxV (nxS r_105.2 (40 : Int)) (40 : Int)) then
  if w_71.1.length < 16777216 then
  (atI ([(0 : Int), (0 : Int), (0 : Int), (1 : Int), (-(1 : Int))] : List Int) (nxV (nxS (nxS r_105.2 (40 : Int)) (40 : Int)) (5 : Int))).bind fun i_110 =>
  (some ((w_71.2.1 + w_97) + i_110)).bind fun x_place_112 =>
  if (decide (x_place_112 < (0 : Int))) = true then
  some ((w_71.1 ++ [(w_71.2.1, r_105.1, ((nxV r_105.2 (40 : Int)) * (nxV (nxS r_105.2 (40 : Int)) (40 : Int))))]), (0 : Int), (nxS (nxS (nxS r_105.2 (40 : Int)) (40 : Int)) (5 : Int)))
  else
  some ((w_71.1 ++ [(w_71.2.1, r_105.1, ((nxV r_105.2 (40 : Int)) * (nxV (nxS r_105.2 (40 : Int)) (40 : Int))))]), x_place_112, (nxS (nxS (nxS r_105.2 (40 : Int)) (40 : Int)) (5 : Int))) else none else none
def F_law_parts (ds : DS) (x_size : Int) : Option ((List (Int × (List Int) × Int)) × DS) :=
  (some ([] : List (Int × (List Int) × Int))).bind fun x_parts_51 =>
  (atI ([(0 : Int), (0 : Int), (1 : Int), (nxV ds (3 : Int))] : List Int) (nxV (nxS ds (3 : Int)) (4 : Int))).bind fun i_56 =>
  (if (decide ((nxV (nxS (nxS ds (3 : Int)) (4 : Int)) (9 : Int)) = (0 : Int))) = true then
  some (-(1 : Int))
  else
  some i_56 : Option Int).bind fun w_62 =>
  if RangeOk 0 ((1 : Int) + (nxV (nxS (nxS (nxS ds (3 : Int)) (4 : Int)) (9 : Int)) (3 : Int))) then
  (forF (L_law_parts_1 x_size) (rangeZ 0 ((1 : Int) + (nxV (nxS (nxS (nxS ds (3 : Int)) (4 : Int)) (9 : Int)) (3 : Int)))) (x_parts_51, w_62, (nxS (nxS (nxS (nxS ds (3 : Int)) (4 : Int)) (9 : Int)) (3 : Int)))).bind fun w_83 =>
  some (w_83.1, w_83.2.2) else none
def F_law_size (ds : DS) (x_size : Int) : Option (Int × DS) :=
  (atI ([x_size, x_size, x_size, (x_size + (1 : Int))] : List Int) (nxV ds (4 : Int))).bind fun i_124 =>
  some (i_124, (nxS ds (4 : Int)))
def F_law_vector_fact (ds : DS) (x_size : Int) : Option (LFact × DS) :=
  if (decide ((nxV ds (5 : Int)) = (0 : Int))) = true then
  (F_law_parts (nxS ds (5 : Int)) x_size).bind fun r_134 =>
  some ((LFact.k_parts r_134.1), r_134.2)
  else
  if (decide ((nxV ds (5 : Int)) = (1 : Int))) = true then
  (F_law_size (nxS ds (5 : Int)) x_size).bind fun r_137 =>
  (F_law_vector r_137.2 r_137.1).bind fun r_139 =>
  (F_law_size r_139.2 x_size).bind fun r_143 =>
  (F_law_vector r_143.2 r_143.1).bind fun r_145 =>
  (if (decide ((nxV r_145.2 (6 : Int)) = (0 : Int))) = true then
  some r_139.1
  else
  some r_145.1 : Option (List Int)).bind fun w_151 =>
  some ((LFact.k_cell r_139.1 w_151), (nxS r_145.2 (6 : Int)))
  else
  if (decide ((nxV ds (5 : Int)) = (2 : Int))) = true then
  (F_law_size (nxS ds (5 : Int)) x_size).bind fun r_162 =>
  (F_law_vector r_162.2 r_162.1).bind fun r_164 =>
  (mapS (fun (x_168 : Int) (s_169 : DS) => (some (((x_168 + (nxV s_169 (8 : Int))) - (1 : Int)), (nxS s_169 (8 : Int))) : Option (Int × DS))) r_164.1 r_164.2).bind fun l_172 =>
  some ((LFact.k_box r_164.1 l_172.1), l_172.2)
  else
  if (decide ((nxV ds (5 : Int)) = (3 : Int))) = true then
  (some (nxV (nxS ds (5 : Int)) (300 : Int))).bind fun x_low_175 =>
  some ((LFact.k_norms x_low_175 ((x_low_175 + (nxV (nxS (nxS ds (5 : Int)) (300 : Int)) (900 : Int))) - (10 : Int))), (nxS (nxS (nxS ds (5 : Int)) (300 : Int)) (900 : Int)))
  else
  (F_law_size (nxS ds (5 : Int)) x_size).bind fun r_179 =>
  (F_law_vector r_179.2 r_179.1).bind fun r_181 =>
  some ((LFact.k_differ r_181.1 (nxV r_181.2 (4 : Int))), (nxS r_181.2 (4 : Int)))
def L_law_inner_1 (x_a : (List Int)) (x_b : (List Int)) (x_189 : Int) (w_188 : Int) : Option Int :=
  (atI x_a x_189).bind fun i_209 =>
  (atI x_b x_189).bind fun i_211 =>
  if CMul i_209 i_211 then
  (some (w_188 + (i_209 * i_211))).bind fun x_total_214 =>
  some x_total_214 else none
def F_law_inner (x_a : (List Int)) (x_b : (List Int)) : Option Int :=
  if RangeOk 0 (x_a.length : Int) then
  (forF (L_law_inner_1 x_a x_b) (rangeZ 0 (x_a.length : Int)) (0 : Int)).bind fun w_200 =>
  some w_200 else none
def F_law_differing (x_a : (List Int)) (x_b : (List Int)) : Option Int :=
  if RangeOk 0 (x_a.length : Int) then
  (fmO (fun (x_241 : Int) => ((atI x_a x_241).bind fun i_244 =>
  (atI x_b x_241).bind fun i_246 =>
  if (!decide (i_244 = i_246)) = true then (some (some x_241)) else some none : Option (Option Int))) (rangeZ 0 (x_a.length : Int))).bind fun l_248 =>
  some (l_248.length : Int) else none
def L_law_distance_1 (x_a : (List Int)) (x_b : (List Int)) (x_256 : Int) (w_255 : Int) : Option Int :=
  (atI x_a x_256).bind fun i_276 =>
  (atI x_b x_256).bind fun i_278 =>
  (atI x_a x_256).bind fun i_280 =>
  (atI x_b x_256).bind fun i_282 =>
  if CMul (i_276 - i_278) (i_280 - i_282) then
  (some (w_255 + ((i_276 - i_278) * (i_280 - i_282)))).bind fun x_total_285 =>
  some x_total_285 else none
def F_law_distance (x_a : (List Int)) (x_b : (List Int)) : Option Int :=
  if RangeOk 0 (x_a.length : Int) then
  (forF (L_law_distance_1 x_a x_b) (rangeZ 0 (x_a.length : Int)) (0 : Int)).bind fun w_267 =>
  some w_267 else none
def F_law_moved (ds : DS) (x_fact : LFact) (x_vector : (List Int)) : Option (LFact × DS) :=
  (if (decide (x_fact.tag = ("parts" : Str))) = true then ((x_fact.s_0).bind fun a_299 =>
  some (decide ((0 : Int) < (a_299.length : Int)))) else some false).bind fun b_302 =>
  if b_302 = true then
  (x_fact.s_0).bind fun a_304 =>
  (atI a_304 (0 : Int)).bind fun i_306 =>
  (if ((decide ((0 : Int) ≤ i_306.1)) && (decide ((i_306.1 + (i_306.2.1.length : Int)) ≤ (x_vector.length : Int)))) = true then
  (F_law_distance i_306.2.1 (cutA x_vector (some i_306.1) (some (i_306.1 + (i_306.2.1.length : Int))))).bind fun r_330 =>
  (some (max (0 : Int) (r_330 - (nxV ds (2 : Int))))).bind fun x_radius_332 =>
  some (x_radius_332, (nxS ds (2 : Int)))
  else
  some (i_306.2.2, ds) : Option (Int × DS)).bind fun w_318 =>
  (x_fact.s_0).bind fun a_336 =>
  if ([(i_306.1, i_306.2.1, w_318.1)] : List (Int × (List Int) × Int)).length + (cutA a_336 (some (1 : Int)) none).length ≤ 16777216 then
  some ((LFact.k_parts (([(i_306.1, i_306.2.1, w_318.1)] : List (Int × (List Int) × Int)) ++ (cutA a_336 (some (1 : Int)) none))), w_318.2) else none
  else
  if (decide (x_fact.tag = ("norms" : Str))) = true then
  (F_law_inner x_vector x_vector).bind fun r_340 =>
  (atI ([(LFact.k_norms r_340 r_340), (LFact.k_norms (r_340 + (1 : Int)) (r_340 + (9 : Int))), (LFact.k_norms (0 : Int) (r_340 - (1 : Int)))] : List LFact) (nxV ds (3 : Int))).bind fun i_344 =>
  some (i_344, (nxS ds (3 : Int)))
  else
  (if (decide (x_fact.tag = ("differ" : Str))) = true then ((x_fact.s_1).bind fun a_348 =>
  some (decide ((a_348.length : Int) = (x_vector.length : Int)))) else some false).bind fun b_351 =>
  if b_351 = true then
  (x_fact.s_1).bind fun a_353 =>
  (x_fact.s_1).bind fun a_355 =>
  (F_law_differing a_355 x_vector).bind fun r_357 =>
  some ((LFact.k_differ a_353 (r_357 - (nxV ds (2 : Int)))), (nxS ds (2 : Int)))
  else
  (if (decide (x_fact.tag = ("box" : Str))) = true then ((x_fact.s_1).bind fun a_361 =>
  some (decide ((a_361.length : Int) = (x_vector.length : Int)))) else some false).bind fun b_364 =>
  if b_364 = true then
  (mapS (fun (x_366 : Int) (s_367 : DS) => (some ((x_366 - (nxV s_367 (2 : Int))), (nxS s_367 (2 : Int))) : Option (Int × DS))) x_vector ds).bind fun l_370 =>
  (mapS (fun (x_375 : Int) (s_376 : DS) => (some ((x_375 + (nxV s_376 (2 : Int))), (nxS s_376 (2 : Int))) : Option (Int × DS))) x_vector l_370.2).bind fun l_379 =>
  if NxOk (x_vector.length : Int) then
  (some (nxV l_379.2 (x_vector.length : Int))).bind fun x_place_386 =>
  (atI x_vector x_place_386).bind fun i_392 =>
  (atI ([(0 : Int), (1 : Int), (0 : Int)] : List Int) (nxV (nxS l_379.2 (x_vector.length : Int)) (3 : Int))).bind fun i_394 =>
  (ixN l_370.1.length x_place_386).bind fun j_396 =>
  (atI x_vector x_place_386).bind fun i_399 =>
  (atI ([(0 : Int), (0 : Int), (1 : Int)] : List Int) (nxV (nxS (nxS l_379.2 (x_vector.length : Int)) (3 : Int)) (3 : Int))).bind fun i_401 =>
  (ixN l_379.1.length x_place_386).bind fun j_403 =>
  some ((LFact.k_box (l_370.1.set j_396 (i_392 + i_394)) (l_379.1.set j_403 (i_399 - i_401))), (nxS (nxS (nxS l_379.2 (x_vector.length : Int)) (3 : Int)) (3 : Int))) else none
  else
  (if (decide (x_fact.tag = ("cell" : Str))) = true then ((x_fact.s_1).bind fun a_410 =>
  some (decide ((a_410.length : Int) = (x_vector.length : Int)))) else some false).bind fun b_413 =>
  if b_413 = true then
  (x_fact.s_1).bind fun a_415 =>
  if RangeOk 0 (x_vector.length : Int) then
  (mapO (fun (x_418 : Int) => ((atI x_vector x_418).bind fun i_422 =>
  (x_fact.s_1).bind fun a_424 =>
  (atI a_424 x_418).bind fun i_426 =>
  some (((2 : Int) * i_422) - i_426) : Option Int)) (rangeZ 0 (x_vector.length : Int))).bind fun l_428 =>
  some ((LFact.k_cell a_415 l_428), ds) else none
  else
  some (x_fact, ds)
def F_Part_after (x_self : Part) : Int :=
  (x_self.start + (x_self.centre.length : Int))
def F_ends_within (x_part : Part) (x_vector : (List Int)) : Bool :=
  ((decide ((0 : Int) ≤ x_part.start)) && (decide ((F_Part_after x_part) ≤ (x_vector.length : Int))))
def F_distance (x_a : (List Int)) (x_b : (List Int)) : Option Int :=
  (mapO (fun (x_441 : (Int × Int)) => (if CMul (x_441.1 - x_441.2) (x_441.1 - x_441.2) then
  some ((x_441.1 - x_441.2) * (x_441.1 - x_441.2)) else none : Option Int)) (x_a.zip x_b)).bind fun l_450 =>
  some l_450.sum
def F_numbers_at (x_part : Part) (x_vector : (List Int)) : (List Int) :=
  (cutA x_vector (some x_part.start) (some (F_Part_after x_part)))
def F_is_near (x_part : Part) (x_vector : (List Int)) : Option Bool :=
  (if (F_ends_within x_part x_vector) = true then ((F_distance x_part.centre (F_numbers_at x_part x_vector)).bind fun r_456 =>
  some (decide (r_456 ≤ x_part.radius))) else some false).bind fun b_459 =>
  some b_459
def F_Parts_holds (x_self : Parts) (x_record : Record) : Option Bool :=
  (mapO (fun (x_467 : Part) => ((F_is_near x_467 x_record.vector).bind fun r_470 =>
  some r_470 : Option Bool)) x_self.parts).bind fun l_472 =>
  some (l_472.all id)
def F_have_size (x_one : (List Int)) (x_other : (List Int)) (x_size : Int) : Bool :=
  ((decide ((x_one.length : Int) = x_size)) && (decide ((x_other.length : Int) = x_size)))
def F_Cell_holds (x_self : Cell) (x_record : Record) : Option Bool :=
  if (!(F_have_size x_self.near x_self.rival (x_record.vector.length : Int))) = true then
  some false
  else
  (F_distance x_record.vector x_self.near).bind fun r_484 =>
  (F_distance x_record.vector x_self.rival).bind fun r_486 =>
  some (decide (r_484 ≤ r_486))
def F_Box_holds (x_self : Box) (x_record : Record) : Bool :=
  if (!(F_have_size x_self.low x_self.high (x_record.vector.length : Int))) = true then
  false
  else
  (((x_self.low.zip (x_record.vector.zip x_self.high)).map (fun (x_491 : (Int × Int × Int)) => ((decide (x_491.1 ≤ x_491.2.1)) && (decide (x_491.2.1 ≤ x_491.2.2))))).all id)
def F_inner (x_a : (List Int)) (x_b : (List Int)) : Option Int :=
  (mapO (fun (x_512 : (Int × Int)) => (if CMul x_512.1 x_512.2 then
  some (x_512.1 * x_512.2) else none : Option Int)) (x_a.zip x_b)).bind fun l_521 =>
  some l_521.sum
def F_norm (x_a : (List Int)) : Option Int :=
  (F_inner x_a x_a).bind fun r_525 =>
  some r_525
def F_Norms_holds (x_self : Norms) (x_record : Record) : Option Bool :=
  (F_norm x_record.vector).bind fun r_537 =>
  some ((decide (x_self.low ≤ r_537)) && (decide (r_537 ≤ x_self.high)))
def F_differing (x_a : (List Int)) (x_b : (List Int)) : Int :=
  ((((x_a.zip x_b).filter (fun (x_547 : (Int × Int)) => (!decide (x_547.1 = x_547.2)))).map (fun (x_547 : (Int × Int)) => true)).length : Int)
def F_Differ_holds (x_self : Differ) (x_record : Record) : Bool :=
  ((decide ((x_self.centre.length : Int) = (x_record.vector.length : Int))) && (decide ((F_differing x_self.centre x_record.vector) ≤ x_self.most)))
def F_Parts___init__ (x_parts : (List Part)) : Parts :=
  (⟨x_parts⟩ : Parts)
def F_Cell___init__ (x_near : (List Int)) (x_rival : (List Int)) : Cell :=
  (⟨x_near, x_rival⟩ : Cell)
def F_Box___init__ (x_low : (List Int)) (x_high : (List Int)) : Box :=
  (⟨x_low, x_high⟩ : Box)
def F_Norms___init__ (x_low : Int) (x_high : Int) : Norms :=
  (⟨x_low, x_high⟩ : Norms)
def F_Differ___init__ (x_centre : (List Int)) (x_most : Int) : Differ :=
  (⟨x_centre, x_most⟩ : Differ)
def F_Part___init__ (x_start : Int) (x_centre : (List Int)) (x_radius : Int) : Part :=
  (⟨x_start, x_centre, x_radius⟩ : Part)
def F_law_made (x_fact : LFact) : Option Any :=
  if (decide (x_fact.tag = ("parts" : Str))) = true then
  (x_fact.s_0).bind fun a_599 =>
  some (Any.parts (F_Parts___init__ (a_599.map (fun (x_601 : (Int × (List Int) × Int)) => (F_Part___init__ x_601.1 x_601.2.1 x_601.2.2)))))
  else
  if (decide (x_fact.tag = ("cell" : Str))) = true then
  (x_fact.s_1).bind fun a_614 =>
  (x_fact.s_2).bind fun a_618 =>
  some (Any.cell (F_Cell___init__ a_614 a_618))
  else
  if (decide (x_fact.tag = ("box" : Str))) = true then
  (x_fact.s_1).bind fun a_623 =>
  (x_fact.s_2).bind fun a_627 =>
  some (Any.box (F_Box___init__ a_623 a_627))
  else
  if (decide (x_fact.tag = ("norms" : Str))) = true then
  (x_fact.s_3).bind fun a_630 =>
  (x_fact.s_4).bind fun a_632 =>
  some (Any.norms (F_Norms___init__ a_630 a_632))
  else
  if (decide (x_fact.tag = ("differ" : Str))) = true then
  (x_fact.s_1).bind fun a_637 =>
  (x_fact.s_4).bind fun a_639 =>
  some (Any.differ (F_Differ___init__ a_637 a_639))
  else
  if (decide (x_fact.tag = ("range" : Str))) = true then
  none
  else
  if (decide (x_fact.tag = ("values" : Str))) = true then
  none
  else
  if (decide (x_fact.tag = ("counts" : Str))) = true then
  none
  else
  none
def L_law_holds_vector_1 (x_vector : (List Int)) (x_651 : (Int × (List Int) × Int)) (w_650 : Unit) : Option (Flow Bool Unit) :=
  if ((decide (x_651.1 < (0 : Int))) || (decide ((x_vector.length : Int) < (x_651.1 + (x_651.2.1.length : Int))))) = true then
  some (Flow.ret false)
  else
  (F_law_distance x_651.2.1 (cutA x_vector (some x_651.1) (some (x_651.1 + (x_651.2.1.length : Int))))).bind fun r_681 =>
  if (decide (x_651.2.2 < r_681)) = true then
  some (Flow.ret false)
  else
  some (Flow.go ())
def L_law_holds_vector_2 (x_fact : LFact) (x_vector : (List Int)) (x_729 : Int) (w_728 : Unit) : Option (Flow Bool Unit) :=
  (atI x_vector x_729).bind fun i_751 =>
  (x_fact.s_1).bind fun a_753 =>
  (atI a_753 x_729).bind fun i_755 =>
  (if (decide (i_751 < i_755)) = true then some true else ((atI x_vector x_729).bind fun i_757 =>
  (x_fact.s_2).bind fun a_759 =>
  (atI a_759 x_729).bind fun i_761 =>
  some (decide (i_761 < i_757)))).bind fun b_764 =>
  if b_764 = true then
  some (Flow.ret false)
  else
  some (Flow.go ())
def F_law_holds_vector (x_fact : LFact) (x_vector : (List Int)) : Option Bool :=
  if (decide (x_fact.tag = ("parts" : Str))) = true then
  (x_fact.s_0).bind fun a_648 =>
  (forS (L_law_holds_vector_1 x_vector) a_648 ()).bind (Flow.thn (fun w_663 =>
  some true) (fun r => some r))
  else
  if (decide (x_fact.tag = ("norms" : Str))) = true then
  (x_fact.s_3).bind fun a_687 =>
  (F_law_inner x_vector x_vector).bind fun r_689 =>
  (if (decide (a_687 ≤ r_689)) = true then ((x_fact.s_4).bind fun a_691 =>
  some (decide (r_689 ≤ a_691))) else some false).bind fun b_699 =>
  some b_699
  else
  (x_fact.s_1).bind fun a_703 =>
  if (!decide ((a_703.length : Int) = (x_vector.length : Int))) = true then
  some false
  else
  if (decide (x_fact.tag = ("differ" : Str))) = true then
  (x_fact.s_1).bind fun a_707 =>
  (F_law_differing a_707 x_vector).bind fun r_709 =>
  (x_fact.s_4).bind fun a_711 =>
  some (decide (r_709 ≤ a_711))
  else
  (x_fact.s_2).bind fun a_715 =>
  if (!decide ((a_715.length : Int) = (x_vector.length : Int))) = true then
  some false
  else
  if (decide (x_fact.tag = ("cell" : Str))) = true then
  (x_fact.s_1).bind fun a_719 =>
  (F_law_distance x_vector a_719).bind fun r_721 =>
  (x_fact.s_2).bind fun a_723 =>
  (F_law_distance x_vector a_723).bind fun r_725 =>
  some (decide (r_721 ≤ r_725))
  else
  if RangeOk 0 (x_vector.length : Int) then
  (forS (L_law_holds_vector_2 x_fact x_vector) (rangeZ 0 (x_vector.length : Int)) ()).bind (Flow.thn (fun w_741 =>
  some true) (fun r => some r)) else none
def F_Part___eq__ (x_self : Part) (x_other : Part) : Bool :=
  (true && ((decide (x_self.start = x_other.start)) && ((decide (x_self.centre = x_other.centre)) && (decide (x_self.radius = x_other.radius)))))
def F_Parts___eq__ (x_self : Parts) (x_other : Any) : Option Bool :=
  (if (x_other.is_Parts) = true then ((x_other.p_parts).bind fun u_772 =>
  some (decide (x_self.parts = u_772.parts))) else some false).bind fun b_775 =>
  some b_775
def F_Cell___eq__ (x_self : Cell) (x_other : Any) : Option Bool :=
  (if (x_other.is_Cell) = true then ((x_other.p_cell).bind fun u_782 =>
  (if (decide (x_self.near = u_782.near)) = true then ((x_other.p_cell).bind fun u_784 =>
  some (decide (x_self.rival = u_784.rival))) else some false).bind fun b_787 =>
  some b_787) else some false).bind fun b_789 =>
  some b_789
def F_Box___eq__ (x_self : Box) (x_other : Any) : Option Bool :=
  (if (x_other.is_Box) = true then ((x_other.p_box).bind fun u_796 =>
  (if (decide (x_self.low = u_796.low)) = true then ((x_other.p_box).bind fun u_798 =>
  some (decide (x_self.high = u_798.high))) else some false).bind fun b_801 =>
  some b_801) else some false).bind fun b_803 =>
  some b_803
def F_Norms___eq__ (x_self : Norms) (x_other : Any) : Option Bool :=
  (if (x_other.is_Norms) = true then ((x_other.p_norms).bind fun u_810 =>
  (if (decide (x_self.low = u_810.low)) = true then ((x_other.p_norms).bind fun u_812 =>
  some (decide (x_self.high = u_812.high))) else some false).bind fun b_815 =>
  some b_815) else some false).bind fun b_817 =>
  some b_817
def F_Differ___eq__ (x_self : Differ) (x_other : Any) : Option Bool :=
  (if (x_other.is_Differ) = true then ((x_other.p_differ).bind fun u_824 =>
  (if (decide (x_self.centre = u_824.centre)) = true then ((x_other.p_differ).bind fun u_826 =>
  some (decide (x_self.most = u_826.most))) else some false).bind fun b_829 =>
  some b_829) else some false).bind fun b_831 =>
  some b_831
def A_law_1 (x : Any) (z0 : Record) : Option Bool := match x with
  | .parts y => F_Parts_holds y z0
  | .cell y => F_Cell_holds y z0
  | .box y => some (F_Box_holds y z0)
  | .norms y => F_Norms_holds y z0
  | .differ y => some (F_Differ_holds y z0)
  | .t _ => none
def L_law_1 (r_832 : ((List Int) × DS)) (x_record_836 : Record) (x_844 : Int) (w_843 : ((List LFact) × DS)) : Option (Flow Bool ((List LFact) × DS)) :=
  (F_law_vector_fact w_843.2 (r_832.1.length : Int)).bind fun r_872 =>
  (if (decide ((0 : Int) < (nxV r_872.2 (3 : Int)))) = true then
  (F_law_moved (nxS r_872.2 (3 : Int)) r_872.1 r_832.1).bind fun r_890 =>
  some (r_890.1, r_890.2)
  else
  some (r_872.1, (nxS r_872.2 (3 : Int))) : Option (LFact × DS)).bind fun w_878 =>
  if w_843.1.length < 16777216 then
  (F_law_made w_878.1).bind fun r_896 =>
  (A_law_1 r_896 x_record_836).bind fun r_898 =>
  (if (!true) = true then some true else ((F_law_holds_vector w_878.1 r_832.1).bind fun r_902 =>
  some (!decide (r_898 = r_902)))).bind fun b_905 =>
  if b_905 = true then
  some (Flow.ret false)
  else
  some (Flow.go ((w_843.1 ++ [w_878.1]), w_878.2)) else none
def A_law_2 (x : Any) (z0 : Any) : Option Bool := match x with
  | .parts y => F_Parts___eq__ y z0
  | .cell y => F_Cell___eq__ y z0
  | .box y => F_Box___eq__ y z0
  | .norms y => F_Norms___eq__ y z0
  | .differ y => F_Differ___eq__ y z0
  | .t _ => none
def A_law_3 (x : Any) (z0 : Any) : Option Bool := match x with
  | .parts y => F_Parts___eq__ y z0
  | .cell y => F_Cell___eq__ y z0
  | .box y => F_Box___eq__ y z0
  | .norms y => F_Norms___eq__ y z0
  | .differ y => F_Differ___eq__ y z0
  | .t _ => none
def L_law_3 (x_915 : LFact) (x_944 : LFact) (w_943 : Unit) : Option (Flow Bool Unit) :=
  (F_law_made x_915).bind fun r_974 =>
  (F_law_made x_944).bind fun r_976 =>
  (A_law_2 r_974 r_976).bind fun r_978 =>
  (if (!decide (r_978 = (PyData.eqv (d_LFact x_915) (d_LFact x_944)))) = true then some true else ((F_law_made x_915).bind fun r_980 =>
  (A_law_3 r_980 (Any.t x_944)).bind fun r_982 =>
  some r_982)).bind fun b_985 =>
  if b_985 = true then
  some (Flow.ret false)
  else
  some (Flow.go ())
def L_law_2 (w_859 : ((List LFact) × DS)) (i_909 : LFact) (x_915 : LFact) (w_914 : Unit) : Option (Flow Bool Unit) :=
  (forS (L_law_3 x_915) (w_859.1 ++ [i_909]) ()).bind (Flow.thn (fun w_960 =>
  some (Flow.go ())) (fun r => some (Flow.ret r)))
def F_law (ns : List Int) : Option Bool :=
  (F_law_vector (nxS (DS.mk ns 0 0) (4 : Int)) ((1 : Int) + (nxV (DS.mk ns 0 0) (4 : Int)))).bind fun r_832 =>
  (some (F_Record___init__ ("r" : Str) r_832.1 [] [])).bind fun x_record_836 =>
  (forS (L_law_1 r_832 x_record_836) (rangeZ 0 (5 : Int)) (([] : List LFact), r_832.2)).bind (Flow.thn (fun w_859 =>
  (atI w_859.1 (nxV w_859.2 (5 : Int))).bind fun i_909 =>
  if w_859.1.length < 16777216 then
  (forS (L_law_2 w_859 i_909) (w_859.1 ++ [i_909]) ()).bind (Flow.thn (fun w_930 =>
  some true) (fun r => some r)) else none) (fun r => some r))
-- MATH BEGINS
theorem eq_Part (x y : Part) : F_Part___eq__ x y = decide (x = y) := by
  cases x; cases y
  simp [F_Part___eq__, Bool.decide_and]
/-! data -/
theorem eqvs_iff {α : Type} {d : α → PyData} (h : ∀ x y, PyData.eqv (d x) (d y) = true ↔ x = y) : ∀ xs ys : List α, PyData.eqvAll (xs.map d) (ys.map d) = true ↔ xs = ys
  | [], [] => by simp [PyData.eqvAll]
  | [], _ :: _ => by simp [PyData.eqvAll]
  | _ :: _, [] => by simp [PyData.eqvAll]
  | x :: xs, y :: ys => by
    simp only [List.map_cons, PyData.eqvAll, Bool.and_eq_true, List.cons.injEq, h, eqvs_iff h xs ys]
theorem eqvI (xs ys : List Int) : PyData.eqvAll (xs.map PyData.int) (ys.map PyData.int) = true ↔ xs = ys := eqvs_iff (fun x y => by simp [PyData.eqv]) xs ys
theorem eqvP (xs ys : List (Int × List Int × Int)) : PyData.eqvAll (xs.map (dP3 PyData.int (dLst PyData.int) PyData.int)) (ys.map (dP3 PyData.int (dLst PyData.int) PyData.int)) = true ↔ xs = ys := eqvs_iff (fun x y => by
  obtain ⟨a, b, c⟩ := x
  obtain ⟨a', b', c'⟩ := y
  simp [dP3, dLst, PyData.eqv, PyData.eqvAll, eqvI]) xs ys
theorem eqv_LFact (x y : LFact) : PyData.eqv (d_LFact x) (d_LFact y) = decide (x = y) := by
  rw [Bool.eq_iff_iff, decide_eq_true_iff]
  cases x <;> cases y <;> simp [d_LFact, dP2, dP3, dLst, PyData.eqv, PyData.eqvAll, eqvI, eqvP, LFact.ne_parts_cell, LFact.ne_parts_box, LFact.ne_parts_norms, LFact.ne_parts_differ, LFact.ne_parts_range, LFact.ne_parts_values, LFact.ne_parts_counts, LFact.ne_cell_parts, LFact.ne_cell_box, LFact.ne_cell_norms, LFact.ne_cell_differ, LFact.ne_cell_range, LFact.ne_cell_values, LFact.ne_cell_counts, LFact.ne_box_parts, LFact.ne_box_cell, LFact.ne_box_norms, LFact.ne_box_differ, LFact.ne_box_range, LFact.ne_box_values, LFact.ne_box_counts, LFact.ne_norms_parts, LFact.ne_norms_cell, LFact.ne_norms_box, LFact.ne_norms_differ, LFact.ne_norms_range, LFact.ne_norms_values, LFact.ne_norms_counts, LFact.ne_differ_parts, LFact.ne_differ_cell, LFact.ne_differ_box, LFact.ne_differ_norms, LFact.ne_differ_range, LFact.ne_differ_values, LFact.ne_differ_counts, LFact.ne_range_parts, LFact.ne_range_cell, LFact.ne_range_box, LFact.ne_range_norms, LFact.ne_range_differ, LFact.ne_range_values, LFact.ne_range_counts, LFact.ne_values_parts, LFact.ne_values_cell, LFact.ne_values_box, LFact.ne_values_norms, LFact.ne_values_differ, LFact.ne_values_range, LFact.ne_values_counts, LFact.ne_counts_parts, LFact.ne_counts_cell, LFact.ne_counts_box, LFact.ne_counts_norms, LFact.ne_counts_differ, LFact.ne_counts_range, LFact.ne_counts_values]
/-! what is made -/
def mkPart (p : Int × List Int × Int) : Part := ⟨p.1, p.2.1, p.2.2⟩
def mk : LFact → Any
  | .k_parts a1 => .parts ⟨a1.map mkPart⟩
  | .k_cell a1 a2 => .cell ⟨a1, a2⟩
  | .k_box a1 a2 => .box ⟨a1, a2⟩
  | .k_norms a1 a2 => .norms ⟨a1, a2⟩
  | .k_differ a1 a2 => .differ ⟨a1, a2⟩
theorem made_eq (f : LFact) : F_law_made f = some (mk f) := by
  cases f <;> (unfold F_law_made; simp only [decide_true, decide_false, Bool.false_eq_true, if_true, if_false, TP.bsome, TP.bnone, eq_self, LFact.tag_parts, LFact.s_0_parts, LFact.s_1_parts, LFact.s_2_parts, LFact.s_3_parts, LFact.s_4_parts, LFact.tag_cell, LFact.s_0_cell, LFact.s_1_cell, LFact.s_2_cell, LFact.s_3_cell, LFact.s_4_cell, LFact.tag_box, LFact.s_0_box, LFact.s_1_box, LFact.s_2_box, LFact.s_3_box, LFact.s_4_box, LFact.tag_norms, LFact.s_0_norms, LFact.s_1_norms, LFact.s_2_norms, LFact.s_3_norms, LFact.s_4_norms, LFact.tag_differ, LFact.s_0_differ, LFact.s_1_differ, LFact.s_2_differ, LFact.s_3_differ, LFact.s_4_differ, LFact.ne_parts_cell, LFact.ne_parts_box, LFact.ne_parts_norms, LFact.ne_parts_differ, LFact.ne_parts_range, LFact.ne_parts_values, LFact.ne_parts_counts, LFact.ne_cell_parts, LFact.ne_cell_box, LFact.ne_cell_norms, LFact.ne_cell_differ, LFact.ne_cell_range, LFact.ne_cell_values, LFact.ne_cell_counts, LFact.ne_box_parts, LFact.ne_box_cell, LFact.ne_box_norms, LFact.ne_box_differ, LFact.ne_box_range, LFact.ne_box_values, LFact.ne_box_counts, LFact.ne_norms_parts, LFact.ne_norms_cell, LFact.ne_norms_box, LFact.ne_norms_differ, LFact.ne_norms_range, LFact.ne_norms_values, LFact.ne_norms_counts, LFact.ne_differ_parts, LFact.ne_differ_cell, LFact.ne_differ_box, LFact.ne_differ_norms, LFact.ne_differ_range, LFact.ne_differ_values, LFact.ne_differ_counts, LFact.ne_range_parts, LFact.ne_range_cell, LFact.ne_range_box, LFact.ne_range_norms, LFact.ne_range_differ, LFact.ne_range_values, LFact.ne_range_counts, LFact.ne_values_parts, LFact.ne_values_cell, LFact.ne_values_box, LFact.ne_values_norms, LFact.ne_values_differ, LFact.ne_values_range, LFact.ne_values_counts, LFact.ne_counts_parts, LFact.ne_counts_cell, LFact.ne_counts_box, LFact.ne_counts_norms, LFact.ne_counts_differ, LFact.ne_counts_range, LFact.ne_counts_values]; rfl)
theorem mkPart_inj (xs ys : List (Int × List Int × Int)) : (xs.map mkPart = ys.map mkPart) ↔ xs = ys := by
  constructor
  · intro e
    have := congrArg (List.map fun p : Part => (p.start, p.centre, p.radius)) e
    rw [List.map_map, List.map_map] at this
    have i : ∀ zs : List (Int × List Int × Int), zs.map ((fun p : Part => (p.start, p.centre, p.radius)) ∘ mkPart) = zs := fun zs => by
      rw [show (fun p : Part => (p.start, p.centre, p.radius)) ∘ mkPart = id from rfl, List.map_id]
    rwa [i, i] at this
  · intro e; rw [e]
theorem eq_made (f g : LFact) : A_law_2 (mk f) (mk g) = some (decide (f = g)) := by
  cases f <;> cases g <;> simp [mk, A_law_2, F_Parts___eq__, F_Cell___eq__, F_Box___eq__, F_Norms___eq__, F_Differ___eq__, Any.is_Parts, Any.is_Cell, Any.is_Box, Any.is_Norms, Any.is_Differ, Any.p_parts, Any.p_cell, Any.p_box, Any.p_norms, Any.p_differ, mkPart_inj]
  all_goals (split <;> simp_all)
theorem eq_tuple (f g : LFact) : A_law_3 (mk f) (.t g) = some false := by
  cases f <;> simp [mk, A_law_3, F_Parts___eq__, F_Cell___eq__, F_Box___eq__, F_Norms___eq__, F_Differ___eq__, Any.is_Parts, Any.is_Cell, Any.is_Box, Any.is_Norms, Any.is_Differ]
/-! sums -/
def VOk (b : Int) (v : List Int) : Prop := v.length ≤ 10 ∧ ∀ x ∈ v, -b ≤ x ∧ x ≤ b
theorem VOk.le {a b : Int} {v : List Int} (h : VOk a v) (l : a ≤ b) : VOk b v := ⟨h.1, fun x hx => by have := h.2 x hx; omega⟩
def sq (a b : List Int) : Int := ((a.zip b).map fun x => (x.1 - x.2) * (x.1 - x.2)).sum
def inn (a b : List Int) : Int := ((a.zip b).map fun x => x.1 * x.2).sum
def dif (a b : List Int) : Int := (((a.zip b).filter fun x => !decide (x.1 = x.2)).length : Int)
theorem cmul_of {b i j : Int} (hb : b < 2 ^ 60) (h : -b ≤ i ∧ i ≤ b) : CMul i j := Or.inl ⟨by omega, by omega⟩
theorem zip_mem {a b : List Int} {x : Int × Int} (h : x ∈ a.zip b) : x.1 ∈ a ∧ x.2 ∈ b := ⟨(List.of_mem_zip h).1, (List.of_mem_zip h).2⟩
theorem distance_eq {a b : List Int} (ha : VOk 4000 a) (hb : VOk 4000 b) : F_distance a b = some (sq a b) := by
  unfold F_distance
  rw [mapO_eq (g := fun x : Int × Int => (x.1 - x.2) * (x.1 - x.2)) fun x hx => by
    obtain ⟨h1, h2⟩ := zip_mem hx
    have := ha.2 _ h1
    have := hb.2 _ h2
    rw [if_pos (cmul_of (b := 8000) (by decide) (by omega))]]
  rfl
theorem inner_eq {a b : List Int} (ha : VOk 4000 a) : F_inner a b = some (inn a b) := by
  unfold F_inner
  rw [mapO_eq (g := fun x : Int × Int => x.1 * x.2) fun x hx => by
    obtain ⟨h1, h2⟩ := zip_mem hx
    rw [if_pos (cmul_of (b := 4000) (by decide) (ha.2 _ h1))]]
  rfl
theorem sum_loop {g : Int → Int → Int} {f : Int → Int → Option Int} {a b : List Int} (l : a.length = b.length) (hf : ∀ (n : Nat) (h : n < a.length) (h2 : n < b.length) t, f (n : Int) t = some (t + g a[n] b[n])) : forF f (rangeZ 0 (a.length : Int)) 0 = some ((a.zip b).map fun x => g x.1 x.2).sum := by
  obtain ⟨t, e, i⟩ := forF_rng (f := f) (fun n t => t = (((a.zip b).take n).map fun x => g x.1 x.2).sum) (m := (a.length : Int)) (b := 0) rfl (by
    rintro n t hn rfl
    have h1 : n < a.length := by omega
    have h2 : n < b.length := by omega
    refine ⟨_, hf n h1 h2 _, ?_⟩
    have hz : n < (a.zip b).length := by rw [List.length_zip]; omega
    rw [List.take_succ_eq_append_getElem hz, List.map_append, List.sum_append, List.getElem_zip]
    simp)
  rw [e]
  rw [i, Int.toNat_natCast, List.take_of_length_le (by rw [List.length_zip]; omega)]
theorem law_distance_eq {a b : List Int} (l : a.length = b.length) (ha : VOk 4000 a) (hb : VOk 4000 b) : F_law_distance a b = some (sq a b) := by
  unfold F_law_distance
  have := ha.1
  rw [if_pos (rangeOk_of (by omega) (by omega) (by omega) (by omega)), sum_loop (g := fun x y => (x - y) * (x - y)) l fun n h h2 t => by
    unfold L_law_distance_1
    have m1 := ha.2 _ (List.getElem_mem h)
    have m2 := hb.2 _ (List.getElem_mem h2)
    rw [TP.atI_nat (List.getElem?_eq_getElem h), bsome, TP.atI_nat (List.getElem?_eq_getElem h2), bsome, bsome, bsome, if_pos (cmul_of (b := 8000) (by decide) (by omega))]
    rfl]
  rfl
theorem law_inner_eq {a b : List Int} (l : a.length = b.length) (ha : VOk 4000 a) : F_law_inner a b = some (inn a b) := by
  unfold F_law_inner
  have := ha.1
  rw [if_pos (rangeOk_of (by omega) (by omega) (by omega) (by omega)), sum_loop (g := fun x y => x * y) l fun n h h2 t => by
    unfold L_law_inner_1
    rw [TP.atI_nat (List.getElem?_eq_getElem h), bsome, TP.atI_nat (List.getElem?_eq_getElem h2), bsome, if_pos (cmul_of (b := 4000) (by decide) (ha.2 _ (List.getElem_mem h)))]
    rfl]
  rfl
theorem differing_eq (a b : List Int) : F_differing a b = dif a b := by
  unfold F_differing dif
  rw [List.length_map]
theorem range_filter {α : Type} {q : Int → α → Bool} {d0 : Int} {d1 : α} : ∀ (l : List Int) (t : List α), l.length = t.length → ((rangeZ 0 (l.length : Int)).filter (fun k => q (l.getD k.toNat d0) (t.getD k.toNat d1))).length = ((l.zip t).filter (fun x => q x.1 x.2)).length := by
  have key : ∀ (l : List Int) (t : List α), l.length = t.length → (List.range l.length).countP (fun k => q (l.getD k d0) (t.getD k d1)) = (l.zip t).countP (fun x => q x.1 x.2) := fun l => by
    induction l with
    | nil => intro t h; cases t with
      | nil => rfl
      | cons y t => cases h
    | cons x l ih =>
      intro t h
      cases t with
      | nil => cases h
      | cons y t =>
        rw [List.length_cons, List.range_succ_eq_map, List.countP_cons, List.countP_map, List.zip_cons_cons, List.countP_cons, ← ih t (by simpa using h)]
        rfl
  intro l t h
  rw [← List.countP_eq_length_filter, ← List.countP_eq_length_filter, ← key l t h]
  unfold rangeZ
  rw [List.countP_map, Int.sub_zero, Int.toNat_natCast]
  congr 1
  funext k
  show q (l.getD ((0 : Int) + (k : Int)).toNat d0) (t.getD ((0 : Int) + (k : Int)).toNat d1) = _
  rw [show ((0 : Int) + (k : Int)).toNat = k by omega]
theorem getD_at {a : List Int} {k : Int} (h0 : 0 ≤ k) (h : k < a.length) : atI a k = some (a.getD k.toNat 0) := by
  rw [atI_of h0]
  have : k.toNat < a.length := by omega
  rw [List.getElem?_eq_getElem this, List.getD_eq_getElem?_getD, List.getElem?_eq_getElem this]
  rfl
theorem law_differing_eq {a b : List Int} (l : a.length = b.length) (ha : a.length ≤ 100) : F_law_differing a b = some (dif a b) := by
  unfold F_law_differing dif
  rw [if_pos (rangeOk_of (by omega) (by omega) (by omega) (by omega))]
  rw [fmO_eq (p := fun k : Int => !decide (a.getD k.toNat 0 = b.getD k.toNat 0)) (g := fun k => k) fun k hk => by
    obtain ⟨x, y⟩ := rangeZ_mem hk
    rw [getD_at x y, bsome, getD_at x (by omega), bsome]
    split <;> rfl]
  rw [bsome, List.length_map, range_filter (q := fun x y => !decide (x = y)) a b l]
theorem range_zip {α β : Type} {q : α → β → Bool} {a : α} {b : β} : ∀ (l : List α) (t : List β), l.length = t.length → (rangeZ 0 (t.length : Int)).all (fun k => q (l.getD k.toNat a) (t.getD k.toNat b)) = (l.zip t).all (fun x => q x.1 x.2) := by
  have key : ∀ (l : List α) (t : List β), l.length = t.length → (List.range t.length).all (fun k => q (l.getD k a) (t.getD k b)) = (l.zip t).all (fun x => q x.1 x.2) := fun l => by
    induction l with
    | nil => intro t h; cases t with
      | nil => rfl
      | cons y t => cases h
    | cons x l ih =>
      intro t h
      cases t with
      | nil => cases h
      | cons y t =>
        rw [List.length_cons, List.range_succ_eq_map, List.all_cons, List.all_map, List.zip_cons_cons, List.all_cons, ← ih t (by simpa using h)]
        rfl
  intro l t h
  rw [← key l t h]
  have := rangeZ_map t.length (fun k => q (l.getD k.toNat a) (t.getD k.toNat b))
  have e : ∀ (xs : List Int) (f : Int → Bool), xs.all f = (xs.map f).all id := fun xs f => by rw [List.all_map]; rfl
  rw [e, this, List.all_map]
  rfl
/-! what holds -/
def FOk (b : Int) : LFact → Prop
  | .k_parts a1 => ∀ p ∈ a1, VOk b p.2.1
  | .k_cell a1 a2 => VOk b a1 ∧ VOk b a2
  | .k_box a1 a2 => VOk b a1 ∧ VOk b a2
  | .k_norms _ _ => True
  | .k_differ a1 _ => VOk b a1
def near (v : List Int) (p : Int × List Int × Int) : Bool := decide (0 ≤ p.1) && (decide (p.1 + (p.2.1.length : Int) ≤ (v.length : Int)) && decide (sq p.2.1 (cutA v (some p.1) (some (p.1 + (p.2.1.length : Int)))) ≤ p.2.2))
theorem cut_ok {v : List Int} {b a c : Int} (hv : VOk b v) (h : 0 ≤ a) (h2 : a ≤ c) (h3 : c ≤ v.length) : VOk b (cutA v (some a) (some c)) ∧ (cutA v (some a) (some c)).length = (c - a).toNat := by
  rw [cutA_to v h h2 h3]
  have l : ((v.drop a.toNat).take (c - a).toNat).length = (c - a).toNat := by
    rw [List.length_take, List.length_drop]
    omega
  refine ⟨⟨?_, fun x hx => hv.2 x (List.mem_of_mem_drop (List.mem_of_mem_take hx))⟩, l⟩
  have := hv.1
  rw [l]
  omega
theorem near_eq {v : List Int} (hv : VOk 4000 v) (p : Int × List Int × Int) (hp : VOk 4000 p.2.1) : F_is_near (mkPart p) v = some (near v p) := by
  unfold F_is_near F_ends_within F_numbers_at F_Part_after near mkPart
  dsimp only
  by_cases h1 : 0 ≤ p.1
  · by_cases h2 : p.1 + (p.2.1.length : Int) ≤ (v.length : Int)
    · rw [if_pos (by simp [h1, h2]), distance_eq hp (cut_ok hv h1 (by omega) h2).1]
      simp [h1, h2]
    · rw [if_neg (by simp [h2])]
      simp [h2]
  · rw [if_neg (by simp [h1])]
    simp [h1]
theorem near_turn {v : List Int} (hv : VOk 4000 v) (p : Int × List Int × Int) (hp : VOk 4000 p.2.1) : L_law_holds_vector_1 v p () = some (if near v p = true then .go () else .ret false) := by
  unfold L_law_holds_vector_1 near
  by_cases h1 : 0 ≤ p.1
  · by_cases h2 : p.1 + (p.2.1.length : Int) ≤ (v.length : Int)
    · have c := cut_ok hv h1 (show p.1 ≤ p.1 + (p.2.1.length : Int) by omega) h2
      rw [if_neg (by simp; omega), law_distance_eq (by rw [c.2]; omega) hp c.1, bsome]
      generalize sq _ _ = r
      by_cases h3 : p.2.2 < r
      · rw [if_pos (decide_eq_true h3), if_neg (by simp; omega)]
      · rw [if_neg (fun z => h3 (of_decide_eq_true z)), if_pos (by simp; omega)]
    · rw [if_pos (by simp; omega), if_neg (by simp [h2])]
  · rw [if_pos (by simp; omega), if_neg (by simp [h1])]
theorem holds_ok (v : List Int) (hv : VOk 4000 v) (f : LFact) (hf : FOk 4000 f) : ∃ b, A_law_1 (mk f) ⟨("r" : Str), v, [], []⟩ = some b ∧ F_law_holds_vector f v = some b := by
  have lv := hv.1
  cases f with
  | k_parts a1 =>
    have hf : ∀ p ∈ a1, VOk 4000 p.2.1 := hf
    refine ⟨a1.all (near v), ?_, ?_⟩
    · show F_Parts_holds ⟨a1.map mkPart⟩ _ = _
      unfold F_Parts_holds
      dsimp only
      rw [mapO_eq (g := fun y : Part => near v (y.start, y.centre, y.radius)) fun y hy => by
        obtain ⟨p, hp, rfl⟩ := List.mem_map.mp hy
        rw [near_eq hv p (hf p hp)]
        rfl]
      rw [bsome, List.map_map, List.all_map]
      rfl
    · unfold F_law_holds_vector
      simp only [decide_true, decide_false, Bool.false_eq_true, if_true, if_false, TP.bsome, TP.bnone, eq_self, LFact.tag_parts, LFact.s_0_parts, LFact.s_1_parts, LFact.s_2_parts, LFact.s_3_parts, LFact.s_4_parts, LFact.tag_cell, LFact.s_0_cell, LFact.s_1_cell, LFact.s_2_cell, LFact.s_3_cell, LFact.s_4_cell, LFact.tag_box, LFact.s_0_box, LFact.s_1_box, LFact.s_2_box, LFact.s_3_box, LFact.s_4_box, LFact.tag_norms, LFact.s_0_norms, LFact.s_1_norms, LFact.s_2_norms, LFact.s_3_norms, LFact.s_4_norms, LFact.tag_differ, LFact.s_0_differ, LFact.s_1_differ, LFact.s_2_differ, LFact.s_3_differ, LFact.s_4_differ, LFact.ne_parts_cell, LFact.ne_parts_box, LFact.ne_parts_norms, LFact.ne_parts_differ, LFact.ne_parts_range, LFact.ne_parts_values, LFact.ne_parts_counts, LFact.ne_cell_parts, LFact.ne_cell_box, LFact.ne_cell_norms, LFact.ne_cell_differ, LFact.ne_cell_range, LFact.ne_cell_values, LFact.ne_cell_counts, LFact.ne_box_parts, LFact.ne_box_cell, LFact.ne_box_norms, LFact.ne_box_differ, LFact.ne_box_range, LFact.ne_box_values, LFact.ne_box_counts, LFact.ne_norms_parts, LFact.ne_norms_cell, LFact.ne_norms_box, LFact.ne_norms_differ, LFact.ne_norms_range, LFact.ne_norms_values, LFact.ne_norms_counts, LFact.ne_differ_parts, LFact.ne_differ_cell, LFact.ne_differ_box, LFact.ne_differ_norms, LFact.ne_differ_range, LFact.ne_differ_values, LFact.ne_differ_counts, LFact.ne_range_parts, LFact.ne_range_cell, LFact.ne_range_box, LFact.ne_range_norms, LFact.ne_range_differ, LFact.ne_range_values, LFact.ne_range_counts, LFact.ne_values_parts, LFact.ne_values_cell, LFact.ne_values_box, LFact.ne_values_norms, LFact.ne_values_differ, LFact.ne_values_range, LFact.ne_values_counts, LFact.ne_counts_parts, LFact.ne_counts_cell, LFact.ne_counts_box, LFact.ne_counts_norms, LFact.ne_counts_differ, LFact.ne_counts_range, LFact.ne_counts_values]
      rw [forS_all (p := near v) (r := false) fun p hp => near_turn hv p (hf p hp)]
      cases a1.all (near v) <;> rfl
  | k_cell a1 a2 =>
    obtain ⟨h1, h2⟩ : VOk 4000 a1 ∧ VOk 4000 a2 := hf
    refine ⟨decide (a1.length = v.length) && (decide (a2.length = v.length) && decide (sq v a1 ≤ sq v a2)), ?_, ?_⟩
    · show F_Cell_holds ⟨a1, a2⟩ _ = _
      unfold F_Cell_holds F_have_size
      dsimp only
      by_cases c1 : a1.length = v.length
      · by_cases c2 : a2.length = v.length
        · rw [if_neg (by simp [c1, c2]), distance_eq hv h1, distance_eq hv h2]
          simp [c1, c2]
        · rw [if_pos (by simp; omega)]
          simp [c2]
      · rw [if_pos (by simp; omega)]
        simp [c1]
    · unfold F_law_holds_vector
      simp only [decide_true, decide_false, Bool.false_eq_true, if_true, if_false, TP.bsome, TP.bnone, eq_self, LFact.tag_parts, LFact.s_0_parts, LFact.s_1_parts, LFact.s_2_parts, LFact.s_3_parts, LFact.s_4_parts, LFact.tag_cell, LFact.s_0_cell, LFact.s_1_cell, LFact.s_2_cell, LFact.s_3_cell, LFact.s_4_cell, LFact.tag_box, LFact.s_0_box, LFact.s_1_box, LFact.s_2_box, LFact.s_3_box, LFact.s_4_box, LFact.tag_norms, LFact.s_0_norms, LFact.s_1_norms, LFact.s_2_norms, LFact.s_3_norms, LFact.s_4_norms, LFact.tag_differ, LFact.s_0_differ, LFact.s_1_differ, LFact.s_2_differ, LFact.s_3_differ, LFact.s_4_differ, LFact.ne_parts_cell, LFact.ne_parts_box, LFact.ne_parts_norms, LFact.ne_parts_differ, LFact.ne_parts_range, LFact.ne_parts_values, LFact.ne_parts_counts, LFact.ne_cell_parts, LFact.ne_cell_box, LFact.ne_cell_norms, LFact.ne_cell_differ, LFact.ne_cell_range, LFact.ne_cell_values, LFact.ne_cell_counts, LFact.ne_box_parts, LFact.ne_box_cell, LFact.ne_box_norms, LFact.ne_box_differ, LFact.ne_box_range, LFact.ne_box_values, LFact.ne_box_counts, LFact.ne_norms_parts, LFact.ne_norms_cell, LFact.ne_norms_box, LFact.ne_norms_differ, LFact.ne_norms_range, LFact.ne_norms_values, LFact.ne_norms_counts, LFact.ne_differ_parts, LFact.ne_differ_cell, LFact.ne_differ_box, LFact.ne_differ_norms, LFact.ne_differ_range, LFact.ne_differ_values, LFact.ne_differ_counts, LFact.ne_range_parts, LFact.ne_range_cell, LFact.ne_range_box, LFact.ne_range_norms, LFact.ne_range_differ, LFact.ne_range_values, LFact.ne_range_counts, LFact.ne_values_parts, LFact.ne_values_cell, LFact.ne_values_box, LFact.ne_values_norms, LFact.ne_values_differ, LFact.ne_values_range, LFact.ne_values_counts, LFact.ne_counts_parts, LFact.ne_counts_cell, LFact.ne_counts_box, LFact.ne_counts_norms, LFact.ne_counts_differ, LFact.ne_counts_range, LFact.ne_counts_values]
      by_cases c1 : a1.length = v.length
      · by_cases c2 : a2.length = v.length
        · rw [if_neg (by simp [c1]), if_neg (by simp [c2]), law_distance_eq (by omega) hv h1, bsome, law_distance_eq (by omega) hv h2]
          simp [c1, c2]
        · rw [if_neg (by simp [c1]), if_pos (by simp; omega)]
          simp [c2]
      · rw [if_pos (by simp; omega)]
        simp [c1]
  | k_box a1 a2 =>
    refine ⟨decide (a1.length = v.length) && (decide (a2.length = v.length) && (a1.zip (v.zip a2)).all fun x => decide (x.1 ≤ x.2.1) && decide (x.2.1 ≤ x.2.2)), ?_, ?_⟩
    · show some (F_Box_holds ⟨a1, a2⟩ _) = _
      unfold F_Box_holds F_have_size
      dsimp only
      by_cases c1 : a1.length = v.length
      · by_cases c2 : a2.length = v.length
        · rw [if_neg (by simp [c1, c2]), List.all_map, decide_eq_true c1, decide_eq_true c2]
          rfl
        · rw [if_pos (by simp; omega)]
          simp [c2]
      · rw [if_pos (by simp; omega)]
        simp [c1]
    · unfold F_law_holds_vector
      simp only [decide_true, decide_false, Bool.false_eq_true, if_true, if_false, TP.bsome, TP.bnone, eq_self, LFact.tag_parts, LFact.s_0_parts, LFact.s_1_parts, LFact.s_2_parts, LFact.s_3_parts, LFact.s_4_parts, LFact.tag_cell, LFact.s_0_cell, LFact.s_1_cell, LFact.s_2_cell, LFact.s_3_cell, LFact.s_4_cell, LFact.tag_box, LFact.s_0_box, LFact.s_1_box, LFact.s_2_box, LFact.s_3_box, LFact.s_4_box, LFact.tag_norms, LFact.s_0_norms, LFact.s_1_norms, LFact.s_2_norms, LFact.s_3_norms, LFact.s_4_norms, LFact.tag_differ, LFact.s_0_differ, LFact.s_1_differ, LFact.s_2_differ, LFact.s_3_differ, LFact.s_4_differ, LFact.ne_parts_cell, LFact.ne_parts_box, LFact.ne_parts_norms, LFact.ne_parts_differ, LFact.ne_parts_range, LFact.ne_parts_values, LFact.ne_parts_counts, LFact.ne_cell_parts, LFact.ne_cell_box, LFact.ne_cell_norms, LFact.ne_cell_differ, LFact.ne_cell_range, LFact.ne_cell_values, LFact.ne_cell_counts, LFact.ne_box_parts, LFact.ne_box_cell, LFact.ne_box_norms, LFact.ne_box_differ, LFact.ne_box_range, LFact.ne_box_values, LFact.ne_box_counts, LFact.ne_norms_parts, LFact.ne_norms_cell, LFact.ne_norms_box, LFact.ne_norms_differ, LFact.ne_norms_range, LFact.ne_norms_values, LFact.ne_norms_counts, LFact.ne_differ_parts, LFact.ne_differ_cell, LFact.ne_differ_box, LFact.ne_differ_norms, LFact.ne_differ_range, LFact.ne_differ_values, LFact.ne_differ_counts, LFact.ne_range_parts, LFact.ne_range_cell, LFact.ne_range_box, LFact.ne_range_norms, LFact.ne_range_differ, LFact.ne_range_values, LFact.ne_range_counts, LFact.ne_values_parts, LFact.ne_values_cell, LFact.ne_values_box, LFact.ne_values_norms, LFact.ne_values_differ, LFact.ne_values_range, LFact.ne_values_counts, LFact.ne_counts_parts, LFact.ne_counts_cell, LFact.ne_counts_box, LFact.ne_counts_norms, LFact.ne_counts_differ, LFact.ne_counts_range, LFact.ne_counts_values]
      by_cases c1 : a1.length = v.length
      · by_cases c2 : a2.length = v.length
        · rw [if_neg (by simp [c1]), if_neg (by simp [c2]), if_pos (rangeOk_of (by omega) (by omega) (by omega) (by omega))]
          have hz : (v.zip a2).length = v.length := by rw [List.length_zip]; omega
          rw [forS_all (p := fun k => (fun (x : Int) (y : Int × Int) => decide (x ≤ y.1) && decide (y.1 ≤ y.2)) (a1.getD k.toNat 0) ((v.zip a2).getD k.toNat (0, 0))) (r := false) fun k hk => by
            obtain ⟨x, y⟩ := rangeZ_mem hk
            obtain ⟨n, rfl⟩ := Int.eq_ofNat_of_zero_le x
            have hn : n < v.length := by omega
            have g1 : n < a1.length := by omega
            have g2 : n < a2.length := by omega
            have gz : n < (v.zip a2).length := by omega
            unfold L_law_holds_vector_2
            simp only [LFact.s_1_box, LFact.s_2_box, bsome]
            rw [Int.toNat_natCast, List.getD_eq_getElem?_getD, List.getD_eq_getElem?_getD, List.getElem?_eq_getElem g1, List.getElem?_eq_getElem gz, List.getElem_zip, TP.atI_nat (List.getElem?_eq_getElem hn), TP.atI_nat (List.getElem?_eq_getElem g1), TP.atI_nat (List.getElem?_eq_getElem g2)]
            simp only [bsome, Option.getD_some]
            by_cases q1 : v[n] < a1[n]
            · have : ¬ a1[n] ≤ v[n] := by omega
              simp [q1, this]
            · have q1' : a1[n] ≤ v[n] := by omega
              by_cases q2 : a2[n] < v[n]
              · have : ¬ v[n] ≤ a2[n] := by omega
                simp [q1, q2, this]
              · have q2' : v[n] ≤ a2[n] := by omega
                simp [q1, q2, q1', q2']]
          rw [← hz, range_zip (q := fun (x : Int) (y : Int × Int) => decide (x ≤ y.1) && decide (y.1 ≤ y.2)) a1 (v.zip a2) (by omega), decide_eq_true (show a1.length = (v.zip a2).length by omega), decide_eq_true (show a2.length = (v.zip a2).length by omega), Bool.true_and, Bool.true_and]
          cases (a1.zip (v.zip a2)).all _ <;> rfl
        · rw [if_neg (by simp [c1]), if_pos (by simp; omega)]
          simp [c2]
      · rw [if_pos (by simp; omega)]
        simp [c1]
  | k_norms a1 a2 =>
    refine ⟨decide (a1 ≤ inn v v) && decide (inn v v ≤ a2), ?_, ?_⟩
    · show F_Norms_holds ⟨a1, a2⟩ _ = _
      unfold F_Norms_holds F_norm
      dsimp only
      rw [inner_eq hv]
      rfl
    · unfold F_law_holds_vector
      simp only [decide_true, decide_false, Bool.false_eq_true, if_true, if_false, TP.bsome, TP.bnone, eq_self, LFact.tag_parts, LFact.s_0_parts, LFact.s_1_parts, LFact.s_2_parts, LFact.s_3_parts, LFact.s_4_parts, LFact.tag_cell, LFact.s_0_cell, LFact.s_1_cell, LFact.s_2_cell, LFact.s_3_cell, LFact.s_4_cell, LFact.tag_box, LFact.s_0_box, LFact.s_1_box, LFact.s_2_box, LFact.s_3_box, LFact.s_4_box, LFact.tag_norms, LFact.s_0_norms, LFact.s_1_norms, LFact.s_2_norms, LFact.s_3_norms, LFact.s_4_norms, LFact.tag_differ, LFact.s_0_differ, LFact.s_1_differ, LFact.s_2_differ, LFact.s_3_differ, LFact.s_4_differ, LFact.ne_parts_cell, LFact.ne_parts_box, LFact.ne_parts_norms, LFact.ne_parts_differ, LFact.ne_parts_range, LFact.ne_parts_values, LFact.ne_parts_counts, LFact.ne_cell_parts, LFact.ne_cell_box, LFact.ne_cell_norms, LFact.ne_cell_differ, LFact.ne_cell_range, LFact.ne_cell_values, LFact.ne_cell_counts, LFact.ne_box_parts, LFact.ne_box_cell, LFact.ne_box_norms, LFact.ne_box_differ, LFact.ne_box_range, LFact.ne_box_values, LFact.ne_box_counts, LFact.ne_norms_parts, LFact.ne_norms_cell, LFact.ne_norms_box, LFact.ne_norms_differ, LFact.ne_norms_range, LFact.ne_norms_values, LFact.ne_norms_counts, LFact.ne_differ_parts, LFact.ne_differ_cell, LFact.ne_differ_box, LFact.ne_differ_norms, LFact.ne_differ_range, LFact.ne_differ_values, LFact.ne_differ_counts, LFact.ne_range_parts, LFact.ne_range_cell, LFact.ne_range_box, LFact.ne_range_norms, LFact.ne_range_differ, LFact.ne_range_values, LFact.ne_range_counts, LFact.ne_values_parts, LFact.ne_values_cell, LFact.ne_values_box, LFact.ne_values_norms, LFact.ne_values_differ, LFact.ne_values_range, LFact.ne_values_counts, LFact.ne_counts_parts, LFact.ne_counts_cell, LFact.ne_counts_box, LFact.ne_counts_norms, LFact.ne_counts_differ, LFact.ne_counts_range, LFact.ne_counts_values]
      rw [law_inner_eq rfl hv, bsome]
      by_cases c : a1 ≤ inn v v <;> simp [c]
  | k_differ a1 a2 =>
    have hf : VOk 4000 a1 := hf
    refine ⟨decide (a1.length = v.length) && decide (dif a1 v ≤ a2), ?_, ?_⟩
    · show some (F_Differ_holds ⟨a1, a2⟩ _) = _
      unfold F_Differ_holds
      dsimp only
      rw [differing_eq]
      congr 2
      exact decide_eq_decide.mpr (by omega)
    · unfold F_law_holds_vector
      simp only [decide_true, decide_false, Bool.false_eq_true, if_true, if_false, TP.bsome, TP.bnone, eq_self, LFact.tag_parts, LFact.s_0_parts, LFact.s_1_parts, LFact.s_2_parts, LFact.s_3_parts, LFact.s_4_parts, LFact.tag_cell, LFact.s_0_cell, LFact.s_1_cell, LFact.s_2_cell, LFact.s_3_cell, LFact.s_4_cell, LFact.tag_box, LFact.s_0_box, LFact.s_1_box, LFact.s_2_box, LFact.s_3_box, LFact.s_4_box, LFact.tag_norms, LFact.s_0_norms, LFact.s_1_norms, LFact.s_2_norms, LFact.s_3_norms, LFact.s_4_norms, LFact.tag_differ, LFact.s_0_differ, LFact.s_1_differ, LFact.s_2_differ, LFact.s_3_differ, LFact.s_4_differ, LFact.ne_parts_cell, LFact.ne_parts_box, LFact.ne_parts_norms, LFact.ne_parts_differ, LFact.ne_parts_range, LFact.ne_parts_values, LFact.ne_parts_counts, LFact.ne_cell_parts, LFact.ne_cell_box, LFact.ne_cell_norms, LFact.ne_cell_differ, LFact.ne_cell_range, LFact.ne_cell_values, LFact.ne_cell_counts, LFact.ne_box_parts, LFact.ne_box_cell, LFact.ne_box_norms, LFact.ne_box_differ, LFact.ne_box_range, LFact.ne_box_values, LFact.ne_box_counts, LFact.ne_norms_parts, LFact.ne_norms_cell, LFact.ne_norms_box, LFact.ne_norms_differ, LFact.ne_norms_range, LFact.ne_norms_values, LFact.ne_norms_counts, LFact.ne_differ_parts, LFact.ne_differ_cell, LFact.ne_differ_box, LFact.ne_differ_norms, LFact.ne_differ_range, LFact.ne_differ_values, LFact.ne_differ_counts, LFact.ne_range_parts, LFact.ne_range_cell, LFact.ne_range_box, LFact.ne_range_norms, LFact.ne_range_differ, LFact.ne_range_values, LFact.ne_range_counts, LFact.ne_values_parts, LFact.ne_values_cell, LFact.ne_values_box, LFact.ne_values_norms, LFact.ne_values_differ, LFact.ne_values_range, LFact.ne_values_counts, LFact.ne_counts_parts, LFact.ne_counts_cell, LFact.ne_counts_box, LFact.ne_counts_norms, LFact.ne_counts_differ, LFact.ne_counts_range, LFact.ne_counts_values]
      by_cases c1 : a1.length = v.length
      · rw [if_neg (by simp [c1]), law_differing_eq c1 (by omega)]
        simp [c1]
      · rw [if_pos (by simp; omega)]
        simp [c1]

/-! what is drawn -/
theorem nx_b (s : DS) {m : Int} (h : 0 < m) : 0 ≤ nxV s m ∧ nxV s m < m := ⟨nx_ge s h, nx_lt s h⟩
theorem vec_ex (s : DS) (size : Int) (h0 : 0 ≤ size) (h1 : size ≤ 10) : ∃ v s', F_law_vector s size = some (v, s') ∧ (v.length : Int) = size ∧ VOk 300 v := by
  unfold F_law_vector
  have a := nx_b s (m := 3) (by decide)
  obtain ⟨sp, e, hm⟩ := atI_lit (xs := [(2 : Int), (6 : Int), (300 : Int)]) a.1 a.2
  have hs : 0 < sp ∧ sp ≤ 300 := by
    simp only [List.mem_cons, List.not_mem_nil, or_false] at hm
    omega
  rw [e, bsome, if_pos (rangeOk_of (by omega) (by omega) (by omega) (by omega))]
  obtain ⟨ys, s', e2, l, hy⟩ := mapS_mem (f := fun (x_16 : Int) (s_17 : DS) => (if NxOk (((2 : Int) * sp) + (1 : Int)) then some (((nxV s_17 (((2 : Int) * sp) + (1 : Int))) - sp), (nxS s_17 (((2 : Int) * sp) + (1 : Int)))) else none : Option (Int × DS))) (R := fun y => -300 ≤ y ∧ y ≤ 300) (xs := rangeZ 0 size) (nxS s 3) (fun x _ s => by
    have b := nx_b s (m := 2 * sp + 1) (by omega)
    rw [if_pos (nxOk_of (by omega) (by omega))]
    exact ⟨_, _, rfl, by omega, by omega⟩)
  rw [e2]
  rw [rangeZ_len] at l
  exact ⟨ys, s', rfl, by omega, by omega, hy⟩
theorem parts_turn (size : Int) (h0 : 1 ≤ size) (h1 : size ≤ 4) (n : Nat) (hn : n < 3) (ps : List (Int × List Int × Int)) (place : Int) (s : DS) (hp : -1 ≤ place) (hl : ps.length = n) (k : Int) :
    ∃ p place' s', L_law_parts_1 size k (ps, place, s) = some (ps ++ [p], place', s') ∧ -1 ≤ place' ∧ VOk 300 p.2.1 := by
  unfold L_law_parts_1
  dsimp only
  have a := nx_b s (m := 3) (by decide)
  have hlong : ∃ long, (if ((decide ((nxV (nxS s (3 : Int)) (3 : Int)) = (0 : Int))) && (decide (place < size))) = true then some (size - place) else some (nxV s (3 : Int)) : Option Int) = some long ∧ 0 ≤ long ∧ long ≤ 10 := by
    by_cases c : ((decide ((nxV (nxS s (3 : Int)) (3 : Int)) = (0 : Int))) && (decide (place < size))) = true
    · rw [if_pos c]
      have : place < size := by simpa using (Bool.and_eq_true_iff.mp c).2
      exact ⟨_, rfl, by omega, by omega⟩
    · rw [if_neg c]
      exact ⟨_, rfl, by omega, by omega⟩
  obtain ⟨long, e, l0, l1⟩ := hlong
  rw [e, bsome]
  obtain ⟨v, s2, e2, lv, hv⟩ := vec_ex (nxS (nxS s 3) 3) long l0 l1
  rw [e2, bsome]
  dsimp only
  have b := nx_b s2 (m := 40) (by decide)
  rw [if_pos (cmul_of (b := 40) (by decide) (by omega)), if_pos (by omega)]
  have c := nx_b (nxS (nxS s2 40) 40) (m := 5) (by decide)
  obtain ⟨i, e3, _⟩ := atI_lit (xs := [(0 : Int), (0 : Int), (0 : Int), (1 : Int), (-(1 : Int))]) c.1 c.2
  rw [e3, bsome, bsome]
  by_cases q : place + long + i < 0
  · rw [if_pos (decide_eq_true q)]
    exact ⟨_, _, _, rfl, by omega, hv⟩
  · rw [if_neg (fun z => q (of_decide_eq_true z))]
    exact ⟨_, _, _, rfl, by omega, hv⟩
theorem parts_ex (s : DS) (size : Int) (h0 : 1 ≤ size) (h1 : size ≤ 4) : ∃ ps s', F_law_parts s size = some (ps, s') ∧ ps.length ≤ 3 ∧ ∀ p ∈ ps, VOk 300 p.2.1 := by
  unfold F_law_parts
  rw [bsome]
  have a := nx_b (nxS s 3) (m := 4) (by decide)
  have a' := nx_b s (m := 3) (by decide)
  obtain ⟨i, e, hm⟩ := atI_lit (xs := [(0 : Int), (0 : Int), (1 : Int), nxV s 3]) a.1 a.2
  have hi : 0 ≤ i := by
    simp only [List.mem_cons, List.not_mem_nil, or_false] at hm
    omega
  rw [e, bsome]
  have hpl : ∃ place, (if (decide ((nxV (nxS (nxS s (3 : Int)) (4 : Int)) (9 : Int)) = (0 : Int))) = true then some (-(1 : Int)) else some i : Option Int) = some place ∧ -1 ≤ place := by
    split
    · exact ⟨_, rfl, by omega⟩
    · exact ⟨_, rfl, by omega⟩
  obtain ⟨place, e1, h2⟩ := hpl
  rw [e1, bsome]
  have b := nx_b (nxS (nxS (nxS s 3) 4) 9) (m := 3) (by decide)
  rw [if_pos (rangeOk_of (by omega) (by omega) (by omega) (by omega))]
  obtain ⟨⟨ps, pl, s'⟩, e2, j1, _, j3⟩ := forF_rng (f := L_law_parts_1 size) (fun n b => b.1.length = n ∧ -1 ≤ b.2.1 ∧ ∀ p ∈ b.1, VOk 300 p.2.1) (m := 1 + nxV (nxS (nxS (nxS s 3) 4) 9) 3) (b := ([], place, nxS (nxS (nxS (nxS s 3) 4) 9) 3)) ⟨rfl, h2, fun _ h => nomatch h⟩ (by
    rintro n ⟨ps, pl, s1⟩ hn ⟨q1, q2, q3⟩
    dsimp only at q1 q2 q3
    obtain ⟨p, pl', s', e, g1, g2⟩ := parts_turn size h0 h1 n (by omega) ps pl s1 q2 q1 (n : Int)
    refine ⟨_, e, by dsimp only; rw [List.length_append, q1]; rfl, g1, fun x hx => ?_⟩
    rcases List.mem_append.mp hx with hx | hx
    · exact q3 x hx
    · rw [List.mem_singleton.mp hx]; exact g2)
  rw [e2]
  exact ⟨ps, s', rfl, by dsimp only at j1; omega, j3⟩
theorem size_ex (s : DS) (size : Int) (h0 : 1 ≤ size) (h1 : size ≤ 4) : ∃ n s', F_law_size s size = some (n, s') ∧ 1 ≤ n ∧ n ≤ 5 := by
  unfold F_law_size
  have a := nx_b s (m := 4) (by decide)
  obtain ⟨i, e, hm⟩ := atI_lit (xs := [size, size, size, size + 1]) a.1 a.2
  rw [e]
  simp only [List.mem_cons, List.not_mem_nil, or_false] at hm
  exact ⟨_, _, rfl, by omega, by omega⟩
def POk : LFact → Prop
  | .k_parts a1 => a1.length ≤ 3
  | _ => True
theorem fact_ex (s : DS) (size : Int) (h0 : 1 ≤ size) (h1 : size ≤ 4) : ∃ f s', F_law_vector_fact s size = some (f, s') ∧ FOk 400 f ∧ POk f := by
  unfold F_law_vector_fact
  split
  · obtain ⟨ps, s', e, l, hp⟩ := parts_ex (nxS s 5) size h0 h1
    rw [e]
    exact ⟨_, _, rfl, fun p h => (hp p h).le (by decide), l⟩
  split
  · obtain ⟨n, s1, e1, n0, n1⟩ := size_ex (nxS s 5) size h0 h1
    obtain ⟨v, s2, e2, _, hv⟩ := vec_ex s1 n (by omega) (by omega)
    obtain ⟨m, s3, e3, m0, m1⟩ := size_ex s2 size h0 h1
    obtain ⟨w, s4, e4, _, hw⟩ := vec_ex s3 m (by omega) (by omega)
    rw [e1]
    try simp only [TP.bsome, TP.thn_go, TP.thn_ret, TP.thn_brk]
    rw [e2]
    try simp only [TP.bsome, TP.thn_go, TP.thn_ret, TP.thn_brk]
    rw [e3]
    try simp only [TP.bsome, TP.thn_go, TP.thn_ret, TP.thn_brk]
    rw [e4]
    try simp only [TP.bsome, TP.thn_go, TP.thn_ret, TP.thn_brk]
    have : ∃ u, (if (decide ((nxV s4 (6 : Int)) = (0 : Int))) = true then some v else some w : Option (List Int)) = some u ∧ VOk 400 u := by
      split
      · exact ⟨_, rfl, hv.le (by decide)⟩
      · exact ⟨_, rfl, hw.le (by decide)⟩
    obtain ⟨u, e5, hu⟩ := this
    rw [e5]
    exact ⟨_, _, rfl, ⟨hv.le (by decide), hu⟩, trivial⟩
  split
  · obtain ⟨n, s1, e1, n0, n1⟩ := size_ex (nxS s 5) size h0 h1
    obtain ⟨v, s2, e2, _, hv⟩ := vec_ex s1 n (by omega) (by omega)
    rw [e1]
    try simp only [TP.bsome, TP.thn_go, TP.thn_ret, TP.thn_brk]
    rw [e2]
    try simp only [TP.bsome, TP.thn_go, TP.thn_ret, TP.thn_brk]
    obtain ⟨ys, s3, e3, l, hy⟩ := mapS_mem (f := fun (x_168 : Int) (s_169 : DS) => (some (((x_168 + (nxV s_169 (8 : Int))) - (1 : Int)), (nxS s_169 (8 : Int))) : Option (Int × DS))) (R := fun y => -400 ≤ y ∧ y ≤ 400) (xs := v) s2 (fun x hx s => by
      have b := nx_b s (m := 8) (by decide)
      have := hv.2 x hx
      exact ⟨_, _, rfl, by omega, by omega⟩)
    rw [e3]
    exact ⟨_, _, rfl, ⟨hv.le (by decide), by rw [l]; exact hv.1, hy⟩, trivial⟩
  split
  · exact ⟨_, _, rfl, trivial, trivial⟩
  · obtain ⟨n, s1, e1, n0, n1⟩ := size_ex (nxS s 5) size h0 h1
    obtain ⟨v, s2, e2, _, hv⟩ := vec_ex s1 n (by omega) (by omega)
    rw [e1]
    try simp only [TP.bsome, TP.thn_go, TP.thn_ret, TP.thn_brk]
    rw [e2]
    exact ⟨_, _, rfl, hv.le (by decide), trivial⟩
theorem len_is {v : List Int} {size : Int} (h : (v.length : Int) = size) (h0 : 1 ≤ size) (h1 : size ≤ 4) : 1 ≤ v.length ∧ v.length ≤ 4 := by omega
theorem set_ok {v : List Int} {n : Nat} {y : Int} {b : Int} (hv : VOk b v) (hy : -b ≤ y ∧ y ≤ b) : VOk b (v.set n y) := ⟨by rw [List.length_set]; exact hv.1, fun x hx => by
  rcases List.mem_or_eq_of_mem_set hx with h | h
  · exact hv.2 x h
  · rw [h]; exact hy⟩
theorem moved_ex (s : DS) (f : LFact) (v : List Int) (hf : FOk 400 f) (hp : POk f) (hv : VOk 300 v) (l0 : 1 ≤ v.length) (l1 : v.length ≤ 4) : ∃ g s', F_law_moved s f v = some (g, s') ∧ FOk 4000 g := by
  have hv4 := hv.le (b := 4000) (by decide)
  unfold F_law_moved
  cases f with
  | k_parts a1 =>
    have hf : ∀ p ∈ a1, VOk 400 p.2.1 := hf
    have hp : a1.length ≤ 3 := hp
    simp only [decide_true, decide_false, Bool.false_eq_true, if_true, if_false, TP.bsome, TP.bnone, eq_self, LFact.tag_parts, LFact.s_0_parts, LFact.s_1_parts, LFact.s_2_parts, LFact.s_3_parts, LFact.s_4_parts, LFact.tag_cell, LFact.s_0_cell, LFact.s_1_cell, LFact.s_2_cell, LFact.s_3_cell, LFact.s_4_cell, LFact.tag_box, LFact.s_0_box, LFact.s_1_box, LFact.s_2_box, LFact.s_3_box, LFact.s_4_box, LFact.tag_norms, LFact.s_0_norms, LFact.s_1_norms, LFact.s_2_norms, LFact.s_3_norms, LFact.s_4_norms, LFact.tag_differ, LFact.s_0_differ, LFact.s_1_differ, LFact.s_2_differ, LFact.s_3_differ, LFact.s_4_differ, LFact.ne_parts_cell, LFact.ne_parts_box, LFact.ne_parts_norms, LFact.ne_parts_differ, LFact.ne_parts_range, LFact.ne_parts_values, LFact.ne_parts_counts, LFact.ne_cell_parts, LFact.ne_cell_box, LFact.ne_cell_norms, LFact.ne_cell_differ, LFact.ne_cell_range, LFact.ne_cell_values, LFact.ne_cell_counts, LFact.ne_box_parts, LFact.ne_box_cell, LFact.ne_box_norms, LFact.ne_box_differ, LFact.ne_box_range, LFact.ne_box_values, LFact.ne_box_counts, LFact.ne_norms_parts, LFact.ne_norms_cell, LFact.ne_norms_box, LFact.ne_norms_differ, LFact.ne_norms_range, LFact.ne_norms_values, LFact.ne_norms_counts, LFact.ne_differ_parts, LFact.ne_differ_cell, LFact.ne_differ_box, LFact.ne_differ_norms, LFact.ne_differ_range, LFact.ne_differ_values, LFact.ne_differ_counts, LFact.ne_range_parts, LFact.ne_range_cell, LFact.ne_range_box, LFact.ne_range_norms, LFact.ne_range_differ, LFact.ne_range_values, LFact.ne_range_counts, LFact.ne_values_parts, LFact.ne_values_cell, LFact.ne_values_box, LFact.ne_values_norms, LFact.ne_values_differ, LFact.ne_values_range, LFact.ne_values_counts, LFact.ne_counts_parts, LFact.ne_counts_cell, LFact.ne_counts_box, LFact.ne_counts_norms, LFact.ne_counts_differ, LFact.ne_counts_range, LFact.ne_counts_values]
    cases a1 with
    | nil =>
      rw [if_neg (by decide)]
      exact ⟨_, _, rfl, fun _ h => nomatch h⟩
    | cons p r =>
      have hp0 := hf p List.mem_cons_self
      rw [if_pos (by simp), show atI (p :: r) 0 = some p from TP.atI_nat (k := 0) rfl, bsome]
      have hw : ∃ w, (if ((decide ((0 : Int) ≤ p.1)) && (decide ((p.1 + (p.2.1.length : Int)) ≤ (v.length : Int)))) = true then
          (F_law_distance p.2.1 (cutA v (some p.1) (some (p.1 + (p.2.1.length : Int))))).bind fun r_330 =>
          some (max (0 : Int) (r_330 - (nxV s (2 : Int))), (nxS s (2 : Int)))
          else
          some (p.2.2, s) : Option (Int × DS)) = some w := by
        by_cases c : ((decide ((0 : Int) ≤ p.1)) && (decide ((p.1 + (p.2.1.length : Int)) ≤ (v.length : Int)))) = true
        · rw [if_pos c]
          obtain ⟨c1, c2⟩ : 0 ≤ p.1 ∧ p.1 + (p.2.1.length : Int) ≤ (v.length : Int) := by simpa using c
          have k := cut_ok hv4 c1 (show p.1 ≤ p.1 + (p.2.1.length : Int) by omega) c2
          rw [law_distance_eq (by rw [k.2]; omega) (hp0.le (by decide)) k.1]
          exact ⟨_, rfl⟩
        · rw [if_neg c]
          exact ⟨_, rfl⟩
      obtain ⟨w, ew⟩ := hw
      rw [ew, bsome]
      have hc : cutA (p :: r) (some (1 : Int)) none = r := by rw [cutA_from _ (by decide)]; rfl
      rw [hc, if_pos (by rw [List.length_cons] at hp; show 1 + r.length ≤ _; omega)]
      refine ⟨_, _, rfl, fun x hx => ?_⟩
      rcases List.mem_append.mp hx with hx | hx
      · rw [List.mem_singleton.mp hx]
        exact hp0.le (by decide)
      · exact (hf x (List.mem_cons_of_mem _ hx)).le (by decide)
  | k_norms a1 a2 =>
    simp only [decide_true, decide_false, Bool.false_eq_true, if_true, if_false, TP.bsome, TP.bnone, eq_self, LFact.tag_parts, LFact.s_0_parts, LFact.s_1_parts, LFact.s_2_parts, LFact.s_3_parts, LFact.s_4_parts, LFact.tag_cell, LFact.s_0_cell, LFact.s_1_cell, LFact.s_2_cell, LFact.s_3_cell, LFact.s_4_cell, LFact.tag_box, LFact.s_0_box, LFact.s_1_box, LFact.s_2_box, LFact.s_3_box, LFact.s_4_box, LFact.tag_norms, LFact.s_0_norms, LFact.s_1_norms, LFact.s_2_norms, LFact.s_3_norms, LFact.s_4_norms, LFact.tag_differ, LFact.s_0_differ, LFact.s_1_differ, LFact.s_2_differ, LFact.s_3_differ, LFact.s_4_differ, LFact.ne_parts_cell, LFact.ne_parts_box, LFact.ne_parts_norms, LFact.ne_parts_differ, LFact.ne_parts_range, LFact.ne_parts_values, LFact.ne_parts_counts, LFact.ne_cell_parts, LFact.ne_cell_box, LFact.ne_cell_norms, LFact.ne_cell_differ, LFact.ne_cell_range, LFact.ne_cell_values, LFact.ne_cell_counts, LFact.ne_box_parts, LFact.ne_box_cell, LFact.ne_box_norms, LFact.ne_box_differ, LFact.ne_box_range, LFact.ne_box_values, LFact.ne_box_counts, LFact.ne_norms_parts, LFact.ne_norms_cell, LFact.ne_norms_box, LFact.ne_norms_differ, LFact.ne_norms_range, LFact.ne_norms_values, LFact.ne_norms_counts, LFact.ne_differ_parts, LFact.ne_differ_cell, LFact.ne_differ_box, LFact.ne_differ_norms, LFact.ne_differ_range, LFact.ne_differ_values, LFact.ne_differ_counts, LFact.ne_range_parts, LFact.ne_range_cell, LFact.ne_range_box, LFact.ne_range_norms, LFact.ne_range_differ, LFact.ne_range_values, LFact.ne_range_counts, LFact.ne_values_parts, LFact.ne_values_cell, LFact.ne_values_box, LFact.ne_values_norms, LFact.ne_values_differ, LFact.ne_values_range, LFact.ne_values_counts, LFact.ne_counts_parts, LFact.ne_counts_cell, LFact.ne_counts_box, LFact.ne_counts_norms, LFact.ne_counts_differ, LFact.ne_counts_range, LFact.ne_counts_values]
    rw [law_inner_eq rfl hv4, bsome]
    have b := nx_b s (m := 3) (by decide)
    obtain ⟨g, e, hm⟩ := atI_lit (xs := [LFact.k_norms (inn v v) (inn v v), LFact.k_norms (inn v v + 1) (inn v v + 9), LFact.k_norms 0 (inn v v - 1)]) b.1 b.2
    rw [e]
    refine ⟨_, _, rfl, ?_⟩
    simp only [List.mem_cons, List.not_mem_nil, or_false] at hm
    rcases hm with rfl | rfl | rfl <;> exact trivial
  | k_differ a1 a2 =>
    have hf : VOk 400 a1 := hf
    simp only [decide_true, decide_false, Bool.false_eq_true, if_true, if_false, TP.bsome, TP.bnone, eq_self, LFact.tag_parts, LFact.s_0_parts, LFact.s_1_parts, LFact.s_2_parts, LFact.s_3_parts, LFact.s_4_parts, LFact.tag_cell, LFact.s_0_cell, LFact.s_1_cell, LFact.s_2_cell, LFact.s_3_cell, LFact.s_4_cell, LFact.tag_box, LFact.s_0_box, LFact.s_1_box, LFact.s_2_box, LFact.s_3_box, LFact.s_4_box, LFact.tag_norms, LFact.s_0_norms, LFact.s_1_norms, LFact.s_2_norms, LFact.s_3_norms, LFact.s_4_norms, LFact.tag_differ, LFact.s_0_differ, LFact.s_1_differ, LFact.s_2_differ, LFact.s_3_differ, LFact.s_4_differ, LFact.ne_parts_cell, LFact.ne_parts_box, LFact.ne_parts_norms, LFact.ne_parts_differ, LFact.ne_parts_range, LFact.ne_parts_values, LFact.ne_parts_counts, LFact.ne_cell_parts, LFact.ne_cell_box, LFact.ne_cell_norms, LFact.ne_cell_differ, LFact.ne_cell_range, LFact.ne_cell_values, LFact.ne_cell_counts, LFact.ne_box_parts, LFact.ne_box_cell, LFact.ne_box_norms, LFact.ne_box_differ, LFact.ne_box_range, LFact.ne_box_values, LFact.ne_box_counts, LFact.ne_norms_parts, LFact.ne_norms_cell, LFact.ne_norms_box, LFact.ne_norms_differ, LFact.ne_norms_range, LFact.ne_norms_values, LFact.ne_norms_counts, LFact.ne_differ_parts, LFact.ne_differ_cell, LFact.ne_differ_box, LFact.ne_differ_norms, LFact.ne_differ_range, LFact.ne_differ_values, LFact.ne_differ_counts, LFact.ne_range_parts, LFact.ne_range_cell, LFact.ne_range_box, LFact.ne_range_norms, LFact.ne_range_differ, LFact.ne_range_values, LFact.ne_range_counts, LFact.ne_values_parts, LFact.ne_values_cell, LFact.ne_values_box, LFact.ne_values_norms, LFact.ne_values_differ, LFact.ne_values_range, LFact.ne_values_counts, LFact.ne_counts_parts, LFact.ne_counts_cell, LFact.ne_counts_box, LFact.ne_counts_norms, LFact.ne_counts_differ, LFact.ne_counts_range, LFact.ne_counts_values]
    by_cases c : a1.length = v.length
    · rw [if_pos (by simp [c]), law_differing_eq c (by omega)]
      exact ⟨_, _, rfl, hf.le (by decide)⟩
    · rw [if_neg (by simp; omega)]
      exact ⟨_, _, rfl, hf.le (by decide)⟩
  | k_box a1 a2 =>
    obtain ⟨h1, h2⟩ : VOk 400 a1 ∧ VOk 400 a2 := hf
    simp only [decide_true, decide_false, Bool.false_eq_true, if_true, if_false, TP.bsome, TP.bnone, eq_self, LFact.tag_parts, LFact.s_0_parts, LFact.s_1_parts, LFact.s_2_parts, LFact.s_3_parts, LFact.s_4_parts, LFact.tag_cell, LFact.s_0_cell, LFact.s_1_cell, LFact.s_2_cell, LFact.s_3_cell, LFact.s_4_cell, LFact.tag_box, LFact.s_0_box, LFact.s_1_box, LFact.s_2_box, LFact.s_3_box, LFact.s_4_box, LFact.tag_norms, LFact.s_0_norms, LFact.s_1_norms, LFact.s_2_norms, LFact.s_3_norms, LFact.s_4_norms, LFact.tag_differ, LFact.s_0_differ, LFact.s_1_differ, LFact.s_2_differ, LFact.s_3_differ, LFact.s_4_differ, LFact.ne_parts_cell, LFact.ne_parts_box, LFact.ne_parts_norms, LFact.ne_parts_differ, LFact.ne_parts_range, LFact.ne_parts_values, LFact.ne_parts_counts, LFact.ne_cell_parts, LFact.ne_cell_box, LFact.ne_cell_norms, LFact.ne_cell_differ, LFact.ne_cell_range, LFact.ne_cell_values, LFact.ne_cell_counts, LFact.ne_box_parts, LFact.ne_box_cell, LFact.ne_box_norms, LFact.ne_box_differ, LFact.ne_box_range, LFact.ne_box_values, LFact.ne_box_counts, LFact.ne_norms_parts, LFact.ne_norms_cell, LFact.ne_norms_box, LFact.ne_norms_differ, LFact.ne_norms_range, LFact.ne_norms_values, LFact.ne_norms_counts, LFact.ne_differ_parts, LFact.ne_differ_cell, LFact.ne_differ_box, LFact.ne_differ_norms, LFact.ne_differ_range, LFact.ne_differ_values, LFact.ne_differ_counts, LFact.ne_range_parts, LFact.ne_range_cell, LFact.ne_range_box, LFact.ne_range_norms, LFact.ne_range_differ, LFact.ne_range_values, LFact.ne_range_counts, LFact.ne_values_parts, LFact.ne_values_cell, LFact.ne_values_box, LFact.ne_values_norms, LFact.ne_values_differ, LFact.ne_values_range, LFact.ne_values_counts, LFact.ne_counts_parts, LFact.ne_counts_cell, LFact.ne_counts_box, LFact.ne_counts_norms, LFact.ne_counts_differ, LFact.ne_counts_range, LFact.ne_counts_values]
    by_cases c : a1.length = v.length
    · rw [if_pos (by simp [c])]
      obtain ⟨lo, s1, e1, k1, b1⟩ := mapS_mem (f := fun (x_366 : Int) (s_367 : DS) => (some ((x_366 - (nxV s_367 (2 : Int))), (nxS s_367 (2 : Int))) : Option (Int × DS))) (R := fun y => -4000 ≤ y ∧ y ≤ 4000) (xs := v) s (fun x hx s => by
        have b := nx_b s (m := 2) (by decide)
        have := hv.2 x hx
        exact ⟨_, _, rfl, by omega, by omega⟩)
      rw [e1, bsome]
      obtain ⟨hi, s2, e2, k2, b2⟩ := mapS_mem (f := fun (x_375 : Int) (s_376 : DS) => (some ((x_375 + (nxV s_376 (2 : Int))), (nxS s_376 (2 : Int))) : Option (Int × DS))) (R := fun y => -4000 ≤ y ∧ y ≤ 4000) (xs := v) s1 (fun x hx s => by
        have b := nx_b s (m := 2) (by decide)
        have := hv.2 x hx
        exact ⟨_, _, rfl, by omega, by omega⟩)
      dsimp only
      rw [e2, bsome, if_pos (nxOk_of (by omega) (by omega))]
      dsimp only
      have b := nx_b s2 (m := (v.length : Int)) (by omega)
      generalize nxV s2 (v.length : Int) = pl at b
      obtain ⟨x, ex, hx⟩ := atI_lit (xs := v) b.1 b.2
      have hxb := hv.2 x hx
      rw [ex, bsome]
      have d1 := nx_b (nxS s2 (v.length : Int)) (m := 3) (by decide)
      obtain ⟨y, ey, hy⟩ := atI_lit (xs := [(0 : Int), (1 : Int), (0 : Int)]) d1.1 d1.2
      have d2 := nx_b (nxS (nxS s2 (v.length : Int)) 3) (m := 3) (by decide)
      obtain ⟨z, ez, hz⟩ := atI_lit (xs := [(0 : Int), (0 : Int), (1 : Int)]) d2.1 d2.2
      simp only [List.mem_cons, List.not_mem_nil, or_false] at hy hz
      rw [ey, bsome, ixN_of b.1 (by omega), bsome, bsome, ez, bsome, ixN_of b.1 (by omega), bsome]
      exact ⟨_, _, rfl, set_ok ⟨by omega, b1⟩ (by omega), set_ok ⟨by omega, b2⟩ (by omega)⟩
    · rw [if_neg (by simp; omega)]
      exact ⟨_, _, rfl, h1.le (by decide), h2.le (by decide)⟩
  | k_cell a1 a2 =>
    obtain ⟨h1, h2⟩ : VOk 400 a1 ∧ VOk 400 a2 := hf
    simp only [decide_true, decide_false, Bool.false_eq_true, if_true, if_false, TP.bsome, TP.bnone, eq_self, LFact.tag_parts, LFact.s_0_parts, LFact.s_1_parts, LFact.s_2_parts, LFact.s_3_parts, LFact.s_4_parts, LFact.tag_cell, LFact.s_0_cell, LFact.s_1_cell, LFact.s_2_cell, LFact.s_3_cell, LFact.s_4_cell, LFact.tag_box, LFact.s_0_box, LFact.s_1_box, LFact.s_2_box, LFact.s_3_box, LFact.s_4_box, LFact.tag_norms, LFact.s_0_norms, LFact.s_1_norms, LFact.s_2_norms, LFact.s_3_norms, LFact.s_4_norms, LFact.tag_differ, LFact.s_0_differ, LFact.s_1_differ, LFact.s_2_differ, LFact.s_3_differ, LFact.s_4_differ, LFact.ne_parts_cell, LFact.ne_parts_box, LFact.ne_parts_norms, LFact.ne_parts_differ, LFact.ne_parts_range, LFact.ne_parts_values, LFact.ne_parts_counts, LFact.ne_cell_parts, LFact.ne_cell_box, LFact.ne_cell_norms, LFact.ne_cell_differ, LFact.ne_cell_range, LFact.ne_cell_values, LFact.ne_cell_counts, LFact.ne_box_parts, LFact.ne_box_cell, LFact.ne_box_norms, LFact.ne_box_differ, LFact.ne_box_range, LFact.ne_box_values, LFact.ne_box_counts, LFact.ne_norms_parts, LFact.ne_norms_cell, LFact.ne_norms_box, LFact.ne_norms_differ, LFact.ne_norms_range, LFact.ne_norms_values, LFact.ne_norms_counts, LFact.ne_differ_parts, LFact.ne_differ_cell, LFact.ne_differ_box, LFact.ne_differ_norms, LFact.ne_differ_range, LFact.ne_differ_values, LFact.ne_differ_counts, LFact.ne_range_parts, LFact.ne_range_cell, LFact.ne_range_box, LFact.ne_range_norms, LFact.ne_range_differ, LFact.ne_range_values, LFact.ne_range_counts, LFact.ne_values_parts, LFact.ne_values_cell, LFact.ne_values_box, LFact.ne_values_norms, LFact.ne_values_differ, LFact.ne_values_range, LFact.ne_values_counts, LFact.ne_counts_parts, LFact.ne_counts_cell, LFact.ne_counts_box, LFact.ne_counts_norms, LFact.ne_counts_differ, LFact.ne_counts_range, LFact.ne_counts_values]
    by_cases c : a1.length = v.length
    · rw [if_pos (by simp [c]), if_pos (rangeOk_of (by omega) (by omega) (by omega) (by omega))]
      obtain ⟨ys, e, ly, hy⟩ := mapO_ex (f := fun (x_418 : Int) => ((atI v x_418).bind fun i_422 => (atI a1 x_418).bind fun i_426 => some (((2 : Int) * i_422) - i_426) : Option Int)) (R := fun y => -4000 ≤ y ∧ y ≤ 4000) (xs := rangeZ 0 (v.length : Int)) (fun k hk => by
        obtain ⟨x, y⟩ := rangeZ_mem hk
        obtain ⟨n, rfl⟩ := Int.eq_ofNat_of_zero_le x
        have hn : n < v.length := by omega
        have hn2 : n < a1.length := by omega
        have m1 := hv.2 _ (List.getElem_mem hn)
        have m2 := h1.2 _ (List.getElem_mem hn2)
        rw [TP.atI_nat (List.getElem?_eq_getElem hn), bsome, TP.atI_nat (List.getElem?_eq_getElem hn2), bsome]
        exact ⟨_, rfl, by omega, by omega⟩)
      rw [e]
      rw [rangeZ_len] at ly
      exact ⟨_, _, rfl, h1.le (by decide), by omega, hy⟩
    · rw [if_neg (by simp; omega)]
      exact ⟨_, _, rfl, h1.le (by decide), h2.le (by decide)⟩
theorem FOk.le {a b : Int} {f : LFact} (h : FOk a f) (l : a ≤ b) : FOk b f := by
  cases f with
  | k_parts a1 => exact fun p hp => (h p hp).le l
  | k_cell a1 a2 => exact ⟨h.1.le l, h.2.le l⟩
  | k_box a1 a2 => exact ⟨h.1.le l, h.2.le l⟩
  | k_norms a1 a2 => trivial
  | k_differ a1 a2 => exact VOk.le h l
theorem law_turn (v : List Int) (s0 : DS) (hv : VOk 300 v) (l0 : 1 ≤ v.length) (l1 : v.length ≤ 4) (k : Int) (fs : List LFact) (s : DS) (hl : fs.length ≤ 1000) : ∃ f s', L_law_1 (v, s0) ⟨("r" : Str), v, [], []⟩ k (fs, s) = some (.go (fs ++ [f], s')) := by
  unfold L_law_1
  dsimp only
  obtain ⟨f, s1, e1, hf, hp⟩ := fact_ex s (v.length : Int) (by omega) (by omega)
  rw [e1, bsome]
  dsimp only
  have : ∃ g s2, (if (decide ((0 : Int) < (nxV s1 (3 : Int)))) = true then
      (F_law_moved (nxS s1 (3 : Int)) f v).bind fun r_890 => some (r_890.1, r_890.2)
      else some (f, (nxS s1 (3 : Int))) : Option (LFact × DS)) = some (g, s2) ∧ FOk 4000 g := by
    split
    · obtain ⟨g, s2, e, h⟩ := moved_ex (nxS s1 3) f v hf hp hv l0 l1
      rw [e]
      exact ⟨g, s2, rfl, h⟩
    · exact ⟨_, _, rfl, hf.le (by decide)⟩
  obtain ⟨g, s2, e2, hg⟩ := this
  rw [e2, bsome, if_pos (by omega)]
  dsimp only
  obtain ⟨b, h1, h2⟩ := holds_ok v (hv.le (by decide)) g hg
  rw [made_eq, bsome, h1, bsome, if_neg (by decide), h2, bsome, bsome, if_neg (by simp)]
  exact ⟨_, _, rfl⟩
theorem pair_turn (f g : LFact) : L_law_3 f g () = some (.go ()) := by
  unfold L_law_3
  rw [made_eq, made_eq, bsome, bsome, eq_made, bsome, eqv_LFact, if_neg (by simp), bsome, eq_tuple, bsome, bsome, if_neg (by decide)]
theorem law_true (ns : List Int) (h : ns.length ≤ 63) : F_law ns = some true := by
  unfold F_law
  have a := nx_b (DS.mk ns 0 0) (m := 4) (by decide)
  obtain ⟨v, s0, e, lv, hv⟩ := vec_ex (nxS (DS.mk ns 0 0) 4) (1 + nxV (DS.mk ns 0 0) 4) (by omega) (by omega)
  rw [e, bsome, bsome]
  have hR : F_Record___init__ ("r" : Str) v [] [] = ⟨("r" : Str), v, [], []⟩ := rfl
  dsimp only
  rw [hR]
  obtain ⟨⟨fs, s1⟩, e1, i1⟩ := forS_rng (f := L_law_1 (v, s0) ⟨("r" : Str), v, [], []⟩) (fun n b => b.1.length = n) (m := 5) (b := ([], s0)) rfl (by
    rintro n ⟨fs, s⟩ hn hl
    dsimp only at hl
    obtain ⟨f, s', e⟩ := law_turn v s0 hv (by omega) (by omega) (n : Int) fs s (by omega)
    exact ⟨_, e, by dsimp only; rw [List.length_append, hl]; rfl⟩)
  rw [e1, bsome, thn_go]
  dsimp only at i1 ⊢
  have b := nx_b s1 (m := 5) (by decide)
  obtain ⟨i, ei, _⟩ := atI_lit (xs := fs) b.1 (by rw [i1]; exact b.2)
  rw [ei, bsome, if_pos (by omega)]
  obtain ⟨_, e3, _⟩ := forS_mem (f := L_law_2 (fs, s1) i) (I := fun _ => True) (xs := fs ++ [i]) (b := ()) trivial (fun f _ _ _ => by
    unfold L_law_2
    obtain ⟨_, e4, _⟩ := forS_mem (f := L_law_3 f) (I := fun _ => True) (xs := fs ++ [i]) (b := ()) trivial (fun g _ _ _ => ⟨(), pair_turn f g, trivial⟩)
    dsimp only
    rw [e4]
    exact ⟨(), rfl, trivial⟩)
  rw [e3]
  rfl

def ff_Record (v0 v1 v2 v3 : V) : List (Str × V) := putF "words" v3 (putF "fields" v2 (putF "vector" v1 (putF "name" v0 [])))
theorem lk_Record_name {v0 v1 v2 v3 : V} : (ff_Record v0 v1 v2 v3).lookup ("name" : Str) = some v0 := by
  unfold ff_Record
  rw [lookup_putF, if_neg (by decide +kernel), lookup_putF, if_neg (by decide +kernel), lookup_putF, if_neg (by decide +kernel), lookup_putF, if_pos rfl]
theorem lk_Record_vector {v0 v1 v2 v3 : V} : (ff_Record v0 v1 v2 v3).lookup ("vector" : Str) = some v1 := by
  unfold ff_Record
  rw [lookup_putF, if_neg (by decide +kernel), lookup_putF, if_neg (by decide +kernel), lookup_putF, if_pos rfl]
theorem lk_Record_fields {v0 v1 v2 v3 : V} : (ff_Record v0 v1 v2 v3).lookup ("fields" : Str) = some v2 := by
  unfold ff_Record
  rw [lookup_putF, if_neg (by decide +kernel), lookup_putF, if_pos rfl]
theorem lk_Record_words {v0 v1 v2 v3 : V} : (ff_Record v0 v1 v2 v3).lookup ("words" : Str) = some v3 := by
  unfold ff_Record
  rw [lookup_putF, if_pos rfl]
theorem no_Record {v0 v1 v2 v3 : V} {m : Str} (h0 : ¬ m = "name" := by decide +kernel) (h1 : ¬ m = "vector" := by decide +kernel) (h2 : ¬ m = "fields" := by decide +kernel) (h3 : ¬ m = "words" := by decide +kernel) : (ff_Record v0 v1 v2 v3).lookup m = none := by
  unfold ff_Record
  rw [lookup_putF, if_neg h3, lookup_putF, if_neg h2, lookup_putF, if_neg h1, lookup_putF, if_neg h0]
  rfl
def ff_Part (v0 v1 v2 : V) : List (Str × V) := putF "radius" v2 (putF "centre" v1 (putF "start" v0 []))
theorem lk_Part_start {v0 v1 v2 : V} : (ff_Part v0 v1 v2).lookup ("start" : Str) = some v0 := by
  unfold ff_Part
  rw [lookup_putF, if_neg (by decide +kernel), lookup_putF, if_neg (by decide +kernel), lookup_putF, if_pos rfl]
theorem lk_Part_centre {v0 v1 v2 : V} : (ff_Part v0 v1 v2).lookup ("centre" : Str) = some v1 := by
  unfold ff_Part
  rw [lookup_putF, if_neg (by decide +kernel), lookup_putF, if_pos rfl]
theorem lk_Part_radius {v0 v1 v2 : V} : (ff_Part v0 v1 v2).lookup ("radius" : Str) = some v2 := by
  unfold ff_Part
  rw [lookup_putF, if_pos rfl]
theorem no_Part {v0 v1 v2 : V} {m : Str} (h0 : ¬ m = "start" := by decide +kernel) (h1 : ¬ m = "centre" := by decide +kernel) (h2 : ¬ m = "radius" := by decide +kernel) : (ff_Part v0 v1 v2).lookup m = none := by
  unfold ff_Part
  rw [lookup_putF, if_neg h2, lookup_putF, if_neg h1, lookup_putF, if_neg h0]
  rfl
def ff_Parts (v0 : V) : List (Str × V) := putF "parts" v0 []
theorem lk_Parts_parts {v0 : V} : (ff_Parts v0).lookup ("parts" : Str) = some v0 := by
  unfold ff_Parts
  rw [lookup_putF, if_pos rfl]
theorem no_Parts {v0 : V} {m : Str} (h0 : ¬ m = "parts" := by decide +kernel) : (ff_Parts v0).lookup m = none := by
  unfold ff_Parts
  rw [lookup_putF, if_neg h0]
  rfl
def ff_Cell (v0 v1 : V) : List (Str × V) := putF "rival" v1 (putF "near" v0 [])
theorem lk_Cell_near {v0 v1 : V} : (ff_Cell v0 v1).lookup ("near" : Str) = some v0 := by
  unfold ff_Cell
  rw [lookup_putF, if_neg (by decide +kernel), lookup_putF, if_pos rfl]
theorem lk_Cell_rival {v0 v1 : V} : (ff_Cell v0 v1).lookup ("rival" : Str) = some v1 := by
  unfold ff_Cell
  rw [lookup_putF, if_pos rfl]
theorem no_Cell {v0 v1 : V} {m : Str} (h0 : ¬ m = "near" := by decide +kernel) (h1 : ¬ m = "rival" := by decide +kernel) : (ff_Cell v0 v1).lookup m = none := by
  unfold ff_Cell
  rw [lookup_putF, if_neg h1, lookup_putF, if_neg h0]
  rfl
def ff_Box (v0 v1 : V) : List (Str × V) := putF "high" v1 (putF "low" v0 [])
theorem lk_Box_low {v0 v1 : V} : (ff_Box v0 v1).lookup ("low" : Str) = some v0 := by
  unfold ff_Box
  rw [lookup_putF, if_neg (by decide +kernel), lookup_putF, if_pos rfl]
theorem lk_Box_high {v0 v1 : V} : (ff_Box v0 v1).lookup ("high" : Str) = some v1 := by
  unfold ff_Box
  rw [lookup_putF, if_pos rfl]
theorem no_Box {v0 v1 : V} {m : Str} (h0 : ¬ m = "low" := by decide +kernel) (h1 : ¬ m = "high" := by decide +kernel) : (ff_Box v0 v1).lookup m = none := by
  unfold ff_Box
  rw [lookup_putF, if_neg h1, lookup_putF, if_neg h0]
  rfl
def ff_Norms (v0 v1 : V) : List (Str × V) := putF "high" v1 (putF "low" v0 [])
theorem lk_Norms_low {v0 v1 : V} : (ff_Norms v0 v1).lookup ("low" : Str) = some v0 := by
  unfold ff_Norms
  rw [lookup_putF, if_neg (by decide +kernel), lookup_putF, if_pos rfl]
theorem lk_Norms_high {v0 v1 : V} : (ff_Norms v0 v1).lookup ("high" : Str) = some v1 := by
  unfold ff_Norms
  rw [lookup_putF, if_pos rfl]
theorem no_Norms {v0 v1 : V} {m : Str} (h0 : ¬ m = "low" := by decide +kernel) (h1 : ¬ m = "high" := by decide +kernel) : (ff_Norms v0 v1).lookup m = none := by
  unfold ff_Norms
  rw [lookup_putF, if_neg h1, lookup_putF, if_neg h0]
  rfl
def ff_Differ (v0 v1 : V) : List (Str × V) := putF "most" v1 (putF "centre" v0 [])
theorem lk_Differ_centre {v0 v1 : V} : (ff_Differ v0 v1).lookup ("centre" : Str) = some v0 := by
  unfold ff_Differ
  rw [lookup_putF, if_neg (by decide +kernel), lookup_putF, if_pos rfl]
theorem lk_Differ_most {v0 v1 : V} : (ff_Differ v0 v1).lookup ("most" : Str) = some v1 := by
  unfold ff_Differ
  rw [lookup_putF, if_pos rfl]
theorem no_Differ {v0 v1 : V} {m : Str} (h0 : ¬ m = "centre" := by decide +kernel) (h1 : ¬ m = "most" := by decide +kernel) : (ff_Differ v0 v1).lookup m = none := by
  unfold ff_Differ
  rw [lookup_putF, if_neg h1, lookup_putF, if_neg h0]
  rfl
theorem putF_le {f : Str} {v : V} {fs : List (Str × V)} {n : Nat} (h : fs.length ≤ n) : (putF f v fs).length ≤ n + 1 := by
  induction fs generalizing n with
  | nil => show 1 ≤ n + 1; omega
  | cons x r ih =>
    obtain ⟨g, y⟩ := x
    show (if g = f then (g, v) :: r else (g, y) :: putF f v r).length ≤ n + 1
    rw [List.length_cons] at h
    by_cases e : g = f
    · rw [if_pos e, List.length_cons]; omega
    · rw [if_neg e, List.length_cons]
      have := ih (n := r.length) (Nat.le_refl _)
      omega
/-! what the top has made -/
set_option maxHeartbeats 0 in
structure Txt (K : PySem.W.Frag) (mg : Str → Option Value) where
  f_law_row : Addr
  d_law_row : FuncData
  F_law_row : Fun K "_law_row" "_law_row" s_law_row f_law_row d_law_row
  b_law_row : Binds K d_law_row ["script", "k"] []
  g_law_row : mg "_law_row" = some (.ref f_law_row)
  f_law_next : Addr
  d_law_next : FuncData
  F_law_next : Fun K "_law_next" "_law_next" s_law_next f_law_next d_law_next
  b_law_next : Binds K d_law_next ["state", "many"] []
  g_law_next : mg "_law_next" = some (.ref f_law_next)
  f_law_vector : Addr
  d_law_vector : FuncData
  F_law_vector : Fun K "_law_vector" "_law_vector" s_law_vector f_law_vector d_law_vector
  b_law_vector : Binds K d_law_vector ["state", "size"] []
  g_law_vector : mg "_law_vector" = some (.ref f_law_vector)
  f_Record___init__ : Addr
  d_Record___init__ : FuncData
  e_Record___init___fields : Addr
  et_Record___init___fields : ∀ H, SqT K H e_Record___init___fields []
  e_Record___init___words : Addr
  et_Record___init___words : ∀ H, SqT K H e_Record___init___words []
  F_Record___init__ : FunD K "__init__" "Record.__init__" (defArgs s_Record___init__) (defBody s_Record___init__) (defScope s_Record___init__) [] [("fields", .ref e_Record___init___fields), ("words", .ref e_Record___init___words)] f_Record___init__ d_Record___init__
  kb_Record___init__ : KBn K d_Record___init__ ["self", "name", "vector", "fields", "words"] 3 ["fields", "words"] (fun us ws => us ++ ws) (fun vs zs => vs ++ zs)
  ds_Record___init__ : List Value
  v_Record___init__ : Vals [.ref e_Record___init___fields, .ref e_Record___init___words] ds_Record___init__
  b_Record___init__ : Binds K d_Record___init__ ["self", "name", "vector", "fields", "words"] ds_Record___init__
  f_law_parts : Addr
  d_law_parts : FuncData
  F_law_parts : Fun K "_law_parts" "_law_parts" s_law_parts f_law_parts d_law_parts
  b_law_parts : Binds K d_law_parts ["state", "size"] []
  g_law_parts : mg "_law_parts" = some (.ref f_law_parts)
  f_law_size : Addr
  d_law_size : FuncData
  F_law_size : Fun K "_law_size" "_law_size" s_law_size f_law_size d_law_size
  b_law_size : Binds K d_law_size ["state", "size"] []
  g_law_size : mg "_law_size" = some (.ref f_law_size)
  f_law_vector_fact : Addr
  d_law_vector_fact : FuncData
  F_law_vector_fact : Fun K "_law_vector_fact" "_law_vector_fact" s_law_vector_fact f_law_vector_fact d_law_vector_fact
  b_law_vector_fact : Binds K d_law_vector_fact ["state", "size"] []
  g_law_vector_fact : mg "_law_vector_fact" = some (.ref f_law_vector_fact)
  f_law_inner : Addr
  d_law_inner : FuncData
  F_law_inner : Fun K "_law_inner" "_law_inner" s_law_inner f_law_inner d_law_inner
  b_law_inner : Binds K d_law_inner ["a", "b"] []
  g_law_inner : mg "_law_inner" = some (.ref f_law_inner)
  f_law_differing : Addr
  d_law_differing : FuncData
  F_law_differing : Fun K "_law_differing" "_law_differing" s_law_differing f_law_differing d_law_differing
  b_law_differing : Binds K d_law_differing ["a", "b"] []
  g_law_differing : mg "_law_differing" = some (.ref f_law_differing)
  f_law_distance : Addr
  d_law_distance : FuncData
  F_law_distance : Fun K "_law_distance" "_law_distance" s_law_distance f_law_distance d_law_distance
  b_law_distance : Binds K d_law_distance ["a", "b"] []
  g_law_distance : mg "_law_distance" = some (.ref f_law_distance)
  f_law_moved : Addr
  d_law_moved : FuncData
  F_law_moved : Fun K "_law_moved" "_law_moved" s_law_moved f_law_moved d_law_moved
  b_law_moved : Binds K d_law_moved ["state", "fact", "vector"] []
  g_law_moved : mg "_law_moved" = some (.ref f_law_moved)
  f_Part_after : Addr
  d_Part_after : FuncData
  F_Part_after : Fun K "after" "Part.after" s_Part_after f_Part_after d_Part_after
  b_Part_after : Binds K d_Part_after ["self"] []
  f_ends_within : Addr
  d_ends_within : FuncData
  F_ends_within : Fun K "ends_within" "ends_within" s_ends_within f_ends_within d_ends_within
  b_ends_within : Binds K d_ends_within ["part", "vector"] []
  g_ends_within : mg "ends_within" = some (.ref f_ends_within)
  f_distance : Addr
  d_distance : FuncData
  F_distance : Fun K "distance" "distance" s_distance f_distance d_distance
  b_distance : Binds K d_distance ["a", "b"] []
  g_distance : mg "distance" = some (.ref f_distance)
  f_numbers_at : Addr
  d_numbers_at : FuncData
  F_numbers_at : Fun K "numbers_at" "numbers_at" s_numbers_at f_numbers_at d_numbers_at
  b_numbers_at : Binds K d_numbers_at ["part", "vector"] []
  g_numbers_at : mg "numbers_at" = some (.ref f_numbers_at)
  f_is_near : Addr
  d_is_near : FuncData
  F_is_near : Fun K "is_near" "is_near" s_is_near f_is_near d_is_near
  b_is_near : Binds K d_is_near ["part", "vector"] []
  g_is_near : mg "is_near" = some (.ref f_is_near)
  f_Parts_holds : Addr
  d_Parts_holds : FuncData
  F_Parts_holds : Fun K "holds" "Parts.holds" s_Parts_holds f_Parts_holds d_Parts_holds
  b_Parts_holds : Binds K d_Parts_holds ["self", "record"] []
  f_have_size : Addr
  d_have_size : FuncData
  F_have_size : Fun K "have_size" "have_size" s_have_size f_have_size d_have_size
  b_have_size : Binds K d_have_size ["one", "other", "size"] []
  g_have_size : mg "have_size" = some (.ref f_have_size)
  f_Cell_holds : Addr
  d_Cell_holds : FuncData
  F_Cell_holds : Fun K "holds" "Cell.holds" s_Cell_holds f_Cell_holds d_Cell_holds
  b_Cell_holds : Binds K d_Cell_holds ["self", "record"] []
  f_Box_holds : Addr
  d_Box_holds : FuncData
  F_Box_holds : Fun K "holds" "Box.holds" s_Box_holds f_Box_holds d_Box_holds
  b_Box_holds : Binds K d_Box_holds ["self", "record"] []
  f_inner : Addr
  d_inner : FuncData
  F_inner : Fun K "inner" "inner" s_inner f_inner d_inner
  b_inner : Binds K d_inner ["a", "b"] []
  g_inner : mg "inner" = some (.ref f_inner)
  f_norm : Addr
  d_norm : FuncData
  F_norm : Fun K "norm" "norm" s_norm f_norm d_norm
  b_norm : Binds K d_norm ["a"] []
  g_norm : mg "norm" = some (.ref f_norm)
  f_Norms_holds : Addr
  d_Norms_holds : FuncData
  F_Norms_holds : Fun K "holds" "Norms.holds" s_Norms_holds f_Norms_holds d_Norms_holds
  b_Norms_holds : Binds K d_Norms_holds ["self", "record"] []
  f_differing : Addr
  d_differing : FuncData
  F_differing : Fun K "differing" "differing" s_differing f_differing d_differing
  b_differing : Binds K d_differing ["a", "b"] []
  g_differing : mg "differing" = some (.ref f_differing)
  f_Differ_holds : Addr
  d_Differ_holds : FuncData
  F_Differ_holds : Fun K "holds" "Differ.holds" s_Differ_holds f_Differ_holds d_Differ_holds
  b_Differ_holds : Binds K d_Differ_holds ["self", "record"] []
  f_Parts___init__ : Addr
  d_Parts___init__ : FuncData
  F_Parts___init__ : Fun K "__init__" "Parts.__init__" s_Parts___init__ f_Parts___init__ d_Parts___init__
  b_Parts___init__ : Binds K d_Parts___init__ ["self", "parts"] []
  f_Cell___init__ : Addr
  d_Cell___init__ : FuncData
  F_Cell___init__ : Fun K "__init__" "Cell.__init__" s_Cell___init__ f_Cell___init__ d_Cell___init__
  b_Cell___init__ : Binds K d_Cell___init__ ["self", "near", "rival"] []
  f_Box___init__ : Addr
  d_Box___init__ : FuncData
  F_Box___init__ : Fun K "__init__" "Box.__init__" s_Box___init__ f_Box___init__ d_Box___init__
  b_Box___init__ : Binds K d_Box___init__ ["self", "low", "high"] []
  f_Norms___init__ : Addr
  d_Norms___init__ : FuncData
  F_Norms___init__ : Fun K "__init__" "Norms.__init__" s_Norms___init__ f_Norms___init__ d_Norms___init__
  b_Norms___init__ : Binds K d_Norms___init__ ["self", "low", "high"] []
  f_Differ___init__ : Addr
  d_Differ___init__ : FuncData
  F_Differ___init__ : Fun K "__init__" "Differ.__init__" s_Differ___init__ f_Differ___init__ d_Differ___init__
  b_Differ___init__ : Binds K d_Differ___init__ ["self", "centre", "most"] []
  f_Part___init__ : Addr
  d_Part___init__ : FuncData
  F_Part___init__ : Fun K "__init__" "Part.__init__" s_Part___init__ f_Part___init__ d_Part___init__
  b_Part___init__ : Binds K d_Part___init__ ["self", "start", "centre", "radius"] []
  f_law_made : Addr
  d_law_made : FuncData
  F_law_made : Fun K "_law_made" "_law_made" s_law_made f_law_made d_law_made
  b_law_made : Binds K d_law_made ["fact"] []
  g_law_made : mg "_law_made" = some (.ref f_law_made)
  f_law_holds_vector : Addr
  d_law_holds_vector : FuncData
  F_law_holds_vector : Fun K "_law_holds_vector" "_law_holds_vector" s_law_holds_vector f_law_holds_vector d_law_holds_vector
  b_law_holds_vector : Binds K d_law_holds_vector ["fact", "vector"] []
  g_law_holds_vector : mg "_law_holds_vector" = some (.ref f_law_holds_vector)
  f_Part___eq__ : Addr
  d_Part___eq__ : FuncData
  F_Part___eq__ : Fun K "__eq__" "Part.__eq__" s_Part___eq__ f_Part___eq__ d_Part___eq__
  b_Part___eq__ : Binds K d_Part___eq__ ["self", "other"] []
  f_Parts___eq__ : Addr
  d_Parts___eq__ : FuncData
  F_Parts___eq__ : Fun K "__eq__" "Parts.__eq__" s_Parts___eq__ f_Parts___eq__ d_Parts___eq__
  b_Parts___eq__ : Binds K d_Parts___eq__ ["self", "other"] []
  f_Cell___eq__ : Addr
  d_Cell___eq__ : FuncData
  F_Cell___eq__ : Fun K "__eq__" "Cell.__eq__" s_Cell___eq__ f_Cell___eq__ d_Cell___eq__
  b_Cell___eq__ : Binds K d_Cell___eq__ ["self", "other"] []
  f_Box___eq__ : Addr
  d_Box___eq__ : FuncData
  F_Box___eq__ : Fun K "__eq__" "Box.__eq__" s_Box___eq__ f_Box___eq__ d_Box___eq__
  b_Box___eq__ : Binds K d_Box___eq__ ["self", "other"] []
  f_Norms___eq__ : Addr
  d_Norms___eq__ : FuncData
  F_Norms___eq__ : Fun K "__eq__" "Norms.__eq__" s_Norms___eq__ f_Norms___eq__ d_Norms___eq__
  b_Norms___eq__ : Binds K d_Norms___eq__ ["self", "other"] []
  f_Differ___eq__ : Addr
  d_Differ___eq__ : FuncData
  F_Differ___eq__ : Fun K "__eq__" "Differ.__eq__" s_Differ___eq__ f_Differ___eq__ d_Differ___eq__
  b_Differ___eq__ : Binds K d_Differ___eq__ ["self", "other"] []
  f_law : Addr
  d_law : FuncData
  F_law : Fun K "law" "law" s_law f_law d_law
  b_law : Binds K d_law ["script"] []
  g_law : mg "law" = some (.ref f_law)
  c_Record : Addr
  cl_Record : Cls K c_Record
  mc_Record : mg "Record" = some (.ref c_Record)
  n_Record_name : NoAttr K c_Record "name"
  n_Record_vector : NoAttr K c_Record "vector"
  n_Record_fields : NoAttr K c_Record "fields"
  n_Record_words : NoAttr K c_Record "words"
  mk_Record : Mk K c_Record f_Record___init__
  c_Part : Addr
  cl_Part : Cls K c_Part
  mc_Part : mg "Part" = some (.ref c_Part)
  n_Part_start : NoAttr K c_Part "start"
  n_Part_centre : NoAttr K c_Part "centre"
  n_Part_radius : NoAttr K c_Part "radius"
  mk_Part : Mk K c_Part f_Part___init__
  me_Part___eq__ : Meth K c_Part "__eq__" f_Part___eq__
  pa_Part_after : Addr
  pr_Part_after : PropOf K c_Part "after" pa_Part_after f_Part_after
  ha_Part : PySem.W.findIn K (.ref c_Part) "__class__" = some (some (.builtin "object.__class__"))
  hm_Part : PySem.W.mroIn K c_Part (.type "object") = some true
  c_Parts : Addr
  cl_Parts : Cls K c_Parts
  mc_Parts : mg "Parts" = some (.ref c_Parts)
  n_Parts_parts : NoAttr K c_Parts "parts"
  mk_Parts : Mk K c_Parts f_Parts___init__
  me_Parts_holds : Meth K c_Parts "holds" f_Parts_holds
  me_Parts___eq__ : Meth K c_Parts "__eq__" f_Parts___eq__
  ha_Parts : PySem.W.findIn K (.ref c_Parts) "__class__" = some (some (.builtin "object.__class__"))
  hm_Parts : PySem.W.mroIn K c_Parts (.type "object") = some true
  c_Cell : Addr
  cl_Cell : Cls K c_Cell
  mc_Cell : mg "Cell" = some (.ref c_Cell)
  n_Cell_near : NoAttr K c_Cell "near"
  n_Cell_rival : NoAttr K c_Cell "rival"
  mk_Cell : Mk K c_Cell f_Cell___init__
  me_Cell_holds : Meth K c_Cell "holds" f_Cell_holds
  me_Cell___eq__ : Meth K c_Cell "__eq__" f_Cell___eq__
  ha_Cell : PySem.W.findIn K (.ref c_Cell) "__class__" = some (some (.builtin "object.__class__"))
  hm_Cell : PySem.W.mroIn K c_Cell (.type "object") = some true
  c_Box : Addr
  cl_Box : Cls K c_Box
  mc_Box : mg "Box" = some (.ref c_Box)
  n_Box_low : NoAttr K c_Box "low"
  n_Box_high : NoAttr K c_Box "high"
  mk_Box : Mk K c_Box f_Box___init__
  me_Box_holds : Meth K c_Box "holds" f_Box_holds
  me_Box___eq__ : Meth K c_Box "__eq__" f_Box___eq__
  ha_Box : PySem.W.findIn K (.ref c_Box) "__class__" = some (some (.builtin "object.__class__"))
  hm_Box : PySem.W.mroIn K c_Box (.type "object") = some true
  c_Norms : Addr
  cl_Norms : Cls K c_Norms
  mc_Norms : mg "Norms" = some (.ref c_Norms)
  n_Norms_low : NoAttr K c_Norms "low"
  n_Norms_high : NoAttr K c_Norms "high"
  mk_Norms : Mk K c_Norms f_Norms___init__
  me_Norms_holds : Meth K c_Norms "holds" f_Norms_holds
  me_Norms___eq__ : Meth K c_Norms "__eq__" f_Norms___eq__
  ha_Norms : PySem.W.findIn K (.ref c_Norms) "__class__" = some (some (.builtin "object.__class__"))
  hm_Norms : PySem.W.mroIn K c_Norms (.type "object") = some true
  c_Differ : Addr
  cl_Differ : Cls K c_Differ
  mc_Differ : mg "Differ" = some (.ref c_Differ)
  n_Differ_centre : NoAttr K c_Differ "centre"
  n_Differ_most : NoAttr K c_Differ "most"
  mk_Differ : Mk K c_Differ f_Differ___init__
  me_Differ_holds : Meth K c_Differ "holds" f_Differ_holds
  me_Differ___eq__ : Meth K c_Differ "__eq__" f_Differ___eq__
  ha_Differ : PySem.W.findIn K (.ref c_Differ) "__class__" = some (some (.builtin "object.__class__"))
  hm_Differ : PySem.W.mroIn K c_Differ (.type "object") = some true
  kit_Part_Part : PySem.W.kitOne K (.ref c_Part) (.ref c_Part) = some true
  kit_Parts_Parts : PySem.W.kitOne K (.ref c_Parts) (.ref c_Parts) = some true
  kit_Cell_Parts : PySem.W.kitOne K (.ref c_Cell) (.ref c_Parts) = some false
  kit_Box_Parts : PySem.W.kitOne K (.ref c_Box) (.ref c_Parts) = some false
  kit_Norms_Parts : PySem.W.kitOne K (.ref c_Norms) (.ref c_Parts) = some false
  kit_Differ_Parts : PySem.W.kitOne K (.ref c_Differ) (.ref c_Parts) = some false
  kit_tuple_Parts : PySem.W.kitOne K (.type "tuple") (.ref c_Parts) = some false
  kit_Parts_Cell : PySem.W.kitOne K (.ref c_Parts) (.ref c_Cell) = some false
  kit_Cell_Cell : PySem.W.kitOne K (.ref c_Cell) (.ref c_Cell) = some true
  kit_Box_Cell : PySem.W.kitOne K (.ref c_Box) (.ref c_Cell) = some false
  kit_Norms_Cell : PySem.W.kitOne K (.ref c_Norms) (.ref c_Cell) = some false
  kit_Differ_Cell : PySem.W.kitOne K (.ref c_Differ) (.ref c_Cell) = some false
  kit_tuple_Cell : PySem.W.kitOne K (.type "tuple") (.ref c_Cell) = some false
  kit_Parts_Box : PySem.W.kitOne K (.ref c_Parts) (.ref c_Box) = some false
  kit_Cell_Box : PySem.W.kitOne K (.ref c_Cell) (.ref c_Box) = some false
  kit_Box_Box : PySem.W.kitOne K (.ref c_Box) (.ref c_Box) = some true
  kit_Norms_Box : PySem.W.kitOne K (.ref c_Norms) (.ref c_Box) = some false
  kit_Differ_Box : PySem.W.kitOne K (.ref c_Differ) (.ref c_Box) = some false
  kit_tuple_Box : PySem.W.kitOne K (.type "tuple") (.ref c_Box) = some false
  kit_Parts_Norms : PySem.W.kitOne K (.ref c_Parts) (.ref c_Norms) = some false
  kit_Cell_Norms : PySem.W.kitOne K (.ref c_Cell) (.ref c_Norms) = some false
  kit_Box_Norms : PySem.W.kitOne K (.ref c_Box) (.ref c_Norms) = some false
  kit_Norms_Norms : PySem.W.kitOne K (.ref c_Norms) (.ref c_Norms) = some true
  kit_Differ_Norms : PySem.W.kitOne K (.ref c_Differ) (.ref c_Norms) = some false
  kit_tuple_Norms : PySem.W.kitOne K (.type "tuple") (.ref c_Norms) = some false
  kit_Parts_Differ : PySem.W.kitOne K (.ref c_Parts) (.ref c_Differ) = some false
  kit_Cell_Differ : PySem.W.kitOne K (.ref c_Cell) (.ref c_Differ) = some false
  kit_Box_Differ : PySem.W.kitOne K (.ref c_Box) (.ref c_Differ) = some false
  kit_Norms_Differ : PySem.W.kitOne K (.ref c_Norms) (.ref c_Differ) = some false
  kit_Differ_Differ : PySem.W.kitOne K (.ref c_Differ) (.ref c_Differ) = some true
  kit_tuple_Differ : PySem.W.kitOne K (.type "tuple") (.ref c_Differ) = some false
  nf_Parts_Cell : PySem.W.notFirst K c_Parts (.ref c_Cell) = true
  nf_Parts_Box : PySem.W.notFirst K c_Parts (.ref c_Box) = true
  nf_Parts_Norms : PySem.W.notFirst K c_Parts (.ref c_Norms) = true
  nf_Parts_Differ : PySem.W.notFirst K c_Parts (.ref c_Differ) = true
  nf_Parts_tuple : PySem.W.notFirst K c_Parts (.type "tuple") = true
  nf_Cell_Parts : PySem.W.notFirst K c_Cell (.ref c_Parts) = true
  nf_Cell_Box : PySem.W.notFirst K c_Cell (.ref c_Box) = true
  nf_Cell_Norms : PySem.W.notFirst K c_Cell (.ref c_Norms) = true
  nf_Cell_Differ : PySem.W.notFirst K c_Cell (.ref c_Differ) = true
  nf_Cell_tuple : PySem.W.notFirst K c_Cell (.type "tuple") = true
  nf_Box_Parts : PySem.W.notFirst K c_Box (.ref c_Parts) = true
  nf_Box_Cell : PySem.W.notFirst K c_Box (.ref c_Cell) = true
  nf_Box_Norms : PySem.W.notFirst K c_Box (.ref c_Norms) = true
  nf_Box_Differ : PySem.W.notFirst K c_Box (.ref c_Differ) = true
  nf_Box_tuple : PySem.W.notFirst K c_Box (.type "tuple") = true
  nf_Norms_Parts : PySem.W.notFirst K c_Norms (.ref c_Parts) = true
  nf_Norms_Cell : PySem.W.notFirst K c_Norms (.ref c_Cell) = true
  nf_Norms_Box : PySem.W.notFirst K c_Norms (.ref c_Box) = true
  nf_Norms_Differ : PySem.W.notFirst K c_Norms (.ref c_Differ) = true
  nf_Norms_tuple : PySem.W.notFirst K c_Norms (.type "tuple") = true
  nf_Differ_Parts : PySem.W.notFirst K c_Differ (.ref c_Parts) = true
  nf_Differ_Cell : PySem.W.notFirst K c_Differ (.ref c_Cell) = true
  nf_Differ_Box : PySem.W.notFirst K c_Differ (.ref c_Box) = true
  nf_Differ_Norms : PySem.W.notFirst K c_Differ (.ref c_Norms) = true
  nf_Differ_tuple : PySem.W.notFirst K c_Differ (.type "tuple") = true
  hn0 : PySem.W.specialIn K (.builtin "object.__class__") "__get__" = some (some (.builtin "getset_descriptor.__get__"))
  ht0 : PySem.W.takesIn K (.builtin "object.__class__") = some true
  m_all : mg "all" = none
  m_bool : mg "bool" = none
  m_int : mg "int" = none
  m_isinstance : mg "isinstance" = none
  m_len : mg "len" = none
  m_list : mg "list" = none
  m_max : mg "max" = none
  m_range : mg "range" = none
  m_sum : mg "sum" = none
  m_tuple : mg "tuple" = none
  m_zip : mg "zip" = none
section
variable {P : Program} {w : World} {K : PySem.W.Frag} {mg : Str → Option Value} {base : Heap}
def y_Record (T : Txt K mg) : Ty Record := ⟨fun Z v x => ∃ a dx w0 w1 w2 w3, v = .ref a ∧ Z a = some (.ins T.c_Record dx (ff_Record w0 w1 w2 w3)) ∧ (yStr).r Z w0 x.name ∧ ((yTup K yInt)).r Z w1 x.vector ∧ ((yTup K (yP2 K yStr yInt))).r Z w2 x.fields ∧ ((yTup K (yP2 K yStr yInt))).r Z w3 x.words,
  fun s ⟨a, dx, w0, w1, w2, w3, e, h, h0, h1, h2, h3⟩ => ⟨a, dx, w0, w1, w2, w3, e, s _ _ h, (yStr).mono s h0, ((yTup K yInt)).mono s h1, ((yTup K (yP2 K yStr yInt))).mono s h2, ((yTup K (yP2 K yStr yInt))).mono s h3⟩⟩
theorem nn_Record (T : Txt K mg) : NonNil (y_Record T) := fun _ _ _ ⟨_, _, _, _, _, _, e, _⟩ => by rw [e]; exact fun z => nomatch z
theorem fo_Record_name (T : Txt K mg) : FldOf (y_Record T) T.c_Record "name" yStr Record.name := fun _ _ _ ⟨a, dx, w0, w1, w2, w3, e, h, h0, h1, h2, h3⟩ => ⟨a, dx, _, w0, e, h, lk_Record_name, h0⟩
theorem fo_Record_vector (T : Txt K mg) : FldOf (y_Record T) T.c_Record "vector" (yTup K yInt) Record.vector := fun _ _ _ ⟨a, dx, w0, w1, w2, w3, e, h, h0, h1, h2, h3⟩ => ⟨a, dx, _, w1, e, h, lk_Record_vector, h1⟩
theorem fo_Record_fields (T : Txt K mg) : FldOf (y_Record T) T.c_Record "fields" (yTup K (yP2 K yStr yInt)) Record.fields := fun _ _ _ ⟨a, dx, w0, w1, w2, w3, e, h, h0, h1, h2, h3⟩ => ⟨a, dx, _, w2, e, h, lk_Record_fields, h2⟩
theorem fo_Record_words (T : Txt K mg) : FldOf (y_Record T) T.c_Record "words" (yTup K (yP2 K yStr yInt)) Record.words := fun _ _ _ ⟨a, dx, w0, w1, w2, w3, e, h, h0, h1, h2, h3⟩ => ⟨a, dx, _, w3, e, h, lk_Record_words, h3⟩
theorem oo_Record (T : Txt K mg) {m : Str} (h : ¬ m = "name" ∧ ¬ m = "vector" ∧ ¬ m = "fields" ∧ ¬ m = "words") : ObjOf (y_Record T) T.c_Record m := fun _ _ _ ⟨a, dx, w0, w1, w2, w3, e, g, _⟩ => ⟨a, dx, _, e, g, no_Record (h.1) (h.2.1) (h.2.2.1) (h.2.2.2)⟩
def y_Part (T : Txt K mg) : Ty Part := ⟨fun Z v x => ∃ a dx w0 w1 w2, v = .ref a ∧ Z a = some (.ins T.c_Part dx (ff_Part w0 w1 w2)) ∧ (yInt).r Z w0 x.start ∧ ((yTup K yInt)).r Z w1 x.centre ∧ (yInt).r Z w2 x.radius,
  fun s ⟨a, dx, w0, w1, w2, e, h, h0, h1, h2⟩ => ⟨a, dx, w0, w1, w2, e, s _ _ h, (yInt).mono s h0, ((yTup K yInt)).mono s h1, (yInt).mono s h2⟩⟩
theorem nn_Part (T : Txt K mg) : NonNil (y_Part T) := fun _ _ _ ⟨_, _, _, _, _, e, _⟩ => by rw [e]; exact fun z => nomatch z
theorem fo_Part_start (T : Txt K mg) : FldOf (y_Part T) T.c_Part "start" yInt Part.start := fun _ _ _ ⟨a, dx, w0, w1, w2, e, h, h0, h1, h2⟩ => ⟨a, dx, _, w0, e, h, lk_Part_start, h0⟩
theorem fo_Part_centre (T : Txt K mg) : FldOf (y_Part T) T.c_Part "centre" (yTup K yInt) Part.centre := fun _ _ _ ⟨a, dx, w0, w1, w2, e, h, h0, h1, h2⟩ => ⟨a, dx, _, w1, e, h, lk_Part_centre, h1⟩
theorem fo_Part_radius (T : Txt K mg) : FldOf (y_Part T) T.c_Part "radius" yInt Part.radius := fun _ _ _ ⟨a, dx, w0, w1, w2, e, h, h0, h1, h2⟩ => ⟨a, dx, _, w2, e, h, lk_Part_radius, h2⟩
theorem tx_Part (T : Txt K mg) {fp : List Addr} {x : Part} : ∀ Z H v, Same Z H → (ty (fp := fp) (y_Part T) x).r Z H v → TyX K H v (.ref T.c_Part) := fun _ _ _ sz ⟨a, dx, w0, w1, w2, e, h, _⟩ => by subst e; exact .base (.ins (sz _ _ h) T.cl_Part T.ha_Part T.hn0 T.ht0 T.hm_Part)
theorem oo_Part (T : Txt K mg) {m : Str} (h : ¬ m = "start" ∧ ¬ m = "centre" ∧ ¬ m = "radius") : ObjOf (y_Part T) T.c_Part m := fun _ _ _ ⟨a, dx, w0, w1, w2, e, g, _⟩ => ⟨a, dx, _, e, g, no_Part (h.1) (h.2.1) (h.2.2)⟩
theorem ins_Part (T : Txt K mg) : ∀ Z v x, (y_Part T).r Z v x → ∃ a dx fs, v = .ref a ∧ Z a = some (.ins T.c_Part dx fs) := fun _ _ _ ⟨a, dx, _, _, _, e, h, _⟩ => ⟨a, dx, _, e, h⟩
def y_Parts (T : Txt K mg) : Ty Parts := ⟨fun Z v x => ∃ a dx w0, v = .ref a ∧ Z a = some (.ins T.c_Parts dx (ff_Parts w0)) ∧ ((yTup K (y_Part T))).r Z w0 x.parts,
  fun s ⟨a, dx, w0, e, h, h0⟩ => ⟨a, dx, w0, e, s _ _ h, ((yTup K (y_Part T))).mono s h0⟩⟩
theorem nn_Parts (T : Txt K mg) : NonNil (y_Parts T) := fun _ _ _ ⟨_, _, _, e, _⟩ => by rw [e]; exact fun z => nomatch z
theorem fo_Parts_parts (T : Txt K mg) : FldOf (y_Parts T) T.c_Parts "parts" (yTup K (y_Part T)) Parts.parts := fun _ _ _ ⟨a, dx, w0, e, h, h0⟩ => ⟨a, dx, _, w0, e, h, lk_Parts_parts, h0⟩
theorem tx_Parts (T : Txt K mg) {fp : List Addr} {x : Parts} : ∀ Z H v, Same Z H → (ty (fp := fp) (y_Parts T) x).r Z H v → TyX K H v (.ref T.c_Parts) := fun _ _ _ sz ⟨a, dx, w0, e, h, _⟩ => by subst e; exact .base (.ins (sz _ _ h) T.cl_Parts T.ha_Parts T.hn0 T.ht0 T.hm_Parts)
theorem oo_Parts (T : Txt K mg) {m : Str} (h : ¬ m = "parts") : ObjOf (y_Parts T) T.c_Parts m := fun _ _ _ ⟨a, dx, w0, e, g, _⟩ => ⟨a, dx, _, e, g, no_Parts (h)⟩
theorem ins_Parts (T : Txt K mg) : ∀ Z v x, (y_Parts T).r Z v x → ∃ a dx fs, v = .ref a ∧ Z a = some (.ins T.c_Parts dx fs) := fun _ _ _ ⟨a, dx, _, e, h, _⟩ => ⟨a, dx, _, e, h⟩
def y_Cell (T : Txt K mg) : Ty Cell := ⟨fun Z v x => ∃ a dx w0 w1, v = .ref a ∧ Z a = some (.ins T.c_Cell dx (ff_Cell w0 w1)) ∧ ((yTup K yInt)).r Z w0 x.near ∧ ((yTup K yInt)).r Z w1 x.rival,
  fun s ⟨a, dx, w0, w1, e, h, h0, h1⟩ => ⟨a, dx, w0, w1, e, s _ _ h, ((yTup K yInt)).mono s h0, ((yTup K yInt)).mono s h1⟩⟩
theorem nn_Cell (T : Txt K mg) : NonNil (y_Cell T) := fun _ _ _ ⟨_, _, _, _, e, _⟩ => by rw [e]; exact fun z => nomatch z
theorem fo_Cell_near (T : Txt K mg) : FldOf (y_Cell T) T.c_Cell "near" (yTup K yInt) Cell.near := fun _ _ _ ⟨a, dx, w0, w1, e, h, h0, h1⟩ => ⟨a, dx, _, w0, e, h, lk_Cell_near, h0⟩
theorem fo_Cell_rival (T : Txt K mg) : FldOf (y_Cell T) T.c_Cell "rival" (yTup K yInt) Cell.rival := fun _ _ _ ⟨a, dx, w0, w1, e, h, h0, h1⟩ => ⟨a, dx, _, w1, e, h, lk_Cell_rival, h1⟩
theorem tx_Cell (T : Txt K mg) {fp : List Addr} {x : Cell} : ∀ Z H v, Same Z H → (ty (fp := fp) (y_Cell T) x).r Z H v → TyX K H v (.ref T.c_Cell) := fun _ _ _ sz ⟨a, dx, w0, w1, e, h, _⟩ => by subst e; exact .base (.ins (sz _ _ h) T.cl_Cell T.ha_Cell T.hn0 T.ht0 T.hm_Cell)
theorem oo_Cell (T : Txt K mg) {m : Str} (h : ¬ m = "near" ∧ ¬ m = "rival") : ObjOf (y_Cell T) T.c_Cell m := fun _ _ _ ⟨a, dx, w0, w1, e, g, _⟩ => ⟨a, dx, _, e, g, no_Cell (h.1) (h.2)⟩
theorem ins_Cell (T : Txt K mg) : ∀ Z v x, (y_Cell T).r Z v x → ∃ a dx fs, v = .ref a ∧ Z a = some (.ins T.c_Cell dx fs) := fun _ _ _ ⟨a, dx, _, _, e, h, _⟩ => ⟨a, dx, _, e, h⟩
def y_Box (T : Txt K mg) : Ty Box := ⟨fun Z v x => ∃ a dx w0 w1, v = .ref a ∧ Z a = some (.ins T.c_Box dx (ff_Box w0 w1)) ∧ ((yTup K yInt)).r Z w0 x.low ∧ ((yTup K yInt)).r Z w1 x.high,
  fun s ⟨a, dx, w0, w1, e, h, h0, h1⟩ => ⟨a, dx, w0, w1, e, s _ _ h, ((yTup K yInt)).mono s h0, ((yTup K yInt)).mono s h1⟩⟩
theorem nn_Box (T : Txt K mg) : NonNil (y_Box T) := fun _ _ _ ⟨_, _, _, _, e, _⟩ => by rw [e]; exact fun z => nomatch z
theorem fo_Box_low (T : Txt K mg) : FldOf (y_Box T) T.c_Box "low" (yTup K yInt) Box.low := fun _ _ _ ⟨a, dx, w0, w1, e, h, h0, h1⟩ => ⟨a, dx, _, w0, e, h, lk_Box_low, h0⟩
theorem fo_Box_high (T : Txt K mg) : FldOf (y_Box T) T.c_Box "high" (yTup K yInt) Box.high := fun _ _ _ ⟨a, dx, w0, w1, e, h, h0, h1⟩ => ⟨a, dx, _, w1, e, h, lk_Box_high, h1⟩
theorem tx_Box (T : Txt K mg) {fp : List Addr} {x : Box} : ∀ Z H v, Same Z H → (ty (fp := fp) (y_Box T) x).r Z H v → TyX K H v (.ref T.c_Box) := fun _ _ _ sz ⟨a, dx, w0, w1, e, h, _⟩ => by subst e; exact .base (.ins (sz _ _ h) T.cl_Box T.ha_Box T.hn0 T.ht0 T.hm_Box)
theorem oo_Box (T : Txt K mg) {m : Str} (h : ¬ m = "low" ∧ ¬ m = "high") : ObjOf (y_Box T) T.c_Box m := fun _ _ _ ⟨a, dx, w0, w1, e, g, _⟩ => ⟨a, dx, _, e, g, no_Box (h.1) (h.2)⟩
theorem ins_Box (T : Txt K mg) : ∀ Z v x, (y_Box T).r Z v x → ∃ a dx fs, v = .ref a ∧ Z a = some (.ins T.c_Box dx fs) := fun _ _ _ ⟨a, dx, _, _, e, h, _⟩ => ⟨a, dx, _, e, h⟩
def y_Norms (T : Txt K mg) : Ty Norms := ⟨fun Z v x => ∃ a dx w0 w1, v = .ref a ∧ Z a = some (.ins T.c_Norms dx (ff_Norms w0 w1)) ∧ (yInt).r Z w0 x.low ∧ (yInt).r Z w1 x.high,
  fun s ⟨a, dx, w0, w1, e, h, h0, h1⟩ => ⟨a, dx, w0, w1, e, s _ _ h, (yInt).mono s h0, (yInt).mono s h1⟩⟩
theorem nn_Norms (T : Txt K mg) : NonNil (y_Norms T) := fun _ _ _ ⟨_, _, _, _, e, _⟩ => by rw [e]; exact fun z => nomatch z
theorem fo_Norms_low (T : Txt K mg) : FldOf (y_Norms T) T.c_Norms "low" yInt Norms.low := fun _ _ _ ⟨a, dx, w0, w1, e, h, h0, h1⟩ => ⟨a, dx, _, w0, e, h, lk_Norms_low, h0⟩
theorem fo_Norms_high (T : Txt K mg) : FldOf (y_Norms T) T.c_Norms "high" yInt Norms.high := fun _ _ _ ⟨a, dx, w0, w1, e, h, h0, h1⟩ => ⟨a, dx, _, w1, e, h, lk_Norms_high, h1⟩
theorem tx_Norms (T : Txt K mg) {fp : List Addr} {x : Norms} : ∀ Z H v, Same Z H → (ty (fp := fp) (y_Norms T) x).r Z H v → TyX K H v (.ref T.c_Norms) := fun _ _ _ sz ⟨a, dx, w0, w1, e, h, _⟩ => by subst e; exact .base (.ins (sz _ _ h) T.cl_Norms T.ha_Norms T.hn0 T.ht0 T.hm_Norms)
theorem oo_Norms (T : Txt K mg) {m : Str} (h : ¬ m = "low" ∧ ¬ m = "high") : ObjOf (y_Norms T) T.c_Norms m := fun _ _ _ ⟨a, dx, w0, w1, e, g, _⟩ => ⟨a, dx, _, e, g, no_Norms (h.1) (h.2)⟩
theorem ins_Norms (T : Txt K mg) : ∀ Z v x, (y_Norms T).r Z v x → ∃ a dx fs, v = .ref a ∧ Z a = some (.ins T.c_Norms dx fs) := fun _ _ _ ⟨a, dx, _, _, e, h, _⟩ => ⟨a, dx, _, e, h⟩
def y_Differ (T : Txt K mg) : Ty Differ := ⟨fun Z v x => ∃ a dx w0 w1, v = .ref a ∧ Z a = some (.ins T.c_Differ dx (ff_Differ w0 w1)) ∧ ((yTup K yInt)).r Z w0 x.centre ∧ (yInt).r Z w1 x.most,
  fun s ⟨a, dx, w0, w1, e, h, h0, h1⟩ => ⟨a, dx, w0, w1, e, s _ _ h, ((yTup K yInt)).mono s h0, (yInt).mono s h1⟩⟩
theorem nn_Differ (T : Txt K mg) : NonNil (y_Differ T) := fun _ _ _ ⟨_, _, _, _, e, _⟩ => by rw [e]; exact fun z => nomatch z
theorem fo_Differ_centre (T : Txt K mg) : FldOf (y_Differ T) T.c_Differ "centre" (yTup K yInt) Differ.centre := fun _ _ _ ⟨a, dx, w0, w1, e, h, h0, h1⟩ => ⟨a, dx, _, w0, e, h, lk_Differ_centre, h0⟩
theorem fo_Differ_most (T : Txt K mg) : FldOf (y_Differ T) T.c_Differ "most" yInt Differ.most := fun _ _ _ ⟨a, dx, w0, w1, e, h, h0, h1⟩ => ⟨a, dx, _, w1, e, h, lk_Differ_most, h1⟩
theorem tx_Differ (T : Txt K mg) {fp : List Addr} {x : Differ} : ∀ Z H v, Same Z H → (ty (fp := fp) (y_Differ T) x).r Z H v → TyX K H v (.ref T.c_Differ) := fun _ _ _ sz ⟨a, dx, w0, w1, e, h, _⟩ => by subst e; exact .base (.ins (sz _ _ h) T.cl_Differ T.ha_Differ T.hn0 T.ht0 T.hm_Differ)
theorem oo_Differ (T : Txt K mg) {m : Str} (h : ¬ m = "centre" ∧ ¬ m = "most") : ObjOf (y_Differ T) T.c_Differ m := fun _ _ _ ⟨a, dx, w0, w1, e, g, _⟩ => ⟨a, dx, _, e, g, no_Differ (h.1) (h.2)⟩
theorem ins_Differ (T : Txt K mg) : ∀ Z v x, (y_Differ T).r Z v x → ∃ a dx fs, v = .ref a ∧ Z a = some (.ins T.c_Differ dx fs) := fun _ _ _ ⟨a, dx, _, _, e, h, _⟩ => ⟨a, dx, _, e, h⟩
def y_LFact (T : Txt K mg) : Ty LFact := ⟨fun Z v x => match x with
  | .k_parts a1 => ((yP2 K yStr (yList (yP3 K yInt (yList yInt) yInt)))).r Z v (("parts" : Str), a1)
  | .k_cell a1 a2 => ((yP3 K yStr (yList yInt) (yList yInt))).r Z v (("cell" : Str), a1, a2)
  | .k_box a1 a2 => ((yP3 K yStr (yList yInt) (yList yInt))).r Z v (("box" : Str), a1, a2)
  | .k_norms a1 a2 => ((yP3 K yStr yInt yInt)).r Z v (("norms" : Str), a1, a2)
  | .k_differ a1 a2 => ((yP3 K yStr (yList yInt) yInt)).r Z v (("differ" : Str), a1, a2),
  fun {Z Z2 v x} s h => match x, h with
  | .k_parts a1, h => ((yP2 K yStr (yList (yP3 K yInt (yList yInt) yInt)))).mono s h
  | .k_cell a1 a2, h => ((yP3 K yStr (yList yInt) (yList yInt))).mono s h
  | .k_box a1 a2, h => ((yP3 K yStr (yList yInt) (yList yInt))).mono s h
  | .k_norms a1 a2, h => ((yP3 K yStr yInt yInt)).mono s h
  | .k_differ a1 a2, h => ((yP3 K yStr (yList yInt) yInt)).mono s h⟩
theorem nn_LFact (T : Txt K mg) : NonNil (y_LFact T) := fun Z v x h => match x, h with
  | .k_parts a1, h => nn_p2 Z v (("parts" : Str), a1) h
  | .k_cell a1 a2, h => nn_p3 Z v (("cell" : Str), a1, a2) h
  | .k_box a1 a2, h => nn_p3 Z v (("box" : Str), a1, a2) h
  | .k_norms a1 a2, h => nn_p3 Z v (("norms" : Str), a1, a2) h
  | .k_differ a1 a2, h => nn_p3 Z v (("differ" : Str), a1, a2) h
theorem it_LFact_parts (T : Txt K mg) {μ : Type} {M : Mu μ} {σ : L2.St} {Z H : Hp} {s s1 : μ} {ta : TE} {a1 : (List (Int × (List Int) × Int))} (h : Ev M ta σ Z H s (ty (yP2 K yStr (yList (yP3 K yInt (yList yInt) yInt))) (("parts" : Str), a1)) s1) : Ev M ta σ Z H s (ty (y_LFact T) (.k_parts a1)) s1 := h.weak fun _ _ _ _ e => e
theorem it_LFact_cell (T : Txt K mg) {μ : Type} {M : Mu μ} {σ : L2.St} {Z H : Hp} {s s1 : μ} {ta : TE} {a1 : (List Int)} {a2 : (List Int)} (h : Ev M ta σ Z H s (ty (yP3 K yStr (yList yInt) (yList yInt)) (("cell" : Str), a1, a2)) s1) : Ev M ta σ Z H s (ty (y_LFact T) (.k_cell a1 a2)) s1 := h.weak fun _ _ _ _ e => e
theorem it_LFact_box (T : Txt K mg) {μ : Type} {M : Mu μ} {σ : L2.St} {Z H : Hp} {s s1 : μ} {ta : TE} {a1 : (List Int)} {a2 : (List Int)} (h : Ev M ta σ Z H s (ty (yP3 K yStr (yList yInt) (yList yInt)) (("box" : Str), a1, a2)) s1) : Ev M ta σ Z H s (ty (y_LFact T) (.k_box a1 a2)) s1 := h.weak fun _ _ _ _ e => e
theorem it_LFact_norms (T : Txt K mg) {μ : Type} {M : Mu μ} {σ : L2.St} {Z H : Hp} {s s1 : μ} {ta : TE} {a1 : Int} {a2 : Int} (h : Ev M ta σ Z H s (ty (yP3 K yStr yInt yInt) (("norms" : Str), a1, a2)) s1) : Ev M ta σ Z H s (ty (y_LFact T) (.k_norms a1 a2)) s1 := h.weak fun _ _ _ _ e => e
theorem it_LFact_differ (T : Txt K mg) {μ : Type} {M : Mu μ} {σ : L2.St} {Z H : Hp} {s s1 : μ} {ta : TE} {a1 : (List Int)} {a2 : Int} (h : Ev M ta σ Z H s (ty (yP3 K yStr (yList yInt) yInt) (("differ" : Str), a1, a2)) s1) : Ev M ta σ Z H s (ty (y_LFact T) (.k_differ a1 a2)) s1 := h.weak fun _ _ _ _ e => e
theorem tg_LFact (T : Txt K mg) {μ : Type} {M : Mu μ} {σ : L2.St} {Z H : Hp} {s s1 s2 : μ} {ta tb : TE} {x : LFact} (ha : Ev M ta σ Z H s (ty (y_LFact T) x) s1) (hb : Ev M tb σ Z H s1 (ty yInt 0) s2) : Ev M (tOp (rIxT K) ta tb) σ Z H s (ty yStr x.tag) s2 := by
  cases x with
  | k_parts a1 => have e2 := ev_part po2_0 (ha.weak (R' := ty (yP2 K yStr (yList (yP3 K yInt (yList yInt) yInt))) (("parts" : Str), a1)) fun _ _ _ _ e => e) hb; exact e2
  | k_cell a1 a2 => have e2 := ev_part po3_0 (ha.weak (R' := ty (yP3 K yStr (yList yInt) (yList yInt)) (("cell" : Str), a1, a2)) fun _ _ _ _ e => e) hb; exact e2
  | k_box a1 a2 => have e2 := ev_part po3_0 (ha.weak (R' := ty (yP3 K yStr (yList yInt) (yList yInt)) (("box" : Str), a1, a2)) fun _ _ _ _ e => e) hb; exact e2
  | k_norms a1 a2 => have e2 := ev_part po3_0 (ha.weak (R' := ty (yP3 K yStr yInt yInt) (("norms" : Str), a1, a2)) fun _ _ _ _ e => e) hb; exact e2
  | k_differ a1 a2 => have e2 := ev_part po3_0 (ha.weak (R' := ty (yP3 K yStr (yList yInt) yInt) (("differ" : Str), a1, a2)) fun _ _ _ _ e => e) hb; exact e2
theorem sl_LFact_0 (T : Txt K mg) {μ : Type} {M : Mu μ} {σ : L2.St} {Z H : Hp} {s s1 s2 : μ} {ta tb : TE} {x : LFact} {y : (List (Int × (List Int) × Int))} (ha : Ev M ta σ Z H s (ty (y_LFact T) x) s1) (hb : Ev M tb σ Z H s1 (ty yInt 1) s2) (e : x.s_0 = some y) : Ev M (tOp (rIxT K) ta tb) σ Z H s (ty (yList (yP3 K yInt (yList yInt) yInt)) y) s2 := by
  cases x with
  | k_parts a1 => have e := Option.some.inj e; subst e; have e2 := ev_part po2_1 (ha.weak (R' := ty (yP2 K yStr (yList (yP3 K yInt (yList yInt) yInt))) (("parts" : Str), a1)) fun _ _ _ _ e => e) hb; exact e2
  | k_cell a1 a2 => cases e
  | k_box a1 a2 => cases e
  | k_norms a1 a2 => cases e
  | k_differ a1 a2 => cases e
theorem sl_LFact_1 (T : Txt K mg) {μ : Type} {M : Mu μ} {σ : L2.St} {Z H : Hp} {s s1 s2 : μ} {ta tb : TE} {x : LFact} {y : (List Int)} (ha : Ev M ta σ Z H s (ty (y_LFact T) x) s1) (hb : Ev M tb σ Z H s1 (ty yInt 1) s2) (e : x.s_1 = some y) : Ev M (tOp (rIxT K) ta tb) σ Z H s (ty (yList yInt) y) s2 := by
  cases x with
  | k_parts a1 => cases e
  | k_cell a1 a2 => have e := Option.some.inj e; subst e; have e2 := ev_part po3_1 (ha.weak (R' := ty (yP3 K yStr (yList yInt) (yList yInt)) (("cell" : Str), a1, a2)) fun _ _ _ _ e => e) hb; exact e2
  | k_box a1 a2 => have e := Option.some.inj e; subst e; have e2 := ev_part po3_1 (ha.weak (R' := ty (yP3 K yStr (yList yInt) (yList yInt)) (("box" : Str), a1, a2)) fun _ _ _ _ e => e) hb; exact e2
  | k_norms a1 a2 => cases e
  | k_differ a1 a2 => have e := Option.some.inj e; subst e; have e2 := ev_part po3_1 (ha.weak (R' := ty (yP3 K yStr (yList yInt) yInt) (("differ" : Str), a1, a2)) fun _ _ _ _ e => e) hb; exact e2
theorem sl_LFact_2 (T : Txt K mg) {μ : Type} {M : Mu μ} {σ : L2.St} {Z H : Hp} {s s1 s2 : μ} {ta tb : TE} {x : LFact} {y : (List Int)} (ha : Ev M ta σ Z H s (ty (y_LFact T) x) s1) (hb : Ev M tb σ Z H s1 (ty yInt 2) s2) (e : x.s_2 = some y) : Ev M (tOp (rIxT K) ta tb) σ Z H s (ty (yList yInt) y) s2 := by
  cases x with
  | k_parts a1 => cases e
  | k_cell a1 a2 => have e := Option.some.inj e; subst e; have e2 := ev_part po3_2 (ha.weak (R' := ty (yP3 K yStr (yList yInt) (yList yInt)) (("cell" : Str), a1, a2)) fun _ _ _ _ e => e) hb; exact e2
  | k_box a1 a2 => have e := Option.some.inj e; subst e; have e2 := ev_part po3_2 (ha.weak (R' := ty (yP3 K yStr (yList yInt) (yList yInt)) (("box" : Str), a1, a2)) fun _ _ _ _ e => e) hb; exact e2
  | k_norms a1 a2 => cases e
  | k_differ a1 a2 => cases e
theorem sl_LFact_3 (T : Txt K mg) {μ : Type} {M : Mu μ} {σ : L2.St} {Z H : Hp} {s s1 s2 : μ} {ta tb : TE} {x : LFact} {y : Int} (ha : Ev M ta σ Z H s (ty (y_LFact T) x) s1) (hb : Ev M tb σ Z H s1 (ty yInt 1) s2) (e : x.s_3 = some y) : Ev M (tOp (rIxT K) ta tb) σ Z H s (ty yInt y) s2 := by
  cases x with
  | k_parts a1 => cases e
  | k_cell a1 a2 => cases e
  | k_box a1 a2 => cases e
  | k_norms a1 a2 => have e := Option.some.inj e; subst e; have e2 := ev_part po3_1 (ha.weak (R' := ty (yP3 K yStr yInt yInt) (("norms" : Str), a1, a2)) fun _ _ _ _ e => e) hb; exact e2
  | k_differ a1 a2 => cases e
theorem sl_LFact_4 (T : Txt K mg) {μ : Type} {M : Mu μ} {σ : L2.St} {Z H : Hp} {s s1 s2 : μ} {ta tb : TE} {x : LFact} {y : Int} (ha : Ev M ta σ Z H s (ty (y_LFact T) x) s1) (hb : Ev M tb σ Z H s1 (ty yInt 2) s2) (e : x.s_4 = some y) : Ev M (tOp (rIxT K) ta tb) σ Z H s (ty yInt y) s2 := by
  cases x with
  | k_parts a1 => cases e
  | k_cell a1 a2 => cases e
  | k_box a1 a2 => cases e
  | k_norms a1 a2 => have e := Option.some.inj e; subst e; have e2 := ev_part po3_2 (ha.weak (R' := ty (yP3 K yStr yInt yInt) (("norms" : Str), a1, a2)) fun _ _ _ _ e => e) hb; exact e2
  | k_differ a1 a2 => have e := Option.some.inj e; subst e; have e2 := ev_part po3_2 (ha.weak (R' := ty (yP3 K yStr (yList yInt) yInt) (("differ" : Str), a1, a2)) fun _ _ _ _ e => e) hb; exact e2
theorem eqw_LFact (T : Txt K mg) : EqW K (y_LFact T) d_LFact 8 where
  dp := fun Z H v x sz h => match x, h with
    | .k_parts a1, h => EqW.dp (K := K) (τ := (yP2 K yStr (yList (yP3 K yInt (yList yInt) yInt)))) (eqw_p2 eqd_str.w (eqw_list (eqw_p3 eqd_int.w (eqw_list eqd_int.w) eqd_int.w))) Z H v (("parts" : Str), a1) sz h
    | .k_cell a1 a2, h => EqW.dp (K := K) (τ := (yP3 K yStr (yList yInt) (yList yInt))) (eqw_p3 eqd_str.w (eqw_list eqd_int.w) (eqw_list eqd_int.w)) Z H v (("cell" : Str), a1, a2) sz h
    | .k_box a1 a2, h => EqW.dp (K := K) (τ := (yP3 K yStr (yList yInt) (yList yInt))) (eqw_p3 eqd_str.w (eqw_list eqd_int.w) (eqw_list eqd_int.w)) Z H v (("box" : Str), a1, a2) sz h
    | .k_norms a1 a2, h => EqW.dp (K := K) (τ := (yP3 K yStr yInt yInt)) (eqw_p3 eqd_str.w eqd_int.w eqd_int.w) Z H v (("norms" : Str), a1, a2) sz h
    | .k_differ a1 a2, h => EqW.dp (K := K) (τ := (yP3 K yStr (yList yInt) yInt)) (eqw_p3 eqd_str.w (eqw_list eqd_int.w) eqd_int.w) Z H v (("differ" : Str), a1, a2) sz h
  lay := fun Z v x h => match x, h with
    | .k_parts a1, h => EqW.lay (K := K) (τ := (yP2 K yStr (yList (yP3 K yInt (yList yInt) yInt)))) (eqw_p2 eqd_str.w (eqw_list (eqw_p3 eqd_int.w (eqw_list eqd_int.w) eqd_int.w))) Z v (("parts" : Str), a1) h
    | .k_cell a1 a2, h => EqW.lay (K := K) (τ := (yP3 K yStr (yList yInt) (yList yInt))) (eqw_p3 eqd_str.w (eqw_list eqd_int.w) (eqw_list eqd_int.w)) Z v (("cell" : Str), a1, a2) h
    | .k_box a1 a2, h => EqW.lay (K := K) (τ := (yP3 K yStr (yList yInt) (yList yInt))) (eqw_p3 eqd_str.w (eqw_list eqd_int.w) (eqw_list eqd_int.w)) Z v (("box" : Str), a1, a2) h
    | .k_norms a1 a2, h => EqW.lay (K := K) (τ := (yP3 K yStr yInt yInt)) (eqw_p3 eqd_str.w eqd_int.w eqd_int.w) Z v (("norms" : Str), a1, a2) h
    | .k_differ a1 a2, h => EqW.lay (K := K) (τ := (yP3 K yStr (yList yInt) yInt)) (eqw_p3 eqd_str.w (eqw_list eqd_int.w) eqd_int.w) Z v (("differ" : Str), a1, a2) h
  dep := fun x => match x with
    | .k_parts a1 => Nat.le_trans (EqW.dep (K := K) (τ := (yP2 K yStr (yList (yP3 K yInt (yList yInt) yInt)))) (eqw_p2 eqd_str.w (eqw_list (eqw_p3 eqd_int.w (eqw_list eqd_int.w) eqd_int.w))) (("parts" : Str), a1)) (by decide)
    | .k_cell a1 a2 => Nat.le_trans (EqW.dep (K := K) (τ := (yP3 K yStr (yList yInt) (yList yInt))) (eqw_p3 eqd_str.w (eqw_list eqd_int.w) (eqw_list eqd_int.w)) (("cell" : Str), a1, a2)) (by decide)
    | .k_box a1 a2 => Nat.le_trans (EqW.dep (K := K) (τ := (yP3 K yStr (yList yInt) (yList yInt))) (eqw_p3 eqd_str.w (eqw_list eqd_int.w) (eqw_list eqd_int.w)) (("box" : Str), a1, a2)) (by decide)
    | .k_norms a1 a2 => Nat.le_trans (EqW.dep (K := K) (τ := (yP3 K yStr yInt yInt)) (eqw_p3 eqd_str.w eqd_int.w eqd_int.w) (("norms" : Str), a1, a2)) (by decide)
    | .k_differ a1 a2 => Nat.le_trans (EqW.dep (K := K) (τ := (yP3 K yStr (yList yInt) yInt)) (eqw_p3 eqd_str.w (eqw_list eqd_int.w) eqd_int.w) (("differ" : Str), a1, a2)) (by decide)
theorem tx_LFact (T : Txt K mg) {fp : List Addr} {x : LFact} : ∀ Z H v, Same Z H → (ty (fp := fp) (y_LFact T) x).r Z H v → TyX K H v (.type "tuple") := fun Z H v sz h => match x, h with
  | .k_parts a1, h => tx_p2 Z H v sz (show (ty (fp := fp) (yP2 K yStr (yList (yP3 K yInt (yList yInt) yInt))) (("parts" : Str), a1)).r Z H v from h)
  | .k_cell a1 a2, h => tx_p3 Z H v sz (show (ty (fp := fp) (yP3 K yStr (yList yInt) (yList yInt)) (("cell" : Str), a1, a2)).r Z H v from h)
  | .k_box a1 a2, h => tx_p3 Z H v sz (show (ty (fp := fp) (yP3 K yStr (yList yInt) (yList yInt)) (("box" : Str), a1, a2)).r Z H v from h)
  | .k_norms a1 a2, h => tx_p3 Z H v sz (show (ty (fp := fp) (yP3 K yStr yInt yInt) (("norms" : Str), a1, a2)).r Z H v from h)
  | .k_differ a1 a2, h => tx_p3 Z H v sz (show (ty (fp := fp) (yP3 K yStr (yList yInt) yInt) (("differ" : Str), a1, a2)).r Z H v from h)
def y_Any (T : Txt K mg) : Ty Any := ⟨fun Z v x => match x with
  | .parts y => ((y_Parts T)).r Z v y
  | .cell y => ((y_Cell T)).r Z v y
  | .box y => ((y_Box T)).r Z v y
  | .norms y => ((y_Norms T)).r Z v y
  | .differ y => ((y_Differ T)).r Z v y
  | .t y => ((y_LFact T)).r Z v y,
  fun {Z Z2 v x} s h => match x, h with
  | .parts y, h => ((y_Parts T)).mono s h
  | .cell y, h => ((y_Cell T)).mono s h
  | .box y, h => ((y_Box T)).mono s h
  | .norms y, h => ((y_Norms T)).mono s h
  | .differ y, h => ((y_Differ T)).mono s h
  | .t y, h => ((y_LFact T)).mono s h⟩
theorem nn_Any (T : Txt K mg) : NonNil (y_Any T) := fun Z v x h => match x, h with
  | .parts y, h => (nn_Parts T) Z v y h
  | .cell y, h => (nn_Cell T) Z v y h
  | .box y, h => (nn_Box T) Z v y h
  | .norms y, h => (nn_Norms T) Z v y h
  | .differ y, h => (nn_Differ T) Z v y h
  | .t y, h => (nn_LFact T) Z v y h
theorem ij_Any_parts (T : Txt K mg) {μ : Type} {M : Mu μ} {σ : L2.St} {Z H : Hp} {s s1 : μ} {ta : TE} {x : Parts} (h : Ev M ta σ Z H s (ty (y_Parts T) x) s1) : Ev M ta σ Z H s (ty (y_Any T) (.parts x)) s1 := h.weak fun _ _ _ _ e => e
theorem pj_Any_parts (T : Txt K mg) {μ : Type} {M : Mu μ} {σ : L2.St} {Z H : Hp} {s s1 : μ} {ta : TE} {x : Any} {y : Parts} (h : Ev M ta σ Z H s (ty (y_Any T) x) s1) (e : x.p_parts = some y) : Ev M ta σ Z H s (ty (y_Parts T) y) s1 := by
  cases x <;> first | (have e := Option.some.inj e; subst e; exact h.weak fun _ _ _ _ e => e) | cases e
theorem ij_Any_cell (T : Txt K mg) {μ : Type} {M : Mu μ} {σ : L2.St} {Z H : Hp} {s s1 : μ} {ta : TE} {x : Cell} (h : Ev M ta σ Z H s (ty (y_Cell T) x) s1) : Ev M ta σ Z H s (ty (y_Any T) (.cell x)) s1 := h.weak fun _ _ _ _ e => e
theorem pj_Any_cell (T : Txt K mg) {μ : Type} {M : Mu μ} {σ : L2.St} {Z H : Hp} {s s1 : μ} {ta : TE} {x : Any} {y : Cell} (h : Ev M ta σ Z H s (ty (y_Any T) x) s1) (e : x.p_cell = some y) : Ev M ta σ Z H s (ty (y_Cell T) y) s1 := by
  cases x <;> first | (have e := Option.some.inj e; subst e; exact h.weak fun _ _ _ _ e => e) | cases e
theorem ij_Any_box (T : Txt K mg) {μ : Type} {M : Mu μ} {σ : L2.St} {Z H : Hp} {s s1 : μ} {ta : TE} {x : Box} (h : Ev M ta σ Z H s (ty (y_Box T) x) s1) : Ev M ta σ Z H s (ty (y_Any T) (.box x)) s1 := h.weak fun _ _ _ _ e => e
theorem pj_Any_box (T : Txt K mg) {μ : Type} {M : Mu μ} {σ : L2.St} {Z H : Hp} {s s1 : μ} {ta : TE} {x : Any} {y : Box} (h : Ev M ta σ Z H s (ty (y_Any T) x) s1) (e : x.p_box = some y) : Ev M ta σ Z H s (ty (y_Box T) y) s1 := by
  cases x <;> first | (have e := Option.some.inj e; subst e; exact h.weak fun _ _ _ _ e => e) | cases e
theorem ij_Any_norms (T : Txt K mg) {μ : Type} {M : Mu μ} {σ : L2.St} {Z H : Hp} {s s1 : μ} {ta : TE} {x : Norms} (h : Ev M ta σ Z H s (ty (y_Norms T) x) s1) : Ev M ta σ Z H s (ty (y_Any T) (.norms x)) s1 := h.weak fun _ _ _ _ e => e
theorem pj_Any_norms (T : Txt K mg) {μ : Type} {M : Mu μ} {σ : L2.St} {Z H : Hp} {s s1 : μ} {ta : TE} {x : Any} {y : Norms} (h : Ev M ta σ Z H s (ty (y_Any T) x) s1) (e : x.p_norms = some y) : Ev M ta σ Z H s (ty (y_Norms T) y) s1 := by
  cases x <;> first | (have e := Option.some.inj e; subst e; exact h.weak fun _ _ _ _ e => e) | cases e
theorem ij_Any_differ (T : Txt K mg) {μ : Type} {M : Mu μ} {σ : L2.St} {Z H : Hp} {s s1 : μ} {ta : TE} {x : Differ} (h : Ev M ta σ Z H s (ty (y_Differ T) x) s1) : Ev M ta σ Z H s (ty (y_Any T) (.differ x)) s1 := h.weak fun _ _ _ _ e => e
theorem pj_Any_differ (T : Txt K mg) {μ : Type} {M : Mu μ} {σ : L2.St} {Z H : Hp} {s s1 : μ} {ta : TE} {x : Any} {y : Differ} (h : Ev M ta σ Z H s (ty (y_Any T) x) s1) (e : x.p_differ = some y) : Ev M ta σ Z H s (ty (y_Differ T) y) s1 := by
  cases x <;> first | (have e := Option.some.inj e; subst e; exact h.weak fun _ _ _ _ e => e) | cases e
theorem ij_Any_t (T : Txt K mg) {μ : Type} {M : Mu μ} {σ : L2.St} {Z H : Hp} {s s1 : μ} {ta : TE} {x : LFact} (h : Ev M ta σ Z H s (ty (y_LFact T) x) s1) : Ev M ta σ Z H s (ty (y_Any T) (.t x)) s1 := h.weak fun _ _ _ _ e => e
theorem pj_Any_t (T : Txt K mg) {μ : Type} {M : Mu μ} {σ : L2.St} {Z H : Hp} {s s1 : μ} {ta : TE} {x : Any} {y : LFact} (h : Ev M ta σ Z H s (ty (y_Any T) x) s1) (e : x.p_t = some y) : Ev M ta σ Z H s (ty (y_LFact T) y) s1 := by
  cases x <;> first | (have e := Option.some.inj e; subst e; exact h.weak fun _ _ _ _ e => e) | cases e
def cls_Any (T : Txt K mg) : Any → Value
  | .parts _ => (.ref T.c_Parts)
  | .cell _ => (.ref T.c_Cell)
  | .box _ => (.ref T.c_Box)
  | .norms _ => (.ref T.c_Norms)
  | .differ _ => (.ref T.c_Differ)
  | .t _ => (.type "tuple")
theorem tx_Any (T : Txt K mg) {fp : List Addr} {x : Any} : ∀ Z H v, Same Z H → (ty (fp := fp) (y_Any T) x).r Z H v → TyX K H v (cls_Any T x) := fun Z H v sz h => match x, h with
  | .parts y, h => (tx_Parts T) Z H v sz (show (ty (fp := fp) (y_Parts T) y).r Z H v from h)
  | .cell y, h => (tx_Cell T) Z H v sz (show (ty (fp := fp) (y_Cell T) y).r Z H v from h)
  | .box y, h => (tx_Box T) Z H v sz (show (ty (fp := fp) (y_Box T) y).r Z H v from h)
  | .norms y, h => (tx_Norms T) Z H v sz (show (ty (fp := fp) (y_Norms T) y).r Z H v from h)
  | .differ y, h => (tx_Differ T) Z H v sz (show (ty (fp := fp) (y_Differ T) y).r Z H v from h)
  | .t y, h => (tx_LFact T) Z H v sz (show (ty (fp := fp) (y_LFact T) y).r Z H v from h)
theorem kit_Any_Parts (T : Txt K mg) (x : Any) : PySem.W.kitOne K (cls_Any T x) (.ref T.c_Parts) = some (x.is_Parts) := match x with
  | .parts _ => (show PySem.W.kitOne K (.ref T.c_Parts) (.ref T.c_Parts) = some true from T.kit_Parts_Parts)
  | .cell _ => (show PySem.W.kitOne K (.ref T.c_Cell) (.ref T.c_Parts) = some false from T.kit_Cell_Parts)
  | .box _ => (show PySem.W.kitOne K (.ref T.c_Box) (.ref T.c_Parts) = some false from T.kit_Box_Parts)
  | .norms _ => (show PySem.W.kitOne K (.ref T.c_Norms) (.ref T.c_Parts) = some false from T.kit_Norms_Parts)
  | .differ _ => (show PySem.W.kitOne K (.ref T.c_Differ) (.ref T.c_Parts) = some false from T.kit_Differ_Parts)
  | .t _ => (show PySem.W.kitOne K (.type "tuple") (.ref T.c_Parts) = some false from T.kit_tuple_Parts)
theorem kit_Any_Cell (T : Txt K mg) (x : Any) : PySem.W.kitOne K (cls_Any T x) (.ref T.c_Cell) = some (x.is_Cell) := match x with
  | .parts _ => (show PySem.W.kitOne K (.ref T.c_Parts) (.ref T.c_Cell) = some false from T.kit_Parts_Cell)
  | .cell _ => (show PySem.W.kitOne K (.ref T.c_Cell) (.ref T.c_Cell) = some true from T.kit_Cell_Cell)
  | .box _ => (show PySem.W.kitOne K (.ref T.c_Box) (.ref T.c_Cell) = some false from T.kit_Box_Cell)
  | .norms _ => (show PySem.W.kitOne K (.ref T.c_Norms) (.ref T.c_Cell) = some false from T.kit_Norms_Cell)
  | .differ _ => (show PySem.W.kitOne K (.ref T.c_Differ) (.ref T.c_Cell) = some false from T.kit_Differ_Cell)
  | .t _ => (show PySem.W.kitOne K (.type "tuple") (.ref T.c_Cell) = some false from T.kit_tuple_Cell)
theorem kit_Any_Box (T : Txt K mg) (x : Any) : PySem.W.kitOne K (cls_Any T x) (.ref T.c_Box) = some (x.is_Box) := match x with
  | .parts _ => (show PySem.W.kitOne K (.ref T.c_Parts) (.ref T.c_Box) = some false from T.kit_Parts_Box)
  | .cell _ => (show PySem.W.kitOne K (.ref T.c_Cell) (.ref T.c_Box) = some false from T.kit_Cell_Box)
  | .box _ => (show PySem.W.kitOne K (.ref T.c_Box) (.ref T.c_Box) = some true from T.kit_Box_Box)
  | .norms _ => (show PySem.W.kitOne K (.ref T.c_Norms) (.ref T.c_Box) = some false from T.kit_Norms_Box)
  | .differ _ => (show PySem.W.kitOne K (.ref T.c_Differ) (.ref T.c_Box) = some false from T.kit_Differ_Box)
  | .t _ => (show PySem.W.kitOne K (.type "tuple") (.ref T.c_Box) = some false from T.kit_tuple_Box)
theorem kit_Any_Norms (T : Txt K mg) (x : Any) : PySem.W.kitOne K (cls_Any T x) (.ref T.c_Norms) = some (x.is_Norms) := match x with
  | .parts _ => (show PySem.W.kitOne K (.ref T.c_Parts) (.ref T.c_Norms) = some false from T.kit_Parts_Norms)
  | .cell _ => (show PySem.W.kitOne K (.ref T.c_Cell) (.ref T.c_Norms) = some false from T.kit_Cell_Norms)
  | .box _ => (show PySem.W.kitOne K (.ref T.c_Box) (.ref T.c_Norms) = some false from T.kit_Box_Norms)
  | .norms _ => (show PySem.W.kitOne K (.ref T.c_Norms) (.ref T.c_Norms) = some true from T.kit_Norms_Norms)
  | .differ _ => (show PySem.W.kitOne K (.ref T.c_Differ) (.ref T.c_Norms) = some false from T.kit_Differ_Norms)
  | .t _ => (show PySem.W.kitOne K (.type "tuple") (.ref T.c_Norms) = some false from T.kit_tuple_Norms)
theorem kit_Any_Differ (T : Txt K mg) (x : Any) : PySem.W.kitOne K (cls_Any T x) (.ref T.c_Differ) = some (x.is_Differ) := match x with
  | .parts _ => (show PySem.W.kitOne K (.ref T.c_Parts) (.ref T.c_Differ) = some false from T.kit_Parts_Differ)
  | .cell _ => (show PySem.W.kitOne K (.ref T.c_Cell) (.ref T.c_Differ) = some false from T.kit_Cell_Differ)
  | .box _ => (show PySem.W.kitOne K (.ref T.c_Box) (.ref T.c_Differ) = some false from T.kit_Box_Differ)
  | .norms _ => (show PySem.W.kitOne K (.ref T.c_Norms) (.ref T.c_Differ) = some false from T.kit_Norms_Differ)
  | .differ _ => (show PySem.W.kitOne K (.ref T.c_Differ) (.ref T.c_Differ) = some true from T.kit_Differ_Differ)
  | .t _ => (show PySem.W.kitOne K (.type "tuple") (.ref T.c_Differ) = some false from T.kit_tuple_Differ)
theorem nfs_Parts_Any (T : Txt K mg) (x : Any) : PySem.W.notFirst K T.c_Parts (cls_Any T x) = true := match x with
  | .parts _ => TPN.nf_self
  | .cell _ => T.nf_Parts_Cell
  | .box _ => T.nf_Parts_Box
  | .norms _ => T.nf_Parts_Norms
  | .differ _ => T.nf_Parts_Differ
  | .t _ => T.nf_Parts_tuple
theorem nfs_Cell_Any (T : Txt K mg) (x : Any) : PySem.W.notFirst K T.c_Cell (cls_Any T x) = true := match x with
  | .parts _ => T.nf_Cell_Parts
  | .cell _ => TPN.nf_self
  | .box _ => T.nf_Cell_Box
  | .norms _ => T.nf_Cell_Norms
  | .differ _ => T.nf_Cell_Differ
  | .t _ => T.nf_Cell_tuple
theorem nfs_Box_Any (T : Txt K mg) (x : Any) : PySem.W.notFirst K T.c_Box (cls_Any T x) = true := match x with
  | .parts _ => T.nf_Box_Parts
  | .cell _ => T.nf_Box_Cell
  | .box _ => TPN.nf_self
  | .norms _ => T.nf_Box_Norms
  | .differ _ => T.nf_Box_Differ
  | .t _ => T.nf_Box_tuple
theorem nfs_Norms_Any (T : Txt K mg) (x : Any) : PySem.W.notFirst K T.c_Norms (cls_Any T x) = true := match x with
  | .parts _ => T.nf_Norms_Parts
  | .cell _ => T.nf_Norms_Cell
  | .box _ => T.nf_Norms_Box
  | .norms _ => TPN.nf_self
  | .differ _ => T.nf_Norms_Differ
  | .t _ => T.nf_Norms_tuple
theorem nfs_Differ_Any (T : Txt K mg) (x : Any) : PySem.W.notFirst K T.c_Differ (cls_Any T x) = true := match x with
  | .parts _ => T.nf_Differ_Parts
  | .cell _ => T.nf_Differ_Cell
  | .box _ => T.nf_Differ_Box
  | .norms _ => T.nf_Differ_Norms
  | .differ _ => TPN.nf_self
  | .t _ => T.nf_Differ_tuple


def sp_law_row (T : Txt K mg) : Sp := fun vs H Q _ => ∃ (sc : Addr) (ns : List Int) (k : Nat), vs = [.ref sc, .int (k : Nat)] ∧ (H sc = some (.lst (ns.map V.int))) ∧ Q (.int (rowZ ns k)) H
set_option maxHeartbeats 4000000 in
theorem ok_law_row (T : Txt K mg) : FnOk P w K mg base CX0 1 T.f_law_row T.d_law_row ["script", "k"] (sp_law_row T) := by
  refine T.F_law_row.ok sc_law_row (fun vs H Q E h => ?_) (fun cdv A outer s H vs Q E hr h => ?_)
  · obtain ⟨sc, ns, k, rfl, _⟩ := h
    rfl
  · obtain ⟨sc, ns, k, rfl, hS, q⟩ := h
    refine ⟨_, (pss_cons (ps_set (i := 2) sc_law_row.nd rfl (.inl rfl) pe_int) 
      (pss_cut (ps_if (pt_cmpR op_lt (pv 1) (pe_callB call_len_seq (by rfl) T.m_len PySem.boot_len (pa_cons (pv 0) pa_nil)) (nomark _)) (pss_one (ps_set (i := 2) sc_law_row.nd rfl (.inl rfl) (pe_ix ix_list (pv 0) (pv 1) (fun _ _ => rfl)))) pss_nil) 
      (pss_cut (ps_if (pt_cmpR op_lt (pv 2) pe_int (nomark _)) (pss_one (ps_set (i := 2) sc_law_row.nd rfl (.inl rfl) (pe_op op_sub (pe_op op_mul (pe_un un_neg pe_int) (pv 2)) pe_int))) pss_nil) 
      (pss_cut (ps_if (pt_cmpR op_lt (pv 2) (pe_op op_pow pe_int pe_int) (nomark _)) (pss_cons (ps_set (i := 3) sc_law_row.nd rfl (.inl rfl) (pe_op op_mod (pe_callTy call_int1 (by rfl) T.m_int (by decide +kernel) (pa_cons (pe_op op_add (pe_op op_add (pe_op op_mul (pv 2) pe_int) (pe_op op_mul (pv 1) pe_int)) pe_int) pa_nil)) pe_int)) 
      (pss_cons (ps_set (i := 4) sc_law_row.nd rfl (.inl rfl) (pe_op op_mod (pe_callTy call_int1 (by rfl) T.m_int (by decide +kernel) (pa_cons (pe_op op_add (pe_op op_add (pe_op op_add (pe_op op_mul (pv 3) pe_int) (pe_op op_mul (pv 2) pe_int)) (pv 1)) pe_int) pa_nil)) pe_int)) 
      (pss_cons (ps_set (i := 5) sc_law_row.nd rfl (.inl rfl) (pe_op op_mod (pe_callTy call_int1 (by rfl) T.m_int (by decide +kernel) (pa_cons (pe_op op_add (pe_op op_add (pe_op op_mul (pv 4) pe_int) (pe_op op_mul (pv 3) (pv 4))) pe_int) pa_nil)) pe_int)) 
      (pss_one (ps_set (i := 2) sc_law_row.nd rfl (.inl rfl) (pe_op op_add (pe_op op_add (pv 3) (pe_op op_mul (pv 4) pe_int)) (pe_op op_mul (pv 5) (pe_op op_pow pe_int pe_int)))))))) pss_nil) 
      (pss_one (ps_ret (pv 2))))))), ?_⟩
    -- if k < len(script): cell = script[k]
    refine ⟨fun σ' H' => H' = H ∧ σ' = [some (.ref sc), some (.int (k : Nat)), some (.int (ns.getD k 0)), none, none, none], ?_, ?_⟩
    · refine ⟨_, rfl, _, rfl, sc, _, rfl, .inl (SqL.of hS), _, _, rfl, rfl, _, rfl, ite2 (fun e => ?_) (fun e => ?_)⟩
      · have hl : (k : Int) < ((ns.map V.int).length : Int) := of_decide_eq_true e
        rw [List.length_map] at hl
        have hk : k < ns.length := by omega
        exact ⟨_, rfl, _, rfl, sc, _, (k : Nat), .int (ns.getD k 0), rfl, rfl, SqL.of hS, at_of (j := k) rfl (by rw [List.getElem?_map, getD_lt hk]; rfl), rfl, rfl⟩
      · have hl : ¬ (k : Int) < ((ns.map V.int).length : Int) := fun h => e (decide_eq_true h)
        rw [List.length_map] at hl
        have hk : ¬ k < ns.length := by omega
        exact ⟨rfl, by rw [getD_ge hk]; rfl⟩
    rintro σ' H' ⟨rfl, rfl⟩
    -- if cell < 0: cell = -2 * cell - 1
    refine ⟨fun σ' H2 => H2 = H' ∧ σ' = [some (.ref sc), some (.int (k : Nat)), some (.int (row1 ns k)), none, none, none], ?_, ?_⟩
    · refine ⟨_, rfl, _, _, rfl, rfl, _, rfl, ite2 (fun e => ?_) (fun e => ?_)⟩
      · have hc : ns.getD k 0 < 0 := of_decide_eq_true e
        refine ⟨2, rfl, _, rfl, _, _, rfl, rfl, .inl ⟨by decide, by decide⟩, _, _, rfl, rfl, rfl, ?_⟩
        unfold row1
        rw [if_pos hc]
        rfl
      · have hc : ¬ ns.getD k 0 < 0 := fun h => e (decide_eq_true h)
        exact ⟨rfl, by unfold row1; rw [if_neg hc]⟩
    rintro σ' H2 ⟨rfl, rfl⟩
    have c0 := row1_nn ns k
    -- if cell < 10 ** 9: ..
    refine ⟨fun σ' H' => H' = H2 ∧ ∃ (x y z : Option V), σ' = [some (.ref sc), some (.int (k : Nat)), some (.int (rowZ ns k)), x, y, z], ?_, ?_⟩
    · refine ⟨_, rfl, _, _, rfl, rfl, ⟨by decide, by decide, by decide⟩, _, _, rfl, rfl, _, rfl, ite2 (fun e => ?_) (fun e => ?_)⟩
      · have h9 : row1 ns k < 10 ^ 9 := of_decide_eq_true e
        rw [rowZ_lo h9]
        generalize row1 ns k = c at h9 c0
        refine ⟨_, rfl, _, _, rfl, rfl, .inr ⟨by decide, by decide⟩, _, rfl, _, _, rfl, rfl, .inr ⟨by decide, by decide⟩, _, _, rfl, rfl, _, _, rfl, rfl, .inl ⟨_, rfl, ?_⟩⟩
        refine ⟨_, _, rfl, rfl, (by decide : (0 : Int) < 2147483647), ?_⟩
        dsimp only
        refine ⟨_, rfl, _, _, rfl, rfl, .inr ⟨by decide, by decide⟩, _, rfl, _, _, rfl, rfl, .inr ⟨by decide, by decide⟩, _, _, rfl, rfl, _, rfl, _, _, rfl, rfl, _, _, rfl, rfl, .inl ⟨_, rfl, ?_⟩⟩
        refine ⟨_, _, rfl, rfl, (by decide : (0 : Int) < 2147483629), ?_⟩
        dsimp only
        refine ⟨_, rfl, _, _, rfl, rfl, .inr ⟨by decide, by decide⟩, _, rfl, _, rfl, _, _, rfl, rfl, .inl ⟨by omega, by omega⟩, _, _, rfl, rfl, _, _, rfl, rfl, .inl ⟨_, rfl, ?_⟩⟩
        refine ⟨_, _, rfl, rfl, (by decide : (0 : Int) < 2147483587), ?_⟩
        dsimp only
        refine ⟨_, rfl, _, rfl, _, _, rfl, rfl, .inr ⟨by decide, by decide⟩, _, _, rfl, rfl, _, rfl, _, _, rfl, rfl, ⟨by decide, by decide, by decide⟩, _, _, rfl, rfl, .inr ⟨by decide, by decide⟩, _, _, rfl, rfl, rfl, _, _, _, rfl⟩
      · have h9 : ¬ row1 ns k < 10 ^ 9 := fun h => e (decide_eq_true h)
        rw [rowZ_hi h9]
        exact ⟨rfl, _, _, _, rfl⟩
    rintro σ' H' ⟨rfl, x, y, z, rfl⟩
    exact ⟨_, rfl, q⟩
def sp_law_next (T : Txt K mg) : Sp := fun vs H Q _ => ∃ (st sc : Addr) (Z0 : Hp) (ds : DS) (v_many : V) (m : Int), vs = [.ref st, v_many] ∧ (Same Z0 H) ∧ ((muD st sc).m ds Z0 H) ∧ (v_many = .int m) ∧ (NxOk m) ∧ ∀ v Z' H', Step (muD st sc).fp Z0 H Z' H' → (muD st sc).m (nxS ds m) Z' H' → yInt.r Z' v (nxV ds m) → Q v H'
set_option maxHeartbeats 4000000 in
theorem ok_law_next (T : Txt K mg) : FnOk P w K mg base CX0 2 T.f_law_next T.d_law_next ["state", "many"] (sp_law_next T) := by
  have G_law_row : FnOk P w K mg base CX0 1 T.f_law_row T.d_law_row ["script", "k"] (sp_law_row T) := ok_law_row T
  refine T.F_law_next.ok sc_law_next (fun vs H Q E h => ?_) (fun cdv A outer s H vs Q E hr h => ?_)
  · obtain ⟨st, sc, Z0, ds, v_many, m, rfl, _⟩ := h
    rfl
  · obtain ⟨st, sc, Z0, ds, v_many, m, rfl, sz, hm, h_many, hok, q⟩ := h
    refine ⟨_, (pss_cut (ps_if (pt_cmpR op_lt (pe_ix ix_list (pv 0) pe_int (fun _ _ => rfl)) (pv 1) (nomark _)) (pss_cons (ps_asg (pe_call G_law_row (hr.mono (by decide)) (by rfl) T.g_law_row T.F_law_row.kp T.b_law_row .nil pass0 (pa_cons (pe_ix ix_list (pv 0) pe_int (fun _ _ => rfl)) (pa_cons (pe_ix ix_list (pv 0) pe_int (fun _ _ => rfl)) pa_nil))) (pg_sub (pv 0) pe_int set_list)) 
      (pss_one (ps_asg (pe_op op_add (pe_ix ix_list (pv 0) pe_int (fun _ _ => rfl)) pe_int) (pg_sub (pv 0) pe_int set_list)))) pss_nil) 
      (pss_cons (ps_set (i := 2) sc_law_next.nd rfl (.inl rfl) (pe_op op_mod (pe_callTy call_int1 (by rfl) T.m_int (by decide +kernel) (pa_cons (pe_ix ix_list (pv 0) pe_int (fun _ _ => rfl)) pa_nil)) (pv 1))) 
      (pss_cons (ps_asg (pe_op op_fdivW (pe_ix ix_list (pv 0) pe_int (fun _ _ => rfl)) (pv 1)) (pg_sub (pv 0) pe_int set_list)) 
      (pss_one (ps_ret (pv 2)))))), ?_⟩
    obtain ⟨m0, m1⟩ := hok
    subst h_many
    obtain ⟨h1, h2, h3⟩ := hm
    obtain ⟨ns, k, x⟩ := ds
    have g2 : H sc = some (.lst (ns.map V.int)) := sz _ _ h2
    have ne : sc ≠ st := fun e => by rw [e] at h2; rw [h2] at h3; cases h3
    refine ⟨fun σ' H' => Step [st] Z0 H Z0 H' ∧ σ' = [some (.ref st), some (.int m), none] ∧ H' st = some (.lst [.ref sc, .int ((if (x : Int) < m then k + 1 else k : Nat) : Int), .int ((DS.cur ⟨ns, k, x⟩ m : Nat) : Int)]), ?_, ?_⟩
    · refine ⟨_, rfl, st, _, _, _, rfl, rfl, SqL.of h1, at_of (j := 2) rfl rfl, _, rfl, _, _, rfl, rfl, _, rfl, ite2 (fun e => ?_) (fun e => ?_)⟩
      · have hlt : (x : Int) < m := of_decide_eq_true e
        refine ⟨_, rfl, st, _, _, _, rfl, rfl, SqL.of h1, at_of (j := 0) rfl rfl, _, rfl, st, _, _, _, rfl, rfl, SqL.of h1, at_of (j := 1) rfl rfl, sc, ns, k, rfl, g2, ?_⟩
        refine ⟨_, rfl, st, _, _, 2, rfl, rfl, h1, rfl, ?_⟩
        refine ⟨_, rfl, st, _, _, _, rfl, rfl, SqL.of upd_same, at_of (j := 1) rfl rfl, _, _, rfl, rfl, _, rfl, st, _, _, 1, rfl, rfl, upd_same, rfl, ?_⟩
        refine ⟨(Step.set sz h3).trans (Step.set (Step.set sz h3).s h3), rfl, ?_⟩
        rw [upd_same, if_pos hlt]
        have : ((DS.cur ⟨ns, k, x⟩ m : Nat) : Int) = rowZ ns k := by
          unfold DS.cur
          rw [if_pos hlt]
          have := rowZ_nn ns k
          show (((rowZ ns k).toNat : Nat) : Int) = rowZ ns k
          omega
        rw [this]
        rfl
      · have hlt : ¬ (x : Int) < m := fun h => e (decide_eq_true h)
        refine ⟨Step.refl sz, rfl, ?_⟩
        rw [h1, if_neg hlt]
        unfold DS.cur
        rw [if_neg hlt]
    rintro σ' H' ⟨hO, rfl, h4⟩
    -- drawn = int(state[2]) % many
    refine ⟨_, rfl, st, _, _, _, rfl, rfl, SqL.of h4, at_of (j := 2) rfl rfl, .inl ⟨_, rfl, ?_⟩⟩
    refine ⟨_, rfl, _, _, rfl, rfl, m0, ?_⟩
    -- state[2] = state[2] // many
    refine ⟨_, rfl, st, _, _, _, rfl, rfl, SqL.of h4, at_of (j := 2) rfl rfl, _, rfl, _, _, rfl, rfl, wide_div m0 m1 (by decide) (by decide), ?_⟩
    refine ⟨_, rfl, st, _, _, 2, rfl, rfl, h4, rfl, ?_⟩
    have nn : 0 ≤ ((DS.cur ⟨ns, k, x⟩ m : Nat) : Int) / m := Int.ediv_nonneg (Int.natCast_nonneg _) (by omega)
    refine ⟨_, rfl, q _ Z0 _ (hO.trans (Step.set hO.s h3)) ⟨?_, h2, h3⟩ rfl⟩
    rw [upd_same]
    show some (HO.lst [_, _, _]) = some (HO.lst [_, _, V.int (((((DS.cur ⟨ns, k, x⟩ m : Nat) : Int) / m).toNat : Nat) : Int)])
    rw [Int.toNat_of_nonneg nn]
    rfl
theorem cs__law_next (T : Txt K mg) {st sc : Addr} {ds : DS} {E : XK} {m : Int} (h : NxOk m) : CallS (muD st sc) (sp_law_next T) E (rac (isRef st) (rac (ty yInt m) ra0)) ds (ty yInt (nxV ds m)) (nxS ds m) := by
  rintro Z H vs sz mm ⟨_, _, rfl, rfl, v_many, _, rfl, h_many, rfl⟩ Q q
  exact ⟨st, sc, Z, ds, v_many, m, rfl, sz, mm, h_many, h, q⟩
theorem cu__law_next (T : Txt K mg) {st sc : Addr} {ds : DS} {E : XK} {m : Int} {μ : Type} {M : Mu μ} {s s2 : μ} (hm : ∀ Z H, M.m s Z H → (muD st sc).m ds Z H) (hf : ∀ a ∈ (muD st sc).fp, a ∈ M.fp) (hp : ∀ Z H Z' H', M.m s Z H → Step (muD st sc).fp Z H Z' H' → (muD st sc).m (nxS ds m) Z' H' → M.m s2 Z' H') (h : NxOk m) : CallS M (sp_law_next T) E (rac (isRef st) (rac (ty yInt m) ra0)) s (ty yInt (nxV ds m)) s2 := by
  rintro Z H vs sz mm ⟨_, _, rfl, rfl, v_many, _, rfl, h_many, rfl⟩ Q q
  exact ⟨st, sc, Z, ds, v_many, m, rfl, sz, hm _ _ mm, h_many, h, fun v Z2 H2 st2 m2 hv => q v Z2 H2 (st2.weak fun a h => .inl (hf a h)) (hp _ _ _ _ mm st2 m2) hv⟩
def sp_law_vector (T : Txt K mg) : Sp := fun vs H Q _ => ∃ (st sc : Addr) (Z0 : Hp) (ds : DS) (v_size : V) (x_size : Int) (y : ((List Int) × DS)), vs = [.ref st, v_size] ∧ (Same Z0 H) ∧ ((muD st sc).m ds Z0 H) ∧ ((yInt).r Z0 v_size x_size) ∧ (F_law_vector ds x_size = some y) ∧ ∀ v Z' H', Step (muD st sc).fp Z0 H Z' H' → (muD st sc).m y.2 Z' H' → ((yList yInt)).r Z' v y.1 → Q v H'
set_option maxHeartbeats 4000000 in
theorem ok_law_vector (T : Txt K mg) : FnOk P w K mg base CX0 3 T.f_law_vector T.d_law_vector ["state", "size"] (sp_law_vector T) := by
  have G_law_next : FnOk P w K mg base CX0 2 T.f_law_next T.d_law_next ["state", "many"] (sp_law_next T) := ok_law_next T
  refine T.F_law_vector.ok sc_law_vector (fun vs H Q E h => ?_) (fun cdv A outer s H vs Q E hr h => ?_)
  · obtain ⟨st, sc, Z0, ds, v_size, x_size, y, rfl, _⟩ := h
    rfl
  · obtain ⟨st, sc, Z0, ds, v_size, x_size, y, rfl, sz, hm, h_size, hF, q⟩ := h
    refine ⟨_, (pss_cons (ps_set (i := 2) sc_law_vector.nd rfl (.inr rfl) (pe_ix ix_list (pe_lst (pa_cons pe_int (pa_cons pe_int (pa_cons pe_int pa_nil)))) (pe_call G_law_next (hr.mono (by decide)) (by rfl) T.g_law_next T.F_law_next.kp T.b_law_next .nil pass0 (pa_cons (pv 0) (pa_cons pe_int pa_nil))) (fun _ _ => rfl))) 
      (pss_one (ps_ret (pe_lc (own := [("k", 3)]) (g := gName 3) rfl sc_law_vector.nd (pi_range1 rfl T.m_range (pa_cons (pv 1) pa_nil)) (blkOk_by (own := [("k", 3)]) (N := ["state", "size", "spread", "k"]) (sc := defScope s_law_vector) (by decide +kernel)) (fun _ _ _ _ _ => (pg_name (i := 3) sc_law_vector.nd rfl (Or.inl rfl))) (fun _ _ _ _ _ => pts_nil) (fun _ _ _ _ _ => (pe_op op_sub (pe_call G_law_next (hr.mono (by decide)) (by rfl) T.g_law_next T.F_law_next.kp T.b_law_next .nil pass0 (pa_cons (pv 0) (pa_cons (pe_op op_add (pe_op op_mul pe_int (pv 2)) pe_int) pa_nil))) (pv 2))))))), ?_⟩
    have P := Pt.start (muD st sc) sz hm
    unfold F_law_vector at hF
    obtain ⟨i_11, h_12, hF⟩ := bind_inv hF
    refine st_seq (st_set P (ev_ixL (ev_li (ev_fz (en_listD (eva_conss ev_int (eva_conss ev_int (eva_conss ev_int (eva_nils (τ := yInt))))) (by show 3 ≤ sizeLine; decide)))) (ev_call (cs__law_next T (by decide +kernel)) (eva_cons (ev_ref rfl) (eva_cons ev_int eva_nil))) h_12) (fun v_13 Z1 H1 e P1 k_14 => ?_))
    refine st_nx ?_
    replace P := P1
    obtain ⟨g_15, hF⟩ := guard_inv hF
    obtain ⟨l_21, h_22, hF⟩ := bind_inv hF
    replace hF := Option.some.inj hF
    subst hF
    refine st_ret P (ev_fz (en_mapS (fun (x_16 : Int) (s_17 : DS) => (if NxOk (((2 : Int) * i_11) + (1 : Int)) then
    some (((nxV s_17 (((2 : Int) * i_11) + (1 : Int))) - i_11), (nxS s_17 (((2 : Int) * i_11) + (1 : Int)))) else none : Option (Int × DS))) (ei_rng1 (ev_var (τ := yInt) rfl h_size) g_15) (fun x_16 v_18 Z' H' s_17 p zz hh rx_19 hp => by
          have hy := hp
          obtain ⟨g_20, hy⟩ := guard_inv hy
          have hy := Option.some.inj hy
          subst hy
          exact ⟨_, tgt_name, rfl, (ev_sub (ev_call (cs__law_next T g_20) (eva_cons (ev_ref rfl) (eva_cons (ev_add (ev_mul ev_int (ev_var (τ := yInt) rfl k_14) (.inl (by decide))) ev_int) eva_nil))) (ev_var (τ := yInt) rfl k_14))⟩) h_22)) (fun v Z1 H1 P1 hv => ?_)
    exact q v _ _ P1.st P1.m hv
theorem cs_law_vector (T : Txt K mg) {st sc : Addr} {ds : DS} {E : XK} {x_size : Int} {y : (List Int) × DS} (h : F_law_vector ds x_size = some y) : CallS (muD st sc) (sp_law_vector T) E (rac (isRef st) (rac (ty yInt x_size) ra0)) ds (ty (yList yInt) y.1) y.2 := by
  rintro Z H vs sz m ⟨_, _, rfl, rfl, ⟨v_size, _, rfl, h_size, rfl⟩⟩ Q q
  exact ⟨st, sc, Z, ds, v_size, x_size, y, rfl, sz, m, h_size, h, fun v Z2 H2 s2 m2 hv => q v Z2 H2 s2 m2 hv⟩
theorem cu_law_vector (T : Txt K mg) {st sc : Addr} {ds : DS} {E : XK} {x_size : Int} {y : (List Int) × DS} {μ : Type} {M : Mu μ} {s s2 : μ} (hm : ∀ Z H, M.m s Z H → (muD st sc).m ds Z H) (hf : ∀ a ∈ (muD st sc).fp, a ∈ M.fp) (hp : ∀ Z H Z' H', M.m s Z H → Step (muD st sc).fp Z H Z' H' → (muD st sc).m y.2 Z' H' → M.m s2 Z' H') (h : F_law_vector ds x_size = some y) : CallS M (sp_law_vector T) E (rac (isRef st) (rac (ty yInt x_size) ra0)) s (ty (yList yInt) y.1) s2 := by
  rintro Z H vs sz m ⟨_, _, rfl, rfl, ⟨v_size, _, rfl, h_size, rfl⟩⟩ Q q
  exact ⟨st, sc, Z, ds, v_size, x_size, y, rfl, sz, hm _ _ m, h_size, h, fun v Z2 H2 st2 m2 hv => q v Z2 H2 (st2.weak fun a h => .inl (hf a h)) (hp _ _ _ _ m st2 m2) hv⟩
def sp_Record___init__ (T : Txt K mg) : Sp := fun vs H Q _ => ∃ (p dx : Addr) (Z0 : Hp) (v_name : V) (v_vector : V) (v_fields : V) (v_words : V) (x_name : Str) (x_vector : (List Int)) (x_fields : (List (Str × Int))) (x_words : (List (Str × Int))), vs = [.ref p, v_name, v_vector, v_fields, v_words] ∧ (Same Z0 H) ∧ (H p = some (.ins T.c_Record dx [])) ∧ (Z0 p = none) ∧ ((yStr).r Z0 v_name x_name) ∧ (((yList yInt)).r Z0 v_vector x_vector) ∧ (((yTup K (yP2 K yStr yInt))).r Z0 v_fields x_fields) ∧ (((yTup K (yP2 K yStr yInt))).r Z0 v_words x_words) ∧ ∀ Z' H' o, Step [p] Z0 H Z' H' → H' p = some o → (y_Record T).r (upd Z' p o) (.ref p) (F_Record___init__ x_name x_vector x_fields x_words) → Q .non H'
set_option maxHeartbeats 4000000 in
theorem ok_Record___init__ (T : Txt K mg) : FnOk P w K mg base CX0 1 T.f_Record___init__ T.d_Record___init__ ["self", "name", "vector", "fields", "words"] (sp_Record___init__ T) := by
  refine T.F_Record___init__.ok sc_Record___init__ (fun vs H Q E h => ?_) (fun cdv A outer s H vs Q E hr h => ?_)
  · obtain ⟨p, dx, Z0, v_name, v_vector, v_fields, v_words, x_name, x_vector, x_fields, x_words, rfl, _⟩ := h
    rfl
  · obtain ⟨p, dx, Z0, v_name, v_vector, v_fields, v_words, x_name, x_vector, x_fields, x_words, rfl, sz, hself, zself, h_name, h_vector, h_fields, h_words, q⟩ := h
    refine ⟨_, PSs.nox (pss_cons (ps_fld (pv 0) (pv 1) rfl) 
      (pss_cons (ps_fld (pv 0) (pe_callTy call_tuple_of (by rfl) T.m_tuple (by decide +kernel) (pa_cons (pv 2) pa_nil)) rfl) 
      (pss_cons (ps_fld (pv 0) (pe_callTy call_tuple_of (by rfl) T.m_tuple (by decide +kernel) (pa_cons (pe_lc (own := [("pair", 5)]) (g := gName 5) rfl sc_Record___init__.nd (pi_tup (pv 3)) (blkOk_by (own := [("pair", 5)]) (N := ["self", "name", "vector", "fields", "words", "pair"]) (sc := defScope s_Record___init__) (by decide +kernel)) (fun _ _ _ _ _ => (pg_name (i := 5) sc_Record___init__.nd rfl (Or.inl rfl))) (fun _ _ _ _ _ => pts_nil) (fun _ _ _ _ _ => (pe_callTy (r := rTupleB K) (by exact call_tuple_of) (by rfl) T.m_tuple (by decide +kernel) (pa_cons (pv 5) pa_nil)))) pa_nil)) rfl) 
      (pss_one (ps_fld (pv 0) (pe_callTy call_tuple_of (by rfl) T.m_tuple (by decide +kernel) (pa_cons (pe_lc (own := [("pair", 5)]) (g := gName 5) rfl sc_Record___init__.nd (pi_tup (pv 4)) (blkOk_by (own := [("pair", 5)]) (N := ["self", "name", "vector", "fields", "words", "pair"]) (sc := defScope s_Record___init__) (by decide +kernel)) (fun _ _ _ _ _ => (pg_name (i := 5) sc_Record___init__.nd rfl (Or.inl rfl))) (fun _ _ _ _ _ => pts_nil) (fun _ _ _ _ _ => (pe_callTy (r := rTupleB K) (by exact call_tuple_of) (by rfl) T.m_tuple (by decide +kernel) (pa_cons (pv 5) pa_nil)))) pa_nil)) rfl))))), ?_⟩
    have P : Pt [p] Z0 H muN Z0 H () := ⟨Step.refl sz, trivial, fun _ h => (nomatch h)⟩
    generalize hF : F_Record___init__ x_name x_vector x_fields x_words = y at q
    unfold F_Record___init__ at hF
    refine st_seq (st_fld (x := x_name) (τ := yStr) P hself zself List.not_mem_nil (.inl List.mem_cons_self) rfl (ev_var (τ := yStr) rfl h_name) T.cl_Record T.n_Record_name (Nat.lt_of_le_of_lt (Nat.le_refl 0) (by decide)) (fun v_23 Z1 H1 e P1 k_24 hself1 zself1 => ?_))
    refine st_nx ?_
    replace P := P1
    replace hself := hself1
    replace zself := zself1
    replace h_vector := ((yList yInt)).mono e.z h_vector
    replace h_fields := ((yTup K (yP2 K yStr yInt))).mono e.z h_fields
    replace h_words := ((yTup K (yP2 K yStr yInt))).mono e.z h_words
    refine st_seq (st_fld (x := x_vector) (τ := (yTup K yInt)) P hself zself List.not_mem_nil (.inl List.mem_cons_self) rfl (ev_tuple_of (fun _ _ _ h => h) (ev_li (ev_var (τ := (yList yInt)) rfl h_vector))) T.cl_Record T.n_Record_vector (Nat.lt_of_le_of_lt (putF_le (Nat.le_refl 0)) (by decide)) (fun v_25 Z1 H1 e P1 k_26 hself1 zself1 => ?_))
    refine st_nx ?_
    replace P := P1
    replace hself := hself1
    replace zself := zself1
    replace h_fields := ((yTup K (yP2 K yStr yInt))).mono e.z h_fields
    replace h_words := ((yTup K (yP2 K yStr yInt))).mono e.z h_words
    refine st_seq (st_fld (x := x_fields) (τ := (yTup K (yP2 K yStr yInt))) P hself zself List.not_mem_nil (.inl List.mem_cons_self) rfl (ev_tuple_of (fun _ _ _ h => h) (ev_li (ev_fz (en_cast (en_map (fun x => x) (ei_tup (ev_var (τ := (yTup K (yP2 K yStr yInt))) rfl h_fields)) (fun x_30 v_31 Z' H' zz hh rx_32 => by
          exact ⟨_, tgt_name, rfl, (ev_tuple_id (fun _ _ _ h => h) it_p2 (ev_var (τ := (yP2 K yStr yInt)) rfl rx_32))⟩)) (List.map_id' _))))) T.cl_Record T.n_Record_fields (Nat.lt_of_le_of_lt (putF_le (putF_le (Nat.le_refl 0))) (by decide)) (fun v_33 Z1 H1 e P1 k_34 hself1 zself1 => ?_))
    refine st_nx ?_
    replace P := P1
    replace hself := hself1
    replace zself := zself1
    replace h_words := ((yTup K (yP2 K yStr yInt))).mono e.z h_words
    replace k_26 := ((yTup K yInt)).mono e.z k_26
    refine st_fld (x := x_words) (τ := (yTup K (yP2 K yStr yInt))) P hself zself List.not_mem_nil (.inl List.mem_cons_self) rfl (ev_tuple_of (fun _ _ _ h => h) (ev_li (ev_fz (en_cast (en_map (fun x => x) (ei_tup (ev_var (τ := (yTup K (yP2 K yStr yInt))) rfl h_words)) (fun x_38 v_39 Z' H' zz hh rx_40 => by
          exact ⟨_, tgt_name, rfl, (ev_tuple_id (fun _ _ _ h => h) it_p2 (ev_var (τ := (yP2 K yStr yInt)) rfl rx_40))⟩)) (List.map_id' _))))) T.cl_Record T.n_Record_words (Nat.lt_of_le_of_lt (putF_le (putF_le (putF_le (Nat.le_refl 0)))) (by decide)) (fun v_41 Z1 H1 e P1 k_42 hself1 zself1 => ?_)
    replace P := P1
    replace hself := hself1
    replace zself := zself1
    replace k_26 := ((yTup K yInt)).mono e.z k_26
    replace k_34 := ((yTup K (yP2 K yStr yInt))).mono e.z k_34
    subst hF
    exact q _ _ _ P.st hself ⟨p, dx, v_23, v_25, v_33, v_41, rfl, upd_same, k_24, ((yTup K yInt)).mono (same_upd zself) k_26, ((yTup K (yP2 K yStr yInt))).mono (same_upd zself) k_34, ((yTup K (yP2 K yStr yInt))).mono (same_upd zself) k_42⟩
theorem is_Record___init__ (T : Txt K mg) {μ : Type} {M : Mu μ} {s : μ} {E : XK} {x_name : Str} {x_vector : (List Int)} {x_fields : (List (Str × Int))} {x_words : (List (Str × Int))} : InitS M T.c_Record (sp_Record___init__ T) E (rac (ty yStr x_name) (rac (ty (yList yInt) x_vector) (rac (ty (yTup K (yP2 K yStr yInt)) x_fields) (rac (ty (yTup K (yP2 K yStr yInt)) x_words) ra0)))) s (ty (y_Record T) (F_Record___init__ x_name x_vector x_fields x_words)) s := by
  rintro Z H vs x dx sz m ⟨v_name, _, rfl, h_name, ⟨v_vector, _, rfl, h_vector, ⟨v_fields, _, rfl, h_fields, ⟨v_words, _, rfl, h_words, rfl⟩⟩⟩⟩ hx zx nx Q q
  exact ⟨x, dx, Z, v_name, v_vector, v_fields, v_words, x_name, x_vector, x_fields, x_words, rfl, sz, hx, zx, h_name, h_vector, h_fields, h_words, fun Z2 H2 o st ho hr => q Z2 H2 o (st.weak fun a h => by rw [List.mem_singleton] at h; rw [h]; exact .inl List.mem_cons_self) (Mu.away st nx m) ho hr⟩
def sp_law_parts (T : Txt K mg) : Sp := fun vs H Q _ => ∃ (st sc : Addr) (Z0 : Hp) (ds : DS) (v_size : V) (x_size : Int) (y : ((List (Int × (List Int) × Int)) × DS)), vs = [.ref st, v_size] ∧ (Same Z0 H) ∧ ((muD st sc).m ds Z0 H) ∧ ((yInt).r Z0 v_size x_size) ∧ (F_law_parts ds x_size = some y) ∧ ∀ v Z' H', Step (muD st sc).fp Z0 H Z' H' → (muD st sc).m y.2 Z' H' → ((yList (yP3 K yInt (yList yInt) yInt))).r Z' v y.1 → Q v H'
set_option maxHeartbeats 4000000 in
theorem ok_law_parts (T : Txt K mg) : FnOk P w K mg base CX0 4 T.f_law_parts T.d_law_parts ["state", "size"] (sp_law_parts T) := by
  have G_law_next : FnOk P w K mg base CX0 2 T.f_law_next T.d_law_next ["state", "many"] (sp_law_next T) := ok_law_next T
  have G_law_vector : FnOk P w K mg base CX0 3 T.f_law_vector T.d_law_vector ["state", "size"] (sp_law_vector T) := ok_law_vector T
  refine T.F_law_parts.ok sc_law_parts (fun vs H Q E h => ?_) (fun cdv A outer s H vs Q E hr h => ?_)
  · obtain ⟨st, sc, Z0, ds, v_size, x_size, y, rfl, _⟩ := h
    rfl
  · obtain ⟨st, sc, Z0, ds, v_size, x_size, y, rfl, sz, hm, h_size, hF, q⟩ := h
    refine ⟨_, (pss_cons (ps_set (i := 2) sc_law_parts.nd rfl (.inl rfl) (pe_lst pa_nil)) 
      (pss_cons (ps_set (i := 3) sc_law_parts.nd rfl (.inl rfl) (pe_ix ix_list (pe_lst (pa_cons pe_int (pa_cons pe_int (pa_cons pe_int (pa_cons (pe_call G_law_next (hr.mono (by decide)) (by rfl) T.g_law_next T.F_law_next.kp T.b_law_next .nil pass0 (pa_cons (pv 0) (pa_cons pe_int pa_nil))) pa_nil))))) (pe_call G_law_next (hr.mono (by decide)) (by rfl) T.g_law_next T.F_law_next.kp T.b_law_next .nil pass0 (pa_cons (pv 0) (pa_cons pe_int pa_nil))) (fun _ _ => rfl))) 
      (pss_cut (ps_if (pt_cmpR op_eq (pe_call G_law_next (hr.mono (by decide)) (by rfl) T.g_law_next T.F_law_next.kp T.b_law_next .nil pass0 (pa_cons (pv 0) (pa_cons pe_int pa_nil))) pe_int (nomark _)) (pss_one (ps_set (i := 3) sc_law_parts.nd rfl (.inl rfl) (pe_un un_neg pe_int))) pss_nil) 
      (pss_cons (ps_for PassesOwn.never rfl (pi_range1 rfl T.m_range (pa_cons (pe_op op_add pe_int (pe_call G_law_next (hr.mono (by decide)) (by rfl) T.g_law_next T.F_law_next.kp T.b_law_next .nil pass0 (pa_cons (pv 0) (pa_cons pe_int pa_nil)))) pa_nil)) (pg_name (i := 4) sc_law_parts.nd rfl (.inl rfl)) (pss_cons (ps_set (i := 5) sc_law_parts.nd rfl (.inl rfl) (pe_call G_law_next (hr.mono (by decide)) (by rfl) T.g_law_next T.F_law_next.kp T.b_law_next .nil pass0 (pa_cons (pv 0) (pa_cons pe_int pa_nil)))) 
      (pss_cut (ps_if (PW.pt (pw_and (pt_cmpR op_eq (pe_call G_law_next (hr.mono (by decide)) (by rfl) T.g_law_next T.F_law_next.kp T.b_law_next .nil pass0 (pa_cons (pv 0) (pa_cons pe_int pa_nil))) pe_int (nomark _)) (pw_and1 (pt_cmpR op_lt (pv 3) (pv 1) (nomark _))))) (pss_one (ps_set (i := 5) sc_law_parts.nd rfl (.inl rfl) (pe_op op_sub (pv 1) (pv 3)))) pss_nil) 
      (pss_cons (ps_expr (pe_bm PySem.F.plainAttrs_list PySem.F.slot_list_append PySem.F.type_list_append mt_append (pv 2) (pa_cons (pe_tup (pa_cons (pv 3) (pa_cons (pe_call G_law_vector (hr.mono (by decide)) (by rfl) T.g_law_vector T.F_law_vector.kp T.b_law_vector .nil pass0 (pa_cons (pv 0) (pa_cons (pv 5) pa_nil))) (pa_cons (pe_op op_mul (pe_call G_law_next (hr.mono (by decide)) (by rfl) T.g_law_next T.F_law_next.kp T.b_law_next .nil pass0 (pa_cons (pv 0) (pa_cons pe_int pa_nil))) (pe_call G_law_next (hr.mono (by decide)) (by rfl) T.g_law_next T.F_law_next.kp T.b_law_next .nil pass0 (pa_cons (pv 0) (pa_cons pe_int pa_nil)))) pa_nil)))) pa_nil))) 
      (pss_cons (ps_set (i := 3) sc_law_parts.nd rfl (.inl rfl) (pe_op op_add (pe_op op_add (pv 3) (pv 5)) (pe_ix ix_list (pe_lst (pa_cons pe_int (pa_cons pe_int (pa_cons pe_int (pa_cons pe_int (pa_cons (pe_un un_neg pe_int) pa_nil)))))) (pe_call G_law_next (hr.mono (by decide)) (by rfl) T.g_law_next T.F_law_next.kp T.b_law_next .nil pass0 (pa_cons (pv 0) (pa_cons pe_int pa_nil))) (fun _ _ => rfl)))) 
      (pss_one (ps_if (pt_cmpR op_lt (pv 3) pe_int (nomark _)) (pss_one (ps_set (i := 3) sc_law_parts.nd rfl (.inl rfl) pe_int)) pss_nil))))))) 
      (pss_one (ps_ret (pv 2))))))), ?_⟩
    have P := Pt.start (muD st sc) sz hm
    unfold F_law_parts at hF
    obtain ⟨x_parts_51, h_52, hF⟩ := bind_inv hF
    replace h_52 := Option.some.inj h_52
    refine st_seq (st_setN (τ := (yP3 K yInt (yList yInt) yInt)) P (en_cast (en_listD (eva_nils (τ := (yP3 K yInt (yList yInt) yInt))) (by show 0 ≤ sizeLine; decide)) h_52) (fun p_53 Z1 H1 e P1 fr_55 o_54 => ?_))
    refine st_nx ?_
    replace P := P1
    obtain ⟨i_56, h_57, hF⟩ := bind_inv hF
    refine st_seq (st_set P (ev_ixL (ev_li (ev_fz (en_listD (eva_conss ev_int (eva_conss ev_int (eva_conss ev_int (eva_conss (ev_call (cs__law_next T (by decide +kernel)) (eva_cons (ev_ref rfl) (eva_cons ev_int eva_nil))) (eva_nils (τ := yInt)))))) (by show 4 ≤ sizeLine; decide)))) (ev_call (cs__law_next T (by decide +kernel)) (eva_cons (ev_ref rfl) (eva_cons ev_int eva_nil))) h_57) (fun v_58 Z1 H1 e P1 k_59 => ?_))
    refine st_nx ?_
    replace P := P1
    replace o_54 := o_54.next e
    obtain ⟨w_62, hB_61, hF⟩ := bind_inv hF
    refine ⟨fun σ' H' => ∃ Z', ∃ (v_64 : V) (y_66 : Option V) (y_67 : Option V), σ' = [some (.ref st), some v_size, some (.ref p_53), some v_64, y_66, y_67] ∧ Pt (muD st sc).fp Z0 H (muD st sc) Z' H' (nxS (nxS (nxS ds (3 : Int)) (4 : Int)) (9 : Int)) ∧ Own (muD st sc).fp H (muD st sc).fp Z' H' (yP3 K yInt (yList yInt) yInt) p_53 x_parts_51 ∧ (yInt).r Z' v_64 w_62, ?_, ?_⟩
    · refine st_if P (et_cmp (ev_eq flat_int (ev_call (cs__law_next T (by decide +kernel)) (eva_cons (ev_ref rfl) (eva_cons ev_int eva_nil))) ev_int)) (fun b_60 Z1 H1 e P1 => ?_) (fun b_60 Z1 H1 e P1 => ?_)
      · replace P := P1
        replace hB_61 := ifT b_60 hB_61
        replace o_54 := o_54.next e
        refine st_set P (ev_neg ev_int) (fun v_68 Z1 H1 e P1 k_69 => ?_)
        replace P := P1
        replace o_54 := o_54.next e
        replace hB_61 := Option.some.inj hB_61
        subst hB_61
        exact ⟨_, _, _, _, rfl, P, o_54, k_69⟩
      · replace P := P1
        replace hB_61 := ifF b_60 hB_61
        replace o_54 := o_54.next e
        replace hB_61 := Option.some.inj hB_61
        subst hB_61
        exact ⟨_, _, _, _, rfl, P, o_54, k_59⟩
    rintro σ' H' ⟨Z1, v_64, y_66, y_67, rfl, P, o_63, k_65⟩
    obtain ⟨g_70, hF⟩ := guard_inv hF
    obtain ⟨f_119, hL_120, hF⟩ := bind_inv hF
    refine st_seq (st_for (τ := yInt) (fun (r_73 : List Int) σ' Z' H' => ∃ w_71, ∃ (v_79 : V) (y_81 : Option V) (y_82 : Option V), σ' = [some (.ref st), some v_size, some (.ref p_53), some v_79, y_81, y_82] ∧ Pt (muD st sc).fp Z0 H (muD st sc) Z' H' w_71.2.2 ∧ Own (muD st sc).fp H (muD st sc).fp Z' H' (yP3 K yInt (yList yInt) yInt) p_53 w_71.1 ∧ (yInt).r Z' v_79 w_71.2.1 ∧ forF (L_law_parts_1 x_size) r_73 w_71 = some f_119) P (ei_rng1 (ev_add ev_int (ev_call (cs__law_next T (by decide +kernel)) (eva_cons (ev_ref rfl) (eva_cons ev_int eva_nil)))) g_70) ?_ ?_ ?_)
    · rintro Z1 H1 e P1
      replace P := P1
      replace o_63 := o_63.next e
      exact ⟨(x_parts_51, w_62, (nxS (nxS (nxS (nxS ds (3 : Int)) (4 : Int)) (9 : Int)) (3 : Int))), _, _, _, rfl, P, o_63, k_65, hL_120⟩
    · rintro Zb_77 Hb eb x_72 r_73 σ' v_90 Z1 H1 Z2 H2 zs_76 ⟨w_71, v_79, y_81, y_82, rfl, P, o_78, k_80, hq_75⟩ e hx_91
      replace P := P.item e
      replace o_78 := o_78.step e List.not_mem_nil
      replace zs_76 := zs_76.trans e.z
      obtain ⟨u_92, hB_74, hq_75⟩ := bind_inv (forF_cons hq_75)
      unfold L_law_parts_1 at hB_74
      refine tgt_name _ P.sub _ ?_
      refine st_seq (st_set P (ev_call (cs__law_next T (by decide +kernel)) (eva_cons (ev_ref rfl) (eva_cons ev_int eva_nil))) (fun v_93 Z1 H1 e P1 k_94 => ?_))
      refine st_nx ?_
      replace P := P1
      replace o_78 := o_78.next e
      replace zs_76 := zs_76.trans e.z
      obtain ⟨w_97, hB_96, hB_74⟩ := bind_inv hB_74
      refine ⟨fun σ' H' => ∃ Z', ∃ (y_99 : Option V) (v_100 : V), σ' = [some (.ref st), some v_size, some (.ref p_53), some v_79, y_99, some v_100] ∧ Pt (muD st sc).fp Z0 H (muD st sc) Z' H' (nxS (nxS w_71.2.2 (3 : Int)) (3 : Int)) ∧ Same Zb_77 Z' ∧ Own (muD st sc).fp H (muD st sc).fp Z' H' (yP3 K yInt (yList yInt) yInt) p_53 w_71.1 ∧ (yInt).r Z' v_100 w_97, ?_, ?_⟩
      · refine st_if P (et_and0 (et_cmp (ev_eq flat_int (ev_call (cs__law_next T (by decide +kernel)) (eva_cons (ev_ref rfl) (eva_cons ev_int eva_nil))) ev_int)) (et_cmp (ev_lt (ev_var (τ := yInt) rfl k_80) (ev_var (τ := yInt) rfl h_size)))) (fun b_95 Z1 H1 e P1 => ?_) (fun b_95 Z1 H1 e P1 => ?_)
        · replace P := P1
          replace hB_96 := ifT b_95 hB_96
          replace o_78 := o_78.next e
          replace zs_76 := zs_76.trans e.z
          refine st_set P (ev_sub (ev_var (τ := yInt) rfl h_size) (ev_var (τ := yInt) rfl k_80)) (fun v_103 Z1 H1 e P1 k_104 => ?_)
          replace P := P1
          replace o_78 := o_78.next e
          replace zs_76 := zs_76.trans e.z
          replace hB_96 := Option.some.inj hB_96
          subst hB_96
          exact ⟨_, _, _, rfl, P, zs_76, o_78, k_104⟩
        · replace P := P1
          replace hB_96 := ifF b_95 hB_96
          replace o_78 := o_78.next e
          replace zs_76 := zs_76.trans e.z
          replace hB_96 := Option.some.inj hB_96
          subst hB_96
          exact ⟨_, _, _, rfl, P, zs_76, o_78, k_94⟩
      rintro σ' H' ⟨Z1, y_99, v_100, rfl, P, zs_102, o_98, k_101⟩
      obtain ⟨r_105, h_106, hB_74⟩ := bind_inv hB_74
      obtain ⟨g_107, hB_74⟩ := guard_inv hB_74
      obtain ⟨g_108, hB_74⟩ := guard_inv hB_74
      refine st_seq (st_append P o_98 rfl (ev_p3 (K := K) (eva_cons (ev_var (τ := yInt) rfl k_80) (eva_cons (ev_call (cs_law_vector T h_106) (eva_cons (ev_ref rfl) (eva_cons (ev_var (τ := yInt) rfl k_101) eva_nil))) (eva_cons (ev_mul (ev_call (cs__law_next T (by decide +kernel)) (eva_cons (ev_ref rfl) (eva_cons ev_int eva_nil))) (ev_call (cs__law_next T (by decide +kernel)) (eva_cons (ev_ref rfl) (eva_cons ev_int eva_nil))) g_107) eva_nil)))) g_108 (fun Z1 H1 e P1 o_109 => ?_))
      refine st_nx ?_
      replace P := P1
      replace zs_102 := zs_102.trans e.z
      obtain ⟨i_110, h_111, hB_74⟩ := bind_inv hB_74
      obtain ⟨x_place_112, h_113, hB_74⟩ := bind_inv hB_74
      replace h_113 := Option.some.inj h_113
      refine st_seq (st_set P (ev_cast (ev_add (ev_add (ev_var (τ := yInt) rfl k_80) (ev_var (τ := yInt) rfl k_101)) (ev_ixL (ev_li (ev_fz (en_listD (eva_conss ev_int (eva_conss ev_int (eva_conss ev_int (eva_conss ev_int (eva_conss (ev_neg ev_int) (eva_nils (τ := yInt))))))) (by show 5 ≤ sizeLine; decide)))) (ev_call (cs__law_next T (by decide +kernel)) (eva_cons (ev_ref rfl) (eva_cons ev_int eva_nil))) h_111)) h_113) (fun v_114 Z1 H1 e P1 k_115 => ?_))
      refine st_nx ?_
      replace P := P1
      replace o_109 := o_109.next e
      replace zs_102 := zs_102.trans e.z
      refine st_if P (et_cmp (ev_lt (ev_var (τ := yInt) rfl k_115) ev_int)) (fun b_116 Z1 H1 e P1 => ?_) (fun b_116 Z1 H1 e P1 => ?_)
      · replace P := P1
        have hB := ifT b_116 hB_74
        replace hB_74 := hB
        clear hB
        replace o_109 := o_109.next e
        replace zs_102 := zs_102.trans e.z
        refine st_set P ev_int (fun v_117 Z1 H1 e P1 k_118 => ?_)
        replace P := P1
        replace o_109 := o_109.next e
        replace zs_102 := zs_102.trans e.z
        replace hB_74 := Option.some.inj hB_74
        subst hB_74
        exact ⟨_, zs_102, P.sub, ((w_71.1 ++ [(w_71.2.1, r_105.1, ((nxV r_105.2 (40 : Int)) * (nxV (nxS r_105.2 (40 : Int)) (40 : Int))))]), (0 : Int), (nxS (nxS (nxS r_105.2 (40 : Int)) (40 : Int)) (5 : Int))), _, _, _, rfl, P, o_109, k_118, hq_75⟩
      · replace P := P1
        have hB := ifF b_116 hB_74
        replace hB_74 := hB
        clear hB
        refine st_next ?_
        replace o_109 := o_109.next e
        replace zs_102 := zs_102.trans e.z
        replace hB_74 := Option.some.inj hB_74
        subst hB_74
        exact ⟨_, zs_102, P.sub, ((w_71.1 ++ [(w_71.2.1, r_105.1, ((nxV r_105.2 (40 : Int)) * (nxV (nxS r_105.2 (40 : Int)) (40 : Int))))]), x_place_112, (nxS (nxS (nxS r_105.2 (40 : Int)) (40 : Int)) (5 : Int))), _, _, _, rfl, P, o_109, k_115, hq_75⟩
    rintro σ' Z1 H1 _ _ ⟨w_83, v_86, y_81, y_82, rfl, P, o_85, k_87, hl⟩
    have hz := (forF_nil hl).symm
    subst hz
    refine st_nx ?_
    obtain ⟨Z, P, zf, hf, of⟩ := o_85.fz P
    have k_121 := hf
    clear hf zf of
    replace hF := Option.some.inj hF
    subst hF
    refine st_ret P (ev_var (τ := (yList (yP3 K yInt (yList yInt) yInt))) rfl k_121) (fun v Z1 H1 P1 hv => ?_)
    exact q v _ _ P1.st P1.m hv
theorem cs_law_parts (T : Txt K mg) {st sc : Addr} {ds : DS} {E : XK} {x_size : Int} {y : (List (Int × (List Int) × Int)) × DS} (h : F_law_parts ds x_size = some y) : CallS (muD st sc) (sp_law_parts T) E (rac (isRef st) (rac (ty yInt x_size) ra0)) ds (ty (yList (yP3 K yInt (yList yInt) yInt)) y.1) y.2 := by
  rintro Z H vs sz m ⟨_, _, rfl, rfl, ⟨v_size, _, rfl, h_size, rfl⟩⟩ Q q
  exact ⟨st, sc, Z, ds, v_size, x_size, y, rfl, sz, m, h_size, h, fun v Z2 H2 s2 m2 hv => q v Z2 H2 s2 m2 hv⟩
theorem cu_law_parts (T : Txt K mg) {st sc : Addr} {ds : DS} {E : XK} {x_size : Int} {y : (List (Int × (List Int) × Int)) × DS} {μ : Type} {M : Mu μ} {s s2 : μ} (hm : ∀ Z H, M.m s Z H → (muD st sc).m ds Z H) (hf : ∀ a ∈ (muD st sc).fp, a ∈ M.fp) (hp : ∀ Z H Z' H', M.m s Z H → Step (muD st sc).fp Z H Z' H' → (muD st sc).m y.2 Z' H' → M.m s2 Z' H') (h : F_law_parts ds x_size = some y) : CallS M (sp_law_parts T) E (rac (isRef st) (rac (ty yInt x_size) ra0)) s (ty (yList (yP3 K yInt (yList yInt) yInt)) y.1) s2 := by
  rintro Z H vs sz m ⟨_, _, rfl, rfl, ⟨v_size, _, rfl, h_size, rfl⟩⟩ Q q
  exact ⟨st, sc, Z, ds, v_size, x_size, y, rfl, sz, hm _ _ m, h_size, h, fun v Z2 H2 st2 m2 hv => q v Z2 H2 (st2.weak fun a h => .inl (hf a h)) (hp _ _ _ _ m st2 m2) hv⟩
def sp_law_size (T : Txt K mg) : Sp := fun vs H Q _ => ∃ (st sc : Addr) (Z0 : Hp) (ds : DS) (v_size : V) (x_size : Int) (y : (Int × DS)), vs = [.ref st, v_size] ∧ (Same Z0 H) ∧ ((muD st sc).m ds Z0 H) ∧ ((yInt).r Z0 v_size x_size) ∧ (F_law_size ds x_size = some y) ∧ ∀ v Z' H', Step (muD st sc).fp Z0 H Z' H' → (muD st sc).m y.2 Z' H' → (yInt).r Z' v y.1 → Q v H'
set_option maxHeartbeats 4000000 in
theorem ok_law_size (T : Txt K mg) : FnOk P w K mg base CX0 3 T.f_law_size T.d_law_size ["state", "size"] (sp_law_size T) := by
  have G_law_next : FnOk P w K mg base CX0 2 T.f_law_next T.d_law_next ["state", "many"] (sp_law_next T) := ok_law_next T
  refine T.F_law_size.ok sc_law_size (fun vs H Q E h => ?_) (fun cdv A outer s H vs Q E hr h => ?_)
  · obtain ⟨st, sc, Z0, ds, v_size, x_size, y, rfl, _⟩ := h
    rfl
  · obtain ⟨st, sc, Z0, ds, v_size, x_size, y, rfl, sz, hm, h_size, hF, q⟩ := h
    refine ⟨_, (pss_one (ps_ret (pe_ix ix_list (pe_lst (pa_cons (pv 1) (pa_cons (pv 1) (pa_cons (pv 1) (pa_cons (pe_op op_add (pv 1) pe_int) pa_nil))))) (pe_call G_law_next (hr.mono (by decide)) (by rfl) T.g_law_next T.F_law_next.kp T.b_law_next .nil pass0 (pa_cons (pv 0) (pa_cons pe_int pa_nil))) (fun _ _ => rfl)))), ?_⟩
    have P := Pt.start (muD st sc) sz hm
    unfold F_law_size at hF
    obtain ⟨i_124, h_125, hF⟩ := bind_inv hF
    replace hF := Option.some.inj hF
    subst hF
    refine st_ret P (ev_ixL (ev_li (ev_fz (en_listD (eva_conss (ev_var (τ := yInt) rfl h_size) (eva_conss (ev_var (τ := yInt) rfl h_size) (eva_conss (ev_var (τ := yInt) rfl h_size) (eva_conss (ev_add (ev_var (τ := yInt) rfl h_size) ev_int) (eva_nils (τ := yInt)))))) (by show 4 ≤ sizeLine; decide)))) (ev_call (cs__law_next T (by decide +kernel)) (eva_cons (ev_ref rfl) (eva_cons ev_int eva_nil))) h_125) (fun v Z1 H1 P1 hv => ?_)
    exact q v _ _ P1.st P1.m hv
theorem cs_law_size (T : Txt K mg) {st sc : Addr} {ds : DS} {E : XK} {x_size : Int} {y : Int × DS} (h : F_law_size ds x_size = some y) : CallS (muD st sc) (sp_law_size T) E (rac (isRef st) (rac (ty yInt x_size) ra0)) ds (ty yInt y.1) y.2 := by
  rintro Z H vs sz m ⟨_, _, rfl, rfl, ⟨v_size, _, rfl, h_size, rfl⟩⟩ Q q
  exact ⟨st, sc, Z, ds, v_size, x_size, y, rfl, sz, m, h_size, h, fun v Z2 H2 s2 m2 hv => q v Z2 H2 s2 m2 hv⟩
theorem cu_law_size (T : Txt K mg) {st sc : Addr} {ds : DS} {E : XK} {x_size : Int} {y : Int × DS} {μ : Type} {M : Mu μ} {s s2 : μ} (hm : ∀ Z H, M.m s Z H → (muD st sc).m ds Z H) (hf : ∀ a ∈ (muD st sc).fp, a ∈ M.fp) (hp : ∀ Z H Z' H', M.m s Z H → Step (muD st sc).fp Z H Z' H' → (muD st sc).m y.2 Z' H' → M.m s2 Z' H') (h : F_law_size ds x_size = some y) : CallS M (sp_law_size T) E (rac (isRef st) (rac (ty yInt x_size) ra0)) s (ty yInt y.1) s2 := by
  rintro Z H vs sz m ⟨_, _, rfl, rfl, ⟨v_size, _, rfl, h_size, rfl⟩⟩ Q q
  exact ⟨st, sc, Z, ds, v_size, x_size, y, rfl, sz, hm _ _ m, h_size, h, fun v Z2 H2 st2 m2 hv => q v Z2 H2 (st2.weak fun a h => .inl (hf a h)) (hp _ _ _ _ m st2 m2) hv⟩
def sp_law_vector_fact (T : Txt K mg) : Sp := fun vs H Q _ => ∃ (st sc : Addr) (Z0 : Hp) (ds : DS) (v_size : V) (x_size : Int) (y : (LFact × DS)), vs = [.ref st, v_size] ∧ (Same Z0 H) ∧ ((muD st sc).m ds Z0 H) ∧ ((yInt).r Z0 v_size x_size) ∧ (F_law_vector_fact ds x_size = some y) ∧ ∀ v Z' H', Step (muD st sc).fp Z0 H Z' H' → (muD st sc).m y.2 Z' H' → ((y_LFact T)).r Z' v y.1 → Q v H'
set_option maxHeartbeats 4000000 in
theorem ok_law_vector_fact (T : Txt K mg) : FnOk P w K mg base CX0 5 T.f_law_vector_fact T.d_law_vector_fact ["state", "size"] (sp_law_vector_fact T) := by
  have G_law_next : FnOk P w K mg base CX0 2 T.f_law_next T.d_law_next ["state", "many"] (sp_law_next T) := ok_law_next T
  have G_law_size : FnOk P w K mg base CX0 3 T.f_law_size T.d_law_size ["state", "size"] (sp_law_size T) := ok_law_size T
  have G_law_vector : FnOk P w K mg base CX0 3 T.f_law_vector T.d_law_vector ["state", "size"] (sp_law_vector T) := ok_law_vector T
  have G_law_parts : FnOk P w K mg base CX0 4 T.f_law_parts T.d_law_parts ["state", "size"] (sp_law_parts T) := ok_law_parts T
  refine T.F_law_vector_fact.ok sc_law_vector_fact (fun vs H Q E h => ?_) (fun cdv A outer s H vs Q E hr h => ?_)
  · obtain ⟨st, sc, Z0, ds, v_size, x_size, y, rfl, _⟩ := h
    rfl
  · obtain ⟨st, sc, Z0, ds, v_size, x_size, y, rfl, sz, hm, h_size, hF, q⟩ := h
    refine ⟨_, (pss_cons (ps_set (i := 2) sc_law_vector_fact.nd rfl (.inl rfl) (pe_call G_law_next (hr.mono (by decide)) (by rfl) T.g_law_next T.F_law_next.kp T.b_law_next .nil pass0 (pa_cons (pv 0) (pa_cons pe_int pa_nil)))) 
      (pss_cons (ps_if (pt_cmpR op_eq (pv 2) pe_int (nomark _)) (pss_one (ps_ret (pe_tup (pa_cons pe_str (pa_cons (pe_call G_law_parts (hr.mono (by decide)) (by rfl) T.g_law_parts T.F_law_parts.kp T.b_law_parts .nil pass0 (pa_cons (pv 0) (pa_cons (pv 1) pa_nil))) pa_nil))))) pss_nil) 
      (pss_cons (ps_if (pt_cmpR op_eq (pv 2) pe_int (nomark _)) (pss_cons (ps_set (i := 3) sc_law_vector_fact.nd rfl (.inl rfl) (pe_call G_law_vector (hr.mono (by decide)) (by rfl) T.g_law_vector T.F_law_vector.kp T.b_law_vector .nil pass0 (pa_cons (pv 0) (pa_cons (pe_call G_law_size (hr.mono (by decide)) (by rfl) T.g_law_size T.F_law_size.kp T.b_law_size .nil pass0 (pa_cons (pv 0) (pa_cons (pv 1) pa_nil))) pa_nil)))) 
      (pss_cons (ps_set (i := 4) sc_law_vector_fact.nd rfl (.inl rfl) (pe_call G_law_vector (hr.mono (by decide)) (by rfl) T.g_law_vector T.F_law_vector.kp T.b_law_vector .nil pass0 (pa_cons (pv 0) (pa_cons (pe_call G_law_size (hr.mono (by decide)) (by rfl) T.g_law_size T.F_law_size.kp T.b_law_size .nil pass0 (pa_cons (pv 0) (pa_cons (pv 1) pa_nil))) pa_nil)))) 
      (pss_cut (ps_if (pt_cmpR op_eq (pe_call G_law_next (hr.mono (by decide)) (by rfl) T.g_law_next T.F_law_next.kp T.b_law_next .nil pass0 (pa_cons (pv 0) (pa_cons pe_int pa_nil))) pe_int (nomark _)) (pss_one (ps_set (i := 4) sc_law_vector_fact.nd rfl (.inl rfl) (pe_callTy call_list_of (by rfl) T.m_list (by decide +kernel) (pa_cons (pv 3) pa_nil)))) pss_nil) 
      (pss_one (ps_ret (pe_tup (pa_cons pe_str (pa_cons (pv 3) (pa_cons (pv 4) pa_nil))))))))) pss_nil) 
      (pss_cons (ps_if (pt_cmpR op_eq (pv 2) pe_int (nomark _)) (pss_cons (ps_set (i := 5) sc_law_vector_fact.nd rfl (.inl rfl) (pe_call G_law_vector (hr.mono (by decide)) (by rfl) T.g_law_vector T.F_law_vector.kp T.b_law_vector .nil pass0 (pa_cons (pv 0) (pa_cons (pe_call G_law_size (hr.mono (by decide)) (by rfl) T.g_law_size T.F_law_size.kp T.b_law_size .nil pass0 (pa_cons (pv 0) (pa_cons (pv 1) pa_nil))) pa_nil)))) 
      (pss_one (ps_ret (pe_tup (pa_cons pe_str (pa_cons (pv 5) (pa_cons (pe_lc (own := [("number", 6)]) (g := gName 6) rfl sc_law_vector_fact.nd (pi_list (pv 5)) (blkOk_by (own := [("number", 6)]) (N := ["state", "size", "kind", "near", "rival", "low", "number"]) (sc := defScope s_law_vector_fact) (by decide +kernel)) (fun _ _ _ _ _ => (pg_name (i := 6) sc_law_vector_fact.nd rfl (Or.inl rfl))) (fun _ _ _ _ _ => pts_nil) (fun _ _ _ _ _ => (pe_op op_sub (pe_op op_add (pv 6) (pe_call G_law_next (hr.mono (by decide)) (by rfl) T.g_law_next T.F_law_next.kp T.b_law_next .nil pass0 (pa_cons (pv 0) (pa_cons pe_int pa_nil)))) pe_int))) pa_nil))))))) pss_nil) 
      (pss_cons (ps_if (pt_cmpR op_eq (pv 2) pe_int (nomark _)) (pss_cons (ps_set (i := 5) sc_law_vector_fact.nd rfl (.inl rfl) (pe_call G_law_next (hr.mono (by decide)) (by rfl) T.g_law_next T.F_law_next.kp T.b_law_next .nil pass0 (pa_cons (pv 0) (pa_cons pe_int pa_nil)))) 
      (pss_one (ps_ret (pe_tup (pa_cons pe_str (pa_cons (pv 5) (pa_cons (pe_op op_sub (pe_op op_add (pv 5) (pe_call G_law_next (hr.mono (by decide)) (by rfl) T.g_law_next T.F_law_next.kp T.b_law_next .nil pass0 (pa_cons (pv 0) (pa_cons pe_int pa_nil)))) pe_int) pa_nil))))))) pss_nil) 
      (pss_one (ps_ret (pe_tup (pa_cons pe_str (pa_cons (pe_call G_law_vector (hr.mono (by decide)) (by rfl) T.g_law_vector T.F_law_vector.kp T.b_law_vector .nil pass0 (pa_cons (pv 0) (pa_cons (pe_call G_law_size (hr.mono (by decide)) (by rfl) T.g_law_size T.F_law_size.kp T.b_law_size .nil pass0 (pa_cons (pv 0) (pa_cons (pv 1) pa_nil))) pa_nil))) (pa_cons (pe_call G_law_next (hr.mono (by decide)) (by rfl) T.g_law_next T.F_law_next.kp T.b_law_next .nil pass0 (pa_cons (pv 0) (pa_cons pe_int pa_nil))) pa_nil))))))))))), ?_⟩
    have P := Pt.start (muD st sc) sz hm
    unfold F_law_vector_fact at hF
    refine st_seq (st_set P (ev_call (cs__law_next T (by decide +kernel)) (eva_cons (ev_ref rfl) (eva_cons ev_int eva_nil))) (fun v_131 Z1 H1 e P1 k_132 => ?_))
    refine st_nx ?_
    replace P := P1
    refine st_seq (st_if P (et_cmp (ev_eq flat_int (ev_var (τ := yInt) rfl k_132) ev_int)) (fun b_133 Z1 H1 e P1 => ?_) (fun b_133 Z1 H1 e P1 => ?_))
    · replace P := P1
      have hB := ifT b_133 hF
      replace hF := hB
      clear hB
      obtain ⟨r_134, h_135, hF⟩ := bind_inv hF
      replace hF := Option.some.inj hF
      subst hF
      refine st_ret P (it_LFact_parts T (ev_p2 (K := K) (eva_cons ev_str (eva_cons (ev_call (cs_law_parts T h_135) (eva_cons (ev_ref rfl) (eva_cons (ev_var (τ := yInt) rfl h_size) eva_nil))) eva_nil)))) (fun v Z1 H1 P1 hv => ?_)
      exact q v _ _ P1.st P1.m hv
    · replace P := P1
      have hB := ifF b_133 hF
      replace hF := hB
      clear hB
      refine st_next0 ?_
      refine st_seq (st_if P (et_cmp (ev_eq flat_int (ev_var (τ := yInt) rfl k_132) ev_int)) (fun b_136 Z1 H1 e P1 => ?_) (fun b_136 Z1 H1 e P1 => ?_))
      · replace P := P1
        have hB := ifT b_136 hF
        replace hF := hB
        clear hB
        obtain ⟨r_137, h_138, hF⟩ := bind_inv hF
        obtain ⟨r_139, h_140, hF⟩ := bind_inv hF
        refine st_seq (st_set P (ev_call (cs_law_vector T h_140) (eva_cons (ev_ref rfl) (eva_cons (ev_call (cs_law_size T h_138) (eva_cons (ev_ref rfl) (eva_cons (ev_var (τ := yInt) rfl h_size) eva_nil))) eva_nil))) (fun v_141 Z1 H1 e P1 k_142 => ?_))
        refine st_nx ?_
        replace P := P1
        obtain ⟨r_143, h_144, hF⟩ := bind_inv hF
        obtain ⟨r_145, h_146, hF⟩ := bind_inv hF
        refine st_seq (st_set P (ev_call (cs_law_vector T h_146) (eva_cons (ev_ref rfl) (eva_cons (ev_call (cs_law_size T h_144) (eva_cons (ev_ref rfl) (eva_cons (ev_var (τ := yInt) rfl h_size) eva_nil))) eva_nil))) (fun v_147 Z1 H1 e P1 k_148 => ?_))
        refine st_nx ?_
        replace P := P1
        replace k_142 := ((yList yInt)).mono e.z k_142
        obtain ⟨w_151, hB_150, hF⟩ := bind_inv hF
        refine ⟨fun σ' H' => ∃ Z', ∃ (y_152 : Option V) (y_153 : Option V) (v_155 : V) (y_157 : Option V) (y_158 : Option V), σ' = [some (.ref st), y_152, y_153, some v_141, some v_155, y_157, y_158] ∧ Pt (muD st sc).fp Z0 H (muD st sc) Z' H' (nxS r_145.2 (6 : Int)) ∧ ((yList yInt)).r Z' v_141 r_139.1 ∧ ((yList yInt)).r Z' v_155 w_151, ?_, ?_⟩
        · refine st_if P (et_cmp (ev_eq flat_int (ev_call (cs__law_next T (by decide +kernel)) (eva_cons (ev_ref rfl) (eva_cons ev_int eva_nil))) ev_int)) (fun b_149 Z1 H1 e P1 => ?_) (fun b_149 Z1 H1 e P1 => ?_)
          · replace P := P1
            replace hB_150 := ifT b_149 hB_150
            replace k_142 := ((yList yInt)).mono e.z k_142
            replace k_148 := ((yList yInt)).mono e.z k_148
            refine st_set P (ev_fz (en_list_of (fun _ _ _ h => h) (ev_li (ev_var (τ := (yList yInt)) rfl k_142)))) (fun v_159 Z1 H1 e P1 k_160 => ?_)
            replace P := P1
            replace k_142 := ((yList yInt)).mono e.z k_142
            replace hB_150 := Option.some.inj hB_150
            subst hB_150
            exact ⟨_, _, _, _, _, _, rfl, P, k_142, k_160⟩
          · replace P := P1
            replace hB_150 := ifF b_149 hB_150
            replace k_142 := ((yList yInt)).mono e.z k_142
            replace k_148 := ((yList yInt)).mono e.z k_148
            replace hB_150 := Option.some.inj hB_150
            subst hB_150
            exact ⟨_, _, _, _, _, _, rfl, P, k_142, k_148⟩
        rintro σ' H' ⟨Z1, y_152, y_153, v_155, y_157, y_158, rfl, P, k_154, k_156⟩
        replace hF := Option.some.inj hF
        subst hF
        refine st_ret P (it_LFact_cell T (ev_p3 (K := K) (eva_cons ev_str (eva_cons (ev_var (τ := (yList yInt)) rfl k_154) (eva_cons (ev_var (τ := (yList yInt)) rfl k_156) eva_nil))))) (fun v Z1 H1 P1 hv => ?_)
        exact q v _ _ P1.st P1.m hv
      · replace P := P1
        have hB := ifF b_136 hF
        replace hF := hB
        clear hB
        refine st_next0 ?_
        refine st_seq (st_if P (et_cmp (ev_eq flat_int (ev_var (τ := yInt) rfl k_132) ev_int)) (fun b_161 Z1 H1 e P1 => ?_) (fun b_161 Z1 H1 e P1 => ?_))
        · replace P := P1
          have hB := ifT b_161 hF
          replace hF := hB
          clear hB
          obtain ⟨r_162, h_163, hF⟩ := bind_inv hF
          obtain ⟨r_164, h_165, hF⟩ := bind_inv hF
          refine st_seq (st_set P (ev_call (cs_law_vector T h_165) (eva_cons (ev_ref rfl) (eva_cons (ev_call (cs_law_size T h_163) (eva_cons (ev_ref rfl) (eva_cons (ev_var (τ := yInt) rfl h_size) eva_nil))) eva_nil))) (fun v_166 Z1 H1 e P1 k_167 => ?_))
          refine st_nx ?_
          replace P := P1
          obtain ⟨l_172, h_173, hF⟩ := bind_inv hF
          replace hF := Option.some.inj hF
          subst hF
          refine st_ret P (it_LFact_box T (ev_p3 (K := K) (eva_cons ev_str (eva_cons (ev_var (τ := (yList yInt)) rfl k_167) (eva_cons (ev_fz (en_mapS (fun (x_168 : Int) (s_169 : DS) => (some (((x_168 + (nxV s_169 (8 : Int))) - (1 : Int)), (nxS s_169 (8 : Int))) : Option (Int × DS))) (ei_list (ev_var (τ := (yList yInt)) rfl k_167)) (fun x_168 v_170 Z' H' s_169 p zz hh rx_171 hp => by
                have hy := hp
                have hy := Option.some.inj hy
                subst hy
                exact ⟨_, tgt_name, rfl, (ev_sub (ev_add (ev_var (τ := yInt) rfl rx_171) (ev_call (cs__law_next T (by decide +kernel)) (eva_cons (ev_ref rfl) (eva_cons ev_int eva_nil)))) ev_int)⟩) h_173)) eva_nil))))) (fun v Z1 H1 P1 hv => ?_)
          exact q v _ _ P1.st P1.m hv
        · replace P := P1
          have hB := ifF b_161 hF
          replace hF := hB
          clear hB
          refine st_next0 ?_
          refine st_seq (st_if P (et_cmp (ev_eq flat_int (ev_var (τ := yInt) rfl k_132) ev_int)) (fun b_174 Z1 H1 e P1 => ?_) (fun b_174 Z1 H1 e P1 => ?_))
          · replace P := P1
            have hB := ifT b_174 hF
            replace hF := hB
            clear hB
            obtain ⟨x_low_175, h_176, hF⟩ := bind_inv hF
            replace h_176 := Option.some.inj h_176
            refine st_seq (st_set P (ev_cast (ev_call (cs__law_next T (by decide +kernel)) (eva_cons (ev_ref rfl) (eva_cons ev_int eva_nil))) h_176) (fun v_177 Z1 H1 e P1 k_178 => ?_))
            refine st_nx ?_
            replace P := P1
            replace hF := Option.some.inj hF
            subst hF
            refine st_ret P (it_LFact_norms T (ev_p3 (K := K) (eva_cons ev_str (eva_cons (ev_var (τ := yInt) rfl k_178) (eva_cons (ev_sub (ev_add (ev_var (τ := yInt) rfl k_178) (ev_call (cs__law_next T (by decide +kernel)) (eva_cons (ev_ref rfl) (eva_cons ev_int eva_nil)))) ev_int) eva_nil))))) (fun v Z1 H1 P1 hv => ?_)
            exact q v _ _ P1.st P1.m hv
          · replace P := P1
            have hB := ifF b_174 hF
            replace hF := hB
            clear hB
            refine st_next0 ?_
            obtain ⟨r_179, h_180, hF⟩ := bind_inv hF
            obtain ⟨r_181, h_182, hF⟩ := bind_inv hF
            replace hF := Option.some.inj hF
            subst hF
            refine st_ret P (it_LFact_differ T (ev_p3 (K := K) (eva_cons ev_str (eva_cons (ev_call (cs_law_vector T h_182) (eva_cons (ev_ref rfl) (eva_cons (ev_call (cs_law_size T h_180) (eva_cons (ev_ref rfl) (eva_cons (ev_var (τ := yInt) rfl h_size) eva_nil))) eva_nil))) (eva_cons (ev_call (cs__law_next T (by decide +kernel)) (eva_cons (ev_ref rfl) (eva_cons ev_int eva_nil))) eva_nil))))) (fun v Z1 H1 P1 hv => ?_)
            exact q v _ _ P1.st P1.m hv
theorem cs_law_vector_fact (T : Txt K mg) {st sc : Addr} {ds : DS} {E : XK} {x_size : Int} {y : LFact × DS} (h : F_law_vector_fact ds x_size = some y) : CallS (muD st sc) (sp_law_vector_fact T) E (rac (isRef st) (rac (ty yInt x_size) ra0)) ds (ty (y_LFact T) y.1) y.2 := by
  rintro Z H vs sz m ⟨_, _, rfl, rfl, ⟨v_size, _, rfl, h_size, rfl⟩⟩ Q q
  exact ⟨st, sc, Z, ds, v_size, x_size, y, rfl, sz, m, h_size, h, fun v Z2 H2 s2 m2 hv => q v Z2 H2 s2 m2 hv⟩
theorem cu_law_vector_fact (T : Txt K mg) {st sc : Addr} {ds : DS} {E : XK} {x_size : Int} {y : LFact × DS} {μ : Type} {M : Mu μ} {s s2 : μ} (hm : ∀ Z H, M.m s Z H → (muD st sc).m ds Z H) (hf : ∀ a ∈ (muD st sc).fp, a ∈ M.fp) (hp : ∀ Z H Z' H', M.m s Z H → Step (muD st sc).fp Z H Z' H' → (muD st sc).m y.2 Z' H' → M.m s2 Z' H') (h : F_law_vector_fact ds x_size = some y) : CallS M (sp_law_vector_fact T) E (rac (isRef st) (rac (ty yInt x_size) ra0)) s (ty (y_LFact T) y.1) s2 := by
  rintro Z H vs sz m ⟨_, _, rfl, rfl, ⟨v_size, _, rfl, h_size, rfl⟩⟩ Q q
  exact ⟨st, sc, Z, ds, v_size, x_size, y, rfl, sz, hm _ _ m, h_size, h, fun v Z2 H2 st2 m2 hv => q v Z2 H2 (st2.weak fun a h => .inl (hf a h)) (hp _ _ _ _ m st2 m2) hv⟩
def sp_law_inner (T : Txt K mg) : Sp := fun vs H Q _ => ∃ (Z0 : Hp) (v_a : V) (v_b : V) (x_a : (List Int)) (x_b : (List Int)) (y : Int), vs = [v_a, v_b] ∧ (Same Z0 H) ∧ (((yList yInt)).r Z0 v_a x_a) ∧ (((yList yInt)).r Z0 v_b x_b) ∧ (F_law_inner x_a x_b = some y) ∧ ∀ v Z' H', Step [] Z0 H Z' H' → (yInt).r Z' v y → Q v H'
set_option maxHeartbeats 4000000 in
theorem ok_law_inner (T : Txt K mg) : FnOk P w K mg base CX0 1 T.f_law_inner T.d_law_inner ["a", "b"] (sp_law_inner T) := by
  refine T.F_law_inner.ok sc_law_inner (fun vs H Q E h => ?_) (fun cdv A outer s H vs Q E hr h => ?_)
  · obtain ⟨Z0, v_a, v_b, x_a, x_b, y, rfl, _⟩ := h
    rfl
  · obtain ⟨Z0, v_a, v_b, x_a, x_b, y, rfl, sz, h_a, h_b, hF, q⟩ := h
    refine ⟨_, (pss_cons (ps_set (i := 2) sc_law_inner.nd rfl (.inl rfl) pe_int) 
      (pss_cons (ps_for PassesOwn.never rfl (pi_range1 rfl T.m_range (pa_cons (pe_callB call_len_seq (by rfl) T.m_len PySem.boot_len (pa_cons (pv 0) pa_nil)) pa_nil)) (pg_name (i := 3) sc_law_inner.nd rfl (.inl rfl)) (pss_one (ps_set (i := 2) sc_law_inner.nd rfl (.inl rfl) (pe_op op_add (pv 2) (pe_op op_mul (pe_ix ix_list (pv 0) (pv 3) (fun _ _ => rfl)) (pe_ix ix_list (pv 1) (pv 3) (fun _ _ => rfl))))))) 
      (pss_one (ps_ret (pv 2))))), ?_⟩
    have P := Pt.start0 sz
    unfold F_law_inner at hF
    refine st_seq (st_set P ev_int (fun v_185 Z1 H1 e P1 k_186 => ?_))
    refine st_nx ?_
    replace P := P1
    replace h_a := ((yList yInt)).mono e.z h_a
    replace h_b := ((yList yInt)).mono e.z h_b
    obtain ⟨g_187, hF⟩ := guard_inv hF
    obtain ⟨f_218, hL_219, hF⟩ := bind_inv hF
    refine st_seq (st_for (τ := yInt) (fun (r_190 : List Int) σ' Z' H' => ∃ w_188, ∃ (v_197 : V) (y_199 : Option V), σ' = [some v_a, some v_b, some v_197, y_199] ∧ Pt [] Z0 H muN Z' H' () ∧ ((yList yInt)).r Z' v_a x_a ∧ ((yList yInt)).r Z' v_b x_b ∧ (yInt).r Z' v_197 w_188 ∧ forF (L_law_inner_1 x_a x_b) r_190 w_188 = some f_218) P (ei_rng1 (ev_len (fun _ _ _ h => h) (ev_li (ev_var (τ := (yList yInt)) rfl h_a))) g_187) ?_ ?_ ?_)
    · rintro Z1 H1 e P1
      replace P := P1
      replace h_a := ((yList yInt)).mono e.z h_a
      replace h_b := ((yList yInt)).mono e.z h_b
      exact ⟨(0 : Int), _, _, rfl, P, h_a, h_b, k_186, hL_219⟩
    · rintro Zb_194 Hb eb x_189 r_190 σ' v_206 Z1 H1 Z2 H2 zs_193 ⟨w_188, v_197, y_199, rfl, P, k_195, k_196, k_198, hq_192⟩ e hx_207
      replace P := P.item e
      replace k_195 := ((yList yInt)).mono e.z k_195
      replace k_196 := ((yList yInt)).mono e.z k_196
      replace zs_193 := zs_193.trans e.z
      obtain ⟨u_208, hB_191, hq_192⟩ := bind_inv (forF_cons hq_192)
      unfold L_law_inner_1 at hB_191
      refine tgt_name _ P.sub _ ?_
      obtain ⟨i_209, h_210, hB_191⟩ := bind_inv hB_191
      obtain ⟨i_211, h_212, hB_191⟩ := bind_inv hB_191
      obtain ⟨g_213, hB_191⟩ := guard_inv hB_191
      obtain ⟨x_total_214, h_215, hB_191⟩ := bind_inv hB_191
      replace h_215 := Option.some.inj h_215
      refine st_set P (ev_cast (ev_add (ev_var (τ := yInt) rfl k_198) (ev_mul (ev_ixL (ev_li (ev_var (τ := (yList yInt)) rfl k_195)) (ev_var (τ := yInt) rfl hx_207) h_210) (ev_ixL (ev_li (ev_var (τ := (yList yInt)) rfl k_196)) (ev_var (τ := yInt) rfl hx_207) h_212) g_213)) h_215) (fun v_216 Z1 H1 e P1 k_217 => ?_)
      replace P := P1
      replace k_195 := ((yList yInt)).mono e.z k_195
      replace k_196 := ((yList yInt)).mono e.z k_196
      replace zs_193 := zs_193.trans e.z
      replace hB_191 := Option.some.inj hB_191
      subst hB_191
      exact ⟨_, zs_193, P.sub, x_total_214, _, _, rfl, P, k_195, k_196, k_217, hq_192⟩
    rintro σ' Z1 H1 _ _ ⟨w_200, v_203, y_199, rfl, P, k_195, k_196, k_204, hl⟩
    have hz := (forF_nil hl).symm
    subst hz
    refine st_nx ?_
    replace hF := Option.some.inj hF
    subst hF
    refine st_ret P (ev_var (τ := yInt) rfl k_204) (fun v Z1 H1 P1 hv => ?_)
    exact q v _ _ P1.st hv
theorem cs_law_inner (T : Txt K mg) {μ : Type} {M : Mu μ} {s : μ} {E : XK} {x_a : (List Int)} {x_b : (List Int)} {y : Int} (h : F_law_inner x_a x_b = some y) : CallS M (sp_law_inner T) E (rac (ty (yList yInt) x_a) (rac (ty (yList yInt) x_b) ra0)) s (ty yInt y) s := by
  rintro Z H vs sz m ⟨v_a, _, rfl, h_a, ⟨v_b, _, rfl, h_b, rfl⟩⟩ Q q
  exact ⟨Z, v_a, v_b, x_a, x_b, y, rfl, sz, h_a, h_b, h, fun v Z2 H2 st hv => q v Z2 H2 st.pure (M.pure st m) hv⟩
def sp_law_differing (T : Txt K mg) : Sp := fun vs H Q _ => ∃ (Z0 : Hp) (v_a : V) (v_b : V) (x_a : (List Int)) (x_b : (List Int)) (y : Int), vs = [v_a, v_b] ∧ (Same Z0 H) ∧ (((yList yInt)).r Z0 v_a x_a) ∧ (((yList yInt)).r Z0 v_b x_b) ∧ (F_law_differing x_a x_b = some y) ∧ ∀ v Z' H', Step [] Z0 H Z' H' → (yInt).r Z' v y → Q v H'
set_option maxHeartbeats 4000000 in
theorem ok_law_differing (T : Txt K mg) : FnOk P w K mg base CX0 1 T.f_law_differing T.d_law_differing ["a", "b"] (sp_law_differing T) := by
  refine T.F_law_differing.ok sc_law_differing (fun vs H Q E h => ?_) (fun cdv A outer s H vs Q E hr h => ?_)
  · obtain ⟨Z0, v_a, v_b, x_a, x_b, y, rfl, _⟩ := h
    rfl
  · obtain ⟨Z0, v_a, v_b, x_a, x_b, y, rfl, sz, h_a, h_b, hF, q⟩ := h
    refine ⟨_, (pss_one (ps_ret (pe_callB call_len_seq (by rfl) T.m_len PySem.boot_len (pa_cons (pe_lc (own := [("k", 2)]) (g := gName 2) rfl sc_law_differing.nd (pi_range1 rfl T.m_range (pa_cons (pe_callB call_len_seq (by rfl) T.m_len PySem.boot_len (pa_cons (pv 0) pa_nil)) pa_nil)) (blkOk_by (own := [("k", 2)]) (N := ["a", "b", "k"]) (sc := defScope s_law_differing) (by decide +kernel)) (fun _ _ _ _ _ => (pg_name (i := 2) sc_law_differing.nd rfl (Or.inl rfl))) (fun _ _ _ _ _ => (by exact pts_one (pt_cmpR op_ne (pe_ix (r := rIxL K) (by exact ix_list) (pv 0) (pv 2) (fun _ _ => rfl)) (pe_ix (r := rIxL K) (by exact ix_list) (pv 1) (pv 2) (fun _ _ => rfl)) (nomark _)))) (fun _ _ _ _ _ => (pv 2))) pa_nil)))), ?_⟩
    have P := Pt.start0 sz
    unfold F_law_differing at hF
    obtain ⟨g_240, hF⟩ := guard_inv hF
    obtain ⟨l_248, h_249, hF⟩ := bind_inv hF
    replace hF := Option.some.inj hF
    subst hF
    refine st_ret P (ev_len (fun _ _ _ h => h) (ev_li (ev_fz (en_fmO (fun (x_241 : Int) => ((atI x_a x_241).bind fun i_244 =>
    (atI x_b x_241).bind fun i_246 =>
    if (!decide (i_244 = i_246)) = true then (some (some x_241)) else some none : Option (Option Int))) (ei_rng1 (ev_len (fun _ _ _ h => h) (ev_li (ev_var (τ := (yList yInt)) rfl h_a))) g_240) (fun x_241 v_242 Z' H' p zz hh rx_243 hp => by
          replace h_a := ((yList yInt)).mono zz h_a
          replace h_b := ((yList yInt)).mono zz h_b
          have hy := hp
          obtain ⟨i_244, h_245, hy⟩ := bind_inv hy
          obtain ⟨i_246, h_247, hy⟩ := bind_inv hy
          cases hb : (!decide (i_244 = i_246))
          · have hy := ifF hb hy
            have hy := Option.some.inj hy
            subst hy
            exact ⟨_, tgt_name, rfl, false, hb ▸ (et_cmp (ev_ne flat_int (ev_ixL (ev_li (ev_var (τ := (yList yInt)) rfl h_a)) (ev_var (τ := yInt) rfl rx_243) h_245) (ev_ixL (ev_li (ev_var (τ := (yList yInt)) rfl h_b)) (ev_var (τ := yInt) rfl rx_243) h_247))), (fun z => nomatch z), fun _ => rfl⟩
          · have hy := ifT hb hy
            have hy := Option.some.inj hy
            subst hy
            exact ⟨_, tgt_name, rfl, true, hb ▸ (et_cmp (ev_ne flat_int (ev_ixL (ev_li (ev_var (τ := (yList yInt)) rfl h_a)) (ev_var (τ := yInt) rfl rx_243) h_245) (ev_ixL (ev_li (ev_var (τ := (yList yInt)) rfl h_b)) (ev_var (τ := yInt) rfl rx_243) h_247))), fun _ => ⟨_, rfl, (ev_var (τ := yInt) rfl rx_243)⟩, fun z => nomatch z⟩) h_249)))) (fun v Z1 H1 P1 hv => ?_)
    exact q v _ _ P1.st hv
theorem cs_law_differing (T : Txt K mg) {μ : Type} {M : Mu μ} {s : μ} {E : XK} {x_a : (List Int)} {x_b : (List Int)} {y : Int} (h : F_law_differing x_a x_b = some y) : CallS M (sp_law_differing T) E (rac (ty (yList yInt) x_a) (rac (ty (yList yInt) x_b) ra0)) s (ty yInt y) s := by
  rintro Z H vs sz m ⟨v_a, _, rfl, h_a, ⟨v_b, _, rfl, h_b, rfl⟩⟩ Q q
  exact ⟨Z, v_a, v_b, x_a, x_b, y, rfl, sz, h_a, h_b, h, fun v Z2 H2 st hv => q v Z2 H2 st.pure (M.pure st m) hv⟩
def sp_law_distance (T : Txt K mg) : Sp := fun vs H Q _ => ∃ (Z0 : Hp) (v_a : V) (v_b : V) (x_a : (List Int)) (x_b : (List Int)) (y : Int), vs = [v_a, v_b] ∧ (Same Z0 H) ∧ (((yList yInt)).r Z0 v_a x_a) ∧ (((yList yInt)).r Z0 v_b x_b) ∧ (F_law_distance x_a x_b = some y) ∧ ∀ v Z' H', Step [] Z0 H Z' H' → (yInt).r Z' v y → Q v H'
set_option maxHeartbeats 4000000 in
theorem ok_law_distance (T : Txt K mg) : FnOk P w K mg base CX0 1 T.f_law_distance T.d_law_distance ["a", "b"] (sp_law_distance T) := by
  refine T.F_law_distance.ok sc_law_distance (fun vs H Q E h => ?_) (fun cdv A outer s H vs Q E hr h => ?_)
  · obtain ⟨Z0, v_a, v_b, x_a, x_b, y, rfl, _⟩ := h
    rfl
  · obtain ⟨Z0, v_a, v_b, x_a, x_b, y, rfl, sz, h_a, h_b, hF, q⟩ := h
    refine ⟨_, (pss_cons (ps_set (i := 2) sc_law_distance.nd rfl (.inl rfl) pe_int) 
      (pss_cons (ps_for PassesOwn.never rfl (pi_range1 rfl T.m_range (pa_cons (pe_callB call_len_seq (by rfl) T.m_len PySem.boot_len (pa_cons (pv 0) pa_nil)) pa_nil)) (pg_name (i := 3) sc_law_distance.nd rfl (.inl rfl)) (pss_one (ps_set (i := 2) sc_law_distance.nd rfl (.inl rfl) (pe_op op_add (pv 2) (pe_op op_mul (pe_op op_sub (pe_ix ix_list (pv 0) (pv 3) (fun _ _ => rfl)) (pe_ix ix_list (pv 1) (pv 3) (fun _ _ => rfl))) (pe_op op_sub (pe_ix ix_list (pv 0) (pv 3) (fun _ _ => rfl)) (pe_ix ix_list (pv 1) (pv 3) (fun _ _ => rfl)))))))) 
      (pss_one (ps_ret (pv 2))))), ?_⟩
    have P := Pt.start0 sz
    unfold F_law_distance at hF
    refine st_seq (st_set P ev_int (fun v_252 Z1 H1 e P1 k_253 => ?_))
    refine st_nx ?_
    replace P := P1
    replace h_a := ((yList yInt)).mono e.z h_a
    replace h_b := ((yList yInt)).mono e.z h_b
    obtain ⟨g_254, hF⟩ := guard_inv hF
    obtain ⟨f_289, hL_290, hF⟩ := bind_inv hF
    refine st_seq (st_for (τ := yInt) (fun (r_257 : List Int) σ' Z' H' => ∃ w_255, ∃ (v_264 : V) (y_266 : Option V), σ' = [some v_a, some v_b, some v_264, y_266] ∧ Pt [] Z0 H muN Z' H' () ∧ ((yList yInt)).r Z' v_a x_a ∧ ((yList yInt)).r Z' v_b x_b ∧ (yInt).r Z' v_264 w_255 ∧ forF (L_law_distance_1 x_a x_b) r_257 w_255 = some f_289) P (ei_rng1 (ev_len (fun _ _ _ h => h) (ev_li (ev_var (τ := (yList yInt)) rfl h_a))) g_254) ?_ ?_ ?_)
    · rintro Z1 H1 e P1
      replace P := P1
      replace h_a := ((yList yInt)).mono e.z h_a
      replace h_b := ((yList yInt)).mono e.z h_b
      exact ⟨(0 : Int), _, _, rfl, P, h_a, h_b, k_253, hL_290⟩
    · rintro Zb_261 Hb eb x_256 r_257 σ' v_273 Z1 H1 Z2 H2 zs_260 ⟨w_255, v_264, y_266, rfl, P, k_262, k_263, k_265, hq_259⟩ e hx_274
      replace P := P.item e
      replace k_262 := ((yList yInt)).mono e.z k_262
      replace k_263 := ((yList yInt)).mono e.z k_263
      replace zs_260 := zs_260.trans e.z
      obtain ⟨u_275, hB_258, hq_259⟩ := bind_inv (forF_cons hq_259)
      unfold L_law_distance_1 at hB_258
      refine tgt_name _ P.sub _ ?_
      obtain ⟨i_276, h_277, hB_258⟩ := bind_inv hB_258
      obtain ⟨i_278, h_279, hB_258⟩ := bind_inv hB_258
      obtain ⟨i_280, h_281, hB_258⟩ := bind_inv hB_258
      obtain ⟨i_282, h_283, hB_258⟩ := bind_inv hB_258
      obtain ⟨g_284, hB_258⟩ := guard_inv hB_258
      obtain ⟨x_total_285, h_286, hB_258⟩ := bind_inv hB_258
      replace h_286 := Option.some.inj h_286
      refine st_set P (ev_cast (ev_add (ev_var (τ := yInt) rfl k_265) (ev_mul (ev_sub (ev_ixL (ev_li (ev_var (τ := (yList yInt)) rfl k_262)) (ev_var (τ := yInt) rfl hx_274) h_277) (ev_ixL (ev_li (ev_var (τ := (yList yInt)) rfl k_263)) (ev_var (τ := yInt) rfl hx_274) h_279)) (ev_sub (ev_ixL (ev_li (ev_var (τ := (yList yInt)) rfl k_262)) (ev_var (τ := yInt) rfl hx_274) h_281) (ev_ixL (ev_li (ev_var (τ := (yList yInt)) rfl k_263)) (ev_var (τ := yInt) rfl hx_274) h_283)) g_284)) h_286) (fun v_287 Z1 H1 e P1 k_288 => ?_)
      replace P := P1
      replace k_262 := ((yList yInt)).mono e.z k_262
      replace k_263 := ((yList yInt)).mono e.z k_263
      replace zs_260 := zs_260.trans e.z
      replace hB_258 := Option.some.inj hB_258
      subst hB_258
      exact ⟨_, zs_260, P.sub, x_total_285, _, _, rfl, P, k_262, k_263, k_288, hq_259⟩
    rintro σ' Z1 H1 _ _ ⟨w_267, v_270, y_266, rfl, P, k_262, k_263, k_271, hl⟩
    have hz := (forF_nil hl).symm
    subst hz
    refine st_nx ?_
    replace hF := Option.some.inj hF
    subst hF
    refine st_ret P (ev_var (τ := yInt) rfl k_271) (fun v Z1 H1 P1 hv => ?_)
    exact q v _ _ P1.st hv
theorem cs_law_distance (T : Txt K mg) {μ : Type} {M : Mu μ} {s : μ} {E : XK} {x_a : (List Int)} {x_b : (List Int)} {y : Int} (h : F_law_distance x_a x_b = some y) : CallS M (sp_law_distance T) E (rac (ty (yList yInt) x_a) (rac (ty (yList yInt) x_b) ra0)) s (ty yInt y) s := by
  rintro Z H vs sz m ⟨v_a, _, rfl, h_a, ⟨v_b, _, rfl, h_b, rfl⟩⟩ Q q
  exact ⟨Z, v_a, v_b, x_a, x_b, y, rfl, sz, h_a, h_b, h, fun v Z2 H2 st hv => q v Z2 H2 st.pure (M.pure st m) hv⟩
def sp_law_moved (T : Txt K mg) : Sp := fun vs H Q _ => ∃ (st sc : Addr) (Z0 : Hp) (ds : DS) (v_fact : V) (v_vector : V) (x_fact : LFact) (x_vector : (List Int)) (y : (LFact × DS)), vs = [.ref st, v_fact, v_vector] ∧ (Same Z0 H) ∧ ((muD st sc).m ds Z0 H) ∧ (((y_LFact T)).r Z0 v_fact x_fact) ∧ (((yList yInt)).r Z0 v_vector x_vector) ∧ (F_law_moved ds x_fact x_vector = some y) ∧ ∀ v Z' H', Step (muD st sc).fp Z0 H Z' H' → (muD st sc).m y.2 Z' H' → ((y_LFact T)).r Z' v y.1 → Q v H'
set_option maxHeartbeats 4000000 in
theorem ok_law_moved (T : Txt K mg) : FnOk P w K mg base CX0 3 T.f_law_moved T.d_law_moved ["state", "fact", "vector"] (sp_law_moved T) := by
  have G_law_next : FnOk P w K mg base CX0 2 T.f_law_next T.d_law_next ["state", "many"] (sp_law_next T) := ok_law_next T
  have G_law_differing : FnOk P w K mg base CX0 1 T.f_law_differing T.d_law_differing ["a", "b"] (sp_law_differing T) := ok_law_differing T
  have G_law_inner : FnOk P w K mg base CX0 1 T.f_law_inner T.d_law_inner ["a", "b"] (sp_law_inner T) := ok_law_inner T
  have G_law_distance : FnOk P w K mg base CX0 1 T.f_law_distance T.d_law_distance ["a", "b"] (sp_law_distance T) := ok_law_distance T
  refine T.F_law_moved.ok sc_law_moved (fun vs H Q E h => ?_) (fun cdv A outer s H vs Q E hr h => ?_)
  · obtain ⟨st, sc, Z0, ds, v_fact, v_vector, x_fact, x_vector, y, rfl, _⟩ := h
    rfl
  · obtain ⟨st, sc, Z0, ds, v_fact, v_vector, x_fact, x_vector, y, rfl, sz, hm, h_fact, h_vector, hF, q⟩ := h
    refine ⟨_, (pss_cons (ps_if (PW.pt (pw_and (pt_cmpR op_eq (pe_ix ix_tup (pv 1) pe_int (fun _ _ => rfl)) pe_str (nomark _)) (pw_and1 (pt_cmpR op_gt (pe_callB call_len_seq (by rfl) T.m_len PySem.boot_len (pa_cons (pe_ix ix_tup (pv 1) pe_int (fun _ _ => rfl)) pa_nil)) pe_int (nomark _))))) (pss_cons (ps_asg (pe_ix ix_list (pe_ix ix_tup (pv 1) pe_int (fun _ _ => rfl)) pe_int (fun _ _ => rfl)) (pg_tup rfl (pgs_cons (pg_name (i := 3) sc_law_moved.nd rfl (.inl rfl)) (pgs_cons (pg_name (i := 4) sc_law_moved.nd rfl (.inl rfl)) (pgs_cons (pg_name (i := 5) sc_law_moved.nd rfl (.inl rfl)) pgs_nil))))) 
      (pss_cut (ps_if (PW.pt (pw_and (pt_cmpR op_ge (pv 3) pe_int (nomark _)) (pw_and1 (pt_cmpR op_le (pe_op op_add (pv 3) (pe_callB call_len_seq (by rfl) T.m_len PySem.boot_len (pa_cons (pv 4) pa_nil))) (pe_callB call_len_seq (by rfl) T.m_len PySem.boot_len (pa_cons (pv 2) pa_nil)) (nomark _))))) (pss_one (ps_set (i := 5) sc_law_moved.nd rfl (.inl rfl) (pe_callB (call_max2 rfl) (by rfl) T.m_max (by decide +kernel) (pa_cons pe_int (pa_cons (pe_op op_sub (pe_call G_law_distance (hr.mono (by decide)) (by rfl) T.g_law_distance T.F_law_distance.kp T.b_law_distance .nil pass0 (pa_cons (pv 4) (pa_cons (pe_slice sl_list (pv 2) (po_some (pv 3)) (po_some (pe_op op_add (pv 3) (pe_callB call_len_seq (by rfl) T.m_len PySem.boot_len (pa_cons (pv 4) pa_nil))))) pa_nil))) (pe_call G_law_next (hr.mono (by decide)) (by rfl) T.g_law_next T.F_law_next.kp T.b_law_next .nil pass0 (pa_cons (pv 0) (pa_cons pe_int pa_nil)))) pa_nil))))) pss_nil) 
      (pss_one (ps_ret (pe_tup (pa_cons pe_str (pa_cons (pe_op op_cat (pe_lst (pa_cons (pe_tup (pa_cons (pv 3) (pa_cons (pv 4) (pa_cons (pv 5) pa_nil)))) pa_nil)) (pe_slice sl_list (pe_ix ix_tup (pv 1) pe_int (fun _ _ => rfl)) (po_some pe_int) po_none)) pa_nil))))))) pss_nil) 
      (pss_cons (ps_if (pt_cmpR op_eq (pe_ix ix_tup (pv 1) pe_int (fun _ _ => rfl)) pe_str (nomark _)) (pss_cons (ps_set (i := 6) sc_law_moved.nd rfl (.inl rfl) (pe_call G_law_inner (hr.mono (by decide)) (by rfl) T.g_law_inner T.F_law_inner.kp T.b_law_inner .nil pass0 (pa_cons (pv 2) (pa_cons (pv 2) pa_nil)))) 
      (pss_one (ps_ret (pe_ix ix_list (pe_lst (pa_cons (pe_tup (pa_cons pe_str (pa_cons (pv 6) (pa_cons (pv 6) pa_nil)))) (pa_cons (pe_tup (pa_cons pe_str (pa_cons (pe_op op_add (pv 6) pe_int) (pa_cons (pe_op op_add (pv 6) pe_int) pa_nil)))) (pa_cons (pe_tup (pa_cons pe_str (pa_cons pe_int (pa_cons (pe_op op_sub (pv 6) pe_int) pa_nil)))) pa_nil)))) (pe_call G_law_next (hr.mono (by decide)) (by rfl) T.g_law_next T.F_law_next.kp T.b_law_next .nil pass0 (pa_cons (pv 0) (pa_cons pe_int pa_nil))) (fun _ _ => rfl))))) pss_nil) 
      (pss_cons (ps_if (PW.pt (pw_and (pt_cmpR op_eq (pe_ix ix_tup (pv 1) pe_int (fun _ _ => rfl)) pe_str (nomark _)) (pw_and1 (pt_cmpR op_eq (pe_callB call_len_seq (by rfl) T.m_len PySem.boot_len (pa_cons (pe_ix ix_tup (pv 1) pe_int (fun _ _ => rfl)) pa_nil)) (pe_callB call_len_seq (by rfl) T.m_len PySem.boot_len (pa_cons (pv 2) pa_nil)) (nomark _))))) (pss_one (ps_ret (pe_tup (pa_cons pe_str (pa_cons (pe_ix ix_tup (pv 1) pe_int (fun _ _ => rfl)) (pa_cons (pe_op op_sub (pe_call G_law_differing (hr.mono (by decide)) (by rfl) T.g_law_differing T.F_law_differing.kp T.b_law_differing .nil pass0 (pa_cons (pe_ix ix_tup (pv 1) pe_int (fun _ _ => rfl)) (pa_cons (pv 2) pa_nil))) (pe_call G_law_next (hr.mono (by decide)) (by rfl) T.g_law_next T.F_law_next.kp T.b_law_next .nil pass0 (pa_cons (pv 0) (pa_cons pe_int pa_nil)))) pa_nil)))))) pss_nil) 
      (pss_cons (ps_if (PW.pt (pw_and (pt_cmpR op_eq (pe_ix ix_tup (pv 1) pe_int (fun _ _ => rfl)) pe_str (nomark _)) (pw_and1 (pt_cmpR op_eq (pe_callB call_len_seq (by rfl) T.m_len PySem.boot_len (pa_cons (pe_ix ix_tup (pv 1) pe_int (fun _ _ => rfl)) pa_nil)) (pe_callB call_len_seq (by rfl) T.m_len PySem.boot_len (pa_cons (pv 2) pa_nil)) (nomark _))))) (pss_cons (ps_setLc (i := 7) (own := [("number", 8)]) (g := gName 8) rfl sc_law_moved.nd rfl rfl (sw_true rfl rfl rfl (by decide +kernel)) (pi_list (pv 2)) (blkOk_by (own := [("number", 8)]) (N := ["state", "fact", "vector", "start", "centre", "radius", "square", "low", "number", "high", "place", "k"]) (sc := defScope s_law_moved) (by decide +kernel)) (fun _ _ _ _ _ => (pg_name (i := 8) sc_law_moved.nd rfl (Or.inl rfl))) (fun _ _ _ _ _ => pts_nil) (fun _ _ _ _ _ => (pe_op op_sub (pv 8) (pe_call G_law_next (hr.mono (by decide)) (by rfl) T.g_law_next T.F_law_next.kp T.b_law_next .nil pass0 (pa_cons (pv 0) (pa_cons pe_int pa_nil)))))) 
      (pss_cons (ps_setLc (i := 9) (own := [("number", 8)]) (g := gName 8) rfl sc_law_moved.nd rfl rfl (sw_true rfl rfl rfl (by decide +kernel)) (pi_list (pv 2)) (blkOk_by (own := [("number", 8)]) (N := ["state", "fact", "vector", "start", "centre", "radius", "square", "low", "number", "high", "place", "k"]) (sc := defScope s_law_moved) (by decide +kernel)) (fun _ _ _ _ _ => (pg_name (i := 8) sc_law_moved.nd rfl (Or.inl rfl))) (fun _ _ _ _ _ => pts_nil) (fun _ _ _ _ _ => (pe_op op_add (pv 8) (pe_call G_law_next (hr.mono (by decide)) (by rfl) T.g_law_next T.F_law_next.kp T.b_law_next .nil pass0 (pa_cons (pv 0) (pa_cons pe_int pa_nil)))))) 
      (pss_cons (ps_set (i := 10) sc_law_moved.nd rfl (.inl rfl) (pe_call G_law_next (hr.mono (by decide)) (by rfl) T.g_law_next T.F_law_next.kp T.b_law_next .nil pass0 (pa_cons (pv 0) (pa_cons (pe_callB call_len_seq (by rfl) T.m_len PySem.boot_len (pa_cons (pv 2) pa_nil)) pa_nil)))) 
      (pss_cons (ps_asg (pe_op op_add (pe_ix ix_list (pv 2) (pv 10) (fun _ _ => rfl)) (pe_ix ix_list (pe_lst (pa_cons pe_int (pa_cons pe_int (pa_cons pe_int pa_nil)))) (pe_call G_law_next (hr.mono (by decide)) (by rfl) T.g_law_next T.F_law_next.kp T.b_law_next .nil pass0 (pa_cons (pv 0) (pa_cons pe_int pa_nil))) (fun _ _ => rfl))) (pg_sub (pv 7) (pv 10) set_list)) 
      (pss_cons (ps_asg (pe_op op_sub (pe_ix ix_list (pv 2) (pv 10) (fun _ _ => rfl)) (pe_ix ix_list (pe_lst (pa_cons pe_int (pa_cons pe_int (pa_cons pe_int pa_nil)))) (pe_call G_law_next (hr.mono (by decide)) (by rfl) T.g_law_next T.F_law_next.kp T.b_law_next .nil pass0 (pa_cons (pv 0) (pa_cons pe_int pa_nil))) (fun _ _ => rfl))) (pg_sub (pv 9) (pv 10) set_list)) 
      (pss_one (ps_ret (pe_tup (pa_cons pe_str (pa_cons (pv 7) (pa_cons (pv 9) pa_nil))))))))))) pss_nil) 
      (pss_cons (ps_if (PW.pt (pw_and (pt_cmpR op_eq (pe_ix ix_tup (pv 1) pe_int (fun _ _ => rfl)) pe_str (nomark _)) (pw_and1 (pt_cmpR op_eq (pe_callB call_len_seq (by rfl) T.m_len PySem.boot_len (pa_cons (pe_ix ix_tup (pv 1) pe_int (fun _ _ => rfl)) pa_nil)) (pe_callB call_len_seq (by rfl) T.m_len PySem.boot_len (pa_cons (pv 2) pa_nil)) (nomark _))))) (pss_one (ps_ret (pe_tup (pa_cons pe_str (pa_cons (pe_ix ix_tup (pv 1) pe_int (fun _ _ => rfl)) (pa_cons (pe_lc (own := [("k", 11)]) (g := gName 11) rfl sc_law_moved.nd (pi_range1 rfl T.m_range (pa_cons (pe_callB call_len_seq (by rfl) T.m_len PySem.boot_len (pa_cons (pv 2) pa_nil)) pa_nil)) (blkOk_by (own := [("k", 11)]) (N := ["state", "fact", "vector", "start", "centre", "radius", "square", "low", "number", "high", "place", "k"]) (sc := defScope s_law_moved) (by decide +kernel)) (fun _ _ _ _ _ => (pg_name (i := 11) sc_law_moved.nd rfl (Or.inl rfl))) (fun _ _ _ _ _ => pts_nil) (fun _ _ _ _ _ => (pe_op op_sub (pe_op op_mul pe_int (pe_ix (r := rIxL K) (by exact ix_list) (pv 2) (pv 11) (fun _ _ => rfl))) (pe_ix (r := rIxL K) (by exact ix_list) (pe_ix (r := rIxT K) (by exact ix_tup) (pv 1) pe_int (fun _ _ => rfl)) (pv 11) (fun _ _ => rfl))))) pa_nil)))))) pss_nil) 
      (pss_one (ps_ret (pv 1)))))))), ?_⟩
    have P := Pt.start (muD st sc) sz hm
    unfold F_law_moved at hF
    obtain ⟨b_302, h_301, hF⟩ := bind_inv hF
    refine st_seq (st_if P (et_andO (et_cmp (ev_eq flat_str (tg_LFact T (ev_var (τ := (y_LFact T)) rfl h_fact) ev_int) ev_str)) (fun _ y hy => by
          obtain ⟨a_299, h_300, hy⟩ := bind_inv hy
          have hy := Option.some.inj hy
          subst hy
          exact (et_cmp (ev_gt (ev_len (fun _ _ _ h => h) (ev_li (sl_LFact_0 T (ev_var (τ := (y_LFact T)) rfl h_fact) ev_int h_300))) ev_int))) h_301) (fun b_303 Z1 H1 e P1 => ?_) (fun b_303 Z1 H1 e P1 => ?_))
    · replace P := P1
      have hB := ifT b_303 hF
      replace hF := hB
      clear hB
      replace h_fact := ((y_LFact T)).mono e.z h_fact
      replace h_vector := ((yList yInt)).mono e.z h_vector
      obtain ⟨a_304, h_305, hF⟩ := bind_inv hF
      obtain ⟨i_306, h_307, hF⟩ := bind_inv hF
      refine st_seq (st_asg P (ev_ixL (ev_li (sl_LFact_0 T (ev_var (τ := (y_LFact T)) rfl h_fact) ev_int h_305)) ev_int h_307) (fun v Z1 H1 e P1 k_308 => ?_))
      replace P := P1
      replace h_fact := ((y_LFact T)).mono e.z h_fact
      replace h_vector := ((yList yInt)).mono e.z h_vector
      obtain ⟨v_309, v_310, v_311, k_312, k_313, k_314, tg_315⟩ := tgt_p3 k_308
      refine ⟨_, (tg_315 tgt_name tgt_name tgt_name), ?_⟩
      refine st_nx ?_
      obtain ⟨w_318, hB_317, hF⟩ := bind_inv hF
      refine ⟨fun σ' H' => ∃ Z', ∃ (y_320 : Option V) (v_322 : V) (y_324 : Option V) (y_325 : Option V) (y_326 : Option V) (y_327 : Option V) (y_328 : Option V) (y_329 : Option V), σ' = [some (.ref st), some v_fact, y_320, some v_309, some v_310, some v_322, y_324, y_325, y_326, y_327, y_328, y_329] ∧ Pt (muD st sc).fp Z0 H (muD st sc) Z' H' w_318.2 ∧ ((y_LFact T)).r Z' v_fact x_fact ∧ ((yList yInt)).r Z' v_310 i_306.2.1 ∧ (yInt).r Z' v_322 w_318.1, ?_, ?_⟩
      · refine st_if P (et_and0 (et_cmp (ev_ge (ev_var (τ := yInt) rfl k_312) ev_int)) (et_cmp (ev_le (ev_add (ev_var (τ := yInt) rfl k_312) (ev_len (fun _ _ _ h => h) (ev_li (ev_var (τ := (yList yInt)) rfl k_313)))) (ev_len (fun _ _ _ h => h) (ev_li (ev_var (τ := (yList yInt)) rfl h_vector)))))) (fun b_316 Z1 H1 e P1 => ?_) (fun b_316 Z1 H1 e P1 => ?_)
        · replace P := P1
          replace hB_317 := ifT b_316 hB_317
          replace h_fact := ((y_LFact T)).mono e.z h_fact
          replace h_vector := ((yList yInt)).mono e.z h_vector
          replace k_313 := ((yList yInt)).mono e.z k_313
          obtain ⟨r_330, h_331, hB_317⟩ := bind_inv hB_317
          obtain ⟨x_radius_332, h_333, hB_317⟩ := bind_inv hB_317
          replace h_333 := Option.some.inj h_333
          refine st_set P (ev_cast (ev_max2 ev_int (ev_sub (ev_call (cs_law_distance T h_331) (eva_cons (ev_var (τ := (yList yInt)) rfl k_313) (eva_cons (ev_fz (en_slL (ev_li (ev_var (τ := (yList yInt)) rfl h_vector)) (eo_some (ev_var (τ := yInt) rfl k_312)) (eo_some (ev_add (ev_var (τ := yInt) rfl k_312) (ev_len (fun _ _ _ h => h) (ev_li (ev_var (τ := (yList yInt)) rfl k_313))))))) eva_nil))) (ev_call (cs__law_next T (by decide +kernel)) (eva_cons (ev_ref rfl) (eva_cons ev_int eva_nil))))) h_333) (fun v_334 Z1 H1 e P1 k_335 => ?_)
          replace P := P1
          replace h_fact := ((y_LFact T)).mono e.z h_fact
          replace k_313 := ((yList yInt)).mono e.z k_313
          replace hB_317 := Option.some.inj hB_317
          subst hB_317
          exact ⟨_, _, _, _, _, _, _, _, _, rfl, P, h_fact, k_313, k_335⟩
        · replace P := P1
          replace hB_317 := ifF b_316 hB_317
          replace h_fact := ((y_LFact T)).mono e.z h_fact
          replace k_313 := ((yList yInt)).mono e.z k_313
          replace hB_317 := Option.some.inj hB_317
          subst hB_317
          exact ⟨_, _, _, _, _, _, _, _, _, rfl, P, h_fact, k_313, k_314⟩
      rintro σ' H' ⟨Z1, y_320, v_322, y_324, y_325, y_326, y_327, y_328, y_329, rfl, P, k_319, k_321, k_323⟩
      obtain ⟨a_336, h_337, hF⟩ := bind_inv hF
      obtain ⟨g_338, hF⟩ := guard_inv hF
      replace hF := Option.some.inj hF
      subst hF
      refine st_ret P (it_LFact_parts T (ev_p2 (K := K) (eva_cons ev_str (eva_cons (ev_fz (en_cat (ev_li (ev_fz (en_listD (eva_conss (ev_p3 (K := K) (eva_cons (ev_var (τ := yInt) rfl k_312) (eva_cons (ev_var (τ := (yList yInt)) rfl k_321) (eva_cons (ev_var (τ := yInt) rfl k_323) eva_nil)))) (eva_nils (τ := (yP3 K yInt (yList yInt) yInt)))) (by show 1 ≤ sizeLine; decide)))) (ev_li (ev_fz (en_slL (ev_li (sl_LFact_0 T (ev_var (τ := (y_LFact T)) rfl k_319) ev_int h_337)) (eo_some ev_int) eo_none))) g_338)) eva_nil)))) (fun v Z1 H1 P1 hv => ?_)
      exact q v _ _ P1.st P1.m hv
    · replace P := P1
      have hB := ifF b_303 hF
      replace hF := hB
      clear hB
      refine st_next0 ?_
      replace h_fact := ((y_LFact T)).mono e.z h_fact
      replace h_vector := ((yList yInt)).mono e.z h_vector
      refine st_seq (st_if P (et_cmp (ev_eq flat_str (tg_LFact T (ev_var (τ := (y_LFact T)) rfl h_fact) ev_int) ev_str)) (fun b_339 Z1 H1 e P1 => ?_) (fun b_339 Z1 H1 e P1 => ?_))
      · replace P := P1
        have hB := ifT b_339 hF
        replace hF := hB
        clear hB
        replace h_vector := ((yList yInt)).mono e.z h_vector
        obtain ⟨r_340, h_341, hF⟩ := bind_inv hF
        refine st_seq (st_set P (ev_call (cs_law_inner T h_341) (eva_cons (ev_var (τ := (yList yInt)) rfl h_vector) (eva_cons (ev_var (τ := (yList yInt)) rfl h_vector) eva_nil))) (fun v_342 Z1 H1 e P1 k_343 => ?_))
        refine st_nx ?_
        replace P := P1
        obtain ⟨i_344, h_345, hF⟩ := bind_inv hF
        replace hF := Option.some.inj hF
        subst hF
        refine st_ret P (ev_ixL (ev_li (ev_fz (en_listD (eva_conss (it_LFact_norms T (ev_p3 (K := K) (eva_cons ev_str (eva_cons (ev_var (τ := yInt) rfl k_343) (eva_cons (ev_var (τ := yInt) rfl k_343) eva_nil))))) (eva_conss (it_LFact_norms T (ev_p3 (K := K) (eva_cons ev_str (eva_cons (ev_add (ev_var (τ := yInt) rfl k_343) ev_int) (eva_cons (ev_add (ev_var (τ := yInt) rfl k_343) ev_int) eva_nil))))) (eva_conss (it_LFact_norms T (ev_p3 (K := K) (eva_cons ev_str (eva_cons ev_int (eva_cons (ev_sub (ev_var (τ := yInt) rfl k_343) ev_int) eva_nil))))) (eva_nils (τ := (y_LFact T)))))) (by show 3 ≤ sizeLine; decide)))) (ev_call (cs__law_next T (by decide +kernel)) (eva_cons (ev_ref rfl) (eva_cons ev_int eva_nil))) h_345) (fun v Z1 H1 P1 hv => ?_)
        exact q v _ _ P1.st P1.m hv
      · replace P := P1
        have hB := ifF b_339 hF
        replace hF := hB
        clear hB
        refine st_next0 ?_
        replace h_fact := ((y_LFact T)).mono e.z h_fact
        replace h_vector := ((yList yInt)).mono e.z h_vector
        obtain ⟨b_351, h_350, hF⟩ := bind_inv hF
        refine st_seq (st_if P (et_andO (et_cmp (ev_eq flat_str (tg_LFact T (ev_var (τ := (y_LFact T)) rfl h_fact) ev_int) ev_str)) (fun _ y hy => by
              obtain ⟨a_348, h_349, hy⟩ := bind_inv hy
              have hy := Option.some.inj hy
              subst hy
              exact (et_cmp (ev_eq flat_int (ev_len (fun _ _ _ h => h) (ev_li (sl_LFact_1 T (ev_var (τ := (y_LFact T)) rfl h_fact) ev_int h_349))) (ev_len (fun _ _ _ h => h) (ev_li (ev_var (τ := (yList yInt)) rfl h_vector)))))) h_350) (fun b_352 Z1 H1 e P1 => ?_) (fun b_352 Z1 H1 e P1 => ?_))
        · replace P := P1
          have hB := ifT b_352 hF
          replace hF := hB
          clear hB
          replace h_fact := ((y_LFact T)).mono e.z h_fact
          replace h_vector := ((yList yInt)).mono e.z h_vector
          obtain ⟨a_353, h_354, hF⟩ := bind_inv hF
          obtain ⟨a_355, h_356, hF⟩ := bind_inv hF
          obtain ⟨r_357, h_358, hF⟩ := bind_inv hF
          replace hF := Option.some.inj hF
          subst hF
          refine st_ret P (it_LFact_differ T (ev_p3 (K := K) (eva_cons ev_str (eva_cons (sl_LFact_1 T (ev_var (τ := (y_LFact T)) rfl h_fact) ev_int h_354) (eva_cons (ev_sub (ev_call (cs_law_differing T h_358) (eva_cons (sl_LFact_1 T (ev_var (τ := (y_LFact T)) rfl h_fact) ev_int h_356) (eva_cons (ev_var (τ := (yList yInt)) rfl h_vector) eva_nil))) (ev_call (cs__law_next T (by decide +kernel)) (eva_cons (ev_ref rfl) (eva_cons ev_int eva_nil)))) eva_nil))))) (fun v Z1 H1 P1 hv => ?_)
          exact q v _ _ P1.st P1.m hv
        · replace P := P1
          have hB := ifF b_352 hF
          replace hF := hB
          clear hB
          refine st_next0 ?_
          replace h_fact := ((y_LFact T)).mono e.z h_fact
          replace h_vector := ((yList yInt)).mono e.z h_vector
          obtain ⟨b_364, h_363, hF⟩ := bind_inv hF
          refine st_seq (st_if P (et_andO (et_cmp (ev_eq flat_str (tg_LFact T (ev_var (τ := (y_LFact T)) rfl h_fact) ev_int) ev_str)) (fun _ y hy => by
                obtain ⟨a_361, h_362, hy⟩ := bind_inv hy
                have hy := Option.some.inj hy
                subst hy
                exact (et_cmp (ev_eq flat_int (ev_len (fun _ _ _ h => h) (ev_li (sl_LFact_1 T (ev_var (τ := (y_LFact T)) rfl h_fact) ev_int h_362))) (ev_len (fun _ _ _ h => h) (ev_li (ev_var (τ := (yList yInt)) rfl h_vector)))))) h_363) (fun b_365 Z1 H1 e P1 => ?_) (fun b_365 Z1 H1 e P1 => ?_))
          · replace P := P1
            have hB := ifT b_365 hF
            replace hF := hB
            clear hB
            replace h_vector := ((yList yInt)).mono e.z h_vector
            obtain ⟨l_370, h_371, hF⟩ := bind_inv hF
            refine st_seq (st_setN (τ := yInt) P (en_mapS (fun (x_366 : Int) (s_367 : DS) => (some ((x_366 - (nxV s_367 (2 : Int))), (nxS s_367 (2 : Int))) : Option (Int × DS))) (ei_list (ev_var (τ := (yList yInt)) rfl h_vector)) (fun x_366 v_368 Z' H' s_367 p zz hh rx_369 hp => by
                  have hy := hp
                  have hy := Option.some.inj hy
                  subst hy
                  exact ⟨_, tgt_name, rfl, (ev_sub (ev_var (τ := yInt) rfl rx_369) (ev_call (cs__law_next T (by decide +kernel)) (eva_cons (ev_ref rfl) (eva_cons ev_int eva_nil))))⟩) h_371) (fun p_372 Z1 H1 e P1 fr_374 o_373 => ?_))
            refine st_nx ?_
            replace P := P1
            replace h_vector := ((yList yInt)).mono e.z h_vector
            obtain ⟨l_379, h_380, hF⟩ := bind_inv hF
            refine st_seq (st_setN (τ := yInt) P (en_mapS (fun (x_375 : Int) (s_376 : DS) => (some ((x_375 + (nxV s_376 (2 : Int))), (nxS s_376 (2 : Int))) : Option (Int × DS))) (ei_list (ev_var (τ := (yList yInt)) rfl h_vector)) (fun x_375 v_377 Z' H' s_376 p zz hh rx_378 hp => by
                  have hy := hp
                  have hy := Option.some.inj hy
                  subst hy
                  exact ⟨_, tgt_name, rfl, (ev_add (ev_var (τ := yInt) rfl rx_378) (ev_call (cs__law_next T (by decide +kernel)) (eva_cons (ev_ref rfl) (eva_cons ev_int eva_nil))))⟩) h_380) (fun p_381 Z1 H1 e P1 fr_383 o_382 => ?_))
            refine st_nx ?_
            have ne_384 := o_373.ne fr_383
            replace P := P1
            replace h_vector := ((yList yInt)).mono e.z h_vector
            replace o_373 := o_373.next e
            obtain ⟨g_385, hF⟩ := guard_inv hF
            obtain ⟨x_place_386, h_387, hF⟩ := bind_inv hF
            replace h_387 := Option.some.inj h_387
            refine st_seq (st_set P (ev_cast (ev_call (cs__law_next T g_385) (eva_cons (ev_ref rfl) (eva_cons (ev_len (fun _ _ _ h => h) (ev_li (ev_var (τ := (yList yInt)) rfl h_vector))) eva_nil))) h_387) (fun v_388 Z1 H1 e P1 k_389 => ?_))
            refine st_nx ?_
            replace P := P1
            replace h_vector := ((yList yInt)).mono e.z h_vector
            replace o_373 := o_373.next e
            replace o_382 := o_382.next e
            obtain ⟨i_392, h_393, hF⟩ := bind_inv hF
            obtain ⟨i_394, h_395, hF⟩ := bind_inv hF
            obtain ⟨j_396, h_397, hF⟩ := bind_inv hF
            refine st_seq (st_setitem P o_373 rfl (ev_add (ev_ixL (ev_li (ev_var (τ := (yList yInt)) rfl h_vector)) (ev_var (τ := yInt) rfl k_389) h_393) (ev_ixL (ev_li (ev_fz (en_listD (eva_conss ev_int (eva_conss ev_int (eva_conss ev_int (eva_nils (τ := yInt))))) (by show 3 ≤ sizeLine; decide)))) (ev_call (cs__law_next T (by decide +kernel)) (eva_cons (ev_ref rfl) (eva_cons ev_int eva_nil))) h_395)) (fun Z1 H1 e => by
                  exact (ev_var (τ := yInt) rfl k_389)) h_397 (fun Z1 H1 e P1 o_398 => ?_))
            refine st_nx ?_
            replace P := P1
            replace h_vector := ((yList yInt)).mono e.z h_vector
            replace o_382 := o_382.step e (fun h => (List.mem_cons.mp h).elim (fun z => ne_384.symm z) o_382.n)
            obtain ⟨i_399, h_400, hF⟩ := bind_inv hF
            obtain ⟨i_401, h_402, hF⟩ := bind_inv hF
            obtain ⟨j_403, h_404, hF⟩ := bind_inv hF
            refine st_seq (st_setitem P o_382 rfl (ev_sub (ev_ixL (ev_li (ev_var (τ := (yList yInt)) rfl h_vector)) (ev_var (τ := yInt) rfl k_389) h_400) (ev_ixL (ev_li (ev_fz (en_listD (eva_conss ev_int (eva_conss ev_int (eva_conss ev_int (eva_nils (τ := yInt))))) (by show 3 ≤ sizeLine; decide)))) (ev_call (cs__law_next T (by decide +kernel)) (eva_cons (ev_ref rfl) (eva_cons ev_int eva_nil))) h_402)) (fun Z1 H1 e => by
                  exact (ev_var (τ := yInt) rfl k_389)) h_404 (fun Z1 H1 e P1 o_405 => ?_))
            refine st_nx ?_
            replace P := P1
            replace o_398 := o_398.step e (fun h => (List.mem_cons.mp h).elim (fun z => ne_384 z) o_398.n)
            obtain ⟨Z, P, zf, hf, of⟩ := o_398.fz P
            replace o_405 := o_405.keep zf (of _ ne_384.symm o_405.z)
            have k_406 := hf
            clear hf zf of
            obtain ⟨Z, P, zf, hf, of⟩ := o_405.fz P
            replace k_406 := ((yList yInt)).mono zf k_406
            have k_407 := hf
            clear hf zf of
            replace hF := Option.some.inj hF
            subst hF
            refine st_ret P (it_LFact_box T (ev_p3 (K := K) (eva_cons ev_str (eva_cons (ev_var (τ := (yList yInt)) rfl k_406) (eva_cons (ev_var (τ := (yList yInt)) rfl k_407) eva_nil))))) (fun v Z1 H1 P1 hv => ?_)
            exact q v _ _ P1.st P1.m hv
          · replace P := P1
            have hB := ifF b_365 hF
            replace hF := hB
            clear hB
            refine st_next0 ?_
            replace h_fact := ((y_LFact T)).mono e.z h_fact
            replace h_vector := ((yList yInt)).mono e.z h_vector
            obtain ⟨b_413, h_412, hF⟩ := bind_inv hF
            refine st_seq (st_if P (et_andO (et_cmp (ev_eq flat_str (tg_LFact T (ev_var (τ := (y_LFact T)) rfl h_fact) ev_int) ev_str)) (fun _ y hy => by
                  obtain ⟨a_410, h_411, hy⟩ := bind_inv hy
                  have hy := Option.some.inj hy
                  subst hy
                  exact (et_cmp (ev_eq flat_int (ev_len (fun _ _ _ h => h) (ev_li (sl_LFact_1 T (ev_var (τ := (y_LFact T)) rfl h_fact) ev_int h_411))) (ev_len (fun _ _ _ h => h) (ev_li (ev_var (τ := (yList yInt)) rfl h_vector)))))) h_412) (fun b_414 Z1 H1 e P1 => ?_) (fun b_414 Z1 H1 e P1 => ?_))
            · replace P := P1
              have hB := ifT b_414 hF
              replace hF := hB
              clear hB
              replace h_fact := ((y_LFact T)).mono e.z h_fact
              replace h_vector := ((yList yInt)).mono e.z h_vector
              obtain ⟨a_415, h_416, hF⟩ := bind_inv hF
              obtain ⟨g_417, hF⟩ := guard_inv hF
              obtain ⟨l_428, h_429, hF⟩ := bind_inv hF
              replace hF := Option.some.inj hF
              subst hF
              refine st_ret P (it_LFact_cell T (ev_p3 (K := K) (eva_cons ev_str (eva_cons (sl_LFact_1 T (ev_var (τ := (y_LFact T)) rfl h_fact) ev_int h_416) (eva_cons (ev_fz (en_mapO (fun (x_418 : Int) => ((atI x_vector x_418).bind fun i_422 =>
              (x_fact.s_1).bind fun a_424 =>
              (atI a_424 x_418).bind fun i_426 =>
              some (((2 : Int) * i_422) - i_426) : Option Int)) (ei_rng1 (ev_len (fun _ _ _ h => h) (ev_li (ev_var (τ := (yList yInt)) rfl h_vector))) g_417) (fun x_418 v_420 Z' H' p zz hh rx_421 hp => by
                    replace h_fact := ((y_LFact T)).mono zz h_fact
                    replace h_vector := ((yList yInt)).mono zz h_vector
                    have hy := hp
                    obtain ⟨i_422, h_423, hy⟩ := bind_inv hy
                    obtain ⟨a_424, h_425, hy⟩ := bind_inv hy
                    obtain ⟨i_426, h_427, hy⟩ := bind_inv hy
                    have hy := Option.some.inj hy
                    subst hy
                    exact ⟨_, tgt_name, rfl, (ev_sub (ev_mul ev_int (ev_ixL (ev_li (ev_var (τ := (yList yInt)) rfl h_vector)) (ev_var (τ := yInt) rfl rx_421) h_423) (.inl (by decide))) (ev_ixL (ev_li (sl_LFact_1 T (ev_var (τ := (y_LFact T)) rfl h_fact) ev_int h_425)) (ev_var (τ := yInt) rfl rx_421) h_427))⟩) h_429)) eva_nil))))) (fun v Z1 H1 P1 hv => ?_)
              exact q v _ _ P1.st P1.m hv
            · replace P := P1
              have hB := ifF b_414 hF
              replace hF := hB
              clear hB
              refine st_next0 ?_
              replace h_fact := ((y_LFact T)).mono e.z h_fact
              replace hF := Option.some.inj hF
              subst hF
              refine st_ret P (ev_var (τ := (y_LFact T)) rfl h_fact) (fun v Z1 H1 P1 hv => ?_)
              exact q v _ _ P1.st P1.m hv
theorem cs_law_moved (T : Txt K mg) {st sc : Addr} {ds : DS} {E : XK} {x_fact : LFact} {x_vector : (List Int)} {y : LFact × DS} (h : F_law_moved ds x_fact x_vector = some y) : CallS (muD st sc) (sp_law_moved T) E (rac (isRef st) (rac (ty (y_LFact T) x_fact) (rac (ty (yList yInt) x_vector) ra0))) ds (ty (y_LFact T) y.1) y.2 := by
  rintro Z H vs sz m ⟨_, _, rfl, rfl, ⟨v_fact, _, rfl, h_fact, ⟨v_vector, _, rfl, h_vector, rfl⟩⟩⟩ Q q
  exact ⟨st, sc, Z, ds, v_fact, v_vector, x_fact, x_vector, y, rfl, sz, m, h_fact, h_vector, h, fun v Z2 H2 s2 m2 hv => q v Z2 H2 s2 m2 hv⟩
theorem cu_law_moved (T : Txt K mg) {st sc : Addr} {ds : DS} {E : XK} {x_fact : LFact} {x_vector : (List Int)} {y : LFact × DS} {μ : Type} {M : Mu μ} {s s2 : μ} (hm : ∀ Z H, M.m s Z H → (muD st sc).m ds Z H) (hf : ∀ a ∈ (muD st sc).fp, a ∈ M.fp) (hp : ∀ Z H Z' H', M.m s Z H → Step (muD st sc).fp Z H Z' H' → (muD st sc).m y.2 Z' H' → M.m s2 Z' H') (h : F_law_moved ds x_fact x_vector = some y) : CallS M (sp_law_moved T) E (rac (isRef st) (rac (ty (y_LFact T) x_fact) (rac (ty (yList yInt) x_vector) ra0))) s (ty (y_LFact T) y.1) s2 := by
  rintro Z H vs sz m ⟨_, _, rfl, rfl, ⟨v_fact, _, rfl, h_fact, ⟨v_vector, _, rfl, h_vector, rfl⟩⟩⟩ Q q
  exact ⟨st, sc, Z, ds, v_fact, v_vector, x_fact, x_vector, y, rfl, sz, hm _ _ m, h_fact, h_vector, h, fun v Z2 H2 st2 m2 hv => q v Z2 H2 (st2.weak fun a h => .inl (hf a h)) (hp _ _ _ _ m st2 m2) hv⟩
def sp_Part_after (T : Txt K mg) : Sp := fun vs H Q _ => ∃ (Z0 : Hp) (v_self : V) (x_self : Part), vs = [v_self] ∧ (Same Z0 H) ∧ (((y_Part T)).r Z0 v_self x_self) ∧ ∀ v Z' H', Step [] Z0 H Z' H' → (yInt).r Z' v (F_Part_after x_self) → Q v H'
set_option maxHeartbeats 4000000 in
theorem ok_Part_after (T : Txt K mg) : FnOk P w K mg base CX0 1 T.f_Part_after T.d_Part_after ["self"] (sp_Part_after T) := by
  refine T.F_Part_after.ok sc_Part_after (fun vs H Q E h => ?_) (fun cdv A outer s H vs Q E hr h => ?_)
  · obtain ⟨Z0, v_self, x_self, rfl, _⟩ := h
    rfl
  · obtain ⟨Z0, v_self, x_self, rfl, sz, h_self, q⟩ := h
    refine ⟨_, (pss_one (ps_ret (pe_op op_add (pe_fld (pv 0) rfl) (pe_callB call_len_seq (by rfl) T.m_len PySem.boot_len (pa_cons (pe_fld (pv 0) rfl) pa_nil))))), ?_⟩
    have P := Pt.start0 sz
    generalize hF : F_Part_after x_self = y at q
    unfold F_Part_after at hF
    subst hF
    refine st_ret P (ev_add (ev_fld (fo_Part_start T) T.cl_Part T.n_Part_start (ev_var (τ := (y_Part T)) rfl h_self)) (ev_lenT (fun _ _ _ h => h) (ev_fld (fo_Part_centre T) T.cl_Part T.n_Part_centre (ev_var (τ := (y_Part T)) rfl h_self)))) (fun v Z1 H1 P1 hv => ?_)
    exact q v _ _ P1.st hv
theorem cs_Part_after (T : Txt K mg) {μ : Type} {M : Mu μ} {s : μ} {E : XK} {x_self : Part} : CallS M (sp_Part_after T) E (rac (ty (y_Part T) x_self) ra0) s (ty yInt (F_Part_after x_self)) s := by
  rintro Z H vs sz m ⟨v_self, _, rfl, h_self, rfl⟩ Q q
  exact ⟨Z, v_self, x_self, rfl, sz, h_self, fun v Z2 H2 st hv => q v Z2 H2 st.pure (M.pure st m) hv⟩
def sp_ends_within (T : Txt K mg) : Sp := fun vs H Q _ => ∃ (Z0 : Hp) (v_part : V) (v_vector : V) (x_part : Part) (x_vector : (List Int)), vs = [v_part, v_vector] ∧ (Same Z0 H) ∧ (((y_Part T)).r Z0 v_part x_part) ∧ (((yTup K yInt)).r Z0 v_vector x_vector) ∧ ∀ v Z' H', Step [] Z0 H Z' H' → (yBool).r Z' v (F_ends_within x_part x_vector) → Q v H'
set_option maxHeartbeats 4000000 in
theorem ok_ends_within (T : Txt K mg) : FnOk P w K mg base CX0 3 T.f_ends_within T.d_ends_within ["part", "vector"] (sp_ends_within T) := by
  have G_Part_after : FnOk P w K mg base CX0 1 T.f_Part_after T.d_Part_after ["self"] (sp_Part_after T) := ok_Part_after T
  refine T.F_ends_within.ok sc_ends_within (fun vs H Q E h => ?_) (fun cdv A outer s H vs Q E hr h => ?_)
  · obtain ⟨Z0, v_part, v_vector, x_part, x_vector, rfl, _⟩ := h
    rfl
  · obtain ⟨Z0, v_part, v_vector, x_part, x_vector, rfl, sz, h_part, h_vector, q⟩ := h
    refine ⟨_, (pss_one (ps_ret (pe_and (pe_cmpR op_ge (pe_fld (pv 0) rfl) pe_int (nomark _)) (pe_one (pe_cmpR op_le (pe_prop (pv 0) T.cl_Part T.pr_Part_after G_Part_after (hr.mono (by decide)) T.b_Part_after .nil pass0 rfl) (pe_callB call_len_seq (by rfl) T.m_len PySem.boot_len (pa_cons (pv 1) pa_nil)) (nomark _)))))), ?_⟩
    have P := Pt.start0 sz
    generalize hF : F_ends_within x_part x_vector = y at q
    unfold F_ends_within at hF
    subst hF
    refine st_ret P (ev_and0 (ev_ge (ev_fld (fo_Part_start T) T.cl_Part T.n_Part_start (ev_var (τ := (y_Part T)) rfl h_part)) ev_int) (ev_le (ev_prop (oo_Part T (m := "after") (by decide +kernel)) (cs_Part_after T) (ev_var (τ := (y_Part T)) rfl h_part)) (ev_lenT (fun _ _ _ h => h) (ev_var (τ := (yTup K yInt)) rfl h_vector)))) (fun v Z1 H1 P1 hv => ?_)
    exact q v _ _ P1.st hv
theorem cs_ends_within (T : Txt K mg) {μ : Type} {M : Mu μ} {s : μ} {E : XK} {x_part : Part} {x_vector : (List Int)} : CallS M (sp_ends_within T) E (rac (ty (y_Part T) x_part) (rac (ty (yTup K yInt) x_vector) ra0)) s (ty yBool (F_ends_within x_part x_vector)) s := by
  rintro Z H vs sz m ⟨v_part, _, rfl, h_part, ⟨v_vector, _, rfl, h_vector, rfl⟩⟩ Q q
  exact ⟨Z, v_part, v_vector, x_part, x_vector, rfl, sz, h_part, h_vector, fun v Z2 H2 st hv => q v Z2 H2 st.pure (M.pure st m) hv⟩
def sp_distance (T : Txt K mg) : Sp := fun vs H Q _ => ∃ (Z0 : Hp) (v_a : V) (v_b : V) (x_a : (List Int)) (x_b : (List Int)) (y : Int), vs = [v_a, v_b] ∧ (Same Z0 H) ∧ (((yTup K yInt)).r Z0 v_a x_a) ∧ (((yTup K yInt)).r Z0 v_b x_b) ∧ (F_distance x_a x_b = some y) ∧ ∀ v Z' H', Step [] Z0 H Z' H' → (yInt).r Z' v y → Q v H'
set_option maxHeartbeats 4000000 in
theorem ok_distance (T : Txt K mg) : FnOk P w K mg base CX0 1 T.f_distance T.d_distance ["a", "b"] (sp_distance T) := by
  refine T.F_distance.ok sc_distance (fun vs H Q E h => ?_) (fun cdv A outer s H vs Q E hr h => ?_)
  · obtain ⟨Z0, v_a, v_b, x_a, x_b, y, rfl, _⟩ := h
    rfl
  · obtain ⟨Z0, v_a, v_b, x_a, x_b, y, rfl, sz, h_a, h_b, hF, q⟩ := h
    refine ⟨_, (pss_one (ps_ret (pe_callB (cr_sum rfl) (by rfl) T.m_sum (by decide +kernel) (pa_cons (pe_lc (own := [("x", 2), ("y", 3)]) (g := gTup K 2 (gCons (gName 2) (gCons (gName 3) gNil))) rfl sc_distance.nd (ZN.pi_zip2 (by rfl) T.m_zip (pa_cons (pv 0) (pa_cons (pv 1) pa_nil))) (blkOk_by (own := [("x", 2), ("y", 3)]) (N := ["a", "b", "x", "y"]) (sc := defScope s_distance) (by decide +kernel)) (fun _ _ _ _ _ => (by exact (pg_tup rfl (pgs_cons (pg_name (i := 2) sc_distance.nd rfl (Or.inl rfl)) (pgs_cons (pg_name (i := 3) sc_distance.nd rfl (Or.inl rfl)) pgs_nil))))) (fun _ _ _ _ _ => pts_nil) (fun _ _ _ _ _ => (pe_op op_mul (pe_op op_sub (pv 2) (pv 3)) (pe_op op_sub (pv 2) (pv 3))))) pa_nil)))), ?_⟩
    have P := Pt.start0 sz
    unfold F_distance at hF
    obtain ⟨l_450, h_451, hF⟩ := bind_inv hF
    replace hF := Option.some.inj hF
    subst hF
    refine st_ret P (ev_sum (ev_li (ev_fz (en_mapO (fun (x_441 : (Int × Int)) => (if CMul (x_441.1 - x_441.2) (x_441.1 - x_441.2) then
    some ((x_441.1 - x_441.2) * (x_441.1 - x_441.2)) else none : Option Int)) (ei_zip2 src_tup src_tup (eva_cons (ev_var (τ := (yTup K yInt)) rfl h_a) (eva_cons (ev_var (τ := (yTup K yInt)) rfl h_b) eva_nil))) (fun x_441 v_442 Z' H' p zz hh rx_443 hp => by
          obtain ⟨v_444, v_445, k_446, k_447, tg_448⟩ := tgt_p2 rx_443
          have hy := hp
          obtain ⟨g_449, hy⟩ := guard_inv hy
          have hy := Option.some.inj hy
          subst hy
          exact ⟨_, (tg_448 tgt_name tgt_name), rfl, (ev_mul (ev_sub (ev_var (τ := yInt) rfl k_446) (ev_var (τ := yInt) rfl k_447)) (ev_sub (ev_var (τ := yInt) rfl k_446) (ev_var (τ := yInt) rfl k_447)) g_449)⟩) h_451)))) (fun v Z1 H1 P1 hv => ?_)
    exact q v _ _ P1.st hv
theorem cs_distance (T : Txt K mg) {μ : Type} {M : Mu μ} {s : μ} {E : XK} {x_a : (List Int)} {x_b : (List Int)} {y : Int} (h : F_distance x_a x_b = some y) : CallS M (sp_distance T) E (rac (ty (yTup K yInt) x_a) (rac (ty (yTup K yInt) x_b) ra0)) s (ty yInt y) s := by
  rintro Z H vs sz m ⟨v_a, _, rfl, h_a, ⟨v_b, _, rfl, h_b, rfl⟩⟩ Q q
  exact ⟨Z, v_a, v_b, x_a, x_b, y, rfl, sz, h_a, h_b, h, fun v Z2 H2 st hv => q v Z2 H2 st.pure (M.pure st m) hv⟩
def sp_numbers_at (T : Txt K mg) : Sp := fun vs H Q _ => ∃ (Z0 : Hp) (v_part : V) (v_vector : V) (x_part : Part) (x_vector : (List Int)), vs = [v_part, v_vector] ∧ (Same Z0 H) ∧ (((y_Part T)).r Z0 v_part x_part) ∧ (((yTup K yInt)).r Z0 v_vector x_vector) ∧ ∀ v Z' H', Step [] Z0 H Z' H' → ((yTup K yInt)).r Z' v (F_numbers_at x_part x_vector) → Q v H'
set_option maxHeartbeats 4000000 in
theorem ok_numbers_at (T : Txt K mg) : FnOk P w K mg base CX0 3 T.f_numbers_at T.d_numbers_at ["part", "vector"] (sp_numbers_at T) := by
  have G_Part_after : FnOk P w K mg base CX0 1 T.f_Part_after T.d_Part_after ["self"] (sp_Part_after T) := ok_Part_after T
  refine T.F_numbers_at.ok sc_numbers_at (fun vs H Q E h => ?_) (fun cdv A outer s H vs Q E hr h => ?_)
  · obtain ⟨Z0, v_part, v_vector, x_part, x_vector, rfl, _⟩ := h
    rfl
  · obtain ⟨Z0, v_part, v_vector, x_part, x_vector, rfl, sz, h_part, h_vector, q⟩ := h
    refine ⟨_, (pss_one (ps_ret (pe_slice sl_tupW (pv 1) (po_some (pe_fld (pv 0) rfl)) (po_some (pe_prop (pv 0) T.cl_Part T.pr_Part_after G_Part_after (hr.mono (by decide)) T.b_Part_after .nil pass0 rfl))))), ?_⟩
    have P := Pt.start0 sz
    generalize hF : F_numbers_at x_part x_vector = y at q
    unfold F_numbers_at at hF
    subst hF
    refine st_ret P (ev_slT (ev_var (τ := (yTup K yInt)) rfl h_vector) (eo_some (ev_fld (fo_Part_start T) T.cl_Part T.n_Part_start (ev_var (τ := (y_Part T)) rfl h_part))) (eo_some (ev_prop (oo_Part T (m := "after") (by decide +kernel)) (cs_Part_after T) (ev_var (τ := (y_Part T)) rfl h_part)))) (fun v Z1 H1 P1 hv => ?_)
    exact q v _ _ P1.st hv
theorem cs_numbers_at (T : Txt K mg) {μ : Type} {M : Mu μ} {s : μ} {E : XK} {x_part : Part} {x_vector : (List Int)} : CallS M (sp_numbers_at T) E (rac (ty (y_Part T) x_part) (rac (ty (yTup K yInt) x_vector) ra0)) s (ty (yTup K yInt) (F_numbers_at x_part x_vector)) s := by
  rintro Z H vs sz m ⟨v_part, _, rfl, h_part, ⟨v_vector, _, rfl, h_vector, rfl⟩⟩ Q q
  exact ⟨Z, v_part, v_vector, x_part, x_vector, rfl, sz, h_part, h_vector, fun v Z2 H2 st hv => q v Z2 H2 st.pure (M.pure st m) hv⟩
def sp_is_near (T : Txt K mg) : Sp := fun vs H Q _ => ∃ (Z0 : Hp) (v_part : V) (v_vector : V) (x_part : Part) (x_vector : (List Int)) (y : Bool), vs = [v_part, v_vector] ∧ (Same Z0 H) ∧ (((y_Part T)).r Z0 v_part x_part) ∧ (((yTup K yInt)).r Z0 v_vector x_vector) ∧ (F_is_near x_part x_vector = some y) ∧ ∀ v Z' H', Step [] Z0 H Z' H' → (yBool).r Z' v y → Q v H'
set_option maxHeartbeats 4000000 in
theorem ok_is_near (T : Txt K mg) : FnOk P w K mg base CX0 4 T.f_is_near T.d_is_near ["part", "vector"] (sp_is_near T) := by
  have G_numbers_at : FnOk P w K mg base CX0 3 T.f_numbers_at T.d_numbers_at ["part", "vector"] (sp_numbers_at T) := ok_numbers_at T
  have G_distance : FnOk P w K mg base CX0 1 T.f_distance T.d_distance ["a", "b"] (sp_distance T) := ok_distance T
  have G_ends_within : FnOk P w K mg base CX0 3 T.f_ends_within T.d_ends_within ["part", "vector"] (sp_ends_within T) := ok_ends_within T
  refine T.F_is_near.ok sc_is_near (fun vs H Q E h => ?_) (fun cdv A outer s H vs Q E hr h => ?_)
  · obtain ⟨Z0, v_part, v_vector, x_part, x_vector, y, rfl, _⟩ := h
    rfl
  · obtain ⟨Z0, v_part, v_vector, x_part, x_vector, y, rfl, sz, h_part, h_vector, hF, q⟩ := h
    refine ⟨_, (pss_one (ps_ret (pe_and (pe_call G_ends_within (hr.mono (by decide)) (by rfl) T.g_ends_within T.F_ends_within.kp T.b_ends_within .nil pass0 (pa_cons (pv 0) (pa_cons (pv 1) pa_nil))) (pe_one (pe_cmpR op_le (pe_call G_distance (hr.mono (by decide)) (by rfl) T.g_distance T.F_distance.kp T.b_distance .nil pass0 (pa_cons (pe_fld (pv 0) rfl) (pa_cons (pe_call G_numbers_at (hr.mono (by decide)) (by rfl) T.g_numbers_at T.F_numbers_at.kp T.b_numbers_at .nil pass0 (pa_cons (pv 0) (pa_cons (pv 1) pa_nil))) pa_nil))) (pe_fld (pv 0) rfl) (nomark _)))))), ?_⟩
    have P := Pt.start0 sz
    unfold F_is_near at hF
    obtain ⟨b_459, h_458, hF⟩ := bind_inv hF
    replace hF := Option.some.inj hF
    subst hF
    refine st_ret P (ev_andO (ev_call (cs_ends_within T) (eva_cons (ev_var (τ := (y_Part T)) rfl h_part) (eva_cons (ev_var (τ := (yTup K yInt)) rfl h_vector) eva_nil))) (fun _ y hy => by
          obtain ⟨r_456, h_457, hy⟩ := bind_inv hy
          have hy := Option.some.inj hy
          subst hy
          exact (ev_le (ev_call (cs_distance T h_457) (eva_cons (ev_fld (fo_Part_centre T) T.cl_Part T.n_Part_centre (ev_var (τ := (y_Part T)) rfl h_part)) (eva_cons (ev_call (cs_numbers_at T) (eva_cons (ev_var (τ := (y_Part T)) rfl h_part) (eva_cons (ev_var (τ := (yTup K yInt)) rfl h_vector) eva_nil))) eva_nil))) (ev_fld (fo_Part_radius T) T.cl_Part T.n_Part_radius (ev_var (τ := (y_Part T)) rfl h_part)))) h_458) (fun v Z1 H1 P1 hv => ?_)
    exact q v _ _ P1.st hv
theorem cs_is_near (T : Txt K mg) {μ : Type} {M : Mu μ} {s : μ} {E : XK} {x_part : Part} {x_vector : (List Int)} {y : Bool} (h : F_is_near x_part x_vector = some y) : CallS M (sp_is_near T) E (rac (ty (y_Part T) x_part) (rac (ty (yTup K yInt) x_vector) ra0)) s (ty yBool y) s := by
  rintro Z H vs sz m ⟨v_part, _, rfl, h_part, ⟨v_vector, _, rfl, h_vector, rfl⟩⟩ Q q
  exact ⟨Z, v_part, v_vector, x_part, x_vector, y, rfl, sz, h_part, h_vector, h, fun v Z2 H2 st hv => q v Z2 H2 st.pure (M.pure st m) hv⟩
def sp_Parts_holds (T : Txt K mg) : Sp := fun vs H Q _ => ∃ (Z0 : Hp) (v_self : V) (v_record : V) (x_self : Parts) (x_record : Record) (y : Bool), vs = [v_self, v_record] ∧ (Same Z0 H) ∧ (((y_Parts T)).r Z0 v_self x_self) ∧ (((y_Record T)).r Z0 v_record x_record) ∧ (F_Parts_holds x_self x_record = some y) ∧ ∀ v Z' H', Step [] Z0 H Z' H' → (yBool).r Z' v y → Q v H'
set_option maxHeartbeats 4000000 in
theorem ok_Parts_holds (T : Txt K mg) : FnOk P w K mg base CX0 5 T.f_Parts_holds T.d_Parts_holds ["self", "record"] (sp_Parts_holds T) := by
  have G_is_near : FnOk P w K mg base CX0 4 T.f_is_near T.d_is_near ["part", "vector"] (sp_is_near T) := ok_is_near T
  refine T.F_Parts_holds.ok sc_Parts_holds (fun vs H Q E h => ?_) (fun cdv A outer s H vs Q E hr h => ?_)
  · obtain ⟨Z0, v_self, v_record, x_self, x_record, y, rfl, _⟩ := h
    rfl
  · obtain ⟨Z0, v_self, v_record, x_self, x_record, y, rfl, sz, h_self, h_record, hF, q⟩ := h
    refine ⟨_, (pss_one (ps_ret (pe_callB (cr_all rfl) (by rfl) T.m_all (by decide +kernel) (pa_cons (pe_lc (own := [("part", 2)]) (g := gName 2) rfl sc_Parts_holds.nd (pi_tup (pe_fld (pv 0) rfl)) (blkOk_by (own := [("part", 2)]) (N := ["self", "record", "part"]) (sc := defScope s_Parts_holds) (by decide +kernel)) (fun _ _ _ _ _ => (pg_name (i := 2) sc_Parts_holds.nd rfl (Or.inl rfl))) (fun _ _ _ _ _ => pts_nil) (fun _ _ _ _ _ => (pe_call G_is_near (hr.mono (by decide)) (by rfl) T.g_is_near T.F_is_near.kp T.b_is_near .nil pass0 (pa_cons (pv 2) (pa_cons (pe_fldB (K := K) rfl (by exact (pv 1)) rfl) pa_nil))))) pa_nil)))), ?_⟩
    have P := Pt.start0 sz
    unfold F_Parts_holds at hF
    obtain ⟨l_472, h_473, hF⟩ := bind_inv hF
    replace hF := Option.some.inj hF
    subst hF
    refine st_ret P (ev_allL (ev_li (ev_fz (en_mapO (fun (x_467 : Part) => ((F_is_near x_467 x_record.vector).bind fun r_470 =>
    some r_470 : Option Bool)) (ei_tup (ev_fld (fo_Parts_parts T) T.cl_Parts T.n_Parts_parts (ev_var (τ := (y_Parts T)) rfl h_self))) (fun x_467 v_468 Z' H' p zz hh rx_469 hp => by
          replace h_record := ((y_Record T)).mono zz h_record
          have hy := hp
          obtain ⟨r_470, h_471, hy⟩ := bind_inv hy
          have hy := Option.some.inj hy
          subst hy
          exact ⟨_, tgt_name, rfl, (ev_call (cs_is_near T h_471) (eva_cons (ev_var (τ := (y_Part T)) rfl rx_469) (eva_cons (ev_fld (fo_Record_vector T) T.cl_Record T.n_Record_vector (ev_var (τ := (y_Record T)) rfl h_record)) eva_nil)))⟩) h_473)))) (fun v Z1 H1 P1 hv => ?_)
    exact q v _ _ P1.st hv
theorem cs_Parts_holds (T : Txt K mg) {μ : Type} {M : Mu μ} {s : μ} {E : XK} {x_self : Parts} {x_record : Record} {y : Bool} (h : F_Parts_holds x_self x_record = some y) : CallS M (sp_Parts_holds T) E (rac (ty (y_Parts T) x_self) (rac (ty (y_Record T) x_record) ra0)) s (ty yBool y) s := by
  rintro Z H vs sz m ⟨v_self, _, rfl, h_self, ⟨v_record, _, rfl, h_record, rfl⟩⟩ Q q
  exact ⟨Z, v_self, v_record, x_self, x_record, y, rfl, sz, h_self, h_record, h, fun v Z2 H2 st hv => q v Z2 H2 st.pure (M.pure st m) hv⟩
def sp_have_size (T : Txt K mg) : Sp := fun vs H Q _ => ∃ (Z0 : Hp) (v_one : V) (v_other : V) (v_size : V) (x_one : (List Int)) (x_other : (List Int)) (x_size : Int), vs = [v_one, v_other, v_size] ∧ (Same Z0 H) ∧ (((yTup K yInt)).r Z0 v_one x_one) ∧ (((yTup K yInt)).r Z0 v_other x_other) ∧ ((yInt).r Z0 v_size x_size) ∧ ∀ v Z' H', Step [] Z0 H Z' H' → (yBool).r Z' v (F_have_size x_one x_other x_size) → Q v H'
set_option maxHeartbeats 4000000 in
theorem ok_have_size (T : Txt K mg) : FnOk P w K mg base CX0 1 T.f_have_size T.d_have_size ["one", "other", "size"] (sp_have_size T) := by
  refine T.F_have_size.ok sc_have_size (fun vs H Q E h => ?_) (fun cdv A outer s H vs Q E hr h => ?_)
  · obtain ⟨Z0, v_one, v_other, v_size, x_one, x_other, x_size, rfl, _⟩ := h
    rfl
  · obtain ⟨Z0, v_one, v_other, v_size, x_one, x_other, x_size, rfl, sz, h_one, h_other, h_size, q⟩ := h
    refine ⟨_, (pss_one (ps_ret (pe_and (pe_cmpR op_eq (pe_callB call_len_seq (by rfl) T.m_len PySem.boot_len (pa_cons (pv 0) pa_nil)) (pv 2) (nomark _)) (pe_one (pe_cmpR op_eq (pe_callB call_len_seq (by rfl) T.m_len PySem.boot_len (pa_cons (pv 1) pa_nil)) (pv 2) (nomark _)))))), ?_⟩
    have P := Pt.start0 sz
    generalize hF : F_have_size x_one x_other x_size = y at q
    unfold F_have_size at hF
    subst hF
    refine st_ret P (ev_and0 (ev_eq flat_int (ev_lenT (fun _ _ _ h => h) (ev_var (τ := (yTup K yInt)) rfl h_one)) (ev_var (τ := yInt) rfl h_size)) (ev_eq flat_int (ev_lenT (fun _ _ _ h => h) (ev_var (τ := (yTup K yInt)) rfl h_other)) (ev_var (τ := yInt) rfl h_size))) (fun v Z1 H1 P1 hv => ?_)
    exact q v _ _ P1.st hv
theorem cs_have_size (T : Txt K mg) {μ : Type} {M : Mu μ} {s : μ} {E : XK} {x_one : (List Int)} {x_other : (List Int)} {x_size : Int} : CallS M (sp_have_size T) E (rac (ty (yTup K yInt) x_one) (rac (ty (yTup K yInt) x_other) (rac (ty yInt x_size) ra0))) s (ty yBool (F_have_size x_one x_other x_size)) s := by
  rintro Z H vs sz m ⟨v_one, _, rfl, h_one, ⟨v_other, _, rfl, h_other, ⟨v_size, _, rfl, h_size, rfl⟩⟩⟩ Q q
  exact ⟨Z, v_one, v_other, v_size, x_one, x_other, x_size, rfl, sz, h_one, h_other, h_size, fun v Z2 H2 st hv => q v Z2 H2 st.pure (M.pure st m) hv⟩
def sp_Cell_holds (T : Txt K mg) : Sp := fun vs H Q _ => ∃ (Z0 : Hp) (v_self : V) (v_record : V) (x_self : Cell) (x_record : Record) (y : Bool), vs = [v_self, v_record] ∧ (Same Z0 H) ∧ (((y_Cell T)).r Z0 v_self x_self) ∧ (((y_Record T)).r Z0 v_record x_record) ∧ (F_Cell_holds x_self x_record = some y) ∧ ∀ v Z' H', Step [] Z0 H Z' H' → (yBool).r Z' v y → Q v H'
set_option maxHeartbeats 4000000 in
theorem ok_Cell_holds (T : Txt K mg) : FnOk P w K mg base CX0 2 T.f_Cell_holds T.d_Cell_holds ["self", "record"] (sp_Cell_holds T) := by
  have G_distance : FnOk P w K mg base CX0 1 T.f_distance T.d_distance ["a", "b"] (sp_distance T) := ok_distance T
  have G_have_size : FnOk P w K mg base CX0 1 T.f_have_size T.d_have_size ["one", "other", "size"] (sp_have_size T) := ok_have_size T
  refine T.F_Cell_holds.ok sc_Cell_holds (fun vs H Q E h => ?_) (fun cdv A outer s H vs Q E hr h => ?_)
  · obtain ⟨Z0, v_self, v_record, x_self, x_record, y, rfl, _⟩ := h
    rfl
  · obtain ⟨Z0, v_self, v_record, x_self, x_record, y, rfl, sz, h_self, h_record, hF, q⟩ := h
    refine ⟨_, (pss_cons (ps_set (i := 2) sc_Cell_holds.nd rfl (.inl rfl) (pe_fld (pv 1) rfl)) 
      (pss_cons (ps_if (pt_not (pt_val (pe_call G_have_size (hr.mono (by decide)) (by rfl) T.g_have_size T.F_have_size.kp T.b_have_size .nil pass0 (pa_cons (pe_fld (pv 0) rfl) (pa_cons (pe_fld (pv 0) rfl) (pa_cons (pe_callB call_len_seq (by rfl) T.m_len PySem.boot_len (pa_cons (pv 2) pa_nil)) pa_nil)))))) (pss_one (ps_ret pe_bl)) pss_nil) 
      (pss_one (ps_ret (pe_cmpR op_le (pe_call G_distance (hr.mono (by decide)) (by rfl) T.g_distance T.F_distance.kp T.b_distance .nil pass0 (pa_cons (pv 2) (pa_cons (pe_fld (pv 0) rfl) pa_nil))) (pe_call G_distance (hr.mono (by decide)) (by rfl) T.g_distance T.F_distance.kp T.b_distance .nil pass0 (pa_cons (pv 2) (pa_cons (pe_fld (pv 0) rfl) pa_nil))) (nomark _)))))), ?_⟩
    have P := Pt.start0 sz
    unfold F_Cell_holds at hF
    refine st_seq (st_set P (ev_fld (fo_Record_vector T) T.cl_Record T.n_Record_vector (ev_var (τ := (y_Record T)) rfl h_record)) (fun v_481 Z1 H1 e P1 k_482 => ?_))
    refine st_nx ?_
    replace P := P1
    replace h_self := ((y_Cell T)).mono e.z h_self
    refine st_seq (st_if P (et_not (et_val (ev_call (cs_have_size T) (eva_cons (ev_fld (fo_Cell_near T) T.cl_Cell T.n_Cell_near (ev_var (τ := (y_Cell T)) rfl h_self)) (eva_cons (ev_fld (fo_Cell_rival T) T.cl_Cell T.n_Cell_rival (ev_var (τ := (y_Cell T)) rfl h_self)) (eva_cons (ev_lenT (fun _ _ _ h => h) (ev_var (τ := (yTup K yInt)) rfl k_482)) eva_nil)))))) (fun b_483 Z1 H1 e P1 => ?_) (fun b_483 Z1 H1 e P1 => ?_))
    · replace P := P1
      have hB := ifT b_483 hF
      replace hF := hB
      clear hB
      replace hF := Option.some.inj hF
      subst hF
      refine st_ret P ev_bl (fun v Z1 H1 P1 hv => ?_)
      exact q v _ _ P1.st hv
    · replace P := P1
      have hB := ifF b_483 hF
      replace hF := hB
      clear hB
      refine st_next0 ?_
      replace h_self := ((y_Cell T)).mono e.z h_self
      replace k_482 := ((yTup K yInt)).mono e.z k_482
      obtain ⟨r_484, h_485, hF⟩ := bind_inv hF
      obtain ⟨r_486, h_487, hF⟩ := bind_inv hF
      replace hF := Option.some.inj hF
      subst hF
      refine st_ret P (ev_le (ev_call (cs_distance T h_485) (eva_cons (ev_var (τ := (yTup K yInt)) rfl k_482) (eva_cons (ev_fld (fo_Cell_near T) T.cl_Cell T.n_Cell_near (ev_var (τ := (y_Cell T)) rfl h_self)) eva_nil))) (ev_call (cs_distance T h_487) (eva_cons (ev_var (τ := (yTup K yInt)) rfl k_482) (eva_cons (ev_fld (fo_Cell_rival T) T.cl_Cell T.n_Cell_rival (ev_var (τ := (y_Cell T)) rfl h_self)) eva_nil)))) (fun v Z1 H1 P1 hv => ?_)
      exact q v _ _ P1.st hv
theorem cs_Cell_holds (T : Txt K mg) {μ : Type} {M : Mu μ} {s : μ} {E : XK} {x_self : Cell} {x_record : Record} {y : Bool} (h : F_Cell_holds x_self x_record = some y) : CallS M (sp_Cell_holds T) E (rac (ty (y_Cell T) x_self) (rac (ty (y_Record T) x_record) ra0)) s (ty yBool y) s := by
  rintro Z H vs sz m ⟨v_self, _, rfl, h_self, ⟨v_record, _, rfl, h_record, rfl⟩⟩ Q q
  exact ⟨Z, v_self, v_record, x_self, x_record, y, rfl, sz, h_self, h_record, h, fun v Z2 H2 st hv => q v Z2 H2 st.pure (M.pure st m) hv⟩
def sp_Box_holds (T : Txt K mg) : Sp := fun vs H Q _ => ∃ (Z0 : Hp) (v_self : V) (v_record : V) (x_self : Box) (x_record : Record), vs = [v_self, v_record] ∧ (Same Z0 H) ∧ (((y_Box T)).r Z0 v_self x_self) ∧ (((y_Record T)).r Z0 v_record x_record) ∧ ∀ v Z' H', Step [] Z0 H Z' H' → (yBool).r Z' v (F_Box_holds x_self x_record) → Q v H'
set_option maxHeartbeats 4000000 in
theorem ok_Box_holds (T : Txt K mg) : FnOk P w K mg base CX0 2 T.f_Box_holds T.d_Box_holds ["self", "record"] (sp_Box_holds T) := by
  have G_have_size : FnOk P w K mg base CX0 1 T.f_have_size T.d_have_size ["one", "other", "size"] (sp_have_size T) := ok_have_size T
  refine T.F_Box_holds.ok sc_Box_holds (fun vs H Q E h => ?_) (fun cdv A outer s H vs Q E hr h => ?_)
  · obtain ⟨Z0, v_self, v_record, x_self, x_record, rfl, _⟩ := h
    rfl
  · obtain ⟨Z0, v_self, v_record, x_self, x_record, rfl, sz, h_self, h_record, q⟩ := h
    refine ⟨_, (pss_cons (ps_set (i := 2) sc_Box_holds.nd rfl (.inl rfl) (pe_fld (pv 1) rfl)) 
      (pss_cons (ps_if (pt_not (pt_val (pe_call G_have_size (hr.mono (by decide)) (by rfl) T.g_have_size T.F_have_size.kp T.b_have_size .nil pass0 (pa_cons (pe_fld (pv 0) rfl) (pa_cons (pe_fld (pv 0) rfl) (pa_cons (pe_callB call_len_seq (by rfl) T.m_len PySem.boot_len (pa_cons (pv 2) pa_nil)) pa_nil)))))) (pss_one (ps_ret pe_bl)) pss_nil) 
      (pss_one (ps_ret (pe_callB (cr_all rfl) (by rfl) T.m_all (by decide +kernel) (pa_cons (pe_lc (own := [("low", 3), ("number", 4), ("high", 5)]) (g := gTup K 3 (gCons (gName 3) (gCons (gName 4) (gCons (gName 5) gNil)))) rfl sc_Box_holds.nd (ZN.pi_zip3 (by rfl) T.m_zip (pa_cons (pe_fld (pv 0) rfl) (pa_cons (pv 2) (pa_cons (pe_fld (pv 0) rfl) pa_nil)))) (blkOk_by (own := [("low", 3), ("number", 4), ("high", 5)]) (N := ["self", "record", "vector", "low", "number", "high"]) (sc := defScope s_Box_holds) (by decide +kernel)) (fun _ _ _ _ _ => (by exact (pg_tup rfl (pgs_cons (pg_name (i := 3) sc_Box_holds.nd rfl (Or.inl rfl)) (pgs_cons (pg_name (i := 4) sc_Box_holds.nd rfl (Or.inl rfl)) (pgs_cons (pg_name (i := 5) sc_Box_holds.nd rfl (Or.inl rfl)) pgs_nil)))))) (fun _ _ _ _ _ => pts_nil) (fun _ _ _ _ _ => (pe_chain op_le op_le (pv 3) (pv 4) (pv 5)))) pa_nil)))))), ?_⟩
    have P := Pt.start0 sz
    generalize hF : F_Box_holds x_self x_record = y at q
    unfold F_Box_holds at hF
    refine st_seq (st_set P (ev_fld (fo_Record_vector T) T.cl_Record T.n_Record_vector (ev_var (τ := (y_Record T)) rfl h_record)) (fun v_488 Z1 H1 e P1 k_489 => ?_))
    refine st_nx ?_
    replace P := P1
    replace h_self := ((y_Box T)).mono e.z h_self
    refine st_seq (st_if P (et_not (et_val (ev_call (cs_have_size T) (eva_cons (ev_fld (fo_Box_low T) T.cl_Box T.n_Box_low (ev_var (τ := (y_Box T)) rfl h_self)) (eva_cons (ev_fld (fo_Box_high T) T.cl_Box T.n_Box_high (ev_var (τ := (y_Box T)) rfl h_self)) (eva_cons (ev_lenT (fun _ _ _ h => h) (ev_var (τ := (yTup K yInt)) rfl k_489)) eva_nil)))))) (fun b_490 Z1 H1 e P1 => ?_) (fun b_490 Z1 H1 e P1 => ?_))
    · replace P := P1
      have hB := ifT b_490 hF
      replace hF := hB
      clear hB
      subst hF
      refine st_ret P ev_bl (fun v Z1 H1 P1 hv => ?_)
      exact q v _ _ P1.st hv
    · replace P := P1
      have hB := ifF b_490 hF
      replace hF := hB
      clear hB
      refine st_next0 ?_
      replace h_self := ((y_Box T)).mono e.z h_self
      replace k_489 := ((yTup K yInt)).mono e.z k_489
      subst hF
      refine st_ret P (ev_allL (ev_li (ev_fz (en_map (fun (x_491 : (Int × Int × Int)) => ((decide (x_491.1 ≤ x_491.2.1)) && (decide (x_491.2.1 ≤ x_491.2.2)))) (ei_zip3 src_tup src_tup src_tup (eva_cons (ev_fld (fo_Box_low T) T.cl_Box T.n_Box_low (ev_var (τ := (y_Box T)) rfl h_self)) (eva_cons (ev_var (τ := (yTup K yInt)) rfl k_489) (eva_cons (ev_fld (fo_Box_high T) T.cl_Box T.n_Box_high (ev_var (τ := (y_Box T)) rfl h_self)) eva_nil)))) (fun x_491 v_492 Z' H' zz hh rx_493 => by
            obtain ⟨v_494, v_495, v_496, k_497, k_498, k_499, tg_500⟩ := tgt_p3 rx_493
            exact ⟨_, (tg_500 tgt_name tgt_name tgt_name), rfl, (ev_chain (ev_var (τ := yInt) rfl k_497) (ev_var (τ := yInt) rfl k_498) (ev_var (τ := yInt) rfl k_499))⟩))))) (fun v Z1 H1 P1 hv => ?_)
      exact q v _ _ P1.st hv
theorem cs_Box_holds (T : Txt K mg) {μ : Type} {M : Mu μ} {s : μ} {E : XK} {x_self : Box} {x_record : Record} : CallS M (sp_Box_holds T) E (rac (ty (y_Box T) x_self) (rac (ty (y_Record T) x_record) ra0)) s (ty yBool (F_Box_holds x_self x_record)) s := by
  rintro Z H vs sz m ⟨v_self, _, rfl, h_self, ⟨v_record, _, rfl, h_record, rfl⟩⟩ Q q
  exact ⟨Z, v_self, v_record, x_self, x_record, rfl, sz, h_self, h_record, fun v Z2 H2 st hv => q v Z2 H2 st.pure (M.pure st m) hv⟩
def sp_inner (T : Txt K mg) : Sp := fun vs H Q _ => ∃ (Z0 : Hp) (v_a : V) (v_b : V) (x_a : (List Int)) (x_b : (List Int)) (y : Int), vs = [v_a, v_b] ∧ (Same Z0 H) ∧ (((yTup K yInt)).r Z0 v_a x_a) ∧ (((yTup K yInt)).r Z0 v_b x_b) ∧ (F_inner x_a x_b = some y) ∧ ∀ v Z' H', Step [] Z0 H Z' H' → (yInt).r Z' v y → Q v H'
set_option maxHeartbeats 4000000 in
theorem ok_inner (T : Txt K mg) : FnOk P w K mg base CX0 1 T.f_inner T.d_inner ["a", "b"] (sp_inner T) := by
  refine T.F_inner.ok sc_inner (fun vs H Q E h => ?_) (fun cdv A outer s H vs Q E hr h => ?_)
  · obtain ⟨Z0, v_a, v_b, x_a, x_b, y, rfl, _⟩ := h
    rfl
  · obtain ⟨Z0, v_a, v_b, x_a, x_b, y, rfl, sz, h_a, h_b, hF, q⟩ := h
    refine ⟨_, (pss_one (ps_ret (pe_callB (cr_sum rfl) (by rfl) T.m_sum (by decide +kernel) (pa_cons (pe_lc (own := [("x", 2), ("y", 3)]) (g := gTup K 2 (gCons (gName 2) (gCons (gName 3) gNil))) rfl sc_inner.nd (ZN.pi_zip2 (by rfl) T.m_zip (pa_cons (pv 0) (pa_cons (pv 1) pa_nil))) (blkOk_by (own := [("x", 2), ("y", 3)]) (N := ["a", "b", "x", "y"]) (sc := defScope s_inner) (by decide +kernel)) (fun _ _ _ _ _ => (by exact (pg_tup rfl (pgs_cons (pg_name (i := 2) sc_inner.nd rfl (Or.inl rfl)) (pgs_cons (pg_name (i := 3) sc_inner.nd rfl (Or.inl rfl)) pgs_nil))))) (fun _ _ _ _ _ => pts_nil) (fun _ _ _ _ _ => (pe_op op_mul (pv 2) (pv 3)))) pa_nil)))), ?_⟩
    have P := Pt.start0 sz
    unfold F_inner at hF
    obtain ⟨l_521, h_522, hF⟩ := bind_inv hF
    replace hF := Option.some.inj hF
    subst hF
    refine st_ret P (ev_sum (ev_li (ev_fz (en_mapO (fun (x_512 : (Int × Int)) => (if CMul x_512.1 x_512.2 then
    some (x_512.1 * x_512.2) else none : Option Int)) (ei_zip2 src_tup src_tup (eva_cons (ev_var (τ := (yTup K yInt)) rfl h_a) (eva_cons (ev_var (τ := (yTup K yInt)) rfl h_b) eva_nil))) (fun x_512 v_513 Z' H' p zz hh rx_514 hp => by
          obtain ⟨v_515, v_516, k_517, k_518, tg_519⟩ := tgt_p2 rx_514
          have hy := hp
          obtain ⟨g_520, hy⟩ := guard_inv hy
          have hy := Option.some.inj hy
          subst hy
          exact ⟨_, (tg_519 tgt_name tgt_name), rfl, (ev_mul (ev_var (τ := yInt) rfl k_517) (ev_var (τ := yInt) rfl k_518) g_520)⟩) h_522)))) (fun v Z1 H1 P1 hv => ?_)
    exact q v _ _ P1.st hv
theorem cs_inner (T : Txt K mg) {μ : Type} {M : Mu μ} {s : μ} {E : XK} {x_a : (List Int)} {x_b : (List Int)} {y : Int} (h : F_inner x_a x_b = some y) : CallS M (sp_inner T) E (rac (ty (yTup K yInt) x_a) (rac (ty (yTup K yInt) x_b) ra0)) s (ty yInt y) s := by
  rintro Z H vs sz m ⟨v_a, _, rfl, h_a, ⟨v_b, _, rfl, h_b, rfl⟩⟩ Q q
  exact ⟨Z, v_a, v_b, x_a, x_b, y, rfl, sz, h_a, h_b, h, fun v Z2 H2 st hv => q v Z2 H2 st.pure (M.pure st m) hv⟩
def sp_norm (T : Txt K mg) : Sp := fun vs H Q _ => ∃ (Z0 : Hp) (v_a : V) (x_a : (List Int)) (y : Int), vs = [v_a] ∧ (Same Z0 H) ∧ (((yTup K yInt)).r Z0 v_a x_a) ∧ (F_norm x_a = some y) ∧ ∀ v Z' H', Step [] Z0 H Z' H' → (yInt).r Z' v y → Q v H'
set_option maxHeartbeats 4000000 in
theorem ok_norm (T : Txt K mg) : FnOk P w K mg base CX0 2 T.f_norm T.d_norm ["a"] (sp_norm T) := by
  have G_inner : FnOk P w K mg base CX0 1 T.f_inner T.d_inner ["a", "b"] (sp_inner T) := ok_inner T
  refine T.F_norm.ok sc_norm (fun vs H Q E h => ?_) (fun cdv A outer s H vs Q E hr h => ?_)
  · obtain ⟨Z0, v_a, x_a, y, rfl, _⟩ := h
    rfl
  · obtain ⟨Z0, v_a, x_a, y, rfl, sz, h_a, hF, q⟩ := h
    refine ⟨_, (pss_one (ps_ret (pe_call G_inner (hr.mono (by decide)) (by rfl) T.g_inner T.F_inner.kp T.b_inner .nil pass0 (pa_cons (pv 0) (pa_cons (pv 0) pa_nil))))), ?_⟩
    have P := Pt.start0 sz
    unfold F_norm at hF
    obtain ⟨r_525, h_526, hF⟩ := bind_inv hF
    replace hF := Option.some.inj hF
    subst hF
    refine st_ret P (ev_call (cs_inner T h_526) (eva_cons (ev_var (τ := (yTup K yInt)) rfl h_a) (eva_cons (ev_var (τ := (yTup K yInt)) rfl h_a) eva_nil))) (fun v Z1 H1 P1 hv => ?_)
    exact q v _ _ P1.st hv
theorem cs_norm (T : Txt K mg) {μ : Type} {M : Mu μ} {s : μ} {E : XK} {x_a : (List Int)} {y : Int} (h : F_norm x_a = some y) : CallS M (sp_norm T) E (rac (ty (yTup K yInt) x_a) ra0) s (ty yInt y) s := by
  rintro Z H vs sz m ⟨v_a, _, rfl, h_a, rfl⟩ Q q
  exact ⟨Z, v_a, x_a, y, rfl, sz, h_a, h, fun v Z2 H2 st hv => q v Z2 H2 st.pure (M.pure st m) hv⟩
def sp_Norms_holds (T : Txt K mg) : Sp := fun vs H Q _ => ∃ (Z0 : Hp) (v_self : V) (v_record : V) (x_self : Norms) (x_record : Record) (y : Bool), vs = [v_self, v_record] ∧ (Same Z0 H) ∧ (((y_Norms T)).r Z0 v_self x_self) ∧ (((y_Record T)).r Z0 v_record x_record) ∧ (F_Norms_holds x_self x_record = some y) ∧ ∀ v Z' H', Step [] Z0 H Z' H' → (yBool).r Z' v y → Q v H'
set_option maxHeartbeats 4000000 in
theorem ok_Norms_holds (T : Txt K mg) : FnOk P w K mg base CX0 3 T.f_Norms_holds T.d_Norms_holds ["self", "record"] (sp_Norms_holds T) := by
  have G_norm : FnOk P w K mg base CX0 2 T.f_norm T.d_norm ["a"] (sp_norm T) := ok_norm T
  refine T.F_Norms_holds.ok sc_Norms_holds (fun vs H Q E h => ?_) (fun cdv A outer s H vs Q E hr h => ?_)
  · obtain ⟨Z0, v_self, v_record, x_self, x_record, y, rfl, _⟩ := h
    rfl
  · obtain ⟨Z0, v_self, v_record, x_self, x_record, y, rfl, sz, h_self, h_record, hF, q⟩ := h
    refine ⟨_, (pss_one (ps_ret (pe_chain op_le op_le (pe_fld (pv 0) rfl) (pe_call G_norm (hr.mono (by decide)) (by rfl) T.g_norm T.F_norm.kp T.b_norm .nil pass0 (pa_cons (pe_fld (pv 1) rfl) pa_nil)) (pe_fld (pv 0) rfl)))), ?_⟩
    have P := Pt.start0 sz
    unfold F_Norms_holds at hF
    obtain ⟨r_537, h_538, hF⟩ := bind_inv hF
    replace hF := Option.some.inj hF
    subst hF
    refine st_ret P (ev_chain (ev_fld (fo_Norms_low T) T.cl_Norms T.n_Norms_low (ev_var (τ := (y_Norms T)) rfl h_self)) (ev_call (cs_norm T h_538) (eva_cons (ev_fld (fo_Record_vector T) T.cl_Record T.n_Record_vector (ev_var (τ := (y_Record T)) rfl h_record)) eva_nil)) (ev_fld (fo_Norms_high T) T.cl_Norms T.n_Norms_high (ev_var (τ := (y_Norms T)) rfl h_self))) (fun v Z1 H1 P1 hv => ?_)
    exact q v _ _ P1.st hv
theorem cs_Norms_holds (T : Txt K mg) {μ : Type} {M : Mu μ} {s : μ} {E : XK} {x_self : Norms} {x_record : Record} {y : Bool} (h : F_Norms_holds x_self x_record = some y) : CallS M (sp_Norms_holds T) E (rac (ty (y_Norms T) x_self) (rac (ty (y_Record T) x_record) ra0)) s (ty yBool y) s := by
  rintro Z H vs sz m ⟨v_self, _, rfl, h_self, ⟨v_record, _, rfl, h_record, rfl⟩⟩ Q q
  exact ⟨Z, v_self, v_record, x_self, x_record, y, rfl, sz, h_self, h_record, h, fun v Z2 H2 st hv => q v Z2 H2 st.pure (M.pure st m) hv⟩
def sp_differing (T : Txt K mg) : Sp := fun vs H Q _ => ∃ (Z0 : Hp) (v_a : V) (v_b : V) (x_a : (List Int)) (x_b : (List Int)), vs = [v_a, v_b] ∧ (Same Z0 H) ∧ (((yTup K yInt)).r Z0 v_a x_a) ∧ (((yTup K yInt)).r Z0 v_b x_b) ∧ ∀ v Z' H', Step [] Z0 H Z' H' → (yInt).r Z' v (F_differing x_a x_b) → Q v H'
set_option maxHeartbeats 4000000 in
theorem ok_differing (T : Txt K mg) : FnOk P w K mg base CX0 1 T.f_differing T.d_differing ["a", "b"] (sp_differing T) := by
  refine T.F_differing.ok sc_differing (fun vs H Q E h => ?_) (fun cdv A outer s H vs Q E hr h => ?_)
  · obtain ⟨Z0, v_a, v_b, x_a, x_b, rfl, _⟩ := h
    rfl
  · obtain ⟨Z0, v_a, v_b, x_a, x_b, rfl, sz, h_a, h_b, q⟩ := h
    refine ⟨_, (pss_one (ps_ret (pe_callB call_len_seq (by rfl) T.m_len PySem.boot_len (pa_cons (pe_lc (own := [("x", 2), ("y", 3)]) (g := gTup K 2 (gCons (gName 2) (gCons (gName 3) gNil))) rfl sc_differing.nd (ZN.pi_zip2 (by rfl) T.m_zip (pa_cons (pv 0) (pa_cons (pv 1) pa_nil))) (blkOk_by (own := [("x", 2), ("y", 3)]) (N := ["a", "b", "x", "y"]) (sc := defScope s_differing) (by decide +kernel)) (fun _ _ _ _ _ => (by exact (pg_tup rfl (pgs_cons (pg_name (i := 2) sc_differing.nd rfl (Or.inl rfl)) (pgs_cons (pg_name (i := 3) sc_differing.nd rfl (Or.inl rfl)) pgs_nil))))) (fun _ _ _ _ _ => (by exact pts_one (pt_cmpR op_ne (pv 2) (pv 3) (nomark _)))) (fun _ _ _ _ _ => pe_bl)) pa_nil)))), ?_⟩
    have P := Pt.start0 sz
    generalize hF : F_differing x_a x_b = y at q
    unfold F_differing at hF
    subst hF
    refine st_ret P (ev_len (fun _ _ _ h => h) (ev_li (ev_fz (en_fil (fun (x_547 : (Int × Int)) => (!decide (x_547.1 = x_547.2))) (fun (x_547 : (Int × Int)) => true) (ei_zip2 src_tup src_tup (eva_cons (ev_var (τ := (yTup K yInt)) rfl h_a) (eva_cons (ev_var (τ := (yTup K yInt)) rfl h_b) eva_nil))) (fun x_547 v_548 Z' H' zz hh rx_549 => by
          obtain ⟨v_550, v_551, k_552, k_553, tg_554⟩ := tgt_p2 rx_549
          exact ⟨_, (tg_554 tgt_name tgt_name), rfl, (et_cmp (ev_ne flat_int (ev_var (τ := yInt) rfl k_552) (ev_var (τ := yInt) rfl k_553))), ev_bl⟩))))) (fun v Z1 H1 P1 hv => ?_)
    exact q v _ _ P1.st hv
theorem cs_differing (T : Txt K mg) {μ : Type} {M : Mu μ} {s : μ} {E : XK} {x_a : (List Int)} {x_b : (List Int)} : CallS M (sp_differing T) E (rac (ty (yTup K yInt) x_a) (rac (ty (yTup K yInt) x_b) ra0)) s (ty yInt (F_differing x_a x_b)) s := by
  rintro Z H vs sz m ⟨v_a, _, rfl, h_a, ⟨v_b, _, rfl, h_b, rfl⟩⟩ Q q
  exact ⟨Z, v_a, v_b, x_a, x_b, rfl, sz, h_a, h_b, fun v Z2 H2 st hv => q v Z2 H2 st.pure (M.pure st m) hv⟩
def sp_Differ_holds (T : Txt K mg) : Sp := fun vs H Q _ => ∃ (Z0 : Hp) (v_self : V) (v_record : V) (x_self : Differ) (x_record : Record), vs = [v_self, v_record] ∧ (Same Z0 H) ∧ (((y_Differ T)).r Z0 v_self x_self) ∧ (((y_Record T)).r Z0 v_record x_record) ∧ ∀ v Z' H', Step [] Z0 H Z' H' → (yBool).r Z' v (F_Differ_holds x_self x_record) → Q v H'
set_option maxHeartbeats 4000000 in
theorem ok_Differ_holds (T : Txt K mg) : FnOk P w K mg base CX0 2 T.f_Differ_holds T.d_Differ_holds ["self", "record"] (sp_Differ_holds T) := by
  have G_differing : FnOk P w K mg base CX0 1 T.f_differing T.d_differing ["a", "b"] (sp_differing T) := ok_differing T
  refine T.F_Differ_holds.ok sc_Differ_holds (fun vs H Q E h => ?_) (fun cdv A outer s H vs Q E hr h => ?_)
  · obtain ⟨Z0, v_self, v_record, x_self, x_record, rfl, _⟩ := h
    rfl
  · obtain ⟨Z0, v_self, v_record, x_self, x_record, rfl, sz, h_self, h_record, q⟩ := h
    refine ⟨_, (pss_cons (ps_set (i := 2) sc_Differ_holds.nd rfl (.inl rfl) (pe_fld (pv 1) rfl)) 
      (pss_one (ps_ret (pe_and (pe_cmpR op_eq (pe_callB call_len_seq (by rfl) T.m_len PySem.boot_len (pa_cons (pe_fld (pv 0) rfl) pa_nil)) (pe_callB call_len_seq (by rfl) T.m_len PySem.boot_len (pa_cons (pv 2) pa_nil)) (nomark _)) (pe_one (pe_cmpR op_le (pe_call G_differing (hr.mono (by decide)) (by rfl) T.g_differing T.F_differing.kp T.b_differing .nil pass0 (pa_cons (pe_fld (pv 0) rfl) (pa_cons (pv 2) pa_nil))) (pe_fld (pv 0) rfl) (nomark _))))))), ?_⟩
    have P := Pt.start0 sz
    generalize hF : F_Differ_holds x_self x_record = y at q
    unfold F_Differ_holds at hF
    refine st_seq (st_set P (ev_fld (fo_Record_vector T) T.cl_Record T.n_Record_vector (ev_var (τ := (y_Record T)) rfl h_record)) (fun v_555 Z1 H1 e P1 k_556 => ?_))
    refine st_nx ?_
    replace P := P1
    replace h_self := ((y_Differ T)).mono e.z h_self
    subst hF
    refine st_ret P (ev_and0 (ev_eq flat_int (ev_lenT (fun _ _ _ h => h) (ev_fld (fo_Differ_centre T) T.cl_Differ T.n_Differ_centre (ev_var (τ := (y_Differ T)) rfl h_self))) (ev_lenT (fun _ _ _ h => h) (ev_var (τ := (yTup K yInt)) rfl k_556))) (ev_le (ev_call (cs_differing T) (eva_cons (ev_fld (fo_Differ_centre T) T.cl_Differ T.n_Differ_centre (ev_var (τ := (y_Differ T)) rfl h_self)) (eva_cons (ev_var (τ := (yTup K yInt)) rfl k_556) eva_nil))) (ev_fld (fo_Differ_most T) T.cl_Differ T.n_Differ_most (ev_var (τ := (y_Differ T)) rfl h_self)))) (fun v Z1 H1 P1 hv => ?_)
    exact q v _ _ P1.st hv
theorem cs_Differ_holds (T : Txt K mg) {μ : Type} {M : Mu μ} {s : μ} {E : XK} {x_self : Differ} {x_record : Record} : CallS M (sp_Differ_holds T) E (rac (ty (y_Differ T) x_self) (rac (ty (y_Record T) x_record) ra0)) s (ty yBool (F_Differ_holds x_self x_record)) s := by
  rintro Z H vs sz m ⟨v_self, _, rfl, h_self, ⟨v_record, _, rfl, h_record, rfl⟩⟩ Q q
  exact ⟨Z, v_self, v_record, x_self, x_record, rfl, sz, h_self, h_record, fun v Z2 H2 st hv => q v Z2 H2 st.pure (M.pure st m) hv⟩
def sp_Parts___init__ (T : Txt K mg) : Sp := fun vs H Q _ => ∃ (p dx : Addr) (Z0 : Hp) (v_parts : V) (x_parts : (List Part)), vs = [.ref p, v_parts] ∧ (Same Z0 H) ∧ (H p = some (.ins T.c_Parts dx [])) ∧ (Z0 p = none) ∧ (((yList (y_Part T))).r Z0 v_parts x_parts) ∧ ∀ Z' H' o, Step [p] Z0 H Z' H' → H' p = some o → (y_Parts T).r (upd Z' p o) (.ref p) (F_Parts___init__ x_parts) → Q .non H'
set_option maxHeartbeats 4000000 in
theorem ok_Parts___init__ (T : Txt K mg) : FnOk P w K mg base CX0 1 T.f_Parts___init__ T.d_Parts___init__ ["self", "parts"] (sp_Parts___init__ T) := by
  refine T.F_Parts___init__.ok sc_Parts___init__ (fun vs H Q E h => ?_) (fun cdv A outer s H vs Q E hr h => ?_)
  · obtain ⟨p, dx, Z0, v_parts, x_parts, rfl, _⟩ := h
    rfl
  · obtain ⟨p, dx, Z0, v_parts, x_parts, rfl, sz, hself, zself, h_parts, q⟩ := h
    refine ⟨_, (pss_one (ps_fld (pv 0) (pe_callTy call_tuple_of (by rfl) T.m_tuple (by decide +kernel) (pa_cons (pv 1) pa_nil)) rfl)), ?_⟩
    have P : Pt [p] Z0 H muN Z0 H () := ⟨Step.refl sz, trivial, fun _ h => (nomatch h)⟩
    generalize hF : F_Parts___init__ x_parts = y at q
    unfold F_Parts___init__ at hF
    refine st_fld (x := x_parts) (τ := (yTup K (y_Part T))) P hself zself List.not_mem_nil (.inl List.mem_cons_self) rfl (ev_tuple_of (fun _ _ _ h => h) (ev_li (ev_var (τ := (yList (y_Part T))) rfl h_parts))) T.cl_Parts T.n_Parts_parts (Nat.lt_of_le_of_lt (Nat.le_refl 0) (by decide)) (fun v_557 Z1 H1 e P1 k_558 hself1 zself1 => ?_)
    replace P := P1
    replace hself := hself1
    replace zself := zself1
    subst hF
    exact q _ _ _ P.st hself ⟨p, dx, v_557, rfl, upd_same, ((yTup K (y_Part T))).mono (same_upd zself) k_558⟩
theorem is_Parts___init__ (T : Txt K mg) {μ : Type} {M : Mu μ} {s : μ} {E : XK} {x_parts : (List Part)} : InitS M T.c_Parts (sp_Parts___init__ T) E (rac (ty (yList (y_Part T)) x_parts) ra0) s (ty (y_Parts T) (F_Parts___init__ x_parts)) s := by
  rintro Z H vs x dx sz m ⟨v_parts, _, rfl, h_parts, rfl⟩ hx zx nx Q q
  exact ⟨x, dx, Z, v_parts, x_parts, rfl, sz, hx, zx, h_parts, fun Z2 H2 o st ho hr => q Z2 H2 o (st.weak fun a h => by rw [List.mem_singleton] at h; rw [h]; exact .inl List.mem_cons_self) (Mu.away st nx m) ho hr⟩
def sp_Cell___init__ (T : Txt K mg) : Sp := fun vs H Q _ => ∃ (p dx : Addr) (Z0 : Hp) (v_near : V) (v_rival : V) (x_near : (List Int)) (x_rival : (List Int)), vs = [.ref p, v_near, v_rival] ∧ (Same Z0 H) ∧ (H p = some (.ins T.c_Cell dx [])) ∧ (Z0 p = none) ∧ (((yList yInt)).r Z0 v_near x_near) ∧ (((yList yInt)).r Z0 v_rival x_rival) ∧ ∀ Z' H' o, Step [p] Z0 H Z' H' → H' p = some o → (y_Cell T).r (upd Z' p o) (.ref p) (F_Cell___init__ x_near x_rival) → Q .non H'
set_option maxHeartbeats 4000000 in
theorem ok_Cell___init__ (T : Txt K mg) : FnOk P w K mg base CX0 1 T.f_Cell___init__ T.d_Cell___init__ ["self", "near", "rival"] (sp_Cell___init__ T) := by
  refine T.F_Cell___init__.ok sc_Cell___init__ (fun vs H Q E h => ?_) (fun cdv A outer s H vs Q E hr h => ?_)
  · obtain ⟨p, dx, Z0, v_near, v_rival, x_near, x_rival, rfl, _⟩ := h
    rfl
  · obtain ⟨p, dx, Z0, v_near, v_rival, x_near, x_rival, rfl, sz, hself, zself, h_near, h_rival, q⟩ := h
    refine ⟨_, (pss_cons (ps_fld (pv 0) (pe_callTy call_tuple_of (by rfl) T.m_tuple (by decide +kernel) (pa_cons (pv 1) pa_nil)) rfl) 
      (pss_one (ps_fld (pv 0) (pe_callTy call_tuple_of (by rfl) T.m_tuple (by decide +kernel) (pa_cons (pv 2) pa_nil)) rfl))), ?_⟩
    have P : Pt [p] Z0 H muN Z0 H () := ⟨Step.refl sz, trivial, fun _ h => (nomatch h)⟩
    generalize hF : F_Cell___init__ x_near x_rival = y at q
    unfold F_Cell___init__ at hF
    refine st_seq (st_fld (x := x_near) (τ := (yTup K yInt)) P hself zself List.not_mem_nil (.inl List.mem_cons_self) rfl (ev_tuple_of (fun _ _ _ h => h) (ev_li (ev_var (τ := (yList yInt)) rfl h_near))) T.cl_Cell T.n_Cell_near (Nat.lt_of_le_of_lt (Nat.le_refl 0) (by decide)) (fun v_559 Z1 H1 e P1 k_560 hself1 zself1 => ?_))
    refine st_nx ?_
    replace P := P1
    replace hself := hself1
    replace zself := zself1
    replace h_rival := ((yList yInt)).mono e.z h_rival
    refine st_fld (x := x_rival) (τ := (yTup K yInt)) P hself zself List.not_mem_nil (.inl List.mem_cons_self) rfl (ev_tuple_of (fun _ _ _ h => h) (ev_li (ev_var (τ := (yList yInt)) rfl h_rival))) T.cl_Cell T.n_Cell_rival (Nat.lt_of_le_of_lt (putF_le (Nat.le_refl 0)) (by decide)) (fun v_561 Z1 H1 e P1 k_562 hself1 zself1 => ?_)
    replace P := P1
    replace hself := hself1
    replace zself := zself1
    replace k_560 := ((yTup K yInt)).mono e.z k_560
    subst hF
    exact q _ _ _ P.st hself ⟨p, dx, v_559, v_561, rfl, upd_same, ((yTup K yInt)).mono (same_upd zself) k_560, ((yTup K yInt)).mono (same_upd zself) k_562⟩
theorem is_Cell___init__ (T : Txt K mg) {μ : Type} {M : Mu μ} {s : μ} {E : XK} {x_near : (List Int)} {x_rival : (List Int)} : InitS M T.c_Cell (sp_Cell___init__ T) E (rac (ty (yList yInt) x_near) (rac (ty (yList yInt) x_rival) ra0)) s (ty (y_Cell T) (F_Cell___init__ x_near x_rival)) s := by
  rintro Z H vs x dx sz m ⟨v_near, _, rfl, h_near, ⟨v_rival, _, rfl, h_rival, rfl⟩⟩ hx zx nx Q q
  exact ⟨x, dx, Z, v_near, v_rival, x_near, x_rival, rfl, sz, hx, zx, h_near, h_rival, fun Z2 H2 o st ho hr => q Z2 H2 o (st.weak fun a h => by rw [List.mem_singleton] at h; rw [h]; exact .inl List.mem_cons_self) (Mu.away st nx m) ho hr⟩
def sp_Box___init__ (T : Txt K mg) : Sp := fun vs H Q _ => ∃ (p dx : Addr) (Z0 : Hp) (v_low : V) (v_high : V) (x_low : (List Int)) (x_high : (List Int)), vs = [.ref p, v_low, v_high] ∧ (Same Z0 H) ∧ (H p = some (.ins T.c_Box dx [])) ∧ (Z0 p = none) ∧ (((yList yInt)).r Z0 v_low x_low) ∧ (((yList yInt)).r Z0 v_high x_high) ∧ ∀ Z' H' o, Step [p] Z0 H Z' H' → H' p = some o → (y_Box T).r (upd Z' p o) (.ref p) (F_Box___init__ x_low x_high) → Q .non H'
set_option maxHeartbeats 4000000 in
theorem ok_Box___init__ (T : Txt K mg) : FnOk P w K mg base CX0 1 T.f_Box___init__ T.d_Box___init__ ["self", "low", "high"] (sp_Box___init__ T) := by
  refine T.F_Box___init__.ok sc_Box___init__ (fun vs H Q E h => ?_) (fun cdv A outer s H vs Q E hr h => ?_)
  · obtain ⟨p, dx, Z0, v_low, v_high, x_low, x_high, rfl, _⟩ := h
    rfl
  · obtain ⟨p, dx, Z0, v_low, v_high, x_low, x_high, rfl, sz, hself, zself, h_low, h_high, q⟩ := h
    refine ⟨_, (pss_cons (ps_fld (pv 0) (pe_callTy call_tuple_of (by rfl) T.m_tuple (by decide +kernel) (pa_cons (pv 1) pa_nil)) rfl) 
      (pss_one (ps_fld (pv 0) (pe_callTy call_tuple_of (by rfl) T.m_tuple (by decide +kernel) (pa_cons (pv 2) pa_nil)) rfl))), ?_⟩
    have P : Pt [p] Z0 H muN Z0 H () := ⟨Step.refl sz, trivial, fun _ h => (nomatch h)⟩
    generalize hF : F_Box___init__ x_low x_high = y at q
    unfold F_Box___init__ at hF
    refine st_seq (st_fld (x := x_low) (τ := (yTup K yInt)) P hself zself List.not_mem_nil (.inl List.mem_cons_self) rfl (ev_tuple_of (fun _ _ _ h => h) (ev_li (ev_var (τ := (yList yInt)) rfl h_low))) T.cl_Box T.n_Box_low (Nat.lt_of_le_of_lt (Nat.le_refl 0) (by decide)) (fun v_563 Z1 H1 e P1 k_564 hself1 zself1 => ?_))
    refine st_nx ?_
    replace P := P1
    replace hself := hself1
    replace zself := zself1
    replace h_high := ((yList yInt)).mono e.z h_high
    refine st_fld (x := x_high) (τ := (yTup K yInt)) P hself zself List.not_mem_nil (.inl List.mem_cons_self) rfl (ev_tuple_of (fun _ _ _ h => h) (ev_li (ev_var (τ := (yList yInt)) rfl h_high))) T.cl_Box T.n_Box_high (Nat.lt_of_le_of_lt (putF_le (Nat.le_refl 0)) (by decide)) (fun v_565 Z1 H1 e P1 k_566 hself1 zself1 => ?_)
    replace P := P1
    replace hself := hself1
    replace zself := zself1
    replace k_564 := ((yTup K yInt)).mono e.z k_564
    subst hF
    exact q _ _ _ P.st hself ⟨p, dx, v_563, v_565, rfl, upd_same, ((yTup K yInt)).mono (same_upd zself) k_564, ((yTup K yInt)).mono (same_upd zself) k_566⟩
theorem is_Box___init__ (T : Txt K mg) {μ : Type} {M : Mu μ} {s : μ} {E : XK} {x_low : (List Int)} {x_high : (List Int)} : InitS M T.c_Box (sp_Box___init__ T) E (rac (ty (yList yInt) x_low) (rac (ty (yList yInt) x_high) ra0)) s (ty (y_Box T) (F_Box___init__ x_low x_high)) s := by
  rintro Z H vs x dx sz m ⟨v_low, _, rfl, h_low, ⟨v_high, _, rfl, h_high, rfl⟩⟩ hx zx nx Q q
  exact ⟨x, dx, Z, v_low, v_high, x_low, x_high, rfl, sz, hx, zx, h_low, h_high, fun Z2 H2 o st ho hr => q Z2 H2 o (st.weak fun a h => by rw [List.mem_singleton] at h; rw [h]; exact .inl List.mem_cons_self) (Mu.away st nx m) ho hr⟩
def sp_Norms___init__ (T : Txt K mg) : Sp := fun vs H Q _ => ∃ (p dx : Addr) (Z0 : Hp) (v_low : V) (v_high : V) (x_low : Int) (x_high : Int), vs = [.ref p, v_low, v_high] ∧ (Same Z0 H) ∧ (H p = some (.ins T.c_Norms dx [])) ∧ (Z0 p = none) ∧ ((yInt).r Z0 v_low x_low) ∧ ((yInt).r Z0 v_high x_high) ∧ ∀ Z' H' o, Step [p] Z0 H Z' H' → H' p = some o → (y_Norms T).r (upd Z' p o) (.ref p) (F_Norms___init__ x_low x_high) → Q .non H'
set_option maxHeartbeats 4000000 in
theorem ok_Norms___init__ (T : Txt K mg) : FnOk P w K mg base CX0 1 T.f_Norms___init__ T.d_Norms___init__ ["self", "low", "high"] (sp_Norms___init__ T) := by
  refine T.F_Norms___init__.ok sc_Norms___init__ (fun vs H Q E h => ?_) (fun cdv A outer s H vs Q E hr h => ?_)
  · obtain ⟨p, dx, Z0, v_low, v_high, x_low, x_high, rfl, _⟩ := h
    rfl
  · obtain ⟨p, dx, Z0, v_low, v_high, x_low, x_high, rfl, sz, hself, zself, h_low, h_high, q⟩ := h
    refine ⟨_, (pss_cons (ps_fld (pv 0) (pv 1) rfl) 
      (pss_one (ps_fld (pv 0) (pv 2) rfl))), ?_⟩
    have P : Pt [p] Z0 H muN Z0 H () := ⟨Step.refl sz, trivial, fun _ h => (nomatch h)⟩
    generalize hF : F_Norms___init__ x_low x_high = y at q
    unfold F_Norms___init__ at hF
    refine st_seq (st_fld (x := x_low) (τ := yInt) P hself zself List.not_mem_nil (.inl List.mem_cons_self) rfl (ev_var (τ := yInt) rfl h_low) T.cl_Norms T.n_Norms_low (Nat.lt_of_le_of_lt (Nat.le_refl 0) (by decide)) (fun v_567 Z1 H1 e P1 k_568 hself1 zself1 => ?_))
    refine st_nx ?_
    replace P := P1
    replace hself := hself1
    replace zself := zself1
    refine st_fld (x := x_high) (τ := yInt) P hself zself List.not_mem_nil (.inl List.mem_cons_self) rfl (ev_var (τ := yInt) rfl h_high) T.cl_Norms T.n_Norms_high (Nat.lt_of_le_of_lt (putF_le (Nat.le_refl 0)) (by decide)) (fun v_569 Z1 H1 e P1 k_570 hself1 zself1 => ?_)
    replace P := P1
    replace hself := hself1
    replace zself := zself1
    subst hF
    exact q _ _ _ P.st hself ⟨p, dx, v_567, v_569, rfl, upd_same, k_568, k_570⟩
theorem is_Norms___init__ (T : Txt K mg) {μ : Type} {M : Mu μ} {s : μ} {E : XK} {x_low : Int} {x_high : Int} : InitS M T.c_Norms (sp_Norms___init__ T) E (rac (ty yInt x_low) (rac (ty yInt x_high) ra0)) s (ty (y_Norms T) (F_Norms___init__ x_low x_high)) s := by
  rintro Z H vs x dx sz m ⟨v_low, _, rfl, h_low, ⟨v_high, _, rfl, h_high, rfl⟩⟩ hx zx nx Q q
  exact ⟨x, dx, Z, v_low, v_high, x_low, x_high, rfl, sz, hx, zx, h_low, h_high, fun Z2 H2 o st ho hr => q Z2 H2 o (st.weak fun a h => by rw [List.mem_singleton] at h; rw [h]; exact .inl List.mem_cons_self) (Mu.away st nx m) ho hr⟩
def sp_Differ___init__ (T : Txt K mg) : Sp := fun vs H Q _ => ∃ (p dx : Addr) (Z0 : Hp) (v_centre : V) (v_most : V) (x_centre : (List Int)) (x_most : Int), vs = [.ref p, v_centre, v_most] ∧ (Same Z0 H) ∧ (H p = some (.ins T.c_Differ dx [])) ∧ (Z0 p = none) ∧ (((yList yInt)).r Z0 v_centre x_centre) ∧ ((yInt).r Z0 v_most x_most) ∧ ∀ Z' H' o, Step [p] Z0 H Z' H' → H' p = some o → (y_Differ T).r (upd Z' p o) (.ref p) (F_Differ___init__ x_centre x_most) → Q .non H'
set_option maxHeartbeats 4000000 in
theorem ok_Differ___init__ (T : Txt K mg) : FnOk P w K mg base CX0 1 T.f_Differ___init__ T.d_Differ___init__ ["self", "centre", "most"] (sp_Differ___init__ T) := by
  refine T.F_Differ___init__.ok sc_Differ___init__ (fun vs H Q E h => ?_) (fun cdv A outer s H vs Q E hr h => ?_)
  · obtain ⟨p, dx, Z0, v_centre, v_most, x_centre, x_most, rfl, _⟩ := h
    rfl
  · obtain ⟨p, dx, Z0, v_centre, v_most, x_centre, x_most, rfl, sz, hself, zself, h_centre, h_most, q⟩ := h
    refine ⟨_, (pss_cons (ps_fld (pv 0) (pe_callTy call_tuple_of (by rfl) T.m_tuple (by decide +kernel) (pa_cons (pv 1) pa_nil)) rfl) 
      (pss_one (ps_fld (pv 0) (pv 2) rfl))), ?_⟩
    have P : Pt [p] Z0 H muN Z0 H () := ⟨Step.refl sz, trivial, fun _ h => (nomatch h)⟩
    generalize hF : F_Differ___init__ x_centre x_most = y at q
    unfold F_Differ___init__ at hF
    refine st_seq (st_fld (x := x_centre) (τ := (yTup K yInt)) P hself zself List.not_mem_nil (.inl List.mem_cons_self) rfl (ev_tuple_of (fun _ _ _ h => h) (ev_li (ev_var (τ := (yList yInt)) rfl h_centre))) T.cl_Differ T.n_Differ_centre (Nat.lt_of_le_of_lt (Nat.le_refl 0) (by decide)) (fun v_571 Z1 H1 e P1 k_572 hself1 zself1 => ?_))
    refine st_nx ?_
    replace P := P1
    replace hself := hself1
    replace zself := zself1
    refine st_fld (x := x_most) (τ := yInt) P hself zself List.not_mem_nil (.inl List.mem_cons_self) rfl (ev_var (τ := yInt) rfl h_most) T.cl_Differ T.n_Differ_most (Nat.lt_of_le_of_lt (putF_le (Nat.le_refl 0)) (by decide)) (fun v_573 Z1 H1 e P1 k_574 hself1 zself1 => ?_)
    replace P := P1
    replace hself := hself1
    replace zself := zself1
    replace k_572 := ((yTup K yInt)).mono e.z k_572
    subst hF
    exact q _ _ _ P.st hself ⟨p, dx, v_571, v_573, rfl, upd_same, ((yTup K yInt)).mono (same_upd zself) k_572, k_574⟩
theorem is_Differ___init__ (T : Txt K mg) {μ : Type} {M : Mu μ} {s : μ} {E : XK} {x_centre : (List Int)} {x_most : Int} : InitS M T.c_Differ (sp_Differ___init__ T) E (rac (ty (yList yInt) x_centre) (rac (ty yInt x_most) ra0)) s (ty (y_Differ T) (F_Differ___init__ x_centre x_most)) s := by
  rintro Z H vs x dx sz m ⟨v_centre, _, rfl, h_centre, ⟨v_most, _, rfl, h_most, rfl⟩⟩ hx zx nx Q q
  exact ⟨x, dx, Z, v_centre, v_most, x_centre, x_most, rfl, sz, hx, zx, h_centre, h_most, fun Z2 H2 o st ho hr => q Z2 H2 o (st.weak fun a h => by rw [List.mem_singleton] at h; rw [h]; exact .inl List.mem_cons_self) (Mu.away st nx m) ho hr⟩
def sp_Part___init__ (T : Txt K mg) : Sp := fun vs H Q _ => ∃ (p dx : Addr) (Z0 : Hp) (v_start : V) (v_centre : V) (v_radius : V) (x_start : Int) (x_centre : (List Int)) (x_radius : Int), vs = [.ref p, v_start, v_centre, v_radius] ∧ (Same Z0 H) ∧ (H p = some (.ins T.c_Part dx [])) ∧ (Z0 p = none) ∧ ((yInt).r Z0 v_start x_start) ∧ (((yList yInt)).r Z0 v_centre x_centre) ∧ ((yInt).r Z0 v_radius x_radius) ∧ ∀ Z' H' o, Step [p] Z0 H Z' H' → H' p = some o → (y_Part T).r (upd Z' p o) (.ref p) (F_Part___init__ x_start x_centre x_radius) → Q .non H'
set_option maxHeartbeats 4000000 in
theorem ok_Part___init__ (T : Txt K mg) : FnOk P w K mg base CX0 1 T.f_Part___init__ T.d_Part___init__ ["self", "start", "centre", "radius"] (sp_Part___init__ T) := by
  refine T.F_Part___init__.ok sc_Part___init__ (fun vs H Q E h => ?_) (fun cdv A outer s H vs Q E hr h => ?_)
  · obtain ⟨p, dx, Z0, v_start, v_centre, v_radius, x_start, x_centre, x_radius, rfl, _⟩ := h
    rfl
  · obtain ⟨p, dx, Z0, v_start, v_centre, v_radius, x_start, x_centre, x_radius, rfl, sz, hself, zself, h_start, h_centre, h_radius, q⟩ := h
    refine ⟨_, (pss_cons (ps_fld (pv 0) (pv 1) rfl) 
      (pss_cons (ps_fld (pv 0) (pe_callTy call_tuple_of (by rfl) T.m_tuple (by decide +kernel) (pa_cons (pv 2) pa_nil)) rfl) 
      (pss_one (ps_fld (pv 0) (pv 3) rfl)))), ?_⟩
    have P : Pt [p] Z0 H muN Z0 H () := ⟨Step.refl sz, trivial, fun _ h => (nomatch h)⟩
    generalize hF : F_Part___init__ x_start x_centre x_radius = y at q
    unfold F_Part___init__ at hF
    refine st_seq (st_fld (x := x_start) (τ := yInt) P hself zself List.not_mem_nil (.inl List.mem_cons_self) rfl (ev_var (τ := yInt) rfl h_start) T.cl_Part T.n_Part_start (Nat.lt_of_le_of_lt (Nat.le_refl 0) (by decide)) (fun v_575 Z1 H1 e P1 k_576 hself1 zself1 => ?_))
    refine st_nx ?_
    replace P := P1
    replace hself := hself1
    replace zself := zself1
    replace h_centre := ((yList yInt)).mono e.z h_centre
    refine st_seq (st_fld (x := x_centre) (τ := (yTup K yInt)) P hself zself List.not_mem_nil (.inl List.mem_cons_self) rfl (ev_tuple_of (fun _ _ _ h => h) (ev_li (ev_var (τ := (yList yInt)) rfl h_centre))) T.cl_Part T.n_Part_centre (Nat.lt_of_le_of_lt (putF_le (Nat.le_refl 0)) (by decide)) (fun v_577 Z1 H1 e P1 k_578 hself1 zself1 => ?_))
    refine st_nx ?_
    replace P := P1
    replace hself := hself1
    replace zself := zself1
    refine st_fld (x := x_radius) (τ := yInt) P hself zself List.not_mem_nil (.inl List.mem_cons_self) rfl (ev_var (τ := yInt) rfl h_radius) T.cl_Part T.n_Part_radius (Nat.lt_of_le_of_lt (putF_le (putF_le (Nat.le_refl 0))) (by decide)) (fun v_579 Z1 H1 e P1 k_580 hself1 zself1 => ?_)
    replace P := P1
    replace hself := hself1
    replace zself := zself1
    replace k_578 := ((yTup K yInt)).mono e.z k_578
    subst hF
    exact q _ _ _ P.st hself ⟨p, dx, v_575, v_577, v_579, rfl, upd_same, k_576, ((yTup K yInt)).mono (same_upd zself) k_578, k_580⟩
theorem is_Part___init__ (T : Txt K mg) {μ : Type} {M : Mu μ} {s : μ} {E : XK} {x_start : Int} {x_centre : (List Int)} {x_radius : Int} : InitS M T.c_Part (sp_Part___init__ T) E (rac (ty yInt x_start) (rac (ty (yList yInt) x_centre) (rac (ty yInt x_radius) ra0))) s (ty (y_Part T) (F_Part___init__ x_start x_centre x_radius)) s := by
  rintro Z H vs x dx sz m ⟨v_start, _, rfl, h_start, ⟨v_centre, _, rfl, h_centre, ⟨v_radius, _, rfl, h_radius, rfl⟩⟩⟩ hx zx nx Q q
  exact ⟨x, dx, Z, v_start, v_centre, v_radius, x_start, x_centre, x_radius, rfl, sz, hx, zx, h_start, h_centre, h_radius, fun Z2 H2 o st ho hr => q Z2 H2 o (st.weak fun a h => by rw [List.mem_singleton] at h; rw [h]; exact .inl List.mem_cons_self) (Mu.away st nx m) ho hr⟩
def sp_law_made (T : Txt K mg) : Sp := fun vs H Q _ => ∃ (Z0 : Hp) (v_fact : V) (x_fact : LFact) (y : Any), vs = [v_fact] ∧ (Same Z0 H) ∧ (((y_LFact T)).r Z0 v_fact x_fact) ∧ (F_law_made x_fact = some y) ∧ ∀ v Z' H', Step [] Z0 H Z' H' → ((y_Any T)).r Z' v y → Q v H'
set_option maxHeartbeats 4000000 in
theorem ok_law_made (T : Txt K mg) : FnOk P w K mg base CX0 3 T.f_law_made T.d_law_made ["fact"] (sp_law_made T) := by
  have G_Differ___init__ : FnOk P w K mg base CX0 1 T.f_Differ___init__ T.d_Differ___init__ ["self", "centre", "most"] (sp_Differ___init__ T) := ok_Differ___init__ T
  have G_Norms___init__ : FnOk P w K mg base CX0 1 T.f_Norms___init__ T.d_Norms___init__ ["self", "low", "high"] (sp_Norms___init__ T) := ok_Norms___init__ T
  have G_Box___init__ : FnOk P w K mg base CX0 1 T.f_Box___init__ T.d_Box___init__ ["self", "low", "high"] (sp_Box___init__ T) := ok_Box___init__ T
  have G_Cell___init__ : FnOk P w K mg base CX0 1 T.f_Cell___init__ T.d_Cell___init__ ["self", "near", "rival"] (sp_Cell___init__ T) := ok_Cell___init__ T
  have G_Part___init__ : FnOk P w K mg base CX0 1 T.f_Part___init__ T.d_Part___init__ ["self", "start", "centre", "radius"] (sp_Part___init__ T) := ok_Part___init__ T
  have G_Parts___init__ : FnOk P w K mg base CX0 1 T.f_Parts___init__ T.d_Parts___init__ ["self", "parts"] (sp_Parts___init__ T) := ok_Parts___init__ T
  refine T.F_law_made.ok sc_law_made (fun vs H Q E h => ?_) (fun cdv A outer s H vs Q E hr h => ?_)
  · obtain ⟨Z0, v_fact, x_fact, y, rfl, _⟩ := h
    rfl
  · obtain ⟨Z0, v_fact, x_fact, y, rfl, sz, h_fact, hF, q⟩ := h
    refine ⟨_, (pss_cons (ps_if (pt_cmpR op_eq (pe_ix ix_tup (pv 0) pe_int (fun _ _ => rfl)) pe_str (nomark _)) (pss_one (ps_ret (pe_make T.mk_Parts G_Parts___init__ (hr.mono (by decide)) (by rfl) T.mc_Parts T.b_Parts___init__ .nil pass0 (pa_cons (pe_lc (own := [("start", 1), ("centre", 2), ("radius", 3)]) (g := gTup K 3 (gCons (gName 1) (gCons (gName 2) (gCons (gName 3) gNil)))) rfl sc_law_made.nd (pi_list (pe_ix ix_tup (pv 0) pe_int (fun _ _ => rfl))) (blkOk_by (own := [("start", 1), ("centre", 2), ("radius", 3)]) (N := ["fact", "start", "centre", "radius"]) (sc := defScope s_law_made) (by decide +kernel)) (fun _ _ _ _ _ => (by exact (pg_tup rfl (pgs_cons (pg_name (i := 1) sc_law_made.nd rfl (Or.inl rfl)) (pgs_cons (pg_name (i := 2) sc_law_made.nd rfl (Or.inl rfl)) (pgs_cons (pg_name (i := 3) sc_law_made.nd rfl (Or.inl rfl)) pgs_nil)))))) (fun _ _ _ _ _ => pts_nil) (fun _ _ _ _ _ => (pe_make T.mk_Part G_Part___init__ (hr.mono (by decide)) (by rfl) T.mc_Part T.b_Part___init__ .nil pass0 (pa_cons (pv 1) (pa_cons (pe_callTy (r := rListB K) (by exact call_list_of) (by rfl) T.m_list (by decide +kernel) (pa_cons (pv 2) pa_nil)) (pa_cons (pv 3) pa_nil)))))) pa_nil)))) pss_nil) 
      (pss_cons (ps_if (pt_cmpR op_eq (pe_ix ix_tup (pv 0) pe_int (fun _ _ => rfl)) pe_str (nomark _)) (pss_one (ps_ret (pe_make T.mk_Cell G_Cell___init__ (hr.mono (by decide)) (by rfl) T.mc_Cell T.b_Cell___init__ .nil pass0 (pa_cons (pe_callTy call_list_of (by rfl) T.m_list (by decide +kernel) (pa_cons (pe_ix ix_tup (pv 0) pe_int (fun _ _ => rfl)) pa_nil)) (pa_cons (pe_callTy call_list_of (by rfl) T.m_list (by decide +kernel) (pa_cons (pe_ix ix_tup (pv 0) pe_int (fun _ _ => rfl)) pa_nil)) pa_nil))))) pss_nil) 
      (pss_cons (ps_if (pt_cmpR op_eq (pe_ix ix_tup (pv 0) pe_int (fun _ _ => rfl)) pe_str (nomark _)) (pss_one (ps_ret (pe_make T.mk_Box G_Box___init__ (hr.mono (by decide)) (by rfl) T.mc_Box T.b_Box___init__ .nil pass0 (pa_cons (pe_callTy call_list_of (by rfl) T.m_list (by decide +kernel) (pa_cons (pe_ix ix_tup (pv 0) pe_int (fun _ _ => rfl)) pa_nil)) (pa_cons (pe_callTy call_list_of (by rfl) T.m_list (by decide +kernel) (pa_cons (pe_ix ix_tup (pv 0) pe_int (fun _ _ => rfl)) pa_nil)) pa_nil))))) pss_nil) 
      (pss_cons (ps_if (pt_cmpR op_eq (pe_ix ix_tup (pv 0) pe_int (fun _ _ => rfl)) pe_str (nomark _)) (pss_one (ps_ret (pe_make T.mk_Norms G_Norms___init__ (hr.mono (by decide)) (by rfl) T.mc_Norms T.b_Norms___init__ .nil pass0 (pa_cons (pe_ix ix_tup (pv 0) pe_int (fun _ _ => rfl)) (pa_cons (pe_ix ix_tup (pv 0) pe_int (fun _ _ => rfl)) pa_nil))))) pss_nil) 
      (pss_cons (ps_if (pt_cmpR op_eq (pe_ix ix_tup (pv 0) pe_int (fun _ _ => rfl)) pe_str (nomark _)) (pss_one (ps_ret (pe_make T.mk_Differ G_Differ___init__ (hr.mono (by decide)) (by rfl) T.mc_Differ T.b_Differ___init__ .nil pass0 (pa_cons (pe_callTy call_list_of (by rfl) T.m_list (by decide +kernel) (pa_cons (pe_ix ix_tup (pv 0) pe_int (fun _ _ => rfl)) pa_nil)) (pa_cons (pe_ix ix_tup (pv 0) pe_int (fun _ _ => rfl)) pa_nil))))) pss_nil) 
      (pss_cons (ps_if (pt_cmpR op_eq (pe_ix ix_tup (pv 0) pe_int (fun _ _ => rfl)) pe_str (nomark _)) (pss_one ps_dead) pss_nil) 
      (pss_cons (ps_if (pt_cmpR op_eq (pe_ix ix_tup (pv 0) pe_int (fun _ _ => rfl)) pe_str (nomark _)) (pss_one ps_dead) pss_nil) 
      (pss_cons (ps_if (pt_cmpR op_eq (pe_ix ix_tup (pv 0) pe_int (fun _ _ => rfl)) pe_str (nomark _)) (pss_one ps_dead) pss_nil) 
      (pss_one ps_dead))))))))), ?_⟩
    have P := Pt.start0 sz
    unfold F_law_made at hF
    refine st_seq (st_if P (et_cmp (ev_eq flat_str (tg_LFact T (ev_var (τ := (y_LFact T)) rfl h_fact) ev_int) ev_str)) (fun b_596 Z1 H1 e P1 => ?_) (fun b_596 Z1 H1 e P1 => ?_))
    · replace P := P1
      have hB := ifT b_596 hF
      replace hF := hB
      clear hB
      replace h_fact := ((y_LFact T)).mono e.z h_fact
      obtain ⟨a_599, h_600, hF⟩ := bind_inv hF
      replace hF := Option.some.inj hF
      subst hF
      refine st_ret P (ij_Any_parts T (ev_make (is_Parts___init__ T) (eva_cons (ev_fz (en_map (fun (x_601 : (Int × (List Int) × Int)) => (F_Part___init__ x_601.1 x_601.2.1 x_601.2.2)) (ei_list (sl_LFact_0 T (ev_var (τ := (y_LFact T)) rfl h_fact) ev_int h_600)) (fun x_601 v_602 Z' H' zz hh rx_603 => by
            obtain ⟨v_604, v_605, v_606, k_607, k_608, k_609, tg_610⟩ := tgt_p3 rx_603
            exact ⟨_, (tg_610 tgt_name tgt_name tgt_name), rfl, (ev_make (is_Part___init__ T) (eva_cons (ev_var (τ := yInt) rfl k_607) (eva_cons (ev_fz (en_list_of (fun _ _ _ h => h) (ev_li (ev_var (τ := (yList yInt)) rfl k_608)))) (eva_cons (ev_var (τ := yInt) rfl k_609) eva_nil))))⟩))) eva_nil))) (fun v Z1 H1 P1 hv => ?_)
      exact q v _ _ P1.st hv
    · replace P := P1
      have hB := ifF b_596 hF
      replace hF := hB
      clear hB
      refine st_next0 ?_
      replace h_fact := ((y_LFact T)).mono e.z h_fact
      refine st_seq (st_if P (et_cmp (ev_eq flat_str (tg_LFact T (ev_var (τ := (y_LFact T)) rfl h_fact) ev_int) ev_str)) (fun b_611 Z1 H1 e P1 => ?_) (fun b_611 Z1 H1 e P1 => ?_))
      · replace P := P1
        have hB := ifT b_611 hF
        replace hF := hB
        clear hB
        replace h_fact := ((y_LFact T)).mono e.z h_fact
        obtain ⟨a_614, h_615, hF⟩ := bind_inv hF
        obtain ⟨a_618, h_619, hF⟩ := bind_inv hF
        replace hF := Option.some.inj hF
        subst hF
        refine st_ret P (ij_Any_cell T (ev_make (is_Cell___init__ T) (eva_cons (ev_fz (en_list_of (fun _ _ _ h => h) (ev_li (sl_LFact_1 T (ev_var (τ := (y_LFact T)) rfl h_fact) ev_int h_615)))) (eva_cons (ev_fz (en_list_of (fun _ _ _ h => h) (ev_li (sl_LFact_2 T (ev_var (τ := (y_LFact T)) rfl h_fact) ev_int h_619)))) eva_nil)))) (fun v Z1 H1 P1 hv => ?_)
        exact q v _ _ P1.st hv
      · replace P := P1
        have hB := ifF b_611 hF
        replace hF := hB
        clear hB
        refine st_next0 ?_
        replace h_fact := ((y_LFact T)).mono e.z h_fact
        refine st_seq (st_if P (et_cmp (ev_eq flat_str (tg_LFact T (ev_var (τ := (y_LFact T)) rfl h_fact) ev_int) ev_str)) (fun b_620 Z1 H1 e P1 => ?_) (fun b_620 Z1 H1 e P1 => ?_))
        · replace P := P1
          have hB := ifT b_620 hF
          replace hF := hB
          clear hB
          replace h_fact := ((y_LFact T)).mono e.z h_fact
          obtain ⟨a_623, h_624, hF⟩ := bind_inv hF
          obtain ⟨a_627, h_628, hF⟩ := bind_inv hF
          replace hF := Option.some.inj hF
          subst hF
          refine st_ret P (ij_Any_box T (ev_make (is_Box___init__ T) (eva_cons (ev_fz (en_list_of (fun _ _ _ h => h) (ev_li (sl_LFact_1 T (ev_var (τ := (y_LFact T)) rfl h_fact) ev_int h_624)))) (eva_cons (ev_fz (en_list_of (fun _ _ _ h => h) (ev_li (sl_LFact_2 T (ev_var (τ := (y_LFact T)) rfl h_fact) ev_int h_628)))) eva_nil)))) (fun v Z1 H1 P1 hv => ?_)
          exact q v _ _ P1.st hv
        · replace P := P1
          have hB := ifF b_620 hF
          replace hF := hB
          clear hB
          refine st_next0 ?_
          replace h_fact := ((y_LFact T)).mono e.z h_fact
          refine st_seq (st_if P (et_cmp (ev_eq flat_str (tg_LFact T (ev_var (τ := (y_LFact T)) rfl h_fact) ev_int) ev_str)) (fun b_629 Z1 H1 e P1 => ?_) (fun b_629 Z1 H1 e P1 => ?_))
          · replace P := P1
            have hB := ifT b_629 hF
            replace hF := hB
            clear hB
            replace h_fact := ((y_LFact T)).mono e.z h_fact
            obtain ⟨a_630, h_631, hF⟩ := bind_inv hF
            obtain ⟨a_632, h_633, hF⟩ := bind_inv hF
            replace hF := Option.some.inj hF
            subst hF
            refine st_ret P (ij_Any_norms T (ev_make (is_Norms___init__ T) (eva_cons (sl_LFact_3 T (ev_var (τ := (y_LFact T)) rfl h_fact) ev_int h_631) (eva_cons (sl_LFact_4 T (ev_var (τ := (y_LFact T)) rfl h_fact) ev_int h_633) eva_nil)))) (fun v Z1 H1 P1 hv => ?_)
            exact q v _ _ P1.st hv
          · replace P := P1
            have hB := ifF b_629 hF
            replace hF := hB
            clear hB
            refine st_next0 ?_
            replace h_fact := ((y_LFact T)).mono e.z h_fact
            refine st_seq (st_if P (et_cmp (ev_eq flat_str (tg_LFact T (ev_var (τ := (y_LFact T)) rfl h_fact) ev_int) ev_str)) (fun b_634 Z1 H1 e P1 => ?_) (fun b_634 Z1 H1 e P1 => ?_))
            · replace P := P1
              have hB := ifT b_634 hF
              replace hF := hB
              clear hB
              replace h_fact := ((y_LFact T)).mono e.z h_fact
              obtain ⟨a_637, h_638, hF⟩ := bind_inv hF
              obtain ⟨a_639, h_640, hF⟩ := bind_inv hF
              replace hF := Option.some.inj hF
              subst hF
              refine st_ret P (ij_Any_differ T (ev_make (is_Differ___init__ T) (eva_cons (ev_fz (en_list_of (fun _ _ _ h => h) (ev_li (sl_LFact_1 T (ev_var (τ := (y_LFact T)) rfl h_fact) ev_int h_638)))) (eva_cons (sl_LFact_4 T (ev_var (τ := (y_LFact T)) rfl h_fact) ev_int h_640) eva_nil)))) (fun v Z1 H1 P1 hv => ?_)
              exact q v _ _ P1.st hv
            · replace P := P1
              have hB := ifF b_634 hF
              replace hF := hB
              clear hB
              refine st_next0 ?_
              replace h_fact := ((y_LFact T)).mono e.z h_fact
              refine st_seq (st_if P (et_cmp (ev_eq flat_str (tg_LFact T (ev_var (τ := (y_LFact T)) rfl h_fact) ev_int) ev_str)) (fun b_641 Z1 H1 e P1 => ?_) (fun b_641 Z1 H1 e P1 => ?_))
              · replace P := P1
                have hB := ifT b_641 hF
                replace hF := hB
                clear hB
                replace h_fact := ((y_LFact T)).mono e.z h_fact
                cases hF
              · replace P := P1
                have hB := ifF b_641 hF
                replace hF := hB
                clear hB
                refine st_next0 ?_
                replace h_fact := ((y_LFact T)).mono e.z h_fact
                refine st_seq (st_if P (et_cmp (ev_eq flat_str (tg_LFact T (ev_var (τ := (y_LFact T)) rfl h_fact) ev_int) ev_str)) (fun b_642 Z1 H1 e P1 => ?_) (fun b_642 Z1 H1 e P1 => ?_))
                · replace P := P1
                  have hB := ifT b_642 hF
                  replace hF := hB
                  clear hB
                  replace h_fact := ((y_LFact T)).mono e.z h_fact
                  cases hF
                · replace P := P1
                  have hB := ifF b_642 hF
                  replace hF := hB
                  clear hB
                  refine st_next0 ?_
                  replace h_fact := ((y_LFact T)).mono e.z h_fact
                  refine st_seq (st_if P (et_cmp (ev_eq flat_str (tg_LFact T (ev_var (τ := (y_LFact T)) rfl h_fact) ev_int) ev_str)) (fun b_643 Z1 H1 e P1 => ?_) (fun b_643 Z1 H1 e P1 => ?_))
                  · replace P := P1
                    have hB := ifT b_643 hF
                    replace hF := hB
                    clear hB
                    replace h_fact := ((y_LFact T)).mono e.z h_fact
                    cases hF
                  · replace P := P1
                    have hB := ifF b_643 hF
                    replace hF := hB
                    clear hB
                    refine st_next0 ?_
                    replace h_fact := ((y_LFact T)).mono e.z h_fact
                    cases hF
theorem cs_law_made (T : Txt K mg) {μ : Type} {M : Mu μ} {s : μ} {E : XK} {x_fact : LFact} {y : Any} (h : F_law_made x_fact = some y) : CallS M (sp_law_made T) E (rac (ty (y_LFact T) x_fact) ra0) s (ty (y_Any T) y) s := by
  rintro Z H vs sz m ⟨v_fact, _, rfl, h_fact, rfl⟩ Q q
  exact ⟨Z, v_fact, x_fact, y, rfl, sz, h_fact, h, fun v Z2 H2 st hv => q v Z2 H2 st.pure (M.pure st m) hv⟩
def sp_law_holds_vector (T : Txt K mg) : Sp := fun vs H Q _ => ∃ (Z0 : Hp) (v_fact : V) (v_vector : V) (x_fact : LFact) (x_vector : (List Int)) (y : Bool), vs = [v_fact, v_vector] ∧ (Same Z0 H) ∧ (((y_LFact T)).r Z0 v_fact x_fact) ∧ (((yList yInt)).r Z0 v_vector x_vector) ∧ (F_law_holds_vector x_fact x_vector = some y) ∧ ∀ v Z' H', Step [] Z0 H Z' H' → (yBool).r Z' v y → Q v H'
set_option maxHeartbeats 4000000 in
theorem ok_law_holds_vector (T : Txt K mg) : FnOk P w K mg base CX0 2 T.f_law_holds_vector T.d_law_holds_vector ["fact", "vector"] (sp_law_holds_vector T) := by
  have G_law_distance : FnOk P w K mg base CX0 1 T.f_law_distance T.d_law_distance ["a", "b"] (sp_law_distance T) := ok_law_distance T
  have G_law_differing : FnOk P w K mg base CX0 1 T.f_law_differing T.d_law_differing ["a", "b"] (sp_law_differing T) := ok_law_differing T
  have G_law_inner : FnOk P w K mg base CX0 1 T.f_law_inner T.d_law_inner ["a", "b"] (sp_law_inner T) := ok_law_inner T
  refine T.F_law_holds_vector.ok sc_law_holds_vector (fun vs H Q E h => ?_) (fun cdv A outer s H vs Q E hr h => ?_)
  · obtain ⟨Z0, v_fact, v_vector, x_fact, x_vector, y, rfl, _⟩ := h
    rfl
  · obtain ⟨Z0, v_fact, v_vector, x_fact, x_vector, y, rfl, sz, h_fact, h_vector, hF, q⟩ := h
    refine ⟨_, (pss_cons (ps_if (pt_cmpR op_eq (pe_ix ix_tup (pv 0) pe_int (fun _ _ => rfl)) pe_str (nomark _)) (pss_cons (ps_for PassesOwn.never rfl (pi_list (pe_ix ix_tup (pv 0) pe_int (fun _ _ => rfl))) (pg_tup rfl (pgs_cons (pg_name (i := 2) sc_law_holds_vector.nd rfl (.inl rfl)) (pgs_cons (pg_name (i := 3) sc_law_holds_vector.nd rfl (.inl rfl)) (pgs_cons (pg_name (i := 4) sc_law_holds_vector.nd rfl (.inl rfl)) pgs_nil)))) (pss_cons (ps_if (PW.pt (pw_or (pt_cmpR op_lt (pv 2) pe_int (nomark _)) (pw_or1 (pt_cmpR op_gt (pe_op op_add (pv 2) (pe_callB call_len_seq (by rfl) T.m_len PySem.boot_len (pa_cons (pv 3) pa_nil))) (pe_callB call_len_seq (by rfl) T.m_len PySem.boot_len (pa_cons (pv 1) pa_nil)) (nomark _))))) (pss_one (ps_ret pe_bl)) pss_nil) 
      (pss_one (ps_if (pt_cmpR op_gt (pe_call G_law_distance (hr.mono (by decide)) (by rfl) T.g_law_distance T.F_law_distance.kp T.b_law_distance .nil pass0 (pa_cons (pv 3) (pa_cons (pe_slice sl_list (pv 1) (po_some (pv 2)) (po_some (pe_op op_add (pv 2) (pe_callB call_len_seq (by rfl) T.m_len PySem.boot_len (pa_cons (pv 3) pa_nil))))) pa_nil))) (pv 4) (nomark _)) (pss_one (ps_ret pe_bl)) pss_nil)))) 
      (pss_one (ps_ret pe_bl))) pss_nil) 
      (pss_cons (ps_if (pt_cmpR op_eq (pe_ix ix_tup (pv 0) pe_int (fun _ _ => rfl)) pe_str (nomark _)) (pss_one (ps_ret (pe_chain op_le op_le (pe_ix ix_tup (pv 0) pe_int (fun _ _ => rfl)) (pe_call G_law_inner (hr.mono (by decide)) (by rfl) T.g_law_inner T.F_law_inner.kp T.b_law_inner .nil pass0 (pa_cons (pv 1) (pa_cons (pv 1) pa_nil))) (pe_ix ix_tup (pv 0) pe_int (fun _ _ => rfl))))) pss_nil) 
      (pss_cons (ps_if (pt_cmpR op_ne (pe_callB call_len_seq (by rfl) T.m_len PySem.boot_len (pa_cons (pe_ix ix_tup (pv 0) pe_int (fun _ _ => rfl)) pa_nil)) (pe_callB call_len_seq (by rfl) T.m_len PySem.boot_len (pa_cons (pv 1) pa_nil)) (nomark _)) (pss_one (ps_ret pe_bl)) pss_nil) 
      (pss_cons (ps_if (pt_cmpR op_eq (pe_ix ix_tup (pv 0) pe_int (fun _ _ => rfl)) pe_str (nomark _)) (pss_one (ps_ret (pe_cmpR op_le (pe_call G_law_differing (hr.mono (by decide)) (by rfl) T.g_law_differing T.F_law_differing.kp T.b_law_differing .nil pass0 (pa_cons (pe_ix ix_tup (pv 0) pe_int (fun _ _ => rfl)) (pa_cons (pv 1) pa_nil))) (pe_ix ix_tup (pv 0) pe_int (fun _ _ => rfl)) (nomark _)))) pss_nil) 
      (pss_cons (ps_if (pt_cmpR op_ne (pe_callB call_len_seq (by rfl) T.m_len PySem.boot_len (pa_cons (pe_ix ix_tup (pv 0) pe_int (fun _ _ => rfl)) pa_nil)) (pe_callB call_len_seq (by rfl) T.m_len PySem.boot_len (pa_cons (pv 1) pa_nil)) (nomark _)) (pss_one (ps_ret pe_bl)) pss_nil) 
      (pss_cons (ps_if (pt_cmpR op_eq (pe_ix ix_tup (pv 0) pe_int (fun _ _ => rfl)) pe_str (nomark _)) (pss_one (ps_ret (pe_cmpR op_le (pe_call G_law_distance (hr.mono (by decide)) (by rfl) T.g_law_distance T.F_law_distance.kp T.b_law_distance .nil pass0 (pa_cons (pv 1) (pa_cons (pe_ix ix_tup (pv 0) pe_int (fun _ _ => rfl)) pa_nil))) (pe_call G_law_distance (hr.mono (by decide)) (by rfl) T.g_law_distance T.F_law_distance.kp T.b_law_distance .nil pass0 (pa_cons (pv 1) (pa_cons (pe_ix ix_tup (pv 0) pe_int (fun _ _ => rfl)) pa_nil))) (nomark _)))) pss_nil) 
      (pss_cons (ps_for PassesOwn.never rfl (pi_range1 rfl T.m_range (pa_cons (pe_callB call_len_seq (by rfl) T.m_len PySem.boot_len (pa_cons (pv 1) pa_nil)) pa_nil)) (pg_name (i := 5) sc_law_holds_vector.nd rfl (.inl rfl)) (pss_one (ps_if (PW.pt (pw_or (pt_cmpR op_lt (pe_ix ix_list (pv 1) (pv 5) (fun _ _ => rfl)) (pe_ix ix_list (pe_ix ix_tup (pv 0) pe_int (fun _ _ => rfl)) (pv 5) (fun _ _ => rfl)) (nomark _)) (pw_or1 (pt_cmpR op_gt (pe_ix ix_list (pv 1) (pv 5) (fun _ _ => rfl)) (pe_ix ix_list (pe_ix ix_tup (pv 0) pe_int (fun _ _ => rfl)) (pv 5) (fun _ _ => rfl)) (nomark _))))) (pss_one (ps_ret pe_bl)) pss_nil))) 
      (pss_one (ps_ret pe_bl))))))))), ?_⟩
    have P := Pt.start0 sz
    unfold F_law_holds_vector at hF
    refine st_seq (st_if P (et_cmp (ev_eq flat_str (tg_LFact T (ev_var (τ := (y_LFact T)) rfl h_fact) ev_int) ev_str)) (fun b_645 Z1 H1 e P1 => ?_) (fun b_645 Z1 H1 e P1 => ?_))
    · replace P := P1
      have hB := ifT b_645 hF
      replace hF := hB
      clear hB
      replace h_fact := ((y_LFact T)).mono e.z h_fact
      replace h_vector := ((yList yInt)).mono e.z h_vector
      obtain ⟨a_648, h_649, hF⟩ := bind_inv hF
      obtain ⟨f_684, hL_685, hF⟩ := bind_inv hF
      refine st_seq (st_for (τ := (yP3 K yInt (yList yInt) yInt)) (fun (r_652 : List (Int × (List Int) × Int)) σ' Z' H' => ∃ w_650, ∃ (y_657 : Option V) (y_659 : Option V) (y_660 : Option V) (y_661 : Option V) (y_662 : Option V), σ' = [y_657, some v_vector, y_659, y_660, y_661, y_662] ∧ Pt [] Z0 H muN Z' H' () ∧ ((yList yInt)).r Z' v_vector x_vector ∧ forS (L_law_holds_vector_1 x_vector) r_652 w_650 = some f_684) P (ei_list (sl_LFact_0 T (ev_var (τ := (y_LFact T)) rfl h_fact) ev_int h_649)) ?_ ?_ ?_)
      · rintro Z1 H1 e P1
        replace P := P1
        replace h_fact := ((y_LFact T)).mono e.z h_fact
        replace h_vector := ((yList yInt)).mono e.z h_vector
        exact ⟨(), _, _, _, _, _, rfl, P, h_vector, hL_685⟩
      · rintro Zb_656 Hb eb x_651 r_652 σ' v_670 Z1 H1 Z2 H2 zs_655 ⟨w_650, y_657, y_659, y_660, y_661, y_662, rfl, P, k_658, hq_654⟩ e hx_671
        replace P := P.item e
        replace k_658 := ((yList yInt)).mono e.z k_658
        replace zs_655 := zs_655.trans e.z
        obtain ⟨u_672, hB_653, hq_654⟩ := bind_inv (forS_cons hq_654)
        unfold L_law_holds_vector_1 at hB_653
        obtain ⟨v_673, v_674, v_675, k_676, k_677, k_678, tg_679⟩ := tgt_p3 hx_671
        refine (tg_679 tgt_name tgt_name tgt_name) _ P.sub _ ?_
        refine st_seq (st_if P (et_or0 (et_cmp (ev_lt (ev_var (τ := yInt) rfl k_676) ev_int)) (et_cmp (ev_gt (ev_add (ev_var (τ := yInt) rfl k_676) (ev_len (fun _ _ _ h => h) (ev_li (ev_var (τ := (yList yInt)) rfl k_677)))) (ev_len (fun _ _ _ h => h) (ev_li (ev_var (τ := (yList yInt)) rfl k_658)))))) (fun b_680 Z1 H1 e P1 => ?_) (fun b_680 Z1 H1 e P1 => ?_))
        · replace P := P1
          have hB := ifT b_680 hB_653
          replace hB_653 := hB
          clear hB
          replace zs_655 := zs_655.trans e.z
          replace hB_653 := Option.some.inj hB_653
          subst hB_653
          have hz := nxt_ret hq_654
          subst hz
          have hz := ret_inv hF
          replace hz := Option.some.inj hz
          subst hz
          refine st_ret P ev_bl (fun v Z1 H1 P1 hv => ?_)
          exact q v _ _ P1.st hv
        · replace P := P1
          have hB := ifF b_680 hB_653
          replace hB_653 := hB
          clear hB
          refine st_next0 ?_
          replace k_658 := ((yList yInt)).mono e.z k_658
          replace k_677 := ((yList yInt)).mono e.z k_677
          replace zs_655 := zs_655.trans e.z
          obtain ⟨r_681, h_682, hB_653⟩ := bind_inv hB_653
          refine st_if P (et_cmp (ev_gt (ev_call (cs_law_distance T h_682) (eva_cons (ev_var (τ := (yList yInt)) rfl k_677) (eva_cons (ev_fz (en_slL (ev_li (ev_var (τ := (yList yInt)) rfl k_658)) (eo_some (ev_var (τ := yInt) rfl k_676)) (eo_some (ev_add (ev_var (τ := yInt) rfl k_676) (ev_len (fun _ _ _ h => h) (ev_li (ev_var (τ := (yList yInt)) rfl k_677))))))) eva_nil))) (ev_var (τ := yInt) rfl k_678))) (fun b_683 Z1 H1 e P1 => ?_) (fun b_683 Z1 H1 e P1 => ?_)
          · replace P := P1
            have hB := ifT b_683 hB_653
            replace hB_653 := hB
            clear hB
            replace zs_655 := zs_655.trans e.z
            replace hB_653 := Option.some.inj hB_653
            subst hB_653
            have hz := nxt_ret hq_654
            subst hz
            have hz := ret_inv hF
            replace hz := Option.some.inj hz
            subst hz
            refine st_ret P ev_bl (fun v Z1 H1 P1 hv => ?_)
            exact q v _ _ P1.st hv
          · replace P := P1
            have hB := ifF b_683 hB_653
            replace hB_653 := hB
            clear hB
            refine st_next ?_
            replace k_658 := ((yList yInt)).mono e.z k_658
            replace zs_655 := zs_655.trans e.z
            replace hB_653 := Option.some.inj hB_653
            subst hB_653
            exact ⟨_, zs_655, P.sub, (), _, _, _, _, _, rfl, P, k_658, (nxt_go hq_654)⟩
      rintro σ' Z1 H1 _ _ ⟨w_663, y_657, y_659, y_660, y_661, y_662, rfl, P, k_658, hl⟩
      have hz := forS_nil hl
      subst hz
      replace hF := go_inv hF
      refine st_nx ?_
      replace hF := Option.some.inj hF
      subst hF
      refine st_ret P ev_bl (fun v Z1 H1 P1 hv => ?_)
      exact q v _ _ P1.st hv
    · replace P := P1
      have hB := ifF b_645 hF
      replace hF := hB
      clear hB
      refine st_next0 ?_
      replace h_fact := ((y_LFact T)).mono e.z h_fact
      replace h_vector := ((yList yInt)).mono e.z h_vector
      refine st_seq (st_if P (et_cmp (ev_eq flat_str (tg_LFact T (ev_var (τ := (y_LFact T)) rfl h_fact) ev_int) ev_str)) (fun b_686 Z1 H1 e P1 => ?_) (fun b_686 Z1 H1 e P1 => ?_))
      · replace P := P1
        have hB := ifT b_686 hF
        replace hF := hB
        clear hB
        replace h_fact := ((y_LFact T)).mono e.z h_fact
        replace h_vector := ((yList yInt)).mono e.z h_vector
        obtain ⟨a_687, h_688, hF⟩ := bind_inv hF
        obtain ⟨r_689, h_690, hF⟩ := bind_inv hF
        obtain ⟨b_699, h_700, hF⟩ := bind_inv hF
        replace hF := Option.some.inj hF
        subst hF
        refine st_ret P (ev_chainB (sl_LFact_3 T (ev_var (τ := (y_LFact T)) rfl h_fact) ev_int h_688) (ev_call (cs_law_inner T h_690) (eva_cons (ev_var (τ := (yList yInt)) rfl h_vector) (eva_cons (ev_var (τ := (yList yInt)) rfl h_vector) eva_nil))) (fun _ y hy => by
              obtain ⟨a_691, h_692, hy⟩ := bind_inv hy
              have hy := Option.some.inj hy
              subst hy
              exact ⟨_, rfl, (sl_LFact_4 T (ev_var (τ := (y_LFact T)) rfl h_fact) ev_int h_692)⟩) h_700) (fun v Z1 H1 P1 hv => ?_)
        exact q v _ _ P1.st hv
      · replace P := P1
        have hB := ifF b_686 hF
        replace hF := hB
        clear hB
        refine st_next0 ?_
        replace h_fact := ((y_LFact T)).mono e.z h_fact
        replace h_vector := ((yList yInt)).mono e.z h_vector
        obtain ⟨a_703, h_704, hF⟩ := bind_inv hF
        refine st_seq (st_if P (et_cmp (ev_ne flat_int (ev_len (fun _ _ _ h => h) (ev_li (sl_LFact_1 T (ev_var (τ := (y_LFact T)) rfl h_fact) ev_int h_704))) (ev_len (fun _ _ _ h => h) (ev_li (ev_var (τ := (yList yInt)) rfl h_vector))))) (fun b_705 Z1 H1 e P1 => ?_) (fun b_705 Z1 H1 e P1 => ?_))
        · replace P := P1
          have hB := ifT b_705 hF
          replace hF := hB
          clear hB
          replace hF := Option.some.inj hF
          subst hF
          refine st_ret P ev_bl (fun v Z1 H1 P1 hv => ?_)
          exact q v _ _ P1.st hv
        · replace P := P1
          have hB := ifF b_705 hF
          replace hF := hB
          clear hB
          refine st_next0 ?_
          replace h_fact := ((y_LFact T)).mono e.z h_fact
          replace h_vector := ((yList yInt)).mono e.z h_vector
          refine st_seq (st_if P (et_cmp (ev_eq flat_str (tg_LFact T (ev_var (τ := (y_LFact T)) rfl h_fact) ev_int) ev_str)) (fun b_706 Z1 H1 e P1 => ?_) (fun b_706 Z1 H1 e P1 => ?_))
          · replace P := P1
            have hB := ifT b_706 hF
            replace hF := hB
            clear hB
            replace h_fact := ((y_LFact T)).mono e.z h_fact
            replace h_vector := ((yList yInt)).mono e.z h_vector
            obtain ⟨a_707, h_708, hF⟩ := bind_inv hF
            obtain ⟨r_709, h_710, hF⟩ := bind_inv hF
            obtain ⟨a_711, h_712, hF⟩ := bind_inv hF
            replace hF := Option.some.inj hF
            subst hF
            refine st_ret P (ev_le (ev_call (cs_law_differing T h_710) (eva_cons (sl_LFact_1 T (ev_var (τ := (y_LFact T)) rfl h_fact) ev_int h_708) (eva_cons (ev_var (τ := (yList yInt)) rfl h_vector) eva_nil))) (sl_LFact_4 T (ev_var (τ := (y_LFact T)) rfl h_fact) ev_int h_712)) (fun v Z1 H1 P1 hv => ?_)
            exact q v _ _ P1.st hv
          · replace P := P1
            have hB := ifF b_706 hF
            replace hF := hB
            clear hB
            refine st_next0 ?_
            replace h_fact := ((y_LFact T)).mono e.z h_fact
            replace h_vector := ((yList yInt)).mono e.z h_vector
            obtain ⟨a_715, h_716, hF⟩ := bind_inv hF
            refine st_seq (st_if P (et_cmp (ev_ne flat_int (ev_len (fun _ _ _ h => h) (ev_li (sl_LFact_2 T (ev_var (τ := (y_LFact T)) rfl h_fact) ev_int h_716))) (ev_len (fun _ _ _ h => h) (ev_li (ev_var (τ := (yList yInt)) rfl h_vector))))) (fun b_717 Z1 H1 e P1 => ?_) (fun b_717 Z1 H1 e P1 => ?_))
            · replace P := P1
              have hB := ifT b_717 hF
              replace hF := hB
              clear hB
              replace hF := Option.some.inj hF
              subst hF
              refine st_ret P ev_bl (fun v Z1 H1 P1 hv => ?_)
              exact q v _ _ P1.st hv
            · replace P := P1
              have hB := ifF b_717 hF
              replace hF := hB
              clear hB
              refine st_next0 ?_
              replace h_fact := ((y_LFact T)).mono e.z h_fact
              replace h_vector := ((yList yInt)).mono e.z h_vector
              refine st_seq (st_if P (et_cmp (ev_eq flat_str (tg_LFact T (ev_var (τ := (y_LFact T)) rfl h_fact) ev_int) ev_str)) (fun b_718 Z1 H1 e P1 => ?_) (fun b_718 Z1 H1 e P1 => ?_))
              · replace P := P1
                have hB := ifT b_718 hF
                replace hF := hB
                clear hB
                replace h_fact := ((y_LFact T)).mono e.z h_fact
                replace h_vector := ((yList yInt)).mono e.z h_vector
                obtain ⟨a_719, h_720, hF⟩ := bind_inv hF
                obtain ⟨r_721, h_722, hF⟩ := bind_inv hF
                obtain ⟨a_723, h_724, hF⟩ := bind_inv hF
                obtain ⟨r_725, h_726, hF⟩ := bind_inv hF
                replace hF := Option.some.inj hF
                subst hF
                refine st_ret P (ev_le (ev_call (cs_law_distance T h_722) (eva_cons (ev_var (τ := (yList yInt)) rfl h_vector) (eva_cons (sl_LFact_1 T (ev_var (τ := (y_LFact T)) rfl h_fact) ev_int h_720) eva_nil))) (ev_call (cs_law_distance T h_726) (eva_cons (ev_var (τ := (yList yInt)) rfl h_vector) (eva_cons (sl_LFact_2 T (ev_var (τ := (y_LFact T)) rfl h_fact) ev_int h_724) eva_nil)))) (fun v Z1 H1 P1 hv => ?_)
                exact q v _ _ P1.st hv
              · replace P := P1
                have hB := ifF b_718 hF
                replace hF := hB
                clear hB
                refine st_next0 ?_
                replace h_fact := ((y_LFact T)).mono e.z h_fact
                replace h_vector := ((yList yInt)).mono e.z h_vector
                obtain ⟨g_727, hF⟩ := guard_inv hF
                obtain ⟨f_766, hL_767, hF⟩ := bind_inv hF
                refine st_seq (st_for (τ := yInt) (fun (r_730 : List Int) σ' Z' H' => ∃ w_728, ∃ (y_737 : Option V) (y_738 : Option V) (y_739 : Option V) (y_740 : Option V), σ' = [some v_fact, some v_vector, y_737, y_738, y_739, y_740] ∧ Pt [] Z0 H muN Z' H' () ∧ ((y_LFact T)).r Z' v_fact x_fact ∧ ((yList yInt)).r Z' v_vector x_vector ∧ forS (L_law_holds_vector_2 x_fact x_vector) r_730 w_728 = some f_766) P (ei_rng1 (ev_len (fun _ _ _ h => h) (ev_li (ev_var (τ := (yList yInt)) rfl h_vector))) g_727) ?_ ?_ ?_)
                · rintro Z1 H1 e P1
                  replace P := P1
                  replace h_fact := ((y_LFact T)).mono e.z h_fact
                  replace h_vector := ((yList yInt)).mono e.z h_vector
                  exact ⟨(), _, _, _, _, rfl, P, h_fact, h_vector, hL_767⟩
                · rintro Zb_734 Hb eb x_729 r_730 σ' v_748 Z1 H1 Z2 H2 zs_733 ⟨w_728, y_737, y_738, y_739, y_740, rfl, P, k_735, k_736, hq_732⟩ e hx_749
                  replace P := P.item e
                  replace k_735 := ((y_LFact T)).mono e.z k_735
                  replace k_736 := ((yList yInt)).mono e.z k_736
                  replace zs_733 := zs_733.trans e.z
                  obtain ⟨u_750, hB_731, hq_732⟩ := bind_inv (forS_cons hq_732)
                  unfold L_law_holds_vector_2 at hB_731
                  refine tgt_name _ P.sub _ ?_
                  obtain ⟨i_751, h_752, hB_731⟩ := bind_inv hB_731
                  obtain ⟨a_753, h_754, hB_731⟩ := bind_inv hB_731
                  obtain ⟨i_755, h_756, hB_731⟩ := bind_inv hB_731
                  obtain ⟨b_764, h_763, hB_731⟩ := bind_inv hB_731
                  refine st_if P (et_orO (et_cmp (ev_lt (ev_ixL (ev_li (ev_var (τ := (yList yInt)) rfl k_736)) (ev_var (τ := yInt) rfl hx_749) h_752) (ev_ixL (ev_li (sl_LFact_1 T (ev_var (τ := (y_LFact T)) rfl k_735) ev_int h_754)) (ev_var (τ := yInt) rfl hx_749) h_756))) (fun _ y hy => by
                        obtain ⟨i_757, h_758, hy⟩ := bind_inv hy
                        obtain ⟨a_759, h_760, hy⟩ := bind_inv hy
                        obtain ⟨i_761, h_762, hy⟩ := bind_inv hy
                        have hy := Option.some.inj hy
                        subst hy
                        exact (et_cmp (ev_gt (ev_ixL (ev_li (ev_var (τ := (yList yInt)) rfl k_736)) (ev_var (τ := yInt) rfl hx_749) h_758) (ev_ixL (ev_li (sl_LFact_2 T (ev_var (τ := (y_LFact T)) rfl k_735) ev_int h_760)) (ev_var (τ := yInt) rfl hx_749) h_762)))) h_763) (fun b_765 Z1 H1 e P1 => ?_) (fun b_765 Z1 H1 e P1 => ?_)
                  · replace P := P1
                    have hB := ifT b_765 hB_731
                    replace hB_731 := hB
                    clear hB
                    replace zs_733 := zs_733.trans e.z
                    replace hB_731 := Option.some.inj hB_731
                    subst hB_731
                    have hz := nxt_ret hq_732
                    subst hz
                    have hz := ret_inv hF
                    replace hz := Option.some.inj hz
                    subst hz
                    refine st_ret P ev_bl (fun v Z1 H1 P1 hv => ?_)
                    exact q v _ _ P1.st hv
                  · replace P := P1
                    have hB := ifF b_765 hB_731
                    replace hB_731 := hB
                    clear hB
                    refine st_next ?_
                    replace k_735 := ((y_LFact T)).mono e.z k_735
                    replace k_736 := ((yList yInt)).mono e.z k_736
                    replace zs_733 := zs_733.trans e.z
                    replace hB_731 := Option.some.inj hB_731
                    subst hB_731
                    exact ⟨_, zs_733, P.sub, (), _, _, _, _, rfl, P, k_735, k_736, (nxt_go hq_732)⟩
                rintro σ' Z1 H1 _ _ ⟨w_741, y_737, y_738, y_739, y_740, rfl, P, k_735, k_736, hl⟩
                have hz := forS_nil hl
                subst hz
                replace hF := go_inv hF
                refine st_nx ?_
                replace hF := Option.some.inj hF
                subst hF
                refine st_ret P ev_bl (fun v Z1 H1 P1 hv => ?_)
                exact q v _ _ P1.st hv
theorem cs_law_holds_vector (T : Txt K mg) {μ : Type} {M : Mu μ} {s : μ} {E : XK} {x_fact : LFact} {x_vector : (List Int)} {y : Bool} (h : F_law_holds_vector x_fact x_vector = some y) : CallS M (sp_law_holds_vector T) E (rac (ty (y_LFact T) x_fact) (rac (ty (yList yInt) x_vector) ra0)) s (ty yBool y) s := by
  rintro Z H vs sz m ⟨v_fact, _, rfl, h_fact, ⟨v_vector, _, rfl, h_vector, rfl⟩⟩ Q q
  exact ⟨Z, v_fact, v_vector, x_fact, x_vector, y, rfl, sz, h_fact, h_vector, h, fun v Z2 H2 st hv => q v Z2 H2 st.pure (M.pure st m) hv⟩
def sp_Part___eq__ (T : Txt K mg) : Sp := fun vs H Q _ => ∃ (Z0 : Hp) (v_self : V) (v_other : V) (x_self : Part) (x_other : Part), vs = [v_self, v_other] ∧ (Same Z0 H) ∧ (((y_Part T)).r Z0 v_self x_self) ∧ (((y_Part T)).r Z0 v_other x_other) ∧ ∀ v Z' H', Step [] Z0 H Z' H' → (yBool).r Z' v (F_Part___eq__ x_self x_other) → Q v H'
set_option maxHeartbeats 4000000 in
theorem ok_Part___eq__ (T : Txt K mg) : FnOk P w K mg base CX0 1 T.f_Part___eq__ T.d_Part___eq__ ["self", "other"] (sp_Part___eq__ T) := by
  refine T.F_Part___eq__.ok sc_Part___eq__ (fun vs H Q E h => ?_) (fun cdv A outer s H vs Q E hr h => ?_)
  · obtain ⟨Z0, v_self, v_other, x_self, x_other, rfl, _⟩ := h
    rfl
  · obtain ⟨Z0, v_self, v_other, x_self, x_other, rfl, sz, h_self, h_other, q⟩ := h
    refine ⟨_, (pss_one (ps_ret (pe_and (pe_callB call_isi (by rfl) T.m_isinstance (by decide +kernel) (pa_cons (pv 1) (pa_cons (pe_glob (v := .ref T.c_Part) rfl T.mc_Part rfl) pa_nil))) (pe_and (pe_cmpR op_eq (pe_fld (pv 0) rfl) (pe_fld (pv 1) rfl) (nomark _)) (pe_and (pe_cmpR (op_eqD hr.units) (pe_fld (pv 0) rfl) (pe_fld (pv 1) rfl) (nomark _)) (pe_one (pe_cmpR op_eq (pe_fld (pv 0) rfl) (pe_fld (pv 1) rfl) (nomark _)))))))), ?_⟩
    have P := Pt.start0 sz
    generalize hF : F_Part___eq__ x_self x_other = y at q
    unfold F_Part___eq__ at hF
    subst hF
    refine st_ret P (ev_and0 (ev_isi (b := true) (fun _ _ _ h => h) (ev_var (τ := (y_Part T)) rfl h_other) (tx_Part T) (.own _) T.kit_Part_Part) (ev_and0 (ev_eq flat_int (ev_fld (fo_Part_start T) T.cl_Part T.n_Part_start (ev_var (τ := (y_Part T)) rfl h_self)) (ev_fld (fo_Part_start T) T.cl_Part T.n_Part_start (ev_var (τ := (y_Part T)) rfl h_other))) (ev_and0 (ev_eqD (eqd_tup eqd_int) (by decide) (ev_fld (fo_Part_centre T) T.cl_Part T.n_Part_centre (ev_var (τ := (y_Part T)) rfl h_self)) (ev_fld (fo_Part_centre T) T.cl_Part T.n_Part_centre (ev_var (τ := (y_Part T)) rfl h_other))) (ev_eq flat_int (ev_fld (fo_Part_radius T) T.cl_Part T.n_Part_radius (ev_var (τ := (y_Part T)) rfl h_self)) (ev_fld (fo_Part_radius T) T.cl_Part T.n_Part_radius (ev_var (τ := (y_Part T)) rfl h_other)))))) (fun v Z1 H1 P1 hv => ?_)
    exact q v _ _ P1.st hv
theorem cs_Part___eq__ (T : Txt K mg) {μ : Type} {M : Mu μ} {s : μ} {E : XK} {x_self : Part} {x_other : Part} : CallS M (sp_Part___eq__ T) E (rac (ty (y_Part T) x_self) (rac (ty (y_Part T) x_other) ra0)) s (ty yBool (F_Part___eq__ x_self x_other)) s := by
  rintro Z H vs sz m ⟨v_self, _, rfl, h_self, ⟨v_other, _, rfl, h_other, rfl⟩⟩ Q q
  exact ⟨Z, v_self, v_other, x_self, x_other, rfl, sz, h_self, h_other, fun v Z2 H2 st hv => q v Z2 H2 st.pure (M.pure st m) hv⟩
theorem ref_Part (T : Txt K mg) : ∀ Z v x, (y_Part T).r Z v x → ∃ a, v = .ref a := fun _ _ _ ⟨a, _, _, _, _, e, _⟩ => ⟨a, e⟩
theorem fn_Part {X : Cx} (T : Txt K mg) (hK : X.K = K) : FnI X (y_Part T) := fun pins σ s Z H v x y I sz ⟨a, dx, w0, w1, w2, e, h, h0, h1, h2⟩ ⟨c, dy, u0, u1, u2, e2, h2, g0, g1, g2⟩ => by
  subst hK; cases e; cases e2
  rw [h] at h2
  have e3 := Option.some.inj h2
  injection e3 with _ _ e3
  have lk : ∀ m, (ff_Part w0 w1 w2).lookup m = (ff_Part u0 u1 u2).lookup m := fun m => by rw [e3]
  have q0 := lk "start"
  rw [lk_Part_start, lk_Part_start] at q0
  cases q0
  have q1 := lk "centre"
  rw [lk_Part_centre, lk_Part_centre] at q1
  cases q1
  have q2 := lk "radius"
  rw [lk_Part_radius, lk_Part_radius] at q2
  cases q2
  cases x; cases y
  simp only [Part.mk.injEq]
  exact ⟨fn_int pins σ s Z H _ _ _ I sz h0 g0, (fn_tup fn_int) pins σ s Z H _ _ _ I sz h1 g1, fn_int pins σ s Z H _ _ _ I sz h2 g2⟩
theorem hsp_Part (T : Txt K mg) : ∀ vs H Q E, TPQ.spEqB (FTr (y_Part T)) vs H Q E → sp_Part___eq__ T vs H Q E := by
  rintro vs H Q E ⟨a, c, b, rfl, ⟨Z, x, y, sz, r1, r2, rfl⟩, k⟩
  refine ⟨Z, _, _, x, y, rfl, sz, r1, r2, fun v Z' H' st hv => ?_⟩
  have hv2 : v = V.bl (decide (x = y)) := by rw [eq_Part] at hv; exact hv
  rw [hv2]
  exact k H' fun p o h => st.h p o List.not_mem_nil h
def sp_Parts___eq__ (T : Txt K mg) : Sp := fun vs H Q _ => ∃ (Z0 : Hp) (v_self : V) (v_other : V) (x_self : Parts) (x_other : Any) (y : Bool), vs = [v_self, v_other] ∧ (Same Z0 H) ∧ (((y_Parts T)).r Z0 v_self x_self) ∧ (((y_Any T)).r Z0 v_other x_other) ∧ (F_Parts___eq__ x_self x_other = some y) ∧ ∀ v Z' H', Step [] Z0 H Z' H' → (yBool).r Z' v y → Q v H'
set_option maxHeartbeats 4000000 in
theorem ok_Parts___eq__ (T : Txt K mg) : FnOk P w K mg base CX0 3 T.f_Parts___eq__ T.d_Parts___eq__ ["self", "other"] (sp_Parts___eq__ T) := by
  have G_Part___eq__ : FnOk P w K mg base CX0 1 T.f_Part___eq__ T.d_Part___eq__ ["self", "other"] (sp_Part___eq__ T) := ok_Part___eq__ T
  refine T.F_Parts___eq__.ok sc_Parts___eq__ (fun vs H Q E h => ?_) (fun cdv A outer s H vs Q E hr h => ?_)
  · obtain ⟨Z0, v_self, v_other, x_self, x_other, y, rfl, _⟩ := h
    rfl
  · obtain ⟨Z0, v_self, v_other, x_self, x_other, y, rfl, sz, h_self, h_other, hF, q⟩ := h
    refine ⟨_, (pss_one (ps_ret (pe_and (pe_callB call_isi (by rfl) T.m_isinstance (by decide +kernel) (pa_cons (pv 1) (pa_cons (pe_glob (v := .ref T.c_Parts) rfl T.mc_Parts rfl) pa_nil))) (pe_one (pe_cmpR (TPQ.op_eqB (rcT_tup false (eqT_of (fn_Part T rfl) (ref_Part T) (rcT_obj (ins_Part T) G_Part___eq__ (hsp_Part T) T.me_Part___eq__ T.b_Part___eq__ pass0))) (hr.mono (by decide))) (pe_fld (pv 0) rfl) (pe_fld (pv 1) rfl) (nomark _)))))), ?_⟩
    have P := Pt.start0 sz
    unfold F_Parts___eq__ at hF
    obtain ⟨b_775, h_774, hF⟩ := bind_inv hF
    replace hF := Option.some.inj hF
    subst hF
    refine st_ret P (ev_andO (ev_isi (b := x_other.is_Parts) (fun _ _ _ h => h) (ev_var (τ := (y_Any T)) rfl h_other) (tx_Any T) (.own _) (kit_Any_Parts T _)) (fun _ y hy => by
          obtain ⟨u_772, h_773, hy⟩ := bind_inv hy
          have hy := Option.some.inj hy
          subst hy
          exact (ev_cast (ev_cmpO (neg := false) (ev_fld (fo_Parts_parts T) T.cl_Parts T.n_Parts_parts (ev_var (τ := (y_Parts T)) rfl h_self)) (ev_fld (fo_Parts_parts T) T.cl_Parts T.n_Parts_parts (pj_Any_parts T (ev_var (τ := (y_Any T)) rfl h_other) h_773))) bneF)) h_774) (fun v Z1 H1 P1 hv => ?_)
    exact q v _ _ P1.st hv
theorem cs_Parts___eq__ (T : Txt K mg) {μ : Type} {M : Mu μ} {s : μ} {E : XK} {x_self : Parts} {x_other : Any} {y : Bool} (h : F_Parts___eq__ x_self x_other = some y) : CallS M (sp_Parts___eq__ T) E (rac (ty (y_Parts T) x_self) (rac (ty (y_Any T) x_other) ra0)) s (ty yBool y) s := by
  rintro Z H vs sz m ⟨v_self, _, rfl, h_self, ⟨v_other, _, rfl, h_other, rfl⟩⟩ Q q
  exact ⟨Z, v_self, v_other, x_self, x_other, y, rfl, sz, h_self, h_other, h, fun v Z2 H2 st hv => q v Z2 H2 st.pure (M.pure st m) hv⟩
def sp_Cell___eq__ (T : Txt K mg) : Sp := fun vs H Q _ => ∃ (Z0 : Hp) (v_self : V) (v_other : V) (x_self : Cell) (x_other : Any) (y : Bool), vs = [v_self, v_other] ∧ (Same Z0 H) ∧ (((y_Cell T)).r Z0 v_self x_self) ∧ (((y_Any T)).r Z0 v_other x_other) ∧ (F_Cell___eq__ x_self x_other = some y) ∧ ∀ v Z' H', Step [] Z0 H Z' H' → (yBool).r Z' v y → Q v H'
set_option maxHeartbeats 4000000 in
theorem ok_Cell___eq__ (T : Txt K mg) : FnOk P w K mg base CX0 1 T.f_Cell___eq__ T.d_Cell___eq__ ["self", "other"] (sp_Cell___eq__ T) := by
  refine T.F_Cell___eq__.ok sc_Cell___eq__ (fun vs H Q E h => ?_) (fun cdv A outer s H vs Q E hr h => ?_)
  · obtain ⟨Z0, v_self, v_other, x_self, x_other, y, rfl, _⟩ := h
    rfl
  · obtain ⟨Z0, v_self, v_other, x_self, x_other, y, rfl, sz, h_self, h_other, hF, q⟩ := h
    refine ⟨_, (pss_one (ps_ret (pe_and (pe_callB call_isi (by rfl) T.m_isinstance (by decide +kernel) (pa_cons (pv 1) (pa_cons (pe_glob (v := .ref T.c_Cell) rfl T.mc_Cell rfl) pa_nil))) (pe_and (pe_cmpR (op_eqD hr.units) (pe_fld (pv 0) rfl) (pe_fld (pv 1) rfl) (nomark _)) (pe_one (pe_cmpR (op_eqD hr.units) (pe_fld (pv 0) rfl) (pe_fld (pv 1) rfl) (nomark _))))))), ?_⟩
    have P := Pt.start0 sz
    unfold F_Cell___eq__ at hF
    obtain ⟨b_789, h_788, hF⟩ := bind_inv hF
    replace hF := Option.some.inj hF
    subst hF
    refine st_ret P (ev_andO (ev_isi (b := x_other.is_Cell) (fun _ _ _ h => h) (ev_var (τ := (y_Any T)) rfl h_other) (tx_Any T) (.own _) (kit_Any_Cell T _)) (fun _ y hy => by
          obtain ⟨u_782, h_783, hy⟩ := bind_inv hy
          obtain ⟨b_787, h_786, hy⟩ := bind_inv hy
          have hy := Option.some.inj hy
          subst hy
          exact (ev_andO (ev_eqD (eqd_tup eqd_int) (by decide) (ev_fld (fo_Cell_near T) T.cl_Cell T.n_Cell_near (ev_var (τ := (y_Cell T)) rfl h_self)) (ev_fld (fo_Cell_near T) T.cl_Cell T.n_Cell_near (pj_Any_cell T (ev_var (τ := (y_Any T)) rfl h_other) h_783))) (fun _ y hy => by
                obtain ⟨u_784, h_785, hy⟩ := bind_inv hy
                have hy := Option.some.inj hy
                subst hy
                exact (ev_eqD (eqd_tup eqd_int) (by decide) (ev_fld (fo_Cell_rival T) T.cl_Cell T.n_Cell_rival (ev_var (τ := (y_Cell T)) rfl h_self)) (ev_fld (fo_Cell_rival T) T.cl_Cell T.n_Cell_rival (pj_Any_cell T (ev_var (τ := (y_Any T)) rfl h_other) h_785)))) h_786)) h_788) (fun v Z1 H1 P1 hv => ?_)
    exact q v _ _ P1.st hv
theorem cs_Cell___eq__ (T : Txt K mg) {μ : Type} {M : Mu μ} {s : μ} {E : XK} {x_self : Cell} {x_other : Any} {y : Bool} (h : F_Cell___eq__ x_self x_other = some y) : CallS M (sp_Cell___eq__ T) E (rac (ty (y_Cell T) x_self) (rac (ty (y_Any T) x_other) ra0)) s (ty yBool y) s := by
  rintro Z H vs sz m ⟨v_self, _, rfl, h_self, ⟨v_other, _, rfl, h_other, rfl⟩⟩ Q q
  exact ⟨Z, v_self, v_other, x_self, x_other, y, rfl, sz, h_self, h_other, h, fun v Z2 H2 st hv => q v Z2 H2 st.pure (M.pure st m) hv⟩
def sp_Box___eq__ (T : Txt K mg) : Sp := fun vs H Q _ => ∃ (Z0 : Hp) (v_self : V) (v_other : V) (x_self : Box) (x_other : Any) (y : Bool), vs = [v_self, v_other] ∧ (Same Z0 H) ∧ (((y_Box T)).r Z0 v_self x_self) ∧ (((y_Any T)).r Z0 v_other x_other) ∧ (F_Box___eq__ x_self x_other = some y) ∧ ∀ v Z' H', Step [] Z0 H Z' H' → (yBool).r Z' v y → Q v H'
set_option maxHeartbeats 4000000 in
theorem ok_Box___eq__ (T : Txt K mg) : FnOk P w K mg base CX0 1 T.f_Box___eq__ T.d_Box___eq__ ["self", "other"] (sp_Box___eq__ T) := by
  refine T.F_Box___eq__.ok sc_Box___eq__ (fun vs H Q E h => ?_) (fun cdv A outer s H vs Q E hr h => ?_)
  · obtain ⟨Z0, v_self, v_other, x_self, x_other, y, rfl, _⟩ := h
    rfl
  · obtain ⟨Z0, v_self, v_other, x_self, x_other, y, rfl, sz, h_self, h_other, hF, q⟩ := h
    refine ⟨_, (pss_one (ps_ret (pe_and (pe_callB call_isi (by rfl) T.m_isinstance (by decide +kernel) (pa_cons (pv 1) (pa_cons (pe_glob (v := .ref T.c_Box) rfl T.mc_Box rfl) pa_nil))) (pe_and (pe_cmpR (op_eqD hr.units) (pe_fld (pv 0) rfl) (pe_fld (pv 1) rfl) (nomark _)) (pe_one (pe_cmpR (op_eqD hr.units) (pe_fld (pv 0) rfl) (pe_fld (pv 1) rfl) (nomark _))))))), ?_⟩
    have P := Pt.start0 sz
    unfold F_Box___eq__ at hF
    obtain ⟨b_803, h_802, hF⟩ := bind_inv hF
    replace hF := Option.some.inj hF
    subst hF
    refine st_ret P (ev_andO (ev_isi (b := x_other.is_Box) (fun _ _ _ h => h) (ev_var (τ := (y_Any T)) rfl h_other) (tx_Any T) (.own _) (kit_Any_Box T _)) (fun _ y hy => by
          obtain ⟨u_796, h_797, hy⟩ := bind_inv hy
          obtain ⟨b_801, h_800, hy⟩ := bind_inv hy
          have hy := Option.some.inj hy
          subst hy
          exact (ev_andO (ev_eqD (eqd_tup eqd_int) (by decide) (ev_fld (fo_Box_low T) T.cl_Box T.n_Box_low (ev_var (τ := (y_Box T)) rfl h_self)) (ev_fld (fo_Box_low T) T.cl_Box T.n_Box_low (pj_Any_box T (ev_var (τ := (y_Any T)) rfl h_other) h_797))) (fun _ y hy => by
                obtain ⟨u_798, h_799, hy⟩ := bind_inv hy
                have hy := Option.some.inj hy
                subst hy
                exact (ev_eqD (eqd_tup eqd_int) (by decide) (ev_fld (fo_Box_high T) T.cl_Box T.n_Box_high (ev_var (τ := (y_Box T)) rfl h_self)) (ev_fld (fo_Box_high T) T.cl_Box T.n_Box_high (pj_Any_box T (ev_var (τ := (y_Any T)) rfl h_other) h_799)))) h_800)) h_802) (fun v Z1 H1 P1 hv => ?_)
    exact q v _ _ P1.st hv
theorem cs_Box___eq__ (T : Txt K mg) {μ : Type} {M : Mu μ} {s : μ} {E : XK} {x_self : Box} {x_other : Any} {y : Bool} (h : F_Box___eq__ x_self x_other = some y) : CallS M (sp_Box___eq__ T) E (rac (ty (y_Box T) x_self) (rac (ty (y_Any T) x_other) ra0)) s (ty yBool y) s := by
  rintro Z H vs sz m ⟨v_self, _, rfl, h_self, ⟨v_other, _, rfl, h_other, rfl⟩⟩ Q q
  exact ⟨Z, v_self, v_other, x_self, x_other, y, rfl, sz, h_self, h_other, h, fun v Z2 H2 st hv => q v Z2 H2 st.pure (M.pure st m) hv⟩
def sp_Norms___eq__ (T : Txt K mg) : Sp := fun vs H Q _ => ∃ (Z0 : Hp) (v_self : V) (v_other : V) (x_self : Norms) (x_other : Any) (y : Bool), vs = [v_self, v_other] ∧ (Same Z0 H) ∧ (((y_Norms T)).r Z0 v_self x_self) ∧ (((y_Any T)).r Z0 v_other x_other) ∧ (F_Norms___eq__ x_self x_other = some y) ∧ ∀ v Z' H', Step [] Z0 H Z' H' → (yBool).r Z' v y → Q v H'
set_option maxHeartbeats 4000000 in
theorem ok_Norms___eq__ (T : Txt K mg) : FnOk P w K mg base CX0 1 T.f_Norms___eq__ T.d_Norms___eq__ ["self", "other"] (sp_Norms___eq__ T) := by
  refine T.F_Norms___eq__.ok sc_Norms___eq__ (fun vs H Q E h => ?_) (fun cdv A outer s H vs Q E hr h => ?_)
  · obtain ⟨Z0, v_self, v_other, x_self, x_other, y, rfl, _⟩ := h
    rfl
  · obtain ⟨Z0, v_self, v_other, x_self, x_other, y, rfl, sz, h_self, h_other, hF, q⟩ := h
    refine ⟨_, (pss_one (ps_ret (pe_and (pe_callB call_isi (by rfl) T.m_isinstance (by decide +kernel) (pa_cons (pv 1) (pa_cons (pe_glob (v := .ref T.c_Norms) rfl T.mc_Norms rfl) pa_nil))) (pe_and (pe_cmpR op_eq (pe_fld (pv 0) rfl) (pe_fld (pv 1) rfl) (nomark _)) (pe_one (pe_cmpR op_eq (pe_fld (pv 0) rfl) (pe_fld (pv 1) rfl) (nomark _))))))), ?_⟩
    have P := Pt.start0 sz
    unfold F_Norms___eq__ at hF
    obtain ⟨b_817, h_816, hF⟩ := bind_inv hF
    replace hF := Option.some.inj hF
    subst hF
    refine st_ret P (ev_andO (ev_isi (b := x_other.is_Norms) (fun _ _ _ h => h) (ev_var (τ := (y_Any T)) rfl h_other) (tx_Any T) (.own _) (kit_Any_Norms T _)) (fun _ y hy => by
          obtain ⟨u_810, h_811, hy⟩ := bind_inv hy
          obtain ⟨b_815, h_814, hy⟩ := bind_inv hy
          have hy := Option.some.inj hy
          subst hy
          exact (ev_andO (ev_eq flat_int (ev_fld (fo_Norms_low T) T.cl_Norms T.n_Norms_low (ev_var (τ := (y_Norms T)) rfl h_self)) (ev_fld (fo_Norms_low T) T.cl_Norms T.n_Norms_low (pj_Any_norms T (ev_var (τ := (y_Any T)) rfl h_other) h_811))) (fun _ y hy => by
                obtain ⟨u_812, h_813, hy⟩ := bind_inv hy
                have hy := Option.some.inj hy
                subst hy
                exact (ev_eq flat_int (ev_fld (fo_Norms_high T) T.cl_Norms T.n_Norms_high (ev_var (τ := (y_Norms T)) rfl h_self)) (ev_fld (fo_Norms_high T) T.cl_Norms T.n_Norms_high (pj_Any_norms T (ev_var (τ := (y_Any T)) rfl h_other) h_813)))) h_814)) h_816) (fun v Z1 H1 P1 hv => ?_)
    exact q v _ _ P1.st hv
theorem cs_Norms___eq__ (T : Txt K mg) {μ : Type} {M : Mu μ} {s : μ} {E : XK} {x_self : Norms} {x_other : Any} {y : Bool} (h : F_Norms___eq__ x_self x_other = some y) : CallS M (sp_Norms___eq__ T) E (rac (ty (y_Norms T) x_self) (rac (ty (y_Any T) x_other) ra0)) s (ty yBool y) s := by
  rintro Z H vs sz m ⟨v_self, _, rfl, h_self, ⟨v_other, _, rfl, h_other, rfl⟩⟩ Q q
  exact ⟨Z, v_self, v_other, x_self, x_other, y, rfl, sz, h_self, h_other, h, fun v Z2 H2 st hv => q v Z2 H2 st.pure (M.pure st m) hv⟩
def sp_Differ___eq__ (T : Txt K mg) : Sp := fun vs H Q _ => ∃ (Z0 : Hp) (v_self : V) (v_other : V) (x_self : Differ) (x_other : Any) (y : Bool), vs = [v_self, v_other] ∧ (Same Z0 H) ∧ (((y_Differ T)).r Z0 v_self x_self) ∧ (((y_Any T)).r Z0 v_other x_other) ∧ (F_Differ___eq__ x_self x_other = some y) ∧ ∀ v Z' H', Step [] Z0 H Z' H' → (yBool).r Z' v y → Q v H'
set_option maxHeartbeats 4000000 in
theorem ok_Differ___eq__ (T : Txt K mg) : FnOk P w K mg base CX0 1 T.f_Differ___eq__ T.d_Differ___eq__ ["self", "other"] (sp_Differ___eq__ T) := by
  refine T.F_Differ___eq__.ok sc_Differ___eq__ (fun vs H Q E h => ?_) (fun cdv A outer s H vs Q E hr h => ?_)
  · obtain ⟨Z0, v_self, v_other, x_self, x_other, y, rfl, _⟩ := h
    rfl
  · obtain ⟨Z0, v_self, v_other, x_self, x_other, y, rfl, sz, h_self, h_other, hF, q⟩ := h
    refine ⟨_, (pss_one (ps_ret (pe_and (pe_callB call_isi (by rfl) T.m_isinstance (by decide +kernel) (pa_cons (pv 1) (pa_cons (pe_glob (v := .ref T.c_Differ) rfl T.mc_Differ rfl) pa_nil))) (pe_and (pe_cmpR (op_eqD hr.units) (pe_fld (pv 0) rfl) (pe_fld (pv 1) rfl) (nomark _)) (pe_one (pe_cmpR op_eq (pe_fld (pv 0) rfl) (pe_fld (pv 1) rfl) (nomark _))))))), ?_⟩
    have P := Pt.start0 sz
    unfold F_Differ___eq__ at hF
    obtain ⟨b_831, h_830, hF⟩ := bind_inv hF
    replace hF := Option.some.inj hF
    subst hF
    refine st_ret P (ev_andO (ev_isi (b := x_other.is_Differ) (fun _ _ _ h => h) (ev_var (τ := (y_Any T)) rfl h_other) (tx_Any T) (.own _) (kit_Any_Differ T _)) (fun _ y hy => by
          obtain ⟨u_824, h_825, hy⟩ := bind_inv hy
          obtain ⟨b_829, h_828, hy⟩ := bind_inv hy
          have hy := Option.some.inj hy
          subst hy
          exact (ev_andO (ev_eqD (eqd_tup eqd_int) (by decide) (ev_fld (fo_Differ_centre T) T.cl_Differ T.n_Differ_centre (ev_var (τ := (y_Differ T)) rfl h_self)) (ev_fld (fo_Differ_centre T) T.cl_Differ T.n_Differ_centre (pj_Any_differ T (ev_var (τ := (y_Any T)) rfl h_other) h_825))) (fun _ y hy => by
                obtain ⟨u_826, h_827, hy⟩ := bind_inv hy
                have hy := Option.some.inj hy
                subst hy
                exact (ev_eq flat_int (ev_fld (fo_Differ_most T) T.cl_Differ T.n_Differ_most (ev_var (τ := (y_Differ T)) rfl h_self)) (ev_fld (fo_Differ_most T) T.cl_Differ T.n_Differ_most (pj_Any_differ T (ev_var (τ := (y_Any T)) rfl h_other) h_827)))) h_828)) h_830) (fun v Z1 H1 P1 hv => ?_)
    exact q v _ _ P1.st hv
theorem cs_Differ___eq__ (T : Txt K mg) {μ : Type} {M : Mu μ} {s : μ} {E : XK} {x_self : Differ} {x_other : Any} {y : Bool} (h : F_Differ___eq__ x_self x_other = some y) : CallS M (sp_Differ___eq__ T) E (rac (ty (y_Differ T) x_self) (rac (ty (y_Any T) x_other) ra0)) s (ty yBool y) s := by
  rintro Z H vs sz m ⟨v_self, _, rfl, h_self, ⟨v_other, _, rfl, h_other, rfl⟩⟩ Q q
  exact ⟨Z, v_self, v_other, x_self, x_other, y, rfl, sz, h_self, h_other, h, fun v Z2 H2 st hv => q v Z2 H2 st.pure (M.pure st m) hv⟩
def sp_law (K : PySem.W.Frag) : Sp := fun vs H Q _ => ∃ (a : Addr) (ns : List Int), vs = [.ref a] ∧ (SqL K H a (ns.map V.int)) ∧ (ns.length ≤ 63) ∧ ∀ H', Q (.bl true) H'
set_option maxHeartbeats 8000000 in
theorem ok_law (T : Txt K mg) : FnOk P w K mg base CX0 6 T.f_law T.d_law ["script"] (sp_law K) := by
  have G_Parts___eq__ : FnOk P w K mg base CX0 3 T.f_Parts___eq__ T.d_Parts___eq__ ["self", "other"] (sp_Parts___eq__ T) := ok_Parts___eq__ T
  have G_Cell___eq__ : FnOk P w K mg base CX0 1 T.f_Cell___eq__ T.d_Cell___eq__ ["self", "other"] (sp_Cell___eq__ T) := ok_Cell___eq__ T
  have G_Box___eq__ : FnOk P w K mg base CX0 1 T.f_Box___eq__ T.d_Box___eq__ ["self", "other"] (sp_Box___eq__ T) := ok_Box___eq__ T
  have G_Norms___eq__ : FnOk P w K mg base CX0 1 T.f_Norms___eq__ T.d_Norms___eq__ ["self", "other"] (sp_Norms___eq__ T) := ok_Norms___eq__ T
  have G_Differ___eq__ : FnOk P w K mg base CX0 1 T.f_Differ___eq__ T.d_Differ___eq__ ["self", "other"] (sp_Differ___eq__ T) := ok_Differ___eq__ T
  have G_law_made : FnOk P w K mg base CX0 3 T.f_law_made T.d_law_made ["fact"] (sp_law_made T) := ok_law_made T
  have G_law_next : FnOk P w K mg base CX0 2 T.f_law_next T.d_law_next ["state", "many"] (sp_law_next T) := ok_law_next T
  have G_law_holds_vector : FnOk P w K mg base CX0 2 T.f_law_holds_vector T.d_law_holds_vector ["fact", "vector"] (sp_law_holds_vector T) := ok_law_holds_vector T
  have G_Parts_holds : FnOk P w K mg base CX0 5 T.f_Parts_holds T.d_Parts_holds ["self", "record"] (sp_Parts_holds T) := ok_Parts_holds T
  have G_Cell_holds : FnOk P w K mg base CX0 2 T.f_Cell_holds T.d_Cell_holds ["self", "record"] (sp_Cell_holds T) := ok_Cell_holds T
  have G_Box_holds : FnOk P w K mg base CX0 2 T.f_Box_holds T.d_Box_holds ["self", "record"] (sp_Box_holds T) := ok_Box_holds T
  have G_Norms_holds : FnOk P w K mg base CX0 3 T.f_Norms_holds T.d_Norms_holds ["self", "record"] (sp_Norms_holds T) := ok_Norms_holds T
  have G_Differ_holds : FnOk P w K mg base CX0 2 T.f_Differ_holds T.d_Differ_holds ["self", "record"] (sp_Differ_holds T) := ok_Differ_holds T
  have G_law_moved : FnOk P w K mg base CX0 3 T.f_law_moved T.d_law_moved ["state", "fact", "vector"] (sp_law_moved T) := ok_law_moved T
  have G_law_vector_fact : FnOk P w K mg base CX0 5 T.f_law_vector_fact T.d_law_vector_fact ["state", "size"] (sp_law_vector_fact T) := ok_law_vector_fact T
  have G_Record___init__ : FnOk P w K mg base CX0 1 T.f_Record___init__ T.d_Record___init__ ["self", "name", "vector", "fields", "words"] (sp_Record___init__ T) := ok_Record___init__ T
  have G_law_vector : FnOk P w K mg base CX0 3 T.f_law_vector T.d_law_vector ["state", "size"] (sp_law_vector T) := ok_law_vector T
  refine T.F_law.ok sc_law (fun vs H Q E h => ?_) (fun cdv A outer s H vs Q E hr h => ?_)
  · obtain ⟨a, ns, rfl, _⟩ := h
    rfl
  · obtain ⟨a, ns, rfl, hA, hlen, q⟩ := h
    refine ⟨_, (pss_cons (ps_set (i := 1) sc_law.nd rfl (.inl rfl) (pe_lst (pa_cons (pe_callTy call_list_of (by rfl) T.m_list (by decide +kernel) (pa_cons (pv 0) pa_nil)) (pa_cons pe_int (pa_cons pe_int pa_nil))))) 
      (pss_cons (ps_set (i := 2) sc_law.nd rfl (.inl rfl) (pe_call G_law_vector (hr.mono (by decide)) (by rfl) T.g_law_vector T.F_law_vector.kp T.b_law_vector .nil pass0 (pa_cons (pv 1) (pa_cons (pe_op op_add pe_int (pe_call G_law_next (hr.mono (by decide)) (by rfl) T.g_law_next T.F_law_next.kp T.b_law_next .nil pass0 (pa_cons (pv 1) (pa_cons pe_int pa_nil)))) pa_nil)))) 
      (pss_cons (ps_set (i := 3) sc_law.nd rfl (.inl rfl) (pe_make T.mk_Record G_Record___init__ (hr.mono (by decide)) (by rfl) T.mc_Record T.b_Record___init__ T.v_Record___init__ pass0 (pa_cons pe_str (pa_cons (pe_callTy call_list_of (by rfl) T.m_list (by decide +kernel) (pa_cons (pv 2) pa_nil)) pa_nil)))) 
      (pss_cons (ps_set (i := 4) sc_law.nd rfl (.inl rfl) (pe_lst pa_nil)) 
      (pss_cons (ps_for PassesOwn.never rfl (pi_range1 rfl T.m_range (pa_cons pe_int pa_nil)) (pg_name (i := 5) sc_law.nd rfl (.inl rfl)) (pss_cons (ps_set (i := 6) sc_law.nd rfl (.inl rfl) (pe_call G_law_vector_fact (hr.mono (by decide)) (by rfl) T.g_law_vector_fact T.F_law_vector_fact.kp T.b_law_vector_fact .nil pass0 (pa_cons (pv 1) (pa_cons (pe_callB call_len_seq (by rfl) T.m_len PySem.boot_len (pa_cons (pv 2) pa_nil)) pa_nil)))) 
      (pss_cut (ps_if (pt_cmpR op_gt (pe_call G_law_next (hr.mono (by decide)) (by rfl) T.g_law_next T.F_law_next.kp T.b_law_next .nil pass0 (pa_cons (pv 1) (pa_cons pe_int pa_nil))) pe_int (nomark _)) (pss_one (ps_set (i := 6) sc_law.nd rfl (.inl rfl) (pe_call G_law_moved (hr.mono (by decide)) (by rfl) T.g_law_moved T.F_law_moved.kp T.b_law_moved .nil pass0 (pa_cons (pv 1) (pa_cons (pv 6) (pa_cons (pv 2) pa_nil)))))) pss_nil) 
      (pss_cons (ps_expr (pe_bm PySem.F.plainAttrs_list PySem.F.slot_list_append PySem.F.type_list_append mt_append (pv 4) (pa_cons (pv 6) pa_nil))) 
      (pss_cons (ps_set (i := 7) sc_law.nd rfl (.inl rfl) (pe_or2 (pe_meth (pe_call G_law_made (hr.mono (by decide)) (by rfl) T.g_law_made T.F_law_made.kp T.b_law_made .nil pass0 (pa_cons (pv 6) pa_nil)) T.cl_Parts T.me_Parts_holds G_Parts_holds (hr.mono (by decide)) T.b_Parts_holds .nil pass0 (pa_cons (pv 3) pa_nil)) (pe_or2 (pe_meth (pe_call G_law_made (hr.mono (by decide)) (by rfl) T.g_law_made T.F_law_made.kp T.b_law_made .nil pass0 (pa_cons (pv 6) pa_nil)) T.cl_Cell T.me_Cell_holds G_Cell_holds (hr.mono (by decide)) T.b_Cell_holds .nil pass0 (pa_cons (pv 3) pa_nil)) (pe_or2 (pe_meth (pe_call G_law_made (hr.mono (by decide)) (by rfl) T.g_law_made T.F_law_made.kp T.b_law_made .nil pass0 (pa_cons (pv 6) pa_nil)) T.cl_Box T.me_Box_holds G_Box_holds (hr.mono (by decide)) T.b_Box_holds .nil pass0 (pa_cons (pv 3) pa_nil)) (pe_or2 (pe_meth (pe_call G_law_made (hr.mono (by decide)) (by rfl) T.g_law_made T.F_law_made.kp T.b_law_made .nil pass0 (pa_cons (pv 6) pa_nil)) T.cl_Norms T.me_Norms_holds G_Norms_holds (hr.mono (by decide)) T.b_Norms_holds .nil pass0 (pa_cons (pv 3) pa_nil)) (pe_meth (pe_call G_law_made (hr.mono (by decide)) (by rfl) T.g_law_made T.F_law_made.kp T.b_law_made .nil pass0 (pa_cons (pv 6) pa_nil)) T.cl_Differ T.me_Differ_holds G_Differ_holds (hr.mono (by decide)) T.b_Differ_holds .nil pass0 (pa_cons (pv 3) pa_nil))))))) 
      (pss_one (ps_if (PW.pt (pw_or (pt_not (pt_val (pe_callB call_isi (by rfl) T.m_isinstance (by decide +kernel) (pa_cons (pv 7) (pa_cons (pe_bltn (v := .ty "bool") (u := .type "bool") (by rfl) T.m_bool (by decide +kernel) rfl) pa_nil))))) (pw_or1 (pt_cmpR op_ne (pv 7) (pe_call G_law_holds_vector (hr.mono (by decide)) (by rfl) T.g_law_holds_vector T.F_law_holds_vector.kp T.b_law_holds_vector .nil pass0 (pa_cons (pv 6) (pa_cons (pv 2) pa_nil))) (nomark _))))) (pss_one (ps_ret pe_bl)) pss_nil))))))) 
      (pss_cons (ps_expr (pe_bm PySem.F.plainAttrs_list PySem.F.slot_list_append PySem.F.type_list_append mt_append (pv 4) (pa_cons (pe_ix ix_list (pv 4) (pe_call G_law_next (hr.mono (by decide)) (by rfl) T.g_law_next T.F_law_next.kp T.b_law_next .nil pass0 (pa_cons (pv 1) (pa_cons pe_int pa_nil))) (fun _ _ => rfl)) pa_nil))) 
      (pss_cons (ps_for PassesOwn.never rfl (pi_list (pv 4)) (pg_name (i := 8) sc_law.nd rfl (.inl rfl)) (pss_one (ps_for PassesOwn.never rfl (pi_list (pv 4)) (pg_name (i := 9) sc_law.nd rfl (.inl rfl)) (pss_one (ps_if (PW.pt (pw_or (pt_cmpR op_ne (pe_cmpR (op_or (TPN.op_ownE T.me_Parts___eq__ G_Parts___eq__ (hr.mono (by decide)) T.b_Parts___eq__ pass0) (op_or (TPN.op_ownE T.me_Cell___eq__ G_Cell___eq__ (hr.mono (by decide)) T.b_Cell___eq__ pass0) (op_or (TPN.op_ownE T.me_Box___eq__ G_Box___eq__ (hr.mono (by decide)) T.b_Box___eq__ pass0) (op_or (TPN.op_ownE T.me_Norms___eq__ G_Norms___eq__ (hr.mono (by decide)) T.b_Norms___eq__ pass0) (TPN.op_ownE T.me_Differ___eq__ G_Differ___eq__ (hr.mono (by decide)) T.b_Differ___eq__ pass0))))) (pe_call G_law_made (hr.mono (by decide)) (by rfl) T.g_law_made T.F_law_made.kp T.b_law_made .nil pass0 (pa_cons (pv 8) pa_nil)) (pe_call G_law_made (hr.mono (by decide)) (by rfl) T.g_law_made T.F_law_made.kp T.b_law_made .nil pass0 (pa_cons (pv 9) pa_nil)) (nomark _)) (pe_cmpR (op_eqD hr.units) (pv 8) (pv 9) (nomark _)) (nomark _)) (pw_or1 (pt_cmpR (op_or (TPN.op_ownE T.me_Parts___eq__ G_Parts___eq__ (hr.mono (by decide)) T.b_Parts___eq__ pass0) (op_or (TPN.op_ownE T.me_Cell___eq__ G_Cell___eq__ (hr.mono (by decide)) T.b_Cell___eq__ pass0) (op_or (TPN.op_ownE T.me_Box___eq__ G_Box___eq__ (hr.mono (by decide)) T.b_Box___eq__ pass0) (op_or (TPN.op_ownE T.me_Norms___eq__ G_Norms___eq__ (hr.mono (by decide)) T.b_Norms___eq__ pass0) (TPN.op_ownE T.me_Differ___eq__ G_Differ___eq__ (hr.mono (by decide)) T.b_Differ___eq__ pass0))))) (pe_call G_law_made (hr.mono (by decide)) (by rfl) T.g_law_made T.F_law_made.kp T.b_law_made .nil pass0 (pa_cons (pv 8) pa_nil)) (pv 9) (nomark _))))) (pss_one (ps_ret pe_bl)) pss_nil))))) 
      (pss_one (ps_ret pe_bl))))))))), ?_⟩
    have hF := law_true ns hlen
    unfold F_law at hF
    refine st_seq ?_
    refine st_draws hA hlen (fun st sc Z0 Z1 H1 P => ?_)
    obtain ⟨r_832, h_833, hF⟩ := bind_inv hF
    refine st_seq (st_set P (ev_call (cs_law_vector T h_833) (eva_cons (ev_ref rfl) (eva_cons (ev_add ev_int (ev_call (cs__law_next T (by decide +kernel)) (eva_cons (ev_ref rfl) (eva_cons ev_int eva_nil)))) eva_nil))) (fun v_834 Z1 H1 e P1 k_835 => ?_))
    refine st_nx ?_
    replace P := P1
    obtain ⟨x_record_836, h_837, hF⟩ := bind_inv hF
    replace h_837 := Option.some.inj h_837
    refine st_seq (st_set P (ev_cast (ev_makeD (is_Record___init__ T) (eva_cons ev_str (eva_cons (ev_fz (en_list_of (fun _ _ _ h => h) (ev_li (ev_var (τ := (yList yInt)) rfl k_835)))) eva_nil)) (fun Z H vs hh => by
          obtain ⟨v0, _, rfl, h0, ⟨v1, _, rfl, h1, rfl⟩⟩ := hh
          exact ⟨v0, _, rfl, h0, ⟨v1, _, rfl, h1, ⟨_, _, rfl, ⟨_, [], rfl, T.et_Record___init___fields Z, .nil, Nat.zero_le _⟩, ⟨_, _, rfl, ⟨_, [], rfl, T.et_Record___init___words Z, .nil, Nat.zero_le _⟩, rfl⟩⟩⟩⟩)) h_837) (fun v_838 Z1 H1 e P1 k_839 => ?_))
    refine st_nx ?_
    replace P := P1
    replace k_835 := ((yList yInt)).mono e.z k_835
    refine st_seq (st_setN (τ := (y_LFact T)) P (en_listD (eva_nils (τ := (y_LFact T))) (by show 0 ≤ sizeLine; decide)) (fun p_840 Z1 H1 e P1 fr_842 o_841 => ?_))
    refine st_nx ?_
    replace P := P1
    replace k_835 := ((yList yInt)).mono e.z k_835
    replace k_839 := ((y_Record T)).mono e.z k_839
    obtain ⟨f_907, hL_908, hF⟩ := bind_inv hF
    refine st_seq (st_for (τ := yInt) (fun (r_845 : List Int) σ' Z' H' => ∃ w_843, ∃ (y_850 : Option V) (y_854 : Option V) (y_855 : Option V) (y_856 : Option V) (y_857 : Option V) (y_858 : Option V), σ' = [y_850, some (.ref st), some v_834, some v_838, some (.ref p_840), y_854, y_855, y_856, y_857, y_858] ∧ Pt [] Z0 H (muD st sc) Z' H' w_843.2 ∧ ((yList yInt)).r Z' v_834 r_832.1 ∧ ((y_Record T)).r Z' v_838 x_record_836 ∧ Own [] H (muD st sc).fp Z' H' (y_LFact T) p_840 w_843.1 ∧ forS (L_law_1 r_832 x_record_836) r_845 w_843 = some f_907) P (ei_rng1 ev_int (by decide)) ?_ ?_ ?_)
    · rintro Z1 H1 e P1
      replace P := P1
      replace k_835 := ((yList yInt)).mono e.z k_835
      replace k_839 := ((y_Record T)).mono e.z k_839
      replace o_841 := o_841.next e
      exact ⟨(([] : List LFact), r_832.2), _, _, _, _, _, _, rfl, P, k_835, k_839, o_841, hL_908⟩
    · rintro Zb_849 Hb eb x_844 r_845 σ' v_869 Z1 H1 Z2 H2 zs_848 ⟨w_843, y_850, y_854, y_855, y_856, y_857, y_858, rfl, P, k_851, k_852, o_853, hq_847⟩ e hx_870
      replace P := P.item e
      replace k_851 := ((yList yInt)).mono e.z k_851
      replace k_852 := ((y_Record T)).mono e.z k_852
      replace o_853 := o_853.step e List.not_mem_nil
      replace zs_848 := zs_848.trans e.z
      obtain ⟨u_871, hB_846, hq_847⟩ := bind_inv (forS_cons hq_847)
      unfold L_law_1 at hB_846
      refine tgt_name _ P.sub _ ?_
      obtain ⟨r_872, h_873, hB_846⟩ := bind_inv hB_846
      refine st_seq (st_set P (ev_call (cs_law_vector_fact T h_873) (eva_cons (ev_ref rfl) (eva_cons (ev_len (fun _ _ _ h => h) (ev_li (ev_var (τ := (yList yInt)) rfl k_851))) eva_nil))) (fun v_874 Z1 H1 e P1 k_875 => ?_))
      refine st_nx ?_
      replace P := P1
      replace k_851 := ((yList yInt)).mono e.z k_851
      replace k_852 := ((y_Record T)).mono e.z k_852
      replace o_853 := o_853.next e
      replace zs_848 := zs_848.trans e.z
      obtain ⟨w_878, hB_877, hB_846⟩ := bind_inv hB_846
      refine ⟨fun σ' H' => ∃ Z', ∃ (y_879 : Option V) (y_883 : Option V) (v_884 : V) (y_886 : Option V) (y_887 : Option V) (y_888 : Option V), σ' = [y_879, some (.ref st), some v_834, some v_838, some (.ref p_840), y_883, some v_884, y_886, y_887, y_888] ∧ Pt [] Z0 H (muD st sc) Z' H' w_878.2 ∧ Same Zb_849 Z' ∧ ((yList yInt)).r Z' v_834 r_832.1 ∧ ((y_Record T)).r Z' v_838 x_record_836 ∧ Own [] H (muD st sc).fp Z' H' (y_LFact T) p_840 w_843.1 ∧ ((y_LFact T)).r Z' v_884 w_878.1, ?_, ?_⟩
      · refine st_if P (et_cmp (ev_gt (ev_call (cs__law_next T (by decide +kernel)) (eva_cons (ev_ref rfl) (eva_cons ev_int eva_nil))) ev_int)) (fun b_876 Z1 H1 e P1 => ?_) (fun b_876 Z1 H1 e P1 => ?_)
        · replace P := P1
          replace hB_877 := ifT b_876 hB_877
          replace k_851 := ((yList yInt)).mono e.z k_851
          replace k_852 := ((y_Record T)).mono e.z k_852
          replace o_853 := o_853.next e
          replace k_875 := ((y_LFact T)).mono e.z k_875
          replace zs_848 := zs_848.trans e.z
          obtain ⟨r_890, h_891, hB_877⟩ := bind_inv hB_877
          refine st_set P (ev_call (cs_law_moved T h_891) (eva_cons (ev_ref rfl) (eva_cons (ev_var (τ := (y_LFact T)) rfl k_875) (eva_cons (ev_var (τ := (yList yInt)) rfl k_851) eva_nil)))) (fun v_892 Z1 H1 e P1 k_893 => ?_)
          replace P := P1
          replace k_851 := ((yList yInt)).mono e.z k_851
          replace k_852 := ((y_Record T)).mono e.z k_852
          replace o_853 := o_853.next e
          replace zs_848 := zs_848.trans e.z
          replace hB_877 := Option.some.inj hB_877
          subst hB_877
          exact ⟨_, _, _, _, _, _, _, rfl, P, zs_848, k_851, k_852, o_853, k_893⟩
        · replace P := P1
          replace hB_877 := ifF b_876 hB_877
          replace k_851 := ((yList yInt)).mono e.z k_851
          replace k_852 := ((y_Record T)).mono e.z k_852
          replace o_853 := o_853.next e
          replace k_875 := ((y_LFact T)).mono e.z k_875
          replace zs_848 := zs_848.trans e.z
          replace hB_877 := Option.some.inj hB_877
          subst hB_877
          exact ⟨_, _, _, _, _, _, _, rfl, P, zs_848, k_851, k_852, o_853, k_875⟩
      rintro σ' H' ⟨Z1, y_879, y_883, v_884, y_886, y_887, y_888, rfl, P, zs_889, k_880, k_881, o_882, k_885⟩
      obtain ⟨g_894, hB_846⟩ := guard_inv hB_846
      refine st_seq (st_append P o_882 rfl (ev_var (τ := (y_LFact T)) rfl k_885) g_894 (fun Z1 H1 e P1 o_895 => ?_))
      refine st_nx ?_
      replace P := P1
      replace k_880 := ((yList yInt)).mono e.z k_880
      replace k_881 := ((y_Record T)).mono e.z k_881
      replace k_885 := ((y_LFact T)).mono e.z k_885
      replace zs_889 := zs_889.trans e.z
      obtain ⟨r_896, h_897, hB_846⟩ := bind_inv hB_846
      obtain ⟨r_898, h_899, hB_846⟩ := bind_inv hB_846
      refine st_seq (st_set P (match r_896, (ev_call (cs_law_made T h_897) (eva_cons (ev_var (τ := (y_LFact T)) rfl k_885) eva_nil)), h_899 with
          | .parts y, ha, h => (ev_orl (ev_meth (oo_Parts T (by decide +kernel)) (cs_Parts_holds T h) (ha.weak (R' := ty (y_Parts T) y) fun _ _ _ _ e => e) (eva_cons (ev_var (τ := (y_Record T)) rfl k_881) eva_nil)))
          | .cell y, ha, h => (ev_orr (ev_orl (ev_meth (oo_Cell T (by decide +kernel)) (cs_Cell_holds T h) (ha.weak (R' := ty (y_Cell T) y) fun _ _ _ _ e => e) (eva_cons (ev_var (τ := (y_Record T)) rfl k_881) eva_nil))))
          | .box y, ha, h => (ev_orr (ev_orr (ev_orl (by cases h; exact ev_meth (oo_Box T (by decide +kernel)) (cs_Box_holds T) (ha.weak (R' := ty (y_Box T) y) fun _ _ _ _ e => e) (eva_cons (ev_var (τ := (y_Record T)) rfl k_881) eva_nil)))))
          | .norms y, ha, h => (ev_orr (ev_orr (ev_orr (ev_orl (ev_meth (oo_Norms T (by decide +kernel)) (cs_Norms_holds T h) (ha.weak (R' := ty (y_Norms T) y) fun _ _ _ _ e => e) (eva_cons (ev_var (τ := (y_Record T)) rfl k_881) eva_nil))))))
          | .differ y, ha, h => (ev_orr (ev_orr (ev_orr (ev_orr (by cases h; exact ev_meth (oo_Differ T (by decide +kernel)) (cs_Differ_holds T) (ha.weak (R' := ty (y_Differ T) y) fun _ _ _ _ e => e) (eva_cons (ev_var (τ := (y_Record T)) rfl k_881) eva_nil))))))
          | .t y, _, h => nomatch h) (fun v_900 Z1 H1 e P1 k_901 => ?_))
      refine st_nx ?_
      replace P := P1
      replace k_880 := ((yList yInt)).mono e.z k_880
      replace k_881 := ((y_Record T)).mono e.z k_881
      replace o_895 := o_895.next e
      replace k_885 := ((y_LFact T)).mono e.z k_885
      replace zs_889 := zs_889.trans e.z
      obtain ⟨b_905, h_904, hB_846⟩ := bind_inv hB_846
      refine st_if P (et_orO (et_not (et_val (ev_isi (b := true) (fun _ _ _ h => h) (ev_var (τ := yBool) rfl k_901) tx_bool (.ty _) (kit_ty (by decide +kernel))))) (fun _ y hy => by
            obtain ⟨r_902, h_903, hy⟩ := bind_inv hy
            have hy := Option.some.inj hy
            subst hy
            exact (et_cmp (ev_ne flat_bool (ev_var (τ := yBool) rfl k_901) (ev_call (cs_law_holds_vector T h_903) (eva_cons (ev_var (τ := (y_LFact T)) rfl k_885) (eva_cons (ev_var (τ := (yList yInt)) rfl k_880) eva_nil)))))) h_904) (fun b_906 Z1 H1 e P1 => ?_) (fun b_906 Z1 H1 e P1 => ?_)
      · replace P := P1
        have hB := ifT b_906 hB_846
        replace hB_846 := hB
        clear hB
        replace zs_889 := zs_889.trans e.z
        replace hB_846 := Option.some.inj hB_846
        subst hB_846
        have hz := nxt_ret hq_847
        subst hz
        have hz := ret_inv hF
        have hb := Option.some.inj hz
        refine st_ret P ev_bl (fun v Z H P hv => ?_)
        have hv2 : v = V.bl _ := hv
        rw [hb] at hv2
        rw [hv2]
        exact q _
      · replace P := P1
        have hB := ifF b_906 hB_846
        replace hB_846 := hB
        clear hB
        refine st_next ?_
        replace k_880 := ((yList yInt)).mono e.z k_880
        replace k_881 := ((y_Record T)).mono e.z k_881
        replace o_895 := o_895.next e
        replace zs_889 := zs_889.trans e.z
        replace hB_846 := Option.some.inj hB_846
        subst hB_846
        exact ⟨_, zs_889, P.sub, ((w_843.1 ++ [w_878.1]), w_878.2), _, _, _, _, _, _, rfl, P, k_880, k_881, o_895, (nxt_go hq_847)⟩
    rintro σ' Z1 H1 _ _ ⟨w_859, y_850, y_854, y_855, y_856, y_857, y_858, rfl, P, k_851, k_852, o_863, hl⟩
    have hz := forS_nil hl
    subst hz
    replace hF := go_inv hF
    refine st_nx ?_
    obtain ⟨i_909, h_910, hF⟩ := bind_inv hF
    obtain ⟨g_911, hF⟩ := guard_inv hF
    refine st_seq (st_append P o_863 rfl (ev_ixL (ev_o o_863 rfl) (ev_call (cs__law_next T (by decide +kernel)) (eva_cons (ev_ref rfl) (eva_cons ev_int eva_nil))) h_910) g_911 (fun Z1 H1 e P1 o_912 => ?_))
    refine st_nx ?_
    replace P := P1
    obtain ⟨Z, P, zf, hf, of⟩ := o_912.fz P
    have k_913 := hf
    clear hf zf of
    obtain ⟨f_989, hL_990, hF⟩ := bind_inv hF
    refine st_seq (st_for (τ := (y_LFact T)) (fun (r_916 : List LFact) σ' Z' H' => ∃ w_914, ∃ (y_921 : Option V) (y_922 : Option V) (y_923 : Option V) (y_925 : Option V) (y_926 : Option V) (y_927 : Option V) (y_928 : Option V) (y_929 : Option V), σ' = [y_921, some (.ref st), y_922, y_923, some (.ref p_840), y_925, y_926, y_927, y_928, y_929] ∧ Pt [] Z0 H (muD st sc) Z' H' (nxS w_859.2 (5 : Int)) ∧ ((yList (y_LFact T))).r Z' (.ref p_840) (w_859.1 ++ [i_909]) ∧ forS (L_law_2 w_859 i_909) r_916 w_914 = some f_989) P (ei_list (ev_var (τ := (yList (y_LFact T))) rfl k_913)) ?_ ?_ ?_)
    · rintro Z1 H1 e P1
      replace P := P1
      replace k_913 := ((yList (y_LFact T))).mono e.z k_913
      exact ⟨(), _, _, _, _, _, _, _, _, rfl, P, k_913, hL_990⟩
    · rintro Zb_920 Hb eb x_915 r_916 σ' v_940 Z1 H1 Z2 H2 zs_919 ⟨w_914, y_921, y_922, y_923, y_925, y_926, y_927, y_928, y_929, rfl, P, k_924, hq_918⟩ e hx_941
      replace P := P.item e
      replace k_924 := ((yList (y_LFact T))).mono e.z k_924
      replace zs_919 := zs_919.trans e.z
      obtain ⟨u_942, hB_917, hq_918⟩ := bind_inv (forS_cons hq_918)
      unfold L_law_2 at hB_917
      refine tgt_name _ P.sub _ ?_
      obtain ⟨f_987, hL_988, hB_917⟩ := bind_inv hB_917
      refine st_for (τ := (y_LFact T)) (fun (r_945 : List LFact) σ' Z' H' => ∃ w_943, ∃ (y_950 : Option V) (y_951 : Option V) (y_952 : Option V) (y_954 : Option V) (y_955 : Option V) (y_956 : Option V) (y_958 : Option V), σ' = [y_950, some (.ref st), y_951, y_952, some (.ref p_840), y_954, y_955, y_956, some v_940, y_958] ∧ Pt [] Z0 H (muD st sc) Z' H' (nxS w_859.2 (5 : Int)) ∧ Same Zb_920 Z' ∧ ((yList (y_LFact T))).r Z' (.ref p_840) (w_859.1 ++ [i_909]) ∧ ((y_LFact T)).r Z' v_940 x_915 ∧ forS (L_law_3 x_915) r_945 w_943 = some f_987) P (ei_list (ev_var (τ := (yList (y_LFact T))) rfl k_924)) ?_ ?_ ?_
      · rintro Z1 H1 e P1
        replace P := P1
        replace k_924 := ((yList (y_LFact T))).mono e.z k_924
        replace hx_941 := ((y_LFact T)).mono e.z hx_941
        replace zs_919 := zs_919.trans e.z
        exact ⟨(), _, _, _, _, _, _, _, rfl, P, zs_919, k_924, hx_941, hL_988⟩
      · rintro Zb_949 Hb eb x_944 r_945 σ' v_971 Z1 H1 Z2 H2 zs_948 ⟨w_943, y_950, y_951, y_952, y_954, y_955, y_956, y_958, rfl, P, zs_959, k_953, k_957, hq_947⟩ e hx_972
        replace P := P.item e
        replace k_953 := ((yList (y_LFact T))).mono e.z k_953
        replace k_957 := ((y_LFact T)).mono e.z k_957
        replace zs_959 := zs_959.trans e.z
        replace zs_948 := zs_948.trans e.z
        obtain ⟨u_973, hB_946, hq_947⟩ := bind_inv (forS_cons hq_947)
        unfold L_law_3 at hB_946
        refine tgt_name _ P.sub _ ?_
        obtain ⟨r_974, h_975, hB_946⟩ := bind_inv hB_946
        obtain ⟨r_976, h_977, hB_946⟩ := bind_inv hB_946
        obtain ⟨r_978, h_979, hB_946⟩ := bind_inv hB_946
        obtain ⟨b_985, h_984, hB_946⟩ := bind_inv hB_946
        refine st_if P (et_orO (et_cmp (ev_ne flat_bool (match r_974, (ev_call (cs_law_made T h_975) (eva_cons (ev_var (τ := (y_LFact T)) rfl k_957) eva_nil)), h_979 with
            | .parts y, ha, h => (ev_cast (ev_ownR (neg := false) ri_l (ins_Parts T) (tx_Any T) (nfs_Parts_Any T _) (cs_Parts___eq__ T h) (ha.weak (R' := ty (y_Parts T) y) fun _ _ _ _ e => e) (ev_call (cs_law_made T h_977) (eva_cons (ev_var (τ := (y_LFact T)) rfl hx_972) eva_nil))) bneF)
            | .cell y, ha, h => (ev_cast (ev_ownR (neg := false) (ri_r ri_l) (ins_Cell T) (tx_Any T) (nfs_Cell_Any T _) (cs_Cell___eq__ T h) (ha.weak (R' := ty (y_Cell T) y) fun _ _ _ _ e => e) (ev_call (cs_law_made T h_977) (eva_cons (ev_var (τ := (y_LFact T)) rfl hx_972) eva_nil))) bneF)
            | .box y, ha, h => (ev_cast (ev_ownR (neg := false) (ri_r (ri_r ri_l)) (ins_Box T) (tx_Any T) (nfs_Box_Any T _) (cs_Box___eq__ T h) (ha.weak (R' := ty (y_Box T) y) fun _ _ _ _ e => e) (ev_call (cs_law_made T h_977) (eva_cons (ev_var (τ := (y_LFact T)) rfl hx_972) eva_nil))) bneF)
            | .norms y, ha, h => (ev_cast (ev_ownR (neg := false) (ri_r (ri_r (ri_r ri_l))) (ins_Norms T) (tx_Any T) (nfs_Norms_Any T _) (cs_Norms___eq__ T h) (ha.weak (R' := ty (y_Norms T) y) fun _ _ _ _ e => e) (ev_call (cs_law_made T h_977) (eva_cons (ev_var (τ := (y_LFact T)) rfl hx_972) eva_nil))) bneF)
            | .differ y, ha, h => (ev_cast (ev_ownR (neg := false) (ri_r (ri_r (ri_r (ri_r ri_self)))) (ins_Differ T) (tx_Any T) (nfs_Differ_Any T _) (cs_Differ___eq__ T h) (ha.weak (R' := ty (y_Differ T) y) fun _ _ _ _ e => e) (ev_call (cs_law_made T h_977) (eva_cons (ev_var (τ := (y_LFact T)) rfl hx_972) eva_nil))) bneF)
            | .t y, _, h => nomatch h) (ev_eqW (EqW.gd (eqw_LFact T) _) (EqW.gd (eqw_LFact T) _) (EqW.dpt (K := K) (τ := (y_LFact T)) (eqw_LFact T) (by decide) _) (EqW.dpt (K := K) (τ := (y_LFact T)) (eqw_LFact T) (by decide) _) (ev_var (τ := (y_LFact T)) rfl k_957) (ev_var (τ := (y_LFact T)) rfl hx_972)))) (fun _ y hy => by
              obtain ⟨r_980, h_981, hy⟩ := bind_inv hy
              obtain ⟨r_982, h_983, hy⟩ := bind_inv hy
              have hy := Option.some.inj hy
              subst hy
              exact (et_cmp (match r_980, (ev_call (cs_law_made T h_981) (eva_cons (ev_var (τ := (y_LFact T)) rfl k_957) eva_nil)), h_983 with
                  | .parts y, ha, h => (ev_cast (ev_ownR (neg := false) ri_l (ins_Parts T) (tx_Any T) (nfs_Parts_Any T _) (cs_Parts___eq__ T h) (ha.weak (R' := ty (y_Parts T) y) fun _ _ _ _ e => e) (ij_Any_t T (ev_var (τ := (y_LFact T)) rfl hx_972))) bneF)
                  | .cell y, ha, h => (ev_cast (ev_ownR (neg := false) (ri_r ri_l) (ins_Cell T) (tx_Any T) (nfs_Cell_Any T _) (cs_Cell___eq__ T h) (ha.weak (R' := ty (y_Cell T) y) fun _ _ _ _ e => e) (ij_Any_t T (ev_var (τ := (y_LFact T)) rfl hx_972))) bneF)
                  | .box y, ha, h => (ev_cast (ev_ownR (neg := false) (ri_r (ri_r ri_l)) (ins_Box T) (tx_Any T) (nfs_Box_Any T _) (cs_Box___eq__ T h) (ha.weak (R' := ty (y_Box T) y) fun _ _ _ _ e => e) (ij_Any_t T (ev_var (τ := (y_LFact T)) rfl hx_972))) bneF)
                  | .norms y, ha, h => (ev_cast (ev_ownR (neg := false) (ri_r (ri_r (ri_r ri_l))) (ins_Norms T) (tx_Any T) (nfs_Norms_Any T _) (cs_Norms___eq__ T h) (ha.weak (R' := ty (y_Norms T) y) fun _ _ _ _ e => e) (ij_Any_t T (ev_var (τ := (y_LFact T)) rfl hx_972))) bneF)
                  | .differ y, ha, h => (ev_cast (ev_ownR (neg := false) (ri_r (ri_r (ri_r (ri_r ri_self)))) (ins_Differ T) (tx_Any T) (nfs_Differ_Any T _) (cs_Differ___eq__ T h) (ha.weak (R' := ty (y_Differ T) y) fun _ _ _ _ e => e) (ij_Any_t T (ev_var (τ := (y_LFact T)) rfl hx_972))) bneF)
                  | .t y, _, h => nomatch h))) h_984) (fun b_986 Z1 H1 e P1 => ?_) (fun b_986 Z1 H1 e P1 => ?_)
        · replace P := P1
          have hB := ifT b_986 hB_946
          replace hB_946 := hB
          clear hB
          replace zs_959 := zs_959.trans e.z
          replace zs_948 := zs_948.trans e.z
          replace hB_946 := Option.some.inj hB_946
          subst hB_946
          have hz := nxt_ret hq_947
          subst hz
          have hz := ret_inv hB_917
          replace hz := Option.some.inj hz
          subst hz
          have hz := nxt_ret hq_918
          subst hz
          have hz := ret_inv hF
          have hb := Option.some.inj hz
          refine st_ret P ev_bl (fun v Z H P hv => ?_)
          have hv2 : v = V.bl _ := hv
          rw [hb] at hv2
          rw [hv2]
          exact q _
        · replace P := P1
          have hB := ifF b_986 hB_946
          replace hB_946 := hB
          clear hB
          refine st_next ?_
          replace k_953 := ((yList (y_LFact T))).mono e.z k_953
          replace k_957 := ((y_LFact T)).mono e.z k_957
          replace zs_959 := zs_959.trans e.z
          replace zs_948 := zs_948.trans e.z
          replace hB_946 := Option.some.inj hB_946
          subst hB_946
          exact ⟨_, zs_948, P.sub, (), _, _, _, _, _, _, _, rfl, P, zs_959, k_953, k_957, (nxt_go hq_947)⟩
      rintro σ' Z1 H1 _ _ ⟨w_960, y_950, y_951, y_952, y_954, y_955, y_956, y_958, rfl, P, zs_970, k_964, k_957, hl⟩
      have hz := forS_nil hl
      subst hz
      replace hB_917 := go_inv hB_917
      replace hB_917 := Option.some.inj hB_917
      subst hB_917
      exact ⟨_, zs_970, P.sub, (), _, _, _, _, _, _, _, _, rfl, P, k_964, (nxt_go hq_918)⟩
    rintro σ' Z1 H1 _ _ ⟨w_930, y_921, y_922, y_923, y_925, y_926, y_927, y_928, y_929, rfl, P, k_924, hl⟩
    have hz := forS_nil hl
    subst hz
    replace hF := go_inv hF
    refine st_nx ?_
    have hb := Option.some.inj hF
    refine st_ret P ev_bl (fun v Z H P hv => ?_)
    have hv2 : v = V.bl _ := hv
    rw [hb] at hv2
    rw [hv2]
    exact q _
end
set_option maxRecDepth 100000 in
set_option maxHeartbeats 0 in
theorem all_mk {l : PySem.W.OpenLaw} {w : World} {K : PySem.W.Frag} {h : Heap} {mg : Str → Option Value} {fa f0 f1 f2 f3 f4 f5 f6 f7 f8 f9 f10 f11 f12 f13 f14 f15 f16 f17 f18 f19 f20 f21 f22 f23 f24 f25 f26 f27 f28 f29 f30 f31 f32 f33 f34 f35 f36 f37 f38 f39 : Addr} (X : K.In h) (G : h.Ns mainGlobals mg) (hfa : mg "law" = some (.ref fa))
    {od0 an0 od1 an1 od2 an2 od3 an3 od4 an4 od5 an5 od6 an6 od7 an7 od8 an8 od9 an9 od10 an10 od11 an11 od12 an12 od13 an13 od14 an14 od15 an15 od16 an16 od17 an17 od18 an18 od19 an19 od20 an20 od21 an21 od22 an22 od23 an23 od24 an24 od25 an25 od26 an26 od27 an27 od28 an28 od29 an29 od30 an30 od31 an31 od32 an32 od33 an33 od34 an34 od35 an35 od36 an36 od37 an37 od38 an38 od39 an39 : Option Addr} {sl0 sl1 sl2 sl3 sl4 sl5 sl6 sl7 sl8 sl9 sl10 sl11 sl12 sl13 sl14 sl15 sl16 sl17 sl18 sl19 sl20 sl21 sl22 sl23 sl24 sl25 sl26 sl27 sl28 sl29 sl30 sl31 sl32 sl33 sl34 sl35 sl36 sl37 sl38 sl39 : Array (Option Value)} {oc0 kV0 dc0 pm0 cd0 ct0 oc1 kV1 dc1 pm1 cd1 ct1 oc2 kV2 dc2 pm2 cd2 ct2 oc3 dc3 pm3 cd3 ct3 oc4 kV4 dc4 pm4 cd4 ct4 oc5 kV5 dc5 pm5 cd5 ct5 oc6 kV6 dc6 pm6 cd6 ct6 oc7 kV7 dc7 pm7 cd7 ct7 oc8 kV8 dc8 pm8 cd8 ct8 oc9 kV9 dc9 pm9 cd9 ct9 oc10 kV10 dc10 pm10 cd10 ct10 oc11 kV11 dc11 pm11 cd11 ct11 oc12 kV12 dc12 pm12 cd12 ct12 oc13 kV13 dc13 pm13 cd13 ct13 oc14 kV14 dc14 pm14 cd14 ct14 oc15 kV15 dc15 pm15 cd15 ct15 oc16 kV16 dc16 pm16 cd16 ct16 oc17 kV17 dc17 pm17 cd17 ct17 oc18 kV18 dc18 pm18 cd18 ct18 oc19 kV19 dc19 pm19 cd19 ct19 oc20 kV20 dc20 pm20 cd20 ct20 oc21 kV21 dc21 pm21 cd21 ct21 oc22 kV22 dc22 pm22 cd22 ct22 oc23 kV23 dc23 pm23 cd23 ct23 oc24 kV24 dc24 pm24 cd24 ct24 oc25 kV25 dc25 pm25 cd25 ct25 oc26 kV26 dc26 pm26 cd26 ct26 oc27 kV27 dc27 pm27 cd27 ct27 oc28 kV28 dc28 pm28 cd28 ct28 oc29 kV29 dc29 pm29 cd29 ct29 oc30 kV30 dc30 pm30 cd30 ct30 oc31 kV31 dc31 pm31 cd31 ct31 oc32 kV32 dc32 pm32 cd32 ct32 oc33 kV33 dc33 pm33 cd33 ct33 oc34 kV34 dc34 pm34 cd34 ct34 oc35 kV35 dc35 pm35 cd35 ct35 oc36 kV36 dc36 pm36 cd36 ct36 oc37 kV37 dc37 pm37 cd37 ct37 oc38 kV38 dc38 pm38 cd38 ct38 oc39 kV39 dc39 pm39 cd39 ct39 : Value}
    {C_Record C_Part C_Parts C_Cell C_Box C_Norms C_Differ : Addr}
    {p_Part_after : Addr} {rest_Part_after : List Value}
    (a0 : PySem.W.nsIn K mainGlobals "_law_row" = some (some (.ref f0))) (l0 : K.lookup f0 = some ⟨oc0, od0, .func (PySem.W.fnOf "_law_row" "_law_row" (defArgs s_law_row) (defBody s_law_row) (defScope s_law_row) .none kV0 dc0 pm0 an0 cd0 ct0), sl0⟩) (c0 : PySem.W.codeIn K cd0 "_law_row" = true) (k0 : PySem.W.keepIn K (.ref f0) = true)
    (a1 : PySem.W.nsIn K mainGlobals "_law_next" = some (some (.ref f1))) (l1 : K.lookup f1 = some ⟨oc1, od1, .func (PySem.W.fnOf "_law_next" "_law_next" (defArgs s_law_next) (defBody s_law_next) (defScope s_law_next) .none kV1 dc1 pm1 an1 cd1 ct1), sl1⟩) (c1 : PySem.W.codeIn K cd1 "_law_next" = true) (k1 : PySem.W.keepIn K (.ref f1) = true)
    (a2 : PySem.W.nsIn K mainGlobals "_law_vector" = some (some (.ref f2))) (l2 : K.lookup f2 = some ⟨oc2, od2, .func (PySem.W.fnOf "_law_vector" "_law_vector" (defArgs s_law_vector) (defBody s_law_vector) (defScope s_law_vector) .none kV2 dc2 pm2 an2 cd2 ct2), sl2⟩) (c2 : PySem.W.codeIn K cd2 "_law_vector" = true) (k2 : PySem.W.keepIn K (.ref f2) = true)
    {DK3 : Addr} (l3 : K.lookup f3 = some ⟨oc3, od3, .func (PySem.W.fnOf "__init__" "Record.__init__" (defArgs s_Record___init__) (defBody s_Record___init__) (defScope s_Record___init__) .none (.ref DK3) dc3 pm3 an3 cd3 ct3), sl3⟩) (c3 : PySem.W.codeIn K cd3 "Record.__init__" = true) (k3 : PySem.W.keepIn K (.ref f3) = true)
    {E3_fields : Addr} {eo3_fields : Option Addr} {en3_fields : Nat} {es3_fields : Array (Option Value)} (n3_fields : PySem.W.nsIn K DK3 "fields" = some (some (.ref E3_fields))) (t3_fields : K.lookup E3_fields = some ⟨.type "tuple", eo3_fields, .seq #[] en3_fields, es3_fields⟩)
    {E3_words : Addr} {eo3_words : Option Addr} {en3_words : Nat} {es3_words : Array (Option Value)} (n3_words : PySem.W.nsIn K DK3 "words" = some (some (.ref E3_words))) (t3_words : K.lookup E3_words = some ⟨.type "tuple", eo3_words, .seq #[] en3_words, es3_words⟩)
    (a4 : PySem.W.nsIn K mainGlobals "_law_parts" = some (some (.ref f4))) (l4 : K.lookup f4 = some ⟨oc4, od4, .func (PySem.W.fnOf "_law_parts" "_law_parts" (defArgs s_law_parts) (defBody s_law_parts) (defScope s_law_parts) .none kV4 dc4 pm4 an4 cd4 ct4), sl4⟩) (c4 : PySem.W.codeIn K cd4 "_law_parts" = true) (k4 : PySem.W.keepIn K (.ref f4) = true)
    (a5 : PySem.W.nsIn K mainGlobals "_law_size" = some (some (.ref f5))) (l5 : K.lookup f5 = some ⟨oc5, od5, .func (PySem.W.fnOf "_law_size" "_law_size" (defArgs s_law_size) (defBody s_law_size) (defScope s_law_size) .none kV5 dc5 pm5 an5 cd5 ct5), sl5⟩) (c5 : PySem.W.codeIn K cd5 "_law_size" = true) (k5 : PySem.W.keepIn K (.ref f5) = true)
    (a6 : PySem.W.nsIn K mainGlobals "_law_vector_fact" = some (some (.ref f6))) (l6 : K.lookup f6 = some ⟨oc6, od6, .func (PySem.W.fnOf "_law_vector_fact" "_law_vector_fact" (defArgs s_law_vector_fact) (defBody s_law_vector_fact) (defScope s_law_vector_fact) .none kV6 dc6 pm6 an6 cd6 ct6), sl6⟩) (c6 : PySem.W.codeIn K cd6 "_law_vector_fact" = true) (k6 : PySem.W.keepIn K (.ref f6) = true)
    (a7 : PySem.W.nsIn K mainGlobals "_law_inner" = some (some (.ref f7))) (l7 : K.lookup f7 = some ⟨oc7, od7, .func (PySem.W.fnOf "_law_inner" "_law_inner" (defArgs s_law_inner) (defBody s_law_inner) (defScope s_law_inner) .none kV7 dc7 pm7 an7 cd7 ct7), sl7⟩) (c7 : PySem.W.codeIn K cd7 "_law_inner" = true) (k7 : PySem.W.keepIn K (.ref f7) = true)
    (a8 : PySem.W.nsIn K mainGlobals "_law_differing" = some (some (.ref f8))) (l8 : K.lookup f8 = some ⟨oc8, od8, .func (PySem.W.fnOf "_law_differing" "_law_differing" (defArgs s_law_differing) (defBody s_law_differing) (defScope s_law_differing) .none kV8 dc8 pm8 an8 cd8 ct8), sl8⟩) (c8 : PySem.W.codeIn K cd8 "_law_differing" = true) (k8 : PySem.W.keepIn K (.ref f8) = true)
    (a9 : PySem.W.nsIn K mainGlobals "_law_distance" = some (some (.ref f9))) (l9 : K.lookup f9 = some ⟨oc9, od9, .func (PySem.W.fnOf "_law_distance" "_law_distance" (defArgs s_law_distance) (defBody s_law_distance) (defScope s_law_distance) .none kV9 dc9 pm9 an9 cd9 ct9), sl9⟩) (c9 : PySem.W.codeIn K cd9 "_law_distance" = true) (k9 : PySem.W.keepIn K (.ref f9) = true)
    (a10 : PySem.W.nsIn K mainGlobals "_law_moved" = some (some (.ref f10))) (l10 : K.lookup f10 = some ⟨oc10, od10, .func (PySem.W.fnOf "_law_moved" "_law_moved" (defArgs s_law_moved) (defBody s_law_moved) (defScope s_law_moved) .none kV10 dc10 pm10 an10 cd10 ct10), sl10⟩) (c10 : PySem.W.codeIn K cd10 "_law_moved" = true) (k10 : PySem.W.keepIn K (.ref f10) = true)
    (l11 : K.lookup f11 = some ⟨oc11, od11, .func (PySem.W.fnOf "after" "Part.after" (defArgs s_Part_after) (defBody s_Part_after) (defScope s_Part_after) .none kV11 dc11 pm11 an11 cd11 ct11), sl11⟩) (c11 : PySem.W.codeIn K cd11 "Part.after" = true) (k11 : PySem.W.keepIn K (.ref f11) = true)
    (a12 : PySem.W.nsIn K mainGlobals "ends_within" = some (some (.ref f12))) (l12 : K.lookup f12 = some ⟨oc12, od12, .func (PySem.W.fnOf "ends_within" "ends_within" (defArgs s_ends_within) (defBody s_ends_within) (defScope s_ends_within) .none kV12 dc12 pm12 an12 cd12 ct12), sl12⟩) (c12 : PySem.W.codeIn K cd12 "ends_within" = true) (k12 : PySem.W.keepIn K (.ref f12) = true)
    (a13 : PySem.W.nsIn K mainGlobals "distance" = some (some (.ref f13))) (l13 : K.lookup f13 = some ⟨oc13, od13, .func (PySem.W.fnOf "distance" "distance" (defArgs s_distance) (defBody s_distance) (defScope s_distance) .none kV13 dc13 pm13 an13 cd13 ct13), sl13⟩) (c13 : PySem.W.codeIn K cd13 "distance" = true) (k13 : PySem.W.keepIn K (.ref f13) = true)
    (a14 : PySem.W.nsIn K mainGlobals "numbers_at" = some (some (.ref f14))) (l14 : K.lookup f14 = some ⟨oc14, od14, .func (PySem.W.fnOf "numbers_at" "numbers_at" (defArgs s_numbers_at) (defBody s_numbers_at) (defScope s_numbers_at) .none kV14 dc14 pm14 an14 cd14 ct14), sl14⟩) (c14 : PySem.W.codeIn K cd14 "numbers_at" = true) (k14 : PySem.W.keepIn K (.ref f14) = true)
    (a15 : PySem.W.nsIn K mainGlobals "is_near" = some (some (.ref f15))) (l15 : K.lookup f15 = some ⟨oc15, od15, .func (PySem.W.fnOf "is_near" "is_near" (defArgs s_is_near) (defBody s_is_near) (defScope s_is_near) .none kV15 dc15 pm15 an15 cd15 ct15), sl15⟩) (c15 : PySem.W.codeIn K cd15 "is_near" = true) (k15 : PySem.W.keepIn K (.ref f15) = true)
    (l16 : K.lookup f16 = some ⟨oc16, od16, .func (PySem.W.fnOf "holds" "Parts.holds" (defArgs s_Parts_holds) (defBody s_Parts_holds) (defScope s_Parts_holds) .none kV16 dc16 pm16 an16 cd16 ct16), sl16⟩) (c16 : PySem.W.codeIn K cd16 "Parts.holds" = true) (k16 : PySem.W.keepIn K (.ref f16) = true)
    (a17 : PySem.W.nsIn K mainGlobals "have_size" = some (some (.ref f17))) (l17 : K.lookup f17 = some ⟨oc17, od17, .func (PySem.W.fnOf "have_size" "have_size" (defArgs s_have_size) (defBody s_have_size) (defScope s_have_size) .none kV17 dc17 pm17 an17 cd17 ct17), sl17⟩) (c17 : PySem.W.codeIn K cd17 "have_size" = true) (k17 : PySem.W.keepIn K (.ref f17) = true)
    (l18 : K.lookup f18 = some ⟨oc18, od18, .func (PySem.W.fnOf "holds" "Cell.holds" (defArgs s_Cell_holds) (defBody s_Cell_holds) (defScope s_Cell_holds) .none kV18 dc18 pm18 an18 cd18 ct18), sl18⟩) (c18 : PySem.W.codeIn K cd18 "Cell.holds" = true) (k18 : PySem.W.keepIn K (.ref f18) = true)
    (l19 : K.lookup f19 = some ⟨oc19, od19, .func (PySem.W.fnOf "holds" "Box.holds" (defArgs s_Box_holds) (defBody s_Box_holds) (defScope s_Box_holds) .none kV19 dc19 pm19 an19 cd19 ct19), sl19⟩) (c19 : PySem.W.codeIn K cd19 "Box.holds" = true) (k19 : PySem.W.keepIn K (.ref f19) = true)
    (a20 : PySem.W.nsIn K mainGlobals "inner" = some (some (.ref f20))) (l20 : K.lookup f20 = some ⟨oc20, od20, .func (PySem.W.fnOf "inner" "inner" (defArgs s_inner) (defBody s_inner) (defScope s_inner) .none kV20 dc20 pm20 an20 cd20 ct20), sl20⟩) (c20 : PySem.W.codeIn K cd20 "inner" = true) (k20 : PySem.W.keepIn K (.ref f20) = true)
    (a21 : PySem.W.nsIn K mainGlobals "norm" = some (some (.ref f21))) (l21 : K.lookup f21 = some ⟨oc21, od21, .func (PySem.W.fnOf "norm" "norm" (defArgs s_norm) (defBody s_norm) (defScope s_norm) .none kV21 dc21 pm21 an21 cd21 ct21), sl21⟩) (c21 : PySem.W.codeIn K cd21 "norm" = true) (k21 : PySem.W.keepIn K (.ref f21) = true)
    (l22 : K.lookup f22 = some ⟨oc22, od22, .func (PySem.W.fnOf "holds" "Norms.holds" (defArgs s_Norms_holds) (defBody s_Norms_holds) (defScope s_Norms_holds) .none kV22 dc22 pm22 an22 cd22 ct22), sl22⟩) (c22 : PySem.W.codeIn K cd22 "Norms.holds" = true) (k22 : PySem.W.keepIn K (.ref f22) = true)
    (a23 : PySem.W.nsIn K mainGlobals "differing" = some (some (.ref f23))) (l23 : K.lookup f23 = some ⟨oc23, od23, .func (PySem.W.fnOf "differing" "differing" (defArgs s_differing) (defBody s_differing) (defScope s_differing) .none kV23 dc23 pm23 an23 cd23 ct23), sl23⟩) (c23 : PySem.W.codeIn K cd23 "differing" = true) (k23 : PySem.W.keepIn K (.ref f23) = true)
    (l24 : K.lookup f24 = some ⟨oc24, od24, .func (PySem.W.fnOf "holds" "Differ.holds" (defArgs s_Differ_holds) (defBody s_Differ_holds) (defScope s_Differ_holds) .none kV24 dc24 pm24 an24 cd24 ct24), sl24⟩) (c24 : PySem.W.codeIn K cd24 "Differ.holds" = true) (k24 : PySem.W.keepIn K (.ref f24) = true)
    (l25 : K.lookup f25 = some ⟨oc25, od25, .func (PySem.W.fnOf "__init__" "Parts.__init__" (defArgs s_Parts___init__) (defBody s_Parts___init__) (defScope s_Parts___init__) .none kV25 dc25 pm25 an25 cd25 ct25), sl25⟩) (c25 : PySem.W.codeIn K cd25 "Parts.__init__" = true) (k25 : PySem.W.keepIn K (.ref f25) = true)
    (l26 : K.lookup f26 = some ⟨oc26, od26, .func (PySem.W.fnOf "__init__" "Cell.__init__" (defArgs s_Cell___init__) (defBody s_Cell___init__) (defScope s_Cell___init__) .none kV26 dc26 pm26 an26 cd26 ct26), sl26⟩) (c26 : PySem.W.codeIn K cd26 "Cell.__init__" = true) (k26 : PySem.W.keepIn K (.ref f26) = true)
    (l27 : K.lookup f27 = some ⟨oc27, od27, .func (PySem.W.fnOf "__init__" "Box.__init__" (defArgs s_Box___init__) (defBody s_Box___init__) (defScope s_Box___init__) .none kV27 dc27 pm27 an27 cd27 ct27), sl27⟩) (c27 : PySem.W.codeIn K cd27 "Box.__init__" = true) (k27 : PySem.W.keepIn K (.ref f27) = true)
    (l28 : K.lookup f28 = some ⟨oc28, od28, .func (PySem.W.fnOf "__init__" "Norms.__init__" (defArgs s_Norms___init__) (defBody s_Norms___init__) (defScope s_Norms___init__) .none kV28 dc28 pm28 an28 cd28 ct28), sl28⟩) (c28 : PySem.W.codeIn K cd28 "Norms.__init__" = true) (k28 : PySem.W.keepIn K (.ref f28) = true)
    (l29 : K.lookup f29 = some ⟨oc29, od29, .func (PySem.W.fnOf "__init__" "Differ.__init__" (defArgs s_Differ___init__) (defBody s_Differ___init__) (defScope s_Differ___init__) .none kV29 dc29 pm29 an29 cd29 ct29), sl29⟩) (c29 : PySem.W.codeIn K cd29 "Differ.__init__" = true) (k29 : PySem.W.keepIn K (.ref f29) = true)
    (l30 : K.lookup f30 = some ⟨oc30, od30, .func (PySem.W.fnOf "__init__" "Part.__init__" (defArgs s_Part___init__) (defBody s_Part___init__) (defScope s_Part___init__) .none kV30 dc30 pm30 an30 cd30 ct30), sl30⟩) (c30 : PySem.W.codeIn K cd30 "Part.__init__" = true) (k30 : PySem.W.keepIn K (.ref f30) = true)
    (a31 : PySem.W.nsIn K mainGlobals "_law_made" = some (some (.ref f31))) (l31 : K.lookup f31 = some ⟨oc31, od31, .func (PySem.W.fnOf "_law_made" "_law_made" (defArgs s_law_made) (defBody s_law_made) (defScope s_law_made) .none kV31 dc31 pm31 an31 cd31 ct31), sl31⟩) (c31 : PySem.W.codeIn K cd31 "_law_made" = true) (k31 : PySem.W.keepIn K (.ref f31) = true)
    (a32 : PySem.W.nsIn K mainGlobals "_law_holds_vector" = some (some (.ref f32))) (l32 : K.lookup f32 = some ⟨oc32, od32, .func (PySem.W.fnOf "_law_holds_vector" "_law_holds_vector" (defArgs s_law_holds_vector) (defBody s_law_holds_vector) (defScope s_law_holds_vector) .none kV32 dc32 pm32 an32 cd32 ct32), sl32⟩) (c32 : PySem.W.codeIn K cd32 "_law_holds_vector" = true) (k32 : PySem.W.keepIn K (.ref f32) = true)
    (l33 : K.lookup f33 = some ⟨oc33, od33, .func (PySem.W.fnOf "__eq__" "Part.__eq__" (defArgs s_Part___eq__) (defBody s_Part___eq__) (defScope s_Part___eq__) .none kV33 dc33 pm33 an33 cd33 ct33), sl33⟩) (c33 : PySem.W.codeIn K cd33 "Part.__eq__" = true) (k33 : PySem.W.keepIn K (.ref f33) = true)
    (l34 : K.lookup f34 = some ⟨oc34, od34, .func (PySem.W.fnOf "__eq__" "Parts.__eq__" (defArgs s_Parts___eq__) (defBody s_Parts___eq__) (defScope s_Parts___eq__) .none kV34 dc34 pm34 an34 cd34 ct34), sl34⟩) (c34 : PySem.W.codeIn K cd34 "Parts.__eq__" = true) (k34 : PySem.W.keepIn K (.ref f34) = true)
    (l35 : K.lookup f35 = some ⟨oc35, od35, .func (PySem.W.fnOf "__eq__" "Cell.__eq__" (defArgs s_Cell___eq__) (defBody s_Cell___eq__) (defScope s_Cell___eq__) .none kV35 dc35 pm35 an35 cd35 ct35), sl35⟩) (c35 : PySem.W.codeIn K cd35 "Cell.__eq__" = true) (k35 : PySem.W.keepIn K (.ref f35) = true)
    (l36 : K.lookup f36 = some ⟨oc36, od36, .func (PySem.W.fnOf "__eq__" "Box.__eq__" (defArgs s_Box___eq__) (defBody s_Box___eq__) (defScope s_Box___eq__) .none kV36 dc36 pm36 an36 cd36 ct36), sl36⟩) (c36 : PySem.W.codeIn K cd36 "Box.__eq__" = true) (k36 : PySem.W.keepIn K (.ref f36) = true)
    (l37 : K.lookup f37 = some ⟨oc37, od37, .func (PySem.W.fnOf "__eq__" "Norms.__eq__" (defArgs s_Norms___eq__) (defBody s_Norms___eq__) (defScope s_Norms___eq__) .none kV37 dc37 pm37 an37 cd37 ct37), sl37⟩) (c37 : PySem.W.codeIn K cd37 "Norms.__eq__" = true) (k37 : PySem.W.keepIn K (.ref f37) = true)
    (l38 : K.lookup f38 = some ⟨oc38, od38, .func (PySem.W.fnOf "__eq__" "Differ.__eq__" (defArgs s_Differ___eq__) (defBody s_Differ___eq__) (defScope s_Differ___eq__) .none kV38 dc38 pm38 an38 cd38 ct38), sl38⟩) (c38 : PySem.W.codeIn K cd38 "Differ.__eq__" = true) (k38 : PySem.W.keepIn K (.ref f38) = true)
    (a39 : PySem.W.nsIn K mainGlobals "law" = some (some (.ref f39))) (l39 : K.lookup f39 = some ⟨oc39, od39, .func (PySem.W.fnOf "law" "law" (defArgs s_law) (defBody s_law) (defScope s_law) .none kV39 dc39 pm39 an39 cd39 ct39), sl39⟩) (c39 : PySem.W.codeIn K cd39 "law" = true) (k39 : PySem.W.keepIn K (.ref f39) = true)
    (aC_Record : PySem.W.nsIn K mainGlobals "Record" = some (some (.ref C_Record)))
    (pg_Record : PySem.W.plainGet K C_Record Str.empty = true)
    (hd_Record : PySem.W.hasDictIn K C_Record = true)
    (po_Record : PySem.W.plainOver K C_Record = true)
    (sa_Record : PySem.W.findIn K (.ref C_Record) "__setattr__" = some (some (.builtin "object.__setattr__")))
    (n_Record_name : PySem.W.findIn K (.ref C_Record) "name" = some none)
    (n_Record_vector : PySem.W.findIn K (.ref C_Record) "vector" = some none)
    (n_Record_fields : PySem.W.findIn K (.ref C_Record) "fields" = some none)
    (n_Record_words : PySem.W.findIn K (.ref C_Record) "words" = some none)
    (mk_Record : PySem.W.makesIn K C_Record = true)
    (in_Record : PySem.W.findIn K (.ref C_Record) "__init__" = some (some (.ref f3)))
    (if_Record : PySem.W.isFn K (.ref f3) = true)
    (kc_Record : PySem.W.keepIn K (.ref C_Record) = true)
    (aC_Part : PySem.W.nsIn K mainGlobals "Part" = some (some (.ref C_Part)))
    (pg_Part : PySem.W.plainGet K C_Part Str.empty = true)
    (hd_Part : PySem.W.hasDictIn K C_Part = true)
    (po_Part : PySem.W.plainOver K C_Part = true)
    (sa_Part : PySem.W.findIn K (.ref C_Part) "__setattr__" = some (some (.builtin "object.__setattr__")))
    (n_Part_start : PySem.W.findIn K (.ref C_Part) "start" = some none)
    (n_Part_centre : PySem.W.findIn K (.ref C_Part) "centre" = some none)
    (n_Part_radius : PySem.W.findIn K (.ref C_Part) "radius" = some none)
    (mk_Part : PySem.W.makesIn K C_Part = true)
    (in_Part : PySem.W.findIn K (.ref C_Part) "__init__" = some (some (.ref f30)))
    (if_Part : PySem.W.isFn K (.ref f30) = true)
    (kc_Part : PySem.W.keepIn K (.ref C_Part) = true)
    (fm_Part___eq__ : PySem.W.findIn K (.ref C_Part) "__eq__" = some (some (.ref f33)))
    (im_Part___eq__ : PySem.W.isFn K (.ref f33) = true)
    (fp_Part_after : PySem.W.findIn K (.ref C_Part) "after" = some (some (.ref p_Part_after)))
    (gp_Part_after : PySem.W.specialIn K (.ref p_Part_after) "__get__" = some (some (.builtin "property.__get__")))
    (tp_Part_after : PySem.W.takesIn K (.ref p_Part_after) = some true)
    (rp_Part_after : PySem.W.recIn K p_Part_after "property" = some (.ref f11 :: rest_Part_after))
    (ha_Part : PySem.W.findIn K (.ref C_Part) "__class__" = some (some (.builtin "object.__class__")))
    (hm_Part : PySem.W.mroIn K C_Part (.type "object") = some true)
    (aC_Parts : PySem.W.nsIn K mainGlobals "Parts" = some (some (.ref C_Parts)))
    (pg_Parts : PySem.W.plainGet K C_Parts Str.empty = true)
    (hd_Parts : PySem.W.hasDictIn K C_Parts = true)
    (po_Parts : PySem.W.plainOver K C_Parts = true)
    (sa_Parts : PySem.W.findIn K (.ref C_Parts) "__setattr__" = some (some (.builtin "object.__setattr__")))
    (n_Parts_parts : PySem.W.findIn K (.ref C_Parts) "parts" = some none)
    (mk_Parts : PySem.W.makesIn K C_Parts = true)
    (in_Parts : PySem.W.findIn K (.ref C_Parts) "__init__" = some (some (.ref f25)))
    (if_Parts : PySem.W.isFn K (.ref f25) = true)
    (kc_Parts : PySem.W.keepIn K (.ref C_Parts) = true)
    (fm_Parts_holds : PySem.W.findIn K (.ref C_Parts) "holds" = some (some (.ref f16)))
    (im_Parts_holds : PySem.W.isFn K (.ref f16) = true)
    (fm_Parts___eq__ : PySem.W.findIn K (.ref C_Parts) "__eq__" = some (some (.ref f34)))
    (im_Parts___eq__ : PySem.W.isFn K (.ref f34) = true)
    (ha_Parts : PySem.W.findIn K (.ref C_Parts) "__class__" = some (some (.builtin "object.__class__")))
    (hm_Parts : PySem.W.mroIn K C_Parts (.type "object") = some true)
    (aC_Cell : PySem.W.nsIn K mainGlobals "Cell" = some (some (.ref C_Cell)))
    (pg_Cell : PySem.W.plainGet K C_Cell Str.empty = true)
    (hd_Cell : PySem.W.hasDictIn K C_Cell = true)
    (po_Cell : PySem.W.plainOver K C_Cell = true)
    (sa_Cell : PySem.W.findIn K (.ref C_Cell) "__setattr__" = some (some (.builtin "object.__setattr__")))
    (n_Cell_near : PySem.W.findIn K (.ref C_Cell) "near" = some none)
    (n_Cell_rival : PySem.W.findIn K (.ref C_Cell) "rival" = some none)
    (mk_Cell : PySem.W.makesIn K C_Cell = true)
    (in_Cell : PySem.W.findIn K (.ref C_Cell) "__init__" = some (some (.ref f26)))
    (if_Cell : PySem.W.isFn K (.ref f26) = true)
    (kc_Cell : PySem.W.keepIn K (.ref C_Cell) = true)
    (fm_Cell_holds : PySem.W.findIn K (.ref C_Cell) "holds" = some (some (.ref f18)))
    (im_Cell_holds : PySem.W.isFn K (.ref f18) = true)
    (fm_Cell___eq__ : PySem.W.findIn K (.ref C_Cell) "__eq__" = some (some (.ref f35)))
    (im_Cell___eq__ : PySem.W.isFn K (.ref f35) = true)
    (ha_Cell : PySem.W.findIn K (.ref C_Cell) "__class__" = some (some (.builtin "object.__class__")))
    (hm_Cell : PySem.W.mroIn K C_Cell (.type "object") = some true)
    (aC_Box : PySem.W.nsIn K mainGlobals "Box" = some (some (.ref C_Box)))
    (pg_Box : PySem.W.plainGet K C_Box Str.empty = true)
    (hd_Box : PySem.W.hasDictIn K C_Box = true)
    (po_Box : PySem.W.plainOver K C_Box = true)
    (sa_Box : PySem.W.findIn K (.ref C_Box) "__setattr__" = some (some (.builtin "object.__setattr__")))
    (n_Box_low : PySem.W.findIn K (.ref C_Box) "low" = some none)
    (n_Box_high : PySem.W.findIn K (.ref C_Box) "high" = some none)
    (mk_Box : PySem.W.makesIn K C_Box = true)
    (in_Box : PySem.W.findIn K (.ref C_Box) "__init__" = some (some (.ref f27)))
    (if_Box : PySem.W.isFn K (.ref f27) = true)
    (kc_Box : PySem.W.keepIn K (.ref C_Box) = true)
    (fm_Box_holds : PySem.W.findIn K (.ref C_Box) "holds" = some (some (.ref f19)))
    (im_Box_holds : PySem.W.isFn K (.ref f19) = true)
    (fm_Box___eq__ : PySem.W.findIn K (.ref C_Box) "__eq__" = some (some (.ref f36)))
    (im_Box___eq__ : PySem.W.isFn K (.ref f36) = true)
    (ha_Box : PySem.W.findIn K (.ref C_Box) "__class__" = some (some (.builtin "object.__class__")))
    (hm_Box : PySem.W.mroIn K C_Box (.type "object") = some true)
    (aC_Norms : PySem.W.nsIn K mainGlobals "Norms" = some (some (.ref C_Norms)))
    (pg_Norms : PySem.W.plainGet K C_Norms Str.empty = true)
    (hd_Norms : PySem.W.hasDictIn K C_Norms = true)
    (po_Norms : PySem.W.plainOver K C_Norms = true)
    (sa_Norms : PySem.W.findIn K (.ref C_Norms) "__setattr__" = some (some (.builtin "object.__setattr__")))
    (n_Norms_low : PySem.W.findIn K (.ref C_Norms) "low" = some none)
    (n_Norms_high : PySem.W.findIn K (.ref C_Norms) "high" = some none)
    (mk_Norms : PySem.W.makesIn K C_Norms = true)
    (in_Norms : PySem.W.findIn K (.ref C_Norms) "__init__" = some (some (.ref f28)))
    (if_Norms : PySem.W.isFn K (.ref f28) = true)
    (kc_Norms : PySem.W.keepIn K (.ref C_Norms) = true)
    (fm_Norms_holds : PySem.W.findIn K (.ref C_Norms) "holds" = some (some (.ref f22)))
    (im_Norms_holds : PySem.W.isFn K (.ref f22) = true)
    (fm_Norms___eq__ : PySem.W.findIn K (.ref C_Norms) "__eq__" = some (some (.ref f37)))
    (im_Norms___eq__ : PySem.W.isFn K (.ref f37) = true)
    (ha_Norms : PySem.W.findIn K (.ref C_Norms) "__class__" = some (some (.builtin "object.__class__")))
    (hm_Norms : PySem.W.mroIn K C_Norms (.type "object") = some true)
    (aC_Differ : PySem.W.nsIn K mainGlobals "Differ" = some (some (.ref C_Differ)))
    (pg_Differ : PySem.W.plainGet K C_Differ Str.empty = true)
    (hd_Differ : PySem.W.hasDictIn K C_Differ = true)
    (po_Differ : PySem.W.plainOver K C_Differ = true)
    (sa_Differ : PySem.W.findIn K (.ref C_Differ) "__setattr__" = some (some (.builtin "object.__setattr__")))
    (n_Differ_centre : PySem.W.findIn K (.ref C_Differ) "centre" = some none)
    (n_Differ_most : PySem.W.findIn K (.ref C_Differ) "most" = some none)
    (mk_Differ : PySem.W.makesIn K C_Differ = true)
    (in_Differ : PySem.W.findIn K (.ref C_Differ) "__init__" = some (some (.ref f29)))
    (if_Differ : PySem.W.isFn K (.ref f29) = true)
    (kc_Differ : PySem.W.keepIn K (.ref C_Differ) = true)
    (fm_Differ_holds : PySem.W.findIn K (.ref C_Differ) "holds" = some (some (.ref f24)))
    (im_Differ_holds : PySem.W.isFn K (.ref f24) = true)
    (fm_Differ___eq__ : PySem.W.findIn K (.ref C_Differ) "__eq__" = some (some (.ref f38)))
    (im_Differ___eq__ : PySem.W.isFn K (.ref f38) = true)
    (ha_Differ : PySem.W.findIn K (.ref C_Differ) "__class__" = some (some (.builtin "object.__class__")))
    (hm_Differ : PySem.W.mroIn K C_Differ (.type "object") = some true)
    (ic_Parts : PySem.W.isClsIn K C_Parts = true)
    (ty_Parts : PySem.W.typeIn K (.ref C_Parts) = some (.type "type"))
    (ic_Cell : PySem.W.isClsIn K C_Cell = true)
    (ty_Cell : PySem.W.typeIn K (.ref C_Cell) = some (.type "type"))
    (ic_Box : PySem.W.isClsIn K C_Box = true)
    (ty_Box : PySem.W.typeIn K (.ref C_Box) = some (.type "type"))
    (ic_Norms : PySem.W.isClsIn K C_Norms = true)
    (ty_Norms : PySem.W.typeIn K (.ref C_Norms) = some (.type "type"))
    (ic_Differ : PySem.W.isClsIn K C_Differ = true)
    (ty_Differ : PySem.W.typeIn K (.ref C_Differ) = some (.type "type"))
    (ss_Parts : PySem.W.subIn K (.ref C_Parts) (.ref C_Parts) = some true)
    (sb_Cell_Parts : PySem.W.subIn K (.ref C_Cell) (.ref C_Parts) = some false)
    (sb_Box_Parts : PySem.W.subIn K (.ref C_Box) (.ref C_Parts) = some false)
    (sb_Norms_Parts : PySem.W.subIn K (.ref C_Norms) (.ref C_Parts) = some false)
    (sb_Differ_Parts : PySem.W.subIn K (.ref C_Differ) (.ref C_Parts) = some false)
    (sb_tuple_Parts : PySem.W.subIn K (.type "tuple") (.ref C_Parts) = some false)
    (ss_Cell : PySem.W.subIn K (.ref C_Cell) (.ref C_Cell) = some true)
    (sb_Parts_Cell : PySem.W.subIn K (.ref C_Parts) (.ref C_Cell) = some false)
    (sb_Box_Cell : PySem.W.subIn K (.ref C_Box) (.ref C_Cell) = some false)
    (sb_Norms_Cell : PySem.W.subIn K (.ref C_Norms) (.ref C_Cell) = some false)
    (sb_Differ_Cell : PySem.W.subIn K (.ref C_Differ) (.ref C_Cell) = some false)
    (sb_tuple_Cell : PySem.W.subIn K (.type "tuple") (.ref C_Cell) = some false)
    (ss_Box : PySem.W.subIn K (.ref C_Box) (.ref C_Box) = some true)
    (sb_Parts_Box : PySem.W.subIn K (.ref C_Parts) (.ref C_Box) = some false)
    (sb_Cell_Box : PySem.W.subIn K (.ref C_Cell) (.ref C_Box) = some false)
    (sb_Norms_Box : PySem.W.subIn K (.ref C_Norms) (.ref C_Box) = some false)
    (sb_Differ_Box : PySem.W.subIn K (.ref C_Differ) (.ref C_Box) = some false)
    (sb_tuple_Box : PySem.W.subIn K (.type "tuple") (.ref C_Box) = some false)
    (ss_Norms : PySem.W.subIn K (.ref C_Norms) (.ref C_Norms) = some true)
    (sb_Parts_Norms : PySem.W.subIn K (.ref C_Parts) (.ref C_Norms) = some false)
    (sb_Cell_Norms : PySem.W.subIn K (.ref C_Cell) (.ref C_Norms) = some false)
    (sb_Box_Norms : PySem.W.subIn K (.ref C_Box) (.ref C_Norms) = some false)
    (sb_Differ_Norms : PySem.W.subIn K (.ref C_Differ) (.ref C_Norms) = some false)
    (sb_tuple_Norms : PySem.W.subIn K (.type "tuple") (.ref C_Norms) = some false)
    (ss_Differ : PySem.W.subIn K (.ref C_Differ) (.ref C_Differ) = some true)
    (sb_Parts_Differ : PySem.W.subIn K (.ref C_Parts) (.ref C_Differ) = some false)
    (sb_Cell_Differ : PySem.W.subIn K (.ref C_Cell) (.ref C_Differ) = some false)
    (sb_Box_Differ : PySem.W.subIn K (.ref C_Box) (.ref C_Differ) = some false)
    (sb_Norms_Differ : PySem.W.subIn K (.ref C_Norms) (.ref C_Differ) = some false)
    (sb_tuple_Differ : PySem.W.subIn K (.type "tuple") (.ref C_Differ) = some false)
    (nf_Parts_Cell : PySem.W.subIn K (.ref C_Cell) (.ref C_Parts) = some false)
    (nf_Parts_Box : PySem.W.subIn K (.ref C_Box) (.ref C_Parts) = some false)
    (nf_Parts_Norms : PySem.W.subIn K (.ref C_Norms) (.ref C_Parts) = some false)
    (nf_Parts_Differ : PySem.W.subIn K (.ref C_Differ) (.ref C_Parts) = some false)
    (nf_Parts_tuple : PySem.W.subIn K (.type "tuple") (.ref C_Parts) = some false)
    (nf_Cell_Parts : PySem.W.subIn K (.ref C_Parts) (.ref C_Cell) = some false)
    (nf_Cell_Box : PySem.W.subIn K (.ref C_Box) (.ref C_Cell) = some false)
    (nf_Cell_Norms : PySem.W.subIn K (.ref C_Norms) (.ref C_Cell) = some false)
    (nf_Cell_Differ : PySem.W.subIn K (.ref C_Differ) (.ref C_Cell) = some false)
    (nf_Cell_tuple : PySem.W.subIn K (.type "tuple") (.ref C_Cell) = some false)
    (nf_Box_Parts : PySem.W.subIn K (.ref C_Parts) (.ref C_Box) = some false)
    (nf_Box_Cell : PySem.W.subIn K (.ref C_Cell) (.ref C_Box) = some false)
    (nf_Box_Norms : PySem.W.subIn K (.ref C_Norms) (.ref C_Box) = some false)
    (nf_Box_Differ : PySem.W.subIn K (.ref C_Differ) (.ref C_Box) = some false)
    (nf_Box_tuple : PySem.W.subIn K (.type "tuple") (.ref C_Box) = some false)
    (nf_Norms_Parts : PySem.W.subIn K (.ref C_Parts) (.ref C_Norms) = some false)
    (nf_Norms_Cell : PySem.W.subIn K (.ref C_Cell) (.ref C_Norms) = some false)
    (nf_Norms_Box : PySem.W.subIn K (.ref C_Box) (.ref C_Norms) = some false)
    (nf_Norms_Differ : PySem.W.subIn K (.ref C_Differ) (.ref C_Norms) = some false)
    (nf_Norms_tuple : PySem.W.subIn K (.type "tuple") (.ref C_Norms) = some false)
    (nf_Differ_Parts : PySem.W.subIn K (.ref C_Parts) (.ref C_Differ) = some false)
    (nf_Differ_Cell : PySem.W.subIn K (.ref C_Cell) (.ref C_Differ) = some false)
    (nf_Differ_Box : PySem.W.subIn K (.ref C_Box) (.ref C_Differ) = some false)
    (nf_Differ_Norms : PySem.W.subIn K (.ref C_Norms) (.ref C_Differ) = some false)
    (nf_Differ_tuple : PySem.W.subIn K (.type "tuple") (.ref C_Differ) = some false)
    (hn0 : PySem.W.specialIn K (.builtin "object.__class__") "__get__" = some (some (.builtin "getset_descriptor.__get__")))
    (ht0 : PySem.W.takesIn K (.builtin "object.__class__") = some true)
    (z_all : PySem.W.nsIn K mainGlobals "all" = some none)
    (z_bool : PySem.W.nsIn K mainGlobals "bool" = some none)
    (z_int : PySem.W.nsIn K mainGlobals "int" = some none)
    (z_isinstance : PySem.W.nsIn K mainGlobals "isinstance" = some none)
    (z_len : PySem.W.nsIn K mainGlobals "len" = some none)
    (z_list : PySem.W.nsIn K mainGlobals "list" = some none)
    (z_max : PySem.W.nsIn K mainGlobals "max" = some none)
    (z_range : PySem.W.nsIn K mainGlobals "range" = some none)
    (z_sum : PySem.W.nsIn K mainGlobals "sum" = some none)
    (z_tuple : PySem.W.nsIn K mainGlobals "tuple" = some none)
    (z_zip : PySem.W.nsIn K mainGlobals "zip" = some none)
    : ∃ fd : FuncData, (∀ (s : Shared) (v : Value), BindsTo s fd ⟨[v], []⟩ [("script", v)]) ∧ ∀ base : Heap, K.In base → base.Ns mainGlobals mg → FnOk l.prog w K mg base CX0 6 fa fd ["script"] (sp_law K) := by
  have e := hfa.symm.trans (PySem.W.mg_of X G a39)
  cases e
  have F0 := fun_mk (st := s_law_row) l0 c0 k0
  have b0 := F0.binds (ps := ["script", "k"]) fun _ _ _ _ _ _ us hl => match us, hl with | [_, _], _ => rfl
  have F1 := fun_mk (st := s_law_next) l1 c1 k1
  have b1 := F1.binds (ps := ["state", "many"]) fun _ _ _ _ _ _ us hl => match us, hl with | [_, _], _ => rfl
  have F2 := fun_mk (st := s_law_vector) l2 c2 k2
  have b2 := F2.binds (ps := ["state", "size"]) fun _ _ _ _ _ _ us hl => match us, hl with | [_, _], _ => rfl
  have F3 : FunD K "__init__" "Record.__init__" (defArgs s_Record___init__) (defBody s_Record___init__) (defScope s_Record___init__) [] [("fields", .ref E3_fields), ("words", .ref E3_words)] f3 _ := ⟨⟨_, _, _, _, _, _, _, _, _, _, rfl, l3, c3, .inl ⟨rfl, rfl⟩, .inr ⟨DK3, rfl, fun q hq => by
    simp only [List.mem_cons, List.not_mem_nil, or_false] at hq
    rcases hq with rfl | rfl
    · exact ⟨_, n3_fields, rfl⟩
    · exact ⟨_, n3_words, rfl⟩⟩⟩, k3⟩
  obtain ⟨mv3, kb3⟩ := F3.kbinds0 (ps := ["self", "name", "vector", "fields", "words"]) 3 ["fields", "words"] [] (fun us mv ws => us ++ ws) (by intro h; cases h) (fun q h => by cases h) (fun r1 _ r3 => r1.append r3) (fun D doc pm an cdv ct us mv ws l1 l2 l3 => match us, mv, ws, l1, l2, l3 with | [_, _, _], [], [_, _], _, _, _ => rfl)
  obtain ⟨ds3, v3, b3⟩ := F3.binds0 (ps := ["self", "name", "vector", "fields", "words"]) 3 (by intro h; cases h) rfl (fun D doc pm an cdv ct us ks l1 l2 => match us, ks, l1, l2 with | [_, _, _], [_, _], _, _ => ⟨_, _, _, _, _, _, rfl, rfl, ⟨_, _, _, _, _, _, rfl, rfl, rfl⟩⟩)
  have F4 := fun_mk (st := s_law_parts) l4 c4 k4
  have b4 := F4.binds (ps := ["state", "size"]) fun _ _ _ _ _ _ us hl => match us, hl with | [_, _], _ => rfl
  have F5 := fun_mk (st := s_law_size) l5 c5 k5
  have b5 := F5.binds (ps := ["state", "size"]) fun _ _ _ _ _ _ us hl => match us, hl with | [_, _], _ => rfl
  have F6 := fun_mk (st := s_law_vector_fact) l6 c6 k6
  have b6 := F6.binds (ps := ["state", "size"]) fun _ _ _ _ _ _ us hl => match us, hl with | [_, _], _ => rfl
  have F7 := fun_mk (st := s_law_inner) l7 c7 k7
  have b7 := F7.binds (ps := ["a", "b"]) fun _ _ _ _ _ _ us hl => match us, hl with | [_, _], _ => rfl
  have F8 := fun_mk (st := s_law_differing) l8 c8 k8
  have b8 := F8.binds (ps := ["a", "b"]) fun _ _ _ _ _ _ us hl => match us, hl with | [_, _], _ => rfl
  have F9 := fun_mk (st := s_law_distance) l9 c9 k9
  have b9 := F9.binds (ps := ["a", "b"]) fun _ _ _ _ _ _ us hl => match us, hl with | [_, _], _ => rfl
  have F10 := fun_mk (st := s_law_moved) l10 c10 k10
  have b10 := F10.binds (ps := ["state", "fact", "vector"]) fun _ _ _ _ _ _ us hl => match us, hl with | [_, _, _], _ => rfl
  have F11 := fun_mk (st := s_Part_after) l11 c11 k11
  have b11 := F11.binds (ps := ["self"]) fun _ _ _ _ _ _ us hl => match us, hl with | [_], _ => rfl
  have F12 := fun_mk (st := s_ends_within) l12 c12 k12
  have b12 := F12.binds (ps := ["part", "vector"]) fun _ _ _ _ _ _ us hl => match us, hl with | [_, _], _ => rfl
  have F13 := fun_mk (st := s_distance) l13 c13 k13
  have b13 := F13.binds (ps := ["a", "b"]) fun _ _ _ _ _ _ us hl => match us, hl with | [_, _], _ => rfl
  have F14 := fun_mk (st := s_numbers_at) l14 c14 k14
  have b14 := F14.binds (ps := ["part", "vector"]) fun _ _ _ _ _ _ us hl => match us, hl with | [_, _], _ => rfl
  have F15 := fun_mk (st := s_is_near) l15 c15 k15
  have b15 := F15.binds (ps := ["part", "vector"]) fun _ _ _ _ _ _ us hl => match us, hl with | [_, _], _ => rfl
  have F16 := fun_mk (st := s_Parts_holds) l16 c16 k16
  have b16 := F16.binds (ps := ["self", "record"]) fun _ _ _ _ _ _ us hl => match us, hl with | [_, _], _ => rfl
  have F17 := fun_mk (st := s_have_size) l17 c17 k17
  have b17 := F17.binds (ps := ["one", "other", "size"]) fun _ _ _ _ _ _ us hl => match us, hl with | [_, _, _], _ => rfl
  have F18 := fun_mk (st := s_Cell_holds) l18 c18 k18
  have b18 := F18.binds (ps := ["self", "record"]) fun _ _ _ _ _ _ us hl => match us, hl with | [_, _], _ => rfl
  have F19 := fun_mk (st := s_Box_holds) l19 c19 k19
  have b19 := F19.binds (ps := ["self", "record"]) fun _ _ _ _ _ _ us hl => match us, hl with | [_, _], _ => rfl
  have F20 := fun_mk (st := s_inner) l20 c20 k20
  have b20 := F20.binds (ps := ["a", "b"]) fun _ _ _ _ _ _ us hl => match us, hl with | [_, _], _ => rfl
  have F21 := fun_mk (st := s_norm) l21 c21 k21
  have b21 := F21.binds (ps := ["a"]) fun _ _ _ _ _ _ us hl => match us, hl with | [_], _ => rfl
  have F22 := fun_mk (st := s_Norms_holds) l22 c22 k22
  have b22 := F22.binds (ps := ["self", "record"]) fun _ _ _ _ _ _ us hl => match us, hl with | [_, _], _ => rfl
  have F23 := fun_mk (st := s_differing) l23 c23 k23
  have b23 := F23.binds (ps := ["a", "b"]) fun _ _ _ _ _ _ us hl => match us, hl with | [_, _], _ => rfl
  have F24 := fun_mk (st := s_Differ_holds) l24 c24 k24
  have b24 := F24.binds (ps := ["self", "record"]) fun _ _ _ _ _ _ us hl => match us, hl with | [_, _], _ => rfl
  have F25 := fun_mk (st := s_Parts___init__) l25 c25 k25
  have b25 := F25.binds (ps := ["self", "parts"]) fun _ _ _ _ _ _ us hl => match us, hl with | [_, _], _ => rfl
  have F26 := fun_mk (st := s_Cell___init__) l26 c26 k26
  have b26 := F26.binds (ps := ["self", "near", "rival"]) fun _ _ _ _ _ _ us hl => match us, hl with | [_, _, _], _ => rfl
  have F27 := fun_mk (st := s_Box___init__) l27 c27 k27
  have b27 := F27.binds (ps := ["self", "low", "high"]) fun _ _ _ _ _ _ us hl => match us, hl with | [_, _, _], _ => rfl
  have F28 := fun_mk (st := s_Norms___init__) l28 c28 k28
  have b28 := F28.binds (ps := ["self", "low", "high"]) fun _ _ _ _ _ _ us hl => match us, hl with | [_, _, _], _ => rfl
  have F29 := fun_mk (st := s_Differ___init__) l29 c29 k29
  have b29 := F29.binds (ps := ["self", "centre", "most"]) fun _ _ _ _ _ _ us hl => match us, hl with | [_, _, _], _ => rfl
  have F30 := fun_mk (st := s_Part___init__) l30 c30 k30
  have b30 := F30.binds (ps := ["self", "start", "centre", "radius"]) fun _ _ _ _ _ _ us hl => match us, hl with | [_, _, _, _], _ => rfl
  have F31 := fun_mk (st := s_law_made) l31 c31 k31
  have b31 := F31.binds (ps := ["fact"]) fun _ _ _ _ _ _ us hl => match us, hl with | [_], _ => rfl
  have F32 := fun_mk (st := s_law_holds_vector) l32 c32 k32
  have b32 := F32.binds (ps := ["fact", "vector"]) fun _ _ _ _ _ _ us hl => match us, hl with | [_, _], _ => rfl
  have F33 := fun_mk (st := s_Part___eq__) l33 c33 k33
  have b33 := F33.binds (ps := ["self", "other"]) fun _ _ _ _ _ _ us hl => match us, hl with | [_, _], _ => rfl
  have F34 := fun_mk (st := s_Parts___eq__) l34 c34 k34
  have b34 := F34.binds (ps := ["self", "other"]) fun _ _ _ _ _ _ us hl => match us, hl with | [_, _], _ => rfl
  have F35 := fun_mk (st := s_Cell___eq__) l35 c35 k35
  have b35 := F35.binds (ps := ["self", "other"]) fun _ _ _ _ _ _ us hl => match us, hl with | [_, _], _ => rfl
  have F36 := fun_mk (st := s_Box___eq__) l36 c36 k36
  have b36 := F36.binds (ps := ["self", "other"]) fun _ _ _ _ _ _ us hl => match us, hl with | [_, _], _ => rfl
  have F37 := fun_mk (st := s_Norms___eq__) l37 c37 k37
  have b37 := F37.binds (ps := ["self", "other"]) fun _ _ _ _ _ _ us hl => match us, hl with | [_, _], _ => rfl
  have F38 := fun_mk (st := s_Differ___eq__) l38 c38 k38
  have b38 := F38.binds (ps := ["self", "other"]) fun _ _ _ _ _ _ us hl => match us, hl with | [_, _], _ => rfl
  have F39 := fun_mk (st := s_law) l39 c39 k39
  have b39 := F39.binds (ps := ["script"]) fun _ _ _ _ _ _ us hl => match us, hl with | [_], _ => rfl
  let T : Txt K mg := ⟨_, _, F0, b0, PySem.W.mg_of X G a0,
    _, _, F1, b1, PySem.W.mg_of X G a1,
    _, _, F2, b2, PySem.W.mg_of X G a2,
    _, _, _, fun H => .inr ⟨_, _, _, t3_fields, rfl, rfl, by decide, .nil⟩, _, fun H => .inr ⟨_, _, _, t3_words, rfl, rfl, by decide, .nil⟩, F3, kb3, _, v3, b3,
    _, _, F4, b4, PySem.W.mg_of X G a4,
    _, _, F5, b5, PySem.W.mg_of X G a5,
    _, _, F6, b6, PySem.W.mg_of X G a6,
    _, _, F7, b7, PySem.W.mg_of X G a7,
    _, _, F8, b8, PySem.W.mg_of X G a8,
    _, _, F9, b9, PySem.W.mg_of X G a9,
    _, _, F10, b10, PySem.W.mg_of X G a10,
    _, _, F11, b11,
    _, _, F12, b12, PySem.W.mg_of X G a12,
    _, _, F13, b13, PySem.W.mg_of X G a13,
    _, _, F14, b14, PySem.W.mg_of X G a14,
    _, _, F15, b15, PySem.W.mg_of X G a15,
    _, _, F16, b16,
    _, _, F17, b17, PySem.W.mg_of X G a17,
    _, _, F18, b18,
    _, _, F19, b19,
    _, _, F20, b20, PySem.W.mg_of X G a20,
    _, _, F21, b21, PySem.W.mg_of X G a21,
    _, _, F22, b22,
    _, _, F23, b23, PySem.W.mg_of X G a23,
    _, _, F24, b24,
    _, _, F25, b25,
    _, _, F26, b26,
    _, _, F27, b27,
    _, _, F28, b28,
    _, _, F29, b29,
    _, _, F30, b30,
    _, _, F31, b31, PySem.W.mg_of X G a31,
    _, _, F32, b32, PySem.W.mg_of X G a32,
    _, _, F33, b33,
    _, _, F34, b34,
    _, _, F35, b35,
    _, _, F36, b36,
    _, _, F37, b37,
    _, _, F38, b38,
    _, _, F39, b39, PySem.W.mg_of X G a39,
    _, ⟨pg_Record, hd_Record, po_Record, sa_Record⟩, PySem.W.mg_of X G aC_Record, n_Record_name, n_Record_vector, n_Record_fields, n_Record_words, ⟨mk_Record, in_Record, if_Record, kc_Record⟩,
    _, ⟨pg_Part, hd_Part, po_Part, sa_Part⟩, PySem.W.mg_of X G aC_Part, n_Part_start, n_Part_centre, n_Part_radius, ⟨mk_Part, in_Part, if_Part, kc_Part⟩, ⟨fm_Part___eq__, im_Part___eq__, k33⟩, _, ⟨fp_Part_after, gp_Part_after, tp_Part_after, ⟨_, rp_Part_after⟩⟩, ha_Part, hm_Part,
    _, ⟨pg_Parts, hd_Parts, po_Parts, sa_Parts⟩, PySem.W.mg_of X G aC_Parts, n_Parts_parts, ⟨mk_Parts, in_Parts, if_Parts, kc_Parts⟩, ⟨fm_Parts_holds, im_Parts_holds, k16⟩, ⟨fm_Parts___eq__, im_Parts___eq__, k34⟩, ha_Parts, hm_Parts,
    _, ⟨pg_Cell, hd_Cell, po_Cell, sa_Cell⟩, PySem.W.mg_of X G aC_Cell, n_Cell_near, n_Cell_rival, ⟨mk_Cell, in_Cell, if_Cell, kc_Cell⟩, ⟨fm_Cell_holds, im_Cell_holds, k18⟩, ⟨fm_Cell___eq__, im_Cell___eq__, k35⟩, ha_Cell, hm_Cell,
    _, ⟨pg_Box, hd_Box, po_Box, sa_Box⟩, PySem.W.mg_of X G aC_Box, n_Box_low, n_Box_high, ⟨mk_Box, in_Box, if_Box, kc_Box⟩, ⟨fm_Box_holds, im_Box_holds, k19⟩, ⟨fm_Box___eq__, im_Box___eq__, k36⟩, ha_Box, hm_Box,
    _, ⟨pg_Norms, hd_Norms, po_Norms, sa_Norms⟩, PySem.W.mg_of X G aC_Norms, n_Norms_low, n_Norms_high, ⟨mk_Norms, in_Norms, if_Norms, kc_Norms⟩, ⟨fm_Norms_holds, im_Norms_holds, k22⟩, ⟨fm_Norms___eq__, im_Norms___eq__, k37⟩, ha_Norms, hm_Norms,
    _, ⟨pg_Differ, hd_Differ, po_Differ, sa_Differ⟩, PySem.W.mg_of X G aC_Differ, n_Differ_centre, n_Differ_most, ⟨mk_Differ, in_Differ, if_Differ, kc_Differ⟩, ⟨fm_Differ_holds, im_Differ_holds, k24⟩, ⟨fm_Differ___eq__, im_Differ___eq__, k38⟩, ha_Differ, hm_Differ,
    kit_self,
    kit_self,
    kit_subN ic_Parts ty_Parts sb_Cell_Parts ss_Parts,
    kit_subN ic_Parts ty_Parts sb_Box_Parts ss_Parts,
    kit_subN ic_Parts ty_Parts sb_Norms_Parts ss_Parts,
    kit_subN ic_Parts ty_Parts sb_Differ_Parts ss_Parts,
    kit_sub ic_Parts ty_Parts sb_tuple_Parts (by rfl),
    kit_subN ic_Cell ty_Cell sb_Parts_Cell ss_Cell,
    kit_self,
    kit_subN ic_Cell ty_Cell sb_Box_Cell ss_Cell,
    kit_subN ic_Cell ty_Cell sb_Norms_Cell ss_Cell,
    kit_subN ic_Cell ty_Cell sb_Differ_Cell ss_Cell,
    kit_sub ic_Cell ty_Cell sb_tuple_Cell (by rfl),
    kit_subN ic_Box ty_Box sb_Parts_Box ss_Box,
    kit_subN ic_Box ty_Box sb_Cell_Box ss_Box,
    kit_self,
    kit_subN ic_Box ty_Box sb_Norms_Box ss_Box,
    kit_subN ic_Box ty_Box sb_Differ_Box ss_Box,
    kit_sub ic_Box ty_Box sb_tuple_Box (by rfl),
    kit_subN ic_Norms ty_Norms sb_Parts_Norms ss_Norms,
    kit_subN ic_Norms ty_Norms sb_Cell_Norms ss_Norms,
    kit_subN ic_Norms ty_Norms sb_Box_Norms ss_Norms,
    kit_self,
    kit_subN ic_Norms ty_Norms sb_Differ_Norms ss_Norms,
    kit_sub ic_Norms ty_Norms sb_tuple_Norms (by rfl),
    kit_subN ic_Differ ty_Differ sb_Parts_Differ ss_Differ,
    kit_subN ic_Differ ty_Differ sb_Cell_Differ ss_Differ,
    kit_subN ic_Differ ty_Differ sb_Box_Differ ss_Differ,
    kit_subN ic_Differ ty_Differ sb_Norms_Differ ss_Differ,
    kit_self,
    kit_sub ic_Differ ty_Differ sb_tuple_Differ (by rfl),
    nf_sub nf_Parts_Cell,
    nf_sub nf_Parts_Box,
    nf_sub nf_Parts_Norms,
    nf_sub nf_Parts_Differ,
    nf_sub nf_Parts_tuple,
    nf_sub nf_Cell_Parts,
    nf_sub nf_Cell_Box,
    nf_sub nf_Cell_Norms,
    nf_sub nf_Cell_Differ,
    nf_sub nf_Cell_tuple,
    nf_sub nf_Box_Parts,
    nf_sub nf_Box_Cell,
    nf_sub nf_Box_Norms,
    nf_sub nf_Box_Differ,
    nf_sub nf_Box_tuple,
    nf_sub nf_Norms_Parts,
    nf_sub nf_Norms_Cell,
    nf_sub nf_Norms_Box,
    nf_sub nf_Norms_Differ,
    nf_sub nf_Norms_tuple,
    nf_sub nf_Differ_Parts,
    nf_sub nf_Differ_Cell,
    nf_sub nf_Differ_Box,
    nf_sub nf_Differ_Norms,
    nf_sub nf_Differ_tuple,
    hn0,
    ht0,
    PySem.W.mg_none_of X G z_all,
    PySem.W.mg_none_of X G z_bool,
    PySem.W.mg_none_of X G z_int,
    PySem.W.mg_none_of X G z_isinstance,
    PySem.W.mg_none_of X G z_len,
    PySem.W.mg_none_of X G z_list,
    PySem.W.mg_none_of X G z_max,
    PySem.W.mg_none_of X G z_range,
    PySem.W.mg_none_of X G z_sum,
    PySem.W.mg_none_of X G z_tuple,
    PySem.W.mg_none_of X G z_zip⟩
  exact ⟨_, fun s v => .of_eq rfl, fun base _ _ => ok_law T⟩
end K18
open PySem PySem.W PyProof.Rows
set_option maxRecDepth 100000 in
set_option maxHeartbeats 0 in
theorem PySem.Challenge.cw_surenear_k18_facts_about_vectors_hold_holds : PySem.Challenge.rw_surenear_k18_facts_about_vectors_hold.Holds := by
  w_on; o_law; k_headL; (case hw => w_witness2)
  k_fill
  refine L2.walk_of (l := PySem.Challenge.rw_surenear_k18_facts_about_vectors_hold) (n := 63) (k := 6) (x := "script") (CX := fun _ => L2.CX0) (sp := fun w => K18.sp_law _) rfl (by decide) rfl ⟨rfl, by decide, by decide⟩ (fun w h Y => PySem.W.kIn_of Y) ?F (fun _ _ a ns hl _ hS => ⟨a, ns, rfl, hS, hl, fun _ => rfl⟩) (fun _ _ _ _ _ h => h)
  case F =>
    intro w mg fa h KX G hmg
    refine' K18.all_mk KX G hmg (a0 := ?a0) (l0 := ?l0) (c0 := ?c0) (k0 := ?k0) (a1 := ?a1) (l1 := ?l1) (c1 := ?c1) (k1 := ?k1) (a2 := ?a2) (l2 := ?l2) (c2 := ?c2) (k2 := ?k2) (a4 := ?a4) (l4 := ?l4) (c4 := ?c4) (k4 := ?k4) (a5 := ?a5) (l5 := ?l5) (c5 := ?c5) (k5 := ?k5) (a6 := ?a6) (l6 := ?l6) (c6 := ?c6) (k6 := ?k6) (a7 := ?a7) (l7 := ?l7) (c7 := ?c7) (k7 := ?k7) (a8 := ?a8) (l8 := ?l8) (c8 := ?c8) (k8 := ?k8) (a9 := ?a9) (l9 := ?l9) (c9 := ?c9) (k9 := ?k9) (a10 := ?a10) (l10 := ?l10) (c10 := ?c10) (k10 := ?k10) (a12 := ?a12) (l12 := ?l12) (c12 := ?c12) (k12 := ?k12) (a13 := ?a13) (l13 := ?l13) (c13 := ?c13) (k13 := ?k13) (a14 := ?a14) (l14 := ?l14) (c14 := ?c14) (k14 := ?k14) (a15 := ?a15) (l15 := ?l15) (c15 := ?c15) (k15 := ?k15) (a17 := ?a17) (l17 := ?l17) (c17 := ?c17) (k17 := ?k17) (a20 := ?a20) (l20 := ?l20) (c20 := ?c20) (k20 := ?k20) (a21 := ?a21) (l21 := ?l21) (c21 := ?c21) (k21 := ?k21) (a23 := ?a23) (l23 := ?l23) (c23 := ?c23) (k23 := ?k23) (a31 := ?a31) (l31 := ?l31) (c31 := ?c31) (k31 := ?k31) (a32 := ?a32) (l32 := ?l32) (c32 := ?c32) (k32 := ?k32) (a39 := ?a39) (l39 := ?l39) (c39 := ?c39) (k39 := ?k39) (aC_Record := ?aC_Record) (pg_Record := ?pg_Record) (hd_Record := ?hd_Record) (po_Record := ?po_Record) (sa_Record := ?sa_Record) (n_Record_name := ?n_Record_name) (n_Record_vector := ?n_Record_vector) (n_Record_fields := ?n_Record_fields) (n_Record_words := ?n_Record_words) (mk_Record := ?mk_Record) (in_Record := ?in_Record) (if_Record := ?if_Record) (kc_Record := ?kc_Record) (aC_Part := ?aC_Part) (pg_Part := ?pg_Part) (hd_Part := ?hd_Part) (po_Part := ?po_Part) (sa_Part := ?sa_Part) (n_Part_start := ?n_Part_start) (n_Part_centre := ?n_Part_centre) (n_Part_radius := ?n_Part_radius) (mk_Part := ?mk_Part) (in_Part := ?in_Part) (if_Part := ?if_Part) (kc_Part := ?kc_Part) (fm_Part___eq__ := ?fm_Part___eq__) (im_Part___eq__ := ?im_Part___eq__) (fp_Part_after := ?fp_Part_after) (gp_Part_after := ?gp_Part_after) (tp_Part_after := ?tp_Part_after) (rp_Part_after := ?rp_Part_after) (ha_Part := ?ha_Part) (hm_Part := ?hm_Part) (aC_Parts := ?aC_Parts) (pg_Parts := ?pg_Parts) (hd_Parts := ?hd_Parts) (po_Parts := ?po_Parts) (sa_Parts := ?sa_Parts) (n_Parts_parts := ?n_Parts_parts) (mk_Parts := ?mk_Parts) (in_Parts := ?in_Parts) (if_Parts := ?if_Parts) (kc_Parts := ?kc_Parts) (fm_Parts_holds := ?fm_Parts_holds) (im_Parts_holds := ?im_Parts_holds) (fm_Parts___eq__ := ?fm_Parts___eq__) (im_Parts___eq__ := ?im_Parts___eq__) (ha_Parts := ?ha_Parts) (hm_Parts := ?hm_Parts) (aC_Cell := ?aC_Cell) (pg_Cell := ?pg_Cell) (hd_Cell := ?hd_Cell) (po_Cell := ?po_Cell) (sa_Cell := ?sa_Cell) (n_Cell_near := ?n_Cell_near) (n_Cell_rival := ?n_Cell_rival) (mk_Cell := ?mk_Cell) (in_Cell := ?in_Cell) (if_Cell := ?if_Cell) (kc_Cell := ?kc_Cell) (fm_Cell_holds := ?fm_Cell_holds) (im_Cell_holds := ?im_Cell_holds) (fm_Cell___eq__ := ?fm_Cell___eq__) (im_Cell___eq__ := ?im_Cell___eq__) (ha_Cell := ?ha_Cell) (hm_Cell := ?hm_Cell) (aC_Box := ?aC_Box) (pg_Box := ?pg_Box) (hd_Box := ?hd_Box) (po_Box := ?po_Box) (sa_Box := ?sa_Box) (n_Box_low := ?n_Box_low) (n_Box_high := ?n_Box_high) (mk_Box := ?mk_Box) (in_Box := ?in_Box) (if_Box := ?if_Box) (kc_Box := ?kc_Box) (fm_Box_holds := ?fm_Box_holds) (im_Box_holds := ?im_Box_holds) (fm_Box___eq__ := ?fm_Box___eq__) (im_Box___eq__ := ?im_Box___eq__) (ha_Box := ?ha_Box) (hm_Box := ?hm_Box) (aC_Norms := ?aC_Norms) (pg_Norms := ?pg_Norms) (hd_Norms := ?hd_Norms) (po_Norms := ?po_Norms) (sa_Norms := ?sa_Norms) (n_Norms_low := ?n_Norms_low) (n_Norms_high := ?n_Norms_high) (mk_Norms := ?mk_Norms) (in_Norms := ?in_Norms) (if_Norms := ?if_Norms) (kc_Norms := ?kc_Norms) (fm_Norms_holds := ?fm_Norms_holds) (im_Norms_holds := ?im_Norms_holds) (fm_Norms___eq__ := ?fm_Norms___eq__) (im_Norms___eq__ := ?im_Norms___eq__) (ha_Norms := ?ha_Norms) (hm_Norms := ?hm_Norms) (aC_Differ := ?aC_Differ) (pg_Differ := ?pg_Differ) (hd_Differ := ?hd_Differ) (po_Differ := ?po_Differ) (sa_Differ := ?sa_Differ) (n_Differ_centre := ?n_Differ_centre) (n_Differ_most := ?n_Differ_most) (mk_Differ := ?mk_Differ) (in_Differ := ?in_Differ) (if_Differ := ?if_Differ) (kc_Differ := ?kc_Differ) (fm_Differ_holds := ?fm_Differ_holds) (im_Differ_holds := ?im_Differ_holds) (fm_Differ___eq__ := ?fm_Differ___eq__) (im_Differ___eq__ := ?im_Differ___eq__) (ha_Differ := ?ha_Differ) (hm_Differ := ?hm_Differ) (ic_Parts := ?ic_Parts) (ty_Parts := ?ty_Parts) (ic_Cell := ?ic_Cell) (ty_Cell := ?ty_Cell) (ic_Box := ?ic_Box) (ty_Box := ?ty_Box) (ic_Norms := ?ic_Norms) (ty_Norms := ?ty_Norms) (ic_Differ := ?ic_Differ) (ty_Differ := ?ty_Differ) (ss_Parts := ?ss_Parts) (sb_Cell_Parts := ?sb_Cell_Parts) (sb_Box_Parts := ?sb_Box_Parts) (sb_Norms_Parts := ?sb_Norms_Parts) (sb_Differ_Parts := ?sb_Differ_Parts) (sb_tuple_Parts := ?sb_tuple_Parts) (ss_Cell := ?ss_Cell) (sb_Parts_Cell := ?sb_Parts_Cell) (sb_Box_Cell := ?sb_Box_Cell) (sb_Norms_Cell := ?sb_Norms_Cell) (sb_Differ_Cell := ?sb_Differ_Cell) (sb_tuple_Cell := ?sb_tuple_Cell) (ss_Box := ?ss_Box) (sb_Parts_Box := ?sb_Parts_Box) (sb_Cell_Box := ?sb_Cell_Box) (sb_Norms_Box := ?sb_Norms_Box) (sb_Differ_Box := ?sb_Differ_Box) (sb_tuple_Box := ?sb_tuple_Box) (ss_Norms := ?ss_Norms) (sb_Parts_Norms := ?sb_Parts_Norms) (sb_Cell_Norms := ?sb_Cell_Norms) (sb_Box_Norms := ?sb_Box_Norms) (sb_Differ_Norms := ?sb_Differ_Norms) (sb_tuple_Norms := ?sb_tuple_Norms) (ss_Differ := ?ss_Differ) (sb_Parts_Differ := ?sb_Parts_Differ) (sb_Cell_Differ := ?sb_Cell_Differ) (sb_Box_Differ := ?sb_Box_Differ) (sb_Norms_Differ := ?sb_Norms_Differ) (sb_tuple_Differ := ?sb_tuple_Differ) (nf_Parts_Cell := ?nf_Parts_Cell) (nf_Parts_Box := ?nf_Parts_Box) (nf_Parts_Norms := ?nf_Parts_Norms) (nf_Parts_Differ := ?nf_Parts_Differ) (nf_Parts_tuple := ?nf_Parts_tuple) (nf_Cell_Parts := ?nf_Cell_Parts) (nf_Cell_Box := ?nf_Cell_Box) (nf_Cell_Norms := ?nf_Cell_Norms) (nf_Cell_Differ := ?nf_Cell_Differ) (nf_Cell_tuple := ?nf_Cell_tuple) (nf_Box_Parts := ?nf_Box_Parts) (nf_Box_Cell := ?nf_Box_Cell) (nf_Box_Norms := ?nf_Box_Norms) (nf_Box_Differ := ?nf_Box_Differ) (nf_Box_tuple := ?nf_Box_tuple) (nf_Norms_Parts := ?nf_Norms_Parts) (nf_Norms_Cell := ?nf_Norms_Cell) (nf_Norms_Box := ?nf_Norms_Box) (nf_Norms_Differ := ?nf_Norms_Differ) (nf_Norms_tuple := ?nf_Norms_tuple) (nf_Differ_Parts := ?nf_Differ_Parts) (nf_Differ_Cell := ?nf_Differ_Cell) (nf_Differ_Box := ?nf_Differ_Box) (nf_Differ_Norms := ?nf_Differ_Norms) (nf_Differ_tuple := ?nf_Differ_tuple) (hn0 := ?hn0) (ht0 := ?ht0) (l3 := ?l3) (n3_fields := ?n3_fields) (t3_fields := ?t3_fields) (n3_words := ?n3_words) (t3_words := ?t3_words) (c3 := ?c3) (k3 := ?k3) (l11 := ?l11) (c11 := ?c11) (k11 := ?k11) (l16 := ?l16) (c16 := ?c16) (k16 := ?k16) (l18 := ?l18) (c18 := ?c18) (k18 := ?k18) (l19 := ?l19) (c19 := ?c19) (k19 := ?k19) (l22 := ?l22) (c22 := ?c22) (k22 := ?k22) (l24 := ?l24) (c24 := ?c24) (k24 := ?k24) (l25 := ?l25) (c25 := ?c25) (k25 := ?k25) (l26 := ?l26) (c26 := ?c26) (k26 := ?k26) (l27 := ?l27) (c27 := ?c27) (k27 := ?k27) (l28 := ?l28) (c28 := ?c28) (k28 := ?k28) (l29 := ?l29) (c29 := ?c29) (k29 := ?k29) (l30 := ?l30) (c30 := ?c30) (k30 := ?k30) (l33 := ?l33) (c33 := ?c33) (k33 := ?k33) (l34 := ?l34) (c34 := ?c34) (k34 := ?k34) (l35 := ?l35) (c35 := ?c35) (k35 := ?k35) (l36 := ?l36) (c36 := ?c36) (k36 := ?k36) (l37 := ?l37) (c37 := ?c37) (k37 := ?k37) (l38 := ?l38) (c38 := ?c38) (k38 := ?k38) (z_all := ?z_all) (z_bool := ?z_bool) (z_int := ?z_int) (z_isinstance := ?z_isinstance) (z_len := ?z_len) (z_list := ?z_list) (z_max := ?z_max) (z_range := ?z_range) (z_sum := ?z_sum) (z_tuple := ?z_tuple) (z_zip := ?z_zip)
    (case a0 => k_is); (case l0 => k_is); (case c0 => k_is); (case k0 => k_is); (case a1 => k_is); (case l1 => k_is); (case c1 => k_is); (case k1 => k_is); (case a2 => k_is); (case l2 => k_is); (case c2 => k_is); (case k2 => k_is); (case a4 => k_is); (case l4 => k_is); (case c4 => k_is); (case k4 => k_is); (case a5 => k_is); (case l5 => k_is); (case c5 => k_is); (case k5 => k_is); (case a6 => k_is); (case l6 => k_is); (case c6 => k_is); (case k6 => k_is); (case a7 => k_is); (case l7 => k_is); (case c7 => k_is); (case k7 => k_is); (case a8 => k_is); (case l8 => k_is); (case c8 => k_is); (case k8 => k_is); (case a9 => k_is); (case l9 => k_is); (case c9 => k_is); (case k9 => k_is); (case a10 => k_is); (case l10 => k_is); (case c10 => k_is); (case k10 => k_is); (case a12 => k_is); (case l12 => k_is); (case c12 => k_is); (case k12 => k_is); (case a13 => k_is); (case l13 => k_is); (case c13 => k_is); (case k13 => k_is); (case a14 => k_is); (case l14 => k_is); (case c14 => k_is); (case k14 => k_is); (case a15 => k_is); (case l15 => k_is); (case c15 => k_is); (case k15 => k_is); (case a17 => k_is); (case l17 => k_is); (case c17 => k_is); (case k17 => k_is); (case a20 => k_is); (case l20 => k_is); (case c20 => k_is); (case k20 => k_is); (case a21 => k_is); (case l21 => k_is); (case c21 => k_is); (case k21 => k_is); (case a23 => k_is); (case l23 => k_is); (case c23 => k_is); (case k23 => k_is); (case a31 => k_is); (case l31 => k_is); (case c31 => k_is); (case k31 => k_is); (case a32 => k_is); (case l32 => k_is); (case c32 => k_is); (case k32 => k_is); (case a39 => k_is); (case l39 => k_is); (case c39 => k_is); (case k39 => k_is); (case aC_Record => k_is); (case pg_Record => k_is); (case hd_Record => k_is); (case po_Record => k_is); (case sa_Record => k_is); (case n_Record_name => k_is); (case n_Record_vector => k_is); (case n_Record_fields => k_is); (case n_Record_words => k_is); (case mk_Record => k_is); (case in_Record => k_is); (case if_Record => k_is); (case kc_Record => k_is); (case aC_Part => k_is); (case pg_Part => k_is); (case hd_Part => k_is); (case po_Part => k_is); (case sa_Part => k_is); (case n_Part_start => k_is); (case n_Part_centre => k_is); (case n_Part_radius => k_is); (case mk_Part => k_is); (case in_Part => k_is); (case if_Part => k_is); (case kc_Part => k_is); (case fm_Part___eq__ => k_is); (case im_Part___eq__ => k_is); (case fp_Part_after => k_is); (case gp_Part_after => k_is); (case tp_Part_after => k_is); (case rp_Part_after => k_is); (case ha_Part => k_is); (case hm_Part => k_is); (case aC_Parts => k_is); (case pg_Parts => k_is); (case hd_Parts => k_is); (case po_Parts => k_is); (case sa_Parts => k_is); (case n_Parts_parts => k_is); (case mk_Parts => k_is); (case in_Parts => k_is); (case if_Parts => k_is); (case kc_Parts => k_is); (case fm_Parts_holds => k_is); (case im_Parts_holds => k_is); (case fm_Parts___eq__ => k_is); (case im_Parts___eq__ => k_is); (case ha_Parts => k_is); (case hm_Parts => k_is); (case aC_Cell => k_is); (case pg_Cell => k_is); (case hd_Cell => k_is); (case po_Cell => k_is); (case sa_Cell => k_is); (case n_Cell_near => k_is); (case n_Cell_rival => k_is); (case mk_Cell => k_is); (case in_Cell => k_is); (case if_Cell => k_is); (case kc_Cell => k_is); (case fm_Cell_holds => k_is); (case im_Cell_holds => k_is); (case fm_Cell___eq__ => k_is); (case im_Cell___eq__ => k_is); (case ha_Cell => k_is); (case hm_Cell => k_is); (case aC_Box => k_is); (case pg_Box => k_is); (case hd_Box => k_is); (case po_Box => k_is); (case sa_Box => k_is); (case n_Box_low => k_is); (case n_Box_high => k_is); (case mk_Box => k_is); (case in_Box => k_is); (case if_Box => k_is); (case kc_Box => k_is); (case fm_Box_holds => k_is); (case im_Box_holds => k_is); (case fm_Box___eq__ => k_is); (case im_Box___eq__ => k_is); (case ha_Box => k_is); (case hm_Box => k_is); (case aC_Norms => k_is); (case pg_Norms => k_is); (case hd_Norms => k_is); (case po_Norms => k_is); (case sa_Norms => k_is); (case n_Norms_low => k_is); (case n_Norms_high => k_is); (case mk_Norms => k_is); (case in_Norms => k_is); (case if_Norms => k_is); (case kc_Norms => k_is); (case fm_Norms_holds => k_is); (case im_Norms_holds => k_is); (case fm_Norms___eq__ => k_is); (case im_Norms___eq__ => k_is); (case ha_Norms => k_is); (case hm_Norms => k_is); (case aC_Differ => k_is); (case pg_Differ => k_is); (case hd_Differ => k_is); (case po_Differ => k_is); (case sa_Differ => k_is); (case n_Differ_centre => k_is); (case n_Differ_most => k_is); (case mk_Differ => k_is); (case in_Differ => k_is); (case if_Differ => k_is); (case kc_Differ => k_is); (case fm_Differ_holds => k_is); (case im_Differ_holds => k_is); (case fm_Differ___eq__ => k_is); (case im_Differ___eq__ => k_is); (case ha_Differ => k_is); (case hm_Differ => k_is); (case ic_Parts => k_is); (case ty_Parts => k_is); (case ic_Cell => k_is); (case ty_Cell => k_is); (case ic_Box => k_is); (case ty_Box => k_is); (case ic_Norms => k_is); (case ty_Norms => k_is); (case ic_Differ => k_is); (case ty_Differ => k_is); (case ss_Parts => k_is); (case sb_Cell_Parts => k_is); (case sb_Box_Parts => k_is); (case sb_Norms_Parts => k_is); (case sb_Differ_Parts => k_is); (case sb_tuple_Parts => k_is); (case ss_Cell => k_is); (case sb_Parts_Cell => k_is); (case sb_Box_Cell => k_is); (case sb_Norms_Cell => k_is); (case sb_Differ_Cell => k_is); (case sb_tuple_Cell => k_is); (case ss_Box => k_is); (case sb_Parts_Box => k_is); (case sb_Cell_Box => k_is); (case sb_Norms_Box => k_is); (case sb_Differ_Box => k_is); (case sb_tuple_Box => k_is); (case ss_Norms => k_is); (case sb_Parts_Norms => k_is); (case sb_Cell_Norms => k_is); (case sb_Box_Norms => k_is); (case sb_Differ_Norms => k_is); (case sb_tuple_Norms => k_is); (case ss_Differ => k_is); (case sb_Parts_Differ => k_is); (case sb_Cell_Differ => k_is); (case sb_Box_Differ => k_is); (case sb_Norms_Differ => k_is); (case sb_tuple_Differ => k_is); (case nf_Parts_Cell => k_is); (case nf_Parts_Box => k_is); (case nf_Parts_Norms => k_is); (case nf_Parts_Differ => k_is); (case nf_Parts_tuple => k_is); (case nf_Cell_Parts => k_is); (case nf_Cell_Box => k_is); (case nf_Cell_Norms => k_is); (case nf_Cell_Differ => k_is); (case nf_Cell_tuple => k_is); (case nf_Box_Parts => k_is); (case nf_Box_Cell => k_is); (case nf_Box_Norms => k_is); (case nf_Box_Differ => k_is); (case nf_Box_tuple => k_is); (case nf_Norms_Parts => k_is); (case nf_Norms_Cell => k_is); (case nf_Norms_Box => k_is); (case nf_Norms_Differ => k_is); (case nf_Norms_tuple => k_is); (case nf_Differ_Parts => k_is); (case nf_Differ_Cell => k_is); (case nf_Differ_Box => k_is); (case nf_Differ_Norms => k_is); (case nf_Differ_tuple => k_is); (case hn0 => k_is); (case ht0 => k_is); (case l3 => k_is); (case n3_fields => k_is); (case t3_fields => k_is); (case n3_words => k_is); (case t3_words => k_is); (case c3 => k_is); (case k3 => k_is); (case l11 => k_is); (case c11 => k_is); (case k11 => k_is); (case l16 => k_is); (case c16 => k_is); (case k16 => k_is); (case l18 => k_is); (case c18 => k_is); (case k18 => k_is); (case l19 => k_is); (case c19 => k_is); (case k19 => k_is); (case l22 => k_is); (case c22 => k_is); (case k22 => k_is); (case l24 => k_is); (case c24 => k_is); (case k24 => k_is); (case l25 => k_is); (case c25 => k_is); (case k25 => k_is); (case l26 => k_is); (case c26 => k_is); (case k26 => k_is); (case l27 => k_is); (case c27 => k_is); (case k27 => k_is); (case l28 => k_is); (case c28 => k_is); (case k28 => k_is); (case l29 => k_is); (case c29 => k_is); (case k29 => k_is); (case l30 => k_is); (case c30 => k_is); (case k30 => k_is); (case l33 => k_is); (case c33 => k_is); (case k33 => k_is); (case l34 => k_is); (case c34 => k_is); (case k34 => k_is); (case l35 => k_is); (case c35 => k_is); (case k35 => k_is); (case l36 => k_is); (case c36 => k_is); (case k36 => k_is); (case l37 => k_is); (case c37 => k_is); (case k37 => k_is); (case l38 => k_is); (case c38 => k_is); (case k38 => k_is); (case z_all => k_is); (case z_bool => k_is); (case z_int => k_is); (case z_isinstance => k_is); (case z_len => k_is); (case z_list => k_is); (case z_max => k_is); (case z_range => k_is); (case z_sum => k_is); (case z_tuple => k_is); (case z_zip => k_is)
