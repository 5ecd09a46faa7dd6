import PyProof.Rows.All
import Wide.All
import OpenK.AllK
import Wide.FinOn
import HandS.ForMost
import HandS.Codes
import HandS.Wide
import HandS.IsInst
import HandS.Walk
import HandS.Zip
import HandS.MakeKwOnly
import HandS.ForExc
import HandS.TryMany
import HandS.Strs
import HandS.More
import HandS.Property
import HandS.SetFor
import HandS.Conv
import HandS.Text
import HandS.TupAny
import HandS.Style
import KE.KEqSeq
import KE.LtData
import KE.OsRunLaw
import KE.GoesEnum
import HandS.OwnEq
import PyProof.NeKinds
import PySem.Challenge.RW_surenear_k59_notes_know_their_records
set_option Elab.async false
set_option linter.all false
set_option maxRecDepth 100000
namespace TP
open PySem PySem.Spec PyProof.Rows L2
/-! ### heaps: Z is the part that never changes, H is all -/
def SameX (S : List Addr) (H H' : Hp) : Prop := ∀ a o, a ∉ S → H a = some o → H' a = some o
theorem SameX.refl {S : List Addr} {H : Hp} : SameX S H H := fun _ _ _ h => h
theorem SameX.trans {S : List Addr} {H H1 H2 : Hp} (f : SameX S H H1) (g : SameX S H1 H2) : SameX S H H2 := fun a o n h => g a o n (f a o n h)
structure Step (S : List Addr) (Z H Z' H' : Hp) : Prop where
  z : Same Z Z'
  s : Same Z' H'
  h : SameX S H H'
  n : ∀ a, H a ≠ none → Z a = none → Z' a = none
  al : ∀ a, H a ≠ none → H' a ≠ none
theorem Step.refl {S : List Addr} {Z H : Hp} (s : Same Z H) : Step S Z H Z H := ⟨Same.refl _, s, SameX.refl, fun _ _ h => h, fun _ h => h⟩
theorem Step.mine {S F : List Addr} {Z H Z1 H1 Z2 H2 : Hp} (f : Step S Z H Z1 H1) (g : Step F Z1 H1 Z2 H2) (m : ∀ a ∈ F, a ∈ S ∨ H a = none) : Step S Z H Z2 H2 :=
  ⟨f.z.trans g.z, g.s, fun a o na h => g.h a o (fun q => by rcases m a q with x | x; exact na x; rw [x] at h; cases h) (f.h a o na h), fun a h z => g.n a (f.al a h) (f.n a h z), fun a h => g.al a (f.al a h)⟩
theorem Step.trans {S : List Addr} {Z H Z1 H1 Z2 H2 : Hp} (f : Step S Z H Z1 H1) (g : Step S Z1 H1 Z2 H2) : Step S Z H Z2 H2 := f.mine g fun _ h => .inl h
theorem Step.weak {S F : List Addr} {Z H Z1 H1 : Hp} (g : Step F Z H Z1 H1) (m : ∀ a ∈ F, a ∈ S ∨ H a = none) : Step S Z H Z1 H1 :=
  ⟨g.z, g.s, fun a o na h => g.h a o (fun q => by rcases m a q with x | x; exact na x; rw [x] at h; cases h) h, g.n, g.al⟩
theorem Step.pure {S : List Addr} {Z H Z1 H1 : Hp} (g : Step [] Z H Z1 H1) : Step S Z H Z1 H1 := g.weak fun _ h => by cases h
theorem ne_of_some {H : Hp} {a p : Addr} (h : H a ≠ none) (hp : H p = none) : a ≠ p := fun e => h (e ▸ hp)
theorem some_ne {H : Hp} {a : Addr} {o : HO} (h : H a = some o) : H a ≠ none := by rw [h]; exact fun z => nomatch z
theorem same_none {Z H : Hp} (s : Same Z H) {p : Addr} (h : H p = none) : Z p = none := s.free h
theorem same_upd {H : Hp} {p : Addr} {o : HO} (h : H p = none) : Same H (upd H p o) := fun a u e => by
  rw [upd_ne (ne_of_some (some_ne e) h)]; exact e
theorem same_upd2 {Z H : Hp} {p : Addr} {o : HO} (s : Same Z H) : Same (upd Z p o) (upd H p o) := fun a u e => by
  by_cases q : a = p
  · subst q; rw [upd_same] at e ⊢; exact e
  · rw [upd_ne q] at e ⊢; exact s a u e
/-- something new that never changes -/
theorem Step.new {Z H : Hp} {p : Addr} {o : HO} (s : Same Z H) (hp : H p = none) : Step [] Z H (upd Z p o) (upd H p o) :=
  ⟨same_upd (same_none s hp), same_upd2 s, fun a u _ e => same_upd hp a u e, fun a h z => by rw [upd_ne (ne_of_some h hp)]; exact z, fun a h => by rw [upd_ne (ne_of_some h hp)]; exact h⟩
/-- something new of one's own -/
theorem Step.own {Z H : Hp} {p : Addr} {o : HO} (s : Same Z H) (hp : H p = none) : Step [] Z H Z (upd H p o) :=
  ⟨Same.refl _, s.trans (same_upd hp), fun a u _ e => same_upd hp a u e, fun _ _ z => z, fun a h => by rw [upd_ne (ne_of_some h hp)]; exact h⟩
/-- one's own is changed -/
theorem Step.set {Z H : Hp} {p : Addr} {o : HO} (s : Same Z H) (hz : Z p = none) : Step [p] Z H Z (upd H p o) := by
  refine ⟨Same.refl _, fun a u e => ?_, fun a u n e => ?_, fun _ _ z => z, fun a h => ?_⟩
  · rw [upd_ne (ne_of_some (some_ne e) hz)]; exact s a u e
  · rw [upd_ne (fun q => n (by rw [q]; exact List.mem_cons_self))]; exact e
  · by_cases q : a = p
    · subst q; rw [upd_same]; exact fun z => nomatch z
    · rw [upd_ne q]; exact h

/-! ### kinds of values -/
structure Ty (α : Type) where
  r : Hp → V → α → Prop
  mono : ∀ {Z Z' : Hp} {v : V} {x : α}, Same Z Z' → r Z v x → r Z' v x
def yInt : Ty Int := ⟨fun _ v x => v = .int x, fun _ h => h⟩
def yBool : Ty Bool := ⟨fun _ v x => v = .bl x, fun _ h => h⟩
def okS (x : Str) : Bool := PyData.strOk x && decide (x.length ≤ sizeLine)
def yStr : Ty Str := ⟨fun _ v x => v = .str x ∧ okS x = true, fun _ h => h⟩
def yNon : Ty Unit := ⟨fun _ v _ => v = .non, fun _ h => h⟩
def yOpt {α : Type} (τ : Ty α) : Ty (Option α) := ⟨fun Z v x => match x with | none => v = .non | some y => τ.r Z v y ∧ v ≠ .non, fun {_ _ _ x} s h => match x, h with | none, h => h | some _, h => ⟨τ.mono s h.1, h.2⟩⟩
/-- place by place -/
inductive All {α : Type} (R : V → α → Prop) : List V → List α → Prop
  | nil : All R [] []
  | cons {v : V} {vs : List V} {x : α} {xs : List α} : R v x → All R vs xs → All R (v :: vs) (x :: xs)
section
variable {α β : Type} {R R' : V → α → Prop}
theorem All.imp (f : ∀ v x, R v x → R' v x) : ∀ {vs : List V} {xs : List α}, All R vs xs → All R' vs xs
  | _, _, .nil => .nil
  | _, _, .cons h t => .cons (f _ _ h) (t.imp f)
theorem All.len : ∀ {vs : List V} {xs : List α}, All R vs xs → vs.length = xs.length
  | _, _, .nil => rfl
  | _, _, .cons _ t => congrArg Nat.succ t.len
theorem All.app : ∀ {vs ws : List V} {xs ys : List α}, All R vs xs → All R ws ys → All R (vs ++ ws) (xs ++ ys)
  | _, _, _, _, .nil, h => h
  | _, _, _, _, .cons h t, g => .cons h (t.app g)
theorem All.snoc {vs : List V} {xs : List α} {v : V} {x : α} (h : All R vs xs) (g : R v x) : All R (vs ++ [v]) (xs ++ [x]) := h.app (.cons g .nil)
theorem All.get : ∀ {vs : List V} {xs : List α} {i : Nat} {v : V}, All R vs xs → vs[i]? = some v → ∃ x, xs[i]? = some x ∧ R v x
  | _, _, _, _, .nil, h => by simp at h
  | _, _, 0, _, .cons h _, e => ⟨_, rfl, by have := Option.some.inj e; rw [← this]; exact h⟩
  | _, _, i + 1, _, .cons _ t, e => t.get (i := i) e
theorem All.at : ∀ {vs : List V} {xs : List α} {i : Nat} {x : α}, All R vs xs → xs[i]? = some x → ∃ v, vs[i]? = some v ∧ R v x
  | _, _, _, _, .nil, h => by simp at h
  | _, _, 0, _, .cons h _, e => ⟨_, rfl, by have := Option.some.inj e; rw [← this]; exact h⟩
  | _, _, i + 1, _, .cons _ t, e => t.at (i := i) e
theorem All.take : ∀ {vs : List V} {xs : List α} (n : Nat), All R vs xs → All R (vs.take n) (xs.take n)
  | _, _, 0, _ => .nil
  | _, _, _ + 1, .nil => .nil
  | _, _, n + 1, .cons h t => .cons h (t.take n)
theorem All.drop : ∀ {vs : List V} {xs : List α} (n : Nat), All R vs xs → All R (vs.drop n) (xs.drop n)
  | _, _, 0, h => h
  | _, _, _ + 1, .nil => .nil
  | _, _, n + 1, .cons _ t => t.drop n
theorem All.set {v : V} {x : α} (g : R v x) : ∀ {vs : List V} {xs : List α} (n : Nat), All R vs xs → All R (vs.set n v) (xs.set n x)
  | _, _, _, .nil => .nil
  | _, _, 0, .cons _ t => .cons g t
  | _, _, n + 1, .cons h t => .cons h (t.set g n)
theorem All.ints : ∀ {vs : List V} {xs : List Int}, All (fun v x => v = .int x) vs xs → vs = xs.map V.int
  | _, _, .nil => rfl
  | _, _, .cons h t => by rw [h, t.ints]; rfl
theorem All.map {f : α → V} (e : ∀ v x, R v x → v = f x) : ∀ {vs : List V} {xs : List α}, All R vs xs → vs = xs.map f
  | _, _, .nil => rfl
  | _, _, .cons h t => by rw [e _ _ h, t.map e]; rfl
theorem All.bls : ∀ {vs : List V} {xs : List Bool}, All (fun v x => v = .bl x) vs xs → vs = xs.map V.bl
  | _, _, .nil => rfl
  | _, _, .cons h t => by rw [h, t.bls]; rfl
theorem All.ofInts : ∀ xs : List Int, All (fun v x => v = .int x) (xs.map V.int) xs
  | [] => .nil
  | _ :: r => .cons rfl (All.ofInts r)
theorem All.atI {vs : List V} {xs : List α} {i : Int} {x : α} (h : All R vs xs) (e : L2.atI xs i = some x) : ∃ v, L2.atI vs i = some v ∧ R v x := by
  unfold L2.atI at e ⊢
  rw [h.len]
  cases q : ixN xs.length i with
  | none => rw [q] at e; cases e
  | some j =>
    rw [q] at e
    exact h.at (i := j) e
end
/-- a list that never changes -/
def yList {α : Type} (τ : Ty α) : Ty (List α) := ⟨fun Z v xs => ∃ a vs, v = .ref a ∧ Z a = some (.lst vs) ∧ All (τ.r Z) vs xs ∧ xs.length ≤ sizeLine,
  fun s ⟨a, vs, e, h, t, l⟩ => ⟨a, vs, e, s _ _ h, t.imp fun _ _ => τ.mono s, l⟩⟩
theorem seqT_same {K : PySem.W.Frag} {H H' : Hp} {q : Addr} {xs : List V} (f : Same H H') (h : SqT K H q xs) : SqT K H' q xs := by
  rcases h with (h | ⟨o, h⟩) | h
  · exact .inl (.inl (f _ _ h))
  · exact .inl (.inr ⟨o, f _ _ h⟩)
  · exact .inr h
section
variable (K : PySem.W.Frag)
def yTup {α : Type} (τ : Ty α) : Ty (List α) := ⟨fun Z v xs => ∃ a vs, v = .ref a ∧ SqT K Z a vs ∧ All (τ.r Z) vs xs ∧ xs.length ≤ sizeLine,
  fun s ⟨a, vs, e, h, t, l⟩ => ⟨a, vs, e, seqT_same s h, t.imp fun _ _ => τ.mono s, l⟩⟩
def yP0 : Ty Unit := ⟨fun Z v _ => ∃ a, v = .ref a ∧ SqT K Z a [], fun s ⟨a, e, h⟩ => ⟨a, e, seqT_same s h⟩⟩
def yP1 {α : Type} (τ : Ty α) : Ty α := ⟨fun Z v x => ∃ a v1, v = .ref a ∧ SqT K Z a [v1] ∧ τ.r Z v1 x, fun s ⟨a, v1, e, h, h1⟩ => ⟨a, v1, e, seqT_same s h, τ.mono s h1⟩⟩
def yP2 {α β : Type} (τ : Ty α) (υ : Ty β) : Ty (α × β) := ⟨fun Z v x => ∃ a v1 v2, v = .ref a ∧ SqT K Z a [v1, v2] ∧ τ.r Z v1 x.1 ∧ υ.r Z v2 x.2,
  fun s ⟨a, v1, v2, e, h, h1, h2⟩ => ⟨a, v1, v2, e, seqT_same s h, τ.mono s h1, υ.mono s h2⟩⟩
def yP3 {α β γ : Type} (τ : Ty α) (υ : Ty β) (φ : Ty γ) : Ty (α × β × γ) := ⟨fun Z v x => ∃ a v1 v2 v3, v = .ref a ∧ SqT K Z a [v1, v2, v3] ∧ τ.r Z v1 x.1 ∧ υ.r Z v2 x.2.1 ∧ φ.r Z v3 x.2.2,
  fun s ⟨a, v1, v2, v3, e, h, h1, h2, h3⟩ => ⟨a, v1, v2, v3, e, seqT_same s h, τ.mono s h1, υ.mono s h2, φ.mono s h3⟩⟩
def yP4 {α β γ δ : Type} (τ : Ty α) (υ : Ty β) (φ : Ty γ) (ψ : Ty δ) : Ty (α × β × γ × δ) := ⟨fun Z v x => ∃ a v1 v2 v3 v4, v = .ref a ∧ SqT K Z a [v1, v2, v3, v4] ∧ τ.r Z v1 x.1 ∧ υ.r Z v2 x.2.1 ∧ φ.r Z v3 x.2.2.1 ∧ ψ.r Z v4 x.2.2.2,
  fun s ⟨a, v1, v2, v3, v4, e, h, h1, h2, h3, h4⟩ => ⟨a, v1, v2, v3, v4, e, seqT_same s h, τ.mono s h1, υ.mono s h2, φ.mono s h3, ψ.mono s h4⟩⟩
end

/-! ### what changes: s of a kind μ stands at the addresses fp -/
structure Mu (μ : Type) where
  fp : List Addr
  m : μ → Hp → Hp → Prop
  al : ∀ {s : μ} {Z H : Hp}, m s Z H → ∀ a ∈ fp, H a ≠ none ∧ Z a = none
  loc : ∀ {s : μ} {Z H Z' H' : Hp}, Same Z Z' → (∀ a ∈ fp, ∀ o, H a = some o → H' a = some o) → (∀ a ∈ fp, H a ≠ none → Z a = none → Z' a = none) → m s Z H → m s Z' H'
def muN : Mu Unit := ⟨[], fun _ _ _ => True, fun _ _ h => (nomatch h), fun _ _ _ _ => trivial⟩
/-- what was told of more that stands still is told without it -/
def Mu.Back {μ : Type} (M : Mu μ) : Prop := ∀ {s s' : μ} {Z H Z' H' : Hp}, Same Z Z' → M.m s Z H → M.m s' Z' H' → M.m s' Z H'
theorem muN_back : muN.Back := fun _ _ _ => trivial
theorem Mu.pure {μ : Type} (M : Mu μ) {s : μ} {Z H Z' H' : Hp} (g : Step [] Z H Z' H') (h : M.m s Z H) : M.m s Z' H' := M.loc g.z (fun a _ o e => g.h a o (List.not_mem_nil) e) (fun a _ x y => g.n a x y) h
/-- what a value is, of the heaps -/
structure Rr (fp : List Addr) where
  r : Hp → Hp → V → Prop
  st : ∀ {Z H Z' H' : Hp} {v : V}, Step fp Z H Z' H' → r Z H v → r Z' H' v
structure Ra (fp : List Addr) where
  r : Hp → Hp → List V → Prop
  st : ∀ {Z H Z' H' : Hp} {vs : List V}, Step fp Z H Z' H' → r Z H vs → r Z' H' vs
def ty {fp : List Addr} {α : Type} (τ : Ty α) (x : α) : Rr fp := ⟨fun Z _ v => τ.r Z v x, fun g h => τ.mono g.z h⟩
/-- a list that may be read: one that never changes, or one of one's own -/
def RdL (fp : List Addr) (Z H : Hp) (p : Addr) (vs : List V) : Prop := Z p = some (.lst vs) ∨ (H p = some (.lst vs) ∧ p ∉ fp)
theorem RdL.st {fp : List Addr} {Z H Z' H' : Hp} {p : Addr} {vs : List V} (g : Step fp Z H Z' H') (h : RdL fp Z H p vs) : RdL fp Z' H' p vs := h.elim (fun e => .inl (g.z _ _ e)) fun e => .inr ⟨g.h _ _ e.2 e.1, e.2⟩
theorem RdL.get {fp : List Addr} {Z H : Hp} {p : Addr} {vs : List V} (s : Same Z H) (h : RdL fp Z H p vs) : H p = some (.lst vs) := h.elim (fun e => s _ _ e) fun e => e.1
def li {fp : List Addr} {α : Type} (τ : Ty α) (xs : List α) : Rr fp := ⟨fun Z H v => ∃ p vs, v = .ref p ∧ RdL fp Z H p vs ∧ All (τ.r Z) vs xs ∧ xs.length ≤ sizeLine,
  fun g ⟨p, vs, e, h, t, l⟩ => ⟨p, vs, e, h.st g, t.imp fun _ _ => τ.mono g.z, l⟩⟩
/-- an address, whatever stands there -/
def isRef {fp : List Addr} (a : Addr) : Rr fp := ⟨fun _ _ v => v = .ref a, fun _ h => h⟩
def ra0 {fp : List Addr} : Ra fp := ⟨fun _ _ vs => vs = [], fun _ h => h⟩
def rac {fp : List Addr} (R : Rr fp) (Rs : Ra fp) : Ra fp := ⟨fun Z H vs => ∃ v r, vs = v :: r ∧ R.r Z H v ∧ Rs.r Z H r, fun g ⟨v, r, e, h, t⟩ => ⟨v, r, e, R.st g h, Rs.st g t⟩⟩

section
variable {μ : Type}
/-- from the state s the expression gives a value of which R is true, and the state s' -/
def Ev (M : Mu μ) (t : TE) (σ : L2.St) (Z H : Hp) (s : μ) (R : Rr M.fp) (s' : μ) : Prop :=
  ∀ Z1 H1, Same Z Z1 → SameX M.fp H H1 → Same Z1 H1 → M.m s Z1 H1 → ∀ Q : VK, (∀ v Z2 H2, Step M.fp Z1 H1 Z2 H2 → M.m s' Z2 H2 → R.r Z2 H2 v → Q v H2) → t σ H1 Q
def EvT (M : Mu μ) (t : TT) (σ : L2.St) (Z H : Hp) (s : μ) (b : Bool) (s' : μ) : Prop :=
  ∀ Z1 H1, Same Z Z1 → SameX M.fp H H1 → Same Z1 H1 → M.m s Z1 H1 → ∀ Q : Bool → Hp → Prop, (∀ Z2 H2, Step M.fp Z1 H1 Z2 H2 → M.m s' Z2 H2 → Q b H2) → t σ H1 Q
def EvA (M : Mu μ) (t : TA) (σ : L2.St) (Z H : Hp) (s : μ) (Rs : Ra M.fp) (s' : μ) : Prop :=
  ∀ Z1 H1, Same Z Z1 → SameX M.fp H H1 → Same Z1 H1 → M.m s Z1 H1 → ∀ Q : List V → Hp → Prop, (∀ vs Z2 H2, Step M.fp Z1 H1 Z2 H2 → M.m s' Z2 H2 → Rs.r Z2 H2 vs → Q vs H2) → t σ H1 Q
variable {M : Mu μ} {σ : L2.St} {Z H : Hp} {s s' s1 s2 s3 : μ} {ta tb tc te : TE} {t : TA}
theorem Ev.up {t : TE} {R : Rr M.fp} {Z' H' : Hp} (h : Ev M t σ Z H s R s') (z : Same Z Z') (x : SameX M.fp H H') : Ev M t σ Z' H' s R s' := fun Z1 H1 a b => h Z1 H1 (z.trans a) (x.trans b)
theorem Ev.weak {t : TE} {R R' : Rr M.fp} (h : Ev M t σ Z H s R s') (f : ∀ Z H v, Same Z H → R.r Z H v → R'.r Z H v) : Ev M t σ Z H s R' s' := fun Z1 H1 a b c d Q q => h Z1 H1 a b c d Q fun v Z2 H2 e m r => q v Z2 H2 e m (f _ _ _ e.s r)
/-- nothing is done -/
theorem ev_of {t : TE} {R : Rr M.fp} (h : ∀ Z1 H1, Same Z Z1 → SameX M.fp H H1 → Same Z1 H1 → ∀ Q : VK, (∀ v, R.r Z1 H1 v → Q v H1) → t σ H1 Q) : Ev M t σ Z H s R s := fun Z1 H1 a b c d Q q => h Z1 H1 a b c Q fun v r => q v Z1 H1 (Step.refl c) d r
/-- one after the other, by values -/
theorem ev_op {R1 R3 R : Rr M.fp} {r : R2} (ha : Ev M ta σ Z H s R1 s1) (hb : Ev M tb σ Z H s1 R3 s2) (h : ∀ Z H v w, Same Z H → R1.r Z H v → R3.r Z H w → ∀ Q : VK, (∀ u Z2 H2, Step [] Z H Z2 H2 → R.r Z2 H2 u → Q u H2) → r v w H Q) : Ev M (tOp r ta tb) σ Z H s R s2 :=
  fun Z1 H1 a b c d Q q => ha Z1 H1 a b c d _ fun v Z2 H2 e m rv => hb Z2 H2 (a.trans e.z) (b.trans e.h) e.s m _ fun w Z3 H3 e2 m2 rw => h Z3 H3 v w e2.s (R1.st e2 rv) rw _ fun u Z4 H4 e3 ru => q u Z4 H4 ((e.trans e2).trans e3.pure) (M.pure e3 m2) ru
theorem ev_un {R1 R : Rr M.fp} {r : V → Hp → VK → Prop} (ha : Ev M ta σ Z H s R1 s1) (h : ∀ Z H v, Same Z H → R1.r Z H v → ∀ Q : VK, (∀ u Z2 H2, Step [] Z H Z2 H2 → R.r Z2 H2 u → Q u H2) → r v H Q) : Ev M (fun σ H Q => ta σ H fun x H1 => r x H1 Q) σ Z H s R s1 :=
  fun Z1 H1 a b c d Q q => ha Z1 H1 a b c d _ fun v Z2 H2 e m rv => h Z2 H2 v e.s rv _ fun u Z4 H4 e3 ru => q u Z4 H4 (e.trans e3.pure) (M.pure e3 m) ru
theorem eva_nil : EvA M tNil σ Z H s ra0 s := fun Z1 H1 _ _ c d Q q => q [] Z1 H1 (Step.refl c) d rfl
theorem eva_cons {R : Rr M.fp} {Rs : Ra M.fp} (ha : Ev M ta σ Z H s R s1) (hr : EvA M t σ Z H s1 Rs s2) : EvA M (tCons ta t) σ Z H s (rac R Rs) s2 :=
  fun Z1 H1 a b c d Q q => ha Z1 H1 a b c d _ fun v Z2 H2 e m rv => hr Z2 H2 (a.trans e.z) (b.trans e.h) e.s m _ fun vs Z3 H3 e2 m2 rs => q _ Z3 H3 (e.trans e2) m2 ⟨v, vs, rfl, R.st e2 rv, rs⟩
/-- by all arguments -/
theorem ev_cb {Rs : Ra M.fp} {R : Rr M.fp} {r : List V → Hp → VK → Prop} (ha : EvA M t σ Z H s Rs s1) (h : ∀ Z H vs, Same Z H → Rs.r Z H vs → ∀ Q : VK, (∀ u Z2 H2, Step [] Z H Z2 H2 → R.r Z2 H2 u → Q u H2) → r vs H Q) : Ev M (tCB r t) σ Z H s R s1 :=
  fun Z1 H1 a b c d Q q => ha Z1 H1 a b c d _ fun vs Z2 H2 e m rv => h Z2 H2 vs e.s rv _ fun u Z4 H4 e3 ru => q u Z4 H4 (e.trans e3.pure) (M.pure e3 m) ru
/-! names and constants -/
theorem ev_var {i : Nat} {v : V} {α : Type} {τ : Ty α} {x : α} (e : σ[i]? = some (some v)) (h : τ.r Z v x) : Ev M (tVar i) σ Z H s (ty τ x) s := ev_of fun _ _ a _ _ _ q => ⟨v, e, q v (τ.mono a h)⟩
/-- a list of one's own -/
theorem ev_own {i : Nat} {p : Addr} {vs : List V} {α : Type} {τ : Ty α} {xs : List α} (e : σ[i]? = some (some (.ref p))) (h : H p = some (.lst vs)) (n : p ∉ M.fp) (t : All (τ.r Z) vs xs) (l : xs.length ≤ sizeLine) : Ev M (tVar i) σ Z H s (li τ xs) s :=
  ev_of fun _ _ a b _ _ q => ⟨.ref p, e, q _ ⟨p, vs, rfl, .inr ⟨b _ _ n h, n⟩, t.imp fun _ _ => τ.mono a, l⟩⟩
theorem ev_ref {i : Nat} {p : Addr} (e : σ[i]? = some (some (.ref p))) : Ev M (tVar i) σ Z H s (isRef p) s := ev_of fun _ _ _ _ _ _ q => ⟨_, e, q _ rfl⟩
theorem ev_int {i : Int} : Ev M (tC (.int i)) σ Z H s (ty yInt i) s := ev_of fun _ _ _ _ _ _ q => q _ rfl
theorem ev_bl {i : Bool} : Ev M (tC (.bl i)) σ Z H s (ty yBool i) s := ev_of fun _ _ _ _ _ _ q => q _ rfl
theorem ev_str {i : Str} (h : okS i = true := by decide +kernel) : Ev M (tC (.str i)) σ Z H s (ty yStr i) s := ev_of fun _ _ _ _ _ _ q => q _ ⟨rfl, h⟩
theorem ev_non : Ev M (tC .non) σ Z H s (ty yNon ()) s := ev_of fun _ _ _ _ _ _ q => q _ rfl
theorem ev_const {v : V} {α : Type} {τ : Ty α} {x : α} (h : ∀ Z, τ.r Z v x) : Ev M (tC v) σ Z H s (ty τ x) s := ev_of fun _ _ _ _ _ _ q => q _ (h _)
theorem ev_li {α : Type} {τ : Ty α} {xs : List α} (h : Ev M ta σ Z H s (ty (yList τ) xs) s') : Ev M ta σ Z H s (li τ xs) s' := h.weak fun _ _ _ _ ⟨a, vs, e, g, t, l⟩ => ⟨a, vs, e, .inl g, t, l⟩
theorem ev_none {α : Type} {τ : Ty α} (h : Ev M ta σ Z H s (ty yNon ()) s') : Ev M ta σ Z H s (ty (yOpt τ) none) s' := h.weak fun _ _ _ _ e => e
/-- of this kind nothing is None -/
def NonNil {α : Type} (τ : Ty α) : Prop := ∀ Z v x, τ.r Z v x → v ≠ .non
theorem nn_int : NonNil yInt := fun _ _ _ e => by rw [show _ = V.int _ from e]; exact fun z => nomatch z
theorem nn_bool : NonNil yBool := fun _ _ _ e => by rw [show _ = V.bl _ from e]; exact fun z => nomatch z
theorem nn_str : NonNil yStr := fun _ _ _ e => by rw [show _ = V.str _ from e.1]; exact fun z => nomatch z
theorem nn_list {α : Type} {τ : Ty α} : NonNil (yList τ) := fun _ _ _ ⟨_, _, e, _⟩ => by rw [e]; exact fun z => nomatch z
theorem nn_tup {K : PySem.W.Frag} {α : Type} {τ : Ty α} : NonNil (yTup K τ) := fun _ _ _ ⟨_, _, e, _⟩ => by rw [e]; exact fun z => nomatch z
theorem nn_p2 {K : PySem.W.Frag} {α β : Type} {τ : Ty α} {υ : Ty β} : NonNil (yP2 K τ υ) := fun _ _ _ ⟨_, _, _, e, _⟩ => by rw [e]; exact fun z => nomatch z
theorem nn_p3 {K : PySem.W.Frag} {α β γ : Type} {τ : Ty α} {υ : Ty β} {φ : Ty γ} : NonNil (yP3 K τ υ φ) := fun _ _ _ ⟨_, _, _, _, e, _⟩ => by rw [e]; exact fun z => nomatch z
theorem nn_p4 {K : PySem.W.Frag} {α β γ δ : Type} {τ : Ty α} {υ : Ty β} {φ : Ty γ} {ψ : Ty δ} : NonNil (yP4 K τ υ φ ψ) := fun _ _ _ ⟨_, _, _, _, _, e, _⟩ => by rw [e]; exact fun z => nomatch z
theorem ev_some {α : Type} {τ : Ty α} {x : α} (n : NonNil τ) (h : Ev M ta σ Z H s (ty τ x) s') : Ev M ta σ Z H s (ty (yOpt τ) (some x)) s' := h.weak fun _ _ _ _ e => ⟨e, n _ _ _ e⟩
theorem ev_uno {α : Type} {τ : Ty α} {x : α} {o : Option α} (h : Ev M ta σ Z H s (ty (yOpt τ) o) s') (e : o = some x) : Ev M ta σ Z H s (ty τ x) s' := by
  subst e; exact h.weak fun _ _ _ _ e => e.1
theorem ev_cast {α : Type} {τ : Ty α} {x y : α} (h : Ev M ta σ Z H s (ty τ x) s') (e : x = y) : Ev M ta σ Z H s (ty τ y) s' := e ▸ h
/-! numbers -/
section
variable {i j : Int}
theorem ev_I0 {g : Int → Int → V} {R : Rr M.fp} (ha : Ev M ta σ Z H s (ty yInt i) s1) (hb : Ev M tb σ Z H s1 (ty yInt j) s2) (h : ∀ Z H, R.r Z H (g i j)) : Ev M (tOp (rI0 g) ta tb) σ Z H s R s2 :=
  ev_op ha hb fun _ _ _ _ sz e1 e2 _ q => ⟨i, j, e1, e2, q _ _ _ (Step.refl sz) (h _ _)⟩
theorem ev_I1 {C : Int → Int → Prop} {g : Int → Int → V} {R : Rr M.fp} (ha : Ev M ta σ Z H s (ty yInt i) s1) (hb : Ev M tb σ Z H s1 (ty yInt j) s2) (c : C i j) (h : ∀ Z H, R.r Z H (g i j)) : Ev M (tOp (rI C g) ta tb) σ Z H s R s2 :=
  ev_op ha hb fun _ _ _ _ sz e1 e2 _ q => ⟨i, j, e1, e2, c, q _ _ _ (Step.refl sz) (h _ _)⟩
theorem ev_add (ha : Ev M ta σ Z H s (ty yInt i) s1) (hb : Ev M tb σ Z H s1 (ty yInt j) s2) : Ev M (tOp (rI0 fun i j => .int (i + j)) ta tb) σ Z H s (ty yInt (i + j)) s2 := ev_I0 ha hb fun _ _ => rfl
theorem ev_sub (ha : Ev M ta σ Z H s (ty yInt i) s1) (hb : Ev M tb σ Z H s1 (ty yInt j) s2) : Ev M (tOp (rI0 fun i j => .int (i - j)) ta tb) σ Z H s (ty yInt (i - j)) s2 := ev_I0 ha hb fun _ _ => rfl
theorem ev_mul (ha : Ev M ta σ Z H s (ty yInt i) s1) (hb : Ev M tb σ Z H s1 (ty yInt j) s2) (c : CMul i j) : Ev M (tOp (rI CMul fun i j => .int (i * j)) ta tb) σ Z H s (ty yInt (i * j)) s2 := ev_I1 ha hb c fun _ _ => rfl
theorem ev_fdiv (ha : Ev M ta σ Z H s (ty yInt i) s1) (hb : Ev M tb σ Z H s1 (ty yInt j) s2) (c : CDiv i j) : Ev M (tOp (rI CDiv fun i j => .int (i / j)) ta tb) σ Z H s (ty yInt (i / j)) s2 := ev_I1 ha hb c fun _ _ => rfl
theorem ev_mod (ha : Ev M ta σ Z H s (ty yInt i) s1) (hb : Ev M tb σ Z H s1 (ty yInt j) s2) (c : 0 < j) : Ev M (tOp (rI (fun _ j => 0 < j) fun i j => .int (i % j)) ta tb) σ Z H s (ty yInt (i % j)) s2 := ev_I1 (C := fun _ j => 0 < j) ha hb c fun _ _ => rfl
theorem ev_pow (ha : Ev M ta σ Z H s (ty yInt i) s1) (hb : Ev M tb σ Z H s1 (ty yInt j) s2) (c : CPow i j) : Ev M (tOp (rI CPow fun i j => .int (i ^ j.toNat)) ta tb) σ Z H s (ty yInt (i ^ j.toNat)) s2 := ev_I1 ha hb c fun _ _ => rfl
theorem ev_tun {R1 R : Rr M.fp} {r : V → Hp → VK → Prop} (ha : Ev M ta σ Z H s R1 s1) (h : ∀ Z H v, Same Z H → R1.r Z H v → ∀ Q : VK, (∀ u Z2 H2, Step [] Z H Z2 H2 → R.r Z2 H2 u → Q u H2) → r v H Q) : Ev M (tUn r ta) σ Z H s R s1 :=
  fun Z1 H1 a b c d Q q => ha Z1 H1 a b c d _ fun v Z2 H2 e m rv => h Z2 H2 v e.s rv _ fun u Z4 H4 e3 ru => q u Z4 H4 (e.trans e3.pure) (M.pure e3 m) ru
theorem ev_neg (ha : Ev M ta σ Z H s (ty yInt i) s1) : Ev M (tUn (rU fun i => .int (-i)) ta) σ Z H s (ty yInt (-i)) s1 := ev_tun ha fun _ _ _ sz e _ q => ⟨i, e, q _ _ _ (Step.refl sz) rfl⟩
theorem ev_lt (ha : Ev M ta σ Z H s (ty yInt i) s1) (hb : Ev M tb σ Z H s1 (ty yInt j) s2) : Ev M (tOp (rI0 fun i j => .bl (decide (i < j))) ta tb) σ Z H s (ty yBool (decide (i < j))) s2 := ev_I0 ha hb fun _ _ => rfl
theorem ev_le (ha : Ev M ta σ Z H s (ty yInt i) s1) (hb : Ev M tb σ Z H s1 (ty yInt j) s2) : Ev M (tOp (rI0 fun i j => .bl (decide (i ≤ j))) ta tb) σ Z H s (ty yBool (decide (i ≤ j))) s2 := ev_I0 ha hb fun _ _ => rfl
theorem ev_gt (ha : Ev M ta σ Z H s (ty yInt i) s1) (hb : Ev M tb σ Z H s1 (ty yInt j) s2) : Ev M (tOp (rI0 fun i j => .bl (decide (j < i))) ta tb) σ Z H s (ty yBool (decide (j < i))) s2 := ev_I0 ha hb fun _ _ => rfl
theorem ev_ge (ha : Ev M ta σ Z H s (ty yInt i) s1) (hb : Ev M tb σ Z H s1 (ty yInt j) s2) : Ev M (tOp (rI0 fun i j => .bl (decide (j ≤ i))) ta tb) σ Z H s (ty yBool (decide (j ≤ i))) s2 := ev_I0 ha hb fun _ _ => rfl
end
/-! equality of flat things -/
/-- flat: the value is told by the thing alone -/
structure Flat {α : Type} (τ : Ty α) (f : α → V) : Prop where
  eq : ∀ Z v x, τ.r Z v x → v = f x
  inj : ∀ x y, f x = f y → x = y
  sc : ∀ x y, scal (f x) (f y) = true
theorem flat_int : Flat yInt V.int := ⟨fun _ _ _ h => h, fun _ _ h => V.int.inj h, fun _ _ => rfl⟩
theorem flat_str : Flat yStr V.str := ⟨fun _ _ _ h => h.1, fun _ _ h => V.str.inj h, fun _ _ => rfl⟩
theorem flat_bool : Flat yBool V.bl := ⟨fun _ _ _ h => h, fun _ _ h => V.bl.inj h, fun _ _ => rfl⟩
section
variable {α : Type} {τ : Ty α} {f : α → V} {x y : α}
theorem ev_eq [DecidableEq α] (F : Flat τ f) (ha : Ev M ta σ Z H s (ty τ x) s1) (hb : Ev M tb σ Z H s1 (ty τ y) s2) : Ev M (tOp rEq ta tb) σ Z H s (ty yBool (decide (x = y))) s2 :=
  ev_op ha hb fun Z H v w sz e1 e2 Q q => by
    rw [F.eq _ _ _ e1, F.eq _ _ _ e2]
    have : decide (f x = f y) = decide (x = y) := decide_eq_decide.mpr ⟨F.inj x y, congrArg f⟩
    exact ⟨F.sc _ _, q _ _ _ (Step.refl sz) (congrArg V.bl this)⟩
theorem ev_ne [DecidableEq α] (F : Flat τ f) (ha : Ev M ta σ Z H s (ty τ x) s1) (hb : Ev M tb σ Z H s1 (ty τ y) s2) : Ev M (tOp rNe ta tb) σ Z H s (ty yBool (!decide (x = y))) s2 :=
  ev_op ha hb fun Z H v w sz e1 e2 Q q => by
    rw [F.eq _ _ _ e1, F.eq _ _ _ e2]
    have : decide (f x = f y) = decide (x = y) := decide_eq_decide.mpr ⟨F.inj x y, congrArg f⟩
    exact ⟨F.sc _ _, q _ _ _ (Step.refl sz) (congrArg (fun b => V.bl (!b)) this)⟩
end
theorem ev_isN {α : Type} {τ : Ty α} {o : Option α} (ha : Ev M ta σ Z H s (ty (yOpt τ) o) s1) (hb : Ev M tb σ Z H s1 (ty yNon ()) s2) : Ev M (tOp (fun x y H Q => y = .non ∧ Q (.bl (decide (x = .non))) H) ta tb) σ Z H s (ty yBool o.isNone) s2 :=
  ev_op ha hb fun Z H v w sz e1 e2 Q q => by
    refine ⟨e2, q _ _ _ (Step.refl sz) ?_⟩
    cases o with
    | none => rw [show v = .non from e1]; rfl
    | some y => rw [show decide (v = .non) = false from decide_eq_false e1.2]; rfl
theorem ev_notN {α : Type} {τ : Ty α} {o : Option α} (ha : Ev M ta σ Z H s (ty (yOpt τ) o) s1) (hb : Ev M tb σ Z H s1 (ty yNon ()) s2) : Ev M (tOp (fun x y H Q => y = .non ∧ Q (.bl (!decide (x = .non))) H) ta tb) σ Z H s (ty yBool o.isSome) s2 :=
  ev_op ha hb fun Z H v w sz e1 e2 Q q => by
    refine ⟨e2, q _ _ _ (Step.refl sz) ?_⟩
    cases o with
    | none => rw [show v = .non from e1]; rfl
    | some y => rw [show decide (v = .non) = false from decide_eq_false e1.2]; rfl
/-! and, or, not, if, as values -/
theorem ev_and {a b : Bool} {o : Option (Bool × μ)} (ha : Ev M ta σ Z H s (ty yBool a) s1) (hb : a = true → ∀ y s', o = some (y, s') → Ev M tb σ Z H s1 (ty yBool y) s') (h : (if a = true then o else some (false, s1)) = some (b, s2)) : Ev M (tAndV ta tb) σ Z H s (ty yBool b) s2 :=
  fun Z1 H1 p q r d Q k => ha Z1 H1 p q r d _ fun v Z2 H2 e m rv => ⟨a, rv, by
    cases a with
    | true => rw [if_pos rfl] at h ⊢; exact hb rfl b s2 h Z2 H2 (p.trans e.z) (q.trans e.h) e.s m _ fun w Z3 H3 e2 m2 rw => k w Z3 H3 (e.trans e2) m2 rw
    | false => rw [if_neg Bool.false_ne_true] at h ⊢; cases h; exact k _ Z2 H2 e m rfl⟩
theorem ev_or {a b : Bool} {o : Option (Bool × μ)} (ha : Ev M ta σ Z H s (ty yBool a) s1) (hb : a = false → ∀ y s', o = some (y, s') → Ev M tb σ Z H s1 (ty yBool y) s') (h : (if a = true then some (true, s1) else o) = some (b, s2)) : Ev M (tOrV ta tb) σ Z H s (ty yBool b) s2 :=
  fun Z1 H1 p q r d Q k => ha Z1 H1 p q r d _ fun v Z2 H2 e m rv => ⟨a, rv, by
    cases a with
    | false => rw [if_neg Bool.false_ne_true] at h ⊢; exact hb rfl b s2 h Z2 H2 (p.trans e.z) (q.trans e.h) e.s m _ fun w Z3 H3 e2 m2 rw => k w Z3 H3 (e.trans e2) m2 rw
    | true => rw [if_pos rfl] at h ⊢; cases h; exact k _ Z2 H2 e m rfl⟩
theorem ev_and0 {a b : Bool} (ha : Ev M ta σ Z H s (ty yBool a) s1) (hb : Ev M tb σ Z H s1 (ty yBool b) s1) : Ev M (tAndV ta tb) σ Z H s (ty yBool (a && b)) s1 :=
  ev_and (o := some (b, s1)) ha (fun _ y s' e => by cases e; exact hb) (by cases a <;> rfl)
theorem ev_or0 {a b : Bool} (ha : Ev M ta σ Z H s (ty yBool a) s1) (hb : Ev M tb σ Z H s1 (ty yBool b) s1) : Ev M (tOrV ta tb) σ Z H s (ty yBool (a || b)) s1 :=
  ev_or (o := some (b, s1)) ha (fun _ y s' e => by cases e; exact hb) (by cases a <;> rfl)
theorem ev_not {a : Bool} (ha : Ev M ta σ Z H s (ty yBool a) s1) : Ev M (tNotV ta) σ Z H s (ty yBool (!a)) s1 :=
  fun Z1 H1 p q r d Q k => ha Z1 H1 p q r d _ fun v Z2 H2 e m rv => ⟨a, rv, k _ Z2 H2 e m rfl⟩
theorem ev_if {tt : TT} {a : Bool} {R : Rr M.fp} (ht : EvT M tt σ Z H s a s1) (ha : a = true → Ev M ta σ Z H s1 R s2) (hb : a = false → Ev M tb σ Z H s1 R s2) : Ev M (tIf tt ta tb) σ Z H s R s2 :=
  fun Z1 H1 p q r d Q k => ht Z1 H1 p q r d _ fun Z2 H2 e m => by
    cases a with
    | true => rw [if_pos rfl]; exact ha rfl Z2 H2 (p.trans e.z) (q.trans e.h) e.s m _ fun w Z3 H3 e2 m2 rw => k w Z3 H3 (e.trans e2) m2 rw
    | false => rw [if_neg Bool.false_ne_true]; exact hb rfl Z2 H2 (p.trans e.z) (q.trans e.h) e.s m _ fun w Z3 H3 e2 m2 rw => k w Z3 H3 (e.trans e2) m2 rw
theorem ev_if0 {tt : TT} {a : Bool} {α : Type} {τ : Ty α} {x y : α} (ht : EvT M tt σ Z H s a s1) (ha : Ev M ta σ Z H s1 (ty τ x) s1) (hb : Ev M tb σ Z H s1 (ty τ y) s1) : Ev M (tIf tt ta tb) σ Z H s (ty τ (if a = true then x else y)) s1 :=
  ev_if ht (fun e => by rw [if_pos e]; exact ha) (fun e => by rw [if_neg (by rw [e]; exact Bool.false_ne_true)]; exact hb)
/-! tests -/
theorem et_val {a : Bool} (h : Ev M te σ Z H s (ty yBool a) s1) : EvT M (tB te) σ Z H s a s1 := fun Z1 H1 p q r d _ k => h Z1 H1 p q r d _ fun _ Z2 H2 e m rv => ⟨a, rv, k Z2 H2 e m⟩
theorem et_cmp {a : Bool} (h : Ev M te σ Z H s (ty yBool a) s1) : EvT M (tTest te) σ Z H s a s1 := fun Z1 H1 p q r d _ k => h Z1 H1 p q r d _ fun _ Z2 H2 e m rv => ⟨a, rv, k Z2 H2 e m⟩
section
variable {tA tB' : TT} {a b : Bool}
theorem et_and {o : Option (Bool × μ)} (ha : EvT M tA σ Z H s a s1) (hb : a = true → ∀ y s', o = some (y, s') → EvT M tB' σ Z H s1 y s') (h : (if a = true then o else some (false, s1)) = some (b, s2)) : EvT M (tAnd tA tB') σ Z H s b s2 :=
  fun Z1 H1 p q r d Q k => ha Z1 H1 p q r d _ fun Z2 H2 e m => by
    cases a with
    | true => rw [if_pos rfl] at h ⊢; exact hb rfl b s2 h Z2 H2 (p.trans e.z) (q.trans e.h) e.s m _ fun Z3 H3 e2 m2 => k Z3 H3 (e.trans e2) m2
    | false => rw [if_neg Bool.false_ne_true] at h ⊢; cases h; exact k Z2 H2 e m
theorem et_or {o : Option (Bool × μ)} (ha : EvT M tA σ Z H s a s1) (hb : a = false → ∀ y s', o = some (y, s') → EvT M tB' σ Z H s1 y s') (h : (if a = true then some (true, s1) else o) = some (b, s2)) : EvT M (tOr tA tB') σ Z H s b s2 :=
  fun Z1 H1 p q r d Q k => ha Z1 H1 p q r d _ fun Z2 H2 e m => by
    cases a with
    | false => rw [if_neg Bool.false_ne_true] at h ⊢; exact hb rfl b s2 h Z2 H2 (p.trans e.z) (q.trans e.h) e.s m _ fun Z3 H3 e2 m2 => k Z3 H3 (e.trans e2) m2
    | true => rw [if_pos rfl] at h ⊢; cases h; exact k Z2 H2 e m
theorem et_and0 (ha : EvT M tA σ Z H s a s1) (hb : EvT M tB' σ Z H s1 b s1) : EvT M (tAnd tA tB') σ Z H s (a && b) s1 := et_and (o := some (b, s1)) ha (fun _ y s' e => by cases e; exact hb) (by cases a <;> rfl)
theorem et_or0 (ha : EvT M tA σ Z H s a s1) (hb : EvT M tB' σ Z H s1 b s1) : EvT M (tOr tA tB') σ Z H s (a || b) s1 := et_or (o := some (b, s1)) ha (fun _ y s' e => by cases e; exact hb) (by cases a <;> rfl)
theorem et_not (ha : EvT M tA σ Z H s a s1) : EvT M (tNot tA) σ Z H s (!a) s1 := fun Z1 H1 p q r d _ k => ha Z1 H1 p q r d _ k
end
end
end TP

namespace TP
open PySem PySem.Spec PyProof.Rows L2
instance {i j : Int} : Decidable (CMul i j) := inferInstanceAs (Decidable ((_ ∧ _) ∨ (_ ∧ _)))
instance {i j : Int} : Decidable (CDiv i j) := inferInstanceAs (Decidable (_ ∧ _))
instance {i j : Int} : Decidable (CPow i j) := inferInstanceAs (Decidable (_ ∧ _ ∧ _))
section
variable {μ : Type} {M : Mu μ} {σ : L2.St} {Z H : Hp} {s s' s1 s2 s3 : μ} {ta tb tc te : TE} {t : TA} {K : PySem.W.Frag}
theorem same_x {S : List Addr} {Z H Z1 H1 : Hp} (g : Step S Z H Z1 H1) {p : Addr} (h : H1 p = none) : H p = none := by
  cases q : H p with
  | none => rfl
  | some o => exact absurd h (g.al p (some_ne q))
theorem fresh_fp {fp : List Addr} {Z H : Hp} {p : Addr} {o : HO} (sz : Same Z H) (hp : H p = none) : Step fp Z H (upd Z p o) (upd H p o) := (Step.new sz hp).pure
/-! ### texts -/
theorem okS_app {x y : Str} (hx : okS x = true) (hy : okS y = true) (l : x.length + y.length ≤ sizeLine) : okS (x ++ y) = true := by
  unfold okS PyData.strOk at *
  rw [Bool.and_eq_true] at hx hy ⊢
  refine ⟨?_, ?_⟩
  · have e : (x ++ y).cps = x.cps ++ y.cps := rfl
    rw [e, Array.all_append, hx.1, hy.1]; rfl
  · refine decide_eq_true ?_
    have e : (x ++ y).length = x.length + y.length := by
      show (x.cps ++ y.cps).size = _
      rw [Array.size_append]; rfl
    omega
theorem ev_cat_str {x y : Str} (ha : Ev M ta σ Z H s (ty yStr x) s1) (hb : Ev M tb σ Z H s1 (ty yStr y) s2) (l : x.length + y.length ≤ sizeLine) : Ev M (tOp (fun x y H Q => ∃ i j, x = .str i ∧ y = .str j ∧ i.length + j.length ≤ sizeLine ∧ Q (.str (i ++ j)) H) ta tb) σ Z H s (ty yStr (x ++ y)) s2 :=
  ev_op ha hb fun _ _ _ _ sz e1 e2 _ q => ⟨x, y, e1.1, e2.1, l, q _ _ _ (Step.refl sz) ⟨rfl, okS_app e1.2 e2.2 l⟩⟩
theorem ev_lt_str {x y : Str} (ha : Ev M ta σ Z H s (ty yStr x) s1) (hb : Ev M tb σ Z H s1 (ty yStr y) s2) : Ev M (tOp (fun x y H Q => ∃ i j, x = .str i ∧ y = .str j ∧ Q (.bl (decide (i.cps.toList < j.cps.toList))) H) ta tb) σ Z H s (ty yBool (decide (x.cps.toList < y.cps.toList))) s2 :=
  ev_op ha hb fun _ _ _ _ sz e1 e2 _ q => ⟨x, y, e1.1, e2.1, q _ _ _ (Step.refl sz) rfl⟩
theorem ev_len_str {x : Str} (ha : Ev M ta σ Z H s (ty yStr x) s1) : Ev M (tCB (fun xs H Q => ∃ z, xs = [.str z] ∧ z.length ≤ sizeLine ∧ Q (.int z.length) H) (tCons ta tNil)) σ Z H s (ty yInt (x.length : Nat)) s1 :=
  ev_cb (eva_cons ha eva_nil) fun _ _ vs sz ⟨v, r, e, h, e2⟩ Q q => ⟨x, by rw [e, h.1, show r = [] from e2], of_decide_eq_true (Bool.and_eq_true_iff.mp (show (PyData.strOk x && decide (x.length ≤ sizeLine)) = true from h.2)).2, q _ _ _ (Step.refl sz) rfl⟩
/-! ### lists and tuples that are made -/
theorem ev_tup {Rs : Ra M.fp} {R : Rr M.fp} (ha : EvA M t σ Z H s Rs s1) (h : ∀ Z H vs, Same Z H → Rs.r Z H vs → vs.length ≤ sizeLine ∧ ∀ p, H p = none → R.r (upd Z p (.tup vs)) (upd H p (.tup vs)) (.ref p)) : Ev M (tTup t) σ Z H s R s1 :=
  fun Z1 H1 a b c d Q q => ha Z1 H1 a b c d _ fun vs Z2 H2 e m rv => by
    obtain ⟨l, hr⟩ := h Z2 H2 vs e.s rv
    exact ⟨l, fun p hp => q _ _ _ (e.trans (fresh_fp e.s hp)) (M.pure (Step.new e.s hp) m) (hr p hp)⟩
theorem ev_lst {Rs : Ra M.fp} {R : Rr M.fp} (ha : EvA M t σ Z H s Rs s1) (h : ∀ Z H vs, Same Z H → Rs.r Z H vs → vs.length ≤ sizeLine ∧ ∀ p, H p = none → R.r (upd Z p (.lst vs)) (upd H p (.lst vs)) (.ref p)) : Ev M (tLst t) σ Z H s R s1 :=
  fun Z1 H1 a b c d Q q => ha Z1 H1 a b c d _ fun vs Z2 H2 e m rv => by
    obtain ⟨l, hr⟩ := h Z2 H2 vs e.s rv
    exact ⟨l, fun p hp => q _ _ _ (e.trans (fresh_fp e.s hp)) (M.pure (Step.new e.s hp) m) (hr p hp)⟩
theorem sqT_new {Z : Hp} {p : Addr} {vs : List V} : SqT K (upd Z p (.tup vs)) p vs := .inl (.inl upd_same)
section
variable {α β γ δ : Type} {τ : Ty α} {υ : Ty β} {φ : Ty γ} {ψ : Ty δ} {x : α} {y : β} {z : γ} {u : δ}
theorem ev_p0 : Ev M (tTup tNil) σ Z H s (ty (yP0 K) ()) s := ev_tup eva_nil fun _ _ vs _ e => ⟨by rw [show vs = [] from e]; exact Nat.zero_le _, fun p _ => ⟨p, rfl, by rw [show vs = [] from e]; exact sqT_new⟩⟩
theorem ev_p1 (ha : EvA M t σ Z H s (rac (ty τ x) ra0) s1) : Ev M (tTup t) σ Z H s (ty (yP1 K τ) x) s1 :=
  ev_tup ha fun Z H vs sz ⟨v1, r1, e1, h1, e2⟩ => by
    cases e2; cases e1
    exact ⟨by show 1 ≤ sizeLine; decide, fun p hp => ⟨p, v1, rfl, sqT_new, τ.mono (same_upd (same_none sz hp)) h1⟩⟩
theorem ev_p2 (ha : EvA M t σ Z H s (rac (ty τ x) (rac (ty υ y) ra0)) s1) : Ev M (tTup t) σ Z H s (ty (yP2 K τ υ) (x, y)) s1 :=
  ev_tup ha fun Z H vs sz ⟨v1, r1, e1, h1, v2, r2, e2, h2, e3⟩ => by
    cases e3; cases e2; cases e1
    exact ⟨by show 2 ≤ sizeLine; decide, fun p hp => have q := same_upd (same_none sz hp); ⟨p, v1, v2, rfl, sqT_new, τ.mono q h1, υ.mono q h2⟩⟩
theorem ev_p3 (ha : EvA M t σ Z H s (rac (ty τ x) (rac (ty υ y) (rac (ty φ z) ra0))) s1) : Ev M (tTup t) σ Z H s (ty (yP3 K τ υ φ) (x, y, z)) s1 :=
  ev_tup ha fun Z H vs sz ⟨v1, r1, e1, h1, v2, r2, e2, h2, v3, r3, e3, h3, e4⟩ => by
    cases e4; cases e3; cases e2; cases e1
    exact ⟨by show 3 ≤ sizeLine; decide, fun p hp => have q := same_upd (same_none sz hp); ⟨p, v1, v2, v3, rfl, sqT_new, τ.mono q h1, υ.mono q h2, φ.mono q h3⟩⟩
theorem ev_p4 (ha : EvA M t σ Z H s (rac (ty τ x) (rac (ty υ y) (rac (ty φ z) (rac (ty ψ u) ra0)))) s1) : Ev M (tTup t) σ Z H s (ty (yP4 K τ υ φ ψ) (x, y, z, u)) s1 :=
  ev_tup ha fun Z H vs sz ⟨v1, r1, e1, h1, v2, r2, e2, h2, v3, r3, e3, h3, v4, r4, e4, h4, e5⟩ => by
    cases e5; cases e4; cases e3; cases e2; cases e1
    exact ⟨by show 4 ≤ sizeLine; decide, fun p hp => have q := same_upd (same_none sz hp); ⟨p, v1, v2, v3, v4, rfl, sqT_new, τ.mono q h1, υ.mono q h2, φ.mono q h3, ψ.mono q h4⟩⟩
/-- arguments all of one kind -/
def ras {fp : List Addr} (τ : Ty α) (xs : List α) : Ra fp := ⟨fun Z _ vs => All (τ.r Z) vs xs, fun g h => h.imp fun _ _ => τ.mono g.z⟩
theorem eva_nils : EvA M tNil σ Z H s (ras τ []) s := fun Z1 H1 _ _ c d Q q => q [] Z1 H1 (Step.refl c) d .nil
theorem eva_conss {xs : List α} (ha : Ev M ta σ Z H s (ty τ x) s1) (hr : EvA M t σ Z H s1 (ras τ xs) s2) : EvA M (tCons ta t) σ Z H s (ras τ (x :: xs)) s2 :=
  fun Z1 H1 a b c d Q q => ha Z1 H1 a b c d _ fun v Z2 H2 e m rv => hr Z2 H2 (a.trans e.z) (b.trans e.h) e.s m _ fun vs Z3 H3 e2 m2 rs => q _ Z3 H3 (e.trans e2) m2 (.cons (τ.mono e2.z rv) rs)
/-- a new list of one's own -/
def EvN {α : Type} (M : Mu μ) (t : TE) (σ : L2.St) (Z H : Hp) (s : μ) (τ : Ty α) (xs : List α) (s' : μ) : Prop :=
  ∀ Z1 H1, Same Z Z1 → SameX M.fp H H1 → Same Z1 H1 → M.m s Z1 H1 → ∀ Q : VK, (∀ p vs Z2 H2, Step M.fp Z1 H1 Z2 H2 → M.m s' Z2 H2 → H1 p = none → Z2 p = none → H2 p = some (.lst vs) → All (τ.r Z2) vs xs → xs.length ≤ sizeLine → Q (.ref p) H2) → t σ H1 Q
theorem Step.fz {S : List Addr} {Z H Z1 H1 : Hp} {x : Addr} {o : HO} (g : Step S Z H Z1 H1) (hx : H x = none) (h1 : H1 x = some o) (hz : Z1 x = none) : Step S Z H (upd Z1 x o) H1 := by
  refine ⟨g.z.trans (same_upd hz), fun a u e => ?_, g.h, fun a h z => ?_, g.al⟩
  · by_cases q : a = x
    · subst q; rw [upd_same] at e; rw [← Option.some.inj e]; exact h1
    · rw [upd_ne q] at e; exact g.s a u e
  · rw [upd_ne (ne_of_some h hx)]; exact g.n a h z
theorem Mu.fz {M : Mu μ} {s : μ} {Z H : Hp} {x : Addr} {o : HO} (m : M.m s Z H) (hz : Z x = none) (nx : x ∉ M.fp) : M.m s (upd Z x o) H := by
  refine M.loc (same_upd hz) (fun _ _ _ x => x) (fun a ha _ z => ?_) m
  rw [upd_ne (fun q => nx (by rw [← q]; exact ha))]
  exact z
theorem ev_fz {α : Type} {τ : Ty α} {xs : List α} (h : EvN M ta σ Z H s τ xs s1) : Ev M ta σ Z H s (ty (yList τ) xs) s1 :=
  fun Z1 H1 a b c d Q q => h Z1 H1 a b c d Q fun p vs Z2 H2 e m hp zp h2 t l =>
    q _ _ _ (e.fz hp h2 zp) (Mu.fz m zp (fun hf => (M.al d p hf).1 hp)) ⟨p, vs, rfl, upd_same, t.imp fun _ _ => τ.mono (same_upd zp), l⟩
theorem en_op {α : Type} {τ : Ty α} {xs : List α} {R1 R3 : Rr M.fp} {r : R2} (ha : Ev M ta σ Z H s R1 s1) (hb : Ev M tb σ Z H s1 R3 s2) (h : ∀ Z H v w, Same Z H → R1.r Z H v → R3.r Z H w → ∃ vs, All (τ.r Z) vs xs ∧ xs.length ≤ sizeLine ∧ ∀ Q : VK, (∀ p, H p = none → Q (.ref p) (upd H p (.lst vs))) → r v w H Q) : EvN M (tOp r ta tb) σ Z H s τ xs s2 :=
  fun Z1 H1 a b c d Q q => ha Z1 H1 a b c d _ fun v Z2 H2 e m rv => hb Z2 H2 (a.trans e.z) (b.trans e.h) e.s m _ fun w Z3 H3 e2 m2 rw => by
    obtain ⟨vs, t, l, k⟩ := h Z3 H3 v w e2.s (R1.st e2 rv) rw
    refine k _ fun p hp => ?_
    have e3 := Step.own (o := .lst vs) e2.s hp
    exact q p vs Z3 _ ((e.trans e2).trans e3.pure) (M.pure e3 m2) (same_x (e.trans e2) hp) (same_none e2.s hp) upd_same t l
theorem en_cb {α : Type} {τ : Ty α} {xs : List α} {Rs : Ra M.fp} {r : List V → Hp → VK → Prop} (ha : EvA M t σ Z H s Rs s1) (h : ∀ Z H vs, Same Z H → Rs.r Z H vs → ∃ ws, All (τ.r Z) ws xs ∧ xs.length ≤ sizeLine ∧ ∀ Q : VK, (∀ p, H p = none → Q (.ref p) (upd H p (.lst ws))) → r vs H Q) : EvN M (tCB r t) σ Z H s τ xs s1 :=
  fun Z1 H1 a b c d Q q => ha Z1 H1 a b c d _ fun v Z2 H2 e m rv => by
    obtain ⟨vs, t, l, k⟩ := h Z2 H2 v e.s rv
    refine k _ fun p hp => ?_
    have e3 := Step.own (o := .lst vs) e.s hp
    exact q p vs Z2 _ (e.trans e3.pure) (M.pure e3 m) (same_x e hp) (same_none e.s hp) upd_same t l
theorem en_listD {xs : List α} (ha : EvA M t σ Z H s (ras τ xs) s1) (l : xs.length ≤ sizeLine) : EvN M (tLst t) σ Z H s τ xs s1 :=
  fun Z1 H1 a b c d Q q => ha Z1 H1 a b c d _ fun vs Z2 H2 e m rv => ⟨by rw [All.len rv]; exact l, fun p hp => by
    have e3 := Step.own (o := .lst vs) e.s hp
    exact q p vs Z2 _ (e.trans e3.pure) (M.pure e3 m) (same_x e hp) (same_none e.s hp) upd_same rv l⟩
theorem ev_tupD {xs : List α} (ha : EvA M t σ Z H s (ras τ xs) s1) (l : xs.length ≤ sizeLine) : Ev M (tTup t) σ Z H s (ty (yTup K τ) xs) s1 :=
  ev_tup ha fun Z H vs sz h => ⟨by rw [h.len]; exact l, fun p hp => ⟨p, vs, rfl, sqT_new, h.imp fun _ _ => τ.mono (same_upd (same_none sz hp)), l⟩⟩
/-! ### lists and tuples that are read -/
variable {xs ys : List α}
theorem rdl {fp : List Addr} {Z H : Hp} {v : V} (sz : Same Z H) (h : (li (fp := fp) τ xs).r Z H v) : ∃ p vs, v = .ref p ∧ H p = some (.lst vs) ∧ All (τ.r Z) vs xs ∧ xs.length ≤ sizeLine := by
  obtain ⟨p, vs, e, g, t, l⟩ := h
  exact ⟨p, vs, e, g.get sz, t, l⟩
theorem ev_ixL {i : Int} (ha : Ev M ta σ Z H s (li τ xs) s1) (hb : Ev M tb σ Z H s1 (ty yInt i) s2) (e : atI xs i = some x) : Ev M (tOp (rIxL K) ta tb) σ Z H s (ty τ x) s2 :=
  ev_op ha hb fun _ _ _ _ sz e1 e2 _ q => by
    obtain ⟨p, vs, rfl, g, t, _⟩ := rdl sz e1
    obtain ⟨w, hw, rw'⟩ := t.atI e
    exact ⟨p, vs, i, w, rfl, e2, SqL.of g, hw, q _ _ _ (Step.refl sz) rw'⟩
theorem ev_ixT {i : Int} (ha : Ev M ta σ Z H s (ty (yTup K τ) xs) s1) (hb : Ev M tb σ Z H s1 (ty yInt i) s2) (e : atI xs i = some x) : Ev M (tOp (rIxT K) ta tb) σ Z H s (ty τ x) s2 :=
  ev_op ha hb fun _ _ _ _ sz e1 e2 _ q => by
    obtain ⟨p, vs, rfl, g, t, _⟩ := e1
    obtain ⟨w, hw, rw'⟩ := t.atI e
    exact ⟨p, vs, i, w, rfl, e2, seqT_same sz g, hw, q _ _ _ (Step.refl sz) rw'⟩
/-- a part of a tuple by its written place -/
def PartOf {α' β' : Type} (K : PySem.W.Frag) (τ : Ty α') (i : Int) (τ' : Ty β') (f : α' → β') : Prop := ∀ Z v x, τ.r Z v x → ∃ a vs w, v = .ref a ∧ SqT K Z a vs ∧ atI vs i = some w ∧ τ'.r Z w (f x)
theorem po1_0 : PartOf K (yP1 K τ) 0 τ id := fun _ _ _ ⟨a, v1, e, h, h1⟩ => ⟨a, _, v1, e, h, rfl, h1⟩
theorem po2_0 : PartOf K (yP2 K τ υ) 0 τ Prod.fst := fun _ _ _ ⟨a, v1, v2, e, h, h1, _⟩ => ⟨a, _, v1, e, h, rfl, h1⟩
theorem po2_1 : PartOf K (yP2 K τ υ) 1 υ Prod.snd := fun _ _ _ ⟨a, v1, v2, e, h, _, h1⟩ => ⟨a, _, v2, e, h, rfl, h1⟩
theorem po3_0 : PartOf K (yP3 K τ υ φ) 0 τ (fun x => x.1) := fun _ _ _ ⟨a, v1, v2, v3, e, h, h1, _⟩ => ⟨a, _, v1, e, h, rfl, h1⟩
theorem po3_1 : PartOf K (yP3 K τ υ φ) 1 υ (fun x => x.2.1) := fun _ _ _ ⟨a, v1, v2, v3, e, h, _, h1, _⟩ => ⟨a, _, v2, e, h, rfl, h1⟩
theorem po3_2 : PartOf K (yP3 K τ υ φ) 2 φ (fun x => x.2.2) := fun _ _ _ ⟨a, v1, v2, v3, e, h, _, _, h1⟩ => ⟨a, _, v3, e, h, rfl, h1⟩
theorem po4_0 : PartOf K (yP4 K τ υ φ ψ) 0 τ (fun x => x.1) := fun _ _ _ ⟨a, v1, v2, v3, v4, e, h, h1, _⟩ => ⟨a, _, v1, e, h, rfl, h1⟩
theorem po4_1 : PartOf K (yP4 K τ υ φ ψ) 1 υ (fun x => x.2.1) := fun _ _ _ ⟨a, v1, v2, v3, v4, e, h, _, h1, _⟩ => ⟨a, _, v2, e, h, rfl, h1⟩
theorem po4_2 : PartOf K (yP4 K τ υ φ ψ) 2 φ (fun x => x.2.2.1) := fun _ _ _ ⟨a, v1, v2, v3, v4, e, h, _, _, h1, _⟩ => ⟨a, _, v3, e, h, rfl, h1⟩
theorem po4_3 : PartOf K (yP4 K τ υ φ ψ) 3 ψ (fun x => x.2.2.2) := fun _ _ _ ⟨a, v1, v2, v3, v4, e, h, _, _, _, h1⟩ => ⟨a, _, v4, e, h, rfl, h1⟩
theorem ev_part {i : Int} {f : α → β} (P : PartOf K τ i υ f) (ha : Ev M ta σ Z H s (ty τ x) s1) (hb : Ev M tb σ Z H s1 (ty yInt i) s2) : Ev M (tOp (rIxT K) ta tb) σ Z H s (ty υ (f x)) s2 :=
  ev_op ha hb fun _ _ _ _ sz e1 e2 _ q => by
    obtain ⟨p, vs, w, rfl, g, hw, rw'⟩ := P _ _ _ e1
    exact ⟨p, vs, i, w, rfl, e2, seqT_same sz g, hw, q _ _ _ (Step.refl sz) rw'⟩
theorem ev_len {r : List V → Hp → VK → Prop} (hr : ∀ xs H Q, (∃ p ys, xs = [.ref p] ∧ (SqL K H p ys ∨ SqT K H p ys) ∧ Q (.int ys.length) H) → r xs H Q) (ha : Ev M ta σ Z H s (li τ xs) s1) : Ev M (tCB r (tCons ta tNil)) σ Z H s (ty yInt (xs.length : Nat)) s1 :=
  ev_cb (eva_cons ha eva_nil) fun _ _ _ sz ⟨v, r, e, h, e2⟩ _ q => by
    cases e2; cases e
    obtain ⟨p, vs, rfl, g, t, _⟩ := rdl sz h
    exact hr _ _ _ ⟨p, vs, rfl, .inl (SqL.of g), by rw [t.len]; exact q _ _ _ (Step.refl sz) rfl⟩
theorem ev_lenT {r : List V → Hp → VK → Prop} (hr : ∀ xs H Q, (∃ p ys, xs = [.ref p] ∧ (SqL K H p ys ∨ SqT K H p ys) ∧ Q (.int ys.length) H) → r xs H Q) (ha : Ev M ta σ Z H s (ty (yTup K τ) xs) s1) : Ev M (tCB r (tCons ta tNil)) σ Z H s (ty yInt (xs.length : Nat)) s1 :=
  ev_cb (eva_cons ha eva_nil) fun _ _ _ sz ⟨v, r, e, h, e2⟩ _ q => by
    cases e2; cases e
    obtain ⟨p, vs, rfl, g, t, _⟩ := h
    exact hr _ _ _ ⟨p, vs, rfl, .inr (seqT_same sz g), by rw [t.len]; exact q _ _ _ (Step.refl sz) rfl⟩
theorem en_list_of {r : List V → Hp → VK → Prop} (hr : ∀ xs H Q, (∃ p ys, xs = [.ref p] ∧ (SqL K H p ys ∨ SqT K H p ys) ∧ ∀ l, H l = none → Q (.ref l) (upd H l (.lst ys))) → r xs H Q) (ha : Ev M ta σ Z H s (li τ xs) s1) : EvN M (tCB r (tCons ta tNil)) σ Z H s τ xs s1 :=
  en_cb (eva_cons ha eva_nil) fun _ _ _ sz ⟨v, r, e, h, e2⟩ => by
    cases e2; cases e
    obtain ⟨p, vs, rfl, g, t, l⟩ := rdl sz h
    exact ⟨vs, t, l, fun Q q => hr _ _ _ ⟨p, vs, rfl, .inl (SqL.of g), q⟩⟩
theorem en_list_ofT {r : List V → Hp → VK → Prop} (hr : ∀ xs H Q, (∃ p ys, xs = [.ref p] ∧ (SqL K H p ys ∨ SqT K H p ys) ∧ ∀ l, H l = none → Q (.ref l) (upd H l (.lst ys))) → r xs H Q) (ha : Ev M ta σ Z H s (ty (yTup K τ) xs) s1) : EvN M (tCB r (tCons ta tNil)) σ Z H s τ xs s1 :=
  en_cb (eva_cons ha eva_nil) fun _ _ _ sz ⟨v, r, e, h, e2⟩ => by
    cases e2; cases e
    obtain ⟨p, vs, rfl, g, t, l⟩ := h
    exact ⟨vs, t, l, fun Q q => hr _ _ _ ⟨p, vs, rfl, .inr (seqT_same sz g), q⟩⟩
theorem ev_tuple_of {r : List V → Hp → VK → Prop} (hr : ∀ xs H Q, (∃ p ys, xs = [.ref p] ∧ ((SqL K H p ys ∧ ∀ l, H l = none → Q (.ref l) (upd H l (.tup ys))) ∨ (SqT K H p ys ∧ Q (.ref p) H))) → r xs H Q) (ha : Ev M ta σ Z H s (li τ xs) s1) : Ev M (tCB r (tCons ta tNil)) σ Z H s (ty (yTup K τ) xs) s1 :=
  ev_cb (eva_cons ha eva_nil) fun _ _ _ sz ⟨v, r, e, h, e2⟩ _ q => by
    cases e2; cases e
    obtain ⟨p, vs, rfl, g, t, l⟩ := rdl sz h
    exact hr _ _ _ ⟨p, vs, rfl, .inl ⟨SqL.of g, fun d hd => q _ _ _ (Step.new sz hd) ⟨d, vs, rfl, sqT_new, t.imp fun _ _ => τ.mono (same_upd (same_none sz hd)), l⟩⟩⟩
theorem ev_tuple_ofT {r : List V → Hp → VK → Prop} (hr : ∀ xs H Q, (∃ p ys, xs = [.ref p] ∧ ((SqL K H p ys ∧ ∀ l, H l = none → Q (.ref l) (upd H l (.tup ys))) ∨ (SqT K H p ys ∧ Q (.ref p) H))) → r xs H Q) (ha : Ev M ta σ Z H s (ty (yTup K τ) xs) s1) : Ev M (tCB r (tCons ta tNil)) σ Z H s (ty (yTup K τ) xs) s1 :=
  ev_cb (eva_cons ha eva_nil) fun _ _ _ sz ⟨v, r, e, h, e2⟩ _ q => by
    cases e2; cases e
    obtain ⟨p, vs, rfl, g, t, l⟩ := h
    exact hr _ _ _ ⟨p, vs, rfl, .inr ⟨seqT_same sz g, q _ _ _ (Step.refl sz) ⟨p, vs, rfl, g, t, l⟩⟩⟩
/-- a pair, as a tuple of a pair: itself -/
theorem ev_tuple_id {r : List V → Hp → VK → Prop} (hr : ∀ xs H Q, (∃ p ys, xs = [.ref p] ∧ ((SqL K H p ys ∧ ∀ l, H l = none → Q (.ref l) (upd H l (.tup ys))) ∨ (SqT K H p ys ∧ Q (.ref p) H))) → r xs H Q) (hτ : ∀ Z v x, τ.r Z v x → ∃ p ys, v = .ref p ∧ SqT K Z p ys) (ha : Ev M ta σ Z H s (ty τ x) s1) : Ev M (tCB r (tCons ta tNil)) σ Z H s (ty τ x) s1 :=
  ev_cb (eva_cons ha eva_nil) fun _ _ _ sz ⟨v, r, e, h, e2⟩ _ q => by
    cases e2; cases e
    obtain ⟨p, vs, rfl, g⟩ := hτ _ _ _ h
    exact hr _ _ _ ⟨p, vs, rfl, .inr ⟨seqT_same sz g, q _ _ _ (Step.refl sz) h⟩⟩
theorem it_p2 : ∀ Z v x, (yP2 K τ υ).r Z v x → ∃ p ys, v = .ref p ∧ SqT K Z p ys := fun _ _ _ ⟨a, _, _, e, h, _⟩ => ⟨a, _, e, h⟩
theorem it_p3 : ∀ Z v x, (yP3 K τ υ φ).r Z v x → ∃ p ys, v = .ref p ∧ SqT K Z p ys := fun _ _ _ ⟨a, _, _, _, e, h, _⟩ => ⟨a, _, e, h⟩
theorem en_cat (ha : Ev M ta σ Z H s (li τ xs) s1) (hb : Ev M tb σ Z H s1 (li τ ys) s2) (l : xs.length + ys.length ≤ sizeLine) : EvN M (tOp rCat ta tb) σ Z H s τ (xs ++ ys) s2 :=
  en_op ha hb fun _ _ _ _ sz e1 e2 => by
    obtain ⟨p, vs, rfl, g, t, _⟩ := rdl sz e1
    obtain ⟨p2, ws, rfl, g2, t2, _⟩ := rdl sz e2
    exact ⟨vs ++ ws, t.app t2, by rw [List.length_append]; exact l, fun Q q => ⟨p, p2, vs, ws, rfl, rfl, g, g2, by rw [t.len, t2.len]; exact l, q⟩⟩
end
def cutA {α : Type} (xs : List α) (lo hi : Option Int) : List α := (xs.drop (HT.sIx xs.length 0 lo)).take (HT.sIx xs.length xs.length hi - HT.sIx xs.length 0 lo)
theorem All.cut {α : Type} {R : V → α → Prop} {vs : List V} {xs : List α} (h : All R vs xs) (lo hi : Option Int) : All R (cutV vs lo hi) (cutA xs lo hi) := by
  unfold cutV cutA
  rw [h.len]
  exact (h.drop _).take _
theorem cutA_len {α : Type} (xs : List α) (lo hi : Option Int) : (cutA xs lo hi).length ≤ xs.length := by
  unfold cutA
  rw [List.length_take, List.length_drop]
  omega
def EvO (M : Mu μ) (t : TO) (σ : L2.St) (Z H : Hp) (s : μ) (i : Option Int) (s' : μ) : Prop :=
  ∀ Z1 H1, Same Z Z1 → SameX M.fp H H1 → Same Z1 H1 → M.m s Z1 H1 → ∀ Q : Option Int → Hp → Prop, (∀ Z2 H2, Step M.fp Z1 H1 Z2 H2 → M.m s' Z2 H2 → Q i H2) → t σ H1 Q
theorem eo_none : EvO M tNoPart σ Z H s none s := fun Z1 H1 _ _ c d Q q => q Z1 H1 (Step.refl c) d
theorem eo_some {i : Int} (h : Ev M te σ Z H s (ty yInt i) s1) : EvO M (tPart te) σ Z H s (some i) s1 := fun Z1 H1 a b c d Q q => h Z1 H1 a b c d _ fun v Z2 H2 e m rv => ⟨i, rv, q Z2 H2 e m⟩
theorem ev_slice {r : V → Option Int → Option Int → Hp → VK → Prop} {tl th : TO} {lo hi : Option Int} {R R' : Rr M.fp} (ha : Ev M ta σ Z H s R s1) (hl : EvO M tl σ Z H s1 lo s2) (hh : EvO M th σ Z H s2 hi s3)
    (h : ∀ Z H v, Same Z H → R.r Z H v → ∀ Q : VK, (∀ u Z2 H2, Step [] Z H Z2 H2 → R'.r Z2 H2 u → Q u H2) → r v lo hi H Q) : Ev M (tSl r ta tl th) σ Z H s R' s3 :=
  fun Z1 H1 a b c d Q q => ha Z1 H1 a b c d _ fun v Z2 H2 e m rv => hl Z2 H2 (a.trans e.z) (b.trans e.h) e.s m _ fun Z3 H3 e2 m2 => hh Z3 H3 ((a.trans e.z).trans e2.z) ((b.trans e.h).trans e2.h) e2.s m2 _ fun Z4 H4 e3 m3 =>
    h Z4 H4 v e3.s (R.st e3 (R.st e2 rv)) _ fun u Z5 H5 e4 ru => q u Z5 H5 (((e.trans e2).trans e3).trans e4.pure) (M.pure e4 m3) ru
theorem en_slL {α : Type} {τ : Ty α} {xs : List α} {tl th : TO} {lo hi : Option Int} (ha : Ev M ta σ Z H s (li τ xs) s1) (hl : EvO M tl σ Z H s1 lo s2) (hh : EvO M th σ Z H s2 hi s3) : EvN M (tSl (rSlL K) ta tl th) σ Z H s τ (cutA xs lo hi) s3 :=
  fun Z1 H1 a b c d Q q => ha Z1 H1 a b c d _ fun v Z2 H2 e m rv => hl Z2 H2 (a.trans e.z) (b.trans e.h) e.s m _ fun Z3 H3 e2 m2 => hh Z3 H3 ((a.trans e.z).trans e2.z) ((b.trans e.h).trans e2.h) e2.s m2 _ fun Z4 H4 e3 m3 => by
    obtain ⟨p, vs, rfl, g, t, l⟩ := rdl e3.s ((li τ xs).st e3 ((li τ xs).st e2 rv))
    refine ⟨p, vs, rfl, SqL.of g, fun d hd => ?_⟩
    have e4 := Step.own (o := .lst (cutV vs lo hi)) e3.s hd
    exact q d _ Z4 _ (((e.trans e2).trans e3).trans e4.pure) (M.pure e4 m3) (same_x ((e.trans e2).trans e3) hd) (same_none e3.s hd) upd_same (t.cut lo hi) (Nat.le_trans (cutA_len _ _ _) l)
/-- a tuple's slice: the whole is the tuple itself -/
def rSlW (K : PySem.W.Frag) : V → Option Int → Option Int → Hp → VK → Prop := fun x lo hi H Q => ∃ a xs, x = .ref a ∧ SqT K H a xs ∧
  ((HT.sIx xs.length 0 lo = 0 ∧ HT.sIx xs.length xs.length hi = xs.length) → Q (.ref a) H) ∧ (¬ (HT.sIx xs.length 0 lo = 0 ∧ HT.sIx xs.length xs.length hi = xs.length) → ∀ p, H p = none → Q (.ref p) (upd H p (.tup (cutV xs lo hi))))
theorem ev_slT {α : Type} {τ : Ty α} {xs : List α} {tl th : TO} {lo hi : Option Int} (ha : Ev M ta σ Z H s (ty (yTup K τ) xs) s1) (hl : EvO M tl σ Z H s1 lo s2) (hh : EvO M th σ Z H s2 hi s3) : Ev M (tSl (rSlW K) ta tl th) σ Z H s (ty (yTup K τ) (cutA xs lo hi)) s3 :=
  ev_slice ha hl hh fun _ _ _ sz ⟨p, vs, e, g, t, l⟩ _ q => by
    subst e
    refine ⟨p, vs, rfl, seqT_same sz g, fun w => q _ _ _ (Step.refl sz) ⟨p, vs, rfl, g, ?_, Nat.le_trans (cutA_len _ _ _) l⟩, fun _ d hd => q _ _ _ (Step.new sz hd) ⟨d, _, rfl, sqT_new, (t.cut lo hi).imp fun _ _ => τ.mono (same_upd (same_none sz hd)), Nat.le_trans (cutA_len _ _ _) l⟩⟩
    have c := t.cut lo hi
    have e : cutV vs lo hi = vs := by
      unfold cutV
      rw [w.1, w.2, List.drop_zero, Nat.sub_zero, List.take_length]
    rw [e] at c
    exact c
/-! ### sums and the like -/
theorem ev_sum {xs : List Int} (ha : Ev M ta σ Z H s (li yInt xs) s1) : Ev M (tCB (rSum K) (tCons ta tNil)) σ Z H s (ty yInt xs.sum) s1 :=
  ev_cb (eva_cons ha eva_nil) fun _ _ _ sz ⟨v, r, e, h, e2⟩ _ q => by
    cases e2; cases e
    obtain ⟨p, vs, rfl, g, t, _⟩ := rdl sz h
    rw [t.ints] at g
    exact ⟨p, xs, rfl, SqL.of g, q _ _ _ (Step.refl sz) rfl⟩
theorem ev_anyL {xs : List Bool} (ha : Ev M ta σ Z H s (li yBool xs) s1) : Ev M (tCB (rAny K) (tCons ta tNil)) σ Z H s (ty yBool (xs.any id)) s1 :=
  ev_cb (eva_cons ha eva_nil) fun _ _ _ sz ⟨v, r, e, h, e2⟩ _ q => by
    cases e2; cases e
    obtain ⟨p, vs, rfl, g, t, _⟩ := rdl sz h
    rw [t.bls] at g
    exact ⟨p, xs, rfl, SqL.of g, q _ _ _ (Step.refl sz) rfl⟩
theorem ev_allL {xs : List Bool} (ha : Ev M ta σ Z H s (li yBool xs) s1) : Ev M (tCB (rAll K) (tCons ta tNil)) σ Z H s (ty yBool (xs.all id)) s1 :=
  ev_cb (eva_cons ha eva_nil) fun _ _ _ sz ⟨v, r, e, h, e2⟩ _ q => by
    cases e2; cases e
    obtain ⟨p, vs, rfl, g, t, _⟩ := rdl sz h
    rw [t.bls] at g
    exact ⟨p, xs, rfl, SqL.of g, q _ _ _ (Step.refl sz) rfl⟩
def maxZ : List Int → Option Int
  | [] => none
  | x :: xs => some (xs.foldl max x)
def minZ : List Int → Option Int
  | [] => none
  | x :: xs => some (xs.foldl min x)
theorem foldl_max_of : ∀ (xs : List Int) (x m : Int), m ∈ x :: xs → (∀ y ∈ x :: xs, y ≤ m) → m = xs.foldl max x
  | [], x, m, h, _ => by simpa using h
  | y :: r, x, m, h, g => by
    refine foldl_max_of r (max x y) m ?_ (fun z hz => ?_)
    · have hx := g x (by simp)
      have hy := g y (by simp)
      rcases List.mem_cons.mp h with e | h
      · have : max x y = m := by omega
        rw [this]; exact List.mem_cons_self
      · rcases List.mem_cons.mp h with e | h
        · have : max x y = m := by omega
          rw [this]; exact List.mem_cons_self
        · exact List.mem_cons_of_mem _ h
    · rcases List.mem_cons.mp hz with e | hz
      · have hx := g x (by simp)
        have hy := g y (by simp)
        omega
      · exact g z (by simp [hz])
theorem foldl_min_of : ∀ (xs : List Int) (x m : Int), m ∈ x :: xs → (∀ y ∈ x :: xs, m ≤ y) → m = xs.foldl min x
  | [], x, m, h, _ => by simpa using h
  | y :: r, x, m, h, g => by
    refine foldl_min_of r (min x y) m ?_ (fun z hz => ?_)
    · have hx := g x (by simp)
      have hy := g y (by simp)
      rcases List.mem_cons.mp h with e | h
      · have : min x y = m := by omega
        rw [this]; exact List.mem_cons_self
      · rcases List.mem_cons.mp h with e | h
        · have : min x y = m := by omega
          rw [this]; exact List.mem_cons_self
        · exact List.mem_cons_of_mem _ h
    · rcases List.mem_cons.mp hz with e | hz
      · have hx := g x (by simp)
        have hy := g y (by simp)
        omega
      · exact g z (by simp [hz])
theorem ev_maxL {xs : List Int} {m : Int} (ha : Ev M ta σ Z H s (li yInt xs) s1) (e : maxZ xs = some m) : Ev M (tCB (rMax K) (tCons ta tNil)) σ Z H s (ty yInt m) s1 :=
  ev_cb (eva_cons ha eva_nil) fun _ _ _ sz ⟨v, r, e1, h, e2⟩ _ q => by
    cases e2; cases e1
    obtain ⟨p, vs, rfl, g, t, _⟩ := rdl sz h
    rw [t.ints] at g
    cases xs with
    | nil => cases e
    | cons x r =>
      refine ⟨p, x :: r, rfl, SqL.of g, Nat.succ_pos _, fun n hn hg => q _ _ _ (Step.refl sz) ?_⟩
      rw [foldl_max_of r x n hn hg, ← Option.some.inj (e : some (r.foldl max x) = some m)]
      rfl
theorem ev_minL {xs : List Int} {m : Int} (ha : Ev M ta σ Z H s (li yInt xs) s1) (e : minZ xs = some m) : Ev M (tCB (rMin K) (tCons ta tNil)) σ Z H s (ty yInt m) s1 :=
  ev_cb (eva_cons ha eva_nil) fun _ _ _ sz ⟨v, r, e1, h, e2⟩ _ q => by
    cases e2; cases e1
    obtain ⟨p, vs, rfl, g, t, _⟩ := rdl sz h
    rw [t.ints] at g
    cases xs with
    | nil => cases e
    | cons x r =>
      refine ⟨p, x :: r, rfl, SqL.of g, Nat.succ_pos _, fun n hn hg => q _ _ _ (Step.refl sz) ?_⟩
      rw [foldl_min_of r x n hn hg, ← Option.some.inj (e : some (r.foldl min x) = some m)]
      rfl
theorem ev_max2 {i j : Int} (ha : Ev M ta σ Z H s (ty yInt i) s1) (hb : Ev M tb σ Z H s1 (ty yInt j) s2) : Ev M (tCB (fun xs H Q => ∃ i j, xs = [.int i, .int j] ∧ Q (.int (if j > i then j else i)) H) (tCons ta (tCons tb tNil))) σ Z H s (ty yInt (max i j)) s2 :=
  ev_cb (eva_cons ha (eva_cons hb eva_nil)) fun _ _ _ sz ⟨v, r, e1, h, w, r2, e2, h2, e3⟩ _ q => by
    cases e3; cases e2; cases e1; cases h; cases h2
    refine ⟨i, j, rfl, q _ _ _ (Step.refl sz) ?_⟩
    show V.int _ = V.int _
    by_cases c : j > i
    · rw [if_pos c, Int.max_eq_right (by omega)]
    · rw [if_neg c, Int.max_eq_left (by omega)]
theorem ev_min2 {i j : Int} (ha : Ev M ta σ Z H s (ty yInt i) s1) (hb : Ev M tb σ Z H s1 (ty yInt j) s2) : Ev M (tCB (fun xs H Q => ∃ i j, xs = [.int i, .int j] ∧ Q (.int (if j < i then j else i)) H) (tCons ta (tCons tb tNil))) σ Z H s (ty yInt (min i j)) s2 :=
  ev_cb (eva_cons ha (eva_cons hb eva_nil)) fun _ _ _ sz ⟨v, r, e1, h, w, r2, e2, h2, e3⟩ _ q => by
    cases e3; cases e2; cases e1; cases h; cases h2
    refine ⟨i, j, rfl, q _ _ _ (Step.refl sz) ?_⟩
    show V.int _ = V.int _
    by_cases c : j < i
    · rw [if_pos c, Int.min_eq_right (by omega)]
    · rw [if_neg c, Int.min_eq_left (by omega)]
theorem ev_int_of {i : Int} (ha : Ev M ta σ Z H s (ty yInt i) s1) : Ev M (tCB (fun xs H Q => (∃ i, xs = [.int i] ∧ Q (.int i) H) ∨ ∃ k, xs = [.bl k] ∧ Q (.int (if k then 1 else 0)) H) (tCons ta tNil)) σ Z H s (ty yInt i) s1 :=
  ev_cb (eva_cons ha eva_nil) fun _ _ _ sz ⟨v, r, e1, h, e2⟩ _ q => by
    cases e2; cases e1; cases h
    exact .inl ⟨i, rfl, q _ _ _ (Step.refl sz) rfl⟩
/-! ### in -/
/-- flat, and its equality is the thing's -/
structure FlatI {α : Type} (τ : Ty α) (f : α → V) : Prop where
  flat : Flat τ f
  fl : ∀ x, flatV (f x) = true
  eqv : ∀ x y, eqV (f x) (f y) = true ↔ x = y
theorem fi_int : FlatI yInt V.int := ⟨flat_int, fun _ => rfl, fun x y => by show (x == y) = true ↔ _; exact beq_iff_eq⟩
theorem fi_str : FlatI yStr V.str := ⟨flat_str, fun _ => rfl, fun x y => by show (x == y) = true ↔ _; exact beq_iff_eq⟩
theorem fi_bool : FlatI yBool V.bl := ⟨flat_bool, fun _ => rfl, fun x y => by show (x == y) = true ↔ _; exact beq_iff_eq⟩
section
variable {α : Type} [DecidableEq α] {τ : Ty α} {f : α → V} {x : α} {xs : List α}
theorem inV_map (F : FlatI τ f) : inV (f x) (xs.map f) = decide (x ∈ xs) := by
  unfold inV
  rw [List.any_map]
  apply Bool.eq_iff_iff.mpr
  rw [List.any_eq_true, decide_eq_true_iff]
  constructor
  · rintro ⟨y, hy, e⟩
    rw [← (F.eqv y x).mp e]; exact hy
  · exact fun h => ⟨x, h, (F.eqv x x).mpr rfl⟩
theorem flat_map (F : FlatI τ f) : (xs.map f).all flatV = true := by
  rw [List.all_map]
  exact List.all_eq_true.mpr fun y _ => F.fl y
theorem ev_in (F : FlatI τ f) (ha : Ev M ta σ Z H s (ty τ x) s1) (hb : Ev M tb σ Z H s1 (li τ xs) s2) : Ev M (tOp (rIn K false) ta tb) σ Z H s (ty yBool (decide (x ∈ xs))) s2 :=
  ev_op ha hb fun _ _ _ _ sz e1 e2 _ q => by
    obtain ⟨p, vs, rfl, g, t, _⟩ := rdl sz e2
    have ev := t.map (F.flat.eq _); subst ev
    rw [F.flat.eq _ _ _ e1]
    exact ⟨p, _, rfl, .inl (SqL.of g), F.fl x, flat_map F, q _ _ _ (Step.refl sz) (congrArg V.bl (inV_map F))⟩
theorem ev_notin (F : FlatI τ f) (ha : Ev M ta σ Z H s (ty τ x) s1) (hb : Ev M tb σ Z H s1 (li τ xs) s2) : Ev M (tOp (rIn K true) ta tb) σ Z H s (ty yBool (!decide (x ∈ xs))) s2 :=
  ev_op ha hb fun _ _ _ _ sz e1 e2 _ q => by
    obtain ⟨p, vs, rfl, g, t, _⟩ := rdl sz e2
    have ev := t.map (F.flat.eq _); subst ev
    rw [F.flat.eq _ _ _ e1]
    exact ⟨p, _, rfl, .inl (SqL.of g), F.fl x, flat_map F, q _ _ _ (Step.refl sz) (congrArg (fun b => V.bl (!b)) (inV_map F))⟩
theorem ev_inT (F : FlatI τ f) (ha : Ev M ta σ Z H s (ty τ x) s1) (hb : Ev M tb σ Z H s1 (ty (yTup K τ) xs) s2) : Ev M (tOp (rIn K false) ta tb) σ Z H s (ty yBool (decide (x ∈ xs))) s2 :=
  ev_op ha hb fun _ _ _ _ sz e1 ⟨p, vs, e, g, t, _⟩ _ q => by
    subst e
    have ev := t.map (F.flat.eq _); subst ev
    rw [F.flat.eq _ _ _ e1]
    exact ⟨p, _, rfl, .inr (seqT_same sz g), F.fl x, flat_map F, q _ _ _ (Step.refl sz) (congrArg V.bl (inV_map F))⟩
theorem ev_notinT (F : FlatI τ f) (ha : Ev M ta σ Z H s (ty τ x) s1) (hb : Ev M tb σ Z H s1 (ty (yTup K τ) xs) s2) : Ev M (tOp (rIn K true) ta tb) σ Z H s (ty yBool (!decide (x ∈ xs))) s2 :=
  ev_op ha hb fun _ _ _ _ sz e1 ⟨p, vs, e, g, t, _⟩ _ q => by
    subst e
    have ev := t.map (F.flat.eq _); subst ev
    rw [F.flat.eq _ _ _ e1]
    exact ⟨p, _, rfl, .inr (seqT_same sz g), F.fl x, flat_map F, q _ _ _ (Step.refl sz) (congrArg (fun b => V.bl (!b)) (inV_map F))⟩
end
end
end TP

namespace TP
open PySem PySem.Spec PyProof.Rows L2
section
variable {μ : Type} {M : Mu μ} {σ : L2.St} {Z H : Hp} {s s' s1 s2 s3 : μ} {ta tb tc te : TE} {t : TA} {K : PySem.W.Frag}
/-! ### equality of data -/
structure EqD (K : PySem.W.Frag) {α : Type} (τ : Ty α) (d : α → PyData) (n : Nat) : Prop where
  dp : ∀ Z H v x, Same Z H → τ.r Z v x → Dp K H v (d x)
  lay : ∀ Z v x, τ.r Z v x → (d x).canLay0 = true
  dep : ∀ x, (d x).depth ≤ n
  eqv : ∀ x y, PyData.eqv (d x) (d y) = true ↔ x = y
theorem eqd_int : EqD K yInt PyData.int 0 := ⟨fun _ _ _ x _ h => by cases h; exact .int x, fun _ _ _ _ => rfl, fun _ => Nat.le_refl _, fun x y => by simp [PyData.eqv]⟩
theorem eqd_bool : EqD K yBool PyData.bool 0 := ⟨fun _ _ _ x _ h => by cases h; exact .bl x, fun _ _ _ _ => rfl, fun _ => Nat.le_refl _, fun x y => by simp [PyData.eqv]⟩
theorem eqd_str : EqD K yStr PyData.str 0 := ⟨fun _ _ _ x _ h => by rw [h.1]; exact .str x, fun _ _ x h => by
  have := (Bool.and_eq_true_iff.mp (show (PyData.strOk x && decide (x.length ≤ sizeLine)) = true from h.2)).1
  simpa [PyData.canLay0] using this, fun _ => Nat.le_refl _, fun x y => by simp [PyData.eqv]⟩
theorem eqd_non : EqD K yNon (fun _ => PyData.none) 0 := ⟨fun _ _ _ x _ h => by cases h; exact .non, fun _ _ _ _ => rfl, fun _ => Nat.le_refl _, fun x y => by simp [PyData.eqv]⟩
section
variable {α β γ δ : Type} {τ : Ty α} {υ : Ty β} {φ : Ty γ} {ψ : Ty δ} {d : α → PyData} {e : β → PyData} {f : γ → PyData} {g : δ → PyData} {n m k l : Nat}
theorem EqD.all (E : EqD K τ d n) {Z H : Hp} (sz : Same Z H) : ∀ {vs : List V} {xs : List α}, All (τ.r Z) vs xs → DpAll K H vs (xs.map d)
  | _, _, .nil => .nil
  | _, _, .cons h t => .cons (E.dp _ _ _ _ sz h) (E.all sz t)
theorem EqD.lays (E : EqD K τ d n) {Z : Hp} : ∀ {vs : List V} {xs : List α}, All (τ.r Z) vs xs → PyData.canLayAll0 (xs.map d) = true
  | _, _, .nil => by simp [PyData.canLayAll0]
  | _, _, .cons h t => by
    have h1 := E.lay _ _ _ h
    have h2 := E.lays t
    simp [PyData.canLayAll0, h1, h2]
theorem EqD.deps (E : EqD K τ d n) : ∀ xs : List α, PyData.depthAll (xs.map d) ≤ n
  | [] => by simp [PyData.depthAll]
  | x :: r => by
    have h1 := E.dep x
    have h2 := E.deps r
    simp only [List.map_cons, PyData.depthAll]
    omega
theorem EqD.eqvs (E : EqD K τ d n) : ∀ xs ys : List α, PyData.eqvAll (xs.map d) (ys.map d) = true ↔ xs = ys
  | [], [] => by simp [PyData.eqvAll]
  | [], _ :: _ => by simp [PyData.eqvAll]
  | _ :: _, [] => by simp [PyData.eqvAll]
  | x :: xs, y :: ys => by
    simp only [List.map_cons, PyData.eqvAll, Bool.and_eq_true, E.eqv x y, E.eqvs xs ys, List.cons.injEq]
theorem eqd_list (E : EqD K τ d n) : EqD K (yList τ) (fun xs => .list (xs.map d)) (n + 1) where
  dp := fun Z H v x sz ⟨a, vs, e, h, t, _⟩ => by subst e; exact .lst (SqL.of (sz _ _ h)) (E.all sz t)
  lay := fun Z v x ⟨a, vs, e, h, t, _⟩ => by simpa [PyData.canLay0] using E.lays t
  dep := fun x => by have := E.deps x; simp only [PyData.depth]; omega
  eqv := fun x y => by simp only [PyData.eqv]; exact E.eqvs x y
theorem eqd_tup (E : EqD K τ d n) : EqD K (yTup K τ) (fun xs => .tuple (xs.map d)) (n + 1) where
  dp := fun Z H v x sz ⟨a, vs, e, h, t, _⟩ => by subst e; exact .tup (seqT_same sz h) (E.all sz t)
  lay := fun Z v x ⟨a, vs, e, h, t, _⟩ => by simpa [PyData.canLay0] using E.lays t
  dep := fun x => by have := E.deps x; simp only [PyData.depth]; omega
  eqv := fun x y => by simp only [PyData.eqv]; exact E.eqvs x y
theorem eqd_p1 (E : EqD K τ d n) : EqD K (yP1 K τ) (fun x => .tuple [d x]) (n + 1) where
  dp := fun Z H v x sz ⟨a, v1, e, h, h1⟩ => by subst e; exact .tup (seqT_same sz h) (.cons (E.dp _ _ _ _ sz h1) .nil)
  lay := fun Z v x ⟨a, v1, e, h, h1⟩ => by simp [PyData.canLay0, PyData.canLayAll0, E.lay _ _ _ h1]
  dep := fun x => by have := E.dep x; simp only [PyData.depth, PyData.depthAll]; omega
  eqv := fun x y => by simp only [PyData.eqv, PyData.eqvAll, Bool.and_true]; exact E.eqv x y
theorem eqd_p2 (E : EqD K τ d n) (F : EqD K υ e m) : EqD K (yP2 K τ υ) (fun x => .tuple [d x.1, e x.2]) (max n m + 1) where
  dp := fun Z H v x sz ⟨a, v1, v2, e, h, h1, h2⟩ => by subst e; exact .tup (seqT_same sz h) (.cons (E.dp _ _ _ _ sz h1) (.cons (F.dp _ _ _ _ sz h2) .nil))
  lay := fun Z v x ⟨a, v1, v2, e, h, h1, h2⟩ => by simp [PyData.canLay0, PyData.canLayAll0, E.lay _ _ _ h1, F.lay _ _ _ h2]
  dep := fun x => by have := E.dep x.1; have := F.dep x.2; simp only [PyData.depth, PyData.depthAll]; omega
  eqv := fun x y => by
    simp only [PyData.eqv, PyData.eqvAll, Bool.and_true, Bool.and_eq_true, E.eqv, F.eqv]
    exact Prod.ext_iff.symm
theorem eqd_p3 (E : EqD K τ d n) (F : EqD K υ e m) (G : EqD K φ f k) : EqD K (yP3 K τ υ φ) (fun x => .tuple [d x.1, e x.2.1, f x.2.2]) (max n (max m k) + 1) where
  dp := fun Z H v x sz ⟨a, v1, v2, v3, e, h, h1, h2, h3⟩ => by subst e; exact .tup (seqT_same sz h) (.cons (E.dp _ _ _ _ sz h1) (.cons (F.dp _ _ _ _ sz h2) (.cons (G.dp _ _ _ _ sz h3) .nil)))
  lay := fun Z v x ⟨a, v1, v2, v3, e, h, h1, h2, h3⟩ => by simp [PyData.canLay0, PyData.canLayAll0, E.lay _ _ _ h1, F.lay _ _ _ h2, G.lay _ _ _ h3]
  dep := fun x => by have := E.dep x.1; have := F.dep x.2.1; have := G.dep x.2.2; simp only [PyData.depth, PyData.depthAll]; omega
  eqv := fun x y => by
    simp only [PyData.eqv, PyData.eqvAll, Bool.and_true, Bool.and_eq_true, E.eqv, F.eqv, G.eqv]
    rw [Prod.ext_iff, Prod.ext_iff]
theorem eqd_p4 (E : EqD K τ d n) (F : EqD K υ e m) (G : EqD K φ f k) (I : EqD K ψ g l) : EqD K (yP4 K τ υ φ ψ) (fun x => .tuple [d x.1, e x.2.1, f x.2.2.1, g x.2.2.2]) (max n (max m (max k l)) + 1) where
  dp := fun Z H v x sz ⟨a, v1, v2, v3, v4, e, h, h1, h2, h3, h4⟩ => by subst e; exact .tup (seqT_same sz h) (.cons (E.dp _ _ _ _ sz h1) (.cons (F.dp _ _ _ _ sz h2) (.cons (G.dp _ _ _ _ sz h3) (.cons (I.dp _ _ _ _ sz h4) .nil))))
  lay := fun Z v x ⟨a, v1, v2, v3, v4, e, h, h1, h2, h3, h4⟩ => by simp [PyData.canLay0, PyData.canLayAll0, E.lay _ _ _ h1, F.lay _ _ _ h2, G.lay _ _ _ h3, I.lay _ _ _ h4]
  dep := fun x => by have := E.dep x.1; have := F.dep x.2.1; have := G.dep x.2.2.1; have := I.dep x.2.2.2; simp only [PyData.depth, PyData.depthAll]; omega
  eqv := fun x y => by
    simp only [PyData.eqv, PyData.eqvAll, Bool.and_true, Bool.and_eq_true, E.eqv, F.eqv, G.eqv, I.eqv]
    rw [Prod.ext_iff, Prod.ext_iff, Prod.ext_iff]
def optD (d : α → PyData) : Option α → PyData
  | none => .none
  | some x => d x
theorem eqv_none : ∀ c : PyData, PyData.eqv .none c = true ↔ c = .none
  | .none => by simp [PyData.eqv]
  | .bool _ => by simp [PyData.eqv]
  | .int _ => by simp [PyData.eqv]
  | .str _ => by simp [PyData.eqv]
  | .list _ => by simp [PyData.eqv]
  | .tuple _ => by simp [PyData.eqv]
  | .dict _ => by simp [PyData.eqv]
theorem none_eqv : ∀ c : PyData, PyData.eqv c .none = true ↔ c = .none
  | .none => by simp [PyData.eqv]
  | .bool _ => by simp [PyData.eqv]
  | .int _ => by simp [PyData.eqv]
  | .str _ => by simp [PyData.eqv]
  | .list _ => by simp [PyData.eqv]
  | .tuple _ => by simp [PyData.eqv]
  | .dict _ => by simp [PyData.eqv]
theorem eqd_opt (E : EqD K τ d n) (nn : ∀ x, d x ≠ .none) : EqD K (yOpt τ) (optD d) n where
  dp := fun Z H v x sz h => match x, h with
    | none, h => by rw [show v = .non from h]; exact .non
    | some x, h => E.dp _ _ _ _ sz h.1
  lay := fun Z v x h => match x, h with
    | none, h => rfl
    | some x, h => E.lay _ _ _ h.1
  dep := fun x => match x with
    | none => Nat.zero_le _
    | some x => E.dep x
  eqv := fun x y => match x, y with
    | none, none => by simp [optD, PyData.eqv]
    | none, some y => by simp [optD, eqv_none, nn y]
    | some x, none => by simp [optD, none_eqv, nn x]
    | some x, some y => by simp [optD, E.eqv x y]
end
/-- the value is read as the data d -/
def GD {fp : List Addr} (K : PySem.W.Frag) (R : Rr fp) (d : PyData) : Prop := ∀ Z H v, Same Z H → R.r Z H v → Dp K H v d ∧ d.canLay0 = true
theorem EqD.gd {fp : List Addr} {α : Type} {τ : Ty α} {d : α → PyData} {n : Nat} (E : EqD K τ d n) (x : α) : GD K (ty (fp := fp) τ x) (d x) := fun _ _ _ sz h => ⟨E.dp _ _ _ _ sz h, E.lay _ _ _ h⟩
theorem EqD.gdl {fp : List Addr} {α : Type} {τ : Ty α} {d : α → PyData} {n : Nat} (E : EqD K τ d n) (xs : List α) : GD K (li (fp := fp) τ xs) (.list (xs.map d)) := fun _ _ _ sz h => by
  obtain ⟨p, vs, rfl, g, t, _⟩ := rdl sz h
  exact ⟨.lst (SqL.of g) (E.all sz t), by simpa [PyData.canLay0] using E.lays t⟩
theorem shaped_of {d : PyData} {n : Nat} (h : d.canLay0 = true) (l : d.depth ≤ n) (hn : n ≤ 64) : SeqAt.shaped d = true := by
  unfold SeqAt.shaped
  rw [h, Bool.true_and]
  exact decide_eq_true (by omega)
theorem ev_eqG {R R' : Rr M.fp} {c c' : PyData} {P : Prop} [Decidable P] (hc : PyData.eqv c c' = true ↔ P) (G : GD K R c) (G' : GD K R' c') (l : c.depth ≤ 64) (l' : c'.depth ≤ 64) (ha : Ev M ta σ Z H s R s1) (hb : Ev M tb σ Z H s1 R' s2) : Ev M (tOp (rEqD K) ta tb) σ Z H s (ty yBool (decide P)) s2 :=
  ev_op ha hb fun _ _ _ _ sz e1 e2 _ q => by
    obtain ⟨d1, k1⟩ := G _ _ _ sz e1
    obtain ⟨d2, k2⟩ := G' _ _ _ sz e2
    exact ⟨c, c', d1, d2, shaped_of k1 l (Nat.le_refl _), shaped_of k2 l' (Nat.le_refl _), q _ _ _ (Step.refl sz) (congrArg V.bl (Bool.eq_iff_iff.mpr (hc.trans decide_eq_true_iff.symm)))⟩
theorem ev_neG {R R' : Rr M.fp} {c c' : PyData} {P : Prop} [Decidable P] (hc : PyData.eqv c c' = true ↔ P) (G : GD K R c) (G' : GD K R' c') (l : c.depth ≤ 64) (l' : c'.depth ≤ 64) (ha : Ev M ta σ Z H s R s1) (hb : Ev M tb σ Z H s1 R' s2) : Ev M (tOp (rNeD K) ta tb) σ Z H s (ty yBool (!decide P)) s2 :=
  ev_op ha hb fun _ _ _ _ sz e1 e2 _ q => by
    obtain ⟨d1, k1⟩ := G _ _ _ sz e1
    obtain ⟨d2, k2⟩ := G' _ _ _ sz e2
    exact ⟨c, c', d1, d2, shaped_of k1 l (Nat.le_refl _), shaped_of k2 l' (Nat.le_refl _), q _ _ _ (Step.refl sz) (congrArg (fun b => V.bl (!b)) (Bool.eq_iff_iff.mpr (hc.trans decide_eq_true_iff.symm)))⟩
section
variable {α : Type} [DecidableEq α] {τ : Ty α} {d : α → PyData} {n : Nat} {x y : α} {xs ys : List α}
theorem ev_eqD (E : EqD K τ d n) (hn : n ≤ 64) (ha : Ev M ta σ Z H s (ty τ x) s1) (hb : Ev M tb σ Z H s1 (ty τ y) s2) : Ev M (tOp (rEqD K) ta tb) σ Z H s (ty yBool (decide (x = y))) s2 :=
  ev_eqG (E.eqv x y) (E.gd x) (E.gd y) (Nat.le_trans (E.dep x) hn) (Nat.le_trans (E.dep y) hn) ha hb
theorem ev_neD (E : EqD K τ d n) (hn : n ≤ 64) (ha : Ev M ta σ Z H s (ty τ x) s1) (hb : Ev M tb σ Z H s1 (ty τ y) s2) : Ev M (tOp (rNeD K) ta tb) σ Z H s (ty yBool (!decide (x = y))) s2 :=
  ev_neG (E.eqv x y) (E.gd x) (E.gd y) (Nat.le_trans (E.dep x) hn) (Nat.le_trans (E.dep y) hn) ha hb
theorem depL (E : EqD K τ d n) (hn : n + 1 ≤ 64) : (PyData.list (xs.map d)).depth ≤ 64 := by have := E.deps xs; simp only [PyData.depth]; omega
theorem ev_eqL (E : EqD K τ d n) (hn : n + 1 ≤ 64) (ha : Ev M ta σ Z H s (li τ xs) s1) (hb : Ev M tb σ Z H s1 (li τ ys) s2) : Ev M (tOp (rEqD K) ta tb) σ Z H s (ty yBool (decide (xs = ys))) s2 :=
  ev_eqG (by simp only [PyData.eqv]; exact E.eqvs xs ys) (E.gdl xs) (E.gdl ys) (depL E hn) (depL E hn) ha hb
theorem ev_neL (E : EqD K τ d n) (hn : n + 1 ≤ 64) (ha : Ev M ta σ Z H s (li τ xs) s1) (hb : Ev M tb σ Z H s1 (li τ ys) s2) : Ev M (tOp (rNeD K) ta tb) σ Z H s (ty yBool (!decide (xs = ys))) s2 :=
  ev_neG (by simp only [PyData.eqv]; exact E.eqvs xs ys) (E.gdl xs) (E.gdl ys) (depL E hn) (depL E hn) ha hb
end
theorem en_cast {α : Type} {τ : Ty α} {xs ys : List α} (h : EvN M te σ Z H s τ xs s1) (e : xs = ys) : EvN M te σ Z H s τ ys s1 := e ▸ h
theorem ev_chain {i j k : Int} {p r : Int → Int → Bool} (ha : Ev M ta σ Z H s (ty yInt i) s1) (hb : Ev M tb σ Z H s1 (ty yInt j) s1) (hc : Ev M tc σ Z H s1 (ty yInt k) s1) : Ev M (tChain (rI0 fun i j => .bl (p i j)) (rI0 fun i j => .bl (r i j)) ta tb tc) σ Z H s (ty yBool (p i j && r j k)) s1 :=
  fun Z1 H1 a b c d Q q => ha Z1 H1 a b c d _ fun v Z2 H2 e m rv => hb Z2 H2 (a.trans e.z) (b.trans e.h) e.s m _ fun w Z3 H3 e2 m2 rw => ⟨i, j, rv, rw, p i j, rfl, by
    have e3 := e.trans e2
    cases hp : p i j with
    | true => rw [if_pos rfl]; exact hc Z3 H3 (a.trans e3.z) (b.trans e3.h) e3.s m2 _ fun u Z4 H4 e4 m4 ru => ⟨j, k, rw, ru, q _ Z4 H4 (e3.trans e4) m4 (by rw [hp]; rfl)⟩
    | false => rw [if_neg Bool.false_ne_true]; exact q _ Z3 H3 e3 m2 (by rw [hp]; rfl)⟩
theorem ev_chainO {i j k : Int} {b : Bool} {o : Option Bool} {p r : Int → Int → Bool} (ha : Ev M ta σ Z H s (ty yInt i) s1) (hb : Ev M tb σ Z H s1 (ty yInt j) s1) (hc : p i j = true → Ev M tc σ Z H s1 (ty yInt k) s1) : Ev M (tChain (rI0 fun i j => .bl (p i j)) (rI0 fun i j => .bl (r i j)) ta tb tc) σ Z H s (ty yBool (p i j && r j k)) s1 :=
  fun Z1 H1 a b c d Q q => ha Z1 H1 a b c d _ fun v Z2 H2 e m rv => hb Z2 H2 (a.trans e.z) (b.trans e.h) e.s m _ fun w Z3 H3 e2 m2 rw => ⟨i, j, rv, rw, p i j, rfl, by
    have e3 := e.trans e2
    cases hp : p i j with
    | true => rw [if_pos rfl]; exact hc hp Z3 H3 (a.trans e3.z) (b.trans e3.h) e3.s m2 _ fun u Z4 H4 e4 m4 ru => ⟨j, k, rw, ru, q _ Z4 H4 (e3.trans e4) m4 (by rw [hp]; rfl)⟩
    | false => rw [if_neg Bool.false_ne_true]; exact q _ Z3 H3 e3 m2 (by rw [hp]; rfl)⟩
section
variable {a b : Bool} {o o' : Option Bool} {tA tB' tt : TT}
theorem ev_andO (ha : Ev M ta σ Z H s (ty yBool a) s1) (hb : a = true → ∀ y, o = some y → Ev M tb σ Z H s1 (ty yBool y) s1) (h : (if a = true then o else some false) = some b) : Ev M (tAndV ta tb) σ Z H s (ty yBool b) s1 :=
  ev_and (o := o.map fun y => (y, s1)) ha (fun e y s' hy => by obtain ⟨z, hz, e2⟩ := Option.map_eq_some_iff.mp hy; cases e2; exact hb e _ hz) (by
    cases a with
    | true => rw [if_pos rfl] at h ⊢; rw [h]; rfl
    | false => rw [if_neg Bool.false_ne_true] at h ⊢; rw [← Option.some.inj h])
theorem ev_orO (ha : Ev M ta σ Z H s (ty yBool a) s1) (hb : a = false → ∀ y, o = some y → Ev M tb σ Z H s1 (ty yBool y) s1) (h : (if a = true then some true else o) = some b) : Ev M (tOrV ta tb) σ Z H s (ty yBool b) s1 :=
  ev_or (o := o.map fun y => (y, s1)) ha (fun e y s' hy => by obtain ⟨z, hz, e2⟩ := Option.map_eq_some_iff.mp hy; cases e2; exact hb e _ hz) (by
    cases a with
    | false => rw [if_neg Bool.false_ne_true] at h ⊢; rw [h]; rfl
    | true => rw [if_pos rfl] at h ⊢; rw [← Option.some.inj h])
theorem et_andO (ha : EvT M tA σ Z H s a s1) (hb : a = true → ∀ y, o = some y → EvT M tB' σ Z H s1 y s1) (h : (if a = true then o else some false) = some b) : EvT M (tAnd tA tB') σ Z H s b s1 :=
  et_and (o := o.map fun y => (y, s1)) ha (fun e y s' hy => by obtain ⟨z, hz, e2⟩ := Option.map_eq_some_iff.mp hy; cases e2; exact hb e _ hz) (by
    cases a with
    | true => rw [if_pos rfl] at h ⊢; rw [h]; rfl
    | false => rw [if_neg Bool.false_ne_true] at h ⊢; rw [← Option.some.inj h])
theorem et_orO (ha : EvT M tA σ Z H s a s1) (hb : a = false → ∀ y, o = some y → EvT M tB' σ Z H s1 y s1) (h : (if a = true then some true else o) = some b) : EvT M (tOr tA tB') σ Z H s b s1 :=
  et_or (o := o.map fun y => (y, s1)) ha (fun e y s' hy => by obtain ⟨z, hz, e2⟩ := Option.map_eq_some_iff.mp hy; cases e2; exact hb e _ hz) (by
    cases a with
    | false => rw [if_neg Bool.false_ne_true] at h ⊢; rw [h]; rfl
    | true => rw [if_pos rfl] at h ⊢; rw [← Option.some.inj h])
end
/-! ### fields, calls -/
/-- the attribute f of things of this kind -/
def FldOf {α β : Type} (τ : Ty α) (C : Addr) (f : Str) (υ : Ty β) (pr : α → β) : Prop := ∀ Z v x, τ.r Z v x → ∃ a dx fs w, v = .ref a ∧ Z a = some (.ins C dx fs) ∧ fs.lookup f = some w ∧ υ.r Z w (pr x)
theorem ev_fld {α β : Type} {τ : Ty α} {υ : Ty β} {C : Addr} {f : Str} {pr : α → β} {x : α} (F : FldOf τ C f υ pr) (c : Cls K C) (n : NoAttr K C f) (ha : Ev M ta σ Z H s (ty τ x) s1) : Ev M (tFld K ta f) σ Z H s (ty υ (pr x)) s1 :=
  fun Z1 H1 a b c' d Q q => ha Z1 H1 a b c' d _ fun v Z2 H2 e m rv => by
    obtain ⟨p, dx, fs, w, rfl, hp, l, rw'⟩ := F _ _ _ rv
    exact ⟨p, C, dx, fs, w, rfl, e.s _ _ hp, c, n, l, q _ _ _ e m rw'⟩
/-- things of this kind are instances of the class at C without an own attribute m -/
def ObjOf {α : Type} (τ : Ty α) (C : Addr) (m : Str) : Prop := ∀ Z v x, τ.r Z v x → ∃ a dx fs, v = .ref a ∧ Z a = some (.ins C dx fs) ∧ fs.lookup m = none
/-- what a promise gives for arguments of which Rs is true -/
def CallS (M : Mu μ) (sp : Sp) (E : XK) (Rs : Ra M.fp) (s : μ) (R : Rr M.fp) (s' : μ) : Prop :=
  ∀ Z H vs, Same Z H → M.m s Z H → Rs.r Z H vs → ∀ Q : VK, (∀ v Z2 H2, Step M.fp Z H Z2 H2 → M.m s' Z2 H2 → R.r Z2 H2 v → Q v H2) → sp vs H Q E
theorem ev_call {sp : Sp} {E : XK} {Rs : Ra M.fp} {R : Rr M.fp} (C : CallS M sp E Rs s1 R s2) (ha : EvA M t σ Z H s Rs s1) : Ev M (tCall sp [] E t) σ Z H s R s2 :=
  fun Z1 H1 a b c d Q q => ha Z1 H1 a b c d _ fun vs Z2 H2 e m rs => by
    rw [List.append_nil]
    exact C Z2 H2 vs e.s m rs Q fun v Z3 H3 e2 m2 rv => q v Z3 H3 (e.trans e2) m2 rv
theorem ev_meth {α : Type} {τ : Ty α} {x : α} {C' : Addr} {m : Str} {sp : Sp} {E : XK} {Rs : Ra M.fp} {R : Rr M.fp} (O : ObjOf τ C' m) (C : CallS M sp E (rac (ty τ x) Rs) s2 R s3) (hx : Ev M ta σ Z H s (ty τ x) s1) (ha : EvA M t σ Z H s1 Rs s2) : Ev M (tMeth C' m sp [] E ta t) σ Z H s R s3 :=
  fun Z1 H1 a b c d Q q => hx Z1 H1 a b c d _ fun v Z2 H2 e mm rv => by
    obtain ⟨p, dx, fs, rfl, hp, l⟩ := O _ _ _ rv
    refine ⟨p, dx, fs, rfl, e.s _ _ hp, l, ha Z2 H2 (a.trans e.z) (b.trans e.h) e.s mm _ fun vs Z3 H3 e2 m2 rs => ?_⟩
    rw [List.append_nil]
    exact C Z3 H3 _ e2.s m2 ⟨_, vs, rfl, τ.mono e2.z rv, rs⟩ Q fun v Z4 H4 e3 m3 rv' => q v Z4 H4 ((e.trans e2).trans e3) m3 rv'
theorem ev_meth0 {α : Type} {τ : Ty α} {x : α} {C' : Addr} {m : Str} {sp : Sp} {E : XK} {R : Rr M.fp} (O : ObjOf τ C' m) (C : CallS M sp E (rac (ty τ x) ra0) s1 R s2) (hx : Ev M ta σ Z H s (ty τ x) s1) : Ev M (tMeth C' m sp [] E ta tNil) σ Z H s R s2 := ev_meth O C hx eva_nil
theorem ev_prop {α : Type} {τ : Ty α} {x : α} {C' : Addr} {m : Str} {sp : Sp} {E : XK} {R : Rr M.fp} (O : ObjOf τ C' m) (C : CallS M sp E (rac (ty τ x) ra0) s1 R s2) (hx : Ev M ta σ Z H s (ty τ x) s1) : Ev M (tProp C' sp [] E ta) σ Z H s R s2 :=
  fun Z1 H1 a b c d Q q => hx Z1 H1 a b c d _ fun v Z2 H2 e mm rv => by
    obtain ⟨p, dx, fs, rfl, hp, l⟩ := O _ _ _ rv
    exact ⟨p, dx, fs, rfl, e.s _ _ hp, C Z2 H2 _ e.s mm ⟨_, [], rfl, rv, rfl⟩ Q fun v Z4 H4 e3 m3 rv' => q v Z4 H4 (e.trans e3) m3 rv'⟩
/-- what the __init__ of the class at C makes of a new instance: a thing of which R is true -/
def InitS (M : Mu μ) (C : Addr) (sp : Sp) (E : XK) (Rs : Ra M.fp) (s : μ) (R : Rr M.fp) (s' : μ) : Prop :=
  ∀ Z H vs x dx, Same Z H → M.m s Z H → Rs.r Z H vs → H x = some (.ins C dx []) → Z x = none → x ∉ M.fp → ∀ Q : VK, (∀ Z2 H2 o, Step (x :: M.fp) Z H Z2 H2 → M.m s' Z2 H2 → H2 x = some o → R.r (upd Z2 x o) H2 (.ref x) → Q .non H2) → sp (.ref x :: vs) H Q E
theorem Step.dict {Z H : Hp} {x dx C : Addr} (sz : Same Z H) (hx : H x = none) (hd : H dx = none) (ne : dx ≠ x) : Step [] Z H Z (upd (upd H dx (.own x)) x (.ins C dx [])) :=
  (Step.own sz hd).trans (Step.own (Step.own sz hd).s (by rw [upd_ne ne.symm]; exact hx))
theorem Step.freeze {S : List Addr} {Z H Z1 H1 : Hp} {x : Addr} {o : HO} (g : Step (x :: S) Z H Z1 H1) (hx : H x = none) (h1 : H1 x = some o) (hz : Z1 x = none) : Step S Z H (upd Z1 x o) H1 := by
  have g' : Step S Z H Z1 H1 := g.weak fun a h => by
    rcases List.mem_cons.mp h with e | h
    · exact .inr (e ▸ hx)
    · exact .inl h
  refine ⟨g'.z.trans (same_upd hz), fun a u e => ?_, g'.h, fun a h z => ?_, g'.al⟩
  · by_cases q : a = x
    · subst q; rw [upd_same] at e; rw [← Option.some.inj e]; exact h1
    · rw [upd_ne q] at e; exact g'.s a u e
  · rw [upd_ne (ne_of_some h hx)]; exact g'.n a h z
theorem ev_make {C : Addr} {sp : Sp} {E : XK} {Rs : Ra M.fp} {R : Rr M.fp} (I : InitS M C sp E Rs s1 R s2) (ha : EvA M t σ Z H s Rs s1) : Ev M (tMake C sp [] E t) σ Z H s R s2 :=
  fun Z1 H1 a b c d Q q => ha Z1 H1 a b c d _ fun vs Z2 H2 e m rs x dx hx hd ne => by
    rw [List.append_nil]
    have st := Step.dict (C := C) e.s hx hd ne
    have nf : x ∉ M.fp := fun h => (M.al m x h).1 hx
    refine I Z2 _ vs x dx st.s (M.pure st m) (Rs.st st.pure rs) upd_same (same_none e.s hx) nf _ fun Z3 H3 o e2 m2 ho rv => ⟨rfl, ?_⟩
    have hz3 : Z3 x = none := e2.n x (by rw [upd_same]; exact fun z => nomatch z) (same_none e.s hx)
    have e3 : Step M.fp Z2 H2 (upd Z3 x o) H3 := ((st.pure (S := x :: M.fp)).trans e2).freeze hx ho hz3
    refine q _ _ _ (e.trans e3) (M.loc (same_upd hz3) (fun _ _ _ e => e) (fun a ha _ z => ?_) m2) rv
    rw [upd_ne (fun q => nf (by rw [← q]; exact ha))]
    exact z
theorem ev_makeK {C : Addr} {n k : Nat} {sp : Sp} {E : XK} {Rs Rk Rs' : Ra M.fp} {R : Rr M.fp} {gV : List V → List V → List V} {tk : TA} (I : InitS M C sp E Rs' s2 R s3) (ha : EvA M t σ Z H s Rs s1) (hk : EvA M tk σ Z H s1 Rk s2)
    (hg : ∀ Z H vs zs x, Rs.r Z H vs → Rk.r Z H zs → vs.length = n ∧ zs.length = k ∧ ∃ ws, gV (.ref x :: vs) zs = .ref x :: ws ∧ Rs'.r Z H ws) : Ev M (tMakeK C n k sp gV E t tk) σ Z H s R s3 :=
  fun Z1 H1 a b c d Q q => ha Z1 H1 a b c d _ fun vs Z2 H2 e m rs => hk Z2 H2 (a.trans e.z) (b.trans e.h) e.s m _ fun zs Z3 H3 e1 m1 rk => by
    have rs3 := Rs.st e1 rs
    obtain ⟨l1, l2, _⟩ := hg Z3 H3 vs zs 0 rs3 rk
    refine ⟨l1, l2, fun x dx hx hd ne => ?_⟩
    obtain ⟨_, _, ws, eg, rw'⟩ := hg Z3 H3 vs zs x rs3 rk
    rw [eg]
    have st := Step.dict (C := C) e1.s hx hd ne
    have nf : x ∉ M.fp := fun h => (M.al m1 x h).1 hx
    refine I Z3 _ ws x dx st.s (M.pure st m1) (Rs'.st st.pure rw') upd_same (same_none e1.s hx) nf _ fun Z4 H4 o e2 m2 ho rv => ⟨rfl, ?_⟩
    have hz3 : Z4 x = none := e2.n x (by rw [upd_same]; exact fun z => nomatch z) (same_none e1.s hx)
    have e3 : Step M.fp Z3 H3 (upd Z4 x o) H4 := ((st.pure (S := x :: M.fp)).trans e2).freeze hx ho hz3
    refine q _ _ _ ((e.trans e1).trans e3) (M.loc (same_upd hz3) (fun _ _ _ e => e) (fun a ha _ z => ?_) m2) rv
    rw [upd_ne (fun q => nf (by rw [← q]; exact ha))]
    exact z
/-! ### what is walked -/
/-- the things xs, of the kind τ, one after the other; what stands at F may change meanwhile -/
def WalkT {α : Type} (X : Hp → Hp → Prop) (J : It) (Z H : Hp) (τ : Ty α) (xs : List α) : Prop := xs.length ≤ sizeLine ∧ ∃ G Y, Walk J xs.length G Y ∧ (∀ Z' H', Same Z Z' → Same Z' H' → X H H' → G H') ∧
  ∀ i Z' H' v H'', i < xs.length → Same Z Z' → Same Z' H' → G H' → Y i H' v H'' → ∃ Z'' x, xs[i]? = some x ∧ Step [] Z' H' Z'' H'' ∧ τ.r Z'' v x
def EvI {α : Type} (M : Mu μ) (X : Hp → Hp → Prop) (wi : TI) (σ : L2.St) (Z H : Hp) (s : μ) (τ : Ty α) (xs : List α) (s' : μ) : Prop :=
  ∀ Z1 H1, Same Z Z1 → SameX M.fp H H1 → Same Z1 H1 → M.m s Z1 H1 → ∀ R : It → Hp → Prop, (∀ J Z2 H2, Step M.fp Z1 H1 Z2 H2 → M.m s' Z2 H2 → WalkT X J Z2 H2 τ xs → R J H2) → wi σ H1 R
section
variable {α β : Type} {τ : Ty α} {υ : Ty β} {xs : List α} {X : Hp → Hp → Prop}
theorem walk_at {J : It} {vs : List V} {G : Hp → Prop} (w : Walk J vs.length G (YAt vs)) {Z H : Hp} (hG : ∀ Z' H', Same Z Z' → Same Z' H' → X H H' → G H') (t : All (τ.r Z) vs xs) (l : xs.length ≤ sizeLine) : WalkT X J Z H τ xs := by
  refine ⟨l, G, YAt vs, by rw [← t.len]; exact w, hG, fun i Z' H' v H'' hi z sz _ y => ?_⟩
  obtain ⟨e, y⟩ := y
  subst e
  obtain ⟨x, ex, rx⟩ := t.get y
  exact ⟨Z', x, ex, Step.refl sz, τ.mono z rx⟩
theorem ei_list (ha : Ev M ta σ Z H s (ty (yList τ) xs) s1) : EvI M X (iList K ta) σ Z H s τ xs s1 :=
  fun Z1 H1 a b c d R q => ha Z1 H1 a b c d _ fun v Z2 H2 e m ⟨p, vs, ev, h, t, l⟩ => by
    subst ev
    exact ⟨p, rfl, ⟨vs, SqL.of (e.s _ _ h)⟩, q _ Z2 H2 e m (walk_at walk_list (fun Z' H' z sz _ => SqL.of (sz _ _ (z _ _ h))) t l)⟩
theorem ei_own (ha : Ev M ta σ Z H s (li τ xs) s1) : EvI M (SameX M.fp) (iList K ta) σ Z H s τ xs s1 :=
  fun Z1 H1 a b c d R q => ha Z1 H1 a b c d _ fun v Z2 H2 e m ⟨p, vs, ev, h, t, l⟩ => by
    subst ev
    refine ⟨p, rfl, ⟨vs, SqL.of (h.get e.s)⟩, q _ Z2 H2 e m (walk_at walk_list (fun Z' H' z sz x => ?_) t l)⟩
    rcases h with h | h
    · exact SqL.of (sz _ _ (z _ _ h))
    · exact SqL.of (x _ _ h.2 h.1)
theorem ei_tup (ha : Ev M ta σ Z H s (ty (yTup K τ) xs) s1) : EvI M X (iTup K ta) σ Z H s τ xs s1 :=
  fun Z1 H1 a b c d R q => ha Z1 H1 a b c d _ fun v Z2 H2 e m ⟨p, vs, ev, h, t, l⟩ => by
    subst ev
    exact ⟨p, rfl, ⟨vs, seqT_same e.s h⟩, q _ Z2 H2 e m (walk_at walk_tup (fun Z' H' z sz _ => seqT_same sz (seqT_same z h)) t l)⟩
def rangeZ (lo hi : Int) : List Int := (List.range (hi - lo).toNat).map fun (i : Nat) => lo + (i : Int)
def RangeOk (lo hi : Int) : Prop := (-(2 ^ 62) ≤ lo ∧ lo < 2 ^ 62) ∧ (-(2 ^ 62) ≤ hi ∧ hi < 2 ^ 62) ∧ hi - lo ≤ 16777216
instance {lo hi : Int} : Decidable (RangeOk lo hi) := inferInstanceAs (Decidable (_ ∧ _ ∧ _))
theorem rangeZ_len (lo hi : Int) : (rangeZ lo hi).length = (hi - lo).toNat := by unfold rangeZ; rw [List.length_map, List.length_range]
theorem walk_rng {lo hi : Int} {Z H : Hp} (l : hi - lo ≤ 16777216) : WalkT X (Itr lo (hi - lo).toNat) Z H yInt (rangeZ lo hi) := by
  refine ⟨by rw [rangeZ_len]; show (hi - lo).toNat ≤ 2 ^ 24; omega, fun _ => True, YFn fun i => .int (lo + i), by rw [rangeZ_len]; exact walk_range, fun _ _ _ _ _ => trivial, fun i Z' H' v H'' hi z sz _ y => ?_⟩
  obtain ⟨e, y⟩ := y
  subst e
  rw [rangeZ_len] at hi
  refine ⟨Z', lo + (i : Int), ?_, Step.refl sz, y⟩
  unfold rangeZ
  rw [List.getElem?_map, List.getElem?_range hi]
  rfl
theorem ei_rng1 {i : Int} (ha : Ev M ta σ Z H s (ty yInt i) s1) (h1 : RangeOk 0 i) : EvI M X (iRng1 (tCons ta tNil)) σ Z H s yInt (rangeZ 0 i) s1 :=
  fun Z1 H1 a b c d R q => eva_cons ha eva_nil Z1 H1 a b c d _ fun vs Z2 H2 e m ⟨v, r, e1, h, e2⟩ => by
    cases e2; cases h
    refine ⟨i, e1, h1.2.1.1, h1.2.1.2, q _ Z2 H2 e m ?_⟩
    have := walk_rng (X := X) (lo := 0) (hi := i) (Z := Z2) (H := H2) h1.2.2
    rw [Int.sub_zero] at this
    exact this
theorem ei_rng2 {i j : Int} (ha : Ev M ta σ Z H s (ty yInt i) s1) (hb : Ev M tb σ Z H s1 (ty yInt j) s2) (h1 : RangeOk i j) : EvI M X (iRng2 (tCons ta (tCons tb tNil))) σ Z H s yInt (rangeZ i j) s2 :=
  fun Z1 H1 a b c d R q => eva_cons ha (eva_cons hb eva_nil) Z1 H1 a b c d _ fun vs Z2 H2 e m ⟨v, r, e1, h, w, r2, e3, h3, e2⟩ => by
    cases e2; cases h; cases h3; cases e3
    exact ⟨i, j, e1, ⟨h1.1.1, h1.1.2, h1.2.1.1, h1.2.1.2⟩, q _ Z2 H2 e m (walk_rng h1.2.2)⟩
/-- pairs that are laid turn by turn -/
theorem walk_pairs {ys : List β} {vs ws : List V} {J : It} {G : Hp → Prop} (n : Nat) (hn : n = min vs.length ws.length) (w : Walk J n G (YPair (fun i => vs[i]?) (fun i => ws[i]?))) {Z H : Hp} (hG : ∀ Z' H', Same Z Z' → Same Z' H' → X H H' → G H') (t : All (τ.r Z) vs xs) (u : All (υ.r Z) ws ys) (l : vs.length ≤ sizeLine) : WalkT X J Z H (yP2 K τ υ) (xs.zip ys) := by
  have ln : (xs.zip ys).length = n := by rw [List.length_zip, ← t.len, ← u.len, hn]
  refine ⟨by rw [ln, hn]; omega, G, _, by rw [ln]; exact w, hG, fun i Z' H' v H'' hi z sz _ y => ?_⟩
  obtain ⟨T, v1, v2, rfl, nT, rfl, g1, g2⟩ := y
  obtain ⟨x1, ex1, rx1⟩ := t.get g1
  obtain ⟨x2, ex2, rx2⟩ := u.get g2
  have st := Step.new (o := .tup [v1, v2]) sz nT
  exact ⟨upd Z' T (.tup [v1, v2]), (x1, x2), by rw [List.getElem?_zip_eq_some]; exact ⟨ex1, ex2⟩, st, T, v1, v2, rfl, sqT_new, τ.mono (z.trans st.z) rx1, υ.mono (z.trans st.z) rx2⟩
def enumZ {α : Type} (xs : List α) : List (Int × α) := (rangeZ 0 (xs.length : Nat)).zip xs
theorem enum_rng (n : Nat) (i : Nat) (h : i < n) : ((rangeZ 0 (n : Nat)).map V.int)[i]? = some (.int (i : Nat)) := by
  unfold rangeZ
  rw [List.getElem?_map, List.getElem?_map, List.getElem?_range (by omega)]
  show some (V.int (0 + (i : Int))) = _
  rw [Int.zero_add]
theorem ei_enum (ha : Ev M ta σ Z H s (ty (yList τ) xs) s1) : EvI M X (iEnum K (tCons ta tNil)) σ Z H s (yP2 K yInt τ) (enumZ xs) s1 :=
  fun Z1 H1 a b c d R q => eva_cons ha eva_nil Z1 H1 a b c d _ fun us Z2 H2 e m ⟨v, r, e1, ⟨p, vs, ev, h, t, l⟩, e2⟩ => by
    cases e2; cases ev; cases e1
    refine ⟨p, vs, rfl, SqL.of (e.s _ _ h), q _ Z2 H2 e m ?_⟩
    have hl : ((rangeZ 0 (xs.length : Nat)).map V.int).length = vs.length := by
      rw [List.length_map, rangeZ_len, t.len]; omega
    refine walk_pairs (vs := (rangeZ 0 (xs.length : Nat)).map V.int) (ws := vs) vs.length (by rw [hl]; omega) (walk_enum.mono (fun _ g => g) fun i H v H' hi _ ⟨T, x, y, h1, h2, h3, h4, h5⟩ => ⟨T, x, y, h1, h2, h3, ?_, h5⟩) (fun Z' H' z sz _ => SqL.of (sz _ _ (z _ _ h))) (All.ofInts _) t (by rw [hl, t.len]; exact l)
    show ((rangeZ 0 (xs.length : Nat)).map V.int)[i]? = some x
    rw [enum_rng _ _ (by rw [← t.len]; exact hi)]
    exact h4
theorem ei_str {x : Str} (ha : Ev M ta σ Z H s (ty yStr x) s1) : EvI M X (iStr ta) σ Z H s yStr (x.cps.toList.map fun c => (⟨#[c]⟩ : Str)) s1 :=
  fun Z1 H1 a b c d R q => ha Z1 H1 a b c d _ fun v Z2 H2 e m rv => by
    refine ⟨x, rv.1, q _ Z2 H2 e m ?_⟩
    have ln : (x.cps.toList.map fun c => (⟨#[c]⟩ : Str)).length = x.cps.size := by rw [List.length_map, Array.length_toList]
    have lz : x.cps.size ≤ sizeLine := of_decide_eq_true (Bool.and_eq_true_iff.mp (show (PyData.strOk x && decide (x.length ≤ sizeLine)) = true from rv.2)).2
    refine ⟨by rw [ln]; exact lz, fun _ => True, _, by rw [ln]; exact walk_str, fun _ _ _ _ _ => trivial, fun i Z' H' v H'' hi z sz _ y => ?_⟩
    obtain ⟨e, c, hc, rfl⟩ := y
    subst e
    have hc' : x.cps.toList[i]? = some c := by rw [Array.getElem?_toList]; exact hc
    refine ⟨Z', ⟨#[c]⟩, by rw [List.getElem?_map, hc']; rfl, Step.refl sz, rfl, ?_⟩
    have ok := rv.2
    unfold okS PyData.strOk at ok ⊢
    rw [Bool.and_eq_true] at ok ⊢
    refine ⟨?_, decide_eq_true (by show (#[c] : Array Nat).size ≤ sizeLine; exact (by decide : 1 ≤ sizeLine))⟩
    have h2 := Array.all_eq_true_iff_forall_mem.mp ok.1 c (Array.mem_of_getElem? hc)
    simpa using h2
end
/-! ### list comprehensions -/
/-- the target stores the value: from the slots σ to σ2 -/
def Tgt (g : TG) (v : V) (σ σ2 : L2.St) (Z : Hp) : Prop := ∀ H, Same Z H → ∀ Q : L2.St → Hp → Prop, Q σ2 H → g v σ H Q
theorem tgt_name {i : Nat} {v : V} {σ : L2.St} {Z : Hp} : Tgt (gName i) v σ (σ.set i (some v)) Z := fun _ _ _ q => q
theorem tgt_p2 {α β : Type} {τ : Ty α} {υ : Ty β} {g1 g2 : TG} {v : V} {x : α × β} {Z : Hp} (h : (yP2 K τ υ).r Z v x) : ∃ v1 v2, τ.r Z v1 x.1 ∧ υ.r Z v2 x.2 ∧ ∀ {σ σ1 σ2 : L2.St}, Tgt g1 v1 σ σ1 Z → Tgt g2 v2 σ1 σ2 Z → Tgt (gTup K 2 (gCons g1 (gCons g2 gNil))) v σ σ2 Z := by
  obtain ⟨a, v1, v2, rfl, t, h1, h2⟩ := h
  exact ⟨v1, v2, h1, h2, fun {σ σ1 σ2} t1 t2 H sz Q q => ⟨a, _, rfl, seqT_same sz t, rfl, v1, _, rfl, t1 H sz _ ⟨v2, _, rfl, t2 H sz _ ⟨rfl, q⟩⟩⟩⟩
theorem tgt_p3 {α β γ : Type} {τ : Ty α} {υ : Ty β} {φ : Ty γ} {g1 g2 g3 : TG} {v : V} {x : α × β × γ} {Z : Hp} (h : (yP3 K τ υ φ).r Z v x) : ∃ v1 v2 v3, τ.r Z v1 x.1 ∧ υ.r Z v2 x.2.1 ∧ φ.r Z v3 x.2.2 ∧ ∀ {σ σ1 σ2 σ3 : L2.St}, Tgt g1 v1 σ σ1 Z → Tgt g2 v2 σ1 σ2 Z → Tgt g3 v3 σ2 σ3 Z → Tgt (gTup K 3 (gCons g1 (gCons g2 (gCons g3 gNil)))) v σ σ3 Z := by
  obtain ⟨a, v1, v2, v3, rfl, t, h1, h2, h3⟩ := h
  exact ⟨v1, v2, v3, h1, h2, h3, fun {σ σ1 σ2 σ3} t1 t2 t3 H sz Q q => ⟨a, _, rfl, seqT_same sz t, rfl, v1, _, rfl, t1 H sz _ ⟨v2, _, rfl, t2 H sz _ ⟨v3, _, rfl, t3 H sz _ ⟨rfl, q⟩⟩⟩⟩⟩
section
variable {α β : Type} {τ : Ty α} {υ : Ty β} {xs : List α} {ys : List β}
/-- the comprehension as a plain walk: none leaves an item out -/
def lcM (g : α → μ → Option (Option β × μ)) : List α → μ → Option (List β × μ)
  | [], s => some ([], s)
  | x :: xs, s => (g x s).bind fun p => (lcM g xs p.2).bind fun q => some (match p.1 with | none => q.1 | some y => y :: q.1, q.2)
theorem en_lc {wi : TI} {g : TG} {tt : TT} {vs : List Nat} (P : μ → Prop) (h : α → μ → Option (Option β × μ)) (hP : P s1) (hi : EvI M (SameX M.fp) wi σ Z H s τ xs s1)
    (hb : ∀ x v Z' H' si p, Same Z Z' → SameX M.fp H H' → τ.r Z' v x → P si → h x si = some p → P p.2 ∧ ∃ σ2, Tgt g v (wipe σ vs) σ2 Z' ∧ wipe σ2 vs = wipe σ vs ∧ ∃ b s', EvT M tt σ2 Z' H' si b s' ∧ (b = true → ∃ y, p.1 = some y ∧ Ev M te σ2 Z' H' s' (ty υ y) p.2) ∧ (b = false → p = (none, s')))
    (hF : lcM h xs s1 = some (ys, s2)) : EvN M (tLc wi g tt te vs) σ Z H s υ ys s2 := by
  intro Z1 H1 a b c d Q q
  refine hi Z1 H1 a b c d _ fun J Z2 H2 e m ⟨hx, G, Y, wk, hG, hY⟩ D hD => ?_
  have zD : Z2 D = none := same_none e.s hD
  have st0 := Step.own (o := .lst []) e.s hD
  refine lc_it wk (fun i H' => ∃ Z' si zs ws r, Step M.fp Z2 H2 Z' H' ∧ Z' D = none ∧ H' D = some (.lst ws) ∧ All (υ.r Z') ws zs ∧ ws.length ≤ i ∧ M.m si Z' H' ∧ P si ∧ lcM h (xs.drop i) si = some (r, s2) ∧ ys = zs ++ r)
    ⟨Z2, s1, [], [], ys, st0.pure, zD, upd_same, .nil, Nat.le_refl _, M.pure st0 m, hP, by rw [List.drop_zero]; exact hF, rfl⟩ ?_ ?_ ?_
  · rintro i H' _ ⟨Z', si, zs, ws, r, st, _⟩
    exact hG Z' H' st.z st.s st.h
  · rintro i v H3 H4 hin ⟨Z', si, zs, ws, r, st, zD', hD', al, lw, m', pi, hF', ey⟩ y
    obtain ⟨Z4, x, ex, st4, rx⟩ := hY i Z' H3 v H4 hin st.z st.s (hG Z' H3 st.z st.s st.h) y
    have hd : xs.drop i = x :: xs.drop (i + 1) := by
      rw [List.drop_eq_getElem_cons hin]
      rw [List.getElem?_eq_getElem hin] at ex
      rw [Option.some.inj ex]
    rw [hd] at hF'
    obtain ⟨p, hp, hF2⟩ := Option.bind_eq_some_iff.mp hF'
    obtain ⟨⟨r2, s2'⟩, hr, hF3⟩ := Option.bind_eq_some_iff.mp hF2
    have e4 := st.trans st4.pure
    have eZ : Same Z Z4 := (a.trans e.z).trans e4.z
    have eH : SameX M.fp H H4 := (b.trans e.h).trans e4.h
    obtain ⟨pp, σ2, tg, wp, bb, s', et, ht, hf⟩ := hb x v Z4 H4 si p eZ eH rx pi hp
    have es2 : s2' = s2 := by injection hF3 with q; exact congrArg Prod.snd q
    subst es2
    refine tg H4 e4.s _ ⟨wp, et Z4 H4 (Same.refl _) SameX.refl e4.s (M.pure st4 m') _ fun Z5 H5 e5 m5 => ?_⟩
    have nD : D ∉ M.fp := fun h => absurd hD (M.al m D h).1
    have hD4 : H4 D = some (.lst ws) := st4.h _ _ List.not_mem_nil hD'
    have hD5 : H5 D = some (.lst ws) := e5.h _ _ nD hD4
    have zD5 : Z5 D = none := e5.n D (some_ne hD4) (st4.n D (some_ne hD') zD')
    have e15 := e4.trans e5
    cases bb with
    | false =>
      rw [if_neg Bool.false_ne_true]
      have ep := hf rfl
      subst ep
      refine ⟨Z5, s', zs, ws, r2, e15, zD5, hD5, al.imp fun _ _ => υ.mono (st4.z.trans e5.z), by omega, m5, pp, hr, ?_⟩
      injection hF3 with q3
      have q4 : r2 = r := congrArg Prod.fst q3
      rw [ey, q4]
    | true =>
      rw [if_pos rfl]
      obtain ⟨y, ep, ev⟩ := ht rfl
      refine ev Z5 H5 e5.z e5.h e5.s m5 _ fun w Z6 H6 e6 m6 rw' => ?_
      have hD6 : H6 D = some (.lst ws) := e6.h _ _ nD hD5
      have zD6 : Z6 D = none := e6.n D (some_ne hD5) zD5
      have s7 := Step.set (o := .lst (ws ++ [w])) e6.s zD6
      refine ⟨ws, hD6, by omega, Z6, p.2, zs ++ [y], ws ++ [w], r2, (e15.trans e6).mine s7 (fun x hx => by rw [List.mem_singleton] at hx; subst hx; exact .inr hD), zD6, upd_same, (al.imp fun _ _ => υ.mono ((st4.z.trans e5.z).trans e6.z)).snoc rw', by rw [List.length_append]; show ws.length + 1 ≤ _; omega, ?_, pp, hr, ?_⟩
      · refine M.loc (Same.refl _) (fun a' ha' o ho => ?_) (fun _ _ _ z => z) m6
        rw [upd_ne (fun q' => nD (by rw [← q']; exact ha'))]
        exact ho
      · injection hF3 with q3
        rw [ep] at q3
        have q4 : y :: r2 = r := congrArg Prod.fst q3
        rw [ey, ← q4, List.append_assoc]
        rfl
  · rintro H' ⟨Z', si, zs, ws, r, st, zD', hD', al, lw, m', _, hF', ey⟩
    rw [List.drop_length] at hF'
    injection hF' with q'
    have e1 : r = [] := (congrArg Prod.fst q').symm
    have e2 : si = s2 := congrArg Prod.snd q'
    subst e1 e2
    rw [List.append_nil] at ey
    subst ey
    exact q D ws Z' H' (e.trans st) m' (same_x e hD) zD' hD' al (by rw [← al.len]; omega)
def mapO (f : α → Option β) : List α → Option (List β)
  | [] => some []
  | x :: r => (f x).bind fun y => (mapO f r).bind fun ys => some (y :: ys)
def fmO (f : α → Option (Option β)) : List α → Option (List β)
  | [] => some []
  | x :: r => (f x).bind fun y => (fmO f r).bind fun ys => some (match y with | none => ys | some z => z :: ys)
def mapS (f : α → μ → Option (β × μ)) : List α → μ → Option (List β × μ)
  | [], s => some ([], s)
  | x :: r, s => (f x s).bind fun p => (mapS f r p.2).bind fun q => some (p.1 :: q.1, q.2)
theorem lcM_fmO (f : α → Option (Option β)) (s : μ) : ∀ xs : List α, lcM (fun x s => (f x).map fun y => (y, s)) xs s = (fmO f xs).map fun ys => (ys, s)
  | [] => rfl
  | x :: r => by
    have ih := lcM_fmO f s r
    unfold lcM fmO
    cases f x with
    | none => rfl
    | some y =>
      simp only [Option.map_some, Option.bind_some, ih]
      cases fmO f r with
      | none => rfl
      | some ys => cases y <;> rfl
theorem lcM_mapS (f : α → μ → Option (β × μ)) : ∀ (xs : List α) (s : μ), lcM (fun x s => (f x s).map fun p => (some p.1, p.2)) xs s = mapS f xs s
  | [], _ => rfl
  | x :: r, s => by
    unfold lcM mapS
    cases f x s with
    | none => rfl
    | some p =>
      simp only [Option.map_some, Option.bind_some, lcM_mapS f r p.2]
theorem fmO_mapO (f : α → Option β) : ∀ xs : List α, fmO (fun x => (f x).map some) xs = mapO f xs
  | [] => rfl
  | x :: r => by
    unfold fmO mapO
    rw [fmO_mapO f r]
    cases f x <;> rfl
theorem fmO_fil (p : α → Bool) (f : α → β) : ∀ xs : List α, fmO (fun x => some (if p x = true then some (f x) else none)) xs = some ((xs.filter p).map f)
  | [] => rfl
  | x :: r => by
    unfold fmO
    rw [fmO_fil p f r]
    cases e : p x with
    | true => rw [List.filter_cons_of_pos e]; rfl
    | false => rw [List.filter_cons_of_neg (by rw [e]; exact Bool.false_ne_true)]; rfl
section
variable {wi : TI} {g : TG} {tt : TT} {vs : List Nat}
/-- stateless, with a test -/
theorem en_fmO (f : α → Option (Option β)) (hi : EvI M (SameX M.fp) wi σ Z H s τ xs s1)
    (hb : ∀ x v Z' H' p, Same Z Z' → SameX M.fp H H' → τ.r Z' v x → f x = some p → ∃ σ2, Tgt g v (wipe σ vs) σ2 Z' ∧ wipe σ2 vs = wipe σ vs ∧ ∃ b, EvT M tt σ2 Z' H' s1 b s1 ∧ (b = true → ∃ y, p = some y ∧ Ev M te σ2 Z' H' s1 (ty υ y) s1) ∧ (b = false → p = none))
    (hF : fmO f xs = some ys) : EvN M (tLc wi g tt te vs) σ Z H s υ ys s1 := by
  refine en_lc (· = s1) (fun x s => (f x).map fun y => (y, s)) rfl hi (fun x v Z' H' si p z h rv e hp => ?_) (by rw [lcM_fmO, hF]; rfl)
  subst e
  obtain ⟨q, hq, rfl⟩ := Option.map_eq_some_iff.mp hp
  obtain ⟨σ2, tg, wp, b, et, h1, h2⟩ := hb x v Z' H' q z h rv hq
  exact ⟨rfl, σ2, tg, wp, b, _, et, h1, fun e => by rw [h2 e]⟩
/-- stateless, partial -/
theorem en_mapO (f : α → Option β) (hi : EvI M (SameX M.fp) wi σ Z H s τ xs s1)
    (hb : ∀ x v Z' H' y, Same Z Z' → SameX M.fp H H' → τ.r Z' v x → f x = some y → ∃ σ2, Tgt g v (wipe σ vs) σ2 Z' ∧ wipe σ2 vs = wipe σ vs ∧ Ev M te σ2 Z' H' s1 (ty υ y) s1)
    (hF : mapO f xs = some ys) : EvN M (tLc wi g tYes te vs) σ Z H s υ ys s1 :=
  en_fmO (fun x => (f x).map some) hi (fun x v Z' H' p z h rv hp => by
    obtain ⟨y, hy, rfl⟩ := Option.map_eq_some_iff.mp hp
    obtain ⟨σ2, tg, wp, ev⟩ := hb x v Z' H' y z h rv hy
    exact ⟨σ2, tg, wp, true, fun Z1 H1 _ _ c d _ k => k Z1 H1 (Step.refl c) d, fun _ => ⟨y, rfl, ev⟩, fun e => nomatch e⟩) (by rw [fmO_mapO, hF])
/-- stateless, total -/
theorem en_map (f : α → β) (hi : EvI M (SameX M.fp) wi σ Z H s τ xs s1)
    (hb : ∀ x v Z' H', Same Z Z' → SameX M.fp H H' → τ.r Z' v x → ∃ σ2, Tgt g v (wipe σ vs) σ2 Z' ∧ wipe σ2 vs = wipe σ vs ∧ Ev M te σ2 Z' H' s1 (ty υ (f x)) s1) : EvN M (tLc wi g tYes te vs) σ Z H s υ (xs.map f) s1 :=
  en_mapO (fun x => some (f x)) hi (fun x v Z' H' y z h rv hy => by cases hy; exact hb x v Z' H' z h rv) (by
    clear hb hi
    induction xs with
    | nil => rfl
    | cons x r ih => unfold mapO; rw [ih]; rfl)
theorem en_fil (p : α → Bool) (f : α → β) (hi : EvI M (SameX M.fp) wi σ Z H s τ xs s1)
    (hb : ∀ x v Z' H', Same Z Z' → SameX M.fp H H' → τ.r Z' v x → ∃ σ2, Tgt g v (wipe σ vs) σ2 Z' ∧ wipe σ2 vs = wipe σ vs ∧ EvT M tt σ2 Z' H' s1 (p x) s1 ∧ Ev M te σ2 Z' H' s1 (ty υ (f x)) s1) : EvN M (tLc wi g tt te vs) σ Z H s υ ((xs.filter p).map f) s1 :=
  en_fmO (fun x => some (if p x = true then some (f x) else none)) hi (fun x v Z' H' q z h rv hq => by
    obtain ⟨σ2, tg, wp, et, ev⟩ := hb x v Z' H' z h rv
    cases hq
    exact ⟨σ2, tg, wp, p x, et, fun e => ⟨f x, if_pos e, ev⟩, fun e => if_neg (by rw [e]; exact Bool.false_ne_true)⟩) (fmO_fil p f xs)
theorem en_mapS (f : α → μ → Option (β × μ)) (hi : EvI M (SameX M.fp) wi σ Z H s τ xs s1)
    (hb : ∀ x v Z' H' si p, Same Z Z' → SameX M.fp H H' → τ.r Z' v x → f x si = some p → ∃ σ2, Tgt g v (wipe σ vs) σ2 Z' ∧ wipe σ2 vs = wipe σ vs ∧ Ev M te σ2 Z' H' si (ty υ p.1) p.2)
    (hF : mapS f xs s1 = some (ys, s2)) : EvN M (tLc wi g tYes te vs) σ Z H s υ ys s2 :=
  en_lc (fun _ => True) (fun x s => (f x s).map fun p => (some p.1, p.2)) trivial hi (fun x v Z' H' si p z h rv _ hp => by
    obtain ⟨q, hq, rfl⟩ := Option.map_eq_some_iff.mp hp
    obtain ⟨σ2, tg, wp, ev⟩ := hb x v Z' H' si q z h rv hq
    exact ⟨trivial, σ2, tg, wp, true, si, fun Z1 H1 _ _ c d _ k => k Z1 H1 (Step.refl c) d, fun _ => ⟨q.1, rfl, ev⟩, fun e => nomatch e⟩) (by rw [lcM_mapS, hF])
end
end
end
end TP

namespace TP
open PySem PySem.Spec PyProof.Rows L2
section
variable {μ : Type} {S : List Addr} {Z0 H0 : Hp} {M : Mu μ} {σ : L2.St} {Z H : Hp} {s s' s1 s2 s3 : μ} {ta tb tc te : TE} {t : TA} {K : PySem.W.Frag} {D : Ends} {u w : TS}
/-! ### a place in a def's body -/
structure Pt (S : List Addr) (Z0 H0 : Hp) (M : Mu μ) (Z H : Hp) (s : μ) : Prop where
  st : Step S Z0 H0 Z H
  m : M.m s Z H
  mine : ∀ a ∈ M.fp, a ∈ S ∨ H0 a = none
theorem Pt.next {Z1 H1 : Hp} (P : Pt S Z0 H0 M Z H s) (e : Step M.fp Z H Z1 H1) (m : M.m s1 Z1 H1) : Pt S Z0 H0 M Z1 H1 s1 := ⟨P.st.mine e P.mine, m, P.mine⟩
theorem Pt.start (M : Mu μ) (sz : Same Z H) (m : M.m s Z H) : Pt M.fp Z H M Z H s := ⟨Step.refl sz, m, fun _ h => .inl h⟩
theorem Pt.start0 (sz : Same Z H) : Pt [] Z H muN Z H () := ⟨Step.refl sz, trivial, fun _ h => (nomatch h)⟩
theorem Pt.sub (P : Pt S Z0 H0 M Z H s) : Same Z H := P.st.s
/-- a list of one's own: it may change -/
structure Own {α : Type} (S : List Addr) (H0 : Hp) (fp : List Addr) (Z H : Hp) (τ : Ty α) (p : Addr) (xs : List α) : Prop where
  ex : ∃ vs, H p = some (.lst vs) ∧ All (τ.r Z) vs xs
  z : Z p = none
  n : p ∉ fp
  mine : H0 p = none
  l : xs.length ≤ sizeLine
section
variable {α : Type} {τ : Ty α} {xs : List α} {p : Addr} {fp : List Addr}
theorem Own.step {F : List Addr} {Z1 H1 : Hp} (o : Own S H0 fp Z H τ p xs) (e : Step F Z H Z1 H1) (n : p ∉ F) : Own S H0 fp Z1 H1 τ p xs := by
  obtain ⟨vs, h, t⟩ := o.ex
  exact ⟨⟨vs, e.h _ _ n h, t.imp fun _ _ => τ.mono e.z⟩, e.n _ (some_ne h) o.z, o.n, o.mine, o.l⟩
theorem Own.next {Z1 H1 : Hp} (o : Own S H0 fp Z H τ p xs) (e : Step fp Z H Z1 H1) : Own S H0 fp Z1 H1 τ p xs := o.step e o.n
theorem Own.ne (o : Own S H0 fp Z H τ p xs) {q : Addr} (h : H q = none) : p ≠ q := by
  obtain ⟨vs, hp, _⟩ := o.ex
  exact ne_of_some (some_ne hp) h
theorem ev_o {i : Nat} (o : Own S H0 M.fp Z H τ p xs) (e : σ[i]? = some (some (.ref p))) : Ev M (tVar i) σ Z H s (li τ xs) s := by
  obtain ⟨vs, h, t⟩ := o.ex
  exact ev_own e h o.n t o.l
/-- it never changes from now on -/
theorem Own.fz (o : Own S H0 M.fp Z H τ p xs) (P : Pt S Z0 H0 M Z H s) : ∃ Z', Pt S Z0 H0 M Z' H s ∧ Same Z Z' ∧ (yList τ).r Z' (.ref p) xs ∧ ∀ q, q ≠ p → Z q = none → Z' q = none := by
  obtain ⟨vs, h, t⟩ := o.ex
  refine ⟨upd Z p (.lst vs), ⟨?_, Mu.fz P.m o.z o.n, P.mine⟩, same_upd o.z, ⟨p, vs, rfl, upd_same, t.imp fun _ _ => τ.mono (same_upd o.z), o.l⟩, fun q n e => by rw [upd_ne n]; exact e⟩
  exact P.st.fz o.mine h o.z
theorem Own.keep {Z1 : Hp} (o : Own S H0 fp Z H τ p xs) (e : Same Z Z1) (n : Z1 p = none) : Own S H0 fp Z1 H τ p xs := by
  obtain ⟨vs, h, t⟩ := o.ex
  exact ⟨⟨vs, h, t.imp fun _ _ => τ.mono e⟩, n, o.n, o.mine, o.l⟩
end
/-- a list of one's own is lent: for a while it does not change -/
theorem Own.bor {α : Type} {τ : Ty α} {xs : List α} {p : Addr} (o : Own S H0 M.fp Z H τ p xs) (sz : Same Z H) (m : M.m s Z H) : ∃ Zb, Same Z Zb ∧ Same Zb H ∧ M.m s Zb H ∧ (yList τ).r Zb (.ref p) xs ∧ ∀ q, q ≠ p → Z q = none → Zb q = none := by
  obtain ⟨vs, h, t⟩ := o.ex
  refine ⟨upd Z p (.lst vs), same_upd o.z, fun a u e => ?_, Mu.fz m o.z o.n, ⟨p, vs, rfl, upd_same, t.imp fun _ _ => τ.mono (same_upd o.z), o.l⟩, fun q n e => by rw [upd_ne n]; exact e⟩
  by_cases q : a = p
  · subst q; rw [upd_same] at e; rw [← Option.some.inj e]; exact h
  · rw [upd_ne q] at e; exact sz a u e
theorem Step.lent {S : List Addr} {Z Zb H Z1 H1 : Hp} (zf : Same Z Zb) (e : Step S Zb H Z1 H1) : Step S Z H Z H1 := ⟨Same.refl _, zf.trans (e.z.trans e.s), e.h, fun _ _ z => z, e.al⟩
/-! ### statements -/
theorem st_nx {nx bk ct : L2.St → Hp → Prop} {rt : VK} (h : nx σ H) : Ends.nx ⟨nx, rt, bk, ct⟩ σ H := h
theorem st_next0 {nx bk ct : L2.St → Hp → Prop} {rt : VK} (h : nx σ H) : tNext ⟨nx, rt, bk, ct⟩ σ H := h
theorem st_next (h : D.nx σ H) : tNext D σ H := h
theorem st_seq (h : u { D with nx := w D } σ H) : tSeq u w D σ H := h
theorem st_set {R : Rr M.fp} {i : Nat} (P : Pt S Z0 H0 M Z H s) (e : Ev M te σ Z H s R s1) (k : ∀ v Z1 H1, Step M.fp Z H Z1 H1 → Pt S Z0 H0 M Z1 H1 s1 → R.r Z1 H1 v → D.nx (σ.set i (some v)) H1) : tAsg te (gName i) D σ H :=
  e Z H (Same.refl _) SameX.refl P.sub P.m _ fun v Z1 H1 e m r => k v Z1 H1 e (P.next e m) r
theorem st_asg {R : Rr M.fp} {g : TG} (P : Pt S Z0 H0 M Z H s) (e : Ev M te σ Z H s R s1) (k : ∀ v Z1 H1, Step M.fp Z H Z1 H1 → Pt S Z0 H0 M Z1 H1 s1 → R.r Z1 H1 v → ∃ σ2, Tgt g v σ σ2 Z1 ∧ D.nx σ2 H1) : tAsg te g D σ H :=
  e Z H (Same.refl _) SameX.refl P.sub P.m _ fun v Z1 H1 e m r => by
    obtain ⟨σ2, tg, q⟩ := k v Z1 H1 e (P.next e m) r
    exact tg H1 e.s _ q
theorem st_ret {R : Rr M.fp} (P : Pt S Z0 H0 M Z H s) (e : Ev M te σ Z H s R s1) (k : ∀ v Z1 H1, Pt S Z0 H0 M Z1 H1 s1 → R.r Z1 H1 v → D.rt v H1) : tRet te D σ H :=
  e Z H (Same.refl _) SameX.refl P.sub P.m _ fun v Z1 H1 e m r => k v Z1 H1 (P.next e m) r
theorem st_expr {R : Rr M.fp} (P : Pt S Z0 H0 M Z H s) (e : Ev M te σ Z H s R s1) (k : ∀ Z1 H1, Step M.fp Z H Z1 H1 → Pt S Z0 H0 M Z1 H1 s1 → D.nx σ H1) : tDrop te D σ H :=
  e Z H (Same.refl _) SameX.refl P.sub P.m _ fun v Z1 H1 e m r => k Z1 H1 e (P.next e m)
theorem st_if {b : Bool} {tt : TT} (P : Pt S Z0 H0 M Z H s) (e : EvT M tt σ Z H s b s1) (ht : b = true → ∀ Z1 H1, Step M.fp Z H Z1 H1 → Pt S Z0 H0 M Z1 H1 s1 → u D σ H1) (hf : b = false → ∀ Z1 H1, Step M.fp Z H Z1 H1 → Pt S Z0 H0 M Z1 H1 s1 → w D σ H1) : tIfS tt u w D σ H :=
  e Z H (Same.refl _) SameX.refl P.sub P.m _ fun Z1 H1 e' m => by
    cases b with
    | true => rw [if_pos rfl]; exact ht rfl Z1 H1 e' (P.next e' m)
    | false => rw [if_neg Bool.false_ne_true]; exact hf rfl Z1 H1 e' (P.next e' m)
theorem st_ifB {b : Bool} {tt : TT} {Zb : Hp} (bk : M.Back) (P : Pt S Z0 H0 M Z H s) (zf : Same Z Zb) (sb : Same Zb H) (mb : M.m s Zb H) (e : EvT M tt σ Zb H s b s1) (ht : b = true → ∀ Z1 H1, Step M.fp Z H Z1 H1 → Pt S Z0 H0 M Z1 H1 s1 → u D σ H1) (hf : b = false → ∀ Z1 H1, Step M.fp Z H Z1 H1 → Pt S Z0 H0 M Z1 H1 s1 → w D σ H1) : tIfS tt u w D σ H :=
  e Zb H (Same.refl _) SameX.refl sb mb _ fun Z1 H1 e' m => by
    have e2 := Step.lent zf e'
    have m2 := bk (zf.trans e'.z) P.m m
    cases b with
    | true => rw [if_pos rfl]; exact ht rfl Z H1 e2 (P.next e2 m2)
    | false => rw [if_neg Bool.false_ne_true]; exact hf rfl Z H1 e2 (P.next e2 m2)
theorem st_aug {i : Nat} {a b : Int} {v : V} {f : Int → Int → Int} (P : Pt S Z0 H0 M Z H s) (hσ : σ[i]? = some (some v)) (hv : v = .int a) (e : Ev M te σ Z H s (ty yInt b) s1) (k : ∀ v Z1 H1, Step M.fp Z H Z1 H1 → Pt S Z0 H0 M Z1 H1 s1 → yInt.r Z1 v (f a b) → D.nx (σ.set i (some v)) H1) : tAug i te (ipI f) D σ H :=
  ⟨v, hσ, e Z H (Same.refl _) SameX.refl P.sub P.m _ fun v' Z1 H1 e m r => ⟨a, b, hv, r, k _ Z1 H1 e (P.next e m) rfl⟩⟩
section
variable {α β : Type} {τ : Ty α} {υ : Ty β} {xs ys : List α} {p : Addr} {x : α}
/-- a new list of one's own -/
theorem st_setN {i : Nat} (P : Pt S Z0 H0 M Z H s) (e : EvN M te σ Z H s τ xs s1) (k : ∀ p Z1 H1, Step M.fp Z H Z1 H1 → Pt S Z0 H0 M Z1 H1 s1 → H p = none → Own S H0 M.fp Z1 H1 τ p xs → D.nx (σ.set i (some (.ref p))) H1) : tAsg te (gName i) D σ H :=
  e Z H (Same.refl _) SameX.refl P.sub P.m _ fun p vs Z1 H1 e m hp zp h1 t l => k p Z1 H1 e (P.next e m) hp ⟨⟨vs, h1, t⟩, zp, fun hf => (M.al P.m p hf).1 hp, same_x P.st hp, l⟩
theorem Pt.set {o : HO} (P : Pt S Z0 H0 M Z H s) (hz : Z p = none) (n : p ∉ M.fp) (mine : p ∈ S ∨ H0 p = none) : Pt S Z0 H0 M Z (upd H p o) s := by
  refine ⟨P.st.mine (Step.set P.sub hz) fun a h => by rw [List.mem_singleton] at h; rw [h]; exact mine, M.loc (Same.refl _) (fun a ha u e => ?_) (fun _ _ _ z => z) P.m, P.mine⟩
  rw [upd_ne (fun q => n (by rw [← q]; exact ha))]
  exact e
theorem step2 {F : List Addr} {Z1 H1 : Hp} {o : HO} (e : Step F Z H Z1 H1) (hz : Z1 p = none) : Step (p :: F) Z H Z1 (upd H1 p o) :=
  (e.weak fun _ h => .inl (List.mem_cons_of_mem _ h)).mine (Step.set e.s hz) fun a h => by rw [List.mem_singleton] at h; rw [h]; exact .inl List.mem_cons_self
/-- xs.append(x) -/
theorem st_append {i : Nat} (P : Pt S Z0 H0 M Z H s) (o : Own S H0 M.fp Z H τ p xs) (hσ : σ[i]? = some (some (.ref p))) (e : Ev M te σ Z H s (ty τ x) s1) (l : xs.length < sizeLine)
    (k : ∀ Z1 H1, Step (p :: M.fp) Z H Z1 H1 → Pt S Z0 H0 M Z1 H1 s1 → Own S H0 M.fp Z1 H1 τ p (xs ++ [x]) → D.nx σ H1) : tDrop (tBM K "list" rAppend (tVar i) (tCons te tNil)) D σ H := by
  obtain ⟨vs, h, t⟩ := o.ex
  refine ⟨.ref p, hσ, .inl ⟨rfl, _, .inl (.inl h)⟩, e Z H (Same.refl _) SameX.refl P.sub P.m _ fun v Z1 H1 e m r => ?_⟩
  have o1 := o.next e
  have P1 := P.next e m
  refine ⟨p, vs, v, rfl, rfl, e.h _ _ o.n h, by rw [t.len]; exact l, ?_⟩
  exact k _ _ (step2 e o1.z) (P1.set o1.z o.n (.inr o.mine)) ⟨⟨_, upd_same, (t.imp fun _ _ => τ.mono e.z).snoc r⟩, o1.z, o.n, o.mine, by rw [List.length_append]; show xs.length + 1 ≤ _; omega⟩
/-- xs.extend(ys) -/
theorem st_extend {i : Nat} (P : Pt S Z0 H0 M Z H s) (o : Own S H0 M.fp Z H τ p xs) (hσ : σ[i]? = some (some (.ref p))) (e : Ev M te σ Z H s (ty (yList τ) ys) s1) (l : xs.length + ys.length ≤ sizeLine)
    (k : ∀ Z1 H1, Step (p :: M.fp) Z H Z1 H1 → Pt S Z0 H0 M Z1 H1 s1 → Own S H0 M.fp Z1 H1 τ p (xs ++ ys) → D.nx σ H1) : tDrop (tBM K "list" rExtend (tVar i) (tCons te tNil)) D σ H := by
  obtain ⟨vs, h, t⟩ := o.ex
  refine ⟨.ref p, hσ, .inl ⟨rfl, _, .inl (.inl h)⟩, e Z H (Same.refl _) SameX.refl P.sub P.m _ fun v Z1 H1 e m ⟨q, ws, ev, hq, t2, _⟩ => ?_⟩
  subst ev
  have o1 := o.next e
  have P1 := P.next e m
  refine ⟨p, q, vs, ws, rfl, rfl, e.h _ _ o.n h, e.s _ _ hq, by rw [t.len, t2.len]; exact l, ?_⟩
  exact k _ _ (step2 e o1.z) (P1.set o1.z o.n (.inr o.mine)) ⟨⟨_, upd_same, (t.imp fun _ _ => τ.mono e.z).app t2⟩, o1.z, o.n, o.mine, by rw [List.length_append]; exact l⟩
/-- xs[i] = x -/
theorem st_setitem {i : Nat} {j : Int} {n : Nat} {tj : TE} (P : Pt S Z0 H0 M Z H s) (o : Own S H0 M.fp Z H τ p xs) (hσ : σ[i]? = some (some (.ref p))) (e : Ev M te σ Z H s (ty τ x) s1) (ej : ∀ Z1 H1, Step M.fp Z H Z1 H1 → Ev M tj σ Z1 H1 s1 (ty yInt j) s2) (hj : ixN xs.length j = some n)
    (k : ∀ Z1 H1, Step (p :: M.fp) Z H Z1 H1 → Pt S Z0 H0 M Z1 H1 s2 → Own S H0 M.fp Z1 H1 τ p (xs.set n x) → D.nx σ H1) : tAsg te (gSub (tVar i) tj rSetL) D σ H := by
  obtain ⟨vs, h, t⟩ := o.ex
  refine e Z H (Same.refl _) SameX.refl P.sub P.m _ fun v Z1 H1 e m r => ⟨.ref p, hσ, ej Z1 H1 e Z1 H1 (Same.refl _) SameX.refl e.s m _ fun v2 Z2 H2 e2 m2 r2 => ?_⟩
  have o1 := (o.next e).next e2
  have P1 := (P.next e m).next e2 m2
  refine ⟨p, vs, j, n, rfl, r2, e2.h _ _ o.n (e.h _ _ o.n h), by rw [t.len]; exact hj, ?_⟩
  exact k _ _ (step2 (e.trans e2) o1.z) (P1.set o1.z o.n (.inr o.mine)) ⟨⟨_, upd_same, (t.imp fun _ _ => τ.mono (e.trans e2).z).set (τ.mono e2.z r) n⟩, o1.z, o.n, o.mine, by rw [List.length_set]; exact o.l⟩
end
/-! ### loops -/
inductive Flow (ρ β : Type)
  | go (b : β) | brk (b : β) | ret (r : ρ)
def forF {α β : Type} (f : α → β → Option β) : List α → β → Option β
  | [], b => some b
  | x :: r, b => (f x b).bind fun b' => forF f r b'
def Flow.nxt {ρ β : Type} (k : β → Option (Flow ρ β)) : Flow ρ β → Option (Flow ρ β)
  | .go b => k b
  | .brk b => some (.go b)
  | .ret y => some (.ret y)
def Flow.thn {ρ β γ : Type} (k : β → Option γ) (g : ρ → Option γ) : Flow ρ β → Option γ
  | .go b => k b
  | .brk b => k b
  | .ret y => g y
def forS {ρ α β : Type} (f : α → β → Option (Flow ρ β)) : List α → β → Option (Flow ρ β)
  | [], b => some (.go b)
  | x :: r, b => (f x b).bind (Flow.nxt (forS f r))
def whileS {ρ β : Type} (f : β → Option (Flow ρ β)) : Nat → β → Option (Flow ρ β)
  | 0, _ => none
  | n + 1, b => (f b).bind (Flow.nxt (whileS f n))
section
variable {ρ α β γ : Type} {k : β → Option (Flow ρ β)} {f : α → β → Option (Flow ρ β)} {f' : α → β → Option β} {x : α} {r : List α} {b : β} {y : ρ} {q : Flow ρ β}
theorem nxt_go (h : Flow.nxt k (.go b) = some q) : k b = some q := h
theorem nxt_brk (h : Flow.nxt k (.brk b) = some q) : q = .go b := (Option.some.inj h).symm
theorem nxt_ret (h : Flow.nxt k (.ret y) = some q) : q = .ret y := (Option.some.inj h).symm
theorem go_inv {k : β → Option γ} {g : ρ → Option γ} {z : γ} (h : Flow.thn k g (.go b) = some z) : k b = some z := h
theorem ret_inv {k : β → Option γ} {g : ρ → Option γ} {z : γ} (h : Flow.thn k g (.ret y) = some z) : g y = some z := h
theorem forS_cons (h : forS f (x :: r) b = some q) : (f x b).bind (Flow.nxt (forS f r)) = some q := h
theorem forS_nil (h : forS f [] b = some q) : q = .go b := (Option.some.inj h).symm
theorem forF_cons {c : β} (h : forF f' (x :: r) b = some c) : (f' x b).bind (fun b' => forF f' r b') = some c := h
theorem forF_nil {c : β} (h : forF f' [] b = some c) : c = b := (Option.some.inj h).symm
end
section
variable {α β : Type} {τ : Ty α} {xs : List α}
/-- what a turn is to reach -/
def LoopW (I : List α → L2.St → Hp → Hp → Prop) (Z1 : Hp) (r : List α) : L2.St → Hp → Prop := fun σ H => ∃ Z, Same Z1 Z ∧ Same Z H ∧ I r σ Z H
/-- I: what is true ahead of the turns for the rest of the items -/
theorem st_for {wi : TI} {g : TG} (I : List α → L2.St → Hp → Hp → Prop) (P : Pt S Z0 H0 M Z H s) (hi : EvI M (fun _ _ => True) wi σ Z H s τ xs s1)
    (h0 : ∀ Z1 H1, Step M.fp Z H Z1 H1 → Pt S Z0 H0 M Z1 H1 s1 → I xs σ Z1 H1)
    (hs : ∀ Z1 H1, Step M.fp Z H Z1 H1 → ∀ x r σ' v Z' H' Z2 H2, Same Z1 Z' → I (x :: r) σ' Z' H' → Step [] Z' H' Z2 H2 → τ.r Z2 v x →
      g v σ' H2 fun σ2 H3 => u { D with nx := LoopW I Z1 r, ct := LoopW I Z1 r, bk := D.nx } σ2 H3)
    (hd : ∀ σ' Z' H', Same Z Z' → Same Z' H' → I [] σ' Z' H' → D.nx σ' H') : tFor wi g u D σ H := by
  refine hi Z H (Same.refl _) SameX.refl P.sub P.m _ fun J Z1 H1 e m ⟨_, G, Y, wk, hG, hY⟩ => ?_
  refine for_it wk (fun i => LoopW I Z1 (xs.drop i)) ⟨Z1, Same.refl _, e.s, by rw [List.drop_zero]; exact h0 Z1 H1 e (P.next e m)⟩ ?_ ?_ ?_
  · rintro i σ' H' _ ⟨Z', sa, sb, _⟩
    exact hG Z' H' sa sb trivial
  · rintro i v σ' H3 H4 hin ⟨Z', sa, sb, hI⟩ y
    obtain ⟨Z4, x, ex, st4, rx⟩ := hY i Z' H3 v H4 hin sa sb (hG Z' H3 sa sb trivial) y
    have hd : xs.drop i = x :: xs.drop (i + 1) := by
      rw [List.drop_eq_getElem_cons hin]
      rw [List.getElem?_eq_getElem hin] at ex
      rw [Option.some.inj ex]
    rw [hd] at hI
    exact hs Z1 H1 e x _ σ' v Z' H3 Z4 H4 sa hI st4 rx
  · rintro σ' H' ⟨Z', sa, sb, hI⟩
    rw [List.drop_length] at hI
    exact hd σ' Z' H' (e.z.trans sa) sb hI
end
theorem bind_inv {α β : Type} {o : Option α} {f : α → Option β} {y : β} (h : o.bind f = some y) : ∃ x, o = some x ∧ f x = some y := Option.bind_eq_some_iff.mp h
theorem guard_inv {c : Prop} [Decidable c] {β : Type} {o : Option β} {y : β} (h : (if c then o else none) = some y) : c ∧ o = some y := by
  by_cases hc : c
  · rw [if_pos hc] at h; exact ⟨hc, h⟩
  · rw [if_neg hc] at h; cases h
theorem ifT {β : Type} {b : Bool} {o p y : β} (hb : b = true) (h : (if b = true then o else p) = y) : o = y := by rw [if_pos hb] at h; exact h
theorem ifF {β : Type} {b : Bool} {o p y : β} (hb : b = false) (h : (if b = true then o else p) = y) : p = y := by rw [if_neg (by rw [hb]; exact Bool.false_ne_true)] at h; exact h
theorem Pt.item {Z1 H1 : Hp} (P : Pt S Z0 H0 M Z H s) (e : Step [] Z H Z1 H1) : Pt S Z0 H0 M Z1 H1 s := P.next e.pure (M.pure e P.m)
theorem Mu.away {x : Addr} {Z1 H1 : Hp} (e : Step [x] Z H Z1 H1) (nx : x ∉ M.fp) (m : M.m s Z H) : M.m s Z1 H1 :=
  M.loc e.z (fun a ha o ho => e.h a o (fun q => nx (by rw [List.mem_singleton] at q; rw [← q]; exact ha)) ho) (fun a _ h z => e.n a h z) m
/-- self.f = e, self new -/
theorem st_fld {α : Type} {τ : Ty α} {x : α} {i : Nat} {p C dx : Addr} {fs : List (Str × V)} {f : Str} {tv : TE} (P : Pt S Z0 H0 M Z H s) (hp : H p = some (.ins C dx fs)) (zp : Z p = none) (np : p ∉ M.fp) (mp : p ∈ S ∨ H0 p = none) (hσ : σ[i]? = some (some (.ref p)))
    (e : Ev M tv σ Z H s (ty τ x) s1) (c : Cls K C) (n : NoAttr K C f) (l : fs.length < 1000) (k : ∀ v Z1 H1, Step (p :: M.fp) Z H Z1 H1 → Pt S Z0 H0 M Z1 H1 s1 → τ.r Z1 v x → H1 p = some (.ins C dx (putF f v fs)) → Z1 p = none → D.nx σ H1) : sFld K (tVar i) tv f D σ H :=
  e Z H (Same.refl _) SameX.refl P.sub P.m _ fun v Z1 H1 e m r => by
    have h1 : H1 p = some (.ins C dx fs) := e.h _ _ np hp
    have z1 : Z1 p = none := e.n p (some_ne hp) zp
    exact ⟨.ref p, hσ, p, C, dx, fs, rfl, h1, c, n, l, k v Z1 _ (step2 e z1) ((P.next e m).set z1 np mp) r upd_same z1⟩
/-- a list of one's own in the block of a comprehension -/
theorem ev_oX {α : Type} {τ : Ty α} {xs : List α} {p : Addr} {i : Nat} {Z1 H1 : Hp} (o : Own S H0 M.fp Z H τ p xs) (zz : Same Z Z1) (hh : SameX M.fp H H1) (e : σ[i]? = some (some (.ref p))) : Ev M (tVar i) σ Z1 H1 s (li τ xs) s := by
  obtain ⟨vs, h, t⟩ := o.ex
  exact ev_own e (hh _ _ o.n h) o.n (t.imp fun _ _ => τ.mono zz) o.l
end
/-! ### the draws -/
structure DS where
  ns : List Int
  k : Nat
  x : Nat
def rowZ (ns : List Int) (k : Nat) : Int :=
  let c0 := ns.getD k 0
  let c := if c0 < 0 then -2 * c0 - 1 else c0
  if c < 10 ^ 9 then
    let a := (c * 48271 + k * 69621 + 11) % 2147483647
    let b := (a * 16807 + c * 7 + k + 5) % 2147483629
    let d := (b * 39373 + a * b + 3) % 2147483587
    a + b * 2147483647 + d * 2147483647 ^ 2
  else c
def DS.cur (s : DS) (m : Int) : Nat := if (s.x : Int) < m then (rowZ s.ns s.k).toNat else s.x
def nxV (s : DS) (m : Int) : Int := (s.cur m : Int) % m
def nxS (s : DS) (m : Int) : DS := ⟨s.ns, if (s.x : Int) < m then s.k + 1 else s.k, ((s.cur m : Int) / m).toNat⟩
theorem nx_ge (s : DS) {m : Int} (h : 0 < m) : 0 ≤ nxV s m := Int.emod_nonneg _ (by omega)
theorem nx_lt (s : DS) {m : Int} (h : 0 < m) : nxV s m < m := Int.emod_lt_of_pos _ h
def NxOk (m : Int) : Prop := 0 < m ∧ m.natAbs < 2 ^ 200
instance {m : Int} : Decidable (NxOk m) := inferInstanceAs (Decidable (_ ∧ _))
def muD (st sc : Addr) : Mu DS where
  fp := [st]
  m := fun s Z H => H st = some (.lst [.ref sc, .int (s.k : Nat), .int (s.x : Nat)]) ∧ Z sc = some (.lst (s.ns.map V.int)) ∧ Z st = none
  al := fun ⟨h, _, z⟩ a ha => by rw [List.mem_singleton] at ha; subst ha; exact ⟨some_ne h, z⟩
  loc := fun sz hk hn ⟨h, hs, z⟩ => ⟨hk _ List.mem_cons_self _ h, sz _ _ hs, hn _ List.mem_cons_self (some_ne h) z⟩
theorem muD_back {st sc : Addr} : (muD st sc).Back := fun sz ⟨_, hs, z⟩ ⟨h', hs', _⟩ => ⟨h', by rw [hs, ← hs', sz _ _ hs], z⟩
section
variable {K : PySem.W.Frag} {σ : L2.St} {H : Hp} {D : Ends}
theorem st_draws {r : List V → Hp → VK → Prop} {a : Addr} {ns : List Int} {i j : Nat} (hA : SqL K H a (ns.map V.int)) (hlen : ns.length ≤ 63) (k : ∀ st sc Z0 Z1 H1, Pt [] Z0 H (muD st sc) Z1 H1 ⟨ns, 0, 0⟩ → D.nx (σ.set i (some (.ref st))) H1)
    (hr : ∀ xs H Q, (∃ p ys, xs = [.ref p] ∧ (SqL K H p ys ∨ SqT K H p ys) ∧ ∀ l, H l = none → Q (.ref l) (upd H l (.lst ys))) → r xs H Q := by exact fun _ _ _ h => h) (hσ : σ[j]? = some (some (.ref a)) := by rfl) :
    tAsg (tLst (tCons (tCB r (tCons (tVar j) tNil)) (tCons (tC (.int 0)) (tCons (tC (.int 0)) tNil)))) (gName i) D σ H := by
  refine ⟨.ref a, hσ, hr _ _ _ ⟨a, _, rfl, .inl hA, fun sc hsc => ?_⟩⟩
  refine ⟨by show 3 ≤ sizeLine; decide, fun st hst => ?_⟩
  have s0 : Same (fun _ => none : Hp) H := fun _ _ h => by cases h
  have e1 := Step.new (o := .lst (ns.map V.int)) s0 hsc
  have e2 := Step.own (o := .lst [.ref sc, .int 0, .int 0]) e1.s hst
  exact k st sc (fun _ => none) _ _ ⟨e1.trans e2, ⟨upd_same, upd_same, by rw [upd_ne (fun q => by rw [q, upd_same] at hst; cases hst)]⟩, fun x hx => by rw [show x = st from List.mem_singleton.mp hx]; exact .inr (same_x e1 hst)⟩
end
end TP
namespace TP
open PySem PySem.Spec PyProof.Rows L2
section
variable {μ : Type} {S : List Addr} {Z0 H0 : Hp} {M : Mu μ} {σ : L2.St} {Z H : Hp} {s s' s1 s2 s3 : μ} {ta tb tc te : TE} {t : TA} {K : PySem.W.Frag} {D : Ends} {u w : TS}
theorem whileS_cons {ρ β : Type} {f : β → Option (Flow ρ β)} {n : Nat} {b : β} {q : Flow ρ β} (h : whileS f n b = some q) : ∃ k, n = k + 1 ∧ (f b).bind (Flow.nxt (whileS f k)) = some q := by
  cases n with
  | zero => cases h
  | succ k => exact ⟨k, rfl, h⟩
def WhW (I : Nat → L2.St → Hp → Hp → Prop) (k : Nat) : L2.St → Hp → Prop := fun σ H => ∃ Z, I k σ Z H
theorem st_while {c : TT} {tb : TS} (I : Nat → L2.St → Hp → Hp → Prop) (n : Nat) (P : Pt S Z0 H0 M Z H s) (h0 : I n σ Z H)
    (hs : ∀ n σ' Z' H', I n σ' Z' H' → ∃ k s s1 b, n = k + 1 ∧ Pt S Z0 H0 M Z' H' s ∧ EvT M c σ' Z' H' s b s1 ∧ (b = true → ∀ Z1 H1, Step M.fp Z' H' Z1 H1 → Pt S Z0 H0 M Z1 H1 s1 → tb { D with nx := WhW I k, ct := WhW I k, bk := D.nx } σ' H1) ∧
      (b = false → ∀ Z1 H1, Step M.fp Z' H' Z1 H1 → Pt S Z0 H0 M Z1 H1 s1 → D.nx σ' H1)) : tWhile c tb D σ H := by
  refine ⟨fun m σ H => ∃ Z, I m σ Z H, ⟨n, Z, h0⟩, ?_⟩
  rintro m σ' H' ⟨Z', hI⟩
  obtain ⟨k, s, s1, b, rfl, P, et, ht, hf⟩ := hs m σ' Z' H' hI
  refine et Z' H' (Same.refl _) SameX.refl P.sub P.m _ fun Z1 H1 e m => ?_
  cases b with
  | true =>
    rw [if_pos rfl]
    exact ⟨WhW I k, fun σ3 H3 h3 => ⟨k, Nat.lt_succ_self _, h3⟩, ht rfl Z1 H1 e (P.next e m)⟩
  | false =>
    rw [if_neg Bool.false_ne_true]
    exact hf rfl Z1 H1 e (P.next e m)
end
end TP

namespace TP
open PySem PySem.Spec PyProof.Rows L2
section
variable {μ : Type} {S : List Addr} {Z0 H0 : Hp} {M : Mu μ} {σ : L2.St} {Z H : Hp} {s s' s1 s2 s3 : μ} {ta tb tc te : TE} {t : TA} {K : PySem.W.Frag} {D : Ends} {u w : TS}
/-! ### isinstance -/
theorem ev_isi {r : List V → Hp → VK → Prop} {R : Rr M.fp} {c : V} {v t : Value} {b : Bool} (hr : ∀ xs H Q, rIsi K xs H Q → r xs H Q) (ha : Ev M ta σ Z H s R s1) (tx : ∀ Z H v, Same Z H → R.r Z H v → TyX K H v t) (hc : ClsV c v) (hk : PySem.W.kitOne K t v = some b) :
    Ev M (tCB r (tCons ta (tCons (tC c) tNil))) σ Z H s (ty yBool b) s1 :=
  ev_cb (Rs := rac R (rac ⟨fun _ _ v => v = c, fun _ h => h⟩ ra0)) (eva_cons ha (eva_cons (ev_of fun _ _ _ _ _ _ q => q _ rfl) eva_nil)) fun _ _ _ sz ⟨x, r1, e1, h1, y, r2, e2, h2, e3⟩ _ q => by
    cases e3; cases e2; cases e1
    have h2' : y = c := h2
    subst h2'
    exact hr _ _ _ ⟨x, y, t, v, b, rfl, hc, tx _ _ _ sz h1, hk, q _ _ _ (Step.refl sz) rfl⟩
section
variable {fp : List Addr} {α β γ δ : Type} {τ : Ty α} {υ : Ty β} {φ : Ty γ} {ψ : Ty δ}
theorem tx_int {x : Int} : ∀ Z H v, Same Z H → (ty (fp := fp) yInt x).r Z H v → TyX K H v (.type "int") := fun _ _ _ _ h => by cases h; exact .base (.int _)
theorem tx_bool {x : Bool} : ∀ Z H v, Same Z H → (ty (fp := fp) yBool x).r Z H v → TyX K H v (.type "bool") := fun _ _ _ _ h => by cases h; exact .base (.bl _)
theorem tx_str {x : Str} : ∀ Z H v, Same Z H → (ty (fp := fp) yStr x).r Z H v → TyX K H v (.type "str") := fun _ _ _ _ h => by rw [h.1]; exact .base (.str _)
theorem tx_li {x : List α} : ∀ Z H v, Same Z H → (li (fp := fp) τ x).r Z H v → TyX K H v (.type "list") := fun _ _ _ sz h => by
  obtain ⟨p, vs, rfl, g, _, _⟩ := rdl sz h
  exact .base (.lst g)
theorem tx_sqT {H : Hp} {a : Addr} {vs : List V} (h : SqT K H a vs) : TyX K H (.ref a) (.type "tuple") := by
  rcases h with (h | ⟨o, h⟩) | ⟨o, its, n, h, hc, _⟩
  · exact .base (.tup h)
  · exact .fTuple h
  · exact .kTuple h hc
theorem tx_tup {x : List α} : ∀ Z H v, Same Z H → (ty (fp := fp) (yTup K τ) x).r Z H v → TyX K H v (.type "tuple") := fun _ _ _ sz ⟨a, vs, e, h, _⟩ => by subst e; exact tx_sqT (seqT_same sz h)
theorem tx_p2 {x : α × β} : ∀ Z H v, Same Z H → (ty (fp := fp) (yP2 K τ υ) x).r Z H v → TyX K H v (.type "tuple") := fun _ _ _ sz ⟨a, _, _, e, h, _⟩ => by subst e; exact tx_sqT (seqT_same sz h)
theorem tx_p3 {x : α × β × γ} : ∀ Z H v, Same Z H → (ty (fp := fp) (yP3 K τ υ φ) x).r Z H v → TyX K H v (.type "tuple") := fun _ _ _ sz ⟨a, _, _, _, e, h, _⟩ => by subst e; exact tx_sqT (seqT_same sz h)
end
end
end TP

namespace TP
open PySem PySem.Spec PyProof.Rows L2
/-! on, where what is bound is known: proofs that are no rfl, so that the kernel evaluates nothing -/
theorem bsome {α β : Type} {x : α} {f : α → Option β} : (some x).bind f = f x := by rw [Option.bind_some]
theorem thn_go {ρ β γ : Type} {b : β} {k : β → Option γ} {g : ρ → Option γ} : Flow.thn k g (.go b) = k b := by simp only [Flow.thn]
theorem thn_brk {ρ β γ : Type} {b : β} {k : β → Option γ} {g : ρ → Option γ} : Flow.thn k g (.brk b) = k b := by simp only [Flow.thn]
theorem thn_ret {ρ β γ : Type} {y : ρ} {k : β → Option γ} {g : ρ → Option γ} : Flow.thn k g (.ret y) = g y := by simp only [Flow.thn]
theorem forF_foldl {α β : Type} {f : α → β → Option β} {g : β → α → β} (h : ∀ x b, f x b = some (g b x)) : ∀ (xs : List α) (b : β), forF f xs b = some (xs.foldl g b)
  | [], _ => rfl
  | x :: r, b => by
    show (f x b).bind _ = _
    rw [h x b]
    exact forF_foldl h r _
theorem forF_inv {α β : Type} {f : α → β → Option β} {I : Nat → β → Prop} {m : Nat} (h : ∀ n x b, n < m → I n b → ∃ b', f x b = some b' ∧ I (n + 1) b') : ∀ (xs : List α) (n : Nat) (b : β), n + xs.length ≤ m → I n b → ∃ b', forF f xs b = some b' ∧ I (n + xs.length) b'
  | [], _, b, _, i => ⟨b, rfl, i⟩
  | x :: r, n, b, l, i => by
    rw [List.length_cons] at l
    obtain ⟨b1, e, i1⟩ := h n x b (by omega) i
    obtain ⟨b2, e2, i2⟩ := forF_inv h r (n + 1) b1 (by omega) i1
    refine ⟨b2, ?_, by rw [List.length_cons, show n + (r.length + 1) = n + 1 + r.length by omega]; exact i2⟩
    show (f x b).bind _ = _
    rw [e]
    exact e2
theorem forS_inv {ρ α β : Type} {f : α → β → Option (Flow ρ β)} {I : Nat → β → Prop} {m : Nat} (h : ∀ n x b, n < m → I n b → ∃ b', f x b = some (.go b') ∧ I (n + 1) b') : ∀ (xs : List α) (n : Nat) (b : β), n + xs.length ≤ m → I n b → ∃ b', forS f xs b = some (.go b') ∧ I (n + xs.length) b'
  | [], _, b, _, i => ⟨b, rfl, i⟩
  | x :: r, n, b, l, i => by
    rw [List.length_cons] at l
    obtain ⟨b1, e, i1⟩ := h n x b (by omega) i
    obtain ⟨b2, e2, i2⟩ := forS_inv h r (n + 1) b1 (by omega) i1
    refine ⟨b2, ?_, by rw [List.length_cons, show n + (r.length + 1) = n + 1 + r.length by omega]; exact i2⟩
    show (f x b).bind _ = _
    rw [e]
    exact e2
theorem mapS_all {α β μ : Type} {f : α → μ → Option (β × μ)} {R : β → Prop} (h : ∀ x s, ∃ y s', f x s = some (y, s') ∧ R y) : ∀ (xs : List α) (s : μ), ∃ ys s', mapS f xs s = some (ys, s') ∧ ys.length = xs.length ∧ ∀ y ∈ ys, R y
  | [], s => ⟨[], s, rfl, rfl, fun _ h => nomatch h⟩
  | x :: r, s => by
    obtain ⟨y, s1, e, hy⟩ := h x s
    obtain ⟨ys, s2, e2, l, hs⟩ := mapS_all h r s1
    refine ⟨y :: ys, s2, ?_, congrArg Nat.succ l, fun z hz => ?_⟩
    · show (f x s).bind _ = _
      rw [e]
      show (mapS f r s1).bind _ = _
      rw [e2]
      rfl
    · rcases List.mem_cons.mp hz with rfl | hz
      · exact hy
      · exact hs z hz
theorem cutA_none {α : Type} (xs : List α) {c : Int} (h : 0 ≤ c) : cutA xs none (some c) = xs.take c.toNat := by
  obtain ⟨k, rfl⟩ := Int.eq_ofNat_of_zero_le h
  unfold cutA
  rw [HT.sIx_none, HT.sIx_nat, List.drop_zero, Nat.sub_zero, Int.toNat_natCast]
  by_cases q : k ≤ xs.length
  · rw [Nat.min_eq_left q]
  · rw [Nat.min_eq_right (by omega), List.take_length, List.take_of_length_le (by omega)]
theorem cutA_to {α : Type} (xs : List α) {a c : Int} (h : 0 ≤ a) (h2 : a ≤ c) (h3 : c ≤ xs.length) : cutA xs (some a) (some c) = (xs.drop a.toNat).take (c - a).toNat := by
  obtain ⟨k, rfl⟩ := Int.eq_ofNat_of_zero_le h
  obtain ⟨m, rfl⟩ := Int.eq_ofNat_of_zero_le (show 0 ≤ c by omega)
  unfold cutA
  rw [HT.sIx_nat, HT.sIx_nat, Nat.min_eq_left (by omega), Nat.min_eq_left (by omega), Int.toNat_natCast, show ((m : Int) - (k : Int)).toNat = m - k by omega]
theorem cutA_from {α : Type} (xs : List α) {a : Int} (h : 0 ≤ a) : cutA xs (some a) none = xs.drop a.toNat := by
  obtain ⟨k, rfl⟩ := Int.eq_ofNat_of_zero_le h
  unfold cutA
  rw [HT.sIx_nat, HT.sIx_none, Int.toNat_natCast]
  by_cases q : k ≤ xs.length
  · rw [Nat.min_eq_left q, List.take_of_length_le (by rw [List.length_drop]; omega)]
  · rw [Nat.min_eq_right (by omega), List.drop_length, List.drop_of_length_le (by omega)]
    simp
theorem ixN_of {n : Nat} {i : Int} (h : 0 ≤ i) (l : i < n) : ixN n i = some i.toNat := by
  obtain ⟨k, rfl⟩ := Int.eq_ofNat_of_zero_le h
  rw [Int.toNat_natCast]
  unfold ixN
  split <;> first | rfl | omega | (split <;> first | rfl | omega) | skip
theorem atI_of {α : Type} {xs : List α} {i : Int} (h : 0 ≤ i) : L2.atI xs i = xs[i.toNat]? := by
  by_cases l : i < xs.length
  · unfold L2.atI
    rw [ixN_of h l]
    rfl
  · rw [List.getElem?_eq_none (by omega)]
    obtain ⟨k, rfl⟩ := Int.eq_ofNat_of_zero_le h
    unfold L2.atI ixN
    split <;> first | rfl | (split <;> first | rfl | omega) | skip
theorem nxOk_of {m : Int} (h : 0 < m) (l : m < 2 ^ 199) : NxOk m := ⟨h, by
  have : m.natAbs < 2 ^ 199 := by
    have e : (2 : Int) ^ 199 = ((2 ^ 199 : Nat) : Int) := by decide
    rw [e] at l
    omega
  exact Nat.lt_trans this (by decide)⟩
theorem rangeOk_of {a b : Int} (h : 0 ≤ a) (h1 : a ≤ 16777216) (l : b ≤ 16777216) (l2 : -16777216 ≤ b) : RangeOk a b := ⟨⟨by omega, by omega⟩, ⟨by omega, by omega⟩, by omega⟩
end TP
namespace TP
open PySem PySem.Spec PyProof.Rows L2
theorem forF_idx {α β : Type} {f : α → β → Option β} {I : Nat → β → Prop} : ∀ (xs : List α) (k : Nat) (b : β), (∀ n x b, xs[n]? = some x → I (k + n) b → ∃ b', f x b = some b' ∧ I (k + n + 1) b') → I k b → ∃ b', forF f xs b = some b' ∧ I (k + xs.length) b'
  | [], k, b, _, i => ⟨b, rfl, i⟩
  | x :: r, k, b, h, i => by
    obtain ⟨b1, e1, i1⟩ := h 0 x b rfl i
    obtain ⟨b2, e2, i2⟩ := forF_idx (I := I) r (k + 1) b1 (fun n y b' hy ib => by
      have := h (n + 1) y b' (by simpa using hy) (by rw [show k + (n + 1) = k + 1 + n by omega]; exact ib)
      rw [show k + 1 + n + 1 = k + (n + 1) + 1 by omega]
      exact this) i1
    refine ⟨b2, ?_, by rw [List.length_cons, show k + (r.length + 1) = k + 1 + r.length by omega]; exact i2⟩
    show (f x b).bind _ = _
    rw [e1]
    exact e2
theorem forS_idx {ρ α β : Type} {f : α → β → Option (Flow ρ β)} {I : Nat → β → Prop} : ∀ (xs : List α) (k : Nat) (b : β), (∀ n x b, xs[n]? = some x → I (k + n) b → ∃ b', f x b = some (.go b') ∧ I (k + n + 1) b') → I k b → ∃ b', forS f xs b = some (.go b') ∧ I (k + xs.length) b'
  | [], k, b, _, i => ⟨b, rfl, i⟩
  | x :: r, k, b, h, i => by
    obtain ⟨b1, e1, i1⟩ := h 0 x b rfl i
    obtain ⟨b2, e2, i2⟩ := forS_idx (I := I) r (k + 1) b1 (fun n y b' hy ib => by
      have := h (n + 1) y b' (by simpa using hy) (by rw [show k + (n + 1) = k + 1 + n by omega]; exact ib)
      rw [show k + 1 + n + 1 = k + (n + 1) + 1 by omega]
      exact this) i1
    refine ⟨b2, ?_, by rw [List.length_cons, show k + (r.length + 1) = k + 1 + r.length by omega]; exact i2⟩
    show (f x b).bind _ = _
    rw [e1]
    exact e2
theorem rangeZ_get {lo hi : Int} {n : Nat} {x : Int} (h : (rangeZ lo hi)[n]? = some x) : x = lo + (n : Int) ∧ (n : Int) < hi - lo := by
  have l := (List.getElem?_eq_some_iff.mp h).1
  rw [rangeZ_len] at l
  unfold rangeZ at h
  rw [List.getElem?_map, List.getElem?_range l] at h
  exact ⟨(Option.some.inj h).symm, by omega⟩
/-- a loop over range(m) that always goes on -/
theorem forF_rng {β : Type} {f : Int → β → Option β} (I : Nat → β → Prop) {m : Int} {b : β} (h0 : I 0 b) (h : ∀ (n : Nat) b, (n : Int) < m → I n b → ∃ b', f (n : Int) b = some b' ∧ I (n + 1) b') : ∃ b', forF f (rangeZ 0 m) b = some b' ∧ I m.toNat b' := by
  obtain ⟨b', e, i⟩ := forF_idx (f := f) (I := I) (rangeZ 0 m) 0 b (fun n x b hx ib => by
    obtain ⟨rfl, hm⟩ := rangeZ_get hx
    rw [Nat.zero_add] at ib ⊢
    obtain ⟨b', e, i⟩ := h n b (by omega) ib
    exact ⟨b', by rw [show (0 : Int) + (n : Int) = n by omega]; exact e, i⟩) h0
  refine ⟨b', e, ?_⟩
  rw [Nat.zero_add, rangeZ_len, Int.sub_zero] at i
  exact i
theorem forS_rng {ρ β : Type} {f : Int → β → Option (Flow ρ β)} (I : Nat → β → Prop) {m : Int} {b : β} (h0 : I 0 b) (h : ∀ (n : Nat) b, (n : Int) < m → I n b → ∃ b', f (n : Int) b = some (.go b') ∧ I (n + 1) b') : ∃ b', forS f (rangeZ 0 m) b = some (.go b') ∧ I m.toNat b' := by
  obtain ⟨b', e, i⟩ := forS_idx (f := f) (I := I) (rangeZ 0 m) 0 b (fun n x b hx ib => by
    obtain ⟨rfl, hm⟩ := rangeZ_get hx
    rw [Nat.zero_add] at ib ⊢
    obtain ⟨b', e, i⟩ := h n b (by omega) ib
    exact ⟨b', by rw [show (0 : Int) + (n : Int) = n by omega]; exact e, i⟩) h0
  refine ⟨b', e, ?_⟩
  rw [Nat.zero_add, rangeZ_len, Int.sub_zero] at i
  exact i
/-- enumerate, from k on -/
def enumF {α : Type} : Int → List α → List (Int × α)
  | _, [] => []
  | k, x :: r => (k, x) :: enumF (k + 1) r
theorem enumZ_eq {α : Type} (xs : List α) : enumZ xs = enumF 0 xs := by
  have key : ∀ (xs : List α) (k : Nat), ((List.range xs.length).map fun (i : Nat) => ((k + i : Nat) : Int)).zip xs = enumF (k : Int) xs := fun xs => by
    induction xs with
    | nil => intro k; rfl
    | cons x r ih =>
      intro k
      rw [List.length_cons, List.range_succ_eq_map, List.map_cons, List.map_map, List.zip_cons_cons]
      show (((k + 0 : Nat) : Int), x) :: _ = ((k : Int), x) :: enumF ((k : Int) + 1) r
      have := ih (k + 1)
      rw [Nat.add_zero]
      congr 1
      have e : ((k + 1 : Nat) : Int) = (k : Int) + 1 := by omega
      rw [← e, ← this]
      congr 2
      funext i
      show ((k + (i + 1) : Nat) : Int) = ((k + 1 + i : Nat) : Int)
      omega
  have := key xs 0
  unfold enumZ rangeZ
  rw [Int.sub_zero, Int.toNat_natCast]
  refine Eq.trans ?_ this
  congr 2
end TP

namespace TP
open PySem PySem.Spec PyProof.Rows L2
section
variable {α β γ μ : Type}
theorem mapO_eq {f : α → Option β} {g : α → β} : ∀ {xs : List α}, (∀ x ∈ xs, f x = some (g x)) → mapO f xs = some (xs.map g)
  | [], _ => rfl
  | x :: r, h => by
    show (f x).bind _ = _
    rw [h x List.mem_cons_self, Option.bind_some, mapO_eq fun y hy => h y (List.mem_cons_of_mem _ hy)]
    rfl
theorem mapO_ex {f : α → Option β} {R : β → Prop} : ∀ {xs : List α}, (∀ x ∈ xs, ∃ y, f x = some y ∧ R y) → ∃ ys, mapO f xs = some ys ∧ ys.length = xs.length ∧ ∀ y ∈ ys, R y
  | [], _ => ⟨[], rfl, rfl, fun _ h => nomatch h⟩
  | x :: r, h => by
    obtain ⟨y, e, hy⟩ := h x List.mem_cons_self
    obtain ⟨ys, e2, l, hs⟩ := mapO_ex fun y hy => h y (List.mem_cons_of_mem _ hy)
    refine ⟨y :: ys, ?_, congrArg Nat.succ l, fun z hz => ?_⟩
    · show (f x).bind _ = _
      rw [e, Option.bind_some, e2]
      rfl
    · rcases List.mem_cons.mp hz with rfl | hz
      · exact hy
      · exact hs z hz
/-- a comprehension that draws, with a fact of the items -/
theorem mapS_mem {f : α → μ → Option (β × μ)} {R : β → Prop} : ∀ {xs : List α} (s : μ), (∀ x ∈ xs, ∀ s, ∃ y s', f x s = some (y, s') ∧ R y) → ∃ ys s', mapS f xs s = some (ys, s') ∧ ys.length = xs.length ∧ ∀ y ∈ ys, R y
  | [], s, _ => ⟨[], s, rfl, rfl, fun _ h => nomatch h⟩
  | x :: r, s, h => by
    obtain ⟨y, s1, e, hy⟩ := h x List.mem_cons_self s
    obtain ⟨ys, s2, e2, l, hs⟩ := mapS_mem s1 fun y hy => h y (List.mem_cons_of_mem _ hy)
    refine ⟨y :: ys, s2, ?_, congrArg Nat.succ l, fun z hz => ?_⟩
    · show (f x s).bind _ = _
      rw [e]
      show (mapS f r s1).bind _ = _
      rw [e2]
      rfl
    · rcases List.mem_cons.mp hz with rfl | hz
      · exact hy
      · exact hs z hz
theorem forF_mem {f : α → β → Option β} {I : β → Prop} : ∀ {xs : List α} {b : β}, I b → (∀ x ∈ xs, ∀ b, I b → ∃ b', f x b = some b' ∧ I b') → ∃ b', forF f xs b = some b' ∧ I b'
  | [], b, i, _ => ⟨b, rfl, i⟩
  | x :: r, b, i, h => by
    obtain ⟨b1, e, i1⟩ := h x List.mem_cons_self b i
    obtain ⟨b2, e2, i2⟩ := forF_mem i1 fun y hy => h y (List.mem_cons_of_mem _ hy)
    refine ⟨b2, ?_, i2⟩
    show (f x b).bind _ = _
    rw [e]
    exact e2
theorem forS_mem {ρ : Type} {f : α → β → Option (Flow ρ β)} {I : β → Prop} : ∀ {xs : List α} {b : β}, I b → (∀ x ∈ xs, ∀ b, I b → ∃ b', f x b = some (.go b') ∧ I b') → ∃ b', forS f xs b = some (.go b') ∧ I b'
  | [], b, i, _ => ⟨b, rfl, i⟩
  | x :: r, b, i, h => by
    obtain ⟨b1, e, i1⟩ := h x List.mem_cons_self b i
    obtain ⟨b2, e2, i2⟩ := forS_mem i1 fun y hy => h y (List.mem_cons_of_mem _ hy)
    refine ⟨b2, ?_, i2⟩
    show (f x b).bind _ = _
    rw [e]
    exact e2
/-- the loop by places: what is true behind n items -/
theorem forF_take {f : α → β → Option β} {I : List α → β → Prop} {xs : List α} {b : β} (h0 : I [] b) (h : ∀ p x r b, xs = p ++ x :: r → I p b → ∃ b', f x b = some b' ∧ I (p ++ [x]) b') : ∃ b', forF f xs b = some b' ∧ I xs b' := by
  have key : ∀ (r p : List α) (b : β), xs = p ++ r → I p b → ∃ b', forF f r b = some b' ∧ I xs b' := fun r => by
    induction r with
    | nil => intro p b e i; rw [List.append_nil] at e; exact ⟨b, rfl, e ▸ i⟩
    | cons x r ih =>
      intro p b e i
      obtain ⟨b1, e1, i1⟩ := h p x r b e i
      obtain ⟨b2, e2, i2⟩ := ih (p ++ [x]) b1 (by rw [e]; simp) i1
      refine ⟨b2, ?_, i2⟩
      show (f x b).bind _ = _
      rw [e1]
      exact e2
  exact key xs [] b rfl h0
theorem forS_take {ρ : Type} {f : α → β → Option (Flow ρ β)} {I : List α → β → Prop} {xs : List α} {b : β} (h0 : I [] b) (h : ∀ p x r b, xs = p ++ x :: r → I p b → ∃ b', f x b = some (.go b') ∧ I (p ++ [x]) b') : ∃ b', forS f xs b = some (.go b') ∧ I xs b' := by
  have key : ∀ (r p : List α) (b : β), xs = p ++ r → I p b → ∃ b', forS f r b = some (.go b') ∧ I xs b' := fun r => by
    induction r with
    | nil => intro p b e i; rw [List.append_nil] at e; exact ⟨b, rfl, e ▸ i⟩
    | cons x r ih =>
      intro p b e i
      obtain ⟨b1, e1, i1⟩ := h p x r b e i
      obtain ⟨b2, e2, i2⟩ := ih (p ++ [x]) b1 (by rw [e]; simp) i1
      refine ⟨b2, ?_, i2⟩
      show (f x b).bind _ = _
      rw [e1]
      exact e2
  exact key xs [] b rfl h0
theorem str_len1 {c : Nat} : (⟨#[c]⟩ : Str).length = 1 := rfl
theorem str_app_len (x y : Str) : (x ++ y).length = x.length + y.length := by
  show (x.cps ++ y.cps).size = _
  rw [Array.size_append]; rfl
/-- == of data that are compared by their terms -/
theorem EqD.eqvB {K : PySem.W.Frag} {τ : Ty α} {d : α → PyData} {n : Nat} (E : EqD K τ d n) [DecidableEq α] (x y : α) : PyData.eqv (d x) (d y) = decide (x = y) := Bool.eq_iff_iff.mpr ((E.eqv x y).trans decide_eq_true_iff.symm)
theorem atI_lit {xs : List α} {i : Int} (h : 0 ≤ i) (l : i < xs.length) : ∃ x, L2.atI xs i = some x ∧ x ∈ xs := by
  rw [atI_of h]
  obtain ⟨k, rfl⟩ := Int.eq_ofNat_of_zero_le h
  rw [Int.toNat_natCast]
  have hk : k < xs.length := by omega
  exact ⟨xs[k], List.getElem?_eq_getElem hk, List.getElem_mem hk⟩
end
end TP

namespace TP
open PySem PySem.Spec PyProof.Rows L2
/-! ### exceptions -/
/-- a value, or an exception -/
inductive Res (ε α : Type)
  | ok (a : α) | er (e : ε)
deriving DecidableEq
def Res.thn {ε α γ : Type} (g : ε → Option γ) (k : α → Option γ) : Res ε α → Option γ
  | .ok a => k a
  | .er e => g e
section
variable {ε α γ : Type} {g : ε → Option γ} {k : α → Option γ} {y : γ}
theorem rok_inv {a : α} (h : Res.thn g k (.ok a) = some y) : k a = some y := h
theorem rer_inv {e : ε} (h : Res.thn g k (.er e) = some y) : g e = some y := h
end
section
variable {μ : Type} {S : List Addr} {Z0 H0 : Hp} {M : Mu μ} {σ : L2.St} {Z H : Hp} {s s' s1 s2 s3 : μ} {ta tb tc te : TE} {t : TA} {K : PySem.W.Frag} {D : Ends} {u w : TS} {X : Hp → Prop}
/-- the expression raises: X is asked of the heap then -/
def EvE (M : Mu μ) (t : TE) (σ : L2.St) (Z H : Hp) (s : μ) (X : Hp → Prop) (s' : μ) : Prop :=
  ∀ Z1 H1, Same Z Z1 → SameX M.fp H H1 → Same Z1 H1 → M.m s Z1 H1 → ∀ Q : VK, (∀ Z2 H2, Step M.fp Z1 H1 Z2 H2 → M.m s' Z2 H2 → X H2) → t σ H1 Q
def EvAE (M : Mu μ) (t : TA) (σ : L2.St) (Z H : Hp) (s : μ) (X : Hp → Prop) (s' : μ) : Prop :=
  ∀ Z1 H1, Same Z Z1 → SameX M.fp H H1 → Same Z1 H1 → M.m s Z1 H1 → ∀ Q : List V → Hp → Prop, (∀ Z2 H2, Step M.fp Z1 H1 Z2 H2 → M.m s' Z2 H2 → X H2) → t σ H1 Q
def EvTE (M : Mu μ) (t : TT) (σ : L2.St) (Z H : Hp) (s : μ) (X : Hp → Prop) (s' : μ) : Prop :=
  ∀ Z1 H1, Same Z Z1 → SameX M.fp H H1 → Same Z1 H1 → M.m s Z1 H1 → ∀ Q : Bool → Hp → Prop, (∀ Z2 H2, Step M.fp Z1 H1 Z2 H2 → M.m s' Z2 H2 → X H2) → t σ H1 Q
/-- for arguments of which Rs is true the promise raises: the class cls -/
def CallE (M : Mu μ) (sp : Sp) (E : XK) (Rs : Ra M.fp) (s : μ) (cls : Value) (s' : μ) : Prop :=
  ∀ Z H vs, Same Z H → M.m s Z H → Rs.r Z H vs → ∀ Q : VK, (∀ Z2 H2, Step M.fp Z H Z2 H2 → M.m s' Z2 H2 → E cls none H2) → sp vs H Q E
def InitE (M : Mu μ) (C : Addr) (sp : Sp) (E : XK) (Rs : Ra M.fp) (s : μ) (cls : Value) (s' : μ) : Prop :=
  ∀ Z H vs x dx, Same Z H → M.m s Z H → Rs.r Z H vs → H x = some (.ins C dx []) → Z x = none → x ∉ M.fp → ∀ Q : VK, (∀ Z2 H2, Step (x :: M.fp) Z H Z2 H2 → M.m s' Z2 H2 → E cls none H2) → sp (.ref x :: vs) H Q E
theorem eae_head (ha : EvE M ta σ Z H s X s1) : EvAE M (tCons ta t) σ Z H s X s1 := fun Z1 H1 a b c d _ q => ha Z1 H1 a b c d _ q
theorem eae_tail {R : Rr M.fp} (ha : Ev M ta σ Z H s R s1) (hr : EvAE M t σ Z H s1 X s2) : EvAE M (tCons ta t) σ Z H s X s2 :=
  fun Z1 H1 a b c d _ q => ha Z1 H1 a b c d _ fun _ Z2 H2 e m _ => hr Z2 H2 (a.trans e.z) (b.trans e.h) e.s m _ fun Z3 H3 e2 m2 => q Z3 H3 (e.trans e2) m2
theorem eve_args {sp : Sp} {E : XK} {dvs : List V} (ha : EvAE M t σ Z H s X s1) : EvE M (tCall sp dvs E t) σ Z H s X s1 := fun Z1 H1 a b c d _ q => ha Z1 H1 a b c d _ q
theorem eve_cb {r : List V → Hp → VK → Prop} (ha : EvAE M t σ Z H s X s1) : EvE M (tCB r t) σ Z H s X s1 := fun Z1 H1 a b c d _ q => ha Z1 H1 a b c d _ q
theorem eve_tup (ha : EvAE M t σ Z H s X s1) : EvE M (tTup t) σ Z H s X s1 := fun Z1 H1 a b c d _ q => ha Z1 H1 a b c d _ q
theorem eve_lst (ha : EvAE M t σ Z H s X s1) : EvE M (tLst t) σ Z H s X s1 := fun Z1 H1 a b c d _ q => ha Z1 H1 a b c d _ q
theorem eve_left {r : R2} (ha : EvE M ta σ Z H s X s1) : EvE M (tOp r ta tb) σ Z H s X s1 := fun Z1 H1 a b c d _ q => ha Z1 H1 a b c d _ q
theorem eve_right {r : R2} {R : Rr M.fp} (ha : Ev M ta σ Z H s R s1) (hb : EvE M tb σ Z H s1 X s2) : EvE M (tOp r ta tb) σ Z H s X s2 :=
  fun Z1 H1 a b c d _ q => ha Z1 H1 a b c d _ fun _ Z2 H2 e m _ => hb Z2 H2 (a.trans e.z) (b.trans e.h) e.s m _ fun Z3 H3 e2 m2 => q Z3 H3 (e.trans e2) m2
theorem eve_fld {f : Str} (ha : EvE M ta σ Z H s X s1) : EvE M (tFld K ta f) σ Z H s X s1 := fun Z1 H1 a b c d _ q => ha Z1 H1 a b c d _ q
theorem eve_call {sp : Sp} {E : XK} {Rs : Ra M.fp} {cls : Value} (C : CallE M sp E Rs s1 cls s2) (ha : EvA M t σ Z H s Rs s1) : EvE M (tCall sp [] E t) σ Z H s (E cls none) s2 :=
  fun Z1 H1 a b c d Q q => ha Z1 H1 a b c d _ fun vs Z2 H2 e m rs => by
    rw [List.append_nil]
    exact C Z2 H2 vs e.s m rs Q fun Z3 H3 e2 m2 => q Z3 H3 (e.trans e2) m2
theorem eve_meth {α : Type} {τ : Ty α} {x : α} {C' : Addr} {m : Str} {sp : Sp} {E : XK} {Rs : Ra M.fp} {cls : Value} (O : ObjOf τ C' m) (C : CallE M sp E (rac (ty τ x) Rs) s2 cls s3) (hx : Ev M ta σ Z H s (ty τ x) s1) (ha : EvA M t σ Z H s1 Rs s2) : EvE M (tMeth C' m sp [] E ta t) σ Z H s (E cls none) s3 :=
  fun Z1 H1 a b c d Q q => hx Z1 H1 a b c d _ fun v Z2 H2 e mm rv => by
    obtain ⟨p, dx, fs, rfl, hp, l⟩ := O _ _ _ rv
    refine ⟨p, dx, fs, rfl, e.s _ _ hp, l, ha Z2 H2 (a.trans e.z) (b.trans e.h) e.s mm _ fun vs Z3 H3 e2 m2 rs => ?_⟩
    rw [List.append_nil]
    exact C Z3 H3 _ e2.s m2 ⟨_, vs, rfl, τ.mono e2.z rv, rs⟩ Q fun Z4 H4 e3 m3 => q Z4 H4 ((e.trans e2).trans e3) m3
theorem eve_methA {α : Type} {τ : Ty α} {x : α} {C' : Addr} {m : Str} {sp : Sp} {E : XK} (O : ObjOf τ C' m) (hx : Ev M ta σ Z H s (ty τ x) s1) (ha : EvAE M t σ Z H s1 X s2) : EvE M (tMeth C' m sp [] E ta t) σ Z H s X s2 :=
  fun Z1 H1 a b c d Q q => hx Z1 H1 a b c d _ fun v Z2 H2 e mm rv => by
    obtain ⟨p, dx, fs, rfl, hp, l⟩ := O _ _ _ rv
    exact ⟨p, dx, fs, rfl, e.s _ _ hp, l, ha Z2 H2 (a.trans e.z) (b.trans e.h) e.s mm _ fun Z3 H3 e2 m2 => q Z3 H3 (e.trans e2) m2⟩
theorem eve_methO {C' : Addr} {m : Str} {sp : Sp} {E : XK} (hx : EvE M ta σ Z H s X s1) : EvE M (tMeth C' m sp [] E ta t) σ Z H s X s1 := fun Z1 H1 a b c d _ q => hx Z1 H1 a b c d _ q
theorem eve_makeA {C : Addr} {sp : Sp} {E : XK} (ha : EvAE M t σ Z H s X s1) : EvE M (tMake C sp [] E t) σ Z H s X s1 := fun Z1 H1 a b c d _ q => ha Z1 H1 a b c d _ q
theorem eve_makeKA {C : Addr} {n k : Nat} {sp : Sp} {E : XK} {gV : List V → List V → List V} {tk : TA} (ha : EvAE M t σ Z H s X s1) : EvE M (tMakeK C n k sp gV E t tk) σ Z H s X s1 := fun Z1 H1 a b c d _ q => ha Z1 H1 a b c d _ q
theorem Step.drop {S : List Addr} {Z H Z1 H1 : Hp} {x : Addr} (g : Step (x :: S) Z H Z1 H1) (hx : H x = none) : Step S Z H Z1 H1 := g.weak fun a h => by
  rcases List.mem_cons.mp h with e | h
  · exact .inr (e ▸ hx)
  · exact .inl h
theorem eve_make {C : Addr} {sp : Sp} {E : XK} {Rs : Ra M.fp} {cls : Value} (I : InitE M C sp E Rs s1 cls s2) (ha : EvA M t σ Z H s Rs s1) : EvE M (tMake C sp [] E t) σ Z H s (E cls none) s2 :=
  fun Z1 H1 a b c d Q q => ha Z1 H1 a b c d _ fun vs Z2 H2 e m rs x dx hx hd ne => by
    rw [List.append_nil]
    have st := Step.dict (C := C) e.s hx hd ne
    have nf : x ∉ M.fp := fun h => (M.al m x h).1 hx
    refine I Z2 _ vs x dx st.s (M.pure st m) (Rs.st st.pure rs) upd_same (same_none e.s hx) nf _ fun Z3 H3 e2 m2 => ?_
    exact q _ _ (e.trans (((st.pure (S := x :: M.fp)).trans e2).drop hx)) m2
theorem eve_makeK {C : Addr} {n k : Nat} {sp : Sp} {E : XK} {Rs Rk Rs' : Ra M.fp} {cls : Value} {gV : List V → List V → List V} {tk : TA} (I : InitE M C sp E Rs' s2 cls s3) (ha : EvA M t σ Z H s Rs s1) (hk : EvA M tk σ Z H s1 Rk s2)
    (hg : ∀ Z H vs zs x, Rs.r Z H vs → Rk.r Z H zs → vs.length = n ∧ zs.length = k ∧ ∃ ws, gV (.ref x :: vs) zs = .ref x :: ws ∧ Rs'.r Z H ws) : EvE M (tMakeK C n k sp gV E t tk) σ Z H s (E cls none) s3 :=
  fun Z1 H1 a b c d Q q => ha Z1 H1 a b c d _ fun vs Z2 H2 e m rs => hk Z2 H2 (a.trans e.z) (b.trans e.h) e.s m _ fun zs Z3 H3 e1 m1 rk => by
    have rs3 := Rs.st e1 rs
    obtain ⟨l1, l2, _⟩ := hg Z3 H3 vs zs 0 rs3 rk
    refine ⟨l1, l2, fun x dx hx hd ne => ?_⟩
    obtain ⟨_, _, ws, eg, rw'⟩ := hg Z3 H3 vs zs x rs3 rk
    rw [eg]
    have st := Step.dict (C := C) e1.s hx hd ne
    have nf : x ∉ M.fp := fun h => (M.al m1 x h).1 hx
    refine I Z3 _ ws x dx st.s (M.pure st m1) (Rs'.st st.pure rw') upd_same (same_none e1.s hx) nf _ fun Z4 H4 e2 m2 => ?_
    exact q _ _ ((e.trans e1).trans (((st.pure (S := x :: M.fp)).trans e2).drop hx)) m2
/-- defaults for all that are not written -/
theorem ev_makeD {C : Addr} {dvs : List V} {sp : Sp} {E : XK} {Rs Rs' : Ra M.fp} {R : Rr M.fp} (I : InitS M C sp E Rs' s1 R s2) (ha : EvA M t σ Z H s Rs s1) (hg : ∀ Z H vs, Rs.r Z H vs → Rs'.r Z H (vs ++ dvs)) : Ev M (tMake C sp dvs E t) σ Z H s R s2 :=
  fun Z1 H1 a b c d Q q => ha Z1 H1 a b c d _ fun vs Z2 H2 e m rs x dx hx hd ne => by
    have st := Step.dict (C := C) e.s hx hd ne
    have nf : x ∉ M.fp := fun h => (M.al m x h).1 hx
    refine I Z2 _ (vs ++ dvs) x dx st.s (M.pure st m) (hg _ _ _ (Rs.st st.pure rs)) upd_same (same_none e.s hx) nf _ fun Z3 H3 o e2 m2 ho rv => ⟨rfl, ?_⟩
    have hz3 : Z3 x = none := e2.n x (by rw [upd_same]; exact fun z => nomatch z) (same_none e.s hx)
    have e3 : Step M.fp Z2 H2 (upd Z3 x o) H3 := ((st.pure (S := x :: M.fp)).trans e2).freeze hx ho hz3
    refine q _ _ _ (e.trans e3) (M.loc (same_upd hz3) (fun _ _ _ e => e) (fun a ha _ z => ?_) m2) rv
    rw [upd_ne (fun q => nf (by rw [← q]; exact ha))]
    exact z
theorem eve_makeD {C : Addr} {dvs : List V} {sp : Sp} {E : XK} {Rs Rs' : Ra M.fp} {cls : Value} (I : InitE M C sp E Rs' s1 cls s2) (ha : EvA M t σ Z H s Rs s1) (hg : ∀ Z H vs, Rs.r Z H vs → Rs'.r Z H (vs ++ dvs)) : EvE M (tMake C sp dvs E t) σ Z H s (E cls none) s2 :=
  fun Z1 H1 a b c d Q q => ha Z1 H1 a b c d _ fun vs Z2 H2 e m rs x dx hx hd ne => by
    have st := Step.dict (C := C) e.s hx hd ne
    have nf : x ∉ M.fp := fun h => (M.al m x h).1 hx
    refine I Z2 _ (vs ++ dvs) x dx st.s (M.pure st m) (hg _ _ _ (Rs.st st.pure rs)) upd_same (same_none e.s hx) nf _ fun Z3 H3 e2 m2 => ?_
    exact q _ _ (e.trans (((st.pure (S := x :: M.fp)).trans e2).drop hx)) m2
/-! a call that is known not to raise -/
end
def Res.val {ε α : Type} (o : Option (Res ε α)) : Option α := o.bind (Res.thn (fun _ => none) some)
def Res.valS {ε α μ : Type} (o : Option (Res ε α × μ)) : Option (α × μ) := o.bind fun p => Res.thn (fun _ => none) (fun a => some (a, p.2)) p.1
theorem val_inv {ε α : Type} {o : Option (Res ε α)} {v : α} (h : Res.val o = some v) : o = some (.ok v) := by
  cases o with
  | none => cases h
  | some r =>
    cases r with
    | ok a => rw [show a = v from Option.some.inj h]
    | er e => cases h
theorem valS_inv {ε α μ : Type} {o : Option (Res ε α × μ)} {v : α × μ} (h : Res.valS o = some v) : o = some (.ok v.1, v.2) := by
  cases o with
  | none => cases h
  | some r =>
    obtain ⟨r, s⟩ := r
    cases r with
    | ok a => rw [← Option.some.inj h]
    | er e => cases h
section
variable {μ : Type} {S : List Addr} {Z0 H0 : Hp} {M : Mu μ} {σ : L2.St} {Z H : Hp} {s s' s1 s2 s3 : μ} {ta tb tc te : TE} {t : TA} {K : PySem.W.Frag} {D : Ends} {u w : TS} {X : Hp → Prop}
/-! tests that raise -/
theorem ete_val (h : EvE M te σ Z H s X s1) : EvTE M (tB te) σ Z H s X s1 := fun Z1 H1 p q r d _ k => h Z1 H1 p q r d _ k
theorem ete_cmp (h : EvE M te σ Z H s X s1) : EvTE M (tTest te) σ Z H s X s1 := fun Z1 H1 p q r d _ k => h Z1 H1 p q r d _ k
theorem ete_not {tA : TT} (h : EvTE M tA σ Z H s X s1) : EvTE M (tNot tA) σ Z H s X s1 := fun Z1 H1 p q r d _ k => h Z1 H1 p q r d _ k
/-! statements that raise -/
theorem st_setE {g : TG} (P : Pt S Z0 H0 M Z H s) (e : EvE M te σ Z H s X s1) (k : ∀ Z1 H1, Step M.fp Z H Z1 H1 → Pt S Z0 H0 M Z1 H1 s1 → X H1) : tAsg te g D σ H :=
  e Z H (Same.refl _) SameX.refl P.sub P.m _ fun Z1 H1 e m => k Z1 H1 e (P.next e m)
theorem st_retE (P : Pt S Z0 H0 M Z H s) (e : EvE M te σ Z H s X s1) (k : ∀ Z1 H1, Step M.fp Z H Z1 H1 → Pt S Z0 H0 M Z1 H1 s1 → X H1) : tRet te D σ H :=
  e Z H (Same.refl _) SameX.refl P.sub P.m _ fun Z1 H1 e m => k Z1 H1 e (P.next e m)
theorem st_exprE (P : Pt S Z0 H0 M Z H s) (e : EvE M te σ Z H s X s1) (k : ∀ Z1 H1, Step M.fp Z H Z1 H1 → Pt S Z0 H0 M Z1 H1 s1 → X H1) : tDrop te D σ H :=
  e Z H (Same.refl _) SameX.refl P.sub P.m _ fun Z1 H1 e m => k Z1 H1 e (P.next e m)
theorem st_ifE {tt : TT} (P : Pt S Z0 H0 M Z H s) (e : EvTE M tt σ Z H s X s1) (k : ∀ Z1 H1, Step M.fp Z H Z1 H1 → Pt S Z0 H0 M Z1 H1 s1 → X H1) : tIfS tt u w D σ H :=
  e Z H (Same.refl _) SameX.refl P.sub P.m _ fun Z1 H1 e m => k Z1 H1 e (P.next e m)
/-- a field of the thing that is being made -/
theorem ev_selfF {α : Type} {τ : Ty α} {x : α} {i : Nat} {p C dx : Addr} {fs : List (Str × V)} {f : Str} {v : V} (hp : H p = some (.ins C dx fs)) (np : p ∉ M.fp) (hσ : σ[i]? = some (some (.ref p))) (c : Cls K C) (n : NoAttr K C f) (l : fs.lookup f = some v) (hv : τ.r Z v x) : Ev M (tFld K (tVar i) f) σ Z H s (ty τ x) s :=
  fun Z1 H1 a b c' d Q q => ⟨.ref p, hσ, p, C, dx, fs, v, rfl, b _ _ np hp, c, n, l, q _ _ _ (Step.refl c') d (τ.mono a hv)⟩
end
end TP
namespace TP
open PySem PySem.Spec PyProof.Rows L2

theorem pi_tupB {X : Cx} {K : PySem.W.Frag} (hK : X.K = K) {tg l : Expr} {tl : TE} (hl : PE X l tl) : PI X tg l (iTup K tl) := by
  subst hK
  exact pi_tup hl
theorem pi_listB {X : Cx} {K : PySem.W.Frag} (hK : X.K = K) {tg l : Expr} {tl : TE} (hl : PE X l tl) : PI X tg l (iList K tl) := by
  subst hK
  exact pi_list hl
def rLenB (K : PySem.W.Frag) : List V → Hp → VK → Prop := fun xs H Q => ∃ p ys, xs = [.ref p] ∧ (SqL K H p ys ∨ SqT K H p ys) ∧ Q (.int ys.length) H
def rListB (K : PySem.W.Frag) : List V → Hp → VK → Prop := fun xs H Q => ∃ p ys, xs = [.ref p] ∧ (SqL K H p ys ∨ SqT K H p ys) ∧ ∀ l, H l = none → Q (.ref l) (upd H l (.lst ys))
def rTupleB (K : PySem.W.Frag) : List V → Hp → VK → Prop := fun xs H Q => ∃ p ys, xs = [.ref p] ∧ ((SqL K H p ys ∧ ∀ l, H l = none → Q (.ref l) (upd H l (.tup ys))) ∨ (SqT K H p ys ∧ Q (.ref p) H))
theorem pe_fldB {X : Cx} {K : PySem.W.Frag} (hK : X.K = K) {e : Expr} {f : Str} {pos : Pos} {ta : TE} (he : PE X e ta) (hb : attributeBase e f X.env (eval e X.env) = eval e X.env) : PE X (.Attribute e f pos) (tFld K ta f) := by
  subst hK
  exact pe_fld he hb
end TP

namespace TP
open PySem PySem.Spec PyProof.Rows L2
theorem kit_self {K : PySem.W.Frag} {C : Addr} : PySem.W.kitOne K (.ref C) (.ref C) = some true := by
  unfold PySem.W.kitOne
  rw [if_pos (by simp)]
theorem kit_sub {K : PySem.W.Frag} {t : Value} {C : Addr} {v : Bool} (h1 : PySem.W.isClsIn K C = true) (h2 : PySem.W.typeIn K (.ref C) = some (.type "type")) (h3 : PySem.W.subIn K t (.ref C) = some v) (h4 : (t == .ref C) = false) : PySem.W.kitOne K t (.ref C) = some v := by
  unfold PySem.W.kitOne
  rw [h4, if_neg Bool.false_ne_true]
  unfold PySem.W.kitCls
  have h1' : (PySem.W.clsIn K C).isSome = true := h1
  simp only [h1', h2, Bool.true_and]
  simp [h3]
theorem kit_subN {K : PySem.W.Frag} {t : Value} {C : Addr} (h1 : PySem.W.isClsIn K C = true) (h2 : PySem.W.typeIn K (.ref C) = some (.type "type")) (h3 : PySem.W.subIn K t (.ref C) = some false) (h4 : PySem.W.subIn K (.ref C) (.ref C) = some true) : PySem.W.kitOne K t (.ref C) = some false := by
  refine kit_sub h1 h2 h3 ?_
  cases e : (t == .ref C) with
  | false => rfl
  | true =>
    have e' : t = .ref C := beq_iff_eq.mp e
    rw [e', h4] at h3
    cases h3
theorem nf_self {K : PySem.W.Frag} {C : Addr} : PySem.W.notFirst K C (.ref C) = true := by simp [PySem.W.notFirst]
theorem nf_sub {K : PySem.W.Frag} {C : Addr} {t : Value} (h : PySem.W.subIn K t (.ref C) = some false) : PySem.W.notFirst K C t = true := by simp [PySem.W.notFirst, h]
end TP

/-! != of instances with an own ==, and == and != of such an instance with anything -/
namespace TPN
open PySem PySem.Spec PyProof.Rows L2
section
variable {M : Model} {prog : Program} {w : World} {A : Around} {E : Value → Shared → Prop} {s : Shared} {K : PySem.W.Frag} {x C f : Addr} {ox : Obj} {od : Option Obj} {b tb : Value}
theorem ifBound_ne {args : List Value} {Q : Option Value → Shared → Prop} (X : K.In s.heap) (I : PySem.W.InstAt s.heap x ox C od) (hs : PySem.W.findIn K (.ref C) "__ne__" = some (some (.builtin "object.__ne__")))
    (h : wpAny M A (call (.builtin "object.__ne__") (.ref x :: args)) (fun v => Q (some v)) E s) : wpAny M A (callSpecialIfBound? (.ref x) "__ne__" args) Q E s := by
  simp only [callSpecialIfBound?, bindSpecialIfBound?]
  refine wpAny_holding (wpAny_bind (wpAny_bind (wpAny_bind (I.type.here ((PySem.W.looks_findIn X hs).here ?_)))))
  refine wpAny_bind (wpAny_askSetting (wpAny_ite ?_))
  have fin : wpAny M A (call (.builtin "object.__ne__") ([.ref x] ++ args) >>= fun v => pure (some v)) Q E s := wpAny_bind (wpAny_mono h (fun v s' h' => wpAny_pure h') fun _ _ h' => h')
  split
  · exact wpAny_bind (wpAny_of_eq (F.cmp_object.ne.bind _) (wpAny_pure (by exact fin)))
  · exact wpAny_tryCatch (wpAny_bind (wpAny_of_eq (F.cmp_object.ne.bind _) (wpAny_pure (by exact fin))))
theorem entry_ne {Q : Fin → Shared → Prop} (hu : A.units < cLine) (X : K.In s.heap) (I : PySem.W.InstAt s.heap x ox C od) (hs : PySem.W.findIn K (.ref C) "__eq__" = some (some (.ref f))) (hf : PySem.W.isFn K (.ref f) = true)
    (h : wpAny M A (call (.ref f) [.ref x, b]) (fun v s' => ∃ r, v = .bool r ∧ Q (.done (.ret (.bool (!r)))) s') E s) : wpAny M A (Builtin.«object.__ne__» ⟨[.ref x, b], []⟩) Q E s := by
  unfold Builtin.«object.__ne__»
  repeat (first
    | with_reducible refine wpAny_cRoomFor hu ?_
    | (refine wpAny_bind (m := callSpecialIfBound? (.ref x) (Str.ofString "__eq__") [b]) (PySem.W.ifBound_K X I hs hf (wpAny_mono h (fun r s' hr => by
        obtain ⟨b, rfl, hq⟩ := hr
        repeat (first | exact hq | exact wpAny_pure hq | exact wpAny_truthy_bool hq | (refine wpAny_bind (m := truthy (.bool _)) (wpAny_truthy_bool ?_)) | wp_step)) fun _ _ e => e)))
    | wp_step)
theorem call_ne {Q : Value → Shared → Prop} (hu : A.units + 1 < cLine) (X : K.In s.heap) (I : PySem.W.InstAt s.heap x ox C od) (hm : PySem.W.mroIn K C (.type "object") = some true) (hs : PySem.W.findIn K (.ref C) "__eq__" = some (some (.ref f))) (hf : PySem.W.isFn K (.ref f) = true)
    (h : wpAny (model prog w) A.in1 (call (.ref f) [.ref x, b]) (fun v s' => ∃ r, v = .bool r ∧ Q (.bool (!r)) s') E s) :
    wpAny (model prog w) A (call (.builtin "object.__ne__") [.ref x, b]) Q E s :=
  wpAny_call (codeAny_call_builtin F.cmp_object.ne.plain F.cmpEntry_ne (PySem.W.check_slot F.cmpKind_ne F.cmpSplit_ne (I.type.andThen (PySem.W.looks_mroIn X hm)) (F.cmpArgs_ne _ _) (entry_ne (A := A.in1) hu X I hs hf (wpAny_mono h (fun v s' hv => by
    obtain ⟨r, e, q⟩ := hv
    exact ⟨r, e, q⟩) fun _ _ e => e))))
theorem ne_K {Q : Value → Shared → Prop} (hu : A.units + 1 < cLine) (X : K.In s.heap) (I : PySem.W.InstAt s.heap x ox C od) (hb : PySem.W.Looks (model prog w) s.heap (typeOf b) tb) (hn : PySem.W.notFirst K C tb = true)
    (hm : PySem.W.mroIn K C (.type "object") = some true) (hne : PySem.W.findIn K (.ref C) "__ne__" = some (some (.builtin "object.__ne__")))
    (hs : PySem.W.findIn K (.ref C) "__eq__" = some (some (.ref f))) (hf : PySem.W.isFn K (.ref f) = true)
    (h : wpAny (model prog w) A.in1 (call (.ref f) [.ref x, b]) (fun v s' => ∃ r, v = .bool r ∧ Q (.bool (!r)) s') E s) : wpAny (model prog w) A (richCompare .NotEq (.ref x) b) Q E s := by
  have one : wpAny (model prog w) A (tryCompare (.ref x) "__ne__" b) (fun r s' => ∃ v, r = some v ∧ Q v s') E s := by
    unfold tryCompare
    refine wpAny_bind (ifBound_ne X I hne (call_ne hu X I hm hs hf (wpAny_mono h (fun v s' hv => ?_) fun _ _ e => e)))
    obtain ⟨r, rfl, q⟩ := hv
    exact ⟨r, rfl, wpAny_pure ⟨_, rfl, q⟩⟩
  unfold richCompare
  simp only [oneThing_ref]
  refine wpAny_holding (wpAny_bind (wpAny_cRoomFor (by omega) ?_))
  rw [cmpInfo_NotEq]
  dsimp only
  refine wpAny_bind (I.type.here (wpAny_bind (hb.here ?_)))
  split
  · rename_i q
    have e : PySem.W.subIn K tb (.ref C) = some false := by
      rcases Bool.or_eq_true_iff.mp hn with e | e
      · rw [beq_iff_eq.mp e] at q; simp at q
      · exact beq_iff_eq.mp e
    refine wpAny_bind ((PySem.W.looks_subIn X e).here ?_)
    simp only [Bool.false_eq_true, if_false]
    refine wpAny_bind (wpAny_mono one (fun r s' z => ?_) fun _ _ e => e)
    obtain ⟨v, rfl, hq⟩ := z
    exact wpAny_pure hq
  · refine wpAny_bind (wpAny_pure ?_)
    simp only [Bool.false_eq_true, if_false]
    refine wpAny_bind (wpAny_mono one (fun r s' z => ?_) fun _ _ e => e)
    obtain ⟨v, rfl, hq⟩ := z
    exact wpAny_pure hq
end
end TPN
namespace TPN
open PySem PySem.Spec PyProof.Rows L2
/-- == (neg false) or != of x, an instance of a class with an own ==, with anything -/
def rOwnE (K : PySem.W.Frag) (C : Addr) (neg : Bool) (sp : Sp) (E : XK) : R2 := fun x y H Q => ∃ a dx fs t, x = .ref a ∧ H a = some (.ins C dx fs) ∧ TyX K H y t ∧ PySem.W.notFirst K C t = true ∧ sp [x, y] H (fun z H' => ∃ b, z = .bl b ∧ Q (.bl (b != neg)) H') E
theorem nf_self {K : PySem.W.Frag} {C : Addr} : PySem.W.notFirst K C (.ref C) = true := by simp [PySem.W.notFirst]
theorem op_ownE {X : Cx} {CX : CXT} {C f : Addr} {fd : FuncData} {ps : List Str} {sp : Sp} {n : Nat} {E : XK} (M : Meth X.K C "__eq__" f) (F : FnOk X.prog X.w X.K X.mg X.base CX n f fd ps sp) (hr : Room n X.A)
    (hb : Binds X.K fd ps []) (hx : Passes CX X E) : OpR X (compareOp .Eq) (rOwnE X.K C false sp E) := by
  intro pins s σ H x y v u Q I rx ry h
  obtain ⟨a, dx, fs, t, rfl, ha, ty, hn, q⟩ := h
  cases (show v = Value.ref a from rx)
  obtain ⟨mA, J, _⟩ := ins_get I.hok ha
  obtain ⟨od, J, _⟩ := J.look
  obtain ⟨P, Z, p, _⟩ := kit_of I ry ty
  obtain ⟨m, hF⟩ := I.fr
  show wpAny (model X.prog X.w) X.A (richCompare .Eq (.ref a) u) _ _ _
  refine PySem.W.cmp_K (op := .Eq) (tb := t) hr.units0 hF I.ok.mod.kin J (Z.ty _ _ I.kIn p) hn M.at_ M.fn ?_
  refine wpAny_mono (run_fn (Q := fun z H' => ∃ b, z = .bl b ∧ Q (.bl (b != false)) H') (us := [.ref a, u]) (vs := [.ref a, y]) F hr hb .nil hx I (.cons rfl (.cons ry .nil)) (by simpa using q)) (fun w s' z => ?_) fun _ _ x => x
  obtain ⟨z', H', I', rz, b, ez, qz⟩ := z
  subst ez
  cases (show w = Value.bool b from rz)
  exact ⟨.bl b, H', I', rfl, by simpa using qz⟩
theorem op_ownNE {X : Cx} {CX : CXT} {C f : Addr} {fd : FuncData} {ps : List Str} {sp : Sp} {n : Nat} {E : XK} (hm : PySem.W.mroIn X.K C (.type "object") = some true) (hne : PySem.W.findIn X.K (.ref C) "__ne__" = some (some (.builtin "object.__ne__")))
    (M : Meth X.K C "__eq__" f) (F : FnOk X.prog X.w X.K X.mg X.base CX n f fd ps sp) (hr : Room (n + 1) X.A)
    (hb : Binds X.K fd ps []) (hx : ∀ (pins : List (Addr × Obj)) (σ : L2.St) (H : Hp) (s : Shared) (e : Value) (s' : Shared), Inv X pins σ H s → CX X.stack H s E e s' → X.xe e s') : OpR X (compareOp .NotEq) (rOwnE X.K C true sp E) := by
  intro pins s σ H x y v u Q I rx ry h
  obtain ⟨a, dx, fs, t, rfl, ha, ty, hn, q⟩ := h
  cases (show v = Value.ref a from rx)
  obtain ⟨mA, J, _⟩ := ins_get I.hok ha
  obtain ⟨od, J, _⟩ := J.look
  obtain ⟨P, Z, p, _⟩ := kit_of I ry ty
  show wpAny (model X.prog X.w) X.A (richCompare .NotEq (.ref a) u) _ _ _
  have hr1 : Room n X.A.in1 := hr.in1
  refine ne_K (A := X.A) (tb := t) (by have := hr1.units0; exact this) I.kIn J (Z.ty _ _ I.kIn p) hn hm hne M.at_ M.fn ?_
  have e0 : Env0 X.prog X.w X.K X.mg X.base X.A.in1 X.stack s H := I.env0.in1
  have r2 : Vals [V.ref a, y] [Value.ref a, u] := .cons rfl (.cons ry .nil)
  have hl : ([Value.ref a, u] : List Value).length = ps.length := by rw [← r2.length]; exact F.len _ _ _ _ q
  refine wpAny_call (codeAny_mono (F.run X.A.in1 X.stack s H ⟨[.ref a, u], []⟩ [.ref a, u] [.ref a, y] _ E hr1 e0 (by
    have := hb s [.ref a, u] I.kIn (by simpa using hl)
    simpa using this) r2 q) fun r s' hq => ?_)
  cases r with
  | error e => exact hx pins σ H s e s' I hq
  | ok fl =>
    cases fl with
    | ret w =>
      obtain ⟨z, H', I', rz, b, ez, qz⟩ := I.after hq
      subst ez
      cases (show w = Value.bool b from rz)
      exact ⟨b, rfl, .bl (!b), H', I', rfl, by simpa using qz⟩
    | next => exact False.elim hq
    | brk => exact False.elim hq
    | cont => exact False.elim hq
end TPN

namespace TPN
open PySem PySem.Spec PyProof.Rows L2 PySem.SeqAt
section
variable {prog : Program} {w : World} {A : Around} {E : Value → Shared → Prop} {s : Shared} {K : PySem.W.Frag} {y C f : Addr} {oy : Obj} {od : Option Obj}
/-- None == an instance: its own == is asked -/
theorem eq_none_ref {Q : Value → Shared → Prop} (hu : A.units < cLine) (X : K.In s.heap) (I : PySem.W.InstAt s.heap y oy C od) (hsub : PySem.W.subIn K (.ref C) (.type "NoneType") = some false)
    (hs : PySem.W.findIn K (.ref C) "__eq__" = some (some (.ref f))) (hf : PySem.W.isFn K (.ref f) = true)
    (h : wpAny (model prog w) A (call (.ref f) [.ref y, .none]) (fun v s' => ∃ r, v = .bool r ∧ Q (.bool r) s') E s) : wpAny (model prog w) A (richCompare .Eq .none (.ref y)) Q E s := by
  have one : wpAny (model prog w) A (tryCompare .none "__eq__" (.ref y)) (fun r s' => r = none ∧ s' = s) E s :=
    wpAny_tryCompare_declines (show s.TypeIs .none "NoneType" from rfl) F.slot_NoneType_eq (call_gives F.slot_NoneType_eq rfl F.entry_NoneType_eq (F.args_NoneType_eq_2 _ _) (NoneType___eq___none_ref_0 y) ⟨rfl, rfl, rfl⟩)
  have two : wpAny (model prog w) A (tryCompare (.ref y) "__eq__" .none) (fun r s' => ∃ v, r = some v ∧ Q v s') E s := by
    unfold tryCompare
    refine wpAny_bind (PySem.W.ifBound_K X I hs hf (wpAny_mono h (fun v s' hv => ?_) fun _ _ e => e))
    obtain ⟨r, rfl, q⟩ := hv
    exact wpAny_pure ⟨_, rfl, q⟩
  have e0 : oneThing? .Eq .none (.ref y) = none := rfl
  simp only [richCompare, cmpInfo_Eq, e0]
  refine wpAny_holding (wpAny_bind (wpAny_cRoomFor hu ?_))
  refine wpAny_bind (wpAny_typeOf (show s.TypeIs .none "NoneType" from rfl) ?_)
  refine wpAny_bind (I.type.here ?_)
  have fin : wpAny (model prog w) A (tryCompare .none "__eq__" (.ref y)) (fun r s' => r = none ∧ s' = s) E s := one
  split
  · refine wpAny_bind ((PySem.W.looks_subIn X hsub).here ?_)
    simp only [Bool.false_eq_true, if_false, Bool.not_false, if_true]
    refine wpAny_bind (m := tryCompare .none _ (.ref y)) (wpAny_mono one (fun r s1 z => ?_) fun _ _ e => e)
    obtain ⟨z1, z2⟩ := z
    subst z1
    subst z2
    refine wpAny_bind (m := tryCompare (.ref y) _ .none) (wpAny_mono two (fun r s2 z => ?_) fun _ _ e => e)
    obtain ⟨v, rfl, q⟩ := z
    exact wpAny_pure q
  · rename_i q
    exact absurd (by simp) q
end
/-- == of what may be None or an instance of the class at C with an own == -/
def rOptE (K : PySem.W.Frag) (C : Addr) (sp : Sp) (E : XK) : R2 := fun x y H Q => (x = .non ∧ y = .non ∧ Q (.bl true) H) ∨ (x = .non ∧ (∃ a dx fs, y = .ref a ∧ H a = some (.ins C dx fs)) ∧ sp [y, x] H (fun z H' => ∃ b, z = .bl b ∧ Q (.bl b) H') E) ∨ rOwnE K C false sp E x y H Q
theorem op_optE {X : Cx} {CX : CXT} {C f : Addr} {fd : FuncData} {ps : List Str} {sp : Sp} {n : Nat} {E : XK} (hn : PySem.W.subIn X.K (.ref C) (.type "NoneType") = some false) (M : Meth X.K C "__eq__" f) (F : FnOk X.prog X.w X.K X.mg X.base CX n f fd ps sp) (hr : Room n X.A)
    (hb : Binds X.K fd ps []) (hx : Passes CX X E) : OpR X (compareOp .Eq) (rOptE X.K C sp E) := by
  intro pins s σ H x y v u Q I rx ry h
  rcases h with ⟨rfl, rfl, q⟩ | ⟨rfl, ⟨a, dx, fs, rfl, ha⟩, q⟩ | h
  · exact op_eq pins s σ H .non .non v u Q I rx ry ⟨rfl, by simpa using q⟩
  · cases rx
    cases (show u = Value.ref a from ry)
    obtain ⟨mA, J, _⟩ := ins_get I.hok ha
    obtain ⟨od, J, _⟩ := J.look
    show wpAny (model X.prog X.w) X.A (richCompare .Eq .none (.ref a)) _ _ _
    refine eq_none_ref hr.units0 I.kIn J hn M.at_ M.fn ?_
    refine wpAny_mono (run_fn (Q := fun z H' => ∃ b, z = .bl b ∧ Q (.bl b) H') (us := [.ref a, .none]) (vs := [.ref a, .non]) F hr hb .nil hx I (.cons rfl (.cons rfl .nil)) (by simpa using q)) (fun w s' z => ?_) fun _ _ x => x
    obtain ⟨z', H', I', rz, b, ez, qz⟩ := z
    subst ez
    cases (show w = Value.bool b from rz)
    exact ⟨b, rfl, .bl b, H', I', rfl, qz⟩
  · exact op_ownE M F hr hb hx pins s σ H x y v u Q I rx ry h
end TPN

namespace TP
open PySem PySem.Spec PyProof.Rows L2
/-! ### data by what == says of it -/
structure EqW (K : PySem.W.Frag) {α : Type} (τ : Ty α) (d : α → PyData) (n : Nat) : Prop where
  dp : ∀ Z H v x, Same Z H → τ.r Z v x → Dp K H v (d x)
  lay : ∀ Z v x, τ.r Z v x → (d x).canLay0 = true
  dep : ∀ x, (d x).depth ≤ n
def dLst {α : Type} (d : α → PyData) (xs : List α) : PyData := .list (xs.map d)
def dTup {α : Type} (d : α → PyData) (xs : List α) : PyData := .tuple (xs.map d)
def dP1 {α : Type} (d : α → PyData) (x : α) : PyData := .tuple [d x]
def dP2 {α β : Type} (d : α → PyData) (e : β → PyData) (x : α × β) : PyData := .tuple [d x.1, e x.2]
def dP3 {α β γ : Type} (d : α → PyData) (e : β → PyData) (f : γ → PyData) (x : α × β × γ) : PyData := .tuple [d x.1, e x.2.1, f x.2.2]
def dP4 {α β γ δ : Type} (d : α → PyData) (e : β → PyData) (f : γ → PyData) (g : δ → PyData) (x : α × β × γ × δ) : PyData := .tuple [d x.1, e x.2.1, f x.2.2.1, g x.2.2.2]
def dNon (_ : Unit) : PyData := .none
section
variable {K : PySem.W.Frag} {α β γ δ : Type} {τ : Ty α} {υ : Ty β} {φ : Ty γ} {ψ : Ty δ} {d : α → PyData} {e : β → PyData} {f : γ → PyData} {g : δ → PyData} {n m k l : Nat}
theorem EqD.w (E : EqD K τ d n) : EqW K τ d n := ⟨E.dp, E.lay, E.dep⟩
theorem EqW.all (E : EqW K τ d n) {Z H : Hp} (sz : Same Z H) : ∀ {vs : List V} {xs : List α}, All (τ.r Z) vs xs → DpAll K H vs (xs.map d)
  | _, _, .nil => .nil
  | _, _, .cons h t => .cons (E.dp _ _ _ _ sz h) (E.all sz t)
theorem EqW.lays (E : EqW K τ d n) {Z : Hp} : ∀ {vs : List V} {xs : List α}, All (τ.r Z) vs xs → PyData.canLayAll0 (xs.map d) = true
  | _, _, .nil => by simp [PyData.canLayAll0]
  | _, _, .cons h t => by
    have h1 := E.lay _ _ _ h
    have h2 := E.lays t
    simp [PyData.canLayAll0, h1, h2]
theorem EqW.deps (E : EqW K τ d n) : ∀ xs : List α, PyData.depthAll (xs.map d) ≤ n
  | [] => by simp [PyData.depthAll]
  | x :: r => by
    have h1 := E.dep x
    have h2 := E.deps r
    simp only [List.map_cons, PyData.depthAll]
    omega
theorem eqw_list (E : EqW K τ d n) : EqW K (yList τ) (dLst d) (n + 1) where
  dp := fun Z H v x sz ⟨a, vs, e, h, t, _⟩ => by subst e; exact .lst (SqL.of (sz _ _ h)) (E.all sz t)
  lay := fun Z v x ⟨a, vs, e, h, t, _⟩ => by simpa [PyData.canLay0, dLst] using E.lays t
  dep := fun x => by have := E.deps x; simp only [PyData.depth, dLst]; omega
theorem eqw_tup (E : EqW K τ d n) : EqW K (yTup K τ) (dTup d) (n + 1) where
  dp := fun Z H v x sz ⟨a, vs, e, h, t, _⟩ => by subst e; exact .tup (seqT_same sz h) (E.all sz t)
  lay := fun Z v x ⟨a, vs, e, h, t, _⟩ => by simpa [PyData.canLay0, dTup] using E.lays t
  dep := fun x => by have := E.deps x; simp only [PyData.depth, dTup]; omega
theorem eqw_p1 (E : EqW K τ d n) : EqW K (yP1 K τ) (dP1 d) (n + 1) where
  dp := fun Z H v x sz ⟨a, v1, e, h, h1⟩ => by subst e; exact .tup (seqT_same sz h) (.cons (E.dp _ _ _ _ sz h1) .nil)
  lay := fun Z v x ⟨a, v1, e, h, h1⟩ => by simp [PyData.canLay0, PyData.canLayAll0, dP1, E.lay _ _ _ h1]
  dep := fun x => by have := E.dep x; simp only [PyData.depth, PyData.depthAll, dP1]; omega
theorem eqw_p2 (E : EqW K τ d n) (F : EqW K υ e m) : EqW K (yP2 K τ υ) (dP2 d e) (max n m + 1) where
  dp := fun Z H v x sz ⟨a, v1, v2, e, h, h1, h2⟩ => by subst e; exact .tup (seqT_same sz h) (.cons (E.dp _ _ _ _ sz h1) (.cons (F.dp _ _ _ _ sz h2) .nil))
  lay := fun Z v x ⟨a, v1, v2, e, h, h1, h2⟩ => by simp [PyData.canLay0, PyData.canLayAll0, dP2, E.lay _ _ _ h1, F.lay _ _ _ h2]
  dep := fun x => by have := E.dep x.1; have := F.dep x.2; simp only [PyData.depth, PyData.depthAll, dP2]; omega
theorem eqw_p3 (E : EqW K τ d n) (F : EqW K υ e m) (G : EqW K φ f k) : EqW K (yP3 K τ υ φ) (dP3 d e f) (max n (max m k) + 1) where
  dp := fun Z H v x sz ⟨a, v1, v2, v3, e, h, h1, h2, h3⟩ => by subst e; exact .tup (seqT_same sz h) (.cons (E.dp _ _ _ _ sz h1) (.cons (F.dp _ _ _ _ sz h2) (.cons (G.dp _ _ _ _ sz h3) .nil)))
  lay := fun Z v x ⟨a, v1, v2, v3, e, h, h1, h2, h3⟩ => by simp [PyData.canLay0, PyData.canLayAll0, dP3, E.lay _ _ _ h1, F.lay _ _ _ h2, G.lay _ _ _ h3]
  dep := fun x => by have := E.dep x.1; have := F.dep x.2.1; have := G.dep x.2.2; simp only [PyData.depth, PyData.depthAll, dP3]; omega
theorem eqw_p4 (E : EqW K τ d n) (F : EqW K υ e m) (G : EqW K φ f k) (I : EqW K ψ g l) : EqW K (yP4 K τ υ φ ψ) (dP4 d e f g) (max n (max m (max k l)) + 1) where
  dp := fun Z H v x sz ⟨a, v1, v2, v3, v4, e, h, h1, h2, h3, h4⟩ => by subst e; exact .tup (seqT_same sz h) (.cons (E.dp _ _ _ _ sz h1) (.cons (F.dp _ _ _ _ sz h2) (.cons (G.dp _ _ _ _ sz h3) (.cons (I.dp _ _ _ _ sz h4) .nil))))
  lay := fun Z v x ⟨a, v1, v2, v3, v4, e, h, h1, h2, h3, h4⟩ => by simp [PyData.canLay0, PyData.canLayAll0, dP4, E.lay _ _ _ h1, F.lay _ _ _ h2, G.lay _ _ _ h3, I.lay _ _ _ h4]
  dep := fun x => by have := E.dep x.1; have := F.dep x.2.1; have := G.dep x.2.2.1; have := I.dep x.2.2.2; simp only [PyData.depth, PyData.depthAll, dP4]; omega
theorem eqw_non : EqW K yNon dNon 0 := ⟨fun _ _ _ x _ h => by cases h; exact .non, fun _ _ _ _ => rfl, fun _ => Nat.le_refl _⟩
theorem eqw_opt (E : EqW K τ d n) : EqW K (yOpt τ) (optD d) n where
  dp := fun Z H v x sz h => match x, h with
    | none, h => by rw [show v = .non from h]; exact .non
    | some x, h => E.dp _ _ _ _ sz h.1
  lay := fun Z v x h => match x, h with
    | none, h => rfl
    | some x, h => E.lay _ _ _ h.1
  dep := fun x => match x with
    | none => Nat.zero_le _
    | some x => E.dep x
theorem EqW.gd {fp : List Addr} (E : EqW K τ d n) (x : α) : GD K (ty (fp := fp) τ x) (d x) := fun _ _ _ sz h => ⟨E.dp _ _ _ _ sz h, E.lay _ _ _ h⟩
theorem EqW.gdl {fp : List Addr} (E : EqW K τ d n) (xs : List α) : GD K (li (fp := fp) τ xs) (dLst d xs) := fun _ _ _ sz h => by
  obtain ⟨p, vs, rfl, g, t, _⟩ := rdl sz h
  exact ⟨.lst (SqL.of g) (E.all sz t), by simpa [PyData.canLay0, dLst] using E.lays t⟩
theorem EqW.dpt (E : EqW K τ d n) (h : n ≤ 64) (x : α) : (d x).depth ≤ 64 := Nat.le_trans (E.dep x) h
theorem EqW.dpl (E : EqW K τ d n) (h : n + 1 ≤ 64) (xs : List α) : (dLst d xs).depth ≤ 64 := by have := E.deps xs; simp only [PyData.depth, dLst]; omega
end
section
variable {μ : Type} {M : Mu μ} {σ : L2.St} {Z H : Hp} {s s' s1 s2 s3 : μ} {ta tb tc te : TE} {t : TA} {K : PySem.W.Frag}
theorem ev_eqW {R R' : Rr M.fp} {c c' : PyData} (G : GD K R c) (G' : GD K R' c') (l : c.depth ≤ 64) (l' : c'.depth ≤ 64) (ha : Ev M ta σ Z H s R s1) (hb : Ev M tb σ Z H s1 R' s2) : Ev M (tOp (rEqD K) ta tb) σ Z H s (ty yBool (PyData.eqv c c')) s2 :=
  ev_op ha hb fun _ _ _ _ sz e1 e2 _ q => by
    obtain ⟨d1, k1⟩ := G _ _ _ sz e1
    obtain ⟨d2, k2⟩ := G' _ _ _ sz e2
    exact ⟨c, c', d1, d2, shaped_of k1 l (Nat.le_refl _), shaped_of k2 l' (Nat.le_refl _), q _ _ _ (Step.refl sz) rfl⟩
theorem ev_neW {R R' : Rr M.fp} {c c' : PyData} (G : GD K R c) (G' : GD K R' c') (l : c.depth ≤ 64) (l' : c'.depth ≤ 64) (ha : Ev M ta σ Z H s R s1) (hb : Ev M tb σ Z H s1 R' s2) : Ev M (tOp (rNeD K) ta tb) σ Z H s (ty yBool (!PyData.eqv c c')) s2 :=
  ev_op ha hb fun _ _ _ _ sz e1 e2 _ q => by
    obtain ⟨d1, k1⟩ := G _ _ _ sz e1
    obtain ⟨d2, k2⟩ := G' _ _ _ sz e2
    exact ⟨c, c', d1, d2, shaped_of k1 l (Nat.le_refl _), shaped_of k2 l' (Nat.le_refl _), q _ _ _ (Step.refl sz) rfl⟩
theorem ev_cmpS {F : Str → Str → Bool} {x y : Str} (ha : Ev M ta σ Z H s (ty yStr x) s1) (hb : Ev M tb σ Z H s1 (ty yStr y) s2) : Ev M (tOp (fun x y H Q => ∃ i j, x = .str i ∧ y = .str j ∧ Q (.bl (F i j)) H) ta tb) σ Z H s (ty yBool (F x y)) s2 :=
  ev_op ha hb fun _ _ _ _ sz e1 e2 _ q => ⟨x, y, e1.1, e2.1, q _ _ _ (Step.refl sz) rfl⟩
theorem ev_chainG {R1 R0 R3 : Rr M.fp} {r r' : R2} {p q : Bool} (h1 : ∀ Z H x y, Same Z H → R1.r Z H x → R0.r Z H y → ∀ Q : VK, Q (.bl p) H → r x y H Q) (h2 : ∀ Z H x y, Same Z H → R0.r Z H x → R3.r Z H y → ∀ Q : VK, Q (.bl q) H → r' x y H Q)
    (ha : Ev M ta σ Z H s R1 s1) (hb : Ev M tb σ Z H s1 R0 s1) (hc : Ev M tc σ Z H s1 R3 s1) : Ev M (tChain r r' ta tb tc) σ Z H s (ty yBool (p && q)) s1 :=
  fun Z1 H1 a b c d Q k => ha Z1 H1 a b c d _ fun v Z2 H2 e m rv => hb Z2 H2 (a.trans e.z) (b.trans e.h) e.s m _ fun w Z3 H3 e2 m2 rw => by
    have e3 := e.trans e2
    refine h1 Z3 H3 v w e2.s (R1.st e2 rv) rw _ ⟨p, rfl, ?_⟩
    cases p with
    | true => rw [if_pos rfl]; exact hc Z3 H3 (a.trans e3.z) (b.trans e3.h) e3.s m2 _ fun u Z4 H4 e4 m4 ru => h2 Z4 H4 w u e4.s (R0.st e4 rw) ru _ (k _ Z4 H4 (e3.trans e4) m4 rfl)
    | false => rw [if_neg Bool.false_ne_true]; exact k _ Z3 H3 e3 m2 rfl
theorem ev_chainS {F G : Str → Str → Bool} {x y z : Str} (ha : Ev M ta σ Z H s (ty yStr x) s1) (hb : Ev M tb σ Z H s1 (ty yStr y) s1) (hc : Ev M tc σ Z H s1 (ty yStr z) s1) :
    Ev M (tChain (fun x y H Q => ∃ i j, x = .str i ∧ y = .str j ∧ Q (.bl (F i j)) H) (fun x y H Q => ∃ i j, x = .str i ∧ y = .str j ∧ Q (.bl (G i j)) H) ta tb tc) σ Z H s (ty yBool (F x y && G y z)) s1 :=
  ev_chainG (R1 := ty yStr x) (R0 := ty yStr y) (R3 := ty yStr z) (fun _ _ _ _ _ e1 e2 _ q => ⟨x, y, e1.1, e2.1, q⟩) (fun _ _ _ _ _ e1 e2 _ q => ⟨y, z, e1.1, e2.1, q⟩) ha hb hc
theorem ev_isB {x y : Bool} (ha : Ev M ta σ Z H s (ty yBool x) s1) (hb : Ev M tb σ Z H s1 (ty yBool y) s2) : Ev M (tOp rIsB ta tb) σ Z H s (ty yBool (decide (x = y))) s2 :=
  ev_op ha hb fun _ _ _ _ sz e1 e2 _ q => ⟨x, y, e1, e2, q _ _ _ (Step.refl sz) rfl⟩
theorem ev_notB {x y : Bool} (ha : Ev M ta σ Z H s (ty yBool x) s1) (hb : Ev M tb σ Z H s1 (ty yBool y) s2) : Ev M (tOp rNotB ta tb) σ Z H s (ty yBool (!decide (x = y))) s2 :=
  ev_op ha hb fun _ _ _ _ sz e1 e2 _ q => ⟨x, y, e1, e2, q _ _ _ (Step.refl sz) rfl⟩
theorem all_nil {α : Type} {R : V → α → Prop} {vs : List V} {xs : List α} (h : All R vs xs) (e : vs = []) : xs = [] := by
  cases h with
  | nil => rfl
  | cons _ _ => cases e
theorem ev_catT {α : Type} {τ : Ty α} {xs ys : List α} (ha : Ev M ta σ Z H s (ty (yTup K τ) xs) s1) (hb : Ev M tb σ Z H s1 (ty (yTup K τ) ys) s2) (l : xs.length + ys.length ≤ sizeLine) : Ev M (tOp (rCatA K) ta tb) σ Z H s (ty (yTup K τ) (xs ++ ys)) s2 :=
  ev_op ha hb fun Z H v w sz ⟨a, vs, e1, h1, t1, l1⟩ ⟨b, ws, e2, h2, t2, l2⟩ _ q =>
    ⟨a, b, vs, ws, e1, e2, seqT_same sz h1, seqT_same sz h2, by rw [t1.len, t2.len]; exact l,
      fun e => q _ _ _ (Step.refl sz) ⟨b, ws, rfl, h2, by rw [all_nil t1 e]; exact t2, by rw [all_nil t1 e]; exact l2⟩,
      fun _ e => q _ _ _ (Step.refl sz) ⟨a, vs, rfl, h1, by rw [all_nil t2 e, List.append_nil]; exact t1, by rw [all_nil t2 e, List.append_nil]; exact l1⟩,
      fun _ _ p hp => q _ _ _ (Step.new sz hp) ⟨p, _, rfl, sqT_new, (t1.app t2).imp fun _ _ => τ.mono (same_upd (same_none sz hp)), by rw [List.length_append]; exact l⟩⟩
theorem ev_ord {x : Str} (ha : Ev M ta σ Z H s (ty yStr x) s1) (l : x.length = 1) : Ev M (tCB (fun xs H Q => ∃ x, xs = [.str x] ∧ x.length = 1 ∧ Q (.int (x.cps.getD 0 0 : Nat)) H) (tCons ta tNil)) σ Z H s (ty yInt ((x.cps.getD 0 0 : Nat) : Int)) s1 :=
  ev_cb (eva_cons ha eva_nil) fun _ _ vs sz ⟨v, r, e, h, e2⟩ Q q => ⟨x, by rw [e, h.1, show r = [] from e2], l, q _ _ _ (Step.refl sz) rfl⟩
/-- == and != of an instance by its own == with anything -/
theorem ev_ownE {α : Type} {τ : Ty α} {x : α} {R0 : Rr M.fp} {C : Addr} {t : Value} {sp : Sp} {E : XK} {b neg : Bool} (O : ∀ Z v x, τ.r Z v x → ∃ a dx fs, v = .ref a ∧ Z a = some (.ins C dx fs)) (tx : ∀ Z H v, Same Z H → R0.r Z H v → TyX K H v t) (hn : PySem.W.notFirst K C t = true)
    (c : CallS M sp E (rac (ty τ x) (rac R0 ra0)) s2 (ty yBool b) s3) (ha : Ev M ta σ Z H s (ty τ x) s1) (hb : Ev M tb σ Z H s1 R0 s2) : Ev M (tOp (TPN.rOwnE K C neg sp E) ta tb) σ Z H s (ty yBool (b != neg)) s3 :=
  fun Z1 H1 a' b' c' d' Q q => ha Z1 H1 a' b' c' d' _ fun v Z2 H2 e m rv => hb Z2 H2 (a'.trans e.z) (b'.trans e.h) e.s m _ fun w Z3 H3 e2 m2 rw => by
    have rv3 := τ.mono e2.z rv
    obtain ⟨p, dx, fs, rfl, hp⟩ := O _ _ _ rv3
    exact ⟨p, dx, fs, t, rfl, e2.s _ _ hp, tx _ _ _ e2.s rw, hn, c Z3 H3 _ e2.s m2 ⟨_, _, rfl, rv3, _, _, rfl, rw, rfl⟩ _ fun u Z4 H4 e3 m3 ru => ⟨b, ru, q _ Z4 H4 ((e.trans e2).trans e3) m3 rfl⟩⟩
/-- the class of what may be None -/
def clsO {α : Type} (c : Value) : Option α → Value
  | none => .type "NoneType"
  | some _ => c
theorem tx_opt {fp : List Addr} {α : Type} {τ : Ty α} {c : Value} (h : ∀ (x : α) Z H v, Same Z H → (ty (fp := fp) τ x).r Z H v → TyX K H v c) {x : Option α} : ∀ Z H v, Same Z H → (ty (fp := fp) (yOpt τ) x).r Z H v → TyX K H v (clsO c x) := fun Z H v sz e => match x, e with
  | none, e => by rw [show v = .non from e]; exact .base .non
  | some y, e => h y Z H v sz e.1
theorem tx_non {fp : List Addr} {x : Unit} : ∀ Z H v, Same Z H → (ty (fp := fp) yNon x).r Z H v → TyX K H v (.type "NoneType") := fun _ _ _ _ h => by rw [show _ = V.non from h]; exact .base .non
theorem kit_opt {α : Type} {c t : Value} {b : Bool} (h0 : PySem.W.kitOne K (.type "NoneType") t = some false) (h1 : PySem.W.kitOne K c t = some b) (x : Option α) : PySem.W.kitOne K (clsO c x) t = some (x.isSome && b) := match x with
  | none => h0
  | some _ => h1
theorem nf_opt {α : Type} {C : Addr} {c : Value} (h0 : PySem.W.notFirst K C (.type "NoneType") = true) (h1 : PySem.W.notFirst K C c = true) (x : Option α) : PySem.W.notFirst K C (clsO c x) = true := match x with
  | none => h0
  | some _ => h1
def optEqO {α : Type} (f : α → Option α → Option Bool) : Option α → Option α → Option Bool
  | none, none => some true
  | none, some y => f y none
  | some x, y => f x y
theorem ev_optE {α : Type} {τ : Ty α} {a b : Option α} {r : Bool} {f : α → Option α → Option Bool} {C : Addr} {t : Option α → Value} {sp : Sp} {E : XK} (h : optEqO f a b = some r) (O : ∀ Z v x, τ.r Z v x → ∃ a dx fs, v = .ref a ∧ Z a = some (.ins C dx fs))
    (tx : ∀ (y : Option α) Z H v, Same Z H → (ty (fp := M.fp) (yOpt τ) y).r Z H v → TyX K H v (t y)) (hn : ∀ y, PySem.W.notFirst K C (t y) = true) (c : ∀ x y r, f x y = some r → CallS M sp E (rac (ty τ x) (rac (ty (yOpt τ) y) ra0)) s2 (ty yBool r) s2)
    (ha : Ev M ta σ Z H s (ty (yOpt τ) a) s1) (hb : Ev M tb σ Z H s1 (ty (yOpt τ) b) s2) : Ev M (tOp (TPN.rOptE K C sp E) ta tb) σ Z H s (ty yBool r) s2 :=
  fun Z1 H1 a' b' c' d' Q q => ha Z1 H1 a' b' c' d' _ fun v Z2 H2 e m rv => hb Z2 H2 (a'.trans e.z) (b'.trans e.h) e.s m _ fun w Z3 H3 e2 m2 rw => by
    have rv3 := (yOpt τ).mono e2.z rv
    match a, b, h, rv3, rw with
    | none, none, h, rv3, rw => exact .inl ⟨rv3, rw, q _ Z3 H3 (e.trans e2) m2 (congrArg V.bl (Option.some.inj h))⟩
    | none, some y, h, rv3, rw =>
      obtain ⟨p, dx, fs, rfl, hp⟩ := O _ _ _ rw.1
      exact .inr (.inl ⟨rv3, ⟨p, dx, fs, rfl, e2.s _ _ hp⟩, c y none r h Z3 H3 _ e2.s m2 ⟨_, _, rfl, rw.1, _, _, rfl, rv3, rfl⟩ _ fun u Z4 H4 e3 m3 ru => ⟨r, ru, q _ Z4 H4 ((e.trans e2).trans e3) m3 rfl⟩⟩)
    | some x, y, h, rv3, rw =>
      obtain ⟨p, dx, fs, rfl, hp⟩ := O _ _ _ rv3.1
      exact .inr (.inr ⟨p, dx, fs, t y, rfl, e2.s _ _ hp, tx _ _ _ _ e2.s rw, hn y, c x y r h Z3 H3 _ e2.s m2 ⟨_, _, rfl, rv3.1, _, _, rfl, rw, rfl⟩ _ fun u Z4 H4 e3 m3 ru => ⟨r, ru, q _ Z4 H4 ((e.trans e2).trans e3) m3 (by rw [show (r != false) = r by cases r <;> rfl]; exact rfl)⟩⟩)
end
end TP

namespace TP
open PySem PySem.Spec PyProof.Rows L2
/-! ### a list that never changes, or a tuple -/
def iSeq (K : PySem.W.Frag) (tl : TE) : TI := fun σ H R => tl σ H fun x H1 => (∃ a, x = .ref a ∧ (∃ xs, SqL K H1 a xs) ∧ R (Itl K a) H1) ∨ (∃ a, x = .ref a ∧ (∃ xs, SqT K H1 a xs) ∧ R (Itt K a) H1)
theorem pi_seq {X : Cx} {tg l : Expr} {tl : TE} (hl : PE X l tl) : PI X tg l (iSeq X.K tl) := by
  refine ⟨fun pins s σ H R I h => ?_⟩
  refine thn (hl.run pins s σ H _ I h) fun v s1 ⟨x, H1, I1, r1, q1⟩ => ?_
  rcases q1 with q1 | q1
  · obtain ⟨a, e, ⟨xs, hq⟩, q⟩ := q1
    subst e
    cases r1
    obtain ⟨its, rv, p, hz⟩ := I1.list hq
    refine wpAny_pyIter_list p.isList ?_
    refine ⟨s1.heap.objs.size, [s1.heap.objs.size], _, _, H1, rfl, I1.kept (t' := s1.toks) fun b o e => Heap.get?_push_of_some _ e, turn_list a _, ⟨_, Heap.get?_push_size _ rfl, rfl, rfl⟩, fun b hb => ?_, q⟩
    have e : b = s1.heap.objs.size := by simpa using hb
    subst e
    exact I1.fpOk (Nat.le_refl _) (I1.hok.fresh (Nat.le_refl _))
  · obtain ⟨a, e, ⟨xs, hq⟩, q⟩ := q1
    subst e
    cases r1
    obtain ⟨its, rv, p, hz⟩ := I1.tuple hq
    refine wpAny_pyIter_tuple (show s1.heap.IsTuple a its.toArray from p) ?_
    refine ⟨s1.heap.objs.size, [s1.heap.objs.size], _, _, H1, rfl, I1.kept (t' := s1.toks) fun b o e => Heap.get?_push_of_some _ e, turn_tuple a _, ⟨_, Heap.get?_push_size _ rfl, rfl, rfl⟩, fun b hb => ?_, q⟩
    have e : b = s1.heap.objs.size := by simpa using hb
    subst e
    exact I1.fpOk (Nat.le_refl _) (I1.hok.fresh (Nat.le_refl _))
theorem pi_seqB {X : Cx} {K : PySem.W.Frag} (hK : X.K = K) {tg l : Expr} {tl : TE} (hl : PE X l tl) : PI X tg l (iSeq K tl) := by
  subst hK
  exact pi_seq hl
section
variable {K : PySem.W.Frag} {α : Type}
def ySeq (K : PySem.W.Frag) (τ : Ty α) : Ty (List α) := ⟨fun Z v xs => ∃ a vs, v = .ref a ∧ (Z a = some (.lst vs) ∨ SqT K Z a vs) ∧ All (τ.r Z) vs xs ∧ xs.length ≤ sizeLine,
  fun s ⟨a, vs, e, h, t, l⟩ => ⟨a, vs, e, h.imp (fun h => s _ _ h) (seqT_same s), t.imp fun _ _ => τ.mono s, l⟩⟩
theorem nn_seq {τ : Ty α} : NonNil (ySeq K τ) := fun _ _ _ ⟨_, _, e, _⟩ => by rw [e]; exact fun z => nomatch z
section
variable {μ : Type} {M : Mu μ} {σ : L2.St} {Z H : Hp} {s s1 : μ} {ta : TE} {τ : Ty α} {xs : List α} {X : Hp → Hp → Prop}
theorem ev_seqL (h : Ev M ta σ Z H s (ty (yList τ) xs) s1) : Ev M ta σ Z H s (ty (ySeq K τ) xs) s1 := h.weak fun _ _ _ _ ⟨a, vs, e, h, t, l⟩ => ⟨a, vs, e, .inl h, t, l⟩
theorem ev_seqT (h : Ev M ta σ Z H s (ty (yTup K τ) xs) s1) : Ev M ta σ Z H s (ty (ySeq K τ) xs) s1 := h.weak fun _ _ _ _ ⟨a, vs, e, h, t, l⟩ => ⟨a, vs, e, .inr h, t, l⟩
theorem ei_seq (ha : Ev M ta σ Z H s (ty (ySeq K τ) xs) s1) : EvI M X (iSeq K ta) σ Z H s τ xs s1 :=
  fun Z1 H1 a b c d R q => ha Z1 H1 a b c d _ fun v Z2 H2 e m ⟨p, vs, ev, h, t, l⟩ => by
    subst ev
    rcases h with h | h
    · exact .inl ⟨p, rfl, ⟨vs, SqL.of (e.s _ _ h)⟩, q _ Z2 H2 e m (walk_at walk_list (fun Z' H' z sz _ => SqL.of (sz _ _ (z _ _ h))) t l)⟩
    · exact .inr ⟨p, rfl, ⟨vs, seqT_same e.s h⟩, q _ Z2 H2 e m (walk_at walk_tup (fun Z' H' z sz _ => seqT_same sz (seqT_same z h)) t l)⟩
theorem ev_lenS {r : List V → Hp → VK → Prop} (hr : ∀ xs H Q, (∃ p ys, xs = [.ref p] ∧ (SqL K H p ys ∨ SqT K H p ys) ∧ Q (.int ys.length) H) → r xs H Q) (ha : Ev M ta σ Z H s (ty (ySeq K τ) xs) s1) : Ev M (tCB r (tCons ta tNil)) σ Z H s (ty yInt (xs.length : Nat)) s1 :=
  ev_cb (eva_cons ha eva_nil) fun _ _ _ sz ⟨v, r, e, h, e2⟩ _ q => by
    cases e2; cases e
    obtain ⟨p, vs, rfl, g, t, _⟩ := h
    exact hr _ _ _ ⟨p, vs, rfl, g.imp (fun g => SqL.of (sz _ _ g)) (seqT_same sz), by rw [t.len]; exact q _ _ _ (Step.refl sz) rfl⟩
theorem en_list_ofS {r : List V → Hp → VK → Prop} (hr : ∀ xs H Q, (∃ p ys, xs = [.ref p] ∧ (SqL K H p ys ∨ SqT K H p ys) ∧ ∀ l, H l = none → Q (.ref l) (upd H l (.lst ys))) → r xs H Q) (ha : Ev M ta σ Z H s (ty (ySeq K τ) xs) s1) : EvN M (tCB r (tCons ta tNil)) σ Z H s τ xs s1 :=
  en_cb (eva_cons ha eva_nil) fun _ _ _ sz ⟨v, r, e, h, e2⟩ => by
    cases e2; cases e
    obtain ⟨p, vs, rfl, g, t, l⟩ := h
    exact ⟨vs, t, l, fun Q q => hr _ _ _ ⟨p, vs, rfl, g.imp (fun g => SqL.of (sz _ _ g)) (seqT_same sz), q⟩⟩
theorem ev_tuple_ofS {r : List V → Hp → VK → Prop} (hr : ∀ xs H Q, (∃ p ys, xs = [.ref p] ∧ ((SqL K H p ys ∧ ∀ l, H l = none → Q (.ref l) (upd H l (.tup ys))) ∨ (SqT K H p ys ∧ Q (.ref p) H))) → r xs H Q) (ha : Ev M ta σ Z H s (ty (ySeq K τ) xs) s1) : Ev M (tCB r (tCons ta tNil)) σ Z H s (ty (yTup K τ) xs) s1 :=
  ev_cb (eva_cons ha eva_nil) fun _ _ _ sz ⟨v, r, e, h, e2⟩ _ q => by
    cases e2; cases e
    obtain ⟨p, vs, rfl, g, t, l⟩ := h
    rcases g with g | g
    · exact hr _ _ _ ⟨p, vs, rfl, .inl ⟨SqL.of (sz _ _ g), fun d hd => q _ _ _ (Step.new sz hd) ⟨d, vs, rfl, sqT_new, t.imp fun _ _ => τ.mono (same_upd (same_none sz hd)), l⟩⟩⟩
    · exact hr _ _ _ ⟨p, vs, rfl, .inr ⟨seqT_same sz g, q _ _ _ (Step.refl sz) ⟨p, vs, rfl, g, t, l⟩⟩⟩
end
end
end TP

namespace TP
open PySem PySem.Spec PyProof.Rows L2
/-- a list grows by a tuple's items -/
def rExtS (K : PySem.W.Frag) : V → List V → Hp → VK → Prop := fun x vs H Q => ∃ l b xs zs, x = .ref l ∧ vs = [.ref b] ∧ H l = some (.lst xs) ∧ SqT K H b zs ∧ xs.length + zs.length ≤ sizeLine ∧ Q .non (upd H l (.lst (xs ++ zs)))
open PySem.AutoSeq1 in
theorem ext_tup (l b : Addr) (xs ys : Array Value) (n m : Nat) (dd : Option Addr) (sl : Array (Option Value)) (k0 : ¬ (!xs.isEmpty && Builtin.List.listTooLong (xs.size + ys.size)) = true) (k1 : xs.size ≤ sizeLine) (k2 : xs.size + ys.size ≤ sizeLine + 1) :
    Meets (Builtin.«list.extend» ⟨[.ref l, .ref b], []⟩) (fun _ R s => (s.heap.get? b = some ⟨.type "tuple", dd, .seq ys m, sl⟩ ∧ s.heap.get? l = some ⟨.type "list", none, .seq xs n, #[]⟩) ∧
      R (.ok (.ret Value.none)) { s with heap := s.heap.update l (Obj.mapSeq fun z => z ++ ys), toks := s.toks }) :=
  .of_wp fun prog w A R s ⟨⟨gb, gl⟩, q⟩ => by
    obtain ⟨hp, ge, dr, tk, os⟩ := s
    have s1 := PySem.AutoSeq1.idx_int
    have s2 := PySem.AutoSeq1.sub_list_list
    have s3 := PySem.AutoSeq1.sub_tuple_list
    have s4 := PySem.AutoSeq1.sub_tuple_tuple
    have s5 := PySem.AutoSeq1.sub_list_tuple
    have tot : (xs ++ ys).size ≤ sizeLine + 1 := by simpa [Array.size_append] using k2
    wp_walk using (wpAny_updateSeq gl rfl (hz := k1) (_hz' := tot)), wpAny_loadPart' gl, wpAny_loadPart' gb
    exact ⟨_, rfl, q⟩
theorem mt_extendT {X : Cx} : MtM X "list.extend" (rExtS X.K) := by
  intro pins s σ H x vs v us Q I rx rv g
  obtain ⟨l, b, xs, zs, rfl, rfl, gl, gb, gz, q⟩ := g
  cases rx
  obtain ⟨u, rfl, ru⟩ := rv.one
  cases ru
  obtain ⟨_, its, n, r, _, e⟩ := I.lstM gl
  obtain ⟨js, r2, ⟨⟨oc, od, ot, os⟩, e2, e3, m, e4⟩, _⟩ := I.tuple gb
  dsimp only at e3 e4
  subst e3 e4
  have k1 := r.length
  have k2 := r2.length
  have fits : its.toArray.size + js.toArray.size ≤ sizeLine := by
    rw [List.size_toArray, List.size_toArray]
    omega
  have open_ : ¬ (!its.toArray.isEmpty && Builtin.List.listTooLong (its.toArray.size + js.toArray.size)) = true := by
    rw [notLongL fits, Bool.and_false]
    decide
  refine call_meets F.slot_list_extend ⟨_, e, rfl⟩ F.entry_list_extend (F.args_list_extend_2 _ _) (ext_tup l b its.toArray js.toArray n m _ _ open_ (by omega) (by omega)) ⟨⟨e2, e⟩, .non, _, I.lset (its' := its ++ js) gl e (by simp) (r.append r2) (by rw [List.length_append]; omega), rfl, q⟩
section
variable {μ : Type} {S : List Addr} {Z0 H0 : Hp} {M : Mu μ} {σ : L2.St} {Z H : Hp} {s s1 s2 : μ} {ta tb te : TE} {K : PySem.W.Frag} {D : Ends} {α : Type} {τ : Ty α} {xs ys : List α} {p : Addr}
theorem st_extendT {i : Nat} (P : Pt S Z0 H0 M Z H s) (o : Own S H0 M.fp Z H τ p xs) (hσ : σ[i]? = some (some (.ref p))) (e : Ev M te σ Z H s (ty (yTup K τ) ys) s1) (l : xs.length + ys.length ≤ sizeLine)
    (k : ∀ Z1 H1, Step (p :: M.fp) Z H Z1 H1 → Pt S Z0 H0 M Z1 H1 s1 → Own S H0 M.fp Z1 H1 τ p (xs ++ ys) → D.nx σ H1) : tDrop (tBM K "list" (rExtS K) (tVar i) (tCons te tNil)) D σ H := by
  obtain ⟨vs, h, t⟩ := o.ex
  refine ⟨.ref p, hσ, .inl ⟨rfl, _, .inl (.inl h)⟩, e Z H (Same.refl _) SameX.refl P.sub P.m _ fun v Z1 H1 e m ⟨q, ws, ev, hq, t2, _⟩ => ?_⟩
  subst ev
  have o1 := o.next e
  have P1 := P.next e m
  refine ⟨p, q, vs, ws, rfl, rfl, e.h _ _ o.n h, seqT_same e.s hq, by rw [t.len, t2.len]; exact l, ?_⟩
  exact k _ _ (step2 e o1.z) (P1.set o1.z o.n (.inr o.mine)) ⟨⟨_, upd_same, (t.imp fun _ _ => τ.mono e.z).app t2⟩, o1.z, o.n, o.mine, by rw [List.length_append]; exact l⟩
/-- a sign of a text -/
def atSi (x : Str) (i : Int) : Option Str := (atI x.cps.toList i).map fun c => ⟨#[c]⟩
theorem ev_ixS {x y : Str} {i : Int} (ha : Ev M ta σ Z H s (ty yStr x) s1) (hb : Ev M tb σ Z H s1 (ty yInt i) s2) (e : atSi x i = some y) : Ev M (tOp rIxS ta tb) σ Z H s (ty yStr y) s2 :=
  ev_op ha hb fun _ _ _ _ sz e1 e2 _ q => by
    obtain ⟨c, hc, rfl⟩ := Option.map_eq_some_iff.mp e
    have ok := (show (PyData.strOk x && decide (x.length ≤ sizeLine)) = true from e1.2)
    rw [Bool.and_eq_true] at ok
    refine ⟨x, i, c, e1.1, e2, of_decide_eq_true ok.2, hc, q _ _ _ (Step.refl sz) ⟨rfl, ?_⟩⟩
    show (PyData.strOk ⟨#[c]⟩ && decide ((⟨#[c]⟩ : Str).length ≤ sizeLine)) = true
    have h1 : c ∈ x.cps.toList := by
      unfold atI at hc
      obtain ⟨j, _, hj⟩ := Option.bind_eq_some_iff.mp hc
      exact List.mem_of_getElem? hj
    have h2 := ok.1
    unfold PyData.strOk at h2 ⊢
    rw [Array.all_eq_true_iff_forall_mem] at h2
    rw [Bool.and_eq_true]
    refine ⟨?_, by show decide (1 ≤ sizeLine) = true; decide⟩
    simpa using h2 c (by simpa using h1)
end
end TP

/-! == and != of lists, tuples and instances with an own ==, with either outcome -/
namespace TPQ
open PySem PySem.SeqAt
open AutoSeq1 (wpAny_loadPart')
open MeetsSeq MeetsSeq2 MeetsSeq3 SeqRoads2
section
variable {prog : Program} {w : World} {A : Around} {R : Result → Shared → Prop} {E : Value → Shared → Prop}
/-- at each turn the two lists are read anew; the i-th two are equal as e i says -/
def ListB (prog : Program) (w : World) (A : Around) (E : Value → Shared → Prop) (l b : Addr) (N : Nat) (e : Nat → Bool) (I : Shared → Prop) : Prop :=
  ∀ s, I s → ∃ (items items2 : Array Value) (dd dd2 : Option Addr) (n n2 : Nat) (sl sl2 : Array (Option Value)), s.heap.get? l = some { cls := .type "list", dict := dd, data := .seq items n, slots := sl } ∧ s.heap.get? b = some { cls := .type "list", dict := dd2, data := .seq items2 n2, slots := sl2 } ∧ items.size = N ∧ items2.size = N ∧
    ∀ i (h1 : i < items.size) (h2 : i < items2.size), wpAny (model prog w) A.in1 (eqBool items[i] items2[i]) (fun r s' => r = e i ∧ I s') E s
set_option maxHeartbeats 2000000 in
theorem list_loop (neg : Bool) (l b : Addr) (N : Nat) (e : Nat → Bool) (I : Shared → Prop) (hl : ListB prog w A (fun e s' => R (.error e) s') l b N e I)
    (fin : ∀ s, I s → R (.ok (.ret (.bool ((List.range N).all e != neg)))) s) (k : Nat) :
    ∀ i : Nat, N - i = k → i ≤ N → (∀ j, j < i → e j = true) → ∀ s, I s →
      wpAny (model prog w) A.in1 (Builtin.«list.__eq__.loop» ⟨[.ref l, .ref b, rawInt i, rawInt (if neg then 3 else 2)], []⟩) (GQ.FinOf prog w A R) (fun e s' => R (.error e) s') s := by
  induction k with
  | zero =>
    intro i hk hi he s h
    obtain ⟨items, items2, dd, dd2, n, n2, sl, sl2, hl1, hb1, hs1, hs2, _⟩ := hl _ h
    have hi' : i = N := by omega
    subst hi'
    have hR := fin s h
    have ha : (List.range i).all e = true := by rw [List.all_eq_true]; exact fun j hj => he j (List.mem_range.mp hj)
    rw [ha] at hR
    have hi1 : items[((i : Nat) : Int).toNat]? = none := by simp; omega
    have hi2 : items2[((i : Nat) : Int).toNat]? = none := by simp; omega
    obtain ⟨hp, g, d, tk, os⟩ := s
    cases neg
    · rw [if_neg Bool.false_ne_true]
      wp_walk using wpAny_loadPart' hl1, wpAny_loadPart' hb1
      rw [hi1, hi2]
      wp_walk using wpAny_loadPart' hl1, wpAny_loadPart' hb1
      show R (.ok (.ret (.bool (items.size == items2.size)))) _
      rw [hs1, hs2]
      simpa using hR
    · rw [if_pos rfl]
      wp_walk using wpAny_loadPart' hl1, wpAny_loadPart' hb1
      rw [hi1, hi2]
      wp_walk using wpAny_loadPart' hl1, wpAny_loadPart' hb1
      show R (.ok (.ret (.bool (items.size != items2.size)))) _
      rw [hs1, hs2]
      simpa using hR
  | succ k ih =>
    intro i hk hi he s h
    obtain ⟨items, items2, dd, dd2, n, n2, sl, sl2, hl1, hb1, hs1, hs2, turn⟩ := hl _ h
    have hlt : i < items.size := by omega
    have hlt2 : i < items2.size := by omega
    have ht := turn i hlt hlt2
    have hi1 : items[((i : Nat) : Int).toNat]? = some items[i] := by simp [hlt]
    have hi2 : items2[((i : Nat) : Int).toNat]? = some items2[i] := by simp [hlt2]
    have hc : ((i : Int) + 1) = ((i + 1 : Nat) : Int) := by omega
    have go : e i = true → ∀ s2, I s2 → wpAny (model prog w) A.in1 (Builtin.«list.__eq__.loop» ⟨[.ref l, .ref b, rawInt ((i + 1 : Nat) : Int), rawInt (if neg then 3 else 2)], []⟩) (GQ.FinOf prog w A R) (fun e s' => R (.error e) s') s2 := fun ei s2 h2 =>
      ih (i + 1) (by omega) (by omega) (fun j hj => by
        rcases Nat.lt_or_ge j i with g | g
        · exact he j g
        · have : j = i := by omega
          rw [this]; exact ei) s2 h2
    have stop : e i = false → (List.range N).all e = false := fun ei => by
      cases q : (List.range N).all e with
      | false => rfl
      | true => rw [List.all_eq_true.mp q i (List.mem_range.mpr (by omega))] at ei; cases ei
    obtain ⟨hp, g, d, tk, os⟩ := s
    cases neg
    · rw [if_neg Bool.false_ne_true] at go ⊢
      wp_walk using wpAny_loadPart' hl1, wpAny_loadPart' hb1
      rw [hi1, hi2]
      refine wpAny_bind (wpAny_mono ht (fun r s2 h2 => ?_) fun _ _ x => x)
      obtain ⟨hr, h2⟩ := h2
      subst hr
      cases ei : e i with
      | true =>
        have hrec := go ei s2 h2
        obtain ⟨hp2, g2, d2, tk2, os2⟩ := s2
        wp_walk
        rw [hc]
        exact ⟨plainId_quiet plain_eq_loop _, codeAny_builtin entry_eq_loop (by
          rw [Around.under_plainId plain_eq_loop _]
          exact hrec)⟩
      | false =>
        have hR := fin s2 h2
        rw [stop ei] at hR
        obtain ⟨its, its2, _, _, m, m2, _, _, hl2, hb2, z1, z2, _⟩ := hl _ h2
        have ki1 : its[((i : Nat) : Int).toNat]? = some (its[i]'(by omega)) := by simp
        have ki2 : its2[((i : Nat) : Int).toNat]? = some (its2[i]'(by omega)) := by simp
        obtain ⟨hp2, g2, d2, tk2, os2⟩ := s2
        wp_walk using wpAny_loadPart' hl2, wpAny_loadPart' hb2
        rw [ki1, ki2]
        wp_walk
        simpa using hR
    · rw [if_pos rfl] at go ⊢
      wp_walk using wpAny_loadPart' hl1, wpAny_loadPart' hb1
      rw [hi1, hi2]
      refine wpAny_bind (wpAny_mono ht (fun r s2 h2 => ?_) fun _ _ x => x)
      obtain ⟨hr, h2⟩ := h2
      subst hr
      cases ei : e i with
      | true =>
        have hrec := go ei s2 h2
        obtain ⟨hp2, g2, d2, tk2, os2⟩ := s2
        wp_walk
        rw [hc]
        exact ⟨plainId_quiet plain_eq_loop _, codeAny_builtin entry_eq_loop (by
          rw [Around.under_plainId plain_eq_loop _]
          exact hrec)⟩
      | false =>
        have hR := fin s2 h2
        rw [stop ei] at hR
        obtain ⟨its, its2, _, _, m, m2, _, _, hl2, hb2, z1, z2, _⟩ := hl _ h2
        have ki1 : its[((i : Nat) : Int).toNat]? = some (its[i]'(by omega)) := by simp
        have ki2 : its2[((i : Nat) : Int).toNat]? = some (its2[i]'(by omega)) := by simp
        obtain ⟨hp2, g2, d2, tk2, os2⟩ := s2
        wp_walk using wpAny_loadPart' hl2, wpAny_loadPart' hb2
        rw [ki1, ki2]
        wp_walk
        simpa using hR
set_option maxHeartbeats 2000000 in
theorem list_cmp (neg : Bool) (l b : Addr) (N : Nat) (e : Nat → Bool) (I : Shared → Prop) (hl : ListB prog w A (fun e s' => R (.error e) s') l b N e I)
    (fin : ∀ s, I s → R (.ok (.ret (.bool ((List.range N).all e != neg)))) s) {s : Shared} (h : I s) :
    wpAny (model prog w) A.in1 ((if neg then Builtin.«list.__ne__» else Builtin.«list.__eq__») ⟨[.ref l, .ref b], []⟩) (GQ.FinOf prog w A R) (fun e s' => R (.error e) s') s := by
  obtain ⟨items, items2, dd, dd2, n, n2, sl, sl2, hl1, hb1, hs1, hs2, _⟩ := hl _ h
  have hrec := list_loop (A := A) (R := R) neg l b N e I hl fin _ 0 rfl (Nat.zero_le _) (fun j hj => absurd hj (Nat.not_lt_zero j)) s h
  obtain ⟨hp, g, d, tk, os⟩ := s
  have f3 := AutoSeq1.sub_list_list
  have hne : ¬ (items.size != items2.size) = true := by simp [hs1, hs2]
  cases neg
  · rw [if_neg Bool.false_ne_true] at hrec ⊢
    wp_walk using wpAny_loadPart' hl1, wpAny_loadPart' hb1
    exact ⟨plainId_quiet plain_eq_loop _, codeAny_builtin entry_eq_loop (by
      rw [Around.under_plainId plain_eq_loop _]
      exact hrec)⟩
  · rw [if_pos rfl] at hrec ⊢
    wp_walk using wpAny_loadPart' hl1, wpAny_loadPart' hb1
    exact ⟨plainId_quiet plain_eq_loop _, codeAny_builtin entry_eq_loop (by
      rw [Around.under_plainId plain_eq_loop _]
      exact hrec)⟩
set_option maxHeartbeats 2000000 in
theorem list_len (neg : Bool) (l b : Addr) (items items2 : Array Value) (dd dd2 : Option Addr) (n n2 : Nat) (sl sl2 : Array (Option Value)) (hne : (items.size != items2.size) = true) {s : Shared} (hl1 : s.heap.get? l = some { cls := .type "list", dict := dd, data := .seq items n, slots := sl }) (hb1 : s.heap.get? b = some { cls := .type "list", dict := dd2, data := .seq items2 n2, slots := sl2 })
    (fin : R (.ok (.ret (.bool neg))) s) :
    wpAny (model prog w) A.in1 ((if neg then Builtin.«list.__ne__» else Builtin.«list.__eq__») ⟨[.ref l, .ref b], []⟩) (GQ.FinOf prog w A R) (fun e s' => R (.error e) s') s := by
  obtain ⟨hp, g, d, tk, os⟩ := s
  have f3 := AutoSeq1.sub_list_list
  cases neg
  · rw [if_neg Bool.false_ne_true]
    wp_walk using wpAny_loadPart' hl1, wpAny_loadPart' hb1
    exact fin
  · rw [if_pos rfl]
    wp_walk using wpAny_loadPart' hl1, wpAny_loadPart' hb1
    exact fin
set_option maxHeartbeats 2000000 in
theorem tup_cmp (neg : Bool) (l b : Addr) (items items2 : Array Value) (n n2 : Nat) (dd dd2 : Option Addr) (sl sl2 : Array (Option Value)) (e : Nat → Bool) (I : Shared → Prop)
    (turn : ∀ i (h1 : i < items.size) (h2 : i < items2.size) s, I s → wpAny (model prog w) A.in1 (eqBool items[i] items2[i]) (fun r s' => r = e i ∧ I s') (fun e s' => R (.error e) s') s)
    (fin : ∀ s, I s → R (.ok (.ret (.bool (((List.range (min items.size items2.size)).all e && items.size == items2.size) != neg)))) s) {s : Shared} (hl1 : s.heap.get? l = some { cls := .type "tuple", dict := dd, data := .seq items n, slots := sl }) (hb1 : s.heap.get? b = some { cls := .type "tuple", dict := dd2, data := .seq items2 n2, slots := sl2 }) (h : I s) :
    wpAny (model prog w) A.in1 ((if neg then Builtin.«tuple.__ne__» else Builtin.«tuple.__eq__») ⟨[.ref l, .ref b], []⟩) (GQ.FinOf prog w A R) (fun e s' => R (.error e) s') s := by
  have f2 := AutoSeq1.sub_tuple_tuple
  have hZ : (items.toList.zip items2.toList).length = min items.size items2.size := by simp
  have h0 := h
  have stop : ∀ i, i < min items.size items2.size → e i = false → (List.range (min items.size items2.size)).all e = false := fun i hi ei => by
    cases q : (List.range (min items.size items2.size)).all e with
    | false => rfl
    | true => rw [List.all_eq_true.mp q i (List.mem_range.mpr hi)] at ei; cases ei
  have turn' : ∀ (y x : Value) (rest : List (Value × Value)) (i : Nat), (y, x) :: rest = (items.toList.zip items2.toList).drop i → i < min items.size items2.size ∧ rest = (items.toList.zip items2.toList).drop (i + 1) ∧ ∀ s, I s → wpAny (model prog w) A.in1 (eqBool y x) (fun r s' => r = e i ∧ I s') (fun e s' => R (.error e) s') s := fun y x rest i hz => by
    have hlt : i < (items.toList.zip items2.toList).length := by
      rcases Nat.lt_or_ge i (items.toList.zip items2.toList).length with h' | h'
      · exact h'
      · rw [List.drop_of_length_le h'] at hz; cases hz
    have hm : i < min items.size items2.size := hZ ▸ hlt
    have h1 : i < items.size := Nat.lt_of_lt_of_le hm (Nat.min_le_left _ _)
    have h2 : i < items2.size := Nat.lt_of_lt_of_le hm (Nat.min_le_right _ _)
    rw [List.drop_eq_getElem_cons hlt] at hz
    injection hz with hyx hrest
    have hy : y = items[i] := by have := congrArg Prod.fst hyx; simpa using this
    have hx : x = items2[i] := by have := congrArg Prod.snd hyx; simpa using this
    subst hy hx
    exact ⟨hm, hrest, turn i h1 h2⟩
  have last : ∀ i, [] = (items.toList.zip items2.toList).drop i → (∀ j, j < i → j < min items.size items2.size → e j = true) → (List.range (min items.size items2.size)).all e = true := fun i hz he => by
    have hge : min items.size items2.size ≤ i := by
      rcases Nat.lt_or_ge i (items.toList.zip items2.toList).length with h' | h'
      · rw [List.drop_eq_getElem_cons h'] at hz; cases hz
      · exact hZ ▸ h'
    rw [List.all_eq_true]
    exact fun j hj => he j (Nat.lt_of_lt_of_le (List.mem_range.mp hj) hge) (List.mem_range.mp hj)
  have grow : ∀ i, e i = true → (∀ j, j < i → j < min items.size items2.size → e j = true) → ∀ j, j < i + 1 → j < min items.size items2.size → e j = true := fun i ei he j hj hm => by
    rcases Nat.lt_or_ge j i with g | g
    · exact he j g hm
    · have : j = i := by omega
      rw [this]; exact ei
  obtain ⟨hp, g, d, tk, os⟩ := s
  cases neg
  · rw [if_neg Bool.false_ne_true]
    wp_walk using wpAny_loadPart' hl1, wpAny_loadPart' hb1, wpAny_forIn_list _ (fun rest b s' => b.1 = none ∧ I s' ∧ ∃ i, rest = (items.toList.zip items2.toList).drop i ∧ ∀ j, j < i → j < min items.size items2.size → e j = true) _
    case turn =>
      rintro ⟨y, x⟩ rest b s' ⟨hb', hI, i, hz, he⟩
      obtain ⟨hm, hrest, tr⟩ := turn' y x rest i hz
      refine wpAny_bind (wpAny_mono (tr s' hI) (fun r s2 q2 => ?_) fun _ _ x => x)
      obtain ⟨hr, q2⟩ := q2
      subst hr
      cases ei : e i with
      | true =>
        wp_walk
        exact ⟨rfl, q2, i + 1, hrest, grow i ei he⟩
      | false =>
        have hR := fin s2 q2
        rw [stop i hm ei] at hR
        obtain ⟨hp2, g2, d2, tk2, os2⟩ := s2
        wp_walk
        simpa using hR
    case fin =>
      rintro ⟨b1, b2⟩ s' ⟨hb', hI, i, hz, he⟩
      simp only at hb'
      subst hb'
      have hR := fin s' hI
      rw [last i hz he] at hR
      wp_walk
      simpa [Builtin.Tuple.tupleCompareSizes, bne] using hR
    case h =>
      exact ⟨rfl, h0, 0, rfl, fun j hj => absurd hj (Nat.not_lt_zero j)⟩
  · rw [if_pos rfl]
    wp_walk using wpAny_loadPart' hl1, wpAny_loadPart' hb1, wpAny_forIn_list _ (fun rest b s' => b.1 = none ∧ I s' ∧ ∃ i, rest = (items.toList.zip items2.toList).drop i ∧ ∀ j, j < i → j < min items.size items2.size → e j = true) _
    case turn =>
      rintro ⟨y, x⟩ rest b s' ⟨hb', hI, i, hz, he⟩
      obtain ⟨hm, hrest, tr⟩ := turn' y x rest i hz
      refine wpAny_bind (wpAny_mono (tr s' hI) (fun r s2 q2 => ?_) fun _ _ x => x)
      obtain ⟨hr, q2⟩ := q2
      subst hr
      cases ei : e i with
      | true =>
        wp_walk
        exact ⟨rfl, q2, i + 1, hrest, grow i ei he⟩
      | false =>
        have hR := fin s2 q2
        rw [stop i hm ei] at hR
        obtain ⟨hp2, g2, d2, tk2, os2⟩ := s2
        wp_walk
        simpa using hR
    case fin =>
      rintro ⟨b1, b2⟩ s' ⟨hb', hI, i, hz, he⟩
      simp only at hb'
      subst hb'
      have hR := fin s' hI
      rw [last i hz he] at hR
      wp_walk
      simpa [Builtin.Tuple.tupleCompareSizes, bne] using hR
    case h =>
      exact ⟨rfl, h0, 0, rfl, fun j hj => absurd hj (Nat.not_lt_zero j)⟩

section
variable {s : Shared}
theorem rc_list (neg : Bool) {l b : Addr} {N : Nat} {Q : Value → Shared → Prop} (hu : A.units < cLine) (e : Nat → Bool) (I : Shared → Prop) (hl : ListB prog w A E l b N e I)
    (fin : ∀ s, I s → Q (.bool ((List.range N).all e != neg)) s) (h : I s) : wpAny (model prog w) A (richCompare (if neg then .NotEq else .Eq) (.ref l) (.ref b)) Q E s := by
  obtain ⟨items, items2, dd, dd2, n, n2, sl, sl2, hl1, hb1, _, _, _⟩ := hl _ h
  cases neg
  · rw [if_neg Bool.false_ne_true]
    refine wpAny_richCompare_same_room (op := .Eq) ⟨_, hl1, rfl⟩ ⟨_, hb1, rfl⟩ F.slot_list_eq (GQ.call_here F.slot_list_eq ⟨_, hl1, rfl⟩ F.entry_list_eq (F.args_list_eq_2 _ _) ?_) hu
    exact list_cmp (R := wants (fun v s' => v ≠ .notImplemented ∧ Q v s') E) false l b N e I hl (fun s' q => ⟨(fun x => nomatch x), fin s' q⟩) h
  · rw [if_pos rfl]
    refine wpAny_richCompare_same_room (op := .NotEq) ⟨_, hl1, rfl⟩ ⟨_, hb1, rfl⟩ F.slot_list_ne (GQ.call_here F.slot_list_ne ⟨_, hl1, rfl⟩ F.entry_list_ne (F.args_list_ne_2 _ _) ?_) hu
    exact list_cmp (R := wants (fun v s' => v ≠ .notImplemented ∧ Q v s') E) true l b N e I hl (fun s' q => ⟨(fun x => nomatch x), fin s' q⟩) h
theorem rc_list_len (neg : Bool) {l b : Addr} {items items2 : Array Value} {Q : Value → Shared → Prop} (hu : A.units < cLine) (hl : s.heap.IsList l items) (hb : s.heap.IsList b items2) (hne : (items.size != items2.size) = true) (fin : Q (.bool neg) s) :
    wpAny (model prog w) A (richCompare (if neg then .NotEq else .Eq) (.ref l) (.ref b)) Q E s := by
  obtain ⟨⟨cls, dd, data, sl⟩, ho, hc, n, hd⟩ := id hl
  obtain ⟨⟨cls2, dd2, data2, sl2⟩, ho2, hc2, n2, hd2⟩ := id hb
  simp only at hc hd hc2 hd2
  subst hc hd hc2 hd2
  cases neg
  · rw [if_neg Bool.false_ne_true]
    refine wpAny_richCompare_same_room (op := .Eq) ⟨_, ho, rfl⟩ ⟨_, ho2, rfl⟩ F.slot_list_eq (GQ.call_here F.slot_list_eq ⟨_, ho, rfl⟩ F.entry_list_eq (F.args_list_eq_2 _ _) ?_) hu
    exact list_len (R := wants (fun v s' => v ≠ .notImplemented ∧ Q v s') E) false l b items items2 dd dd2 n n2 sl sl2 hne ho ho2 ⟨(fun x => nomatch x), fin⟩
  · rw [if_pos rfl]
    refine wpAny_richCompare_same_room (op := .NotEq) ⟨_, ho, rfl⟩ ⟨_, ho2, rfl⟩ F.slot_list_ne (GQ.call_here F.slot_list_ne ⟨_, ho, rfl⟩ F.entry_list_ne (F.args_list_ne_2 _ _) ?_) hu
    exact list_len (R := wants (fun v s' => v ≠ .notImplemented ∧ Q v s') E) true l b items items2 dd dd2 n n2 sl sl2 hne ho ho2 ⟨(fun x => nomatch x), fin⟩
theorem rc_tup (neg : Bool) {l b : Addr} {items items2 : Array Value} {Q : Value → Shared → Prop} (hu : A.units < cLine) (e : Nat → Bool) (I : Shared → Prop) (hl : s.heap.IsTuple l items) (hb : s.heap.IsTuple b items2)
    (turn : ∀ i (h1 : i < items.size) (h2 : i < items2.size) s, I s → wpAny (model prog w) A.in1 (eqBool items[i] items2[i]) (fun r s' => r = e i ∧ I s') E s)
    (fin : ∀ s, I s → Q (.bool (((List.range (min items.size items2.size)).all e && items.size == items2.size) != neg)) s) (h : I s) : wpAny (model prog w) A (richCompare (if neg then .NotEq else .Eq) (.ref l) (.ref b)) Q E s := by
  obtain ⟨⟨cls, dd, data, sl⟩, ho, hc, n, hd⟩ := id hl
  obtain ⟨⟨cls2, dd2, data2, sl2⟩, ho2, hc2, n2, hd2⟩ := id hb
  simp only at hc hd hc2 hd2
  subst hc hd hc2 hd2
  cases neg
  · rw [if_neg Bool.false_ne_true]
    refine wpAny_richCompare_same_room (op := .Eq) ⟨_, ho, rfl⟩ ⟨_, ho2, rfl⟩ F.slot_tuple_eq (GQ.call_here F.slot_tuple_eq ⟨_, ho, rfl⟩ F.entry_tuple_eq (F.args_tuple_eq_2 _ _) ?_) hu
    exact tup_cmp (R := wants (fun v s' => v ≠ .notImplemented ∧ Q v s') E) false l b items items2 n n2 dd dd2 sl sl2 e I turn (fun s' q => ⟨(fun x => nomatch x), fin s' q⟩) ho ho2 h
  · rw [if_pos rfl]
    refine wpAny_richCompare_same_room (op := .NotEq) ⟨_, ho, rfl⟩ ⟨_, ho2, rfl⟩ F.slot_tuple_ne (GQ.call_here F.slot_tuple_ne ⟨_, ho, rfl⟩ F.entry_tuple_ne (F.args_tuple_ne_2 _ _) ?_) hu
    exact tup_cmp (R := wants (fun v s' => v ≠ .notImplemented ∧ Q v s') E) true l b items items2 n n2 dd dd2 sl sl2 e I turn (fun s' q => ⟨(fun x => nomatch x), fin s' q⟩) ho ho2 h
end
end
end TPQ
namespace TPQ
open PySem PySem.Spec PyProof.Rows L2
/-- how two values compare, by the abstract heap: with what outcome -/
abbrev EqF := V → V → Hp → Bool → Prop
def MonF (D : EqF) : Prop := ∀ x y b H H', L2.Ext H H' → D x y H b → D x y H' b
/-- ==, within a builtin -/
def EqB (X : Cx) (n : Nat) (D : EqF) : Prop :=
  ∀ (A : Around) (pins : List (Addr × Obj)) (s : Shared) (σ : L2.St) (H : Hp) (x y : V) (u v : Value) (b : Bool), Sub X n A → Inv X pins σ H s → RelV x u → RelV y v → D x y H b →
    wpAny (model X.prog X.w) A (eqBool u v) (fun r s' => r = b ∧ ∃ H', Inv X pins σ H' s' ∧ L2.Ext H H') X.xe s
/-- == and !=, as operators -/
def RcB (X : Cx) (n : Nat) (neg : Bool) (D : EqF) : Prop :=
  ∀ (A : Around) (pins : List (Addr × Obj)) (s : Shared) (σ : L2.St) (H : Hp) (x y : V) (u v : Value) (b : Bool), Sub X n A → Inv X pins σ H s → RelV x u → RelV y v → D x y H b →
    wpAny (model X.prog X.w) A (richCompare (if neg then .NotEq else .Eq) u v) (fun r s' => r = .bool (b != neg) ∧ ∃ H', Inv X pins σ H' s' ∧ L2.Ext H H') X.xe s
section
variable {X : Cx} {n m : Nat} {D D' : EqF}
theorem EqB.mono (h : EqB X n D) (hn : n ≤ m) : EqB X m D := fun A pins s σ H x y u v b sb => h A pins s σ H x y u v b (sb.mono hn)
theorem RcB.mono {neg : Bool} (h : RcB X n neg D) (hn : n ≤ m) : RcB X m neg D := fun A pins s σ H x y u v b sb => h A pins s σ H x y u v b (sb.mono hn)
theorem EqB.imp (h : EqB X n D) (hd : ∀ x y H b, D' x y H b → D x y H b) : EqB X n D' := fun A pins s σ H x y u v b sb I rx ry d => h A pins s σ H x y u v b sb I rx ry (hd x y H b d)
theorem RcB.imp {neg : Bool} (h : RcB X n neg D) (hd : ∀ x y H b, D' x y H b → D x y H b) : RcB X n neg D' := fun A pins s σ H x y u v b sb I rx ry d => h A pins s σ H x y u v b sb I rx ry (hd x y H b d)
/-- flat values -/
def FFlat : EqF := fun x y _ b => flatV x = true ∧ flatV y = true ∧ eqV x y = b
theorem eqB_flat : EqB X 0 FFlat := by
  intro A pins s σ H x y u v b sb I rx ry d
  obtain ⟨fx, fy, e⟩ := d
  have q := eqAt_V (A := A) (s := s) rx ry fx fy
  rw [e] at q
  exact q X.prog X.w X.xe _ ⟨rfl, H, I, Ext.rfl'⟩
/-- pair by pair -/
inductive PrB (D : EqF) : List V → List V → Hp → List Bool → Prop
  | nil {xs ys : List V} {H : Hp} (h : xs = [] ∨ ys = []) : PrB D xs ys H []
  | cons {x y : V} {xs ys : List V} {H : Hp} {b : Bool} {bs : List Bool} (h : D x y H b) (r : PrB D xs ys H bs) : PrB D (x :: xs) (y :: ys) H (b :: bs)
theorem PrB.mon (hD : MonF D) {H H' : Hp} (e : L2.Ext H H') : ∀ {xs ys : List V} {bs : List Bool}, PrB D xs ys H bs → PrB D xs ys H' bs
  | _, _, _, .nil h => .nil h
  | _, _, _, .cons h r => .cons (hD _ _ _ _ _ e h) (r.mon hD e)
theorem PrB.len {H : Hp} : ∀ {xs ys : List V} {bs : List Bool}, PrB D xs ys H bs → bs.length = min xs.length ys.length
  | _, _, _, .nil h => by rcases h with rfl | rfl <;> simp
  | _, _, _, .cons h r => by have := r.len; simp only [List.length_cons]; omega
theorem PrB.get {H : Hp} : ∀ {xs ys : List V} {bs : List Bool} (i : Nat) {x y : V}, PrB D xs ys H bs → xs[i]? = some x → ys[i]? = some y → D x y H (bs.getD i false)
  | _, _, _, i, _, _, .nil h, h1, h2 => by rcases h with rfl | rfl <;> simp at h1 h2
  | _, _, _, 0, _, _, .cons h r, h1, h2 => by
    simp at h1 h2
    subst h1 h2
    exact h
  | _, _, _, i + 1, _, _, .cons h r, h1, h2 => by
    simp at h1 h2
    have := r.get i h1 h2
    simpa using this
theorem all_range : ∀ bs : List Bool, (List.range bs.length).all (fun i => bs.getD i false) = bs.all id
  | [] => rfl
  | b :: bs => by
    rw [List.length_cons, List.range_succ_eq_map, List.all_cons, List.all_map, List.all_cons, ← all_range bs]
    rfl
def LoopB (X : Cx) (pins : List (Addr × Obj)) (σ : L2.St) (H : Hp) (s' : Shared) : Prop := ∃ H', Inv X pins σ H' s' ∧ L2.Ext H H'
theorem turnB (hD : MonF D) (h : EqB X n D) {A : Around} (sb : Sub X (n + 1) A) {pins : List (Addr × Obj)} {σ : L2.St} {H : Hp} {xs ys : List V} {bs : List Bool} {its its2 : List Value} (p : PrB D xs ys H bs) (r : Vals xs its) (r2 : Vals ys its2)
    (i : Nat) (h1 : i < its.toArray.size) (h2 : i < its2.toArray.size) (s' : Shared) (l : LoopB X pins σ H s') :
    wpAny (model X.prog X.w) A.in1 (eqBool its.toArray[i] its2.toArray[i]) (fun r s2 => r = bs.getD i false ∧ LoopB X pins σ H s2) X.xe s' := by
  obtain ⟨H1, I1, e1⟩ := l
  have g1 : its[i]? = some its.toArray[i] := by
    have h1' : i < its.length := by simpa using h1
    rw [List.getElem?_eq_getElem h1'] <;> simp
  have g2 : its2[i]? = some its2.toArray[i] := by
    have h2' : i < its2.length := by simpa using h2
    rw [List.getElem?_eq_getElem h2'] <;> simp
  have k1 : i < xs.length := by rw [r.length]; simpa using h1
  have k2 : i < ys.length := by rw [r2.length]; simpa using h2
  obtain ⟨u, hu, ru⟩ := r.get (List.getElem?_eq_getElem k1)
  obtain ⟨v, hv, rv⟩ := r2.get (List.getElem?_eq_getElem k2)
  rw [g1] at hu
  rw [g2] at hv
  rw [Option.some.inj hu, Option.some.inj hv]
  refine wpAny_mono (h A.in1 pins s' σ H1 _ _ u v _ sb.in1 I1 ru rv ((p.mon hD e1).get i (List.getElem?_eq_getElem k1) (List.getElem?_eq_getElem k2))) (fun r s2 q => ?_) fun _ _ x => x
  obtain ⟨hr, H2, I2, e2⟩ := q
  exact ⟨hr, H2, I2, e1.trans e2⟩
def FList (D : EqF) : EqF := fun x y H b => ∃ a c xs ys bs, x = .ref a ∧ y = .ref c ∧ H a = some (.lst xs) ∧ H c = some (.lst ys) ∧ PrB D xs ys H bs ∧ b = (bs.all id && decide (xs.length = ys.length))
def FTup (K : PySem.W.Frag) (D : EqF) : EqF := fun x y H b => ∃ a c xs ys bs, x = .ref a ∧ y = .ref c ∧ SqT K H a xs ∧ SqT K H c ys ∧ PrB D xs ys H bs ∧ b = (bs.all id && decide (xs.length = ys.length))
theorem mon_list (hD : MonF D) : MonF (FList D) := fun x y b H H' e ⟨a, c, xs, ys, bs, hx, hy, h1, h2, p, hb⟩ => ⟨a, c, xs, ys, bs, hx, hy, e _ _ h1, e _ _ h2, p.mon hD e, hb⟩
theorem mon_tup {K : PySem.W.Frag} (hD : MonF D) : MonF (FTup K D) := fun x y b H H' e ⟨a, c, xs, ys, bs, hx, hy, h1, h2, p, hb⟩ => ⟨a, c, xs, ys, bs, hx, hy, h1.ext e, h2.ext e, p.mon hD e, hb⟩
theorem rcB_list (neg : Bool) (hD : MonF D) (h : EqB X n D) : RcB X (n + 1) neg (FList D) := by
  intro A pins s σ H x y u v b sb I rx ry d
  obtain ⟨a, c, xs, ys, bs, rfl, rfl, ha, hc, p, rfl⟩ := d
  cases rx
  cases ry
  by_cases hn : xs.length = ys.length
  · have hl : bs.length = xs.length := by have := p.len; omega
    rw [decide_eq_true hn, Bool.and_true]
    refine rc_list neg (N := xs.length) sb.room.units0 (fun i => bs.getD i false) (LoopB X pins σ H) (fun s' q => ?_) (fun s' q => ⟨?_, q⟩) ⟨H, I, Ext.rfl'⟩
    · obtain ⟨H1, I1, e1⟩ := id q
      obtain ⟨z, its, k, r, e⟩ := I1.hok a _ (e1 _ _ ha)
      obtain ⟨z2, its2, k2, r2, e2⟩ := I1.hok c _ (e1 _ _ hc)
      exact ⟨its.toArray, its2.toArray, _, _, k, k2, _, _, e, e2, by rw [List.size_toArray, ← r.length], by rw [List.size_toArray, ← r2.length, ← hn], fun i h1 h2 => turnB hD h sb p r r2 i h1 h2 s' q⟩
    · rw [← hl, all_range]
  · rw [decide_eq_false hn, Bool.and_false]
    obtain ⟨z, its, k, r, e⟩ := I.hok a _ ha
    obtain ⟨z2, its2, k2, r2, e2⟩ := I.hok c _ hc
    refine rc_list_len neg sb.room.units0 (items := its.toArray) (items2 := its2.toArray) ⟨_, e, rfl, _, rfl⟩ ⟨_, e2, rfl, _, rfl⟩ ?_ ⟨by simp, H, I, Ext.rfl'⟩
    rw [List.size_toArray, List.size_toArray, ← r.length, ← r2.length]
    simpa using hn
theorem rcB_tup (neg : Bool) (hD : MonF D) (h : EqB X n D) : RcB X (n + 1) neg (FTup X.K D) := by
  intro A pins s σ H x y u v b sb I rx ry d
  obtain ⟨a, c, xs, ys, bs, rfl, rfl, ha, hc, p, rfl⟩ := d
  cases rx
  cases ry
  obtain ⟨its, r, e, z⟩ := I.tuple ha
  obtain ⟨its2, r2, e2, z2⟩ := I.tuple hc
  refine rc_tup neg sb.room.units0 (fun i => bs.getD i false) (LoopB X pins σ H) e e2 (fun i h1 h2 s' q => turnB hD h sb p r r2 i h1 h2 s' q) (fun s' q => ⟨?_, q⟩) ⟨H, I, Ext.rfl'⟩
  have hl := p.len
  have e3 : min its.toArray.size its2.toArray.size = bs.length := by rw [List.size_toArray, List.size_toArray, ← r.length, ← r2.length, hl]
  rw [e3, all_range, List.size_toArray, List.size_toArray, ← r.length, ← r2.length]
  rfl
/-- instances of the class at C with the text's own == : R tells the outcome -/
def FIns (C : Addr) (R : Addr → Addr → Hp → Bool → Prop) : EqF := fun x y H b => ∃ a c dx dy fs gs, x = .ref a ∧ y = .ref c ∧ H a = some (.ins C dx fs) ∧ H c = some (.ins C dy gs) ∧ R a c H b
theorem mon_ins {C : Addr} {R : Addr → Addr → Hp → Bool → Prop} (hR : ∀ a c b H H', L2.Ext H H' → R a c H b → R a c H' b) : MonF (FIns C R) := fun x y b H H' e ⟨a, c, dx, dy, fs, gs, hx, hy, h1, h2, r⟩ => ⟨a, c, dx, dy, fs, gs, hx, hy, e _ _ h1, e _ _ h2, hR a c b H H' e r⟩
def spEqB (R : Addr → Addr → Hp → Bool → Prop) : Sp := fun vs H Q _ => ∃ a c b, vs = [.ref a, .ref c] ∧ R a c H b ∧ ∀ H', L2.Ext H H' → Q (.bl b) H'
theorem rcB_ins {CX : CXT} {C f : Addr} {fd : FuncData} {ps : List Str} {R : Addr → Addr → Hp → Bool → Prop} {E : XK} (F : FnOk X.prog X.w X.K X.mg X.base CX n f fd ps (spEqB R))
    (hs : PySem.W.findIn X.K (.ref C) "__eq__" = some (some (.ref f))) (hf : PySem.W.isFn X.K (.ref f) = true) (hb : Binds X.K fd ps []) (hx : Passes CX X E) : RcB X n false (FIns C R) := by
  intro A pins s σ H x y u v b sb I rx ry d
  obtain ⟨a, c, dx, dy, fs, gs, rfl, rfl, ha, hc, hr⟩ := d
  cases rx
  cases ry
  obtain ⟨mA, J, _⟩ := ins_get I.hok ha
  obtain ⟨mB, J', _⟩ := ins_get I.hok hc
  obtain ⟨od, J, _⟩ := J.look
  obtain ⟨od', J', _⟩ := J'.look
  obtain ⟨m, hF⟩ := I.fr
  rw [if_neg Bool.false_ne_true]
  refine PySem.W.cmp_K (op := .Eq) (tb := .ref C) sb.room.units0 hF I.ok.mod.kin J J'.type (by simp [PySem.W.notFirst]) hs hf ?_
  have hsp : spEqB R [.ref a, .ref c] H (fun v H' => v = .bl b ∧ L2.Ext H H') E := ⟨a, c, b, rfl, hr, fun H' e => ⟨rfl, e⟩⟩
  have e0 : Env0 X.prog X.w X.K X.mg X.base A X.stack s H := by
    have e := I.env0
    exact ⟨by rw [sb.fr]; exact e.frames, e.mod, e.bs, e.bsz, e.funs, e.frf, e.hok, e.bare⟩
  have hl := F.len _ _ _ _ hsp
  have r2 : Vals [V.ref a, V.ref c] [Value.ref a, Value.ref c] := .cons rfl (.cons rfl .nil)
  refine wpAny_call (codeAny_mono (F.run A X.stack s H ⟨[.ref a, .ref c], []⟩ [.ref a, .ref c] [.ref a, .ref c] _ E sb.room e0 (by
    have := hb s [.ref a, .ref c] I.kIn (by simpa using hl)
    simpa using this) r2 hsp) fun r s' hq => ?_)
  cases r with
  | error e => exact hx pins σ H s e s' I hq
  | ok fl =>
    cases fl with
    | ret w =>
      obtain ⟨z, H', I', rz, ez, ex⟩ := I.after hq
      subst ez
      cases rz
      exact ⟨by simp, H', I', ex⟩
    | next => exact False.elim hq
    | brk => exact False.elim hq
    | cont => exact False.elim hq
/-- within a builtin the same object is equal to itself: D must say so too -/
theorem RcB.eqB (h : RcB X n false D) (hr : ∀ x y H b, D x y H b → ∃ a c, x = .ref a ∧ y = .ref c) (hs : ∀ a H b, D (.ref a) (.ref a) H b → b = true) : EqB X n D := by
  intro A pins s σ H x y u v b sb I rx ry d
  obtain ⟨a, c, rfl, rfl⟩ := hr _ _ _ _ d
  cases rx
  cases ry
  by_cases hab : a = c
  · subst hab
    rw [hs _ _ _ d]
    exact SeqAt.EqAt.same (A := A) (s := s) (.ref a) X.prog X.w X.xe _ ⟨rfl, H, I, Ext.rfl'⟩
  · refine GQ.eqBool_refG hab (wpAny_mono (h A pins s σ H (.ref a) (.ref c) _ _ b sb I rfl rfl d) (fun r s' q => ?_) fun _ _ x => x)
    obtain ⟨hr', q⟩ := q
    exact ⟨b, by rw [hr']; simp, rfl, q⟩
/-- as an expression -/
def rCmpB (neg : Bool) (D : EqF) : R2 := fun x y H Q => ∃ b, D x y H b ∧ ∀ H', L2.Ext H H' → Q (.bl (b != neg)) H'
theorem op_eqB (h : RcB X n false D) (hr : Room n X.A) : OpR X (compareOp .Eq) (rCmpB false D) := by
  intro pins s σ H x y v u Q I rx ry hq
  obtain ⟨b, d, q⟩ := hq
  show wpAny (model X.prog X.w) X.A (richCompare .Eq v u) (EP X pins σ Q) X.xe s
  refine wpAny_mono (h X.A pins s σ H x y v u b ⟨hr, rfl⟩ I rx ry d) (fun r s' z => ?_) fun _ _ x => x
  obtain ⟨hr', H', I', e⟩ := z
  subst hr'
  exact ⟨.bl (b != false), H', I', rfl, q H' e⟩
theorem op_neB (h : RcB X n true D) (hr : Room n X.A) : OpR X (compareOp .NotEq) (rCmpB true D) := by
  intro pins s σ H x y v u Q I rx ry hq
  obtain ⟨b, d, q⟩ := hq
  show wpAny (model X.prog X.w) X.A (richCompare .NotEq v u) (EP X pins σ Q) X.xe s
  refine wpAny_mono (h X.A pins s σ H x y v u b ⟨hr, rfl⟩ I rx ry d) (fun r s' z => ?_) fun _ _ x => x
  obtain ⟨hr', H', I', e⟩ := z
  subst hr'
  exact ⟨.bl (b != true), H', I', rfl, q H' e⟩
end
end TPQ

namespace TP
open PySem PySem.Spec PyProof.Rows L2 TPQ
/-! ### == of things that hold instances -/
section
variable {X : Cx} {n m : Nat} {α β γ δ : Type} [DecidableEq α] [DecidableEq β] [DecidableEq γ] [DecidableEq δ] {τ : Ty α} {υ : Ty β} {φ : Ty γ} {ψ : Ty δ}
/-- the two are equal just when the things are -/
def FT (τ : Ty α) : EqF := fun x y H b => ∃ Z a c, Same Z H ∧ τ.r Z x a ∧ τ.r Z y c ∧ b = decide (a = c)
theorem mon_FT : MonF (FT τ) := fun _ _ _ _ _ e ⟨Z, a, c, s, r1, r2, h⟩ => ⟨Z, a, c, fun p o q => e _ _ (s p o q), r1, r2, h⟩
/-- a value stands for one thing only -/
def FnI (X : Cx) (τ : Ty α) : Prop := ∀ pins σ s Z H v x y, Inv X pins σ H s → Same Z H → τ.r Z v x → τ.r Z v y → x = y
theorem fn_int : FnI X yInt := fun _ _ _ _ _ _ _ _ _ _ h g => by cases h; cases g; rfl
theorem fn_bool : FnI X yBool := fun _ _ _ _ _ _ _ _ _ _ h g => by cases h; cases g; rfl
theorem fn_str : FnI X yStr := fun _ _ _ _ _ _ _ _ _ _ h g => by have := h.1.symm.trans g.1; cases this; rfl
theorem fn_non : FnI X yNon := fun _ _ _ _ _ _ _ _ _ _ _ _ => rfl
theorem fn_opt (F : FnI X τ) : FnI X (yOpt τ) := fun pins σ s Z H v x y I sz h g => by
  cases x with
  | none =>
    cases y with
    | none => rfl
    | some b => exact absurd (show v = .non from h) g.2
  | some a =>
    cases y with
    | none => exact absurd (show v = .non from g) h.2
    | some b => rw [F pins σ s Z H v a b I sz h.1 g.1]
theorem all_fn {R : V → α → Prop} (h : ∀ v x y, R v x → R v y → x = y) : ∀ {vs : List V} {xs ys : List α}, All R vs xs → All R vs ys → xs = ys
  | _, _, _, .nil, .nil => rfl
  | _, _, _, .cons a r, .cons b t => by rw [h _ _ _ a b, all_fn h r t]
theorem vals_inj : ∀ {us : List Value} {vs ws : List V}, Vals vs us → Vals ws us → vs = ws
  | _, _, _, .nil, .nil => rfl
  | _, _, _, .cons a r, .cons b t => by rw [RelV.inj a b, vals_inj r t]
theorem sqt_fn {pins : List (Addr × Obj)} {σ : L2.St} {s : Shared} {H : Hp} {a : Addr} {vs ws : List V} (I : Inv X pins σ H s) (h : SqT X.K H a vs) (g : SqT X.K H a ws) : vs = ws := by
  obtain ⟨its, r, e, _⟩ := I.tuple h
  obtain ⟨its2, r2, e2, _⟩ := I.tuple g
  obtain ⟨o, h1, _, n, d1⟩ := e
  obtain ⟨o2, h2, _, n2, d2⟩ := e2
  rw [h1] at h2
  cases Option.some.inj h2
  rw [d1] at d2
  have e3 : its.toArray = its2.toArray := by injection d2
  have e4 : its = its2 := by simpa using e3
  subst e4
  exact vals_inj r r2
theorem fn_list (F : FnI X τ) : FnI X (yList τ) := fun pins σ s Z H v x y I sz ⟨a, vs, e, h, t, _⟩ ⟨c, ws, e2, h2, t2, _⟩ => by
  cases e
  cases e2
  rw [h] at h2
  cases Option.some.inj h2
  exact all_fn (fun v x y => F pins σ s Z H v x y I sz) t t2
theorem fn_tup (F : FnI X τ) : FnI X (yTup X.K τ) := fun pins σ s Z H v x y I sz ⟨a, vs, e, h, t, _⟩ ⟨c, ws, e2, h2, t2, _⟩ => by
  cases e
  cases e2
  cases sqt_fn I (seqT_same sz h) (seqT_same sz h2)
  exact all_fn (fun v x y => F pins σ s Z H v x y I sz) t t2
theorem fn_p2 (F : FnI X τ) (G : FnI X υ) : FnI X (yP2 X.K τ υ) := fun pins σ s Z H v x y I sz ⟨a, v1, v2, e, h, h1, h2⟩ ⟨c, w1, w2, e2, g, g1, g2⟩ => by
  cases e
  cases e2
  cases sqt_fn I (seqT_same sz h) (seqT_same sz g)
  exact Prod.ext (F pins σ s Z H _ _ _ I sz h1 g1) (G pins σ s Z H _ _ _ I sz h2 g2)
theorem fn_p3 (F : FnI X τ) (G : FnI X υ) (K' : FnI X φ) : FnI X (yP3 X.K τ υ φ) := fun pins σ s Z H v x y I sz ⟨a, v1, v2, v3, e, h, h1, h2, h3⟩ ⟨c, w1, w2, w3, e2, g, g1, g2, g3⟩ => by
  cases e
  cases e2
  cases sqt_fn I (seqT_same sz h) (seqT_same sz g)
  exact Prod.ext (F pins σ s Z H _ _ _ I sz h1 g1) (Prod.ext (G pins σ s Z H _ _ _ I sz h2 g2) (K' pins σ s Z H _ _ _ I sz h3 g3))
theorem fn_p4 (F : FnI X τ) (G : FnI X υ) (K' : FnI X φ) (L : FnI X ψ) : FnI X (yP4 X.K τ υ φ ψ) := fun pins σ s Z H v x y I sz ⟨a, v1, v2, v3, v4, e, h, h1, h2, h3, h4⟩ ⟨c, w1, w2, w3, w4, e2, g, g1, g2, g3, g4⟩ => by
  cases e
  cases e2
  cases sqt_fn I (seqT_same sz h) (seqT_same sz g)
  exact Prod.ext (F pins σ s Z H _ _ _ I sz h1 g1) (Prod.ext (G pins σ s Z H _ _ _ I sz h2 g2) (Prod.ext (K' pins σ s Z H _ _ _ I sz h3 g3) (L pins σ s Z H _ _ _ I sz h4 g4)))
/-- within a builtin the same object is equal to itself -/
theorem eqT_of (F : FnI X τ) (hr : ∀ Z v x, τ.r Z v x → ∃ a, v = .ref a) (h : RcB X n false (FT τ)) : EqB X n (FT τ) := by
  intro A pins s σ H x y u v b sb I rx ry d
  obtain ⟨Z, a, c, sz, r1, r2, hb⟩ := id d
  obtain ⟨p, rfl⟩ := hr _ _ _ r1
  obtain ⟨q, rfl⟩ := hr _ _ _ r2
  cases rx
  cases ry
  by_cases hab : p = q
  · subst hab
    have e := F pins σ s Z H _ a c I sz r1 r2
    rw [hb, decide_eq_true e]
    exact SeqAt.EqAt.same (A := A) (s := s) (.ref p) X.prog X.w X.xe _ ⟨rfl, H, I, Ext.rfl'⟩
  · refine GQ.eqBool_refG hab (wpAny_mono (h A pins s σ H (.ref p) (.ref q) _ _ b sb I rfl rfl d) (fun r s' z => ?_) fun _ _ x => x)
    obtain ⟨hr', z⟩ := z
    exact ⟨b, by rw [hr']; simp, rfl, z⟩
theorem eqT_data {d : α → PyData} {k : Nat} (E : EqD X.K τ d k) (hk : k ≤ 60) : EqB X 0 (FT τ) := by
  intro A pins s σ H x y u v b sb I rx ry ⟨Z, a, c, sz, r1, r2, hb⟩
  obtain ⟨as, w1⟩ := Dp.reads I (d a) x u (E.dp _ _ _ _ sz r1) rx
  obtain ⟨bs, w2⟩ := Dp.reads I (d c) y v (E.dp _ _ _ _ sz r2) ry
  have h1 := E.dep a
  have hu := sb.room.un
  have q := SeqAt.eqAt_reads (d a) (d c) A s u v as bs w1 w2 (E.lay _ _ _ r1) (E.lay _ _ _ r2) (by omega)
  have e : PyData.eqv (d a) (d c) = b := by
    rw [hb]
    exact Bool.eq_iff_iff.mpr ((E.eqv a c).trans decide_eq_true_iff.symm)
  rw [e] at q
  exact q X.prog X.w X.xe _ ⟨rfl, H, I, Ext.rfl'⟩
/-- two lists of things, pair by pair -/
theorem prB {Z H : Hp} (sz : Same Z H) : ∀ {vs ws : List V} {xs ys : List α}, All (τ.r Z) vs xs → All (τ.r Z) ws ys → ∃ bs, PrB (FT τ) vs ws H bs ∧ decide (xs = ys) = (bs.all id && decide (vs.length = ws.length))
  | _, _, _, _, .nil, .nil => ⟨[], .nil (.inl rfl), by simp⟩
  | _, _, _, _, .nil, .cons _ _ => ⟨[], .nil (.inl rfl), by simp⟩
  | _, _, _, _, .cons _ _, .nil => ⟨[], .nil (.inr rfl), by simp⟩
  | v :: vs, w :: ws, x :: xs, y :: ys, .cons a r, .cons b t => by
    obtain ⟨bs, p, e⟩ := prB sz r t
    refine ⟨decide (x = y) :: bs, .cons ⟨Z, x, y, sz, a, b, rfl⟩ p, ?_⟩
    rw [List.all_cons, Bool.and_assoc]
    have e2 : decide (x :: xs = y :: ys) = (decide (x = y) && decide (xs = ys)) := by simp
    rw [e2, e]
    simp
theorem rcT_tup (neg : Bool) (E : EqB X n (FT τ)) : RcB X (n + 1) neg (FT (yTup X.K τ)) :=
  (rcB_tup neg mon_FT E).imp fun x y H b ⟨Z, xs, ys, sz, ⟨a, vs, e, h, t, _⟩, ⟨c, ws, e2, h2, t2, _⟩, hb⟩ => by
    obtain ⟨bs, p, q⟩ := prB sz t t2
    exact ⟨a, c, vs, ws, bs, e, e2, seqT_same sz h, seqT_same sz h2, p, hb.trans q⟩
theorem rcT_list (neg : Bool) (E : EqB X n (FT τ)) : RcB X (n + 1) neg (FT (yList τ)) :=
  (rcB_list neg mon_FT E).imp fun x y H b ⟨Z, xs, ys, sz, ⟨a, vs, e, h, t, _⟩, ⟨c, ws, e2, h2, t2, _⟩, hb⟩ => by
    obtain ⟨bs, p, q⟩ := prB sz t t2
    exact ⟨a, c, vs, ws, bs, e, e2, sz _ _ h, sz _ _ h2, p, hb.trans q⟩
/-- lists of one's own too -/
def FL (τ : Ty α) : EqF := fun x y H b => ∃ Z xs ys p q vs ws, Same Z H ∧ x = .ref p ∧ y = .ref q ∧ H p = some (.lst vs) ∧ H q = some (.lst ws) ∧ All (τ.r Z) vs xs ∧ All (τ.r Z) ws ys ∧ b = decide (xs = ys)
theorem rcT_own (neg : Bool) (E : EqB X n (FT τ)) : RcB X (n + 1) neg (FL τ) :=
  (rcB_list neg mon_FT E).imp fun x y H b ⟨Z, xs, ys, a, c, vs, ws, sz, e, e2, h, h2, t, t2, hb⟩ => by
    obtain ⟨bs, p, q⟩ := prB sz t t2
    exact ⟨a, c, vs, ws, bs, e, e2, h, h2, p, hb.trans q⟩
theorem eqT_tup (F : FnI X τ) (E : EqB X n (FT τ)) : EqB X (n + 1) (FT (yTup X.K τ)) := eqT_of (fn_tup F) (fun _ _ _ ⟨a, _, e, _⟩ => ⟨a, e⟩) (rcT_tup false E)
theorem eqT_list (F : FnI X τ) (E : EqB X n (FT τ)) : EqB X (n + 1) (FT (yList τ)) := eqT_of (fn_list F) (fun _ _ _ ⟨a, _, e, _⟩ => ⟨a, e⟩) (rcT_list false E)
def Or2 (D D' : EqF) : EqF := fun x y H b => D x y H b ∨ D' x y H b
theorem mon_or {D D' : EqF} (h : MonF D) (g : MonF D') : MonF (Or2 D D') := fun _ _ _ _ _ e d => d.imp (h _ _ _ _ _ e) (g _ _ _ _ _ e)
theorem eqB_or {D D' : EqF} (h : EqB X n D) (g : EqB X m D') : EqB X (max n m) (Or2 D D') := fun A pins s σ H x y u v b sb I rx ry d => by
  rcases d with d | d
  · exact h A pins s σ H x y u v b (sb.mono (Nat.le_max_left _ _)) I rx ry d
  · exact g A pins s σ H x y u v b (sb.mono (Nat.le_max_right _ _)) I rx ry d
theorem rcT_p2 (neg : Bool) (E : EqB X n (FT τ)) (F : EqB X m (FT υ)) : RcB X (max n m + 1) neg (FT (yP2 X.K τ υ)) :=
  (rcB_tup neg (mon_or mon_FT mon_FT) (eqB_or E F)).imp fun x y H b ⟨Z, x1, y1, sz, ⟨a, v1, v2, e, h, h1, h2⟩, ⟨c, w1, w2, e2, g, g1, g2⟩, hb⟩ =>
    ⟨a, c, _, _, [decide (x1.1 = y1.1), decide (x1.2 = y1.2)], e, e2, seqT_same sz h, seqT_same sz g, .cons (.inl ⟨Z, _, _, sz, h1, g1, rfl⟩) (.cons (.inr ⟨Z, _, _, sz, h2, g2, rfl⟩) (.nil (.inl rfl))), by rw [hb]; simp [Prod.ext_iff]⟩
theorem rcT_p3 {k : Nat} (neg : Bool) (E : EqB X n (FT τ)) (F : EqB X m (FT υ)) (G : EqB X k (FT φ)) : RcB X (max n (max m k) + 1) neg (FT (yP3 X.K τ υ φ)) :=
  (rcB_tup neg (mon_or mon_FT (mon_or mon_FT mon_FT)) (eqB_or E (eqB_or F G))).imp fun x y H b ⟨Z, x1, y1, sz, ⟨a, v1, v2, v3, e, h, h1, h2, h3⟩, ⟨c, w1, w2, w3, e2, g, g1, g2, g3⟩, hb⟩ =>
    ⟨a, c, _, _, [decide (x1.1 = y1.1), decide (x1.2.1 = y1.2.1), decide (x1.2.2 = y1.2.2)], e, e2, seqT_same sz h, seqT_same sz g, .cons (.inl ⟨Z, _, _, sz, h1, g1, rfl⟩) (.cons (.inr (.inl ⟨Z, _, _, sz, h2, g2, rfl⟩)) (.cons (.inr (.inr ⟨Z, _, _, sz, h3, g3, rfl⟩)) (.nil (.inl rfl)))), by rw [hb]; simp [Prod.ext_iff]⟩
theorem rcT_p4 {k l : Nat} (neg : Bool) (E : EqB X n (FT τ)) (F : EqB X m (FT υ)) (G : EqB X k (FT φ)) (L : EqB X l (FT ψ)) : RcB X (max n (max m (max k l)) + 1) neg (FT (yP4 X.K τ υ φ ψ)) :=
  (rcB_tup neg (mon_or mon_FT (mon_or mon_FT (mon_or mon_FT mon_FT))) (eqB_or E (eqB_or F (eqB_or G L)))).imp fun x y H b ⟨Z, x1, y1, sz, ⟨a, v1, v2, v3, v4, e, h, h1, h2, h3, h4⟩, ⟨c, w1, w2, w3, w4, e2, g, g1, g2, g3, g4⟩, hb⟩ =>
    ⟨a, c, _, _, [decide (x1.1 = y1.1), decide (x1.2.1 = y1.2.1), decide (x1.2.2.1 = y1.2.2.1), decide (x1.2.2.2 = y1.2.2.2)], e, e2, seqT_same sz h, seqT_same sz g, .cons (.inl ⟨Z, _, _, sz, h1, g1, rfl⟩) (.cons (.inr (.inl ⟨Z, _, _, sz, h2, g2, rfl⟩)) (.cons (.inr (.inr (.inl ⟨Z, _, _, sz, h3, g3, rfl⟩))) (.cons (.inr (.inr (.inr ⟨Z, _, _, sz, h4, g4, rfl⟩))) (.nil (.inl rfl))))), by rw [hb]; simp [Prod.ext_iff]⟩
theorem eqT_p2 (f : FnI X τ) (g : FnI X υ) (E : EqB X n (FT τ)) (F : EqB X m (FT υ)) : EqB X (max n m + 1) (FT (yP2 X.K τ υ)) := eqT_of (fn_p2 f g) (fun _ _ _ ⟨a, _, _, e, _⟩ => ⟨a, e⟩) (rcT_p2 false E F)
theorem eqT_p3 {k : Nat} (f : FnI X τ) (g : FnI X υ) (i : FnI X φ) (E : EqB X n (FT τ)) (F : EqB X m (FT υ)) (G : EqB X k (FT φ)) : EqB X (max n (max m k) + 1) (FT (yP3 X.K τ υ φ)) := eqT_of (fn_p3 f g i) (fun _ _ _ ⟨a, _, _, _, e, _⟩ => ⟨a, e⟩) (rcT_p3 false E F G)
theorem eqT_p4 {k l : Nat} (f : FnI X τ) (g : FnI X υ) (i : FnI X φ) (j : FnI X ψ) (E : EqB X n (FT τ)) (F : EqB X m (FT υ)) (G : EqB X k (FT φ)) (L : EqB X l (FT ψ)) : EqB X (max n (max m (max k l)) + 1) (FT (yP4 X.K τ υ φ ψ)) := eqT_of (fn_p4 f g i j) (fun _ _ _ ⟨a, _, _, _, _, e, _⟩ => ⟨a, e⟩) (rcT_p4 false E F G L)
/-- instances: by the text's own == -/
def FTr (τ : Ty α) : Addr → Addr → Hp → Bool → Prop := fun a c H b => FT τ (.ref a) (.ref c) H b
theorem rcT_obj {C f : Addr} {CX : CXT} {fd : FuncData} {ps : List Str} {sp : Sp} {E : XK} (ho : ∀ Z v x, τ.r Z v x → ∃ a dx fs, v = .ref a ∧ Z a = some (.ins C dx fs)) (F : FnOk X.prog X.w X.K X.mg X.base CX n f fd ps sp) (hsp : ∀ vs H Q E, spEqB (FTr τ) vs H Q E → sp vs H Q E)
    (M : Meth X.K C "__eq__" f) (hb : Binds X.K fd ps []) (hx : Passes CX X E) : RcB X n false (FT τ) :=
  (rcB_ins (R := FTr τ) (F.imp hsp) M.at_ M.fn hb hx).imp fun x y H b ⟨Z, a, c, sz, r1, r2, hb⟩ => by
    obtain ⟨p, dx, fs, e, h⟩ := ho _ _ _ r1
    obtain ⟨q, dy, gs, e2, h2⟩ := ho _ _ _ r2
    exact ⟨p, q, dx, dy, fs, gs, e, e2, sz _ _ h, sz _ _ h2, Z, a, c, sz, by rw [← e]; exact r1, by rw [← e2]; exact r2, hb⟩
end
section
variable {μ : Type} {M : Mu μ} {σ : L2.St} {Z H : Hp} {s s1 s2 : μ} {ta tb : TE} {K : PySem.W.Frag} {α : Type} [DecidableEq α] {τ : Ty α} {x y : α} {xs ys : List α} {neg : Bool}
theorem bneT {b : Bool} : (b != true) = !b := by cases b <;> rfl
theorem bneF {b : Bool} : (b != false) = b := by cases b <;> rfl
theorem step_ext {Z H H' : Hp} (sz : Same Z H) (e : L2.Ext H H') : Step [] Z H Z H' := ⟨Same.refl _, fun a o h => e _ _ (sz a o h), fun a o _ h => e _ _ h, fun _ _ h => h, fun a h q => by
  cases e1 : H a with
  | none => exact h e1
  | some o => rw [e _ _ e1] at q; cases q⟩
theorem ev_cmpO (ha : Ev M ta σ Z H s (ty τ x) s1) (hb : Ev M tb σ Z H s1 (ty τ y) s2) : Ev M (tOp (rCmpB neg (FT τ)) ta tb) σ Z H s (ty yBool (decide (x = y) != neg)) s2 :=
  ev_op ha hb fun Z H v w sz e1 e2 _ q => ⟨_, ⟨Z, x, y, sz, e1, e2, rfl⟩, fun H' e => q _ Z H' (step_ext sz e) rfl⟩
theorem ev_cmpL (ha : Ev M ta σ Z H s (li τ xs) s1) (hb : Ev M tb σ Z H s1 (li τ ys) s2) : Ev M (tOp (rCmpB neg (FL τ)) ta tb) σ Z H s (ty yBool (decide (xs = ys) != neg)) s2 :=
  ev_op ha hb fun Z H v w sz e1 e2 _ q => by
    obtain ⟨p, vs, rfl, g, t, _⟩ := rdl sz e1
    obtain ⟨p2, ws, rfl, g2, t2, _⟩ := rdl sz e2
    exact ⟨_, ⟨Z, xs, ys, p, p2, vs, ws, sz, rfl, rfl, g, g2, t, t2, rfl⟩, fun H' e => q _ Z H' (step_ext sz e) rfl⟩
end
end TP

/-! len(set(xs)) of numbers -/
namespace TSN
open PySem PySem.Spec PyProof.Rows L2
theorem fold_first (f : List Int → Int → List Int) : ∀ ns : List Int, ((List.range ns.length).map fun i => ns.getD i 0) = ns
  | [] => rfl
  | n :: r => by
    rw [List.length_cons, List.range_succ_eq_map, List.map_cons, List.map_map]
    congr 1
    exact fold_first f r
/-- len(set(xs)), xs a list of numbers -/
def tLenSetI (K : PySem.W.Frag) (ta : TE) : TE := fun σ H Q => ta σ H fun x H1 => ∃ l, ∃ ns : List Int, x = .ref l ∧ SqL K H1 l (ns.map V.int) ∧ ns.length ≤ 1000 ∧ Q (.int (ns.foldl step_dedup []).length) H1
theorem pe_lenSetI {X : Cx} {a : Expr} {ta : TE} {p p2 q pos : Pos} (hc : X.calm = true) (hg : Gl X "len") (hm : X.mg "len" = none) (hg2 : Gl X "set") (hm2 : X.mg "set" = none) (ha : PE X a ta)
    (na : starEach [a] X.env = (false, eval a X.env) :: starEach [] X.env := by rfl) : PE X (.Call (.Name "len" p) [.Call (.Name "set" p2) [a] [] q] [] pos) (tLenSetI X.K ta) := by
  refine ⟨fun pins s σ H Q I g => Call_ (ld_blt I hg hm boot_len (PyProof.Rows.callWith_builtin1 (PyProof.Rows.args_cons ?_ rfl) rfl rfl))⟩
  refine Call_ (ld_blt I hg2 hm2 boot_set (PyProof.Rows.callWith_type1 (PyProof.Rows.args_cons (thn (ha.run pins s σ H _ I g) fun v s1 ⟨x, H1, I1, r1, q1⟩ => PyProof.Rows.args_nil ?_) na) na rfl))
  obtain ⟨l, xs, rfl, gl, few, q1⟩ := q1
  cases r1
  obtain ⟨its, r, pl, _⟩ := I1.list gl
  have hl : its.length = xs.length := by have := r.length; rw [List.length_map] at this; exact this.symm
  refine PySem.call_set_list (ns := xs) (I1.ok.hd hc) pl.isList (by simpa using L2.intsAre_of r) (by rw [List.size_toArray, hl]; unfold scanBound; omega) fun h2 tk held more => PyProof.Rows.args_nil ?_
  have e : PyProof.Rows.firstMet (fun i => xs.getD i 0) its.toArray.size = xs.foldl step_dedup [] := by
    unfold firstMet
    rw [List.size_toArray, hl, fold_first step_dedup]
  rw [e] at held
  obtain ⟨ob, es, ep, tb, g1, g2, g3, _, _, _, g4, g5⟩ := held
  have I2 : Inv X pins σ H1 { s1 with heap := h2, toks := tk } := I1.kept fun b o e => more b o (Heap.lt_size e) e
  have small : (xs.foldl step_dedup []).length ≤ xs.length := by rw [← e]; have := firstMet_length_le (fun i => xs.getD i 0) its.toArray.size; rw [List.size_toArray, hl] at this; rw [List.size_toArray, hl]; exact this
  exact call_len_set g1 g2 g3 g4 (by rw [g5]; omega) ⟨.int (xs.foldl step_dedup []).length, H1, I2.tok _, ⟨_, by rw [g5]⟩, q1⟩
end TSN
namespace TP
open PySem PySem.Spec PyProof.Rows L2
/-- the different ones, in their first order -/
def addZ {α : Type} [DecidableEq α] (l : List α) (v : α) : List α := if v ∈ l then l else l ++ [v]
def uZ {α : Type} [DecidableEq α] (xs : List α) : List α := xs.foldl addZ []
section
variable {α : Type} [DecidableEq α]
theorem uZ_fold : ∀ (xs acc : List α), (xs.foldl addZ acc).length ≤ acc.length + xs.length ∧ ((xs.foldl addZ acc).length = acc.length + xs.length ↔ (∀ x ∈ xs, x ∉ acc) ∧ xs.Nodup)
  | [], acc => ⟨Nat.le_refl _, fun _ => ⟨fun x h => (nomatch h), List.nodup_nil⟩, fun _ => rfl⟩
  | x :: r, acc => by
    have ih := uZ_fold r (addZ acc x)
    show (r.foldl addZ (addZ acc x)).length ≤ _ ∧ ((r.foldl addZ (addZ acc x)).length = _ ↔ _)
    rw [List.length_cons]
    by_cases g : x ∈ acc
    · have e : addZ acc x = acc := if_pos g
      rw [e] at ih ⊢
      exact ⟨by omega, fun h => by omega, fun h => absurd g (h.1 x (List.mem_cons_self ..))⟩
    · have e : addZ acc x = acc ++ [x] := if_neg g
      rw [e] at ih ⊢
      rw [List.length_append, List.length_singleton] at ih
      refine ⟨by omega, fun h => ?_, fun h => ?_⟩
      · obtain ⟨a, b⟩ := ih.2.mp (by omega)
        refine ⟨fun y hy => ?_, List.nodup_cons.mpr ⟨fun hx => a x hx (List.mem_append_right _ (List.mem_singleton.mpr rfl)), b⟩⟩
        rcases List.mem_cons.mp hy with z | z
        · rw [z]; exact g
        · exact fun w => a y z (List.mem_append_left _ w)
      · have b := List.nodup_cons.mp h.2
        have := ih.2.mpr ⟨fun y hy w => ?_, b.2⟩
        · omega
        · rcases List.mem_append.mp w with z | z
          · exact h.1 y (List.mem_cons_of_mem _ hy) z
          · rw [List.mem_singleton.mp z] at hy
            exact b.1 hy
theorem uZ_le (xs : List α) : (uZ xs).length ≤ xs.length := by
  have := (uZ_fold xs []).1
  rw [List.length_nil, Nat.zero_add] at this
  exact this
theorem uZ_nodup (xs : List α) : (uZ xs).length = xs.length ↔ xs.Nodup := by
  have := (uZ_fold xs []).2
  unfold uZ
  simp only [List.length_nil, Nat.zero_add] at this
  rw [this]
  exact ⟨fun h => h.2, fun h => ⟨fun x _ z => (nomatch z), h⟩⟩
end
theorem fold_ext {α β : Type} {f g : β → α → β} (h : ∀ b a, f b a = g b a) : ∀ (xs : List α) (b : β), xs.foldl f b = xs.foldl g b
  | [], _ => rfl
  | x :: r, b => by
    show r.foldl f (f b x) = r.foldl g (g b x)
    rw [h, fold_ext h r]
theorem any_mem {α : Type} [DecidableEq α] [BEq α] [LawfulBEq α] (l : List α) (v : α) : (l.any (· == v)) = decide (v ∈ l) := by
  apply Bool.eq_iff_iff.mpr
  rw [List.any_eq_true, decide_eq_true_iff]
  exact ⟨fun ⟨y, h, e⟩ => by rw [← eq_of_beq e]; exact h, fun h => ⟨v, h, beq_self_eq_true v⟩⟩
theorem uZ_int (ns : List Int) : ns.foldl step_dedup [] = uZ ns := fold_ext (fun l v => by
  unfold step_dedup addZ
  rw [any_mem]
  by_cases h : v ∈ l
  · rw [if_pos (decide_eq_true h), if_pos h]
  · rw [if_neg (fun z => h (of_decide_eq_true z)), if_neg h]) ns []
section
variable {μ : Type} {M : Mu μ} {σ : L2.St} {Z H : Hp} {s s1 : μ} {ta : TE} {K : PySem.W.Frag}
theorem ev_lenSetI {xs : List Int} (ha : Ev M ta σ Z H s (li yInt xs) s1) (l : xs.length ≤ 1000) : Ev M (TSN.tLenSetI K ta) σ Z H s (ty yInt ((uZ xs).length : Nat)) s1 :=
  fun Z1 H1 a b c d Q q => ha Z1 H1 a b c d _ fun v Z2 H2 e m rv => by
    obtain ⟨p, vs, rfl, g, t, _⟩ := rdl e.s rv
    rw [t.ints] at g
    exact ⟨p, xs, rfl, SqL.of g, l, q _ Z2 H2 e m (by rw [uZ_int]; rfl)⟩
end
end TP

/-! len(set(xs)): of texts, of numbers -/
namespace TSN
open PySem PySem.Spec PyProof.Rows L2

def addS (l : List Str) (v : Str) : List Str := if l.any (· == v) then l else l ++ [v]
def uS (xs : List Str) : List Str := xs.foldl addS []
theorem addS_any (l : List Str) (v k : Str) : (addS l v).any (· == k) = (l.any (· == k) || decide (k = v)) := by
  unfold addS
  by_cases g : l.any (· == v) = true
  · rw [if_pos g]
    by_cases e : k = v
    · subst e
      rw [g]
      rfl
    · rw [decide_eq_false e, Bool.or_false]
  · rw [if_neg g, List.any_append]
    congr 1
    by_cases e : k = v
    · subst e
      simp
    · rw [decide_eq_false e]
      simpa using fun z : v = k => e z.symm
theorem addS_len (l : List Str) (v : Str) : (addS l v).length = if l.any (· == v) then l.length else l.length + 1 := by
  unfold addS
  by_cases g : l.any (· == v) = true
  · rw [if_pos g, if_pos g]
  · rw [if_neg g, if_neg g, List.length_append]
    rfl
theorem uS_succ {xs : List Str} {i : Nat} {v : Str} (h : xs[i]? = some v) : uS (xs.take (i + 1)) = addS (uS (xs.take i)) v := by
  unfold uS
  rw [List.take_add_one, h, List.foldl_append]
  rfl
theorem uS_fold : ∀ (xs acc : List Str), (xs.foldl addS acc).length ≤ acc.length + xs.length ∧ ((xs.foldl addS acc).length = acc.length + xs.length ↔ (∀ x ∈ xs, x ∉ acc) ∧ xs.Nodup)
  | [], acc => ⟨Nat.le_refl _, fun _ => ⟨fun x h => (nomatch h), List.nodup_nil⟩, fun _ => rfl⟩
  | x :: r, acc => by
    have ih := uS_fold r (addS acc x)
    show (r.foldl addS (addS acc x)).length ≤ _ ∧ ((r.foldl addS (addS acc x)).length = _ ↔ _)
    rw [List.length_cons]
    by_cases g : x ∈ acc
    · have e : addS acc x = acc := by
        unfold addS
        have z : (acc.any (· == x)) = true := List.any_eq_true.mpr ⟨x, g, beq_self_eq_true x⟩
        rw [if_pos z]
      rw [e] at ih ⊢
      refine ⟨by omega, fun h => by omega, fun h => absurd g (h.1 x (List.mem_cons_self ..))⟩
    · have e : addS acc x = acc ++ [x] := by
        unfold addS
        rw [if_neg]
        intro h
        obtain ⟨y, h1, h2⟩ := List.any_eq_true.mp h
        rw [eq_of_beq h2] at h1
        exact g h1
      rw [e] at ih ⊢
      rw [List.length_append, List.length_singleton] at ih
      refine ⟨by omega, fun h => ?_, fun h => ?_⟩
      · obtain ⟨a, b⟩ := ih.2.mp (by omega)
        refine ⟨fun y hy => ?_, List.nodup_cons.mpr ⟨fun hx => a x hx (List.mem_append_right _ (List.mem_singleton.mpr rfl)), b⟩⟩
        rcases List.mem_cons.mp hy with z | z
        · rw [z]; exact g
        · exact fun w => a y z (List.mem_append_left _ w)
      · have b := List.nodup_cons.mp h.2
        have := ih.2.mpr ⟨fun y hy w => ?_, b.2⟩
        · omega
        · rcases List.mem_append.mp w with z | z
          · exact h.1 y (List.mem_cons_of_mem _ hy) z
          · rw [List.mem_singleton.mp z] at hy
            exact b.1 hy
theorem uS_le (xs : List Str) : (uS xs).length ≤ xs.length := by
  have := (uS_fold xs []).1
  rw [List.length_nil, Nat.zero_add] at this
  exact this
theorem uS_nodup (xs : List Str) : (uS xs).length = xs.length ↔ xs.Nodup := by
  have := (uS_fold xs []).2
  unfold uS
  simp only [List.length_nil, Nat.zero_add] at this
  rw [this]
  exact ⟨fun h => h.2, fun h => ⟨fun x _ z => (nomatch z), h⟩⟩
section
variable {prog : Program} {w : World} {A : Around} {E : Value → Shared → Prop} {s : Shared}
/-- the set's own loop: the items enter one by one -/
theorem enter_texts {R : Result → Shared → Prop} {it : Addr} {own wr : List Addr} {G : Array GenState → Array GenState → Prop} {m : Nat} {P : Nat → Value → Prop} {St : Nat → Shared → Prop} (W : WalksS prog w A.in1 it own wr G m P St) (Z : Addr) (zo : Z ∉ own)
    (xs : List Str) (lx : xs.length = m) (room : m + 1 < scanBound) (isT : ∀ j v, P j v → ∃ t, v = .str (xs.getD j Str.empty) t) (left j : Nat) (t : Shared) (hj : m - j = left) (jm : j ≤ m) (at_ : St j t)
    (held : t.heap.SetOf (PySem.strKind prog w) Z (fun c => (uS (xs.take j)).any (· == c)) (uS (xs.take j)).length)
    (fin : ∀ u, Moved (Z :: wr) G t u → u.heap.SetOf (PySem.strKind prog w) Z (fun c => (uS (xs.take m)).any (· == c)) (uS (xs.take m)).length → R (.ok (.ret .none)) u) :
    codeAny (model prog w) A (.builtin "set.update.loop" ⟨[.ref Z, .ref it], []⟩) R t := by
  have zw : Z ∉ wr := fun b => zo (W.sub _ b)
  have inw : ∀ b ∈ wr, b ∈ Z :: wr := fun b g => List.mem_cons_of_mem _ g
  induction left generalizing j t with
  | zero =>
    obtain rfl : j = m := by omega
    refine codeAny_builtin (PyProof.Rows.F.entry_set_update_loop) ?_
    rw [Around.under_plainId (PyProof.Rows.F.plain_set_update_loop) _]
    show wpAny _ A.in1 (pyNext (.ref it) >>= _) _ _ t
    refine wpAny_bind (W.done t _ _ at_ fun u mv => ?_)
    show wpAny _ A.in1 (ret Value.none) _ _ u
    refine wpAny_pure (fin u (mv.mono inw) ?_)
    obtain ⟨ob, es, ep, tb, g, more⟩ := held
    exact ⟨ob, es, ep, tb, mv.heap Z _ zw g, more⟩
  | succ left ih =>
    have lt : j < m := by omega
    refine codeAny_builtin (PyProof.Rows.F.entry_set_update_loop) ?_
    rw [Around.under_plainId (PyProof.Rows.F.plain_set_update_loop) _]
    show wpAny _ A.in1 (pyNext (.ref it) >>= _) _ _ t
    refine wpAny_bind (W.item j t _ _ lt at_ fun v u pv at2 mv => ?_)
    obtain ⟨tk, rfl⟩ := isT j v pv
    have held2 : u.heap.SetOf (PySem.strKind prog w) Z (fun c => (uS (xs.take j)).any (· == c)) (uS (xs.take j)).length := by
      obtain ⟨ob, es, ep, tb, g, more⟩ := held
      exact ⟨ob, es, ep, tb, mv.heap Z _ zw g, more⟩
    show wpAny _ A.in1 (holding [Value.str (xs.getD j Str.empty) tk] (setAdd Z (.str (xs.getD j Str.empty) tk)) >>= _) _ _ u
    refine wpAny_bind (wpAny_holding ?_)
    unfold setAdd
    refine wpAny_holding (wpAny_bind ((PySem.strKind prog w).pyHash (k := xs.getD j Str.empty) (strKind_is _ _ _ _) ?_))
    have few : (uS (xs.take j)).length + 1 < scanBound := by
      have a := uS_le (xs.take j)
      have b : (xs.take j).length ≤ m := by rw [List.length_take]; omega
      omega
    refine wpAny_setAddHashed_of (knd := PySem.strKind prog w) (s := { u with toks := u.toks + 1 }) (strKind_is _ _ _ _) rfl held2 few fun h2 but held3 => ?_
    have gx : xs[j]? = some (xs.getD j Str.empty) := by
      rw [List.getD_eq_getElem?_getD, List.getElem?_eq_getElem (by omega)]
      rfl
    have held4 : h2.SetOf (PySem.strKind prog w) Z (fun c => (uS (xs.take (j + 1))).any (· == c)) (uS (xs.take (j + 1))).length := by
      rw [uS_succ gx]
      exact PyProof.Rows.SetOf_congr held3 (fun c => (addS_any _ _ c).symm) (addS_len _ _).symm
    refine wpAny_pure ⟨plainId_quiet (PyProof.Rows.F.plain_set_update_loop) _, ih (j + 1) _ (by omega) lt (W.frame _ u _ _ at2 (Nat.le_succ _) fun b g ob e => ?_) held4 fun u2 mv2 held5 => ?_⟩
    · rw [but.2 b (fun y : b = Z => zo (by rw [← y]; exact g))]
      exact e
    · refine fin u2 (Moved.trans W.gtrans ((mv.mono inw).then_heap (Nat.le_succ _) fun b ob g e => ?_) mv2) held5
      rw [but.2 b (fun y : b = Z => g (by rw [y]; exact List.mem_cons_self))]
      exact e
set_option maxHeartbeats 6400000 in
theorem made_of_texts {l : Addr} {its : Array Value} {xs : List Str} {Q : Value → Shared → Prop} (calm : A.handled = none) (gl : s.heap.IsList l its) (are : PyProof.Rows.StrsAre its.toList xs) (room : xs.length + 1 < scanBound)
    (q : ∀ (h2 : Heap) (tk : Nat), h2.SetOf (PySem.strKind prog w) s.heap.objs.size (fun c => (uS xs).any (· == c)) (uS xs).length → (∀ b ob, b < s.heap.objs.size → s.heap.get? b = some ob → h2.get? b = some ob) → Q (.ref s.heap.objs.size) { s with heap := h2, toks := tk }) :
    wpAny (model prog w) A (call (.type "set") [.ref l]) Q E s := by
  have k1 := PySem.F.called_set.made
  have k2 := PySem.F.called_set.sub
  obtain ⟨cc, tl, k3⟩ := PySem.F.called_set.mro
  refine wpAny_call (codeAny_of_tree ?_)
  show wpAny _ _ (callAny (.type "set") _) _ _ _
  refine wpAny_pure ⟨Code.quiet_builtin _ (by decide +kernel), codeAny_builtin (PySem.F.entry_type_call) ?_⟩
  rw [Around.under_plain (weight_type_call_type "set" [.ref l] []) (rfl)]
  have k4 := PySem.F.called_set.notType
  have k5 := PySem.F.called_set.canCreate
  have k6 := PySem.F.typeCall_set_1 (.ref l)
  repeat (any_goals (first | assumption | (wp_step)))
  refine codeAny_mono (code_set_new_1 (.ref l) (E := E) (Q₁ := fun o u => ∃ b : Bool, o = .ref s.heap.objs.size ∧ u = { s with heap := s.heap.push { cls := .type "set", dict := none, data := .set #[] 0 (.fresh 0 0 b) } }) fun b => ⟨b, rfl, rfl⟩) fun r u ru => ?_
  cases r with
  | error e => exact ru
  | ok f1 =>
    cases f1 with
    | ret o =>
      obtain ⟨b, rfl, rfl⟩ := ru
      have gS : (s.heap.push { cls := .type "set", dict := none, data := .set #[] 0 (.fresh 0 0 b) }).get? s.heap.objs.size = some { cls := .type "set", dict := none, data := .set #[] 0 (.fresh 0 0 b) } := Heap.get?_push_size _ (rfl)
      have tS : Shared.TypeIs { s with heap := s.heap.push { cls := .type "set", dict := none, data := .set #[] 0 (.fresh 0 0 b) } } (.ref s.heap.objs.size) "set" := ⟨_, gS, (rfl)⟩
      have k7 := PySem.F.called_set.init.lookup
      have k8 := PySem.F.called_set.init.bind (.ref s.heap.objs.size)
      repeat (any_goals (first | assumption | (wp_step)))
      refine codeAny_mono (codeAny_call_builtin (R := wants (fun o u => o = .none ∧ ∃ h2 tk, u = { s with heap := h2, toks := tk } ∧ h2.SetOf (PySem.strKind prog w) s.heap.objs.size (fun c => (uS xs).any (· == c)) (uS xs).length ∧
          (∀ a ob, a < s.heap.objs.size → s.heap.get? a = some ob → h2.get? a = some ob)) E) (PySem.F.called_set.init.plain) (PySem.F.entry_set_init) (check_set_init_1 tS ?_)) fun r2 u2 ru2 => ?_
      · obtain ⟨⟨c1, d1, e1, f1⟩, ol, ec, nl, ed⟩ := gl
        simp only at ec ed
        subst ec ed
        have ol2 : (s.heap.push { cls := .type "set", dict := none, data := .set #[] 0 (.fresh 0 0 b) }).get? l = some ⟨.type "list", d1, .seq its nl, f1⟩ := Heap.get?_push_of_some _ (ol)
        have k9 := PySem.F.sub_list_set
        have ka := PySem.F.sub_list_frozenset
        have kb : (Value.type "list" == Value.type "dict") = false := by (decide)
        have il : (s.heap.push { cls := .type "set", dict := none, data := .set #[] 0 (.fresh 0 0 b) }).IsList l its := ⟨_, ol2, rfl, nl, (rfl)⟩
        unfold Builtin.«set.__init__» Builtin.Frozenset.updateFrom noKeywords
        generalize ePI : pyIter = PI
        wp_walk
        subst ePI
        refine wpAny_pyIter_list il (wpAny_bind (wpAny_runValue ?_))
        have ll : l < s.heap.objs.size := Heap.lt_size ol
        have calm3 : A.in1.in1.in1.handled = none := by (simp [calm])
        have ne1 : l ≠ (s.heap.push { cls := .type "set", dict := none, data := .set #[] 0 (.fresh 0 0 b) }).objs.size := by
          rw [Heap.size_push]
          exact Nat.ne_of_lt (Nat.lt_succ_of_lt ll)
        have nin : s.heap.objs.size ∉ [(s.heap.push { cls := .type "set", dict := none, data := .set #[] 0 (.fresh 0 0 b) }).objs.size, l] := by
          rw [Heap.size_push]
          intro z
          rcases List.mem_cons.mp z with y | y
          · exact absurd y (Nat.ne_of_lt (Nat.lt_succ_self _))
          · exact absurd (List.mem_singleton.mp y) (Nat.ne_of_gt ll)
        have lx : xs.length = its.size := by rw [← StrsAre.len_eq are, Array.length_toList]
        have isT : ∀ (j : Nat) (v : Value), its[j]? = some v → ∃ t, v = .str (xs.getD j Str.empty) t := fun j v gv => SS.strs_at are j v (by rw [Array.getElem?_toList]; exact (gv))
        refine enter_texts ((Walks.list calm3 _ l ne1 its).toS) s.heap.objs.size nin xs lx (by rw [← lx]; exact room) isT (its.size - 0) 0 _ (by omega) (Nat.zero_le _) ⟨⟨_, Heap.get?_push_size _ rfl, rfl, rfl⟩, (il.push _)⟩ ?start ?stop
        case start =>
          have g0 : ((s.heap.push { cls := .type "set", dict := none, data := .set #[] 0 (.fresh 0 0 b) }).push { cls := .type "list_iterator", data := .fields #[.ref l, .int 0 0] }).get? s.heap.objs.size = some { cls := .type "set", dict := none, data := .set #[] 0 (.fresh 0 0 b) } := Heap.get?_push_of_some _ (gS)
          exact PyProof.Rows.SetOf_congr ((PyProof.Rows.setObjOf_fresh (knd := PySem.strKind prog w) b).setOf g0 (by unfold scanBound; omega)) (fun _ => by rw [List.take_zero]; rfl) (by rw [List.take_zero]; rfl)
        case stop =>
          intro u mv held
          obtain ⟨h2, g2, d2, t2, o2⟩ := u
          obtain rfl : g2 = s.gens := mv.gens
          obtain rfl : d2 = s.drawn := mv.drawn
          obtain rfl : o2 = s.os := mv.os
          rw [← lx, List.take_length] at held
          show wpAny _ _ _ _ _ _
          refine wpAny_pure ?_
          show wpAny _ _ (ret Value.none) _ _ _
          refine wpAny_pure ⟨rfl, h2, t2, rfl, held, fun a ob la e => ?_⟩
          refine mv.heap a ob (fun z => ?_) (Heap.get?_push_of_some _ (Heap.get?_push_of_some _ (e)))
          rw [Heap.size_push] at z
          rcases List.mem_cons.mp z with y | y
          · exact absurd y (Nat.ne_of_lt la)
          · exact absurd (List.mem_singleton.mp y) (Nat.ne_of_lt (Nat.lt_succ_of_lt la))
      · cases r2 with
        | error e => exact ru2
        | ok f2 =>
          cases f2 with
          | ret o =>
            obtain ⟨rfl, h2, t2, rfl, held, more⟩ := ru2
            repeat (any_goals (first | assumption | (wp_step)))
            exact q _ _ held (more)
          | _ => exact (ru2.elim)
    | _ => exact (ru.elim)
end
/-- len(set(xs)), xs a list of texts -/
def tLenSetT (K : PySem.W.Frag) (ta : TE) : TE := fun σ H Q => ta σ H fun x H1 => ∃ l, ∃ xs : List Str, x = .ref l ∧ SqL K H1 l (xs.map V.str) ∧ xs.length ≤ 1000 ∧ Q (.int (uS xs).length) H1
theorem pe_lenSetT {X : Cx} {a : Expr} {ta : TE} {p p2 q pos : Pos} (hc : X.calm = true) (hg : Gl X "len") (hm : X.mg "len" = none) (hg2 : Gl X "set") (hm2 : X.mg "set" = none) (ha : PE X a ta)
    (na : starEach [a] X.env = (false, eval a X.env) :: starEach [] X.env := by rfl) : PE X (.Call (.Name "len" p) [.Call (.Name "set" p2) [a] [] q] [] pos) (tLenSetT X.K ta) := by
  refine ⟨fun pins s σ H Q I g => Call_ (ld_blt I hg hm boot_len (PyProof.Rows.callWith_builtin1 (PyProof.Rows.args_cons ?_ rfl) rfl rfl))⟩
  refine Call_ (ld_blt I hg2 hm2 boot_set (PyProof.Rows.callWith_type1 (PyProof.Rows.args_cons (thn (ha.run pins s σ H _ I g) fun v s1 ⟨x, H1, I1, r1, q1⟩ => PyProof.Rows.args_nil ?_) na) na rfl))
  obtain ⟨l, xs, rfl, gl, few, q1⟩ := q1
  cases r1
  obtain ⟨its, r, pl, _⟩ := I1.list gl
  refine made_of_texts (I1.ok.hd hc) pl.isList (by simpa using L2.strsAre_of r) (by unfold scanBound; omega) fun h2 tk held more => PyProof.Rows.args_nil ?_
  obtain ⟨ob, es, ep, tb, g1, g2, g3, _, _, _, g4, g5⟩ := held
  have I2 : Inv X pins σ H1 { s1 with heap := h2, toks := tk } := I1.kept fun b o e => more b o (Heap.lt_size e) e
  have small := uS_le xs
  exact call_len_set g1 g2 g3 g4 (by rw [g5]; omega) ⟨.int (uS xs).length, H1, I2.tok _, ⟨_, by rw [g5]⟩, q1⟩

end TSN
namespace TP
open PySem PySem.Spec PyProof.Rows L2
theorem uZ_str (ns : List Str) : TSN.uS ns = uZ ns := fold_ext (fun l v => by
  unfold TSN.addS addZ
  rw [any_mem]
  by_cases h : v ∈ l
  · rw [if_pos (decide_eq_true h), if_pos h]
  · rw [if_neg (fun z => h (of_decide_eq_true z)), if_neg h]) ns []
section
variable {μ : Type} {M : Mu μ} {σ : L2.St} {Z H : Hp} {s s1 : μ} {ta : TE} {K : PySem.W.Frag}
theorem All.strs {Z : Hp} : ∀ {vs : List V} {xs : List Str}, All (yStr.r Z) vs xs → vs = xs.map V.str
  | _, _, .nil => rfl
  | _, _, .cons h t => by rw [h.1, t.strs]; rfl
theorem ev_lenSetT {xs : List Str} (ha : Ev M ta σ Z H s (li yStr xs) s1) (l : xs.length ≤ 1000) : Ev M (TSN.tLenSetT K ta) σ Z H s (ty yInt ((uZ xs).length : Nat)) s1 :=
  fun Z1 H1 a b c d Q q => ha Z1 H1 a b c d _ fun v Z2 H2 e m rv => by
    obtain ⟨p, vs, rfl, g, t, _⟩ := rdl e.s rv
    rw [t.strs] at g
    exact ⟨p, xs, rfl, SqL.of g, l, q _ Z2 H2 e m (by rw [uZ_str]; rfl)⟩
end
end TP

namespace K59
open PySem PySem.Spec PyProof.Rows L2
open C8 (tCut pss_cut)
/-! the text by places -/
def topS (i : Nat) : Stmt := PySem.Challenge.pw_surenear_k59_notes_know_their_records.main.body.getD i (.Pass ⟨0, 0, 0, 0⟩)
abbrev s_law_row : Stmt := (topS 34)
abbrev s_law_next : Stmt := (topS 35)
abbrev s_kind_of_value : Stmt := (topS 2)
abbrev s_string_part : Stmt := (topS 9)
abbrev s_value_part : Stmt := (topS 10)
abbrev s_row_of : Stmt := (topS 8)
abbrev s_remainder_of : Stmt := (topS 12)
abbrev s_mark_of : Stmt := (topS 11)
abbrev s_same_fields : Stmt := (topS 17)
abbrev s_Record___init__ : Stmt := (inClass (topS 16) 0)
abbrev s_Record___eq__ : Stmt := (inClass (topS 16) 3)
abbrev s_Note___init__ : Stmt := (inClass (topS 14) 0)
abbrev s_Note_lives_at : Stmt := (inClass (topS 14) 1)
abbrev s_Note_matches : Stmt := (inClass (topS 14) 2)
abbrev s_Note___eq__ : Stmt := (inClass (topS 14) 5)
abbrev s_is_letter : Stmt := (topS 19)
abbrev s_is_digit : Stmt := (topS 20)
abbrev s_is_word : Stmt := (topS 21)
abbrev s_check_vectors : Stmt := (topS 28)
abbrev s_check_fields : Stmt := (topS 29)
abbrev s_Schema___init__ : Stmt := (inClass (topS 27) 0)
abbrev s_law_schema : Stmt := (topS 36)
abbrev s_law_vector : Stmt := (topS 37)
abbrev s_law_record : Stmt := (topS 38)
abbrev s_law_other : Stmt := (topS 39)
abbrev s_law : Stmt := (topS 40)
theorem sc_law_row : FnScope ["script", "k", "cell", "a", "b", "c"] ["script", "k"] (defScope s_law_row) := ⟨rfl, rfl, rfl, by decide +kernel, rfl, by decide +kernel, by decide +kernel⟩
theorem sc_law_next : FnScope ["state", "many", "drawn"] ["state", "many"] (defScope s_law_next) := ⟨rfl, rfl, rfl, by decide +kernel, rfl, by decide +kernel, by decide +kernel⟩
theorem sc_kind_of_value : FnScope ["worth"] ["worth"] (defScope s_kind_of_value) := ⟨rfl, rfl, rfl, by decide +kernel, rfl, by decide +kernel, by decide +kernel⟩
theorem sc_string_part : FnScope ["text", "char"] ["text"] (defScope s_string_part) := ⟨rfl, rfl, rfl, by decide +kernel, rfl, by decide +kernel, by decide +kernel⟩
theorem sc_value_part : FnScope ["worth", "kind"] ["worth"] (defScope s_value_part) := ⟨rfl, rfl, rfl, by decide +kernel, rfl, by decide +kernel, by decide +kernel⟩
theorem sc_row_of : FnScope ["number", "record", "row", "name", "worth", "word", "count"] ["number", "record"] (defScope s_row_of) := ⟨rfl, rfl, rfl, by decide +kernel, rfl, by decide +kernel, by decide +kernel⟩
theorem sc_remainder_of : FnScope ["row", "factor", "left", "number"] ["row", "factor"] (defScope s_remainder_of) := ⟨rfl, rfl, rfl, by decide +kernel, rfl, by decide +kernel, by decide +kernel⟩
theorem sc_mark_of : FnScope ["key", "number", "record", "row", "factor"] ["key", "number", "record"] (defScope s_mark_of) := ⟨rfl, rfl, rfl, by decide +kernel, rfl, by decide +kernel, by decide +kernel⟩
theorem sc_same_fields : FnScope ["ones", "others", "kinds", "_", "worth"] ["ones", "others"] (defScope s_same_fields) := ⟨rfl, rfl, rfl, by decide +kernel, rfl, by decide +kernel, by decide +kernel⟩
theorem sc_Record___init__ : FnScope ["self", "name", "vector", "fields", "words", "pair"] ["self", "name", "vector", "fields", "words"] (defScope s_Record___init__) := ⟨rfl, rfl, rfl, by decide +kernel, rfl, by decide +kernel, by decide +kernel⟩
theorem sc_Record___eq__ : FnScope ["self", "other"] ["self", "other"] (defScope s_Record___eq__) := ⟨rfl, rfl, rfl, by decide +kernel, rfl, by decide +kernel, by decide +kernel⟩
theorem sc_Note___init__ : FnScope ["self", "name", "number", "mark", "died", "record", "segment", "leaves"] ["self", "name", "number", "mark", "died", "record", "segment", "leaves"] (defScope s_Note___init__) := ⟨rfl, rfl, rfl, by decide +kernel, rfl, by decide +kernel, by decide +kernel⟩
theorem sc_Note_lives_at : FnScope ["self", "moment"] ["self", "moment"] (defScope s_Note_lives_at) := ⟨rfl, rfl, rfl, by decide +kernel, rfl, by decide +kernel, by decide +kernel⟩
theorem sc_Note_matches : FnScope ["self", "key", "number", "record"] ["self", "key", "number", "record"] (defScope s_Note_matches) := ⟨rfl, rfl, rfl, by decide +kernel, rfl, by decide +kernel, by decide +kernel⟩
theorem sc_Note___eq__ : FnScope ["self", "other"] ["self", "other"] (defScope s_Note___eq__) := ⟨rfl, rfl, rfl, by decide +kernel, rfl, by decide +kernel, by decide +kernel⟩
theorem sc_is_letter : FnScope ["char"] ["char"] (defScope s_is_letter) := ⟨rfl, rfl, rfl, by decide +kernel, rfl, by decide +kernel, by decide +kernel⟩
theorem sc_is_digit : FnScope ["char"] ["char"] (defScope s_is_digit) := ⟨rfl, rfl, rfl, by decide +kernel, rfl, by decide +kernel, by decide +kernel⟩
theorem sc_is_word : FnScope ["text", "char"] ["text"] (defScope s_is_word) := ⟨rfl, rfl, rfl, by decide +kernel, rfl, by decide +kernel, by decide +kernel⟩
theorem sc_check_vectors : FnScope ["size", "width", "measure"] ["size", "width", "measure"] (defScope s_check_vectors) := ⟨rfl, rfl, rfl, by decide +kernel, rfl, by decide +kernel, by decide +kernel⟩
theorem sc_check_fields : FnScope ["fields", "name", "kind", "_"] ["fields"] (defScope s_check_fields) := ⟨rfl, rfl, rfl, by decide +kernel, rfl, by decide +kernel, by decide +kernel⟩
theorem sc_Schema___init__ : FnScope ["self", "size", "width", "measure", "fields", "pair"] ["self", "size", "width", "measure", "fields"] (defScope s_Schema___init__) := ⟨rfl, rfl, rfl, by decide +kernel, rfl, by decide +kernel, by decide +kernel⟩
theorem sc_law_schema : FnScope ["state", "size", "measure", "width"] ["state"] (defScope s_law_schema) := ⟨rfl, rfl, rfl, by decide +kernel, rfl, by decide +kernel, by decide +kernel⟩
theorem sc_law_vector : FnScope ["state", "schema", "k"] ["state", "schema"] (defScope s_law_vector) := ⟨rfl, rfl, rfl, by decide +kernel, rfl, by decide +kernel, by decide +kernel⟩
theorem sc_law_record : FnScope ["state", "schema", "name", "fields", "words"] ["state", "schema", "name"] (defScope s_law_record) := ⟨rfl, rfl, rfl, by decide +kernel, rfl, by decide +kernel, by decide +kernel⟩
theorem sc_law_other : FnScope ["state", "schema", "record", "kind", "vector"] ["state", "schema", "record"] (defScope s_law_other) := ⟨rfl, rfl, rfl, by decide +kernel, rfl, by decide +kernel, by decide +kernel⟩
theorem sc_law : FnScope ["script", "state", "schema", "key", "record", "number", "died", "note", "moment", "turn", "other", "due", "changed"] ["script"] (defScope s_law) := ⟨rfl, rfl, rfl, by decide +kernel, rfl, by decide +kernel, by decide +kernel⟩
/-! the mathematics -/
open TP

theorem getD_lt {ns : List Int} {k : Nat} (h : k < ns.length) : ns[k]? = some (ns.getD k 0) := by
  rw [List.getD_eq_getElem?_getD, List.getElem?_eq_getElem h]; rfl
theorem getD_ge {ns : List Int} {k : Nat} (h : ¬ k < ns.length) : ns.getD k 0 = 0 := by
  rw [List.getD_eq_getElem?_getD, List.getElem?_eq_none (by omega)]; rfl
def row1 (ns : List Int) (k : Nat) : Int := if ns.getD k 0 < 0 then -2 * ns.getD k 0 - 1 else ns.getD k 0
def rowA (c : Int) (k : Nat) : Int := (c * 48271 + k * 69621 + 11) % 2147483647
def rowB (a c : Int) (k : Nat) : Int := (a * 16807 + c * 7 + k + 5) % 2147483629
def rowC (a b : Int) : Int := (b * 39373 + a * b + 3) % 2147483587
theorem rowZ_hi {ns : List Int} {k : Nat} (h : ¬ row1 ns k < 10 ^ 9) : rowZ ns k = row1 ns k := by
  unfold rowZ
  exact if_neg h
theorem rowZ_lo {ns : List Int} {k : Nat} (h : row1 ns k < 10 ^ 9) : rowZ ns k = rowA (row1 ns k) k + rowB (rowA (row1 ns k) k) (row1 ns k) k * 2147483647 + rowC (rowA (row1 ns k) k) (rowB (rowA (row1 ns k) k) (row1 ns k) k) * 2147483647 ^ 2 := by
  unfold rowZ
  exact if_pos h
theorem row1_nn (ns : List Int) (k : Nat) : 0 ≤ row1 ns k := by
  unfold row1
  by_cases h : ns.getD k 0 < 0
  · rw [if_pos h]; omega
  · rw [if_neg h]; omega
theorem rowZ_nn (ns : List Int) (k : Nat) : 0 ≤ rowZ ns k := by
  by_cases h : row1 ns k < 10 ^ 9
  · rw [rowZ_lo h]
    have a0 : 0 ≤ rowA (row1 ns k) k := Int.emod_nonneg _ (by decide)
    have b0 : 0 ≤ rowB (rowA (row1 ns k) k) (row1 ns k) k := Int.emod_nonneg _ (by decide)
    have d0 : 0 ≤ rowC (rowA (row1 ns k) k) (rowB (rowA (row1 ns k) k) (row1 ns k) k) := Int.emod_nonneg _ (by decide)
    have e2 : (2147483647 : Int) ^ 2 = 4611686014132420609 := by decide
    rw [e2]
    omega
  · rw [rowZ_hi h]; exact row1_nn ns k

inductive Exc
  | InvalidSchema
deriving DecidableEq

inductive Val
  | i (x : Int)
  | t (x : Str)
  | b (x : Bool)
deriving DecidableEq
def Val.p_i : Val → Option Int
  | .i x => some x
  | _ => none
def Val.p_t : Val → Option Str
  | .t x => some x
  | _ => none
def Val.p_b : Val → Option Bool
  | .b x => some x
  | _ => none
def d_Val : Val → PyData
  | .i x => PyData.int x
  | .t x => PyData.str x
  | .b x => PyData.bool x
def Val.is_bool : Val → Bool
  | .i _ => false
  | .t _ => false
  | .b _ => true
def Val.is_int : Val → Bool
  | .i _ => true
  | .t _ => false
  | .b _ => true
structure Record where
  name : Str
  vector : (List Int)
  fields : (List (Str × Val))
  words : (List (Str × Int))
deriving DecidableEq
structure Note where
  name : Str
  number : Int
  mark : (List Int)
  died : (Option Int)
  record : (Option Record)
  segment : (Option Int)
  leaves : (List Int)
deriving DecidableEq
structure Schema where
  size : Int
  width : Str
  measure : Str
  fields : (List (Str × Str))
deriving DecidableEq
inductive NoteI
  | n (x : Note)
  | i (x : Int)
deriving DecidableEq
def NoteI.p_n : NoteI → Option Note
  | .n x => some x
  | _ => none
def NoteI.p_i : NoteI → Option Int
  | .i x => some x
  | _ => none
def NoteI.f_name : NoteI → Option Str
  | .n x => some x.name
  | .i x => none
def NoteI.f_number : NoteI → Option Int
  | .n x => some x.number
  | .i x => none
def NoteI.f_mark : NoteI → Option (List Int)
  | .n x => some x.mark
  | .i x => none
def NoteI.f_died : NoteI → Option (Option Int)
  | .n x => some x.died
  | .i x => none
def NoteI.f_record : NoteI → Option (Option Record)
  | .n x => some x.record
  | .i x => none
def NoteI.f_segment : NoteI → Option (Option Int)
  | .n x => some x.segment
  | .i x => none
def NoteI.f_leaves : NoteI → Option (List Int)
  | .n x => some x.leaves
  | .i x => none
def NoteI.is_Note : NoteI → Bool
  | .n _ => true
  | .i _ => false
def in_WIDTHS (z : Str) : Option Bool :=
  if z = "bit" then some true else
  if z = "small" then some true else
  if z = "wide" then some true else none

def F_kind_of_value (x_worth : Val) : Str :=
  if (x_worth.is_bool) = true then
  ("flag" : Str)
  else
  if (x_worth.is_int) = true then
  ("integer" : Str)
  else
  ("text" : Str)
def F_string_part (x_text : Str) : Option (List Int) :=
  (mapO (fun (x_9 : Str) => (if x_9.length = 1 then
  some ((x_9.cps.getD 0 0 : Nat) : Int) else none : Option Int)) (x_text.cps.toList.map fun c => (⟨#[c]⟩ : Str))).bind fun l_13 =>
  if ([(x_text.length : Int)] : List Int).length + l_13.length ≤ 16777216 then
  some (([(x_text.length : Int)] : List Int) ++ l_13) else none
def F_value_part (x_worth : Val) : Option (List Int) :=
  if (decide ((F_kind_of_value x_worth) = ("integer" : Str))) = true then
  (x_worth.p_i).bind fun u_24 =>
  some ([(0 : Int), u_24] : List Int)
  else
  if (decide ((F_kind_of_value x_worth) = ("text" : Str))) = true then
  (x_worth.p_t).bind fun u_27 =>
  (F_string_part u_27).bind fun r_29 =>
  if ([(1 : Int)] : List Int).length + r_29.length ≤ 16777216 then
  some (([(1 : Int)] : List Int) ++ r_29) else none
  else
  (x_worth.p_b).bind fun u_32 =>
  some ([(2 : Int), (if u_32 = true then (1 : Int) else (0 : Int))] : List Int)
def L_row_of_1 (x_61 : (Str × Val)) (w_60 : (List Int)) : Option (List Int) :=
  (F_string_part x_61.1).bind fun r_90 =>
  if w_60.length + r_90.length ≤ 16777216 then
  (F_value_part x_61.2).bind fun r_94 =>
  if (w_60 ++ r_90).length + r_94.length ≤ 16777216 then
  some ((w_60 ++ r_90) ++ r_94) else none else none
def L_row_of_2 (x_103 : (Str × Int)) (w_102 : (List Int)) : Option (List Int) :=
  (F_string_part x_103.1).bind fun r_132 =>
  if w_102.length + r_132.length ≤ 16777216 then
  if (w_102 ++ r_132).length < 16777216 then
  some ((w_102 ++ r_132) ++ [x_103.2]) else none else none
def F_row_of (x_number : Int) (x_record : Record) : Option (List Int) :=
  (F_string_part x_record.name).bind fun r_50 =>
  if ([x_number] : List Int).length + r_50.length ≤ 16777216 then
  if (([x_number] : List Int) ++ r_50).length < 16777216 then
  if ((([x_number] : List Int) ++ r_50) ++ [(x_record.vector.length : Int)]).length + x_record.vector.length ≤ 16777216 then
  if (((([x_number] : List Int) ++ r_50) ++ [(x_record.vector.length : Int)]) ++ x_record.vector).length < 16777216 then
  (forF L_row_of_1 x_record.fields ((((([x_number] : List Int) ++ r_50) ++ [(x_record.vector.length : Int)]) ++ x_record.vector) ++ [(x_record.fields.length : Int)])).bind fun w_74 =>
  if w_74.length < 16777216 then
  (forF L_row_of_2 x_record.words (w_74 ++ [(x_record.words.length : Int)])).bind fun w_116 =>
  some w_116 else none else none else none else none else none
def L_remainder_of_1 (x_factor : Int) (x_146 : Int) (w_145 : Int) : Option Int :=
  if CMul w_145 x_factor then
  (some ((((w_145 * x_factor) + x_146) + (1 : Int)) % (4294967291 : Int))).bind fun x_left_169 =>
  some x_left_169 else none
def F_remainder_of (x_row : (List Int)) (x_factor : Int) : Option Int :=
  (forF (L_remainder_of_1 x_factor) x_row (0 : Int)).bind fun w_156 =>
  some w_156
def F_mark_of (x_key : (List Int)) (x_number : Int) (x_record : Record) : Option (List Int) :=
  (F_row_of x_number x_record).bind fun r_186 =>
  (mapO (fun (x_197 : Int) => ((F_remainder_of r_186 x_197).bind fun r_200 =>
  some r_200 : Option Int)) x_key).bind fun l_202 =>
  some l_202
def F_same_fields (x_ones : (List (Str × Val))) (x_others : (List (Str × Val))) : Bool :=
  ((decide ((x_ones.map (fun (x_204 : (Str × Val)) => (F_kind_of_value x_204.2))) = (x_others.map (fun (x_214 : (Str × Val)) => (F_kind_of_value x_214.2))))) && (PyData.eqv ((dTup (dP2 PyData.str d_Val)) x_ones) ((dTup (dP2 PyData.str d_Val)) x_others)))
def F_Record___init__ (x_name : Str) (x_vector : (List Int)) (x_fields : (List (Str × Val))) (x_words : (List (Str × Int))) : Record :=
  (⟨x_name, x_vector, x_fields, x_words⟩ : Record)
def F_Record___eq__ (x_self : Record) (x_other : (Option Record)) : Option Bool :=
  (if (x_other.isSome) = true then ((x_other).bind fun u_252 =>
  (if (decide (x_self.name = u_252.name)) = true then ((x_other).bind fun u_254 =>
  (if (decide (x_self.vector = u_254.vector)) = true then ((x_other).bind fun u_256 =>
  (if (F_same_fields x_self.fields u_256.fields) = true then ((x_other).bind fun u_258 =>
  some (decide (x_self.words = u_258.words))) else some false).bind fun b_261 =>
  some b_261) else some false).bind fun b_263 =>
  some b_263) else some false).bind fun b_265 =>
  some b_265) else some false).bind fun b_267 =>
  some b_267
def F_Note___init__ (x_name : Str) (x_number : Int) (x_mark : (List Int)) (x_died : (Option Int)) (x_record : (Option Record)) (x_segment : (Option Int)) (x_leaves : (List Int)) : Note :=
  (⟨x_name, x_number, x_mark, x_died, x_record, x_segment, x_leaves⟩ : Note)
def F_Note_lives_at (x_self : Note) (x_moment : Int) : Option Bool :=
  (if (decide (x_self.number ≤ x_moment)) = true then ((if x_self.died.isNone = true then some true else ((x_self.died).bind fun u_286 =>
  some (decide (x_moment < u_286)))).bind fun b_289 =>
  some b_289) else some false).bind fun b_291 =>
  some b_291
def F_Note_matches (x_self : Note) (x_key : (List Int)) (x_number : Int) (x_record : Record) : Option Bool :=
  (if (decide (x_number = x_self.number)) = true then ((if (decide (x_record.name = x_self.name)) = true then ((F_mark_of x_key x_number x_record).bind fun r_296 =>
  some (decide (r_296 = x_self.mark))) else some false).bind fun b_299 =>
  some b_299) else some false).bind fun b_301 =>
  some b_301
def F_Note___eq__ (x_self : Note) (x_other : NoteI) : Option Bool :=
  (if (x_other.is_Note) = true then ((x_other.f_name).bind fun a_320 =>
  (if (decide (x_self.name = a_320)) = true then ((x_other.f_number).bind fun a_322 =>
  (if (decide (x_self.number = a_322)) = true then ((x_other.f_mark).bind fun a_324 =>
  (if (decide (x_self.mark = a_324)) = true then ((x_other.f_died).bind fun a_326 =>
  (if (decide (x_self.died = a_326)) = true then ((x_other.f_record).bind fun a_328 =>
  (optEqO F_Record___eq__ x_self.record a_328).bind fun r_330 =>
  (if r_330 = true then ((x_other.f_segment).bind fun a_332 =>
  (if (decide (x_self.segment = a_332)) = true then ((x_other.f_leaves).bind fun a_334 =>
  some (decide (x_self.leaves = a_334))) else some false).bind fun b_337 =>
  some b_337) else some false).bind fun b_339 =>
  some b_339) else some false).bind fun b_341 =>
  some b_341) else some false).bind fun b_343 =>
  some b_343) else some false).bind fun b_345 =>
  some b_345) else some false).bind fun b_347 =>
  some b_347) else some false).bind fun b_349 =>
  some b_349
def F_is_letter (x_char : Str) : Bool :=
  (((!decide (x_char.cps.toList < ("a" : Str).cps.toList)) && (!decide (("z" : Str).cps.toList < x_char.cps.toList))) || (((!decide (x_char.cps.toList < ("A" : Str).cps.toList)) && (!decide (("Z" : Str).cps.toList < x_char.cps.toList))) || (decide (x_char = ("_" : Str)))))
def F_is_digit (x_char : Str) : Bool :=
  ((!decide (x_char.cps.toList < ("0" : Str).cps.toList)) && (!decide (("9" : Str).cps.toList < x_char.cps.toList)))
def F_is_word (x_text : Str) : Option Bool :=
  (if (decide (x_text = ("" : Str))) = true then some true else ((atSi x_text (0 : Int)).bind fun i_354 =>
  some (!(F_is_letter i_354)))).bind fun b_357 =>
  if b_357 = true then
  some false
  else
  some (((x_text.cps.toList.map fun c => (⟨#[c]⟩ : Str)).map (fun (x_359 : Str) => ((F_is_letter x_359) || (F_is_digit x_359)))).all id)
def F_check_vectors (x_size : Int) (x_width : Str) (x_measure : Str) : Option (Res Exc Unit) :=
  if (decide (x_size < (1 : Int))) = true then
  some (Res.er Exc.InvalidSchema)
  else
  (in_WIDTHS x_width).bind fun b_363 =>
  if (!b_363) = true then
  some (Res.er Exc.InvalidSchema)
  else
  if (!decide (x_measure ∈ (["square", "dot", "bits"] : List Str))) = true then
  some (Res.er Exc.InvalidSchema)
  else
  if ((decide (x_measure = ("bits" : Str))) && (!decide (x_width = ("bit" : Str)))) = true then
  some (Res.er Exc.InvalidSchema)
  else
  some (Res.ok ())
def L_check_fields_1 (x_369 : (Str × Str)) (w_368 : Unit) : Option (Flow (Res Exc Unit) Unit) :=
  (F_is_word x_369.1).bind fun r_392 =>
  if ((!r_392) || (decide (x_369.1 ∈ (["every", "has", "in", "and", "or", "not", "true", "false"] : List Str)))) = true then
  some (Flow.ret (Res.er Exc.InvalidSchema))
  else
  if (!decide (x_369.2 ∈ (["integer", "text", "flag"] : List Str))) = true then
  some (Flow.ret (Res.er Exc.InvalidSchema))
  else
  some (Flow.go ())
def F_check_fields (x_fields : (List (Str × Str))) : Option (Res Exc Unit) :=
  (forS L_check_fields_1 x_fields ()).bind (Flow.thn (fun w_379 =>
  if (x_fields.map (fun (x_398 : (Str × Str)) => x_398.1)).length ≤ 1000 then
  if (decide (((uZ (x_fields.map (fun (x_398 : (Str × Str)) => x_398.1))).length : Int) < (x_fields.length : Int))) = true then
  some (Res.er Exc.InvalidSchema)
  else
  some (Res.ok ()) else none) (fun r => some r))
def F_Schema___init__ (x_size : Int) (x_width : Str) (x_measure : Str) (x_fields : (List (Str × Str))) : Option (Res Exc Schema) :=
  (F_check_vectors x_size x_width x_measure).bind (Res.thn (fun e => some (Res.er e)) fun r_422 =>
  (F_check_fields x_fields).bind (Res.thn (fun e => some (Res.er e)) fun r_426 =>
  some (Res.ok (⟨x_size, x_width, x_measure, x_fields⟩ : Schema))))
def F_law_schema (ds : DS) : Option (Schema × DS) :=
  (some ((1 : Int) + (nxV ds (3 : Int)))).bind fun x_size_439 =>
  (atI ([("square" : Str), ("dot" : Str), ("bits" : Str)] : List Str) (nxV (nxS ds (3 : Int)) (3 : Int))).bind fun i_443 =>
  (if (decide (i_443 = ("bits" : Str))) = true then
  some ("bit" : Str)
  else
  some ("small" : Str) : Option Str).bind fun w_451 =>
  (Res.val (F_Schema___init__ x_size_439 w_451 i_443 ([(("k" : Str), ("integer" : Str)), (("t" : Str), ("text" : Str))] : List (Str × Str)))).bind fun r_456 =>
  some (r_456, (nxS (nxS ds (3 : Int)) (3 : Int)))
def F_law_vector (ds : DS) (x_schema : Schema) : Option ((List Int) × DS) :=
  if (decide (x_schema.width = ("bit" : Str))) = true then
  if RangeOk 0 x_schema.size then
  (mapS (fun (x_468 : Int) (s_469 : DS) => (some ((nxV s_469 (2 : Int)), (nxS s_469 (2 : Int))) : Option (Int × DS))) (rangeZ 0 x_schema.size) ds).bind fun l_472 =>
  some (l_472.1, l_472.2) else none
  else
  if RangeOk 0 x_schema.size then
  (mapS (fun (x_475 : Int) (s_476 : DS) => (some (((nxV s_476 (9 : Int)) - (4 : Int)), (nxS s_476 (9 : Int))) : Option (Int × DS))) (rangeZ 0 x_schema.size) ds).bind fun l_479 =>
  some (l_479.1, l_479.2) else none
def F_law_record (ds : DS) (x_schema : Schema) (x_name : Str) : Option (Record × DS) :=
  (if (decide ((0 : Int) < (nxV ds (3 : Int)))) = true then
  if ([] : List (Str × Val)).length < 16777216 then
  some ((([] : List (Str × Val)) ++ [(("k" : Str), (Val.i (nxV (nxS ds (3 : Int)) (5 : Int))))]), (nxS (nxS ds (3 : Int)) (5 : Int))) else none
  else
  some (([] : List (Str × Val)), (nxS ds (3 : Int))) : Option ((List (Str × Val)) × DS)).bind fun w_490 =>
  (if (decide ((0 : Int) < (nxV w_490.2 (2 : Int)))) = true then
  (atI ([("x" : Str), ("y" : Str), ("zz" : Str)] : List Str) (nxV (nxS w_490.2 (2 : Int)) (3 : Int))).bind fun i_502 =>
  if w_490.1.length < 16777216 then
  some ((w_490.1 ++ [(("t" : Str), (Val.t i_502))]), (nxS (nxS w_490.2 (2 : Int)) (3 : Int))) else none
  else
  some (w_490.1, (nxS w_490.2 (2 : Int))) : Option ((List (Str × Val)) × DS)).bind fun w_498 =>
  (if (decide ((0 : Int) < (nxV w_498.2 (2 : Int)))) = true then
  if ([] : List (Str × Int)).length < 16777216 then
  some ((([] : List (Str × Int)) ++ [(("u" : Str), ((1 : Int) + (nxV (nxS w_498.2 (2 : Int)) (3 : Int))))]), (nxS (nxS w_498.2 (2 : Int)) (3 : Int))) else none
  else
  some (([] : List (Str × Int)), (nxS w_498.2 (2 : Int))) : Option ((List (Str × Int)) × DS)).bind fun w_512 =>
  (if (decide ((1 : Int) < (nxV w_512.2 (3 : Int)))) = true then
  if w_512.1.length < 16777216 then
  some ((w_512.1 ++ [(("v" : Str), ((1 : Int) + (nxV (nxS w_512.2 (3 : Int)) (20 : Int))))]), (nxS (nxS w_512.2 (3 : Int)) (20 : Int))) else none
  else
  some (w_512.1, (nxS w_512.2 (3 : Int))) : Option ((List (Str × Int)) × DS)).bind fun w_520 =>
  (F_law_vector w_520.2 x_schema).bind fun r_528 =>
  some ((F_Record___init__ x_name r_528.1 w_498.1 w_520.1), r_528.2)
def F_law_other (ds : DS) (x_schema : Schema) (x_record : Record) : Option (Record × DS) :=
  if (decide ((nxV ds (4 : Int)) = (0 : Int))) = true then
  if x_record.name.length + ("z" : Str).length ≤ 16777216 then
  some ((F_Record___init__ (x_record.name ++ ("z" : Str)) x_record.vector x_record.fields x_record.words), (nxS ds (4 : Int))) else none
  else
  if (decide ((nxV ds (4 : Int)) = (1 : Int))) = true then
  (atI x_record.vector (0 : Int)).bind fun i_549 =>
  (ixN x_record.vector.length (0 : Int)).bind fun j_551 =>
  some ((F_Record___init__ x_record.name (x_record.vector.set j_551 (i_549 + (1 : Int))) x_record.fields x_record.words), (nxS ds (4 : Int)))
  else
  if (decide ((nxV ds (4 : Int)) = (2 : Int))) = true then
  if x_record.words.length + ([(("zz" : Str), (1 : Int))] : List (Str × Int)).length ≤ 16777216 then
  some ((F_Record___init__ x_record.name x_record.vector x_record.fields (x_record.words ++ ([(("zz" : Str), (1 : Int))] : List (Str × Int)))), (nxS ds (4 : Int))) else none
  else
  (F_law_record (nxS ds (4 : Int)) x_schema x_record.name).bind fun r_558 =>
  some (r_558.1, r_558.2)
def L_law_1 (x_number_574 : Int) (w_582 : ((Option Int) × DS)) (x_note_601 : Note) (x_611 : Int) (w_610 : Unit) : Option (Flow Bool Unit) :=
  (F_Note_lives_at x_note_601 x_611).bind fun r_643 =>
  (if (decide (x_number_574 ≤ x_611)) = true then ((if w_582.1.isNone = true then some true else ((w_582.1).bind fun u_645 =>
  some (decide (x_611 < u_645)))).bind fun b_648 =>
  some b_648) else some false).bind fun b_650 =>
  if (!decide (r_643 = b_650)) = true then
  some (Flow.ret false)
  else
  some (Flow.go ())
def L_law_2 (r_560 : (Schema × DS)) (x_key_564 : (List Int)) (r_570 : (Record × DS)) (x_number_574 : Int) (x_note_601 : Note) (x_662 : Int) (w_661 : DS) : Option (Flow Bool DS) :=
  (F_law_other w_661 r_560.1 r_570.1).bind fun r_694 =>
  (if (decide (r_694.1.name = r_570.1.name)) = true then ((F_mark_of x_key_564 x_number_574 r_694.1).bind fun r_698 =>
  (F_mark_of x_key_564 x_number_574 r_570.1).bind fun r_700 =>
  some (decide (r_698 = r_700))) else some false).bind fun b_703 =>
  (F_Note_matches x_note_601 x_key_564 x_number_574 r_694.1).bind fun r_706 =>
  if (!decide (r_706 = b_703)) = true then
  some (Flow.ret false)
  else
  some (Flow.go r_694.2)
def F_law (ns : List Int) : Option Bool :=
  (F_law_schema (DS.mk ns 0 0)).bind fun r_560 =>
  (some ([(nxV r_560.2 (4294967291 : Int)), (nxV (nxS r_560.2 (4294967291 : Int)) (4294967291 : Int))] : List Int)).bind fun x_key_564 =>
  (atSi ("ab" : Str) (nxV (nxS (nxS r_560.2 (4294967291 : Int)) (4294967291 : Int)) (2 : Int))).bind fun i_568 =>
  (F_law_record (nxS (nxS (nxS r_560.2 (4294967291 : Int)) (4294967291 : Int)) (2 : Int)) r_560.1 i_568).bind fun r_570 =>
  (some ((1 : Int) + (nxV r_570.2 (30 : Int)))).bind fun x_number_574 =>
  (if (decide ((nxV (nxS r_570.2 (30 : Int)) (2 : Int)) = (0 : Int))) = true then
  (some (some ((x_number_574 + (1 : Int)) + (nxV (nxS (nxS r_570.2 (30 : Int)) (2 : Int)) (9 : Int))))).bind fun x_died_595 =>
  some (x_died_595, (nxS (nxS (nxS r_570.2 (30 : Int)) (2 : Int)) (9 : Int)))
  else
  some (none, (nxS (nxS r_570.2 (30 : Int)) (2 : Int))) : Option ((Option Int) × DS)).bind fun w_582 =>
  (F_mark_of x_key_564 x_number_574 r_570.1).bind fun r_599 =>
  (some (F_Note___init__ r_570.1.name x_number_574 r_599 w_582.1 (some r_570.1) none [])).bind fun x_note_601 =>
  (F_mark_of x_key_564 x_number_574 r_570.1).bind fun r_605 =>
  (F_Note___eq__ x_note_601 (NoteI.n (F_Note___init__ r_570.1.name x_number_574 r_605 w_582.1 (some r_570.1) none []))).bind fun r_607 =>
  if (!r_607) = true then
  some false
  else
  (forS (L_law_1 x_number_574 w_582 x_note_601) (rangeZ 0 (45 : Int)) ()).bind (Flow.thn (fun w_628 =>
  (F_Note_matches x_note_601 x_key_564 x_number_574 r_570.1).bind fun r_654 =>
  (if (!decide (r_654 = true)) = true then some true else ((F_Note_matches x_note_601 x_key_564 (x_number_574 + (1 : Int)) r_570.1).bind fun r_656 =>
  some (!decide (r_656 = false)))).bind fun b_659 =>
  if b_659 = true then
  some false
  else
  (forS (L_law_2 r_560 x_key_564 r_570 x_number_574 x_note_601) (rangeZ 0 (5 : Int)) w_582.2).bind (Flow.thn (fun w_679 =>
  (F_mark_of x_key_564 x_number_574 r_570.1).bind fun r_711 =>
  (some (F_Note___init__ r_570.1.name x_number_574 r_711 w_582.1 none (some (2 : Int)) ([(1 : Int)] : List Int))).bind fun x_changed_713 =>
  (F_Note___eq__ x_note_601 (NoteI.n x_changed_713)).bind fun r_717 =>
  (if (!r_717) = true then ((F_Note___eq__ x_note_601 (NoteI.i (3 : Int))).bind fun r_719 =>
  some ((!r_719) && ((decide (x_changed_713.leaves = ([(1 : Int)] : List Int))) && x_changed_713.record.isNone))) else some false).bind fun b_722 =>
  some b_722) (fun r => some r))) (fun r => some r))
-- MATH BEGINS
/-! records and marks: all is told where all is small -/
def valOk : Val → Prop
  | .t s => s.length ≤ 1000
  | _ => True
def pairOk (p : Str × Val) : Prop := p.1.length ≤ 1000 ∧ valOk p.2
structure RecOk (r : Record) : Prop where
  n : r.name.length ≤ 1000
  v : r.vector.length ≤ 1000
  f : r.fields.length ≤ 1000
  fs : ∀ p ∈ r.fields, pairOk p
  w : r.words.length ≤ 1000
  ws : ∀ p ∈ r.words, p.1.length ≤ 1000
def codesOf (s : Str) : List Int := s.cps.toList.map fun c => ((c : Nat) : Int)
theorem codes_len (s : Str) : (codesOf s).length = s.length := by
  show (s.cps.toList.map _).length = s.cps.size
  rw [List.length_map, Array.length_toList]
theorem string_part_eq (s : Str) (h : s.length ≤ 16777215) : F_string_part s = some ([(s.length : Int)] ++ codesOf s) := by
  unfold F_string_part
  rw [mapO_eq (g := fun x : Str => ((x.cps.getD 0 0 : Nat) : Int)) fun x hx => by
    obtain ⟨c, _, rfl⟩ := List.mem_map.mp hx
    exact if_pos rfl]
  try simp only [TP.bsome, TP.thn_go, TP.thn_ret, TP.thn_brk]
  have e : (s.cps.toList.map fun c => (⟨#[c]⟩ : Str)).map (fun x : Str => ((x.cps.getD 0 0 : Nat) : Int)) = codesOf s := by
    rw [List.map_map]; rfl
  rw [e, if_pos]
  rw [codes_len]
  show 1 + s.length ≤ 16777216
  omega
theorem value_part_ex (v : Val) (h : valOk v) : ∃ r, F_value_part v = some r ∧ r.length ≤ 1002 := by
  unfold F_value_part F_kind_of_value
  cases v with
  | i x => exact ⟨[0, x], by simp [Val.is_bool, Val.is_int, Val.p_i], by simp⟩
  | t s =>
    have hl : s.length ≤ 1000 := h
    refine ⟨[1] ++ ([(s.length : Int)] ++ codesOf s), ?_, by simp [codes_len]; omega⟩
    simp only [Val.is_bool, Val.is_int, Val.p_t, Bool.false_eq_true, if_false, bsome]
    rw [if_neg (by decide +kernel), if_pos (by decide +kernel), string_part_eq s (by omega)]
    try simp only [TP.bsome, TP.thn_go, TP.thn_ret, TP.thn_brk]
    rw [if_pos]
    simp [codes_len]
    omega
  | b x =>
    refine ⟨[2, if x = true then 1 else 0], ?_, by simp⟩
    simp only [Val.is_bool, Val.p_b, if_true, bsome]
    rw [if_neg (by decide +kernel), if_neg (by decide +kernel)]
theorem row_f (p : Str × Val) (w : List Int) (h : pairOk p) (l : w.length ≤ 16000000) : ∃ r, L_row_of_1 p w = some r ∧ r.length ≤ w.length + 2003 := by
  unfold L_row_of_1
  obtain ⟨n1, n2⟩ := h
  obtain ⟨r, e, hr⟩ := value_part_ex p.2 n2
  rw [string_part_eq p.1 (by omega), e]
  try simp only [TP.bsome, TP.thn_go, TP.thn_ret, TP.thn_brk]
  have l1 : ([(p.1.length : Int)] ++ codesOf p.1).length = 1 + p.1.length := by rw [List.length_append, codes_len]; rfl
  rw [if_pos (by omega), if_pos (by rw [List.length_append]; omega)]
  exact ⟨_, rfl, by rw [List.length_append, List.length_append]; omega⟩
theorem row_w (p : Str × Int) (w : List Int) (h : p.1.length ≤ 1000) (l : w.length ≤ 16000000) : ∃ r, L_row_of_2 p w = some r ∧ r.length ≤ w.length + 2003 := by
  unfold L_row_of_2
  rw [string_part_eq p.1 (by omega)]
  try simp only [TP.bsome, TP.thn_go, TP.thn_ret, TP.thn_brk]
  have l1 : ([(p.1.length : Int)] ++ codesOf p.1).length = 1 + p.1.length := by rw [List.length_append, codes_len]; rfl
  rw [if_pos (by omega), if_pos (by rw [List.length_append]; omega)]
  exact ⟨_, rfl, by rw [List.length_append, List.length_append]; simp only [List.length_cons, List.length_nil]; omega⟩
theorem grow {α : Type} {f : α → List Int → Option (List Int)} : ∀ (xs : List α) (b : List Int), (∀ x ∈ xs, ∀ w, w.length ≤ 16000000 → ∃ r, f x w = some r ∧ r.length ≤ w.length + 2003) → b.length + 2003 * xs.length ≤ 16000000 → ∃ r, forF f xs b = some r ∧ r.length ≤ b.length + 2003 * xs.length
  | [], b, _, _ => ⟨b, rfl, by simp⟩
  | x :: r, b, h, l => by
    rw [List.length_cons] at l
    obtain ⟨b1, e, l1⟩ := h x List.mem_cons_self b (by omega)
    obtain ⟨b2, e2, l2⟩ := grow r b1 (fun y hy => h y (List.mem_cons_of_mem _ hy)) (by omega)
    refine ⟨b2, ?_, by rw [List.length_cons]; omega⟩
    show (f x b).bind _ = _
    rw [e]
    exact e2
theorem row_of_ex (n : Int) (r : Record) (h : RecOk r) : ∃ w, F_row_of n r = some w := by
  unfold F_row_of
  have hn := h.n; have hv := h.v; have hf := h.f; have hw := h.w
  rw [string_part_eq _ (by omega)]
  try simp only [TP.bsome, TP.thn_go, TP.thn_ret, TP.thn_brk]
  have l1 : ([(r.name.length : Int)] ++ codesOf r.name).length = 1 + r.name.length := by rw [List.length_append, codes_len]; rfl
  generalize ([(r.name.length : Int)] ++ codesOf r.name) = u at l1
  rw [if_pos (by simp only [List.length_cons, List.length_nil]; omega), if_pos (by simp; omega), if_pos (by simp; omega), if_pos (by simp; omega)]
  obtain ⟨w1, e1, k1⟩ := grow (f := L_row_of_1) r.fields ([n] ++ u ++ [(r.vector.length : Int)] ++ r.vector ++ [(r.fields.length : Int)]) (fun p hp w l => row_f p w (h.fs p hp) l) (by simp; omega)
  rw [e1]
  try simp only [TP.bsome, TP.thn_go, TP.thn_ret, TP.thn_brk]
  have k1' : w1.length ≤ 3000000 := by simp at k1; omega
  rw [if_pos (by omega)]
  obtain ⟨w2, e2, k2⟩ := grow (f := L_row_of_2) r.words (w1 ++ [(r.words.length : Int)]) (fun p hp w l => row_w p w (h.ws p hp) l) (by simp; omega)
  rw [e2]
  exact ⟨_, rfl⟩
theorem remainder_ex (row : List Int) (f : Int) (h0 : 0 ≤ f) (h1 : f < 4294967296) : ∃ m, F_remainder_of row f = some m := by
  unfold F_remainder_of
  obtain ⟨b, e, _⟩ := forF_mem (f := L_remainder_of_1 f) (I := fun b => 0 ≤ b ∧ b < 4294967296) (xs := row) (b := 0) ⟨by omega, by omega⟩ fun x _ b hb => by
    unfold L_remainder_of_1
    rw [if_pos (show CMul b f from Or.inl ⟨by omega, by omega⟩)]
    exact ⟨_, rfl, Int.emod_nonneg _ (by decide), Int.lt_of_lt_of_le (Int.emod_lt_of_pos _ (by decide)) (by decide)⟩
  rw [e]
  exact ⟨_, rfl⟩
def KeyOk (k : List Int) : Prop := ∀ x ∈ k, 0 ≤ x ∧ x < 4294967296
theorem mark_ex (k : List Int) (n : Int) (r : Record) (hk : KeyOk k) (h : RecOk r) : ∃ m, F_mark_of k n r = some m := by
  unfold F_mark_of
  obtain ⟨w, e⟩ := row_of_ex n r h
  rw [e]
  try simp only [TP.bsome, TP.thn_go, TP.thn_ret, TP.thn_brk]
  obtain ⟨ys, e2, _⟩ := mapO_ex (f := fun x => ((F_remainder_of w x).bind fun r_200 => some r_200 : Option Int)) (R := fun _ => True) (xs := k) fun x hx => by
    obtain ⟨m, e⟩ := remainder_ex w x (hk x hx).1 (hk x hx).2
    exact ⟨m, by rw [e]; rfl, trivial⟩
  rw [e2]
  exact ⟨_, rfl⟩

theorem check_fields_kt : F_check_fields [(("k" : Str), ("integer" : Str)), (("t" : Str), ("text" : Str))] = some (.ok ()) := by
  decide +kernel
theorem check_vectors_ok (n : Int) (h : 1 ≤ n) (w m : Str) (hw : w = "bit" ∨ w = "small") (hm : m = "square" ∨ m = "dot" ∨ m = "bits") (hb : m = "bits" → w = "bit") : F_check_vectors n w m = some (.ok ()) := by
  unfold F_check_vectors
  rw [if_neg (by simp; omega)]
  have e : in_WIDTHS w = some true := by rcases hw with rfl | rfl <;> decide +kernel
  rw [e]
  try simp only [TP.bsome, TP.thn_go, TP.thn_ret, TP.thn_brk]
  have e2 : decide (m ∈ (["square", "dot", "bits"] : List Str)) = true := by rcases hm with rfl | rfl | rfl <;> decide +kernel
  have e3 : (decide (m = ("bits" : Str)) && !decide (w = ("bit" : Str))) = false := by
    by_cases q : m = "bits"
    · rw [hb q]; simp
    · simp [q]
  rw [e2, e3]
  rfl
theorem schema_ex (s : DS) : ∃ c s', F_law_schema s = some (c, s') ∧ 1 ≤ c.size ∧ c.size ≤ 3 := by
  unfold F_law_schema
  have a0 := nx_ge s (m := 3) (by decide); have a1 := nx_lt s (m := 3) (by decide)
  have b0 := nx_ge (nxS s 3) (m := 3) (by decide); have b1 := nx_lt (nxS s 3) (m := 3) (by decide)
  try simp only [TP.bsome, TP.thn_go, TP.thn_ret, TP.thn_brk]
  obtain ⟨m, e, hm⟩ := atI_lit (xs := ([("square" : Str), ("dot" : Str), ("bits" : Str)] : List Str)) b0 b1
  rw [e]
  try simp only [TP.bsome, TP.thn_go, TP.thn_ret, TP.thn_brk]
  have hm' : m = "square" ∨ m = "dot" ∨ m = "bits" := by simpa using hm
  have hw : (if decide (m = ("bits" : Str)) = true then some ("bit" : Str) else some ("small" : Str) : Option Str) = some (if m = ("bits" : Str) then ("bit" : Str) else ("small" : Str)) := by
    by_cases q : m = ("bits" : Str) <;> simp [q]
  rw [hw]
  try simp only [TP.bsome, TP.thn_go, TP.thn_ret, TP.thn_brk]
  unfold F_Schema___init__
  rw [check_vectors_ok (1 + nxV s 3) (by omega) _ m (by by_cases q : m = ("bits" : Str) <;> simp [q]) hm' (fun q => by simp [q]), check_fields_kt]
  exact ⟨_, _, rfl, by show 1 ≤ 1 + nxV s 3; omega, by show 1 + nxV s 3 ≤ 3; omega⟩
theorem vector_ex (s : DS) (c : Schema) (h : 1 ≤ c.size) (h2 : c.size ≤ 3) : ∃ v s', F_law_vector s c = some (v, s') ∧ v.length ≤ 3 ∧ 1 ≤ v.length := by
  unfold F_law_vector
  have hr : RangeOk 0 c.size := rangeOk_of (by omega) (by omega) (by omega) (by omega)
  have hl : (rangeZ 0 c.size).length ≤ 3 ∧ 1 ≤ (rangeZ 0 c.size).length := by rw [rangeZ_len]; omega
  by_cases q : decide (c.width = ("bit" : Str)) = true
  · rw [if_pos q, if_pos hr]
    obtain ⟨ys, s', e, l, _⟩ := mapS_mem (f := fun (x_468 : Int) (s_469 : DS) => (some (nxV s_469 2, nxS s_469 2) : Option (Int × DS))) (R := fun _ => True) (xs := rangeZ 0 c.size) s fun _ _ s => ⟨_, _, rfl, trivial⟩
    rw [e]
    exact ⟨_, _, rfl, by show ys.length ≤ 3; omega, by show 1 ≤ ys.length; omega⟩
  · rw [if_neg q, if_pos hr]
    obtain ⟨ys, s', e, l, _⟩ := mapS_mem (f := fun (x_475 : Int) (s_476 : DS) => (some (nxV s_476 9 - 4, nxS s_476 9) : Option (Int × DS))) (R := fun _ => True) (xs := rangeZ 0 c.size) s fun _ _ s => ⟨_, _, rfl, trivial⟩
    rw [e]
    exact ⟨_, _, rfl, by show ys.length ≤ 3; omega, by show 1 ≤ ys.length; omega⟩
structure Small (r : Record) : Prop where
  ok : RecOk r
  v0 : 1 ≤ r.vector.length
  w4 : r.words.length ≤ 4
  n4 : r.name.length ≤ 10
theorem record_ex (s : DS) (c : Schema) (n : Str) (h : 1 ≤ c.size) (h2 : c.size ≤ 3) (hn : n.length ≤ 10) : ∃ r s', F_law_record s c n = some (r, s') ∧ Small r ∧ r.name = n := by
  unfold F_law_record
  obtain ⟨f1, s1, e1, l1, k1⟩ : ∃ f s1, (if (decide ((0 : Int) < (nxV s (3 : Int)))) = true then
      if ([] : List (Str × Val)).length < 16777216 then some ((([] : List (Str × Val)) ++ [(("k" : Str), (Val.i (nxV (nxS s (3 : Int)) (5 : Int))))]), (nxS (nxS s (3 : Int)) (5 : Int))) else none
      else some (([] : List (Str × Val)), (nxS s (3 : Int))) : Option ((List (Str × Val)) × DS)) = some (f, s1) ∧ f.length ≤ 1 ∧ ∀ p ∈ f, pairOk p := by
    by_cases q : decide ((0 : Int) < (nxV s (3 : Int))) = true
    · rw [if_pos q]
      exact ⟨_, _, if_pos (by decide), by simp, fun p hp => by simp at hp; subst hp; exact ⟨by show ("k" : Str).length ≤ 1000; decide +kernel, trivial⟩⟩
    · rw [if_neg q]
      exact ⟨_, _, rfl, by decide, fun p hp => nomatch hp⟩
  rw [e1]
  try simp only [TP.bsome, TP.thn_go, TP.thn_ret, TP.thn_brk]
  obtain ⟨f2, s2, e2, l2, k2⟩ : ∃ f s2, (if (decide ((0 : Int) < (nxV s1 (2 : Int)))) = true then
      (atI ([("x" : Str), ("y" : Str), ("zz" : Str)] : List Str) (nxV (nxS s1 (2 : Int)) (3 : Int))).bind fun i_502 =>
      if f1.length < 16777216 then some ((f1 ++ [(("t" : Str), (Val.t i_502))]), (nxS (nxS s1 (2 : Int)) (3 : Int))) else none
      else some (f1, (nxS s1 (2 : Int))) : Option ((List (Str × Val)) × DS)) = some (f, s2) ∧ f.length ≤ 2 ∧ ∀ p ∈ f, pairOk p := by
    by_cases q : decide ((0 : Int) < (nxV s1 (2 : Int))) = true
    · rw [if_pos q]
      obtain ⟨t, e, ht⟩ := atI_lit (xs := ([("x" : Str), ("y" : Str), ("zz" : Str)] : List Str)) (nx_ge (nxS s1 2) (m := 3) (by decide)) (nx_lt (nxS s1 2) (m := 3) (by decide))
      rw [e]
      try simp only [TP.bsome, TP.thn_go, TP.thn_ret, TP.thn_brk]
      refine ⟨_, _, if_pos (by omega), by simp; omega, fun p hp => ?_⟩
      rcases List.mem_append.mp hp with hp | hp
      · exact k1 p hp
      · simp at hp; subst hp
        refine ⟨by show ("t" : Str).length ≤ 1000; decide +kernel, ?_⟩
        show t.length ≤ 1000
        simp at ht
        rcases ht with rfl | rfl | rfl <;> decide +kernel
    · rw [if_neg q]
      exact ⟨_, _, rfl, by omega, k1⟩
  rw [e2]
  try simp only [TP.bsome, TP.thn_go, TP.thn_ret, TP.thn_brk]
  obtain ⟨w1, s3, e3, l3, k3⟩ : ∃ w s3, (if (decide ((0 : Int) < (nxV s2 (2 : Int)))) = true then
      if ([] : List (Str × Int)).length < 16777216 then some ((([] : List (Str × Int)) ++ [(("u" : Str), ((1 : Int) + (nxV (nxS s2 (2 : Int)) (3 : Int))))]), (nxS (nxS s2 (2 : Int)) (3 : Int))) else none
      else some (([] : List (Str × Int)), (nxS s2 (2 : Int))) : Option ((List (Str × Int)) × DS)) = some (w, s3) ∧ w.length ≤ 1 ∧ ∀ p ∈ w, p.1.length ≤ 1000 := by
    by_cases q : decide ((0 : Int) < (nxV s2 (2 : Int))) = true
    · rw [if_pos q]
      exact ⟨_, _, if_pos (by decide), by simp, fun p hp => by simp at hp; subst hp; show ("u" : Str).length ≤ 1000; decide +kernel⟩
    · rw [if_neg q]
      exact ⟨_, _, rfl, by decide, fun p hp => nomatch hp⟩
  rw [e3]
  try simp only [TP.bsome, TP.thn_go, TP.thn_ret, TP.thn_brk]
  obtain ⟨w2, s4, e4, l4, k4⟩ : ∃ w s4, (if (decide ((1 : Int) < (nxV s3 (3 : Int)))) = true then
      if w1.length < 16777216 then some ((w1 ++ [(("v" : Str), ((1 : Int) + (nxV (nxS s3 (3 : Int)) (20 : Int))))]), (nxS (nxS s3 (3 : Int)) (20 : Int))) else none
      else some (w1, (nxS s3 (3 : Int))) : Option ((List (Str × Int)) × DS)) = some (w, s4) ∧ w.length ≤ 2 ∧ ∀ p ∈ w, p.1.length ≤ 1000 := by
    by_cases q : decide ((1 : Int) < (nxV s3 (3 : Int))) = true
    · rw [if_pos q]
      refine ⟨_, _, if_pos (by omega), by simp; omega, fun p hp => ?_⟩
      rcases List.mem_append.mp hp with hp | hp
      · exact k3 p hp
      · simp at hp; subst hp; show ("v" : Str).length ≤ 1000; decide +kernel
    · rw [if_neg q]
      exact ⟨_, _, rfl, by omega, k3⟩
  rw [e4]
  try simp only [TP.bsome, TP.thn_go, TP.thn_ret, TP.thn_brk]
  obtain ⟨v, s5, e5, lv, lv0⟩ := vector_ex s4 c h h2
  rw [e5]
  exact ⟨_, _, rfl, ⟨⟨by show n.length ≤ 1000; omega, by show v.length ≤ 1000; omega, by show f2.length ≤ 1000; omega, k2, by show w2.length ≤ 1000; omega, k4⟩, lv0, by show w2.length ≤ 4; omega, hn⟩, rfl⟩
theorem other_ex (s : DS) (c : Schema) (r : Record) (h : 1 ≤ c.size) (h2 : c.size ≤ 3) (hr : Small r) : ∃ o s', F_law_other s c r = some (o, s') ∧ RecOk o := by
  unfold F_law_other
  have hw := hr.w4; have hn := hr.n4; have v0 := hr.v0
  have k := hr.ok
  by_cases q0 : decide (nxV s 4 = 0) = true
  · rw [if_pos q0, if_pos (by have : ("z" : Str).length = 1 := by decide +kernel
                              omega)]
    refine ⟨_, _, rfl, ⟨?_, k.v, k.f, k.fs, k.w, k.ws⟩⟩
    show (r.name ++ ("z" : Str)).length ≤ 1000
    rw [str_app_len]
    have : ("z" : Str).length = 1 := by decide +kernel
    omega
  rw [if_neg q0]
  by_cases q1 : decide (nxV s 4 = 1) = true
  · rw [if_pos q1, atI_of (by omega), ixN_of (by omega) (by omega)]
    obtain ⟨y, hy⟩ : ∃ y, r.vector[(0 : Int).toNat]? = some y := ⟨_, List.getElem?_eq_getElem (show (0 : Int).toNat < r.vector.length by show 0 < _; omega)⟩
    rw [hy]
    try simp only [TP.bsome, TP.thn_go, TP.thn_ret, TP.thn_brk]
    exact ⟨_, _, rfl, ⟨k.n, by show (r.vector.set _ _).length ≤ 1000; rw [List.length_set]; exact k.v, k.f, k.fs, k.w, k.ws⟩⟩
  rw [if_neg q1]
  by_cases q2 : decide (nxV s 4 = 2) = true
  · rw [if_pos q2, if_pos (by simp; omega)]
    refine ⟨_, _, rfl, ⟨k.n, k.v, k.f, k.fs, by show (r.words ++ _).length ≤ 1000; simp; omega, fun p hp => ?_⟩⟩
    have hp' : p ∈ r.words ++ [(("zz" : Str), (1 : Int))] := hp
    rcases List.mem_append.mp hp' with hp | hp
    · exact k.ws p hp
    · simp at hp; subst hp; show ("zz" : Str).length ≤ 1000; decide +kernel
  rw [if_neg q2]
  obtain ⟨o, s', e, ho, _⟩ := record_ex (nxS s 4) c r.name h h2 hn
  rw [e]
  exact ⟨_, _, rfl, ho.ok⟩
theorem same_kinds (xs : List (Str × Val)) : F_same_fields xs xs = true := by
  unfold F_same_fields
  have : ∀ xs : List (Str × Val), PyData.eqv (dTup (dP2 PyData.str d_Val) xs) (dTup (dP2 PyData.str d_Val) xs) = true := fun xs => by
    show PyData.eqvAll (xs.map _) (xs.map _) = true
    induction xs with
    | nil => rfl
    | cons x r ih =>
      show (PyData.eqv (dP2 PyData.str d_Val x) (dP2 PyData.str d_Val x) && _) = true
      rw [show PyData.eqvAll (r.map _) (r.map _) = true from ih, Bool.and_true]
      show (PyData.eqv (.str x.1) (.str x.1) && (PyData.eqv (d_Val x.2) (d_Val x.2) && true)) = true
      have : PyData.eqv (d_Val x.2) (d_Val x.2) = true := by
        cases x.2 <;> simp [d_Val, PyData.eqv]
      rw [this]
      simp [PyData.eqv]
  rw [this, Bool.and_true]
  simp
theorem rec_refl (r : Record) : F_Record___eq__ r (some r) = some true := by
  unfold F_Record___eq__
  simp [same_kinds]
theorem note_refl (n : Note) : F_Note___eq__ n (.n n) = some true := by
  have : optEqO F_Record___eq__ n.record n.record = some true := by
    cases n.record with
    | none => rfl
    | some r => exact rec_refl r
  unfold F_Note___eq__
  simp [NoteI.is_Note, NoteI.f_name, NoteI.f_number, NoteI.f_mark, NoteI.f_died, NoteI.f_record, NoteI.f_segment, NoteI.f_leaves, this]
theorem law_true (ns : List Int) (h : ns.length ≤ 63) : F_law ns = some true := by
  unfold F_law
  obtain ⟨c, s1, e1, c1, c2⟩ := schema_ex (DS.mk ns 0 0)
  rw [e1]
  try simp only [TP.bsome, TP.thn_go, TP.thn_ret, TP.thn_brk]
  have hk : KeyOk [nxV s1 4294967291, nxV (nxS s1 4294967291) 4294967291] := fun x hx => by
    have a := nx_ge s1 (m := 4294967291) (by decide); have b := nx_lt s1 (m := 4294967291) (by decide)
    have a' := nx_ge (nxS s1 4294967291) (m := 4294967291) (by decide); have b' := nx_lt (nxS s1 4294967291) (m := 4294967291) (by decide)
    simp at hx
    rcases hx with rfl | rfl <;> omega
  generalize [nxV s1 4294967291, nxV (nxS s1 4294967291) 4294967291] = key at hk
  generalize nxS (nxS s1 4294967291) 4294967291 = s2
  obtain ⟨n, e2, hn⟩ : ∃ n, atSi ("ab" : Str) (nxV s2 2) = some n ∧ n.length = 1 := by
    unfold atSi
    obtain ⟨x, e, _⟩ := atI_lit (xs := ("ab" : Str).cps.toList) (nx_ge s2 (m := 2) (by decide)) (by have := nx_lt s2 (m := 2) (by decide); have e : ("ab" : Str).cps.toList.length = 2 := by decide +kernel
                                                                                                    omega)
    rw [e]
    exact ⟨_, rfl, rfl⟩
  rw [e2]
  try simp only [TP.bsome, TP.thn_go, TP.thn_ret, TP.thn_brk]
  obtain ⟨r, s3, e3, hr, hrn⟩ := record_ex (nxS s2 2) c n c1 c2 (by omega)
  rw [e3]
  try simp only [TP.bsome, TP.thn_go, TP.thn_ret, TP.thn_brk]
  have d0 := nx_ge s3 (m := 30) (by decide)
  generalize nxV s3 30 = v30 at d0
  obtain ⟨died, s4, e4⟩ : ∃ d s4, (if decide (nxV (nxS s3 30) 2 = 0) = true then (some (some (1 + v30 + 1 + nxV (nxS (nxS s3 30) 2) 9))).bind fun x_died_595 => some (x_died_595, nxS (nxS (nxS s3 30) 2) 9) else some (none, nxS (nxS s3 30) 2) : Option (Option Int × DS)) = some (d, s4) := by
    by_cases q : decide (nxV (nxS s3 30) 2 = 0) = true
    · rw [if_pos q]; exact ⟨_, _, rfl⟩
    · rw [if_neg q]; exact ⟨_, _, rfl⟩
  simp only [bsome] at e4 ⊢
  rw [e4]
  try simp only [TP.bsome, TP.thn_go, TP.thn_ret, TP.thn_brk]
  obtain ⟨m, em⟩ := mark_ex key (1 + v30) r hk hr.ok
  rw [em]
  try simp only [TP.bsome, TP.thn_go, TP.thn_ret, TP.thn_brk]
  rw [note_refl]
  try simp only [TP.bsome, TP.thn_go, TP.thn_ret, TP.thn_brk]
  rw [if_neg (by decide)]
  have hlive : ∀ x : Int, L_law_1 (1 + v30) (died, s4) (F_Note___init__ r.name (1 + v30) m died (some r) none []) x () = some (.go ()) := fun x => by
    unfold L_law_1 F_Note_lives_at F_Note___init__
    cases died with
    | none => by_cases q : 1 + v30 ≤ x <;> simp [q]
    | some d => by_cases q : 1 + v30 ≤ x <;> simp [q]
  obtain ⟨b1, eb, _⟩ := forS_mem (f := L_law_1 (1 + v30) (died, s4) (F_Note___init__ r.name (1 + v30) m died (some r) none [])) (I := fun _ => True) (xs := rangeZ 0 45) (b := ()) trivial fun x _ b _ => ⟨(), hlive x, trivial⟩
  rw [eb]
  try simp only [TP.bsome, TP.thn_go, TP.thn_ret, TP.thn_brk]
  have hm : ∀ (k : Int) (o : Record) (mo : List Int), F_mark_of key (1 + v30) o = some mo → F_Note_matches (F_Note___init__ r.name (1 + v30) m died (some r) none []) key k o = if k = 1 + v30 then some (decide (o.name = r.name) && decide (mo = m)) else some false := fun k o mo e => by
    unfold F_Note_matches F_Note___init__
    by_cases q : k = 1 + v30
    · subst q
      by_cases q2 : o.name = r.name <;> simp [q2, e]
    · simp [q]
  rw [hm (1 + v30) r m em, hm (1 + v30 + 1) r m em, if_pos rfl, if_neg (by omega)]
  try simp only [TP.bsome, TP.thn_go, TP.thn_ret, TP.thn_brk]
  have e5 : (if (!decide ((decide True && decide True) = true)) = true then some true else some (!decide True) : Option Bool) = some false := by simp
  rw [e5]
  try simp only [TP.bsome, TP.thn_go, TP.thn_ret, TP.thn_brk]
  rw [if_neg Bool.false_ne_true]
  obtain ⟨b2, eb2, _⟩ := forS_mem (f := L_law_2 (c, s1) key (r, s3) (1 + v30) (F_Note___init__ r.name (1 + v30) m died (some r) none [])) (I := fun _ => True) (xs := rangeZ 0 5) (b := s4) trivial fun x _ b _ => by
    unfold L_law_2
    obtain ⟨o, s', eo, ho⟩ := other_ex b c r c1 c2 hr
    rw [eo]
    try simp only [TP.bsome, TP.thn_go, TP.thn_ret, TP.thn_brk]
    obtain ⟨mo, emo⟩ := mark_ex key (1 + v30) o hk ho
    rw [emo, em, hm (1 + v30) o mo emo, if_pos rfl]
    try simp only [TP.bsome, TP.thn_go, TP.thn_ret, TP.thn_brk]
    refine ⟨s', ?_, trivial⟩
    by_cases q2 : o.name = r.name <;> simp [q2]
  rw [eb2]
  try simp only [TP.bsome, TP.thn_go, TP.thn_ret, TP.thn_brk]
  have e6 : F_Note___eq__ (F_Note___init__ r.name (1 + v30) m died (some r) none []) (.n (F_Note___init__ r.name (1 + v30) m died none (some 2) [1])) = some false := by
    unfold F_Note___eq__ F_Note___init__
    have : optEqO F_Record___eq__ (some r) none = some false := by
      show F_Record___eq__ r none = some false
      unfold F_Record___eq__
      rfl
    simp [NoteI.is_Note, NoteI.f_name, NoteI.f_number, NoteI.f_mark, NoteI.f_died, NoteI.f_record, this]
  have e7 : ∀ x : Note, F_Note___eq__ x (.i 3) = some false := fun x => by
    unfold F_Note___eq__
    rfl
  rw [e6, e7]
  try simp only [TP.bsome, TP.thn_go, TP.thn_ret, TP.thn_brk]
  simp [F_Note___init__]

def ff_Record (v0 v1 v2 v3 : V) : List (Str × V) := putF "words" v3 (putF "fields" v2 (putF "vector" v1 (putF "name" v0 [])))
theorem lk_Record_name {v0 v1 v2 v3 : V} : (ff_Record v0 v1 v2 v3).lookup ("name" : Str) = some v0 := by
  unfold ff_Record
  rw [lookup_putF, if_neg (by decide +kernel), lookup_putF, if_neg (by decide +kernel), lookup_putF, if_neg (by decide +kernel), lookup_putF, if_pos rfl]
theorem lk_Record_vector {v0 v1 v2 v3 : V} : (ff_Record v0 v1 v2 v3).lookup ("vector" : Str) = some v1 := by
  unfold ff_Record
  rw [lookup_putF, if_neg (by decide +kernel), lookup_putF, if_neg (by decide +kernel), lookup_putF, if_pos rfl]
theorem lk_Record_fields {v0 v1 v2 v3 : V} : (ff_Record v0 v1 v2 v3).lookup ("fields" : Str) = some v2 := by
  unfold ff_Record
  rw [lookup_putF, if_neg (by decide +kernel), lookup_putF, if_pos rfl]
theorem lk_Record_words {v0 v1 v2 v3 : V} : (ff_Record v0 v1 v2 v3).lookup ("words" : Str) = some v3 := by
  unfold ff_Record
  rw [lookup_putF, if_pos rfl]
theorem no_Record {v0 v1 v2 v3 : V} {m : Str} (h0 : ¬ m = "name" := by decide +kernel) (h1 : ¬ m = "vector" := by decide +kernel) (h2 : ¬ m = "fields" := by decide +kernel) (h3 : ¬ m = "words" := by decide +kernel) : (ff_Record v0 v1 v2 v3).lookup m = none := by
  unfold ff_Record
  rw [lookup_putF, if_neg h3, lookup_putF, if_neg h2, lookup_putF, if_neg h1, lookup_putF, if_neg h0]
  rfl
def ff_Note (v0 v1 v2 v3 v4 v5 v6 : V) : List (Str × V) := putF "leaves" v6 (putF "segment" v5 (putF "record" v4 (putF "died" v3 (putF "mark" v2 (putF "number" v1 (putF "name" v0 []))))))
theorem lk_Note_name {v0 v1 v2 v3 v4 v5 v6 : V} : (ff_Note v0 v1 v2 v3 v4 v5 v6).lookup ("name" : Str) = some v0 := by
  unfold ff_Note
  rw [lookup_putF, if_neg (by decide +kernel), lookup_putF, if_neg (by decide +kernel), lookup_putF, if_neg (by decide +kernel), lookup_putF, if_neg (by decide +kernel), lookup_putF, if_neg (by decide +kernel), lookup_putF, if_neg (by decide +kernel), lookup_putF, if_pos rfl]
theorem lk_Note_number {v0 v1 v2 v3 v4 v5 v6 : V} : (ff_Note v0 v1 v2 v3 v4 v5 v6).lookup ("number" : Str) = some v1 := by
  unfold ff_Note
  rw [lookup_putF, if_neg (by decide +kernel), lookup_putF, if_neg (by decide +kernel), lookup_putF, if_neg (by decide +kernel), lookup_putF, if_neg (by decide +kernel), lookup_putF, if_neg (by decide +kernel), lookup_putF, if_pos rfl]
theorem lk_Note_mark {v0 v1 v2 v3 v4 v5 v6 : V} : (ff_Note v0 v1 v2 v3 v4 v5 v6).lookup ("mark" : Str) = some v2 := by
  unfold ff_Note
  rw [lookup_putF, if_neg (by decide +kernel), lookup_putF, if_neg (by decide +kernel), lookup_putF, if_neg (by decide +kernel), lookup_putF, if_neg (by decide +kernel), lookup_putF, if_pos rfl]
theorem lk_Note_died {v0 v1 v2 v3 v4 v5 v6 : V} : (ff_Note v0 v1 v2 v3 v4 v5 v6).lookup ("died" : Str) = some v3 := by
  unfold ff_Note
  rw [lookup_putF, if_neg (by decide +kernel), lookup_putF, if_neg (by decide +kernel), lookup_putF, if_neg (by decide +kernel), lookup_putF, if_pos rfl]
theorem lk_Note_record {v0 v1 v2 v3 v4 v5 v6 : V} : (ff_Note v0 v1 v2 v3 v4 v5 v6).lookup ("record" : Str) = some v4 := by
  unfold ff_Note
  rw [lookup_putF, if_neg (by decide +kernel), lookup_putF, if_neg (by decide +kernel), lookup_putF, if_pos rfl]
theorem lk_Note_segment {v0 v1 v2 v3 v4 v5 v6 : V} : (ff_Note v0 v1 v2 v3 v4 v5 v6).lookup ("segment" : Str) = some v5 := by
  unfold ff_Note
  rw [lookup_putF, if_neg (by decide +kernel), lookup_putF, if_pos rfl]
theorem lk_Note_leaves {v0 v1 v2 v3 v4 v5 v6 : V} : (ff_Note v0 v1 v2 v3 v4 v5 v6).lookup ("leaves" : Str) = some v6 := by
  unfold ff_Note
  rw [lookup_putF, if_pos rfl]
theorem no_Note {v0 v1 v2 v3 v4 v5 v6 : V} {m : Str} (h0 : ¬ m = "name" := by decide +kernel) (h1 : ¬ m = "number" := by decide +kernel) (h2 : ¬ m = "mark" := by decide +kernel) (h3 : ¬ m = "died" := by decide +kernel) (h4 : ¬ m = "record" := by decide +kernel) (h5 : ¬ m = "segment" := by decide +kernel) (h6 : ¬ m = "leaves" := by decide +kernel) : (ff_Note v0 v1 v2 v3 v4 v5 v6).lookup m = none := by
  unfold ff_Note
  rw [lookup_putF, if_neg h6, lookup_putF, if_neg h5, lookup_putF, if_neg h4, lookup_putF, if_neg h3, lookup_putF, if_neg h2, lookup_putF, if_neg h1, lookup_putF, if_neg h0]
  rfl
def ff_Schema (v0 v1 v2 v3 : V) : List (Str × V) := putF "fields" v3 (putF "measure" v2 (putF "width" v1 (putF "size" v0 [])))
theorem lk_Schema_size {v0 v1 v2 v3 : V} : (ff_Schema v0 v1 v2 v3).lookup ("size" : Str) = some v0 := by
  unfold ff_Schema
  rw [lookup_putF, if_neg (by decide +kernel), lookup_putF, if_neg (by decide +kernel), lookup_putF, if_neg (by decide +kernel), lookup_putF, if_pos rfl]
theorem lk_Schema_width {v0 v1 v2 v3 : V} : (ff_Schema v0 v1 v2 v3).lookup ("width" : Str) = some v1 := by
  unfold ff_Schema
  rw [lookup_putF, if_neg (by decide +kernel), lookup_putF, if_neg (by decide +kernel), lookup_putF, if_pos rfl]
theorem lk_Schema_measure {v0 v1 v2 v3 : V} : (ff_Schema v0 v1 v2 v3).lookup ("measure" : Str) = some v2 := by
  unfold ff_Schema
  rw [lookup_putF, if_neg (by decide +kernel), lookup_putF, if_pos rfl]
theorem lk_Schema_fields {v0 v1 v2 v3 : V} : (ff_Schema v0 v1 v2 v3).lookup ("fields" : Str) = some v3 := by
  unfold ff_Schema
  rw [lookup_putF, if_pos rfl]
theorem no_Schema {v0 v1 v2 v3 : V} {m : Str} (h0 : ¬ m = "size" := by decide +kernel) (h1 : ¬ m = "width" := by decide +kernel) (h2 : ¬ m = "measure" := by decide +kernel) (h3 : ¬ m = "fields" := by decide +kernel) : (ff_Schema v0 v1 v2 v3).lookup m = none := by
  unfold ff_Schema
  rw [lookup_putF, if_neg h3, lookup_putF, if_neg h2, lookup_putF, if_neg h1, lookup_putF, if_neg h0]
  rfl
theorem putF_le {f : Str} {v : V} {fs : List (Str × V)} {n : Nat} (h : fs.length ≤ n) : (putF f v fs).length ≤ n + 1 := by
  induction fs generalizing n with
  | nil => show 1 ≤ n + 1; omega
  | cons x r ih =>
    obtain ⟨g, y⟩ := x
    show (if g = f then (g, v) :: r else (g, y) :: putF f v r).length ≤ n + 1
    rw [List.length_cons] at h
    by_cases e : g = f
    · rw [if_pos e, List.length_cons]; omega
    · rw [if_neg e, List.length_cons]
      have := ih (n := r.length) (Nat.le_refl _)
      omega
/-! what the top has made -/
set_option maxHeartbeats 0 in
structure Txt (w : World) (K : PySem.W.Frag) (mg : Str → Option Value) where
  f_law_row : Addr
  d_law_row : FuncData
  F_law_row : Fun K "_law_row" "_law_row" s_law_row f_law_row d_law_row
  b_law_row : Binds K d_law_row ["script", "k"] []
  g_law_row : mg "_law_row" = some (.ref f_law_row)
  f_law_next : Addr
  d_law_next : FuncData
  F_law_next : Fun K "_law_next" "_law_next" s_law_next f_law_next d_law_next
  b_law_next : Binds K d_law_next ["state", "many"] []
  g_law_next : mg "_law_next" = some (.ref f_law_next)
  f_kind_of_value : Addr
  d_kind_of_value : FuncData
  F_kind_of_value : Fun K "kind_of_value" "kind_of_value" s_kind_of_value f_kind_of_value d_kind_of_value
  b_kind_of_value : Binds K d_kind_of_value ["worth"] []
  g_kind_of_value : mg "kind_of_value" = some (.ref f_kind_of_value)
  f_string_part : Addr
  d_string_part : FuncData
  F_string_part : Fun K "string_part" "string_part" s_string_part f_string_part d_string_part
  b_string_part : Binds K d_string_part ["text"] []
  g_string_part : mg "string_part" = some (.ref f_string_part)
  f_value_part : Addr
  d_value_part : FuncData
  F_value_part : Fun K "value_part" "value_part" s_value_part f_value_part d_value_part
  b_value_part : Binds K d_value_part ["worth"] []
  g_value_part : mg "value_part" = some (.ref f_value_part)
  f_row_of : Addr
  d_row_of : FuncData
  F_row_of : Fun K "row_of" "row_of" s_row_of f_row_of d_row_of
  b_row_of : Binds K d_row_of ["number", "record"] []
  g_row_of : mg "row_of" = some (.ref f_row_of)
  f_remainder_of : Addr
  d_remainder_of : FuncData
  F_remainder_of : Fun K "remainder_of" "remainder_of" s_remainder_of f_remainder_of d_remainder_of
  b_remainder_of : Binds K d_remainder_of ["row", "factor"] []
  g_remainder_of : mg "remainder_of" = some (.ref f_remainder_of)
  f_mark_of : Addr
  d_mark_of : FuncData
  F_mark_of : Fun K "mark_of" "mark_of" s_mark_of f_mark_of d_mark_of
  b_mark_of : Binds K d_mark_of ["key", "number", "record"] []
  g_mark_of : mg "mark_of" = some (.ref f_mark_of)
  f_same_fields : Addr
  d_same_fields : FuncData
  F_same_fields : Fun K "same_fields" "same_fields" s_same_fields f_same_fields d_same_fields
  b_same_fields : Binds K d_same_fields ["ones", "others"] []
  g_same_fields : mg "same_fields" = some (.ref f_same_fields)
  f_Record___init__ : Addr
  d_Record___init__ : FuncData
  e_Record___init___fields : Addr
  et_Record___init___fields : ∀ H, SqT K H e_Record___init___fields []
  e_Record___init___words : Addr
  et_Record___init___words : ∀ H, SqT K H e_Record___init___words []
  F_Record___init__ : FunD K "__init__" "Record.__init__" (defArgs s_Record___init__) (defBody s_Record___init__) (defScope s_Record___init__) [] [("fields", .ref e_Record___init___fields), ("words", .ref e_Record___init___words)] f_Record___init__ d_Record___init__
  kb_Record___init__ : KBn K d_Record___init__ ["self", "name", "vector", "fields", "words"] 3 ["fields", "words"] (fun us ws => us ++ ws) (fun vs zs => vs ++ zs)
  ds_Record___init__ : List Value
  v_Record___init__ : Vals [.ref e_Record___init___fields, .ref e_Record___init___words] ds_Record___init__
  b_Record___init__ : Binds K d_Record___init__ ["self", "name", "vector", "fields", "words"] ds_Record___init__
  f_Record___eq__ : Addr
  d_Record___eq__ : FuncData
  F_Record___eq__ : Fun K "__eq__" "Record.__eq__" s_Record___eq__ f_Record___eq__ d_Record___eq__
  b_Record___eq__ : Binds K d_Record___eq__ ["self", "other"] []
  f_Note___init__ : Addr
  d_Note___init__ : FuncData
  e_Note___init___leaves : Addr
  et_Note___init___leaves : ∀ H, SqT K H e_Note___init___leaves []
  F_Note___init__ : FunD K "__init__" "Note.__init__" (defArgs s_Note___init__) (defBody s_Note___init__) (defScope s_Note___init__) [] [("died", .non), ("record", .non), ("segment", .non), ("leaves", .ref e_Note___init___leaves)] f_Note___init__ d_Note___init__
  kb_Note___init__ : KBn K d_Note___init__ ["self", "name", "number", "mark", "died", "record", "segment", "leaves"] 4 ["died", "record", "segment", "leaves"] (fun us ws => us ++ ws) (fun vs zs => vs ++ zs)
  mv_Note___init___k0 : List Value
  kb_Note___init___k0 : KBn K d_Note___init__ ["self", "name", "number", "mark", "died", "record", "segment", "leaves"] 4 ["died", "segment", "leaves"] (fun us ws => us ++ ((ws.drop 0).take 1 ++ ((mv_Note___init___k0.drop 0).take 1 ++ ((ws.drop 1).take 1 ++ ((ws.drop 2).take 1))))) (fun vs zs => vs ++ ((zs.drop 0).take 1 ++ (([.non].drop 0).take 1 ++ ((zs.drop 1).take 1 ++ ((zs.drop 2).take 1)))))
  mv_Note___init___k1 : List Value
  kb_Note___init___k1 : KBn K d_Note___init__ ["self", "name", "number", "mark", "died", "record", "segment", "leaves"] 4 ["died", "record"] (fun us ws => us ++ ((ws.drop 0).take 1 ++ ((ws.drop 1).take 1 ++ ((mv_Note___init___k1.drop 0).take 1 ++ ((mv_Note___init___k1.drop 1).take 1))))) (fun vs zs => vs ++ ((zs.drop 0).take 1 ++ ((zs.drop 1).take 1 ++ (([.non, .ref e_Note___init___leaves].drop 0).take 1 ++ (([.non, .ref e_Note___init___leaves].drop 1).take 1)))))
  ds_Note___init__ : List Value
  v_Note___init__ : Vals [.non, .non, .non, .ref e_Note___init___leaves] ds_Note___init__
  b_Note___init__ : Binds K d_Note___init__ ["self", "name", "number", "mark", "died", "record", "segment", "leaves"] ds_Note___init__
  f_Note_lives_at : Addr
  d_Note_lives_at : FuncData
  F_Note_lives_at : Fun K "lives_at" "Note.lives_at" s_Note_lives_at f_Note_lives_at d_Note_lives_at
  b_Note_lives_at : Binds K d_Note_lives_at ["self", "moment"] []
  f_Note_matches : Addr
  d_Note_matches : FuncData
  F_Note_matches : Fun K "matches" "Note.matches" s_Note_matches f_Note_matches d_Note_matches
  b_Note_matches : Binds K d_Note_matches ["self", "key", "number", "record"] []
  f_Note___eq__ : Addr
  d_Note___eq__ : FuncData
  F_Note___eq__ : Fun K "__eq__" "Note.__eq__" s_Note___eq__ f_Note___eq__ d_Note___eq__
  b_Note___eq__ : Binds K d_Note___eq__ ["self", "other"] []
  f_is_letter : Addr
  d_is_letter : FuncData
  F_is_letter : Fun K "is_letter" "is_letter" s_is_letter f_is_letter d_is_letter
  b_is_letter : Binds K d_is_letter ["char"] []
  g_is_letter : mg "is_letter" = some (.ref f_is_letter)
  f_is_digit : Addr
  d_is_digit : FuncData
  F_is_digit : Fun K "is_digit" "is_digit" s_is_digit f_is_digit d_is_digit
  b_is_digit : Binds K d_is_digit ["char"] []
  g_is_digit : mg "is_digit" = some (.ref f_is_digit)
  f_is_word : Addr
  d_is_word : FuncData
  F_is_word : Fun K "is_word" "is_word" s_is_word f_is_word d_is_word
  b_is_word : Binds K d_is_word ["text"] []
  g_is_word : mg "is_word" = some (.ref f_is_word)
  f_check_vectors : Addr
  d_check_vectors : FuncData
  F_check_vectors : Fun K "check_vectors" "check_vectors" s_check_vectors f_check_vectors d_check_vectors
  b_check_vectors : Binds K d_check_vectors ["size", "width", "measure"] []
  g_check_vectors : mg "check_vectors" = some (.ref f_check_vectors)
  f_check_fields : Addr
  d_check_fields : FuncData
  F_check_fields : Fun K "check_fields" "check_fields" s_check_fields f_check_fields d_check_fields
  b_check_fields : Binds K d_check_fields ["fields"] []
  g_check_fields : mg "check_fields" = some (.ref f_check_fields)
  f_Schema___init__ : Addr
  d_Schema___init__ : FuncData
  e_Schema___init___fields : Addr
  et_Schema___init___fields : ∀ H, SqT K H e_Schema___init___fields []
  F_Schema___init__ : FunD K "__init__" "Schema.__init__" (defArgs s_Schema___init__) (defBody s_Schema___init__) (defScope s_Schema___init__) [] [("width", .str "small"), ("measure", .str "square"), ("fields", .ref e_Schema___init___fields)] f_Schema___init__ d_Schema___init__
  kb_Schema___init__ : KBn K d_Schema___init__ ["self", "size", "width", "measure", "fields"] 2 ["width", "measure", "fields"] (fun us ws => us ++ ws) (fun vs zs => vs ++ zs)
  ds_Schema___init__ : List Value
  v_Schema___init__ : Vals [.str "small", .str "square", .ref e_Schema___init___fields] ds_Schema___init__
  b_Schema___init__ : Binds K d_Schema___init__ ["self", "size", "width", "measure", "fields"] ds_Schema___init__
  f_law_schema : Addr
  d_law_schema : FuncData
  F_law_schema : Fun K "_law_schema" "_law_schema" s_law_schema f_law_schema d_law_schema
  b_law_schema : Binds K d_law_schema ["state"] []
  g_law_schema : mg "_law_schema" = some (.ref f_law_schema)
  f_law_vector : Addr
  d_law_vector : FuncData
  F_law_vector : Fun K "_law_vector" "_law_vector" s_law_vector f_law_vector d_law_vector
  b_law_vector : Binds K d_law_vector ["state", "schema"] []
  g_law_vector : mg "_law_vector" = some (.ref f_law_vector)
  f_law_record : Addr
  d_law_record : FuncData
  F_law_record : Fun K "_law_record" "_law_record" s_law_record f_law_record d_law_record
  b_law_record : Binds K d_law_record ["state", "schema", "name"] []
  g_law_record : mg "_law_record" = some (.ref f_law_record)
  f_law_other : Addr
  d_law_other : FuncData
  F_law_other : Fun K "_law_other" "_law_other" s_law_other f_law_other d_law_other
  b_law_other : Binds K d_law_other ["state", "schema", "record"] []
  g_law_other : mg "_law_other" = some (.ref f_law_other)
  f_law : Addr
  d_law : FuncData
  F_law : Fun K "law" "law" s_law f_law d_law
  b_law : Binds K d_law ["script"] []
  g_law : mg "law" = some (.ref f_law)
  c_InvalidSchema : Addr
  mc_InvalidSchema : mg "InvalidSchema" = some (.ref c_InvalidSchema)
  kp_InvalidSchema : PySem.W.keepIn K (.ref c_InvalidSchema) = true
  x_InvalidSchema : PySem.W.excIn K c_InvalidSchema [.type "ValueError", .type "Exception", .type "BaseException", .type "object"] "ValueError.__new__" = true
  xb_InvalidSchema : PySem.W.subIn K (.ref c_InvalidSchema) (.type "BaseException") = some true
  xt_InvalidSchema : PySem.W.typeIn K (.ref c_InvalidSchema) = some (.type "type")
  c_Record : Addr
  cl_Record : Cls K c_Record
  mc_Record : mg "Record" = some (.ref c_Record)
  n_Record_name : NoAttr K c_Record "name"
  n_Record_vector : NoAttr K c_Record "vector"
  n_Record_fields : NoAttr K c_Record "fields"
  n_Record_words : NoAttr K c_Record "words"
  mk_Record : Mk K c_Record f_Record___init__
  me_Record___eq__ : Meth K c_Record "__eq__" f_Record___eq__
  ha_Record : PySem.W.findIn K (.ref c_Record) "__class__" = some (some (.builtin "object.__class__"))
  hm_Record : PySem.W.mroIn K c_Record (.type "object") = some true
  ns0_Record : PySem.W.subIn K (.ref c_Record) (.type "NoneType") = some false
  c_Note : Addr
  cl_Note : Cls K c_Note
  mc_Note : mg "Note" = some (.ref c_Note)
  n_Note_name : NoAttr K c_Note "name"
  n_Note_number : NoAttr K c_Note "number"
  n_Note_mark : NoAttr K c_Note "mark"
  n_Note_died : NoAttr K c_Note "died"
  n_Note_record : NoAttr K c_Note "record"
  n_Note_segment : NoAttr K c_Note "segment"
  n_Note_leaves : NoAttr K c_Note "leaves"
  mk_Note : Mk K c_Note f_Note___init__
  me_Note___eq__ : Meth K c_Note "__eq__" f_Note___eq__
  me_Note_lives_at : Meth K c_Note "lives_at" f_Note_lives_at
  me_Note_matches : Meth K c_Note "matches" f_Note_matches
  ha_Note : PySem.W.findIn K (.ref c_Note) "__class__" = some (some (.builtin "object.__class__"))
  hm_Note : PySem.W.mroIn K c_Note (.type "object") = some true
  ne_Note : PySem.W.findIn K (.ref c_Note) "__ne__" = some (some (.builtin "object.__ne__"))
  c_Schema : Addr
  cl_Schema : Cls K c_Schema
  mc_Schema : mg "Schema" = some (.ref c_Schema)
  n_Schema_size : NoAttr K c_Schema "size"
  n_Schema_width : NoAttr K c_Schema "width"
  n_Schema_measure : NoAttr K c_Schema "measure"
  n_Schema_fields : NoAttr K c_Schema "fields"
  mk_Schema : Mk K c_Schema f_Schema___init__
  kit_NoneType_Record : PySem.W.kitOne K (.type "NoneType") (.ref c_Record) = some false
  kit_Record_Record : PySem.W.kitOne K (.ref c_Record) (.ref c_Record) = some true
  kit_Note_Note : PySem.W.kitOne K (.ref c_Note) (.ref c_Note) = some true
  kit_int_Note : PySem.W.kitOne K (.type "int") (.ref c_Note) = some false
  nf_Record_NoneType : PySem.W.notFirst K c_Record (.type "NoneType") = true
  nf_Note_int : PySem.W.notFirst K c_Note (.type "int") = true
  hn0 : PySem.W.specialIn K (.builtin "object.__class__") "__get__" = some (some (.builtin "getset_descriptor.__get__"))
  ht0 : PySem.W.takesIn K (.builtin "object.__class__") = some true
  a_KINDS : Addr
  m_KINDS : mg "KINDS" = some (.ref a_KINDS)
  sq_KINDS : ∀ H, SqT K H a_KINDS [.str "integer", .str "text", .str "flag"]
  a_MEASURES : Addr
  m_MEASURES : mg "MEASURES" = some (.ref a_MEASURES)
  sq_MEASURES : ∀ H, SqT K H a_MEASURES [.str "square", .str "dot", .str "bits"]
  m_MODULUS : ∃ t, mg "MODULUS" = some (.int 4294967291 t)
  a_RESERVED : Addr
  m_RESERVED : mg "RESERVED" = some (.ref a_RESERVED)
  sq_RESERVED : ∀ H, SqT K H a_RESERVED [.str "every", .str "has", .str "in", .str "and", .str "or", .str "not", .str "true", .str "false"]
  a_WIDTHS : Addr
  m_WIDTHS : mg "WIDTHS" = some (.ref a_WIDTHS)
  es_WIDTHS : Array DictEntry
  en_WIDTHS : Nat
  kd_WIDTHS : KDict K w a_WIDTHS es_WIDTHS en_WIDTHS
  av_WIDTHS_bit : Addr
  ns_WIDTHS_bit : PySem.W.nsIn K a_WIDTHS "bit" = some (some (.ref av_WIDTHS_bit))
  sv_WIDTHS_bit : ∀ H, SqT K H av_WIDTHS_bit [.int (0), .int (1)]
  av_WIDTHS_small : Addr
  ns_WIDTHS_small : PySem.W.nsIn K a_WIDTHS "small" = some (some (.ref av_WIDTHS_small))
  sv_WIDTHS_small : ∀ H, SqT K H av_WIDTHS_small [.int (-128), .int (127)]
  av_WIDTHS_wide : Addr
  ns_WIDTHS_wide : PySem.W.nsIn K a_WIDTHS "wide" = some (some (.ref av_WIDTHS_wide))
  sv_WIDTHS_wide : ∀ H, SqT K H av_WIDTHS_wide [.int (-32768), .int (32767)]
  m_all : mg "all" = none
  m_bool : mg "bool" = none
  m_int : mg "int" = none
  m_isinstance : mg "isinstance" = none
  m_len : mg "len" = none
  m_list : mg "list" = none
  m_ord : mg "ord" = none
  m_range : mg "range" = none
  m_set : mg "set" = none
  m_tuple : mg "tuple" = none
section
variable {P : Program} {w : World} {K : PySem.W.Frag} {mg : Str → Option Value} {base : Heap}
def y_Val (T : Txt w K mg) : Ty Val := ⟨fun Z v x => match x with
  | .i y => (yInt).r Z v y
  | .t y => (yStr).r Z v y
  | .b y => (yBool).r Z v y,
  fun {Z Z2 v x} s h => match x, h with
  | .i y, h => (yInt).mono s h
  | .t y, h => (yStr).mono s h
  | .b y, h => (yBool).mono s h⟩
theorem nn_Val (T : Txt w K mg) : NonNil (y_Val T) := fun Z v x h => match x, h with
  | .i y, h => nn_int Z v y h
  | .t y, h => nn_str Z v y h
  | .b y, h => nn_bool Z v y h
theorem ij_Val_i (T : Txt w K mg) {μ : Type} {M : Mu μ} {σ : L2.St} {Z H : Hp} {s s1 : μ} {ta : TE} {x : Int} (h : Ev M ta σ Z H s (ty yInt x) s1) : Ev M ta σ Z H s (ty (y_Val T) (.i x)) s1 := h.weak fun _ _ _ _ e => e
theorem pj_Val_i (T : Txt w K mg) {μ : Type} {M : Mu μ} {σ : L2.St} {Z H : Hp} {s s1 : μ} {ta : TE} {x : Val} {y : Int} (h : Ev M ta σ Z H s (ty (y_Val T) x) s1) (e : x.p_i = some y) : Ev M ta σ Z H s (ty yInt y) s1 := by
  cases x <;> first | (have e := Option.some.inj e; subst e; exact h.weak fun _ _ _ _ e => e) | cases e
theorem ij_Val_t (T : Txt w K mg) {μ : Type} {M : Mu μ} {σ : L2.St} {Z H : Hp} {s s1 : μ} {ta : TE} {x : Str} (h : Ev M ta σ Z H s (ty yStr x) s1) : Ev M ta σ Z H s (ty (y_Val T) (.t x)) s1 := h.weak fun _ _ _ _ e => e
theorem pj_Val_t (T : Txt w K mg) {μ : Type} {M : Mu μ} {σ : L2.St} {Z H : Hp} {s s1 : μ} {ta : TE} {x : Val} {y : Str} (h : Ev M ta σ Z H s (ty (y_Val T) x) s1) (e : x.p_t = some y) : Ev M ta σ Z H s (ty yStr y) s1 := by
  cases x <;> first | (have e := Option.some.inj e; subst e; exact h.weak fun _ _ _ _ e => e) | cases e
theorem ij_Val_b (T : Txt w K mg) {μ : Type} {M : Mu μ} {σ : L2.St} {Z H : Hp} {s s1 : μ} {ta : TE} {x : Bool} (h : Ev M ta σ Z H s (ty yBool x) s1) : Ev M ta σ Z H s (ty (y_Val T) (.b x)) s1 := h.weak fun _ _ _ _ e => e
theorem pj_Val_b (T : Txt w K mg) {μ : Type} {M : Mu μ} {σ : L2.St} {Z H : Hp} {s s1 : μ} {ta : TE} {x : Val} {y : Bool} (h : Ev M ta σ Z H s (ty (y_Val T) x) s1) (e : x.p_b = some y) : Ev M ta σ Z H s (ty yBool y) s1 := by
  cases x <;> first | (have e := Option.some.inj e; subst e; exact h.weak fun _ _ _ _ e => e) | cases e
theorem eqw_Val (T : Txt w K mg) : EqW K (y_Val T) d_Val 8 where
  dp := fun Z H v x sz h => match x, h with
    | .i y, h => EqW.dp (K := K) (τ := yInt) eqd_int.w Z H v y sz h
    | .t y, h => EqW.dp (K := K) (τ := yStr) eqd_str.w Z H v y sz h
    | .b y, h => EqW.dp (K := K) (τ := yBool) eqd_bool.w Z H v y sz h
  lay := fun Z v x h => match x, h with
    | .i y, h => EqW.lay (K := K) (τ := yInt) eqd_int.w Z v y h
    | .t y, h => EqW.lay (K := K) (τ := yStr) eqd_str.w Z v y h
    | .b y, h => EqW.lay (K := K) (τ := yBool) eqd_bool.w Z v y h
  dep := fun x => match x with
    | .i y => Nat.le_trans (EqW.dep (K := K) (τ := yInt) eqd_int.w y) (by decide)
    | .t y => Nat.le_trans (EqW.dep (K := K) (τ := yStr) eqd_str.w y) (by decide)
    | .b y => Nat.le_trans (EqW.dep (K := K) (τ := yBool) eqd_bool.w y) (by decide)
def cls_Val (T : Txt w K mg) : Val → Value
  | .i _ => (.type "int")
  | .t _ => (.type "str")
  | .b _ => (.type "bool")
theorem tx_Val (T : Txt w K mg) {fp : List Addr} {x : Val} : ∀ Z H v, Same Z H → (ty (fp := fp) (y_Val T) x).r Z H v → TyX K H v (cls_Val T x) := fun Z H v sz h => match x, h with
  | .i y, h => tx_int Z H v sz (show (ty (fp := fp) yInt y).r Z H v from h)
  | .t y, h => tx_str Z H v sz (show (ty (fp := fp) yStr y).r Z H v from h)
  | .b y, h => tx_bool Z H v sz (show (ty (fp := fp) yBool y).r Z H v from h)
theorem kit_Val_bool (T : Txt w K mg) (x : Val) : PySem.W.kitOne K (cls_Val T x) (.type "bool") = some (x.is_bool) := match x with
  | .i _ => (show PySem.W.kitOne K (.type "int") (.type "bool") = some false from (kit_ty (by decide +kernel)))
  | .t _ => (show PySem.W.kitOne K (.type "str") (.type "bool") = some false from (kit_ty (by decide +kernel)))
  | .b _ => (show PySem.W.kitOne K (.type "bool") (.type "bool") = some true from (kit_ty (by decide +kernel)))
theorem kit_Val_int (T : Txt w K mg) (x : Val) : PySem.W.kitOne K (cls_Val T x) (.type "int") = some (x.is_int) := match x with
  | .i _ => (show PySem.W.kitOne K (.type "int") (.type "int") = some true from (kit_ty (by decide +kernel)))
  | .t _ => (show PySem.W.kitOne K (.type "str") (.type "int") = some false from (kit_ty (by decide +kernel)))
  | .b _ => (show PySem.W.kitOne K (.type "bool") (.type "int") = some true from (kit_ty (by decide +kernel)))
def y_Record (T : Txt w K mg) : Ty Record := ⟨fun Z v x => ∃ a dx w0 w1 w2 w3, v = .ref a ∧ Z a = some (.ins T.c_Record dx (ff_Record w0 w1 w2 w3)) ∧ (yStr).r Z w0 x.name ∧ ((yTup K yInt)).r Z w1 x.vector ∧ ((yTup K (yP2 K yStr (y_Val T)))).r Z w2 x.fields ∧ ((yTup K (yP2 K yStr yInt))).r Z w3 x.words,
  fun s ⟨a, dx, w0, w1, w2, w3, e, h, h0, h1, h2, h3⟩ => ⟨a, dx, w0, w1, w2, w3, e, s _ _ h, (yStr).mono s h0, ((yTup K yInt)).mono s h1, ((yTup K (yP2 K yStr (y_Val T)))).mono s h2, ((yTup K (yP2 K yStr yInt))).mono s h3⟩⟩
theorem nn_Record (T : Txt w K mg) : NonNil (y_Record T) := fun _ _ _ ⟨_, _, _, _, _, _, e, _⟩ => by rw [e]; exact fun z => nomatch z
theorem fo_Record_name (T : Txt w K mg) : FldOf (y_Record T) T.c_Record "name" yStr Record.name := fun _ _ _ ⟨a, dx, w0, w1, w2, w3, e, h, h0, h1, h2, h3⟩ => ⟨a, dx, _, w0, e, h, lk_Record_name, h0⟩
theorem fo_Record_vector (T : Txt w K mg) : FldOf (y_Record T) T.c_Record "vector" (yTup K yInt) Record.vector := fun _ _ _ ⟨a, dx, w0, w1, w2, w3, e, h, h0, h1, h2, h3⟩ => ⟨a, dx, _, w1, e, h, lk_Record_vector, h1⟩
theorem fo_Record_fields (T : Txt w K mg) : FldOf (y_Record T) T.c_Record "fields" (yTup K (yP2 K yStr (y_Val T))) Record.fields := fun _ _ _ ⟨a, dx, w0, w1, w2, w3, e, h, h0, h1, h2, h3⟩ => ⟨a, dx, _, w2, e, h, lk_Record_fields, h2⟩
theorem fo_Record_words (T : Txt w K mg) : FldOf (y_Record T) T.c_Record "words" (yTup K (yP2 K yStr yInt)) Record.words := fun _ _ _ ⟨a, dx, w0, w1, w2, w3, e, h, h0, h1, h2, h3⟩ => ⟨a, dx, _, w3, e, h, lk_Record_words, h3⟩
theorem tx_Record (T : Txt w K mg) {fp : List Addr} {x : Record} : ∀ Z H v, Same Z H → (ty (fp := fp) (y_Record T) x).r Z H v → TyX K H v (.ref T.c_Record) := fun _ _ _ sz ⟨a, dx, w0, w1, w2, w3, e, h, _⟩ => by subst e; exact .base (.ins (sz _ _ h) T.cl_Record T.ha_Record T.hn0 T.ht0 T.hm_Record)
theorem oo_Record (T : Txt w K mg) {m : Str} (h : ¬ m = "name" ∧ ¬ m = "vector" ∧ ¬ m = "fields" ∧ ¬ m = "words") : ObjOf (y_Record T) T.c_Record m := fun _ _ _ ⟨a, dx, w0, w1, w2, w3, e, g, _⟩ => ⟨a, dx, _, e, g, no_Record (h.1) (h.2.1) (h.2.2.1) (h.2.2.2)⟩
theorem ins_Record (T : Txt w K mg) : ∀ Z v x, (y_Record T).r Z v x → ∃ a dx fs, v = .ref a ∧ Z a = some (.ins T.c_Record dx fs) := fun _ _ _ ⟨a, dx, _, _, _, _, e, h, _⟩ => ⟨a, dx, _, e, h⟩
def y_Note (T : Txt w K mg) : Ty Note := ⟨fun Z v x => ∃ a dx w0 w1 w2 w3 w4 w5 w6, v = .ref a ∧ Z a = some (.ins T.c_Note dx (ff_Note w0 w1 w2 w3 w4 w5 w6)) ∧ (yStr).r Z w0 x.name ∧ (yInt).r Z w1 x.number ∧ ((yTup K yInt)).r Z w2 x.mark ∧ ((yOpt yInt)).r Z w3 x.died ∧ ((yOpt (y_Record T))).r Z w4 x.record ∧ ((yOpt yInt)).r Z w5 x.segment ∧ ((yTup K yInt)).r Z w6 x.leaves,
  fun s ⟨a, dx, w0, w1, w2, w3, w4, w5, w6, e, h, h0, h1, h2, h3, h4, h5, h6⟩ => ⟨a, dx, w0, w1, w2, w3, w4, w5, w6, e, s _ _ h, (yStr).mono s h0, (yInt).mono s h1, ((yTup K yInt)).mono s h2, ((yOpt yInt)).mono s h3, ((yOpt (y_Record T))).mono s h4, ((yOpt yInt)).mono s h5, ((yTup K yInt)).mono s h6⟩⟩
theorem nn_Note (T : Txt w K mg) : NonNil (y_Note T) := fun _ _ _ ⟨_, _, _, _, _, _, _, _, _, e, _⟩ => by rw [e]; exact fun z => nomatch z
theorem fo_Note_name (T : Txt w K mg) : FldOf (y_Note T) T.c_Note "name" yStr Note.name := fun _ _ _ ⟨a, dx, w0, w1, w2, w3, w4, w5, w6, e, h, h0, h1, h2, h3, h4, h5, h6⟩ => ⟨a, dx, _, w0, e, h, lk_Note_name, h0⟩
theorem fo_Note_number (T : Txt w K mg) : FldOf (y_Note T) T.c_Note "number" yInt Note.number := fun _ _ _ ⟨a, dx, w0, w1, w2, w3, w4, w5, w6, e, h, h0, h1, h2, h3, h4, h5, h6⟩ => ⟨a, dx, _, w1, e, h, lk_Note_number, h1⟩
theorem fo_Note_mark (T : Txt w K mg) : FldOf (y_Note T) T.c_Note "mark" (yTup K yInt) Note.mark := fun _ _ _ ⟨a, dx, w0, w1, w2, w3, w4, w5, w6, e, h, h0, h1, h2, h3, h4, h5, h6⟩ => ⟨a, dx, _, w2, e, h, lk_Note_mark, h2⟩
theorem fo_Note_died (T : Txt w K mg) : FldOf (y_Note T) T.c_Note "died" (yOpt yInt) Note.died := fun _ _ _ ⟨a, dx, w0, w1, w2, w3, w4, w5, w6, e, h, h0, h1, h2, h3, h4, h5, h6⟩ => ⟨a, dx, _, w3, e, h, lk_Note_died, h3⟩
theorem fo_Note_record (T : Txt w K mg) : FldOf (y_Note T) T.c_Note "record" (yOpt (y_Record T)) Note.record := fun _ _ _ ⟨a, dx, w0, w1, w2, w3, w4, w5, w6, e, h, h0, h1, h2, h3, h4, h5, h6⟩ => ⟨a, dx, _, w4, e, h, lk_Note_record, h4⟩
theorem fo_Note_segment (T : Txt w K mg) : FldOf (y_Note T) T.c_Note "segment" (yOpt yInt) Note.segment := fun _ _ _ ⟨a, dx, w0, w1, w2, w3, w4, w5, w6, e, h, h0, h1, h2, h3, h4, h5, h6⟩ => ⟨a, dx, _, w5, e, h, lk_Note_segment, h5⟩
theorem fo_Note_leaves (T : Txt w K mg) : FldOf (y_Note T) T.c_Note "leaves" (yTup K yInt) Note.leaves := fun _ _ _ ⟨a, dx, w0, w1, w2, w3, w4, w5, w6, e, h, h0, h1, h2, h3, h4, h5, h6⟩ => ⟨a, dx, _, w6, e, h, lk_Note_leaves, h6⟩
theorem tx_Note (T : Txt w K mg) {fp : List Addr} {x : Note} : ∀ Z H v, Same Z H → (ty (fp := fp) (y_Note T) x).r Z H v → TyX K H v (.ref T.c_Note) := fun _ _ _ sz ⟨a, dx, w0, w1, w2, w3, w4, w5, w6, e, h, _⟩ => by subst e; exact .base (.ins (sz _ _ h) T.cl_Note T.ha_Note T.hn0 T.ht0 T.hm_Note)
theorem oo_Note (T : Txt w K mg) {m : Str} (h : ¬ m = "name" ∧ ¬ m = "number" ∧ ¬ m = "mark" ∧ ¬ m = "died" ∧ ¬ m = "record" ∧ ¬ m = "segment" ∧ ¬ m = "leaves") : ObjOf (y_Note T) T.c_Note m := fun _ _ _ ⟨a, dx, w0, w1, w2, w3, w4, w5, w6, e, g, _⟩ => ⟨a, dx, _, e, g, no_Note (h.1) (h.2.1) (h.2.2.1) (h.2.2.2.1) (h.2.2.2.2.1) (h.2.2.2.2.2.1) (h.2.2.2.2.2.2)⟩
theorem ins_Note (T : Txt w K mg) : ∀ Z v x, (y_Note T).r Z v x → ∃ a dx fs, v = .ref a ∧ Z a = some (.ins T.c_Note dx fs) := fun _ _ _ ⟨a, dx, _, _, _, _, _, _, _, e, h, _⟩ => ⟨a, dx, _, e, h⟩
def y_Schema (T : Txt w K mg) : Ty Schema := ⟨fun Z v x => ∃ a dx w0 w1 w2 w3, v = .ref a ∧ Z a = some (.ins T.c_Schema dx (ff_Schema w0 w1 w2 w3)) ∧ (yInt).r Z w0 x.size ∧ (yStr).r Z w1 x.width ∧ (yStr).r Z w2 x.measure ∧ ((yTup K (yP2 K yStr yStr))).r Z w3 x.fields,
  fun s ⟨a, dx, w0, w1, w2, w3, e, h, h0, h1, h2, h3⟩ => ⟨a, dx, w0, w1, w2, w3, e, s _ _ h, (yInt).mono s h0, (yStr).mono s h1, (yStr).mono s h2, ((yTup K (yP2 K yStr yStr))).mono s h3⟩⟩
theorem nn_Schema (T : Txt w K mg) : NonNil (y_Schema T) := fun _ _ _ ⟨_, _, _, _, _, _, e, _⟩ => by rw [e]; exact fun z => nomatch z
theorem fo_Schema_size (T : Txt w K mg) : FldOf (y_Schema T) T.c_Schema "size" yInt Schema.size := fun _ _ _ ⟨a, dx, w0, w1, w2, w3, e, h, h0, h1, h2, h3⟩ => ⟨a, dx, _, w0, e, h, lk_Schema_size, h0⟩
theorem fo_Schema_width (T : Txt w K mg) : FldOf (y_Schema T) T.c_Schema "width" yStr Schema.width := fun _ _ _ ⟨a, dx, w0, w1, w2, w3, e, h, h0, h1, h2, h3⟩ => ⟨a, dx, _, w1, e, h, lk_Schema_width, h1⟩
theorem fo_Schema_measure (T : Txt w K mg) : FldOf (y_Schema T) T.c_Schema "measure" yStr Schema.measure := fun _ _ _ ⟨a, dx, w0, w1, w2, w3, e, h, h0, h1, h2, h3⟩ => ⟨a, dx, _, w2, e, h, lk_Schema_measure, h2⟩
theorem fo_Schema_fields (T : Txt w K mg) : FldOf (y_Schema T) T.c_Schema "fields" (yTup K (yP2 K yStr yStr)) Schema.fields := fun _ _ _ ⟨a, dx, w0, w1, w2, w3, e, h, h0, h1, h2, h3⟩ => ⟨a, dx, _, w3, e, h, lk_Schema_fields, h3⟩
theorem oo_Schema (T : Txt w K mg) {m : Str} (h : ¬ m = "size" ∧ ¬ m = "width" ∧ ¬ m = "measure" ∧ ¬ m = "fields") : ObjOf (y_Schema T) T.c_Schema m := fun _ _ _ ⟨a, dx, w0, w1, w2, w3, e, g, _⟩ => ⟨a, dx, _, e, g, no_Schema (h.1) (h.2.1) (h.2.2.1) (h.2.2.2)⟩
def y_NoteI (T : Txt w K mg) : Ty NoteI := ⟨fun Z v x => match x with
  | .n y => ((y_Note T)).r Z v y
  | .i y => (yInt).r Z v y,
  fun {Z Z2 v x} s h => match x, h with
  | .n y, h => ((y_Note T)).mono s h
  | .i y, h => (yInt).mono s h⟩
theorem nn_NoteI (T : Txt w K mg) : NonNil (y_NoteI T) := fun Z v x h => match x, h with
  | .n y, h => (nn_Note T) Z v y h
  | .i y, h => nn_int Z v y h
theorem ij_NoteI_n (T : Txt w K mg) {μ : Type} {M : Mu μ} {σ : L2.St} {Z H : Hp} {s s1 : μ} {ta : TE} {x : Note} (h : Ev M ta σ Z H s (ty (y_Note T) x) s1) : Ev M ta σ Z H s (ty (y_NoteI T) (.n x)) s1 := h.weak fun _ _ _ _ e => e
theorem pj_NoteI_n (T : Txt w K mg) {μ : Type} {M : Mu μ} {σ : L2.St} {Z H : Hp} {s s1 : μ} {ta : TE} {x : NoteI} {y : Note} (h : Ev M ta σ Z H s (ty (y_NoteI T) x) s1) (e : x.p_n = some y) : Ev M ta σ Z H s (ty (y_Note T) y) s1 := by
  cases x <;> first | (have e := Option.some.inj e; subst e; exact h.weak fun _ _ _ _ e => e) | cases e
theorem ij_NoteI_i (T : Txt w K mg) {μ : Type} {M : Mu μ} {σ : L2.St} {Z H : Hp} {s s1 : μ} {ta : TE} {x : Int} (h : Ev M ta σ Z H s (ty yInt x) s1) : Ev M ta σ Z H s (ty (y_NoteI T) (.i x)) s1 := h.weak fun _ _ _ _ e => e
theorem pj_NoteI_i (T : Txt w K mg) {μ : Type} {M : Mu μ} {σ : L2.St} {Z H : Hp} {s s1 : μ} {ta : TE} {x : NoteI} {y : Int} (h : Ev M ta σ Z H s (ty (y_NoteI T) x) s1) (e : x.p_i = some y) : Ev M ta σ Z H s (ty yInt y) s1 := by
  cases x <;> first | (have e := Option.some.inj e; subst e; exact h.weak fun _ _ _ _ e => e) | cases e
def cls_NoteI (T : Txt w K mg) : NoteI → Value
  | .n _ => (.ref T.c_Note)
  | .i _ => (.type "int")
theorem tx_NoteI (T : Txt w K mg) {fp : List Addr} {x : NoteI} : ∀ Z H v, Same Z H → (ty (fp := fp) (y_NoteI T) x).r Z H v → TyX K H v (cls_NoteI T x) := fun Z H v sz h => match x, h with
  | .n y, h => (tx_Note T) Z H v sz (show (ty (fp := fp) (y_Note T) y).r Z H v from h)
  | .i y, h => tx_int Z H v sz (show (ty (fp := fp) yInt y).r Z H v from h)
theorem kit_NoteI_Note (T : Txt w K mg) (x : NoteI) : PySem.W.kitOne K (cls_NoteI T x) (.ref T.c_Note) = some (x.is_Note) := match x with
  | .n _ => (show PySem.W.kitOne K (.ref T.c_Note) (.ref T.c_Note) = some true from T.kit_Note_Note)
  | .i _ => (show PySem.W.kitOne K (.type "int") (.ref T.c_Note) = some false from T.kit_int_Note)
theorem nfs_Note_NoteI (T : Txt w K mg) (x : NoteI) : PySem.W.notFirst K T.c_Note (cls_NoteI T x) = true := match x with
  | .n _ => TPN.nf_self
  | .i _ => T.nf_Note_int
theorem fs_NoteI_name (T : Txt w K mg) {μ : Type} {M : Mu μ} {σ : L2.St} {Z H : Hp} {s s1 : μ} {ta : TE} {x : NoteI} {y : Str} (ha : Ev M ta σ Z H s (ty (y_NoteI T) x) s1) (e : x.f_name = some y) : Ev M (tFld K ta "name") σ Z H s (ty yStr y) s1 := by
  cases x with
  | n z => have e := Option.some.inj e; subst e; exact ev_fld (fo_Note_name T) T.cl_Note T.n_Note_name (ha.weak (R' := ty (y_Note T) z) fun _ _ _ _ e => e)
  | i z => cases e
theorem fs_NoteI_number (T : Txt w K mg) {μ : Type} {M : Mu μ} {σ : L2.St} {Z H : Hp} {s s1 : μ} {ta : TE} {x : NoteI} {y : Int} (ha : Ev M ta σ Z H s (ty (y_NoteI T) x) s1) (e : x.f_number = some y) : Ev M (tFld K ta "number") σ Z H s (ty yInt y) s1 := by
  cases x with
  | n z => have e := Option.some.inj e; subst e; exact ev_fld (fo_Note_number T) T.cl_Note T.n_Note_number (ha.weak (R' := ty (y_Note T) z) fun _ _ _ _ e => e)
  | i z => cases e
theorem fs_NoteI_mark (T : Txt w K mg) {μ : Type} {M : Mu μ} {σ : L2.St} {Z H : Hp} {s s1 : μ} {ta : TE} {x : NoteI} {y : (List Int)} (ha : Ev M ta σ Z H s (ty (y_NoteI T) x) s1) (e : x.f_mark = some y) : Ev M (tFld K ta "mark") σ Z H s (ty (yTup K yInt) y) s1 := by
  cases x with
  | n z => have e := Option.some.inj e; subst e; exact ev_fld (fo_Note_mark T) T.cl_Note T.n_Note_mark (ha.weak (R' := ty (y_Note T) z) fun _ _ _ _ e => e)
  | i z => cases e
theorem fs_NoteI_died (T : Txt w K mg) {μ : Type} {M : Mu μ} {σ : L2.St} {Z H : Hp} {s s1 : μ} {ta : TE} {x : NoteI} {y : (Option Int)} (ha : Ev M ta σ Z H s (ty (y_NoteI T) x) s1) (e : x.f_died = some y) : Ev M (tFld K ta "died") σ Z H s (ty (yOpt yInt) y) s1 := by
  cases x with
  | n z => have e := Option.some.inj e; subst e; exact ev_fld (fo_Note_died T) T.cl_Note T.n_Note_died (ha.weak (R' := ty (y_Note T) z) fun _ _ _ _ e => e)
  | i z => cases e
theorem fs_NoteI_record (T : Txt w K mg) {μ : Type} {M : Mu μ} {σ : L2.St} {Z H : Hp} {s s1 : μ} {ta : TE} {x : NoteI} {y : (Option Record)} (ha : Ev M ta σ Z H s (ty (y_NoteI T) x) s1) (e : x.f_record = some y) : Ev M (tFld K ta "record") σ Z H s (ty (yOpt (y_Record T)) y) s1 := by
  cases x with
  | n z => have e := Option.some.inj e; subst e; exact ev_fld (fo_Note_record T) T.cl_Note T.n_Note_record (ha.weak (R' := ty (y_Note T) z) fun _ _ _ _ e => e)
  | i z => cases e
theorem fs_NoteI_segment (T : Txt w K mg) {μ : Type} {M : Mu μ} {σ : L2.St} {Z H : Hp} {s s1 : μ} {ta : TE} {x : NoteI} {y : (Option Int)} (ha : Ev M ta σ Z H s (ty (y_NoteI T) x) s1) (e : x.f_segment = some y) : Ev M (tFld K ta "segment") σ Z H s (ty (yOpt yInt) y) s1 := by
  cases x with
  | n z => have e := Option.some.inj e; subst e; exact ev_fld (fo_Note_segment T) T.cl_Note T.n_Note_segment (ha.weak (R' := ty (y_Note T) z) fun _ _ _ _ e => e)
  | i z => cases e
theorem fs_NoteI_leaves (T : Txt w K mg) {μ : Type} {M : Mu μ} {σ : L2.St} {Z H : Hp} {s s1 : μ} {ta : TE} {x : NoteI} {y : (List Int)} (ha : Ev M ta σ Z H s (ty (y_NoteI T) x) s1) (e : x.f_leaves = some y) : Ev M (tFld K ta "leaves") σ Z H s (ty (yTup K yInt) y) s1 := by
  cases x with
  | n z => have e := Option.some.inj e; subst e; exact ev_fld (fo_Note_leaves T) T.cl_Note T.n_Note_leaves (ha.weak (R' := ty (y_Note T) z) fun _ _ _ _ e => e)
  | i z => cases e
theorem ev_in_WIDTHS (T : Txt w K mg) {μ : Type} {M : Mu μ} {σ : L2.St} {Z H : Hp} {s s1 : μ} {ta : TE} {z : Str} {b : Bool} (ha : Ev M ta σ Z H s (ty yStr z) s1) (h : in_WIDTHS z = some b) :
    Ev M (tOp (fun x y H Q => ∃ (z : Str) (r : Option Value), x = .str z ∧ y = .ref T.a_WIDTHS ∧ PySem.W.nsIn K T.a_WIDTHS z = some r ∧ Q (.bl (r.isSome)) H) ta (tC (.ref T.a_WIDTHS))) σ Z H s (ty yBool (b)) s1 := by
  have key : ∃ r, PySem.W.nsIn K T.a_WIDTHS z = some r ∧ r.isSome = b := by
    unfold in_WIDTHS at h
    by_cases q : z = "bit"
    · subst q
      rw [if_pos rfl] at h
      have h := Option.some.inj h
      subst h
      exact ⟨_, T.ns_WIDTHS_bit, rfl⟩
    rw [if_neg q] at h
    by_cases q : z = "small"
    · subst q
      rw [if_pos rfl] at h
      have h := Option.some.inj h
      subst h
      exact ⟨_, T.ns_WIDTHS_small, rfl⟩
    rw [if_neg q] at h
    by_cases q : z = "wide"
    · subst q
      rw [if_pos rfl] at h
      have h := Option.some.inj h
      subst h
      exact ⟨_, T.ns_WIDTHS_wide, rfl⟩
    rw [if_neg q] at h
    cases h
  obtain ⟨r, hr, hb⟩ := key
  subst hb
  exact ev_op ha (ev_of (R := ⟨fun _ _ v => v = .ref T.a_WIDTHS, fun _ h => h⟩) fun _ _ _ _ _ _ q => q _ rfl) fun _ _ _ _ sz e1 e2 _ q => ⟨z, r, e1.1, e2, hr, q _ _ _ (Step.refl sz) rfl⟩
theorem ev_notin_WIDTHS (T : Txt w K mg) {μ : Type} {M : Mu μ} {σ : L2.St} {Z H : Hp} {s s1 : μ} {ta : TE} {z : Str} {b : Bool} (ha : Ev M ta σ Z H s (ty yStr z) s1) (h : in_WIDTHS z = some b) :
    Ev M (tOp (fun x y H Q => ∃ (z : Str) (r : Option Value), x = .str z ∧ y = .ref T.a_WIDTHS ∧ PySem.W.nsIn K T.a_WIDTHS z = some r ∧ Q (.bl (!r.isSome)) H) ta (tC (.ref T.a_WIDTHS))) σ Z H s (ty yBool (!b)) s1 := by
  have key : ∃ r, PySem.W.nsIn K T.a_WIDTHS z = some r ∧ r.isSome = b := by
    unfold in_WIDTHS at h
    by_cases q : z = "bit"
    · subst q
      rw [if_pos rfl] at h
      have h := Option.some.inj h
      subst h
      exact ⟨_, T.ns_WIDTHS_bit, rfl⟩
    rw [if_neg q] at h
    by_cases q : z = "small"
    · subst q
      rw [if_pos rfl] at h
      have h := Option.some.inj h
      subst h
      exact ⟨_, T.ns_WIDTHS_small, rfl⟩
    rw [if_neg q] at h
    by_cases q : z = "wide"
    · subst q
      rw [if_pos rfl] at h
      have h := Option.some.inj h
      subst h
      exact ⟨_, T.ns_WIDTHS_wide, rfl⟩
    rw [if_neg q] at h
    cases h
  obtain ⟨r, hr, hb⟩ := key
  subst hb
  exact ev_op ha (ev_of (R := ⟨fun _ _ v => v = .ref T.a_WIDTHS, fun _ h => h⟩) fun _ _ _ _ _ _ q => q _ rfl) fun _ _ _ _ sz e1 e2 _ q => ⟨z, r, e1.1, e2, hr, q _ _ _ (Step.refl sz) rfl⟩
def exv (T : Txt w K mg) : Exc → Value
  | .InvalidSchema => .ref T.c_InvalidSchema

def sp_law_row (T : Txt w K mg) : Sp := fun vs H Q _ => ∃ (sc : Addr) (ns : List Int) (k : Nat), vs = [.ref sc, .int (k : Nat)] ∧ (H sc = some (.lst (ns.map V.int))) ∧ Q (.int (rowZ ns k)) H
set_option maxHeartbeats 4000000 in
theorem ok_law_row (T : Txt w K mg) : FnOk P w K mg base CX0 1 T.f_law_row T.d_law_row ["script", "k"] (sp_law_row T) := by
  refine T.F_law_row.ok sc_law_row (fun vs H Q E h => ?_) (fun cdv A outer s H vs Q E hr h => ?_)
  · obtain ⟨sc, ns, k, rfl, _⟩ := h
    rfl
  · obtain ⟨sc, ns, k, rfl, hS, q⟩ := h
    refine ⟨_, (pss_cons (ps_set (i := 2) sc_law_row.nd rfl (.inl rfl) pe_int) 
      (pss_cut (ps_if (pt_cmpR op_lt (pv 1) (pe_callB call_len_seq (by rfl) T.m_len PySem.boot_len (pa_cons (pv 0) pa_nil)) (nomark _)) (pss_one (ps_set (i := 2) sc_law_row.nd rfl (.inl rfl) (pe_ix ix_list (pv 0) (pv 1) (fun _ _ => rfl)))) pss_nil) 
      (pss_cut (ps_if (pt_cmpR op_lt (pv 2) pe_int (nomark _)) (pss_one (ps_set (i := 2) sc_law_row.nd rfl (.inl rfl) (pe_op op_sub (pe_op op_mul (pe_un un_neg pe_int) (pv 2)) pe_int))) pss_nil) 
      (pss_cut (ps_if (pt_cmpR op_lt (pv 2) (pe_op op_pow pe_int pe_int) (nomark _)) (pss_cons (ps_set (i := 3) sc_law_row.nd rfl (.inl rfl) (pe_op op_mod (pe_callTy call_int1 (by rfl) T.m_int (by decide +kernel) (pa_cons (pe_op op_add (pe_op op_add (pe_op op_mul (pv 2) pe_int) (pe_op op_mul (pv 1) pe_int)) pe_int) pa_nil)) pe_int)) 
      (pss_cons (ps_set (i := 4) sc_law_row.nd rfl (.inl rfl) (pe_op op_mod (pe_callTy call_int1 (by rfl) T.m_int (by decide +kernel) (pa_cons (pe_op op_add (pe_op op_add (pe_op op_add (pe_op op_mul (pv 3) pe_int) (pe_op op_mul (pv 2) pe_int)) (pv 1)) pe_int) pa_nil)) pe_int)) 
      (pss_cons (ps_set (i := 5) sc_law_row.nd rfl (.inl rfl) (pe_op op_mod (pe_callTy call_int1 (by rfl) T.m_int (by decide +kernel) (pa_cons (pe_op op_add (pe_op op_add (pe_op op_mul (pv 4) pe_int) (pe_op op_mul (pv 3) (pv 4))) pe_int) pa_nil)) pe_int)) 
      (pss_one (ps_set (i := 2) sc_law_row.nd rfl (.inl rfl) (pe_op op_add (pe_op op_add (pv 3) (pe_op op_mul (pv 4) pe_int)) (pe_op op_mul (pv 5) (pe_op op_pow pe_int pe_int)))))))) pss_nil) 
      (pss_one (ps_ret (pv 2))))))), ?_⟩
    -- if k < len(script): cell = script[k]
    refine ⟨fun σ' H' => H' = H ∧ σ' = [some (.ref sc), some (.int (k : Nat)), some (.int (ns.getD k 0)), none, none, none], ?_, ?_⟩
    · refine ⟨_, rfl, _, rfl, sc, _, rfl, .inl (SqL.of hS), _, _, rfl, rfl, _, rfl, ite2 (fun e => ?_) (fun e => ?_)⟩
      · have hl : (k : Int) < ((ns.map V.int).length : Int) := of_decide_eq_true e
        rw [List.length_map] at hl
        have hk : k < ns.length := by omega
        exact ⟨_, rfl, _, rfl, sc, _, (k : Nat), .int (ns.getD k 0), rfl, rfl, SqL.of hS, at_of (j := k) rfl (by rw [List.getElem?_map, getD_lt hk]; rfl), rfl, rfl⟩
      · have hl : ¬ (k : Int) < ((ns.map V.int).length : Int) := fun h => e (decide_eq_true h)
        rw [List.length_map] at hl
        have hk : ¬ k < ns.length := by omega
        exact ⟨rfl, by rw [getD_ge hk]; rfl⟩
    rintro σ' H' ⟨rfl, rfl⟩
    -- if cell < 0: cell = -2 * cell - 1
    refine ⟨fun σ' H2 => H2 = H' ∧ σ' = [some (.ref sc), some (.int (k : Nat)), some (.int (row1 ns k)), none, none, none], ?_, ?_⟩
    · refine ⟨_, rfl, _, _, rfl, rfl, _, rfl, ite2 (fun e => ?_) (fun e => ?_)⟩
      · have hc : ns.getD k 0 < 0 := of_decide_eq_true e
        refine ⟨2, rfl, _, rfl, _, _, rfl, rfl, .inl ⟨by decide, by decide⟩, _, _, rfl, rfl, rfl, ?_⟩
        unfold row1
        rw [if_pos hc]
        rfl
      · have hc : ¬ ns.getD k 0 < 0 := fun h => e (decide_eq_true h)
        exact ⟨rfl, by unfold row1; rw [if_neg hc]⟩
    rintro σ' H2 ⟨rfl, rfl⟩
    have c0 := row1_nn ns k
    -- if cell < 10 ** 9: ..
    refine ⟨fun σ' H' => H' = H2 ∧ ∃ (x y z : Option V), σ' = [some (.ref sc), some (.int (k : Nat)), some (.int (rowZ ns k)), x, y, z], ?_, ?_⟩
    · refine ⟨_, rfl, _, _, rfl, rfl, ⟨by decide, by decide, by decide⟩, _, _, rfl, rfl, _, rfl, ite2 (fun e => ?_) (fun e => ?_)⟩
      · have h9 : row1 ns k < 10 ^ 9 := of_decide_eq_true e
        rw [rowZ_lo h9]
        generalize row1 ns k = c at h9 c0
        refine ⟨_, rfl, _, _, rfl, rfl, .inr ⟨by decide, by decide⟩, _, rfl, _, _, rfl, rfl, .inr ⟨by decide, by decide⟩, _, _, rfl, rfl, _, _, rfl, rfl, .inl ⟨_, rfl, ?_⟩⟩
        refine ⟨_, _, rfl, rfl, (by decide : (0 : Int) < 2147483647), ?_⟩
        dsimp only
        refine ⟨_, rfl, _, _, rfl, rfl, .inr ⟨by decide, by decide⟩, _, rfl, _, _, rfl, rfl, .inr ⟨by decide, by decide⟩, _, _, rfl, rfl, _, rfl, _, _, rfl, rfl, _, _, rfl, rfl, .inl ⟨_, rfl, ?_⟩⟩
        refine ⟨_, _, rfl, rfl, (by decide : (0 : Int) < 2147483629), ?_⟩
        dsimp only
        refine ⟨_, rfl, _, _, rfl, rfl, .inr ⟨by decide, by decide⟩, _, rfl, _, rfl, _, _, rfl, rfl, .inl ⟨by omega, by omega⟩, _, _, rfl, rfl, _, _, rfl, rfl, .inl ⟨_, rfl, ?_⟩⟩
        refine ⟨_, _, rfl, rfl, (by decide : (0 : Int) < 2147483587), ?_⟩
        dsimp only
        refine ⟨_, rfl, _, rfl, _, _, rfl, rfl, .inr ⟨by decide, by decide⟩, _, _, rfl, rfl, _, rfl, _, _, rfl, rfl, ⟨by decide, by decide, by decide⟩, _, _, rfl, rfl, .inr ⟨by decide, by decide⟩, _, _, rfl, rfl, rfl, _, _, _, rfl⟩
      · have h9 : ¬ row1 ns k < 10 ^ 9 := fun h => e (decide_eq_true h)
        rw [rowZ_hi h9]
        exact ⟨rfl, _, _, _, rfl⟩
    rintro σ' H' ⟨rfl, x, y, z, rfl⟩
    exact ⟨_, rfl, q⟩
def sp_law_next (T : Txt w K mg) : Sp := fun vs H Q _ => ∃ (st sc : Addr) (Z0 : Hp) (ds : DS) (v_many : V) (m : Int), vs = [.ref st, v_many] ∧ (Same Z0 H) ∧ ((muD st sc).m ds Z0 H) ∧ (v_many = .int m) ∧ (NxOk m) ∧ ∀ v Z' H', Step (muD st sc).fp Z0 H Z' H' → (muD st sc).m (nxS ds m) Z' H' → yInt.r Z' v (nxV ds m) → Q v H'
set_option maxHeartbeats 4000000 in
theorem ok_law_next (T : Txt w K mg) : FnOk P w K mg base CX0 2 T.f_law_next T.d_law_next ["state", "many"] (sp_law_next T) := by
  have G_law_row : FnOk P w K mg base CX0 1 T.f_law_row T.d_law_row ["script", "k"] (sp_law_row T) := ok_law_row T
  refine T.F_law_next.ok sc_law_next (fun vs H Q E h => ?_) (fun cdv A outer s H vs Q E hr h => ?_)
  · obtain ⟨st, sc, Z0, ds, v_many, m, rfl, _⟩ := h
    rfl
  · obtain ⟨st, sc, Z0, ds, v_many, m, rfl, sz, hm, h_many, hok, q⟩ := h
    refine ⟨_, (pss_cut (ps_if (pt_cmpR op_lt (pe_ix ix_list (pv 0) pe_int (fun _ _ => rfl)) (pv 1) (nomark _)) (pss_cons (ps_asg (pe_call G_law_row (hr.mono (by decide)) (by rfl) T.g_law_row T.F_law_row.kp T.b_law_row .nil pass0 (pa_cons (pe_ix ix_list (pv 0) pe_int (fun _ _ => rfl)) (pa_cons (pe_ix ix_list (pv 0) pe_int (fun _ _ => rfl)) pa_nil))) (pg_sub (pv 0) pe_int set_list)) 
      (pss_one (ps_asg (pe_op op_add (pe_ix ix_list (pv 0) pe_int (fun _ _ => rfl)) pe_int) (pg_sub (pv 0) pe_int set_list)))) pss_nil) 
      (pss_cons (ps_set (i := 2) sc_law_next.nd rfl (.inl rfl) (pe_op op_mod (pe_callTy call_int1 (by rfl) T.m_int (by decide +kernel) (pa_cons (pe_ix ix_list (pv 0) pe_int (fun _ _ => rfl)) pa_nil)) (pv 1))) 
      (pss_cons (ps_asg (pe_op op_fdivW (pe_ix ix_list (pv 0) pe_int (fun _ _ => rfl)) (pv 1)) (pg_sub (pv 0) pe_int set_list)) 
      (pss_one (ps_ret (pv 2)))))), ?_⟩
    obtain ⟨m0, m1⟩ := hok
    subst h_many
    obtain ⟨h1, h2, h3⟩ := hm
    obtain ⟨ns, k, x⟩ := ds
    have g2 : H sc = some (.lst (ns.map V.int)) := sz _ _ h2
    have ne : sc ≠ st := fun e => by rw [e] at h2; rw [h2] at h3; cases h3
    refine ⟨fun σ' H' => Step [st] Z0 H Z0 H' ∧ σ' = [some (.ref st), some (.int m), none] ∧ H' st = some (.lst [.ref sc, .int ((if (x : Int) < m then k + 1 else k : Nat) : Int), .int ((DS.cur ⟨ns, k, x⟩ m : Nat) : Int)]), ?_, ?_⟩
    · refine ⟨_, rfl, st, _, _, _, rfl, rfl, SqL.of h1, at_of (j := 2) rfl rfl, _, rfl, _, _, rfl, rfl, _, rfl, ite2 (fun e => ?_) (fun e => ?_)⟩
      · have hlt : (x : Int) < m := of_decide_eq_true e
        refine ⟨_, rfl, st, _, _, _, rfl, rfl, SqL.of h1, at_of (j := 0) rfl rfl, _, rfl, st, _, _, _, rfl, rfl, SqL.of h1, at_of (j := 1) rfl rfl, sc, ns, k, rfl, g2, ?_⟩
        refine ⟨_, rfl, st, _, _, 2, rfl, rfl, h1, rfl, ?_⟩
        refine ⟨_, rfl, st, _, _, _, rfl, rfl, SqL.of upd_same, at_of (j := 1) rfl rfl, _, _, rfl, rfl, _, rfl, st, _, _, 1, rfl, rfl, upd_same, rfl, ?_⟩
        refine ⟨(Step.set sz h3).trans (Step.set (Step.set sz h3).s h3), rfl, ?_⟩
        rw [upd_same, if_pos hlt]
        have : ((DS.cur ⟨ns, k, x⟩ m : Nat) : Int) = rowZ ns k := by
          unfold DS.cur
          rw [if_pos hlt]
          have := rowZ_nn ns k
          show (((rowZ ns k).toNat : Nat) : Int) = rowZ ns k
          omega
        rw [this]
        rfl
      · have hlt : ¬ (x : Int) < m := fun h => e (decide_eq_true h)
        refine ⟨Step.refl sz, rfl, ?_⟩
        rw [h1, if_neg hlt]
        unfold DS.cur
        rw [if_neg hlt]
    rintro σ' H' ⟨hO, rfl, h4⟩
    -- drawn = int(state[2]) % many
    refine ⟨_, rfl, st, _, _, _, rfl, rfl, SqL.of h4, at_of (j := 2) rfl rfl, .inl ⟨_, rfl, ?_⟩⟩
    refine ⟨_, rfl, _, _, rfl, rfl, m0, ?_⟩
    -- state[2] = state[2] // many
    refine ⟨_, rfl, st, _, _, _, rfl, rfl, SqL.of h4, at_of (j := 2) rfl rfl, _, rfl, _, _, rfl, rfl, wide_div m0 m1 (by decide) (by decide), ?_⟩
    refine ⟨_, rfl, st, _, _, 2, rfl, rfl, h4, rfl, ?_⟩
    have nn : 0 ≤ ((DS.cur ⟨ns, k, x⟩ m : Nat) : Int) / m := Int.ediv_nonneg (Int.natCast_nonneg _) (by omega)
    refine ⟨_, rfl, q _ Z0 _ (hO.trans (Step.set hO.s h3)) ⟨?_, h2, h3⟩ rfl⟩
    rw [upd_same]
    show some (HO.lst [_, _, _]) = some (HO.lst [_, _, V.int (((((DS.cur ⟨ns, k, x⟩ m : Nat) : Int) / m).toNat : Nat) : Int)])
    rw [Int.toNat_of_nonneg nn]
    rfl
theorem cs__law_next (T : Txt w K mg) {st sc : Addr} {ds : DS} {E : XK} {m : Int} (h : NxOk m) : CallS (muD st sc) (sp_law_next T) E (rac (isRef st) (rac (ty yInt m) ra0)) ds (ty yInt (nxV ds m)) (nxS ds m) := by
  rintro Z H vs sz mm ⟨_, _, rfl, rfl, v_many, _, rfl, h_many, rfl⟩ Q q
  exact ⟨st, sc, Z, ds, v_many, m, rfl, sz, mm, h_many, h, q⟩
def sp_kind_of_value (T : Txt w K mg) : Sp := fun vs H Q _ => ∃ (Z0 : Hp) (v_worth : V) (x_worth : Val), vs = [v_worth] ∧ (Same Z0 H) ∧ (((y_Val T)).r Z0 v_worth x_worth) ∧ ∀ v Z' H', Step [] Z0 H Z' H' → (yStr).r Z' v (F_kind_of_value x_worth) → Q v H'
set_option maxHeartbeats 4000000 in
theorem ok_kind_of_value (T : Txt w K mg) : FnOk P w K mg base CX0 1 T.f_kind_of_value T.d_kind_of_value ["worth"] (sp_kind_of_value T) := by
  refine T.F_kind_of_value.ok sc_kind_of_value (fun vs H Q E h => ?_) (fun cdv A outer s H vs Q E hr h => ?_)
  · obtain ⟨Z0, v_worth, x_worth, rfl, _⟩ := h
    rfl
  · obtain ⟨Z0, v_worth, x_worth, rfl, sz, h_worth, q⟩ := h
    refine ⟨_, (pss_cons (ps_if (pt_val (pe_callB call_isi (by rfl) T.m_isinstance (by decide +kernel) (pa_cons (pv 0) (pa_cons (pe_bltn (v := .ty "bool") (u := .type "bool") (by rfl) T.m_bool (by decide +kernel) rfl) pa_nil)))) (pss_one (ps_ret pe_str)) pss_nil) 
      (pss_cons (ps_if (pt_val (pe_callB call_isi (by rfl) T.m_isinstance (by decide +kernel) (pa_cons (pv 0) (pa_cons (pe_bltn (v := .ty "int") (u := .type "int") (by rfl) T.m_int (by decide +kernel) rfl) pa_nil)))) (pss_one (ps_ret pe_str)) pss_nil) 
      (pss_one (ps_ret pe_str)))), ?_⟩
    have P := Pt.start0 sz
    generalize hF : F_kind_of_value x_worth = y at q
    unfold F_kind_of_value at hF
    refine st_seq (st_if P (et_val (ev_isi (b := x_worth.is_bool) (fun _ _ _ h => h) (ev_var (τ := (y_Val T)) rfl h_worth) (tx_Val T) (.ty _) (kit_Val_bool T _))) (fun b_1 Z1 H1 e P1 => ?_) (fun b_1 Z1 H1 e P1 => ?_))
    · replace P := P1
      have hB := ifT b_1 hF
      replace hF := hB
      clear hB
      subst hF
      refine st_ret P ev_str (fun v Z1 H1 P1 hv => ?_)
      exact q v _ _ P1.st hv
    · replace P := P1
      have hB := ifF b_1 hF
      replace hF := hB
      clear hB
      refine st_next0 ?_
      replace h_worth := ((y_Val T)).mono e.z h_worth
      refine st_seq (st_if P (et_val (ev_isi (b := x_worth.is_int) (fun _ _ _ h => h) (ev_var (τ := (y_Val T)) rfl h_worth) (tx_Val T) (.ty _) (kit_Val_int T _))) (fun b_2 Z1 H1 e P1 => ?_) (fun b_2 Z1 H1 e P1 => ?_))
      · replace P := P1
        have hB := ifT b_2 hF
        replace hF := hB
        clear hB
        subst hF
        refine st_ret P ev_str (fun v Z1 H1 P1 hv => ?_)
        exact q v _ _ P1.st hv
      · replace P := P1
        have hB := ifF b_2 hF
        replace hF := hB
        clear hB
        refine st_next0 ?_
        subst hF
        refine st_ret P ev_str (fun v Z1 H1 P1 hv => ?_)
        exact q v _ _ P1.st hv
theorem cs_kind_of_value (T : Txt w K mg) {μ : Type} {M : Mu μ} {s : μ} {E : XK} {x_worth : Val} : CallS M (sp_kind_of_value T) E (rac (ty (y_Val T) x_worth) ra0) s (ty yStr (F_kind_of_value x_worth)) s := by
  rintro Z H vs sz m ⟨v_worth, _, rfl, h_worth, rfl⟩ Q q
  exact ⟨Z, v_worth, x_worth, rfl, sz, h_worth, fun v Z2 H2 st hv => q v Z2 H2 st.pure (M.pure st m) hv⟩
def sp_string_part (T : Txt w K mg) : Sp := fun vs H Q _ => ∃ (Z0 : Hp) (v_text : V) (x_text : Str) (y : (List Int)), vs = [v_text] ∧ (Same Z0 H) ∧ ((yStr).r Z0 v_text x_text) ∧ (F_string_part x_text = some y) ∧ ∀ v Z' H', Step [] Z0 H Z' H' → ((yList yInt)).r Z' v y → Q v H'
set_option maxHeartbeats 4000000 in
theorem ok_string_part (T : Txt w K mg) : FnOk P w K mg base CX0 1 T.f_string_part T.d_string_part ["text"] (sp_string_part T) := by
  refine T.F_string_part.ok sc_string_part (fun vs H Q E h => ?_) (fun cdv A outer s H vs Q E hr h => ?_)
  · obtain ⟨Z0, v_text, x_text, y, rfl, _⟩ := h
    rfl
  · obtain ⟨Z0, v_text, x_text, y, rfl, sz, h_text, hF, q⟩ := h
    refine ⟨_, (pss_one (ps_ret (pe_op op_cat (pe_lst (pa_cons (pe_callB call_len_str (by rfl) T.m_len PySem.boot_len (pa_cons (pv 0) pa_nil)) pa_nil)) (pe_lc (own := [("char", 1)]) (g := gName 1) rfl sc_string_part.nd (pi_str (pv 0)) (blkOk_by (own := [("char", 1)]) (N := ["text", "char"]) (sc := defScope s_string_part) (by decide +kernel)) (fun _ _ _ _ _ => (pg_name (i := 1) sc_string_part.nd rfl (Or.inl rfl))) (fun _ _ _ _ _ => pts_nil) (fun _ _ _ _ _ => (pe_callB call_ord (by rfl) T.m_ord (by decide +kernel) (pa_cons (pv 1) pa_nil))))))), ?_⟩
    have P := Pt.start0 sz
    unfold F_string_part at hF
    obtain ⟨l_13, h_14, hF⟩ := bind_inv hF
    obtain ⟨g_15, hF⟩ := guard_inv hF
    replace hF := Option.some.inj hF
    subst hF
    refine st_ret P (ev_fz (en_cat (ev_li (ev_fz (en_listD (eva_conss (ev_len_str (ev_var (τ := yStr) rfl h_text)) (eva_nils (τ := yInt))) (by show 1 ≤ sizeLine; decide)))) (ev_li (ev_fz (en_mapO (fun (x_9 : Str) => (if x_9.length = 1 then
    some ((x_9.cps.getD 0 0 : Nat) : Int) else none : Option Int)) (ei_str (ev_var (τ := yStr) rfl h_text)) (fun x_9 v_10 Z' H' p zz hh rx_11 hp => by
          have hy := hp
          obtain ⟨g_12, hy⟩ := guard_inv hy
          have hy := Option.some.inj hy
          subst hy
          exact ⟨_, tgt_name, rfl, (ev_ord (ev_var (τ := yStr) rfl rx_11) g_12)⟩) h_14))) g_15)) (fun v Z1 H1 P1 hv => ?_)
    exact q v _ _ P1.st hv
theorem cs_string_part (T : Txt w K mg) {μ : Type} {M : Mu μ} {s : μ} {E : XK} {x_text : Str} {y : (List Int)} (h : F_string_part x_text = some y) : CallS M (sp_string_part T) E (rac (ty yStr x_text) ra0) s (ty (yList yInt) y) s := by
  rintro Z H vs sz m ⟨v_text, _, rfl, h_text, rfl⟩ Q q
  exact ⟨Z, v_text, x_text, y, rfl, sz, h_text, h, fun v Z2 H2 st hv => q v Z2 H2 st.pure (M.pure st m) hv⟩
def sp_value_part (T : Txt w K mg) : Sp := fun vs H Q _ => ∃ (Z0 : Hp) (v_worth : V) (x_worth : Val) (y : (List Int)), vs = [v_worth] ∧ (Same Z0 H) ∧ (((y_Val T)).r Z0 v_worth x_worth) ∧ (F_value_part x_worth = some y) ∧ ∀ v Z' H', Step [] Z0 H Z' H' → ((yList yInt)).r Z' v y → Q v H'
set_option maxHeartbeats 4000000 in
theorem ok_value_part (T : Txt w K mg) : FnOk P w K mg base CX0 2 T.f_value_part T.d_value_part ["worth"] (sp_value_part T) := by
  have G_string_part : FnOk P w K mg base CX0 1 T.f_string_part T.d_string_part ["text"] (sp_string_part T) := ok_string_part T
  have G_kind_of_value : FnOk P w K mg base CX0 1 T.f_kind_of_value T.d_kind_of_value ["worth"] (sp_kind_of_value T) := ok_kind_of_value T
  refine T.F_value_part.ok sc_value_part (fun vs H Q E h => ?_) (fun cdv A outer s H vs Q E hr h => ?_)
  · obtain ⟨Z0, v_worth, x_worth, y, rfl, _⟩ := h
    rfl
  · obtain ⟨Z0, v_worth, x_worth, y, rfl, sz, h_worth, hF, q⟩ := h
    refine ⟨_, (pss_cons (ps_set (i := 1) sc_value_part.nd rfl (.inl rfl) (pe_call G_kind_of_value (hr.mono (by decide)) (by rfl) T.g_kind_of_value T.F_kind_of_value.kp T.b_kind_of_value .nil pass0 (pa_cons (pv 0) pa_nil))) 
      (pss_cons (ps_if (pt_cmpR op_eq (pv 1) pe_str (nomark _)) (pss_one (ps_ret (pe_lst (pa_cons pe_int (pa_cons (pv 0) pa_nil))))) pss_nil) 
      (pss_cons (ps_if (pt_cmpR op_eq (pv 1) pe_str (nomark _)) (pss_one (ps_ret (pe_op op_cat (pe_lst (pa_cons pe_int pa_nil)) (pe_call G_string_part (hr.mono (by decide)) (by rfl) T.g_string_part T.F_string_part.kp T.b_string_part .nil pass0 (pa_cons (pv 0) pa_nil))))) pss_nil) 
      (pss_one (ps_ret (pe_lst (pa_cons pe_int (pa_cons (pe_ifExp (pt_val (pv 0)) pe_int pe_int) pa_nil)))))))), ?_⟩
    have P := Pt.start0 sz
    unfold F_value_part at hF
    refine st_seq (st_set P (ev_call (cs_kind_of_value T) (eva_cons (ev_var (τ := (y_Val T)) rfl h_worth) eva_nil)) (fun v_21 Z1 H1 e P1 k_22 => ?_))
    refine st_nx ?_
    replace P := P1
    replace h_worth := ((y_Val T)).mono e.z h_worth
    refine st_seq (st_if P (et_cmp (ev_eq flat_str (ev_var (τ := yStr) rfl k_22) ev_str)) (fun b_23 Z1 H1 e P1 => ?_) (fun b_23 Z1 H1 e P1 => ?_))
    · replace P := P1
      have hB := ifT b_23 hF
      replace hF := hB
      clear hB
      replace h_worth := ((y_Val T)).mono e.z h_worth
      obtain ⟨u_24, h_25, hF⟩ := bind_inv hF
      replace hF := Option.some.inj hF
      subst hF
      refine st_ret P (ev_fz (en_listD (eva_conss ev_int (eva_conss (pj_Val_i T (ev_var (τ := (y_Val T)) rfl h_worth) h_25) (eva_nils (τ := yInt)))) (by show 2 ≤ sizeLine; decide))) (fun v Z1 H1 P1 hv => ?_)
      exact q v _ _ P1.st hv
    · replace P := P1
      have hB := ifF b_23 hF
      replace hF := hB
      clear hB
      refine st_next0 ?_
      replace h_worth := ((y_Val T)).mono e.z h_worth
      refine st_seq (st_if P (et_cmp (ev_eq flat_str (ev_var (τ := yStr) rfl k_22) ev_str)) (fun b_26 Z1 H1 e P1 => ?_) (fun b_26 Z1 H1 e P1 => ?_))
      · replace P := P1
        have hB := ifT b_26 hF
        replace hF := hB
        clear hB
        replace h_worth := ((y_Val T)).mono e.z h_worth
        obtain ⟨u_27, h_28, hF⟩ := bind_inv hF
        obtain ⟨r_29, h_30, hF⟩ := bind_inv hF
        obtain ⟨g_31, hF⟩ := guard_inv hF
        replace hF := Option.some.inj hF
        subst hF
        refine st_ret P (ev_fz (en_cat (ev_li (ev_fz (en_listD (eva_conss ev_int (eva_nils (τ := yInt))) (by show 1 ≤ sizeLine; decide)))) (ev_li (ev_call (cs_string_part T h_30) (eva_cons (pj_Val_t T (ev_var (τ := (y_Val T)) rfl h_worth) h_28) eva_nil))) g_31)) (fun v Z1 H1 P1 hv => ?_)
        exact q v _ _ P1.st hv
      · replace P := P1
        have hB := ifF b_26 hF
        replace hF := hB
        clear hB
        refine st_next0 ?_
        replace h_worth := ((y_Val T)).mono e.z h_worth
        obtain ⟨u_32, h_33, hF⟩ := bind_inv hF
        replace hF := Option.some.inj hF
        subst hF
        refine st_ret P (ev_fz (en_listD (eva_conss ev_int (eva_conss (ev_if0 (et_val (pj_Val_b T (ev_var (τ := (y_Val T)) rfl h_worth) h_33)) ev_int ev_int) (eva_nils (τ := yInt)))) (by show 2 ≤ sizeLine; decide))) (fun v Z1 H1 P1 hv => ?_)
        exact q v _ _ P1.st hv
theorem cs_value_part (T : Txt w K mg) {μ : Type} {M : Mu μ} {s : μ} {E : XK} {x_worth : Val} {y : (List Int)} (h : F_value_part x_worth = some y) : CallS M (sp_value_part T) E (rac (ty (y_Val T) x_worth) ra0) s (ty (yList yInt) y) s := by
  rintro Z H vs sz m ⟨v_worth, _, rfl, h_worth, rfl⟩ Q q
  exact ⟨Z, v_worth, x_worth, y, rfl, sz, h_worth, h, fun v Z2 H2 st hv => q v Z2 H2 st.pure (M.pure st m) hv⟩
def sp_row_of (T : Txt w K mg) : Sp := fun vs H Q _ => ∃ (Z0 : Hp) (v_number : V) (v_record : V) (x_number : Int) (x_record : Record) (y : (List Int)), vs = [v_number, v_record] ∧ (Same Z0 H) ∧ ((yInt).r Z0 v_number x_number) ∧ (((y_Record T)).r Z0 v_record x_record) ∧ (F_row_of x_number x_record = some y) ∧ ∀ v Z' H', Step [] Z0 H Z' H' → ((yList yInt)).r Z' v y → Q v H'
set_option maxHeartbeats 4000000 in
theorem ok_row_of (T : Txt w K mg) : FnOk P w K mg base CX0 3 T.f_row_of T.d_row_of ["number", "record"] (sp_row_of T) := by
  have G_string_part : FnOk P w K mg base CX0 1 T.f_string_part T.d_string_part ["text"] (sp_string_part T) := ok_string_part T
  have G_value_part : FnOk P w K mg base CX0 2 T.f_value_part T.d_value_part ["worth"] (sp_value_part T) := ok_value_part T
  refine T.F_row_of.ok sc_row_of (fun vs H Q E h => ?_) (fun cdv A outer s H vs Q E hr h => ?_)
  · obtain ⟨Z0, v_number, v_record, x_number, x_record, y, rfl, _⟩ := h
    rfl
  · obtain ⟨Z0, v_number, v_record, x_number, x_record, y, rfl, sz, h_number, h_record, hF, q⟩ := h
    refine ⟨_, (pss_cons (ps_set (i := 2) sc_row_of.nd rfl (.inl rfl) (pe_lst (pa_cons (pv 0) pa_nil))) 
      (pss_cons (ps_expr (pe_bm PySem.F.plainAttrs_list PySem.F.slot_list_extend PySem.F.type_list_extend mt_extend (pv 2) (pa_cons (pe_call G_string_part (hr.mono (by decide)) (by rfl) T.g_string_part T.F_string_part.kp T.b_string_part .nil pass0 (pa_cons (pe_fld (pv 1) rfl) pa_nil)) pa_nil))) 
      (pss_cons (ps_expr (pe_bm PySem.F.plainAttrs_list PySem.F.slot_list_append PySem.F.type_list_append mt_append (pv 2) (pa_cons (pe_callB call_len_seq (by rfl) T.m_len PySem.boot_len (pa_cons (pe_fld (pv 1) rfl) pa_nil)) pa_nil))) 
      (pss_cons (ps_expr (pe_bm PySem.F.plainAttrs_list PySem.F.slot_list_extend PySem.F.type_list_extend mt_extendT (pv 2) (pa_cons (pe_fld (pv 1) rfl) pa_nil))) 
      (pss_cons (ps_expr (pe_bm PySem.F.plainAttrs_list PySem.F.slot_list_append PySem.F.type_list_append mt_append (pv 2) (pa_cons (pe_callB call_len_seq (by rfl) T.m_len PySem.boot_len (pa_cons (pe_fld (pv 1) rfl) pa_nil)) pa_nil))) 
      (pss_cons (ps_for PassesOwn.never rfl (pi_tup (pe_fld (pv 1) rfl)) (pg_tup rfl (pgs_cons (pg_name (i := 3) sc_row_of.nd rfl (.inl rfl)) (pgs_cons (pg_name (i := 4) sc_row_of.nd rfl (.inl rfl)) pgs_nil))) (pss_cons (ps_expr (pe_bm PySem.F.plainAttrs_list PySem.F.slot_list_extend PySem.F.type_list_extend mt_extend (pv 2) (pa_cons (pe_call G_string_part (hr.mono (by decide)) (by rfl) T.g_string_part T.F_string_part.kp T.b_string_part .nil pass0 (pa_cons (pv 3) pa_nil)) pa_nil))) 
      (pss_one (ps_expr (pe_bm PySem.F.plainAttrs_list PySem.F.slot_list_extend PySem.F.type_list_extend mt_extend (pv 2) (pa_cons (pe_call G_value_part (hr.mono (by decide)) (by rfl) T.g_value_part T.F_value_part.kp T.b_value_part .nil pass0 (pa_cons (pv 4) pa_nil)) pa_nil)))))) 
      (pss_cons (ps_expr (pe_bm PySem.F.plainAttrs_list PySem.F.slot_list_append PySem.F.type_list_append mt_append (pv 2) (pa_cons (pe_callB call_len_seq (by rfl) T.m_len PySem.boot_len (pa_cons (pe_fld (pv 1) rfl) pa_nil)) pa_nil))) 
      (pss_cons (ps_for PassesOwn.never rfl (pi_tup (pe_fld (pv 1) rfl)) (pg_tup rfl (pgs_cons (pg_name (i := 5) sc_row_of.nd rfl (.inl rfl)) (pgs_cons (pg_name (i := 6) sc_row_of.nd rfl (.inl rfl)) pgs_nil))) (pss_cons (ps_expr (pe_bm PySem.F.plainAttrs_list PySem.F.slot_list_extend PySem.F.type_list_extend mt_extend (pv 2) (pa_cons (pe_call G_string_part (hr.mono (by decide)) (by rfl) T.g_string_part T.F_string_part.kp T.b_string_part .nil pass0 (pa_cons (pv 5) pa_nil)) pa_nil))) 
      (pss_one (ps_expr (pe_bm PySem.F.plainAttrs_list PySem.F.slot_list_append PySem.F.type_list_append mt_append (pv 2) (pa_cons (pv 6) pa_nil)))))) 
      (pss_one (ps_ret (pv 2))))))))))), ?_⟩
    have P := Pt.start0 sz
    unfold F_row_of at hF
    refine st_seq (st_setN (τ := yInt) P (en_listD (eva_conss (ev_var (τ := yInt) rfl h_number) (eva_nils (τ := yInt))) (by show 1 ≤ sizeLine; decide)) (fun p_47 Z1 H1 e P1 fr_49 o_48 => ?_))
    refine st_nx ?_
    replace P := P1
    replace h_record := ((y_Record T)).mono e.z h_record
    obtain ⟨r_50, h_51, hF⟩ := bind_inv hF
    obtain ⟨g_52, hF⟩ := guard_inv hF
    refine st_seq (st_extend P o_48 rfl (ev_call (cs_string_part T h_51) (eva_cons (ev_fld (fo_Record_name T) T.cl_Record T.n_Record_name (ev_var (τ := (y_Record T)) rfl h_record)) eva_nil)) g_52 (fun Z1 H1 e P1 o_53 => ?_))
    refine st_nx ?_
    replace P := P1
    replace h_record := ((y_Record T)).mono e.z h_record
    obtain ⟨g_54, hF⟩ := guard_inv hF
    refine st_seq (st_append P o_53 rfl (ev_lenT (fun _ _ _ h => h) (ev_fld (fo_Record_vector T) T.cl_Record T.n_Record_vector (ev_var (τ := (y_Record T)) rfl h_record))) g_54 (fun Z1 H1 e P1 o_55 => ?_))
    refine st_nx ?_
    replace P := P1
    replace h_record := ((y_Record T)).mono e.z h_record
    obtain ⟨g_56, hF⟩ := guard_inv hF
    refine st_seq (st_extendT P o_55 rfl (ev_fld (fo_Record_vector T) T.cl_Record T.n_Record_vector (ev_var (τ := (y_Record T)) rfl h_record)) g_56 (fun Z1 H1 e P1 o_57 => ?_))
    refine st_nx ?_
    replace P := P1
    replace h_record := ((y_Record T)).mono e.z h_record
    obtain ⟨g_58, hF⟩ := guard_inv hF
    refine st_seq (st_append P o_57 rfl (ev_lenT (fun _ _ _ h => h) (ev_fld (fo_Record_fields T) T.cl_Record T.n_Record_fields (ev_var (τ := (y_Record T)) rfl h_record))) g_58 (fun Z1 H1 e P1 o_59 => ?_))
    refine st_nx ?_
    replace P := P1
    replace h_record := ((y_Record T)).mono e.z h_record
    obtain ⟨f_98, hL_99, hF⟩ := bind_inv hF
    refine st_seq (st_for (τ := (yP2 K yStr (y_Val T))) (fun (r_62 : List (Str × Val)) σ' Z' H' => ∃ w_60, ∃ (y_67 : Option V) (y_70 : Option V) (y_71 : Option V) (y_72 : Option V) (y_73 : Option V), σ' = [y_67, some v_record, some (.ref p_47), y_70, y_71, y_72, y_73] ∧ Pt [] Z0 H muN Z' H' () ∧ ((y_Record T)).r Z' v_record x_record ∧ Own [] H muN.fp Z' H' yInt p_47 w_60 ∧ forF L_row_of_1 r_62 w_60 = some f_98) P (ei_tup (ev_fld (fo_Record_fields T) T.cl_Record T.n_Record_fields (ev_var (τ := (y_Record T)) rfl h_record))) ?_ ?_ ?_)
    · rintro Z1 H1 e P1
      replace P := P1
      replace h_record := ((y_Record T)).mono e.z h_record
      replace o_59 := o_59.next e
      exact ⟨((((([x_number] : List Int) ++ r_50) ++ [(x_record.vector.length : Int)]) ++ x_record.vector) ++ [(x_record.fields.length : Int)]), _, _, _, _, _, rfl, P, h_record, o_59, hL_99⟩
    · rintro Zb_66 Hb eb x_61 r_62 σ' v_82 Z1 H1 Z2 H2 zs_65 ⟨w_60, y_67, y_70, y_71, y_72, y_73, rfl, P, k_68, o_69, hq_64⟩ e hx_83
      replace P := P.item e
      replace k_68 := ((y_Record T)).mono e.z k_68
      replace o_69 := o_69.step e List.not_mem_nil
      replace zs_65 := zs_65.trans e.z
      obtain ⟨u_84, hB_63, hq_64⟩ := bind_inv (forF_cons hq_64)
      unfold L_row_of_1 at hB_63
      obtain ⟨v_85, v_86, k_87, k_88, tg_89⟩ := tgt_p2 hx_83
      refine (tg_89 tgt_name tgt_name) _ P.sub _ ?_
      obtain ⟨r_90, h_91, hB_63⟩ := bind_inv hB_63
      obtain ⟨g_92, hB_63⟩ := guard_inv hB_63
      refine st_seq (st_extend P o_69 rfl (ev_call (cs_string_part T h_91) (eva_cons (ev_var (τ := yStr) rfl k_87) eva_nil)) g_92 (fun Z1 H1 e P1 o_93 => ?_))
      refine st_nx ?_
      replace P := P1
      replace k_68 := ((y_Record T)).mono e.z k_68
      replace k_88 := ((y_Val T)).mono e.z k_88
      replace zs_65 := zs_65.trans e.z
      obtain ⟨r_94, h_95, hB_63⟩ := bind_inv hB_63
      obtain ⟨g_96, hB_63⟩ := guard_inv hB_63
      refine st_extend P o_93 rfl (ev_call (cs_value_part T h_95) (eva_cons (ev_var (τ := (y_Val T)) rfl k_88) eva_nil)) g_96 (fun Z1 H1 e P1 o_97 => ?_)
      replace P := P1
      replace k_68 := ((y_Record T)).mono e.z k_68
      replace zs_65 := zs_65.trans e.z
      replace hB_63 := Option.some.inj hB_63
      subst hB_63
      exact ⟨_, zs_65, P.sub, ((w_60 ++ r_90) ++ r_94), _, _, _, _, _, rfl, P, k_68, o_97, hq_64⟩
    rintro σ' Z1 H1 _ _ ⟨w_74, y_67, y_70, y_71, y_72, y_73, rfl, P, k_76, o_77, hl⟩
    have hz := (forF_nil hl).symm
    subst hz
    refine st_nx ?_
    obtain ⟨g_100, hF⟩ := guard_inv hF
    refine st_seq (st_append P o_77 rfl (ev_lenT (fun _ _ _ h => h) (ev_fld (fo_Record_words T) T.cl_Record T.n_Record_words (ev_var (τ := (y_Record T)) rfl k_76))) g_100 (fun Z1 H1 e P1 o_101 => ?_))
    refine st_nx ?_
    replace P := P1
    replace k_76 := ((y_Record T)).mono e.z k_76
    obtain ⟨f_138, hL_139, hF⟩ := bind_inv hF
    refine st_seq (st_for (τ := (yP2 K yStr yInt)) (fun (r_104 : List (Str × Int)) σ' Z' H' => ∃ w_102, ∃ (y_109 : Option V) (y_110 : Option V) (y_112 : Option V) (y_113 : Option V) (y_114 : Option V) (y_115 : Option V), σ' = [y_109, y_110, some (.ref p_47), y_112, y_113, y_114, y_115] ∧ Pt [] Z0 H muN Z' H' () ∧ Own [] H muN.fp Z' H' yInt p_47 w_102 ∧ forF L_row_of_2 r_104 w_102 = some f_138) P (ei_tup (ev_fld (fo_Record_words T) T.cl_Record T.n_Record_words (ev_var (τ := (y_Record T)) rfl k_76))) ?_ ?_ ?_)
    · rintro Z1 H1 e P1
      replace P := P1
      replace k_76 := ((y_Record T)).mono e.z k_76
      replace o_101 := o_101.next e
      exact ⟨(w_74 ++ [(x_record.words.length : Int)]), _, _, _, _, _, _, rfl, P, o_101, hL_139⟩
    · rintro Zb_108 Hb eb x_103 r_104 σ' v_124 Z1 H1 Z2 H2 zs_107 ⟨w_102, y_109, y_110, y_112, y_113, y_114, y_115, rfl, P, o_111, hq_106⟩ e hx_125
      replace P := P.item e
      replace o_111 := o_111.step e List.not_mem_nil
      replace zs_107 := zs_107.trans e.z
      obtain ⟨u_126, hB_105, hq_106⟩ := bind_inv (forF_cons hq_106)
      unfold L_row_of_2 at hB_105
      obtain ⟨v_127, v_128, k_129, k_130, tg_131⟩ := tgt_p2 hx_125
      refine (tg_131 tgt_name tgt_name) _ P.sub _ ?_
      obtain ⟨r_132, h_133, hB_105⟩ := bind_inv hB_105
      obtain ⟨g_134, hB_105⟩ := guard_inv hB_105
      refine st_seq (st_extend P o_111 rfl (ev_call (cs_string_part T h_133) (eva_cons (ev_var (τ := yStr) rfl k_129) eva_nil)) g_134 (fun Z1 H1 e P1 o_135 => ?_))
      refine st_nx ?_
      replace P := P1
      replace zs_107 := zs_107.trans e.z
      obtain ⟨g_136, hB_105⟩ := guard_inv hB_105
      refine st_append P o_135 rfl (ev_var (τ := yInt) rfl k_130) g_136 (fun Z1 H1 e P1 o_137 => ?_)
      replace P := P1
      replace zs_107 := zs_107.trans e.z
      replace hB_105 := Option.some.inj hB_105
      subst hB_105
      exact ⟨_, zs_107, P.sub, ((w_102 ++ r_132) ++ [x_103.2]), _, _, _, _, _, _, rfl, P, o_137, hq_106⟩
    rintro σ' Z1 H1 _ _ ⟨w_116, y_109, y_110, y_112, y_113, y_114, y_115, rfl, P, o_119, hl⟩
    have hz := (forF_nil hl).symm
    subst hz
    refine st_nx ?_
    obtain ⟨Z, P, zf, hf, of⟩ := o_119.fz P
    have k_140 := hf
    clear hf zf of
    replace hF := Option.some.inj hF
    subst hF
    refine st_ret P (ev_var (τ := (yList yInt)) rfl k_140) (fun v Z1 H1 P1 hv => ?_)
    exact q v _ _ P1.st hv
theorem cs_row_of (T : Txt w K mg) {μ : Type} {M : Mu μ} {s : μ} {E : XK} {x_number : Int} {x_record : Record} {y : (List Int)} (h : F_row_of x_number x_record = some y) : CallS M (sp_row_of T) E (rac (ty yInt x_number) (rac (ty (y_Record T) x_record) ra0)) s (ty (yList yInt) y) s := by
  rintro Z H vs sz m ⟨v_number, _, rfl, h_number, ⟨v_record, _, rfl, h_record, rfl⟩⟩ Q q
  exact ⟨Z, v_number, v_record, x_number, x_record, y, rfl, sz, h_number, h_record, h, fun v Z2 H2 st hv => q v Z2 H2 st.pure (M.pure st m) hv⟩
def sp_remainder_of (T : Txt w K mg) : Sp := fun vs H Q _ => ∃ (Z0 : Hp) (v_row : V) (v_factor : V) (x_row : (List Int)) (x_factor : Int) (y : Int), vs = [v_row, v_factor] ∧ (Same Z0 H) ∧ (((yList yInt)).r Z0 v_row x_row) ∧ ((yInt).r Z0 v_factor x_factor) ∧ (F_remainder_of x_row x_factor = some y) ∧ ∀ v Z' H', Step [] Z0 H Z' H' → (yInt).r Z' v y → Q v H'
set_option maxHeartbeats 4000000 in
theorem ok_remainder_of (T : Txt w K mg) : FnOk P w K mg base CX0 1 T.f_remainder_of T.d_remainder_of ["row", "factor"] (sp_remainder_of T) := by
  refine T.F_remainder_of.ok sc_remainder_of (fun vs H Q E h => ?_) (fun cdv A outer s H vs Q E hr h => ?_)
  · obtain ⟨Z0, v_row, v_factor, x_row, x_factor, y, rfl, _⟩ := h
    rfl
  · obtain ⟨Z0, v_row, v_factor, x_row, x_factor, y, rfl, sz, h_row, h_factor, hF, q⟩ := h
    refine ⟨_, (pss_cons (ps_set (i := 2) sc_remainder_of.nd rfl (.inl rfl) pe_int) 
      (pss_cons (ps_for PassesOwn.never rfl (pi_list (pv 0)) (pg_name (i := 3) sc_remainder_of.nd rfl (.inl rfl)) (pss_one (ps_set (i := 2) sc_remainder_of.nd rfl (.inl rfl) (pe_op op_mod (pe_op op_add (pe_op op_add (pe_op op_mul (pv 2) (pv 1)) (pv 3)) pe_int) (pe_glob (v := .int 4294967291) rfl T.m_MODULUS.choose_spec ⟨_, rfl⟩))))) 
      (pss_one (ps_ret (pv 2))))), ?_⟩
    have P := Pt.start0 sz
    unfold F_remainder_of at hF
    refine st_seq (st_set P ev_int (fun v_143 Z1 H1 e P1 k_144 => ?_))
    refine st_nx ?_
    replace P := P1
    replace h_row := ((yList yInt)).mono e.z h_row
    obtain ⟨f_173, hL_174, hF⟩ := bind_inv hF
    refine st_seq (st_for (τ := yInt) (fun (r_147 : List Int) σ' Z' H' => ∃ w_145, ∃ (y_152 : Option V) (v_153 : V) (y_155 : Option V), σ' = [y_152, some v_factor, some v_153, y_155] ∧ Pt [] Z0 H muN Z' H' () ∧ (yInt).r Z' v_153 w_145 ∧ forF (L_remainder_of_1 x_factor) r_147 w_145 = some f_173) P (ei_list (ev_var (τ := (yList yInt)) rfl h_row)) ?_ ?_ ?_)
    · rintro Z1 H1 e P1
      replace P := P1
      replace h_row := ((yList yInt)).mono e.z h_row
      exact ⟨(0 : Int), _, _, _, rfl, P, k_144, hL_174⟩
    · rintro Zb_151 Hb eb x_146 r_147 σ' v_162 Z1 H1 Z2 H2 zs_150 ⟨w_145, y_152, v_153, y_155, rfl, P, k_154, hq_149⟩ e hx_163
      replace P := P.item e
      replace zs_150 := zs_150.trans e.z
      obtain ⟨u_164, hB_148, hq_149⟩ := bind_inv (forF_cons hq_149)
      unfold L_remainder_of_1 at hB_148
      refine tgt_name _ P.sub _ ?_
      obtain ⟨g_168, hB_148⟩ := guard_inv hB_148
      obtain ⟨x_left_169, h_170, hB_148⟩ := bind_inv hB_148
      replace h_170 := Option.some.inj h_170
      refine st_set P (ev_cast (ev_mod (ev_add (ev_add (ev_mul (ev_var (τ := yInt) rfl k_154) (ev_var (τ := yInt) rfl h_factor) g_168) (ev_var (τ := yInt) rfl hx_163)) ev_int) ev_int (by decide)) h_170) (fun v_171 Z1 H1 e P1 k_172 => ?_)
      replace P := P1
      replace zs_150 := zs_150.trans e.z
      replace hB_148 := Option.some.inj hB_148
      subst hB_148
      exact ⟨_, zs_150, P.sub, x_left_169, _, _, _, rfl, P, k_172, hq_149⟩
    rintro σ' Z1 H1 _ _ ⟨w_156, y_152, v_159, y_155, rfl, P, k_160, hl⟩
    have hz := (forF_nil hl).symm
    subst hz
    refine st_nx ?_
    replace hF := Option.some.inj hF
    subst hF
    refine st_ret P (ev_var (τ := yInt) rfl k_160) (fun v Z1 H1 P1 hv => ?_)
    exact q v _ _ P1.st hv
theorem cs_remainder_of (T : Txt w K mg) {μ : Type} {M : Mu μ} {s : μ} {E : XK} {x_row : (List Int)} {x_factor : Int} {y : Int} (h : F_remainder_of x_row x_factor = some y) : CallS M (sp_remainder_of T) E (rac (ty (yList yInt) x_row) (rac (ty yInt x_factor) ra0)) s (ty yInt y) s := by
  rintro Z H vs sz m ⟨v_row, _, rfl, h_row, ⟨v_factor, _, rfl, h_factor, rfl⟩⟩ Q q
  exact ⟨Z, v_row, v_factor, x_row, x_factor, y, rfl, sz, h_row, h_factor, h, fun v Z2 H2 st hv => q v Z2 H2 st.pure (M.pure st m) hv⟩
def sp_mark_of (T : Txt w K mg) : Sp := fun vs H Q _ => ∃ (Z0 : Hp) (v_key : V) (v_number : V) (v_record : V) (x_key : (List Int)) (x_number : Int) (x_record : Record) (y : (List Int)), vs = [v_key, v_number, v_record] ∧ (Same Z0 H) ∧ (((yTup K yInt)).r Z0 v_key x_key) ∧ ((yInt).r Z0 v_number x_number) ∧ (((y_Record T)).r Z0 v_record x_record) ∧ (F_mark_of x_key x_number x_record = some y) ∧ ∀ v Z' H', Step [] Z0 H Z' H' → ((yTup K yInt)).r Z' v y → Q v H'
set_option maxHeartbeats 4000000 in
theorem ok_mark_of (T : Txt w K mg) : FnOk P w K mg base CX0 4 T.f_mark_of T.d_mark_of ["key", "number", "record"] (sp_mark_of T) := by
  have G_remainder_of : FnOk P w K mg base CX0 1 T.f_remainder_of T.d_remainder_of ["row", "factor"] (sp_remainder_of T) := ok_remainder_of T
  have G_row_of : FnOk P w K mg base CX0 3 T.f_row_of T.d_row_of ["number", "record"] (sp_row_of T) := ok_row_of T
  refine T.F_mark_of.ok sc_mark_of (fun vs H Q E h => ?_) (fun cdv A outer s H vs Q E hr h => ?_)
  · obtain ⟨Z0, v_key, v_number, v_record, x_key, x_number, x_record, y, rfl, _⟩ := h
    rfl
  · obtain ⟨Z0, v_key, v_number, v_record, x_key, x_number, x_record, y, rfl, sz, h_key, h_number, h_record, hF, q⟩ := h
    refine ⟨_, (pss_cons (ps_set (i := 3) sc_mark_of.nd rfl (.inr rfl) (pe_call G_row_of (hr.mono (by decide)) (by rfl) T.g_row_of T.F_row_of.kp T.b_row_of .nil pass0 (pa_cons (pv 1) (pa_cons (pv 2) pa_nil)))) 
      (pss_one (ps_ret (pe_callTy call_tuple_of (by rfl) T.m_tuple (by decide +kernel) (pa_cons (pe_lc (own := [("factor", 4)]) (g := gName 4) rfl sc_mark_of.nd (pi_tup (pv 0)) (blkOk_by (own := [("factor", 4)]) (N := ["key", "number", "record", "row", "factor"]) (sc := defScope s_mark_of) (by decide +kernel)) (fun _ _ _ _ _ => (pg_name (i := 4) sc_mark_of.nd rfl (Or.inl rfl))) (fun _ _ _ _ _ => pts_nil) (fun _ _ _ _ _ => (pe_call G_remainder_of (hr.mono (by decide)) (by rfl) T.g_remainder_of T.F_remainder_of.kp T.b_remainder_of .nil pass0 (pa_cons (pv 3) (pa_cons (pv 4) pa_nil))))) pa_nil))))), ?_⟩
    have P := Pt.start0 sz
    unfold F_mark_of at hF
    obtain ⟨r_186, h_187, hF⟩ := bind_inv hF
    refine st_seq (st_set P (ev_call (cs_row_of T h_187) (eva_cons (ev_var (τ := yInt) rfl h_number) (eva_cons (ev_var (τ := (y_Record T)) rfl h_record) eva_nil))) (fun v_188 Z1 H1 e P1 k_189 => ?_))
    refine st_nx ?_
    replace P := P1
    replace h_key := ((yTup K yInt)).mono e.z h_key
    obtain ⟨l_202, h_203, hF⟩ := bind_inv hF
    replace hF := Option.some.inj hF
    subst hF
    refine st_ret P (ev_tuple_of (fun _ _ _ h => h) (ev_li (ev_fz (en_mapO (fun (x_197 : Int) => ((F_remainder_of r_186 x_197).bind fun r_200 =>
    some r_200 : Option Int)) (ei_tup (ev_var (τ := (yTup K yInt)) rfl h_key)) (fun x_197 v_198 Z' H' p zz hh rx_199 hp => by
          replace k_189 := ((yList yInt)).mono zz k_189
          have hy := hp
          obtain ⟨r_200, h_201, hy⟩ := bind_inv hy
          have hy := Option.some.inj hy
          subst hy
          exact ⟨_, tgt_name, rfl, (ev_call (cs_remainder_of T h_201) (eva_cons (ev_var (τ := (yList yInt)) rfl k_189) (eva_cons (ev_var (τ := yInt) rfl rx_199) eva_nil)))⟩) h_203)))) (fun v Z1 H1 P1 hv => ?_)
    exact q v _ _ P1.st hv
theorem cs_mark_of (T : Txt w K mg) {μ : Type} {M : Mu μ} {s : μ} {E : XK} {x_key : (List Int)} {x_number : Int} {x_record : Record} {y : (List Int)} (h : F_mark_of x_key x_number x_record = some y) : CallS M (sp_mark_of T) E (rac (ty (yTup K yInt) x_key) (rac (ty yInt x_number) (rac (ty (y_Record T) x_record) ra0))) s (ty (yTup K yInt) y) s := by
  rintro Z H vs sz m ⟨v_key, _, rfl, h_key, ⟨v_number, _, rfl, h_number, ⟨v_record, _, rfl, h_record, rfl⟩⟩⟩ Q q
  exact ⟨Z, v_key, v_number, v_record, x_key, x_number, x_record, y, rfl, sz, h_key, h_number, h_record, h, fun v Z2 H2 st hv => q v Z2 H2 st.pure (M.pure st m) hv⟩
def sp_same_fields (T : Txt w K mg) : Sp := fun vs H Q _ => ∃ (Z0 : Hp) (v_ones : V) (v_others : V) (x_ones : (List (Str × Val))) (x_others : (List (Str × Val))), vs = [v_ones, v_others] ∧ (Same Z0 H) ∧ (((yTup K (yP2 K yStr (y_Val T)))).r Z0 v_ones x_ones) ∧ (((yTup K (yP2 K yStr (y_Val T)))).r Z0 v_others x_others) ∧ ∀ v Z' H', Step [] Z0 H Z' H' → (yBool).r Z' v (F_same_fields x_ones x_others) → Q v H'
set_option maxHeartbeats 4000000 in
theorem ok_same_fields (T : Txt w K mg) : FnOk P w K mg base CX0 2 T.f_same_fields T.d_same_fields ["ones", "others"] (sp_same_fields T) := by
  have G_kind_of_value : FnOk P w K mg base CX0 1 T.f_kind_of_value T.d_kind_of_value ["worth"] (sp_kind_of_value T) := ok_kind_of_value T
  refine T.F_same_fields.ok sc_same_fields (fun vs H Q E h => ?_) (fun cdv A outer s H vs Q E hr h => ?_)
  · obtain ⟨Z0, v_ones, v_others, x_ones, x_others, rfl, _⟩ := h
    rfl
  · obtain ⟨Z0, v_ones, v_others, x_ones, x_others, rfl, sz, h_ones, h_others, q⟩ := h
    refine ⟨_, (pss_cons (ps_setLc (i := 2) (own := [("_", 3), ("worth", 4)]) (g := gTup K 2 (gCons (gName 3) (gCons (gName 4) gNil))) rfl sc_same_fields.nd rfl rfl (sw_true rfl rfl rfl (by decide +kernel)) (pi_tup (pv 0)) (blkOk_by (own := [("_", 3), ("worth", 4)]) (N := ["ones", "others", "kinds", "_", "worth"]) (sc := defScope s_same_fields) (by decide +kernel)) (fun _ _ _ _ _ => (by exact (pg_tup rfl (pgs_cons (pg_name (i := 3) sc_same_fields.nd rfl (Or.inl rfl)) (pgs_cons (pg_name (i := 4) sc_same_fields.nd rfl (Or.inl rfl)) pgs_nil))))) (fun _ _ _ _ _ => pts_nil) (fun _ _ _ _ _ => (pe_call G_kind_of_value (hr.mono (by decide)) (by rfl) T.g_kind_of_value T.F_kind_of_value.kp T.b_kind_of_value .nil pass0 (pa_cons (pv 4) pa_nil)))) 
      (pss_one (ps_ret (pe_and (pe_cmpR (op_eqD hr.units) (pv 2) (pe_lc (own := [("_", 3), ("worth", 4)]) (g := gTup K 2 (gCons (gName 3) (gCons (gName 4) gNil))) rfl sc_same_fields.nd (pi_tup (pv 1)) (blkOk_by (own := [("_", 3), ("worth", 4)]) (N := ["ones", "others", "kinds", "_", "worth"]) (sc := defScope s_same_fields) (by decide +kernel)) (fun _ _ _ _ _ => (by exact (pg_tup rfl (pgs_cons (pg_name (i := 3) sc_same_fields.nd rfl (Or.inl rfl)) (pgs_cons (pg_name (i := 4) sc_same_fields.nd rfl (Or.inl rfl)) pgs_nil))))) (fun _ _ _ _ _ => pts_nil) (fun _ _ _ _ _ => (pe_call G_kind_of_value (hr.mono (by decide)) (by rfl) T.g_kind_of_value T.F_kind_of_value.kp T.b_kind_of_value .nil pass0 (pa_cons (pv 4) pa_nil)))) (nomark _)) (pe_one (pe_cmpR (op_eqD hr.units) (pv 0) (pv 1) (nomark _))))))), ?_⟩
    have P := Pt.start0 sz
    generalize hF : F_same_fields x_ones x_others = y at q
    unfold F_same_fields at hF
    refine st_seq (st_set P (ev_fz (en_map (fun (x_204 : (Str × Val)) => (F_kind_of_value x_204.2)) (ei_tup (ev_var (τ := (yTup K (yP2 K yStr (y_Val T)))) rfl h_ones)) (fun x_204 v_205 Z' H' zz hh rx_206 => by
          obtain ⟨v_207, v_208, k_209, k_210, tg_211⟩ := tgt_p2 rx_206
          exact ⟨_, (tg_211 tgt_name tgt_name), rfl, (ev_call (cs_kind_of_value T) (eva_cons (ev_var (τ := (y_Val T)) rfl k_210) eva_nil))⟩))) (fun v_212 Z1 H1 e P1 k_213 => ?_))
    refine st_nx ?_
    replace P := P1
    replace h_ones := ((yTup K (yP2 K yStr (y_Val T)))).mono e.z h_ones
    replace h_others := ((yTup K (yP2 K yStr (y_Val T)))).mono e.z h_others
    subst hF
    refine st_ret P (ev_and0 (ev_eqD (eqd_list eqd_str) (by decide) (ev_var (τ := (yList yStr)) rfl k_213) (ev_fz (en_map (fun (x_214 : (Str × Val)) => (F_kind_of_value x_214.2)) (ei_tup (ev_var (τ := (yTup K (yP2 K yStr (y_Val T)))) rfl h_others)) (fun x_214 v_215 Z' H' zz hh rx_216 => by
          obtain ⟨v_217, v_218, k_219, k_220, tg_221⟩ := tgt_p2 rx_216
          exact ⟨_, (tg_221 tgt_name tgt_name), rfl, (ev_call (cs_kind_of_value T) (eva_cons (ev_var (τ := (y_Val T)) rfl k_220) eva_nil))⟩)))) (ev_eqW (EqW.gd (eqw_tup (eqw_p2 eqd_str.w (eqw_Val T))) _) (EqW.gd (eqw_tup (eqw_p2 eqd_str.w (eqw_Val T))) _) (EqW.dpt (K := K) (τ := (yTup K (yP2 K yStr (y_Val T)))) (eqw_tup (eqw_p2 eqd_str.w (eqw_Val T))) (by decide) _) (EqW.dpt (K := K) (τ := (yTup K (yP2 K yStr (y_Val T)))) (eqw_tup (eqw_p2 eqd_str.w (eqw_Val T))) (by decide) _) (ev_var (τ := (yTup K (yP2 K yStr (y_Val T)))) rfl h_ones) (ev_var (τ := (yTup K (yP2 K yStr (y_Val T)))) rfl h_others))) (fun v Z1 H1 P1 hv => ?_)
    exact q v _ _ P1.st hv
theorem cs_same_fields (T : Txt w K mg) {μ : Type} {M : Mu μ} {s : μ} {E : XK} {x_ones : (List (Str × Val))} {x_others : (List (Str × Val))} : CallS M (sp_same_fields T) E (rac (ty (yTup K (yP2 K yStr (y_Val T))) x_ones) (rac (ty (yTup K (yP2 K yStr (y_Val T))) x_others) ra0)) s (ty yBool (F_same_fields x_ones x_others)) s := by
  rintro Z H vs sz m ⟨v_ones, _, rfl, h_ones, ⟨v_others, _, rfl, h_others, rfl⟩⟩ Q q
  exact ⟨Z, v_ones, v_others, x_ones, x_others, rfl, sz, h_ones, h_others, fun v Z2 H2 st hv => q v Z2 H2 st.pure (M.pure st m) hv⟩
def sp_Record___init__ (T : Txt w K mg) : Sp := fun vs H Q _ => ∃ (p dx : Addr) (Z0 : Hp) (v_name : V) (v_vector : V) (v_fields : V) (v_words : V) (x_name : Str) (x_vector : (List Int)) (x_fields : (List (Str × Val))) (x_words : (List (Str × Int))), vs = [.ref p, v_name, v_vector, v_fields, v_words] ∧ (Same Z0 H) ∧ (H p = some (.ins T.c_Record dx [])) ∧ (Z0 p = none) ∧ ((yStr).r Z0 v_name x_name) ∧ (((yList yInt)).r Z0 v_vector x_vector) ∧ (((ySeq K (yP2 K yStr (y_Val T)))).r Z0 v_fields x_fields) ∧ (((ySeq K (yP2 K yStr yInt))).r Z0 v_words x_words) ∧ ∀ Z' H' o, Step [p] Z0 H Z' H' → H' p = some o → (y_Record T).r (upd Z' p o) (.ref p) (F_Record___init__ x_name x_vector x_fields x_words) → Q .non H'
set_option maxHeartbeats 4000000 in
theorem ok_Record___init__ (T : Txt w K mg) : FnOk P w K mg base CX0 1 T.f_Record___init__ T.d_Record___init__ ["self", "name", "vector", "fields", "words"] (sp_Record___init__ T) := by
  refine T.F_Record___init__.ok sc_Record___init__ (fun vs H Q E h => ?_) (fun cdv A outer s H vs Q E hr h => ?_)
  · obtain ⟨p, dx, Z0, v_name, v_vector, v_fields, v_words, x_name, x_vector, x_fields, x_words, rfl, _⟩ := h
    rfl
  · obtain ⟨p, dx, Z0, v_name, v_vector, v_fields, v_words, x_name, x_vector, x_fields, x_words, rfl, sz, hself, zself, h_name, h_vector, h_fields, h_words, q⟩ := h
    refine ⟨_, PSs.nox (pss_cons (ps_fld (pv 0) (pv 1) rfl) 
      (pss_cons (ps_fld (pv 0) (pe_callTy call_tuple_of (by rfl) T.m_tuple (by decide +kernel) (pa_cons (pv 2) pa_nil)) rfl) 
      (pss_cons (ps_fld (pv 0) (pe_callTy call_tuple_of (by rfl) T.m_tuple (by decide +kernel) (pa_cons (pe_lc (own := [("pair", 5)]) (g := gName 5) rfl sc_Record___init__.nd (pi_seq (pv 3)) (blkOk_by (own := [("pair", 5)]) (N := ["self", "name", "vector", "fields", "words", "pair"]) (sc := defScope s_Record___init__) (by decide +kernel)) (fun _ _ _ _ _ => (pg_name (i := 5) sc_Record___init__.nd rfl (Or.inl rfl))) (fun _ _ _ _ _ => pts_nil) (fun _ _ _ _ _ => (pe_callTy (r := rTupleB K) (by exact call_tuple_of) (by rfl) T.m_tuple (by decide +kernel) (pa_cons (pv 5) pa_nil)))) pa_nil)) rfl) 
      (pss_one (ps_fld (pv 0) (pe_callTy call_tuple_of (by rfl) T.m_tuple (by decide +kernel) (pa_cons (pe_lc (own := [("pair", 5)]) (g := gName 5) rfl sc_Record___init__.nd (pi_seq (pv 4)) (blkOk_by (own := [("pair", 5)]) (N := ["self", "name", "vector", "fields", "words", "pair"]) (sc := defScope s_Record___init__) (by decide +kernel)) (fun _ _ _ _ _ => (pg_name (i := 5) sc_Record___init__.nd rfl (Or.inl rfl))) (fun _ _ _ _ _ => pts_nil) (fun _ _ _ _ _ => (pe_callTy (r := rTupleB K) (by exact call_tuple_of) (by rfl) T.m_tuple (by decide +kernel) (pa_cons (pv 5) pa_nil)))) pa_nil)) rfl))))), ?_⟩
    have P : Pt [p] Z0 H muN Z0 H () := ⟨Step.refl sz, trivial, fun _ h => (nomatch h)⟩
    generalize hF : F_Record___init__ x_name x_vector x_fields x_words = y at q
    unfold F_Record___init__ at hF
    refine st_seq (st_fld (x := x_name) (τ := yStr) P hself zself List.not_mem_nil (.inl List.mem_cons_self) rfl (ev_var (τ := yStr) rfl h_name) T.cl_Record T.n_Record_name (Nat.lt_of_le_of_lt (Nat.le_refl 0) (by decide)) (fun v_222 Z1 H1 e P1 k_223 hself1 zself1 => ?_))
    refine st_nx ?_
    replace P := P1
    replace hself := hself1
    replace zself := zself1
    replace h_vector := ((yList yInt)).mono e.z h_vector
    replace h_fields := ((ySeq K (yP2 K yStr (y_Val T)))).mono e.z h_fields
    replace h_words := ((ySeq K (yP2 K yStr yInt))).mono e.z h_words
    refine st_seq (st_fld (x := x_vector) (τ := (yTup K yInt)) P hself zself List.not_mem_nil (.inl List.mem_cons_self) rfl (ev_tuple_of (fun _ _ _ h => h) (ev_li (ev_var (τ := (yList yInt)) rfl h_vector))) T.cl_Record T.n_Record_vector (Nat.lt_of_le_of_lt (putF_le (Nat.le_refl 0)) (by decide)) (fun v_224 Z1 H1 e P1 k_225 hself1 zself1 => ?_))
    refine st_nx ?_
    replace P := P1
    replace hself := hself1
    replace zself := zself1
    replace h_fields := ((ySeq K (yP2 K yStr (y_Val T)))).mono e.z h_fields
    replace h_words := ((ySeq K (yP2 K yStr yInt))).mono e.z h_words
    refine st_seq (st_fld (x := x_fields) (τ := (yTup K (yP2 K yStr (y_Val T)))) P hself zself List.not_mem_nil (.inl List.mem_cons_self) rfl (ev_tuple_of (fun _ _ _ h => h) (ev_li (ev_fz (en_cast (en_map (fun x => x) (ei_seq (ev_var (τ := (ySeq K (yP2 K yStr (y_Val T)))) rfl h_fields)) (fun x_229 v_230 Z' H' zz hh rx_231 => by
          exact ⟨_, tgt_name, rfl, (ev_tuple_id (fun _ _ _ h => h) it_p2 (ev_var (τ := (yP2 K yStr (y_Val T))) rfl rx_231))⟩)) (List.map_id' _))))) T.cl_Record T.n_Record_fields (Nat.lt_of_le_of_lt (putF_le (putF_le (Nat.le_refl 0))) (by decide)) (fun v_232 Z1 H1 e P1 k_233 hself1 zself1 => ?_))
    refine st_nx ?_
    replace P := P1
    replace hself := hself1
    replace zself := zself1
    replace h_words := ((ySeq K (yP2 K yStr yInt))).mono e.z h_words
    replace k_225 := ((yTup K yInt)).mono e.z k_225
    refine st_fld (x := x_words) (τ := (yTup K (yP2 K yStr yInt))) P hself zself List.not_mem_nil (.inl List.mem_cons_self) rfl (ev_tuple_of (fun _ _ _ h => h) (ev_li (ev_fz (en_cast (en_map (fun x => x) (ei_seq (ev_var (τ := (ySeq K (yP2 K yStr yInt))) rfl h_words)) (fun x_237 v_238 Z' H' zz hh rx_239 => by
          exact ⟨_, tgt_name, rfl, (ev_tuple_id (fun _ _ _ h => h) it_p2 (ev_var (τ := (yP2 K yStr yInt)) rfl rx_239))⟩)) (List.map_id' _))))) T.cl_Record T.n_Record_words (Nat.lt_of_le_of_lt (putF_le (putF_le (putF_le (Nat.le_refl 0)))) (by decide)) (fun v_240 Z1 H1 e P1 k_241 hself1 zself1 => ?_)
    replace P := P1
    replace hself := hself1
    replace zself := zself1
    replace k_225 := ((yTup K yInt)).mono e.z k_225
    replace k_233 := ((yTup K (yP2 K yStr (y_Val T)))).mono e.z k_233
    subst hF
    exact q _ _ _ P.st hself ⟨p, dx, v_222, v_224, v_232, v_240, rfl, upd_same, k_223, ((yTup K yInt)).mono (same_upd zself) k_225, ((yTup K (yP2 K yStr (y_Val T)))).mono (same_upd zself) k_233, ((yTup K (yP2 K yStr yInt))).mono (same_upd zself) k_241⟩
theorem is_Record___init__ (T : Txt w K mg) {μ : Type} {M : Mu μ} {s : μ} {E : XK} {x_name : Str} {x_vector : (List Int)} {x_fields : (List (Str × Val))} {x_words : (List (Str × Int))} : InitS M T.c_Record (sp_Record___init__ T) E (rac (ty yStr x_name) (rac (ty (yList yInt) x_vector) (rac (ty (ySeq K (yP2 K yStr (y_Val T))) x_fields) (rac (ty (ySeq K (yP2 K yStr yInt)) x_words) ra0)))) s (ty (y_Record T) (F_Record___init__ x_name x_vector x_fields x_words)) s := by
  rintro Z H vs x dx sz m ⟨v_name, _, rfl, h_name, ⟨v_vector, _, rfl, h_vector, ⟨v_fields, _, rfl, h_fields, ⟨v_words, _, rfl, h_words, rfl⟩⟩⟩⟩ hx zx nx Q q
  exact ⟨x, dx, Z, v_name, v_vector, v_fields, v_words, x_name, x_vector, x_fields, x_words, rfl, sz, hx, zx, h_name, h_vector, h_fields, h_words, fun Z2 H2 o st ho hr => q Z2 H2 o (st.weak fun a h => by rw [List.mem_singleton] at h; rw [h]; exact .inl List.mem_cons_self) (Mu.away st nx m) ho hr⟩
def sp_Record___eq__ (T : Txt w K mg) : Sp := fun vs H Q _ => ∃ (Z0 : Hp) (v_self : V) (v_other : V) (x_self : Record) (x_other : (Option Record)) (y : Bool), vs = [v_self, v_other] ∧ (Same Z0 H) ∧ (((y_Record T)).r Z0 v_self x_self) ∧ (((yOpt (y_Record T))).r Z0 v_other x_other) ∧ (F_Record___eq__ x_self x_other = some y) ∧ ∀ v Z' H', Step [] Z0 H Z' H' → (yBool).r Z' v y → Q v H'
set_option maxHeartbeats 4000000 in
theorem ok_Record___eq__ (T : Txt w K mg) : FnOk P w K mg base CX0 3 T.f_Record___eq__ T.d_Record___eq__ ["self", "other"] (sp_Record___eq__ T) := by
  have G_same_fields : FnOk P w K mg base CX0 2 T.f_same_fields T.d_same_fields ["ones", "others"] (sp_same_fields T) := ok_same_fields T
  refine T.F_Record___eq__.ok sc_Record___eq__ (fun vs H Q E h => ?_) (fun cdv A outer s H vs Q E hr h => ?_)
  · obtain ⟨Z0, v_self, v_other, x_self, x_other, y, rfl, _⟩ := h
    rfl
  · obtain ⟨Z0, v_self, v_other, x_self, x_other, y, rfl, sz, h_self, h_other, hF, q⟩ := h
    refine ⟨_, (pss_one (ps_ret (pe_and (pe_callB call_isi (by rfl) T.m_isinstance (by decide +kernel) (pa_cons (pv 1) (pa_cons (pe_glob (v := .ref T.c_Record) rfl T.mc_Record rfl) pa_nil))) (pe_and (pe_cmpR op_eq (pe_fld (pv 0) rfl) (pe_fld (pv 1) rfl) (nomark _)) (pe_and (pe_cmpR (op_eqD hr.units) (pe_fld (pv 0) rfl) (pe_fld (pv 1) rfl) (nomark _)) (pe_and (pe_call G_same_fields (hr.mono (by decide)) (by rfl) T.g_same_fields T.F_same_fields.kp T.b_same_fields .nil pass0 (pa_cons (pe_fld (pv 0) rfl) (pa_cons (pe_fld (pv 1) rfl) pa_nil))) (pe_one (pe_cmpR (op_eqD hr.units) (pe_fld (pv 0) rfl) (pe_fld (pv 1) rfl) (nomark _))))))))), ?_⟩
    have P := Pt.start0 sz
    unfold F_Record___eq__ at hF
    obtain ⟨b_267, h_266, hF⟩ := bind_inv hF
    replace hF := Option.some.inj hF
    subst hF
    refine st_ret P (ev_andO (ev_cast (ev_isi (b := (x_other.isSome && true)) (fun _ _ _ h => h) (ev_var (τ := (yOpt (y_Record T))) rfl h_other) (tx_opt (c := (.ref T.c_Record)) fun _ => (tx_Record T)) (.own _) (kit_opt T.kit_NoneType_Record T.kit_Record_Record _)) (Bool.and_true _)) (fun _ y hy => by
          obtain ⟨u_252, h_253, hy⟩ := bind_inv hy
          obtain ⟨b_265, h_264, hy⟩ := bind_inv hy
          have hy := Option.some.inj hy
          subst hy
          exact (ev_andO (ev_eq flat_str (ev_fld (fo_Record_name T) T.cl_Record T.n_Record_name (ev_var (τ := (y_Record T)) rfl h_self)) (ev_fld (fo_Record_name T) T.cl_Record T.n_Record_name (ev_uno (ev_var (τ := (yOpt (y_Record T))) rfl h_other) h_253))) (fun _ y hy => by
                obtain ⟨u_254, h_255, hy⟩ := bind_inv hy
                obtain ⟨b_263, h_262, hy⟩ := bind_inv hy
                have hy := Option.some.inj hy
                subst hy
                exact (ev_andO (ev_eqD (eqd_tup eqd_int) (by decide) (ev_fld (fo_Record_vector T) T.cl_Record T.n_Record_vector (ev_var (τ := (y_Record T)) rfl h_self)) (ev_fld (fo_Record_vector T) T.cl_Record T.n_Record_vector (ev_uno (ev_var (τ := (yOpt (y_Record T))) rfl h_other) h_255))) (fun _ y hy => by
                      obtain ⟨u_256, h_257, hy⟩ := bind_inv hy
                      obtain ⟨b_261, h_260, hy⟩ := bind_inv hy
                      have hy := Option.some.inj hy
                      subst hy
                      exact (ev_andO (ev_call (cs_same_fields T) (eva_cons (ev_fld (fo_Record_fields T) T.cl_Record T.n_Record_fields (ev_var (τ := (y_Record T)) rfl h_self)) (eva_cons (ev_fld (fo_Record_fields T) T.cl_Record T.n_Record_fields (ev_uno (ev_var (τ := (yOpt (y_Record T))) rfl h_other) h_257)) eva_nil))) (fun _ y hy => by
                            obtain ⟨u_258, h_259, hy⟩ := bind_inv hy
                            have hy := Option.some.inj hy
                            subst hy
                            exact (ev_eqD (eqd_tup (eqd_p2 eqd_str eqd_int)) (by decide) (ev_fld (fo_Record_words T) T.cl_Record T.n_Record_words (ev_var (τ := (y_Record T)) rfl h_self)) (ev_fld (fo_Record_words T) T.cl_Record T.n_Record_words (ev_uno (ev_var (τ := (yOpt (y_Record T))) rfl h_other) h_259)))) h_260)) h_262)) h_264)) h_266) (fun v Z1 H1 P1 hv => ?_)
    exact q v _ _ P1.st hv
theorem cs_Record___eq__ (T : Txt w K mg) {μ : Type} {M : Mu μ} {s : μ} {E : XK} {x_self : Record} {x_other : (Option Record)} {y : Bool} (h : F_Record___eq__ x_self x_other = some y) : CallS M (sp_Record___eq__ T) E (rac (ty (y_Record T) x_self) (rac (ty (yOpt (y_Record T)) x_other) ra0)) s (ty yBool y) s := by
  rintro Z H vs sz m ⟨v_self, _, rfl, h_self, ⟨v_other, _, rfl, h_other, rfl⟩⟩ Q q
  exact ⟨Z, v_self, v_other, x_self, x_other, y, rfl, sz, h_self, h_other, h, fun v Z2 H2 st hv => q v Z2 H2 st.pure (M.pure st m) hv⟩
def sp_Note___init__ (T : Txt w K mg) : Sp := fun vs H Q _ => ∃ (p dx : Addr) (Z0 : Hp) (v_name : V) (v_number : V) (v_mark : V) (v_died : V) (v_record : V) (v_segment : V) (v_leaves : V) (x_name : Str) (x_number : Int) (x_mark : (List Int)) (x_died : (Option Int)) (x_record : (Option Record)) (x_segment : (Option Int)) (x_leaves : (List Int)), vs = [.ref p, v_name, v_number, v_mark, v_died, v_record, v_segment, v_leaves] ∧ (Same Z0 H) ∧ (H p = some (.ins T.c_Note dx [])) ∧ (Z0 p = none) ∧ ((yStr).r Z0 v_name x_name) ∧ ((yInt).r Z0 v_number x_number) ∧ (((yTup K yInt)).r Z0 v_mark x_mark) ∧ (((yOpt yInt)).r Z0 v_died x_died) ∧ (((yOpt (y_Record T))).r Z0 v_record x_record) ∧ (((yOpt yInt)).r Z0 v_segment x_segment) ∧ (((ySeq K yInt)).r Z0 v_leaves x_leaves) ∧ ∀ Z' H' o, Step [p] Z0 H Z' H' → H' p = some o → (y_Note T).r (upd Z' p o) (.ref p) (F_Note___init__ x_name x_number x_mark x_died x_record x_segment x_leaves) → Q .non H'
set_option maxHeartbeats 4000000 in
theorem ok_Note___init__ (T : Txt w K mg) : FnOk P w K mg base CX0 1 T.f_Note___init__ T.d_Note___init__ ["self", "name", "number", "mark", "died", "record", "segment", "leaves"] (sp_Note___init__ T) := by
  refine T.F_Note___init__.ok sc_Note___init__ (fun vs H Q E h => ?_) (fun cdv A outer s H vs Q E hr h => ?_)
  · obtain ⟨p, dx, Z0, v_name, v_number, v_mark, v_died, v_record, v_segment, v_leaves, x_name, x_number, x_mark, x_died, x_record, x_segment, x_leaves, rfl, _⟩ := h
    rfl
  · obtain ⟨p, dx, Z0, v_name, v_number, v_mark, v_died, v_record, v_segment, v_leaves, x_name, x_number, x_mark, x_died, x_record, x_segment, x_leaves, rfl, sz, hself, zself, h_name, h_number, h_mark, h_died, h_record, h_segment, h_leaves, q⟩ := h
    refine ⟨_, PSs.nox (pss_cons (ps_fld (pv 0) (pv 1) rfl) 
      (pss_cons (ps_fld (pv 0) (pv 2) rfl) 
      (pss_cons (ps_fld (pv 0) (pe_callTy call_tuple_of (by rfl) T.m_tuple (by decide +kernel) (pa_cons (pv 3) pa_nil)) rfl) 
      (pss_cons (ps_fld (pv 0) (pv 4) rfl) 
      (pss_cons (ps_fld (pv 0) (pv 5) rfl) 
      (pss_cons (ps_fld (pv 0) (pv 6) rfl) 
      (pss_one (ps_fld (pv 0) (pe_callTy call_tuple_of (by rfl) T.m_tuple (by decide +kernel) (pa_cons (pv 7) pa_nil)) rfl)))))))), ?_⟩
    have P : Pt [p] Z0 H muN Z0 H () := ⟨Step.refl sz, trivial, fun _ h => (nomatch h)⟩
    generalize hF : F_Note___init__ x_name x_number x_mark x_died x_record x_segment x_leaves = y at q
    unfold F_Note___init__ at hF
    refine st_seq (st_fld (x := x_name) (τ := yStr) P hself zself List.not_mem_nil (.inl List.mem_cons_self) rfl (ev_var (τ := yStr) rfl h_name) T.cl_Note T.n_Note_name (Nat.lt_of_le_of_lt (Nat.le_refl 0) (by decide)) (fun v_268 Z1 H1 e P1 k_269 hself1 zself1 => ?_))
    refine st_nx ?_
    replace P := P1
    replace hself := hself1
    replace zself := zself1
    replace h_mark := ((yTup K yInt)).mono e.z h_mark
    replace h_died := ((yOpt yInt)).mono e.z h_died
    replace h_record := ((yOpt (y_Record T))).mono e.z h_record
    replace h_segment := ((yOpt yInt)).mono e.z h_segment
    replace h_leaves := ((ySeq K yInt)).mono e.z h_leaves
    refine st_seq (st_fld (x := x_number) (τ := yInt) P hself zself List.not_mem_nil (.inl List.mem_cons_self) rfl (ev_var (τ := yInt) rfl h_number) T.cl_Note T.n_Note_number (Nat.lt_of_le_of_lt (putF_le (Nat.le_refl 0)) (by decide)) (fun v_270 Z1 H1 e P1 k_271 hself1 zself1 => ?_))
    refine st_nx ?_
    replace P := P1
    replace hself := hself1
    replace zself := zself1
    replace h_mark := ((yTup K yInt)).mono e.z h_mark
    replace h_died := ((yOpt yInt)).mono e.z h_died
    replace h_record := ((yOpt (y_Record T))).mono e.z h_record
    replace h_segment := ((yOpt yInt)).mono e.z h_segment
    replace h_leaves := ((ySeq K yInt)).mono e.z h_leaves
    refine st_seq (st_fld (x := x_mark) (τ := (yTup K yInt)) P hself zself List.not_mem_nil (.inl List.mem_cons_self) rfl (ev_tuple_ofT (fun _ _ _ h => h) (ev_var (τ := (yTup K yInt)) rfl h_mark)) T.cl_Note T.n_Note_mark (Nat.lt_of_le_of_lt (putF_le (putF_le (Nat.le_refl 0))) (by decide)) (fun v_272 Z1 H1 e P1 k_273 hself1 zself1 => ?_))
    refine st_nx ?_
    replace P := P1
    replace hself := hself1
    replace zself := zself1
    replace h_died := ((yOpt yInt)).mono e.z h_died
    replace h_record := ((yOpt (y_Record T))).mono e.z h_record
    replace h_segment := ((yOpt yInt)).mono e.z h_segment
    replace h_leaves := ((ySeq K yInt)).mono e.z h_leaves
    refine st_seq (st_fld (x := x_died) (τ := (yOpt yInt)) P hself zself List.not_mem_nil (.inl List.mem_cons_self) rfl (ev_var (τ := (yOpt yInt)) rfl h_died) T.cl_Note T.n_Note_died (Nat.lt_of_le_of_lt (putF_le (putF_le (putF_le (Nat.le_refl 0)))) (by decide)) (fun v_274 Z1 H1 e P1 k_275 hself1 zself1 => ?_))
    refine st_nx ?_
    replace P := P1
    replace hself := hself1
    replace zself := zself1
    replace h_record := ((yOpt (y_Record T))).mono e.z h_record
    replace h_segment := ((yOpt yInt)).mono e.z h_segment
    replace h_leaves := ((ySeq K yInt)).mono e.z h_leaves
    replace k_273 := ((yTup K yInt)).mono e.z k_273
    refine st_seq (st_fld (x := x_record) (τ := (yOpt (y_Record T))) P hself zself List.not_mem_nil (.inl List.mem_cons_self) rfl (ev_var (τ := (yOpt (y_Record T))) rfl h_record) T.cl_Note T.n_Note_record (Nat.lt_of_le_of_lt (putF_le (putF_le (putF_le (putF_le (Nat.le_refl 0))))) (by decide)) (fun v_276 Z1 H1 e P1 k_277 hself1 zself1 => ?_))
    refine st_nx ?_
    replace P := P1
    replace hself := hself1
    replace zself := zself1
    replace h_segment := ((yOpt yInt)).mono e.z h_segment
    replace h_leaves := ((ySeq K yInt)).mono e.z h_leaves
    replace k_273 := ((yTup K yInt)).mono e.z k_273
    replace k_275 := ((yOpt yInt)).mono e.z k_275
    refine st_seq (st_fld (x := x_segment) (τ := (yOpt yInt)) P hself zself List.not_mem_nil (.inl List.mem_cons_self) rfl (ev_var (τ := (yOpt yInt)) rfl h_segment) T.cl_Note T.n_Note_segment (Nat.lt_of_le_of_lt (putF_le (putF_le (putF_le (putF_le (putF_le (Nat.le_refl 0)))))) (by decide)) (fun v_278 Z1 H1 e P1 k_279 hself1 zself1 => ?_))
    refine st_nx ?_
    replace P := P1
    replace hself := hself1
    replace zself := zself1
    replace h_leaves := ((ySeq K yInt)).mono e.z h_leaves
    replace k_273 := ((yTup K yInt)).mono e.z k_273
    replace k_275 := ((yOpt yInt)).mono e.z k_275
    replace k_277 := ((yOpt (y_Record T))).mono e.z k_277
    refine st_fld (x := x_leaves) (τ := (yTup K yInt)) P hself zself List.not_mem_nil (.inl List.mem_cons_self) rfl (ev_tuple_ofS (fun _ _ _ h => h) (ev_var (τ := (ySeq K yInt)) rfl h_leaves)) T.cl_Note T.n_Note_leaves (Nat.lt_of_le_of_lt (putF_le (putF_le (putF_le (putF_le (putF_le (putF_le (Nat.le_refl 0))))))) (by decide)) (fun v_280 Z1 H1 e P1 k_281 hself1 zself1 => ?_)
    replace P := P1
    replace hself := hself1
    replace zself := zself1
    replace k_273 := ((yTup K yInt)).mono e.z k_273
    replace k_275 := ((yOpt yInt)).mono e.z k_275
    replace k_277 := ((yOpt (y_Record T))).mono e.z k_277
    replace k_279 := ((yOpt yInt)).mono e.z k_279
    subst hF
    exact q _ _ _ P.st hself ⟨p, dx, v_268, v_270, v_272, v_274, v_276, v_278, v_280, rfl, upd_same, k_269, k_271, ((yTup K yInt)).mono (same_upd zself) k_273, ((yOpt yInt)).mono (same_upd zself) k_275, ((yOpt (y_Record T))).mono (same_upd zself) k_277, ((yOpt yInt)).mono (same_upd zself) k_279, ((yTup K yInt)).mono (same_upd zself) k_281⟩
theorem is_Note___init__ (T : Txt w K mg) {μ : Type} {M : Mu μ} {s : μ} {E : XK} {x_name : Str} {x_number : Int} {x_mark : (List Int)} {x_died : (Option Int)} {x_record : (Option Record)} {x_segment : (Option Int)} {x_leaves : (List Int)} : InitS M T.c_Note (sp_Note___init__ T) E (rac (ty yStr x_name) (rac (ty yInt x_number) (rac (ty (yTup K yInt) x_mark) (rac (ty (yOpt yInt) x_died) (rac (ty (yOpt (y_Record T)) x_record) (rac (ty (yOpt yInt) x_segment) (rac (ty (ySeq K yInt) x_leaves) ra0))))))) s (ty (y_Note T) (F_Note___init__ x_name x_number x_mark x_died x_record x_segment x_leaves)) s := by
  rintro Z H vs x dx sz m ⟨v_name, _, rfl, h_name, ⟨v_number, _, rfl, h_number, ⟨v_mark, _, rfl, h_mark, ⟨v_died, _, rfl, h_died, ⟨v_record, _, rfl, h_record, ⟨v_segment, _, rfl, h_segment, ⟨v_leaves, _, rfl, h_leaves, rfl⟩⟩⟩⟩⟩⟩⟩ hx zx nx Q q
  exact ⟨x, dx, Z, v_name, v_number, v_mark, v_died, v_record, v_segment, v_leaves, x_name, x_number, x_mark, x_died, x_record, x_segment, x_leaves, rfl, sz, hx, zx, h_name, h_number, h_mark, h_died, h_record, h_segment, h_leaves, fun Z2 H2 o st ho hr => q Z2 H2 o (st.weak fun a h => by rw [List.mem_singleton] at h; rw [h]; exact .inl List.mem_cons_self) (Mu.away st nx m) ho hr⟩
def sp_Note_lives_at (T : Txt w K mg) : Sp := fun vs H Q _ => ∃ (Z0 : Hp) (v_self : V) (v_moment : V) (x_self : Note) (x_moment : Int) (y : Bool), vs = [v_self, v_moment] ∧ (Same Z0 H) ∧ (((y_Note T)).r Z0 v_self x_self) ∧ ((yInt).r Z0 v_moment x_moment) ∧ (F_Note_lives_at x_self x_moment = some y) ∧ ∀ v Z' H', Step [] Z0 H Z' H' → (yBool).r Z' v y → Q v H'
set_option maxHeartbeats 4000000 in
theorem ok_Note_lives_at (T : Txt w K mg) : FnOk P w K mg base CX0 1 T.f_Note_lives_at T.d_Note_lives_at ["self", "moment"] (sp_Note_lives_at T) := by
  refine T.F_Note_lives_at.ok sc_Note_lives_at (fun vs H Q E h => ?_) (fun cdv A outer s H vs Q E hr h => ?_)
  · obtain ⟨Z0, v_self, v_moment, x_self, x_moment, y, rfl, _⟩ := h
    rfl
  · obtain ⟨Z0, v_self, v_moment, x_self, x_moment, y, rfl, sz, h_self, h_moment, hF, q⟩ := h
    refine ⟨_, (pss_one (ps_ret (pe_and (pe_cmpR op_le (pe_fld (pv 0) rfl) (pv 1) (nomark _)) (pe_one (pe_or (pe_cmpR op_isN (pe_fld (pv 0) rfl) pe_non (nomark _)) (pe_one (pe_cmpR op_lt (pv 1) (pe_fld (pv 0) rfl) (nomark _)))))))), ?_⟩
    have P := Pt.start0 sz
    unfold F_Note_lives_at at hF
    obtain ⟨b_291, h_290, hF⟩ := bind_inv hF
    replace hF := Option.some.inj hF
    subst hF
    refine st_ret P (ev_andO (ev_le (ev_fld (fo_Note_number T) T.cl_Note T.n_Note_number (ev_var (τ := (y_Note T)) rfl h_self)) (ev_var (τ := yInt) rfl h_moment)) (fun _ y hy => by
          obtain ⟨b_289, h_288, hy⟩ := bind_inv hy
          have hy := Option.some.inj hy
          subst hy
          exact (ev_orO (ev_isN (ev_fld (fo_Note_died T) T.cl_Note T.n_Note_died (ev_var (τ := (y_Note T)) rfl h_self)) ev_non) (fun _ y hy => by
                obtain ⟨u_286, h_287, hy⟩ := bind_inv hy
                have hy := Option.some.inj hy
                subst hy
                exact (ev_lt (ev_var (τ := yInt) rfl h_moment) (ev_uno (ev_fld (fo_Note_died T) T.cl_Note T.n_Note_died (ev_var (τ := (y_Note T)) rfl h_self)) h_287))) h_288)) h_290) (fun v Z1 H1 P1 hv => ?_)
    exact q v _ _ P1.st hv
theorem cs_Note_lives_at (T : Txt w K mg) {μ : Type} {M : Mu μ} {s : μ} {E : XK} {x_self : Note} {x_moment : Int} {y : Bool} (h : F_Note_lives_at x_self x_moment = some y) : CallS M (sp_Note_lives_at T) E (rac (ty (y_Note T) x_self) (rac (ty yInt x_moment) ra0)) s (ty yBool y) s := by
  rintro Z H vs sz m ⟨v_self, _, rfl, h_self, ⟨v_moment, _, rfl, h_moment, rfl⟩⟩ Q q
  exact ⟨Z, v_self, v_moment, x_self, x_moment, y, rfl, sz, h_self, h_moment, h, fun v Z2 H2 st hv => q v Z2 H2 st.pure (M.pure st m) hv⟩
def sp_Note_matches (T : Txt w K mg) : Sp := fun vs H Q _ => ∃ (Z0 : Hp) (v_self : V) (v_key : V) (v_number : V) (v_record : V) (x_self : Note) (x_key : (List Int)) (x_number : Int) (x_record : Record) (y : Bool), vs = [v_self, v_key, v_number, v_record] ∧ (Same Z0 H) ∧ (((y_Note T)).r Z0 v_self x_self) ∧ (((yTup K yInt)).r Z0 v_key x_key) ∧ ((yInt).r Z0 v_number x_number) ∧ (((y_Record T)).r Z0 v_record x_record) ∧ (F_Note_matches x_self x_key x_number x_record = some y) ∧ ∀ v Z' H', Step [] Z0 H Z' H' → (yBool).r Z' v y → Q v H'
set_option maxHeartbeats 4000000 in
theorem ok_Note_matches (T : Txt w K mg) : FnOk P w K mg base CX0 5 T.f_Note_matches T.d_Note_matches ["self", "key", "number", "record"] (sp_Note_matches T) := by
  have G_mark_of : FnOk P w K mg base CX0 4 T.f_mark_of T.d_mark_of ["key", "number", "record"] (sp_mark_of T) := ok_mark_of T
  refine T.F_Note_matches.ok sc_Note_matches (fun vs H Q E h => ?_) (fun cdv A outer s H vs Q E hr h => ?_)
  · obtain ⟨Z0, v_self, v_key, v_number, v_record, x_self, x_key, x_number, x_record, y, rfl, _⟩ := h
    rfl
  · obtain ⟨Z0, v_self, v_key, v_number, v_record, x_self, x_key, x_number, x_record, y, rfl, sz, h_self, h_key, h_number, h_record, hF, q⟩ := h
    refine ⟨_, (pss_one (ps_ret (pe_and (pe_cmpR op_eq (pv 2) (pe_fld (pv 0) rfl) (nomark _)) (pe_and (pe_cmpR op_eq (pe_fld (pv 3) rfl) (pe_fld (pv 0) rfl) (nomark _)) (pe_one (pe_cmpR (op_eqD hr.units) (pe_call G_mark_of (hr.mono (by decide)) (by rfl) T.g_mark_of T.F_mark_of.kp T.b_mark_of .nil pass0 (pa_cons (pv 1) (pa_cons (pv 2) (pa_cons (pv 3) pa_nil)))) (pe_fld (pv 0) rfl) (nomark _))))))), ?_⟩
    have P := Pt.start0 sz
    unfold F_Note_matches at hF
    obtain ⟨b_301, h_300, hF⟩ := bind_inv hF
    replace hF := Option.some.inj hF
    subst hF
    refine st_ret P (ev_andO (ev_eq flat_int (ev_var (τ := yInt) rfl h_number) (ev_fld (fo_Note_number T) T.cl_Note T.n_Note_number (ev_var (τ := (y_Note T)) rfl h_self))) (fun _ y hy => by
          obtain ⟨b_299, h_298, hy⟩ := bind_inv hy
          have hy := Option.some.inj hy
          subst hy
          exact (ev_andO (ev_eq flat_str (ev_fld (fo_Record_name T) T.cl_Record T.n_Record_name (ev_var (τ := (y_Record T)) rfl h_record)) (ev_fld (fo_Note_name T) T.cl_Note T.n_Note_name (ev_var (τ := (y_Note T)) rfl h_self))) (fun _ y hy => by
                obtain ⟨r_296, h_297, hy⟩ := bind_inv hy
                have hy := Option.some.inj hy
                subst hy
                exact (ev_eqD (eqd_tup eqd_int) (by decide) (ev_call (cs_mark_of T h_297) (eva_cons (ev_var (τ := (yTup K yInt)) rfl h_key) (eva_cons (ev_var (τ := yInt) rfl h_number) (eva_cons (ev_var (τ := (y_Record T)) rfl h_record) eva_nil)))) (ev_fld (fo_Note_mark T) T.cl_Note T.n_Note_mark (ev_var (τ := (y_Note T)) rfl h_self)))) h_298)) h_300) (fun v Z1 H1 P1 hv => ?_)
    exact q v _ _ P1.st hv
theorem cs_Note_matches (T : Txt w K mg) {μ : Type} {M : Mu μ} {s : μ} {E : XK} {x_self : Note} {x_key : (List Int)} {x_number : Int} {x_record : Record} {y : Bool} (h : F_Note_matches x_self x_key x_number x_record = some y) : CallS M (sp_Note_matches T) E (rac (ty (y_Note T) x_self) (rac (ty (yTup K yInt) x_key) (rac (ty yInt x_number) (rac (ty (y_Record T) x_record) ra0)))) s (ty yBool y) s := by
  rintro Z H vs sz m ⟨v_self, _, rfl, h_self, ⟨v_key, _, rfl, h_key, ⟨v_number, _, rfl, h_number, ⟨v_record, _, rfl, h_record, rfl⟩⟩⟩⟩ Q q
  exact ⟨Z, v_self, v_key, v_number, v_record, x_self, x_key, x_number, x_record, y, rfl, sz, h_self, h_key, h_number, h_record, h, fun v Z2 H2 st hv => q v Z2 H2 st.pure (M.pure st m) hv⟩
def sp_Note___eq__ (T : Txt w K mg) : Sp := fun vs H Q _ => ∃ (Z0 : Hp) (v_self : V) (v_other : V) (x_self : Note) (x_other : NoteI) (y : Bool), vs = [v_self, v_other] ∧ (Same Z0 H) ∧ (((y_Note T)).r Z0 v_self x_self) ∧ (((y_NoteI T)).r Z0 v_other x_other) ∧ (F_Note___eq__ x_self x_other = some y) ∧ ∀ v Z' H', Step [] Z0 H Z' H' → (yBool).r Z' v y → Q v H'
set_option maxHeartbeats 4000000 in
theorem ok_Note___eq__ (T : Txt w K mg) : FnOk P w K mg base CX0 4 T.f_Note___eq__ T.d_Note___eq__ ["self", "other"] (sp_Note___eq__ T) := by
  have G_Record___eq__ : FnOk P w K mg base CX0 3 T.f_Record___eq__ T.d_Record___eq__ ["self", "other"] (sp_Record___eq__ T) := ok_Record___eq__ T
  refine T.F_Note___eq__.ok sc_Note___eq__ (fun vs H Q E h => ?_) (fun cdv A outer s H vs Q E hr h => ?_)
  · obtain ⟨Z0, v_self, v_other, x_self, x_other, y, rfl, _⟩ := h
    rfl
  · obtain ⟨Z0, v_self, v_other, x_self, x_other, y, rfl, sz, h_self, h_other, hF, q⟩ := h
    refine ⟨_, (pss_one (ps_ret (pe_and (pe_callB call_isi (by rfl) T.m_isinstance (by decide +kernel) (pa_cons (pv 1) (pa_cons (pe_glob (v := .ref T.c_Note) rfl T.mc_Note rfl) pa_nil))) (pe_and (pe_cmpR op_eq (pe_fld (pv 0) rfl) (pe_fld (pv 1) rfl) (nomark _)) (pe_and (pe_cmpR op_eq (pe_fld (pv 0) rfl) (pe_fld (pv 1) rfl) (nomark _)) (pe_and (pe_cmpR (op_eqD hr.units) (pe_fld (pv 0) rfl) (pe_fld (pv 1) rfl) (nomark _)) (pe_and (pe_cmpR (op_eqD hr.units) (pe_fld (pv 0) rfl) (pe_fld (pv 1) rfl) (nomark _)) (pe_and (pe_cmpR (TPN.op_optE T.ns0_Record T.me_Record___eq__ G_Record___eq__ (hr.mono (by decide)) T.b_Record___eq__ pass0) (pe_fld (pv 0) rfl) (pe_fld (pv 1) rfl) (nomark _)) (pe_and (pe_cmpR (op_eqD hr.units) (pe_fld (pv 0) rfl) (pe_fld (pv 1) rfl) (nomark _)) (pe_one (pe_cmpR (op_eqD hr.units) (pe_fld (pv 0) rfl) (pe_fld (pv 1) rfl) (nomark _)))))))))))), ?_⟩
    have P := Pt.start0 sz
    unfold F_Note___eq__ at hF
    obtain ⟨b_349, h_348, hF⟩ := bind_inv hF
    replace hF := Option.some.inj hF
    subst hF
    refine st_ret P (ev_andO (ev_isi (b := x_other.is_Note) (fun _ _ _ h => h) (ev_var (τ := (y_NoteI T)) rfl h_other) (tx_NoteI T) (.own _) (kit_NoteI_Note T _)) (fun _ y hy => by
          obtain ⟨a_320, h_321, hy⟩ := bind_inv hy
          obtain ⟨b_347, h_346, hy⟩ := bind_inv hy
          have hy := Option.some.inj hy
          subst hy
          exact (ev_andO (ev_eq flat_str (ev_fld (fo_Note_name T) T.cl_Note T.n_Note_name (ev_var (τ := (y_Note T)) rfl h_self)) (fs_NoteI_name T (ev_var (τ := (y_NoteI T)) rfl h_other) h_321)) (fun _ y hy => by
                obtain ⟨a_322, h_323, hy⟩ := bind_inv hy
                obtain ⟨b_345, h_344, hy⟩ := bind_inv hy
                have hy := Option.some.inj hy
                subst hy
                exact (ev_andO (ev_eq flat_int (ev_fld (fo_Note_number T) T.cl_Note T.n_Note_number (ev_var (τ := (y_Note T)) rfl h_self)) (fs_NoteI_number T (ev_var (τ := (y_NoteI T)) rfl h_other) h_323)) (fun _ y hy => by
                      obtain ⟨a_324, h_325, hy⟩ := bind_inv hy
                      obtain ⟨b_343, h_342, hy⟩ := bind_inv hy
                      have hy := Option.some.inj hy
                      subst hy
                      exact (ev_andO (ev_eqD (eqd_tup eqd_int) (by decide) (ev_fld (fo_Note_mark T) T.cl_Note T.n_Note_mark (ev_var (τ := (y_Note T)) rfl h_self)) (fs_NoteI_mark T (ev_var (τ := (y_NoteI T)) rfl h_other) h_325)) (fun _ y hy => by
                            obtain ⟨a_326, h_327, hy⟩ := bind_inv hy
                            obtain ⟨b_341, h_340, hy⟩ := bind_inv hy
                            have hy := Option.some.inj hy
                            subst hy
                            exact (ev_andO (ev_eqD (eqd_opt eqd_int (fun _ z => nomatch z)) (by decide) (ev_fld (fo_Note_died T) T.cl_Note T.n_Note_died (ev_var (τ := (y_Note T)) rfl h_self)) (fs_NoteI_died T (ev_var (τ := (y_NoteI T)) rfl h_other) h_327)) (fun _ y hy => by
                                  obtain ⟨a_328, h_329, hy⟩ := bind_inv hy
                                  obtain ⟨r_330, h_331, hy⟩ := bind_inv hy
                                  obtain ⟨b_339, h_338, hy⟩ := bind_inv hy
                                  have hy := Option.some.inj hy
                                  subst hy
                                  exact (ev_andO (ev_optE h_331 (ins_Record T) (fun _ => tx_opt (c := (.ref T.c_Record)) fun _ => (tx_Record T)) (fun y => nf_opt T.nf_Record_NoneType TPN.nf_self y) (fun x y r h => cs_Record___eq__ T h) (ev_fld (fo_Note_record T) T.cl_Note T.n_Note_record (ev_var (τ := (y_Note T)) rfl h_self)) (fs_NoteI_record T (ev_var (τ := (y_NoteI T)) rfl h_other) h_329)) (fun _ y hy => by
                                        obtain ⟨a_332, h_333, hy⟩ := bind_inv hy
                                        obtain ⟨b_337, h_336, hy⟩ := bind_inv hy
                                        have hy := Option.some.inj hy
                                        subst hy
                                        exact (ev_andO (ev_eqD (eqd_opt eqd_int (fun _ z => nomatch z)) (by decide) (ev_fld (fo_Note_segment T) T.cl_Note T.n_Note_segment (ev_var (τ := (y_Note T)) rfl h_self)) (fs_NoteI_segment T (ev_var (τ := (y_NoteI T)) rfl h_other) h_333)) (fun _ y hy => by
                                              obtain ⟨a_334, h_335, hy⟩ := bind_inv hy
                                              have hy := Option.some.inj hy
                                              subst hy
                                              exact (ev_eqD (eqd_tup eqd_int) (by decide) (ev_fld (fo_Note_leaves T) T.cl_Note T.n_Note_leaves (ev_var (τ := (y_Note T)) rfl h_self)) (fs_NoteI_leaves T (ev_var (τ := (y_NoteI T)) rfl h_other) h_335))) h_336)) h_338)) h_340)) h_342)) h_344)) h_346)) h_348) (fun v Z1 H1 P1 hv => ?_)
    exact q v _ _ P1.st hv
theorem cs_Note___eq__ (T : Txt w K mg) {μ : Type} {M : Mu μ} {s : μ} {E : XK} {x_self : Note} {x_other : NoteI} {y : Bool} (h : F_Note___eq__ x_self x_other = some y) : CallS M (sp_Note___eq__ T) E (rac (ty (y_Note T) x_self) (rac (ty (y_NoteI T) x_other) ra0)) s (ty yBool y) s := by
  rintro Z H vs sz m ⟨v_self, _, rfl, h_self, ⟨v_other, _, rfl, h_other, rfl⟩⟩ Q q
  exact ⟨Z, v_self, v_other, x_self, x_other, y, rfl, sz, h_self, h_other, h, fun v Z2 H2 st hv => q v Z2 H2 st.pure (M.pure st m) hv⟩
def sp_is_letter (T : Txt w K mg) : Sp := fun vs H Q _ => ∃ (Z0 : Hp) (v_char : V) (x_char : Str), vs = [v_char] ∧ (Same Z0 H) ∧ ((yStr).r Z0 v_char x_char) ∧ ∀ v Z' H', Step [] Z0 H Z' H' → (yBool).r Z' v (F_is_letter x_char) → Q v H'
set_option maxHeartbeats 4000000 in
theorem ok_is_letter (T : Txt w K mg) : FnOk P w K mg base CX0 1 T.f_is_letter T.d_is_letter ["char"] (sp_is_letter T) := by
  refine T.F_is_letter.ok sc_is_letter (fun vs H Q E h => ?_) (fun cdv A outer s H vs Q E hr h => ?_)
  · obtain ⟨Z0, v_char, x_char, rfl, _⟩ := h
    rfl
  · obtain ⟨Z0, v_char, x_char, rfl, sz, h_char, q⟩ := h
    refine ⟨_, (pss_one (ps_ret (pe_or (pe_chain op_le_str op_le_str pe_str (pv 0) pe_str) (pe_or (pe_chain op_le_str op_le_str pe_str (pv 0) pe_str) (pe_one (pe_cmpR op_eq (pv 0) pe_str (nomark _))))))), ?_⟩
    have P := Pt.start0 sz
    generalize hF : F_is_letter x_char = y at q
    unfold F_is_letter at hF
    subst hF
    refine st_ret P (ev_or0 (ev_chainS ev_str (ev_var (τ := yStr) rfl h_char) ev_str) (ev_or0 (ev_chainS ev_str (ev_var (τ := yStr) rfl h_char) ev_str) (ev_eq flat_str (ev_var (τ := yStr) rfl h_char) ev_str))) (fun v Z1 H1 P1 hv => ?_)
    exact q v _ _ P1.st hv
theorem cs_is_letter (T : Txt w K mg) {μ : Type} {M : Mu μ} {s : μ} {E : XK} {x_char : Str} : CallS M (sp_is_letter T) E (rac (ty yStr x_char) ra0) s (ty yBool (F_is_letter x_char)) s := by
  rintro Z H vs sz m ⟨v_char, _, rfl, h_char, rfl⟩ Q q
  exact ⟨Z, v_char, x_char, rfl, sz, h_char, fun v Z2 H2 st hv => q v Z2 H2 st.pure (M.pure st m) hv⟩
def sp_is_digit (T : Txt w K mg) : Sp := fun vs H Q _ => ∃ (Z0 : Hp) (v_char : V) (x_char : Str), vs = [v_char] ∧ (Same Z0 H) ∧ ((yStr).r Z0 v_char x_char) ∧ ∀ v Z' H', Step [] Z0 H Z' H' → (yBool).r Z' v (F_is_digit x_char) → Q v H'
set_option maxHeartbeats 4000000 in
theorem ok_is_digit (T : Txt w K mg) : FnOk P w K mg base CX0 1 T.f_is_digit T.d_is_digit ["char"] (sp_is_digit T) := by
  refine T.F_is_digit.ok sc_is_digit (fun vs H Q E h => ?_) (fun cdv A outer s H vs Q E hr h => ?_)
  · obtain ⟨Z0, v_char, x_char, rfl, _⟩ := h
    rfl
  · obtain ⟨Z0, v_char, x_char, rfl, sz, h_char, q⟩ := h
    refine ⟨_, (pss_one (ps_ret (pe_chain op_le_str op_le_str pe_str (pv 0) pe_str))), ?_⟩
    have P := Pt.start0 sz
    generalize hF : F_is_digit x_char = y at q
    unfold F_is_digit at hF
    subst hF
    refine st_ret P (ev_chainS ev_str (ev_var (τ := yStr) rfl h_char) ev_str) (fun v Z1 H1 P1 hv => ?_)
    exact q v _ _ P1.st hv
theorem cs_is_digit (T : Txt w K mg) {μ : Type} {M : Mu μ} {s : μ} {E : XK} {x_char : Str} : CallS M (sp_is_digit T) E (rac (ty yStr x_char) ra0) s (ty yBool (F_is_digit x_char)) s := by
  rintro Z H vs sz m ⟨v_char, _, rfl, h_char, rfl⟩ Q q
  exact ⟨Z, v_char, x_char, rfl, sz, h_char, fun v Z2 H2 st hv => q v Z2 H2 st.pure (M.pure st m) hv⟩
def sp_is_word (T : Txt w K mg) : Sp := fun vs H Q _ => ∃ (Z0 : Hp) (v_text : V) (x_text : Str) (y : Bool), vs = [v_text] ∧ (Same Z0 H) ∧ ((yStr).r Z0 v_text x_text) ∧ (F_is_word x_text = some y) ∧ ∀ v Z' H', Step [] Z0 H Z' H' → (yBool).r Z' v y → Q v H'
set_option maxHeartbeats 4000000 in
theorem ok_is_word (T : Txt w K mg) : FnOk P w K mg base CX0 2 T.f_is_word T.d_is_word ["text"] (sp_is_word T) := by
  have G_is_digit : FnOk P w K mg base CX0 1 T.f_is_digit T.d_is_digit ["char"] (sp_is_digit T) := ok_is_digit T
  have G_is_letter : FnOk P w K mg base CX0 1 T.f_is_letter T.d_is_letter ["char"] (sp_is_letter T) := ok_is_letter T
  refine T.F_is_word.ok sc_is_word (fun vs H Q E h => ?_) (fun cdv A outer s H vs Q E hr h => ?_)
  · obtain ⟨Z0, v_text, x_text, y, rfl, _⟩ := h
    rfl
  · obtain ⟨Z0, v_text, x_text, y, rfl, sz, h_text, hF, q⟩ := h
    refine ⟨_, (pss_cons (ps_if (PW.pt (pw_or (pt_cmpR op_eq (pv 0) pe_str (nomark _)) (pw_or1 (pt_not (pt_val (pe_call G_is_letter (hr.mono (by decide)) (by rfl) T.g_is_letter T.F_is_letter.kp T.b_is_letter .nil pass0 (pa_cons (pe_ix ix_str (pv 0) pe_int (fun _ _ => rfl)) pa_nil))))))) (pss_one (ps_ret pe_bl)) pss_nil) 
      (pss_one (ps_ret (pe_callB (cr_all rfl) (by rfl) T.m_all (by decide +kernel) (pa_cons (pe_lc (own := [("char", 1)]) (g := gName 1) rfl sc_is_word.nd (pi_str (pv 0)) (blkOk_by (own := [("char", 1)]) (N := ["text", "char"]) (sc := defScope s_is_word) (by decide +kernel)) (fun _ _ _ _ _ => (pg_name (i := 1) sc_is_word.nd rfl (Or.inl rfl))) (fun _ _ _ _ _ => pts_nil) (fun _ _ _ _ _ => (pe_or (pe_call G_is_letter (hr.mono (by decide)) (by rfl) T.g_is_letter T.F_is_letter.kp T.b_is_letter .nil pass0 (pa_cons (pv 1) pa_nil)) (pe_one (pe_call G_is_digit (hr.mono (by decide)) (by rfl) T.g_is_digit T.F_is_digit.kp T.b_is_digit .nil pass0 (pa_cons (pv 1) pa_nil)))))) pa_nil))))), ?_⟩
    have P := Pt.start0 sz
    unfold F_is_word at hF
    obtain ⟨b_357, h_356, hF⟩ := bind_inv hF
    refine st_seq (st_if P (et_orO (et_cmp (ev_eq flat_str (ev_var (τ := yStr) rfl h_text) ev_str)) (fun _ y hy => by
          obtain ⟨i_354, h_355, hy⟩ := bind_inv hy
          have hy := Option.some.inj hy
          subst hy
          exact (et_not (et_val (ev_call (cs_is_letter T) (eva_cons (ev_ixS (ev_var (τ := yStr) rfl h_text) ev_int h_355) eva_nil))))) h_356) (fun b_358 Z1 H1 e P1 => ?_) (fun b_358 Z1 H1 e P1 => ?_))
    · replace P := P1
      have hB := ifT b_358 hF
      replace hF := hB
      clear hB
      replace hF := Option.some.inj hF
      subst hF
      refine st_ret P ev_bl (fun v Z1 H1 P1 hv => ?_)
      exact q v _ _ P1.st hv
    · replace P := P1
      have hB := ifF b_358 hF
      replace hF := hB
      clear hB
      refine st_next0 ?_
      replace hF := Option.some.inj hF
      subst hF
      refine st_ret P (ev_allL (ev_li (ev_fz (en_map (fun (x_359 : Str) => ((F_is_letter x_359) || (F_is_digit x_359))) (ei_str (ev_var (τ := yStr) rfl h_text)) (fun x_359 v_360 Z' H' zz hh rx_361 => by
            exact ⟨_, tgt_name, rfl, (ev_or0 (ev_call (cs_is_letter T) (eva_cons (ev_var (τ := yStr) rfl rx_361) eva_nil)) (ev_call (cs_is_digit T) (eva_cons (ev_var (τ := yStr) rfl rx_361) eva_nil)))⟩))))) (fun v Z1 H1 P1 hv => ?_)
      exact q v _ _ P1.st hv
theorem cs_is_word (T : Txt w K mg) {μ : Type} {M : Mu μ} {s : μ} {E : XK} {x_text : Str} {y : Bool} (h : F_is_word x_text = some y) : CallS M (sp_is_word T) E (rac (ty yStr x_text) ra0) s (ty yBool y) s := by
  rintro Z H vs sz m ⟨v_text, _, rfl, h_text, rfl⟩ Q q
  exact ⟨Z, v_text, x_text, y, rfl, sz, h_text, h, fun v Z2 H2 st hv => q v Z2 H2 st.pure (M.pure st m) hv⟩
def sp_check_vectors (T : Txt w K mg) : Sp := fun vs H Q E => ∃ (Z0 : Hp) (v_size : V) (v_width : V) (v_measure : V) (x_size : Int) (x_width : Str) (x_measure : Str) (y : (Res Exc Unit)), vs = [v_size, v_width, v_measure] ∧ (Same Z0 H) ∧ ((yInt).r Z0 v_size x_size) ∧ ((yStr).r Z0 v_width x_width) ∧ ((yStr).r Z0 v_measure x_measure) ∧ (F_check_vectors x_size x_width x_measure = some y) ∧ (∀ a, y = .ok a → ∀ v Z' H', Step [] Z0 H Z' H' → (yNon).r Z' v a → Q v H') ∧ (∀ c, y = .er c → ∀ Z' H', Step [] Z0 H Z' H' → E (exv T c) none H')
set_option maxHeartbeats 4000000 in
theorem ok_check_vectors (T : Txt w K mg) : FnOk P w K mg base (L2.CX P w) 1 T.f_check_vectors T.d_check_vectors ["size", "width", "measure"] (sp_check_vectors T) := by
  refine T.F_check_vectors.okX sc_check_vectors (fun vs H Q E h => ?_) (fun cdv A outer s H vs Q E hr h => ?_)
  · obtain ⟨Z0, v_size, v_width, v_measure, x_size, x_width, x_measure, y, rfl, _⟩ := h
    rfl
  · obtain ⟨Z0, v_size, v_width, v_measure, x_size, x_width, x_measure, y, rfl, sz, h_size, h_width, h_measure, hF, q⟩ := h
    refine ⟨_, (pss_cons (ps_if (pt_cmpR op_lt (pv 0) pe_int (nomark _)) (pss_one (ps_raise rfl (takes_of rfl rfl rfl rfl) (pmk_own PySem.F.excBase_ValueError T.x_InvalidSchema T.mc_InvalidSchema T.kp_InvalidSchema (raises_own T.xb_InvalidSchema T.xt_InvalidSchema) rfl))) pss_nil) 
      (pss_cons (ps_if (pt_cmpR (op_notIn_kd T.kd_WIDTHS) (pv 1) (pe_glob (v := .ref T.a_WIDTHS) rfl T.m_WIDTHS rfl) rfl) (pss_one (ps_raise rfl (takes_of rfl rfl rfl rfl) (pmk_own PySem.F.excBase_ValueError T.x_InvalidSchema T.mc_InvalidSchema T.kp_InvalidSchema (raises_own T.xb_InvalidSchema T.xt_InvalidSchema) rfl))) pss_nil) 
      (pss_cons (ps_if (pt_cmpR op_notIn_seq (pv 2) (pe_glob (v := .ref T.a_MEASURES) rfl T.m_MEASURES rfl) rfl) (pss_one (ps_raise rfl (takes_of rfl rfl rfl rfl) (pmk_own PySem.F.excBase_ValueError T.x_InvalidSchema T.mc_InvalidSchema T.kp_InvalidSchema (raises_own T.xb_InvalidSchema T.xt_InvalidSchema) rfl))) pss_nil) 
      (pss_one (ps_if (PW.pt (pw_and (pt_cmpR op_eq (pv 2) pe_str (nomark _)) (pw_and1 (pt_cmpR op_ne (pv 1) pe_str (nomark _))))) (pss_one (ps_raise rfl (takes_of rfl rfl rfl rfl) (pmk_own PySem.F.excBase_ValueError T.x_InvalidSchema T.mc_InvalidSchema T.kp_InvalidSchema (raises_own T.xb_InvalidSchema T.xt_InvalidSchema) rfl))) pss_nil))))), ?_⟩
    obtain ⟨q, qx⟩ := q
    have P := Pt.start0 sz
    unfold F_check_vectors at hF
    refine st_seq (st_if P (et_cmp (ev_lt (ev_var (τ := yInt) rfl h_size) ev_int)) (fun b_362 Z1 H1 e P1 => ?_) (fun b_362 Z1 H1 e P1 => ?_))
    · replace P := P1
      have hB := ifT b_362 hF
      replace hF := hB
      clear hB
      replace hF := Option.some.inj hF
      subst hF
      exact qx _ rfl _ _ P.st
    · replace P := P1
      have hB := ifF b_362 hF
      replace hF := hB
      clear hB
      refine st_next0 ?_
      obtain ⟨b_363, h_364, hF⟩ := bind_inv hF
      refine st_seq (st_if P (et_cmp (ev_notin_WIDTHS T (ev_var (τ := yStr) rfl h_width) h_364)) (fun b_365 Z1 H1 e P1 => ?_) (fun b_365 Z1 H1 e P1 => ?_))
      · replace P := P1
        have hB := ifT b_365 hF
        replace hF := hB
        clear hB
        replace hF := Option.some.inj hF
        subst hF
        exact qx _ rfl _ _ P.st
      · replace P := P1
        have hB := ifF b_365 hF
        replace hF := hB
        clear hB
        refine st_next0 ?_
        refine st_seq (st_if P (et_cmp (ev_notinT fi_str (ev_var (τ := yStr) rfl h_measure) (ev_const (τ := yTup K yStr) fun Z => ⟨_, _, rfl, T.sq_MEASURES Z, (.cons ⟨rfl, by decide +kernel⟩ (.cons ⟨rfl, by decide +kernel⟩ (.cons ⟨rfl, by decide +kernel⟩ .nil))), by decide⟩))) (fun b_366 Z1 H1 e P1 => ?_) (fun b_366 Z1 H1 e P1 => ?_))
        · replace P := P1
          have hB := ifT b_366 hF
          replace hF := hB
          clear hB
          replace hF := Option.some.inj hF
          subst hF
          exact qx _ rfl _ _ P.st
        · replace P := P1
          have hB := ifF b_366 hF
          replace hF := hB
          clear hB
          refine st_next0 ?_
          refine st_if P (et_and0 (et_cmp (ev_eq flat_str (ev_var (τ := yStr) rfl h_measure) ev_str)) (et_cmp (ev_ne flat_str (ev_var (τ := yStr) rfl h_width) ev_str))) (fun b_367 Z1 H1 e P1 => ?_) (fun b_367 Z1 H1 e P1 => ?_)
          · replace P := P1
            have hB := ifT b_367 hF
            replace hF := hB
            clear hB
            replace hF := Option.some.inj hF
            subst hF
            exact qx _ rfl _ _ P.st
          · replace P := P1
            have hB := ifF b_367 hF
            replace hF := hB
            clear hB
            refine st_next ?_
            replace hF := Option.some.inj hF
            subst hF
            exact q _ rfl .non _ _ P.st rfl
theorem cs_check_vectors (T : Txt w K mg) {μ : Type} {M : Mu μ} {s : μ} {E : XK} {x_size : Int} {x_width : Str} {x_measure : Str} {y : Unit} (h : F_check_vectors x_size x_width x_measure = some (.ok y)) : CallS M (sp_check_vectors T) E (rac (ty yInt x_size) (rac (ty yStr x_width) (rac (ty yStr x_measure) ra0))) s (ty yNon y) s := by
  rintro Z H vs sz m ⟨v_size, _, rfl, h_size, ⟨v_width, _, rfl, h_width, ⟨v_measure, _, rfl, h_measure, rfl⟩⟩⟩ Q q
  exact ⟨Z, v_size, v_width, v_measure, x_size, x_width, x_measure, _, rfl, sz, h_size, h_width, h_measure, h, fun a e v Z2 H2 st hv => by cases e; exact q v Z2 H2 st.pure (M.pure st m) hv, fun _ z => nomatch z⟩
theorem cx_check_vectors (T : Txt w K mg) {μ : Type} {M : Mu μ} {s : μ} {E : XK} {x_size : Int} {x_width : Str} {x_measure : Str} {e : Exc} (h : F_check_vectors x_size x_width x_measure = some (.er e)) : CallE M (sp_check_vectors T) E (rac (ty yInt x_size) (rac (ty yStr x_width) (rac (ty yStr x_measure) ra0))) s (exv T e) s := by
  rintro Z H vs sz m ⟨v_size, _, rfl, h_size, ⟨v_width, _, rfl, h_width, ⟨v_measure, _, rfl, h_measure, rfl⟩⟩⟩ Q q
  exact ⟨Z, v_size, v_width, v_measure, x_size, x_width, x_measure, _, rfl, sz, h_size, h_width, h_measure, h, (fun _ z => nomatch z), fun c e Z2 H2 st => by cases e; exact q Z2 H2 st.pure (M.pure st m)⟩
def sp_check_fields (T : Txt w K mg) : Sp := fun vs H Q E => ∃ (Z0 : Hp) (v_fields : V) (x_fields : (List (Str × Str))) (y : (Res Exc Unit)), vs = [v_fields] ∧ (Same Z0 H) ∧ (((yTup K (yP2 K yStr yStr))).r Z0 v_fields x_fields) ∧ (F_check_fields x_fields = some y) ∧ (∀ a, y = .ok a → ∀ v Z' H', Step [] Z0 H Z' H' → (yNon).r Z' v a → Q v H') ∧ (∀ c, y = .er c → ∀ Z' H', Step [] Z0 H Z' H' → E (exv T c) none H')
set_option maxHeartbeats 4000000 in
theorem ok_check_fields (T : Txt w K mg) : FnOk P w K mg base (L2.CX P w) 3 T.f_check_fields T.d_check_fields ["fields"] (sp_check_fields T) := by
  have G_is_word : FnOk P w K mg base CX0 2 T.f_is_word T.d_is_word ["text"] (sp_is_word T) := ok_is_word T
  refine T.F_check_fields.okX sc_check_fields (fun vs H Q E h => ?_) (fun cdv A outer s H vs Q E hr h => ?_)
  · obtain ⟨Z0, v_fields, x_fields, y, rfl, _⟩ := h
    rfl
  · obtain ⟨Z0, v_fields, x_fields, y, rfl, sz, h_fields, hF, q⟩ := h
    refine ⟨_, (pss_cons (ps_for (passes_of rfl) rfl (pi_tup (pv 0)) (pg_tup rfl (pgs_cons (pg_name (i := 1) sc_check_fields.nd rfl (.inl rfl)) (pgs_cons (pg_name (i := 2) sc_check_fields.nd rfl (.inl rfl)) pgs_nil))) (pss_cons (ps_if (PW.pt (pw_or (pt_not (pt_val (pe_call G_is_word (hr.mono (by decide)) (by rfl) T.g_is_word T.F_is_word.kp T.b_is_word .nil pass0 (pa_cons (pv 1) pa_nil)))) (pw_or1 (pt_cmpR op_in_seq (pv 1) (pe_glob (v := .ref T.a_RESERVED) rfl T.m_RESERVED rfl) rfl)))) (pss_one (ps_raise rfl (takes_of rfl rfl rfl rfl) (pmk_own PySem.F.excBase_ValueError T.x_InvalidSchema T.mc_InvalidSchema T.kp_InvalidSchema (raises_own T.xb_InvalidSchema T.xt_InvalidSchema) rfl))) pss_nil) 
      (pss_one (ps_if (pt_cmpR op_notIn_seq (pv 2) (pe_glob (v := .ref T.a_KINDS) rfl T.m_KINDS rfl) rfl) (pss_one (ps_raise rfl (takes_of rfl rfl rfl rfl) (pmk_own PySem.F.excBase_ValueError T.x_InvalidSchema T.mc_InvalidSchema T.kp_InvalidSchema (raises_own T.xb_InvalidSchema T.xt_InvalidSchema) rfl))) pss_nil)))) 
      (pss_one (ps_if (pt_cmpR op_lt (TSN.pe_lenSetT rfl (by rfl) T.m_len (by rfl) T.m_set (pe_lc (own := [("name", 1), ("_", 3)]) (g := gTup K 2 (gCons (gName 1) (gCons (gName 3) gNil))) rfl sc_check_fields.nd (pi_tup (pv 0)) (blkOk_by (own := [("name", 1), ("_", 3)]) (N := ["fields", "name", "kind", "_"]) (sc := defScope s_check_fields) (by decide +kernel)) (fun _ _ _ _ _ => (by exact (pg_tup rfl (pgs_cons (pg_name (i := 1) sc_check_fields.nd rfl (Or.inl rfl)) (pgs_cons (pg_name (i := 3) sc_check_fields.nd rfl (Or.inl rfl)) pgs_nil))))) (fun _ _ _ _ _ => pts_nil) (fun _ _ _ _ _ => (pv 1)))) (pe_callB call_len_seq (by rfl) T.m_len PySem.boot_len (pa_cons (pv 0) pa_nil)) (nomark _)) (pss_one (ps_raise rfl (takes_of rfl rfl rfl rfl) (pmk_own PySem.F.excBase_ValueError T.x_InvalidSchema T.mc_InvalidSchema T.kp_InvalidSchema (raises_own T.xb_InvalidSchema T.xt_InvalidSchema) rfl))) pss_nil))), ?_⟩
    obtain ⟨q, qx⟩ := q
    have P := Pt.start0 sz
    unfold F_check_fields at hF
    obtain ⟨f_396, hL_397, hF⟩ := bind_inv hF
    refine st_seq (st_for (τ := (yP2 K yStr yStr)) (fun (r_370 : List (Str × Str)) σ' Z' H' => ∃ w_368, ∃ (y_376 : Option V) (y_377 : Option V) (y_378 : Option V), σ' = [some v_fields, y_376, y_377, y_378] ∧ Pt [] Z0 H muN Z' H' () ∧ ((yTup K (yP2 K yStr yStr))).r Z' v_fields x_fields ∧ forS L_check_fields_1 r_370 w_368 = some f_396) P (ei_tup (ev_var (τ := (yTup K (yP2 K yStr yStr))) rfl h_fields)) ?_ ?_ ?_)
    · rintro Z1 H1 e P1
      replace P := P1
      replace h_fields := ((yTup K (yP2 K yStr yStr))).mono e.z h_fields
      exact ⟨(), _, _, _, rfl, P, h_fields, hL_397⟩
    · rintro Zb_374 Hb eb x_369 r_370 σ' v_384 Z1 H1 Z2 H2 zs_373 ⟨w_368, y_376, y_377, y_378, rfl, P, k_375, hq_372⟩ e hx_385
      replace P := P.item e
      replace k_375 := ((yTup K (yP2 K yStr yStr))).mono e.z k_375
      replace zs_373 := zs_373.trans e.z
      obtain ⟨u_386, hB_371, hq_372⟩ := bind_inv (forS_cons hq_372)
      unfold L_check_fields_1 at hB_371
      obtain ⟨v_387, v_388, k_389, k_390, tg_391⟩ := tgt_p2 hx_385
      refine (tg_391 tgt_name tgt_name) _ P.sub _ ?_
      obtain ⟨r_392, h_393, hB_371⟩ := bind_inv hB_371
      refine st_seq (st_if P (et_or0 (et_not (et_val (ev_call (cs_is_word T h_393) (eva_cons (ev_var (τ := yStr) rfl k_389) eva_nil)))) (et_cmp (ev_inT fi_str (ev_var (τ := yStr) rfl k_389) (ev_const (τ := yTup K yStr) fun Z => ⟨_, _, rfl, T.sq_RESERVED Z, (.cons ⟨rfl, by decide +kernel⟩ (.cons ⟨rfl, by decide +kernel⟩ (.cons ⟨rfl, by decide +kernel⟩ (.cons ⟨rfl, by decide +kernel⟩ (.cons ⟨rfl, by decide +kernel⟩ (.cons ⟨rfl, by decide +kernel⟩ (.cons ⟨rfl, by decide +kernel⟩ (.cons ⟨rfl, by decide +kernel⟩ .nil)))))))), by decide⟩)))) (fun b_394 Z1 H1 e P1 => ?_) (fun b_394 Z1 H1 e P1 => ?_))
      · replace P := P1
        have hB := ifT b_394 hB_371
        replace hB_371 := hB
        clear hB
        replace zs_373 := zs_373.trans e.z
        replace hB_371 := Option.some.inj hB_371
        subst hB_371
        have hz := nxt_ret hq_372
        subst hz
        have hz := ret_inv hF
        replace hz := Option.some.inj hz
        subst hz
        exact qx _ rfl _ _ P.st
      · replace P := P1
        have hB := ifF b_394 hB_371
        replace hB_371 := hB
        clear hB
        refine st_next0 ?_
        replace k_375 := ((yTup K (yP2 K yStr yStr))).mono e.z k_375
        replace zs_373 := zs_373.trans e.z
        refine st_if P (et_cmp (ev_notinT fi_str (ev_var (τ := yStr) rfl k_390) (ev_const (τ := yTup K yStr) fun Z => ⟨_, _, rfl, T.sq_KINDS Z, (.cons ⟨rfl, by decide +kernel⟩ (.cons ⟨rfl, by decide +kernel⟩ (.cons ⟨rfl, by decide +kernel⟩ .nil))), by decide⟩))) (fun b_395 Z1 H1 e P1 => ?_) (fun b_395 Z1 H1 e P1 => ?_)
        · replace P := P1
          have hB := ifT b_395 hB_371
          replace hB_371 := hB
          clear hB
          replace zs_373 := zs_373.trans e.z
          replace hB_371 := Option.some.inj hB_371
          subst hB_371
          have hz := nxt_ret hq_372
          subst hz
          have hz := ret_inv hF
          replace hz := Option.some.inj hz
          subst hz
          exact qx _ rfl _ _ P.st
        · replace P := P1
          have hB := ifF b_395 hB_371
          replace hB_371 := hB
          clear hB
          refine st_next ?_
          replace k_375 := ((yTup K (yP2 K yStr yStr))).mono e.z k_375
          replace zs_373 := zs_373.trans e.z
          replace hB_371 := Option.some.inj hB_371
          subst hB_371
          exact ⟨_, zs_373, P.sub, (), _, _, _, rfl, P, k_375, (nxt_go hq_372)⟩
    rintro σ' Z1 H1 _ _ ⟨w_379, y_376, y_377, y_378, rfl, P, k_380, hl⟩
    have hz := forS_nil hl
    subst hz
    replace hF := go_inv hF
    refine st_nx ?_
    obtain ⟨g_406, hF⟩ := guard_inv hF
    refine st_if P (et_cmp (ev_lt (ev_lenSetT (ev_li (ev_fz (en_map (fun (x_398 : (Str × Str)) => x_398.1) (ei_tup (ev_var (τ := (yTup K (yP2 K yStr yStr))) rfl k_380)) (fun x_398 v_399 Z' H' zz hh rx_400 => by
          obtain ⟨v_401, v_402, k_403, k_404, tg_405⟩ := tgt_p2 rx_400
          exact ⟨_, (tg_405 tgt_name tgt_name), rfl, (ev_var (τ := yStr) rfl k_403)⟩)))) g_406) (ev_lenT (fun _ _ _ h => h) (ev_var (τ := (yTup K (yP2 K yStr yStr))) rfl k_380)))) (fun b_407 Z1 H1 e P1 => ?_) (fun b_407 Z1 H1 e P1 => ?_)
    · replace P := P1
      have hB := ifT b_407 hF
      replace hF := hB
      clear hB
      replace hF := Option.some.inj hF
      subst hF
      exact qx _ rfl _ _ P.st
    · replace P := P1
      have hB := ifF b_407 hF
      replace hF := hB
      clear hB
      refine st_next ?_
      replace hF := Option.some.inj hF
      subst hF
      exact q _ rfl .non _ _ P.st rfl
theorem cs_check_fields (T : Txt w K mg) {μ : Type} {M : Mu μ} {s : μ} {E : XK} {x_fields : (List (Str × Str))} {y : Unit} (h : F_check_fields x_fields = some (.ok y)) : CallS M (sp_check_fields T) E (rac (ty (yTup K (yP2 K yStr yStr)) x_fields) ra0) s (ty yNon y) s := by
  rintro Z H vs sz m ⟨v_fields, _, rfl, h_fields, rfl⟩ Q q
  exact ⟨Z, v_fields, x_fields, _, rfl, sz, h_fields, h, fun a e v Z2 H2 st hv => by cases e; exact q v Z2 H2 st.pure (M.pure st m) hv, fun _ z => nomatch z⟩
theorem cx_check_fields (T : Txt w K mg) {μ : Type} {M : Mu μ} {s : μ} {E : XK} {x_fields : (List (Str × Str))} {e : Exc} (h : F_check_fields x_fields = some (.er e)) : CallE M (sp_check_fields T) E (rac (ty (yTup K (yP2 K yStr yStr)) x_fields) ra0) s (exv T e) s := by
  rintro Z H vs sz m ⟨v_fields, _, rfl, h_fields, rfl⟩ Q q
  exact ⟨Z, v_fields, x_fields, _, rfl, sz, h_fields, h, (fun _ z => nomatch z), fun c e Z2 H2 st => by cases e; exact q Z2 H2 st.pure (M.pure st m)⟩
def sp_Schema___init__ (T : Txt w K mg) : Sp := fun vs H Q E => ∃ (p dx : Addr) (Z0 : Hp) (v_size : V) (v_width : V) (v_measure : V) (v_fields : V) (x_size : Int) (x_width : Str) (x_measure : Str) (x_fields : (List (Str × Str))) (y : (Res Exc Schema)), vs = [.ref p, v_size, v_width, v_measure, v_fields] ∧ (Same Z0 H) ∧ (H p = some (.ins T.c_Schema dx [])) ∧ (Z0 p = none) ∧ ((yInt).r Z0 v_size x_size) ∧ ((yStr).r Z0 v_width x_width) ∧ ((yStr).r Z0 v_measure x_measure) ∧ (((yTup K (yP2 K yStr yStr))).r Z0 v_fields x_fields) ∧ (F_Schema___init__ x_size x_width x_measure x_fields = some y) ∧ (∀ a, y = .ok a → ∀ Z' H' o, Step [p] Z0 H Z' H' → H' p = some o → (y_Schema T).r (upd Z' p o) (.ref p) a → Q .non H') ∧ (∀ c, y = .er c → ∀ Z' H', Step [p] Z0 H Z' H' → E (exv T c) none H')
set_option maxHeartbeats 4000000 in
theorem ok_Schema___init__ (T : Txt w K mg) : FnOk P w K mg base (L2.CX P w) 4 T.f_Schema___init__ T.d_Schema___init__ ["self", "size", "width", "measure", "fields"] (sp_Schema___init__ T) := by
  have G_check_fields : FnOk P w K mg base (L2.CX P w) 3 T.f_check_fields T.d_check_fields ["fields"] (sp_check_fields T) := ok_check_fields T
  have G_check_vectors : FnOk P w K mg base (L2.CX P w) 1 T.f_check_vectors T.d_check_vectors ["size", "width", "measure"] (sp_check_vectors T) := ok_check_vectors T
  refine T.F_Schema___init__.ok sc_Schema___init__ (fun vs H Q E h => ?_) (fun cdv A outer s H vs Q E hr h => ?_)
  · obtain ⟨p, dx, Z0, v_size, v_width, v_measure, v_fields, x_size, x_width, x_measure, x_fields, y, rfl, _⟩ := h
    rfl
  · obtain ⟨p, dx, Z0, v_size, v_width, v_measure, v_fields, x_size, x_width, x_measure, x_fields, y, rfl, sz, hself, zself, h_size, h_width, h_measure, h_fields, hF, q⟩ := h
    refine ⟨_, (pss_cons (ps_fld (pv 0) (pv 1) rfl) 
      (pss_cons (ps_fld (pv 0) (pv 2) rfl) 
      (pss_cons (ps_fld (pv 0) (pv 3) rfl) 
      (pss_cons (ps_fld (pv 0) (pe_callTy call_tuple_of (by rfl) T.m_tuple (by decide +kernel) (pa_cons (pe_lc (own := [("pair", 5)]) (g := gName 5) rfl sc_Schema___init__.nd (pi_tup (pv 4)) (blkOk_by (own := [("pair", 5)]) (N := ["self", "size", "width", "measure", "fields", "pair"]) (sc := defScope s_Schema___init__) (by decide +kernel)) (fun _ _ _ _ _ => (pg_name (i := 5) sc_Schema___init__.nd rfl (Or.inl rfl))) (fun _ _ _ _ _ => pts_nil) (fun _ _ _ _ _ => (pe_callTy (r := rTupleB K) (by exact call_tuple_of) (by rfl) T.m_tuple (by decide +kernel) (pa_cons (pv 5) pa_nil)))) pa_nil)) rfl) 
      (pss_cons (ps_expr (pe_call G_check_vectors (hr.mono (by decide)) (by rfl) T.g_check_vectors T.F_check_vectors.kp T.b_check_vectors .nil (passes_call (takes_of rfl rfl rfl rfl) (fun _ _ _ _ h => h)) (pa_cons (pv 1) (pa_cons (pv 2) (pa_cons (pv 3) pa_nil))))) 
      (pss_one (ps_expr (pe_call G_check_fields (hr.mono (by decide)) (by rfl) T.g_check_fields T.F_check_fields.kp T.b_check_fields .nil (passes_call (takes_of rfl rfl rfl rfl) (fun _ _ _ _ h => h)) (pa_cons (pe_fld (pv 0) rfl) pa_nil))))))))), ?_⟩
    obtain ⟨q, qx⟩ := q
    have P : Pt [p] Z0 H muN Z0 H () := ⟨Step.refl sz, trivial, fun _ h => (nomatch h)⟩
    unfold F_Schema___init__ at hF
    refine st_seq (st_fld (x := x_size) (τ := yInt) P hself zself List.not_mem_nil (.inl List.mem_cons_self) rfl (ev_var (τ := yInt) rfl h_size) T.cl_Schema T.n_Schema_size (Nat.lt_of_le_of_lt (Nat.le_refl 0) (by decide)) (fun v_408 Z1 H1 e P1 k_409 hself1 zself1 => ?_))
    refine st_nx ?_
    replace P := P1
    replace hself := hself1
    replace zself := zself1
    replace h_fields := ((yTup K (yP2 K yStr yStr))).mono e.z h_fields
    refine st_seq (st_fld (x := x_width) (τ := yStr) P hself zself List.not_mem_nil (.inl List.mem_cons_self) rfl (ev_var (τ := yStr) rfl h_width) T.cl_Schema T.n_Schema_width (Nat.lt_of_le_of_lt (putF_le (Nat.le_refl 0)) (by decide)) (fun v_410 Z1 H1 e P1 k_411 hself1 zself1 => ?_))
    refine st_nx ?_
    replace P := P1
    replace hself := hself1
    replace zself := zself1
    replace h_fields := ((yTup K (yP2 K yStr yStr))).mono e.z h_fields
    refine st_seq (st_fld (x := x_measure) (τ := yStr) P hself zself List.not_mem_nil (.inl List.mem_cons_self) rfl (ev_var (τ := yStr) rfl h_measure) T.cl_Schema T.n_Schema_measure (Nat.lt_of_le_of_lt (putF_le (putF_le (Nat.le_refl 0))) (by decide)) (fun v_412 Z1 H1 e P1 k_413 hself1 zself1 => ?_))
    refine st_nx ?_
    replace P := P1
    replace hself := hself1
    replace zself := zself1
    replace h_fields := ((yTup K (yP2 K yStr yStr))).mono e.z h_fields
    refine st_seq (st_fld (x := x_fields) (τ := (yTup K (yP2 K yStr yStr))) P hself zself List.not_mem_nil (.inl List.mem_cons_self) rfl (ev_tuple_of (fun _ _ _ h => h) (ev_li (ev_fz (en_cast (en_map (fun x => x) (ei_tup (ev_var (τ := (yTup K (yP2 K yStr yStr))) rfl h_fields)) (fun x_417 v_418 Z' H' zz hh rx_419 => by
          exact ⟨_, tgt_name, rfl, (ev_tuple_id (fun _ _ _ h => h) it_p2 (ev_var (τ := (yP2 K yStr yStr)) rfl rx_419))⟩)) (List.map_id' _))))) T.cl_Schema T.n_Schema_fields (Nat.lt_of_le_of_lt (putF_le (putF_le (putF_le (Nat.le_refl 0)))) (by decide)) (fun v_420 Z1 H1 e P1 k_421 hself1 zself1 => ?_))
    refine st_nx ?_
    replace P := P1
    replace hself := hself1
    replace zself := zself1
    obtain ⟨p_424, h_423, hF⟩ := bind_inv hF
    rcases p_424 with r_422 | e
    rotate_left
    · replace hF := rer_inv hF
      replace hF := Option.some.inj hF
      subst hF
      refine st_seq (st_exprE P (eve_call (cx_check_vectors T h_423) (eva_cons (ev_var (τ := yInt) rfl h_size) (eva_cons (ev_var (τ := yStr) rfl h_width) (eva_cons (ev_var (τ := yStr) rfl h_measure) eva_nil)))) (fun Z1 H1 e1 P1 => ?_))
      exact qx _ rfl _ _ P1.st
    replace hF := rok_inv hF
    refine st_seq (st_expr P (ev_call (cs_check_vectors T h_423) (eva_cons (ev_var (τ := yInt) rfl h_size) (eva_cons (ev_var (τ := yStr) rfl h_width) (eva_cons (ev_var (τ := yStr) rfl h_measure) eva_nil)))) (fun Z1 H1 e P1 => ?_))
    refine st_nx ?_
    replace P := P1
    replace k_421 := ((yTup K (yP2 K yStr yStr))).mono e.z k_421
    replace zself := e.n _ (some_ne hself) zself
    replace hself := e.h _ _ List.not_mem_nil hself
    obtain ⟨p_428, h_427, hF⟩ := bind_inv hF
    rcases p_428 with r_426 | e
    rotate_left
    · replace hF := rer_inv hF
      replace hF := Option.some.inj hF
      subst hF
      refine st_exprE P (eve_call (cx_check_fields T h_427) (eva_cons (ev_selfF hself List.not_mem_nil rfl T.cl_Schema T.n_Schema_fields (by rw [lookup_putF, if_pos rfl]) k_421) eva_nil)) (fun Z1 H1 e1 P1 => ?_)
      exact qx _ rfl _ _ P1.st
    replace hF := rok_inv hF
    refine st_expr P (ev_call (cs_check_fields T h_427) (eva_cons (ev_selfF hself List.not_mem_nil rfl T.cl_Schema T.n_Schema_fields (by rw [lookup_putF, if_pos rfl]) k_421) eva_nil)) (fun Z1 H1 e P1 => ?_)
    replace P := P1
    replace k_421 := ((yTup K (yP2 K yStr yStr))).mono e.z k_421
    replace zself := e.n _ (some_ne hself) zself
    replace hself := e.h _ _ List.not_mem_nil hself
    replace hF := Option.some.inj hF
    subst hF
    exact q _ rfl _ _ _ P.st hself ⟨p, dx, v_408, v_410, v_412, v_420, rfl, upd_same, k_409, k_411, k_413, ((yTup K (yP2 K yStr yStr))).mono (same_upd zself) k_421⟩
theorem is_Schema___init__ (T : Txt w K mg) {μ : Type} {M : Mu μ} {s : μ} {E : XK} {x_size : Int} {x_width : Str} {x_measure : Str} {x_fields : (List (Str × Str))} {y : Schema} (h : F_Schema___init__ x_size x_width x_measure x_fields = some (.ok y)) : InitS M T.c_Schema (sp_Schema___init__ T) E (rac (ty yInt x_size) (rac (ty yStr x_width) (rac (ty yStr x_measure) (rac (ty (yTup K (yP2 K yStr yStr)) x_fields) ra0)))) s (ty (y_Schema T) y) s := by
  rintro Z H vs x dx sz m ⟨v_size, _, rfl, h_size, ⟨v_width, _, rfl, h_width, ⟨v_measure, _, rfl, h_measure, ⟨v_fields, _, rfl, h_fields, rfl⟩⟩⟩⟩ hx zx nx Q q
  exact ⟨x, dx, Z, v_size, v_width, v_measure, v_fields, x_size, x_width, x_measure, x_fields, _, rfl, sz, hx, zx, h_size, h_width, h_measure, h_fields, h, fun a e Z2 H2 o st ho hr => by cases e; exact q Z2 H2 o (st.weak fun a h => by rw [List.mem_singleton] at h; rw [h]; exact .inl List.mem_cons_self) (Mu.away st nx m) ho hr, fun _ z => nomatch z⟩
theorem ix_Schema___init__ (T : Txt w K mg) {μ : Type} {M : Mu μ} {s : μ} {E : XK} {x_size : Int} {x_width : Str} {x_measure : Str} {x_fields : (List (Str × Str))} {e : Exc} (h : F_Schema___init__ x_size x_width x_measure x_fields = some (.er e)) : InitE M T.c_Schema (sp_Schema___init__ T) E (rac (ty yInt x_size) (rac (ty yStr x_width) (rac (ty yStr x_measure) (rac (ty (yTup K (yP2 K yStr yStr)) x_fields) ra0)))) s (exv T e) s := by
  rintro Z H vs x dx sz m ⟨v_size, _, rfl, h_size, ⟨v_width, _, rfl, h_width, ⟨v_measure, _, rfl, h_measure, ⟨v_fields, _, rfl, h_fields, rfl⟩⟩⟩⟩ hx zx nx Q q
  exact ⟨x, dx, Z, v_size, v_width, v_measure, v_fields, x_size, x_width, x_measure, x_fields, _, rfl, sz, hx, zx, h_size, h_width, h_measure, h_fields, h, (fun _ z => nomatch z), fun c e Z2 H2 st => by cases e; exact q Z2 H2 (st.weak fun a h => by rw [List.mem_singleton] at h; rw [h]; exact .inl List.mem_cons_self) (Mu.away st nx m)⟩
def sp_law_schema (T : Txt w K mg) : Sp := fun vs H Q _ => ∃ (st sc : Addr) (Z0 : Hp) (ds : DS) (y : (Schema × DS)), vs = [.ref st] ∧ (Same Z0 H) ∧ ((muD st sc).m ds Z0 H) ∧ (F_law_schema ds = some y) ∧ ∀ v Z' H', Step (muD st sc).fp Z0 H Z' H' → (muD st sc).m y.2 Z' H' → ((y_Schema T)).r Z' v y.1 → Q v H'
set_option maxHeartbeats 4000000 in
theorem ok_law_schema (T : Txt w K mg) : FnOk P w K mg base CX0 6 T.f_law_schema T.d_law_schema ["state"] (sp_law_schema T) := by
  have G_Schema___init__ : FnOk P w K mg base (L2.CX P w) 4 T.f_Schema___init__ T.d_Schema___init__ ["self", "size", "width", "measure", "fields"] (sp_Schema___init__ T) := ok_Schema___init__ T
  have G_law_next : FnOk P w K mg base CX0 2 T.f_law_next T.d_law_next ["state", "many"] (sp_law_next T) := ok_law_next T
  refine T.F_law_schema.ok sc_law_schema (fun vs H Q E h => ?_) (fun cdv A outer s H vs Q E hr h => ?_)
  · obtain ⟨st, sc, Z0, ds, y, rfl, _⟩ := h
    rfl
  · obtain ⟨st, sc, Z0, ds, y, rfl, sz, hm, hF, q⟩ := h
    refine ⟨_, (pss_cons (ps_set (i := 1) sc_law_schema.nd rfl (.inl rfl) (pe_op op_add pe_int (pe_call G_law_next (hr.mono (by decide)) (by rfl) T.g_law_next T.F_law_next.kp T.b_law_next .nil pass0 (pa_cons (pv 0) (pa_cons pe_int pa_nil))))) 
      (pss_cons (ps_set (i := 2) sc_law_schema.nd rfl (.inl rfl) (pe_ix ix_list (pe_lst (pa_cons pe_str (pa_cons pe_str (pa_cons pe_str pa_nil)))) (pe_call G_law_next (hr.mono (by decide)) (by rfl) T.g_law_next T.F_law_next.kp T.b_law_next .nil pass0 (pa_cons (pv 0) (pa_cons pe_int pa_nil))) (fun _ _ => rfl))) 
      (pss_cons (ps_set (i := 3) sc_law_schema.nd rfl (.inl rfl) pe_str) 
      (pss_cut (ps_if (pt_cmpR op_eq (pv 2) pe_str (nomark _)) (pss_one (ps_set (i := 3) sc_law_schema.nd rfl (.inl rfl) pe_str)) pss_nil) 
      (pss_one (ps_ret (pe_makeK T.mk_Schema G_Schema___init__ (hr.mono (by decide)) (by rfl) T.mc_Schema T.kb_Schema___init__ passL (pa_cons (pv 1) pa_nil) (pk_cons (pv 3) (pk_cons (pv 2) (pk_cons (pe_tup (pa_cons (pe_tup (pa_cons pe_str (pa_cons pe_str pa_nil))) (pa_cons (pe_tup (pa_cons pe_str (pa_cons pe_str pa_nil))) pa_nil))) pk_nil)))))))))), ?_⟩
    have P := Pt.start (muD st sc) sz hm
    unfold F_law_schema at hF
    obtain ⟨x_size_439, h_440, hF⟩ := bind_inv hF
    replace h_440 := Option.some.inj h_440
    refine st_seq (st_set P (ev_cast (ev_add ev_int (ev_call (cs__law_next T (by decide +kernel)) (eva_cons (ev_ref rfl) (eva_cons ev_int eva_nil)))) h_440) (fun v_441 Z1 H1 e P1 k_442 => ?_))
    refine st_nx ?_
    replace P := P1
    obtain ⟨i_443, h_444, hF⟩ := bind_inv hF
    refine st_seq (st_set P (ev_ixL (ev_li (ev_fz (en_listD (eva_conss ev_str (eva_conss ev_str (eva_conss ev_str (eva_nils (τ := yStr))))) (by show 3 ≤ sizeLine; decide)))) (ev_call (cs__law_next T (by decide +kernel)) (eva_cons (ev_ref rfl) (eva_cons ev_int eva_nil))) h_444) (fun v_445 Z1 H1 e P1 k_446 => ?_))
    refine st_nx ?_
    replace P := P1
    refine st_seq (st_set P ev_str (fun v_447 Z1 H1 e P1 k_448 => ?_))
    refine st_nx ?_
    replace P := P1
    obtain ⟨w_451, hB_450, hF⟩ := bind_inv hF
    refine ⟨fun σ' H' => ∃ Z', ∃ (v_452 : V), σ' = [some (.ref st), some v_441, some v_445, some v_452] ∧ Pt (muD st sc).fp Z0 H (muD st sc) Z' H' (nxS (nxS ds (3 : Int)) (3 : Int)) ∧ (yStr).r Z' v_452 w_451, ?_, ?_⟩
    · refine st_if P (et_cmp (ev_eq flat_str (ev_var (τ := yStr) rfl k_446) ev_str)) (fun b_449 Z1 H1 e P1 => ?_) (fun b_449 Z1 H1 e P1 => ?_)
      · replace P := P1
        replace hB_450 := ifT b_449 hB_450
        refine st_set P ev_str (fun v_454 Z1 H1 e P1 k_455 => ?_)
        replace P := P1
        replace hB_450 := Option.some.inj hB_450
        subst hB_450
        exact ⟨_, _, rfl, P, k_455⟩
      · replace P := P1
        replace hB_450 := ifF b_449 hB_450
        replace hB_450 := Option.some.inj hB_450
        subst hB_450
        exact ⟨_, _, rfl, P, k_448⟩
    rintro σ' H' ⟨Z1, v_452, rfl, P, k_453⟩
    obtain ⟨r_456, h_457, hF⟩ := bind_inv hF
    replace hF := Option.some.inj hF
    subst hF
    refine st_ret P (ev_makeK (is_Schema___init__ T (val_inv h_457)) (eva_cons (ev_var (τ := yInt) rfl k_442) eva_nil) (eva_cons (ev_var (τ := yStr) rfl k_453) (eva_cons (ev_var (τ := yStr) rfl k_446) (eva_cons (ev_tupD (K := K) (eva_conss (ev_p2 (K := K) (eva_cons ev_str (eva_cons ev_str eva_nil))) (eva_conss (ev_p2 (K := K) (eva_cons ev_str (eva_cons ev_str eva_nil))) (eva_nils (τ := (yP2 K yStr yStr))))) (by show 2 ≤ sizeLine; decide)) eva_nil))) (fun Z H vs zs x hv hz => by
          obtain ⟨v0, _, rfl, hv0, rfl⟩ := hv
          obtain ⟨w0, _, rfl, hw0, ⟨w1, _, rfl, hw1, ⟨w2, _, rfl, hw2, rfl⟩⟩⟩ := hz
          exact ⟨rfl, rfl, _, rfl, ⟨v0, _, rfl, hv0, ⟨w0, _, rfl, hw0, ⟨w1, _, rfl, hw1, ⟨w2, _, rfl, hw2, rfl⟩⟩⟩⟩⟩)) (fun v Z1 H1 P1 hv => ?_)
    exact q v _ _ P1.st P1.m hv
theorem cs_law_schema (T : Txt w K mg) {st sc : Addr} {ds : DS} {E : XK}  {y : Schema × DS} (h : F_law_schema ds = some y) : CallS (muD st sc) (sp_law_schema T) E (rac (isRef st) ra0) ds (ty (y_Schema T) y.1) y.2 := by
  rintro Z H vs sz m ⟨_, _, rfl, rfl, rfl⟩ Q q
  exact ⟨st, sc, Z, ds, y, rfl, sz, m, h, fun v Z2 H2 s2 m2 hv => q v Z2 H2 s2 m2 hv⟩
def sp_law_vector (T : Txt w K mg) : Sp := fun vs H Q _ => ∃ (st sc : Addr) (Z0 : Hp) (ds : DS) (v_schema : V) (x_schema : Schema) (y : ((List Int) × DS)), vs = [.ref st, v_schema] ∧ (Same Z0 H) ∧ ((muD st sc).m ds Z0 H) ∧ (((y_Schema T)).r Z0 v_schema x_schema) ∧ (F_law_vector ds x_schema = some y) ∧ ∀ v Z' H', Step (muD st sc).fp Z0 H Z' H' → (muD st sc).m y.2 Z' H' → ((yList yInt)).r Z' v y.1 → Q v H'
set_option maxHeartbeats 4000000 in
theorem ok_law_vector (T : Txt w K mg) : FnOk P w K mg base CX0 3 T.f_law_vector T.d_law_vector ["state", "schema"] (sp_law_vector T) := by
  have G_law_next : FnOk P w K mg base CX0 2 T.f_law_next T.d_law_next ["state", "many"] (sp_law_next T) := ok_law_next T
  refine T.F_law_vector.ok sc_law_vector (fun vs H Q E h => ?_) (fun cdv A outer s H vs Q E hr h => ?_)
  · obtain ⟨st, sc, Z0, ds, v_schema, x_schema, y, rfl, _⟩ := h
    rfl
  · obtain ⟨st, sc, Z0, ds, v_schema, x_schema, y, rfl, sz, hm, h_schema, hF, q⟩ := h
    refine ⟨_, (pss_cons (ps_if (pt_cmpR op_eq (pe_fld (pv 1) rfl) pe_str (nomark _)) (pss_one (ps_ret (pe_lc (own := [("k", 2)]) (g := gName 2) rfl sc_law_vector.nd (pi_range1 rfl T.m_range (pa_cons (pe_fld (pv 1) rfl) pa_nil)) (blkOk_by (own := [("k", 2)]) (N := ["state", "schema", "k"]) (sc := defScope s_law_vector) (by decide +kernel)) (fun _ _ _ _ _ => (pg_name (i := 2) sc_law_vector.nd rfl (Or.inl rfl))) (fun _ _ _ _ _ => pts_nil) (fun _ _ _ _ _ => (pe_call G_law_next (hr.mono (by decide)) (by rfl) T.g_law_next T.F_law_next.kp T.b_law_next .nil pass0 (pa_cons (pv 0) (pa_cons pe_int pa_nil))))))) pss_nil) 
      (pss_one (ps_ret (pe_lc (own := [("k", 2)]) (g := gName 2) rfl sc_law_vector.nd (pi_range1 rfl T.m_range (pa_cons (pe_fld (pv 1) rfl) pa_nil)) (blkOk_by (own := [("k", 2)]) (N := ["state", "schema", "k"]) (sc := defScope s_law_vector) (by decide +kernel)) (fun _ _ _ _ _ => (pg_name (i := 2) sc_law_vector.nd rfl (Or.inl rfl))) (fun _ _ _ _ _ => pts_nil) (fun _ _ _ _ _ => (pe_op op_sub (pe_call G_law_next (hr.mono (by decide)) (by rfl) T.g_law_next T.F_law_next.kp T.b_law_next .nil pass0 (pa_cons (pv 0) (pa_cons pe_int pa_nil))) pe_int)))))), ?_⟩
    have P := Pt.start (muD st sc) sz hm
    unfold F_law_vector at hF
    refine st_seq (st_if P (et_cmp (ev_eq flat_str (ev_fld (fo_Schema_width T) T.cl_Schema T.n_Schema_width (ev_var (τ := (y_Schema T)) rfl h_schema)) ev_str)) (fun b_466 Z1 H1 e P1 => ?_) (fun b_466 Z1 H1 e P1 => ?_))
    · replace P := P1
      have hB := ifT b_466 hF
      replace hF := hB
      clear hB
      replace h_schema := ((y_Schema T)).mono e.z h_schema
      obtain ⟨g_467, hF⟩ := guard_inv hF
      obtain ⟨l_472, h_473, hF⟩ := bind_inv hF
      replace hF := Option.some.inj hF
      subst hF
      refine st_ret P (ev_fz (en_mapS (fun (x_468 : Int) (s_469 : DS) => (some ((nxV s_469 (2 : Int)), (nxS s_469 (2 : Int))) : Option (Int × DS))) (ei_rng1 (ev_fld (fo_Schema_size T) T.cl_Schema T.n_Schema_size (ev_var (τ := (y_Schema T)) rfl h_schema)) g_467) (fun x_468 v_470 Z' H' s_469 p zz hh rx_471 hp => by
            have hy := hp
            have hy := Option.some.inj hy
            subst hy
            exact ⟨_, tgt_name, rfl, (ev_call (cs__law_next T (by decide +kernel)) (eva_cons (ev_ref rfl) (eva_cons ev_int eva_nil)))⟩) h_473)) (fun v Z1 H1 P1 hv => ?_)
      exact q v _ _ P1.st P1.m hv
    · replace P := P1
      have hB := ifF b_466 hF
      replace hF := hB
      clear hB
      refine st_next0 ?_
      replace h_schema := ((y_Schema T)).mono e.z h_schema
      obtain ⟨g_474, hF⟩ := guard_inv hF
      obtain ⟨l_479, h_480, hF⟩ := bind_inv hF
      replace hF := Option.some.inj hF
      subst hF
      refine st_ret P (ev_fz (en_mapS (fun (x_475 : Int) (s_476 : DS) => (some (((nxV s_476 (9 : Int)) - (4 : Int)), (nxS s_476 (9 : Int))) : Option (Int × DS))) (ei_rng1 (ev_fld (fo_Schema_size T) T.cl_Schema T.n_Schema_size (ev_var (τ := (y_Schema T)) rfl h_schema)) g_474) (fun x_475 v_477 Z' H' s_476 p zz hh rx_478 hp => by
            have hy := hp
            have hy := Option.some.inj hy
            subst hy
            exact ⟨_, tgt_name, rfl, (ev_sub (ev_call (cs__law_next T (by decide +kernel)) (eva_cons (ev_ref rfl) (eva_cons ev_int eva_nil))) ev_int)⟩) h_480)) (fun v Z1 H1 P1 hv => ?_)
      exact q v _ _ P1.st P1.m hv
theorem cs_law_vector (T : Txt w K mg) {st sc : Addr} {ds : DS} {E : XK} {x_schema : Schema} {y : (List Int) × DS} (h : F_law_vector ds x_schema = some y) : CallS (muD st sc) (sp_law_vector T) E (rac (isRef st) (rac (ty (y_Schema T) x_schema) ra0)) ds (ty (yList yInt) y.1) y.2 := by
  rintro Z H vs sz m ⟨_, _, rfl, rfl, ⟨v_schema, _, rfl, h_schema, rfl⟩⟩ Q q
  exact ⟨st, sc, Z, ds, v_schema, x_schema, y, rfl, sz, m, h_schema, h, fun v Z2 H2 s2 m2 hv => q v Z2 H2 s2 m2 hv⟩
def sp_law_record (T : Txt w K mg) : Sp := fun vs H Q _ => ∃ (st sc : Addr) (Z0 : Hp) (ds : DS) (v_schema : V) (v_name : V) (x_schema : Schema) (x_name : Str) (y : (Record × DS)), vs = [.ref st, v_schema, v_name] ∧ (Same Z0 H) ∧ ((muD st sc).m ds Z0 H) ∧ (((y_Schema T)).r Z0 v_schema x_schema) ∧ ((yStr).r Z0 v_name x_name) ∧ (F_law_record ds x_schema x_name = some y) ∧ ∀ v Z' H', Step (muD st sc).fp Z0 H Z' H' → (muD st sc).m y.2 Z' H' → ((y_Record T)).r Z' v y.1 → Q v H'
set_option maxHeartbeats 4000000 in
theorem ok_law_record (T : Txt w K mg) : FnOk P w K mg base CX0 4 T.f_law_record T.d_law_record ["state", "schema", "name"] (sp_law_record T) := by
  have G_law_vector : FnOk P w K mg base CX0 3 T.f_law_vector T.d_law_vector ["state", "schema"] (sp_law_vector T) := ok_law_vector T
  have G_Record___init__ : FnOk P w K mg base CX0 1 T.f_Record___init__ T.d_Record___init__ ["self", "name", "vector", "fields", "words"] (sp_Record___init__ T) := ok_Record___init__ T
  have G_law_next : FnOk P w K mg base CX0 2 T.f_law_next T.d_law_next ["state", "many"] (sp_law_next T) := ok_law_next T
  refine T.F_law_record.ok sc_law_record (fun vs H Q E h => ?_) (fun cdv A outer s H vs Q E hr h => ?_)
  · obtain ⟨st, sc, Z0, ds, v_schema, v_name, x_schema, x_name, y, rfl, _⟩ := h
    rfl
  · obtain ⟨st, sc, Z0, ds, v_schema, v_name, x_schema, x_name, y, rfl, sz, hm, h_schema, h_name, hF, q⟩ := h
    refine ⟨_, (pss_cons (ps_set (i := 3) sc_law_record.nd rfl (.inl rfl) (pe_lst pa_nil)) 
      (pss_cut (ps_if (pt_cmpR op_gt (pe_call G_law_next (hr.mono (by decide)) (by rfl) T.g_law_next T.F_law_next.kp T.b_law_next .nil pass0 (pa_cons (pv 0) (pa_cons pe_int pa_nil))) pe_int (nomark _)) (pss_one (ps_expr (pe_bm PySem.F.plainAttrs_list PySem.F.slot_list_append PySem.F.type_list_append mt_append (pv 3) (pa_cons (pe_tup (pa_cons pe_str (pa_cons (pe_call G_law_next (hr.mono (by decide)) (by rfl) T.g_law_next T.F_law_next.kp T.b_law_next .nil pass0 (pa_cons (pv 0) (pa_cons pe_int pa_nil))) pa_nil))) pa_nil)))) pss_nil) 
      (pss_cut (ps_if (pt_cmpR op_gt (pe_call G_law_next (hr.mono (by decide)) (by rfl) T.g_law_next T.F_law_next.kp T.b_law_next .nil pass0 (pa_cons (pv 0) (pa_cons pe_int pa_nil))) pe_int (nomark _)) (pss_one (ps_expr (pe_bm PySem.F.plainAttrs_list PySem.F.slot_list_append PySem.F.type_list_append mt_append (pv 3) (pa_cons (pe_tup (pa_cons pe_str (pa_cons (pe_ix ix_list (pe_lst (pa_cons pe_str (pa_cons pe_str (pa_cons pe_str pa_nil)))) (pe_call G_law_next (hr.mono (by decide)) (by rfl) T.g_law_next T.F_law_next.kp T.b_law_next .nil pass0 (pa_cons (pv 0) (pa_cons pe_int pa_nil))) (fun _ _ => rfl)) pa_nil))) pa_nil)))) pss_nil) 
      (pss_cons (ps_set (i := 4) sc_law_record.nd rfl (.inl rfl) (pe_lst pa_nil)) 
      (pss_cut (ps_if (pt_cmpR op_gt (pe_call G_law_next (hr.mono (by decide)) (by rfl) T.g_law_next T.F_law_next.kp T.b_law_next .nil pass0 (pa_cons (pv 0) (pa_cons pe_int pa_nil))) pe_int (nomark _)) (pss_one (ps_expr (pe_bm PySem.F.plainAttrs_list PySem.F.slot_list_append PySem.F.type_list_append mt_append (pv 4) (pa_cons (pe_tup (pa_cons pe_str (pa_cons (pe_op op_add pe_int (pe_call G_law_next (hr.mono (by decide)) (by rfl) T.g_law_next T.F_law_next.kp T.b_law_next .nil pass0 (pa_cons (pv 0) (pa_cons pe_int pa_nil)))) pa_nil))) pa_nil)))) pss_nil) 
      (pss_cut (ps_if (pt_cmpR op_gt (pe_call G_law_next (hr.mono (by decide)) (by rfl) T.g_law_next T.F_law_next.kp T.b_law_next .nil pass0 (pa_cons (pv 0) (pa_cons pe_int pa_nil))) pe_int (nomark _)) (pss_one (ps_expr (pe_bm PySem.F.plainAttrs_list PySem.F.slot_list_append PySem.F.type_list_append mt_append (pv 4) (pa_cons (pe_tup (pa_cons pe_str (pa_cons (pe_op op_add pe_int (pe_call G_law_next (hr.mono (by decide)) (by rfl) T.g_law_next T.F_law_next.kp T.b_law_next .nil pass0 (pa_cons (pv 0) (pa_cons pe_int pa_nil)))) pa_nil))) pa_nil)))) pss_nil) 
      (pss_one (ps_ret (pe_makeK T.mk_Record G_Record___init__ (hr.mono (by decide)) (by rfl) T.mc_Record T.kb_Record___init__ pass0 (pa_cons (pv 2) (pa_cons (pe_call G_law_vector (hr.mono (by decide)) (by rfl) T.g_law_vector T.F_law_vector.kp T.b_law_vector .nil pass0 (pa_cons (pv 0) (pa_cons (pv 1) pa_nil))) pa_nil)) (pk_cons (pv 3) (pk_cons (pv 4) pk_nil))))))))))), ?_⟩
    have P := Pt.start (muD st sc) sz hm
    unfold F_law_record at hF
    refine st_seq (st_setN (τ := (yP2 K yStr (y_Val T))) P (en_listD (eva_nils (τ := (yP2 K yStr (y_Val T)))) (by show 0 ≤ sizeLine; decide)) (fun p_485 Z1 H1 e P1 fr_487 o_486 => ?_))
    refine st_nx ?_
    replace P := P1
    replace h_schema := ((y_Schema T)).mono e.z h_schema
    obtain ⟨w_490, hB_489, hF⟩ := bind_inv hF
    refine ⟨fun σ' H' => ∃ Z', ∃ (y_493 : Option V), σ' = [some (.ref st), some v_schema, some v_name, some (.ref p_485), y_493] ∧ Pt (muD st sc).fp Z0 H (muD st sc) Z' H' w_490.2 ∧ ((y_Schema T)).r Z' v_schema x_schema ∧ Own (muD st sc).fp H (muD st sc).fp Z' H' (yP2 K yStr (y_Val T)) p_485 w_490.1, ?_, ?_⟩
    · refine st_if P (et_cmp (ev_gt (ev_call (cs__law_next T (by decide +kernel)) (eva_cons (ev_ref rfl) (eva_cons ev_int eva_nil))) ev_int)) (fun b_488 Z1 H1 e P1 => ?_) (fun b_488 Z1 H1 e P1 => ?_)
      · replace P := P1
        replace hB_489 := ifT b_488 hB_489
        replace h_schema := ((y_Schema T)).mono e.z h_schema
        replace o_486 := o_486.next e
        obtain ⟨g_494, hB_489⟩ := guard_inv hB_489
        refine st_append P o_486 rfl (ev_p2 (K := K) (eva_cons ev_str (eva_cons (ij_Val_i T (ev_call (cs__law_next T (by decide +kernel)) (eva_cons (ev_ref rfl) (eva_cons ev_int eva_nil)))) eva_nil))) g_494 (fun Z1 H1 e P1 o_495 => ?_)
        replace P := P1
        replace h_schema := ((y_Schema T)).mono e.z h_schema
        replace hB_489 := Option.some.inj hB_489
        subst hB_489
        exact ⟨_, _, rfl, P, h_schema, o_495⟩
      · replace P := P1
        replace hB_489 := ifF b_488 hB_489
        replace h_schema := ((y_Schema T)).mono e.z h_schema
        replace o_486 := o_486.next e
        replace hB_489 := Option.some.inj hB_489
        subst hB_489
        exact ⟨_, _, rfl, P, h_schema, o_486⟩
    rintro σ' H' ⟨Z1, y_493, rfl, P, k_491, o_492⟩
    obtain ⟨w_498, hB_497, hF⟩ := bind_inv hF
    refine ⟨fun σ' H' => ∃ Z', ∃ (y_501 : Option V), σ' = [some (.ref st), some v_schema, some v_name, some (.ref p_485), y_501] ∧ Pt (muD st sc).fp Z0 H (muD st sc) Z' H' w_498.2 ∧ ((y_Schema T)).r Z' v_schema x_schema ∧ Own (muD st sc).fp H (muD st sc).fp Z' H' (yP2 K yStr (y_Val T)) p_485 w_498.1, ?_, ?_⟩
    · refine st_if P (et_cmp (ev_gt (ev_call (cs__law_next T (by decide +kernel)) (eva_cons (ev_ref rfl) (eva_cons ev_int eva_nil))) ev_int)) (fun b_496 Z1 H1 e P1 => ?_) (fun b_496 Z1 H1 e P1 => ?_)
      · replace P := P1
        replace hB_497 := ifT b_496 hB_497
        replace k_491 := ((y_Schema T)).mono e.z k_491
        replace o_492 := o_492.next e
        obtain ⟨i_502, h_503, hB_497⟩ := bind_inv hB_497
        obtain ⟨g_504, hB_497⟩ := guard_inv hB_497
        refine st_append P o_492 rfl (ev_p2 (K := K) (eva_cons ev_str (eva_cons (ij_Val_t T (ev_ixL (ev_li (ev_fz (en_listD (eva_conss ev_str (eva_conss ev_str (eva_conss ev_str (eva_nils (τ := yStr))))) (by show 3 ≤ sizeLine; decide)))) (ev_call (cs__law_next T (by decide +kernel)) (eva_cons (ev_ref rfl) (eva_cons ev_int eva_nil))) h_503)) eva_nil))) g_504 (fun Z1 H1 e P1 o_505 => ?_)
        replace P := P1
        replace k_491 := ((y_Schema T)).mono e.z k_491
        replace hB_497 := Option.some.inj hB_497
        subst hB_497
        exact ⟨_, _, rfl, P, k_491, o_505⟩
      · replace P := P1
        replace hB_497 := ifF b_496 hB_497
        replace k_491 := ((y_Schema T)).mono e.z k_491
        replace o_492 := o_492.next e
        replace hB_497 := Option.some.inj hB_497
        subst hB_497
        exact ⟨_, _, rfl, P, k_491, o_492⟩
    rintro σ' H' ⟨Z1, y_501, rfl, P, k_499, o_500⟩
    refine st_seq (st_setN (τ := (yP2 K yStr yInt)) P (en_listD (eva_nils (τ := (yP2 K yStr yInt))) (by show 0 ≤ sizeLine; decide)) (fun p_506 Z1 H1 e P1 fr_508 o_507 => ?_))
    refine st_nx ?_
    have ne_509 := o_500.ne fr_508
    replace P := P1
    replace k_499 := ((y_Schema T)).mono e.z k_499
    replace o_500 := o_500.next e
    obtain ⟨w_512, hB_511, hF⟩ := bind_inv hF
    refine ⟨fun σ' H' => ∃ Z', σ' = [some (.ref st), some v_schema, some v_name, some (.ref p_485), some (.ref p_506)] ∧ Pt (muD st sc).fp Z0 H (muD st sc) Z' H' w_512.2 ∧ ((y_Schema T)).r Z' v_schema x_schema ∧ Own (muD st sc).fp H (muD st sc).fp Z' H' (yP2 K yStr (y_Val T)) p_485 w_498.1 ∧ Own (muD st sc).fp H (muD st sc).fp Z' H' (yP2 K yStr yInt) p_506 w_512.1, ?_, ?_⟩
    · refine st_if P (et_cmp (ev_gt (ev_call (cs__law_next T (by decide +kernel)) (eva_cons (ev_ref rfl) (eva_cons ev_int eva_nil))) ev_int)) (fun b_510 Z1 H1 e P1 => ?_) (fun b_510 Z1 H1 e P1 => ?_)
      · replace P := P1
        replace hB_511 := ifT b_510 hB_511
        replace k_499 := ((y_Schema T)).mono e.z k_499
        replace o_500 := o_500.next e
        replace o_507 := o_507.next e
        obtain ⟨g_516, hB_511⟩ := guard_inv hB_511
        refine st_append P o_507 rfl (ev_p2 (K := K) (eva_cons ev_str (eva_cons (ev_add ev_int (ev_call (cs__law_next T (by decide +kernel)) (eva_cons (ev_ref rfl) (eva_cons ev_int eva_nil)))) eva_nil))) g_516 (fun Z1 H1 e P1 o_517 => ?_)
        replace P := P1
        replace k_499 := ((y_Schema T)).mono e.z k_499
        replace o_500 := o_500.step e (fun h => (List.mem_cons.mp h).elim (fun z => ne_509 z) o_500.n)
        replace hB_511 := Option.some.inj hB_511
        subst hB_511
        exact ⟨_, rfl, P, k_499, o_500, o_517⟩
      · replace P := P1
        replace hB_511 := ifF b_510 hB_511
        replace k_499 := ((y_Schema T)).mono e.z k_499
        replace o_500 := o_500.next e
        replace o_507 := o_507.next e
        replace hB_511 := Option.some.inj hB_511
        subst hB_511
        exact ⟨_, rfl, P, k_499, o_500, o_507⟩
    rintro σ' H' ⟨Z1, rfl, P, k_513, o_514, o_515⟩
    obtain ⟨w_520, hB_519, hF⟩ := bind_inv hF
    refine ⟨fun σ' H' => ∃ Z', σ' = [some (.ref st), some v_schema, some v_name, some (.ref p_485), some (.ref p_506)] ∧ Pt (muD st sc).fp Z0 H (muD st sc) Z' H' w_520.2 ∧ ((y_Schema T)).r Z' v_schema x_schema ∧ Own (muD st sc).fp H (muD st sc).fp Z' H' (yP2 K yStr (y_Val T)) p_485 w_498.1 ∧ Own (muD st sc).fp H (muD st sc).fp Z' H' (yP2 K yStr yInt) p_506 w_520.1, ?_, ?_⟩
    · refine st_if P (et_cmp (ev_gt (ev_call (cs__law_next T (by decide +kernel)) (eva_cons (ev_ref rfl) (eva_cons ev_int eva_nil))) ev_int)) (fun b_518 Z1 H1 e P1 => ?_) (fun b_518 Z1 H1 e P1 => ?_)
      · replace P := P1
        replace hB_519 := ifT b_518 hB_519
        replace k_513 := ((y_Schema T)).mono e.z k_513
        replace o_514 := o_514.next e
        replace o_515 := o_515.next e
        obtain ⟨g_524, hB_519⟩ := guard_inv hB_519
        refine st_append P o_515 rfl (ev_p2 (K := K) (eva_cons ev_str (eva_cons (ev_add ev_int (ev_call (cs__law_next T (by decide +kernel)) (eva_cons (ev_ref rfl) (eva_cons ev_int eva_nil)))) eva_nil))) g_524 (fun Z1 H1 e P1 o_525 => ?_)
        replace P := P1
        replace k_513 := ((y_Schema T)).mono e.z k_513
        replace o_514 := o_514.step e (fun h => (List.mem_cons.mp h).elim (fun z => ne_509 z) o_514.n)
        replace hB_519 := Option.some.inj hB_519
        subst hB_519
        exact ⟨_, rfl, P, k_513, o_514, o_525⟩
      · replace P := P1
        replace hB_519 := ifF b_518 hB_519
        replace k_513 := ((y_Schema T)).mono e.z k_513
        replace o_514 := o_514.next e
        replace o_515 := o_515.next e
        replace hB_519 := Option.some.inj hB_519
        subst hB_519
        exact ⟨_, rfl, P, k_513, o_514, o_515⟩
    rintro σ' H' ⟨Z1, rfl, P, k_521, o_522, o_523⟩
    obtain ⟨Z, P, zf, hf, of⟩ := o_522.fz P
    replace k_521 := ((y_Schema T)).mono zf k_521
    replace o_523 := o_523.keep zf (of _ ne_509.symm o_523.z)
    have k_526 := hf
    clear hf zf of
    obtain ⟨Z, P, zf, hf, of⟩ := o_523.fz P
    replace k_521 := ((y_Schema T)).mono zf k_521
    replace k_526 := ((yList (yP2 K yStr (y_Val T)))).mono zf k_526
    have k_527 := hf
    clear hf zf of
    obtain ⟨r_528, h_529, hF⟩ := bind_inv hF
    replace hF := Option.some.inj hF
    subst hF
    refine st_ret P (ev_makeK (is_Record___init__ T) (eva_cons (ev_var (τ := yStr) rfl h_name) (eva_cons (ev_call (cs_law_vector T h_529) (eva_cons (ev_ref rfl) (eva_cons (ev_var (τ := (y_Schema T)) rfl k_521) eva_nil))) eva_nil)) (eva_cons (ev_seqL (ev_var (τ := (yList (yP2 K yStr (y_Val T)))) rfl k_526)) (eva_cons (ev_seqL (ev_var (τ := (yList (yP2 K yStr yInt))) rfl k_527)) eva_nil)) (fun Z H vs zs x hv hz => by
          obtain ⟨v0, _, rfl, hv0, ⟨v1, _, rfl, hv1, rfl⟩⟩ := hv
          obtain ⟨w0, _, rfl, hw0, ⟨w1, _, rfl, hw1, rfl⟩⟩ := hz
          exact ⟨rfl, rfl, _, rfl, ⟨v0, _, rfl, hv0, ⟨v1, _, rfl, hv1, ⟨w0, _, rfl, hw0, ⟨w1, _, rfl, hw1, rfl⟩⟩⟩⟩⟩)) (fun v Z1 H1 P1 hv => ?_)
    exact q v _ _ P1.st P1.m hv
theorem cs_law_record (T : Txt w K mg) {st sc : Addr} {ds : DS} {E : XK} {x_schema : Schema} {x_name : Str} {y : Record × DS} (h : F_law_record ds x_schema x_name = some y) : CallS (muD st sc) (sp_law_record T) E (rac (isRef st) (rac (ty (y_Schema T) x_schema) (rac (ty yStr x_name) ra0))) ds (ty (y_Record T) y.1) y.2 := by
  rintro Z H vs sz m ⟨_, _, rfl, rfl, ⟨v_schema, _, rfl, h_schema, ⟨v_name, _, rfl, h_name, rfl⟩⟩⟩ Q q
  exact ⟨st, sc, Z, ds, v_schema, v_name, x_schema, x_name, y, rfl, sz, m, h_schema, h_name, h, fun v Z2 H2 s2 m2 hv => q v Z2 H2 s2 m2 hv⟩
def sp_law_other (T : Txt w K mg) : Sp := fun vs H Q _ => ∃ (st sc : Addr) (Z0 : Hp) (ds : DS) (v_schema : V) (v_record : V) (x_schema : Schema) (x_record : Record) (y : (Record × DS)), vs = [.ref st, v_schema, v_record] ∧ (Same Z0 H) ∧ ((muD st sc).m ds Z0 H) ∧ (((y_Schema T)).r Z0 v_schema x_schema) ∧ (((y_Record T)).r Z0 v_record x_record) ∧ (F_law_other ds x_schema x_record = some y) ∧ ∀ v Z' H', Step (muD st sc).fp Z0 H Z' H' → (muD st sc).m y.2 Z' H' → ((y_Record T)).r Z' v y.1 → Q v H'
set_option maxHeartbeats 4000000 in
theorem ok_law_other (T : Txt w K mg) : FnOk P w K mg base CX0 5 T.f_law_other T.d_law_other ["state", "schema", "record"] (sp_law_other T) := by
  have G_law_record : FnOk P w K mg base CX0 4 T.f_law_record T.d_law_record ["state", "schema", "name"] (sp_law_record T) := ok_law_record T
  have G_Record___init__ : FnOk P w K mg base CX0 1 T.f_Record___init__ T.d_Record___init__ ["self", "name", "vector", "fields", "words"] (sp_Record___init__ T) := ok_Record___init__ T
  have G_law_next : FnOk P w K mg base CX0 2 T.f_law_next T.d_law_next ["state", "many"] (sp_law_next T) := ok_law_next T
  refine T.F_law_other.ok sc_law_other (fun vs H Q E h => ?_) (fun cdv A outer s H vs Q E hr h => ?_)
  · obtain ⟨st, sc, Z0, ds, v_schema, v_record, x_schema, x_record, y, rfl, _⟩ := h
    rfl
  · obtain ⟨st, sc, Z0, ds, v_schema, v_record, x_schema, x_record, y, rfl, sz, hm, h_schema, h_record, hF, q⟩ := h
    refine ⟨_, (pss_cons (ps_set (i := 3) sc_law_other.nd rfl (.inl rfl) (pe_call G_law_next (hr.mono (by decide)) (by rfl) T.g_law_next T.F_law_next.kp T.b_law_next .nil pass0 (pa_cons (pv 0) (pa_cons pe_int pa_nil)))) 
      (pss_cons (ps_set (i := 4) sc_law_other.nd rfl (.inl rfl) (pe_callTy call_list_of (by rfl) T.m_list (by decide +kernel) (pa_cons (pe_fld (pv 2) rfl) pa_nil))) 
      (pss_cons (ps_if (pt_cmpR op_eq (pv 3) pe_int (nomark _)) (pss_one (ps_ret (pe_makeK T.mk_Record G_Record___init__ (hr.mono (by decide)) (by rfl) T.mc_Record T.kb_Record___init__ pass0 (pa_cons (pe_op op_add_str (pe_fld (pv 2) rfl) pe_str) (pa_cons (pv 4) pa_nil)) (pk_cons (pe_fld (pv 2) rfl) (pk_cons (pe_fld (pv 2) rfl) pk_nil))))) pss_nil) 
      (pss_cons (ps_if (pt_cmpR op_eq (pv 3) pe_int (nomark _)) (pss_cons (ps_asg (pe_op op_add (pe_ix ix_list (pv 4) pe_int (fun _ _ => rfl)) pe_int) (pg_sub (pv 4) pe_int set_list)) 
      (pss_one (ps_ret (pe_makeK T.mk_Record G_Record___init__ (hr.mono (by decide)) (by rfl) T.mc_Record T.kb_Record___init__ pass0 (pa_cons (pe_fld (pv 2) rfl) (pa_cons (pv 4) pa_nil)) (pk_cons (pe_fld (pv 2) rfl) (pk_cons (pe_fld (pv 2) rfl) pk_nil)))))) pss_nil) 
      (pss_cons (ps_if (pt_cmpR op_eq (pv 3) pe_int (nomark _)) (pss_one (ps_ret (pe_makeK T.mk_Record G_Record___init__ (hr.mono (by decide)) (by rfl) T.mc_Record T.kb_Record___init__ pass0 (pa_cons (pe_fld (pv 2) rfl) (pa_cons (pv 4) pa_nil)) (pk_cons (pe_fld (pv 2) rfl) (pk_cons (pe_op op_catA (pe_fld (pv 2) rfl) (pe_tup (pa_cons (pe_tup (pa_cons pe_str (pa_cons pe_int pa_nil))) pa_nil))) pk_nil))))) pss_nil) 
      (pss_one (ps_ret (pe_call G_law_record (hr.mono (by decide)) (by rfl) T.g_law_record T.F_law_record.kp T.b_law_record .nil pass0 (pa_cons (pv 0) (pa_cons (pv 1) (pa_cons (pe_fld (pv 2) rfl) pa_nil))))))))))), ?_⟩
    have P := Pt.start (muD st sc) sz hm
    unfold F_law_other at hF
    refine st_seq (st_set P (ev_call (cs__law_next T (by decide +kernel)) (eva_cons (ev_ref rfl) (eva_cons ev_int eva_nil))) (fun v_538 Z1 H1 e P1 k_539 => ?_))
    refine st_nx ?_
    replace P := P1
    replace h_schema := ((y_Schema T)).mono e.z h_schema
    replace h_record := ((y_Record T)).mono e.z h_record
    refine st_seq (st_setN (τ := yInt) P (en_list_ofT (fun _ _ _ h => h) (ev_fld (fo_Record_vector T) T.cl_Record T.n_Record_vector (ev_var (τ := (y_Record T)) rfl h_record))) (fun p_540 Z1 H1 e P1 fr_542 o_541 => ?_))
    refine st_nx ?_
    replace P := P1
    replace h_schema := ((y_Schema T)).mono e.z h_schema
    replace h_record := ((y_Record T)).mono e.z h_record
    refine st_seq (st_if P (et_cmp (ev_eq flat_int (ev_var (τ := yInt) rfl k_539) ev_int)) (fun b_543 Z1 H1 e P1 => ?_) (fun b_543 Z1 H1 e P1 => ?_))
    · replace P := P1
      have hB := ifT b_543 hF
      replace hF := hB
      clear hB
      replace h_record := ((y_Record T)).mono e.z h_record
      replace o_541 := o_541.next e
      obtain ⟨Z, P, zf, hf, of⟩ := o_541.fz P
      replace h_record := ((y_Record T)).mono zf h_record
      have k_544 := hf
      clear hf zf of
      obtain ⟨g_545, hF⟩ := guard_inv hF
      replace hF := Option.some.inj hF
      subst hF
      refine st_ret P (ev_makeK (is_Record___init__ T) (eva_cons (ev_cat_str (ev_fld (fo_Record_name T) T.cl_Record T.n_Record_name (ev_var (τ := (y_Record T)) rfl h_record)) ev_str g_545) (eva_cons (ev_var (τ := (yList yInt)) rfl k_544) eva_nil)) (eva_cons (ev_seqT (ev_fld (fo_Record_fields T) T.cl_Record T.n_Record_fields (ev_var (τ := (y_Record T)) rfl h_record))) (eva_cons (ev_seqT (ev_fld (fo_Record_words T) T.cl_Record T.n_Record_words (ev_var (τ := (y_Record T)) rfl h_record))) eva_nil)) (fun Z H vs zs x hv hz => by
            obtain ⟨v0, _, rfl, hv0, ⟨v1, _, rfl, hv1, rfl⟩⟩ := hv
            obtain ⟨w0, _, rfl, hw0, ⟨w1, _, rfl, hw1, rfl⟩⟩ := hz
            exact ⟨rfl, rfl, _, rfl, ⟨v0, _, rfl, hv0, ⟨v1, _, rfl, hv1, ⟨w0, _, rfl, hw0, ⟨w1, _, rfl, hw1, rfl⟩⟩⟩⟩⟩)) (fun v Z1 H1 P1 hv => ?_)
      exact q v _ _ P1.st P1.m hv
    · replace P := P1
      have hB := ifF b_543 hF
      replace hF := hB
      clear hB
      refine st_next0 ?_
      replace h_schema := ((y_Schema T)).mono e.z h_schema
      replace h_record := ((y_Record T)).mono e.z h_record
      replace o_541 := o_541.next e
      refine st_seq (st_if P (et_cmp (ev_eq flat_int (ev_var (τ := yInt) rfl k_539) ev_int)) (fun b_546 Z1 H1 e P1 => ?_) (fun b_546 Z1 H1 e P1 => ?_))
      · replace P := P1
        have hB := ifT b_546 hF
        replace hF := hB
        clear hB
        replace h_record := ((y_Record T)).mono e.z h_record
        replace o_541 := o_541.next e
        obtain ⟨i_549, h_550, hF⟩ := bind_inv hF
        obtain ⟨j_551, h_552, hF⟩ := bind_inv hF
        refine st_seq (st_setitem P o_541 rfl (ev_add (ev_ixL (ev_o o_541 rfl) ev_int h_550) ev_int) (fun Z1 H1 e => by
              exact ev_int) h_552 (fun Z1 H1 e P1 o_553 => ?_))
        refine st_nx ?_
        replace P := P1
        replace h_record := ((y_Record T)).mono e.z h_record
        obtain ⟨Z, P, zf, hf, of⟩ := o_553.fz P
        replace h_record := ((y_Record T)).mono zf h_record
        have k_554 := hf
        clear hf zf of
        replace hF := Option.some.inj hF
        subst hF
        refine st_ret P (ev_makeK (is_Record___init__ T) (eva_cons (ev_fld (fo_Record_name T) T.cl_Record T.n_Record_name (ev_var (τ := (y_Record T)) rfl h_record)) (eva_cons (ev_var (τ := (yList yInt)) rfl k_554) eva_nil)) (eva_cons (ev_seqT (ev_fld (fo_Record_fields T) T.cl_Record T.n_Record_fields (ev_var (τ := (y_Record T)) rfl h_record))) (eva_cons (ev_seqT (ev_fld (fo_Record_words T) T.cl_Record T.n_Record_words (ev_var (τ := (y_Record T)) rfl h_record))) eva_nil)) (fun Z H vs zs x hv hz => by
              obtain ⟨v0, _, rfl, hv0, ⟨v1, _, rfl, hv1, rfl⟩⟩ := hv
              obtain ⟨w0, _, rfl, hw0, ⟨w1, _, rfl, hw1, rfl⟩⟩ := hz
              exact ⟨rfl, rfl, _, rfl, ⟨v0, _, rfl, hv0, ⟨v1, _, rfl, hv1, ⟨w0, _, rfl, hw0, ⟨w1, _, rfl, hw1, rfl⟩⟩⟩⟩⟩)) (fun v Z1 H1 P1 hv => ?_)
        exact q v _ _ P1.st P1.m hv
      · replace P := P1
        have hB := ifF b_546 hF
        replace hF := hB
        clear hB
        refine st_next0 ?_
        replace h_schema := ((y_Schema T)).mono e.z h_schema
        replace h_record := ((y_Record T)).mono e.z h_record
        replace o_541 := o_541.next e
        refine st_seq (st_if P (et_cmp (ev_eq flat_int (ev_var (τ := yInt) rfl k_539) ev_int)) (fun b_555 Z1 H1 e P1 => ?_) (fun b_555 Z1 H1 e P1 => ?_))
        · replace P := P1
          have hB := ifT b_555 hF
          replace hF := hB
          clear hB
          replace h_record := ((y_Record T)).mono e.z h_record
          replace o_541 := o_541.next e
          obtain ⟨Z, P, zf, hf, of⟩ := o_541.fz P
          replace h_record := ((y_Record T)).mono zf h_record
          have k_556 := hf
          clear hf zf of
          obtain ⟨g_557, hF⟩ := guard_inv hF
          replace hF := Option.some.inj hF
          subst hF
          refine st_ret P (ev_makeK (is_Record___init__ T) (eva_cons (ev_fld (fo_Record_name T) T.cl_Record T.n_Record_name (ev_var (τ := (y_Record T)) rfl h_record)) (eva_cons (ev_var (τ := (yList yInt)) rfl k_556) eva_nil)) (eva_cons (ev_seqT (ev_fld (fo_Record_fields T) T.cl_Record T.n_Record_fields (ev_var (τ := (y_Record T)) rfl h_record))) (eva_cons (ev_seqT (ev_catT (ev_fld (fo_Record_words T) T.cl_Record T.n_Record_words (ev_var (τ := (y_Record T)) rfl h_record)) (ev_tupD (K := K) (eva_conss (ev_p2 (K := K) (eva_cons ev_str (eva_cons ev_int eva_nil))) (eva_nils (τ := (yP2 K yStr yInt)))) (by show 1 ≤ sizeLine; decide)) g_557)) eva_nil)) (fun Z H vs zs x hv hz => by
                obtain ⟨v0, _, rfl, hv0, ⟨v1, _, rfl, hv1, rfl⟩⟩ := hv
                obtain ⟨w0, _, rfl, hw0, ⟨w1, _, rfl, hw1, rfl⟩⟩ := hz
                exact ⟨rfl, rfl, _, rfl, ⟨v0, _, rfl, hv0, ⟨v1, _, rfl, hv1, ⟨w0, _, rfl, hw0, ⟨w1, _, rfl, hw1, rfl⟩⟩⟩⟩⟩)) (fun v Z1 H1 P1 hv => ?_)
          exact q v _ _ P1.st P1.m hv
        · replace P := P1
          have hB := ifF b_555 hF
          replace hF := hB
          clear hB
          refine st_next0 ?_
          replace h_schema := ((y_Schema T)).mono e.z h_schema
          replace h_record := ((y_Record T)).mono e.z h_record
          obtain ⟨r_558, h_559, hF⟩ := bind_inv hF
          replace hF := Option.some.inj hF
          subst hF
          refine st_ret P (ev_call (cs_law_record T h_559) (eva_cons (ev_ref rfl) (eva_cons (ev_var (τ := (y_Schema T)) rfl h_schema) (eva_cons (ev_fld (fo_Record_name T) T.cl_Record T.n_Record_name (ev_var (τ := (y_Record T)) rfl h_record)) eva_nil)))) (fun v Z1 H1 P1 hv => ?_)
          exact q v _ _ P1.st P1.m hv
theorem cs_law_other (T : Txt w K mg) {st sc : Addr} {ds : DS} {E : XK} {x_schema : Schema} {x_record : Record} {y : Record × DS} (h : F_law_other ds x_schema x_record = some y) : CallS (muD st sc) (sp_law_other T) E (rac (isRef st) (rac (ty (y_Schema T) x_schema) (rac (ty (y_Record T) x_record) ra0))) ds (ty (y_Record T) y.1) y.2 := by
  rintro Z H vs sz m ⟨_, _, rfl, rfl, ⟨v_schema, _, rfl, h_schema, ⟨v_record, _, rfl, h_record, rfl⟩⟩⟩ Q q
  exact ⟨st, sc, Z, ds, v_schema, v_record, x_schema, x_record, y, rfl, sz, m, h_schema, h_record, h, fun v Z2 H2 s2 m2 hv => q v Z2 H2 s2 m2 hv⟩
def sp_law (K : PySem.W.Frag) : Sp := fun vs H Q _ => ∃ (a : Addr) (ns : List Int), vs = [.ref a] ∧ (SqL K H a (ns.map V.int)) ∧ (ns.length ≤ 63) ∧ ∀ H', Q (.bl true) H'
set_option maxHeartbeats 8000000 in
theorem ok_law (T : Txt w K mg) : FnOk P w K mg base CX0 7 T.f_law T.d_law ["script"] (sp_law K) := by
  have G_Note___eq__ : FnOk P w K mg base CX0 4 T.f_Note___eq__ T.d_Note___eq__ ["self", "other"] (sp_Note___eq__ T) := ok_Note___eq__ T
  have G_mark_of : FnOk P w K mg base CX0 4 T.f_mark_of T.d_mark_of ["key", "number", "record"] (sp_mark_of T) := ok_mark_of T
  have G_Note___init__ : FnOk P w K mg base CX0 1 T.f_Note___init__ T.d_Note___init__ ["self", "name", "number", "mark", "died", "record", "segment", "leaves"] (sp_Note___init__ T) := ok_Note___init__ T
  have G_Note_matches : FnOk P w K mg base CX0 5 T.f_Note_matches T.d_Note_matches ["self", "key", "number", "record"] (sp_Note_matches T) := ok_Note_matches T
  have G_law_other : FnOk P w K mg base CX0 5 T.f_law_other T.d_law_other ["state", "schema", "record"] (sp_law_other T) := ok_law_other T
  have G_Note_lives_at : FnOk P w K mg base CX0 1 T.f_Note_lives_at T.d_Note_lives_at ["self", "moment"] (sp_Note_lives_at T) := ok_Note_lives_at T
  have G_law_next : FnOk P w K mg base CX0 2 T.f_law_next T.d_law_next ["state", "many"] (sp_law_next T) := ok_law_next T
  have G_law_record : FnOk P w K mg base CX0 4 T.f_law_record T.d_law_record ["state", "schema", "name"] (sp_law_record T) := ok_law_record T
  have G_law_schema : FnOk P w K mg base CX0 6 T.f_law_schema T.d_law_schema ["state"] (sp_law_schema T) := ok_law_schema T
  refine T.F_law.ok sc_law (fun vs H Q E h => ?_) (fun cdv A outer s H vs Q E hr h => ?_)
  · obtain ⟨a, ns, rfl, _⟩ := h
    rfl
  · obtain ⟨a, ns, rfl, hA, hlen, q⟩ := h
    refine ⟨_, (pss_cons (ps_set (i := 1) sc_law.nd rfl (.inl rfl) (pe_lst (pa_cons (pe_callTy call_list_of (by rfl) T.m_list (by decide +kernel) (pa_cons (pv 0) pa_nil)) (pa_cons pe_int (pa_cons pe_int pa_nil))))) 
      (pss_cons (ps_set (i := 2) sc_law.nd rfl (.inl rfl) (pe_call G_law_schema (hr.mono (by decide)) (by rfl) T.g_law_schema T.F_law_schema.kp T.b_law_schema .nil pass0 (pa_cons (pv 1) pa_nil))) 
      (pss_cons (ps_set (i := 3) sc_law.nd rfl (.inl rfl) (pe_tup (pa_cons (pe_call G_law_next (hr.mono (by decide)) (by rfl) T.g_law_next T.F_law_next.kp T.b_law_next .nil pass0 (pa_cons (pv 1) (pa_cons pe_int pa_nil))) (pa_cons (pe_call G_law_next (hr.mono (by decide)) (by rfl) T.g_law_next T.F_law_next.kp T.b_law_next .nil pass0 (pa_cons (pv 1) (pa_cons pe_int pa_nil))) pa_nil)))) 
      (pss_cons (ps_set (i := 4) sc_law.nd rfl (.inl rfl) (pe_call G_law_record (hr.mono (by decide)) (by rfl) T.g_law_record T.F_law_record.kp T.b_law_record .nil pass0 (pa_cons (pv 1) (pa_cons (pv 2) (pa_cons (pe_ix ix_str pe_str (pe_call G_law_next (hr.mono (by decide)) (by rfl) T.g_law_next T.F_law_next.kp T.b_law_next .nil pass0 (pa_cons (pv 1) (pa_cons pe_int pa_nil))) (fun _ _ => rfl)) pa_nil))))) 
      (pss_cons (ps_set (i := 5) sc_law.nd rfl (.inl rfl) (pe_op op_add pe_int (pe_call G_law_next (hr.mono (by decide)) (by rfl) T.g_law_next T.F_law_next.kp T.b_law_next .nil pass0 (pa_cons (pv 1) (pa_cons pe_int pa_nil))))) 
      (pss_cons (ps_set (i := 6) sc_law.nd rfl (.inl rfl) pe_non) 
      (pss_cut (ps_if (pt_cmpR op_eq (pe_call G_law_next (hr.mono (by decide)) (by rfl) T.g_law_next T.F_law_next.kp T.b_law_next .nil pass0 (pa_cons (pv 1) (pa_cons pe_int pa_nil))) pe_int (nomark _)) (pss_one (ps_set (i := 6) sc_law.nd rfl (.inl rfl) (pe_op op_add (pe_op op_add (pv 5) pe_int) (pe_call G_law_next (hr.mono (by decide)) (by rfl) T.g_law_next T.F_law_next.kp T.b_law_next .nil pass0 (pa_cons (pv 1) (pa_cons pe_int pa_nil)))))) pss_nil) 
      (pss_cons (ps_set (i := 7) sc_law.nd rfl (.inl rfl) (pe_makeK T.mk_Note G_Note___init__ (hr.mono (by decide)) (by rfl) T.mc_Note T.kb_Note___init___k1 pass0 (pa_cons (pe_fld (pv 4) rfl) (pa_cons (pv 5) (pa_cons (pe_call G_mark_of (hr.mono (by decide)) (by rfl) T.g_mark_of T.F_mark_of.kp T.b_mark_of .nil pass0 (pa_cons (pv 3) (pa_cons (pv 5) (pa_cons (pv 4) pa_nil)))) pa_nil))) (pk_cons (pv 6) (pk_cons (pv 4) pk_nil)))) 
      (pss_cons (ps_if (pt_cmpR (TPN.op_ownNE T.hm_Note T.ne_Note T.me_Note___eq__ G_Note___eq__ (hr.mono (by decide)) T.b_Note___eq__ pass0) (pv 7) (pe_makeK T.mk_Note G_Note___init__ (hr.mono (by decide)) (by rfl) T.mc_Note T.kb_Note___init___k1 pass0 (pa_cons (pe_fld (pv 4) rfl) (pa_cons (pv 5) (pa_cons (pe_call G_mark_of (hr.mono (by decide)) (by rfl) T.g_mark_of T.F_mark_of.kp T.b_mark_of .nil pass0 (pa_cons (pv 3) (pa_cons (pv 5) (pa_cons (pv 4) pa_nil)))) pa_nil))) (pk_cons (pv 6) (pk_cons (pv 4) pk_nil))) (nomark _)) (pss_one (ps_ret pe_bl)) pss_nil) 
      (pss_cons (ps_for PassesOwn.never rfl (pi_range1 rfl T.m_range (pa_cons pe_int pa_nil)) (pg_name (i := 8) sc_law.nd rfl (.inl rfl)) (pss_one (ps_if (pt_cmpR op_ne (pe_meth (pv 7) T.cl_Note T.me_Note_lives_at G_Note_lives_at (hr.mono (by decide)) T.b_Note_lives_at .nil pass0 (pa_cons (pv 8) pa_nil)) (pe_and (pe_cmpR op_le (pv 5) (pv 8) (nomark _)) (pe_one (pe_or (pe_cmpR op_isN (pv 6) pe_non (nomark _)) (pe_one (pe_cmpR op_lt (pv 8) (pv 6) (nomark _)))))) (nomark _)) (pss_one (ps_ret pe_bl)) pss_nil))) 
      (pss_cons (ps_if (PW.pt (pw_or (pt_cmpR op_notBl (pe_meth (pv 7) T.cl_Note T.me_Note_matches G_Note_matches (hr.mono (by decide)) T.b_Note_matches .nil pass0 (pa_cons (pv 3) (pa_cons (pv 5) (pa_cons (pv 4) pa_nil)))) pe_bl (nomark _)) (pw_or1 (pt_cmpR op_notBl (pe_meth (pv 7) T.cl_Note T.me_Note_matches G_Note_matches (hr.mono (by decide)) T.b_Note_matches .nil pass0 (pa_cons (pv 3) (pa_cons (pe_op op_add (pv 5) pe_int) (pa_cons (pv 4) pa_nil)))) pe_bl (nomark _))))) (pss_one (ps_ret pe_bl)) pss_nil) 
      (pss_cons (ps_for PassesOwn.never rfl (pi_range1 rfl T.m_range (pa_cons pe_int pa_nil)) (pg_name (i := 9) sc_law.nd rfl (.inl rfl)) (pss_cons (ps_set (i := 10) sc_law.nd rfl (.inl rfl) (pe_call G_law_other (hr.mono (by decide)) (by rfl) T.g_law_other T.F_law_other.kp T.b_law_other .nil pass0 (pa_cons (pv 1) (pa_cons (pv 2) (pa_cons (pv 4) pa_nil))))) 
      (pss_cons (ps_set (i := 11) sc_law.nd rfl (.inl rfl) (pe_and (pe_cmpR op_eq (pe_fld (pv 10) rfl) (pe_fld (pv 4) rfl) (nomark _)) (pe_one (pe_cmpR (op_eqD hr.units) (pe_call G_mark_of (hr.mono (by decide)) (by rfl) T.g_mark_of T.F_mark_of.kp T.b_mark_of .nil pass0 (pa_cons (pv 3) (pa_cons (pv 5) (pa_cons (pv 10) pa_nil)))) (pe_call G_mark_of (hr.mono (by decide)) (by rfl) T.g_mark_of T.F_mark_of.kp T.b_mark_of .nil pass0 (pa_cons (pv 3) (pa_cons (pv 5) (pa_cons (pv 4) pa_nil)))) (nomark _))))) 
      (pss_one (ps_if (pt_cmpR op_ne (pe_meth (pv 7) T.cl_Note T.me_Note_matches G_Note_matches (hr.mono (by decide)) T.b_Note_matches .nil pass0 (pa_cons (pv 3) (pa_cons (pv 5) (pa_cons (pv 10) pa_nil)))) (pv 11) (nomark _)) (pss_one (ps_ret pe_bl)) pss_nil))))) 
      (pss_cons (ps_set (i := 12) sc_law.nd rfl (.inl rfl) (pe_makeK T.mk_Note G_Note___init__ (hr.mono (by decide)) (by rfl) T.mc_Note T.kb_Note___init___k0 pass0 (pa_cons (pe_fld (pv 4) rfl) (pa_cons (pv 5) (pa_cons (pe_call G_mark_of (hr.mono (by decide)) (by rfl) T.g_mark_of T.F_mark_of.kp T.b_mark_of .nil pass0 (pa_cons (pv 3) (pa_cons (pv 5) (pa_cons (pv 4) pa_nil)))) pa_nil))) (pk_cons (pv 6) (pk_cons pe_int (pk_cons (pe_lst (pa_cons pe_int pa_nil)) pk_nil))))) 
      (pss_one (ps_ret (pe_and (pe_cmpR (TPN.op_ownNE T.hm_Note T.ne_Note T.me_Note___eq__ G_Note___eq__ (hr.mono (by decide)) T.b_Note___eq__ pass0) (pv 7) (pv 12) (nomark _)) (pe_and (pe_cmpR (TPN.op_ownNE T.hm_Note T.ne_Note T.me_Note___eq__ G_Note___eq__ (hr.mono (by decide)) T.b_Note___eq__ pass0) (pv 7) pe_int (nomark _)) (pe_and (pe_cmpR (op_eqD hr.units) (pe_fld (pv 12) rfl) (pe_tup (pa_cons pe_int pa_nil)) (nomark _)) (pe_one (pe_cmpR op_isN (pe_fld (pv 12) rfl) pe_non (nomark _))))))))))))))))))))), ?_⟩
    have hF := law_true ns hlen
    unfold F_law at hF
    refine st_seq ?_
    refine st_draws hA hlen (fun st sc Z0 Z1 H1 P => ?_)
    obtain ⟨r_560, h_561, hF⟩ := bind_inv hF
    refine st_seq (st_set P (ev_call (cs_law_schema T h_561) (eva_cons (ev_ref rfl) eva_nil)) (fun v_562 Z1 H1 e P1 k_563 => ?_))
    refine st_nx ?_
    replace P := P1
    obtain ⟨x_key_564, h_565, hF⟩ := bind_inv hF
    replace h_565 := Option.some.inj h_565
    refine st_seq (st_set P (ev_cast (ev_tupD (K := K) (eva_conss (ev_call (cs__law_next T (by decide +kernel)) (eva_cons (ev_ref rfl) (eva_cons ev_int eva_nil))) (eva_conss (ev_call (cs__law_next T (by decide +kernel)) (eva_cons (ev_ref rfl) (eva_cons ev_int eva_nil))) (eva_nils (τ := yInt)))) (by show 2 ≤ sizeLine; decide)) h_565) (fun v_566 Z1 H1 e P1 k_567 => ?_))
    refine st_nx ?_
    replace P := P1
    replace k_563 := ((y_Schema T)).mono e.z k_563
    obtain ⟨i_568, h_569, hF⟩ := bind_inv hF
    obtain ⟨r_570, h_571, hF⟩ := bind_inv hF
    refine st_seq (st_set P (ev_call (cs_law_record T h_571) (eva_cons (ev_ref rfl) (eva_cons (ev_var (τ := (y_Schema T)) rfl k_563) (eva_cons (ev_ixS ev_str (ev_call (cs__law_next T (by decide +kernel)) (eva_cons (ev_ref rfl) (eva_cons ev_int eva_nil))) h_569) eva_nil)))) (fun v_572 Z1 H1 e P1 k_573 => ?_))
    refine st_nx ?_
    replace P := P1
    replace k_563 := ((y_Schema T)).mono e.z k_563
    replace k_567 := ((yTup K yInt)).mono e.z k_567
    obtain ⟨x_number_574, h_575, hF⟩ := bind_inv hF
    replace h_575 := Option.some.inj h_575
    refine st_seq (st_set P (ev_cast (ev_add ev_int (ev_call (cs__law_next T (by decide +kernel)) (eva_cons (ev_ref rfl) (eva_cons ev_int eva_nil)))) h_575) (fun v_576 Z1 H1 e P1 k_577 => ?_))
    refine st_nx ?_
    replace P := P1
    replace k_563 := ((y_Schema T)).mono e.z k_563
    replace k_567 := ((yTup K yInt)).mono e.z k_567
    replace k_573 := ((y_Record T)).mono e.z k_573
    refine st_seq (st_set P (ev_none (τ := yInt) ev_non) (fun v_578 Z1 H1 e P1 k_579 => ?_))
    refine st_nx ?_
    replace P := P1
    replace k_579 : ((yOpt yInt)).r Z1 v_578 none := k_579
    replace k_563 := ((y_Schema T)).mono e.z k_563
    replace k_567 := ((yTup K yInt)).mono e.z k_567
    replace k_573 := ((y_Record T)).mono e.z k_573
    obtain ⟨w_582, hB_581, hF⟩ := bind_inv hF
    refine ⟨fun σ' H' => ∃ Z', ∃ (y_583 : Option V) (v_587 : V) (y_589 : Option V) (y_590 : Option V) (y_591 : Option V) (y_592 : Option V) (y_593 : Option V) (y_594 : Option V), σ' = [y_583, some (.ref st), some v_562, some v_566, some v_572, some v_576, some v_587, y_589, y_590, y_591, y_592, y_593, y_594] ∧ Pt [] Z0 H (muD st sc) Z' H' w_582.2 ∧ ((y_Schema T)).r Z' v_562 r_560.1 ∧ ((yTup K yInt)).r Z' v_566 x_key_564 ∧ ((y_Record T)).r Z' v_572 r_570.1 ∧ ((yOpt yInt)).r Z' v_587 w_582.1, ?_, ?_⟩
    · refine st_if P (et_cmp (ev_eq flat_int (ev_call (cs__law_next T (by decide +kernel)) (eva_cons (ev_ref rfl) (eva_cons ev_int eva_nil))) ev_int)) (fun b_580 Z1 H1 e P1 => ?_) (fun b_580 Z1 H1 e P1 => ?_)
      · replace P := P1
        replace hB_581 := ifT b_580 hB_581
        replace k_563 := ((y_Schema T)).mono e.z k_563
        replace k_567 := ((yTup K yInt)).mono e.z k_567
        replace k_573 := ((y_Record T)).mono e.z k_573
        replace k_579 := ((yOpt yInt)).mono e.z k_579
        obtain ⟨x_died_595, h_596, hB_581⟩ := bind_inv hB_581
        replace h_596 := Option.some.inj h_596
        refine st_set P (ev_cast (ev_some nn_int (ev_add (ev_add (ev_var (τ := yInt) rfl k_577) ev_int) (ev_call (cs__law_next T (by decide +kernel)) (eva_cons (ev_ref rfl) (eva_cons ev_int eva_nil))))) h_596) (fun v_597 Z1 H1 e P1 k_598 => ?_)
        replace P := P1
        replace k_598 : ((yOpt yInt)).r Z1 v_597 x_died_595 := k_598
        replace k_563 := ((y_Schema T)).mono e.z k_563
        replace k_567 := ((yTup K yInt)).mono e.z k_567
        replace k_573 := ((y_Record T)).mono e.z k_573
        replace hB_581 := Option.some.inj hB_581
        subst hB_581
        exact ⟨_, _, _, _, _, _, _, _, _, rfl, P, k_563, k_567, k_573, k_598⟩
      · replace P := P1
        replace hB_581 := ifF b_580 hB_581
        replace k_563 := ((y_Schema T)).mono e.z k_563
        replace k_567 := ((yTup K yInt)).mono e.z k_567
        replace k_573 := ((y_Record T)).mono e.z k_573
        replace k_579 := ((yOpt yInt)).mono e.z k_579
        replace hB_581 := Option.some.inj hB_581
        subst hB_581
        exact ⟨_, _, _, _, _, _, _, _, _, rfl, P, k_563, k_567, k_573, k_579⟩
    rintro σ' H' ⟨Z1, y_583, v_587, y_589, y_590, y_591, y_592, y_593, y_594, rfl, P, k_584, k_585, k_586, k_588⟩
    obtain ⟨r_599, h_600, hF⟩ := bind_inv hF
    obtain ⟨x_note_601, h_602, hF⟩ := bind_inv hF
    replace h_602 := Option.some.inj h_602
    refine st_seq (st_set P (ev_cast (ev_makeK (is_Note___init__ T) (eva_cons (ev_fld (fo_Record_name T) T.cl_Record T.n_Record_name (ev_var (τ := (y_Record T)) rfl k_586)) (eva_cons (ev_var (τ := yInt) rfl k_577) (eva_cons (ev_call (cs_mark_of T h_600) (eva_cons (ev_var (τ := (yTup K yInt)) rfl k_585) (eva_cons (ev_var (τ := yInt) rfl k_577) (eva_cons (ev_var (τ := (y_Record T)) rfl k_586) eva_nil)))) eva_nil))) (eva_cons (ev_var (τ := (yOpt yInt)) rfl k_588) (eva_cons (ev_some (nn_Record T) (ev_var (τ := (y_Record T)) rfl k_586)) eva_nil)) (fun Z H vs zs x hv hz => by
          obtain ⟨v0, _, rfl, hv0, ⟨v1, _, rfl, hv1, ⟨v2, _, rfl, hv2, rfl⟩⟩⟩ := hv
          obtain ⟨w0, _, rfl, hw0, ⟨w1, _, rfl, hw1, rfl⟩⟩ := hz
          exact ⟨rfl, rfl, _, rfl, ⟨v0, _, rfl, hv0, ⟨v1, _, rfl, hv1, ⟨v2, _, rfl, hv2, ⟨w0, _, rfl, hw0, ⟨w1, _, rfl, hw1, ⟨_, _, rfl, rfl, ⟨_, _, rfl, ⟨_, [], rfl, .inr (T.et_Note___init___leaves Z), .nil, Nat.zero_le _⟩, rfl⟩⟩⟩⟩⟩⟩⟩⟩)) h_602) (fun v_603 Z1 H1 e P1 k_604 => ?_))
    refine st_nx ?_
    replace P := P1
    replace k_584 := ((y_Schema T)).mono e.z k_584
    replace k_585 := ((yTup K yInt)).mono e.z k_585
    replace k_586 := ((y_Record T)).mono e.z k_586
    replace k_588 := ((yOpt yInt)).mono e.z k_588
    obtain ⟨r_605, h_606, hF⟩ := bind_inv hF
    obtain ⟨r_607, h_608, hF⟩ := bind_inv hF
    refine st_seq (st_if P (et_cmp (ev_cast (ev_ownE (neg := true) (ins_Note T) (tx_NoteI T) (nfs_Note_NoteI T _) (cs_Note___eq__ T h_608) (ev_var (τ := (y_Note T)) rfl k_604) (ij_NoteI_n T (ev_makeK (is_Note___init__ T) (eva_cons (ev_fld (fo_Record_name T) T.cl_Record T.n_Record_name (ev_var (τ := (y_Record T)) rfl k_586)) (eva_cons (ev_var (τ := yInt) rfl k_577) (eva_cons (ev_call (cs_mark_of T h_606) (eva_cons (ev_var (τ := (yTup K yInt)) rfl k_585) (eva_cons (ev_var (τ := yInt) rfl k_577) (eva_cons (ev_var (τ := (y_Record T)) rfl k_586) eva_nil)))) eva_nil))) (eva_cons (ev_var (τ := (yOpt yInt)) rfl k_588) (eva_cons (ev_some (nn_Record T) (ev_var (τ := (y_Record T)) rfl k_586)) eva_nil)) (fun Z H vs zs x hv hz => by
          obtain ⟨v0, _, rfl, hv0, ⟨v1, _, rfl, hv1, ⟨v2, _, rfl, hv2, rfl⟩⟩⟩ := hv
          obtain ⟨w0, _, rfl, hw0, ⟨w1, _, rfl, hw1, rfl⟩⟩ := hz
          exact ⟨rfl, rfl, _, rfl, ⟨v0, _, rfl, hv0, ⟨v1, _, rfl, hv1, ⟨v2, _, rfl, hv2, ⟨w0, _, rfl, hw0, ⟨w1, _, rfl, hw1, ⟨_, _, rfl, rfl, ⟨_, _, rfl, ⟨_, [], rfl, .inr (T.et_Note___init___leaves Z), .nil, Nat.zero_le _⟩, rfl⟩⟩⟩⟩⟩⟩⟩⟩)))) bneT)) (fun b_609 Z1 H1 e P1 => ?_) (fun b_609 Z1 H1 e P1 => ?_))
    · replace P := P1
      have hB := ifT b_609 hF
      replace hF := hB
      clear hB
      have hb := Option.some.inj hF
      refine st_ret P ev_bl (fun v Z H P hv => ?_)
      have hv2 : v = V.bl _ := hv
      rw [hb] at hv2
      rw [hv2]
      exact q _
    · replace P := P1
      have hB := ifF b_609 hF
      replace hF := hB
      clear hB
      refine st_next0 ?_
      replace k_584 := ((y_Schema T)).mono e.z k_584
      replace k_585 := ((yTup K yInt)).mono e.z k_585
      replace k_586 := ((y_Record T)).mono e.z k_586
      replace k_588 := ((yOpt yInt)).mono e.z k_588
      replace k_604 := ((y_Note T)).mono e.z k_604
      obtain ⟨f_652, hL_653, hF⟩ := bind_inv hF
      refine st_seq (st_for (τ := yInt) (fun (r_612 : List Int) σ' Z' H' => ∃ w_610, ∃ (y_617 : Option V) (y_623 : Option V) (y_624 : Option V) (y_625 : Option V) (y_626 : Option V) (y_627 : Option V), σ' = [y_617, some (.ref st), some v_562, some v_566, some v_572, some v_576, some v_587, some v_603, y_623, y_624, y_625, y_626, y_627] ∧ Pt [] Z0 H (muD st sc) Z' H' w_582.2 ∧ ((y_Schema T)).r Z' v_562 r_560.1 ∧ ((yTup K yInt)).r Z' v_566 x_key_564 ∧ ((y_Record T)).r Z' v_572 r_570.1 ∧ ((yOpt yInt)).r Z' v_587 w_582.1 ∧ ((y_Note T)).r Z' v_603 x_note_601 ∧ forS (L_law_1 x_number_574 w_582 x_note_601) r_612 w_610 = some f_652) P (ei_rng1 ev_int (by decide)) ?_ ?_ ?_)
      · rintro Z1 H1 e P1
        replace P := P1
        replace k_584 := ((y_Schema T)).mono e.z k_584
        replace k_585 := ((yTup K yInt)).mono e.z k_585
        replace k_586 := ((y_Record T)).mono e.z k_586
        replace k_588 := ((yOpt yInt)).mono e.z k_588
        replace k_604 := ((y_Note T)).mono e.z k_604
        exact ⟨(), _, _, _, _, _, _, rfl, P, k_584, k_585, k_586, k_588, k_604, hL_653⟩
      · rintro Zb_616 Hb eb x_611 r_612 σ' v_640 Z1 H1 Z2 H2 zs_615 ⟨w_610, y_617, y_623, y_624, y_625, y_626, y_627, rfl, P, k_618, k_619, k_620, k_621, k_622, hq_614⟩ e hx_641
        replace P := P.item e
        replace k_618 := ((y_Schema T)).mono e.z k_618
        replace k_619 := ((yTup K yInt)).mono e.z k_619
        replace k_620 := ((y_Record T)).mono e.z k_620
        replace k_621 := ((yOpt yInt)).mono e.z k_621
        replace k_622 := ((y_Note T)).mono e.z k_622
        replace zs_615 := zs_615.trans e.z
        obtain ⟨u_642, hB_613, hq_614⟩ := bind_inv (forS_cons hq_614)
        unfold L_law_1 at hB_613
        refine tgt_name _ P.sub _ ?_
        obtain ⟨r_643, h_644, hB_613⟩ := bind_inv hB_613
        obtain ⟨b_650, h_649, hB_613⟩ := bind_inv hB_613
        refine st_if P (et_cmp (ev_ne flat_bool (ev_meth (oo_Note T (by decide +kernel)) (cs_Note_lives_at T h_644) (ev_var (τ := (y_Note T)) rfl k_622) (eva_cons (ev_var (τ := yInt) rfl hx_641) eva_nil)) (ev_andO (ev_le (ev_var (τ := yInt) rfl k_577) (ev_var (τ := yInt) rfl hx_641)) (fun _ y hy => by
              obtain ⟨b_648, h_647, hy⟩ := bind_inv hy
              have hy := Option.some.inj hy
              subst hy
              exact (ev_orO (ev_isN (ev_var (τ := (yOpt yInt)) rfl k_621) ev_non) (fun _ y hy => by
                    obtain ⟨u_645, h_646, hy⟩ := bind_inv hy
                    have hy := Option.some.inj hy
                    subst hy
                    exact (ev_lt (ev_var (τ := yInt) rfl hx_641) (ev_uno (ev_var (τ := (yOpt yInt)) rfl k_621) h_646))) h_647)) h_649))) (fun b_651 Z1 H1 e P1 => ?_) (fun b_651 Z1 H1 e P1 => ?_)
        · replace P := P1
          have hB := ifT b_651 hB_613
          replace hB_613 := hB
          clear hB
          replace zs_615 := zs_615.trans e.z
          replace hB_613 := Option.some.inj hB_613
          subst hB_613
          have hz := nxt_ret hq_614
          subst hz
          have hz := ret_inv hF
          have hb := Option.some.inj hz
          refine st_ret P ev_bl (fun v Z H P hv => ?_)
          have hv2 : v = V.bl _ := hv
          rw [hb] at hv2
          rw [hv2]
          exact q _
        · replace P := P1
          have hB := ifF b_651 hB_613
          replace hB_613 := hB
          clear hB
          refine st_next ?_
          replace k_618 := ((y_Schema T)).mono e.z k_618
          replace k_619 := ((yTup K yInt)).mono e.z k_619
          replace k_620 := ((y_Record T)).mono e.z k_620
          replace k_621 := ((yOpt yInt)).mono e.z k_621
          replace k_622 := ((y_Note T)).mono e.z k_622
          replace zs_615 := zs_615.trans e.z
          replace hB_613 := Option.some.inj hB_613
          subst hB_613
          exact ⟨_, zs_615, P.sub, (), _, _, _, _, _, _, rfl, P, k_618, k_619, k_620, k_621, k_622, (nxt_go hq_614)⟩
      rintro σ' Z1 H1 _ _ ⟨w_628, y_617, y_623, y_624, y_625, y_626, y_627, rfl, P, k_630, k_631, k_632, k_633, k_634, hl⟩
      have hz := forS_nil hl
      subst hz
      replace hF := go_inv hF
      refine st_nx ?_
      obtain ⟨r_654, h_655, hF⟩ := bind_inv hF
      obtain ⟨b_659, h_658, hF⟩ := bind_inv hF
      refine st_seq (st_if P (et_orO (et_cmp (ev_notB (ev_meth (oo_Note T (by decide +kernel)) (cs_Note_matches T h_655) (ev_var (τ := (y_Note T)) rfl k_634) (eva_cons (ev_var (τ := (yTup K yInt)) rfl k_631) (eva_cons (ev_var (τ := yInt) rfl k_577) (eva_cons (ev_var (τ := (y_Record T)) rfl k_632) eva_nil)))) ev_bl)) (fun _ y hy => by
            obtain ⟨r_656, h_657, hy⟩ := bind_inv hy
            have hy := Option.some.inj hy
            subst hy
            exact (et_cmp (ev_notB (ev_meth (oo_Note T (by decide +kernel)) (cs_Note_matches T h_657) (ev_var (τ := (y_Note T)) rfl k_634) (eva_cons (ev_var (τ := (yTup K yInt)) rfl k_631) (eva_cons (ev_add (ev_var (τ := yInt) rfl k_577) ev_int) (eva_cons (ev_var (τ := (y_Record T)) rfl k_632) eva_nil)))) ev_bl))) h_658) (fun b_660 Z1 H1 e P1 => ?_) (fun b_660 Z1 H1 e P1 => ?_))
      · replace P := P1
        have hB := ifT b_660 hF
        replace hF := hB
        clear hB
        have hb := Option.some.inj hF
        refine st_ret P ev_bl (fun v Z H P hv => ?_)
        have hv2 : v = V.bl _ := hv
        rw [hb] at hv2
        rw [hv2]
        exact q _
      · replace P := P1
        have hB := ifF b_660 hF
        replace hF := hB
        clear hB
        refine st_next0 ?_
        replace k_630 := ((y_Schema T)).mono e.z k_630
        replace k_631 := ((yTup K yInt)).mono e.z k_631
        replace k_632 := ((y_Record T)).mono e.z k_632
        replace k_633 := ((yOpt yInt)).mono e.z k_633
        replace k_634 := ((y_Note T)).mono e.z k_634
        obtain ⟨f_709, hL_710, hF⟩ := bind_inv hF
        refine st_seq (st_for (τ := yInt) (fun (r_663 : List Int) σ' Z' H' => ∃ w_661, ∃ (y_668 : Option V) (y_674 : Option V) (y_675 : Option V) (y_676 : Option V) (y_677 : Option V) (y_678 : Option V), σ' = [y_668, some (.ref st), some v_562, some v_566, some v_572, some v_576, some v_587, some v_603, y_674, y_675, y_676, y_677, y_678] ∧ Pt [] Z0 H (muD st sc) Z' H' w_661 ∧ ((y_Schema T)).r Z' v_562 r_560.1 ∧ ((yTup K yInt)).r Z' v_566 x_key_564 ∧ ((y_Record T)).r Z' v_572 r_570.1 ∧ ((yOpt yInt)).r Z' v_587 w_582.1 ∧ ((y_Note T)).r Z' v_603 x_note_601 ∧ forS (L_law_2 r_560 x_key_564 r_570 x_number_574 x_note_601) r_663 w_661 = some f_709) P (ei_rng1 ev_int (by decide)) ?_ ?_ ?_)
        · rintro Z1 H1 e P1
          replace P := P1
          replace k_630 := ((y_Schema T)).mono e.z k_630
          replace k_631 := ((yTup K yInt)).mono e.z k_631
          replace k_632 := ((y_Record T)).mono e.z k_632
          replace k_633 := ((yOpt yInt)).mono e.z k_633
          replace k_634 := ((y_Note T)).mono e.z k_634
          exact ⟨w_582.2, _, _, _, _, _, _, rfl, P, k_630, k_631, k_632, k_633, k_634, hL_710⟩
        · rintro Zb_667 Hb eb x_662 r_663 σ' v_691 Z1 H1 Z2 H2 zs_666 ⟨w_661, y_668, y_674, y_675, y_676, y_677, y_678, rfl, P, k_669, k_670, k_671, k_672, k_673, hq_665⟩ e hx_692
          replace P := P.item e
          replace k_669 := ((y_Schema T)).mono e.z k_669
          replace k_670 := ((yTup K yInt)).mono e.z k_670
          replace k_671 := ((y_Record T)).mono e.z k_671
          replace k_672 := ((yOpt yInt)).mono e.z k_672
          replace k_673 := ((y_Note T)).mono e.z k_673
          replace zs_666 := zs_666.trans e.z
          obtain ⟨u_693, hB_664, hq_665⟩ := bind_inv (forS_cons hq_665)
          unfold L_law_2 at hB_664
          refine tgt_name _ P.sub _ ?_
          obtain ⟨r_694, h_695, hB_664⟩ := bind_inv hB_664
          refine st_seq (st_set P (ev_call (cs_law_other T h_695) (eva_cons (ev_ref rfl) (eva_cons (ev_var (τ := (y_Schema T)) rfl k_669) (eva_cons (ev_var (τ := (y_Record T)) rfl k_671) eva_nil)))) (fun v_696 Z1 H1 e P1 k_697 => ?_))
          refine st_nx ?_
          replace P := P1
          replace k_669 := ((y_Schema T)).mono e.z k_669
          replace k_670 := ((yTup K yInt)).mono e.z k_670
          replace k_671 := ((y_Record T)).mono e.z k_671
          replace k_672 := ((yOpt yInt)).mono e.z k_672
          replace k_673 := ((y_Note T)).mono e.z k_673
          replace zs_666 := zs_666.trans e.z
          obtain ⟨b_703, h_702, hB_664⟩ := bind_inv hB_664
          refine st_seq (st_set P (ev_andO (ev_eq flat_str (ev_fld (fo_Record_name T) T.cl_Record T.n_Record_name (ev_var (τ := (y_Record T)) rfl k_697)) (ev_fld (fo_Record_name T) T.cl_Record T.n_Record_name (ev_var (τ := (y_Record T)) rfl k_671))) (fun _ y hy => by
                obtain ⟨r_698, h_699, hy⟩ := bind_inv hy
                obtain ⟨r_700, h_701, hy⟩ := bind_inv hy
                have hy := Option.some.inj hy
                subst hy
                exact (ev_eqD (eqd_tup eqd_int) (by decide) (ev_call (cs_mark_of T h_699) (eva_cons (ev_var (τ := (yTup K yInt)) rfl k_670) (eva_cons (ev_var (τ := yInt) rfl k_577) (eva_cons (ev_var (τ := (y_Record T)) rfl k_697) eva_nil)))) (ev_call (cs_mark_of T h_701) (eva_cons (ev_var (τ := (yTup K yInt)) rfl k_670) (eva_cons (ev_var (τ := yInt) rfl k_577) (eva_cons (ev_var (τ := (y_Record T)) rfl k_671) eva_nil)))))) h_702) (fun v_704 Z1 H1 e P1 k_705 => ?_))
          refine st_nx ?_
          replace P := P1
          replace k_669 := ((y_Schema T)).mono e.z k_669
          replace k_670 := ((yTup K yInt)).mono e.z k_670
          replace k_671 := ((y_Record T)).mono e.z k_671
          replace k_672 := ((yOpt yInt)).mono e.z k_672
          replace k_673 := ((y_Note T)).mono e.z k_673
          replace k_697 := ((y_Record T)).mono e.z k_697
          replace zs_666 := zs_666.trans e.z
          obtain ⟨r_706, h_707, hB_664⟩ := bind_inv hB_664
          refine st_if P (et_cmp (ev_ne flat_bool (ev_meth (oo_Note T (by decide +kernel)) (cs_Note_matches T h_707) (ev_var (τ := (y_Note T)) rfl k_673) (eva_cons (ev_var (τ := (yTup K yInt)) rfl k_670) (eva_cons (ev_var (τ := yInt) rfl k_577) (eva_cons (ev_var (τ := (y_Record T)) rfl k_697) eva_nil)))) (ev_var (τ := yBool) rfl k_705))) (fun b_708 Z1 H1 e P1 => ?_) (fun b_708 Z1 H1 e P1 => ?_)
          · replace P := P1
            have hB := ifT b_708 hB_664
            replace hB_664 := hB
            clear hB
            replace zs_666 := zs_666.trans e.z
            replace hB_664 := Option.some.inj hB_664
            subst hB_664
            have hz := nxt_ret hq_665
            subst hz
            have hz := ret_inv hF
            have hb := Option.some.inj hz
            refine st_ret P ev_bl (fun v Z H P hv => ?_)
            have hv2 : v = V.bl _ := hv
            rw [hb] at hv2
            rw [hv2]
            exact q _
          · replace P := P1
            have hB := ifF b_708 hB_664
            replace hB_664 := hB
            clear hB
            refine st_next ?_
            replace k_669 := ((y_Schema T)).mono e.z k_669
            replace k_670 := ((yTup K yInt)).mono e.z k_670
            replace k_671 := ((y_Record T)).mono e.z k_671
            replace k_672 := ((yOpt yInt)).mono e.z k_672
            replace k_673 := ((y_Note T)).mono e.z k_673
            replace zs_666 := zs_666.trans e.z
            replace hB_664 := Option.some.inj hB_664
            subst hB_664
            exact ⟨_, zs_666, P.sub, r_694.2, _, _, _, _, _, _, rfl, P, k_669, k_670, k_671, k_672, k_673, (nxt_go hq_665)⟩
        rintro σ' Z1 H1 _ _ ⟨w_679, y_668, y_674, y_675, y_676, y_677, y_678, rfl, P, k_669, k_682, k_683, k_684, k_685, hl⟩
        have hz := forS_nil hl
        subst hz
        replace hF := go_inv hF
        refine st_nx ?_
        obtain ⟨r_711, h_712, hF⟩ := bind_inv hF
        obtain ⟨x_changed_713, h_714, hF⟩ := bind_inv hF
        replace h_714 := Option.some.inj h_714
        refine st_seq (st_set P (ev_cast (ev_makeK (is_Note___init__ T) (eva_cons (ev_fld (fo_Record_name T) T.cl_Record T.n_Record_name (ev_var (τ := (y_Record T)) rfl k_683)) (eva_cons (ev_var (τ := yInt) rfl k_577) (eva_cons (ev_call (cs_mark_of T h_712) (eva_cons (ev_var (τ := (yTup K yInt)) rfl k_682) (eva_cons (ev_var (τ := yInt) rfl k_577) (eva_cons (ev_var (τ := (y_Record T)) rfl k_683) eva_nil)))) eva_nil))) (eva_cons (ev_var (τ := (yOpt yInt)) rfl k_684) (eva_cons (ev_some nn_int ev_int) (eva_cons (ev_seqL (ev_fz (en_listD (eva_conss ev_int (eva_nils (τ := yInt))) (by show 1 ≤ sizeLine; decide)))) eva_nil))) (fun Z H vs zs x hv hz => by
              obtain ⟨v0, _, rfl, hv0, ⟨v1, _, rfl, hv1, ⟨v2, _, rfl, hv2, rfl⟩⟩⟩ := hv
              obtain ⟨w0, _, rfl, hw0, ⟨w1, _, rfl, hw1, ⟨w2, _, rfl, hw2, rfl⟩⟩⟩ := hz
              exact ⟨rfl, rfl, _, rfl, ⟨v0, _, rfl, hv0, ⟨v1, _, rfl, hv1, ⟨v2, _, rfl, hv2, ⟨w0, _, rfl, hw0, ⟨_, _, rfl, rfl, ⟨w1, _, rfl, hw1, ⟨w2, _, rfl, hw2, rfl⟩⟩⟩⟩⟩⟩⟩⟩)) h_714) (fun v_715 Z1 H1 e P1 k_716 => ?_))
        refine st_nx ?_
        replace P := P1
        replace k_685 := ((y_Note T)).mono e.z k_685
        obtain ⟨r_717, h_718, hF⟩ := bind_inv hF
        obtain ⟨b_722, h_721, hF⟩ := bind_inv hF
        have hb := Option.some.inj hF
        refine st_ret P (ev_andO (ev_cast (ev_ownE (neg := true) (ins_Note T) (tx_NoteI T) (nfs_Note_NoteI T _) (cs_Note___eq__ T h_718) (ev_var (τ := (y_Note T)) rfl k_685) (ij_NoteI_n T (ev_var (τ := (y_Note T)) rfl k_716))) bneT) (fun _ y hy => by
              obtain ⟨r_719, h_720, hy⟩ := bind_inv hy
              have hy := Option.some.inj hy
              subst hy
              exact (ev_and0 (ev_cast (ev_ownE (neg := true) (ins_Note T) (tx_NoteI T) (nfs_Note_NoteI T _) (cs_Note___eq__ T h_720) (ev_var (τ := (y_Note T)) rfl k_685) (ij_NoteI_i T ev_int)) bneT) (ev_and0 (ev_eqD (eqd_tup eqd_int) (by decide) (ev_fld (fo_Note_leaves T) T.cl_Note T.n_Note_leaves (ev_var (τ := (y_Note T)) rfl k_716)) (ev_tupD (K := K) (eva_conss ev_int (eva_nils (τ := yInt))) (by show 1 ≤ sizeLine; decide))) (ev_isN (ev_fld (fo_Note_record T) T.cl_Note T.n_Note_record (ev_var (τ := (y_Note T)) rfl k_716)) ev_non)))) h_721) (fun v Z H P hv => ?_)
        have hv2 : v = V.bl _ := hv
        rw [hb] at hv2
        rw [hv2]
        exact q _
end
set_option maxRecDepth 100000 in
set_option maxHeartbeats 0 in
theorem all_mk {l : PySem.W.OpenLaw} {w : World} {K : PySem.W.Frag} {h : Heap} {mg : Str → Option Value} {fa f0 f1 f2 f3 f4 f5 f6 f7 f8 f9 f10 f11 f12 f13 f14 f15 f16 f17 f18 f19 f20 f21 f22 f23 f24 f25 : Addr} (X : K.In h) (G : h.Ns mainGlobals mg) (hfa : mg "law" = some (.ref fa))
    {od0 an0 od1 an1 od2 an2 od3 an3 od4 an4 od5 an5 od6 an6 od7 an7 od8 an8 od9 an9 od10 an10 od11 an11 od12 an12 od13 an13 od14 an14 od15 an15 od16 an16 od17 an17 od18 an18 od19 an19 od20 an20 od21 an21 od22 an22 od23 an23 od24 an24 od25 an25 : Option Addr} {sl0 sl1 sl2 sl3 sl4 sl5 sl6 sl7 sl8 sl9 sl10 sl11 sl12 sl13 sl14 sl15 sl16 sl17 sl18 sl19 sl20 sl21 sl22 sl23 sl24 sl25 : Array (Option Value)} {oc0 kV0 dc0 pm0 cd0 ct0 oc1 kV1 dc1 pm1 cd1 ct1 oc2 kV2 dc2 pm2 cd2 ct2 oc3 kV3 dc3 pm3 cd3 ct3 oc4 kV4 dc4 pm4 cd4 ct4 oc5 kV5 dc5 pm5 cd5 ct5 oc6 kV6 dc6 pm6 cd6 ct6 oc7 kV7 dc7 pm7 cd7 ct7 oc8 kV8 dc8 pm8 cd8 ct8 oc9 dc9 pm9 cd9 ct9 oc10 kV10 dc10 pm10 cd10 ct10 oc11 dc11 pm11 cd11 ct11 oc12 kV12 dc12 pm12 cd12 ct12 oc13 kV13 dc13 pm13 cd13 ct13 oc14 kV14 dc14 pm14 cd14 ct14 oc15 kV15 dc15 pm15 cd15 ct15 oc16 kV16 dc16 pm16 cd16 ct16 oc17 kV17 dc17 pm17 cd17 ct17 oc18 kV18 dc18 pm18 cd18 ct18 oc19 kV19 dc19 pm19 cd19 ct19 oc20 dc20 pm20 cd20 ct20 oc21 kV21 dc21 pm21 cd21 ct21 oc22 kV22 dc22 pm22 cd22 ct22 oc23 kV23 dc23 pm23 cd23 ct23 oc24 kV24 dc24 pm24 cd24 ct24 oc25 kV25 dc25 pm25 cd25 ct25 : Value}
    {C_Record C_Note C_Schema : Addr}
    (a0 : PySem.W.nsIn K mainGlobals "_law_row" = some (some (.ref f0))) (l0 : K.lookup f0 = some ⟨oc0, od0, .func (PySem.W.fnOf "_law_row" "_law_row" (defArgs s_law_row) (defBody s_law_row) (defScope s_law_row) .none kV0 dc0 pm0 an0 cd0 ct0), sl0⟩) (c0 : PySem.W.codeIn K cd0 "_law_row" = true) (k0 : PySem.W.keepIn K (.ref f0) = true)
    (a1 : PySem.W.nsIn K mainGlobals "_law_next" = some (some (.ref f1))) (l1 : K.lookup f1 = some ⟨oc1, od1, .func (PySem.W.fnOf "_law_next" "_law_next" (defArgs s_law_next) (defBody s_law_next) (defScope s_law_next) .none kV1 dc1 pm1 an1 cd1 ct1), sl1⟩) (c1 : PySem.W.codeIn K cd1 "_law_next" = true) (k1 : PySem.W.keepIn K (.ref f1) = true)
    (a2 : PySem.W.nsIn K mainGlobals "kind_of_value" = some (some (.ref f2))) (l2 : K.lookup f2 = some ⟨oc2, od2, .func (PySem.W.fnOf "kind_of_value" "kind_of_value" (defArgs s_kind_of_value) (defBody s_kind_of_value) (defScope s_kind_of_value) .none kV2 dc2 pm2 an2 cd2 ct2), sl2⟩) (c2 : PySem.W.codeIn K cd2 "kind_of_value" = true) (k2 : PySem.W.keepIn K (.ref f2) = true)
    (a3 : PySem.W.nsIn K mainGlobals "string_part" = some (some (.ref f3))) (l3 : K.lookup f3 = some ⟨oc3, od3, .func (PySem.W.fnOf "string_part" "string_part" (defArgs s_string_part) (defBody s_string_part) (defScope s_string_part) .none kV3 dc3 pm3 an3 cd3 ct3), sl3⟩) (c3 : PySem.W.codeIn K cd3 "string_part" = true) (k3 : PySem.W.keepIn K (.ref f3) = true)
    (a4 : PySem.W.nsIn K mainGlobals "value_part" = some (some (.ref f4))) (l4 : K.lookup f4 = some ⟨oc4, od4, .func (PySem.W.fnOf "value_part" "value_part" (defArgs s_value_part) (defBody s_value_part) (defScope s_value_part) .none kV4 dc4 pm4 an4 cd4 ct4), sl4⟩) (c4 : PySem.W.codeIn K cd4 "value_part" = true) (k4 : PySem.W.keepIn K (.ref f4) = true)
    (a5 : PySem.W.nsIn K mainGlobals "row_of" = some (some (.ref f5))) (l5 : K.lookup f5 = some ⟨oc5, od5, .func (PySem.W.fnOf "row_of" "row_of" (defArgs s_row_of) (defBody s_row_of) (defScope s_row_of) .none kV5 dc5 pm5 an5 cd5 ct5), sl5⟩) (c5 : PySem.W.codeIn K cd5 "row_of" = true) (k5 : PySem.W.keepIn K (.ref f5) = true)
    (a6 : PySem.W.nsIn K mainGlobals "remainder_of" = some (some (.ref f6))) (l6 : K.lookup f6 = some ⟨oc6, od6, .func (PySem.W.fnOf "remainder_of" "remainder_of" (defArgs s_remainder_of) (defBody s_remainder_of) (defScope s_remainder_of) .none kV6 dc6 pm6 an6 cd6 ct6), sl6⟩) (c6 : PySem.W.codeIn K cd6 "remainder_of" = true) (k6 : PySem.W.keepIn K (.ref f6) = true)
    (a7 : PySem.W.nsIn K mainGlobals "mark_of" = some (some (.ref f7))) (l7 : K.lookup f7 = some ⟨oc7, od7, .func (PySem.W.fnOf "mark_of" "mark_of" (defArgs s_mark_of) (defBody s_mark_of) (defScope s_mark_of) .none kV7 dc7 pm7 an7 cd7 ct7), sl7⟩) (c7 : PySem.W.codeIn K cd7 "mark_of" = true) (k7 : PySem.W.keepIn K (.ref f7) = true)
    (a8 : PySem.W.nsIn K mainGlobals "same_fields" = some (some (.ref f8))) (l8 : K.lookup f8 = some ⟨oc8, od8, .func (PySem.W.fnOf "same_fields" "same_fields" (defArgs s_same_fields) (defBody s_same_fields) (defScope s_same_fields) .none kV8 dc8 pm8 an8 cd8 ct8), sl8⟩) (c8 : PySem.W.codeIn K cd8 "same_fields" = true) (k8 : PySem.W.keepIn K (.ref f8) = true)
    {DK9 : Addr} (l9 : K.lookup f9 = some ⟨oc9, od9, .func (PySem.W.fnOf "__init__" "Record.__init__" (defArgs s_Record___init__) (defBody s_Record___init__) (defScope s_Record___init__) .none (.ref DK9) dc9 pm9 an9 cd9 ct9), sl9⟩) (c9 : PySem.W.codeIn K cd9 "Record.__init__" = true) (k9 : PySem.W.keepIn K (.ref f9) = true)
    {E9_fields : Addr} {eo9_fields : Option Addr} {en9_fields : Nat} {es9_fields : Array (Option Value)} (n9_fields : PySem.W.nsIn K DK9 "fields" = some (some (.ref E9_fields))) (t9_fields : K.lookup E9_fields = some ⟨.type "tuple", eo9_fields, .seq #[] en9_fields, es9_fields⟩)
    {E9_words : Addr} {eo9_words : Option Addr} {en9_words : Nat} {es9_words : Array (Option Value)} (n9_words : PySem.W.nsIn K DK9 "words" = some (some (.ref E9_words))) (t9_words : K.lookup E9_words = some ⟨.type "tuple", eo9_words, .seq #[] en9_words, es9_words⟩)
    (l10 : K.lookup f10 = some ⟨oc10, od10, .func (PySem.W.fnOf "__eq__" "Record.__eq__" (defArgs s_Record___eq__) (defBody s_Record___eq__) (defScope s_Record___eq__) .none kV10 dc10 pm10 an10 cd10 ct10), sl10⟩) (c10 : PySem.W.codeIn K cd10 "Record.__eq__" = true) (k10 : PySem.W.keepIn K (.ref f10) = true)
    {DK11 : Addr} (l11 : K.lookup f11 = some ⟨oc11, od11, .func (PySem.W.fnOf "__init__" "Note.__init__" (defArgs s_Note___init__) (defBody s_Note___init__) (defScope s_Note___init__) .none (.ref DK11) dc11 pm11 an11 cd11 ct11), sl11⟩) (c11 : PySem.W.codeIn K cd11 "Note.__init__" = true) (k11 : PySem.W.keepIn K (.ref f11) = true)
    (n11_died : PySem.W.nsIn K DK11 "died" = some (some .none))
    (n11_record : PySem.W.nsIn K DK11 "record" = some (some .none))
    (n11_segment : PySem.W.nsIn K DK11 "segment" = some (some .none))
    {E11_leaves : Addr} {eo11_leaves : Option Addr} {en11_leaves : Nat} {es11_leaves : Array (Option Value)} (n11_leaves : PySem.W.nsIn K DK11 "leaves" = some (some (.ref E11_leaves))) (t11_leaves : K.lookup E11_leaves = some ⟨.type "tuple", eo11_leaves, .seq #[] en11_leaves, es11_leaves⟩)
    (l12 : K.lookup f12 = some ⟨oc12, od12, .func (PySem.W.fnOf "lives_at" "Note.lives_at" (defArgs s_Note_lives_at) (defBody s_Note_lives_at) (defScope s_Note_lives_at) .none kV12 dc12 pm12 an12 cd12 ct12), sl12⟩) (c12 : PySem.W.codeIn K cd12 "Note.lives_at" = true) (k12 : PySem.W.keepIn K (.ref f12) = true)
    (l13 : K.lookup f13 = some ⟨oc13, od13, .func (PySem.W.fnOf "matches" "Note.matches" (defArgs s_Note_matches) (defBody s_Note_matches) (defScope s_Note_matches) .none kV13 dc13 pm13 an13 cd13 ct13), sl13⟩) (c13 : PySem.W.codeIn K cd13 "Note.matches" = true) (k13 : PySem.W.keepIn K (.ref f13) = true)
    (l14 : K.lookup f14 = some ⟨oc14, od14, .func (PySem.W.fnOf "__eq__" "Note.__eq__" (defArgs s_Note___eq__) (defBody s_Note___eq__) (defScope s_Note___eq__) .none kV14 dc14 pm14 an14 cd14 ct14), sl14⟩) (c14 : PySem.W.codeIn K cd14 "Note.__eq__" = true) (k14 : PySem.W.keepIn K (.ref f14) = true)
    (a15 : PySem.W.nsIn K mainGlobals "is_letter" = some (some (.ref f15))) (l15 : K.lookup f15 = some ⟨oc15, od15, .func (PySem.W.fnOf "is_letter" "is_letter" (defArgs s_is_letter) (defBody s_is_letter) (defScope s_is_letter) .none kV15 dc15 pm15 an15 cd15 ct15), sl15⟩) (c15 : PySem.W.codeIn K cd15 "is_letter" = true) (k15 : PySem.W.keepIn K (.ref f15) = true)
    (a16 : PySem.W.nsIn K mainGlobals "is_digit" = some (some (.ref f16))) (l16 : K.lookup f16 = some ⟨oc16, od16, .func (PySem.W.fnOf "is_digit" "is_digit" (defArgs s_is_digit) (defBody s_is_digit) (defScope s_is_digit) .none kV16 dc16 pm16 an16 cd16 ct16), sl16⟩) (c16 : PySem.W.codeIn K cd16 "is_digit" = true) (k16 : PySem.W.keepIn K (.ref f16) = true)
    (a17 : PySem.W.nsIn K mainGlobals "is_word" = some (some (.ref f17))) (l17 : K.lookup f17 = some ⟨oc17, od17, .func (PySem.W.fnOf "is_word" "is_word" (defArgs s_is_word) (defBody s_is_word) (defScope s_is_word) .none kV17 dc17 pm17 an17 cd17 ct17), sl17⟩) (c17 : PySem.W.codeIn K cd17 "is_word" = true) (k17 : PySem.W.keepIn K (.ref f17) = true)
    (a18 : PySem.W.nsIn K mainGlobals "check_vectors" = some (some (.ref f18))) (l18 : K.lookup f18 = some ⟨oc18, od18, .func (PySem.W.fnOf "check_vectors" "check_vectors" (defArgs s_check_vectors) (defBody s_check_vectors) (defScope s_check_vectors) .none kV18 dc18 pm18 an18 cd18 ct18), sl18⟩) (c18 : PySem.W.codeIn K cd18 "check_vectors" = true) (k18 : PySem.W.keepIn K (.ref f18) = true)
    (a19 : PySem.W.nsIn K mainGlobals "check_fields" = some (some (.ref f19))) (l19 : K.lookup f19 = some ⟨oc19, od19, .func (PySem.W.fnOf "check_fields" "check_fields" (defArgs s_check_fields) (defBody s_check_fields) (defScope s_check_fields) .none kV19 dc19 pm19 an19 cd19 ct19), sl19⟩) (c19 : PySem.W.codeIn K cd19 "check_fields" = true) (k19 : PySem.W.keepIn K (.ref f19) = true)
    {DK20 : Addr} (l20 : K.lookup f20 = some ⟨oc20, od20, .func (PySem.W.fnOf "__init__" "Schema.__init__" (defArgs s_Schema___init__) (defBody s_Schema___init__) (defScope s_Schema___init__) .none (.ref DK20) dc20 pm20 an20 cd20 ct20), sl20⟩) (c20 : PySem.W.codeIn K cd20 "Schema.__init__" = true) (k20 : PySem.W.keepIn K (.ref f20) = true)
    {tq20_width : Tok} (n20_width : PySem.W.nsIn K DK20 "width" = some (some (.str "small" tq20_width)))
    {tq20_measure : Tok} (n20_measure : PySem.W.nsIn K DK20 "measure" = some (some (.str "square" tq20_measure)))
    {E20_fields : Addr} {eo20_fields : Option Addr} {en20_fields : Nat} {es20_fields : Array (Option Value)} (n20_fields : PySem.W.nsIn K DK20 "fields" = some (some (.ref E20_fields))) (t20_fields : K.lookup E20_fields = some ⟨.type "tuple", eo20_fields, .seq #[] en20_fields, es20_fields⟩)
    (a21 : PySem.W.nsIn K mainGlobals "_law_schema" = some (some (.ref f21))) (l21 : K.lookup f21 = some ⟨oc21, od21, .func (PySem.W.fnOf "_law_schema" "_law_schema" (defArgs s_law_schema) (defBody s_law_schema) (defScope s_law_schema) .none kV21 dc21 pm21 an21 cd21 ct21), sl21⟩) (c21 : PySem.W.codeIn K cd21 "_law_schema" = true) (k21 : PySem.W.keepIn K (.ref f21) = true)
    (a22 : PySem.W.nsIn K mainGlobals "_law_vector" = some (some (.ref f22))) (l22 : K.lookup f22 = some ⟨oc22, od22, .func (PySem.W.fnOf "_law_vector" "_law_vector" (defArgs s_law_vector) (defBody s_law_vector) (defScope s_law_vector) .none kV22 dc22 pm22 an22 cd22 ct22), sl22⟩) (c22 : PySem.W.codeIn K cd22 "_law_vector" = true) (k22 : PySem.W.keepIn K (.ref f22) = true)
    (a23 : PySem.W.nsIn K mainGlobals "_law_record" = some (some (.ref f23))) (l23 : K.lookup f23 = some ⟨oc23, od23, .func (PySem.W.fnOf "_law_record" "_law_record" (defArgs s_law_record) (defBody s_law_record) (defScope s_law_record) .none kV23 dc23 pm23 an23 cd23 ct23), sl23⟩) (c23 : PySem.W.codeIn K cd23 "_law_record" = true) (k23 : PySem.W.keepIn K (.ref f23) = true)
    (a24 : PySem.W.nsIn K mainGlobals "_law_other" = some (some (.ref f24))) (l24 : K.lookup f24 = some ⟨oc24, od24, .func (PySem.W.fnOf "_law_other" "_law_other" (defArgs s_law_other) (defBody s_law_other) (defScope s_law_other) .none kV24 dc24 pm24 an24 cd24 ct24), sl24⟩) (c24 : PySem.W.codeIn K cd24 "_law_other" = true) (k24 : PySem.W.keepIn K (.ref f24) = true)
    (a25 : PySem.W.nsIn K mainGlobals "law" = some (some (.ref f25))) (l25 : K.lookup f25 = some ⟨oc25, od25, .func (PySem.W.fnOf "law" "law" (defArgs s_law) (defBody s_law) (defScope s_law) .none kV25 dc25 pm25 an25 cd25 ct25), sl25⟩) (c25 : PySem.W.codeIn K cd25 "law" = true) (k25 : PySem.W.keepIn K (.ref f25) = true)
    (aC_Record : PySem.W.nsIn K mainGlobals "Record" = some (some (.ref C_Record)))
    (pg_Record : PySem.W.plainGet K C_Record Str.empty = true)
    (hd_Record : PySem.W.hasDictIn K C_Record = true)
    (po_Record : PySem.W.plainOver K C_Record = true)
    (sa_Record : PySem.W.findIn K (.ref C_Record) "__setattr__" = some (some (.builtin "object.__setattr__")))
    (n_Record_name : PySem.W.findIn K (.ref C_Record) "name" = some none)
    (n_Record_vector : PySem.W.findIn K (.ref C_Record) "vector" = some none)
    (n_Record_fields : PySem.W.findIn K (.ref C_Record) "fields" = some none)
    (n_Record_words : PySem.W.findIn K (.ref C_Record) "words" = some none)
    (mk_Record : PySem.W.makesIn K C_Record = true)
    (in_Record : PySem.W.findIn K (.ref C_Record) "__init__" = some (some (.ref f9)))
    (if_Record : PySem.W.isFn K (.ref f9) = true)
    (kc_Record : PySem.W.keepIn K (.ref C_Record) = true)
    (fm_Record___eq__ : PySem.W.findIn K (.ref C_Record) "__eq__" = some (some (.ref f10)))
    (im_Record___eq__ : PySem.W.isFn K (.ref f10) = true)
    (ha_Record : PySem.W.findIn K (.ref C_Record) "__class__" = some (some (.builtin "object.__class__")))
    (hm_Record : PySem.W.mroIn K C_Record (.type "object") = some true)
    (ns0_Record : PySem.W.subIn K (.ref C_Record) (.type "NoneType") = some false)
    (aC_Note : PySem.W.nsIn K mainGlobals "Note" = some (some (.ref C_Note)))
    (pg_Note : PySem.W.plainGet K C_Note Str.empty = true)
    (hd_Note : PySem.W.hasDictIn K C_Note = true)
    (po_Note : PySem.W.plainOver K C_Note = true)
    (sa_Note : PySem.W.findIn K (.ref C_Note) "__setattr__" = some (some (.builtin "object.__setattr__")))
    (n_Note_name : PySem.W.findIn K (.ref C_Note) "name" = some none)
    (n_Note_number : PySem.W.findIn K (.ref C_Note) "number" = some none)
    (n_Note_mark : PySem.W.findIn K (.ref C_Note) "mark" = some none)
    (n_Note_died : PySem.W.findIn K (.ref C_Note) "died" = some none)
    (n_Note_record : PySem.W.findIn K (.ref C_Note) "record" = some none)
    (n_Note_segment : PySem.W.findIn K (.ref C_Note) "segment" = some none)
    (n_Note_leaves : PySem.W.findIn K (.ref C_Note) "leaves" = some none)
    (mk_Note : PySem.W.makesIn K C_Note = true)
    (in_Note : PySem.W.findIn K (.ref C_Note) "__init__" = some (some (.ref f11)))
    (if_Note : PySem.W.isFn K (.ref f11) = true)
    (kc_Note : PySem.W.keepIn K (.ref C_Note) = true)
    (fm_Note___eq__ : PySem.W.findIn K (.ref C_Note) "__eq__" = some (some (.ref f14)))
    (im_Note___eq__ : PySem.W.isFn K (.ref f14) = true)
    (fm_Note_lives_at : PySem.W.findIn K (.ref C_Note) "lives_at" = some (some (.ref f12)))
    (im_Note_lives_at : PySem.W.isFn K (.ref f12) = true)
    (fm_Note_matches : PySem.W.findIn K (.ref C_Note) "matches" = some (some (.ref f13)))
    (im_Note_matches : PySem.W.isFn K (.ref f13) = true)
    (ha_Note : PySem.W.findIn K (.ref C_Note) "__class__" = some (some (.builtin "object.__class__")))
    (hm_Note : PySem.W.mroIn K C_Note (.type "object") = some true)
    (ne_Note : PySem.W.findIn K (.ref C_Note) "__ne__" = some (some (.builtin "object.__ne__")))
    (aC_Schema : PySem.W.nsIn K mainGlobals "Schema" = some (some (.ref C_Schema)))
    (pg_Schema : PySem.W.plainGet K C_Schema Str.empty = true)
    (hd_Schema : PySem.W.hasDictIn K C_Schema = true)
    (po_Schema : PySem.W.plainOver K C_Schema = true)
    (sa_Schema : PySem.W.findIn K (.ref C_Schema) "__setattr__" = some (some (.builtin "object.__setattr__")))
    (n_Schema_size : PySem.W.findIn K (.ref C_Schema) "size" = some none)
    (n_Schema_width : PySem.W.findIn K (.ref C_Schema) "width" = some none)
    (n_Schema_measure : PySem.W.findIn K (.ref C_Schema) "measure" = some none)
    (n_Schema_fields : PySem.W.findIn K (.ref C_Schema) "fields" = some none)
    (mk_Schema : PySem.W.makesIn K C_Schema = true)
    (in_Schema : PySem.W.findIn K (.ref C_Schema) "__init__" = some (some (.ref f20)))
    (if_Schema : PySem.W.isFn K (.ref f20) = true)
    (kc_Schema : PySem.W.keepIn K (.ref C_Schema) = true)
    {C_InvalidSchema : Addr}
    (aX_InvalidSchema : PySem.W.nsIn K mainGlobals "InvalidSchema" = some (some (.ref C_InvalidSchema)))
    (kx_InvalidSchema : PySem.W.keepIn K (.ref C_InvalidSchema) = true)
    (ex_InvalidSchema : PySem.W.excIn K C_InvalidSchema [.type "ValueError", .type "Exception", .type "BaseException", .type "object"] "ValueError.__new__" = true)
    (bx_InvalidSchema : PySem.W.subIn K (.ref C_InvalidSchema) (.type "BaseException") = some true)
    (tx_InvalidSchema : PySem.W.typeIn K (.ref C_InvalidSchema) = some (.type "type"))
    (ix_InvalidSchema : PySem.W.isClsIn K C_InvalidSchema = true)
    (ic_Record : PySem.W.isClsIn K C_Record = true)
    (ty_Record : PySem.W.typeIn K (.ref C_Record) = some (.type "type"))
    (ic_Note : PySem.W.isClsIn K C_Note = true)
    (ty_Note : PySem.W.typeIn K (.ref C_Note) = some (.type "type"))
    (sb_NoneType_Record : PySem.W.subIn K (.type "NoneType") (.ref C_Record) = some false)
    (sb_int_Note : PySem.W.subIn K (.type "int") (.ref C_Note) = some false)
    (nf_Record_NoneType : PySem.W.subIn K (.type "NoneType") (.ref C_Record) = some false)
    (nf_Note_int : PySem.W.subIn K (.type "int") (.ref C_Note) = some false)
    (hn0 : PySem.W.specialIn K (.builtin "object.__class__") "__get__" = some (some (.builtin "getset_descriptor.__get__")))
    (ht0 : PySem.W.takesIn K (.builtin "object.__class__") = some true)
    {A_KINDS : Addr} {to_KINDS : Option Addr} {ti_KINDS : Array Value} {tn_KINDS : Nat} {ts_KINDS : Array (Option Value)} (z_KINDS : PySem.W.nsIn K mainGlobals "KINDS" = some (some (.ref A_KINDS))) (zl_KINDS : K.lookup A_KINDS = some ⟨.type "tuple", to_KINDS, .seq ti_KINDS tn_KINDS, ts_KINDS⟩) (zv_KINDS : Vals [.str "integer", .str "text", .str "flag"] ti_KINDS.toList) (zn_KINDS : ti_KINDS.size ≤ sizeLine)
    {A_MEASURES : Addr} {to_MEASURES : Option Addr} {ti_MEASURES : Array Value} {tn_MEASURES : Nat} {ts_MEASURES : Array (Option Value)} (z_MEASURES : PySem.W.nsIn K mainGlobals "MEASURES" = some (some (.ref A_MEASURES))) (zl_MEASURES : K.lookup A_MEASURES = some ⟨.type "tuple", to_MEASURES, .seq ti_MEASURES tn_MEASURES, ts_MEASURES⟩) (zv_MEASURES : Vals [.str "square", .str "dot", .str "bits"] ti_MEASURES.toList) (zn_MEASURES : ti_MEASURES.size ≤ sizeLine)
    {tk_MODULUS : Tok} (z_MODULUS : PySem.W.nsIn K mainGlobals "MODULUS" = some (some (.int 4294967291 tk_MODULUS)))
    {A_RESERVED : Addr} {to_RESERVED : Option Addr} {ti_RESERVED : Array Value} {tn_RESERVED : Nat} {ts_RESERVED : Array (Option Value)} (z_RESERVED : PySem.W.nsIn K mainGlobals "RESERVED" = some (some (.ref A_RESERVED))) (zl_RESERVED : K.lookup A_RESERVED = some ⟨.type "tuple", to_RESERVED, .seq ti_RESERVED tn_RESERVED, ts_RESERVED⟩) (zv_RESERVED : Vals [.str "every", .str "has", .str "in", .str "and", .str "or", .str "not", .str "true", .str "false"] ti_RESERVED.toList) (zn_RESERVED : ti_RESERVED.size ≤ sizeLine)
    {A_WIDTHS : Addr} {de_WIDTHS : Array DictEntry} {dn_WIDTHS : Nat} (z_WIDTHS : PySem.W.nsIn K mainGlobals "WIDTHS" = some (some (.ref A_WIDTHS))) (zl_WIDTHS : K.lookup A_WIDTHS = some ⟨.type "dict", none, .dict de_WIDTHS dn_WIDTHS, #[]⟩) (zk_WIDTHS : PySem.W.KeysLit w.params de_WIDTHS.toList) (zs_WIDTHS : (A_WIDTHS == sysModules) = false)
    {A_WIDTHS_bit : Addr} {to_WIDTHS_bit : Option Addr} {ti_WIDTHS_bit : Array Value} {tn_WIDTHS_bit : Nat} {ts_WIDTHS_bit : Array (Option Value)} (z_WIDTHS_bit : PySem.W.nsIn K A_WIDTHS "bit" = some (some (.ref A_WIDTHS_bit))) (zl_WIDTHS_bit : K.lookup A_WIDTHS_bit = some ⟨.type "tuple", to_WIDTHS_bit, .seq ti_WIDTHS_bit tn_WIDTHS_bit, ts_WIDTHS_bit⟩) (zv_WIDTHS_bit : Vals [.int (0), .int (1)] ti_WIDTHS_bit.toList) (zn_WIDTHS_bit : ti_WIDTHS_bit.size ≤ sizeLine)
    {A_WIDTHS_small : Addr} {to_WIDTHS_small : Option Addr} {ti_WIDTHS_small : Array Value} {tn_WIDTHS_small : Nat} {ts_WIDTHS_small : Array (Option Value)} (z_WIDTHS_small : PySem.W.nsIn K A_WIDTHS "small" = some (some (.ref A_WIDTHS_small))) (zl_WIDTHS_small : K.lookup A_WIDTHS_small = some ⟨.type "tuple", to_WIDTHS_small, .seq ti_WIDTHS_small tn_WIDTHS_small, ts_WIDTHS_small⟩) (zv_WIDTHS_small : Vals [.int (-128), .int (127)] ti_WIDTHS_small.toList) (zn_WIDTHS_small : ti_WIDTHS_small.size ≤ sizeLine)
    {A_WIDTHS_wide : Addr} {to_WIDTHS_wide : Option Addr} {ti_WIDTHS_wide : Array Value} {tn_WIDTHS_wide : Nat} {ts_WIDTHS_wide : Array (Option Value)} (z_WIDTHS_wide : PySem.W.nsIn K A_WIDTHS "wide" = some (some (.ref A_WIDTHS_wide))) (zl_WIDTHS_wide : K.lookup A_WIDTHS_wide = some ⟨.type "tuple", to_WIDTHS_wide, .seq ti_WIDTHS_wide tn_WIDTHS_wide, ts_WIDTHS_wide⟩) (zv_WIDTHS_wide : Vals [.int (-32768), .int (32767)] ti_WIDTHS_wide.toList) (zn_WIDTHS_wide : ti_WIDTHS_wide.size ≤ sizeLine)
    (z_all : PySem.W.nsIn K mainGlobals "all" = some none)
    (z_bool : PySem.W.nsIn K mainGlobals "bool" = some none)
    (z_int : PySem.W.nsIn K mainGlobals "int" = some none)
    (z_isinstance : PySem.W.nsIn K mainGlobals "isinstance" = some none)
    (z_len : PySem.W.nsIn K mainGlobals "len" = some none)
    (z_list : PySem.W.nsIn K mainGlobals "list" = some none)
    (z_ord : PySem.W.nsIn K mainGlobals "ord" = some none)
    (z_range : PySem.W.nsIn K mainGlobals "range" = some none)
    (z_set : PySem.W.nsIn K mainGlobals "set" = some none)
    (z_tuple : PySem.W.nsIn K mainGlobals "tuple" = some none)
    : ∃ fd : FuncData, (∀ (s : Shared) (v : Value), BindsTo s fd ⟨[v], []⟩ [("script", v)]) ∧ ∀ base : Heap, K.In base → base.Ns mainGlobals mg → FnOk l.prog w K mg base CX0 7 fa fd ["script"] (sp_law K) := by
  have e := hfa.symm.trans (PySem.W.mg_of X G a25)
  cases e
  have F0 := fun_mk (st := s_law_row) l0 c0 k0
  have b0 := F0.binds (ps := ["script", "k"]) fun _ _ _ _ _ _ us hl => match us, hl with | [_, _], _ => rfl
  have F1 := fun_mk (st := s_law_next) l1 c1 k1
  have b1 := F1.binds (ps := ["state", "many"]) fun _ _ _ _ _ _ us hl => match us, hl with | [_, _], _ => rfl
  have F2 := fun_mk (st := s_kind_of_value) l2 c2 k2
  have b2 := F2.binds (ps := ["worth"]) fun _ _ _ _ _ _ us hl => match us, hl with | [_], _ => rfl
  have F3 := fun_mk (st := s_string_part) l3 c3 k3
  have b3 := F3.binds (ps := ["text"]) fun _ _ _ _ _ _ us hl => match us, hl with | [_], _ => rfl
  have F4 := fun_mk (st := s_value_part) l4 c4 k4
  have b4 := F4.binds (ps := ["worth"]) fun _ _ _ _ _ _ us hl => match us, hl with | [_], _ => rfl
  have F5 := fun_mk (st := s_row_of) l5 c5 k5
  have b5 := F5.binds (ps := ["number", "record"]) fun _ _ _ _ _ _ us hl => match us, hl with | [_, _], _ => rfl
  have F6 := fun_mk (st := s_remainder_of) l6 c6 k6
  have b6 := F6.binds (ps := ["row", "factor"]) fun _ _ _ _ _ _ us hl => match us, hl with | [_, _], _ => rfl
  have F7 := fun_mk (st := s_mark_of) l7 c7 k7
  have b7 := F7.binds (ps := ["key", "number", "record"]) fun _ _ _ _ _ _ us hl => match us, hl with | [_, _, _], _ => rfl
  have F8 := fun_mk (st := s_same_fields) l8 c8 k8
  have b8 := F8.binds (ps := ["ones", "others"]) fun _ _ _ _ _ _ us hl => match us, hl with | [_, _], _ => rfl
  have F9 : FunD K "__init__" "Record.__init__" (defArgs s_Record___init__) (defBody s_Record___init__) (defScope s_Record___init__) [] [("fields", .ref E9_fields), ("words", .ref E9_words)] f9 _ := ⟨⟨_, _, _, _, _, _, _, _, _, _, rfl, l9, c9, .inl ⟨rfl, rfl⟩, .inr ⟨DK9, rfl, fun q hq => by
    simp only [List.mem_cons, List.not_mem_nil, or_false] at hq
    rcases hq with rfl | rfl
    · exact ⟨_, n9_fields, rfl⟩
    · exact ⟨_, n9_words, rfl⟩⟩⟩, k9⟩
  obtain ⟨mv9, kb9⟩ := F9.kbinds0 (ps := ["self", "name", "vector", "fields", "words"]) 3 ["fields", "words"] [] (fun us mv ws => us ++ ws) (by intro h; cases h) (fun q h => by cases h) (fun r1 _ r3 => r1.append r3) (fun D doc pm an cdv ct us mv ws l1 l2 l3 => match us, mv, ws, l1, l2, l3 with | [_, _, _], [], [_, _], _, _, _ => rfl)
  obtain ⟨ds9, v9, b9⟩ := F9.binds0 (ps := ["self", "name", "vector", "fields", "words"]) 3 (by intro h; cases h) rfl (fun D doc pm an cdv ct us ks l1 l2 => match us, ks, l1, l2 with | [_, _, _], [_, _], _, _ => ⟨_, _, _, _, _, _, rfl, rfl, ⟨_, _, _, _, _, _, rfl, rfl, rfl⟩⟩)
  have F10 := fun_mk (st := s_Record___eq__) l10 c10 k10
  have b10 := F10.binds (ps := ["self", "other"]) fun _ _ _ _ _ _ us hl => match us, hl with | [_, _], _ => rfl
  have F11 : FunD K "__init__" "Note.__init__" (defArgs s_Note___init__) (defBody s_Note___init__) (defScope s_Note___init__) [] [("died", .non), ("record", .non), ("segment", .non), ("leaves", .ref E11_leaves)] f11 _ := ⟨⟨_, _, _, _, _, _, _, _, _, _, rfl, l11, c11, .inl ⟨rfl, rfl⟩, .inr ⟨DK11, rfl, fun q hq => by
    simp only [List.mem_cons, List.not_mem_nil, or_false] at hq
    rcases hq with rfl | rfl | rfl | rfl
    · exact ⟨_, n11_died, rfl⟩
    · exact ⟨_, n11_record, rfl⟩
    · exact ⟨_, n11_segment, rfl⟩
    · exact ⟨_, n11_leaves, rfl⟩⟩⟩, k11⟩
  obtain ⟨mv11, kb11⟩ := F11.kbinds0 (ps := ["self", "name", "number", "mark", "died", "record", "segment", "leaves"]) 4 ["died", "record", "segment", "leaves"] [] (fun us mv ws => us ++ ws) (by intro h; cases h) (fun q h => by cases h) (fun r1 _ r3 => r1.append r3) (fun D doc pm an cdv ct us mv ws l1 l2 l3 => match us, mv, ws, l1, l2, l3 with | [_, _, _, _], [], [_, _, _, _], _, _, _ => rfl)
  obtain ⟨mv_Note___init___k0, kb_Note___init___k0⟩ := F11.kbinds0 (ps := ["self", "name", "number", "mark", "died", "record", "segment", "leaves"]) 4 ["died", "segment", "leaves"] [("record", .non)] (fun us mv ws => us ++ ((ws.drop 0).take 1 ++ ((mv.drop 0).take 1 ++ ((ws.drop 1).take 1 ++ ((ws.drop 2).take 1))))) (by intro h; cases h) (fun q h => by
    simp only [List.mem_cons, List.not_mem_nil, or_false] at h ⊢
    subst h; simp) (fun r1 r2 r3 => r1.append (((r3.drop 0).take 1).append (((r2.drop 0).take 1).append (((r3.drop 1).take 1).append ((r3.drop 2).take 1))))) (fun D doc pm an cdv ct us mv ws l1 l2 l3 => match us, mv, ws, l1, l2, l3 with | [_, _, _, _], [_], [_, _, _], _, _, _ => ⟨_, _, _, _, _, _, rfl, rfl, rfl⟩)
  obtain ⟨mv_Note___init___k1, kb_Note___init___k1⟩ := F11.kbinds0 (ps := ["self", "name", "number", "mark", "died", "record", "segment", "leaves"]) 4 ["died", "record"] [("segment", .non), ("leaves", .ref E11_leaves)] (fun us mv ws => us ++ ((ws.drop 0).take 1 ++ ((ws.drop 1).take 1 ++ ((mv.drop 0).take 1 ++ ((mv.drop 1).take 1))))) (by intro h; cases h) (fun q h => by
    simp only [List.mem_cons, List.not_mem_nil, or_false] at h ⊢
    rcases h with rfl | rfl <;> simp) (fun r1 r2 r3 => r1.append (((r3.drop 0).take 1).append (((r3.drop 1).take 1).append (((r2.drop 0).take 1).append ((r2.drop 1).take 1))))) (fun D doc pm an cdv ct us mv ws l1 l2 l3 => match us, mv, ws, l1, l2, l3 with | [_, _, _, _], [_, _], [_, _], _, _, _ => ⟨_, _, _, _, _, _, rfl, rfl, ⟨_, _, _, _, _, _, rfl, rfl, rfl⟩⟩)
  obtain ⟨ds11, v11, b11⟩ := F11.binds0 (ps := ["self", "name", "number", "mark", "died", "record", "segment", "leaves"]) 4 (by intro h; cases h) rfl (fun D doc pm an cdv ct us ks l1 l2 => match us, ks, l1, l2 with | [_, _, _, _], [_, _, _, _], _, _ => ⟨_, _, _, _, _, _, rfl, rfl, ⟨_, _, _, _, _, _, rfl, rfl, ⟨_, _, _, _, _, _, rfl, rfl, ⟨_, _, _, _, _, _, rfl, rfl, rfl⟩⟩⟩⟩)
  have F12 := fun_mk (st := s_Note_lives_at) l12 c12 k12
  have b12 := F12.binds (ps := ["self", "moment"]) fun _ _ _ _ _ _ us hl => match us, hl with | [_, _], _ => rfl
  have F13 := fun_mk (st := s_Note_matches) l13 c13 k13
  have b13 := F13.binds (ps := ["self", "key", "number", "record"]) fun _ _ _ _ _ _ us hl => match us, hl with | [_, _, _, _], _ => rfl
  have F14 := fun_mk (st := s_Note___eq__) l14 c14 k14
  have b14 := F14.binds (ps := ["self", "other"]) fun _ _ _ _ _ _ us hl => match us, hl with | [_, _], _ => rfl
  have F15 := fun_mk (st := s_is_letter) l15 c15 k15
  have b15 := F15.binds (ps := ["char"]) fun _ _ _ _ _ _ us hl => match us, hl with | [_], _ => rfl
  have F16 := fun_mk (st := s_is_digit) l16 c16 k16
  have b16 := F16.binds (ps := ["char"]) fun _ _ _ _ _ _ us hl => match us, hl with | [_], _ => rfl
  have F17 := fun_mk (st := s_is_word) l17 c17 k17
  have b17 := F17.binds (ps := ["text"]) fun _ _ _ _ _ _ us hl => match us, hl with | [_], _ => rfl
  have F18 := fun_mk (st := s_check_vectors) l18 c18 k18
  have b18 := F18.binds (ps := ["size", "width", "measure"]) fun _ _ _ _ _ _ us hl => match us, hl with | [_, _, _], _ => rfl
  have F19 := fun_mk (st := s_check_fields) l19 c19 k19
  have b19 := F19.binds (ps := ["fields"]) fun _ _ _ _ _ _ us hl => match us, hl with | [_], _ => rfl
  have F20 : FunD K "__init__" "Schema.__init__" (defArgs s_Schema___init__) (defBody s_Schema___init__) (defScope s_Schema___init__) [] [("width", .str "small"), ("measure", .str "square"), ("fields", .ref E20_fields)] f20 _ := ⟨⟨_, _, _, _, _, _, _, _, _, _, rfl, l20, c20, .inl ⟨rfl, rfl⟩, .inr ⟨DK20, rfl, fun q hq => by
    simp only [List.mem_cons, List.not_mem_nil, or_false] at hq
    rcases hq with rfl | rfl | rfl
    · exact ⟨_, n20_width, ⟨_, rfl⟩⟩
    · exact ⟨_, n20_measure, ⟨_, rfl⟩⟩
    · exact ⟨_, n20_fields, rfl⟩⟩⟩, k20⟩
  obtain ⟨mv20, kb20⟩ := F20.kbinds0 (ps := ["self", "size", "width", "measure", "fields"]) 2 ["width", "measure", "fields"] [] (fun us mv ws => us ++ ws) (by intro h; cases h) (fun q h => by cases h) (fun r1 _ r3 => r1.append r3) (fun D doc pm an cdv ct us mv ws l1 l2 l3 => match us, mv, ws, l1, l2, l3 with | [_, _], [], [_, _, _], _, _, _ => rfl)
  obtain ⟨ds20, v20, b20⟩ := F20.binds0 (ps := ["self", "size", "width", "measure", "fields"]) 2 (by intro h; cases h) rfl (fun D doc pm an cdv ct us ks l1 l2 => match us, ks, l1, l2 with | [_, _], [_, _, _], _, _ => ⟨_, _, _, _, _, _, rfl, rfl, ⟨_, _, _, _, _, _, rfl, rfl, ⟨_, _, _, _, _, _, rfl, rfl, rfl⟩⟩⟩)
  have F21 := fun_mk (st := s_law_schema) l21 c21 k21
  have b21 := F21.binds (ps := ["state"]) fun _ _ _ _ _ _ us hl => match us, hl with | [_], _ => rfl
  have F22 := fun_mk (st := s_law_vector) l22 c22 k22
  have b22 := F22.binds (ps := ["state", "schema"]) fun _ _ _ _ _ _ us hl => match us, hl with | [_, _], _ => rfl
  have F23 := fun_mk (st := s_law_record) l23 c23 k23
  have b23 := F23.binds (ps := ["state", "schema", "name"]) fun _ _ _ _ _ _ us hl => match us, hl with | [_, _, _], _ => rfl
  have F24 := fun_mk (st := s_law_other) l24 c24 k24
  have b24 := F24.binds (ps := ["state", "schema", "record"]) fun _ _ _ _ _ _ us hl => match us, hl with | [_, _, _], _ => rfl
  have F25 := fun_mk (st := s_law) l25 c25 k25
  have b25 := F25.binds (ps := ["script"]) fun _ _ _ _ _ _ us hl => match us, hl with | [_], _ => rfl
  let T : Txt w K mg := ⟨_, _, F0, b0, PySem.W.mg_of X G a0,
    _, _, F1, b1, PySem.W.mg_of X G a1,
    _, _, F2, b2, PySem.W.mg_of X G a2,
    _, _, F3, b3, PySem.W.mg_of X G a3,
    _, _, F4, b4, PySem.W.mg_of X G a4,
    _, _, F5, b5, PySem.W.mg_of X G a5,
    _, _, F6, b6, PySem.W.mg_of X G a6,
    _, _, F7, b7, PySem.W.mg_of X G a7,
    _, _, F8, b8, PySem.W.mg_of X G a8,
    _, _, _, fun H => .inr ⟨_, _, _, t9_fields, rfl, rfl, by decide, .nil⟩, _, fun H => .inr ⟨_, _, _, t9_words, rfl, rfl, by decide, .nil⟩, F9, kb9, _, v9, b9,
    _, _, F10, b10,
    _, _, _, fun H => .inr ⟨_, _, _, t11_leaves, rfl, rfl, by decide, .nil⟩, F11, kb11, _, kb_Note___init___k0, _, kb_Note___init___k1, _, v11, b11,
    _, _, F12, b12,
    _, _, F13, b13,
    _, _, F14, b14,
    _, _, F15, b15, PySem.W.mg_of X G a15,
    _, _, F16, b16, PySem.W.mg_of X G a16,
    _, _, F17, b17, PySem.W.mg_of X G a17,
    _, _, F18, b18, PySem.W.mg_of X G a18,
    _, _, F19, b19, PySem.W.mg_of X G a19,
    _, _, _, fun H => .inr ⟨_, _, _, t20_fields, rfl, rfl, by decide, .nil⟩, F20, kb20, _, v20, b20,
    _, _, F21, b21, PySem.W.mg_of X G a21,
    _, _, F22, b22, PySem.W.mg_of X G a22,
    _, _, F23, b23, PySem.W.mg_of X G a23,
    _, _, F24, b24, PySem.W.mg_of X G a24,
    _, _, F25, b25, PySem.W.mg_of X G a25,
    _, PySem.W.mg_of X G aX_InvalidSchema, kx_InvalidSchema, ex_InvalidSchema, bx_InvalidSchema, tx_InvalidSchema,
    _, ⟨pg_Record, hd_Record, po_Record, sa_Record⟩, PySem.W.mg_of X G aC_Record, n_Record_name, n_Record_vector, n_Record_fields, n_Record_words, ⟨mk_Record, in_Record, if_Record, kc_Record⟩, ⟨fm_Record___eq__, im_Record___eq__, k10⟩, ha_Record, hm_Record, ns0_Record,
    _, ⟨pg_Note, hd_Note, po_Note, sa_Note⟩, PySem.W.mg_of X G aC_Note, n_Note_name, n_Note_number, n_Note_mark, n_Note_died, n_Note_record, n_Note_segment, n_Note_leaves, ⟨mk_Note, in_Note, if_Note, kc_Note⟩, ⟨fm_Note___eq__, im_Note___eq__, k14⟩, ⟨fm_Note_lives_at, im_Note_lives_at, k12⟩, ⟨fm_Note_matches, im_Note_matches, k13⟩, ha_Note, hm_Note, ne_Note,
    _, ⟨pg_Schema, hd_Schema, po_Schema, sa_Schema⟩, PySem.W.mg_of X G aC_Schema, n_Schema_size, n_Schema_width, n_Schema_measure, n_Schema_fields, ⟨mk_Schema, in_Schema, if_Schema, kc_Schema⟩,
    kit_sub ic_Record ty_Record sb_NoneType_Record (by rfl),
    kit_self,
    kit_self,
    kit_sub ic_Note ty_Note sb_int_Note (by rfl),
    nf_sub nf_Record_NoneType,
    nf_sub nf_Note_int,
    hn0,
    ht0,
    _, PySem.W.mg_of X G z_KINDS, fun H => .inr ⟨_, _, _, zl_KINDS, rfl, rfl, zn_KINDS, zv_KINDS⟩,
    _, PySem.W.mg_of X G z_MEASURES, fun H => .inr ⟨_, _, _, zl_MEASURES, rfl, rfl, zn_MEASURES, zv_MEASURES⟩,
    ⟨_, PySem.W.mg_of X G z_MODULUS⟩,
    _, PySem.W.mg_of X G z_RESERVED, fun H => .inr ⟨_, _, _, zl_RESERVED, rfl, rfl, zn_RESERVED, zv_RESERVED⟩,
    _, PySem.W.mg_of X G z_WIDTHS, _, _, ⟨zl_WIDTHS, zk_WIDTHS, zs_WIDTHS⟩, _, z_WIDTHS_bit, fun H => .inr ⟨_, _, _, zl_WIDTHS_bit, rfl, rfl, zn_WIDTHS_bit, zv_WIDTHS_bit⟩, _, z_WIDTHS_small, fun H => .inr ⟨_, _, _, zl_WIDTHS_small, rfl, rfl, zn_WIDTHS_small, zv_WIDTHS_small⟩, _, z_WIDTHS_wide, fun H => .inr ⟨_, _, _, zl_WIDTHS_wide, rfl, rfl, zn_WIDTHS_wide, zv_WIDTHS_wide⟩,
    PySem.W.mg_none_of X G z_all,
    PySem.W.mg_none_of X G z_bool,
    PySem.W.mg_none_of X G z_int,
    PySem.W.mg_none_of X G z_isinstance,
    PySem.W.mg_none_of X G z_len,
    PySem.W.mg_none_of X G z_list,
    PySem.W.mg_none_of X G z_ord,
    PySem.W.mg_none_of X G z_range,
    PySem.W.mg_none_of X G z_set,
    PySem.W.mg_none_of X G z_tuple⟩
  exact ⟨_, fun s v => .of_eq rfl, fun base _ _ => ok_law T⟩
end K59
open PySem PySem.W PyProof.Rows
set_option maxRecDepth 100000 in
set_option maxHeartbeats 0 in
theorem PySem.Challenge.cw_surenear_k59_notes_know_their_records_holds : PySem.Challenge.rw_surenear_k59_notes_know_their_records.Holds := by
  w_on; o_law; k_head; (case hw => w_witness2)
  k_fill
  refine L2.walk_of (l := PySem.Challenge.rw_surenear_k59_notes_know_their_records) (n := 63) (k := 7) (x := "script") (CX := fun _ => L2.CX0) (sp := fun w => K59.sp_law _) rfl (by decide) rfl ⟨rfl, by decide, by decide⟩ (fun w h Y => PySem.W.kIn_of Y) ?F (fun _ _ a ns hl _ hS => ⟨a, ns, rfl, hS, hl, fun _ => rfl⟩) (fun _ _ _ _ _ h => h)
  case F =>
    intro w mg fa h KX G hmg
    refine' K59.all_mk KX G hmg (a0 := ?a0) (l0 := ?l0) (c0 := ?c0) (k0 := ?k0) (a1 := ?a1) (l1 := ?l1) (c1 := ?c1) (k1 := ?k1) (a2 := ?a2) (l2 := ?l2) (c2 := ?c2) (k2 := ?k2) (a3 := ?a3) (l3 := ?l3) (c3 := ?c3) (k3 := ?k3) (a4 := ?a4) (l4 := ?l4) (c4 := ?c4) (k4 := ?k4) (a5 := ?a5) (l5 := ?l5) (c5 := ?c5) (k5 := ?k5) (a6 := ?a6) (l6 := ?l6) (c6 := ?c6) (k6 := ?k6) (a7 := ?a7) (l7 := ?l7) (c7 := ?c7) (k7 := ?k7) (a8 := ?a8) (l8 := ?l8) (c8 := ?c8) (k8 := ?k8) (a15 := ?a15) (l15 := ?l15) (c15 := ?c15) (k15 := ?k15) (a16 := ?a16) (l16 := ?l16) (c16 := ?c16) (k16 := ?k16) (a17 := ?a17) (l17 := ?l17) (c17 := ?c17) (k17 := ?k17) (a18 := ?a18) (l18 := ?l18) (c18 := ?c18) (k18 := ?k18) (a19 := ?a19) (l19 := ?l19) (c19 := ?c19) (k19 := ?k19) (a21 := ?a21) (l21 := ?l21) (c21 := ?c21) (k21 := ?k21) (a22 := ?a22) (l22 := ?l22) (c22 := ?c22) (k22 := ?k22) (a23 := ?a23) (l23 := ?l23) (c23 := ?c23) (k23 := ?k23) (a24 := ?a24) (l24 := ?l24) (c24 := ?c24) (k24 := ?k24) (a25 := ?a25) (l25 := ?l25) (c25 := ?c25) (k25 := ?k25) (aC_Record := ?aC_Record) (pg_Record := ?pg_Record) (hd_Record := ?hd_Record) (po_Record := ?po_Record) (sa_Record := ?sa_Record) (n_Record_name := ?n_Record_name) (n_Record_vector := ?n_Record_vector) (n_Record_fields := ?n_Record_fields) (n_Record_words := ?n_Record_words) (mk_Record := ?mk_Record) (in_Record := ?in_Record) (if_Record := ?if_Record) (kc_Record := ?kc_Record) (fm_Record___eq__ := ?fm_Record___eq__) (im_Record___eq__ := ?im_Record___eq__) (ha_Record := ?ha_Record) (hm_Record := ?hm_Record) (ns0_Record := ?ns0_Record) (aC_Note := ?aC_Note) (pg_Note := ?pg_Note) (hd_Note := ?hd_Note) (po_Note := ?po_Note) (sa_Note := ?sa_Note) (n_Note_name := ?n_Note_name) (n_Note_number := ?n_Note_number) (n_Note_mark := ?n_Note_mark) (n_Note_died := ?n_Note_died) (n_Note_record := ?n_Note_record) (n_Note_segment := ?n_Note_segment) (n_Note_leaves := ?n_Note_leaves) (mk_Note := ?mk_Note) (in_Note := ?in_Note) (if_Note := ?if_Note) (kc_Note := ?kc_Note) (fm_Note___eq__ := ?fm_Note___eq__) (im_Note___eq__ := ?im_Note___eq__) (fm_Note_lives_at := ?fm_Note_lives_at) (im_Note_lives_at := ?im_Note_lives_at) (fm_Note_matches := ?fm_Note_matches) (im_Note_matches := ?im_Note_matches) (ha_Note := ?ha_Note) (hm_Note := ?hm_Note) (ne_Note := ?ne_Note) (aC_Schema := ?aC_Schema) (pg_Schema := ?pg_Schema) (hd_Schema := ?hd_Schema) (po_Schema := ?po_Schema) (sa_Schema := ?sa_Schema) (n_Schema_size := ?n_Schema_size) (n_Schema_width := ?n_Schema_width) (n_Schema_measure := ?n_Schema_measure) (n_Schema_fields := ?n_Schema_fields) (mk_Schema := ?mk_Schema) (in_Schema := ?in_Schema) (if_Schema := ?if_Schema) (kc_Schema := ?kc_Schema) (aX_InvalidSchema := ?aX_InvalidSchema) (kx_InvalidSchema := ?kx_InvalidSchema) (bx_InvalidSchema := ?bx_InvalidSchema) (tx_InvalidSchema := ?tx_InvalidSchema) (ix_InvalidSchema := ?ix_InvalidSchema) (ic_Record := ?ic_Record) (ty_Record := ?ty_Record) (ic_Note := ?ic_Note) (ty_Note := ?ty_Note) (sb_NoneType_Record := ?sb_NoneType_Record) (sb_int_Note := ?sb_int_Note) (nf_Record_NoneType := ?nf_Record_NoneType) (nf_Note_int := ?nf_Note_int) (hn0 := ?hn0) (ht0 := ?ht0) (l9 := ?l9) (n9_fields := ?n9_fields) (t9_fields := ?t9_fields) (n9_words := ?n9_words) (t9_words := ?t9_words) (c9 := ?c9) (k9 := ?k9) (l10 := ?l10) (c10 := ?c10) (k10 := ?k10) (l11 := ?l11) (n11_died := ?n11_died) (n11_record := ?n11_record) (n11_segment := ?n11_segment) (n11_leaves := ?n11_leaves) (t11_leaves := ?t11_leaves) (c11 := ?c11) (k11 := ?k11) (l12 := ?l12) (c12 := ?c12) (k12 := ?k12) (l13 := ?l13) (c13 := ?c13) (k13 := ?k13) (l14 := ?l14) (c14 := ?c14) (k14 := ?k14) (l20 := ?l20) (n20_width := ?n20_width) (n20_measure := ?n20_measure) (n20_fields := ?n20_fields) (t20_fields := ?t20_fields) (c20 := ?c20) (k20 := ?k20) (z_KINDS := ?z_KINDS) (zl_KINDS := ?zl_KINDS) (z_MEASURES := ?z_MEASURES) (zl_MEASURES := ?zl_MEASURES) (z_MODULUS := ?z_MODULUS) (z_RESERVED := ?z_RESERVED) (zl_RESERVED := ?zl_RESERVED) (z_WIDTHS := ?z_WIDTHS) (zl_WIDTHS := ?zl_WIDTHS) (z_WIDTHS_bit := ?z_WIDTHS_bit) (zl_WIDTHS_bit := ?zl_WIDTHS_bit) (z_WIDTHS_small := ?z_WIDTHS_small) (zl_WIDTHS_small := ?zl_WIDTHS_small) (z_WIDTHS_wide := ?z_WIDTHS_wide) (zl_WIDTHS_wide := ?zl_WIDTHS_wide) (z_all := ?z_all) (z_bool := ?z_bool) (z_int := ?z_int) (z_isinstance := ?z_isinstance) (z_len := ?z_len) (z_list := ?z_list) (z_ord := ?z_ord) (z_range := ?z_range) (z_set := ?z_set) (z_tuple := ?z_tuple) (ex_InvalidSchema := ?ex_InvalidSchema) (zv_KINDS := ?zv_KINDS) (zn_KINDS := ?zn_KINDS) (zv_MEASURES := ?zv_MEASURES) (zn_MEASURES := ?zn_MEASURES) (zv_RESERVED := ?zv_RESERVED) (zn_RESERVED := ?zn_RESERVED) (zk_WIDTHS := ?zk_WIDTHS) (zs_WIDTHS := ?zs_WIDTHS) (zv_WIDTHS_bit := ?zv_WIDTHS_bit) (zn_WIDTHS_bit := ?zn_WIDTHS_bit) (zv_WIDTHS_small := ?zv_WIDTHS_small) (zn_WIDTHS_small := ?zn_WIDTHS_small) (zv_WIDTHS_wide := ?zv_WIDTHS_wide) (zn_WIDTHS_wide := ?zn_WIDTHS_wide)
    (case a0 => k_is); (case l0 => k_is); (case c0 => k_is); (case k0 => k_is); (case a1 => k_is); (case l1 => k_is); (case c1 => k_is); (case k1 => k_is); (case a2 => k_is); (case l2 => k_is); (case c2 => k_is); (case k2 => k_is); (case a3 => k_is); (case l3 => k_is); (case c3 => k_is); (case k3 => k_is); (case a4 => k_is); (case l4 => k_is); (case c4 => k_is); (case k4 => k_is); (case a5 => k_is); (case l5 => k_is); (case c5 => k_is); (case k5 => k_is); (case a6 => k_is); (case l6 => k_is); (case c6 => k_is); (case k6 => k_is); (case a7 => k_is); (case l7 => k_is); (case c7 => k_is); (case k7 => k_is); (case a8 => k_is); (case l8 => k_is); (case c8 => k_is); (case k8 => k_is); (case a15 => k_is); (case l15 => k_is); (case c15 => k_is); (case k15 => k_is); (case a16 => k_is); (case l16 => k_is); (case c16 => k_is); (case k16 => k_is); (case a17 => k_is); (case l17 => k_is); (case c17 => k_is); (case k17 => k_is); (case a18 => k_is); (case l18 => k_is); (case c18 => k_is); (case k18 => k_is); (case a19 => k_is); (case l19 => k_is); (case c19 => k_is); (case k19 => k_is); (case a21 => k_is); (case l21 => k_is); (case c21 => k_is); (case k21 => k_is); (case a22 => k_is); (case l22 => k_is); (case c22 => k_is); (case k22 => k_is); (case a23 => k_is); (case l23 => k_is); (case c23 => k_is); (case k23 => k_is); (case a24 => k_is); (case l24 => k_is); (case c24 => k_is); (case k24 => k_is); (case a25 => k_is); (case l25 => k_is); (case c25 => k_is); (case k25 => k_is); (case aC_Record => k_is); (case pg_Record => k_is); (case hd_Record => k_is); (case po_Record => k_is); (case sa_Record => k_is); (case n_Record_name => k_is); (case n_Record_vector => k_is); (case n_Record_fields => k_is); (case n_Record_words => k_is); (case mk_Record => k_is); (case in_Record => k_is); (case if_Record => k_is); (case kc_Record => k_is); (case fm_Record___eq__ => k_is); (case im_Record___eq__ => k_is); (case ha_Record => k_is); (case hm_Record => k_is); (case ns0_Record => k_is); (case aC_Note => k_is); (case pg_Note => k_is); (case hd_Note => k_is); (case po_Note => k_is); (case sa_Note => k_is); (case n_Note_name => k_is); (case n_Note_number => k_is); (case n_Note_mark => k_is); (case n_Note_died => k_is); (case n_Note_record => k_is); (case n_Note_segment => k_is); (case n_Note_leaves => k_is); (case mk_Note => k_is); (case in_Note => k_is); (case if_Note => k_is); (case kc_Note => k_is); (case fm_Note___eq__ => k_is); (case im_Note___eq__ => k_is); (case fm_Note_lives_at => k_is); (case im_Note_lives_at => k_is); (case fm_Note_matches => k_is); (case im_Note_matches => k_is); (case ha_Note => k_is); (case hm_Note => k_is); (case ne_Note => k_is); (case aC_Schema => k_is); (case pg_Schema => k_is); (case hd_Schema => k_is); (case po_Schema => k_is); (case sa_Schema => k_is); (case n_Schema_size => k_is); (case n_Schema_width => k_is); (case n_Schema_measure => k_is); (case n_Schema_fields => k_is); (case mk_Schema => k_is); (case in_Schema => k_is); (case if_Schema => k_is); (case kc_Schema => k_is); (case aX_InvalidSchema => k_is); (case kx_InvalidSchema => k_is); (case bx_InvalidSchema => k_is); (case tx_InvalidSchema => k_is); (case ix_InvalidSchema => k_is); (case ic_Record => k_is); (case ty_Record => k_is); (case ic_Note => k_is); (case ty_Note => k_is); (case sb_NoneType_Record => k_is); (case sb_int_Note => k_is); (case nf_Record_NoneType => k_is); (case nf_Note_int => k_is); (case hn0 => k_is); (case ht0 => k_is); (case l9 => k_is); (case n9_fields => k_is); (case t9_fields => k_is); (case n9_words => k_is); (case t9_words => k_is); (case c9 => k_is); (case k9 => k_is); (case l10 => k_is); (case c10 => k_is); (case k10 => k_is); (case l11 => k_is); (case n11_died => k_is); (case n11_record => k_is); (case n11_segment => k_is); (case n11_leaves => k_is); (case t11_leaves => k_is); (case c11 => k_is); (case k11 => k_is); (case l12 => k_is); (case c12 => k_is); (case k12 => k_is); (case l13 => k_is); (case c13 => k_is); (case k13 => k_is); (case l14 => k_is); (case c14 => k_is); (case k14 => k_is); (case l20 => k_is); (case n20_width => k_is); (case n20_measure => k_is); (case n20_fields => k_is); (case t20_fields => k_is); (case c20 => k_is); (case k20 => k_is); (case z_KINDS => k_is); (case zl_KINDS => k_is); (case z_MEASURES => k_is); (case zl_MEASURES => k_is); (case z_MODULUS => k_is); (case z_RESERVED => k_is); (case zl_RESERVED => k_is); (case z_WIDTHS => k_is); (case zl_WIDTHS => k_is); (case z_WIDTHS_bit => k_is); (case zl_WIDTHS_bit => k_is); (case z_WIDTHS_small => k_is); (case zl_WIDTHS_small => k_is); (case z_WIDTHS_wide => k_is); (case zl_WIDTHS_wide => k_is); (case z_all => k_is); (case z_bool => k_is); (case z_int => k_is); (case z_isinstance => k_is); (case z_len => k_is); (case z_list => k_is); (case z_ord => k_is); (case z_range => k_is); (case z_set => k_is); (case z_tuple => k_is)
    (case zv_KINDS => exact .cons ⟨_, rfl⟩ (.cons ⟨_, rfl⟩ (.cons ⟨_, rfl⟩ .nil))); (case zn_KINDS => decide); (case zv_MEASURES => exact .cons ⟨_, rfl⟩ (.cons ⟨_, rfl⟩ (.cons ⟨_, rfl⟩ .nil))); (case zn_MEASURES => decide); (case zv_RESERVED => exact .cons ⟨_, rfl⟩ (.cons ⟨_, rfl⟩ (.cons ⟨_, rfl⟩ (.cons ⟨_, rfl⟩ (.cons ⟨_, rfl⟩ (.cons ⟨_, rfl⟩ (.cons ⟨_, rfl⟩ (.cons ⟨_, rfl⟩ .nil)))))))); (case zn_RESERVED => decide); (case zk_WIDTHS => exact ⟨⟨_, _, rfl, rfl⟩, ⟨⟨_, _, rfl, rfl⟩, ⟨⟨_, _, rfl, rfl⟩, trivial⟩⟩⟩); (case zs_WIDTHS => first | rfl | decide); (case zv_WIDTHS_bit => exact .cons ⟨_, rfl⟩ (.cons ⟨_, rfl⟩ .nil)); (case zn_WIDTHS_bit => decide); (case zv_WIDTHS_small => exact .cons ⟨_, rfl⟩ (.cons ⟨_, rfl⟩ .nil)); (case zn_WIDTHS_small => decide); (case zv_WIDTHS_wide => exact .cons ⟨_, rfl⟩ (.cons ⟨_, rfl⟩ .nil)); (case zn_WIDTHS_wide => decide)
    (case ex_InvalidSchema => k_exc)
