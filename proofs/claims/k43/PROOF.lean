import PyProof.Rows.All
import Wide.All
import OpenK.AllK
import Wide.FinOn
import HandS.ForMost
import HandS.Codes
import HandS.Wide
import HandS.IsInst
import HandS.Walk
import HandS.Zip
import HandS.MakeKwOnly
import HandS.ForExc
import HandS.TryMany
import HandS.Strs
import HandS.More
import HandS.Property
import HandS.SetFor
import HandS.Conv
import HandS.Text
import HandS.TupAny
import HandS.Style
import KE.KEqSeq
import KE.LtData
import KE.OsRunLaw
import KE.GoesEnum
import HandS.OwnEq
import PyProof.NeKinds
import HandS.Small
import HandS.FStr
import PySem.Challenge.RW_surenear_k43_pieces_and_names_of_files
set_option Elab.async false
set_option linter.all false
set_option maxRecDepth 100000
namespace TP
open PySem PySem.Spec PyProof.Rows L2
/-! ### heaps: Z is the part that never changes, H is all -/
def SameX (S : List Addr) (H H' : Hp) : Prop := ∀ a o, a ∉ S → H a = some o → H' a = some o
theorem SameX.refl {S : List Addr} {H : Hp} : SameX S H H := fun _ _ _ h => h
theorem SameX.trans {S : List Addr} {H H1 H2 : Hp} (f : SameX S H H1) (g : SameX S H1 H2) : SameX S H H2 := fun a o n h => g a o n (f a o n h)
structure Step (S : List Addr) (Z H Z' H' : Hp) : Prop where
  z : Same Z Z'
  s : Same Z' H'
  h : SameX S H H'
  n : ∀ a, H a ≠ none → Z a = none → Z' a = none
  al : ∀ a, H a ≠ none → H' a ≠ none
theorem Step.refl {S : List Addr} {Z H : Hp} (s : Same Z H) : Step S Z H Z H := ⟨Same.refl _, s, SameX.refl, fun _ _ h => h, fun _ h => h⟩
theorem Step.mine {S F : List Addr} {Z H Z1 H1 Z2 H2 : Hp} (f : Step S Z H Z1 H1) (g : Step F Z1 H1 Z2 H2) (m : ∀ a ∈ F, a ∈ S ∨ H a = none) : Step S Z H Z2 H2 :=
  ⟨f.z.trans g.z, g.s, fun a o na h => g.h a o (fun q => by rcases m a q with x | x; exact na x; rw [x] at h; cases h) (f.h a o na h), fun a h z => g.n a (f.al a h) (f.n a h z), fun a h => g.al a (f.al a h)⟩
theorem Step.trans {S : List Addr} {Z H Z1 H1 Z2 H2 : Hp} (f : Step S Z H Z1 H1) (g : Step S Z1 H1 Z2 H2) : Step S Z H Z2 H2 := f.mine g fun _ h => .inl h
theorem Step.weak {S F : List Addr} {Z H Z1 H1 : Hp} (g : Step F Z H Z1 H1) (m : ∀ a ∈ F, a ∈ S ∨ H a = none) : Step S Z H Z1 H1 :=
  ⟨g.z, g.s, fun a o na h => g.h a o (fun q => by rcases m a q with x | x; exact na x; rw [x] at h; cases h) h, g.n, g.al⟩
theorem Step.pure {S : List Addr} {Z H Z1 H1 : Hp} (g : Step [] Z H Z1 H1) : Step S Z H Z1 H1 := g.weak fun _ h => by cases h
theorem ne_of_some {H : Hp} {a p : Addr} (h : H a ≠ none) (hp : H p = none) : a ≠ p := fun e => h (e ▸ hp)
theorem some_ne {H : Hp} {a : Addr} {o : HO} (h : H a = some o) : H a ≠ none := by rw [h]; exact fun z => nomatch z
theorem same_none {Z H : Hp} (s : Same Z H) {p : Addr} (h : H p = none) : Z p = none := s.free h
theorem same_upd {H : Hp} {p : Addr} {o : HO} (h : H p = none) : Same H (upd H p o) := fun a u e => by
  rw [upd_ne (ne_of_some (some_ne e) h)]; exact e
theorem same_upd2 {Z H : Hp} {p : Addr} {o : HO} (s : Same Z H) : Same (upd Z p o) (upd H p o) := fun a u e => by
  by_cases q : a = p
  · subst q; rw [upd_same] at e ⊢; exact e
  · rw [upd_ne q] at e ⊢; exact s a u e
/-- something new that never changes -/
theorem Step.new {Z H : Hp} {p : Addr} {o : HO} (s : Same Z H) (hp : H p = none) : Step [] Z H (upd Z p o) (upd H p o) :=
  ⟨same_upd (same_none s hp), same_upd2 s, fun a u _ e => same_upd hp a u e, fun a h z => by rw [upd_ne (ne_of_some h hp)]; exact z, fun a h => by rw [upd_ne (ne_of_some h hp)]; exact h⟩
/-- something new of one's own -/
theorem Step.own {Z H : Hp} {p : Addr} {o : HO} (s : Same Z H) (hp : H p = none) : Step [] Z H Z (upd H p o) :=
  ⟨Same.refl _, s.trans (same_upd hp), fun a u _ e => same_upd hp a u e, fun _ _ z => z, fun a h => by rw [upd_ne (ne_of_some h hp)]; exact h⟩
/-- one's own is changed -/
theorem Step.set {Z H : Hp} {p : Addr} {o : HO} (s : Same Z H) (hz : Z p = none) : Step [p] Z H Z (upd H p o) := by
  refine ⟨Same.refl _, fun a u e => ?_, fun a u n e => ?_, fun _ _ z => z, fun a h => ?_⟩
  · rw [upd_ne (ne_of_some (some_ne e) hz)]; exact s a u e
  · rw [upd_ne (fun q => n (by rw [q]; exact List.mem_cons_self))]; exact e
  · by_cases q : a = p
    · subst q; rw [upd_same]; exact fun z => nomatch z
    · rw [upd_ne q]; exact h

/-! ### kinds of values -/
structure Ty (α : Type) where
  r : Hp → V → α → Prop
  mono : ∀ {Z Z' : Hp} {v : V} {x : α}, Same Z Z' → r Z v x → r Z' v x
def yInt : Ty Int := ⟨fun _ v x => v = .int x, fun _ h => h⟩
def yBool : Ty Bool := ⟨fun _ v x => v = .bl x, fun _ h => h⟩
def okS (x : Str) : Bool := PyData.strOk x && decide (x.length ≤ sizeLine)
def yStr : Ty Str := ⟨fun _ v x => v = .str x ∧ okS x = true, fun _ h => h⟩
def yNon : Ty Unit := ⟨fun _ v _ => v = .non, fun _ h => h⟩
def yOpt {α : Type} (τ : Ty α) : Ty (Option α) := ⟨fun Z v x => match x with | none => v = .non | some y => τ.r Z v y ∧ v ≠ .non, fun {_ _ _ x} s h => match x, h with | none, h => h | some _, h => ⟨τ.mono s h.1, h.2⟩⟩
/-- place by place -/
inductive All {α : Type} (R : V → α → Prop) : List V → List α → Prop
  | nil : All R [] []
  | cons {v : V} {vs : List V} {x : α} {xs : List α} : R v x → All R vs xs → All R (v :: vs) (x :: xs)
section
variable {α β : Type} {R R' : V → α → Prop}
theorem All.imp (f : ∀ v x, R v x → R' v x) : ∀ {vs : List V} {xs : List α}, All R vs xs → All R' vs xs
  | _, _, .nil => .nil
  | _, _, .cons h t => .cons (f _ _ h) (t.imp f)
theorem All.len : ∀ {vs : List V} {xs : List α}, All R vs xs → vs.length = xs.length
  | _, _, .nil => rfl
  | _, _, .cons _ t => congrArg Nat.succ t.len
theorem All.app : ∀ {vs ws : List V} {xs ys : List α}, All R vs xs → All R ws ys → All R (vs ++ ws) (xs ++ ys)
  | _, _, _, _, .nil, h => h
  | _, _, _, _, .cons h t, g => .cons h (t.app g)
theorem All.snoc {vs : List V} {xs : List α} {v : V} {x : α} (h : All R vs xs) (g : R v x) : All R (vs ++ [v]) (xs ++ [x]) := h.app (.cons g .nil)
theorem All.get : ∀ {vs : List V} {xs : List α} {i : Nat} {v : V}, All R vs xs → vs[i]? = some v → ∃ x, xs[i]? = some x ∧ R v x
  | _, _, _, _, .nil, h => by simp at h
  | _, _, 0, _, .cons h _, e => ⟨_, rfl, by have := Option.some.inj e; rw [← this]; exact h⟩
  | _, _, i + 1, _, .cons _ t, e => t.get (i := i) e
theorem All.at : ∀ {vs : List V} {xs : List α} {i : Nat} {x : α}, All R vs xs → xs[i]? = some x → ∃ v, vs[i]? = some v ∧ R v x
  | _, _, _, _, .nil, h => by simp at h
  | _, _, 0, _, .cons h _, e => ⟨_, rfl, by have := Option.some.inj e; rw [← this]; exact h⟩
  | _, _, i + 1, _, .cons _ t, e => t.at (i := i) e
theorem All.take : ∀ {vs : List V} {xs : List α} (n : Nat), All R vs xs → All R (vs.take n) (xs.take n)
  | _, _, 0, _ => .nil
  | _, _, _ + 1, .nil => .nil
  | _, _, n + 1, .cons h t => .cons h (t.take n)
theorem All.drop : ∀ {vs : List V} {xs : List α} (n : Nat), All R vs xs → All R (vs.drop n) (xs.drop n)
  | _, _, 0, h => h
  | _, _, _ + 1, .nil => .nil
  | _, _, n + 1, .cons _ t => t.drop n
theorem All.set {v : V} {x : α} (g : R v x) : ∀ {vs : List V} {xs : List α} (n : Nat), All R vs xs → All R (vs.set n v) (xs.set n x)
  | _, _, _, .nil => .nil
  | _, _, 0, .cons _ t => .cons g t
  | _, _, n + 1, .cons h t => .cons h (t.set g n)
theorem All.ints : ∀ {vs : List V} {xs : List Int}, All (fun v x => v = .int x) vs xs → vs = xs.map V.int
  | _, _, .nil => rfl
  | _, _, .cons h t => by rw [h, t.ints]; rfl
theorem All.map {f : α → V} (e : ∀ v x, R v x → v = f x) : ∀ {vs : List V} {xs : List α}, All R vs xs → vs = xs.map f
  | _, _, .nil => rfl
  | _, _, .cons h t => by rw [e _ _ h, t.map e]; rfl
theorem All.bls : ∀ {vs : List V} {xs : List Bool}, All (fun v x => v = .bl x) vs xs → vs = xs.map V.bl
  | _, _, .nil => rfl
  | _, _, .cons h t => by rw [h, t.bls]; rfl
theorem All.ofInts : ∀ xs : List Int, All (fun v x => v = .int x) (xs.map V.int) xs
  | [] => .nil
  | _ :: r => .cons rfl (All.ofInts r)
theorem All.atI {vs : List V} {xs : List α} {i : Int} {x : α} (h : All R vs xs) (e : L2.atI xs i = some x) : ∃ v, L2.atI vs i = some v ∧ R v x := by
  unfold L2.atI at e ⊢
  rw [h.len]
  cases q : ixN xs.length i with
  | none => rw [q] at e; cases e
  | some j =>
    rw [q] at e
    exact h.at (i := j) e
end
/-- a list that never changes -/
def yList {α : Type} (τ : Ty α) : Ty (List α) := ⟨fun Z v xs => ∃ a vs, v = .ref a ∧ Z a = some (.lst vs) ∧ All (τ.r Z) vs xs ∧ xs.length ≤ sizeLine,
  fun s ⟨a, vs, e, h, t, l⟩ => ⟨a, vs, e, s _ _ h, t.imp fun _ _ => τ.mono s, l⟩⟩
theorem seqT_same {K : PySem.W.Frag} {H H' : Hp} {q : Addr} {xs : List V} (f : Same H H') (h : SqT K H q xs) : SqT K H' q xs := by
  rcases h with (h | ⟨o, h⟩) | h
  · exact .inl (.inl (f _ _ h))
  · exact .inl (.inr ⟨o, f _ _ h⟩)
  · exact .inr h
section
variable (K : PySem.W.Frag)
def yTup {α : Type} (τ : Ty α) : Ty (List α) := ⟨fun Z v xs => ∃ a vs, v = .ref a ∧ SqT K Z a vs ∧ All (τ.r Z) vs xs ∧ xs.length ≤ sizeLine,
  fun s ⟨a, vs, e, h, t, l⟩ => ⟨a, vs, e, seqT_same s h, t.imp fun _ _ => τ.mono s, l⟩⟩
def yP0 : Ty Unit := ⟨fun Z v _ => ∃ a, v = .ref a ∧ SqT K Z a [], fun s ⟨a, e, h⟩ => ⟨a, e, seqT_same s h⟩⟩
def yP1 {α : Type} (τ : Ty α) : Ty α := ⟨fun Z v x => ∃ a v1, v = .ref a ∧ SqT K Z a [v1] ∧ τ.r Z v1 x, fun s ⟨a, v1, e, h, h1⟩ => ⟨a, v1, e, seqT_same s h, τ.mono s h1⟩⟩
def yP2 {α β : Type} (τ : Ty α) (υ : Ty β) : Ty (α × β) := ⟨fun Z v x => ∃ a v1 v2, v = .ref a ∧ SqT K Z a [v1, v2] ∧ τ.r Z v1 x.1 ∧ υ.r Z v2 x.2,
  fun s ⟨a, v1, v2, e, h, h1, h2⟩ => ⟨a, v1, v2, e, seqT_same s h, τ.mono s h1, υ.mono s h2⟩⟩
def yP3 {α β γ : Type} (τ : Ty α) (υ : Ty β) (φ : Ty γ) : Ty (α × β × γ) := ⟨fun Z v x => ∃ a v1 v2 v3, v = .ref a ∧ SqT K Z a [v1, v2, v3] ∧ τ.r Z v1 x.1 ∧ υ.r Z v2 x.2.1 ∧ φ.r Z v3 x.2.2,
  fun s ⟨a, v1, v2, v3, e, h, h1, h2, h3⟩ => ⟨a, v1, v2, v3, e, seqT_same s h, τ.mono s h1, υ.mono s h2, φ.mono s h3⟩⟩
def yP4 {α β γ δ : Type} (τ : Ty α) (υ : Ty β) (φ : Ty γ) (ψ : Ty δ) : Ty (α × β × γ × δ) := ⟨fun Z v x => ∃ a v1 v2 v3 v4, v = .ref a ∧ SqT K Z a [v1, v2, v3, v4] ∧ τ.r Z v1 x.1 ∧ υ.r Z v2 x.2.1 ∧ φ.r Z v3 x.2.2.1 ∧ ψ.r Z v4 x.2.2.2,
  fun s ⟨a, v1, v2, v3, v4, e, h, h1, h2, h3, h4⟩ => ⟨a, v1, v2, v3, v4, e, seqT_same s h, τ.mono s h1, υ.mono s h2, φ.mono s h3, ψ.mono s h4⟩⟩
end

/-! ### what changes: s of a kind μ stands at the addresses fp -/
structure Mu (μ : Type) where
  fp : List Addr
  m : μ → Hp → Hp → Prop
  al : ∀ {s : μ} {Z H : Hp}, m s Z H → ∀ a ∈ fp, H a ≠ none ∧ Z a = none
  loc : ∀ {s : μ} {Z H Z' H' : Hp}, Same Z Z' → (∀ a ∈ fp, ∀ o, H a = some o → H' a = some o) → (∀ a ∈ fp, H a ≠ none → Z a = none → Z' a = none) → m s Z H → m s Z' H'
def muN : Mu Unit := ⟨[], fun _ _ _ => True, fun _ _ h => (nomatch h), fun _ _ _ _ => trivial⟩
/-- what was told of more that stands still is told without it -/
def Mu.Back {μ : Type} (M : Mu μ) : Prop := ∀ {s s' : μ} {Z H Z' H' : Hp}, Same Z Z' → M.m s Z H → M.m s' Z' H' → M.m s' Z H'
theorem muN_back : muN.Back := fun _ _ _ => trivial
theorem Mu.pure {μ : Type} (M : Mu μ) {s : μ} {Z H Z' H' : Hp} (g : Step [] Z H Z' H') (h : M.m s Z H) : M.m s Z' H' := M.loc g.z (fun a _ o e => g.h a o (List.not_mem_nil) e) (fun a _ x y => g.n a x y) h
/-- what a value is, of the heaps -/
structure Rr (fp : List Addr) where
  r : Hp → Hp → V → Prop
  st : ∀ {Z H Z' H' : Hp} {v : V}, Step fp Z H Z' H' → r Z H v → r Z' H' v
structure Ra (fp : List Addr) where
  r : Hp → Hp → List V → Prop
  st : ∀ {Z H Z' H' : Hp} {vs : List V}, Step fp Z H Z' H' → r Z H vs → r Z' H' vs
def ty {fp : List Addr} {α : Type} (τ : Ty α) (x : α) : Rr fp := ⟨fun Z _ v => τ.r Z v x, fun g h => τ.mono g.z h⟩
/-- a list that may be read: one that never changes, or one of one's own -/
def RdL (fp : List Addr) (Z H : Hp) (p : Addr) (vs : List V) : Prop := Z p = some (.lst vs) ∨ (H p = some (.lst vs) ∧ p ∉ fp)
theorem RdL.st {fp : List Addr} {Z H Z' H' : Hp} {p : Addr} {vs : List V} (g : Step fp Z H Z' H') (h : RdL fp Z H p vs) : RdL fp Z' H' p vs := h.elim (fun e => .inl (g.z _ _ e)) fun e => .inr ⟨g.h _ _ e.2 e.1, e.2⟩
theorem RdL.get {fp : List Addr} {Z H : Hp} {p : Addr} {vs : List V} (s : Same Z H) (h : RdL fp Z H p vs) : H p = some (.lst vs) := h.elim (fun e => s _ _ e) fun e => e.1
def li {fp : List Addr} {α : Type} (τ : Ty α) (xs : List α) : Rr fp := ⟨fun Z H v => ∃ p vs, v = .ref p ∧ RdL fp Z H p vs ∧ All (τ.r Z) vs xs ∧ xs.length ≤ sizeLine,
  fun g ⟨p, vs, e, h, t, l⟩ => ⟨p, vs, e, h.st g, t.imp fun _ _ => τ.mono g.z, l⟩⟩
/-- an address, whatever stands there -/
def isRef {fp : List Addr} (a : Addr) : Rr fp := ⟨fun _ _ v => v = .ref a, fun _ h => h⟩
def ra0 {fp : List Addr} : Ra fp := ⟨fun _ _ vs => vs = [], fun _ h => h⟩
def rac {fp : List Addr} (R : Rr fp) (Rs : Ra fp) : Ra fp := ⟨fun Z H vs => ∃ v r, vs = v :: r ∧ R.r Z H v ∧ Rs.r Z H r, fun g ⟨v, r, e, h, t⟩ => ⟨v, r, e, R.st g h, Rs.st g t⟩⟩

section
variable {μ : Type}
/-- from the state s the expression gives a value of which R is true, and the state s' -/
def Ev (M : Mu μ) (t : TE) (σ : L2.St) (Z H : Hp) (s : μ) (R : Rr M.fp) (s' : μ) : Prop :=
  ∀ Z1 H1, Same Z Z1 → SameX M.fp H H1 → Same Z1 H1 → M.m s Z1 H1 → ∀ Q : VK, (∀ v Z2 H2, Step M.fp Z1 H1 Z2 H2 → M.m s' Z2 H2 → R.r Z2 H2 v → Q v H2) → t σ H1 Q
def EvT (M : Mu μ) (t : TT) (σ : L2.St) (Z H : Hp) (s : μ) (b : Bool) (s' : μ) : Prop :=
  ∀ Z1 H1, Same Z Z1 → SameX M.fp H H1 → Same Z1 H1 → M.m s Z1 H1 → ∀ Q : Bool → Hp → Prop, (∀ Z2 H2, Step M.fp Z1 H1 Z2 H2 → M.m s' Z2 H2 → Q b H2) → t σ H1 Q
def EvA (M : Mu μ) (t : TA) (σ : L2.St) (Z H : Hp) (s : μ) (Rs : Ra M.fp) (s' : μ) : Prop :=
  ∀ Z1 H1, Same Z Z1 → SameX M.fp H H1 → Same Z1 H1 → M.m s Z1 H1 → ∀ Q : List V → Hp → Prop, (∀ vs Z2 H2, Step M.fp Z1 H1 Z2 H2 → M.m s' Z2 H2 → Rs.r Z2 H2 vs → Q vs H2) → t σ H1 Q
variable {M : Mu μ} {σ : L2.St} {Z H : Hp} {s s' s1 s2 s3 : μ} {ta tb tc te : TE} {t : TA}
theorem Ev.up {t : TE} {R : Rr M.fp} {Z' H' : Hp} (h : Ev M t σ Z H s R s') (z : Same Z Z') (x : SameX M.fp H H') : Ev M t σ Z' H' s R s' := fun Z1 H1 a b => h Z1 H1 (z.trans a) (x.trans b)
theorem Ev.weak {t : TE} {R R' : Rr M.fp} (h : Ev M t σ Z H s R s') (f : ∀ Z H v, Same Z H → R.r Z H v → R'.r Z H v) : Ev M t σ Z H s R' s' := fun Z1 H1 a b c d Q q => h Z1 H1 a b c d Q fun v Z2 H2 e m r => q v Z2 H2 e m (f _ _ _ e.s r)
/-- nothing is done -/
theorem ev_of {t : TE} {R : Rr M.fp} (h : ∀ Z1 H1, Same Z Z1 → SameX M.fp H H1 → Same Z1 H1 → ∀ Q : VK, (∀ v, R.r Z1 H1 v → Q v H1) → t σ H1 Q) : Ev M t σ Z H s R s := fun Z1 H1 a b c d Q q => h Z1 H1 a b c Q fun v r => q v Z1 H1 (Step.refl c) d r
/-- one after the other, by values -/
theorem ev_op {R1 R3 R : Rr M.fp} {r : R2} (ha : Ev M ta σ Z H s R1 s1) (hb : Ev M tb σ Z H s1 R3 s2) (h : ∀ Z H v w, Same Z H → R1.r Z H v → R3.r Z H w → ∀ Q : VK, (∀ u Z2 H2, Step [] Z H Z2 H2 → R.r Z2 H2 u → Q u H2) → r v w H Q) : Ev M (tOp r ta tb) σ Z H s R s2 :=
  fun Z1 H1 a b c d Q q => ha Z1 H1 a b c d _ fun v Z2 H2 e m rv => hb Z2 H2 (a.trans e.z) (b.trans e.h) e.s m _ fun w Z3 H3 e2 m2 rw => h Z3 H3 v w e2.s (R1.st e2 rv) rw _ fun u Z4 H4 e3 ru => q u Z4 H4 ((e.trans e2).trans e3.pure) (M.pure e3 m2) ru
theorem ev_un {R1 R : Rr M.fp} {r : V → Hp → VK → Prop} (ha : Ev M ta σ Z H s R1 s1) (h : ∀ Z H v, Same Z H → R1.r Z H v → ∀ Q : VK, (∀ u Z2 H2, Step [] Z H Z2 H2 → R.r Z2 H2 u → Q u H2) → r v H Q) : Ev M (fun σ H Q => ta σ H fun x H1 => r x H1 Q) σ Z H s R s1 :=
  fun Z1 H1 a b c d Q q => ha Z1 H1 a b c d _ fun v Z2 H2 e m rv => h Z2 H2 v e.s rv _ fun u Z4 H4 e3 ru => q u Z4 H4 (e.trans e3.pure) (M.pure e3 m) ru
theorem eva_nil : EvA M tNil σ Z H s ra0 s := fun Z1 H1 _ _ c d Q q => q [] Z1 H1 (Step.refl c) d rfl
theorem eva_cons {R : Rr M.fp} {Rs : Ra M.fp} (ha : Ev M ta σ Z H s R s1) (hr : EvA M t σ Z H s1 Rs s2) : EvA M (tCons ta t) σ Z H s (rac R Rs) s2 :=
  fun Z1 H1 a b c d Q q => ha Z1 H1 a b c d _ fun v Z2 H2 e m rv => hr Z2 H2 (a.trans e.z) (b.trans e.h) e.s m _ fun vs Z3 H3 e2 m2 rs => q _ Z3 H3 (e.trans e2) m2 ⟨v, vs, rfl, R.st e2 rv, rs⟩
/-- by all arguments -/
theorem ev_cb {Rs : Ra M.fp} {R : Rr M.fp} {r : List V → Hp → VK → Prop} (ha : EvA M t σ Z H s Rs s1) (h : ∀ Z H vs, Same Z H → Rs.r Z H vs → ∀ Q : VK, (∀ u Z2 H2, Step [] Z H Z2 H2 → R.r Z2 H2 u → Q u H2) → r vs H Q) : Ev M (tCB r t) σ Z H s R s1 :=
  fun Z1 H1 a b c d Q q => ha Z1 H1 a b c d _ fun vs Z2 H2 e m rv => h Z2 H2 vs e.s rv _ fun u Z4 H4 e3 ru => q u Z4 H4 (e.trans e3.pure) (M.pure e3 m) ru
/-! names and constants -/
theorem ev_var {i : Nat} {v : V} {α : Type} {τ : Ty α} {x : α} (e : σ[i]? = some (some v)) (h : τ.r Z v x) : Ev M (tVar i) σ Z H s (ty τ x) s := ev_of fun _ _ a _ _ _ q => ⟨v, e, q v (τ.mono a h)⟩
/-- a list of one's own -/
theorem ev_own {i : Nat} {p : Addr} {vs : List V} {α : Type} {τ : Ty α} {xs : List α} (e : σ[i]? = some (some (.ref p))) (h : H p = some (.lst vs)) (n : p ∉ M.fp) (t : All (τ.r Z) vs xs) (l : xs.length ≤ sizeLine) : Ev M (tVar i) σ Z H s (li τ xs) s :=
  ev_of fun _ _ a b _ _ q => ⟨.ref p, e, q _ ⟨p, vs, rfl, .inr ⟨b _ _ n h, n⟩, t.imp fun _ _ => τ.mono a, l⟩⟩
theorem ev_ref {i : Nat} {p : Addr} (e : σ[i]? = some (some (.ref p))) : Ev M (tVar i) σ Z H s (isRef p) s := ev_of fun _ _ _ _ _ _ q => ⟨_, e, q _ rfl⟩
theorem ev_int {i : Int} : Ev M (tC (.int i)) σ Z H s (ty yInt i) s := ev_of fun _ _ _ _ _ _ q => q _ rfl
theorem ev_bl {i : Bool} : Ev M (tC (.bl i)) σ Z H s (ty yBool i) s := ev_of fun _ _ _ _ _ _ q => q _ rfl
theorem ev_str {i : Str} (h : okS i = true := by decide +kernel) : Ev M (tC (.str i)) σ Z H s (ty yStr i) s := ev_of fun _ _ _ _ _ _ q => q _ ⟨rfl, h⟩
theorem ev_non : Ev M (tC .non) σ Z H s (ty yNon ()) s := ev_of fun _ _ _ _ _ _ q => q _ rfl
theorem ev_const {v : V} {α : Type} {τ : Ty α} {x : α} (h : ∀ Z, τ.r Z v x) : Ev M (tC v) σ Z H s (ty τ x) s := ev_of fun _ _ _ _ _ _ q => q _ (h _)
theorem ev_li {α : Type} {τ : Ty α} {xs : List α} (h : Ev M ta σ Z H s (ty (yList τ) xs) s') : Ev M ta σ Z H s (li τ xs) s' := h.weak fun _ _ _ _ ⟨a, vs, e, g, t, l⟩ => ⟨a, vs, e, .inl g, t, l⟩
theorem ev_none {α : Type} {τ : Ty α} (h : Ev M ta σ Z H s (ty yNon ()) s') : Ev M ta σ Z H s (ty (yOpt τ) none) s' := h.weak fun _ _ _ _ e => e
/-- of this kind nothing is None -/
def NonNil {α : Type} (τ : Ty α) : Prop := ∀ Z v x, τ.r Z v x → v ≠ .non
theorem nn_int : NonNil yInt := fun _ _ _ e => by rw [show _ = V.int _ from e]; exact fun z => nomatch z
theorem nn_bool : NonNil yBool := fun _ _ _ e => by rw [show _ = V.bl _ from e]; exact fun z => nomatch z
theorem nn_str : NonNil yStr := fun _ _ _ e => by rw [show _ = V.str _ from e.1]; exact fun z => nomatch z
theorem nn_list {α : Type} {τ : Ty α} : NonNil (yList τ) := fun _ _ _ ⟨_, _, e, _⟩ => by rw [e]; exact fun z => nomatch z
theorem nn_tup {K : PySem.W.Frag} {α : Type} {τ : Ty α} : NonNil (yTup K τ) := fun _ _ _ ⟨_, _, e, _⟩ => by rw [e]; exact fun z => nomatch z
theorem nn_p2 {K : PySem.W.Frag} {α β : Type} {τ : Ty α} {υ : Ty β} : NonNil (yP2 K τ υ) := fun _ _ _ ⟨_, _, _, e, _⟩ => by rw [e]; exact fun z => nomatch z
theorem nn_p3 {K : PySem.W.Frag} {α β γ : Type} {τ : Ty α} {υ : Ty β} {φ : Ty γ} : NonNil (yP3 K τ υ φ) := fun _ _ _ ⟨_, _, _, _, e, _⟩ => by rw [e]; exact fun z => nomatch z
theorem nn_p4 {K : PySem.W.Frag} {α β γ δ : Type} {τ : Ty α} {υ : Ty β} {φ : Ty γ} {ψ : Ty δ} : NonNil (yP4 K τ υ φ ψ) := fun _ _ _ ⟨_, _, _, _, _, e, _⟩ => by rw [e]; exact fun z => nomatch z
theorem ev_some {α : Type} {τ : Ty α} {x : α} (n : NonNil τ) (h : Ev M ta σ Z H s (ty τ x) s') : Ev M ta σ Z H s (ty (yOpt τ) (some x)) s' := h.weak fun _ _ _ _ e => ⟨e, n _ _ _ e⟩
theorem ev_uno {α : Type} {τ : Ty α} {x : α} {o : Option α} (h : Ev M ta σ Z H s (ty (yOpt τ) o) s') (e : o = some x) : Ev M ta σ Z H s (ty τ x) s' := by
  subst e; exact h.weak fun _ _ _ _ e => e.1
theorem ev_cast {α : Type} {τ : Ty α} {x y : α} (h : Ev M ta σ Z H s (ty τ x) s') (e : x = y) : Ev M ta σ Z H s (ty τ y) s' := e ▸ h
/-! numbers -/
section
variable {i j : Int}
theorem ev_I0 {g : Int → Int → V} {R : Rr M.fp} (ha : Ev M ta σ Z H s (ty yInt i) s1) (hb : Ev M tb σ Z H s1 (ty yInt j) s2) (h : ∀ Z H, R.r Z H (g i j)) : Ev M (tOp (rI0 g) ta tb) σ Z H s R s2 :=
  ev_op ha hb fun _ _ _ _ sz e1 e2 _ q => ⟨i, j, e1, e2, q _ _ _ (Step.refl sz) (h _ _)⟩
theorem ev_I1 {C : Int → Int → Prop} {g : Int → Int → V} {R : Rr M.fp} (ha : Ev M ta σ Z H s (ty yInt i) s1) (hb : Ev M tb σ Z H s1 (ty yInt j) s2) (c : C i j) (h : ∀ Z H, R.r Z H (g i j)) : Ev M (tOp (rI C g) ta tb) σ Z H s R s2 :=
  ev_op ha hb fun _ _ _ _ sz e1 e2 _ q => ⟨i, j, e1, e2, c, q _ _ _ (Step.refl sz) (h _ _)⟩
theorem ev_add (ha : Ev M ta σ Z H s (ty yInt i) s1) (hb : Ev M tb σ Z H s1 (ty yInt j) s2) : Ev M (tOp (rI0 fun i j => .int (i + j)) ta tb) σ Z H s (ty yInt (i + j)) s2 := ev_I0 ha hb fun _ _ => rfl
theorem ev_sub (ha : Ev M ta σ Z H s (ty yInt i) s1) (hb : Ev M tb σ Z H s1 (ty yInt j) s2) : Ev M (tOp (rI0 fun i j => .int (i - j)) ta tb) σ Z H s (ty yInt (i - j)) s2 := ev_I0 ha hb fun _ _ => rfl
theorem ev_mul (ha : Ev M ta σ Z H s (ty yInt i) s1) (hb : Ev M tb σ Z H s1 (ty yInt j) s2) (c : CMul i j) : Ev M (tOp (rI CMul fun i j => .int (i * j)) ta tb) σ Z H s (ty yInt (i * j)) s2 := ev_I1 ha hb c fun _ _ => rfl
theorem ev_fdiv (ha : Ev M ta σ Z H s (ty yInt i) s1) (hb : Ev M tb σ Z H s1 (ty yInt j) s2) (c : CDiv i j) : Ev M (tOp (rI CDiv fun i j => .int (i / j)) ta tb) σ Z H s (ty yInt (i / j)) s2 := ev_I1 ha hb c fun _ _ => rfl
theorem ev_mod (ha : Ev M ta σ Z H s (ty yInt i) s1) (hb : Ev M tb σ Z H s1 (ty yInt j) s2) (c : 0 < j) : Ev M (tOp (rI (fun _ j => 0 < j) fun i j => .int (i % j)) ta tb) σ Z H s (ty yInt (i % j)) s2 := ev_I1 (C := fun _ j => 0 < j) ha hb c fun _ _ => rfl
theorem ev_pow (ha : Ev M ta σ Z H s (ty yInt i) s1) (hb : Ev M tb σ Z H s1 (ty yInt j) s2) (c : CPow i j) : Ev M (tOp (rI CPow fun i j => .int (i ^ j.toNat)) ta tb) σ Z H s (ty yInt (i ^ j.toNat)) s2 := ev_I1 ha hb c fun _ _ => rfl
theorem ev_tun {R1 R : Rr M.fp} {r : V → Hp → VK → Prop} (ha : Ev M ta σ Z H s R1 s1) (h : ∀ Z H v, Same Z H → R1.r Z H v → ∀ Q : VK, (∀ u Z2 H2, Step [] Z H Z2 H2 → R.r Z2 H2 u → Q u H2) → r v H Q) : Ev M (tUn r ta) σ Z H s R s1 :=
  fun Z1 H1 a b c d Q q => ha Z1 H1 a b c d _ fun v Z2 H2 e m rv => h Z2 H2 v e.s rv _ fun u Z4 H4 e3 ru => q u Z4 H4 (e.trans e3.pure) (M.pure e3 m) ru
theorem ev_neg (ha : Ev M ta σ Z H s (ty yInt i) s1) : Ev M (tUn (rU fun i => .int (-i)) ta) σ Z H s (ty yInt (-i)) s1 := ev_tun ha fun _ _ _ sz e _ q => ⟨i, e, q _ _ _ (Step.refl sz) rfl⟩
theorem ev_lt (ha : Ev M ta σ Z H s (ty yInt i) s1) (hb : Ev M tb σ Z H s1 (ty yInt j) s2) : Ev M (tOp (rI0 fun i j => .bl (decide (i < j))) ta tb) σ Z H s (ty yBool (decide (i < j))) s2 := ev_I0 ha hb fun _ _ => rfl
theorem ev_le (ha : Ev M ta σ Z H s (ty yInt i) s1) (hb : Ev M tb σ Z H s1 (ty yInt j) s2) : Ev M (tOp (rI0 fun i j => .bl (decide (i ≤ j))) ta tb) σ Z H s (ty yBool (decide (i ≤ j))) s2 := ev_I0 ha hb fun _ _ => rfl
theorem ev_gt (ha : Ev M ta σ Z H s (ty yInt i) s1) (hb : Ev M tb σ Z H s1 (ty yInt j) s2) : Ev M (tOp (rI0 fun i j => .bl (decide (j < i))) ta tb) σ Z H s (ty yBool (decide (j < i))) s2 := ev_I0 ha hb fun _ _ => rfl
theorem ev_ge (ha : Ev M ta σ Z H s (ty yInt i) s1) (hb : Ev M tb σ Z H s1 (ty yInt j) s2) : Ev M (tOp (rI0 fun i j => .bl (decide (j ≤ i))) ta tb) σ Z H s (ty yBool (decide (j ≤ i))) s2 := ev_I0 ha hb fun _ _ => rfl
end
/-! equality of flat things -/
/-- flat: the value is told by the thing alone -/
structure Flat {α : Type} (τ : Ty α) (f : α → V) : Prop where
  eq : ∀ Z v x, τ.r Z v x → v = f x
  inj : ∀ x y, f x = f y → x = y
  sc : ∀ x y, scal (f x) (f y) = true
theorem flat_int : Flat yInt V.int := ⟨fun _ _ _ h => h, fun _ _ h => V.int.inj h, fun _ _ => rfl⟩
theorem flat_str : Flat yStr V.str := ⟨fun _ _ _ h => h.1, fun _ _ h => V.str.inj h, fun _ _ => rfl⟩
theorem flat_bool : Flat yBool V.bl := ⟨fun _ _ _ h => h, fun _ _ h => V.bl.inj h, fun _ _ => rfl⟩
section
variable {α : Type} {τ : Ty α} {f : α → V} {x y : α}
theorem ev_eq [DecidableEq α] (F : Flat τ f) (ha : Ev M ta σ Z H s (ty τ x) s1) (hb : Ev M tb σ Z H s1 (ty τ y) s2) : Ev M (tOp rEq ta tb) σ Z H s (ty yBool (decide (x = y))) s2 :=
  ev_op ha hb fun Z H v w sz e1 e2 Q q => by
    rw [F.eq _ _ _ e1, F.eq _ _ _ e2]
    have : decide (f x = f y) = decide (x = y) := decide_eq_decide.mpr ⟨F.inj x y, congrArg f⟩
    exact ⟨F.sc _ _, q _ _ _ (Step.refl sz) (congrArg V.bl this)⟩
theorem ev_ne [DecidableEq α] (F : Flat τ f) (ha : Ev M ta σ Z H s (ty τ x) s1) (hb : Ev M tb σ Z H s1 (ty τ y) s2) : Ev M (tOp rNe ta tb) σ Z H s (ty yBool (!decide (x = y))) s2 :=
  ev_op ha hb fun Z H v w sz e1 e2 Q q => by
    rw [F.eq _ _ _ e1, F.eq _ _ _ e2]
    have : decide (f x = f y) = decide (x = y) := decide_eq_decide.mpr ⟨F.inj x y, congrArg f⟩
    exact ⟨F.sc _ _, q _ _ _ (Step.refl sz) (congrArg (fun b => V.bl (!b)) this)⟩
end
theorem ev_isN {α : Type} {τ : Ty α} {o : Option α} (ha : Ev M ta σ Z H s (ty (yOpt τ) o) s1) (hb : Ev M tb σ Z H s1 (ty yNon ()) s2) : Ev M (tOp (fun x y H Q => y = .non ∧ Q (.bl (decide (x = .non))) H) ta tb) σ Z H s (ty yBool o.isNone) s2 :=
  ev_op ha hb fun Z H v w sz e1 e2 Q q => by
    refine ⟨e2, q _ _ _ (Step.refl sz) ?_⟩
    cases o with
    | none => rw [show v = .non from e1]; rfl
    | some y => rw [show decide (v = .non) = false from decide_eq_false e1.2]; rfl
theorem ev_notN {α : Type} {τ : Ty α} {o : Option α} (ha : Ev M ta σ Z H s (ty (yOpt τ) o) s1) (hb : Ev M tb σ Z H s1 (ty yNon ()) s2) : Ev M (tOp (fun x y H Q => y = .non ∧ Q (.bl (!decide (x = .non))) H) ta tb) σ Z H s (ty yBool o.isSome) s2 :=
  ev_op ha hb fun Z H v w sz e1 e2 Q q => by
    refine ⟨e2, q _ _ _ (Step.refl sz) ?_⟩
    cases o with
    | none => rw [show v = .non from e1]; rfl
    | some y => rw [show decide (v = .non) = false from decide_eq_false e1.2]; rfl
/-! and, or, not, if, as values -/
theorem ev_and {a b : Bool} {o : Option (Bool × μ)} (ha : Ev M ta σ Z H s (ty yBool a) s1) (hb : a = true → ∀ y s', o = some (y, s') → Ev M tb σ Z H s1 (ty yBool y) s') (h : (if a = true then o else some (false, s1)) = some (b, s2)) : Ev M (tAndV ta tb) σ Z H s (ty yBool b) s2 :=
  fun Z1 H1 p q r d Q k => ha Z1 H1 p q r d _ fun v Z2 H2 e m rv => ⟨a, rv, by
    cases a with
    | true => rw [if_pos rfl] at h ⊢; exact hb rfl b s2 h Z2 H2 (p.trans e.z) (q.trans e.h) e.s m _ fun w Z3 H3 e2 m2 rw => k w Z3 H3 (e.trans e2) m2 rw
    | false => rw [if_neg Bool.false_ne_true] at h ⊢; cases h; exact k _ Z2 H2 e m rfl⟩
theorem ev_or {a b : Bool} {o : Option (Bool × μ)} (ha : Ev M ta σ Z H s (ty yBool a) s1) (hb : a = false → ∀ y s', o = some (y, s') → Ev M tb σ Z H s1 (ty yBool y) s') (h : (if a = true then some (true, s1) else o) = some (b, s2)) : Ev M (tOrV ta tb) σ Z H s (ty yBool b) s2 :=
  fun Z1 H1 p q r d Q k => ha Z1 H1 p q r d _ fun v Z2 H2 e m rv => ⟨a, rv, by
    cases a with
    | false => rw [if_neg Bool.false_ne_true] at h ⊢; exact hb rfl b s2 h Z2 H2 (p.trans e.z) (q.trans e.h) e.s m _ fun w Z3 H3 e2 m2 rw => k w Z3 H3 (e.trans e2) m2 rw
    | true => rw [if_pos rfl] at h ⊢; cases h; exact k _ Z2 H2 e m rfl⟩
theorem ev_and0 {a b : Bool} (ha : Ev M ta σ Z H s (ty yBool a) s1) (hb : Ev M tb σ Z H s1 (ty yBool b) s1) : Ev M (tAndV ta tb) σ Z H s (ty yBool (a && b)) s1 :=
  ev_and (o := some (b, s1)) ha (fun _ y s' e => by cases e; exact hb) (by cases a <;> rfl)
theorem ev_or0 {a b : Bool} (ha : Ev M ta σ Z H s (ty yBool a) s1) (hb : Ev M tb σ Z H s1 (ty yBool b) s1) : Ev M (tOrV ta tb) σ Z H s (ty yBool (a || b)) s1 :=
  ev_or (o := some (b, s1)) ha (fun _ y s' e => by cases e; exact hb) (by cases a <;> rfl)
theorem ev_not {a : Bool} (ha : Ev M ta σ Z H s (ty yBool a) s1) : Ev M (tNotV ta) σ Z H s (ty yBool (!a)) s1 :=
  fun Z1 H1 p q r d Q k => ha Z1 H1 p q r d _ fun v Z2 H2 e m rv => ⟨a, rv, k _ Z2 H2 e m rfl⟩
theorem ev_if {tt : TT} {a : Bool} {R : Rr M.fp} (ht : EvT M tt σ Z H s a s1) (ha : a = true → Ev M ta σ Z H s1 R s2) (hb : a = false → Ev M tb σ Z H s1 R s2) : Ev M (tIf tt ta tb) σ Z H s R s2 :=
  fun Z1 H1 p q r d Q k => ht Z1 H1 p q r d _ fun Z2 H2 e m => by
    cases a with
    | true => rw [if_pos rfl]; exact ha rfl Z2 H2 (p.trans e.z) (q.trans e.h) e.s m _ fun w Z3 H3 e2 m2 rw => k w Z3 H3 (e.trans e2) m2 rw
    | false => rw [if_neg Bool.false_ne_true]; exact hb rfl Z2 H2 (p.trans e.z) (q.trans e.h) e.s m _ fun w Z3 H3 e2 m2 rw => k w Z3 H3 (e.trans e2) m2 rw
theorem ev_if0 {tt : TT} {a : Bool} {α : Type} {τ : Ty α} {x y : α} (ht : EvT M tt σ Z H s a s1) (ha : Ev M ta σ Z H s1 (ty τ x) s1) (hb : Ev M tb σ Z H s1 (ty τ y) s1) : Ev M (tIf tt ta tb) σ Z H s (ty τ (if a = true then x else y)) s1 :=
  ev_if ht (fun e => by rw [if_pos e]; exact ha) (fun e => by rw [if_neg (by rw [e]; exact Bool.false_ne_true)]; exact hb)
/-! tests -/
theorem et_val {a : Bool} (h : Ev M te σ Z H s (ty yBool a) s1) : EvT M (tB te) σ Z H s a s1 := fun Z1 H1 p q r d _ k => h Z1 H1 p q r d _ fun _ Z2 H2 e m rv => ⟨a, rv, k Z2 H2 e m⟩
theorem et_cmp {a : Bool} (h : Ev M te σ Z H s (ty yBool a) s1) : EvT M (tTest te) σ Z H s a s1 := fun Z1 H1 p q r d _ k => h Z1 H1 p q r d _ fun _ Z2 H2 e m rv => ⟨a, rv, k Z2 H2 e m⟩
section
variable {tA tB' : TT} {a b : Bool}
theorem et_and {o : Option (Bool × μ)} (ha : EvT M tA σ Z H s a s1) (hb : a = true → ∀ y s', o = some (y, s') → EvT M tB' σ Z H s1 y s') (h : (if a = true then o else some (false, s1)) = some (b, s2)) : EvT M (tAnd tA tB') σ Z H s b s2 :=
  fun Z1 H1 p q r d Q k => ha Z1 H1 p q r d _ fun Z2 H2 e m => by
    cases a with
    | true => rw [if_pos rfl] at h ⊢; exact hb rfl b s2 h Z2 H2 (p.trans e.z) (q.trans e.h) e.s m _ fun Z3 H3 e2 m2 => k Z3 H3 (e.trans e2) m2
    | false => rw [if_neg Bool.false_ne_true] at h ⊢; cases h; exact k Z2 H2 e m
theorem et_or {o : Option (Bool × μ)} (ha : EvT M tA σ Z H s a s1) (hb : a = false → ∀ y s', o = some (y, s') → EvT M tB' σ Z H s1 y s') (h : (if a = true then some (true, s1) else o) = some (b, s2)) : EvT M (tOr tA tB') σ Z H s b s2 :=
  fun Z1 H1 p q r d Q k => ha Z1 H1 p q r d _ fun Z2 H2 e m => by
    cases a with
    | false => rw [if_neg Bool.false_ne_true] at h ⊢; exact hb rfl b s2 h Z2 H2 (p.trans e.z) (q.trans e.h) e.s m _ fun Z3 H3 e2 m2 => k Z3 H3 (e.trans e2) m2
    | true => rw [if_pos rfl] at h ⊢; cases h; exact k Z2 H2 e m
theorem et_and0 (ha : EvT M tA σ Z H s a s1) (hb : EvT M tB' σ Z H s1 b s1) : EvT M (tAnd tA tB') σ Z H s (a && b) s1 := et_and (o := some (b, s1)) ha (fun _ y s' e => by cases e; exact hb) (by cases a <;> rfl)
theorem et_or0 (ha : EvT M tA σ Z H s a s1) (hb : EvT M tB' σ Z H s1 b s1) : EvT M (tOr tA tB') σ Z H s (a || b) s1 := et_or (o := some (b, s1)) ha (fun _ y s' e => by cases e; exact hb) (by cases a <;> rfl)
theorem et_not (ha : EvT M tA σ Z H s a s1) : EvT M (tNot tA) σ Z H s (!a) s1 := fun Z1 H1 p q r d _ k => ha Z1 H1 p q r d _ k
end
end
end TP

namespace TP
open PySem PySem.Spec PyProof.Rows L2
instance {i j : Int} : Decidable (CMul i j) := inferInstanceAs (Decidable ((_ ∧ _) ∨ (_ ∧ _)))
instance {i j : Int} : Decidable (CDiv i j) := inferInstanceAs (Decidable (_ ∧ _))
instance {i j : Int} : Decidable (CPow i j) := inferInstanceAs (Decidable (_ ∧ _ ∧ _))
section
variable {μ : Type} {M : Mu μ} {σ : L2.St} {Z H : Hp} {s s' s1 s2 s3 : μ} {ta tb tc te : TE} {t : TA} {K : PySem.W.Frag}
theorem same_x {S : List Addr} {Z H Z1 H1 : Hp} (g : Step S Z H Z1 H1) {p : Addr} (h : H1 p = none) : H p = none := by
  cases q : H p with
  | none => rfl
  | some o => exact absurd h (g.al p (some_ne q))
theorem fresh_fp {fp : List Addr} {Z H : Hp} {p : Addr} {o : HO} (sz : Same Z H) (hp : H p = none) : Step fp Z H (upd Z p o) (upd H p o) := (Step.new sz hp).pure
/-! ### texts -/
theorem okS_app {x y : Str} (hx : okS x = true) (hy : okS y = true) (l : x.length + y.length ≤ sizeLine) : okS (x ++ y) = true := by
  unfold okS PyData.strOk at *
  rw [Bool.and_eq_true] at hx hy ⊢
  refine ⟨?_, ?_⟩
  · have e : (x ++ y).cps = x.cps ++ y.cps := rfl
    rw [e, Array.all_append, hx.1, hy.1]; rfl
  · refine decide_eq_true ?_
    have e : (x ++ y).length = x.length + y.length := by
      show (x.cps ++ y.cps).size = _
      rw [Array.size_append]; rfl
    omega
theorem ev_cat_str {x y : Str} (ha : Ev M ta σ Z H s (ty yStr x) s1) (hb : Ev M tb σ Z H s1 (ty yStr y) s2) (l : x.length + y.length ≤ sizeLine) : Ev M (tOp (fun x y H Q => ∃ i j, x = .str i ∧ y = .str j ∧ i.length + j.length ≤ sizeLine ∧ Q (.str (i ++ j)) H) ta tb) σ Z H s (ty yStr (x ++ y)) s2 :=
  ev_op ha hb fun _ _ _ _ sz e1 e2 _ q => ⟨x, y, e1.1, e2.1, l, q _ _ _ (Step.refl sz) ⟨rfl, okS_app e1.2 e2.2 l⟩⟩
theorem ev_lt_str {x y : Str} (ha : Ev M ta σ Z H s (ty yStr x) s1) (hb : Ev M tb σ Z H s1 (ty yStr y) s2) : Ev M (tOp (fun x y H Q => ∃ i j, x = .str i ∧ y = .str j ∧ Q (.bl (decide (i.cps.toList < j.cps.toList))) H) ta tb) σ Z H s (ty yBool (decide (x.cps.toList < y.cps.toList))) s2 :=
  ev_op ha hb fun _ _ _ _ sz e1 e2 _ q => ⟨x, y, e1.1, e2.1, q _ _ _ (Step.refl sz) rfl⟩
theorem ev_len_str {x : Str} (ha : Ev M ta σ Z H s (ty yStr x) s1) : Ev M (tCB (fun xs H Q => ∃ z, xs = [.str z] ∧ z.length ≤ sizeLine ∧ Q (.int z.length) H) (tCons ta tNil)) σ Z H s (ty yInt (x.length : Nat)) s1 :=
  ev_cb (eva_cons ha eva_nil) fun _ _ vs sz ⟨v, r, e, h, e2⟩ Q q => ⟨x, by rw [e, h.1, show r = [] from e2], of_decide_eq_true (Bool.and_eq_true_iff.mp (show (PyData.strOk x && decide (x.length ≤ sizeLine)) = true from h.2)).2, q _ _ _ (Step.refl sz) rfl⟩
/-! ### lists and tuples that are made -/
theorem ev_tup {Rs : Ra M.fp} {R : Rr M.fp} (ha : EvA M t σ Z H s Rs s1) (h : ∀ Z H vs, Same Z H → Rs.r Z H vs → vs.length ≤ sizeLine ∧ ∀ p, H p = none → R.r (upd Z p (.tup vs)) (upd H p (.tup vs)) (.ref p)) : Ev M (tTup t) σ Z H s R s1 :=
  fun Z1 H1 a b c d Q q => ha Z1 H1 a b c d _ fun vs Z2 H2 e m rv => by
    obtain ⟨l, hr⟩ := h Z2 H2 vs e.s rv
    exact ⟨l, fun p hp => q _ _ _ (e.trans (fresh_fp e.s hp)) (M.pure (Step.new e.s hp) m) (hr p hp)⟩
theorem ev_lst {Rs : Ra M.fp} {R : Rr M.fp} (ha : EvA M t σ Z H s Rs s1) (h : ∀ Z H vs, Same Z H → Rs.r Z H vs → vs.length ≤ sizeLine ∧ ∀ p, H p = none → R.r (upd Z p (.lst vs)) (upd H p (.lst vs)) (.ref p)) : Ev M (tLst t) σ Z H s R s1 :=
  fun Z1 H1 a b c d Q q => ha Z1 H1 a b c d _ fun vs Z2 H2 e m rv => by
    obtain ⟨l, hr⟩ := h Z2 H2 vs e.s rv
    exact ⟨l, fun p hp => q _ _ _ (e.trans (fresh_fp e.s hp)) (M.pure (Step.new e.s hp) m) (hr p hp)⟩
theorem sqT_new {Z : Hp} {p : Addr} {vs : List V} : SqT K (upd Z p (.tup vs)) p vs := .inl (.inl upd_same)
section
variable {α β γ δ : Type} {τ : Ty α} {υ : Ty β} {φ : Ty γ} {ψ : Ty δ} {x : α} {y : β} {z : γ} {u : δ}
theorem ev_p0 : Ev M (tTup tNil) σ Z H s (ty (yP0 K) ()) s := ev_tup eva_nil fun _ _ vs _ e => ⟨by rw [show vs = [] from e]; exact Nat.zero_le _, fun p _ => ⟨p, rfl, by rw [show vs = [] from e]; exact sqT_new⟩⟩
theorem ev_p1 (ha : EvA M t σ Z H s (rac (ty τ x) ra0) s1) : Ev M (tTup t) σ Z H s (ty (yP1 K τ) x) s1 :=
  ev_tup ha fun Z H vs sz ⟨v1, r1, e1, h1, e2⟩ => by
    cases e2; cases e1
    exact ⟨by show 1 ≤ sizeLine; decide, fun p hp => ⟨p, v1, rfl, sqT_new, τ.mono (same_upd (same_none sz hp)) h1⟩⟩
theorem ev_p2 (ha : EvA M t σ Z H s (rac (ty τ x) (rac (ty υ y) ra0)) s1) : Ev M (tTup t) σ Z H s (ty (yP2 K τ υ) (x, y)) s1 :=
  ev_tup ha fun Z H vs sz ⟨v1, r1, e1, h1, v2, r2, e2, h2, e3⟩ => by
    cases e3; cases e2; cases e1
    exact ⟨by show 2 ≤ sizeLine; decide, fun p hp => have q := same_upd (same_none sz hp); ⟨p, v1, v2, rfl, sqT_new, τ.mono q h1, υ.mono q h2⟩⟩
theorem ev_p3 (ha : EvA M t σ Z H s (rac (ty τ x) (rac (ty υ y) (rac (ty φ z) ra0))) s1) : Ev M (tTup t) σ Z H s (ty (yP3 K τ υ φ) (x, y, z)) s1 :=
  ev_tup ha fun Z H vs sz ⟨v1, r1, e1, h1, v2, r2, e2, h2, v3, r3, e3, h3, e4⟩ => by
    cases e4; cases e3; cases e2; cases e1
    exact ⟨by show 3 ≤ sizeLine; decide, fun p hp => have q := same_upd (same_none sz hp); ⟨p, v1, v2, v3, rfl, sqT_new, τ.mono q h1, υ.mono q h2, φ.mono q h3⟩⟩
theorem ev_p4 (ha : EvA M t σ Z H s (rac (ty τ x) (rac (ty υ y) (rac (ty φ z) (rac (ty ψ u) ra0)))) s1) : Ev M (tTup t) σ Z H s (ty (yP4 K τ υ φ ψ) (x, y, z, u)) s1 :=
  ev_tup ha fun Z H vs sz ⟨v1, r1, e1, h1, v2, r2, e2, h2, v3, r3, e3, h3, v4, r4, e4, h4, e5⟩ => by
    cases e5; cases e4; cases e3; cases e2; cases e1
    exact ⟨by show 4 ≤ sizeLine; decide, fun p hp => have q := same_upd (same_none sz hp); ⟨p, v1, v2, v3, v4, rfl, sqT_new, τ.mono q h1, υ.mono q h2, φ.mono q h3, ψ.mono q h4⟩⟩
/-- arguments all of one kind -/
def ras {fp : List Addr} (τ : Ty α) (xs : List α) : Ra fp := ⟨fun Z _ vs => All (τ.r Z) vs xs, fun g h => h.imp fun _ _ => τ.mono g.z⟩
theorem eva_nils : EvA M tNil σ Z H s (ras τ []) s := fun Z1 H1 _ _ c d Q q => q [] Z1 H1 (Step.refl c) d .nil
theorem eva_conss {xs : List α} (ha : Ev M ta σ Z H s (ty τ x) s1) (hr : EvA M t σ Z H s1 (ras τ xs) s2) : EvA M (tCons ta t) σ Z H s (ras τ (x :: xs)) s2 :=
  fun Z1 H1 a b c d Q q => ha Z1 H1 a b c d _ fun v Z2 H2 e m rv => hr Z2 H2 (a.trans e.z) (b.trans e.h) e.s m _ fun vs Z3 H3 e2 m2 rs => q _ Z3 H3 (e.trans e2) m2 (.cons (τ.mono e2.z rv) rs)
/-- a new list of one's own -/
def EvN {α : Type} (M : Mu μ) (t : TE) (σ : L2.St) (Z H : Hp) (s : μ) (τ : Ty α) (xs : List α) (s' : μ) : Prop :=
  ∀ Z1 H1, Same Z Z1 → SameX M.fp H H1 → Same Z1 H1 → M.m s Z1 H1 → ∀ Q : VK, (∀ p vs Z2 H2, Step M.fp Z1 H1 Z2 H2 → M.m s' Z2 H2 → H1 p = none → Z2 p = none → H2 p = some (.lst vs) → All (τ.r Z2) vs xs → xs.length ≤ sizeLine → Q (.ref p) H2) → t σ H1 Q
theorem Step.fz {S : List Addr} {Z H Z1 H1 : Hp} {x : Addr} {o : HO} (g : Step S Z H Z1 H1) (hx : H x = none) (h1 : H1 x = some o) (hz : Z1 x = none) : Step S Z H (upd Z1 x o) H1 := by
  refine ⟨g.z.trans (same_upd hz), fun a u e => ?_, g.h, fun a h z => ?_, g.al⟩
  · by_cases q : a = x
    · subst q; rw [upd_same] at e; rw [← Option.some.inj e]; exact h1
    · rw [upd_ne q] at e; exact g.s a u e
  · rw [upd_ne (ne_of_some h hx)]; exact g.n a h z
theorem Mu.fz {M : Mu μ} {s : μ} {Z H : Hp} {x : Addr} {o : HO} (m : M.m s Z H) (hz : Z x = none) (nx : x ∉ M.fp) : M.m s (upd Z x o) H := by
  refine M.loc (same_upd hz) (fun _ _ _ x => x) (fun a ha _ z => ?_) m
  rw [upd_ne (fun q => nx (by rw [← q]; exact ha))]
  exact z
theorem ev_fz {α : Type} {τ : Ty α} {xs : List α} (h : EvN M ta σ Z H s τ xs s1) : Ev M ta σ Z H s (ty (yList τ) xs) s1 :=
  fun Z1 H1 a b c d Q q => h Z1 H1 a b c d Q fun p vs Z2 H2 e m hp zp h2 t l =>
    q _ _ _ (e.fz hp h2 zp) (Mu.fz m zp (fun hf => (M.al d p hf).1 hp)) ⟨p, vs, rfl, upd_same, t.imp fun _ _ => τ.mono (same_upd zp), l⟩
theorem en_op {α : Type} {τ : Ty α} {xs : List α} {R1 R3 : Rr M.fp} {r : R2} (ha : Ev M ta σ Z H s R1 s1) (hb : Ev M tb σ Z H s1 R3 s2) (h : ∀ Z H v w, Same Z H → R1.r Z H v → R3.r Z H w → ∃ vs, All (τ.r Z) vs xs ∧ xs.length ≤ sizeLine ∧ ∀ Q : VK, (∀ p, H p = none → Q (.ref p) (upd H p (.lst vs))) → r v w H Q) : EvN M (tOp r ta tb) σ Z H s τ xs s2 :=
  fun Z1 H1 a b c d Q q => ha Z1 H1 a b c d _ fun v Z2 H2 e m rv => hb Z2 H2 (a.trans e.z) (b.trans e.h) e.s m _ fun w Z3 H3 e2 m2 rw => by
    obtain ⟨vs, t, l, k⟩ := h Z3 H3 v w e2.s (R1.st e2 rv) rw
    refine k _ fun p hp => ?_
    have e3 := Step.own (o := .lst vs) e2.s hp
    exact q p vs Z3 _ ((e.trans e2).trans e3.pure) (M.pure e3 m2) (same_x (e.trans e2) hp) (same_none e2.s hp) upd_same t l
theorem en_cb {α : Type} {τ : Ty α} {xs : List α} {Rs : Ra M.fp} {r : List V → Hp → VK → Prop} (ha : EvA M t σ Z H s Rs s1) (h : ∀ Z H vs, Same Z H → Rs.r Z H vs → ∃ ws, All (τ.r Z) ws xs ∧ xs.length ≤ sizeLine ∧ ∀ Q : VK, (∀ p, H p = none → Q (.ref p) (upd H p (.lst ws))) → r vs H Q) : EvN M (tCB r t) σ Z H s τ xs s1 :=
  fun Z1 H1 a b c d Q q => ha Z1 H1 a b c d _ fun v Z2 H2 e m rv => by
    obtain ⟨vs, t, l, k⟩ := h Z2 H2 v e.s rv
    refine k _ fun p hp => ?_
    have e3 := Step.own (o := .lst vs) e.s hp
    exact q p vs Z2 _ (e.trans e3.pure) (M.pure e3 m) (same_x e hp) (same_none e.s hp) upd_same t l
theorem en_listD {xs : List α} (ha : EvA M t σ Z H s (ras τ xs) s1) (l : xs.length ≤ sizeLine) : EvN M (tLst t) σ Z H s τ xs s1 :=
  fun Z1 H1 a b c d Q q => ha Z1 H1 a b c d _ fun vs Z2 H2 e m rv => ⟨by rw [All.len rv]; exact l, fun p hp => by
    have e3 := Step.own (o := .lst vs) e.s hp
    exact q p vs Z2 _ (e.trans e3.pure) (M.pure e3 m) (same_x e hp) (same_none e.s hp) upd_same rv l⟩
theorem ev_tupD {xs : List α} (ha : EvA M t σ Z H s (ras τ xs) s1) (l : xs.length ≤ sizeLine) : Ev M (tTup t) σ Z H s (ty (yTup K τ) xs) s1 :=
  ev_tup ha fun Z H vs sz h => ⟨by rw [h.len]; exact l, fun p hp => ⟨p, vs, rfl, sqT_new, h.imp fun _ _ => τ.mono (same_upd (same_none sz hp)), l⟩⟩
/-! ### lists and tuples that are read -/
variable {xs ys : List α}
theorem rdl {fp : List Addr} {Z H : Hp} {v : V} (sz : Same Z H) (h : (li (fp := fp) τ xs).r Z H v) : ∃ p vs, v = .ref p ∧ H p = some (.lst vs) ∧ All (τ.r Z) vs xs ∧ xs.length ≤ sizeLine := by
  obtain ⟨p, vs, e, g, t, l⟩ := h
  exact ⟨p, vs, e, g.get sz, t, l⟩
theorem ev_ixL {i : Int} (ha : Ev M ta σ Z H s (li τ xs) s1) (hb : Ev M tb σ Z H s1 (ty yInt i) s2) (e : atI xs i = some x) : Ev M (tOp (rIxL K) ta tb) σ Z H s (ty τ x) s2 :=
  ev_op ha hb fun _ _ _ _ sz e1 e2 _ q => by
    obtain ⟨p, vs, rfl, g, t, _⟩ := rdl sz e1
    obtain ⟨w, hw, rw'⟩ := t.atI e
    exact ⟨p, vs, i, w, rfl, e2, SqL.of g, hw, q _ _ _ (Step.refl sz) rw'⟩
theorem ev_ixT {i : Int} (ha : Ev M ta σ Z H s (ty (yTup K τ) xs) s1) (hb : Ev M tb σ Z H s1 (ty yInt i) s2) (e : atI xs i = some x) : Ev M (tOp (rIxT K) ta tb) σ Z H s (ty τ x) s2 :=
  ev_op ha hb fun _ _ _ _ sz e1 e2 _ q => by
    obtain ⟨p, vs, rfl, g, t, _⟩ := e1
    obtain ⟨w, hw, rw'⟩ := t.atI e
    exact ⟨p, vs, i, w, rfl, e2, seqT_same sz g, hw, q _ _ _ (Step.refl sz) rw'⟩
/-- a part of a tuple by its written place -/
def PartOf {α' β' : Type} (K : PySem.W.Frag) (τ : Ty α') (i : Int) (τ' : Ty β') (f : α' → β') : Prop := ∀ Z v x, τ.r Z v x → ∃ a vs w, v = .ref a ∧ SqT K Z a vs ∧ atI vs i = some w ∧ τ'.r Z w (f x)
theorem po1_0 : PartOf K (yP1 K τ) 0 τ id := fun _ _ _ ⟨a, v1, e, h, h1⟩ => ⟨a, _, v1, e, h, rfl, h1⟩
theorem po2_0 : PartOf K (yP2 K τ υ) 0 τ Prod.fst := fun _ _ _ ⟨a, v1, v2, e, h, h1, _⟩ => ⟨a, _, v1, e, h, rfl, h1⟩
theorem po2_1 : PartOf K (yP2 K τ υ) 1 υ Prod.snd := fun _ _ _ ⟨a, v1, v2, e, h, _, h1⟩ => ⟨a, _, v2, e, h, rfl, h1⟩
theorem po3_0 : PartOf K (yP3 K τ υ φ) 0 τ (fun x => x.1) := fun _ _ _ ⟨a, v1, v2, v3, e, h, h1, _⟩ => ⟨a, _, v1, e, h, rfl, h1⟩
theorem po3_1 : PartOf K (yP3 K τ υ φ) 1 υ (fun x => x.2.1) := fun _ _ _ ⟨a, v1, v2, v3, e, h, _, h1, _⟩ => ⟨a, _, v2, e, h, rfl, h1⟩
theorem po3_2 : PartOf K (yP3 K τ υ φ) 2 φ (fun x => x.2.2) := fun _ _ _ ⟨a, v1, v2, v3, e, h, _, _, h1⟩ => ⟨a, _, v3, e, h, rfl, h1⟩
theorem po4_0 : PartOf K (yP4 K τ υ φ ψ) 0 τ (fun x => x.1) := fun _ _ _ ⟨a, v1, v2, v3, v4, e, h, h1, _⟩ => ⟨a, _, v1, e, h, rfl, h1⟩
theorem po4_1 : PartOf K (yP4 K τ υ φ ψ) 1 υ (fun x => x.2.1) := fun _ _ _ ⟨a, v1, v2, v3, v4, e, h, _, h1, _⟩ => ⟨a, _, v2, e, h, rfl, h1⟩
theorem po4_2 : PartOf K (yP4 K τ υ φ ψ) 2 φ (fun x => x.2.2.1) := fun _ _ _ ⟨a, v1, v2, v3, v4, e, h, _, _, h1, _⟩ => ⟨a, _, v3, e, h, rfl, h1⟩
theorem po4_3 : PartOf K (yP4 K τ υ φ ψ) 3 ψ (fun x => x.2.2.2) := fun _ _ _ ⟨a, v1, v2, v3, v4, e, h, _, _, _, h1⟩ => ⟨a, _, v4, e, h, rfl, h1⟩
theorem ev_part {i : Int} {f : α → β} (P : PartOf K τ i υ f) (ha : Ev M ta σ Z H s (ty τ x) s1) (hb : Ev M tb σ Z H s1 (ty yInt i) s2) : Ev M (tOp (rIxT K) ta tb) σ Z H s (ty υ (f x)) s2 :=
  ev_op ha hb fun _ _ _ _ sz e1 e2 _ q => by
    obtain ⟨p, vs, w, rfl, g, hw, rw'⟩ := P _ _ _ e1
    exact ⟨p, vs, i, w, rfl, e2, seqT_same sz g, hw, q _ _ _ (Step.refl sz) rw'⟩
theorem ev_len {r : List V → Hp → VK → Prop} (hr : ∀ xs H Q, (∃ p ys, xs = [.ref p] ∧ (SqL K H p ys ∨ SqT K H p ys) ∧ Q (.int ys.length) H) → r xs H Q) (ha : Ev M ta σ Z H s (li τ xs) s1) : Ev M (tCB r (tCons ta tNil)) σ Z H s (ty yInt (xs.length : Nat)) s1 :=
  ev_cb (eva_cons ha eva_nil) fun _ _ _ sz ⟨v, r, e, h, e2⟩ _ q => by
    cases e2; cases e
    obtain ⟨p, vs, rfl, g, t, _⟩ := rdl sz h
    exact hr _ _ _ ⟨p, vs, rfl, .inl (SqL.of g), by rw [t.len]; exact q _ _ _ (Step.refl sz) rfl⟩
theorem ev_lenT {r : List V → Hp → VK → Prop} (hr : ∀ xs H Q, (∃ p ys, xs = [.ref p] ∧ (SqL K H p ys ∨ SqT K H p ys) ∧ Q (.int ys.length) H) → r xs H Q) (ha : Ev M ta σ Z H s (ty (yTup K τ) xs) s1) : Ev M (tCB r (tCons ta tNil)) σ Z H s (ty yInt (xs.length : Nat)) s1 :=
  ev_cb (eva_cons ha eva_nil) fun _ _ _ sz ⟨v, r, e, h, e2⟩ _ q => by
    cases e2; cases e
    obtain ⟨p, vs, rfl, g, t, _⟩ := h
    exact hr _ _ _ ⟨p, vs, rfl, .inr (seqT_same sz g), by rw [t.len]; exact q _ _ _ (Step.refl sz) rfl⟩
theorem en_list_of {r : List V → Hp → VK → Prop} (hr : ∀ xs H Q, (∃ p ys, xs = [.ref p] ∧ (SqL K H p ys ∨ SqT K H p ys) ∧ ∀ l, H l = none → Q (.ref l) (upd H l (.lst ys))) → r xs H Q) (ha : Ev M ta σ Z H s (li τ xs) s1) : EvN M (tCB r (tCons ta tNil)) σ Z H s τ xs s1 :=
  en_cb (eva_cons ha eva_nil) fun _ _ _ sz ⟨v, r, e, h, e2⟩ => by
    cases e2; cases e
    obtain ⟨p, vs, rfl, g, t, l⟩ := rdl sz h
    exact ⟨vs, t, l, fun Q q => hr _ _ _ ⟨p, vs, rfl, .inl (SqL.of g), q⟩⟩
theorem en_list_ofT {r : List V → Hp → VK → Prop} (hr : ∀ xs H Q, (∃ p ys, xs = [.ref p] ∧ (SqL K H p ys ∨ SqT K H p ys) ∧ ∀ l, H l = none → Q (.ref l) (upd H l (.lst ys))) → r xs H Q) (ha : Ev M ta σ Z H s (ty (yTup K τ) xs) s1) : EvN M (tCB r (tCons ta tNil)) σ Z H s τ xs s1 :=
  en_cb (eva_cons ha eva_nil) fun _ _ _ sz ⟨v, r, e, h, e2⟩ => by
    cases e2; cases e
    obtain ⟨p, vs, rfl, g, t, l⟩ := h
    exact ⟨vs, t, l, fun Q q => hr _ _ _ ⟨p, vs, rfl, .inr (seqT_same sz g), q⟩⟩
theorem ev_tuple_of {r : List V → Hp → VK → Prop} (hr : ∀ xs H Q, (∃ p ys, xs = [.ref p] ∧ ((SqL K H p ys ∧ ∀ l, H l = none → Q (.ref l) (upd H l (.tup ys))) ∨ (SqT K H p ys ∧ Q (.ref p) H))) → r xs H Q) (ha : Ev M ta σ Z H s (li τ xs) s1) : Ev M (tCB r (tCons ta tNil)) σ Z H s (ty (yTup K τ) xs) s1 :=
  ev_cb (eva_cons ha eva_nil) fun _ _ _ sz ⟨v, r, e, h, e2⟩ _ q => by
    cases e2; cases e
    obtain ⟨p, vs, rfl, g, t, l⟩ := rdl sz h
    exact hr _ _ _ ⟨p, vs, rfl, .inl ⟨SqL.of g, fun d hd => q _ _ _ (Step.new sz hd) ⟨d, vs, rfl, sqT_new, t.imp fun _ _ => τ.mono (same_upd (same_none sz hd)), l⟩⟩⟩
theorem ev_tuple_ofT {r : List V → Hp → VK → Prop} (hr : ∀ xs H Q, (∃ p ys, xs = [.ref p] ∧ ((SqL K H p ys ∧ ∀ l, H l = none → Q (.ref l) (upd H l (.tup ys))) ∨ (SqT K H p ys ∧ Q (.ref p) H))) → r xs H Q) (ha : Ev M ta σ Z H s (ty (yTup K τ) xs) s1) : Ev M (tCB r (tCons ta tNil)) σ Z H s (ty (yTup K τ) xs) s1 :=
  ev_cb (eva_cons ha eva_nil) fun _ _ _ sz ⟨v, r, e, h, e2⟩ _ q => by
    cases e2; cases e
    obtain ⟨p, vs, rfl, g, t, l⟩ := h
    exact hr _ _ _ ⟨p, vs, rfl, .inr ⟨seqT_same sz g, q _ _ _ (Step.refl sz) ⟨p, vs, rfl, g, t, l⟩⟩⟩
/-- a pair, as a tuple of a pair: itself -/
theorem ev_tuple_id {r : List V → Hp → VK → Prop} (hr : ∀ xs H Q, (∃ p ys, xs = [.ref p] ∧ ((SqL K H p ys ∧ ∀ l, H l = none → Q (.ref l) (upd H l (.tup ys))) ∨ (SqT K H p ys ∧ Q (.ref p) H))) → r xs H Q) (hτ : ∀ Z v x, τ.r Z v x → ∃ p ys, v = .ref p ∧ SqT K Z p ys) (ha : Ev M ta σ Z H s (ty τ x) s1) : Ev M (tCB r (tCons ta tNil)) σ Z H s (ty τ x) s1 :=
  ev_cb (eva_cons ha eva_nil) fun _ _ _ sz ⟨v, r, e, h, e2⟩ _ q => by
    cases e2; cases e
    obtain ⟨p, vs, rfl, g⟩ := hτ _ _ _ h
    exact hr _ _ _ ⟨p, vs, rfl, .inr ⟨seqT_same sz g, q _ _ _ (Step.refl sz) h⟩⟩
theorem it_p2 : ∀ Z v x, (yP2 K τ υ).r Z v x → ∃ p ys, v = .ref p ∧ SqT K Z p ys := fun _ _ _ ⟨a, _, _, e, h, _⟩ => ⟨a, _, e, h⟩
theorem it_p3 : ∀ Z v x, (yP3 K τ υ φ).r Z v x → ∃ p ys, v = .ref p ∧ SqT K Z p ys := fun _ _ _ ⟨a, _, _, _, e, h, _⟩ => ⟨a, _, e, h⟩
theorem en_cat (ha : Ev M ta σ Z H s (li τ xs) s1) (hb : Ev M tb σ Z H s1 (li τ ys) s2) (l : xs.length + ys.length ≤ sizeLine) : EvN M (tOp rCat ta tb) σ Z H s τ (xs ++ ys) s2 :=
  en_op ha hb fun _ _ _ _ sz e1 e2 => by
    obtain ⟨p, vs, rfl, g, t, _⟩ := rdl sz e1
    obtain ⟨p2, ws, rfl, g2, t2, _⟩ := rdl sz e2
    exact ⟨vs ++ ws, t.app t2, by rw [List.length_append]; exact l, fun Q q => ⟨p, p2, vs, ws, rfl, rfl, g, g2, by rw [t.len, t2.len]; exact l, q⟩⟩
end
def cutA {α : Type} (xs : List α) (lo hi : Option Int) : List α := (xs.drop (HT.sIx xs.length 0 lo)).take (HT.sIx xs.length xs.length hi - HT.sIx xs.length 0 lo)
theorem All.cut {α : Type} {R : V → α → Prop} {vs : List V} {xs : List α} (h : All R vs xs) (lo hi : Option Int) : All R (cutV vs lo hi) (cutA xs lo hi) := by
  unfold cutV cutA
  rw [h.len]
  exact (h.drop _).take _
theorem cutA_len {α : Type} (xs : List α) (lo hi : Option Int) : (cutA xs lo hi).length ≤ xs.length := by
  unfold cutA
  rw [List.length_take, List.length_drop]
  omega
def EvO (M : Mu μ) (t : TO) (σ : L2.St) (Z H : Hp) (s : μ) (i : Option Int) (s' : μ) : Prop :=
  ∀ Z1 H1, Same Z Z1 → SameX M.fp H H1 → Same Z1 H1 → M.m s Z1 H1 → ∀ Q : Option Int → Hp → Prop, (∀ Z2 H2, Step M.fp Z1 H1 Z2 H2 → M.m s' Z2 H2 → Q i H2) → t σ H1 Q
theorem eo_none : EvO M tNoPart σ Z H s none s := fun Z1 H1 _ _ c d Q q => q Z1 H1 (Step.refl c) d
theorem eo_some {i : Int} (h : Ev M te σ Z H s (ty yInt i) s1) : EvO M (tPart te) σ Z H s (some i) s1 := fun Z1 H1 a b c d Q q => h Z1 H1 a b c d _ fun v Z2 H2 e m rv => ⟨i, rv, q Z2 H2 e m⟩
theorem ev_slice {r : V → Option Int → Option Int → Hp → VK → Prop} {tl th : TO} {lo hi : Option Int} {R R' : Rr M.fp} (ha : Ev M ta σ Z H s R s1) (hl : EvO M tl σ Z H s1 lo s2) (hh : EvO M th σ Z H s2 hi s3)
    (h : ∀ Z H v, Same Z H → R.r Z H v → ∀ Q : VK, (∀ u Z2 H2, Step [] Z H Z2 H2 → R'.r Z2 H2 u → Q u H2) → r v lo hi H Q) : Ev M (tSl r ta tl th) σ Z H s R' s3 :=
  fun Z1 H1 a b c d Q q => ha Z1 H1 a b c d _ fun v Z2 H2 e m rv => hl Z2 H2 (a.trans e.z) (b.trans e.h) e.s m _ fun Z3 H3 e2 m2 => hh Z3 H3 ((a.trans e.z).trans e2.z) ((b.trans e.h).trans e2.h) e2.s m2 _ fun Z4 H4 e3 m3 =>
    h Z4 H4 v e3.s (R.st e3 (R.st e2 rv)) _ fun u Z5 H5 e4 ru => q u Z5 H5 (((e.trans e2).trans e3).trans e4.pure) (M.pure e4 m3) ru
theorem en_slL {α : Type} {τ : Ty α} {xs : List α} {tl th : TO} {lo hi : Option Int} (ha : Ev M ta σ Z H s (li τ xs) s1) (hl : EvO M tl σ Z H s1 lo s2) (hh : EvO M th σ Z H s2 hi s3) : EvN M (tSl (rSlL K) ta tl th) σ Z H s τ (cutA xs lo hi) s3 :=
  fun Z1 H1 a b c d Q q => ha Z1 H1 a b c d _ fun v Z2 H2 e m rv => hl Z2 H2 (a.trans e.z) (b.trans e.h) e.s m _ fun Z3 H3 e2 m2 => hh Z3 H3 ((a.trans e.z).trans e2.z) ((b.trans e.h).trans e2.h) e2.s m2 _ fun Z4 H4 e3 m3 => by
    obtain ⟨p, vs, rfl, g, t, l⟩ := rdl e3.s ((li τ xs).st e3 ((li τ xs).st e2 rv))
    refine ⟨p, vs, rfl, SqL.of g, fun d hd => ?_⟩
    have e4 := Step.own (o := .lst (cutV vs lo hi)) e3.s hd
    exact q d _ Z4 _ (((e.trans e2).trans e3).trans e4.pure) (M.pure e4 m3) (same_x ((e.trans e2).trans e3) hd) (same_none e3.s hd) upd_same (t.cut lo hi) (Nat.le_trans (cutA_len _ _ _) l)
/-- a tuple's slice: the whole is the tuple itself -/
def rSlW (K : PySem.W.Frag) : V → Option Int → Option Int → Hp → VK → Prop := fun x lo hi H Q => ∃ a xs, x = .ref a ∧ SqT K H a xs ∧
  ((HT.sIx xs.length 0 lo = 0 ∧ HT.sIx xs.length xs.length hi = xs.length) → Q (.ref a) H) ∧ (¬ (HT.sIx xs.length 0 lo = 0 ∧ HT.sIx xs.length xs.length hi = xs.length) → ∀ p, H p = none → Q (.ref p) (upd H p (.tup (cutV xs lo hi))))
theorem ev_slT {α : Type} {τ : Ty α} {xs : List α} {tl th : TO} {lo hi : Option Int} (ha : Ev M ta σ Z H s (ty (yTup K τ) xs) s1) (hl : EvO M tl σ Z H s1 lo s2) (hh : EvO M th σ Z H s2 hi s3) : Ev M (tSl (rSlW K) ta tl th) σ Z H s (ty (yTup K τ) (cutA xs lo hi)) s3 :=
  ev_slice ha hl hh fun _ _ _ sz ⟨p, vs, e, g, t, l⟩ _ q => by
    subst e
    refine ⟨p, vs, rfl, seqT_same sz g, fun w => q _ _ _ (Step.refl sz) ⟨p, vs, rfl, g, ?_, Nat.le_trans (cutA_len _ _ _) l⟩, fun _ d hd => q _ _ _ (Step.new sz hd) ⟨d, _, rfl, sqT_new, (t.cut lo hi).imp fun _ _ => τ.mono (same_upd (same_none sz hd)), Nat.le_trans (cutA_len _ _ _) l⟩⟩
    have c := t.cut lo hi
    have e : cutV vs lo hi = vs := by
      unfold cutV
      rw [w.1, w.2, List.drop_zero, Nat.sub_zero, List.take_length]
    rw [e] at c
    exact c
/-! ### sums and the like -/
theorem ev_sum {xs : List Int} (ha : Ev M ta σ Z H s (li yInt xs) s1) : Ev M (tCB (rSum K) (tCons ta tNil)) σ Z H s (ty yInt xs.sum) s1 :=
  ev_cb (eva_cons ha eva_nil) fun _ _ _ sz ⟨v, r, e, h, e2⟩ _ q => by
    cases e2; cases e
    obtain ⟨p, vs, rfl, g, t, _⟩ := rdl sz h
    rw [t.ints] at g
    exact ⟨p, xs, rfl, SqL.of g, q _ _ _ (Step.refl sz) rfl⟩
theorem ev_anyL {xs : List Bool} (ha : Ev M ta σ Z H s (li yBool xs) s1) : Ev M (tCB (rAny K) (tCons ta tNil)) σ Z H s (ty yBool (xs.any id)) s1 :=
  ev_cb (eva_cons ha eva_nil) fun _ _ _ sz ⟨v, r, e, h, e2⟩ _ q => by
    cases e2; cases e
    obtain ⟨p, vs, rfl, g, t, _⟩ := rdl sz h
    rw [t.bls] at g
    exact ⟨p, xs, rfl, SqL.of g, q _ _ _ (Step.refl sz) rfl⟩
theorem ev_allL {xs : List Bool} (ha : Ev M ta σ Z H s (li yBool xs) s1) : Ev M (tCB (rAll K) (tCons ta tNil)) σ Z H s (ty yBool (xs.all id)) s1 :=
  ev_cb (eva_cons ha eva_nil) fun _ _ _ sz ⟨v, r, e, h, e2⟩ _ q => by
    cases e2; cases e
    obtain ⟨p, vs, rfl, g, t, _⟩ := rdl sz h
    rw [t.bls] at g
    exact ⟨p, xs, rfl, SqL.of g, q _ _ _ (Step.refl sz) rfl⟩
def maxZ : List Int → Option Int
  | [] => none
  | x :: xs => some (xs.foldl max x)
def minZ : List Int → Option Int
  | [] => none
  | x :: xs => some (xs.foldl min x)
theorem foldl_max_of : ∀ (xs : List Int) (x m : Int), m ∈ x :: xs → (∀ y ∈ x :: xs, y ≤ m) → m = xs.foldl max x
  | [], x, m, h, _ => by simpa using h
  | y :: r, x, m, h, g => by
    refine foldl_max_of r (max x y) m ?_ (fun z hz => ?_)
    · have hx := g x (by simp)
      have hy := g y (by simp)
      rcases List.mem_cons.mp h with e | h
      · have : max x y = m := by omega
        rw [this]; exact List.mem_cons_self
      · rcases List.mem_cons.mp h with e | h
        · have : max x y = m := by omega
          rw [this]; exact List.mem_cons_self
        · exact List.mem_cons_of_mem _ h
    · rcases List.mem_cons.mp hz with e | hz
      · have hx := g x (by simp)
        have hy := g y (by simp)
        omega
      · exact g z (by simp [hz])
theorem foldl_min_of : ∀ (xs : List Int) (x m : Int), m ∈ x :: xs → (∀ y ∈ x :: xs, m ≤ y) → m = xs.foldl min x
  | [], x, m, h, _ => by simpa using h
  | y :: r, x, m, h, g => by
    refine foldl_min_of r (min x y) m ?_ (fun z hz => ?_)
    · have hx := g x (by simp)
      have hy := g y (by simp)
      rcases List.mem_cons.mp h with e | h
      · have : min x y = m := by omega
        rw [this]; exact List.mem_cons_self
      · rcases List.mem_cons.mp h with e | h
        · have : min x y = m := by omega
          rw [this]; exact List.mem_cons_self
        · exact List.mem_cons_of_mem _ h
    · rcases List.mem_cons.mp hz with e | hz
      · have hx := g x (by simp)
        have hy := g y (by simp)
        omega
      · exact g z (by simp [hz])
theorem ev_maxL {xs : List Int} {m : Int} (ha : Ev M ta σ Z H s (li yInt xs) s1) (e : maxZ xs = some m) : Ev M (tCB (rMax K) (tCons ta tNil)) σ Z H s (ty yInt m) s1 :=
  ev_cb (eva_cons ha eva_nil) fun _ _ _ sz ⟨v, r, e1, h, e2⟩ _ q => by
    cases e2; cases e1
    obtain ⟨p, vs, rfl, g, t, _⟩ := rdl sz h
    rw [t.ints] at g
    cases xs with
    | nil => cases e
    | cons x r =>
      refine ⟨p, x :: r, rfl, SqL.of g, Nat.succ_pos _, fun n hn hg => q _ _ _ (Step.refl sz) ?_⟩
      rw [foldl_max_of r x n hn hg, ← Option.some.inj (e : some (r.foldl max x) = some m)]
      rfl
theorem ev_minL {xs : List Int} {m : Int} (ha : Ev M ta σ Z H s (li yInt xs) s1) (e : minZ xs = some m) : Ev M (tCB (rMin K) (tCons ta tNil)) σ Z H s (ty yInt m) s1 :=
  ev_cb (eva_cons ha eva_nil) fun _ _ _ sz ⟨v, r, e1, h, e2⟩ _ q => by
    cases e2; cases e1
    obtain ⟨p, vs, rfl, g, t, _⟩ := rdl sz h
    rw [t.ints] at g
    cases xs with
    | nil => cases e
    | cons x r =>
      refine ⟨p, x :: r, rfl, SqL.of g, Nat.succ_pos _, fun n hn hg => q _ _ _ (Step.refl sz) ?_⟩
      rw [foldl_min_of r x n hn hg, ← Option.some.inj (e : some (r.foldl min x) = some m)]
      rfl
theorem ev_max2 {i j : Int} (ha : Ev M ta σ Z H s (ty yInt i) s1) (hb : Ev M tb σ Z H s1 (ty yInt j) s2) : Ev M (tCB (fun xs H Q => ∃ i j, xs = [.int i, .int j] ∧ Q (.int (if j > i then j else i)) H) (tCons ta (tCons tb tNil))) σ Z H s (ty yInt (max i j)) s2 :=
  ev_cb (eva_cons ha (eva_cons hb eva_nil)) fun _ _ _ sz ⟨v, r, e1, h, w, r2, e2, h2, e3⟩ _ q => by
    cases e3; cases e2; cases e1; cases h; cases h2
    refine ⟨i, j, rfl, q _ _ _ (Step.refl sz) ?_⟩
    show V.int _ = V.int _
    by_cases c : j > i
    · rw [if_pos c, Int.max_eq_right (by omega)]
    · rw [if_neg c, Int.max_eq_left (by omega)]
theorem ev_min2 {i j : Int} (ha : Ev M ta σ Z H s (ty yInt i) s1) (hb : Ev M tb σ Z H s1 (ty yInt j) s2) : Ev M (tCB (fun xs H Q => ∃ i j, xs = [.int i, .int j] ∧ Q (.int (if j < i then j else i)) H) (tCons ta (tCons tb tNil))) σ Z H s (ty yInt (min i j)) s2 :=
  ev_cb (eva_cons ha (eva_cons hb eva_nil)) fun _ _ _ sz ⟨v, r, e1, h, w, r2, e2, h2, e3⟩ _ q => by
    cases e3; cases e2; cases e1; cases h; cases h2
    refine ⟨i, j, rfl, q _ _ _ (Step.refl sz) ?_⟩
    show V.int _ = V.int _
    by_cases c : j < i
    · rw [if_pos c, Int.min_eq_right (by omega)]
    · rw [if_neg c, Int.min_eq_left (by omega)]
theorem ev_int_of {i : Int} (ha : Ev M ta σ Z H s (ty yInt i) s1) : Ev M (tCB (fun xs H Q => (∃ i, xs = [.int i] ∧ Q (.int i) H) ∨ ∃ k, xs = [.bl k] ∧ Q (.int (if k then 1 else 0)) H) (tCons ta tNil)) σ Z H s (ty yInt i) s1 :=
  ev_cb (eva_cons ha eva_nil) fun _ _ _ sz ⟨v, r, e1, h, e2⟩ _ q => by
    cases e2; cases e1; cases h
    exact .inl ⟨i, rfl, q _ _ _ (Step.refl sz) rfl⟩
/-! ### in -/
/-- flat, and its equality is the thing's -/
structure FlatI {α : Type} (τ : Ty α) (f : α → V) : Prop where
  flat : Flat τ f
  fl : ∀ x, flatV (f x) = true
  eqv : ∀ x y, eqV (f x) (f y) = true ↔ x = y
theorem fi_int : FlatI yInt V.int := ⟨flat_int, fun _ => rfl, fun x y => by show (x == y) = true ↔ _; exact beq_iff_eq⟩
theorem fi_str : FlatI yStr V.str := ⟨flat_str, fun _ => rfl, fun x y => by show (x == y) = true ↔ _; exact beq_iff_eq⟩
theorem fi_bool : FlatI yBool V.bl := ⟨flat_bool, fun _ => rfl, fun x y => by show (x == y) = true ↔ _; exact beq_iff_eq⟩
section
variable {α : Type} [DecidableEq α] {τ : Ty α} {f : α → V} {x : α} {xs : List α}
theorem inV_map (F : FlatI τ f) : inV (f x) (xs.map f) = decide (x ∈ xs) := by
  unfold inV
  rw [List.any_map]
  apply Bool.eq_iff_iff.mpr
  rw [List.any_eq_true, decide_eq_true_iff]
  constructor
  · rintro ⟨y, hy, e⟩
    rw [← (F.eqv y x).mp e]; exact hy
  · exact fun h => ⟨x, h, (F.eqv x x).mpr rfl⟩
theorem flat_map (F : FlatI τ f) : (xs.map f).all flatV = true := by
  rw [List.all_map]
  exact List.all_eq_true.mpr fun y _ => F.fl y
theorem ev_in (F : FlatI τ f) (ha : Ev M ta σ Z H s (ty τ x) s1) (hb : Ev M tb σ Z H s1 (li τ xs) s2) : Ev M (tOp (rIn K false) ta tb) σ Z H s (ty yBool (decide (x ∈ xs))) s2 :=
  ev_op ha hb fun _ _ _ _ sz e1 e2 _ q => by
    obtain ⟨p, vs, rfl, g, t, _⟩ := rdl sz e2
    have ev := t.map (F.flat.eq _); subst ev
    rw [F.flat.eq _ _ _ e1]
    exact ⟨p, _, rfl, .inl (SqL.of g), F.fl x, flat_map F, q _ _ _ (Step.refl sz) (congrArg V.bl (inV_map F))⟩
theorem ev_notin (F : FlatI τ f) (ha : Ev M ta σ Z H s (ty τ x) s1) (hb : Ev M tb σ Z H s1 (li τ xs) s2) : Ev M (tOp (rIn K true) ta tb) σ Z H s (ty yBool (!decide (x ∈ xs))) s2 :=
  ev_op ha hb fun _ _ _ _ sz e1 e2 _ q => by
    obtain ⟨p, vs, rfl, g, t, _⟩ := rdl sz e2
    have ev := t.map (F.flat.eq _); subst ev
    rw [F.flat.eq _ _ _ e1]
    exact ⟨p, _, rfl, .inl (SqL.of g), F.fl x, flat_map F, q _ _ _ (Step.refl sz) (congrArg (fun b => V.bl (!b)) (inV_map F))⟩
theorem ev_inT (F : FlatI τ f) (ha : Ev M ta σ Z H s (ty τ x) s1) (hb : Ev M tb σ Z H s1 (ty (yTup K τ) xs) s2) : Ev M (tOp (rIn K false) ta tb) σ Z H s (ty yBool (decide (x ∈ xs))) s2 :=
  ev_op ha hb fun _ _ _ _ sz e1 ⟨p, vs, e, g, t, _⟩ _ q => by
    subst e
    have ev := t.map (F.flat.eq _); subst ev
    rw [F.flat.eq _ _ _ e1]
    exact ⟨p, _, rfl, .inr (seqT_same sz g), F.fl x, flat_map F, q _ _ _ (Step.refl sz) (congrArg V.bl (inV_map F))⟩
theorem ev_notinT (F : FlatI τ f) (ha : Ev M ta σ Z H s (ty τ x) s1) (hb : Ev M tb σ Z H s1 (ty (yTup K τ) xs) s2) : Ev M (tOp (rIn K true) ta tb) σ Z H s (ty yBool (!decide (x ∈ xs))) s2 :=
  ev_op ha hb fun _ _ _ _ sz e1 ⟨p, vs, e, g, t, _⟩ _ q => by
    subst e
    have ev := t.map (F.flat.eq _); subst ev
    rw [F.flat.eq _ _ _ e1]
    exact ⟨p, _, rfl, .inr (seqT_same sz g), F.fl x, flat_map F, q _ _ _ (Step.refl sz) (congrArg (fun b => V.bl (!b)) (inV_map F))⟩
end
end
end TP

namespace TP
open PySem PySem.Spec PyProof.Rows L2
section
variable {μ : Type} {M : Mu μ} {σ : L2.St} {Z H : Hp} {s s' s1 s2 s3 : μ} {ta tb tc te : TE} {t : TA} {K : PySem.W.Frag}
/-! ### equality of data -/
structure EqD (K : PySem.W.Frag) {α : Type} (τ : Ty α) (d : α → PyData) (n : Nat) : Prop where
  dp : ∀ Z H v x, Same Z H → τ.r Z v x → Dp K H v (d x)
  lay : ∀ Z v x, τ.r Z v x → (d x).canLay0 = true
  dep : ∀ x, (d x).depth ≤ n
  eqv : ∀ x y, PyData.eqv (d x) (d y) = true ↔ x = y
theorem eqd_int : EqD K yInt PyData.int 0 := ⟨fun _ _ _ x _ h => by cases h; exact .int x, fun _ _ _ _ => rfl, fun _ => Nat.le_refl _, fun x y => by simp [PyData.eqv]⟩
theorem eqd_bool : EqD K yBool PyData.bool 0 := ⟨fun _ _ _ x _ h => by cases h; exact .bl x, fun _ _ _ _ => rfl, fun _ => Nat.le_refl _, fun x y => by simp [PyData.eqv]⟩
theorem eqd_str : EqD K yStr PyData.str 0 := ⟨fun _ _ _ x _ h => by rw [h.1]; exact .str x, fun _ _ x h => by
  have := (Bool.and_eq_true_iff.mp (show (PyData.strOk x && decide (x.length ≤ sizeLine)) = true from h.2)).1
  simpa [PyData.canLay0] using this, fun _ => Nat.le_refl _, fun x y => by simp [PyData.eqv]⟩
theorem eqd_non : EqD K yNon (fun _ => PyData.none) 0 := ⟨fun _ _ _ x _ h => by cases h; exact .non, fun _ _ _ _ => rfl, fun _ => Nat.le_refl _, fun x y => by simp [PyData.eqv]⟩
section
variable {α β γ δ : Type} {τ : Ty α} {υ : Ty β} {φ : Ty γ} {ψ : Ty δ} {d : α → PyData} {e : β → PyData} {f : γ → PyData} {g : δ → PyData} {n m k l : Nat}
theorem EqD.all (E : EqD K τ d n) {Z H : Hp} (sz : Same Z H) : ∀ {vs : List V} {xs : List α}, All (τ.r Z) vs xs → DpAll K H vs (xs.map d)
  | _, _, .nil => .nil
  | _, _, .cons h t => .cons (E.dp _ _ _ _ sz h) (E.all sz t)
theorem EqD.lays (E : EqD K τ d n) {Z : Hp} : ∀ {vs : List V} {xs : List α}, All (τ.r Z) vs xs → PyData.canLayAll0 (xs.map d) = true
  | _, _, .nil => by simp [PyData.canLayAll0]
  | _, _, .cons h t => by
    have h1 := E.lay _ _ _ h
    have h2 := E.lays t
    simp [PyData.canLayAll0, h1, h2]
theorem EqD.deps (E : EqD K τ d n) : ∀ xs : List α, PyData.depthAll (xs.map d) ≤ n
  | [] => by simp [PyData.depthAll]
  | x :: r => by
    have h1 := E.dep x
    have h2 := E.deps r
    simp only [List.map_cons, PyData.depthAll]
    omega
theorem EqD.eqvs (E : EqD K τ d n) : ∀ xs ys : List α, PyData.eqvAll (xs.map d) (ys.map d) = true ↔ xs = ys
  | [], [] => by simp [PyData.eqvAll]
  | [], _ :: _ => by simp [PyData.eqvAll]
  | _ :: _, [] => by simp [PyData.eqvAll]
  | x :: xs, y :: ys => by
    simp only [List.map_cons, PyData.eqvAll, Bool.and_eq_true, E.eqv x y, E.eqvs xs ys, List.cons.injEq]
theorem eqd_list (E : EqD K τ d n) : EqD K (yList τ) (fun xs => .list (xs.map d)) (n + 1) where
  dp := fun Z H v x sz ⟨a, vs, e, h, t, _⟩ => by subst e; exact .lst (SqL.of (sz _ _ h)) (E.all sz t)
  lay := fun Z v x ⟨a, vs, e, h, t, _⟩ => by simpa [PyData.canLay0] using E.lays t
  dep := fun x => by have := E.deps x; simp only [PyData.depth]; omega
  eqv := fun x y => by simp only [PyData.eqv]; exact E.eqvs x y
theorem eqd_tup (E : EqD K τ d n) : EqD K (yTup K τ) (fun xs => .tuple (xs.map d)) (n + 1) where
  dp := fun Z H v x sz ⟨a, vs, e, h, t, _⟩ => by subst e; exact .tup (seqT_same sz h) (E.all sz t)
  lay := fun Z v x ⟨a, vs, e, h, t, _⟩ => by simpa [PyData.canLay0] using E.lays t
  dep := fun x => by have := E.deps x; simp only [PyData.depth]; omega
  eqv := fun x y => by simp only [PyData.eqv]; exact E.eqvs x y
theorem eqd_p1 (E : EqD K τ d n) : EqD K (yP1 K τ) (fun x => .tuple [d x]) (n + 1) where
  dp := fun Z H v x sz ⟨a, v1, e, h, h1⟩ => by subst e; exact .tup (seqT_same sz h) (.cons (E.dp _ _ _ _ sz h1) .nil)
  lay := fun Z v x ⟨a, v1, e, h, h1⟩ => by simp [PyData.canLay0, PyData.canLayAll0, E.lay _ _ _ h1]
  dep := fun x => by have := E.dep x; simp only [PyData.depth, PyData.depthAll]; omega
  eqv := fun x y => by simp only [PyData.eqv, PyData.eqvAll, Bool.and_true]; exact E.eqv x y
theorem eqd_p2 (E : EqD K τ d n) (F : EqD K υ e m) : EqD K (yP2 K τ υ) (fun x => .tuple [d x.1, e x.2]) (max n m + 1) where
  dp := fun Z H v x sz ⟨a, v1, v2, e, h, h1, h2⟩ => by subst e; exact .tup (seqT_same sz h) (.cons (E.dp _ _ _ _ sz h1) (.cons (F.dp _ _ _ _ sz h2) .nil))
  lay := fun Z v x ⟨a, v1, v2, e, h, h1, h2⟩ => by simp [PyData.canLay0, PyData.canLayAll0, E.lay _ _ _ h1, F.lay _ _ _ h2]
  dep := fun x => by have := E.dep x.1; have := F.dep x.2; simp only [PyData.depth, PyData.depthAll]; omega
  eqv := fun x y => by
    simp only [PyData.eqv, PyData.eqvAll, Bool.and_true, Bool.and_eq_true, E.eqv, F.eqv]
    exact Prod.ext_iff.symm
theorem eqd_p3 (E : EqD K τ d n) (F : EqD K υ e m) (G : EqD K φ f k) : EqD K (yP3 K τ υ φ) (fun x => .tuple [d x.1, e x.2.1, f x.2.2]) (max n (max m k) + 1) where
  dp := fun Z H v x sz ⟨a, v1, v2, v3, e, h, h1, h2, h3⟩ => by subst e; exact .tup (seqT_same sz h) (.cons (E.dp _ _ _ _ sz h1) (.cons (F.dp _ _ _ _ sz h2) (.cons (G.dp _ _ _ _ sz h3) .nil)))
  lay := fun Z v x ⟨a, v1, v2, v3, e, h, h1, h2, h3⟩ => by simp [PyData.canLay0, PyData.canLayAll0, E.lay _ _ _ h1, F.lay _ _ _ h2, G.lay _ _ _ h3]
  dep := fun x => by have := E.dep x.1; have := F.dep x.2.1; have := G.dep x.2.2; simp only [PyData.depth, PyData.depthAll]; omega
  eqv := fun x y => by
    simp only [PyData.eqv, PyData.eqvAll, Bool.and_true, Bool.and_eq_true, E.eqv, F.eqv, G.eqv]
    rw [Prod.ext_iff, Prod.ext_iff]
theorem eqd_p4 (E : EqD K τ d n) (F : EqD K υ e m) (G : EqD K φ f k) (I : EqD K ψ g l) : EqD K (yP4 K τ υ φ ψ) (fun x => .tuple [d x.1, e x.2.1, f x.2.2.1, g x.2.2.2]) (max n (max m (max k l)) + 1) where
  dp := fun Z H v x sz ⟨a, v1, v2, v3, v4, e, h, h1, h2, h3, h4⟩ => by subst e; exact .tup (seqT_same sz h) (.cons (E.dp _ _ _ _ sz h1) (.cons (F.dp _ _ _ _ sz h2) (.cons (G.dp _ _ _ _ sz h3) (.cons (I.dp _ _ _ _ sz h4) .nil))))
  lay := fun Z v x ⟨a, v1, v2, v3, v4, e, h, h1, h2, h3, h4⟩ => by simp [PyData.canLay0, PyData.canLayAll0, E.lay _ _ _ h1, F.lay _ _ _ h2, G.lay _ _ _ h3, I.lay _ _ _ h4]
  dep := fun x => by have := E.dep x.1; have := F.dep x.2.1; have := G.dep x.2.2.1; have := I.dep x.2.2.2; simp only [PyData.depth, PyData.depthAll]; omega
  eqv := fun x y => by
    simp only [PyData.eqv, PyData.eqvAll, Bool.and_true, Bool.and_eq_true, E.eqv, F.eqv, G.eqv, I.eqv]
    rw [Prod.ext_iff, Prod.ext_iff, Prod.ext_iff]
def optD (d : α → PyData) : Option α → PyData
  | none => .none
  | some x => d x
theorem eqv_none : ∀ c : PyData, PyData.eqv .none c = true ↔ c = .none
  | .none => by simp [PyData.eqv]
  | .bool _ => by simp [PyData.eqv]
  | .int _ => by simp [PyData.eqv]
  | .str _ => by simp [PyData.eqv]
  | .list _ => by simp [PyData.eqv]
  | .tuple _ => by simp [PyData.eqv]
  | .dict _ => by simp [PyData.eqv]
theorem none_eqv : ∀ c : PyData, PyData.eqv c .none = true ↔ c = .none
  | .none => by simp [PyData.eqv]
  | .bool _ => by simp [PyData.eqv]
  | .int _ => by simp [PyData.eqv]
  | .str _ => by simp [PyData.eqv]
  | .list _ => by simp [PyData.eqv]
  | .tuple _ => by simp [PyData.eqv]
  | .dict _ => by simp [PyData.eqv]
theorem eqd_opt (E : EqD K τ d n) (nn : ∀ x, d x ≠ .none) : EqD K (yOpt τ) (optD d) n where
  dp := fun Z H v x sz h => match x, h with
    | none, h => by rw [show v = .non from h]; exact .non
    | some x, h => E.dp _ _ _ _ sz h.1
  lay := fun Z v x h => match x, h with
    | none, h => rfl
    | some x, h => E.lay _ _ _ h.1
  dep := fun x => match x with
    | none => Nat.zero_le _
    | some x => E.dep x
  eqv := fun x y => match x, y with
    | none, none => by simp [optD, PyData.eqv]
    | none, some y => by simp [optD, eqv_none, nn y]
    | some x, none => by simp [optD, none_eqv, nn x]
    | some x, some y => by simp [optD, E.eqv x y]
end
/-- the value is read as the data d -/
def GD {fp : List Addr} (K : PySem.W.Frag) (R : Rr fp) (d : PyData) : Prop := ∀ Z H v, Same Z H → R.r Z H v → Dp K H v d ∧ d.canLay0 = true
theorem EqD.gd {fp : List Addr} {α : Type} {τ : Ty α} {d : α → PyData} {n : Nat} (E : EqD K τ d n) (x : α) : GD K (ty (fp := fp) τ x) (d x) := fun _ _ _ sz h => ⟨E.dp _ _ _ _ sz h, E.lay _ _ _ h⟩
theorem EqD.gdl {fp : List Addr} {α : Type} {τ : Ty α} {d : α → PyData} {n : Nat} (E : EqD K τ d n) (xs : List α) : GD K (li (fp := fp) τ xs) (.list (xs.map d)) := fun _ _ _ sz h => by
  obtain ⟨p, vs, rfl, g, t, _⟩ := rdl sz h
  exact ⟨.lst (SqL.of g) (E.all sz t), by simpa [PyData.canLay0] using E.lays t⟩
theorem shaped_of {d : PyData} {n : Nat} (h : d.canLay0 = true) (l : d.depth ≤ n) (hn : n ≤ 64) : SeqAt.shaped d = true := by
  unfold SeqAt.shaped
  rw [h, Bool.true_and]
  exact decide_eq_true (by omega)
theorem ev_eqG {R R' : Rr M.fp} {c c' : PyData} {P : Prop} [Decidable P] (hc : PyData.eqv c c' = true ↔ P) (G : GD K R c) (G' : GD K R' c') (l : c.depth ≤ 64) (l' : c'.depth ≤ 64) (ha : Ev M ta σ Z H s R s1) (hb : Ev M tb σ Z H s1 R' s2) : Ev M (tOp (rEqD K) ta tb) σ Z H s (ty yBool (decide P)) s2 :=
  ev_op ha hb fun _ _ _ _ sz e1 e2 _ q => by
    obtain ⟨d1, k1⟩ := G _ _ _ sz e1
    obtain ⟨d2, k2⟩ := G' _ _ _ sz e2
    exact ⟨c, c', d1, d2, shaped_of k1 l (Nat.le_refl _), shaped_of k2 l' (Nat.le_refl _), q _ _ _ (Step.refl sz) (congrArg V.bl (Bool.eq_iff_iff.mpr (hc.trans decide_eq_true_iff.symm)))⟩
theorem ev_neG {R R' : Rr M.fp} {c c' : PyData} {P : Prop} [Decidable P] (hc : PyData.eqv c c' = true ↔ P) (G : GD K R c) (G' : GD K R' c') (l : c.depth ≤ 64) (l' : c'.depth ≤ 64) (ha : Ev M ta σ Z H s R s1) (hb : Ev M tb σ Z H s1 R' s2) : Ev M (tOp (rNeD K) ta tb) σ Z H s (ty yBool (!decide P)) s2 :=
  ev_op ha hb fun _ _ _ _ sz e1 e2 _ q => by
    obtain ⟨d1, k1⟩ := G _ _ _ sz e1
    obtain ⟨d2, k2⟩ := G' _ _ _ sz e2
    exact ⟨c, c', d1, d2, shaped_of k1 l (Nat.le_refl _), shaped_of k2 l' (Nat.le_refl _), q _ _ _ (Step.refl sz) (congrArg (fun b => V.bl (!b)) (Bool.eq_iff_iff.mpr (hc.trans decide_eq_true_iff.symm)))⟩
section
variable {α : Type} [DecidableEq α] {τ : Ty α} {d : α → PyData} {n : Nat} {x y : α} {xs ys : List α}
theorem ev_eqD (E : EqD K τ d n) (hn : n ≤ 64) (ha : Ev M ta σ Z H s (ty τ x) s1) (hb : Ev M tb σ Z H s1 (ty τ y) s2) : Ev M (tOp (rEqD K) ta tb) σ Z H s (ty yBool (decide (x = y))) s2 :=
  ev_eqG (E.eqv x y) (E.gd x) (E.gd y) (Nat.le_trans (E.dep x) hn) (Nat.le_trans (E.dep y) hn) ha hb
theorem ev_neD (E : EqD K τ d n) (hn : n ≤ 64) (ha : Ev M ta σ Z H s (ty τ x) s1) (hb : Ev M tb σ Z H s1 (ty τ y) s2) : Ev M (tOp (rNeD K) ta tb) σ Z H s (ty yBool (!decide (x = y))) s2 :=
  ev_neG (E.eqv x y) (E.gd x) (E.gd y) (Nat.le_trans (E.dep x) hn) (Nat.le_trans (E.dep y) hn) ha hb
theorem depL (E : EqD K τ d n) (hn : n + 1 ≤ 64) : (PyData.list (xs.map d)).depth ≤ 64 := by have := E.deps xs; simp only [PyData.depth]; omega
theorem ev_eqL (E : EqD K τ d n) (hn : n + 1 ≤ 64) (ha : Ev M ta σ Z H s (li τ xs) s1) (hb : Ev M tb σ Z H s1 (li τ ys) s2) : Ev M (tOp (rEqD K) ta tb) σ Z H s (ty yBool (decide (xs = ys))) s2 :=
  ev_eqG (by simp only [PyData.eqv]; exact E.eqvs xs ys) (E.gdl xs) (E.gdl ys) (depL E hn) (depL E hn) ha hb
theorem ev_neL (E : EqD K τ d n) (hn : n + 1 ≤ 64) (ha : Ev M ta σ Z H s (li τ xs) s1) (hb : Ev M tb σ Z H s1 (li τ ys) s2) : Ev M (tOp (rNeD K) ta tb) σ Z H s (ty yBool (!decide (xs = ys))) s2 :=
  ev_neG (by simp only [PyData.eqv]; exact E.eqvs xs ys) (E.gdl xs) (E.gdl ys) (depL E hn) (depL E hn) ha hb
end
theorem en_cast {α : Type} {τ : Ty α} {xs ys : List α} (h : EvN M te σ Z H s τ xs s1) (e : xs = ys) : EvN M te σ Z H s τ ys s1 := e ▸ h
theorem ev_chain {i j k : Int} {p r : Int → Int → Bool} (ha : Ev M ta σ Z H s (ty yInt i) s1) (hb : Ev M tb σ Z H s1 (ty yInt j) s1) (hc : Ev M tc σ Z H s1 (ty yInt k) s1) : Ev M (tChain (rI0 fun i j => .bl (p i j)) (rI0 fun i j => .bl (r i j)) ta tb tc) σ Z H s (ty yBool (p i j && r j k)) s1 :=
  fun Z1 H1 a b c d Q q => ha Z1 H1 a b c d _ fun v Z2 H2 e m rv => hb Z2 H2 (a.trans e.z) (b.trans e.h) e.s m _ fun w Z3 H3 e2 m2 rw => ⟨i, j, rv, rw, p i j, rfl, by
    have e3 := e.trans e2
    cases hp : p i j with
    | true => rw [if_pos rfl]; exact hc Z3 H3 (a.trans e3.z) (b.trans e3.h) e3.s m2 _ fun u Z4 H4 e4 m4 ru => ⟨j, k, rw, ru, q _ Z4 H4 (e3.trans e4) m4 (by rw [hp]; rfl)⟩
    | false => rw [if_neg Bool.false_ne_true]; exact q _ Z3 H3 e3 m2 (by rw [hp]; rfl)⟩
theorem ev_chainO {i j k : Int} {b : Bool} {o : Option Bool} {p r : Int → Int → Bool} (ha : Ev M ta σ Z H s (ty yInt i) s1) (hb : Ev M tb σ Z H s1 (ty yInt j) s1) (hc : p i j = true → Ev M tc σ Z H s1 (ty yInt k) s1) : Ev M (tChain (rI0 fun i j => .bl (p i j)) (rI0 fun i j => .bl (r i j)) ta tb tc) σ Z H s (ty yBool (p i j && r j k)) s1 :=
  fun Z1 H1 a b c d Q q => ha Z1 H1 a b c d _ fun v Z2 H2 e m rv => hb Z2 H2 (a.trans e.z) (b.trans e.h) e.s m _ fun w Z3 H3 e2 m2 rw => ⟨i, j, rv, rw, p i j, rfl, by
    have e3 := e.trans e2
    cases hp : p i j with
    | true => rw [if_pos rfl]; exact hc hp Z3 H3 (a.trans e3.z) (b.trans e3.h) e3.s m2 _ fun u Z4 H4 e4 m4 ru => ⟨j, k, rw, ru, q _ Z4 H4 (e3.trans e4) m4 (by rw [hp]; rfl)⟩
    | false => rw [if_neg Bool.false_ne_true]; exact q _ Z3 H3 e3 m2 (by rw [hp]; rfl)⟩
section
variable {a b : Bool} {o o' : Option Bool} {tA tB' tt : TT}
theorem ev_andO (ha : Ev M ta σ Z H s (ty yBool a) s1) (hb : a = true → ∀ y, o = some y → Ev M tb σ Z H s1 (ty yBool y) s1) (h : (if a = true then o else some false) = some b) : Ev M (tAndV ta tb) σ Z H s (ty yBool b) s1 :=
  ev_and (o := o.map fun y => (y, s1)) ha (fun e y s' hy => by obtain ⟨z, hz, e2⟩ := Option.map_eq_some_iff.mp hy; cases e2; exact hb e _ hz) (by
    cases a with
    | true => rw [if_pos rfl] at h ⊢; rw [h]; rfl
    | false => rw [if_neg Bool.false_ne_true] at h ⊢; rw [← Option.some.inj h])
theorem ev_orO (ha : Ev M ta σ Z H s (ty yBool a) s1) (hb : a = false → ∀ y, o = some y → Ev M tb σ Z H s1 (ty yBool y) s1) (h : (if a = true then some true else o) = some b) : Ev M (tOrV ta tb) σ Z H s (ty yBool b) s1 :=
  ev_or (o := o.map fun y => (y, s1)) ha (fun e y s' hy => by obtain ⟨z, hz, e2⟩ := Option.map_eq_some_iff.mp hy; cases e2; exact hb e _ hz) (by
    cases a with
    | false => rw [if_neg Bool.false_ne_true] at h ⊢; rw [h]; rfl
    | true => rw [if_pos rfl] at h ⊢; rw [← Option.some.inj h])
theorem et_andO (ha : EvT M tA σ Z H s a s1) (hb : a = true → ∀ y, o = some y → EvT M tB' σ Z H s1 y s1) (h : (if a = true then o else some false) = some b) : EvT M (tAnd tA tB') σ Z H s b s1 :=
  et_and (o := o.map fun y => (y, s1)) ha (fun e y s' hy => by obtain ⟨z, hz, e2⟩ := Option.map_eq_some_iff.mp hy; cases e2; exact hb e _ hz) (by
    cases a with
    | true => rw [if_pos rfl] at h ⊢; rw [h]; rfl
    | false => rw [if_neg Bool.false_ne_true] at h ⊢; rw [← Option.some.inj h])
theorem et_orO (ha : EvT M tA σ Z H s a s1) (hb : a = false → ∀ y, o = some y → EvT M tB' σ Z H s1 y s1) (h : (if a = true then some true else o) = some b) : EvT M (tOr tA tB') σ Z H s b s1 :=
  et_or (o := o.map fun y => (y, s1)) ha (fun e y s' hy => by obtain ⟨z, hz, e2⟩ := Option.map_eq_some_iff.mp hy; cases e2; exact hb e _ hz) (by
    cases a with
    | false => rw [if_neg Bool.false_ne_true] at h ⊢; rw [h]; rfl
    | true => rw [if_pos rfl] at h ⊢; rw [← Option.some.inj h])
end
/-! ### fields, calls -/
/-- the attribute f of things of this kind -/
def FldOf {α β : Type} (τ : Ty α) (C : Addr) (f : Str) (υ : Ty β) (pr : α → β) : Prop := ∀ Z v x, τ.r Z v x → ∃ a dx fs w, v = .ref a ∧ Z a = some (.ins C dx fs) ∧ fs.lookup f = some w ∧ υ.r Z w (pr x)
theorem ev_fld {α β : Type} {τ : Ty α} {υ : Ty β} {C : Addr} {f : Str} {pr : α → β} {x : α} (F : FldOf τ C f υ pr) (c : Cls K C) (n : NoAttr K C f) (ha : Ev M ta σ Z H s (ty τ x) s1) : Ev M (tFld K ta f) σ Z H s (ty υ (pr x)) s1 :=
  fun Z1 H1 a b c' d Q q => ha Z1 H1 a b c' d _ fun v Z2 H2 e m rv => by
    obtain ⟨p, dx, fs, w, rfl, hp, l, rw'⟩ := F _ _ _ rv
    exact ⟨p, C, dx, fs, w, rfl, e.s _ _ hp, c, n, l, q _ _ _ e m rw'⟩
/-- things of this kind are instances of the class at C without an own attribute m -/
def ObjOf {α : Type} (τ : Ty α) (C : Addr) (m : Str) : Prop := ∀ Z v x, τ.r Z v x → ∃ a dx fs, v = .ref a ∧ Z a = some (.ins C dx fs) ∧ fs.lookup m = none
/-- what a promise gives for arguments of which Rs is true -/
def CallS (M : Mu μ) (sp : Sp) (E : XK) (Rs : Ra M.fp) (s : μ) (R : Rr M.fp) (s' : μ) : Prop :=
  ∀ Z H vs, Same Z H → M.m s Z H → Rs.r Z H vs → ∀ Q : VK, (∀ v Z2 H2, Step M.fp Z H Z2 H2 → M.m s' Z2 H2 → R.r Z2 H2 v → Q v H2) → sp vs H Q E
theorem ev_call {sp : Sp} {E : XK} {Rs : Ra M.fp} {R : Rr M.fp} (C : CallS M sp E Rs s1 R s2) (ha : EvA M t σ Z H s Rs s1) : Ev M (tCall sp [] E t) σ Z H s R s2 :=
  fun Z1 H1 a b c d Q q => ha Z1 H1 a b c d _ fun vs Z2 H2 e m rs => by
    rw [List.append_nil]
    exact C Z2 H2 vs e.s m rs Q fun v Z3 H3 e2 m2 rv => q v Z3 H3 (e.trans e2) m2 rv
theorem ev_meth {α : Type} {τ : Ty α} {x : α} {C' : Addr} {m : Str} {sp : Sp} {E : XK} {Rs : Ra M.fp} {R : Rr M.fp} (O : ObjOf τ C' m) (C : CallS M sp E (rac (ty τ x) Rs) s2 R s3) (hx : Ev M ta σ Z H s (ty τ x) s1) (ha : EvA M t σ Z H s1 Rs s2) : Ev M (tMeth C' m sp [] E ta t) σ Z H s R s3 :=
  fun Z1 H1 a b c d Q q => hx Z1 H1 a b c d _ fun v Z2 H2 e mm rv => by
    obtain ⟨p, dx, fs, rfl, hp, l⟩ := O _ _ _ rv
    refine ⟨p, dx, fs, rfl, e.s _ _ hp, l, ha Z2 H2 (a.trans e.z) (b.trans e.h) e.s mm _ fun vs Z3 H3 e2 m2 rs => ?_⟩
    rw [List.append_nil]
    exact C Z3 H3 _ e2.s m2 ⟨_, vs, rfl, τ.mono e2.z rv, rs⟩ Q fun v Z4 H4 e3 m3 rv' => q v Z4 H4 ((e.trans e2).trans e3) m3 rv'
theorem ev_meth0 {α : Type} {τ : Ty α} {x : α} {C' : Addr} {m : Str} {sp : Sp} {E : XK} {R : Rr M.fp} (O : ObjOf τ C' m) (C : CallS M sp E (rac (ty τ x) ra0) s1 R s2) (hx : Ev M ta σ Z H s (ty τ x) s1) : Ev M (tMeth C' m sp [] E ta tNil) σ Z H s R s2 := ev_meth O C hx eva_nil
theorem ev_prop {α : Type} {τ : Ty α} {x : α} {C' : Addr} {m : Str} {sp : Sp} {E : XK} {R : Rr M.fp} (O : ObjOf τ C' m) (C : CallS M sp E (rac (ty τ x) ra0) s1 R s2) (hx : Ev M ta σ Z H s (ty τ x) s1) : Ev M (tProp C' sp [] E ta) σ Z H s R s2 :=
  fun Z1 H1 a b c d Q q => hx Z1 H1 a b c d _ fun v Z2 H2 e mm rv => by
    obtain ⟨p, dx, fs, rfl, hp, l⟩ := O _ _ _ rv
    exact ⟨p, dx, fs, rfl, e.s _ _ hp, C Z2 H2 _ e.s mm ⟨_, [], rfl, rv, rfl⟩ Q fun v Z4 H4 e3 m3 rv' => q v Z4 H4 (e.trans e3) m3 rv'⟩
/-- what the __init__ of the class at C makes of a new instance: a thing of which R is true -/
def InitS (M : Mu μ) (C : Addr) (sp : Sp) (E : XK) (Rs : Ra M.fp) (s : μ) (R : Rr M.fp) (s' : μ) : Prop :=
  ∀ Z H vs x dx, Same Z H → M.m s Z H → Rs.r Z H vs → H x = some (.ins C dx []) → Z x = none → x ∉ M.fp → ∀ Q : VK, (∀ Z2 H2 o, Step (x :: M.fp) Z H Z2 H2 → M.m s' Z2 H2 → H2 x = some o → R.r (upd Z2 x o) H2 (.ref x) → Q .non H2) → sp (.ref x :: vs) H Q E
theorem Step.dict {Z H : Hp} {x dx C : Addr} (sz : Same Z H) (hx : H x = none) (hd : H dx = none) (ne : dx ≠ x) : Step [] Z H Z (upd (upd H dx (.own x)) x (.ins C dx [])) :=
  (Step.own sz hd).trans (Step.own (Step.own sz hd).s (by rw [upd_ne ne.symm]; exact hx))
theorem Step.freeze {S : List Addr} {Z H Z1 H1 : Hp} {x : Addr} {o : HO} (g : Step (x :: S) Z H Z1 H1) (hx : H x = none) (h1 : H1 x = some o) (hz : Z1 x = none) : Step S Z H (upd Z1 x o) H1 := by
  have g' : Step S Z H Z1 H1 := g.weak fun a h => by
    rcases List.mem_cons.mp h with e | h
    · exact .inr (e ▸ hx)
    · exact .inl h
  refine ⟨g'.z.trans (same_upd hz), fun a u e => ?_, g'.h, fun a h z => ?_, g'.al⟩
  · by_cases q : a = x
    · subst q; rw [upd_same] at e; rw [← Option.some.inj e]; exact h1
    · rw [upd_ne q] at e; exact g'.s a u e
  · rw [upd_ne (ne_of_some h hx)]; exact g'.n a h z
theorem ev_make {C : Addr} {sp : Sp} {E : XK} {Rs : Ra M.fp} {R : Rr M.fp} (I : InitS M C sp E Rs s1 R s2) (ha : EvA M t σ Z H s Rs s1) : Ev M (tMake C sp [] E t) σ Z H s R s2 :=
  fun Z1 H1 a b c d Q q => ha Z1 H1 a b c d _ fun vs Z2 H2 e m rs x dx hx hd ne => by
    rw [List.append_nil]
    have st := Step.dict (C := C) e.s hx hd ne
    have nf : x ∉ M.fp := fun h => (M.al m x h).1 hx
    refine I Z2 _ vs x dx st.s (M.pure st m) (Rs.st st.pure rs) upd_same (same_none e.s hx) nf _ fun Z3 H3 o e2 m2 ho rv => ⟨rfl, ?_⟩
    have hz3 : Z3 x = none := e2.n x (by rw [upd_same]; exact fun z => nomatch z) (same_none e.s hx)
    have e3 : Step M.fp Z2 H2 (upd Z3 x o) H3 := ((st.pure (S := x :: M.fp)).trans e2).freeze hx ho hz3
    refine q _ _ _ (e.trans e3) (M.loc (same_upd hz3) (fun _ _ _ e => e) (fun a ha _ z => ?_) m2) rv
    rw [upd_ne (fun q => nf (by rw [← q]; exact ha))]
    exact z
theorem ev_makeK {C : Addr} {n k : Nat} {sp : Sp} {E : XK} {Rs Rk Rs' : Ra M.fp} {R : Rr M.fp} {gV : List V → List V → List V} {tk : TA} (I : InitS M C sp E Rs' s2 R s3) (ha : EvA M t σ Z H s Rs s1) (hk : EvA M tk σ Z H s1 Rk s2)
    (hg : ∀ Z H vs zs x, Rs.r Z H vs → Rk.r Z H zs → vs.length = n ∧ zs.length = k ∧ ∃ ws, gV (.ref x :: vs) zs = .ref x :: ws ∧ Rs'.r Z H ws) : Ev M (tMakeK C n k sp gV E t tk) σ Z H s R s3 :=
  fun Z1 H1 a b c d Q q => ha Z1 H1 a b c d _ fun vs Z2 H2 e m rs => hk Z2 H2 (a.trans e.z) (b.trans e.h) e.s m _ fun zs Z3 H3 e1 m1 rk => by
    have rs3 := Rs.st e1 rs
    obtain ⟨l1, l2, _⟩ := hg Z3 H3 vs zs 0 rs3 rk
    refine ⟨l1, l2, fun x dx hx hd ne => ?_⟩
    obtain ⟨_, _, ws, eg, rw'⟩ := hg Z3 H3 vs zs x rs3 rk
    rw [eg]
    have st := Step.dict (C := C) e1.s hx hd ne
    have nf : x ∉ M.fp := fun h => (M.al m1 x h).1 hx
    refine I Z3 _ ws x dx st.s (M.pure st m1) (Rs'.st st.pure rw') upd_same (same_none e1.s hx) nf _ fun Z4 H4 o e2 m2 ho rv => ⟨rfl, ?_⟩
    have hz3 : Z4 x = none := e2.n x (by rw [upd_same]; exact fun z => nomatch z) (same_none e1.s hx)
    have e3 : Step M.fp Z3 H3 (upd Z4 x o) H4 := ((st.pure (S := x :: M.fp)).trans e2).freeze hx ho hz3
    refine q _ _ _ ((e.trans e1).trans e3) (M.loc (same_upd hz3) (fun _ _ _ e => e) (fun a ha _ z => ?_) m2) rv
    rw [upd_ne (fun q => nf (by rw [← q]; exact ha))]
    exact z
/-! ### what is walked -/
/-- the things xs, of the kind τ, one after the other; what stands at F may change meanwhile -/
def WalkT {α : Type} (X : Hp → Hp → Prop) (J : It) (Z H : Hp) (τ : Ty α) (xs : List α) : Prop := xs.length ≤ sizeLine ∧ ∃ G Y, Walk J xs.length G Y ∧ (∀ Z' H', Same Z Z' → Same Z' H' → X H H' → G H') ∧
  ∀ i Z' H' v H'', i < xs.length → Same Z Z' → Same Z' H' → G H' → Y i H' v H'' → ∃ Z'' x, xs[i]? = some x ∧ Step [] Z' H' Z'' H'' ∧ τ.r Z'' v x
def EvI {α : Type} (M : Mu μ) (X : Hp → Hp → Prop) (wi : TI) (σ : L2.St) (Z H : Hp) (s : μ) (τ : Ty α) (xs : List α) (s' : μ) : Prop :=
  ∀ Z1 H1, Same Z Z1 → SameX M.fp H H1 → Same Z1 H1 → M.m s Z1 H1 → ∀ R : It → Hp → Prop, (∀ J Z2 H2, Step M.fp Z1 H1 Z2 H2 → M.m s' Z2 H2 → WalkT X J Z2 H2 τ xs → R J H2) → wi σ H1 R
section
variable {α β : Type} {τ : Ty α} {υ : Ty β} {xs : List α} {X : Hp → Hp → Prop}
theorem walk_at {J : It} {vs : List V} {G : Hp → Prop} (w : Walk J vs.length G (YAt vs)) {Z H : Hp} (hG : ∀ Z' H', Same Z Z' → Same Z' H' → X H H' → G H') (t : All (τ.r Z) vs xs) (l : xs.length ≤ sizeLine) : WalkT X J Z H τ xs := by
  refine ⟨l, G, YAt vs, by rw [← t.len]; exact w, hG, fun i Z' H' v H'' hi z sz _ y => ?_⟩
  obtain ⟨e, y⟩ := y
  subst e
  obtain ⟨x, ex, rx⟩ := t.get y
  exact ⟨Z', x, ex, Step.refl sz, τ.mono z rx⟩
theorem ei_list (ha : Ev M ta σ Z H s (ty (yList τ) xs) s1) : EvI M X (iList K ta) σ Z H s τ xs s1 :=
  fun Z1 H1 a b c d R q => ha Z1 H1 a b c d _ fun v Z2 H2 e m ⟨p, vs, ev, h, t, l⟩ => by
    subst ev
    exact ⟨p, rfl, ⟨vs, SqL.of (e.s _ _ h)⟩, q _ Z2 H2 e m (walk_at walk_list (fun Z' H' z sz _ => SqL.of (sz _ _ (z _ _ h))) t l)⟩
theorem ei_own (ha : Ev M ta σ Z H s (li τ xs) s1) : EvI M (SameX M.fp) (iList K ta) σ Z H s τ xs s1 :=
  fun Z1 H1 a b c d R q => ha Z1 H1 a b c d _ fun v Z2 H2 e m ⟨p, vs, ev, h, t, l⟩ => by
    subst ev
    refine ⟨p, rfl, ⟨vs, SqL.of (h.get e.s)⟩, q _ Z2 H2 e m (walk_at walk_list (fun Z' H' z sz x => ?_) t l)⟩
    rcases h with h | h
    · exact SqL.of (sz _ _ (z _ _ h))
    · exact SqL.of (x _ _ h.2 h.1)
theorem ei_tup (ha : Ev M ta σ Z H s (ty (yTup K τ) xs) s1) : EvI M X (iTup K ta) σ Z H s τ xs s1 :=
  fun Z1 H1 a b c d R q => ha Z1 H1 a b c d _ fun v Z2 H2 e m ⟨p, vs, ev, h, t, l⟩ => by
    subst ev
    exact ⟨p, rfl, ⟨vs, seqT_same e.s h⟩, q _ Z2 H2 e m (walk_at walk_tup (fun Z' H' z sz _ => seqT_same sz (seqT_same z h)) t l)⟩
def rangeZ (lo hi : Int) : List Int := (List.range (hi - lo).toNat).map fun (i : Nat) => lo + (i : Int)
def RangeOk (lo hi : Int) : Prop := (-(2 ^ 62) ≤ lo ∧ lo < 2 ^ 62) ∧ (-(2 ^ 62) ≤ hi ∧ hi < 2 ^ 62) ∧ hi - lo ≤ 16777216
instance {lo hi : Int} : Decidable (RangeOk lo hi) := inferInstanceAs (Decidable (_ ∧ _ ∧ _))
theorem rangeZ_len (lo hi : Int) : (rangeZ lo hi).length = (hi - lo).toNat := by unfold rangeZ; rw [List.length_map, List.length_range]
theorem walk_rng {lo hi : Int} {Z H : Hp} (l : hi - lo ≤ 16777216) : WalkT X (Itr lo (hi - lo).toNat) Z H yInt (rangeZ lo hi) := by
  refine ⟨by rw [rangeZ_len]; show (hi - lo).toNat ≤ 2 ^ 24; omega, fun _ => True, YFn fun i => .int (lo + i), by rw [rangeZ_len]; exact walk_range, fun _ _ _ _ _ => trivial, fun i Z' H' v H'' hi z sz _ y => ?_⟩
  obtain ⟨e, y⟩ := y
  subst e
  rw [rangeZ_len] at hi
  refine ⟨Z', lo + (i : Int), ?_, Step.refl sz, y⟩
  unfold rangeZ
  rw [List.getElem?_map, List.getElem?_range hi]
  rfl
theorem ei_rng1 {i : Int} (ha : Ev M ta σ Z H s (ty yInt i) s1) (h1 : RangeOk 0 i) : EvI M X (iRng1 (tCons ta tNil)) σ Z H s yInt (rangeZ 0 i) s1 :=
  fun Z1 H1 a b c d R q => eva_cons ha eva_nil Z1 H1 a b c d _ fun vs Z2 H2 e m ⟨v, r, e1, h, e2⟩ => by
    cases e2; cases h
    refine ⟨i, e1, h1.2.1.1, h1.2.1.2, q _ Z2 H2 e m ?_⟩
    have := walk_rng (X := X) (lo := 0) (hi := i) (Z := Z2) (H := H2) h1.2.2
    rw [Int.sub_zero] at this
    exact this
theorem ei_rng2 {i j : Int} (ha : Ev M ta σ Z H s (ty yInt i) s1) (hb : Ev M tb σ Z H s1 (ty yInt j) s2) (h1 : RangeOk i j) : EvI M X (iRng2 (tCons ta (tCons tb tNil))) σ Z H s yInt (rangeZ i j) s2 :=
  fun Z1 H1 a b c d R q => eva_cons ha (eva_cons hb eva_nil) Z1 H1 a b c d _ fun vs Z2 H2 e m ⟨v, r, e1, h, w, r2, e3, h3, e2⟩ => by
    cases e2; cases h; cases h3; cases e3
    exact ⟨i, j, e1, ⟨h1.1.1, h1.1.2, h1.2.1.1, h1.2.1.2⟩, q _ Z2 H2 e m (walk_rng h1.2.2)⟩
/-- pairs that are laid turn by turn -/
theorem walk_pairs {ys : List β} {vs ws : List V} {J : It} {G : Hp → Prop} (n : Nat) (hn : n = min vs.length ws.length) (w : Walk J n G (YPair (fun i => vs[i]?) (fun i => ws[i]?))) {Z H : Hp} (hG : ∀ Z' H', Same Z Z' → Same Z' H' → X H H' → G H') (t : All (τ.r Z) vs xs) (u : All (υ.r Z) ws ys) (l : vs.length ≤ sizeLine) : WalkT X J Z H (yP2 K τ υ) (xs.zip ys) := by
  have ln : (xs.zip ys).length = n := by rw [List.length_zip, ← t.len, ← u.len, hn]
  refine ⟨by rw [ln, hn]; omega, G, _, by rw [ln]; exact w, hG, fun i Z' H' v H'' hi z sz _ y => ?_⟩
  obtain ⟨T, v1, v2, rfl, nT, rfl, g1, g2⟩ := y
  obtain ⟨x1, ex1, rx1⟩ := t.get g1
  obtain ⟨x2, ex2, rx2⟩ := u.get g2
  have st := Step.new (o := .tup [v1, v2]) sz nT
  exact ⟨upd Z' T (.tup [v1, v2]), (x1, x2), by rw [List.getElem?_zip_eq_some]; exact ⟨ex1, ex2⟩, st, T, v1, v2, rfl, sqT_new, τ.mono (z.trans st.z) rx1, υ.mono (z.trans st.z) rx2⟩
def enumZ {α : Type} (xs : List α) : List (Int × α) := (rangeZ 0 (xs.length : Nat)).zip xs
theorem enum_rng (n : Nat) (i : Nat) (h : i < n) : ((rangeZ 0 (n : Nat)).map V.int)[i]? = some (.int (i : Nat)) := by
  unfold rangeZ
  rw [List.getElem?_map, List.getElem?_map, List.getElem?_range (by omega)]
  show some (V.int (0 + (i : Int))) = _
  rw [Int.zero_add]
theorem ei_enum (ha : Ev M ta σ Z H s (ty (yList τ) xs) s1) : EvI M X (iEnum K (tCons ta tNil)) σ Z H s (yP2 K yInt τ) (enumZ xs) s1 :=
  fun Z1 H1 a b c d R q => eva_cons ha eva_nil Z1 H1 a b c d _ fun us Z2 H2 e m ⟨v, r, e1, ⟨p, vs, ev, h, t, l⟩, e2⟩ => by
    cases e2; cases ev; cases e1
    refine ⟨p, vs, rfl, SqL.of (e.s _ _ h), q _ Z2 H2 e m ?_⟩
    have hl : ((rangeZ 0 (xs.length : Nat)).map V.int).length = vs.length := by
      rw [List.length_map, rangeZ_len, t.len]; omega
    refine walk_pairs (vs := (rangeZ 0 (xs.length : Nat)).map V.int) (ws := vs) vs.length (by rw [hl]; omega) (walk_enum.mono (fun _ g => g) fun i H v H' hi _ ⟨T, x, y, h1, h2, h3, h4, h5⟩ => ⟨T, x, y, h1, h2, h3, ?_, h5⟩) (fun Z' H' z sz _ => SqL.of (sz _ _ (z _ _ h))) (All.ofInts _) t (by rw [hl, t.len]; exact l)
    show ((rangeZ 0 (xs.length : Nat)).map V.int)[i]? = some x
    rw [enum_rng _ _ (by rw [← t.len]; exact hi)]
    exact h4
theorem ei_str {x : Str} (ha : Ev M ta σ Z H s (ty yStr x) s1) : EvI M X (iStr ta) σ Z H s yStr (x.cps.toList.map fun c => (⟨#[c]⟩ : Str)) s1 :=
  fun Z1 H1 a b c d R q => ha Z1 H1 a b c d _ fun v Z2 H2 e m rv => by
    refine ⟨x, rv.1, q _ Z2 H2 e m ?_⟩
    have ln : (x.cps.toList.map fun c => (⟨#[c]⟩ : Str)).length = x.cps.size := by rw [List.length_map, Array.length_toList]
    have lz : x.cps.size ≤ sizeLine := of_decide_eq_true (Bool.and_eq_true_iff.mp (show (PyData.strOk x && decide (x.length ≤ sizeLine)) = true from rv.2)).2
    refine ⟨by rw [ln]; exact lz, fun _ => True, _, by rw [ln]; exact walk_str, fun _ _ _ _ _ => trivial, fun i Z' H' v H'' hi z sz _ y => ?_⟩
    obtain ⟨e, c, hc, rfl⟩ := y
    subst e
    have hc' : x.cps.toList[i]? = some c := by rw [Array.getElem?_toList]; exact hc
    refine ⟨Z', ⟨#[c]⟩, by rw [List.getElem?_map, hc']; rfl, Step.refl sz, rfl, ?_⟩
    have ok := rv.2
    unfold okS PyData.strOk at ok ⊢
    rw [Bool.and_eq_true] at ok ⊢
    refine ⟨?_, decide_eq_true (by show (#[c] : Array Nat).size ≤ sizeLine; exact (by decide : 1 ≤ sizeLine))⟩
    have h2 := Array.all_eq_true_iff_forall_mem.mp ok.1 c (Array.mem_of_getElem? hc)
    simpa using h2
end
/-! ### list comprehensions -/
/-- the target stores the value: from the slots σ to σ2 -/
def Tgt (g : TG) (v : V) (σ σ2 : L2.St) (Z : Hp) : Prop := ∀ H, Same Z H → ∀ Q : L2.St → Hp → Prop, Q σ2 H → g v σ H Q
theorem tgt_name {i : Nat} {v : V} {σ : L2.St} {Z : Hp} : Tgt (gName i) v σ (σ.set i (some v)) Z := fun _ _ _ q => q
theorem tgt_p2 {α β : Type} {τ : Ty α} {υ : Ty β} {g1 g2 : TG} {v : V} {x : α × β} {Z : Hp} (h : (yP2 K τ υ).r Z v x) : ∃ v1 v2, τ.r Z v1 x.1 ∧ υ.r Z v2 x.2 ∧ ∀ {σ σ1 σ2 : L2.St}, Tgt g1 v1 σ σ1 Z → Tgt g2 v2 σ1 σ2 Z → Tgt (gTup K 2 (gCons g1 (gCons g2 gNil))) v σ σ2 Z := by
  obtain ⟨a, v1, v2, rfl, t, h1, h2⟩ := h
  exact ⟨v1, v2, h1, h2, fun {σ σ1 σ2} t1 t2 H sz Q q => ⟨a, _, rfl, seqT_same sz t, rfl, v1, _, rfl, t1 H sz _ ⟨v2, _, rfl, t2 H sz _ ⟨rfl, q⟩⟩⟩⟩
theorem tgt_p3 {α β γ : Type} {τ : Ty α} {υ : Ty β} {φ : Ty γ} {g1 g2 g3 : TG} {v : V} {x : α × β × γ} {Z : Hp} (h : (yP3 K τ υ φ).r Z v x) : ∃ v1 v2 v3, τ.r Z v1 x.1 ∧ υ.r Z v2 x.2.1 ∧ φ.r Z v3 x.2.2 ∧ ∀ {σ σ1 σ2 σ3 : L2.St}, Tgt g1 v1 σ σ1 Z → Tgt g2 v2 σ1 σ2 Z → Tgt g3 v3 σ2 σ3 Z → Tgt (gTup K 3 (gCons g1 (gCons g2 (gCons g3 gNil)))) v σ σ3 Z := by
  obtain ⟨a, v1, v2, v3, rfl, t, h1, h2, h3⟩ := h
  exact ⟨v1, v2, v3, h1, h2, h3, fun {σ σ1 σ2 σ3} t1 t2 t3 H sz Q q => ⟨a, _, rfl, seqT_same sz t, rfl, v1, _, rfl, t1 H sz _ ⟨v2, _, rfl, t2 H sz _ ⟨v3, _, rfl, t3 H sz _ ⟨rfl, q⟩⟩⟩⟩⟩
section
variable {α β : Type} {τ : Ty α} {υ : Ty β} {xs : List α} {ys : List β}
/-- the comprehension as a plain walk: none leaves an item out -/
def lcM (g : α → μ → Option (Option β × μ)) : List α → μ → Option (List β × μ)
  | [], s => some ([], s)
  | x :: xs, s => (g x s).bind fun p => (lcM g xs p.2).bind fun q => some (match p.1 with | none => q.1 | some y => y :: q.1, q.2)
theorem en_lc {wi : TI} {g : TG} {tt : TT} {vs : List Nat} (P : μ → Prop) (h : α → μ → Option (Option β × μ)) (hP : P s1) (hi : EvI M (SameX M.fp) wi σ Z H s τ xs s1)
    (hb : ∀ x v Z' H' si p, Same Z Z' → SameX M.fp H H' → τ.r Z' v x → P si → h x si = some p → P p.2 ∧ ∃ σ2, Tgt g v (wipe σ vs) σ2 Z' ∧ wipe σ2 vs = wipe σ vs ∧ ∃ b s', EvT M tt σ2 Z' H' si b s' ∧ (b = true → ∃ y, p.1 = some y ∧ Ev M te σ2 Z' H' s' (ty υ y) p.2) ∧ (b = false → p = (none, s')))
    (hF : lcM h xs s1 = some (ys, s2)) : EvN M (tLc wi g tt te vs) σ Z H s υ ys s2 := by
  intro Z1 H1 a b c d Q q
  refine hi Z1 H1 a b c d _ fun J Z2 H2 e m ⟨hx, G, Y, wk, hG, hY⟩ D hD => ?_
  have zD : Z2 D = none := same_none e.s hD
  have st0 := Step.own (o := .lst []) e.s hD
  refine lc_it wk (fun i H' => ∃ Z' si zs ws r, Step M.fp Z2 H2 Z' H' ∧ Z' D = none ∧ H' D = some (.lst ws) ∧ All (υ.r Z') ws zs ∧ ws.length ≤ i ∧ M.m si Z' H' ∧ P si ∧ lcM h (xs.drop i) si = some (r, s2) ∧ ys = zs ++ r)
    ⟨Z2, s1, [], [], ys, st0.pure, zD, upd_same, .nil, Nat.le_refl _, M.pure st0 m, hP, by rw [List.drop_zero]; exact hF, rfl⟩ ?_ ?_ ?_
  · rintro i H' _ ⟨Z', si, zs, ws, r, st, _⟩
    exact hG Z' H' st.z st.s st.h
  · rintro i v H3 H4 hin ⟨Z', si, zs, ws, r, st, zD', hD', al, lw, m', pi, hF', ey⟩ y
    obtain ⟨Z4, x, ex, st4, rx⟩ := hY i Z' H3 v H4 hin st.z st.s (hG Z' H3 st.z st.s st.h) y
    have hd : xs.drop i = x :: xs.drop (i + 1) := by
      rw [List.drop_eq_getElem_cons hin]
      rw [List.getElem?_eq_getElem hin] at ex
      rw [Option.some.inj ex]
    rw [hd] at hF'
    obtain ⟨p, hp, hF2⟩ := Option.bind_eq_some_iff.mp hF'
    obtain ⟨⟨r2, s2'⟩, hr, hF3⟩ := Option.bind_eq_some_iff.mp hF2
    have e4 := st.trans st4.pure
    have eZ : Same Z Z4 := (a.trans e.z).trans e4.z
    have eH : SameX M.fp H H4 := (b.trans e.h).trans e4.h
    obtain ⟨pp, σ2, tg, wp, bb, s', et, ht, hf⟩ := hb x v Z4 H4 si p eZ eH rx pi hp
    have es2 : s2' = s2 := by injection hF3 with q; exact congrArg Prod.snd q
    subst es2
    refine tg H4 e4.s _ ⟨wp, et Z4 H4 (Same.refl _) SameX.refl e4.s (M.pure st4 m') _ fun Z5 H5 e5 m5 => ?_⟩
    have nD : D ∉ M.fp := fun h => absurd hD (M.al m D h).1
    have hD4 : H4 D = some (.lst ws) := st4.h _ _ List.not_mem_nil hD'
    have hD5 : H5 D = some (.lst ws) := e5.h _ _ nD hD4
    have zD5 : Z5 D = none := e5.n D (some_ne hD4) (st4.n D (some_ne hD') zD')
    have e15 := e4.trans e5
    cases bb with
    | false =>
      rw [if_neg Bool.false_ne_true]
      have ep := hf rfl
      subst ep
      refine ⟨Z5, s', zs, ws, r2, e15, zD5, hD5, al.imp fun _ _ => υ.mono (st4.z.trans e5.z), by omega, m5, pp, hr, ?_⟩
      injection hF3 with q3
      have q4 : r2 = r := congrArg Prod.fst q3
      rw [ey, q4]
    | true =>
      rw [if_pos rfl]
      obtain ⟨y, ep, ev⟩ := ht rfl
      refine ev Z5 H5 e5.z e5.h e5.s m5 _ fun w Z6 H6 e6 m6 rw' => ?_
      have hD6 : H6 D = some (.lst ws) := e6.h _ _ nD hD5
      have zD6 : Z6 D = none := e6.n D (some_ne hD5) zD5
      have s7 := Step.set (o := .lst (ws ++ [w])) e6.s zD6
      refine ⟨ws, hD6, by omega, Z6, p.2, zs ++ [y], ws ++ [w], r2, (e15.trans e6).mine s7 (fun x hx => by rw [List.mem_singleton] at hx; subst hx; exact .inr hD), zD6, upd_same, (al.imp fun _ _ => υ.mono ((st4.z.trans e5.z).trans e6.z)).snoc rw', by rw [List.length_append]; show ws.length + 1 ≤ _; omega, ?_, pp, hr, ?_⟩
      · refine M.loc (Same.refl _) (fun a' ha' o ho => ?_) (fun _ _ _ z => z) m6
        rw [upd_ne (fun q' => nD (by rw [← q']; exact ha'))]
        exact ho
      · injection hF3 with q3
        rw [ep] at q3
        have q4 : y :: r2 = r := congrArg Prod.fst q3
        rw [ey, ← q4, List.append_assoc]
        rfl
  · rintro H' ⟨Z', si, zs, ws, r, st, zD', hD', al, lw, m', _, hF', ey⟩
    rw [List.drop_length] at hF'
    injection hF' with q'
    have e1 : r = [] := (congrArg Prod.fst q').symm
    have e2 : si = s2 := congrArg Prod.snd q'
    subst e1 e2
    rw [List.append_nil] at ey
    subst ey
    exact q D ws Z' H' (e.trans st) m' (same_x e hD) zD' hD' al (by rw [← al.len]; omega)
def mapO (f : α → Option β) : List α → Option (List β)
  | [] => some []
  | x :: r => (f x).bind fun y => (mapO f r).bind fun ys => some (y :: ys)
def fmO (f : α → Option (Option β)) : List α → Option (List β)
  | [] => some []
  | x :: r => (f x).bind fun y => (fmO f r).bind fun ys => some (match y with | none => ys | some z => z :: ys)
def mapS (f : α → μ → Option (β × μ)) : List α → μ → Option (List β × μ)
  | [], s => some ([], s)
  | x :: r, s => (f x s).bind fun p => (mapS f r p.2).bind fun q => some (p.1 :: q.1, q.2)
theorem lcM_fmO (f : α → Option (Option β)) (s : μ) : ∀ xs : List α, lcM (fun x s => (f x).map fun y => (y, s)) xs s = (fmO f xs).map fun ys => (ys, s)
  | [] => rfl
  | x :: r => by
    have ih := lcM_fmO f s r
    unfold lcM fmO
    cases f x with
    | none => rfl
    | some y =>
      simp only [Option.map_some, Option.bind_some, ih]
      cases fmO f r with
      | none => rfl
      | some ys => cases y <;> rfl
theorem lcM_mapS (f : α → μ → Option (β × μ)) : ∀ (xs : List α) (s : μ), lcM (fun x s => (f x s).map fun p => (some p.1, p.2)) xs s = mapS f xs s
  | [], _ => rfl
  | x :: r, s => by
    unfold lcM mapS
    cases f x s with
    | none => rfl
    | some p =>
      simp only [Option.map_some, Option.bind_some, lcM_mapS f r p.2]
theorem fmO_mapO (f : α → Option β) : ∀ xs : List α, fmO (fun x => (f x).map some) xs = mapO f xs
  | [] => rfl
  | x :: r => by
    unfold fmO mapO
    rw [fmO_mapO f r]
    cases f x <;> rfl
theorem fmO_fil (p : α → Bool) (f : α → β) : ∀ xs : List α, fmO (fun x => some (if p x = true then some (f x) else none)) xs = some ((xs.filter p).map f)
  | [] => rfl
  | x :: r => by
    unfold fmO
    rw [fmO_fil p f r]
    cases e : p x with
    | true => rw [List.filter_cons_of_pos e]; rfl
    | false => rw [List.filter_cons_of_neg (by rw [e]; exact Bool.false_ne_true)]; rfl
section
variable {wi : TI} {g : TG} {tt : TT} {vs : List Nat}
/-- stateless, with a test -/
theorem en_fmO (f : α → Option (Option β)) (hi : EvI M (SameX M.fp) wi σ Z H s τ xs s1)
    (hb : ∀ x v Z' H' p, Same Z Z' → SameX M.fp H H' → τ.r Z' v x → f x = some p → ∃ σ2, Tgt g v (wipe σ vs) σ2 Z' ∧ wipe σ2 vs = wipe σ vs ∧ ∃ b, EvT M tt σ2 Z' H' s1 b s1 ∧ (b = true → ∃ y, p = some y ∧ Ev M te σ2 Z' H' s1 (ty υ y) s1) ∧ (b = false → p = none))
    (hF : fmO f xs = some ys) : EvN M (tLc wi g tt te vs) σ Z H s υ ys s1 := by
  refine en_lc (· = s1) (fun x s => (f x).map fun y => (y, s)) rfl hi (fun x v Z' H' si p z h rv e hp => ?_) (by rw [lcM_fmO, hF]; rfl)
  subst e
  obtain ⟨q, hq, rfl⟩ := Option.map_eq_some_iff.mp hp
  obtain ⟨σ2, tg, wp, b, et, h1, h2⟩ := hb x v Z' H' q z h rv hq
  exact ⟨rfl, σ2, tg, wp, b, _, et, h1, fun e => by rw [h2 e]⟩
/-- stateless, partial -/
theorem en_mapO (f : α → Option β) (hi : EvI M (SameX M.fp) wi σ Z H s τ xs s1)
    (hb : ∀ x v Z' H' y, Same Z Z' → SameX M.fp H H' → τ.r Z' v x → f x = some y → ∃ σ2, Tgt g v (wipe σ vs) σ2 Z' ∧ wipe σ2 vs = wipe σ vs ∧ Ev M te σ2 Z' H' s1 (ty υ y) s1)
    (hF : mapO f xs = some ys) : EvN M (tLc wi g tYes te vs) σ Z H s υ ys s1 :=
  en_fmO (fun x => (f x).map some) hi (fun x v Z' H' p z h rv hp => by
    obtain ⟨y, hy, rfl⟩ := Option.map_eq_some_iff.mp hp
    obtain ⟨σ2, tg, wp, ev⟩ := hb x v Z' H' y z h rv hy
    exact ⟨σ2, tg, wp, true, fun Z1 H1 _ _ c d _ k => k Z1 H1 (Step.refl c) d, fun _ => ⟨y, rfl, ev⟩, fun e => nomatch e⟩) (by rw [fmO_mapO, hF])
/-- stateless, total -/
theorem en_map (f : α → β) (hi : EvI M (SameX M.fp) wi σ Z H s τ xs s1)
    (hb : ∀ x v Z' H', Same Z Z' → SameX M.fp H H' → τ.r Z' v x → ∃ σ2, Tgt g v (wipe σ vs) σ2 Z' ∧ wipe σ2 vs = wipe σ vs ∧ Ev M te σ2 Z' H' s1 (ty υ (f x)) s1) : EvN M (tLc wi g tYes te vs) σ Z H s υ (xs.map f) s1 :=
  en_mapO (fun x => some (f x)) hi (fun x v Z' H' y z h rv hy => by cases hy; exact hb x v Z' H' z h rv) (by
    clear hb hi
    induction xs with
    | nil => rfl
    | cons x r ih => unfold mapO; rw [ih]; rfl)
theorem en_fil (p : α → Bool) (f : α → β) (hi : EvI M (SameX M.fp) wi σ Z H s τ xs s1)
    (hb : ∀ x v Z' H', Same Z Z' → SameX M.fp H H' → τ.r Z' v x → ∃ σ2, Tgt g v (wipe σ vs) σ2 Z' ∧ wipe σ2 vs = wipe σ vs ∧ EvT M tt σ2 Z' H' s1 (p x) s1 ∧ Ev M te σ2 Z' H' s1 (ty υ (f x)) s1) : EvN M (tLc wi g tt te vs) σ Z H s υ ((xs.filter p).map f) s1 :=
  en_fmO (fun x => some (if p x = true then some (f x) else none)) hi (fun x v Z' H' q z h rv hq => by
    obtain ⟨σ2, tg, wp, et, ev⟩ := hb x v Z' H' z h rv
    cases hq
    exact ⟨σ2, tg, wp, p x, et, fun e => ⟨f x, if_pos e, ev⟩, fun e => if_neg (by rw [e]; exact Bool.false_ne_true)⟩) (fmO_fil p f xs)
theorem en_mapS (f : α → μ → Option (β × μ)) (hi : EvI M (SameX M.fp) wi σ Z H s τ xs s1)
    (hb : ∀ x v Z' H' si p, Same Z Z' → SameX M.fp H H' → τ.r Z' v x → f x si = some p → ∃ σ2, Tgt g v (wipe σ vs) σ2 Z' ∧ wipe σ2 vs = wipe σ vs ∧ Ev M te σ2 Z' H' si (ty υ p.1) p.2)
    (hF : mapS f xs s1 = some (ys, s2)) : EvN M (tLc wi g tYes te vs) σ Z H s υ ys s2 :=
  en_lc (fun _ => True) (fun x s => (f x s).map fun p => (some p.1, p.2)) trivial hi (fun x v Z' H' si p z h rv _ hp => by
    obtain ⟨q, hq, rfl⟩ := Option.map_eq_some_iff.mp hp
    obtain ⟨σ2, tg, wp, ev⟩ := hb x v Z' H' si q z h rv hq
    exact ⟨trivial, σ2, tg, wp, true, si, fun Z1 H1 _ _ c d _ k => k Z1 H1 (Step.refl c) d, fun _ => ⟨q.1, rfl, ev⟩, fun e => nomatch e⟩) (by rw [lcM_mapS, hF])
end
end
end
end TP

namespace TP
open PySem PySem.Spec PyProof.Rows L2
section
variable {μ : Type} {S : List Addr} {Z0 H0 : Hp} {M : Mu μ} {σ : L2.St} {Z H : Hp} {s s' s1 s2 s3 : μ} {ta tb tc te : TE} {t : TA} {K : PySem.W.Frag} {D : Ends} {u w : TS}
/-! ### a place in a def's body -/
structure Pt (S : List Addr) (Z0 H0 : Hp) (M : Mu μ) (Z H : Hp) (s : μ) : Prop where
  st : Step S Z0 H0 Z H
  m : M.m s Z H
  mine : ∀ a ∈ M.fp, a ∈ S ∨ H0 a = none
theorem Pt.next {Z1 H1 : Hp} (P : Pt S Z0 H0 M Z H s) (e : Step M.fp Z H Z1 H1) (m : M.m s1 Z1 H1) : Pt S Z0 H0 M Z1 H1 s1 := ⟨P.st.mine e P.mine, m, P.mine⟩
theorem Pt.start (M : Mu μ) (sz : Same Z H) (m : M.m s Z H) : Pt M.fp Z H M Z H s := ⟨Step.refl sz, m, fun _ h => .inl h⟩
theorem Pt.start0 (sz : Same Z H) : Pt [] Z H muN Z H () := ⟨Step.refl sz, trivial, fun _ h => (nomatch h)⟩
theorem Pt.sub (P : Pt S Z0 H0 M Z H s) : Same Z H := P.st.s
/-- a list of one's own: it may change -/
structure Own {α : Type} (S : List Addr) (H0 : Hp) (fp : List Addr) (Z H : Hp) (τ : Ty α) (p : Addr) (xs : List α) : Prop where
  ex : ∃ vs, H p = some (.lst vs) ∧ All (τ.r Z) vs xs
  z : Z p = none
  n : p ∉ fp
  mine : H0 p = none
  l : xs.length ≤ sizeLine
section
variable {α : Type} {τ : Ty α} {xs : List α} {p : Addr} {fp : List Addr}
theorem Own.step {F : List Addr} {Z1 H1 : Hp} (o : Own S H0 fp Z H τ p xs) (e : Step F Z H Z1 H1) (n : p ∉ F) : Own S H0 fp Z1 H1 τ p xs := by
  obtain ⟨vs, h, t⟩ := o.ex
  exact ⟨⟨vs, e.h _ _ n h, t.imp fun _ _ => τ.mono e.z⟩, e.n _ (some_ne h) o.z, o.n, o.mine, o.l⟩
theorem Own.next {Z1 H1 : Hp} (o : Own S H0 fp Z H τ p xs) (e : Step fp Z H Z1 H1) : Own S H0 fp Z1 H1 τ p xs := o.step e o.n
theorem Own.ne (o : Own S H0 fp Z H τ p xs) {q : Addr} (h : H q = none) : p ≠ q := by
  obtain ⟨vs, hp, _⟩ := o.ex
  exact ne_of_some (some_ne hp) h
theorem ev_o {i : Nat} (o : Own S H0 M.fp Z H τ p xs) (e : σ[i]? = some (some (.ref p))) : Ev M (tVar i) σ Z H s (li τ xs) s := by
  obtain ⟨vs, h, t⟩ := o.ex
  exact ev_own e h o.n t o.l
/-- it never changes from now on -/
theorem Own.fz (o : Own S H0 M.fp Z H τ p xs) (P : Pt S Z0 H0 M Z H s) : ∃ Z', Pt S Z0 H0 M Z' H s ∧ Same Z Z' ∧ (yList τ).r Z' (.ref p) xs ∧ ∀ q, q ≠ p → Z q = none → Z' q = none := by
  obtain ⟨vs, h, t⟩ := o.ex
  refine ⟨upd Z p (.lst vs), ⟨?_, Mu.fz P.m o.z o.n, P.mine⟩, same_upd o.z, ⟨p, vs, rfl, upd_same, t.imp fun _ _ => τ.mono (same_upd o.z), o.l⟩, fun q n e => by rw [upd_ne n]; exact e⟩
  exact P.st.fz o.mine h o.z
theorem Own.keep {Z1 : Hp} (o : Own S H0 fp Z H τ p xs) (e : Same Z Z1) (n : Z1 p = none) : Own S H0 fp Z1 H τ p xs := by
  obtain ⟨vs, h, t⟩ := o.ex
  exact ⟨⟨vs, h, t.imp fun _ _ => τ.mono e⟩, n, o.n, o.mine, o.l⟩
end
/-- a list of one's own is lent: for a while it does not change -/
theorem Own.bor {α : Type} {τ : Ty α} {xs : List α} {p : Addr} (o : Own S H0 M.fp Z H τ p xs) (sz : Same Z H) (m : M.m s Z H) : ∃ Zb, Same Z Zb ∧ Same Zb H ∧ M.m s Zb H ∧ (yList τ).r Zb (.ref p) xs ∧ ∀ q, q ≠ p → Z q = none → Zb q = none := by
  obtain ⟨vs, h, t⟩ := o.ex
  refine ⟨upd Z p (.lst vs), same_upd o.z, fun a u e => ?_, Mu.fz m o.z o.n, ⟨p, vs, rfl, upd_same, t.imp fun _ _ => τ.mono (same_upd o.z), o.l⟩, fun q n e => by rw [upd_ne n]; exact e⟩
  by_cases q : a = p
  · subst q; rw [upd_same] at e; rw [← Option.some.inj e]; exact h
  · rw [upd_ne q] at e; exact sz a u e
theorem Step.lent {S : List Addr} {Z Zb H Z1 H1 : Hp} (zf : Same Z Zb) (e : Step S Zb H Z1 H1) : Step S Z H Z H1 := ⟨Same.refl _, zf.trans (e.z.trans e.s), e.h, fun _ _ z => z, e.al⟩
/-! ### statements -/
theorem st_nx {nx bk ct : L2.St → Hp → Prop} {rt : VK} (h : nx σ H) : Ends.nx ⟨nx, rt, bk, ct⟩ σ H := h
theorem st_next0 {nx bk ct : L2.St → Hp → Prop} {rt : VK} (h : nx σ H) : tNext ⟨nx, rt, bk, ct⟩ σ H := h
theorem st_next (h : D.nx σ H) : tNext D σ H := h
theorem st_seq (h : u { D with nx := w D } σ H) : tSeq u w D σ H := h
theorem st_set {R : Rr M.fp} {i : Nat} (P : Pt S Z0 H0 M Z H s) (e : Ev M te σ Z H s R s1) (k : ∀ v Z1 H1, Step M.fp Z H Z1 H1 → Pt S Z0 H0 M Z1 H1 s1 → R.r Z1 H1 v → D.nx (σ.set i (some v)) H1) : tAsg te (gName i) D σ H :=
  e Z H (Same.refl _) SameX.refl P.sub P.m _ fun v Z1 H1 e m r => k v Z1 H1 e (P.next e m) r
theorem st_asg {R : Rr M.fp} {g : TG} (P : Pt S Z0 H0 M Z H s) (e : Ev M te σ Z H s R s1) (k : ∀ v Z1 H1, Step M.fp Z H Z1 H1 → Pt S Z0 H0 M Z1 H1 s1 → R.r Z1 H1 v → ∃ σ2, Tgt g v σ σ2 Z1 ∧ D.nx σ2 H1) : tAsg te g D σ H :=
  e Z H (Same.refl _) SameX.refl P.sub P.m _ fun v Z1 H1 e m r => by
    obtain ⟨σ2, tg, q⟩ := k v Z1 H1 e (P.next e m) r
    exact tg H1 e.s _ q
theorem st_ret {R : Rr M.fp} (P : Pt S Z0 H0 M Z H s) (e : Ev M te σ Z H s R s1) (k : ∀ v Z1 H1, Pt S Z0 H0 M Z1 H1 s1 → R.r Z1 H1 v → D.rt v H1) : tRet te D σ H :=
  e Z H (Same.refl _) SameX.refl P.sub P.m _ fun v Z1 H1 e m r => k v Z1 H1 (P.next e m) r
theorem st_expr {R : Rr M.fp} (P : Pt S Z0 H0 M Z H s) (e : Ev M te σ Z H s R s1) (k : ∀ Z1 H1, Step M.fp Z H Z1 H1 → Pt S Z0 H0 M Z1 H1 s1 → D.nx σ H1) : tDrop te D σ H :=
  e Z H (Same.refl _) SameX.refl P.sub P.m _ fun v Z1 H1 e m r => k Z1 H1 e (P.next e m)
theorem st_if {b : Bool} {tt : TT} (P : Pt S Z0 H0 M Z H s) (e : EvT M tt σ Z H s b s1) (ht : b = true → ∀ Z1 H1, Step M.fp Z H Z1 H1 → Pt S Z0 H0 M Z1 H1 s1 → u D σ H1) (hf : b = false → ∀ Z1 H1, Step M.fp Z H Z1 H1 → Pt S Z0 H0 M Z1 H1 s1 → w D σ H1) : tIfS tt u w D σ H :=
  e Z H (Same.refl _) SameX.refl P.sub P.m _ fun Z1 H1 e' m => by
    cases b with
    | true => rw [if_pos rfl]; exact ht rfl Z1 H1 e' (P.next e' m)
    | false => rw [if_neg Bool.false_ne_true]; exact hf rfl Z1 H1 e' (P.next e' m)
theorem st_ifB {b : Bool} {tt : TT} {Zb : Hp} (bk : M.Back) (P : Pt S Z0 H0 M Z H s) (zf : Same Z Zb) (sb : Same Zb H) (mb : M.m s Zb H) (e : EvT M tt σ Zb H s b s1) (ht : b = true → ∀ Z1 H1, Step M.fp Z H Z1 H1 → Pt S Z0 H0 M Z1 H1 s1 → u D σ H1) (hf : b = false → ∀ Z1 H1, Step M.fp Z H Z1 H1 → Pt S Z0 H0 M Z1 H1 s1 → w D σ H1) : tIfS tt u w D σ H :=
  e Zb H (Same.refl _) SameX.refl sb mb _ fun Z1 H1 e' m => by
    have e2 := Step.lent zf e'
    have m2 := bk (zf.trans e'.z) P.m m
    cases b with
    | true => rw [if_pos rfl]; exact ht rfl Z H1 e2 (P.next e2 m2)
    | false => rw [if_neg Bool.false_ne_true]; exact hf rfl Z H1 e2 (P.next e2 m2)
theorem st_aug {i : Nat} {a b : Int} {v : V} {f : Int → Int → Int} (P : Pt S Z0 H0 M Z H s) (hσ : σ[i]? = some (some v)) (hv : v = .int a) (e : Ev M te σ Z H s (ty yInt b) s1) (k : ∀ v Z1 H1, Step M.fp Z H Z1 H1 → Pt S Z0 H0 M Z1 H1 s1 → yInt.r Z1 v (f a b) → D.nx (σ.set i (some v)) H1) : tAug i te (ipI f) D σ H :=
  ⟨v, hσ, e Z H (Same.refl _) SameX.refl P.sub P.m _ fun v' Z1 H1 e m r => ⟨a, b, hv, r, k _ Z1 H1 e (P.next e m) rfl⟩⟩
section
variable {α β : Type} {τ : Ty α} {υ : Ty β} {xs ys : List α} {p : Addr} {x : α}
/-- a new list of one's own -/
theorem st_setN {i : Nat} (P : Pt S Z0 H0 M Z H s) (e : EvN M te σ Z H s τ xs s1) (k : ∀ p Z1 H1, Step M.fp Z H Z1 H1 → Pt S Z0 H0 M Z1 H1 s1 → H p = none → Own S H0 M.fp Z1 H1 τ p xs → D.nx (σ.set i (some (.ref p))) H1) : tAsg te (gName i) D σ H :=
  e Z H (Same.refl _) SameX.refl P.sub P.m _ fun p vs Z1 H1 e m hp zp h1 t l => k p Z1 H1 e (P.next e m) hp ⟨⟨vs, h1, t⟩, zp, fun hf => (M.al P.m p hf).1 hp, same_x P.st hp, l⟩
theorem Pt.set {o : HO} (P : Pt S Z0 H0 M Z H s) (hz : Z p = none) (n : p ∉ M.fp) (mine : p ∈ S ∨ H0 p = none) : Pt S Z0 H0 M Z (upd H p o) s := by
  refine ⟨P.st.mine (Step.set P.sub hz) fun a h => by rw [List.mem_singleton] at h; rw [h]; exact mine, M.loc (Same.refl _) (fun a ha u e => ?_) (fun _ _ _ z => z) P.m, P.mine⟩
  rw [upd_ne (fun q => n (by rw [← q]; exact ha))]
  exact e
theorem step2 {F : List Addr} {Z1 H1 : Hp} {o : HO} (e : Step F Z H Z1 H1) (hz : Z1 p = none) : Step (p :: F) Z H Z1 (upd H1 p o) :=
  (e.weak fun _ h => .inl (List.mem_cons_of_mem _ h)).mine (Step.set e.s hz) fun a h => by rw [List.mem_singleton] at h; rw [h]; exact .inl List.mem_cons_self
/-- xs.append(x) -/
theorem st_append {i : Nat} (P : Pt S Z0 H0 M Z H s) (o : Own S H0 M.fp Z H τ p xs) (hσ : σ[i]? = some (some (.ref p))) (e : Ev M te σ Z H s (ty τ x) s1) (l : xs.length < sizeLine)
    (k : ∀ Z1 H1, Step (p :: M.fp) Z H Z1 H1 → Pt S Z0 H0 M Z1 H1 s1 → Own S H0 M.fp Z1 H1 τ p (xs ++ [x]) → D.nx σ H1) : tDrop (tBM K "list" rAppend (tVar i) (tCons te tNil)) D σ H := by
  obtain ⟨vs, h, t⟩ := o.ex
  refine ⟨.ref p, hσ, .inl ⟨rfl, _, .inl (.inl h)⟩, e Z H (Same.refl _) SameX.refl P.sub P.m _ fun v Z1 H1 e m r => ?_⟩
  have o1 := o.next e
  have P1 := P.next e m
  refine ⟨p, vs, v, rfl, rfl, e.h _ _ o.n h, by rw [t.len]; exact l, ?_⟩
  exact k _ _ (step2 e o1.z) (P1.set o1.z o.n (.inr o.mine)) ⟨⟨_, upd_same, (t.imp fun _ _ => τ.mono e.z).snoc r⟩, o1.z, o.n, o.mine, by rw [List.length_append]; show xs.length + 1 ≤ _; omega⟩
/-- xs.extend(ys) -/
theorem st_extend {i : Nat} (P : Pt S Z0 H0 M Z H s) (o : Own S H0 M.fp Z H τ p xs) (hσ : σ[i]? = some (some (.ref p))) (e : Ev M te σ Z H s (ty (yList τ) ys) s1) (l : xs.length + ys.length ≤ sizeLine)
    (k : ∀ Z1 H1, Step (p :: M.fp) Z H Z1 H1 → Pt S Z0 H0 M Z1 H1 s1 → Own S H0 M.fp Z1 H1 τ p (xs ++ ys) → D.nx σ H1) : tDrop (tBM K "list" rExtend (tVar i) (tCons te tNil)) D σ H := by
  obtain ⟨vs, h, t⟩ := o.ex
  refine ⟨.ref p, hσ, .inl ⟨rfl, _, .inl (.inl h)⟩, e Z H (Same.refl _) SameX.refl P.sub P.m _ fun v Z1 H1 e m ⟨q, ws, ev, hq, t2, _⟩ => ?_⟩
  subst ev
  have o1 := o.next e
  have P1 := P.next e m
  refine ⟨p, q, vs, ws, rfl, rfl, e.h _ _ o.n h, e.s _ _ hq, by rw [t.len, t2.len]; exact l, ?_⟩
  exact k _ _ (step2 e o1.z) (P1.set o1.z o.n (.inr o.mine)) ⟨⟨_, upd_same, (t.imp fun _ _ => τ.mono e.z).app t2⟩, o1.z, o.n, o.mine, by rw [List.length_append]; exact l⟩
/-- xs[i] = x -/
theorem st_setitem {i : Nat} {j : Int} {n : Nat} {tj : TE} (P : Pt S Z0 H0 M Z H s) (o : Own S H0 M.fp Z H τ p xs) (hσ : σ[i]? = some (some (.ref p))) (e : Ev M te σ Z H s (ty τ x) s1) (ej : ∀ Z1 H1, Step M.fp Z H Z1 H1 → Ev M tj σ Z1 H1 s1 (ty yInt j) s2) (hj : ixN xs.length j = some n)
    (k : ∀ Z1 H1, Step (p :: M.fp) Z H Z1 H1 → Pt S Z0 H0 M Z1 H1 s2 → Own S H0 M.fp Z1 H1 τ p (xs.set n x) → D.nx σ H1) : tAsg te (gSub (tVar i) tj rSetL) D σ H := by
  obtain ⟨vs, h, t⟩ := o.ex
  refine e Z H (Same.refl _) SameX.refl P.sub P.m _ fun v Z1 H1 e m r => ⟨.ref p, hσ, ej Z1 H1 e Z1 H1 (Same.refl _) SameX.refl e.s m _ fun v2 Z2 H2 e2 m2 r2 => ?_⟩
  have o1 := (o.next e).next e2
  have P1 := (P.next e m).next e2 m2
  refine ⟨p, vs, j, n, rfl, r2, e2.h _ _ o.n (e.h _ _ o.n h), by rw [t.len]; exact hj, ?_⟩
  exact k _ _ (step2 (e.trans e2) o1.z) (P1.set o1.z o.n (.inr o.mine)) ⟨⟨_, upd_same, (t.imp fun _ _ => τ.mono (e.trans e2).z).set (τ.mono e2.z r) n⟩, o1.z, o.n, o.mine, by rw [List.length_set]; exact o.l⟩
end
/-! ### loops -/
inductive Flow (ρ β : Type)
  | go (b : β) | brk (b : β) | ret (r : ρ)
def forF {α β : Type} (f : α → β → Option β) : List α → β → Option β
  | [], b => some b
  | x :: r, b => (f x b).bind fun b' => forF f r b'
def Flow.nxt {ρ β : Type} (k : β → Option (Flow ρ β)) : Flow ρ β → Option (Flow ρ β)
  | .go b => k b
  | .brk b => some (.go b)
  | .ret y => some (.ret y)
def Flow.thn {ρ β γ : Type} (k : β → Option γ) (g : ρ → Option γ) : Flow ρ β → Option γ
  | .go b => k b
  | .brk b => k b
  | .ret y => g y
def forS {ρ α β : Type} (f : α → β → Option (Flow ρ β)) : List α → β → Option (Flow ρ β)
  | [], b => some (.go b)
  | x :: r, b => (f x b).bind (Flow.nxt (forS f r))
def whileS {ρ β : Type} (f : β → Option (Flow ρ β)) : Nat → β → Option (Flow ρ β)
  | 0, _ => none
  | n + 1, b => (f b).bind (Flow.nxt (whileS f n))
section
variable {ρ α β γ : Type} {k : β → Option (Flow ρ β)} {f : α → β → Option (Flow ρ β)} {f' : α → β → Option β} {x : α} {r : List α} {b : β} {y : ρ} {q : Flow ρ β}
theorem nxt_go (h : Flow.nxt k (.go b) = some q) : k b = some q := h
theorem nxt_brk (h : Flow.nxt k (.brk b) = some q) : q = .go b := (Option.some.inj h).symm
theorem nxt_ret (h : Flow.nxt k (.ret y) = some q) : q = .ret y := (Option.some.inj h).symm
theorem go_inv {k : β → Option γ} {g : ρ → Option γ} {z : γ} (h : Flow.thn k g (.go b) = some z) : k b = some z := h
theorem ret_inv {k : β → Option γ} {g : ρ → Option γ} {z : γ} (h : Flow.thn k g (.ret y) = some z) : g y = some z := h
theorem forS_cons (h : forS f (x :: r) b = some q) : (f x b).bind (Flow.nxt (forS f r)) = some q := h
theorem forS_nil (h : forS f [] b = some q) : q = .go b := (Option.some.inj h).symm
theorem forF_cons {c : β} (h : forF f' (x :: r) b = some c) : (f' x b).bind (fun b' => forF f' r b') = some c := h
theorem forF_nil {c : β} (h : forF f' [] b = some c) : c = b := (Option.some.inj h).symm
end
section
variable {α β : Type} {τ : Ty α} {xs : List α}
/-- what a turn is to reach -/
def LoopW (I : List α → L2.St → Hp → Hp → Prop) (Z1 : Hp) (r : List α) : L2.St → Hp → Prop := fun σ H => ∃ Z, Same Z1 Z ∧ Same Z H ∧ I r σ Z H
/-- I: what is true ahead of the turns for the rest of the items -/
theorem st_for {wi : TI} {g : TG} (I : List α → L2.St → Hp → Hp → Prop) (P : Pt S Z0 H0 M Z H s) (hi : EvI M (fun _ _ => True) wi σ Z H s τ xs s1)
    (h0 : ∀ Z1 H1, Step M.fp Z H Z1 H1 → Pt S Z0 H0 M Z1 H1 s1 → I xs σ Z1 H1)
    (hs : ∀ Z1 H1, Step M.fp Z H Z1 H1 → ∀ x r σ' v Z' H' Z2 H2, Same Z1 Z' → I (x :: r) σ' Z' H' → Step [] Z' H' Z2 H2 → τ.r Z2 v x →
      g v σ' H2 fun σ2 H3 => u { D with nx := LoopW I Z1 r, ct := LoopW I Z1 r, bk := D.nx } σ2 H3)
    (hd : ∀ σ' Z' H', Same Z Z' → Same Z' H' → I [] σ' Z' H' → D.nx σ' H') : tFor wi g u D σ H := by
  refine hi Z H (Same.refl _) SameX.refl P.sub P.m _ fun J Z1 H1 e m ⟨_, G, Y, wk, hG, hY⟩ => ?_
  refine for_it wk (fun i => LoopW I Z1 (xs.drop i)) ⟨Z1, Same.refl _, e.s, by rw [List.drop_zero]; exact h0 Z1 H1 e (P.next e m)⟩ ?_ ?_ ?_
  · rintro i σ' H' _ ⟨Z', sa, sb, _⟩
    exact hG Z' H' sa sb trivial
  · rintro i v σ' H3 H4 hin ⟨Z', sa, sb, hI⟩ y
    obtain ⟨Z4, x, ex, st4, rx⟩ := hY i Z' H3 v H4 hin sa sb (hG Z' H3 sa sb trivial) y
    have hd : xs.drop i = x :: xs.drop (i + 1) := by
      rw [List.drop_eq_getElem_cons hin]
      rw [List.getElem?_eq_getElem hin] at ex
      rw [Option.some.inj ex]
    rw [hd] at hI
    exact hs Z1 H1 e x _ σ' v Z' H3 Z4 H4 sa hI st4 rx
  · rintro σ' H' ⟨Z', sa, sb, hI⟩
    rw [List.drop_length] at hI
    exact hd σ' Z' H' (e.z.trans sa) sb hI
end
theorem bind_inv {α β : Type} {o : Option α} {f : α → Option β} {y : β} (h : o.bind f = some y) : ∃ x, o = some x ∧ f x = some y := Option.bind_eq_some_iff.mp h
theorem guard_inv {c : Prop} [Decidable c] {β : Type} {o : Option β} {y : β} (h : (if c then o else none) = some y) : c ∧ o = some y := by
  by_cases hc : c
  · rw [if_pos hc] at h; exact ⟨hc, h⟩
  · rw [if_neg hc] at h; cases h
theorem ifT {β : Type} {b : Bool} {o p y : β} (hb : b = true) (h : (if b = true then o else p) = y) : o = y := by rw [if_pos hb] at h; exact h
theorem ifF {β : Type} {b : Bool} {o p y : β} (hb : b = false) (h : (if b = true then o else p) = y) : p = y := by rw [if_neg (by rw [hb]; exact Bool.false_ne_true)] at h; exact h
theorem Pt.item {Z1 H1 : Hp} (P : Pt S Z0 H0 M Z H s) (e : Step [] Z H Z1 H1) : Pt S Z0 H0 M Z1 H1 s := P.next e.pure (M.pure e P.m)
theorem Mu.away {x : Addr} {Z1 H1 : Hp} (e : Step [x] Z H Z1 H1) (nx : x ∉ M.fp) (m : M.m s Z H) : M.m s Z1 H1 :=
  M.loc e.z (fun a ha o ho => e.h a o (fun q => nx (by rw [List.mem_singleton] at q; rw [← q]; exact ha)) ho) (fun a _ h z => e.n a h z) m
/-- self.f = e, self new -/
theorem st_fld {α : Type} {τ : Ty α} {x : α} {i : Nat} {p C dx : Addr} {fs : List (Str × V)} {f : Str} {tv : TE} (P : Pt S Z0 H0 M Z H s) (hp : H p = some (.ins C dx fs)) (zp : Z p = none) (np : p ∉ M.fp) (mp : p ∈ S ∨ H0 p = none) (hσ : σ[i]? = some (some (.ref p)))
    (e : Ev M tv σ Z H s (ty τ x) s1) (c : Cls K C) (n : NoAttr K C f) (l : fs.length < 1000) (k : ∀ v Z1 H1, Step (p :: M.fp) Z H Z1 H1 → Pt S Z0 H0 M Z1 H1 s1 → τ.r Z1 v x → H1 p = some (.ins C dx (putF f v fs)) → Z1 p = none → D.nx σ H1) : sFld K (tVar i) tv f D σ H :=
  e Z H (Same.refl _) SameX.refl P.sub P.m _ fun v Z1 H1 e m r => by
    have h1 : H1 p = some (.ins C dx fs) := e.h _ _ np hp
    have z1 : Z1 p = none := e.n p (some_ne hp) zp
    exact ⟨.ref p, hσ, p, C, dx, fs, rfl, h1, c, n, l, k v Z1 _ (step2 e z1) ((P.next e m).set z1 np mp) r upd_same z1⟩
/-- a list of one's own in the block of a comprehension -/
theorem ev_oX {α : Type} {τ : Ty α} {xs : List α} {p : Addr} {i : Nat} {Z1 H1 : Hp} (o : Own S H0 M.fp Z H τ p xs) (zz : Same Z Z1) (hh : SameX M.fp H H1) (e : σ[i]? = some (some (.ref p))) : Ev M (tVar i) σ Z1 H1 s (li τ xs) s := by
  obtain ⟨vs, h, t⟩ := o.ex
  exact ev_own e (hh _ _ o.n h) o.n (t.imp fun _ _ => τ.mono zz) o.l
end
/-! ### the draws -/
structure DS where
  ns : List Int
  k : Nat
  x : Nat
def rowZ (ns : List Int) (k : Nat) : Int :=
  let c0 := ns.getD k 0
  let c := if c0 < 0 then -2 * c0 - 1 else c0
  if c < 10 ^ 9 then
    let a := (c * 48271 + k * 69621 + 11) % 2147483647
    let b := (a * 16807 + c * 7 + k + 5) % 2147483629
    let d := (b * 39373 + a * b + 3) % 2147483587
    a + b * 2147483647 + d * 2147483647 ^ 2
  else c
def DS.cur (s : DS) (m : Int) : Nat := if (s.x : Int) < m then (rowZ s.ns s.k).toNat else s.x
def nxV (s : DS) (m : Int) : Int := (s.cur m : Int) % m
def nxS (s : DS) (m : Int) : DS := ⟨s.ns, if (s.x : Int) < m then s.k + 1 else s.k, ((s.cur m : Int) / m).toNat⟩
theorem nx_ge (s : DS) {m : Int} (h : 0 < m) : 0 ≤ nxV s m := Int.emod_nonneg _ (by omega)
theorem nx_lt (s : DS) {m : Int} (h : 0 < m) : nxV s m < m := Int.emod_lt_of_pos _ h
def NxOk (m : Int) : Prop := 0 < m ∧ m.natAbs < 2 ^ 200
instance {m : Int} : Decidable (NxOk m) := inferInstanceAs (Decidable (_ ∧ _))
def muD (st sc : Addr) : Mu DS where
  fp := [st]
  m := fun s Z H => H st = some (.lst [.ref sc, .int (s.k : Nat), .int (s.x : Nat)]) ∧ Z sc = some (.lst (s.ns.map V.int)) ∧ Z st = none
  al := fun ⟨h, _, z⟩ a ha => by rw [List.mem_singleton] at ha; subst ha; exact ⟨some_ne h, z⟩
  loc := fun sz hk hn ⟨h, hs, z⟩ => ⟨hk _ List.mem_cons_self _ h, sz _ _ hs, hn _ List.mem_cons_self (some_ne h) z⟩
theorem muD_back {st sc : Addr} : (muD st sc).Back := fun sz ⟨_, hs, z⟩ ⟨h', hs', _⟩ => ⟨h', by rw [hs, ← hs', sz _ _ hs], z⟩
section
variable {K : PySem.W.Frag} {σ : L2.St} {H : Hp} {D : Ends}
theorem st_draws {r : List V → Hp → VK → Prop} {a : Addr} {ns : List Int} {i j : Nat} (hA : SqL K H a (ns.map V.int)) (hlen : ns.length ≤ 63) (k : ∀ st sc Z0 Z1 H1, Pt [] Z0 H (muD st sc) Z1 H1 ⟨ns, 0, 0⟩ → D.nx (σ.set i (some (.ref st))) H1)
    (hr : ∀ xs H Q, (∃ p ys, xs = [.ref p] ∧ (SqL K H p ys ∨ SqT K H p ys) ∧ ∀ l, H l = none → Q (.ref l) (upd H l (.lst ys))) → r xs H Q := by exact fun _ _ _ h => h) (hσ : σ[j]? = some (some (.ref a)) := by rfl) :
    tAsg (tLst (tCons (tCB r (tCons (tVar j) tNil)) (tCons (tC (.int 0)) (tCons (tC (.int 0)) tNil)))) (gName i) D σ H := by
  refine ⟨.ref a, hσ, hr _ _ _ ⟨a, _, rfl, .inl hA, fun sc hsc => ?_⟩⟩
  refine ⟨by show 3 ≤ sizeLine; decide, fun st hst => ?_⟩
  have s0 : Same (fun _ => none : Hp) H := fun _ _ h => by cases h
  have e1 := Step.new (o := .lst (ns.map V.int)) s0 hsc
  have e2 := Step.own (o := .lst [.ref sc, .int 0, .int 0]) e1.s hst
  exact k st sc (fun _ => none) _ _ ⟨e1.trans e2, ⟨upd_same, upd_same, by rw [upd_ne (fun q => by rw [q, upd_same] at hst; cases hst)]⟩, fun x hx => by rw [show x = st from List.mem_singleton.mp hx]; exact .inr (same_x e1 hst)⟩
end
end TP
namespace TP
open PySem PySem.Spec PyProof.Rows L2
section
variable {μ : Type} {S : List Addr} {Z0 H0 : Hp} {M : Mu μ} {σ : L2.St} {Z H : Hp} {s s' s1 s2 s3 : μ} {ta tb tc te : TE} {t : TA} {K : PySem.W.Frag} {D : Ends} {u w : TS}
theorem whileS_cons {ρ β : Type} {f : β → Option (Flow ρ β)} {n : Nat} {b : β} {q : Flow ρ β} (h : whileS f n b = some q) : ∃ k, n = k + 1 ∧ (f b).bind (Flow.nxt (whileS f k)) = some q := by
  cases n with
  | zero => cases h
  | succ k => exact ⟨k, rfl, h⟩
def WhW (I : Nat → L2.St → Hp → Hp → Prop) (k : Nat) : L2.St → Hp → Prop := fun σ H => ∃ Z, I k σ Z H
theorem st_while {c : TT} {tb : TS} (I : Nat → L2.St → Hp → Hp → Prop) (n : Nat) (P : Pt S Z0 H0 M Z H s) (h0 : I n σ Z H)
    (hs : ∀ n σ' Z' H', I n σ' Z' H' → ∃ k s s1 b, n = k + 1 ∧ Pt S Z0 H0 M Z' H' s ∧ EvT M c σ' Z' H' s b s1 ∧ (b = true → ∀ Z1 H1, Step M.fp Z' H' Z1 H1 → Pt S Z0 H0 M Z1 H1 s1 → tb { D with nx := WhW I k, ct := WhW I k, bk := D.nx } σ' H1) ∧
      (b = false → ∀ Z1 H1, Step M.fp Z' H' Z1 H1 → Pt S Z0 H0 M Z1 H1 s1 → D.nx σ' H1)) : tWhile c tb D σ H := by
  refine ⟨fun m σ H => ∃ Z, I m σ Z H, ⟨n, Z, h0⟩, ?_⟩
  rintro m σ' H' ⟨Z', hI⟩
  obtain ⟨k, s, s1, b, rfl, P, et, ht, hf⟩ := hs m σ' Z' H' hI
  refine et Z' H' (Same.refl _) SameX.refl P.sub P.m _ fun Z1 H1 e m => ?_
  cases b with
  | true =>
    rw [if_pos rfl]
    exact ⟨WhW I k, fun σ3 H3 h3 => ⟨k, Nat.lt_succ_self _, h3⟩, ht rfl Z1 H1 e (P.next e m)⟩
  | false =>
    rw [if_neg Bool.false_ne_true]
    exact hf rfl Z1 H1 e (P.next e m)
end
end TP

namespace TP
open PySem PySem.Spec PyProof.Rows L2
section
variable {μ : Type} {S : List Addr} {Z0 H0 : Hp} {M : Mu μ} {σ : L2.St} {Z H : Hp} {s s' s1 s2 s3 : μ} {ta tb tc te : TE} {t : TA} {K : PySem.W.Frag} {D : Ends} {u w : TS}
/-! ### isinstance -/
theorem ev_isi {r : List V → Hp → VK → Prop} {R : Rr M.fp} {c : V} {v t : Value} {b : Bool} (hr : ∀ xs H Q, rIsi K xs H Q → r xs H Q) (ha : Ev M ta σ Z H s R s1) (tx : ∀ Z H v, Same Z H → R.r Z H v → TyX K H v t) (hc : ClsV c v) (hk : PySem.W.kitOne K t v = some b) :
    Ev M (tCB r (tCons ta (tCons (tC c) tNil))) σ Z H s (ty yBool b) s1 :=
  ev_cb (Rs := rac R (rac ⟨fun _ _ v => v = c, fun _ h => h⟩ ra0)) (eva_cons ha (eva_cons (ev_of fun _ _ _ _ _ _ q => q _ rfl) eva_nil)) fun _ _ _ sz ⟨x, r1, e1, h1, y, r2, e2, h2, e3⟩ _ q => by
    cases e3; cases e2; cases e1
    have h2' : y = c := h2
    subst h2'
    exact hr _ _ _ ⟨x, y, t, v, b, rfl, hc, tx _ _ _ sz h1, hk, q _ _ _ (Step.refl sz) rfl⟩
section
variable {fp : List Addr} {α β γ δ : Type} {τ : Ty α} {υ : Ty β} {φ : Ty γ} {ψ : Ty δ}
theorem tx_int {x : Int} : ∀ Z H v, Same Z H → (ty (fp := fp) yInt x).r Z H v → TyX K H v (.type "int") := fun _ _ _ _ h => by cases h; exact .base (.int _)
theorem tx_bool {x : Bool} : ∀ Z H v, Same Z H → (ty (fp := fp) yBool x).r Z H v → TyX K H v (.type "bool") := fun _ _ _ _ h => by cases h; exact .base (.bl _)
theorem tx_str {x : Str} : ∀ Z H v, Same Z H → (ty (fp := fp) yStr x).r Z H v → TyX K H v (.type "str") := fun _ _ _ _ h => by rw [h.1]; exact .base (.str _)
theorem tx_li {x : List α} : ∀ Z H v, Same Z H → (li (fp := fp) τ x).r Z H v → TyX K H v (.type "list") := fun _ _ _ sz h => by
  obtain ⟨p, vs, rfl, g, _, _⟩ := rdl sz h
  exact .base (.lst g)
theorem tx_sqT {H : Hp} {a : Addr} {vs : List V} (h : SqT K H a vs) : TyX K H (.ref a) (.type "tuple") := by
  rcases h with (h | ⟨o, h⟩) | ⟨o, its, n, h, hc, _⟩
  · exact .base (.tup h)
  · exact .fTuple h
  · exact .kTuple h hc
theorem tx_tup {x : List α} : ∀ Z H v, Same Z H → (ty (fp := fp) (yTup K τ) x).r Z H v → TyX K H v (.type "tuple") := fun _ _ _ sz ⟨a, vs, e, h, _⟩ => by subst e; exact tx_sqT (seqT_same sz h)
theorem tx_p2 {x : α × β} : ∀ Z H v, Same Z H → (ty (fp := fp) (yP2 K τ υ) x).r Z H v → TyX K H v (.type "tuple") := fun _ _ _ sz ⟨a, _, _, e, h, _⟩ => by subst e; exact tx_sqT (seqT_same sz h)
theorem tx_p3 {x : α × β × γ} : ∀ Z H v, Same Z H → (ty (fp := fp) (yP3 K τ υ φ) x).r Z H v → TyX K H v (.type "tuple") := fun _ _ _ sz ⟨a, _, _, _, e, h, _⟩ => by subst e; exact tx_sqT (seqT_same sz h)
end
end
end TP

namespace TP
open PySem PySem.Spec PyProof.Rows L2
/-! on, where what is bound is known: proofs that are no rfl, so that the kernel evaluates nothing -/
theorem bsome {α β : Type} {x : α} {f : α → Option β} : (some x).bind f = f x := by rw [Option.bind_some]
theorem bnone {α β : Type} {f : α → Option β} : (none : Option α).bind f = none := of_eq_true (eq_self _)
theorem thn_go {ρ β γ : Type} {b : β} {k : β → Option γ} {g : ρ → Option γ} : Flow.thn k g (.go b) = k b := by simp only [Flow.thn]
theorem thn_brk {ρ β γ : Type} {b : β} {k : β → Option γ} {g : ρ → Option γ} : Flow.thn k g (.brk b) = k b := by simp only [Flow.thn]
theorem thn_ret {ρ β γ : Type} {y : ρ} {k : β → Option γ} {g : ρ → Option γ} : Flow.thn k g (.ret y) = g y := by simp only [Flow.thn]
theorem forF_foldl {α β : Type} {f : α → β → Option β} {g : β → α → β} (h : ∀ x b, f x b = some (g b x)) : ∀ (xs : List α) (b : β), forF f xs b = some (xs.foldl g b)
  | [], _ => rfl
  | x :: r, b => by
    show (f x b).bind _ = _
    rw [h x b]
    exact forF_foldl h r _
theorem forF_inv {α β : Type} {f : α → β → Option β} {I : Nat → β → Prop} {m : Nat} (h : ∀ n x b, n < m → I n b → ∃ b', f x b = some b' ∧ I (n + 1) b') : ∀ (xs : List α) (n : Nat) (b : β), n + xs.length ≤ m → I n b → ∃ b', forF f xs b = some b' ∧ I (n + xs.length) b'
  | [], _, b, _, i => ⟨b, rfl, i⟩
  | x :: r, n, b, l, i => by
    rw [List.length_cons] at l
    obtain ⟨b1, e, i1⟩ := h n x b (by omega) i
    obtain ⟨b2, e2, i2⟩ := forF_inv h r (n + 1) b1 (by omega) i1
    refine ⟨b2, ?_, by rw [List.length_cons, show n + (r.length + 1) = n + 1 + r.length by omega]; exact i2⟩
    show (f x b).bind _ = _
    rw [e]
    exact e2
theorem forS_inv {ρ α β : Type} {f : α → β → Option (Flow ρ β)} {I : Nat → β → Prop} {m : Nat} (h : ∀ n x b, n < m → I n b → ∃ b', f x b = some (.go b') ∧ I (n + 1) b') : ∀ (xs : List α) (n : Nat) (b : β), n + xs.length ≤ m → I n b → ∃ b', forS f xs b = some (.go b') ∧ I (n + xs.length) b'
  | [], _, b, _, i => ⟨b, rfl, i⟩
  | x :: r, n, b, l, i => by
    rw [List.length_cons] at l
    obtain ⟨b1, e, i1⟩ := h n x b (by omega) i
    obtain ⟨b2, e2, i2⟩ := forS_inv h r (n + 1) b1 (by omega) i1
    refine ⟨b2, ?_, by rw [List.length_cons, show n + (r.length + 1) = n + 1 + r.length by omega]; exact i2⟩
    show (f x b).bind _ = _
    rw [e]
    exact e2
theorem mapS_all {α β μ : Type} {f : α → μ → Option (β × μ)} {R : β → Prop} (h : ∀ x s, ∃ y s', f x s = some (y, s') ∧ R y) : ∀ (xs : List α) (s : μ), ∃ ys s', mapS f xs s = some (ys, s') ∧ ys.length = xs.length ∧ ∀ y ∈ ys, R y
  | [], s => ⟨[], s, rfl, rfl, fun _ h => nomatch h⟩
  | x :: r, s => by
    obtain ⟨y, s1, e, hy⟩ := h x s
    obtain ⟨ys, s2, e2, l, hs⟩ := mapS_all h r s1
    refine ⟨y :: ys, s2, ?_, congrArg Nat.succ l, fun z hz => ?_⟩
    · show (f x s).bind _ = _
      rw [e]
      show (mapS f r s1).bind _ = _
      rw [e2]
      rfl
    · rcases List.mem_cons.mp hz with rfl | hz
      · exact hy
      · exact hs z hz
theorem cutA_none {α : Type} (xs : List α) {c : Int} (h : 0 ≤ c) : cutA xs none (some c) = xs.take c.toNat := by
  obtain ⟨k, rfl⟩ := Int.eq_ofNat_of_zero_le h
  unfold cutA
  rw [HT.sIx_none, HT.sIx_nat, List.drop_zero, Nat.sub_zero, Int.toNat_natCast]
  by_cases q : k ≤ xs.length
  · rw [Nat.min_eq_left q]
  · rw [Nat.min_eq_right (by omega), List.take_length, List.take_of_length_le (by omega)]
theorem cutA_to {α : Type} (xs : List α) {a c : Int} (h : 0 ≤ a) (h2 : a ≤ c) (h3 : c ≤ xs.length) : cutA xs (some a) (some c) = (xs.drop a.toNat).take (c - a).toNat := by
  obtain ⟨k, rfl⟩ := Int.eq_ofNat_of_zero_le h
  obtain ⟨m, rfl⟩ := Int.eq_ofNat_of_zero_le (show 0 ≤ c by omega)
  unfold cutA
  rw [HT.sIx_nat, HT.sIx_nat, Nat.min_eq_left (by omega), Nat.min_eq_left (by omega), Int.toNat_natCast, show ((m : Int) - (k : Int)).toNat = m - k by omega]
theorem cutA_from {α : Type} (xs : List α) {a : Int} (h : 0 ≤ a) : cutA xs (some a) none = xs.drop a.toNat := by
  obtain ⟨k, rfl⟩ := Int.eq_ofNat_of_zero_le h
  unfold cutA
  rw [HT.sIx_nat, HT.sIx_none, Int.toNat_natCast]
  by_cases q : k ≤ xs.length
  · rw [Nat.min_eq_left q, List.take_of_length_le (by rw [List.length_drop]; omega)]
  · rw [Nat.min_eq_right (by omega), List.drop_length, List.drop_of_length_le (by omega)]
    simp
theorem ixN_of {n : Nat} {i : Int} (h : 0 ≤ i) (l : i < n) : ixN n i = some i.toNat := by
  obtain ⟨k, rfl⟩ := Int.eq_ofNat_of_zero_le h
  rw [Int.toNat_natCast]
  unfold ixN
  split <;> first | rfl | omega | (split <;> first | rfl | omega) | skip
theorem atI_of {α : Type} {xs : List α} {i : Int} (h : 0 ≤ i) : L2.atI xs i = xs[i.toNat]? := by
  by_cases l : i < xs.length
  · unfold L2.atI
    rw [ixN_of h l]
    rfl
  · rw [List.getElem?_eq_none (by omega)]
    obtain ⟨k, rfl⟩ := Int.eq_ofNat_of_zero_le h
    unfold L2.atI ixN
    split <;> first | rfl | (split <;> first | rfl | omega) | skip
theorem nxOk_of {m : Int} (h : 0 < m) (l : m < 2 ^ 199) : NxOk m := ⟨h, by
  have : m.natAbs < 2 ^ 199 := by
    have e : (2 : Int) ^ 199 = ((2 ^ 199 : Nat) : Int) := by decide
    rw [e] at l
    omega
  exact Nat.lt_trans this (by decide)⟩
theorem rangeOk_of {a b : Int} (h : 0 ≤ a) (h1 : a ≤ 16777216) (l : b ≤ 16777216) (l2 : -16777216 ≤ b) : RangeOk a b := ⟨⟨by omega, by omega⟩, ⟨by omega, by omega⟩, by omega⟩
end TP
namespace TP
open PySem PySem.Spec PyProof.Rows L2
theorem forF_idx {α β : Type} {f : α → β → Option β} {I : Nat → β → Prop} : ∀ (xs : List α) (k : Nat) (b : β), (∀ n x b, xs[n]? = some x → I (k + n) b → ∃ b', f x b = some b' ∧ I (k + n + 1) b') → I k b → ∃ b', forF f xs b = some b' ∧ I (k + xs.length) b'
  | [], k, b, _, i => ⟨b, rfl, i⟩
  | x :: r, k, b, h, i => by
    obtain ⟨b1, e1, i1⟩ := h 0 x b rfl i
    obtain ⟨b2, e2, i2⟩ := forF_idx (I := I) r (k + 1) b1 (fun n y b' hy ib => by
      have := h (n + 1) y b' (by simpa using hy) (by rw [show k + (n + 1) = k + 1 + n by omega]; exact ib)
      rw [show k + 1 + n + 1 = k + (n + 1) + 1 by omega]
      exact this) i1
    refine ⟨b2, ?_, by rw [List.length_cons, show k + (r.length + 1) = k + 1 + r.length by omega]; exact i2⟩
    show (f x b).bind _ = _
    rw [e1]
    exact e2
theorem forS_idx {ρ α β : Type} {f : α → β → Option (Flow ρ β)} {I : Nat → β → Prop} : ∀ (xs : List α) (k : Nat) (b : β), (∀ n x b, xs[n]? = some x → I (k + n) b → ∃ b', f x b = some (.go b') ∧ I (k + n + 1) b') → I k b → ∃ b', forS f xs b = some (.go b') ∧ I (k + xs.length) b'
  | [], k, b, _, i => ⟨b, rfl, i⟩
  | x :: r, k, b, h, i => by
    obtain ⟨b1, e1, i1⟩ := h 0 x b rfl i
    obtain ⟨b2, e2, i2⟩ := forS_idx (I := I) r (k + 1) b1 (fun n y b' hy ib => by
      have := h (n + 1) y b' (by simpa using hy) (by rw [show k + (n + 1) = k + 1 + n by omega]; exact ib)
      rw [show k + 1 + n + 1 = k + (n + 1) + 1 by omega]
      exact this) i1
    refine ⟨b2, ?_, by rw [List.length_cons, show k + (r.length + 1) = k + 1 + r.length by omega]; exact i2⟩
    show (f x b).bind _ = _
    rw [e1]
    exact e2
theorem rangeZ_get {lo hi : Int} {n : Nat} {x : Int} (h : (rangeZ lo hi)[n]? = some x) : x = lo + (n : Int) ∧ (n : Int) < hi - lo := by
  have l := (List.getElem?_eq_some_iff.mp h).1
  rw [rangeZ_len] at l
  unfold rangeZ at h
  rw [List.getElem?_map, List.getElem?_range l] at h
  exact ⟨(Option.some.inj h).symm, by omega⟩
/-- a loop over range(m) that always goes on -/
theorem forF_rng {β : Type} {f : Int → β → Option β} (I : Nat → β → Prop) {m : Int} {b : β} (h0 : I 0 b) (h : ∀ (n : Nat) b, (n : Int) < m → I n b → ∃ b', f (n : Int) b = some b' ∧ I (n + 1) b') : ∃ b', forF f (rangeZ 0 m) b = some b' ∧ I m.toNat b' := by
  obtain ⟨b', e, i⟩ := forF_idx (f := f) (I := I) (rangeZ 0 m) 0 b (fun n x b hx ib => by
    obtain ⟨rfl, hm⟩ := rangeZ_get hx
    rw [Nat.zero_add] at ib ⊢
    obtain ⟨b', e, i⟩ := h n b (by omega) ib
    exact ⟨b', by rw [show (0 : Int) + (n : Int) = n by omega]; exact e, i⟩) h0
  refine ⟨b', e, ?_⟩
  rw [Nat.zero_add, rangeZ_len, Int.sub_zero] at i
  exact i
theorem forS_rng {ρ β : Type} {f : Int → β → Option (Flow ρ β)} (I : Nat → β → Prop) {m : Int} {b : β} (h0 : I 0 b) (h : ∀ (n : Nat) b, (n : Int) < m → I n b → ∃ b', f (n : Int) b = some (.go b') ∧ I (n + 1) b') : ∃ b', forS f (rangeZ 0 m) b = some (.go b') ∧ I m.toNat b' := by
  obtain ⟨b', e, i⟩ := forS_idx (f := f) (I := I) (rangeZ 0 m) 0 b (fun n x b hx ib => by
    obtain ⟨rfl, hm⟩ := rangeZ_get hx
    rw [Nat.zero_add] at ib ⊢
    obtain ⟨b', e, i⟩ := h n b (by omega) ib
    exact ⟨b', by rw [show (0 : Int) + (n : Int) = n by omega]; exact e, i⟩) h0
  refine ⟨b', e, ?_⟩
  rw [Nat.zero_add, rangeZ_len, Int.sub_zero] at i
  exact i
/-- enumerate, from k on -/
def enumF {α : Type} : Int → List α → List (Int × α)
  | _, [] => []
  | k, x :: r => (k, x) :: enumF (k + 1) r
theorem enumZ_eq {α : Type} (xs : List α) : enumZ xs = enumF 0 xs := by
  have key : ∀ (xs : List α) (k : Nat), ((List.range xs.length).map fun (i : Nat) => ((k + i : Nat) : Int)).zip xs = enumF (k : Int) xs := fun xs => by
    induction xs with
    | nil => intro k; rfl
    | cons x r ih =>
      intro k
      rw [List.length_cons, List.range_succ_eq_map, List.map_cons, List.map_map, List.zip_cons_cons]
      show (((k + 0 : Nat) : Int), x) :: _ = ((k : Int), x) :: enumF ((k : Int) + 1) r
      have := ih (k + 1)
      rw [Nat.add_zero]
      congr 1
      have e : ((k + 1 : Nat) : Int) = (k : Int) + 1 := by omega
      rw [← e, ← this]
      congr 2
      funext i
      show ((k + (i + 1) : Nat) : Int) = ((k + 1 + i : Nat) : Int)
      omega
  have := key xs 0
  unfold enumZ rangeZ
  rw [Int.sub_zero, Int.toNat_natCast]
  refine Eq.trans ?_ this
  congr 2
end TP

namespace TP
open PySem PySem.Spec PyProof.Rows L2
section
variable {α β γ μ : Type}
theorem mapO_eq {f : α → Option β} {g : α → β} : ∀ {xs : List α}, (∀ x ∈ xs, f x = some (g x)) → mapO f xs = some (xs.map g)
  | [], _ => rfl
  | x :: r, h => by
    show (f x).bind _ = _
    rw [h x List.mem_cons_self, Option.bind_some, mapO_eq fun y hy => h y (List.mem_cons_of_mem _ hy)]
    rfl
theorem mapO_ex {f : α → Option β} {R : β → Prop} : ∀ {xs : List α}, (∀ x ∈ xs, ∃ y, f x = some y ∧ R y) → ∃ ys, mapO f xs = some ys ∧ ys.length = xs.length ∧ ∀ y ∈ ys, R y
  | [], _ => ⟨[], rfl, rfl, fun _ h => nomatch h⟩
  | x :: r, h => by
    obtain ⟨y, e, hy⟩ := h x List.mem_cons_self
    obtain ⟨ys, e2, l, hs⟩ := mapO_ex fun y hy => h y (List.mem_cons_of_mem _ hy)
    refine ⟨y :: ys, ?_, congrArg Nat.succ l, fun z hz => ?_⟩
    · show (f x).bind _ = _
      rw [e, Option.bind_some, e2]
      rfl
    · rcases List.mem_cons.mp hz with rfl | hz
      · exact hy
      · exact hs z hz
/-- a comprehension that draws, with a fact of the items -/
theorem mapS_mem {f : α → μ → Option (β × μ)} {R : β → Prop} : ∀ {xs : List α} (s : μ), (∀ x ∈ xs, ∀ s, ∃ y s', f x s = some (y, s') ∧ R y) → ∃ ys s', mapS f xs s = some (ys, s') ∧ ys.length = xs.length ∧ ∀ y ∈ ys, R y
  | [], s, _ => ⟨[], s, rfl, rfl, fun _ h => nomatch h⟩
  | x :: r, s, h => by
    obtain ⟨y, s1, e, hy⟩ := h x List.mem_cons_self s
    obtain ⟨ys, s2, e2, l, hs⟩ := mapS_mem s1 fun y hy => h y (List.mem_cons_of_mem _ hy)
    refine ⟨y :: ys, s2, ?_, congrArg Nat.succ l, fun z hz => ?_⟩
    · show (f x s).bind _ = _
      rw [e]
      show (mapS f r s1).bind _ = _
      rw [e2]
      rfl
    · rcases List.mem_cons.mp hz with rfl | hz
      · exact hy
      · exact hs z hz
theorem forF_mem {f : α → β → Option β} {I : β → Prop} : ∀ {xs : List α} {b : β}, I b → (∀ x ∈ xs, ∀ b, I b → ∃ b', f x b = some b' ∧ I b') → ∃ b', forF f xs b = some b' ∧ I b'
  | [], b, i, _ => ⟨b, rfl, i⟩
  | x :: r, b, i, h => by
    obtain ⟨b1, e, i1⟩ := h x List.mem_cons_self b i
    obtain ⟨b2, e2, i2⟩ := forF_mem i1 fun y hy => h y (List.mem_cons_of_mem _ hy)
    refine ⟨b2, ?_, i2⟩
    show (f x b).bind _ = _
    rw [e]
    exact e2
theorem forS_mem {ρ : Type} {f : α → β → Option (Flow ρ β)} {I : β → Prop} : ∀ {xs : List α} {b : β}, I b → (∀ x ∈ xs, ∀ b, I b → ∃ b', f x b = some (.go b') ∧ I b') → ∃ b', forS f xs b = some (.go b') ∧ I b'
  | [], b, i, _ => ⟨b, rfl, i⟩
  | x :: r, b, i, h => by
    obtain ⟨b1, e, i1⟩ := h x List.mem_cons_self b i
    obtain ⟨b2, e2, i2⟩ := forS_mem i1 fun y hy => h y (List.mem_cons_of_mem _ hy)
    refine ⟨b2, ?_, i2⟩
    show (f x b).bind _ = _
    rw [e]
    exact e2
/-- the loop by places: what is true behind n items -/
theorem forF_take {f : α → β → Option β} {I : List α → β → Prop} {xs : List α} {b : β} (h0 : I [] b) (h : ∀ p x r b, xs = p ++ x :: r → I p b → ∃ b', f x b = some b' ∧ I (p ++ [x]) b') : ∃ b', forF f xs b = some b' ∧ I xs b' := by
  have key : ∀ (r p : List α) (b : β), xs = p ++ r → I p b → ∃ b', forF f r b = some b' ∧ I xs b' := fun r => by
    induction r with
    | nil => intro p b e i; rw [List.append_nil] at e; exact ⟨b, rfl, e ▸ i⟩
    | cons x r ih =>
      intro p b e i
      obtain ⟨b1, e1, i1⟩ := h p x r b e i
      obtain ⟨b2, e2, i2⟩ := ih (p ++ [x]) b1 (by rw [e]; simp) i1
      refine ⟨b2, ?_, i2⟩
      show (f x b).bind _ = _
      rw [e1]
      exact e2
  exact key xs [] b rfl h0
theorem forS_take {ρ : Type} {f : α → β → Option (Flow ρ β)} {I : List α → β → Prop} {xs : List α} {b : β} (h0 : I [] b) (h : ∀ p x r b, xs = p ++ x :: r → I p b → ∃ b', f x b = some (.go b') ∧ I (p ++ [x]) b') : ∃ b', forS f xs b = some (.go b') ∧ I xs b' := by
  have key : ∀ (r p : List α) (b : β), xs = p ++ r → I p b → ∃ b', forS f r b = some (.go b') ∧ I xs b' := fun r => by
    induction r with
    | nil => intro p b e i; rw [List.append_nil] at e; exact ⟨b, rfl, e ▸ i⟩
    | cons x r ih =>
      intro p b e i
      obtain ⟨b1, e1, i1⟩ := h p x r b e i
      obtain ⟨b2, e2, i2⟩ := ih (p ++ [x]) b1 (by rw [e]; simp) i1
      refine ⟨b2, ?_, i2⟩
      show (f x b).bind _ = _
      rw [e1]
      exact e2
  exact key xs [] b rfl h0
theorem str_len1 {c : Nat} : (⟨#[c]⟩ : Str).length = 1 := rfl
theorem str_app_len (x y : Str) : (x ++ y).length = x.length + y.length := by
  show (x.cps ++ y.cps).size = _
  rw [Array.size_append]; rfl
/-- == of data that are compared by their terms -/
theorem EqD.eqvB {K : PySem.W.Frag} {τ : Ty α} {d : α → PyData} {n : Nat} (E : EqD K τ d n) [DecidableEq α] (x y : α) : PyData.eqv (d x) (d y) = decide (x = y) := Bool.eq_iff_iff.mpr ((E.eqv x y).trans decide_eq_true_iff.symm)
theorem atI_lit {xs : List α} {i : Int} (h : 0 ≤ i) (l : i < xs.length) : ∃ x, L2.atI xs i = some x ∧ x ∈ xs := by
  rw [atI_of h]
  obtain ⟨k, rfl⟩ := Int.eq_ofNat_of_zero_le h
  rw [Int.toNat_natCast]
  have hk : k < xs.length := by omega
  exact ⟨xs[k], List.getElem?_eq_getElem hk, List.getElem_mem hk⟩
/-- a loop that looks at each item and may say no -/
theorem forS_all {ρ : Type} {f : α → Unit → Option (Flow ρ Unit)} {p : α → Bool} {r : ρ} : ∀ {xs : List α}, (∀ x ∈ xs, f x () = some (if p x = true then .go () else .ret r)) → forS f xs () = some (if xs.all p = true then .go () else .ret r)
  | [], _ => rfl
  | x :: t, h => by
    show (f x ()).bind _ = _
    rw [h x List.mem_cons_self, bsome]
    cases hp : p x with
    | true =>
      rw [if_pos rfl, List.all_cons, hp, Bool.true_and]
      exact forS_all fun y hy => h y (List.mem_cons_of_mem _ hy)
    | false =>
      rw [if_neg Bool.false_ne_true, List.all_cons, hp, Bool.false_and, if_neg Bool.false_ne_true]
      rfl
theorem rangeZ_mem {lo hi x : Int} (h : x ∈ rangeZ lo hi) : lo ≤ x ∧ x < hi := by
  unfold rangeZ at h
  obtain ⟨i, hi', rfl⟩ := List.mem_map.mp h
  have := List.mem_range.mp hi'
  omega
theorem rangeZ_map (n : Nat) (f : Int → α) : (rangeZ 0 (n : Int)).map f = (List.range n).map fun (k : Nat) => f (k : Int) := by
  unfold rangeZ
  rw [List.map_map, Int.sub_zero, Int.toNat_natCast]
  refine List.map_congr_left fun k _ => ?_
  show f (0 + (k : Int)) = f k
  rw [Int.zero_add]
theorem atI_nat {xs : List α} {k : Nat} {x : α} (h : xs[k]? = some x) : L2.atI xs (k : Int) = some x := by
  rw [atI_of (by omega), Int.toNat_natCast, h]
theorem fmO_eq {f : α → Option (Option β)} {p : α → Bool} {g : α → β} : ∀ {xs : List α}, (∀ x ∈ xs, f x = some (if p x = true then some (g x) else none)) → fmO f xs = some ((xs.filter p).map g)
  | [], _ => rfl
  | x :: t, h => by
    show (f x).bind _ = _
    rw [h x List.mem_cons_self, bsome, fmO_eq fun y hy => h y (List.mem_cons_of_mem _ hy), bsome]
    cases hp : p x with
    | true => rw [if_pos rfl, List.filter_cons_of_pos hp]; rfl
    | false => rw [if_neg Bool.false_ne_true, List.filter_cons_of_neg (by rw [hp]; exact Bool.false_ne_true)]
end
end TP

namespace TP
open PySem PySem.Spec PyProof.Rows L2
/-! ### exceptions -/
/-- a value, or an exception -/
inductive Res (ε α : Type)
  | ok (a : α) | er (e : ε)
deriving DecidableEq
def Res.thn {ε α γ : Type} (g : ε → Option γ) (k : α → Option γ) : Res ε α → Option γ
  | .ok a => k a
  | .er e => g e
section
variable {ε α γ : Type} {g : ε → Option γ} {k : α → Option γ} {y : γ}
theorem rok_inv {a : α} (h : Res.thn g k (.ok a) = some y) : k a = some y := h
theorem rer_inv {e : ε} (h : Res.thn g k (.er e) = some y) : g e = some y := h
end
section
variable {μ : Type} {S : List Addr} {Z0 H0 : Hp} {M : Mu μ} {σ : L2.St} {Z H : Hp} {s s' s1 s2 s3 : μ} {ta tb tc te : TE} {t : TA} {K : PySem.W.Frag} {D : Ends} {u w : TS} {X : Hp → Prop}
/-- the expression raises: X is asked of the heap then -/
def EvE (M : Mu μ) (t : TE) (σ : L2.St) (Z H : Hp) (s : μ) (X : Hp → Prop) (s' : μ) : Prop :=
  ∀ Z1 H1, Same Z Z1 → SameX M.fp H H1 → Same Z1 H1 → M.m s Z1 H1 → ∀ Q : VK, (∀ Z2 H2, Step M.fp Z1 H1 Z2 H2 → M.m s' Z2 H2 → X H2) → t σ H1 Q
def EvAE (M : Mu μ) (t : TA) (σ : L2.St) (Z H : Hp) (s : μ) (X : Hp → Prop) (s' : μ) : Prop :=
  ∀ Z1 H1, Same Z Z1 → SameX M.fp H H1 → Same Z1 H1 → M.m s Z1 H1 → ∀ Q : List V → Hp → Prop, (∀ Z2 H2, Step M.fp Z1 H1 Z2 H2 → M.m s' Z2 H2 → X H2) → t σ H1 Q
def EvTE (M : Mu μ) (t : TT) (σ : L2.St) (Z H : Hp) (s : μ) (X : Hp → Prop) (s' : μ) : Prop :=
  ∀ Z1 H1, Same Z Z1 → SameX M.fp H H1 → Same Z1 H1 → M.m s Z1 H1 → ∀ Q : Bool → Hp → Prop, (∀ Z2 H2, Step M.fp Z1 H1 Z2 H2 → M.m s' Z2 H2 → X H2) → t σ H1 Q
/-- for arguments of which Rs is true the promise raises: the class cls -/
def CallE (M : Mu μ) (sp : Sp) (E : XK) (Rs : Ra M.fp) (s : μ) (cls : Value) (s' : μ) : Prop :=
  ∀ Z H vs, Same Z H → M.m s Z H → Rs.r Z H vs → ∀ Q : VK, (∀ Z2 H2, Step M.fp Z H Z2 H2 → M.m s' Z2 H2 → E cls none H2) → sp vs H Q E
def InitE (M : Mu μ) (C : Addr) (sp : Sp) (E : XK) (Rs : Ra M.fp) (s : μ) (cls : Value) (s' : μ) : Prop :=
  ∀ Z H vs x dx, Same Z H → M.m s Z H → Rs.r Z H vs → H x = some (.ins C dx []) → Z x = none → x ∉ M.fp → ∀ Q : VK, (∀ Z2 H2, Step (x :: M.fp) Z H Z2 H2 → M.m s' Z2 H2 → E cls none H2) → sp (.ref x :: vs) H Q E
theorem eae_head (ha : EvE M ta σ Z H s X s1) : EvAE M (tCons ta t) σ Z H s X s1 := fun Z1 H1 a b c d _ q => ha Z1 H1 a b c d _ q
theorem eae_tail {R : Rr M.fp} (ha : Ev M ta σ Z H s R s1) (hr : EvAE M t σ Z H s1 X s2) : EvAE M (tCons ta t) σ Z H s X s2 :=
  fun Z1 H1 a b c d _ q => ha Z1 H1 a b c d _ fun _ Z2 H2 e m _ => hr Z2 H2 (a.trans e.z) (b.trans e.h) e.s m _ fun Z3 H3 e2 m2 => q Z3 H3 (e.trans e2) m2
theorem eve_args {sp : Sp} {E : XK} {dvs : List V} (ha : EvAE M t σ Z H s X s1) : EvE M (tCall sp dvs E t) σ Z H s X s1 := fun Z1 H1 a b c d _ q => ha Z1 H1 a b c d _ q
theorem eve_cb {r : List V → Hp → VK → Prop} (ha : EvAE M t σ Z H s X s1) : EvE M (tCB r t) σ Z H s X s1 := fun Z1 H1 a b c d _ q => ha Z1 H1 a b c d _ q
theorem eve_tup (ha : EvAE M t σ Z H s X s1) : EvE M (tTup t) σ Z H s X s1 := fun Z1 H1 a b c d _ q => ha Z1 H1 a b c d _ q
theorem eve_lst (ha : EvAE M t σ Z H s X s1) : EvE M (tLst t) σ Z H s X s1 := fun Z1 H1 a b c d _ q => ha Z1 H1 a b c d _ q
theorem eve_left {r : R2} (ha : EvE M ta σ Z H s X s1) : EvE M (tOp r ta tb) σ Z H s X s1 := fun Z1 H1 a b c d _ q => ha Z1 H1 a b c d _ q
theorem eve_right {r : R2} {R : Rr M.fp} (ha : Ev M ta σ Z H s R s1) (hb : EvE M tb σ Z H s1 X s2) : EvE M (tOp r ta tb) σ Z H s X s2 :=
  fun Z1 H1 a b c d _ q => ha Z1 H1 a b c d _ fun _ Z2 H2 e m _ => hb Z2 H2 (a.trans e.z) (b.trans e.h) e.s m _ fun Z3 H3 e2 m2 => q Z3 H3 (e.trans e2) m2
theorem eve_fld {f : Str} (ha : EvE M ta σ Z H s X s1) : EvE M (tFld K ta f) σ Z H s X s1 := fun Z1 H1 a b c d _ q => ha Z1 H1 a b c d _ q
theorem eve_call {sp : Sp} {E : XK} {Rs : Ra M.fp} {cls : Value} (C : CallE M sp E Rs s1 cls s2) (ha : EvA M t σ Z H s Rs s1) : EvE M (tCall sp [] E t) σ Z H s (E cls none) s2 :=
  fun Z1 H1 a b c d Q q => ha Z1 H1 a b c d _ fun vs Z2 H2 e m rs => by
    rw [List.append_nil]
    exact C Z2 H2 vs e.s m rs Q fun Z3 H3 e2 m2 => q Z3 H3 (e.trans e2) m2
theorem eve_meth {α : Type} {τ : Ty α} {x : α} {C' : Addr} {m : Str} {sp : Sp} {E : XK} {Rs : Ra M.fp} {cls : Value} (O : ObjOf τ C' m) (C : CallE M sp E (rac (ty τ x) Rs) s2 cls s3) (hx : Ev M ta σ Z H s (ty τ x) s1) (ha : EvA M t σ Z H s1 Rs s2) : EvE M (tMeth C' m sp [] E ta t) σ Z H s (E cls none) s3 :=
  fun Z1 H1 a b c d Q q => hx Z1 H1 a b c d _ fun v Z2 H2 e mm rv => by
    obtain ⟨p, dx, fs, rfl, hp, l⟩ := O _ _ _ rv
    refine ⟨p, dx, fs, rfl, e.s _ _ hp, l, ha Z2 H2 (a.trans e.z) (b.trans e.h) e.s mm _ fun vs Z3 H3 e2 m2 rs => ?_⟩
    rw [List.append_nil]
    exact C Z3 H3 _ e2.s m2 ⟨_, vs, rfl, τ.mono e2.z rv, rs⟩ Q fun Z4 H4 e3 m3 => q Z4 H4 ((e.trans e2).trans e3) m3
theorem eve_methA {α : Type} {τ : Ty α} {x : α} {C' : Addr} {m : Str} {sp : Sp} {E : XK} (O : ObjOf τ C' m) (hx : Ev M ta σ Z H s (ty τ x) s1) (ha : EvAE M t σ Z H s1 X s2) : EvE M (tMeth C' m sp [] E ta t) σ Z H s X s2 :=
  fun Z1 H1 a b c d Q q => hx Z1 H1 a b c d _ fun v Z2 H2 e mm rv => by
    obtain ⟨p, dx, fs, rfl, hp, l⟩ := O _ _ _ rv
    exact ⟨p, dx, fs, rfl, e.s _ _ hp, l, ha Z2 H2 (a.trans e.z) (b.trans e.h) e.s mm _ fun Z3 H3 e2 m2 => q Z3 H3 (e.trans e2) m2⟩
theorem eve_methO {C' : Addr} {m : Str} {sp : Sp} {E : XK} (hx : EvE M ta σ Z H s X s1) : EvE M (tMeth C' m sp [] E ta t) σ Z H s X s1 := fun Z1 H1 a b c d _ q => hx Z1 H1 a b c d _ q
theorem eve_makeA {C : Addr} {sp : Sp} {E : XK} (ha : EvAE M t σ Z H s X s1) : EvE M (tMake C sp [] E t) σ Z H s X s1 := fun Z1 H1 a b c d _ q => ha Z1 H1 a b c d _ q
theorem eve_makeKA {C : Addr} {n k : Nat} {sp : Sp} {E : XK} {gV : List V → List V → List V} {tk : TA} (ha : EvAE M t σ Z H s X s1) : EvE M (tMakeK C n k sp gV E t tk) σ Z H s X s1 := fun Z1 H1 a b c d _ q => ha Z1 H1 a b c d _ q
theorem Step.drop {S : List Addr} {Z H Z1 H1 : Hp} {x : Addr} (g : Step (x :: S) Z H Z1 H1) (hx : H x = none) : Step S Z H Z1 H1 := g.weak fun a h => by
  rcases List.mem_cons.mp h with e | h
  · exact .inr (e ▸ hx)
  · exact .inl h
theorem eve_make {C : Addr} {sp : Sp} {E : XK} {Rs : Ra M.fp} {cls : Value} (I : InitE M C sp E Rs s1 cls s2) (ha : EvA M t σ Z H s Rs s1) : EvE M (tMake C sp [] E t) σ Z H s (E cls none) s2 :=
  fun Z1 H1 a b c d Q q => ha Z1 H1 a b c d _ fun vs Z2 H2 e m rs x dx hx hd ne => by
    rw [List.append_nil]
    have st := Step.dict (C := C) e.s hx hd ne
    have nf : x ∉ M.fp := fun h => (M.al m x h).1 hx
    refine I Z2 _ vs x dx st.s (M.pure st m) (Rs.st st.pure rs) upd_same (same_none e.s hx) nf _ fun Z3 H3 e2 m2 => ?_
    exact q _ _ (e.trans (((st.pure (S := x :: M.fp)).trans e2).drop hx)) m2
theorem eve_makeK {C : Addr} {n k : Nat} {sp : Sp} {E : XK} {Rs Rk Rs' : Ra M.fp} {cls : Value} {gV : List V → List V → List V} {tk : TA} (I : InitE M C sp E Rs' s2 cls s3) (ha : EvA M t σ Z H s Rs s1) (hk : EvA M tk σ Z H s1 Rk s2)
    (hg : ∀ Z H vs zs x, Rs.r Z H vs → Rk.r Z H zs → vs.length = n ∧ zs.length = k ∧ ∃ ws, gV (.ref x :: vs) zs = .ref x :: ws ∧ Rs'.r Z H ws) : EvE M (tMakeK C n k sp gV E t tk) σ Z H s (E cls none) s3 :=
  fun Z1 H1 a b c d Q q => ha Z1 H1 a b c d _ fun vs Z2 H2 e m rs => hk Z2 H2 (a.trans e.z) (b.trans e.h) e.s m _ fun zs Z3 H3 e1 m1 rk => by
    have rs3 := Rs.st e1 rs
    obtain ⟨l1, l2, _⟩ := hg Z3 H3 vs zs 0 rs3 rk
    refine ⟨l1, l2, fun x dx hx hd ne => ?_⟩
    obtain ⟨_, _, ws, eg, rw'⟩ := hg Z3 H3 vs zs x rs3 rk
    rw [eg]
    have st := Step.dict (C := C) e1.s hx hd ne
    have nf : x ∉ M.fp := fun h => (M.al m1 x h).1 hx
    refine I Z3 _ ws x dx st.s (M.pure st m1) (Rs'.st st.pure rw') upd_same (same_none e1.s hx) nf _ fun Z4 H4 e2 m2 => ?_
    exact q _ _ ((e.trans e1).trans (((st.pure (S := x :: M.fp)).trans e2).drop hx)) m2
/-- defaults for all that are not written -/
theorem ev_makeD {C : Addr} {dvs : List V} {sp : Sp} {E : XK} {Rs Rs' : Ra M.fp} {R : Rr M.fp} (I : InitS M C sp E Rs' s1 R s2) (ha : EvA M t σ Z H s Rs s1) (hg : ∀ Z H vs, Rs.r Z H vs → Rs'.r Z H (vs ++ dvs)) : Ev M (tMake C sp dvs E t) σ Z H s R s2 :=
  fun Z1 H1 a b c d Q q => ha Z1 H1 a b c d _ fun vs Z2 H2 e m rs x dx hx hd ne => by
    have st := Step.dict (C := C) e.s hx hd ne
    have nf : x ∉ M.fp := fun h => (M.al m x h).1 hx
    refine I Z2 _ (vs ++ dvs) x dx st.s (M.pure st m) (hg _ _ _ (Rs.st st.pure rs)) upd_same (same_none e.s hx) nf _ fun Z3 H3 o e2 m2 ho rv => ⟨rfl, ?_⟩
    have hz3 : Z3 x = none := e2.n x (by rw [upd_same]; exact fun z => nomatch z) (same_none e.s hx)
    have e3 : Step M.fp Z2 H2 (upd Z3 x o) H3 := ((st.pure (S := x :: M.fp)).trans e2).freeze hx ho hz3
    refine q _ _ _ (e.trans e3) (M.loc (same_upd hz3) (fun _ _ _ e => e) (fun a ha _ z => ?_) m2) rv
    rw [upd_ne (fun q => nf (by rw [← q]; exact ha))]
    exact z
theorem eve_makeD {C : Addr} {dvs : List V} {sp : Sp} {E : XK} {Rs Rs' : Ra M.fp} {cls : Value} (I : InitE M C sp E Rs' s1 cls s2) (ha : EvA M t σ Z H s Rs s1) (hg : ∀ Z H vs, Rs.r Z H vs → Rs'.r Z H (vs ++ dvs)) : EvE M (tMake C sp dvs E t) σ Z H s (E cls none) s2 :=
  fun Z1 H1 a b c d Q q => ha Z1 H1 a b c d _ fun vs Z2 H2 e m rs x dx hx hd ne => by
    have st := Step.dict (C := C) e.s hx hd ne
    have nf : x ∉ M.fp := fun h => (M.al m x h).1 hx
    refine I Z2 _ (vs ++ dvs) x dx st.s (M.pure st m) (hg _ _ _ (Rs.st st.pure rs)) upd_same (same_none e.s hx) nf _ fun Z3 H3 e2 m2 => ?_
    exact q _ _ (e.trans (((st.pure (S := x :: M.fp)).trans e2).drop hx)) m2
/-! a call that is known not to raise -/
end
def Res.val {ε α : Type} (o : Option (Res ε α)) : Option α := o.bind (Res.thn (fun _ => none) some)
def Res.valS {ε α μ : Type} (o : Option (Res ε α × μ)) : Option (α × μ) := o.bind fun p => Res.thn (fun _ => none) (fun a => some (a, p.2)) p.1
theorem val_inv {ε α : Type} {o : Option (Res ε α)} {v : α} (h : Res.val o = some v) : o = some (.ok v) := by
  cases o with
  | none => cases h
  | some r =>
    cases r with
    | ok a => rw [show a = v from Option.some.inj h]
    | er e => cases h
theorem valS_inv {ε α μ : Type} {o : Option (Res ε α × μ)} {v : α × μ} (h : Res.valS o = some v) : o = some (.ok v.1, v.2) := by
  cases o with
  | none => cases h
  | some r =>
    obtain ⟨r, s⟩ := r
    cases r with
    | ok a => rw [← Option.some.inj h]
    | er e => cases h
section
variable {μ : Type} {S : List Addr} {Z0 H0 : Hp} {M : Mu μ} {σ : L2.St} {Z H : Hp} {s s' s1 s2 s3 : μ} {ta tb tc te : TE} {t : TA} {K : PySem.W.Frag} {D : Ends} {u w : TS} {X : Hp → Prop}
/-! tests that raise -/
theorem ete_val (h : EvE M te σ Z H s X s1) : EvTE M (tB te) σ Z H s X s1 := fun Z1 H1 p q r d _ k => h Z1 H1 p q r d _ k
theorem ete_cmp (h : EvE M te σ Z H s X s1) : EvTE M (tTest te) σ Z H s X s1 := fun Z1 H1 p q r d _ k => h Z1 H1 p q r d _ k
theorem ete_not {tA : TT} (h : EvTE M tA σ Z H s X s1) : EvTE M (tNot tA) σ Z H s X s1 := fun Z1 H1 p q r d _ k => h Z1 H1 p q r d _ k
/-! statements that raise -/
theorem st_setE {g : TG} (P : Pt S Z0 H0 M Z H s) (e : EvE M te σ Z H s X s1) (k : ∀ Z1 H1, Step M.fp Z H Z1 H1 → Pt S Z0 H0 M Z1 H1 s1 → X H1) : tAsg te g D σ H :=
  e Z H (Same.refl _) SameX.refl P.sub P.m _ fun Z1 H1 e m => k Z1 H1 e (P.next e m)
theorem st_retE (P : Pt S Z0 H0 M Z H s) (e : EvE M te σ Z H s X s1) (k : ∀ Z1 H1, Step M.fp Z H Z1 H1 → Pt S Z0 H0 M Z1 H1 s1 → X H1) : tRet te D σ H :=
  e Z H (Same.refl _) SameX.refl P.sub P.m _ fun Z1 H1 e m => k Z1 H1 e (P.next e m)
theorem st_exprE (P : Pt S Z0 H0 M Z H s) (e : EvE M te σ Z H s X s1) (k : ∀ Z1 H1, Step M.fp Z H Z1 H1 → Pt S Z0 H0 M Z1 H1 s1 → X H1) : tDrop te D σ H :=
  e Z H (Same.refl _) SameX.refl P.sub P.m _ fun Z1 H1 e m => k Z1 H1 e (P.next e m)
theorem st_ifE {tt : TT} (P : Pt S Z0 H0 M Z H s) (e : EvTE M tt σ Z H s X s1) (k : ∀ Z1 H1, Step M.fp Z H Z1 H1 → Pt S Z0 H0 M Z1 H1 s1 → X H1) : tIfS tt u w D σ H :=
  e Z H (Same.refl _) SameX.refl P.sub P.m _ fun Z1 H1 e m => k Z1 H1 e (P.next e m)
/-- a field of the thing that is being made -/
theorem ev_selfF {α : Type} {τ : Ty α} {x : α} {i : Nat} {p C dx : Addr} {fs : List (Str × V)} {f : Str} {v : V} (hp : H p = some (.ins C dx fs)) (np : p ∉ M.fp) (hσ : σ[i]? = some (some (.ref p))) (c : Cls K C) (n : NoAttr K C f) (l : fs.lookup f = some v) (hv : τ.r Z v x) : Ev M (tFld K (tVar i) f) σ Z H s (ty τ x) s :=
  fun Z1 H1 a b c' d Q q => ⟨.ref p, hσ, p, C, dx, fs, v, rfl, b _ _ np hp, c, n, l, q _ _ _ (Step.refl c') d (τ.mono a hv)⟩
end
end TP
namespace TP
open PySem PySem.Spec PyProof.Rows L2

theorem pi_tupB {X : Cx} {K : PySem.W.Frag} (hK : X.K = K) {tg l : Expr} {tl : TE} (hl : PE X l tl) : PI X tg l (iTup K tl) := by
  subst hK
  exact pi_tup hl
theorem pi_listB {X : Cx} {K : PySem.W.Frag} (hK : X.K = K) {tg l : Expr} {tl : TE} (hl : PE X l tl) : PI X tg l (iList K tl) := by
  subst hK
  exact pi_list hl
def rLenB (K : PySem.W.Frag) : List V → Hp → VK → Prop := fun xs H Q => ∃ p ys, xs = [.ref p] ∧ (SqL K H p ys ∨ SqT K H p ys) ∧ Q (.int ys.length) H
def rListB (K : PySem.W.Frag) : List V → Hp → VK → Prop := fun xs H Q => ∃ p ys, xs = [.ref p] ∧ (SqL K H p ys ∨ SqT K H p ys) ∧ ∀ l, H l = none → Q (.ref l) (upd H l (.lst ys))
def rTupleB (K : PySem.W.Frag) : List V → Hp → VK → Prop := fun xs H Q => ∃ p ys, xs = [.ref p] ∧ ((SqL K H p ys ∧ ∀ l, H l = none → Q (.ref l) (upd H l (.tup ys))) ∨ (SqT K H p ys ∧ Q (.ref p) H))
theorem pe_fldB {X : Cx} {K : PySem.W.Frag} (hK : X.K = K) {e : Expr} {f : Str} {pos : Pos} {ta : TE} (he : PE X e ta) (hb : attributeBase e f X.env (eval e X.env) = eval e X.env) : PE X (.Attribute e f pos) (tFld K ta f) := by
  subst hK
  exact pe_fld he hb
end TP

namespace TP
open PySem PySem.Spec PyProof.Rows L2
theorem kit_self {K : PySem.W.Frag} {C : Addr} : PySem.W.kitOne K (.ref C) (.ref C) = some true := by
  unfold PySem.W.kitOne
  rw [if_pos (by simp)]
theorem kit_sub {K : PySem.W.Frag} {t : Value} {C : Addr} {v : Bool} (h1 : PySem.W.isClsIn K C = true) (h2 : PySem.W.typeIn K (.ref C) = some (.type "type")) (h3 : PySem.W.subIn K t (.ref C) = some v) (h4 : (t == .ref C) = false) : PySem.W.kitOne K t (.ref C) = some v := by
  unfold PySem.W.kitOne
  rw [h4, if_neg Bool.false_ne_true]
  unfold PySem.W.kitCls
  have h1' : (PySem.W.clsIn K C).isSome = true := h1
  simp only [h1', h2, Bool.true_and]
  simp [h3]
theorem kit_subN {K : PySem.W.Frag} {t : Value} {C : Addr} (h1 : PySem.W.isClsIn K C = true) (h2 : PySem.W.typeIn K (.ref C) = some (.type "type")) (h3 : PySem.W.subIn K t (.ref C) = some false) (h4 : PySem.W.subIn K (.ref C) (.ref C) = some true) : PySem.W.kitOne K t (.ref C) = some false := by
  refine kit_sub h1 h2 h3 ?_
  cases e : (t == .ref C) with
  | false => rfl
  | true =>
    have e' : t = .ref C := beq_iff_eq.mp e
    rw [e', h4] at h3
    cases h3
theorem nf_self {K : PySem.W.Frag} {C : Addr} : PySem.W.notFirst K C (.ref C) = true := by simp [PySem.W.notFirst]
theorem nf_sub {K : PySem.W.Frag} {C : Addr} {t : Value} (h : PySem.W.subIn K t (.ref C) = some false) : PySem.W.notFirst K C t = true := by simp [PySem.W.notFirst, h]
end TP

/-! != of instances with an own ==, and == and != of such an instance with anything -/
namespace TPN
open PySem PySem.Spec PyProof.Rows L2
section
variable {M : Model} {prog : Program} {w : World} {A : Around} {E : Value → Shared → Prop} {s : Shared} {K : PySem.W.Frag} {x C f : Addr} {ox : Obj} {od : Option Obj} {b tb : Value}
theorem ifBound_ne {args : List Value} {Q : Option Value → Shared → Prop} (X : K.In s.heap) (I : PySem.W.InstAt s.heap x ox C od) (hs : PySem.W.findIn K (.ref C) "__ne__" = some (some (.builtin "object.__ne__")))
    (h : wpAny M A (call (.builtin "object.__ne__") (.ref x :: args)) (fun v => Q (some v)) E s) : wpAny M A (callSpecialIfBound? (.ref x) "__ne__" args) Q E s := by
  simp only [callSpecialIfBound?, bindSpecialIfBound?]
  refine wpAny_holding (wpAny_bind (wpAny_bind (wpAny_bind (I.type.here ((PySem.W.looks_findIn X hs).here ?_)))))
  refine wpAny_bind (wpAny_askSetting (wpAny_ite ?_))
  have fin : wpAny M A (call (.builtin "object.__ne__") ([.ref x] ++ args) >>= fun v => pure (some v)) Q E s := wpAny_bind (wpAny_mono h (fun v s' h' => wpAny_pure h') fun _ _ h' => h')
  split
  · exact wpAny_bind (wpAny_of_eq (F.cmp_object.ne.bind _) (wpAny_pure (by exact fin)))
  · exact wpAny_tryCatch (wpAny_bind (wpAny_of_eq (F.cmp_object.ne.bind _) (wpAny_pure (by exact fin))))
theorem entry_ne {Q : Fin → Shared → Prop} (hu : A.units < cLine) (X : K.In s.heap) (I : PySem.W.InstAt s.heap x ox C od) (hs : PySem.W.findIn K (.ref C) "__eq__" = some (some (.ref f))) (hf : PySem.W.isFn K (.ref f) = true)
    (h : wpAny M A (call (.ref f) [.ref x, b]) (fun v s' => ∃ r, v = .bool r ∧ Q (.done (.ret (.bool (!r)))) s') E s) : wpAny M A (Builtin.«object.__ne__» ⟨[.ref x, b], []⟩) Q E s := by
  unfold Builtin.«object.__ne__»
  repeat (first
    | with_reducible refine wpAny_cRoomFor hu ?_
    | (refine wpAny_bind (m := callSpecialIfBound? (.ref x) (Str.ofString "__eq__") [b]) (PySem.W.ifBound_K X I hs hf (wpAny_mono h (fun r s' hr => by
        obtain ⟨b, rfl, hq⟩ := hr
        repeat (first | exact hq | exact wpAny_pure hq | exact wpAny_truthy_bool hq | (refine wpAny_bind (m := truthy (.bool _)) (wpAny_truthy_bool ?_)) | wp_step)) fun _ _ e => e)))
    | wp_step)
theorem call_ne {Q : Value → Shared → Prop} (hu : A.units + 1 < cLine) (X : K.In s.heap) (I : PySem.W.InstAt s.heap x ox C od) (hm : PySem.W.mroIn K C (.type "object") = some true) (hs : PySem.W.findIn K (.ref C) "__eq__" = some (some (.ref f))) (hf : PySem.W.isFn K (.ref f) = true)
    (h : wpAny (model prog w) A.in1 (call (.ref f) [.ref x, b]) (fun v s' => ∃ r, v = .bool r ∧ Q (.bool (!r)) s') E s) :
    wpAny (model prog w) A (call (.builtin "object.__ne__") [.ref x, b]) Q E s :=
  wpAny_call (codeAny_call_builtin F.cmp_object.ne.plain F.cmpEntry_ne (PySem.W.check_slot F.cmpKind_ne F.cmpSplit_ne (I.type.andThen (PySem.W.looks_mroIn X hm)) (F.cmpArgs_ne _ _) (entry_ne (A := A.in1) hu X I hs hf (wpAny_mono h (fun v s' hv => by
    obtain ⟨r, e, q⟩ := hv
    exact ⟨r, e, q⟩) fun _ _ e => e))))
theorem ne_K {Q : Value → Shared → Prop} (hu : A.units + 1 < cLine) (X : K.In s.heap) (I : PySem.W.InstAt s.heap x ox C od) (hb : PySem.W.Looks (model prog w) s.heap (typeOf b) tb) (hn : PySem.W.notFirst K C tb = true)
    (hm : PySem.W.mroIn K C (.type "object") = some true) (hne : PySem.W.findIn K (.ref C) "__ne__" = some (some (.builtin "object.__ne__")))
    (hs : PySem.W.findIn K (.ref C) "__eq__" = some (some (.ref f))) (hf : PySem.W.isFn K (.ref f) = true)
    (h : wpAny (model prog w) A.in1 (call (.ref f) [.ref x, b]) (fun v s' => ∃ r, v = .bool r ∧ Q (.bool (!r)) s') E s) : wpAny (model prog w) A (richCompare .NotEq (.ref x) b) Q E s := by
  have one : wpAny (model prog w) A (tryCompare (.ref x) "__ne__" b) (fun r s' => ∃ v, r = some v ∧ Q v s') E s := by
    unfold tryCompare
    refine wpAny_bind (ifBound_ne X I hne (call_ne hu X I hm hs hf (wpAny_mono h (fun v s' hv => ?_) fun _ _ e => e)))
    obtain ⟨r, rfl, q⟩ := hv
    exact ⟨r, rfl, wpAny_pure ⟨_, rfl, q⟩⟩
  unfold richCompare
  simp only [oneThing_ref]
  refine wpAny_holding (wpAny_bind (wpAny_cRoomFor (by omega) ?_))
  rw [cmpInfo_NotEq]
  dsimp only
  refine wpAny_bind (I.type.here (wpAny_bind (hb.here ?_)))
  split
  · rename_i q
    have e : PySem.W.subIn K tb (.ref C) = some false := by
      rcases Bool.or_eq_true_iff.mp hn with e | e
      · rw [beq_iff_eq.mp e] at q; simp at q
      · exact beq_iff_eq.mp e
    refine wpAny_bind ((PySem.W.looks_subIn X e).here ?_)
    simp only [Bool.false_eq_true, if_false]
    refine wpAny_bind (wpAny_mono one (fun r s' z => ?_) fun _ _ e => e)
    obtain ⟨v, rfl, hq⟩ := z
    exact wpAny_pure hq
  · refine wpAny_bind (wpAny_pure ?_)
    simp only [Bool.false_eq_true, if_false]
    refine wpAny_bind (wpAny_mono one (fun r s' z => ?_) fun _ _ e => e)
    obtain ⟨v, rfl, hq⟩ := z
    exact wpAny_pure hq
end
end TPN
namespace TPN
open PySem PySem.Spec PyProof.Rows L2
/-- == (neg false) or != of x, an instance of a class with an own ==, with anything -/
def rOwnE (K : PySem.W.Frag) (C : Addr) (neg : Bool) (sp : Sp) (E : XK) : R2 := fun x y H Q => ∃ a dx fs t, x = .ref a ∧ H a = some (.ins C dx fs) ∧ TyX K H y t ∧ PySem.W.notFirst K C t = true ∧ sp [x, y] H (fun z H' => ∃ b, z = .bl b ∧ Q (.bl (b != neg)) H') E
theorem nf_self {K : PySem.W.Frag} {C : Addr} : PySem.W.notFirst K C (.ref C) = true := by simp [PySem.W.notFirst]
theorem op_ownE {X : Cx} {CX : CXT} {C f : Addr} {fd : FuncData} {ps : List Str} {sp : Sp} {n : Nat} {E : XK} (M : Meth X.K C "__eq__" f) (F : FnOk X.prog X.w X.K X.mg X.base CX n f fd ps sp) (hr : Room n X.A)
    (hb : Binds X.K fd ps []) (hx : Passes CX X E) : OpR X (compareOp .Eq) (rOwnE X.K C false sp E) := by
  intro pins s σ H x y v u Q I rx ry h
  obtain ⟨a, dx, fs, t, rfl, ha, ty, hn, q⟩ := h
  cases (show v = Value.ref a from rx)
  obtain ⟨mA, J, _⟩ := ins_get I.hok ha
  obtain ⟨od, J, _⟩ := J.look
  obtain ⟨P, Z, p, _⟩ := kit_of I ry ty
  obtain ⟨m, hF⟩ := I.fr
  show wpAny (model X.prog X.w) X.A (richCompare .Eq (.ref a) u) _ _ _
  refine PySem.W.cmp_K (op := .Eq) (tb := t) hr.units0 hF I.ok.mod.kin J (Z.ty _ _ I.kIn p) hn M.at_ M.fn ?_
  refine wpAny_mono (run_fn (Q := fun z H' => ∃ b, z = .bl b ∧ Q (.bl (b != false)) H') (us := [.ref a, u]) (vs := [.ref a, y]) F hr hb .nil hx I (.cons rfl (.cons ry .nil)) (by simpa using q)) (fun w s' z => ?_) fun _ _ x => x
  obtain ⟨z', H', I', rz, b, ez, qz⟩ := z
  subst ez
  cases (show w = Value.bool b from rz)
  exact ⟨.bl b, H', I', rfl, by simpa using qz⟩
theorem op_ownNE {X : Cx} {CX : CXT} {C f : Addr} {fd : FuncData} {ps : List Str} {sp : Sp} {n : Nat} {E : XK} (hm : PySem.W.mroIn X.K C (.type "object") = some true) (hne : PySem.W.findIn X.K (.ref C) "__ne__" = some (some (.builtin "object.__ne__")))
    (M : Meth X.K C "__eq__" f) (F : FnOk X.prog X.w X.K X.mg X.base CX n f fd ps sp) (hr : Room (n + 1) X.A)
    (hb : Binds X.K fd ps []) (hx : ∀ (pins : List (Addr × Obj)) (σ : L2.St) (H : Hp) (s : Shared) (e : Value) (s' : Shared), Inv X pins σ H s → CX X.stack H s E e s' → X.xe e s') : OpR X (compareOp .NotEq) (rOwnE X.K C true sp E) := by
  intro pins s σ H x y v u Q I rx ry h
  obtain ⟨a, dx, fs, t, rfl, ha, ty, hn, q⟩ := h
  cases (show v = Value.ref a from rx)
  obtain ⟨mA, J, _⟩ := ins_get I.hok ha
  obtain ⟨od, J, _⟩ := J.look
  obtain ⟨P, Z, p, _⟩ := kit_of I ry ty
  show wpAny (model X.prog X.w) X.A (richCompare .NotEq (.ref a) u) _ _ _
  have hr1 : Room n X.A.in1 := hr.in1
  refine ne_K (A := X.A) (tb := t) (by have := hr1.units0; exact this) I.kIn J (Z.ty _ _ I.kIn p) hn hm hne M.at_ M.fn ?_
  have e0 : Env0 X.prog X.w X.K X.mg X.base X.A.in1 X.stack s H := I.env0.in1
  have r2 : Vals [V.ref a, y] [Value.ref a, u] := .cons rfl (.cons ry .nil)
  have hl : ([Value.ref a, u] : List Value).length = ps.length := by rw [← r2.length]; exact F.len _ _ _ _ q
  refine wpAny_call (codeAny_mono (F.run X.A.in1 X.stack s H ⟨[.ref a, u], []⟩ [.ref a, u] [.ref a, y] _ E hr1 e0 (by
    have := hb s [.ref a, u] I.kIn (by simpa using hl)
    simpa using this) r2 q) fun r s' hq => ?_)
  cases r with
  | error e => exact hx pins σ H s e s' I hq
  | ok fl =>
    cases fl with
    | ret w =>
      obtain ⟨z, H', I', rz, b, ez, qz⟩ := I.after hq
      subst ez
      cases (show w = Value.bool b from rz)
      exact ⟨b, rfl, .bl (!b), H', I', rfl, by simpa using qz⟩
    | next => exact False.elim hq
    | brk => exact False.elim hq
    | cont => exact False.elim hq
end TPN

namespace TPN
open PySem PySem.Spec PyProof.Rows L2 PySem.SeqAt
section
variable {prog : Program} {w : World} {A : Around} {E : Value → Shared → Prop} {s : Shared} {K : PySem.W.Frag} {y C f : Addr} {oy : Obj} {od : Option Obj}
/-- None == an instance: its own == is asked -/
theorem eq_none_ref {Q : Value → Shared → Prop} (hu : A.units < cLine) (X : K.In s.heap) (I : PySem.W.InstAt s.heap y oy C od) (hsub : PySem.W.subIn K (.ref C) (.type "NoneType") = some false)
    (hs : PySem.W.findIn K (.ref C) "__eq__" = some (some (.ref f))) (hf : PySem.W.isFn K (.ref f) = true)
    (h : wpAny (model prog w) A (call (.ref f) [.ref y, .none]) (fun v s' => ∃ r, v = .bool r ∧ Q (.bool r) s') E s) : wpAny (model prog w) A (richCompare .Eq .none (.ref y)) Q E s := by
  have one : wpAny (model prog w) A (tryCompare .none "__eq__" (.ref y)) (fun r s' => r = none ∧ s' = s) E s :=
    wpAny_tryCompare_declines (show s.TypeIs .none "NoneType" from rfl) F.slot_NoneType_eq (call_gives F.slot_NoneType_eq rfl F.entry_NoneType_eq (F.args_NoneType_eq_2 _ _) (NoneType___eq___none_ref_0 y) ⟨rfl, rfl, rfl⟩)
  have two : wpAny (model prog w) A (tryCompare (.ref y) "__eq__" .none) (fun r s' => ∃ v, r = some v ∧ Q v s') E s := by
    unfold tryCompare
    refine wpAny_bind (PySem.W.ifBound_K X I hs hf (wpAny_mono h (fun v s' hv => ?_) fun _ _ e => e))
    obtain ⟨r, rfl, q⟩ := hv
    exact wpAny_pure ⟨_, rfl, q⟩
  have e0 : oneThing? .Eq .none (.ref y) = none := rfl
  simp only [richCompare, cmpInfo_Eq, e0]
  refine wpAny_holding (wpAny_bind (wpAny_cRoomFor hu ?_))
  refine wpAny_bind (wpAny_typeOf (show s.TypeIs .none "NoneType" from rfl) ?_)
  refine wpAny_bind (I.type.here ?_)
  have fin : wpAny (model prog w) A (tryCompare .none "__eq__" (.ref y)) (fun r s' => r = none ∧ s' = s) E s := one
  split
  · refine wpAny_bind ((PySem.W.looks_subIn X hsub).here ?_)
    simp only [Bool.false_eq_true, if_false, Bool.not_false, if_true]
    refine wpAny_bind (m := tryCompare .none _ (.ref y)) (wpAny_mono one (fun r s1 z => ?_) fun _ _ e => e)
    obtain ⟨z1, z2⟩ := z
    subst z1
    subst z2
    refine wpAny_bind (m := tryCompare (.ref y) _ .none) (wpAny_mono two (fun r s2 z => ?_) fun _ _ e => e)
    obtain ⟨v, rfl, q⟩ := z
    exact wpAny_pure q
  · rename_i q
    exact absurd (by simp) q
end
/-- == of what may be None or an instance of the class at C with an own == -/
def rOptE (K : PySem.W.Frag) (C : Addr) (sp : Sp) (E : XK) : R2 := fun x y H Q => (x = .non ∧ y = .non ∧ Q (.bl true) H) ∨ (x = .non ∧ (∃ a dx fs, y = .ref a ∧ H a = some (.ins C dx fs)) ∧ sp [y, x] H (fun z H' => ∃ b, z = .bl b ∧ Q (.bl b) H') E) ∨ rOwnE K C false sp E x y H Q
theorem op_optE {X : Cx} {CX : CXT} {C f : Addr} {fd : FuncData} {ps : List Str} {sp : Sp} {n : Nat} {E : XK} (hn : PySem.W.subIn X.K (.ref C) (.type "NoneType") = some false) (M : Meth X.K C "__eq__" f) (F : FnOk X.prog X.w X.K X.mg X.base CX n f fd ps sp) (hr : Room n X.A)
    (hb : Binds X.K fd ps []) (hx : Passes CX X E) : OpR X (compareOp .Eq) (rOptE X.K C sp E) := by
  intro pins s σ H x y v u Q I rx ry h
  rcases h with ⟨rfl, rfl, q⟩ | ⟨rfl, ⟨a, dx, fs, rfl, ha⟩, q⟩ | h
  · exact op_eq pins s σ H .non .non v u Q I rx ry ⟨rfl, by simpa using q⟩
  · cases rx
    cases (show u = Value.ref a from ry)
    obtain ⟨mA, J, _⟩ := ins_get I.hok ha
    obtain ⟨od, J, _⟩ := J.look
    show wpAny (model X.prog X.w) X.A (richCompare .Eq .none (.ref a)) _ _ _
    refine eq_none_ref hr.units0 I.kIn J hn M.at_ M.fn ?_
    refine wpAny_mono (run_fn (Q := fun z H' => ∃ b, z = .bl b ∧ Q (.bl b) H') (us := [.ref a, .none]) (vs := [.ref a, .non]) F hr hb .nil hx I (.cons rfl (.cons rfl .nil)) (by simpa using q)) (fun w s' z => ?_) fun _ _ x => x
    obtain ⟨z', H', I', rz, b, ez, qz⟩ := z
    subst ez
    cases (show w = Value.bool b from rz)
    exact ⟨b, rfl, .bl b, H', I', rfl, qz⟩
  · exact op_ownE M F hr hb hx pins s σ H x y v u Q I rx ry h
end TPN

namespace TP
open PySem PySem.Spec PyProof.Rows L2
/-! ### data by what == says of it -/
structure EqW (K : PySem.W.Frag) {α : Type} (τ : Ty α) (d : α → PyData) (n : Nat) : Prop where
  dp : ∀ Z H v x, Same Z H → τ.r Z v x → Dp K H v (d x)
  lay : ∀ Z v x, τ.r Z v x → (d x).canLay0 = true
  dep : ∀ x, (d x).depth ≤ n
def dLst {α : Type} (d : α → PyData) (xs : List α) : PyData := .list (xs.map d)
def dTup {α : Type} (d : α → PyData) (xs : List α) : PyData := .tuple (xs.map d)
def dP1 {α : Type} (d : α → PyData) (x : α) : PyData := .tuple [d x]
def dP2 {α β : Type} (d : α → PyData) (e : β → PyData) (x : α × β) : PyData := .tuple [d x.1, e x.2]
def dP3 {α β γ : Type} (d : α → PyData) (e : β → PyData) (f : γ → PyData) (x : α × β × γ) : PyData := .tuple [d x.1, e x.2.1, f x.2.2]
def dP4 {α β γ δ : Type} (d : α → PyData) (e : β → PyData) (f : γ → PyData) (g : δ → PyData) (x : α × β × γ × δ) : PyData := .tuple [d x.1, e x.2.1, f x.2.2.1, g x.2.2.2]
def dNon (_ : Unit) : PyData := .none
section
variable {K : PySem.W.Frag} {α β γ δ : Type} {τ : Ty α} {υ : Ty β} {φ : Ty γ} {ψ : Ty δ} {d : α → PyData} {e : β → PyData} {f : γ → PyData} {g : δ → PyData} {n m k l : Nat}
theorem EqD.w (E : EqD K τ d n) : EqW K τ d n := ⟨E.dp, E.lay, E.dep⟩
theorem EqW.all (E : EqW K τ d n) {Z H : Hp} (sz : Same Z H) : ∀ {vs : List V} {xs : List α}, All (τ.r Z) vs xs → DpAll K H vs (xs.map d)
  | _, _, .nil => .nil
  | _, _, .cons h t => .cons (E.dp _ _ _ _ sz h) (E.all sz t)
theorem EqW.lays (E : EqW K τ d n) {Z : Hp} : ∀ {vs : List V} {xs : List α}, All (τ.r Z) vs xs → PyData.canLayAll0 (xs.map d) = true
  | _, _, .nil => by simp [PyData.canLayAll0]
  | _, _, .cons h t => by
    have h1 := E.lay _ _ _ h
    have h2 := E.lays t
    simp [PyData.canLayAll0, h1, h2]
theorem EqW.deps (E : EqW K τ d n) : ∀ xs : List α, PyData.depthAll (xs.map d) ≤ n
  | [] => by simp [PyData.depthAll]
  | x :: r => by
    have h1 := E.dep x
    have h2 := E.deps r
    simp only [List.map_cons, PyData.depthAll]
    omega
theorem eqw_list (E : EqW K τ d n) : EqW K (yList τ) (dLst d) (n + 1) where
  dp := fun Z H v x sz ⟨a, vs, e, h, t, _⟩ => by subst e; exact .lst (SqL.of (sz _ _ h)) (E.all sz t)
  lay := fun Z v x ⟨a, vs, e, h, t, _⟩ => by simpa [PyData.canLay0, dLst] using E.lays t
  dep := fun x => by have := E.deps x; simp only [PyData.depth, dLst]; omega
theorem eqw_tup (E : EqW K τ d n) : EqW K (yTup K τ) (dTup d) (n + 1) where
  dp := fun Z H v x sz ⟨a, vs, e, h, t, _⟩ => by subst e; exact .tup (seqT_same sz h) (E.all sz t)
  lay := fun Z v x ⟨a, vs, e, h, t, _⟩ => by simpa [PyData.canLay0, dTup] using E.lays t
  dep := fun x => by have := E.deps x; simp only [PyData.depth, dTup]; omega
theorem eqw_p1 (E : EqW K τ d n) : EqW K (yP1 K τ) (dP1 d) (n + 1) where
  dp := fun Z H v x sz ⟨a, v1, e, h, h1⟩ => by subst e; exact .tup (seqT_same sz h) (.cons (E.dp _ _ _ _ sz h1) .nil)
  lay := fun Z v x ⟨a, v1, e, h, h1⟩ => by simp [PyData.canLay0, PyData.canLayAll0, dP1, E.lay _ _ _ h1]
  dep := fun x => by have := E.dep x; simp only [PyData.depth, PyData.depthAll, dP1]; omega
theorem eqw_p2 (E : EqW K τ d n) (F : EqW K υ e m) : EqW K (yP2 K τ υ) (dP2 d e) (max n m + 1) where
  dp := fun Z H v x sz ⟨a, v1, v2, e, h, h1, h2⟩ => by subst e; exact .tup (seqT_same sz h) (.cons (E.dp _ _ _ _ sz h1) (.cons (F.dp _ _ _ _ sz h2) .nil))
  lay := fun Z v x ⟨a, v1, v2, e, h, h1, h2⟩ => by simp [PyData.canLay0, PyData.canLayAll0, dP2, E.lay _ _ _ h1, F.lay _ _ _ h2]
  dep := fun x => by have := E.dep x.1; have := F.dep x.2; simp only [PyData.depth, PyData.depthAll, dP2]; omega
theorem eqw_p3 (E : EqW K τ d n) (F : EqW K υ e m) (G : EqW K φ f k) : EqW K (yP3 K τ υ φ) (dP3 d e f) (max n (max m k) + 1) where
  dp := fun Z H v x sz ⟨a, v1, v2, v3, e, h, h1, h2, h3⟩ => by subst e; exact .tup (seqT_same sz h) (.cons (E.dp _ _ _ _ sz h1) (.cons (F.dp _ _ _ _ sz h2) (.cons (G.dp _ _ _ _ sz h3) .nil)))
  lay := fun Z v x ⟨a, v1, v2, v3, e, h, h1, h2, h3⟩ => by simp [PyData.canLay0, PyData.canLayAll0, dP3, E.lay _ _ _ h1, F.lay _ _ _ h2, G.lay _ _ _ h3]
  dep := fun x => by have := E.dep x.1; have := F.dep x.2.1; have := G.dep x.2.2; simp only [PyData.depth, PyData.depthAll, dP3]; omega
theorem eqw_p4 (E : EqW K τ d n) (F : EqW K υ e m) (G : EqW K φ f k) (I : EqW K ψ g l) : EqW K (yP4 K τ υ φ ψ) (dP4 d e f g) (max n (max m (max k l)) + 1) where
  dp := fun Z H v x sz ⟨a, v1, v2, v3, v4, e, h, h1, h2, h3, h4⟩ => by subst e; exact .tup (seqT_same sz h) (.cons (E.dp _ _ _ _ sz h1) (.cons (F.dp _ _ _ _ sz h2) (.cons (G.dp _ _ _ _ sz h3) (.cons (I.dp _ _ _ _ sz h4) .nil))))
  lay := fun Z v x ⟨a, v1, v2, v3, v4, e, h, h1, h2, h3, h4⟩ => by simp [PyData.canLay0, PyData.canLayAll0, dP4, E.lay _ _ _ h1, F.lay _ _ _ h2, G.lay _ _ _ h3, I.lay _ _ _ h4]
  dep := fun x => by have := E.dep x.1; have := F.dep x.2.1; have := G.dep x.2.2.1; have := I.dep x.2.2.2; simp only [PyData.depth, PyData.depthAll, dP4]; omega
theorem eqw_non : EqW K yNon dNon 0 := ⟨fun _ _ _ x _ h => by cases h; exact .non, fun _ _ _ _ => rfl, fun _ => Nat.le_refl _⟩
theorem eqw_opt (E : EqW K τ d n) : EqW K (yOpt τ) (optD d) n where
  dp := fun Z H v x sz h => match x, h with
    | none, h => by rw [show v = .non from h]; exact .non
    | some x, h => E.dp _ _ _ _ sz h.1
  lay := fun Z v x h => match x, h with
    | none, h => rfl
    | some x, h => E.lay _ _ _ h.1
  dep := fun x => match x with
    | none => Nat.zero_le _
    | some x => E.dep x
theorem EqW.gd {fp : List Addr} (E : EqW K τ d n) (x : α) : GD K (ty (fp := fp) τ x) (d x) := fun _ _ _ sz h => ⟨E.dp _ _ _ _ sz h, E.lay _ _ _ h⟩
theorem EqW.gdl {fp : List Addr} (E : EqW K τ d n) (xs : List α) : GD K (li (fp := fp) τ xs) (dLst d xs) := fun _ _ _ sz h => by
  obtain ⟨p, vs, rfl, g, t, _⟩ := rdl sz h
  exact ⟨.lst (SqL.of g) (E.all sz t), by simpa [PyData.canLay0, dLst] using E.lays t⟩
theorem EqW.dpt (E : EqW K τ d n) (h : n ≤ 64) (x : α) : (d x).depth ≤ 64 := Nat.le_trans (E.dep x) h
theorem EqW.dpl (E : EqW K τ d n) (h : n + 1 ≤ 64) (xs : List α) : (dLst d xs).depth ≤ 64 := by have := E.deps xs; simp only [PyData.depth, dLst]; omega
end
section
variable {μ : Type} {M : Mu μ} {σ : L2.St} {Z H : Hp} {s s' s1 s2 s3 : μ} {ta tb tc te : TE} {t : TA} {K : PySem.W.Frag}
theorem ev_eqW {R R' : Rr M.fp} {c c' : PyData} (G : GD K R c) (G' : GD K R' c') (l : c.depth ≤ 64) (l' : c'.depth ≤ 64) (ha : Ev M ta σ Z H s R s1) (hb : Ev M tb σ Z H s1 R' s2) : Ev M (tOp (rEqD K) ta tb) σ Z H s (ty yBool (PyData.eqv c c')) s2 :=
  ev_op ha hb fun _ _ _ _ sz e1 e2 _ q => by
    obtain ⟨d1, k1⟩ := G _ _ _ sz e1
    obtain ⟨d2, k2⟩ := G' _ _ _ sz e2
    exact ⟨c, c', d1, d2, shaped_of k1 l (Nat.le_refl _), shaped_of k2 l' (Nat.le_refl _), q _ _ _ (Step.refl sz) rfl⟩
theorem ev_neW {R R' : Rr M.fp} {c c' : PyData} (G : GD K R c) (G' : GD K R' c') (l : c.depth ≤ 64) (l' : c'.depth ≤ 64) (ha : Ev M ta σ Z H s R s1) (hb : Ev M tb σ Z H s1 R' s2) : Ev M (tOp (rNeD K) ta tb) σ Z H s (ty yBool (!PyData.eqv c c')) s2 :=
  ev_op ha hb fun _ _ _ _ sz e1 e2 _ q => by
    obtain ⟨d1, k1⟩ := G _ _ _ sz e1
    obtain ⟨d2, k2⟩ := G' _ _ _ sz e2
    exact ⟨c, c', d1, d2, shaped_of k1 l (Nat.le_refl _), shaped_of k2 l' (Nat.le_refl _), q _ _ _ (Step.refl sz) rfl⟩
theorem ev_cmpS {F : Str → Str → Bool} {x y : Str} (ha : Ev M ta σ Z H s (ty yStr x) s1) (hb : Ev M tb σ Z H s1 (ty yStr y) s2) : Ev M (tOp (fun x y H Q => ∃ i j, x = .str i ∧ y = .str j ∧ Q (.bl (F i j)) H) ta tb) σ Z H s (ty yBool (F x y)) s2 :=
  ev_op ha hb fun _ _ _ _ sz e1 e2 _ q => ⟨x, y, e1.1, e2.1, q _ _ _ (Step.refl sz) rfl⟩
theorem ev_chainG {R1 R0 R3 : Rr M.fp} {r r' : R2} {p q : Bool} (h1 : ∀ Z H x y, Same Z H → R1.r Z H x → R0.r Z H y → ∀ Q : VK, Q (.bl p) H → r x y H Q) (h2 : ∀ Z H x y, Same Z H → R0.r Z H x → R3.r Z H y → ∀ Q : VK, Q (.bl q) H → r' x y H Q)
    (ha : Ev M ta σ Z H s R1 s1) (hb : Ev M tb σ Z H s1 R0 s1) (hc : Ev M tc σ Z H s1 R3 s1) : Ev M (tChain r r' ta tb tc) σ Z H s (ty yBool (p && q)) s1 :=
  fun Z1 H1 a b c d Q k => ha Z1 H1 a b c d _ fun v Z2 H2 e m rv => hb Z2 H2 (a.trans e.z) (b.trans e.h) e.s m _ fun w Z3 H3 e2 m2 rw => by
    have e3 := e.trans e2
    refine h1 Z3 H3 v w e2.s (R1.st e2 rv) rw _ ⟨p, rfl, ?_⟩
    cases p with
    | true => rw [if_pos rfl]; exact hc Z3 H3 (a.trans e3.z) (b.trans e3.h) e3.s m2 _ fun u Z4 H4 e4 m4 ru => h2 Z4 H4 w u e4.s (R0.st e4 rw) ru _ (k _ Z4 H4 (e3.trans e4) m4 rfl)
    | false => rw [if_neg Bool.false_ne_true]; exact k _ Z3 H3 e3 m2 rfl
/-- the third part is read only where the first two hold -/
theorem ev_chainB {i j : Int} {b : Bool} {o : Option Bool} {p r : Int → Int → Bool} (ha : Ev M ta σ Z H s (ty yInt i) s1) (hb : Ev M tb σ Z H s1 (ty yInt j) s1) (hc : p i j = true → ∀ y, o = some y → ∃ k, y = r j k ∧ Ev M tc σ Z H s1 (ty yInt k) s1) (h : (if p i j = true then o else some false) = some b) :
    Ev M (tChain (rI0 fun i j => .bl (p i j)) (rI0 fun i j => .bl (r i j)) ta tb tc) σ Z H s (ty yBool b) s1 := by
  cases hp : p i j with
  | false =>
    rw [if_neg (by rw [hp]; exact Bool.false_ne_true)] at h
    have hb' := Option.some.inj h
    subst hb'
    intro Z1 H1 a b c d Q q
    exact ha Z1 H1 a b c d _ fun v Z2 H2 e m rv => hb Z2 H2 (a.trans e.z) (b.trans e.h) e.s m _ fun w Z3 H3 e2 m2 rw => ⟨i, j, rv, rw, p i j, rfl, by
      rw [hp, if_neg Bool.false_ne_true]
      exact q _ Z3 H3 (e.trans e2) m2 rfl⟩
  | true =>
    rw [if_pos hp] at h
    obtain ⟨k, rfl, hk⟩ := hc hp b h
    have := ev_chainO (b := true) (o := none) (p := p) (r := r) ha hb (fun _ => hk)
    rw [hp, Bool.true_and] at this
    exact this
theorem ev_chainS {F G : Str → Str → Bool} {x y z : Str} (ha : Ev M ta σ Z H s (ty yStr x) s1) (hb : Ev M tb σ Z H s1 (ty yStr y) s1) (hc : Ev M tc σ Z H s1 (ty yStr z) s1) :
    Ev M (tChain (fun x y H Q => ∃ i j, x = .str i ∧ y = .str j ∧ Q (.bl (F i j)) H) (fun x y H Q => ∃ i j, x = .str i ∧ y = .str j ∧ Q (.bl (G i j)) H) ta tb tc) σ Z H s (ty yBool (F x y && G y z)) s1 :=
  ev_chainG (R1 := ty yStr x) (R0 := ty yStr y) (R3 := ty yStr z) (fun _ _ _ _ _ e1 e2 _ q => ⟨x, y, e1.1, e2.1, q⟩) (fun _ _ _ _ _ e1 e2 _ q => ⟨y, z, e1.1, e2.1, q⟩) ha hb hc
theorem ev_isB {x y : Bool} (ha : Ev M ta σ Z H s (ty yBool x) s1) (hb : Ev M tb σ Z H s1 (ty yBool y) s2) : Ev M (tOp rIsB ta tb) σ Z H s (ty yBool (decide (x = y))) s2 :=
  ev_op ha hb fun _ _ _ _ sz e1 e2 _ q => ⟨x, y, e1, e2, q _ _ _ (Step.refl sz) rfl⟩
theorem ev_notB {x y : Bool} (ha : Ev M ta σ Z H s (ty yBool x) s1) (hb : Ev M tb σ Z H s1 (ty yBool y) s2) : Ev M (tOp rNotB ta tb) σ Z H s (ty yBool (!decide (x = y))) s2 :=
  ev_op ha hb fun _ _ _ _ sz e1 e2 _ q => ⟨x, y, e1, e2, q _ _ _ (Step.refl sz) rfl⟩
theorem all_nil {α : Type} {R : V → α → Prop} {vs : List V} {xs : List α} (h : All R vs xs) (e : vs = []) : xs = [] := by
  cases h with
  | nil => rfl
  | cons _ _ => cases e
theorem ev_catT {α : Type} {τ : Ty α} {xs ys : List α} (ha : Ev M ta σ Z H s (ty (yTup K τ) xs) s1) (hb : Ev M tb σ Z H s1 (ty (yTup K τ) ys) s2) (l : xs.length + ys.length ≤ sizeLine) : Ev M (tOp (rCatA K) ta tb) σ Z H s (ty (yTup K τ) (xs ++ ys)) s2 :=
  ev_op ha hb fun Z H v w sz ⟨a, vs, e1, h1, t1, l1⟩ ⟨b, ws, e2, h2, t2, l2⟩ _ q =>
    ⟨a, b, vs, ws, e1, e2, seqT_same sz h1, seqT_same sz h2, by rw [t1.len, t2.len]; exact l,
      fun e => q _ _ _ (Step.refl sz) ⟨b, ws, rfl, h2, by rw [all_nil t1 e]; exact t2, by rw [all_nil t1 e]; exact l2⟩,
      fun _ e => q _ _ _ (Step.refl sz) ⟨a, vs, rfl, h1, by rw [all_nil t2 e, List.append_nil]; exact t1, by rw [all_nil t2 e, List.append_nil]; exact l1⟩,
      fun _ _ p hp => q _ _ _ (Step.new sz hp) ⟨p, _, rfl, sqT_new, (t1.app t2).imp fun _ _ => τ.mono (same_upd (same_none sz hp)), by rw [List.length_append]; exact l⟩⟩
theorem ev_ord {x : Str} (ha : Ev M ta σ Z H s (ty yStr x) s1) (l : x.length = 1) : Ev M (tCB (fun xs H Q => ∃ x, xs = [.str x] ∧ x.length = 1 ∧ Q (.int (x.cps.getD 0 0 : Nat)) H) (tCons ta tNil)) σ Z H s (ty yInt ((x.cps.getD 0 0 : Nat) : Int)) s1 :=
  ev_cb (eva_cons ha eva_nil) fun _ _ vs sz ⟨v, r, e, h, e2⟩ Q q => ⟨x, by rw [e, h.1, show r = [] from e2], l, q _ _ _ (Step.refl sz) rfl⟩
/-- == and != of an instance by its own == with anything -/
theorem ev_ownE {α : Type} {τ : Ty α} {x : α} {R0 : Rr M.fp} {C : Addr} {t : Value} {sp : Sp} {E : XK} {b neg : Bool} (O : ∀ Z v x, τ.r Z v x → ∃ a dx fs, v = .ref a ∧ Z a = some (.ins C dx fs)) (tx : ∀ Z H v, Same Z H → R0.r Z H v → TyX K H v t) (hn : PySem.W.notFirst K C t = true)
    (c : CallS M sp E (rac (ty τ x) (rac R0 ra0)) s2 (ty yBool b) s3) (ha : Ev M ta σ Z H s (ty τ x) s1) (hb : Ev M tb σ Z H s1 R0 s2) : Ev M (tOp (TPN.rOwnE K C neg sp E) ta tb) σ Z H s (ty yBool (b != neg)) s3 :=
  fun Z1 H1 a' b' c' d' Q q => ha Z1 H1 a' b' c' d' _ fun v Z2 H2 e m rv => hb Z2 H2 (a'.trans e.z) (b'.trans e.h) e.s m _ fun w Z3 H3 e2 m2 rw => by
    have rv3 := τ.mono e2.z rv
    obtain ⟨p, dx, fs, rfl, hp⟩ := O _ _ _ rv3
    exact ⟨p, dx, fs, t, rfl, e2.s _ _ hp, tx _ _ _ e2.s rw, hn, c Z3 H3 _ e2.s m2 ⟨_, _, rfl, rv3, _, _, rfl, rw, rfl⟩ _ fun u Z4 H4 e3 m3 ru => ⟨b, ru, q _ Z4 H4 ((e.trans e2).trans e3) m3 rfl⟩⟩
/-- the class of what may be None -/
def clsO {α : Type} (c : Value) : Option α → Value
  | none => .type "NoneType"
  | some _ => c
theorem tx_opt {fp : List Addr} {α : Type} {τ : Ty α} {c : Value} (h : ∀ (x : α) Z H v, Same Z H → (ty (fp := fp) τ x).r Z H v → TyX K H v c) {x : Option α} : ∀ Z H v, Same Z H → (ty (fp := fp) (yOpt τ) x).r Z H v → TyX K H v (clsO c x) := fun Z H v sz e => match x, e with
  | none, e => by rw [show v = .non from e]; exact .base .non
  | some y, e => h y Z H v sz e.1
theorem tx_non {fp : List Addr} {x : Unit} : ∀ Z H v, Same Z H → (ty (fp := fp) yNon x).r Z H v → TyX K H v (.type "NoneType") := fun _ _ _ _ h => by rw [show _ = V.non from h]; exact .base .non
theorem kit_opt {α : Type} {c t : Value} {b : Bool} (h0 : PySem.W.kitOne K (.type "NoneType") t = some false) (h1 : PySem.W.kitOne K c t = some b) (x : Option α) : PySem.W.kitOne K (clsO c x) t = some (x.isSome && b) := match x with
  | none => h0
  | some _ => h1
theorem nf_opt {α : Type} {C : Addr} {c : Value} (h0 : PySem.W.notFirst K C (.type "NoneType") = true) (h1 : PySem.W.notFirst K C c = true) (x : Option α) : PySem.W.notFirst K C (clsO c x) = true := match x with
  | none => h0
  | some _ => h1
def optEqO {α : Type} (f : α → Option α → Option Bool) : Option α → Option α → Option Bool
  | none, none => some true
  | none, some y => f y none
  | some x, y => f x y
theorem ev_optE {α : Type} {τ : Ty α} {a b : Option α} {r : Bool} {f : α → Option α → Option Bool} {C : Addr} {t : Option α → Value} {sp : Sp} {E : XK} (h : optEqO f a b = some r) (O : ∀ Z v x, τ.r Z v x → ∃ a dx fs, v = .ref a ∧ Z a = some (.ins C dx fs))
    (tx : ∀ (y : Option α) Z H v, Same Z H → (ty (fp := M.fp) (yOpt τ) y).r Z H v → TyX K H v (t y)) (hn : ∀ y, PySem.W.notFirst K C (t y) = true) (c : ∀ x y r, f x y = some r → CallS M sp E (rac (ty τ x) (rac (ty (yOpt τ) y) ra0)) s2 (ty yBool r) s2)
    (ha : Ev M ta σ Z H s (ty (yOpt τ) a) s1) (hb : Ev M tb σ Z H s1 (ty (yOpt τ) b) s2) : Ev M (tOp (TPN.rOptE K C sp E) ta tb) σ Z H s (ty yBool r) s2 :=
  fun Z1 H1 a' b' c' d' Q q => ha Z1 H1 a' b' c' d' _ fun v Z2 H2 e m rv => hb Z2 H2 (a'.trans e.z) (b'.trans e.h) e.s m _ fun w Z3 H3 e2 m2 rw => by
    have rv3 := (yOpt τ).mono e2.z rv
    match a, b, h, rv3, rw with
    | none, none, h, rv3, rw => exact .inl ⟨rv3, rw, q _ Z3 H3 (e.trans e2) m2 (congrArg V.bl (Option.some.inj h))⟩
    | none, some y, h, rv3, rw =>
      obtain ⟨p, dx, fs, rfl, hp⟩ := O _ _ _ rw.1
      exact .inr (.inl ⟨rv3, ⟨p, dx, fs, rfl, e2.s _ _ hp⟩, c y none r h Z3 H3 _ e2.s m2 ⟨_, _, rfl, rw.1, _, _, rfl, rv3, rfl⟩ _ fun u Z4 H4 e3 m3 ru => ⟨r, ru, q _ Z4 H4 ((e.trans e2).trans e3) m3 rfl⟩⟩)
    | some x, y, h, rv3, rw =>
      obtain ⟨p, dx, fs, rfl, hp⟩ := O _ _ _ rv3.1
      exact .inr (.inr ⟨p, dx, fs, t y, rfl, e2.s _ _ hp, tx _ _ _ _ e2.s rw, hn y, c x y r h Z3 H3 _ e2.s m2 ⟨_, _, rfl, rv3.1, _, _, rfl, rw, rfl⟩ _ fun u Z4 H4 e3 m3 ru => ⟨r, ru, q _ Z4 H4 ((e.trans e2).trans e3) m3 (by rw [show (r != false) = r by cases r <;> rfl]; exact rfl)⟩⟩)
end
end TP

namespace TP
open PySem PySem.Spec PyProof.Rows L2
/-! ### a list that never changes, or a tuple -/
def iSeq (K : PySem.W.Frag) (tl : TE) : TI := fun σ H R => tl σ H fun x H1 => (∃ a, x = .ref a ∧ (∃ xs, SqL K H1 a xs) ∧ R (Itl K a) H1) ∨ (∃ a, x = .ref a ∧ (∃ xs, SqT K H1 a xs) ∧ R (Itt K a) H1)
theorem pi_seq {X : Cx} {tg l : Expr} {tl : TE} (hl : PE X l tl) : PI X tg l (iSeq X.K tl) := by
  refine ⟨fun pins s σ H R I h => ?_⟩
  refine thn (hl.run pins s σ H _ I h) fun v s1 ⟨x, H1, I1, r1, q1⟩ => ?_
  rcases q1 with q1 | q1
  · obtain ⟨a, e, ⟨xs, hq⟩, q⟩ := q1
    subst e
    cases r1
    obtain ⟨its, rv, p, hz⟩ := I1.list hq
    refine wpAny_pyIter_list p.isList ?_
    refine ⟨s1.heap.objs.size, [s1.heap.objs.size], _, _, H1, rfl, I1.kept (t' := s1.toks) fun b o e => Heap.get?_push_of_some _ e, turn_list a _, ⟨_, Heap.get?_push_size _ rfl, rfl, rfl⟩, fun b hb => ?_, q⟩
    have e : b = s1.heap.objs.size := by simpa using hb
    subst e
    exact I1.fpOk (Nat.le_refl _) (I1.hok.fresh (Nat.le_refl _))
  · obtain ⟨a, e, ⟨xs, hq⟩, q⟩ := q1
    subst e
    cases r1
    obtain ⟨its, rv, p, hz⟩ := I1.tuple hq
    refine wpAny_pyIter_tuple (show s1.heap.IsTuple a its.toArray from p) ?_
    refine ⟨s1.heap.objs.size, [s1.heap.objs.size], _, _, H1, rfl, I1.kept (t' := s1.toks) fun b o e => Heap.get?_push_of_some _ e, turn_tuple a _, ⟨_, Heap.get?_push_size _ rfl, rfl, rfl⟩, fun b hb => ?_, q⟩
    have e : b = s1.heap.objs.size := by simpa using hb
    subst e
    exact I1.fpOk (Nat.le_refl _) (I1.hok.fresh (Nat.le_refl _))
theorem pi_seqB {X : Cx} {K : PySem.W.Frag} (hK : X.K = K) {tg l : Expr} {tl : TE} (hl : PE X l tl) : PI X tg l (iSeq K tl) := by
  subst hK
  exact pi_seq hl
section
variable {K : PySem.W.Frag} {α : Type}
def ySeq (K : PySem.W.Frag) (τ : Ty α) : Ty (List α) := ⟨fun Z v xs => ∃ a vs, v = .ref a ∧ (Z a = some (.lst vs) ∨ SqT K Z a vs) ∧ All (τ.r Z) vs xs ∧ xs.length ≤ sizeLine,
  fun s ⟨a, vs, e, h, t, l⟩ => ⟨a, vs, e, h.imp (fun h => s _ _ h) (seqT_same s), t.imp fun _ _ => τ.mono s, l⟩⟩
theorem nn_seq {τ : Ty α} : NonNil (ySeq K τ) := fun _ _ _ ⟨_, _, e, _⟩ => by rw [e]; exact fun z => nomatch z
section
variable {μ : Type} {M : Mu μ} {σ : L2.St} {Z H : Hp} {s s1 : μ} {ta : TE} {τ : Ty α} {xs : List α} {X : Hp → Hp → Prop}
theorem ev_seqL (h : Ev M ta σ Z H s (ty (yList τ) xs) s1) : Ev M ta σ Z H s (ty (ySeq K τ) xs) s1 := h.weak fun _ _ _ _ ⟨a, vs, e, h, t, l⟩ => ⟨a, vs, e, .inl h, t, l⟩
theorem ev_seqT (h : Ev M ta σ Z H s (ty (yTup K τ) xs) s1) : Ev M ta σ Z H s (ty (ySeq K τ) xs) s1 := h.weak fun _ _ _ _ ⟨a, vs, e, h, t, l⟩ => ⟨a, vs, e, .inr h, t, l⟩
theorem ei_seq (ha : Ev M ta σ Z H s (ty (ySeq K τ) xs) s1) : EvI M X (iSeq K ta) σ Z H s τ xs s1 :=
  fun Z1 H1 a b c d R q => ha Z1 H1 a b c d _ fun v Z2 H2 e m ⟨p, vs, ev, h, t, l⟩ => by
    subst ev
    rcases h with h | h
    · exact .inl ⟨p, rfl, ⟨vs, SqL.of (e.s _ _ h)⟩, q _ Z2 H2 e m (walk_at walk_list (fun Z' H' z sz _ => SqL.of (sz _ _ (z _ _ h))) t l)⟩
    · exact .inr ⟨p, rfl, ⟨vs, seqT_same e.s h⟩, q _ Z2 H2 e m (walk_at walk_tup (fun Z' H' z sz _ => seqT_same sz (seqT_same z h)) t l)⟩
theorem ev_lenS {r : List V → Hp → VK → Prop} (hr : ∀ xs H Q, (∃ p ys, xs = [.ref p] ∧ (SqL K H p ys ∨ SqT K H p ys) ∧ Q (.int ys.length) H) → r xs H Q) (ha : Ev M ta σ Z H s (ty (ySeq K τ) xs) s1) : Ev M (tCB r (tCons ta tNil)) σ Z H s (ty yInt (xs.length : Nat)) s1 :=
  ev_cb (eva_cons ha eva_nil) fun _ _ _ sz ⟨v, r, e, h, e2⟩ _ q => by
    cases e2; cases e
    obtain ⟨p, vs, rfl, g, t, _⟩ := h
    exact hr _ _ _ ⟨p, vs, rfl, g.imp (fun g => SqL.of (sz _ _ g)) (seqT_same sz), by rw [t.len]; exact q _ _ _ (Step.refl sz) rfl⟩
theorem en_list_ofS {r : List V → Hp → VK → Prop} (hr : ∀ xs H Q, (∃ p ys, xs = [.ref p] ∧ (SqL K H p ys ∨ SqT K H p ys) ∧ ∀ l, H l = none → Q (.ref l) (upd H l (.lst ys))) → r xs H Q) (ha : Ev M ta σ Z H s (ty (ySeq K τ) xs) s1) : EvN M (tCB r (tCons ta tNil)) σ Z H s τ xs s1 :=
  en_cb (eva_cons ha eva_nil) fun _ _ _ sz ⟨v, r, e, h, e2⟩ => by
    cases e2; cases e
    obtain ⟨p, vs, rfl, g, t, l⟩ := h
    exact ⟨vs, t, l, fun Q q => hr _ _ _ ⟨p, vs, rfl, g.imp (fun g => SqL.of (sz _ _ g)) (seqT_same sz), q⟩⟩
theorem ev_tuple_ofS {r : List V → Hp → VK → Prop} (hr : ∀ xs H Q, (∃ p ys, xs = [.ref p] ∧ ((SqL K H p ys ∧ ∀ l, H l = none → Q (.ref l) (upd H l (.tup ys))) ∨ (SqT K H p ys ∧ Q (.ref p) H))) → r xs H Q) (ha : Ev M ta σ Z H s (ty (ySeq K τ) xs) s1) : Ev M (tCB r (tCons ta tNil)) σ Z H s (ty (yTup K τ) xs) s1 :=
  ev_cb (eva_cons ha eva_nil) fun _ _ _ sz ⟨v, r, e, h, e2⟩ _ q => by
    cases e2; cases e
    obtain ⟨p, vs, rfl, g, t, l⟩ := h
    rcases g with g | g
    · exact hr _ _ _ ⟨p, vs, rfl, .inl ⟨SqL.of (sz _ _ g), fun d hd => q _ _ _ (Step.new sz hd) ⟨d, vs, rfl, sqT_new, t.imp fun _ _ => τ.mono (same_upd (same_none sz hd)), l⟩⟩⟩
    · exact hr _ _ _ ⟨p, vs, rfl, .inr ⟨seqT_same sz g, q _ _ _ (Step.refl sz) ⟨p, vs, rfl, g, t, l⟩⟩⟩
end
end
end TP

namespace TP
open PySem PySem.Spec PyProof.Rows L2
/-- a list grows by a tuple's items -/
def rExtS (K : PySem.W.Frag) : V → List V → Hp → VK → Prop := fun x vs H Q => ∃ l b xs zs, x = .ref l ∧ vs = [.ref b] ∧ H l = some (.lst xs) ∧ SqT K H b zs ∧ xs.length + zs.length ≤ sizeLine ∧ Q .non (upd H l (.lst (xs ++ zs)))
open PySem.AutoSeq1 in
theorem ext_tup (l b : Addr) (xs ys : Array Value) (n m : Nat) (dd : Option Addr) (sl : Array (Option Value)) (k0 : ¬ (!xs.isEmpty && Builtin.List.listTooLong (xs.size + ys.size)) = true) (k1 : xs.size ≤ sizeLine) (k2 : xs.size + ys.size ≤ sizeLine + 1) :
    Meets (Builtin.«list.extend» ⟨[.ref l, .ref b], []⟩) (fun _ R s => (s.heap.get? b = some ⟨.type "tuple", dd, .seq ys m, sl⟩ ∧ s.heap.get? l = some ⟨.type "list", none, .seq xs n, #[]⟩) ∧
      R (.ok (.ret Value.none)) { s with heap := s.heap.update l (Obj.mapSeq fun z => z ++ ys), toks := s.toks }) :=
  .of_wp fun prog w A R s ⟨⟨gb, gl⟩, q⟩ => by
    obtain ⟨hp, ge, dr, tk, os⟩ := s
    have s1 := PySem.AutoSeq1.idx_int
    have s2 := PySem.AutoSeq1.sub_list_list
    have s3 := PySem.AutoSeq1.sub_tuple_list
    have s4 := PySem.AutoSeq1.sub_tuple_tuple
    have s5 := PySem.AutoSeq1.sub_list_tuple
    have tot : (xs ++ ys).size ≤ sizeLine + 1 := by simpa [Array.size_append] using k2
    wp_walk using (wpAny_updateSeq gl rfl (hz := k1) (_hz' := tot)), wpAny_loadPart' gl, wpAny_loadPart' gb
    exact ⟨_, rfl, q⟩
theorem mt_extendT {X : Cx} : MtM X "list.extend" (rExtS X.K) := by
  intro pins s σ H x vs v us Q I rx rv g
  obtain ⟨l, b, xs, zs, rfl, rfl, gl, gb, gz, q⟩ := g
  cases rx
  obtain ⟨u, rfl, ru⟩ := rv.one
  cases ru
  obtain ⟨_, its, n, r, _, e⟩ := I.lstM gl
  obtain ⟨js, r2, ⟨⟨oc, od, ot, os⟩, e2, e3, m, e4⟩, _⟩ := I.tuple gb
  dsimp only at e3 e4
  subst e3 e4
  have k1 := r.length
  have k2 := r2.length
  have fits : its.toArray.size + js.toArray.size ≤ sizeLine := by
    rw [List.size_toArray, List.size_toArray]
    omega
  have open_ : ¬ (!its.toArray.isEmpty && Builtin.List.listTooLong (its.toArray.size + js.toArray.size)) = true := by
    rw [notLongL fits, Bool.and_false]
    decide
  refine call_meets F.slot_list_extend ⟨_, e, rfl⟩ F.entry_list_extend (F.args_list_extend_2 _ _) (ext_tup l b its.toArray js.toArray n m _ _ open_ (by omega) (by omega)) ⟨⟨e2, e⟩, .non, _, I.lset (its' := its ++ js) gl e (by simp) (r.append r2) (by rw [List.length_append]; omega), rfl, q⟩
section
variable {μ : Type} {S : List Addr} {Z0 H0 : Hp} {M : Mu μ} {σ : L2.St} {Z H : Hp} {s s1 s2 : μ} {ta tb te : TE} {K : PySem.W.Frag} {D : Ends} {α : Type} {τ : Ty α} {xs ys : List α} {p : Addr}
theorem st_extendT {i : Nat} (P : Pt S Z0 H0 M Z H s) (o : Own S H0 M.fp Z H τ p xs) (hσ : σ[i]? = some (some (.ref p))) (e : Ev M te σ Z H s (ty (yTup K τ) ys) s1) (l : xs.length + ys.length ≤ sizeLine)
    (k : ∀ Z1 H1, Step (p :: M.fp) Z H Z1 H1 → Pt S Z0 H0 M Z1 H1 s1 → Own S H0 M.fp Z1 H1 τ p (xs ++ ys) → D.nx σ H1) : tDrop (tBM K "list" (rExtS K) (tVar i) (tCons te tNil)) D σ H := by
  obtain ⟨vs, h, t⟩ := o.ex
  refine ⟨.ref p, hσ, .inl ⟨rfl, _, .inl (.inl h)⟩, e Z H (Same.refl _) SameX.refl P.sub P.m _ fun v Z1 H1 e m ⟨q, ws, ev, hq, t2, _⟩ => ?_⟩
  subst ev
  have o1 := o.next e
  have P1 := P.next e m
  refine ⟨p, q, vs, ws, rfl, rfl, e.h _ _ o.n h, seqT_same e.s hq, by rw [t.len, t2.len]; exact l, ?_⟩
  exact k _ _ (step2 e o1.z) (P1.set o1.z o.n (.inr o.mine)) ⟨⟨_, upd_same, (t.imp fun _ _ => τ.mono e.z).app t2⟩, o1.z, o.n, o.mine, by rw [List.length_append]; exact l⟩
/-- a sign of a text -/
def atSi (x : Str) (i : Int) : Option Str := (atI x.cps.toList i).map fun c => ⟨#[c]⟩
theorem ev_ixS {x y : Str} {i : Int} (ha : Ev M ta σ Z H s (ty yStr x) s1) (hb : Ev M tb σ Z H s1 (ty yInt i) s2) (e : atSi x i = some y) : Ev M (tOp rIxS ta tb) σ Z H s (ty yStr y) s2 :=
  ev_op ha hb fun _ _ _ _ sz e1 e2 _ q => by
    obtain ⟨c, hc, rfl⟩ := Option.map_eq_some_iff.mp e
    have ok := (show (PyData.strOk x && decide (x.length ≤ sizeLine)) = true from e1.2)
    rw [Bool.and_eq_true] at ok
    refine ⟨x, i, c, e1.1, e2, of_decide_eq_true ok.2, hc, q _ _ _ (Step.refl sz) ⟨rfl, ?_⟩⟩
    show (PyData.strOk ⟨#[c]⟩ && decide ((⟨#[c]⟩ : Str).length ≤ sizeLine)) = true
    have h1 : c ∈ x.cps.toList := by
      unfold atI at hc
      obtain ⟨j, _, hj⟩ := Option.bind_eq_some_iff.mp hc
      exact List.mem_of_getElem? hj
    have h2 := ok.1
    unfold PyData.strOk at h2 ⊢
    rw [Array.all_eq_true_iff_forall_mem] at h2
    rw [Bool.and_eq_true]
    refine ⟨?_, by show decide (1 ≤ sizeLine) = true; decide⟩
    simpa using h2 c (by simpa using h1)
end
end TP

namespace TP
open PySem PySem.Spec PyProof.Rows L2
/-! ### things that change: products -/
def muX {α β : Type} (A : Mu α) (B : Mu β) : Mu (α × β) where
  fp := A.fp ++ B.fp
  m := fun s Z H => A.m s.1 Z H ∧ B.m s.2 Z H ∧ ∀ a ∈ A.fp, a ∉ B.fp
  al := fun ⟨h, g, _⟩ a ha => by
    rcases List.mem_append.mp ha with ha | ha
    · exact A.al h a ha
    · exact B.al g a ha
  loc := fun sz hk hn ⟨h, g, d⟩ => ⟨A.loc sz (fun a ha => hk a (List.mem_append_left _ ha)) (fun a ha => hn a (List.mem_append_left _ ha)) h, B.loc sz (fun a ha => hk a (List.mem_append_right _ ha)) (fun a ha => hn a (List.mem_append_right _ ha)) g, d⟩
theorem Mu.keep {μ : Type} {N : Mu μ} {s : μ} {F : List Addr} {Z H Z' H' : Hp} (m : N.m s Z H) (e : Step F Z H Z' H') (d : ∀ a ∈ N.fp, a ∉ F) : N.m s Z' H' :=
  N.loc e.z (fun a ha o h => e.h a o (d a ha) h) (fun a _ h z => e.n a h z) m
section
variable {μ ν ι : Type} {S : List Addr} {Z0 H0 : Hp} {M : Mu μ} {N : Mu ν} {σ : L2.St} {Z H : Hp} {s s' s1 s2 s3 : μ} {c c' : ν} {ta tb tc te : TE} {t : TA} {K : PySem.W.Frag} {D : Ends}
/-- the attribute f of the thing at p -/
def MFld {α : Type} (N : Mu ν) (p C : Addr) (f : Str) (τ : Ty α) (pr : ν → α) : Prop := ∀ c Z H, N.m c Z H → ∃ dx fs w, H p = some (.ins C dx fs) ∧ fs.lookup f = some w ∧ τ.r Z w (pr c)
theorem ev_mfld {α : Type} {τ : Ty α} {p C : Addr} {f : Str} {pr : ν → α} {i : Nat} (hm : ∀ Z H, M.m s Z H → N.m c Z H) (F : MFld N p C f τ pr) (cl : Cls K C) (n : NoAttr K C f) (e : σ[i]? = some (some (.ref p))) : Ev M (tFld K (tVar i) f) σ Z H s (ty τ (pr c)) s :=
  fun Z1 H1 _ _ c' d Q q => ⟨_, e, by
    obtain ⟨dx, fs, w, hp, l, r⟩ := F c Z1 H1 (hm Z1 H1 d)
    exact ⟨p, C, dx, fs, w, rfl, hp, cl, n, l, q w Z1 H1 (Step.refl c') d r⟩⟩
/-- the attribute f is itself a thing that changes, at q -/
def MRef (N : Mu ν) (p C : Addr) (f : Str) (q : Addr) : Prop := ∀ c Z H, N.m c Z H → ∃ dx fs, H p = some (.ins C dx fs) ∧ fs.lookup f = some (.ref q)
theorem ev_mref {p C q : Addr} {f : Str} {i : Nat} (hm : ∀ Z H, M.m s Z H → N.m c Z H) (F : MRef N p C f q) (cl : Cls K C) (n : NoAttr K C f) (e : σ[i]? = some (some (.ref p))) : Ev M (tFld K (tVar i) f) σ Z H s (isRef q) s :=
  fun Z1 H1 _ _ c' d Q k => ⟨_, e, by
    obtain ⟨dx, fs, hp, l⟩ := F c Z1 H1 (hm Z1 H1 d)
    exact ⟨p, C, dx, fs, _, rfl, hp, cl, n, l, k _ Z1 H1 (Step.refl c') d rfl⟩⟩
/-- the thing at p is an instance of the class at C without an own attribute m -/
def MObj (N : Mu ν) (p C : Addr) (m : Str) : Prop := ∀ c Z H, N.m c Z H → ∃ dx fs, H p = some (.ins C dx fs) ∧ fs.lookup m = none
theorem ev_mmeth {p C' : Addr} {m : Str} {sp : Sp} {E : XK} {Rs : Ra M.fp} {R : Rr M.fp} (hm : ∀ Z H, M.m s1 Z H → N.m c Z H) (O : MObj N p C' m) (cs : CallS M sp E (rac (isRef p) Rs) s2 R s3) (hx : Ev M ta σ Z H s (isRef p) s1) (ha : EvA M t σ Z H s1 Rs s2) : Ev M (tMeth C' m sp [] E ta t) σ Z H s R s3 :=
  fun Z1 H1 a b c' d Q q => hx Z1 H1 a b c' d _ fun v Z2 H2 e mm rv => by
    obtain ⟨dx, fs, hp, l⟩ := O _ Z2 H2 (hm Z2 H2 mm)
    have ev : v = .ref p := rv
    subst ev
    refine ⟨p, dx, fs, rfl, hp, l, ha Z2 H2 (a.trans e.z) (b.trans e.h) e.s mm _ fun vs Z3 H3 e2 m2 rs => ?_⟩
    rw [List.append_nil]
    exact cs Z3 H3 _ e2.s m2 ⟨_, vs, rfl, rfl, rs⟩ Q fun v Z4 H4 e3 m3 rv' => q v Z4 H4 ((e.trans e2).trans e3) m3 rv'
theorem ev_mprop {p C' : Addr} {m : Str} {sp : Sp} {E : XK} {R : Rr M.fp} (hm : ∀ Z H, M.m s1 Z H → N.m c Z H) (O : MObj N p C' m) (cs : CallS M sp E (rac (isRef p) ra0) s1 R s2) (hx : Ev M ta σ Z H s (isRef p) s1) : Ev M (tProp C' sp [] E ta) σ Z H s R s2 :=
  fun Z1 H1 a b c' d Q q => hx Z1 H1 a b c' d _ fun v Z2 H2 e mm rv => by
    obtain ⟨dx, fs, hp, l⟩ := O _ Z2 H2 (hm Z2 H2 mm)
    have ev : v = .ref p := rv
    subst ev
    exact ⟨p, dx, fs, rfl, hp, cs Z2 H2 _ e.s mm ⟨_, [], rfl, rfl, rfl⟩ Q fun v Z4 H4 e3 m3 rv' => q v Z4 H4 (e.trans e3) m3 rv'⟩
theorem eve_mmeth {p C' : Addr} {m : Str} {sp : Sp} {E : XK} {Rs : Ra M.fp} {cls : Value} (hm : ∀ Z H, M.m s1 Z H → N.m c Z H) (O : MObj N p C' m) (cs : CallE M sp E (rac (isRef p) Rs) s2 cls s3) (hx : Ev M ta σ Z H s (isRef p) s1) (ha : EvA M t σ Z H s1 Rs s2) : EvE M (tMeth C' m sp [] E ta t) σ Z H s (E cls none) s3 :=
  fun Z1 H1 a b c' d Q q => hx Z1 H1 a b c' d _ fun v Z2 H2 e mm rv => by
    obtain ⟨dx, fs, hp, l⟩ := O _ Z2 H2 (hm Z2 H2 mm)
    have ev : v = .ref p := rv
    subst ev
    refine ⟨p, dx, fs, rfl, hp, l, ha Z2 H2 (a.trans e.z) (b.trans e.h) e.s mm _ fun vs Z3 H3 e2 m2 rs => ?_⟩
    rw [List.append_nil]
    exact cs Z3 H3 _ e2.s m2 ⟨_, vs, rfl, rfl, rs⟩ Q fun Z4 H4 e3 m3 => q Z4 H4 ((e.trans e2).trans e3) m3
theorem eve_mmethA {p C' : Addr} {m : Str} {sp : Sp} {E : XK} {X : Hp → Prop} (hm : ∀ Z H, M.m s1 Z H → N.m c Z H) (O : MObj N p C' m) (hx : Ev M ta σ Z H s (isRef p) s1) (ha : EvAE M t σ Z H s1 X s2) : EvE M (tMeth C' m sp [] E ta t) σ Z H s X s2 :=
  fun Z1 H1 a b c' d Q q => hx Z1 H1 a b c' d _ fun v Z2 H2 e mm rv => by
    obtain ⟨dx, fs, hp, l⟩ := O _ Z2 H2 (hm Z2 H2 mm)
    have ev : v = .ref p := rv
    subst ev
    exact ⟨p, dx, fs, rfl, hp, l, ha Z2 H2 (a.trans e.z) (b.trans e.h) e.s mm _ fun Z3 H3 e2 m2 => q Z3 H3 (e.trans e2) m2⟩
/-- the attribute f is stored anew -/
def MSet {α : Type} (N : Mu ν) (p C : Addr) (f : Str) (τ : Ty α) (up : ν → α → ν) : Prop := ∀ c Z H, N.m c Z H → p ∈ N.fp ∧ Z p = none ∧ ∃ dx fs, H p = some (.ins C dx fs) ∧ fs.length < 1000 ∧ ∀ w x, τ.r Z w x → N.m (up c x) Z (upd H p (.ins C dx (putF f w fs)))
theorem st_mset {α : Type} {τ : Ty α} {x : α} {p C : Addr} {f : Str} {i : Nat} {up : ν → α → ν} {tv : TE} (P : Pt S Z0 H0 M Z H s) (hm : ∀ Z H, M.m s1 Z H → N.m c Z H) (hf : ∀ a ∈ N.fp, a ∈ M.fp) (hp : ∀ Z H Z' H', M.m s1 Z H → Step N.fp Z H Z' H' → N.m (up c x) Z' H' → M.m s2 Z' H')
    (F : MSet N p C f τ up) (cl : Cls K C) (n : NoAttr K C f) (hσ : σ[i]? = some (some (.ref p))) (e : Ev M tv σ Z H s (ty τ x) s1) (k : ∀ Z1 H1, Step M.fp Z H Z1 H1 → Pt S Z0 H0 M Z1 H1 s2 → D.nx σ H1) : sFld K (tVar i) tv f D σ H :=
  e Z H (Same.refl _) SameX.refl P.sub P.m _ fun v Z1 H1 e m r => by
    obtain ⟨pf, zp, dx, fs, h1, l, up'⟩ := F c Z1 H1 (hm Z1 H1 m)
    have m' := up' v x r
    have st : Step [p] Z1 H1 Z1 (upd H1 p (.ins C dx (putF f v fs))) := Step.set e.s zp
    have stN : Step N.fp Z1 H1 Z1 (upd H1 p (.ins C dx (putF f v fs))) := st.weak fun a ha => by rw [List.mem_singleton] at ha; rw [ha]; exact .inl pf
    have m2 := hp _ _ _ _ m stN m'
    have e2 := e.trans (stN.weak fun a ha => .inl (hf a ha))
    exact ⟨.ref p, hσ, p, C, dx, fs, rfl, h1, cl, n, l, k _ _ e2 (P.next e2 m2)⟩
/-- self.f += e of integers -/
theorem st_maug {p C : Addr} {f : Str} {i : Nat} {up : ν → Int → ν} {tv : TE} {pr : ν → Int} {b : Int} {g : Int → Int → Int} (P : Pt S Z0 H0 M Z H s) (hm : ∀ Z H, M.m s Z H → N.m c Z H) (hf : ∀ a ∈ N.fp, a ∈ M.fp) (hp : ∀ Z H Z' H', M.m s Z H → Step N.fp Z H Z' H' → N.m (up c (g (pr c) b)) Z' H' → M.m s2 Z' H')
    (F : MSet N p C f yInt up) (G : MFld N p C f yInt pr) (cl : Cls K C) (n : NoAttr K C f) (hσ : σ[i]? = some (some (.ref p))) (e : Ev M tv σ Z H s (ty yInt b) s) (k : ∀ Z1 H1, Step M.fp Z H Z1 H1 → Pt S Z0 H0 M Z1 H1 s2 → D.nx σ H1) : sFldAug K (tVar i) tv (ipI g) f D σ H := by
  obtain ⟨dx0, fs0, w, h0, l0, r0⟩ := G c Z H (hm Z H P.m)
  refine ⟨.ref p, hσ, p, C, dx0, fs0, w, rfl, h0, cl, n, l0, e Z H (Same.refl _) SameX.refl P.sub P.m _ fun v Z1 H1 e m r => ?_⟩
  obtain ⟨pf, zp, dx, fs, h1, l, up'⟩ := F c Z1 H1 (hm Z1 H1 m)
  refine ⟨pr c, b, r0, r, dx, fs, h1, l, ?_⟩
  have m' := up' (.int (g (pr c) b)) (g (pr c) b) rfl
  have st : Step [p] Z1 H1 Z1 (upd H1 p (.ins C dx (putF f (.int (g (pr c) b)) fs))) := Step.set e.s zp
  have stN : Step N.fp Z1 H1 Z1 (upd H1 p (.ins C dx (putF f (.int (g (pr c) b)) fs))) := st.weak fun a ha => by rw [List.mem_singleton] at ha; rw [ha]; exact .inl pf
  have m2 := hp _ _ _ _ m stN m'
  have e2 := e.trans (stN.weak fun a ha => .inl (hf a ha))
  exact k _ _ e2 (P.next e2 m2)
/-- a new thing that changes -/
def EvM (M : Mu μ) (t : TE) (σ : L2.St) (Z H : Hp) (s : μ) (N : ι → Mu ν) (pr : ι → Addr) (x : ν) (s' : μ) : Prop :=
  ∀ Z1 H1, Same Z Z1 → SameX M.fp H H1 → Same Z1 H1 → M.m s Z1 H1 → ∀ Q : VK, (∀ i Z2 H2, Step M.fp Z1 H1 Z2 H2 → M.m s' Z2 H2 → (∀ a ∈ (N i).fp, H1 a = none) → (N i).m x Z2 H2 → Q (.ref (pr i)) H2) → t σ H1 Q
/-- what the __init__ makes: a thing that changes -/
def InitM (M : Mu μ) (C : Addr) (sp : Sp) (E : XK) (Rs : Ra M.fp) (s : μ) (N : ι → Mu ν) (pr : ι → Addr) (x : ν) (s' : μ) : Prop :=
  ∀ Z H vs p dx, Same Z H → M.m s Z H → Rs.r Z H vs → H p = some (.ins C dx []) → Z p = none → p ∉ M.fp → ∀ Q : VK, (∀ i Z2 H2, pr i = p → Step (p :: M.fp) Z H Z2 H2 → M.m s' Z2 H2 → (∀ a ∈ (N i).fp, a = p ∨ H a = none) → (N i).m x Z2 H2 → Q .non H2) → sp (.ref p :: vs) H Q E
theorem ev_makeM {C : Addr} {sp : Sp} {E : XK} {Rs : Ra M.fp} {N : ι → Mu ν} {pr : ι → Addr} {x : ν} (I : InitM M C sp E Rs s1 N pr x s2) (ha : EvA M t σ Z H s Rs s1) : EvM M (tMake C sp [] E t) σ Z H s N pr x s2 :=
  fun Z1 H1 a b c d Q q => ha Z1 H1 a b c d _ fun vs Z2 H2 e m rs x' dx hx hd ne => by
    rw [List.append_nil]
    have st := Step.dict (C := C) e.s hx hd ne
    have nf : x' ∉ M.fp := fun h => (M.al m x' h).1 hx
    have back : ∀ a, upd (upd H2 dx (.own x')) x' (.ins C dx []) a = none → H2 a = none := fun a h => by
      cases q : H2 a with
      | none => rfl
      | some o => exact absurd h (st.al a (some_ne q))
    refine I Z2 _ vs x' dx st.s (M.pure st m) (Rs.st st.pure rs) upd_same (same_none e.s hx) nf _ fun i Z3 H3 ei e2 m2 fr mi => ⟨rfl, ?_⟩
    subst ei
    have e3 : Step M.fp Z2 H2 Z3 H3 := ((st.pure (S := pr i :: M.fp)).trans e2).weak fun a h => by
      rcases List.mem_cons.mp h with e | h
      · exact .inr (e ▸ hx)
      · exact .inl h
    exact q i Z3 H3 (e.trans e3) m2 (fun a ha => by
      rcases fr a ha with r | r
      · rw [r]; exact same_x e hx
      · exact same_x e (back a r)) mi
/-- it is called x from now on -/
theorem st_setM {N : ι → Mu ν} {pr : ι → Addr} {x : ν} {j : Nat} (P : Pt S Z0 H0 M Z H s) (e : EvM M te σ Z H s N pr x s1) (k : ∀ i Z1 H1, Step M.fp Z H Z1 H1 → (∀ a ∈ (N i).fp, H a = none) → Pt S Z0 H0 (muX M (N i)) Z1 H1 (s1, x) → D.nx (σ.set j (some (.ref (pr i)))) H1) : tAsg te (gName j) D σ H :=
  e Z H (Same.refl _) SameX.refl P.sub P.m _ fun i Z1 H1 e m fr mi => k i Z1 H1 e fr ⟨P.st.mine e P.mine, ⟨m, mi, fun a ha hb => (M.al P.m a ha).1 (fr a hb)⟩, fun a ha => by
    rcases List.mem_append.mp ha with ha | ha
    · exact P.mine a ha
    · exact .inr (same_x P.st (fr a ha))⟩
theorem Pt.left {N : Mu ν} {x : ν} (P : Pt S Z0 H0 (muX M N) Z H (s, x)) : Pt S Z0 H0 M Z H s := ⟨P.st, P.m.1, fun a ha => P.mine a (List.mem_append_left _ ha)⟩
theorem Own.grow {α : Type} {τ : Ty α} {xs : List α} {p : Addr} {F : List Addr} {Z1 H1 : Hp} (o : Own S H0 M.fp Z H τ p xs) (e : Step M.fp Z H Z1 H1) (fr : ∀ a ∈ F, H a = none) : Own S H0 (M.fp ++ F) Z1 H1 τ p xs := by
  have o1 := o.next e
  obtain ⟨vs, h, _⟩ := o.ex
  have nf : p ∉ F := fun hb => by
    rw [fr p hb] at h
    exact nomatch h
  exact ⟨o1.ex, o1.z, fun ha => (List.mem_append.mp ha).elim o.n nf, o1.mine, o1.l⟩
theorem Own.left {α : Type} {τ : Ty α} {xs : List α} {p : Addr} {F G : List Addr} (o : Own S H0 (F ++ G) Z H τ p xs) : Own S H0 F Z H τ p xs := ⟨o.ex, o.z, fun h => o.n (List.mem_append_left _ h), o.mine, o.l⟩
theorem Step.left {F G : List Addr} {Z H Z1 H1 : Hp} (e : Step F Z H Z1 H1) : Step (F ++ G) Z H Z1 H1 := e.weak fun a h => .inl (List.mem_append_left _ h)
theorem putF_ne {f g : Str} {v w : V} {r : List (Str × V)} (h : ¬ g = f) : putF f v ((g, w) :: r) = (g, w) :: putF f v r := by
  show (if g = f then (g, v) :: r else (g, w) :: putF f v r) = _
  rw [if_neg h]
theorem putF_eq {f : Str} {v w : V} {r : List (Str × V)} : putF f v ((f, w) :: r) = (f, v) :: r := by
  show (if f = f then (f, v) :: r else _) = _
  rw [if_pos rfl]
theorem putF_nil {f : Str} {v : V} : putF f v [] = [(f, v)] := rfl
end
end TP

namespace TP
open PySem PySem.Spec PyProof.Rows L2
/-- what never is reached -/
theorem ps_dead {X : Cx} {s : Stmt} : PS X s (fun _ _ _ => False) := ⟨fun _ _ _ _ _ _ h => h.elim⟩
theorem sl_tupW {X : Cx} : SlR X (rSlW X.K) := sl_tupA
/-- an expression that is read in one of two ways -/
theorem pe_or2 {X : Cx} {e : Expr} {t u : TE} (h : PE X e t) (g : PE X e u) : PE X e (fun σ H Q => t σ H Q ∨ u σ H Q) := ⟨fun pins s σ H Q I q => by
  rcases q with q | q
  · exact h.run pins s σ H Q I q
  · exact g.run pins s σ H Q I q⟩
def rOr (r r' : R2) : R2 := fun x y H Q => r x y H Q ∨ r' x y H Q
theorem op_or {X : Cx} {f : Value → Value → Sem Value} {r r' : R2} (h : OpR X f r) (h' : OpR X f r') : OpR X f (rOr r r') := fun pins s σ H x y v u Q I rx ry q => by
  rcases q with q | q
  · exact h pins s σ H x y v u Q I rx ry q
  · exact h' pins s σ H x y v u Q I rx ry q
def rImp (r r' : R2) : Prop := ∀ x y H Q, r x y H Q → r' x y H Q
theorem ri_self {r : R2} : rImp r r := fun _ _ _ _ h => h
theorem ri_l {r r' : R2} : rImp r (rOr r r') := fun _ _ _ _ h => .inl h
theorem ri_r {r r' r'' : R2} (h : rImp r r') : rImp r (rOr r'' r') := fun _ _ _ _ q => .inr (h _ _ _ _ q)
section
variable {μ : Type} {M : Mu μ} {σ : L2.St} {Z H : Hp} {s s1 s2 s3 : μ} {ta tb t u : TE} {K : PySem.W.Frag}
theorem ev_orl {R : Rr M.fp} (h : Ev M t σ Z H s R s1) : Ev M (fun σ H Q => t σ H Q ∨ u σ H Q) σ Z H s R s1 := fun Z1 H1 a b c d Q q => .inl (h Z1 H1 a b c d Q q)
theorem ev_orr {R : Rr M.fp} (h : Ev M u σ Z H s R s1) : Ev M (fun σ H Q => t σ H Q ∨ u σ H Q) σ Z H s R s1 := fun Z1 H1 a b c d Q q => .inr (h Z1 H1 a b c d Q q)
theorem ev_ownR {α : Type} {τ : Ty α} {x : α} {R0 : Rr M.fp} {C : Addr} {t : Value} {sp : Sp} {E : XK} {b neg : Bool} {r : R2} (hr : rImp (TPN.rOwnE K C neg sp E) r) (O : ∀ Z v x, τ.r Z v x → ∃ a dx fs, v = .ref a ∧ Z a = some (.ins C dx fs)) (tx : ∀ Z H v, Same Z H → R0.r Z H v → TyX K H v t) (hn : PySem.W.notFirst K C t = true)
    (c : CallS M sp E (rac (ty τ x) (rac R0 ra0)) s2 (ty yBool b) s3) (ha : Ev M ta σ Z H s (ty τ x) s1) (hb : Ev M tb σ Z H s1 R0 s2) : Ev M (tOp r ta tb) σ Z H s (ty yBool (b != neg)) s3 :=
  fun Z1 H1 a' b' c' d' Q q => ha Z1 H1 a' b' c' d' _ fun v Z2 H2 e m rv => hb Z2 H2 (a'.trans e.z) (b'.trans e.h) e.s m _ fun w Z3 H3 e2 m2 rw => by
    have rv3 := τ.mono e2.z rv
    obtain ⟨p, dx, fs, rfl, hp⟩ := O _ _ _ rv3
    exact hr _ _ _ _ ⟨p, dx, fs, t, rfl, e2.s _ _ hp, tx _ _ _ e2.s rw, hn, c Z3 H3 _ e2.s m2 ⟨_, _, rfl, rv3, _, _, rfl, rw, rfl⟩ _ fun u Z4 H4 e3 m3 ru => ⟨b, ru, q _ Z4 H4 ((e.trans e2).trans e3) m3 rfl⟩⟩
variable {fp : List Addr} {α β γ δ : Type} {τ : Ty α} {υ : Ty β} {φ : Ty γ} {ψ : Ty δ}
theorem tx_p1 {x : α} : ∀ Z H v, Same Z H → (ty (fp := fp) (yP1 K τ) x).r Z H v → TyX K H v (.type "tuple") := fun _ _ _ sz ⟨a, _, e, h, _⟩ => by subst e; exact tx_sqT (seqT_same sz h)
theorem tx_p4 {x : α × β × γ × δ} : ∀ Z H v, Same Z H → (ty (fp := fp) (yP4 K τ υ φ ψ) x).r Z H v → TyX K H v (.type "tuple") := fun _ _ _ sz ⟨a, _, _, _, _, e, h, _⟩ => by subst e; exact tx_sqT (seqT_same sz h)
end
end TP

/-! == and != of lists, tuples and instances with an own ==, with either outcome -/
namespace TPQ
open PySem PySem.SeqAt
open AutoSeq1 (wpAny_loadPart')
open MeetsSeq MeetsSeq2 MeetsSeq3 SeqRoads2
section
variable {prog : Program} {w : World} {A : Around} {R : Result → Shared → Prop} {E : Value → Shared → Prop}
/-- at each turn the two lists are read anew; the i-th two are equal as e i says -/
def ListB (prog : Program) (w : World) (A : Around) (E : Value → Shared → Prop) (l b : Addr) (N : Nat) (e : Nat → Bool) (I : Shared → Prop) : Prop :=
  ∀ s, I s → ∃ (items items2 : Array Value) (dd dd2 : Option Addr) (n n2 : Nat) (sl sl2 : Array (Option Value)), s.heap.get? l = some { cls := .type "list", dict := dd, data := .seq items n, slots := sl } ∧ s.heap.get? b = some { cls := .type "list", dict := dd2, data := .seq items2 n2, slots := sl2 } ∧ items.size = N ∧ items2.size = N ∧
    ∀ i (h1 : i < items.size) (h2 : i < items2.size), wpAny (model prog w) A.in1 (eqBool items[i] items2[i]) (fun r s' => r = e i ∧ I s') E s
set_option maxHeartbeats 2000000 in
theorem list_loop (neg : Bool) (l b : Addr) (N : Nat) (e : Nat → Bool) (I : Shared → Prop) (hl : ListB prog w A (fun e s' => R (.error e) s') l b N e I)
    (fin : ∀ s, I s → R (.ok (.ret (.bool ((List.range N).all e != neg)))) s) (k : Nat) :
    ∀ i : Nat, N - i = k → i ≤ N → (∀ j, j < i → e j = true) → ∀ s, I s →
      wpAny (model prog w) A.in1 (Builtin.«list.__eq__.loop» ⟨[.ref l, .ref b, rawInt i, rawInt (if neg then 3 else 2)], []⟩) (GQ.FinOf prog w A R) (fun e s' => R (.error e) s') s := by
  induction k with
  | zero =>
    intro i hk hi he s h
    obtain ⟨items, items2, dd, dd2, n, n2, sl, sl2, hl1, hb1, hs1, hs2, _⟩ := hl _ h
    have hi' : i = N := by omega
    subst hi'
    have hR := fin s h
    have ha : (List.range i).all e = true := by rw [List.all_eq_true]; exact fun j hj => he j (List.mem_range.mp hj)
    rw [ha] at hR
    have hi1 : items[((i : Nat) : Int).toNat]? = none := by simp; omega
    have hi2 : items2[((i : Nat) : Int).toNat]? = none := by simp; omega
    obtain ⟨hp, g, d, tk, os⟩ := s
    cases neg
    · rw [if_neg Bool.false_ne_true]
      wp_walk using wpAny_loadPart' hl1, wpAny_loadPart' hb1
      rw [hi1, hi2]
      wp_walk using wpAny_loadPart' hl1, wpAny_loadPart' hb1
      show R (.ok (.ret (.bool (items.size == items2.size)))) _
      rw [hs1, hs2]
      simpa using hR
    · rw [if_pos rfl]
      wp_walk using wpAny_loadPart' hl1, wpAny_loadPart' hb1
      rw [hi1, hi2]
      wp_walk using wpAny_loadPart' hl1, wpAny_loadPart' hb1
      show R (.ok (.ret (.bool (items.size != items2.size)))) _
      rw [hs1, hs2]
      simpa using hR
  | succ k ih =>
    intro i hk hi he s h
    obtain ⟨items, items2, dd, dd2, n, n2, sl, sl2, hl1, hb1, hs1, hs2, turn⟩ := hl _ h
    have hlt : i < items.size := by omega
    have hlt2 : i < items2.size := by omega
    have ht := turn i hlt hlt2
    have hi1 : items[((i : Nat) : Int).toNat]? = some items[i] := by simp [hlt]
    have hi2 : items2[((i : Nat) : Int).toNat]? = some items2[i] := by simp [hlt2]
    have hc : ((i : Int) + 1) = ((i + 1 : Nat) : Int) := by omega
    have go : e i = true → ∀ s2, I s2 → wpAny (model prog w) A.in1 (Builtin.«list.__eq__.loop» ⟨[.ref l, .ref b, rawInt ((i + 1 : Nat) : Int), rawInt (if neg then 3 else 2)], []⟩) (GQ.FinOf prog w A R) (fun e s' => R (.error e) s') s2 := fun ei s2 h2 =>
      ih (i + 1) (by omega) (by omega) (fun j hj => by
        rcases Nat.lt_or_ge j i with g | g
        · exact he j g
        · have : j = i := by omega
          rw [this]; exact ei) s2 h2
    have stop : e i = false → (List.range N).all e = false := fun ei => by
      cases q : (List.range N).all e with
      | false => rfl
      | true => rw [List.all_eq_true.mp q i (List.mem_range.mpr (by omega))] at ei; cases ei
    obtain ⟨hp, g, d, tk, os⟩ := s
    cases neg
    · rw [if_neg Bool.false_ne_true] at go ⊢
      wp_walk using wpAny_loadPart' hl1, wpAny_loadPart' hb1
      rw [hi1, hi2]
      refine wpAny_bind (wpAny_mono ht (fun r s2 h2 => ?_) fun _ _ x => x)
      obtain ⟨hr, h2⟩ := h2
      subst hr
      cases ei : e i with
      | true =>
        have hrec := go ei s2 h2
        obtain ⟨hp2, g2, d2, tk2, os2⟩ := s2
        wp_walk
        rw [hc]
        exact ⟨plainId_quiet plain_eq_loop _, codeAny_builtin entry_eq_loop (by
          rw [Around.under_plainId plain_eq_loop _]
          exact hrec)⟩
      | false =>
        have hR := fin s2 h2
        rw [stop ei] at hR
        obtain ⟨its, its2, _, _, m, m2, _, _, hl2, hb2, z1, z2, _⟩ := hl _ h2
        have ki1 : its[((i : Nat) : Int).toNat]? = some (its[i]'(by omega)) := by simp
        have ki2 : its2[((i : Nat) : Int).toNat]? = some (its2[i]'(by omega)) := by simp
        obtain ⟨hp2, g2, d2, tk2, os2⟩ := s2
        wp_walk using wpAny_loadPart' hl2, wpAny_loadPart' hb2
        rw [ki1, ki2]
        wp_walk
        simpa using hR
    · rw [if_pos rfl] at go ⊢
      wp_walk using wpAny_loadPart' hl1, wpAny_loadPart' hb1
      rw [hi1, hi2]
      refine wpAny_bind (wpAny_mono ht (fun r s2 h2 => ?_) fun _ _ x => x)
      obtain ⟨hr, h2⟩ := h2
      subst hr
      cases ei : e i with
      | true =>
        have hrec := go ei s2 h2
        obtain ⟨hp2, g2, d2, tk2, os2⟩ := s2
        wp_walk
        rw [hc]
        exact ⟨plainId_quiet plain_eq_loop _, codeAny_builtin entry_eq_loop (by
          rw [Around.under_plainId plain_eq_loop _]
          exact hrec)⟩
      | false =>
        have hR := fin s2 h2
        rw [stop ei] at hR
        obtain ⟨its, its2, _, _, m, m2, _, _, hl2, hb2, z1, z2, _⟩ := hl _ h2
        have ki1 : its[((i : Nat) : Int).toNat]? = some (its[i]'(by omega)) := by simp
        have ki2 : its2[((i : Nat) : Int).toNat]? = some (its2[i]'(by omega)) := by simp
        obtain ⟨hp2, g2, d2, tk2, os2⟩ := s2
        wp_walk using wpAny_loadPart' hl2, wpAny_loadPart' hb2
        rw [ki1, ki2]
        wp_walk
        simpa using hR
set_option maxHeartbeats 2000000 in
theorem list_cmp (neg : Bool) (l b : Addr) (N : Nat) (e : Nat → Bool) (I : Shared → Prop) (hl : ListB prog w A (fun e s' => R (.error e) s') l b N e I)
    (fin : ∀ s, I s → R (.ok (.ret (.bool ((List.range N).all e != neg)))) s) {s : Shared} (h : I s) :
    wpAny (model prog w) A.in1 ((if neg then Builtin.«list.__ne__» else Builtin.«list.__eq__») ⟨[.ref l, .ref b], []⟩) (GQ.FinOf prog w A R) (fun e s' => R (.error e) s') s := by
  obtain ⟨items, items2, dd, dd2, n, n2, sl, sl2, hl1, hb1, hs1, hs2, _⟩ := hl _ h
  have hrec := list_loop (A := A) (R := R) neg l b N e I hl fin _ 0 rfl (Nat.zero_le _) (fun j hj => absurd hj (Nat.not_lt_zero j)) s h
  obtain ⟨hp, g, d, tk, os⟩ := s
  have f3 := AutoSeq1.sub_list_list
  have hne : ¬ (items.size != items2.size) = true := by simp [hs1, hs2]
  cases neg
  · rw [if_neg Bool.false_ne_true] at hrec ⊢
    wp_walk using wpAny_loadPart' hl1, wpAny_loadPart' hb1
    exact ⟨plainId_quiet plain_eq_loop _, codeAny_builtin entry_eq_loop (by
      rw [Around.under_plainId plain_eq_loop _]
      exact hrec)⟩
  · rw [if_pos rfl] at hrec ⊢
    wp_walk using wpAny_loadPart' hl1, wpAny_loadPart' hb1
    exact ⟨plainId_quiet plain_eq_loop _, codeAny_builtin entry_eq_loop (by
      rw [Around.under_plainId plain_eq_loop _]
      exact hrec)⟩
set_option maxHeartbeats 2000000 in
theorem list_len (neg : Bool) (l b : Addr) (items items2 : Array Value) (dd dd2 : Option Addr) (n n2 : Nat) (sl sl2 : Array (Option Value)) (hne : (items.size != items2.size) = true) {s : Shared} (hl1 : s.heap.get? l = some { cls := .type "list", dict := dd, data := .seq items n, slots := sl }) (hb1 : s.heap.get? b = some { cls := .type "list", dict := dd2, data := .seq items2 n2, slots := sl2 })
    (fin : R (.ok (.ret (.bool neg))) s) :
    wpAny (model prog w) A.in1 ((if neg then Builtin.«list.__ne__» else Builtin.«list.__eq__») ⟨[.ref l, .ref b], []⟩) (GQ.FinOf prog w A R) (fun e s' => R (.error e) s') s := by
  obtain ⟨hp, g, d, tk, os⟩ := s
  have f3 := AutoSeq1.sub_list_list
  cases neg
  · rw [if_neg Bool.false_ne_true]
    wp_walk using wpAny_loadPart' hl1, wpAny_loadPart' hb1
    exact fin
  · rw [if_pos rfl]
    wp_walk using wpAny_loadPart' hl1, wpAny_loadPart' hb1
    exact fin
set_option maxHeartbeats 2000000 in
theorem tup_cmp (neg : Bool) (l b : Addr) (items items2 : Array Value) (n n2 : Nat) (dd dd2 : Option Addr) (sl sl2 : Array (Option Value)) (e : Nat → Bool) (I : Shared → Prop)
    (turn : ∀ i (h1 : i < items.size) (h2 : i < items2.size) s, I s → wpAny (model prog w) A.in1 (eqBool items[i] items2[i]) (fun r s' => r = e i ∧ I s') (fun e s' => R (.error e) s') s)
    (fin : ∀ s, I s → R (.ok (.ret (.bool (((List.range (min items.size items2.size)).all e && items.size == items2.size) != neg)))) s) {s : Shared} (hl1 : s.heap.get? l = some { cls := .type "tuple", dict := dd, data := .seq items n, slots := sl }) (hb1 : s.heap.get? b = some { cls := .type "tuple", dict := dd2, data := .seq items2 n2, slots := sl2 }) (h : I s) :
    wpAny (model prog w) A.in1 ((if neg then Builtin.«tuple.__ne__» else Builtin.«tuple.__eq__») ⟨[.ref l, .ref b], []⟩) (GQ.FinOf prog w A R) (fun e s' => R (.error e) s') s := by
  have f2 := AutoSeq1.sub_tuple_tuple
  have hZ : (items.toList.zip items2.toList).length = min items.size items2.size := by simp
  have h0 := h
  have stop : ∀ i, i < min items.size items2.size → e i = false → (List.range (min items.size items2.size)).all e = false := fun i hi ei => by
    cases q : (List.range (min items.size items2.size)).all e with
    | false => rfl
    | true => rw [List.all_eq_true.mp q i (List.mem_range.mpr hi)] at ei; cases ei
  have turn' : ∀ (y x : Value) (rest : List (Value × Value)) (i : Nat), (y, x) :: rest = (items.toList.zip items2.toList).drop i → i < min items.size items2.size ∧ rest = (items.toList.zip items2.toList).drop (i + 1) ∧ ∀ s, I s → wpAny (model prog w) A.in1 (eqBool y x) (fun r s' => r = e i ∧ I s') (fun e s' => R (.error e) s') s := fun y x rest i hz => by
    have hlt : i < (items.toList.zip items2.toList).length := by
      rcases Nat.lt_or_ge i (items.toList.zip items2.toList).length with h' | h'
      · exact h'
      · rw [List.drop_of_length_le h'] at hz; cases hz
    have hm : i < min items.size items2.size := hZ ▸ hlt
    have h1 : i < items.size := Nat.lt_of_lt_of_le hm (Nat.min_le_left _ _)
    have h2 : i < items2.size := Nat.lt_of_lt_of_le hm (Nat.min_le_right _ _)
    rw [List.drop_eq_getElem_cons hlt] at hz
    injection hz with hyx hrest
    have hy : y = items[i] := by have := congrArg Prod.fst hyx; simpa using this
    have hx : x = items2[i] := by have := congrArg Prod.snd hyx; simpa using this
    subst hy hx
    exact ⟨hm, hrest, turn i h1 h2⟩
  have last : ∀ i, [] = (items.toList.zip items2.toList).drop i → (∀ j, j < i → j < min items.size items2.size → e j = true) → (List.range (min items.size items2.size)).all e = true := fun i hz he => by
    have hge : min items.size items2.size ≤ i := by
      rcases Nat.lt_or_ge i (items.toList.zip items2.toList).length with h' | h'
      · rw [List.drop_eq_getElem_cons h'] at hz; cases hz
      · exact hZ ▸ h'
    rw [List.all_eq_true]
    exact fun j hj => he j (Nat.lt_of_lt_of_le (List.mem_range.mp hj) hge) (List.mem_range.mp hj)
  have grow : ∀ i, e i = true → (∀ j, j < i → j < min items.size items2.size → e j = true) → ∀ j, j < i + 1 → j < min items.size items2.size → e j = true := fun i ei he j hj hm => by
    rcases Nat.lt_or_ge j i with g | g
    · exact he j g hm
    · have : j = i := by omega
      rw [this]; exact ei
  obtain ⟨hp, g, d, tk, os⟩ := s
  cases neg
  · rw [if_neg Bool.false_ne_true]
    wp_walk using wpAny_loadPart' hl1, wpAny_loadPart' hb1, wpAny_forIn_list _ (fun rest b s' => b.1 = none ∧ I s' ∧ ∃ i, rest = (items.toList.zip items2.toList).drop i ∧ ∀ j, j < i → j < min items.size items2.size → e j = true) _
    case turn =>
      rintro ⟨y, x⟩ rest b s' ⟨hb', hI, i, hz, he⟩
      obtain ⟨hm, hrest, tr⟩ := turn' y x rest i hz
      refine wpAny_bind (wpAny_mono (tr s' hI) (fun r s2 q2 => ?_) fun _ _ x => x)
      obtain ⟨hr, q2⟩ := q2
      subst hr
      cases ei : e i with
      | true =>
        wp_walk
        exact ⟨rfl, q2, i + 1, hrest, grow i ei he⟩
      | false =>
        have hR := fin s2 q2
        rw [stop i hm ei] at hR
        obtain ⟨hp2, g2, d2, tk2, os2⟩ := s2
        wp_walk
        simpa using hR
    case fin =>
      rintro ⟨b1, b2⟩ s' ⟨hb', hI, i, hz, he⟩
      simp only at hb'
      subst hb'
      have hR := fin s' hI
      rw [last i hz he] at hR
      wp_walk
      simpa [Builtin.Tuple.tupleCompareSizes, bne] using hR
    case h =>
      exact ⟨rfl, h0, 0, rfl, fun j hj => absurd hj (Nat.not_lt_zero j)⟩
  · rw [if_pos rfl]
    wp_walk using wpAny_loadPart' hl1, wpAny_loadPart' hb1, wpAny_forIn_list _ (fun rest b s' => b.1 = none ∧ I s' ∧ ∃ i, rest = (items.toList.zip items2.toList).drop i ∧ ∀ j, j < i → j < min items.size items2.size → e j = true) _
    case turn =>
      rintro ⟨y, x⟩ rest b s' ⟨hb', hI, i, hz, he⟩
      obtain ⟨hm, hrest, tr⟩ := turn' y x rest i hz
      refine wpAny_bind (wpAny_mono (tr s' hI) (fun r s2 q2 => ?_) fun _ _ x => x)
      obtain ⟨hr, q2⟩ := q2
      subst hr
      cases ei : e i with
      | true =>
        wp_walk
        exact ⟨rfl, q2, i + 1, hrest, grow i ei he⟩
      | false =>
        have hR := fin s2 q2
        rw [stop i hm ei] at hR
        obtain ⟨hp2, g2, d2, tk2, os2⟩ := s2
        wp_walk
        simpa using hR
    case fin =>
      rintro ⟨b1, b2⟩ s' ⟨hb', hI, i, hz, he⟩
      simp only at hb'
      subst hb'
      have hR := fin s' hI
      rw [last i hz he] at hR
      wp_walk
      simpa [Builtin.Tuple.tupleCompareSizes, bne] using hR
    case h =>
      exact ⟨rfl, h0, 0, rfl, fun j hj => absurd hj (Nat.not_lt_zero j)⟩

section
variable {s : Shared}
theorem rc_list (neg : Bool) {l b : Addr} {N : Nat} {Q : Value → Shared → Prop} (hu : A.units < cLine) (e : Nat → Bool) (I : Shared → Prop) (hl : ListB prog w A E l b N e I)
    (fin : ∀ s, I s → Q (.bool ((List.range N).all e != neg)) s) (h : I s) : wpAny (model prog w) A (richCompare (if neg then .NotEq else .Eq) (.ref l) (.ref b)) Q E s := by
  obtain ⟨items, items2, dd, dd2, n, n2, sl, sl2, hl1, hb1, _, _, _⟩ := hl _ h
  cases neg
  · rw [if_neg Bool.false_ne_true]
    refine wpAny_richCompare_same_room (op := .Eq) ⟨_, hl1, rfl⟩ ⟨_, hb1, rfl⟩ F.slot_list_eq (GQ.call_here F.slot_list_eq ⟨_, hl1, rfl⟩ F.entry_list_eq (F.args_list_eq_2 _ _) ?_) hu
    exact list_cmp (R := wants (fun v s' => v ≠ .notImplemented ∧ Q v s') E) false l b N e I hl (fun s' q => ⟨(fun x => nomatch x), fin s' q⟩) h
  · rw [if_pos rfl]
    refine wpAny_richCompare_same_room (op := .NotEq) ⟨_, hl1, rfl⟩ ⟨_, hb1, rfl⟩ F.slot_list_ne (GQ.call_here F.slot_list_ne ⟨_, hl1, rfl⟩ F.entry_list_ne (F.args_list_ne_2 _ _) ?_) hu
    exact list_cmp (R := wants (fun v s' => v ≠ .notImplemented ∧ Q v s') E) true l b N e I hl (fun s' q => ⟨(fun x => nomatch x), fin s' q⟩) h
theorem rc_list_len (neg : Bool) {l b : Addr} {items items2 : Array Value} {Q : Value → Shared → Prop} (hu : A.units < cLine) (hl : s.heap.IsList l items) (hb : s.heap.IsList b items2) (hne : (items.size != items2.size) = true) (fin : Q (.bool neg) s) :
    wpAny (model prog w) A (richCompare (if neg then .NotEq else .Eq) (.ref l) (.ref b)) Q E s := by
  obtain ⟨⟨cls, dd, data, sl⟩, ho, hc, n, hd⟩ := id hl
  obtain ⟨⟨cls2, dd2, data2, sl2⟩, ho2, hc2, n2, hd2⟩ := id hb
  simp only at hc hd hc2 hd2
  subst hc hd hc2 hd2
  cases neg
  · rw [if_neg Bool.false_ne_true]
    refine wpAny_richCompare_same_room (op := .Eq) ⟨_, ho, rfl⟩ ⟨_, ho2, rfl⟩ F.slot_list_eq (GQ.call_here F.slot_list_eq ⟨_, ho, rfl⟩ F.entry_list_eq (F.args_list_eq_2 _ _) ?_) hu
    exact list_len (R := wants (fun v s' => v ≠ .notImplemented ∧ Q v s') E) false l b items items2 dd dd2 n n2 sl sl2 hne ho ho2 ⟨(fun x => nomatch x), fin⟩
  · rw [if_pos rfl]
    refine wpAny_richCompare_same_room (op := .NotEq) ⟨_, ho, rfl⟩ ⟨_, ho2, rfl⟩ F.slot_list_ne (GQ.call_here F.slot_list_ne ⟨_, ho, rfl⟩ F.entry_list_ne (F.args_list_ne_2 _ _) ?_) hu
    exact list_len (R := wants (fun v s' => v ≠ .notImplemented ∧ Q v s') E) true l b items items2 dd dd2 n n2 sl sl2 hne ho ho2 ⟨(fun x => nomatch x), fin⟩
theorem rc_tup (neg : Bool) {l b : Addr} {items items2 : Array Value} {Q : Value → Shared → Prop} (hu : A.units < cLine) (e : Nat → Bool) (I : Shared → Prop) (hl : s.heap.IsTuple l items) (hb : s.heap.IsTuple b items2)
    (turn : ∀ i (h1 : i < items.size) (h2 : i < items2.size) s, I s → wpAny (model prog w) A.in1 (eqBool items[i] items2[i]) (fun r s' => r = e i ∧ I s') E s)
    (fin : ∀ s, I s → Q (.bool (((List.range (min items.size items2.size)).all e && items.size == items2.size) != neg)) s) (h : I s) : wpAny (model prog w) A (richCompare (if neg then .NotEq else .Eq) (.ref l) (.ref b)) Q E s := by
  obtain ⟨⟨cls, dd, data, sl⟩, ho, hc, n, hd⟩ := id hl
  obtain ⟨⟨cls2, dd2, data2, sl2⟩, ho2, hc2, n2, hd2⟩ := id hb
  simp only at hc hd hc2 hd2
  subst hc hd hc2 hd2
  cases neg
  · rw [if_neg Bool.false_ne_true]
    refine wpAny_richCompare_same_room (op := .Eq) ⟨_, ho, rfl⟩ ⟨_, ho2, rfl⟩ F.slot_tuple_eq (GQ.call_here F.slot_tuple_eq ⟨_, ho, rfl⟩ F.entry_tuple_eq (F.args_tuple_eq_2 _ _) ?_) hu
    exact tup_cmp (R := wants (fun v s' => v ≠ .notImplemented ∧ Q v s') E) false l b items items2 n n2 dd dd2 sl sl2 e I turn (fun s' q => ⟨(fun x => nomatch x), fin s' q⟩) ho ho2 h
  · rw [if_pos rfl]
    refine wpAny_richCompare_same_room (op := .NotEq) ⟨_, ho, rfl⟩ ⟨_, ho2, rfl⟩ F.slot_tuple_ne (GQ.call_here F.slot_tuple_ne ⟨_, ho, rfl⟩ F.entry_tuple_ne (F.args_tuple_ne_2 _ _) ?_) hu
    exact tup_cmp (R := wants (fun v s' => v ≠ .notImplemented ∧ Q v s') E) true l b items items2 n n2 dd dd2 sl sl2 e I turn (fun s' q => ⟨(fun x => nomatch x), fin s' q⟩) ho ho2 h
end
end
end TPQ
namespace TPQ
open PySem PySem.Spec PyProof.Rows L2
/-- how two values compare, by the abstract heap: with what outcome -/
abbrev EqF := V → V → Hp → Bool → Prop
def MonF (D : EqF) : Prop := ∀ x y b H H', L2.Ext H H' → D x y H b → D x y H' b
/-- ==, within a builtin -/
def EqB (X : Cx) (n : Nat) (D : EqF) : Prop :=
  ∀ (A : Around) (pins : List (Addr × Obj)) (s : Shared) (σ : L2.St) (H : Hp) (x y : V) (u v : Value) (b : Bool), Sub X n A → Inv X pins σ H s → RelV x u → RelV y v → D x y H b →
    wpAny (model X.prog X.w) A (eqBool u v) (fun r s' => r = b ∧ ∃ H', Inv X pins σ H' s' ∧ L2.Ext H H') X.xe s
/-- == and !=, as operators -/
def RcB (X : Cx) (n : Nat) (neg : Bool) (D : EqF) : Prop :=
  ∀ (A : Around) (pins : List (Addr × Obj)) (s : Shared) (σ : L2.St) (H : Hp) (x y : V) (u v : Value) (b : Bool), Sub X n A → Inv X pins σ H s → RelV x u → RelV y v → D x y H b →
    wpAny (model X.prog X.w) A (richCompare (if neg then .NotEq else .Eq) u v) (fun r s' => r = .bool (b != neg) ∧ ∃ H', Inv X pins σ H' s' ∧ L2.Ext H H') X.xe s
section
variable {X : Cx} {n m : Nat} {D D' : EqF}
theorem EqB.mono (h : EqB X n D) (hn : n ≤ m) : EqB X m D := fun A pins s σ H x y u v b sb => h A pins s σ H x y u v b (sb.mono hn)
theorem RcB.mono {neg : Bool} (h : RcB X n neg D) (hn : n ≤ m) : RcB X m neg D := fun A pins s σ H x y u v b sb => h A pins s σ H x y u v b (sb.mono hn)
theorem EqB.imp (h : EqB X n D) (hd : ∀ x y H b, D' x y H b → D x y H b) : EqB X n D' := fun A pins s σ H x y u v b sb I rx ry d => h A pins s σ H x y u v b sb I rx ry (hd x y H b d)
theorem RcB.imp {neg : Bool} (h : RcB X n neg D) (hd : ∀ x y H b, D' x y H b → D x y H b) : RcB X n neg D' := fun A pins s σ H x y u v b sb I rx ry d => h A pins s σ H x y u v b sb I rx ry (hd x y H b d)
/-- flat values -/
def FFlat : EqF := fun x y _ b => flatV x = true ∧ flatV y = true ∧ eqV x y = b
theorem eqB_flat : EqB X 0 FFlat := by
  intro A pins s σ H x y u v b sb I rx ry d
  obtain ⟨fx, fy, e⟩ := d
  have q := eqAt_V (A := A) (s := s) rx ry fx fy
  rw [e] at q
  exact q X.prog X.w X.xe _ ⟨rfl, H, I, Ext.rfl'⟩
/-- pair by pair -/
inductive PrB (D : EqF) : List V → List V → Hp → List Bool → Prop
  | nil {xs ys : List V} {H : Hp} (h : xs = [] ∨ ys = []) : PrB D xs ys H []
  | cons {x y : V} {xs ys : List V} {H : Hp} {b : Bool} {bs : List Bool} (h : D x y H b) (r : PrB D xs ys H bs) : PrB D (x :: xs) (y :: ys) H (b :: bs)
theorem PrB.mon (hD : MonF D) {H H' : Hp} (e : L2.Ext H H') : ∀ {xs ys : List V} {bs : List Bool}, PrB D xs ys H bs → PrB D xs ys H' bs
  | _, _, _, .nil h => .nil h
  | _, _, _, .cons h r => .cons (hD _ _ _ _ _ e h) (r.mon hD e)
theorem PrB.len {H : Hp} : ∀ {xs ys : List V} {bs : List Bool}, PrB D xs ys H bs → bs.length = min xs.length ys.length
  | _, _, _, .nil h => by rcases h with rfl | rfl <;> simp
  | _, _, _, .cons h r => by have := r.len; simp only [List.length_cons]; omega
theorem PrB.get {H : Hp} : ∀ {xs ys : List V} {bs : List Bool} (i : Nat) {x y : V}, PrB D xs ys H bs → xs[i]? = some x → ys[i]? = some y → D x y H (bs.getD i false)
  | _, _, _, i, _, _, .nil h, h1, h2 => by rcases h with rfl | rfl <;> simp at h1 h2
  | _, _, _, 0, _, _, .cons h r, h1, h2 => by
    simp at h1 h2
    subst h1 h2
    exact h
  | _, _, _, i + 1, _, _, .cons h r, h1, h2 => by
    simp at h1 h2
    have := r.get i h1 h2
    simpa using this
theorem all_range : ∀ bs : List Bool, (List.range bs.length).all (fun i => bs.getD i false) = bs.all id
  | [] => rfl
  | b :: bs => by
    rw [List.length_cons, List.range_succ_eq_map, List.all_cons, List.all_map, List.all_cons, ← all_range bs]
    rfl
def LoopB (X : Cx) (pins : List (Addr × Obj)) (σ : L2.St) (H : Hp) (s' : Shared) : Prop := ∃ H', Inv X pins σ H' s' ∧ L2.Ext H H'
theorem turnB (hD : MonF D) (h : EqB X n D) {A : Around} (sb : Sub X (n + 1) A) {pins : List (Addr × Obj)} {σ : L2.St} {H : Hp} {xs ys : List V} {bs : List Bool} {its its2 : List Value} (p : PrB D xs ys H bs) (r : Vals xs its) (r2 : Vals ys its2)
    (i : Nat) (h1 : i < its.toArray.size) (h2 : i < its2.toArray.size) (s' : Shared) (l : LoopB X pins σ H s') :
    wpAny (model X.prog X.w) A.in1 (eqBool its.toArray[i] its2.toArray[i]) (fun r s2 => r = bs.getD i false ∧ LoopB X pins σ H s2) X.xe s' := by
  obtain ⟨H1, I1, e1⟩ := l
  have g1 : its[i]? = some its.toArray[i] := by
    have h1' : i < its.length := by simpa using h1
    rw [List.getElem?_eq_getElem h1'] <;> simp
  have g2 : its2[i]? = some its2.toArray[i] := by
    have h2' : i < its2.length := by simpa using h2
    rw [List.getElem?_eq_getElem h2'] <;> simp
  have k1 : i < xs.length := by rw [r.length]; simpa using h1
  have k2 : i < ys.length := by rw [r2.length]; simpa using h2
  obtain ⟨u, hu, ru⟩ := r.get (List.getElem?_eq_getElem k1)
  obtain ⟨v, hv, rv⟩ := r2.get (List.getElem?_eq_getElem k2)
  rw [g1] at hu
  rw [g2] at hv
  rw [Option.some.inj hu, Option.some.inj hv]
  refine wpAny_mono (h A.in1 pins s' σ H1 _ _ u v _ sb.in1 I1 ru rv ((p.mon hD e1).get i (List.getElem?_eq_getElem k1) (List.getElem?_eq_getElem k2))) (fun r s2 q => ?_) fun _ _ x => x
  obtain ⟨hr, H2, I2, e2⟩ := q
  exact ⟨hr, H2, I2, e1.trans e2⟩
def FList (D : EqF) : EqF := fun x y H b => ∃ a c xs ys bs, x = .ref a ∧ y = .ref c ∧ H a = some (.lst xs) ∧ H c = some (.lst ys) ∧ PrB D xs ys H bs ∧ b = (bs.all id && decide (xs.length = ys.length))
def FTup (K : PySem.W.Frag) (D : EqF) : EqF := fun x y H b => ∃ a c xs ys bs, x = .ref a ∧ y = .ref c ∧ SqT K H a xs ∧ SqT K H c ys ∧ PrB D xs ys H bs ∧ b = (bs.all id && decide (xs.length = ys.length))
theorem mon_list (hD : MonF D) : MonF (FList D) := fun x y b H H' e ⟨a, c, xs, ys, bs, hx, hy, h1, h2, p, hb⟩ => ⟨a, c, xs, ys, bs, hx, hy, e _ _ h1, e _ _ h2, p.mon hD e, hb⟩
theorem mon_tup {K : PySem.W.Frag} (hD : MonF D) : MonF (FTup K D) := fun x y b H H' e ⟨a, c, xs, ys, bs, hx, hy, h1, h2, p, hb⟩ => ⟨a, c, xs, ys, bs, hx, hy, h1.ext e, h2.ext e, p.mon hD e, hb⟩
theorem rcB_list (neg : Bool) (hD : MonF D) (h : EqB X n D) : RcB X (n + 1) neg (FList D) := by
  intro A pins s σ H x y u v b sb I rx ry d
  obtain ⟨a, c, xs, ys, bs, rfl, rfl, ha, hc, p, rfl⟩ := d
  cases rx
  cases ry
  by_cases hn : xs.length = ys.length
  · have hl : bs.length = xs.length := by have := p.len; omega
    rw [decide_eq_true hn, Bool.and_true]
    refine rc_list neg (N := xs.length) sb.room.units0 (fun i => bs.getD i false) (LoopB X pins σ H) (fun s' q => ?_) (fun s' q => ⟨?_, q⟩) ⟨H, I, Ext.rfl'⟩
    · obtain ⟨H1, I1, e1⟩ := id q
      obtain ⟨z, its, k, r, e⟩ := I1.hok a _ (e1 _ _ ha)
      obtain ⟨z2, its2, k2, r2, e2⟩ := I1.hok c _ (e1 _ _ hc)
      exact ⟨its.toArray, its2.toArray, _, _, k, k2, _, _, e, e2, by rw [List.size_toArray, ← r.length], by rw [List.size_toArray, ← r2.length, ← hn], fun i h1 h2 => turnB hD h sb p r r2 i h1 h2 s' q⟩
    · rw [← hl, all_range]
  · rw [decide_eq_false hn, Bool.and_false]
    obtain ⟨z, its, k, r, e⟩ := I.hok a _ ha
    obtain ⟨z2, its2, k2, r2, e2⟩ := I.hok c _ hc
    refine rc_list_len neg sb.room.units0 (items := its.toArray) (items2 := its2.toArray) ⟨_, e, rfl, _, rfl⟩ ⟨_, e2, rfl, _, rfl⟩ ?_ ⟨by simp, H, I, Ext.rfl'⟩
    rw [List.size_toArray, List.size_toArray, ← r.length, ← r2.length]
    simpa using hn
theorem rcB_tup (neg : Bool) (hD : MonF D) (h : EqB X n D) : RcB X (n + 1) neg (FTup X.K D) := by
  intro A pins s σ H x y u v b sb I rx ry d
  obtain ⟨a, c, xs, ys, bs, rfl, rfl, ha, hc, p, rfl⟩ := d
  cases rx
  cases ry
  obtain ⟨its, r, e, z⟩ := I.tuple ha
  obtain ⟨its2, r2, e2, z2⟩ := I.tuple hc
  refine rc_tup neg sb.room.units0 (fun i => bs.getD i false) (LoopB X pins σ H) e e2 (fun i h1 h2 s' q => turnB hD h sb p r r2 i h1 h2 s' q) (fun s' q => ⟨?_, q⟩) ⟨H, I, Ext.rfl'⟩
  have hl := p.len
  have e3 : min its.toArray.size its2.toArray.size = bs.length := by rw [List.size_toArray, List.size_toArray, ← r.length, ← r2.length, hl]
  rw [e3, all_range, List.size_toArray, List.size_toArray, ← r.length, ← r2.length]
  rfl
/-- instances of the class at C with the text's own == : R tells the outcome -/
def FIns (C : Addr) (R : Addr → Addr → Hp → Bool → Prop) : EqF := fun x y H b => ∃ a c dx dy fs gs, x = .ref a ∧ y = .ref c ∧ H a = some (.ins C dx fs) ∧ H c = some (.ins C dy gs) ∧ R a c H b
theorem mon_ins {C : Addr} {R : Addr → Addr → Hp → Bool → Prop} (hR : ∀ a c b H H', L2.Ext H H' → R a c H b → R a c H' b) : MonF (FIns C R) := fun x y b H H' e ⟨a, c, dx, dy, fs, gs, hx, hy, h1, h2, r⟩ => ⟨a, c, dx, dy, fs, gs, hx, hy, e _ _ h1, e _ _ h2, hR a c b H H' e r⟩
def spEqB (R : Addr → Addr → Hp → Bool → Prop) : Sp := fun vs H Q _ => ∃ a c b, vs = [.ref a, .ref c] ∧ R a c H b ∧ ∀ H', L2.Ext H H' → Q (.bl b) H'
theorem rcB_ins {CX : CXT} {C f : Addr} {fd : FuncData} {ps : List Str} {R : Addr → Addr → Hp → Bool → Prop} {E : XK} (F : FnOk X.prog X.w X.K X.mg X.base CX n f fd ps (spEqB R))
    (hs : PySem.W.findIn X.K (.ref C) "__eq__" = some (some (.ref f))) (hf : PySem.W.isFn X.K (.ref f) = true) (hb : Binds X.K fd ps []) (hx : Passes CX X E) : RcB X n false (FIns C R) := by
  intro A pins s σ H x y u v b sb I rx ry d
  obtain ⟨a, c, dx, dy, fs, gs, rfl, rfl, ha, hc, hr⟩ := d
  cases rx
  cases ry
  obtain ⟨mA, J, _⟩ := ins_get I.hok ha
  obtain ⟨mB, J', _⟩ := ins_get I.hok hc
  obtain ⟨od, J, _⟩ := J.look
  obtain ⟨od', J', _⟩ := J'.look
  obtain ⟨m, hF⟩ := I.fr
  rw [if_neg Bool.false_ne_true]
  refine PySem.W.cmp_K (op := .Eq) (tb := .ref C) sb.room.units0 hF I.ok.mod.kin J J'.type (by simp [PySem.W.notFirst]) hs hf ?_
  have hsp : spEqB R [.ref a, .ref c] H (fun v H' => v = .bl b ∧ L2.Ext H H') E := ⟨a, c, b, rfl, hr, fun H' e => ⟨rfl, e⟩⟩
  have e0 : Env0 X.prog X.w X.K X.mg X.base A X.stack s H := by
    have e := I.env0
    exact ⟨by rw [sb.fr]; exact e.frames, e.mod, e.bs, e.bsz, e.funs, e.frf, e.hok, e.bare⟩
  have hl := F.len _ _ _ _ hsp
  have r2 : Vals [V.ref a, V.ref c] [Value.ref a, Value.ref c] := .cons rfl (.cons rfl .nil)
  refine wpAny_call (codeAny_mono (F.run A X.stack s H ⟨[.ref a, .ref c], []⟩ [.ref a, .ref c] [.ref a, .ref c] _ E sb.room e0 (by
    have := hb s [.ref a, .ref c] I.kIn (by simpa using hl)
    simpa using this) r2 hsp) fun r s' hq => ?_)
  cases r with
  | error e => exact hx pins σ H s e s' I hq
  | ok fl =>
    cases fl with
    | ret w =>
      obtain ⟨z, H', I', rz, ez, ex⟩ := I.after hq
      subst ez
      cases rz
      exact ⟨by simp, H', I', ex⟩
    | next => exact False.elim hq
    | brk => exact False.elim hq
    | cont => exact False.elim hq
/-- within a builtin the same object is equal to itself: D must say so too -/
theorem RcB.eqB (h : RcB X n false D) (hr : ∀ x y H b, D x y H b → ∃ a c, x = .ref a ∧ y = .ref c) (hs : ∀ a H b, D (.ref a) (.ref a) H b → b = true) : EqB X n D := by
  intro A pins s σ H x y u v b sb I rx ry d
  obtain ⟨a, c, rfl, rfl⟩ := hr _ _ _ _ d
  cases rx
  cases ry
  by_cases hab : a = c
  · subst hab
    rw [hs _ _ _ d]
    exact SeqAt.EqAt.same (A := A) (s := s) (.ref a) X.prog X.w X.xe _ ⟨rfl, H, I, Ext.rfl'⟩
  · refine GQ.eqBool_refG hab (wpAny_mono (h A pins s σ H (.ref a) (.ref c) _ _ b sb I rfl rfl d) (fun r s' q => ?_) fun _ _ x => x)
    obtain ⟨hr', q⟩ := q
    exact ⟨b, by rw [hr']; simp, rfl, q⟩
/-- as an expression -/
def rCmpB (neg : Bool) (D : EqF) : R2 := fun x y H Q => ∃ b, D x y H b ∧ ∀ H', L2.Ext H H' → Q (.bl (b != neg)) H'
theorem op_eqB (h : RcB X n false D) (hr : Room n X.A) : OpR X (compareOp .Eq) (rCmpB false D) := by
  intro pins s σ H x y v u Q I rx ry hq
  obtain ⟨b, d, q⟩ := hq
  show wpAny (model X.prog X.w) X.A (richCompare .Eq v u) (EP X pins σ Q) X.xe s
  refine wpAny_mono (h X.A pins s σ H x y v u b ⟨hr, rfl⟩ I rx ry d) (fun r s' z => ?_) fun _ _ x => x
  obtain ⟨hr', H', I', e⟩ := z
  subst hr'
  exact ⟨.bl (b != false), H', I', rfl, q H' e⟩
theorem op_neB (h : RcB X n true D) (hr : Room n X.A) : OpR X (compareOp .NotEq) (rCmpB true D) := by
  intro pins s σ H x y v u Q I rx ry hq
  obtain ⟨b, d, q⟩ := hq
  show wpAny (model X.prog X.w) X.A (richCompare .NotEq v u) (EP X pins σ Q) X.xe s
  refine wpAny_mono (h X.A pins s σ H x y v u b ⟨hr, rfl⟩ I rx ry d) (fun r s' z => ?_) fun _ _ x => x
  obtain ⟨hr', H', I', e⟩ := z
  subst hr'
  exact ⟨.bl (b != true), H', I', rfl, q H' e⟩
end
end TPQ

namespace TP
open PySem PySem.Spec PyProof.Rows L2 TPQ
/-! ### == of things that hold instances -/
section
variable {X : Cx} {n m : Nat} {α β γ δ : Type} [DecidableEq α] [DecidableEq β] [DecidableEq γ] [DecidableEq δ] {τ : Ty α} {υ : Ty β} {φ : Ty γ} {ψ : Ty δ}
/-- the two are equal just when the things are -/
def FT (τ : Ty α) : EqF := fun x y H b => ∃ Z a c, Same Z H ∧ τ.r Z x a ∧ τ.r Z y c ∧ b = decide (a = c)
theorem mon_FT : MonF (FT τ) := fun _ _ _ _ _ e ⟨Z, a, c, s, r1, r2, h⟩ => ⟨Z, a, c, fun p o q => e _ _ (s p o q), r1, r2, h⟩
/-- a value stands for one thing only -/
def FnI (X : Cx) (τ : Ty α) : Prop := ∀ pins σ s Z H v x y, Inv X pins σ H s → Same Z H → τ.r Z v x → τ.r Z v y → x = y
theorem fn_int : FnI X yInt := fun _ _ _ _ _ _ _ _ _ _ h g => by cases h; cases g; rfl
theorem fn_bool : FnI X yBool := fun _ _ _ _ _ _ _ _ _ _ h g => by cases h; cases g; rfl
theorem fn_str : FnI X yStr := fun _ _ _ _ _ _ _ _ _ _ h g => by have := h.1.symm.trans g.1; cases this; rfl
theorem fn_non : FnI X yNon := fun _ _ _ _ _ _ _ _ _ _ _ _ => rfl
theorem fn_opt (F : FnI X τ) : FnI X (yOpt τ) := fun pins σ s Z H v x y I sz h g => by
  cases x with
  | none =>
    cases y with
    | none => rfl
    | some b => exact absurd (show v = .non from h) g.2
  | some a =>
    cases y with
    | none => exact absurd (show v = .non from g) h.2
    | some b => rw [F pins σ s Z H v a b I sz h.1 g.1]
theorem all_fn {R : V → α → Prop} (h : ∀ v x y, R v x → R v y → x = y) : ∀ {vs : List V} {xs ys : List α}, All R vs xs → All R vs ys → xs = ys
  | _, _, _, .nil, .nil => rfl
  | _, _, _, .cons a r, .cons b t => by rw [h _ _ _ a b, all_fn h r t]
theorem vals_inj : ∀ {us : List Value} {vs ws : List V}, Vals vs us → Vals ws us → vs = ws
  | _, _, _, .nil, .nil => rfl
  | _, _, _, .cons a r, .cons b t => by rw [RelV.inj a b, vals_inj r t]
theorem sqt_fn {pins : List (Addr × Obj)} {σ : L2.St} {s : Shared} {H : Hp} {a : Addr} {vs ws : List V} (I : Inv X pins σ H s) (h : SqT X.K H a vs) (g : SqT X.K H a ws) : vs = ws := by
  obtain ⟨its, r, e, _⟩ := I.tuple h
  obtain ⟨its2, r2, e2, _⟩ := I.tuple g
  obtain ⟨o, h1, _, n, d1⟩ := e
  obtain ⟨o2, h2, _, n2, d2⟩ := e2
  rw [h1] at h2
  cases Option.some.inj h2
  rw [d1] at d2
  have e3 : its.toArray = its2.toArray := by injection d2
  have e4 : its = its2 := by simpa using e3
  subst e4
  exact vals_inj r r2
theorem fn_list (F : FnI X τ) : FnI X (yList τ) := fun pins σ s Z H v x y I sz ⟨a, vs, e, h, t, _⟩ ⟨c, ws, e2, h2, t2, _⟩ => by
  cases e
  cases e2
  rw [h] at h2
  cases Option.some.inj h2
  exact all_fn (fun v x y => F pins σ s Z H v x y I sz) t t2
theorem fn_tup (F : FnI X τ) : FnI X (yTup X.K τ) := fun pins σ s Z H v x y I sz ⟨a, vs, e, h, t, _⟩ ⟨c, ws, e2, h2, t2, _⟩ => by
  cases e
  cases e2
  cases sqt_fn I (seqT_same sz h) (seqT_same sz h2)
  exact all_fn (fun v x y => F pins σ s Z H v x y I sz) t t2
theorem fn_p2 (F : FnI X τ) (G : FnI X υ) : FnI X (yP2 X.K τ υ) := fun pins σ s Z H v x y I sz ⟨a, v1, v2, e, h, h1, h2⟩ ⟨c, w1, w2, e2, g, g1, g2⟩ => by
  cases e
  cases e2
  cases sqt_fn I (seqT_same sz h) (seqT_same sz g)
  exact Prod.ext (F pins σ s Z H _ _ _ I sz h1 g1) (G pins σ s Z H _ _ _ I sz h2 g2)
theorem fn_p3 (F : FnI X τ) (G : FnI X υ) (K' : FnI X φ) : FnI X (yP3 X.K τ υ φ) := fun pins σ s Z H v x y I sz ⟨a, v1, v2, v3, e, h, h1, h2, h3⟩ ⟨c, w1, w2, w3, e2, g, g1, g2, g3⟩ => by
  cases e
  cases e2
  cases sqt_fn I (seqT_same sz h) (seqT_same sz g)
  exact Prod.ext (F pins σ s Z H _ _ _ I sz h1 g1) (Prod.ext (G pins σ s Z H _ _ _ I sz h2 g2) (K' pins σ s Z H _ _ _ I sz h3 g3))
theorem fn_p4 (F : FnI X τ) (G : FnI X υ) (K' : FnI X φ) (L : FnI X ψ) : FnI X (yP4 X.K τ υ φ ψ) := fun pins σ s Z H v x y I sz ⟨a, v1, v2, v3, v4, e, h, h1, h2, h3, h4⟩ ⟨c, w1, w2, w3, w4, e2, g, g1, g2, g3, g4⟩ => by
  cases e
  cases e2
  cases sqt_fn I (seqT_same sz h) (seqT_same sz g)
  exact Prod.ext (F pins σ s Z H _ _ _ I sz h1 g1) (Prod.ext (G pins σ s Z H _ _ _ I sz h2 g2) (Prod.ext (K' pins σ s Z H _ _ _ I sz h3 g3) (L pins σ s Z H _ _ _ I sz h4 g4)))
/-- within a builtin the same object is equal to itself -/
theorem eqT_of (F : FnI X τ) (hr : ∀ Z v x, τ.r Z v x → ∃ a, v = .ref a) (h : RcB X n false (FT τ)) : EqB X n (FT τ) := by
  intro A pins s σ H x y u v b sb I rx ry d
  obtain ⟨Z, a, c, sz, r1, r2, hb⟩ := id d
  obtain ⟨p, rfl⟩ := hr _ _ _ r1
  obtain ⟨q, rfl⟩ := hr _ _ _ r2
  cases rx
  cases ry
  by_cases hab : p = q
  · subst hab
    have e := F pins σ s Z H _ a c I sz r1 r2
    rw [hb, decide_eq_true e]
    exact SeqAt.EqAt.same (A := A) (s := s) (.ref p) X.prog X.w X.xe _ ⟨rfl, H, I, Ext.rfl'⟩
  · refine GQ.eqBool_refG hab (wpAny_mono (h A pins s σ H (.ref p) (.ref q) _ _ b sb I rfl rfl d) (fun r s' z => ?_) fun _ _ x => x)
    obtain ⟨hr', z⟩ := z
    exact ⟨b, by rw [hr']; simp, rfl, z⟩
theorem eqT_data {d : α → PyData} {k : Nat} (E : EqD X.K τ d k) (hk : k ≤ 60) : EqB X 0 (FT τ) := by
  intro A pins s σ H x y u v b sb I rx ry ⟨Z, a, c, sz, r1, r2, hb⟩
  obtain ⟨as, w1⟩ := Dp.reads I (d a) x u (E.dp _ _ _ _ sz r1) rx
  obtain ⟨bs, w2⟩ := Dp.reads I (d c) y v (E.dp _ _ _ _ sz r2) ry
  have h1 := E.dep a
  have hu := sb.room.un
  have q := SeqAt.eqAt_reads (d a) (d c) A s u v as bs w1 w2 (E.lay _ _ _ r1) (E.lay _ _ _ r2) (by omega)
  have e : PyData.eqv (d a) (d c) = b := by
    rw [hb]
    exact Bool.eq_iff_iff.mpr ((E.eqv a c).trans decide_eq_true_iff.symm)
  rw [e] at q
  exact q X.prog X.w X.xe _ ⟨rfl, H, I, Ext.rfl'⟩
/-- two lists of things, pair by pair -/
theorem prB {Z H : Hp} (sz : Same Z H) : ∀ {vs ws : List V} {xs ys : List α}, All (τ.r Z) vs xs → All (τ.r Z) ws ys → ∃ bs, PrB (FT τ) vs ws H bs ∧ decide (xs = ys) = (bs.all id && decide (vs.length = ws.length))
  | _, _, _, _, .nil, .nil => ⟨[], .nil (.inl rfl), by simp⟩
  | _, _, _, _, .nil, .cons _ _ => ⟨[], .nil (.inl rfl), by simp⟩
  | _, _, _, _, .cons _ _, .nil => ⟨[], .nil (.inr rfl), by simp⟩
  | v :: vs, w :: ws, x :: xs, y :: ys, .cons a r, .cons b t => by
    obtain ⟨bs, p, e⟩ := prB sz r t
    refine ⟨decide (x = y) :: bs, .cons ⟨Z, x, y, sz, a, b, rfl⟩ p, ?_⟩
    rw [List.all_cons, Bool.and_assoc]
    have e2 : decide (x :: xs = y :: ys) = (decide (x = y) && decide (xs = ys)) := by simp
    rw [e2, e]
    simp
theorem rcT_tup (neg : Bool) (E : EqB X n (FT τ)) : RcB X (n + 1) neg (FT (yTup X.K τ)) :=
  (rcB_tup neg mon_FT E).imp fun x y H b ⟨Z, xs, ys, sz, ⟨a, vs, e, h, t, _⟩, ⟨c, ws, e2, h2, t2, _⟩, hb⟩ => by
    obtain ⟨bs, p, q⟩ := prB sz t t2
    exact ⟨a, c, vs, ws, bs, e, e2, seqT_same sz h, seqT_same sz h2, p, hb.trans q⟩
theorem rcT_list (neg : Bool) (E : EqB X n (FT τ)) : RcB X (n + 1) neg (FT (yList τ)) :=
  (rcB_list neg mon_FT E).imp fun x y H b ⟨Z, xs, ys, sz, ⟨a, vs, e, h, t, _⟩, ⟨c, ws, e2, h2, t2, _⟩, hb⟩ => by
    obtain ⟨bs, p, q⟩ := prB sz t t2
    exact ⟨a, c, vs, ws, bs, e, e2, sz _ _ h, sz _ _ h2, p, hb.trans q⟩
/-- lists of one's own too -/
def FL (τ : Ty α) : EqF := fun x y H b => ∃ Z xs ys p q vs ws, Same Z H ∧ x = .ref p ∧ y = .ref q ∧ H p = some (.lst vs) ∧ H q = some (.lst ws) ∧ All (τ.r Z) vs xs ∧ All (τ.r Z) ws ys ∧ b = decide (xs = ys)
theorem rcT_own (neg : Bool) (E : EqB X n (FT τ)) : RcB X (n + 1) neg (FL τ) :=
  (rcB_list neg mon_FT E).imp fun x y H b ⟨Z, xs, ys, a, c, vs, ws, sz, e, e2, h, h2, t, t2, hb⟩ => by
    obtain ⟨bs, p, q⟩ := prB sz t t2
    exact ⟨a, c, vs, ws, bs, e, e2, h, h2, p, hb.trans q⟩
theorem eqT_tup (F : FnI X τ) (E : EqB X n (FT τ)) : EqB X (n + 1) (FT (yTup X.K τ)) := eqT_of (fn_tup F) (fun _ _ _ ⟨a, _, e, _⟩ => ⟨a, e⟩) (rcT_tup false E)
theorem eqT_list (F : FnI X τ) (E : EqB X n (FT τ)) : EqB X (n + 1) (FT (yList τ)) := eqT_of (fn_list F) (fun _ _ _ ⟨a, _, e, _⟩ => ⟨a, e⟩) (rcT_list false E)
def Or2 (D D' : EqF) : EqF := fun x y H b => D x y H b ∨ D' x y H b
theorem mon_or {D D' : EqF} (h : MonF D) (g : MonF D') : MonF (Or2 D D') := fun _ _ _ _ _ e d => d.imp (h _ _ _ _ _ e) (g _ _ _ _ _ e)
theorem eqB_or {D D' : EqF} (h : EqB X n D) (g : EqB X m D') : EqB X (max n m) (Or2 D D') := fun A pins s σ H x y u v b sb I rx ry d => by
  rcases d with d | d
  · exact h A pins s σ H x y u v b (sb.mono (Nat.le_max_left _ _)) I rx ry d
  · exact g A pins s σ H x y u v b (sb.mono (Nat.le_max_right _ _)) I rx ry d
theorem rcT_p2 (neg : Bool) (E : EqB X n (FT τ)) (F : EqB X m (FT υ)) : RcB X (max n m + 1) neg (FT (yP2 X.K τ υ)) :=
  (rcB_tup neg (mon_or mon_FT mon_FT) (eqB_or E F)).imp fun x y H b ⟨Z, x1, y1, sz, ⟨a, v1, v2, e, h, h1, h2⟩, ⟨c, w1, w2, e2, g, g1, g2⟩, hb⟩ =>
    ⟨a, c, _, _, [decide (x1.1 = y1.1), decide (x1.2 = y1.2)], e, e2, seqT_same sz h, seqT_same sz g, .cons (.inl ⟨Z, _, _, sz, h1, g1, rfl⟩) (.cons (.inr ⟨Z, _, _, sz, h2, g2, rfl⟩) (.nil (.inl rfl))), by rw [hb]; simp [Prod.ext_iff]⟩
theorem rcT_p3 {k : Nat} (neg : Bool) (E : EqB X n (FT τ)) (F : EqB X m (FT υ)) (G : EqB X k (FT φ)) : RcB X (max n (max m k) + 1) neg (FT (yP3 X.K τ υ φ)) :=
  (rcB_tup neg (mon_or mon_FT (mon_or mon_FT mon_FT)) (eqB_or E (eqB_or F G))).imp fun x y H b ⟨Z, x1, y1, sz, ⟨a, v1, v2, v3, e, h, h1, h2, h3⟩, ⟨c, w1, w2, w3, e2, g, g1, g2, g3⟩, hb⟩ =>
    ⟨a, c, _, _, [decide (x1.1 = y1.1), decide (x1.2.1 = y1.2.1), decide (x1.2.2 = y1.2.2)], e, e2, seqT_same sz h, seqT_same sz g, .cons (.inl ⟨Z, _, _, sz, h1, g1, rfl⟩) (.cons (.inr (.inl ⟨Z, _, _, sz, h2, g2, rfl⟩)) (.cons (.inr (.inr ⟨Z, _, _, sz, h3, g3, rfl⟩)) (.nil (.inl rfl)))), by rw [hb]; simp [Prod.ext_iff]⟩
theorem rcT_p4 {k l : Nat} (neg : Bool) (E : EqB X n (FT τ)) (F : EqB X m (FT υ)) (G : EqB X k (FT φ)) (L : EqB X l (FT ψ)) : RcB X (max n (max m (max k l)) + 1) neg (FT (yP4 X.K τ υ φ ψ)) :=
  (rcB_tup neg (mon_or mon_FT (mon_or mon_FT (mon_or mon_FT mon_FT))) (eqB_or E (eqB_or F (eqB_or G L)))).imp fun x y H b ⟨Z, x1, y1, sz, ⟨a, v1, v2, v3, v4, e, h, h1, h2, h3, h4⟩, ⟨c, w1, w2, w3, w4, e2, g, g1, g2, g3, g4⟩, hb⟩ =>
    ⟨a, c, _, _, [decide (x1.1 = y1.1), decide (x1.2.1 = y1.2.1), decide (x1.2.2.1 = y1.2.2.1), decide (x1.2.2.2 = y1.2.2.2)], e, e2, seqT_same sz h, seqT_same sz g, .cons (.inl ⟨Z, _, _, sz, h1, g1, rfl⟩) (.cons (.inr (.inl ⟨Z, _, _, sz, h2, g2, rfl⟩)) (.cons (.inr (.inr (.inl ⟨Z, _, _, sz, h3, g3, rfl⟩))) (.cons (.inr (.inr (.inr ⟨Z, _, _, sz, h4, g4, rfl⟩))) (.nil (.inl rfl))))), by rw [hb]; simp [Prod.ext_iff]⟩
theorem eqT_p2 (f : FnI X τ) (g : FnI X υ) (E : EqB X n (FT τ)) (F : EqB X m (FT υ)) : EqB X (max n m + 1) (FT (yP2 X.K τ υ)) := eqT_of (fn_p2 f g) (fun _ _ _ ⟨a, _, _, e, _⟩ => ⟨a, e⟩) (rcT_p2 false E F)
theorem eqT_p3 {k : Nat} (f : FnI X τ) (g : FnI X υ) (i : FnI X φ) (E : EqB X n (FT τ)) (F : EqB X m (FT υ)) (G : EqB X k (FT φ)) : EqB X (max n (max m k) + 1) (FT (yP3 X.K τ υ φ)) := eqT_of (fn_p3 f g i) (fun _ _ _ ⟨a, _, _, _, e, _⟩ => ⟨a, e⟩) (rcT_p3 false E F G)
theorem eqT_p4 {k l : Nat} (f : FnI X τ) (g : FnI X υ) (i : FnI X φ) (j : FnI X ψ) (E : EqB X n (FT τ)) (F : EqB X m (FT υ)) (G : EqB X k (FT φ)) (L : EqB X l (FT ψ)) : EqB X (max n (max m (max k l)) + 1) (FT (yP4 X.K τ υ φ ψ)) := eqT_of (fn_p4 f g i j) (fun _ _ _ ⟨a, _, _, _, _, e, _⟩ => ⟨a, e⟩) (rcT_p4 false E F G L)
/-- instances: by the text's own == -/
def FTr (τ : Ty α) : Addr → Addr → Hp → Bool → Prop := fun a c H b => FT τ (.ref a) (.ref c) H b
theorem rcT_obj {C f : Addr} {CX : CXT} {fd : FuncData} {ps : List Str} {sp : Sp} {E : XK} (ho : ∀ Z v x, τ.r Z v x → ∃ a dx fs, v = .ref a ∧ Z a = some (.ins C dx fs)) (F : FnOk X.prog X.w X.K X.mg X.base CX n f fd ps sp) (hsp : ∀ vs H Q E, spEqB (FTr τ) vs H Q E → sp vs H Q E)
    (M : Meth X.K C "__eq__" f) (hb : Binds X.K fd ps []) (hx : Passes CX X E) : RcB X n false (FT τ) :=
  (rcB_ins (R := FTr τ) (F.imp hsp) M.at_ M.fn hb hx).imp fun x y H b ⟨Z, a, c, sz, r1, r2, hb⟩ => by
    obtain ⟨p, dx, fs, e, h⟩ := ho _ _ _ r1
    obtain ⟨q, dy, gs, e2, h2⟩ := ho _ _ _ r2
    exact ⟨p, q, dx, dy, fs, gs, e, e2, sz _ _ h, sz _ _ h2, Z, a, c, sz, by rw [← e]; exact r1, by rw [← e2]; exact r2, hb⟩
end
section
variable {μ : Type} {M : Mu μ} {σ : L2.St} {Z H : Hp} {s s1 s2 : μ} {ta tb : TE} {K : PySem.W.Frag} {α : Type} [DecidableEq α] {τ : Ty α} {x y : α} {xs ys : List α} {neg : Bool}
theorem bneT {b : Bool} : (b != true) = !b := by cases b <;> rfl
theorem bneF {b : Bool} : (b != false) = b := by cases b <;> rfl
theorem step_ext {Z H H' : Hp} (sz : Same Z H) (e : L2.Ext H H') : Step [] Z H Z H' := ⟨Same.refl _, fun a o h => e _ _ (sz a o h), fun a o _ h => e _ _ h, fun _ _ h => h, fun a h q => by
  cases e1 : H a with
  | none => exact h e1
  | some o => rw [e _ _ e1] at q; cases q⟩
theorem ev_cmpO (ha : Ev M ta σ Z H s (ty τ x) s1) (hb : Ev M tb σ Z H s1 (ty τ y) s2) : Ev M (tOp (rCmpB neg (FT τ)) ta tb) σ Z H s (ty yBool (decide (x = y) != neg)) s2 :=
  ev_op ha hb fun Z H v w sz e1 e2 _ q => ⟨_, ⟨Z, x, y, sz, e1, e2, rfl⟩, fun H' e => q _ Z H' (step_ext sz e) rfl⟩
theorem ev_cmpL (ha : Ev M ta σ Z H s (li τ xs) s1) (hb : Ev M tb σ Z H s1 (li τ ys) s2) : Ev M (tOp (rCmpB neg (FL τ)) ta tb) σ Z H s (ty yBool (decide (xs = ys) != neg)) s2 :=
  ev_op ha hb fun Z H v w sz e1 e2 _ q => by
    obtain ⟨p, vs, rfl, g, t, _⟩ := rdl sz e1
    obtain ⟨p2, ws, rfl, g2, t2, _⟩ := rdl sz e2
    exact ⟨_, ⟨Z, xs, ys, p, p2, vs, ws, sz, rfl, rfl, g, g2, t, t2, rfl⟩, fun H' e => q _ Z H' (step_ext sz e) rfl⟩
end
end TP

namespace ZN
open PySem PySem.Spec PyProof.Rows L2
open PySem.Sem (wp)
/-- what is walked: an address, and whether a tuple stands there -/
structure Src where
  a : Addr
  t : Bool
def SIt (h : Heap) (it : Addr) (x : Src) (k : Nat) : Prop := match x.t with
  | true => h.IsTupleIter it x.a k
  | false => h.IsListIter it x.a k
def SSq (h : Heap) (x : Src) (r : Array Value) : Prop := match x.t with
  | true => h.IsTuple x.a r
  | false => h.IsList x.a r
theorem SIt.at {h h' : Heap} {it : Addr} {x : Src} {k : Nat} (g : SIt h it x k) (e : ∀ o, h.get? it = some o → h'.get? it = some o) : SIt h' it x k := by
  obtain ⟨a, t⟩ := x
  cases t
  · exact Heap.IsListIter.at g e
  · exact Heap.IsTupleIter.at g e
theorem SSq.at {h h' : Heap} {x : Src} {r : Array Value} (g : SSq h x r) (e : ∀ o, h.get? x.a = some o → h'.get? x.a = some o) : SSq h' x r := by
  obtain ⟨a, t⟩ := x
  cases t
  · exact Heap.IsList.at g e
  · exact Heap.IsTuple.at g e
theorem SIt.obj {h : Heap} {it : Addr} {x : Src} {k : Nat} (g : SIt h it x k) : ∃ o, h.get? it = some o ∧ ∀ v, o.data ≠ .cell v := by
  obtain ⟨a, t⟩ := x
  cases t
  · obtain ⟨o, e, _, d⟩ := g
    exact ⟨o, e, fun v q => by rw [d] at q; cases q⟩
  · obtain ⟨o, e, _, d⟩ := g
    exact ⟨o, e, fun v q => by rw [d] at q; cases q⟩
section
variable {prog : Program} {w : World} {A : Around} {E : Value → Shared → Prop} {s : Shared}
theorem nextOf_item {it : Addr} {x : Src} {k : Nat} {r : Array Value} {v : Value} {Q : Value → Shared → Prop} (hit : SIt s.heap it x k) (hl : SSq s.heap x r) (hx : r[k]? = some v)
    (hQ : ∀ h', SIt h' it x (k + 1) → Heap.SameBut it s.heap h' → Q v { s with heap := h' }) : wpAny (model prog w) A (Builtin.SmallTypes.nextOf (.ref it)) Q E s := by
  obtain ⟨a, t⟩ := x
  cases t
  · exact wpAny_nextOf_list_item hit hl hx hQ
  · exact RZ.nextOf_tuple_item hit hl hx hQ
theorem nextOf_end {it : Addr} {x : Src} {k : Nat} {r : Array Value} {Q : Value → Shared → Prop} (hh : A.handled = none) (hit : SIt s.heap it x k) (hl : SSq s.heap x r) (hx : r[k]? = none)
    (hE : ∀ h' e, Heap.ExtBut it s.heap h' → (∃ o, h'.get? e = some o ∧ o.cls = .type "StopIteration") → E (.ref e) { s with heap := h' }) : wpAny (model prog w) A (Builtin.SmallTypes.nextOf (.ref it)) Q E s := by
  obtain ⟨a, t⟩ := x
  cases t
  · exact wpAny_nextOf_list_end hh hit hl hx hE
  · exact RZ.nextOf_tuple_end hh hit hl hx hE
theorem pyIter_src {x : Src} {r : Array Value} {Q : Value → Shared → Prop} (hl : SSq s.heap x r)
    (hQ : Q (.ref s.heap.objs.size) { s with heap := s.heap.push { cls := .type (if x.t then "tuple_iterator" else "list_iterator"), data := .fields #[.ref x.a, .int 0 0] } }) :
    wpAny (model prog w) A (pyIter (.ref x.a)) Q E s := by
  obtain ⟨a, t⟩ := x
  cases t
  · exact wpAny_pyIter_list hl hQ
  · exact wpAny_pyIter_tuple hl hQ
theorem forIn_by {α β : Type} {r0 : β} {Q : β → Shared → Prop} : ∀ {l : List α} {f : α → β → Sem (ForInStep β)} (I : Nat → Shared → Prop) {s : Shared}, I 0 s →
    (∀ j x s, l[j]? = some x → I j s → wpAny (model prog w) A (f x r0) (fun r s' => r = .yield r0 ∧ I (j + 1) s') E s) → (∀ s, I l.length s → Q r0 s) → wpAny (model prog w) A (forIn l r0 f) Q E s
  | [], f, I, s, h0, _, hd => by
    rw [List.forIn_nil]
    exact wpAny_pure (hd s h0)
  | y :: r, f, I, s, h0, hs, hd => by
    rw [List.forIn_cons]
    refine wpAny_bind (wpAny_mono (hs 0 y s rfl h0) (fun z s' q => ?_) fun _ _ e => e)
    obtain ⟨rfl, q⟩ := q
    exact forIn_by (l := r) (fun j => I (j + 1)) q (fun j x s hx => hs (j + 1) x s hx) hd
theorem updateSeq_at {T : Addr} {ys : Array Value} {x : Value} {k : Nat} {Q : Unit → Shared → Prop} (hT : s.heap.get? T = some { cls := .type "tuple", data := .seq ys }) (hz : ys.size ≤ sizeLine)
    (h : ∀ h', h'.get? T = some { cls := .type "tuple", data := .seq (ys.setIfInBounds k x) } → Heap.SameBut T s.heap h' → Q () { s with heap := h' }) :
    wpAny (model prog w) A (updateSeq T (·.setIfInBounds k x)) Q E s := by
  refine wpAny_updateSeq hT rfl (h _ ?_ (Heap.SameBut.update ..)) hz (by simp; omega)
  rw [Heap.get?_update_self _ hT rfl]
  simp [Obj.mapSeq]
structure Apart (z TI TO : Addr) (is : List Addr) (srcs : List Src) : Prop where
  TIz : TI ≠ z
  TOz : TO ≠ z
  TITO : TI ≠ TO
  zi : z ∉ is
  TIi : TI ∉ is
  TOi : TO ∉ is
  nd : is.Nodup
  sz : ∀ x ∈ srcs, x.a ≠ z
  sTO : ∀ x ∈ srcs, x.a ≠ TO
  si : ∀ x ∈ srcs, x.a ∉ is
theorem nd_inj {α : Type} {is : List α} {i j : Nat} {a : α} (h : is.Nodup) (e1 : is[i]? = some a) (e2 : is[j]? = some a) : i = j := by
  obtain ⟨l1, g1⟩ := List.getElem?_eq_some_iff.mp e1
  obtain ⟨l2, g2⟩ := List.getElem?_eq_some_iff.mp e2
  rcases Nat.lt_trichotomy i j with g | g | g
  · exact absurd (g1.trans g2.symm) (List.pairwise_iff_getElem.mp h i j l1 l2 g)
  · exact g
  · exact absurd (g2.trans g1.symm) (List.pairwise_iff_getElem.mp h j i l2 l1 g)
def refs (is : List Addr) : Array Value := (is.map Value.ref).toArray
theorem next {z TI TO : Addr} {is : List Addr} {srcs : List Src} {k : Nat} {row : Nat → Array Value} {Q : Fin → Shared → Prop} (hh : A.handled = none) (D : Apart z TI TO is srcs) (hlen : is.length = srcs.length) (hne : is ≠ []) (hsm : is.length ≤ 1000)
    (hz : IsZip s.heap z TI TO .none) (hTI : s.heap.get? TI = some { cls := .type "tuple", data := .seq (refs is) }) (hTO : ∃ ys : Array Value, ys.size = is.length ∧ s.heap.get? TO = some { cls := .type "tuple", data := .seq ys })
    (hit : ∀ (j : Nat) (i : Addr) (x : Src), is[j]? = some i → srcs[j]? = some x → SIt s.heap i x k) (hsq : ∀ (j : Nat) (x : Src), srcs[j]? = some x → SSq s.heap x (row j))
    (hQ : (∀ j, j < is.length → (row j)[k]? ≠ none) → ∀ h' (ys : Array Value), IsZip h' z TI TO (rawInt s.heap.objs.size) → ys.size = is.length → (∀ j, j < is.length → ys[j]? = (row j)[k]?) → h'.get? TO = some { cls := .type "tuple", data := .seq ys } →
      (∀ (j : Nat) (i : Addr) (x : Src), is[j]? = some i → srcs[j]? = some x → SIt h' i x (k + 1)) → h'.get? s.heap.objs.size = some { cls := .type "tuple", data := .seq ys } → h'.objs.size = s.heap.objs.size + 1 →
      (∀ c o, c ≠ z → c ≠ TO → c ∉ is → s.heap.get? c = some o → h'.get? c = some o) → Q (.done (.ret (.ref s.heap.objs.size))) { s with heap := h' })
    (hE : (∃ j, j < is.length ∧ (row j)[k]? = none) → ∀ h' e, (∀ c o, c ≠ z → c ≠ TO → c ∉ is → s.heap.get? c = some o → h'.get? c = some o) → (∃ o, h'.get? e = some o ∧ o.cls = .type "StopIteration") → E (.ref e) { s with heap := h' }) :
    wpAny (model prog w) A (Builtin.«zip.__next__» ⟨[.ref z], []⟩) Q E s := by
  show wpAny _ _ (field (.ref z) 2 >>= _) _ _ _
  refine wpAny_bind (wpAny_field hz rfl (x := .bool false) rfl ?_)
  show wpAny _ _ (field (.ref z) 3 >>= _) _ _ _
  refine wpAny_bind (wpAny_field hz rfl (x := .ref TI) rfl ?_)
  refine wpAny_bind (wpAny_seqItems hTI rfl ?_)
  have hem : (refs is).isEmpty = false := by
    cases is with
    | nil => exact absurd rfl hne
    | cons i r => rfl
  simp only [hem, Bool.false_eq_true, if_false]
  show wpAny _ _ (Builtin.SmallTypes.ownedTupleIsFree (.ref z) >>= _) _ _ _
  refine wpAny_bind ?_
  unfold Builtin.SmallTypes.ownedTupleIsFree
  refine wpAny_bind (wpAny_field hz rfl (x := .none) rfl (wpAny_pure ?_))
  simp only [if_true]
  refine wpAny_bind (wpAny_rule ?_)
  refine wpAny_bind (wpAny_field hz rfl (x := .ref TO) rfl ?_)
  refine wpAny_bind (wpAny_setField_rec hz (by simp) fun h₁ hz₁ hs₁ => ?_)
  replace hz₁ : IsZip h₁ z TI TO .ellipsis := hz₁
  refine wpAny_bind ?_
  refine forIn_by (fun j s' => ∃ h', s' = { s with heap := h' } ∧ IsZip h' z TI TO .ellipsis ∧ (∃ ys : Array Value, ys.size = is.length ∧ h'.get? TO = some { cls := .type "tuple", data := .seq ys } ∧ ∀ i, i < j → i < is.length → ys[i]? = (row i)[k]?) ∧
    (∀ (i : Nat) (a : Addr) (x : Src), is[i]? = some a → srcs[i]? = some x → SIt h' a x (if i < j then k + 1 else k)) ∧ h'.objs.size = s.heap.objs.size ∧ (∀ i, i < j → i < is.length → (row i)[k]? ≠ none) ∧
    ∀ c o, c ≠ z → c ≠ TO → c ∉ is → s.heap.get? c = some o → h'.get? c = some o) ?_ ?_ ?_
  · obtain ⟨ys, y1, y2⟩ := hTO
    refine ⟨h₁, rfl, hz₁, ⟨ys, y1, hs₁.extBut _ _ D.TOz y2, fun i hi => absurd hi (Nat.not_lt_zero i)⟩, fun i a x e1 e2 => ?_, hs₁.1, fun i hi => absurd hi (Nat.not_lt_zero i), fun c o c1 _ _ e => hs₁.extBut _ _ c1 e⟩
    rw [if_neg (Nat.not_lt_zero i)]
    have ne : a ≠ z := fun q => D.zi (q ▸ List.mem_of_getElem? e1)
    exact (hit i a x e1 e2).at fun o q => hs₁.extBut _ _ ne q
  · rintro j ⟨v, n⟩ s' hj ⟨h', rfl, hz', ⟨ys, y1, y2, y3⟩, it', hsz, had, hk⟩
    rw [List.getElem?_zipIdx] at hj
    have hj' : ∃ a, is[j]? = some a ∧ v = .ref a ∧ n = j := by
      unfold refs at hj
      rw [List.toList_toArray, List.getElem?_map] at hj
      cases ea : is[j]? with
      | none => rw [ea] at hj; cases hj
      | some a =>
        rw [ea] at hj
        have := Option.some.inj hj
        have e1 := (Prod.mk.inj this).1
        have e2 := (Prod.mk.inj this).2
        exact ⟨a, rfl, e1.symm, by omega⟩
    obtain ⟨a, ea, rfl, rfl⟩ := hj'
    have jl : n < is.length := (List.getElem?_eq_some_iff.mp ea).1
    obtain ⟨x, ex⟩ : ∃ x, srcs[n]? = some x := ⟨srcs[n]'(by omega), List.getElem?_eq_getElem _⟩
    have ma := List.mem_of_getElem? ea
    have mx := List.mem_of_getElem? ex
    have az : a ≠ z := fun q => D.zi (q ▸ ma)
    have aTO : a ≠ TO := fun q => D.TOi (q ▸ ma)
    have hI := it' n a x ea ex
    rw [if_neg (Nat.lt_irrefl n)] at hI
    have hS : SSq h' x (row n) := (hsq n x ex).at fun o q => hk _ o (D.sz x mx) (D.sTO x mx) (D.si x mx) q
    refine wpAny_bind (wpAny_onRaise ?_)
    show wpAny _ _ (Builtin.SmallTypes.nextOf (.ref a) >>= _) _ _ _
    cases hx : (row n)[k]? with
    | none =>
      refine wpAny_bind (nextOf_end hh hI hS hx fun h₂ e hs₂ he => ?_)
      obtain ⟨oe, hoe, hce⟩ := he
      have hz₂ : IsZip h₂ z TI TO .ellipsis := hs₂ _ _ az.symm hz'
      have hez : e ≠ z := fun x => by subst x; rw [hz₂] at hoe; cases hoe; simp at hce
      refine wpAny_setField_rec hz₂ (by simp) fun h₃ _ hs₃ => hE ⟨n, jl, hx⟩ h₃ e (fun c o c1 c2 c3 q => hs₃.extBut _ _ c1 (hs₂ _ _ (fun q' => c3 (q' ▸ ma)) (hk c o c1 c2 c3 q))) ⟨oe, hs₃.extBut _ _ hez hoe, hce⟩
    | some u =>
      refine wpAny_bind (nextOf_item hI hS hx fun h₂ h1₂ hs₂ => wpAny_pure ?_)
      have hTO₂ : h₂.get? TO = some { cls := .type "tuple", data := .seq ys } := hs₂.extBut _ _ aTO.symm y2
      refine wpAny_bind (wpAny_seqItems hTO₂ rfl ?_)
      refine wpAny_bind (updateSeq_at hTO₂ (by rw [y1]; exact Nat.le_trans hsm (by decide)) fun h₃ hTO₃ hs₃ => ?_)
      refine wpAny_bind (wpAny_letGo (wpAny_pure ⟨rfl, h₃, rfl, hs₃.extBut _ _ D.TOz.symm (hs₂.extBut _ _ az.symm hz'), ⟨_, by simp [y1], hTO₃, fun i hi il => ?_⟩, fun i b x' e1 e2 => ?_, by rw [hs₃.1, hs₂.1, hsz], fun i hi il => ?_, fun c o c1 c2 c3 q => ?_⟩))
      · rcases Nat.lt_or_ge i n with g | g
        · rw [Array.getElem?_setIfInBounds_ne (by omega)]
          exact y3 i g il
        · have e : i = n := by omega
          subst e
          rw [Array.getElem?_setIfInBounds_self_of_lt (by omega), hx]
      · rcases Nat.lt_trichotomy i n with g | g | g
        · rw [if_pos (by omega)]
          have hb := it' i b x' e1 e2
          rw [if_pos g] at hb
          have ne : b ≠ a := fun q => by
            have := nd_inj D.nd e1 (q ▸ ea)
            omega
          have nT : b ≠ TO := fun q => D.TOi (q ▸ List.mem_of_getElem? e1)
          exact (hb.at fun o q => hs₂.extBut _ _ ne q).at fun o q => hs₃.extBut _ _ nT q
        · subst g
          rw [ea] at e1
          rw [ex] at e2
          cases e1
          cases e2
          rw [if_pos (by omega)]
          exact h1₂.at fun o q => hs₃.extBut _ _ aTO q
        · rw [if_neg (by omega)]
          have hb := it' i b x' e1 e2
          rw [if_neg (by omega)] at hb
          have ne : b ≠ a := fun q => by
            have := nd_inj D.nd e1 (q ▸ ea)
            omega
          have nT : b ≠ TO := fun q => D.TOi (q ▸ List.mem_of_getElem? e1)
          exact (hb.at fun o q => hs₂.extBut _ _ ne q).at fun o q => hs₃.extBut _ _ nT q
      · rcases Nat.lt_or_ge i n with g | g
        · exact had i g il
        · have e : i = n := by omega
          subst e
          rw [hx]
          exact fun q => nomatch q
      · exact hs₃.extBut _ _ c2 (hs₂.extBut _ _ (fun q' => c3 (q' ▸ ma)) (hk c o c1 c2 c3 q))
  · rintro s' ⟨h', rfl, hz', ⟨ys, y1, y2, y3⟩, it', hsz, had, hk⟩
    have ll : (refs is).toList.zipIdx.length = is.length := by simp [refs]
    rw [ll] at y3 it' had
    refine wpAny_bind (wpAny_seqItems y2 rfl ?_)
    refine wpAny_bind (wpAny_newTuple ?_ (by simp [y1]; exact Nat.le_trans hsm (by decide)))
    show wpAny _ _ (Builtin.SmallTypes.ownedTupleHandOut (.ref z) (.ref h'.objs.size) >>= _) _ _ _
    refine wpAny_bind ?_
    unfold Builtin.SmallTypes.ownedTupleHandOut
    have hzlt : z < h'.objs.size := Heap.lt_size hz'
    have hz₆ : IsZip (h'.push { cls := .type "tuple", data := .seq ys }) z TI TO .ellipsis := Heap.get?_push_of_some _ hz'
    refine wpAny_bind (wpAny_setField_rec hz₆ (by simp) fun h₇ hz₇ hs₇ => ?_)
    replace hz₇ : IsZip h₇ z TI TO (rawInt h'.objs.size) := hz₇
    refine wpAny_setField_rec hz₇ (by simp) fun h₈ hz₈ hs₈ => ?_
    replace hz₈ : IsZip h₈ z TI TO (rawInt h'.objs.size) := hz₈
    have up : ∀ c o, c ≠ z → h'.get? c = some o → h₈.get? c = some o := fun c o c1 e => hs₈.extBut _ _ c1 (hs₇.extBut _ _ c1 (Heap.get?_push_of_some _ e))
    have hT₈ : h₈.get? h'.objs.size = some { cls := .type "tuple", data := .seq ys } := hs₈.extBut _ _ (Nat.ne_of_gt hzlt) (hs₇.extBut _ _ (Nat.ne_of_gt hzlt) (Heap.get?_push_size _ rfl))
    have hz8 : h₈.objs.size = h'.objs.size + 1 := by rw [hs₈.1, hs₇.1, Heap.size_push]
    rw [hsz] at hz₈ hT₈ hz8
    refine wpAny_pure ?_
    show Q (.done (.ret (.ref h'.objs.size))) _
    rw [hsz]
    refine hQ (fun j hj => had j hj hj) h₈ ys hz₈ y1 (fun j hj => y3 j hj hj) (up _ _ D.TOz y2) (fun i a x e1 e2 => ?_) hT₈ hz8 fun c o c1 c2 c3 e => up c o c1 (hk c o c1 c2 c3 e)
    have hb := it' i a x e1 e2
    rw [if_pos (List.getElem?_eq_some_iff.mp e1).1] at hb
    exact hb.at fun o e => up _ o (fun q => D.zi (q ▸ List.mem_of_getElem? e1)) e
theorem pyNext_item {z TI TO : Addr} {is : List Addr} {srcs : List Src} {k : Nat} {row : Nat → Array Value} {Q : Option Value → Shared → Prop} (hh : A.handled = none) (D : Apart z TI TO is srcs) (hlen : is.length = srcs.length) (hne : is ≠ []) (hsm : is.length ≤ 1000)
    (hz : IsZip s.heap z TI TO .none) (hTI : s.heap.get? TI = some { cls := .type "tuple", data := .seq (refs is) }) (hTO : ∃ ys : Array Value, ys.size = is.length ∧ s.heap.get? TO = some { cls := .type "tuple", data := .seq ys })
    (hit : ∀ (j : Nat) (i : Addr) (x : Src), is[j]? = some i → srcs[j]? = some x → SIt s.heap i x k) (hsq : ∀ (j : Nat) (x : Src), srcs[j]? = some x → SSq s.heap x (row j)) (hall : ∀ j, j < is.length → (row j)[k]? ≠ none)
    (hQ : ∀ h' (ys : Array Value), IsZip h' z TI TO (rawInt s.heap.objs.size) → ys.size = is.length → (∀ j, j < is.length → ys[j]? = (row j)[k]?) → h'.get? TO = some { cls := .type "tuple", data := .seq ys } →
      (∀ (j : Nat) (i : Addr) (x : Src), is[j]? = some i → srcs[j]? = some x → SIt h' i x (k + 1)) → h'.get? s.heap.objs.size = some { cls := .type "tuple", data := .seq ys } → h'.objs.size = s.heap.objs.size + 1 →
      (∀ c o, c ≠ z → c ≠ TO → c ∉ is → s.heap.get? c = some o → h'.get? c = some o) → Q (some (.ref s.heap.objs.size)) { s with heap := h' }) :
    wpAny (model prog w) A (pyNext (.ref z)) Q E s := by
  have hT : s.TypeIs (.ref z) "zip" := ⟨_, hz, rfl⟩
  unfold pyNext
  refine wpAny_bind (wpAny_attempt (wpAny_callSpecial?_slot (name := Str.ofString "__next__") hT F.slot_zip_next
    (wpAny_call_entry F.slot_zip_next hT F.entry_zip_next
      (next (A := A.in1) hh D hlen hne hsm hz hTI hTO hit hsq (fun _ h' ys a1 a2 a3 a4 a5 a6 a7 a8 => ⟨_, rfl, wpAny_pure (hQ h' ys a1 a2 a3 a4 a5 a6 a7 a8)⟩) (fun g => ?_)) (F.args_zip_next_1 _))))
  obtain ⟨j, jl, e⟩ := g
  exact absurd e (hall j jl)
theorem pyNext_end {z TI TO : Addr} {is : List Addr} {srcs : List Src} {k : Nat} {row : Nat → Array Value} {Q : Option Value → Shared → Prop} (hh : A.handled = none) (D : Apart z TI TO is srcs) (hlen : is.length = srcs.length) (hne : is ≠ []) (hsm : is.length ≤ 1000)
    (hz : IsZip s.heap z TI TO .none) (hTI : s.heap.get? TI = some { cls := .type "tuple", data := .seq (refs is) }) (hTO : ∃ ys : Array Value, ys.size = is.length ∧ s.heap.get? TO = some { cls := .type "tuple", data := .seq ys })
    (hit : ∀ (j : Nat) (i : Addr) (x : Src), is[j]? = some i → srcs[j]? = some x → SIt s.heap i x k) (hsq : ∀ (j : Nat) (x : Src), srcs[j]? = some x → SSq s.heap x (row j)) (hend : ∃ j, j < is.length ∧ (row j)[k]? = none)
    (hQ : ∀ h', (∀ c o, c ≠ z → c ≠ TO → c ∉ is → s.heap.get? c = some o → h'.get? c = some o) → Q none { s with heap := h' }) : wpAny (model prog w) A (pyNext (.ref z)) Q E s := by
  have hT : s.TypeIs (.ref z) "zip" := ⟨_, hz, rfl⟩
  unfold pyNext
  refine wpAny_bind (wpAny_attempt (wpAny_callSpecial?_slot (name := Str.ofString "__next__") hT F.slot_zip_next
    (wpAny_call_entry F.slot_zip_next hT F.entry_zip_next (next (A := A.in1) hh D hlen hne hsm hz hTI hTO hit hsq (fun g => ?_) (fun _ h' e hk he => ?_)) (F.args_zip_next_1 _))))
  · obtain ⟨j, jl, e⟩ := hend
    exact absurd e (g j jl)
  · obtain ⟨o, ho, hc⟩ := he
    refine wpAny_bind (wpAny_isInstance (T := "StopIteration") (b := true) ⟨o, ho, hc⟩ isSubtype_stop ?_)
    exact wpAny_pure (hQ _ hk)
end
def SqX (K : PySem.W.Frag) (H : Hp) (x : Src) (xs : List V) : Prop := match x.t with
  | true => SqT K H x.a xs
  | false => SqL K H x.a xs
theorem sq_get {X : Cx} {pins : List (Addr × Obj)} {σ : L2.St} {H : Hp} {s : Shared} (I : Inv X pins σ H s) {x : Src} {xs : List V} (q : SqX X.K H x xs) : ∃ its : List Value, Vals xs its ∧ SSq s.heap x its.toArray := by
  obtain ⟨a, t⟩ := x
  cases t
  · obtain ⟨its, rv, p, _⟩ := I.list q
    exact ⟨its, rv, p.isList⟩
  · obtain ⟨its, rv, p, _⟩ := I.tuple q
    exact ⟨its, rv, p⟩
theorem sq_inj {X : Cx} {pins : List (Addr × Obj)} {σ : L2.St} {H : Hp} {s : Shared} (I : Inv X pins σ H s) {x : Src} {xs ys : List V} (q : SqX X.K H x xs) (r : SqX X.K H x ys) : xs = ys := by
  obtain ⟨a, t⟩ := x
  cases t
  · exact I.list_inj q r
  · exact I.tuple_inj q r
/-- things as they stand at each turn, the items in a new tuple -/
def ItN (K : PySem.W.Frag) (srcs : List Src) : It :=
  ⟨fun i H => ∀ (j : Nat) (x : Src), srcs[j]? = some x → ∃ xs v, SqX K H x xs ∧ xs[i]? = some v,
    fun i H v H' => ∃ T vs, v = .ref T ∧ H T = none ∧ H' = upd H T (.tup vs) ∧ vs.length = srcs.length ∧ ∀ (j : Nat) (x : Src) (xs : List V), srcs[j]? = some x → SqX K H x xs → ∃ y, xs[i]? = some y ∧ vs[j]? = some y,
    fun i H => (∀ (j : Nat) (x : Src), srcs[j]? = some x → ∃ xs, SqX K H x xs) ∧ ∃ (j : Nat) (x : Src) (xs : List V), srcs[j]? = some x ∧ SqX K H x xs ∧ xs.length ≤ i⟩
theorem vals_of : ∀ {us : List Value} {P : Nat → V → Prop}, (∀ j u, us[j]? = some u → ∃ v, RelV v u ∧ P j v) → ∃ vs, Vals vs us ∧ ∀ j v, vs[j]? = some v → P j v
  | [], _, _ => ⟨[], .nil, fun j v h => by simp at h⟩
  | u :: r, P, h => by
    obtain ⟨v, r1, p1⟩ := h 0 u rfl
    obtain ⟨vs, r2, p2⟩ := vals_of (us := r) (P := fun j => P (j + 1)) fun j u e => h (j + 1) u e
    refine ⟨v :: vs, .cons r1 r2, fun j w e => ?_⟩
    cases j with
    | zero =>
      have := Option.some.inj e
      subst this
      exact p1
    | succ j => exact p2 j w e
theorem rows {X : Cx} {pins : List (Addr × Obj)} {σ : L2.St} {H : Hp} {s : Shared} (I : Inv X pins σ H s) {srcs : List Src} (h : ∀ (j : Nat) (x : Src), srcs[j]? = some x → ∃ xs, SqX X.K H x xs) :
    ∃ row : Nat → List Value, ∀ (j : Nat) (x : Src), srcs[j]? = some x → ∃ xs, SqX X.K H x xs ∧ Vals xs (row j) ∧ SSq s.heap x (row j).toArray := by
  refine Classical.axiomOfChoice (r := fun (j : Nat) (r : List Value) => ∀ x : Src, srcs[j]? = some x → ∃ xs, SqX X.K H x xs ∧ Vals xs r ∧ SSq s.heap x r.toArray) fun j => ?_
  cases e : srcs[j]? with
  | none => exact ⟨[], fun x h => nomatch h⟩
  | some x =>
    obtain ⟨xs, q⟩ := h j x e
    obtain ⟨its, rv, p⟩ := sq_get I q
    exact ⟨its, fun y hy => by cases hy; exact ⟨xs, q, rv, p⟩⟩
theorem turnN {P : Program} {w : World} {K : PySem.W.Frag} {elts : List Expr} {kk : Nat} {tpos : Pos} {z TI TO : Addr} {is : List Addr} {srcs : List Src} (D : Apart z TI TO is srcs) (hlen : is.length = srcs.length) (hne : is ≠ []) (hsm : is.length ≤ 1000) :
    Turn P w K (.Tuple elts kk tpos) (ItN K srcs) (z :: TI :: TO :: is) z (fun i h => IsZip h z TI TO .none ∧ h.get? TI = some { cls := .type "tuple", data := .seq (refs is) } ∧ (∃ ys : Array Value, ys.size = is.length ∧ h.get? TO = some { cls := .type "tuple", data := .seq ys }) ∧
      ∀ (j : Nat) (b : Addr) (x : Src), is[j]? = some b → srcs[j]? = some x → SIt h b x i) where
  mem := List.mem_cons_self ..
  obj := fun i h st c hc => by
    obtain ⟨hz, hTI, ⟨ys, _, hTO⟩, hi⟩ := st
    rcases List.mem_cons.mp hc with q | hc
    · rw [q]; exact ⟨_, hz, fun v q => nomatch q⟩
    rcases List.mem_cons.mp hc with q | hc
    · rw [q]; exact ⟨_, hTI, fun v q => nomatch q⟩
    rcases List.mem_cons.mp hc with q | hc
    · rw [q]; exact ⟨_, hTO, fun v q => nomatch q⟩
    obtain ⟨j, ej⟩ := List.mem_iff_getElem?.mp hc
    have jl := (List.getElem?_eq_some_iff.mp ej).1
    exact (hi j c _ ej (List.getElem?_eq_getElem (by omega))).obj
  keep := fun i h h' st k => by
    obtain ⟨hz, hTI, ⟨ys, y1, hTO⟩, hi⟩ := st
    exact ⟨k z (by simp) _ hz, k TI (by simp) _ hTI, ⟨ys, y1, k TO (by simp) _ hTO⟩, fun j b x e1 e2 => (hi j b x e1 e2).at fun o q => k b (by simp [List.mem_of_getElem? e1]) o q⟩
  item := by
    intro X hP hw hK hc i pins s σ H E I hf st hg
    subst hP hw hK
    obtain ⟨hz, hTI, hTO, hi⟩ := st
    obtain ⟨row, hrow⟩ := rows I (srcs := srcs) fun j x e => by obtain ⟨xs, v, q, _⟩ := hg j x e; exact ⟨xs, q⟩
    have hzl : z < s.heap.objs.size := Heap.lt_size hz
    have src : ∀ j, j < is.length → ∃ x, srcs[j]? = some x := fun j hj => ⟨srcs[j]'(by omega), List.getElem?_eq_getElem _⟩
    refine pyNext_item (row := fun j => (row j).toArray) (I.ok.hd hc) D hlen hne hsm hz hTI hTO hi (fun j x e => by obtain ⟨xs, _, _, p⟩ := hrow j x e; exact p) (fun j hj => ?_) fun h' ys z' y1 y2 TO' hi' hT hsz hk => ?_
    · obtain ⟨x, ex⟩ := src j hj
      obtain ⟨xs, q, rv, _⟩ := hrow j x ex
      obtain ⟨xs', v, q', hv⟩ := hg j x ex
      rw [sq_inj I q' q] at hv
      obtain ⟨u, hu, _⟩ := rv.get hv
      rw [List.getElem?_toArray, hu]
      exact fun q => nomatch q
    refine ⟨_, rfl, wpAny_letOwnedTupleGo_zip (s := { s with heap := h' }) z' fun h'' z'' sb => ?_⟩
    have hT2 : h''.get? s.heap.objs.size = some { cls := .type "tuple", data := .seq ys } := (sb.2 _ (Nat.ne_of_gt hzl)).trans hT
    obtain ⟨vs, rvs, pvs⟩ := vals_of (us := ys.toList) (P := fun j v => ∀ (x : Src) (xs : List V), srcs[j]? = some x → SqX X.K H x xs → xs[i]? = some v) fun j u e => by
      have jl : j < is.length := by
        have := (List.getElem?_eq_some_iff.mp e).1
        simp at this
        omega
      obtain ⟨x, ex⟩ := src j jl
      obtain ⟨xs, q, rv, _⟩ := hrow j x ex
      obtain ⟨xs', v, q', hv⟩ := hg j x ex
      rw [sq_inj I q' q] at hv
      obtain ⟨u', hu, ru⟩ := rv.get hv
      have e2 := y2 j jl
      rw [← Array.getElem?_toList, e] at e2
      have e3 : u = u' := by
        have : (row j).toArray[i]? = some u' := by rw [List.getElem?_toArray]; exact hu
        rw [this] at e2
        exact Option.some.inj e2
      subst e3
      refine ⟨v, ru, fun x' ys' ex' q'' => ?_⟩
      rw [ex] at ex'
      cases ex'
      rw [sq_inj I q'' q]
      exact hv
    have lvs : vs.length = srcs.length := by
      have := rvs.length
      simp at this
      omega
    have new : ObjOk X.prog X.w (upd H s.heap.objs.size (.tup vs)) h'' s.heap.objs.size (.tup vs) :=
      ⟨by rw [lvs, ← hlen]; exact Nat.le_trans hsm (by decide), ys.toList, rvs, ⟨_, hT2, rfl, 0, by simp⟩⟩
    have I1 : Inv X pins σ (upd H s.heap.objs.size (.tup vs)) { s with heap := h'' } :=
      I.turnedNew (t' := s.toks) (ch := z :: TI :: TO :: is) (fun c o hb q => (sb.2 c (fun q' => hb (by simp [q']))).trans (hk c o (fun q' => hb (by simp [q'])) (fun q' => hb (by simp [q'])) (fun q' => hb (by simp [q'])) q)) hf (Nat.le_refl _) new
    refine ⟨.ref s.heap.objs.size, _, I1, rfl, ⟨_, vs, rfl, I.hok.fresh (Nat.le_refl _), rfl, lvs, fun j x xs ex q => ?_⟩, ⟨z'', ?_, ⟨ys, y1, ?_⟩, fun j b x e1 e2 => ?_⟩, fun c hcm => ?_⟩
    · have jl : j < vs.length := by rw [lvs]; exact (List.getElem?_eq_some_iff.mp ex).1
      exact ⟨vs[j], pvs j _ (List.getElem?_eq_getElem jl) x xs ex q, List.getElem?_eq_getElem jl⟩
    · exact (sb.2 _ D.TIz).trans (hk _ _ D.TIz D.TITO D.TIi hTI)
    · exact (sb.2 _ D.TOz).trans TO'
    · exact (hi' j b x e1 e2).at fun o q => (sb.2 _ (fun q' => D.zi (q' ▸ List.mem_of_getElem? e1))).trans q
    · have hlt : c < s.heap.objs.size := by
        rcases List.mem_cons.mp hcm with q | hcm
        · rw [q]; exact hzl
        rcases List.mem_cons.mp hcm with q | hcm
        · rw [q]; exact Heap.lt_size hTI
        rcases List.mem_cons.mp hcm with q | hcm
        · obtain ⟨_, _, e⟩ := hTO; rw [q]; exact Heap.lt_size e
        obtain ⟨j, ej⟩ := List.mem_iff_getElem?.mp hcm
        have jl := (List.getElem?_eq_some_iff.mp ej).1
        obtain ⟨o, e, _⟩ := (hi j c _ ej (List.getElem?_eq_getElem (by omega))).obj
        exact Heap.lt_size e
      rw [upd_ne (Nat.ne_of_lt hlt)]
      exact (hf c hcm).1
  done := by
    intro X hP hw hK hc i pins s σ H E I hf st hg
    subst hP hw hK
    obtain ⟨hz, hTI, hTO, hi⟩ := st
    obtain ⟨hall, j, x, xs, ex, q, hl⟩ := hg
    obtain ⟨row, hrow⟩ := rows I (srcs := srcs) hall
    refine pyNext_end (row := fun j => (row j).toArray) (I.ok.hd hc) D hlen hne hsm hz hTI hTO hi (fun j x e => by obtain ⟨xs, _, _, p⟩ := hrow j x e; exact p) ⟨j, by rw [hlen]; exact (List.getElem?_eq_some_iff.mp ex).1, ?_⟩ fun h' hk => ⟨rfl, I.turnedL (t' := s.toks) (ch := z :: TI :: TO :: is) (fun c o hb q =>
      hk c o (fun q' => hb (by simp [q'])) (fun q' => hb (by simp [q'])) (fun q' => hb (by simp [q'])) q) hf⟩
    obtain ⟨xs', q', rv, _⟩ := hrow j x ex
    rw [sq_inj I q q'] at hl
    have := rv.length
    rw [List.getElem?_toArray]
    exact List.getElem?_eq_none (by omega)
  self := fun A i s Q E st h => wpAny_pyIter_zip st.1 h
abbrev itObj (x : Src) : Obj := { cls := .type (if x.t then "tuple_iterator" else "list_iterator"), data := .fields #[.ref x.a, .int 0 0] }
theorem itObj_at {h : Heap} {i : Addr} {x : Src} (e : h.get? i = some (itObj x)) : SIt h i x 0 := by
  obtain ⟨a, t⟩ := x
  cases t
  · exact ⟨_, e, rfl, rfl⟩
  · exact ⟨_, e, rfl, rfl⟩
theorem SSq.push {h : Heap} {x : Src} {r : Array Value} (g : SSq h x r) (o : Obj) : SSq (h.push o) x r := g.at fun _ e => Heap.get?_push_of_some _ e
theorem SSq.lt {h : Heap} {x : Src} {r : Array Value} (g : SSq h x r) : x.a < h.objs.size := by
  obtain ⟨a, t⟩ := x
  cases t
  · obtain ⟨_, e, _⟩ := g
    exact Heap.lt_size e
  · obtain ⟨_, e, _⟩ := g
    exact Heap.lt_size e
abbrev tupO (vs : Array Value) : Obj := { cls := .type "tuple", data := .seq vs }
abbrev zipO (TI TO : Addr) : Obj := { cls := .type "zip", data := .fields #[.none, .bool false, .bool false, .ref TI, .ref TO] }
abbrev h3a (h : Heap) (x y z : Src) : Heap := ((h.push (itObj x)).push (itObj y)).push (itObj z)
abbrev h3b (h : Heap) (x y z : Src) : Heap := (h3a h x y z).push (tupO #[.ref h.objs.size, .ref (h.push (itObj x)).objs.size, .ref ((h.push (itObj x)).push (itObj y)).objs.size])
abbrev h3c (h : Heap) (x y z : Src) : Heap := (h3b h x y z).push (tupO #[.none, .none, .none])
abbrev h3d (h : Heap) (x y z : Src) : Heap := (h3c h x y z).push (zipO (h3a h x y z).objs.size (h3b h x y z).objs.size)
set_option maxHeartbeats 4000000 in
theorem meets_new3 (x y z : Src) (r1 r2 r3 : Array Value) :
    Meets (Builtin.«zip.__new__» ⟨[.type "zip", .ref x.a, .ref y.a, .ref z.a], []⟩) (fun _ R s => SSq s.heap x r1 ∧ SSq s.heap y r2 ∧ SSq s.heap z r3 ∧
      R (.ok (.ret (.ref (h3c s.heap x y z).objs.size))) { s with heap := h3d s.heap x y z }) :=
  .of_wp fun prog w A R s h => by
    obtain ⟨hp, g, d, tk, os⟩ := s; obtain ⟨hl1, hl2, hl3, h⟩ := h
    have hsub := sub_zip
    have hL1 : SSq (Shared.heap ⟨hp, g, d, tk, os⟩) x r1 := hl1
    have hL2 : SSq (Shared.heap ⟨hp.push (itObj x), g, d, tk, os⟩) y r2 := hl2.push _
    have hL3 : SSq (Shared.heap ⟨(hp.push (itObj x)).push (itObj y), g, d, tk, os⟩) z r3 := (hl3.push _).push _
    wp_walk using pyIter_src hL1, pyIter_src hL2, pyIter_src hL3
    exact ⟨_, rfl, h⟩
theorem typeCall_zip_3 (a b c : Value) : checkTypeCall "zip" ⟨[a, b, c], []⟩ = pure () := by kernel_rfl
theorem newCall_zip_3 (a b c : Value) : checkBuiltinCall "zip.__new__" ⟨[.type "zip", a, b, c], []⟩ = pure () := by kernel_rfl
theorem args_object_init_4 (a b c d : Value) : argsOk "object.__init__" ⟨[a, b, c, d], []⟩ := by
  unfold argsOk; rw [signature?_of (id := "object.__init__") (n := ['_', '_', 't', 'i', 'n', 'i', '_', '_']) (o := ['t', 'c', 'e', 'j', 'b', 'o']) (by kernel_rfl) F.owner_object]; kernel_rfl
theorem apart3 (n : Nat) {x y z : Src} (h1 : x.a < n) (h2 : y.a < n) (h3 : z.a < n) : Apart (n + 5) (n + 3) (n + 4) [n, n + 1, n + 2] [x, y, z] where
  TIz := by show (n + 3 : Nat) ≠ n + 5; omega
  TOz := by show (n + 4 : Nat) ≠ n + 5; omega
  TITO := by show (n + 3 : Nat) ≠ n + 4; omega
  zi := by simp
  TIi := by simp
  TOi := by simp
  nd := by simp
  sz := by
    intro s hs
    simp at hs
    rcases hs with rfl | rfl | rfl
    · exact Nat.ne_of_lt (Nat.lt_of_lt_of_le h1 (Nat.le_add_right _ _))
    · exact Nat.ne_of_lt (Nat.lt_of_lt_of_le h2 (Nat.le_add_right _ _))
    · exact Nat.ne_of_lt (Nat.lt_of_lt_of_le h3 (Nat.le_add_right _ _))
  sTO := by
    intro s hs
    simp at hs
    rcases hs with rfl | rfl | rfl
    · exact Nat.ne_of_lt (Nat.lt_of_lt_of_le h1 (Nat.le_add_right _ _))
    · exact Nat.ne_of_lt (Nat.lt_of_lt_of_le h2 (Nat.le_add_right _ _))
    · exact Nat.ne_of_lt (Nat.lt_of_lt_of_le h3 (Nat.le_add_right _ _))
  si := by
    have no : ∀ {a : Addr}, a < n → a ∉ ([n, n + 1, n + 2] : List Addr) := fun {a} h q => by
      rcases List.mem_cons.mp q with q | q
      · exact Nat.ne_of_lt h q
      rcases List.mem_cons.mp q with q | q
      · exact Nat.ne_of_lt (Nat.lt_of_lt_of_le h (Nat.le_add_right _ _)) q
      · exact Nat.ne_of_lt (Nat.lt_of_lt_of_le h (Nat.le_add_right _ _)) (List.mem_singleton.mp q)
    intro s hs
    simp at hs
    rcases hs with rfl | rfl | rfl
    · exact no h1
    · exact no h2
    · exact no h3
theorem call3 {prog : Program} {w : World} {A : Around} {E : Value → Shared → Prop} {s : Shared} {x y z : Src} {r1 r2 r3 : Array Value} {Q : Value → Shared → Prop} (hl1 : SSq s.heap x r1) (hl2 : SSq s.heap y r2) (hl3 : SSq s.heap z r3)
    (h : ∀ h', IsZip h' (s.heap.objs.size + 5) (s.heap.objs.size + 3) (s.heap.objs.size + 4) .none → h'.get? (s.heap.objs.size + 3) = some (tupO (refs [s.heap.objs.size, s.heap.objs.size + 1, s.heap.objs.size + 2])) → h'.get? (s.heap.objs.size + 4) = some (tupO #[.none, .none, .none]) →
      SIt h' s.heap.objs.size x 0 → SIt h' (s.heap.objs.size + 1) y 0 → SIt h' (s.heap.objs.size + 2) z 0 → (∀ c o, s.heap.get? c = some o → h'.get? c = some o) → Q (.ref (s.heap.objs.size + 5)) { s with heap := h' }) :
    wpAny (model prog w) A (call (.type "zip") [.ref x.a, .ref y.a, .ref z.a]) Q E s := by
  refine callType_new F.called_zip (by decide) (typeCall_zip_3 _ _ _) (newCall_zip_3 _ _ _) (fun obj => args_object_init_4 obj _ _ _) F.entry_zip_new (meets_new3 x y z r1 r2 r3) ⟨hl1, hl2, hl3, ?_⟩
  have z1 : (s.heap.push (itObj x)).objs.size = s.heap.objs.size + 1 := Heap.size_push ..
  have z2 : ((s.heap.push (itObj x)).push (itObj y)).objs.size = s.heap.objs.size + 2 := by rw [Heap.size_push, z1]
  have z3 : (h3a s.heap x y z).objs.size = s.heap.objs.size + 3 := by rw [Heap.size_push, z2]
  have z4 : (h3b s.heap x y z).objs.size = s.heap.objs.size + 4 := by rw [Heap.size_push, z3]
  have z5 : (h3c s.heap x y z).objs.size = s.heap.objs.size + 5 := by rw [Heap.size_push, z4]
  have g6 : (h3d s.heap x y z).get? (h3c s.heap x y z).objs.size = some _ := Heap.get?_push_size _ rfl
  have g5 : (h3d s.heap x y z).get? (h3b s.heap x y z).objs.size = some _ := Heap.get?_push_of_some _ (Heap.get?_push_size _ rfl)
  have g4 : (h3d s.heap x y z).get? (h3a s.heap x y z).objs.size = some _ := Heap.get?_push_of_some _ (Heap.get?_push_of_some _ (Heap.get?_push_size _ rfl))
  have g3 : (h3d s.heap x y z).get? ((s.heap.push (itObj x)).push (itObj y)).objs.size = some (itObj z) := Heap.get?_push_of_some _ (Heap.get?_push_of_some _ (Heap.get?_push_of_some _ (Heap.get?_push_size _ rfl)))
  have g2 : (h3d s.heap x y z).get? (s.heap.push (itObj x)).objs.size = some (itObj y) := Heap.get?_push_of_some _ (Heap.get?_push_of_some _ (Heap.get?_push_of_some _ (Heap.get?_push_of_some _ (Heap.get?_push_size _ rfl))))
  have g1 : (h3d s.heap x y z).get? s.heap.objs.size = some (itObj x) := Heap.get?_push_of_some _ (Heap.get?_push_of_some _ (Heap.get?_push_of_some _ (Heap.get?_push_of_some _ (Heap.get?_push_of_some _ (Heap.get?_push_size _ rfl)))))
  show _ ∧ _
  rw [z3, z4, z5] at g6
  rw [z1, z2, z3] at g4
  rw [z4] at g5
  rw [z2] at g3
  rw [z1] at g2
  rw [z5]
  exact ⟨⟨_, g6, rfl⟩, h _ g6 g4 g5 (itObj_at g1) (itObj_at g2) (itObj_at g3) fun c o x =>
    Heap.get?_push_of_some _ (Heap.get?_push_of_some _ (Heap.get?_push_of_some _ (Heap.get?_push_of_some _ (Heap.get?_push_of_some _ (Heap.get?_push_of_some _ x)))))⟩
def iZip3 (K : PySem.W.Frag) (ta : TA) : TI := fun σ H R => ta σ H fun vs H1 => ∃ (x y z : Src) (xs ys zs : List V), vs = [.ref x.a, .ref y.a, .ref z.a] ∧ SqX K H1 x xs ∧ SqX K H1 y ys ∧ SqX K H1 z zs ∧ R (ItN K [x, y, z]) H1
theorem pi_zip3 {X : Cx} {e e2 e3 : Expr} {ta : TA} {p pos tpos : Pos} {elts : List Expr} {kk : Nat} (hg : Gl X "zip") (hm : X.mg "zip" = none) (ha : PA X [e, e2, e3] ta)
    (hs : starEach [e, e2, e3] X.env = (false, eval e X.env) :: starEach [e2, e3] X.env := by rfl) (hpl : (backTo pos (starEach [e2, e3] X.env)).any (·.1) = false := by rfl) :
    PI X (.Tuple elts kk tpos) (.Call (.Name "zip" p) [e, e2, e3] [] pos) (iZip3 X.K ta) := by
  refine ⟨fun pins s σ H R I h => ?_⟩
  refine Call_ (ld_blt I hg hm PyProof.Rows.boot_zip (PyProof.Rows.callWith_type1 (thn (ha.run pos pins s σ H _ I h) fun us s1 ⟨vs, H1, I1, r1, q1⟩ => ?_) hs hpl))
  obtain ⟨x, y, z, xs, ys, zs, ex, qx, qy, qz, q⟩ := q1
  subst ex
  cases r1 with
  | cons r rr =>
    cases rr with
    | cons r' rr =>
      cases rr with
      | cons r'' rr =>
        cases rr
        cases r
        cases r'
        cases r''
        obtain ⟨its, _, p1⟩ := sq_get I1 qx
        obtain ⟨its2, _, p2⟩ := sq_get I1 qy
        obtain ⟨its3, _, p3⟩ := sq_get I1 qz
        refine call3 p1 p2 p3 fun h' hz hTI hTO i1 i2 i3 hk => wpAny_pyIter_zip hz ?_
        have I2 : Inv X pins σ H1 { s1 with heap := h' } := I1.kept (t' := s1.toks) hk
        refine ⟨s1.heap.objs.size + 5, [s1.heap.objs.size + 5, s1.heap.objs.size + 3, s1.heap.objs.size + 4, s1.heap.objs.size, s1.heap.objs.size + 1, s1.heap.objs.size + 2], _, _, H1, rfl, I2,
          turnN (apart3 s1.heap.objs.size p1.lt p2.lt p3.lt) rfl (fun q => nomatch q) (by show 3 ≤ 1000; decide), ⟨hz, hTI, ⟨_, rfl, hTO⟩, fun j b u e1 e2 => ?_⟩, fun c hcm => ?_, q⟩
        · match j, e1, e2 with
          | 0, e1, e2 => cases e1; cases e2; exact i1
          | 1, e1, e2 => cases e1; cases e2; exact i2
          | 2, e1, e2 => cases e1; cases e2; exact i3
          | n + 3, e1, _ => cases e1
        · have hle : s1.heap.objs.size ≤ c := by
            simp only [List.mem_cons, List.not_mem_nil, or_false] at hcm
            rcases hcm with z | z | z | z | z | z <;> rw [z] <;> first | exact Nat.le_refl _ | exact Nat.le_add_right _ _
          exact I1.fpOk hle (I1.hok.fresh hle)
def Y3 (xs ys zs : List V) : Nat → Hp → V → Hp → Prop := fun i H v H' => ∃ T x y z, v = .ref T ∧ H T = none ∧ H' = upd H T (.tup [x, y, z]) ∧ xs[i]? = some x ∧ ys[i]? = some y ∧ zs[i]? = some z
theorem walk3 {K : PySem.W.Frag} {x y z : Src} {xs ys zs : List V} (h1 : ys.length = xs.length) (h2 : zs.length = xs.length) : Walk (ItN K [x, y, z]) xs.length (fun H => SqX K H x xs ∧ SqX K H y ys ∧ SqX K H z zs) (Y3 xs ys zs) where
  goes := fun i H hi g j u e => by
    match j, e with
    | 0, e => cases e; exact ⟨xs, _, g.1, List.getElem?_eq_getElem hi⟩
    | 1, e => cases e; exact ⟨ys, _, g.2.1, List.getElem?_eq_getElem (by omega)⟩
    | 2, e => cases e; exact ⟨zs, _, g.2.2, List.getElem?_eq_getElem (by omega)⟩
    | n + 3, e => cases e
  stops := fun H g => by
    refine ⟨fun j u e => ?_, 0, x, xs, rfl, g.1, Nat.le_refl _⟩
    match j, e with
    | 0, e => cases e; exact ⟨xs, g.1⟩
    | 1, e => cases e; exact ⟨ys, g.2.1⟩
    | 2, e => cases e; exact ⟨zs, g.2.2⟩
    | n + 3, e => cases e
  yields := fun i H v H' hi g q => by
    obtain ⟨T, vs, rfl, nT, rfl, lv, hv⟩ := q
    obtain ⟨a, a1, a2⟩ := hv 0 x xs rfl g.1
    obtain ⟨b, b1, b2⟩ := hv 1 y ys rfl g.2.1
    obtain ⟨c, c1, c2⟩ := hv 2 z zs rfl g.2.2
    refine ⟨T, a, b, c, rfl, nT, ?_, a1, b1, c1⟩
    match vs, lv with
    | [u, v, w], _ =>
      cases a2
      cases b2
      cases c2
      rfl
abbrev h2a (h : Heap) (x y : Src) : Heap := (h.push (itObj x)).push (itObj y)
abbrev h2b (h : Heap) (x y : Src) : Heap := (h2a h x y).push (tupO #[.ref h.objs.size, .ref (h.push (itObj x)).objs.size])
abbrev h2c (h : Heap) (x y : Src) : Heap := (h2b h x y).push (tupO #[.none, .none])
abbrev h2d (h : Heap) (x y : Src) : Heap := (h2c h x y).push (zipO (h2a h x y).objs.size (h2b h x y).objs.size)
set_option maxHeartbeats 4000000 in
theorem meets_new2 (x y : Src) (r1 r2 : Array Value) :
    Meets (Builtin.«zip.__new__» ⟨[.type "zip", .ref x.a, .ref y.a], []⟩) (fun _ R s => SSq s.heap x r1 ∧ SSq s.heap y r2 ∧
      R (.ok (.ret (.ref (h2c s.heap x y).objs.size))) { s with heap := h2d s.heap x y }) :=
  .of_wp fun prog w A R s h => by
    obtain ⟨hp, g, d, tk, os⟩ := s; obtain ⟨hl1, hl2, h⟩ := h
    have hsub := sub_zip
    have hL1 : SSq (Shared.heap ⟨hp, g, d, tk, os⟩) x r1 := hl1
    have hL2 : SSq (Shared.heap ⟨hp.push (itObj x), g, d, tk, os⟩) y r2 := hl2.push _
    wp_walk using pyIter_src hL1, pyIter_src hL2
    exact ⟨_, rfl, h⟩
theorem apart2 (n : Nat) {x y : Src} (h1 : x.a < n) (h2 : y.a < n) : Apart (n + 4) (n + 2) (n + 3) [n, n + 1] [x, y] where
  TIz := by show (n + 2 : Nat) ≠ n + 4; omega
  TOz := by show (n + 3 : Nat) ≠ n + 4; omega
  TITO := by show (n + 2 : Nat) ≠ n + 3; omega
  zi := by simp
  TIi := by simp
  TOi := by simp
  nd := by simp
  sz := by
    intro s hs
    simp at hs
    rcases hs with rfl | rfl
    · exact Nat.ne_of_lt (Nat.lt_of_lt_of_le h1 (Nat.le_add_right _ _))
    · exact Nat.ne_of_lt (Nat.lt_of_lt_of_le h2 (Nat.le_add_right _ _))
  sTO := by
    intro s hs
    simp at hs
    rcases hs with rfl | rfl
    · exact Nat.ne_of_lt (Nat.lt_of_lt_of_le h1 (Nat.le_add_right _ _))
    · exact Nat.ne_of_lt (Nat.lt_of_lt_of_le h2 (Nat.le_add_right _ _))
  si := by
    have no : ∀ {a : Addr}, a < n → a ∉ ([n, n + 1] : List Addr) := fun {a} h q => by
      rcases List.mem_cons.mp q with q | q
      · exact Nat.ne_of_lt h q
      · exact Nat.ne_of_lt (Nat.lt_of_lt_of_le h (Nat.le_add_right _ _)) (List.mem_singleton.mp q)
    intro s hs
    simp at hs
    rcases hs with rfl | rfl
    · exact no h1
    · exact no h2
theorem call2 {prog : Program} {w : World} {A : Around} {E : Value → Shared → Prop} {s : Shared} {x y : Src} {r1 r2 : Array Value} {Q : Value → Shared → Prop} (hl1 : SSq s.heap x r1) (hl2 : SSq s.heap y r2)
    (h : ∀ h', IsZip h' (s.heap.objs.size + 4) (s.heap.objs.size + 2) (s.heap.objs.size + 3) .none → h'.get? (s.heap.objs.size + 2) = some (tupO (refs [s.heap.objs.size, s.heap.objs.size + 1])) → h'.get? (s.heap.objs.size + 3) = some (tupO #[.none, .none]) →
      SIt h' s.heap.objs.size x 0 → SIt h' (s.heap.objs.size + 1) y 0 → (∀ c o, s.heap.get? c = some o → h'.get? c = some o) → Q (.ref (s.heap.objs.size + 4)) { s with heap := h' }) :
    wpAny (model prog w) A (call (.type "zip") [.ref x.a, .ref y.a]) Q E s := by
  refine callType_new F.called_zip (by decide) (F.typeCall_zip_2 _ _) (F.newCall_zip_2 _ _) (fun obj => F.args_object_init_3 obj _ _) F.entry_zip_new (meets_new2 x y r1 r2) ⟨hl1, hl2, ?_⟩
  have z1 : (s.heap.push (itObj x)).objs.size = s.heap.objs.size + 1 := Heap.size_push ..
  have z3 : (h2a s.heap x y).objs.size = s.heap.objs.size + 2 := by rw [Heap.size_push, z1]
  have z4 : (h2b s.heap x y).objs.size = s.heap.objs.size + 3 := by rw [Heap.size_push, z3]
  have z5 : (h2c s.heap x y).objs.size = s.heap.objs.size + 4 := by rw [Heap.size_push, z4]
  have g6 : (h2d s.heap x y).get? (h2c s.heap x y).objs.size = some _ := Heap.get?_push_size _ rfl
  have g5 : (h2d s.heap x y).get? (h2b s.heap x y).objs.size = some _ := Heap.get?_push_of_some _ (Heap.get?_push_size _ rfl)
  have g4 : (h2d s.heap x y).get? (h2a s.heap x y).objs.size = some _ := Heap.get?_push_of_some _ (Heap.get?_push_of_some _ (Heap.get?_push_size _ rfl))
  have g2 : (h2d s.heap x y).get? (s.heap.push (itObj x)).objs.size = some (itObj y) := Heap.get?_push_of_some _ (Heap.get?_push_of_some _ (Heap.get?_push_of_some _ (Heap.get?_push_size _ rfl)))
  have g1 : (h2d s.heap x y).get? s.heap.objs.size = some (itObj x) := Heap.get?_push_of_some _ (Heap.get?_push_of_some _ (Heap.get?_push_of_some _ (Heap.get?_push_of_some _ (Heap.get?_push_size _ rfl))))
  show _ ∧ _
  rw [z3, z4, z5] at g6
  rw [z1, z3] at g4
  rw [z4] at g5
  rw [z1] at g2
  rw [z5]
  exact ⟨⟨_, g6, rfl⟩, h _ g6 g4 g5 (itObj_at g1) (itObj_at g2) fun c o x =>
    Heap.get?_push_of_some _ (Heap.get?_push_of_some _ (Heap.get?_push_of_some _ (Heap.get?_push_of_some _ (Heap.get?_push_of_some _ x))))⟩
def iZip2 (K : PySem.W.Frag) (ta : TA) : TI := fun σ H R => ta σ H fun vs H1 => ∃ (x y : Src) (xs ys : List V), vs = [.ref x.a, .ref y.a] ∧ SqX K H1 x xs ∧ SqX K H1 y ys ∧ R (ItN K [x, y]) H1
theorem pi_zip2 {X : Cx} {e e2 : Expr} {ta : TA} {p pos tpos : Pos} {elts : List Expr} {kk : Nat} (hg : Gl X "zip") (hm : X.mg "zip" = none) (ha : PA X [e, e2] ta)
    (hs : starEach [e, e2] X.env = (false, eval e X.env) :: starEach [e2] X.env := by rfl) (hpl : (backTo pos (starEach [e2] X.env)).any (·.1) = false := by rfl) :
    PI X (.Tuple elts kk tpos) (.Call (.Name "zip" p) [e, e2] [] pos) (iZip2 X.K ta) := by
  refine ⟨fun pins s σ H R I h => ?_⟩
  refine Call_ (ld_blt I hg hm PyProof.Rows.boot_zip (PyProof.Rows.callWith_type1 (thn (ha.run pos pins s σ H _ I h) fun us s1 ⟨vs, H1, I1, r1, q1⟩ => ?_) hs hpl))
  obtain ⟨x, y, xs, ys, ex, qx, qy, q⟩ := q1
  subst ex
  cases r1 with
  | cons r rr =>
    cases rr with
    | cons r' rr =>
      cases rr
      cases r
      cases r'
      obtain ⟨its, _, p1⟩ := sq_get I1 qx
      obtain ⟨its2, _, p2⟩ := sq_get I1 qy
      refine call2 p1 p2 fun h' hz hTI hTO i1 i2 hk => wpAny_pyIter_zip hz ?_
      have I2 : Inv X pins σ H1 { s1 with heap := h' } := I1.kept (t' := s1.toks) hk
      refine ⟨s1.heap.objs.size + 4, [s1.heap.objs.size + 4, s1.heap.objs.size + 2, s1.heap.objs.size + 3, s1.heap.objs.size, s1.heap.objs.size + 1], _, _, H1, rfl, I2,
        turnN (apart2 s1.heap.objs.size p1.lt p2.lt) rfl (fun q => nomatch q) (by show 2 ≤ 1000; decide), ⟨hz, hTI, ⟨_, rfl, hTO⟩, fun j b u e1 e2 => ?_⟩, fun c hcm => ?_, q⟩
      · match j, e1, e2 with
        | 0, e1, e2 => cases e1; cases e2; exact i1
        | 1, e1, e2 => cases e1; cases e2; exact i2
        | n + 2, e1, _ => cases e1
      · have hle : s1.heap.objs.size ≤ c := by
          simp only [List.mem_cons, List.not_mem_nil, or_false] at hcm
          rcases hcm with z | z | z | z | z <;> rw [z] <;> first | exact Nat.le_refl _ | exact Nat.le_add_right _ _
        exact I1.fpOk hle (I1.hok.fresh hle)
theorem walk2 {K : PySem.W.Frag} {x y : Src} {xs ys : List V} (h1 : ys.length = xs.length) : Walk (ItN K [x, y]) xs.length (fun H => SqX K H x xs ∧ SqX K H y ys) (YPair (fun i => xs[i]?) (fun i => ys[i]?)) where
  goes := fun i H hi g j u e => by
    match j, e with
    | 0, e => cases e; exact ⟨xs, _, g.1, List.getElem?_eq_getElem hi⟩
    | 1, e => cases e; exact ⟨ys, _, g.2, List.getElem?_eq_getElem (by omega)⟩
    | n + 2, e => cases e
  stops := fun H g => by
    refine ⟨fun j u e => ?_, 0, x, xs, rfl, g.1, Nat.le_refl _⟩
    match j, e with
    | 0, e => cases e; exact ⟨xs, g.1⟩
    | 1, e => cases e; exact ⟨ys, g.2⟩
    | n + 2, e => cases e
  yields := fun i H v H' hi g q => by
    obtain ⟨T, vs, rfl, nT, rfl, lv, hv⟩ := q
    obtain ⟨a, a1, a2⟩ := hv 0 x xs rfl g.1
    obtain ⟨b, b1, b2⟩ := hv 1 y ys rfl g.2
    refine ⟨T, a, b, rfl, nT, ?_, a1, b1⟩
    match vs, lv with
    | [u, v], _ =>
      cases a2
      cases b2
      rfl
end ZN

namespace TP
open PySem PySem.Spec PyProof.Rows L2 ZN
/-! ### zip of two or three, lists and tuples -/
theorem walk2m {K : PySem.W.Frag} {x y : Src} {xs ys : List V} : Walk (ItN K [x, y]) (min xs.length ys.length) (fun H => SqX K H x xs ∧ SqX K H y ys) (YPair (fun i => xs[i]?) (fun i => ys[i]?)) where
  goes := fun i H hi g j u e => by
    match j, e with
    | 0, e => cases e; exact ⟨xs, _, g.1, List.getElem?_eq_getElem (by omega)⟩
    | 1, e => cases e; exact ⟨ys, _, g.2, List.getElem?_eq_getElem (by omega)⟩
    | n + 2, e => cases e
  stops := fun H g => by
    refine ⟨fun j u e => ?_, ?_⟩
    · match j, e with
      | 0, e => cases e; exact ⟨xs, g.1⟩
      | 1, e => cases e; exact ⟨ys, g.2⟩
      | n + 2, e => cases e
    · by_cases q : xs.length ≤ ys.length
      · exact ⟨0, x, xs, rfl, g.1, by omega⟩
      · exact ⟨1, y, ys, rfl, g.2, by omega⟩
  yields := fun i H v H' hi g q => by
    obtain ⟨T, vs, rfl, nT, rfl, lv, hv⟩ := q
    obtain ⟨a, a1, a2⟩ := hv 0 x xs rfl g.1
    obtain ⟨b, b1, b2⟩ := hv 1 y ys rfl g.2
    refine ⟨T, a, b, rfl, nT, ?_, a1, b1⟩
    match vs, lv with
    | [u, v], _ =>
      cases a2
      cases b2
      rfl
theorem walk3m {K : PySem.W.Frag} {x y z : Src} {xs ys zs : List V} : Walk (ItN K [x, y, z]) (min xs.length (min ys.length zs.length)) (fun H => SqX K H x xs ∧ SqX K H y ys ∧ SqX K H z zs) (Y3 xs ys zs) where
  goes := fun i H hi g j u e => by
    match j, e with
    | 0, e => cases e; exact ⟨xs, _, g.1, List.getElem?_eq_getElem (by omega)⟩
    | 1, e => cases e; exact ⟨ys, _, g.2.1, List.getElem?_eq_getElem (by omega)⟩
    | 2, e => cases e; exact ⟨zs, _, g.2.2, List.getElem?_eq_getElem (by omega)⟩
    | n + 3, e => cases e
  stops := fun H g => by
    refine ⟨fun j u e => ?_, ?_⟩
    · match j, e with
      | 0, e => cases e; exact ⟨xs, g.1⟩
      | 1, e => cases e; exact ⟨ys, g.2.1⟩
      | 2, e => cases e; exact ⟨zs, g.2.2⟩
      | n + 3, e => cases e
    · by_cases q : xs.length ≤ min ys.length zs.length
      · exact ⟨0, x, xs, rfl, g.1, by omega⟩
      · by_cases q2 : ys.length ≤ zs.length
        · exact ⟨1, y, ys, rfl, g.2.1, by omega⟩
        · exact ⟨2, z, zs, rfl, g.2.2, by omega⟩
  yields := fun i H v H' hi g q => by
    obtain ⟨T, vs, rfl, nT, rfl, lv, hv⟩ := q
    obtain ⟨a, a1, a2⟩ := hv 0 x xs rfl g.1
    obtain ⟨b, b1, b2⟩ := hv 1 y ys rfl g.2.1
    obtain ⟨c, c1, c2⟩ := hv 2 z zs rfl g.2.2
    refine ⟨T, a, b, c, rfl, nT, ?_, a1, b1, c1⟩
    match vs, lv with
    | [u, v, w], _ =>
      cases a2
      cases b2
      cases c2
      rfl
/-- what is walked by zip -/
def SrcOf (K : PySem.W.Frag) {α : Type} (τs : Ty (List α)) (τ : Ty α) : Prop := ∀ Z v xs, τs.r Z v xs → ∃ (x : Src) (vs : List V), v = .ref x.a ∧ (∀ H, Same Z H → SqX K H x vs) ∧ All (τ.r Z) vs xs ∧ xs.length ≤ sizeLine
section
variable {K : PySem.W.Frag} {α β γ : Type} {τ : Ty α} {υ : Ty β} {φ : Ty γ}
theorem src_list : SrcOf K (yList τ) τ := fun Z v xs ⟨a, vs, e, h, t, l⟩ => ⟨⟨a, false⟩, vs, e, fun H s => SqL.of (s _ _ h), t, l⟩
theorem src_tup : SrcOf K (yTup K τ) τ := fun Z v xs ⟨a, vs, e, h, t, l⟩ => ⟨⟨a, true⟩, vs, e, fun H s => seqT_same s h, t, l⟩
theorem src_seq : SrcOf K (ySeq K τ) τ := fun Z v xs ⟨a, vs, e, h, t, l⟩ => by
  rcases h with h | h
  · exact ⟨⟨a, false⟩, vs, e, fun H s => SqL.of (s _ _ h), t, l⟩
  · exact ⟨⟨a, true⟩, vs, e, fun H s => seqT_same s h, t, l⟩
section
variable {μ : Type} {M : Mu μ} {σ : L2.St} {Z H : Hp} {s s1 s2 s3 : μ} {t : TA} {τs : Ty (List α)} {υs : Ty (List β)} {φs : Ty (List γ)} {xs : List α} {ys : List β} {zs : List γ} {X : Hp → Hp → Prop}
theorem ei_zip2 (f : SrcOf K τs τ) (g : SrcOf K υs υ) (ha : EvA M t σ Z H s (rac (ty τs xs) (rac (ty υs ys) ra0)) s1) : EvI M X (iZip2 K t) σ Z H s (yP2 K τ υ) (xs.zip ys) s1 :=
  fun Z1 H1 a b c d R q => ha Z1 H1 a b c d _ fun us Z2 H2 e m ⟨v, r, e1, h1, w, r2, e2, h2, e3⟩ => by
    cases e3; cases e2; cases e1
    obtain ⟨x, vs, rfl, hx, tx, lx⟩ := f _ _ _ h1
    obtain ⟨y, ws, rfl, hy, ty, ly⟩ := g _ _ _ h2
    exact ⟨x, y, vs, ws, rfl, hx _ e.s, hy _ e.s, q _ Z2 H2 e m (walk_pairs _ rfl walk2m (fun Z' H' z sz _ => ⟨hx _ (z.trans sz), hy _ (z.trans sz)⟩) tx ty (by rw [tx.len]; exact lx))⟩
theorem ei_zip3 (f : SrcOf K τs τ) (g : SrcOf K υs υ) (k : SrcOf K φs φ) (ha : EvA M t σ Z H s (rac (ty τs xs) (rac (ty υs ys) (rac (ty φs zs) ra0))) s1) : EvI M X (iZip3 K t) σ Z H s (yP3 K τ υ φ) (xs.zip (ys.zip zs)) s1 :=
  fun Z1 H1 a b c d R q => ha Z1 H1 a b c d _ fun us Z2 H2 e m ⟨v, r, e1, h1, w, r2, e2, h2, u, r3, e3, h3, e4⟩ => by
    cases e4; cases e3; cases e2; cases e1
    obtain ⟨x, vs, rfl, hx, tx, lx⟩ := f _ _ _ h1
    obtain ⟨y, ws, rfl, hy, ty, ly⟩ := g _ _ _ h2
    obtain ⟨z, us, rfl, hz, tz, lz⟩ := k _ _ _ h3
    refine ⟨x, y, z, vs, ws, us, rfl, hx _ e.s, hy _ e.s, hz _ e.s, q _ Z2 H2 e m ?_⟩
    have ln : (xs.zip (ys.zip zs)).length = min vs.length (min ws.length us.length) := by rw [List.length_zip, List.length_zip, tx.len, ty.len, tz.len]
    refine ⟨by rw [ln, tx.len]; omega, fun H => SqX K H x vs ∧ SqX K H y ws ∧ SqX K H z us, Y3 vs ws us, by rw [ln]; exact walk3m, fun Z' H' zz sz _ => ⟨hx _ (zz.trans sz), hy _ (zz.trans sz), hz _ (zz.trans sz)⟩, fun i Z' H' v H'' hi zz sz _ yy => ?_⟩
    obtain ⟨T, v1, v2, v3, rfl, nT, rfl, g1, g2, g3⟩ := yy
    obtain ⟨x1, ex1, rx1⟩ := tx.get g1
    obtain ⟨x2, ex2, rx2⟩ := ty.get g2
    obtain ⟨x3, ex3, rx3⟩ := tz.get g3
    have st : Step [] Z' H' (upd Z' T (.tup [v1, v2, v3])) (upd H' T (.tup [v1, v2, v3])) := Step.new sz nT
    refine ⟨upd Z' T (.tup [v1, v2, v3]), (x1, x2, x3), ?_, st, T, v1, v2, v3, rfl, sqT_new, τ.mono (zz.trans st.z) rx1, υ.mono (zz.trans st.z) rx2, φ.mono (zz.trans st.z) rx3⟩
    rw [List.getElem?_zip_eq_some]
    exact ⟨ex1, by rw [List.getElem?_zip_eq_some]; exact ⟨ex2, ex3⟩⟩
end
end
section
variable {μ : Type} {M : Mu μ} {σ : L2.St} {Z H : Hp} {s s1 s2 : μ} {ta tb : TE} {K : PySem.W.Frag}
/-- int of a flag -/
theorem ev_int_bl {b : Bool} (ha : Ev M ta σ Z H s (ty yBool b) s1) : Ev M (tCB (fun xs H Q => (∃ i, xs = [.int i] ∧ Q (.int i) H) ∨ ∃ k, xs = [.bl k] ∧ Q (.int (if k then 1 else 0)) H) (tCons ta tNil)) σ Z H s (ty yInt (if b = true then 1 else 0)) s1 :=
  ev_cb (eva_cons ha eva_nil) fun _ _ vs sz ⟨v, r, e, h, e2⟩ Q q => .inr ⟨b, by rw [e, show v = .bl b from h, show r = [] from e2], q _ _ _ (Step.refl sz) rfl⟩
/-- the text of a number -/
def strI (i : Int) : Str := Str.ofString (toString i)
theorem strOk_of (s : String) : PyData.strOk (Str.ofString s) = true := by
  rw [Str.ofString_eq_toList]
  unfold PyData.strOk
  rw [Array.all_eq_true_iff_forall_mem]
  intro x hx
  simp only [List.mem_toArray, List.mem_map] at hx
  obtain ⟨c, _, rfl⟩ := hx
  have := c.valid
  refine decide_eq_true ?_
  show c.val.toNat < 0x110000
  rcases this with h | ⟨_, h⟩
  · have : c.val.toNat < 0xd800 := h
    omega
  · exact h
def StrIOk (i : Int) : Prop := i.natAbs.log2 < 1920 ∧ (strI i).length ≤ 16777216
instance {i : Int} : Decidable (StrIOk i) := inferInstanceAs (Decidable (_ ∧ _))
theorem ev_str_int {i : Int} (ha : Ev M ta σ Z H s (ty yInt i) s1) (h : StrIOk i) : Ev M (tCB (fun xs H Q => ∃ i, xs = [.int i] ∧ i.natAbs.log2 < 1920 ∧ Q (.str (toString i)) H) (tCons ta tNil)) σ Z H s (ty yStr (strI i)) s1 :=
  ev_cb (eva_cons ha eva_nil) fun _ _ vs sz ⟨v, r, e, h1, e2⟩ Q q => ⟨i, by rw [e, show v = .int i from h1, show r = [] from e2], h.1, q _ _ _ (Step.refl sz) ⟨rfl, by
    unfold okS
    rw [Bool.and_eq_true]
    exact ⟨strOk_of _, decide_eq_true h.2⟩⟩⟩
theorem strIOk_of {i : Int} (h0 : 0 ≤ i) (h : i < 10 ^ 100) : StrIOk i := by
  refine ⟨?_, Nat.le_trans (toString_length_le (k := 100) h0 (by decide) h) (by decide)⟩
  by_cases q : i = 0
  · subst q; decide
  · have : i.natAbs < 2 ^ 1920 := by
      have h2 : i.natAbs < 10 ^ 100 := by
        have e : ((10 : Int) ^ 100) = ((10 ^ 100 : Nat) : Int) := by decide
        rw [e] at h
        omega
      exact Nat.lt_trans h2 (by decide)
    exact (Nat.log2_lt (by omega)).mpr this
end
end TP

namespace TP
open PySem PySem.Spec PyProof.Rows L2
def optV (f : Int → V) : Option Int → V
  | none => .non
  | some i => f i
theorem flat_optI : Flat (yOpt yInt) (optV V.int) := by
  refine ⟨fun Z v x h => ?_, fun x y h => ?_, fun x => ?_⟩
  · cases x with
    | none => exact h
    | some i => exact h.1
  · cases x with
    | none => cases y with
      | none => rfl
      | some j => exact nomatch h
    | some i => cases y with
      | none => exact nomatch h
      | some j => exact congrArg some (V.int.inj h)
  · intro y; cases x <;> cases y <;> rfl
theorem fi_optI : FlatI (yOpt yInt) (optV V.int) := by
  refine ⟨flat_optI, fun x => by cases x <;> rfl, fun x y => ?_⟩
  cases x with
  | none => cases y with
    | none => exact ⟨fun _ => rfl, fun _ => rfl⟩
    | some j => exact ⟨fun h => (nomatch h), fun h => (nomatch h)⟩
  | some i => cases y with
    | none => exact ⟨fun h => (nomatch h), fun h => (nomatch h)⟩
    | some j =>
      show (i == j) = true ↔ _
      rw [beq_iff_eq, Option.some.injEq]
section
variable {μ : Type} {M : Mu μ} {σ : L2.St} {Z H : Hp} {s s1 s2 s3 : μ} {ta tb te : TE} {K : PySem.W.Frag}
def inO (x : Option Int) (xs : List (Option Int)) : Bool := decide (x ∈ xs)
theorem ev_inO {x : Option Int} {xs : List (Option Int)} (ha : Ev M ta σ Z H s (ty (yOpt yInt) x) s1) (hb : Ev M tb σ Z H s1 (li (yOpt yInt) xs) s2) : Ev M (tOp (rIn K false) ta tb) σ Z H s (ty yBool (inO x xs)) s2 := ev_cast (ev_in fi_optI ha hb) (decide_eq_decide.mpr Iff.rfl)
theorem ev_notinO {x : Option Int} {xs : List (Option Int)} (ha : Ev M ta σ Z H s (ty (yOpt yInt) x) s1) (hb : Ev M tb σ Z H s1 (li (yOpt yInt) xs) s2) : Ev M (tOp (rIn K true) ta tb) σ Z H s (ty yBool (!inO x xs)) s2 := ev_cast (ev_notin fi_optI ha hb) (congrArg (! ·) (decide_eq_decide.mpr Iff.rfl))
theorem all_okS (Z : Hp) : ∀ l : List Str, l.all okS = true → All (yStr.r Z) (l.map V.str) l
  | [], _ => .nil
  | z :: r, h => by
    rw [List.all_cons, Bool.and_eq_true] at h
    exact .cons ⟨rfl, h.1⟩ (all_okS Z r h.2)
theorem ev_int_str {x : Str} {n : Int} (ha : Ev M ta σ Z H s (ty yStr x) s1) (h : intText? x = some n) (l : x.length ≤ 640) : Ev M (tCB (fun xs H Q => ∃ a n, xs = [.str a] ∧ PySem.intText? a = some n ∧ a.length ≤ 640 ∧ Q (.int n) H) (tCons ta tNil)) σ Z H s (ty yInt n) s1 :=
  ev_cb (eva_cons ha eva_nil) fun _ _ vs sz ⟨v, r, e, hv, e2⟩ Q q => ⟨x, n, by rw [e, hv.1, show r = [] from e2], h, l, q _ _ _ (Step.refl sz) rfl⟩
theorem en_split {x y : Str} (ha : Ev M ta σ Z H s (ty yStr x) s1) (hb : Ev M tb σ Z H s1 (ty yStr y) s2) (h1 : (y.length == 0) = false) (h2 : x.length + 2 ≤ 16777216) (h3 : ((Txt.split x y).all okS) = true) :
    EvN M (tM1 (fun x xs H Q => ∃ a b, x = .str a ∧ xs = [.str b] ∧ (b.length == 0) = false ∧ a.length + 2 ≤ sizeLine ∧ rNewStrs (Txt.split a b) H Q) ta tb) σ Z H s yStr (Txt.split x y) s2 :=
  fun Z1 H1 a b c d Q q => ha Z1 H1 a b c d _ fun v Z2 H2 e m rv => ⟨⟨x, rv.1⟩, hb Z2 H2 (a.trans e.z) (b.trans e.h) e.s m _ fun w Z3 H3 e2 m2 rk => ⟨x, y, rv.1, by rw [rk.1], h1, h2, fun p hp => by
    have st := Step.own (o := .lst ((Txt.split x y).map V.str)) e2.s hp
    refine q p _ Z3 _ ((e.trans e2).trans st.pure) (M.pure st m2) (same_x (e.trans e2) hp) (same_none e2.s hp) upd_same ?_ (Nat.le_trans (PyProof.Rows.split_le x y) h2)
    exact all_okS Z3 _ h3⟩⟩
/-- f'{i}' -/
theorem ev_fmtI {i : Int} (ha : Ev M te σ Z H s (ty yInt i) s1) (h : StrIOk i) : Ev M (tFmt te) σ Z H s (ty yStr (strI i)) s1 :=
  fun Z1 H1 a b c d Q q => ha Z1 H1 a b c d _ fun v Z2 H2 e m rv => .inr ⟨i, rv, h.1, q _ Z2 H2 e m ⟨rfl, by
    have ok : okS (strI i) = true := by
      unfold okS
      rw [Bool.and_eq_true]
      exact ⟨strOk_of _, decide_eq_true h.2⟩
    exact ok⟩⟩
theorem ev_fmtS {x : Str} (ha : Ev M te σ Z H s (ty yStr x) s1) : Ev M (tFmt te) σ Z H s (ty yStr x) s1 :=
  fun Z1 H1 a b c d Q q => ha Z1 H1 a b c d _ fun v Z2 H2 e m rv => .inl ⟨x, rv.1, of_decide_eq_true (Bool.and_eq_true_iff.mp (show (PyData.strOk x && decide (x.length ≤ sizeLine)) = true from rv.2)).2, q _ Z2 H2 e m ⟨rfl, rv.2⟩⟩
/-- the parts of an f-string behind acc -/
def EvJ (M : Mu μ) (ts : List TE) (acc : Str) (σ : L2.St) (Z H : Hp) (s : μ) (out : Str) (s' : μ) : Prop :=
  okS acc = true → ∀ Z1 H1, Same Z Z1 → SameX M.fp H H1 → Same Z1 H1 → M.m s Z1 H1 → ∀ Q : Str → Hp → Prop, (∀ Z2 H2, Step M.fp Z1 H1 Z2 H2 → M.m s' Z2 H2 → okS out = true → Q out H2) → tJs ts acc σ H1 Q
theorem evj_nil {acc : Str} : EvJ M [] acc σ Z H s acc s := fun ok Z1 H1 _ _ c d Q q => q Z1 H1 (Step.refl c) d ok
theorem evj_cons {t : TE} {ts : List TE} {acc y out : Str} (ha : Ev M t σ Z H s (ty yStr y) s1) (l : acc.length + y.length ≤ 16777216) (r : EvJ M ts (acc ++ y) σ Z H s1 out s2) : EvJ M (t :: ts) acc σ Z H s out s2 :=
  fun ok Z1 H1 a b c d Q q => ha Z1 H1 a b c d _ fun v Z2 H2 e m rv => ⟨y, rv.1, by
    have : (acc ++ y).length = acc.length + y.length := by
      show (acc.cps ++ y.cps).size = _
      rw [Array.size_append]; rfl
    rw [this]; exact l, r (okS_app ok rv.2 l) Z2 H2 (a.trans e.z) (b.trans e.h) e.s m _ fun Z3 H3 e2 m2 ok2 => q Z3 H3 (e.trans e2) m2 ok2⟩
theorem ev_joined {ts : List TE} {out : Str} (h : EvJ M ts Str.empty σ Z H s out s1) : Ev M (fun σ H Q => tJs ts Str.empty σ H fun out H1 => Q (.str out) H1) σ Z H s (ty yStr out) s1 :=
  fun Z1 H1 a b c d Q q => h (by decide +kernel) Z1 H1 a b c d _ fun Z2 H2 e m ok => q _ Z2 H2 e m ⟨rfl, ok⟩
end
end TP

namespace K43
open PySem PySem.Spec PyProof.Rows L2
open C8 (tCut pss_cut)
/-! the text by places -/
def topS (i : Nat) : Stmt := PySem.Challenge.pw_surenear_k43_pieces_and_names_of_files.main.body.getD i (.Pass ⟨0, 0, 0, 0⟩)
abbrev s_law_row : Stmt := (topS 22)
abbrev s_law_next : Stmt := (topS 23)
abbrev s_kind_of_value : Stmt := (topS 5)
abbrev s_same_fields : Stmt := (topS 8)
abbrev s_Record___init__ : Stmt := (inClass (topS 7) 0)
abbrev s_Record___eq__ : Stmt := (inClass (topS 7) 3)
abbrev s_Region___init__ : Stmt := (inClass (topS 10) 0)
abbrev s_Entry___init__ : Stmt := (inClass (topS 12) 0)
abbrev s_Entry___eq__ : Stmt := (inClass (topS 12) 1)
abbrev s_Offer___init__ : Stmt := (inClass (topS 13) 0)
abbrev s_piece_at : Stmt := (topS 20)
abbrev s_is_digit : Stmt := (topS 2)
abbrev s_number_in : Stmt := (topS 3)
abbrev s_read_file_name : Stmt := (topS 18)
abbrev s_law_record : Stmt := (topS 24)
abbrev s_pieces_of : Stmt := (topS 19)
abbrev s_segment_file : Stmt := (topS 16)
abbrev s_start_file : Stmt := (topS 17)
abbrev s_law : Stmt := (topS 25)
theorem sc_law_row : FnScope ["script", "k", "cell", "a", "b", "c"] ["script", "k"] (defScope s_law_row) := ⟨rfl, rfl, rfl, by decide +kernel, rfl, by decide +kernel, by decide +kernel⟩
theorem sc_law_next : FnScope ["state", "many", "drawn"] ["state", "many"] (defScope s_law_next) := ⟨rfl, rfl, rfl, by decide +kernel, rfl, by decide +kernel, by decide +kernel⟩
theorem sc_kind_of_value : FnScope ["worth"] ["worth"] (defScope s_kind_of_value) := ⟨rfl, rfl, rfl, by decide +kernel, rfl, by decide +kernel, by decide +kernel⟩
theorem sc_same_fields : FnScope ["ones", "others", "kinds", "_", "worth"] ["ones", "others"] (defScope s_same_fields) := ⟨rfl, rfl, rfl, by decide +kernel, rfl, by decide +kernel, by decide +kernel⟩
theorem sc_Record___init__ : FnScope ["self", "name", "vector", "fields", "words", "pair"] ["self", "name", "vector", "fields", "words"] (defScope s_Record___init__) := ⟨rfl, rfl, rfl, by decide +kernel, rfl, by decide +kernel, by decide +kernel⟩
theorem sc_Record___eq__ : FnScope ["self", "other"] ["self", "other"] (defScope s_Record___eq__) := ⟨rfl, rfl, rfl, by decide +kernel, rfl, by decide +kernel, by decide +kernel⟩
theorem sc_Region___init__ : FnScope ["self", "parent", "facts"] ["self", "parent", "facts"] (defScope s_Region___init__) := ⟨rfl, rfl, rfl, by decide +kernel, rfl, by decide +kernel, by decide +kernel⟩
theorem sc_Entry___init__ : FnScope ["self", "number", "record", "leaves"] ["self", "number", "record", "leaves"] (defScope s_Entry___init__) := ⟨rfl, rfl, rfl, by decide +kernel, rfl, by decide +kernel, by decide +kernel⟩
theorem sc_Entry___eq__ : FnScope ["self", "other"] ["self", "other"] (defScope s_Entry___eq__) := ⟨rfl, rfl, rfl, by decide +kernel, rfl, by decide +kernel, by decide +kernel⟩
theorem sc_Offer___init__ : FnScope ["self", "partitions", "entries", "regions"] ["self", "partitions", "entries"] (defScope s_Offer___init__) := ⟨rfl, rfl, rfl, by decide +kernel, rfl, by decide +kernel, by decide +kernel⟩
theorem sc_piece_at : FnScope ["offer", "index"] ["offer", "index"] (defScope s_piece_at) := ⟨rfl, rfl, rfl, by decide +kernel, rfl, by decide +kernel, by decide +kernel⟩
theorem sc_is_digit : FnScope ["char"] ["char"] (defScope s_is_digit) := ⟨rfl, rfl, rfl, by decide +kernel, rfl, by decide +kernel, by decide +kernel⟩
theorem sc_number_in : FnScope ["text", "char"] ["text"] (defScope s_number_in) := ⟨rfl, rfl, rfl, by decide +kernel, rfl, by decide +kernel, by decide +kernel⟩
theorem sc_read_file_name : FnScope ["text", "words", "numbers", "word"] ["text"] (defScope s_read_file_name) := ⟨rfl, rfl, rfl, by decide +kernel, rfl, by decide +kernel, by decide +kernel⟩
theorem sc_law_record : FnScope ["k", "state"] ["k", "state"] (defScope s_law_record) := ⟨rfl, rfl, rfl, by decide +kernel, rfl, by decide +kernel, by decide +kernel⟩
theorem sc_pieces_of : FnScope ["offer"] ["offer"] (defScope s_pieces_of) := ⟨rfl, rfl, rfl, by decide +kernel, rfl, by decide +kernel, by decide +kernel⟩
theorem sc_segment_file : FnScope ["name", "start", "number"] ["name"] (defScope s_segment_file) := ⟨rfl, rfl, rfl, by decide +kernel, rfl, by decide +kernel, by decide +kernel⟩
theorem sc_start_file : FnScope ["start"] ["start"] (defScope s_start_file) := ⟨rfl, rfl, rfl, by decide +kernel, rfl, by decide +kernel, by decide +kernel⟩
theorem sc_law : FnScope ["script", "state", "many", "entries", "k", "offer", "index", "piece", "due", "a", "b", "wrong"] ["script"] (defScope s_law) := ⟨rfl, rfl, rfl, by decide +kernel, rfl, by decide +kernel, by decide +kernel⟩
/-! the mathematics -/
open TP

theorem getD_lt {ns : List Int} {k : Nat} (h : k < ns.length) : ns[k]? = some (ns.getD k 0) := by
  rw [List.getD_eq_getElem?_getD, List.getElem?_eq_getElem h]; rfl
theorem getD_ge {ns : List Int} {k : Nat} (h : ¬ k < ns.length) : ns.getD k 0 = 0 := by
  rw [List.getD_eq_getElem?_getD, List.getElem?_eq_none (by omega)]; rfl
def row1 (ns : List Int) (k : Nat) : Int := if ns.getD k 0 < 0 then -2 * ns.getD k 0 - 1 else ns.getD k 0
def rowA (c : Int) (k : Nat) : Int := (c * 48271 + k * 69621 + 11) % 2147483647
def rowB (a c : Int) (k : Nat) : Int := (a * 16807 + c * 7 + k + 5) % 2147483629
def rowC (a b : Int) : Int := (b * 39373 + a * b + 3) % 2147483587
theorem rowZ_hi {ns : List Int} {k : Nat} (h : ¬ row1 ns k < 10 ^ 9) : rowZ ns k = row1 ns k := by
  unfold rowZ
  exact if_neg h
theorem rowZ_lo {ns : List Int} {k : Nat} (h : row1 ns k < 10 ^ 9) : rowZ ns k = rowA (row1 ns k) k + rowB (rowA (row1 ns k) k) (row1 ns k) k * 2147483647 + rowC (rowA (row1 ns k) k) (rowB (rowA (row1 ns k) k) (row1 ns k) k) * 2147483647 ^ 2 := by
  unfold rowZ
  exact if_pos h
theorem row1_nn (ns : List Int) (k : Nat) : 0 ≤ row1 ns k := by
  unfold row1
  by_cases h : ns.getD k 0 < 0
  · rw [if_pos h]; omega
  · rw [if_neg h]; omega
theorem rowZ_nn (ns : List Int) (k : Nat) : 0 ≤ rowZ ns k := by
  by_cases h : row1 ns k < 10 ^ 9
  · rw [rowZ_lo h]
    have a0 : 0 ≤ rowA (row1 ns k) k := Int.emod_nonneg _ (by decide)
    have b0 : 0 ≤ rowB (rowA (row1 ns k) k) (row1 ns k) k := Int.emod_nonneg _ (by decide)
    have d0 : 0 ≤ rowC (rowA (row1 ns k) k) (rowB (rowA (row1 ns k) k) (row1 ns k) k) := Int.emod_nonneg _ (by decide)
    have e2 : (2147483647 : Int) ^ 2 = 4611686014132420609 := by decide
    rw [e2]
    omega
  · rw [rowZ_hi h]; exact row1_nn ns k

structure Record where
  name : Str
  vector : (List Int)
  fields : (List (Str × Int))
  words : (List (Str × Int))
deriving DecidableEq
structure Region where
  parent : (Option Int)
  facts : (List Int)
deriving DecidableEq
structure Entry where
  number : Int
  record : Record
  leaves : (List Int)
deriving DecidableEq
structure Offer where
  partitions : (List (List Region))
  entries : (List Entry)
deriving DecidableEq
inductive FName
  | k_segment (a1 : (Int × Int))
  | k_start (a1 : Int)
deriving DecidableEq
def FName.tag : FName → Str
  | .k_segment a1 => "segment"
  | .k_start a1 => "start"
def d_FName : FName → PyData
  | .k_segment a1 => (dP2 PyData.str (dP2 PyData.int PyData.int)) (("segment" : Str), a1)
  | .k_start a1 => (dP2 PyData.str PyData.int) (("start" : Str), a1)
theorem FName.tag_segment {a1 : (Int × Int)} : FName.tag (.k_segment a1) = "segment" := of_eq_true (eq_self _)
theorem FName.tag_start {a1 : Int} : FName.tag (.k_start a1) = "start" := of_eq_true (eq_self _)
theorem FName.ne_segment_start : (("segment" : Str) = "start") = False := eq_false (by decide +kernel)
theorem FName.ne_start_segment : (("start" : Str) = "segment") = False := eq_false (by decide +kernel)


def F_kind_of_value (x_worth : Int) : Str :=
  if false = true then
  ("flag" : Str)
  else
  if true = true then
  ("integer" : Str)
  else
  ("text" : Str)
def F_same_fields (x_ones : (List (Str × Int))) (x_others : (List (Str × Int))) : Bool :=
  ((decide ((x_ones.map (fun (x_3 : (Str × Int)) => (F_kind_of_value x_3.2))) = (x_others.map (fun (x_13 : (Str × Int)) => (F_kind_of_value x_13.2))))) && (decide (x_ones = x_others)))
def F_Record___init__ (x_name : Str) (x_vector : (List Int)) (x_fields : (List (Str × Int))) (x_words : (List (Str × Int))) : Record :=
  (⟨x_name, x_vector, x_fields, x_words⟩ : Record)
def F_Record___eq__ (x_self : Record) (x_other : Record) : Bool :=
  (true && ((decide (x_self.name = x_other.name)) && ((decide (x_self.vector = x_other.vector)) && ((F_same_fields x_self.fields x_other.fields) && (decide (x_self.words = x_other.words))))))
def F_Region___init__ (x_parent : (Option Int)) (x_facts : (List Int)) : Region :=
  (⟨x_parent, x_facts⟩ : Region)
def F_Entry___init__ (x_number : Int) (x_record : Record) (x_leaves : (List Int)) : Entry :=
  (⟨x_number, x_record, x_leaves⟩ : Entry)
def F_Entry___eq__ (x_self : Entry) (x_other : Entry) : Bool :=
  (true && ((decide (x_self.number = x_other.number)) && ((F_Record___eq__ x_self.record x_other.record) && (decide (x_self.leaves = x_other.leaves)))))
def F_Offer___init__ (x_partitions : (List (List Region))) (x_entries : (List Entry)) : Offer :=
  (⟨x_partitions, x_entries⟩ : Offer)
def F_piece_at (x_offer : Offer) (x_index : Int) : (List Entry) :=
  if (decide (x_index < (0 : Int))) = true then
  ([] : List Entry)
  else
  (cutA x_offer.entries (some (x_index * (4 : Int))) (some ((x_index + (1 : Int)) * (4 : Int))))
def F_is_digit (x_char : Str) : Bool :=
  ((!decide (x_char.cps.toList < ("0" : Str).cps.toList)) && (!decide (("9" : Str).cps.toList < x_char.cps.toList)))
def F_number_in (x_text : Str) : Option (Option Int) :=
  if ((decide (x_text = ("" : Str))) || (!(((x_text.cps.toList.map fun c => (⟨#[c]⟩ : Str)).map (fun (x_72 : Str) => (F_is_digit x_72))).all id))) = true then
  some none
  else
  (atSi x_text (0 : Int)).bind fun i_76 =>
  if ((decide (i_76 = ("0" : Str))) && (decide ((1 : Int) < (x_text.length : Int)))) = true then
  some none
  else
  (intText? x_text).bind fun n_79 =>
  if x_text.length ≤ 640 then
  some (some n_79) else none
def F_read_file_name (x_text : Str) : Option (Option FName) :=
  if ((" " : Str).length == 0) = false then
  if x_text.length + 2 ≤ 16777216 then
  if ((Txt.split x_text (" " : Str)).all okS) = true then
  (some (Txt.split x_text (" " : Str))).bind fun x_words_97 =>
  (mapO (fun (x_101 : Str) => ((F_number_in x_101).bind fun r_104 =>
  some r_104 : Option (Option Int))) (cutA x_words_97 (some (1 : Int)) none)).bind fun l_106 =>
  if (inO none l_106) = true then
  some none
  else
  (atI x_words_97 (0 : Int)).bind fun i_111 =>
  if ((decide (i_111 = ("segment" : Str))) && (decide ((l_106.length : Int) = (2 : Int)))) = true then
  (atI l_106 (0 : Int)).bind fun i_114 =>
  (i_114).bind fun u_116 =>
  (atI l_106 (1 : Int)).bind fun i_118 =>
  (i_118).bind fun u_120 =>
  some (some (FName.k_segment (u_116, u_120)))
  else
  (atI x_words_97 (0 : Int)).bind fun i_122 =>
  if ((decide (i_122 = ("start" : Str))) && (decide ((l_106.length : Int) = (1 : Int)))) = true then
  (atI l_106 (0 : Int)).bind fun i_125 =>
  (i_125).bind fun u_127 =>
  some (some (FName.k_start u_127))
  else
  some none else none else none else none
def F_law_record (ds : DS) (x_k : Int) : Option (Record × DS) :=
  if StrIOk x_k then
  if ("r" : Str).length + (strI x_k).length ≤ 16777216 then
  some ((F_Record___init__ (("r" : Str) ++ (strI x_k)) ([((nxV ds (5 : Int)) - (2 : Int)), ((nxV (nxS ds (5 : Int)) (5 : Int)) - (2 : Int))] : List Int) [] []), (nxS (nxS ds (5 : Int)) (5 : Int))) else none else none
def F_pieces_of (x_offer : Offer) : Int :=
  ((((x_offer.entries.length : Int) + (4 : Int)) - (1 : Int)) / (4 : Int))
def F_segment_file (x_name : (Int × Int)) : Option Str :=
  if Str.empty.length + ("segment " : Str).length ≤ 16777216 then
  if StrIOk x_name.1 then
  if (Str.empty ++ ("segment " : Str)).length + (strI x_name.1).length ≤ 16777216 then
  if ((Str.empty ++ ("segment " : Str)) ++ (strI x_name.1)).length + (" " : Str).length ≤ 16777216 then
  if StrIOk x_name.2 then
  if (((Str.empty ++ ("segment " : Str)) ++ (strI x_name.1)) ++ (" " : Str)).length + (strI x_name.2).length ≤ 16777216 then
  some ((((Str.empty ++ ("segment " : Str)) ++ (strI x_name.1)) ++ (" " : Str)) ++ (strI x_name.2)) else none else none else none else none else none else none
def F_start_file (x_start : Int) : Option Str :=
  if Str.empty.length + ("start " : Str).length ≤ 16777216 then
  if StrIOk x_start then
  if (Str.empty ++ ("start " : Str)).length + (strI x_start).length ≤ 16777216 then
  some ((Str.empty ++ ("start " : Str)) ++ (strI x_start)) else none else none else none
def L_law_1 (l_174 : (List Entry × DS)) (x_offer_178 : Offer) (x_184 : Int) (w_183 : Unit) : Option (Flow Bool Unit) :=
  (if (decide ((0 : Int) ≤ x_184)) = true then
  (some (cutA l_174.1 (some ((4 : Int) * x_184)) (some (((4 : Int) * x_184) + (4 : Int))))).bind fun x_due_236 =>
  some x_due_236
  else
  some ([] : List Entry) : Option (List Entry)).bind fun w_222 =>
  if ((!true) || (!decide ((F_piece_at x_offer_178 x_184) = w_222))) = true then
  some (Flow.ret false)
  else
  some (Flow.go ())
def F_law (ns : List Int) : Option Bool :=
  (some (nxV (DS.mk ns 0 0) (12 : Int))).bind fun x_many_163 =>
  if RangeOk 0 x_many_163 then
  (mapS (fun (x_168 : Int) (s_169 : DS) => ((F_law_record s_169 x_168).bind fun r_172 =>
  some ((F_Entry___init__ (x_168 + (1 : Int)) r_172.1 ([(0 : Int)] : List Int)), r_172.2) : Option (Entry × DS))) (rangeZ 0 x_many_163) (nxS (DS.mk ns 0 0) (12 : Int))).bind fun l_174 =>
  (some (F_Offer___init__ ([([(F_Region___init__ none ([] : List Int))] : List Region)] : List (List Region)) l_174.1)).bind fun x_offer_178 =>
  if ((!decide ((4 : Int) = (4 : Int))) || (!decide ((F_pieces_of x_offer_178) = ((x_many_163 + (3 : Int)) / (4 : Int))))) = true then
  some false
  else
  (forS (L_law_1 l_174 x_offer_178) (rangeZ (-(2 : Int)) (5 : Int)) ()).bind (Flow.thn (fun w_201 =>
  (atI ([(9 : Int), ((10 : Int) ^ (10 : Int).toNat)] : List Int) (nxV l_174.2 (2 : Int))).bind fun i_243 =>
  if NxOk i_243 then
  (some (nxV (nxS l_174.2 (2 : Int)) i_243)).bind fun x_a_246 =>
  (atI ([(9 : Int), ((10 : Int) ^ (10 : Int).toNat)] : List Int) (nxV (nxS (nxS l_174.2 (2 : Int)) i_243) (2 : Int))).bind fun i_250 =>
  if NxOk i_250 then
  (some (nxV (nxS (nxS (nxS l_174.2 (2 : Int)) i_243) (2 : Int)) i_250)).bind fun x_b_253 =>
  (F_segment_file (x_a_246, x_b_253)).bind fun r_257 =>
  if StrIOk x_a_246 then
  if ("segment " : Str).length + (strI x_a_246).length ≤ 16777216 then
  if (("segment " : Str) ++ (strI x_a_246)).length + (" " : Str).length ≤ 16777216 then
  if StrIOk x_b_253 then
  if ((("segment " : Str) ++ (strI x_a_246)) ++ (" " : Str)).length + (strI x_b_253).length ≤ 16777216 then
  (if (!decide (r_257 = (((("segment " : Str) ++ (strI x_a_246)) ++ (" " : Str)) ++ (strI x_b_253)))) = true then some true else ((F_start_file x_a_246).bind fun r_271 =>
  if StrIOk x_a_246 then
  if ("start " : Str).length + (strI x_a_246).length ≤ 16777216 then
  some (!decide (r_271 = (("start " : Str) ++ (strI x_a_246)))) else none else none)).bind fun b_276 =>
  if b_276 = true then
  some false
  else
  (F_segment_file (x_a_246, x_b_253)).bind fun r_278 =>
  (F_read_file_name r_278).bind fun r_280 =>
  (if (!(PyData.eqv ((optD d_FName) r_280) (d_FName (FName.k_segment (x_a_246, x_b_253))))) = true then some true else ((F_start_file x_b_253).bind fun r_282 =>
  (F_read_file_name r_282).bind fun r_284 =>
  some (!(PyData.eqv ((optD d_FName) r_284) (d_FName (FName.k_start x_b_253)))))).bind fun b_287 =>
  if b_287 = true then
  some false
  else
  (some ([("segment 1" : Str), ("segment 1 2 3" : Str), ("segment 01 2" : Str), ("segment 1 x" : Str), ("start" : Str), ("start 1 2" : Str), ("start -1" : Str), ("log 1" : Str)] : List Str)).bind fun x_wrong_289 =>
  if x_wrong_289.length + ([("" : Str), ("segment  1 2" : Str), ("Start 1" : Str), ("start 00" : Str), ("start 1 " : Str)] : List Str).length ≤ 16777216 then
  (some (x_wrong_289 ++ ([("" : Str), ("segment  1 2" : Str), ("Start 1" : Str), ("start 00" : Str), ("start 1 " : Str)] : List Str))).bind fun x_wrong_294 =>
  (atI x_wrong_294 (nxV (nxS (nxS (nxS (nxS l_174.2 (2 : Int)) i_243) (2 : Int)) i_250) (13 : Int))).bind fun i_298 =>
  (F_read_file_name i_298).bind fun r_300 =>
  some r_300.isNone else none else none else none else none else none else none else none else none) (fun r => some r)) else none
-- MATH BEGINS
theorem eq_Record (x y : Record) : F_Record___eq__ x y = decide (x = y) := by
  obtain ⟨n1, v1, f1, w1⟩ := x
  obtain ⟨n2, v2, f2, w2⟩ := y
  unfold F_Record___eq__ F_same_fields
  simp only [Record.mk.injEq, Bool.decide_and, Bool.true_and]
  by_cases h : f1 = f2
  · subst h
    simp
  · simp [h]
theorem eq_Entry (x y : Entry) : F_Entry___eq__ x y = decide (x = y) := by
  obtain ⟨n1, r1, l1⟩ := x
  obtain ⟨n2, r2, l2⟩ := y
  unfold F_Entry___eq__
  rw [eq_Record]
  simp [Bool.decide_and]

/-! numbers as texts -/
theorem tl_strI (n : Nat) : TL.tl (strI (n : Int)) = TL.numL n := TL.tl_num n
theorem num_len {n : Nat} (h : n < 10 ^ 10) : (TL.numL n).length ≤ 10 := TL.numL_len (by decide) h
theorem strI_len {n : Nat} (h : n < 10 ^ 10) : (strI (n : Int)).length ≤ 10 := by
  rw [TL.len_tl, tl_strI]
  exact num_len h
theorem strI_ok {n : Nat} (h : n < 10 ^ 10) : okS (strI (n : Int)) = true := by
  unfold okS
  rw [Bool.and_eq_true]
  exact ⟨strOk_of _, decide_eq_true (Nat.le_trans (strI_len h) (by decide))⟩
theorem ok_strI {n : Nat} (h : n < 10 ^ 10) : StrIOk (n : Int) := strIOk_of (by omega) (by
  have : (n : Int) < 10 ^ 10 := by
    have e : ((10 : Int) ^ 10) = ((10 ^ 10 : Nat) : Int) := by decide
    rw [e]
    exact Int.ofNat_lt.mpr h
  exact Int.lt_trans this (by decide))
theorem head_ok (n : Nat) : ∃ c r, TL.numL n = c :: r ∧ (c = 48 → r = []) := by
  have key : ∀ n : Nat, 1 ≤ n → ∃ c r, TL.numL n = c :: r ∧ c ≠ 48 := fun n => by
    induction n using Nat.strongRecOn with
    | _ n ih =>
      intro h
      by_cases q : n < 10
      · rw [TL.numL_lt q]
        exact ⟨48 + n, [], rfl, by omega⟩
      · obtain ⟨c, r, e, hc⟩ := ih (n / 10) (by omega) (by omega)
        rw [TL.numL_step (by omega), e]
        exact ⟨c, r ++ [48 + n % 10], rfl, hc⟩
  cases n with
  | zero => exact ⟨48, [], TL.numL_lt (by decide), fun _ => rfl⟩
  | succ n =>
    obtain ⟨c, r, e, hc⟩ := key (n + 1) (by omega)
    exact ⟨c, r, e, fun q => absurd q hc⟩
theorem digit_ok (c : Nat) (h0 : 48 ≤ c) (h1 : c ≤ 57) : F_is_digit ⟨#[c]⟩ = true := by
  have : c = 48 ∨ c = 49 ∨ c = 50 ∨ c = 51 ∨ c = 52 ∨ c = 53 ∨ c = 54 ∨ c = 55 ∨ c = 56 ∨ c = 57 := by omega
  rcases this with rfl | rfl | rfl | rfl | rfl | rfl | rfl | rfl | rfl | rfl <;> decide +kernel
theorem number_eq {n : Nat} (h : n < 10 ^ 10) : F_number_in (strI (n : Int)) = some (some (n : Int)) := by
  unfold F_number_in
  obtain ⟨c, r, e, hc⟩ := head_ok n
  have et : (strI (n : Int)).cps.toList = c :: r := (tl_strI n).trans e
  have ne : strI (n : Int) ≠ ("" : Str) := fun z => by
    rw [z] at et
    exact absurd (show ("" : Str).cps.toList = [] by decide +kernel) (by rw [et]; simp)
  have al : (((strI (n : Int)).cps.toList.map fun c => (⟨#[c]⟩ : Str)).map (fun (x_72 : Str) => (F_is_digit x_72))).all id = true := by
    rw [List.all_map, List.all_map, List.all_eq_true]
    intro d hd
    have hd2 : d ∈ TL.numL n := by rw [← tl_strI n]; exact hd
    have := TL.numL_digits n d hd2
    exact digit_ok d this.1 this.2
  rw [al, if_neg (by simp [ne])]
  have ea : atSi (strI (n : Int)) 0 = some ⟨#[c]⟩ := by
    unfold atSi
    rw [et, show atI (c :: r) 0 = some c from TP.atI_nat (k := 0) rfl]
    rfl
  rw [ea, bsome]
  have hl : (strI (n : Int)).length ≤ 10 := strI_len h
  have g : ((decide ((⟨#[c]⟩ : Str) = ("0" : Str))) && (decide ((1 : Int) < ((strI (n : Int)).length : Int)))) = false := by
    by_cases q : (⟨#[c]⟩ : Str) = ("0" : Str)
    · have c48 : c = 48 := by
        have z : (⟨#[c]⟩ : Str).cps.toList = ("0" : Str).cps.toList := congrArg (fun s : Str => s.cps.toList) q
        rw [show ("0" : Str).cps.toList = [48] by decide +kernel] at z
        exact (List.cons.inj z).1
      have hr := hc c48
      have hl1 : (strI (n : Int)).length = 1 := by rw [TL.len_tl]; show (strI (n : Int)).cps.toList.length = 1; rw [et, hr]; rfl
      rw [hl1]
      simp
    · rw [decide_eq_false q, Bool.false_and]
  rw [if_neg (by rw [g]; decide), show intText? (strI (n : Int)) = some (n : Int) from TL.int_num (Nat.le_trans (num_len h) (by decide)), bsome, if_pos (by omega)]
/-! names of files -/
def segT (a b : Int) : Str := ((("segment " : Str) ++ strI a) ++ (" " : Str)) ++ strI b
def startT (b : Int) : Str := ("start " : Str) ++ strI b
theorem empty_app (x : Str) : Str.empty ++ x = x := TL.ext_tl (by rw [TL.tl_append]; rfl)
theorem seg_len {a b : Nat} (ha : a < 10 ^ 10) (hb : b < 10 ^ 10) : (segT a b).length ≤ 40 := by
  unfold segT
  have h1 := strI_len ha
  have h2 := strI_len hb
  rw [str_app_len, str_app_len, str_app_len, show ("segment " : Str).length = 8 by decide +kernel, show (" " : Str).length = 1 by decide +kernel]
  omega
theorem start_len {b : Nat} (hb : b < 10 ^ 10) : (startT b).length ≤ 40 := by
  unfold startT
  have h2 := strI_len hb
  rw [str_app_len, show ("start " : Str).length = 6 by decide +kernel]
  omega
theorem segment_file_eq {a b : Nat} (ha : a < 10 ^ 10) (hb : b < 10 ^ 10) : F_segment_file ((a : Int), (b : Int)) = some (segT a b) := by
  unfold F_segment_file
  have h1 := strI_len ha
  have h2 := strI_len hb
  have l1 : ("segment " : Str).length = 8 := by decide +kernel
  have l2 : (" " : Str).length = 1 := by decide +kernel
  have l0 : Str.empty.length = 0 := by decide +kernel
  dsimp only
  rw [if_pos (by omega), if_pos (ok_strI ha), empty_app, if_pos (by omega), if_pos (by rw [str_app_len]; omega), if_pos (ok_strI hb), if_pos (by rw [str_app_len, str_app_len]; omega)]
  rfl
theorem start_file_eq {b : Nat} (hb : b < 10 ^ 10) : F_start_file (b : Int) = some (startT b) := by
  unfold F_start_file
  have h2 := strI_len hb
  have l1 : ("start " : Str).length = 6 := by decide +kernel
  have l0 : Str.empty.length = 0 := by decide +kernel
  rw [if_pos (by omega), if_pos (ok_strI hb), empty_app, if_pos (by omega)]
  rfl
theorem no_space (n : Nat) : 32 ∉ TL.tl (strI (n : Int)) := by
  rw [tl_strI]
  exact TL.numL_free (.inl (by decide))
theorem seg_split (a b : Nat) : Txt.split (segT a b) (" " : Str) = [("segment" : Str), strI (a : Int), strI (b : Int)] := by
  have e : segT a b = Txt.join (" " : Str) [("segment" : Str), strI (a : Int), strI (b : Int)] := by
    rw [TL.join_eq]
    refine TL.ext_tl ?_
    rw [TL.tl_join]
    unfold segT
    rw [TL.tl_append, TL.tl_append, TL.tl_append]
    show _ = TL.tl ("segment" : Str) ++ (TL.tl (" " : Str) ++ (TL.tl (strI (a : Int)) ++ (TL.tl (" " : Str) ++ TL.tl (strI (b : Int)))))
    rw [show TL.tl ("segment " : Str) = TL.tl ("segment" : Str) ++ TL.tl (" " : Str) by decide +kernel, List.append_assoc, List.append_assoc, List.append_assoc]
  rw [e]
  refine TL.split_join (s := 32) (S := []) (by decide +kernel) (by decide +kernel) (by simp) fun p hp => ?_
  simp only [List.mem_cons, List.not_mem_nil, or_false] at hp
  rcases hp with rfl | rfl | rfl
  · decide +kernel
  · exact no_space a
  · exact no_space b
theorem start_split (b : Nat) : Txt.split (startT b) (" " : Str) = [("start" : Str), strI (b : Int)] := by
  have e : startT b = Txt.join (" " : Str) [("start" : Str), strI (b : Int)] := by
    rw [TL.join_eq]
    refine TL.ext_tl ?_
    rw [TL.tl_join]
    unfold startT
    rw [TL.tl_append]
    show _ = TL.tl ("start" : Str) ++ (TL.tl (" " : Str) ++ TL.tl (strI (b : Int)))
    rw [show TL.tl ("start " : Str) = TL.tl ("start" : Str) ++ TL.tl (" " : Str) by decide +kernel, List.append_assoc]
  rw [e]
  refine TL.split_join (s := 32) (S := []) (by decide +kernel) (by decide +kernel) (by simp) fun p hp => ?_
  simp only [List.mem_cons, List.not_mem_nil, or_false] at hp
  rcases hp with rfl | rfl
  · decide +kernel
  · exact no_space b
theorem read_seg {a b : Nat} (ha : a < 10 ^ 10) (hb : b < 10 ^ 10) : F_read_file_name (segT a b) = some (some (.k_segment ((a : Int), (b : Int)))) := by
  unfold F_read_file_name
  have hl := seg_len ha hb
  rw [if_pos (by decide +kernel), if_pos (by omega), seg_split, if_pos (by
    rw [List.all_cons, List.all_cons, List.all_cons, strI_ok ha, strI_ok hb]
    decide +kernel), bsome]
  have hc : cutA [("segment" : Str), strI (a : Int), strI (b : Int)] (some (1 : Int)) none = [strI (a : Int), strI (b : Int)] := by rw [cutA_from _ (by decide)]; rfl
  have hm : mapO (fun (x_101 : Str) => ((F_number_in x_101).bind fun r_104 => some r_104 : Option (Option Int))) [strI (a : Int), strI (b : Int)] = some [some (a : Int), some (b : Int)] := by
    show ((F_number_in (strI (a : Int))).bind _).bind _ = _
    rw [number_eq ha, bsome, bsome]
    show (((F_number_in (strI (b : Int))).bind _).bind _).bind _ = _
    rw [number_eq hb]
    rfl
  have hi : inO none [some (a : Int), some (b : Int)] = false := by unfold inO; simp
  rw [hc, hm, bsome, hi, if_neg (by decide), show atI [("segment" : Str), strI (a : Int), strI (b : Int)] 0 = some ("segment" : Str) from TP.atI_nat (k := 0) rfl, bsome, if_pos (by simp)]
  rfl
theorem read_start {b : Nat} (hb : b < 10 ^ 10) : F_read_file_name (startT b) = some (some (.k_start (b : Int))) := by
  unfold F_read_file_name
  have hl := start_len hb
  rw [if_pos (by decide +kernel), if_pos (by omega), start_split, if_pos (by
    rw [List.all_cons, List.all_cons, strI_ok hb]
    decide +kernel), bsome]
  have hc : cutA [("start" : Str), strI (b : Int)] (some (1 : Int)) none = [strI (b : Int)] := by rw [cutA_from _ (by decide)]; rfl
  have hm : mapO (fun (x_101 : Str) => ((F_number_in x_101).bind fun r_104 => some r_104 : Option (Option Int))) [strI (b : Int)] = some [some (b : Int)] := by
    show ((F_number_in (strI (b : Int))).bind _).bind _ = _
    rw [number_eq hb]
    rfl
  have hi : inO none [some (b : Int)] = false := by unfold inO; simp
  rw [hc, hm, bsome, hi, if_neg (by decide), show atI [("start" : Str), strI (b : Int)] 0 = some ("start" : Str) from TP.atI_nat (k := 0) rfl, bsome, if_neg (by simp), bsome, if_pos (by simp)]
  rfl
def WRONG : List Str := [("segment 1" : Str), ("segment 1 2 3" : Str), ("segment 01 2" : Str), ("segment 1 x" : Str), ("start" : Str), ("start 1 2" : Str), ("start -1" : Str), ("log 1" : Str)] ++ [("" : Str), ("segment  1 2" : Str), ("Start 1" : Str), ("start 00" : Str), ("start 1 " : Str)]
theorem read_wrong : ∀ x ∈ WRONG, F_read_file_name x = some none := by decide +kernel
/-! pieces -/
theorem piece_turn (l : List Entry × DS) (ps : List (List Region)) (x : Int) : L_law_1 l ⟨ps, l.1⟩ x () = some (.go ()) := by
  unfold L_law_1 F_piece_at
  by_cases h : x < 0
  · rw [if_neg (by simp; omega), bsome, if_pos (decide_eq_true h), if_neg (by simp)]
  · rw [if_pos (by simp; omega), bsome, bsome, if_neg (fun z => h (of_decide_eq_true z))]
    dsimp only
    rw [show x * 4 = 4 * x by omega, show (x + 1) * 4 = 4 * x + 4 by omega, if_neg (by simp)]
theorem entries_ex (many : Int) (h0 : 0 ≤ many) (h1 : many ≤ 100) (s : DS) : ∃ l s', mapS (fun (x_168 : Int) (s_169 : DS) => ((F_law_record s_169 x_168).bind fun r_172 => some ((F_Entry___init__ (x_168 + (1 : Int)) r_172.1 ([(0 : Int)] : List Int)), r_172.2) : Option (Entry × DS))) (rangeZ 0 many) s = some (l, s') ∧ (l.length : Int) = many := by
  obtain ⟨l, s', e, hl, _⟩ := mapS_mem (f := fun (x_168 : Int) (s_169 : DS) => ((F_law_record s_169 x_168).bind fun r_172 => some ((F_Entry___init__ (x_168 + (1 : Int)) r_172.1 ([(0 : Int)] : List Int)), r_172.2) : Option (Entry × DS))) (R := fun _ => True) (xs := rangeZ 0 many) s (fun x hx s => by
    obtain ⟨a, b⟩ := rangeZ_mem hx
    obtain ⟨n, rfl⟩ := Int.eq_ofNat_of_zero_le a
    have hn : n < 10 ^ 10 := by omega
    have := strI_len hn
    unfold F_law_record
    rw [if_pos (ok_strI hn), if_pos (by rw [show ("r" : Str).length = 1 by decide +kernel]; omega)]
    exact ⟨_, _, rfl, trivial⟩)
  rw [rangeZ_len] at hl
  exact ⟨l, s', e, by omega⟩
theorem num_ex (s : DS) : ∃ i, atI ([(9 : Int), ((10 : Int) ^ (10 : Int).toNat)] : List Int) (nxV s (2 : Int)) = some i ∧ NxOk i ∧ ∀ s', ∃ n : Nat, nxV s' i = (n : Int) ∧ n < 10 ^ 10 := by
  have a := nx_ge s (m := 2) (by decide)
  have b := nx_lt s (m := 2) (by decide)
  obtain ⟨i, e, hm⟩ := atI_lit (xs := [(9 : Int), ((10 : Int) ^ (10 : Int).toNat)]) a b
  have e10 : ((10 : Int) ^ (10 : Int).toNat) = 10000000000 := by decide
  have hi : 0 < i ∧ i ≤ 10000000000 := by
    simp only [List.mem_cons, List.not_mem_nil, or_false, e10] at hm
    omega
  refine ⟨i, e, nxOk_of (by omega) (by omega), fun s' => ?_⟩
  have c := nx_ge s' (m := i) (by omega)
  have d := nx_lt s' (m := i) (by omega)
  obtain ⟨n, hn⟩ := Int.eq_ofNat_of_zero_le c
  exact ⟨n, hn, by omega⟩
theorem eqv_self (f : FName) : PyData.eqv (optD d_FName (some f)) (d_FName f) = true := by
  show PyData.eqv (d_FName f) (d_FName f) = true
  cases f <;> simp [d_FName, dP2, PyData.eqv, PyData.eqvAll]
theorem law_true (ns : List Int) (h : ns.length ≤ 63) : F_law ns = some true := by
  unfold F_law
  have a0 := nx_ge (DS.mk ns 0 0) (m := 12) (by decide)
  have a1 := nx_lt (DS.mk ns 0 0) (m := 12) (by decide)
  rw [bsome, if_pos (rangeOk_of (by omega) (by omega) (by omega) (by omega))]
  obtain ⟨l, s, e, hl⟩ := entries_ex (nxV (DS.mk ns 0 0) 12) a0 (by omega) (nxS (DS.mk ns 0 0) 12)
  rw [e, bsome, bsome]
  have hp : F_pieces_of (F_Offer___init__ ([([(F_Region___init__ none ([] : List Int))] : List Region)] : List (List Region)) l) = (nxV (DS.mk ns 0 0) 12 + 3) / 4 := by
    show ((((l.length : Int) + (4 : Int)) - (1 : Int)) / (4 : Int)) = _
    rw [hl, show nxV (DS.mk ns 0 0) 12 + 4 - 1 = nxV (DS.mk ns 0 0) 12 + 3 by omega]
  dsimp only
  rw [hp, if_neg (by simp)]
  obtain ⟨_, e1, _⟩ := forS_mem (f := L_law_1 (l, s) (F_Offer___init__ ([([(F_Region___init__ none ([] : List Int))] : List Region)] : List (List Region)) l)) (I := fun _ => True) (xs := rangeZ (-(2 : Int)) 5) (b := ()) trivial (fun x _ _ _ => ⟨(), piece_turn (l, s) _ x, trivial⟩)
  rw [e1, bsome, thn_go]
  obtain ⟨i, ei, hi, hi2⟩ := num_ex s
  obtain ⟨a, ea, ha⟩ := hi2 (nxS s 2)
  obtain ⟨j, ej, hj, hj2⟩ := num_ex (nxS (nxS s 2) i)
  obtain ⟨b, eb, hb⟩ := hj2 (nxS (nxS (nxS s 2) i) 2)
  have h1 := strI_len ha
  have h2 := strI_len hb
  have l1 : ("segment " : Str).length = 8 := by decide +kernel
  have l2 : (" " : Str).length = 1 := by decide +kernel
  have l3 : ("start " : Str).length = 6 := by decide +kernel
  rw [ei, bsome, if_pos hi, ea, bsome, ej, bsome, if_pos hj, eb, bsome, segment_file_eq ha hb, bsome, if_pos (ok_strI ha), if_pos (by omega), if_pos (by rw [str_app_len]; omega), if_pos (ok_strI hb), if_pos (by rw [str_app_len, str_app_len]; omega)]
  rw [if_neg (by simp [segT]), start_file_eq ha, bsome, if_pos (ok_strI ha), if_pos (by omega), show (!decide (startT (a : Int) = ("start " : Str) ++ strI (a : Int))) = false by simp [startT], bsome, if_neg (by decide), bsome, read_seg ha hb, bsome]
  rw [eqv_self, if_neg (by decide), start_file_eq hb, bsome, read_start hb, bsome, eqv_self, bsome, if_neg (by decide), bsome, if_pos (by decide), bsome]
  have c0 := nx_ge (nxS (nxS (nxS (nxS s 2) i) 2) j) (m := 13) (by decide)
  have c1 := nx_lt (nxS (nxS (nxS (nxS s 2) i) 2) j) (m := 13) (by decide)
  obtain ⟨w, ew, hw⟩ := atI_lit (xs := WRONG) c0 c1
  have hW : WRONG = [("segment 1" : Str), ("segment 1 2 3" : Str), ("segment 01 2" : Str), ("segment 1 x" : Str), ("start" : Str), ("start 1 2" : Str), ("start -1" : Str), ("log 1" : Str)] ++ [("" : Str), ("segment  1 2" : Str), ("Start 1" : Str), ("start 00" : Str), ("start 1 " : Str)] := rfl
  rw [← hW, ew, bsome, read_wrong w hw, bsome]
  rfl

def ff_Record (v0 v1 v2 v3 : V) : List (Str × V) := putF "words" v3 (putF "fields" v2 (putF "vector" v1 (putF "name" v0 [])))
theorem lk_Record_name {v0 v1 v2 v3 : V} : (ff_Record v0 v1 v2 v3).lookup ("name" : Str) = some v0 := by
  unfold ff_Record
  rw [lookup_putF, if_neg (by decide +kernel), lookup_putF, if_neg (by decide +kernel), lookup_putF, if_neg (by decide +kernel), lookup_putF, if_pos rfl]
theorem lk_Record_vector {v0 v1 v2 v3 : V} : (ff_Record v0 v1 v2 v3).lookup ("vector" : Str) = some v1 := by
  unfold ff_Record
  rw [lookup_putF, if_neg (by decide +kernel), lookup_putF, if_neg (by decide +kernel), lookup_putF, if_pos rfl]
theorem lk_Record_fields {v0 v1 v2 v3 : V} : (ff_Record v0 v1 v2 v3).lookup ("fields" : Str) = some v2 := by
  unfold ff_Record
  rw [lookup_putF, if_neg (by decide +kernel), lookup_putF, if_pos rfl]
theorem lk_Record_words {v0 v1 v2 v3 : V} : (ff_Record v0 v1 v2 v3).lookup ("words" : Str) = some v3 := by
  unfold ff_Record
  rw [lookup_putF, if_pos rfl]
theorem no_Record {v0 v1 v2 v3 : V} {m : Str} (h0 : ¬ m = "name" := by decide +kernel) (h1 : ¬ m = "vector" := by decide +kernel) (h2 : ¬ m = "fields" := by decide +kernel) (h3 : ¬ m = "words" := by decide +kernel) : (ff_Record v0 v1 v2 v3).lookup m = none := by
  unfold ff_Record
  rw [lookup_putF, if_neg h3, lookup_putF, if_neg h2, lookup_putF, if_neg h1, lookup_putF, if_neg h0]
  rfl
def ff_Region (v0 v1 : V) : List (Str × V) := putF "facts" v1 (putF "parent" v0 [])
theorem lk_Region_parent {v0 v1 : V} : (ff_Region v0 v1).lookup ("parent" : Str) = some v0 := by
  unfold ff_Region
  rw [lookup_putF, if_neg (by decide +kernel), lookup_putF, if_pos rfl]
theorem lk_Region_facts {v0 v1 : V} : (ff_Region v0 v1).lookup ("facts" : Str) = some v1 := by
  unfold ff_Region
  rw [lookup_putF, if_pos rfl]
theorem no_Region {v0 v1 : V} {m : Str} (h0 : ¬ m = "parent" := by decide +kernel) (h1 : ¬ m = "facts" := by decide +kernel) : (ff_Region v0 v1).lookup m = none := by
  unfold ff_Region
  rw [lookup_putF, if_neg h1, lookup_putF, if_neg h0]
  rfl
def ff_Entry (v0 v1 v2 : V) : List (Str × V) := putF "leaves" v2 (putF "record" v1 (putF "number" v0 []))
theorem lk_Entry_number {v0 v1 v2 : V} : (ff_Entry v0 v1 v2).lookup ("number" : Str) = some v0 := by
  unfold ff_Entry
  rw [lookup_putF, if_neg (by decide +kernel), lookup_putF, if_neg (by decide +kernel), lookup_putF, if_pos rfl]
theorem lk_Entry_record {v0 v1 v2 : V} : (ff_Entry v0 v1 v2).lookup ("record" : Str) = some v1 := by
  unfold ff_Entry
  rw [lookup_putF, if_neg (by decide +kernel), lookup_putF, if_pos rfl]
theorem lk_Entry_leaves {v0 v1 v2 : V} : (ff_Entry v0 v1 v2).lookup ("leaves" : Str) = some v2 := by
  unfold ff_Entry
  rw [lookup_putF, if_pos rfl]
theorem no_Entry {v0 v1 v2 : V} {m : Str} (h0 : ¬ m = "number" := by decide +kernel) (h1 : ¬ m = "record" := by decide +kernel) (h2 : ¬ m = "leaves" := by decide +kernel) : (ff_Entry v0 v1 v2).lookup m = none := by
  unfold ff_Entry
  rw [lookup_putF, if_neg h2, lookup_putF, if_neg h1, lookup_putF, if_neg h0]
  rfl
def ff_Offer (v0 v1 : V) : List (Str × V) := putF "entries" v1 (putF "partitions" v0 [])
theorem lk_Offer_partitions {v0 v1 : V} : (ff_Offer v0 v1).lookup ("partitions" : Str) = some v0 := by
  unfold ff_Offer
  rw [lookup_putF, if_neg (by decide +kernel), lookup_putF, if_pos rfl]
theorem lk_Offer_entries {v0 v1 : V} : (ff_Offer v0 v1).lookup ("entries" : Str) = some v1 := by
  unfold ff_Offer
  rw [lookup_putF, if_pos rfl]
theorem no_Offer {v0 v1 : V} {m : Str} (h0 : ¬ m = "partitions" := by decide +kernel) (h1 : ¬ m = "entries" := by decide +kernel) : (ff_Offer v0 v1).lookup m = none := by
  unfold ff_Offer
  rw [lookup_putF, if_neg h1, lookup_putF, if_neg h0]
  rfl
theorem putF_le {f : Str} {v : V} {fs : List (Str × V)} {n : Nat} (h : fs.length ≤ n) : (putF f v fs).length ≤ n + 1 := by
  induction fs generalizing n with
  | nil => show 1 ≤ n + 1; omega
  | cons x r ih =>
    obtain ⟨g, y⟩ := x
    show (if g = f then (g, v) :: r else (g, y) :: putF f v r).length ≤ n + 1
    rw [List.length_cons] at h
    by_cases e : g = f
    · rw [if_pos e, List.length_cons]; omega
    · rw [if_neg e, List.length_cons]
      have := ih (n := r.length) (Nat.le_refl _)
      omega
/-! what the top has made -/
set_option maxHeartbeats 0 in
structure Txt (K : PySem.W.Frag) (mg : Str → Option Value) where
  f_law_row : Addr
  d_law_row : FuncData
  F_law_row : Fun K "_law_row" "_law_row" s_law_row f_law_row d_law_row
  b_law_row : Binds K d_law_row ["script", "k"] []
  g_law_row : mg "_law_row" = some (.ref f_law_row)
  f_law_next : Addr
  d_law_next : FuncData
  F_law_next : Fun K "_law_next" "_law_next" s_law_next f_law_next d_law_next
  b_law_next : Binds K d_law_next ["state", "many"] []
  g_law_next : mg "_law_next" = some (.ref f_law_next)
  f_kind_of_value : Addr
  d_kind_of_value : FuncData
  F_kind_of_value : Fun K "kind_of_value" "kind_of_value" s_kind_of_value f_kind_of_value d_kind_of_value
  b_kind_of_value : Binds K d_kind_of_value ["worth"] []
  g_kind_of_value : mg "kind_of_value" = some (.ref f_kind_of_value)
  f_same_fields : Addr
  d_same_fields : FuncData
  F_same_fields : Fun K "same_fields" "same_fields" s_same_fields f_same_fields d_same_fields
  b_same_fields : Binds K d_same_fields ["ones", "others"] []
  g_same_fields : mg "same_fields" = some (.ref f_same_fields)
  f_Record___init__ : Addr
  d_Record___init__ : FuncData
  e_Record___init___fields : Addr
  et_Record___init___fields : ∀ H, SqT K H e_Record___init___fields []
  e_Record___init___words : Addr
  et_Record___init___words : ∀ H, SqT K H e_Record___init___words []
  F_Record___init__ : FunD K "__init__" "Record.__init__" (defArgs s_Record___init__) (defBody s_Record___init__) (defScope s_Record___init__) [] [("fields", .ref e_Record___init___fields), ("words", .ref e_Record___init___words)] f_Record___init__ d_Record___init__
  kb_Record___init__ : KBn K d_Record___init__ ["self", "name", "vector", "fields", "words"] 3 ["fields", "words"] (fun us ws => us ++ ws) (fun vs zs => vs ++ zs)
  ds_Record___init__ : List Value
  v_Record___init__ : Vals [.ref e_Record___init___fields, .ref e_Record___init___words] ds_Record___init__
  b_Record___init__ : Binds K d_Record___init__ ["self", "name", "vector", "fields", "words"] ds_Record___init__
  f_Record___eq__ : Addr
  d_Record___eq__ : FuncData
  F_Record___eq__ : Fun K "__eq__" "Record.__eq__" s_Record___eq__ f_Record___eq__ d_Record___eq__
  b_Record___eq__ : Binds K d_Record___eq__ ["self", "other"] []
  f_Region___init__ : Addr
  d_Region___init__ : FuncData
  F_Region___init__ : Fun K "__init__" "Region.__init__" s_Region___init__ f_Region___init__ d_Region___init__
  b_Region___init__ : Binds K d_Region___init__ ["self", "parent", "facts"] []
  f_Entry___init__ : Addr
  d_Entry___init__ : FuncData
  F_Entry___init__ : Fun K "__init__" "Entry.__init__" s_Entry___init__ f_Entry___init__ d_Entry___init__
  b_Entry___init__ : Binds K d_Entry___init__ ["self", "number", "record", "leaves"] []
  f_Entry___eq__ : Addr
  d_Entry___eq__ : FuncData
  F_Entry___eq__ : Fun K "__eq__" "Entry.__eq__" s_Entry___eq__ f_Entry___eq__ d_Entry___eq__
  b_Entry___eq__ : Binds K d_Entry___eq__ ["self", "other"] []
  f_Offer___init__ : Addr
  d_Offer___init__ : FuncData
  F_Offer___init__ : Fun K "__init__" "Offer.__init__" s_Offer___init__ f_Offer___init__ d_Offer___init__
  b_Offer___init__ : Binds K d_Offer___init__ ["self", "partitions", "entries"] []
  f_piece_at : Addr
  d_piece_at : FuncData
  F_piece_at : Fun K "piece_at" "piece_at" s_piece_at f_piece_at d_piece_at
  b_piece_at : Binds K d_piece_at ["offer", "index"] []
  g_piece_at : mg "piece_at" = some (.ref f_piece_at)
  f_is_digit : Addr
  d_is_digit : FuncData
  F_is_digit : Fun K "is_digit" "is_digit" s_is_digit f_is_digit d_is_digit
  b_is_digit : Binds K d_is_digit ["char"] []
  g_is_digit : mg "is_digit" = some (.ref f_is_digit)
  f_number_in : Addr
  d_number_in : FuncData
  F_number_in : Fun K "number_in" "number_in" s_number_in f_number_in d_number_in
  b_number_in : Binds K d_number_in ["text"] []
  g_number_in : mg "number_in" = some (.ref f_number_in)
  f_read_file_name : Addr
  d_read_file_name : FuncData
  F_read_file_name : Fun K "read_file_name" "read_file_name" s_read_file_name f_read_file_name d_read_file_name
  b_read_file_name : Binds K d_read_file_name ["text"] []
  g_read_file_name : mg "read_file_name" = some (.ref f_read_file_name)
  f_law_record : Addr
  d_law_record : FuncData
  F_law_record : Fun K "_law_record" "_law_record" s_law_record f_law_record d_law_record
  b_law_record : Binds K d_law_record ["k", "state"] []
  g_law_record : mg "_law_record" = some (.ref f_law_record)
  f_pieces_of : Addr
  d_pieces_of : FuncData
  F_pieces_of : Fun K "pieces_of" "pieces_of" s_pieces_of f_pieces_of d_pieces_of
  b_pieces_of : Binds K d_pieces_of ["offer"] []
  g_pieces_of : mg "pieces_of" = some (.ref f_pieces_of)
  f_segment_file : Addr
  d_segment_file : FuncData
  F_segment_file : Fun K "segment_file" "segment_file" s_segment_file f_segment_file d_segment_file
  b_segment_file : Binds K d_segment_file ["name"] []
  g_segment_file : mg "segment_file" = some (.ref f_segment_file)
  f_start_file : Addr
  d_start_file : FuncData
  F_start_file : Fun K "start_file" "start_file" s_start_file f_start_file d_start_file
  b_start_file : Binds K d_start_file ["start"] []
  g_start_file : mg "start_file" = some (.ref f_start_file)
  f_law : Addr
  d_law : FuncData
  F_law : Fun K "law" "law" s_law f_law d_law
  b_law : Binds K d_law ["script"] []
  g_law : mg "law" = some (.ref f_law)
  c_Record : Addr
  cl_Record : Cls K c_Record
  mc_Record : mg "Record" = some (.ref c_Record)
  n_Record_name : NoAttr K c_Record "name"
  n_Record_vector : NoAttr K c_Record "vector"
  n_Record_fields : NoAttr K c_Record "fields"
  n_Record_words : NoAttr K c_Record "words"
  mk_Record : Mk K c_Record f_Record___init__
  me_Record___eq__ : Meth K c_Record "__eq__" f_Record___eq__
  ha_Record : PySem.W.findIn K (.ref c_Record) "__class__" = some (some (.builtin "object.__class__"))
  hm_Record : PySem.W.mroIn K c_Record (.type "object") = some true
  c_Region : Addr
  cl_Region : Cls K c_Region
  mc_Region : mg "Region" = some (.ref c_Region)
  n_Region_parent : NoAttr K c_Region "parent"
  n_Region_facts : NoAttr K c_Region "facts"
  mk_Region : Mk K c_Region f_Region___init__
  c_Entry : Addr
  cl_Entry : Cls K c_Entry
  mc_Entry : mg "Entry" = some (.ref c_Entry)
  n_Entry_number : NoAttr K c_Entry "number"
  n_Entry_record : NoAttr K c_Entry "record"
  n_Entry_leaves : NoAttr K c_Entry "leaves"
  mk_Entry : Mk K c_Entry f_Entry___init__
  me_Entry___eq__ : Meth K c_Entry "__eq__" f_Entry___eq__
  ha_Entry : PySem.W.findIn K (.ref c_Entry) "__class__" = some (some (.builtin "object.__class__"))
  hm_Entry : PySem.W.mroIn K c_Entry (.type "object") = some true
  c_Offer : Addr
  cl_Offer : Cls K c_Offer
  mc_Offer : mg "Offer" = some (.ref c_Offer)
  n_Offer_partitions : NoAttr K c_Offer "partitions"
  n_Offer_entries : NoAttr K c_Offer "entries"
  mk_Offer : Mk K c_Offer f_Offer___init__
  kit_Record_Record : PySem.W.kitOne K (.ref c_Record) (.ref c_Record) = some true
  kit_Entry_Entry : PySem.W.kitOne K (.ref c_Entry) (.ref c_Entry) = some true
  hn0 : PySem.W.specialIn K (.builtin "object.__class__") "__get__" = some (some (.builtin "getset_descriptor.__get__"))
  ht0 : PySem.W.takesIn K (.builtin "object.__class__") = some true
  m_PIECE : ∃ t, mg "PIECE" = some (.int 4 t)
  m_all : mg "all" = none
  m_bool : mg "bool" = none
  m_int : mg "int" = none
  m_isinstance : mg "isinstance" = none
  m_len : mg "len" = none
  m_list : mg "list" = none
  m_range : mg "range" = none
  m_str : mg "str" = none
  m_tuple : mg "tuple" = none
section
variable {P : Program} {w : World} {K : PySem.W.Frag} {mg : Str → Option Value} {base : Heap}
def y_Record (T : Txt K mg) : Ty Record := ⟨fun Z v x => ∃ a dx w0 w1 w2 w3, v = .ref a ∧ Z a = some (.ins T.c_Record dx (ff_Record w0 w1 w2 w3)) ∧ (yStr).r Z w0 x.name ∧ ((yTup K yInt)).r Z w1 x.vector ∧ ((yTup K (yP2 K yStr yInt))).r Z w2 x.fields ∧ ((yTup K (yP2 K yStr yInt))).r Z w3 x.words,
  fun s ⟨a, dx, w0, w1, w2, w3, e, h, h0, h1, h2, h3⟩ => ⟨a, dx, w0, w1, w2, w3, e, s _ _ h, (yStr).mono s h0, ((yTup K yInt)).mono s h1, ((yTup K (yP2 K yStr yInt))).mono s h2, ((yTup K (yP2 K yStr yInt))).mono s h3⟩⟩
theorem nn_Record (T : Txt K mg) : NonNil (y_Record T) := fun _ _ _ ⟨_, _, _, _, _, _, e, _⟩ => by rw [e]; exact fun z => nomatch z
theorem fo_Record_name (T : Txt K mg) : FldOf (y_Record T) T.c_Record "name" yStr Record.name := fun _ _ _ ⟨a, dx, w0, w1, w2, w3, e, h, h0, h1, h2, h3⟩ => ⟨a, dx, _, w0, e, h, lk_Record_name, h0⟩
theorem fo_Record_vector (T : Txt K mg) : FldOf (y_Record T) T.c_Record "vector" (yTup K yInt) Record.vector := fun _ _ _ ⟨a, dx, w0, w1, w2, w3, e, h, h0, h1, h2, h3⟩ => ⟨a, dx, _, w1, e, h, lk_Record_vector, h1⟩
theorem fo_Record_fields (T : Txt K mg) : FldOf (y_Record T) T.c_Record "fields" (yTup K (yP2 K yStr yInt)) Record.fields := fun _ _ _ ⟨a, dx, w0, w1, w2, w3, e, h, h0, h1, h2, h3⟩ => ⟨a, dx, _, w2, e, h, lk_Record_fields, h2⟩
theorem fo_Record_words (T : Txt K mg) : FldOf (y_Record T) T.c_Record "words" (yTup K (yP2 K yStr yInt)) Record.words := fun _ _ _ ⟨a, dx, w0, w1, w2, w3, e, h, h0, h1, h2, h3⟩ => ⟨a, dx, _, w3, e, h, lk_Record_words, h3⟩
theorem tx_Record (T : Txt K mg) {fp : List Addr} {x : Record} : ∀ Z H v, Same Z H → (ty (fp := fp) (y_Record T) x).r Z H v → TyX K H v (.ref T.c_Record) := fun _ _ _ sz ⟨a, dx, w0, w1, w2, w3, e, h, _⟩ => by subst e; exact .base (.ins (sz _ _ h) T.cl_Record T.ha_Record T.hn0 T.ht0 T.hm_Record)
theorem oo_Record (T : Txt K mg) {m : Str} (h : ¬ m = "name" ∧ ¬ m = "vector" ∧ ¬ m = "fields" ∧ ¬ m = "words") : ObjOf (y_Record T) T.c_Record m := fun _ _ _ ⟨a, dx, w0, w1, w2, w3, e, g, _⟩ => ⟨a, dx, _, e, g, no_Record (h.1) (h.2.1) (h.2.2.1) (h.2.2.2)⟩
theorem ins_Record (T : Txt K mg) : ∀ Z v x, (y_Record T).r Z v x → ∃ a dx fs, v = .ref a ∧ Z a = some (.ins T.c_Record dx fs) := fun _ _ _ ⟨a, dx, _, _, _, _, e, h, _⟩ => ⟨a, dx, _, e, h⟩
def y_Region (T : Txt K mg) : Ty Region := ⟨fun Z v x => ∃ a dx w0 w1, v = .ref a ∧ Z a = some (.ins T.c_Region dx (ff_Region w0 w1)) ∧ ((yOpt yInt)).r Z w0 x.parent ∧ ((yTup K yInt)).r Z w1 x.facts,
  fun s ⟨a, dx, w0, w1, e, h, h0, h1⟩ => ⟨a, dx, w0, w1, e, s _ _ h, ((yOpt yInt)).mono s h0, ((yTup K yInt)).mono s h1⟩⟩
theorem nn_Region (T : Txt K mg) : NonNil (y_Region T) := fun _ _ _ ⟨_, _, _, _, e, _⟩ => by rw [e]; exact fun z => nomatch z
theorem fo_Region_parent (T : Txt K mg) : FldOf (y_Region T) T.c_Region "parent" (yOpt yInt) Region.parent := fun _ _ _ ⟨a, dx, w0, w1, e, h, h0, h1⟩ => ⟨a, dx, _, w0, e, h, lk_Region_parent, h0⟩
theorem fo_Region_facts (T : Txt K mg) : FldOf (y_Region T) T.c_Region "facts" (yTup K yInt) Region.facts := fun _ _ _ ⟨a, dx, w0, w1, e, h, h0, h1⟩ => ⟨a, dx, _, w1, e, h, lk_Region_facts, h1⟩
theorem oo_Region (T : Txt K mg) {m : Str} (h : ¬ m = "parent" ∧ ¬ m = "facts") : ObjOf (y_Region T) T.c_Region m := fun _ _ _ ⟨a, dx, w0, w1, e, g, _⟩ => ⟨a, dx, _, e, g, no_Region (h.1) (h.2)⟩
def y_Entry (T : Txt K mg) : Ty Entry := ⟨fun Z v x => ∃ a dx w0 w1 w2, v = .ref a ∧ Z a = some (.ins T.c_Entry dx (ff_Entry w0 w1 w2)) ∧ (yInt).r Z w0 x.number ∧ ((y_Record T)).r Z w1 x.record ∧ ((yTup K yInt)).r Z w2 x.leaves,
  fun s ⟨a, dx, w0, w1, w2, e, h, h0, h1, h2⟩ => ⟨a, dx, w0, w1, w2, e, s _ _ h, (yInt).mono s h0, ((y_Record T)).mono s h1, ((yTup K yInt)).mono s h2⟩⟩
theorem nn_Entry (T : Txt K mg) : NonNil (y_Entry T) := fun _ _ _ ⟨_, _, _, _, _, e, _⟩ => by rw [e]; exact fun z => nomatch z
theorem fo_Entry_number (T : Txt K mg) : FldOf (y_Entry T) T.c_Entry "number" yInt Entry.number := fun _ _ _ ⟨a, dx, w0, w1, w2, e, h, h0, h1, h2⟩ => ⟨a, dx, _, w0, e, h, lk_Entry_number, h0⟩
theorem fo_Entry_record (T : Txt K mg) : FldOf (y_Entry T) T.c_Entry "record" (y_Record T) Entry.record := fun _ _ _ ⟨a, dx, w0, w1, w2, e, h, h0, h1, h2⟩ => ⟨a, dx, _, w1, e, h, lk_Entry_record, h1⟩
theorem fo_Entry_leaves (T : Txt K mg) : FldOf (y_Entry T) T.c_Entry "leaves" (yTup K yInt) Entry.leaves := fun _ _ _ ⟨a, dx, w0, w1, w2, e, h, h0, h1, h2⟩ => ⟨a, dx, _, w2, e, h, lk_Entry_leaves, h2⟩
theorem tx_Entry (T : Txt K mg) {fp : List Addr} {x : Entry} : ∀ Z H v, Same Z H → (ty (fp := fp) (y_Entry T) x).r Z H v → TyX K H v (.ref T.c_Entry) := fun _ _ _ sz ⟨a, dx, w0, w1, w2, e, h, _⟩ => by subst e; exact .base (.ins (sz _ _ h) T.cl_Entry T.ha_Entry T.hn0 T.ht0 T.hm_Entry)
theorem oo_Entry (T : Txt K mg) {m : Str} (h : ¬ m = "number" ∧ ¬ m = "record" ∧ ¬ m = "leaves") : ObjOf (y_Entry T) T.c_Entry m := fun _ _ _ ⟨a, dx, w0, w1, w2, e, g, _⟩ => ⟨a, dx, _, e, g, no_Entry (h.1) (h.2.1) (h.2.2)⟩
theorem ins_Entry (T : Txt K mg) : ∀ Z v x, (y_Entry T).r Z v x → ∃ a dx fs, v = .ref a ∧ Z a = some (.ins T.c_Entry dx fs) := fun _ _ _ ⟨a, dx, _, _, _, e, h, _⟩ => ⟨a, dx, _, e, h⟩
def y_Offer (T : Txt K mg) : Ty Offer := ⟨fun Z v x => ∃ a dx w0 w1, v = .ref a ∧ Z a = some (.ins T.c_Offer dx (ff_Offer w0 w1)) ∧ ((yTup K (yTup K (y_Region T)))).r Z w0 x.partitions ∧ ((yTup K (y_Entry T))).r Z w1 x.entries,
  fun s ⟨a, dx, w0, w1, e, h, h0, h1⟩ => ⟨a, dx, w0, w1, e, s _ _ h, ((yTup K (yTup K (y_Region T)))).mono s h0, ((yTup K (y_Entry T))).mono s h1⟩⟩
theorem nn_Offer (T : Txt K mg) : NonNil (y_Offer T) := fun _ _ _ ⟨_, _, _, _, e, _⟩ => by rw [e]; exact fun z => nomatch z
theorem fo_Offer_partitions (T : Txt K mg) : FldOf (y_Offer T) T.c_Offer "partitions" (yTup K (yTup K (y_Region T))) Offer.partitions := fun _ _ _ ⟨a, dx, w0, w1, e, h, h0, h1⟩ => ⟨a, dx, _, w0, e, h, lk_Offer_partitions, h0⟩
theorem fo_Offer_entries (T : Txt K mg) : FldOf (y_Offer T) T.c_Offer "entries" (yTup K (y_Entry T)) Offer.entries := fun _ _ _ ⟨a, dx, w0, w1, e, h, h0, h1⟩ => ⟨a, dx, _, w1, e, h, lk_Offer_entries, h1⟩
theorem oo_Offer (T : Txt K mg) {m : Str} (h : ¬ m = "partitions" ∧ ¬ m = "entries") : ObjOf (y_Offer T) T.c_Offer m := fun _ _ _ ⟨a, dx, w0, w1, e, g, _⟩ => ⟨a, dx, _, e, g, no_Offer (h.1) (h.2)⟩
def y_FName (T : Txt K mg) : Ty FName := ⟨fun Z v x => match x with
  | .k_segment a1 => ((yP2 K yStr (yP2 K yInt yInt))).r Z v (("segment" : Str), a1)
  | .k_start a1 => ((yP2 K yStr yInt)).r Z v (("start" : Str), a1),
  fun {Z Z2 v x} s h => match x, h with
  | .k_segment a1, h => ((yP2 K yStr (yP2 K yInt yInt))).mono s h
  | .k_start a1, h => ((yP2 K yStr yInt)).mono s h⟩
theorem nn_FName (T : Txt K mg) : NonNil (y_FName T) := fun Z v x h => match x, h with
  | .k_segment a1, h => nn_p2 Z v (("segment" : Str), a1) h
  | .k_start a1, h => nn_p2 Z v (("start" : Str), a1) h
theorem it_FName_segment (T : Txt K mg) {μ : Type} {M : Mu μ} {σ : L2.St} {Z H : Hp} {s s1 : μ} {ta : TE} {a1 : (Int × Int)} (h : Ev M ta σ Z H s (ty (yP2 K yStr (yP2 K yInt yInt)) (("segment" : Str), a1)) s1) : Ev M ta σ Z H s (ty (y_FName T) (.k_segment a1)) s1 := h.weak fun _ _ _ _ e => e
theorem it_FName_start (T : Txt K mg) {μ : Type} {M : Mu μ} {σ : L2.St} {Z H : Hp} {s s1 : μ} {ta : TE} {a1 : Int} (h : Ev M ta σ Z H s (ty (yP2 K yStr yInt) (("start" : Str), a1)) s1) : Ev M ta σ Z H s (ty (y_FName T) (.k_start a1)) s1 := h.weak fun _ _ _ _ e => e
theorem tg_FName (T : Txt K mg) {μ : Type} {M : Mu μ} {σ : L2.St} {Z H : Hp} {s s1 s2 : μ} {ta tb : TE} {x : FName} (ha : Ev M ta σ Z H s (ty (y_FName T) x) s1) (hb : Ev M tb σ Z H s1 (ty yInt 0) s2) : Ev M (tOp (rIxT K) ta tb) σ Z H s (ty yStr x.tag) s2 := by
  cases x with
  | k_segment a1 => have e2 := ev_part po2_0 (ha.weak (R' := ty (yP2 K yStr (yP2 K yInt yInt)) (("segment" : Str), a1)) fun _ _ _ _ e => e) hb; exact e2
  | k_start a1 => have e2 := ev_part po2_0 (ha.weak (R' := ty (yP2 K yStr yInt) (("start" : Str), a1)) fun _ _ _ _ e => e) hb; exact e2
theorem eqw_FName (T : Txt K mg) : EqW K (y_FName T) d_FName 8 where
  dp := fun Z H v x sz h => match x, h with
    | .k_segment a1, h => EqW.dp (K := K) (τ := (yP2 K yStr (yP2 K yInt yInt))) (eqw_p2 eqd_str.w (eqw_p2 eqd_int.w eqd_int.w)) Z H v (("segment" : Str), a1) sz h
    | .k_start a1, h => EqW.dp (K := K) (τ := (yP2 K yStr yInt)) (eqw_p2 eqd_str.w eqd_int.w) Z H v (("start" : Str), a1) sz h
  lay := fun Z v x h => match x, h with
    | .k_segment a1, h => EqW.lay (K := K) (τ := (yP2 K yStr (yP2 K yInt yInt))) (eqw_p2 eqd_str.w (eqw_p2 eqd_int.w eqd_int.w)) Z v (("segment" : Str), a1) h
    | .k_start a1, h => EqW.lay (K := K) (τ := (yP2 K yStr yInt)) (eqw_p2 eqd_str.w eqd_int.w) Z v (("start" : Str), a1) h
  dep := fun x => match x with
    | .k_segment a1 => Nat.le_trans (EqW.dep (K := K) (τ := (yP2 K yStr (yP2 K yInt yInt))) (eqw_p2 eqd_str.w (eqw_p2 eqd_int.w eqd_int.w)) (("segment" : Str), a1)) (by decide)
    | .k_start a1 => Nat.le_trans (EqW.dep (K := K) (τ := (yP2 K yStr yInt)) (eqw_p2 eqd_str.w eqd_int.w) (("start" : Str), a1)) (by decide)
theorem tx_FName (T : Txt K mg) {fp : List Addr} {x : FName} : ∀ Z H v, Same Z H → (ty (fp := fp) (y_FName T) x).r Z H v → TyX K H v (.type "tuple") := fun Z H v sz h => match x, h with
  | .k_segment a1, h => tx_p2 Z H v sz (show (ty (fp := fp) (yP2 K yStr (yP2 K yInt yInt)) (("segment" : Str), a1)).r Z H v from h)
  | .k_start a1, h => tx_p2 Z H v sz (show (ty (fp := fp) (yP2 K yStr yInt) (("start" : Str), a1)).r Z H v from h)


def sp_law_row (T : Txt K mg) : Sp := fun vs H Q _ => ∃ (sc : Addr) (ns : List Int) (k : Nat), vs = [.ref sc, .int (k : Nat)] ∧ (H sc = some (.lst (ns.map V.int))) ∧ Q (.int (rowZ ns k)) H
set_option maxHeartbeats 4000000 in
theorem ok_law_row (T : Txt K mg) : FnOk P w K mg base CX0 1 T.f_law_row T.d_law_row ["script", "k"] (sp_law_row T) := by
  refine T.F_law_row.ok sc_law_row (fun vs H Q E h => ?_) (fun cdv A outer s H vs Q E hr h => ?_)
  · obtain ⟨sc, ns, k, rfl, _⟩ := h
    rfl
  · obtain ⟨sc, ns, k, rfl, hS, q⟩ := h
    refine ⟨_, (pss_cons (ps_set (i := 2) sc_law_row.nd rfl (.inl rfl) pe_int) 
      (pss_cut (ps_if (pt_cmpR op_lt (pv 1) (pe_callB call_len_seq (by rfl) T.m_len PySem.boot_len (pa_cons (pv 0) pa_nil)) (nomark _)) (pss_one (ps_set (i := 2) sc_law_row.nd rfl (.inl rfl) (pe_ix ix_list (pv 0) (pv 1) (fun _ _ => rfl)))) pss_nil) 
      (pss_cut (ps_if (pt_cmpR op_lt (pv 2) pe_int (nomark _)) (pss_one (ps_set (i := 2) sc_law_row.nd rfl (.inl rfl) (pe_op op_sub (pe_op op_mul (pe_un un_neg pe_int) (pv 2)) pe_int))) pss_nil) 
      (pss_cut (ps_if (pt_cmpR op_lt (pv 2) (pe_op op_pow pe_int pe_int) (nomark _)) (pss_cons (ps_set (i := 3) sc_law_row.nd rfl (.inl rfl) (pe_op op_mod (pe_callTy call_int1 (by rfl) T.m_int (by decide +kernel) (pa_cons (pe_op op_add (pe_op op_add (pe_op op_mul (pv 2) pe_int) (pe_op op_mul (pv 1) pe_int)) pe_int) pa_nil)) pe_int)) 
      (pss_cons (ps_set (i := 4) sc_law_row.nd rfl (.inl rfl) (pe_op op_mod (pe_callTy call_int1 (by rfl) T.m_int (by decide +kernel) (pa_cons (pe_op op_add (pe_op op_add (pe_op op_add (pe_op op_mul (pv 3) pe_int) (pe_op op_mul (pv 2) pe_int)) (pv 1)) pe_int) pa_nil)) pe_int)) 
      (pss_cons (ps_set (i := 5) sc_law_row.nd rfl (.inl rfl) (pe_op op_mod (pe_callTy call_int1 (by rfl) T.m_int (by decide +kernel) (pa_cons (pe_op op_add (pe_op op_add (pe_op op_mul (pv 4) pe_int) (pe_op op_mul (pv 3) (pv 4))) pe_int) pa_nil)) pe_int)) 
      (pss_one (ps_set (i := 2) sc_law_row.nd rfl (.inl rfl) (pe_op op_add (pe_op op_add (pv 3) (pe_op op_mul (pv 4) pe_int)) (pe_op op_mul (pv 5) (pe_op op_pow pe_int pe_int)))))))) pss_nil) 
      (pss_one (ps_ret (pv 2))))))), ?_⟩
    -- if k < len(script): cell = script[k]
    refine ⟨fun σ' H' => H' = H ∧ σ' = [some (.ref sc), some (.int (k : Nat)), some (.int (ns.getD k 0)), none, none, none], ?_, ?_⟩
    · refine ⟨_, rfl, _, rfl, sc, _, rfl, .inl (SqL.of hS), _, _, rfl, rfl, _, rfl, ite2 (fun e => ?_) (fun e => ?_)⟩
      · have hl : (k : Int) < ((ns.map V.int).length : Int) := of_decide_eq_true e
        rw [List.length_map] at hl
        have hk : k < ns.length := by omega
        exact ⟨_, rfl, _, rfl, sc, _, (k : Nat), .int (ns.getD k 0), rfl, rfl, SqL.of hS, at_of (j := k) rfl (by rw [List.getElem?_map, getD_lt hk]; rfl), rfl, rfl⟩
      · have hl : ¬ (k : Int) < ((ns.map V.int).length : Int) := fun h => e (decide_eq_true h)
        rw [List.length_map] at hl
        have hk : ¬ k < ns.length := by omega
        exact ⟨rfl, by rw [getD_ge hk]; rfl⟩
    rintro σ' H' ⟨rfl, rfl⟩
    -- if cell < 0: cell = -2 * cell - 1
    refine ⟨fun σ' H2 => H2 = H' ∧ σ' = [some (.ref sc), some (.int (k : Nat)), some (.int (row1 ns k)), none, none, none], ?_, ?_⟩
    · refine ⟨_, rfl, _, _, rfl, rfl, _, rfl, ite2 (fun e => ?_) (fun e => ?_)⟩
      · have hc : ns.getD k 0 < 0 := of_decide_eq_true e
        refine ⟨2, rfl, _, rfl, _, _, rfl, rfl, .inl ⟨by decide, by decide⟩, _, _, rfl, rfl, rfl, ?_⟩
        unfold row1
        rw [if_pos hc]
        rfl
      · have hc : ¬ ns.getD k 0 < 0 := fun h => e (decide_eq_true h)
        exact ⟨rfl, by unfold row1; rw [if_neg hc]⟩
    rintro σ' H2 ⟨rfl, rfl⟩
    have c0 := row1_nn ns k
    -- if cell < 10 ** 9: ..
    refine ⟨fun σ' H' => H' = H2 ∧ ∃ (x y z : Option V), σ' = [some (.ref sc), some (.int (k : Nat)), some (.int (rowZ ns k)), x, y, z], ?_, ?_⟩
    · refine ⟨_, rfl, _, _, rfl, rfl, ⟨by decide, by decide, by decide⟩, _, _, rfl, rfl, _, rfl, ite2 (fun e => ?_) (fun e => ?_)⟩
      · have h9 : row1 ns k < 10 ^ 9 := of_decide_eq_true e
        rw [rowZ_lo h9]
        generalize row1 ns k = c at h9 c0
        refine ⟨_, rfl, _, _, rfl, rfl, .inr ⟨by decide, by decide⟩, _, rfl, _, _, rfl, rfl, .inr ⟨by decide, by decide⟩, _, _, rfl, rfl, _, _, rfl, rfl, .inl ⟨_, rfl, ?_⟩⟩
        refine ⟨_, _, rfl, rfl, (by decide : (0 : Int) < 2147483647), ?_⟩
        dsimp only
        refine ⟨_, rfl, _, _, rfl, rfl, .inr ⟨by decide, by decide⟩, _, rfl, _, _, rfl, rfl, .inr ⟨by decide, by decide⟩, _, _, rfl, rfl, _, rfl, _, _, rfl, rfl, _, _, rfl, rfl, .inl ⟨_, rfl, ?_⟩⟩
        refine ⟨_, _, rfl, rfl, (by decide : (0 : Int) < 2147483629), ?_⟩
        dsimp only
        refine ⟨_, rfl, _, _, rfl, rfl, .inr ⟨by decide, by decide⟩, _, rfl, _, rfl, _, _, rfl, rfl, .inl ⟨by omega, by omega⟩, _, _, rfl, rfl, _, _, rfl, rfl, .inl ⟨_, rfl, ?_⟩⟩
        refine ⟨_, _, rfl, rfl, (by decide : (0 : Int) < 2147483587), ?_⟩
        dsimp only
        refine ⟨_, rfl, _, rfl, _, _, rfl, rfl, .inr ⟨by decide, by decide⟩, _, _, rfl, rfl, _, rfl, _, _, rfl, rfl, ⟨by decide, by decide, by decide⟩, _, _, rfl, rfl, .inr ⟨by decide, by decide⟩, _, _, rfl, rfl, rfl, _, _, _, rfl⟩
      · have h9 : ¬ row1 ns k < 10 ^ 9 := fun h => e (decide_eq_true h)
        rw [rowZ_hi h9]
        exact ⟨rfl, _, _, _, rfl⟩
    rintro σ' H' ⟨rfl, x, y, z, rfl⟩
    exact ⟨_, rfl, q⟩
def sp_law_next (T : Txt K mg) : Sp := fun vs H Q _ => ∃ (st sc : Addr) (Z0 : Hp) (ds : DS) (v_many : V) (m : Int), vs = [.ref st, v_many] ∧ (Same Z0 H) ∧ ((muD st sc).m ds Z0 H) ∧ (v_many = .int m) ∧ (NxOk m) ∧ ∀ v Z' H', Step (muD st sc).fp Z0 H Z' H' → (muD st sc).m (nxS ds m) Z' H' → yInt.r Z' v (nxV ds m) → Q v H'
set_option maxHeartbeats 4000000 in
theorem ok_law_next (T : Txt K mg) : FnOk P w K mg base CX0 2 T.f_law_next T.d_law_next ["state", "many"] (sp_law_next T) := by
  have G_law_row : FnOk P w K mg base CX0 1 T.f_law_row T.d_law_row ["script", "k"] (sp_law_row T) := ok_law_row T
  refine T.F_law_next.ok sc_law_next (fun vs H Q E h => ?_) (fun cdv A outer s H vs Q E hr h => ?_)
  · obtain ⟨st, sc, Z0, ds, v_many, m, rfl, _⟩ := h
    rfl
  · obtain ⟨st, sc, Z0, ds, v_many, m, rfl, sz, hm, h_many, hok, q⟩ := h
    refine ⟨_, (pss_cut (ps_if (pt_cmpR op_lt (pe_ix ix_list (pv 0) pe_int (fun _ _ => rfl)) (pv 1) (nomark _)) (pss_cons (ps_asg (pe_call G_law_row (hr.mono (by decide)) (by rfl) T.g_law_row T.F_law_row.kp T.b_law_row .nil pass0 (pa_cons (pe_ix ix_list (pv 0) pe_int (fun _ _ => rfl)) (pa_cons (pe_ix ix_list (pv 0) pe_int (fun _ _ => rfl)) pa_nil))) (pg_sub (pv 0) pe_int set_list)) 
      (pss_one (ps_asg (pe_op op_add (pe_ix ix_list (pv 0) pe_int (fun _ _ => rfl)) pe_int) (pg_sub (pv 0) pe_int set_list)))) pss_nil) 
      (pss_cons (ps_set (i := 2) sc_law_next.nd rfl (.inl rfl) (pe_op op_mod (pe_callTy call_int1 (by rfl) T.m_int (by decide +kernel) (pa_cons (pe_ix ix_list (pv 0) pe_int (fun _ _ => rfl)) pa_nil)) (pv 1))) 
      (pss_cons (ps_asg (pe_op op_fdivW (pe_ix ix_list (pv 0) pe_int (fun _ _ => rfl)) (pv 1)) (pg_sub (pv 0) pe_int set_list)) 
      (pss_one (ps_ret (pv 2)))))), ?_⟩
    obtain ⟨m0, m1⟩ := hok
    subst h_many
    obtain ⟨h1, h2, h3⟩ := hm
    obtain ⟨ns, k, x⟩ := ds
    have g2 : H sc = some (.lst (ns.map V.int)) := sz _ _ h2
    have ne : sc ≠ st := fun e => by rw [e] at h2; rw [h2] at h3; cases h3
    refine ⟨fun σ' H' => Step [st] Z0 H Z0 H' ∧ σ' = [some (.ref st), some (.int m), none] ∧ H' st = some (.lst [.ref sc, .int ((if (x : Int) < m then k + 1 else k : Nat) : Int), .int ((DS.cur ⟨ns, k, x⟩ m : Nat) : Int)]), ?_, ?_⟩
    · refine ⟨_, rfl, st, _, _, _, rfl, rfl, SqL.of h1, at_of (j := 2) rfl rfl, _, rfl, _, _, rfl, rfl, _, rfl, ite2 (fun e => ?_) (fun e => ?_)⟩
      · have hlt : (x : Int) < m := of_decide_eq_true e
        refine ⟨_, rfl, st, _, _, _, rfl, rfl, SqL.of h1, at_of (j := 0) rfl rfl, _, rfl, st, _, _, _, rfl, rfl, SqL.of h1, at_of (j := 1) rfl rfl, sc, ns, k, rfl, g2, ?_⟩
        refine ⟨_, rfl, st, _, _, 2, rfl, rfl, h1, rfl, ?_⟩
        refine ⟨_, rfl, st, _, _, _, rfl, rfl, SqL.of upd_same, at_of (j := 1) rfl rfl, _, _, rfl, rfl, _, rfl, st, _, _, 1, rfl, rfl, upd_same, rfl, ?_⟩
        refine ⟨(Step.set sz h3).trans (Step.set (Step.set sz h3).s h3), rfl, ?_⟩
        rw [upd_same, if_pos hlt]
        have : ((DS.cur ⟨ns, k, x⟩ m : Nat) : Int) = rowZ ns k := by
          unfold DS.cur
          rw [if_pos hlt]
          have := rowZ_nn ns k
          show (((rowZ ns k).toNat : Nat) : Int) = rowZ ns k
          omega
        rw [this]
        rfl
      · have hlt : ¬ (x : Int) < m := fun h => e (decide_eq_true h)
        refine ⟨Step.refl sz, rfl, ?_⟩
        rw [h1, if_neg hlt]
        unfold DS.cur
        rw [if_neg hlt]
    rintro σ' H' ⟨hO, rfl, h4⟩
    -- drawn = int(state[2]) % many
    refine ⟨_, rfl, st, _, _, _, rfl, rfl, SqL.of h4, at_of (j := 2) rfl rfl, .inl ⟨_, rfl, ?_⟩⟩
    refine ⟨_, rfl, _, _, rfl, rfl, m0, ?_⟩
    -- state[2] = state[2] // many
    refine ⟨_, rfl, st, _, _, _, rfl, rfl, SqL.of h4, at_of (j := 2) rfl rfl, _, rfl, _, _, rfl, rfl, wide_div m0 m1 (by decide) (by decide), ?_⟩
    refine ⟨_, rfl, st, _, _, 2, rfl, rfl, h4, rfl, ?_⟩
    have nn : 0 ≤ ((DS.cur ⟨ns, k, x⟩ m : Nat) : Int) / m := Int.ediv_nonneg (Int.natCast_nonneg _) (by omega)
    refine ⟨_, rfl, q _ Z0 _ (hO.trans (Step.set hO.s h3)) ⟨?_, h2, h3⟩ rfl⟩
    rw [upd_same]
    show some (HO.lst [_, _, _]) = some (HO.lst [_, _, V.int (((((DS.cur ⟨ns, k, x⟩ m : Nat) : Int) / m).toNat : Nat) : Int)])
    rw [Int.toNat_of_nonneg nn]
    rfl
theorem cs__law_next (T : Txt K mg) {st sc : Addr} {ds : DS} {E : XK} {m : Int} (h : NxOk m) : CallS (muD st sc) (sp_law_next T) E (rac (isRef st) (rac (ty yInt m) ra0)) ds (ty yInt (nxV ds m)) (nxS ds m) := by
  rintro Z H vs sz mm ⟨_, _, rfl, rfl, v_many, _, rfl, h_many, rfl⟩ Q q
  exact ⟨st, sc, Z, ds, v_many, m, rfl, sz, mm, h_many, h, q⟩
theorem cu__law_next (T : Txt K mg) {st sc : Addr} {ds : DS} {E : XK} {m : Int} {μ : Type} {M : Mu μ} {s s2 : μ} (hm : ∀ Z H, M.m s Z H → (muD st sc).m ds Z H) (hf : ∀ a ∈ (muD st sc).fp, a ∈ M.fp) (hp : ∀ Z H Z' H', M.m s Z H → Step (muD st sc).fp Z H Z' H' → (muD st sc).m (nxS ds m) Z' H' → M.m s2 Z' H') (h : NxOk m) : CallS M (sp_law_next T) E (rac (isRef st) (rac (ty yInt m) ra0)) s (ty yInt (nxV ds m)) s2 := by
  rintro Z H vs sz mm ⟨_, _, rfl, rfl, v_many, _, rfl, h_many, rfl⟩ Q q
  exact ⟨st, sc, Z, ds, v_many, m, rfl, sz, hm _ _ mm, h_many, h, fun v Z2 H2 st2 m2 hv => q v Z2 H2 (st2.weak fun a h => .inl (hf a h)) (hp _ _ _ _ mm st2 m2) hv⟩
def sp_kind_of_value (T : Txt K mg) : Sp := fun vs H Q _ => ∃ (Z0 : Hp) (v_worth : V) (x_worth : Int), vs = [v_worth] ∧ (Same Z0 H) ∧ ((yInt).r Z0 v_worth x_worth) ∧ ∀ v Z' H', Step [] Z0 H Z' H' → (yStr).r Z' v (F_kind_of_value x_worth) → Q v H'
set_option maxHeartbeats 4000000 in
theorem ok_kind_of_value (T : Txt K mg) : FnOk P w K mg base CX0 1 T.f_kind_of_value T.d_kind_of_value ["worth"] (sp_kind_of_value T) := by
  refine T.F_kind_of_value.ok sc_kind_of_value (fun vs H Q E h => ?_) (fun cdv A outer s H vs Q E hr h => ?_)
  · obtain ⟨Z0, v_worth, x_worth, rfl, _⟩ := h
    rfl
  · obtain ⟨Z0, v_worth, x_worth, rfl, sz, h_worth, q⟩ := h
    refine ⟨_, (pss_cons (ps_if (pt_val (pe_callB call_isi (by rfl) T.m_isinstance (by decide +kernel) (pa_cons (pv 0) (pa_cons (pe_bltn (v := .ty "bool") (u := .type "bool") (by rfl) T.m_bool (by decide +kernel) rfl) pa_nil)))) (pss_one (ps_ret pe_str)) pss_nil) 
      (pss_cons (ps_if (pt_val (pe_callB call_isi (by rfl) T.m_isinstance (by decide +kernel) (pa_cons (pv 0) (pa_cons (pe_bltn (v := .ty "int") (u := .type "int") (by rfl) T.m_int (by decide +kernel) rfl) pa_nil)))) (pss_one (ps_ret pe_str)) pss_nil) 
      (pss_one (ps_ret pe_str)))), ?_⟩
    have P := Pt.start0 sz
    generalize hF : F_kind_of_value x_worth = y at q
    unfold F_kind_of_value at hF
    refine st_seq (st_if P (et_val (ev_isi (b := false) (fun _ _ _ h => h) (ev_var (τ := yInt) rfl h_worth) tx_int (.ty _) (kit_ty (by decide +kernel)))) (fun b_1 Z1 H1 e P1 => ?_) (fun b_1 Z1 H1 e P1 => ?_))
    · replace P := P1
      have hB := ifT b_1 hF
      replace hF := hB
      clear hB
      subst hF
      refine st_ret P ev_str (fun v Z1 H1 P1 hv => ?_)
      exact q v _ _ P1.st hv
    · replace P := P1
      have hB := ifF b_1 hF
      replace hF := hB
      clear hB
      refine st_next0 ?_
      refine st_seq (st_if P (et_val (ev_isi (b := true) (fun _ _ _ h => h) (ev_var (τ := yInt) rfl h_worth) tx_int (.ty _) (kit_ty (by decide +kernel)))) (fun b_2 Z1 H1 e P1 => ?_) (fun b_2 Z1 H1 e P1 => ?_))
      · replace P := P1
        have hB := ifT b_2 hF
        replace hF := hB
        clear hB
        subst hF
        refine st_ret P ev_str (fun v Z1 H1 P1 hv => ?_)
        exact q v _ _ P1.st hv
      · replace P := P1
        have hB := ifF b_2 hF
        replace hF := hB
        clear hB
        refine st_next0 ?_
        subst hF
        refine st_ret P ev_str (fun v Z1 H1 P1 hv => ?_)
        exact q v _ _ P1.st hv
theorem cs_kind_of_value (T : Txt K mg) {μ : Type} {M : Mu μ} {s : μ} {E : XK} {x_worth : Int} : CallS M (sp_kind_of_value T) E (rac (ty yInt x_worth) ra0) s (ty yStr (F_kind_of_value x_worth)) s := by
  rintro Z H vs sz m ⟨v_worth, _, rfl, h_worth, rfl⟩ Q q
  exact ⟨Z, v_worth, x_worth, rfl, sz, h_worth, fun v Z2 H2 st hv => q v Z2 H2 st.pure (M.pure st m) hv⟩
def sp_same_fields (T : Txt K mg) : Sp := fun vs H Q _ => ∃ (Z0 : Hp) (v_ones : V) (v_others : V) (x_ones : (List (Str × Int))) (x_others : (List (Str × Int))), vs = [v_ones, v_others] ∧ (Same Z0 H) ∧ (((yTup K (yP2 K yStr yInt))).r Z0 v_ones x_ones) ∧ (((yTup K (yP2 K yStr yInt))).r Z0 v_others x_others) ∧ ∀ v Z' H', Step [] Z0 H Z' H' → (yBool).r Z' v (F_same_fields x_ones x_others) → Q v H'
set_option maxHeartbeats 4000000 in
theorem ok_same_fields (T : Txt K mg) : FnOk P w K mg base CX0 2 T.f_same_fields T.d_same_fields ["ones", "others"] (sp_same_fields T) := by
  have G_kind_of_value : FnOk P w K mg base CX0 1 T.f_kind_of_value T.d_kind_of_value ["worth"] (sp_kind_of_value T) := ok_kind_of_value T
  refine T.F_same_fields.ok sc_same_fields (fun vs H Q E h => ?_) (fun cdv A outer s H vs Q E hr h => ?_)
  · obtain ⟨Z0, v_ones, v_others, x_ones, x_others, rfl, _⟩ := h
    rfl
  · obtain ⟨Z0, v_ones, v_others, x_ones, x_others, rfl, sz, h_ones, h_others, q⟩ := h
    refine ⟨_, (pss_cons (ps_setLc (i := 2) (own := [("_", 3), ("worth", 4)]) (g := gTup K 2 (gCons (gName 3) (gCons (gName 4) gNil))) rfl sc_same_fields.nd rfl rfl (sw_true rfl rfl rfl (by decide +kernel)) (pi_tup (pv 0)) (blkOk_by (own := [("_", 3), ("worth", 4)]) (N := ["ones", "others", "kinds", "_", "worth"]) (sc := defScope s_same_fields) (by decide +kernel)) (fun _ _ _ _ _ => (by exact (pg_tup rfl (pgs_cons (pg_name (i := 3) sc_same_fields.nd rfl (Or.inl rfl)) (pgs_cons (pg_name (i := 4) sc_same_fields.nd rfl (Or.inl rfl)) pgs_nil))))) (fun _ _ _ _ _ => pts_nil) (fun _ _ _ _ _ => (pe_call G_kind_of_value (hr.mono (by decide)) (by rfl) T.g_kind_of_value T.F_kind_of_value.kp T.b_kind_of_value .nil pass0 (pa_cons (pv 4) pa_nil)))) 
      (pss_one (ps_ret (pe_and (pe_cmpR (op_eqD hr.units) (pv 2) (pe_lc (own := [("_", 3), ("worth", 4)]) (g := gTup K 2 (gCons (gName 3) (gCons (gName 4) gNil))) rfl sc_same_fields.nd (pi_tup (pv 1)) (blkOk_by (own := [("_", 3), ("worth", 4)]) (N := ["ones", "others", "kinds", "_", "worth"]) (sc := defScope s_same_fields) (by decide +kernel)) (fun _ _ _ _ _ => (by exact (pg_tup rfl (pgs_cons (pg_name (i := 3) sc_same_fields.nd rfl (Or.inl rfl)) (pgs_cons (pg_name (i := 4) sc_same_fields.nd rfl (Or.inl rfl)) pgs_nil))))) (fun _ _ _ _ _ => pts_nil) (fun _ _ _ _ _ => (pe_call G_kind_of_value (hr.mono (by decide)) (by rfl) T.g_kind_of_value T.F_kind_of_value.kp T.b_kind_of_value .nil pass0 (pa_cons (pv 4) pa_nil)))) (nomark _)) (pe_one (pe_cmpR (op_eqD hr.units) (pv 0) (pv 1) (nomark _))))))), ?_⟩
    have P := Pt.start0 sz
    generalize hF : F_same_fields x_ones x_others = y at q
    unfold F_same_fields at hF
    refine st_seq (st_set P (ev_fz (en_map (fun (x_3 : (Str × Int)) => (F_kind_of_value x_3.2)) (ei_tup (ev_var (τ := (yTup K (yP2 K yStr yInt))) rfl h_ones)) (fun x_3 v_4 Z' H' zz hh rx_5 => by
          obtain ⟨v_6, v_7, k_8, k_9, tg_10⟩ := tgt_p2 rx_5
          exact ⟨_, (tg_10 tgt_name tgt_name), rfl, (ev_call (cs_kind_of_value T) (eva_cons (ev_var (τ := yInt) rfl k_9) eva_nil))⟩))) (fun v_11 Z1 H1 e P1 k_12 => ?_))
    refine st_nx ?_
    replace P := P1
    replace h_ones := ((yTup K (yP2 K yStr yInt))).mono e.z h_ones
    replace h_others := ((yTup K (yP2 K yStr yInt))).mono e.z h_others
    subst hF
    refine st_ret P (ev_and0 (ev_eqD (eqd_list eqd_str) (by decide) (ev_var (τ := (yList yStr)) rfl k_12) (ev_fz (en_map (fun (x_13 : (Str × Int)) => (F_kind_of_value x_13.2)) (ei_tup (ev_var (τ := (yTup K (yP2 K yStr yInt))) rfl h_others)) (fun x_13 v_14 Z' H' zz hh rx_15 => by
          obtain ⟨v_16, v_17, k_18, k_19, tg_20⟩ := tgt_p2 rx_15
          exact ⟨_, (tg_20 tgt_name tgt_name), rfl, (ev_call (cs_kind_of_value T) (eva_cons (ev_var (τ := yInt) rfl k_19) eva_nil))⟩)))) (ev_eqD (eqd_tup (eqd_p2 eqd_str eqd_int)) (by decide) (ev_var (τ := (yTup K (yP2 K yStr yInt))) rfl h_ones) (ev_var (τ := (yTup K (yP2 K yStr yInt))) rfl h_others))) (fun v Z1 H1 P1 hv => ?_)
    exact q v _ _ P1.st hv
theorem cs_same_fields (T : Txt K mg) {μ : Type} {M : Mu μ} {s : μ} {E : XK} {x_ones : (List (Str × Int))} {x_others : (List (Str × Int))} : CallS M (sp_same_fields T) E (rac (ty (yTup K (yP2 K yStr yInt)) x_ones) (rac (ty (yTup K (yP2 K yStr yInt)) x_others) ra0)) s (ty yBool (F_same_fields x_ones x_others)) s := by
  rintro Z H vs sz m ⟨v_ones, _, rfl, h_ones, ⟨v_others, _, rfl, h_others, rfl⟩⟩ Q q
  exact ⟨Z, v_ones, v_others, x_ones, x_others, rfl, sz, h_ones, h_others, fun v Z2 H2 st hv => q v Z2 H2 st.pure (M.pure st m) hv⟩
def sp_Record___init__ (T : Txt K mg) : Sp := fun vs H Q _ => ∃ (p dx : Addr) (Z0 : Hp) (v_name : V) (v_vector : V) (v_fields : V) (v_words : V) (x_name : Str) (x_vector : (List Int)) (x_fields : (List (Str × Int))) (x_words : (List (Str × Int))), vs = [.ref p, v_name, v_vector, v_fields, v_words] ∧ (Same Z0 H) ∧ (H p = some (.ins T.c_Record dx [])) ∧ (Z0 p = none) ∧ ((yStr).r Z0 v_name x_name) ∧ (((yList yInt)).r Z0 v_vector x_vector) ∧ (((yTup K (yP2 K yStr yInt))).r Z0 v_fields x_fields) ∧ (((yTup K (yP2 K yStr yInt))).r Z0 v_words x_words) ∧ ∀ Z' H' o, Step [p] Z0 H Z' H' → H' p = some o → (y_Record T).r (upd Z' p o) (.ref p) (F_Record___init__ x_name x_vector x_fields x_words) → Q .non H'
set_option maxHeartbeats 4000000 in
theorem ok_Record___init__ (T : Txt K mg) : FnOk P w K mg base CX0 1 T.f_Record___init__ T.d_Record___init__ ["self", "name", "vector", "fields", "words"] (sp_Record___init__ T) := by
  refine T.F_Record___init__.ok sc_Record___init__ (fun vs H Q E h => ?_) (fun cdv A outer s H vs Q E hr h => ?_)
  · obtain ⟨p, dx, Z0, v_name, v_vector, v_fields, v_words, x_name, x_vector, x_fields, x_words, rfl, _⟩ := h
    rfl
  · obtain ⟨p, dx, Z0, v_name, v_vector, v_fields, v_words, x_name, x_vector, x_fields, x_words, rfl, sz, hself, zself, h_name, h_vector, h_fields, h_words, q⟩ := h
    refine ⟨_, PSs.nox (pss_cons (ps_fld (pv 0) (pv 1) rfl) 
      (pss_cons (ps_fld (pv 0) (pe_callTy call_tuple_of (by rfl) T.m_tuple (by decide +kernel) (pa_cons (pv 2) pa_nil)) rfl) 
      (pss_cons (ps_fld (pv 0) (pe_callTy call_tuple_of (by rfl) T.m_tuple (by decide +kernel) (pa_cons (pe_lc (own := [("pair", 5)]) (g := gName 5) rfl sc_Record___init__.nd (pi_tup (pv 3)) (blkOk_by (own := [("pair", 5)]) (N := ["self", "name", "vector", "fields", "words", "pair"]) (sc := defScope s_Record___init__) (by decide +kernel)) (fun _ _ _ _ _ => (pg_name (i := 5) sc_Record___init__.nd rfl (Or.inl rfl))) (fun _ _ _ _ _ => pts_nil) (fun _ _ _ _ _ => (pe_callTy (r := rTupleB K) (by exact call_tuple_of) (by rfl) T.m_tuple (by decide +kernel) (pa_cons (pv 5) pa_nil)))) pa_nil)) rfl) 
      (pss_one (ps_fld (pv 0) (pe_callTy call_tuple_of (by rfl) T.m_tuple (by decide +kernel) (pa_cons (pe_lc (own := [("pair", 5)]) (g := gName 5) rfl sc_Record___init__.nd (pi_tup (pv 4)) (blkOk_by (own := [("pair", 5)]) (N := ["self", "name", "vector", "fields", "words", "pair"]) (sc := defScope s_Record___init__) (by decide +kernel)) (fun _ _ _ _ _ => (pg_name (i := 5) sc_Record___init__.nd rfl (Or.inl rfl))) (fun _ _ _ _ _ => pts_nil) (fun _ _ _ _ _ => (pe_callTy (r := rTupleB K) (by exact call_tuple_of) (by rfl) T.m_tuple (by decide +kernel) (pa_cons (pv 5) pa_nil)))) pa_nil)) rfl))))), ?_⟩
    have P : Pt [p] Z0 H muN Z0 H () := ⟨Step.refl sz, trivial, fun _ h => (nomatch h)⟩
    generalize hF : F_Record___init__ x_name x_vector x_fields x_words = y at q
    unfold F_Record___init__ at hF
    refine st_seq (st_fld (x := x_name) (τ := yStr) P hself zself List.not_mem_nil (.inl List.mem_cons_self) rfl (ev_var (τ := yStr) rfl h_name) T.cl_Record T.n_Record_name (Nat.lt_of_le_of_lt (Nat.le_refl 0) (by decide)) (fun v_21 Z1 H1 e P1 k_22 hself1 zself1 => ?_))
    refine st_nx ?_
    replace P := P1
    replace hself := hself1
    replace zself := zself1
    replace h_vector := ((yList yInt)).mono e.z h_vector
    replace h_fields := ((yTup K (yP2 K yStr yInt))).mono e.z h_fields
    replace h_words := ((yTup K (yP2 K yStr yInt))).mono e.z h_words
    refine st_seq (st_fld (x := x_vector) (τ := (yTup K yInt)) P hself zself List.not_mem_nil (.inl List.mem_cons_self) rfl (ev_tuple_of (fun _ _ _ h => h) (ev_li (ev_var (τ := (yList yInt)) rfl h_vector))) T.cl_Record T.n_Record_vector (Nat.lt_of_le_of_lt (putF_le (Nat.le_refl 0)) (by decide)) (fun v_23 Z1 H1 e P1 k_24 hself1 zself1 => ?_))
    refine st_nx ?_
    replace P := P1
    replace hself := hself1
    replace zself := zself1
    replace h_fields := ((yTup K (yP2 K yStr yInt))).mono e.z h_fields
    replace h_words := ((yTup K (yP2 K yStr yInt))).mono e.z h_words
    refine st_seq (st_fld (x := x_fields) (τ := (yTup K (yP2 K yStr yInt))) P hself zself List.not_mem_nil (.inl List.mem_cons_self) rfl (ev_tuple_of (fun _ _ _ h => h) (ev_li (ev_fz (en_cast (en_map (fun x => x) (ei_tup (ev_var (τ := (yTup K (yP2 K yStr yInt))) rfl h_fields)) (fun x_28 v_29 Z' H' zz hh rx_30 => by
          exact ⟨_, tgt_name, rfl, (ev_tuple_id (fun _ _ _ h => h) it_p2 (ev_var (τ := (yP2 K yStr yInt)) rfl rx_30))⟩)) (List.map_id' _))))) T.cl_Record T.n_Record_fields (Nat.lt_of_le_of_lt (putF_le (putF_le (Nat.le_refl 0))) (by decide)) (fun v_31 Z1 H1 e P1 k_32 hself1 zself1 => ?_))
    refine st_nx ?_
    replace P := P1
    replace hself := hself1
    replace zself := zself1
    replace h_words := ((yTup K (yP2 K yStr yInt))).mono e.z h_words
    replace k_24 := ((yTup K yInt)).mono e.z k_24
    refine st_fld (x := x_words) (τ := (yTup K (yP2 K yStr yInt))) P hself zself List.not_mem_nil (.inl List.mem_cons_self) rfl (ev_tuple_of (fun _ _ _ h => h) (ev_li (ev_fz (en_cast (en_map (fun x => x) (ei_tup (ev_var (τ := (yTup K (yP2 K yStr yInt))) rfl h_words)) (fun x_36 v_37 Z' H' zz hh rx_38 => by
          exact ⟨_, tgt_name, rfl, (ev_tuple_id (fun _ _ _ h => h) it_p2 (ev_var (τ := (yP2 K yStr yInt)) rfl rx_38))⟩)) (List.map_id' _))))) T.cl_Record T.n_Record_words (Nat.lt_of_le_of_lt (putF_le (putF_le (putF_le (Nat.le_refl 0)))) (by decide)) (fun v_39 Z1 H1 e P1 k_40 hself1 zself1 => ?_)
    replace P := P1
    replace hself := hself1
    replace zself := zself1
    replace k_24 := ((yTup K yInt)).mono e.z k_24
    replace k_32 := ((yTup K (yP2 K yStr yInt))).mono e.z k_32
    subst hF
    exact q _ _ _ P.st hself ⟨p, dx, v_21, v_23, v_31, v_39, rfl, upd_same, k_22, ((yTup K yInt)).mono (same_upd zself) k_24, ((yTup K (yP2 K yStr yInt))).mono (same_upd zself) k_32, ((yTup K (yP2 K yStr yInt))).mono (same_upd zself) k_40⟩
theorem is_Record___init__ (T : Txt K mg) {μ : Type} {M : Mu μ} {s : μ} {E : XK} {x_name : Str} {x_vector : (List Int)} {x_fields : (List (Str × Int))} {x_words : (List (Str × Int))} : InitS M T.c_Record (sp_Record___init__ T) E (rac (ty yStr x_name) (rac (ty (yList yInt) x_vector) (rac (ty (yTup K (yP2 K yStr yInt)) x_fields) (rac (ty (yTup K (yP2 K yStr yInt)) x_words) ra0)))) s (ty (y_Record T) (F_Record___init__ x_name x_vector x_fields x_words)) s := by
  rintro Z H vs x dx sz m ⟨v_name, _, rfl, h_name, ⟨v_vector, _, rfl, h_vector, ⟨v_fields, _, rfl, h_fields, ⟨v_words, _, rfl, h_words, rfl⟩⟩⟩⟩ hx zx nx Q q
  exact ⟨x, dx, Z, v_name, v_vector, v_fields, v_words, x_name, x_vector, x_fields, x_words, rfl, sz, hx, zx, h_name, h_vector, h_fields, h_words, fun Z2 H2 o st ho hr => q Z2 H2 o (st.weak fun a h => by rw [List.mem_singleton] at h; rw [h]; exact .inl List.mem_cons_self) (Mu.away st nx m) ho hr⟩
def sp_Record___eq__ (T : Txt K mg) : Sp := fun vs H Q _ => ∃ (Z0 : Hp) (v_self : V) (v_other : V) (x_self : Record) (x_other : Record), vs = [v_self, v_other] ∧ (Same Z0 H) ∧ (((y_Record T)).r Z0 v_self x_self) ∧ (((y_Record T)).r Z0 v_other x_other) ∧ ∀ v Z' H', Step [] Z0 H Z' H' → (yBool).r Z' v (F_Record___eq__ x_self x_other) → Q v H'
set_option maxHeartbeats 4000000 in
theorem ok_Record___eq__ (T : Txt K mg) : FnOk P w K mg base CX0 3 T.f_Record___eq__ T.d_Record___eq__ ["self", "other"] (sp_Record___eq__ T) := by
  have G_same_fields : FnOk P w K mg base CX0 2 T.f_same_fields T.d_same_fields ["ones", "others"] (sp_same_fields T) := ok_same_fields T
  refine T.F_Record___eq__.ok sc_Record___eq__ (fun vs H Q E h => ?_) (fun cdv A outer s H vs Q E hr h => ?_)
  · obtain ⟨Z0, v_self, v_other, x_self, x_other, rfl, _⟩ := h
    rfl
  · obtain ⟨Z0, v_self, v_other, x_self, x_other, rfl, sz, h_self, h_other, q⟩ := h
    refine ⟨_, (pss_one (ps_ret (pe_and (pe_callB call_isi (by rfl) T.m_isinstance (by decide +kernel) (pa_cons (pv 1) (pa_cons (pe_glob (v := .ref T.c_Record) rfl T.mc_Record rfl) pa_nil))) (pe_and (pe_cmpR op_eq (pe_fld (pv 0) rfl) (pe_fld (pv 1) rfl) (nomark _)) (pe_and (pe_cmpR (op_eqD hr.units) (pe_fld (pv 0) rfl) (pe_fld (pv 1) rfl) (nomark _)) (pe_and (pe_call G_same_fields (hr.mono (by decide)) (by rfl) T.g_same_fields T.F_same_fields.kp T.b_same_fields .nil pass0 (pa_cons (pe_fld (pv 0) rfl) (pa_cons (pe_fld (pv 1) rfl) pa_nil))) (pe_one (pe_cmpR (op_eqD hr.units) (pe_fld (pv 0) rfl) (pe_fld (pv 1) rfl) (nomark _))))))))), ?_⟩
    have P := Pt.start0 sz
    generalize hF : F_Record___eq__ x_self x_other = y at q
    unfold F_Record___eq__ at hF
    subst hF
    refine st_ret P (ev_and0 (ev_isi (b := true) (fun _ _ _ h => h) (ev_var (τ := (y_Record T)) rfl h_other) (tx_Record T) (.own _) T.kit_Record_Record) (ev_and0 (ev_eq flat_str (ev_fld (fo_Record_name T) T.cl_Record T.n_Record_name (ev_var (τ := (y_Record T)) rfl h_self)) (ev_fld (fo_Record_name T) T.cl_Record T.n_Record_name (ev_var (τ := (y_Record T)) rfl h_other))) (ev_and0 (ev_eqD (eqd_tup eqd_int) (by decide) (ev_fld (fo_Record_vector T) T.cl_Record T.n_Record_vector (ev_var (τ := (y_Record T)) rfl h_self)) (ev_fld (fo_Record_vector T) T.cl_Record T.n_Record_vector (ev_var (τ := (y_Record T)) rfl h_other))) (ev_and0 (ev_call (cs_same_fields T) (eva_cons (ev_fld (fo_Record_fields T) T.cl_Record T.n_Record_fields (ev_var (τ := (y_Record T)) rfl h_self)) (eva_cons (ev_fld (fo_Record_fields T) T.cl_Record T.n_Record_fields (ev_var (τ := (y_Record T)) rfl h_other)) eva_nil))) (ev_eqD (eqd_tup (eqd_p2 eqd_str eqd_int)) (by decide) (ev_fld (fo_Record_words T) T.cl_Record T.n_Record_words (ev_var (τ := (y_Record T)) rfl h_self)) (ev_fld (fo_Record_words T) T.cl_Record T.n_Record_words (ev_var (τ := (y_Record T)) rfl h_other))))))) (fun v Z1 H1 P1 hv => ?_)
    exact q v _ _ P1.st hv
theorem cs_Record___eq__ (T : Txt K mg) {μ : Type} {M : Mu μ} {s : μ} {E : XK} {x_self : Record} {x_other : Record} : CallS M (sp_Record___eq__ T) E (rac (ty (y_Record T) x_self) (rac (ty (y_Record T) x_other) ra0)) s (ty yBool (F_Record___eq__ x_self x_other)) s := by
  rintro Z H vs sz m ⟨v_self, _, rfl, h_self, ⟨v_other, _, rfl, h_other, rfl⟩⟩ Q q
  exact ⟨Z, v_self, v_other, x_self, x_other, rfl, sz, h_self, h_other, fun v Z2 H2 st hv => q v Z2 H2 st.pure (M.pure st m) hv⟩
theorem ref_Record (T : Txt K mg) : ∀ Z v x, (y_Record T).r Z v x → ∃ a, v = .ref a := fun _ _ _ ⟨a, _, _, _, _, _, e, _⟩ => ⟨a, e⟩
theorem fn_Record {X : Cx} (T : Txt K mg) (hK : X.K = K) : FnI X (y_Record T) := fun pins σ s Z H v x y I sz ⟨a, dx, w0, w1, w2, w3, e, h, h0, h1, h2, h3⟩ ⟨c, dy, u0, u1, u2, u3, e2, h2, g0, g1, g2, g3⟩ => by
  subst hK; cases e; cases e2
  rw [h] at h2
  have e3 := Option.some.inj h2
  injection e3 with _ _ e3
  have lk : ∀ m, (ff_Record w0 w1 w2 w3).lookup m = (ff_Record u0 u1 u2 u3).lookup m := fun m => by rw [e3]
  have q0 := lk "name"
  rw [lk_Record_name, lk_Record_name] at q0
  cases q0
  have q1 := lk "vector"
  rw [lk_Record_vector, lk_Record_vector] at q1
  cases q1
  have q2 := lk "fields"
  rw [lk_Record_fields, lk_Record_fields] at q2
  cases q2
  have q3 := lk "words"
  rw [lk_Record_words, lk_Record_words] at q3
  cases q3
  cases x; cases y
  simp only [Record.mk.injEq]
  exact ⟨fn_str pins σ s Z H _ _ _ I sz h0 g0, (fn_tup fn_int) pins σ s Z H _ _ _ I sz h1 g1, (fn_tup (fn_p2 fn_str fn_int)) pins σ s Z H _ _ _ I sz h2 g2, (fn_tup (fn_p2 fn_str fn_int)) pins σ s Z H _ _ _ I sz h3 g3⟩
theorem hsp_Record (T : Txt K mg) : ∀ vs H Q E, TPQ.spEqB (FTr (y_Record T)) vs H Q E → sp_Record___eq__ T vs H Q E := by
  rintro vs H Q E ⟨a, c, b, rfl, ⟨Z, x, y, sz, r1, r2, rfl⟩, k⟩
  refine ⟨Z, _, _, x, y, rfl, sz, r1, r2, fun v Z' H' st hv => ?_⟩
  have hv2 : v = V.bl (decide (x = y)) := by rw [eq_Record] at hv; exact hv
  rw [hv2]
  exact k H' fun p o h => st.h p o List.not_mem_nil h
def sp_Region___init__ (T : Txt K mg) : Sp := fun vs H Q _ => ∃ (p dx : Addr) (Z0 : Hp) (v_parent : V) (v_facts : V) (x_parent : (Option Int)) (x_facts : (List Int)), vs = [.ref p, v_parent, v_facts] ∧ (Same Z0 H) ∧ (H p = some (.ins T.c_Region dx [])) ∧ (Z0 p = none) ∧ (((yOpt yInt)).r Z0 v_parent x_parent) ∧ (((yList yInt)).r Z0 v_facts x_facts) ∧ ∀ Z' H' o, Step [p] Z0 H Z' H' → H' p = some o → (y_Region T).r (upd Z' p o) (.ref p) (F_Region___init__ x_parent x_facts) → Q .non H'
set_option maxHeartbeats 4000000 in
theorem ok_Region___init__ (T : Txt K mg) : FnOk P w K mg base CX0 1 T.f_Region___init__ T.d_Region___init__ ["self", "parent", "facts"] (sp_Region___init__ T) := by
  refine T.F_Region___init__.ok sc_Region___init__ (fun vs H Q E h => ?_) (fun cdv A outer s H vs Q E hr h => ?_)
  · obtain ⟨p, dx, Z0, v_parent, v_facts, x_parent, x_facts, rfl, _⟩ := h
    rfl
  · obtain ⟨p, dx, Z0, v_parent, v_facts, x_parent, x_facts, rfl, sz, hself, zself, h_parent, h_facts, q⟩ := h
    refine ⟨_, (pss_cons (ps_fld (pv 0) (pv 1) rfl) 
      (pss_one (ps_fld (pv 0) (pe_callTy call_tuple_of (by rfl) T.m_tuple (by decide +kernel) (pa_cons (pv 2) pa_nil)) rfl))), ?_⟩
    have P : Pt [p] Z0 H muN Z0 H () := ⟨Step.refl sz, trivial, fun _ h => (nomatch h)⟩
    generalize hF : F_Region___init__ x_parent x_facts = y at q
    unfold F_Region___init__ at hF
    refine st_seq (st_fld (x := x_parent) (τ := (yOpt yInt)) P hself zself List.not_mem_nil (.inl List.mem_cons_self) rfl (ev_var (τ := (yOpt yInt)) rfl h_parent) T.cl_Region T.n_Region_parent (Nat.lt_of_le_of_lt (Nat.le_refl 0) (by decide)) (fun v_41 Z1 H1 e P1 k_42 hself1 zself1 => ?_))
    refine st_nx ?_
    replace P := P1
    replace hself := hself1
    replace zself := zself1
    replace h_facts := ((yList yInt)).mono e.z h_facts
    refine st_fld (x := x_facts) (τ := (yTup K yInt)) P hself zself List.not_mem_nil (.inl List.mem_cons_self) rfl (ev_tuple_of (fun _ _ _ h => h) (ev_li (ev_var (τ := (yList yInt)) rfl h_facts))) T.cl_Region T.n_Region_facts (Nat.lt_of_le_of_lt (putF_le (Nat.le_refl 0)) (by decide)) (fun v_43 Z1 H1 e P1 k_44 hself1 zself1 => ?_)
    replace P := P1
    replace hself := hself1
    replace zself := zself1
    replace k_42 := ((yOpt yInt)).mono e.z k_42
    subst hF
    exact q _ _ _ P.st hself ⟨p, dx, v_41, v_43, rfl, upd_same, ((yOpt yInt)).mono (same_upd zself) k_42, ((yTup K yInt)).mono (same_upd zself) k_44⟩
theorem is_Region___init__ (T : Txt K mg) {μ : Type} {M : Mu μ} {s : μ} {E : XK} {x_parent : (Option Int)} {x_facts : (List Int)} : InitS M T.c_Region (sp_Region___init__ T) E (rac (ty (yOpt yInt) x_parent) (rac (ty (yList yInt) x_facts) ra0)) s (ty (y_Region T) (F_Region___init__ x_parent x_facts)) s := by
  rintro Z H vs x dx sz m ⟨v_parent, _, rfl, h_parent, ⟨v_facts, _, rfl, h_facts, rfl⟩⟩ hx zx nx Q q
  exact ⟨x, dx, Z, v_parent, v_facts, x_parent, x_facts, rfl, sz, hx, zx, h_parent, h_facts, fun Z2 H2 o st ho hr => q Z2 H2 o (st.weak fun a h => by rw [List.mem_singleton] at h; rw [h]; exact .inl List.mem_cons_self) (Mu.away st nx m) ho hr⟩
def sp_Entry___init__ (T : Txt K mg) : Sp := fun vs H Q _ => ∃ (p dx : Addr) (Z0 : Hp) (v_number : V) (v_record : V) (v_leaves : V) (x_number : Int) (x_record : Record) (x_leaves : (List Int)), vs = [.ref p, v_number, v_record, v_leaves] ∧ (Same Z0 H) ∧ (H p = some (.ins T.c_Entry dx [])) ∧ (Z0 p = none) ∧ ((yInt).r Z0 v_number x_number) ∧ (((y_Record T)).r Z0 v_record x_record) ∧ (((yList yInt)).r Z0 v_leaves x_leaves) ∧ ∀ Z' H' o, Step [p] Z0 H Z' H' → H' p = some o → (y_Entry T).r (upd Z' p o) (.ref p) (F_Entry___init__ x_number x_record x_leaves) → Q .non H'
set_option maxHeartbeats 4000000 in
theorem ok_Entry___init__ (T : Txt K mg) : FnOk P w K mg base CX0 1 T.f_Entry___init__ T.d_Entry___init__ ["self", "number", "record", "leaves"] (sp_Entry___init__ T) := by
  refine T.F_Entry___init__.ok sc_Entry___init__ (fun vs H Q E h => ?_) (fun cdv A outer s H vs Q E hr h => ?_)
  · obtain ⟨p, dx, Z0, v_number, v_record, v_leaves, x_number, x_record, x_leaves, rfl, _⟩ := h
    rfl
  · obtain ⟨p, dx, Z0, v_number, v_record, v_leaves, x_number, x_record, x_leaves, rfl, sz, hself, zself, h_number, h_record, h_leaves, q⟩ := h
    refine ⟨_, (pss_cons (ps_fld (pv 0) (pv 1) rfl) 
      (pss_cons (ps_fld (pv 0) (pv 2) rfl) 
      (pss_one (ps_fld (pv 0) (pe_callTy call_tuple_of (by rfl) T.m_tuple (by decide +kernel) (pa_cons (pv 3) pa_nil)) rfl)))), ?_⟩
    have P : Pt [p] Z0 H muN Z0 H () := ⟨Step.refl sz, trivial, fun _ h => (nomatch h)⟩
    generalize hF : F_Entry___init__ x_number x_record x_leaves = y at q
    unfold F_Entry___init__ at hF
    refine st_seq (st_fld (x := x_number) (τ := yInt) P hself zself List.not_mem_nil (.inl List.mem_cons_self) rfl (ev_var (τ := yInt) rfl h_number) T.cl_Entry T.n_Entry_number (Nat.lt_of_le_of_lt (Nat.le_refl 0) (by decide)) (fun v_45 Z1 H1 e P1 k_46 hself1 zself1 => ?_))
    refine st_nx ?_
    replace P := P1
    replace hself := hself1
    replace zself := zself1
    replace h_record := ((y_Record T)).mono e.z h_record
    replace h_leaves := ((yList yInt)).mono e.z h_leaves
    refine st_seq (st_fld (x := x_record) (τ := (y_Record T)) P hself zself List.not_mem_nil (.inl List.mem_cons_self) rfl (ev_var (τ := (y_Record T)) rfl h_record) T.cl_Entry T.n_Entry_record (Nat.lt_of_le_of_lt (putF_le (Nat.le_refl 0)) (by decide)) (fun v_47 Z1 H1 e P1 k_48 hself1 zself1 => ?_))
    refine st_nx ?_
    replace P := P1
    replace hself := hself1
    replace zself := zself1
    replace h_leaves := ((yList yInt)).mono e.z h_leaves
    refine st_fld (x := x_leaves) (τ := (yTup K yInt)) P hself zself List.not_mem_nil (.inl List.mem_cons_self) rfl (ev_tuple_of (fun _ _ _ h => h) (ev_li (ev_var (τ := (yList yInt)) rfl h_leaves))) T.cl_Entry T.n_Entry_leaves (Nat.lt_of_le_of_lt (putF_le (putF_le (Nat.le_refl 0))) (by decide)) (fun v_49 Z1 H1 e P1 k_50 hself1 zself1 => ?_)
    replace P := P1
    replace hself := hself1
    replace zself := zself1
    replace k_48 := ((y_Record T)).mono e.z k_48
    subst hF
    exact q _ _ _ P.st hself ⟨p, dx, v_45, v_47, v_49, rfl, upd_same, k_46, ((y_Record T)).mono (same_upd zself) k_48, ((yTup K yInt)).mono (same_upd zself) k_50⟩
theorem is_Entry___init__ (T : Txt K mg) {μ : Type} {M : Mu μ} {s : μ} {E : XK} {x_number : Int} {x_record : Record} {x_leaves : (List Int)} : InitS M T.c_Entry (sp_Entry___init__ T) E (rac (ty yInt x_number) (rac (ty (y_Record T) x_record) (rac (ty (yList yInt) x_leaves) ra0))) s (ty (y_Entry T) (F_Entry___init__ x_number x_record x_leaves)) s := by
  rintro Z H vs x dx sz m ⟨v_number, _, rfl, h_number, ⟨v_record, _, rfl, h_record, ⟨v_leaves, _, rfl, h_leaves, rfl⟩⟩⟩ hx zx nx Q q
  exact ⟨x, dx, Z, v_number, v_record, v_leaves, x_number, x_record, x_leaves, rfl, sz, hx, zx, h_number, h_record, h_leaves, fun Z2 H2 o st ho hr => q Z2 H2 o (st.weak fun a h => by rw [List.mem_singleton] at h; rw [h]; exact .inl List.mem_cons_self) (Mu.away st nx m) ho hr⟩
def sp_Entry___eq__ (T : Txt K mg) : Sp := fun vs H Q _ => ∃ (Z0 : Hp) (v_self : V) (v_other : V) (x_self : Entry) (x_other : Entry), vs = [v_self, v_other] ∧ (Same Z0 H) ∧ (((y_Entry T)).r Z0 v_self x_self) ∧ (((y_Entry T)).r Z0 v_other x_other) ∧ ∀ v Z' H', Step [] Z0 H Z' H' → (yBool).r Z' v (F_Entry___eq__ x_self x_other) → Q v H'
set_option maxHeartbeats 4000000 in
theorem ok_Entry___eq__ (T : Txt K mg) : FnOk P w K mg base CX0 4 T.f_Entry___eq__ T.d_Entry___eq__ ["self", "other"] (sp_Entry___eq__ T) := by
  have G_Record___eq__ : FnOk P w K mg base CX0 3 T.f_Record___eq__ T.d_Record___eq__ ["self", "other"] (sp_Record___eq__ T) := ok_Record___eq__ T
  refine T.F_Entry___eq__.ok sc_Entry___eq__ (fun vs H Q E h => ?_) (fun cdv A outer s H vs Q E hr h => ?_)
  · obtain ⟨Z0, v_self, v_other, x_self, x_other, rfl, _⟩ := h
    rfl
  · obtain ⟨Z0, v_self, v_other, x_self, x_other, rfl, sz, h_self, h_other, q⟩ := h
    refine ⟨_, (pss_one (ps_ret (pe_and (pe_callB call_isi (by rfl) T.m_isinstance (by decide +kernel) (pa_cons (pv 1) (pa_cons (pe_glob (v := .ref T.c_Entry) rfl T.mc_Entry rfl) pa_nil))) (pe_and (pe_cmpR op_eq (pe_fld (pv 0) rfl) (pe_fld (pv 1) rfl) (nomark _)) (pe_and (pe_cmpR (TPN.op_ownE T.me_Record___eq__ G_Record___eq__ (hr.mono (by decide)) T.b_Record___eq__ pass0) (pe_fld (pv 0) rfl) (pe_fld (pv 1) rfl) (nomark _)) (pe_one (pe_cmpR (op_eqD hr.units) (pe_fld (pv 0) rfl) (pe_fld (pv 1) rfl) (nomark _)))))))), ?_⟩
    have P := Pt.start0 sz
    generalize hF : F_Entry___eq__ x_self x_other = y at q
    unfold F_Entry___eq__ at hF
    subst hF
    refine st_ret P (ev_and0 (ev_isi (b := true) (fun _ _ _ h => h) (ev_var (τ := (y_Entry T)) rfl h_other) (tx_Entry T) (.own _) T.kit_Entry_Entry) (ev_and0 (ev_eq flat_int (ev_fld (fo_Entry_number T) T.cl_Entry T.n_Entry_number (ev_var (τ := (y_Entry T)) rfl h_self)) (ev_fld (fo_Entry_number T) T.cl_Entry T.n_Entry_number (ev_var (τ := (y_Entry T)) rfl h_other))) (ev_and0 (ev_cast (ev_ownE (neg := false) (ins_Record T) (tx_Record T) TPN.nf_self (cs_Record___eq__ T) (ev_fld (fo_Entry_record T) T.cl_Entry T.n_Entry_record (ev_var (τ := (y_Entry T)) rfl h_self)) (ev_fld (fo_Entry_record T) T.cl_Entry T.n_Entry_record (ev_var (τ := (y_Entry T)) rfl h_other))) bneF) (ev_eqD (eqd_tup eqd_int) (by decide) (ev_fld (fo_Entry_leaves T) T.cl_Entry T.n_Entry_leaves (ev_var (τ := (y_Entry T)) rfl h_self)) (ev_fld (fo_Entry_leaves T) T.cl_Entry T.n_Entry_leaves (ev_var (τ := (y_Entry T)) rfl h_other)))))) (fun v Z1 H1 P1 hv => ?_)
    exact q v _ _ P1.st hv
theorem cs_Entry___eq__ (T : Txt K mg) {μ : Type} {M : Mu μ} {s : μ} {E : XK} {x_self : Entry} {x_other : Entry} : CallS M (sp_Entry___eq__ T) E (rac (ty (y_Entry T) x_self) (rac (ty (y_Entry T) x_other) ra0)) s (ty yBool (F_Entry___eq__ x_self x_other)) s := by
  rintro Z H vs sz m ⟨v_self, _, rfl, h_self, ⟨v_other, _, rfl, h_other, rfl⟩⟩ Q q
  exact ⟨Z, v_self, v_other, x_self, x_other, rfl, sz, h_self, h_other, fun v Z2 H2 st hv => q v Z2 H2 st.pure (M.pure st m) hv⟩
theorem ref_Entry (T : Txt K mg) : ∀ Z v x, (y_Entry T).r Z v x → ∃ a, v = .ref a := fun _ _ _ ⟨a, _, _, _, _, e, _⟩ => ⟨a, e⟩
theorem fn_Entry {X : Cx} (T : Txt K mg) (hK : X.K = K) : FnI X (y_Entry T) := fun pins σ s Z H v x y I sz ⟨a, dx, w0, w1, w2, e, h, h0, h1, h2⟩ ⟨c, dy, u0, u1, u2, e2, h2, g0, g1, g2⟩ => by
  subst hK; cases e; cases e2
  rw [h] at h2
  have e3 := Option.some.inj h2
  injection e3 with _ _ e3
  have lk : ∀ m, (ff_Entry w0 w1 w2).lookup m = (ff_Entry u0 u1 u2).lookup m := fun m => by rw [e3]
  have q0 := lk "number"
  rw [lk_Entry_number, lk_Entry_number] at q0
  cases q0
  have q1 := lk "record"
  rw [lk_Entry_record, lk_Entry_record] at q1
  cases q1
  have q2 := lk "leaves"
  rw [lk_Entry_leaves, lk_Entry_leaves] at q2
  cases q2
  cases x; cases y
  simp only [Entry.mk.injEq]
  exact ⟨fn_int pins σ s Z H _ _ _ I sz h0 g0, (fn_Record T rfl) pins σ s Z H _ _ _ I sz h1 g1, (fn_tup fn_int) pins σ s Z H _ _ _ I sz h2 g2⟩
theorem hsp_Entry (T : Txt K mg) : ∀ vs H Q E, TPQ.spEqB (FTr (y_Entry T)) vs H Q E → sp_Entry___eq__ T vs H Q E := by
  rintro vs H Q E ⟨a, c, b, rfl, ⟨Z, x, y, sz, r1, r2, rfl⟩, k⟩
  refine ⟨Z, _, _, x, y, rfl, sz, r1, r2, fun v Z' H' st hv => ?_⟩
  have hv2 : v = V.bl (decide (x = y)) := by rw [eq_Entry] at hv; exact hv
  rw [hv2]
  exact k H' fun p o h => st.h p o List.not_mem_nil h
def sp_Offer___init__ (T : Txt K mg) : Sp := fun vs H Q _ => ∃ (p dx : Addr) (Z0 : Hp) (v_partitions : V) (v_entries : V) (x_partitions : (List (List Region))) (x_entries : (List Entry)), vs = [.ref p, v_partitions, v_entries] ∧ (Same Z0 H) ∧ (H p = some (.ins T.c_Offer dx [])) ∧ (Z0 p = none) ∧ (((yList (yList (y_Region T)))).r Z0 v_partitions x_partitions) ∧ (((yList (y_Entry T))).r Z0 v_entries x_entries) ∧ ∀ Z' H' o, Step [p] Z0 H Z' H' → H' p = some o → (y_Offer T).r (upd Z' p o) (.ref p) (F_Offer___init__ x_partitions x_entries) → Q .non H'
set_option maxHeartbeats 4000000 in
theorem ok_Offer___init__ (T : Txt K mg) : FnOk P w K mg base CX0 1 T.f_Offer___init__ T.d_Offer___init__ ["self", "partitions", "entries"] (sp_Offer___init__ T) := by
  refine T.F_Offer___init__.ok sc_Offer___init__ (fun vs H Q E h => ?_) (fun cdv A outer s H vs Q E hr h => ?_)
  · obtain ⟨p, dx, Z0, v_partitions, v_entries, x_partitions, x_entries, rfl, _⟩ := h
    rfl
  · obtain ⟨p, dx, Z0, v_partitions, v_entries, x_partitions, x_entries, rfl, sz, hself, zself, h_partitions, h_entries, q⟩ := h
    refine ⟨_, (pss_cons (ps_fld (pv 0) (pe_callTy call_tuple_of (by rfl) T.m_tuple (by decide +kernel) (pa_cons (pe_lc (own := [("regions", 3)]) (g := gName 3) rfl sc_Offer___init__.nd (pi_list (pv 1)) (blkOk_by (own := [("regions", 3)]) (N := ["self", "partitions", "entries", "regions"]) (sc := defScope s_Offer___init__) (by decide +kernel)) (fun _ _ _ _ _ => (pg_name (i := 3) sc_Offer___init__.nd rfl (Or.inl rfl))) (fun _ _ _ _ _ => pts_nil) (fun _ _ _ _ _ => (pe_callTy (r := rTupleB K) (by exact call_tuple_of) (by rfl) T.m_tuple (by decide +kernel) (pa_cons (pv 3) pa_nil)))) pa_nil)) rfl) 
      (pss_one (ps_fld (pv 0) (pe_callTy call_tuple_of (by rfl) T.m_tuple (by decide +kernel) (pa_cons (pv 2) pa_nil)) rfl))), ?_⟩
    have P : Pt [p] Z0 H muN Z0 H () := ⟨Step.refl sz, trivial, fun _ h => (nomatch h)⟩
    generalize hF : F_Offer___init__ x_partitions x_entries = y at q
    unfold F_Offer___init__ at hF
    refine st_seq (st_fld (x := x_partitions) (τ := (yTup K (yTup K (y_Region T)))) P hself zself List.not_mem_nil (.inl List.mem_cons_self) rfl (ev_tuple_of (fun _ _ _ h => h) (ev_li (ev_fz (en_cast (en_map (fun x => x) (ei_list (ev_var (τ := (yList (yList (y_Region T)))) rfl h_partitions)) (fun x_54 v_55 Z' H' zz hh rx_56 => by
          exact ⟨_, tgt_name, rfl, (ev_tuple_of (fun _ _ _ h => h) (ev_li (ev_var (τ := (yList (y_Region T))) rfl rx_56)))⟩)) (List.map_id' _))))) T.cl_Offer T.n_Offer_partitions (Nat.lt_of_le_of_lt (Nat.le_refl 0) (by decide)) (fun v_57 Z1 H1 e P1 k_58 hself1 zself1 => ?_))
    refine st_nx ?_
    replace P := P1
    replace hself := hself1
    replace zself := zself1
    replace h_entries := ((yList (y_Entry T))).mono e.z h_entries
    refine st_fld (x := x_entries) (τ := (yTup K (y_Entry T))) P hself zself List.not_mem_nil (.inl List.mem_cons_self) rfl (ev_tuple_of (fun _ _ _ h => h) (ev_li (ev_var (τ := (yList (y_Entry T))) rfl h_entries))) T.cl_Offer T.n_Offer_entries (Nat.lt_of_le_of_lt (putF_le (Nat.le_refl 0)) (by decide)) (fun v_59 Z1 H1 e P1 k_60 hself1 zself1 => ?_)
    replace P := P1
    replace hself := hself1
    replace zself := zself1
    replace k_58 := ((yTup K (yTup K (y_Region T)))).mono e.z k_58
    subst hF
    exact q _ _ _ P.st hself ⟨p, dx, v_57, v_59, rfl, upd_same, ((yTup K (yTup K (y_Region T)))).mono (same_upd zself) k_58, ((yTup K (y_Entry T))).mono (same_upd zself) k_60⟩
theorem is_Offer___init__ (T : Txt K mg) {μ : Type} {M : Mu μ} {s : μ} {E : XK} {x_partitions : (List (List Region))} {x_entries : (List Entry)} : InitS M T.c_Offer (sp_Offer___init__ T) E (rac (ty (yList (yList (y_Region T))) x_partitions) (rac (ty (yList (y_Entry T)) x_entries) ra0)) s (ty (y_Offer T) (F_Offer___init__ x_partitions x_entries)) s := by
  rintro Z H vs x dx sz m ⟨v_partitions, _, rfl, h_partitions, ⟨v_entries, _, rfl, h_entries, rfl⟩⟩ hx zx nx Q q
  exact ⟨x, dx, Z, v_partitions, v_entries, x_partitions, x_entries, rfl, sz, hx, zx, h_partitions, h_entries, fun Z2 H2 o st ho hr => q Z2 H2 o (st.weak fun a h => by rw [List.mem_singleton] at h; rw [h]; exact .inl List.mem_cons_self) (Mu.away st nx m) ho hr⟩
def sp_piece_at (T : Txt K mg) : Sp := fun vs H Q _ => ∃ (Z0 : Hp) (v_offer : V) (v_index : V) (x_offer : Offer) (x_index : Int), vs = [v_offer, v_index] ∧ (Same Z0 H) ∧ (((y_Offer T)).r Z0 v_offer x_offer) ∧ ((yInt).r Z0 v_index x_index) ∧ ∀ v Z' H', Step [] Z0 H Z' H' → ((yTup K (y_Entry T))).r Z' v (F_piece_at x_offer x_index) → Q v H'
set_option maxHeartbeats 4000000 in
theorem ok_piece_at (T : Txt K mg) : FnOk P w K mg base CX0 1 T.f_piece_at T.d_piece_at ["offer", "index"] (sp_piece_at T) := by
  refine T.F_piece_at.ok sc_piece_at (fun vs H Q E h => ?_) (fun cdv A outer s H vs Q E hr h => ?_)
  · obtain ⟨Z0, v_offer, v_index, x_offer, x_index, rfl, _⟩ := h
    rfl
  · obtain ⟨Z0, v_offer, v_index, x_offer, x_index, rfl, sz, h_offer, h_index, q⟩ := h
    refine ⟨_, (pss_cons (ps_if (pt_cmpR op_lt (pv 1) pe_int (nomark _)) (pss_one (ps_ret (pe_tup pa_nil))) pss_nil) 
      (pss_one (ps_ret (pe_slice sl_tupW (pe_fld (pv 0) rfl) (po_some (pe_op op_mul (pv 1) (pe_glob (v := .int 4) rfl T.m_PIECE.choose_spec ⟨_, rfl⟩))) (po_some (pe_op op_mul (pe_op op_add (pv 1) pe_int) (pe_glob (v := .int 4) rfl T.m_PIECE.choose_spec ⟨_, rfl⟩))))))), ?_⟩
    have P := Pt.start0 sz
    generalize hF : F_piece_at x_offer x_index = y at q
    unfold F_piece_at at hF
    refine st_seq (st_if P (et_cmp (ev_lt (ev_var (τ := yInt) rfl h_index) ev_int)) (fun b_61 Z1 H1 e P1 => ?_) (fun b_61 Z1 H1 e P1 => ?_))
    · replace P := P1
      have hB := ifT b_61 hF
      replace hF := hB
      clear hB
      subst hF
      refine st_ret P (ev_tupD (K := K) (eva_nils (τ := (y_Entry T))) (by show 0 ≤ sizeLine; decide)) (fun v Z1 H1 P1 hv => ?_)
      exact q v _ _ P1.st hv
    · replace P := P1
      have hB := ifF b_61 hF
      replace hF := hB
      clear hB
      refine st_next0 ?_
      replace h_offer := ((y_Offer T)).mono e.z h_offer
      subst hF
      refine st_ret P (ev_slT (ev_fld (fo_Offer_entries T) T.cl_Offer T.n_Offer_entries (ev_var (τ := (y_Offer T)) rfl h_offer)) (eo_some (ev_mul (ev_var (τ := yInt) rfl h_index) ev_int (.inr (by decide)))) (eo_some (ev_mul (ev_add (ev_var (τ := yInt) rfl h_index) ev_int) ev_int (.inr (by decide))))) (fun v Z1 H1 P1 hv => ?_)
      exact q v _ _ P1.st hv
theorem cs_piece_at (T : Txt K mg) {μ : Type} {M : Mu μ} {s : μ} {E : XK} {x_offer : Offer} {x_index : Int} : CallS M (sp_piece_at T) E (rac (ty (y_Offer T) x_offer) (rac (ty yInt x_index) ra0)) s (ty (yTup K (y_Entry T)) (F_piece_at x_offer x_index)) s := by
  rintro Z H vs sz m ⟨v_offer, _, rfl, h_offer, ⟨v_index, _, rfl, h_index, rfl⟩⟩ Q q
  exact ⟨Z, v_offer, v_index, x_offer, x_index, rfl, sz, h_offer, h_index, fun v Z2 H2 st hv => q v Z2 H2 st.pure (M.pure st m) hv⟩
def sp_is_digit (T : Txt K mg) : Sp := fun vs H Q _ => ∃ (Z0 : Hp) (v_char : V) (x_char : Str), vs = [v_char] ∧ (Same Z0 H) ∧ ((yStr).r Z0 v_char x_char) ∧ ∀ v Z' H', Step [] Z0 H Z' H' → (yBool).r Z' v (F_is_digit x_char) → Q v H'
set_option maxHeartbeats 4000000 in
theorem ok_is_digit (T : Txt K mg) : FnOk P w K mg base CX0 1 T.f_is_digit T.d_is_digit ["char"] (sp_is_digit T) := by
  refine T.F_is_digit.ok sc_is_digit (fun vs H Q E h => ?_) (fun cdv A outer s H vs Q E hr h => ?_)
  · obtain ⟨Z0, v_char, x_char, rfl, _⟩ := h
    rfl
  · obtain ⟨Z0, v_char, x_char, rfl, sz, h_char, q⟩ := h
    refine ⟨_, (pss_one (ps_ret (pe_chain op_le_str op_le_str pe_str (pv 0) pe_str))), ?_⟩
    have P := Pt.start0 sz
    generalize hF : F_is_digit x_char = y at q
    unfold F_is_digit at hF
    subst hF
    refine st_ret P (ev_chainS ev_str (ev_var (τ := yStr) rfl h_char) ev_str) (fun v Z1 H1 P1 hv => ?_)
    exact q v _ _ P1.st hv
theorem cs_is_digit (T : Txt K mg) {μ : Type} {M : Mu μ} {s : μ} {E : XK} {x_char : Str} : CallS M (sp_is_digit T) E (rac (ty yStr x_char) ra0) s (ty yBool (F_is_digit x_char)) s := by
  rintro Z H vs sz m ⟨v_char, _, rfl, h_char, rfl⟩ Q q
  exact ⟨Z, v_char, x_char, rfl, sz, h_char, fun v Z2 H2 st hv => q v Z2 H2 st.pure (M.pure st m) hv⟩
def sp_number_in (T : Txt K mg) : Sp := fun vs H Q _ => ∃ (Z0 : Hp) (v_text : V) (x_text : Str) (y : (Option Int)), vs = [v_text] ∧ (Same Z0 H) ∧ ((yStr).r Z0 v_text x_text) ∧ (F_number_in x_text = some y) ∧ ∀ v Z' H', Step [] Z0 H Z' H' → ((yOpt yInt)).r Z' v y → Q v H'
set_option maxHeartbeats 4000000 in
theorem ok_number_in (T : Txt K mg) : FnOk P w K mg base CX0 2 T.f_number_in T.d_number_in ["text"] (sp_number_in T) := by
  have G_is_digit : FnOk P w K mg base CX0 1 T.f_is_digit T.d_is_digit ["char"] (sp_is_digit T) := ok_is_digit T
  refine T.F_number_in.ok sc_number_in (fun vs H Q E h => ?_) (fun cdv A outer s H vs Q E hr h => ?_)
  · obtain ⟨Z0, v_text, x_text, y, rfl, _⟩ := h
    rfl
  · obtain ⟨Z0, v_text, x_text, y, rfl, sz, h_text, hF, q⟩ := h
    refine ⟨_, (pss_cons (ps_if (PW.pt (pw_or (pt_cmpR op_eq (pv 0) pe_str (nomark _)) (pw_or1 (pt_not (pt_val (pe_callB (cr_all rfl) (by rfl) T.m_all (by decide +kernel) (pa_cons (pe_lc (own := [("char", 1)]) (g := gName 1) rfl sc_number_in.nd (pi_str (pv 0)) (blkOk_by (own := [("char", 1)]) (N := ["text", "char"]) (sc := defScope s_number_in) (by decide +kernel)) (fun _ _ _ _ _ => (pg_name (i := 1) sc_number_in.nd rfl (Or.inl rfl))) (fun _ _ _ _ _ => pts_nil) (fun _ _ _ _ _ => (pe_call G_is_digit (hr.mono (by decide)) (by rfl) T.g_is_digit T.F_is_digit.kp T.b_is_digit .nil pass0 (pa_cons (pv 1) pa_nil)))) pa_nil))))))) (pss_one (ps_ret pe_non)) pss_nil) 
      (pss_cons (ps_if (PW.pt (pw_and (pt_cmpR op_eq (pe_ix ix_str (pv 0) pe_int (fun _ _ => rfl)) pe_str (nomark _)) (pw_and1 (pt_cmpR op_gt (pe_callB call_len_str (by rfl) T.m_len PySem.boot_len (pa_cons (pv 0) pa_nil)) pe_int (nomark _))))) (pss_one (ps_ret pe_non)) pss_nil) 
      (pss_one (ps_ret (pe_callTy call_int_str (by rfl) T.m_int (by decide +kernel) (pa_cons (pv 0) pa_nil)))))), ?_⟩
    have P := Pt.start0 sz
    unfold F_number_in at hF
    refine st_seq (st_if P (et_or0 (et_cmp (ev_eq flat_str (ev_var (τ := yStr) rfl h_text) ev_str)) (et_not (et_val (ev_allL (ev_li (ev_fz (en_map (fun (x_72 : Str) => (F_is_digit x_72)) (ei_str (ev_var (τ := yStr) rfl h_text)) (fun x_72 v_73 Z' H' zz hh rx_74 => by
          exact ⟨_, tgt_name, rfl, (ev_call (cs_is_digit T) (eva_cons (ev_var (τ := yStr) rfl rx_74) eva_nil))⟩)))))))) (fun b_75 Z1 H1 e P1 => ?_) (fun b_75 Z1 H1 e P1 => ?_))
    · replace P := P1
      have hB := ifT b_75 hF
      replace hF := hB
      clear hB
      replace hF := Option.some.inj hF
      subst hF
      refine st_ret P (ev_none (τ := yInt) ev_non) (fun v Z1 H1 P1 hv => ?_)
      exact q v _ _ P1.st hv
    · replace P := P1
      have hB := ifF b_75 hF
      replace hF := hB
      clear hB
      refine st_next0 ?_
      obtain ⟨i_76, h_77, hF⟩ := bind_inv hF
      refine st_seq (st_if P (et_and0 (et_cmp (ev_eq flat_str (ev_ixS (ev_var (τ := yStr) rfl h_text) ev_int h_77) ev_str)) (et_cmp (ev_gt (ev_len_str (ev_var (τ := yStr) rfl h_text)) ev_int))) (fun b_78 Z1 H1 e P1 => ?_) (fun b_78 Z1 H1 e P1 => ?_))
      · replace P := P1
        have hB := ifT b_78 hF
        replace hF := hB
        clear hB
        replace hF := Option.some.inj hF
        subst hF
        refine st_ret P (ev_none (τ := yInt) ev_non) (fun v Z1 H1 P1 hv => ?_)
        exact q v _ _ P1.st hv
      · replace P := P1
        have hB := ifF b_78 hF
        replace hF := hB
        clear hB
        refine st_next0 ?_
        obtain ⟨n_79, h_80, hF⟩ := bind_inv hF
        obtain ⟨g_81, hF⟩ := guard_inv hF
        replace hF := Option.some.inj hF
        subst hF
        refine st_ret P (ev_some nn_int (ev_int_str (ev_var (τ := yStr) rfl h_text) h_80 g_81)) (fun v Z1 H1 P1 hv => ?_)
        exact q v _ _ P1.st hv
theorem cs_number_in (T : Txt K mg) {μ : Type} {M : Mu μ} {s : μ} {E : XK} {x_text : Str} {y : (Option Int)} (h : F_number_in x_text = some y) : CallS M (sp_number_in T) E (rac (ty yStr x_text) ra0) s (ty (yOpt yInt) y) s := by
  rintro Z H vs sz m ⟨v_text, _, rfl, h_text, rfl⟩ Q q
  exact ⟨Z, v_text, x_text, y, rfl, sz, h_text, h, fun v Z2 H2 st hv => q v Z2 H2 st.pure (M.pure st m) hv⟩
def sp_read_file_name (T : Txt K mg) : Sp := fun vs H Q _ => ∃ (Z0 : Hp) (v_text : V) (x_text : Str) (y : (Option FName)), vs = [v_text] ∧ (Same Z0 H) ∧ ((yStr).r Z0 v_text x_text) ∧ (F_read_file_name x_text = some y) ∧ ∀ v Z' H', Step [] Z0 H Z' H' → ((yOpt (y_FName T))).r Z' v y → Q v H'
set_option maxHeartbeats 4000000 in
theorem ok_read_file_name (T : Txt K mg) : FnOk P w K mg base CX0 3 T.f_read_file_name T.d_read_file_name ["text"] (sp_read_file_name T) := by
  have G_number_in : FnOk P w K mg base CX0 2 T.f_number_in T.d_number_in ["text"] (sp_number_in T) := ok_number_in T
  refine T.F_read_file_name.ok sc_read_file_name (fun vs H Q E h => ?_) (fun cdv A outer s H vs Q E hr h => ?_)
  · obtain ⟨Z0, v_text, x_text, y, rfl, _⟩ := h
    rfl
  · obtain ⟨Z0, v_text, x_text, y, rfl, sz, h_text, hF, q⟩ := h
    refine ⟨_, (pss_cons (ps_set (i := 1) sc_read_file_name.nd rfl (.inl rfl) (pe_split (pv 0) pe_str)) 
      (pss_cons (ps_setLc (i := 2) (own := [("word", 3)]) (g := gName 3) rfl sc_read_file_name.nd rfl rfl (sw_true rfl rfl rfl (by decide +kernel)) (pi_list (pe_slice sl_list (pv 1) (po_some pe_int) po_none)) (blkOk_by (own := [("word", 3)]) (N := ["text", "words", "numbers", "word"]) (sc := defScope s_read_file_name) (by decide +kernel)) (fun _ _ _ _ _ => (pg_name (i := 3) sc_read_file_name.nd rfl (Or.inl rfl))) (fun _ _ _ _ _ => pts_nil) (fun _ _ _ _ _ => (pe_call G_number_in (hr.mono (by decide)) (by rfl) T.g_number_in T.F_number_in.kp T.b_number_in .nil pass0 (pa_cons (pv 3) pa_nil)))) 
      (pss_cons (ps_if (pt_cmpR op_in_seq pe_non (pv 2) rfl) (pss_one (ps_ret pe_non)) pss_nil) 
      (pss_cons (ps_if (PW.pt (pw_and (pt_cmpR op_eq (pe_ix ix_list (pv 1) pe_int (fun _ _ => rfl)) pe_str (nomark _)) (pw_and1 (pt_cmpR op_eq (pe_callB call_len_seq (by rfl) T.m_len PySem.boot_len (pa_cons (pv 2) pa_nil)) pe_int (nomark _))))) (pss_one (ps_ret (pe_tup (pa_cons pe_str (pa_cons (pe_tup (pa_cons (pe_ix ix_list (pv 2) pe_int (fun _ _ => rfl)) (pa_cons (pe_ix ix_list (pv 2) pe_int (fun _ _ => rfl)) pa_nil))) pa_nil))))) pss_nil) 
      (pss_cons (ps_if (PW.pt (pw_and (pt_cmpR op_eq (pe_ix ix_list (pv 1) pe_int (fun _ _ => rfl)) pe_str (nomark _)) (pw_and1 (pt_cmpR op_eq (pe_callB call_len_seq (by rfl) T.m_len PySem.boot_len (pa_cons (pv 2) pa_nil)) pe_int (nomark _))))) (pss_one (ps_ret (pe_tup (pa_cons pe_str (pa_cons (pe_ix ix_list (pv 2) pe_int (fun _ _ => rfl)) pa_nil))))) pss_nil) 
      (pss_one (ps_ret pe_non))))))), ?_⟩
    have P := Pt.start0 sz
    unfold F_read_file_name at hF
    obtain ⟨g_94, hF⟩ := guard_inv hF
    obtain ⟨g_95, hF⟩ := guard_inv hF
    obtain ⟨g_96, hF⟩ := guard_inv hF
    obtain ⟨x_words_97, h_98, hF⟩ := bind_inv hF
    replace h_98 := Option.some.inj h_98
    refine st_seq (st_set P (ev_cast (ev_fz (en_split (ev_var (τ := yStr) rfl h_text) ev_str g_94 g_95 g_96)) h_98) (fun v_99 Z1 H1 e P1 k_100 => ?_))
    refine st_nx ?_
    replace P := P1
    obtain ⟨l_106, h_107, hF⟩ := bind_inv hF
    refine st_seq (st_set P (ev_fz (en_mapO (fun (x_101 : Str) => ((F_number_in x_101).bind fun r_104 =>
    some r_104 : Option (Option Int))) (ei_list (ev_fz (en_slL (ev_li (ev_var (τ := (yList yStr)) rfl k_100)) (eo_some ev_int) eo_none))) (fun x_101 v_102 Z' H' p zz hh rx_103 hp => by
          have hy := hp
          obtain ⟨r_104, h_105, hy⟩ := bind_inv hy
          have hy := Option.some.inj hy
          subst hy
          exact ⟨_, tgt_name, rfl, (ev_call (cs_number_in T h_105) (eva_cons (ev_var (τ := yStr) rfl rx_103) eva_nil))⟩) h_107)) (fun v_108 Z1 H1 e P1 k_109 => ?_))
    refine st_nx ?_
    replace P := P1
    replace k_100 := ((yList yStr)).mono e.z k_100
    refine st_seq (st_if P (et_cmp (ev_inO (ev_none (τ := yInt) ev_non) (ev_li (ev_var (τ := (yList (yOpt yInt))) rfl k_109)))) (fun b_110 Z1 H1 e P1 => ?_) (fun b_110 Z1 H1 e P1 => ?_))
    · replace P := P1
      have hB := ifT b_110 hF
      replace hF := hB
      clear hB
      replace hF := Option.some.inj hF
      subst hF
      refine st_ret P (ev_none (τ := (y_FName T)) ev_non) (fun v Z1 H1 P1 hv => ?_)
      exact q v _ _ P1.st hv
    · replace P := P1
      have hB := ifF b_110 hF
      replace hF := hB
      clear hB
      refine st_next0 ?_
      replace k_100 := ((yList yStr)).mono e.z k_100
      replace k_109 := ((yList (yOpt yInt))).mono e.z k_109
      obtain ⟨i_111, h_112, hF⟩ := bind_inv hF
      refine st_seq (st_if P (et_and0 (et_cmp (ev_eq flat_str (ev_ixL (ev_li (ev_var (τ := (yList yStr)) rfl k_100)) ev_int h_112) ev_str)) (et_cmp (ev_eq flat_int (ev_len (fun _ _ _ h => h) (ev_li (ev_var (τ := (yList (yOpt yInt))) rfl k_109))) ev_int))) (fun b_113 Z1 H1 e P1 => ?_) (fun b_113 Z1 H1 e P1 => ?_))
      · replace P := P1
        have hB := ifT b_113 hF
        replace hF := hB
        clear hB
        replace k_109 := ((yList (yOpt yInt))).mono e.z k_109
        obtain ⟨i_114, h_115, hF⟩ := bind_inv hF
        obtain ⟨u_116, h_117, hF⟩ := bind_inv hF
        obtain ⟨i_118, h_119, hF⟩ := bind_inv hF
        obtain ⟨u_120, h_121, hF⟩ := bind_inv hF
        replace hF := Option.some.inj hF
        subst hF
        refine st_ret P (ev_some (nn_FName T) (it_FName_segment T (ev_p2 (K := K) (eva_cons ev_str (eva_cons (ev_p2 (K := K) (eva_cons (ev_uno (ev_ixL (ev_li (ev_var (τ := (yList (yOpt yInt))) rfl k_109)) ev_int h_115) h_117) (eva_cons (ev_uno (ev_ixL (ev_li (ev_var (τ := (yList (yOpt yInt))) rfl k_109)) ev_int h_119) h_121) eva_nil))) eva_nil))))) (fun v Z1 H1 P1 hv => ?_)
        exact q v _ _ P1.st hv
      · replace P := P1
        have hB := ifF b_113 hF
        replace hF := hB
        clear hB
        refine st_next0 ?_
        replace k_100 := ((yList yStr)).mono e.z k_100
        replace k_109 := ((yList (yOpt yInt))).mono e.z k_109
        obtain ⟨i_122, h_123, hF⟩ := bind_inv hF
        refine st_seq (st_if P (et_and0 (et_cmp (ev_eq flat_str (ev_ixL (ev_li (ev_var (τ := (yList yStr)) rfl k_100)) ev_int h_123) ev_str)) (et_cmp (ev_eq flat_int (ev_len (fun _ _ _ h => h) (ev_li (ev_var (τ := (yList (yOpt yInt))) rfl k_109))) ev_int))) (fun b_124 Z1 H1 e P1 => ?_) (fun b_124 Z1 H1 e P1 => ?_))
        · replace P := P1
          have hB := ifT b_124 hF
          replace hF := hB
          clear hB
          replace k_109 := ((yList (yOpt yInt))).mono e.z k_109
          obtain ⟨i_125, h_126, hF⟩ := bind_inv hF
          obtain ⟨u_127, h_128, hF⟩ := bind_inv hF
          replace hF := Option.some.inj hF
          subst hF
          refine st_ret P (ev_some (nn_FName T) (it_FName_start T (ev_p2 (K := K) (eva_cons ev_str (eva_cons (ev_uno (ev_ixL (ev_li (ev_var (τ := (yList (yOpt yInt))) rfl k_109)) ev_int h_126) h_128) eva_nil))))) (fun v Z1 H1 P1 hv => ?_)
          exact q v _ _ P1.st hv
        · replace P := P1
          have hB := ifF b_124 hF
          replace hF := hB
          clear hB
          refine st_next0 ?_
          replace hF := Option.some.inj hF
          subst hF
          refine st_ret P (ev_none (τ := (y_FName T)) ev_non) (fun v Z1 H1 P1 hv => ?_)
          exact q v _ _ P1.st hv
theorem cs_read_file_name (T : Txt K mg) {μ : Type} {M : Mu μ} {s : μ} {E : XK} {x_text : Str} {y : (Option FName)} (h : F_read_file_name x_text = some y) : CallS M (sp_read_file_name T) E (rac (ty yStr x_text) ra0) s (ty (yOpt (y_FName T)) y) s := by
  rintro Z H vs sz m ⟨v_text, _, rfl, h_text, rfl⟩ Q q
  exact ⟨Z, v_text, x_text, y, rfl, sz, h_text, h, fun v Z2 H2 st hv => q v Z2 H2 st.pure (M.pure st m) hv⟩
def sp_law_record (T : Txt K mg) : Sp := fun vs H Q _ => ∃ (st sc : Addr) (Z0 : Hp) (ds : DS) (v_k : V) (x_k : Int) (y : (Record × DS)), vs = [v_k, .ref st] ∧ (Same Z0 H) ∧ ((muD st sc).m ds Z0 H) ∧ ((yInt).r Z0 v_k x_k) ∧ (F_law_record ds x_k = some y) ∧ ∀ v Z' H', Step (muD st sc).fp Z0 H Z' H' → (muD st sc).m y.2 Z' H' → ((y_Record T)).r Z' v y.1 → Q v H'
set_option maxHeartbeats 4000000 in
theorem ok_law_record (T : Txt K mg) : FnOk P w K mg base CX0 3 T.f_law_record T.d_law_record ["k", "state"] (sp_law_record T) := by
  have G_law_next : FnOk P w K mg base CX0 2 T.f_law_next T.d_law_next ["state", "many"] (sp_law_next T) := ok_law_next T
  have G_Record___init__ : FnOk P w K mg base CX0 1 T.f_Record___init__ T.d_Record___init__ ["self", "name", "vector", "fields", "words"] (sp_Record___init__ T) := ok_Record___init__ T
  refine T.F_law_record.ok sc_law_record (fun vs H Q E h => ?_) (fun cdv A outer s H vs Q E hr h => ?_)
  · obtain ⟨st, sc, Z0, ds, v_k, x_k, y, rfl, _⟩ := h
    rfl
  · obtain ⟨st, sc, Z0, ds, v_k, x_k, y, rfl, sz, hm, h_k, hF, q⟩ := h
    refine ⟨_, (pss_one (ps_ret (pe_make T.mk_Record G_Record___init__ (hr.mono (by decide)) (by rfl) T.mc_Record T.b_Record___init__ T.v_Record___init__ pass0 (pa_cons (pe_op op_add_str pe_str (pe_callTy call_str_int (by rfl) T.m_str (by decide +kernel) (pa_cons (pv 0) pa_nil))) (pa_cons (pe_lst (pa_cons (pe_op op_sub (pe_call G_law_next (hr.mono (by decide)) (by rfl) T.g_law_next T.F_law_next.kp T.b_law_next .nil pass0 (pa_cons (pv 1) (pa_cons pe_int pa_nil))) pe_int) (pa_cons (pe_op op_sub (pe_call G_law_next (hr.mono (by decide)) (by rfl) T.g_law_next T.F_law_next.kp T.b_law_next .nil pass0 (pa_cons (pv 1) (pa_cons pe_int pa_nil))) pe_int) pa_nil))) pa_nil))))), ?_⟩
    have P := Pt.start (muD st sc) sz hm
    unfold F_law_record at hF
    obtain ⟨g_131, hF⟩ := guard_inv hF
    obtain ⟨g_132, hF⟩ := guard_inv hF
    replace hF := Option.some.inj hF
    subst hF
    refine st_ret P (ev_makeD (is_Record___init__ T) (eva_cons (ev_cat_str ev_str (ev_str_int (ev_var (τ := yInt) rfl h_k) g_131) g_132) (eva_cons (ev_fz (en_listD (eva_conss (ev_sub (ev_call (cs__law_next T (by decide +kernel)) (eva_cons (ev_ref rfl) (eva_cons ev_int eva_nil))) ev_int) (eva_conss (ev_sub (ev_call (cs__law_next T (by decide +kernel)) (eva_cons (ev_ref rfl) (eva_cons ev_int eva_nil))) ev_int) (eva_nils (τ := yInt)))) (by show 2 ≤ sizeLine; decide))) eva_nil)) (fun Z H vs hh => by
          obtain ⟨v0, _, rfl, h0, ⟨v1, _, rfl, h1, rfl⟩⟩ := hh
          exact ⟨v0, _, rfl, h0, ⟨v1, _, rfl, h1, ⟨_, _, rfl, ⟨_, [], rfl, T.et_Record___init___fields Z, .nil, Nat.zero_le _⟩, ⟨_, _, rfl, ⟨_, [], rfl, T.et_Record___init___words Z, .nil, Nat.zero_le _⟩, rfl⟩⟩⟩⟩)) (fun v Z1 H1 P1 hv => ?_)
    exact q v _ _ P1.st P1.m hv
theorem cs_law_record (T : Txt K mg) {st sc : Addr} {ds : DS} {E : XK} {x_k : Int} {y : Record × DS} (h : F_law_record ds x_k = some y) : CallS (muD st sc) (sp_law_record T) E (rac (ty yInt x_k) (rac (isRef st) ra0)) ds (ty (y_Record T) y.1) y.2 := by
  rintro Z H vs sz m ⟨v_k, _, rfl, h_k, ⟨_, _, rfl, rfl, rfl⟩⟩ Q q
  exact ⟨st, sc, Z, ds, v_k, x_k, y, rfl, sz, m, h_k, h, fun v Z2 H2 s2 m2 hv => q v Z2 H2 s2 m2 hv⟩
theorem cu_law_record (T : Txt K mg) {st sc : Addr} {ds : DS} {E : XK} {x_k : Int} {y : Record × DS} {μ : Type} {M : Mu μ} {s s2 : μ} (hm : ∀ Z H, M.m s Z H → (muD st sc).m ds Z H) (hf : ∀ a ∈ (muD st sc).fp, a ∈ M.fp) (hp : ∀ Z H Z' H', M.m s Z H → Step (muD st sc).fp Z H Z' H' → (muD st sc).m y.2 Z' H' → M.m s2 Z' H') (h : F_law_record ds x_k = some y) : CallS M (sp_law_record T) E (rac (ty yInt x_k) (rac (isRef st) ra0)) s (ty (y_Record T) y.1) s2 := by
  rintro Z H vs sz m ⟨v_k, _, rfl, h_k, ⟨_, _, rfl, rfl, rfl⟩⟩ Q q
  exact ⟨st, sc, Z, ds, v_k, x_k, y, rfl, sz, hm _ _ m, h_k, h, fun v Z2 H2 st2 m2 hv => q v Z2 H2 (st2.weak fun a h => .inl (hf a h)) (hp _ _ _ _ m st2 m2) hv⟩
def sp_pieces_of (T : Txt K mg) : Sp := fun vs H Q _ => ∃ (Z0 : Hp) (v_offer : V) (x_offer : Offer), vs = [v_offer] ∧ (Same Z0 H) ∧ (((y_Offer T)).r Z0 v_offer x_offer) ∧ ∀ v Z' H', Step [] Z0 H Z' H' → (yInt).r Z' v (F_pieces_of x_offer) → Q v H'
set_option maxHeartbeats 4000000 in
theorem ok_pieces_of (T : Txt K mg) : FnOk P w K mg base CX0 1 T.f_pieces_of T.d_pieces_of ["offer"] (sp_pieces_of T) := by
  refine T.F_pieces_of.ok sc_pieces_of (fun vs H Q E h => ?_) (fun cdv A outer s H vs Q E hr h => ?_)
  · obtain ⟨Z0, v_offer, x_offer, rfl, _⟩ := h
    rfl
  · obtain ⟨Z0, v_offer, x_offer, rfl, sz, h_offer, q⟩ := h
    refine ⟨_, (pss_one (ps_ret (pe_op op_fdiv (pe_op op_sub (pe_op op_add (pe_callB call_len_seq (by rfl) T.m_len PySem.boot_len (pa_cons (pe_fld (pv 0) rfl) pa_nil)) (pe_glob (v := .int 4) rfl T.m_PIECE.choose_spec ⟨_, rfl⟩)) pe_int) (pe_glob (v := .int 4) rfl T.m_PIECE.choose_spec ⟨_, rfl⟩)))), ?_⟩
    have P := Pt.start0 sz
    generalize hF : F_pieces_of x_offer = y at q
    unfold F_pieces_of at hF
    subst hF
    refine st_ret P (ev_fdiv (ev_sub (ev_add (ev_lenT (fun _ _ _ h => h) (ev_fld (fo_Offer_entries T) T.cl_Offer T.n_Offer_entries (ev_var (τ := (y_Offer T)) rfl h_offer))) ev_int) ev_int) ev_int ⟨by decide, by decide⟩) (fun v Z1 H1 P1 hv => ?_)
    exact q v _ _ P1.st hv
theorem cs_pieces_of (T : Txt K mg) {μ : Type} {M : Mu μ} {s : μ} {E : XK} {x_offer : Offer} : CallS M (sp_pieces_of T) E (rac (ty (y_Offer T) x_offer) ra0) s (ty yInt (F_pieces_of x_offer)) s := by
  rintro Z H vs sz m ⟨v_offer, _, rfl, h_offer, rfl⟩ Q q
  exact ⟨Z, v_offer, x_offer, rfl, sz, h_offer, fun v Z2 H2 st hv => q v Z2 H2 st.pure (M.pure st m) hv⟩
def sp_segment_file (T : Txt K mg) : Sp := fun vs H Q _ => ∃ (Z0 : Hp) (v_name : V) (x_name : (Int × Int)) (y : Str), vs = [v_name] ∧ (Same Z0 H) ∧ (((yP2 K yInt yInt)).r Z0 v_name x_name) ∧ (F_segment_file x_name = some y) ∧ ∀ v Z' H', Step [] Z0 H Z' H' → (yStr).r Z' v y → Q v H'
set_option maxHeartbeats 4000000 in
theorem ok_segment_file (T : Txt K mg) : FnOk P w K mg base CX0 1 T.f_segment_file T.d_segment_file ["name"] (sp_segment_file T) := by
  refine T.F_segment_file.ok sc_segment_file (fun vs H Q E h => ?_) (fun cdv A outer s H vs Q E hr h => ?_)
  · obtain ⟨Z0, v_name, x_name, y, rfl, _⟩ := h
    rfl
  · obtain ⟨Z0, v_name, x_name, y, rfl, sz, h_name, hF, q⟩ := h
    refine ⟨_, (pss_cons (ps_asg (pv 0) (pg_tup rfl (pgs_cons (pg_name (i := 1) sc_segment_file.nd rfl (.inl rfl)) (pgs_cons (pg_name (i := 2) sc_segment_file.nd rfl (.inl rfl)) pgs_nil)))) 
      (pss_one (ps_ret (pe_joined (.cons pe_str (.cons (pe_fmt (pv 1)) (.cons pe_str (.cons (pe_fmt (pv 2)) .nil)))))))), ?_⟩
    have P := Pt.start0 sz
    unfold F_segment_file at hF
    refine st_seq (st_asg P (ev_var (τ := (yP2 K yInt yInt)) rfl h_name) (fun v Z1 H1 e P1 k_145 => ?_))
    replace P := P1
    obtain ⟨v_146, v_147, k_148, k_149, tg_150⟩ := tgt_p2 k_145
    refine ⟨_, (tg_150 tgt_name tgt_name), ?_⟩
    refine st_nx ?_
    obtain ⟨g_151, hF⟩ := guard_inv hF
    obtain ⟨g_152, hF⟩ := guard_inv hF
    obtain ⟨g_153, hF⟩ := guard_inv hF
    obtain ⟨g_154, hF⟩ := guard_inv hF
    obtain ⟨g_155, hF⟩ := guard_inv hF
    obtain ⟨g_156, hF⟩ := guard_inv hF
    replace hF := Option.some.inj hF
    subst hF
    refine st_ret P (ev_joined (evj_cons ev_str g_151 (evj_cons (ev_fmtI (ev_var (τ := yInt) rfl k_148) g_152) g_153 (evj_cons ev_str g_154 (evj_cons (ev_fmtI (ev_var (τ := yInt) rfl k_149) g_155) g_156 evj_nil))))) (fun v Z1 H1 P1 hv => ?_)
    exact q v _ _ P1.st hv
theorem cs_segment_file (T : Txt K mg) {μ : Type} {M : Mu μ} {s : μ} {E : XK} {x_name : (Int × Int)} {y : Str} (h : F_segment_file x_name = some y) : CallS M (sp_segment_file T) E (rac (ty (yP2 K yInt yInt) x_name) ra0) s (ty yStr y) s := by
  rintro Z H vs sz m ⟨v_name, _, rfl, h_name, rfl⟩ Q q
  exact ⟨Z, v_name, x_name, y, rfl, sz, h_name, h, fun v Z2 H2 st hv => q v Z2 H2 st.pure (M.pure st m) hv⟩
def sp_start_file (T : Txt K mg) : Sp := fun vs H Q _ => ∃ (Z0 : Hp) (v_start : V) (x_start : Int) (y : Str), vs = [v_start] ∧ (Same Z0 H) ∧ ((yInt).r Z0 v_start x_start) ∧ (F_start_file x_start = some y) ∧ ∀ v Z' H', Step [] Z0 H Z' H' → (yStr).r Z' v y → Q v H'
set_option maxHeartbeats 4000000 in
theorem ok_start_file (T : Txt K mg) : FnOk P w K mg base CX0 1 T.f_start_file T.d_start_file ["start"] (sp_start_file T) := by
  refine T.F_start_file.ok sc_start_file (fun vs H Q E h => ?_) (fun cdv A outer s H vs Q E hr h => ?_)
  · obtain ⟨Z0, v_start, x_start, y, rfl, _⟩ := h
    rfl
  · obtain ⟨Z0, v_start, x_start, y, rfl, sz, h_start, hF, q⟩ := h
    refine ⟨_, (pss_one (ps_ret (pe_joined (.cons pe_str (.cons (pe_fmt (pv 0)) .nil))))), ?_⟩
    have P := Pt.start0 sz
    unfold F_start_file at hF
    obtain ⟨g_160, hF⟩ := guard_inv hF
    obtain ⟨g_161, hF⟩ := guard_inv hF
    obtain ⟨g_162, hF⟩ := guard_inv hF
    replace hF := Option.some.inj hF
    subst hF
    refine st_ret P (ev_joined (evj_cons ev_str g_160 (evj_cons (ev_fmtI (ev_var (τ := yInt) rfl h_start) g_161) g_162 evj_nil))) (fun v Z1 H1 P1 hv => ?_)
    exact q v _ _ P1.st hv
theorem cs_start_file (T : Txt K mg) {μ : Type} {M : Mu μ} {s : μ} {E : XK} {x_start : Int} {y : Str} (h : F_start_file x_start = some y) : CallS M (sp_start_file T) E (rac (ty yInt x_start) ra0) s (ty yStr y) s := by
  rintro Z H vs sz m ⟨v_start, _, rfl, h_start, rfl⟩ Q q
  exact ⟨Z, v_start, x_start, y, rfl, sz, h_start, h, fun v Z2 H2 st hv => q v Z2 H2 st.pure (M.pure st m) hv⟩
def sp_law (K : PySem.W.Frag) : Sp := fun vs H Q _ => ∃ (a : Addr) (ns : List Int), vs = [.ref a] ∧ (SqL K H a (ns.map V.int)) ∧ (ns.length ≤ 63) ∧ ∀ H', Q (.bl true) H'
set_option maxHeartbeats 8000000 in
theorem ok_law (T : Txt K mg) : FnOk P w K mg base CX0 6 T.f_law T.d_law ["script"] (sp_law K) := by
  have G_Entry___eq__ : FnOk P w K mg base CX0 4 T.f_Entry___eq__ T.d_Entry___eq__ ["self", "other"] (sp_Entry___eq__ T) := ok_Entry___eq__ T
  have G_law_next : FnOk P w K mg base CX0 2 T.f_law_next T.d_law_next ["state", "many"] (sp_law_next T) := ok_law_next T
  have G_read_file_name : FnOk P w K mg base CX0 3 T.f_read_file_name T.d_read_file_name ["text"] (sp_read_file_name T) := ok_read_file_name T
  have G_start_file : FnOk P w K mg base CX0 1 T.f_start_file T.d_start_file ["start"] (sp_start_file T) := ok_start_file T
  have G_segment_file : FnOk P w K mg base CX0 1 T.f_segment_file T.d_segment_file ["name"] (sp_segment_file T) := ok_segment_file T
  have G_piece_at : FnOk P w K mg base CX0 1 T.f_piece_at T.d_piece_at ["offer", "index"] (sp_piece_at T) := ok_piece_at T
  have G_pieces_of : FnOk P w K mg base CX0 1 T.f_pieces_of T.d_pieces_of ["offer"] (sp_pieces_of T) := ok_pieces_of T
  have G_Region___init__ : FnOk P w K mg base CX0 1 T.f_Region___init__ T.d_Region___init__ ["self", "parent", "facts"] (sp_Region___init__ T) := ok_Region___init__ T
  have G_Offer___init__ : FnOk P w K mg base CX0 1 T.f_Offer___init__ T.d_Offer___init__ ["self", "partitions", "entries"] (sp_Offer___init__ T) := ok_Offer___init__ T
  have G_law_record : FnOk P w K mg base CX0 3 T.f_law_record T.d_law_record ["k", "state"] (sp_law_record T) := ok_law_record T
  have G_Entry___init__ : FnOk P w K mg base CX0 1 T.f_Entry___init__ T.d_Entry___init__ ["self", "number", "record", "leaves"] (sp_Entry___init__ T) := ok_Entry___init__ T
  refine T.F_law.ok sc_law (fun vs H Q E h => ?_) (fun cdv A outer s H vs Q E hr h => ?_)
  · obtain ⟨a, ns, rfl, _⟩ := h
    rfl
  · obtain ⟨a, ns, rfl, hA, hlen, q⟩ := h
    refine ⟨_, (pss_cons (ps_set (i := 1) sc_law.nd rfl (.inr rfl) (pe_lst (pa_cons (pe_callTy call_list_of (by rfl) T.m_list (by decide +kernel) (pa_cons (pv 0) pa_nil)) (pa_cons pe_int (pa_cons pe_int pa_nil))))) 
      (pss_cons (ps_set (i := 2) sc_law.nd rfl (.inl rfl) (pe_call G_law_next (hr.mono (by decide)) (by rfl) T.g_law_next T.F_law_next.kp T.b_law_next .nil pass0 (pa_cons (pv 1) (pa_cons pe_int pa_nil)))) 
      (pss_cons (ps_setLc (i := 3) (own := [("k", 4)]) (g := gName 4) rfl sc_law.nd rfl rfl (sw_true rfl rfl rfl (by decide +kernel)) (pi_range1 rfl T.m_range (pa_cons (pv 2) pa_nil)) (blkOk_by (own := [("k", 4)]) (N := ["script", "state", "many", "entries", "k", "offer", "index", "piece", "due", "a", "b", "wrong"]) (sc := defScope s_law) (by decide +kernel)) (fun _ _ _ _ _ => (pg_name (i := 4) sc_law.nd rfl (Or.inl rfl))) (fun _ _ _ _ _ => pts_nil) (fun _ _ _ _ _ => (pe_make T.mk_Entry G_Entry___init__ (hr.mono (by decide)) (by rfl) T.mc_Entry T.b_Entry___init__ .nil pass0 (pa_cons (pe_op op_add (pv 4) pe_int) (pa_cons (pe_call G_law_record (hr.mono (by decide)) (by rfl) T.g_law_record T.F_law_record.kp T.b_law_record .nil pass0 (pa_cons (pv 4) (pa_cons (pv 1) pa_nil))) (pa_cons (pe_lst (pa_cons pe_int pa_nil)) pa_nil)))))) 
      (pss_cons (ps_set (i := 5) sc_law.nd rfl (.inl rfl) (pe_make T.mk_Offer G_Offer___init__ (hr.mono (by decide)) (by rfl) T.mc_Offer T.b_Offer___init__ .nil pass0 (pa_cons (pe_lst (pa_cons (pe_lst (pa_cons (pe_make T.mk_Region G_Region___init__ (hr.mono (by decide)) (by rfl) T.mc_Region T.b_Region___init__ .nil pass0 (pa_cons pe_non (pa_cons (pe_lst pa_nil) pa_nil))) pa_nil)) pa_nil)) (pa_cons (pe_callTy call_list_of (by rfl) T.m_list (by decide +kernel) (pa_cons (pv 3) pa_nil)) pa_nil)))) 
      (pss_cons (ps_if (PW.pt (pw_or (pt_cmpR op_ne (pe_glob (v := .int 4) rfl T.m_PIECE.choose_spec ⟨_, rfl⟩) pe_int (nomark _)) (pw_or1 (pt_cmpR op_ne (pe_call G_pieces_of (hr.mono (by decide)) (by rfl) T.g_pieces_of T.F_pieces_of.kp T.b_pieces_of .nil pass0 (pa_cons (pv 5) pa_nil)) (pe_op op_fdiv (pe_op op_add (pv 2) pe_int) pe_int) (nomark _))))) (pss_one (ps_ret pe_bl)) pss_nil) 
      (pss_cons (ps_for PassesOwn.never rfl (pi_range2 rfl T.m_range (pa_cons (pe_un un_neg pe_int) (pa_cons pe_int pa_nil))) (pg_name (i := 6) sc_law.nd rfl (.inl rfl)) (pss_cons (ps_set (i := 7) sc_law.nd rfl (.inl rfl) (pe_call G_piece_at (hr.mono (by decide)) (by rfl) T.g_piece_at T.F_piece_at.kp T.b_piece_at .nil pass0 (pa_cons (pv 5) (pa_cons (pv 6) pa_nil)))) 
      (pss_cons (ps_set (i := 8) sc_law.nd rfl (.inl rfl) (pe_lst pa_nil)) 
      (pss_cut (ps_if (pt_cmpR op_ge (pv 6) pe_int (nomark _)) (pss_one (ps_set (i := 8) sc_law.nd rfl (.inl rfl) (pe_slice sl_list (pv 3) (po_some (pe_op op_mul pe_int (pv 6))) (po_some (pe_op op_add (pe_op op_mul pe_int (pv 6)) pe_int))))) pss_nil) 
      (pss_one (ps_if (PW.pt (pw_or (pt_not (pt_val (pe_callB call_isi (by rfl) T.m_isinstance (by decide +kernel) (pa_cons (pv 7) (pa_cons (pe_bltn (v := .ty "tuple") (u := .type "tuple") (by rfl) T.m_tuple (by decide +kernel) rfl) pa_nil))))) (pw_or1 (pt_cmpR (TPQ.op_neB (rcT_list true (eqT_of (fn_Entry T rfl) (ref_Entry T) (rcT_obj (ins_Entry T) G_Entry___eq__ (hsp_Entry T) T.me_Entry___eq__ T.b_Entry___eq__ pass0))) (hr.mono (by decide))) (pe_callTy call_list_of (by rfl) T.m_list (by decide +kernel) (pa_cons (pv 7) pa_nil)) (pv 8) (nomark _))))) (pss_one (ps_ret pe_bl)) pss_nil)))))) 
      (pss_cons (ps_set (i := 9) sc_law.nd rfl (.inl rfl) (pe_call G_law_next (hr.mono (by decide)) (by rfl) T.g_law_next T.F_law_next.kp T.b_law_next .nil pass0 (pa_cons (pv 1) (pa_cons (pe_ix ix_list (pe_lst (pa_cons pe_int (pa_cons (pe_op op_pow pe_int pe_int) pa_nil))) (pe_call G_law_next (hr.mono (by decide)) (by rfl) T.g_law_next T.F_law_next.kp T.b_law_next .nil pass0 (pa_cons (pv 1) (pa_cons pe_int pa_nil))) (fun _ _ => rfl)) pa_nil)))) 
      (pss_cons (ps_set (i := 10) sc_law.nd rfl (.inl rfl) (pe_call G_law_next (hr.mono (by decide)) (by rfl) T.g_law_next T.F_law_next.kp T.b_law_next .nil pass0 (pa_cons (pv 1) (pa_cons (pe_ix ix_list (pe_lst (pa_cons pe_int (pa_cons (pe_op op_pow pe_int pe_int) pa_nil))) (pe_call G_law_next (hr.mono (by decide)) (by rfl) T.g_law_next T.F_law_next.kp T.b_law_next .nil pass0 (pa_cons (pv 1) (pa_cons pe_int pa_nil))) (fun _ _ => rfl)) pa_nil)))) 
      (pss_cons (ps_if (PW.pt (pw_or (pt_cmpR op_ne (pe_call G_segment_file (hr.mono (by decide)) (by rfl) T.g_segment_file T.F_segment_file.kp T.b_segment_file .nil pass0 (pa_cons (pe_tup (pa_cons (pv 9) (pa_cons (pv 10) pa_nil))) pa_nil)) (pe_op op_add_str (pe_op op_add_str (pe_op op_add_str pe_str (pe_callTy call_str_int (by rfl) T.m_str (by decide +kernel) (pa_cons (pv 9) pa_nil))) pe_str) (pe_callTy call_str_int (by rfl) T.m_str (by decide +kernel) (pa_cons (pv 10) pa_nil))) (nomark _)) (pw_or1 (pt_cmpR op_ne (pe_call G_start_file (hr.mono (by decide)) (by rfl) T.g_start_file T.F_start_file.kp T.b_start_file .nil pass0 (pa_cons (pv 9) pa_nil)) (pe_op op_add_str pe_str (pe_callTy call_str_int (by rfl) T.m_str (by decide +kernel) (pa_cons (pv 9) pa_nil))) (nomark _))))) (pss_one (ps_ret pe_bl)) pss_nil) 
      (pss_cons (ps_if (PW.pt (pw_or (pt_cmpR (op_neD hr.units) (pe_call G_read_file_name (hr.mono (by decide)) (by rfl) T.g_read_file_name T.F_read_file_name.kp T.b_read_file_name .nil pass0 (pa_cons (pe_call G_segment_file (hr.mono (by decide)) (by rfl) T.g_segment_file T.F_segment_file.kp T.b_segment_file .nil pass0 (pa_cons (pe_tup (pa_cons (pv 9) (pa_cons (pv 10) pa_nil))) pa_nil)) pa_nil)) (pe_tup (pa_cons pe_str (pa_cons (pe_tup (pa_cons (pv 9) (pa_cons (pv 10) pa_nil))) pa_nil))) (nomark _)) (pw_or1 (pt_cmpR (op_neD hr.units) (pe_call G_read_file_name (hr.mono (by decide)) (by rfl) T.g_read_file_name T.F_read_file_name.kp T.b_read_file_name .nil pass0 (pa_cons (pe_call G_start_file (hr.mono (by decide)) (by rfl) T.g_start_file T.F_start_file.kp T.b_start_file .nil pass0 (pa_cons (pv 10) pa_nil)) pa_nil)) (pe_tup (pa_cons pe_str (pa_cons (pv 10) pa_nil))) (nomark _))))) (pss_one (ps_ret pe_bl)) pss_nil) 
      (pss_cons (ps_set (i := 11) sc_law.nd rfl (.inl rfl) (pe_lst (pa_cons pe_str (pa_cons pe_str (pa_cons pe_str (pa_cons pe_str (pa_cons pe_str (pa_cons pe_str (pa_cons pe_str (pa_cons pe_str pa_nil)))))))))) 
      (pss_cons (ps_set (i := 11) sc_law.nd rfl (.inl rfl) (pe_op op_cat (pv 11) (pe_lst (pa_cons pe_str (pa_cons pe_str (pa_cons pe_str (pa_cons pe_str (pa_cons pe_str pa_nil)))))))) 
      (pss_one (ps_ret (pe_cmpR op_isN (pe_call G_read_file_name (hr.mono (by decide)) (by rfl) T.g_read_file_name T.F_read_file_name.kp T.b_read_file_name .nil pass0 (pa_cons (pe_ix ix_list (pv 11) (pe_call G_law_next (hr.mono (by decide)) (by rfl) T.g_law_next T.F_law_next.kp T.b_law_next .nil pass0 (pa_cons (pv 1) (pa_cons pe_int pa_nil))) (fun _ _ => rfl)) pa_nil)) pe_non (nomark _)))))))))))))))), ?_⟩
    have hF := law_true ns hlen
    unfold F_law at hF
    refine st_seq ?_
    refine st_draws hA hlen (fun st sc Z0 Z1 H1 P => ?_)
    obtain ⟨x_many_163, h_164, hF⟩ := bind_inv hF
    replace h_164 := Option.some.inj h_164
    refine st_seq (st_set P (ev_cast (ev_call (cs__law_next T (by decide +kernel)) (eva_cons (ev_ref rfl) (eva_cons ev_int eva_nil))) h_164) (fun v_165 Z1 H1 e P1 k_166 => ?_))
    refine st_nx ?_
    replace P := P1
    obtain ⟨g_167, hF⟩ := guard_inv hF
    obtain ⟨l_174, h_175, hF⟩ := bind_inv hF
    refine st_seq (st_set P (ev_fz (en_mapS (fun (x_168 : Int) (s_169 : DS) => ((F_law_record s_169 x_168).bind fun r_172 =>
    some ((F_Entry___init__ (x_168 + (1 : Int)) r_172.1 ([(0 : Int)] : List Int)), r_172.2) : Option (Entry × DS))) (ei_rng1 (ev_var (τ := yInt) rfl k_166) g_167) (fun x_168 v_170 Z' H' s_169 p zz hh rx_171 hp => by
          have hy := hp
          obtain ⟨r_172, h_173, hy⟩ := bind_inv hy
          have hy := Option.some.inj hy
          subst hy
          exact ⟨_, tgt_name, rfl, (ev_make (is_Entry___init__ T) (eva_cons (ev_add (ev_var (τ := yInt) rfl rx_171) ev_int) (eva_cons (ev_call (cs_law_record T h_173) (eva_cons (ev_var (τ := yInt) rfl rx_171) (eva_cons (ev_ref rfl) eva_nil))) (eva_cons (ev_fz (en_listD (eva_conss ev_int (eva_nils (τ := yInt))) (by show 1 ≤ sizeLine; decide))) eva_nil))))⟩) h_175)) (fun v_176 Z1 H1 e P1 k_177 => ?_))
    refine st_nx ?_
    replace P := P1
    obtain ⟨x_offer_178, h_179, hF⟩ := bind_inv hF
    replace h_179 := Option.some.inj h_179
    refine st_seq (st_set P (ev_cast (ev_make (is_Offer___init__ T) (eva_cons (ev_fz (en_listD (eva_conss (ev_fz (en_listD (eva_conss (ev_make (is_Region___init__ T) (eva_cons (ev_none (τ := yInt) ev_non) (eva_cons (ev_fz (en_listD (eva_nils (τ := yInt)) (by show 0 ≤ sizeLine; decide))) eva_nil))) (eva_nils (τ := (y_Region T)))) (by show 1 ≤ sizeLine; decide))) (eva_nils (τ := (yList (y_Region T))))) (by show 1 ≤ sizeLine; decide))) (eva_cons (ev_fz (en_list_of (fun _ _ _ h => h) (ev_li (ev_var (τ := (yList (y_Entry T))) rfl k_177)))) eva_nil))) h_179) (fun v_180 Z1 H1 e P1 k_181 => ?_))
    refine st_nx ?_
    replace P := P1
    replace k_177 := ((yList (y_Entry T))).mono e.z k_177
    refine st_seq (st_if P (et_or0 (et_cmp (ev_ne flat_int ev_int ev_int)) (et_cmp (ev_ne flat_int (ev_call (cs_pieces_of T) (eva_cons (ev_var (τ := (y_Offer T)) rfl k_181) eva_nil)) (ev_fdiv (ev_add (ev_var (τ := yInt) rfl k_166) ev_int) ev_int ⟨by decide, by decide⟩)))) (fun b_182 Z1 H1 e P1 => ?_) (fun b_182 Z1 H1 e P1 => ?_))
    · replace P := P1
      have hB := ifT b_182 hF
      replace hF := hB
      clear hB
      have hb := Option.some.inj hF
      refine st_ret P ev_bl (fun v Z H P hv => ?_)
      have hv2 : v = V.bl _ := hv
      rw [hb] at hv2
      rw [hv2]
      exact q _
    · replace P := P1
      have hB := ifF b_182 hF
      replace hF := hB
      clear hB
      refine st_next0 ?_
      replace k_177 := ((yList (y_Entry T))).mono e.z k_177
      replace k_181 := ((y_Offer T)).mono e.z k_181
      obtain ⟨f_241, hL_242, hF⟩ := bind_inv hF
      refine st_seq (st_for (τ := yInt) (fun (r_185 : List Int) σ' Z' H' => ∃ w_183, ∃ (y_190 : Option V) (y_191 : Option V) (y_193 : Option V) (y_195 : Option V) (y_196 : Option V) (y_197 : Option V) (y_198 : Option V) (y_199 : Option V) (y_200 : Option V), σ' = [y_190, some (.ref st), y_191, some v_176, y_193, some v_180, y_195, y_196, y_197, y_198, y_199, y_200] ∧ Pt [] Z0 H (muD st sc) Z' H' l_174.2 ∧ ((yList (y_Entry T))).r Z' v_176 l_174.1 ∧ ((y_Offer T)).r Z' v_180 x_offer_178 ∧ forS (L_law_1 l_174 x_offer_178) r_185 w_183 = some f_241) P (ei_rng2 (ev_neg ev_int) ev_int (by decide)) ?_ ?_ ?_)
      · rintro Z1 H1 e P1
        replace P := P1
        replace k_177 := ((yList (y_Entry T))).mono e.z k_177
        replace k_181 := ((y_Offer T)).mono e.z k_181
        exact ⟨(), _, _, _, _, _, _, _, _, _, rfl, P, k_177, k_181, hL_242⟩
      · rintro Zb_189 Hb eb x_184 r_185 σ' v_213 Z1 H1 Z2 H2 zs_188 ⟨w_183, y_190, y_191, y_193, y_195, y_196, y_197, y_198, y_199, y_200, rfl, P, k_192, k_194, hq_187⟩ e hx_214
        replace P := P.item e
        replace k_192 := ((yList (y_Entry T))).mono e.z k_192
        replace k_194 := ((y_Offer T)).mono e.z k_194
        replace zs_188 := zs_188.trans e.z
        obtain ⟨u_215, hB_186, hq_187⟩ := bind_inv (forS_cons hq_187)
        unfold L_law_1 at hB_186
        refine tgt_name _ P.sub _ ?_
        refine st_seq (st_set P (ev_call (cs_piece_at T) (eva_cons (ev_var (τ := (y_Offer T)) rfl k_194) (eva_cons (ev_var (τ := yInt) rfl hx_214) eva_nil))) (fun v_216 Z1 H1 e P1 k_217 => ?_))
        refine st_nx ?_
        replace P := P1
        replace k_192 := ((yList (y_Entry T))).mono e.z k_192
        replace k_194 := ((y_Offer T)).mono e.z k_194
        replace zs_188 := zs_188.trans e.z
        refine st_seq (st_set P (ev_fz (en_listD (eva_nils (τ := (y_Entry T))) (by show 0 ≤ sizeLine; decide))) (fun v_218 Z1 H1 e P1 k_219 => ?_))
        refine st_nx ?_
        replace P := P1
        replace k_192 := ((yList (y_Entry T))).mono e.z k_192
        replace k_194 := ((y_Offer T)).mono e.z k_194
        replace k_217 := ((yTup K (y_Entry T))).mono e.z k_217
        replace zs_188 := zs_188.trans e.z
        obtain ⟨w_222, hB_221, hB_186⟩ := bind_inv hB_186
        refine ⟨fun σ' H' => ∃ Z', ∃ (y_223 : Option V) (y_224 : Option V) (y_226 : Option V) (y_228 : Option V) (v_230 : V) (y_232 : Option V) (y_233 : Option V) (y_234 : Option V), σ' = [y_223, some (.ref st), y_224, some v_176, y_226, some v_180, y_228, some v_216, some v_230, y_232, y_233, y_234] ∧ Pt [] Z0 H (muD st sc) Z' H' l_174.2 ∧ Same Zb_189 Z' ∧ ((yList (y_Entry T))).r Z' v_176 l_174.1 ∧ ((y_Offer T)).r Z' v_180 x_offer_178 ∧ ((yTup K (y_Entry T))).r Z' v_216 (F_piece_at x_offer_178 x_184) ∧ ((yList (y_Entry T))).r Z' v_230 w_222, ?_, ?_⟩
        · refine st_if P (et_cmp (ev_ge (ev_var (τ := yInt) rfl hx_214) ev_int)) (fun b_220 Z1 H1 e P1 => ?_) (fun b_220 Z1 H1 e P1 => ?_)
          · replace P := P1
            replace hB_221 := ifT b_220 hB_221
            replace k_192 := ((yList (y_Entry T))).mono e.z k_192
            replace k_194 := ((y_Offer T)).mono e.z k_194
            replace k_217 := ((yTup K (y_Entry T))).mono e.z k_217
            replace k_219 := ((yList (y_Entry T))).mono e.z k_219
            replace zs_188 := zs_188.trans e.z
            obtain ⟨x_due_236, h_237, hB_221⟩ := bind_inv hB_221
            replace h_237 := Option.some.inj h_237
            refine st_set P (ev_cast (ev_fz (en_slL (ev_li (ev_var (τ := (yList (y_Entry T))) rfl k_192)) (eo_some (ev_mul ev_int (ev_var (τ := yInt) rfl hx_214) (.inl (by decide)))) (eo_some (ev_add (ev_mul ev_int (ev_var (τ := yInt) rfl hx_214) (.inl (by decide))) ev_int)))) h_237) (fun v_238 Z1 H1 e P1 k_239 => ?_)
            replace P := P1
            replace k_192 := ((yList (y_Entry T))).mono e.z k_192
            replace k_194 := ((y_Offer T)).mono e.z k_194
            replace k_217 := ((yTup K (y_Entry T))).mono e.z k_217
            replace zs_188 := zs_188.trans e.z
            replace hB_221 := Option.some.inj hB_221
            subst hB_221
            exact ⟨_, _, _, _, _, _, _, _, _, rfl, P, zs_188, k_192, k_194, k_217, k_239⟩
          · replace P := P1
            replace hB_221 := ifF b_220 hB_221
            replace k_192 := ((yList (y_Entry T))).mono e.z k_192
            replace k_194 := ((y_Offer T)).mono e.z k_194
            replace k_217 := ((yTup K (y_Entry T))).mono e.z k_217
            replace k_219 := ((yList (y_Entry T))).mono e.z k_219
            replace zs_188 := zs_188.trans e.z
            replace hB_221 := Option.some.inj hB_221
            subst hB_221
            exact ⟨_, _, _, _, _, _, _, _, _, rfl, P, zs_188, k_192, k_194, k_217, k_219⟩
        rintro σ' H' ⟨Z1, y_223, y_224, y_226, y_228, v_230, y_232, y_233, y_234, rfl, P, zs_235, k_225, k_227, k_229, k_231⟩
        refine st_if P (et_or0 (et_not (et_val (ev_isi (b := true) (fun _ _ _ h => h) (ev_var (τ := (yTup K (y_Entry T))) rfl k_229) tx_tup (.ty _) (kit_ty (by decide +kernel))))) (et_cmp (ev_cast (ev_cmpO (neg := true) (ev_fz (en_list_ofT (fun _ _ _ h => h) (ev_var (τ := (yTup K (y_Entry T))) rfl k_229))) (ev_var (τ := (yList (y_Entry T))) rfl k_231)) bneT))) (fun b_240 Z1 H1 e P1 => ?_) (fun b_240 Z1 H1 e P1 => ?_)
        · replace P := P1
          have hB := ifT b_240 hB_186
          replace hB_186 := hB
          clear hB
          replace zs_235 := zs_235.trans e.z
          replace hB_186 := Option.some.inj hB_186
          subst hB_186
          have hz := nxt_ret hq_187
          subst hz
          have hz := ret_inv hF
          have hb := Option.some.inj hz
          refine st_ret P ev_bl (fun v Z H P hv => ?_)
          have hv2 : v = V.bl _ := hv
          rw [hb] at hv2
          rw [hv2]
          exact q _
        · replace P := P1
          have hB := ifF b_240 hB_186
          replace hB_186 := hB
          clear hB
          refine st_next ?_
          replace k_225 := ((yList (y_Entry T))).mono e.z k_225
          replace k_227 := ((y_Offer T)).mono e.z k_227
          replace zs_235 := zs_235.trans e.z
          replace hB_186 := Option.some.inj hB_186
          subst hB_186
          exact ⟨_, zs_235, P.sub, (), _, _, _, _, _, _, _, _, _, rfl, P, k_225, k_227, (nxt_go hq_187)⟩
      rintro σ' Z1 H1 _ _ ⟨w_201, y_190, y_191, y_193, y_195, y_196, y_197, y_198, y_199, y_200, rfl, P, k_192, k_194, hl⟩
      have hz := forS_nil hl
      subst hz
      replace hF := go_inv hF
      refine st_nx ?_
      obtain ⟨i_243, h_244, hF⟩ := bind_inv hF
      obtain ⟨g_245, hF⟩ := guard_inv hF
      obtain ⟨x_a_246, h_247, hF⟩ := bind_inv hF
      replace h_247 := Option.some.inj h_247
      refine st_seq (st_set P (ev_cast (ev_call (cs__law_next T g_245) (eva_cons (ev_ref rfl) (eva_cons (ev_ixL (ev_li (ev_fz (en_listD (eva_conss ev_int (eva_conss (ev_pow ev_int ev_int (by decide)) (eva_nils (τ := yInt)))) (by show 2 ≤ sizeLine; decide)))) (ev_call (cs__law_next T (by decide +kernel)) (eva_cons (ev_ref rfl) (eva_cons ev_int eva_nil))) h_244) eva_nil))) h_247) (fun v_248 Z1 H1 e P1 k_249 => ?_))
      refine st_nx ?_
      replace P := P1
      obtain ⟨i_250, h_251, hF⟩ := bind_inv hF
      obtain ⟨g_252, hF⟩ := guard_inv hF
      obtain ⟨x_b_253, h_254, hF⟩ := bind_inv hF
      replace h_254 := Option.some.inj h_254
      refine st_seq (st_set P (ev_cast (ev_call (cs__law_next T g_252) (eva_cons (ev_ref rfl) (eva_cons (ev_ixL (ev_li (ev_fz (en_listD (eva_conss ev_int (eva_conss (ev_pow ev_int ev_int (by decide)) (eva_nils (τ := yInt)))) (by show 2 ≤ sizeLine; decide)))) (ev_call (cs__law_next T (by decide +kernel)) (eva_cons (ev_ref rfl) (eva_cons ev_int eva_nil))) h_251) eva_nil))) h_254) (fun v_255 Z1 H1 e P1 k_256 => ?_))
      refine st_nx ?_
      replace P := P1
      obtain ⟨r_257, h_258, hF⟩ := bind_inv hF
      obtain ⟨g_266, hF⟩ := guard_inv hF
      obtain ⟨g_267, hF⟩ := guard_inv hF
      obtain ⟨g_268, hF⟩ := guard_inv hF
      obtain ⟨g_269, hF⟩ := guard_inv hF
      obtain ⟨g_270, hF⟩ := guard_inv hF
      obtain ⟨b_276, h_275, hF⟩ := bind_inv hF
      refine st_seq (st_if P (et_orO (et_cmp (ev_ne flat_str (ev_call (cs_segment_file T h_258) (eva_cons (ev_p2 (K := K) (eva_cons (ev_var (τ := yInt) rfl k_249) (eva_cons (ev_var (τ := yInt) rfl k_256) eva_nil))) eva_nil)) (ev_cat_str (ev_cat_str (ev_cat_str ev_str (ev_str_int (ev_var (τ := yInt) rfl k_249) g_266) g_267) ev_str g_268) (ev_str_int (ev_var (τ := yInt) rfl k_256) g_269) g_270))) (fun _ y hy => by
            obtain ⟨r_271, h_272, hy⟩ := bind_inv hy
            obtain ⟨g_273, hy⟩ := guard_inv hy
            obtain ⟨g_274, hy⟩ := guard_inv hy
            have hy := Option.some.inj hy
            subst hy
            exact (et_cmp (ev_ne flat_str (ev_call (cs_start_file T h_272) (eva_cons (ev_var (τ := yInt) rfl k_249) eva_nil)) (ev_cat_str ev_str (ev_str_int (ev_var (τ := yInt) rfl k_249) g_273) g_274)))) h_275) (fun b_277 Z1 H1 e P1 => ?_) (fun b_277 Z1 H1 e P1 => ?_))
      · replace P := P1
        have hB := ifT b_277 hF
        replace hF := hB
        clear hB
        have hb := Option.some.inj hF
        refine st_ret P ev_bl (fun v Z H P hv => ?_)
        have hv2 : v = V.bl _ := hv
        rw [hb] at hv2
        rw [hv2]
        exact q _
      · replace P := P1
        have hB := ifF b_277 hF
        replace hF := hB
        clear hB
        refine st_next0 ?_
        obtain ⟨r_278, h_279, hF⟩ := bind_inv hF
        obtain ⟨r_280, h_281, hF⟩ := bind_inv hF
        obtain ⟨b_287, h_286, hF⟩ := bind_inv hF
        refine st_seq (st_if P (et_orO (et_cmp (ev_neW (EqW.gd (eqw_opt (eqw_FName T)) _) (EqW.gd (eqw_FName T) _) (EqW.dpt (K := K) (τ := (yOpt (y_FName T))) (eqw_opt (eqw_FName T)) (by decide) _) (EqW.dpt (K := K) (τ := (y_FName T)) (eqw_FName T) (by decide) _) (ev_call (cs_read_file_name T h_281) (eva_cons (ev_call (cs_segment_file T h_279) (eva_cons (ev_p2 (K := K) (eva_cons (ev_var (τ := yInt) rfl k_249) (eva_cons (ev_var (τ := yInt) rfl k_256) eva_nil))) eva_nil)) eva_nil)) (it_FName_segment T (ev_p2 (K := K) (eva_cons ev_str (eva_cons (ev_p2 (K := K) (eva_cons (ev_var (τ := yInt) rfl k_249) (eva_cons (ev_var (τ := yInt) rfl k_256) eva_nil))) eva_nil)))))) (fun _ y hy => by
              obtain ⟨r_282, h_283, hy⟩ := bind_inv hy
              obtain ⟨r_284, h_285, hy⟩ := bind_inv hy
              have hy := Option.some.inj hy
              subst hy
              exact (et_cmp (ev_neW (EqW.gd (eqw_opt (eqw_FName T)) _) (EqW.gd (eqw_FName T) _) (EqW.dpt (K := K) (τ := (yOpt (y_FName T))) (eqw_opt (eqw_FName T)) (by decide) _) (EqW.dpt (K := K) (τ := (y_FName T)) (eqw_FName T) (by decide) _) (ev_call (cs_read_file_name T h_285) (eva_cons (ev_call (cs_start_file T h_283) (eva_cons (ev_var (τ := yInt) rfl k_256) eva_nil)) eva_nil)) (it_FName_start T (ev_p2 (K := K) (eva_cons ev_str (eva_cons (ev_var (τ := yInt) rfl k_256) eva_nil))))))) h_286) (fun b_288 Z1 H1 e P1 => ?_) (fun b_288 Z1 H1 e P1 => ?_))
        · replace P := P1
          have hB := ifT b_288 hF
          replace hF := hB
          clear hB
          have hb := Option.some.inj hF
          refine st_ret P ev_bl (fun v Z H P hv => ?_)
          have hv2 : v = V.bl _ := hv
          rw [hb] at hv2
          rw [hv2]
          exact q _
        · replace P := P1
          have hB := ifF b_288 hF
          replace hF := hB
          clear hB
          refine st_next0 ?_
          obtain ⟨x_wrong_289, h_290, hF⟩ := bind_inv hF
          replace h_290 := Option.some.inj h_290
          refine st_seq (st_set P (ev_cast (ev_fz (en_listD (eva_conss ev_str (eva_conss ev_str (eva_conss ev_str (eva_conss ev_str (eva_conss ev_str (eva_conss ev_str (eva_conss ev_str (eva_conss ev_str (eva_nils (τ := yStr)))))))))) (by show 8 ≤ sizeLine; decide))) h_290) (fun v_291 Z1 H1 e P1 k_292 => ?_))
          refine st_nx ?_
          replace P := P1
          obtain ⟨g_293, hF⟩ := guard_inv hF
          obtain ⟨x_wrong_294, h_295, hF⟩ := bind_inv hF
          replace h_295 := Option.some.inj h_295
          refine st_seq (st_set P (ev_cast (ev_fz (en_cat (ev_li (ev_var (τ := (yList yStr)) rfl k_292)) (ev_li (ev_fz (en_listD (eva_conss ev_str (eva_conss ev_str (eva_conss ev_str (eva_conss ev_str (eva_conss ev_str (eva_nils (τ := yStr))))))) (by show 5 ≤ sizeLine; decide)))) g_293)) h_295) (fun v_296 Z1 H1 e P1 k_297 => ?_))
          refine st_nx ?_
          replace P := P1
          obtain ⟨i_298, h_299, hF⟩ := bind_inv hF
          obtain ⟨r_300, h_301, hF⟩ := bind_inv hF
          have hb := Option.some.inj hF
          refine st_ret P (ev_isN (ev_call (cs_read_file_name T h_301) (eva_cons (ev_ixL (ev_li (ev_var (τ := (yList yStr)) rfl k_297)) (ev_call (cs__law_next T (by decide +kernel)) (eva_cons (ev_ref rfl) (eva_cons ev_int eva_nil))) h_299) eva_nil)) ev_non) (fun v Z H P hv => ?_)
          have hv2 : v = V.bl _ := hv
          rw [hb] at hv2
          rw [hv2]
          exact q _
end
set_option maxRecDepth 100000 in
set_option maxHeartbeats 0 in
theorem all_mk {l : PySem.W.OpenLaw} {w : World} {K : PySem.W.Frag} {h : Heap} {mg : Str → Option Value} {fa f0 f1 f2 f3 f4 f5 f6 f7 f8 f9 f10 f11 f12 f13 f14 f15 f16 f17 f18 : Addr} (X : K.In h) (G : h.Ns mainGlobals mg) (hfa : mg "law" = some (.ref fa))
    {od0 an0 od1 an1 od2 an2 od3 an3 od4 an4 od5 an5 od6 an6 od7 an7 od8 an8 od9 an9 od10 an10 od11 an11 od12 an12 od13 an13 od14 an14 od15 an15 od16 an16 od17 an17 od18 an18 : Option Addr} {sl0 sl1 sl2 sl3 sl4 sl5 sl6 sl7 sl8 sl9 sl10 sl11 sl12 sl13 sl14 sl15 sl16 sl17 sl18 : Array (Option Value)} {oc0 kV0 dc0 pm0 cd0 ct0 oc1 kV1 dc1 pm1 cd1 ct1 oc2 kV2 dc2 pm2 cd2 ct2 oc3 kV3 dc3 pm3 cd3 ct3 oc4 dc4 pm4 cd4 ct4 oc5 kV5 dc5 pm5 cd5 ct5 oc6 kV6 dc6 pm6 cd6 ct6 oc7 kV7 dc7 pm7 cd7 ct7 oc8 kV8 dc8 pm8 cd8 ct8 oc9 kV9 dc9 pm9 cd9 ct9 oc10 kV10 dc10 pm10 cd10 ct10 oc11 kV11 dc11 pm11 cd11 ct11 oc12 kV12 dc12 pm12 cd12 ct12 oc13 kV13 dc13 pm13 cd13 ct13 oc14 kV14 dc14 pm14 cd14 ct14 oc15 kV15 dc15 pm15 cd15 ct15 oc16 kV16 dc16 pm16 cd16 ct16 oc17 kV17 dc17 pm17 cd17 ct17 oc18 kV18 dc18 pm18 cd18 ct18 : Value}
    {C_Record C_Region C_Entry C_Offer : Addr}
    (a0 : PySem.W.nsIn K mainGlobals "_law_row" = some (some (.ref f0))) (l0 : K.lookup f0 = some ⟨oc0, od0, .func (PySem.W.fnOf "_law_row" "_law_row" (defArgs s_law_row) (defBody s_law_row) (defScope s_law_row) .none kV0 dc0 pm0 an0 cd0 ct0), sl0⟩) (c0 : PySem.W.codeIn K cd0 "_law_row" = true) (k0 : PySem.W.keepIn K (.ref f0) = true)
    (a1 : PySem.W.nsIn K mainGlobals "_law_next" = some (some (.ref f1))) (l1 : K.lookup f1 = some ⟨oc1, od1, .func (PySem.W.fnOf "_law_next" "_law_next" (defArgs s_law_next) (defBody s_law_next) (defScope s_law_next) .none kV1 dc1 pm1 an1 cd1 ct1), sl1⟩) (c1 : PySem.W.codeIn K cd1 "_law_next" = true) (k1 : PySem.W.keepIn K (.ref f1) = true)
    (a2 : PySem.W.nsIn K mainGlobals "kind_of_value" = some (some (.ref f2))) (l2 : K.lookup f2 = some ⟨oc2, od2, .func (PySem.W.fnOf "kind_of_value" "kind_of_value" (defArgs s_kind_of_value) (defBody s_kind_of_value) (defScope s_kind_of_value) .none kV2 dc2 pm2 an2 cd2 ct2), sl2⟩) (c2 : PySem.W.codeIn K cd2 "kind_of_value" = true) (k2 : PySem.W.keepIn K (.ref f2) = true)
    (a3 : PySem.W.nsIn K mainGlobals "same_fields" = some (some (.ref f3))) (l3 : K.lookup f3 = some ⟨oc3, od3, .func (PySem.W.fnOf "same_fields" "same_fields" (defArgs s_same_fields) (defBody s_same_fields) (defScope s_same_fields) .none kV3 dc3 pm3 an3 cd3 ct3), sl3⟩) (c3 : PySem.W.codeIn K cd3 "same_fields" = true) (k3 : PySem.W.keepIn K (.ref f3) = true)
    {DK4 : Addr} (l4 : K.lookup f4 = some ⟨oc4, od4, .func (PySem.W.fnOf "__init__" "Record.__init__" (defArgs s_Record___init__) (defBody s_Record___init__) (defScope s_Record___init__) .none (.ref DK4) dc4 pm4 an4 cd4 ct4), sl4⟩) (c4 : PySem.W.codeIn K cd4 "Record.__init__" = true) (k4 : PySem.W.keepIn K (.ref f4) = true)
    {E4_fields : Addr} {eo4_fields : Option Addr} {en4_fields : Nat} {es4_fields : Array (Option Value)} (n4_fields : PySem.W.nsIn K DK4 "fields" = some (some (.ref E4_fields))) (t4_fields : K.lookup E4_fields = some ⟨.type "tuple", eo4_fields, .seq #[] en4_fields, es4_fields⟩)
    {E4_words : Addr} {eo4_words : Option Addr} {en4_words : Nat} {es4_words : Array (Option Value)} (n4_words : PySem.W.nsIn K DK4 "words" = some (some (.ref E4_words))) (t4_words : K.lookup E4_words = some ⟨.type "tuple", eo4_words, .seq #[] en4_words, es4_words⟩)
    (l5 : K.lookup f5 = some ⟨oc5, od5, .func (PySem.W.fnOf "__eq__" "Record.__eq__" (defArgs s_Record___eq__) (defBody s_Record___eq__) (defScope s_Record___eq__) .none kV5 dc5 pm5 an5 cd5 ct5), sl5⟩) (c5 : PySem.W.codeIn K cd5 "Record.__eq__" = true) (k5 : PySem.W.keepIn K (.ref f5) = true)
    (l6 : K.lookup f6 = some ⟨oc6, od6, .func (PySem.W.fnOf "__init__" "Region.__init__" (defArgs s_Region___init__) (defBody s_Region___init__) (defScope s_Region___init__) .none kV6 dc6 pm6 an6 cd6 ct6), sl6⟩) (c6 : PySem.W.codeIn K cd6 "Region.__init__" = true) (k6 : PySem.W.keepIn K (.ref f6) = true)
    (l7 : K.lookup f7 = some ⟨oc7, od7, .func (PySem.W.fnOf "__init__" "Entry.__init__" (defArgs s_Entry___init__) (defBody s_Entry___init__) (defScope s_Entry___init__) .none kV7 dc7 pm7 an7 cd7 ct7), sl7⟩) (c7 : PySem.W.codeIn K cd7 "Entry.__init__" = true) (k7 : PySem.W.keepIn K (.ref f7) = true)
    (l8 : K.lookup f8 = some ⟨oc8, od8, .func (PySem.W.fnOf "__eq__" "Entry.__eq__" (defArgs s_Entry___eq__) (defBody s_Entry___eq__) (defScope s_Entry___eq__) .none kV8 dc8 pm8 an8 cd8 ct8), sl8⟩) (c8 : PySem.W.codeIn K cd8 "Entry.__eq__" = true) (k8 : PySem.W.keepIn K (.ref f8) = true)
    (l9 : K.lookup f9 = some ⟨oc9, od9, .func (PySem.W.fnOf "__init__" "Offer.__init__" (defArgs s_Offer___init__) (defBody s_Offer___init__) (defScope s_Offer___init__) .none kV9 dc9 pm9 an9 cd9 ct9), sl9⟩) (c9 : PySem.W.codeIn K cd9 "Offer.__init__" = true) (k9 : PySem.W.keepIn K (.ref f9) = true)
    (a10 : PySem.W.nsIn K mainGlobals "piece_at" = some (some (.ref f10))) (l10 : K.lookup f10 = some ⟨oc10, od10, .func (PySem.W.fnOf "piece_at" "piece_at" (defArgs s_piece_at) (defBody s_piece_at) (defScope s_piece_at) .none kV10 dc10 pm10 an10 cd10 ct10), sl10⟩) (c10 : PySem.W.codeIn K cd10 "piece_at" = true) (k10 : PySem.W.keepIn K (.ref f10) = true)
    (a11 : PySem.W.nsIn K mainGlobals "is_digit" = some (some (.ref f11))) (l11 : K.lookup f11 = some ⟨oc11, od11, .func (PySem.W.fnOf "is_digit" "is_digit" (defArgs s_is_digit) (defBody s_is_digit) (defScope s_is_digit) .none kV11 dc11 pm11 an11 cd11 ct11), sl11⟩) (c11 : PySem.W.codeIn K cd11 "is_digit" = true) (k11 : PySem.W.keepIn K (.ref f11) = true)
    (a12 : PySem.W.nsIn K mainGlobals "number_in" = some (some (.ref f12))) (l12 : K.lookup f12 = some ⟨oc12, od12, .func (PySem.W.fnOf "number_in" "number_in" (defArgs s_number_in) (defBody s_number_in) (defScope s_number_in) .none kV12 dc12 pm12 an12 cd12 ct12), sl12⟩) (c12 : PySem.W.codeIn K cd12 "number_in" = true) (k12 : PySem.W.keepIn K (.ref f12) = true)
    (a13 : PySem.W.nsIn K mainGlobals "read_file_name" = some (some (.ref f13))) (l13 : K.lookup f13 = some ⟨oc13, od13, .func (PySem.W.fnOf "read_file_name" "read_file_name" (defArgs s_read_file_name) (defBody s_read_file_name) (defScope s_read_file_name) .none kV13 dc13 pm13 an13 cd13 ct13), sl13⟩) (c13 : PySem.W.codeIn K cd13 "read_file_name" = true) (k13 : PySem.W.keepIn K (.ref f13) = true)
    (a14 : PySem.W.nsIn K mainGlobals "_law_record" = some (some (.ref f14))) (l14 : K.lookup f14 = some ⟨oc14, od14, .func (PySem.W.fnOf "_law_record" "_law_record" (defArgs s_law_record) (defBody s_law_record) (defScope s_law_record) .none kV14 dc14 pm14 an14 cd14 ct14), sl14⟩) (c14 : PySem.W.codeIn K cd14 "_law_record" = true) (k14 : PySem.W.keepIn K (.ref f14) = true)
    (a15 : PySem.W.nsIn K mainGlobals "pieces_of" = some (some (.ref f15))) (l15 : K.lookup f15 = some ⟨oc15, od15, .func (PySem.W.fnOf "pieces_of" "pieces_of" (defArgs s_pieces_of) (defBody s_pieces_of) (defScope s_pieces_of) .none kV15 dc15 pm15 an15 cd15 ct15), sl15⟩) (c15 : PySem.W.codeIn K cd15 "pieces_of" = true) (k15 : PySem.W.keepIn K (.ref f15) = true)
    (a16 : PySem.W.nsIn K mainGlobals "segment_file" = some (some (.ref f16))) (l16 : K.lookup f16 = some ⟨oc16, od16, .func (PySem.W.fnOf "segment_file" "segment_file" (defArgs s_segment_file) (defBody s_segment_file) (defScope s_segment_file) .none kV16 dc16 pm16 an16 cd16 ct16), sl16⟩) (c16 : PySem.W.codeIn K cd16 "segment_file" = true) (k16 : PySem.W.keepIn K (.ref f16) = true)
    (a17 : PySem.W.nsIn K mainGlobals "start_file" = some (some (.ref f17))) (l17 : K.lookup f17 = some ⟨oc17, od17, .func (PySem.W.fnOf "start_file" "start_file" (defArgs s_start_file) (defBody s_start_file) (defScope s_start_file) .none kV17 dc17 pm17 an17 cd17 ct17), sl17⟩) (c17 : PySem.W.codeIn K cd17 "start_file" = true) (k17 : PySem.W.keepIn K (.ref f17) = true)
    (a18 : PySem.W.nsIn K mainGlobals "law" = some (some (.ref f18))) (l18 : K.lookup f18 = some ⟨oc18, od18, .func (PySem.W.fnOf "law" "law" (defArgs s_law) (defBody s_law) (defScope s_law) .none kV18 dc18 pm18 an18 cd18 ct18), sl18⟩) (c18 : PySem.W.codeIn K cd18 "law" = true) (k18 : PySem.W.keepIn K (.ref f18) = true)
    (aC_Record : PySem.W.nsIn K mainGlobals "Record" = some (some (.ref C_Record)))
    (pg_Record : PySem.W.plainGet K C_Record Str.empty = true)
    (hd_Record : PySem.W.hasDictIn K C_Record = true)
    (po_Record : PySem.W.plainOver K C_Record = true)
    (sa_Record : PySem.W.findIn K (.ref C_Record) "__setattr__" = some (some (.builtin "object.__setattr__")))
    (n_Record_name : PySem.W.findIn K (.ref C_Record) "name" = some none)
    (n_Record_vector : PySem.W.findIn K (.ref C_Record) "vector" = some none)
    (n_Record_fields : PySem.W.findIn K (.ref C_Record) "fields" = some none)
    (n_Record_words : PySem.W.findIn K (.ref C_Record) "words" = some none)
    (mk_Record : PySem.W.makesIn K C_Record = true)
    (in_Record : PySem.W.findIn K (.ref C_Record) "__init__" = some (some (.ref f4)))
    (if_Record : PySem.W.isFn K (.ref f4) = true)
    (kc_Record : PySem.W.keepIn K (.ref C_Record) = true)
    (fm_Record___eq__ : PySem.W.findIn K (.ref C_Record) "__eq__" = some (some (.ref f5)))
    (im_Record___eq__ : PySem.W.isFn K (.ref f5) = true)
    (ha_Record : PySem.W.findIn K (.ref C_Record) "__class__" = some (some (.builtin "object.__class__")))
    (hm_Record : PySem.W.mroIn K C_Record (.type "object") = some true)
    (aC_Region : PySem.W.nsIn K mainGlobals "Region" = some (some (.ref C_Region)))
    (pg_Region : PySem.W.plainGet K C_Region Str.empty = true)
    (hd_Region : PySem.W.hasDictIn K C_Region = true)
    (po_Region : PySem.W.plainOver K C_Region = true)
    (sa_Region : PySem.W.findIn K (.ref C_Region) "__setattr__" = some (some (.builtin "object.__setattr__")))
    (n_Region_parent : PySem.W.findIn K (.ref C_Region) "parent" = some none)
    (n_Region_facts : PySem.W.findIn K (.ref C_Region) "facts" = some none)
    (mk_Region : PySem.W.makesIn K C_Region = true)
    (in_Region : PySem.W.findIn K (.ref C_Region) "__init__" = some (some (.ref f6)))
    (if_Region : PySem.W.isFn K (.ref f6) = true)
    (kc_Region : PySem.W.keepIn K (.ref C_Region) = true)
    (aC_Entry : PySem.W.nsIn K mainGlobals "Entry" = some (some (.ref C_Entry)))
    (pg_Entry : PySem.W.plainGet K C_Entry Str.empty = true)
    (hd_Entry : PySem.W.hasDictIn K C_Entry = true)
    (po_Entry : PySem.W.plainOver K C_Entry = true)
    (sa_Entry : PySem.W.findIn K (.ref C_Entry) "__setattr__" = some (some (.builtin "object.__setattr__")))
    (n_Entry_number : PySem.W.findIn K (.ref C_Entry) "number" = some none)
    (n_Entry_record : PySem.W.findIn K (.ref C_Entry) "record" = some none)
    (n_Entry_leaves : PySem.W.findIn K (.ref C_Entry) "leaves" = some none)
    (mk_Entry : PySem.W.makesIn K C_Entry = true)
    (in_Entry : PySem.W.findIn K (.ref C_Entry) "__init__" = some (some (.ref f7)))
    (if_Entry : PySem.W.isFn K (.ref f7) = true)
    (kc_Entry : PySem.W.keepIn K (.ref C_Entry) = true)
    (fm_Entry___eq__ : PySem.W.findIn K (.ref C_Entry) "__eq__" = some (some (.ref f8)))
    (im_Entry___eq__ : PySem.W.isFn K (.ref f8) = true)
    (ha_Entry : PySem.W.findIn K (.ref C_Entry) "__class__" = some (some (.builtin "object.__class__")))
    (hm_Entry : PySem.W.mroIn K C_Entry (.type "object") = some true)
    (aC_Offer : PySem.W.nsIn K mainGlobals "Offer" = some (some (.ref C_Offer)))
    (pg_Offer : PySem.W.plainGet K C_Offer Str.empty = true)
    (hd_Offer : PySem.W.hasDictIn K C_Offer = true)
    (po_Offer : PySem.W.plainOver K C_Offer = true)
    (sa_Offer : PySem.W.findIn K (.ref C_Offer) "__setattr__" = some (some (.builtin "object.__setattr__")))
    (n_Offer_partitions : PySem.W.findIn K (.ref C_Offer) "partitions" = some none)
    (n_Offer_entries : PySem.W.findIn K (.ref C_Offer) "entries" = some none)
    (mk_Offer : PySem.W.makesIn K C_Offer = true)
    (in_Offer : PySem.W.findIn K (.ref C_Offer) "__init__" = some (some (.ref f9)))
    (if_Offer : PySem.W.isFn K (.ref f9) = true)
    (kc_Offer : PySem.W.keepIn K (.ref C_Offer) = true)
    (hn0 : PySem.W.specialIn K (.builtin "object.__class__") "__get__" = some (some (.builtin "getset_descriptor.__get__")))
    (ht0 : PySem.W.takesIn K (.builtin "object.__class__") = some true)
    {tk_PIECE : Tok} (z_PIECE : PySem.W.nsIn K mainGlobals "PIECE" = some (some (.int 4 tk_PIECE)))
    (z_all : PySem.W.nsIn K mainGlobals "all" = some none)
    (z_bool : PySem.W.nsIn K mainGlobals "bool" = some none)
    (z_int : PySem.W.nsIn K mainGlobals "int" = some none)
    (z_isinstance : PySem.W.nsIn K mainGlobals "isinstance" = some none)
    (z_len : PySem.W.nsIn K mainGlobals "len" = some none)
    (z_list : PySem.W.nsIn K mainGlobals "list" = some none)
    (z_range : PySem.W.nsIn K mainGlobals "range" = some none)
    (z_str : PySem.W.nsIn K mainGlobals "str" = some none)
    (z_tuple : PySem.W.nsIn K mainGlobals "tuple" = some none)
    : ∃ fd : FuncData, (∀ (s : Shared) (v : Value), BindsTo s fd ⟨[v], []⟩ [("script", v)]) ∧ ∀ base : Heap, K.In base → base.Ns mainGlobals mg → FnOk l.prog w K mg base CX0 6 fa fd ["script"] (sp_law K) := by
  have e := hfa.symm.trans (PySem.W.mg_of X G a18)
  cases e
  have F0 := fun_mk (st := s_law_row) l0 c0 k0
  have b0 := F0.binds (ps := ["script", "k"]) fun _ _ _ _ _ _ us hl => match us, hl with | [_, _], _ => rfl
  have F1 := fun_mk (st := s_law_next) l1 c1 k1
  have b1 := F1.binds (ps := ["state", "many"]) fun _ _ _ _ _ _ us hl => match us, hl with | [_, _], _ => rfl
  have F2 := fun_mk (st := s_kind_of_value) l2 c2 k2
  have b2 := F2.binds (ps := ["worth"]) fun _ _ _ _ _ _ us hl => match us, hl with | [_], _ => rfl
  have F3 := fun_mk (st := s_same_fields) l3 c3 k3
  have b3 := F3.binds (ps := ["ones", "others"]) fun _ _ _ _ _ _ us hl => match us, hl with | [_, _], _ => rfl
  have F4 : FunD K "__init__" "Record.__init__" (defArgs s_Record___init__) (defBody s_Record___init__) (defScope s_Record___init__) [] [("fields", .ref E4_fields), ("words", .ref E4_words)] f4 _ := ⟨⟨_, _, _, _, _, _, _, _, _, _, rfl, l4, c4, .inl ⟨rfl, rfl⟩, .inr ⟨DK4, rfl, fun q hq => by
    simp only [List.mem_cons, List.not_mem_nil, or_false] at hq
    rcases hq with rfl | rfl
    · exact ⟨_, n4_fields, rfl⟩
    · exact ⟨_, n4_words, rfl⟩⟩⟩, k4⟩
  obtain ⟨mv4, kb4⟩ := F4.kbinds0 (ps := ["self", "name", "vector", "fields", "words"]) 3 ["fields", "words"] [] (fun us mv ws => us ++ ws) (by intro h; cases h) (fun q h => by cases h) (fun r1 _ r3 => r1.append r3) (fun D doc pm an cdv ct us mv ws l1 l2 l3 => match us, mv, ws, l1, l2, l3 with | [_, _, _], [], [_, _], _, _, _ => rfl)
  obtain ⟨ds4, v4, b4⟩ := F4.binds0 (ps := ["self", "name", "vector", "fields", "words"]) 3 (by intro h; cases h) rfl (fun D doc pm an cdv ct us ks l1 l2 => match us, ks, l1, l2 with | [_, _, _], [_, _], _, _ => ⟨_, _, _, _, _, _, rfl, rfl, ⟨_, _, _, _, _, _, rfl, rfl, rfl⟩⟩)
  have F5 := fun_mk (st := s_Record___eq__) l5 c5 k5
  have b5 := F5.binds (ps := ["self", "other"]) fun _ _ _ _ _ _ us hl => match us, hl with | [_, _], _ => rfl
  have F6 := fun_mk (st := s_Region___init__) l6 c6 k6
  have b6 := F6.binds (ps := ["self", "parent", "facts"]) fun _ _ _ _ _ _ us hl => match us, hl with | [_, _, _], _ => rfl
  have F7 := fun_mk (st := s_Entry___init__) l7 c7 k7
  have b7 := F7.binds (ps := ["self", "number", "record", "leaves"]) fun _ _ _ _ _ _ us hl => match us, hl with | [_, _, _, _], _ => rfl
  have F8 := fun_mk (st := s_Entry___eq__) l8 c8 k8
  have b8 := F8.binds (ps := ["self", "other"]) fun _ _ _ _ _ _ us hl => match us, hl with | [_, _], _ => rfl
  have F9 := fun_mk (st := s_Offer___init__) l9 c9 k9
  have b9 := F9.binds (ps := ["self", "partitions", "entries"]) fun _ _ _ _ _ _ us hl => match us, hl with | [_, _, _], _ => rfl
  have F10 := fun_mk (st := s_piece_at) l10 c10 k10
  have b10 := F10.binds (ps := ["offer", "index"]) fun _ _ _ _ _ _ us hl => match us, hl with | [_, _], _ => rfl
  have F11 := fun_mk (st := s_is_digit) l11 c11 k11
  have b11 := F11.binds (ps := ["char"]) fun _ _ _ _ _ _ us hl => match us, hl with | [_], _ => rfl
  have F12 := fun_mk (st := s_number_in) l12 c12 k12
  have b12 := F12.binds (ps := ["text"]) fun _ _ _ _ _ _ us hl => match us, hl with | [_], _ => rfl
  have F13 := fun_mk (st := s_read_file_name) l13 c13 k13
  have b13 := F13.binds (ps := ["text"]) fun _ _ _ _ _ _ us hl => match us, hl with | [_], _ => rfl
  have F14 := fun_mk (st := s_law_record) l14 c14 k14
  have b14 := F14.binds (ps := ["k", "state"]) fun _ _ _ _ _ _ us hl => match us, hl with | [_, _], _ => rfl
  have F15 := fun_mk (st := s_pieces_of) l15 c15 k15
  have b15 := F15.binds (ps := ["offer"]) fun _ _ _ _ _ _ us hl => match us, hl with | [_], _ => rfl
  have F16 := fun_mk (st := s_segment_file) l16 c16 k16
  have b16 := F16.binds (ps := ["name"]) fun _ _ _ _ _ _ us hl => match us, hl with | [_], _ => rfl
  have F17 := fun_mk (st := s_start_file) l17 c17 k17
  have b17 := F17.binds (ps := ["start"]) fun _ _ _ _ _ _ us hl => match us, hl with | [_], _ => rfl
  have F18 := fun_mk (st := s_law) l18 c18 k18
  have b18 := F18.binds (ps := ["script"]) fun _ _ _ _ _ _ us hl => match us, hl with | [_], _ => rfl
  let T : Txt K mg := ⟨_, _, F0, b0, PySem.W.mg_of X G a0,
    _, _, F1, b1, PySem.W.mg_of X G a1,
    _, _, F2, b2, PySem.W.mg_of X G a2,
    _, _, F3, b3, PySem.W.mg_of X G a3,
    _, _, _, fun H => .inr ⟨_, _, _, t4_fields, rfl, rfl, by decide, .nil⟩, _, fun H => .inr ⟨_, _, _, t4_words, rfl, rfl, by decide, .nil⟩, F4, kb4, _, v4, b4,
    _, _, F5, b5,
    _, _, F6, b6,
    _, _, F7, b7,
    _, _, F8, b8,
    _, _, F9, b9,
    _, _, F10, b10, PySem.W.mg_of X G a10,
    _, _, F11, b11, PySem.W.mg_of X G a11,
    _, _, F12, b12, PySem.W.mg_of X G a12,
    _, _, F13, b13, PySem.W.mg_of X G a13,
    _, _, F14, b14, PySem.W.mg_of X G a14,
    _, _, F15, b15, PySem.W.mg_of X G a15,
    _, _, F16, b16, PySem.W.mg_of X G a16,
    _, _, F17, b17, PySem.W.mg_of X G a17,
    _, _, F18, b18, PySem.W.mg_of X G a18,
    _, ⟨pg_Record, hd_Record, po_Record, sa_Record⟩, PySem.W.mg_of X G aC_Record, n_Record_name, n_Record_vector, n_Record_fields, n_Record_words, ⟨mk_Record, in_Record, if_Record, kc_Record⟩, ⟨fm_Record___eq__, im_Record___eq__, k5⟩, ha_Record, hm_Record,
    _, ⟨pg_Region, hd_Region, po_Region, sa_Region⟩, PySem.W.mg_of X G aC_Region, n_Region_parent, n_Region_facts, ⟨mk_Region, in_Region, if_Region, kc_Region⟩,
    _, ⟨pg_Entry, hd_Entry, po_Entry, sa_Entry⟩, PySem.W.mg_of X G aC_Entry, n_Entry_number, n_Entry_record, n_Entry_leaves, ⟨mk_Entry, in_Entry, if_Entry, kc_Entry⟩, ⟨fm_Entry___eq__, im_Entry___eq__, k8⟩, ha_Entry, hm_Entry,
    _, ⟨pg_Offer, hd_Offer, po_Offer, sa_Offer⟩, PySem.W.mg_of X G aC_Offer, n_Offer_partitions, n_Offer_entries, ⟨mk_Offer, in_Offer, if_Offer, kc_Offer⟩,
    kit_self,
    kit_self,
    hn0,
    ht0,
    ⟨_, PySem.W.mg_of X G z_PIECE⟩,
    PySem.W.mg_none_of X G z_all,
    PySem.W.mg_none_of X G z_bool,
    PySem.W.mg_none_of X G z_int,
    PySem.W.mg_none_of X G z_isinstance,
    PySem.W.mg_none_of X G z_len,
    PySem.W.mg_none_of X G z_list,
    PySem.W.mg_none_of X G z_range,
    PySem.W.mg_none_of X G z_str,
    PySem.W.mg_none_of X G z_tuple⟩
  exact ⟨_, fun s v => .of_eq rfl, fun base _ _ => ok_law T⟩
end K43
open PySem PySem.W PyProof.Rows
set_option maxRecDepth 100000 in
set_option maxHeartbeats 0 in
theorem PySem.Challenge.cw_surenear_k43_pieces_and_names_of_files_holds : PySem.Challenge.rw_surenear_k43_pieces_and_names_of_files.Holds := by
  w_on; o_law; k_headL; (case hw => w_witness2)
  k_fill
  refine L2.walk_of (l := PySem.Challenge.rw_surenear_k43_pieces_and_names_of_files) (n := 63) (k := 6) (x := "script") (CX := fun _ => L2.CX0) (sp := fun w => K43.sp_law _) rfl (by decide) rfl ⟨rfl, by decide, by decide⟩ (fun w h Y => PySem.W.kIn_of Y) ?F (fun _ _ a ns hl _ hS => ⟨a, ns, rfl, hS, hl, fun _ => rfl⟩) (fun _ _ _ _ _ h => h)
  case F =>
    intro w mg fa h KX G hmg
    refine' K43.all_mk KX G hmg (a0 := ?a0) (l0 := ?l0) (c0 := ?c0) (k0 := ?k0) (a1 := ?a1) (l1 := ?l1) (c1 := ?c1) (k1 := ?k1) (a2 := ?a2) (l2 := ?l2) (c2 := ?c2) (k2 := ?k2) (a3 := ?a3) (l3 := ?l3) (c3 := ?c3) (k3 := ?k3) (a10 := ?a10) (l10 := ?l10) (c10 := ?c10) (k10 := ?k10) (a11 := ?a11) (l11 := ?l11) (c11 := ?c11) (k11 := ?k11) (a12 := ?a12) (l12 := ?l12) (c12 := ?c12) (k12 := ?k12) (a13 := ?a13) (l13 := ?l13) (c13 := ?c13) (k13 := ?k13) (a14 := ?a14) (l14 := ?l14) (c14 := ?c14) (k14 := ?k14) (a15 := ?a15) (l15 := ?l15) (c15 := ?c15) (k15 := ?k15) (a16 := ?a16) (l16 := ?l16) (c16 := ?c16) (k16 := ?k16) (a17 := ?a17) (l17 := ?l17) (c17 := ?c17) (k17 := ?k17) (a18 := ?a18) (l18 := ?l18) (c18 := ?c18) (k18 := ?k18) (aC_Record := ?aC_Record) (pg_Record := ?pg_Record) (hd_Record := ?hd_Record) (po_Record := ?po_Record) (sa_Record := ?sa_Record) (n_Record_name := ?n_Record_name) (n_Record_vector := ?n_Record_vector) (n_Record_fields := ?n_Record_fields) (n_Record_words := ?n_Record_words) (mk_Record := ?mk_Record) (in_Record := ?in_Record) (if_Record := ?if_Record) (kc_Record := ?kc_Record) (fm_Record___eq__ := ?fm_Record___eq__) (im_Record___eq__ := ?im_Record___eq__) (ha_Record := ?ha_Record) (hm_Record := ?hm_Record) (aC_Region := ?aC_Region) (pg_Region := ?pg_Region) (hd_Region := ?hd_Region) (po_Region := ?po_Region) (sa_Region := ?sa_Region) (n_Region_parent := ?n_Region_parent) (n_Region_facts := ?n_Region_facts) (mk_Region := ?mk_Region) (in_Region := ?in_Region) (if_Region := ?if_Region) (kc_Region := ?kc_Region) (aC_Entry := ?aC_Entry) (pg_Entry := ?pg_Entry) (hd_Entry := ?hd_Entry) (po_Entry := ?po_Entry) (sa_Entry := ?sa_Entry) (n_Entry_number := ?n_Entry_number) (n_Entry_record := ?n_Entry_record) (n_Entry_leaves := ?n_Entry_leaves) (mk_Entry := ?mk_Entry) (in_Entry := ?in_Entry) (if_Entry := ?if_Entry) (kc_Entry := ?kc_Entry) (fm_Entry___eq__ := ?fm_Entry___eq__) (im_Entry___eq__ := ?im_Entry___eq__) (ha_Entry := ?ha_Entry) (hm_Entry := ?hm_Entry) (aC_Offer := ?aC_Offer) (pg_Offer := ?pg_Offer) (hd_Offer := ?hd_Offer) (po_Offer := ?po_Offer) (sa_Offer := ?sa_Offer) (n_Offer_partitions := ?n_Offer_partitions) (n_Offer_entries := ?n_Offer_entries) (mk_Offer := ?mk_Offer) (in_Offer := ?in_Offer) (if_Offer := ?if_Offer) (kc_Offer := ?kc_Offer) (hn0 := ?hn0) (ht0 := ?ht0) (l4 := ?l4) (n4_fields := ?n4_fields) (t4_fields := ?t4_fields) (n4_words := ?n4_words) (t4_words := ?t4_words) (c4 := ?c4) (k4 := ?k4) (l5 := ?l5) (c5 := ?c5) (k5 := ?k5) (l6 := ?l6) (c6 := ?c6) (k6 := ?k6) (l7 := ?l7) (c7 := ?c7) (k7 := ?k7) (l8 := ?l8) (c8 := ?c8) (k8 := ?k8) (l9 := ?l9) (c9 := ?c9) (k9 := ?k9) (z_PIECE := ?z_PIECE) (z_all := ?z_all) (z_bool := ?z_bool) (z_int := ?z_int) (z_isinstance := ?z_isinstance) (z_len := ?z_len) (z_list := ?z_list) (z_range := ?z_range) (z_str := ?z_str) (z_tuple := ?z_tuple)
    (case a0 => k_is); (case l0 => k_is); (case c0 => k_is); (case k0 => k_is); (case a1 => k_is); (case l1 => k_is); (case c1 => k_is); (case k1 => k_is); (case a2 => k_is); (case l2 => k_is); (case c2 => k_is); (case k2 => k_is); (case a3 => k_is); (case l3 => k_is); (case c3 => k_is); (case k3 => k_is); (case a10 => k_is); (case l10 => k_is); (case c10 => k_is); (case k10 => k_is); (case a11 => k_is); (case l11 => k_is); (case c11 => k_is); (case k11 => k_is); (case a12 => k_is); (case l12 => k_is); (case c12 => k_is); (case k12 => k_is); (case a13 => k_is); (case l13 => k_is); (case c13 => k_is); (case k13 => k_is); (case a14 => k_is); (case l14 => k_is); (case c14 => k_is); (case k14 => k_is); (case a15 => k_is); (case l15 => k_is); (case c15 => k_is); (case k15 => k_is); (case a16 => k_is); (case l16 => k_is); (case c16 => k_is); (case k16 => k_is); (case a17 => k_is); (case l17 => k_is); (case c17 => k_is); (case k17 => k_is); (case a18 => k_is); (case l18 => k_is); (case c18 => k_is); (case k18 => k_is); (case aC_Record => k_is); (case pg_Record => k_is); (case hd_Record => k_is); (case po_Record => k_is); (case sa_Record => k_is); (case n_Record_name => k_is); (case n_Record_vector => k_is); (case n_Record_fields => k_is); (case n_Record_words => k_is); (case mk_Record => k_is); (case in_Record => k_is); (case if_Record => k_is); (case kc_Record => k_is); (case fm_Record___eq__ => k_is); (case im_Record___eq__ => k_is); (case ha_Record => k_is); (case hm_Record => k_is); (case aC_Region => k_is); (case pg_Region => k_is); (case hd_Region => k_is); (case po_Region => k_is); (case sa_Region => k_is); (case n_Region_parent => k_is); (case n_Region_facts => k_is); (case mk_Region => k_is); (case in_Region => k_is); (case if_Region => k_is); (case kc_Region => k_is); (case aC_Entry => k_is); (case pg_Entry => k_is); (case hd_Entry => k_is); (case po_Entry => k_is); (case sa_Entry => k_is); (case n_Entry_number => k_is); (case n_Entry_record => k_is); (case n_Entry_leaves => k_is); (case mk_Entry => k_is); (case in_Entry => k_is); (case if_Entry => k_is); (case kc_Entry => k_is); (case fm_Entry___eq__ => k_is); (case im_Entry___eq__ => k_is); (case ha_Entry => k_is); (case hm_Entry => k_is); (case aC_Offer => k_is); (case pg_Offer => k_is); (case hd_Offer => k_is); (case po_Offer => k_is); (case sa_Offer => k_is); (case n_Offer_partitions => k_is); (case n_Offer_entries => k_is); (case mk_Offer => k_is); (case in_Offer => k_is); (case if_Offer => k_is); (case kc_Offer => k_is); (case hn0 => k_is); (case ht0 => k_is); (case l4 => k_is); (case n4_fields => k_is); (case t4_fields => k_is); (case n4_words => k_is); (case t4_words => k_is); (case c4 => k_is); (case k4 => k_is); (case l5 => k_is); (case c5 => k_is); (case k5 => k_is); (case l6 => k_is); (case c6 => k_is); (case k6 => k_is); (case l7 => k_is); (case c7 => k_is); (case k7 => k_is); (case l8 => k_is); (case c8 => k_is); (case k8 => k_is); (case l9 => k_is); (case c9 => k_is); (case k9 => k_is); (case z_PIECE => k_is); (case z_all => k_is); (case z_bool => k_is); (case z_int => k_is); (case z_isinstance => k_is); (case z_len => k_is); (case z_list => k_is); (case z_range => k_is); (case z_str => k_is); (case z_tuple => k_is)
