import PyProof.Rows.All
import Wide.All
import OpenK.AllK
import Wide.FinOn
import HandS.ForMost
import HandS.Codes
import HandS.Wide
import HandS.IsInst
import HandS.Walk
import HandS.Zip
import HandS.MakeKwOnly
import HandS.ForExc
import HandS.TryMany
import HandS.Strs
import HandS.More
import HandS.Property
import HandS.SetFor
import HandS.Conv
import HandS.Text
import HandS.TupAny
import HandS.Style
import KE.KEqSeq
import KE.LtData
import KE.OsRunLaw
import KE.GoesEnum
import HandS.OwnEq
import PyProof.NeKinds
import HandS.Small
import HandS.Deep
import KE.KTupSum
import KE.KDictZip
import KE.KStar
import HandS.Star
import HandS.FStr
import KE.HD2
import PySem.Challenge.RW_surenear_k36_codes_number_by_number
set_option Elab.async false
set_option linter.all false
set_option maxRecDepth 100000
set_option synthInstance.maxHeartbeats 400000
set_option synthInstance.maxSize 4000
namespace TP
open PySem PySem.Spec PyProof.Rows L2
/-! ### heaps: Z is the part that never changes, H is all -/
def SameX (S : List Addr) (H H' : Hp) : Prop := ∀ a o, a ∉ S → H a = some o → H' a = some o
theorem SameX.refl {S : List Addr} {H : Hp} : SameX S H H := fun _ _ _ h => h
theorem SameX.trans {S : List Addr} {H H1 H2 : Hp} (f : SameX S H H1) (g : SameX S H1 H2) : SameX S H H2 := fun a o n h => g a o n (f a o n h)
structure Step (S : List Addr) (Z H Z' H' : Hp) : Prop where
  z : Same Z Z'
  s : Same Z' H'
  h : SameX S H H'
  n : ∀ a, H a ≠ none → Z a = none → Z' a = none
  al : ∀ a, H a ≠ none → H' a ≠ none
theorem Step.refl {S : List Addr} {Z H : Hp} (s : Same Z H) : Step S Z H Z H := ⟨Same.refl _, s, SameX.refl, fun _ _ h => h, fun _ h => h⟩
theorem Step.mine {S F : List Addr} {Z H Z1 H1 Z2 H2 : Hp} (f : Step S Z H Z1 H1) (g : Step F Z1 H1 Z2 H2) (m : ∀ a ∈ F, a ∈ S ∨ H a = none) : Step S Z H Z2 H2 :=
  ⟨f.z.trans g.z, g.s, fun a o na h => g.h a o (fun q => by rcases m a q with x | x; exact na x; rw [x] at h; cases h) (f.h a o na h), fun a h z => g.n a (f.al a h) (f.n a h z), fun a h => g.al a (f.al a h)⟩
theorem Step.trans {S : List Addr} {Z H Z1 H1 Z2 H2 : Hp} (f : Step S Z H Z1 H1) (g : Step S Z1 H1 Z2 H2) : Step S Z H Z2 H2 := f.mine g fun _ h => .inl h
theorem Step.weak {S F : List Addr} {Z H Z1 H1 : Hp} (g : Step F Z H Z1 H1) (m : ∀ a ∈ F, a ∈ S ∨ H a = none) : Step S Z H Z1 H1 :=
  ⟨g.z, g.s, fun a o na h => g.h a o (fun q => by rcases m a q with x | x; exact na x; rw [x] at h; cases h) h, g.n, g.al⟩
theorem Step.pure {S : List Addr} {Z H Z1 H1 : Hp} (g : Step [] Z H Z1 H1) : Step S Z H Z1 H1 := g.weak fun _ h => by cases h
theorem ne_of_some {H : Hp} {a p : Addr} (h : H a ≠ none) (hp : H p = none) : a ≠ p := fun e => h (e ▸ hp)
theorem some_ne {H : Hp} {a : Addr} {o : HO} (h : H a = some o) : H a ≠ none := by rw [h]; exact fun z => nomatch z
theorem same_none {Z H : Hp} (s : Same Z H) {p : Addr} (h : H p = none) : Z p = none := s.free h
theorem same_upd {H : Hp} {p : Addr} {o : HO} (h : H p = none) : Same H (upd H p o) := fun a u e => by
  rw [upd_ne (ne_of_some (some_ne e) h)]; exact e
theorem same_upd2 {Z H : Hp} {p : Addr} {o : HO} (s : Same Z H) : Same (upd Z p o) (upd H p o) := fun a u e => by
  by_cases q : a = p
  · subst q; rw [upd_same] at e ⊢; exact e
  · rw [upd_ne q] at e ⊢; exact s a u e
/-- something new that never changes -/
theorem Step.new {Z H : Hp} {p : Addr} {o : HO} (s : Same Z H) (hp : H p = none) : Step [] Z H (upd Z p o) (upd H p o) :=
  ⟨same_upd (same_none s hp), same_upd2 s, fun a u _ e => same_upd hp a u e, fun a h z => by rw [upd_ne (ne_of_some h hp)]; exact z, fun a h => by rw [upd_ne (ne_of_some h hp)]; exact h⟩
/-- something new of one's own -/
theorem Step.own {Z H : Hp} {p : Addr} {o : HO} (s : Same Z H) (hp : H p = none) : Step [] Z H Z (upd H p o) :=
  ⟨Same.refl _, s.trans (same_upd hp), fun a u _ e => same_upd hp a u e, fun _ _ z => z, fun a h => by rw [upd_ne (ne_of_some h hp)]; exact h⟩
/-- one's own is changed -/
theorem Step.set {Z H : Hp} {p : Addr} {o : HO} (s : Same Z H) (hz : Z p = none) : Step [p] Z H Z (upd H p o) := by
  refine ⟨Same.refl _, fun a u e => ?_, fun a u n e => ?_, fun _ _ z => z, fun a h => ?_⟩
  · rw [upd_ne (ne_of_some (some_ne e) hz)]; exact s a u e
  · rw [upd_ne (fun q => n (by rw [q]; exact List.mem_cons_self))]; exact e
  · by_cases q : a = p
    · subst q; rw [upd_same]; exact fun z => nomatch z
    · rw [upd_ne q]; exact h

/-! ### kinds of values -/
structure Ty (α : Type) where
  r : Hp → V → α → Prop
  mono : ∀ {Z Z' : Hp} {v : V} {x : α}, Same Z Z' → r Z v x → r Z' v x
def yInt : Ty Int := ⟨fun _ v x => v = .int x, fun _ h => h⟩
def yBool : Ty Bool := ⟨fun _ v x => v = .bl x, fun _ h => h⟩
def okS (x : Str) : Bool := PyData.strOk x && decide (x.length ≤ sizeLine)
def yStr : Ty Str := ⟨fun _ v x => v = .str x ∧ okS x = true, fun _ h => h⟩
def yNon : Ty Unit := ⟨fun _ v _ => v = .non, fun _ h => h⟩
def yOpt {α : Type} (τ : Ty α) : Ty (Option α) := ⟨fun Z v x => match x with | none => v = .non | some y => τ.r Z v y ∧ v ≠ .non, fun {_ _ _ x} s h => match x, h with | none, h => h | some _, h => ⟨τ.mono s h.1, h.2⟩⟩
/-- place by place -/
inductive All {α : Type} (R : V → α → Prop) : List V → List α → Prop
  | nil : All R [] []
  | cons {v : V} {vs : List V} {x : α} {xs : List α} : R v x → All R vs xs → All R (v :: vs) (x :: xs)
section
variable {α β : Type} {R R' : V → α → Prop}
theorem All.imp (f : ∀ v x, R v x → R' v x) : ∀ {vs : List V} {xs : List α}, All R vs xs → All R' vs xs
  | _, _, .nil => .nil
  | _, _, .cons h t => .cons (f _ _ h) (t.imp f)
theorem All.len : ∀ {vs : List V} {xs : List α}, All R vs xs → vs.length = xs.length
  | _, _, .nil => rfl
  | _, _, .cons _ t => congrArg Nat.succ t.len
theorem All.app : ∀ {vs ws : List V} {xs ys : List α}, All R vs xs → All R ws ys → All R (vs ++ ws) (xs ++ ys)
  | _, _, _, _, .nil, h => h
  | _, _, _, _, .cons h t, g => .cons h (t.app g)
theorem All.snoc {vs : List V} {xs : List α} {v : V} {x : α} (h : All R vs xs) (g : R v x) : All R (vs ++ [v]) (xs ++ [x]) := h.app (.cons g .nil)
theorem All.get : ∀ {vs : List V} {xs : List α} {i : Nat} {v : V}, All R vs xs → vs[i]? = some v → ∃ x, xs[i]? = some x ∧ R v x
  | _, _, _, _, .nil, h => by simp at h
  | _, _, 0, _, .cons h _, e => ⟨_, rfl, by have := Option.some.inj e; rw [← this]; exact h⟩
  | _, _, i + 1, _, .cons _ t, e => t.get (i := i) e
theorem All.at : ∀ {vs : List V} {xs : List α} {i : Nat} {x : α}, All R vs xs → xs[i]? = some x → ∃ v, vs[i]? = some v ∧ R v x
  | _, _, _, _, .nil, h => by simp at h
  | _, _, 0, _, .cons h _, e => ⟨_, rfl, by have := Option.some.inj e; rw [← this]; exact h⟩
  | _, _, i + 1, _, .cons _ t, e => t.at (i := i) e
theorem All.take : ∀ {vs : List V} {xs : List α} (n : Nat), All R vs xs → All R (vs.take n) (xs.take n)
  | _, _, 0, _ => .nil
  | _, _, _ + 1, .nil => .nil
  | _, _, n + 1, .cons h t => .cons h (t.take n)
theorem All.drop : ∀ {vs : List V} {xs : List α} (n : Nat), All R vs xs → All R (vs.drop n) (xs.drop n)
  | _, _, 0, h => h
  | _, _, _ + 1, .nil => .nil
  | _, _, n + 1, .cons _ t => t.drop n
theorem All.set {v : V} {x : α} (g : R v x) : ∀ {vs : List V} {xs : List α} (n : Nat), All R vs xs → All R (vs.set n v) (xs.set n x)
  | _, _, _, .nil => .nil
  | _, _, 0, .cons _ t => .cons g t
  | _, _, n + 1, .cons h t => .cons h (t.set g n)
theorem All.ints : ∀ {vs : List V} {xs : List Int}, All (fun v x => v = .int x) vs xs → vs = xs.map V.int
  | _, _, .nil => rfl
  | _, _, .cons h t => by rw [h, t.ints]; rfl
theorem All.map {f : α → V} (e : ∀ v x, R v x → v = f x) : ∀ {vs : List V} {xs : List α}, All R vs xs → vs = xs.map f
  | _, _, .nil => rfl
  | _, _, .cons h t => by rw [e _ _ h, t.map e]; rfl
theorem All.bls : ∀ {vs : List V} {xs : List Bool}, All (fun v x => v = .bl x) vs xs → vs = xs.map V.bl
  | _, _, .nil => rfl
  | _, _, .cons h t => by rw [h, t.bls]; rfl
theorem All.ofInts : ∀ xs : List Int, All (fun v x => v = .int x) (xs.map V.int) xs
  | [] => .nil
  | _ :: r => .cons rfl (All.ofInts r)
theorem All.atI {vs : List V} {xs : List α} {i : Int} {x : α} (h : All R vs xs) (e : L2.atI xs i = some x) : ∃ v, L2.atI vs i = some v ∧ R v x := by
  unfold L2.atI at e ⊢
  rw [h.len]
  cases q : ixN xs.length i with
  | none => rw [q] at e; cases e
  | some j =>
    rw [q] at e
    exact h.at (i := j) e
end
/-- a list that never changes -/
def yList {α : Type} (τ : Ty α) : Ty (List α) := ⟨fun Z v xs => ∃ a vs, v = .ref a ∧ Z a = some (.lst vs) ∧ All (τ.r Z) vs xs ∧ xs.length ≤ sizeLine,
  fun s ⟨a, vs, e, h, t, l⟩ => ⟨a, vs, e, s _ _ h, t.imp fun _ _ => τ.mono s, l⟩⟩
theorem seqT_same {K : PySem.W.Frag} {H H' : Hp} {q : Addr} {xs : List V} (f : Same H H') (h : SqT K H q xs) : SqT K H' q xs := by
  rcases h with (h | ⟨o, h⟩) | h
  · exact .inl (.inl (f _ _ h))
  · exact .inl (.inr ⟨o, f _ _ h⟩)
  · exact .inr h
section
variable (K : PySem.W.Frag)
def yTup {α : Type} (τ : Ty α) : Ty (List α) := ⟨fun Z v xs => ∃ a vs, v = .ref a ∧ SqT K Z a vs ∧ All (τ.r Z) vs xs ∧ xs.length ≤ sizeLine,
  fun s ⟨a, vs, e, h, t, l⟩ => ⟨a, vs, e, seqT_same s h, t.imp fun _ _ => τ.mono s, l⟩⟩
def yP0 : Ty Unit := ⟨fun Z v _ => ∃ a, v = .ref a ∧ SqT K Z a [], fun s ⟨a, e, h⟩ => ⟨a, e, seqT_same s h⟩⟩
def yP1 {α : Type} (τ : Ty α) : Ty α := ⟨fun Z v x => ∃ a v1, v = .ref a ∧ SqT K Z a [v1] ∧ τ.r Z v1 x, fun s ⟨a, v1, e, h, h1⟩ => ⟨a, v1, e, seqT_same s h, τ.mono s h1⟩⟩
def yP2 {α β : Type} (τ : Ty α) (υ : Ty β) : Ty (α × β) := ⟨fun Z v x => ∃ a v1 v2, v = .ref a ∧ SqT K Z a [v1, v2] ∧ τ.r Z v1 x.1 ∧ υ.r Z v2 x.2,
  fun s ⟨a, v1, v2, e, h, h1, h2⟩ => ⟨a, v1, v2, e, seqT_same s h, τ.mono s h1, υ.mono s h2⟩⟩
def yP3 {α β γ : Type} (τ : Ty α) (υ : Ty β) (φ : Ty γ) : Ty (α × β × γ) := ⟨fun Z v x => ∃ a v1 v2 v3, v = .ref a ∧ SqT K Z a [v1, v2, v3] ∧ τ.r Z v1 x.1 ∧ υ.r Z v2 x.2.1 ∧ φ.r Z v3 x.2.2,
  fun s ⟨a, v1, v2, v3, e, h, h1, h2, h3⟩ => ⟨a, v1, v2, v3, e, seqT_same s h, τ.mono s h1, υ.mono s h2, φ.mono s h3⟩⟩
def yP4 {α β γ δ : Type} (τ : Ty α) (υ : Ty β) (φ : Ty γ) (ψ : Ty δ) : Ty (α × β × γ × δ) := ⟨fun Z v x => ∃ a v1 v2 v3 v4, v = .ref a ∧ SqT K Z a [v1, v2, v3, v4] ∧ τ.r Z v1 x.1 ∧ υ.r Z v2 x.2.1 ∧ φ.r Z v3 x.2.2.1 ∧ ψ.r Z v4 x.2.2.2,
  fun s ⟨a, v1, v2, v3, v4, e, h, h1, h2, h3, h4⟩ => ⟨a, v1, v2, v3, v4, e, seqT_same s h, τ.mono s h1, υ.mono s h2, φ.mono s h3, ψ.mono s h4⟩⟩
end

/-! ### what changes: s of a kind μ stands at the addresses fp -/
structure Mu (μ : Type) where
  fp : List Addr
  m : μ → Hp → Hp → Prop
  al : ∀ {s : μ} {Z H : Hp}, m s Z H → ∀ a ∈ fp, H a ≠ none ∧ Z a = none
  loc : ∀ {s : μ} {Z H Z' H' : Hp}, Same Z Z' → (∀ a ∈ fp, ∀ o, H a = some o → H' a = some o) → (∀ a ∈ fp, H a ≠ none → Z a = none → Z' a = none) → m s Z H → m s Z' H'
def muN : Mu Unit := ⟨[], fun _ _ _ => True, fun _ _ h => (nomatch h), fun _ _ _ _ => trivial⟩
/-- what was told of more that stands still is told without it -/
def Mu.Back {μ : Type} (M : Mu μ) : Prop := ∀ {s s' : μ} {Z H Z' H' : Hp}, Same Z Z' → M.m s Z H → M.m s' Z' H' → M.m s' Z H'
theorem muN_back : muN.Back := fun _ _ _ => trivial
theorem Mu.pure {μ : Type} (M : Mu μ) {s : μ} {Z H Z' H' : Hp} (g : Step [] Z H Z' H') (h : M.m s Z H) : M.m s Z' H' := M.loc g.z (fun a _ o e => g.h a o (List.not_mem_nil) e) (fun a _ x y => g.n a x y) h
/-- what a value is, of the heaps -/
structure Rr (fp : List Addr) where
  r : Hp → Hp → V → Prop
  st : ∀ {Z H Z' H' : Hp} {v : V}, Step fp Z H Z' H' → r Z H v → r Z' H' v
structure Ra (fp : List Addr) where
  r : Hp → Hp → List V → Prop
  st : ∀ {Z H Z' H' : Hp} {vs : List V}, Step fp Z H Z' H' → r Z H vs → r Z' H' vs
def ty {fp : List Addr} {α : Type} (τ : Ty α) (x : α) : Rr fp := ⟨fun Z _ v => τ.r Z v x, fun g h => τ.mono g.z h⟩
/-- a list that may be read: one that never changes, or one of one's own -/
def RdL (fp : List Addr) (Z H : Hp) (p : Addr) (vs : List V) : Prop := Z p = some (.lst vs) ∨ (H p = some (.lst vs) ∧ p ∉ fp)
theorem RdL.st {fp : List Addr} {Z H Z' H' : Hp} {p : Addr} {vs : List V} (g : Step fp Z H Z' H') (h : RdL fp Z H p vs) : RdL fp Z' H' p vs := h.elim (fun e => .inl (g.z _ _ e)) fun e => .inr ⟨g.h _ _ e.2 e.1, e.2⟩
theorem RdL.get {fp : List Addr} {Z H : Hp} {p : Addr} {vs : List V} (s : Same Z H) (h : RdL fp Z H p vs) : H p = some (.lst vs) := h.elim (fun e => s _ _ e) fun e => e.1
def li {fp : List Addr} {α : Type} (τ : Ty α) (xs : List α) : Rr fp := ⟨fun Z H v => ∃ p vs, v = .ref p ∧ RdL fp Z H p vs ∧ All (τ.r Z) vs xs ∧ xs.length ≤ sizeLine,
  fun g ⟨p, vs, e, h, t, l⟩ => ⟨p, vs, e, h.st g, t.imp fun _ _ => τ.mono g.z, l⟩⟩
/-- an address, whatever stands there -/
def isRef {fp : List Addr} (a : Addr) : Rr fp := ⟨fun _ _ v => v = .ref a, fun _ h => h⟩
def ra0 {fp : List Addr} : Ra fp := ⟨fun _ _ vs => vs = [], fun _ h => h⟩
def rac {fp : List Addr} (R : Rr fp) (Rs : Ra fp) : Ra fp := ⟨fun Z H vs => ∃ v r, vs = v :: r ∧ R.r Z H v ∧ Rs.r Z H r, fun g ⟨v, r, e, h, t⟩ => ⟨v, r, e, R.st g h, Rs.st g t⟩⟩

section
variable {μ : Type}
/-- from the state s the expression gives a value of which R is true, and the state s' -/
def Ev (M : Mu μ) (t : TE) (σ : L2.St) (Z H : Hp) (s : μ) (R : Rr M.fp) (s' : μ) : Prop :=
  ∀ Z1 H1, Same Z Z1 → SameX M.fp H H1 → Same Z1 H1 → M.m s Z1 H1 → ∀ Q : VK, (∀ v Z2 H2, Step M.fp Z1 H1 Z2 H2 → M.m s' Z2 H2 → R.r Z2 H2 v → Q v H2) → t σ H1 Q
def EvT (M : Mu μ) (t : TT) (σ : L2.St) (Z H : Hp) (s : μ) (b : Bool) (s' : μ) : Prop :=
  ∀ Z1 H1, Same Z Z1 → SameX M.fp H H1 → Same Z1 H1 → M.m s Z1 H1 → ∀ Q : Bool → Hp → Prop, (∀ Z2 H2, Step M.fp Z1 H1 Z2 H2 → M.m s' Z2 H2 → Q b H2) → t σ H1 Q
def EvA (M : Mu μ) (t : TA) (σ : L2.St) (Z H : Hp) (s : μ) (Rs : Ra M.fp) (s' : μ) : Prop :=
  ∀ Z1 H1, Same Z Z1 → SameX M.fp H H1 → Same Z1 H1 → M.m s Z1 H1 → ∀ Q : List V → Hp → Prop, (∀ vs Z2 H2, Step M.fp Z1 H1 Z2 H2 → M.m s' Z2 H2 → Rs.r Z2 H2 vs → Q vs H2) → t σ H1 Q
variable {M : Mu μ} {σ : L2.St} {Z H : Hp} {s s' s1 s2 s3 : μ} {ta tb tc te : TE} {t : TA}
theorem Ev.up {t : TE} {R : Rr M.fp} {Z' H' : Hp} (h : Ev M t σ Z H s R s') (z : Same Z Z') (x : SameX M.fp H H') : Ev M t σ Z' H' s R s' := fun Z1 H1 a b => h Z1 H1 (z.trans a) (x.trans b)
theorem Ev.weak {t : TE} {R R' : Rr M.fp} (h : Ev M t σ Z H s R s') (f : ∀ Z H v, Same Z H → R.r Z H v → R'.r Z H v) : Ev M t σ Z H s R' s' := fun Z1 H1 a b c d Q q => h Z1 H1 a b c d Q fun v Z2 H2 e m r => q v Z2 H2 e m (f _ _ _ e.s r)
/-- nothing is done -/
theorem ev_of {t : TE} {R : Rr M.fp} (h : ∀ Z1 H1, Same Z Z1 → SameX M.fp H H1 → Same Z1 H1 → ∀ Q : VK, (∀ v, R.r Z1 H1 v → Q v H1) → t σ H1 Q) : Ev M t σ Z H s R s := fun Z1 H1 a b c d Q q => h Z1 H1 a b c Q fun v r => q v Z1 H1 (Step.refl c) d r
/-- one after the other, by values -/
theorem ev_op {R1 R3 R : Rr M.fp} {r : R2} (ha : Ev M ta σ Z H s R1 s1) (hb : Ev M tb σ Z H s1 R3 s2) (h : ∀ Z H v w, Same Z H → R1.r Z H v → R3.r Z H w → ∀ Q : VK, (∀ u Z2 H2, Step [] Z H Z2 H2 → R.r Z2 H2 u → Q u H2) → r v w H Q) : Ev M (tOp r ta tb) σ Z H s R s2 :=
  fun Z1 H1 a b c d Q q => ha Z1 H1 a b c d _ fun v Z2 H2 e m rv => hb Z2 H2 (a.trans e.z) (b.trans e.h) e.s m _ fun w Z3 H3 e2 m2 rw => h Z3 H3 v w e2.s (R1.st e2 rv) rw _ fun u Z4 H4 e3 ru => q u Z4 H4 ((e.trans e2).trans e3.pure) (M.pure e3 m2) ru
theorem ev_un {R1 R : Rr M.fp} {r : V → Hp → VK → Prop} (ha : Ev M ta σ Z H s R1 s1) (h : ∀ Z H v, Same Z H → R1.r Z H v → ∀ Q : VK, (∀ u Z2 H2, Step [] Z H Z2 H2 → R.r Z2 H2 u → Q u H2) → r v H Q) : Ev M (fun σ H Q => ta σ H fun x H1 => r x H1 Q) σ Z H s R s1 :=
  fun Z1 H1 a b c d Q q => ha Z1 H1 a b c d _ fun v Z2 H2 e m rv => h Z2 H2 v e.s rv _ fun u Z4 H4 e3 ru => q u Z4 H4 (e.trans e3.pure) (M.pure e3 m) ru
theorem eva_nil : EvA M tNil σ Z H s ra0 s := fun Z1 H1 _ _ c d Q q => q [] Z1 H1 (Step.refl c) d rfl
theorem eva_cons {R : Rr M.fp} {Rs : Ra M.fp} (ha : Ev M ta σ Z H s R s1) (hr : EvA M t σ Z H s1 Rs s2) : EvA M (tCons ta t) σ Z H s (rac R Rs) s2 :=
  fun Z1 H1 a b c d Q q => ha Z1 H1 a b c d _ fun v Z2 H2 e m rv => hr Z2 H2 (a.trans e.z) (b.trans e.h) e.s m _ fun vs Z3 H3 e2 m2 rs => q _ Z3 H3 (e.trans e2) m2 ⟨v, vs, rfl, R.st e2 rv, rs⟩
/-- by all arguments -/
theorem ev_cb {Rs : Ra M.fp} {R : Rr M.fp} {r : List V → Hp → VK → Prop} (ha : EvA M t σ Z H s Rs s1) (h : ∀ Z H vs, Same Z H → Rs.r Z H vs → ∀ Q : VK, (∀ u Z2 H2, Step [] Z H Z2 H2 → R.r Z2 H2 u → Q u H2) → r vs H Q) : Ev M (tCB r t) σ Z H s R s1 :=
  fun Z1 H1 a b c d Q q => ha Z1 H1 a b c d _ fun vs Z2 H2 e m rv => h Z2 H2 vs e.s rv _ fun u Z4 H4 e3 ru => q u Z4 H4 (e.trans e3.pure) (M.pure e3 m) ru
/-! names and constants -/
theorem ev_var {i : Nat} {v : V} {α : Type} {τ : Ty α} {x : α} (e : σ[i]? = some (some v)) (h : τ.r Z v x) : Ev M (tVar i) σ Z H s (ty τ x) s := ev_of fun _ _ a _ _ _ q => ⟨v, e, q v (τ.mono a h)⟩
/-- a list of one's own -/
theorem ev_own {i : Nat} {p : Addr} {vs : List V} {α : Type} {τ : Ty α} {xs : List α} (e : σ[i]? = some (some (.ref p))) (h : H p = some (.lst vs)) (n : p ∉ M.fp) (t : All (τ.r Z) vs xs) (l : xs.length ≤ sizeLine) : Ev M (tVar i) σ Z H s (li τ xs) s :=
  ev_of fun _ _ a b _ _ q => ⟨.ref p, e, q _ ⟨p, vs, rfl, .inr ⟨b _ _ n h, n⟩, t.imp fun _ _ => τ.mono a, l⟩⟩
theorem ev_ref {i : Nat} {p : Addr} (e : σ[i]? = some (some (.ref p))) : Ev M (tVar i) σ Z H s (isRef p) s := ev_of fun _ _ _ _ _ _ q => ⟨_, e, q _ rfl⟩
theorem ev_int {i : Int} : Ev M (tC (.int i)) σ Z H s (ty yInt i) s := ev_of fun _ _ _ _ _ _ q => q _ rfl
theorem ev_bl {i : Bool} : Ev M (tC (.bl i)) σ Z H s (ty yBool i) s := ev_of fun _ _ _ _ _ _ q => q _ rfl
theorem ev_str {i : Str} (h : okS i = true := by decide +kernel) : Ev M (tC (.str i)) σ Z H s (ty yStr i) s := ev_of fun _ _ _ _ _ _ q => q _ ⟨rfl, h⟩
theorem ev_non : Ev M (tC .non) σ Z H s (ty yNon ()) s := ev_of fun _ _ _ _ _ _ q => q _ rfl
theorem ev_const {v : V} {α : Type} {τ : Ty α} {x : α} (h : ∀ Z, τ.r Z v x) : Ev M (tC v) σ Z H s (ty τ x) s := ev_of fun _ _ _ _ _ _ q => q _ (h _)
theorem ev_li {α : Type} {τ : Ty α} {xs : List α} (h : Ev M ta σ Z H s (ty (yList τ) xs) s') : Ev M ta σ Z H s (li τ xs) s' := h.weak fun _ _ _ _ ⟨a, vs, e, g, t, l⟩ => ⟨a, vs, e, .inl g, t, l⟩
theorem ev_none {α : Type} {τ : Ty α} (h : Ev M ta σ Z H s (ty yNon ()) s') : Ev M ta σ Z H s (ty (yOpt τ) none) s' := h.weak fun _ _ _ _ e => e
/-- of this kind nothing is None -/
def NonNil {α : Type} (τ : Ty α) : Prop := ∀ Z v x, τ.r Z v x → v ≠ .non
theorem nn_int : NonNil yInt := fun _ _ _ e => by rw [show _ = V.int _ from e]; exact fun z => nomatch z
theorem nn_bool : NonNil yBool := fun _ _ _ e => by rw [show _ = V.bl _ from e]; exact fun z => nomatch z
theorem nn_str : NonNil yStr := fun _ _ _ e => by rw [show _ = V.str _ from e.1]; exact fun z => nomatch z
theorem nn_list {α : Type} {τ : Ty α} : NonNil (yList τ) := fun _ _ _ ⟨_, _, e, _⟩ => by rw [e]; exact fun z => nomatch z
theorem nn_tup {K : PySem.W.Frag} {α : Type} {τ : Ty α} : NonNil (yTup K τ) := fun _ _ _ ⟨_, _, e, _⟩ => by rw [e]; exact fun z => nomatch z
theorem nn_p2 {K : PySem.W.Frag} {α β : Type} {τ : Ty α} {υ : Ty β} : NonNil (yP2 K τ υ) := fun _ _ _ ⟨_, _, _, e, _⟩ => by rw [e]; exact fun z => nomatch z
theorem nn_p3 {K : PySem.W.Frag} {α β γ : Type} {τ : Ty α} {υ : Ty β} {φ : Ty γ} : NonNil (yP3 K τ υ φ) := fun _ _ _ ⟨_, _, _, _, e, _⟩ => by rw [e]; exact fun z => nomatch z
theorem nn_p4 {K : PySem.W.Frag} {α β γ δ : Type} {τ : Ty α} {υ : Ty β} {φ : Ty γ} {ψ : Ty δ} : NonNil (yP4 K τ υ φ ψ) := fun _ _ _ ⟨_, _, _, _, _, e, _⟩ => by rw [e]; exact fun z => nomatch z
theorem ev_some {α : Type} {τ : Ty α} {x : α} (n : NonNil τ) (h : Ev M ta σ Z H s (ty τ x) s') : Ev M ta σ Z H s (ty (yOpt τ) (some x)) s' := h.weak fun _ _ _ _ e => ⟨e, n _ _ _ e⟩
theorem ev_uno {α : Type} {τ : Ty α} {x : α} {o : Option α} (h : Ev M ta σ Z H s (ty (yOpt τ) o) s') (e : o = some x) : Ev M ta σ Z H s (ty τ x) s' := by
  subst e; exact h.weak fun _ _ _ _ e => e.1
theorem ev_cast {α : Type} {τ : Ty α} {x y : α} (h : Ev M ta σ Z H s (ty τ x) s') (e : x = y) : Ev M ta σ Z H s (ty τ y) s' := e ▸ h
/-! numbers -/
section
variable {i j : Int}
theorem ev_I0 {g : Int → Int → V} {R : Rr M.fp} (ha : Ev M ta σ Z H s (ty yInt i) s1) (hb : Ev M tb σ Z H s1 (ty yInt j) s2) (h : ∀ Z H, R.r Z H (g i j)) : Ev M (tOp (rI0 g) ta tb) σ Z H s R s2 :=
  ev_op ha hb fun _ _ _ _ sz e1 e2 _ q => ⟨i, j, e1, e2, q _ _ _ (Step.refl sz) (h _ _)⟩
theorem ev_I1 {C : Int → Int → Prop} {g : Int → Int → V} {R : Rr M.fp} (ha : Ev M ta σ Z H s (ty yInt i) s1) (hb : Ev M tb σ Z H s1 (ty yInt j) s2) (c : C i j) (h : ∀ Z H, R.r Z H (g i j)) : Ev M (tOp (rI C g) ta tb) σ Z H s R s2 :=
  ev_op ha hb fun _ _ _ _ sz e1 e2 _ q => ⟨i, j, e1, e2, c, q _ _ _ (Step.refl sz) (h _ _)⟩
theorem ev_add (ha : Ev M ta σ Z H s (ty yInt i) s1) (hb : Ev M tb σ Z H s1 (ty yInt j) s2) : Ev M (tOp (rI0 fun i j => .int (i + j)) ta tb) σ Z H s (ty yInt (i + j)) s2 := ev_I0 ha hb fun _ _ => rfl
theorem ev_sub (ha : Ev M ta σ Z H s (ty yInt i) s1) (hb : Ev M tb σ Z H s1 (ty yInt j) s2) : Ev M (tOp (rI0 fun i j => .int (i - j)) ta tb) σ Z H s (ty yInt (i - j)) s2 := ev_I0 ha hb fun _ _ => rfl
theorem ev_mul (ha : Ev M ta σ Z H s (ty yInt i) s1) (hb : Ev M tb σ Z H s1 (ty yInt j) s2) (c : CMul i j) : Ev M (tOp (rI CMul fun i j => .int (i * j)) ta tb) σ Z H s (ty yInt (i * j)) s2 := ev_I1 ha hb c fun _ _ => rfl
theorem ev_fdiv (ha : Ev M ta σ Z H s (ty yInt i) s1) (hb : Ev M tb σ Z H s1 (ty yInt j) s2) (c : CDiv i j) : Ev M (tOp (rI CDiv fun i j => .int (i / j)) ta tb) σ Z H s (ty yInt (i / j)) s2 := ev_I1 ha hb c fun _ _ => rfl
theorem ev_mod (ha : Ev M ta σ Z H s (ty yInt i) s1) (hb : Ev M tb σ Z H s1 (ty yInt j) s2) (c : 0 < j) : Ev M (tOp (rI (fun _ j => 0 < j) fun i j => .int (i % j)) ta tb) σ Z H s (ty yInt (i % j)) s2 := ev_I1 (C := fun _ j => 0 < j) ha hb c fun _ _ => rfl
theorem ev_pow (ha : Ev M ta σ Z H s (ty yInt i) s1) (hb : Ev M tb σ Z H s1 (ty yInt j) s2) (c : CPow i j) : Ev M (tOp (rI CPow fun i j => .int (i ^ j.toNat)) ta tb) σ Z H s (ty yInt (i ^ j.toNat)) s2 := ev_I1 ha hb c fun _ _ => rfl
theorem ev_tun {R1 R : Rr M.fp} {r : V → Hp → VK → Prop} (ha : Ev M ta σ Z H s R1 s1) (h : ∀ Z H v, Same Z H → R1.r Z H v → ∀ Q : VK, (∀ u Z2 H2, Step [] Z H Z2 H2 → R.r Z2 H2 u → Q u H2) → r v H Q) : Ev M (tUn r ta) σ Z H s R s1 :=
  fun Z1 H1 a b c d Q q => ha Z1 H1 a b c d _ fun v Z2 H2 e m rv => h Z2 H2 v e.s rv _ fun u Z4 H4 e3 ru => q u Z4 H4 (e.trans e3.pure) (M.pure e3 m) ru
theorem ev_neg (ha : Ev M ta σ Z H s (ty yInt i) s1) : Ev M (tUn (rU fun i => .int (-i)) ta) σ Z H s (ty yInt (-i)) s1 := ev_tun ha fun _ _ _ sz e _ q => ⟨i, e, q _ _ _ (Step.refl sz) rfl⟩
theorem ev_lt (ha : Ev M ta σ Z H s (ty yInt i) s1) (hb : Ev M tb σ Z H s1 (ty yInt j) s2) : Ev M (tOp (rI0 fun i j => .bl (decide (i < j))) ta tb) σ Z H s (ty yBool (decide (i < j))) s2 := ev_I0 ha hb fun _ _ => rfl
theorem ev_le (ha : Ev M ta σ Z H s (ty yInt i) s1) (hb : Ev M tb σ Z H s1 (ty yInt j) s2) : Ev M (tOp (rI0 fun i j => .bl (decide (i ≤ j))) ta tb) σ Z H s (ty yBool (decide (i ≤ j))) s2 := ev_I0 ha hb fun _ _ => rfl
theorem ev_gt (ha : Ev M ta σ Z H s (ty yInt i) s1) (hb : Ev M tb σ Z H s1 (ty yInt j) s2) : Ev M (tOp (rI0 fun i j => .bl (decide (j < i))) ta tb) σ Z H s (ty yBool (decide (j < i))) s2 := ev_I0 ha hb fun _ _ => rfl
theorem ev_ge (ha : Ev M ta σ Z H s (ty yInt i) s1) (hb : Ev M tb σ Z H s1 (ty yInt j) s2) : Ev M (tOp (rI0 fun i j => .bl (decide (j ≤ i))) ta tb) σ Z H s (ty yBool (decide (j ≤ i))) s2 := ev_I0 ha hb fun _ _ => rfl
end
/-! equality of flat things -/
/-- flat: the value is told by the thing alone -/
structure Flat {α : Type} (τ : Ty α) (f : α → V) : Prop where
  eq : ∀ Z v x, τ.r Z v x → v = f x
  inj : ∀ x y, f x = f y → x = y
  sc : ∀ x y, scal (f x) (f y) = true
theorem flat_int : Flat yInt V.int := ⟨fun _ _ _ h => h, fun _ _ h => V.int.inj h, fun _ _ => rfl⟩
theorem flat_str : Flat yStr V.str := ⟨fun _ _ _ h => h.1, fun _ _ h => V.str.inj h, fun _ _ => rfl⟩
theorem flat_bool : Flat yBool V.bl := ⟨fun _ _ _ h => h, fun _ _ h => V.bl.inj h, fun _ _ => rfl⟩
section
variable {α : Type} {τ : Ty α} {f : α → V} {x y : α}
theorem ev_eq [DecidableEq α] (F : Flat τ f) (ha : Ev M ta σ Z H s (ty τ x) s1) (hb : Ev M tb σ Z H s1 (ty τ y) s2) : Ev M (tOp rEq ta tb) σ Z H s (ty yBool (decide (x = y))) s2 :=
  ev_op ha hb fun Z H v w sz e1 e2 Q q => by
    rw [F.eq _ _ _ e1, F.eq _ _ _ e2]
    have : decide (f x = f y) = decide (x = y) := decide_eq_decide.mpr ⟨F.inj x y, congrArg f⟩
    exact ⟨F.sc _ _, q _ _ _ (Step.refl sz) (congrArg V.bl this)⟩
theorem ev_ne [DecidableEq α] (F : Flat τ f) (ha : Ev M ta σ Z H s (ty τ x) s1) (hb : Ev M tb σ Z H s1 (ty τ y) s2) : Ev M (tOp rNe ta tb) σ Z H s (ty yBool (!decide (x = y))) s2 :=
  ev_op ha hb fun Z H v w sz e1 e2 Q q => by
    rw [F.eq _ _ _ e1, F.eq _ _ _ e2]
    have : decide (f x = f y) = decide (x = y) := decide_eq_decide.mpr ⟨F.inj x y, congrArg f⟩
    exact ⟨F.sc _ _, q _ _ _ (Step.refl sz) (congrArg (fun b => V.bl (!b)) this)⟩
end
theorem ev_isN {α : Type} {τ : Ty α} {o : Option α} (ha : Ev M ta σ Z H s (ty (yOpt τ) o) s1) (hb : Ev M tb σ Z H s1 (ty yNon ()) s2) : Ev M (tOp (fun x y H Q => y = .non ∧ Q (.bl (decide (x = .non))) H) ta tb) σ Z H s (ty yBool o.isNone) s2 :=
  ev_op ha hb fun Z H v w sz e1 e2 Q q => by
    refine ⟨e2, q _ _ _ (Step.refl sz) ?_⟩
    cases o with
    | none => rw [show v = .non from e1]; rfl
    | some y => rw [show decide (v = .non) = false from decide_eq_false e1.2]; rfl
theorem ev_notN {α : Type} {τ : Ty α} {o : Option α} (ha : Ev M ta σ Z H s (ty (yOpt τ) o) s1) (hb : Ev M tb σ Z H s1 (ty yNon ()) s2) : Ev M (tOp (fun x y H Q => y = .non ∧ Q (.bl (!decide (x = .non))) H) ta tb) σ Z H s (ty yBool o.isSome) s2 :=
  ev_op ha hb fun Z H v w sz e1 e2 Q q => by
    refine ⟨e2, q _ _ _ (Step.refl sz) ?_⟩
    cases o with
    | none => rw [show v = .non from e1]; rfl
    | some y => rw [show decide (v = .non) = false from decide_eq_false e1.2]; rfl
/-! and, or, not, if, as values -/
theorem ev_and {a b : Bool} {o : Option (Bool × μ)} (ha : Ev M ta σ Z H s (ty yBool a) s1) (hb : a = true → ∀ y s', o = some (y, s') → Ev M tb σ Z H s1 (ty yBool y) s') (h : (if a = true then o else some (false, s1)) = some (b, s2)) : Ev M (tAndV ta tb) σ Z H s (ty yBool b) s2 :=
  fun Z1 H1 p q r d Q k => ha Z1 H1 p q r d _ fun v Z2 H2 e m rv => ⟨a, rv, by
    cases a with
    | true => rw [if_pos rfl] at h ⊢; exact hb rfl b s2 h Z2 H2 (p.trans e.z) (q.trans e.h) e.s m _ fun w Z3 H3 e2 m2 rw => k w Z3 H3 (e.trans e2) m2 rw
    | false => rw [if_neg Bool.false_ne_true] at h ⊢; cases h; exact k _ Z2 H2 e m rfl⟩
theorem ev_or {a b : Bool} {o : Option (Bool × μ)} (ha : Ev M ta σ Z H s (ty yBool a) s1) (hb : a = false → ∀ y s', o = some (y, s') → Ev M tb σ Z H s1 (ty yBool y) s') (h : (if a = true then some (true, s1) else o) = some (b, s2)) : Ev M (tOrV ta tb) σ Z H s (ty yBool b) s2 :=
  fun Z1 H1 p q r d Q k => ha Z1 H1 p q r d _ fun v Z2 H2 e m rv => ⟨a, rv, by
    cases a with
    | false => rw [if_neg Bool.false_ne_true] at h ⊢; exact hb rfl b s2 h Z2 H2 (p.trans e.z) (q.trans e.h) e.s m _ fun w Z3 H3 e2 m2 rw => k w Z3 H3 (e.trans e2) m2 rw
    | true => rw [if_pos rfl] at h ⊢; cases h; exact k _ Z2 H2 e m rfl⟩
theorem ev_and0 {a b : Bool} (ha : Ev M ta σ Z H s (ty yBool a) s1) (hb : Ev M tb σ Z H s1 (ty yBool b) s1) : Ev M (tAndV ta tb) σ Z H s (ty yBool (a && b)) s1 :=
  ev_and (o := some (b, s1)) ha (fun _ y s' e => by cases e; exact hb) (by cases a <;> rfl)
theorem ev_or0 {a b : Bool} (ha : Ev M ta σ Z H s (ty yBool a) s1) (hb : Ev M tb σ Z H s1 (ty yBool b) s1) : Ev M (tOrV ta tb) σ Z H s (ty yBool (a || b)) s1 :=
  ev_or (o := some (b, s1)) ha (fun _ y s' e => by cases e; exact hb) (by cases a <;> rfl)
theorem ev_not {a : Bool} (ha : Ev M ta σ Z H s (ty yBool a) s1) : Ev M (tNotV ta) σ Z H s (ty yBool (!a)) s1 :=
  fun Z1 H1 p q r d Q k => ha Z1 H1 p q r d _ fun v Z2 H2 e m rv => ⟨a, rv, k _ Z2 H2 e m rfl⟩
theorem ev_if {tt : TT} {a : Bool} {R : Rr M.fp} (ht : EvT M tt σ Z H s a s1) (ha : a = true → Ev M ta σ Z H s1 R s2) (hb : a = false → Ev M tb σ Z H s1 R s2) : Ev M (tIf tt ta tb) σ Z H s R s2 :=
  fun Z1 H1 p q r d Q k => ht Z1 H1 p q r d _ fun Z2 H2 e m => by
    cases a with
    | true => rw [if_pos rfl]; exact ha rfl Z2 H2 (p.trans e.z) (q.trans e.h) e.s m _ fun w Z3 H3 e2 m2 rw => k w Z3 H3 (e.trans e2) m2 rw
    | false => rw [if_neg Bool.false_ne_true]; exact hb rfl Z2 H2 (p.trans e.z) (q.trans e.h) e.s m _ fun w Z3 H3 e2 m2 rw => k w Z3 H3 (e.trans e2) m2 rw
theorem ev_if0 {tt : TT} {a : Bool} {α : Type} {τ : Ty α} {x y : α} (ht : EvT M tt σ Z H s a s1) (ha : Ev M ta σ Z H s1 (ty τ x) s1) (hb : Ev M tb σ Z H s1 (ty τ y) s1) : Ev M (tIf tt ta tb) σ Z H s (ty τ (if a = true then x else y)) s1 :=
  ev_if ht (fun e => by rw [if_pos e]; exact ha) (fun e => by rw [if_neg (by rw [e]; exact Bool.false_ne_true)]; exact hb)
/-! tests -/
theorem et_val {a : Bool} (h : Ev M te σ Z H s (ty yBool a) s1) : EvT M (tB te) σ Z H s a s1 := fun Z1 H1 p q r d _ k => h Z1 H1 p q r d _ fun _ Z2 H2 e m rv => ⟨a, rv, k Z2 H2 e m⟩
theorem et_cmp {a : Bool} (h : Ev M te σ Z H s (ty yBool a) s1) : EvT M (tTest te) σ Z H s a s1 := fun Z1 H1 p q r d _ k => h Z1 H1 p q r d _ fun _ Z2 H2 e m rv => ⟨a, rv, k Z2 H2 e m⟩
section
variable {tA tB' : TT} {a b : Bool}
theorem et_and {o : Option (Bool × μ)} (ha : EvT M tA σ Z H s a s1) (hb : a = true → ∀ y s', o = some (y, s') → EvT M tB' σ Z H s1 y s') (h : (if a = true then o else some (false, s1)) = some (b, s2)) : EvT M (tAnd tA tB') σ Z H s b s2 :=
  fun Z1 H1 p q r d Q k => ha Z1 H1 p q r d _ fun Z2 H2 e m => by
    cases a with
    | true => rw [if_pos rfl] at h ⊢; exact hb rfl b s2 h Z2 H2 (p.trans e.z) (q.trans e.h) e.s m _ fun Z3 H3 e2 m2 => k Z3 H3 (e.trans e2) m2
    | false => rw [if_neg Bool.false_ne_true] at h ⊢; cases h; exact k Z2 H2 e m
theorem et_or {o : Option (Bool × μ)} (ha : EvT M tA σ Z H s a s1) (hb : a = false → ∀ y s', o = some (y, s') → EvT M tB' σ Z H s1 y s') (h : (if a = true then some (true, s1) else o) = some (b, s2)) : EvT M (tOr tA tB') σ Z H s b s2 :=
  fun Z1 H1 p q r d Q k => ha Z1 H1 p q r d _ fun Z2 H2 e m => by
    cases a with
    | false => rw [if_neg Bool.false_ne_true] at h ⊢; exact hb rfl b s2 h Z2 H2 (p.trans e.z) (q.trans e.h) e.s m _ fun Z3 H3 e2 m2 => k Z3 H3 (e.trans e2) m2
    | true => rw [if_pos rfl] at h ⊢; cases h; exact k Z2 H2 e m
theorem et_and0 (ha : EvT M tA σ Z H s a s1) (hb : EvT M tB' σ Z H s1 b s1) : EvT M (tAnd tA tB') σ Z H s (a && b) s1 := et_and (o := some (b, s1)) ha (fun _ y s' e => by cases e; exact hb) (by cases a <;> rfl)
theorem et_or0 (ha : EvT M tA σ Z H s a s1) (hb : EvT M tB' σ Z H s1 b s1) : EvT M (tOr tA tB') σ Z H s (a || b) s1 := et_or (o := some (b, s1)) ha (fun _ y s' e => by cases e; exact hb) (by cases a <;> rfl)
theorem et_not (ha : EvT M tA σ Z H s a s1) : EvT M (tNot tA) σ Z H s (!a) s1 := fun Z1 H1 p q r d _ k => ha Z1 H1 p q r d _ k
end
end
end TP

namespace TP
open PySem PySem.Spec PyProof.Rows L2
instance {i j : Int} : Decidable (CMul i j) := inferInstanceAs (Decidable ((_ ∧ _) ∨ (_ ∧ _)))
instance {i j : Int} : Decidable (CDiv i j) := inferInstanceAs (Decidable (_ ∧ _))
instance {i j : Int} : Decidable (CPow i j) := inferInstanceAs (Decidable (_ ∧ _ ∧ _))
section
variable {μ : Type} {M : Mu μ} {σ : L2.St} {Z H : Hp} {s s' s1 s2 s3 : μ} {ta tb tc te : TE} {t : TA} {K : PySem.W.Frag}
theorem same_x {S : List Addr} {Z H Z1 H1 : Hp} (g : Step S Z H Z1 H1) {p : Addr} (h : H1 p = none) : H p = none := by
  cases q : H p with
  | none => rfl
  | some o => exact absurd h (g.al p (some_ne q))
theorem fresh_fp {fp : List Addr} {Z H : Hp} {p : Addr} {o : HO} (sz : Same Z H) (hp : H p = none) : Step fp Z H (upd Z p o) (upd H p o) := (Step.new sz hp).pure
/-! ### texts -/
theorem okS_app {x y : Str} (hx : okS x = true) (hy : okS y = true) (l : x.length + y.length ≤ sizeLine) : okS (x ++ y) = true := by
  unfold okS PyData.strOk at *
  rw [Bool.and_eq_true] at hx hy ⊢
  refine ⟨?_, ?_⟩
  · have e : (x ++ y).cps = x.cps ++ y.cps := rfl
    rw [e, Array.all_append, hx.1, hy.1]; rfl
  · refine decide_eq_true ?_
    have e : (x ++ y).length = x.length + y.length := by
      show (x.cps ++ y.cps).size = _
      rw [Array.size_append]; rfl
    omega
theorem ev_cat_str {x y : Str} (ha : Ev M ta σ Z H s (ty yStr x) s1) (hb : Ev M tb σ Z H s1 (ty yStr y) s2) (l : x.length + y.length ≤ sizeLine) : Ev M (tOp (fun x y H Q => ∃ i j, x = .str i ∧ y = .str j ∧ i.length + j.length ≤ sizeLine ∧ Q (.str (i ++ j)) H) ta tb) σ Z H s (ty yStr (x ++ y)) s2 :=
  ev_op ha hb fun _ _ _ _ sz e1 e2 _ q => ⟨x, y, e1.1, e2.1, l, q _ _ _ (Step.refl sz) ⟨rfl, okS_app e1.2 e2.2 l⟩⟩
theorem ev_lt_str {x y : Str} (ha : Ev M ta σ Z H s (ty yStr x) s1) (hb : Ev M tb σ Z H s1 (ty yStr y) s2) : Ev M (tOp (fun x y H Q => ∃ i j, x = .str i ∧ y = .str j ∧ Q (.bl (decide (i.cps.toList < j.cps.toList))) H) ta tb) σ Z H s (ty yBool (decide (x.cps.toList < y.cps.toList))) s2 :=
  ev_op ha hb fun _ _ _ _ sz e1 e2 _ q => ⟨x, y, e1.1, e2.1, q _ _ _ (Step.refl sz) rfl⟩
theorem ev_len_str {x : Str} (ha : Ev M ta σ Z H s (ty yStr x) s1) : Ev M (tCB (fun xs H Q => ∃ z, xs = [.str z] ∧ z.length ≤ sizeLine ∧ Q (.int z.length) H) (tCons ta tNil)) σ Z H s (ty yInt (x.length : Nat)) s1 :=
  ev_cb (eva_cons ha eva_nil) fun _ _ vs sz ⟨v, r, e, h, e2⟩ Q q => ⟨x, by rw [e, h.1, show r = [] from e2], of_decide_eq_true (Bool.and_eq_true_iff.mp (show (PyData.strOk x && decide (x.length ≤ sizeLine)) = true from h.2)).2, q _ _ _ (Step.refl sz) rfl⟩
/-! ### lists and tuples that are made -/
theorem ev_tup {Rs : Ra M.fp} {R : Rr M.fp} (ha : EvA M t σ Z H s Rs s1) (h : ∀ Z H vs, Same Z H → Rs.r Z H vs → vs.length ≤ sizeLine ∧ ∀ p, H p = none → R.r (upd Z p (.tup vs)) (upd H p (.tup vs)) (.ref p)) : Ev M (tTup t) σ Z H s R s1 :=
  fun Z1 H1 a b c d Q q => ha Z1 H1 a b c d _ fun vs Z2 H2 e m rv => by
    obtain ⟨l, hr⟩ := h Z2 H2 vs e.s rv
    exact ⟨l, fun p hp => q _ _ _ (e.trans (fresh_fp e.s hp)) (M.pure (Step.new e.s hp) m) (hr p hp)⟩
theorem ev_lst {Rs : Ra M.fp} {R : Rr M.fp} (ha : EvA M t σ Z H s Rs s1) (h : ∀ Z H vs, Same Z H → Rs.r Z H vs → vs.length ≤ sizeLine ∧ ∀ p, H p = none → R.r (upd Z p (.lst vs)) (upd H p (.lst vs)) (.ref p)) : Ev M (tLst t) σ Z H s R s1 :=
  fun Z1 H1 a b c d Q q => ha Z1 H1 a b c d _ fun vs Z2 H2 e m rv => by
    obtain ⟨l, hr⟩ := h Z2 H2 vs e.s rv
    exact ⟨l, fun p hp => q _ _ _ (e.trans (fresh_fp e.s hp)) (M.pure (Step.new e.s hp) m) (hr p hp)⟩
theorem sqT_new {Z : Hp} {p : Addr} {vs : List V} : SqT K (upd Z p (.tup vs)) p vs := .inl (.inl upd_same)
section
variable {α β γ δ : Type} {τ : Ty α} {υ : Ty β} {φ : Ty γ} {ψ : Ty δ} {x : α} {y : β} {z : γ} {u : δ}
theorem ev_p0 : Ev M (tTup tNil) σ Z H s (ty (yP0 K) ()) s := ev_tup eva_nil fun _ _ vs _ e => ⟨by rw [show vs = [] from e]; exact Nat.zero_le _, fun p _ => ⟨p, rfl, by rw [show vs = [] from e]; exact sqT_new⟩⟩
theorem ev_p1 (ha : EvA M t σ Z H s (rac (ty τ x) ra0) s1) : Ev M (tTup t) σ Z H s (ty (yP1 K τ) x) s1 :=
  ev_tup ha fun Z H vs sz ⟨v1, r1, e1, h1, e2⟩ => by
    cases e2; cases e1
    exact ⟨by show 1 ≤ sizeLine; decide, fun p hp => ⟨p, v1, rfl, sqT_new, τ.mono (same_upd (same_none sz hp)) h1⟩⟩
theorem ev_p2 (ha : EvA M t σ Z H s (rac (ty τ x) (rac (ty υ y) ra0)) s1) : Ev M (tTup t) σ Z H s (ty (yP2 K τ υ) (x, y)) s1 :=
  ev_tup ha fun Z H vs sz ⟨v1, r1, e1, h1, v2, r2, e2, h2, e3⟩ => by
    cases e3; cases e2; cases e1
    exact ⟨by show 2 ≤ sizeLine; decide, fun p hp => have q := same_upd (same_none sz hp); ⟨p, v1, v2, rfl, sqT_new, τ.mono q h1, υ.mono q h2⟩⟩
theorem ev_p3 (ha : EvA M t σ Z H s (rac (ty τ x) (rac (ty υ y) (rac (ty φ z) ra0))) s1) : Ev M (tTup t) σ Z H s (ty (yP3 K τ υ φ) (x, y, z)) s1 :=
  ev_tup ha fun Z H vs sz ⟨v1, r1, e1, h1, v2, r2, e2, h2, v3, r3, e3, h3, e4⟩ => by
    cases e4; cases e3; cases e2; cases e1
    exact ⟨by show 3 ≤ sizeLine; decide, fun p hp => have q := same_upd (same_none sz hp); ⟨p, v1, v2, v3, rfl, sqT_new, τ.mono q h1, υ.mono q h2, φ.mono q h3⟩⟩
theorem ev_p4 (ha : EvA M t σ Z H s (rac (ty τ x) (rac (ty υ y) (rac (ty φ z) (rac (ty ψ u) ra0)))) s1) : Ev M (tTup t) σ Z H s (ty (yP4 K τ υ φ ψ) (x, y, z, u)) s1 :=
  ev_tup ha fun Z H vs sz ⟨v1, r1, e1, h1, v2, r2, e2, h2, v3, r3, e3, h3, v4, r4, e4, h4, e5⟩ => by
    cases e5; cases e4; cases e3; cases e2; cases e1
    exact ⟨by show 4 ≤ sizeLine; decide, fun p hp => have q := same_upd (same_none sz hp); ⟨p, v1, v2, v3, v4, rfl, sqT_new, τ.mono q h1, υ.mono q h2, φ.mono q h3, ψ.mono q h4⟩⟩
/-- arguments all of one kind -/
def ras {fp : List Addr} (τ : Ty α) (xs : List α) : Ra fp := ⟨fun Z _ vs => All (τ.r Z) vs xs, fun g h => h.imp fun _ _ => τ.mono g.z⟩
theorem eva_nils : EvA M tNil σ Z H s (ras τ []) s := fun Z1 H1 _ _ c d Q q => q [] Z1 H1 (Step.refl c) d .nil
theorem eva_conss {xs : List α} (ha : Ev M ta σ Z H s (ty τ x) s1) (hr : EvA M t σ Z H s1 (ras τ xs) s2) : EvA M (tCons ta t) σ Z H s (ras τ (x :: xs)) s2 :=
  fun Z1 H1 a b c d Q q => ha Z1 H1 a b c d _ fun v Z2 H2 e m rv => hr Z2 H2 (a.trans e.z) (b.trans e.h) e.s m _ fun vs Z3 H3 e2 m2 rs => q _ Z3 H3 (e.trans e2) m2 (.cons (τ.mono e2.z rv) rs)
/-- a new list of one's own -/
def EvN {α : Type} (M : Mu μ) (t : TE) (σ : L2.St) (Z H : Hp) (s : μ) (τ : Ty α) (xs : List α) (s' : μ) : Prop :=
  ∀ Z1 H1, Same Z Z1 → SameX M.fp H H1 → Same Z1 H1 → M.m s Z1 H1 → ∀ Q : VK, (∀ p vs Z2 H2, Step M.fp Z1 H1 Z2 H2 → M.m s' Z2 H2 → H1 p = none → Z2 p = none → H2 p = some (.lst vs) → All (τ.r Z2) vs xs → xs.length ≤ sizeLine → Q (.ref p) H2) → t σ H1 Q
theorem Step.fz {S : List Addr} {Z H Z1 H1 : Hp} {x : Addr} {o : HO} (g : Step S Z H Z1 H1) (hx : H x = none) (h1 : H1 x = some o) (hz : Z1 x = none) : Step S Z H (upd Z1 x o) H1 := by
  refine ⟨g.z.trans (same_upd hz), fun a u e => ?_, g.h, fun a h z => ?_, g.al⟩
  · by_cases q : a = x
    · subst q; rw [upd_same] at e; rw [← Option.some.inj e]; exact h1
    · rw [upd_ne q] at e; exact g.s a u e
  · rw [upd_ne (ne_of_some h hx)]; exact g.n a h z
theorem Mu.fz {M : Mu μ} {s : μ} {Z H : Hp} {x : Addr} {o : HO} (m : M.m s Z H) (hz : Z x = none) (nx : x ∉ M.fp) : M.m s (upd Z x o) H := by
  refine M.loc (same_upd hz) (fun _ _ _ x => x) (fun a ha _ z => ?_) m
  rw [upd_ne (fun q => nx (by rw [← q]; exact ha))]
  exact z
theorem ev_fz {α : Type} {τ : Ty α} {xs : List α} (h : EvN M ta σ Z H s τ xs s1) : Ev M ta σ Z H s (ty (yList τ) xs) s1 :=
  fun Z1 H1 a b c d Q q => h Z1 H1 a b c d Q fun p vs Z2 H2 e m hp zp h2 t l =>
    q _ _ _ (e.fz hp h2 zp) (Mu.fz m zp (fun hf => (M.al d p hf).1 hp)) ⟨p, vs, rfl, upd_same, t.imp fun _ _ => τ.mono (same_upd zp), l⟩
theorem en_op {α : Type} {τ : Ty α} {xs : List α} {R1 R3 : Rr M.fp} {r : R2} (ha : Ev M ta σ Z H s R1 s1) (hb : Ev M tb σ Z H s1 R3 s2) (h : ∀ Z H v w, Same Z H → R1.r Z H v → R3.r Z H w → ∃ vs, All (τ.r Z) vs xs ∧ xs.length ≤ sizeLine ∧ ∀ Q : VK, (∀ p, H p = none → Q (.ref p) (upd H p (.lst vs))) → r v w H Q) : EvN M (tOp r ta tb) σ Z H s τ xs s2 :=
  fun Z1 H1 a b c d Q q => ha Z1 H1 a b c d _ fun v Z2 H2 e m rv => hb Z2 H2 (a.trans e.z) (b.trans e.h) e.s m _ fun w Z3 H3 e2 m2 rw => by
    obtain ⟨vs, t, l, k⟩ := h Z3 H3 v w e2.s (R1.st e2 rv) rw
    refine k _ fun p hp => ?_
    have e3 := Step.own (o := .lst vs) e2.s hp
    exact q p vs Z3 _ ((e.trans e2).trans e3.pure) (M.pure e3 m2) (same_x (e.trans e2) hp) (same_none e2.s hp) upd_same t l
theorem en_cb {α : Type} {τ : Ty α} {xs : List α} {Rs : Ra M.fp} {r : List V → Hp → VK → Prop} (ha : EvA M t σ Z H s Rs s1) (h : ∀ Z H vs, Same Z H → Rs.r Z H vs → ∃ ws, All (τ.r Z) ws xs ∧ xs.length ≤ sizeLine ∧ ∀ Q : VK, (∀ p, H p = none → Q (.ref p) (upd H p (.lst ws))) → r vs H Q) : EvN M (tCB r t) σ Z H s τ xs s1 :=
  fun Z1 H1 a b c d Q q => ha Z1 H1 a b c d _ fun v Z2 H2 e m rv => by
    obtain ⟨vs, t, l, k⟩ := h Z2 H2 v e.s rv
    refine k _ fun p hp => ?_
    have e3 := Step.own (o := .lst vs) e.s hp
    exact q p vs Z2 _ (e.trans e3.pure) (M.pure e3 m) (same_x e hp) (same_none e.s hp) upd_same t l
theorem en_listD {xs : List α} (ha : EvA M t σ Z H s (ras τ xs) s1) (l : xs.length ≤ sizeLine) : EvN M (tLst t) σ Z H s τ xs s1 :=
  fun Z1 H1 a b c d Q q => ha Z1 H1 a b c d _ fun vs Z2 H2 e m rv => ⟨by rw [All.len rv]; exact l, fun p hp => by
    have e3 := Step.own (o := .lst vs) e.s hp
    exact q p vs Z2 _ (e.trans e3.pure) (M.pure e3 m) (same_x e hp) (same_none e.s hp) upd_same rv l⟩
theorem ev_tupD {xs : List α} (ha : EvA M t σ Z H s (ras τ xs) s1) (l : xs.length ≤ sizeLine) : Ev M (tTup t) σ Z H s (ty (yTup K τ) xs) s1 :=
  ev_tup ha fun Z H vs sz h => ⟨by rw [h.len]; exact l, fun p hp => ⟨p, vs, rfl, sqT_new, h.imp fun _ _ => τ.mono (same_upd (same_none sz hp)), l⟩⟩
/-! ### lists and tuples that are read -/
variable {xs ys : List α}
theorem rdl {fp : List Addr} {Z H : Hp} {v : V} (sz : Same Z H) (h : (li (fp := fp) τ xs).r Z H v) : ∃ p vs, v = .ref p ∧ H p = some (.lst vs) ∧ All (τ.r Z) vs xs ∧ xs.length ≤ sizeLine := by
  obtain ⟨p, vs, e, g, t, l⟩ := h
  exact ⟨p, vs, e, g.get sz, t, l⟩
theorem ev_ixL {i : Int} (ha : Ev M ta σ Z H s (li τ xs) s1) (hb : Ev M tb σ Z H s1 (ty yInt i) s2) (e : atI xs i = some x) : Ev M (tOp (rIxL K) ta tb) σ Z H s (ty τ x) s2 :=
  ev_op ha hb fun _ _ _ _ sz e1 e2 _ q => by
    obtain ⟨p, vs, rfl, g, t, _⟩ := rdl sz e1
    obtain ⟨w, hw, rw'⟩ := t.atI e
    exact ⟨p, vs, i, w, rfl, e2, SqL.of g, hw, q _ _ _ (Step.refl sz) rw'⟩
theorem ev_ixT {i : Int} (ha : Ev M ta σ Z H s (ty (yTup K τ) xs) s1) (hb : Ev M tb σ Z H s1 (ty yInt i) s2) (e : atI xs i = some x) : Ev M (tOp (rIxT K) ta tb) σ Z H s (ty τ x) s2 :=
  ev_op ha hb fun _ _ _ _ sz e1 e2 _ q => by
    obtain ⟨p, vs, rfl, g, t, _⟩ := e1
    obtain ⟨w, hw, rw'⟩ := t.atI e
    exact ⟨p, vs, i, w, rfl, e2, seqT_same sz g, hw, q _ _ _ (Step.refl sz) rw'⟩
/-- a part of a tuple by its written place -/
def PartOf {α' β' : Type} (K : PySem.W.Frag) (τ : Ty α') (i : Int) (τ' : Ty β') (f : α' → β') : Prop := ∀ Z v x, τ.r Z v x → ∃ a vs w, v = .ref a ∧ SqT K Z a vs ∧ atI vs i = some w ∧ τ'.r Z w (f x)
theorem po1_0 : PartOf K (yP1 K τ) 0 τ id := fun _ _ _ ⟨a, v1, e, h, h1⟩ => ⟨a, _, v1, e, h, rfl, h1⟩
theorem po2_0 : PartOf K (yP2 K τ υ) 0 τ Prod.fst := fun _ _ _ ⟨a, v1, v2, e, h, h1, _⟩ => ⟨a, _, v1, e, h, rfl, h1⟩
theorem po2_1 : PartOf K (yP2 K τ υ) 1 υ Prod.snd := fun _ _ _ ⟨a, v1, v2, e, h, _, h1⟩ => ⟨a, _, v2, e, h, rfl, h1⟩
theorem po3_0 : PartOf K (yP3 K τ υ φ) 0 τ (fun x => x.1) := fun _ _ _ ⟨a, v1, v2, v3, e, h, h1, _⟩ => ⟨a, _, v1, e, h, rfl, h1⟩
theorem po3_1 : PartOf K (yP3 K τ υ φ) 1 υ (fun x => x.2.1) := fun _ _ _ ⟨a, v1, v2, v3, e, h, _, h1, _⟩ => ⟨a, _, v2, e, h, rfl, h1⟩
theorem po3_2 : PartOf K (yP3 K τ υ φ) 2 φ (fun x => x.2.2) := fun _ _ _ ⟨a, v1, v2, v3, e, h, _, _, h1⟩ => ⟨a, _, v3, e, h, rfl, h1⟩
theorem po4_0 : PartOf K (yP4 K τ υ φ ψ) 0 τ (fun x => x.1) := fun _ _ _ ⟨a, v1, v2, v3, v4, e, h, h1, _⟩ => ⟨a, _, v1, e, h, rfl, h1⟩
theorem po4_1 : PartOf K (yP4 K τ υ φ ψ) 1 υ (fun x => x.2.1) := fun _ _ _ ⟨a, v1, v2, v3, v4, e, h, _, h1, _⟩ => ⟨a, _, v2, e, h, rfl, h1⟩
theorem po4_2 : PartOf K (yP4 K τ υ φ ψ) 2 φ (fun x => x.2.2.1) := fun _ _ _ ⟨a, v1, v2, v3, v4, e, h, _, _, h1, _⟩ => ⟨a, _, v3, e, h, rfl, h1⟩
theorem po4_3 : PartOf K (yP4 K τ υ φ ψ) 3 ψ (fun x => x.2.2.2) := fun _ _ _ ⟨a, v1, v2, v3, v4, e, h, _, _, _, h1⟩ => ⟨a, _, v4, e, h, rfl, h1⟩
theorem ev_part {i : Int} {f : α → β} (P : PartOf K τ i υ f) (ha : Ev M ta σ Z H s (ty τ x) s1) (hb : Ev M tb σ Z H s1 (ty yInt i) s2) : Ev M (tOp (rIxT K) ta tb) σ Z H s (ty υ (f x)) s2 :=
  ev_op ha hb fun _ _ _ _ sz e1 e2 _ q => by
    obtain ⟨p, vs, w, rfl, g, hw, rw'⟩ := P _ _ _ e1
    exact ⟨p, vs, i, w, rfl, e2, seqT_same sz g, hw, q _ _ _ (Step.refl sz) rw'⟩
theorem ev_len {r : List V → Hp → VK → Prop} (hr : ∀ xs H Q, (∃ p ys, xs = [.ref p] ∧ (SqL K H p ys ∨ SqT K H p ys) ∧ Q (.int ys.length) H) → r xs H Q) (ha : Ev M ta σ Z H s (li τ xs) s1) : Ev M (tCB r (tCons ta tNil)) σ Z H s (ty yInt (xs.length : Nat)) s1 :=
  ev_cb (eva_cons ha eva_nil) fun _ _ _ sz ⟨v, r, e, h, e2⟩ _ q => by
    cases e2; cases e
    obtain ⟨p, vs, rfl, g, t, _⟩ := rdl sz h
    exact hr _ _ _ ⟨p, vs, rfl, .inl (SqL.of g), by rw [t.len]; exact q _ _ _ (Step.refl sz) rfl⟩
theorem ev_lenT {r : List V → Hp → VK → Prop} (hr : ∀ xs H Q, (∃ p ys, xs = [.ref p] ∧ (SqL K H p ys ∨ SqT K H p ys) ∧ Q (.int ys.length) H) → r xs H Q) (ha : Ev M ta σ Z H s (ty (yTup K τ) xs) s1) : Ev M (tCB r (tCons ta tNil)) σ Z H s (ty yInt (xs.length : Nat)) s1 :=
  ev_cb (eva_cons ha eva_nil) fun _ _ _ sz ⟨v, r, e, h, e2⟩ _ q => by
    cases e2; cases e
    obtain ⟨p, vs, rfl, g, t, _⟩ := h
    exact hr _ _ _ ⟨p, vs, rfl, .inr (seqT_same sz g), by rw [t.len]; exact q _ _ _ (Step.refl sz) rfl⟩
theorem en_list_of {r : List V → Hp → VK → Prop} (hr : ∀ xs H Q, (∃ p ys, xs = [.ref p] ∧ (SqL K H p ys ∨ SqT K H p ys) ∧ ∀ l, H l = none → Q (.ref l) (upd H l (.lst ys))) → r xs H Q) (ha : Ev M ta σ Z H s (li τ xs) s1) : EvN M (tCB r (tCons ta tNil)) σ Z H s τ xs s1 :=
  en_cb (eva_cons ha eva_nil) fun _ _ _ sz ⟨v, r, e, h, e2⟩ => by
    cases e2; cases e
    obtain ⟨p, vs, rfl, g, t, l⟩ := rdl sz h
    exact ⟨vs, t, l, fun Q q => hr _ _ _ ⟨p, vs, rfl, .inl (SqL.of g), q⟩⟩
theorem en_list_ofT {r : List V → Hp → VK → Prop} (hr : ∀ xs H Q, (∃ p ys, xs = [.ref p] ∧ (SqL K H p ys ∨ SqT K H p ys) ∧ ∀ l, H l = none → Q (.ref l) (upd H l (.lst ys))) → r xs H Q) (ha : Ev M ta σ Z H s (ty (yTup K τ) xs) s1) : EvN M (tCB r (tCons ta tNil)) σ Z H s τ xs s1 :=
  en_cb (eva_cons ha eva_nil) fun _ _ _ sz ⟨v, r, e, h, e2⟩ => by
    cases e2; cases e
    obtain ⟨p, vs, rfl, g, t, l⟩ := h
    exact ⟨vs, t, l, fun Q q => hr _ _ _ ⟨p, vs, rfl, .inr (seqT_same sz g), q⟩⟩
theorem ev_tuple_of {r : List V → Hp → VK → Prop} (hr : ∀ xs H Q, (∃ p ys, xs = [.ref p] ∧ ((SqL K H p ys ∧ ∀ l, H l = none → Q (.ref l) (upd H l (.tup ys))) ∨ (SqT K H p ys ∧ Q (.ref p) H))) → r xs H Q) (ha : Ev M ta σ Z H s (li τ xs) s1) : Ev M (tCB r (tCons ta tNil)) σ Z H s (ty (yTup K τ) xs) s1 :=
  ev_cb (eva_cons ha eva_nil) fun _ _ _ sz ⟨v, r, e, h, e2⟩ _ q => by
    cases e2; cases e
    obtain ⟨p, vs, rfl, g, t, l⟩ := rdl sz h
    exact hr _ _ _ ⟨p, vs, rfl, .inl ⟨SqL.of g, fun d hd => q _ _ _ (Step.new sz hd) ⟨d, vs, rfl, sqT_new, t.imp fun _ _ => τ.mono (same_upd (same_none sz hd)), l⟩⟩⟩
theorem ev_tuple_ofT {r : List V → Hp → VK → Prop} (hr : ∀ xs H Q, (∃ p ys, xs = [.ref p] ∧ ((SqL K H p ys ∧ ∀ l, H l = none → Q (.ref l) (upd H l (.tup ys))) ∨ (SqT K H p ys ∧ Q (.ref p) H))) → r xs H Q) (ha : Ev M ta σ Z H s (ty (yTup K τ) xs) s1) : Ev M (tCB r (tCons ta tNil)) σ Z H s (ty (yTup K τ) xs) s1 :=
  ev_cb (eva_cons ha eva_nil) fun _ _ _ sz ⟨v, r, e, h, e2⟩ _ q => by
    cases e2; cases e
    obtain ⟨p, vs, rfl, g, t, l⟩ := h
    exact hr _ _ _ ⟨p, vs, rfl, .inr ⟨seqT_same sz g, q _ _ _ (Step.refl sz) ⟨p, vs, rfl, g, t, l⟩⟩⟩
/-- a pair, as a tuple of a pair: itself -/
theorem ev_tuple_id {r : List V → Hp → VK → Prop} (hr : ∀ xs H Q, (∃ p ys, xs = [.ref p] ∧ ((SqL K H p ys ∧ ∀ l, H l = none → Q (.ref l) (upd H l (.tup ys))) ∨ (SqT K H p ys ∧ Q (.ref p) H))) → r xs H Q) (hτ : ∀ Z v x, τ.r Z v x → ∃ p ys, v = .ref p ∧ SqT K Z p ys) (ha : Ev M ta σ Z H s (ty τ x) s1) : Ev M (tCB r (tCons ta tNil)) σ Z H s (ty τ x) s1 :=
  ev_cb (eva_cons ha eva_nil) fun _ _ _ sz ⟨v, r, e, h, e2⟩ _ q => by
    cases e2; cases e
    obtain ⟨p, vs, rfl, g⟩ := hτ _ _ _ h
    exact hr _ _ _ ⟨p, vs, rfl, .inr ⟨seqT_same sz g, q _ _ _ (Step.refl sz) h⟩⟩
theorem it_p2 : ∀ Z v x, (yP2 K τ υ).r Z v x → ∃ p ys, v = .ref p ∧ SqT K Z p ys := fun _ _ _ ⟨a, _, _, e, h, _⟩ => ⟨a, _, e, h⟩
theorem it_p3 : ∀ Z v x, (yP3 K τ υ φ).r Z v x → ∃ p ys, v = .ref p ∧ SqT K Z p ys := fun _ _ _ ⟨a, _, _, _, e, h, _⟩ => ⟨a, _, e, h⟩
theorem en_cat (ha : Ev M ta σ Z H s (li τ xs) s1) (hb : Ev M tb σ Z H s1 (li τ ys) s2) (l : xs.length + ys.length ≤ sizeLine) : EvN M (tOp rCat ta tb) σ Z H s τ (xs ++ ys) s2 :=
  en_op ha hb fun _ _ _ _ sz e1 e2 => by
    obtain ⟨p, vs, rfl, g, t, _⟩ := rdl sz e1
    obtain ⟨p2, ws, rfl, g2, t2, _⟩ := rdl sz e2
    exact ⟨vs ++ ws, t.app t2, by rw [List.length_append]; exact l, fun Q q => ⟨p, p2, vs, ws, rfl, rfl, g, g2, by rw [t.len, t2.len]; exact l, q⟩⟩
end
def cutA {α : Type} (xs : List α) (lo hi : Option Int) : List α := (xs.drop (HT.sIx xs.length 0 lo)).take (HT.sIx xs.length xs.length hi - HT.sIx xs.length 0 lo)
theorem All.cut {α : Type} {R : V → α → Prop} {vs : List V} {xs : List α} (h : All R vs xs) (lo hi : Option Int) : All R (cutV vs lo hi) (cutA xs lo hi) := by
  unfold cutV cutA
  rw [h.len]
  exact (h.drop _).take _
theorem cutA_len {α : Type} (xs : List α) (lo hi : Option Int) : (cutA xs lo hi).length ≤ xs.length := by
  unfold cutA
  rw [List.length_take, List.length_drop]
  omega
def EvO (M : Mu μ) (t : TO) (σ : L2.St) (Z H : Hp) (s : μ) (i : Option Int) (s' : μ) : Prop :=
  ∀ Z1 H1, Same Z Z1 → SameX M.fp H H1 → Same Z1 H1 → M.m s Z1 H1 → ∀ Q : Option Int → Hp → Prop, (∀ Z2 H2, Step M.fp Z1 H1 Z2 H2 → M.m s' Z2 H2 → Q i H2) → t σ H1 Q
theorem eo_none : EvO M tNoPart σ Z H s none s := fun Z1 H1 _ _ c d Q q => q Z1 H1 (Step.refl c) d
theorem eo_some {i : Int} (h : Ev M te σ Z H s (ty yInt i) s1) : EvO M (tPart te) σ Z H s (some i) s1 := fun Z1 H1 a b c d Q q => h Z1 H1 a b c d _ fun v Z2 H2 e m rv => ⟨i, rv, q Z2 H2 e m⟩
theorem ev_slice {r : V → Option Int → Option Int → Hp → VK → Prop} {tl th : TO} {lo hi : Option Int} {R R' : Rr M.fp} (ha : Ev M ta σ Z H s R s1) (hl : EvO M tl σ Z H s1 lo s2) (hh : EvO M th σ Z H s2 hi s3)
    (h : ∀ Z H v, Same Z H → R.r Z H v → ∀ Q : VK, (∀ u Z2 H2, Step [] Z H Z2 H2 → R'.r Z2 H2 u → Q u H2) → r v lo hi H Q) : Ev M (tSl r ta tl th) σ Z H s R' s3 :=
  fun Z1 H1 a b c d Q q => ha Z1 H1 a b c d _ fun v Z2 H2 e m rv => hl Z2 H2 (a.trans e.z) (b.trans e.h) e.s m _ fun Z3 H3 e2 m2 => hh Z3 H3 ((a.trans e.z).trans e2.z) ((b.trans e.h).trans e2.h) e2.s m2 _ fun Z4 H4 e3 m3 =>
    h Z4 H4 v e3.s (R.st e3 (R.st e2 rv)) _ fun u Z5 H5 e4 ru => q u Z5 H5 (((e.trans e2).trans e3).trans e4.pure) (M.pure e4 m3) ru
theorem en_slL {α : Type} {τ : Ty α} {xs : List α} {tl th : TO} {lo hi : Option Int} (ha : Ev M ta σ Z H s (li τ xs) s1) (hl : EvO M tl σ Z H s1 lo s2) (hh : EvO M th σ Z H s2 hi s3) : EvN M (tSl (rSlL K) ta tl th) σ Z H s τ (cutA xs lo hi) s3 :=
  fun Z1 H1 a b c d Q q => ha Z1 H1 a b c d _ fun v Z2 H2 e m rv => hl Z2 H2 (a.trans e.z) (b.trans e.h) e.s m _ fun Z3 H3 e2 m2 => hh Z3 H3 ((a.trans e.z).trans e2.z) ((b.trans e.h).trans e2.h) e2.s m2 _ fun Z4 H4 e3 m3 => by
    obtain ⟨p, vs, rfl, g, t, l⟩ := rdl e3.s ((li τ xs).st e3 ((li τ xs).st e2 rv))
    refine ⟨p, vs, rfl, SqL.of g, fun d hd => ?_⟩
    have e4 := Step.own (o := .lst (cutV vs lo hi)) e3.s hd
    exact q d _ Z4 _ (((e.trans e2).trans e3).trans e4.pure) (M.pure e4 m3) (same_x ((e.trans e2).trans e3) hd) (same_none e3.s hd) upd_same (t.cut lo hi) (Nat.le_trans (cutA_len _ _ _) l)
/-- a tuple's slice: the whole is the tuple itself -/
def rSlW (K : PySem.W.Frag) : V → Option Int → Option Int → Hp → VK → Prop := fun x lo hi H Q => ∃ a xs, x = .ref a ∧ SqT K H a xs ∧
  ((HT.sIx xs.length 0 lo = 0 ∧ HT.sIx xs.length xs.length hi = xs.length) → Q (.ref a) H) ∧ (¬ (HT.sIx xs.length 0 lo = 0 ∧ HT.sIx xs.length xs.length hi = xs.length) → ∀ p, H p = none → Q (.ref p) (upd H p (.tup (cutV xs lo hi))))
theorem ev_slT {α : Type} {τ : Ty α} {xs : List α} {tl th : TO} {lo hi : Option Int} (ha : Ev M ta σ Z H s (ty (yTup K τ) xs) s1) (hl : EvO M tl σ Z H s1 lo s2) (hh : EvO M th σ Z H s2 hi s3) : Ev M (tSl (rSlW K) ta tl th) σ Z H s (ty (yTup K τ) (cutA xs lo hi)) s3 :=
  ev_slice ha hl hh fun _ _ _ sz ⟨p, vs, e, g, t, l⟩ _ q => by
    subst e
    refine ⟨p, vs, rfl, seqT_same sz g, fun w => q _ _ _ (Step.refl sz) ⟨p, vs, rfl, g, ?_, Nat.le_trans (cutA_len _ _ _) l⟩, fun _ d hd => q _ _ _ (Step.new sz hd) ⟨d, _, rfl, sqT_new, (t.cut lo hi).imp fun _ _ => τ.mono (same_upd (same_none sz hd)), Nat.le_trans (cutA_len _ _ _) l⟩⟩
    have c := t.cut lo hi
    have e : cutV vs lo hi = vs := by
      unfold cutV
      rw [w.1, w.2, List.drop_zero, Nat.sub_zero, List.take_length]
    rw [e] at c
    exact c
/-! ### sums and the like -/
theorem ev_sum {xs : List Int} (ha : Ev M ta σ Z H s (li yInt xs) s1) : Ev M (tCB (rSum K) (tCons ta tNil)) σ Z H s (ty yInt xs.sum) s1 :=
  ev_cb (eva_cons ha eva_nil) fun _ _ _ sz ⟨v, r, e, h, e2⟩ _ q => by
    cases e2; cases e
    obtain ⟨p, vs, rfl, g, t, _⟩ := rdl sz h
    rw [t.ints] at g
    exact ⟨p, xs, rfl, SqL.of g, q _ _ _ (Step.refl sz) rfl⟩
theorem ev_anyL {xs : List Bool} (ha : Ev M ta σ Z H s (li yBool xs) s1) : Ev M (tCB (rAny K) (tCons ta tNil)) σ Z H s (ty yBool (xs.any id)) s1 :=
  ev_cb (eva_cons ha eva_nil) fun _ _ _ sz ⟨v, r, e, h, e2⟩ _ q => by
    cases e2; cases e
    obtain ⟨p, vs, rfl, g, t, _⟩ := rdl sz h
    rw [t.bls] at g
    exact ⟨p, xs, rfl, SqL.of g, q _ _ _ (Step.refl sz) rfl⟩
theorem ev_allL {xs : List Bool} (ha : Ev M ta σ Z H s (li yBool xs) s1) : Ev M (tCB (rAll K) (tCons ta tNil)) σ Z H s (ty yBool (xs.all id)) s1 :=
  ev_cb (eva_cons ha eva_nil) fun _ _ _ sz ⟨v, r, e, h, e2⟩ _ q => by
    cases e2; cases e
    obtain ⟨p, vs, rfl, g, t, _⟩ := rdl sz h
    rw [t.bls] at g
    exact ⟨p, xs, rfl, SqL.of g, q _ _ _ (Step.refl sz) rfl⟩
def maxZ : List Int → Option Int
  | [] => none
  | x :: xs => some (xs.foldl max x)
def minZ : List Int → Option Int
  | [] => none
  | x :: xs => some (xs.foldl min x)
theorem foldl_max_of : ∀ (xs : List Int) (x m : Int), m ∈ x :: xs → (∀ y ∈ x :: xs, y ≤ m) → m = xs.foldl max x
  | [], x, m, h, _ => by simpa using h
  | y :: r, x, m, h, g => by
    refine foldl_max_of r (max x y) m ?_ (fun z hz => ?_)
    · have hx := g x (by simp)
      have hy := g y (by simp)
      rcases List.mem_cons.mp h with e | h
      · have : max x y = m := by omega
        rw [this]; exact List.mem_cons_self
      · rcases List.mem_cons.mp h with e | h
        · have : max x y = m := by omega
          rw [this]; exact List.mem_cons_self
        · exact List.mem_cons_of_mem _ h
    · rcases List.mem_cons.mp hz with e | hz
      · have hx := g x (by simp)
        have hy := g y (by simp)
        omega
      · exact g z (by simp [hz])
theorem foldl_min_of : ∀ (xs : List Int) (x m : Int), m ∈ x :: xs → (∀ y ∈ x :: xs, m ≤ y) → m = xs.foldl min x
  | [], x, m, h, _ => by simpa using h
  | y :: r, x, m, h, g => by
    refine foldl_min_of r (min x y) m ?_ (fun z hz => ?_)
    · have hx := g x (by simp)
      have hy := g y (by simp)
      rcases List.mem_cons.mp h with e | h
      · have : min x y = m := by omega
        rw [this]; exact List.mem_cons_self
      · rcases List.mem_cons.mp h with e | h
        · have : min x y = m := by omega
          rw [this]; exact List.mem_cons_self
        · exact List.mem_cons_of_mem _ h
    · rcases List.mem_cons.mp hz with e | hz
      · have hx := g x (by simp)
        have hy := g y (by simp)
        omega
      · exact g z (by simp [hz])
theorem ev_maxL {xs : List Int} {m : Int} (ha : Ev M ta σ Z H s (li yInt xs) s1) (e : maxZ xs = some m) : Ev M (tCB (rMax K) (tCons ta tNil)) σ Z H s (ty yInt m) s1 :=
  ev_cb (eva_cons ha eva_nil) fun _ _ _ sz ⟨v, r, e1, h, e2⟩ _ q => by
    cases e2; cases e1
    obtain ⟨p, vs, rfl, g, t, _⟩ := rdl sz h
    rw [t.ints] at g
    cases xs with
    | nil => cases e
    | cons x r =>
      refine ⟨p, x :: r, rfl, SqL.of g, Nat.succ_pos _, fun n hn hg => q _ _ _ (Step.refl sz) ?_⟩
      rw [foldl_max_of r x n hn hg, ← Option.some.inj (e : some (r.foldl max x) = some m)]
      rfl
theorem ev_minL {xs : List Int} {m : Int} (ha : Ev M ta σ Z H s (li yInt xs) s1) (e : minZ xs = some m) : Ev M (tCB (rMin K) (tCons ta tNil)) σ Z H s (ty yInt m) s1 :=
  ev_cb (eva_cons ha eva_nil) fun _ _ _ sz ⟨v, r, e1, h, e2⟩ _ q => by
    cases e2; cases e1
    obtain ⟨p, vs, rfl, g, t, _⟩ := rdl sz h
    rw [t.ints] at g
    cases xs with
    | nil => cases e
    | cons x r =>
      refine ⟨p, x :: r, rfl, SqL.of g, Nat.succ_pos _, fun n hn hg => q _ _ _ (Step.refl sz) ?_⟩
      rw [foldl_min_of r x n hn hg, ← Option.some.inj (e : some (r.foldl min x) = some m)]
      rfl
theorem ev_max2 {i j : Int} (ha : Ev M ta σ Z H s (ty yInt i) s1) (hb : Ev M tb σ Z H s1 (ty yInt j) s2) : Ev M (tCB (fun xs H Q => ∃ i j, xs = [.int i, .int j] ∧ Q (.int (if j > i then j else i)) H) (tCons ta (tCons tb tNil))) σ Z H s (ty yInt (max i j)) s2 :=
  ev_cb (eva_cons ha (eva_cons hb eva_nil)) fun _ _ _ sz ⟨v, r, e1, h, w, r2, e2, h2, e3⟩ _ q => by
    cases e3; cases e2; cases e1; cases h; cases h2
    refine ⟨i, j, rfl, q _ _ _ (Step.refl sz) ?_⟩
    show V.int _ = V.int _
    by_cases c : j > i
    · rw [if_pos c, Int.max_eq_right (by omega)]
    · rw [if_neg c, Int.max_eq_left (by omega)]
theorem ev_min2 {i j : Int} (ha : Ev M ta σ Z H s (ty yInt i) s1) (hb : Ev M tb σ Z H s1 (ty yInt j) s2) : Ev M (tCB (fun xs H Q => ∃ i j, xs = [.int i, .int j] ∧ Q (.int (if j < i then j else i)) H) (tCons ta (tCons tb tNil))) σ Z H s (ty yInt (min i j)) s2 :=
  ev_cb (eva_cons ha (eva_cons hb eva_nil)) fun _ _ _ sz ⟨v, r, e1, h, w, r2, e2, h2, e3⟩ _ q => by
    cases e3; cases e2; cases e1; cases h; cases h2
    refine ⟨i, j, rfl, q _ _ _ (Step.refl sz) ?_⟩
    show V.int _ = V.int _
    by_cases c : j < i
    · rw [if_pos c, Int.min_eq_right (by omega)]
    · rw [if_neg c, Int.min_eq_left (by omega)]
theorem ev_int_of {i : Int} (ha : Ev M ta σ Z H s (ty yInt i) s1) : Ev M (tCB (fun xs H Q => (∃ i, xs = [.int i] ∧ Q (.int i) H) ∨ ∃ k, xs = [.bl k] ∧ Q (.int (if k then 1 else 0)) H) (tCons ta tNil)) σ Z H s (ty yInt i) s1 :=
  ev_cb (eva_cons ha eva_nil) fun _ _ _ sz ⟨v, r, e1, h, e2⟩ _ q => by
    cases e2; cases e1; cases h
    exact .inl ⟨i, rfl, q _ _ _ (Step.refl sz) rfl⟩
/-! ### in -/
/-- flat, and its equality is the thing's -/
structure FlatI {α : Type} (τ : Ty α) (f : α → V) : Prop where
  flat : Flat τ f
  fl : ∀ x, flatV (f x) = true
  eqv : ∀ x y, eqV (f x) (f y) = true ↔ x = y
theorem fi_int : FlatI yInt V.int := ⟨flat_int, fun _ => rfl, fun x y => by show (x == y) = true ↔ _; exact beq_iff_eq⟩
theorem fi_str : FlatI yStr V.str := ⟨flat_str, fun _ => rfl, fun x y => by show (x == y) = true ↔ _; exact beq_iff_eq⟩
theorem fi_bool : FlatI yBool V.bl := ⟨flat_bool, fun _ => rfl, fun x y => by show (x == y) = true ↔ _; exact beq_iff_eq⟩
section
variable {α : Type} [DecidableEq α] {τ : Ty α} {f : α → V} {x : α} {xs : List α}
theorem inV_map (F : FlatI τ f) : inV (f x) (xs.map f) = decide (x ∈ xs) := by
  unfold inV
  rw [List.any_map]
  apply Bool.eq_iff_iff.mpr
  rw [List.any_eq_true, decide_eq_true_iff]
  constructor
  · rintro ⟨y, hy, e⟩
    rw [← (F.eqv y x).mp e]; exact hy
  · exact fun h => ⟨x, h, (F.eqv x x).mpr rfl⟩
theorem flat_map (F : FlatI τ f) : (xs.map f).all flatV = true := by
  rw [List.all_map]
  exact List.all_eq_true.mpr fun y _ => F.fl y
theorem ev_in (F : FlatI τ f) (ha : Ev M ta σ Z H s (ty τ x) s1) (hb : Ev M tb σ Z H s1 (li τ xs) s2) : Ev M (tOp (rIn K false) ta tb) σ Z H s (ty yBool (decide (x ∈ xs))) s2 :=
  ev_op ha hb fun _ _ _ _ sz e1 e2 _ q => by
    obtain ⟨p, vs, rfl, g, t, _⟩ := rdl sz e2
    have ev := t.map (F.flat.eq _); subst ev
    rw [F.flat.eq _ _ _ e1]
    exact ⟨p, _, rfl, .inl (SqL.of g), F.fl x, flat_map F, q _ _ _ (Step.refl sz) (congrArg V.bl (inV_map F))⟩
theorem ev_notin (F : FlatI τ f) (ha : Ev M ta σ Z H s (ty τ x) s1) (hb : Ev M tb σ Z H s1 (li τ xs) s2) : Ev M (tOp (rIn K true) ta tb) σ Z H s (ty yBool (!decide (x ∈ xs))) s2 :=
  ev_op ha hb fun _ _ _ _ sz e1 e2 _ q => by
    obtain ⟨p, vs, rfl, g, t, _⟩ := rdl sz e2
    have ev := t.map (F.flat.eq _); subst ev
    rw [F.flat.eq _ _ _ e1]
    exact ⟨p, _, rfl, .inl (SqL.of g), F.fl x, flat_map F, q _ _ _ (Step.refl sz) (congrArg (fun b => V.bl (!b)) (inV_map F))⟩
theorem ev_inT (F : FlatI τ f) (ha : Ev M ta σ Z H s (ty τ x) s1) (hb : Ev M tb σ Z H s1 (ty (yTup K τ) xs) s2) : Ev M (tOp (rIn K false) ta tb) σ Z H s (ty yBool (decide (x ∈ xs))) s2 :=
  ev_op ha hb fun _ _ _ _ sz e1 ⟨p, vs, e, g, t, _⟩ _ q => by
    subst e
    have ev := t.map (F.flat.eq _); subst ev
    rw [F.flat.eq _ _ _ e1]
    exact ⟨p, _, rfl, .inr (seqT_same sz g), F.fl x, flat_map F, q _ _ _ (Step.refl sz) (congrArg V.bl (inV_map F))⟩
theorem ev_notinT (F : FlatI τ f) (ha : Ev M ta σ Z H s (ty τ x) s1) (hb : Ev M tb σ Z H s1 (ty (yTup K τ) xs) s2) : Ev M (tOp (rIn K true) ta tb) σ Z H s (ty yBool (!decide (x ∈ xs))) s2 :=
  ev_op ha hb fun _ _ _ _ sz e1 ⟨p, vs, e, g, t, _⟩ _ q => by
    subst e
    have ev := t.map (F.flat.eq _); subst ev
    rw [F.flat.eq _ _ _ e1]
    exact ⟨p, _, rfl, .inr (seqT_same sz g), F.fl x, flat_map F, q _ _ _ (Step.refl sz) (congrArg (fun b => V.bl (!b)) (inV_map F))⟩
end
end
end TP

namespace TP
open PySem PySem.Spec PyProof.Rows L2
section
variable {μ : Type} {M : Mu μ} {σ : L2.St} {Z H : Hp} {s s' s1 s2 s3 : μ} {ta tb tc te : TE} {t : TA} {K : PySem.W.Frag}
/-! ### equality of data -/
structure EqD (K : PySem.W.Frag) {α : Type} (τ : Ty α) (d : α → PyData) (n : Nat) : Prop where
  dp : ∀ Z H v x, Same Z H → τ.r Z v x → Dp K H v (d x)
  lay : ∀ Z v x, τ.r Z v x → (d x).canLay0 = true
  dep : ∀ x, (d x).depth ≤ n
  eqv : ∀ x y, PyData.eqv (d x) (d y) = true ↔ x = y
theorem eqd_int : EqD K yInt PyData.int 0 := ⟨fun _ _ _ x _ h => by cases h; exact .int x, fun _ _ _ _ => rfl, fun _ => Nat.le_refl _, fun x y => by simp [PyData.eqv]⟩
theorem eqd_bool : EqD K yBool PyData.bool 0 := ⟨fun _ _ _ x _ h => by cases h; exact .bl x, fun _ _ _ _ => rfl, fun _ => Nat.le_refl _, fun x y => by simp [PyData.eqv]⟩
theorem eqd_str : EqD K yStr PyData.str 0 := ⟨fun _ _ _ x _ h => by rw [h.1]; exact .str x, fun _ _ x h => by
  have := (Bool.and_eq_true_iff.mp (show (PyData.strOk x && decide (x.length ≤ sizeLine)) = true from h.2)).1
  simpa [PyData.canLay0] using this, fun _ => Nat.le_refl _, fun x y => by simp [PyData.eqv]⟩
theorem eqd_non : EqD K yNon (fun _ => PyData.none) 0 := ⟨fun _ _ _ x _ h => by cases h; exact .non, fun _ _ _ _ => rfl, fun _ => Nat.le_refl _, fun x y => by simp [PyData.eqv]⟩
section
variable {α β γ δ : Type} {τ : Ty α} {υ : Ty β} {φ : Ty γ} {ψ : Ty δ} {d : α → PyData} {e : β → PyData} {f : γ → PyData} {g : δ → PyData} {n m k l : Nat}
theorem EqD.all (E : EqD K τ d n) {Z H : Hp} (sz : Same Z H) : ∀ {vs : List V} {xs : List α}, All (τ.r Z) vs xs → DpAll K H vs (xs.map d)
  | _, _, .nil => .nil
  | _, _, .cons h t => .cons (E.dp _ _ _ _ sz h) (E.all sz t)
theorem EqD.lays (E : EqD K τ d n) {Z : Hp} : ∀ {vs : List V} {xs : List α}, All (τ.r Z) vs xs → PyData.canLayAll0 (xs.map d) = true
  | _, _, .nil => by simp [PyData.canLayAll0]
  | _, _, .cons h t => by
    have h1 := E.lay _ _ _ h
    have h2 := E.lays t
    simp [PyData.canLayAll0, h1, h2]
theorem EqD.deps (E : EqD K τ d n) : ∀ xs : List α, PyData.depthAll (xs.map d) ≤ n
  | [] => by simp [PyData.depthAll]
  | x :: r => by
    have h1 := E.dep x
    have h2 := E.deps r
    simp only [List.map_cons, PyData.depthAll]
    omega
theorem EqD.eqvs (E : EqD K τ d n) : ∀ xs ys : List α, PyData.eqvAll (xs.map d) (ys.map d) = true ↔ xs = ys
  | [], [] => by simp [PyData.eqvAll]
  | [], _ :: _ => by simp [PyData.eqvAll]
  | _ :: _, [] => by simp [PyData.eqvAll]
  | x :: xs, y :: ys => by
    simp only [List.map_cons, PyData.eqvAll, Bool.and_eq_true, E.eqv x y, E.eqvs xs ys, List.cons.injEq]
theorem eqd_list (E : EqD K τ d n) : EqD K (yList τ) (fun xs => .list (xs.map d)) (n + 1) where
  dp := fun Z H v x sz ⟨a, vs, e, h, t, _⟩ => by subst e; exact .lst (SqL.of (sz _ _ h)) (E.all sz t)
  lay := fun Z v x ⟨a, vs, e, h, t, _⟩ => by simpa [PyData.canLay0] using E.lays t
  dep := fun x => by have := E.deps x; simp only [PyData.depth]; omega
  eqv := fun x y => by simp only [PyData.eqv]; exact E.eqvs x y
theorem eqd_tup (E : EqD K τ d n) : EqD K (yTup K τ) (fun xs => .tuple (xs.map d)) (n + 1) where
  dp := fun Z H v x sz ⟨a, vs, e, h, t, _⟩ => by subst e; exact .tup (seqT_same sz h) (E.all sz t)
  lay := fun Z v x ⟨a, vs, e, h, t, _⟩ => by simpa [PyData.canLay0] using E.lays t
  dep := fun x => by have := E.deps x; simp only [PyData.depth]; omega
  eqv := fun x y => by simp only [PyData.eqv]; exact E.eqvs x y
theorem eqd_p1 (E : EqD K τ d n) : EqD K (yP1 K τ) (fun x => .tuple [d x]) (n + 1) where
  dp := fun Z H v x sz ⟨a, v1, e, h, h1⟩ => by subst e; exact .tup (seqT_same sz h) (.cons (E.dp _ _ _ _ sz h1) .nil)
  lay := fun Z v x ⟨a, v1, e, h, h1⟩ => by simp [PyData.canLay0, PyData.canLayAll0, E.lay _ _ _ h1]
  dep := fun x => by have := E.dep x; simp only [PyData.depth, PyData.depthAll]; omega
  eqv := fun x y => by simp only [PyData.eqv, PyData.eqvAll, Bool.and_true]; exact E.eqv x y
theorem eqd_p2 (E : EqD K τ d n) (F : EqD K υ e m) : EqD K (yP2 K τ υ) (fun x => .tuple [d x.1, e x.2]) (max n m + 1) where
  dp := fun Z H v x sz ⟨a, v1, v2, e, h, h1, h2⟩ => by subst e; exact .tup (seqT_same sz h) (.cons (E.dp _ _ _ _ sz h1) (.cons (F.dp _ _ _ _ sz h2) .nil))
  lay := fun Z v x ⟨a, v1, v2, e, h, h1, h2⟩ => by simp [PyData.canLay0, PyData.canLayAll0, E.lay _ _ _ h1, F.lay _ _ _ h2]
  dep := fun x => by have := E.dep x.1; have := F.dep x.2; simp only [PyData.depth, PyData.depthAll]; omega
  eqv := fun x y => by
    simp only [PyData.eqv, PyData.eqvAll, Bool.and_true, Bool.and_eq_true, E.eqv, F.eqv]
    exact Prod.ext_iff.symm
theorem eqd_p3 (E : EqD K τ d n) (F : EqD K υ e m) (G : EqD K φ f k) : EqD K (yP3 K τ υ φ) (fun x => .tuple [d x.1, e x.2.1, f x.2.2]) (max n (max m k) + 1) where
  dp := fun Z H v x sz ⟨a, v1, v2, v3, e, h, h1, h2, h3⟩ => by subst e; exact .tup (seqT_same sz h) (.cons (E.dp _ _ _ _ sz h1) (.cons (F.dp _ _ _ _ sz h2) (.cons (G.dp _ _ _ _ sz h3) .nil)))
  lay := fun Z v x ⟨a, v1, v2, v3, e, h, h1, h2, h3⟩ => by simp [PyData.canLay0, PyData.canLayAll0, E.lay _ _ _ h1, F.lay _ _ _ h2, G.lay _ _ _ h3]
  dep := fun x => by have := E.dep x.1; have := F.dep x.2.1; have := G.dep x.2.2; simp only [PyData.depth, PyData.depthAll]; omega
  eqv := fun x y => by
    simp only [PyData.eqv, PyData.eqvAll, Bool.and_true, Bool.and_eq_true, E.eqv, F.eqv, G.eqv]
    rw [Prod.ext_iff, Prod.ext_iff]
theorem eqd_p4 (E : EqD K τ d n) (F : EqD K υ e m) (G : EqD K φ f k) (I : EqD K ψ g l) : EqD K (yP4 K τ υ φ ψ) (fun x => .tuple [d x.1, e x.2.1, f x.2.2.1, g x.2.2.2]) (max n (max m (max k l)) + 1) where
  dp := fun Z H v x sz ⟨a, v1, v2, v3, v4, e, h, h1, h2, h3, h4⟩ => by subst e; exact .tup (seqT_same sz h) (.cons (E.dp _ _ _ _ sz h1) (.cons (F.dp _ _ _ _ sz h2) (.cons (G.dp _ _ _ _ sz h3) (.cons (I.dp _ _ _ _ sz h4) .nil))))
  lay := fun Z v x ⟨a, v1, v2, v3, v4, e, h, h1, h2, h3, h4⟩ => by simp [PyData.canLay0, PyData.canLayAll0, E.lay _ _ _ h1, F.lay _ _ _ h2, G.lay _ _ _ h3, I.lay _ _ _ h4]
  dep := fun x => by have := E.dep x.1; have := F.dep x.2.1; have := G.dep x.2.2.1; have := I.dep x.2.2.2; simp only [PyData.depth, PyData.depthAll]; omega
  eqv := fun x y => by
    simp only [PyData.eqv, PyData.eqvAll, Bool.and_true, Bool.and_eq_true, E.eqv, F.eqv, G.eqv, I.eqv]
    rw [Prod.ext_iff, Prod.ext_iff, Prod.ext_iff]
def optD (d : α → PyData) : Option α → PyData
  | none => .none
  | some x => d x
theorem eqv_none : ∀ c : PyData, PyData.eqv .none c = true ↔ c = .none
  | .none => by simp [PyData.eqv]
  | .bool _ => by simp [PyData.eqv]
  | .int _ => by simp [PyData.eqv]
  | .str _ => by simp [PyData.eqv]
  | .list _ => by simp [PyData.eqv]
  | .tuple _ => by simp [PyData.eqv]
  | .dict _ => by simp [PyData.eqv]
theorem none_eqv : ∀ c : PyData, PyData.eqv c .none = true ↔ c = .none
  | .none => by simp [PyData.eqv]
  | .bool _ => by simp [PyData.eqv]
  | .int _ => by simp [PyData.eqv]
  | .str _ => by simp [PyData.eqv]
  | .list _ => by simp [PyData.eqv]
  | .tuple _ => by simp [PyData.eqv]
  | .dict _ => by simp [PyData.eqv]
theorem eqd_opt (E : EqD K τ d n) (nn : ∀ x, d x ≠ .none) : EqD K (yOpt τ) (optD d) n where
  dp := fun Z H v x sz h => match x, h with
    | none, h => by rw [show v = .non from h]; exact .non
    | some x, h => E.dp _ _ _ _ sz h.1
  lay := fun Z v x h => match x, h with
    | none, h => rfl
    | some x, h => E.lay _ _ _ h.1
  dep := fun x => match x with
    | none => Nat.zero_le _
    | some x => E.dep x
  eqv := fun x y => match x, y with
    | none, none => by simp [optD, PyData.eqv]
    | none, some y => by simp [optD, eqv_none, nn y]
    | some x, none => by simp [optD, none_eqv, nn x]
    | some x, some y => by simp [optD, E.eqv x y]
end
/-- the value is read as the data d -/
def GD {fp : List Addr} (K : PySem.W.Frag) (R : Rr fp) (d : PyData) : Prop := ∀ Z H v, Same Z H → R.r Z H v → Dp K H v d ∧ d.canLay0 = true
theorem EqD.gd {fp : List Addr} {α : Type} {τ : Ty α} {d : α → PyData} {n : Nat} (E : EqD K τ d n) (x : α) : GD K (ty (fp := fp) τ x) (d x) := fun _ _ _ sz h => ⟨E.dp _ _ _ _ sz h, E.lay _ _ _ h⟩
theorem EqD.gdl {fp : List Addr} {α : Type} {τ : Ty α} {d : α → PyData} {n : Nat} (E : EqD K τ d n) (xs : List α) : GD K (li (fp := fp) τ xs) (.list (xs.map d)) := fun _ _ _ sz h => by
  obtain ⟨p, vs, rfl, g, t, _⟩ := rdl sz h
  exact ⟨.lst (SqL.of g) (E.all sz t), by simpa [PyData.canLay0] using E.lays t⟩
theorem shaped_of {d : PyData} {n : Nat} (h : d.canLay0 = true) (l : d.depth ≤ n) (hn : n ≤ 64) : SeqAt.shaped d = true := by
  unfold SeqAt.shaped
  rw [h, Bool.true_and]
  exact decide_eq_true (by omega)
theorem ev_eqG {R R' : Rr M.fp} {c c' : PyData} {P : Prop} [Decidable P] (hc : PyData.eqv c c' = true ↔ P) (G : GD K R c) (G' : GD K R' c') (l : c.depth ≤ 64) (l' : c'.depth ≤ 64) (ha : Ev M ta σ Z H s R s1) (hb : Ev M tb σ Z H s1 R' s2) : Ev M (tOp (rEqD K) ta tb) σ Z H s (ty yBool (decide P)) s2 :=
  ev_op ha hb fun _ _ _ _ sz e1 e2 _ q => by
    obtain ⟨d1, k1⟩ := G _ _ _ sz e1
    obtain ⟨d2, k2⟩ := G' _ _ _ sz e2
    exact ⟨c, c', d1, d2, shaped_of k1 l (Nat.le_refl _), shaped_of k2 l' (Nat.le_refl _), q _ _ _ (Step.refl sz) (congrArg V.bl (Bool.eq_iff_iff.mpr (hc.trans decide_eq_true_iff.symm)))⟩
theorem ev_neG {R R' : Rr M.fp} {c c' : PyData} {P : Prop} [Decidable P] (hc : PyData.eqv c c' = true ↔ P) (G : GD K R c) (G' : GD K R' c') (l : c.depth ≤ 64) (l' : c'.depth ≤ 64) (ha : Ev M ta σ Z H s R s1) (hb : Ev M tb σ Z H s1 R' s2) : Ev M (tOp (rNeD K) ta tb) σ Z H s (ty yBool (!decide P)) s2 :=
  ev_op ha hb fun _ _ _ _ sz e1 e2 _ q => by
    obtain ⟨d1, k1⟩ := G _ _ _ sz e1
    obtain ⟨d2, k2⟩ := G' _ _ _ sz e2
    exact ⟨c, c', d1, d2, shaped_of k1 l (Nat.le_refl _), shaped_of k2 l' (Nat.le_refl _), q _ _ _ (Step.refl sz) (congrArg (fun b => V.bl (!b)) (Bool.eq_iff_iff.mpr (hc.trans decide_eq_true_iff.symm)))⟩
section
variable {α : Type} [DecidableEq α] {τ : Ty α} {d : α → PyData} {n : Nat} {x y : α} {xs ys : List α}
theorem ev_eqD (E : EqD K τ d n) (hn : n ≤ 64) (ha : Ev M ta σ Z H s (ty τ x) s1) (hb : Ev M tb σ Z H s1 (ty τ y) s2) : Ev M (tOp (rEqD K) ta tb) σ Z H s (ty yBool (decide (x = y))) s2 :=
  ev_eqG (E.eqv x y) (E.gd x) (E.gd y) (Nat.le_trans (E.dep x) hn) (Nat.le_trans (E.dep y) hn) ha hb
theorem ev_neD (E : EqD K τ d n) (hn : n ≤ 64) (ha : Ev M ta σ Z H s (ty τ x) s1) (hb : Ev M tb σ Z H s1 (ty τ y) s2) : Ev M (tOp (rNeD K) ta tb) σ Z H s (ty yBool (!decide (x = y))) s2 :=
  ev_neG (E.eqv x y) (E.gd x) (E.gd y) (Nat.le_trans (E.dep x) hn) (Nat.le_trans (E.dep y) hn) ha hb
theorem depL (E : EqD K τ d n) (hn : n + 1 ≤ 64) : (PyData.list (xs.map d)).depth ≤ 64 := by have := E.deps xs; simp only [PyData.depth]; omega
theorem ev_eqL (E : EqD K τ d n) (hn : n + 1 ≤ 64) (ha : Ev M ta σ Z H s (li τ xs) s1) (hb : Ev M tb σ Z H s1 (li τ ys) s2) : Ev M (tOp (rEqD K) ta tb) σ Z H s (ty yBool (decide (xs = ys))) s2 :=
  ev_eqG (by simp only [PyData.eqv]; exact E.eqvs xs ys) (E.gdl xs) (E.gdl ys) (depL E hn) (depL E hn) ha hb
theorem ev_neL (E : EqD K τ d n) (hn : n + 1 ≤ 64) (ha : Ev M ta σ Z H s (li τ xs) s1) (hb : Ev M tb σ Z H s1 (li τ ys) s2) : Ev M (tOp (rNeD K) ta tb) σ Z H s (ty yBool (!decide (xs = ys))) s2 :=
  ev_neG (by simp only [PyData.eqv]; exact E.eqvs xs ys) (E.gdl xs) (E.gdl ys) (depL E hn) (depL E hn) ha hb
end
theorem en_cast {α : Type} {τ : Ty α} {xs ys : List α} (h : EvN M te σ Z H s τ xs s1) (e : xs = ys) : EvN M te σ Z H s τ ys s1 := e ▸ h
theorem ev_chain {i j k : Int} {p r : Int → Int → Bool} (ha : Ev M ta σ Z H s (ty yInt i) s1) (hb : Ev M tb σ Z H s1 (ty yInt j) s1) (hc : Ev M tc σ Z H s1 (ty yInt k) s1) : Ev M (tChain (rI0 fun i j => .bl (p i j)) (rI0 fun i j => .bl (r i j)) ta tb tc) σ Z H s (ty yBool (p i j && r j k)) s1 :=
  fun Z1 H1 a b c d Q q => ha Z1 H1 a b c d _ fun v Z2 H2 e m rv => hb Z2 H2 (a.trans e.z) (b.trans e.h) e.s m _ fun w Z3 H3 e2 m2 rw => ⟨i, j, rv, rw, p i j, rfl, by
    have e3 := e.trans e2
    cases hp : p i j with
    | true => rw [if_pos rfl]; exact hc Z3 H3 (a.trans e3.z) (b.trans e3.h) e3.s m2 _ fun u Z4 H4 e4 m4 ru => ⟨j, k, rw, ru, q _ Z4 H4 (e3.trans e4) m4 (by rw [hp]; rfl)⟩
    | false => rw [if_neg Bool.false_ne_true]; exact q _ Z3 H3 e3 m2 (by rw [hp]; rfl)⟩
theorem ev_chainO {i j k : Int} {b : Bool} {o : Option Bool} {p r : Int → Int → Bool} (ha : Ev M ta σ Z H s (ty yInt i) s1) (hb : Ev M tb σ Z H s1 (ty yInt j) s1) (hc : p i j = true → Ev M tc σ Z H s1 (ty yInt k) s1) : Ev M (tChain (rI0 fun i j => .bl (p i j)) (rI0 fun i j => .bl (r i j)) ta tb tc) σ Z H s (ty yBool (p i j && r j k)) s1 :=
  fun Z1 H1 a b c d Q q => ha Z1 H1 a b c d _ fun v Z2 H2 e m rv => hb Z2 H2 (a.trans e.z) (b.trans e.h) e.s m _ fun w Z3 H3 e2 m2 rw => ⟨i, j, rv, rw, p i j, rfl, by
    have e3 := e.trans e2
    cases hp : p i j with
    | true => rw [if_pos rfl]; exact hc hp Z3 H3 (a.trans e3.z) (b.trans e3.h) e3.s m2 _ fun u Z4 H4 e4 m4 ru => ⟨j, k, rw, ru, q _ Z4 H4 (e3.trans e4) m4 (by rw [hp]; rfl)⟩
    | false => rw [if_neg Bool.false_ne_true]; exact q _ Z3 H3 e3 m2 (by rw [hp]; rfl)⟩
section
variable {a b : Bool} {o o' : Option Bool} {tA tB' tt : TT}
theorem ev_andO (ha : Ev M ta σ Z H s (ty yBool a) s1) (hb : a = true → ∀ y, o = some y → Ev M tb σ Z H s1 (ty yBool y) s1) (h : (if a = true then o else some false) = some b) : Ev M (tAndV ta tb) σ Z H s (ty yBool b) s1 :=
  ev_and (o := o.map fun y => (y, s1)) ha (fun e y s' hy => by obtain ⟨z, hz, e2⟩ := Option.map_eq_some_iff.mp hy; cases e2; exact hb e _ hz) (by
    cases a with
    | true => rw [if_pos rfl] at h ⊢; rw [h]; rfl
    | false => rw [if_neg Bool.false_ne_true] at h ⊢; rw [← Option.some.inj h])
theorem ev_orO (ha : Ev M ta σ Z H s (ty yBool a) s1) (hb : a = false → ∀ y, o = some y → Ev M tb σ Z H s1 (ty yBool y) s1) (h : (if a = true then some true else o) = some b) : Ev M (tOrV ta tb) σ Z H s (ty yBool b) s1 :=
  ev_or (o := o.map fun y => (y, s1)) ha (fun e y s' hy => by obtain ⟨z, hz, e2⟩ := Option.map_eq_some_iff.mp hy; cases e2; exact hb e _ hz) (by
    cases a with
    | false => rw [if_neg Bool.false_ne_true] at h ⊢; rw [h]; rfl
    | true => rw [if_pos rfl] at h ⊢; rw [← Option.some.inj h])
theorem et_andO (ha : EvT M tA σ Z H s a s1) (hb : a = true → ∀ y, o = some y → EvT M tB' σ Z H s1 y s1) (h : (if a = true then o else some false) = some b) : EvT M (tAnd tA tB') σ Z H s b s1 :=
  et_and (o := o.map fun y => (y, s1)) ha (fun e y s' hy => by obtain ⟨z, hz, e2⟩ := Option.map_eq_some_iff.mp hy; cases e2; exact hb e _ hz) (by
    cases a with
    | true => rw [if_pos rfl] at h ⊢; rw [h]; rfl
    | false => rw [if_neg Bool.false_ne_true] at h ⊢; rw [← Option.some.inj h])
theorem et_orO (ha : EvT M tA σ Z H s a s1) (hb : a = false → ∀ y, o = some y → EvT M tB' σ Z H s1 y s1) (h : (if a = true then some true else o) = some b) : EvT M (tOr tA tB') σ Z H s b s1 :=
  et_or (o := o.map fun y => (y, s1)) ha (fun e y s' hy => by obtain ⟨z, hz, e2⟩ := Option.map_eq_some_iff.mp hy; cases e2; exact hb e _ hz) (by
    cases a with
    | false => rw [if_neg Bool.false_ne_true] at h ⊢; rw [h]; rfl
    | true => rw [if_pos rfl] at h ⊢; rw [← Option.some.inj h])
end
/-! ### fields, calls -/
/-- the attribute f of things of this kind -/
def FldOf {α β : Type} (τ : Ty α) (C : Addr) (f : Str) (υ : Ty β) (pr : α → β) : Prop := ∀ Z v x, τ.r Z v x → ∃ a dx fs w, v = .ref a ∧ Z a = some (.ins C dx fs) ∧ fs.lookup f = some w ∧ υ.r Z w (pr x)
theorem ev_fld {α β : Type} {τ : Ty α} {υ : Ty β} {C : Addr} {f : Str} {pr : α → β} {x : α} (F : FldOf τ C f υ pr) (c : Cls K C) (n : NoAttr K C f) (ha : Ev M ta σ Z H s (ty τ x) s1) : Ev M (tFld K ta f) σ Z H s (ty υ (pr x)) s1 :=
  fun Z1 H1 a b c' d Q q => ha Z1 H1 a b c' d _ fun v Z2 H2 e m rv => by
    obtain ⟨p, dx, fs, w, rfl, hp, l, rw'⟩ := F _ _ _ rv
    exact ⟨p, C, dx, fs, w, rfl, e.s _ _ hp, c, n, l, q _ _ _ e m rw'⟩
/-- things of this kind are instances of the class at C without an own attribute m -/
def ObjOf {α : Type} (τ : Ty α) (C : Addr) (m : Str) : Prop := ∀ Z v x, τ.r Z v x → ∃ a dx fs, v = .ref a ∧ Z a = some (.ins C dx fs) ∧ fs.lookup m = none
/-- what a promise gives for arguments of which Rs is true -/
def CallS (M : Mu μ) (sp : Sp) (E : XK) (Rs : Ra M.fp) (s : μ) (R : Rr M.fp) (s' : μ) : Prop :=
  ∀ Z H vs, Same Z H → M.m s Z H → Rs.r Z H vs → ∀ Q : VK, (∀ v Z2 H2, Step M.fp Z H Z2 H2 → M.m s' Z2 H2 → R.r Z2 H2 v → Q v H2) → sp vs H Q E
theorem ev_call {sp : Sp} {E : XK} {Rs : Ra M.fp} {R : Rr M.fp} (C : CallS M sp E Rs s1 R s2) (ha : EvA M t σ Z H s Rs s1) : Ev M (tCall sp [] E t) σ Z H s R s2 :=
  fun Z1 H1 a b c d Q q => ha Z1 H1 a b c d _ fun vs Z2 H2 e m rs => by
    rw [List.append_nil]
    exact C Z2 H2 vs e.s m rs Q fun v Z3 H3 e2 m2 rv => q v Z3 H3 (e.trans e2) m2 rv
theorem ev_meth {α : Type} {τ : Ty α} {x : α} {C' : Addr} {m : Str} {sp : Sp} {E : XK} {Rs : Ra M.fp} {R : Rr M.fp} (O : ObjOf τ C' m) (C : CallS M sp E (rac (ty τ x) Rs) s2 R s3) (hx : Ev M ta σ Z H s (ty τ x) s1) (ha : EvA M t σ Z H s1 Rs s2) : Ev M (tMeth C' m sp [] E ta t) σ Z H s R s3 :=
  fun Z1 H1 a b c d Q q => hx Z1 H1 a b c d _ fun v Z2 H2 e mm rv => by
    obtain ⟨p, dx, fs, rfl, hp, l⟩ := O _ _ _ rv
    refine ⟨p, dx, fs, rfl, e.s _ _ hp, l, ha Z2 H2 (a.trans e.z) (b.trans e.h) e.s mm _ fun vs Z3 H3 e2 m2 rs => ?_⟩
    rw [List.append_nil]
    exact C Z3 H3 _ e2.s m2 ⟨_, vs, rfl, τ.mono e2.z rv, rs⟩ Q fun v Z4 H4 e3 m3 rv' => q v Z4 H4 ((e.trans e2).trans e3) m3 rv'
theorem ev_meth0 {α : Type} {τ : Ty α} {x : α} {C' : Addr} {m : Str} {sp : Sp} {E : XK} {R : Rr M.fp} (O : ObjOf τ C' m) (C : CallS M sp E (rac (ty τ x) ra0) s1 R s2) (hx : Ev M ta σ Z H s (ty τ x) s1) : Ev M (tMeth C' m sp [] E ta tNil) σ Z H s R s2 := ev_meth O C hx eva_nil
theorem ev_prop {α : Type} {τ : Ty α} {x : α} {C' : Addr} {m : Str} {sp : Sp} {E : XK} {R : Rr M.fp} (O : ObjOf τ C' m) (C : CallS M sp E (rac (ty τ x) ra0) s1 R s2) (hx : Ev M ta σ Z H s (ty τ x) s1) : Ev M (tProp C' sp [] E ta) σ Z H s R s2 :=
  fun Z1 H1 a b c d Q q => hx Z1 H1 a b c d _ fun v Z2 H2 e mm rv => by
    obtain ⟨p, dx, fs, rfl, hp, l⟩ := O _ _ _ rv
    exact ⟨p, dx, fs, rfl, e.s _ _ hp, C Z2 H2 _ e.s mm ⟨_, [], rfl, rv, rfl⟩ Q fun v Z4 H4 e3 m3 rv' => q v Z4 H4 (e.trans e3) m3 rv'⟩
/-- what the __init__ of the class at C makes of a new instance: a thing of which R is true -/
def InitS (M : Mu μ) (C : Addr) (sp : Sp) (E : XK) (Rs : Ra M.fp) (s : μ) (R : Rr M.fp) (s' : μ) : Prop :=
  ∀ Z H vs x dx, Same Z H → M.m s Z H → Rs.r Z H vs → H x = some (.ins C dx []) → Z x = none → x ∉ M.fp → ∀ Q : VK, (∀ Z2 H2 o, Step (x :: M.fp) Z H Z2 H2 → M.m s' Z2 H2 → H2 x = some o → R.r (upd Z2 x o) H2 (.ref x) → Q .non H2) → sp (.ref x :: vs) H Q E
theorem Step.dict {Z H : Hp} {x dx C : Addr} (sz : Same Z H) (hx : H x = none) (hd : H dx = none) (ne : dx ≠ x) : Step [] Z H Z (upd (upd H dx (.own x)) x (.ins C dx [])) :=
  (Step.own sz hd).trans (Step.own (Step.own sz hd).s (by rw [upd_ne ne.symm]; exact hx))
theorem Step.freeze {S : List Addr} {Z H Z1 H1 : Hp} {x : Addr} {o : HO} (g : Step (x :: S) Z H Z1 H1) (hx : H x = none) (h1 : H1 x = some o) (hz : Z1 x = none) : Step S Z H (upd Z1 x o) H1 := by
  have g' : Step S Z H Z1 H1 := g.weak fun a h => by
    rcases List.mem_cons.mp h with e | h
    · exact .inr (e ▸ hx)
    · exact .inl h
  refine ⟨g'.z.trans (same_upd hz), fun a u e => ?_, g'.h, fun a h z => ?_, g'.al⟩
  · by_cases q : a = x
    · subst q; rw [upd_same] at e; rw [← Option.some.inj e]; exact h1
    · rw [upd_ne q] at e; exact g'.s a u e
  · rw [upd_ne (ne_of_some h hx)]; exact g'.n a h z
theorem ev_make {C : Addr} {sp : Sp} {E : XK} {Rs : Ra M.fp} {R : Rr M.fp} (I : InitS M C sp E Rs s1 R s2) (ha : EvA M t σ Z H s Rs s1) : Ev M (tMake C sp [] E t) σ Z H s R s2 :=
  fun Z1 H1 a b c d Q q => ha Z1 H1 a b c d _ fun vs Z2 H2 e m rs x dx hx hd ne => by
    rw [List.append_nil]
    have st := Step.dict (C := C) e.s hx hd ne
    have nf : x ∉ M.fp := fun h => (M.al m x h).1 hx
    refine I Z2 _ vs x dx st.s (M.pure st m) (Rs.st st.pure rs) upd_same (same_none e.s hx) nf _ fun Z3 H3 o e2 m2 ho rv => ⟨rfl, ?_⟩
    have hz3 : Z3 x = none := e2.n x (by rw [upd_same]; exact fun z => nomatch z) (same_none e.s hx)
    have e3 : Step M.fp Z2 H2 (upd Z3 x o) H3 := ((st.pure (S := x :: M.fp)).trans e2).freeze hx ho hz3
    refine q _ _ _ (e.trans e3) (M.loc (same_upd hz3) (fun _ _ _ e => e) (fun a ha _ z => ?_) m2) rv
    rw [upd_ne (fun q => nf (by rw [← q]; exact ha))]
    exact z
theorem ev_makeK {C : Addr} {n k : Nat} {sp : Sp} {E : XK} {Rs Rk Rs' : Ra M.fp} {R : Rr M.fp} {gV : List V → List V → List V} {tk : TA} (I : InitS M C sp E Rs' s2 R s3) (ha : EvA M t σ Z H s Rs s1) (hk : EvA M tk σ Z H s1 Rk s2)
    (hg : ∀ Z H vs zs x, Rs.r Z H vs → Rk.r Z H zs → vs.length = n ∧ zs.length = k ∧ ∃ ws, gV (.ref x :: vs) zs = .ref x :: ws ∧ Rs'.r Z H ws) : Ev M (tMakeK C n k sp gV E t tk) σ Z H s R s3 :=
  fun Z1 H1 a b c d Q q => ha Z1 H1 a b c d _ fun vs Z2 H2 e m rs => hk Z2 H2 (a.trans e.z) (b.trans e.h) e.s m _ fun zs Z3 H3 e1 m1 rk => by
    have rs3 := Rs.st e1 rs
    obtain ⟨l1, l2, _⟩ := hg Z3 H3 vs zs 0 rs3 rk
    refine ⟨l1, l2, fun x dx hx hd ne => ?_⟩
    obtain ⟨_, _, ws, eg, rw'⟩ := hg Z3 H3 vs zs x rs3 rk
    rw [eg]
    have st := Step.dict (C := C) e1.s hx hd ne
    have nf : x ∉ M.fp := fun h => (M.al m1 x h).1 hx
    refine I Z3 _ ws x dx st.s (M.pure st m1) (Rs'.st st.pure rw') upd_same (same_none e1.s hx) nf _ fun Z4 H4 o e2 m2 ho rv => ⟨rfl, ?_⟩
    have hz3 : Z4 x = none := e2.n x (by rw [upd_same]; exact fun z => nomatch z) (same_none e1.s hx)
    have e3 : Step M.fp Z3 H3 (upd Z4 x o) H4 := ((st.pure (S := x :: M.fp)).trans e2).freeze hx ho hz3
    refine q _ _ _ ((e.trans e1).trans e3) (M.loc (same_upd hz3) (fun _ _ _ e => e) (fun a ha _ z => ?_) m2) rv
    rw [upd_ne (fun q => nf (by rw [← q]; exact ha))]
    exact z
/-! ### what is walked -/
/-- the things xs, of the kind τ, one after the other; what stands at F may change meanwhile -/
def WalkT {α : Type} (X : Hp → Hp → Prop) (J : It) (Z H : Hp) (τ : Ty α) (xs : List α) : Prop := xs.length ≤ sizeLine ∧ ∃ G Y, Walk J xs.length G Y ∧ (∀ Z' H', Same Z Z' → Same Z' H' → X H H' → G H') ∧
  ∀ i Z' H' v H'', i < xs.length → Same Z Z' → Same Z' H' → G H' → Y i H' v H'' → ∃ Z'' x, xs[i]? = some x ∧ Step [] Z' H' Z'' H'' ∧ τ.r Z'' v x
def EvI {α : Type} (M : Mu μ) (X : Hp → Hp → Prop) (wi : TI) (σ : L2.St) (Z H : Hp) (s : μ) (τ : Ty α) (xs : List α) (s' : μ) : Prop :=
  ∀ Z1 H1, Same Z Z1 → SameX M.fp H H1 → Same Z1 H1 → M.m s Z1 H1 → ∀ R : It → Hp → Prop, (∀ J Z2 H2, Step M.fp Z1 H1 Z2 H2 → M.m s' Z2 H2 → WalkT X J Z2 H2 τ xs → R J H2) → wi σ H1 R
section
variable {α β : Type} {τ : Ty α} {υ : Ty β} {xs : List α} {X : Hp → Hp → Prop}
theorem walk_at {J : It} {vs : List V} {G : Hp → Prop} (w : Walk J vs.length G (YAt vs)) {Z H : Hp} (hG : ∀ Z' H', Same Z Z' → Same Z' H' → X H H' → G H') (t : All (τ.r Z) vs xs) (l : xs.length ≤ sizeLine) : WalkT X J Z H τ xs := by
  refine ⟨l, G, YAt vs, by rw [← t.len]; exact w, hG, fun i Z' H' v H'' hi z sz _ y => ?_⟩
  obtain ⟨e, y⟩ := y
  subst e
  obtain ⟨x, ex, rx⟩ := t.get y
  exact ⟨Z', x, ex, Step.refl sz, τ.mono z rx⟩
theorem ei_list (ha : Ev M ta σ Z H s (ty (yList τ) xs) s1) : EvI M X (iList K ta) σ Z H s τ xs s1 :=
  fun Z1 H1 a b c d R q => ha Z1 H1 a b c d _ fun v Z2 H2 e m ⟨p, vs, ev, h, t, l⟩ => by
    subst ev
    exact ⟨p, rfl, ⟨vs, SqL.of (e.s _ _ h)⟩, q _ Z2 H2 e m (walk_at walk_list (fun Z' H' z sz _ => SqL.of (sz _ _ (z _ _ h))) t l)⟩
theorem ei_own (ha : Ev M ta σ Z H s (li τ xs) s1) : EvI M (SameX M.fp) (iList K ta) σ Z H s τ xs s1 :=
  fun Z1 H1 a b c d R q => ha Z1 H1 a b c d _ fun v Z2 H2 e m ⟨p, vs, ev, h, t, l⟩ => by
    subst ev
    refine ⟨p, rfl, ⟨vs, SqL.of (h.get e.s)⟩, q _ Z2 H2 e m (walk_at walk_list (fun Z' H' z sz x => ?_) t l)⟩
    rcases h with h | h
    · exact SqL.of (sz _ _ (z _ _ h))
    · exact SqL.of (x _ _ h.2 h.1)
theorem ei_tup (ha : Ev M ta σ Z H s (ty (yTup K τ) xs) s1) : EvI M X (iTup K ta) σ Z H s τ xs s1 :=
  fun Z1 H1 a b c d R q => ha Z1 H1 a b c d _ fun v Z2 H2 e m ⟨p, vs, ev, h, t, l⟩ => by
    subst ev
    exact ⟨p, rfl, ⟨vs, seqT_same e.s h⟩, q _ Z2 H2 e m (walk_at walk_tup (fun Z' H' z sz _ => seqT_same sz (seqT_same z h)) t l)⟩
def rangeZ (lo hi : Int) : List Int := (List.range (hi - lo).toNat).map fun (i : Nat) => lo + (i : Int)
def RangeOk (lo hi : Int) : Prop := (-(2 ^ 62) ≤ lo ∧ lo < 2 ^ 62) ∧ (-(2 ^ 62) ≤ hi ∧ hi < 2 ^ 62) ∧ hi - lo ≤ 16777216
instance {lo hi : Int} : Decidable (RangeOk lo hi) := inferInstanceAs (Decidable (_ ∧ _ ∧ _))
theorem rangeZ_len (lo hi : Int) : (rangeZ lo hi).length = (hi - lo).toNat := by unfold rangeZ; rw [List.length_map, List.length_range]
theorem walk_rng {lo hi : Int} {Z H : Hp} (l : hi - lo ≤ 16777216) : WalkT X (Itr lo (hi - lo).toNat) Z H yInt (rangeZ lo hi) := by
  refine ⟨by rw [rangeZ_len]; show (hi - lo).toNat ≤ 2 ^ 24; omega, fun _ => True, YFn fun i => .int (lo + i), by rw [rangeZ_len]; exact walk_range, fun _ _ _ _ _ => trivial, fun i Z' H' v H'' hi z sz _ y => ?_⟩
  obtain ⟨e, y⟩ := y
  subst e
  rw [rangeZ_len] at hi
  refine ⟨Z', lo + (i : Int), ?_, Step.refl sz, y⟩
  unfold rangeZ
  rw [List.getElem?_map, List.getElem?_range hi]
  rfl
theorem ei_rng1 {i : Int} (ha : Ev M ta σ Z H s (ty yInt i) s1) (h1 : RangeOk 0 i) : EvI M X (iRng1 (tCons ta tNil)) σ Z H s yInt (rangeZ 0 i) s1 :=
  fun Z1 H1 a b c d R q => eva_cons ha eva_nil Z1 H1 a b c d _ fun vs Z2 H2 e m ⟨v, r, e1, h, e2⟩ => by
    cases e2; cases h
    refine ⟨i, e1, h1.2.1.1, h1.2.1.2, q _ Z2 H2 e m ?_⟩
    have := walk_rng (X := X) (lo := 0) (hi := i) (Z := Z2) (H := H2) h1.2.2
    rw [Int.sub_zero] at this
    exact this
theorem ei_rng2 {i j : Int} (ha : Ev M ta σ Z H s (ty yInt i) s1) (hb : Ev M tb σ Z H s1 (ty yInt j) s2) (h1 : RangeOk i j) : EvI M X (iRng2 (tCons ta (tCons tb tNil))) σ Z H s yInt (rangeZ i j) s2 :=
  fun Z1 H1 a b c d R q => eva_cons ha (eva_cons hb eva_nil) Z1 H1 a b c d _ fun vs Z2 H2 e m ⟨v, r, e1, h, w, r2, e3, h3, e2⟩ => by
    cases e2; cases h; cases h3; cases e3
    exact ⟨i, j, e1, ⟨h1.1.1, h1.1.2, h1.2.1.1, h1.2.1.2⟩, q _ Z2 H2 e m (walk_rng h1.2.2)⟩
/-- pairs that are laid turn by turn -/
theorem walk_pairs {ys : List β} {vs ws : List V} {J : It} {G : Hp → Prop} (n : Nat) (hn : n = min vs.length ws.length) (w : Walk J n G (YPair (fun i => vs[i]?) (fun i => ws[i]?))) {Z H : Hp} (hG : ∀ Z' H', Same Z Z' → Same Z' H' → X H H' → G H') (t : All (τ.r Z) vs xs) (u : All (υ.r Z) ws ys) (l : vs.length ≤ sizeLine) : WalkT X J Z H (yP2 K τ υ) (xs.zip ys) := by
  have ln : (xs.zip ys).length = n := by rw [List.length_zip, ← t.len, ← u.len, hn]
  refine ⟨by rw [ln, hn]; omega, G, _, by rw [ln]; exact w, hG, fun i Z' H' v H'' hi z sz _ y => ?_⟩
  obtain ⟨T, v1, v2, rfl, nT, rfl, g1, g2⟩ := y
  obtain ⟨x1, ex1, rx1⟩ := t.get g1
  obtain ⟨x2, ex2, rx2⟩ := u.get g2
  have st := Step.new (o := .tup [v1, v2]) sz nT
  exact ⟨upd Z' T (.tup [v1, v2]), (x1, x2), by rw [List.getElem?_zip_eq_some]; exact ⟨ex1, ex2⟩, st, T, v1, v2, rfl, sqT_new, τ.mono (z.trans st.z) rx1, υ.mono (z.trans st.z) rx2⟩
def enumZ {α : Type} (xs : List α) : List (Int × α) := (rangeZ 0 (xs.length : Nat)).zip xs
theorem enum_rng (n : Nat) (i : Nat) (h : i < n) : ((rangeZ 0 (n : Nat)).map V.int)[i]? = some (.int (i : Nat)) := by
  unfold rangeZ
  rw [List.getElem?_map, List.getElem?_map, List.getElem?_range (by omega)]
  show some (V.int (0 + (i : Int))) = _
  rw [Int.zero_add]
theorem ei_enum (ha : Ev M ta σ Z H s (ty (yList τ) xs) s1) : EvI M X (iEnum K (tCons ta tNil)) σ Z H s (yP2 K yInt τ) (enumZ xs) s1 :=
  fun Z1 H1 a b c d R q => eva_cons ha eva_nil Z1 H1 a b c d _ fun us Z2 H2 e m ⟨v, r, e1, ⟨p, vs, ev, h, t, l⟩, e2⟩ => by
    cases e2; cases ev; cases e1
    refine ⟨p, vs, rfl, SqL.of (e.s _ _ h), q _ Z2 H2 e m ?_⟩
    have hl : ((rangeZ 0 (xs.length : Nat)).map V.int).length = vs.length := by
      rw [List.length_map, rangeZ_len, t.len]; omega
    refine walk_pairs (vs := (rangeZ 0 (xs.length : Nat)).map V.int) (ws := vs) vs.length (by rw [hl]; omega) (walk_enum.mono (fun _ g => g) fun i H v H' hi _ ⟨T, x, y, h1, h2, h3, h4, h5⟩ => ⟨T, x, y, h1, h2, h3, ?_, h5⟩) (fun Z' H' z sz _ => SqL.of (sz _ _ (z _ _ h))) (All.ofInts _) t (by rw [hl, t.len]; exact l)
    show ((rangeZ 0 (xs.length : Nat)).map V.int)[i]? = some x
    rw [enum_rng _ _ (by rw [← t.len]; exact hi)]
    exact h4
theorem ei_str {x : Str} (ha : Ev M ta σ Z H s (ty yStr x) s1) : EvI M X (iStr ta) σ Z H s yStr (x.cps.toList.map fun c => (⟨#[c]⟩ : Str)) s1 :=
  fun Z1 H1 a b c d R q => ha Z1 H1 a b c d _ fun v Z2 H2 e m rv => by
    refine ⟨x, rv.1, q _ Z2 H2 e m ?_⟩
    have ln : (x.cps.toList.map fun c => (⟨#[c]⟩ : Str)).length = x.cps.size := by rw [List.length_map, Array.length_toList]
    have lz : x.cps.size ≤ sizeLine := of_decide_eq_true (Bool.and_eq_true_iff.mp (show (PyData.strOk x && decide (x.length ≤ sizeLine)) = true from rv.2)).2
    refine ⟨by rw [ln]; exact lz, fun _ => True, _, by rw [ln]; exact walk_str, fun _ _ _ _ _ => trivial, fun i Z' H' v H'' hi z sz _ y => ?_⟩
    obtain ⟨e, c, hc, rfl⟩ := y
    subst e
    have hc' : x.cps.toList[i]? = some c := by rw [Array.getElem?_toList]; exact hc
    refine ⟨Z', ⟨#[c]⟩, by rw [List.getElem?_map, hc']; rfl, Step.refl sz, rfl, ?_⟩
    have ok := rv.2
    unfold okS PyData.strOk at ok ⊢
    rw [Bool.and_eq_true] at ok ⊢
    refine ⟨?_, decide_eq_true (by show (#[c] : Array Nat).size ≤ sizeLine; exact (by decide : 1 ≤ sizeLine))⟩
    have h2 := Array.all_eq_true_iff_forall_mem.mp ok.1 c (Array.mem_of_getElem? hc)
    simpa using h2
end
/-! ### list comprehensions -/
/-- the target stores the value: from the slots σ to σ2 -/
def Tgt (g : TG) (v : V) (σ σ2 : L2.St) (Z : Hp) : Prop := ∀ H, Same Z H → ∀ Q : L2.St → Hp → Prop, Q σ2 H → g v σ H Q
theorem tgt_name {i : Nat} {v : V} {σ : L2.St} {Z : Hp} : Tgt (gName i) v σ (σ.set i (some v)) Z := fun _ _ _ q => q
theorem tgt_p2 {α β : Type} {τ : Ty α} {υ : Ty β} {g1 g2 : TG} {v : V} {x : α × β} {Z : Hp} (h : (yP2 K τ υ).r Z v x) : ∃ v1 v2, τ.r Z v1 x.1 ∧ υ.r Z v2 x.2 ∧ ∀ {σ σ1 σ2 : L2.St}, Tgt g1 v1 σ σ1 Z → Tgt g2 v2 σ1 σ2 Z → Tgt (gTup K 2 (gCons g1 (gCons g2 gNil))) v σ σ2 Z := by
  obtain ⟨a, v1, v2, rfl, t, h1, h2⟩ := h
  exact ⟨v1, v2, h1, h2, fun {σ σ1 σ2} t1 t2 H sz Q q => ⟨a, _, rfl, seqT_same sz t, rfl, v1, _, rfl, t1 H sz _ ⟨v2, _, rfl, t2 H sz _ ⟨rfl, q⟩⟩⟩⟩
theorem tgt_p3 {α β γ : Type} {τ : Ty α} {υ : Ty β} {φ : Ty γ} {g1 g2 g3 : TG} {v : V} {x : α × β × γ} {Z : Hp} (h : (yP3 K τ υ φ).r Z v x) : ∃ v1 v2 v3, τ.r Z v1 x.1 ∧ υ.r Z v2 x.2.1 ∧ φ.r Z v3 x.2.2 ∧ ∀ {σ σ1 σ2 σ3 : L2.St}, Tgt g1 v1 σ σ1 Z → Tgt g2 v2 σ1 σ2 Z → Tgt g3 v3 σ2 σ3 Z → Tgt (gTup K 3 (gCons g1 (gCons g2 (gCons g3 gNil)))) v σ σ3 Z := by
  obtain ⟨a, v1, v2, v3, rfl, t, h1, h2, h3⟩ := h
  exact ⟨v1, v2, v3, h1, h2, h3, fun {σ σ1 σ2 σ3} t1 t2 t3 H sz Q q => ⟨a, _, rfl, seqT_same sz t, rfl, v1, _, rfl, t1 H sz _ ⟨v2, _, rfl, t2 H sz _ ⟨v3, _, rfl, t3 H sz _ ⟨rfl, q⟩⟩⟩⟩⟩
section
variable {α β : Type} {τ : Ty α} {υ : Ty β} {xs : List α} {ys : List β}
/-- the comprehension as a plain walk: none leaves an item out -/
def lcM (g : α → μ → Option (Option β × μ)) : List α → μ → Option (List β × μ)
  | [], s => some ([], s)
  | x :: xs, s => (g x s).bind fun p => (lcM g xs p.2).bind fun q => some (match p.1 with | none => q.1 | some y => y :: q.1, q.2)
theorem en_lc {wi : TI} {g : TG} {tt : TT} {vs : List Nat} (P : μ → Prop) (h : α → μ → Option (Option β × μ)) (hP : P s1) (hi : EvI M (SameX M.fp) wi σ Z H s τ xs s1)
    (hb : ∀ x v Z' H' si p, Same Z Z' → SameX M.fp H H' → τ.r Z' v x → P si → h x si = some p → P p.2 ∧ ∃ σ2, Tgt g v (wipe σ vs) σ2 Z' ∧ wipe σ2 vs = wipe σ vs ∧ ∃ b s', EvT M tt σ2 Z' H' si b s' ∧ (b = true → ∃ y, p.1 = some y ∧ Ev M te σ2 Z' H' s' (ty υ y) p.2) ∧ (b = false → p = (none, s')))
    (hF : lcM h xs s1 = some (ys, s2)) : EvN M (tLc wi g tt te vs) σ Z H s υ ys s2 := by
  intro Z1 H1 a b c d Q q
  refine hi Z1 H1 a b c d _ fun J Z2 H2 e m ⟨hx, G, Y, wk, hG, hY⟩ D hD => ?_
  have zD : Z2 D = none := same_none e.s hD
  have st0 := Step.own (o := .lst []) e.s hD
  refine lc_it wk (fun i H' => ∃ Z' si zs ws r, Step M.fp Z2 H2 Z' H' ∧ Z' D = none ∧ H' D = some (.lst ws) ∧ All (υ.r Z') ws zs ∧ ws.length ≤ i ∧ M.m si Z' H' ∧ P si ∧ lcM h (xs.drop i) si = some (r, s2) ∧ ys = zs ++ r)
    ⟨Z2, s1, [], [], ys, st0.pure, zD, upd_same, .nil, Nat.le_refl _, M.pure st0 m, hP, by rw [List.drop_zero]; exact hF, rfl⟩ ?_ ?_ ?_
  · rintro i H' _ ⟨Z', si, zs, ws, r, st, _⟩
    exact hG Z' H' st.z st.s st.h
  · rintro i v H3 H4 hin ⟨Z', si, zs, ws, r, st, zD', hD', al, lw, m', pi, hF', ey⟩ y
    obtain ⟨Z4, x, ex, st4, rx⟩ := hY i Z' H3 v H4 hin st.z st.s (hG Z' H3 st.z st.s st.h) y
    have hd : xs.drop i = x :: xs.drop (i + 1) := by
      rw [List.drop_eq_getElem_cons hin]
      rw [List.getElem?_eq_getElem hin] at ex
      rw [Option.some.inj ex]
    rw [hd] at hF'
    obtain ⟨p, hp, hF2⟩ := Option.bind_eq_some_iff.mp hF'
    obtain ⟨⟨r2, s2'⟩, hr, hF3⟩ := Option.bind_eq_some_iff.mp hF2
    have e4 := st.trans st4.pure
    have eZ : Same Z Z4 := (a.trans e.z).trans e4.z
    have eH : SameX M.fp H H4 := (b.trans e.h).trans e4.h
    obtain ⟨pp, σ2, tg, wp, bb, s', et, ht, hf⟩ := hb x v Z4 H4 si p eZ eH rx pi hp
    have es2 : s2' = s2 := by injection hF3 with q; exact congrArg Prod.snd q
    subst es2
    refine tg H4 e4.s _ ⟨wp, et Z4 H4 (Same.refl _) SameX.refl e4.s (M.pure st4 m') _ fun Z5 H5 e5 m5 => ?_⟩
    have nD : D ∉ M.fp := fun h => absurd hD (M.al m D h).1
    have hD4 : H4 D = some (.lst ws) := st4.h _ _ List.not_mem_nil hD'
    have hD5 : H5 D = some (.lst ws) := e5.h _ _ nD hD4
    have zD5 : Z5 D = none := e5.n D (some_ne hD4) (st4.n D (some_ne hD') zD')
    have e15 := e4.trans e5
    cases bb with
    | false =>
      rw [if_neg Bool.false_ne_true]
      have ep := hf rfl
      subst ep
      refine ⟨Z5, s', zs, ws, r2, e15, zD5, hD5, al.imp fun _ _ => υ.mono (st4.z.trans e5.z), by omega, m5, pp, hr, ?_⟩
      injection hF3 with q3
      have q4 : r2 = r := congrArg Prod.fst q3
      rw [ey, q4]
    | true =>
      rw [if_pos rfl]
      obtain ⟨y, ep, ev⟩ := ht rfl
      refine ev Z5 H5 e5.z e5.h e5.s m5 _ fun w Z6 H6 e6 m6 rw' => ?_
      have hD6 : H6 D = some (.lst ws) := e6.h _ _ nD hD5
      have zD6 : Z6 D = none := e6.n D (some_ne hD5) zD5
      have s7 := Step.set (o := .lst (ws ++ [w])) e6.s zD6
      refine ⟨ws, hD6, by omega, Z6, p.2, zs ++ [y], ws ++ [w], r2, (e15.trans e6).mine s7 (fun x hx => by rw [List.mem_singleton] at hx; subst hx; exact .inr hD), zD6, upd_same, (al.imp fun _ _ => υ.mono ((st4.z.trans e5.z).trans e6.z)).snoc rw', by rw [List.length_append]; show ws.length + 1 ≤ _; omega, ?_, pp, hr, ?_⟩
      · refine M.loc (Same.refl _) (fun a' ha' o ho => ?_) (fun _ _ _ z => z) m6
        rw [upd_ne (fun q' => nD (by rw [← q']; exact ha'))]
        exact ho
      · injection hF3 with q3
        rw [ep] at q3
        have q4 : y :: r2 = r := congrArg Prod.fst q3
        rw [ey, ← q4, List.append_assoc]
        rfl
  · rintro H' ⟨Z', si, zs, ws, r, st, zD', hD', al, lw, m', _, hF', ey⟩
    rw [List.drop_length] at hF'
    injection hF' with q'
    have e1 : r = [] := (congrArg Prod.fst q').symm
    have e2 : si = s2 := congrArg Prod.snd q'
    subst e1 e2
    rw [List.append_nil] at ey
    subst ey
    exact q D ws Z' H' (e.trans st) m' (same_x e hD) zD' hD' al (by rw [← al.len]; omega)
def mapO (f : α → Option β) : List α → Option (List β)
  | [] => some []
  | x :: r => (f x).bind fun y => (mapO f r).bind fun ys => some (y :: ys)
def fmO (f : α → Option (Option β)) : List α → Option (List β)
  | [] => some []
  | x :: r => (f x).bind fun y => (fmO f r).bind fun ys => some (match y with | none => ys | some z => z :: ys)
def mapS (f : α → μ → Option (β × μ)) : List α → μ → Option (List β × μ)
  | [], s => some ([], s)
  | x :: r, s => (f x s).bind fun p => (mapS f r p.2).bind fun q => some (p.1 :: q.1, q.2)
theorem lcM_fmO (f : α → Option (Option β)) (s : μ) : ∀ xs : List α, lcM (fun x s => (f x).map fun y => (y, s)) xs s = (fmO f xs).map fun ys => (ys, s)
  | [] => rfl
  | x :: r => by
    have ih := lcM_fmO f s r
    unfold lcM fmO
    cases f x with
    | none => rfl
    | some y =>
      simp only [Option.map_some, Option.bind_some, ih]
      cases fmO f r with
      | none => rfl
      | some ys => cases y <;> rfl
theorem lcM_mapS (f : α → μ → Option (β × μ)) : ∀ (xs : List α) (s : μ), lcM (fun x s => (f x s).map fun p => (some p.1, p.2)) xs s = mapS f xs s
  | [], _ => rfl
  | x :: r, s => by
    unfold lcM mapS
    cases f x s with
    | none => rfl
    | some p =>
      simp only [Option.map_some, Option.bind_some, lcM_mapS f r p.2]
theorem fmO_mapO (f : α → Option β) : ∀ xs : List α, fmO (fun x => (f x).map some) xs = mapO f xs
  | [] => rfl
  | x :: r => by
    unfold fmO mapO
    rw [fmO_mapO f r]
    cases f x <;> rfl
theorem fmO_fil (p : α → Bool) (f : α → β) : ∀ xs : List α, fmO (fun x => some (if p x = true then some (f x) else none)) xs = some ((xs.filter p).map f)
  | [] => rfl
  | x :: r => by
    unfold fmO
    rw [fmO_fil p f r]
    cases e : p x with
    | true => rw [List.filter_cons_of_pos e]; rfl
    | false => rw [List.filter_cons_of_neg (by rw [e]; exact Bool.false_ne_true)]; rfl
section
variable {wi : TI} {g : TG} {tt : TT} {vs : List Nat}
/-- stateless, with a test -/
theorem en_fmO (f : α → Option (Option β)) (hi : EvI M (SameX M.fp) wi σ Z H s τ xs s1)
    (hb : ∀ x v Z' H' p, Same Z Z' → SameX M.fp H H' → τ.r Z' v x → f x = some p → ∃ σ2, Tgt g v (wipe σ vs) σ2 Z' ∧ wipe σ2 vs = wipe σ vs ∧ ∃ b, EvT M tt σ2 Z' H' s1 b s1 ∧ (b = true → ∃ y, p = some y ∧ Ev M te σ2 Z' H' s1 (ty υ y) s1) ∧ (b = false → p = none))
    (hF : fmO f xs = some ys) : EvN M (tLc wi g tt te vs) σ Z H s υ ys s1 := by
  refine en_lc (· = s1) (fun x s => (f x).map fun y => (y, s)) rfl hi (fun x v Z' H' si p z h rv e hp => ?_) (by rw [lcM_fmO, hF]; rfl)
  subst e
  obtain ⟨q, hq, rfl⟩ := Option.map_eq_some_iff.mp hp
  obtain ⟨σ2, tg, wp, b, et, h1, h2⟩ := hb x v Z' H' q z h rv hq
  exact ⟨rfl, σ2, tg, wp, b, _, et, h1, fun e => by rw [h2 e]⟩
/-- stateless, partial -/
theorem en_mapO (f : α → Option β) (hi : EvI M (SameX M.fp) wi σ Z H s τ xs s1)
    (hb : ∀ x v Z' H' y, Same Z Z' → SameX M.fp H H' → τ.r Z' v x → f x = some y → ∃ σ2, Tgt g v (wipe σ vs) σ2 Z' ∧ wipe σ2 vs = wipe σ vs ∧ Ev M te σ2 Z' H' s1 (ty υ y) s1)
    (hF : mapO f xs = some ys) : EvN M (tLc wi g tYes te vs) σ Z H s υ ys s1 :=
  en_fmO (fun x => (f x).map some) hi (fun x v Z' H' p z h rv hp => by
    obtain ⟨y, hy, rfl⟩ := Option.map_eq_some_iff.mp hp
    obtain ⟨σ2, tg, wp, ev⟩ := hb x v Z' H' y z h rv hy
    exact ⟨σ2, tg, wp, true, fun Z1 H1 _ _ c d _ k => k Z1 H1 (Step.refl c) d, fun _ => ⟨y, rfl, ev⟩, fun e => nomatch e⟩) (by rw [fmO_mapO, hF])
/-- stateless, total -/
theorem en_map (f : α → β) (hi : EvI M (SameX M.fp) wi σ Z H s τ xs s1)
    (hb : ∀ x v Z' H', Same Z Z' → SameX M.fp H H' → τ.r Z' v x → ∃ σ2, Tgt g v (wipe σ vs) σ2 Z' ∧ wipe σ2 vs = wipe σ vs ∧ Ev M te σ2 Z' H' s1 (ty υ (f x)) s1) : EvN M (tLc wi g tYes te vs) σ Z H s υ (xs.map f) s1 :=
  en_mapO (fun x => some (f x)) hi (fun x v Z' H' y z h rv hy => by cases hy; exact hb x v Z' H' z h rv) (by
    clear hb hi
    induction xs with
    | nil => rfl
    | cons x r ih => unfold mapO; rw [ih]; rfl)
theorem en_fil (p : α → Bool) (f : α → β) (hi : EvI M (SameX M.fp) wi σ Z H s τ xs s1)
    (hb : ∀ x v Z' H', Same Z Z' → SameX M.fp H H' → τ.r Z' v x → ∃ σ2, Tgt g v (wipe σ vs) σ2 Z' ∧ wipe σ2 vs = wipe σ vs ∧ EvT M tt σ2 Z' H' s1 (p x) s1 ∧ Ev M te σ2 Z' H' s1 (ty υ (f x)) s1) : EvN M (tLc wi g tt te vs) σ Z H s υ ((xs.filter p).map f) s1 :=
  en_fmO (fun x => some (if p x = true then some (f x) else none)) hi (fun x v Z' H' q z h rv hq => by
    obtain ⟨σ2, tg, wp, et, ev⟩ := hb x v Z' H' z h rv
    cases hq
    exact ⟨σ2, tg, wp, p x, et, fun e => ⟨f x, if_pos e, ev⟩, fun e => if_neg (by rw [e]; exact Bool.false_ne_true)⟩) (fmO_fil p f xs)
theorem en_mapS (f : α → μ → Option (β × μ)) (hi : EvI M (SameX M.fp) wi σ Z H s τ xs s1)
    (hb : ∀ x v Z' H' si p, Same Z Z' → SameX M.fp H H' → τ.r Z' v x → f x si = some p → ∃ σ2, Tgt g v (wipe σ vs) σ2 Z' ∧ wipe σ2 vs = wipe σ vs ∧ Ev M te σ2 Z' H' si (ty υ p.1) p.2)
    (hF : mapS f xs s1 = some (ys, s2)) : EvN M (tLc wi g tYes te vs) σ Z H s υ ys s2 :=
  en_lc (fun _ => True) (fun x s => (f x s).map fun p => (some p.1, p.2)) trivial hi (fun x v Z' H' si p z h rv _ hp => by
    obtain ⟨q, hq, rfl⟩ := Option.map_eq_some_iff.mp hp
    obtain ⟨σ2, tg, wp, ev⟩ := hb x v Z' H' si q z h rv hq
    exact ⟨trivial, σ2, tg, wp, true, si, fun Z1 H1 _ _ c d _ k => k Z1 H1 (Step.refl c) d, fun _ => ⟨q.1, rfl, ev⟩, fun e => nomatch e⟩) (by rw [lcM_mapS, hF])
end
end
end
end TP

namespace TP
open PySem PySem.Spec PyProof.Rows L2
section
variable {μ : Type} {S : List Addr} {Z0 H0 : Hp} {M : Mu μ} {σ : L2.St} {Z H : Hp} {s s' s1 s2 s3 : μ} {ta tb tc te : TE} {t : TA} {K : PySem.W.Frag} {D : Ends} {u w : TS}
/-! ### a place in a def's body -/
structure Pt (S : List Addr) (Z0 H0 : Hp) (M : Mu μ) (Z H : Hp) (s : μ) : Prop where
  st : Step S Z0 H0 Z H
  m : M.m s Z H
  mine : ∀ a ∈ M.fp, a ∈ S ∨ H0 a = none
theorem Pt.next {Z1 H1 : Hp} (P : Pt S Z0 H0 M Z H s) (e : Step M.fp Z H Z1 H1) (m : M.m s1 Z1 H1) : Pt S Z0 H0 M Z1 H1 s1 := ⟨P.st.mine e P.mine, m, P.mine⟩
theorem Pt.start (M : Mu μ) (sz : Same Z H) (m : M.m s Z H) : Pt M.fp Z H M Z H s := ⟨Step.refl sz, m, fun _ h => .inl h⟩
theorem Pt.start0 (sz : Same Z H) : Pt [] Z H muN Z H () := ⟨Step.refl sz, trivial, fun _ h => (nomatch h)⟩
theorem Pt.sub (P : Pt S Z0 H0 M Z H s) : Same Z H := P.st.s
/-- a list of one's own: it may change -/
structure Own {α : Type} (S : List Addr) (H0 : Hp) (fp : List Addr) (Z H : Hp) (τ : Ty α) (p : Addr) (xs : List α) : Prop where
  ex : ∃ vs, H p = some (.lst vs) ∧ All (τ.r Z) vs xs
  z : Z p = none
  n : p ∉ fp
  mine : H0 p = none
  l : xs.length ≤ sizeLine
section
variable {α : Type} {τ : Ty α} {xs : List α} {p : Addr} {fp : List Addr}
theorem Own.step {F : List Addr} {Z1 H1 : Hp} (o : Own S H0 fp Z H τ p xs) (e : Step F Z H Z1 H1) (n : p ∉ F) : Own S H0 fp Z1 H1 τ p xs := by
  obtain ⟨vs, h, t⟩ := o.ex
  exact ⟨⟨vs, e.h _ _ n h, t.imp fun _ _ => τ.mono e.z⟩, e.n _ (some_ne h) o.z, o.n, o.mine, o.l⟩
theorem Own.next {Z1 H1 : Hp} (o : Own S H0 fp Z H τ p xs) (e : Step fp Z H Z1 H1) : Own S H0 fp Z1 H1 τ p xs := o.step e o.n
theorem Own.ne (o : Own S H0 fp Z H τ p xs) {q : Addr} (h : H q = none) : p ≠ q := by
  obtain ⟨vs, hp, _⟩ := o.ex
  exact ne_of_some (some_ne hp) h
theorem ev_o {i : Nat} (o : Own S H0 M.fp Z H τ p xs) (e : σ[i]? = some (some (.ref p))) : Ev M (tVar i) σ Z H s (li τ xs) s := by
  obtain ⟨vs, h, t⟩ := o.ex
  exact ev_own e h o.n t o.l
/-- it never changes from now on -/
theorem Own.fz (o : Own S H0 M.fp Z H τ p xs) (P : Pt S Z0 H0 M Z H s) : ∃ Z', Pt S Z0 H0 M Z' H s ∧ Same Z Z' ∧ (yList τ).r Z' (.ref p) xs ∧ ∀ q, q ≠ p → Z q = none → Z' q = none := by
  obtain ⟨vs, h, t⟩ := o.ex
  refine ⟨upd Z p (.lst vs), ⟨?_, Mu.fz P.m o.z o.n, P.mine⟩, same_upd o.z, ⟨p, vs, rfl, upd_same, t.imp fun _ _ => τ.mono (same_upd o.z), o.l⟩, fun q n e => by rw [upd_ne n]; exact e⟩
  exact P.st.fz o.mine h o.z
theorem Own.keep {Z1 : Hp} (o : Own S H0 fp Z H τ p xs) (e : Same Z Z1) (n : Z1 p = none) : Own S H0 fp Z1 H τ p xs := by
  obtain ⟨vs, h, t⟩ := o.ex
  exact ⟨⟨vs, h, t.imp fun _ _ => τ.mono e⟩, n, o.n, o.mine, o.l⟩
end
/-- a list of one's own is lent: for a while it does not change -/
theorem Own.bor {α : Type} {τ : Ty α} {xs : List α} {p : Addr} (o : Own S H0 M.fp Z H τ p xs) (sz : Same Z H) (m : M.m s Z H) : ∃ Zb, Same Z Zb ∧ Same Zb H ∧ M.m s Zb H ∧ (yList τ).r Zb (.ref p) xs ∧ ∀ q, q ≠ p → Z q = none → Zb q = none := by
  obtain ⟨vs, h, t⟩ := o.ex
  refine ⟨upd Z p (.lst vs), same_upd o.z, fun a u e => ?_, Mu.fz m o.z o.n, ⟨p, vs, rfl, upd_same, t.imp fun _ _ => τ.mono (same_upd o.z), o.l⟩, fun q n e => by rw [upd_ne n]; exact e⟩
  by_cases q : a = p
  · subst q; rw [upd_same] at e; rw [← Option.some.inj e]; exact h
  · rw [upd_ne q] at e; exact sz a u e
theorem Step.lent {S : List Addr} {Z Zb H Z1 H1 : Hp} (zf : Same Z Zb) (e : Step S Zb H Z1 H1) : Step S Z H Z H1 := ⟨Same.refl _, zf.trans (e.z.trans e.s), e.h, fun _ _ z => z, e.al⟩
/-! ### statements -/
theorem st_nx {nx bk ct : L2.St → Hp → Prop} {rt : VK} (h : nx σ H) : Ends.nx ⟨nx, rt, bk, ct⟩ σ H := h
theorem st_next0 {nx bk ct : L2.St → Hp → Prop} {rt : VK} (h : nx σ H) : tNext ⟨nx, rt, bk, ct⟩ σ H := h
theorem st_next (h : D.nx σ H) : tNext D σ H := h
theorem st_seq (h : u { D with nx := w D } σ H) : tSeq u w D σ H := h
theorem st_set {R : Rr M.fp} {i : Nat} (P : Pt S Z0 H0 M Z H s) (e : Ev M te σ Z H s R s1) (k : ∀ v Z1 H1, Step M.fp Z H Z1 H1 → Pt S Z0 H0 M Z1 H1 s1 → R.r Z1 H1 v → D.nx (σ.set i (some v)) H1) : tAsg te (gName i) D σ H :=
  e Z H (Same.refl _) SameX.refl P.sub P.m _ fun v Z1 H1 e m r => k v Z1 H1 e (P.next e m) r
theorem st_asg {R : Rr M.fp} {g : TG} (P : Pt S Z0 H0 M Z H s) (e : Ev M te σ Z H s R s1) (k : ∀ v Z1 H1, Step M.fp Z H Z1 H1 → Pt S Z0 H0 M Z1 H1 s1 → R.r Z1 H1 v → ∃ σ2, Tgt g v σ σ2 Z1 ∧ D.nx σ2 H1) : tAsg te g D σ H :=
  e Z H (Same.refl _) SameX.refl P.sub P.m _ fun v Z1 H1 e m r => by
    obtain ⟨σ2, tg, q⟩ := k v Z1 H1 e (P.next e m) r
    exact tg H1 e.s _ q
theorem st_ret {R : Rr M.fp} (P : Pt S Z0 H0 M Z H s) (e : Ev M te σ Z H s R s1) (k : ∀ v Z1 H1, Pt S Z0 H0 M Z1 H1 s1 → R.r Z1 H1 v → D.rt v H1) : tRet te D σ H :=
  e Z H (Same.refl _) SameX.refl P.sub P.m _ fun v Z1 H1 e m r => k v Z1 H1 (P.next e m) r
theorem st_expr {R : Rr M.fp} (P : Pt S Z0 H0 M Z H s) (e : Ev M te σ Z H s R s1) (k : ∀ Z1 H1, Step M.fp Z H Z1 H1 → Pt S Z0 H0 M Z1 H1 s1 → D.nx σ H1) : tDrop te D σ H :=
  e Z H (Same.refl _) SameX.refl P.sub P.m _ fun v Z1 H1 e m r => k Z1 H1 e (P.next e m)
theorem st_if {b : Bool} {tt : TT} (P : Pt S Z0 H0 M Z H s) (e : EvT M tt σ Z H s b s1) (ht : b = true → ∀ Z1 H1, Step M.fp Z H Z1 H1 → Pt S Z0 H0 M Z1 H1 s1 → u D σ H1) (hf : b = false → ∀ Z1 H1, Step M.fp Z H Z1 H1 → Pt S Z0 H0 M Z1 H1 s1 → w D σ H1) : tIfS tt u w D σ H :=
  e Z H (Same.refl _) SameX.refl P.sub P.m _ fun Z1 H1 e' m => by
    cases b with
    | true => rw [if_pos rfl]; exact ht rfl Z1 H1 e' (P.next e' m)
    | false => rw [if_neg Bool.false_ne_true]; exact hf rfl Z1 H1 e' (P.next e' m)
theorem st_ifB {b : Bool} {tt : TT} {Zb : Hp} (bk : M.Back) (P : Pt S Z0 H0 M Z H s) (zf : Same Z Zb) (sb : Same Zb H) (mb : M.m s Zb H) (e : EvT M tt σ Zb H s b s1) (ht : b = true → ∀ Z1 H1, Step M.fp Z H Z1 H1 → Pt S Z0 H0 M Z1 H1 s1 → u D σ H1) (hf : b = false → ∀ Z1 H1, Step M.fp Z H Z1 H1 → Pt S Z0 H0 M Z1 H1 s1 → w D σ H1) : tIfS tt u w D σ H :=
  e Zb H (Same.refl _) SameX.refl sb mb _ fun Z1 H1 e' m => by
    have e2 := Step.lent zf e'
    have m2 := bk (zf.trans e'.z) P.m m
    cases b with
    | true => rw [if_pos rfl]; exact ht rfl Z H1 e2 (P.next e2 m2)
    | false => rw [if_neg Bool.false_ne_true]; exact hf rfl Z H1 e2 (P.next e2 m2)
theorem st_aug {i : Nat} {a b : Int} {v : V} {f : Int → Int → Int} (P : Pt S Z0 H0 M Z H s) (hσ : σ[i]? = some (some v)) (hv : v = .int a) (e : Ev M te σ Z H s (ty yInt b) s1) (k : ∀ v Z1 H1, Step M.fp Z H Z1 H1 → Pt S Z0 H0 M Z1 H1 s1 → yInt.r Z1 v (f a b) → D.nx (σ.set i (some v)) H1) : tAug i te (ipI f) D σ H :=
  ⟨v, hσ, e Z H (Same.refl _) SameX.refl P.sub P.m _ fun v' Z1 H1 e m r => ⟨a, b, hv, r, k _ Z1 H1 e (P.next e m) rfl⟩⟩
section
variable {α β : Type} {τ : Ty α} {υ : Ty β} {xs ys : List α} {p : Addr} {x : α}
/-- a new list of one's own -/
theorem st_setN {i : Nat} (P : Pt S Z0 H0 M Z H s) (e : EvN M te σ Z H s τ xs s1) (k : ∀ p Z1 H1, Step M.fp Z H Z1 H1 → Pt S Z0 H0 M Z1 H1 s1 → H p = none → Own S H0 M.fp Z1 H1 τ p xs → D.nx (σ.set i (some (.ref p))) H1) : tAsg te (gName i) D σ H :=
  e Z H (Same.refl _) SameX.refl P.sub P.m _ fun p vs Z1 H1 e m hp zp h1 t l => k p Z1 H1 e (P.next e m) hp ⟨⟨vs, h1, t⟩, zp, fun hf => (M.al P.m p hf).1 hp, same_x P.st hp, l⟩
theorem Pt.set {o : HO} (P : Pt S Z0 H0 M Z H s) (hz : Z p = none) (n : p ∉ M.fp) (mine : p ∈ S ∨ H0 p = none) : Pt S Z0 H0 M Z (upd H p o) s := by
  refine ⟨P.st.mine (Step.set P.sub hz) fun a h => by rw [List.mem_singleton] at h; rw [h]; exact mine, M.loc (Same.refl _) (fun a ha u e => ?_) (fun _ _ _ z => z) P.m, P.mine⟩
  rw [upd_ne (fun q => n (by rw [← q]; exact ha))]
  exact e
theorem step2 {F : List Addr} {Z1 H1 : Hp} {o : HO} (e : Step F Z H Z1 H1) (hz : Z1 p = none) : Step (p :: F) Z H Z1 (upd H1 p o) :=
  (e.weak fun _ h => .inl (List.mem_cons_of_mem _ h)).mine (Step.set e.s hz) fun a h => by rw [List.mem_singleton] at h; rw [h]; exact .inl List.mem_cons_self
/-- xs.append(x) -/
theorem st_append {i : Nat} (P : Pt S Z0 H0 M Z H s) (o : Own S H0 M.fp Z H τ p xs) (hσ : σ[i]? = some (some (.ref p))) (e : Ev M te σ Z H s (ty τ x) s1) (l : xs.length < sizeLine)
    (k : ∀ Z1 H1, Step (p :: M.fp) Z H Z1 H1 → Pt S Z0 H0 M Z1 H1 s1 → Own S H0 M.fp Z1 H1 τ p (xs ++ [x]) → D.nx σ H1) : tDrop (tBM K "list" rAppend (tVar i) (tCons te tNil)) D σ H := by
  obtain ⟨vs, h, t⟩ := o.ex
  refine ⟨.ref p, hσ, .inl ⟨rfl, _, .inl (.inl h)⟩, e Z H (Same.refl _) SameX.refl P.sub P.m _ fun v Z1 H1 e m r => ?_⟩
  have o1 := o.next e
  have P1 := P.next e m
  refine ⟨p, vs, v, rfl, rfl, e.h _ _ o.n h, by rw [t.len]; exact l, ?_⟩
  exact k _ _ (step2 e o1.z) (P1.set o1.z o.n (.inr o.mine)) ⟨⟨_, upd_same, (t.imp fun _ _ => τ.mono e.z).snoc r⟩, o1.z, o.n, o.mine, by rw [List.length_append]; show xs.length + 1 ≤ _; omega⟩
/-- xs.extend(ys) -/
theorem st_extend {i : Nat} (P : Pt S Z0 H0 M Z H s) (o : Own S H0 M.fp Z H τ p xs) (hσ : σ[i]? = some (some (.ref p))) (e : Ev M te σ Z H s (ty (yList τ) ys) s1) (l : xs.length + ys.length ≤ sizeLine)
    (k : ∀ Z1 H1, Step (p :: M.fp) Z H Z1 H1 → Pt S Z0 H0 M Z1 H1 s1 → Own S H0 M.fp Z1 H1 τ p (xs ++ ys) → D.nx σ H1) : tDrop (tBM K "list" rExtend (tVar i) (tCons te tNil)) D σ H := by
  obtain ⟨vs, h, t⟩ := o.ex
  refine ⟨.ref p, hσ, .inl ⟨rfl, _, .inl (.inl h)⟩, e Z H (Same.refl _) SameX.refl P.sub P.m _ fun v Z1 H1 e m ⟨q, ws, ev, hq, t2, _⟩ => ?_⟩
  subst ev
  have o1 := o.next e
  have P1 := P.next e m
  refine ⟨p, q, vs, ws, rfl, rfl, e.h _ _ o.n h, e.s _ _ hq, by rw [t.len, t2.len]; exact l, ?_⟩
  exact k _ _ (step2 e o1.z) (P1.set o1.z o.n (.inr o.mine)) ⟨⟨_, upd_same, (t.imp fun _ _ => τ.mono e.z).app t2⟩, o1.z, o.n, o.mine, by rw [List.length_append]; exact l⟩
/-- xs[i] = x -/
theorem st_setitem {i : Nat} {j : Int} {n : Nat} {tj : TE} (P : Pt S Z0 H0 M Z H s) (o : Own S H0 M.fp Z H τ p xs) (hσ : σ[i]? = some (some (.ref p))) (e : Ev M te σ Z H s (ty τ x) s1) (ej : ∀ Z1 H1, Step M.fp Z H Z1 H1 → Ev M tj σ Z1 H1 s1 (ty yInt j) s2) (hj : ixN xs.length j = some n)
    (k : ∀ Z1 H1, Step (p :: M.fp) Z H Z1 H1 → Pt S Z0 H0 M Z1 H1 s2 → Own S H0 M.fp Z1 H1 τ p (xs.set n x) → D.nx σ H1) : tAsg te (gSub (tVar i) tj rSetL) D σ H := by
  obtain ⟨vs, h, t⟩ := o.ex
  refine e Z H (Same.refl _) SameX.refl P.sub P.m _ fun v Z1 H1 e m r => ⟨.ref p, hσ, ej Z1 H1 e Z1 H1 (Same.refl _) SameX.refl e.s m _ fun v2 Z2 H2 e2 m2 r2 => ?_⟩
  have o1 := (o.next e).next e2
  have P1 := (P.next e m).next e2 m2
  refine ⟨p, vs, j, n, rfl, r2, e2.h _ _ o.n (e.h _ _ o.n h), by rw [t.len]; exact hj, ?_⟩
  exact k _ _ (step2 (e.trans e2) o1.z) (P1.set o1.z o.n (.inr o.mine)) ⟨⟨_, upd_same, (t.imp fun _ _ => τ.mono (e.trans e2).z).set (τ.mono e2.z r) n⟩, o1.z, o.n, o.mine, by rw [List.length_set]; exact o.l⟩
end
/-! ### loops -/
inductive Flow (ρ β : Type)
  | go (b : β) | brk (b : β) | ret (r : ρ)
def forF {α β : Type} (f : α → β → Option β) : List α → β → Option β
  | [], b => some b
  | x :: r, b => (f x b).bind fun b' => forF f r b'
def Flow.nxt {ρ β : Type} (k : β → Option (Flow ρ β)) : Flow ρ β → Option (Flow ρ β)
  | .go b => k b
  | .brk b => some (.go b)
  | .ret y => some (.ret y)
def Flow.thn {ρ β γ : Type} (k : β → Option γ) (g : ρ → Option γ) : Flow ρ β → Option γ
  | .go b => k b
  | .brk b => k b
  | .ret y => g y
def forS {ρ α β : Type} (f : α → β → Option (Flow ρ β)) : List α → β → Option (Flow ρ β)
  | [], b => some (.go b)
  | x :: r, b => (f x b).bind (Flow.nxt (forS f r))
def whileS {ρ β : Type} (f : β → Option (Flow ρ β)) : Nat → β → Option (Flow ρ β)
  | 0, _ => none
  | n + 1, b => (f b).bind (Flow.nxt (whileS f n))
section
variable {ρ α β γ : Type} {k : β → Option (Flow ρ β)} {f : α → β → Option (Flow ρ β)} {f' : α → β → Option β} {x : α} {r : List α} {b : β} {y : ρ} {q : Flow ρ β}
theorem nxt_go (h : Flow.nxt k (.go b) = some q) : k b = some q := h
theorem nxt_brk (h : Flow.nxt k (.brk b) = some q) : q = .go b := (Option.some.inj h).symm
theorem nxt_ret (h : Flow.nxt k (.ret y) = some q) : q = .ret y := (Option.some.inj h).symm
theorem go_inv {k : β → Option γ} {g : ρ → Option γ} {z : γ} (h : Flow.thn k g (.go b) = some z) : k b = some z := h
theorem ret_inv {k : β → Option γ} {g : ρ → Option γ} {z : γ} (h : Flow.thn k g (.ret y) = some z) : g y = some z := h
theorem forS_cons (h : forS f (x :: r) b = some q) : (f x b).bind (Flow.nxt (forS f r)) = some q := h
theorem forS_nil (h : forS f [] b = some q) : q = .go b := (Option.some.inj h).symm
theorem forF_cons {c : β} (h : forF f' (x :: r) b = some c) : (f' x b).bind (fun b' => forF f' r b') = some c := h
theorem forF_nil {c : β} (h : forF f' [] b = some c) : c = b := (Option.some.inj h).symm
end
section
variable {α β : Type} {τ : Ty α} {xs : List α}
/-- what a turn is to reach -/
def LoopW (I : List α → L2.St → Hp → Hp → Prop) (Z1 : Hp) (r : List α) : L2.St → Hp → Prop := fun σ H => ∃ Z, Same Z1 Z ∧ Same Z H ∧ I r σ Z H
/-- I: what is true ahead of the turns for the rest of the items -/
theorem st_for {wi : TI} {g : TG} (I : List α → L2.St → Hp → Hp → Prop) (P : Pt S Z0 H0 M Z H s) (hi : EvI M (fun _ _ => True) wi σ Z H s τ xs s1)
    (h0 : ∀ Z1 H1, Step M.fp Z H Z1 H1 → Pt S Z0 H0 M Z1 H1 s1 → I xs σ Z1 H1)
    (hs : ∀ Z1 H1, Step M.fp Z H Z1 H1 → ∀ x r σ' v Z' H' Z2 H2, Same Z1 Z' → I (x :: r) σ' Z' H' → Step [] Z' H' Z2 H2 → τ.r Z2 v x →
      g v σ' H2 fun σ2 H3 => u { D with nx := LoopW I Z1 r, ct := LoopW I Z1 r, bk := D.nx } σ2 H3)
    (hd : ∀ σ' Z' H', Same Z Z' → Same Z' H' → I [] σ' Z' H' → D.nx σ' H') : tFor wi g u D σ H := by
  refine hi Z H (Same.refl _) SameX.refl P.sub P.m _ fun J Z1 H1 e m ⟨_, G, Y, wk, hG, hY⟩ => ?_
  refine for_it wk (fun i => LoopW I Z1 (xs.drop i)) ⟨Z1, Same.refl _, e.s, by rw [List.drop_zero]; exact h0 Z1 H1 e (P.next e m)⟩ ?_ ?_ ?_
  · rintro i σ' H' _ ⟨Z', sa, sb, _⟩
    exact hG Z' H' sa sb trivial
  · rintro i v σ' H3 H4 hin ⟨Z', sa, sb, hI⟩ y
    obtain ⟨Z4, x, ex, st4, rx⟩ := hY i Z' H3 v H4 hin sa sb (hG Z' H3 sa sb trivial) y
    have hd : xs.drop i = x :: xs.drop (i + 1) := by
      rw [List.drop_eq_getElem_cons hin]
      rw [List.getElem?_eq_getElem hin] at ex
      rw [Option.some.inj ex]
    rw [hd] at hI
    exact hs Z1 H1 e x _ σ' v Z' H3 Z4 H4 sa hI st4 rx
  · rintro σ' H' ⟨Z', sa, sb, hI⟩
    rw [List.drop_length] at hI
    exact hd σ' Z' H' (e.z.trans sa) sb hI
end
theorem bind_inv {α β : Type} {o : Option α} {f : α → Option β} {y : β} (h : o.bind f = some y) : ∃ x, o = some x ∧ f x = some y := Option.bind_eq_some_iff.mp h
theorem guard_inv {c : Prop} [Decidable c] {β : Type} {o : Option β} {y : β} (h : (if c then o else none) = some y) : c ∧ o = some y := by
  by_cases hc : c
  · rw [if_pos hc] at h; exact ⟨hc, h⟩
  · rw [if_neg hc] at h; cases h
theorem ifT {β : Type} {b : Bool} {o p y : β} (hb : b = true) (h : (if b = true then o else p) = y) : o = y := by rw [if_pos hb] at h; exact h
theorem ifF {β : Type} {b : Bool} {o p y : β} (hb : b = false) (h : (if b = true then o else p) = y) : p = y := by rw [if_neg (by rw [hb]; exact Bool.false_ne_true)] at h; exact h
theorem Pt.item {Z1 H1 : Hp} (P : Pt S Z0 H0 M Z H s) (e : Step [] Z H Z1 H1) : Pt S Z0 H0 M Z1 H1 s := P.next e.pure (M.pure e P.m)
theorem Mu.away {x : Addr} {Z1 H1 : Hp} (e : Step [x] Z H Z1 H1) (nx : x ∉ M.fp) (m : M.m s Z H) : M.m s Z1 H1 :=
  M.loc e.z (fun a ha o ho => e.h a o (fun q => nx (by rw [List.mem_singleton] at q; rw [← q]; exact ha)) ho) (fun a _ h z => e.n a h z) m
/-- self.f = e, self new -/
theorem st_fld {α : Type} {τ : Ty α} {x : α} {i : Nat} {p C dx : Addr} {fs : List (Str × V)} {f : Str} {tv : TE} (P : Pt S Z0 H0 M Z H s) (hp : H p = some (.ins C dx fs)) (zp : Z p = none) (np : p ∉ M.fp) (mp : p ∈ S ∨ H0 p = none) (hσ : σ[i]? = some (some (.ref p)))
    (e : Ev M tv σ Z H s (ty τ x) s1) (c : Cls K C) (n : NoAttr K C f) (l : fs.length < 1000) (k : ∀ v Z1 H1, Step (p :: M.fp) Z H Z1 H1 → Pt S Z0 H0 M Z1 H1 s1 → τ.r Z1 v x → H1 p = some (.ins C dx (putF f v fs)) → Z1 p = none → D.nx σ H1) : sFld K (tVar i) tv f D σ H :=
  e Z H (Same.refl _) SameX.refl P.sub P.m _ fun v Z1 H1 e m r => by
    have h1 : H1 p = some (.ins C dx fs) := e.h _ _ np hp
    have z1 : Z1 p = none := e.n p (some_ne hp) zp
    exact ⟨.ref p, hσ, p, C, dx, fs, rfl, h1, c, n, l, k v Z1 _ (step2 e z1) ((P.next e m).set z1 np mp) r upd_same z1⟩
/-- a list of one's own in the block of a comprehension -/
theorem ev_oX {α : Type} {τ : Ty α} {xs : List α} {p : Addr} {i : Nat} {Z1 H1 : Hp} (o : Own S H0 M.fp Z H τ p xs) (zz : Same Z Z1) (hh : SameX M.fp H H1) (e : σ[i]? = some (some (.ref p))) : Ev M (tVar i) σ Z1 H1 s (li τ xs) s := by
  obtain ⟨vs, h, t⟩ := o.ex
  exact ev_own e (hh _ _ o.n h) o.n (t.imp fun _ _ => τ.mono zz) o.l
end
/-! ### the draws -/
structure DS where
  ns : List Int
  k : Nat
  x : Nat
def rowZ (ns : List Int) (k : Nat) : Int :=
  let c0 := ns.getD k 0
  let c := if c0 < 0 then -2 * c0 - 1 else c0
  if c < 10 ^ 9 then
    let a := (c * 48271 + k * 69621 + 11) % 2147483647
    let b := (a * 16807 + c * 7 + k + 5) % 2147483629
    let d := (b * 39373 + a * b + 3) % 2147483587
    a + b * 2147483647 + d * 2147483647 ^ 2
  else c
def DS.cur (s : DS) (m : Int) : Nat := if (s.x : Int) < m then (rowZ s.ns s.k).toNat else s.x
def nxV (s : DS) (m : Int) : Int := (s.cur m : Int) % m
def nxS (s : DS) (m : Int) : DS := ⟨s.ns, if (s.x : Int) < m then s.k + 1 else s.k, ((s.cur m : Int) / m).toNat⟩
theorem nx_ge (s : DS) {m : Int} (h : 0 < m) : 0 ≤ nxV s m := Int.emod_nonneg _ (by omega)
theorem nx_lt (s : DS) {m : Int} (h : 0 < m) : nxV s m < m := Int.emod_lt_of_pos _ h
def NxOk (m : Int) : Prop := 0 < m ∧ m.natAbs < 2 ^ 200
instance {m : Int} : Decidable (NxOk m) := inferInstanceAs (Decidable (_ ∧ _))
def muD (st sc : Addr) : Mu DS where
  fp := [st]
  m := fun s Z H => H st = some (.lst [.ref sc, .int (s.k : Nat), .int (s.x : Nat)]) ∧ Z sc = some (.lst (s.ns.map V.int)) ∧ Z st = none
  al := fun ⟨h, _, z⟩ a ha => by rw [List.mem_singleton] at ha; subst ha; exact ⟨some_ne h, z⟩
  loc := fun sz hk hn ⟨h, hs, z⟩ => ⟨hk _ List.mem_cons_self _ h, sz _ _ hs, hn _ List.mem_cons_self (some_ne h) z⟩
theorem muD_back {st sc : Addr} : (muD st sc).Back := fun sz ⟨_, hs, z⟩ ⟨h', hs', _⟩ => ⟨h', by rw [hs, ← hs', sz _ _ hs], z⟩
section
variable {K : PySem.W.Frag} {σ : L2.St} {H : Hp} {D : Ends}
theorem st_draws {r : List V → Hp → VK → Prop} {a : Addr} {ns : List Int} {i j : Nat} (hA : SqL K H a (ns.map V.int)) (hlen : ns.length ≤ 63) (k : ∀ st sc Z0 Z1 H1, Pt [] Z0 H (muD st sc) Z1 H1 ⟨ns, 0, 0⟩ → D.nx (σ.set i (some (.ref st))) H1)
    (hr : ∀ xs H Q, (∃ p ys, xs = [.ref p] ∧ (SqL K H p ys ∨ SqT K H p ys) ∧ ∀ l, H l = none → Q (.ref l) (upd H l (.lst ys))) → r xs H Q := by exact fun _ _ _ h => h) (hσ : σ[j]? = some (some (.ref a)) := by rfl) :
    tAsg (tLst (tCons (tCB r (tCons (tVar j) tNil)) (tCons (tC (.int 0)) (tCons (tC (.int 0)) tNil)))) (gName i) D σ H := by
  refine ⟨.ref a, hσ, hr _ _ _ ⟨a, _, rfl, .inl hA, fun sc hsc => ?_⟩⟩
  refine ⟨by show 3 ≤ sizeLine; decide, fun st hst => ?_⟩
  have s0 : Same (fun _ => none : Hp) H := fun _ _ h => by cases h
  have e1 := Step.new (o := .lst (ns.map V.int)) s0 hsc
  have e2 := Step.own (o := .lst [.ref sc, .int 0, .int 0]) e1.s hst
  exact k st sc (fun _ => none) _ _ ⟨e1.trans e2, ⟨upd_same, upd_same, by rw [upd_ne (fun q => by rw [q, upd_same] at hst; cases hst)]⟩, fun x hx => by rw [show x = st from List.mem_singleton.mp hx]; exact .inr (same_x e1 hst)⟩
end
end TP
namespace TP
open PySem PySem.Spec PyProof.Rows L2
section
variable {μ : Type} {S : List Addr} {Z0 H0 : Hp} {M : Mu μ} {σ : L2.St} {Z H : Hp} {s s' s1 s2 s3 : μ} {ta tb tc te : TE} {t : TA} {K : PySem.W.Frag} {D : Ends} {u w : TS}
theorem whileS_cons {ρ β : Type} {f : β → Option (Flow ρ β)} {n : Nat} {b : β} {q : Flow ρ β} (h : whileS f n b = some q) : ∃ k, n = k + 1 ∧ (f b).bind (Flow.nxt (whileS f k)) = some q := by
  cases n with
  | zero => cases h
  | succ k => exact ⟨k, rfl, h⟩
def WhW (I : Nat → L2.St → Hp → Hp → Prop) (k : Nat) : L2.St → Hp → Prop := fun σ H => ∃ Z, I k σ Z H
theorem st_while {c : TT} {tb : TS} (I : Nat → L2.St → Hp → Hp → Prop) (n : Nat) (P : Pt S Z0 H0 M Z H s) (h0 : I n σ Z H)
    (hs : ∀ n σ' Z' H', I n σ' Z' H' → ∃ k s s1 b, n = k + 1 ∧ Pt S Z0 H0 M Z' H' s ∧ EvT M c σ' Z' H' s b s1 ∧ (b = true → ∀ Z1 H1, Step M.fp Z' H' Z1 H1 → Pt S Z0 H0 M Z1 H1 s1 → tb { D with nx := WhW I k, ct := WhW I k, bk := D.nx } σ' H1) ∧
      (b = false → ∀ Z1 H1, Step M.fp Z' H' Z1 H1 → Pt S Z0 H0 M Z1 H1 s1 → D.nx σ' H1)) : tWhile c tb D σ H := by
  refine ⟨fun m σ H => ∃ Z, I m σ Z H, ⟨n, Z, h0⟩, ?_⟩
  rintro m σ' H' ⟨Z', hI⟩
  obtain ⟨k, s, s1, b, rfl, P, et, ht, hf⟩ := hs m σ' Z' H' hI
  refine et Z' H' (Same.refl _) SameX.refl P.sub P.m _ fun Z1 H1 e m => ?_
  cases b with
  | true =>
    rw [if_pos rfl]
    exact ⟨WhW I k, fun σ3 H3 h3 => ⟨k, Nat.lt_succ_self _, h3⟩, ht rfl Z1 H1 e (P.next e m)⟩
  | false =>
    rw [if_neg Bool.false_ne_true]
    exact hf rfl Z1 H1 e (P.next e m)
end
end TP

namespace TP
open PySem PySem.Spec PyProof.Rows L2
section
variable {μ : Type} {S : List Addr} {Z0 H0 : Hp} {M : Mu μ} {σ : L2.St} {Z H : Hp} {s s' s1 s2 s3 : μ} {ta tb tc te : TE} {t : TA} {K : PySem.W.Frag} {D : Ends} {u w : TS}
/-! ### isinstance -/
theorem ev_isi {r : List V → Hp → VK → Prop} {R : Rr M.fp} {c : V} {v t : Value} {b : Bool} (hr : ∀ xs H Q, rIsi K xs H Q → r xs H Q) (ha : Ev M ta σ Z H s R s1) (tx : ∀ Z H v, Same Z H → R.r Z H v → TyX K H v t) (hc : ClsV c v) (hk : PySem.W.kitOne K t v = some b) :
    Ev M (tCB r (tCons ta (tCons (tC c) tNil))) σ Z H s (ty yBool b) s1 :=
  ev_cb (Rs := rac R (rac ⟨fun _ _ v => v = c, fun _ h => h⟩ ra0)) (eva_cons ha (eva_cons (ev_of fun _ _ _ _ _ _ q => q _ rfl) eva_nil)) fun _ _ _ sz ⟨x, r1, e1, h1, y, r2, e2, h2, e3⟩ _ q => by
    cases e3; cases e2; cases e1
    have h2' : y = c := h2
    subst h2'
    exact hr _ _ _ ⟨x, y, t, v, b, rfl, hc, tx _ _ _ sz h1, hk, q _ _ _ (Step.refl sz) rfl⟩
section
variable {fp : List Addr} {α β γ δ : Type} {τ : Ty α} {υ : Ty β} {φ : Ty γ} {ψ : Ty δ}
theorem tx_int {x : Int} : ∀ Z H v, Same Z H → (ty (fp := fp) yInt x).r Z H v → TyX K H v (.type "int") := fun _ _ _ _ h => by cases h; exact .base (.int _)
theorem tx_bool {x : Bool} : ∀ Z H v, Same Z H → (ty (fp := fp) yBool x).r Z H v → TyX K H v (.type "bool") := fun _ _ _ _ h => by cases h; exact .base (.bl _)
theorem tx_str {x : Str} : ∀ Z H v, Same Z H → (ty (fp := fp) yStr x).r Z H v → TyX K H v (.type "str") := fun _ _ _ _ h => by rw [h.1]; exact .base (.str _)
theorem tx_li {x : List α} : ∀ Z H v, Same Z H → (li (fp := fp) τ x).r Z H v → TyX K H v (.type "list") := fun _ _ _ sz h => by
  obtain ⟨p, vs, rfl, g, _, _⟩ := rdl sz h
  exact .base (.lst g)
theorem tx_sqT {H : Hp} {a : Addr} {vs : List V} (h : SqT K H a vs) : TyX K H (.ref a) (.type "tuple") := by
  rcases h with (h | ⟨o, h⟩) | ⟨o, its, n, h, hc, _⟩
  · exact .base (.tup h)
  · exact .fTuple h
  · exact .kTuple h hc
theorem tx_tup {x : List α} : ∀ Z H v, Same Z H → (ty (fp := fp) (yTup K τ) x).r Z H v → TyX K H v (.type "tuple") := fun _ _ _ sz ⟨a, vs, e, h, _⟩ => by subst e; exact tx_sqT (seqT_same sz h)
theorem tx_p2 {x : α × β} : ∀ Z H v, Same Z H → (ty (fp := fp) (yP2 K τ υ) x).r Z H v → TyX K H v (.type "tuple") := fun _ _ _ sz ⟨a, _, _, e, h, _⟩ => by subst e; exact tx_sqT (seqT_same sz h)
theorem tx_p3 {x : α × β × γ} : ∀ Z H v, Same Z H → (ty (fp := fp) (yP3 K τ υ φ) x).r Z H v → TyX K H v (.type "tuple") := fun _ _ _ sz ⟨a, _, _, _, e, h, _⟩ => by subst e; exact tx_sqT (seqT_same sz h)
end
end
end TP

namespace TP
open PySem PySem.Spec PyProof.Rows L2
/-! on, where what is bound is known: proofs that are no rfl, so that the kernel evaluates nothing -/
theorem bsome {α β : Type} {x : α} {f : α → Option β} : (some x).bind f = f x := by rw [Option.bind_some]
theorem bnone {α β : Type} {f : α → Option β} : (none : Option α).bind f = none := of_eq_true (eq_self _)
theorem thn_go {ρ β γ : Type} {b : β} {k : β → Option γ} {g : ρ → Option γ} : Flow.thn k g (.go b) = k b := by simp only [Flow.thn]
theorem thn_brk {ρ β γ : Type} {b : β} {k : β → Option γ} {g : ρ → Option γ} : Flow.thn k g (.brk b) = k b := by simp only [Flow.thn]
theorem thn_ret {ρ β γ : Type} {y : ρ} {k : β → Option γ} {g : ρ → Option γ} : Flow.thn k g (.ret y) = g y := by simp only [Flow.thn]
theorem forF_foldl {α β : Type} {f : α → β → Option β} {g : β → α → β} (h : ∀ x b, f x b = some (g b x)) : ∀ (xs : List α) (b : β), forF f xs b = some (xs.foldl g b)
  | [], _ => rfl
  | x :: r, b => by
    show (f x b).bind _ = _
    rw [h x b]
    exact forF_foldl h r _
theorem forF_inv {α β : Type} {f : α → β → Option β} {I : Nat → β → Prop} {m : Nat} (h : ∀ n x b, n < m → I n b → ∃ b', f x b = some b' ∧ I (n + 1) b') : ∀ (xs : List α) (n : Nat) (b : β), n + xs.length ≤ m → I n b → ∃ b', forF f xs b = some b' ∧ I (n + xs.length) b'
  | [], _, b, _, i => ⟨b, rfl, i⟩
  | x :: r, n, b, l, i => by
    rw [List.length_cons] at l
    obtain ⟨b1, e, i1⟩ := h n x b (by omega) i
    obtain ⟨b2, e2, i2⟩ := forF_inv h r (n + 1) b1 (by omega) i1
    refine ⟨b2, ?_, by rw [List.length_cons, show n + (r.length + 1) = n + 1 + r.length by omega]; exact i2⟩
    show (f x b).bind _ = _
    rw [e]
    exact e2
theorem forS_inv {ρ α β : Type} {f : α → β → Option (Flow ρ β)} {I : Nat → β → Prop} {m : Nat} (h : ∀ n x b, n < m → I n b → ∃ b', f x b = some (.go b') ∧ I (n + 1) b') : ∀ (xs : List α) (n : Nat) (b : β), n + xs.length ≤ m → I n b → ∃ b', forS f xs b = some (.go b') ∧ I (n + xs.length) b'
  | [], _, b, _, i => ⟨b, rfl, i⟩
  | x :: r, n, b, l, i => by
    rw [List.length_cons] at l
    obtain ⟨b1, e, i1⟩ := h n x b (by omega) i
    obtain ⟨b2, e2, i2⟩ := forS_inv h r (n + 1) b1 (by omega) i1
    refine ⟨b2, ?_, by rw [List.length_cons, show n + (r.length + 1) = n + 1 + r.length by omega]; exact i2⟩
    show (f x b).bind _ = _
    rw [e]
    exact e2
theorem mapS_all {α β μ : Type} {f : α → μ → Option (β × μ)} {R : β → Prop} (h : ∀ x s, ∃ y s', f x s = some (y, s') ∧ R y) : ∀ (xs : List α) (s : μ), ∃ ys s', mapS f xs s = some (ys, s') ∧ ys.length = xs.length ∧ ∀ y ∈ ys, R y
  | [], s => ⟨[], s, rfl, rfl, fun _ h => nomatch h⟩
  | x :: r, s => by
    obtain ⟨y, s1, e, hy⟩ := h x s
    obtain ⟨ys, s2, e2, l, hs⟩ := mapS_all h r s1
    refine ⟨y :: ys, s2, ?_, congrArg Nat.succ l, fun z hz => ?_⟩
    · show (f x s).bind _ = _
      rw [e]
      show (mapS f r s1).bind _ = _
      rw [e2]
      rfl
    · rcases List.mem_cons.mp hz with rfl | hz
      · exact hy
      · exact hs z hz
theorem cutA_none {α : Type} (xs : List α) {c : Int} (h : 0 ≤ c) : cutA xs none (some c) = xs.take c.toNat := by
  obtain ⟨k, rfl⟩ := Int.eq_ofNat_of_zero_le h
  unfold cutA
  rw [HT.sIx_none, HT.sIx_nat, List.drop_zero, Nat.sub_zero, Int.toNat_natCast]
  by_cases q : k ≤ xs.length
  · rw [Nat.min_eq_left q]
  · rw [Nat.min_eq_right (by omega), List.take_length, List.take_of_length_le (by omega)]
theorem cutA_to {α : Type} (xs : List α) {a c : Int} (h : 0 ≤ a) (h2 : a ≤ c) (h3 : c ≤ xs.length) : cutA xs (some a) (some c) = (xs.drop a.toNat).take (c - a).toNat := by
  obtain ⟨k, rfl⟩ := Int.eq_ofNat_of_zero_le h
  obtain ⟨m, rfl⟩ := Int.eq_ofNat_of_zero_le (show 0 ≤ c by omega)
  unfold cutA
  rw [HT.sIx_nat, HT.sIx_nat, Nat.min_eq_left (by omega), Nat.min_eq_left (by omega), Int.toNat_natCast, show ((m : Int) - (k : Int)).toNat = m - k by omega]
theorem cutA_from {α : Type} (xs : List α) {a : Int} (h : 0 ≤ a) : cutA xs (some a) none = xs.drop a.toNat := by
  obtain ⟨k, rfl⟩ := Int.eq_ofNat_of_zero_le h
  unfold cutA
  rw [HT.sIx_nat, HT.sIx_none, Int.toNat_natCast]
  by_cases q : k ≤ xs.length
  · rw [Nat.min_eq_left q, List.take_of_length_le (by rw [List.length_drop]; omega)]
  · rw [Nat.min_eq_right (by omega), List.drop_length, List.drop_of_length_le (by omega)]
    simp
theorem ixN_of {n : Nat} {i : Int} (h : 0 ≤ i) (l : i < n) : ixN n i = some i.toNat := by
  obtain ⟨k, rfl⟩ := Int.eq_ofNat_of_zero_le h
  rw [Int.toNat_natCast]
  unfold ixN
  split <;> first | rfl | omega | (split <;> first | rfl | omega) | skip
theorem atI_of {α : Type} {xs : List α} {i : Int} (h : 0 ≤ i) : L2.atI xs i = xs[i.toNat]? := by
  by_cases l : i < xs.length
  · unfold L2.atI
    rw [ixN_of h l]
    rfl
  · rw [List.getElem?_eq_none (by omega)]
    obtain ⟨k, rfl⟩ := Int.eq_ofNat_of_zero_le h
    unfold L2.atI ixN
    split <;> first | rfl | (split <;> first | rfl | omega) | skip
theorem nxOk_of {m : Int} (h : 0 < m) (l : m < 2 ^ 199) : NxOk m := ⟨h, by
  have : m.natAbs < 2 ^ 199 := by
    have e : (2 : Int) ^ 199 = ((2 ^ 199 : Nat) : Int) := by decide
    rw [e] at l
    omega
  exact Nat.lt_trans this (by decide)⟩
theorem rangeOk_of {a b : Int} (h : 0 ≤ a) (h1 : a ≤ 16777216) (l : b ≤ 16777216) (l2 : -16777216 ≤ b) : RangeOk a b := ⟨⟨by omega, by omega⟩, ⟨by omega, by omega⟩, by omega⟩
end TP
namespace TP
open PySem PySem.Spec PyProof.Rows L2
theorem forF_idx {α β : Type} {f : α → β → Option β} {I : Nat → β → Prop} : ∀ (xs : List α) (k : Nat) (b : β), (∀ n x b, xs[n]? = some x → I (k + n) b → ∃ b', f x b = some b' ∧ I (k + n + 1) b') → I k b → ∃ b', forF f xs b = some b' ∧ I (k + xs.length) b'
  | [], k, b, _, i => ⟨b, rfl, i⟩
  | x :: r, k, b, h, i => by
    obtain ⟨b1, e1, i1⟩ := h 0 x b rfl i
    obtain ⟨b2, e2, i2⟩ := forF_idx (I := I) r (k + 1) b1 (fun n y b' hy ib => by
      have := h (n + 1) y b' (by simpa using hy) (by rw [show k + (n + 1) = k + 1 + n by omega]; exact ib)
      rw [show k + 1 + n + 1 = k + (n + 1) + 1 by omega]
      exact this) i1
    refine ⟨b2, ?_, by rw [List.length_cons, show k + (r.length + 1) = k + 1 + r.length by omega]; exact i2⟩
    show (f x b).bind _ = _
    rw [e1]
    exact e2
theorem forS_idx {ρ α β : Type} {f : α → β → Option (Flow ρ β)} {I : Nat → β → Prop} : ∀ (xs : List α) (k : Nat) (b : β), (∀ n x b, xs[n]? = some x → I (k + n) b → ∃ b', f x b = some (.go b') ∧ I (k + n + 1) b') → I k b → ∃ b', forS f xs b = some (.go b') ∧ I (k + xs.length) b'
  | [], k, b, _, i => ⟨b, rfl, i⟩
  | x :: r, k, b, h, i => by
    obtain ⟨b1, e1, i1⟩ := h 0 x b rfl i
    obtain ⟨b2, e2, i2⟩ := forS_idx (I := I) r (k + 1) b1 (fun n y b' hy ib => by
      have := h (n + 1) y b' (by simpa using hy) (by rw [show k + (n + 1) = k + 1 + n by omega]; exact ib)
      rw [show k + 1 + n + 1 = k + (n + 1) + 1 by omega]
      exact this) i1
    refine ⟨b2, ?_, by rw [List.length_cons, show k + (r.length + 1) = k + 1 + r.length by omega]; exact i2⟩
    show (f x b).bind _ = _
    rw [e1]
    exact e2
theorem rangeZ_get {lo hi : Int} {n : Nat} {x : Int} (h : (rangeZ lo hi)[n]? = some x) : x = lo + (n : Int) ∧ (n : Int) < hi - lo := by
  have l := (List.getElem?_eq_some_iff.mp h).1
  rw [rangeZ_len] at l
  unfold rangeZ at h
  rw [List.getElem?_map, List.getElem?_range l] at h
  exact ⟨(Option.some.inj h).symm, by omega⟩
/-- a loop over range(m) that always goes on -/
theorem forF_rng {β : Type} {f : Int → β → Option β} (I : Nat → β → Prop) {m : Int} {b : β} (h0 : I 0 b) (h : ∀ (n : Nat) b, (n : Int) < m → I n b → ∃ b', f (n : Int) b = some b' ∧ I (n + 1) b') : ∃ b', forF f (rangeZ 0 m) b = some b' ∧ I m.toNat b' := by
  obtain ⟨b', e, i⟩ := forF_idx (f := f) (I := I) (rangeZ 0 m) 0 b (fun n x b hx ib => by
    obtain ⟨rfl, hm⟩ := rangeZ_get hx
    rw [Nat.zero_add] at ib ⊢
    obtain ⟨b', e, i⟩ := h n b (by omega) ib
    exact ⟨b', by rw [show (0 : Int) + (n : Int) = n by omega]; exact e, i⟩) h0
  refine ⟨b', e, ?_⟩
  rw [Nat.zero_add, rangeZ_len, Int.sub_zero] at i
  exact i
theorem forS_rng {ρ β : Type} {f : Int → β → Option (Flow ρ β)} (I : Nat → β → Prop) {m : Int} {b : β} (h0 : I 0 b) (h : ∀ (n : Nat) b, (n : Int) < m → I n b → ∃ b', f (n : Int) b = some (.go b') ∧ I (n + 1) b') : ∃ b', forS f (rangeZ 0 m) b = some (.go b') ∧ I m.toNat b' := by
  obtain ⟨b', e, i⟩ := forS_idx (f := f) (I := I) (rangeZ 0 m) 0 b (fun n x b hx ib => by
    obtain ⟨rfl, hm⟩ := rangeZ_get hx
    rw [Nat.zero_add] at ib ⊢
    obtain ⟨b', e, i⟩ := h n b (by omega) ib
    exact ⟨b', by rw [show (0 : Int) + (n : Int) = n by omega]; exact e, i⟩) h0
  refine ⟨b', e, ?_⟩
  rw [Nat.zero_add, rangeZ_len, Int.sub_zero] at i
  exact i
/-- enumerate, from k on -/
def enumF {α : Type} : Int → List α → List (Int × α)
  | _, [] => []
  | k, x :: r => (k, x) :: enumF (k + 1) r
theorem enumZ_eq {α : Type} (xs : List α) : enumZ xs = enumF 0 xs := by
  have key : ∀ (xs : List α) (k : Nat), ((List.range xs.length).map fun (i : Nat) => ((k + i : Nat) : Int)).zip xs = enumF (k : Int) xs := fun xs => by
    induction xs with
    | nil => intro k; rfl
    | cons x r ih =>
      intro k
      rw [List.length_cons, List.range_succ_eq_map, List.map_cons, List.map_map, List.zip_cons_cons]
      show (((k + 0 : Nat) : Int), x) :: _ = ((k : Int), x) :: enumF ((k : Int) + 1) r
      have := ih (k + 1)
      rw [Nat.add_zero]
      congr 1
      have e : ((k + 1 : Nat) : Int) = (k : Int) + 1 := by omega
      rw [← e, ← this]
      congr 2
      funext i
      show ((k + (i + 1) : Nat) : Int) = ((k + 1 + i : Nat) : Int)
      omega
  have := key xs 0
  unfold enumZ rangeZ
  rw [Int.sub_zero, Int.toNat_natCast]
  refine Eq.trans ?_ this
  congr 2
end TP

namespace TP
open PySem PySem.Spec PyProof.Rows L2
section
variable {α β γ μ : Type}
theorem mapO_eq {f : α → Option β} {g : α → β} : ∀ {xs : List α}, (∀ x ∈ xs, f x = some (g x)) → mapO f xs = some (xs.map g)
  | [], _ => rfl
  | x :: r, h => by
    show (f x).bind _ = _
    rw [h x List.mem_cons_self, Option.bind_some, mapO_eq fun y hy => h y (List.mem_cons_of_mem _ hy)]
    rfl
theorem mapO_ex {f : α → Option β} {R : β → Prop} : ∀ {xs : List α}, (∀ x ∈ xs, ∃ y, f x = some y ∧ R y) → ∃ ys, mapO f xs = some ys ∧ ys.length = xs.length ∧ ∀ y ∈ ys, R y
  | [], _ => ⟨[], rfl, rfl, fun _ h => nomatch h⟩
  | x :: r, h => by
    obtain ⟨y, e, hy⟩ := h x List.mem_cons_self
    obtain ⟨ys, e2, l, hs⟩ := mapO_ex fun y hy => h y (List.mem_cons_of_mem _ hy)
    refine ⟨y :: ys, ?_, congrArg Nat.succ l, fun z hz => ?_⟩
    · show (f x).bind _ = _
      rw [e, Option.bind_some, e2]
      rfl
    · rcases List.mem_cons.mp hz with rfl | hz
      · exact hy
      · exact hs z hz
/-- a comprehension that draws, with a fact of the items -/
theorem mapS_mem {f : α → μ → Option (β × μ)} {R : β → Prop} : ∀ {xs : List α} (s : μ), (∀ x ∈ xs, ∀ s, ∃ y s', f x s = some (y, s') ∧ R y) → ∃ ys s', mapS f xs s = some (ys, s') ∧ ys.length = xs.length ∧ ∀ y ∈ ys, R y
  | [], s, _ => ⟨[], s, rfl, rfl, fun _ h => nomatch h⟩
  | x :: r, s, h => by
    obtain ⟨y, s1, e, hy⟩ := h x List.mem_cons_self s
    obtain ⟨ys, s2, e2, l, hs⟩ := mapS_mem s1 fun y hy => h y (List.mem_cons_of_mem _ hy)
    refine ⟨y :: ys, s2, ?_, congrArg Nat.succ l, fun z hz => ?_⟩
    · show (f x s).bind _ = _
      rw [e]
      show (mapS f r s1).bind _ = _
      rw [e2]
      rfl
    · rcases List.mem_cons.mp hz with rfl | hz
      · exact hy
      · exact hs z hz
theorem forF_mem {f : α → β → Option β} {I : β → Prop} : ∀ {xs : List α} {b : β}, I b → (∀ x ∈ xs, ∀ b, I b → ∃ b', f x b = some b' ∧ I b') → ∃ b', forF f xs b = some b' ∧ I b'
  | [], b, i, _ => ⟨b, rfl, i⟩
  | x :: r, b, i, h => by
    obtain ⟨b1, e, i1⟩ := h x List.mem_cons_self b i
    obtain ⟨b2, e2, i2⟩ := forF_mem i1 fun y hy => h y (List.mem_cons_of_mem _ hy)
    refine ⟨b2, ?_, i2⟩
    show (f x b).bind _ = _
    rw [e]
    exact e2
theorem forS_mem {ρ : Type} {f : α → β → Option (Flow ρ β)} {I : β → Prop} : ∀ {xs : List α} {b : β}, I b → (∀ x ∈ xs, ∀ b, I b → ∃ b', f x b = some (.go b') ∧ I b') → ∃ b', forS f xs b = some (.go b') ∧ I b'
  | [], b, i, _ => ⟨b, rfl, i⟩
  | x :: r, b, i, h => by
    obtain ⟨b1, e, i1⟩ := h x List.mem_cons_self b i
    obtain ⟨b2, e2, i2⟩ := forS_mem i1 fun y hy => h y (List.mem_cons_of_mem _ hy)
    refine ⟨b2, ?_, i2⟩
    show (f x b).bind _ = _
    rw [e]
    exact e2
/-- the loop by places: what is true behind n items -/
theorem forF_take {f : α → β → Option β} {I : List α → β → Prop} {xs : List α} {b : β} (h0 : I [] b) (h : ∀ p x r b, xs = p ++ x :: r → I p b → ∃ b', f x b = some b' ∧ I (p ++ [x]) b') : ∃ b', forF f xs b = some b' ∧ I xs b' := by
  have key : ∀ (r p : List α) (b : β), xs = p ++ r → I p b → ∃ b', forF f r b = some b' ∧ I xs b' := fun r => by
    induction r with
    | nil => intro p b e i; rw [List.append_nil] at e; exact ⟨b, rfl, e ▸ i⟩
    | cons x r ih =>
      intro p b e i
      obtain ⟨b1, e1, i1⟩ := h p x r b e i
      obtain ⟨b2, e2, i2⟩ := ih (p ++ [x]) b1 (by rw [e]; simp) i1
      refine ⟨b2, ?_, i2⟩
      show (f x b).bind _ = _
      rw [e1]
      exact e2
  exact key xs [] b rfl h0
theorem forS_take {ρ : Type} {f : α → β → Option (Flow ρ β)} {I : List α → β → Prop} {xs : List α} {b : β} (h0 : I [] b) (h : ∀ p x r b, xs = p ++ x :: r → I p b → ∃ b', f x b = some (.go b') ∧ I (p ++ [x]) b') : ∃ b', forS f xs b = some (.go b') ∧ I xs b' := by
  have key : ∀ (r p : List α) (b : β), xs = p ++ r → I p b → ∃ b', forS f r b = some (.go b') ∧ I xs b' := fun r => by
    induction r with
    | nil => intro p b e i; rw [List.append_nil] at e; exact ⟨b, rfl, e ▸ i⟩
    | cons x r ih =>
      intro p b e i
      obtain ⟨b1, e1, i1⟩ := h p x r b e i
      obtain ⟨b2, e2, i2⟩ := ih (p ++ [x]) b1 (by rw [e]; simp) i1
      refine ⟨b2, ?_, i2⟩
      show (f x b).bind _ = _
      rw [e1]
      exact e2
  exact key xs [] b rfl h0
theorem str_len1 {c : Nat} : (⟨#[c]⟩ : Str).length = 1 := rfl
theorem str_app_len (x y : Str) : (x ++ y).length = x.length + y.length := by
  show (x.cps ++ y.cps).size = _
  rw [Array.size_append]; rfl
/-- == of data that are compared by their terms -/
theorem EqD.eqvB {K : PySem.W.Frag} {τ : Ty α} {d : α → PyData} {n : Nat} (E : EqD K τ d n) [DecidableEq α] (x y : α) : PyData.eqv (d x) (d y) = decide (x = y) := Bool.eq_iff_iff.mpr ((E.eqv x y).trans decide_eq_true_iff.symm)
theorem atI_lit {xs : List α} {i : Int} (h : 0 ≤ i) (l : i < xs.length) : ∃ x, L2.atI xs i = some x ∧ x ∈ xs := by
  rw [atI_of h]
  obtain ⟨k, rfl⟩ := Int.eq_ofNat_of_zero_le h
  rw [Int.toNat_natCast]
  have hk : k < xs.length := by omega
  exact ⟨xs[k], List.getElem?_eq_getElem hk, List.getElem_mem hk⟩
/-- a loop that looks at each item and may say no -/
theorem forS_all {ρ : Type} {f : α → Unit → Option (Flow ρ Unit)} {p : α → Bool} {r : ρ} : ∀ {xs : List α}, (∀ x ∈ xs, f x () = some (if p x = true then .go () else .ret r)) → forS f xs () = some (if xs.all p = true then .go () else .ret r)
  | [], _ => rfl
  | x :: t, h => by
    show (f x ()).bind _ = _
    rw [h x List.mem_cons_self, bsome]
    cases hp : p x with
    | true =>
      rw [if_pos rfl, List.all_cons, hp, Bool.true_and]
      exact forS_all fun y hy => h y (List.mem_cons_of_mem _ hy)
    | false =>
      rw [if_neg Bool.false_ne_true, List.all_cons, hp, Bool.false_and, if_neg Bool.false_ne_true]
      rfl
theorem rangeZ_mem {lo hi x : Int} (h : x ∈ rangeZ lo hi) : lo ≤ x ∧ x < hi := by
  unfold rangeZ at h
  obtain ⟨i, hi', rfl⟩ := List.mem_map.mp h
  have := List.mem_range.mp hi'
  omega
theorem rangeZ_map (n : Nat) (f : Int → α) : (rangeZ 0 (n : Int)).map f = (List.range n).map fun (k : Nat) => f (k : Int) := by
  unfold rangeZ
  rw [List.map_map, Int.sub_zero, Int.toNat_natCast]
  refine List.map_congr_left fun k _ => ?_
  show f (0 + (k : Int)) = f k
  rw [Int.zero_add]
theorem atI_nat {xs : List α} {k : Nat} {x : α} (h : xs[k]? = some x) : L2.atI xs (k : Int) = some x := by
  rw [atI_of (by omega), Int.toNat_natCast, h]
theorem fmO_eq {f : α → Option (Option β)} {p : α → Bool} {g : α → β} : ∀ {xs : List α}, (∀ x ∈ xs, f x = some (if p x = true then some (g x) else none)) → fmO f xs = some ((xs.filter p).map g)
  | [], _ => rfl
  | x :: t, h => by
    show (f x).bind _ = _
    rw [h x List.mem_cons_self, bsome, fmO_eq fun y hy => h y (List.mem_cons_of_mem _ hy), bsome]
    cases hp : p x with
    | true => rw [if_pos rfl, List.filter_cons_of_pos hp]; rfl
    | false => rw [if_neg Bool.false_ne_true, List.filter_cons_of_neg (by rw [hp]; exact Bool.false_ne_true)]
end
end TP

namespace TP
open PySem PySem.Spec PyProof.Rows L2
/-! ### exceptions -/
/-- a value, or an exception -/
inductive Res (ε α : Type)
  | ok (a : α) | er (e : ε)
deriving DecidableEq
def Res.thn {ε α γ : Type} (g : ε → Option γ) (k : α → Option γ) : Res ε α → Option γ
  | .ok a => k a
  | .er e => g e
section
variable {ε α γ : Type} {g : ε → Option γ} {k : α → Option γ} {y : γ}
theorem rok_inv {a : α} (h : Res.thn g k (.ok a) = some y) : k a = some y := h
theorem rer_inv {e : ε} (h : Res.thn g k (.er e) = some y) : g e = some y := h
end
section
variable {μ : Type} {S : List Addr} {Z0 H0 : Hp} {M : Mu μ} {σ : L2.St} {Z H : Hp} {s s' s1 s2 s3 : μ} {ta tb tc te : TE} {t : TA} {K : PySem.W.Frag} {D : Ends} {u w : TS} {X : Hp → Prop}
/-- the expression raises: X is asked of the heap then -/
def EvE (M : Mu μ) (t : TE) (σ : L2.St) (Z H : Hp) (s : μ) (X : Hp → Prop) (s' : μ) : Prop :=
  ∀ Z1 H1, Same Z Z1 → SameX M.fp H H1 → Same Z1 H1 → M.m s Z1 H1 → ∀ Q : VK, (∀ Z2 H2, Step M.fp Z1 H1 Z2 H2 → M.m s' Z2 H2 → X H2) → t σ H1 Q
def EvAE (M : Mu μ) (t : TA) (σ : L2.St) (Z H : Hp) (s : μ) (X : Hp → Prop) (s' : μ) : Prop :=
  ∀ Z1 H1, Same Z Z1 → SameX M.fp H H1 → Same Z1 H1 → M.m s Z1 H1 → ∀ Q : List V → Hp → Prop, (∀ Z2 H2, Step M.fp Z1 H1 Z2 H2 → M.m s' Z2 H2 → X H2) → t σ H1 Q
def EvTE (M : Mu μ) (t : TT) (σ : L2.St) (Z H : Hp) (s : μ) (X : Hp → Prop) (s' : μ) : Prop :=
  ∀ Z1 H1, Same Z Z1 → SameX M.fp H H1 → Same Z1 H1 → M.m s Z1 H1 → ∀ Q : Bool → Hp → Prop, (∀ Z2 H2, Step M.fp Z1 H1 Z2 H2 → M.m s' Z2 H2 → X H2) → t σ H1 Q
/-- for arguments of which Rs is true the promise raises: the class cls -/
def CallE (M : Mu μ) (sp : Sp) (E : XK) (Rs : Ra M.fp) (s : μ) (cls : Value) (s' : μ) : Prop :=
  ∀ Z H vs, Same Z H → M.m s Z H → Rs.r Z H vs → ∀ Q : VK, (∀ Z2 H2, Step M.fp Z H Z2 H2 → M.m s' Z2 H2 → E cls none H2) → sp vs H Q E
def InitE (M : Mu μ) (C : Addr) (sp : Sp) (E : XK) (Rs : Ra M.fp) (s : μ) (cls : Value) (s' : μ) : Prop :=
  ∀ Z H vs x dx, Same Z H → M.m s Z H → Rs.r Z H vs → H x = some (.ins C dx []) → Z x = none → x ∉ M.fp → ∀ Q : VK, (∀ Z2 H2, Step (x :: M.fp) Z H Z2 H2 → M.m s' Z2 H2 → E cls none H2) → sp (.ref x :: vs) H Q E
theorem eae_head (ha : EvE M ta σ Z H s X s1) : EvAE M (tCons ta t) σ Z H s X s1 := fun Z1 H1 a b c d _ q => ha Z1 H1 a b c d _ q
theorem eae_tail {R : Rr M.fp} (ha : Ev M ta σ Z H s R s1) (hr : EvAE M t σ Z H s1 X s2) : EvAE M (tCons ta t) σ Z H s X s2 :=
  fun Z1 H1 a b c d _ q => ha Z1 H1 a b c d _ fun _ Z2 H2 e m _ => hr Z2 H2 (a.trans e.z) (b.trans e.h) e.s m _ fun Z3 H3 e2 m2 => q Z3 H3 (e.trans e2) m2
theorem eve_args {sp : Sp} {E : XK} {dvs : List V} (ha : EvAE M t σ Z H s X s1) : EvE M (tCall sp dvs E t) σ Z H s X s1 := fun Z1 H1 a b c d _ q => ha Z1 H1 a b c d _ q
theorem eve_cb {r : List V → Hp → VK → Prop} (ha : EvAE M t σ Z H s X s1) : EvE M (tCB r t) σ Z H s X s1 := fun Z1 H1 a b c d _ q => ha Z1 H1 a b c d _ q
theorem eve_tup (ha : EvAE M t σ Z H s X s1) : EvE M (tTup t) σ Z H s X s1 := fun Z1 H1 a b c d _ q => ha Z1 H1 a b c d _ q
theorem eve_lst (ha : EvAE M t σ Z H s X s1) : EvE M (tLst t) σ Z H s X s1 := fun Z1 H1 a b c d _ q => ha Z1 H1 a b c d _ q
theorem eve_left {r : R2} (ha : EvE M ta σ Z H s X s1) : EvE M (tOp r ta tb) σ Z H s X s1 := fun Z1 H1 a b c d _ q => ha Z1 H1 a b c d _ q
theorem eve_right {r : R2} {R : Rr M.fp} (ha : Ev M ta σ Z H s R s1) (hb : EvE M tb σ Z H s1 X s2) : EvE M (tOp r ta tb) σ Z H s X s2 :=
  fun Z1 H1 a b c d _ q => ha Z1 H1 a b c d _ fun _ Z2 H2 e m _ => hb Z2 H2 (a.trans e.z) (b.trans e.h) e.s m _ fun Z3 H3 e2 m2 => q Z3 H3 (e.trans e2) m2
theorem eve_fld {f : Str} (ha : EvE M ta σ Z H s X s1) : EvE M (tFld K ta f) σ Z H s X s1 := fun Z1 H1 a b c d _ q => ha Z1 H1 a b c d _ q
theorem eve_call {sp : Sp} {E : XK} {Rs : Ra M.fp} {cls : Value} (C : CallE M sp E Rs s1 cls s2) (ha : EvA M t σ Z H s Rs s1) : EvE M (tCall sp [] E t) σ Z H s (E cls none) s2 :=
  fun Z1 H1 a b c d Q q => ha Z1 H1 a b c d _ fun vs Z2 H2 e m rs => by
    rw [List.append_nil]
    exact C Z2 H2 vs e.s m rs Q fun Z3 H3 e2 m2 => q Z3 H3 (e.trans e2) m2
theorem eve_meth {α : Type} {τ : Ty α} {x : α} {C' : Addr} {m : Str} {sp : Sp} {E : XK} {Rs : Ra M.fp} {cls : Value} (O : ObjOf τ C' m) (C : CallE M sp E (rac (ty τ x) Rs) s2 cls s3) (hx : Ev M ta σ Z H s (ty τ x) s1) (ha : EvA M t σ Z H s1 Rs s2) : EvE M (tMeth C' m sp [] E ta t) σ Z H s (E cls none) s3 :=
  fun Z1 H1 a b c d Q q => hx Z1 H1 a b c d _ fun v Z2 H2 e mm rv => by
    obtain ⟨p, dx, fs, rfl, hp, l⟩ := O _ _ _ rv
    refine ⟨p, dx, fs, rfl, e.s _ _ hp, l, ha Z2 H2 (a.trans e.z) (b.trans e.h) e.s mm _ fun vs Z3 H3 e2 m2 rs => ?_⟩
    rw [List.append_nil]
    exact C Z3 H3 _ e2.s m2 ⟨_, vs, rfl, τ.mono e2.z rv, rs⟩ Q fun Z4 H4 e3 m3 => q Z4 H4 ((e.trans e2).trans e3) m3
theorem eve_methA {α : Type} {τ : Ty α} {x : α} {C' : Addr} {m : Str} {sp : Sp} {E : XK} (O : ObjOf τ C' m) (hx : Ev M ta σ Z H s (ty τ x) s1) (ha : EvAE M t σ Z H s1 X s2) : EvE M (tMeth C' m sp [] E ta t) σ Z H s X s2 :=
  fun Z1 H1 a b c d Q q => hx Z1 H1 a b c d _ fun v Z2 H2 e mm rv => by
    obtain ⟨p, dx, fs, rfl, hp, l⟩ := O _ _ _ rv
    exact ⟨p, dx, fs, rfl, e.s _ _ hp, l, ha Z2 H2 (a.trans e.z) (b.trans e.h) e.s mm _ fun Z3 H3 e2 m2 => q Z3 H3 (e.trans e2) m2⟩
theorem eve_methO {C' : Addr} {m : Str} {sp : Sp} {E : XK} (hx : EvE M ta σ Z H s X s1) : EvE M (tMeth C' m sp [] E ta t) σ Z H s X s1 := fun Z1 H1 a b c d _ q => hx Z1 H1 a b c d _ q
theorem eve_makeA {C : Addr} {sp : Sp} {E : XK} (ha : EvAE M t σ Z H s X s1) : EvE M (tMake C sp [] E t) σ Z H s X s1 := fun Z1 H1 a b c d _ q => ha Z1 H1 a b c d _ q
theorem eve_makeKA {C : Addr} {n k : Nat} {sp : Sp} {E : XK} {gV : List V → List V → List V} {tk : TA} (ha : EvAE M t σ Z H s X s1) : EvE M (tMakeK C n k sp gV E t tk) σ Z H s X s1 := fun Z1 H1 a b c d _ q => ha Z1 H1 a b c d _ q
theorem Step.drop {S : List Addr} {Z H Z1 H1 : Hp} {x : Addr} (g : Step (x :: S) Z H Z1 H1) (hx : H x = none) : Step S Z H Z1 H1 := g.weak fun a h => by
  rcases List.mem_cons.mp h with e | h
  · exact .inr (e ▸ hx)
  · exact .inl h
theorem eve_make {C : Addr} {sp : Sp} {E : XK} {Rs : Ra M.fp} {cls : Value} (I : InitE M C sp E Rs s1 cls s2) (ha : EvA M t σ Z H s Rs s1) : EvE M (tMake C sp [] E t) σ Z H s (E cls none) s2 :=
  fun Z1 H1 a b c d Q q => ha Z1 H1 a b c d _ fun vs Z2 H2 e m rs x dx hx hd ne => by
    rw [List.append_nil]
    have st := Step.dict (C := C) e.s hx hd ne
    have nf : x ∉ M.fp := fun h => (M.al m x h).1 hx
    refine I Z2 _ vs x dx st.s (M.pure st m) (Rs.st st.pure rs) upd_same (same_none e.s hx) nf _ fun Z3 H3 e2 m2 => ?_
    exact q _ _ (e.trans (((st.pure (S := x :: M.fp)).trans e2).drop hx)) m2
theorem eve_makeK {C : Addr} {n k : Nat} {sp : Sp} {E : XK} {Rs Rk Rs' : Ra M.fp} {cls : Value} {gV : List V → List V → List V} {tk : TA} (I : InitE M C sp E Rs' s2 cls s3) (ha : EvA M t σ Z H s Rs s1) (hk : EvA M tk σ Z H s1 Rk s2)
    (hg : ∀ Z H vs zs x, Rs.r Z H vs → Rk.r Z H zs → vs.length = n ∧ zs.length = k ∧ ∃ ws, gV (.ref x :: vs) zs = .ref x :: ws ∧ Rs'.r Z H ws) : EvE M (tMakeK C n k sp gV E t tk) σ Z H s (E cls none) s3 :=
  fun Z1 H1 a b c d Q q => ha Z1 H1 a b c d _ fun vs Z2 H2 e m rs => hk Z2 H2 (a.trans e.z) (b.trans e.h) e.s m _ fun zs Z3 H3 e1 m1 rk => by
    have rs3 := Rs.st e1 rs
    obtain ⟨l1, l2, _⟩ := hg Z3 H3 vs zs 0 rs3 rk
    refine ⟨l1, l2, fun x dx hx hd ne => ?_⟩
    obtain ⟨_, _, ws, eg, rw'⟩ := hg Z3 H3 vs zs x rs3 rk
    rw [eg]
    have st := Step.dict (C := C) e1.s hx hd ne
    have nf : x ∉ M.fp := fun h => (M.al m1 x h).1 hx
    refine I Z3 _ ws x dx st.s (M.pure st m1) (Rs'.st st.pure rw') upd_same (same_none e1.s hx) nf _ fun Z4 H4 e2 m2 => ?_
    exact q _ _ ((e.trans e1).trans (((st.pure (S := x :: M.fp)).trans e2).drop hx)) m2
/-- defaults for all that are not written -/
theorem ev_makeD {C : Addr} {dvs : List V} {sp : Sp} {E : XK} {Rs Rs' : Ra M.fp} {R : Rr M.fp} (I : InitS M C sp E Rs' s1 R s2) (ha : EvA M t σ Z H s Rs s1) (hg : ∀ Z H vs, Rs.r Z H vs → Rs'.r Z H (vs ++ dvs)) : Ev M (tMake C sp dvs E t) σ Z H s R s2 :=
  fun Z1 H1 a b c d Q q => ha Z1 H1 a b c d _ fun vs Z2 H2 e m rs x dx hx hd ne => by
    have st := Step.dict (C := C) e.s hx hd ne
    have nf : x ∉ M.fp := fun h => (M.al m x h).1 hx
    refine I Z2 _ (vs ++ dvs) x dx st.s (M.pure st m) (hg _ _ _ (Rs.st st.pure rs)) upd_same (same_none e.s hx) nf _ fun Z3 H3 o e2 m2 ho rv => ⟨rfl, ?_⟩
    have hz3 : Z3 x = none := e2.n x (by rw [upd_same]; exact fun z => nomatch z) (same_none e.s hx)
    have e3 : Step M.fp Z2 H2 (upd Z3 x o) H3 := ((st.pure (S := x :: M.fp)).trans e2).freeze hx ho hz3
    refine q _ _ _ (e.trans e3) (M.loc (same_upd hz3) (fun _ _ _ e => e) (fun a ha _ z => ?_) m2) rv
    rw [upd_ne (fun q => nf (by rw [← q]; exact ha))]
    exact z
theorem eve_makeD {C : Addr} {dvs : List V} {sp : Sp} {E : XK} {Rs Rs' : Ra M.fp} {cls : Value} (I : InitE M C sp E Rs' s1 cls s2) (ha : EvA M t σ Z H s Rs s1) (hg : ∀ Z H vs, Rs.r Z H vs → Rs'.r Z H (vs ++ dvs)) : EvE M (tMake C sp dvs E t) σ Z H s (E cls none) s2 :=
  fun Z1 H1 a b c d Q q => ha Z1 H1 a b c d _ fun vs Z2 H2 e m rs x dx hx hd ne => by
    have st := Step.dict (C := C) e.s hx hd ne
    have nf : x ∉ M.fp := fun h => (M.al m x h).1 hx
    refine I Z2 _ (vs ++ dvs) x dx st.s (M.pure st m) (hg _ _ _ (Rs.st st.pure rs)) upd_same (same_none e.s hx) nf _ fun Z3 H3 e2 m2 => ?_
    exact q _ _ (e.trans (((st.pure (S := x :: M.fp)).trans e2).drop hx)) m2
/-! a call that is known not to raise -/
end
def Res.val {ε α : Type} (o : Option (Res ε α)) : Option α := o.bind (Res.thn (fun _ => none) some)
def Res.valS {ε α μ : Type} (o : Option (Res ε α × μ)) : Option (α × μ) := o.bind fun p => Res.thn (fun _ => none) (fun a => some (a, p.2)) p.1
theorem val_inv {ε α : Type} {o : Option (Res ε α)} {v : α} (h : Res.val o = some v) : o = some (.ok v) := by
  cases o with
  | none => cases h
  | some r =>
    cases r with
    | ok a => rw [show a = v from Option.some.inj h]
    | er e => cases h
theorem valS_inv {ε α μ : Type} {o : Option (Res ε α × μ)} {v : α × μ} (h : Res.valS o = some v) : o = some (.ok v.1, v.2) := by
  cases o with
  | none => cases h
  | some r =>
    obtain ⟨r, s⟩ := r
    cases r with
    | ok a => rw [← Option.some.inj h]
    | er e => cases h
section
variable {μ : Type} {S : List Addr} {Z0 H0 : Hp} {M : Mu μ} {σ : L2.St} {Z H : Hp} {s s' s1 s2 s3 : μ} {ta tb tc te : TE} {t : TA} {K : PySem.W.Frag} {D : Ends} {u w : TS} {X : Hp → Prop}
/-! tests that raise -/
theorem ete_val (h : EvE M te σ Z H s X s1) : EvTE M (tB te) σ Z H s X s1 := fun Z1 H1 p q r d _ k => h Z1 H1 p q r d _ k
theorem ete_cmp (h : EvE M te σ Z H s X s1) : EvTE M (tTest te) σ Z H s X s1 := fun Z1 H1 p q r d _ k => h Z1 H1 p q r d _ k
theorem ete_not {tA : TT} (h : EvTE M tA σ Z H s X s1) : EvTE M (tNot tA) σ Z H s X s1 := fun Z1 H1 p q r d _ k => h Z1 H1 p q r d _ k
/-! statements that raise -/
theorem st_setE {g : TG} (P : Pt S Z0 H0 M Z H s) (e : EvE M te σ Z H s X s1) (k : ∀ Z1 H1, Step M.fp Z H Z1 H1 → Pt S Z0 H0 M Z1 H1 s1 → X H1) : tAsg te g D σ H :=
  e Z H (Same.refl _) SameX.refl P.sub P.m _ fun Z1 H1 e m => k Z1 H1 e (P.next e m)
theorem st_retE (P : Pt S Z0 H0 M Z H s) (e : EvE M te σ Z H s X s1) (k : ∀ Z1 H1, Step M.fp Z H Z1 H1 → Pt S Z0 H0 M Z1 H1 s1 → X H1) : tRet te D σ H :=
  e Z H (Same.refl _) SameX.refl P.sub P.m _ fun Z1 H1 e m => k Z1 H1 e (P.next e m)
theorem st_exprE (P : Pt S Z0 H0 M Z H s) (e : EvE M te σ Z H s X s1) (k : ∀ Z1 H1, Step M.fp Z H Z1 H1 → Pt S Z0 H0 M Z1 H1 s1 → X H1) : tDrop te D σ H :=
  e Z H (Same.refl _) SameX.refl P.sub P.m _ fun Z1 H1 e m => k Z1 H1 e (P.next e m)
theorem st_ifE {tt : TT} (P : Pt S Z0 H0 M Z H s) (e : EvTE M tt σ Z H s X s1) (k : ∀ Z1 H1, Step M.fp Z H Z1 H1 → Pt S Z0 H0 M Z1 H1 s1 → X H1) : tIfS tt u w D σ H :=
  e Z H (Same.refl _) SameX.refl P.sub P.m _ fun Z1 H1 e m => k Z1 H1 e (P.next e m)
/-- a field of the thing that is being made -/
theorem ev_selfF {α : Type} {τ : Ty α} {x : α} {i : Nat} {p C dx : Addr} {fs : List (Str × V)} {f : Str} {v : V} (hp : H p = some (.ins C dx fs)) (np : p ∉ M.fp) (hσ : σ[i]? = some (some (.ref p))) (c : Cls K C) (n : NoAttr K C f) (l : fs.lookup f = some v) (hv : τ.r Z v x) : Ev M (tFld K (tVar i) f) σ Z H s (ty τ x) s :=
  fun Z1 H1 a b c' d Q q => ⟨.ref p, hσ, p, C, dx, fs, v, rfl, b _ _ np hp, c, n, l, q _ _ _ (Step.refl c') d (τ.mono a hv)⟩
end
end TP
namespace TP
open PySem PySem.Spec PyProof.Rows L2

theorem pi_tupB {X : Cx} {K : PySem.W.Frag} (hK : X.K = K) {tg l : Expr} {tl : TE} (hl : PE X l tl) : PI X tg l (iTup K tl) := by
  subst hK
  exact pi_tup hl
theorem pi_listB {X : Cx} {K : PySem.W.Frag} (hK : X.K = K) {tg l : Expr} {tl : TE} (hl : PE X l tl) : PI X tg l (iList K tl) := by
  subst hK
  exact pi_list hl
def rLenB (K : PySem.W.Frag) : List V → Hp → VK → Prop := fun xs H Q => ∃ p ys, xs = [.ref p] ∧ (SqL K H p ys ∨ SqT K H p ys) ∧ Q (.int ys.length) H
def rListB (K : PySem.W.Frag) : List V → Hp → VK → Prop := fun xs H Q => ∃ p ys, xs = [.ref p] ∧ (SqL K H p ys ∨ SqT K H p ys) ∧ ∀ l, H l = none → Q (.ref l) (upd H l (.lst ys))
def rTupleB (K : PySem.W.Frag) : List V → Hp → VK → Prop := fun xs H Q => ∃ p ys, xs = [.ref p] ∧ ((SqL K H p ys ∧ ∀ l, H l = none → Q (.ref l) (upd H l (.tup ys))) ∨ (SqT K H p ys ∧ Q (.ref p) H))
theorem pe_fldB {X : Cx} {K : PySem.W.Frag} (hK : X.K = K) {e : Expr} {f : Str} {pos : Pos} {ta : TE} (he : PE X e ta) (hb : attributeBase e f X.env (eval e X.env) = eval e X.env) : PE X (.Attribute e f pos) (tFld K ta f) := by
  subst hK
  exact pe_fld he hb
end TP

namespace TP
open PySem PySem.Spec PyProof.Rows L2
theorem kit_self {K : PySem.W.Frag} {C : Addr} : PySem.W.kitOne K (.ref C) (.ref C) = some true := by
  unfold PySem.W.kitOne
  rw [if_pos (by simp)]
theorem kit_sub {K : PySem.W.Frag} {t : Value} {C : Addr} {v : Bool} (h1 : PySem.W.isClsIn K C = true) (h2 : PySem.W.typeIn K (.ref C) = some (.type "type")) (h3 : PySem.W.subIn K t (.ref C) = some v) (h4 : (t == .ref C) = false) : PySem.W.kitOne K t (.ref C) = some v := by
  unfold PySem.W.kitOne
  rw [h4, if_neg Bool.false_ne_true]
  unfold PySem.W.kitCls
  have h1' : (PySem.W.clsIn K C).isSome = true := h1
  simp only [h1', h2, Bool.true_and]
  simp [h3]
theorem kit_subN {K : PySem.W.Frag} {t : Value} {C : Addr} (h1 : PySem.W.isClsIn K C = true) (h2 : PySem.W.typeIn K (.ref C) = some (.type "type")) (h3 : PySem.W.subIn K t (.ref C) = some false) (h4 : PySem.W.subIn K (.ref C) (.ref C) = some true) : PySem.W.kitOne K t (.ref C) = some false := by
  refine kit_sub h1 h2 h3 ?_
  cases e : (t == .ref C) with
  | false => rfl
  | true =>
    have e' : t = .ref C := beq_iff_eq.mp e
    rw [e', h4] at h3
    cases h3
theorem nf_self {K : PySem.W.Frag} {C : Addr} : PySem.W.notFirst K C (.ref C) = true := by simp [PySem.W.notFirst]
theorem nf_sub {K : PySem.W.Frag} {C : Addr} {t : Value} (h : PySem.W.subIn K t (.ref C) = some false) : PySem.W.notFirst K C t = true := by simp [PySem.W.notFirst, h]
end TP

namespace TP
open PySem PySem.Spec PyProof.Rows L2
/-! ### slots of a block forgotten -/
theorem wipe_at {σ : L2.St} {j : Nat} : ∀ {vs : List Nat}, (wipe σ vs)[j]? = if j ∈ vs then (σ[j]?).map fun _ => none else σ[j]?
  | [] => by simp [wipe]
  | v :: vs => by
    unfold wipe
    by_cases h : v = j
    · subst h
      rw [if_pos List.mem_cons_self]
      by_cases hl : v < σ.length
      · rw [List.getElem?_set_self (by rw [wipe_length]; exact hl), List.getElem?_eq_getElem hl]; rfl
      · rw [List.getElem?_eq_none (by rw [List.length_set, wipe_length]; omega), List.getElem?_eq_none (by omega)]; rfl
    · rw [List.getElem?_set_ne h, wipe_at (vs := vs)]
      by_cases g : j ∈ vs
      · rw [if_pos g, if_pos (List.mem_cons_of_mem _ g)]
      · rw [if_neg g, if_neg (fun z => (List.mem_cons.mp z).elim (fun q => h q.symm) g)]
theorem wpe_z {σ : L2.St} {vs : List Nat} : wipe (wipe σ vs) vs = wipe σ vs := by
  refine List.ext_getElem? fun j => ?_
  rw [wipe_at, wipe_at]
  by_cases g : j ∈ vs
  · rw [if_pos g, if_pos g]; cases σ[j]? <;> rfl
  · rw [if_neg g, if_neg g]
theorem wpe_s {σ σ1 : L2.St} {vs : List Nat} {i : Nat} {x : Option V} (h : wipe σ1 vs = wipe σ vs) (m : i ∈ vs) : wipe (σ1.set i x) vs = wipe σ vs := by
  rw [← h]
  refine List.ext_getElem? fun j => ?_
  rw [wipe_at, wipe_at]
  by_cases g : j ∈ vs
  · rw [if_pos g, if_pos g]
    by_cases e : i = j
    · subst e
      by_cases hl : i < σ1.length
      · rw [List.getElem?_set_self hl, List.getElem?_eq_getElem hl]; rfl
      · rw [List.getElem?_eq_none (by rw [List.length_set]; omega), List.getElem?_eq_none (by omega)]
    · rw [List.getElem?_set_ne e]
  · rw [if_neg g, if_neg g, List.getElem?_set_ne (fun e => g (by rw [← e]; exact m))]
end TP

namespace TP
open PySem PySem.Spec PyProof.Rows L2
/-- the slots written out -/
theorem st_norm {nx : L2.St → Hp → Prop} {σ σ' : L2.St} {H : Hp} (e : σ = σ') (h : nx σ' H) : nx σ H := by
  rw [e]; exact h
end TP

/-! != of instances with an own ==, and == and != of such an instance with anything -/
namespace TPN
open PySem PySem.Spec PyProof.Rows L2
section
variable {M : Model} {prog : Program} {w : World} {A : Around} {E : Value → Shared → Prop} {s : Shared} {K : PySem.W.Frag} {x C f : Addr} {ox : Obj} {od : Option Obj} {b tb : Value}
theorem ifBound_ne {args : List Value} {Q : Option Value → Shared → Prop} (X : K.In s.heap) (I : PySem.W.InstAt s.heap x ox C od) (hs : PySem.W.findIn K (.ref C) "__ne__" = some (some (.builtin "object.__ne__")))
    (h : wpAny M A (call (.builtin "object.__ne__") (.ref x :: args)) (fun v => Q (some v)) E s) : wpAny M A (callSpecialIfBound? (.ref x) "__ne__" args) Q E s := by
  simp only [callSpecialIfBound?, bindSpecialIfBound?]
  refine wpAny_holding (wpAny_bind (wpAny_bind (wpAny_bind (I.type.here ((PySem.W.looks_findIn X hs).here ?_)))))
  refine wpAny_bind (wpAny_askSetting (wpAny_ite ?_))
  have fin : wpAny M A (call (.builtin "object.__ne__") ([.ref x] ++ args) >>= fun v => pure (some v)) Q E s := wpAny_bind (wpAny_mono h (fun v s' h' => wpAny_pure h') fun _ _ h' => h')
  split
  · exact wpAny_bind (wpAny_of_eq (F.cmp_object.ne.bind _) (wpAny_pure (by exact fin)))
  · exact wpAny_tryCatch (wpAny_bind (wpAny_of_eq (F.cmp_object.ne.bind _) (wpAny_pure (by exact fin))))
theorem entry_ne {Q : Fin → Shared → Prop} (hu : A.units < cLine) (X : K.In s.heap) (I : PySem.W.InstAt s.heap x ox C od) (hs : PySem.W.findIn K (.ref C) "__eq__" = some (some (.ref f))) (hf : PySem.W.isFn K (.ref f) = true)
    (h : wpAny M A (call (.ref f) [.ref x, b]) (fun v s' => ∃ r, v = .bool r ∧ Q (.done (.ret (.bool (!r)))) s') E s) : wpAny M A (Builtin.«object.__ne__» ⟨[.ref x, b], []⟩) Q E s := by
  unfold Builtin.«object.__ne__»
  repeat (first
    | with_reducible refine wpAny_cRoomFor hu ?_
    | (refine wpAny_bind (m := callSpecialIfBound? (.ref x) (Str.ofString "__eq__") [b]) (PySem.W.ifBound_K X I hs hf (wpAny_mono h (fun r s' hr => by
        obtain ⟨b, rfl, hq⟩ := hr
        repeat (first | exact hq | exact wpAny_pure hq | exact wpAny_truthy_bool hq | (refine wpAny_bind (m := truthy (.bool _)) (wpAny_truthy_bool ?_)) | wp_step)) fun _ _ e => e)))
    | wp_step)
theorem call_ne {Q : Value → Shared → Prop} (hu : A.units + 1 < cLine) (X : K.In s.heap) (I : PySem.W.InstAt s.heap x ox C od) (hm : PySem.W.mroIn K C (.type "object") = some true) (hs : PySem.W.findIn K (.ref C) "__eq__" = some (some (.ref f))) (hf : PySem.W.isFn K (.ref f) = true)
    (h : wpAny (model prog w) A.in1 (call (.ref f) [.ref x, b]) (fun v s' => ∃ r, v = .bool r ∧ Q (.bool (!r)) s') E s) :
    wpAny (model prog w) A (call (.builtin "object.__ne__") [.ref x, b]) Q E s :=
  wpAny_call (codeAny_call_builtin F.cmp_object.ne.plain F.cmpEntry_ne (PySem.W.check_slot F.cmpKind_ne F.cmpSplit_ne (I.type.andThen (PySem.W.looks_mroIn X hm)) (F.cmpArgs_ne _ _) (entry_ne (A := A.in1) hu X I hs hf (wpAny_mono h (fun v s' hv => by
    obtain ⟨r, e, q⟩ := hv
    exact ⟨r, e, q⟩) fun _ _ e => e))))
theorem ne_K {Q : Value → Shared → Prop} (hu : A.units + 1 < cLine) (X : K.In s.heap) (I : PySem.W.InstAt s.heap x ox C od) (hb : PySem.W.Looks (model prog w) s.heap (typeOf b) tb) (hn : PySem.W.notFirst K C tb = true)
    (hm : PySem.W.mroIn K C (.type "object") = some true) (hne : PySem.W.findIn K (.ref C) "__ne__" = some (some (.builtin "object.__ne__")))
    (hs : PySem.W.findIn K (.ref C) "__eq__" = some (some (.ref f))) (hf : PySem.W.isFn K (.ref f) = true)
    (h : wpAny (model prog w) A.in1 (call (.ref f) [.ref x, b]) (fun v s' => ∃ r, v = .bool r ∧ Q (.bool (!r)) s') E s) : wpAny (model prog w) A (richCompare .NotEq (.ref x) b) Q E s := by
  have one : wpAny (model prog w) A (tryCompare (.ref x) "__ne__" b) (fun r s' => ∃ v, r = some v ∧ Q v s') E s := by
    unfold tryCompare
    refine wpAny_bind (ifBound_ne X I hne (call_ne hu X I hm hs hf (wpAny_mono h (fun v s' hv => ?_) fun _ _ e => e)))
    obtain ⟨r, rfl, q⟩ := hv
    exact ⟨r, rfl, wpAny_pure ⟨_, rfl, q⟩⟩
  unfold richCompare
  simp only [oneThing_ref]
  refine wpAny_holding (wpAny_bind (wpAny_cRoomFor (by omega) ?_))
  rw [cmpInfo_NotEq]
  dsimp only
  refine wpAny_bind (I.type.here (wpAny_bind (hb.here ?_)))
  split
  · rename_i q
    have e : PySem.W.subIn K tb (.ref C) = some false := by
      rcases Bool.or_eq_true_iff.mp hn with e | e
      · rw [beq_iff_eq.mp e] at q; simp at q
      · exact beq_iff_eq.mp e
    refine wpAny_bind ((PySem.W.looks_subIn X e).here ?_)
    simp only [Bool.false_eq_true, if_false]
    refine wpAny_bind (wpAny_mono one (fun r s' z => ?_) fun _ _ e => e)
    obtain ⟨v, rfl, hq⟩ := z
    exact wpAny_pure hq
  · refine wpAny_bind (wpAny_pure ?_)
    simp only [Bool.false_eq_true, if_false]
    refine wpAny_bind (wpAny_mono one (fun r s' z => ?_) fun _ _ e => e)
    obtain ⟨v, rfl, hq⟩ := z
    exact wpAny_pure hq
end
end TPN
namespace TPN
open PySem PySem.Spec PyProof.Rows L2
/-- == (neg false) or != of x, an instance of a class with an own ==, with anything -/
def rOwnE (K : PySem.W.Frag) (C : Addr) (neg : Bool) (sp : Sp) (E : XK) : R2 := fun x y H Q => ∃ a dx fs t, x = .ref a ∧ H a = some (.ins C dx fs) ∧ TyX K H y t ∧ PySem.W.notFirst K C t = true ∧ sp [x, y] H (fun z H' => ∃ b, z = .bl b ∧ Q (.bl (b != neg)) H') E
theorem nf_self {K : PySem.W.Frag} {C : Addr} : PySem.W.notFirst K C (.ref C) = true := by simp [PySem.W.notFirst]
theorem op_ownE {X : Cx} {CX : CXT} {C f : Addr} {fd : FuncData} {ps : List Str} {sp : Sp} {n : Nat} {E : XK} (M : Meth X.K C "__eq__" f) (F : FnOk X.prog X.w X.K X.mg X.base CX n f fd ps sp) (hr : Room n X.A)
    (hb : Binds X.K fd ps []) (hx : Passes CX X E) : OpR X (compareOp .Eq) (rOwnE X.K C false sp E) := by
  intro pins s σ H x y v u Q I rx ry h
  obtain ⟨a, dx, fs, t, rfl, ha, ty, hn, q⟩ := h
  cases (show v = Value.ref a from rx)
  obtain ⟨mA, J, _⟩ := ins_get I.hok ha
  obtain ⟨od, J, _⟩ := J.look
  obtain ⟨P, Z, p, _⟩ := kit_of I ry ty
  obtain ⟨m, hF⟩ := I.fr
  show wpAny (model X.prog X.w) X.A (richCompare .Eq (.ref a) u) _ _ _
  refine PySem.W.cmp_K (op := .Eq) (tb := t) hr.units0 hF I.ok.mod.kin J (Z.ty _ _ I.kIn p) hn M.at_ M.fn ?_
  refine wpAny_mono (run_fn (Q := fun z H' => ∃ b, z = .bl b ∧ Q (.bl (b != false)) H') (us := [.ref a, u]) (vs := [.ref a, y]) F hr hb .nil hx I (.cons rfl (.cons ry .nil)) (by simpa using q)) (fun w s' z => ?_) fun _ _ x => x
  obtain ⟨z', H', I', rz, b, ez, qz⟩ := z
  subst ez
  cases (show w = Value.bool b from rz)
  exact ⟨.bl b, H', I', rfl, by simpa using qz⟩
theorem op_ownNE {X : Cx} {CX : CXT} {C f : Addr} {fd : FuncData} {ps : List Str} {sp : Sp} {n : Nat} {E : XK} (hm : PySem.W.mroIn X.K C (.type "object") = some true) (hne : PySem.W.findIn X.K (.ref C) "__ne__" = some (some (.builtin "object.__ne__")))
    (M : Meth X.K C "__eq__" f) (F : FnOk X.prog X.w X.K X.mg X.base CX n f fd ps sp) (hr : Room (n + 1) X.A)
    (hb : Binds X.K fd ps []) (hx : ∀ (pins : List (Addr × Obj)) (σ : L2.St) (H : Hp) (s : Shared) (e : Value) (s' : Shared), Inv X pins σ H s → CX X.stack H s E e s' → X.xe e s') : OpR X (compareOp .NotEq) (rOwnE X.K C true sp E) := by
  intro pins s σ H x y v u Q I rx ry h
  obtain ⟨a, dx, fs, t, rfl, ha, ty, hn, q⟩ := h
  cases (show v = Value.ref a from rx)
  obtain ⟨mA, J, _⟩ := ins_get I.hok ha
  obtain ⟨od, J, _⟩ := J.look
  obtain ⟨P, Z, p, _⟩ := kit_of I ry ty
  show wpAny (model X.prog X.w) X.A (richCompare .NotEq (.ref a) u) _ _ _
  have hr1 : Room n X.A.in1 := hr.in1
  refine ne_K (A := X.A) (tb := t) (by have := hr1.units0; exact this) I.kIn J (Z.ty _ _ I.kIn p) hn hm hne M.at_ M.fn ?_
  have e0 : Env0 X.prog X.w X.K X.mg X.base X.A.in1 X.stack s H := I.env0.in1
  have r2 : Vals [V.ref a, y] [Value.ref a, u] := .cons rfl (.cons ry .nil)
  have hl : ([Value.ref a, u] : List Value).length = ps.length := by rw [← r2.length]; exact F.len _ _ _ _ q
  refine wpAny_call (codeAny_mono (F.run X.A.in1 X.stack s H ⟨[.ref a, u], []⟩ [.ref a, u] [.ref a, y] _ E hr1 e0 (by
    have := hb s [.ref a, u] I.kIn (by simpa using hl)
    simpa using this) r2 q) fun r s' hq => ?_)
  cases r with
  | error e => exact hx pins σ H s e s' I hq
  | ok fl =>
    cases fl with
    | ret w =>
      obtain ⟨z, H', I', rz, b, ez, qz⟩ := I.after hq
      subst ez
      cases (show w = Value.bool b from rz)
      exact ⟨b, rfl, .bl (!b), H', I', rfl, by simpa using qz⟩
    | next => exact False.elim hq
    | brk => exact False.elim hq
    | cont => exact False.elim hq
end TPN

namespace TPN
open PySem PySem.Spec PyProof.Rows L2 PySem.SeqAt
section
variable {prog : Program} {w : World} {A : Around} {E : Value → Shared → Prop} {s : Shared} {K : PySem.W.Frag} {y C f : Addr} {oy : Obj} {od : Option Obj}
/-- None == an instance: its own == is asked -/
theorem eq_none_ref {Q : Value → Shared → Prop} (hu : A.units < cLine) (X : K.In s.heap) (I : PySem.W.InstAt s.heap y oy C od) (hsub : PySem.W.subIn K (.ref C) (.type "NoneType") = some false)
    (hs : PySem.W.findIn K (.ref C) "__eq__" = some (some (.ref f))) (hf : PySem.W.isFn K (.ref f) = true)
    (h : wpAny (model prog w) A (call (.ref f) [.ref y, .none]) (fun v s' => ∃ r, v = .bool r ∧ Q (.bool r) s') E s) : wpAny (model prog w) A (richCompare .Eq .none (.ref y)) Q E s := by
  have one : wpAny (model prog w) A (tryCompare .none "__eq__" (.ref y)) (fun r s' => r = none ∧ s' = s) E s :=
    wpAny_tryCompare_declines (show s.TypeIs .none "NoneType" from rfl) F.slot_NoneType_eq (call_gives F.slot_NoneType_eq rfl F.entry_NoneType_eq (F.args_NoneType_eq_2 _ _) (NoneType___eq___none_ref_0 y) ⟨rfl, rfl, rfl⟩)
  have two : wpAny (model prog w) A (tryCompare (.ref y) "__eq__" .none) (fun r s' => ∃ v, r = some v ∧ Q v s') E s := by
    unfold tryCompare
    refine wpAny_bind (PySem.W.ifBound_K X I hs hf (wpAny_mono h (fun v s' hv => ?_) fun _ _ e => e))
    obtain ⟨r, rfl, q⟩ := hv
    exact wpAny_pure ⟨_, rfl, q⟩
  have e0 : oneThing? .Eq .none (.ref y) = none := rfl
  simp only [richCompare, cmpInfo_Eq, e0]
  refine wpAny_holding (wpAny_bind (wpAny_cRoomFor hu ?_))
  refine wpAny_bind (wpAny_typeOf (show s.TypeIs .none "NoneType" from rfl) ?_)
  refine wpAny_bind (I.type.here ?_)
  have fin : wpAny (model prog w) A (tryCompare .none "__eq__" (.ref y)) (fun r s' => r = none ∧ s' = s) E s := one
  split
  · refine wpAny_bind ((PySem.W.looks_subIn X hsub).here ?_)
    simp only [Bool.false_eq_true, if_false, Bool.not_false, if_true]
    refine wpAny_bind (m := tryCompare .none _ (.ref y)) (wpAny_mono one (fun r s1 z => ?_) fun _ _ e => e)
    obtain ⟨z1, z2⟩ := z
    subst z1
    subst z2
    refine wpAny_bind (m := tryCompare (.ref y) _ .none) (wpAny_mono two (fun r s2 z => ?_) fun _ _ e => e)
    obtain ⟨v, rfl, q⟩ := z
    exact wpAny_pure q
  · rename_i q
    exact absurd (by simp) q
end
/-- == of what may be None or an instance of the class at C with an own == -/
def rOptE (K : PySem.W.Frag) (C : Addr) (sp : Sp) (E : XK) : R2 := fun x y H Q => (x = .non ∧ y = .non ∧ Q (.bl true) H) ∨ (x = .non ∧ (∃ a dx fs, y = .ref a ∧ H a = some (.ins C dx fs)) ∧ sp [y, x] H (fun z H' => ∃ b, z = .bl b ∧ Q (.bl b) H') E) ∨ rOwnE K C false sp E x y H Q
theorem op_optE {X : Cx} {CX : CXT} {C f : Addr} {fd : FuncData} {ps : List Str} {sp : Sp} {n : Nat} {E : XK} (hn : PySem.W.subIn X.K (.ref C) (.type "NoneType") = some false) (M : Meth X.K C "__eq__" f) (F : FnOk X.prog X.w X.K X.mg X.base CX n f fd ps sp) (hr : Room n X.A)
    (hb : Binds X.K fd ps []) (hx : Passes CX X E) : OpR X (compareOp .Eq) (rOptE X.K C sp E) := by
  intro pins s σ H x y v u Q I rx ry h
  rcases h with ⟨rfl, rfl, q⟩ | ⟨rfl, ⟨a, dx, fs, rfl, ha⟩, q⟩ | h
  · exact op_eq pins s σ H .non .non v u Q I rx ry ⟨rfl, by simpa using q⟩
  · cases rx
    cases (show u = Value.ref a from ry)
    obtain ⟨mA, J, _⟩ := ins_get I.hok ha
    obtain ⟨od, J, _⟩ := J.look
    show wpAny (model X.prog X.w) X.A (richCompare .Eq .none (.ref a)) _ _ _
    refine eq_none_ref hr.units0 I.kIn J hn M.at_ M.fn ?_
    refine wpAny_mono (run_fn (Q := fun z H' => ∃ b, z = .bl b ∧ Q (.bl b) H') (us := [.ref a, .none]) (vs := [.ref a, .non]) F hr hb .nil hx I (.cons rfl (.cons rfl .nil)) (by simpa using q)) (fun w s' z => ?_) fun _ _ x => x
    obtain ⟨z', H', I', rz, b, ez, qz⟩ := z
    subst ez
    cases (show w = Value.bool b from rz)
    exact ⟨b, rfl, .bl b, H', I', rfl, qz⟩
  · exact op_ownE M F hr hb hx pins s σ H x y v u Q I rx ry h
end TPN

namespace TP
open PySem PySem.Spec PyProof.Rows L2
/-! ### data by what == says of it -/
structure EqW (K : PySem.W.Frag) {α : Type} (τ : Ty α) (d : α → PyData) (n : Nat) : Prop where
  dp : ∀ Z H v x, Same Z H → τ.r Z v x → Dp K H v (d x)
  lay : ∀ Z v x, τ.r Z v x → (d x).canLay0 = true
  dep : ∀ x, (d x).depth ≤ n
def dLst {α : Type} (d : α → PyData) (xs : List α) : PyData := .list (xs.map d)
def dTup {α : Type} (d : α → PyData) (xs : List α) : PyData := .tuple (xs.map d)
def dP1 {α : Type} (d : α → PyData) (x : α) : PyData := .tuple [d x]
def dP2 {α β : Type} (d : α → PyData) (e : β → PyData) (x : α × β) : PyData := .tuple [d x.1, e x.2]
def dP3 {α β γ : Type} (d : α → PyData) (e : β → PyData) (f : γ → PyData) (x : α × β × γ) : PyData := .tuple [d x.1, e x.2.1, f x.2.2]
def dP4 {α β γ δ : Type} (d : α → PyData) (e : β → PyData) (f : γ → PyData) (g : δ → PyData) (x : α × β × γ × δ) : PyData := .tuple [d x.1, e x.2.1, f x.2.2.1, g x.2.2.2]
def dNon (_ : Unit) : PyData := .none
section
variable {K : PySem.W.Frag} {α β γ δ : Type} {τ : Ty α} {υ : Ty β} {φ : Ty γ} {ψ : Ty δ} {d : α → PyData} {e : β → PyData} {f : γ → PyData} {g : δ → PyData} {n m k l : Nat}
theorem EqD.w (E : EqD K τ d n) : EqW K τ d n := ⟨E.dp, E.lay, E.dep⟩
theorem EqW.all (E : EqW K τ d n) {Z H : Hp} (sz : Same Z H) : ∀ {vs : List V} {xs : List α}, All (τ.r Z) vs xs → DpAll K H vs (xs.map d)
  | _, _, .nil => .nil
  | _, _, .cons h t => .cons (E.dp _ _ _ _ sz h) (E.all sz t)
theorem EqW.lays (E : EqW K τ d n) {Z : Hp} : ∀ {vs : List V} {xs : List α}, All (τ.r Z) vs xs → PyData.canLayAll0 (xs.map d) = true
  | _, _, .nil => by simp [PyData.canLayAll0]
  | _, _, .cons h t => by
    have h1 := E.lay _ _ _ h
    have h2 := E.lays t
    simp [PyData.canLayAll0, h1, h2]
theorem EqW.deps (E : EqW K τ d n) : ∀ xs : List α, PyData.depthAll (xs.map d) ≤ n
  | [] => by simp [PyData.depthAll]
  | x :: r => by
    have h1 := E.dep x
    have h2 := E.deps r
    simp only [List.map_cons, PyData.depthAll]
    omega
theorem eqw_list (E : EqW K τ d n) : EqW K (yList τ) (dLst d) (n + 1) where
  dp := fun Z H v x sz ⟨a, vs, e, h, t, _⟩ => by subst e; exact .lst (SqL.of (sz _ _ h)) (E.all sz t)
  lay := fun Z v x ⟨a, vs, e, h, t, _⟩ => by simpa [PyData.canLay0, dLst] using E.lays t
  dep := fun x => by have := E.deps x; simp only [PyData.depth, dLst]; omega
theorem eqw_tup (E : EqW K τ d n) : EqW K (yTup K τ) (dTup d) (n + 1) where
  dp := fun Z H v x sz ⟨a, vs, e, h, t, _⟩ => by subst e; exact .tup (seqT_same sz h) (E.all sz t)
  lay := fun Z v x ⟨a, vs, e, h, t, _⟩ => by simpa [PyData.canLay0, dTup] using E.lays t
  dep := fun x => by have := E.deps x; simp only [PyData.depth, dTup]; omega
theorem eqw_p1 (E : EqW K τ d n) : EqW K (yP1 K τ) (dP1 d) (n + 1) where
  dp := fun Z H v x sz ⟨a, v1, e, h, h1⟩ => by subst e; exact .tup (seqT_same sz h) (.cons (E.dp _ _ _ _ sz h1) .nil)
  lay := fun Z v x ⟨a, v1, e, h, h1⟩ => by simp [PyData.canLay0, PyData.canLayAll0, dP1, E.lay _ _ _ h1]
  dep := fun x => by have := E.dep x; simp only [PyData.depth, PyData.depthAll, dP1]; omega
theorem eqw_p2 (E : EqW K τ d n) (F : EqW K υ e m) : EqW K (yP2 K τ υ) (dP2 d e) (max n m + 1) where
  dp := fun Z H v x sz ⟨a, v1, v2, e, h, h1, h2⟩ => by subst e; exact .tup (seqT_same sz h) (.cons (E.dp _ _ _ _ sz h1) (.cons (F.dp _ _ _ _ sz h2) .nil))
  lay := fun Z v x ⟨a, v1, v2, e, h, h1, h2⟩ => by simp [PyData.canLay0, PyData.canLayAll0, dP2, E.lay _ _ _ h1, F.lay _ _ _ h2]
  dep := fun x => by have := E.dep x.1; have := F.dep x.2; simp only [PyData.depth, PyData.depthAll, dP2]; omega
theorem eqw_p3 (E : EqW K τ d n) (F : EqW K υ e m) (G : EqW K φ f k) : EqW K (yP3 K τ υ φ) (dP3 d e f) (max n (max m k) + 1) where
  dp := fun Z H v x sz ⟨a, v1, v2, v3, e, h, h1, h2, h3⟩ => by subst e; exact .tup (seqT_same sz h) (.cons (E.dp _ _ _ _ sz h1) (.cons (F.dp _ _ _ _ sz h2) (.cons (G.dp _ _ _ _ sz h3) .nil)))
  lay := fun Z v x ⟨a, v1, v2, v3, e, h, h1, h2, h3⟩ => by simp [PyData.canLay0, PyData.canLayAll0, dP3, E.lay _ _ _ h1, F.lay _ _ _ h2, G.lay _ _ _ h3]
  dep := fun x => by have := E.dep x.1; have := F.dep x.2.1; have := G.dep x.2.2; simp only [PyData.depth, PyData.depthAll, dP3]; omega
theorem eqw_p4 (E : EqW K τ d n) (F : EqW K υ e m) (G : EqW K φ f k) (I : EqW K ψ g l) : EqW K (yP4 K τ υ φ ψ) (dP4 d e f g) (max n (max m (max k l)) + 1) where
  dp := fun Z H v x sz ⟨a, v1, v2, v3, v4, e, h, h1, h2, h3, h4⟩ => by subst e; exact .tup (seqT_same sz h) (.cons (E.dp _ _ _ _ sz h1) (.cons (F.dp _ _ _ _ sz h2) (.cons (G.dp _ _ _ _ sz h3) (.cons (I.dp _ _ _ _ sz h4) .nil))))
  lay := fun Z v x ⟨a, v1, v2, v3, v4, e, h, h1, h2, h3, h4⟩ => by simp [PyData.canLay0, PyData.canLayAll0, dP4, E.lay _ _ _ h1, F.lay _ _ _ h2, G.lay _ _ _ h3, I.lay _ _ _ h4]
  dep := fun x => by have := E.dep x.1; have := F.dep x.2.1; have := G.dep x.2.2.1; have := I.dep x.2.2.2; simp only [PyData.depth, PyData.depthAll, dP4]; omega
theorem eqw_non : EqW K yNon dNon 0 := ⟨fun _ _ _ x _ h => by cases h; exact .non, fun _ _ _ _ => rfl, fun _ => Nat.le_refl _⟩
theorem eqw_opt (E : EqW K τ d n) : EqW K (yOpt τ) (optD d) n where
  dp := fun Z H v x sz h => match x, h with
    | none, h => by rw [show v = .non from h]; exact .non
    | some x, h => E.dp _ _ _ _ sz h.1
  lay := fun Z v x h => match x, h with
    | none, h => rfl
    | some x, h => E.lay _ _ _ h.1
  dep := fun x => match x with
    | none => Nat.zero_le _
    | some x => E.dep x
theorem EqW.gd {fp : List Addr} (E : EqW K τ d n) (x : α) : GD K (ty (fp := fp) τ x) (d x) := fun _ _ _ sz h => ⟨E.dp _ _ _ _ sz h, E.lay _ _ _ h⟩
theorem EqW.gdl {fp : List Addr} (E : EqW K τ d n) (xs : List α) : GD K (li (fp := fp) τ xs) (dLst d xs) := fun _ _ _ sz h => by
  obtain ⟨p, vs, rfl, g, t, _⟩ := rdl sz h
  exact ⟨.lst (SqL.of g) (E.all sz t), by simpa [PyData.canLay0, dLst] using E.lays t⟩
theorem EqW.dpt (E : EqW K τ d n) (h : n ≤ 64) (x : α) : (d x).depth ≤ 64 := Nat.le_trans (E.dep x) h
theorem EqW.dpl (E : EqW K τ d n) (h : n + 1 ≤ 64) (xs : List α) : (dLst d xs).depth ≤ 64 := by have := E.deps xs; simp only [PyData.depth, dLst]; omega
end
section
variable {μ : Type} {M : Mu μ} {σ : L2.St} {Z H : Hp} {s s' s1 s2 s3 : μ} {ta tb tc te : TE} {t : TA} {K : PySem.W.Frag}
theorem ev_eqW {R R' : Rr M.fp} {c c' : PyData} (G : GD K R c) (G' : GD K R' c') (l : c.depth ≤ 64) (l' : c'.depth ≤ 64) (ha : Ev M ta σ Z H s R s1) (hb : Ev M tb σ Z H s1 R' s2) : Ev M (tOp (rEqD K) ta tb) σ Z H s (ty yBool (PyData.eqv c c')) s2 :=
  ev_op ha hb fun _ _ _ _ sz e1 e2 _ q => by
    obtain ⟨d1, k1⟩ := G _ _ _ sz e1
    obtain ⟨d2, k2⟩ := G' _ _ _ sz e2
    exact ⟨c, c', d1, d2, shaped_of k1 l (Nat.le_refl _), shaped_of k2 l' (Nat.le_refl _), q _ _ _ (Step.refl sz) rfl⟩
theorem ev_neW {R R' : Rr M.fp} {c c' : PyData} (G : GD K R c) (G' : GD K R' c') (l : c.depth ≤ 64) (l' : c'.depth ≤ 64) (ha : Ev M ta σ Z H s R s1) (hb : Ev M tb σ Z H s1 R' s2) : Ev M (tOp (rNeD K) ta tb) σ Z H s (ty yBool (!PyData.eqv c c')) s2 :=
  ev_op ha hb fun _ _ _ _ sz e1 e2 _ q => by
    obtain ⟨d1, k1⟩ := G _ _ _ sz e1
    obtain ⟨d2, k2⟩ := G' _ _ _ sz e2
    exact ⟨c, c', d1, d2, shaped_of k1 l (Nat.le_refl _), shaped_of k2 l' (Nat.le_refl _), q _ _ _ (Step.refl sz) rfl⟩
theorem ev_cmpS {F : Str → Str → Bool} {x y : Str} (ha : Ev M ta σ Z H s (ty yStr x) s1) (hb : Ev M tb σ Z H s1 (ty yStr y) s2) : Ev M (tOp (fun x y H Q => ∃ i j, x = .str i ∧ y = .str j ∧ Q (.bl (F i j)) H) ta tb) σ Z H s (ty yBool (F x y)) s2 :=
  ev_op ha hb fun _ _ _ _ sz e1 e2 _ q => ⟨x, y, e1.1, e2.1, q _ _ _ (Step.refl sz) rfl⟩
theorem ev_chainG {R1 R0 R3 : Rr M.fp} {r r' : R2} {p q : Bool} (h1 : ∀ Z H x y, Same Z H → R1.r Z H x → R0.r Z H y → ∀ Q : VK, Q (.bl p) H → r x y H Q) (h2 : ∀ Z H x y, Same Z H → R0.r Z H x → R3.r Z H y → ∀ Q : VK, Q (.bl q) H → r' x y H Q)
    (ha : Ev M ta σ Z H s R1 s1) (hb : Ev M tb σ Z H s1 R0 s1) (hc : Ev M tc σ Z H s1 R3 s1) : Ev M (tChain r r' ta tb tc) σ Z H s (ty yBool (p && q)) s1 :=
  fun Z1 H1 a b c d Q k => ha Z1 H1 a b c d _ fun v Z2 H2 e m rv => hb Z2 H2 (a.trans e.z) (b.trans e.h) e.s m _ fun w Z3 H3 e2 m2 rw => by
    have e3 := e.trans e2
    refine h1 Z3 H3 v w e2.s (R1.st e2 rv) rw _ ⟨p, rfl, ?_⟩
    cases p with
    | true => rw [if_pos rfl]; exact hc Z3 H3 (a.trans e3.z) (b.trans e3.h) e3.s m2 _ fun u Z4 H4 e4 m4 ru => h2 Z4 H4 w u e4.s (R0.st e4 rw) ru _ (k _ Z4 H4 (e3.trans e4) m4 rfl)
    | false => rw [if_neg Bool.false_ne_true]; exact k _ Z3 H3 e3 m2 rfl
/-- the third part is read only where the first two hold -/
theorem ev_chainB {i j : Int} {b : Bool} {o : Option Bool} {p r : Int → Int → Bool} (ha : Ev M ta σ Z H s (ty yInt i) s1) (hb : Ev M tb σ Z H s1 (ty yInt j) s1) (hc : p i j = true → ∀ y, o = some y → ∃ k, y = r j k ∧ Ev M tc σ Z H s1 (ty yInt k) s1) (h : (if p i j = true then o else some false) = some b) :
    Ev M (tChain (rI0 fun i j => .bl (p i j)) (rI0 fun i j => .bl (r i j)) ta tb tc) σ Z H s (ty yBool b) s1 := by
  cases hp : p i j with
  | false =>
    rw [if_neg (by rw [hp]; exact Bool.false_ne_true)] at h
    have hb' := Option.some.inj h
    subst hb'
    intro Z1 H1 a b c d Q q
    exact ha Z1 H1 a b c d _ fun v Z2 H2 e m rv => hb Z2 H2 (a.trans e.z) (b.trans e.h) e.s m _ fun w Z3 H3 e2 m2 rw => ⟨i, j, rv, rw, p i j, rfl, by
      rw [hp, if_neg Bool.false_ne_true]
      exact q _ Z3 H3 (e.trans e2) m2 rfl⟩
  | true =>
    rw [if_pos hp] at h
    obtain ⟨k, rfl, hk⟩ := hc hp b h
    have := ev_chainO (b := true) (o := none) (p := p) (r := r) ha hb (fun _ => hk)
    rw [hp, Bool.true_and] at this
    exact this
theorem ev_chainS {F G : Str → Str → Bool} {x y z : Str} (ha : Ev M ta σ Z H s (ty yStr x) s1) (hb : Ev M tb σ Z H s1 (ty yStr y) s1) (hc : Ev M tc σ Z H s1 (ty yStr z) s1) :
    Ev M (tChain (fun x y H Q => ∃ i j, x = .str i ∧ y = .str j ∧ Q (.bl (F i j)) H) (fun x y H Q => ∃ i j, x = .str i ∧ y = .str j ∧ Q (.bl (G i j)) H) ta tb tc) σ Z H s (ty yBool (F x y && G y z)) s1 :=
  ev_chainG (R1 := ty yStr x) (R0 := ty yStr y) (R3 := ty yStr z) (fun _ _ _ _ _ e1 e2 _ q => ⟨x, y, e1.1, e2.1, q⟩) (fun _ _ _ _ _ e1 e2 _ q => ⟨y, z, e1.1, e2.1, q⟩) ha hb hc
theorem ev_isB {x y : Bool} (ha : Ev M ta σ Z H s (ty yBool x) s1) (hb : Ev M tb σ Z H s1 (ty yBool y) s2) : Ev M (tOp rIsB ta tb) σ Z H s (ty yBool (decide (x = y))) s2 :=
  ev_op ha hb fun _ _ _ _ sz e1 e2 _ q => ⟨x, y, e1, e2, q _ _ _ (Step.refl sz) rfl⟩
theorem ev_notB {x y : Bool} (ha : Ev M ta σ Z H s (ty yBool x) s1) (hb : Ev M tb σ Z H s1 (ty yBool y) s2) : Ev M (tOp rNotB ta tb) σ Z H s (ty yBool (!decide (x = y))) s2 :=
  ev_op ha hb fun _ _ _ _ sz e1 e2 _ q => ⟨x, y, e1, e2, q _ _ _ (Step.refl sz) rfl⟩
theorem all_nil {α : Type} {R : V → α → Prop} {vs : List V} {xs : List α} (h : All R vs xs) (e : vs = []) : xs = [] := by
  cases h with
  | nil => rfl
  | cons _ _ => cases e
theorem ev_catT {α : Type} {τ : Ty α} {xs ys : List α} (ha : Ev M ta σ Z H s (ty (yTup K τ) xs) s1) (hb : Ev M tb σ Z H s1 (ty (yTup K τ) ys) s2) (l : xs.length + ys.length ≤ sizeLine) : Ev M (tOp (rCatA K) ta tb) σ Z H s (ty (yTup K τ) (xs ++ ys)) s2 :=
  ev_op ha hb fun Z H v w sz ⟨a, vs, e1, h1, t1, l1⟩ ⟨b, ws, e2, h2, t2, l2⟩ _ q =>
    ⟨a, b, vs, ws, e1, e2, seqT_same sz h1, seqT_same sz h2, by rw [t1.len, t2.len]; exact l,
      fun e => q _ _ _ (Step.refl sz) ⟨b, ws, rfl, h2, by rw [all_nil t1 e]; exact t2, by rw [all_nil t1 e]; exact l2⟩,
      fun _ e => q _ _ _ (Step.refl sz) ⟨a, vs, rfl, h1, by rw [all_nil t2 e, List.append_nil]; exact t1, by rw [all_nil t2 e, List.append_nil]; exact l1⟩,
      fun _ _ p hp => q _ _ _ (Step.new sz hp) ⟨p, _, rfl, sqT_new, (t1.app t2).imp fun _ _ => τ.mono (same_upd (same_none sz hp)), by rw [List.length_append]; exact l⟩⟩
theorem ev_ord {x : Str} (ha : Ev M ta σ Z H s (ty yStr x) s1) (l : x.length = 1) : Ev M (tCB (fun xs H Q => ∃ x, xs = [.str x] ∧ x.length = 1 ∧ Q (.int (x.cps.getD 0 0 : Nat)) H) (tCons ta tNil)) σ Z H s (ty yInt ((x.cps.getD 0 0 : Nat) : Int)) s1 :=
  ev_cb (eva_cons ha eva_nil) fun _ _ vs sz ⟨v, r, e, h, e2⟩ Q q => ⟨x, by rw [e, h.1, show r = [] from e2], l, q _ _ _ (Step.refl sz) rfl⟩
/-- == and != of an instance by its own == with anything -/
theorem ev_ownE {α : Type} {τ : Ty α} {x : α} {R0 : Rr M.fp} {C : Addr} {t : Value} {sp : Sp} {E : XK} {b neg : Bool} (O : ∀ Z v x, τ.r Z v x → ∃ a dx fs, v = .ref a ∧ Z a = some (.ins C dx fs)) (tx : ∀ Z H v, Same Z H → R0.r Z H v → TyX K H v t) (hn : PySem.W.notFirst K C t = true)
    (c : CallS M sp E (rac (ty τ x) (rac R0 ra0)) s2 (ty yBool b) s3) (ha : Ev M ta σ Z H s (ty τ x) s1) (hb : Ev M tb σ Z H s1 R0 s2) : Ev M (tOp (TPN.rOwnE K C neg sp E) ta tb) σ Z H s (ty yBool (b != neg)) s3 :=
  fun Z1 H1 a' b' c' d' Q q => ha Z1 H1 a' b' c' d' _ fun v Z2 H2 e m rv => hb Z2 H2 (a'.trans e.z) (b'.trans e.h) e.s m _ fun w Z3 H3 e2 m2 rw => by
    have rv3 := τ.mono e2.z rv
    obtain ⟨p, dx, fs, rfl, hp⟩ := O _ _ _ rv3
    exact ⟨p, dx, fs, t, rfl, e2.s _ _ hp, tx _ _ _ e2.s rw, hn, c Z3 H3 _ e2.s m2 ⟨_, _, rfl, rv3, _, _, rfl, rw, rfl⟩ _ fun u Z4 H4 e3 m3 ru => ⟨b, ru, q _ Z4 H4 ((e.trans e2).trans e3) m3 rfl⟩⟩
/-- the class of what may be None -/
def clsO {α : Type} (c : Value) : Option α → Value
  | none => .type "NoneType"
  | some _ => c
theorem tx_opt {fp : List Addr} {α : Type} {τ : Ty α} {c : Value} (h : ∀ (x : α) Z H v, Same Z H → (ty (fp := fp) τ x).r Z H v → TyX K H v c) {x : Option α} : ∀ Z H v, Same Z H → (ty (fp := fp) (yOpt τ) x).r Z H v → TyX K H v (clsO c x) := fun Z H v sz e => match x, e with
  | none, e => by rw [show v = .non from e]; exact .base .non
  | some y, e => h y Z H v sz e.1
theorem tx_non {fp : List Addr} {x : Unit} : ∀ Z H v, Same Z H → (ty (fp := fp) yNon x).r Z H v → TyX K H v (.type "NoneType") := fun _ _ _ _ h => by rw [show _ = V.non from h]; exact .base .non
theorem kit_opt {α : Type} {c t : Value} {b : Bool} (h0 : PySem.W.kitOne K (.type "NoneType") t = some false) (h1 : PySem.W.kitOne K c t = some b) (x : Option α) : PySem.W.kitOne K (clsO c x) t = some (x.isSome && b) := match x with
  | none => h0
  | some _ => h1
theorem nf_opt {α : Type} {C : Addr} {c : Value} (h0 : PySem.W.notFirst K C (.type "NoneType") = true) (h1 : PySem.W.notFirst K C c = true) (x : Option α) : PySem.W.notFirst K C (clsO c x) = true := match x with
  | none => h0
  | some _ => h1
def optEqO {α : Type} (f : α → Option α → Option Bool) : Option α → Option α → Option Bool
  | none, none => some true
  | none, some y => f y none
  | some x, y => f x y
theorem ev_optE {α : Type} {τ : Ty α} {a b : Option α} {r : Bool} {f : α → Option α → Option Bool} {C : Addr} {t : Option α → Value} {sp : Sp} {E : XK} (h : optEqO f a b = some r) (O : ∀ Z v x, τ.r Z v x → ∃ a dx fs, v = .ref a ∧ Z a = some (.ins C dx fs))
    (tx : ∀ (y : Option α) Z H v, Same Z H → (ty (fp := M.fp) (yOpt τ) y).r Z H v → TyX K H v (t y)) (hn : ∀ y, PySem.W.notFirst K C (t y) = true) (c : ∀ x y r, f x y = some r → CallS M sp E (rac (ty τ x) (rac (ty (yOpt τ) y) ra0)) s2 (ty yBool r) s2)
    (ha : Ev M ta σ Z H s (ty (yOpt τ) a) s1) (hb : Ev M tb σ Z H s1 (ty (yOpt τ) b) s2) : Ev M (tOp (TPN.rOptE K C sp E) ta tb) σ Z H s (ty yBool r) s2 :=
  fun Z1 H1 a' b' c' d' Q q => ha Z1 H1 a' b' c' d' _ fun v Z2 H2 e m rv => hb Z2 H2 (a'.trans e.z) (b'.trans e.h) e.s m _ fun w Z3 H3 e2 m2 rw => by
    have rv3 := (yOpt τ).mono e2.z rv
    match a, b, h, rv3, rw with
    | none, none, h, rv3, rw => exact .inl ⟨rv3, rw, q _ Z3 H3 (e.trans e2) m2 (congrArg V.bl (Option.some.inj h))⟩
    | none, some y, h, rv3, rw =>
      obtain ⟨p, dx, fs, rfl, hp⟩ := O _ _ _ rw.1
      exact .inr (.inl ⟨rv3, ⟨p, dx, fs, rfl, e2.s _ _ hp⟩, c y none r h Z3 H3 _ e2.s m2 ⟨_, _, rfl, rw.1, _, _, rfl, rv3, rfl⟩ _ fun u Z4 H4 e3 m3 ru => ⟨r, ru, q _ Z4 H4 ((e.trans e2).trans e3) m3 rfl⟩⟩)
    | some x, y, h, rv3, rw =>
      obtain ⟨p, dx, fs, rfl, hp⟩ := O _ _ _ rv3.1
      exact .inr (.inr ⟨p, dx, fs, t y, rfl, e2.s _ _ hp, tx _ _ _ _ e2.s rw, hn y, c x y r h Z3 H3 _ e2.s m2 ⟨_, _, rfl, rv3.1, _, _, rfl, rw, rfl⟩ _ fun u Z4 H4 e3 m3 ru => ⟨r, ru, q _ Z4 H4 ((e.trans e2).trans e3) m3 (by rw [show (r != false) = r by cases r <;> rfl]; exact rfl)⟩⟩)
end
end TP

namespace TP
open PySem PySem.Spec PyProof.Rows L2
/-! ### a list that never changes, or a tuple -/
def iSeq (K : PySem.W.Frag) (tl : TE) : TI := fun σ H R => tl σ H fun x H1 => (∃ a, x = .ref a ∧ (∃ xs, SqL K H1 a xs) ∧ R (Itl K a) H1) ∨ (∃ a, x = .ref a ∧ (∃ xs, SqT K H1 a xs) ∧ R (Itt K a) H1)
theorem pi_seq {X : Cx} {tg l : Expr} {tl : TE} (hl : PE X l tl) : PI X tg l (iSeq X.K tl) := by
  refine ⟨fun pins s σ H R I h => ?_⟩
  refine thn (hl.run pins s σ H _ I h) fun v s1 ⟨x, H1, I1, r1, q1⟩ => ?_
  rcases q1 with q1 | q1
  · obtain ⟨a, e, ⟨xs, hq⟩, q⟩ := q1
    subst e
    cases r1
    obtain ⟨its, rv, p, hz⟩ := I1.list hq
    refine wpAny_pyIter_list p.isList ?_
    refine ⟨s1.heap.objs.size, [s1.heap.objs.size], _, _, H1, rfl, I1.kept (t' := s1.toks) fun b o e => Heap.get?_push_of_some _ e, turn_list a _, ⟨_, Heap.get?_push_size _ rfl, rfl, rfl⟩, fun b hb => ?_, q⟩
    have e : b = s1.heap.objs.size := by simpa using hb
    subst e
    exact I1.fpOk (Nat.le_refl _) (I1.hok.fresh (Nat.le_refl _))
  · obtain ⟨a, e, ⟨xs, hq⟩, q⟩ := q1
    subst e
    cases r1
    obtain ⟨its, rv, p, hz⟩ := I1.tuple hq
    refine wpAny_pyIter_tuple (show s1.heap.IsTuple a its.toArray from p) ?_
    refine ⟨s1.heap.objs.size, [s1.heap.objs.size], _, _, H1, rfl, I1.kept (t' := s1.toks) fun b o e => Heap.get?_push_of_some _ e, turn_tuple a _, ⟨_, Heap.get?_push_size _ rfl, rfl, rfl⟩, fun b hb => ?_, q⟩
    have e : b = s1.heap.objs.size := by simpa using hb
    subst e
    exact I1.fpOk (Nat.le_refl _) (I1.hok.fresh (Nat.le_refl _))
theorem pi_seqB {X : Cx} {K : PySem.W.Frag} (hK : X.K = K) {tg l : Expr} {tl : TE} (hl : PE X l tl) : PI X tg l (iSeq K tl) := by
  subst hK
  exact pi_seq hl
section
variable {K : PySem.W.Frag} {α : Type}
def ySeq (K : PySem.W.Frag) (τ : Ty α) : Ty (List α) := ⟨fun Z v xs => ∃ a vs, v = .ref a ∧ (Z a = some (.lst vs) ∨ SqT K Z a vs) ∧ All (τ.r Z) vs xs ∧ xs.length ≤ sizeLine,
  fun s ⟨a, vs, e, h, t, l⟩ => ⟨a, vs, e, h.imp (fun h => s _ _ h) (seqT_same s), t.imp fun _ _ => τ.mono s, l⟩⟩
theorem nn_seq {τ : Ty α} : NonNil (ySeq K τ) := fun _ _ _ ⟨_, _, e, _⟩ => by rw [e]; exact fun z => nomatch z
section
variable {μ : Type} {M : Mu μ} {σ : L2.St} {Z H : Hp} {s s1 : μ} {ta : TE} {τ : Ty α} {xs : List α} {X : Hp → Hp → Prop}
theorem ev_seqL (h : Ev M ta σ Z H s (ty (yList τ) xs) s1) : Ev M ta σ Z H s (ty (ySeq K τ) xs) s1 := h.weak fun _ _ _ _ ⟨a, vs, e, h, t, l⟩ => ⟨a, vs, e, .inl h, t, l⟩
theorem ev_seqT (h : Ev M ta σ Z H s (ty (yTup K τ) xs) s1) : Ev M ta σ Z H s (ty (ySeq K τ) xs) s1 := h.weak fun _ _ _ _ ⟨a, vs, e, h, t, l⟩ => ⟨a, vs, e, .inr h, t, l⟩
theorem ei_seq (ha : Ev M ta σ Z H s (ty (ySeq K τ) xs) s1) : EvI M X (iSeq K ta) σ Z H s τ xs s1 :=
  fun Z1 H1 a b c d R q => ha Z1 H1 a b c d _ fun v Z2 H2 e m ⟨p, vs, ev, h, t, l⟩ => by
    subst ev
    rcases h with h | h
    · exact .inl ⟨p, rfl, ⟨vs, SqL.of (e.s _ _ h)⟩, q _ Z2 H2 e m (walk_at walk_list (fun Z' H' z sz _ => SqL.of (sz _ _ (z _ _ h))) t l)⟩
    · exact .inr ⟨p, rfl, ⟨vs, seqT_same e.s h⟩, q _ Z2 H2 e m (walk_at walk_tup (fun Z' H' z sz _ => seqT_same sz (seqT_same z h)) t l)⟩
theorem ev_lenS {r : List V → Hp → VK → Prop} (hr : ∀ xs H Q, (∃ p ys, xs = [.ref p] ∧ (SqL K H p ys ∨ SqT K H p ys) ∧ Q (.int ys.length) H) → r xs H Q) (ha : Ev M ta σ Z H s (ty (ySeq K τ) xs) s1) : Ev M (tCB r (tCons ta tNil)) σ Z H s (ty yInt (xs.length : Nat)) s1 :=
  ev_cb (eva_cons ha eva_nil) fun _ _ _ sz ⟨v, r, e, h, e2⟩ _ q => by
    cases e2; cases e
    obtain ⟨p, vs, rfl, g, t, _⟩ := h
    exact hr _ _ _ ⟨p, vs, rfl, g.imp (fun g => SqL.of (sz _ _ g)) (seqT_same sz), by rw [t.len]; exact q _ _ _ (Step.refl sz) rfl⟩
theorem en_list_ofS {r : List V → Hp → VK → Prop} (hr : ∀ xs H Q, (∃ p ys, xs = [.ref p] ∧ (SqL K H p ys ∨ SqT K H p ys) ∧ ∀ l, H l = none → Q (.ref l) (upd H l (.lst ys))) → r xs H Q) (ha : Ev M ta σ Z H s (ty (ySeq K τ) xs) s1) : EvN M (tCB r (tCons ta tNil)) σ Z H s τ xs s1 :=
  en_cb (eva_cons ha eva_nil) fun _ _ _ sz ⟨v, r, e, h, e2⟩ => by
    cases e2; cases e
    obtain ⟨p, vs, rfl, g, t, l⟩ := h
    exact ⟨vs, t, l, fun Q q => hr _ _ _ ⟨p, vs, rfl, g.imp (fun g => SqL.of (sz _ _ g)) (seqT_same sz), q⟩⟩
theorem ev_tuple_ofS {r : List V → Hp → VK → Prop} (hr : ∀ xs H Q, (∃ p ys, xs = [.ref p] ∧ ((SqL K H p ys ∧ ∀ l, H l = none → Q (.ref l) (upd H l (.tup ys))) ∨ (SqT K H p ys ∧ Q (.ref p) H))) → r xs H Q) (ha : Ev M ta σ Z H s (ty (ySeq K τ) xs) s1) : Ev M (tCB r (tCons ta tNil)) σ Z H s (ty (yTup K τ) xs) s1 :=
  ev_cb (eva_cons ha eva_nil) fun _ _ _ sz ⟨v, r, e, h, e2⟩ _ q => by
    cases e2; cases e
    obtain ⟨p, vs, rfl, g, t, l⟩ := h
    rcases g with g | g
    · exact hr _ _ _ ⟨p, vs, rfl, .inl ⟨SqL.of (sz _ _ g), fun d hd => q _ _ _ (Step.new sz hd) ⟨d, vs, rfl, sqT_new, t.imp fun _ _ => τ.mono (same_upd (same_none sz hd)), l⟩⟩⟩
    · exact hr _ _ _ ⟨p, vs, rfl, .inr ⟨seqT_same sz g, q _ _ _ (Step.refl sz) ⟨p, vs, rfl, g, t, l⟩⟩⟩
end
end
end TP

namespace TP
open PySem PySem.Spec PyProof.Rows L2
/-- a list grows by a tuple's items -/
def rExtS (K : PySem.W.Frag) : V → List V → Hp → VK → Prop := fun x vs H Q => ∃ l b xs zs, x = .ref l ∧ vs = [.ref b] ∧ H l = some (.lst xs) ∧ SqT K H b zs ∧ xs.length + zs.length ≤ sizeLine ∧ Q .non (upd H l (.lst (xs ++ zs)))
open PySem.AutoSeq1 in
theorem ext_tup (l b : Addr) (xs ys : Array Value) (n m : Nat) (dd : Option Addr) (sl : Array (Option Value)) (k0 : ¬ (!xs.isEmpty && Builtin.List.listTooLong (xs.size + ys.size)) = true) (k1 : xs.size ≤ sizeLine) (k2 : xs.size + ys.size ≤ sizeLine + 1) :
    Meets (Builtin.«list.extend» ⟨[.ref l, .ref b], []⟩) (fun _ R s => (s.heap.get? b = some ⟨.type "tuple", dd, .seq ys m, sl⟩ ∧ s.heap.get? l = some ⟨.type "list", none, .seq xs n, #[]⟩) ∧
      R (.ok (.ret Value.none)) { s with heap := s.heap.update l (Obj.mapSeq fun z => z ++ ys), toks := s.toks }) :=
  .of_wp fun prog w A R s ⟨⟨gb, gl⟩, q⟩ => by
    obtain ⟨hp, ge, dr, tk, os⟩ := s
    have s1 := PySem.AutoSeq1.idx_int
    have s2 := PySem.AutoSeq1.sub_list_list
    have s3 := PySem.AutoSeq1.sub_tuple_list
    have s4 := PySem.AutoSeq1.sub_tuple_tuple
    have s5 := PySem.AutoSeq1.sub_list_tuple
    have tot : (xs ++ ys).size ≤ sizeLine + 1 := by simpa [Array.size_append] using k2
    wp_walk using (wpAny_updateSeq gl rfl (hz := k1) (_hz' := tot)), wpAny_loadPart' gl, wpAny_loadPart' gb
    exact ⟨_, rfl, q⟩
theorem mt_extendT {X : Cx} : MtM X "list.extend" (rExtS X.K) := by
  intro pins s σ H x vs v us Q I rx rv g
  obtain ⟨l, b, xs, zs, rfl, rfl, gl, gb, gz, q⟩ := g
  cases rx
  obtain ⟨u, rfl, ru⟩ := rv.one
  cases ru
  obtain ⟨_, its, n, r, _, e⟩ := I.lstM gl
  obtain ⟨js, r2, ⟨⟨oc, od, ot, os⟩, e2, e3, m, e4⟩, _⟩ := I.tuple gb
  dsimp only at e3 e4
  subst e3 e4
  have k1 := r.length
  have k2 := r2.length
  have fits : its.toArray.size + js.toArray.size ≤ sizeLine := by
    rw [List.size_toArray, List.size_toArray]
    omega
  have open_ : ¬ (!its.toArray.isEmpty && Builtin.List.listTooLong (its.toArray.size + js.toArray.size)) = true := by
    rw [notLongL fits, Bool.and_false]
    decide
  refine call_meets F.slot_list_extend ⟨_, e, rfl⟩ F.entry_list_extend (F.args_list_extend_2 _ _) (ext_tup l b its.toArray js.toArray n m _ _ open_ (by omega) (by omega)) ⟨⟨e2, e⟩, .non, _, I.lset (its' := its ++ js) gl e (by simp) (r.append r2) (by rw [List.length_append]; omega), rfl, q⟩
section
variable {μ : Type} {S : List Addr} {Z0 H0 : Hp} {M : Mu μ} {σ : L2.St} {Z H : Hp} {s s1 s2 : μ} {ta tb te : TE} {K : PySem.W.Frag} {D : Ends} {α : Type} {τ : Ty α} {xs ys : List α} {p : Addr}
theorem st_extendT {i : Nat} (P : Pt S Z0 H0 M Z H s) (o : Own S H0 M.fp Z H τ p xs) (hσ : σ[i]? = some (some (.ref p))) (e : Ev M te σ Z H s (ty (yTup K τ) ys) s1) (l : xs.length + ys.length ≤ sizeLine)
    (k : ∀ Z1 H1, Step (p :: M.fp) Z H Z1 H1 → Pt S Z0 H0 M Z1 H1 s1 → Own S H0 M.fp Z1 H1 τ p (xs ++ ys) → D.nx σ H1) : tDrop (tBM K "list" (rExtS K) (tVar i) (tCons te tNil)) D σ H := by
  obtain ⟨vs, h, t⟩ := o.ex
  refine ⟨.ref p, hσ, .inl ⟨rfl, _, .inl (.inl h)⟩, e Z H (Same.refl _) SameX.refl P.sub P.m _ fun v Z1 H1 e m ⟨q, ws, ev, hq, t2, _⟩ => ?_⟩
  subst ev
  have o1 := o.next e
  have P1 := P.next e m
  refine ⟨p, q, vs, ws, rfl, rfl, e.h _ _ o.n h, seqT_same e.s hq, by rw [t.len, t2.len]; exact l, ?_⟩
  exact k _ _ (step2 e o1.z) (P1.set o1.z o.n (.inr o.mine)) ⟨⟨_, upd_same, (t.imp fun _ _ => τ.mono e.z).app t2⟩, o1.z, o.n, o.mine, by rw [List.length_append]; exact l⟩
/-- a sign of a text -/
def atSi (x : Str) (i : Int) : Option Str := (atI x.cps.toList i).map fun c => ⟨#[c]⟩
theorem ev_ixS {x y : Str} {i : Int} (ha : Ev M ta σ Z H s (ty yStr x) s1) (hb : Ev M tb σ Z H s1 (ty yInt i) s2) (e : atSi x i = some y) : Ev M (tOp rIxS ta tb) σ Z H s (ty yStr y) s2 :=
  ev_op ha hb fun _ _ _ _ sz e1 e2 _ q => by
    obtain ⟨c, hc, rfl⟩ := Option.map_eq_some_iff.mp e
    have ok := (show (PyData.strOk x && decide (x.length ≤ sizeLine)) = true from e1.2)
    rw [Bool.and_eq_true] at ok
    refine ⟨x, i, c, e1.1, e2, of_decide_eq_true ok.2, hc, q _ _ _ (Step.refl sz) ⟨rfl, ?_⟩⟩
    show (PyData.strOk ⟨#[c]⟩ && decide ((⟨#[c]⟩ : Str).length ≤ sizeLine)) = true
    have h1 : c ∈ x.cps.toList := by
      unfold atI at hc
      obtain ⟨j, _, hj⟩ := Option.bind_eq_some_iff.mp hc
      exact List.mem_of_getElem? hj
    have h2 := ok.1
    unfold PyData.strOk at h2 ⊢
    rw [Array.all_eq_true_iff_forall_mem] at h2
    rw [Bool.and_eq_true]
    refine ⟨?_, by show decide (1 ≤ sizeLine) = true; decide⟩
    simpa using h2 c (by simpa using h1)
end
end TP

namespace TP
open PySem PySem.Spec PyProof.Rows L2
/-! ### things that change: products -/
def muX {α β : Type} (A : Mu α) (B : Mu β) : Mu (α × β) where
  fp := A.fp ++ B.fp
  m := fun s Z H => A.m s.1 Z H ∧ B.m s.2 Z H ∧ ∀ a ∈ A.fp, a ∉ B.fp
  al := fun ⟨h, g, _⟩ a ha => by
    rcases List.mem_append.mp ha with ha | ha
    · exact A.al h a ha
    · exact B.al g a ha
  loc := fun sz hk hn ⟨h, g, d⟩ => ⟨A.loc sz (fun a ha => hk a (List.mem_append_left _ ha)) (fun a ha => hn a (List.mem_append_left _ ha)) h, B.loc sz (fun a ha => hk a (List.mem_append_right _ ha)) (fun a ha => hn a (List.mem_append_right _ ha)) g, d⟩
theorem Mu.keep {μ : Type} {N : Mu μ} {s : μ} {F : List Addr} {Z H Z' H' : Hp} (m : N.m s Z H) (e : Step F Z H Z' H') (d : ∀ a ∈ N.fp, a ∉ F) : N.m s Z' H' :=
  N.loc e.z (fun a ha o h => e.h a o (d a ha) h) (fun a _ h z => e.n a h z) m
section
variable {μ ν ι : Type} {S : List Addr} {Z0 H0 : Hp} {M : Mu μ} {N : Mu ν} {σ : L2.St} {Z H : Hp} {s s' s1 s2 s3 : μ} {c c' : ν} {ta tb tc te : TE} {t : TA} {K : PySem.W.Frag} {D : Ends}
/-- the attribute f of the thing at p -/
def MFld {α : Type} (N : Mu ν) (p C : Addr) (f : Str) (τ : Ty α) (pr : ν → α) : Prop := ∀ c Z H, N.m c Z H → ∃ dx fs w, H p = some (.ins C dx fs) ∧ fs.lookup f = some w ∧ τ.r Z w (pr c)
theorem ev_mfld {α : Type} {τ : Ty α} {p C : Addr} {f : Str} {pr : ν → α} {i : Nat} (hm : ∀ Z H, M.m s Z H → N.m c Z H) (F : MFld N p C f τ pr) (cl : Cls K C) (n : NoAttr K C f) (e : σ[i]? = some (some (.ref p))) : Ev M (tFld K (tVar i) f) σ Z H s (ty τ (pr c)) s :=
  fun Z1 H1 _ _ c' d Q q => ⟨_, e, by
    obtain ⟨dx, fs, w, hp, l, r⟩ := F c Z1 H1 (hm Z1 H1 d)
    exact ⟨p, C, dx, fs, w, rfl, hp, cl, n, l, q w Z1 H1 (Step.refl c') d r⟩⟩
/-- the attribute f is itself a thing that changes, at q -/
def MRef (N : Mu ν) (p C : Addr) (f : Str) (q : Addr) : Prop := ∀ c Z H, N.m c Z H → ∃ dx fs, H p = some (.ins C dx fs) ∧ fs.lookup f = some (.ref q)
theorem ev_mref {p C q : Addr} {f : Str} {i : Nat} (hm : ∀ Z H, M.m s Z H → N.m c Z H) (F : MRef N p C f q) (cl : Cls K C) (n : NoAttr K C f) (e : σ[i]? = some (some (.ref p))) : Ev M (tFld K (tVar i) f) σ Z H s (isRef q) s :=
  fun Z1 H1 _ _ c' d Q k => ⟨_, e, by
    obtain ⟨dx, fs, hp, l⟩ := F c Z1 H1 (hm Z1 H1 d)
    exact ⟨p, C, dx, fs, _, rfl, hp, cl, n, l, k _ Z1 H1 (Step.refl c') d rfl⟩⟩
/-- the thing at p is an instance of the class at C without an own attribute m -/
def MObj (N : Mu ν) (p C : Addr) (m : Str) : Prop := ∀ c Z H, N.m c Z H → ∃ dx fs, H p = some (.ins C dx fs) ∧ fs.lookup m = none
theorem ev_mmeth {p C' : Addr} {m : Str} {sp : Sp} {E : XK} {Rs : Ra M.fp} {R : Rr M.fp} (hm : ∀ Z H, M.m s1 Z H → N.m c Z H) (O : MObj N p C' m) (cs : CallS M sp E (rac (isRef p) Rs) s2 R s3) (hx : Ev M ta σ Z H s (isRef p) s1) (ha : EvA M t σ Z H s1 Rs s2) : Ev M (tMeth C' m sp [] E ta t) σ Z H s R s3 :=
  fun Z1 H1 a b c' d Q q => hx Z1 H1 a b c' d _ fun v Z2 H2 e mm rv => by
    obtain ⟨dx, fs, hp, l⟩ := O _ Z2 H2 (hm Z2 H2 mm)
    have ev : v = .ref p := rv
    subst ev
    refine ⟨p, dx, fs, rfl, hp, l, ha Z2 H2 (a.trans e.z) (b.trans e.h) e.s mm _ fun vs Z3 H3 e2 m2 rs => ?_⟩
    rw [List.append_nil]
    exact cs Z3 H3 _ e2.s m2 ⟨_, vs, rfl, rfl, rs⟩ Q fun v Z4 H4 e3 m3 rv' => q v Z4 H4 ((e.trans e2).trans e3) m3 rv'
theorem ev_mprop {p C' : Addr} {m : Str} {sp : Sp} {E : XK} {R : Rr M.fp} (hm : ∀ Z H, M.m s1 Z H → N.m c Z H) (O : MObj N p C' m) (cs : CallS M sp E (rac (isRef p) ra0) s1 R s2) (hx : Ev M ta σ Z H s (isRef p) s1) : Ev M (tProp C' sp [] E ta) σ Z H s R s2 :=
  fun Z1 H1 a b c' d Q q => hx Z1 H1 a b c' d _ fun v Z2 H2 e mm rv => by
    obtain ⟨dx, fs, hp, l⟩ := O _ Z2 H2 (hm Z2 H2 mm)
    have ev : v = .ref p := rv
    subst ev
    exact ⟨p, dx, fs, rfl, hp, cs Z2 H2 _ e.s mm ⟨_, [], rfl, rfl, rfl⟩ Q fun v Z4 H4 e3 m3 rv' => q v Z4 H4 (e.trans e3) m3 rv'⟩
theorem eve_mmeth {p C' : Addr} {m : Str} {sp : Sp} {E : XK} {Rs : Ra M.fp} {cls : Value} (hm : ∀ Z H, M.m s1 Z H → N.m c Z H) (O : MObj N p C' m) (cs : CallE M sp E (rac (isRef p) Rs) s2 cls s3) (hx : Ev M ta σ Z H s (isRef p) s1) (ha : EvA M t σ Z H s1 Rs s2) : EvE M (tMeth C' m sp [] E ta t) σ Z H s (E cls none) s3 :=
  fun Z1 H1 a b c' d Q q => hx Z1 H1 a b c' d _ fun v Z2 H2 e mm rv => by
    obtain ⟨dx, fs, hp, l⟩ := O _ Z2 H2 (hm Z2 H2 mm)
    have ev : v = .ref p := rv
    subst ev
    refine ⟨p, dx, fs, rfl, hp, l, ha Z2 H2 (a.trans e.z) (b.trans e.h) e.s mm _ fun vs Z3 H3 e2 m2 rs => ?_⟩
    rw [List.append_nil]
    exact cs Z3 H3 _ e2.s m2 ⟨_, vs, rfl, rfl, rs⟩ Q fun Z4 H4 e3 m3 => q Z4 H4 ((e.trans e2).trans e3) m3
theorem eve_mmethA {p C' : Addr} {m : Str} {sp : Sp} {E : XK} {X : Hp → Prop} (hm : ∀ Z H, M.m s1 Z H → N.m c Z H) (O : MObj N p C' m) (hx : Ev M ta σ Z H s (isRef p) s1) (ha : EvAE M t σ Z H s1 X s2) : EvE M (tMeth C' m sp [] E ta t) σ Z H s X s2 :=
  fun Z1 H1 a b c' d Q q => hx Z1 H1 a b c' d _ fun v Z2 H2 e mm rv => by
    obtain ⟨dx, fs, hp, l⟩ := O _ Z2 H2 (hm Z2 H2 mm)
    have ev : v = .ref p := rv
    subst ev
    exact ⟨p, dx, fs, rfl, hp, l, ha Z2 H2 (a.trans e.z) (b.trans e.h) e.s mm _ fun Z3 H3 e2 m2 => q Z3 H3 (e.trans e2) m2⟩
/-- the attribute f is stored anew -/
def MSet {α : Type} (N : Mu ν) (p C : Addr) (f : Str) (τ : Ty α) (up : ν → α → ν) : Prop := ∀ c Z H, N.m c Z H → p ∈ N.fp ∧ Z p = none ∧ ∃ dx fs, H p = some (.ins C dx fs) ∧ fs.length < 1000 ∧ ∀ w x, τ.r Z w x → N.m (up c x) Z (upd H p (.ins C dx (putF f w fs)))
theorem st_mset {α : Type} {τ : Ty α} {x : α} {p C : Addr} {f : Str} {i : Nat} {up : ν → α → ν} {tv : TE} (P : Pt S Z0 H0 M Z H s) (hm : ∀ Z H, M.m s1 Z H → N.m c Z H) (hf : ∀ a ∈ N.fp, a ∈ M.fp) (hp : ∀ Z H Z' H', M.m s1 Z H → Step N.fp Z H Z' H' → N.m (up c x) Z' H' → M.m s2 Z' H')
    (F : MSet N p C f τ up) (cl : Cls K C) (n : NoAttr K C f) (hσ : σ[i]? = some (some (.ref p))) (e : Ev M tv σ Z H s (ty τ x) s1) (k : ∀ Z1 H1, Step M.fp Z H Z1 H1 → Pt S Z0 H0 M Z1 H1 s2 → D.nx σ H1) : sFld K (tVar i) tv f D σ H :=
  e Z H (Same.refl _) SameX.refl P.sub P.m _ fun v Z1 H1 e m r => by
    obtain ⟨pf, zp, dx, fs, h1, l, up'⟩ := F c Z1 H1 (hm Z1 H1 m)
    have m' := up' v x r
    have st : Step [p] Z1 H1 Z1 (upd H1 p (.ins C dx (putF f v fs))) := Step.set e.s zp
    have stN : Step N.fp Z1 H1 Z1 (upd H1 p (.ins C dx (putF f v fs))) := st.weak fun a ha => by rw [List.mem_singleton] at ha; rw [ha]; exact .inl pf
    have m2 := hp _ _ _ _ m stN m'
    have e2 := e.trans (stN.weak fun a ha => .inl (hf a ha))
    exact ⟨.ref p, hσ, p, C, dx, fs, rfl, h1, cl, n, l, k _ _ e2 (P.next e2 m2)⟩
/-- self.f += e of integers -/
theorem st_maug {p C : Addr} {f : Str} {i : Nat} {up : ν → Int → ν} {tv : TE} {pr : ν → Int} {b : Int} {g : Int → Int → Int} (P : Pt S Z0 H0 M Z H s) (hm : ∀ Z H, M.m s Z H → N.m c Z H) (hf : ∀ a ∈ N.fp, a ∈ M.fp) (hp : ∀ Z H Z' H', M.m s Z H → Step N.fp Z H Z' H' → N.m (up c (g (pr c) b)) Z' H' → M.m s2 Z' H')
    (F : MSet N p C f yInt up) (G : MFld N p C f yInt pr) (cl : Cls K C) (n : NoAttr K C f) (hσ : σ[i]? = some (some (.ref p))) (e : Ev M tv σ Z H s (ty yInt b) s) (k : ∀ Z1 H1, Step M.fp Z H Z1 H1 → Pt S Z0 H0 M Z1 H1 s2 → D.nx σ H1) : sFldAug K (tVar i) tv (ipI g) f D σ H := by
  obtain ⟨dx0, fs0, w, h0, l0, r0⟩ := G c Z H (hm Z H P.m)
  refine ⟨.ref p, hσ, p, C, dx0, fs0, w, rfl, h0, cl, n, l0, e Z H (Same.refl _) SameX.refl P.sub P.m _ fun v Z1 H1 e m r => ?_⟩
  obtain ⟨pf, zp, dx, fs, h1, l, up'⟩ := F c Z1 H1 (hm Z1 H1 m)
  refine ⟨pr c, b, r0, r, dx, fs, h1, l, ?_⟩
  have m' := up' (.int (g (pr c) b)) (g (pr c) b) rfl
  have st : Step [p] Z1 H1 Z1 (upd H1 p (.ins C dx (putF f (.int (g (pr c) b)) fs))) := Step.set e.s zp
  have stN : Step N.fp Z1 H1 Z1 (upd H1 p (.ins C dx (putF f (.int (g (pr c) b)) fs))) := st.weak fun a ha => by rw [List.mem_singleton] at ha; rw [ha]; exact .inl pf
  have m2 := hp _ _ _ _ m stN m'
  have e2 := e.trans (stN.weak fun a ha => .inl (hf a ha))
  exact k _ _ e2 (P.next e2 m2)
/-- a new thing that changes -/
def EvM (M : Mu μ) (t : TE) (σ : L2.St) (Z H : Hp) (s : μ) (N : ι → Mu ν) (pr : ι → Addr) (x : ν) (s' : μ) : Prop :=
  ∀ Z1 H1, Same Z Z1 → SameX M.fp H H1 → Same Z1 H1 → M.m s Z1 H1 → ∀ Q : VK, (∀ i Z2 H2, Step M.fp Z1 H1 Z2 H2 → M.m s' Z2 H2 → (∀ a ∈ (N i).fp, H1 a = none) → (N i).m x Z2 H2 → Q (.ref (pr i)) H2) → t σ H1 Q
/-- what the __init__ makes: a thing that changes -/
def InitM (M : Mu μ) (C : Addr) (sp : Sp) (E : XK) (Rs : Ra M.fp) (s : μ) (N : ι → Mu ν) (pr : ι → Addr) (x : ν) (s' : μ) : Prop :=
  ∀ Z H vs p dx, Same Z H → M.m s Z H → Rs.r Z H vs → H p = some (.ins C dx []) → Z p = none → p ∉ M.fp → ∀ Q : VK, (∀ i Z2 H2, pr i = p → Step (p :: M.fp) Z H Z2 H2 → M.m s' Z2 H2 → (∀ a ∈ (N i).fp, a = p ∨ H a = none) → (N i).m x Z2 H2 → Q .non H2) → sp (.ref p :: vs) H Q E
theorem ev_makeM {C : Addr} {sp : Sp} {E : XK} {Rs : Ra M.fp} {N : ι → Mu ν} {pr : ι → Addr} {x : ν} (I : InitM M C sp E Rs s1 N pr x s2) (ha : EvA M t σ Z H s Rs s1) : EvM M (tMake C sp [] E t) σ Z H s N pr x s2 :=
  fun Z1 H1 a b c d Q q => ha Z1 H1 a b c d _ fun vs Z2 H2 e m rs x' dx hx hd ne => by
    rw [List.append_nil]
    have st := Step.dict (C := C) e.s hx hd ne
    have nf : x' ∉ M.fp := fun h => (M.al m x' h).1 hx
    have back : ∀ a, upd (upd H2 dx (.own x')) x' (.ins C dx []) a = none → H2 a = none := fun a h => by
      cases q : H2 a with
      | none => rfl
      | some o => exact absurd h (st.al a (some_ne q))
    refine I Z2 _ vs x' dx st.s (M.pure st m) (Rs.st st.pure rs) upd_same (same_none e.s hx) nf _ fun i Z3 H3 ei e2 m2 fr mi => ⟨rfl, ?_⟩
    subst ei
    have e3 : Step M.fp Z2 H2 Z3 H3 := ((st.pure (S := pr i :: M.fp)).trans e2).weak fun a h => by
      rcases List.mem_cons.mp h with e | h
      · exact .inr (e ▸ hx)
      · exact .inl h
    exact q i Z3 H3 (e.trans e3) m2 (fun a ha => by
      rcases fr a ha with r | r
      · rw [r]; exact same_x e hx
      · exact same_x e (back a r)) mi
/-- it is called x from now on -/
theorem st_setM {N : ι → Mu ν} {pr : ι → Addr} {x : ν} {j : Nat} (P : Pt S Z0 H0 M Z H s) (e : EvM M te σ Z H s N pr x s1) (k : ∀ i Z1 H1, Step M.fp Z H Z1 H1 → (∀ a ∈ (N i).fp, H a = none) → Pt S Z0 H0 (muX M (N i)) Z1 H1 (s1, x) → D.nx (σ.set j (some (.ref (pr i)))) H1) : tAsg te (gName j) D σ H :=
  e Z H (Same.refl _) SameX.refl P.sub P.m _ fun i Z1 H1 e m fr mi => k i Z1 H1 e fr ⟨P.st.mine e P.mine, ⟨m, mi, fun a ha hb => (M.al P.m a ha).1 (fr a hb)⟩, fun a ha => by
    rcases List.mem_append.mp ha with ha | ha
    · exact P.mine a ha
    · exact .inr (same_x P.st (fr a ha))⟩
theorem Pt.left {N : Mu ν} {x : ν} (P : Pt S Z0 H0 (muX M N) Z H (s, x)) : Pt S Z0 H0 M Z H s := ⟨P.st, P.m.1, fun a ha => P.mine a (List.mem_append_left _ ha)⟩
theorem Own.grow {α : Type} {τ : Ty α} {xs : List α} {p : Addr} {F : List Addr} {Z1 H1 : Hp} (o : Own S H0 M.fp Z H τ p xs) (e : Step M.fp Z H Z1 H1) (fr : ∀ a ∈ F, H a = none) : Own S H0 (M.fp ++ F) Z1 H1 τ p xs := by
  have o1 := o.next e
  obtain ⟨vs, h, _⟩ := o.ex
  have nf : p ∉ F := fun hb => by
    rw [fr p hb] at h
    exact nomatch h
  exact ⟨o1.ex, o1.z, fun ha => (List.mem_append.mp ha).elim o.n nf, o1.mine, o1.l⟩
theorem Own.left {α : Type} {τ : Ty α} {xs : List α} {p : Addr} {F G : List Addr} (o : Own S H0 (F ++ G) Z H τ p xs) : Own S H0 F Z H τ p xs := ⟨o.ex, o.z, fun h => o.n (List.mem_append_left _ h), o.mine, o.l⟩
theorem Step.left {F G : List Addr} {Z H Z1 H1 : Hp} (e : Step F Z H Z1 H1) : Step (F ++ G) Z H Z1 H1 := e.weak fun a h => .inl (List.mem_append_left _ h)
theorem putF_ne {f g : Str} {v w : V} {r : List (Str × V)} (h : ¬ g = f) : putF f v ((g, w) :: r) = (g, w) :: putF f v r := by
  show (if g = f then (g, v) :: r else (g, w) :: putF f v r) = _
  rw [if_neg h]
theorem putF_eq {f : Str} {v w : V} {r : List (Str × V)} : putF f v ((f, w) :: r) = (f, v) :: r := by
  show (if f = f then (f, v) :: r else _) = _
  rw [if_pos rfl]
theorem putF_nil {f : Str} {v : V} : putF f v [] = [(f, v)] := rfl
end
end TP

namespace TP
open PySem PySem.Spec PyProof.Rows L2
/-- what never is reached -/
theorem ps_dead {X : Cx} {s : Stmt} : PS X s (fun _ _ _ => False) := ⟨fun _ _ _ _ _ _ h => h.elim⟩
theorem sl_tupW {X : Cx} : SlR X (rSlW X.K) := sl_tupA
/-- an expression that is read in one of two ways -/
theorem pe_or2 {X : Cx} {e : Expr} {t u : TE} (h : PE X e t) (g : PE X e u) : PE X e (fun σ H Q => t σ H Q ∨ u σ H Q) := ⟨fun pins s σ H Q I q => by
  rcases q with q | q
  · exact h.run pins s σ H Q I q
  · exact g.run pins s σ H Q I q⟩
def rOr (r r' : R2) : R2 := fun x y H Q => r x y H Q ∨ r' x y H Q
theorem op_or {X : Cx} {f : Value → Value → Sem Value} {r r' : R2} (h : OpR X f r) (h' : OpR X f r') : OpR X f (rOr r r') := fun pins s σ H x y v u Q I rx ry q => by
  rcases q with q | q
  · exact h pins s σ H x y v u Q I rx ry q
  · exact h' pins s σ H x y v u Q I rx ry q
def rImp (r r' : R2) : Prop := ∀ x y H Q, r x y H Q → r' x y H Q
theorem ri_self {r : R2} : rImp r r := fun _ _ _ _ h => h
theorem ri_l {r r' : R2} : rImp r (rOr r r') := fun _ _ _ _ h => .inl h
theorem ri_r {r r' r'' : R2} (h : rImp r r') : rImp r (rOr r'' r') := fun _ _ _ _ q => .inr (h _ _ _ _ q)
section
variable {μ : Type} {M : Mu μ} {σ : L2.St} {Z H : Hp} {s s1 s2 s3 : μ} {ta tb t u : TE} {K : PySem.W.Frag}
theorem ev_orl {R : Rr M.fp} (h : Ev M t σ Z H s R s1) : Ev M (fun σ H Q => t σ H Q ∨ u σ H Q) σ Z H s R s1 := fun Z1 H1 a b c d Q q => .inl (h Z1 H1 a b c d Q q)
theorem ev_orr {R : Rr M.fp} (h : Ev M u σ Z H s R s1) : Ev M (fun σ H Q => t σ H Q ∨ u σ H Q) σ Z H s R s1 := fun Z1 H1 a b c d Q q => .inr (h Z1 H1 a b c d Q q)
theorem ev_ownR {α : Type} {τ : Ty α} {x : α} {R0 : Rr M.fp} {C : Addr} {t : Value} {sp : Sp} {E : XK} {b neg : Bool} {r : R2} (hr : rImp (TPN.rOwnE K C neg sp E) r) (O : ∀ Z v x, τ.r Z v x → ∃ a dx fs, v = .ref a ∧ Z a = some (.ins C dx fs)) (tx : ∀ Z H v, Same Z H → R0.r Z H v → TyX K H v t) (hn : PySem.W.notFirst K C t = true)
    (c : CallS M sp E (rac (ty τ x) (rac R0 ra0)) s2 (ty yBool b) s3) (ha : Ev M ta σ Z H s (ty τ x) s1) (hb : Ev M tb σ Z H s1 R0 s2) : Ev M (tOp r ta tb) σ Z H s (ty yBool (b != neg)) s3 :=
  fun Z1 H1 a' b' c' d' Q q => ha Z1 H1 a' b' c' d' _ fun v Z2 H2 e m rv => hb Z2 H2 (a'.trans e.z) (b'.trans e.h) e.s m _ fun w Z3 H3 e2 m2 rw => by
    have rv3 := τ.mono e2.z rv
    obtain ⟨p, dx, fs, rfl, hp⟩ := O _ _ _ rv3
    exact hr _ _ _ _ ⟨p, dx, fs, t, rfl, e2.s _ _ hp, tx _ _ _ e2.s rw, hn, c Z3 H3 _ e2.s m2 ⟨_, _, rfl, rv3, _, _, rfl, rw, rfl⟩ _ fun u Z4 H4 e3 m3 ru => ⟨b, ru, q _ Z4 H4 ((e.trans e2).trans e3) m3 rfl⟩⟩
variable {fp : List Addr} {α β γ δ : Type} {τ : Ty α} {υ : Ty β} {φ : Ty γ} {ψ : Ty δ}
theorem tx_p1 {x : α} : ∀ Z H v, Same Z H → (ty (fp := fp) (yP1 K τ) x).r Z H v → TyX K H v (.type "tuple") := fun _ _ _ sz ⟨a, _, e, h, _⟩ => by subst e; exact tx_sqT (seqT_same sz h)
theorem tx_p4 {x : α × β × γ × δ} : ∀ Z H v, Same Z H → (ty (fp := fp) (yP4 K τ υ φ ψ) x).r Z H v → TyX K H v (.type "tuple") := fun _ _ _ sz ⟨a, _, _, _, _, e, h, _⟩ => by subst e; exact tx_sqT (seqT_same sz h)
end
end TP

namespace TP
open PySem PySem.Spec PyProof.Rows L2
section
variable {κ κ' α : Type}
/-- what a dict holds -/
inductive DA (e : κ → κ') (R : V → α → Prop) : List (κ' × V) → List (κ × α) → Prop
  | nil : DA e R [] []
  | cons {k : κ} {v : V} {x : α} {ws : List (κ' × V)} {kvs : List (κ × α)} (r : R v x) (t : DA e R ws kvs) : DA e R ((e k, v) :: ws) ((k, x) :: kvs)
theorem DA.imp {e : κ → κ'} {R R' : V → α → Prop} (f : ∀ v x, R v x → R' v x) {ws : List (κ' × V)} {kvs : List (κ × α)} (h : DA e R ws kvs) : DA e R' ws kvs := by
  induction h with
  | nil => exact .nil
  | cons r _ ih => exact .cons (f _ _ r) ih
theorem DA.len {e : κ → κ'} {R : V → α → Prop} {ws : List (κ' × V)} {kvs : List (κ × α)} (h : DA e R ws kvs) : ws.length = kvs.length := by
  induction h with
  | nil => rfl
  | cons _ _ ih => rw [List.length_cons, List.length_cons, ih]
theorem DA.snoc {e : κ → κ'} {R : V → α → Prop} {k : κ} {v : V} {x : α} {ws : List (κ' × V)} {kvs : List (κ × α)} (h : DA e R ws kvs) (r : R v x) : DA e R (ws ++ [(e k, v)]) (kvs ++ [(k, x)]) := by
  induction h with
  | nil => exact .cons r .nil
  | cons r1 _ ih => exact .cons r1 ih
variable [DecidableEq κ] [DecidableEq κ']
def getA (kvs : List (κ × α)) (k : κ) : Option α := (kvs.find? fun kv => decide (kv.1 = k)).map (·.2)
def putA (kvs : List (κ × α)) (k : κ) (x : α) : List (κ × α) := if (kvs.any fun kv => decide (kv.1 = k)) = true then kvs.map (fun kv => if kv.1 = k then (kv.1, x) else kv) else kvs ++ [(k, x)]
theorem DA.any {e : κ → κ'} {R : V → α → Prop} (inj : ∀ a b, e a = e b → a = b) {ws : List (κ' × V)} {kvs : List (κ × α)} (h : DA e R ws kvs) (k : κ) : (ws.any fun kv => decide (kv.1 = e k)) = kvs.any fun kv => decide (kv.1 = k) := by
  induction h with
  | nil => rfl
  | cons r t ih =>
    rw [List.any_cons, List.any_cons, ih]
    congr 1
    exact decide_eq_decide.mpr ⟨inj _ _, fun q => congrArg e q⟩
theorem DA.get {e : κ → κ'} {R : V → α → Prop} (inj : ∀ a b, e a = e b → a = b) {ws : List (κ' × V)} {kvs : List (κ × α)} (h : DA e R ws kvs) (k : κ) : (getA kvs k = none ∧ valV ws (e k) = none) ∨ ∃ x v, getA kvs k = some x ∧ valV ws (e k) = some v ∧ R v x := by
  induction h with
  | nil => exact .inl ⟨rfl, rfl⟩
  | @cons j v x ws kvs r t ih =>
    by_cases q : j = k
    · right
      refine ⟨x, v, ?_, valV_pos (congrArg e q), r⟩
      unfold getA
      rw [List.find?_cons, decide_eq_true (show (j, x).1 = k from q)]
      rfl
    · have q2 : ¬ e j = e k := fun z => q (inj _ _ z)
      rw [valV_neg (p := (e j, v)) q2]
      unfold getA
      rw [List.find?_cons, decide_eq_false (show ¬ (j, x).1 = k from q)]
      exact ih
theorem DA.map {e : κ → κ'} {R : V → α → Prop} (inj : ∀ a b, e a = e b → a = b) {k : κ} {v : V} {x : α} (r : R v x) {ws : List (κ' × V)} {kvs : List (κ × α)} (h : DA e R ws kvs) : DA e R (ws.map fun kv => if kv.1 = e k then (kv.1, v) else kv) (kvs.map fun kv => if kv.1 = k then (kv.1, x) else kv) := by
  induction h with
  | nil => exact .nil
  | @cons j w y ws kvs r1 t ih =>
    rw [List.map_cons, List.map_cons]
    by_cases q : j = k
    · rw [if_pos (show (e j, w).1 = e k from congrArg e q), if_pos (show (j, y).1 = k from q)]
      exact .cons r ih
    · rw [if_neg (show ¬ (e j, w).1 = e k from fun z => q (inj _ _ z)), if_neg (show ¬ (j, y).1 = k from q)]
      exact .cons r1 ih
theorem DA.put {e : κ → κ'} {R : V → α → Prop} (inj : ∀ a b, e a = e b → a = b) {k : κ} {v : V} {x : α} (r : R v x) {ws : List (κ' × V)} {kvs : List (κ × α)} (h : DA e R ws kvs) : DA e R (putK ws (e k) v) (putA kvs k x) := by
  unfold putK putA
  rw [h.any inj k]
  by_cases q : (kvs.any fun kv => decide (kv.1 = k)) = true
  · rw [if_pos q, if_pos q]; exact h.map inj r
  · rw [if_neg q, if_neg q]; exact h.snoc r
theorem putA_len (kvs : List (κ × α)) (k : κ) (x : α) : (putA kvs k x).length ≤ kvs.length + 1 := by
  unfold putA
  split
  · rw [List.length_map]; omega
  · rw [List.length_append]; exact Nat.le_refl _
/-- the kinds of keys -/
structure KeyT (τ : Ty κ) (e : κ → Key) : Prop where
  v : ∀ Z v k, τ.r Z v k → v = kV (e k)
  inj : ∀ a b, e a = e b → a = b
end
theorem kt_str : KeyT yStr (fun x => Sum.inr x) := ⟨fun _ _ _ h => h.1, fun _ _ h => Sum.inr.inj h⟩
theorem kt_int : KeyT yInt (fun x => Sum.inl x) := ⟨fun _ _ _ h => h, fun _ _ h => Sum.inl.inj h⟩
section
variable {κ α : Type}
def yDict (e : κ → Key) (τ : Ty α) : Ty (List (κ × α)) := ⟨fun Z v kvs => ∃ a ws, v = .ref a ∧ Z a = some (.dK ws) ∧ DA e (τ.r Z) ws kvs ∧ kvs.length ≤ sizeLine,
  fun s ⟨a, ws, e1, h, t, l⟩ => ⟨a, ws, e1, s _ _ h, t.imp fun _ _ => τ.mono s, l⟩⟩
theorem nn_dict {e : κ → Key} {τ : Ty α} : NonNil (yDict e τ) := fun _ _ _ ⟨_, _, h, _⟩ => by rw [h]; exact fun z => nomatch z
variable {μ : Type} {S : List Addr} {Z0 H0 : Hp} {M : Mu μ} {σ : L2.St} {Z H : Hp} {s s' s1 s2 s3 : μ} {te tk tx : TE} {K : PySem.W.Frag} {D : Ends} {e : κ → Key} {τ : Ty α} {τk : Ty κ} {kvs : List (κ × α)} {p : Addr} {fp : List Addr}
/-- a dict of one's own: it may change -/
structure OwnD (S : List Addr) (H0 : Hp) (fp : List Addr) (Z H : Hp) (e : κ → Key) (τ : Ty α) (p : Addr) (kvs : List (κ × α)) : Prop where
  ex : ∃ ws, H p = some (.dK ws) ∧ DA e (τ.r Z) ws kvs
  z : Z p = none
  n : p ∉ fp
  mine : H0 p = none
  l : kvs.length ≤ sizeLine
theorem OwnD.step {F : List Addr} {Z1 H1 : Hp} (o : OwnD S H0 fp Z H e τ p kvs) (g : Step F Z H Z1 H1) (n : p ∉ F) : OwnD S H0 fp Z1 H1 e τ p kvs := by
  obtain ⟨vs, h, t⟩ := o.ex
  exact ⟨⟨vs, g.h _ _ n h, t.imp fun _ _ => τ.mono g.z⟩, g.n _ (some_ne h) o.z, o.n, o.mine, o.l⟩
theorem OwnD.next {Z1 H1 : Hp} (o : OwnD S H0 fp Z H e τ p kvs) (g : Step fp Z H Z1 H1) : OwnD S H0 fp Z1 H1 e τ p kvs := o.step g o.n
theorem OwnD.ne (o : OwnD S H0 fp Z H e τ p kvs) {q : Addr} (h : H q = none) : p ≠ q := by
  obtain ⟨vs, hp, _⟩ := o.ex
  exact ne_of_some (some_ne hp) h
theorem OwnD.fz (o : OwnD S H0 M.fp Z H e τ p kvs) (P : Pt S Z0 H0 M Z H s) : ∃ Z', Pt S Z0 H0 M Z' H s ∧ Same Z Z' ∧ (yDict e τ).r Z' (.ref p) kvs ∧ ∀ q, q ≠ p → Z q = none → Z' q = none := by
  obtain ⟨vs, h, t⟩ := o.ex
  refine ⟨upd Z p (.dK vs), ⟨?_, Mu.fz P.m o.z o.n, P.mine⟩, same_upd o.z, ⟨p, vs, rfl, upd_same, t.imp fun _ _ => τ.mono (same_upd o.z), o.l⟩, fun q n e => by rw [upd_ne n]; exact e⟩
  exact P.st.fz o.mine h o.z
theorem OwnD.keep {Z1 : Hp} (o : OwnD S H0 fp Z H e τ p kvs) (g : Same Z Z1) (n : Z1 p = none) : OwnD S H0 fp Z1 H e τ p kvs := by
  obtain ⟨vs, h, t⟩ := o.ex
  exact ⟨⟨vs, h, t.imp fun _ _ => τ.mono g⟩, n, o.n, o.mine, o.l⟩
theorem OwnD.grow {F : List Addr} {Z1 H1 : Hp} (o : OwnD S H0 M.fp Z H e τ p kvs) (g : Step M.fp Z H Z1 H1) (fr : ∀ a ∈ F, H a = none) : OwnD S H0 (M.fp ++ F) Z1 H1 e τ p kvs := by
  have o1 := o.next g
  obtain ⟨vs, h, _⟩ := o.ex
  have nf : p ∉ F := fun hb => by
    rw [fr p hb] at h
    exact nomatch h
  exact ⟨o1.ex, o1.z, fun ha => (List.mem_append.mp ha).elim o.n nf, o1.mine, o1.l⟩
theorem OwnD.left {F G : List Addr} (o : OwnD S H0 (F ++ G) Z H e τ p kvs) : OwnD S H0 F Z H e τ p kvs := ⟨o.ex, o.z, fun h => o.n (List.mem_append_left _ h), o.mine, o.l⟩
/-- x = {} -/
theorem st_setD {i : Nat} (P : Pt S Z0 H0 M Z H s) (k : ∀ p Z1 H1, Step M.fp Z H Z1 H1 → Pt S Z0 H0 M Z1 H1 s → H p = none → OwnD S H0 M.fp Z1 H1 e τ p ([] : List (κ × α)) → D.nx (σ.set i (some (.ref p))) H1) : tAsg tDNewK (gName i) D σ H := fun p hp => by
  have e4 : Step M.fp Z H Z (upd H p (.dK [])) := (Step.own (o := .dK []) P.sub hp).pure
  exact k p Z _ e4 (P.next e4 (M.pure (Step.own (o := .dK []) P.sub hp) P.m)) hp ⟨⟨[], upd_same, .nil⟩, same_none P.sub hp, fun hf => (M.al P.m p hf).1 hp, same_x P.st hp, Nat.zero_le _⟩
variable [DecidableEq κ]
/-- d[k] = x -/
theorem st_dput {i : Nat} {k : κ} {x : α} (ke : KeyT τk e) (P : Pt S Z0 H0 M Z H s) (o : OwnD S H0 M.fp Z H e τ p kvs) (hσ : σ[i]? = some (some (.ref p))) (ex : Ev M te σ Z H s (ty τ x) s1) (ek : ∀ Z1 H1, Step M.fp Z H Z1 H1 → Ev M tk σ Z1 H1 s1 (ty τk k) s2) (l : kvs.length < sizeLine)
    (kk : ∀ Z1 H1, Step (p :: M.fp) Z H Z1 H1 → Pt S Z0 H0 M Z1 H1 s2 → OwnD S H0 M.fp Z1 H1 e τ p (putA kvs k x) → D.nx σ H1) : tAsg te (gSub (tVar i) tk rSetD) D σ H := by
  obtain ⟨vs, h, t⟩ := o.ex
  refine ex Z H (Same.refl _) SameX.refl P.sub P.m _ fun v Z1 H1 e1 m r => ⟨.ref p, hσ, ek Z1 H1 e1 Z1 H1 (Same.refl _) SameX.refl e1.s m _ fun v2 Z2 H2 e2 m2 r2 => ?_⟩
  have o1 := (o.next e1).next e2
  have P1 := (P.next e1 m).next e2 m2
  have hv2 := ke.v _ _ _ r2
  have hl : vs.length < sizeLine := by rw [t.len]; exact l
  show ∃ a H', V.ref p = .ref a ∧ DPut H2 a v2 v H' ∧ D.nx σ H'
  refine ⟨p, _, rfl, by rw [hv2]; exact DPut.k (e2.h _ _ o.n (e1.h _ _ o.n h)) hl, ?_⟩
  exact kk _ _ (step2 (e1.trans e2) o1.z) (P1.set o1.z o.n (.inr o.mine)) ⟨⟨_, upd_same, (t.imp fun _ _ => τ.mono (e1.trans e2).z).put ke.inj (τ.mono e2.z r)⟩, o1.z, o.n, o.mine, Nat.le_trans (putA_len _ _ _) l⟩
theorem ev_dgetX {k : κ} {x : α} {td : TE} {R : Rr M.fp} (ke : KeyT τk e) (hd : Ev M td σ Z H s R s1) (hR : ∀ Z H v, Same Z H → R.r Z H v → ∃ a ws, v = .ref a ∧ a ∉ M.fp ∧ H a = some (.dK ws) ∧ DA e (τ.r Z) ws kvs) (ek : Ev M tk σ Z H s1 (ty τk k) s2) (ed : Ev M tx σ Z H s2 (ty τ x) s3) : Ev M (tDGet2 td tk tx) σ Z H s (ty τ ((getA kvs k).getD x)) s3 :=
  fun Z1 H1 a b c d Q q => hd Z1 H1 a b c d _ fun v Z2 H2 g m rv => by
    obtain ⟨p, ws, rfl, np, hp, t⟩ := hR _ _ _ g.s rv
    refine ⟨p, rfl, .inl ⟨ws, .inl hp⟩, ek Z2 H2 (a.trans g.z) (b.trans g.h) g.s m _ fun v2 Z3 H3 g2 m2 rk => ed Z3 H3 ((a.trans g.z).trans g2.z) ((b.trans g.h).trans g2.h) g2.s m2 _ fun v3 Z4 H4 g3 m3 rx => ?_⟩
    have hp4 := g3.h _ _ np (g2.h _ _ np hp)
    rw [ke.v _ _ _ rk]
    refine ⟨_, DGet.k hp4, ?_⟩
    rcases t.get ke.inj k with ⟨e1, e2⟩ | ⟨y, w, e1, e2, r⟩
    · rw [e2]
      exact q _ _ _ ((g.trans g2).trans g3) m3 (by rw [e1]; exact rx)
    · rw [e2]
      exact q _ _ _ ((g.trans g2).trans g3) m3 (by rw [e1]; exact τ.mono (g2.trans g3).z r)
/-- d.get(k, x) of a dict of one's own -/
theorem ev_dget {i : Nat} {k : κ} {x : α} (ke : KeyT τk e) (o : OwnD S H0 M.fp Z H e τ p kvs) (hσ : σ[i]? = some (some (.ref p))) (ek : Ev M tk σ Z H s (ty τk k) s1) (ed : Ev M tx σ Z H s1 (ty τ x) s2) : Ev M (tDGet2 (tVar i) tk tx) σ Z H s (ty τ ((getA kvs k).getD x)) s2 := by
  obtain ⟨ws, h, t⟩ := o.ex
  refine ev_dgetX (R := ⟨fun Z1 H1 v => v = .ref p ∧ H1 p = some (.dK ws) ∧ DA e (τ.r Z1) ws kvs, ?_⟩) ke (fun Z1 H1 a b c d Q q => ⟨.ref p, hσ, q _ Z1 H1 (Step.refl c) d ⟨rfl, b _ _ o.n h, t.imp fun _ _ => τ.mono a⟩⟩) (fun Z1 H1 v _ ⟨ev, hp, t1⟩ => ⟨p, ws, ev, o.n, hp, t1⟩) ek ed
  first
    | exact fun g ⟨e1, hp, t1⟩ => ⟨e1, g.h _ _ o.n hp, t1.imp fun _ _ => τ.mono g.z⟩
    | exact fun _ _ _ _ _ g ⟨e1, hp, t1⟩ => ⟨e1, g.h _ _ o.n hp, t1.imp fun _ _ => τ.mono g.z⟩
end

/-! ### keys that are tuples of integers -/
section
variable {α : Type}
def yKeyI : Ty (List Int) := ⟨fun Z v k => ∃ b, v = .ref b ∧ Z b = some (.tup (k.map V.int)), fun s ⟨b, e, h⟩ => ⟨b, e, s _ _ h⟩⟩
theorem nn_ikey : NonNil yKeyI := fun _ _ _ ⟨_, h, _⟩ => by rw [h]; exact fun z => nomatch z
def keyI (k : List Int) : List Key := k.map Sum.inl
theorem keyI_inj (a b : List Int) (h : keyI a = keyI b) : a = b := by
  have := congrArg (List.map fun k : Key => match k with | .inl i => i | .inr _ => 0) h
  unfold keyI at this
  rw [List.map_map, List.map_map] at this
  have i : ∀ xs : List Int, xs.map ((fun k : Key => match k with | .inl i => i | .inr _ => (0 : Int)) ∘ Sum.inl) = xs := fun xs => by
    rw [show (fun k : Key => match k with | .inl i => i | .inr _ => (0 : Int)) ∘ Sum.inl = id from rfl, List.map_id]
  rwa [i, i] at this
theorem keyI_V (k : List Int) : (keyI k).map kV = k.map V.int := by
  unfold keyI
  rw [List.map_map]
  rfl
variable {μ : Type} {S : List Addr} {Z0 H0 : Hp} {M : Mu μ} {σ : L2.St} {Z H : Hp} {s s' s1 s2 s3 : μ} {te tk tx ta : TE} {K : PySem.W.Frag} {D : Ends} {τ : Ty α} {kvs : List (List Int × α)} {p : Addr} {fp : List Addr}
theorem ev_tupleK {r : List V → Hp → VK → Prop} {xs : List Int} (hr : ∀ xs H Q, (∃ p ys, xs = [.ref p] ∧ ((SqL K H p ys ∧ ∀ l, H l = none → Q (.ref l) (upd H l (.tup ys))) ∨ (SqT K H p ys ∧ Q (.ref p) H))) → r xs H Q) (ha : Ev M ta σ Z H s (li yInt xs) s1) : Ev M (tCB r (tCons ta tNil)) σ Z H s (ty yKeyI xs) s1 :=
  ev_cb (eva_cons ha eva_nil) fun _ _ _ sz ⟨v, r, e, h, e2⟩ _ q => by
    cases e2; cases e
    obtain ⟨p, vs, rfl, g, t, l⟩ := rdl sz h
    have hv : vs = xs.map V.int := All.ints t
    exact hr _ _ _ ⟨p, vs, rfl, .inl ⟨SqL.of g, fun d hd => q _ _ _ (Step.new sz hd) ⟨d, rfl, by rw [upd_same, hv]⟩⟩⟩
/-- a dict of one's own with such keys -/
structure OwnT (S : List Addr) (H0 : Hp) (fp : List Addr) (Z H : Hp) (τ : Ty α) (p : Addr) (kvs : List (List Int × α)) : Prop where
  ex : ∃ ws, H p = some (.dT ws) ∧ DA keyI (τ.r Z) ws kvs
  z : Z p = none
  n : p ∉ fp
  mine : H0 p = none
  l : kvs.length ≤ sizeLine
theorem OwnT.step {F : List Addr} {Z1 H1 : Hp} (o : OwnT S H0 fp Z H τ p kvs) (g : Step F Z H Z1 H1) (n : p ∉ F) : OwnT S H0 fp Z1 H1 τ p kvs := by
  obtain ⟨vs, h, t⟩ := o.ex
  exact ⟨⟨vs, g.h _ _ n h, t.imp fun _ _ => τ.mono g.z⟩, g.n _ (some_ne h) o.z, o.n, o.mine, o.l⟩
theorem OwnT.next {Z1 H1 : Hp} (o : OwnT S H0 fp Z H τ p kvs) (g : Step fp Z H Z1 H1) : OwnT S H0 fp Z1 H1 τ p kvs := o.step g o.n
theorem OwnT.ne (o : OwnT S H0 fp Z H τ p kvs) {q : Addr} (h : H q = none) : p ≠ q := by
  obtain ⟨vs, hp, _⟩ := o.ex
  exact ne_of_some (some_ne hp) h
theorem OwnT.keep {Z1 : Hp} (o : OwnT S H0 fp Z H τ p kvs) (g : Same Z Z1) (n : Z1 p = none) : OwnT S H0 fp Z1 H τ p kvs := by
  obtain ⟨vs, h, t⟩ := o.ex
  exact ⟨⟨vs, h, t.imp fun _ _ => τ.mono g⟩, n, o.n, o.mine, o.l⟩
theorem OwnT.left {F G : List Addr} (o : OwnT S H0 (F ++ G) Z H τ p kvs) : OwnT S H0 F Z H τ p kvs := ⟨o.ex, o.z, fun h => o.n (List.mem_append_left _ h), o.mine, o.l⟩
theorem st_setDT {i : Nat} (P : Pt S Z0 H0 M Z H s) (k : ∀ p Z1 H1, Step M.fp Z H Z1 H1 → Pt S Z0 H0 M Z1 H1 s → H p = none → OwnT S H0 M.fp Z1 H1 τ p ([] : List (List Int × α)) → D.nx (σ.set i (some (.ref p))) H1) : tAsg tDNewT (gName i) D σ H := fun p hp => by
  have e4 : Step M.fp Z H Z (upd H p (.dT [])) := (Step.own (o := .dT []) P.sub hp).pure
  exact k p Z _ e4 (P.next e4 (M.pure (Step.own (o := .dT []) P.sub hp) P.m)) hp ⟨⟨[], upd_same, .nil⟩, same_none P.sub hp, fun hf => (M.al P.m p hf).1 hp, same_x P.st hp, Nat.zero_le _⟩
theorem st_dputT {i : Nat} {k : List Int} {x : α} (P : Pt S Z0 H0 M Z H s) (o : OwnT S H0 M.fp Z H τ p kvs) (hσ : σ[i]? = some (some (.ref p))) (ex : Ev M te σ Z H s (ty τ x) s1) (ek : ∀ Z1 H1, Step M.fp Z H Z1 H1 → Ev M tk σ Z1 H1 s1 (ty yKeyI k) s2) (l : kvs.length < sizeLine)
    (kk : ∀ Z1 H1, Step (p :: M.fp) Z H Z1 H1 → Pt S Z0 H0 M Z1 H1 s2 → OwnT S H0 M.fp Z1 H1 τ p (putA kvs k x) → D.nx σ H1) : tAsg te (gSub (tVar i) tk rSetD) D σ H := by
  obtain ⟨vs, h, t⟩ := o.ex
  refine ex Z H (Same.refl _) SameX.refl P.sub P.m _ fun v Z1 H1 e1 m r => ⟨.ref p, hσ, ek Z1 H1 e1 Z1 H1 (Same.refl _) SameX.refl e1.s m _ fun v2 Z2 H2 e2 m2 ⟨b, eb, hb⟩ => ?_⟩
  have o1 := (o.next e1).next e2
  have P1 := (P.next e1 m).next e2 m2
  have hl : vs.length < sizeLine := by rw [t.len]; exact l
  have hb2 : H2 b = some (.tup ((keyI k).map kV)) := by rw [keyI_V]; exact e2.s _ _ hb
  show ∃ a H', V.ref p = .ref a ∧ DPut H2 a v2 v H' ∧ D.nx σ H'
  refine ⟨p, _, rfl, by rw [eb]; exact DPut.t (e2.h _ _ o.n (e1.h _ _ o.n h)) hb2 hl, ?_⟩
  exact kk _ _ (step2 (e1.trans e2) o1.z) (P1.set o1.z o.n (.inr o.mine)) ⟨⟨_, upd_same, (t.imp fun _ _ => τ.mono (e1.trans e2).z).put keyI_inj (τ.mono e2.z r)⟩, o1.z, o.n, o.mine, Nat.le_trans (putA_len _ _ _) l⟩
/-- d[k] of a dict of one's own -/
theorem ev_dixT {i : Nat} {k : List Int} {x : α} (o : OwnT S H0 M.fp Z H τ p kvs) (hσ : σ[i]? = some (some (.ref p))) (ek : Ev M tk σ Z H s (ty yKeyI k) s1) (hx : getA kvs k = some x) : Ev M (tDGet (tVar i) tk) σ Z H s (ty τ x) s1 := by
  obtain ⟨ws, h, t⟩ := o.ex
  intro Z1 H1 a b c d Q q
  refine ⟨.ref p, hσ, ek Z1 H1 a b c d _ fun v2 Z2 H2 e m ⟨b', eb, hb⟩ => ?_⟩
  have hp2 : H2 p = some (.dT ws) := e.h _ _ o.n (b _ _ o.n h)
  have hb2 : H2 b' = some (.tup ((keyI k).map kV)) := by rw [keyI_V]; exact e.s _ _ hb
  rcases t.get keyI_inj k with ⟨e1, _⟩ | ⟨y, w, e1, e2, r⟩
  · rw [e1] at hx; cases hx
  · rw [e1] at hx
    cases hx
    refine ⟨p, w, rfl, ?_, q _ _ _ e m (τ.mono (a.trans e.z) r)⟩
    rw [eb, ← e2]
    exact DGet.t hp2 hb2
theorem ev_dinT {i : Nat} {k : List Int} (o : OwnT S H0 M.fp Z H τ p kvs) (hσ : σ[i]? = some (some (.ref p))) (ek : Ev M tk σ Z H s (ty yKeyI k) s1) : Ev M (tDIn tk (tVar i)) σ Z H s (ty yBool (getA kvs k).isSome) s1 := by
  obtain ⟨ws, h, t⟩ := o.ex
  intro Z1 H1 a b c d Q q
  refine ek Z1 H1 a b c d _ fun v2 Z2 H2 e m ⟨b', eb, hb⟩ => ⟨.ref p, hσ, ?_⟩
  have hp2 : H2 p = some (.dT ws) := e.h _ _ o.n (b _ _ o.n h)
  have hb2 : H2 b' = some (.tup ((keyI k).map kV)) := by rw [keyI_V]; exact e.s _ _ hb
  refine ⟨p, valV ws (keyI k), rfl, by rw [eb]; exact DGet.t hp2 hb2, q _ _ _ e m ?_⟩
  rcases t.get keyI_inj k with ⟨e1, e2⟩ | ⟨y, w, e1, e2, r⟩ <;> rw [e1, e2] <;> rfl
theorem ev_dnotinT {i : Nat} {k : List Int} (o : OwnT S H0 M.fp Z H τ p kvs) (hσ : σ[i]? = some (some (.ref p))) (ek : Ev M tk σ Z H s (ty yKeyI k) s1) : Ev M (tDNotIn tk (tVar i)) σ Z H s (ty yBool (!(getA kvs k).isSome)) s1 := by
  obtain ⟨ws, h, t⟩ := o.ex
  intro Z1 H1 a b c d Q q
  refine ek Z1 H1 a b c d _ fun v2 Z2 H2 e m ⟨b', eb, hb⟩ => ⟨.ref p, hσ, ?_⟩
  have hp2 : H2 p = some (.dT ws) := e.h _ _ o.n (b _ _ o.n h)
  have hb2 : H2 b' = some (.tup ((keyI k).map kV)) := by rw [keyI_V]; exact e.s _ _ hb
  refine ⟨p, valV ws (keyI k), rfl, by rw [eb]; exact DGet.t hp2 hb2, q _ _ _ e m ?_⟩
  rcases t.get keyI_inj k with ⟨e1, e2⟩ | ⟨y, w, e1, e2, r⟩ <;> rw [e1, e2] <;> rfl
end
end TP

namespace TP
open PySem PySem.Spec PyProof.Rows L2
section
variable {μ : Type} {M : Mu μ} {σ : L2.St} {Z H : Hp} {s s1 : μ} {K : PySem.W.Frag} {α β γ : Type} {τ : Ty α} {τ1 : Ty β} {υ : Ty γ} {xs : List α} {wi wi1 : TI} {g g1 : TG} {te : TE} {vs vs1 : List Nat}
/-- [f x y for x in xs for y in h x] -/
theorem en_flat (h : α → List β) (f : α → β → γ) (hi : EvI M (SameX M.fp) wi σ Z H s τ xs s1) (hl : (xs.flatMap fun x => (h x).map (f x)).length ≤ sizeLine)
    (hb : ∀ x v Z' H', Same Z Z' → SameX M.fp H H' → τ.r Z' v x → ∃ σ2, Tgt g v (wipe σ vs) σ2 Z' ∧ wipe σ2 vs = wipe σ vs ∧ (∀ X, EvI M X wi1 σ2 Z' H' s1 τ1 (h x) s1) ∧
      ∀ y w Z'' H'', Same Z' Z'' → Same Z Z'' → SameX M.fp H H'' → τ1.r Z'' w y → ∃ σ3, Tgt g1 w (wipe σ2 vs1) σ3 Z'' ∧ wipe σ3 vs1 = wipe σ2 vs1 ∧ Ev M te σ3 Z'' H'' s1 (ty υ (f x y)) s1) :
    EvN M (tLc2 wi g tYes wi1 g1 tYes te vs vs1) σ Z H s υ (xs.flatMap fun x => (h x).map (f x)) s1 := by
  intro Z1 H1 a b c d Q q
  refine hi Z1 H1 a b c d _ fun J Z2 H2 e m ⟨hx, G, Y, wk, hG, hY⟩ D hD => ?_
  have zD : Z2 D = none := same_none e.s hD
  have st0 := Step.own (o := .lst []) e.s hD
  have nD : D ∉ M.fp := fun h => absurd hD (M.al m D h).1
  refine ⟨fun i m H' => m = xs.length - i ∧ i ≤ xs.length ∧ ∃ Z' ws, Step M.fp Z2 H2 Z' H' ∧ Z' D = none ∧ H' D = some (.lst ws) ∧ All (υ.r Z') ws ((xs.take i).flatMap fun x => (h x).map (f x)) ∧ M.m s1 Z' H',
    ⟨xs.length, by simp, Nat.zero_le _, Z2, [], st0.pure, zD, upd_same, .nil, M.pure st0 m⟩, ?_⟩
  rintro i _ H' ⟨rfl, hi', Z', ws, st, zD', hD', al, m'⟩
  have gg := hG Z' H' st.z st.s st.h
  by_cases hlt : i < xs.length
  · refine .inr ⟨wk.goes i H' hlt gg, fun H'' => ∃ Z' ws, Step M.fp Z2 H2 Z' H'' ∧ Z' D = none ∧ H'' D = some (.lst ws) ∧ All (υ.r Z') ws ((xs.take (i + 1)).flatMap fun x => (h x).map (f x)) ∧ M.m s1 Z' H'', fun H'' p => ⟨xs.length - (i + 1), by omega, rfl, hlt, p⟩, fun v H4 y => ?_⟩
    obtain ⟨Z4, x, ex, st4, rx⟩ := hY i Z' H' v H4 hlt st.z st.s gg (wk.yields i H' v H4 hlt gg y)
    have hxi : xs[i] = x := by rw [List.getElem?_eq_getElem hlt] at ex; exact Option.some.inj ex
    have tk : (xs.take (i + 1)).flatMap (fun x => (h x).map (f x)) = ((xs.take i).flatMap fun x => (h x).map (f x)) ++ (h x).map (f x) := by
      rw [List.take_succ_eq_append_getElem hlt, List.flatMap_append, hxi]
      simp
    have tot : ((xs.take i).flatMap fun x => (h x).map (f x)).length + (h x).length ≤ sizeLine := by
      have e1 : xs.flatMap (fun x => (h x).map (f x)) = ((xs.take (i + 1)).flatMap fun x => (h x).map (f x)) ++ ((xs.drop (i + 1)).flatMap fun x => (h x).map (f x)) := by
        rw [← List.flatMap_append, List.take_append_drop]
      rw [e1, tk, List.length_append, List.length_append, List.length_map] at hl
      omega
    have e4 := st.trans st4.pure
    have eZ : Same Z Z4 := (a.trans e.z).trans e4.z
    have eH : SameX M.fp H H4 := (b.trans e.h).trans e4.h
    obtain ⟨σ2, tg, wp, hi1, hb1⟩ := hb x v Z4 H4 eZ eH rx
    refine tg H4 e4.s _ ⟨wp, ?_⟩
    refine (hi1 (fun _ _ => True)) Z4 H4 (Same.refl _) SameX.refl e4.s (M.pure st4 m') _ fun J1 Z5 H5 e5 m5 ⟨hx1, G1, Y1, wk1, hG1, hY1⟩ => ?_
    have hD4 : H4 D = some (.lst ws) := st4.h _ _ List.not_mem_nil hD'
    have hD5 : H5 D = some (.lst ws) := e5.h _ _ nD hD4
    have zD5 : Z5 D = none := e5.n D (some_ne hD4) (st4.n D (some_ne hD') zD')
    have e25 := e4.trans e5
    refine ⟨fun j k H6 => k = (h x).length - j ∧ j ≤ (h x).length ∧ ∃ Z6 w6, Step M.fp Z2 H2 Z6 H6 ∧ Same Z5 Z6 ∧ Z6 D = none ∧ H6 D = some (.lst w6) ∧ All (υ.r Z6) w6 (((xs.take i).flatMap fun x => (h x).map (f x)) ++ ((h x).take j).map (f x)) ∧ M.m s1 Z6 H6,
      ⟨(h x).length, by simp, Nat.zero_le _, Z5, ws, e25, Same.refl _, zD5, hD5, by rw [List.take_zero]; simpa using al.imp fun _ _ => υ.mono (st4.z.trans e5.z), m5⟩, ?_⟩
    rintro j _ H6 ⟨rfl, hj', Z6, w6, st6, z56, zD6, hD6, al6, m6⟩
    have g1' := hG1 Z6 H6 z56 st6.s trivial
    by_cases hlt1 : j < (h x).length
    · refine .inr ⟨wk1.goes j H6 hlt1 g1', fun H'' => ∃ Z6 w6, Step M.fp Z2 H2 Z6 H'' ∧ Same Z5 Z6 ∧ Z6 D = none ∧ H'' D = some (.lst w6) ∧ All (υ.r Z6) w6 (((xs.take i).flatMap fun x => (h x).map (f x)) ++ ((h x).take (j + 1)).map (f x)) ∧ M.m s1 Z6 H'', fun H'' p => ⟨(h x).length - (j + 1), by omega, rfl, hlt1, p⟩, fun w H7 y1 => ?_⟩
      obtain ⟨Z7, yv, ey, st7, ry⟩ := hY1 j Z6 H6 w H7 hlt1 z56 st6.s g1' (wk1.yields j H6 w H7 hlt1 g1' y1)
      have e7 := st6.trans st7.pure
      obtain ⟨σ3, tg1, wp1, ev⟩ := hb1 yv w Z7 H7 ((e5.z.trans z56).trans st7.z) ((a.trans e.z).trans e7.z) ((b.trans e.h).trans e7.h) ry
      refine tg1 H7 e7.s _ ⟨wp1, ?_⟩
      refine ev Z7 H7 (Same.refl _) SameX.refl e7.s (M.pure st7 m6) _ fun u Z8 H8 e8 m8 ru => ?_
      have hD7 : H7 D = some (.lst w6) := st7.h _ _ List.not_mem_nil hD6
      have hD8 : H8 D = some (.lst w6) := e8.h _ _ nD hD7
      have zD8 : Z8 D = none := e8.n D (some_ne hD7) (st7.n D (some_ne hD6) zD6)
      have s9 := Step.set (o := .lst (w6 ++ [u])) e8.s zD8
      have ll : w6.length < sizeLine := by
        rw [al6.len, List.length_append, List.length_map, List.length_take]
        omega
      refine ⟨w6, hD8, ll, Z8, w6 ++ [u], (e7.trans e8).mine s9 (fun x hx => by rw [List.mem_singleton] at hx; subst hx; exact .inr hD), (z56.trans st7.z).trans e8.z, zD8, upd_same, ?_, ?_⟩
      · have hyj : (h x)[j] = yv := by rw [List.getElem?_eq_getElem hlt1] at ey; exact Option.some.inj ey
        rw [List.take_succ_eq_append_getElem hlt1, List.map_append, hyj, ← List.append_assoc]
        exact (al6.imp fun _ _ => υ.mono (st7.z.trans e8.z)).snoc ru
      · refine M.loc (Same.refl _) (fun a' ha' o ho => ?_) (fun _ _ _ z => z) m8
        rw [upd_ne (fun q' => nD (by rw [← q']; exact ha'))]
        exact ho
    · have ej : j = (h x).length := by omega
      subst ej
      rw [List.take_length] at al6
      exact .inl ⟨wk1.stops H6 g1', Z6, w6, st6, zD6, hD6, by rw [tk]; exact al6, m6⟩
  · have ei : i = xs.length := by omega
    subst ei
    rw [List.take_length] at al
    exact .inl ⟨wk.stops H' gg, q D ws Z' H' (e.trans st) m' (same_x e hD) zD' hD' al hl⟩
end
end TP

namespace TP
open PySem PySem.Spec PyProof.Rows L2
section
variable {μ : Type} {M : Mu μ} {σ : L2.St} {Z H : Hp} {s s1 s2 : μ} {ta tb : TE} {K : PySem.W.Frag} {α : Type} {τ : Ty α}
theorem ev_countI {xs : List Int} {k : Int} (ha : Ev M ta σ Z H s (li yInt xs) s1) (hb : Ev M tb σ Z H s1 (ty yInt k) s2) : Ev M (tBM K "list" (rCntI K) ta (tCons tb tNil)) σ Z H s (ty yInt ((xs.count k : Nat) : Int)) s2 :=
  fun Z1 H1 a b c d Q q => ha Z1 H1 a b c d _ fun v Z2 H2 e m rv => by
    obtain ⟨p, vs, rfl, g, t, _⟩ := rdl e.s rv
    refine ⟨.inl ⟨rfl, _, SqL.of g⟩, eva_cons hb eva_nil Z2 H2 (a.trans e.z) (b.trans e.h) e.s m _ fun us Z3 H3 e2 m2 ⟨w, r, e3, rw', e4⟩ => ?_⟩
    cases e4; cases e3
    obtain ⟨p', vs', ev, g', t', _⟩ := rdl e2.s ((li yInt xs).st e2 rv)
    cases ev
    have hvs : vs' = xs.map V.int := All.ints t'
    subst hvs
    exact ⟨p, xs, k, rfl, by rw [show w = .int k from rw'], SqL.of g', q _ _ _ (e.trans e2) m2 rfl⟩
def idxO [DecidableEq α] (xs : List α) (x : α) : Option Nat := xs.findIdx? (fun y => decide (y = x))
/-- flat kinds, as list.index asks -/
structure FlatJ {α : Type} (τ : Ty α) (f : α → V) : Prop where
  eq : ∀ Z v x, τ.r Z v x → v = f x
  fl : ∀ x, flatV (f x) = true
  ev : ∀ x y, eqV (f x) (f y) = true ↔ x = y
theorem fj_int : FlatJ yInt V.int := ⟨fun _ _ _ h => h, fun _ => rfl, fun x y => by simp [eqV]⟩
theorem fj_str : FlatJ yStr V.str := ⟨fun _ _ _ h => h.1, fun _ => rfl, fun x y => by simp [eqV]⟩
theorem ev_indexL [DecidableEq α] {f : α → V} {xs : List α} {x : α} {j : Nat} (F : FlatJ τ f) (ha : Ev M ta σ Z H s (li τ xs) s1) (hb : Ev M tb σ Z H s1 (ty τ x) s2) (h : idxO xs x = some j) : Ev M (tBM K "list" (rIndex K) ta (tCons tb tNil)) σ Z H s (ty yInt ((j : Nat) : Int)) s2 :=
  fun Z1 H1 a b c d Q q => ha Z1 H1 a b c d _ fun v Z2 H2 e m rv => by
    obtain ⟨p, vs, rfl, g, t, _⟩ := rdl e.s rv
    refine ⟨.inl ⟨rfl, _, SqL.of g⟩, eva_cons hb eva_nil Z2 H2 (a.trans e.z) (b.trans e.h) e.s m _ fun us Z3 H3 e2 m2 ⟨w, r, e3, rw', e4⟩ => ?_⟩
    cases e4; cases e3
    obtain ⟨p', vs', ev, g', t', _⟩ := rdl e2.s ((li τ xs).st e2 rv)
    cases ev
    have hvs : vs' = xs.map f := All.map (fun v x => F.eq _ v x) t'
    subst hvs
    have hw : w = f x := F.eq _ _ _ rw'
    subst hw
    unfold idxO at h
    rw [List.findIdx?_eq_some_iff_getElem] at h
    obtain ⟨hj, h1, h2⟩ := h
    have e1 : xs[j] = x := of_decide_eq_true h1
    refine ⟨p, xs.map f, f x, j, f x, rfl, rfl, SqL.of g', F.fl x, ?_, by rw [List.getElem?_map, List.getElem?_eq_getElem hj, e1]; rfl, (F.ev x x).mpr rfl, fun m' z' hm hz => ?_, q _ _ _ (e.trans e2) m2 rfl⟩
    · rw [List.all_map]
      rw [List.all_eq_true]
      exact fun y _ => F.fl y
    · rw [List.getElem?_map] at hz
      have hm' : m' < xs.length := by omega
      rw [List.getElem?_eq_getElem hm'] at hz
      have hz' : f xs[m'] = z' := Option.some.inj hz
      subst hz'
      have := h2 m' hm
      cases q' : eqV (f xs[m']) (f x) with
      | false => rfl
      | true => exact absurd (decide_eq_true ((F.ev _ _).mp q')) (by simpa using this)
end
end TP

namespace TP
open PySem PySem.Spec PyProof.Rows L2
section
variable {μ : Type} {M : Mu μ} {σ : L2.St} {Z H : Hp} {s s1 : μ} {ta tb : TE} {K : PySem.W.Frag}
/-- the place of a text in a written tuple of texts -/
theorem ev_indexC {r : V → List V → Hp → VK → Prop} {a : Addr} {xs : List Str} {x : Str} {j : Nat} (hq : ∀ Z, SqT K Z a (xs.map V.str)) (hd : ∃ o, K.lookup a = some o ∧ o.cls = .type "tuple" ∧ o.dict = none) (hb : Ev M tb σ Z H s (ty yStr x) s1) (h : idxO xs x = some j)
    (hr : ∀ p H' Q, SqT K H' p (xs.map V.str) → xs[j]? = some x → (∀ i, i < j → xs[i]? ≠ some x) → Q (.int (j : Nat)) H' → r (.ref p) [.str x] H' Q := by exact fun p _ _ h1 h2 h3 h4 => ⟨p, _, _, _, rfl, rfl, h1, h2, h3, h4⟩) :
    Ev M (tBM K "tuple" r (tC (.ref a)) (tCons tb tNil)) σ Z H s (ty yInt ((j : Nat) : Int)) s1 :=
  fun Z1 H1 a1 b1 c1 d1 Q q => by
    obtain ⟨o, h1, h2, h3⟩ := hd
    refine ⟨.inr (.inl ⟨rfl, o, h1, h2, h3⟩), eva_cons hb eva_nil Z1 H1 a1 b1 c1 d1 _ fun us Z3 H3 e2 m2 ⟨w, r', e3, rw', e4⟩ => ?_⟩
    cases e4; cases e3
    have hw : w = .str x := rw'.1
    subst hw
    unfold idxO at h
    rw [List.findIdx?_eq_some_iff_getElem] at h
    obtain ⟨hj, g1, g2⟩ := h
    have e1 : xs[j] = x := of_decide_eq_true g1
    refine hr _ _ _ (hq _) (by rw [List.getElem?_eq_getElem hj, e1]) (fun i hi hz => ?_) (q _ _ _ e2 m2 rfl)
    have hi' : i < xs.length := by omega
    rw [List.getElem?_eq_getElem hi'] at hz
    have := g2 i hi
    exact absurd (decide_eq_true (Option.some.inj hz)) (by simpa using this)
end
end TP

namespace ZN
open PySem PySem.Spec PyProof.Rows L2
open PySem.Sem (wp)
/-- what is walked: an address, and whether a tuple stands there -/
structure Src where
  a : Addr
  t : Bool
def SIt (h : Heap) (it : Addr) (x : Src) (k : Nat) : Prop := match x.t with
  | true => h.IsTupleIter it x.a k
  | false => h.IsListIter it x.a k
def SSq (h : Heap) (x : Src) (r : Array Value) : Prop := match x.t with
  | true => h.IsTuple x.a r
  | false => h.IsList x.a r
theorem SIt.at {h h' : Heap} {it : Addr} {x : Src} {k : Nat} (g : SIt h it x k) (e : ∀ o, h.get? it = some o → h'.get? it = some o) : SIt h' it x k := by
  obtain ⟨a, t⟩ := x
  cases t
  · exact Heap.IsListIter.at g e
  · exact Heap.IsTupleIter.at g e
theorem SSq.at {h h' : Heap} {x : Src} {r : Array Value} (g : SSq h x r) (e : ∀ o, h.get? x.a = some o → h'.get? x.a = some o) : SSq h' x r := by
  obtain ⟨a, t⟩ := x
  cases t
  · exact Heap.IsList.at g e
  · exact Heap.IsTuple.at g e
theorem SIt.obj {h : Heap} {it : Addr} {x : Src} {k : Nat} (g : SIt h it x k) : ∃ o, h.get? it = some o ∧ ∀ v, o.data ≠ .cell v := by
  obtain ⟨a, t⟩ := x
  cases t
  · obtain ⟨o, e, _, d⟩ := g
    exact ⟨o, e, fun v q => by rw [d] at q; cases q⟩
  · obtain ⟨o, e, _, d⟩ := g
    exact ⟨o, e, fun v q => by rw [d] at q; cases q⟩
section
variable {prog : Program} {w : World} {A : Around} {E : Value → Shared → Prop} {s : Shared}
theorem nextOf_item {it : Addr} {x : Src} {k : Nat} {r : Array Value} {v : Value} {Q : Value → Shared → Prop} (hit : SIt s.heap it x k) (hl : SSq s.heap x r) (hx : r[k]? = some v)
    (hQ : ∀ h', SIt h' it x (k + 1) → Heap.SameBut it s.heap h' → Q v { s with heap := h' }) : wpAny (model prog w) A (Builtin.SmallTypes.nextOf (.ref it)) Q E s := by
  obtain ⟨a, t⟩ := x
  cases t
  · exact wpAny_nextOf_list_item hit hl hx hQ
  · exact RZ.nextOf_tuple_item hit hl hx hQ
theorem nextOf_end {it : Addr} {x : Src} {k : Nat} {r : Array Value} {Q : Value → Shared → Prop} (hh : A.handled = none) (hit : SIt s.heap it x k) (hl : SSq s.heap x r) (hx : r[k]? = none)
    (hE : ∀ h' e, Heap.ExtBut it s.heap h' → (∃ o, h'.get? e = some o ∧ o.cls = .type "StopIteration") → E (.ref e) { s with heap := h' }) : wpAny (model prog w) A (Builtin.SmallTypes.nextOf (.ref it)) Q E s := by
  obtain ⟨a, t⟩ := x
  cases t
  · exact wpAny_nextOf_list_end hh hit hl hx hE
  · exact RZ.nextOf_tuple_end hh hit hl hx hE
theorem pyIter_src {x : Src} {r : Array Value} {Q : Value → Shared → Prop} (hl : SSq s.heap x r)
    (hQ : Q (.ref s.heap.objs.size) { s with heap := s.heap.push { cls := .type (if x.t then "tuple_iterator" else "list_iterator"), data := .fields #[.ref x.a, .int 0 0] } }) :
    wpAny (model prog w) A (pyIter (.ref x.a)) Q E s := by
  obtain ⟨a, t⟩ := x
  cases t
  · exact wpAny_pyIter_list hl hQ
  · exact wpAny_pyIter_tuple hl hQ
theorem forIn_by {α β : Type} {r0 : β} {Q : β → Shared → Prop} : ∀ {l : List α} {f : α → β → Sem (ForInStep β)} (I : Nat → Shared → Prop) {s : Shared}, I 0 s →
    (∀ j x s, l[j]? = some x → I j s → wpAny (model prog w) A (f x r0) (fun r s' => r = .yield r0 ∧ I (j + 1) s') E s) → (∀ s, I l.length s → Q r0 s) → wpAny (model prog w) A (forIn l r0 f) Q E s
  | [], f, I, s, h0, _, hd => by
    rw [List.forIn_nil]
    exact wpAny_pure (hd s h0)
  | y :: r, f, I, s, h0, hs, hd => by
    rw [List.forIn_cons]
    refine wpAny_bind (wpAny_mono (hs 0 y s rfl h0) (fun z s' q => ?_) fun _ _ e => e)
    obtain ⟨rfl, q⟩ := q
    exact forIn_by (l := r) (fun j => I (j + 1)) q (fun j x s hx => hs (j + 1) x s hx) hd
theorem updateSeq_at {T : Addr} {ys : Array Value} {x : Value} {k : Nat} {Q : Unit → Shared → Prop} (hT : s.heap.get? T = some { cls := .type "tuple", data := .seq ys }) (hz : ys.size ≤ sizeLine)
    (h : ∀ h', h'.get? T = some { cls := .type "tuple", data := .seq (ys.setIfInBounds k x) } → Heap.SameBut T s.heap h' → Q () { s with heap := h' }) :
    wpAny (model prog w) A (updateSeq T (·.setIfInBounds k x)) Q E s := by
  refine wpAny_updateSeq hT rfl (h _ ?_ (Heap.SameBut.update ..)) hz (by simp; omega)
  rw [Heap.get?_update_self _ hT rfl]
  simp [Obj.mapSeq]
structure Apart (z TI TO : Addr) (is : List Addr) (srcs : List Src) : Prop where
  TIz : TI ≠ z
  TOz : TO ≠ z
  TITO : TI ≠ TO
  zi : z ∉ is
  TIi : TI ∉ is
  TOi : TO ∉ is
  nd : is.Nodup
  sz : ∀ x ∈ srcs, x.a ≠ z
  sTO : ∀ x ∈ srcs, x.a ≠ TO
  si : ∀ x ∈ srcs, x.a ∉ is
theorem nd_inj {α : Type} {is : List α} {i j : Nat} {a : α} (h : is.Nodup) (e1 : is[i]? = some a) (e2 : is[j]? = some a) : i = j := by
  obtain ⟨l1, g1⟩ := List.getElem?_eq_some_iff.mp e1
  obtain ⟨l2, g2⟩ := List.getElem?_eq_some_iff.mp e2
  rcases Nat.lt_trichotomy i j with g | g | g
  · exact absurd (g1.trans g2.symm) (List.pairwise_iff_getElem.mp h i j l1 l2 g)
  · exact g
  · exact absurd (g2.trans g1.symm) (List.pairwise_iff_getElem.mp h j i l2 l1 g)
def refs (is : List Addr) : Array Value := (is.map Value.ref).toArray
theorem next {z TI TO : Addr} {is : List Addr} {srcs : List Src} {k : Nat} {row : Nat → Array Value} {Q : Fin → Shared → Prop} (hh : A.handled = none) (D : Apart z TI TO is srcs) (hlen : is.length = srcs.length) (hne : is ≠ []) (hsm : is.length ≤ 1000)
    (hz : IsZip s.heap z TI TO .none) (hTI : s.heap.get? TI = some { cls := .type "tuple", data := .seq (refs is) }) (hTO : ∃ ys : Array Value, ys.size = is.length ∧ s.heap.get? TO = some { cls := .type "tuple", data := .seq ys })
    (hit : ∀ (j : Nat) (i : Addr) (x : Src), is[j]? = some i → srcs[j]? = some x → SIt s.heap i x k) (hsq : ∀ (j : Nat) (x : Src), srcs[j]? = some x → SSq s.heap x (row j))
    (hQ : (∀ j, j < is.length → (row j)[k]? ≠ none) → ∀ h' (ys : Array Value), IsZip h' z TI TO (rawInt s.heap.objs.size) → ys.size = is.length → (∀ j, j < is.length → ys[j]? = (row j)[k]?) → h'.get? TO = some { cls := .type "tuple", data := .seq ys } →
      (∀ (j : Nat) (i : Addr) (x : Src), is[j]? = some i → srcs[j]? = some x → SIt h' i x (k + 1)) → h'.get? s.heap.objs.size = some { cls := .type "tuple", data := .seq ys } → h'.objs.size = s.heap.objs.size + 1 →
      (∀ c o, c ≠ z → c ≠ TO → c ∉ is → s.heap.get? c = some o → h'.get? c = some o) → Q (.done (.ret (.ref s.heap.objs.size))) { s with heap := h' })
    (hE : (∃ j, j < is.length ∧ (row j)[k]? = none) → ∀ h' e, (∀ c o, c ≠ z → c ≠ TO → c ∉ is → s.heap.get? c = some o → h'.get? c = some o) → (∃ o, h'.get? e = some o ∧ o.cls = .type "StopIteration") → E (.ref e) { s with heap := h' }) :
    wpAny (model prog w) A (Builtin.«zip.__next__» ⟨[.ref z], []⟩) Q E s := by
  show wpAny _ _ (field (.ref z) 2 >>= _) _ _ _
  refine wpAny_bind (wpAny_field hz rfl (x := .bool false) rfl ?_)
  show wpAny _ _ (field (.ref z) 3 >>= _) _ _ _
  refine wpAny_bind (wpAny_field hz rfl (x := .ref TI) rfl ?_)
  refine wpAny_bind (wpAny_seqItems hTI rfl ?_)
  have hem : (refs is).isEmpty = false := by
    cases is with
    | nil => exact absurd rfl hne
    | cons i r => rfl
  simp only [hem, Bool.false_eq_true, if_false]
  show wpAny _ _ (Builtin.SmallTypes.ownedTupleIsFree (.ref z) >>= _) _ _ _
  refine wpAny_bind ?_
  unfold Builtin.SmallTypes.ownedTupleIsFree
  refine wpAny_bind (wpAny_field hz rfl (x := .none) rfl (wpAny_pure ?_))
  simp only [if_true]
  refine wpAny_bind (wpAny_rule ?_)
  refine wpAny_bind (wpAny_field hz rfl (x := .ref TO) rfl ?_)
  refine wpAny_bind (wpAny_setField_rec hz (by simp) fun h₁ hz₁ hs₁ => ?_)
  replace hz₁ : IsZip h₁ z TI TO .ellipsis := hz₁
  refine wpAny_bind ?_
  refine forIn_by (fun j s' => ∃ h', s' = { s with heap := h' } ∧ IsZip h' z TI TO .ellipsis ∧ (∃ ys : Array Value, ys.size = is.length ∧ h'.get? TO = some { cls := .type "tuple", data := .seq ys } ∧ ∀ i, i < j → i < is.length → ys[i]? = (row i)[k]?) ∧
    (∀ (i : Nat) (a : Addr) (x : Src), is[i]? = some a → srcs[i]? = some x → SIt h' a x (if i < j then k + 1 else k)) ∧ h'.objs.size = s.heap.objs.size ∧ (∀ i, i < j → i < is.length → (row i)[k]? ≠ none) ∧
    ∀ c o, c ≠ z → c ≠ TO → c ∉ is → s.heap.get? c = some o → h'.get? c = some o) ?_ ?_ ?_
  · obtain ⟨ys, y1, y2⟩ := hTO
    refine ⟨h₁, rfl, hz₁, ⟨ys, y1, hs₁.extBut _ _ D.TOz y2, fun i hi => absurd hi (Nat.not_lt_zero i)⟩, fun i a x e1 e2 => ?_, hs₁.1, fun i hi => absurd hi (Nat.not_lt_zero i), fun c o c1 _ _ e => hs₁.extBut _ _ c1 e⟩
    rw [if_neg (Nat.not_lt_zero i)]
    have ne : a ≠ z := fun q => D.zi (q ▸ List.mem_of_getElem? e1)
    exact (hit i a x e1 e2).at fun o q => hs₁.extBut _ _ ne q
  · rintro j ⟨v, n⟩ s' hj ⟨h', rfl, hz', ⟨ys, y1, y2, y3⟩, it', hsz, had, hk⟩
    rw [List.getElem?_zipIdx] at hj
    have hj' : ∃ a, is[j]? = some a ∧ v = .ref a ∧ n = j := by
      unfold refs at hj
      rw [List.toList_toArray, List.getElem?_map] at hj
      cases ea : is[j]? with
      | none => rw [ea] at hj; cases hj
      | some a =>
        rw [ea] at hj
        have := Option.some.inj hj
        have e1 := (Prod.mk.inj this).1
        have e2 := (Prod.mk.inj this).2
        exact ⟨a, rfl, e1.symm, by omega⟩
    obtain ⟨a, ea, rfl, rfl⟩ := hj'
    have jl : n < is.length := (List.getElem?_eq_some_iff.mp ea).1
    obtain ⟨x, ex⟩ : ∃ x, srcs[n]? = some x := ⟨srcs[n]'(by omega), List.getElem?_eq_getElem _⟩
    have ma := List.mem_of_getElem? ea
    have mx := List.mem_of_getElem? ex
    have az : a ≠ z := fun q => D.zi (q ▸ ma)
    have aTO : a ≠ TO := fun q => D.TOi (q ▸ ma)
    have hI := it' n a x ea ex
    rw [if_neg (Nat.lt_irrefl n)] at hI
    have hS : SSq h' x (row n) := (hsq n x ex).at fun o q => hk _ o (D.sz x mx) (D.sTO x mx) (D.si x mx) q
    refine wpAny_bind (wpAny_onRaise ?_)
    show wpAny _ _ (Builtin.SmallTypes.nextOf (.ref a) >>= _) _ _ _
    cases hx : (row n)[k]? with
    | none =>
      refine wpAny_bind (nextOf_end hh hI hS hx fun h₂ e hs₂ he => ?_)
      obtain ⟨oe, hoe, hce⟩ := he
      have hz₂ : IsZip h₂ z TI TO .ellipsis := hs₂ _ _ az.symm hz'
      have hez : e ≠ z := fun x => by subst x; rw [hz₂] at hoe; cases hoe; simp at hce
      refine wpAny_setField_rec hz₂ (by simp) fun h₃ _ hs₃ => hE ⟨n, jl, hx⟩ h₃ e (fun c o c1 c2 c3 q => hs₃.extBut _ _ c1 (hs₂ _ _ (fun q' => c3 (q' ▸ ma)) (hk c o c1 c2 c3 q))) ⟨oe, hs₃.extBut _ _ hez hoe, hce⟩
    | some u =>
      refine wpAny_bind (nextOf_item hI hS hx fun h₂ h1₂ hs₂ => wpAny_pure ?_)
      have hTO₂ : h₂.get? TO = some { cls := .type "tuple", data := .seq ys } := hs₂.extBut _ _ aTO.symm y2
      refine wpAny_bind (wpAny_seqItems hTO₂ rfl ?_)
      refine wpAny_bind (updateSeq_at hTO₂ (by rw [y1]; exact Nat.le_trans hsm (by decide)) fun h₃ hTO₃ hs₃ => ?_)
      refine wpAny_bind (wpAny_letGo (wpAny_pure ⟨rfl, h₃, rfl, hs₃.extBut _ _ D.TOz.symm (hs₂.extBut _ _ az.symm hz'), ⟨_, by simp [y1], hTO₃, fun i hi il => ?_⟩, fun i b x' e1 e2 => ?_, by rw [hs₃.1, hs₂.1, hsz], fun i hi il => ?_, fun c o c1 c2 c3 q => ?_⟩))
      · rcases Nat.lt_or_ge i n with g | g
        · rw [Array.getElem?_setIfInBounds_ne (by omega)]
          exact y3 i g il
        · have e : i = n := by omega
          subst e
          rw [Array.getElem?_setIfInBounds_self_of_lt (by omega), hx]
      · rcases Nat.lt_trichotomy i n with g | g | g
        · rw [if_pos (by omega)]
          have hb := it' i b x' e1 e2
          rw [if_pos g] at hb
          have ne : b ≠ a := fun q => by
            have := nd_inj D.nd e1 (q ▸ ea)
            omega
          have nT : b ≠ TO := fun q => D.TOi (q ▸ List.mem_of_getElem? e1)
          exact (hb.at fun o q => hs₂.extBut _ _ ne q).at fun o q => hs₃.extBut _ _ nT q
        · subst g
          rw [ea] at e1
          rw [ex] at e2
          cases e1
          cases e2
          rw [if_pos (by omega)]
          exact h1₂.at fun o q => hs₃.extBut _ _ aTO q
        · rw [if_neg (by omega)]
          have hb := it' i b x' e1 e2
          rw [if_neg (by omega)] at hb
          have ne : b ≠ a := fun q => by
            have := nd_inj D.nd e1 (q ▸ ea)
            omega
          have nT : b ≠ TO := fun q => D.TOi (q ▸ List.mem_of_getElem? e1)
          exact (hb.at fun o q => hs₂.extBut _ _ ne q).at fun o q => hs₃.extBut _ _ nT q
      · rcases Nat.lt_or_ge i n with g | g
        · exact had i g il
        · have e : i = n := by omega
          subst e
          rw [hx]
          exact fun q => nomatch q
      · exact hs₃.extBut _ _ c2 (hs₂.extBut _ _ (fun q' => c3 (q' ▸ ma)) (hk c o c1 c2 c3 q))
  · rintro s' ⟨h', rfl, hz', ⟨ys, y1, y2, y3⟩, it', hsz, had, hk⟩
    have ll : (refs is).toList.zipIdx.length = is.length := by simp [refs]
    rw [ll] at y3 it' had
    refine wpAny_bind (wpAny_seqItems y2 rfl ?_)
    refine wpAny_bind (wpAny_newTuple ?_ (by simp [y1]; exact Nat.le_trans hsm (by decide)))
    show wpAny _ _ (Builtin.SmallTypes.ownedTupleHandOut (.ref z) (.ref h'.objs.size) >>= _) _ _ _
    refine wpAny_bind ?_
    unfold Builtin.SmallTypes.ownedTupleHandOut
    have hzlt : z < h'.objs.size := Heap.lt_size hz'
    have hz₆ : IsZip (h'.push { cls := .type "tuple", data := .seq ys }) z TI TO .ellipsis := Heap.get?_push_of_some _ hz'
    refine wpAny_bind (wpAny_setField_rec hz₆ (by simp) fun h₇ hz₇ hs₇ => ?_)
    replace hz₇ : IsZip h₇ z TI TO (rawInt h'.objs.size) := hz₇
    refine wpAny_setField_rec hz₇ (by simp) fun h₈ hz₈ hs₈ => ?_
    replace hz₈ : IsZip h₈ z TI TO (rawInt h'.objs.size) := hz₈
    have up : ∀ c o, c ≠ z → h'.get? c = some o → h₈.get? c = some o := fun c o c1 e => hs₈.extBut _ _ c1 (hs₇.extBut _ _ c1 (Heap.get?_push_of_some _ e))
    have hT₈ : h₈.get? h'.objs.size = some { cls := .type "tuple", data := .seq ys } := hs₈.extBut _ _ (Nat.ne_of_gt hzlt) (hs₇.extBut _ _ (Nat.ne_of_gt hzlt) (Heap.get?_push_size _ rfl))
    have hz8 : h₈.objs.size = h'.objs.size + 1 := by rw [hs₈.1, hs₇.1, Heap.size_push]
    rw [hsz] at hz₈ hT₈ hz8
    refine wpAny_pure ?_
    show Q (.done (.ret (.ref h'.objs.size))) _
    rw [hsz]
    refine hQ (fun j hj => had j hj hj) h₈ ys hz₈ y1 (fun j hj => y3 j hj hj) (up _ _ D.TOz y2) (fun i a x e1 e2 => ?_) hT₈ hz8 fun c o c1 c2 c3 e => up c o c1 (hk c o c1 c2 c3 e)
    have hb := it' i a x e1 e2
    rw [if_pos (List.getElem?_eq_some_iff.mp e1).1] at hb
    exact hb.at fun o e => up _ o (fun q => D.zi (q ▸ List.mem_of_getElem? e1)) e
theorem pyNext_item {z TI TO : Addr} {is : List Addr} {srcs : List Src} {k : Nat} {row : Nat → Array Value} {Q : Option Value → Shared → Prop} (hh : A.handled = none) (D : Apart z TI TO is srcs) (hlen : is.length = srcs.length) (hne : is ≠ []) (hsm : is.length ≤ 1000)
    (hz : IsZip s.heap z TI TO .none) (hTI : s.heap.get? TI = some { cls := .type "tuple", data := .seq (refs is) }) (hTO : ∃ ys : Array Value, ys.size = is.length ∧ s.heap.get? TO = some { cls := .type "tuple", data := .seq ys })
    (hit : ∀ (j : Nat) (i : Addr) (x : Src), is[j]? = some i → srcs[j]? = some x → SIt s.heap i x k) (hsq : ∀ (j : Nat) (x : Src), srcs[j]? = some x → SSq s.heap x (row j)) (hall : ∀ j, j < is.length → (row j)[k]? ≠ none)
    (hQ : ∀ h' (ys : Array Value), IsZip h' z TI TO (rawInt s.heap.objs.size) → ys.size = is.length → (∀ j, j < is.length → ys[j]? = (row j)[k]?) → h'.get? TO = some { cls := .type "tuple", data := .seq ys } →
      (∀ (j : Nat) (i : Addr) (x : Src), is[j]? = some i → srcs[j]? = some x → SIt h' i x (k + 1)) → h'.get? s.heap.objs.size = some { cls := .type "tuple", data := .seq ys } → h'.objs.size = s.heap.objs.size + 1 →
      (∀ c o, c ≠ z → c ≠ TO → c ∉ is → s.heap.get? c = some o → h'.get? c = some o) → Q (some (.ref s.heap.objs.size)) { s with heap := h' }) :
    wpAny (model prog w) A (pyNext (.ref z)) Q E s := by
  have hT : s.TypeIs (.ref z) "zip" := ⟨_, hz, rfl⟩
  unfold pyNext
  refine wpAny_bind (wpAny_attempt (wpAny_callSpecial?_slot (name := Str.ofString "__next__") hT F.slot_zip_next
    (wpAny_call_entry F.slot_zip_next hT F.entry_zip_next
      (next (A := A.in1) hh D hlen hne hsm hz hTI hTO hit hsq (fun _ h' ys a1 a2 a3 a4 a5 a6 a7 a8 => ⟨_, rfl, wpAny_pure (hQ h' ys a1 a2 a3 a4 a5 a6 a7 a8)⟩) (fun g => ?_)) (F.args_zip_next_1 _))))
  obtain ⟨j, jl, e⟩ := g
  exact absurd e (hall j jl)
theorem pyNext_end {z TI TO : Addr} {is : List Addr} {srcs : List Src} {k : Nat} {row : Nat → Array Value} {Q : Option Value → Shared → Prop} (hh : A.handled = none) (D : Apart z TI TO is srcs) (hlen : is.length = srcs.length) (hne : is ≠ []) (hsm : is.length ≤ 1000)
    (hz : IsZip s.heap z TI TO .none) (hTI : s.heap.get? TI = some { cls := .type "tuple", data := .seq (refs is) }) (hTO : ∃ ys : Array Value, ys.size = is.length ∧ s.heap.get? TO = some { cls := .type "tuple", data := .seq ys })
    (hit : ∀ (j : Nat) (i : Addr) (x : Src), is[j]? = some i → srcs[j]? = some x → SIt s.heap i x k) (hsq : ∀ (j : Nat) (x : Src), srcs[j]? = some x → SSq s.heap x (row j)) (hend : ∃ j, j < is.length ∧ (row j)[k]? = none)
    (hQ : ∀ h', (∀ c o, c ≠ z → c ≠ TO → c ∉ is → s.heap.get? c = some o → h'.get? c = some o) → Q none { s with heap := h' }) : wpAny (model prog w) A (pyNext (.ref z)) Q E s := by
  have hT : s.TypeIs (.ref z) "zip" := ⟨_, hz, rfl⟩
  unfold pyNext
  refine wpAny_bind (wpAny_attempt (wpAny_callSpecial?_slot (name := Str.ofString "__next__") hT F.slot_zip_next
    (wpAny_call_entry F.slot_zip_next hT F.entry_zip_next (next (A := A.in1) hh D hlen hne hsm hz hTI hTO hit hsq (fun g => ?_) (fun _ h' e hk he => ?_)) (F.args_zip_next_1 _))))
  · obtain ⟨j, jl, e⟩ := hend
    exact absurd e (g j jl)
  · obtain ⟨o, ho, hc⟩ := he
    refine wpAny_bind (wpAny_isInstance (T := "StopIteration") (b := true) ⟨o, ho, hc⟩ isSubtype_stop ?_)
    exact wpAny_pure (hQ _ hk)
end
def SqX (K : PySem.W.Frag) (H : Hp) (x : Src) (xs : List V) : Prop := match x.t with
  | true => SqT K H x.a xs
  | false => SqL K H x.a xs
theorem sq_get {X : Cx} {pins : List (Addr × Obj)} {σ : L2.St} {H : Hp} {s : Shared} (I : Inv X pins σ H s) {x : Src} {xs : List V} (q : SqX X.K H x xs) : ∃ its : List Value, Vals xs its ∧ SSq s.heap x its.toArray := by
  obtain ⟨a, t⟩ := x
  cases t
  · obtain ⟨its, rv, p, _⟩ := I.list q
    exact ⟨its, rv, p.isList⟩
  · obtain ⟨its, rv, p, _⟩ := I.tuple q
    exact ⟨its, rv, p⟩
theorem sq_inj {X : Cx} {pins : List (Addr × Obj)} {σ : L2.St} {H : Hp} {s : Shared} (I : Inv X pins σ H s) {x : Src} {xs ys : List V} (q : SqX X.K H x xs) (r : SqX X.K H x ys) : xs = ys := by
  obtain ⟨a, t⟩ := x
  cases t
  · exact I.list_inj q r
  · exact I.tuple_inj q r
/-- things as they stand at each turn, the items in a new tuple -/
def ItN (K : PySem.W.Frag) (srcs : List Src) : It :=
  ⟨fun i H => ∀ (j : Nat) (x : Src), srcs[j]? = some x → ∃ xs v, SqX K H x xs ∧ xs[i]? = some v,
    fun i H v H' => ∃ T vs, v = .ref T ∧ H T = none ∧ H' = upd H T (.tup vs) ∧ vs.length = srcs.length ∧ ∀ (j : Nat) (x : Src) (xs : List V), srcs[j]? = some x → SqX K H x xs → ∃ y, xs[i]? = some y ∧ vs[j]? = some y,
    fun i H => (∀ (j : Nat) (x : Src), srcs[j]? = some x → ∃ xs, SqX K H x xs) ∧ ∃ (j : Nat) (x : Src) (xs : List V), srcs[j]? = some x ∧ SqX K H x xs ∧ xs.length ≤ i⟩
theorem vals_of : ∀ {us : List Value} {P : Nat → V → Prop}, (∀ j u, us[j]? = some u → ∃ v, RelV v u ∧ P j v) → ∃ vs, Vals vs us ∧ ∀ j v, vs[j]? = some v → P j v
  | [], _, _ => ⟨[], .nil, fun j v h => by simp at h⟩
  | u :: r, P, h => by
    obtain ⟨v, r1, p1⟩ := h 0 u rfl
    obtain ⟨vs, r2, p2⟩ := vals_of (us := r) (P := fun j => P (j + 1)) fun j u e => h (j + 1) u e
    refine ⟨v :: vs, .cons r1 r2, fun j w e => ?_⟩
    cases j with
    | zero =>
      have := Option.some.inj e
      subst this
      exact p1
    | succ j => exact p2 j w e
theorem rows {X : Cx} {pins : List (Addr × Obj)} {σ : L2.St} {H : Hp} {s : Shared} (I : Inv X pins σ H s) {srcs : List Src} (h : ∀ (j : Nat) (x : Src), srcs[j]? = some x → ∃ xs, SqX X.K H x xs) :
    ∃ row : Nat → List Value, ∀ (j : Nat) (x : Src), srcs[j]? = some x → ∃ xs, SqX X.K H x xs ∧ Vals xs (row j) ∧ SSq s.heap x (row j).toArray := by
  refine Classical.axiomOfChoice (r := fun (j : Nat) (r : List Value) => ∀ x : Src, srcs[j]? = some x → ∃ xs, SqX X.K H x xs ∧ Vals xs r ∧ SSq s.heap x r.toArray) fun j => ?_
  cases e : srcs[j]? with
  | none => exact ⟨[], fun x h => nomatch h⟩
  | some x =>
    obtain ⟨xs, q⟩ := h j x e
    obtain ⟨its, rv, p⟩ := sq_get I q
    exact ⟨its, fun y hy => by cases hy; exact ⟨xs, q, rv, p⟩⟩
theorem turnN {P : Program} {w : World} {K : PySem.W.Frag} {elts : List Expr} {kk : Nat} {tpos : Pos} {z TI TO : Addr} {is : List Addr} {srcs : List Src} (D : Apart z TI TO is srcs) (hlen : is.length = srcs.length) (hne : is ≠ []) (hsm : is.length ≤ 1000) :
    Turn P w K (.Tuple elts kk tpos) (ItN K srcs) (z :: TI :: TO :: is) z (fun i h => IsZip h z TI TO .none ∧ h.get? TI = some { cls := .type "tuple", data := .seq (refs is) } ∧ (∃ ys : Array Value, ys.size = is.length ∧ h.get? TO = some { cls := .type "tuple", data := .seq ys }) ∧
      ∀ (j : Nat) (b : Addr) (x : Src), is[j]? = some b → srcs[j]? = some x → SIt h b x i) where
  mem := List.mem_cons_self ..
  obj := fun i h st c hc => by
    obtain ⟨hz, hTI, ⟨ys, _, hTO⟩, hi⟩ := st
    rcases List.mem_cons.mp hc with q | hc
    · rw [q]; exact ⟨_, hz, fun v q => nomatch q⟩
    rcases List.mem_cons.mp hc with q | hc
    · rw [q]; exact ⟨_, hTI, fun v q => nomatch q⟩
    rcases List.mem_cons.mp hc with q | hc
    · rw [q]; exact ⟨_, hTO, fun v q => nomatch q⟩
    obtain ⟨j, ej⟩ := List.mem_iff_getElem?.mp hc
    have jl := (List.getElem?_eq_some_iff.mp ej).1
    exact (hi j c _ ej (List.getElem?_eq_getElem (by omega))).obj
  keep := fun i h h' st k => by
    obtain ⟨hz, hTI, ⟨ys, y1, hTO⟩, hi⟩ := st
    exact ⟨k z (by simp) _ hz, k TI (by simp) _ hTI, ⟨ys, y1, k TO (by simp) _ hTO⟩, fun j b x e1 e2 => (hi j b x e1 e2).at fun o q => k b (by simp [List.mem_of_getElem? e1]) o q⟩
  item := by
    intro X hP hw hK hc i pins s σ H E I hf st hg
    subst hP hw hK
    obtain ⟨hz, hTI, hTO, hi⟩ := st
    obtain ⟨row, hrow⟩ := rows I (srcs := srcs) fun j x e => by obtain ⟨xs, v, q, _⟩ := hg j x e; exact ⟨xs, q⟩
    have hzl : z < s.heap.objs.size := Heap.lt_size hz
    have src : ∀ j, j < is.length → ∃ x, srcs[j]? = some x := fun j hj => ⟨srcs[j]'(by omega), List.getElem?_eq_getElem _⟩
    refine pyNext_item (row := fun j => (row j).toArray) (I.ok.hd hc) D hlen hne hsm hz hTI hTO hi (fun j x e => by obtain ⟨xs, _, _, p⟩ := hrow j x e; exact p) (fun j hj => ?_) fun h' ys z' y1 y2 TO' hi' hT hsz hk => ?_
    · obtain ⟨x, ex⟩ := src j hj
      obtain ⟨xs, q, rv, _⟩ := hrow j x ex
      obtain ⟨xs', v, q', hv⟩ := hg j x ex
      rw [sq_inj I q' q] at hv
      obtain ⟨u, hu, _⟩ := rv.get hv
      rw [List.getElem?_toArray, hu]
      exact fun q => nomatch q
    refine ⟨_, rfl, wpAny_letOwnedTupleGo_zip (s := { s with heap := h' }) z' fun h'' z'' sb => ?_⟩
    have hT2 : h''.get? s.heap.objs.size = some { cls := .type "tuple", data := .seq ys } := (sb.2 _ (Nat.ne_of_gt hzl)).trans hT
    obtain ⟨vs, rvs, pvs⟩ := vals_of (us := ys.toList) (P := fun j v => ∀ (x : Src) (xs : List V), srcs[j]? = some x → SqX X.K H x xs → xs[i]? = some v) fun j u e => by
      have jl : j < is.length := by
        have := (List.getElem?_eq_some_iff.mp e).1
        simp at this
        omega
      obtain ⟨x, ex⟩ := src j jl
      obtain ⟨xs, q, rv, _⟩ := hrow j x ex
      obtain ⟨xs', v, q', hv⟩ := hg j x ex
      rw [sq_inj I q' q] at hv
      obtain ⟨u', hu, ru⟩ := rv.get hv
      have e2 := y2 j jl
      rw [← Array.getElem?_toList, e] at e2
      have e3 : u = u' := by
        have : (row j).toArray[i]? = some u' := by rw [List.getElem?_toArray]; exact hu
        rw [this] at e2
        exact Option.some.inj e2
      subst e3
      refine ⟨v, ru, fun x' ys' ex' q'' => ?_⟩
      rw [ex] at ex'
      cases ex'
      rw [sq_inj I q'' q]
      exact hv
    have lvs : vs.length = srcs.length := by
      have := rvs.length
      simp at this
      omega
    have new : ObjOk X.prog X.w (upd H s.heap.objs.size (.tup vs)) h'' s.heap.objs.size (.tup vs) :=
      ⟨by rw [lvs, ← hlen]; exact Nat.le_trans hsm (by decide), ys.toList, rvs, ⟨_, hT2, rfl, 0, by simp⟩⟩
    have I1 : Inv X pins σ (upd H s.heap.objs.size (.tup vs)) { s with heap := h'' } :=
      I.turnedNew (t' := s.toks) (ch := z :: TI :: TO :: is) (fun c o hb q => (sb.2 c (fun q' => hb (by simp [q']))).trans (hk c o (fun q' => hb (by simp [q'])) (fun q' => hb (by simp [q'])) (fun q' => hb (by simp [q'])) q)) hf (Nat.le_refl _) new
    refine ⟨.ref s.heap.objs.size, _, I1, rfl, ⟨_, vs, rfl, I.hok.fresh (Nat.le_refl _), rfl, lvs, fun j x xs ex q => ?_⟩, ⟨z'', ?_, ⟨ys, y1, ?_⟩, fun j b x e1 e2 => ?_⟩, fun c hcm => ?_⟩
    · have jl : j < vs.length := by rw [lvs]; exact (List.getElem?_eq_some_iff.mp ex).1
      exact ⟨vs[j], pvs j _ (List.getElem?_eq_getElem jl) x xs ex q, List.getElem?_eq_getElem jl⟩
    · exact (sb.2 _ D.TIz).trans (hk _ _ D.TIz D.TITO D.TIi hTI)
    · exact (sb.2 _ D.TOz).trans TO'
    · exact (hi' j b x e1 e2).at fun o q => (sb.2 _ (fun q' => D.zi (q' ▸ List.mem_of_getElem? e1))).trans q
    · have hlt : c < s.heap.objs.size := by
        rcases List.mem_cons.mp hcm with q | hcm
        · rw [q]; exact hzl
        rcases List.mem_cons.mp hcm with q | hcm
        · rw [q]; exact Heap.lt_size hTI
        rcases List.mem_cons.mp hcm with q | hcm
        · obtain ⟨_, _, e⟩ := hTO; rw [q]; exact Heap.lt_size e
        obtain ⟨j, ej⟩ := List.mem_iff_getElem?.mp hcm
        have jl := (List.getElem?_eq_some_iff.mp ej).1
        obtain ⟨o, e, _⟩ := (hi j c _ ej (List.getElem?_eq_getElem (by omega))).obj
        exact Heap.lt_size e
      rw [upd_ne (Nat.ne_of_lt hlt)]
      exact (hf c hcm).1
  done := by
    intro X hP hw hK hc i pins s σ H E I hf st hg
    subst hP hw hK
    obtain ⟨hz, hTI, hTO, hi⟩ := st
    obtain ⟨hall, j, x, xs, ex, q, hl⟩ := hg
    obtain ⟨row, hrow⟩ := rows I (srcs := srcs) hall
    refine pyNext_end (row := fun j => (row j).toArray) (I.ok.hd hc) D hlen hne hsm hz hTI hTO hi (fun j x e => by obtain ⟨xs, _, _, p⟩ := hrow j x e; exact p) ⟨j, by rw [hlen]; exact (List.getElem?_eq_some_iff.mp ex).1, ?_⟩ fun h' hk => ⟨rfl, I.turnedL (t' := s.toks) (ch := z :: TI :: TO :: is) (fun c o hb q =>
      hk c o (fun q' => hb (by simp [q'])) (fun q' => hb (by simp [q'])) (fun q' => hb (by simp [q'])) q) hf⟩
    obtain ⟨xs', q', rv, _⟩ := hrow j x ex
    rw [sq_inj I q q'] at hl
    have := rv.length
    rw [List.getElem?_toArray]
    exact List.getElem?_eq_none (by omega)
  self := fun A i s Q E st h => wpAny_pyIter_zip st.1 h
abbrev itObj (x : Src) : Obj := { cls := .type (if x.t then "tuple_iterator" else "list_iterator"), data := .fields #[.ref x.a, .int 0 0] }
theorem itObj_at {h : Heap} {i : Addr} {x : Src} (e : h.get? i = some (itObj x)) : SIt h i x 0 := by
  obtain ⟨a, t⟩ := x
  cases t
  · exact ⟨_, e, rfl, rfl⟩
  · exact ⟨_, e, rfl, rfl⟩
theorem SSq.push {h : Heap} {x : Src} {r : Array Value} (g : SSq h x r) (o : Obj) : SSq (h.push o) x r := g.at fun _ e => Heap.get?_push_of_some _ e
theorem SSq.lt {h : Heap} {x : Src} {r : Array Value} (g : SSq h x r) : x.a < h.objs.size := by
  obtain ⟨a, t⟩ := x
  cases t
  · obtain ⟨_, e, _⟩ := g
    exact Heap.lt_size e
  · obtain ⟨_, e, _⟩ := g
    exact Heap.lt_size e
abbrev tupO (vs : Array Value) : Obj := { cls := .type "tuple", data := .seq vs }
abbrev zipO (TI TO : Addr) : Obj := { cls := .type "zip", data := .fields #[.none, .bool false, .bool false, .ref TI, .ref TO] }
abbrev h3a (h : Heap) (x y z : Src) : Heap := ((h.push (itObj x)).push (itObj y)).push (itObj z)
abbrev h3b (h : Heap) (x y z : Src) : Heap := (h3a h x y z).push (tupO #[.ref h.objs.size, .ref (h.push (itObj x)).objs.size, .ref ((h.push (itObj x)).push (itObj y)).objs.size])
abbrev h3c (h : Heap) (x y z : Src) : Heap := (h3b h x y z).push (tupO #[.none, .none, .none])
abbrev h3d (h : Heap) (x y z : Src) : Heap := (h3c h x y z).push (zipO (h3a h x y z).objs.size (h3b h x y z).objs.size)
set_option maxHeartbeats 4000000 in
theorem meets_new3 (x y z : Src) (r1 r2 r3 : Array Value) :
    Meets (Builtin.«zip.__new__» ⟨[.type "zip", .ref x.a, .ref y.a, .ref z.a], []⟩) (fun _ R s => SSq s.heap x r1 ∧ SSq s.heap y r2 ∧ SSq s.heap z r3 ∧
      R (.ok (.ret (.ref (h3c s.heap x y z).objs.size))) { s with heap := h3d s.heap x y z }) :=
  .of_wp fun prog w A R s h => by
    obtain ⟨hp, g, d, tk, os⟩ := s; obtain ⟨hl1, hl2, hl3, h⟩ := h
    have hsub := sub_zip
    have hL1 : SSq (Shared.heap ⟨hp, g, d, tk, os⟩) x r1 := hl1
    have hL2 : SSq (Shared.heap ⟨hp.push (itObj x), g, d, tk, os⟩) y r2 := hl2.push _
    have hL3 : SSq (Shared.heap ⟨(hp.push (itObj x)).push (itObj y), g, d, tk, os⟩) z r3 := (hl3.push _).push _
    wp_walk using pyIter_src hL1, pyIter_src hL2, pyIter_src hL3
    exact ⟨_, rfl, h⟩
theorem typeCall_zip_3 (a b c : Value) : checkTypeCall "zip" ⟨[a, b, c], []⟩ = pure () := by kernel_rfl
theorem newCall_zip_3 (a b c : Value) : checkBuiltinCall "zip.__new__" ⟨[.type "zip", a, b, c], []⟩ = pure () := by kernel_rfl
theorem args_object_init_4 (a b c d : Value) : argsOk "object.__init__" ⟨[a, b, c, d], []⟩ := by
  unfold argsOk; rw [signature?_of (id := "object.__init__") (n := ['_', '_', 't', 'i', 'n', 'i', '_', '_']) (o := ['t', 'c', 'e', 'j', 'b', 'o']) (by kernel_rfl) F.owner_object]; kernel_rfl
theorem apart3 (n : Nat) {x y z : Src} (h1 : x.a < n) (h2 : y.a < n) (h3 : z.a < n) : Apart (n + 5) (n + 3) (n + 4) [n, n + 1, n + 2] [x, y, z] where
  TIz := by show (n + 3 : Nat) ≠ n + 5; omega
  TOz := by show (n + 4 : Nat) ≠ n + 5; omega
  TITO := by show (n + 3 : Nat) ≠ n + 4; omega
  zi := by simp
  TIi := by simp
  TOi := by simp
  nd := by simp
  sz := by
    intro s hs
    simp at hs
    rcases hs with rfl | rfl | rfl
    · exact Nat.ne_of_lt (Nat.lt_of_lt_of_le h1 (Nat.le_add_right _ _))
    · exact Nat.ne_of_lt (Nat.lt_of_lt_of_le h2 (Nat.le_add_right _ _))
    · exact Nat.ne_of_lt (Nat.lt_of_lt_of_le h3 (Nat.le_add_right _ _))
  sTO := by
    intro s hs
    simp at hs
    rcases hs with rfl | rfl | rfl
    · exact Nat.ne_of_lt (Nat.lt_of_lt_of_le h1 (Nat.le_add_right _ _))
    · exact Nat.ne_of_lt (Nat.lt_of_lt_of_le h2 (Nat.le_add_right _ _))
    · exact Nat.ne_of_lt (Nat.lt_of_lt_of_le h3 (Nat.le_add_right _ _))
  si := by
    have no : ∀ {a : Addr}, a < n → a ∉ ([n, n + 1, n + 2] : List Addr) := fun {a} h q => by
      rcases List.mem_cons.mp q with q | q
      · exact Nat.ne_of_lt h q
      rcases List.mem_cons.mp q with q | q
      · exact Nat.ne_of_lt (Nat.lt_of_lt_of_le h (Nat.le_add_right _ _)) q
      · exact Nat.ne_of_lt (Nat.lt_of_lt_of_le h (Nat.le_add_right _ _)) (List.mem_singleton.mp q)
    intro s hs
    simp at hs
    rcases hs with rfl | rfl | rfl
    · exact no h1
    · exact no h2
    · exact no h3
theorem call3 {prog : Program} {w : World} {A : Around} {E : Value → Shared → Prop} {s : Shared} {x y z : Src} {r1 r2 r3 : Array Value} {Q : Value → Shared → Prop} (hl1 : SSq s.heap x r1) (hl2 : SSq s.heap y r2) (hl3 : SSq s.heap z r3)
    (h : ∀ h', IsZip h' (s.heap.objs.size + 5) (s.heap.objs.size + 3) (s.heap.objs.size + 4) .none → h'.get? (s.heap.objs.size + 3) = some (tupO (refs [s.heap.objs.size, s.heap.objs.size + 1, s.heap.objs.size + 2])) → h'.get? (s.heap.objs.size + 4) = some (tupO #[.none, .none, .none]) →
      SIt h' s.heap.objs.size x 0 → SIt h' (s.heap.objs.size + 1) y 0 → SIt h' (s.heap.objs.size + 2) z 0 → (∀ c o, s.heap.get? c = some o → h'.get? c = some o) → Q (.ref (s.heap.objs.size + 5)) { s with heap := h' }) :
    wpAny (model prog w) A (call (.type "zip") [.ref x.a, .ref y.a, .ref z.a]) Q E s := by
  refine callType_new F.called_zip (by decide) (typeCall_zip_3 _ _ _) (newCall_zip_3 _ _ _) (fun obj => args_object_init_4 obj _ _ _) F.entry_zip_new (meets_new3 x y z r1 r2 r3) ⟨hl1, hl2, hl3, ?_⟩
  have z1 : (s.heap.push (itObj x)).objs.size = s.heap.objs.size + 1 := Heap.size_push ..
  have z2 : ((s.heap.push (itObj x)).push (itObj y)).objs.size = s.heap.objs.size + 2 := by rw [Heap.size_push, z1]
  have z3 : (h3a s.heap x y z).objs.size = s.heap.objs.size + 3 := by rw [Heap.size_push, z2]
  have z4 : (h3b s.heap x y z).objs.size = s.heap.objs.size + 4 := by rw [Heap.size_push, z3]
  have z5 : (h3c s.heap x y z).objs.size = s.heap.objs.size + 5 := by rw [Heap.size_push, z4]
  have g6 : (h3d s.heap x y z).get? (h3c s.heap x y z).objs.size = some _ := Heap.get?_push_size _ rfl
  have g5 : (h3d s.heap x y z).get? (h3b s.heap x y z).objs.size = some _ := Heap.get?_push_of_some _ (Heap.get?_push_size _ rfl)
  have g4 : (h3d s.heap x y z).get? (h3a s.heap x y z).objs.size = some _ := Heap.get?_push_of_some _ (Heap.get?_push_of_some _ (Heap.get?_push_size _ rfl))
  have g3 : (h3d s.heap x y z).get? ((s.heap.push (itObj x)).push (itObj y)).objs.size = some (itObj z) := Heap.get?_push_of_some _ (Heap.get?_push_of_some _ (Heap.get?_push_of_some _ (Heap.get?_push_size _ rfl)))
  have g2 : (h3d s.heap x y z).get? (s.heap.push (itObj x)).objs.size = some (itObj y) := Heap.get?_push_of_some _ (Heap.get?_push_of_some _ (Heap.get?_push_of_some _ (Heap.get?_push_of_some _ (Heap.get?_push_size _ rfl))))
  have g1 : (h3d s.heap x y z).get? s.heap.objs.size = some (itObj x) := Heap.get?_push_of_some _ (Heap.get?_push_of_some _ (Heap.get?_push_of_some _ (Heap.get?_push_of_some _ (Heap.get?_push_of_some _ (Heap.get?_push_size _ rfl)))))
  show _ ∧ _
  rw [z3, z4, z5] at g6
  rw [z1, z2, z3] at g4
  rw [z4] at g5
  rw [z2] at g3
  rw [z1] at g2
  rw [z5]
  exact ⟨⟨_, g6, rfl⟩, h _ g6 g4 g5 (itObj_at g1) (itObj_at g2) (itObj_at g3) fun c o x =>
    Heap.get?_push_of_some _ (Heap.get?_push_of_some _ (Heap.get?_push_of_some _ (Heap.get?_push_of_some _ (Heap.get?_push_of_some _ (Heap.get?_push_of_some _ x)))))⟩
def iZip3 (K : PySem.W.Frag) (ta : TA) : TI := fun σ H R => ta σ H fun vs H1 => ∃ (x y z : Src) (xs ys zs : List V), vs = [.ref x.a, .ref y.a, .ref z.a] ∧ SqX K H1 x xs ∧ SqX K H1 y ys ∧ SqX K H1 z zs ∧ R (ItN K [x, y, z]) H1
theorem pi_zip3 {X : Cx} {e e2 e3 : Expr} {ta : TA} {p pos tpos : Pos} {elts : List Expr} {kk : Nat} (hg : Gl X "zip") (hm : X.mg "zip" = none) (ha : PA X [e, e2, e3] ta)
    (hs : starEach [e, e2, e3] X.env = (false, eval e X.env) :: starEach [e2, e3] X.env := by rfl) (hpl : (backTo pos (starEach [e2, e3] X.env)).any (·.1) = false := by rfl) :
    PI X (.Tuple elts kk tpos) (.Call (.Name "zip" p) [e, e2, e3] [] pos) (iZip3 X.K ta) := by
  refine ⟨fun pins s σ H R I h => ?_⟩
  refine Call_ (ld_blt I hg hm PyProof.Rows.boot_zip (PyProof.Rows.callWith_type1 (thn (ha.run pos pins s σ H _ I h) fun us s1 ⟨vs, H1, I1, r1, q1⟩ => ?_) hs hpl))
  obtain ⟨x, y, z, xs, ys, zs, ex, qx, qy, qz, q⟩ := q1
  subst ex
  cases r1 with
  | cons r rr =>
    cases rr with
    | cons r' rr =>
      cases rr with
      | cons r'' rr =>
        cases rr
        cases r
        cases r'
        cases r''
        obtain ⟨its, _, p1⟩ := sq_get I1 qx
        obtain ⟨its2, _, p2⟩ := sq_get I1 qy
        obtain ⟨its3, _, p3⟩ := sq_get I1 qz
        refine call3 p1 p2 p3 fun h' hz hTI hTO i1 i2 i3 hk => wpAny_pyIter_zip hz ?_
        have I2 : Inv X pins σ H1 { s1 with heap := h' } := I1.kept (t' := s1.toks) hk
        refine ⟨s1.heap.objs.size + 5, [s1.heap.objs.size + 5, s1.heap.objs.size + 3, s1.heap.objs.size + 4, s1.heap.objs.size, s1.heap.objs.size + 1, s1.heap.objs.size + 2], _, _, H1, rfl, I2,
          turnN (apart3 s1.heap.objs.size p1.lt p2.lt p3.lt) rfl (fun q => nomatch q) (by show 3 ≤ 1000; decide), ⟨hz, hTI, ⟨_, rfl, hTO⟩, fun j b u e1 e2 => ?_⟩, fun c hcm => ?_, q⟩
        · match j, e1, e2 with
          | 0, e1, e2 => cases e1; cases e2; exact i1
          | 1, e1, e2 => cases e1; cases e2; exact i2
          | 2, e1, e2 => cases e1; cases e2; exact i3
          | n + 3, e1, _ => cases e1
        · have hle : s1.heap.objs.size ≤ c := by
            simp only [List.mem_cons, List.not_mem_nil, or_false] at hcm
            rcases hcm with z | z | z | z | z | z <;> rw [z] <;> first | exact Nat.le_refl _ | exact Nat.le_add_right _ _
          exact I1.fpOk hle (I1.hok.fresh hle)
def Y3 (xs ys zs : List V) : Nat → Hp → V → Hp → Prop := fun i H v H' => ∃ T x y z, v = .ref T ∧ H T = none ∧ H' = upd H T (.tup [x, y, z]) ∧ xs[i]? = some x ∧ ys[i]? = some y ∧ zs[i]? = some z
theorem walk3 {K : PySem.W.Frag} {x y z : Src} {xs ys zs : List V} (h1 : ys.length = xs.length) (h2 : zs.length = xs.length) : Walk (ItN K [x, y, z]) xs.length (fun H => SqX K H x xs ∧ SqX K H y ys ∧ SqX K H z zs) (Y3 xs ys zs) where
  goes := fun i H hi g j u e => by
    match j, e with
    | 0, e => cases e; exact ⟨xs, _, g.1, List.getElem?_eq_getElem hi⟩
    | 1, e => cases e; exact ⟨ys, _, g.2.1, List.getElem?_eq_getElem (by omega)⟩
    | 2, e => cases e; exact ⟨zs, _, g.2.2, List.getElem?_eq_getElem (by omega)⟩
    | n + 3, e => cases e
  stops := fun H g => by
    refine ⟨fun j u e => ?_, 0, x, xs, rfl, g.1, Nat.le_refl _⟩
    match j, e with
    | 0, e => cases e; exact ⟨xs, g.1⟩
    | 1, e => cases e; exact ⟨ys, g.2.1⟩
    | 2, e => cases e; exact ⟨zs, g.2.2⟩
    | n + 3, e => cases e
  yields := fun i H v H' hi g q => by
    obtain ⟨T, vs, rfl, nT, rfl, lv, hv⟩ := q
    obtain ⟨a, a1, a2⟩ := hv 0 x xs rfl g.1
    obtain ⟨b, b1, b2⟩ := hv 1 y ys rfl g.2.1
    obtain ⟨c, c1, c2⟩ := hv 2 z zs rfl g.2.2
    refine ⟨T, a, b, c, rfl, nT, ?_, a1, b1, c1⟩
    match vs, lv with
    | [u, v, w], _ =>
      cases a2
      cases b2
      cases c2
      rfl
abbrev h2a (h : Heap) (x y : Src) : Heap := (h.push (itObj x)).push (itObj y)
abbrev h2b (h : Heap) (x y : Src) : Heap := (h2a h x y).push (tupO #[.ref h.objs.size, .ref (h.push (itObj x)).objs.size])
abbrev h2c (h : Heap) (x y : Src) : Heap := (h2b h x y).push (tupO #[.none, .none])
abbrev h2d (h : Heap) (x y : Src) : Heap := (h2c h x y).push (zipO (h2a h x y).objs.size (h2b h x y).objs.size)
set_option maxHeartbeats 4000000 in
theorem meets_new2 (x y : Src) (r1 r2 : Array Value) :
    Meets (Builtin.«zip.__new__» ⟨[.type "zip", .ref x.a, .ref y.a], []⟩) (fun _ R s => SSq s.heap x r1 ∧ SSq s.heap y r2 ∧
      R (.ok (.ret (.ref (h2c s.heap x y).objs.size))) { s with heap := h2d s.heap x y }) :=
  .of_wp fun prog w A R s h => by
    obtain ⟨hp, g, d, tk, os⟩ := s; obtain ⟨hl1, hl2, h⟩ := h
    have hsub := sub_zip
    have hL1 : SSq (Shared.heap ⟨hp, g, d, tk, os⟩) x r1 := hl1
    have hL2 : SSq (Shared.heap ⟨hp.push (itObj x), g, d, tk, os⟩) y r2 := hl2.push _
    wp_walk using pyIter_src hL1, pyIter_src hL2
    exact ⟨_, rfl, h⟩
theorem apart2 (n : Nat) {x y : Src} (h1 : x.a < n) (h2 : y.a < n) : Apart (n + 4) (n + 2) (n + 3) [n, n + 1] [x, y] where
  TIz := by show (n + 2 : Nat) ≠ n + 4; omega
  TOz := by show (n + 3 : Nat) ≠ n + 4; omega
  TITO := by show (n + 2 : Nat) ≠ n + 3; omega
  zi := by simp
  TIi := by simp
  TOi := by simp
  nd := by simp
  sz := by
    intro s hs
    simp at hs
    rcases hs with rfl | rfl
    · exact Nat.ne_of_lt (Nat.lt_of_lt_of_le h1 (Nat.le_add_right _ _))
    · exact Nat.ne_of_lt (Nat.lt_of_lt_of_le h2 (Nat.le_add_right _ _))
  sTO := by
    intro s hs
    simp at hs
    rcases hs with rfl | rfl
    · exact Nat.ne_of_lt (Nat.lt_of_lt_of_le h1 (Nat.le_add_right _ _))
    · exact Nat.ne_of_lt (Nat.lt_of_lt_of_le h2 (Nat.le_add_right _ _))
  si := by
    have no : ∀ {a : Addr}, a < n → a ∉ ([n, n + 1] : List Addr) := fun {a} h q => by
      rcases List.mem_cons.mp q with q | q
      · exact Nat.ne_of_lt h q
      · exact Nat.ne_of_lt (Nat.lt_of_lt_of_le h (Nat.le_add_right _ _)) (List.mem_singleton.mp q)
    intro s hs
    simp at hs
    rcases hs with rfl | rfl
    · exact no h1
    · exact no h2
theorem call2 {prog : Program} {w : World} {A : Around} {E : Value → Shared → Prop} {s : Shared} {x y : Src} {r1 r2 : Array Value} {Q : Value → Shared → Prop} (hl1 : SSq s.heap x r1) (hl2 : SSq s.heap y r2)
    (h : ∀ h', IsZip h' (s.heap.objs.size + 4) (s.heap.objs.size + 2) (s.heap.objs.size + 3) .none → h'.get? (s.heap.objs.size + 2) = some (tupO (refs [s.heap.objs.size, s.heap.objs.size + 1])) → h'.get? (s.heap.objs.size + 3) = some (tupO #[.none, .none]) →
      SIt h' s.heap.objs.size x 0 → SIt h' (s.heap.objs.size + 1) y 0 → (∀ c o, s.heap.get? c = some o → h'.get? c = some o) → Q (.ref (s.heap.objs.size + 4)) { s with heap := h' }) :
    wpAny (model prog w) A (call (.type "zip") [.ref x.a, .ref y.a]) Q E s := by
  refine callType_new F.called_zip (by decide) (F.typeCall_zip_2 _ _) (F.newCall_zip_2 _ _) (fun obj => F.args_object_init_3 obj _ _) F.entry_zip_new (meets_new2 x y r1 r2) ⟨hl1, hl2, ?_⟩
  have z1 : (s.heap.push (itObj x)).objs.size = s.heap.objs.size + 1 := Heap.size_push ..
  have z3 : (h2a s.heap x y).objs.size = s.heap.objs.size + 2 := by rw [Heap.size_push, z1]
  have z4 : (h2b s.heap x y).objs.size = s.heap.objs.size + 3 := by rw [Heap.size_push, z3]
  have z5 : (h2c s.heap x y).objs.size = s.heap.objs.size + 4 := by rw [Heap.size_push, z4]
  have g6 : (h2d s.heap x y).get? (h2c s.heap x y).objs.size = some _ := Heap.get?_push_size _ rfl
  have g5 : (h2d s.heap x y).get? (h2b s.heap x y).objs.size = some _ := Heap.get?_push_of_some _ (Heap.get?_push_size _ rfl)
  have g4 : (h2d s.heap x y).get? (h2a s.heap x y).objs.size = some _ := Heap.get?_push_of_some _ (Heap.get?_push_of_some _ (Heap.get?_push_size _ rfl))
  have g2 : (h2d s.heap x y).get? (s.heap.push (itObj x)).objs.size = some (itObj y) := Heap.get?_push_of_some _ (Heap.get?_push_of_some _ (Heap.get?_push_of_some _ (Heap.get?_push_size _ rfl)))
  have g1 : (h2d s.heap x y).get? s.heap.objs.size = some (itObj x) := Heap.get?_push_of_some _ (Heap.get?_push_of_some _ (Heap.get?_push_of_some _ (Heap.get?_push_of_some _ (Heap.get?_push_size _ rfl))))
  show _ ∧ _
  rw [z3, z4, z5] at g6
  rw [z1, z3] at g4
  rw [z4] at g5
  rw [z1] at g2
  rw [z5]
  exact ⟨⟨_, g6, rfl⟩, h _ g6 g4 g5 (itObj_at g1) (itObj_at g2) fun c o x =>
    Heap.get?_push_of_some _ (Heap.get?_push_of_some _ (Heap.get?_push_of_some _ (Heap.get?_push_of_some _ (Heap.get?_push_of_some _ x))))⟩
def iZip2 (K : PySem.W.Frag) (ta : TA) : TI := fun σ H R => ta σ H fun vs H1 => ∃ (x y : Src) (xs ys : List V), vs = [.ref x.a, .ref y.a] ∧ SqX K H1 x xs ∧ SqX K H1 y ys ∧ R (ItN K [x, y]) H1
theorem pi_zip2 {X : Cx} {e e2 : Expr} {ta : TA} {p pos tpos : Pos} {elts : List Expr} {kk : Nat} (hg : Gl X "zip") (hm : X.mg "zip" = none) (ha : PA X [e, e2] ta)
    (hs : starEach [e, e2] X.env = (false, eval e X.env) :: starEach [e2] X.env := by rfl) (hpl : (backTo pos (starEach [e2] X.env)).any (·.1) = false := by rfl) :
    PI X (.Tuple elts kk tpos) (.Call (.Name "zip" p) [e, e2] [] pos) (iZip2 X.K ta) := by
  refine ⟨fun pins s σ H R I h => ?_⟩
  refine Call_ (ld_blt I hg hm PyProof.Rows.boot_zip (PyProof.Rows.callWith_type1 (thn (ha.run pos pins s σ H _ I h) fun us s1 ⟨vs, H1, I1, r1, q1⟩ => ?_) hs hpl))
  obtain ⟨x, y, xs, ys, ex, qx, qy, q⟩ := q1
  subst ex
  cases r1 with
  | cons r rr =>
    cases rr with
    | cons r' rr =>
      cases rr
      cases r
      cases r'
      obtain ⟨its, _, p1⟩ := sq_get I1 qx
      obtain ⟨its2, _, p2⟩ := sq_get I1 qy
      refine call2 p1 p2 fun h' hz hTI hTO i1 i2 hk => wpAny_pyIter_zip hz ?_
      have I2 : Inv X pins σ H1 { s1 with heap := h' } := I1.kept (t' := s1.toks) hk
      refine ⟨s1.heap.objs.size + 4, [s1.heap.objs.size + 4, s1.heap.objs.size + 2, s1.heap.objs.size + 3, s1.heap.objs.size, s1.heap.objs.size + 1], _, _, H1, rfl, I2,
        turnN (apart2 s1.heap.objs.size p1.lt p2.lt) rfl (fun q => nomatch q) (by show 2 ≤ 1000; decide), ⟨hz, hTI, ⟨_, rfl, hTO⟩, fun j b u e1 e2 => ?_⟩, fun c hcm => ?_, q⟩
      · match j, e1, e2 with
        | 0, e1, e2 => cases e1; cases e2; exact i1
        | 1, e1, e2 => cases e1; cases e2; exact i2
        | n + 2, e1, _ => cases e1
      · have hle : s1.heap.objs.size ≤ c := by
          simp only [List.mem_cons, List.not_mem_nil, or_false] at hcm
          rcases hcm with z | z | z | z | z <;> rw [z] <;> first | exact Nat.le_refl _ | exact Nat.le_add_right _ _
        exact I1.fpOk hle (I1.hok.fresh hle)
theorem walk2 {K : PySem.W.Frag} {x y : Src} {xs ys : List V} (h1 : ys.length = xs.length) : Walk (ItN K [x, y]) xs.length (fun H => SqX K H x xs ∧ SqX K H y ys) (YPair (fun i => xs[i]?) (fun i => ys[i]?)) where
  goes := fun i H hi g j u e => by
    match j, e with
    | 0, e => cases e; exact ⟨xs, _, g.1, List.getElem?_eq_getElem hi⟩
    | 1, e => cases e; exact ⟨ys, _, g.2, List.getElem?_eq_getElem (by omega)⟩
    | n + 2, e => cases e
  stops := fun H g => by
    refine ⟨fun j u e => ?_, 0, x, xs, rfl, g.1, Nat.le_refl _⟩
    match j, e with
    | 0, e => cases e; exact ⟨xs, g.1⟩
    | 1, e => cases e; exact ⟨ys, g.2⟩
    | n + 2, e => cases e
  yields := fun i H v H' hi g q => by
    obtain ⟨T, vs, rfl, nT, rfl, lv, hv⟩ := q
    obtain ⟨a, a1, a2⟩ := hv 0 x xs rfl g.1
    obtain ⟨b, b1, b2⟩ := hv 1 y ys rfl g.2
    refine ⟨T, a, b, rfl, nT, ?_, a1, b1⟩
    match vs, lv with
    | [u, v], _ =>
      cases a2
      cases b2
      rfl
end ZN

namespace TP
open PySem PySem.Spec PyProof.Rows L2 ZN
/-! ### zip of two or three, lists and tuples -/
theorem walk2m {K : PySem.W.Frag} {x y : Src} {xs ys : List V} : Walk (ItN K [x, y]) (min xs.length ys.length) (fun H => SqX K H x xs ∧ SqX K H y ys) (YPair (fun i => xs[i]?) (fun i => ys[i]?)) where
  goes := fun i H hi g j u e => by
    match j, e with
    | 0, e => cases e; exact ⟨xs, _, g.1, List.getElem?_eq_getElem (by omega)⟩
    | 1, e => cases e; exact ⟨ys, _, g.2, List.getElem?_eq_getElem (by omega)⟩
    | n + 2, e => cases e
  stops := fun H g => by
    refine ⟨fun j u e => ?_, ?_⟩
    · match j, e with
      | 0, e => cases e; exact ⟨xs, g.1⟩
      | 1, e => cases e; exact ⟨ys, g.2⟩
      | n + 2, e => cases e
    · by_cases q : xs.length ≤ ys.length
      · exact ⟨0, x, xs, rfl, g.1, by omega⟩
      · exact ⟨1, y, ys, rfl, g.2, by omega⟩
  yields := fun i H v H' hi g q => by
    obtain ⟨T, vs, rfl, nT, rfl, lv, hv⟩ := q
    obtain ⟨a, a1, a2⟩ := hv 0 x xs rfl g.1
    obtain ⟨b, b1, b2⟩ := hv 1 y ys rfl g.2
    refine ⟨T, a, b, rfl, nT, ?_, a1, b1⟩
    match vs, lv with
    | [u, v], _ =>
      cases a2
      cases b2
      rfl
theorem walk3m {K : PySem.W.Frag} {x y z : Src} {xs ys zs : List V} : Walk (ItN K [x, y, z]) (min xs.length (min ys.length zs.length)) (fun H => SqX K H x xs ∧ SqX K H y ys ∧ SqX K H z zs) (Y3 xs ys zs) where
  goes := fun i H hi g j u e => by
    match j, e with
    | 0, e => cases e; exact ⟨xs, _, g.1, List.getElem?_eq_getElem (by omega)⟩
    | 1, e => cases e; exact ⟨ys, _, g.2.1, List.getElem?_eq_getElem (by omega)⟩
    | 2, e => cases e; exact ⟨zs, _, g.2.2, List.getElem?_eq_getElem (by omega)⟩
    | n + 3, e => cases e
  stops := fun H g => by
    refine ⟨fun j u e => ?_, ?_⟩
    · match j, e with
      | 0, e => cases e; exact ⟨xs, g.1⟩
      | 1, e => cases e; exact ⟨ys, g.2.1⟩
      | 2, e => cases e; exact ⟨zs, g.2.2⟩
      | n + 3, e => cases e
    · by_cases q : xs.length ≤ min ys.length zs.length
      · exact ⟨0, x, xs, rfl, g.1, by omega⟩
      · by_cases q2 : ys.length ≤ zs.length
        · exact ⟨1, y, ys, rfl, g.2.1, by omega⟩
        · exact ⟨2, z, zs, rfl, g.2.2, by omega⟩
  yields := fun i H v H' hi g q => by
    obtain ⟨T, vs, rfl, nT, rfl, lv, hv⟩ := q
    obtain ⟨a, a1, a2⟩ := hv 0 x xs rfl g.1
    obtain ⟨b, b1, b2⟩ := hv 1 y ys rfl g.2.1
    obtain ⟨c, c1, c2⟩ := hv 2 z zs rfl g.2.2
    refine ⟨T, a, b, c, rfl, nT, ?_, a1, b1, c1⟩
    match vs, lv with
    | [u, v, w], _ =>
      cases a2
      cases b2
      cases c2
      rfl
/-- what is walked by zip -/
def SrcOf (K : PySem.W.Frag) {α : Type} (τs : Ty (List α)) (τ : Ty α) : Prop := ∀ Z v xs, τs.r Z v xs → ∃ (x : Src) (vs : List V), v = .ref x.a ∧ (∀ H, Same Z H → SqX K H x vs) ∧ All (τ.r Z) vs xs ∧ xs.length ≤ sizeLine
section
variable {K : PySem.W.Frag} {α β γ : Type} {τ : Ty α} {υ : Ty β} {φ : Ty γ}
theorem src_list : SrcOf K (yList τ) τ := fun Z v xs ⟨a, vs, e, h, t, l⟩ => ⟨⟨a, false⟩, vs, e, fun H s => SqL.of (s _ _ h), t, l⟩
theorem src_tup : SrcOf K (yTup K τ) τ := fun Z v xs ⟨a, vs, e, h, t, l⟩ => ⟨⟨a, true⟩, vs, e, fun H s => seqT_same s h, t, l⟩
theorem src_seq : SrcOf K (ySeq K τ) τ := fun Z v xs ⟨a, vs, e, h, t, l⟩ => by
  rcases h with h | h
  · exact ⟨⟨a, false⟩, vs, e, fun H s => SqL.of (s _ _ h), t, l⟩
  · exact ⟨⟨a, true⟩, vs, e, fun H s => seqT_same s h, t, l⟩
section
variable {μ : Type} {M : Mu μ} {σ : L2.St} {Z H : Hp} {s s1 s2 s3 : μ} {t : TA} {τs : Ty (List α)} {υs : Ty (List β)} {φs : Ty (List γ)} {xs : List α} {ys : List β} {zs : List γ} {X : Hp → Hp → Prop}
theorem ei_zip2 (f : SrcOf K τs τ) (g : SrcOf K υs υ) (ha : EvA M t σ Z H s (rac (ty τs xs) (rac (ty υs ys) ra0)) s1) : EvI M X (iZip2 K t) σ Z H s (yP2 K τ υ) (xs.zip ys) s1 :=
  fun Z1 H1 a b c d R q => ha Z1 H1 a b c d _ fun us Z2 H2 e m ⟨v, r, e1, h1, w, r2, e2, h2, e3⟩ => by
    cases e3; cases e2; cases e1
    obtain ⟨x, vs, rfl, hx, tx, lx⟩ := f _ _ _ h1
    obtain ⟨y, ws, rfl, hy, ty, ly⟩ := g _ _ _ h2
    exact ⟨x, y, vs, ws, rfl, hx _ e.s, hy _ e.s, q _ Z2 H2 e m (walk_pairs _ rfl walk2m (fun Z' H' z sz _ => ⟨hx _ (z.trans sz), hy _ (z.trans sz)⟩) tx ty (by rw [tx.len]; exact lx))⟩
theorem ei_zip3 (f : SrcOf K τs τ) (g : SrcOf K υs υ) (k : SrcOf K φs φ) (ha : EvA M t σ Z H s (rac (ty τs xs) (rac (ty υs ys) (rac (ty φs zs) ra0))) s1) : EvI M X (iZip3 K t) σ Z H s (yP3 K τ υ φ) (xs.zip (ys.zip zs)) s1 :=
  fun Z1 H1 a b c d R q => ha Z1 H1 a b c d _ fun us Z2 H2 e m ⟨v, r, e1, h1, w, r2, e2, h2, u, r3, e3, h3, e4⟩ => by
    cases e4; cases e3; cases e2; cases e1
    obtain ⟨x, vs, rfl, hx, tx, lx⟩ := f _ _ _ h1
    obtain ⟨y, ws, rfl, hy, ty, ly⟩ := g _ _ _ h2
    obtain ⟨z, us, rfl, hz, tz, lz⟩ := k _ _ _ h3
    refine ⟨x, y, z, vs, ws, us, rfl, hx _ e.s, hy _ e.s, hz _ e.s, q _ Z2 H2 e m ?_⟩
    have ln : (xs.zip (ys.zip zs)).length = min vs.length (min ws.length us.length) := by rw [List.length_zip, List.length_zip, tx.len, ty.len, tz.len]
    refine ⟨by rw [ln, tx.len]; omega, fun H => SqX K H x vs ∧ SqX K H y ws ∧ SqX K H z us, Y3 vs ws us, by rw [ln]; exact walk3m, fun Z' H' zz sz _ => ⟨hx _ (zz.trans sz), hy _ (zz.trans sz), hz _ (zz.trans sz)⟩, fun i Z' H' v H'' hi zz sz _ yy => ?_⟩
    obtain ⟨T, v1, v2, v3, rfl, nT, rfl, g1, g2, g3⟩ := yy
    obtain ⟨x1, ex1, rx1⟩ := tx.get g1
    obtain ⟨x2, ex2, rx2⟩ := ty.get g2
    obtain ⟨x3, ex3, rx3⟩ := tz.get g3
    have st : Step [] Z' H' (upd Z' T (.tup [v1, v2, v3])) (upd H' T (.tup [v1, v2, v3])) := Step.new sz nT
    refine ⟨upd Z' T (.tup [v1, v2, v3]), (x1, x2, x3), ?_, st, T, v1, v2, v3, rfl, sqT_new, τ.mono (zz.trans st.z) rx1, υ.mono (zz.trans st.z) rx2, φ.mono (zz.trans st.z) rx3⟩
    rw [List.getElem?_zip_eq_some]
    exact ⟨ex1, by rw [List.getElem?_zip_eq_some]; exact ⟨ex2, ex3⟩⟩
end
end
section
variable {μ : Type} {M : Mu μ} {σ : L2.St} {Z H : Hp} {s s1 s2 : μ} {ta tb : TE} {K : PySem.W.Frag}
/-- int of a flag -/
theorem ev_int_bl {b : Bool} (ha : Ev M ta σ Z H s (ty yBool b) s1) : Ev M (tCB (fun xs H Q => (∃ i, xs = [.int i] ∧ Q (.int i) H) ∨ ∃ k, xs = [.bl k] ∧ Q (.int (if k then 1 else 0)) H) (tCons ta tNil)) σ Z H s (ty yInt (if b = true then 1 else 0)) s1 :=
  ev_cb (eva_cons ha eva_nil) fun _ _ vs sz ⟨v, r, e, h, e2⟩ Q q => .inr ⟨b, by rw [e, show v = .bl b from h, show r = [] from e2], q _ _ _ (Step.refl sz) rfl⟩
/-- the text of a number -/
def strI (i : Int) : Str := Str.ofString (toString i)
theorem strOk_of (s : String) : PyData.strOk (Str.ofString s) = true := by
  rw [Str.ofString_eq_toList]
  unfold PyData.strOk
  rw [Array.all_eq_true_iff_forall_mem]
  intro x hx
  simp only [List.mem_toArray, List.mem_map] at hx
  obtain ⟨c, _, rfl⟩ := hx
  have := c.valid
  refine decide_eq_true ?_
  show c.val.toNat < 0x110000
  rcases this with h | ⟨_, h⟩
  · have : c.val.toNat < 0xd800 := h
    omega
  · exact h
def StrIOk (i : Int) : Prop := i.natAbs.log2 < 1920 ∧ (strI i).length ≤ 16777216
instance {i : Int} : Decidable (StrIOk i) := inferInstanceAs (Decidable (_ ∧ _))
theorem ev_str_int {i : Int} (ha : Ev M ta σ Z H s (ty yInt i) s1) (h : StrIOk i) : Ev M (tCB (fun xs H Q => ∃ i, xs = [.int i] ∧ i.natAbs.log2 < 1920 ∧ Q (.str (toString i)) H) (tCons ta tNil)) σ Z H s (ty yStr (strI i)) s1 :=
  ev_cb (eva_cons ha eva_nil) fun _ _ vs sz ⟨v, r, e, h1, e2⟩ Q q => ⟨i, by rw [e, show v = .int i from h1, show r = [] from e2], h.1, q _ _ _ (Step.refl sz) ⟨rfl, by
    unfold okS
    rw [Bool.and_eq_true]
    exact ⟨strOk_of _, decide_eq_true h.2⟩⟩⟩
theorem strIOk_of {i : Int} (h0 : 0 ≤ i) (h : i < 10 ^ 100) : StrIOk i := by
  refine ⟨?_, Nat.le_trans (toString_length_le (k := 100) h0 (by decide) h) (by decide)⟩
  by_cases q : i = 0
  · subst q; decide
  · have : i.natAbs < 2 ^ 1920 := by
      have h2 : i.natAbs < 10 ^ 100 := by
        have e : ((10 : Int) ^ 100) = ((10 ^ 100 : Nat) : Int) := by decide
        rw [e] at h
        omega
      exact Nat.lt_trans h2 (by decide)
    exact (Nat.log2_lt (by omega)).mpr this
end
end TP

namespace K36
open PySem PySem.Spec PyProof.Rows L2
open C8 (tCut pss_cut)
/-! the text by places -/
def topS (i : Nat) : Stmt := PySem.Challenge.pw_surenear_k36_codes_number_by_number.main.body.getD i (.Pass ⟨0, 0, 0, 0⟩)
abbrev s_law_row : Stmt := (topS 64)
abbrev s_law_next : Stmt := (topS 65)
abbrev s_law_string : Stmt := (topS 66)
abbrev s_law_numbers : Stmt := (topS 67)
abbrev s_law_worth : Stmt := (topS 68)
abbrev s_Record___init__ : Stmt := (inClass (topS 56) 0)
abbrev s_law_record : Stmt := (topS 70)
abbrev s_Part___init__ : Stmt := (inClass (topS 21) 0)
abbrev s_Parts___init__ : Stmt := (inClass (topS 22) 0)
abbrev s_Cell___init__ : Stmt := (inClass (topS 23) 0)
abbrev s_Box___init__ : Stmt := (inClass (topS 24) 0)
abbrev s_Norms___init__ : Stmt := (inClass (topS 25) 0)
abbrev s_Differ___init__ : Stmt := (inClass (topS 26) 0)
abbrev s_Range___init__ : Stmt := (inClass (topS 9) 0)
abbrev s_Values___init__ : Stmt := (inClass (topS 10) 0)
abbrev s_greatest_counts : Stmt := (topS 13)
abbrev s_Counts___init__ : Stmt := (inClass (topS 11) 0)
abbrev s_Names___init__ : Stmt := (inClass (topS 12) 0)
abbrev s_law_fact : Stmt := (topS 69)
abbrev s_Region___init__ : Stmt := (inClass (topS 59) 0)
abbrev s_Entry___init__ : Stmt := (inClass (topS 61) 0)
abbrev s_Offer___init__ : Stmt := (inClass (topS 62) 0)
abbrev s_law_offer : Stmt := (topS 71)
abbrev s_list_code : Stmt := (topS 42)
abbrev s_numbers_code : Stmt := (topS 43)
abbrev s_string_code : Stmt := (topS 44)
abbrev s_kind_of_value : Stmt := (topS 2)
abbrev s_value_code : Stmt := (topS 45)
abbrev s_maybe_code : Stmt := (topS 46)
abbrev s_words_code : Stmt := (topS 47)
abbrev s_part_code : Stmt := (topS 50)
abbrev s_fact_code : Stmt := (topS 49)
abbrev s_region_code : Stmt := (topS 51)
abbrev s_partition_code : Stmt := (topS 52)
abbrev s_record_code : Stmt := (topS 48)
abbrev s_entry_code : Stmt := (topS 53)
abbrev s_offer_code : Stmt := (topS 54)
abbrev s_law_text : Stmt := (topS 72)
abbrev s_law_value : Stmt := (topS 73)
abbrev s_law_list : Stmt := (topS 74)
abbrev s_law_counted : Stmt := (topS 75)
abbrev s_law_fact_due : Stmt := (topS 76)
abbrev s_law_record_due : Stmt := (topS 77)
abbrev s_law_region_due : Stmt := (topS 78)
abbrev s_law_parts_agree : Stmt := (topS 79)
abbrev s_law : Stmt := (topS 80)
theorem sc_law_row : FnScope ["script", "k", "cell", "a", "b", "c"] ["script", "k"] (defScope s_law_row) := ⟨rfl, rfl, rfl, by decide +kernel, rfl, by decide +kernel, by decide +kernel⟩
theorem sc_law_next : FnScope ["state", "many", "drawn"] ["state", "many"] (defScope s_law_next) := ⟨rfl, rfl, rfl, by decide +kernel, rfl, by decide +kernel, by decide +kernel⟩
theorem sc_law_string : FnScope ["state"] ["state"] (defScope s_law_string) := ⟨rfl, rfl, rfl, by decide +kernel, rfl, by decide +kernel, by decide +kernel⟩
theorem sc_law_numbers : FnScope ["state", "k"] ["state"] (defScope s_law_numbers) := ⟨rfl, rfl, rfl, by decide +kernel, rfl, by decide +kernel, by decide +kernel⟩
theorem sc_law_worth : FnScope ["state"] ["state"] (defScope s_law_worth) := ⟨rfl, rfl, rfl, by decide +kernel, rfl, by decide +kernel, by decide +kernel⟩
theorem sc_Record___init__ : FnScope ["self", "name", "vector", "fields", "words", "pair"] ["self", "name", "vector", "fields", "words"] (defScope s_Record___init__) := ⟨rfl, rfl, rfl, by decide +kernel, rfl, by decide +kernel, by decide +kernel⟩
theorem sc_law_record : FnScope ["state", "fields", "k", "words"] ["state"] (defScope s_law_record) := ⟨rfl, rfl, rfl, by decide +kernel, rfl, by decide +kernel, by decide +kernel⟩
theorem sc_Part___init__ : FnScope ["self", "start", "centre", "radius"] ["self", "start", "centre", "radius"] (defScope s_Part___init__) := ⟨rfl, rfl, rfl, by decide +kernel, rfl, by decide +kernel, by decide +kernel⟩
theorem sc_Parts___init__ : FnScope ["self", "parts"] ["self", "parts"] (defScope s_Parts___init__) := ⟨rfl, rfl, rfl, by decide +kernel, rfl, by decide +kernel, by decide +kernel⟩
theorem sc_Cell___init__ : FnScope ["self", "near", "rival"] ["self", "near", "rival"] (defScope s_Cell___init__) := ⟨rfl, rfl, rfl, by decide +kernel, rfl, by decide +kernel, by decide +kernel⟩
theorem sc_Box___init__ : FnScope ["self", "low", "high"] ["self", "low", "high"] (defScope s_Box___init__) := ⟨rfl, rfl, rfl, by decide +kernel, rfl, by decide +kernel, by decide +kernel⟩
theorem sc_Norms___init__ : FnScope ["self", "low", "high"] ["self", "low", "high"] (defScope s_Norms___init__) := ⟨rfl, rfl, rfl, by decide +kernel, rfl, by decide +kernel, by decide +kernel⟩
theorem sc_Differ___init__ : FnScope ["self", "centre", "most"] ["self", "centre", "most"] (defScope s_Differ___init__) := ⟨rfl, rfl, rfl, by decide +kernel, rfl, by decide +kernel, by decide +kernel⟩
theorem sc_Range___init__ : FnScope ["self", "field", "low", "high", "lack"] ["self", "field", "low", "high", "lack"] (defScope s_Range___init__) := ⟨rfl, rfl, rfl, by decide +kernel, rfl, by decide +kernel, by decide +kernel⟩
theorem sc_Values___init__ : FnScope ["self", "field", "choices", "lack"] ["self", "field", "choices", "lack"] (defScope s_Values___init__) := ⟨rfl, rfl, rfl, by decide +kernel, rfl, by decide +kernel, by decide +kernel⟩
theorem sc_greatest_counts : FnScope ["words", "bounds", "word", "count"] ["words"] (defScope s_greatest_counts) := ⟨rfl, rfl, rfl, by decide +kernel, rfl, by decide +kernel, by decide +kernel⟩
theorem sc_Counts___init__ : FnScope ["self", "words", "pair"] ["self", "words"] (defScope s_Counts___init__) := ⟨rfl, rfl, rfl, by decide +kernel, rfl, by decide +kernel, by decide +kernel⟩
theorem sc_Names___init__ : FnScope ["self", "low", "high"] ["self", "low", "high"] (defScope s_Names___init__) := ⟨rfl, rfl, rfl, by decide +kernel, rfl, by decide +kernel, by decide +kernel⟩
theorem sc_law_fact : FnScope ["state", "kind", "k", "lack"] ["state"] (defScope s_law_fact) := ⟨rfl, rfl, rfl, by decide +kernel, rfl, by decide +kernel, by decide +kernel⟩
theorem sc_Region___init__ : FnScope ["self", "parent", "facts"] ["self", "parent", "facts"] (defScope s_Region___init__) := ⟨rfl, rfl, rfl, by decide +kernel, rfl, by decide +kernel, by decide +kernel⟩
theorem sc_Entry___init__ : FnScope ["self", "number", "record", "leaves"] ["self", "number", "record", "leaves"] (defScope s_Entry___init__) := ⟨rfl, rfl, rfl, by decide +kernel, rfl, by decide +kernel, by decide +kernel⟩
theorem sc_Offer___init__ : FnScope ["self", "partitions", "entries", "regions"] ["self", "partitions", "entries"] (defScope s_Offer___init__) := ⟨rfl, rfl, rfl, by decide +kernel, rfl, by decide +kernel, by decide +kernel⟩
theorem sc_law_offer : FnScope ["state", "partitions", "k", "regions", "j", "parent", "i", "entries"] ["state"] (defScope s_law_offer) := ⟨rfl, rfl, rfl, by decide +kernel, rfl, by decide +kernel, by decide +kernel⟩
theorem sc_list_code : FnScope ["codes", "code", "number"] ["codes"] (defScope s_list_code) := ⟨rfl, rfl, rfl, by decide +kernel, rfl, by decide +kernel, by decide +kernel⟩
theorem sc_numbers_code : FnScope ["numbers"] ["numbers"] (defScope s_numbers_code) := ⟨rfl, rfl, rfl, by decide +kernel, rfl, by decide +kernel, by decide +kernel⟩
theorem sc_string_code : FnScope ["text", "char"] ["text"] (defScope s_string_code) := ⟨rfl, rfl, rfl, by decide +kernel, rfl, by decide +kernel, by decide +kernel⟩
theorem sc_kind_of_value : FnScope ["worth"] ["worth"] (defScope s_kind_of_value) := ⟨rfl, rfl, rfl, by decide +kernel, rfl, by decide +kernel, by decide +kernel⟩
theorem sc_value_code : FnScope ["worth", "kind"] ["worth"] (defScope s_value_code) := ⟨rfl, rfl, rfl, by decide +kernel, rfl, by decide +kernel, by decide +kernel⟩
theorem sc_maybe_code : FnScope ["code"] ["code"] (defScope s_maybe_code) := ⟨rfl, rfl, rfl, by decide +kernel, rfl, by decide +kernel, by decide +kernel⟩
theorem sc_words_code : FnScope ["words", "word", "count"] ["words"] (defScope s_words_code) := ⟨rfl, rfl, rfl, by decide +kernel, rfl, by decide +kernel, by decide +kernel⟩
theorem sc_part_code : FnScope ["part"] ["part"] (defScope s_part_code) := ⟨rfl, rfl, rfl, by decide +kernel, rfl, by decide +kernel, by decide +kernel⟩
theorem sc_fact_code : FnScope ["fact", "part", "choices", "worth"] ["fact"] (defScope s_fact_code) := ⟨rfl, rfl, rfl, by decide +kernel, rfl, by decide +kernel, by decide +kernel⟩
theorem sc_region_code : FnScope ["region", "parent", "fact"] ["region"] (defScope s_region_code) := ⟨rfl, rfl, rfl, by decide +kernel, rfl, by decide +kernel, by decide +kernel⟩
theorem sc_partition_code : FnScope ["regions", "region"] ["regions"] (defScope s_partition_code) := ⟨rfl, rfl, rfl, by decide +kernel, rfl, by decide +kernel, by decide +kernel⟩
theorem sc_record_code : FnScope ["record", "fields", "name", "worth"] ["record"] (defScope s_record_code) := ⟨rfl, rfl, rfl, by decide +kernel, rfl, by decide +kernel, by decide +kernel⟩
theorem sc_entry_code : FnScope ["entry"] ["entry"] (defScope s_entry_code) := ⟨rfl, rfl, rfl, by decide +kernel, rfl, by decide +kernel, by decide +kernel⟩
theorem sc_offer_code : FnScope ["offer", "partitions", "regions", "entry"] ["offer"] (defScope s_offer_code) := ⟨rfl, rfl, rfl, by decide +kernel, rfl, by decide +kernel, by decide +kernel⟩
theorem sc_law_text : FnScope ["text", "sign"] ["text"] (defScope s_law_text) := ⟨rfl, rfl, rfl, by decide +kernel, rfl, by decide +kernel, by decide +kernel⟩
theorem sc_law_value : FnScope ["worth"] ["worth"] (defScope s_law_value) := ⟨rfl, rfl, rfl, by decide +kernel, rfl, by decide +kernel, by decide +kernel⟩
theorem sc_law_list : FnScope ["codes", "code", "part"] ["codes"] (defScope s_law_list) := ⟨rfl, rfl, rfl, by decide +kernel, rfl, by decide +kernel, by decide +kernel⟩
theorem sc_law_counted : FnScope ["row"] ["row"] (defScope s_law_counted) := ⟨rfl, rfl, rfl, by decide +kernel, rfl, by decide +kernel, by decide +kernel⟩
theorem sc_law_fact_due : FnScope ["fact", "part", "choices", "choice", "word", "count"] ["fact"] (defScope s_law_fact_due) := ⟨rfl, rfl, rfl, by decide +kernel, rfl, by decide +kernel, by decide +kernel⟩
theorem sc_law_record_due : FnScope ["record", "code", "name", "worth", "word", "count"] ["record"] (defScope s_law_record_due) := ⟨rfl, rfl, rfl, by decide +kernel, rfl, by decide +kernel, by decide +kernel⟩
theorem sc_law_region_due : FnScope ["region", "parent", "fact"] ["region"] (defScope s_law_region_due) := ⟨rfl, rfl, rfl, by decide +kernel, rfl, by decide +kernel, by decide +kernel⟩
theorem sc_law_parts_agree : FnScope ["state", "text", "worth", "row"] ["state"] (defScope s_law_parts_agree) := ⟨rfl, rfl, rfl, by decide +kernel, rfl, by decide +kernel, by decide +kernel⟩
theorem sc_law : FnScope ["script", "state", "turn", "fact", "offer", "partitions", "regions", "region", "entries", "entry"] ["script"] (defScope s_law) := ⟨rfl, rfl, rfl, by decide +kernel, rfl, by decide +kernel, by decide +kernel⟩
/-! the mathematics -/
open TP

theorem getD_lt {ns : List Int} {k : Nat} (h : k < ns.length) : ns[k]? = some (ns.getD k 0) := by
  rw [List.getD_eq_getElem?_getD, List.getElem?_eq_getElem h]; rfl
theorem getD_ge {ns : List Int} {k : Nat} (h : ¬ k < ns.length) : ns.getD k 0 = 0 := by
  rw [List.getD_eq_getElem?_getD, List.getElem?_eq_none (by omega)]; rfl
def row1 (ns : List Int) (k : Nat) : Int := if ns.getD k 0 < 0 then -2 * ns.getD k 0 - 1 else ns.getD k 0
def rowA (c : Int) (k : Nat) : Int := (c * 48271 + k * 69621 + 11) % 2147483647
def rowB (a c : Int) (k : Nat) : Int := (a * 16807 + c * 7 + k + 5) % 2147483629
def rowC (a b : Int) : Int := (b * 39373 + a * b + 3) % 2147483587
theorem rowZ_hi {ns : List Int} {k : Nat} (h : ¬ row1 ns k < 10 ^ 9) : rowZ ns k = row1 ns k := by
  unfold rowZ
  exact if_neg h
theorem rowZ_lo {ns : List Int} {k : Nat} (h : row1 ns k < 10 ^ 9) : rowZ ns k = rowA (row1 ns k) k + rowB (rowA (row1 ns k) k) (row1 ns k) k * 2147483647 + rowC (rowA (row1 ns k) k) (rowB (rowA (row1 ns k) k) (row1 ns k) k) * 2147483647 ^ 2 := by
  unfold rowZ
  exact if_pos h
theorem row1_nn (ns : List Int) (k : Nat) : 0 ≤ row1 ns k := by
  unfold row1
  by_cases h : ns.getD k 0 < 0
  · rw [if_pos h]; omega
  · rw [if_neg h]; omega
theorem rowZ_nn (ns : List Int) (k : Nat) : 0 ≤ rowZ ns k := by
  by_cases h : row1 ns k < 10 ^ 9
  · rw [rowZ_lo h]
    have a0 : 0 ≤ rowA (row1 ns k) k := Int.emod_nonneg _ (by decide)
    have b0 : 0 ≤ rowB (rowA (row1 ns k) k) (row1 ns k) k := Int.emod_nonneg _ (by decide)
    have d0 : 0 ≤ rowC (rowA (row1 ns k) k) (rowB (rowA (row1 ns k) k) (row1 ns k) k) := Int.emod_nonneg _ (by decide)
    have e2 : (2147483647 : Int) ^ 2 = 4611686014132420609 := by decide
    rw [e2]
    omega
  · rw [rowZ_hi h]; exact row1_nn ns k

inductive Val
  | i (x : Int)
  | s (x : Str)
  | b (x : Bool)
deriving DecidableEq
def Val.p_i : Val → Option Int
  | .i x => some x
  | _ => none
def Val.p_s : Val → Option Str
  | .s x => some x
  | _ => none
def Val.p_b : Val → Option Bool
  | .b x => some x
  | _ => none
def d_Val : Val → PyData
  | .i x => PyData.int x
  | .s x => PyData.str x
  | .b x => PyData.bool x
def Val.is_bool : Val → Bool
  | .i _ => false
  | .s _ => false
  | .b _ => true
def Val.is_int : Val → Bool
  | .i _ => true
  | .s _ => false
  | .b _ => true
def Val.is_str : Val → Bool
  | .i _ => false
  | .s _ => true
  | .b _ => false
structure Record where
  name : Str
  vector : (List Int)
  fields : (List (Str × Val))
  words : (List (Str × Int))
deriving DecidableEq
structure Part where
  start : Int
  centre : (List Int)
  radius : Int
deriving DecidableEq
structure Parts where
  parts : (List Part)
deriving DecidableEq
structure Cell where
  near : (List Int)
  rival : (List Int)
deriving DecidableEq
structure Box where
  low : (List Int)
  high : (List Int)
deriving DecidableEq
structure Norms where
  low : Int
  high : Int
deriving DecidableEq
structure Differ where
  centre : (List Int)
  most : Int
deriving DecidableEq
structure Range where
  field : Str
  low : Int
  high : Int
  lack : Str
deriving DecidableEq
structure Values where
  field : Str
  choices : (List Val)
  lack : Str
deriving DecidableEq
structure Counts where
  words : (List (Str × Int))
  bounds : (List (Str × Int))
deriving DecidableEq
structure Names where
  low : Str
  high : Str
deriving DecidableEq
inductive Fact
  | parts (x : Parts)
  | cell (x : Cell)
  | box (x : Box)
  | norms (x : Norms)
  | differ (x : Differ)
  | range (x : Range)
  | values (x : Values)
  | counts (x : Counts)
  | names (x : Names)
deriving DecidableEq
def Fact.p_parts : Fact → Option Parts
  | .parts x => some x
  | _ => none
def Fact.p_cell : Fact → Option Cell
  | .cell x => some x
  | _ => none
def Fact.p_box : Fact → Option Box
  | .box x => some x
  | _ => none
def Fact.p_norms : Fact → Option Norms
  | .norms x => some x
  | _ => none
def Fact.p_differ : Fact → Option Differ
  | .differ x => some x
  | _ => none
def Fact.p_range : Fact → Option Range
  | .range x => some x
  | _ => none
def Fact.p_values : Fact → Option Values
  | .values x => some x
  | _ => none
def Fact.p_counts : Fact → Option Counts
  | .counts x => some x
  | _ => none
def Fact.p_names : Fact → Option Names
  | .names x => some x
  | _ => none
def Fact.is_Parts : Fact → Bool
  | .parts _ => true
  | .cell _ => false
  | .box _ => false
  | .norms _ => false
  | .differ _ => false
  | .range _ => false
  | .values _ => false
  | .counts _ => false
  | .names _ => false
def Fact.is_Cell : Fact → Bool
  | .parts _ => false
  | .cell _ => true
  | .box _ => false
  | .norms _ => false
  | .differ _ => false
  | .range _ => false
  | .values _ => false
  | .counts _ => false
  | .names _ => false
def Fact.is_Box : Fact → Bool
  | .parts _ => false
  | .cell _ => false
  | .box _ => true
  | .norms _ => false
  | .differ _ => false
  | .range _ => false
  | .values _ => false
  | .counts _ => false
  | .names _ => false
def Fact.is_Norms : Fact → Bool
  | .parts _ => false
  | .cell _ => false
  | .box _ => false
  | .norms _ => true
  | .differ _ => false
  | .range _ => false
  | .values _ => false
  | .counts _ => false
  | .names _ => false
def Fact.is_Differ : Fact → Bool
  | .parts _ => false
  | .cell _ => false
  | .box _ => false
  | .norms _ => false
  | .differ _ => true
  | .range _ => false
  | .values _ => false
  | .counts _ => false
  | .names _ => false
def Fact.is_Range : Fact → Bool
  | .parts _ => false
  | .cell _ => false
  | .box _ => false
  | .norms _ => false
  | .differ _ => false
  | .range _ => true
  | .values _ => false
  | .counts _ => false
  | .names _ => false
def Fact.is_Values : Fact → Bool
  | .parts _ => false
  | .cell _ => false
  | .box _ => false
  | .norms _ => false
  | .differ _ => false
  | .range _ => false
  | .values _ => true
  | .counts _ => false
  | .names _ => false
def Fact.is_Counts : Fact → Bool
  | .parts _ => false
  | .cell _ => false
  | .box _ => false
  | .norms _ => false
  | .differ _ => false
  | .range _ => false
  | .values _ => false
  | .counts _ => true
  | .names _ => false
structure Region where
  parent : (Option Int)
  facts : (List Fact)
deriving DecidableEq
structure Entry where
  number : Int
  record : Record
  leaves : (List Int)
deriving DecidableEq
structure Offer where
  partitions : (List (List Region))
  entries : (List Entry)
deriving DecidableEq


def F_law_string (ds : DS) : Option (Str × DS) :=
  (atI ([("" : Str), ("a" : Str), ("red" : Str), ("x y" : Str), ("a\\b" : Str), ("~!" : Str)] : List Str) (nxV ds (6 : Int))).bind fun i_3 =>
  some (i_3, (nxS ds (6 : Int)))
def F_law_numbers (ds : DS) : Option ((List Int) × DS) :=
  if RangeOk 0 (nxV ds (4 : Int)) then
  (mapS (fun (x_13 : Int) (s_14 : DS) => (some (((nxV s_14 (9 : Int)) - (4 : Int)), (nxS s_14 (9 : Int))) : Option (Int × DS))) (rangeZ 0 (nxV ds (4 : Int))) (nxS ds (4 : Int))).bind fun l_17 =>
  some (l_17.1, l_17.2) else none
def F_law_worth (ds : DS) : Option (Val × DS) :=
  (F_law_string (nxS ds (9 : Int))).bind fun r_23 =>
  (atI ([(Val.i ((nxV ds (9 : Int)) - (4 : Int))), (Val.s r_23.1), (Val.b (decide ((nxV r_23.2 (2 : Int)) = (0 : Int))))] : List Val) (nxV (nxS r_23.2 (2 : Int)) (3 : Int))).bind fun i_25 =>
  some (i_25, (nxS (nxS r_23.2 (2 : Int)) (3 : Int)))
def F_Record___init__ (x_name : Str) (x_vector : (List Int)) (x_fields : (List (Str × Val))) (x_words : (List (Str × Int))) : Record :=
  (⟨x_name, x_vector, x_fields, x_words⟩ : Record)
def F_law_record (ds : DS) : Option (Record × DS) :=
  if RangeOk 0 (nxV ds (3 : Int)) then
  (mapS (fun (x_57 : Int) (s_58 : DS) => ((F_law_string s_58).bind fun r_61 =>
  (F_law_worth r_61.2).bind fun r_63 =>
  some ((r_61.1, r_63.1), r_63.2) : Option ((Str × Val) × DS))) (rangeZ 0 (nxV ds (3 : Int))) (nxS ds (3 : Int))).bind fun l_65 =>
  if RangeOk 0 (nxV l_65.2 (3 : Int)) then
  (mapS (fun (x_70 : Int) (s_71 : DS) => ((F_law_string s_71).bind fun r_74 =>
  some ((r_74.1, ((1 : Int) + (nxV r_74.2 (9 : Int)))), (nxS r_74.2 (9 : Int))) : Option ((Str × Int) × DS))) (rangeZ 0 (nxV l_65.2 (3 : Int))) (nxS l_65.2 (3 : Int))).bind fun l_76 =>
  (F_law_string l_76.2).bind fun r_80 =>
  (F_law_numbers r_80.2).bind fun r_82 =>
  some ((F_Record___init__ r_80.1 r_82.1 l_65.1 l_76.1), r_82.2) else none else none
def F_Part___init__ (x_start : Int) (x_centre : (List Int)) (x_radius : Int) : Part :=
  (⟨x_start, x_centre, x_radius⟩ : Part)
def F_Parts___init__ (x_parts : (List Part)) : Parts :=
  (⟨x_parts⟩ : Parts)
def F_Cell___init__ (x_near : (List Int)) (x_rival : (List Int)) : Cell :=
  (⟨x_near, x_rival⟩ : Cell)
def F_Box___init__ (x_low : (List Int)) (x_high : (List Int)) : Box :=
  (⟨x_low, x_high⟩ : Box)
def F_Norms___init__ (x_low : Int) (x_high : Int) : Norms :=
  (⟨x_low, x_high⟩ : Norms)
def F_Differ___init__ (x_centre : (List Int)) (x_most : Int) : Differ :=
  (⟨x_centre, x_most⟩ : Differ)
def F_Range___init__ (x_field : Str) (x_low : Int) (x_high : Int) (x_lack : Str) : Range :=
  (⟨x_field, x_low, x_high, x_lack⟩ : Range)
def F_Values___init__ (x_field : Str) (x_choices : (List Val)) (x_lack : Str) : Values :=
  (⟨x_field, x_choices, x_lack⟩ : Values)
def L_greatest_counts_1 (x_129 : (Str × Int)) (w_128 : (List (Str × Int))) : Option (List (Str × Int)) :=
  if w_128.length < 16777216 then
  some (putA w_128 x_129.1 (max x_129.2 ((getA w_128 x_129.1).getD (0 : Int)))) else none
def F_greatest_counts (x_words : (List (Str × Int))) : Option (List (Str × Int)) :=
  (forF L_greatest_counts_1 x_words ([] : List (Str × Int))).bind fun w_139 =>
  some w_139
def F_Counts___init__ (x_words : (List (Str × Int))) : Option Counts :=
  (F_greatest_counts x_words).bind fun r_177 =>
  some (⟨x_words, r_177⟩ : Counts)
def F_Names___init__ (x_low : Str) (x_high : Str) : Names :=
  (⟨x_low, x_high⟩ : Names)
def F_law_fact (ds : DS) : Option (Fact × DS) :=
  if (decide ((nxV ds (9 : Int)) = (0 : Int))) = true then
  if RangeOk 0 (nxV (nxS ds (9 : Int)) (3 : Int)) then
  (mapS (fun (x_199 : Int) (s_200 : DS) => ((F_law_numbers (nxS s_200 (4 : Int))).bind fun r_203 =>
  some ((F_Part___init__ (nxV s_200 (4 : Int)) r_203.1 (nxV r_203.2 (90 : Int))), (nxS r_203.2 (90 : Int))) : Option (Part × DS))) (rangeZ 0 (nxV (nxS ds (9 : Int)) (3 : Int))) (nxS (nxS ds (9 : Int)) (3 : Int))).bind fun l_205 =>
  some ((Fact.parts (F_Parts___init__ l_205.1)), l_205.2) else none
  else
  if (decide ((nxV ds (9 : Int)) = (1 : Int))) = true then
  (F_law_numbers (nxS ds (9 : Int))).bind fun r_208 =>
  (F_law_numbers r_208.2).bind fun r_210 =>
  some ((Fact.cell (F_Cell___init__ r_208.1 r_210.1)), r_210.2)
  else
  if (decide ((nxV ds (9 : Int)) = (2 : Int))) = true then
  (F_law_numbers (nxS ds (9 : Int))).bind fun r_213 =>
  (F_law_numbers r_213.2).bind fun r_215 =>
  some ((Fact.box (F_Box___init__ r_213.1 r_215.1)), r_215.2)
  else
  if (decide ((nxV ds (9 : Int)) = (3 : Int))) = true then
  some ((Fact.norms (F_Norms___init__ (nxV (nxS ds (9 : Int)) (90 : Int)) ((nxV (nxS (nxS ds (9 : Int)) (90 : Int)) (90 : Int)) * ((10 : Int) ^ (9 : Int).toNat)))), (nxS (nxS (nxS ds (9 : Int)) (90 : Int)) (90 : Int)))
  else
  if (decide ((nxV ds (9 : Int)) = (4 : Int))) = true then
  (F_law_numbers (nxS ds (9 : Int))).bind fun r_219 =>
  some ((Fact.differ (F_Differ___init__ r_219.1 (nxV r_219.2 (9 : Int)))), (nxS r_219.2 (9 : Int)))
  else
  (atI ([("nobody" : Str), ("some" : Str), ("all" : Str)] : List Str) (nxV (nxS ds (9 : Int)) (3 : Int))).bind fun i_221 =>
  if (decide ((nxV ds (9 : Int)) = (5 : Int))) = true then
  (F_law_string (nxS (nxS ds (9 : Int)) (3 : Int))).bind fun r_226 =>
  some ((Fact.range (F_Range___init__ r_226.1 (-(nxV r_226.2 (90 : Int))) (nxV (nxS r_226.2 (90 : Int)) (90 : Int)) i_221)), (nxS (nxS r_226.2 (90 : Int)) (90 : Int)))
  else
  if (decide ((nxV ds (9 : Int)) = (6 : Int))) = true then
  (F_law_string (nxS (nxS ds (9 : Int)) (3 : Int))).bind fun r_229 =>
  if RangeOk 0 (nxV r_229.2 (3 : Int)) then
  (mapS (fun (x_232 : Int) (s_233 : DS) => ((F_law_worth s_233).bind fun r_236 =>
  some (r_236.1, r_236.2) : Option (Val × DS))) (rangeZ 0 (nxV r_229.2 (3 : Int))) (nxS r_229.2 (3 : Int))).bind fun l_238 =>
  some ((Fact.values (F_Values___init__ r_229.1 l_238.1 i_221)), l_238.2) else none
  else
  if (decide ((nxV ds (9 : Int)) = (7 : Int))) = true then
  if RangeOk 0 (nxV (nxS (nxS ds (9 : Int)) (3 : Int)) (3 : Int)) then
  (mapS (fun (x_242 : Int) (s_243 : DS) => ((F_law_string s_243).bind fun r_246 =>
  some ((r_246.1, (nxV r_246.2 (9 : Int))), (nxS r_246.2 (9 : Int))) : Option ((Str × Int) × DS))) (rangeZ 0 (nxV (nxS (nxS ds (9 : Int)) (3 : Int)) (3 : Int))) (nxS (nxS (nxS ds (9 : Int)) (3 : Int)) (3 : Int))).bind fun l_248 =>
  (F_Counts___init__ l_248.1).bind fun r_250 =>
  some ((Fact.counts r_250), l_248.2) else none
  else
  (F_law_string (nxS (nxS ds (9 : Int)) (3 : Int))).bind fun r_252 =>
  (F_law_string r_252.2).bind fun r_254 =>
  some ((Fact.names (F_Names___init__ r_252.1 r_254.1)), r_254.2)
def F_Region___init__ (x_parent : (Option Int)) (x_facts : (List Fact)) : Region :=
  (⟨x_parent, x_facts⟩ : Region)
def F_Entry___init__ (x_number : Int) (x_record : Record) (x_leaves : (List Int)) : Entry :=
  (⟨x_number, x_record, x_leaves⟩ : Entry)
def F_Offer___init__ (x_partitions : (List (List Region))) (x_entries : (List Entry)) : Offer :=
  (⟨x_partitions, x_entries⟩ : Offer)
def L_law_offer_2 (x_316 : Int) (w_315 : ((List Region) × DS)) : Option ((List Region) × DS) :=
  (atI ([none, (some ((nxV w_315.2 (5 : Int)) - (1 : Int)))] : List (Option Int)) (nxV (nxS w_315.2 (5 : Int)) (2 : Int))).bind fun i_342 =>
  if RangeOk 0 (nxV (nxS (nxS w_315.2 (5 : Int)) (2 : Int)) (3 : Int)) then
  (mapS (fun (x_347 : Int) (s_348 : DS) => ((F_law_fact s_348).bind fun r_351 =>
  some (r_351.1, r_351.2) : Option (Fact × DS))) (rangeZ 0 (nxV (nxS (nxS w_315.2 (5 : Int)) (2 : Int)) (3 : Int))) (nxS (nxS (nxS w_315.2 (5 : Int)) (2 : Int)) (3 : Int))).bind fun l_353 =>
  if w_315.1.length < 16777216 then
  some ((w_315.1 ++ [(F_Region___init__ i_342 l_353.1)]), l_353.2) else none else none
def L_law_offer_1 (x_286 : Int) (w_285 : ((List (List Region)) × DS)) : Option ((List (List Region)) × DS) :=
  if RangeOk 0 (nxV w_285.2 (4 : Int)) then
  (forF L_law_offer_2 (rangeZ 0 (nxV w_285.2 (4 : Int))) (([] : List Region), (nxS w_285.2 (4 : Int)))).bind fun w_330 =>
  if w_285.1.length < 16777216 then
  some ((w_285.1 ++ [w_330.1]), w_330.2) else none else none
def L_law_offer_3 (x_370 : Int) (w_369 : ((List Entry) × DS)) : Option ((List Entry) × DS) :=
  (F_law_record (nxS w_369.2 ((10 : Int) ^ (6 : Int).toNat))).bind fun r_394 =>
  (F_law_numbers r_394.2).bind fun r_396 =>
  if w_369.1.length < 16777216 then
  some ((w_369.1 ++ [(F_Entry___init__ (nxV w_369.2 ((10 : Int) ^ (6 : Int).toNat)) r_394.1 r_396.1)]), r_396.2) else none
def F_law_offer (ds : DS) : Option (Offer × DS) :=
  (some ([] : List (List Region))).bind fun x_partitions_279 =>
  if RangeOk 0 (nxV ds (3 : Int)) then
  (forF L_law_offer_1 (rangeZ 0 (nxV ds (3 : Int))) (x_partitions_279, (nxS ds (3 : Int)))).bind fun w_299 =>
  if RangeOk 0 (nxV w_299.2 (4 : Int)) then
  (forF L_law_offer_3 (rangeZ 0 (nxV w_299.2 (4 : Int))) (([] : List Entry), (nxS w_299.2 (4 : Int)))).bind fun w_383 =>
  some ((F_Offer___init__ w_299.1 w_383.1), w_383.2) else none else none
def F_list_code (x_codes : (List (List Int))) : Option (List Int) :=
  if (x_codes.flatMap fun (x_412 : (List Int)) => x_412.map (fun (y_415 : Int) => y_415)).length ≤ 16777216 then
  if ([(x_codes.length : Int)] : List Int).length + (x_codes.flatMap fun (x_412 : (List Int)) => x_412.map (fun (y_415 : Int) => y_415)).length ≤ 16777216 then
  some (([(x_codes.length : Int)] : List Int) ++ (x_codes.flatMap fun (x_412 : (List Int)) => x_412.map (fun (y_415 : Int) => y_415))) else none else none
def F_numbers_code (x_numbers : (List Int)) : Option (List Int) :=
  if ([(x_numbers.length : Int)] : List Int).length + x_numbers.length ≤ 16777216 then
  some (([(x_numbers.length : Int)] : List Int) ++ x_numbers) else none
def F_string_code (x_text : Str) : Option (List Int) :=
  (mapO (fun (x_428 : Str) => (if x_428.length = 1 then
  some ((x_428.cps.getD 0 0 : Nat) : Int) else none : Option Int)) (x_text.cps.toList.map fun c => (⟨#[c]⟩ : Str))).bind fun l_432 =>
  (F_numbers_code l_432).bind fun r_434 =>
  some r_434
def F_kind_of_value (x_worth : Val) : Str :=
  if (x_worth.is_bool) = true then
  ("flag" : Str)
  else
  if (x_worth.is_int) = true then
  ("integer" : Str)
  else
  ("text" : Str)
def F_value_code (x_worth : Val) : Option (List Int) :=
  if (decide ((F_kind_of_value x_worth) = ("integer" : Str))) = true then
  (x_worth.p_i).bind fun u_446 =>
  some ([(0 : Int), u_446] : List Int)
  else
  if (decide ((F_kind_of_value x_worth) = ("text" : Str))) = true then
  (x_worth.p_s).bind fun u_449 =>
  (F_string_code u_449).bind fun r_451 =>
  if ([(1 : Int)] : List Int).length + r_451.length ≤ 16777216 then
  some (([(1 : Int)] : List Int) ++ r_451) else none
  else
  (x_worth.p_b).bind fun u_454 =>
  some ([(2 : Int), (if u_454 = true then (1 : Int) else (0 : Int))] : List Int)
def F_maybe_code (x_code : (Option (List Int))) : Option (List Int) :=
  if x_code.isNone = true then
  some ([(0 : Int)] : List Int)
  else
  (x_code).bind fun u_461 =>
  if ([(1 : Int)] : List Int).length + u_461.length ≤ 16777216 then
  some (([(1 : Int)] : List Int) ++ u_461) else none
def F_words_code (x_words : (List (Str × Int))) : Option (List Int) :=
  (mapO (fun (x_479 : (Str × Int)) => ((F_string_code x_479.1).bind fun r_489 =>
  if r_489.length + ([x_479.2] : List Int).length ≤ 16777216 then
  some (r_489 ++ ([x_479.2] : List Int)) else none : Option (List Int))) x_words).bind fun l_492 =>
  (F_list_code l_492).bind fun r_494 =>
  some r_494
def F_part_code (x_part : Part) : Option (List Int) :=
  (F_numbers_code x_part.centre).bind fun r_506 =>
  if ([x_part.start] : List Int).length + r_506.length ≤ 16777216 then
  if (([x_part.start] : List Int) ++ r_506).length + ([x_part.radius] : List Int).length ≤ 16777216 then
  some ((([x_part.start] : List Int) ++ r_506) ++ ([x_part.radius] : List Int)) else none else none
def F_fact_code (x_fact : Fact) : Option (List Int) :=
  if (x_fact.is_Parts) = true then
  (x_fact.p_parts).bind fun u_525 =>
  (mapO (fun (x_527 : Part) => ((F_part_code x_527).bind fun r_530 =>
  some r_530 : Option (List Int))) u_525.parts).bind fun l_532 =>
  (F_list_code l_532).bind fun r_534 =>
  if ([(1 : Int)] : List Int).length + r_534.length ≤ 16777216 then
  some (([(1 : Int)] : List Int) ++ r_534) else none
  else
  if (x_fact.is_Cell) = true then
  (x_fact.p_cell).bind fun u_543 =>
  (F_numbers_code u_543.near).bind fun r_545 =>
  if ([(2 : Int)] : List Int).length + r_545.length ≤ 16777216 then
  (x_fact.p_cell).bind fun u_548 =>
  (F_numbers_code u_548.rival).bind fun r_550 =>
  if (([(2 : Int)] : List Int) ++ r_545).length + r_550.length ≤ 16777216 then
  some ((([(2 : Int)] : List Int) ++ r_545) ++ r_550) else none else none
  else
  if (x_fact.is_Box) = true then
  (x_fact.p_box).bind fun u_559 =>
  (F_numbers_code u_559.low).bind fun r_561 =>
  if ([(3 : Int)] : List Int).length + r_561.length ≤ 16777216 then
  (x_fact.p_box).bind fun u_564 =>
  (F_numbers_code u_564.high).bind fun r_566 =>
  if (([(3 : Int)] : List Int) ++ r_561).length + r_566.length ≤ 16777216 then
  some ((([(3 : Int)] : List Int) ++ r_561) ++ r_566) else none else none
  else
  if (x_fact.is_Norms) = true then
  (x_fact.p_norms).bind fun u_570 =>
  (x_fact.p_norms).bind fun u_572 =>
  some ([(4 : Int), u_570.low, u_572.high] : List Int)
  else
  if (x_fact.is_Differ) = true then
  (x_fact.p_differ).bind fun u_580 =>
  (F_numbers_code u_580.centre).bind fun r_582 =>
  if ([(5 : Int)] : List Int).length + r_582.length ≤ 16777216 then
  (x_fact.p_differ).bind fun u_585 =>
  if (([(5 : Int)] : List Int) ++ r_582).length + ([u_585.most] : List Int).length ≤ 16777216 then
  some ((([(5 : Int)] : List Int) ++ r_582) ++ ([u_585.most] : List Int)) else none else none
  else
  if (x_fact.is_Range) = true then
  (x_fact.p_range).bind fun u_594 =>
  (F_string_code u_594.field).bind fun r_596 =>
  if ([(6 : Int)] : List Int).length + r_596.length ≤ 16777216 then
  (x_fact.p_range).bind fun u_599 =>
  (x_fact.p_range).bind fun u_601 =>
  (x_fact.p_range).bind fun u_603 =>
  (idxO (["nobody", "some", "all"] : List Str) u_603.lack).bind fun j_605 =>
  if (([(6 : Int)] : List Int) ++ r_596).length + ([u_599.low, u_601.high, (j_605 : Int)] : List Int).length ≤ 16777216 then
  some ((([(6 : Int)] : List Int) ++ r_596) ++ ([u_599.low, u_601.high, (j_605 : Int)] : List Int)) else none else none
  else
  if (x_fact.is_Values) = true then
  (x_fact.p_values).bind fun u_611 =>
  (mapO (fun (x_613 : Val) => ((F_value_code x_613).bind fun r_616 =>
  some r_616 : Option (List Int))) u_611.choices).bind fun l_618 =>
  (F_list_code l_618).bind fun r_620 =>
  (x_fact.p_values).bind fun u_640 =>
  (F_string_code u_640.field).bind fun r_642 =>
  if ([(7 : Int)] : List Int).length + r_642.length ≤ 16777216 then
  if (([(7 : Int)] : List Int) ++ r_642).length + r_620.length ≤ 16777216 then
  (x_fact.p_values).bind fun u_646 =>
  (idxO (["nobody", "some", "all"] : List Str) u_646.lack).bind fun j_648 =>
  if ((([(7 : Int)] : List Int) ++ r_642) ++ r_620).length + ([(j_648 : Int)] : List Int).length ≤ 16777216 then
  some (((([(7 : Int)] : List Int) ++ r_642) ++ r_620) ++ ([(j_648 : Int)] : List Int)) else none else none else none
  else
  if (x_fact.is_Counts) = true then
  (x_fact.p_counts).bind fun u_652 =>
  (F_words_code u_652.words).bind fun r_654 =>
  if ([(8 : Int)] : List Int).length + r_654.length ≤ 16777216 then
  some (([(8 : Int)] : List Int) ++ r_654) else none
  else
  (x_fact.p_names).bind fun u_662 =>
  (F_string_code u_662.low).bind fun r_664 =>
  if ([(9 : Int)] : List Int).length + r_664.length ≤ 16777216 then
  (x_fact.p_names).bind fun u_667 =>
  (F_string_code u_667.high).bind fun r_669 =>
  if (([(9 : Int)] : List Int) ++ r_664).length + r_669.length ≤ 16777216 then
  some ((([(9 : Int)] : List Int) ++ r_664) ++ r_669) else none else none
def F_region_code (x_region : Region) : Option (List Int) :=
  (if x_region.parent.isNone = true then (some none) else ((x_region.parent).bind fun u_676 =>
  some (some ([u_676] : List Int)))).bind fun w_679 =>
  (F_maybe_code w_679).bind fun r_684 =>
  (mapO (fun (x_686 : Fact) => ((F_fact_code x_686).bind fun r_689 =>
  some r_689 : Option (List Int))) x_region.facts).bind fun l_691 =>
  (F_list_code l_691).bind fun r_693 =>
  if r_684.length + r_693.length ≤ 16777216 then
  some (r_684 ++ r_693) else none
def F_partition_code (x_regions : (List Region)) : Option (List Int) :=
  (mapO (fun (x_703 : Region) => ((F_region_code x_703).bind fun r_706 =>
  some r_706 : Option (List Int))) x_regions).bind fun l_708 =>
  (F_list_code l_708).bind fun r_710 =>
  some r_710
def F_record_code (x_record : Record) : Option (List Int) :=
  (mapO (fun (x_729 : (Str × Val)) => ((F_string_code x_729.1).bind fun r_739 =>
  (F_value_code x_729.2).bind fun r_741 =>
  if r_739.length + r_741.length ≤ 16777216 then
  some (r_739 ++ r_741) else none : Option (List Int))) x_record.fields).bind fun l_744 =>
  (F_list_code l_744).bind fun r_746 =>
  (F_string_code x_record.name).bind fun r_774 =>
  (F_numbers_code x_record.vector).bind fun r_776 =>
  if r_774.length + r_776.length ≤ 16777216 then
  if (r_774 ++ r_776).length + r_746.length ≤ 16777216 then
  (F_words_code x_record.words).bind fun r_780 =>
  if ((r_774 ++ r_776) ++ r_746).length + r_780.length ≤ 16777216 then
  some (((r_774 ++ r_776) ++ r_746) ++ r_780) else none else none else none
def F_entry_code (x_entry : Entry) : Option (List Int) :=
  (F_record_code x_entry.record).bind fun r_795 =>
  if ([x_entry.number] : List Int).length + r_795.length ≤ 16777216 then
  (F_numbers_code x_entry.leaves).bind fun r_798 =>
  if (([x_entry.number] : List Int) ++ r_795).length + r_798.length ≤ 16777216 then
  some ((([x_entry.number] : List Int) ++ r_795) ++ r_798) else none else none
def F_offer_code (x_offer : Offer) : Option (List Int) :=
  (mapO (fun (x_808 : (List Region)) => ((F_partition_code x_808).bind fun r_811 =>
  some r_811 : Option (List Int))) x_offer.partitions).bind fun l_813 =>
  (F_list_code l_813).bind fun r_815 =>
  (mapO (fun (x_819 : Entry) => ((F_entry_code x_819).bind fun r_822 =>
  some r_822 : Option (List Int))) x_offer.entries).bind fun l_824 =>
  (F_list_code l_824).bind fun r_826 =>
  if r_815.length + r_826.length ≤ 16777216 then
  some (r_815 ++ r_826) else none
def F_law_text (x_text : Str) : Option (List Int) :=
  (mapO (fun (x_835 : Str) => (if x_835.length = 1 then
  some ((x_835.cps.getD 0 0 : Nat) : Int) else none : Option Int)) (x_text.cps.toList.map fun c => (⟨#[c]⟩ : Str))).bind fun l_839 =>
  if ([(x_text.length : Int)] : List Int).length + l_839.length ≤ 16777216 then
  some (([(x_text.length : Int)] : List Int) ++ l_839) else none
def F_law_value (x_worth : Val) : Option (List Int) :=
  if (x_worth.is_bool) = true then
  (x_worth.p_b).bind fun u_846 =>
  some ([(2 : Int), (if u_846 = true then 1 else 0 : Int)] : List Int)
  else
  if (x_worth.is_str) = true then
  (x_worth.p_s).bind fun u_849 =>
  (F_law_text u_849).bind fun r_851 =>
  if ([(1 : Int)] : List Int).length + r_851.length ≤ 16777216 then
  some (([(1 : Int)] : List Int) ++ r_851) else none
  else
  (x_worth.p_i).bind fun u_854 =>
  some ([(0 : Int), u_854] : List Int)
def L_law_list_1 (x_863 : (List Int)) (w_862 : (List Int)) : Option (List Int) :=
  if w_862.length + x_863.length ≤ 16777216 then
  some (w_862 ++ x_863) else none
def F_law_list (x_codes : (List (List Int))) : Option (List Int) :=
  (some ([(x_codes.length : Int)] : List Int)).bind fun x_code_858 =>
  (forF L_law_list_1 x_codes x_code_858).bind fun w_873 =>
  some w_873
def F_law_counted (x_row : (List Int)) : Option (List Int) :=
  if ([(x_row.length : Int)] : List Int).length + x_row.length ≤ 16777216 then
  some (([(x_row.length : Int)] : List Int) ++ x_row) else none
def F_law_fact_due (x_fact : Fact) : Option (List Int) :=
  if (x_fact.is_Parts) = true then
  (x_fact.p_parts).bind fun u_908 =>
  (mapO (fun (x_910 : Part) => ((F_law_counted x_910.centre).bind fun r_916 =>
  if ([x_910.start] : List Int).length + r_916.length ≤ 16777216 then
  if (([x_910.start] : List Int) ++ r_916).length + ([x_910.radius] : List Int).length ≤ 16777216 then
  some ((([x_910.start] : List Int) ++ r_916) ++ ([x_910.radius] : List Int)) else none else none : Option (List Int))) u_908.parts).bind fun l_920 =>
  (F_law_list l_920).bind fun r_922 =>
  if ([(1 : Int)] : List Int).length + r_922.length ≤ 16777216 then
  some (([(1 : Int)] : List Int) ++ r_922) else none
  else
  if (x_fact.is_Cell) = true then
  (x_fact.p_cell).bind fun u_931 =>
  (F_law_counted u_931.near).bind fun r_933 =>
  if ([(2 : Int)] : List Int).length + r_933.length ≤ 16777216 then
  (x_fact.p_cell).bind fun u_936 =>
  (F_law_counted u_936.rival).bind fun r_938 =>
  if (([(2 : Int)] : List Int) ++ r_933).length + r_938.length ≤ 16777216 then
  some ((([(2 : Int)] : List Int) ++ r_933) ++ r_938) else none else none
  else
  if (x_fact.is_Box) = true then
  (x_fact.p_box).bind fun u_947 =>
  (F_law_counted u_947.low).bind fun r_949 =>
  if ([(3 : Int)] : List Int).length + r_949.length ≤ 16777216 then
  (x_fact.p_box).bind fun u_952 =>
  (F_law_counted u_952.high).bind fun r_954 =>
  if (([(3 : Int)] : List Int) ++ r_949).length + r_954.length ≤ 16777216 then
  some ((([(3 : Int)] : List Int) ++ r_949) ++ r_954) else none else none
  else
  if (x_fact.is_Norms) = true then
  (x_fact.p_norms).bind fun u_958 =>
  (x_fact.p_norms).bind fun u_960 =>
  some ([(4 : Int), u_958.low, u_960.high] : List Int)
  else
  if (x_fact.is_Differ) = true then
  (x_fact.p_differ).bind fun u_968 =>
  (F_law_counted u_968.centre).bind fun r_970 =>
  if ([(5 : Int)] : List Int).length + r_970.length ≤ 16777216 then
  (x_fact.p_differ).bind fun u_973 =>
  if (([(5 : Int)] : List Int) ++ r_970).length + ([u_973.most] : List Int).length ≤ 16777216 then
  some ((([(5 : Int)] : List Int) ++ r_970) ++ ([u_973.most] : List Int)) else none else none
  else
  if (x_fact.is_Range) = true then
  (x_fact.p_range).bind fun u_982 =>
  (F_law_text u_982.field).bind fun r_984 =>
  if ([(6 : Int)] : List Int).length + r_984.length ≤ 16777216 then
  (x_fact.p_range).bind fun u_987 =>
  (x_fact.p_range).bind fun u_989 =>
  (x_fact.p_range).bind fun u_991 =>
  (idxO ([("nobody" : Str), ("some" : Str), ("all" : Str)] : List Str) u_991.lack).bind fun j_993 =>
  if (([(6 : Int)] : List Int) ++ r_984).length + ([u_987.low, u_989.high, (j_993 : Int)] : List Int).length ≤ 16777216 then
  some ((([(6 : Int)] : List Int) ++ r_984) ++ ([u_987.low, u_989.high, (j_993 : Int)] : List Int)) else none else none
  else
  if (x_fact.is_Values) = true then
  (x_fact.p_values).bind fun u_999 =>
  (mapO (fun (x_1001 : Val) => ((F_law_value x_1001).bind fun r_1004 =>
  some r_1004 : Option (List Int))) u_999.choices).bind fun l_1006 =>
  (F_law_list l_1006).bind fun r_1008 =>
  (x_fact.p_values).bind fun u_1028 =>
  (F_law_text u_1028.field).bind fun r_1030 =>
  if ([(7 : Int)] : List Int).length + r_1030.length ≤ 16777216 then
  if (([(7 : Int)] : List Int) ++ r_1030).length + r_1008.length ≤ 16777216 then
  (x_fact.p_values).bind fun u_1034 =>
  (idxO ([("nobody" : Str), ("some" : Str), ("all" : Str)] : List Str) u_1034.lack).bind fun j_1036 =>
  if ((([(7 : Int)] : List Int) ++ r_1030) ++ r_1008).length + ([(j_1036 : Int)] : List Int).length ≤ 16777216 then
  some (((([(7 : Int)] : List Int) ++ r_1030) ++ r_1008) ++ ([(j_1036 : Int)] : List Int)) else none else none else none
  else
  if (x_fact.is_Counts) = true then
  (x_fact.p_counts).bind fun u_1042 =>
  (mapO (fun (x_1044 : (Str × Int)) => ((F_law_text x_1044.1).bind fun r_1054 =>
  if r_1054.length + ([x_1044.2] : List Int).length ≤ 16777216 then
  some (r_1054 ++ ([x_1044.2] : List Int)) else none : Option (List Int))) u_1042.words).bind fun l_1057 =>
  (F_law_list l_1057).bind fun r_1059 =>
  if ([(8 : Int)] : List Int).length + r_1059.length ≤ 16777216 then
  some (([(8 : Int)] : List Int) ++ r_1059) else none
  else
  (x_fact.p_names).bind fun u_1067 =>
  (F_law_text u_1067.low).bind fun r_1069 =>
  if ([(9 : Int)] : List Int).length + r_1069.length ≤ 16777216 then
  (x_fact.p_names).bind fun u_1072 =>
  (F_law_text u_1072.high).bind fun r_1074 =>
  if (([(9 : Int)] : List Int) ++ r_1069).length + r_1074.length ≤ 16777216 then
  some ((([(9 : Int)] : List Int) ++ r_1069) ++ r_1074) else none else none
def F_law_record_due (x_record : Record) : Option (List Int) :=
  (F_law_text x_record.name).bind fun r_1105 =>
  (F_law_counted x_record.vector).bind fun r_1107 =>
  if r_1105.length + r_1107.length ≤ 16777216 then
  (mapO (fun (x_1112 : (Str × Val)) => ((F_law_text x_1112.1).bind fun r_1122 =>
  (F_law_value x_1112.2).bind fun r_1124 =>
  if r_1122.length + r_1124.length ≤ 16777216 then
  some (r_1122 ++ r_1124) else none : Option (List Int))) x_record.fields).bind fun l_1127 =>
  (F_law_list l_1127).bind fun r_1129 =>
  if (r_1105 ++ r_1107).length + r_1129.length ≤ 16777216 then
  (some ((r_1105 ++ r_1107) ++ r_1129)).bind fun x_code_1132 =>
  (mapO (fun (x_1136 : (Str × Int)) => ((F_law_text x_1136.1).bind fun r_1146 =>
  if r_1146.length + ([x_1136.2] : List Int).length ≤ 16777216 then
  some (r_1146 ++ ([x_1136.2] : List Int)) else none : Option (List Int))) x_record.words).bind fun l_1149 =>
  (F_law_list l_1149).bind fun r_1151 =>
  if x_code_1132.length + r_1151.length ≤ 16777216 then
  some (x_code_1132 ++ r_1151) else none else none else none
def F_law_region_due (x_region : Region) : Option (List Int) :=
  (if x_region.parent.isSome = true then
  (x_region.parent).bind fun u_1166 =>
  (some ([(1 : Int), u_1166] : List Int)).bind fun x_parent_1168 =>
  some x_parent_1168
  else
  some ([(0 : Int)] : List Int) : Option (List Int)).bind fun w_1161 =>
  (mapO (fun (x_1172 : Fact) => ((F_law_fact_due x_1172).bind fun r_1175 =>
  some r_1175 : Option (List Int))) x_region.facts).bind fun l_1177 =>
  (F_law_list l_1177).bind fun r_1179 =>
  if w_1161.length + r_1179.length ≤ 16777216 then
  some (w_1161 ++ r_1179) else none
def F_law_parts_agree (ds : DS) : Option (Bool × DS) :=
  (F_law_string ds).bind fun r_1208 =>
  (F_law_worth r_1208.2).bind fun r_1212 =>
  (F_law_numbers r_1212.2).bind fun r_1216 =>
  (F_string_code r_1208.1).bind fun r_1220 =>
  (F_law_text r_1208.1).bind fun r_1222 =>
  (if (!decide (r_1220 = r_1222)) = true then some true else ((F_value_code r_1212.1).bind fun r_1224 =>
  (F_law_value r_1212.1).bind fun r_1226 =>
  (if (!decide (r_1224 = r_1226)) = true then some true else ((F_numbers_code r_1216.1).bind fun r_1228 =>
  (F_law_counted r_1216.1).bind fun r_1230 =>
  some (!decide (r_1228 = r_1230)))).bind fun b_1233 =>
  some b_1233)).bind fun b_1235 =>
  if b_1235 = true then
  some (false, r_1216.2)
  else
  (F_maybe_code none).bind fun r_1237 =>
  (if (!decide (r_1237 = ([(0 : Int)] : List Int))) = true then some true else ((F_maybe_code (some r_1216.1)).bind fun r_1239 =>
  if ([(1 : Int)] : List Int).length + r_1216.1.length ≤ 16777216 then
  some (!decide (r_1239 = (([(1 : Int)] : List Int) ++ r_1216.1))) else none)).bind fun b_1243 =>
  if b_1243 = true then
  some (false, r_1216.2)
  else
  (F_list_code ([r_1216.1, ([] : List Int), ([(7 : Int)] : List Int)] : List (List Int))).bind fun r_1245 =>
  if ([(3 : Int)] : List Int).length + r_1216.1.length ≤ 16777216 then
  if (([(3 : Int)] : List Int) ++ r_1216.1).length + ([(7 : Int)] : List Int).length ≤ 16777216 then
  some ((decide (r_1245 = ((([(3 : Int)] : List Int) ++ r_1216.1) ++ ([(7 : Int)] : List Int)))), r_1216.2) else none else none
def L_law_1 (x_1254 : Int) (w_1253 : DS) : Option (Flow Bool DS) :=
  (F_law_fact w_1253).bind fun r_1282 =>
  (F_fact_code r_1282.1).bind fun r_1286 =>
  (F_law_fact_due r_1282.1).bind fun r_1288 =>
  if (!decide (r_1286 = r_1288)) = true then
  some (Flow.ret false)
  else
  some (Flow.go r_1282.2)
def L_law_3 (x_1330 : Region) (w_1329 : Unit) : Option (Flow Bool Unit) :=
  (F_region_code x_1330).bind fun r_1360 =>
  (F_law_region_due x_1330).bind fun r_1362 =>
  if (!decide (r_1360 = r_1362)) = true then
  some (Flow.ret false)
  else
  some (Flow.go ())
def L_law_2 (x_1301 : (List Region)) (w_1300 : (List (List Int))) : Option (Flow Bool (List (List Int))) :=
  (forS L_law_3 x_1301 ()).bind (Flow.thn (fun w_1346 =>
  (mapO (fun (x_1367 : Region) => ((F_law_region_due x_1367).bind fun r_1371 =>
  some r_1371 : Option (List Int))) x_1301).bind fun l_1373 =>
  (F_law_list l_1373).bind fun r_1375 =>
  if w_1300.length < 16777216 then
  (F_partition_code x_1301).bind fun r_1379 =>
  (atI (w_1300 ++ [r_1375]) (((w_1300 ++ [r_1375]).length : Int) - (1 : Int))).bind fun i_1381 =>
  if (!decide (r_1379 = i_1381)) = true then
  some (Flow.ret false)
  else
  some (Flow.go (w_1300 ++ [r_1375])) else none) (fun r => some (Flow.ret r)))
def L_law_4 (x_1391 : Entry) (w_1390 : (List (List Int))) : Option (Flow Bool (List (List Int))) :=
  (F_record_code x_1391.record).bind fun r_1419 =>
  (F_law_record_due x_1391.record).bind fun r_1421 =>
  if (!decide (r_1419 = r_1421)) = true then
  some (Flow.ret false)
  else
  (F_law_record_due x_1391.record).bind fun r_1427 =>
  if ([x_1391.number] : List Int).length + r_1427.length ≤ 16777216 then
  (F_law_counted x_1391.leaves).bind fun r_1430 =>
  if (([x_1391.number] : List Int) ++ r_1427).length + r_1430.length ≤ 16777216 then
  if w_1390.length < 16777216 then
  (F_entry_code x_1391).bind fun r_1435 =>
  (atI (w_1390 ++ [((([x_1391.number] : List Int) ++ r_1427) ++ r_1430)]) (((w_1390 ++ [((([x_1391.number] : List Int) ++ r_1427) ++ r_1430)]).length : Int) - (1 : Int))).bind fun i_1437 =>
  if (!decide (r_1435 = i_1437)) = true then
  some (Flow.ret false)
  else
  some (Flow.go (w_1390 ++ [((([x_1391.number] : List Int) ++ r_1427) ++ r_1430)])) else none else none else none
def F_law (ns : List Int) : Option Bool :=
  (F_law_parts_agree (DS.mk ns 0 0)).bind fun r_1250 =>
  if (!r_1250.1) = true then
  some false
  else
  (forS L_law_1 (rangeZ 0 (4 : Int)) r_1250.2).bind (Flow.thn (fun w_1269 =>
  (F_law_offer w_1269).bind fun r_1293 =>
  (forS L_law_2 r_1293.1.partitions ([] : List (List Int))).bind (Flow.thn (fun w_1316 =>
  (forS L_law_4 r_1293.1.entries ([] : List (List Int))).bind (Flow.thn (fun w_1406 =>
  (F_offer_code r_1293.1).bind fun r_1444 =>
  (F_law_list w_1316).bind fun r_1448 =>
  (F_law_list w_1406).bind fun r_1450 =>
  if r_1448.length + r_1450.length ≤ 16777216 then
  some (decide (r_1444 = (r_1448 ++ r_1450))) else none) (fun r => some r))) (fun r => some r))) (fun r => some r))
-- MATH BEGINS
def Two (k : Nat) (a b : Option (List Int)) : Prop := ∃ c, a = some c ∧ b = some c ∧ c.length ≤ k
theorem map_two {α : Type} {f g : α → Option (List Int)} {m : Nat} : ∀ {xs : List α}, (∀ x ∈ xs, Two m (f x) (g x)) → ∃ cs, mapO f xs = some cs ∧ mapO g xs = some cs ∧ cs.length = xs.length ∧ ∀ c ∈ cs, c.length ≤ m
  | [], _ => ⟨[], rfl, rfl, rfl, fun _ h => nomatch h⟩
  | x :: r, h => by
    obtain ⟨c, e1, e2, l⟩ := h x List.mem_cons_self
    obtain ⟨cs, e3, e4, l2, hc⟩ := map_two fun y hy => h y (List.mem_cons_of_mem _ hy)
    refine ⟨c :: cs, ?_, ?_, by rw [List.length_cons, List.length_cons, l2], fun d hd => ?_⟩
    · unfold mapO; rw [e1, bsome, e3, bsome]
    · unfold mapO; rw [e2, bsome, e4, bsome]
    · rcases List.mem_cons.mp hd with rfl | hd
      · exact l
      · exact hc d hd
theorem flat_len {m : Nat} : ∀ (cs : List (List Int)), (∀ c ∈ cs, c.length ≤ m) → cs.flatten.length ≤ cs.length * m
  | [], _ => by simp
  | c :: r, h => by
    have h1 := h c List.mem_cons_self
    have h2 := flat_len r fun d hd => h d (List.mem_cons_of_mem _ hd)
    rw [List.flatten_cons, List.length_append, List.length_cons, Nat.add_mul]
    omega
theorem law_list_loop {m : Nat} : ∀ (cs : List (List Int)) (w : List Int), (∀ c ∈ cs, c.length ≤ m) → w.length + cs.length * m ≤ 100000 → forF L_law_list_1 cs w = some (w ++ cs.flatten)
  | [], w, _, _ => by rw [List.flatten_nil, List.append_nil]; rfl
  | c :: r, w, h, l => by
    have h1 := h c List.mem_cons_self
    rw [List.length_cons, Nat.add_mul] at l
    have e : L_law_list_1 c w = some (w ++ c) := by unfold L_law_list_1; rw [if_pos (by omega)]
    show (L_law_list_1 c w).bind _ = _
    rw [e, bsome, law_list_loop r (w ++ c) (fun d hd => h d (List.mem_cons_of_mem _ hd)) (by rw [List.length_append]; omega), List.flatten_cons, List.append_assoc]
theorem list_two {cs : List (List Int)} (n m : Nat) (hn : cs.length ≤ n) (h : ∀ c ∈ cs, c.length ≤ m) (hb : n * m ≤ 10000) (k : Nat) (hk : 1 + n * m ≤ k) : Two k (F_list_code cs) (F_law_list cs) := by
  have f := flat_len cs h
  have g : cs.length * m ≤ n * m := Nat.mul_le_mul_right m hn
  have hm : n ≤ 10000 ∨ m = 0 := by
    rcases Nat.eq_zero_or_pos m with q | q
    · exact .inr q
    · left
      have := Nat.le_mul_of_pos_right n q
      omega
  refine ⟨[(cs.length : Int)] ++ cs.flatten, ?_, ?_, by rw [List.length_append, List.length_singleton]; omega⟩
  · unfold F_list_code
    have e : (cs.flatMap fun (x : List Int) => x.map fun (y : Int) => y) = cs.flatten := by
      rw [List.flatMap_def]
      congr 1
      have : (fun (x : List Int) => x.map fun (y : Int) => y) = id := by
        funext x
        exact List.map_id' x
      rw [this, List.map_id]
    rw [e, if_pos (by omega), if_pos (by rw [List.length_singleton]; omega)]
  · unfold F_law_list
    rw [bsome, law_list_loop cs _ h (by rw [List.length_singleton]; omega), bsome]
theorem nums_two {xs : List Int} (h : xs.length ≤ 3) : Two 4 (F_numbers_code xs) (F_law_counted xs) := by
  refine ⟨[(xs.length : Int)] ++ xs, ?_, ?_, by rw [List.length_append, List.length_singleton]; omega⟩
  · unfold F_numbers_code
    rw [if_pos (by (try simp only [List.length_append, List.length_cons, List.length_nil]); omega)]
  · unfold F_law_counted
    rw [if_pos (by (try simp only [List.length_append, List.length_cons, List.length_nil]); omega)]
theorem text_two {t : Str} (h : t.length ≤ 3) : Two 4 (F_string_code t) (F_law_text t) := by
  have e : mapO (fun (x : Str) => (if x.length = 1 then some ((x.cps.getD 0 0 : Nat) : Int) else none : Option Int)) (t.cps.toList.map fun c => (⟨#[c]⟩ : Str)) = some (t.cps.toList.map fun (c : Nat) => (c : Int)) := by
    rw [mapO_eq (g := fun x : Str => ((x.cps.getD 0 0 : Nat) : Int)) fun x hx => by
      obtain ⟨c, _, rfl⟩ := List.mem_map.mp hx
      rw [if_pos str_len1]]
    rw [List.map_map]
    rfl
  have l : (t.cps.toList.map fun (c : Nat) => (c : Int)).length = t.length := by rw [List.length_map, Array.length_toList]; rfl
  refine ⟨[(t.length : Int)] ++ t.cps.toList.map fun (c : Nat) => (c : Int), ?_, ?_, by rw [List.length_append, List.length_singleton, l]; omega⟩
  · unfold F_string_code
    rw [e, bsome]
    unfold F_numbers_code
    rw [l, if_pos (by rw [List.length_singleton]; omega), bsome]
  · unfold F_law_text
    rw [e, bsome, l, if_pos (by rw [List.length_singleton]; omega)]
def ValOk : Val → Prop
  | .s t => t.length ≤ 3
  | _ => True
theorem val_two {v : Val} (h : ValOk v) : Two 5 (F_value_code v) (F_law_value v) := by
  have k1 : (("flag" : Str) = "integer") = False := eq_false (by decide +kernel)
  have k2 : (("flag" : Str) = "text") = False := eq_false (by decide +kernel)
  have k3 : (("text" : Str) = "integer") = False := eq_false (by decide +kernel)
  cases v with
  | i x => exact ⟨[0, x], by simp only [F_value_code, F_kind_of_value, Val.is_bool, Val.is_int, Val.p_i, Bool.false_eq_true, if_false, if_true, decide_true, TP.bsome], by simp only [F_law_value, Val.is_bool, Val.is_str, Val.p_i, Bool.false_eq_true, if_false, TP.bsome], by simp⟩
  | b x => exact ⟨[2, if x = true then 1 else 0], by simp only [F_value_code, F_kind_of_value, Val.is_bool, Val.p_b, Bool.false_eq_true, if_false, if_true, k1, k2, decide_false, TP.bsome], by simp only [F_law_value, Val.is_bool, Val.p_b, if_true, TP.bsome], by simp⟩
  | s t =>
    obtain ⟨c, e1, e2, l⟩ := text_two (show t.length ≤ 3 from h)
    refine ⟨[1] ++ c, ?_, ?_, by rw [List.length_append, List.length_singleton]; omega⟩
    · simp only [F_value_code, F_kind_of_value, Val.is_bool, Val.is_int, Val.p_s, Bool.false_eq_true, if_false, if_true, k3, decide_true, decide_false, TP.bsome, e1]
      rw [if_pos (by (try simp only [List.length_append, List.length_cons, List.length_nil]); omega)]
    · simp only [F_law_value, Val.is_bool, Val.is_str, Val.p_s, Bool.false_eq_true, if_false, if_true, TP.bsome, e2]
      rw [if_pos (by (try simp only [List.length_append, List.length_cons, List.length_nil]); omega)]
theorem word_two {x : Str × Int} (h : x.1.length ≤ 3) : Two 5 ((F_string_code x.1).bind fun r => if r.length + ([x.2] : List Int).length ≤ 16777216 then some (r ++ ([x.2] : List Int)) else none) ((F_law_text x.1).bind fun r => if r.length + ([x.2] : List Int).length ≤ 16777216 then some (r ++ ([x.2] : List Int)) else none) := by
  obtain ⟨c, e1, e2, l⟩ := text_two h
  refine ⟨c ++ [x.2], ?_, ?_, by rw [List.length_append, List.length_singleton]; omega⟩
  · rw [e1, bsome, if_pos (by (try simp only [List.length_append, List.length_cons, List.length_nil]); omega)]
  · rw [e2, bsome, if_pos (by (try simp only [List.length_append, List.length_cons, List.length_nil]); omega)]
def lacks : List Str := ["nobody", "some", "all"]
def FactOk : Fact → Prop
  | .parts p => p.parts.length ≤ 2 ∧ ∀ x ∈ p.parts, x.centre.length ≤ 3
  | .cell c => c.near.length ≤ 3 ∧ c.rival.length ≤ 3
  | .box c => c.low.length ≤ 3 ∧ c.high.length ≤ 3
  | .norms _ => True
  | .differ d => d.centre.length ≤ 3
  | .range r => r.field.length ≤ 3 ∧ ∃ j, idxO lacks r.lack = some j
  | .values r => r.field.length ≤ 3 ∧ (r.choices.length ≤ 2 ∧ ∀ x ∈ r.choices, ValOk x) ∧ ∃ j, idxO lacks r.lack = some j
  | .counts c => c.words.length ≤ 2 ∧ ∀ x ∈ c.words, x.1.length ≤ 3
  | .names n => n.low.length ≤ 3 ∧ n.high.length ≤ 3
theorem part_two {p : Part} (h : p.centre.length ≤ 3) : Two 6 (F_part_code p) ((F_law_counted p.centre).bind fun r => if ([p.start] : List Int).length + r.length ≤ 16777216 then if (([p.start] : List Int) ++ r).length + ([p.radius] : List Int).length ≤ 16777216 then some ((([p.start] : List Int) ++ r) ++ ([p.radius] : List Int)) else none else none) := by
  obtain ⟨c, e1, e2, l⟩ := nums_two h
  refine ⟨([p.start] ++ c) ++ [p.radius], ?_, ?_, by simp only [List.length_append, List.length_singleton]; omega⟩
  · unfold F_part_code
    rw [e1, bsome, if_pos (by (try simp only [List.length_append, List.length_cons, List.length_nil]); omega), if_pos (by (try simp only [List.length_append, List.length_cons, List.length_nil]); omega)]
  · rw [e2, bsome, if_pos (by (try simp only [List.length_append, List.length_cons, List.length_nil]); omega), if_pos (by (try simp only [List.length_append, List.length_cons, List.length_nil]); omega)]
theorem two_bind {k : Nat} {a b : Option (List Int)} (h : Two k a b) : Two k (a.bind fun r => some r) (b.bind fun r => some r) := by
  obtain ⟨c, e1, e2, l⟩ := h
  exact ⟨c, by rw [e1, bsome], by rw [e2, bsome], l⟩
theorem two_left {k : Nat} {a b : Option (List Int)} (h : Two k a b) : Two k (a.bind fun r => some r) b := by
  obtain ⟨c, e1, e2, l⟩ := h
  exact ⟨c, by rw [e1, bsome], e2, l⟩
theorem fact_two {f : Fact} (h : FactOk f) : Two 30 (F_fact_code f) (F_law_fact_due f) := by
  cases f with
  | parts p =>
    obtain ⟨cs, e1, e2, l1, l2⟩ := map_two fun x hx => two_left (part_two (h.2 x hx))
    obtain ⟨c, e3, e4, l⟩ := list_two 2 6 (by rw [l1]; exact h.1) l2 (by decide) 13 (by decide)
    refine ⟨[1] ++ c, ?_, ?_, by rw [List.length_append, List.length_singleton]; omega⟩
    · simp only [F_fact_code, Fact.is_Parts, Fact.is_Cell, Fact.is_Box, Fact.is_Norms, Fact.is_Differ, Fact.is_Range, Fact.is_Values, Fact.is_Counts, Fact.p_parts, Fact.p_cell, Fact.p_box, Fact.p_norms, Fact.p_differ, Fact.p_range, Fact.p_values, Fact.p_counts, Fact.p_names, TP.bsome, Bool.false_eq_true, if_true, if_false, e1, e3]
      rw [if_pos (by (try simp only [List.length_append, List.length_cons, List.length_nil]); omega)]
    · simp only [F_law_fact_due, Fact.is_Parts, Fact.is_Cell, Fact.is_Box, Fact.is_Norms, Fact.is_Differ, Fact.is_Range, Fact.is_Values, Fact.is_Counts, Fact.p_parts, Fact.p_cell, Fact.p_box, Fact.p_norms, Fact.p_differ, Fact.p_range, Fact.p_values, Fact.p_counts, Fact.p_names, TP.bsome, Bool.false_eq_true, if_true, if_false, e2, e4]
      rw [if_pos (by (try simp only [List.length_append, List.length_cons, List.length_nil]); omega)]
  | cell p =>
    obtain ⟨c, e1, e2, l1⟩ := nums_two h.1
    obtain ⟨d, e3, e4, l2⟩ := nums_two h.2
    refine ⟨([2] ++ c) ++ d, ?_, ?_, by simp only [List.length_append, List.length_singleton]; omega⟩
    · simp only [F_fact_code, Fact.is_Parts, Fact.is_Cell, Fact.is_Box, Fact.is_Norms, Fact.is_Differ, Fact.is_Range, Fact.is_Values, Fact.is_Counts, Fact.p_parts, Fact.p_cell, Fact.p_box, Fact.p_norms, Fact.p_differ, Fact.p_range, Fact.p_values, Fact.p_counts, Fact.p_names, TP.bsome, Bool.false_eq_true, if_true, if_false, e1, e3]
      rw [if_pos (by (try simp only [List.length_append, List.length_cons, List.length_nil]); omega), if_pos (by (try simp only [List.length_append, List.length_cons, List.length_nil]); omega)]
    · simp only [F_law_fact_due, Fact.is_Parts, Fact.is_Cell, Fact.is_Box, Fact.is_Norms, Fact.is_Differ, Fact.is_Range, Fact.is_Values, Fact.is_Counts, Fact.p_parts, Fact.p_cell, Fact.p_box, Fact.p_norms, Fact.p_differ, Fact.p_range, Fact.p_values, Fact.p_counts, Fact.p_names, TP.bsome, Bool.false_eq_true, if_true, if_false, e2, e4]
      rw [if_pos (by (try simp only [List.length_append, List.length_cons, List.length_nil]); omega), if_pos (by (try simp only [List.length_append, List.length_cons, List.length_nil]); omega)]
  | box p =>
    obtain ⟨c, e1, e2, l1⟩ := nums_two h.1
    obtain ⟨d, e3, e4, l2⟩ := nums_two h.2
    refine ⟨([3] ++ c) ++ d, ?_, ?_, by simp only [List.length_append, List.length_singleton]; omega⟩
    · simp only [F_fact_code, Fact.is_Parts, Fact.is_Cell, Fact.is_Box, Fact.is_Norms, Fact.is_Differ, Fact.is_Range, Fact.is_Values, Fact.is_Counts, Fact.p_parts, Fact.p_cell, Fact.p_box, Fact.p_norms, Fact.p_differ, Fact.p_range, Fact.p_values, Fact.p_counts, Fact.p_names, TP.bsome, Bool.false_eq_true, if_true, if_false, e1, e3]
      rw [if_pos (by (try simp only [List.length_append, List.length_cons, List.length_nil]); omega), if_pos (by (try simp only [List.length_append, List.length_cons, List.length_nil]); omega)]
    · simp only [F_law_fact_due, Fact.is_Parts, Fact.is_Cell, Fact.is_Box, Fact.is_Norms, Fact.is_Differ, Fact.is_Range, Fact.is_Values, Fact.is_Counts, Fact.p_parts, Fact.p_cell, Fact.p_box, Fact.p_norms, Fact.p_differ, Fact.p_range, Fact.p_values, Fact.p_counts, Fact.p_names, TP.bsome, Bool.false_eq_true, if_true, if_false, e2, e4]
      rw [if_pos (by (try simp only [List.length_append, List.length_cons, List.length_nil]); omega), if_pos (by (try simp only [List.length_append, List.length_cons, List.length_nil]); omega)]
  | norms p => exact ⟨[4, p.low, p.high], by simp only [F_fact_code, Fact.is_Parts, Fact.is_Cell, Fact.is_Box, Fact.is_Norms, Fact.is_Differ, Fact.is_Range, Fact.is_Values, Fact.is_Counts, Fact.p_parts, Fact.p_cell, Fact.p_box, Fact.p_norms, Fact.p_differ, Fact.p_range, Fact.p_values, Fact.p_counts, Fact.p_names, TP.bsome, Bool.false_eq_true, if_true, if_false], by simp only [F_law_fact_due, Fact.is_Parts, Fact.is_Cell, Fact.is_Box, Fact.is_Norms, Fact.is_Differ, Fact.is_Range, Fact.is_Values, Fact.is_Counts, Fact.p_parts, Fact.p_cell, Fact.p_box, Fact.p_norms, Fact.p_differ, Fact.p_range, Fact.p_values, Fact.p_counts, Fact.p_names, TP.bsome, Bool.false_eq_true, if_true, if_false], by simp⟩
  | differ p =>
    obtain ⟨c, e1, e2, l1⟩ := nums_two (show p.centre.length ≤ 3 from h)
    refine ⟨([5] ++ c) ++ [p.most], ?_, ?_, by simp only [List.length_append, List.length_singleton]; omega⟩
    · simp only [F_fact_code, Fact.is_Parts, Fact.is_Cell, Fact.is_Box, Fact.is_Norms, Fact.is_Differ, Fact.is_Range, Fact.is_Values, Fact.is_Counts, Fact.p_parts, Fact.p_cell, Fact.p_box, Fact.p_norms, Fact.p_differ, Fact.p_range, Fact.p_values, Fact.p_counts, Fact.p_names, TP.bsome, Bool.false_eq_true, if_true, if_false, e1]
      rw [if_pos (by (try simp only [List.length_append, List.length_cons, List.length_nil]); omega), if_pos (by (try simp only [List.length_append, List.length_cons, List.length_nil]); omega)]
    · simp only [F_law_fact_due, Fact.is_Parts, Fact.is_Cell, Fact.is_Box, Fact.is_Norms, Fact.is_Differ, Fact.is_Range, Fact.is_Values, Fact.is_Counts, Fact.p_parts, Fact.p_cell, Fact.p_box, Fact.p_norms, Fact.p_differ, Fact.p_range, Fact.p_values, Fact.p_counts, Fact.p_names, TP.bsome, Bool.false_eq_true, if_true, if_false, e2]
      rw [if_pos (by (try simp only [List.length_append, List.length_cons, List.length_nil]); omega), if_pos (by (try simp only [List.length_append, List.length_cons, List.length_nil]); omega)]
  | range p =>
    obtain ⟨c, e1, e2, l1⟩ := text_two h.1
    obtain ⟨j, ej⟩ := h.2
    unfold lacks at ej
    refine ⟨([6] ++ c) ++ [p.low, p.high, (j : Int)], ?_, ?_, by simp only [List.length_append, List.length_singleton, List.length_cons, List.length_nil]; omega⟩
    · simp only [F_fact_code, Fact.is_Parts, Fact.is_Cell, Fact.is_Box, Fact.is_Norms, Fact.is_Differ, Fact.is_Range, Fact.is_Values, Fact.is_Counts, Fact.p_parts, Fact.p_cell, Fact.p_box, Fact.p_norms, Fact.p_differ, Fact.p_range, Fact.p_values, Fact.p_counts, Fact.p_names, TP.bsome, Bool.false_eq_true, if_true, if_false, e1, ej]
      rw [if_pos (by (try simp only [List.length_append, List.length_cons, List.length_nil]); omega), if_pos (by (try simp only [List.length_append, List.length_cons, List.length_nil]); omega)]
    · simp only [F_law_fact_due, Fact.is_Parts, Fact.is_Cell, Fact.is_Box, Fact.is_Norms, Fact.is_Differ, Fact.is_Range, Fact.is_Values, Fact.is_Counts, Fact.p_parts, Fact.p_cell, Fact.p_box, Fact.p_norms, Fact.p_differ, Fact.p_range, Fact.p_values, Fact.p_counts, Fact.p_names, TP.bsome, Bool.false_eq_true, if_true, if_false, e2, ej]
      rw [if_pos (by (try simp only [List.length_append, List.length_cons, List.length_nil]); omega), if_pos (by (try simp only [List.length_append, List.length_cons, List.length_nil]); omega)]
  | values p =>
    obtain ⟨c, e1, e2, l1⟩ := text_two h.1
    obtain ⟨j, ej⟩ := h.2.2
    unfold lacks at ej
    obtain ⟨cs, e3, e4, l2, l3⟩ := map_two fun x hx => two_bind (val_two (h.2.1.2 x hx))
    obtain ⟨d, e5, e6, l⟩ := list_two 2 5 (by rw [l2]; exact h.2.1.1) l3 (by decide) 11 (by decide)
    refine ⟨(([7] ++ c) ++ d) ++ [(j : Int)], ?_, ?_, by simp only [List.length_append, List.length_singleton, List.length_cons, List.length_nil]; omega⟩
    · simp only [F_fact_code, Fact.is_Parts, Fact.is_Cell, Fact.is_Box, Fact.is_Norms, Fact.is_Differ, Fact.is_Range, Fact.is_Values, Fact.is_Counts, Fact.p_parts, Fact.p_cell, Fact.p_box, Fact.p_norms, Fact.p_differ, Fact.p_range, Fact.p_values, Fact.p_counts, Fact.p_names, TP.bsome, Bool.false_eq_true, if_true, if_false, e1, e3, e5, ej]
      rw [if_pos (by (try simp only [List.length_append, List.length_cons, List.length_nil]); omega), if_pos (by (try simp only [List.length_append, List.length_cons, List.length_nil]); omega), if_pos (by (try simp only [List.length_append, List.length_cons, List.length_nil]); omega)]
    · simp only [F_law_fact_due, Fact.is_Parts, Fact.is_Cell, Fact.is_Box, Fact.is_Norms, Fact.is_Differ, Fact.is_Range, Fact.is_Values, Fact.is_Counts, Fact.p_parts, Fact.p_cell, Fact.p_box, Fact.p_norms, Fact.p_differ, Fact.p_range, Fact.p_values, Fact.p_counts, Fact.p_names, TP.bsome, Bool.false_eq_true, if_true, if_false, e2, e4, e6, ej]
      rw [if_pos (by (try simp only [List.length_append, List.length_cons, List.length_nil]); omega), if_pos (by (try simp only [List.length_append, List.length_cons, List.length_nil]); omega), if_pos (by (try simp only [List.length_append, List.length_cons, List.length_nil]); omega)]
  | counts p =>
    obtain ⟨cs, e1, e2, l1, l2⟩ := map_two fun x hx => word_two (h.2 x hx)
    obtain ⟨c, e3, e4, l⟩ := list_two 2 5 (by rw [l1]; exact h.1) l2 (by decide) 11 (by decide)
    refine ⟨[8] ++ c, ?_, ?_, by rw [List.length_append, List.length_singleton]; omega⟩
    · simp only [F_fact_code, F_words_code, Fact.is_Parts, Fact.is_Cell, Fact.is_Box, Fact.is_Norms, Fact.is_Differ, Fact.is_Range, Fact.is_Values, Fact.is_Counts, Fact.p_parts, Fact.p_cell, Fact.p_box, Fact.p_norms, Fact.p_differ, Fact.p_range, Fact.p_values, Fact.p_counts, Fact.p_names, TP.bsome, Bool.false_eq_true, if_true, if_false, e1, e3]
      rw [if_pos (by (try simp only [List.length_append, List.length_cons, List.length_nil]); omega)]
    · simp only [F_law_fact_due, Fact.is_Parts, Fact.is_Cell, Fact.is_Box, Fact.is_Norms, Fact.is_Differ, Fact.is_Range, Fact.is_Values, Fact.is_Counts, Fact.p_parts, Fact.p_cell, Fact.p_box, Fact.p_norms, Fact.p_differ, Fact.p_range, Fact.p_values, Fact.p_counts, Fact.p_names, TP.bsome, Bool.false_eq_true, if_true, if_false, e2, e4]
      rw [if_pos (by (try simp only [List.length_append, List.length_cons, List.length_nil]); omega)]
  | names p =>
    obtain ⟨c, e1, e2, l1⟩ := text_two h.1
    obtain ⟨d, e3, e4, l2⟩ := text_two h.2
    refine ⟨([9] ++ c) ++ d, ?_, ?_, by simp only [List.length_append, List.length_singleton]; omega⟩
    · simp only [F_fact_code, Fact.is_Parts, Fact.is_Cell, Fact.is_Box, Fact.is_Norms, Fact.is_Differ, Fact.is_Range, Fact.is_Values, Fact.is_Counts, Fact.p_parts, Fact.p_cell, Fact.p_box, Fact.p_norms, Fact.p_differ, Fact.p_range, Fact.p_values, Fact.p_counts, Fact.p_names, TP.bsome, Bool.false_eq_true, if_true, if_false, e1, e3]
      rw [if_pos (by (try simp only [List.length_append, List.length_cons, List.length_nil]); omega), if_pos (by (try simp only [List.length_append, List.length_cons, List.length_nil]); omega)]
    · simp only [F_law_fact_due, Fact.is_Parts, Fact.is_Cell, Fact.is_Box, Fact.is_Norms, Fact.is_Differ, Fact.is_Range, Fact.is_Values, Fact.is_Counts, Fact.p_parts, Fact.p_cell, Fact.p_box, Fact.p_norms, Fact.p_differ, Fact.p_range, Fact.p_values, Fact.p_counts, Fact.p_names, TP.bsome, Bool.false_eq_true, if_true, if_false, e2, e4]
      rw [if_pos (by (try simp only [List.length_append, List.length_cons, List.length_nil]); omega), if_pos (by (try simp only [List.length_append, List.length_cons, List.length_nil]); omega)]
def RegOk (r : Region) : Prop := r.facts.length ≤ 2 ∧ ∀ f ∈ r.facts, FactOk f
theorem region_two {r : Region} (h : RegOk r) : Two 63 (F_region_code r) (F_law_region_due r) := by
  obtain ⟨cs, e1, e2, l1, l2⟩ := map_two fun x hx => two_bind (fact_two (h.2 x hx))
  obtain ⟨c, e3, e4, l⟩ := list_two 2 30 (by rw [l1]; exact h.1) l2 (by decide) 61 (by decide)
  unfold F_region_code F_law_region_due
  cases hp : r.parent with
  | none =>
    refine ⟨[0] ++ c, ?_, ?_, by rw [List.length_append, List.length_singleton]; omega⟩
    · rw [if_pos (by rfl), bsome]
      unfold F_maybe_code
      rw [if_pos (by rfl), bsome, e1, bsome, e3, bsome, if_pos (by (try simp only [List.length_append, List.length_cons, List.length_nil]); omega)]
    · rw [if_neg (by intro z; cases z), bsome, e2, bsome, e4, bsome, if_pos (by (try simp only [List.length_append, List.length_cons, List.length_nil]); omega)]
  | some n =>
    refine ⟨[1, n] ++ c, ?_, ?_, by simp only [List.length_append, List.length_cons, List.length_nil]; omega⟩
    · rw [if_neg (by intro z; cases z), bsome, bsome]
      unfold F_maybe_code
      rw [if_neg (by intro z; cases z), bsome, if_pos (by (try simp only [List.length_append, List.length_cons, List.length_nil]); omega), bsome, e1, bsome, e3, bsome, if_pos (by (try simp only [List.length_append, List.length_cons, List.length_nil]); omega)]
      rfl
    · rw [if_pos (by rfl), bsome, bsome, bsome, e2, bsome, e4, bsome, if_pos (by (try simp only [List.length_append, List.length_cons, List.length_nil]); omega)]
def RecOk (r : Record) : Prop := r.name.length ≤ 3 ∧ r.vector.length ≤ 3 ∧ (r.fields.length ≤ 2 ∧ ∀ x ∈ r.fields, x.1.length ≤ 3 ∧ ValOk x.2) ∧ r.words.length ≤ 2 ∧ ∀ x ∈ r.words, x.1.length ≤ 3
theorem field_two {x : Str × Val} (h : x.1.length ≤ 3 ∧ ValOk x.2) : Two 9 ((F_string_code x.1).bind fun r => (F_value_code x.2).bind fun r2 => if r.length + r2.length ≤ 16777216 then some (r ++ r2) else none) ((F_law_text x.1).bind fun r => (F_law_value x.2).bind fun r2 => if r.length + r2.length ≤ 16777216 then some (r ++ r2) else none) := by
  obtain ⟨c, e1, e2, l⟩ := text_two h.1
  obtain ⟨d, e3, e4, l2⟩ := val_two h.2
  refine ⟨c ++ d, ?_, ?_, by rw [List.length_append]; omega⟩
  · rw [e1, bsome, e3, bsome, if_pos (by omega)]
  · rw [e2, bsome, e4, bsome, if_pos (by omega)]
theorem record_two {r : Record} (h : RecOk r) : Two 40 (F_record_code r) (F_law_record_due r) := by
  obtain ⟨h1, h2, h3, h4, h5⟩ := h
  obtain ⟨a, a1, a2, al⟩ := text_two h1
  obtain ⟨b, b1, b2, bl⟩ := nums_two h2
  obtain ⟨cs, e1, e2, l1, l2⟩ := map_two fun x hx => field_two (h3.2 x hx)
  obtain ⟨c, e3, e4, l⟩ := list_two 2 9 (by rw [l1]; exact h3.1) l2 (by decide) 19 (by decide)
  obtain ⟨ds, d1, d2, l3, l4⟩ := map_two fun x hx => word_two (h5 x hx)
  obtain ⟨d, d3, d4, l5⟩ := list_two 2 5 (by rw [l3]; exact h4) l4 (by decide) 11 (by decide)
  refine ⟨((a ++ b) ++ c) ++ d, ?_, ?_, by simp only [List.length_append]; omega⟩
  · unfold F_record_code F_words_code
    rw [e1, bsome, e3, bsome, a1, bsome, b1, bsome, if_pos (by (try simp only [List.length_append, List.length_cons, List.length_nil]); omega), if_pos (by (try simp only [List.length_append, List.length_cons, List.length_nil]); omega), d1, bsome, d3, bsome, bsome, if_pos (by (try simp only [List.length_append, List.length_cons, List.length_nil]); omega)]
  · unfold F_law_record_due
    rw [a2, bsome, b2, bsome, if_pos (by (try simp only [List.length_append, List.length_cons, List.length_nil]); omega), e2, bsome, e4, bsome, if_pos (by (try simp only [List.length_append, List.length_cons, List.length_nil]); omega), bsome, d2, bsome, d4, bsome, if_pos (by (try simp only [List.length_append, List.length_cons, List.length_nil]); omega)]
/-! what is drawn -/
theorem string_ex (s : DS) : ∃ t s', F_law_string s = some (t, s') ∧ t.length ≤ 3 := by
  unfold F_law_string
  obtain ⟨t, e, hm⟩ := atI_lit (xs := [("" : Str), ("a" : Str), ("red" : Str), ("x y" : Str), ("a\\b" : Str), ("~!" : Str)]) (nx_ge s (m := 6) (by decide)) (nx_lt s (m := 6) (by decide))
  rw [e, bsome]
  have key : ∀ t ∈ [("" : Str), ("a" : Str), ("red" : Str), ("x y" : Str), ("a\\b" : Str), ("~!" : Str)], t.length ≤ 3 := by decide +kernel
  exact ⟨t, _, rfl, key t hm⟩
theorem numbers_ex (s : DS) : ∃ xs s', F_law_numbers s = some (xs, s') ∧ xs.length ≤ 3 := by
  unfold F_law_numbers
  have b0 := nx_ge s (m := 4) (by decide)
  have b1 := nx_lt s (m := 4) (by decide)
  rw [if_pos (rangeOk_of (by omega) (by omega) (by omega) (by omega))]
  obtain ⟨ys, s', e, l, _⟩ := mapS_mem (f := fun (x_13 : Int) (s_14 : DS) => (some (((nxV s_14 (9 : Int)) - (4 : Int)), (nxS s_14 (9 : Int))) : Option (Int × DS))) (R := fun _ => True) (xs := rangeZ 0 (nxV s 4)) (nxS s 4) (fun x _ s => ⟨_, _, rfl, trivial⟩)
  rw [rangeZ_len] at l
  rw [e, bsome]
  exact ⟨ys, s', rfl, by omega⟩
theorem worth_ex (s : DS) : ∃ v s', F_law_worth s = some (v, s') ∧ ValOk v := by
  unfold F_law_worth
  obtain ⟨t, s1, e, h⟩ := string_ex (nxS s 9)
  rw [e, bsome]
  dsimp only
  obtain ⟨v, e2, hm⟩ := atI_lit (xs := [(Val.i ((nxV s (9 : Int)) - (4 : Int))), (Val.s t), (Val.b (decide ((nxV s1 (2 : Int)) = (0 : Int))))]) (nx_ge (nxS s1 2) (m := 3) (by decide)) (nx_lt (nxS s1 2) (m := 3) (by decide))
  rw [e2, bsome]
  refine ⟨v, _, rfl, ?_⟩
  rcases List.mem_cons.mp hm with rfl | hm
  · exact trivial
  · rcases List.mem_cons.mp hm with rfl | hm
    · exact h
    · rw [List.mem_singleton.mp hm]; exact trivial
theorem some_ex {α : Type} {f : Int → DS → Option (α × DS)} {R : α → Prop} (n : Int) (h0 : 0 ≤ n) (s : DS) (h : ∀ x s, ∃ y s', f x s = some (y, s') ∧ R y) : ∃ ys s', mapS f (rangeZ 0 n) s = some (ys, s') ∧ (ys.length : Int) = n ∧ ∀ y ∈ ys, R y := by
  obtain ⟨ys, s', e, l, hy⟩ := mapS_mem (f := f) (R := R) (xs := rangeZ 0 n) s (fun x _ s => h x s)
  rw [rangeZ_len] at l
  exact ⟨ys, s', e, by omega, hy⟩
theorem record_ex (s : DS) : ∃ r s', F_law_record s = some (r, s') ∧ RecOk r := by
  unfold F_law_record
  have b0 := nx_ge s (m := 3) (by decide)
  have b1 := nx_lt s (m := 3) (by decide)
  rw [if_pos (rangeOk_of (by omega) (by omega) (by omega) (by omega))]
  obtain ⟨fs, s1, e1, l1, h1⟩ := some_ex (f := fun (x_57 : Int) (s_58 : DS) => ((F_law_string s_58).bind fun r_61 => (F_law_worth r_61.2).bind fun r_63 => some ((r_61.1, r_63.1), r_63.2) : Option ((Str × Val) × DS))) (R := fun x => x.1.length ≤ 3 ∧ ValOk x.2) (nxV s 3) b0 (nxS s 3) (fun x s => by
    obtain ⟨t, s1, e1, h1⟩ := string_ex s
    obtain ⟨v, s2, e2, h2⟩ := worth_ex s1
    rw [e1, bsome]
    dsimp only
    rw [e2, bsome]
    exact ⟨_, _, rfl, h1, h2⟩)
  rw [e1, bsome]
  dsimp only
  have c0 := nx_ge s1 (m := 3) (by decide)
  have c1 := nx_lt s1 (m := 3) (by decide)
  rw [if_pos (rangeOk_of (by omega) (by omega) (by omega) (by omega))]
  obtain ⟨ws, s2, e2, l2, h2⟩ := some_ex (f := fun (x_70 : Int) (s_71 : DS) => ((F_law_string s_71).bind fun r_74 => some ((r_74.1, ((1 : Int) + (nxV r_74.2 (9 : Int)))), (nxS r_74.2 (9 : Int))) : Option ((Str × Int) × DS))) (R := fun x => x.1.length ≤ 3) (nxV s1 3) c0 (nxS s1 3) (fun x s => by
    obtain ⟨t, s1, e1, h1⟩ := string_ex s
    rw [e1, bsome]
    exact ⟨_, _, rfl, h1⟩)
  rw [e2, bsome]
  dsimp only
  obtain ⟨t, s3, e3, h3⟩ := string_ex s2
  rw [e3, bsome]
  dsimp only
  obtain ⟨xs, s4, e4, h4⟩ := numbers_ex s3
  rw [e4, bsome]
  exact ⟨_, _, rfl, h3, h4, ⟨by show fs.length ≤ 2; omega, h1⟩, by show ws.length ≤ 2; omega, h2⟩
theorem counts_ex : ∀ (xs : List (Str × Int)) (w : List (Str × Int)), w.length + xs.length ≤ 1000 → ∃ w', forF L_greatest_counts_1 xs w = some w'
  | [], w, _ => ⟨w, rfl⟩
  | x :: r, w, h => by
    rw [List.length_cons] at h
    have e : L_greatest_counts_1 x w = some (putA w x.1 (max x.2 ((getA w x.1).getD 0))) := by unfold L_greatest_counts_1; rw [if_pos (by omega)]
    show ∃ w', (L_greatest_counts_1 x w).bind _ = some w'
    rw [e, bsome]
    have := putA_len w x.1 (max x.2 ((getA w x.1).getD 0))
    exact counts_ex r _ (by omega)
theorem fact_ex (s : DS) : ∃ f s', F_law_fact s = some (f, s') ∧ FactOk f := by
  unfold F_law_fact
  have k0 := nx_ge s (m := 9) (by decide)
  have k1 := nx_lt s (m := 9) (by decide)
  generalize nxV s 9 = k at k0 k1
  generalize nxS s 9 = s
  have b0 := nx_ge s (m := 3) (by decide)
  have b1 := nx_lt s (m := 3) (by decide)
  by_cases q : k = 0
  · rw [if_pos (decide_eq_true q), if_pos (rangeOk_of (by omega) (by omega) (by omega) (by omega))]
    obtain ⟨ps, s1, e1, l1, h1⟩ := some_ex (f := fun (x_199 : Int) (s_200 : DS) => ((F_law_numbers (nxS s_200 (4 : Int))).bind fun r_203 => some ((F_Part___init__ (nxV s_200 (4 : Int)) r_203.1 (nxV r_203.2 (90 : Int))), (nxS r_203.2 (90 : Int))) : Option (Part × DS))) (R := fun x => x.centre.length ≤ 3) (nxV s 3) b0 (nxS s 3) (fun x s => by
      obtain ⟨t, s1, e1, h1⟩ := numbers_ex (nxS s 4)
      rw [e1, bsome]
      exact ⟨_, _, rfl, h1⟩)
    rw [e1, bsome]
    exact ⟨_, _, rfl, by show ps.length ≤ 2; omega, h1⟩
  rw [if_neg (fun z => q (of_decide_eq_true z))]
  by_cases q : k = 1
  · rw [if_pos (decide_eq_true q)]
    obtain ⟨a, s1, e1, h1⟩ := numbers_ex s
    rw [e1, bsome]
    dsimp only
    obtain ⟨b, s2, e2, h2⟩ := numbers_ex s1
    rw [e2, bsome]
    exact ⟨_, _, rfl, h1, h2⟩
  rw [if_neg (fun z => q (of_decide_eq_true z))]
  by_cases q : k = 2
  · rw [if_pos (decide_eq_true q)]
    obtain ⟨a, s1, e1, h1⟩ := numbers_ex s
    rw [e1, bsome]
    dsimp only
    obtain ⟨b, s2, e2, h2⟩ := numbers_ex s1
    rw [e2, bsome]
    exact ⟨_, _, rfl, h1, h2⟩
  rw [if_neg (fun z => q (of_decide_eq_true z))]
  by_cases q : k = 3
  · rw [if_pos (decide_eq_true q)]
    exact ⟨_, _, rfl, trivial⟩
  rw [if_neg (fun z => q (of_decide_eq_true z))]
  by_cases q : k = 4
  · rw [if_pos (decide_eq_true q)]
    obtain ⟨a, s1, e1, h1⟩ := numbers_ex s
    rw [e1, bsome]
    exact ⟨_, _, rfl, h1⟩
  rw [if_neg (fun z => q (of_decide_eq_true z))]
  obtain ⟨la, e0, hm⟩ := atI_lit (xs := [("nobody" : Str), ("some" : Str), ("all" : Str)]) b0 b1
  have key : ∀ t ∈ [("nobody" : Str), ("some" : Str), ("all" : Str)], (idxO lacks t).isSome = true := by decide +kernel
  have hla := Option.isSome_iff_exists.mp (key la hm)
  rw [e0, bsome]
  generalize nxS s 3 = s
  by_cases q : k = 5
  · rw [if_pos (decide_eq_true q)]
    obtain ⟨a, s1, e1, h1⟩ := string_ex s
    rw [e1, bsome]
    exact ⟨_, _, rfl, h1, hla⟩
  rw [if_neg (fun z => q (of_decide_eq_true z))]
  by_cases q : k = 6
  · rw [if_pos (decide_eq_true q)]
    obtain ⟨a, s1, e1, h1⟩ := string_ex s
    rw [e1, bsome]
    dsimp only
    have c0 := nx_ge s1 (m := 3) (by decide)
    have c1 := nx_lt s1 (m := 3) (by decide)
    rw [if_pos (rangeOk_of (by omega) (by omega) (by omega) (by omega))]
    obtain ⟨vs, s2, e2, l2, h2⟩ := some_ex (f := fun (x_232 : Int) (s_233 : DS) => ((F_law_worth s_233).bind fun r_236 => some (r_236.1, r_236.2) : Option (Val × DS))) (R := ValOk) (nxV s1 3) c0 (nxS s1 3) (fun x s => by
      obtain ⟨t, s1, e1, h1⟩ := worth_ex s
      rw [e1, bsome]
      exact ⟨_, _, rfl, h1⟩)
    rw [e2, bsome]
    exact ⟨_, _, rfl, h1, ⟨by show vs.length ≤ 2; omega, h2⟩, hla⟩
  rw [if_neg (fun z => q (of_decide_eq_true z))]
  have c0 := nx_ge s (m := 3) (by decide)
  have c1 := nx_lt s (m := 3) (by decide)
  by_cases q : k = 7
  · rw [if_pos (decide_eq_true q), if_pos (rangeOk_of (by omega) (by omega) (by omega) (by omega))]
    obtain ⟨ws, s2, e2, l2, h2⟩ := some_ex (f := fun (x_242 : Int) (s_243 : DS) => ((F_law_string s_243).bind fun r_246 => some ((r_246.1, (nxV r_246.2 (9 : Int))), (nxS r_246.2 (9 : Int))) : Option ((Str × Int) × DS))) (R := fun x => x.1.length ≤ 3) (nxV s 3) c0 (nxS s 3) (fun x s => by
      obtain ⟨t, s1, e1, h1⟩ := string_ex s
      rw [e1, bsome]
      exact ⟨_, _, rfl, h1⟩)
    rw [e2, bsome]
    dsimp only
    unfold F_Counts___init__ F_greatest_counts
    obtain ⟨w, ew⟩ := counts_ex ws [] (by simp; omega)
    rw [ew, bsome, bsome, bsome]
    exact ⟨_, _, rfl, by show ws.length ≤ 2; omega, h2⟩
  rw [if_neg (fun z => q (of_decide_eq_true z))]
  obtain ⟨a, s1, e1, h1⟩ := string_ex s
  rw [e1, bsome]
  dsimp only
  obtain ⟨b, s2, e2, h2⟩ := string_ex s1
  rw [e2, bsome]
  exact ⟨_, _, rfl, h1, h2⟩
def EntOk (e : Entry) : Prop := RecOk e.record ∧ e.leaves.length ≤ 3
def ParOk (rs : List Region) : Prop := rs.length ≤ 3 ∧ ∀ r ∈ rs, RegOk r
structure OffOk (o : Offer) : Prop where
  lp : o.partitions.length ≤ 2
  hp : ∀ rs ∈ o.partitions, ParOk rs
  le : o.entries.length ≤ 3
  he : ∀ e ∈ o.entries, EntOk e
theorem offer_ex (s : DS) : ∃ o s', F_law_offer s = some (o, s') ∧ OffOk o := by
  unfold F_law_offer
  have b0 := nx_ge s (m := 3) (by decide)
  have b1 := nx_lt s (m := 3) (by decide)
  rw [bsome, if_pos (rangeOk_of (by omega) (by omega) (by omega) (by omega))]
  obtain ⟨⟨ps, s1⟩, e1, l1, h1⟩ := forF_rng (f := L_law_offer_1) (fun n w => w.1.length = n ∧ ∀ rs ∈ w.1, ParOk rs) (m := nxV s 3) (b := (([] : List (List Region)), nxS s 3)) ⟨rfl, fun _ h => nomatch h⟩ (by
    rintro n ⟨w, s⟩ hn ⟨l, hw⟩
    dsimp only at l hw
    unfold L_law_offer_1
    dsimp only
    have c0 := nx_ge s (m := 4) (by decide)
    have c1 := nx_lt s (m := 4) (by decide)
    rw [if_pos (rangeOk_of (by omega) (by omega) (by omega) (by omega))]
    obtain ⟨⟨rs, s2⟩, e2, l2, h2⟩ := forF_rng (f := L_law_offer_2) (fun n w => w.1.length = n ∧ ∀ r ∈ w.1, RegOk r) (m := nxV s 4) (b := (([] : List Region), nxS s 4)) ⟨rfl, fun _ h => nomatch h⟩ (by
      rintro n ⟨w, s⟩ hn ⟨l, hw⟩
      dsimp only at l hw
      unfold L_law_offer_2
      dsimp only
      obtain ⟨pa, ep, _⟩ := atI_lit (xs := [none, (some ((nxV s (5 : Int)) - (1 : Int)))]) (nx_ge (nxS s 5) (m := 2) (by decide)) (nx_lt (nxS s 5) (m := 2) (by decide))
      have d0 := nx_ge (nxS (nxS s 5) 2) (m := 3) (by decide)
      have d1 := nx_lt (nxS (nxS s 5) 2) (m := 3) (by decide)
      rw [ep, bsome, if_pos (rangeOk_of (by omega) (by omega) (by omega) (by omega))]
      obtain ⟨fs, s3, e3, l3, h3⟩ := some_ex (f := fun (x_347 : Int) (s_348 : DS) => ((F_law_fact s_348).bind fun r_351 => some (r_351.1, r_351.2) : Option (Fact × DS))) (R := FactOk) _ d0 (nxS (nxS (nxS s 5) 2) 3) (fun x s => by
        obtain ⟨t, s1, e1, h1⟩ := fact_ex s
        rw [e1, bsome]
        exact ⟨_, _, rfl, h1⟩)
      rw [e3, bsome, if_pos (by omega)]
      refine ⟨_, rfl, by show (w ++ [_]).length = _; rw [List.length_append, l]; rfl, fun r hr => ?_⟩
      rcases List.mem_append.mp hr with hr | hr
      · exact hw r hr
      · rw [List.mem_singleton.mp hr]
        exact ⟨by show fs.length ≤ 2; omega, h3⟩)
    rw [e2, bsome, if_pos (by omega)]
    refine ⟨_, rfl, by show (w ++ [_]).length = _; rw [List.length_append, l]; rfl, fun r hr => ?_⟩
    rcases List.mem_append.mp hr with hr | hr
    · exact hw r hr
    · rw [List.mem_singleton.mp hr]
      exact ⟨by dsimp only at l2 ⊢; omega, h2⟩)
  rw [e1, bsome]
  dsimp only at l1 h1 ⊢
  have c0 := nx_ge s1 (m := 4) (by decide)
  have c1 := nx_lt s1 (m := 4) (by decide)
  rw [if_pos (rangeOk_of (by omega) (by omega) (by omega) (by omega))]
  obtain ⟨⟨es, s2⟩, e2, l2, h2⟩ := forF_rng (f := L_law_offer_3) (fun n w => w.1.length = n ∧ ∀ r ∈ w.1, EntOk r) (m := nxV s1 4) (b := (([] : List Entry), nxS s1 4)) ⟨rfl, fun _ h => nomatch h⟩ (by
    rintro n ⟨w, s⟩ hn ⟨l, hw⟩
    dsimp only at l hw
    unfold L_law_offer_3
    dsimp only
    generalize nxV s _ = num
    generalize nxS s _ = s
    obtain ⟨r, s1, e1, h1⟩ := record_ex s
    rw [e1, bsome]
    dsimp only
    obtain ⟨xs, s2, e2, h2⟩ := numbers_ex s1
    rw [e2, bsome, if_pos (by omega)]
    refine ⟨_, rfl, by show (w ++ [_]).length = _; rw [List.length_append, l]; rfl, fun r hr => ?_⟩
    rcases List.mem_append.mp hr with hr | hr
    · exact hw r hr
    · rw [List.mem_singleton.mp hr]
      exact ⟨h1, h2⟩)
  rw [e2, bsome]
  dsimp only at l2 h2 ⊢
  exact ⟨_, _, rfl, ⟨by show ps.length ≤ 2; omega, h1, by show es.length ≤ 3; omega, h2⟩⟩
/-! the law -/
theorem agree_ok (s : DS) : ∃ s', F_law_parts_agree s = some (true, s') := by
  unfold F_law_parts_agree
  obtain ⟨t, s1, e1, h1⟩ := string_ex s
  rw [e1, bsome]
  dsimp only
  obtain ⟨v, s2, e2, h2⟩ := worth_ex s1
  rw [e2, bsome]
  dsimp only
  obtain ⟨xs, s3, e3, h3⟩ := numbers_ex s2
  rw [e3, bsome]
  dsimp only
  obtain ⟨a, a1, a2, _⟩ := text_two h1
  obtain ⟨b, b1, b2, _⟩ := val_two h2
  obtain ⟨c, c1, c2, _⟩ := nums_two h3
  rw [a1, bsome, a2, bsome, if_neg (by simp), b1, bsome, b2, bsome, if_neg (by simp), c1, bsome, c2, bsome, bsome, bsome, if_neg (by simp)]
  have m0 : F_maybe_code none = some [0] := rfl
  have m1 : F_maybe_code (some xs) = some ([1] ++ xs) := by
    unfold F_maybe_code
    rw [if_neg (by intro z; cases z), bsome, if_pos (by (try simp only [List.length_append, List.length_cons, List.length_nil]); omega)]
  rw [m0, bsome, if_neg (by simp), m1, bsome, if_pos (by (try simp only [List.length_append, List.length_cons, List.length_nil]); omega), bsome, if_neg (by simp)]
  have hl : F_list_code [xs, [], [7]] = some (([3] ++ xs) ++ [7]) := by
    unfold F_list_code
    have e : ([xs, [], [7]].flatMap fun (x : List Int) => x.map fun (y : Int) => y) = xs ++ [7] := by
      simp
    rw [e, if_pos (by rw [List.length_append]; simp; omega), if_pos (by rw [List.length_append]; simp; omega)]
    rfl
  rw [hl, bsome, if_pos (by (try simp only [List.length_append, List.length_cons, List.length_nil]); omega), if_pos (by (try simp only [List.length_append, List.length_cons, List.length_nil]); omega)]
  exact ⟨_, by rw [decide_eq_true rfl]⟩
theorem facts_loop : ∀ (xs : List Int) (s : DS), ∃ s', forS L_law_1 xs s = some (.go s')
  | [], s => ⟨s, rfl⟩
  | x :: r, s => by
    obtain ⟨f, s1, e1, h1⟩ := fact_ex s
    obtain ⟨c, c1, c2, _⟩ := fact_two h1
    have e : L_law_1 x s = some (.go s1) := by
      unfold L_law_1
      rw [e1, bsome]
      dsimp only
      rw [c1, bsome, c2, bsome, if_neg (by simp)]
    show ∃ s', (L_law_1 x s).bind _ = _
    rw [e, bsome]
    exact facts_loop r s1
theorem regions_loop : ∀ (rs : List Region), (∀ r ∈ rs, RegOk r) → forS L_law_3 rs () = some (.go ())
  | [], _ => rfl
  | x :: r, h => by
    obtain ⟨c, c1, c2, _⟩ := region_two (h x List.mem_cons_self)
    have e : L_law_3 x () = some (.go ()) := by
      unfold L_law_3
      rw [c1, bsome, c2, bsome, if_neg (by simp)]
    show (L_law_3 x ()).bind _ = _
    rw [e, bsome]
    exact regions_loop r fun y hy => h y (List.mem_cons_of_mem _ hy)
theorem par_two {rs : List Region} (h : ParOk rs) : ∃ cs, mapO (fun (x_1367 : Region) => ((F_law_region_due x_1367).bind fun r_1371 => some r_1371 : Option (List Int))) rs = some cs ∧ ∃ c, F_law_list cs = some c ∧ F_partition_code rs = some c ∧ c.length ≤ 190 := by
  obtain ⟨cs, e1, e2, l1, l2⟩ := map_two fun x hx => two_bind (region_two (h.2 x hx))
  obtain ⟨c, e3, e4, l⟩ := list_two 3 63 (by rw [l1]; exact h.1) l2 (by decide) 190 (by decide)
  refine ⟨cs, e2, c, e4, ?_, l⟩
  unfold F_partition_code
  rw [e1, bsome, e3, bsome]
theorem last_at (w : List (List Int)) (c : List Int) : atI (w ++ [c]) (((w ++ [c]).length : Int) - 1) = some c := by
  have : ((w ++ [c]).length : Int) - 1 = (w.length : Int) := by rw [List.length_append]; show ((w.length + 1 : Nat) : Int) - 1 = _; omega
  rw [this]
  exact TP.atI_nat (by rw [List.getElem?_append_right (Nat.le_refl _), Nat.sub_self]; rfl)
theorem pars_loop : ∀ (ps : List (List Region)) (w : List (List Int)), (∀ rs ∈ ps, ParOk rs) → w.length + ps.length ≤ 1000 → ∃ cs, forS L_law_2 ps w = some (.go (w ++ cs)) ∧ mapO (fun (x_808 : (List Region)) => ((F_partition_code x_808).bind fun r_811 => some r_811 : Option (List Int))) ps = some cs ∧ cs.length = ps.length ∧ ∀ c ∈ cs, c.length ≤ 190
  | [], w, _, _ => ⟨[], by rw [List.append_nil]; rfl, rfl, rfl, fun _ h => nomatch h⟩
  | p :: ps, w, h, l => by
    rw [List.length_cons] at l
    have hp := h p List.mem_cons_self
    obtain ⟨ds, e1, c, e2, e3, lc⟩ := par_two hp
    have e : L_law_2 p w = some (.go (w ++ [c])) := by
      unfold L_law_2
      rw [regions_loop p hp.2, bsome, TP.thn_go, e1, bsome, e2, bsome, if_pos (by omega), e3, bsome, last_at, bsome, if_neg (by simp)]
    obtain ⟨cs, f1, f2, f3, f4⟩ := pars_loop ps (w ++ [c]) (fun rs hr => h rs (List.mem_cons_of_mem _ hr)) (by rw [List.length_append]; show w.length + 1 + _ ≤ _; omega)
    refine ⟨c :: cs, ?_, ?_, by rw [List.length_cons, List.length_cons, f3], fun d hd => ?_⟩
    · show (L_law_2 p w).bind _ = _
      rw [e, bsome]
      show forS L_law_2 ps (w ++ [c]) = _
      rw [f1, List.append_assoc]
      rfl
    · unfold mapO
      rw [e3, bsome, bsome, f2, bsome]
    · rcases List.mem_cons.mp hd with rfl | hd
      · exact lc
      · exact f4 d hd
theorem ents_loop : ∀ (es : List Entry) (w : List (List Int)), (∀ e ∈ es, EntOk e) → w.length + es.length ≤ 1000 → ∃ cs, forS L_law_4 es w = some (.go (w ++ cs)) ∧ mapO (fun (x_819 : Entry) => ((F_entry_code x_819).bind fun r_822 => some r_822 : Option (List Int))) es = some cs ∧ cs.length = es.length ∧ ∀ c ∈ cs, c.length ≤ 50
  | [], w, _, _ => ⟨[], by rw [List.append_nil]; rfl, rfl, rfl, fun _ h => nomatch h⟩
  | p :: ps, w, h, l => by
    rw [List.length_cons] at l
    obtain ⟨h1, h2⟩ := h p List.mem_cons_self
    obtain ⟨a, a1, a2, al⟩ := record_two h1
    obtain ⟨b, b1, b2, bl⟩ := nums_two h2
    have e3 : F_entry_code p = some (([p.number] ++ a) ++ b) := by
      unfold F_entry_code
      rw [a1, bsome, if_pos (by (try simp only [List.length_append, List.length_cons, List.length_nil]); omega), b1, bsome, if_pos (by (try simp only [List.length_append, List.length_cons, List.length_nil]); omega)]
    have e : L_law_4 p w = some (.go (w ++ [([p.number] ++ a) ++ b])) := by
      unfold L_law_4
      rw [a1, bsome, a2, bsome, if_neg (by simp), bsome, if_pos (by (try simp only [List.length_append, List.length_cons, List.length_nil]); omega), b2, bsome, if_pos (by (try simp only [List.length_append, List.length_cons, List.length_nil]); omega), if_pos (by omega), e3, bsome, last_at, bsome, if_neg (by simp)]
    obtain ⟨cs, f1, f2, f3, f4⟩ := ents_loop ps (w ++ [([p.number] ++ a) ++ b]) (fun rs hr => h rs (List.mem_cons_of_mem _ hr)) (by rw [List.length_append]; show w.length + 1 + _ ≤ _; omega)
    refine ⟨(([p.number] ++ a) ++ b) :: cs, ?_, ?_, by rw [List.length_cons, List.length_cons, f3], fun d hd => ?_⟩
    · show (L_law_4 p w).bind _ = _
      rw [e, bsome]
      show forS L_law_4 ps (w ++ [([p.number] ++ a) ++ b]) = _
      rw [f1, List.append_assoc]
      rfl
    · unfold mapO
      rw [e3, bsome, bsome, f2, bsome]
    · rcases List.mem_cons.mp hd with rfl | hd
      · simp only [List.length_append, List.length_singleton]; omega
      · exact f4 d hd
theorem law_true (ns : List Int) (h : ns.length ≤ 63) : F_law ns = some true := by
  unfold F_law
  obtain ⟨s, e⟩ := agree_ok (DS.mk ns 0 0)
  rw [e, bsome, if_neg (by simp)]
  dsimp only
  obtain ⟨s1, e1⟩ := facts_loop (rangeZ 0 4) s
  rw [e1, bsome, TP.thn_go]
  obtain ⟨o, s2, e2, ho⟩ := offer_ex s1
  rw [e2, bsome]
  dsimp only
  obtain ⟨cs, p1, p2, p3, p4⟩ := pars_loop o.partitions [] ho.hp (by have := ho.lp; simp; omega)
  obtain ⟨ds, q1, q2, q3, q4⟩ := ents_loop o.entries [] ho.he (by have := ho.le; simp; omega)
  rw [p1, bsome, TP.thn_go, q1, bsome, TP.thn_go, List.nil_append, List.nil_append]
  obtain ⟨c, c1, c2, cl⟩ := list_two 2 190 (by rw [p3]; exact ho.lp) p4 (by decide) 381 (by decide)
  obtain ⟨d, d1, d2, dl⟩ := list_two 3 50 (by rw [q3]; exact ho.le) q4 (by decide) 151 (by decide)
  have eo : F_offer_code o = some (c ++ d) := by
    unfold F_offer_code
    rw [p2, bsome, c1, bsome, q2, bsome, d1, bsome, if_pos (by omega)]
  rw [eo, bsome, c2, bsome, d2, bsome, if_pos (by omega), decide_eq_true rfl]

def ff_Record (v0 v1 v2 v3 : V) : List (Str × V) := putF "words" v3 (putF "fields" v2 (putF "vector" v1 (putF "name" v0 [])))
theorem lk_Record_name {v0 v1 v2 v3 : V} : (ff_Record v0 v1 v2 v3).lookup ("name" : Str) = some v0 := by
  unfold ff_Record
  rw [lookup_putF, if_neg (by decide +kernel), lookup_putF, if_neg (by decide +kernel), lookup_putF, if_neg (by decide +kernel), lookup_putF, if_pos rfl]
theorem lk_Record_vector {v0 v1 v2 v3 : V} : (ff_Record v0 v1 v2 v3).lookup ("vector" : Str) = some v1 := by
  unfold ff_Record
  rw [lookup_putF, if_neg (by decide +kernel), lookup_putF, if_neg (by decide +kernel), lookup_putF, if_pos rfl]
theorem lk_Record_fields {v0 v1 v2 v3 : V} : (ff_Record v0 v1 v2 v3).lookup ("fields" : Str) = some v2 := by
  unfold ff_Record
  rw [lookup_putF, if_neg (by decide +kernel), lookup_putF, if_pos rfl]
theorem lk_Record_words {v0 v1 v2 v3 : V} : (ff_Record v0 v1 v2 v3).lookup ("words" : Str) = some v3 := by
  unfold ff_Record
  rw [lookup_putF, if_pos rfl]
theorem no_Record {v0 v1 v2 v3 : V} {m : Str} (h0 : ¬ m = "name" := by decide +kernel) (h1 : ¬ m = "vector" := by decide +kernel) (h2 : ¬ m = "fields" := by decide +kernel) (h3 : ¬ m = "words" := by decide +kernel) : (ff_Record v0 v1 v2 v3).lookup m = none := by
  unfold ff_Record
  rw [lookup_putF, if_neg h3, lookup_putF, if_neg h2, lookup_putF, if_neg h1, lookup_putF, if_neg h0]
  rfl
def ff_Part (v0 v1 v2 : V) : List (Str × V) := putF "radius" v2 (putF "centre" v1 (putF "start" v0 []))
theorem lk_Part_start {v0 v1 v2 : V} : (ff_Part v0 v1 v2).lookup ("start" : Str) = some v0 := by
  unfold ff_Part
  rw [lookup_putF, if_neg (by decide +kernel), lookup_putF, if_neg (by decide +kernel), lookup_putF, if_pos rfl]
theorem lk_Part_centre {v0 v1 v2 : V} : (ff_Part v0 v1 v2).lookup ("centre" : Str) = some v1 := by
  unfold ff_Part
  rw [lookup_putF, if_neg (by decide +kernel), lookup_putF, if_pos rfl]
theorem lk_Part_radius {v0 v1 v2 : V} : (ff_Part v0 v1 v2).lookup ("radius" : Str) = some v2 := by
  unfold ff_Part
  rw [lookup_putF, if_pos rfl]
theorem no_Part {v0 v1 v2 : V} {m : Str} (h0 : ¬ m = "start" := by decide +kernel) (h1 : ¬ m = "centre" := by decide +kernel) (h2 : ¬ m = "radius" := by decide +kernel) : (ff_Part v0 v1 v2).lookup m = none := by
  unfold ff_Part
  rw [lookup_putF, if_neg h2, lookup_putF, if_neg h1, lookup_putF, if_neg h0]
  rfl
def ff_Parts (v0 : V) : List (Str × V) := putF "parts" v0 []
theorem lk_Parts_parts {v0 : V} : (ff_Parts v0).lookup ("parts" : Str) = some v0 := by
  unfold ff_Parts
  rw [lookup_putF, if_pos rfl]
theorem no_Parts {v0 : V} {m : Str} (h0 : ¬ m = "parts" := by decide +kernel) : (ff_Parts v0).lookup m = none := by
  unfold ff_Parts
  rw [lookup_putF, if_neg h0]
  rfl
def ff_Cell (v0 v1 : V) : List (Str × V) := putF "rival" v1 (putF "near" v0 [])
theorem lk_Cell_near {v0 v1 : V} : (ff_Cell v0 v1).lookup ("near" : Str) = some v0 := by
  unfold ff_Cell
  rw [lookup_putF, if_neg (by decide +kernel), lookup_putF, if_pos rfl]
theorem lk_Cell_rival {v0 v1 : V} : (ff_Cell v0 v1).lookup ("rival" : Str) = some v1 := by
  unfold ff_Cell
  rw [lookup_putF, if_pos rfl]
theorem no_Cell {v0 v1 : V} {m : Str} (h0 : ¬ m = "near" := by decide +kernel) (h1 : ¬ m = "rival" := by decide +kernel) : (ff_Cell v0 v1).lookup m = none := by
  unfold ff_Cell
  rw [lookup_putF, if_neg h1, lookup_putF, if_neg h0]
  rfl
def ff_Box (v0 v1 : V) : List (Str × V) := putF "high" v1 (putF "low" v0 [])
theorem lk_Box_low {v0 v1 : V} : (ff_Box v0 v1).lookup ("low" : Str) = some v0 := by
  unfold ff_Box
  rw [lookup_putF, if_neg (by decide +kernel), lookup_putF, if_pos rfl]
theorem lk_Box_high {v0 v1 : V} : (ff_Box v0 v1).lookup ("high" : Str) = some v1 := by
  unfold ff_Box
  rw [lookup_putF, if_pos rfl]
theorem no_Box {v0 v1 : V} {m : Str} (h0 : ¬ m = "low" := by decide +kernel) (h1 : ¬ m = "high" := by decide +kernel) : (ff_Box v0 v1).lookup m = none := by
  unfold ff_Box
  rw [lookup_putF, if_neg h1, lookup_putF, if_neg h0]
  rfl
def ff_Norms (v0 v1 : V) : List (Str × V) := putF "high" v1 (putF "low" v0 [])
theorem lk_Norms_low {v0 v1 : V} : (ff_Norms v0 v1).lookup ("low" : Str) = some v0 := by
  unfold ff_Norms
  rw [lookup_putF, if_neg (by decide +kernel), lookup_putF, if_pos rfl]
theorem lk_Norms_high {v0 v1 : V} : (ff_Norms v0 v1).lookup ("high" : Str) = some v1 := by
  unfold ff_Norms
  rw [lookup_putF, if_pos rfl]
theorem no_Norms {v0 v1 : V} {m : Str} (h0 : ¬ m = "low" := by decide +kernel) (h1 : ¬ m = "high" := by decide +kernel) : (ff_Norms v0 v1).lookup m = none := by
  unfold ff_Norms
  rw [lookup_putF, if_neg h1, lookup_putF, if_neg h0]
  rfl
def ff_Differ (v0 v1 : V) : List (Str × V) := putF "most" v1 (putF "centre" v0 [])
theorem lk_Differ_centre {v0 v1 : V} : (ff_Differ v0 v1).lookup ("centre" : Str) = some v0 := by
  unfold ff_Differ
  rw [lookup_putF, if_neg (by decide +kernel), lookup_putF, if_pos rfl]
theorem lk_Differ_most {v0 v1 : V} : (ff_Differ v0 v1).lookup ("most" : Str) = some v1 := by
  unfold ff_Differ
  rw [lookup_putF, if_pos rfl]
theorem no_Differ {v0 v1 : V} {m : Str} (h0 : ¬ m = "centre" := by decide +kernel) (h1 : ¬ m = "most" := by decide +kernel) : (ff_Differ v0 v1).lookup m = none := by
  unfold ff_Differ
  rw [lookup_putF, if_neg h1, lookup_putF, if_neg h0]
  rfl
def ff_Range (v0 v1 v2 v3 : V) : List (Str × V) := putF "lack" v3 (putF "high" v2 (putF "low" v1 (putF "field" v0 [])))
theorem lk_Range_field {v0 v1 v2 v3 : V} : (ff_Range v0 v1 v2 v3).lookup ("field" : Str) = some v0 := by
  unfold ff_Range
  rw [lookup_putF, if_neg (by decide +kernel), lookup_putF, if_neg (by decide +kernel), lookup_putF, if_neg (by decide +kernel), lookup_putF, if_pos rfl]
theorem lk_Range_low {v0 v1 v2 v3 : V} : (ff_Range v0 v1 v2 v3).lookup ("low" : Str) = some v1 := by
  unfold ff_Range
  rw [lookup_putF, if_neg (by decide +kernel), lookup_putF, if_neg (by decide +kernel), lookup_putF, if_pos rfl]
theorem lk_Range_high {v0 v1 v2 v3 : V} : (ff_Range v0 v1 v2 v3).lookup ("high" : Str) = some v2 := by
  unfold ff_Range
  rw [lookup_putF, if_neg (by decide +kernel), lookup_putF, if_pos rfl]
theorem lk_Range_lack {v0 v1 v2 v3 : V} : (ff_Range v0 v1 v2 v3).lookup ("lack" : Str) = some v3 := by
  unfold ff_Range
  rw [lookup_putF, if_pos rfl]
theorem no_Range {v0 v1 v2 v3 : V} {m : Str} (h0 : ¬ m = "field" := by decide +kernel) (h1 : ¬ m = "low" := by decide +kernel) (h2 : ¬ m = "high" := by decide +kernel) (h3 : ¬ m = "lack" := by decide +kernel) : (ff_Range v0 v1 v2 v3).lookup m = none := by
  unfold ff_Range
  rw [lookup_putF, if_neg h3, lookup_putF, if_neg h2, lookup_putF, if_neg h1, lookup_putF, if_neg h0]
  rfl
def ff_Values (v0 v1 v2 : V) : List (Str × V) := putF "lack" v2 (putF "choices" v1 (putF "field" v0 []))
theorem lk_Values_field {v0 v1 v2 : V} : (ff_Values v0 v1 v2).lookup ("field" : Str) = some v0 := by
  unfold ff_Values
  rw [lookup_putF, if_neg (by decide +kernel), lookup_putF, if_neg (by decide +kernel), lookup_putF, if_pos rfl]
theorem lk_Values_choices {v0 v1 v2 : V} : (ff_Values v0 v1 v2).lookup ("choices" : Str) = some v1 := by
  unfold ff_Values
  rw [lookup_putF, if_neg (by decide +kernel), lookup_putF, if_pos rfl]
theorem lk_Values_lack {v0 v1 v2 : V} : (ff_Values v0 v1 v2).lookup ("lack" : Str) = some v2 := by
  unfold ff_Values
  rw [lookup_putF, if_pos rfl]
theorem no_Values {v0 v1 v2 : V} {m : Str} (h0 : ¬ m = "field" := by decide +kernel) (h1 : ¬ m = "choices" := by decide +kernel) (h2 : ¬ m = "lack" := by decide +kernel) : (ff_Values v0 v1 v2).lookup m = none := by
  unfold ff_Values
  rw [lookup_putF, if_neg h2, lookup_putF, if_neg h1, lookup_putF, if_neg h0]
  rfl
def ff_Counts (v0 v1 : V) : List (Str × V) := putF "bounds" v1 (putF "words" v0 [])
theorem lk_Counts_words {v0 v1 : V} : (ff_Counts v0 v1).lookup ("words" : Str) = some v0 := by
  unfold ff_Counts
  rw [lookup_putF, if_neg (by decide +kernel), lookup_putF, if_pos rfl]
theorem lk_Counts_bounds {v0 v1 : V} : (ff_Counts v0 v1).lookup ("bounds" : Str) = some v1 := by
  unfold ff_Counts
  rw [lookup_putF, if_pos rfl]
theorem no_Counts {v0 v1 : V} {m : Str} (h0 : ¬ m = "words" := by decide +kernel) (h1 : ¬ m = "bounds" := by decide +kernel) : (ff_Counts v0 v1).lookup m = none := by
  unfold ff_Counts
  rw [lookup_putF, if_neg h1, lookup_putF, if_neg h0]
  rfl
def ff_Names (v0 v1 : V) : List (Str × V) := putF "high" v1 (putF "low" v0 [])
theorem lk_Names_low {v0 v1 : V} : (ff_Names v0 v1).lookup ("low" : Str) = some v0 := by
  unfold ff_Names
  rw [lookup_putF, if_neg (by decide +kernel), lookup_putF, if_pos rfl]
theorem lk_Names_high {v0 v1 : V} : (ff_Names v0 v1).lookup ("high" : Str) = some v1 := by
  unfold ff_Names
  rw [lookup_putF, if_pos rfl]
theorem no_Names {v0 v1 : V} {m : Str} (h0 : ¬ m = "low" := by decide +kernel) (h1 : ¬ m = "high" := by decide +kernel) : (ff_Names v0 v1).lookup m = none := by
  unfold ff_Names
  rw [lookup_putF, if_neg h1, lookup_putF, if_neg h0]
  rfl
def ff_Region (v0 v1 : V) : List (Str × V) := putF "facts" v1 (putF "parent" v0 [])
theorem lk_Region_parent {v0 v1 : V} : (ff_Region v0 v1).lookup ("parent" : Str) = some v0 := by
  unfold ff_Region
  rw [lookup_putF, if_neg (by decide +kernel), lookup_putF, if_pos rfl]
theorem lk_Region_facts {v0 v1 : V} : (ff_Region v0 v1).lookup ("facts" : Str) = some v1 := by
  unfold ff_Region
  rw [lookup_putF, if_pos rfl]
theorem no_Region {v0 v1 : V} {m : Str} (h0 : ¬ m = "parent" := by decide +kernel) (h1 : ¬ m = "facts" := by decide +kernel) : (ff_Region v0 v1).lookup m = none := by
  unfold ff_Region
  rw [lookup_putF, if_neg h1, lookup_putF, if_neg h0]
  rfl
def ff_Entry (v0 v1 v2 : V) : List (Str × V) := putF "leaves" v2 (putF "record" v1 (putF "number" v0 []))
theorem lk_Entry_number {v0 v1 v2 : V} : (ff_Entry v0 v1 v2).lookup ("number" : Str) = some v0 := by
  unfold ff_Entry
  rw [lookup_putF, if_neg (by decide +kernel), lookup_putF, if_neg (by decide +kernel), lookup_putF, if_pos rfl]
theorem lk_Entry_record {v0 v1 v2 : V} : (ff_Entry v0 v1 v2).lookup ("record" : Str) = some v1 := by
  unfold ff_Entry
  rw [lookup_putF, if_neg (by decide +kernel), lookup_putF, if_pos rfl]
theorem lk_Entry_leaves {v0 v1 v2 : V} : (ff_Entry v0 v1 v2).lookup ("leaves" : Str) = some v2 := by
  unfold ff_Entry
  rw [lookup_putF, if_pos rfl]
theorem no_Entry {v0 v1 v2 : V} {m : Str} (h0 : ¬ m = "number" := by decide +kernel) (h1 : ¬ m = "record" := by decide +kernel) (h2 : ¬ m = "leaves" := by decide +kernel) : (ff_Entry v0 v1 v2).lookup m = none := by
  unfold ff_Entry
  rw [lookup_putF, if_neg h2, lookup_putF, if_neg h1, lookup_putF, if_neg h0]
  rfl
def ff_Offer (v0 v1 : V) : List (Str × V) := putF "entries" v1 (putF "partitions" v0 [])
theorem lk_Offer_partitions {v0 v1 : V} : (ff_Offer v0 v1).lookup ("partitions" : Str) = some v0 := by
  unfold ff_Offer
  rw [lookup_putF, if_neg (by decide +kernel), lookup_putF, if_pos rfl]
theorem lk_Offer_entries {v0 v1 : V} : (ff_Offer v0 v1).lookup ("entries" : Str) = some v1 := by
  unfold ff_Offer
  rw [lookup_putF, if_pos rfl]
theorem no_Offer {v0 v1 : V} {m : Str} (h0 : ¬ m = "partitions" := by decide +kernel) (h1 : ¬ m = "entries" := by decide +kernel) : (ff_Offer v0 v1).lookup m = none := by
  unfold ff_Offer
  rw [lookup_putF, if_neg h1, lookup_putF, if_neg h0]
  rfl
theorem putF_le {f : Str} {v : V} {fs : List (Str × V)} {n : Nat} (h : fs.length ≤ n) : (putF f v fs).length ≤ n + 1 := by
  induction fs generalizing n with
  | nil => show 1 ≤ n + 1; omega
  | cons x r ih =>
    obtain ⟨g, y⟩ := x
    show (if g = f then (g, v) :: r else (g, y) :: putF f v r).length ≤ n + 1
    rw [List.length_cons] at h
    by_cases e : g = f
    · rw [if_pos e, List.length_cons]; omega
    · rw [if_neg e, List.length_cons]
      have := ih (n := r.length) (Nat.le_refl _)
      omega
/-! what the top has made -/
set_option maxHeartbeats 0 in
structure Txt (K : PySem.W.Frag) (mg : Str → Option Value) where
  f_law_row : Addr
  d_law_row : FuncData
  F_law_row : Fun K "_law_row" "_law_row" s_law_row f_law_row d_law_row
  b_law_row : Binds K d_law_row ["script", "k"] []
  g_law_row : mg "_law_row" = some (.ref f_law_row)
  f_law_next : Addr
  d_law_next : FuncData
  F_law_next : Fun K "_law_next" "_law_next" s_law_next f_law_next d_law_next
  b_law_next : Binds K d_law_next ["state", "many"] []
  g_law_next : mg "_law_next" = some (.ref f_law_next)
  f_law_string : Addr
  d_law_string : FuncData
  F_law_string : Fun K "_law_string" "_law_string" s_law_string f_law_string d_law_string
  b_law_string : Binds K d_law_string ["state"] []
  g_law_string : mg "_law_string" = some (.ref f_law_string)
  f_law_numbers : Addr
  d_law_numbers : FuncData
  F_law_numbers : Fun K "_law_numbers" "_law_numbers" s_law_numbers f_law_numbers d_law_numbers
  b_law_numbers : Binds K d_law_numbers ["state"] []
  g_law_numbers : mg "_law_numbers" = some (.ref f_law_numbers)
  f_law_worth : Addr
  d_law_worth : FuncData
  F_law_worth : Fun K "_law_worth" "_law_worth" s_law_worth f_law_worth d_law_worth
  b_law_worth : Binds K d_law_worth ["state"] []
  g_law_worth : mg "_law_worth" = some (.ref f_law_worth)
  f_Record___init__ : Addr
  d_Record___init__ : FuncData
  e_Record___init___fields : Addr
  et_Record___init___fields : ∀ H, SqT K H e_Record___init___fields []
  e_Record___init___words : Addr
  et_Record___init___words : ∀ H, SqT K H e_Record___init___words []
  F_Record___init__ : FunD K "__init__" "Record.__init__" (defArgs s_Record___init__) (defBody s_Record___init__) (defScope s_Record___init__) [] [("fields", .ref e_Record___init___fields), ("words", .ref e_Record___init___words)] f_Record___init__ d_Record___init__
  kb_Record___init__ : KBn K d_Record___init__ ["self", "name", "vector", "fields", "words"] 3 ["fields", "words"] (fun us ws => us ++ ws) (fun vs zs => vs ++ zs)
  ds_Record___init__ : List Value
  v_Record___init__ : Vals [.ref e_Record___init___fields, .ref e_Record___init___words] ds_Record___init__
  b_Record___init__ : Binds K d_Record___init__ ["self", "name", "vector", "fields", "words"] ds_Record___init__
  f_law_record : Addr
  d_law_record : FuncData
  F_law_record : Fun K "_law_record" "_law_record" s_law_record f_law_record d_law_record
  b_law_record : Binds K d_law_record ["state"] []
  g_law_record : mg "_law_record" = some (.ref f_law_record)
  f_Part___init__ : Addr
  d_Part___init__ : FuncData
  F_Part___init__ : Fun K "__init__" "Part.__init__" s_Part___init__ f_Part___init__ d_Part___init__
  b_Part___init__ : Binds K d_Part___init__ ["self", "start", "centre", "radius"] []
  f_Parts___init__ : Addr
  d_Parts___init__ : FuncData
  F_Parts___init__ : Fun K "__init__" "Parts.__init__" s_Parts___init__ f_Parts___init__ d_Parts___init__
  b_Parts___init__ : Binds K d_Parts___init__ ["self", "parts"] []
  f_Cell___init__ : Addr
  d_Cell___init__ : FuncData
  F_Cell___init__ : Fun K "__init__" "Cell.__init__" s_Cell___init__ f_Cell___init__ d_Cell___init__
  b_Cell___init__ : Binds K d_Cell___init__ ["self", "near", "rival"] []
  f_Box___init__ : Addr
  d_Box___init__ : FuncData
  F_Box___init__ : Fun K "__init__" "Box.__init__" s_Box___init__ f_Box___init__ d_Box___init__
  b_Box___init__ : Binds K d_Box___init__ ["self", "low", "high"] []
  f_Norms___init__ : Addr
  d_Norms___init__ : FuncData
  F_Norms___init__ : Fun K "__init__" "Norms.__init__" s_Norms___init__ f_Norms___init__ d_Norms___init__
  b_Norms___init__ : Binds K d_Norms___init__ ["self", "low", "high"] []
  f_Differ___init__ : Addr
  d_Differ___init__ : FuncData
  F_Differ___init__ : Fun K "__init__" "Differ.__init__" s_Differ___init__ f_Differ___init__ d_Differ___init__
  b_Differ___init__ : Binds K d_Differ___init__ ["self", "centre", "most"] []
  f_Range___init__ : Addr
  d_Range___init__ : FuncData
  F_Range___init__ : FunD K "__init__" "Range.__init__" (defArgs s_Range___init__) (defBody s_Range___init__) (defScope s_Range___init__) [] [("lack", .str "nobody")] f_Range___init__ d_Range___init__
  kb_Range___init__ : KBn K d_Range___init__ ["self", "field", "low", "high", "lack"] 4 ["lack"] (fun us ws => us ++ ws) (fun vs zs => vs ++ zs)
  ds_Range___init__ : List Value
  v_Range___init__ : Vals [.str "nobody"] ds_Range___init__
  b_Range___init__ : Binds K d_Range___init__ ["self", "field", "low", "high", "lack"] ds_Range___init__
  f_Values___init__ : Addr
  d_Values___init__ : FuncData
  F_Values___init__ : FunD K "__init__" "Values.__init__" (defArgs s_Values___init__) (defBody s_Values___init__) (defScope s_Values___init__) [] [("lack", .str "nobody")] f_Values___init__ d_Values___init__
  kb_Values___init__ : KBn K d_Values___init__ ["self", "field", "choices", "lack"] 3 ["lack"] (fun us ws => us ++ ws) (fun vs zs => vs ++ zs)
  ds_Values___init__ : List Value
  v_Values___init__ : Vals [.str "nobody"] ds_Values___init__
  b_Values___init__ : Binds K d_Values___init__ ["self", "field", "choices", "lack"] ds_Values___init__
  f_greatest_counts : Addr
  d_greatest_counts : FuncData
  F_greatest_counts : Fun K "greatest_counts" "greatest_counts" s_greatest_counts f_greatest_counts d_greatest_counts
  b_greatest_counts : Binds K d_greatest_counts ["words"] []
  g_greatest_counts : mg "greatest_counts" = some (.ref f_greatest_counts)
  f_Counts___init__ : Addr
  d_Counts___init__ : FuncData
  F_Counts___init__ : Fun K "__init__" "Counts.__init__" s_Counts___init__ f_Counts___init__ d_Counts___init__
  b_Counts___init__ : Binds K d_Counts___init__ ["self", "words"] []
  f_Names___init__ : Addr
  d_Names___init__ : FuncData
  F_Names___init__ : Fun K "__init__" "Names.__init__" s_Names___init__ f_Names___init__ d_Names___init__
  b_Names___init__ : Binds K d_Names___init__ ["self", "low", "high"] []
  f_law_fact : Addr
  d_law_fact : FuncData
  F_law_fact : Fun K "_law_fact" "_law_fact" s_law_fact f_law_fact d_law_fact
  b_law_fact : Binds K d_law_fact ["state"] []
  g_law_fact : mg "_law_fact" = some (.ref f_law_fact)
  f_Region___init__ : Addr
  d_Region___init__ : FuncData
  F_Region___init__ : Fun K "__init__" "Region.__init__" s_Region___init__ f_Region___init__ d_Region___init__
  b_Region___init__ : Binds K d_Region___init__ ["self", "parent", "facts"] []
  f_Entry___init__ : Addr
  d_Entry___init__ : FuncData
  F_Entry___init__ : Fun K "__init__" "Entry.__init__" s_Entry___init__ f_Entry___init__ d_Entry___init__
  b_Entry___init__ : Binds K d_Entry___init__ ["self", "number", "record", "leaves"] []
  f_Offer___init__ : Addr
  d_Offer___init__ : FuncData
  F_Offer___init__ : Fun K "__init__" "Offer.__init__" s_Offer___init__ f_Offer___init__ d_Offer___init__
  b_Offer___init__ : Binds K d_Offer___init__ ["self", "partitions", "entries"] []
  f_law_offer : Addr
  d_law_offer : FuncData
  F_law_offer : Fun K "_law_offer" "_law_offer" s_law_offer f_law_offer d_law_offer
  b_law_offer : Binds K d_law_offer ["state"] []
  g_law_offer : mg "_law_offer" = some (.ref f_law_offer)
  f_list_code : Addr
  d_list_code : FuncData
  F_list_code : Fun K "list_code" "list_code" s_list_code f_list_code d_list_code
  b_list_code : Binds K d_list_code ["codes"] []
  g_list_code : mg "list_code" = some (.ref f_list_code)
  f_numbers_code : Addr
  d_numbers_code : FuncData
  F_numbers_code : Fun K "numbers_code" "numbers_code" s_numbers_code f_numbers_code d_numbers_code
  b_numbers_code : Binds K d_numbers_code ["numbers"] []
  g_numbers_code : mg "numbers_code" = some (.ref f_numbers_code)
  f_string_code : Addr
  d_string_code : FuncData
  F_string_code : Fun K "string_code" "string_code" s_string_code f_string_code d_string_code
  b_string_code : Binds K d_string_code ["text"] []
  g_string_code : mg "string_code" = some (.ref f_string_code)
  f_kind_of_value : Addr
  d_kind_of_value : FuncData
  F_kind_of_value : Fun K "kind_of_value" "kind_of_value" s_kind_of_value f_kind_of_value d_kind_of_value
  b_kind_of_value : Binds K d_kind_of_value ["worth"] []
  g_kind_of_value : mg "kind_of_value" = some (.ref f_kind_of_value)
  f_value_code : Addr
  d_value_code : FuncData
  F_value_code : Fun K "value_code" "value_code" s_value_code f_value_code d_value_code
  b_value_code : Binds K d_value_code ["worth"] []
  g_value_code : mg "value_code" = some (.ref f_value_code)
  f_maybe_code : Addr
  d_maybe_code : FuncData
  F_maybe_code : Fun K "maybe_code" "maybe_code" s_maybe_code f_maybe_code d_maybe_code
  b_maybe_code : Binds K d_maybe_code ["code"] []
  g_maybe_code : mg "maybe_code" = some (.ref f_maybe_code)
  f_words_code : Addr
  d_words_code : FuncData
  F_words_code : Fun K "words_code" "words_code" s_words_code f_words_code d_words_code
  b_words_code : Binds K d_words_code ["words"] []
  g_words_code : mg "words_code" = some (.ref f_words_code)
  f_part_code : Addr
  d_part_code : FuncData
  F_part_code : Fun K "part_code" "part_code" s_part_code f_part_code d_part_code
  b_part_code : Binds K d_part_code ["part"] []
  g_part_code : mg "part_code" = some (.ref f_part_code)
  f_fact_code : Addr
  d_fact_code : FuncData
  F_fact_code : Fun K "fact_code" "fact_code" s_fact_code f_fact_code d_fact_code
  b_fact_code : Binds K d_fact_code ["fact"] []
  g_fact_code : mg "fact_code" = some (.ref f_fact_code)
  f_region_code : Addr
  d_region_code : FuncData
  F_region_code : Fun K "region_code" "region_code" s_region_code f_region_code d_region_code
  b_region_code : Binds K d_region_code ["region"] []
  g_region_code : mg "region_code" = some (.ref f_region_code)
  f_partition_code : Addr
  d_partition_code : FuncData
  F_partition_code : Fun K "partition_code" "partition_code" s_partition_code f_partition_code d_partition_code
  b_partition_code : Binds K d_partition_code ["regions"] []
  g_partition_code : mg "partition_code" = some (.ref f_partition_code)
  f_record_code : Addr
  d_record_code : FuncData
  F_record_code : Fun K "record_code" "record_code" s_record_code f_record_code d_record_code
  b_record_code : Binds K d_record_code ["record"] []
  g_record_code : mg "record_code" = some (.ref f_record_code)
  f_entry_code : Addr
  d_entry_code : FuncData
  F_entry_code : Fun K "entry_code" "entry_code" s_entry_code f_entry_code d_entry_code
  b_entry_code : Binds K d_entry_code ["entry"] []
  g_entry_code : mg "entry_code" = some (.ref f_entry_code)
  f_offer_code : Addr
  d_offer_code : FuncData
  F_offer_code : Fun K "offer_code" "offer_code" s_offer_code f_offer_code d_offer_code
  b_offer_code : Binds K d_offer_code ["offer"] []
  g_offer_code : mg "offer_code" = some (.ref f_offer_code)
  f_law_text : Addr
  d_law_text : FuncData
  F_law_text : Fun K "_law_text" "_law_text" s_law_text f_law_text d_law_text
  b_law_text : Binds K d_law_text ["text"] []
  g_law_text : mg "_law_text" = some (.ref f_law_text)
  f_law_value : Addr
  d_law_value : FuncData
  F_law_value : Fun K "_law_value" "_law_value" s_law_value f_law_value d_law_value
  b_law_value : Binds K d_law_value ["worth"] []
  g_law_value : mg "_law_value" = some (.ref f_law_value)
  f_law_list : Addr
  d_law_list : FuncData
  F_law_list : Fun K "_law_list" "_law_list" s_law_list f_law_list d_law_list
  b_law_list : Binds K d_law_list ["codes"] []
  g_law_list : mg "_law_list" = some (.ref f_law_list)
  f_law_counted : Addr
  d_law_counted : FuncData
  F_law_counted : Fun K "_law_counted" "_law_counted" s_law_counted f_law_counted d_law_counted
  b_law_counted : Binds K d_law_counted ["row"] []
  g_law_counted : mg "_law_counted" = some (.ref f_law_counted)
  f_law_fact_due : Addr
  d_law_fact_due : FuncData
  F_law_fact_due : Fun K "_law_fact_due" "_law_fact_due" s_law_fact_due f_law_fact_due d_law_fact_due
  b_law_fact_due : Binds K d_law_fact_due ["fact"] []
  g_law_fact_due : mg "_law_fact_due" = some (.ref f_law_fact_due)
  f_law_record_due : Addr
  d_law_record_due : FuncData
  F_law_record_due : Fun K "_law_record_due" "_law_record_due" s_law_record_due f_law_record_due d_law_record_due
  b_law_record_due : Binds K d_law_record_due ["record"] []
  g_law_record_due : mg "_law_record_due" = some (.ref f_law_record_due)
  f_law_region_due : Addr
  d_law_region_due : FuncData
  F_law_region_due : Fun K "_law_region_due" "_law_region_due" s_law_region_due f_law_region_due d_law_region_due
  b_law_region_due : Binds K d_law_region_due ["region"] []
  g_law_region_due : mg "_law_region_due" = some (.ref f_law_region_due)
  f_law_parts_agree : Addr
  d_law_parts_agree : FuncData
  F_law_parts_agree : Fun K "_law_parts_agree" "_law_parts_agree" s_law_parts_agree f_law_parts_agree d_law_parts_agree
  b_law_parts_agree : Binds K d_law_parts_agree ["state"] []
  g_law_parts_agree : mg "_law_parts_agree" = some (.ref f_law_parts_agree)
  f_law : Addr
  d_law : FuncData
  F_law : Fun K "law" "law" s_law f_law d_law
  b_law : Binds K d_law ["script"] []
  g_law : mg "law" = some (.ref f_law)
  c_Record : Addr
  cl_Record : Cls K c_Record
  mc_Record : mg "Record" = some (.ref c_Record)
  n_Record_name : NoAttr K c_Record "name"
  n_Record_vector : NoAttr K c_Record "vector"
  n_Record_fields : NoAttr K c_Record "fields"
  n_Record_words : NoAttr K c_Record "words"
  mk_Record : Mk K c_Record f_Record___init__
  c_Part : Addr
  cl_Part : Cls K c_Part
  mc_Part : mg "Part" = some (.ref c_Part)
  n_Part_start : NoAttr K c_Part "start"
  n_Part_centre : NoAttr K c_Part "centre"
  n_Part_radius : NoAttr K c_Part "radius"
  mk_Part : Mk K c_Part f_Part___init__
  c_Parts : Addr
  cl_Parts : Cls K c_Parts
  mc_Parts : mg "Parts" = some (.ref c_Parts)
  n_Parts_parts : NoAttr K c_Parts "parts"
  mk_Parts : Mk K c_Parts f_Parts___init__
  ha_Parts : PySem.W.findIn K (.ref c_Parts) "__class__" = some (some (.builtin "object.__class__"))
  hm_Parts : PySem.W.mroIn K c_Parts (.type "object") = some true
  c_Cell : Addr
  cl_Cell : Cls K c_Cell
  mc_Cell : mg "Cell" = some (.ref c_Cell)
  n_Cell_near : NoAttr K c_Cell "near"
  n_Cell_rival : NoAttr K c_Cell "rival"
  mk_Cell : Mk K c_Cell f_Cell___init__
  ha_Cell : PySem.W.findIn K (.ref c_Cell) "__class__" = some (some (.builtin "object.__class__"))
  hm_Cell : PySem.W.mroIn K c_Cell (.type "object") = some true
  c_Box : Addr
  cl_Box : Cls K c_Box
  mc_Box : mg "Box" = some (.ref c_Box)
  n_Box_low : NoAttr K c_Box "low"
  n_Box_high : NoAttr K c_Box "high"
  mk_Box : Mk K c_Box f_Box___init__
  ha_Box : PySem.W.findIn K (.ref c_Box) "__class__" = some (some (.builtin "object.__class__"))
  hm_Box : PySem.W.mroIn K c_Box (.type "object") = some true
  c_Norms : Addr
  cl_Norms : Cls K c_Norms
  mc_Norms : mg "Norms" = some (.ref c_Norms)
  n_Norms_low : NoAttr K c_Norms "low"
  n_Norms_high : NoAttr K c_Norms "high"
  mk_Norms : Mk K c_Norms f_Norms___init__
  ha_Norms : PySem.W.findIn K (.ref c_Norms) "__class__" = some (some (.builtin "object.__class__"))
  hm_Norms : PySem.W.mroIn K c_Norms (.type "object") = some true
  c_Differ : Addr
  cl_Differ : Cls K c_Differ
  mc_Differ : mg "Differ" = some (.ref c_Differ)
  n_Differ_centre : NoAttr K c_Differ "centre"
  n_Differ_most : NoAttr K c_Differ "most"
  mk_Differ : Mk K c_Differ f_Differ___init__
  ha_Differ : PySem.W.findIn K (.ref c_Differ) "__class__" = some (some (.builtin "object.__class__"))
  hm_Differ : PySem.W.mroIn K c_Differ (.type "object") = some true
  c_Range : Addr
  cl_Range : Cls K c_Range
  mc_Range : mg "Range" = some (.ref c_Range)
  n_Range_field : NoAttr K c_Range "field"
  n_Range_low : NoAttr K c_Range "low"
  n_Range_high : NoAttr K c_Range "high"
  n_Range_lack : NoAttr K c_Range "lack"
  mk_Range : Mk K c_Range f_Range___init__
  ha_Range : PySem.W.findIn K (.ref c_Range) "__class__" = some (some (.builtin "object.__class__"))
  hm_Range : PySem.W.mroIn K c_Range (.type "object") = some true
  c_Values : Addr
  cl_Values : Cls K c_Values
  mc_Values : mg "Values" = some (.ref c_Values)
  n_Values_field : NoAttr K c_Values "field"
  n_Values_choices : NoAttr K c_Values "choices"
  n_Values_lack : NoAttr K c_Values "lack"
  mk_Values : Mk K c_Values f_Values___init__
  ha_Values : PySem.W.findIn K (.ref c_Values) "__class__" = some (some (.builtin "object.__class__"))
  hm_Values : PySem.W.mroIn K c_Values (.type "object") = some true
  c_Counts : Addr
  cl_Counts : Cls K c_Counts
  mc_Counts : mg "Counts" = some (.ref c_Counts)
  n_Counts_words : NoAttr K c_Counts "words"
  n_Counts_bounds : NoAttr K c_Counts "bounds"
  mk_Counts : Mk K c_Counts f_Counts___init__
  ha_Counts : PySem.W.findIn K (.ref c_Counts) "__class__" = some (some (.builtin "object.__class__"))
  hm_Counts : PySem.W.mroIn K c_Counts (.type "object") = some true
  c_Names : Addr
  cl_Names : Cls K c_Names
  mc_Names : mg "Names" = some (.ref c_Names)
  n_Names_low : NoAttr K c_Names "low"
  n_Names_high : NoAttr K c_Names "high"
  mk_Names : Mk K c_Names f_Names___init__
  ha_Names : PySem.W.findIn K (.ref c_Names) "__class__" = some (some (.builtin "object.__class__"))
  hm_Names : PySem.W.mroIn K c_Names (.type "object") = some true
  c_Region : Addr
  cl_Region : Cls K c_Region
  mc_Region : mg "Region" = some (.ref c_Region)
  n_Region_parent : NoAttr K c_Region "parent"
  n_Region_facts : NoAttr K c_Region "facts"
  mk_Region : Mk K c_Region f_Region___init__
  c_Entry : Addr
  cl_Entry : Cls K c_Entry
  mc_Entry : mg "Entry" = some (.ref c_Entry)
  n_Entry_number : NoAttr K c_Entry "number"
  n_Entry_record : NoAttr K c_Entry "record"
  n_Entry_leaves : NoAttr K c_Entry "leaves"
  mk_Entry : Mk K c_Entry f_Entry___init__
  c_Offer : Addr
  cl_Offer : Cls K c_Offer
  mc_Offer : mg "Offer" = some (.ref c_Offer)
  n_Offer_partitions : NoAttr K c_Offer "partitions"
  n_Offer_entries : NoAttr K c_Offer "entries"
  mk_Offer : Mk K c_Offer f_Offer___init__
  kit_Parts_Parts : PySem.W.kitOne K (.ref c_Parts) (.ref c_Parts) = some true
  kit_Cell_Parts : PySem.W.kitOne K (.ref c_Cell) (.ref c_Parts) = some false
  kit_Box_Parts : PySem.W.kitOne K (.ref c_Box) (.ref c_Parts) = some false
  kit_Norms_Parts : PySem.W.kitOne K (.ref c_Norms) (.ref c_Parts) = some false
  kit_Differ_Parts : PySem.W.kitOne K (.ref c_Differ) (.ref c_Parts) = some false
  kit_Range_Parts : PySem.W.kitOne K (.ref c_Range) (.ref c_Parts) = some false
  kit_Values_Parts : PySem.W.kitOne K (.ref c_Values) (.ref c_Parts) = some false
  kit_Counts_Parts : PySem.W.kitOne K (.ref c_Counts) (.ref c_Parts) = some false
  kit_Names_Parts : PySem.W.kitOne K (.ref c_Names) (.ref c_Parts) = some false
  kit_Parts_Cell : PySem.W.kitOne K (.ref c_Parts) (.ref c_Cell) = some false
  kit_Cell_Cell : PySem.W.kitOne K (.ref c_Cell) (.ref c_Cell) = some true
  kit_Box_Cell : PySem.W.kitOne K (.ref c_Box) (.ref c_Cell) = some false
  kit_Norms_Cell : PySem.W.kitOne K (.ref c_Norms) (.ref c_Cell) = some false
  kit_Differ_Cell : PySem.W.kitOne K (.ref c_Differ) (.ref c_Cell) = some false
  kit_Range_Cell : PySem.W.kitOne K (.ref c_Range) (.ref c_Cell) = some false
  kit_Values_Cell : PySem.W.kitOne K (.ref c_Values) (.ref c_Cell) = some false
  kit_Counts_Cell : PySem.W.kitOne K (.ref c_Counts) (.ref c_Cell) = some false
  kit_Names_Cell : PySem.W.kitOne K (.ref c_Names) (.ref c_Cell) = some false
  kit_Parts_Box : PySem.W.kitOne K (.ref c_Parts) (.ref c_Box) = some false
  kit_Cell_Box : PySem.W.kitOne K (.ref c_Cell) (.ref c_Box) = some false
  kit_Box_Box : PySem.W.kitOne K (.ref c_Box) (.ref c_Box) = some true
  kit_Norms_Box : PySem.W.kitOne K (.ref c_Norms) (.ref c_Box) = some false
  kit_Differ_Box : PySem.W.kitOne K (.ref c_Differ) (.ref c_Box) = some false
  kit_Range_Box : PySem.W.kitOne K (.ref c_Range) (.ref c_Box) = some false
  kit_Values_Box : PySem.W.kitOne K (.ref c_Values) (.ref c_Box) = some false
  kit_Counts_Box : PySem.W.kitOne K (.ref c_Counts) (.ref c_Box) = some false
  kit_Names_Box : PySem.W.kitOne K (.ref c_Names) (.ref c_Box) = some false
  kit_Parts_Norms : PySem.W.kitOne K (.ref c_Parts) (.ref c_Norms) = some false
  kit_Cell_Norms : PySem.W.kitOne K (.ref c_Cell) (.ref c_Norms) = some false
  kit_Box_Norms : PySem.W.kitOne K (.ref c_Box) (.ref c_Norms) = some false
  kit_Norms_Norms : PySem.W.kitOne K (.ref c_Norms) (.ref c_Norms) = some true
  kit_Differ_Norms : PySem.W.kitOne K (.ref c_Differ) (.ref c_Norms) = some false
  kit_Range_Norms : PySem.W.kitOne K (.ref c_Range) (.ref c_Norms) = some false
  kit_Values_Norms : PySem.W.kitOne K (.ref c_Values) (.ref c_Norms) = some false
  kit_Counts_Norms : PySem.W.kitOne K (.ref c_Counts) (.ref c_Norms) = some false
  kit_Names_Norms : PySem.W.kitOne K (.ref c_Names) (.ref c_Norms) = some false
  kit_Parts_Differ : PySem.W.kitOne K (.ref c_Parts) (.ref c_Differ) = some false
  kit_Cell_Differ : PySem.W.kitOne K (.ref c_Cell) (.ref c_Differ) = some false
  kit_Box_Differ : PySem.W.kitOne K (.ref c_Box) (.ref c_Differ) = some false
  kit_Norms_Differ : PySem.W.kitOne K (.ref c_Norms) (.ref c_Differ) = some false
  kit_Differ_Differ : PySem.W.kitOne K (.ref c_Differ) (.ref c_Differ) = some true
  kit_Range_Differ : PySem.W.kitOne K (.ref c_Range) (.ref c_Differ) = some false
  kit_Values_Differ : PySem.W.kitOne K (.ref c_Values) (.ref c_Differ) = some false
  kit_Counts_Differ : PySem.W.kitOne K (.ref c_Counts) (.ref c_Differ) = some false
  kit_Names_Differ : PySem.W.kitOne K (.ref c_Names) (.ref c_Differ) = some false
  kit_Parts_Range : PySem.W.kitOne K (.ref c_Parts) (.ref c_Range) = some false
  kit_Cell_Range : PySem.W.kitOne K (.ref c_Cell) (.ref c_Range) = some false
  kit_Box_Range : PySem.W.kitOne K (.ref c_Box) (.ref c_Range) = some false
  kit_Norms_Range : PySem.W.kitOne K (.ref c_Norms) (.ref c_Range) = some false
  kit_Differ_Range : PySem.W.kitOne K (.ref c_Differ) (.ref c_Range) = some false
  kit_Range_Range : PySem.W.kitOne K (.ref c_Range) (.ref c_Range) = some true
  kit_Values_Range : PySem.W.kitOne K (.ref c_Values) (.ref c_Range) = some false
  kit_Counts_Range : PySem.W.kitOne K (.ref c_Counts) (.ref c_Range) = some false
  kit_Names_Range : PySem.W.kitOne K (.ref c_Names) (.ref c_Range) = some false
  kit_Parts_Values : PySem.W.kitOne K (.ref c_Parts) (.ref c_Values) = some false
  kit_Cell_Values : PySem.W.kitOne K (.ref c_Cell) (.ref c_Values) = some false
  kit_Box_Values : PySem.W.kitOne K (.ref c_Box) (.ref c_Values) = some false
  kit_Norms_Values : PySem.W.kitOne K (.ref c_Norms) (.ref c_Values) = some false
  kit_Differ_Values : PySem.W.kitOne K (.ref c_Differ) (.ref c_Values) = some false
  kit_Range_Values : PySem.W.kitOne K (.ref c_Range) (.ref c_Values) = some false
  kit_Values_Values : PySem.W.kitOne K (.ref c_Values) (.ref c_Values) = some true
  kit_Counts_Values : PySem.W.kitOne K (.ref c_Counts) (.ref c_Values) = some false
  kit_Names_Values : PySem.W.kitOne K (.ref c_Names) (.ref c_Values) = some false
  kit_Parts_Counts : PySem.W.kitOne K (.ref c_Parts) (.ref c_Counts) = some false
  kit_Cell_Counts : PySem.W.kitOne K (.ref c_Cell) (.ref c_Counts) = some false
  kit_Box_Counts : PySem.W.kitOne K (.ref c_Box) (.ref c_Counts) = some false
  kit_Norms_Counts : PySem.W.kitOne K (.ref c_Norms) (.ref c_Counts) = some false
  kit_Differ_Counts : PySem.W.kitOne K (.ref c_Differ) (.ref c_Counts) = some false
  kit_Range_Counts : PySem.W.kitOne K (.ref c_Range) (.ref c_Counts) = some false
  kit_Values_Counts : PySem.W.kitOne K (.ref c_Values) (.ref c_Counts) = some false
  kit_Counts_Counts : PySem.W.kitOne K (.ref c_Counts) (.ref c_Counts) = some true
  kit_Names_Counts : PySem.W.kitOne K (.ref c_Names) (.ref c_Counts) = some false
  hn0 : PySem.W.specialIn K (.builtin "object.__class__") "__get__" = some (some (.builtin "getset_descriptor.__get__"))
  ht0 : PySem.W.takesIn K (.builtin "object.__class__") = some true
  m_BOX : ∃ t, mg "BOX" = some (.int 3 t)
  m_CELL : ∃ t, mg "CELL" = some (.int 2 t)
  m_COUNTS : ∃ t, mg "COUNTS" = some (.int 8 t)
  m_DIFFER : ∃ t, mg "DIFFER" = some (.int 5 t)
  a_LACKS : Addr
  m_LACKS : mg "LACKS" = some (.ref a_LACKS)
  sq_LACKS : ∀ H, SqT K H a_LACKS [.str "nobody", .str "some", .str "all"]
  dn_LACKS : ∃ o, K.lookup a_LACKS = some o ∧ o.cls = .type "tuple" ∧ o.dict = none
  m_NAMES : ∃ t, mg "NAMES" = some (.int 9 t)
  m_NORMS : ∃ t, mg "NORMS" = some (.int 4 t)
  m_PARTS : ∃ t, mg "PARTS" = some (.int 1 t)
  m_RANGE : ∃ t, mg "RANGE" = some (.int 6 t)
  m_VALUES : ∃ t, mg "VALUES" = some (.int 7 t)
  m_bool : mg "bool" = none
  m_int : mg "int" = none
  m_isinstance : mg "isinstance" = none
  m_len : mg "len" = none
  m_list : mg "list" = none
  m_max : mg "max" = none
  m_ord : mg "ord" = none
  m_range : mg "range" = none
  m_str : mg "str" = none
  m_tuple : mg "tuple" = none
section
variable {P : Program} {w : World} {K : PySem.W.Frag} {mg : Str → Option Value} {base : Heap}
def y_Val (T : Txt K mg) : Ty Val := ⟨fun Z v x => match x with
  | .i y => (yInt).r Z v y
  | .s y => (yStr).r Z v y
  | .b y => (yBool).r Z v y,
  fun {Z Z2 v x} s h => match x, h with
  | .i y, h => (yInt).mono s h
  | .s y, h => (yStr).mono s h
  | .b y, h => (yBool).mono s h⟩
theorem nn_Val (T : Txt K mg) : NonNil (y_Val T) := fun Z v x h => match x, h with
  | .i y, h => nn_int Z v y h
  | .s y, h => nn_str Z v y h
  | .b y, h => nn_bool Z v y h
theorem ij_Val_i (T : Txt K mg) {μ : Type} {M : Mu μ} {σ : L2.St} {Z H : Hp} {s s1 : μ} {ta : TE} {x : Int} (h : Ev M ta σ Z H s (ty yInt x) s1) : Ev M ta σ Z H s (ty (y_Val T) (.i x)) s1 := h.weak fun _ _ _ _ e => e
theorem pj_Val_i (T : Txt K mg) {μ : Type} {M : Mu μ} {σ : L2.St} {Z H : Hp} {s s1 : μ} {ta : TE} {x : Val} {y : Int} (h : Ev M ta σ Z H s (ty (y_Val T) x) s1) (e : x.p_i = some y) : Ev M ta σ Z H s (ty yInt y) s1 := by
  cases x <;> first | (have e := Option.some.inj e; subst e; exact h.weak fun _ _ _ _ e => e) | cases e
theorem ij_Val_s (T : Txt K mg) {μ : Type} {M : Mu μ} {σ : L2.St} {Z H : Hp} {s s1 : μ} {ta : TE} {x : Str} (h : Ev M ta σ Z H s (ty yStr x) s1) : Ev M ta σ Z H s (ty (y_Val T) (.s x)) s1 := h.weak fun _ _ _ _ e => e
theorem pj_Val_s (T : Txt K mg) {μ : Type} {M : Mu μ} {σ : L2.St} {Z H : Hp} {s s1 : μ} {ta : TE} {x : Val} {y : Str} (h : Ev M ta σ Z H s (ty (y_Val T) x) s1) (e : x.p_s = some y) : Ev M ta σ Z H s (ty yStr y) s1 := by
  cases x <;> first | (have e := Option.some.inj e; subst e; exact h.weak fun _ _ _ _ e => e) | cases e
theorem ij_Val_b (T : Txt K mg) {μ : Type} {M : Mu μ} {σ : L2.St} {Z H : Hp} {s s1 : μ} {ta : TE} {x : Bool} (h : Ev M ta σ Z H s (ty yBool x) s1) : Ev M ta σ Z H s (ty (y_Val T) (.b x)) s1 := h.weak fun _ _ _ _ e => e
theorem pj_Val_b (T : Txt K mg) {μ : Type} {M : Mu μ} {σ : L2.St} {Z H : Hp} {s s1 : μ} {ta : TE} {x : Val} {y : Bool} (h : Ev M ta σ Z H s (ty (y_Val T) x) s1) (e : x.p_b = some y) : Ev M ta σ Z H s (ty yBool y) s1 := by
  cases x <;> first | (have e := Option.some.inj e; subst e; exact h.weak fun _ _ _ _ e => e) | cases e
theorem eqw_Val (T : Txt K mg) : EqW K (y_Val T) d_Val 8 where
  dp := fun Z H v x sz h => match x, h with
    | .i y, h => EqW.dp (K := K) (τ := yInt) eqd_int.w Z H v y sz h
    | .s y, h => EqW.dp (K := K) (τ := yStr) eqd_str.w Z H v y sz h
    | .b y, h => EqW.dp (K := K) (τ := yBool) eqd_bool.w Z H v y sz h
  lay := fun Z v x h => match x, h with
    | .i y, h => EqW.lay (K := K) (τ := yInt) eqd_int.w Z v y h
    | .s y, h => EqW.lay (K := K) (τ := yStr) eqd_str.w Z v y h
    | .b y, h => EqW.lay (K := K) (τ := yBool) eqd_bool.w Z v y h
  dep := fun x => match x with
    | .i y => Nat.le_trans (EqW.dep (K := K) (τ := yInt) eqd_int.w y) (by decide)
    | .s y => Nat.le_trans (EqW.dep (K := K) (τ := yStr) eqd_str.w y) (by decide)
    | .b y => Nat.le_trans (EqW.dep (K := K) (τ := yBool) eqd_bool.w y) (by decide)
def cls_Val (T : Txt K mg) : Val → Value
  | .i _ => (.type "int")
  | .s _ => (.type "str")
  | .b _ => (.type "bool")
theorem tx_Val (T : Txt K mg) {fp : List Addr} {x : Val} : ∀ Z H v, Same Z H → (ty (fp := fp) (y_Val T) x).r Z H v → TyX K H v (cls_Val T x) := fun Z H v sz h => match x, h with
  | .i y, h => tx_int Z H v sz (show (ty (fp := fp) yInt y).r Z H v from h)
  | .s y, h => tx_str Z H v sz (show (ty (fp := fp) yStr y).r Z H v from h)
  | .b y, h => tx_bool Z H v sz (show (ty (fp := fp) yBool y).r Z H v from h)
theorem kit_Val_bool (T : Txt K mg) (x : Val) : PySem.W.kitOne K (cls_Val T x) (.type "bool") = some (x.is_bool) := match x with
  | .i _ => (show PySem.W.kitOne K (.type "int") (.type "bool") = some false from (kit_ty (by decide +kernel)))
  | .s _ => (show PySem.W.kitOne K (.type "str") (.type "bool") = some false from (kit_ty (by decide +kernel)))
  | .b _ => (show PySem.W.kitOne K (.type "bool") (.type "bool") = some true from (kit_ty (by decide +kernel)))
theorem kit_Val_int (T : Txt K mg) (x : Val) : PySem.W.kitOne K (cls_Val T x) (.type "int") = some (x.is_int) := match x with
  | .i _ => (show PySem.W.kitOne K (.type "int") (.type "int") = some true from (kit_ty (by decide +kernel)))
  | .s _ => (show PySem.W.kitOne K (.type "str") (.type "int") = some false from (kit_ty (by decide +kernel)))
  | .b _ => (show PySem.W.kitOne K (.type "bool") (.type "int") = some true from (kit_ty (by decide +kernel)))
theorem kit_Val_str (T : Txt K mg) (x : Val) : PySem.W.kitOne K (cls_Val T x) (.type "str") = some (x.is_str) := match x with
  | .i _ => (show PySem.W.kitOne K (.type "int") (.type "str") = some false from (kit_ty (by decide +kernel)))
  | .s _ => (show PySem.W.kitOne K (.type "str") (.type "str") = some true from (kit_ty (by decide +kernel)))
  | .b _ => (show PySem.W.kitOne K (.type "bool") (.type "str") = some false from (kit_ty (by decide +kernel)))
def y_Record (T : Txt K mg) : Ty Record := ⟨fun Z v x => ∃ a dx w0 w1 w2 w3, v = .ref a ∧ Z a = some (.ins T.c_Record dx (ff_Record w0 w1 w2 w3)) ∧ (yStr).r Z w0 x.name ∧ ((yTup K yInt)).r Z w1 x.vector ∧ ((yTup K (yP2 K yStr (y_Val T)))).r Z w2 x.fields ∧ ((yTup K (yP2 K yStr yInt))).r Z w3 x.words,
  fun s ⟨a, dx, w0, w1, w2, w3, e, h, h0, h1, h2, h3⟩ => ⟨a, dx, w0, w1, w2, w3, e, s _ _ h, (yStr).mono s h0, ((yTup K yInt)).mono s h1, ((yTup K (yP2 K yStr (y_Val T)))).mono s h2, ((yTup K (yP2 K yStr yInt))).mono s h3⟩⟩
theorem nn_Record (T : Txt K mg) : NonNil (y_Record T) := fun _ _ _ ⟨_, _, _, _, _, _, e, _⟩ => by rw [e]; exact fun z => nomatch z
theorem fo_Record_name (T : Txt K mg) : FldOf (y_Record T) T.c_Record "name" yStr Record.name := fun _ _ _ ⟨a, dx, w0, w1, w2, w3, e, h, h0, h1, h2, h3⟩ => ⟨a, dx, _, w0, e, h, lk_Record_name, h0⟩
theorem fo_Record_vector (T : Txt K mg) : FldOf (y_Record T) T.c_Record "vector" (yTup K yInt) Record.vector := fun _ _ _ ⟨a, dx, w0, w1, w2, w3, e, h, h0, h1, h2, h3⟩ => ⟨a, dx, _, w1, e, h, lk_Record_vector, h1⟩
theorem fo_Record_fields (T : Txt K mg) : FldOf (y_Record T) T.c_Record "fields" (yTup K (yP2 K yStr (y_Val T))) Record.fields := fun _ _ _ ⟨a, dx, w0, w1, w2, w3, e, h, h0, h1, h2, h3⟩ => ⟨a, dx, _, w2, e, h, lk_Record_fields, h2⟩
theorem fo_Record_words (T : Txt K mg) : FldOf (y_Record T) T.c_Record "words" (yTup K (yP2 K yStr yInt)) Record.words := fun _ _ _ ⟨a, dx, w0, w1, w2, w3, e, h, h0, h1, h2, h3⟩ => ⟨a, dx, _, w3, e, h, lk_Record_words, h3⟩
theorem oo_Record (T : Txt K mg) {m : Str} (h : ¬ m = "name" ∧ ¬ m = "vector" ∧ ¬ m = "fields" ∧ ¬ m = "words") : ObjOf (y_Record T) T.c_Record m := fun _ _ _ ⟨a, dx, w0, w1, w2, w3, e, g, _⟩ => ⟨a, dx, _, e, g, no_Record (h.1) (h.2.1) (h.2.2.1) (h.2.2.2)⟩
def y_Part (T : Txt K mg) : Ty Part := ⟨fun Z v x => ∃ a dx w0 w1 w2, v = .ref a ∧ Z a = some (.ins T.c_Part dx (ff_Part w0 w1 w2)) ∧ (yInt).r Z w0 x.start ∧ ((yTup K yInt)).r Z w1 x.centre ∧ (yInt).r Z w2 x.radius,
  fun s ⟨a, dx, w0, w1, w2, e, h, h0, h1, h2⟩ => ⟨a, dx, w0, w1, w2, e, s _ _ h, (yInt).mono s h0, ((yTup K yInt)).mono s h1, (yInt).mono s h2⟩⟩
theorem nn_Part (T : Txt K mg) : NonNil (y_Part T) := fun _ _ _ ⟨_, _, _, _, _, e, _⟩ => by rw [e]; exact fun z => nomatch z
theorem fo_Part_start (T : Txt K mg) : FldOf (y_Part T) T.c_Part "start" yInt Part.start := fun _ _ _ ⟨a, dx, w0, w1, w2, e, h, h0, h1, h2⟩ => ⟨a, dx, _, w0, e, h, lk_Part_start, h0⟩
theorem fo_Part_centre (T : Txt K mg) : FldOf (y_Part T) T.c_Part "centre" (yTup K yInt) Part.centre := fun _ _ _ ⟨a, dx, w0, w1, w2, e, h, h0, h1, h2⟩ => ⟨a, dx, _, w1, e, h, lk_Part_centre, h1⟩
theorem fo_Part_radius (T : Txt K mg) : FldOf (y_Part T) T.c_Part "radius" yInt Part.radius := fun _ _ _ ⟨a, dx, w0, w1, w2, e, h, h0, h1, h2⟩ => ⟨a, dx, _, w2, e, h, lk_Part_radius, h2⟩
theorem oo_Part (T : Txt K mg) {m : Str} (h : ¬ m = "start" ∧ ¬ m = "centre" ∧ ¬ m = "radius") : ObjOf (y_Part T) T.c_Part m := fun _ _ _ ⟨a, dx, w0, w1, w2, e, g, _⟩ => ⟨a, dx, _, e, g, no_Part (h.1) (h.2.1) (h.2.2)⟩
def y_Parts (T : Txt K mg) : Ty Parts := ⟨fun Z v x => ∃ a dx w0, v = .ref a ∧ Z a = some (.ins T.c_Parts dx (ff_Parts w0)) ∧ ((yTup K (y_Part T))).r Z w0 x.parts,
  fun s ⟨a, dx, w0, e, h, h0⟩ => ⟨a, dx, w0, e, s _ _ h, ((yTup K (y_Part T))).mono s h0⟩⟩
theorem nn_Parts (T : Txt K mg) : NonNil (y_Parts T) := fun _ _ _ ⟨_, _, _, e, _⟩ => by rw [e]; exact fun z => nomatch z
theorem fo_Parts_parts (T : Txt K mg) : FldOf (y_Parts T) T.c_Parts "parts" (yTup K (y_Part T)) Parts.parts := fun _ _ _ ⟨a, dx, w0, e, h, h0⟩ => ⟨a, dx, _, w0, e, h, lk_Parts_parts, h0⟩
theorem tx_Parts (T : Txt K mg) {fp : List Addr} {x : Parts} : ∀ Z H v, Same Z H → (ty (fp := fp) (y_Parts T) x).r Z H v → TyX K H v (.ref T.c_Parts) := fun _ _ _ sz ⟨a, dx, w0, e, h, _⟩ => by subst e; exact .base (.ins (sz _ _ h) T.cl_Parts T.ha_Parts T.hn0 T.ht0 T.hm_Parts)
theorem oo_Parts (T : Txt K mg) {m : Str} (h : ¬ m = "parts") : ObjOf (y_Parts T) T.c_Parts m := fun _ _ _ ⟨a, dx, w0, e, g, _⟩ => ⟨a, dx, _, e, g, no_Parts (h)⟩
def y_Cell (T : Txt K mg) : Ty Cell := ⟨fun Z v x => ∃ a dx w0 w1, v = .ref a ∧ Z a = some (.ins T.c_Cell dx (ff_Cell w0 w1)) ∧ ((yTup K yInt)).r Z w0 x.near ∧ ((yTup K yInt)).r Z w1 x.rival,
  fun s ⟨a, dx, w0, w1, e, h, h0, h1⟩ => ⟨a, dx, w0, w1, e, s _ _ h, ((yTup K yInt)).mono s h0, ((yTup K yInt)).mono s h1⟩⟩
theorem nn_Cell (T : Txt K mg) : NonNil (y_Cell T) := fun _ _ _ ⟨_, _, _, _, e, _⟩ => by rw [e]; exact fun z => nomatch z
theorem fo_Cell_near (T : Txt K mg) : FldOf (y_Cell T) T.c_Cell "near" (yTup K yInt) Cell.near := fun _ _ _ ⟨a, dx, w0, w1, e, h, h0, h1⟩ => ⟨a, dx, _, w0, e, h, lk_Cell_near, h0⟩
theorem fo_Cell_rival (T : Txt K mg) : FldOf (y_Cell T) T.c_Cell "rival" (yTup K yInt) Cell.rival := fun _ _ _ ⟨a, dx, w0, w1, e, h, h0, h1⟩ => ⟨a, dx, _, w1, e, h, lk_Cell_rival, h1⟩
theorem tx_Cell (T : Txt K mg) {fp : List Addr} {x : Cell} : ∀ Z H v, Same Z H → (ty (fp := fp) (y_Cell T) x).r Z H v → TyX K H v (.ref T.c_Cell) := fun _ _ _ sz ⟨a, dx, w0, w1, e, h, _⟩ => by subst e; exact .base (.ins (sz _ _ h) T.cl_Cell T.ha_Cell T.hn0 T.ht0 T.hm_Cell)
theorem oo_Cell (T : Txt K mg) {m : Str} (h : ¬ m = "near" ∧ ¬ m = "rival") : ObjOf (y_Cell T) T.c_Cell m := fun _ _ _ ⟨a, dx, w0, w1, e, g, _⟩ => ⟨a, dx, _, e, g, no_Cell (h.1) (h.2)⟩
def y_Box (T : Txt K mg) : Ty Box := ⟨fun Z v x => ∃ a dx w0 w1, v = .ref a ∧ Z a = some (.ins T.c_Box dx (ff_Box w0 w1)) ∧ ((yTup K yInt)).r Z w0 x.low ∧ ((yTup K yInt)).r Z w1 x.high,
  fun s ⟨a, dx, w0, w1, e, h, h0, h1⟩ => ⟨a, dx, w0, w1, e, s _ _ h, ((yTup K yInt)).mono s h0, ((yTup K yInt)).mono s h1⟩⟩
theorem nn_Box (T : Txt K mg) : NonNil (y_Box T) := fun _ _ _ ⟨_, _, _, _, e, _⟩ => by rw [e]; exact fun z => nomatch z
theorem fo_Box_low (T : Txt K mg) : FldOf (y_Box T) T.c_Box "low" (yTup K yInt) Box.low := fun _ _ _ ⟨a, dx, w0, w1, e, h, h0, h1⟩ => ⟨a, dx, _, w0, e, h, lk_Box_low, h0⟩
theorem fo_Box_high (T : Txt K mg) : FldOf (y_Box T) T.c_Box "high" (yTup K yInt) Box.high := fun _ _ _ ⟨a, dx, w0, w1, e, h, h0, h1⟩ => ⟨a, dx, _, w1, e, h, lk_Box_high, h1⟩
theorem tx_Box (T : Txt K mg) {fp : List Addr} {x : Box} : ∀ Z H v, Same Z H → (ty (fp := fp) (y_Box T) x).r Z H v → TyX K H v (.ref T.c_Box) := fun _ _ _ sz ⟨a, dx, w0, w1, e, h, _⟩ => by subst e; exact .base (.ins (sz _ _ h) T.cl_Box T.ha_Box T.hn0 T.ht0 T.hm_Box)
theorem oo_Box (T : Txt K mg) {m : Str} (h : ¬ m = "low" ∧ ¬ m = "high") : ObjOf (y_Box T) T.c_Box m := fun _ _ _ ⟨a, dx, w0, w1, e, g, _⟩ => ⟨a, dx, _, e, g, no_Box (h.1) (h.2)⟩
def y_Norms (T : Txt K mg) : Ty Norms := ⟨fun Z v x => ∃ a dx w0 w1, v = .ref a ∧ Z a = some (.ins T.c_Norms dx (ff_Norms w0 w1)) ∧ (yInt).r Z w0 x.low ∧ (yInt).r Z w1 x.high,
  fun s ⟨a, dx, w0, w1, e, h, h0, h1⟩ => ⟨a, dx, w0, w1, e, s _ _ h, (yInt).mono s h0, (yInt).mono s h1⟩⟩
theorem nn_Norms (T : Txt K mg) : NonNil (y_Norms T) := fun _ _ _ ⟨_, _, _, _, e, _⟩ => by rw [e]; exact fun z => nomatch z
theorem fo_Norms_low (T : Txt K mg) : FldOf (y_Norms T) T.c_Norms "low" yInt Norms.low := fun _ _ _ ⟨a, dx, w0, w1, e, h, h0, h1⟩ => ⟨a, dx, _, w0, e, h, lk_Norms_low, h0⟩
theorem fo_Norms_high (T : Txt K mg) : FldOf (y_Norms T) T.c_Norms "high" yInt Norms.high := fun _ _ _ ⟨a, dx, w0, w1, e, h, h0, h1⟩ => ⟨a, dx, _, w1, e, h, lk_Norms_high, h1⟩
theorem tx_Norms (T : Txt K mg) {fp : List Addr} {x : Norms} : ∀ Z H v, Same Z H → (ty (fp := fp) (y_Norms T) x).r Z H v → TyX K H v (.ref T.c_Norms) := fun _ _ _ sz ⟨a, dx, w0, w1, e, h, _⟩ => by subst e; exact .base (.ins (sz _ _ h) T.cl_Norms T.ha_Norms T.hn0 T.ht0 T.hm_Norms)
theorem oo_Norms (T : Txt K mg) {m : Str} (h : ¬ m = "low" ∧ ¬ m = "high") : ObjOf (y_Norms T) T.c_Norms m := fun _ _ _ ⟨a, dx, w0, w1, e, g, _⟩ => ⟨a, dx, _, e, g, no_Norms (h.1) (h.2)⟩
def y_Differ (T : Txt K mg) : Ty Differ := ⟨fun Z v x => ∃ a dx w0 w1, v = .ref a ∧ Z a = some (.ins T.c_Differ dx (ff_Differ w0 w1)) ∧ ((yTup K yInt)).r Z w0 x.centre ∧ (yInt).r Z w1 x.most,
  fun s ⟨a, dx, w0, w1, e, h, h0, h1⟩ => ⟨a, dx, w0, w1, e, s _ _ h, ((yTup K yInt)).mono s h0, (yInt).mono s h1⟩⟩
theorem nn_Differ (T : Txt K mg) : NonNil (y_Differ T) := fun _ _ _ ⟨_, _, _, _, e, _⟩ => by rw [e]; exact fun z => nomatch z
theorem fo_Differ_centre (T : Txt K mg) : FldOf (y_Differ T) T.c_Differ "centre" (yTup K yInt) Differ.centre := fun _ _ _ ⟨a, dx, w0, w1, e, h, h0, h1⟩ => ⟨a, dx, _, w0, e, h, lk_Differ_centre, h0⟩
theorem fo_Differ_most (T : Txt K mg) : FldOf (y_Differ T) T.c_Differ "most" yInt Differ.most := fun _ _ _ ⟨a, dx, w0, w1, e, h, h0, h1⟩ => ⟨a, dx, _, w1, e, h, lk_Differ_most, h1⟩
theorem tx_Differ (T : Txt K mg) {fp : List Addr} {x : Differ} : ∀ Z H v, Same Z H → (ty (fp := fp) (y_Differ T) x).r Z H v → TyX K H v (.ref T.c_Differ) := fun _ _ _ sz ⟨a, dx, w0, w1, e, h, _⟩ => by subst e; exact .base (.ins (sz _ _ h) T.cl_Differ T.ha_Differ T.hn0 T.ht0 T.hm_Differ)
theorem oo_Differ (T : Txt K mg) {m : Str} (h : ¬ m = "centre" ∧ ¬ m = "most") : ObjOf (y_Differ T) T.c_Differ m := fun _ _ _ ⟨a, dx, w0, w1, e, g, _⟩ => ⟨a, dx, _, e, g, no_Differ (h.1) (h.2)⟩
def y_Range (T : Txt K mg) : Ty Range := ⟨fun Z v x => ∃ a dx w0 w1 w2 w3, v = .ref a ∧ Z a = some (.ins T.c_Range dx (ff_Range w0 w1 w2 w3)) ∧ (yStr).r Z w0 x.field ∧ (yInt).r Z w1 x.low ∧ (yInt).r Z w2 x.high ∧ (yStr).r Z w3 x.lack,
  fun s ⟨a, dx, w0, w1, w2, w3, e, h, h0, h1, h2, h3⟩ => ⟨a, dx, w0, w1, w2, w3, e, s _ _ h, (yStr).mono s h0, (yInt).mono s h1, (yInt).mono s h2, (yStr).mono s h3⟩⟩
theorem nn_Range (T : Txt K mg) : NonNil (y_Range T) := fun _ _ _ ⟨_, _, _, _, _, _, e, _⟩ => by rw [e]; exact fun z => nomatch z
theorem fo_Range_field (T : Txt K mg) : FldOf (y_Range T) T.c_Range "field" yStr Range.field := fun _ _ _ ⟨a, dx, w0, w1, w2, w3, e, h, h0, h1, h2, h3⟩ => ⟨a, dx, _, w0, e, h, lk_Range_field, h0⟩
theorem fo_Range_low (T : Txt K mg) : FldOf (y_Range T) T.c_Range "low" yInt Range.low := fun _ _ _ ⟨a, dx, w0, w1, w2, w3, e, h, h0, h1, h2, h3⟩ => ⟨a, dx, _, w1, e, h, lk_Range_low, h1⟩
theorem fo_Range_high (T : Txt K mg) : FldOf (y_Range T) T.c_Range "high" yInt Range.high := fun _ _ _ ⟨a, dx, w0, w1, w2, w3, e, h, h0, h1, h2, h3⟩ => ⟨a, dx, _, w2, e, h, lk_Range_high, h2⟩
theorem fo_Range_lack (T : Txt K mg) : FldOf (y_Range T) T.c_Range "lack" yStr Range.lack := fun _ _ _ ⟨a, dx, w0, w1, w2, w3, e, h, h0, h1, h2, h3⟩ => ⟨a, dx, _, w3, e, h, lk_Range_lack, h3⟩
theorem tx_Range (T : Txt K mg) {fp : List Addr} {x : Range} : ∀ Z H v, Same Z H → (ty (fp := fp) (y_Range T) x).r Z H v → TyX K H v (.ref T.c_Range) := fun _ _ _ sz ⟨a, dx, w0, w1, w2, w3, e, h, _⟩ => by subst e; exact .base (.ins (sz _ _ h) T.cl_Range T.ha_Range T.hn0 T.ht0 T.hm_Range)
theorem oo_Range (T : Txt K mg) {m : Str} (h : ¬ m = "field" ∧ ¬ m = "low" ∧ ¬ m = "high" ∧ ¬ m = "lack") : ObjOf (y_Range T) T.c_Range m := fun _ _ _ ⟨a, dx, w0, w1, w2, w3, e, g, _⟩ => ⟨a, dx, _, e, g, no_Range (h.1) (h.2.1) (h.2.2.1) (h.2.2.2)⟩
def y_Values (T : Txt K mg) : Ty Values := ⟨fun Z v x => ∃ a dx w0 w1 w2, v = .ref a ∧ Z a = some (.ins T.c_Values dx (ff_Values w0 w1 w2)) ∧ (yStr).r Z w0 x.field ∧ ((yTup K (y_Val T))).r Z w1 x.choices ∧ (yStr).r Z w2 x.lack,
  fun s ⟨a, dx, w0, w1, w2, e, h, h0, h1, h2⟩ => ⟨a, dx, w0, w1, w2, e, s _ _ h, (yStr).mono s h0, ((yTup K (y_Val T))).mono s h1, (yStr).mono s h2⟩⟩
theorem nn_Values (T : Txt K mg) : NonNil (y_Values T) := fun _ _ _ ⟨_, _, _, _, _, e, _⟩ => by rw [e]; exact fun z => nomatch z
theorem fo_Values_field (T : Txt K mg) : FldOf (y_Values T) T.c_Values "field" yStr Values.field := fun _ _ _ ⟨a, dx, w0, w1, w2, e, h, h0, h1, h2⟩ => ⟨a, dx, _, w0, e, h, lk_Values_field, h0⟩
theorem fo_Values_choices (T : Txt K mg) : FldOf (y_Values T) T.c_Values "choices" (yTup K (y_Val T)) Values.choices := fun _ _ _ ⟨a, dx, w0, w1, w2, e, h, h0, h1, h2⟩ => ⟨a, dx, _, w1, e, h, lk_Values_choices, h1⟩
theorem fo_Values_lack (T : Txt K mg) : FldOf (y_Values T) T.c_Values "lack" yStr Values.lack := fun _ _ _ ⟨a, dx, w0, w1, w2, e, h, h0, h1, h2⟩ => ⟨a, dx, _, w2, e, h, lk_Values_lack, h2⟩
theorem tx_Values (T : Txt K mg) {fp : List Addr} {x : Values} : ∀ Z H v, Same Z H → (ty (fp := fp) (y_Values T) x).r Z H v → TyX K H v (.ref T.c_Values) := fun _ _ _ sz ⟨a, dx, w0, w1, w2, e, h, _⟩ => by subst e; exact .base (.ins (sz _ _ h) T.cl_Values T.ha_Values T.hn0 T.ht0 T.hm_Values)
theorem oo_Values (T : Txt K mg) {m : Str} (h : ¬ m = "field" ∧ ¬ m = "choices" ∧ ¬ m = "lack") : ObjOf (y_Values T) T.c_Values m := fun _ _ _ ⟨a, dx, w0, w1, w2, e, g, _⟩ => ⟨a, dx, _, e, g, no_Values (h.1) (h.2.1) (h.2.2)⟩
def y_Counts (T : Txt K mg) : Ty Counts := ⟨fun Z v x => ∃ a dx w0 w1, v = .ref a ∧ Z a = some (.ins T.c_Counts dx (ff_Counts w0 w1)) ∧ ((yTup K (yP2 K yStr yInt))).r Z w0 x.words ∧ ((yDict (fun x => Sum.inr x) yInt)).r Z w1 x.bounds,
  fun s ⟨a, dx, w0, w1, e, h, h0, h1⟩ => ⟨a, dx, w0, w1, e, s _ _ h, ((yTup K (yP2 K yStr yInt))).mono s h0, ((yDict (fun x => Sum.inr x) yInt)).mono s h1⟩⟩
theorem nn_Counts (T : Txt K mg) : NonNil (y_Counts T) := fun _ _ _ ⟨_, _, _, _, e, _⟩ => by rw [e]; exact fun z => nomatch z
theorem fo_Counts_words (T : Txt K mg) : FldOf (y_Counts T) T.c_Counts "words" (yTup K (yP2 K yStr yInt)) Counts.words := fun _ _ _ ⟨a, dx, w0, w1, e, h, h0, h1⟩ => ⟨a, dx, _, w0, e, h, lk_Counts_words, h0⟩
theorem fo_Counts_bounds (T : Txt K mg) : FldOf (y_Counts T) T.c_Counts "bounds" (yDict (fun x => Sum.inr x) yInt) Counts.bounds := fun _ _ _ ⟨a, dx, w0, w1, e, h, h0, h1⟩ => ⟨a, dx, _, w1, e, h, lk_Counts_bounds, h1⟩
theorem tx_Counts (T : Txt K mg) {fp : List Addr} {x : Counts} : ∀ Z H v, Same Z H → (ty (fp := fp) (y_Counts T) x).r Z H v → TyX K H v (.ref T.c_Counts) := fun _ _ _ sz ⟨a, dx, w0, w1, e, h, _⟩ => by subst e; exact .base (.ins (sz _ _ h) T.cl_Counts T.ha_Counts T.hn0 T.ht0 T.hm_Counts)
theorem oo_Counts (T : Txt K mg) {m : Str} (h : ¬ m = "words" ∧ ¬ m = "bounds") : ObjOf (y_Counts T) T.c_Counts m := fun _ _ _ ⟨a, dx, w0, w1, e, g, _⟩ => ⟨a, dx, _, e, g, no_Counts (h.1) (h.2)⟩
def y_Names (T : Txt K mg) : Ty Names := ⟨fun Z v x => ∃ a dx w0 w1, v = .ref a ∧ Z a = some (.ins T.c_Names dx (ff_Names w0 w1)) ∧ (yStr).r Z w0 x.low ∧ (yStr).r Z w1 x.high,
  fun s ⟨a, dx, w0, w1, e, h, h0, h1⟩ => ⟨a, dx, w0, w1, e, s _ _ h, (yStr).mono s h0, (yStr).mono s h1⟩⟩
theorem nn_Names (T : Txt K mg) : NonNil (y_Names T) := fun _ _ _ ⟨_, _, _, _, e, _⟩ => by rw [e]; exact fun z => nomatch z
theorem fo_Names_low (T : Txt K mg) : FldOf (y_Names T) T.c_Names "low" yStr Names.low := fun _ _ _ ⟨a, dx, w0, w1, e, h, h0, h1⟩ => ⟨a, dx, _, w0, e, h, lk_Names_low, h0⟩
theorem fo_Names_high (T : Txt K mg) : FldOf (y_Names T) T.c_Names "high" yStr Names.high := fun _ _ _ ⟨a, dx, w0, w1, e, h, h0, h1⟩ => ⟨a, dx, _, w1, e, h, lk_Names_high, h1⟩
theorem tx_Names (T : Txt K mg) {fp : List Addr} {x : Names} : ∀ Z H v, Same Z H → (ty (fp := fp) (y_Names T) x).r Z H v → TyX K H v (.ref T.c_Names) := fun _ _ _ sz ⟨a, dx, w0, w1, e, h, _⟩ => by subst e; exact .base (.ins (sz _ _ h) T.cl_Names T.ha_Names T.hn0 T.ht0 T.hm_Names)
theorem oo_Names (T : Txt K mg) {m : Str} (h : ¬ m = "low" ∧ ¬ m = "high") : ObjOf (y_Names T) T.c_Names m := fun _ _ _ ⟨a, dx, w0, w1, e, g, _⟩ => ⟨a, dx, _, e, g, no_Names (h.1) (h.2)⟩
def y_Fact (T : Txt K mg) : Ty Fact := ⟨fun Z v x => match x with
  | .parts y => ((y_Parts T)).r Z v y
  | .cell y => ((y_Cell T)).r Z v y
  | .box y => ((y_Box T)).r Z v y
  | .norms y => ((y_Norms T)).r Z v y
  | .differ y => ((y_Differ T)).r Z v y
  | .range y => ((y_Range T)).r Z v y
  | .values y => ((y_Values T)).r Z v y
  | .counts y => ((y_Counts T)).r Z v y
  | .names y => ((y_Names T)).r Z v y,
  fun {Z Z2 v x} s h => match x, h with
  | .parts y, h => ((y_Parts T)).mono s h
  | .cell y, h => ((y_Cell T)).mono s h
  | .box y, h => ((y_Box T)).mono s h
  | .norms y, h => ((y_Norms T)).mono s h
  | .differ y, h => ((y_Differ T)).mono s h
  | .range y, h => ((y_Range T)).mono s h
  | .values y, h => ((y_Values T)).mono s h
  | .counts y, h => ((y_Counts T)).mono s h
  | .names y, h => ((y_Names T)).mono s h⟩
theorem nn_Fact (T : Txt K mg) : NonNil (y_Fact T) := fun Z v x h => match x, h with
  | .parts y, h => (nn_Parts T) Z v y h
  | .cell y, h => (nn_Cell T) Z v y h
  | .box y, h => (nn_Box T) Z v y h
  | .norms y, h => (nn_Norms T) Z v y h
  | .differ y, h => (nn_Differ T) Z v y h
  | .range y, h => (nn_Range T) Z v y h
  | .values y, h => (nn_Values T) Z v y h
  | .counts y, h => (nn_Counts T) Z v y h
  | .names y, h => (nn_Names T) Z v y h
theorem ij_Fact_parts (T : Txt K mg) {μ : Type} {M : Mu μ} {σ : L2.St} {Z H : Hp} {s s1 : μ} {ta : TE} {x : Parts} (h : Ev M ta σ Z H s (ty (y_Parts T) x) s1) : Ev M ta σ Z H s (ty (y_Fact T) (.parts x)) s1 := h.weak fun _ _ _ _ e => e
theorem pj_Fact_parts (T : Txt K mg) {μ : Type} {M : Mu μ} {σ : L2.St} {Z H : Hp} {s s1 : μ} {ta : TE} {x : Fact} {y : Parts} (h : Ev M ta σ Z H s (ty (y_Fact T) x) s1) (e : x.p_parts = some y) : Ev M ta σ Z H s (ty (y_Parts T) y) s1 := by
  cases x <;> first | (have e := Option.some.inj e; subst e; exact h.weak fun _ _ _ _ e => e) | cases e
theorem ij_Fact_cell (T : Txt K mg) {μ : Type} {M : Mu μ} {σ : L2.St} {Z H : Hp} {s s1 : μ} {ta : TE} {x : Cell} (h : Ev M ta σ Z H s (ty (y_Cell T) x) s1) : Ev M ta σ Z H s (ty (y_Fact T) (.cell x)) s1 := h.weak fun _ _ _ _ e => e
theorem pj_Fact_cell (T : Txt K mg) {μ : Type} {M : Mu μ} {σ : L2.St} {Z H : Hp} {s s1 : μ} {ta : TE} {x : Fact} {y : Cell} (h : Ev M ta σ Z H s (ty (y_Fact T) x) s1) (e : x.p_cell = some y) : Ev M ta σ Z H s (ty (y_Cell T) y) s1 := by
  cases x <;> first | (have e := Option.some.inj e; subst e; exact h.weak fun _ _ _ _ e => e) | cases e
theorem ij_Fact_box (T : Txt K mg) {μ : Type} {M : Mu μ} {σ : L2.St} {Z H : Hp} {s s1 : μ} {ta : TE} {x : Box} (h : Ev M ta σ Z H s (ty (y_Box T) x) s1) : Ev M ta σ Z H s (ty (y_Fact T) (.box x)) s1 := h.weak fun _ _ _ _ e => e
theorem pj_Fact_box (T : Txt K mg) {μ : Type} {M : Mu μ} {σ : L2.St} {Z H : Hp} {s s1 : μ} {ta : TE} {x : Fact} {y : Box} (h : Ev M ta σ Z H s (ty (y_Fact T) x) s1) (e : x.p_box = some y) : Ev M ta σ Z H s (ty (y_Box T) y) s1 := by
  cases x <;> first | (have e := Option.some.inj e; subst e; exact h.weak fun _ _ _ _ e => e) | cases e
theorem ij_Fact_norms (T : Txt K mg) {μ : Type} {M : Mu μ} {σ : L2.St} {Z H : Hp} {s s1 : μ} {ta : TE} {x : Norms} (h : Ev M ta σ Z H s (ty (y_Norms T) x) s1) : Ev M ta σ Z H s (ty (y_Fact T) (.norms x)) s1 := h.weak fun _ _ _ _ e => e
theorem pj_Fact_norms (T : Txt K mg) {μ : Type} {M : Mu μ} {σ : L2.St} {Z H : Hp} {s s1 : μ} {ta : TE} {x : Fact} {y : Norms} (h : Ev M ta σ Z H s (ty (y_Fact T) x) s1) (e : x.p_norms = some y) : Ev M ta σ Z H s (ty (y_Norms T) y) s1 := by
  cases x <;> first | (have e := Option.some.inj e; subst e; exact h.weak fun _ _ _ _ e => e) | cases e
theorem ij_Fact_differ (T : Txt K mg) {μ : Type} {M : Mu μ} {σ : L2.St} {Z H : Hp} {s s1 : μ} {ta : TE} {x : Differ} (h : Ev M ta σ Z H s (ty (y_Differ T) x) s1) : Ev M ta σ Z H s (ty (y_Fact T) (.differ x)) s1 := h.weak fun _ _ _ _ e => e
theorem pj_Fact_differ (T : Txt K mg) {μ : Type} {M : Mu μ} {σ : L2.St} {Z H : Hp} {s s1 : μ} {ta : TE} {x : Fact} {y : Differ} (h : Ev M ta σ Z H s (ty (y_Fact T) x) s1) (e : x.p_differ = some y) : Ev M ta σ Z H s (ty (y_Differ T) y) s1 := by
  cases x <;> first | (have e := Option.some.inj e; subst e; exact h.weak fun _ _ _ _ e => e) | cases e
theorem ij_Fact_range (T : Txt K mg) {μ : Type} {M : Mu μ} {σ : L2.St} {Z H : Hp} {s s1 : μ} {ta : TE} {x : Range} (h : Ev M ta σ Z H s (ty (y_Range T) x) s1) : Ev M ta σ Z H s (ty (y_Fact T) (.range x)) s1 := h.weak fun _ _ _ _ e => e
theorem pj_Fact_range (T : Txt K mg) {μ : Type} {M : Mu μ} {σ : L2.St} {Z H : Hp} {s s1 : μ} {ta : TE} {x : Fact} {y : Range} (h : Ev M ta σ Z H s (ty (y_Fact T) x) s1) (e : x.p_range = some y) : Ev M ta σ Z H s (ty (y_Range T) y) s1 := by
  cases x <;> first | (have e := Option.some.inj e; subst e; exact h.weak fun _ _ _ _ e => e) | cases e
theorem ij_Fact_values (T : Txt K mg) {μ : Type} {M : Mu μ} {σ : L2.St} {Z H : Hp} {s s1 : μ} {ta : TE} {x : Values} (h : Ev M ta σ Z H s (ty (y_Values T) x) s1) : Ev M ta σ Z H s (ty (y_Fact T) (.values x)) s1 := h.weak fun _ _ _ _ e => e
theorem pj_Fact_values (T : Txt K mg) {μ : Type} {M : Mu μ} {σ : L2.St} {Z H : Hp} {s s1 : μ} {ta : TE} {x : Fact} {y : Values} (h : Ev M ta σ Z H s (ty (y_Fact T) x) s1) (e : x.p_values = some y) : Ev M ta σ Z H s (ty (y_Values T) y) s1 := by
  cases x <;> first | (have e := Option.some.inj e; subst e; exact h.weak fun _ _ _ _ e => e) | cases e
theorem ij_Fact_counts (T : Txt K mg) {μ : Type} {M : Mu μ} {σ : L2.St} {Z H : Hp} {s s1 : μ} {ta : TE} {x : Counts} (h : Ev M ta σ Z H s (ty (y_Counts T) x) s1) : Ev M ta σ Z H s (ty (y_Fact T) (.counts x)) s1 := h.weak fun _ _ _ _ e => e
theorem pj_Fact_counts (T : Txt K mg) {μ : Type} {M : Mu μ} {σ : L2.St} {Z H : Hp} {s s1 : μ} {ta : TE} {x : Fact} {y : Counts} (h : Ev M ta σ Z H s (ty (y_Fact T) x) s1) (e : x.p_counts = some y) : Ev M ta σ Z H s (ty (y_Counts T) y) s1 := by
  cases x <;> first | (have e := Option.some.inj e; subst e; exact h.weak fun _ _ _ _ e => e) | cases e
theorem ij_Fact_names (T : Txt K mg) {μ : Type} {M : Mu μ} {σ : L2.St} {Z H : Hp} {s s1 : μ} {ta : TE} {x : Names} (h : Ev M ta σ Z H s (ty (y_Names T) x) s1) : Ev M ta σ Z H s (ty (y_Fact T) (.names x)) s1 := h.weak fun _ _ _ _ e => e
theorem pj_Fact_names (T : Txt K mg) {μ : Type} {M : Mu μ} {σ : L2.St} {Z H : Hp} {s s1 : μ} {ta : TE} {x : Fact} {y : Names} (h : Ev M ta σ Z H s (ty (y_Fact T) x) s1) (e : x.p_names = some y) : Ev M ta σ Z H s (ty (y_Names T) y) s1 := by
  cases x <;> first | (have e := Option.some.inj e; subst e; exact h.weak fun _ _ _ _ e => e) | cases e
def cls_Fact (T : Txt K mg) : Fact → Value
  | .parts _ => (.ref T.c_Parts)
  | .cell _ => (.ref T.c_Cell)
  | .box _ => (.ref T.c_Box)
  | .norms _ => (.ref T.c_Norms)
  | .differ _ => (.ref T.c_Differ)
  | .range _ => (.ref T.c_Range)
  | .values _ => (.ref T.c_Values)
  | .counts _ => (.ref T.c_Counts)
  | .names _ => (.ref T.c_Names)
theorem tx_Fact (T : Txt K mg) {fp : List Addr} {x : Fact} : ∀ Z H v, Same Z H → (ty (fp := fp) (y_Fact T) x).r Z H v → TyX K H v (cls_Fact T x) := fun Z H v sz h => match x, h with
  | .parts y, h => (tx_Parts T) Z H v sz (show (ty (fp := fp) (y_Parts T) y).r Z H v from h)
  | .cell y, h => (tx_Cell T) Z H v sz (show (ty (fp := fp) (y_Cell T) y).r Z H v from h)
  | .box y, h => (tx_Box T) Z H v sz (show (ty (fp := fp) (y_Box T) y).r Z H v from h)
  | .norms y, h => (tx_Norms T) Z H v sz (show (ty (fp := fp) (y_Norms T) y).r Z H v from h)
  | .differ y, h => (tx_Differ T) Z H v sz (show (ty (fp := fp) (y_Differ T) y).r Z H v from h)
  | .range y, h => (tx_Range T) Z H v sz (show (ty (fp := fp) (y_Range T) y).r Z H v from h)
  | .values y, h => (tx_Values T) Z H v sz (show (ty (fp := fp) (y_Values T) y).r Z H v from h)
  | .counts y, h => (tx_Counts T) Z H v sz (show (ty (fp := fp) (y_Counts T) y).r Z H v from h)
  | .names y, h => (tx_Names T) Z H v sz (show (ty (fp := fp) (y_Names T) y).r Z H v from h)
theorem kit_Fact_Parts (T : Txt K mg) (x : Fact) : PySem.W.kitOne K (cls_Fact T x) (.ref T.c_Parts) = some (x.is_Parts) := match x with
  | .parts _ => (show PySem.W.kitOne K (.ref T.c_Parts) (.ref T.c_Parts) = some true from T.kit_Parts_Parts)
  | .cell _ => (show PySem.W.kitOne K (.ref T.c_Cell) (.ref T.c_Parts) = some false from T.kit_Cell_Parts)
  | .box _ => (show PySem.W.kitOne K (.ref T.c_Box) (.ref T.c_Parts) = some false from T.kit_Box_Parts)
  | .norms _ => (show PySem.W.kitOne K (.ref T.c_Norms) (.ref T.c_Parts) = some false from T.kit_Norms_Parts)
  | .differ _ => (show PySem.W.kitOne K (.ref T.c_Differ) (.ref T.c_Parts) = some false from T.kit_Differ_Parts)
  | .range _ => (show PySem.W.kitOne K (.ref T.c_Range) (.ref T.c_Parts) = some false from T.kit_Range_Parts)
  | .values _ => (show PySem.W.kitOne K (.ref T.c_Values) (.ref T.c_Parts) = some false from T.kit_Values_Parts)
  | .counts _ => (show PySem.W.kitOne K (.ref T.c_Counts) (.ref T.c_Parts) = some false from T.kit_Counts_Parts)
  | .names _ => (show PySem.W.kitOne K (.ref T.c_Names) (.ref T.c_Parts) = some false from T.kit_Names_Parts)
theorem kit_Fact_Cell (T : Txt K mg) (x : Fact) : PySem.W.kitOne K (cls_Fact T x) (.ref T.c_Cell) = some (x.is_Cell) := match x with
  | .parts _ => (show PySem.W.kitOne K (.ref T.c_Parts) (.ref T.c_Cell) = some false from T.kit_Parts_Cell)
  | .cell _ => (show PySem.W.kitOne K (.ref T.c_Cell) (.ref T.c_Cell) = some true from T.kit_Cell_Cell)
  | .box _ => (show PySem.W.kitOne K (.ref T.c_Box) (.ref T.c_Cell) = some false from T.kit_Box_Cell)
  | .norms _ => (show PySem.W.kitOne K (.ref T.c_Norms) (.ref T.c_Cell) = some false from T.kit_Norms_Cell)
  | .differ _ => (show PySem.W.kitOne K (.ref T.c_Differ) (.ref T.c_Cell) = some false from T.kit_Differ_Cell)
  | .range _ => (show PySem.W.kitOne K (.ref T.c_Range) (.ref T.c_Cell) = some false from T.kit_Range_Cell)
  | .values _ => (show PySem.W.kitOne K (.ref T.c_Values) (.ref T.c_Cell) = some false from T.kit_Values_Cell)
  | .counts _ => (show PySem.W.kitOne K (.ref T.c_Counts) (.ref T.c_Cell) = some false from T.kit_Counts_Cell)
  | .names _ => (show PySem.W.kitOne K (.ref T.c_Names) (.ref T.c_Cell) = some false from T.kit_Names_Cell)
theorem kit_Fact_Box (T : Txt K mg) (x : Fact) : PySem.W.kitOne K (cls_Fact T x) (.ref T.c_Box) = some (x.is_Box) := match x with
  | .parts _ => (show PySem.W.kitOne K (.ref T.c_Parts) (.ref T.c_Box) = some false from T.kit_Parts_Box)
  | .cell _ => (show PySem.W.kitOne K (.ref T.c_Cell) (.ref T.c_Box) = some false from T.kit_Cell_Box)
  | .box _ => (show PySem.W.kitOne K (.ref T.c_Box) (.ref T.c_Box) = some true from T.kit_Box_Box)
  | .norms _ => (show PySem.W.kitOne K (.ref T.c_Norms) (.ref T.c_Box) = some false from T.kit_Norms_Box)
  | .differ _ => (show PySem.W.kitOne K (.ref T.c_Differ) (.ref T.c_Box) = some false from T.kit_Differ_Box)
  | .range _ => (show PySem.W.kitOne K (.ref T.c_Range) (.ref T.c_Box) = some false from T.kit_Range_Box)
  | .values _ => (show PySem.W.kitOne K (.ref T.c_Values) (.ref T.c_Box) = some false from T.kit_Values_Box)
  | .counts _ => (show PySem.W.kitOne K (.ref T.c_Counts) (.ref T.c_Box) = some false from T.kit_Counts_Box)
  | .names _ => (show PySem.W.kitOne K (.ref T.c_Names) (.ref T.c_Box) = some false from T.kit_Names_Box)
theorem kit_Fact_Norms (T : Txt K mg) (x : Fact) : PySem.W.kitOne K (cls_Fact T x) (.ref T.c_Norms) = some (x.is_Norms) := match x with
  | .parts _ => (show PySem.W.kitOne K (.ref T.c_Parts) (.ref T.c_Norms) = some false from T.kit_Parts_Norms)
  | .cell _ => (show PySem.W.kitOne K (.ref T.c_Cell) (.ref T.c_Norms) = some false from T.kit_Cell_Norms)
  | .box _ => (show PySem.W.kitOne K (.ref T.c_Box) (.ref T.c_Norms) = some false from T.kit_Box_Norms)
  | .norms _ => (show PySem.W.kitOne K (.ref T.c_Norms) (.ref T.c_Norms) = some true from T.kit_Norms_Norms)
  | .differ _ => (show PySem.W.kitOne K (.ref T.c_Differ) (.ref T.c_Norms) = some false from T.kit_Differ_Norms)
  | .range _ => (show PySem.W.kitOne K (.ref T.c_Range) (.ref T.c_Norms) = some false from T.kit_Range_Norms)
  | .values _ => (show PySem.W.kitOne K (.ref T.c_Values) (.ref T.c_Norms) = some false from T.kit_Values_Norms)
  | .counts _ => (show PySem.W.kitOne K (.ref T.c_Counts) (.ref T.c_Norms) = some false from T.kit_Counts_Norms)
  | .names _ => (show PySem.W.kitOne K (.ref T.c_Names) (.ref T.c_Norms) = some false from T.kit_Names_Norms)
theorem kit_Fact_Differ (T : Txt K mg) (x : Fact) : PySem.W.kitOne K (cls_Fact T x) (.ref T.c_Differ) = some (x.is_Differ) := match x with
  | .parts _ => (show PySem.W.kitOne K (.ref T.c_Parts) (.ref T.c_Differ) = some false from T.kit_Parts_Differ)
  | .cell _ => (show PySem.W.kitOne K (.ref T.c_Cell) (.ref T.c_Differ) = some false from T.kit_Cell_Differ)
  | .box _ => (show PySem.W.kitOne K (.ref T.c_Box) (.ref T.c_Differ) = some false from T.kit_Box_Differ)
  | .norms _ => (show PySem.W.kitOne K (.ref T.c_Norms) (.ref T.c_Differ) = some false from T.kit_Norms_Differ)
  | .differ _ => (show PySem.W.kitOne K (.ref T.c_Differ) (.ref T.c_Differ) = some true from T.kit_Differ_Differ)
  | .range _ => (show PySem.W.kitOne K (.ref T.c_Range) (.ref T.c_Differ) = some false from T.kit_Range_Differ)
  | .values _ => (show PySem.W.kitOne K (.ref T.c_Values) (.ref T.c_Differ) = some false from T.kit_Values_Differ)
  | .counts _ => (show PySem.W.kitOne K (.ref T.c_Counts) (.ref T.c_Differ) = some false from T.kit_Counts_Differ)
  | .names _ => (show PySem.W.kitOne K (.ref T.c_Names) (.ref T.c_Differ) = some false from T.kit_Names_Differ)
theorem kit_Fact_Range (T : Txt K mg) (x : Fact) : PySem.W.kitOne K (cls_Fact T x) (.ref T.c_Range) = some (x.is_Range) := match x with
  | .parts _ => (show PySem.W.kitOne K (.ref T.c_Parts) (.ref T.c_Range) = some false from T.kit_Parts_Range)
  | .cell _ => (show PySem.W.kitOne K (.ref T.c_Cell) (.ref T.c_Range) = some false from T.kit_Cell_Range)
  | .box _ => (show PySem.W.kitOne K (.ref T.c_Box) (.ref T.c_Range) = some false from T.kit_Box_Range)
  | .norms _ => (show PySem.W.kitOne K (.ref T.c_Norms) (.ref T.c_Range) = some false from T.kit_Norms_Range)
  | .differ _ => (show PySem.W.kitOne K (.ref T.c_Differ) (.ref T.c_Range) = some false from T.kit_Differ_Range)
  | .range _ => (show PySem.W.kitOne K (.ref T.c_Range) (.ref T.c_Range) = some true from T.kit_Range_Range)
  | .values _ => (show PySem.W.kitOne K (.ref T.c_Values) (.ref T.c_Range) = some false from T.kit_Values_Range)
  | .counts _ => (show PySem.W.kitOne K (.ref T.c_Counts) (.ref T.c_Range) = some false from T.kit_Counts_Range)
  | .names _ => (show PySem.W.kitOne K (.ref T.c_Names) (.ref T.c_Range) = some false from T.kit_Names_Range)
theorem kit_Fact_Values (T : Txt K mg) (x : Fact) : PySem.W.kitOne K (cls_Fact T x) (.ref T.c_Values) = some (x.is_Values) := match x with
  | .parts _ => (show PySem.W.kitOne K (.ref T.c_Parts) (.ref T.c_Values) = some false from T.kit_Parts_Values)
  | .cell _ => (show PySem.W.kitOne K (.ref T.c_Cell) (.ref T.c_Values) = some false from T.kit_Cell_Values)
  | .box _ => (show PySem.W.kitOne K (.ref T.c_Box) (.ref T.c_Values) = some false from T.kit_Box_Values)
  | .norms _ => (show PySem.W.kitOne K (.ref T.c_Norms) (.ref T.c_Values) = some false from T.kit_Norms_Values)
  | .differ _ => (show PySem.W.kitOne K (.ref T.c_Differ) (.ref T.c_Values) = some false from T.kit_Differ_Values)
  | .range _ => (show PySem.W.kitOne K (.ref T.c_Range) (.ref T.c_Values) = some false from T.kit_Range_Values)
  | .values _ => (show PySem.W.kitOne K (.ref T.c_Values) (.ref T.c_Values) = some true from T.kit_Values_Values)
  | .counts _ => (show PySem.W.kitOne K (.ref T.c_Counts) (.ref T.c_Values) = some false from T.kit_Counts_Values)
  | .names _ => (show PySem.W.kitOne K (.ref T.c_Names) (.ref T.c_Values) = some false from T.kit_Names_Values)
theorem kit_Fact_Counts (T : Txt K mg) (x : Fact) : PySem.W.kitOne K (cls_Fact T x) (.ref T.c_Counts) = some (x.is_Counts) := match x with
  | .parts _ => (show PySem.W.kitOne K (.ref T.c_Parts) (.ref T.c_Counts) = some false from T.kit_Parts_Counts)
  | .cell _ => (show PySem.W.kitOne K (.ref T.c_Cell) (.ref T.c_Counts) = some false from T.kit_Cell_Counts)
  | .box _ => (show PySem.W.kitOne K (.ref T.c_Box) (.ref T.c_Counts) = some false from T.kit_Box_Counts)
  | .norms _ => (show PySem.W.kitOne K (.ref T.c_Norms) (.ref T.c_Counts) = some false from T.kit_Norms_Counts)
  | .differ _ => (show PySem.W.kitOne K (.ref T.c_Differ) (.ref T.c_Counts) = some false from T.kit_Differ_Counts)
  | .range _ => (show PySem.W.kitOne K (.ref T.c_Range) (.ref T.c_Counts) = some false from T.kit_Range_Counts)
  | .values _ => (show PySem.W.kitOne K (.ref T.c_Values) (.ref T.c_Counts) = some false from T.kit_Values_Counts)
  | .counts _ => (show PySem.W.kitOne K (.ref T.c_Counts) (.ref T.c_Counts) = some true from T.kit_Counts_Counts)
  | .names _ => (show PySem.W.kitOne K (.ref T.c_Names) (.ref T.c_Counts) = some false from T.kit_Names_Counts)
def y_Region (T : Txt K mg) : Ty Region := ⟨fun Z v x => ∃ a dx w0 w1, v = .ref a ∧ Z a = some (.ins T.c_Region dx (ff_Region w0 w1)) ∧ ((yOpt yInt)).r Z w0 x.parent ∧ ((yTup K (y_Fact T))).r Z w1 x.facts,
  fun s ⟨a, dx, w0, w1, e, h, h0, h1⟩ => ⟨a, dx, w0, w1, e, s _ _ h, ((yOpt yInt)).mono s h0, ((yTup K (y_Fact T))).mono s h1⟩⟩
theorem nn_Region (T : Txt K mg) : NonNil (y_Region T) := fun _ _ _ ⟨_, _, _, _, e, _⟩ => by rw [e]; exact fun z => nomatch z
theorem fo_Region_parent (T : Txt K mg) : FldOf (y_Region T) T.c_Region "parent" (yOpt yInt) Region.parent := fun _ _ _ ⟨a, dx, w0, w1, e, h, h0, h1⟩ => ⟨a, dx, _, w0, e, h, lk_Region_parent, h0⟩
theorem fo_Region_facts (T : Txt K mg) : FldOf (y_Region T) T.c_Region "facts" (yTup K (y_Fact T)) Region.facts := fun _ _ _ ⟨a, dx, w0, w1, e, h, h0, h1⟩ => ⟨a, dx, _, w1, e, h, lk_Region_facts, h1⟩
theorem oo_Region (T : Txt K mg) {m : Str} (h : ¬ m = "parent" ∧ ¬ m = "facts") : ObjOf (y_Region T) T.c_Region m := fun _ _ _ ⟨a, dx, w0, w1, e, g, _⟩ => ⟨a, dx, _, e, g, no_Region (h.1) (h.2)⟩
def y_Entry (T : Txt K mg) : Ty Entry := ⟨fun Z v x => ∃ a dx w0 w1 w2, v = .ref a ∧ Z a = some (.ins T.c_Entry dx (ff_Entry w0 w1 w2)) ∧ (yInt).r Z w0 x.number ∧ ((y_Record T)).r Z w1 x.record ∧ ((yTup K yInt)).r Z w2 x.leaves,
  fun s ⟨a, dx, w0, w1, w2, e, h, h0, h1, h2⟩ => ⟨a, dx, w0, w1, w2, e, s _ _ h, (yInt).mono s h0, ((y_Record T)).mono s h1, ((yTup K yInt)).mono s h2⟩⟩
theorem nn_Entry (T : Txt K mg) : NonNil (y_Entry T) := fun _ _ _ ⟨_, _, _, _, _, e, _⟩ => by rw [e]; exact fun z => nomatch z
theorem fo_Entry_number (T : Txt K mg) : FldOf (y_Entry T) T.c_Entry "number" yInt Entry.number := fun _ _ _ ⟨a, dx, w0, w1, w2, e, h, h0, h1, h2⟩ => ⟨a, dx, _, w0, e, h, lk_Entry_number, h0⟩
theorem fo_Entry_record (T : Txt K mg) : FldOf (y_Entry T) T.c_Entry "record" (y_Record T) Entry.record := fun _ _ _ ⟨a, dx, w0, w1, w2, e, h, h0, h1, h2⟩ => ⟨a, dx, _, w1, e, h, lk_Entry_record, h1⟩
theorem fo_Entry_leaves (T : Txt K mg) : FldOf (y_Entry T) T.c_Entry "leaves" (yTup K yInt) Entry.leaves := fun _ _ _ ⟨a, dx, w0, w1, w2, e, h, h0, h1, h2⟩ => ⟨a, dx, _, w2, e, h, lk_Entry_leaves, h2⟩
theorem oo_Entry (T : Txt K mg) {m : Str} (h : ¬ m = "number" ∧ ¬ m = "record" ∧ ¬ m = "leaves") : ObjOf (y_Entry T) T.c_Entry m := fun _ _ _ ⟨a, dx, w0, w1, w2, e, g, _⟩ => ⟨a, dx, _, e, g, no_Entry (h.1) (h.2.1) (h.2.2)⟩
def y_Offer (T : Txt K mg) : Ty Offer := ⟨fun Z v x => ∃ a dx w0 w1, v = .ref a ∧ Z a = some (.ins T.c_Offer dx (ff_Offer w0 w1)) ∧ ((yTup K (yTup K (y_Region T)))).r Z w0 x.partitions ∧ ((yTup K (y_Entry T))).r Z w1 x.entries,
  fun s ⟨a, dx, w0, w1, e, h, h0, h1⟩ => ⟨a, dx, w0, w1, e, s _ _ h, ((yTup K (yTup K (y_Region T)))).mono s h0, ((yTup K (y_Entry T))).mono s h1⟩⟩
theorem nn_Offer (T : Txt K mg) : NonNil (y_Offer T) := fun _ _ _ ⟨_, _, _, _, e, _⟩ => by rw [e]; exact fun z => nomatch z
theorem fo_Offer_partitions (T : Txt K mg) : FldOf (y_Offer T) T.c_Offer "partitions" (yTup K (yTup K (y_Region T))) Offer.partitions := fun _ _ _ ⟨a, dx, w0, w1, e, h, h0, h1⟩ => ⟨a, dx, _, w0, e, h, lk_Offer_partitions, h0⟩
theorem fo_Offer_entries (T : Txt K mg) : FldOf (y_Offer T) T.c_Offer "entries" (yTup K (y_Entry T)) Offer.entries := fun _ _ _ ⟨a, dx, w0, w1, e, h, h0, h1⟩ => ⟨a, dx, _, w1, e, h, lk_Offer_entries, h1⟩
theorem oo_Offer (T : Txt K mg) {m : Str} (h : ¬ m = "partitions" ∧ ¬ m = "entries") : ObjOf (y_Offer T) T.c_Offer m := fun _ _ _ ⟨a, dx, w0, w1, e, g, _⟩ => ⟨a, dx, _, e, g, no_Offer (h.1) (h.2)⟩


def sp_law_row (T : Txt K mg) : Sp := fun vs H Q _ => ∃ (sc : Addr) (ns : List Int) (k : Nat), vs = [.ref sc, .int (k : Nat)] ∧ (H sc = some (.lst (ns.map V.int))) ∧ Q (.int (rowZ ns k)) H
set_option maxHeartbeats 4000000 in
theorem ok_law_row (T : Txt K mg) : FnOk P w K mg base CX0 1 T.f_law_row T.d_law_row ["script", "k"] (sp_law_row T) := by
  refine T.F_law_row.ok sc_law_row (fun vs H Q E h => ?_) (fun cdv A outer s H vs Q E hr h => ?_)
  · obtain ⟨sc, ns, k, rfl, _⟩ := h
    rfl
  · obtain ⟨sc, ns, k, rfl, hS, q⟩ := h
    refine ⟨_, (pss_cons (ps_set (i := 2) sc_law_row.nd rfl (.inl rfl) pe_int) 
      (pss_cut (ps_if (pt_cmpR op_lt (pv 1) (pe_callB call_len_seq (by rfl) T.m_len PySem.boot_len (pa_cons (pv 0) pa_nil)) (nomark _)) (pss_one (ps_set (i := 2) sc_law_row.nd rfl (.inl rfl) (pe_ix ix_list (pv 0) (pv 1) (fun _ _ => rfl)))) pss_nil) 
      (pss_cut (ps_if (pt_cmpR op_lt (pv 2) pe_int (nomark _)) (pss_one (ps_set (i := 2) sc_law_row.nd rfl (.inl rfl) (pe_op op_sub (pe_op op_mul (pe_un un_neg pe_int) (pv 2)) pe_int))) pss_nil) 
      (pss_cut (ps_if (pt_cmpR op_lt (pv 2) (pe_op op_pow pe_int pe_int) (nomark _)) (pss_cons (ps_set (i := 3) sc_law_row.nd rfl (.inl rfl) (pe_op op_mod (pe_callTy call_int1 (by rfl) T.m_int (by decide +kernel) (pa_cons (pe_op op_add (pe_op op_add (pe_op op_mul (pv 2) pe_int) (pe_op op_mul (pv 1) pe_int)) pe_int) pa_nil)) pe_int)) 
      (pss_cons (ps_set (i := 4) sc_law_row.nd rfl (.inl rfl) (pe_op op_mod (pe_callTy call_int1 (by rfl) T.m_int (by decide +kernel) (pa_cons (pe_op op_add (pe_op op_add (pe_op op_add (pe_op op_mul (pv 3) pe_int) (pe_op op_mul (pv 2) pe_int)) (pv 1)) pe_int) pa_nil)) pe_int)) 
      (pss_cons (ps_set (i := 5) sc_law_row.nd rfl (.inl rfl) (pe_op op_mod (pe_callTy call_int1 (by rfl) T.m_int (by decide +kernel) (pa_cons (pe_op op_add (pe_op op_add (pe_op op_mul (pv 4) pe_int) (pe_op op_mul (pv 3) (pv 4))) pe_int) pa_nil)) pe_int)) 
      (pss_one (ps_set (i := 2) sc_law_row.nd rfl (.inl rfl) (pe_op op_add (pe_op op_add (pv 3) (pe_op op_mul (pv 4) pe_int)) (pe_op op_mul (pv 5) (pe_op op_pow pe_int pe_int)))))))) pss_nil) 
      (pss_one (ps_ret (pv 2))))))), ?_⟩
    -- if k < len(script): cell = script[k]
    refine ⟨fun σ' H' => H' = H ∧ σ' = [some (.ref sc), some (.int (k : Nat)), some (.int (ns.getD k 0)), none, none, none], ?_, ?_⟩
    · refine ⟨_, rfl, _, rfl, sc, _, rfl, .inl (SqL.of hS), _, _, rfl, rfl, _, rfl, ite2 (fun e => ?_) (fun e => ?_)⟩
      · have hl : (k : Int) < ((ns.map V.int).length : Int) := of_decide_eq_true e
        rw [List.length_map] at hl
        have hk : k < ns.length := by omega
        exact ⟨_, rfl, _, rfl, sc, _, (k : Nat), .int (ns.getD k 0), rfl, rfl, SqL.of hS, at_of (j := k) rfl (by rw [List.getElem?_map, getD_lt hk]; rfl), rfl, rfl⟩
      · have hl : ¬ (k : Int) < ((ns.map V.int).length : Int) := fun h => e (decide_eq_true h)
        rw [List.length_map] at hl
        have hk : ¬ k < ns.length := by omega
        exact ⟨rfl, by rw [getD_ge hk]; rfl⟩
    rintro σ' H' ⟨rfl, rfl⟩
    -- if cell < 0: cell = -2 * cell - 1
    refine ⟨fun σ' H2 => H2 = H' ∧ σ' = [some (.ref sc), some (.int (k : Nat)), some (.int (row1 ns k)), none, none, none], ?_, ?_⟩
    · refine ⟨_, rfl, _, _, rfl, rfl, _, rfl, ite2 (fun e => ?_) (fun e => ?_)⟩
      · have hc : ns.getD k 0 < 0 := of_decide_eq_true e
        refine ⟨2, rfl, _, rfl, _, _, rfl, rfl, .inl ⟨by decide, by decide⟩, _, _, rfl, rfl, rfl, ?_⟩
        unfold row1
        rw [if_pos hc]
        rfl
      · have hc : ¬ ns.getD k 0 < 0 := fun h => e (decide_eq_true h)
        exact ⟨rfl, by unfold row1; rw [if_neg hc]⟩
    rintro σ' H2 ⟨rfl, rfl⟩
    have c0 := row1_nn ns k
    -- if cell < 10 ** 9: ..
    refine ⟨fun σ' H' => H' = H2 ∧ ∃ (x y z : Option V), σ' = [some (.ref sc), some (.int (k : Nat)), some (.int (rowZ ns k)), x, y, z], ?_, ?_⟩
    · refine ⟨_, rfl, _, _, rfl, rfl, ⟨by decide, by decide, by decide⟩, _, _, rfl, rfl, _, rfl, ite2 (fun e => ?_) (fun e => ?_)⟩
      · have h9 : row1 ns k < 10 ^ 9 := of_decide_eq_true e
        rw [rowZ_lo h9]
        generalize row1 ns k = c at h9 c0
        refine ⟨_, rfl, _, _, rfl, rfl, .inr ⟨by decide, by decide⟩, _, rfl, _, _, rfl, rfl, .inr ⟨by decide, by decide⟩, _, _, rfl, rfl, _, _, rfl, rfl, .inl ⟨_, rfl, ?_⟩⟩
        refine ⟨_, _, rfl, rfl, (by decide : (0 : Int) < 2147483647), ?_⟩
        dsimp only
        refine ⟨_, rfl, _, _, rfl, rfl, .inr ⟨by decide, by decide⟩, _, rfl, _, _, rfl, rfl, .inr ⟨by decide, by decide⟩, _, _, rfl, rfl, _, rfl, _, _, rfl, rfl, _, _, rfl, rfl, .inl ⟨_, rfl, ?_⟩⟩
        refine ⟨_, _, rfl, rfl, (by decide : (0 : Int) < 2147483629), ?_⟩
        dsimp only
        refine ⟨_, rfl, _, _, rfl, rfl, .inr ⟨by decide, by decide⟩, _, rfl, _, rfl, _, _, rfl, rfl, .inl ⟨by omega, by omega⟩, _, _, rfl, rfl, _, _, rfl, rfl, .inl ⟨_, rfl, ?_⟩⟩
        refine ⟨_, _, rfl, rfl, (by decide : (0 : Int) < 2147483587), ?_⟩
        dsimp only
        refine ⟨_, rfl, _, rfl, _, _, rfl, rfl, .inr ⟨by decide, by decide⟩, _, _, rfl, rfl, _, rfl, _, _, rfl, rfl, ⟨by decide, by decide, by decide⟩, _, _, rfl, rfl, .inr ⟨by decide, by decide⟩, _, _, rfl, rfl, rfl, _, _, _, rfl⟩
      · have h9 : ¬ row1 ns k < 10 ^ 9 := fun h => e (decide_eq_true h)
        rw [rowZ_hi h9]
        exact ⟨rfl, _, _, _, rfl⟩
    rintro σ' H' ⟨rfl, x, y, z, rfl⟩
    exact ⟨_, rfl, q⟩
def sp_law_next (T : Txt K mg) : Sp := fun vs H Q _ => ∃ (st sc : Addr) (Z0 : Hp) (ds : DS) (v_many : V) (m : Int), vs = [.ref st, v_many] ∧ (Same Z0 H) ∧ ((muD st sc).m ds Z0 H) ∧ (v_many = .int m) ∧ (NxOk m) ∧ ∀ v Z' H', Step (muD st sc).fp Z0 H Z' H' → (muD st sc).m (nxS ds m) Z' H' → yInt.r Z' v (nxV ds m) → Q v H'
set_option maxHeartbeats 4000000 in
theorem ok_law_next (T : Txt K mg) : FnOk P w K mg base CX0 2 T.f_law_next T.d_law_next ["state", "many"] (sp_law_next T) := by
  have G_law_row : FnOk P w K mg base CX0 1 T.f_law_row T.d_law_row ["script", "k"] (sp_law_row T) := ok_law_row T
  refine T.F_law_next.ok sc_law_next (fun vs H Q E h => ?_) (fun cdv A outer s H vs Q E hr h => ?_)
  · obtain ⟨st, sc, Z0, ds, v_many, m, rfl, _⟩ := h
    rfl
  · obtain ⟨st, sc, Z0, ds, v_many, m, rfl, sz, hm, h_many, hok, q⟩ := h
    refine ⟨_, (pss_cut (ps_if (pt_cmpR op_lt (pe_ix ix_list (pv 0) pe_int (fun _ _ => rfl)) (pv 1) (nomark _)) (pss_cons (ps_asg (pe_call G_law_row (hr.mono (by decide)) (by rfl) T.g_law_row T.F_law_row.kp T.b_law_row .nil pass0 (pa_cons (pe_ix ix_list (pv 0) pe_int (fun _ _ => rfl)) (pa_cons (pe_ix ix_list (pv 0) pe_int (fun _ _ => rfl)) pa_nil))) (pg_sub (pv 0) pe_int set_list)) 
      (pss_one (ps_asg (pe_op op_add (pe_ix ix_list (pv 0) pe_int (fun _ _ => rfl)) pe_int) (pg_sub (pv 0) pe_int set_list)))) pss_nil) 
      (pss_cons (ps_set (i := 2) sc_law_next.nd rfl (.inl rfl) (pe_op op_mod (pe_callTy call_int1 (by rfl) T.m_int (by decide +kernel) (pa_cons (pe_ix ix_list (pv 0) pe_int (fun _ _ => rfl)) pa_nil)) (pv 1))) 
      (pss_cons (ps_asg (pe_op op_fdivW (pe_ix ix_list (pv 0) pe_int (fun _ _ => rfl)) (pv 1)) (pg_sub (pv 0) pe_int set_list)) 
      (pss_one (ps_ret (pv 2)))))), ?_⟩
    obtain ⟨m0, m1⟩ := hok
    subst h_many
    obtain ⟨h1, h2, h3⟩ := hm
    obtain ⟨ns, k, x⟩ := ds
    have g2 : H sc = some (.lst (ns.map V.int)) := sz _ _ h2
    have ne : sc ≠ st := fun e => by rw [e] at h2; rw [h2] at h3; cases h3
    refine ⟨fun σ' H' => Step [st] Z0 H Z0 H' ∧ σ' = [some (.ref st), some (.int m), none] ∧ H' st = some (.lst [.ref sc, .int ((if (x : Int) < m then k + 1 else k : Nat) : Int), .int ((DS.cur ⟨ns, k, x⟩ m : Nat) : Int)]), ?_, ?_⟩
    · refine ⟨_, rfl, st, _, _, _, rfl, rfl, SqL.of h1, at_of (j := 2) rfl rfl, _, rfl, _, _, rfl, rfl, _, rfl, ite2 (fun e => ?_) (fun e => ?_)⟩
      · have hlt : (x : Int) < m := of_decide_eq_true e
        refine ⟨_, rfl, st, _, _, _, rfl, rfl, SqL.of h1, at_of (j := 0) rfl rfl, _, rfl, st, _, _, _, rfl, rfl, SqL.of h1, at_of (j := 1) rfl rfl, sc, ns, k, rfl, g2, ?_⟩
        refine ⟨_, rfl, st, _, _, 2, rfl, rfl, h1, rfl, ?_⟩
        refine ⟨_, rfl, st, _, _, _, rfl, rfl, SqL.of upd_same, at_of (j := 1) rfl rfl, _, _, rfl, rfl, _, rfl, st, _, _, 1, rfl, rfl, upd_same, rfl, ?_⟩
        refine ⟨(Step.set sz h3).trans (Step.set (Step.set sz h3).s h3), rfl, ?_⟩
        rw [upd_same, if_pos hlt]
        have : ((DS.cur ⟨ns, k, x⟩ m : Nat) : Int) = rowZ ns k := by
          unfold DS.cur
          rw [if_pos hlt]
          have := rowZ_nn ns k
          show (((rowZ ns k).toNat : Nat) : Int) = rowZ ns k
          omega
        rw [this]
        rfl
      · have hlt : ¬ (x : Int) < m := fun h => e (decide_eq_true h)
        refine ⟨Step.refl sz, rfl, ?_⟩
        rw [h1, if_neg hlt]
        unfold DS.cur
        rw [if_neg hlt]
    rintro σ' H' ⟨hO, rfl, h4⟩
    -- drawn = int(state[2]) % many
    refine ⟨_, rfl, st, _, _, _, rfl, rfl, SqL.of h4, at_of (j := 2) rfl rfl, .inl ⟨_, rfl, ?_⟩⟩
    refine ⟨_, rfl, _, _, rfl, rfl, m0, ?_⟩
    -- state[2] = state[2] // many
    refine ⟨_, rfl, st, _, _, _, rfl, rfl, SqL.of h4, at_of (j := 2) rfl rfl, _, rfl, _, _, rfl, rfl, wide_div m0 m1 (by decide) (by decide), ?_⟩
    refine ⟨_, rfl, st, _, _, 2, rfl, rfl, h4, rfl, ?_⟩
    have nn : 0 ≤ ((DS.cur ⟨ns, k, x⟩ m : Nat) : Int) / m := Int.ediv_nonneg (Int.natCast_nonneg _) (by omega)
    refine ⟨_, rfl, q _ Z0 _ (hO.trans (Step.set hO.s h3)) ⟨?_, h2, h3⟩ rfl⟩
    rw [upd_same]
    show some (HO.lst [_, _, _]) = some (HO.lst [_, _, V.int (((((DS.cur ⟨ns, k, x⟩ m : Nat) : Int) / m).toNat : Nat) : Int)])
    rw [Int.toNat_of_nonneg nn]
    rfl
theorem cs__law_next (T : Txt K mg) {st sc : Addr} {ds : DS} {E : XK} {m : Int} (h : NxOk m) : CallS (muD st sc) (sp_law_next T) E (rac (isRef st) (rac (ty yInt m) ra0)) ds (ty yInt (nxV ds m)) (nxS ds m) := by
  rintro Z H vs sz mm ⟨_, _, rfl, rfl, v_many, _, rfl, h_many, rfl⟩ Q q
  exact ⟨st, sc, Z, ds, v_many, m, rfl, sz, mm, h_many, h, q⟩
theorem cu__law_next (T : Txt K mg) {st sc : Addr} {ds : DS} {E : XK} {m : Int} {μ : Type} {M : Mu μ} {s s2 : μ} (hm : ∀ Z H, M.m s Z H → (muD st sc).m ds Z H) (hf : ∀ a ∈ (muD st sc).fp, a ∈ M.fp) (hp : ∀ Z H Z' H', M.m s Z H → Step (muD st sc).fp Z H Z' H' → (muD st sc).m (nxS ds m) Z' H' → M.m s2 Z' H') (h : NxOk m) : CallS M (sp_law_next T) E (rac (isRef st) (rac (ty yInt m) ra0)) s (ty yInt (nxV ds m)) s2 := by
  rintro Z H vs sz mm ⟨_, _, rfl, rfl, v_many, _, rfl, h_many, rfl⟩ Q q
  exact ⟨st, sc, Z, ds, v_many, m, rfl, sz, hm _ _ mm, h_many, h, fun v Z2 H2 st2 m2 hv => q v Z2 H2 (st2.weak fun a h => .inl (hf a h)) (hp _ _ _ _ mm st2 m2) hv⟩
def sp_law_string (T : Txt K mg) : Sp := fun vs H Q _ => ∃ (st sc : Addr) (Z0 : Hp) (ds : DS) (y : (Str × DS)), vs = [.ref st] ∧ (Same Z0 H) ∧ ((muD st sc).m ds Z0 H) ∧ (F_law_string ds = some y) ∧ ∀ v Z' H', Step (muD st sc).fp Z0 H Z' H' → (muD st sc).m y.2 Z' H' → (yStr).r Z' v y.1 → Q v H'
set_option maxHeartbeats 4000000 in
theorem ok_law_string (T : Txt K mg) : FnOk P w K mg base CX0 3 T.f_law_string T.d_law_string ["state"] (sp_law_string T) := by
  have G_law_next : FnOk P w K mg base CX0 2 T.f_law_next T.d_law_next ["state", "many"] (sp_law_next T) := ok_law_next T
  refine T.F_law_string.ok sc_law_string (fun vs H Q E h => ?_) (fun cdv A outer s H vs Q E hr h => ?_)
  · obtain ⟨st, sc, Z0, ds, y, rfl, _⟩ := h
    rfl
  · obtain ⟨st, sc, Z0, ds, y, rfl, sz, hm, hF, q⟩ := h
    refine ⟨_, (pss_one (ps_ret (pe_ix ix_list (pe_lst (pa_cons pe_str (pa_cons pe_str (pa_cons pe_str (pa_cons pe_str (pa_cons pe_str (pa_cons pe_str pa_nil))))))) (pe_call G_law_next (hr.mono (by decide)) (by rfl) T.g_law_next T.F_law_next.kp T.b_law_next .nil pass0 (pa_cons (pv 0) (pa_cons pe_int pa_nil))) (fun _ _ => rfl)))), ?_⟩
    have P := Pt.start (muD st sc) sz hm
    unfold F_law_string at hF
    obtain ⟨i_3, h_4, hF⟩ := bind_inv hF
    replace hF := Option.some.inj hF
    subst hF
    refine st_ret P (ev_ixL (ev_li (ev_fz (en_listD (eva_conss ev_str (eva_conss ev_str (eva_conss ev_str (eva_conss ev_str (eva_conss ev_str (eva_conss ev_str (eva_nils (τ := yStr)))))))) (by show 6 ≤ sizeLine; decide)))) (ev_call (cs__law_next T (by decide +kernel)) (eva_cons (ev_ref rfl) (eva_cons ev_int eva_nil))) h_4) (fun v Z1 H1 P1 hv => ?_)
    exact q v _ _ P1.st P1.m hv
theorem cs_law_string (T : Txt K mg) {st sc : Addr} {ds : DS} {E : XK}  {y : Str × DS} (h : F_law_string ds = some y) : CallS (muD st sc) (sp_law_string T) E (rac (isRef st) ra0) ds (ty yStr y.1) y.2 := by
  rintro Z H vs sz m ⟨_, _, rfl, rfl, rfl⟩ Q q
  exact ⟨st, sc, Z, ds, y, rfl, sz, m, h, fun v Z2 H2 s2 m2 hv => q v Z2 H2 s2 m2 hv⟩
theorem cu_law_string (T : Txt K mg) {st sc : Addr} {ds : DS} {E : XK}  {y : Str × DS} {μ : Type} {M : Mu μ} {s s2 : μ} (hm : ∀ Z H, M.m s Z H → (muD st sc).m ds Z H) (hf : ∀ a ∈ (muD st sc).fp, a ∈ M.fp) (hp : ∀ Z H Z' H', M.m s Z H → Step (muD st sc).fp Z H Z' H' → (muD st sc).m y.2 Z' H' → M.m s2 Z' H') (h : F_law_string ds = some y) : CallS M (sp_law_string T) E (rac (isRef st) ra0) s (ty yStr y.1) s2 := by
  rintro Z H vs sz m ⟨_, _, rfl, rfl, rfl⟩ Q q
  exact ⟨st, sc, Z, ds, y, rfl, sz, hm _ _ m, h, fun v Z2 H2 st2 m2 hv => q v Z2 H2 (st2.weak fun a h => .inl (hf a h)) (hp _ _ _ _ m st2 m2) hv⟩
def sp_law_numbers (T : Txt K mg) : Sp := fun vs H Q _ => ∃ (st sc : Addr) (Z0 : Hp) (ds : DS) (y : ((List Int) × DS)), vs = [.ref st] ∧ (Same Z0 H) ∧ ((muD st sc).m ds Z0 H) ∧ (F_law_numbers ds = some y) ∧ ∀ v Z' H', Step (muD st sc).fp Z0 H Z' H' → (muD st sc).m y.2 Z' H' → ((yList yInt)).r Z' v y.1 → Q v H'
set_option maxHeartbeats 4000000 in
theorem ok_law_numbers (T : Txt K mg) : FnOk P w K mg base CX0 3 T.f_law_numbers T.d_law_numbers ["state"] (sp_law_numbers T) := by
  have G_law_next : FnOk P w K mg base CX0 2 T.f_law_next T.d_law_next ["state", "many"] (sp_law_next T) := ok_law_next T
  refine T.F_law_numbers.ok sc_law_numbers (fun vs H Q E h => ?_) (fun cdv A outer s H vs Q E hr h => ?_)
  · obtain ⟨st, sc, Z0, ds, y, rfl, _⟩ := h
    rfl
  · obtain ⟨st, sc, Z0, ds, y, rfl, sz, hm, hF, q⟩ := h
    refine ⟨_, (pss_one (ps_ret (pe_lc (own := [("k", 1)]) (g := gName 1) rfl sc_law_numbers.nd (pi_range1 rfl T.m_range (pa_cons (pe_call G_law_next (hr.mono (by decide)) (by rfl) T.g_law_next T.F_law_next.kp T.b_law_next .nil pass0 (pa_cons (pv 0) (pa_cons pe_int pa_nil))) pa_nil)) (blkOk_by (own := [("k", 1)]) (N := ["state", "k"]) (sc := defScope s_law_numbers) (by decide +kernel)) (fun _ _ _ _ _ => (pg_name (i := 1) sc_law_numbers.nd rfl (Or.inl rfl))) (fun _ _ _ _ _ => pts_nil) (fun _ _ _ _ _ => (pe_op op_sub (pe_call G_law_next (hr.mono (by decide)) (by rfl) T.g_law_next T.F_law_next.kp T.b_law_next .nil pass0 (pa_cons (pv 0) (pa_cons pe_int pa_nil))) pe_int))))), ?_⟩
    have P := Pt.start (muD st sc) sz hm
    unfold F_law_numbers at hF
    obtain ⟨g_12, hF⟩ := guard_inv hF
    obtain ⟨l_17, h_18, hF⟩ := bind_inv hF
    replace hF := Option.some.inj hF
    subst hF
    refine st_ret P (ev_fz (en_mapS (υ := yInt) (fun (x_13 : Int) (s_14 : DS) => (some (((nxV s_14 (9 : Int)) - (4 : Int)), (nxS s_14 (9 : Int))) : Option (Int × DS))) (ei_rng1 (ev_call (cs__law_next T (by decide +kernel)) (eva_cons (ev_ref rfl) (eva_cons ev_int eva_nil))) g_12) (fun x_13 v_15 Z' H' s_14 p zz hh rx_16 hp => by
          have hy := hp
          have hy := Option.some.inj hy
          subst hy
          exact ⟨_, tgt_name, (wpe_s wpe_z (by decide)), (ev_sub (ev_call (cs__law_next T (by decide +kernel)) (eva_cons (ev_ref rfl) (eva_cons ev_int eva_nil))) ev_int)⟩) h_18)) (fun v Z1 H1 P1 hv => ?_)
    exact q v _ _ P1.st P1.m hv
theorem cs_law_numbers (T : Txt K mg) {st sc : Addr} {ds : DS} {E : XK}  {y : (List Int) × DS} (h : F_law_numbers ds = some y) : CallS (muD st sc) (sp_law_numbers T) E (rac (isRef st) ra0) ds (ty (yList yInt) y.1) y.2 := by
  rintro Z H vs sz m ⟨_, _, rfl, rfl, rfl⟩ Q q
  exact ⟨st, sc, Z, ds, y, rfl, sz, m, h, fun v Z2 H2 s2 m2 hv => q v Z2 H2 s2 m2 hv⟩
theorem cu_law_numbers (T : Txt K mg) {st sc : Addr} {ds : DS} {E : XK}  {y : (List Int) × DS} {μ : Type} {M : Mu μ} {s s2 : μ} (hm : ∀ Z H, M.m s Z H → (muD st sc).m ds Z H) (hf : ∀ a ∈ (muD st sc).fp, a ∈ M.fp) (hp : ∀ Z H Z' H', M.m s Z H → Step (muD st sc).fp Z H Z' H' → (muD st sc).m y.2 Z' H' → M.m s2 Z' H') (h : F_law_numbers ds = some y) : CallS M (sp_law_numbers T) E (rac (isRef st) ra0) s (ty (yList yInt) y.1) s2 := by
  rintro Z H vs sz m ⟨_, _, rfl, rfl, rfl⟩ Q q
  exact ⟨st, sc, Z, ds, y, rfl, sz, hm _ _ m, h, fun v Z2 H2 st2 m2 hv => q v Z2 H2 (st2.weak fun a h => .inl (hf a h)) (hp _ _ _ _ m st2 m2) hv⟩
def sp_law_worth (T : Txt K mg) : Sp := fun vs H Q _ => ∃ (st sc : Addr) (Z0 : Hp) (ds : DS) (y : (Val × DS)), vs = [.ref st] ∧ (Same Z0 H) ∧ ((muD st sc).m ds Z0 H) ∧ (F_law_worth ds = some y) ∧ ∀ v Z' H', Step (muD st sc).fp Z0 H Z' H' → (muD st sc).m y.2 Z' H' → ((y_Val T)).r Z' v y.1 → Q v H'
set_option maxHeartbeats 4000000 in
theorem ok_law_worth (T : Txt K mg) : FnOk P w K mg base CX0 4 T.f_law_worth T.d_law_worth ["state"] (sp_law_worth T) := by
  have G_law_next : FnOk P w K mg base CX0 2 T.f_law_next T.d_law_next ["state", "many"] (sp_law_next T) := ok_law_next T
  have G_law_string : FnOk P w K mg base CX0 3 T.f_law_string T.d_law_string ["state"] (sp_law_string T) := ok_law_string T
  refine T.F_law_worth.ok sc_law_worth (fun vs H Q E h => ?_) (fun cdv A outer s H vs Q E hr h => ?_)
  · obtain ⟨st, sc, Z0, ds, y, rfl, _⟩ := h
    rfl
  · obtain ⟨st, sc, Z0, ds, y, rfl, sz, hm, hF, q⟩ := h
    refine ⟨_, (pss_one (ps_ret (pe_ix ix_list (pe_lst (pa_cons (pe_op op_sub (pe_call G_law_next (hr.mono (by decide)) (by rfl) T.g_law_next T.F_law_next.kp T.b_law_next .nil pass0 (pa_cons (pv 0) (pa_cons pe_int pa_nil))) pe_int) (pa_cons (pe_call G_law_string (hr.mono (by decide)) (by rfl) T.g_law_string T.F_law_string.kp T.b_law_string .nil pass0 (pa_cons (pv 0) pa_nil)) (pa_cons (pe_cmpR op_eq (pe_call G_law_next (hr.mono (by decide)) (by rfl) T.g_law_next T.F_law_next.kp T.b_law_next .nil pass0 (pa_cons (pv 0) (pa_cons pe_int pa_nil))) pe_int (nomark _)) pa_nil)))) (pe_call G_law_next (hr.mono (by decide)) (by rfl) T.g_law_next T.F_law_next.kp T.b_law_next .nil pass0 (pa_cons (pv 0) (pa_cons pe_int pa_nil))) (fun _ _ => rfl)))), ?_⟩
    have P := Pt.start (muD st sc) sz hm
    unfold F_law_worth at hF
    obtain ⟨r_23, h_24, hF⟩ := bind_inv hF
    obtain ⟨i_25, h_26, hF⟩ := bind_inv hF
    replace hF := Option.some.inj hF
    subst hF
    refine st_ret P (ev_ixL (ev_li (ev_fz (en_listD (eva_conss (ij_Val_i T (ev_sub (ev_call (cs__law_next T (by decide +kernel)) (eva_cons (ev_ref rfl) (eva_cons ev_int eva_nil))) ev_int)) (eva_conss (ij_Val_s T (ev_call (cs_law_string T h_24) (eva_cons (ev_ref rfl) eva_nil))) (eva_conss (ij_Val_b T (ev_eq flat_int (ev_call (cs__law_next T (by decide +kernel)) (eva_cons (ev_ref rfl) (eva_cons ev_int eva_nil))) ev_int)) (eva_nils (τ := (y_Val T)))))) (by show 3 ≤ sizeLine; decide)))) (ev_call (cs__law_next T (by decide +kernel)) (eva_cons (ev_ref rfl) (eva_cons ev_int eva_nil))) h_26) (fun v Z1 H1 P1 hv => ?_)
    exact q v _ _ P1.st P1.m hv
theorem cs_law_worth (T : Txt K mg) {st sc : Addr} {ds : DS} {E : XK}  {y : Val × DS} (h : F_law_worth ds = some y) : CallS (muD st sc) (sp_law_worth T) E (rac (isRef st) ra0) ds (ty (y_Val T) y.1) y.2 := by
  rintro Z H vs sz m ⟨_, _, rfl, rfl, rfl⟩ Q q
  exact ⟨st, sc, Z, ds, y, rfl, sz, m, h, fun v Z2 H2 s2 m2 hv => q v Z2 H2 s2 m2 hv⟩
theorem cu_law_worth (T : Txt K mg) {st sc : Addr} {ds : DS} {E : XK}  {y : Val × DS} {μ : Type} {M : Mu μ} {s s2 : μ} (hm : ∀ Z H, M.m s Z H → (muD st sc).m ds Z H) (hf : ∀ a ∈ (muD st sc).fp, a ∈ M.fp) (hp : ∀ Z H Z' H', M.m s Z H → Step (muD st sc).fp Z H Z' H' → (muD st sc).m y.2 Z' H' → M.m s2 Z' H') (h : F_law_worth ds = some y) : CallS M (sp_law_worth T) E (rac (isRef st) ra0) s (ty (y_Val T) y.1) s2 := by
  rintro Z H vs sz m ⟨_, _, rfl, rfl, rfl⟩ Q q
  exact ⟨st, sc, Z, ds, y, rfl, sz, hm _ _ m, h, fun v Z2 H2 st2 m2 hv => q v Z2 H2 (st2.weak fun a h => .inl (hf a h)) (hp _ _ _ _ m st2 m2) hv⟩
def sp_Record___init__ (T : Txt K mg) : Sp := fun vs H Q _ => ∃ (p dx : Addr) (Z0 : Hp) (v_name : V) (v_vector : V) (v_fields : V) (v_words : V) (x_name : Str) (x_vector : (List Int)) (x_fields : (List (Str × Val))) (x_words : (List (Str × Int))), vs = [.ref p, v_name, v_vector, v_fields, v_words] ∧ (Same Z0 H) ∧ (H p = some (.ins T.c_Record dx [])) ∧ (Z0 p = none) ∧ ((yStr).r Z0 v_name x_name) ∧ (((yList yInt)).r Z0 v_vector x_vector) ∧ (((yList (yP2 K yStr (y_Val T)))).r Z0 v_fields x_fields) ∧ (((yList (yP2 K yStr yInt))).r Z0 v_words x_words) ∧ ∀ Z' H' o, Step [p] Z0 H Z' H' → H' p = some o → (y_Record T).r (upd Z' p o) (.ref p) (F_Record___init__ x_name x_vector x_fields x_words) → Q .non H'
set_option maxHeartbeats 4000000 in
theorem ok_Record___init__ (T : Txt K mg) : FnOk P w K mg base CX0 1 T.f_Record___init__ T.d_Record___init__ ["self", "name", "vector", "fields", "words"] (sp_Record___init__ T) := by
  refine T.F_Record___init__.ok sc_Record___init__ (fun vs H Q E h => ?_) (fun cdv A outer s H vs Q E hr h => ?_)
  · obtain ⟨p, dx, Z0, v_name, v_vector, v_fields, v_words, x_name, x_vector, x_fields, x_words, rfl, _⟩ := h
    rfl
  · obtain ⟨p, dx, Z0, v_name, v_vector, v_fields, v_words, x_name, x_vector, x_fields, x_words, rfl, sz, hself, zself, h_name, h_vector, h_fields, h_words, q⟩ := h
    refine ⟨_, PSs.nox (pss_cons (ps_fld (pv 0) (pv 1) rfl) 
      (pss_cons (ps_fld (pv 0) (pe_callTy call_tuple_of (by rfl) T.m_tuple (by decide +kernel) (pa_cons (pv 2) pa_nil)) rfl) 
      (pss_cons (ps_fld (pv 0) (pe_callTy call_tuple_of (by rfl) T.m_tuple (by decide +kernel) (pa_cons (pe_lc (own := [("pair", 5)]) (g := gName 5) rfl sc_Record___init__.nd (pi_list (pv 3)) (blkOk_by (own := [("pair", 5)]) (N := ["self", "name", "vector", "fields", "words", "pair"]) (sc := defScope s_Record___init__) (by decide +kernel)) (fun _ _ _ _ _ => (pg_name (i := 5) sc_Record___init__.nd rfl (Or.inl rfl))) (fun _ _ _ _ _ => pts_nil) (fun _ _ _ _ _ => (pe_callTy (r := rTupleB K) (by exact call_tuple_of) (by rfl) T.m_tuple (by decide +kernel) (pa_cons (pv 5) pa_nil)))) pa_nil)) rfl) 
      (pss_one (ps_fld (pv 0) (pe_callTy call_tuple_of (by rfl) T.m_tuple (by decide +kernel) (pa_cons (pe_lc (own := [("pair", 5)]) (g := gName 5) rfl sc_Record___init__.nd (pi_list (pv 4)) (blkOk_by (own := [("pair", 5)]) (N := ["self", "name", "vector", "fields", "words", "pair"]) (sc := defScope s_Record___init__) (by decide +kernel)) (fun _ _ _ _ _ => (pg_name (i := 5) sc_Record___init__.nd rfl (Or.inl rfl))) (fun _ _ _ _ _ => pts_nil) (fun _ _ _ _ _ => (pe_callTy (r := rTupleB K) (by exact call_tuple_of) (by rfl) T.m_tuple (by decide +kernel) (pa_cons (pv 5) pa_nil)))) pa_nil)) rfl))))), ?_⟩
    have P : Pt [p] Z0 H muN Z0 H () := ⟨Step.refl sz, trivial, fun _ h => (nomatch h)⟩
    generalize hF : F_Record___init__ x_name x_vector x_fields x_words = y at q
    unfold F_Record___init__ at hF
    refine st_seq (st_fld (x := x_name) (τ := yStr) P hself zself List.not_mem_nil (.inl List.mem_cons_self) rfl (ev_var (τ := yStr) rfl h_name) T.cl_Record T.n_Record_name (Nat.lt_of_le_of_lt (Nat.le_refl 0) (by decide)) (fun v_27 Z1 H1 e P1 k_28 hself1 zself1 => ?_))
    refine st_nx ?_
    replace P := P1
    replace hself := hself1
    replace zself := zself1
    replace h_vector := ((yList yInt)).mono e.z h_vector
    replace h_fields := ((yList (yP2 K yStr (y_Val T)))).mono e.z h_fields
    replace h_words := ((yList (yP2 K yStr yInt))).mono e.z h_words
    refine st_seq (st_fld (x := x_vector) (τ := (yTup K yInt)) P hself zself List.not_mem_nil (.inl List.mem_cons_self) rfl (ev_tuple_of (fun _ _ _ h => h) (ev_li (ev_var (τ := (yList yInt)) rfl h_vector))) T.cl_Record T.n_Record_vector (Nat.lt_of_le_of_lt (putF_le (Nat.le_refl 0)) (by decide)) (fun v_29 Z1 H1 e P1 k_30 hself1 zself1 => ?_))
    refine st_nx ?_
    replace P := P1
    replace hself := hself1
    replace zself := zself1
    replace h_fields := ((yList (yP2 K yStr (y_Val T)))).mono e.z h_fields
    replace h_words := ((yList (yP2 K yStr yInt))).mono e.z h_words
    refine st_seq (st_fld (x := x_fields) (τ := (yTup K (yP2 K yStr (y_Val T)))) P hself zself List.not_mem_nil (.inl List.mem_cons_self) rfl (ev_tuple_of (fun _ _ _ h => h) (ev_li (ev_fz (en_cast (en_map (fun x => x) (ei_list (ev_var (τ := (yList (yP2 K yStr (y_Val T)))) rfl h_fields)) (fun x_34 v_35 Z' H' zz hh rx_36 => by
          exact ⟨_, tgt_name, (wpe_s wpe_z (by decide)), (ev_tuple_id (fun _ _ _ h => h) it_p2 (ev_var (τ := (yP2 K yStr (y_Val T))) rfl rx_36))⟩)) (List.map_id' _))))) T.cl_Record T.n_Record_fields (Nat.lt_of_le_of_lt (putF_le (putF_le (Nat.le_refl 0))) (by decide)) (fun v_37 Z1 H1 e P1 k_38 hself1 zself1 => ?_))
    refine st_nx ?_
    replace P := P1
    replace hself := hself1
    replace zself := zself1
    replace h_words := ((yList (yP2 K yStr yInt))).mono e.z h_words
    replace k_30 := ((yTup K yInt)).mono e.z k_30
    refine st_fld (x := x_words) (τ := (yTup K (yP2 K yStr yInt))) P hself zself List.not_mem_nil (.inl List.mem_cons_self) rfl (ev_tuple_of (fun _ _ _ h => h) (ev_li (ev_fz (en_cast (en_map (fun x => x) (ei_list (ev_var (τ := (yList (yP2 K yStr yInt))) rfl h_words)) (fun x_42 v_43 Z' H' zz hh rx_44 => by
          exact ⟨_, tgt_name, (wpe_s wpe_z (by decide)), (ev_tuple_id (fun _ _ _ h => h) it_p2 (ev_var (τ := (yP2 K yStr yInt)) rfl rx_44))⟩)) (List.map_id' _))))) T.cl_Record T.n_Record_words (Nat.lt_of_le_of_lt (putF_le (putF_le (putF_le (Nat.le_refl 0)))) (by decide)) (fun v_45 Z1 H1 e P1 k_46 hself1 zself1 => ?_)
    replace P := P1
    replace hself := hself1
    replace zself := zself1
    replace k_30 := ((yTup K yInt)).mono e.z k_30
    replace k_38 := ((yTup K (yP2 K yStr (y_Val T)))).mono e.z k_38
    subst hF
    exact q _ _ _ P.st hself ⟨p, dx, v_27, v_29, v_37, v_45, rfl, upd_same, k_28, ((yTup K yInt)).mono (same_upd zself) k_30, ((yTup K (yP2 K yStr (y_Val T)))).mono (same_upd zself) k_38, ((yTup K (yP2 K yStr yInt))).mono (same_upd zself) k_46⟩
theorem is_Record___init__ (T : Txt K mg) {μ : Type} {M : Mu μ} {s : μ} {E : XK} {x_name : Str} {x_vector : (List Int)} {x_fields : (List (Str × Val))} {x_words : (List (Str × Int))} : InitS M T.c_Record (sp_Record___init__ T) E (rac (ty yStr x_name) (rac (ty (yList yInt) x_vector) (rac (ty (yList (yP2 K yStr (y_Val T))) x_fields) (rac (ty (yList (yP2 K yStr yInt)) x_words) ra0)))) s (ty (y_Record T) (F_Record___init__ x_name x_vector x_fields x_words)) s := by
  rintro Z H vs x dx sz m ⟨v_name, _, rfl, h_name, ⟨v_vector, _, rfl, h_vector, ⟨v_fields, _, rfl, h_fields, ⟨v_words, _, rfl, h_words, rfl⟩⟩⟩⟩ hx zx nx Q q
  exact ⟨x, dx, Z, v_name, v_vector, v_fields, v_words, x_name, x_vector, x_fields, x_words, rfl, sz, hx, zx, h_name, h_vector, h_fields, h_words, fun Z2 H2 o st ho hr => q Z2 H2 o (st.weak fun a h => by rw [List.mem_singleton] at h; rw [h]; exact .inl List.mem_cons_self) (Mu.away st nx m) ho hr⟩
def sp_law_record (T : Txt K mg) : Sp := fun vs H Q _ => ∃ (st sc : Addr) (Z0 : Hp) (ds : DS) (y : (Record × DS)), vs = [.ref st] ∧ (Same Z0 H) ∧ ((muD st sc).m ds Z0 H) ∧ (F_law_record ds = some y) ∧ ∀ v Z' H', Step (muD st sc).fp Z0 H Z' H' → (muD st sc).m y.2 Z' H' → ((y_Record T)).r Z' v y.1 → Q v H'
set_option maxHeartbeats 4000000 in
theorem ok_law_record (T : Txt K mg) : FnOk P w K mg base CX0 5 T.f_law_record T.d_law_record ["state"] (sp_law_record T) := by
  have G_law_numbers : FnOk P w K mg base CX0 3 T.f_law_numbers T.d_law_numbers ["state"] (sp_law_numbers T) := ok_law_numbers T
  have G_law_string : FnOk P w K mg base CX0 3 T.f_law_string T.d_law_string ["state"] (sp_law_string T) := ok_law_string T
  have G_Record___init__ : FnOk P w K mg base CX0 1 T.f_Record___init__ T.d_Record___init__ ["self", "name", "vector", "fields", "words"] (sp_Record___init__ T) := ok_Record___init__ T
  have G_law_next : FnOk P w K mg base CX0 2 T.f_law_next T.d_law_next ["state", "many"] (sp_law_next T) := ok_law_next T
  have G_law_worth : FnOk P w K mg base CX0 4 T.f_law_worth T.d_law_worth ["state"] (sp_law_worth T) := ok_law_worth T
  refine T.F_law_record.ok sc_law_record (fun vs H Q E h => ?_) (fun cdv A outer s H vs Q E hr h => ?_)
  · obtain ⟨st, sc, Z0, ds, y, rfl, _⟩ := h
    rfl
  · obtain ⟨st, sc, Z0, ds, y, rfl, sz, hm, hF, q⟩ := h
    refine ⟨_, (pss_cons (ps_setLc (i := 1) (own := [("k", 2)]) (g := gName 2) rfl sc_law_record.nd rfl rfl (sw_true rfl rfl rfl (by decide +kernel)) (pi_range1 rfl T.m_range (pa_cons (pe_call G_law_next (hr.mono (by decide)) (by rfl) T.g_law_next T.F_law_next.kp T.b_law_next .nil pass0 (pa_cons (pv 0) (pa_cons pe_int pa_nil))) pa_nil)) (blkOk_by (own := [("k", 2)]) (N := ["state", "fields", "k", "words"]) (sc := defScope s_law_record) (by decide +kernel)) (fun _ _ _ _ _ => (pg_name (i := 2) sc_law_record.nd rfl (Or.inl rfl))) (fun _ _ _ _ _ => pts_nil) (fun _ _ _ _ _ => (pe_tup (pa_cons (pe_call G_law_string (hr.mono (by decide)) (by rfl) T.g_law_string T.F_law_string.kp T.b_law_string .nil pass0 (pa_cons (pv 0) pa_nil)) (pa_cons (pe_call G_law_worth (hr.mono (by decide)) (by rfl) T.g_law_worth T.F_law_worth.kp T.b_law_worth .nil pass0 (pa_cons (pv 0) pa_nil)) pa_nil))))) 
      (pss_cons (ps_setLc (i := 3) (own := [("k", 2)]) (g := gName 2) rfl sc_law_record.nd rfl rfl (sw_true rfl rfl rfl (by decide +kernel)) (pi_range1 rfl T.m_range (pa_cons (pe_call G_law_next (hr.mono (by decide)) (by rfl) T.g_law_next T.F_law_next.kp T.b_law_next .nil pass0 (pa_cons (pv 0) (pa_cons pe_int pa_nil))) pa_nil)) (blkOk_by (own := [("k", 2)]) (N := ["state", "fields", "k", "words"]) (sc := defScope s_law_record) (by decide +kernel)) (fun _ _ _ _ _ => (pg_name (i := 2) sc_law_record.nd rfl (Or.inl rfl))) (fun _ _ _ _ _ => pts_nil) (fun _ _ _ _ _ => (pe_tup (pa_cons (pe_call G_law_string (hr.mono (by decide)) (by rfl) T.g_law_string T.F_law_string.kp T.b_law_string .nil pass0 (pa_cons (pv 0) pa_nil)) (pa_cons (pe_op op_add pe_int (pe_call G_law_next (hr.mono (by decide)) (by rfl) T.g_law_next T.F_law_next.kp T.b_law_next .nil pass0 (pa_cons (pv 0) (pa_cons pe_int pa_nil)))) pa_nil))))) 
      (pss_one (ps_ret (pe_makeK T.mk_Record G_Record___init__ (hr.mono (by decide)) (by rfl) T.mc_Record T.kb_Record___init__ pass0 (pa_cons (pe_call G_law_string (hr.mono (by decide)) (by rfl) T.g_law_string T.F_law_string.kp T.b_law_string .nil pass0 (pa_cons (pv 0) pa_nil)) (pa_cons (pe_call G_law_numbers (hr.mono (by decide)) (by rfl) T.g_law_numbers T.F_law_numbers.kp T.b_law_numbers .nil pass0 (pa_cons (pv 0) pa_nil)) pa_nil)) (pk_cons (pv 1) (pk_cons (pv 3) pk_nil))))))), ?_⟩
    have P := Pt.start (muD st sc) sz hm
    unfold F_law_record at hF
    obtain ⟨g_56, hF⟩ := guard_inv hF
    obtain ⟨l_65, h_66, hF⟩ := bind_inv hF
    refine st_seq (st_set P (ev_fz (en_mapS (υ := (yP2 K yStr (y_Val T))) (fun (x_57 : Int) (s_58 : DS) => ((F_law_string s_58).bind fun r_61 =>
    (F_law_worth r_61.2).bind fun r_63 =>
    some ((r_61.1, r_63.1), r_63.2) : Option ((Str × Val) × DS))) (ei_rng1 (ev_call (cs__law_next T (by decide +kernel)) (eva_cons (ev_ref rfl) (eva_cons ev_int eva_nil))) g_56) (fun x_57 v_59 Z' H' s_58 p zz hh rx_60 hp => by
          have hy := hp
          obtain ⟨r_61, h_62, hy⟩ := bind_inv hy
          obtain ⟨r_63, h_64, hy⟩ := bind_inv hy
          have hy := Option.some.inj hy
          subst hy
          exact ⟨_, tgt_name, (wpe_s wpe_z (by decide)), (ev_p2 (K := K) (eva_cons (ev_call (cs_law_string T h_62) (eva_cons (ev_ref rfl) eva_nil)) (eva_cons (ev_call (cs_law_worth T h_64) (eva_cons (ev_ref rfl) eva_nil)) eva_nil)))⟩) h_66)) (fun v_67 Z1 H1 e P1 k_68 => ?_))
    refine st_nx ?_
    replace P := P1
    obtain ⟨g_69, hF⟩ := guard_inv hF
    obtain ⟨l_76, h_77, hF⟩ := bind_inv hF
    refine st_seq (st_set P (ev_fz (en_mapS (υ := (yP2 K yStr yInt)) (fun (x_70 : Int) (s_71 : DS) => ((F_law_string s_71).bind fun r_74 =>
    some ((r_74.1, ((1 : Int) + (nxV r_74.2 (9 : Int)))), (nxS r_74.2 (9 : Int))) : Option ((Str × Int) × DS))) (ei_rng1 (ev_call (cs__law_next T (by decide +kernel)) (eva_cons (ev_ref rfl) (eva_cons ev_int eva_nil))) g_69) (fun x_70 v_72 Z' H' s_71 p zz hh rx_73 hp => by
          have hy := hp
          obtain ⟨r_74, h_75, hy⟩ := bind_inv hy
          have hy := Option.some.inj hy
          subst hy
          exact ⟨_, tgt_name, (wpe_s wpe_z (by decide)), (ev_p2 (K := K) (eva_cons (ev_call (cs_law_string T h_75) (eva_cons (ev_ref rfl) eva_nil)) (eva_cons (ev_add ev_int (ev_call (cs__law_next T (by decide +kernel)) (eva_cons (ev_ref rfl) (eva_cons ev_int eva_nil)))) eva_nil)))⟩) h_77)) (fun v_78 Z1 H1 e P1 k_79 => ?_))
    refine st_nx ?_
    replace P := P1
    replace k_68 := ((yList (yP2 K yStr (y_Val T)))).mono e.z k_68
    obtain ⟨r_80, h_81, hF⟩ := bind_inv hF
    obtain ⟨r_82, h_83, hF⟩ := bind_inv hF
    replace hF := Option.some.inj hF
    subst hF
    refine st_ret P (ev_makeK (is_Record___init__ T) (eva_cons (ev_call (cs_law_string T h_81) (eva_cons (ev_ref rfl) eva_nil)) (eva_cons (ev_call (cs_law_numbers T h_83) (eva_cons (ev_ref rfl) eva_nil)) eva_nil)) (eva_cons (ev_var (τ := (yList (yP2 K yStr (y_Val T)))) rfl k_68) (eva_cons (ev_var (τ := (yList (yP2 K yStr yInt))) rfl k_79) eva_nil)) (fun Z H vs zs x hv hz => by
          obtain ⟨v0, _, rfl, hv0, ⟨v1, _, rfl, hv1, rfl⟩⟩ := hv
          obtain ⟨w0, _, rfl, hw0, ⟨w1, _, rfl, hw1, rfl⟩⟩ := hz
          exact ⟨rfl, rfl, _, rfl, ⟨v0, _, rfl, hv0, ⟨v1, _, rfl, hv1, ⟨w0, _, rfl, hw0, ⟨w1, _, rfl, hw1, rfl⟩⟩⟩⟩⟩)) (fun v Z1 H1 P1 hv => ?_)
    exact q v _ _ P1.st P1.m hv
theorem cs_law_record (T : Txt K mg) {st sc : Addr} {ds : DS} {E : XK}  {y : Record × DS} (h : F_law_record ds = some y) : CallS (muD st sc) (sp_law_record T) E (rac (isRef st) ra0) ds (ty (y_Record T) y.1) y.2 := by
  rintro Z H vs sz m ⟨_, _, rfl, rfl, rfl⟩ Q q
  exact ⟨st, sc, Z, ds, y, rfl, sz, m, h, fun v Z2 H2 s2 m2 hv => q v Z2 H2 s2 m2 hv⟩
theorem cu_law_record (T : Txt K mg) {st sc : Addr} {ds : DS} {E : XK}  {y : Record × DS} {μ : Type} {M : Mu μ} {s s2 : μ} (hm : ∀ Z H, M.m s Z H → (muD st sc).m ds Z H) (hf : ∀ a ∈ (muD st sc).fp, a ∈ M.fp) (hp : ∀ Z H Z' H', M.m s Z H → Step (muD st sc).fp Z H Z' H' → (muD st sc).m y.2 Z' H' → M.m s2 Z' H') (h : F_law_record ds = some y) : CallS M (sp_law_record T) E (rac (isRef st) ra0) s (ty (y_Record T) y.1) s2 := by
  rintro Z H vs sz m ⟨_, _, rfl, rfl, rfl⟩ Q q
  exact ⟨st, sc, Z, ds, y, rfl, sz, hm _ _ m, h, fun v Z2 H2 st2 m2 hv => q v Z2 H2 (st2.weak fun a h => .inl (hf a h)) (hp _ _ _ _ m st2 m2) hv⟩
def sp_Part___init__ (T : Txt K mg) : Sp := fun vs H Q _ => ∃ (p dx : Addr) (Z0 : Hp) (v_start : V) (v_centre : V) (v_radius : V) (x_start : Int) (x_centre : (List Int)) (x_radius : Int), vs = [.ref p, v_start, v_centre, v_radius] ∧ (Same Z0 H) ∧ (H p = some (.ins T.c_Part dx [])) ∧ (Z0 p = none) ∧ ((yInt).r Z0 v_start x_start) ∧ (((yList yInt)).r Z0 v_centre x_centre) ∧ ((yInt).r Z0 v_radius x_radius) ∧ ∀ Z' H' o, Step [p] Z0 H Z' H' → H' p = some o → (y_Part T).r (upd Z' p o) (.ref p) (F_Part___init__ x_start x_centre x_radius) → Q .non H'
set_option maxHeartbeats 4000000 in
theorem ok_Part___init__ (T : Txt K mg) : FnOk P w K mg base CX0 1 T.f_Part___init__ T.d_Part___init__ ["self", "start", "centre", "radius"] (sp_Part___init__ T) := by
  refine T.F_Part___init__.ok sc_Part___init__ (fun vs H Q E h => ?_) (fun cdv A outer s H vs Q E hr h => ?_)
  · obtain ⟨p, dx, Z0, v_start, v_centre, v_radius, x_start, x_centre, x_radius, rfl, _⟩ := h
    rfl
  · obtain ⟨p, dx, Z0, v_start, v_centre, v_radius, x_start, x_centre, x_radius, rfl, sz, hself, zself, h_start, h_centre, h_radius, q⟩ := h
    refine ⟨_, (pss_cons (ps_fld (pv 0) (pv 1) rfl) 
      (pss_cons (ps_fld (pv 0) (pe_callTy call_tuple_of (by rfl) T.m_tuple (by decide +kernel) (pa_cons (pv 2) pa_nil)) rfl) 
      (pss_one (ps_fld (pv 0) (pv 3) rfl)))), ?_⟩
    have P : Pt [p] Z0 H muN Z0 H () := ⟨Step.refl sz, trivial, fun _ h => (nomatch h)⟩
    generalize hF : F_Part___init__ x_start x_centre x_radius = y at q
    unfold F_Part___init__ at hF
    refine st_seq (st_fld (x := x_start) (τ := yInt) P hself zself List.not_mem_nil (.inl List.mem_cons_self) rfl (ev_var (τ := yInt) rfl h_start) T.cl_Part T.n_Part_start (Nat.lt_of_le_of_lt (Nat.le_refl 0) (by decide)) (fun v_84 Z1 H1 e P1 k_85 hself1 zself1 => ?_))
    refine st_nx ?_
    replace P := P1
    replace hself := hself1
    replace zself := zself1
    replace h_centre := ((yList yInt)).mono e.z h_centre
    refine st_seq (st_fld (x := x_centre) (τ := (yTup K yInt)) P hself zself List.not_mem_nil (.inl List.mem_cons_self) rfl (ev_tuple_of (fun _ _ _ h => h) (ev_li (ev_var (τ := (yList yInt)) rfl h_centre))) T.cl_Part T.n_Part_centre (Nat.lt_of_le_of_lt (putF_le (Nat.le_refl 0)) (by decide)) (fun v_86 Z1 H1 e P1 k_87 hself1 zself1 => ?_))
    refine st_nx ?_
    replace P := P1
    replace hself := hself1
    replace zself := zself1
    refine st_fld (x := x_radius) (τ := yInt) P hself zself List.not_mem_nil (.inl List.mem_cons_self) rfl (ev_var (τ := yInt) rfl h_radius) T.cl_Part T.n_Part_radius (Nat.lt_of_le_of_lt (putF_le (putF_le (Nat.le_refl 0))) (by decide)) (fun v_88 Z1 H1 e P1 k_89 hself1 zself1 => ?_)
    replace P := P1
    replace hself := hself1
    replace zself := zself1
    replace k_87 := ((yTup K yInt)).mono e.z k_87
    subst hF
    exact q _ _ _ P.st hself ⟨p, dx, v_84, v_86, v_88, rfl, upd_same, k_85, ((yTup K yInt)).mono (same_upd zself) k_87, k_89⟩
theorem is_Part___init__ (T : Txt K mg) {μ : Type} {M : Mu μ} {s : μ} {E : XK} {x_start : Int} {x_centre : (List Int)} {x_radius : Int} : InitS M T.c_Part (sp_Part___init__ T) E (rac (ty yInt x_start) (rac (ty (yList yInt) x_centre) (rac (ty yInt x_radius) ra0))) s (ty (y_Part T) (F_Part___init__ x_start x_centre x_radius)) s := by
  rintro Z H vs x dx sz m ⟨v_start, _, rfl, h_start, ⟨v_centre, _, rfl, h_centre, ⟨v_radius, _, rfl, h_radius, rfl⟩⟩⟩ hx zx nx Q q
  exact ⟨x, dx, Z, v_start, v_centre, v_radius, x_start, x_centre, x_radius, rfl, sz, hx, zx, h_start, h_centre, h_radius, fun Z2 H2 o st ho hr => q Z2 H2 o (st.weak fun a h => by rw [List.mem_singleton] at h; rw [h]; exact .inl List.mem_cons_self) (Mu.away st nx m) ho hr⟩
def sp_Parts___init__ (T : Txt K mg) : Sp := fun vs H Q _ => ∃ (p dx : Addr) (Z0 : Hp) (v_parts : V) (x_parts : (List Part)), vs = [.ref p, v_parts] ∧ (Same Z0 H) ∧ (H p = some (.ins T.c_Parts dx [])) ∧ (Z0 p = none) ∧ (((yList (y_Part T))).r Z0 v_parts x_parts) ∧ ∀ Z' H' o, Step [p] Z0 H Z' H' → H' p = some o → (y_Parts T).r (upd Z' p o) (.ref p) (F_Parts___init__ x_parts) → Q .non H'
set_option maxHeartbeats 4000000 in
theorem ok_Parts___init__ (T : Txt K mg) : FnOk P w K mg base CX0 1 T.f_Parts___init__ T.d_Parts___init__ ["self", "parts"] (sp_Parts___init__ T) := by
  refine T.F_Parts___init__.ok sc_Parts___init__ (fun vs H Q E h => ?_) (fun cdv A outer s H vs Q E hr h => ?_)
  · obtain ⟨p, dx, Z0, v_parts, x_parts, rfl, _⟩ := h
    rfl
  · obtain ⟨p, dx, Z0, v_parts, x_parts, rfl, sz, hself, zself, h_parts, q⟩ := h
    refine ⟨_, (pss_one (ps_fld (pv 0) (pe_callTy call_tuple_of (by rfl) T.m_tuple (by decide +kernel) (pa_cons (pv 1) pa_nil)) rfl)), ?_⟩
    have P : Pt [p] Z0 H muN Z0 H () := ⟨Step.refl sz, trivial, fun _ h => (nomatch h)⟩
    generalize hF : F_Parts___init__ x_parts = y at q
    unfold F_Parts___init__ at hF
    refine st_fld (x := x_parts) (τ := (yTup K (y_Part T))) P hself zself List.not_mem_nil (.inl List.mem_cons_self) rfl (ev_tuple_of (fun _ _ _ h => h) (ev_li (ev_var (τ := (yList (y_Part T))) rfl h_parts))) T.cl_Parts T.n_Parts_parts (Nat.lt_of_le_of_lt (Nat.le_refl 0) (by decide)) (fun v_90 Z1 H1 e P1 k_91 hself1 zself1 => ?_)
    replace P := P1
    replace hself := hself1
    replace zself := zself1
    subst hF
    exact q _ _ _ P.st hself ⟨p, dx, v_90, rfl, upd_same, ((yTup K (y_Part T))).mono (same_upd zself) k_91⟩
theorem is_Parts___init__ (T : Txt K mg) {μ : Type} {M : Mu μ} {s : μ} {E : XK} {x_parts : (List Part)} : InitS M T.c_Parts (sp_Parts___init__ T) E (rac (ty (yList (y_Part T)) x_parts) ra0) s (ty (y_Parts T) (F_Parts___init__ x_parts)) s := by
  rintro Z H vs x dx sz m ⟨v_parts, _, rfl, h_parts, rfl⟩ hx zx nx Q q
  exact ⟨x, dx, Z, v_parts, x_parts, rfl, sz, hx, zx, h_parts, fun Z2 H2 o st ho hr => q Z2 H2 o (st.weak fun a h => by rw [List.mem_singleton] at h; rw [h]; exact .inl List.mem_cons_self) (Mu.away st nx m) ho hr⟩
def sp_Cell___init__ (T : Txt K mg) : Sp := fun vs H Q _ => ∃ (p dx : Addr) (Z0 : Hp) (v_near : V) (v_rival : V) (x_near : (List Int)) (x_rival : (List Int)), vs = [.ref p, v_near, v_rival] ∧ (Same Z0 H) ∧ (H p = some (.ins T.c_Cell dx [])) ∧ (Z0 p = none) ∧ (((yList yInt)).r Z0 v_near x_near) ∧ (((yList yInt)).r Z0 v_rival x_rival) ∧ ∀ Z' H' o, Step [p] Z0 H Z' H' → H' p = some o → (y_Cell T).r (upd Z' p o) (.ref p) (F_Cell___init__ x_near x_rival) → Q .non H'
set_option maxHeartbeats 4000000 in
theorem ok_Cell___init__ (T : Txt K mg) : FnOk P w K mg base CX0 1 T.f_Cell___init__ T.d_Cell___init__ ["self", "near", "rival"] (sp_Cell___init__ T) := by
  refine T.F_Cell___init__.ok sc_Cell___init__ (fun vs H Q E h => ?_) (fun cdv A outer s H vs Q E hr h => ?_)
  · obtain ⟨p, dx, Z0, v_near, v_rival, x_near, x_rival, rfl, _⟩ := h
    rfl
  · obtain ⟨p, dx, Z0, v_near, v_rival, x_near, x_rival, rfl, sz, hself, zself, h_near, h_rival, q⟩ := h
    refine ⟨_, (pss_cons (ps_fld (pv 0) (pe_callTy call_tuple_of (by rfl) T.m_tuple (by decide +kernel) (pa_cons (pv 1) pa_nil)) rfl) 
      (pss_one (ps_fld (pv 0) (pe_callTy call_tuple_of (by rfl) T.m_tuple (by decide +kernel) (pa_cons (pv 2) pa_nil)) rfl))), ?_⟩
    have P : Pt [p] Z0 H muN Z0 H () := ⟨Step.refl sz, trivial, fun _ h => (nomatch h)⟩
    generalize hF : F_Cell___init__ x_near x_rival = y at q
    unfold F_Cell___init__ at hF
    refine st_seq (st_fld (x := x_near) (τ := (yTup K yInt)) P hself zself List.not_mem_nil (.inl List.mem_cons_self) rfl (ev_tuple_of (fun _ _ _ h => h) (ev_li (ev_var (τ := (yList yInt)) rfl h_near))) T.cl_Cell T.n_Cell_near (Nat.lt_of_le_of_lt (Nat.le_refl 0) (by decide)) (fun v_92 Z1 H1 e P1 k_93 hself1 zself1 => ?_))
    refine st_nx ?_
    replace P := P1
    replace hself := hself1
    replace zself := zself1
    replace h_rival := ((yList yInt)).mono e.z h_rival
    refine st_fld (x := x_rival) (τ := (yTup K yInt)) P hself zself List.not_mem_nil (.inl List.mem_cons_self) rfl (ev_tuple_of (fun _ _ _ h => h) (ev_li (ev_var (τ := (yList yInt)) rfl h_rival))) T.cl_Cell T.n_Cell_rival (Nat.lt_of_le_of_lt (putF_le (Nat.le_refl 0)) (by decide)) (fun v_94 Z1 H1 e P1 k_95 hself1 zself1 => ?_)
    replace P := P1
    replace hself := hself1
    replace zself := zself1
    replace k_93 := ((yTup K yInt)).mono e.z k_93
    subst hF
    exact q _ _ _ P.st hself ⟨p, dx, v_92, v_94, rfl, upd_same, ((yTup K yInt)).mono (same_upd zself) k_93, ((yTup K yInt)).mono (same_upd zself) k_95⟩
theorem is_Cell___init__ (T : Txt K mg) {μ : Type} {M : Mu μ} {s : μ} {E : XK} {x_near : (List Int)} {x_rival : (List Int)} : InitS M T.c_Cell (sp_Cell___init__ T) E (rac (ty (yList yInt) x_near) (rac (ty (yList yInt) x_rival) ra0)) s (ty (y_Cell T) (F_Cell___init__ x_near x_rival)) s := by
  rintro Z H vs x dx sz m ⟨v_near, _, rfl, h_near, ⟨v_rival, _, rfl, h_rival, rfl⟩⟩ hx zx nx Q q
  exact ⟨x, dx, Z, v_near, v_rival, x_near, x_rival, rfl, sz, hx, zx, h_near, h_rival, fun Z2 H2 o st ho hr => q Z2 H2 o (st.weak fun a h => by rw [List.mem_singleton] at h; rw [h]; exact .inl List.mem_cons_self) (Mu.away st nx m) ho hr⟩
def sp_Box___init__ (T : Txt K mg) : Sp := fun vs H Q _ => ∃ (p dx : Addr) (Z0 : Hp) (v_low : V) (v_high : V) (x_low : (List Int)) (x_high : (List Int)), vs = [.ref p, v_low, v_high] ∧ (Same Z0 H) ∧ (H p = some (.ins T.c_Box dx [])) ∧ (Z0 p = none) ∧ (((yList yInt)).r Z0 v_low x_low) ∧ (((yList yInt)).r Z0 v_high x_high) ∧ ∀ Z' H' o, Step [p] Z0 H Z' H' → H' p = some o → (y_Box T).r (upd Z' p o) (.ref p) (F_Box___init__ x_low x_high) → Q .non H'
set_option maxHeartbeats 4000000 in
theorem ok_Box___init__ (T : Txt K mg) : FnOk P w K mg base CX0 1 T.f_Box___init__ T.d_Box___init__ ["self", "low", "high"] (sp_Box___init__ T) := by
  refine T.F_Box___init__.ok sc_Box___init__ (fun vs H Q E h => ?_) (fun cdv A outer s H vs Q E hr h => ?_)
  · obtain ⟨p, dx, Z0, v_low, v_high, x_low, x_high, rfl, _⟩ := h
    rfl
  · obtain ⟨p, dx, Z0, v_low, v_high, x_low, x_high, rfl, sz, hself, zself, h_low, h_high, q⟩ := h
    refine ⟨_, (pss_cons (ps_fld (pv 0) (pe_callTy call_tuple_of (by rfl) T.m_tuple (by decide +kernel) (pa_cons (pv 1) pa_nil)) rfl) 
      (pss_one (ps_fld (pv 0) (pe_callTy call_tuple_of (by rfl) T.m_tuple (by decide +kernel) (pa_cons (pv 2) pa_nil)) rfl))), ?_⟩
    have P : Pt [p] Z0 H muN Z0 H () := ⟨Step.refl sz, trivial, fun _ h => (nomatch h)⟩
    generalize hF : F_Box___init__ x_low x_high = y at q
    unfold F_Box___init__ at hF
    refine st_seq (st_fld (x := x_low) (τ := (yTup K yInt)) P hself zself List.not_mem_nil (.inl List.mem_cons_self) rfl (ev_tuple_of (fun _ _ _ h => h) (ev_li (ev_var (τ := (yList yInt)) rfl h_low))) T.cl_Box T.n_Box_low (Nat.lt_of_le_of_lt (Nat.le_refl 0) (by decide)) (fun v_96 Z1 H1 e P1 k_97 hself1 zself1 => ?_))
    refine st_nx ?_
    replace P := P1
    replace hself := hself1
    replace zself := zself1
    replace h_high := ((yList yInt)).mono e.z h_high
    refine st_fld (x := x_high) (τ := (yTup K yInt)) P hself zself List.not_mem_nil (.inl List.mem_cons_self) rfl (ev_tuple_of (fun _ _ _ h => h) (ev_li (ev_var (τ := (yList yInt)) rfl h_high))) T.cl_Box T.n_Box_high (Nat.lt_of_le_of_lt (putF_le (Nat.le_refl 0)) (by decide)) (fun v_98 Z1 H1 e P1 k_99 hself1 zself1 => ?_)
    replace P := P1
    replace hself := hself1
    replace zself := zself1
    replace k_97 := ((yTup K yInt)).mono e.z k_97
    subst hF
    exact q _ _ _ P.st hself ⟨p, dx, v_96, v_98, rfl, upd_same, ((yTup K yInt)).mono (same_upd zself) k_97, ((yTup K yInt)).mono (same_upd zself) k_99⟩
theorem is_Box___init__ (T : Txt K mg) {μ : Type} {M : Mu μ} {s : μ} {E : XK} {x_low : (List Int)} {x_high : (List Int)} : InitS M T.c_Box (sp_Box___init__ T) E (rac (ty (yList yInt) x_low) (rac (ty (yList yInt) x_high) ra0)) s (ty (y_Box T) (F_Box___init__ x_low x_high)) s := by
  rintro Z H vs x dx sz m ⟨v_low, _, rfl, h_low, ⟨v_high, _, rfl, h_high, rfl⟩⟩ hx zx nx Q q
  exact ⟨x, dx, Z, v_low, v_high, x_low, x_high, rfl, sz, hx, zx, h_low, h_high, fun Z2 H2 o st ho hr => q Z2 H2 o (st.weak fun a h => by rw [List.mem_singleton] at h; rw [h]; exact .inl List.mem_cons_self) (Mu.away st nx m) ho hr⟩
def sp_Norms___init__ (T : Txt K mg) : Sp := fun vs H Q _ => ∃ (p dx : Addr) (Z0 : Hp) (v_low : V) (v_high : V) (x_low : Int) (x_high : Int), vs = [.ref p, v_low, v_high] ∧ (Same Z0 H) ∧ (H p = some (.ins T.c_Norms dx [])) ∧ (Z0 p = none) ∧ ((yInt).r Z0 v_low x_low) ∧ ((yInt).r Z0 v_high x_high) ∧ ∀ Z' H' o, Step [p] Z0 H Z' H' → H' p = some o → (y_Norms T).r (upd Z' p o) (.ref p) (F_Norms___init__ x_low x_high) → Q .non H'
set_option maxHeartbeats 4000000 in
theorem ok_Norms___init__ (T : Txt K mg) : FnOk P w K mg base CX0 1 T.f_Norms___init__ T.d_Norms___init__ ["self", "low", "high"] (sp_Norms___init__ T) := by
  refine T.F_Norms___init__.ok sc_Norms___init__ (fun vs H Q E h => ?_) (fun cdv A outer s H vs Q E hr h => ?_)
  · obtain ⟨p, dx, Z0, v_low, v_high, x_low, x_high, rfl, _⟩ := h
    rfl
  · obtain ⟨p, dx, Z0, v_low, v_high, x_low, x_high, rfl, sz, hself, zself, h_low, h_high, q⟩ := h
    refine ⟨_, (pss_cons (ps_fld (pv 0) (pv 1) rfl) 
      (pss_one (ps_fld (pv 0) (pv 2) rfl))), ?_⟩
    have P : Pt [p] Z0 H muN Z0 H () := ⟨Step.refl sz, trivial, fun _ h => (nomatch h)⟩
    generalize hF : F_Norms___init__ x_low x_high = y at q
    unfold F_Norms___init__ at hF
    refine st_seq (st_fld (x := x_low) (τ := yInt) P hself zself List.not_mem_nil (.inl List.mem_cons_self) rfl (ev_var (τ := yInt) rfl h_low) T.cl_Norms T.n_Norms_low (Nat.lt_of_le_of_lt (Nat.le_refl 0) (by decide)) (fun v_100 Z1 H1 e P1 k_101 hself1 zself1 => ?_))
    refine st_nx ?_
    replace P := P1
    replace hself := hself1
    replace zself := zself1
    refine st_fld (x := x_high) (τ := yInt) P hself zself List.not_mem_nil (.inl List.mem_cons_self) rfl (ev_var (τ := yInt) rfl h_high) T.cl_Norms T.n_Norms_high (Nat.lt_of_le_of_lt (putF_le (Nat.le_refl 0)) (by decide)) (fun v_102 Z1 H1 e P1 k_103 hself1 zself1 => ?_)
    replace P := P1
    replace hself := hself1
    replace zself := zself1
    subst hF
    exact q _ _ _ P.st hself ⟨p, dx, v_100, v_102, rfl, upd_same, k_101, k_103⟩
theorem is_Norms___init__ (T : Txt K mg) {μ : Type} {M : Mu μ} {s : μ} {E : XK} {x_low : Int} {x_high : Int} : InitS M T.c_Norms (sp_Norms___init__ T) E (rac (ty yInt x_low) (rac (ty yInt x_high) ra0)) s (ty (y_Norms T) (F_Norms___init__ x_low x_high)) s := by
  rintro Z H vs x dx sz m ⟨v_low, _, rfl, h_low, ⟨v_high, _, rfl, h_high, rfl⟩⟩ hx zx nx Q q
  exact ⟨x, dx, Z, v_low, v_high, x_low, x_high, rfl, sz, hx, zx, h_low, h_high, fun Z2 H2 o st ho hr => q Z2 H2 o (st.weak fun a h => by rw [List.mem_singleton] at h; rw [h]; exact .inl List.mem_cons_self) (Mu.away st nx m) ho hr⟩
def sp_Differ___init__ (T : Txt K mg) : Sp := fun vs H Q _ => ∃ (p dx : Addr) (Z0 : Hp) (v_centre : V) (v_most : V) (x_centre : (List Int)) (x_most : Int), vs = [.ref p, v_centre, v_most] ∧ (Same Z0 H) ∧ (H p = some (.ins T.c_Differ dx [])) ∧ (Z0 p = none) ∧ (((yList yInt)).r Z0 v_centre x_centre) ∧ ((yInt).r Z0 v_most x_most) ∧ ∀ Z' H' o, Step [p] Z0 H Z' H' → H' p = some o → (y_Differ T).r (upd Z' p o) (.ref p) (F_Differ___init__ x_centre x_most) → Q .non H'
set_option maxHeartbeats 4000000 in
theorem ok_Differ___init__ (T : Txt K mg) : FnOk P w K mg base CX0 1 T.f_Differ___init__ T.d_Differ___init__ ["self", "centre", "most"] (sp_Differ___init__ T) := by
  refine T.F_Differ___init__.ok sc_Differ___init__ (fun vs H Q E h => ?_) (fun cdv A outer s H vs Q E hr h => ?_)
  · obtain ⟨p, dx, Z0, v_centre, v_most, x_centre, x_most, rfl, _⟩ := h
    rfl
  · obtain ⟨p, dx, Z0, v_centre, v_most, x_centre, x_most, rfl, sz, hself, zself, h_centre, h_most, q⟩ := h
    refine ⟨_, (pss_cons (ps_fld (pv 0) (pe_callTy call_tuple_of (by rfl) T.m_tuple (by decide +kernel) (pa_cons (pv 1) pa_nil)) rfl) 
      (pss_one (ps_fld (pv 0) (pv 2) rfl))), ?_⟩
    have P : Pt [p] Z0 H muN Z0 H () := ⟨Step.refl sz, trivial, fun _ h => (nomatch h)⟩
    generalize hF : F_Differ___init__ x_centre x_most = y at q
    unfold F_Differ___init__ at hF
    refine st_seq (st_fld (x := x_centre) (τ := (yTup K yInt)) P hself zself List.not_mem_nil (.inl List.mem_cons_self) rfl (ev_tuple_of (fun _ _ _ h => h) (ev_li (ev_var (τ := (yList yInt)) rfl h_centre))) T.cl_Differ T.n_Differ_centre (Nat.lt_of_le_of_lt (Nat.le_refl 0) (by decide)) (fun v_104 Z1 H1 e P1 k_105 hself1 zself1 => ?_))
    refine st_nx ?_
    replace P := P1
    replace hself := hself1
    replace zself := zself1
    refine st_fld (x := x_most) (τ := yInt) P hself zself List.not_mem_nil (.inl List.mem_cons_self) rfl (ev_var (τ := yInt) rfl h_most) T.cl_Differ T.n_Differ_most (Nat.lt_of_le_of_lt (putF_le (Nat.le_refl 0)) (by decide)) (fun v_106 Z1 H1 e P1 k_107 hself1 zself1 => ?_)
    replace P := P1
    replace hself := hself1
    replace zself := zself1
    replace k_105 := ((yTup K yInt)).mono e.z k_105
    subst hF
    exact q _ _ _ P.st hself ⟨p, dx, v_104, v_106, rfl, upd_same, ((yTup K yInt)).mono (same_upd zself) k_105, k_107⟩
theorem is_Differ___init__ (T : Txt K mg) {μ : Type} {M : Mu μ} {s : μ} {E : XK} {x_centre : (List Int)} {x_most : Int} : InitS M T.c_Differ (sp_Differ___init__ T) E (rac (ty (yList yInt) x_centre) (rac (ty yInt x_most) ra0)) s (ty (y_Differ T) (F_Differ___init__ x_centre x_most)) s := by
  rintro Z H vs x dx sz m ⟨v_centre, _, rfl, h_centre, ⟨v_most, _, rfl, h_most, rfl⟩⟩ hx zx nx Q q
  exact ⟨x, dx, Z, v_centre, v_most, x_centre, x_most, rfl, sz, hx, zx, h_centre, h_most, fun Z2 H2 o st ho hr => q Z2 H2 o (st.weak fun a h => by rw [List.mem_singleton] at h; rw [h]; exact .inl List.mem_cons_self) (Mu.away st nx m) ho hr⟩
def sp_Range___init__ (T : Txt K mg) : Sp := fun vs H Q _ => ∃ (p dx : Addr) (Z0 : Hp) (v_field : V) (v_low : V) (v_high : V) (v_lack : V) (x_field : Str) (x_low : Int) (x_high : Int) (x_lack : Str), vs = [.ref p, v_field, v_low, v_high, v_lack] ∧ (Same Z0 H) ∧ (H p = some (.ins T.c_Range dx [])) ∧ (Z0 p = none) ∧ ((yStr).r Z0 v_field x_field) ∧ ((yInt).r Z0 v_low x_low) ∧ ((yInt).r Z0 v_high x_high) ∧ ((yStr).r Z0 v_lack x_lack) ∧ ∀ Z' H' o, Step [p] Z0 H Z' H' → H' p = some o → (y_Range T).r (upd Z' p o) (.ref p) (F_Range___init__ x_field x_low x_high x_lack) → Q .non H'
set_option maxHeartbeats 4000000 in
theorem ok_Range___init__ (T : Txt K mg) : FnOk P w K mg base CX0 1 T.f_Range___init__ T.d_Range___init__ ["self", "field", "low", "high", "lack"] (sp_Range___init__ T) := by
  refine T.F_Range___init__.ok sc_Range___init__ (fun vs H Q E h => ?_) (fun cdv A outer s H vs Q E hr h => ?_)
  · obtain ⟨p, dx, Z0, v_field, v_low, v_high, v_lack, x_field, x_low, x_high, x_lack, rfl, _⟩ := h
    rfl
  · obtain ⟨p, dx, Z0, v_field, v_low, v_high, v_lack, x_field, x_low, x_high, x_lack, rfl, sz, hself, zself, h_field, h_low, h_high, h_lack, q⟩ := h
    refine ⟨_, PSs.nox (pss_cons (ps_fld (pv 0) (pv 1) rfl) 
      (pss_cons (ps_fld (pv 0) (pv 2) rfl) 
      (pss_cons (ps_fld (pv 0) (pv 3) rfl) 
      (pss_one (ps_fld (pv 0) (pv 4) rfl))))), ?_⟩
    have P : Pt [p] Z0 H muN Z0 H () := ⟨Step.refl sz, trivial, fun _ h => (nomatch h)⟩
    generalize hF : F_Range___init__ x_field x_low x_high x_lack = y at q
    unfold F_Range___init__ at hF
    refine st_seq (st_fld (x := x_field) (τ := yStr) P hself zself List.not_mem_nil (.inl List.mem_cons_self) rfl (ev_var (τ := yStr) rfl h_field) T.cl_Range T.n_Range_field (Nat.lt_of_le_of_lt (Nat.le_refl 0) (by decide)) (fun v_108 Z1 H1 e P1 k_109 hself1 zself1 => ?_))
    refine st_nx ?_
    replace P := P1
    replace hself := hself1
    replace zself := zself1
    refine st_seq (st_fld (x := x_low) (τ := yInt) P hself zself List.not_mem_nil (.inl List.mem_cons_self) rfl (ev_var (τ := yInt) rfl h_low) T.cl_Range T.n_Range_low (Nat.lt_of_le_of_lt (putF_le (Nat.le_refl 0)) (by decide)) (fun v_110 Z1 H1 e P1 k_111 hself1 zself1 => ?_))
    refine st_nx ?_
    replace P := P1
    replace hself := hself1
    replace zself := zself1
    refine st_seq (st_fld (x := x_high) (τ := yInt) P hself zself List.not_mem_nil (.inl List.mem_cons_self) rfl (ev_var (τ := yInt) rfl h_high) T.cl_Range T.n_Range_high (Nat.lt_of_le_of_lt (putF_le (putF_le (Nat.le_refl 0))) (by decide)) (fun v_112 Z1 H1 e P1 k_113 hself1 zself1 => ?_))
    refine st_nx ?_
    replace P := P1
    replace hself := hself1
    replace zself := zself1
    refine st_fld (x := x_lack) (τ := yStr) P hself zself List.not_mem_nil (.inl List.mem_cons_self) rfl (ev_var (τ := yStr) rfl h_lack) T.cl_Range T.n_Range_lack (Nat.lt_of_le_of_lt (putF_le (putF_le (putF_le (Nat.le_refl 0)))) (by decide)) (fun v_114 Z1 H1 e P1 k_115 hself1 zself1 => ?_)
    replace P := P1
    replace hself := hself1
    replace zself := zself1
    subst hF
    exact q _ _ _ P.st hself ⟨p, dx, v_108, v_110, v_112, v_114, rfl, upd_same, k_109, k_111, k_113, k_115⟩
theorem is_Range___init__ (T : Txt K mg) {μ : Type} {M : Mu μ} {s : μ} {E : XK} {x_field : Str} {x_low : Int} {x_high : Int} {x_lack : Str} : InitS M T.c_Range (sp_Range___init__ T) E (rac (ty yStr x_field) (rac (ty yInt x_low) (rac (ty yInt x_high) (rac (ty yStr x_lack) ra0)))) s (ty (y_Range T) (F_Range___init__ x_field x_low x_high x_lack)) s := by
  rintro Z H vs x dx sz m ⟨v_field, _, rfl, h_field, ⟨v_low, _, rfl, h_low, ⟨v_high, _, rfl, h_high, ⟨v_lack, _, rfl, h_lack, rfl⟩⟩⟩⟩ hx zx nx Q q
  exact ⟨x, dx, Z, v_field, v_low, v_high, v_lack, x_field, x_low, x_high, x_lack, rfl, sz, hx, zx, h_field, h_low, h_high, h_lack, fun Z2 H2 o st ho hr => q Z2 H2 o (st.weak fun a h => by rw [List.mem_singleton] at h; rw [h]; exact .inl List.mem_cons_self) (Mu.away st nx m) ho hr⟩
def sp_Values___init__ (T : Txt K mg) : Sp := fun vs H Q _ => ∃ (p dx : Addr) (Z0 : Hp) (v_field : V) (v_choices : V) (v_lack : V) (x_field : Str) (x_choices : (List Val)) (x_lack : Str), vs = [.ref p, v_field, v_choices, v_lack] ∧ (Same Z0 H) ∧ (H p = some (.ins T.c_Values dx [])) ∧ (Z0 p = none) ∧ ((yStr).r Z0 v_field x_field) ∧ (((yList (y_Val T))).r Z0 v_choices x_choices) ∧ ((yStr).r Z0 v_lack x_lack) ∧ ∀ Z' H' o, Step [p] Z0 H Z' H' → H' p = some o → (y_Values T).r (upd Z' p o) (.ref p) (F_Values___init__ x_field x_choices x_lack) → Q .non H'
set_option maxHeartbeats 4000000 in
theorem ok_Values___init__ (T : Txt K mg) : FnOk P w K mg base CX0 1 T.f_Values___init__ T.d_Values___init__ ["self", "field", "choices", "lack"] (sp_Values___init__ T) := by
  refine T.F_Values___init__.ok sc_Values___init__ (fun vs H Q E h => ?_) (fun cdv A outer s H vs Q E hr h => ?_)
  · obtain ⟨p, dx, Z0, v_field, v_choices, v_lack, x_field, x_choices, x_lack, rfl, _⟩ := h
    rfl
  · obtain ⟨p, dx, Z0, v_field, v_choices, v_lack, x_field, x_choices, x_lack, rfl, sz, hself, zself, h_field, h_choices, h_lack, q⟩ := h
    refine ⟨_, PSs.nox (pss_cons (ps_fld (pv 0) (pv 1) rfl) 
      (pss_cons (ps_fld (pv 0) (pe_callTy call_tuple_of (by rfl) T.m_tuple (by decide +kernel) (pa_cons (pv 2) pa_nil)) rfl) 
      (pss_one (ps_fld (pv 0) (pv 3) rfl)))), ?_⟩
    have P : Pt [p] Z0 H muN Z0 H () := ⟨Step.refl sz, trivial, fun _ h => (nomatch h)⟩
    generalize hF : F_Values___init__ x_field x_choices x_lack = y at q
    unfold F_Values___init__ at hF
    refine st_seq (st_fld (x := x_field) (τ := yStr) P hself zself List.not_mem_nil (.inl List.mem_cons_self) rfl (ev_var (τ := yStr) rfl h_field) T.cl_Values T.n_Values_field (Nat.lt_of_le_of_lt (Nat.le_refl 0) (by decide)) (fun v_116 Z1 H1 e P1 k_117 hself1 zself1 => ?_))
    refine st_nx ?_
    replace P := P1
    replace hself := hself1
    replace zself := zself1
    replace h_choices := ((yList (y_Val T))).mono e.z h_choices
    refine st_seq (st_fld (x := x_choices) (τ := (yTup K (y_Val T))) P hself zself List.not_mem_nil (.inl List.mem_cons_self) rfl (ev_tuple_of (fun _ _ _ h => h) (ev_li (ev_var (τ := (yList (y_Val T))) rfl h_choices))) T.cl_Values T.n_Values_choices (Nat.lt_of_le_of_lt (putF_le (Nat.le_refl 0)) (by decide)) (fun v_118 Z1 H1 e P1 k_119 hself1 zself1 => ?_))
    refine st_nx ?_
    replace P := P1
    replace hself := hself1
    replace zself := zself1
    refine st_fld (x := x_lack) (τ := yStr) P hself zself List.not_mem_nil (.inl List.mem_cons_self) rfl (ev_var (τ := yStr) rfl h_lack) T.cl_Values T.n_Values_lack (Nat.lt_of_le_of_lt (putF_le (putF_le (Nat.le_refl 0))) (by decide)) (fun v_120 Z1 H1 e P1 k_121 hself1 zself1 => ?_)
    replace P := P1
    replace hself := hself1
    replace zself := zself1
    replace k_119 := ((yTup K (y_Val T))).mono e.z k_119
    subst hF
    exact q _ _ _ P.st hself ⟨p, dx, v_116, v_118, v_120, rfl, upd_same, k_117, ((yTup K (y_Val T))).mono (same_upd zself) k_119, k_121⟩
theorem is_Values___init__ (T : Txt K mg) {μ : Type} {M : Mu μ} {s : μ} {E : XK} {x_field : Str} {x_choices : (List Val)} {x_lack : Str} : InitS M T.c_Values (sp_Values___init__ T) E (rac (ty yStr x_field) (rac (ty (yList (y_Val T)) x_choices) (rac (ty yStr x_lack) ra0))) s (ty (y_Values T) (F_Values___init__ x_field x_choices x_lack)) s := by
  rintro Z H vs x dx sz m ⟨v_field, _, rfl, h_field, ⟨v_choices, _, rfl, h_choices, ⟨v_lack, _, rfl, h_lack, rfl⟩⟩⟩ hx zx nx Q q
  exact ⟨x, dx, Z, v_field, v_choices, v_lack, x_field, x_choices, x_lack, rfl, sz, hx, zx, h_field, h_choices, h_lack, fun Z2 H2 o st ho hr => q Z2 H2 o (st.weak fun a h => by rw [List.mem_singleton] at h; rw [h]; exact .inl List.mem_cons_self) (Mu.away st nx m) ho hr⟩
def sp_greatest_counts (T : Txt K mg) : Sp := fun vs H Q _ => ∃ (Z0 : Hp) (v_words : V) (x_words : (List (Str × Int))) (y : (List (Str × Int))), vs = [v_words] ∧ (Same Z0 H) ∧ (((yTup K (yP2 K yStr yInt))).r Z0 v_words x_words) ∧ (F_greatest_counts x_words = some y) ∧ ∀ v Z' H', Step [] Z0 H Z' H' → ((yDict (fun x => Sum.inr x) yInt)).r Z' v y → Q v H'
set_option maxHeartbeats 4000000 in
theorem ok_greatest_counts (T : Txt K mg) : FnOk P w K mg base CX0 1 T.f_greatest_counts T.d_greatest_counts ["words"] (sp_greatest_counts T) := by
  refine T.F_greatest_counts.ok sc_greatest_counts (fun vs H Q E h => ?_) (fun cdv A outer s H vs Q E hr h => ?_)
  · obtain ⟨Z0, v_words, x_words, y, rfl, _⟩ := h
    rfl
  · obtain ⟨Z0, v_words, x_words, y, rfl, sz, h_words, hF, q⟩ := h
    refine ⟨_, (pss_cons (ps_set (i := 1) sc_greatest_counts.nd rfl (.inl rfl) pe_dnewK) 
      (pss_cons (ps_for PassesOwn.never rfl (pi_tup (pv 0)) (pg_tup rfl (pgs_cons (pg_name (i := 2) sc_greatest_counts.nd rfl (.inl rfl)) (pgs_cons (pg_name (i := 3) sc_greatest_counts.nd rfl (.inl rfl)) pgs_nil))) (pss_one (ps_asg (pe_callB (call_max2 rfl) (by rfl) T.m_max (by decide +kernel) (pa_cons (pv 3) (pa_cons (pe_dget2 (Nat.lt_of_le_of_lt (Nat.add_le_add_left (by decide) _) hr.units) (pv 1) (pv 2) pe_int ⟨by rfl, by rfl, by rfl, by rfl⟩) pa_nil))) (pg_sub (pv 1) (pv 2) (set_dict (Nat.lt_of_le_of_lt (Nat.add_le_add_left (by decide) _) hr.units)))))) 
      (pss_one (ps_ret (pv 1))))), ?_⟩
    have P := Pt.start0 sz
    unfold F_greatest_counts at hF
    refine st_seq (st_setD (e := (fun x => Sum.inr x)) (τ := yInt) P (fun p_125 Z1 H1 e P1 fr_127 o_126 => ?_))
    refine st_nx ?_
    replace P := P1
    replace h_words := ((yTup K (yP2 K yStr yInt))).mono e.z h_words
    obtain ⟨f_154, hL_155, hF⟩ := bind_inv hF
    refine st_seq (st_for (τ := (yP2 K yStr yInt)) (fun (r_130 : List (Str × Int)) σ' Z' H' => ∃ w_128, ∃ (y_135 : Option V) (y_137 : Option V) (y_138 : Option V), σ' = [y_135, some (.ref p_125), y_137, y_138] ∧ Pt [] Z0 H muN Z' H' () ∧ OwnD [] H muN.fp Z' H' (fun x => Sum.inr x) yInt p_125 w_128 ∧ forF L_greatest_counts_1 r_130 w_128 = some f_154) P (ei_tup (ev_var (τ := (yTup K (yP2 K yStr yInt))) rfl h_words)) ?_ ?_ ?_)
    · rintro Z1 H1 e P1
      replace P := P1
      replace h_words := ((yTup K (yP2 K yStr yInt))).mono e.z h_words
      replace o_126 := o_126.next e
      exact ⟨([] : List (Str × Int)), _, _, _, rfl, P, o_126, hL_155⟩
    · rintro Zb_134 Hb eb x_129 r_130 σ' v_144 Z1 H1 Z2 H2 zs_133 ⟨w_128, y_135, y_137, y_138, rfl, P, o_136, hq_132⟩ e hx_145
      replace P := P.item e
      replace o_136 := o_136.step e List.not_mem_nil
      replace zs_133 := zs_133.trans e.z
      obtain ⟨u_146, hB_131, hq_132⟩ := bind_inv (forF_cons hq_132)
      unfold L_greatest_counts_1 at hB_131
      obtain ⟨v_147, v_148, k_149, k_150, tg_151⟩ := tgt_p2 hx_145
      refine (tg_151 tgt_name tgt_name) _ P.sub _ ?_
      obtain ⟨g_152, hB_131⟩ := guard_inv hB_131
      refine st_dput kt_str P o_136 rfl (ev_max2 (ev_var (τ := yInt) rfl k_150) (ev_dget kt_str o_136 rfl (ev_var (τ := yStr) rfl k_149) ev_int)) (fun Z1 H1 e => by
            exact (ev_var (τ := yStr) rfl k_149)) g_152 (fun Z1 H1 e P1 o_153 => ?_)
      replace P := P1
      replace zs_133 := zs_133.trans e.z
      replace hB_131 := Option.some.inj hB_131
      subst hB_131
      exact ⟨_, zs_133, P.sub, (putA w_128 x_129.1 (max x_129.2 ((getA w_128 x_129.1).getD (0 : Int)))), _, _, _, rfl, P, o_153, hq_132⟩
    rintro σ' Z1 H1 _ _ ⟨w_139, y_135, y_137, y_138, rfl, P, o_141, hl⟩
    have hz := (forF_nil hl).symm
    subst hz
    refine st_nx ?_
    obtain ⟨Z, P, zf, hf, of⟩ := o_141.fz P
    have k_156 := hf
    clear hf zf of
    replace hF := Option.some.inj hF
    subst hF
    refine st_ret P (ev_var (τ := (yDict (fun x => Sum.inr x) yInt)) rfl k_156) (fun v Z1 H1 P1 hv => ?_)
    exact q v _ _ P1.st hv
theorem cs_greatest_counts (T : Txt K mg) {μ : Type} {M : Mu μ} {s : μ} {E : XK} {x_words : (List (Str × Int))} {y : (List (Str × Int))} (h : F_greatest_counts x_words = some y) : CallS M (sp_greatest_counts T) E (rac (ty (yTup K (yP2 K yStr yInt)) x_words) ra0) s (ty (yDict (fun x => Sum.inr x) yInt) y) s := by
  rintro Z H vs sz m ⟨v_words, _, rfl, h_words, rfl⟩ Q q
  exact ⟨Z, v_words, x_words, y, rfl, sz, h_words, h, fun v Z2 H2 st hv => q v Z2 H2 st.pure (M.pure st m) hv⟩
def sp_Counts___init__ (T : Txt K mg) : Sp := fun vs H Q _ => ∃ (p dx : Addr) (Z0 : Hp) (v_words : V) (x_words : (List (Str × Int))) (y : Counts), vs = [.ref p, v_words] ∧ (Same Z0 H) ∧ (H p = some (.ins T.c_Counts dx [])) ∧ (Z0 p = none) ∧ (((yList (yP2 K yStr yInt))).r Z0 v_words x_words) ∧ (F_Counts___init__ x_words = some y) ∧ ∀ Z' H' o, Step [p] Z0 H Z' H' → H' p = some o → (y_Counts T).r (upd Z' p o) (.ref p) y → Q .non H'
set_option maxHeartbeats 4000000 in
theorem ok_Counts___init__ (T : Txt K mg) : FnOk P w K mg base CX0 2 T.f_Counts___init__ T.d_Counts___init__ ["self", "words"] (sp_Counts___init__ T) := by
  have G_greatest_counts : FnOk P w K mg base CX0 1 T.f_greatest_counts T.d_greatest_counts ["words"] (sp_greatest_counts T) := ok_greatest_counts T
  refine T.F_Counts___init__.ok sc_Counts___init__ (fun vs H Q E h => ?_) (fun cdv A outer s H vs Q E hr h => ?_)
  · obtain ⟨p, dx, Z0, v_words, x_words, y, rfl, _⟩ := h
    rfl
  · obtain ⟨p, dx, Z0, v_words, x_words, y, rfl, sz, hself, zself, h_words, hF, q⟩ := h
    refine ⟨_, (pss_cons (ps_fld (pv 0) (pe_callTy call_tuple_of (by rfl) T.m_tuple (by decide +kernel) (pa_cons (pe_lc (own := [("pair", 2)]) (g := gName 2) rfl sc_Counts___init__.nd (pi_list (pv 1)) (blkOk_by (own := [("pair", 2)]) (N := ["self", "words", "pair"]) (sc := defScope s_Counts___init__) (by decide +kernel)) (fun _ _ _ _ _ => (pg_name (i := 2) sc_Counts___init__.nd rfl (Or.inl rfl))) (fun _ _ _ _ _ => pts_nil) (fun _ _ _ _ _ => (pe_callTy (r := rTupleB K) (by exact call_tuple_of) (by rfl) T.m_tuple (by decide +kernel) (pa_cons (pv 2) pa_nil)))) pa_nil)) rfl) 
      (pss_one (ps_fld (pv 0) (pe_call G_greatest_counts (hr.mono (by decide)) (by rfl) T.g_greatest_counts T.F_greatest_counts.kp T.b_greatest_counts .nil pass0 (pa_cons (pe_fld (pv 0) rfl) pa_nil)) rfl))), ?_⟩
    have P : Pt [p] Z0 H muN Z0 H () := ⟨Step.refl sz, trivial, fun _ h => (nomatch h)⟩
    unfold F_Counts___init__ at hF
    refine st_seq (st_fld (x := x_words) (τ := (yTup K (yP2 K yStr yInt))) P hself zself List.not_mem_nil (.inl List.mem_cons_self) rfl (ev_tuple_of (fun _ _ _ h => h) (ev_li (ev_fz (en_cast (en_map (fun x => x) (ei_list (ev_var (τ := (yList (yP2 K yStr yInt))) rfl h_words)) (fun x_172 v_173 Z' H' zz hh rx_174 => by
          exact ⟨_, tgt_name, (wpe_s wpe_z (by decide)), (ev_tuple_id (fun _ _ _ h => h) it_p2 (ev_var (τ := (yP2 K yStr yInt)) rfl rx_174))⟩)) (List.map_id' _))))) T.cl_Counts T.n_Counts_words (Nat.lt_of_le_of_lt (Nat.le_refl 0) (by decide)) (fun v_175 Z1 H1 e P1 k_176 hself1 zself1 => ?_))
    refine st_nx ?_
    replace P := P1
    replace hself := hself1
    replace zself := zself1
    obtain ⟨r_177, h_178, hF⟩ := bind_inv hF
    refine st_fld (x := r_177) (τ := (yDict (fun x => Sum.inr x) yInt)) P hself zself List.not_mem_nil (.inl List.mem_cons_self) rfl (ev_call (cs_greatest_counts T h_178) (eva_cons (ev_selfF hself List.not_mem_nil rfl T.cl_Counts T.n_Counts_words (by rw [lookup_putF, if_pos rfl]) k_176) eva_nil)) T.cl_Counts T.n_Counts_bounds (Nat.lt_of_le_of_lt (putF_le (Nat.le_refl 0)) (by decide)) (fun v_179 Z1 H1 e P1 k_180 hself1 zself1 => ?_)
    replace P := P1
    replace hself := hself1
    replace zself := zself1
    replace k_176 := ((yTup K (yP2 K yStr yInt))).mono e.z k_176
    replace hF := Option.some.inj hF
    subst hF
    exact q _ _ _ P.st hself ⟨p, dx, v_175, v_179, rfl, upd_same, ((yTup K (yP2 K yStr yInt))).mono (same_upd zself) k_176, ((yDict (fun x => Sum.inr x) yInt)).mono (same_upd zself) k_180⟩
theorem is_Counts___init__ (T : Txt K mg) {μ : Type} {M : Mu μ} {s : μ} {E : XK} {x_words : (List (Str × Int))} {y : Counts} (h : F_Counts___init__ x_words = some y) : InitS M T.c_Counts (sp_Counts___init__ T) E (rac (ty (yList (yP2 K yStr yInt)) x_words) ra0) s (ty (y_Counts T) y) s := by
  rintro Z H vs x dx sz m ⟨v_words, _, rfl, h_words, rfl⟩ hx zx nx Q q
  exact ⟨x, dx, Z, v_words, x_words, y, rfl, sz, hx, zx, h_words, h, fun Z2 H2 o st ho hr => q Z2 H2 o (st.weak fun a h => by rw [List.mem_singleton] at h; rw [h]; exact .inl List.mem_cons_self) (Mu.away st nx m) ho hr⟩
def sp_Names___init__ (T : Txt K mg) : Sp := fun vs H Q _ => ∃ (p dx : Addr) (Z0 : Hp) (v_low : V) (v_high : V) (x_low : Str) (x_high : Str), vs = [.ref p, v_low, v_high] ∧ (Same Z0 H) ∧ (H p = some (.ins T.c_Names dx [])) ∧ (Z0 p = none) ∧ ((yStr).r Z0 v_low x_low) ∧ ((yStr).r Z0 v_high x_high) ∧ ∀ Z' H' o, Step [p] Z0 H Z' H' → H' p = some o → (y_Names T).r (upd Z' p o) (.ref p) (F_Names___init__ x_low x_high) → Q .non H'
set_option maxHeartbeats 4000000 in
theorem ok_Names___init__ (T : Txt K mg) : FnOk P w K mg base CX0 1 T.f_Names___init__ T.d_Names___init__ ["self", "low", "high"] (sp_Names___init__ T) := by
  refine T.F_Names___init__.ok sc_Names___init__ (fun vs H Q E h => ?_) (fun cdv A outer s H vs Q E hr h => ?_)
  · obtain ⟨p, dx, Z0, v_low, v_high, x_low, x_high, rfl, _⟩ := h
    rfl
  · obtain ⟨p, dx, Z0, v_low, v_high, x_low, x_high, rfl, sz, hself, zself, h_low, h_high, q⟩ := h
    refine ⟨_, (pss_cons (ps_fld (pv 0) (pv 1) rfl) 
      (pss_one (ps_fld (pv 0) (pv 2) rfl))), ?_⟩
    have P : Pt [p] Z0 H muN Z0 H () := ⟨Step.refl sz, trivial, fun _ h => (nomatch h)⟩
    generalize hF : F_Names___init__ x_low x_high = y at q
    unfold F_Names___init__ at hF
    refine st_seq (st_fld (x := x_low) (τ := yStr) P hself zself List.not_mem_nil (.inl List.mem_cons_self) rfl (ev_var (τ := yStr) rfl h_low) T.cl_Names T.n_Names_low (Nat.lt_of_le_of_lt (Nat.le_refl 0) (by decide)) (fun v_181 Z1 H1 e P1 k_182 hself1 zself1 => ?_))
    refine st_nx ?_
    replace P := P1
    replace hself := hself1
    replace zself := zself1
    refine st_fld (x := x_high) (τ := yStr) P hself zself List.not_mem_nil (.inl List.mem_cons_self) rfl (ev_var (τ := yStr) rfl h_high) T.cl_Names T.n_Names_high (Nat.lt_of_le_of_lt (putF_le (Nat.le_refl 0)) (by decide)) (fun v_183 Z1 H1 e P1 k_184 hself1 zself1 => ?_)
    replace P := P1
    replace hself := hself1
    replace zself := zself1
    subst hF
    exact q _ _ _ P.st hself ⟨p, dx, v_181, v_183, rfl, upd_same, k_182, k_184⟩
theorem is_Names___init__ (T : Txt K mg) {μ : Type} {M : Mu μ} {s : μ} {E : XK} {x_low : Str} {x_high : Str} : InitS M T.c_Names (sp_Names___init__ T) E (rac (ty yStr x_low) (rac (ty yStr x_high) ra0)) s (ty (y_Names T) (F_Names___init__ x_low x_high)) s := by
  rintro Z H vs x dx sz m ⟨v_low, _, rfl, h_low, ⟨v_high, _, rfl, h_high, rfl⟩⟩ hx zx nx Q q
  exact ⟨x, dx, Z, v_low, v_high, x_low, x_high, rfl, sz, hx, zx, h_low, h_high, fun Z2 H2 o st ho hr => q Z2 H2 o (st.weak fun a h => by rw [List.mem_singleton] at h; rw [h]; exact .inl List.mem_cons_self) (Mu.away st nx m) ho hr⟩
def sp_law_fact (T : Txt K mg) : Sp := fun vs H Q _ => ∃ (st sc : Addr) (Z0 : Hp) (ds : DS) (y : (Fact × DS)), vs = [.ref st] ∧ (Same Z0 H) ∧ ((muD st sc).m ds Z0 H) ∧ (F_law_fact ds = some y) ∧ ∀ v Z' H', Step (muD st sc).fp Z0 H Z' H' → (muD st sc).m y.2 Z' H' → ((y_Fact T)).r Z' v y.1 → Q v H'
set_option maxHeartbeats 4000000 in
theorem ok_law_fact (T : Txt K mg) : FnOk P w K mg base CX0 5 T.f_law_fact T.d_law_fact ["state"] (sp_law_fact T) := by
  have G_law_string : FnOk P w K mg base CX0 3 T.f_law_string T.d_law_string ["state"] (sp_law_string T) := ok_law_string T
  have G_Names___init__ : FnOk P w K mg base CX0 1 T.f_Names___init__ T.d_Names___init__ ["self", "low", "high"] (sp_Names___init__ T) := ok_Names___init__ T
  have G_law_next : FnOk P w K mg base CX0 2 T.f_law_next T.d_law_next ["state", "many"] (sp_law_next T) := ok_law_next T
  have G_Counts___init__ : FnOk P w K mg base CX0 2 T.f_Counts___init__ T.d_Counts___init__ ["self", "words"] (sp_Counts___init__ T) := ok_Counts___init__ T
  have G_law_worth : FnOk P w K mg base CX0 4 T.f_law_worth T.d_law_worth ["state"] (sp_law_worth T) := ok_law_worth T
  have G_Values___init__ : FnOk P w K mg base CX0 1 T.f_Values___init__ T.d_Values___init__ ["self", "field", "choices", "lack"] (sp_Values___init__ T) := ok_Values___init__ T
  have G_Range___init__ : FnOk P w K mg base CX0 1 T.f_Range___init__ T.d_Range___init__ ["self", "field", "low", "high", "lack"] (sp_Range___init__ T) := ok_Range___init__ T
  have G_law_numbers : FnOk P w K mg base CX0 3 T.f_law_numbers T.d_law_numbers ["state"] (sp_law_numbers T) := ok_law_numbers T
  have G_Differ___init__ : FnOk P w K mg base CX0 1 T.f_Differ___init__ T.d_Differ___init__ ["self", "centre", "most"] (sp_Differ___init__ T) := ok_Differ___init__ T
  have G_Norms___init__ : FnOk P w K mg base CX0 1 T.f_Norms___init__ T.d_Norms___init__ ["self", "low", "high"] (sp_Norms___init__ T) := ok_Norms___init__ T
  have G_Box___init__ : FnOk P w K mg base CX0 1 T.f_Box___init__ T.d_Box___init__ ["self", "low", "high"] (sp_Box___init__ T) := ok_Box___init__ T
  have G_Cell___init__ : FnOk P w K mg base CX0 1 T.f_Cell___init__ T.d_Cell___init__ ["self", "near", "rival"] (sp_Cell___init__ T) := ok_Cell___init__ T
  have G_Part___init__ : FnOk P w K mg base CX0 1 T.f_Part___init__ T.d_Part___init__ ["self", "start", "centre", "radius"] (sp_Part___init__ T) := ok_Part___init__ T
  have G_Parts___init__ : FnOk P w K mg base CX0 1 T.f_Parts___init__ T.d_Parts___init__ ["self", "parts"] (sp_Parts___init__ T) := ok_Parts___init__ T
  refine T.F_law_fact.ok sc_law_fact (fun vs H Q E h => ?_) (fun cdv A outer s H vs Q E hr h => ?_)
  · obtain ⟨st, sc, Z0, ds, y, rfl, _⟩ := h
    rfl
  · obtain ⟨st, sc, Z0, ds, y, rfl, sz, hm, hF, q⟩ := h
    refine ⟨_, (pss_cons (ps_set (i := 1) sc_law_fact.nd rfl (.inl rfl) (pe_call G_law_next (hr.mono (by decide)) (by rfl) T.g_law_next T.F_law_next.kp T.b_law_next .nil pass0 (pa_cons (pv 0) (pa_cons pe_int pa_nil)))) 
      (pss_cons (ps_if (pt_cmpR op_eq (pv 1) pe_int (nomark _)) (pss_one (ps_ret (pe_make T.mk_Parts G_Parts___init__ (hr.mono (by decide)) (by rfl) T.mc_Parts T.b_Parts___init__ .nil pass0 (pa_cons (pe_lc (own := [("k", 2)]) (g := gName 2) rfl sc_law_fact.nd (pi_range1 rfl T.m_range (pa_cons (pe_call G_law_next (hr.mono (by decide)) (by rfl) T.g_law_next T.F_law_next.kp T.b_law_next .nil pass0 (pa_cons (pv 0) (pa_cons pe_int pa_nil))) pa_nil)) (blkOk_by (own := [("k", 2)]) (N := ["state", "kind", "k", "lack"]) (sc := defScope s_law_fact) (by decide +kernel)) (fun _ _ _ _ _ => (pg_name (i := 2) sc_law_fact.nd rfl (Or.inl rfl))) (fun _ _ _ _ _ => pts_nil) (fun _ _ _ _ _ => (pe_make T.mk_Part G_Part___init__ (hr.mono (by decide)) (by rfl) T.mc_Part T.b_Part___init__ .nil pass0 (pa_cons (pe_call G_law_next (hr.mono (by decide)) (by rfl) T.g_law_next T.F_law_next.kp T.b_law_next .nil pass0 (pa_cons (pv 0) (pa_cons pe_int pa_nil))) (pa_cons (pe_call G_law_numbers (hr.mono (by decide)) (by rfl) T.g_law_numbers T.F_law_numbers.kp T.b_law_numbers .nil pass0 (pa_cons (pv 0) pa_nil)) (pa_cons (pe_call G_law_next (hr.mono (by decide)) (by rfl) T.g_law_next T.F_law_next.kp T.b_law_next .nil pass0 (pa_cons (pv 0) (pa_cons pe_int pa_nil))) pa_nil)))))) pa_nil)))) pss_nil) 
      (pss_cons (ps_if (pt_cmpR op_eq (pv 1) pe_int (nomark _)) (pss_one (ps_ret (pe_make T.mk_Cell G_Cell___init__ (hr.mono (by decide)) (by rfl) T.mc_Cell T.b_Cell___init__ .nil pass0 (pa_cons (pe_call G_law_numbers (hr.mono (by decide)) (by rfl) T.g_law_numbers T.F_law_numbers.kp T.b_law_numbers .nil pass0 (pa_cons (pv 0) pa_nil)) (pa_cons (pe_call G_law_numbers (hr.mono (by decide)) (by rfl) T.g_law_numbers T.F_law_numbers.kp T.b_law_numbers .nil pass0 (pa_cons (pv 0) pa_nil)) pa_nil))))) pss_nil) 
      (pss_cons (ps_if (pt_cmpR op_eq (pv 1) pe_int (nomark _)) (pss_one (ps_ret (pe_make T.mk_Box G_Box___init__ (hr.mono (by decide)) (by rfl) T.mc_Box T.b_Box___init__ .nil pass0 (pa_cons (pe_call G_law_numbers (hr.mono (by decide)) (by rfl) T.g_law_numbers T.F_law_numbers.kp T.b_law_numbers .nil pass0 (pa_cons (pv 0) pa_nil)) (pa_cons (pe_call G_law_numbers (hr.mono (by decide)) (by rfl) T.g_law_numbers T.F_law_numbers.kp T.b_law_numbers .nil pass0 (pa_cons (pv 0) pa_nil)) pa_nil))))) pss_nil) 
      (pss_cons (ps_if (pt_cmpR op_eq (pv 1) pe_int (nomark _)) (pss_one (ps_ret (pe_make T.mk_Norms G_Norms___init__ (hr.mono (by decide)) (by rfl) T.mc_Norms T.b_Norms___init__ .nil pass0 (pa_cons (pe_call G_law_next (hr.mono (by decide)) (by rfl) T.g_law_next T.F_law_next.kp T.b_law_next .nil pass0 (pa_cons (pv 0) (pa_cons pe_int pa_nil))) (pa_cons (pe_op op_mul (pe_call G_law_next (hr.mono (by decide)) (by rfl) T.g_law_next T.F_law_next.kp T.b_law_next .nil pass0 (pa_cons (pv 0) (pa_cons pe_int pa_nil))) (pe_op op_pow pe_int pe_int)) pa_nil))))) pss_nil) 
      (pss_cons (ps_if (pt_cmpR op_eq (pv 1) pe_int (nomark _)) (pss_one (ps_ret (pe_make T.mk_Differ G_Differ___init__ (hr.mono (by decide)) (by rfl) T.mc_Differ T.b_Differ___init__ .nil pass0 (pa_cons (pe_call G_law_numbers (hr.mono (by decide)) (by rfl) T.g_law_numbers T.F_law_numbers.kp T.b_law_numbers .nil pass0 (pa_cons (pv 0) pa_nil)) (pa_cons (pe_call G_law_next (hr.mono (by decide)) (by rfl) T.g_law_next T.F_law_next.kp T.b_law_next .nil pass0 (pa_cons (pv 0) (pa_cons pe_int pa_nil))) pa_nil))))) pss_nil) 
      (pss_cons (ps_set (i := 3) sc_law_fact.nd rfl (.inl rfl) (pe_ix ix_list (pe_lst (pa_cons pe_str (pa_cons pe_str (pa_cons pe_str pa_nil)))) (pe_call G_law_next (hr.mono (by decide)) (by rfl) T.g_law_next T.F_law_next.kp T.b_law_next .nil pass0 (pa_cons (pv 0) (pa_cons pe_int pa_nil))) (fun _ _ => rfl))) 
      (pss_cons (ps_if (pt_cmpR op_eq (pv 1) pe_int (nomark _)) (pss_one (ps_ret (pe_makeK T.mk_Range G_Range___init__ (hr.mono (by decide)) (by rfl) T.mc_Range T.kb_Range___init__ pass0 (pa_cons (pe_call G_law_string (hr.mono (by decide)) (by rfl) T.g_law_string T.F_law_string.kp T.b_law_string .nil pass0 (pa_cons (pv 0) pa_nil)) (pa_cons (pe_un un_neg (pe_call G_law_next (hr.mono (by decide)) (by rfl) T.g_law_next T.F_law_next.kp T.b_law_next .nil pass0 (pa_cons (pv 0) (pa_cons pe_int pa_nil)))) (pa_cons (pe_call G_law_next (hr.mono (by decide)) (by rfl) T.g_law_next T.F_law_next.kp T.b_law_next .nil pass0 (pa_cons (pv 0) (pa_cons pe_int pa_nil))) pa_nil))) (pk_cons (pv 3) pk_nil)))) pss_nil) 
      (pss_cons (ps_if (pt_cmpR op_eq (pv 1) pe_int (nomark _)) (pss_one (ps_ret (pe_makeK T.mk_Values G_Values___init__ (hr.mono (by decide)) (by rfl) T.mc_Values T.kb_Values___init__ pass0 (pa_cons (pe_call G_law_string (hr.mono (by decide)) (by rfl) T.g_law_string T.F_law_string.kp T.b_law_string .nil pass0 (pa_cons (pv 0) pa_nil)) (pa_cons (pe_lc (own := [("k", 2)]) (g := gName 2) rfl sc_law_fact.nd (pi_range1 rfl T.m_range (pa_cons (pe_call G_law_next (hr.mono (by decide)) (by rfl) T.g_law_next T.F_law_next.kp T.b_law_next .nil pass0 (pa_cons (pv 0) (pa_cons pe_int pa_nil))) pa_nil)) (blkOk_by (own := [("k", 2)]) (N := ["state", "kind", "k", "lack"]) (sc := defScope s_law_fact) (by decide +kernel)) (fun _ _ _ _ _ => (pg_name (i := 2) sc_law_fact.nd rfl (Or.inl rfl))) (fun _ _ _ _ _ => pts_nil) (fun _ _ _ _ _ => (pe_call G_law_worth (hr.mono (by decide)) (by rfl) T.g_law_worth T.F_law_worth.kp T.b_law_worth .nil pass0 (pa_cons (pv 0) pa_nil)))) pa_nil)) (pk_cons (pv 3) pk_nil)))) pss_nil) 
      (pss_cons (ps_if (pt_cmpR op_eq (pv 1) pe_int (nomark _)) (pss_one (ps_ret (pe_make T.mk_Counts G_Counts___init__ (hr.mono (by decide)) (by rfl) T.mc_Counts T.b_Counts___init__ .nil pass0 (pa_cons (pe_lc (own := [("k", 2)]) (g := gName 2) rfl sc_law_fact.nd (pi_range1 rfl T.m_range (pa_cons (pe_call G_law_next (hr.mono (by decide)) (by rfl) T.g_law_next T.F_law_next.kp T.b_law_next .nil pass0 (pa_cons (pv 0) (pa_cons pe_int pa_nil))) pa_nil)) (blkOk_by (own := [("k", 2)]) (N := ["state", "kind", "k", "lack"]) (sc := defScope s_law_fact) (by decide +kernel)) (fun _ _ _ _ _ => (pg_name (i := 2) sc_law_fact.nd rfl (Or.inl rfl))) (fun _ _ _ _ _ => pts_nil) (fun _ _ _ _ _ => (pe_tup (pa_cons (pe_call G_law_string (hr.mono (by decide)) (by rfl) T.g_law_string T.F_law_string.kp T.b_law_string .nil pass0 (pa_cons (pv 0) pa_nil)) (pa_cons (pe_call G_law_next (hr.mono (by decide)) (by rfl) T.g_law_next T.F_law_next.kp T.b_law_next .nil pass0 (pa_cons (pv 0) (pa_cons pe_int pa_nil))) pa_nil))))) pa_nil)))) pss_nil) 
      (pss_one (ps_ret (pe_make T.mk_Names G_Names___init__ (hr.mono (by decide)) (by rfl) T.mc_Names T.b_Names___init__ .nil pass0 (pa_cons (pe_call G_law_string (hr.mono (by decide)) (by rfl) T.g_law_string T.F_law_string.kp T.b_law_string .nil pass0 (pa_cons (pv 0) pa_nil)) (pa_cons (pe_call G_law_string (hr.mono (by decide)) (by rfl) T.g_law_string T.F_law_string.kp T.b_law_string .nil pass0 (pa_cons (pv 0) pa_nil)) pa_nil))))))))))))))), ?_⟩
    have P := Pt.start (muD st sc) sz hm
    unfold F_law_fact at hF
    refine st_seq (st_set P (ev_call (cs__law_next T (by decide +kernel)) (eva_cons (ev_ref rfl) (eva_cons ev_int eva_nil))) (fun v_195 Z1 H1 e P1 k_196 => ?_))
    refine st_nx ?_
    replace P := P1
    refine st_seq (st_if P (et_cmp (ev_eq flat_int (ev_var (τ := yInt) rfl k_196) ev_int)) (fun b_197 Z1 H1 e P1 => ?_) (fun b_197 Z1 H1 e P1 => ?_))
    · replace P := P1
      have hB := ifT b_197 hF
      replace hF := hB
      clear hB
      obtain ⟨g_198, hF⟩ := guard_inv hF
      obtain ⟨l_205, h_206, hF⟩ := bind_inv hF
      replace hF := Option.some.inj hF
      subst hF
      refine st_ret P (ij_Fact_parts T (ev_make (is_Parts___init__ T) (eva_cons (ev_fz (en_mapS (υ := (y_Part T)) (fun (x_199 : Int) (s_200 : DS) => ((F_law_numbers (nxS s_200 (4 : Int))).bind fun r_203 =>
      some ((F_Part___init__ (nxV s_200 (4 : Int)) r_203.1 (nxV r_203.2 (90 : Int))), (nxS r_203.2 (90 : Int))) : Option (Part × DS))) (ei_rng1 (ev_call (cs__law_next T (by decide +kernel)) (eva_cons (ev_ref rfl) (eva_cons ev_int eva_nil))) g_198) (fun x_199 v_201 Z' H' s_200 p zz hh rx_202 hp => by
            have hy := hp
            obtain ⟨r_203, h_204, hy⟩ := bind_inv hy
            have hy := Option.some.inj hy
            subst hy
            exact ⟨_, tgt_name, (wpe_s wpe_z (by decide)), (ev_make (is_Part___init__ T) (eva_cons (ev_call (cs__law_next T (by decide +kernel)) (eva_cons (ev_ref rfl) (eva_cons ev_int eva_nil))) (eva_cons (ev_call (cs_law_numbers T h_204) (eva_cons (ev_ref rfl) eva_nil)) (eva_cons (ev_call (cs__law_next T (by decide +kernel)) (eva_cons (ev_ref rfl) (eva_cons ev_int eva_nil))) eva_nil))))⟩) h_206)) eva_nil))) (fun v Z1 H1 P1 hv => ?_)
      exact q v _ _ P1.st P1.m hv
    · replace P := P1
      have hB := ifF b_197 hF
      replace hF := hB
      clear hB
      refine st_next0 ?_
      refine st_seq (st_if P (et_cmp (ev_eq flat_int (ev_var (τ := yInt) rfl k_196) ev_int)) (fun b_207 Z1 H1 e P1 => ?_) (fun b_207 Z1 H1 e P1 => ?_))
      · replace P := P1
        have hB := ifT b_207 hF
        replace hF := hB
        clear hB
        obtain ⟨r_208, h_209, hF⟩ := bind_inv hF
        obtain ⟨r_210, h_211, hF⟩ := bind_inv hF
        replace hF := Option.some.inj hF
        subst hF
        refine st_ret P (ij_Fact_cell T (ev_make (is_Cell___init__ T) (eva_cons (ev_call (cs_law_numbers T h_209) (eva_cons (ev_ref rfl) eva_nil)) (eva_cons (ev_call (cs_law_numbers T h_211) (eva_cons (ev_ref rfl) eva_nil)) eva_nil)))) (fun v Z1 H1 P1 hv => ?_)
        exact q v _ _ P1.st P1.m hv
      · replace P := P1
        have hB := ifF b_207 hF
        replace hF := hB
        clear hB
        refine st_next0 ?_
        refine st_seq (st_if P (et_cmp (ev_eq flat_int (ev_var (τ := yInt) rfl k_196) ev_int)) (fun b_212 Z1 H1 e P1 => ?_) (fun b_212 Z1 H1 e P1 => ?_))
        · replace P := P1
          have hB := ifT b_212 hF
          replace hF := hB
          clear hB
          obtain ⟨r_213, h_214, hF⟩ := bind_inv hF
          obtain ⟨r_215, h_216, hF⟩ := bind_inv hF
          replace hF := Option.some.inj hF
          subst hF
          refine st_ret P (ij_Fact_box T (ev_make (is_Box___init__ T) (eva_cons (ev_call (cs_law_numbers T h_214) (eva_cons (ev_ref rfl) eva_nil)) (eva_cons (ev_call (cs_law_numbers T h_216) (eva_cons (ev_ref rfl) eva_nil)) eva_nil)))) (fun v Z1 H1 P1 hv => ?_)
          exact q v _ _ P1.st P1.m hv
        · replace P := P1
          have hB := ifF b_212 hF
          replace hF := hB
          clear hB
          refine st_next0 ?_
          refine st_seq (st_if P (et_cmp (ev_eq flat_int (ev_var (τ := yInt) rfl k_196) ev_int)) (fun b_217 Z1 H1 e P1 => ?_) (fun b_217 Z1 H1 e P1 => ?_))
          · replace P := P1
            have hB := ifT b_217 hF
            replace hF := hB
            clear hB
            replace hF := Option.some.inj hF
            subst hF
            refine st_ret P (ij_Fact_norms T (ev_make (is_Norms___init__ T) (eva_cons (ev_call (cs__law_next T (by decide +kernel)) (eva_cons (ev_ref rfl) (eva_cons ev_int eva_nil))) (eva_cons (ev_mul (ev_call (cs__law_next T (by decide +kernel)) (eva_cons (ev_ref rfl) (eva_cons ev_int eva_nil))) (ev_pow ev_int ev_int (by decide)) (.inr (by decide))) eva_nil)))) (fun v Z1 H1 P1 hv => ?_)
            exact q v _ _ P1.st P1.m hv
          · replace P := P1
            have hB := ifF b_217 hF
            replace hF := hB
            clear hB
            refine st_next0 ?_
            refine st_seq (st_if P (et_cmp (ev_eq flat_int (ev_var (τ := yInt) rfl k_196) ev_int)) (fun b_218 Z1 H1 e P1 => ?_) (fun b_218 Z1 H1 e P1 => ?_))
            · replace P := P1
              have hB := ifT b_218 hF
              replace hF := hB
              clear hB
              obtain ⟨r_219, h_220, hF⟩ := bind_inv hF
              replace hF := Option.some.inj hF
              subst hF
              refine st_ret P (ij_Fact_differ T (ev_make (is_Differ___init__ T) (eva_cons (ev_call (cs_law_numbers T h_220) (eva_cons (ev_ref rfl) eva_nil)) (eva_cons (ev_call (cs__law_next T (by decide +kernel)) (eva_cons (ev_ref rfl) (eva_cons ev_int eva_nil))) eva_nil)))) (fun v Z1 H1 P1 hv => ?_)
              exact q v _ _ P1.st P1.m hv
            · replace P := P1
              have hB := ifF b_218 hF
              replace hF := hB
              clear hB
              refine st_next0 ?_
              obtain ⟨i_221, h_222, hF⟩ := bind_inv hF
              refine st_seq (st_set P (ev_ixL (ev_li (ev_fz (en_listD (eva_conss ev_str (eva_conss ev_str (eva_conss ev_str (eva_nils (τ := yStr))))) (by show 3 ≤ sizeLine; decide)))) (ev_call (cs__law_next T (by decide +kernel)) (eva_cons (ev_ref rfl) (eva_cons ev_int eva_nil))) h_222) (fun v_223 Z1 H1 e P1 k_224 => ?_))
              refine st_nx ?_
              replace P := P1
              refine st_seq (st_if P (et_cmp (ev_eq flat_int (ev_var (τ := yInt) rfl k_196) ev_int)) (fun b_225 Z1 H1 e P1 => ?_) (fun b_225 Z1 H1 e P1 => ?_))
              · replace P := P1
                have hB := ifT b_225 hF
                replace hF := hB
                clear hB
                obtain ⟨r_226, h_227, hF⟩ := bind_inv hF
                replace hF := Option.some.inj hF
                subst hF
                refine st_ret P (ij_Fact_range T (ev_makeK (is_Range___init__ T) (eva_cons (ev_call (cs_law_string T h_227) (eva_cons (ev_ref rfl) eva_nil)) (eva_cons (ev_neg (ev_call (cs__law_next T (by decide +kernel)) (eva_cons (ev_ref rfl) (eva_cons ev_int eva_nil)))) (eva_cons (ev_call (cs__law_next T (by decide +kernel)) (eva_cons (ev_ref rfl) (eva_cons ev_int eva_nil))) eva_nil))) (eva_cons (ev_var (τ := yStr) rfl k_224) eva_nil) (fun Z H vs zs x hv hz => by
                      obtain ⟨v0, _, rfl, hv0, ⟨v1, _, rfl, hv1, ⟨v2, _, rfl, hv2, rfl⟩⟩⟩ := hv
                      obtain ⟨w0, _, rfl, hw0, rfl⟩ := hz
                      exact ⟨rfl, rfl, _, rfl, ⟨v0, _, rfl, hv0, ⟨v1, _, rfl, hv1, ⟨v2, _, rfl, hv2, ⟨w0, _, rfl, hw0, rfl⟩⟩⟩⟩⟩))) (fun v Z1 H1 P1 hv => ?_)
                exact q v _ _ P1.st P1.m hv
              · replace P := P1
                have hB := ifF b_225 hF
                replace hF := hB
                clear hB
                refine st_next0 ?_
                refine st_seq (st_if P (et_cmp (ev_eq flat_int (ev_var (τ := yInt) rfl k_196) ev_int)) (fun b_228 Z1 H1 e P1 => ?_) (fun b_228 Z1 H1 e P1 => ?_))
                · replace P := P1
                  have hB := ifT b_228 hF
                  replace hF := hB
                  clear hB
                  obtain ⟨r_229, h_230, hF⟩ := bind_inv hF
                  obtain ⟨g_231, hF⟩ := guard_inv hF
                  obtain ⟨l_238, h_239, hF⟩ := bind_inv hF
                  replace hF := Option.some.inj hF
                  subst hF
                  refine st_ret P (ij_Fact_values T (ev_makeK (is_Values___init__ T) (eva_cons (ev_call (cs_law_string T h_230) (eva_cons (ev_ref rfl) eva_nil)) (eva_cons (ev_fz (en_mapS (υ := (y_Val T)) (fun (x_232 : Int) (s_233 : DS) => ((F_law_worth s_233).bind fun r_236 =>
                  some (r_236.1, r_236.2) : Option (Val × DS))) (ei_rng1 (ev_call (cs__law_next T (by decide +kernel)) (eva_cons (ev_ref rfl) (eva_cons ev_int eva_nil))) g_231) (fun x_232 v_234 Z' H' s_233 p zz hh rx_235 hp => by
                        have hy := hp
                        obtain ⟨r_236, h_237, hy⟩ := bind_inv hy
                        have hy := Option.some.inj hy
                        subst hy
                        exact ⟨_, tgt_name, (wpe_s wpe_z (by decide)), (ev_call (cs_law_worth T h_237) (eva_cons (ev_ref rfl) eva_nil))⟩) h_239)) eva_nil)) (eva_cons (ev_var (τ := yStr) rfl k_224) eva_nil) (fun Z H vs zs x hv hz => by
                        obtain ⟨v0, _, rfl, hv0, ⟨v1, _, rfl, hv1, rfl⟩⟩ := hv
                        obtain ⟨w0, _, rfl, hw0, rfl⟩ := hz
                        exact ⟨rfl, rfl, _, rfl, ⟨v0, _, rfl, hv0, ⟨v1, _, rfl, hv1, ⟨w0, _, rfl, hw0, rfl⟩⟩⟩⟩))) (fun v Z1 H1 P1 hv => ?_)
                  exact q v _ _ P1.st P1.m hv
                · replace P := P1
                  have hB := ifF b_228 hF
                  replace hF := hB
                  clear hB
                  refine st_next0 ?_
                  refine st_seq (st_if P (et_cmp (ev_eq flat_int (ev_var (τ := yInt) rfl k_196) ev_int)) (fun b_240 Z1 H1 e P1 => ?_) (fun b_240 Z1 H1 e P1 => ?_))
                  · replace P := P1
                    have hB := ifT b_240 hF
                    replace hF := hB
                    clear hB
                    obtain ⟨g_241, hF⟩ := guard_inv hF
                    obtain ⟨l_248, h_249, hF⟩ := bind_inv hF
                    obtain ⟨r_250, h_251, hF⟩ := bind_inv hF
                    replace hF := Option.some.inj hF
                    subst hF
                    refine st_ret P (ij_Fact_counts T (ev_make (is_Counts___init__ T h_251) (eva_cons (ev_fz (en_mapS (υ := (yP2 K yStr yInt)) (fun (x_242 : Int) (s_243 : DS) => ((F_law_string s_243).bind fun r_246 =>
                    some ((r_246.1, (nxV r_246.2 (9 : Int))), (nxS r_246.2 (9 : Int))) : Option ((Str × Int) × DS))) (ei_rng1 (ev_call (cs__law_next T (by decide +kernel)) (eva_cons (ev_ref rfl) (eva_cons ev_int eva_nil))) g_241) (fun x_242 v_244 Z' H' s_243 p zz hh rx_245 hp => by
                          have hy := hp
                          obtain ⟨r_246, h_247, hy⟩ := bind_inv hy
                          have hy := Option.some.inj hy
                          subst hy
                          exact ⟨_, tgt_name, (wpe_s wpe_z (by decide)), (ev_p2 (K := K) (eva_cons (ev_call (cs_law_string T h_247) (eva_cons (ev_ref rfl) eva_nil)) (eva_cons (ev_call (cs__law_next T (by decide +kernel)) (eva_cons (ev_ref rfl) (eva_cons ev_int eva_nil))) eva_nil)))⟩) h_249)) eva_nil))) (fun v Z1 H1 P1 hv => ?_)
                    exact q v _ _ P1.st P1.m hv
                  · replace P := P1
                    have hB := ifF b_240 hF
                    replace hF := hB
                    clear hB
                    refine st_next0 ?_
                    obtain ⟨r_252, h_253, hF⟩ := bind_inv hF
                    obtain ⟨r_254, h_255, hF⟩ := bind_inv hF
                    replace hF := Option.some.inj hF
                    subst hF
                    refine st_ret P (ij_Fact_names T (ev_make (is_Names___init__ T) (eva_cons (ev_call (cs_law_string T h_253) (eva_cons (ev_ref rfl) eva_nil)) (eva_cons (ev_call (cs_law_string T h_255) (eva_cons (ev_ref rfl) eva_nil)) eva_nil)))) (fun v Z1 H1 P1 hv => ?_)
                    exact q v _ _ P1.st P1.m hv
theorem cs_law_fact (T : Txt K mg) {st sc : Addr} {ds : DS} {E : XK}  {y : Fact × DS} (h : F_law_fact ds = some y) : CallS (muD st sc) (sp_law_fact T) E (rac (isRef st) ra0) ds (ty (y_Fact T) y.1) y.2 := by
  rintro Z H vs sz m ⟨_, _, rfl, rfl, rfl⟩ Q q
  exact ⟨st, sc, Z, ds, y, rfl, sz, m, h, fun v Z2 H2 s2 m2 hv => q v Z2 H2 s2 m2 hv⟩
theorem cu_law_fact (T : Txt K mg) {st sc : Addr} {ds : DS} {E : XK}  {y : Fact × DS} {μ : Type} {M : Mu μ} {s s2 : μ} (hm : ∀ Z H, M.m s Z H → (muD st sc).m ds Z H) (hf : ∀ a ∈ (muD st sc).fp, a ∈ M.fp) (hp : ∀ Z H Z' H', M.m s Z H → Step (muD st sc).fp Z H Z' H' → (muD st sc).m y.2 Z' H' → M.m s2 Z' H') (h : F_law_fact ds = some y) : CallS M (sp_law_fact T) E (rac (isRef st) ra0) s (ty (y_Fact T) y.1) s2 := by
  rintro Z H vs sz m ⟨_, _, rfl, rfl, rfl⟩ Q q
  exact ⟨st, sc, Z, ds, y, rfl, sz, hm _ _ m, h, fun v Z2 H2 st2 m2 hv => q v Z2 H2 (st2.weak fun a h => .inl (hf a h)) (hp _ _ _ _ m st2 m2) hv⟩
def sp_Region___init__ (T : Txt K mg) : Sp := fun vs H Q _ => ∃ (p dx : Addr) (Z0 : Hp) (v_parent : V) (v_facts : V) (x_parent : (Option Int)) (x_facts : (List Fact)), vs = [.ref p, v_parent, v_facts] ∧ (Same Z0 H) ∧ (H p = some (.ins T.c_Region dx [])) ∧ (Z0 p = none) ∧ (((yOpt yInt)).r Z0 v_parent x_parent) ∧ (((yList (y_Fact T))).r Z0 v_facts x_facts) ∧ ∀ Z' H' o, Step [p] Z0 H Z' H' → H' p = some o → (y_Region T).r (upd Z' p o) (.ref p) (F_Region___init__ x_parent x_facts) → Q .non H'
set_option maxHeartbeats 4000000 in
theorem ok_Region___init__ (T : Txt K mg) : FnOk P w K mg base CX0 1 T.f_Region___init__ T.d_Region___init__ ["self", "parent", "facts"] (sp_Region___init__ T) := by
  refine T.F_Region___init__.ok sc_Region___init__ (fun vs H Q E h => ?_) (fun cdv A outer s H vs Q E hr h => ?_)
  · obtain ⟨p, dx, Z0, v_parent, v_facts, x_parent, x_facts, rfl, _⟩ := h
    rfl
  · obtain ⟨p, dx, Z0, v_parent, v_facts, x_parent, x_facts, rfl, sz, hself, zself, h_parent, h_facts, q⟩ := h
    refine ⟨_, (pss_cons (ps_fld (pv 0) (pv 1) rfl) 
      (pss_one (ps_fld (pv 0) (pe_callTy call_tuple_of (by rfl) T.m_tuple (by decide +kernel) (pa_cons (pv 2) pa_nil)) rfl))), ?_⟩
    have P : Pt [p] Z0 H muN Z0 H () := ⟨Step.refl sz, trivial, fun _ h => (nomatch h)⟩
    generalize hF : F_Region___init__ x_parent x_facts = y at q
    unfold F_Region___init__ at hF
    refine st_seq (st_fld (x := x_parent) (τ := (yOpt yInt)) P hself zself List.not_mem_nil (.inl List.mem_cons_self) rfl (ev_var (τ := (yOpt yInt)) rfl h_parent) T.cl_Region T.n_Region_parent (Nat.lt_of_le_of_lt (Nat.le_refl 0) (by decide)) (fun v_256 Z1 H1 e P1 k_257 hself1 zself1 => ?_))
    refine st_nx ?_
    replace P := P1
    replace hself := hself1
    replace zself := zself1
    replace h_facts := ((yList (y_Fact T))).mono e.z h_facts
    refine st_fld (x := x_facts) (τ := (yTup K (y_Fact T))) P hself zself List.not_mem_nil (.inl List.mem_cons_self) rfl (ev_tuple_of (fun _ _ _ h => h) (ev_li (ev_var (τ := (yList (y_Fact T))) rfl h_facts))) T.cl_Region T.n_Region_facts (Nat.lt_of_le_of_lt (putF_le (Nat.le_refl 0)) (by decide)) (fun v_258 Z1 H1 e P1 k_259 hself1 zself1 => ?_)
    replace P := P1
    replace hself := hself1
    replace zself := zself1
    replace k_257 := ((yOpt yInt)).mono e.z k_257
    subst hF
    exact q _ _ _ P.st hself ⟨p, dx, v_256, v_258, rfl, upd_same, ((yOpt yInt)).mono (same_upd zself) k_257, ((yTup K (y_Fact T))).mono (same_upd zself) k_259⟩
theorem is_Region___init__ (T : Txt K mg) {μ : Type} {M : Mu μ} {s : μ} {E : XK} {x_parent : (Option Int)} {x_facts : (List Fact)} : InitS M T.c_Region (sp_Region___init__ T) E (rac (ty (yOpt yInt) x_parent) (rac (ty (yList (y_Fact T)) x_facts) ra0)) s (ty (y_Region T) (F_Region___init__ x_parent x_facts)) s := by
  rintro Z H vs x dx sz m ⟨v_parent, _, rfl, h_parent, ⟨v_facts, _, rfl, h_facts, rfl⟩⟩ hx zx nx Q q
  exact ⟨x, dx, Z, v_parent, v_facts, x_parent, x_facts, rfl, sz, hx, zx, h_parent, h_facts, fun Z2 H2 o st ho hr => q Z2 H2 o (st.weak fun a h => by rw [List.mem_singleton] at h; rw [h]; exact .inl List.mem_cons_self) (Mu.away st nx m) ho hr⟩
def sp_Entry___init__ (T : Txt K mg) : Sp := fun vs H Q _ => ∃ (p dx : Addr) (Z0 : Hp) (v_number : V) (v_record : V) (v_leaves : V) (x_number : Int) (x_record : Record) (x_leaves : (List Int)), vs = [.ref p, v_number, v_record, v_leaves] ∧ (Same Z0 H) ∧ (H p = some (.ins T.c_Entry dx [])) ∧ (Z0 p = none) ∧ ((yInt).r Z0 v_number x_number) ∧ (((y_Record T)).r Z0 v_record x_record) ∧ (((yList yInt)).r Z0 v_leaves x_leaves) ∧ ∀ Z' H' o, Step [p] Z0 H Z' H' → H' p = some o → (y_Entry T).r (upd Z' p o) (.ref p) (F_Entry___init__ x_number x_record x_leaves) → Q .non H'
set_option maxHeartbeats 4000000 in
theorem ok_Entry___init__ (T : Txt K mg) : FnOk P w K mg base CX0 1 T.f_Entry___init__ T.d_Entry___init__ ["self", "number", "record", "leaves"] (sp_Entry___init__ T) := by
  refine T.F_Entry___init__.ok sc_Entry___init__ (fun vs H Q E h => ?_) (fun cdv A outer s H vs Q E hr h => ?_)
  · obtain ⟨p, dx, Z0, v_number, v_record, v_leaves, x_number, x_record, x_leaves, rfl, _⟩ := h
    rfl
  · obtain ⟨p, dx, Z0, v_number, v_record, v_leaves, x_number, x_record, x_leaves, rfl, sz, hself, zself, h_number, h_record, h_leaves, q⟩ := h
    refine ⟨_, (pss_cons (ps_fld (pv 0) (pv 1) rfl) 
      (pss_cons (ps_fld (pv 0) (pv 2) rfl) 
      (pss_one (ps_fld (pv 0) (pe_callTy call_tuple_of (by rfl) T.m_tuple (by decide +kernel) (pa_cons (pv 3) pa_nil)) rfl)))), ?_⟩
    have P : Pt [p] Z0 H muN Z0 H () := ⟨Step.refl sz, trivial, fun _ h => (nomatch h)⟩
    generalize hF : F_Entry___init__ x_number x_record x_leaves = y at q
    unfold F_Entry___init__ at hF
    refine st_seq (st_fld (x := x_number) (τ := yInt) P hself zself List.not_mem_nil (.inl List.mem_cons_self) rfl (ev_var (τ := yInt) rfl h_number) T.cl_Entry T.n_Entry_number (Nat.lt_of_le_of_lt (Nat.le_refl 0) (by decide)) (fun v_260 Z1 H1 e P1 k_261 hself1 zself1 => ?_))
    refine st_nx ?_
    replace P := P1
    replace hself := hself1
    replace zself := zself1
    replace h_record := ((y_Record T)).mono e.z h_record
    replace h_leaves := ((yList yInt)).mono e.z h_leaves
    refine st_seq (st_fld (x := x_record) (τ := (y_Record T)) P hself zself List.not_mem_nil (.inl List.mem_cons_self) rfl (ev_var (τ := (y_Record T)) rfl h_record) T.cl_Entry T.n_Entry_record (Nat.lt_of_le_of_lt (putF_le (Nat.le_refl 0)) (by decide)) (fun v_262 Z1 H1 e P1 k_263 hself1 zself1 => ?_))
    refine st_nx ?_
    replace P := P1
    replace hself := hself1
    replace zself := zself1
    replace h_leaves := ((yList yInt)).mono e.z h_leaves
    refine st_fld (x := x_leaves) (τ := (yTup K yInt)) P hself zself List.not_mem_nil (.inl List.mem_cons_self) rfl (ev_tuple_of (fun _ _ _ h => h) (ev_li (ev_var (τ := (yList yInt)) rfl h_leaves))) T.cl_Entry T.n_Entry_leaves (Nat.lt_of_le_of_lt (putF_le (putF_le (Nat.le_refl 0))) (by decide)) (fun v_264 Z1 H1 e P1 k_265 hself1 zself1 => ?_)
    replace P := P1
    replace hself := hself1
    replace zself := zself1
    replace k_263 := ((y_Record T)).mono e.z k_263
    subst hF
    exact q _ _ _ P.st hself ⟨p, dx, v_260, v_262, v_264, rfl, upd_same, k_261, ((y_Record T)).mono (same_upd zself) k_263, ((yTup K yInt)).mono (same_upd zself) k_265⟩
theorem is_Entry___init__ (T : Txt K mg) {μ : Type} {M : Mu μ} {s : μ} {E : XK} {x_number : Int} {x_record : Record} {x_leaves : (List Int)} : InitS M T.c_Entry (sp_Entry___init__ T) E (rac (ty yInt x_number) (rac (ty (y_Record T) x_record) (rac (ty (yList yInt) x_leaves) ra0))) s (ty (y_Entry T) (F_Entry___init__ x_number x_record x_leaves)) s := by
  rintro Z H vs x dx sz m ⟨v_number, _, rfl, h_number, ⟨v_record, _, rfl, h_record, ⟨v_leaves, _, rfl, h_leaves, rfl⟩⟩⟩ hx zx nx Q q
  exact ⟨x, dx, Z, v_number, v_record, v_leaves, x_number, x_record, x_leaves, rfl, sz, hx, zx, h_number, h_record, h_leaves, fun Z2 H2 o st ho hr => q Z2 H2 o (st.weak fun a h => by rw [List.mem_singleton] at h; rw [h]; exact .inl List.mem_cons_self) (Mu.away st nx m) ho hr⟩
def sp_Offer___init__ (T : Txt K mg) : Sp := fun vs H Q _ => ∃ (p dx : Addr) (Z0 : Hp) (v_partitions : V) (v_entries : V) (x_partitions : (List (List Region))) (x_entries : (List Entry)), vs = [.ref p, v_partitions, v_entries] ∧ (Same Z0 H) ∧ (H p = some (.ins T.c_Offer dx [])) ∧ (Z0 p = none) ∧ (((yList (yList (y_Region T)))).r Z0 v_partitions x_partitions) ∧ (((yList (y_Entry T))).r Z0 v_entries x_entries) ∧ ∀ Z' H' o, Step [p] Z0 H Z' H' → H' p = some o → (y_Offer T).r (upd Z' p o) (.ref p) (F_Offer___init__ x_partitions x_entries) → Q .non H'
set_option maxHeartbeats 4000000 in
theorem ok_Offer___init__ (T : Txt K mg) : FnOk P w K mg base CX0 1 T.f_Offer___init__ T.d_Offer___init__ ["self", "partitions", "entries"] (sp_Offer___init__ T) := by
  refine T.F_Offer___init__.ok sc_Offer___init__ (fun vs H Q E h => ?_) (fun cdv A outer s H vs Q E hr h => ?_)
  · obtain ⟨p, dx, Z0, v_partitions, v_entries, x_partitions, x_entries, rfl, _⟩ := h
    rfl
  · obtain ⟨p, dx, Z0, v_partitions, v_entries, x_partitions, x_entries, rfl, sz, hself, zself, h_partitions, h_entries, q⟩ := h
    refine ⟨_, (pss_cons (ps_fld (pv 0) (pe_callTy call_tuple_of (by rfl) T.m_tuple (by decide +kernel) (pa_cons (pe_lc (own := [("regions", 3)]) (g := gName 3) rfl sc_Offer___init__.nd (pi_list (pv 1)) (blkOk_by (own := [("regions", 3)]) (N := ["self", "partitions", "entries", "regions"]) (sc := defScope s_Offer___init__) (by decide +kernel)) (fun _ _ _ _ _ => (pg_name (i := 3) sc_Offer___init__.nd rfl (Or.inl rfl))) (fun _ _ _ _ _ => pts_nil) (fun _ _ _ _ _ => (pe_callTy (r := rTupleB K) (by exact call_tuple_of) (by rfl) T.m_tuple (by decide +kernel) (pa_cons (pv 3) pa_nil)))) pa_nil)) rfl) 
      (pss_one (ps_fld (pv 0) (pe_callTy call_tuple_of (by rfl) T.m_tuple (by decide +kernel) (pa_cons (pv 2) pa_nil)) rfl))), ?_⟩
    have P : Pt [p] Z0 H muN Z0 H () := ⟨Step.refl sz, trivial, fun _ h => (nomatch h)⟩
    generalize hF : F_Offer___init__ x_partitions x_entries = y at q
    unfold F_Offer___init__ at hF
    refine st_seq (st_fld (x := x_partitions) (τ := (yTup K (yTup K (y_Region T)))) P hself zself List.not_mem_nil (.inl List.mem_cons_self) rfl (ev_tuple_of (fun _ _ _ h => h) (ev_li (ev_fz (en_cast (en_map (fun x => x) (ei_list (ev_var (τ := (yList (yList (y_Region T)))) rfl h_partitions)) (fun x_269 v_270 Z' H' zz hh rx_271 => by
          exact ⟨_, tgt_name, (wpe_s wpe_z (by decide)), (ev_tuple_of (fun _ _ _ h => h) (ev_li (ev_var (τ := (yList (y_Region T))) rfl rx_271)))⟩)) (List.map_id' _))))) T.cl_Offer T.n_Offer_partitions (Nat.lt_of_le_of_lt (Nat.le_refl 0) (by decide)) (fun v_272 Z1 H1 e P1 k_273 hself1 zself1 => ?_))
    refine st_nx ?_
    replace P := P1
    replace hself := hself1
    replace zself := zself1
    replace h_entries := ((yList (y_Entry T))).mono e.z h_entries
    refine st_fld (x := x_entries) (τ := (yTup K (y_Entry T))) P hself zself List.not_mem_nil (.inl List.mem_cons_self) rfl (ev_tuple_of (fun _ _ _ h => h) (ev_li (ev_var (τ := (yList (y_Entry T))) rfl h_entries))) T.cl_Offer T.n_Offer_entries (Nat.lt_of_le_of_lt (putF_le (Nat.le_refl 0)) (by decide)) (fun v_274 Z1 H1 e P1 k_275 hself1 zself1 => ?_)
    replace P := P1
    replace hself := hself1
    replace zself := zself1
    replace k_273 := ((yTup K (yTup K (y_Region T)))).mono e.z k_273
    subst hF
    exact q _ _ _ P.st hself ⟨p, dx, v_272, v_274, rfl, upd_same, ((yTup K (yTup K (y_Region T)))).mono (same_upd zself) k_273, ((yTup K (y_Entry T))).mono (same_upd zself) k_275⟩
theorem is_Offer___init__ (T : Txt K mg) {μ : Type} {M : Mu μ} {s : μ} {E : XK} {x_partitions : (List (List Region))} {x_entries : (List Entry)} : InitS M T.c_Offer (sp_Offer___init__ T) E (rac (ty (yList (yList (y_Region T))) x_partitions) (rac (ty (yList (y_Entry T)) x_entries) ra0)) s (ty (y_Offer T) (F_Offer___init__ x_partitions x_entries)) s := by
  rintro Z H vs x dx sz m ⟨v_partitions, _, rfl, h_partitions, ⟨v_entries, _, rfl, h_entries, rfl⟩⟩ hx zx nx Q q
  exact ⟨x, dx, Z, v_partitions, v_entries, x_partitions, x_entries, rfl, sz, hx, zx, h_partitions, h_entries, fun Z2 H2 o st ho hr => q Z2 H2 o (st.weak fun a h => by rw [List.mem_singleton] at h; rw [h]; exact .inl List.mem_cons_self) (Mu.away st nx m) ho hr⟩
def sp_law_offer (T : Txt K mg) : Sp := fun vs H Q _ => ∃ (st sc : Addr) (Z0 : Hp) (ds : DS) (y : (Offer × DS)), vs = [.ref st] ∧ (Same Z0 H) ∧ ((muD st sc).m ds Z0 H) ∧ (F_law_offer ds = some y) ∧ ∀ v Z' H', Step (muD st sc).fp Z0 H Z' H' → (muD st sc).m y.2 Z' H' → ((y_Offer T)).r Z' v y.1 → Q v H'
set_option maxHeartbeats 4000000 in
theorem ok_law_offer (T : Txt K mg) : FnOk P w K mg base CX0 6 T.f_law_offer T.d_law_offer ["state"] (sp_law_offer T) := by
  have G_Offer___init__ : FnOk P w K mg base CX0 1 T.f_Offer___init__ T.d_Offer___init__ ["self", "partitions", "entries"] (sp_Offer___init__ T) := ok_Offer___init__ T
  have G_law_next : FnOk P w K mg base CX0 2 T.f_law_next T.d_law_next ["state", "many"] (sp_law_next T) := ok_law_next T
  have G_law_numbers : FnOk P w K mg base CX0 3 T.f_law_numbers T.d_law_numbers ["state"] (sp_law_numbers T) := ok_law_numbers T
  have G_law_record : FnOk P w K mg base CX0 5 T.f_law_record T.d_law_record ["state"] (sp_law_record T) := ok_law_record T
  have G_Entry___init__ : FnOk P w K mg base CX0 1 T.f_Entry___init__ T.d_Entry___init__ ["self", "number", "record", "leaves"] (sp_Entry___init__ T) := ok_Entry___init__ T
  have G_law_fact : FnOk P w K mg base CX0 5 T.f_law_fact T.d_law_fact ["state"] (sp_law_fact T) := ok_law_fact T
  have G_Region___init__ : FnOk P w K mg base CX0 1 T.f_Region___init__ T.d_Region___init__ ["self", "parent", "facts"] (sp_Region___init__ T) := ok_Region___init__ T
  refine T.F_law_offer.ok sc_law_offer (fun vs H Q E h => ?_) (fun cdv A outer s H vs Q E hr h => ?_)
  · obtain ⟨st, sc, Z0, ds, y, rfl, _⟩ := h
    rfl
  · obtain ⟨st, sc, Z0, ds, y, rfl, sz, hm, hF, q⟩ := h
    refine ⟨_, (pss_cons (ps_set (i := 1) sc_law_offer.nd rfl (.inl rfl) (pe_lst pa_nil)) 
      (pss_cons (ps_for PassesOwn.never rfl (pi_range1 rfl T.m_range (pa_cons (pe_call G_law_next (hr.mono (by decide)) (by rfl) T.g_law_next T.F_law_next.kp T.b_law_next .nil pass0 (pa_cons (pv 0) (pa_cons pe_int pa_nil))) pa_nil)) (pg_name (i := 2) sc_law_offer.nd rfl (.inl rfl)) (pss_cons (ps_set (i := 3) sc_law_offer.nd rfl (.inl rfl) (pe_lst pa_nil)) 
      (pss_cons (ps_for PassesOwn.never rfl (pi_range1 rfl T.m_range (pa_cons (pe_call G_law_next (hr.mono (by decide)) (by rfl) T.g_law_next T.F_law_next.kp T.b_law_next .nil pass0 (pa_cons (pv 0) (pa_cons pe_int pa_nil))) pa_nil)) (pg_name (i := 4) sc_law_offer.nd rfl (.inl rfl)) (pss_cons (ps_set (i := 5) sc_law_offer.nd rfl (.inl rfl) (pe_ix ix_list (pe_lst (pa_cons pe_non (pa_cons (pe_op op_sub (pe_call G_law_next (hr.mono (by decide)) (by rfl) T.g_law_next T.F_law_next.kp T.b_law_next .nil pass0 (pa_cons (pv 0) (pa_cons pe_int pa_nil))) pe_int) pa_nil))) (pe_call G_law_next (hr.mono (by decide)) (by rfl) T.g_law_next T.F_law_next.kp T.b_law_next .nil pass0 (pa_cons (pv 0) (pa_cons pe_int pa_nil))) (fun _ _ => rfl))) 
      (pss_one (ps_expr (pe_bm PySem.F.plainAttrs_list PySem.F.slot_list_append PySem.F.type_list_append mt_append (pv 3) (pa_cons (pe_make T.mk_Region G_Region___init__ (hr.mono (by decide)) (by rfl) T.mc_Region T.b_Region___init__ .nil pass0 (pa_cons (pv 5) (pa_cons (pe_lc (own := [("i", 6)]) (g := gName 6) rfl sc_law_offer.nd (pi_range1 rfl T.m_range (pa_cons (pe_call G_law_next (hr.mono (by decide)) (by rfl) T.g_law_next T.F_law_next.kp T.b_law_next .nil pass0 (pa_cons (pv 0) (pa_cons pe_int pa_nil))) pa_nil)) (blkOk_by (own := [("i", 6)]) (N := ["state", "partitions", "k", "regions", "j", "parent", "i", "entries"]) (sc := defScope s_law_offer) (by decide +kernel)) (fun _ _ _ _ _ => (pg_name (i := 6) sc_law_offer.nd rfl (Or.inl rfl))) (fun _ _ _ _ _ => pts_nil) (fun _ _ _ _ _ => (pe_call G_law_fact (hr.mono (by decide)) (by rfl) T.g_law_fact T.F_law_fact.kp T.b_law_fact .nil pass0 (pa_cons (pv 0) pa_nil)))) pa_nil))) pa_nil)))))) 
      (pss_one (ps_expr (pe_bm PySem.F.plainAttrs_list PySem.F.slot_list_append PySem.F.type_list_append mt_append (pv 1) (pa_cons (pv 3) pa_nil))))))) 
      (pss_cons (ps_set (i := 7) sc_law_offer.nd rfl (.inl rfl) (pe_lst pa_nil)) 
      (pss_cons (ps_for PassesOwn.never rfl (pi_range1 rfl T.m_range (pa_cons (pe_call G_law_next (hr.mono (by decide)) (by rfl) T.g_law_next T.F_law_next.kp T.b_law_next .nil pass0 (pa_cons (pv 0) (pa_cons pe_int pa_nil))) pa_nil)) (pg_name (i := 2) sc_law_offer.nd rfl (.inl rfl)) (pss_one (ps_expr (pe_bm PySem.F.plainAttrs_list PySem.F.slot_list_append PySem.F.type_list_append mt_append (pv 7) (pa_cons (pe_make T.mk_Entry G_Entry___init__ (hr.mono (by decide)) (by rfl) T.mc_Entry T.b_Entry___init__ .nil pass0 (pa_cons (pe_call G_law_next (hr.mono (by decide)) (by rfl) T.g_law_next T.F_law_next.kp T.b_law_next .nil pass0 (pa_cons (pv 0) (pa_cons (pe_op op_pow pe_int pe_int) pa_nil))) (pa_cons (pe_call G_law_record (hr.mono (by decide)) (by rfl) T.g_law_record T.F_law_record.kp T.b_law_record .nil pass0 (pa_cons (pv 0) pa_nil)) (pa_cons (pe_call G_law_numbers (hr.mono (by decide)) (by rfl) T.g_law_numbers T.F_law_numbers.kp T.b_law_numbers .nil pass0 (pa_cons (pv 0) pa_nil)) pa_nil)))) pa_nil))))) 
      (pss_one (ps_ret (pe_make T.mk_Offer G_Offer___init__ (hr.mono (by decide)) (by rfl) T.mc_Offer T.b_Offer___init__ .nil pass0 (pa_cons (pv 1) (pa_cons (pv 7) pa_nil))))))))), ?_⟩
    have P := Pt.start (muD st sc) sz hm
    unfold F_law_offer at hF
    obtain ⟨x_partitions_279, h_280, hF⟩ := bind_inv hF
    replace h_280 := Option.some.inj h_280
    refine st_seq (st_setN (τ := (yList (y_Region T))) P (en_cast (en_listD (eva_nils (τ := (yList (y_Region T)))) (by show 0 ≤ sizeLine; decide)) h_280) (fun p_281 Z1 H1 e P1 fr_283 o_282 => ?_))
    refine st_nx ?_
    replace P := P1
    obtain ⟨g_284, hF⟩ := guard_inv hF
    obtain ⟨f_362, hL_363, hF⟩ := bind_inv hF
    refine st_seq (st_for (τ := yInt) (fun (r_287 : List Int) σ' Z' H' => ∃ w_285, ∃ (y_293 : Option V) (y_294 : Option V) (y_295 : Option V) (y_296 : Option V) (y_297 : Option V) (y_298 : Option V), σ' = [some (.ref st), some (.ref p_281), y_293, y_294, y_295, y_296, y_297, y_298] ∧ Pt (muD st sc).fp Z0 H (muD st sc) Z' H' w_285.2 ∧ Own (muD st sc).fp H (muD st sc).fp Z' H' (yList (y_Region T)) p_281 w_285.1 ∧ forF L_law_offer_1 r_287 w_285 = some f_362) P (ei_rng1 (ev_call (cs__law_next T (by decide +kernel)) (eva_cons (ev_ref rfl) (eva_cons ev_int eva_nil))) g_284) ?_ ?_ ?_)
    · rintro Z1 H1 e P1
      replace P := P1
      replace o_282 := o_282.next e
      exact ⟨(x_partitions_279, (nxS ds (3 : Int))), _, _, _, _, _, _, rfl, P, o_282, hL_363⟩
    · rintro Zb_291 Hb eb x_286 r_287 σ' v_307 Z1 H1 Z2 H2 zs_290 ⟨w_285, y_293, y_294, y_295, y_296, y_297, y_298, rfl, P, o_292, hq_289⟩ e hx_308
      replace P := P.item e
      replace o_292 := o_292.step e List.not_mem_nil
      replace zs_290 := zs_290.trans e.z
      obtain ⟨u_309, hB_288, hq_289⟩ := bind_inv (forF_cons hq_289)
      unfold L_law_offer_1 at hB_288
      refine tgt_name _ P.sub _ ?_
      refine st_seq (st_setN (τ := (y_Region T)) P (en_listD (eva_nils (τ := (y_Region T))) (by show 0 ≤ sizeLine; decide)) (fun p_310 Z1 H1 e P1 fr_312 o_311 => ?_))
      refine st_nx ?_
      have ne_313 := o_292.ne fr_312
      replace P := P1
      replace o_292 := o_292.next e
      replace zs_290 := zs_290.trans e.z
      obtain ⟨g_314, hB_288⟩ := guard_inv hB_288
      obtain ⟨f_357, hL_358, hB_288⟩ := bind_inv hB_288
      refine st_seq (st_for (τ := yInt) (fun (r_317 : List Int) σ' Z' H' => ∃ w_315, ∃ (y_323 : Option V) (y_325 : Option V) (y_326 : Option V) (y_327 : Option V) (y_328 : Option V), σ' = [some (.ref st), some (.ref p_281), y_323, some (.ref p_310), y_325, y_326, y_327, y_328] ∧ Pt (muD st sc).fp Z0 H (muD st sc) Z' H' w_315.2 ∧ Same Zb_291 Z' ∧ Own (muD st sc).fp H (muD st sc).fp Z' H' (yList (y_Region T)) p_281 w_285.1 ∧ Own (muD st sc).fp H (muD st sc).fp Z' H' (y_Region T) p_310 w_315.1 ∧ forF L_law_offer_2 r_317 w_315 = some f_357) P (ei_rng1 (ev_call (cs__law_next T (by decide +kernel)) (eva_cons (ev_ref rfl) (eva_cons ev_int eva_nil))) g_314) ?_ ?_ ?_)
      · rintro Z1 H1 e P1
        replace P := P1
        replace o_292 := o_292.next e
        replace o_311 := o_311.next e
        replace zs_290 := zs_290.trans e.z
        exact ⟨(([] : List Region), (nxS w_285.2 (4 : Int))), _, _, _, _, _, rfl, P, zs_290, o_292, o_311, hL_358⟩
      · rintro Zb_321 Hb eb x_316 r_317 σ' v_339 Z1 H1 Z2 H2 zs_320 ⟨w_315, y_323, y_325, y_326, y_327, y_328, rfl, P, zs_329, o_322, o_324, hq_319⟩ e hx_340
        replace P := P.item e
        replace o_322 := o_322.step e List.not_mem_nil
        replace o_324 := o_324.step e List.not_mem_nil
        replace zs_329 := zs_329.trans e.z
        replace zs_320 := zs_320.trans e.z
        obtain ⟨u_341, hB_318, hq_319⟩ := bind_inv (forF_cons hq_319)
        unfold L_law_offer_2 at hB_318
        refine tgt_name _ P.sub _ ?_
        obtain ⟨i_342, h_343, hB_318⟩ := bind_inv hB_318
        refine st_seq (st_set P (ev_ixL (ev_li (ev_fz (en_listD (eva_conss (ev_none (τ := yInt) ev_non) (eva_conss (ev_some nn_int (ev_sub (ev_call (cs__law_next T (by decide +kernel)) (eva_cons (ev_ref rfl) (eva_cons ev_int eva_nil))) ev_int)) (eva_nils (τ := (yOpt yInt))))) (by show 2 ≤ sizeLine; decide)))) (ev_call (cs__law_next T (by decide +kernel)) (eva_cons (ev_ref rfl) (eva_cons ev_int eva_nil))) h_343) (fun v_344 Z1 H1 e P1 k_345 => ?_))
        refine st_nx ?_
        replace P := P1
        replace k_345 : ((yOpt yInt)).r Z1 v_344 i_342 := k_345
        replace o_322 := o_322.next e
        replace o_324 := o_324.next e
        replace zs_329 := zs_329.trans e.z
        replace zs_320 := zs_320.trans e.z
        obtain ⟨g_346, hB_318⟩ := guard_inv hB_318
        obtain ⟨l_353, h_354, hB_318⟩ := bind_inv hB_318
        obtain ⟨g_355, hB_318⟩ := guard_inv hB_318
        refine st_append P o_324 rfl (ev_make (is_Region___init__ T) (eva_cons (ev_var (τ := (yOpt yInt)) rfl k_345) (eva_cons (ev_fz (en_mapS (υ := (y_Fact T)) (fun (x_347 : Int) (s_348 : DS) => ((F_law_fact s_348).bind fun r_351 =>
        some (r_351.1, r_351.2) : Option (Fact × DS))) (ei_rng1 (ev_call (cs__law_next T (by decide +kernel)) (eva_cons (ev_ref rfl) (eva_cons ev_int eva_nil))) g_346) (fun x_347 v_349 Z' H' s_348 p zz hh rx_350 hp => by
              have hy := hp
              obtain ⟨r_351, h_352, hy⟩ := bind_inv hy
              have hy := Option.some.inj hy
              subst hy
              exact ⟨_, tgt_name, (wpe_s wpe_z (by decide)), (ev_call (cs_law_fact T h_352) (eva_cons (ev_ref rfl) eva_nil))⟩) h_354)) eva_nil))) g_355 (fun Z1 H1 e P1 o_356 => ?_)
        replace P := P1
        replace o_322 := o_322.step e (fun h => (List.mem_cons.mp h).elim (fun z => ne_313 z) o_322.n)
        replace zs_329 := zs_329.trans e.z
        replace zs_320 := zs_320.trans e.z
        replace hB_318 := Option.some.inj hB_318
        subst hB_318
        exact ⟨_, zs_320, P.sub, ((w_315.1 ++ [(F_Region___init__ i_342 l_353.1)]), l_353.2), _, _, _, _, _, rfl, P, zs_329, o_322, o_356, hq_319⟩
      rintro σ' Z1 H1 _ _ ⟨w_330, y_323, y_325, y_326, y_327, y_328, rfl, P, zs_338, o_331, o_333, hl⟩
      have hz := (forF_nil hl).symm
      subst hz
      refine st_nx ?_
      obtain ⟨Z, P, zf, hf, of⟩ := o_333.fz P
      replace o_331 := o_331.keep zf (of _ ne_313 o_331.z)
      replace zs_338 := zs_338.trans zf
      have k_359 := hf
      clear hf zf of
      obtain ⟨g_360, hB_288⟩ := guard_inv hB_288
      refine st_append P o_331 rfl (ev_var (τ := (yList (y_Region T))) rfl k_359) g_360 (fun Z1 H1 e P1 o_361 => ?_)
      replace P := P1
      replace zs_338 := zs_338.trans e.z
      replace hB_288 := Option.some.inj hB_288
      subst hB_288
      exact ⟨_, zs_338, P.sub, ((w_285.1 ++ [w_330.1]), w_330.2), _, _, _, _, _, _, rfl, P, o_361, hq_289⟩
    rintro σ' Z1 H1 _ _ ⟨w_299, y_293, y_294, y_295, y_296, y_297, y_298, rfl, P, o_300, hl⟩
    have hz := (forF_nil hl).symm
    subst hz
    refine st_nx ?_
    refine st_seq (st_setN (τ := (y_Entry T)) P (en_listD (eva_nils (τ := (y_Entry T))) (by show 0 ≤ sizeLine; decide)) (fun p_364 Z1 H1 e P1 fr_366 o_365 => ?_))
    refine st_nx ?_
    have ne_367 := o_300.ne fr_366
    replace P := P1
    replace o_300 := o_300.next e
    obtain ⟨g_368, hF⟩ := guard_inv hF
    obtain ⟨f_400, hL_401, hF⟩ := bind_inv hF
    refine st_seq (st_for (τ := yInt) (fun (r_371 : List Int) σ' Z' H' => ∃ w_369, ∃ (y_377 : Option V) (y_378 : Option V) (y_379 : Option V) (y_380 : Option V) (y_381 : Option V), σ' = [some (.ref st), some (.ref p_281), y_377, y_378, y_379, y_380, y_381, some (.ref p_364)] ∧ Pt (muD st sc).fp Z0 H (muD st sc) Z' H' w_369.2 ∧ Own (muD st sc).fp H (muD st sc).fp Z' H' (yList (y_Region T)) p_281 w_299.1 ∧ Own (muD st sc).fp H (muD st sc).fp Z' H' (y_Entry T) p_364 w_369.1 ∧ forF L_law_offer_3 r_371 w_369 = some f_400) P (ei_rng1 (ev_call (cs__law_next T (by decide +kernel)) (eva_cons (ev_ref rfl) (eva_cons ev_int eva_nil))) g_368) ?_ ?_ ?_)
    · rintro Z1 H1 e P1
      replace P := P1
      replace o_300 := o_300.next e
      replace o_365 := o_365.next e
      exact ⟨(([] : List Entry), (nxS w_299.2 (4 : Int))), _, _, _, _, _, rfl, P, o_300, o_365, hL_401⟩
    · rintro Zb_375 Hb eb x_370 r_371 σ' v_391 Z1 H1 Z2 H2 zs_374 ⟨w_369, y_377, y_378, y_379, y_380, y_381, rfl, P, o_376, o_382, hq_373⟩ e hx_392
      replace P := P.item e
      replace o_376 := o_376.step e List.not_mem_nil
      replace o_382 := o_382.step e List.not_mem_nil
      replace zs_374 := zs_374.trans e.z
      obtain ⟨u_393, hB_372, hq_373⟩ := bind_inv (forF_cons hq_373)
      unfold L_law_offer_3 at hB_372
      refine tgt_name _ P.sub _ ?_
      obtain ⟨r_394, h_395, hB_372⟩ := bind_inv hB_372
      obtain ⟨r_396, h_397, hB_372⟩ := bind_inv hB_372
      obtain ⟨g_398, hB_372⟩ := guard_inv hB_372
      refine st_append P o_382 rfl (ev_make (is_Entry___init__ T) (eva_cons (ev_call (cs__law_next T (by decide +kernel)) (eva_cons (ev_ref rfl) (eva_cons (ev_pow ev_int ev_int (by decide)) eva_nil))) (eva_cons (ev_call (cs_law_record T h_395) (eva_cons (ev_ref rfl) eva_nil)) (eva_cons (ev_call (cs_law_numbers T h_397) (eva_cons (ev_ref rfl) eva_nil)) eva_nil)))) g_398 (fun Z1 H1 e P1 o_399 => ?_)
      replace P := P1
      replace o_376 := o_376.step e (fun h => (List.mem_cons.mp h).elim (fun z => ne_367 z) o_376.n)
      replace zs_374 := zs_374.trans e.z
      replace hB_372 := Option.some.inj hB_372
      subst hB_372
      exact ⟨_, zs_374, P.sub, ((w_369.1 ++ [(F_Entry___init__ (nxV w_369.2 ((10 : Int) ^ (6 : Int).toNat)) r_394.1 r_396.1)]), r_396.2), _, _, _, _, _, rfl, P, o_376, o_399, hq_373⟩
    rintro σ' Z1 H1 _ _ ⟨w_383, y_377, y_378, y_379, y_380, y_381, rfl, P, o_384, o_390, hl⟩
    have hz := (forF_nil hl).symm
    subst hz
    refine st_nx ?_
    obtain ⟨Z, P, zf, hf, of⟩ := o_384.fz P
    replace o_390 := o_390.keep zf (of _ ne_367.symm o_390.z)
    have k_402 := hf
    clear hf zf of
    obtain ⟨Z, P, zf, hf, of⟩ := o_390.fz P
    replace k_402 := ((yList (yList (y_Region T)))).mono zf k_402
    have k_403 := hf
    clear hf zf of
    replace hF := Option.some.inj hF
    subst hF
    refine st_ret P (ev_make (is_Offer___init__ T) (eva_cons (ev_var (τ := (yList (yList (y_Region T)))) rfl k_402) (eva_cons (ev_var (τ := (yList (y_Entry T))) rfl k_403) eva_nil))) (fun v Z1 H1 P1 hv => ?_)
    exact q v _ _ P1.st P1.m hv
theorem cs_law_offer (T : Txt K mg) {st sc : Addr} {ds : DS} {E : XK}  {y : Offer × DS} (h : F_law_offer ds = some y) : CallS (muD st sc) (sp_law_offer T) E (rac (isRef st) ra0) ds (ty (y_Offer T) y.1) y.2 := by
  rintro Z H vs sz m ⟨_, _, rfl, rfl, rfl⟩ Q q
  exact ⟨st, sc, Z, ds, y, rfl, sz, m, h, fun v Z2 H2 s2 m2 hv => q v Z2 H2 s2 m2 hv⟩
theorem cu_law_offer (T : Txt K mg) {st sc : Addr} {ds : DS} {E : XK}  {y : Offer × DS} {μ : Type} {M : Mu μ} {s s2 : μ} (hm : ∀ Z H, M.m s Z H → (muD st sc).m ds Z H) (hf : ∀ a ∈ (muD st sc).fp, a ∈ M.fp) (hp : ∀ Z H Z' H', M.m s Z H → Step (muD st sc).fp Z H Z' H' → (muD st sc).m y.2 Z' H' → M.m s2 Z' H') (h : F_law_offer ds = some y) : CallS M (sp_law_offer T) E (rac (isRef st) ra0) s (ty (y_Offer T) y.1) s2 := by
  rintro Z H vs sz m ⟨_, _, rfl, rfl, rfl⟩ Q q
  exact ⟨st, sc, Z, ds, y, rfl, sz, hm _ _ m, h, fun v Z2 H2 st2 m2 hv => q v Z2 H2 (st2.weak fun a h => .inl (hf a h)) (hp _ _ _ _ m st2 m2) hv⟩
def sp_list_code (T : Txt K mg) : Sp := fun vs H Q _ => ∃ (Z0 : Hp) (v_codes : V) (x_codes : (List (List Int))) (y : (List Int)), vs = [v_codes] ∧ (Same Z0 H) ∧ (((yList (yList yInt))).r Z0 v_codes x_codes) ∧ (F_list_code x_codes = some y) ∧ ∀ v Z' H', Step [] Z0 H Z' H' → ((yList yInt)).r Z' v y → Q v H'
set_option maxHeartbeats 4000000 in
theorem ok_list_code (T : Txt K mg) : FnOk P w K mg base CX0 1 T.f_list_code T.d_list_code ["codes"] (sp_list_code T) := by
  refine T.F_list_code.ok sc_list_code (fun vs H Q E h => ?_) (fun cdv A outer s H vs Q E hr h => ?_)
  · obtain ⟨Z0, v_codes, x_codes, y, rfl, _⟩ := h
    rfl
  · obtain ⟨Z0, v_codes, x_codes, y, rfl, sz, h_codes, hF, q⟩ := h
    refine ⟨_, (pss_one (ps_ret (pe_op op_cat (pe_lst (pa_cons (pe_callB call_len_seq (by rfl) T.m_len PySem.boot_len (pa_cons (pv 0) pa_nil)) pa_nil)) (pe_lc2 (own := [("code", 1), ("number", 2)]) (vs1 := [2]) (g := gName 1) (g1 := gName 2) rfl sc_list_code.nd (pi_list (pv 0)) (blkOk_by (own := [("code", 1), ("number", 2)]) (N := ["codes", "code", "number"]) (sc := defScope s_list_code) (by decide +kernel)) (by decide) (fun _ _ _ _ _ => (pg_name (i := 1) sc_list_code.nd rfl (Or.inl rfl))) (fun _ _ _ _ _ => pts_nil) (fun _ _ _ _ _ => (pi_listB (K := K) rfl (pv 1))) (fun _ _ _ _ _ => (pg_name (i := 2) sc_list_code.nd rfl (Or.inl rfl))) (fun _ _ _ _ _ => pts_nil) (fun _ _ _ _ _ => (pv 2)))))), ?_⟩
    have P := Pt.start0 sz
    unfold F_list_code at hF
    obtain ⟨g_418, hF⟩ := guard_inv hF
    obtain ⟨g_419, hF⟩ := guard_inv hF
    replace hF := Option.some.inj hF
    subst hF
    refine st_ret P (ev_fz (en_cat (ev_li (ev_fz (en_listD (eva_conss (ev_len (fun _ _ _ h => h) (ev_li (ev_var (τ := (yList (yList yInt))) rfl h_codes))) (eva_nils (τ := yInt))) (by show 1 ≤ sizeLine; decide)))) (ev_li (ev_fz (en_flat (fun (x_412 : (List Int)) => x_412) (fun (x_412 : (List Int)) (y_415 : Int) => y_415) (ei_list (ev_var (τ := (yList (yList yInt))) rfl h_codes)) g_418 (fun x_412 v_413 Z' H' zz hh rx_414 => by
          refine ⟨_, tgt_name, rfl, fun X => (ei_list (ev_var (τ := (yList yInt)) rfl rx_414)), fun y_415 w_416 Z'' H'' z1 zz hh ry_417 => ?_⟩
          exact ⟨_, tgt_name, rfl, (ev_var (τ := yInt) rfl ry_417)⟩)))) g_419)) (fun v Z1 H1 P1 hv => ?_)
    exact q v _ _ P1.st hv
theorem cs_list_code (T : Txt K mg) {μ : Type} {M : Mu μ} {s : μ} {E : XK} {x_codes : (List (List Int))} {y : (List Int)} (h : F_list_code x_codes = some y) : CallS M (sp_list_code T) E (rac (ty (yList (yList yInt)) x_codes) ra0) s (ty (yList yInt) y) s := by
  rintro Z H vs sz m ⟨v_codes, _, rfl, h_codes, rfl⟩ Q q
  exact ⟨Z, v_codes, x_codes, y, rfl, sz, h_codes, h, fun v Z2 H2 st hv => q v Z2 H2 st.pure (M.pure st m) hv⟩
def sp_numbers_code (T : Txt K mg) : Sp := fun vs H Q _ => ∃ (Z0 : Hp) (v_numbers : V) (x_numbers : (List Int)) (y : (List Int)), vs = [v_numbers] ∧ (Same Z0 H) ∧ (((ySeq K yInt)).r Z0 v_numbers x_numbers) ∧ (F_numbers_code x_numbers = some y) ∧ ∀ v Z' H', Step [] Z0 H Z' H' → ((yList yInt)).r Z' v y → Q v H'
set_option maxHeartbeats 4000000 in
theorem ok_numbers_code (T : Txt K mg) : FnOk P w K mg base CX0 1 T.f_numbers_code T.d_numbers_code ["numbers"] (sp_numbers_code T) := by
  refine T.F_numbers_code.ok sc_numbers_code (fun vs H Q E h => ?_) (fun cdv A outer s H vs Q E hr h => ?_)
  · obtain ⟨Z0, v_numbers, x_numbers, y, rfl, _⟩ := h
    rfl
  · obtain ⟨Z0, v_numbers, x_numbers, y, rfl, sz, h_numbers, hF, q⟩ := h
    refine ⟨_, (pss_one (ps_ret (pe_op op_cat (pe_lst (pa_cons (pe_callB call_len_seq (by rfl) T.m_len PySem.boot_len (pa_cons (pv 0) pa_nil)) pa_nil)) (pe_callTy call_list_of (by rfl) T.m_list (by decide +kernel) (pa_cons (pv 0) pa_nil))))), ?_⟩
    have P := Pt.start0 sz
    unfold F_numbers_code at hF
    obtain ⟨g_421, hF⟩ := guard_inv hF
    replace hF := Option.some.inj hF
    subst hF
    refine st_ret P (ev_fz (en_cat (ev_li (ev_fz (en_listD (eva_conss (ev_lenS (fun _ _ _ h => h) (ev_var (τ := (ySeq K yInt)) rfl h_numbers)) (eva_nils (τ := yInt))) (by show 1 ≤ sizeLine; decide)))) (ev_li (ev_fz (en_list_ofS (fun _ _ _ h => h) (ev_var (τ := (ySeq K yInt)) rfl h_numbers)))) g_421)) (fun v Z1 H1 P1 hv => ?_)
    exact q v _ _ P1.st hv
theorem cs_numbers_code (T : Txt K mg) {μ : Type} {M : Mu μ} {s : μ} {E : XK} {x_numbers : (List Int)} {y : (List Int)} (h : F_numbers_code x_numbers = some y) : CallS M (sp_numbers_code T) E (rac (ty (ySeq K yInt) x_numbers) ra0) s (ty (yList yInt) y) s := by
  rintro Z H vs sz m ⟨v_numbers, _, rfl, h_numbers, rfl⟩ Q q
  exact ⟨Z, v_numbers, x_numbers, y, rfl, sz, h_numbers, h, fun v Z2 H2 st hv => q v Z2 H2 st.pure (M.pure st m) hv⟩
def sp_string_code (T : Txt K mg) : Sp := fun vs H Q _ => ∃ (Z0 : Hp) (v_text : V) (x_text : Str) (y : (List Int)), vs = [v_text] ∧ (Same Z0 H) ∧ ((yStr).r Z0 v_text x_text) ∧ (F_string_code x_text = some y) ∧ ∀ v Z' H', Step [] Z0 H Z' H' → ((yList yInt)).r Z' v y → Q v H'
set_option maxHeartbeats 4000000 in
theorem ok_string_code (T : Txt K mg) : FnOk P w K mg base CX0 2 T.f_string_code T.d_string_code ["text"] (sp_string_code T) := by
  have G_numbers_code : FnOk P w K mg base CX0 1 T.f_numbers_code T.d_numbers_code ["numbers"] (sp_numbers_code T) := ok_numbers_code T
  refine T.F_string_code.ok sc_string_code (fun vs H Q E h => ?_) (fun cdv A outer s H vs Q E hr h => ?_)
  · obtain ⟨Z0, v_text, x_text, y, rfl, _⟩ := h
    rfl
  · obtain ⟨Z0, v_text, x_text, y, rfl, sz, h_text, hF, q⟩ := h
    refine ⟨_, (pss_one (ps_ret (pe_call G_numbers_code (hr.mono (by decide)) (by rfl) T.g_numbers_code T.F_numbers_code.kp T.b_numbers_code .nil pass0 (pa_cons (pe_lc (own := [("char", 1)]) (g := gName 1) rfl sc_string_code.nd (pi_str (pv 0)) (blkOk_by (own := [("char", 1)]) (N := ["text", "char"]) (sc := defScope s_string_code) (by decide +kernel)) (fun _ _ _ _ _ => (pg_name (i := 1) sc_string_code.nd rfl (Or.inl rfl))) (fun _ _ _ _ _ => pts_nil) (fun _ _ _ _ _ => (pe_callB call_ord (by rfl) T.m_ord (by decide +kernel) (pa_cons (pv 1) pa_nil)))) pa_nil)))), ?_⟩
    have P := Pt.start0 sz
    unfold F_string_code at hF
    obtain ⟨l_432, h_433, hF⟩ := bind_inv hF
    obtain ⟨r_434, h_435, hF⟩ := bind_inv hF
    replace hF := Option.some.inj hF
    subst hF
    refine st_ret P (ev_call (cs_numbers_code T h_435) (eva_cons (ev_seqL (ev_fz (en_mapO (υ := yInt) (fun (x_428 : Str) => (if x_428.length = 1 then
    some ((x_428.cps.getD 0 0 : Nat) : Int) else none : Option Int)) (ei_str (ev_var (τ := yStr) rfl h_text)) (fun x_428 v_429 Z' H' p zz hh rx_430 hp => by
          have hy := hp
          obtain ⟨g_431, hy⟩ := guard_inv hy
          have hy := Option.some.inj hy
          subst hy
          exact ⟨_, tgt_name, (wpe_s wpe_z (by decide)), (ev_ord (ev_var (τ := yStr) rfl rx_430) g_431)⟩) h_433))) eva_nil)) (fun v Z1 H1 P1 hv => ?_)
    exact q v _ _ P1.st hv
theorem cs_string_code (T : Txt K mg) {μ : Type} {M : Mu μ} {s : μ} {E : XK} {x_text : Str} {y : (List Int)} (h : F_string_code x_text = some y) : CallS M (sp_string_code T) E (rac (ty yStr x_text) ra0) s (ty (yList yInt) y) s := by
  rintro Z H vs sz m ⟨v_text, _, rfl, h_text, rfl⟩ Q q
  exact ⟨Z, v_text, x_text, y, rfl, sz, h_text, h, fun v Z2 H2 st hv => q v Z2 H2 st.pure (M.pure st m) hv⟩
def sp_kind_of_value (T : Txt K mg) : Sp := fun vs H Q _ => ∃ (Z0 : Hp) (v_worth : V) (x_worth : Val), vs = [v_worth] ∧ (Same Z0 H) ∧ (((y_Val T)).r Z0 v_worth x_worth) ∧ ∀ v Z' H', Step [] Z0 H Z' H' → (yStr).r Z' v (F_kind_of_value x_worth) → Q v H'
set_option maxHeartbeats 4000000 in
theorem ok_kind_of_value (T : Txt K mg) : FnOk P w K mg base CX0 1 T.f_kind_of_value T.d_kind_of_value ["worth"] (sp_kind_of_value T) := by
  refine T.F_kind_of_value.ok sc_kind_of_value (fun vs H Q E h => ?_) (fun cdv A outer s H vs Q E hr h => ?_)
  · obtain ⟨Z0, v_worth, x_worth, rfl, _⟩ := h
    rfl
  · obtain ⟨Z0, v_worth, x_worth, rfl, sz, h_worth, q⟩ := h
    refine ⟨_, (pss_cons (ps_if (pt_val (pe_callB call_isi (by rfl) T.m_isinstance (by decide +kernel) (pa_cons (pv 0) (pa_cons (pe_bltn (v := .ty "bool") (u := .type "bool") (by rfl) T.m_bool (by decide +kernel) rfl) pa_nil)))) (pss_one (ps_ret pe_str)) pss_nil) 
      (pss_cons (ps_if (pt_val (pe_callB call_isi (by rfl) T.m_isinstance (by decide +kernel) (pa_cons (pv 0) (pa_cons (pe_bltn (v := .ty "int") (u := .type "int") (by rfl) T.m_int (by decide +kernel) rfl) pa_nil)))) (pss_one (ps_ret pe_str)) pss_nil) 
      (pss_one (ps_ret pe_str)))), ?_⟩
    have P := Pt.start0 sz
    generalize hF : F_kind_of_value x_worth = y at q
    unfold F_kind_of_value at hF
    refine st_seq (st_if P (et_val (ev_isi (b := x_worth.is_bool) (fun _ _ _ h => h) (ev_var (τ := (y_Val T)) rfl h_worth) (tx_Val T) (.ty _) (kit_Val_bool T _))) (fun b_436 Z1 H1 e P1 => ?_) (fun b_436 Z1 H1 e P1 => ?_))
    · replace P := P1
      have hB := ifT b_436 hF
      replace hF := hB
      clear hB
      subst hF
      refine st_ret P ev_str (fun v Z1 H1 P1 hv => ?_)
      exact q v _ _ P1.st hv
    · replace P := P1
      have hB := ifF b_436 hF
      replace hF := hB
      clear hB
      refine st_next0 ?_
      replace h_worth := ((y_Val T)).mono e.z h_worth
      refine st_seq (st_if P (et_val (ev_isi (b := x_worth.is_int) (fun _ _ _ h => h) (ev_var (τ := (y_Val T)) rfl h_worth) (tx_Val T) (.ty _) (kit_Val_int T _))) (fun b_437 Z1 H1 e P1 => ?_) (fun b_437 Z1 H1 e P1 => ?_))
      · replace P := P1
        have hB := ifT b_437 hF
        replace hF := hB
        clear hB
        subst hF
        refine st_ret P ev_str (fun v Z1 H1 P1 hv => ?_)
        exact q v _ _ P1.st hv
      · replace P := P1
        have hB := ifF b_437 hF
        replace hF := hB
        clear hB
        refine st_next0 ?_
        subst hF
        refine st_ret P ev_str (fun v Z1 H1 P1 hv => ?_)
        exact q v _ _ P1.st hv
theorem cs_kind_of_value (T : Txt K mg) {μ : Type} {M : Mu μ} {s : μ} {E : XK} {x_worth : Val} : CallS M (sp_kind_of_value T) E (rac (ty (y_Val T) x_worth) ra0) s (ty yStr (F_kind_of_value x_worth)) s := by
  rintro Z H vs sz m ⟨v_worth, _, rfl, h_worth, rfl⟩ Q q
  exact ⟨Z, v_worth, x_worth, rfl, sz, h_worth, fun v Z2 H2 st hv => q v Z2 H2 st.pure (M.pure st m) hv⟩
def sp_value_code (T : Txt K mg) : Sp := fun vs H Q _ => ∃ (Z0 : Hp) (v_worth : V) (x_worth : Val) (y : (List Int)), vs = [v_worth] ∧ (Same Z0 H) ∧ (((y_Val T)).r Z0 v_worth x_worth) ∧ (F_value_code x_worth = some y) ∧ ∀ v Z' H', Step [] Z0 H Z' H' → ((yList yInt)).r Z' v y → Q v H'
set_option maxHeartbeats 4000000 in
theorem ok_value_code (T : Txt K mg) : FnOk P w K mg base CX0 3 T.f_value_code T.d_value_code ["worth"] (sp_value_code T) := by
  have G_string_code : FnOk P w K mg base CX0 2 T.f_string_code T.d_string_code ["text"] (sp_string_code T) := ok_string_code T
  have G_kind_of_value : FnOk P w K mg base CX0 1 T.f_kind_of_value T.d_kind_of_value ["worth"] (sp_kind_of_value T) := ok_kind_of_value T
  refine T.F_value_code.ok sc_value_code (fun vs H Q E h => ?_) (fun cdv A outer s H vs Q E hr h => ?_)
  · obtain ⟨Z0, v_worth, x_worth, y, rfl, _⟩ := h
    rfl
  · obtain ⟨Z0, v_worth, x_worth, y, rfl, sz, h_worth, hF, q⟩ := h
    refine ⟨_, (pss_cons (ps_set (i := 1) sc_value_code.nd rfl (.inl rfl) (pe_call G_kind_of_value (hr.mono (by decide)) (by rfl) T.g_kind_of_value T.F_kind_of_value.kp T.b_kind_of_value .nil pass0 (pa_cons (pv 0) pa_nil))) 
      (pss_cons (ps_if (pt_cmpR op_eq (pv 1) pe_str (nomark _)) (pss_one (ps_ret (pe_lst (pa_cons pe_int (pa_cons (pv 0) pa_nil))))) pss_nil) 
      (pss_cons (ps_if (pt_cmpR op_eq (pv 1) pe_str (nomark _)) (pss_one (ps_ret (pe_op op_cat (pe_lst (pa_cons pe_int pa_nil)) (pe_call G_string_code (hr.mono (by decide)) (by rfl) T.g_string_code T.F_string_code.kp T.b_string_code .nil pass0 (pa_cons (pv 0) pa_nil))))) pss_nil) 
      (pss_one (ps_ret (pe_lst (pa_cons pe_int (pa_cons (pe_ifExp (pt_val (pv 0)) pe_int pe_int) pa_nil)))))))), ?_⟩
    have P := Pt.start0 sz
    unfold F_value_code at hF
    refine st_seq (st_set P (ev_call (cs_kind_of_value T) (eva_cons (ev_var (τ := (y_Val T)) rfl h_worth) eva_nil)) (fun v_443 Z1 H1 e P1 k_444 => ?_))
    refine st_nx ?_
    replace P := P1
    replace h_worth := ((y_Val T)).mono e.z h_worth
    refine st_seq (st_if P (et_cmp (ev_eq flat_str (ev_var (τ := yStr) rfl k_444) ev_str)) (fun b_445 Z1 H1 e P1 => ?_) (fun b_445 Z1 H1 e P1 => ?_))
    · replace P := P1
      have hB := ifT b_445 hF
      replace hF := hB
      clear hB
      replace h_worth := ((y_Val T)).mono e.z h_worth
      obtain ⟨u_446, h_447, hF⟩ := bind_inv hF
      replace hF := Option.some.inj hF
      subst hF
      refine st_ret P (ev_fz (en_listD (eva_conss ev_int (eva_conss (pj_Val_i T (ev_var (τ := (y_Val T)) rfl h_worth) h_447) (eva_nils (τ := yInt)))) (by show 2 ≤ sizeLine; decide))) (fun v Z1 H1 P1 hv => ?_)
      exact q v _ _ P1.st hv
    · replace P := P1
      have hB := ifF b_445 hF
      replace hF := hB
      clear hB
      refine st_next0 ?_
      replace h_worth := ((y_Val T)).mono e.z h_worth
      refine st_seq (st_if P (et_cmp (ev_eq flat_str (ev_var (τ := yStr) rfl k_444) ev_str)) (fun b_448 Z1 H1 e P1 => ?_) (fun b_448 Z1 H1 e P1 => ?_))
      · replace P := P1
        have hB := ifT b_448 hF
        replace hF := hB
        clear hB
        replace h_worth := ((y_Val T)).mono e.z h_worth
        obtain ⟨u_449, h_450, hF⟩ := bind_inv hF
        obtain ⟨r_451, h_452, hF⟩ := bind_inv hF
        obtain ⟨g_453, hF⟩ := guard_inv hF
        replace hF := Option.some.inj hF
        subst hF
        refine st_ret P (ev_fz (en_cat (ev_li (ev_fz (en_listD (eva_conss ev_int (eva_nils (τ := yInt))) (by show 1 ≤ sizeLine; decide)))) (ev_li (ev_call (cs_string_code T h_452) (eva_cons (pj_Val_s T (ev_var (τ := (y_Val T)) rfl h_worth) h_450) eva_nil))) g_453)) (fun v Z1 H1 P1 hv => ?_)
        exact q v _ _ P1.st hv
      · replace P := P1
        have hB := ifF b_448 hF
        replace hF := hB
        clear hB
        refine st_next0 ?_
        replace h_worth := ((y_Val T)).mono e.z h_worth
        obtain ⟨u_454, h_455, hF⟩ := bind_inv hF
        replace hF := Option.some.inj hF
        subst hF
        refine st_ret P (ev_fz (en_listD (eva_conss ev_int (eva_conss (ev_if0 (et_val (pj_Val_b T (ev_var (τ := (y_Val T)) rfl h_worth) h_455)) ev_int ev_int) (eva_nils (τ := yInt)))) (by show 2 ≤ sizeLine; decide))) (fun v Z1 H1 P1 hv => ?_)
        exact q v _ _ P1.st hv
theorem cs_value_code (T : Txt K mg) {μ : Type} {M : Mu μ} {s : μ} {E : XK} {x_worth : Val} {y : (List Int)} (h : F_value_code x_worth = some y) : CallS M (sp_value_code T) E (rac (ty (y_Val T) x_worth) ra0) s (ty (yList yInt) y) s := by
  rintro Z H vs sz m ⟨v_worth, _, rfl, h_worth, rfl⟩ Q q
  exact ⟨Z, v_worth, x_worth, y, rfl, sz, h_worth, h, fun v Z2 H2 st hv => q v Z2 H2 st.pure (M.pure st m) hv⟩
def sp_maybe_code (T : Txt K mg) : Sp := fun vs H Q _ => ∃ (Z0 : Hp) (v_code : V) (x_code : (Option (List Int))) (y : (List Int)), vs = [v_code] ∧ (Same Z0 H) ∧ (((yOpt (yList yInt))).r Z0 v_code x_code) ∧ (F_maybe_code x_code = some y) ∧ ∀ v Z' H', Step [] Z0 H Z' H' → ((yList yInt)).r Z' v y → Q v H'
set_option maxHeartbeats 4000000 in
theorem ok_maybe_code (T : Txt K mg) : FnOk P w K mg base CX0 1 T.f_maybe_code T.d_maybe_code ["code"] (sp_maybe_code T) := by
  refine T.F_maybe_code.ok sc_maybe_code (fun vs H Q E h => ?_) (fun cdv A outer s H vs Q E hr h => ?_)
  · obtain ⟨Z0, v_code, x_code, y, rfl, _⟩ := h
    rfl
  · obtain ⟨Z0, v_code, x_code, y, rfl, sz, h_code, hF, q⟩ := h
    refine ⟨_, (pss_cons (ps_if (pt_cmpR op_isN (pv 0) pe_non (nomark _)) (pss_one (ps_ret (pe_lst (pa_cons pe_int pa_nil)))) pss_nil) 
      (pss_one (ps_ret (pe_op op_cat (pe_lst (pa_cons pe_int pa_nil)) (pv 0))))), ?_⟩
    have P := Pt.start0 sz
    unfold F_maybe_code at hF
    refine st_seq (st_if P (et_cmp (ev_isN (ev_var (τ := (yOpt (yList yInt))) rfl h_code) ev_non)) (fun b_460 Z1 H1 e P1 => ?_) (fun b_460 Z1 H1 e P1 => ?_))
    · replace P := P1
      have hB := ifT b_460 hF
      replace hF := hB
      clear hB
      replace hF := Option.some.inj hF
      subst hF
      refine st_ret P (ev_fz (en_listD (eva_conss ev_int (eva_nils (τ := yInt))) (by show 1 ≤ sizeLine; decide))) (fun v Z1 H1 P1 hv => ?_)
      exact q v _ _ P1.st hv
    · replace P := P1
      have hB := ifF b_460 hF
      replace hF := hB
      clear hB
      refine st_next0 ?_
      replace h_code := ((yOpt (yList yInt))).mono e.z h_code
      obtain ⟨u_461, h_462, hF⟩ := bind_inv hF
      obtain ⟨g_463, hF⟩ := guard_inv hF
      replace hF := Option.some.inj hF
      subst hF
      refine st_ret P (ev_fz (en_cat (ev_li (ev_fz (en_listD (eva_conss ev_int (eva_nils (τ := yInt))) (by show 1 ≤ sizeLine; decide)))) (ev_li (ev_uno (ev_var (τ := (yOpt (yList yInt))) rfl h_code) h_462)) g_463)) (fun v Z1 H1 P1 hv => ?_)
      exact q v _ _ P1.st hv
theorem cs_maybe_code (T : Txt K mg) {μ : Type} {M : Mu μ} {s : μ} {E : XK} {x_code : (Option (List Int))} {y : (List Int)} (h : F_maybe_code x_code = some y) : CallS M (sp_maybe_code T) E (rac (ty (yOpt (yList yInt)) x_code) ra0) s (ty (yList yInt) y) s := by
  rintro Z H vs sz m ⟨v_code, _, rfl, h_code, rfl⟩ Q q
  exact ⟨Z, v_code, x_code, y, rfl, sz, h_code, h, fun v Z2 H2 st hv => q v Z2 H2 st.pure (M.pure st m) hv⟩
def sp_words_code (T : Txt K mg) : Sp := fun vs H Q _ => ∃ (Z0 : Hp) (v_words : V) (x_words : (List (Str × Int))) (y : (List Int)), vs = [v_words] ∧ (Same Z0 H) ∧ (((yTup K (yP2 K yStr yInt))).r Z0 v_words x_words) ∧ (F_words_code x_words = some y) ∧ ∀ v Z' H', Step [] Z0 H Z' H' → ((yList yInt)).r Z' v y → Q v H'
set_option maxHeartbeats 4000000 in
theorem ok_words_code (T : Txt K mg) : FnOk P w K mg base CX0 3 T.f_words_code T.d_words_code ["words"] (sp_words_code T) := by
  have G_string_code : FnOk P w K mg base CX0 2 T.f_string_code T.d_string_code ["text"] (sp_string_code T) := ok_string_code T
  have G_list_code : FnOk P w K mg base CX0 1 T.f_list_code T.d_list_code ["codes"] (sp_list_code T) := ok_list_code T
  refine T.F_words_code.ok sc_words_code (fun vs H Q E h => ?_) (fun cdv A outer s H vs Q E hr h => ?_)
  · obtain ⟨Z0, v_words, x_words, y, rfl, _⟩ := h
    rfl
  · obtain ⟨Z0, v_words, x_words, y, rfl, sz, h_words, hF, q⟩ := h
    refine ⟨_, (pss_one (ps_ret (pe_call G_list_code (hr.mono (by decide)) (by rfl) T.g_list_code T.F_list_code.kp T.b_list_code .nil pass0 (pa_cons (pe_lc (own := [("word", 1), ("count", 2)]) (g := gTup K 2 (gCons (gName 1) (gCons (gName 2) gNil))) rfl sc_words_code.nd (pi_tup (pv 0)) (blkOk_by (own := [("word", 1), ("count", 2)]) (N := ["words", "word", "count"]) (sc := defScope s_words_code) (by decide +kernel)) (fun _ _ _ _ _ => (by exact (pg_tup rfl (pgs_cons (pg_name (i := 1) sc_words_code.nd rfl (Or.inl rfl)) (pgs_cons (pg_name (i := 2) sc_words_code.nd rfl (Or.inl rfl)) pgs_nil))))) (fun _ _ _ _ _ => pts_nil) (fun _ _ _ _ _ => (pe_op op_cat (pe_call G_string_code (hr.mono (by decide)) (by rfl) T.g_string_code T.F_string_code.kp T.b_string_code .nil pass0 (pa_cons (pv 1) pa_nil)) (pe_lst (pa_cons (pv 2) pa_nil))))) pa_nil)))), ?_⟩
    have P := Pt.start0 sz
    unfold F_words_code at hF
    obtain ⟨l_492, h_493, hF⟩ := bind_inv hF
    obtain ⟨r_494, h_495, hF⟩ := bind_inv hF
    replace hF := Option.some.inj hF
    subst hF
    refine st_ret P (ev_call (cs_list_code T h_495) (eva_cons (ev_fz (en_mapO (υ := (yList yInt)) (fun (x_479 : (Str × Int)) => ((F_string_code x_479.1).bind fun r_489 =>
    if r_489.length + ([x_479.2] : List Int).length ≤ 16777216 then
    some (r_489 ++ ([x_479.2] : List Int)) else none : Option (List Int))) (ei_tup (ev_var (τ := (yTup K (yP2 K yStr yInt))) rfl h_words)) (fun x_479 v_480 Z' H' p zz hh rx_481 hp => by
          obtain ⟨v_482, v_483, k_484, k_485, tg_486⟩ := tgt_p2 rx_481
          have hy := hp
          obtain ⟨r_489, h_490, hy⟩ := bind_inv hy
          obtain ⟨g_491, hy⟩ := guard_inv hy
          have hy := Option.some.inj hy
          subst hy
          exact ⟨_, (tg_486 tgt_name tgt_name), (wpe_s (wpe_s wpe_z (by decide)) (by decide)), (ev_fz (en_cat (ev_li (ev_call (cs_string_code T h_490) (eva_cons (ev_var (τ := yStr) rfl k_484) eva_nil))) (ev_li (ev_fz (en_listD (eva_conss (ev_var (τ := yInt) rfl k_485) (eva_nils (τ := yInt))) (by show 1 ≤ sizeLine; decide)))) g_491))⟩) h_493)) eva_nil)) (fun v Z1 H1 P1 hv => ?_)
    exact q v _ _ P1.st hv
theorem cs_words_code (T : Txt K mg) {μ : Type} {M : Mu μ} {s : μ} {E : XK} {x_words : (List (Str × Int))} {y : (List Int)} (h : F_words_code x_words = some y) : CallS M (sp_words_code T) E (rac (ty (yTup K (yP2 K yStr yInt)) x_words) ra0) s (ty (yList yInt) y) s := by
  rintro Z H vs sz m ⟨v_words, _, rfl, h_words, rfl⟩ Q q
  exact ⟨Z, v_words, x_words, y, rfl, sz, h_words, h, fun v Z2 H2 st hv => q v Z2 H2 st.pure (M.pure st m) hv⟩
def sp_part_code (T : Txt K mg) : Sp := fun vs H Q _ => ∃ (Z0 : Hp) (v_part : V) (x_part : Part) (y : (List Int)), vs = [v_part] ∧ (Same Z0 H) ∧ (((y_Part T)).r Z0 v_part x_part) ∧ (F_part_code x_part = some y) ∧ ∀ v Z' H', Step [] Z0 H Z' H' → ((yList yInt)).r Z' v y → Q v H'
set_option maxHeartbeats 4000000 in
theorem ok_part_code (T : Txt K mg) : FnOk P w K mg base CX0 2 T.f_part_code T.d_part_code ["part"] (sp_part_code T) := by
  have G_numbers_code : FnOk P w K mg base CX0 1 T.f_numbers_code T.d_numbers_code ["numbers"] (sp_numbers_code T) := ok_numbers_code T
  refine T.F_part_code.ok sc_part_code (fun vs H Q E h => ?_) (fun cdv A outer s H vs Q E hr h => ?_)
  · obtain ⟨Z0, v_part, x_part, y, rfl, _⟩ := h
    rfl
  · obtain ⟨Z0, v_part, x_part, y, rfl, sz, h_part, hF, q⟩ := h
    refine ⟨_, (pss_one (ps_ret (pe_op op_cat (pe_op op_cat (pe_lst (pa_cons (pe_fld (pv 0) rfl) pa_nil)) (pe_call G_numbers_code (hr.mono (by decide)) (by rfl) T.g_numbers_code T.F_numbers_code.kp T.b_numbers_code .nil pass0 (pa_cons (pe_fld (pv 0) rfl) pa_nil))) (pe_lst (pa_cons (pe_fld (pv 0) rfl) pa_nil))))), ?_⟩
    have P := Pt.start0 sz
    unfold F_part_code at hF
    obtain ⟨r_506, h_507, hF⟩ := bind_inv hF
    obtain ⟨g_508, hF⟩ := guard_inv hF
    obtain ⟨g_509, hF⟩ := guard_inv hF
    replace hF := Option.some.inj hF
    subst hF
    refine st_ret P (ev_fz (en_cat (ev_li (ev_fz (en_cat (ev_li (ev_fz (en_listD (eva_conss (ev_fld (fo_Part_start T) T.cl_Part T.n_Part_start (ev_var (τ := (y_Part T)) rfl h_part)) (eva_nils (τ := yInt))) (by show 1 ≤ sizeLine; decide)))) (ev_li (ev_call (cs_numbers_code T h_507) (eva_cons (ev_seqT (ev_fld (fo_Part_centre T) T.cl_Part T.n_Part_centre (ev_var (τ := (y_Part T)) rfl h_part))) eva_nil))) g_508))) (ev_li (ev_fz (en_listD (eva_conss (ev_fld (fo_Part_radius T) T.cl_Part T.n_Part_radius (ev_var (τ := (y_Part T)) rfl h_part)) (eva_nils (τ := yInt))) (by show 1 ≤ sizeLine; decide)))) g_509)) (fun v Z1 H1 P1 hv => ?_)
    exact q v _ _ P1.st hv
theorem cs_part_code (T : Txt K mg) {μ : Type} {M : Mu μ} {s : μ} {E : XK} {x_part : Part} {y : (List Int)} (h : F_part_code x_part = some y) : CallS M (sp_part_code T) E (rac (ty (y_Part T) x_part) ra0) s (ty (yList yInt) y) s := by
  rintro Z H vs sz m ⟨v_part, _, rfl, h_part, rfl⟩ Q q
  exact ⟨Z, v_part, x_part, y, rfl, sz, h_part, h, fun v Z2 H2 st hv => q v Z2 H2 st.pure (M.pure st m) hv⟩
def sp_fact_code (T : Txt K mg) : Sp := fun vs H Q _ => ∃ (Z0 : Hp) (v_fact : V) (x_fact : Fact) (y : (List Int)), vs = [v_fact] ∧ (Same Z0 H) ∧ (((y_Fact T)).r Z0 v_fact x_fact) ∧ (F_fact_code x_fact = some y) ∧ ∀ v Z' H', Step [] Z0 H Z' H' → ((yList yInt)).r Z' v y → Q v H'
set_option maxHeartbeats 4000000 in
theorem ok_fact_code (T : Txt K mg) : FnOk P w K mg base CX0 4 T.f_fact_code T.d_fact_code ["fact"] (sp_fact_code T) := by
  have G_string_code : FnOk P w K mg base CX0 2 T.f_string_code T.d_string_code ["text"] (sp_string_code T) := ok_string_code T
  have G_words_code : FnOk P w K mg base CX0 3 T.f_words_code T.d_words_code ["words"] (sp_words_code T) := ok_words_code T
  have G_value_code : FnOk P w K mg base CX0 3 T.f_value_code T.d_value_code ["worth"] (sp_value_code T) := ok_value_code T
  have G_list_code : FnOk P w K mg base CX0 1 T.f_list_code T.d_list_code ["codes"] (sp_list_code T) := ok_list_code T
  have G_numbers_code : FnOk P w K mg base CX0 1 T.f_numbers_code T.d_numbers_code ["numbers"] (sp_numbers_code T) := ok_numbers_code T
  have G_part_code : FnOk P w K mg base CX0 2 T.f_part_code T.d_part_code ["part"] (sp_part_code T) := ok_part_code T
  refine T.F_fact_code.ok sc_fact_code (fun vs H Q E h => ?_) (fun cdv A outer s H vs Q E hr h => ?_)
  · obtain ⟨Z0, v_fact, x_fact, y, rfl, _⟩ := h
    rfl
  · obtain ⟨Z0, v_fact, x_fact, y, rfl, sz, h_fact, hF, q⟩ := h
    refine ⟨_, (pss_cons (ps_if (pt_val (pe_callB call_isi (by rfl) T.m_isinstance (by decide +kernel) (pa_cons (pv 0) (pa_cons (pe_glob (v := .ref T.c_Parts) rfl T.mc_Parts rfl) pa_nil)))) (pss_one (ps_ret (pe_op op_cat (pe_lst (pa_cons (pe_glob (v := .int 1) rfl T.m_PARTS.choose_spec ⟨_, rfl⟩) pa_nil)) (pe_call G_list_code (hr.mono (by decide)) (by rfl) T.g_list_code T.F_list_code.kp T.b_list_code .nil pass0 (pa_cons (pe_lc (own := [("part", 1)]) (g := gName 1) rfl sc_fact_code.nd (pi_tup (pe_fld (pv 0) rfl)) (blkOk_by (own := [("part", 1)]) (N := ["fact", "part", "choices", "worth"]) (sc := defScope s_fact_code) (by decide +kernel)) (fun _ _ _ _ _ => (pg_name (i := 1) sc_fact_code.nd rfl (Or.inl rfl))) (fun _ _ _ _ _ => pts_nil) (fun _ _ _ _ _ => (pe_call G_part_code (hr.mono (by decide)) (by rfl) T.g_part_code T.F_part_code.kp T.b_part_code .nil pass0 (pa_cons (pv 1) pa_nil)))) pa_nil))))) pss_nil) 
      (pss_cons (ps_if (pt_val (pe_callB call_isi (by rfl) T.m_isinstance (by decide +kernel) (pa_cons (pv 0) (pa_cons (pe_glob (v := .ref T.c_Cell) rfl T.mc_Cell rfl) pa_nil)))) (pss_one (ps_ret (pe_op op_cat (pe_op op_cat (pe_lst (pa_cons (pe_glob (v := .int 2) rfl T.m_CELL.choose_spec ⟨_, rfl⟩) pa_nil)) (pe_call G_numbers_code (hr.mono (by decide)) (by rfl) T.g_numbers_code T.F_numbers_code.kp T.b_numbers_code .nil pass0 (pa_cons (pe_fld (pv 0) rfl) pa_nil))) (pe_call G_numbers_code (hr.mono (by decide)) (by rfl) T.g_numbers_code T.F_numbers_code.kp T.b_numbers_code .nil pass0 (pa_cons (pe_fld (pv 0) rfl) pa_nil))))) pss_nil) 
      (pss_cons (ps_if (pt_val (pe_callB call_isi (by rfl) T.m_isinstance (by decide +kernel) (pa_cons (pv 0) (pa_cons (pe_glob (v := .ref T.c_Box) rfl T.mc_Box rfl) pa_nil)))) (pss_one (ps_ret (pe_op op_cat (pe_op op_cat (pe_lst (pa_cons (pe_glob (v := .int 3) rfl T.m_BOX.choose_spec ⟨_, rfl⟩) pa_nil)) (pe_call G_numbers_code (hr.mono (by decide)) (by rfl) T.g_numbers_code T.F_numbers_code.kp T.b_numbers_code .nil pass0 (pa_cons (pe_fld (pv 0) rfl) pa_nil))) (pe_call G_numbers_code (hr.mono (by decide)) (by rfl) T.g_numbers_code T.F_numbers_code.kp T.b_numbers_code .nil pass0 (pa_cons (pe_fld (pv 0) rfl) pa_nil))))) pss_nil) 
      (pss_cons (ps_if (pt_val (pe_callB call_isi (by rfl) T.m_isinstance (by decide +kernel) (pa_cons (pv 0) (pa_cons (pe_glob (v := .ref T.c_Norms) rfl T.mc_Norms rfl) pa_nil)))) (pss_one (ps_ret (pe_lst (pa_cons (pe_glob (v := .int 4) rfl T.m_NORMS.choose_spec ⟨_, rfl⟩) (pa_cons (pe_fld (pv 0) rfl) (pa_cons (pe_fld (pv 0) rfl) pa_nil)))))) pss_nil) 
      (pss_cons (ps_if (pt_val (pe_callB call_isi (by rfl) T.m_isinstance (by decide +kernel) (pa_cons (pv 0) (pa_cons (pe_glob (v := .ref T.c_Differ) rfl T.mc_Differ rfl) pa_nil)))) (pss_one (ps_ret (pe_op op_cat (pe_op op_cat (pe_lst (pa_cons (pe_glob (v := .int 5) rfl T.m_DIFFER.choose_spec ⟨_, rfl⟩) pa_nil)) (pe_call G_numbers_code (hr.mono (by decide)) (by rfl) T.g_numbers_code T.F_numbers_code.kp T.b_numbers_code .nil pass0 (pa_cons (pe_fld (pv 0) rfl) pa_nil))) (pe_lst (pa_cons (pe_fld (pv 0) rfl) pa_nil))))) pss_nil) 
      (pss_cons (ps_if (pt_val (pe_callB call_isi (by rfl) T.m_isinstance (by decide +kernel) (pa_cons (pv 0) (pa_cons (pe_glob (v := .ref T.c_Range) rfl T.mc_Range rfl) pa_nil)))) (pss_one (ps_ret (pe_op op_cat (pe_op op_cat (pe_lst (pa_cons (pe_glob (v := .int 6) rfl T.m_RANGE.choose_spec ⟨_, rfl⟩) pa_nil)) (pe_call G_string_code (hr.mono (by decide)) (by rfl) T.g_string_code T.F_string_code.kp T.b_string_code .nil pass0 (pa_cons (pe_fld (pv 0) rfl) pa_nil))) (pe_lst (pa_cons (pe_fld (pv 0) rfl) (pa_cons (pe_fld (pv 0) rfl) (pa_cons (pe_bm PySem.F.plainAttrs_tuple PySem.F.slot_tuple_index PySem.F.type_tuple_index mt_tup_index (pe_glob (v := .ref T.a_LACKS) rfl T.m_LACKS rfl) (pa_cons (pe_fld (pv 0) rfl) pa_nil)) pa_nil))))))) pss_nil) 
      (pss_cons (ps_if (pt_val (pe_callB call_isi (by rfl) T.m_isinstance (by decide +kernel) (pa_cons (pv 0) (pa_cons (pe_glob (v := .ref T.c_Values) rfl T.mc_Values rfl) pa_nil)))) (pss_cons (ps_set (i := 2) sc_fact_code.nd rfl (.inl rfl) (pe_call G_list_code (hr.mono (by decide)) (by rfl) T.g_list_code T.F_list_code.kp T.b_list_code .nil pass0 (pa_cons (pe_lc (own := [("worth", 3)]) (g := gName 3) rfl sc_fact_code.nd (pi_tup (pe_fld (pv 0) rfl)) (blkOk_by (own := [("worth", 3)]) (N := ["fact", "part", "choices", "worth"]) (sc := defScope s_fact_code) (by decide +kernel)) (fun _ _ _ _ _ => (pg_name (i := 3) sc_fact_code.nd rfl (Or.inl rfl))) (fun _ _ _ _ _ => pts_nil) (fun _ _ _ _ _ => (pe_call G_value_code (hr.mono (by decide)) (by rfl) T.g_value_code T.F_value_code.kp T.b_value_code .nil pass0 (pa_cons (pv 3) pa_nil)))) pa_nil))) 
      (pss_one (ps_ret (pe_op op_cat (pe_op op_cat (pe_op op_cat (pe_lst (pa_cons (pe_glob (v := .int 7) rfl T.m_VALUES.choose_spec ⟨_, rfl⟩) pa_nil)) (pe_call G_string_code (hr.mono (by decide)) (by rfl) T.g_string_code T.F_string_code.kp T.b_string_code .nil pass0 (pa_cons (pe_fld (pv 0) rfl) pa_nil))) (pv 2)) (pe_lst (pa_cons (pe_bm PySem.F.plainAttrs_tuple PySem.F.slot_tuple_index PySem.F.type_tuple_index mt_tup_index (pe_glob (v := .ref T.a_LACKS) rfl T.m_LACKS rfl) (pa_cons (pe_fld (pv 0) rfl) pa_nil)) pa_nil)))))) pss_nil) 
      (pss_cons (ps_if (pt_val (pe_callB call_isi (by rfl) T.m_isinstance (by decide +kernel) (pa_cons (pv 0) (pa_cons (pe_glob (v := .ref T.c_Counts) rfl T.mc_Counts rfl) pa_nil)))) (pss_one (ps_ret (pe_op op_cat (pe_lst (pa_cons (pe_glob (v := .int 8) rfl T.m_COUNTS.choose_spec ⟨_, rfl⟩) pa_nil)) (pe_call G_words_code (hr.mono (by decide)) (by rfl) T.g_words_code T.F_words_code.kp T.b_words_code .nil pass0 (pa_cons (pe_fld (pv 0) rfl) pa_nil))))) pss_nil) 
      (pss_one (ps_ret (pe_op op_cat (pe_op op_cat (pe_lst (pa_cons (pe_glob (v := .int 9) rfl T.m_NAMES.choose_spec ⟨_, rfl⟩) pa_nil)) (pe_call G_string_code (hr.mono (by decide)) (by rfl) T.g_string_code T.F_string_code.kp T.b_string_code .nil pass0 (pa_cons (pe_fld (pv 0) rfl) pa_nil))) (pe_call G_string_code (hr.mono (by decide)) (by rfl) T.g_string_code T.F_string_code.kp T.b_string_code .nil pass0 (pa_cons (pe_fld (pv 0) rfl) pa_nil))))))))))))), ?_⟩
    have P := Pt.start0 sz
    unfold F_fact_code at hF
    refine st_seq (st_if P (et_val (ev_isi (b := x_fact.is_Parts) (fun _ _ _ h => h) (ev_var (τ := (y_Fact T)) rfl h_fact) (tx_Fact T) (.own _) (kit_Fact_Parts T _))) (fun b_522 Z1 H1 e P1 => ?_) (fun b_522 Z1 H1 e P1 => ?_))
    · replace P := P1
      have hB := ifT b_522 hF
      replace hF := hB
      clear hB
      replace h_fact := ((y_Fact T)).mono e.z h_fact
      obtain ⟨u_525, h_526, hF⟩ := bind_inv hF
      obtain ⟨l_532, h_533, hF⟩ := bind_inv hF
      obtain ⟨r_534, h_535, hF⟩ := bind_inv hF
      obtain ⟨g_536, hF⟩ := guard_inv hF
      replace hF := Option.some.inj hF
      subst hF
      refine st_ret P (ev_fz (en_cat (ev_li (ev_fz (en_listD (eva_conss ev_int (eva_nils (τ := yInt))) (by show 1 ≤ sizeLine; decide)))) (ev_li (ev_call (cs_list_code T h_535) (eva_cons (ev_fz (en_mapO (υ := (yList yInt)) (fun (x_527 : Part) => ((F_part_code x_527).bind fun r_530 =>
      some r_530 : Option (List Int))) (ei_tup (ev_fld (fo_Parts_parts T) T.cl_Parts T.n_Parts_parts (pj_Fact_parts T (ev_var (τ := (y_Fact T)) rfl h_fact) h_526))) (fun x_527 v_528 Z' H' p zz hh rx_529 hp => by
            have hy := hp
            obtain ⟨r_530, h_531, hy⟩ := bind_inv hy
            have hy := Option.some.inj hy
            subst hy
            exact ⟨_, tgt_name, (wpe_s wpe_z (by decide)), (ev_call (cs_part_code T h_531) (eva_cons (ev_var (τ := (y_Part T)) rfl rx_529) eva_nil))⟩) h_533)) eva_nil))) g_536)) (fun v Z1 H1 P1 hv => ?_)
      exact q v _ _ P1.st hv
    · replace P := P1
      have hB := ifF b_522 hF
      replace hF := hB
      clear hB
      refine st_next0 ?_
      replace h_fact := ((y_Fact T)).mono e.z h_fact
      refine st_seq (st_if P (et_val (ev_isi (b := x_fact.is_Cell) (fun _ _ _ h => h) (ev_var (τ := (y_Fact T)) rfl h_fact) (tx_Fact T) (.own _) (kit_Fact_Cell T _))) (fun b_537 Z1 H1 e P1 => ?_) (fun b_537 Z1 H1 e P1 => ?_))
      · replace P := P1
        have hB := ifT b_537 hF
        replace hF := hB
        clear hB
        replace h_fact := ((y_Fact T)).mono e.z h_fact
        obtain ⟨u_543, h_544, hF⟩ := bind_inv hF
        obtain ⟨r_545, h_546, hF⟩ := bind_inv hF
        obtain ⟨g_547, hF⟩ := guard_inv hF
        obtain ⟨u_548, h_549, hF⟩ := bind_inv hF
        obtain ⟨r_550, h_551, hF⟩ := bind_inv hF
        obtain ⟨g_552, hF⟩ := guard_inv hF
        replace hF := Option.some.inj hF
        subst hF
        refine st_ret P (ev_fz (en_cat (ev_li (ev_fz (en_cat (ev_li (ev_fz (en_listD (eva_conss ev_int (eva_nils (τ := yInt))) (by show 1 ≤ sizeLine; decide)))) (ev_li (ev_call (cs_numbers_code T h_546) (eva_cons (ev_seqT (ev_fld (fo_Cell_near T) T.cl_Cell T.n_Cell_near (pj_Fact_cell T (ev_var (τ := (y_Fact T)) rfl h_fact) h_544))) eva_nil))) g_547))) (ev_li (ev_call (cs_numbers_code T h_551) (eva_cons (ev_seqT (ev_fld (fo_Cell_rival T) T.cl_Cell T.n_Cell_rival (pj_Fact_cell T (ev_var (τ := (y_Fact T)) rfl h_fact) h_549))) eva_nil))) g_552)) (fun v Z1 H1 P1 hv => ?_)
        exact q v _ _ P1.st hv
      · replace P := P1
        have hB := ifF b_537 hF
        replace hF := hB
        clear hB
        refine st_next0 ?_
        replace h_fact := ((y_Fact T)).mono e.z h_fact
        refine st_seq (st_if P (et_val (ev_isi (b := x_fact.is_Box) (fun _ _ _ h => h) (ev_var (τ := (y_Fact T)) rfl h_fact) (tx_Fact T) (.own _) (kit_Fact_Box T _))) (fun b_553 Z1 H1 e P1 => ?_) (fun b_553 Z1 H1 e P1 => ?_))
        · replace P := P1
          have hB := ifT b_553 hF
          replace hF := hB
          clear hB
          replace h_fact := ((y_Fact T)).mono e.z h_fact
          obtain ⟨u_559, h_560, hF⟩ := bind_inv hF
          obtain ⟨r_561, h_562, hF⟩ := bind_inv hF
          obtain ⟨g_563, hF⟩ := guard_inv hF
          obtain ⟨u_564, h_565, hF⟩ := bind_inv hF
          obtain ⟨r_566, h_567, hF⟩ := bind_inv hF
          obtain ⟨g_568, hF⟩ := guard_inv hF
          replace hF := Option.some.inj hF
          subst hF
          refine st_ret P (ev_fz (en_cat (ev_li (ev_fz (en_cat (ev_li (ev_fz (en_listD (eva_conss ev_int (eva_nils (τ := yInt))) (by show 1 ≤ sizeLine; decide)))) (ev_li (ev_call (cs_numbers_code T h_562) (eva_cons (ev_seqT (ev_fld (fo_Box_low T) T.cl_Box T.n_Box_low (pj_Fact_box T (ev_var (τ := (y_Fact T)) rfl h_fact) h_560))) eva_nil))) g_563))) (ev_li (ev_call (cs_numbers_code T h_567) (eva_cons (ev_seqT (ev_fld (fo_Box_high T) T.cl_Box T.n_Box_high (pj_Fact_box T (ev_var (τ := (y_Fact T)) rfl h_fact) h_565))) eva_nil))) g_568)) (fun v Z1 H1 P1 hv => ?_)
          exact q v _ _ P1.st hv
        · replace P := P1
          have hB := ifF b_553 hF
          replace hF := hB
          clear hB
          refine st_next0 ?_
          replace h_fact := ((y_Fact T)).mono e.z h_fact
          refine st_seq (st_if P (et_val (ev_isi (b := x_fact.is_Norms) (fun _ _ _ h => h) (ev_var (τ := (y_Fact T)) rfl h_fact) (tx_Fact T) (.own _) (kit_Fact_Norms T _))) (fun b_569 Z1 H1 e P1 => ?_) (fun b_569 Z1 H1 e P1 => ?_))
          · replace P := P1
            have hB := ifT b_569 hF
            replace hF := hB
            clear hB
            replace h_fact := ((y_Fact T)).mono e.z h_fact
            obtain ⟨u_570, h_571, hF⟩ := bind_inv hF
            obtain ⟨u_572, h_573, hF⟩ := bind_inv hF
            replace hF := Option.some.inj hF
            subst hF
            refine st_ret P (ev_fz (en_listD (eva_conss ev_int (eva_conss (ev_fld (fo_Norms_low T) T.cl_Norms T.n_Norms_low (pj_Fact_norms T (ev_var (τ := (y_Fact T)) rfl h_fact) h_571)) (eva_conss (ev_fld (fo_Norms_high T) T.cl_Norms T.n_Norms_high (pj_Fact_norms T (ev_var (τ := (y_Fact T)) rfl h_fact) h_573)) (eva_nils (τ := yInt))))) (by show 3 ≤ sizeLine; decide))) (fun v Z1 H1 P1 hv => ?_)
            exact q v _ _ P1.st hv
          · replace P := P1
            have hB := ifF b_569 hF
            replace hF := hB
            clear hB
            refine st_next0 ?_
            replace h_fact := ((y_Fact T)).mono e.z h_fact
            refine st_seq (st_if P (et_val (ev_isi (b := x_fact.is_Differ) (fun _ _ _ h => h) (ev_var (τ := (y_Fact T)) rfl h_fact) (tx_Fact T) (.own _) (kit_Fact_Differ T _))) (fun b_574 Z1 H1 e P1 => ?_) (fun b_574 Z1 H1 e P1 => ?_))
            · replace P := P1
              have hB := ifT b_574 hF
              replace hF := hB
              clear hB
              replace h_fact := ((y_Fact T)).mono e.z h_fact
              obtain ⟨u_580, h_581, hF⟩ := bind_inv hF
              obtain ⟨r_582, h_583, hF⟩ := bind_inv hF
              obtain ⟨g_584, hF⟩ := guard_inv hF
              obtain ⟨u_585, h_586, hF⟩ := bind_inv hF
              obtain ⟨g_587, hF⟩ := guard_inv hF
              replace hF := Option.some.inj hF
              subst hF
              refine st_ret P (ev_fz (en_cat (ev_li (ev_fz (en_cat (ev_li (ev_fz (en_listD (eva_conss ev_int (eva_nils (τ := yInt))) (by show 1 ≤ sizeLine; decide)))) (ev_li (ev_call (cs_numbers_code T h_583) (eva_cons (ev_seqT (ev_fld (fo_Differ_centre T) T.cl_Differ T.n_Differ_centre (pj_Fact_differ T (ev_var (τ := (y_Fact T)) rfl h_fact) h_581))) eva_nil))) g_584))) (ev_li (ev_fz (en_listD (eva_conss (ev_fld (fo_Differ_most T) T.cl_Differ T.n_Differ_most (pj_Fact_differ T (ev_var (τ := (y_Fact T)) rfl h_fact) h_586)) (eva_nils (τ := yInt))) (by show 1 ≤ sizeLine; decide)))) g_587)) (fun v Z1 H1 P1 hv => ?_)
              exact q v _ _ P1.st hv
            · replace P := P1
              have hB := ifF b_574 hF
              replace hF := hB
              clear hB
              refine st_next0 ?_
              replace h_fact := ((y_Fact T)).mono e.z h_fact
              refine st_seq (st_if P (et_val (ev_isi (b := x_fact.is_Range) (fun _ _ _ h => h) (ev_var (τ := (y_Fact T)) rfl h_fact) (tx_Fact T) (.own _) (kit_Fact_Range T _))) (fun b_588 Z1 H1 e P1 => ?_) (fun b_588 Z1 H1 e P1 => ?_))
              · replace P := P1
                have hB := ifT b_588 hF
                replace hF := hB
                clear hB
                replace h_fact := ((y_Fact T)).mono e.z h_fact
                obtain ⟨u_594, h_595, hF⟩ := bind_inv hF
                obtain ⟨r_596, h_597, hF⟩ := bind_inv hF
                obtain ⟨g_598, hF⟩ := guard_inv hF
                obtain ⟨u_599, h_600, hF⟩ := bind_inv hF
                obtain ⟨u_601, h_602, hF⟩ := bind_inv hF
                obtain ⟨u_603, h_604, hF⟩ := bind_inv hF
                obtain ⟨j_605, h_606, hF⟩ := bind_inv hF
                obtain ⟨g_607, hF⟩ := guard_inv hF
                replace hF := Option.some.inj hF
                subst hF
                refine st_ret P (ev_fz (en_cat (ev_li (ev_fz (en_cat (ev_li (ev_fz (en_listD (eva_conss ev_int (eva_nils (τ := yInt))) (by show 1 ≤ sizeLine; decide)))) (ev_li (ev_call (cs_string_code T h_597) (eva_cons (ev_fld (fo_Range_field T) T.cl_Range T.n_Range_field (pj_Fact_range T (ev_var (τ := (y_Fact T)) rfl h_fact) h_595)) eva_nil))) g_598))) (ev_li (ev_fz (en_listD (eva_conss (ev_fld (fo_Range_low T) T.cl_Range T.n_Range_low (pj_Fact_range T (ev_var (τ := (y_Fact T)) rfl h_fact) h_600)) (eva_conss (ev_fld (fo_Range_high T) T.cl_Range T.n_Range_high (pj_Fact_range T (ev_var (τ := (y_Fact T)) rfl h_fact) h_602)) (eva_conss (ev_indexC (K := K) (xs := (["nobody", "some", "all"] : List Str)) T.sq_LACKS T.dn_LACKS (ev_fld (fo_Range_lack T) T.cl_Range T.n_Range_lack (pj_Fact_range T (ev_var (τ := (y_Fact T)) rfl h_fact) h_604)) h_606) (eva_nils (τ := yInt))))) (by show 3 ≤ sizeLine; decide)))) g_607)) (fun v Z1 H1 P1 hv => ?_)
                exact q v _ _ P1.st hv
              · replace P := P1
                have hB := ifF b_588 hF
                replace hF := hB
                clear hB
                refine st_next0 ?_
                replace h_fact := ((y_Fact T)).mono e.z h_fact
                refine st_seq (st_if P (et_val (ev_isi (b := x_fact.is_Values) (fun _ _ _ h => h) (ev_var (τ := (y_Fact T)) rfl h_fact) (tx_Fact T) (.own _) (kit_Fact_Values T _))) (fun b_608 Z1 H1 e P1 => ?_) (fun b_608 Z1 H1 e P1 => ?_))
                · replace P := P1
                  have hB := ifT b_608 hF
                  replace hF := hB
                  clear hB
                  replace h_fact := ((y_Fact T)).mono e.z h_fact
                  obtain ⟨u_611, h_612, hF⟩ := bind_inv hF
                  obtain ⟨l_618, h_619, hF⟩ := bind_inv hF
                  obtain ⟨r_620, h_621, hF⟩ := bind_inv hF
                  refine st_seq (st_set P (ev_call (cs_list_code T h_621) (eva_cons (ev_fz (en_mapO (υ := (yList yInt)) (fun (x_613 : Val) => ((F_value_code x_613).bind fun r_616 =>
                  some r_616 : Option (List Int))) (ei_tup (ev_fld (fo_Values_choices T) T.cl_Values T.n_Values_choices (pj_Fact_values T (ev_var (τ := (y_Fact T)) rfl h_fact) h_612))) (fun x_613 v_614 Z' H' p zz hh rx_615 hp => by
                        have hy := hp
                        obtain ⟨r_616, h_617, hy⟩ := bind_inv hy
                        have hy := Option.some.inj hy
                        subst hy
                        exact ⟨_, tgt_name, (wpe_s wpe_z (by decide)), (ev_call (cs_value_code T h_617) (eva_cons (ev_var (τ := (y_Val T)) rfl rx_615) eva_nil))⟩) h_619)) eva_nil)) (fun v_622 Z1 H1 e P1 k_623 => ?_))
                  refine st_nx ?_
                  replace P := P1
                  replace h_fact := ((y_Fact T)).mono e.z h_fact
                  obtain ⟨u_640, h_641, hF⟩ := bind_inv hF
                  obtain ⟨r_642, h_643, hF⟩ := bind_inv hF
                  obtain ⟨g_644, hF⟩ := guard_inv hF
                  obtain ⟨g_645, hF⟩ := guard_inv hF
                  obtain ⟨u_646, h_647, hF⟩ := bind_inv hF
                  obtain ⟨j_648, h_649, hF⟩ := bind_inv hF
                  obtain ⟨g_650, hF⟩ := guard_inv hF
                  replace hF := Option.some.inj hF
                  subst hF
                  refine st_ret P (ev_fz (en_cat (ev_li (ev_fz (en_cat (ev_li (ev_fz (en_cat (ev_li (ev_fz (en_listD (eva_conss ev_int (eva_nils (τ := yInt))) (by show 1 ≤ sizeLine; decide)))) (ev_li (ev_call (cs_string_code T h_643) (eva_cons (ev_fld (fo_Values_field T) T.cl_Values T.n_Values_field (pj_Fact_values T (ev_var (τ := (y_Fact T)) rfl h_fact) h_641)) eva_nil))) g_644))) (ev_li (ev_var (τ := (yList yInt)) rfl k_623)) g_645))) (ev_li (ev_fz (en_listD (eva_conss (ev_indexC (K := K) (xs := (["nobody", "some", "all"] : List Str)) T.sq_LACKS T.dn_LACKS (ev_fld (fo_Values_lack T) T.cl_Values T.n_Values_lack (pj_Fact_values T (ev_var (τ := (y_Fact T)) rfl h_fact) h_647)) h_649) (eva_nils (τ := yInt))) (by show 1 ≤ sizeLine; decide)))) g_650)) (fun v Z1 H1 P1 hv => ?_)
                  exact q v _ _ P1.st hv
                · replace P := P1
                  have hB := ifF b_608 hF
                  replace hF := hB
                  clear hB
                  refine st_next0 ?_
                  replace h_fact := ((y_Fact T)).mono e.z h_fact
                  refine st_seq (st_if P (et_val (ev_isi (b := x_fact.is_Counts) (fun _ _ _ h => h) (ev_var (τ := (y_Fact T)) rfl h_fact) (tx_Fact T) (.own _) (kit_Fact_Counts T _))) (fun b_651 Z1 H1 e P1 => ?_) (fun b_651 Z1 H1 e P1 => ?_))
                  · replace P := P1
                    have hB := ifT b_651 hF
                    replace hF := hB
                    clear hB
                    replace h_fact := ((y_Fact T)).mono e.z h_fact
                    obtain ⟨u_652, h_653, hF⟩ := bind_inv hF
                    obtain ⟨r_654, h_655, hF⟩ := bind_inv hF
                    obtain ⟨g_656, hF⟩ := guard_inv hF
                    replace hF := Option.some.inj hF
                    subst hF
                    refine st_ret P (ev_fz (en_cat (ev_li (ev_fz (en_listD (eva_conss ev_int (eva_nils (τ := yInt))) (by show 1 ≤ sizeLine; decide)))) (ev_li (ev_call (cs_words_code T h_655) (eva_cons (ev_fld (fo_Counts_words T) T.cl_Counts T.n_Counts_words (pj_Fact_counts T (ev_var (τ := (y_Fact T)) rfl h_fact) h_653)) eva_nil))) g_656)) (fun v Z1 H1 P1 hv => ?_)
                    exact q v _ _ P1.st hv
                  · replace P := P1
                    have hB := ifF b_651 hF
                    replace hF := hB
                    clear hB
                    refine st_next0 ?_
                    replace h_fact := ((y_Fact T)).mono e.z h_fact
                    obtain ⟨u_662, h_663, hF⟩ := bind_inv hF
                    obtain ⟨r_664, h_665, hF⟩ := bind_inv hF
                    obtain ⟨g_666, hF⟩ := guard_inv hF
                    obtain ⟨u_667, h_668, hF⟩ := bind_inv hF
                    obtain ⟨r_669, h_670, hF⟩ := bind_inv hF
                    obtain ⟨g_671, hF⟩ := guard_inv hF
                    replace hF := Option.some.inj hF
                    subst hF
                    refine st_ret P (ev_fz (en_cat (ev_li (ev_fz (en_cat (ev_li (ev_fz (en_listD (eva_conss ev_int (eva_nils (τ := yInt))) (by show 1 ≤ sizeLine; decide)))) (ev_li (ev_call (cs_string_code T h_665) (eva_cons (ev_fld (fo_Names_low T) T.cl_Names T.n_Names_low (pj_Fact_names T (ev_var (τ := (y_Fact T)) rfl h_fact) h_663)) eva_nil))) g_666))) (ev_li (ev_call (cs_string_code T h_670) (eva_cons (ev_fld (fo_Names_high T) T.cl_Names T.n_Names_high (pj_Fact_names T (ev_var (τ := (y_Fact T)) rfl h_fact) h_668)) eva_nil))) g_671)) (fun v Z1 H1 P1 hv => ?_)
                    exact q v _ _ P1.st hv
theorem cs_fact_code (T : Txt K mg) {μ : Type} {M : Mu μ} {s : μ} {E : XK} {x_fact : Fact} {y : (List Int)} (h : F_fact_code x_fact = some y) : CallS M (sp_fact_code T) E (rac (ty (y_Fact T) x_fact) ra0) s (ty (yList yInt) y) s := by
  rintro Z H vs sz m ⟨v_fact, _, rfl, h_fact, rfl⟩ Q q
  exact ⟨Z, v_fact, x_fact, y, rfl, sz, h_fact, h, fun v Z2 H2 st hv => q v Z2 H2 st.pure (M.pure st m) hv⟩
def sp_region_code (T : Txt K mg) : Sp := fun vs H Q _ => ∃ (Z0 : Hp) (v_region : V) (x_region : Region) (y : (List Int)), vs = [v_region] ∧ (Same Z0 H) ∧ (((y_Region T)).r Z0 v_region x_region) ∧ (F_region_code x_region = some y) ∧ ∀ v Z' H', Step [] Z0 H Z' H' → ((yList yInt)).r Z' v y → Q v H'
set_option maxHeartbeats 4000000 in
theorem ok_region_code (T : Txt K mg) : FnOk P w K mg base CX0 5 T.f_region_code T.d_region_code ["region"] (sp_region_code T) := by
  have G_maybe_code : FnOk P w K mg base CX0 1 T.f_maybe_code T.d_maybe_code ["code"] (sp_maybe_code T) := ok_maybe_code T
  have G_fact_code : FnOk P w K mg base CX0 4 T.f_fact_code T.d_fact_code ["fact"] (sp_fact_code T) := ok_fact_code T
  have G_list_code : FnOk P w K mg base CX0 1 T.f_list_code T.d_list_code ["codes"] (sp_list_code T) := ok_list_code T
  refine T.F_region_code.ok sc_region_code (fun vs H Q E h => ?_) (fun cdv A outer s H vs Q E hr h => ?_)
  · obtain ⟨Z0, v_region, x_region, y, rfl, _⟩ := h
    rfl
  · obtain ⟨Z0, v_region, x_region, y, rfl, sz, h_region, hF, q⟩ := h
    refine ⟨_, (pss_cons (ps_set (i := 1) sc_region_code.nd rfl (.inl rfl) (pe_ifExp (pt_cmpR op_isN (pe_fld (pv 0) rfl) pe_non (nomark _)) pe_non (pe_lst (pa_cons (pe_fld (pv 0) rfl) pa_nil)))) 
      (pss_one (ps_ret (pe_op op_cat (pe_call G_maybe_code (hr.mono (by decide)) (by rfl) T.g_maybe_code T.F_maybe_code.kp T.b_maybe_code .nil pass0 (pa_cons (pv 1) pa_nil)) (pe_call G_list_code (hr.mono (by decide)) (by rfl) T.g_list_code T.F_list_code.kp T.b_list_code .nil pass0 (pa_cons (pe_lc (own := [("fact", 2)]) (g := gName 2) rfl sc_region_code.nd (pi_tup (pe_fld (pv 0) rfl)) (blkOk_by (own := [("fact", 2)]) (N := ["region", "parent", "fact"]) (sc := defScope s_region_code) (by decide +kernel)) (fun _ _ _ _ _ => (pg_name (i := 2) sc_region_code.nd rfl (Or.inl rfl))) (fun _ _ _ _ _ => pts_nil) (fun _ _ _ _ _ => (pe_call G_fact_code (hr.mono (by decide)) (by rfl) T.g_fact_code T.F_fact_code.kp T.b_fact_code .nil pass0 (pa_cons (pv 2) pa_nil)))) pa_nil)))))), ?_⟩
    have P := Pt.start0 sz
    unfold F_region_code at hF
    obtain ⟨w_679, h_678, hF⟩ := bind_inv hF
    refine st_seq (st_set P (ev_if (R := ty (yOpt (yList yInt)) w_679) (et_cmp (ev_isN (ev_fld (fo_Region_parent T) T.cl_Region T.n_Region_parent (ev_var (τ := (y_Region T)) rfl h_region)) ev_non)) (fun hb => by
          have hy := ifT hb h_678
          have hy := Option.some.inj hy
          subst hy
          exact (ev_none (τ := (yList yInt)) ev_non)) (fun hb => by
          have hy := ifF hb h_678
          obtain ⟨u_676, h_677, hy⟩ := bind_inv hy
          have hy := Option.some.inj hy
          subst hy
          exact (ev_some nn_list (ev_fz (en_listD (eva_conss (ev_uno (ev_fld (fo_Region_parent T) T.cl_Region T.n_Region_parent (ev_var (τ := (y_Region T)) rfl h_region)) h_677) (eva_nils (τ := yInt))) (by show 1 ≤ sizeLine; decide)))))) (fun v_680 Z1 H1 e P1 k_681 => ?_))
    refine st_nx ?_
    replace P := P1
    replace k_681 : ((yOpt (yList yInt))).r Z1 v_680 w_679 := k_681
    replace h_region := ((y_Region T)).mono e.z h_region
    obtain ⟨r_684, h_685, hF⟩ := bind_inv hF
    obtain ⟨l_691, h_692, hF⟩ := bind_inv hF
    obtain ⟨r_693, h_694, hF⟩ := bind_inv hF
    obtain ⟨g_695, hF⟩ := guard_inv hF
    replace hF := Option.some.inj hF
    subst hF
    refine st_ret P (ev_fz (en_cat (ev_li (ev_call (cs_maybe_code T h_685) (eva_cons (ev_var (τ := (yOpt (yList yInt))) rfl k_681) eva_nil))) (ev_li (ev_call (cs_list_code T h_694) (eva_cons (ev_fz (en_mapO (υ := (yList yInt)) (fun (x_686 : Fact) => ((F_fact_code x_686).bind fun r_689 =>
    some r_689 : Option (List Int))) (ei_tup (ev_fld (fo_Region_facts T) T.cl_Region T.n_Region_facts (ev_var (τ := (y_Region T)) rfl h_region))) (fun x_686 v_687 Z' H' p zz hh rx_688 hp => by
          have hy := hp
          obtain ⟨r_689, h_690, hy⟩ := bind_inv hy
          have hy := Option.some.inj hy
          subst hy
          exact ⟨_, tgt_name, (wpe_s wpe_z (by decide)), (ev_call (cs_fact_code T h_690) (eva_cons (ev_var (τ := (y_Fact T)) rfl rx_688) eva_nil))⟩) h_692)) eva_nil))) g_695)) (fun v Z1 H1 P1 hv => ?_)
    exact q v _ _ P1.st hv
theorem cs_region_code (T : Txt K mg) {μ : Type} {M : Mu μ} {s : μ} {E : XK} {x_region : Region} {y : (List Int)} (h : F_region_code x_region = some y) : CallS M (sp_region_code T) E (rac (ty (y_Region T) x_region) ra0) s (ty (yList yInt) y) s := by
  rintro Z H vs sz m ⟨v_region, _, rfl, h_region, rfl⟩ Q q
  exact ⟨Z, v_region, x_region, y, rfl, sz, h_region, h, fun v Z2 H2 st hv => q v Z2 H2 st.pure (M.pure st m) hv⟩
def sp_partition_code (T : Txt K mg) : Sp := fun vs H Q _ => ∃ (Z0 : Hp) (v_regions : V) (x_regions : (List Region)) (y : (List Int)), vs = [v_regions] ∧ (Same Z0 H) ∧ (((yTup K (y_Region T))).r Z0 v_regions x_regions) ∧ (F_partition_code x_regions = some y) ∧ ∀ v Z' H', Step [] Z0 H Z' H' → ((yList yInt)).r Z' v y → Q v H'
set_option maxHeartbeats 4000000 in
theorem ok_partition_code (T : Txt K mg) : FnOk P w K mg base CX0 6 T.f_partition_code T.d_partition_code ["regions"] (sp_partition_code T) := by
  have G_region_code : FnOk P w K mg base CX0 5 T.f_region_code T.d_region_code ["region"] (sp_region_code T) := ok_region_code T
  have G_list_code : FnOk P w K mg base CX0 1 T.f_list_code T.d_list_code ["codes"] (sp_list_code T) := ok_list_code T
  refine T.F_partition_code.ok sc_partition_code (fun vs H Q E h => ?_) (fun cdv A outer s H vs Q E hr h => ?_)
  · obtain ⟨Z0, v_regions, x_regions, y, rfl, _⟩ := h
    rfl
  · obtain ⟨Z0, v_regions, x_regions, y, rfl, sz, h_regions, hF, q⟩ := h
    refine ⟨_, (pss_one (ps_ret (pe_call G_list_code (hr.mono (by decide)) (by rfl) T.g_list_code T.F_list_code.kp T.b_list_code .nil pass0 (pa_cons (pe_lc (own := [("region", 1)]) (g := gName 1) rfl sc_partition_code.nd (pi_tup (pv 0)) (blkOk_by (own := [("region", 1)]) (N := ["regions", "region"]) (sc := defScope s_partition_code) (by decide +kernel)) (fun _ _ _ _ _ => (pg_name (i := 1) sc_partition_code.nd rfl (Or.inl rfl))) (fun _ _ _ _ _ => pts_nil) (fun _ _ _ _ _ => (pe_call G_region_code (hr.mono (by decide)) (by rfl) T.g_region_code T.F_region_code.kp T.b_region_code .nil pass0 (pa_cons (pv 1) pa_nil)))) pa_nil)))), ?_⟩
    have P := Pt.start0 sz
    unfold F_partition_code at hF
    obtain ⟨l_708, h_709, hF⟩ := bind_inv hF
    obtain ⟨r_710, h_711, hF⟩ := bind_inv hF
    replace hF := Option.some.inj hF
    subst hF
    refine st_ret P (ev_call (cs_list_code T h_711) (eva_cons (ev_fz (en_mapO (υ := (yList yInt)) (fun (x_703 : Region) => ((F_region_code x_703).bind fun r_706 =>
    some r_706 : Option (List Int))) (ei_tup (ev_var (τ := (yTup K (y_Region T))) rfl h_regions)) (fun x_703 v_704 Z' H' p zz hh rx_705 hp => by
          have hy := hp
          obtain ⟨r_706, h_707, hy⟩ := bind_inv hy
          have hy := Option.some.inj hy
          subst hy
          exact ⟨_, tgt_name, (wpe_s wpe_z (by decide)), (ev_call (cs_region_code T h_707) (eva_cons (ev_var (τ := (y_Region T)) rfl rx_705) eva_nil))⟩) h_709)) eva_nil)) (fun v Z1 H1 P1 hv => ?_)
    exact q v _ _ P1.st hv
theorem cs_partition_code (T : Txt K mg) {μ : Type} {M : Mu μ} {s : μ} {E : XK} {x_regions : (List Region)} {y : (List Int)} (h : F_partition_code x_regions = some y) : CallS M (sp_partition_code T) E (rac (ty (yTup K (y_Region T)) x_regions) ra0) s (ty (yList yInt) y) s := by
  rintro Z H vs sz m ⟨v_regions, _, rfl, h_regions, rfl⟩ Q q
  exact ⟨Z, v_regions, x_regions, y, rfl, sz, h_regions, h, fun v Z2 H2 st hv => q v Z2 H2 st.pure (M.pure st m) hv⟩
def sp_record_code (T : Txt K mg) : Sp := fun vs H Q _ => ∃ (Z0 : Hp) (v_record : V) (x_record : Record) (y : (List Int)), vs = [v_record] ∧ (Same Z0 H) ∧ (((y_Record T)).r Z0 v_record x_record) ∧ (F_record_code x_record = some y) ∧ ∀ v Z' H', Step [] Z0 H Z' H' → ((yList yInt)).r Z' v y → Q v H'
set_option maxHeartbeats 4000000 in
theorem ok_record_code (T : Txt K mg) : FnOk P w K mg base CX0 4 T.f_record_code T.d_record_code ["record"] (sp_record_code T) := by
  have G_string_code : FnOk P w K mg base CX0 2 T.f_string_code T.d_string_code ["text"] (sp_string_code T) := ok_string_code T
  have G_numbers_code : FnOk P w K mg base CX0 1 T.f_numbers_code T.d_numbers_code ["numbers"] (sp_numbers_code T) := ok_numbers_code T
  have G_words_code : FnOk P w K mg base CX0 3 T.f_words_code T.d_words_code ["words"] (sp_words_code T) := ok_words_code T
  have G_value_code : FnOk P w K mg base CX0 3 T.f_value_code T.d_value_code ["worth"] (sp_value_code T) := ok_value_code T
  have G_list_code : FnOk P w K mg base CX0 1 T.f_list_code T.d_list_code ["codes"] (sp_list_code T) := ok_list_code T
  refine T.F_record_code.ok sc_record_code (fun vs H Q E h => ?_) (fun cdv A outer s H vs Q E hr h => ?_)
  · obtain ⟨Z0, v_record, x_record, y, rfl, _⟩ := h
    rfl
  · obtain ⟨Z0, v_record, x_record, y, rfl, sz, h_record, hF, q⟩ := h
    refine ⟨_, (pss_cons (ps_set (i := 1) sc_record_code.nd rfl (.inl rfl) (pe_call G_list_code (hr.mono (by decide)) (by rfl) T.g_list_code T.F_list_code.kp T.b_list_code .nil pass0 (pa_cons (pe_lc (own := [("name", 2), ("worth", 3)]) (g := gTup K 2 (gCons (gName 2) (gCons (gName 3) gNil))) rfl sc_record_code.nd (pi_tup (pe_fld (pv 0) rfl)) (blkOk_by (own := [("name", 2), ("worth", 3)]) (N := ["record", "fields", "name", "worth"]) (sc := defScope s_record_code) (by decide +kernel)) (fun _ _ _ _ _ => (by exact (pg_tup rfl (pgs_cons (pg_name (i := 2) sc_record_code.nd rfl (Or.inl rfl)) (pgs_cons (pg_name (i := 3) sc_record_code.nd rfl (Or.inl rfl)) pgs_nil))))) (fun _ _ _ _ _ => pts_nil) (fun _ _ _ _ _ => (pe_op op_cat (pe_call G_string_code (hr.mono (by decide)) (by rfl) T.g_string_code T.F_string_code.kp T.b_string_code .nil pass0 (pa_cons (pv 2) pa_nil)) (pe_call G_value_code (hr.mono (by decide)) (by rfl) T.g_value_code T.F_value_code.kp T.b_value_code .nil pass0 (pa_cons (pv 3) pa_nil))))) pa_nil))) 
      (pss_one (ps_ret (pe_op op_cat (pe_op op_cat (pe_op op_cat (pe_call G_string_code (hr.mono (by decide)) (by rfl) T.g_string_code T.F_string_code.kp T.b_string_code .nil pass0 (pa_cons (pe_fld (pv 0) rfl) pa_nil)) (pe_call G_numbers_code (hr.mono (by decide)) (by rfl) T.g_numbers_code T.F_numbers_code.kp T.b_numbers_code .nil pass0 (pa_cons (pe_fld (pv 0) rfl) pa_nil))) (pv 1)) (pe_call G_words_code (hr.mono (by decide)) (by rfl) T.g_words_code T.F_words_code.kp T.b_words_code .nil pass0 (pa_cons (pe_fld (pv 0) rfl) pa_nil)))))), ?_⟩
    have P := Pt.start0 sz
    unfold F_record_code at hF
    obtain ⟨l_744, h_745, hF⟩ := bind_inv hF
    obtain ⟨r_746, h_747, hF⟩ := bind_inv hF
    refine st_seq (st_set P (ev_call (cs_list_code T h_747) (eva_cons (ev_fz (en_mapO (υ := (yList yInt)) (fun (x_729 : (Str × Val)) => ((F_string_code x_729.1).bind fun r_739 =>
    (F_value_code x_729.2).bind fun r_741 =>
    if r_739.length + r_741.length ≤ 16777216 then
    some (r_739 ++ r_741) else none : Option (List Int))) (ei_tup (ev_fld (fo_Record_fields T) T.cl_Record T.n_Record_fields (ev_var (τ := (y_Record T)) rfl h_record))) (fun x_729 v_730 Z' H' p zz hh rx_731 hp => by
          obtain ⟨v_732, v_733, k_734, k_735, tg_736⟩ := tgt_p2 rx_731
          have hy := hp
          obtain ⟨r_739, h_740, hy⟩ := bind_inv hy
          obtain ⟨r_741, h_742, hy⟩ := bind_inv hy
          obtain ⟨g_743, hy⟩ := guard_inv hy
          have hy := Option.some.inj hy
          subst hy
          exact ⟨_, (tg_736 tgt_name tgt_name), (wpe_s (wpe_s wpe_z (by decide)) (by decide)), (ev_fz (en_cat (ev_li (ev_call (cs_string_code T h_740) (eva_cons (ev_var (τ := yStr) rfl k_734) eva_nil))) (ev_li (ev_call (cs_value_code T h_742) (eva_cons (ev_var (τ := (y_Val T)) rfl k_735) eva_nil))) g_743))⟩) h_745)) eva_nil)) (fun v_748 Z1 H1 e P1 k_749 => ?_))
    refine st_nx ?_
    replace P := P1
    replace h_record := ((y_Record T)).mono e.z h_record
    obtain ⟨r_774, h_775, hF⟩ := bind_inv hF
    obtain ⟨r_776, h_777, hF⟩ := bind_inv hF
    obtain ⟨g_778, hF⟩ := guard_inv hF
    obtain ⟨g_779, hF⟩ := guard_inv hF
    obtain ⟨r_780, h_781, hF⟩ := bind_inv hF
    obtain ⟨g_782, hF⟩ := guard_inv hF
    replace hF := Option.some.inj hF
    subst hF
    refine st_ret P (ev_fz (en_cat (ev_li (ev_fz (en_cat (ev_li (ev_fz (en_cat (ev_li (ev_call (cs_string_code T h_775) (eva_cons (ev_fld (fo_Record_name T) T.cl_Record T.n_Record_name (ev_var (τ := (y_Record T)) rfl h_record)) eva_nil))) (ev_li (ev_call (cs_numbers_code T h_777) (eva_cons (ev_seqT (ev_fld (fo_Record_vector T) T.cl_Record T.n_Record_vector (ev_var (τ := (y_Record T)) rfl h_record))) eva_nil))) g_778))) (ev_li (ev_var (τ := (yList yInt)) rfl k_749)) g_779))) (ev_li (ev_call (cs_words_code T h_781) (eva_cons (ev_fld (fo_Record_words T) T.cl_Record T.n_Record_words (ev_var (τ := (y_Record T)) rfl h_record)) eva_nil))) g_782)) (fun v Z1 H1 P1 hv => ?_)
    exact q v _ _ P1.st hv
theorem cs_record_code (T : Txt K mg) {μ : Type} {M : Mu μ} {s : μ} {E : XK} {x_record : Record} {y : (List Int)} (h : F_record_code x_record = some y) : CallS M (sp_record_code T) E (rac (ty (y_Record T) x_record) ra0) s (ty (yList yInt) y) s := by
  rintro Z H vs sz m ⟨v_record, _, rfl, h_record, rfl⟩ Q q
  exact ⟨Z, v_record, x_record, y, rfl, sz, h_record, h, fun v Z2 H2 st hv => q v Z2 H2 st.pure (M.pure st m) hv⟩
def sp_entry_code (T : Txt K mg) : Sp := fun vs H Q _ => ∃ (Z0 : Hp) (v_entry : V) (x_entry : Entry) (y : (List Int)), vs = [v_entry] ∧ (Same Z0 H) ∧ (((y_Entry T)).r Z0 v_entry x_entry) ∧ (F_entry_code x_entry = some y) ∧ ∀ v Z' H', Step [] Z0 H Z' H' → ((yList yInt)).r Z' v y → Q v H'
set_option maxHeartbeats 4000000 in
theorem ok_entry_code (T : Txt K mg) : FnOk P w K mg base CX0 5 T.f_entry_code T.d_entry_code ["entry"] (sp_entry_code T) := by
  have G_record_code : FnOk P w K mg base CX0 4 T.f_record_code T.d_record_code ["record"] (sp_record_code T) := ok_record_code T
  have G_numbers_code : FnOk P w K mg base CX0 1 T.f_numbers_code T.d_numbers_code ["numbers"] (sp_numbers_code T) := ok_numbers_code T
  refine T.F_entry_code.ok sc_entry_code (fun vs H Q E h => ?_) (fun cdv A outer s H vs Q E hr h => ?_)
  · obtain ⟨Z0, v_entry, x_entry, y, rfl, _⟩ := h
    rfl
  · obtain ⟨Z0, v_entry, x_entry, y, rfl, sz, h_entry, hF, q⟩ := h
    refine ⟨_, (pss_one (ps_ret (pe_op op_cat (pe_op op_cat (pe_lst (pa_cons (pe_fld (pv 0) rfl) pa_nil)) (pe_call G_record_code (hr.mono (by decide)) (by rfl) T.g_record_code T.F_record_code.kp T.b_record_code .nil pass0 (pa_cons (pe_fld (pv 0) rfl) pa_nil))) (pe_call G_numbers_code (hr.mono (by decide)) (by rfl) T.g_numbers_code T.F_numbers_code.kp T.b_numbers_code .nil pass0 (pa_cons (pe_fld (pv 0) rfl) pa_nil))))), ?_⟩
    have P := Pt.start0 sz
    unfold F_entry_code at hF
    obtain ⟨r_795, h_796, hF⟩ := bind_inv hF
    obtain ⟨g_797, hF⟩ := guard_inv hF
    obtain ⟨r_798, h_799, hF⟩ := bind_inv hF
    obtain ⟨g_800, hF⟩ := guard_inv hF
    replace hF := Option.some.inj hF
    subst hF
    refine st_ret P (ev_fz (en_cat (ev_li (ev_fz (en_cat (ev_li (ev_fz (en_listD (eva_conss (ev_fld (fo_Entry_number T) T.cl_Entry T.n_Entry_number (ev_var (τ := (y_Entry T)) rfl h_entry)) (eva_nils (τ := yInt))) (by show 1 ≤ sizeLine; decide)))) (ev_li (ev_call (cs_record_code T h_796) (eva_cons (ev_fld (fo_Entry_record T) T.cl_Entry T.n_Entry_record (ev_var (τ := (y_Entry T)) rfl h_entry)) eva_nil))) g_797))) (ev_li (ev_call (cs_numbers_code T h_799) (eva_cons (ev_seqT (ev_fld (fo_Entry_leaves T) T.cl_Entry T.n_Entry_leaves (ev_var (τ := (y_Entry T)) rfl h_entry))) eva_nil))) g_800)) (fun v Z1 H1 P1 hv => ?_)
    exact q v _ _ P1.st hv
theorem cs_entry_code (T : Txt K mg) {μ : Type} {M : Mu μ} {s : μ} {E : XK} {x_entry : Entry} {y : (List Int)} (h : F_entry_code x_entry = some y) : CallS M (sp_entry_code T) E (rac (ty (y_Entry T) x_entry) ra0) s (ty (yList yInt) y) s := by
  rintro Z H vs sz m ⟨v_entry, _, rfl, h_entry, rfl⟩ Q q
  exact ⟨Z, v_entry, x_entry, y, rfl, sz, h_entry, h, fun v Z2 H2 st hv => q v Z2 H2 st.pure (M.pure st m) hv⟩
def sp_offer_code (T : Txt K mg) : Sp := fun vs H Q _ => ∃ (Z0 : Hp) (v_offer : V) (x_offer : Offer) (y : (List Int)), vs = [v_offer] ∧ (Same Z0 H) ∧ (((y_Offer T)).r Z0 v_offer x_offer) ∧ (F_offer_code x_offer = some y) ∧ ∀ v Z' H', Step [] Z0 H Z' H' → ((yList yInt)).r Z' v y → Q v H'
set_option maxHeartbeats 4000000 in
theorem ok_offer_code (T : Txt K mg) : FnOk P w K mg base CX0 7 T.f_offer_code T.d_offer_code ["offer"] (sp_offer_code T) := by
  have G_entry_code : FnOk P w K mg base CX0 5 T.f_entry_code T.d_entry_code ["entry"] (sp_entry_code T) := ok_entry_code T
  have G_list_code : FnOk P w K mg base CX0 1 T.f_list_code T.d_list_code ["codes"] (sp_list_code T) := ok_list_code T
  have G_partition_code : FnOk P w K mg base CX0 6 T.f_partition_code T.d_partition_code ["regions"] (sp_partition_code T) := ok_partition_code T
  refine T.F_offer_code.ok sc_offer_code (fun vs H Q E h => ?_) (fun cdv A outer s H vs Q E hr h => ?_)
  · obtain ⟨Z0, v_offer, x_offer, y, rfl, _⟩ := h
    rfl
  · obtain ⟨Z0, v_offer, x_offer, y, rfl, sz, h_offer, hF, q⟩ := h
    refine ⟨_, (pss_cons (ps_set (i := 1) sc_offer_code.nd rfl (.inl rfl) (pe_call G_list_code (hr.mono (by decide)) (by rfl) T.g_list_code T.F_list_code.kp T.b_list_code .nil pass0 (pa_cons (pe_lc (own := [("regions", 2)]) (g := gName 2) rfl sc_offer_code.nd (pi_tup (pe_fld (pv 0) rfl)) (blkOk_by (own := [("regions", 2)]) (N := ["offer", "partitions", "regions", "entry"]) (sc := defScope s_offer_code) (by decide +kernel)) (fun _ _ _ _ _ => (pg_name (i := 2) sc_offer_code.nd rfl (Or.inl rfl))) (fun _ _ _ _ _ => pts_nil) (fun _ _ _ _ _ => (pe_call G_partition_code (hr.mono (by decide)) (by rfl) T.g_partition_code T.F_partition_code.kp T.b_partition_code .nil pass0 (pa_cons (pv 2) pa_nil)))) pa_nil))) 
      (pss_one (ps_ret (pe_op op_cat (pv 1) (pe_call G_list_code (hr.mono (by decide)) (by rfl) T.g_list_code T.F_list_code.kp T.b_list_code .nil pass0 (pa_cons (pe_lc (own := [("entry", 3)]) (g := gName 3) rfl sc_offer_code.nd (pi_tup (pe_fld (pv 0) rfl)) (blkOk_by (own := [("entry", 3)]) (N := ["offer", "partitions", "regions", "entry"]) (sc := defScope s_offer_code) (by decide +kernel)) (fun _ _ _ _ _ => (pg_name (i := 3) sc_offer_code.nd rfl (Or.inl rfl))) (fun _ _ _ _ _ => pts_nil) (fun _ _ _ _ _ => (pe_call G_entry_code (hr.mono (by decide)) (by rfl) T.g_entry_code T.F_entry_code.kp T.b_entry_code .nil pass0 (pa_cons (pv 3) pa_nil)))) pa_nil)))))), ?_⟩
    have P := Pt.start0 sz
    unfold F_offer_code at hF
    obtain ⟨l_813, h_814, hF⟩ := bind_inv hF
    obtain ⟨r_815, h_816, hF⟩ := bind_inv hF
    refine st_seq (st_set P (ev_call (cs_list_code T h_816) (eva_cons (ev_fz (en_mapO (υ := (yList yInt)) (fun (x_808 : (List Region)) => ((F_partition_code x_808).bind fun r_811 =>
    some r_811 : Option (List Int))) (ei_tup (ev_fld (fo_Offer_partitions T) T.cl_Offer T.n_Offer_partitions (ev_var (τ := (y_Offer T)) rfl h_offer))) (fun x_808 v_809 Z' H' p zz hh rx_810 hp => by
          have hy := hp
          obtain ⟨r_811, h_812, hy⟩ := bind_inv hy
          have hy := Option.some.inj hy
          subst hy
          exact ⟨_, tgt_name, (wpe_s wpe_z (by decide)), (ev_call (cs_partition_code T h_812) (eva_cons (ev_var (τ := (yTup K (y_Region T))) rfl rx_810) eva_nil))⟩) h_814)) eva_nil)) (fun v_817 Z1 H1 e P1 k_818 => ?_))
    refine st_nx ?_
    replace P := P1
    replace h_offer := ((y_Offer T)).mono e.z h_offer
    obtain ⟨l_824, h_825, hF⟩ := bind_inv hF
    obtain ⟨r_826, h_827, hF⟩ := bind_inv hF
    obtain ⟨g_828, hF⟩ := guard_inv hF
    replace hF := Option.some.inj hF
    subst hF
    refine st_ret P (ev_fz (en_cat (ev_li (ev_var (τ := (yList yInt)) rfl k_818)) (ev_li (ev_call (cs_list_code T h_827) (eva_cons (ev_fz (en_mapO (υ := (yList yInt)) (fun (x_819 : Entry) => ((F_entry_code x_819).bind fun r_822 =>
    some r_822 : Option (List Int))) (ei_tup (ev_fld (fo_Offer_entries T) T.cl_Offer T.n_Offer_entries (ev_var (τ := (y_Offer T)) rfl h_offer))) (fun x_819 v_820 Z' H' p zz hh rx_821 hp => by
          have hy := hp
          obtain ⟨r_822, h_823, hy⟩ := bind_inv hy
          have hy := Option.some.inj hy
          subst hy
          exact ⟨_, tgt_name, (wpe_s wpe_z (by decide)), (ev_call (cs_entry_code T h_823) (eva_cons (ev_var (τ := (y_Entry T)) rfl rx_821) eva_nil))⟩) h_825)) eva_nil))) g_828)) (fun v Z1 H1 P1 hv => ?_)
    exact q v _ _ P1.st hv
theorem cs_offer_code (T : Txt K mg) {μ : Type} {M : Mu μ} {s : μ} {E : XK} {x_offer : Offer} {y : (List Int)} (h : F_offer_code x_offer = some y) : CallS M (sp_offer_code T) E (rac (ty (y_Offer T) x_offer) ra0) s (ty (yList yInt) y) s := by
  rintro Z H vs sz m ⟨v_offer, _, rfl, h_offer, rfl⟩ Q q
  exact ⟨Z, v_offer, x_offer, y, rfl, sz, h_offer, h, fun v Z2 H2 st hv => q v Z2 H2 st.pure (M.pure st m) hv⟩
def sp_law_text (T : Txt K mg) : Sp := fun vs H Q _ => ∃ (Z0 : Hp) (v_text : V) (x_text : Str) (y : (List Int)), vs = [v_text] ∧ (Same Z0 H) ∧ ((yStr).r Z0 v_text x_text) ∧ (F_law_text x_text = some y) ∧ ∀ v Z' H', Step [] Z0 H Z' H' → ((yList yInt)).r Z' v y → Q v H'
set_option maxHeartbeats 4000000 in
theorem ok_law_text (T : Txt K mg) : FnOk P w K mg base CX0 1 T.f_law_text T.d_law_text ["text"] (sp_law_text T) := by
  refine T.F_law_text.ok sc_law_text (fun vs H Q E h => ?_) (fun cdv A outer s H vs Q E hr h => ?_)
  · obtain ⟨Z0, v_text, x_text, y, rfl, _⟩ := h
    rfl
  · obtain ⟨Z0, v_text, x_text, y, rfl, sz, h_text, hF, q⟩ := h
    refine ⟨_, (pss_one (ps_ret (pe_op op_cat (pe_lst (pa_cons (pe_callB call_len_str (by rfl) T.m_len PySem.boot_len (pa_cons (pv 0) pa_nil)) pa_nil)) (pe_lc (own := [("sign", 1)]) (g := gName 1) rfl sc_law_text.nd (pi_str (pv 0)) (blkOk_by (own := [("sign", 1)]) (N := ["text", "sign"]) (sc := defScope s_law_text) (by decide +kernel)) (fun _ _ _ _ _ => (pg_name (i := 1) sc_law_text.nd rfl (Or.inl rfl))) (fun _ _ _ _ _ => pts_nil) (fun _ _ _ _ _ => (pe_callB call_ord (by rfl) T.m_ord (by decide +kernel) (pa_cons (pv 1) pa_nil))))))), ?_⟩
    have P := Pt.start0 sz
    unfold F_law_text at hF
    obtain ⟨l_839, h_840, hF⟩ := bind_inv hF
    obtain ⟨g_841, hF⟩ := guard_inv hF
    replace hF := Option.some.inj hF
    subst hF
    refine st_ret P (ev_fz (en_cat (ev_li (ev_fz (en_listD (eva_conss (ev_len_str (ev_var (τ := yStr) rfl h_text)) (eva_nils (τ := yInt))) (by show 1 ≤ sizeLine; decide)))) (ev_li (ev_fz (en_mapO (υ := yInt) (fun (x_835 : Str) => (if x_835.length = 1 then
    some ((x_835.cps.getD 0 0 : Nat) : Int) else none : Option Int)) (ei_str (ev_var (τ := yStr) rfl h_text)) (fun x_835 v_836 Z' H' p zz hh rx_837 hp => by
          have hy := hp
          obtain ⟨g_838, hy⟩ := guard_inv hy
          have hy := Option.some.inj hy
          subst hy
          exact ⟨_, tgt_name, (wpe_s wpe_z (by decide)), (ev_ord (ev_var (τ := yStr) rfl rx_837) g_838)⟩) h_840))) g_841)) (fun v Z1 H1 P1 hv => ?_)
    exact q v _ _ P1.st hv
theorem cs_law_text (T : Txt K mg) {μ : Type} {M : Mu μ} {s : μ} {E : XK} {x_text : Str} {y : (List Int)} (h : F_law_text x_text = some y) : CallS M (sp_law_text T) E (rac (ty yStr x_text) ra0) s (ty (yList yInt) y) s := by
  rintro Z H vs sz m ⟨v_text, _, rfl, h_text, rfl⟩ Q q
  exact ⟨Z, v_text, x_text, y, rfl, sz, h_text, h, fun v Z2 H2 st hv => q v Z2 H2 st.pure (M.pure st m) hv⟩
def sp_law_value (T : Txt K mg) : Sp := fun vs H Q _ => ∃ (Z0 : Hp) (v_worth : V) (x_worth : Val) (y : (List Int)), vs = [v_worth] ∧ (Same Z0 H) ∧ (((y_Val T)).r Z0 v_worth x_worth) ∧ (F_law_value x_worth = some y) ∧ ∀ v Z' H', Step [] Z0 H Z' H' → ((yList yInt)).r Z' v y → Q v H'
set_option maxHeartbeats 4000000 in
theorem ok_law_value (T : Txt K mg) : FnOk P w K mg base CX0 2 T.f_law_value T.d_law_value ["worth"] (sp_law_value T) := by
  have G_law_text : FnOk P w K mg base CX0 1 T.f_law_text T.d_law_text ["text"] (sp_law_text T) := ok_law_text T
  refine T.F_law_value.ok sc_law_value (fun vs H Q E h => ?_) (fun cdv A outer s H vs Q E hr h => ?_)
  · obtain ⟨Z0, v_worth, x_worth, y, rfl, _⟩ := h
    rfl
  · obtain ⟨Z0, v_worth, x_worth, y, rfl, sz, h_worth, hF, q⟩ := h
    refine ⟨_, (pss_cons (ps_if (pt_val (pe_callB call_isi (by rfl) T.m_isinstance (by decide +kernel) (pa_cons (pv 0) (pa_cons (pe_bltn (v := .ty "bool") (u := .type "bool") (by rfl) T.m_bool (by decide +kernel) rfl) pa_nil)))) (pss_one (ps_ret (pe_lst (pa_cons pe_int (pa_cons (pe_callTy call_int1 (by rfl) T.m_int (by decide +kernel) (pa_cons (pv 0) pa_nil)) pa_nil))))) pss_nil) 
      (pss_cons (ps_if (pt_val (pe_callB call_isi (by rfl) T.m_isinstance (by decide +kernel) (pa_cons (pv 0) (pa_cons (pe_bltn (v := .ty "str") (u := .type "str") (by rfl) T.m_str (by decide +kernel) rfl) pa_nil)))) (pss_one (ps_ret (pe_op op_cat (pe_lst (pa_cons pe_int pa_nil)) (pe_call G_law_text (hr.mono (by decide)) (by rfl) T.g_law_text T.F_law_text.kp T.b_law_text .nil pass0 (pa_cons (pv 0) pa_nil))))) pss_nil) 
      (pss_one (ps_ret (pe_lst (pa_cons pe_int (pa_cons (pv 0) pa_nil))))))), ?_⟩
    have P := Pt.start0 sz
    unfold F_law_value at hF
    refine st_seq (st_if P (et_val (ev_isi (b := x_worth.is_bool) (fun _ _ _ h => h) (ev_var (τ := (y_Val T)) rfl h_worth) (tx_Val T) (.ty _) (kit_Val_bool T _))) (fun b_845 Z1 H1 e P1 => ?_) (fun b_845 Z1 H1 e P1 => ?_))
    · replace P := P1
      have hB := ifT b_845 hF
      replace hF := hB
      clear hB
      replace h_worth := ((y_Val T)).mono e.z h_worth
      obtain ⟨u_846, h_847, hF⟩ := bind_inv hF
      replace hF := Option.some.inj hF
      subst hF
      refine st_ret P (ev_fz (en_listD (eva_conss ev_int (eva_conss (ev_int_bl (pj_Val_b T (ev_var (τ := (y_Val T)) rfl h_worth) h_847)) (eva_nils (τ := yInt)))) (by show 2 ≤ sizeLine; decide))) (fun v Z1 H1 P1 hv => ?_)
      exact q v _ _ P1.st hv
    · replace P := P1
      have hB := ifF b_845 hF
      replace hF := hB
      clear hB
      refine st_next0 ?_
      replace h_worth := ((y_Val T)).mono e.z h_worth
      refine st_seq (st_if P (et_val (ev_isi (b := x_worth.is_str) (fun _ _ _ h => h) (ev_var (τ := (y_Val T)) rfl h_worth) (tx_Val T) (.ty _) (kit_Val_str T _))) (fun b_848 Z1 H1 e P1 => ?_) (fun b_848 Z1 H1 e P1 => ?_))
      · replace P := P1
        have hB := ifT b_848 hF
        replace hF := hB
        clear hB
        replace h_worth := ((y_Val T)).mono e.z h_worth
        obtain ⟨u_849, h_850, hF⟩ := bind_inv hF
        obtain ⟨r_851, h_852, hF⟩ := bind_inv hF
        obtain ⟨g_853, hF⟩ := guard_inv hF
        replace hF := Option.some.inj hF
        subst hF
        refine st_ret P (ev_fz (en_cat (ev_li (ev_fz (en_listD (eva_conss ev_int (eva_nils (τ := yInt))) (by show 1 ≤ sizeLine; decide)))) (ev_li (ev_call (cs_law_text T h_852) (eva_cons (pj_Val_s T (ev_var (τ := (y_Val T)) rfl h_worth) h_850) eva_nil))) g_853)) (fun v Z1 H1 P1 hv => ?_)
        exact q v _ _ P1.st hv
      · replace P := P1
        have hB := ifF b_848 hF
        replace hF := hB
        clear hB
        refine st_next0 ?_
        replace h_worth := ((y_Val T)).mono e.z h_worth
        obtain ⟨u_854, h_855, hF⟩ := bind_inv hF
        replace hF := Option.some.inj hF
        subst hF
        refine st_ret P (ev_fz (en_listD (eva_conss ev_int (eva_conss (pj_Val_i T (ev_var (τ := (y_Val T)) rfl h_worth) h_855) (eva_nils (τ := yInt)))) (by show 2 ≤ sizeLine; decide))) (fun v Z1 H1 P1 hv => ?_)
        exact q v _ _ P1.st hv
theorem cs_law_value (T : Txt K mg) {μ : Type} {M : Mu μ} {s : μ} {E : XK} {x_worth : Val} {y : (List Int)} (h : F_law_value x_worth = some y) : CallS M (sp_law_value T) E (rac (ty (y_Val T) x_worth) ra0) s (ty (yList yInt) y) s := by
  rintro Z H vs sz m ⟨v_worth, _, rfl, h_worth, rfl⟩ Q q
  exact ⟨Z, v_worth, x_worth, y, rfl, sz, h_worth, h, fun v Z2 H2 st hv => q v Z2 H2 st.pure (M.pure st m) hv⟩
def sp_law_list (T : Txt K mg) : Sp := fun vs H Q _ => ∃ (Z0 : Hp) (v_codes : V) (x_codes : (List (List Int))) (y : (List Int)), vs = [v_codes] ∧ (Same Z0 H) ∧ (((yList (yList yInt))).r Z0 v_codes x_codes) ∧ (F_law_list x_codes = some y) ∧ ∀ v Z' H', Step [] Z0 H Z' H' → ((yList yInt)).r Z' v y → Q v H'
set_option maxHeartbeats 4000000 in
theorem ok_law_list (T : Txt K mg) : FnOk P w K mg base CX0 1 T.f_law_list T.d_law_list ["codes"] (sp_law_list T) := by
  refine T.F_law_list.ok sc_law_list (fun vs H Q E h => ?_) (fun cdv A outer s H vs Q E hr h => ?_)
  · obtain ⟨Z0, v_codes, x_codes, y, rfl, _⟩ := h
    rfl
  · obtain ⟨Z0, v_codes, x_codes, y, rfl, sz, h_codes, hF, q⟩ := h
    refine ⟨_, (pss_cons (ps_set (i := 1) sc_law_list.nd rfl (.inl rfl) (pe_lst (pa_cons (pe_callB call_len_seq (by rfl) T.m_len PySem.boot_len (pa_cons (pv 0) pa_nil)) pa_nil))) 
      (pss_cons (ps_for PassesOwn.never rfl (pi_list (pv 0)) (pg_name (i := 2) sc_law_list.nd rfl (.inl rfl)) (pss_one (ps_set (i := 1) sc_law_list.nd rfl (.inl rfl) (pe_op op_cat (pv 1) (pv 2))))) 
      (pss_one (ps_ret (pv 1))))), ?_⟩
    have P := Pt.start0 sz
    unfold F_law_list at hF
    obtain ⟨x_code_858, h_859, hF⟩ := bind_inv hF
    replace h_859 := Option.some.inj h_859
    refine st_seq (st_set P (ev_cast (ev_fz (en_listD (eva_conss (ev_len (fun _ _ _ h => h) (ev_li (ev_var (τ := (yList (yList yInt))) rfl h_codes))) (eva_nils (τ := yInt))) (by show 1 ≤ sizeLine; decide))) h_859) (fun v_860 Z1 H1 e P1 k_861 => ?_))
    refine st_nx ?_
    replace P := P1
    replace h_codes := ((yList (yList yInt))).mono e.z h_codes
    obtain ⟨f_884, hL_885, hF⟩ := bind_inv hF
    refine st_seq (st_for (τ := (yList yInt)) (fun (r_864 : List (List Int)) σ' Z' H' => ∃ w_862, ∃ (y_869 : Option V) (v_870 : V) (y_872 : Option V), σ' = [y_869, some v_870, y_872] ∧ Pt [] Z0 H muN Z' H' () ∧ ((yList yInt)).r Z' v_870 w_862 ∧ forF L_law_list_1 r_864 w_862 = some f_884) P (ei_list (ev_var (τ := (yList (yList yInt))) rfl h_codes)) ?_ ?_ ?_)
    · rintro Z1 H1 e P1
      replace P := P1
      replace h_codes := ((yList (yList yInt))).mono e.z h_codes
      replace k_861 := ((yList yInt)).mono e.z k_861
      exact ⟨x_code_858, _, _, _, rfl, P, k_861, hL_885⟩
    · rintro Zb_868 Hb eb x_863 r_864 σ' v_878 Z1 H1 Z2 H2 zs_867 ⟨w_862, y_869, v_870, y_872, rfl, P, k_871, hq_866⟩ e hx_879
      replace P := P.item e
      replace k_871 := ((yList yInt)).mono e.z k_871
      replace zs_867 := zs_867.trans e.z
      obtain ⟨u_880, hB_865, hq_866⟩ := bind_inv (forF_cons hq_866)
      unfold L_law_list_1 at hB_865
      refine tgt_name _ P.sub _ ?_
      obtain ⟨g_881, hB_865⟩ := guard_inv hB_865
      refine st_set P (ev_fz (en_cat (ev_li (ev_var (τ := (yList yInt)) rfl k_871)) (ev_li (ev_var (τ := (yList yInt)) rfl hx_879)) g_881)) (fun v_882 Z1 H1 e P1 k_883 => ?_)
      replace P := P1
      replace zs_867 := zs_867.trans e.z
      replace hB_865 := Option.some.inj hB_865
      subst hB_865
      exact ⟨_, zs_867, P.sub, (w_862 ++ x_863), _, _, _, rfl, P, k_883, hq_866⟩
    rintro σ' Z1 H1 _ _ ⟨w_873, y_869, v_875, y_872, rfl, P, k_876, hl⟩
    have hz := (forF_nil hl).symm
    subst hz
    refine st_nx ?_
    replace hF := Option.some.inj hF
    subst hF
    refine st_ret P (ev_var (τ := (yList yInt)) rfl k_876) (fun v Z1 H1 P1 hv => ?_)
    exact q v _ _ P1.st hv
theorem cs_law_list (T : Txt K mg) {μ : Type} {M : Mu μ} {s : μ} {E : XK} {x_codes : (List (List Int))} {y : (List Int)} (h : F_law_list x_codes = some y) : CallS M (sp_law_list T) E (rac (ty (yList (yList yInt)) x_codes) ra0) s (ty (yList yInt) y) s := by
  rintro Z H vs sz m ⟨v_codes, _, rfl, h_codes, rfl⟩ Q q
  exact ⟨Z, v_codes, x_codes, y, rfl, sz, h_codes, h, fun v Z2 H2 st hv => q v Z2 H2 st.pure (M.pure st m) hv⟩
def sp_law_counted (T : Txt K mg) : Sp := fun vs H Q _ => ∃ (Z0 : Hp) (v_row : V) (x_row : (List Int)) (y : (List Int)), vs = [v_row] ∧ (Same Z0 H) ∧ (((ySeq K yInt)).r Z0 v_row x_row) ∧ (F_law_counted x_row = some y) ∧ ∀ v Z' H', Step [] Z0 H Z' H' → ((yList yInt)).r Z' v y → Q v H'
set_option maxHeartbeats 4000000 in
theorem ok_law_counted (T : Txt K mg) : FnOk P w K mg base CX0 1 T.f_law_counted T.d_law_counted ["row"] (sp_law_counted T) := by
  refine T.F_law_counted.ok sc_law_counted (fun vs H Q E h => ?_) (fun cdv A outer s H vs Q E hr h => ?_)
  · obtain ⟨Z0, v_row, x_row, y, rfl, _⟩ := h
    rfl
  · obtain ⟨Z0, v_row, x_row, y, rfl, sz, h_row, hF, q⟩ := h
    refine ⟨_, (pss_one (ps_ret (pe_op op_cat (pe_lst (pa_cons (pe_callB call_len_seq (by rfl) T.m_len PySem.boot_len (pa_cons (pv 0) pa_nil)) pa_nil)) (pe_callTy call_list_of (by rfl) T.m_list (by decide +kernel) (pa_cons (pv 0) pa_nil))))), ?_⟩
    have P := Pt.start0 sz
    unfold F_law_counted at hF
    obtain ⟨g_887, hF⟩ := guard_inv hF
    replace hF := Option.some.inj hF
    subst hF
    refine st_ret P (ev_fz (en_cat (ev_li (ev_fz (en_listD (eva_conss (ev_lenS (fun _ _ _ h => h) (ev_var (τ := (ySeq K yInt)) rfl h_row)) (eva_nils (τ := yInt))) (by show 1 ≤ sizeLine; decide)))) (ev_li (ev_fz (en_list_ofS (fun _ _ _ h => h) (ev_var (τ := (ySeq K yInt)) rfl h_row)))) g_887)) (fun v Z1 H1 P1 hv => ?_)
    exact q v _ _ P1.st hv
theorem cs_law_counted (T : Txt K mg) {μ : Type} {M : Mu μ} {s : μ} {E : XK} {x_row : (List Int)} {y : (List Int)} (h : F_law_counted x_row = some y) : CallS M (sp_law_counted T) E (rac (ty (ySeq K yInt) x_row) ra0) s (ty (yList yInt) y) s := by
  rintro Z H vs sz m ⟨v_row, _, rfl, h_row, rfl⟩ Q q
  exact ⟨Z, v_row, x_row, y, rfl, sz, h_row, h, fun v Z2 H2 st hv => q v Z2 H2 st.pure (M.pure st m) hv⟩
def sp_law_fact_due (T : Txt K mg) : Sp := fun vs H Q _ => ∃ (Z0 : Hp) (v_fact : V) (x_fact : Fact) (y : (List Int)), vs = [v_fact] ∧ (Same Z0 H) ∧ (((y_Fact T)).r Z0 v_fact x_fact) ∧ (F_law_fact_due x_fact = some y) ∧ ∀ v Z' H', Step [] Z0 H Z' H' → ((yList yInt)).r Z' v y → Q v H'
set_option maxHeartbeats 4000000 in
theorem ok_law_fact_due (T : Txt K mg) : FnOk P w K mg base CX0 3 T.f_law_fact_due T.d_law_fact_due ["fact"] (sp_law_fact_due T) := by
  have G_law_text : FnOk P w K mg base CX0 1 T.f_law_text T.d_law_text ["text"] (sp_law_text T) := ok_law_text T
  have G_law_list : FnOk P w K mg base CX0 1 T.f_law_list T.d_law_list ["codes"] (sp_law_list T) := ok_law_list T
  have G_law_value : FnOk P w K mg base CX0 2 T.f_law_value T.d_law_value ["worth"] (sp_law_value T) := ok_law_value T
  have G_law_counted : FnOk P w K mg base CX0 1 T.f_law_counted T.d_law_counted ["row"] (sp_law_counted T) := ok_law_counted T
  refine T.F_law_fact_due.ok sc_law_fact_due (fun vs H Q E h => ?_) (fun cdv A outer s H vs Q E hr h => ?_)
  · obtain ⟨Z0, v_fact, x_fact, y, rfl, _⟩ := h
    rfl
  · obtain ⟨Z0, v_fact, x_fact, y, rfl, sz, h_fact, hF, q⟩ := h
    refine ⟨_, (pss_cons (ps_if (pt_val (pe_callB call_isi (by rfl) T.m_isinstance (by decide +kernel) (pa_cons (pv 0) (pa_cons (pe_glob (v := .ref T.c_Parts) rfl T.mc_Parts rfl) pa_nil)))) (pss_one (ps_ret (pe_op op_cat (pe_lst (pa_cons pe_int pa_nil)) (pe_call G_law_list (hr.mono (by decide)) (by rfl) T.g_law_list T.F_law_list.kp T.b_law_list .nil pass0 (pa_cons (pe_lc (own := [("part", 1)]) (g := gName 1) rfl sc_law_fact_due.nd (pi_tup (pe_fld (pv 0) rfl)) (blkOk_by (own := [("part", 1)]) (N := ["fact", "part", "choices", "choice", "word", "count"]) (sc := defScope s_law_fact_due) (by decide +kernel)) (fun _ _ _ _ _ => (pg_name (i := 1) sc_law_fact_due.nd rfl (Or.inl rfl))) (fun _ _ _ _ _ => pts_nil) (fun _ _ _ _ _ => (pe_op op_cat (pe_op op_cat (pe_lst (pa_cons (pe_fldB (K := K) rfl (by exact (pv 1)) rfl) pa_nil)) (pe_call G_law_counted (hr.mono (by decide)) (by rfl) T.g_law_counted T.F_law_counted.kp T.b_law_counted .nil pass0 (pa_cons (pe_fldB (K := K) rfl (by exact (pv 1)) rfl) pa_nil))) (pe_lst (pa_cons (pe_fldB (K := K) rfl (by exact (pv 1)) rfl) pa_nil))))) pa_nil))))) pss_nil) 
      (pss_cons (ps_if (pt_val (pe_callB call_isi (by rfl) T.m_isinstance (by decide +kernel) (pa_cons (pv 0) (pa_cons (pe_glob (v := .ref T.c_Cell) rfl T.mc_Cell rfl) pa_nil)))) (pss_one (ps_ret (pe_op op_cat (pe_op op_cat (pe_lst (pa_cons pe_int pa_nil)) (pe_call G_law_counted (hr.mono (by decide)) (by rfl) T.g_law_counted T.F_law_counted.kp T.b_law_counted .nil pass0 (pa_cons (pe_fld (pv 0) rfl) pa_nil))) (pe_call G_law_counted (hr.mono (by decide)) (by rfl) T.g_law_counted T.F_law_counted.kp T.b_law_counted .nil pass0 (pa_cons (pe_fld (pv 0) rfl) pa_nil))))) pss_nil) 
      (pss_cons (ps_if (pt_val (pe_callB call_isi (by rfl) T.m_isinstance (by decide +kernel) (pa_cons (pv 0) (pa_cons (pe_glob (v := .ref T.c_Box) rfl T.mc_Box rfl) pa_nil)))) (pss_one (ps_ret (pe_op op_cat (pe_op op_cat (pe_lst (pa_cons pe_int pa_nil)) (pe_call G_law_counted (hr.mono (by decide)) (by rfl) T.g_law_counted T.F_law_counted.kp T.b_law_counted .nil pass0 (pa_cons (pe_fld (pv 0) rfl) pa_nil))) (pe_call G_law_counted (hr.mono (by decide)) (by rfl) T.g_law_counted T.F_law_counted.kp T.b_law_counted .nil pass0 (pa_cons (pe_fld (pv 0) rfl) pa_nil))))) pss_nil) 
      (pss_cons (ps_if (pt_val (pe_callB call_isi (by rfl) T.m_isinstance (by decide +kernel) (pa_cons (pv 0) (pa_cons (pe_glob (v := .ref T.c_Norms) rfl T.mc_Norms rfl) pa_nil)))) (pss_one (ps_ret (pe_lst (pa_cons pe_int (pa_cons (pe_fld (pv 0) rfl) (pa_cons (pe_fld (pv 0) rfl) pa_nil)))))) pss_nil) 
      (pss_cons (ps_if (pt_val (pe_callB call_isi (by rfl) T.m_isinstance (by decide +kernel) (pa_cons (pv 0) (pa_cons (pe_glob (v := .ref T.c_Differ) rfl T.mc_Differ rfl) pa_nil)))) (pss_one (ps_ret (pe_op op_cat (pe_op op_cat (pe_lst (pa_cons pe_int pa_nil)) (pe_call G_law_counted (hr.mono (by decide)) (by rfl) T.g_law_counted T.F_law_counted.kp T.b_law_counted .nil pass0 (pa_cons (pe_fld (pv 0) rfl) pa_nil))) (pe_lst (pa_cons (pe_fld (pv 0) rfl) pa_nil))))) pss_nil) 
      (pss_cons (ps_if (pt_val (pe_callB call_isi (by rfl) T.m_isinstance (by decide +kernel) (pa_cons (pv 0) (pa_cons (pe_glob (v := .ref T.c_Range) rfl T.mc_Range rfl) pa_nil)))) (pss_one (ps_ret (pe_op op_cat (pe_op op_cat (pe_lst (pa_cons pe_int pa_nil)) (pe_call G_law_text (hr.mono (by decide)) (by rfl) T.g_law_text T.F_law_text.kp T.b_law_text .nil pass0 (pa_cons (pe_fld (pv 0) rfl) pa_nil))) (pe_lst (pa_cons (pe_fld (pv 0) rfl) (pa_cons (pe_fld (pv 0) rfl) (pa_cons (pe_bm PySem.F.plainAttrs_list PySem.F.slot_list_index PySem.F.type_list_index mt_index (pe_lst (pa_cons pe_str (pa_cons pe_str (pa_cons pe_str pa_nil)))) (pa_cons (pe_fld (pv 0) rfl) pa_nil)) pa_nil))))))) pss_nil) 
      (pss_cons (ps_if (pt_val (pe_callB call_isi (by rfl) T.m_isinstance (by decide +kernel) (pa_cons (pv 0) (pa_cons (pe_glob (v := .ref T.c_Values) rfl T.mc_Values rfl) pa_nil)))) (pss_cons (ps_set (i := 2) sc_law_fact_due.nd rfl (.inl rfl) (pe_call G_law_list (hr.mono (by decide)) (by rfl) T.g_law_list T.F_law_list.kp T.b_law_list .nil pass0 (pa_cons (pe_lc (own := [("choice", 3)]) (g := gName 3) rfl sc_law_fact_due.nd (pi_tup (pe_fld (pv 0) rfl)) (blkOk_by (own := [("choice", 3)]) (N := ["fact", "part", "choices", "choice", "word", "count"]) (sc := defScope s_law_fact_due) (by decide +kernel)) (fun _ _ _ _ _ => (pg_name (i := 3) sc_law_fact_due.nd rfl (Or.inl rfl))) (fun _ _ _ _ _ => pts_nil) (fun _ _ _ _ _ => (pe_call G_law_value (hr.mono (by decide)) (by rfl) T.g_law_value T.F_law_value.kp T.b_law_value .nil pass0 (pa_cons (pv 3) pa_nil)))) pa_nil))) 
      (pss_one (ps_ret (pe_op op_cat (pe_op op_cat (pe_op op_cat (pe_lst (pa_cons pe_int pa_nil)) (pe_call G_law_text (hr.mono (by decide)) (by rfl) T.g_law_text T.F_law_text.kp T.b_law_text .nil pass0 (pa_cons (pe_fld (pv 0) rfl) pa_nil))) (pv 2)) (pe_lst (pa_cons (pe_bm PySem.F.plainAttrs_list PySem.F.slot_list_index PySem.F.type_list_index mt_index (pe_lst (pa_cons pe_str (pa_cons pe_str (pa_cons pe_str pa_nil)))) (pa_cons (pe_fld (pv 0) rfl) pa_nil)) pa_nil)))))) pss_nil) 
      (pss_cons (ps_if (pt_val (pe_callB call_isi (by rfl) T.m_isinstance (by decide +kernel) (pa_cons (pv 0) (pa_cons (pe_glob (v := .ref T.c_Counts) rfl T.mc_Counts rfl) pa_nil)))) (pss_one (ps_ret (pe_op op_cat (pe_lst (pa_cons pe_int pa_nil)) (pe_call G_law_list (hr.mono (by decide)) (by rfl) T.g_law_list T.F_law_list.kp T.b_law_list .nil pass0 (pa_cons (pe_lc (own := [("word", 4), ("count", 5)]) (g := gTup K 2 (gCons (gName 4) (gCons (gName 5) gNil))) rfl sc_law_fact_due.nd (pi_tup (pe_fld (pv 0) rfl)) (blkOk_by (own := [("word", 4), ("count", 5)]) (N := ["fact", "part", "choices", "choice", "word", "count"]) (sc := defScope s_law_fact_due) (by decide +kernel)) (fun _ _ _ _ _ => (by exact (pg_tup rfl (pgs_cons (pg_name (i := 4) sc_law_fact_due.nd rfl (Or.inl rfl)) (pgs_cons (pg_name (i := 5) sc_law_fact_due.nd rfl (Or.inl rfl)) pgs_nil))))) (fun _ _ _ _ _ => pts_nil) (fun _ _ _ _ _ => (pe_op op_cat (pe_call G_law_text (hr.mono (by decide)) (by rfl) T.g_law_text T.F_law_text.kp T.b_law_text .nil pass0 (pa_cons (pv 4) pa_nil)) (pe_lst (pa_cons (pv 5) pa_nil))))) pa_nil))))) pss_nil) 
      (pss_one (ps_ret (pe_op op_cat (pe_op op_cat (pe_lst (pa_cons pe_int pa_nil)) (pe_call G_law_text (hr.mono (by decide)) (by rfl) T.g_law_text T.F_law_text.kp T.b_law_text .nil pass0 (pa_cons (pe_fld (pv 0) rfl) pa_nil))) (pe_call G_law_text (hr.mono (by decide)) (by rfl) T.g_law_text T.F_law_text.kp T.b_law_text .nil pass0 (pa_cons (pe_fld (pv 0) rfl) pa_nil))))))))))))), ?_⟩
    have P := Pt.start0 sz
    unfold F_law_fact_due at hF
    refine st_seq (st_if P (et_val (ev_isi (b := x_fact.is_Parts) (fun _ _ _ h => h) (ev_var (τ := (y_Fact T)) rfl h_fact) (tx_Fact T) (.own _) (kit_Fact_Parts T _))) (fun b_905 Z1 H1 e P1 => ?_) (fun b_905 Z1 H1 e P1 => ?_))
    · replace P := P1
      have hB := ifT b_905 hF
      replace hF := hB
      clear hB
      replace h_fact := ((y_Fact T)).mono e.z h_fact
      obtain ⟨u_908, h_909, hF⟩ := bind_inv hF
      obtain ⟨l_920, h_921, hF⟩ := bind_inv hF
      obtain ⟨r_922, h_923, hF⟩ := bind_inv hF
      obtain ⟨g_924, hF⟩ := guard_inv hF
      replace hF := Option.some.inj hF
      subst hF
      refine st_ret P (ev_fz (en_cat (ev_li (ev_fz (en_listD (eva_conss ev_int (eva_nils (τ := yInt))) (by show 1 ≤ sizeLine; decide)))) (ev_li (ev_call (cs_law_list T h_923) (eva_cons (ev_fz (en_mapO (υ := (yList yInt)) (fun (x_910 : Part) => ((F_law_counted x_910.centre).bind fun r_916 =>
      if ([x_910.start] : List Int).length + r_916.length ≤ 16777216 then
      if (([x_910.start] : List Int) ++ r_916).length + ([x_910.radius] : List Int).length ≤ 16777216 then
      some ((([x_910.start] : List Int) ++ r_916) ++ ([x_910.radius] : List Int)) else none else none : Option (List Int))) (ei_tup (ev_fld (fo_Parts_parts T) T.cl_Parts T.n_Parts_parts (pj_Fact_parts T (ev_var (τ := (y_Fact T)) rfl h_fact) h_909))) (fun x_910 v_911 Z' H' p zz hh rx_912 hp => by
            have hy := hp
            obtain ⟨r_916, h_917, hy⟩ := bind_inv hy
            obtain ⟨g_918, hy⟩ := guard_inv hy
            obtain ⟨g_919, hy⟩ := guard_inv hy
            have hy := Option.some.inj hy
            subst hy
            exact ⟨_, tgt_name, (wpe_s wpe_z (by decide)), (ev_fz (en_cat (ev_li (ev_fz (en_cat (ev_li (ev_fz (en_listD (eva_conss (ev_fld (fo_Part_start T) T.cl_Part T.n_Part_start (ev_var (τ := (y_Part T)) rfl rx_912)) (eva_nils (τ := yInt))) (by show 1 ≤ sizeLine; decide)))) (ev_li (ev_call (cs_law_counted T h_917) (eva_cons (ev_seqT (ev_fld (fo_Part_centre T) T.cl_Part T.n_Part_centre (ev_var (τ := (y_Part T)) rfl rx_912))) eva_nil))) g_918))) (ev_li (ev_fz (en_listD (eva_conss (ev_fld (fo_Part_radius T) T.cl_Part T.n_Part_radius (ev_var (τ := (y_Part T)) rfl rx_912)) (eva_nils (τ := yInt))) (by show 1 ≤ sizeLine; decide)))) g_919))⟩) h_921)) eva_nil))) g_924)) (fun v Z1 H1 P1 hv => ?_)
      exact q v _ _ P1.st hv
    · replace P := P1
      have hB := ifF b_905 hF
      replace hF := hB
      clear hB
      refine st_next0 ?_
      replace h_fact := ((y_Fact T)).mono e.z h_fact
      refine st_seq (st_if P (et_val (ev_isi (b := x_fact.is_Cell) (fun _ _ _ h => h) (ev_var (τ := (y_Fact T)) rfl h_fact) (tx_Fact T) (.own _) (kit_Fact_Cell T _))) (fun b_925 Z1 H1 e P1 => ?_) (fun b_925 Z1 H1 e P1 => ?_))
      · replace P := P1
        have hB := ifT b_925 hF
        replace hF := hB
        clear hB
        replace h_fact := ((y_Fact T)).mono e.z h_fact
        obtain ⟨u_931, h_932, hF⟩ := bind_inv hF
        obtain ⟨r_933, h_934, hF⟩ := bind_inv hF
        obtain ⟨g_935, hF⟩ := guard_inv hF
        obtain ⟨u_936, h_937, hF⟩ := bind_inv hF
        obtain ⟨r_938, h_939, hF⟩ := bind_inv hF
        obtain ⟨g_940, hF⟩ := guard_inv hF
        replace hF := Option.some.inj hF
        subst hF
        refine st_ret P (ev_fz (en_cat (ev_li (ev_fz (en_cat (ev_li (ev_fz (en_listD (eva_conss ev_int (eva_nils (τ := yInt))) (by show 1 ≤ sizeLine; decide)))) (ev_li (ev_call (cs_law_counted T h_934) (eva_cons (ev_seqT (ev_fld (fo_Cell_near T) T.cl_Cell T.n_Cell_near (pj_Fact_cell T (ev_var (τ := (y_Fact T)) rfl h_fact) h_932))) eva_nil))) g_935))) (ev_li (ev_call (cs_law_counted T h_939) (eva_cons (ev_seqT (ev_fld (fo_Cell_rival T) T.cl_Cell T.n_Cell_rival (pj_Fact_cell T (ev_var (τ := (y_Fact T)) rfl h_fact) h_937))) eva_nil))) g_940)) (fun v Z1 H1 P1 hv => ?_)
        exact q v _ _ P1.st hv
      · replace P := P1
        have hB := ifF b_925 hF
        replace hF := hB
        clear hB
        refine st_next0 ?_
        replace h_fact := ((y_Fact T)).mono e.z h_fact
        refine st_seq (st_if P (et_val (ev_isi (b := x_fact.is_Box) (fun _ _ _ h => h) (ev_var (τ := (y_Fact T)) rfl h_fact) (tx_Fact T) (.own _) (kit_Fact_Box T _))) (fun b_941 Z1 H1 e P1 => ?_) (fun b_941 Z1 H1 e P1 => ?_))
        · replace P := P1
          have hB := ifT b_941 hF
          replace hF := hB
          clear hB
          replace h_fact := ((y_Fact T)).mono e.z h_fact
          obtain ⟨u_947, h_948, hF⟩ := bind_inv hF
          obtain ⟨r_949, h_950, hF⟩ := bind_inv hF
          obtain ⟨g_951, hF⟩ := guard_inv hF
          obtain ⟨u_952, h_953, hF⟩ := bind_inv hF
          obtain ⟨r_954, h_955, hF⟩ := bind_inv hF
          obtain ⟨g_956, hF⟩ := guard_inv hF
          replace hF := Option.some.inj hF
          subst hF
          refine st_ret P (ev_fz (en_cat (ev_li (ev_fz (en_cat (ev_li (ev_fz (en_listD (eva_conss ev_int (eva_nils (τ := yInt))) (by show 1 ≤ sizeLine; decide)))) (ev_li (ev_call (cs_law_counted T h_950) (eva_cons (ev_seqT (ev_fld (fo_Box_low T) T.cl_Box T.n_Box_low (pj_Fact_box T (ev_var (τ := (y_Fact T)) rfl h_fact) h_948))) eva_nil))) g_951))) (ev_li (ev_call (cs_law_counted T h_955) (eva_cons (ev_seqT (ev_fld (fo_Box_high T) T.cl_Box T.n_Box_high (pj_Fact_box T (ev_var (τ := (y_Fact T)) rfl h_fact) h_953))) eva_nil))) g_956)) (fun v Z1 H1 P1 hv => ?_)
          exact q v _ _ P1.st hv
        · replace P := P1
          have hB := ifF b_941 hF
          replace hF := hB
          clear hB
          refine st_next0 ?_
          replace h_fact := ((y_Fact T)).mono e.z h_fact
          refine st_seq (st_if P (et_val (ev_isi (b := x_fact.is_Norms) (fun _ _ _ h => h) (ev_var (τ := (y_Fact T)) rfl h_fact) (tx_Fact T) (.own _) (kit_Fact_Norms T _))) (fun b_957 Z1 H1 e P1 => ?_) (fun b_957 Z1 H1 e P1 => ?_))
          · replace P := P1
            have hB := ifT b_957 hF
            replace hF := hB
            clear hB
            replace h_fact := ((y_Fact T)).mono e.z h_fact
            obtain ⟨u_958, h_959, hF⟩ := bind_inv hF
            obtain ⟨u_960, h_961, hF⟩ := bind_inv hF
            replace hF := Option.some.inj hF
            subst hF
            refine st_ret P (ev_fz (en_listD (eva_conss ev_int (eva_conss (ev_fld (fo_Norms_low T) T.cl_Norms T.n_Norms_low (pj_Fact_norms T (ev_var (τ := (y_Fact T)) rfl h_fact) h_959)) (eva_conss (ev_fld (fo_Norms_high T) T.cl_Norms T.n_Norms_high (pj_Fact_norms T (ev_var (τ := (y_Fact T)) rfl h_fact) h_961)) (eva_nils (τ := yInt))))) (by show 3 ≤ sizeLine; decide))) (fun v Z1 H1 P1 hv => ?_)
            exact q v _ _ P1.st hv
          · replace P := P1
            have hB := ifF b_957 hF
            replace hF := hB
            clear hB
            refine st_next0 ?_
            replace h_fact := ((y_Fact T)).mono e.z h_fact
            refine st_seq (st_if P (et_val (ev_isi (b := x_fact.is_Differ) (fun _ _ _ h => h) (ev_var (τ := (y_Fact T)) rfl h_fact) (tx_Fact T) (.own _) (kit_Fact_Differ T _))) (fun b_962 Z1 H1 e P1 => ?_) (fun b_962 Z1 H1 e P1 => ?_))
            · replace P := P1
              have hB := ifT b_962 hF
              replace hF := hB
              clear hB
              replace h_fact := ((y_Fact T)).mono e.z h_fact
              obtain ⟨u_968, h_969, hF⟩ := bind_inv hF
              obtain ⟨r_970, h_971, hF⟩ := bind_inv hF
              obtain ⟨g_972, hF⟩ := guard_inv hF
              obtain ⟨u_973, h_974, hF⟩ := bind_inv hF
              obtain ⟨g_975, hF⟩ := guard_inv hF
              replace hF := Option.some.inj hF
              subst hF
              refine st_ret P (ev_fz (en_cat (ev_li (ev_fz (en_cat (ev_li (ev_fz (en_listD (eva_conss ev_int (eva_nils (τ := yInt))) (by show 1 ≤ sizeLine; decide)))) (ev_li (ev_call (cs_law_counted T h_971) (eva_cons (ev_seqT (ev_fld (fo_Differ_centre T) T.cl_Differ T.n_Differ_centre (pj_Fact_differ T (ev_var (τ := (y_Fact T)) rfl h_fact) h_969))) eva_nil))) g_972))) (ev_li (ev_fz (en_listD (eva_conss (ev_fld (fo_Differ_most T) T.cl_Differ T.n_Differ_most (pj_Fact_differ T (ev_var (τ := (y_Fact T)) rfl h_fact) h_974)) (eva_nils (τ := yInt))) (by show 1 ≤ sizeLine; decide)))) g_975)) (fun v Z1 H1 P1 hv => ?_)
              exact q v _ _ P1.st hv
            · replace P := P1
              have hB := ifF b_962 hF
              replace hF := hB
              clear hB
              refine st_next0 ?_
              replace h_fact := ((y_Fact T)).mono e.z h_fact
              refine st_seq (st_if P (et_val (ev_isi (b := x_fact.is_Range) (fun _ _ _ h => h) (ev_var (τ := (y_Fact T)) rfl h_fact) (tx_Fact T) (.own _) (kit_Fact_Range T _))) (fun b_976 Z1 H1 e P1 => ?_) (fun b_976 Z1 H1 e P1 => ?_))
              · replace P := P1
                have hB := ifT b_976 hF
                replace hF := hB
                clear hB
                replace h_fact := ((y_Fact T)).mono e.z h_fact
                obtain ⟨u_982, h_983, hF⟩ := bind_inv hF
                obtain ⟨r_984, h_985, hF⟩ := bind_inv hF
                obtain ⟨g_986, hF⟩ := guard_inv hF
                obtain ⟨u_987, h_988, hF⟩ := bind_inv hF
                obtain ⟨u_989, h_990, hF⟩ := bind_inv hF
                obtain ⟨u_991, h_992, hF⟩ := bind_inv hF
                obtain ⟨j_993, h_994, hF⟩ := bind_inv hF
                obtain ⟨g_995, hF⟩ := guard_inv hF
                replace hF := Option.some.inj hF
                subst hF
                refine st_ret P (ev_fz (en_cat (ev_li (ev_fz (en_cat (ev_li (ev_fz (en_listD (eva_conss ev_int (eva_nils (τ := yInt))) (by show 1 ≤ sizeLine; decide)))) (ev_li (ev_call (cs_law_text T h_985) (eva_cons (ev_fld (fo_Range_field T) T.cl_Range T.n_Range_field (pj_Fact_range T (ev_var (τ := (y_Fact T)) rfl h_fact) h_983)) eva_nil))) g_986))) (ev_li (ev_fz (en_listD (eva_conss (ev_fld (fo_Range_low T) T.cl_Range T.n_Range_low (pj_Fact_range T (ev_var (τ := (y_Fact T)) rfl h_fact) h_988)) (eva_conss (ev_fld (fo_Range_high T) T.cl_Range T.n_Range_high (pj_Fact_range T (ev_var (τ := (y_Fact T)) rfl h_fact) h_990)) (eva_conss (ev_indexL fj_str (ev_li (ev_fz (en_listD (eva_conss ev_str (eva_conss ev_str (eva_conss ev_str (eva_nils (τ := yStr))))) (by show 3 ≤ sizeLine; decide)))) (ev_fld (fo_Range_lack T) T.cl_Range T.n_Range_lack (pj_Fact_range T (ev_var (τ := (y_Fact T)) rfl h_fact) h_992)) h_994) (eva_nils (τ := yInt))))) (by show 3 ≤ sizeLine; decide)))) g_995)) (fun v Z1 H1 P1 hv => ?_)
                exact q v _ _ P1.st hv
              · replace P := P1
                have hB := ifF b_976 hF
                replace hF := hB
                clear hB
                refine st_next0 ?_
                replace h_fact := ((y_Fact T)).mono e.z h_fact
                refine st_seq (st_if P (et_val (ev_isi (b := x_fact.is_Values) (fun _ _ _ h => h) (ev_var (τ := (y_Fact T)) rfl h_fact) (tx_Fact T) (.own _) (kit_Fact_Values T _))) (fun b_996 Z1 H1 e P1 => ?_) (fun b_996 Z1 H1 e P1 => ?_))
                · replace P := P1
                  have hB := ifT b_996 hF
                  replace hF := hB
                  clear hB
                  replace h_fact := ((y_Fact T)).mono e.z h_fact
                  obtain ⟨u_999, h_1000, hF⟩ := bind_inv hF
                  obtain ⟨l_1006, h_1007, hF⟩ := bind_inv hF
                  obtain ⟨r_1008, h_1009, hF⟩ := bind_inv hF
                  refine st_seq (st_set P (ev_call (cs_law_list T h_1009) (eva_cons (ev_fz (en_mapO (υ := (yList yInt)) (fun (x_1001 : Val) => ((F_law_value x_1001).bind fun r_1004 =>
                  some r_1004 : Option (List Int))) (ei_tup (ev_fld (fo_Values_choices T) T.cl_Values T.n_Values_choices (pj_Fact_values T (ev_var (τ := (y_Fact T)) rfl h_fact) h_1000))) (fun x_1001 v_1002 Z' H' p zz hh rx_1003 hp => by
                        have hy := hp
                        obtain ⟨r_1004, h_1005, hy⟩ := bind_inv hy
                        have hy := Option.some.inj hy
                        subst hy
                        exact ⟨_, tgt_name, (wpe_s wpe_z (by decide)), (ev_call (cs_law_value T h_1005) (eva_cons (ev_var (τ := (y_Val T)) rfl rx_1003) eva_nil))⟩) h_1007)) eva_nil)) (fun v_1010 Z1 H1 e P1 k_1011 => ?_))
                  refine st_nx ?_
                  replace P := P1
                  replace h_fact := ((y_Fact T)).mono e.z h_fact
                  obtain ⟨u_1028, h_1029, hF⟩ := bind_inv hF
                  obtain ⟨r_1030, h_1031, hF⟩ := bind_inv hF
                  obtain ⟨g_1032, hF⟩ := guard_inv hF
                  obtain ⟨g_1033, hF⟩ := guard_inv hF
                  obtain ⟨u_1034, h_1035, hF⟩ := bind_inv hF
                  obtain ⟨j_1036, h_1037, hF⟩ := bind_inv hF
                  obtain ⟨g_1038, hF⟩ := guard_inv hF
                  replace hF := Option.some.inj hF
                  subst hF
                  refine st_ret P (ev_fz (en_cat (ev_li (ev_fz (en_cat (ev_li (ev_fz (en_cat (ev_li (ev_fz (en_listD (eva_conss ev_int (eva_nils (τ := yInt))) (by show 1 ≤ sizeLine; decide)))) (ev_li (ev_call (cs_law_text T h_1031) (eva_cons (ev_fld (fo_Values_field T) T.cl_Values T.n_Values_field (pj_Fact_values T (ev_var (τ := (y_Fact T)) rfl h_fact) h_1029)) eva_nil))) g_1032))) (ev_li (ev_var (τ := (yList yInt)) rfl k_1011)) g_1033))) (ev_li (ev_fz (en_listD (eva_conss (ev_indexL fj_str (ev_li (ev_fz (en_listD (eva_conss ev_str (eva_conss ev_str (eva_conss ev_str (eva_nils (τ := yStr))))) (by show 3 ≤ sizeLine; decide)))) (ev_fld (fo_Values_lack T) T.cl_Values T.n_Values_lack (pj_Fact_values T (ev_var (τ := (y_Fact T)) rfl h_fact) h_1035)) h_1037) (eva_nils (τ := yInt))) (by show 1 ≤ sizeLine; decide)))) g_1038)) (fun v Z1 H1 P1 hv => ?_)
                  exact q v _ _ P1.st hv
                · replace P := P1
                  have hB := ifF b_996 hF
                  replace hF := hB
                  clear hB
                  refine st_next0 ?_
                  replace h_fact := ((y_Fact T)).mono e.z h_fact
                  refine st_seq (st_if P (et_val (ev_isi (b := x_fact.is_Counts) (fun _ _ _ h => h) (ev_var (τ := (y_Fact T)) rfl h_fact) (tx_Fact T) (.own _) (kit_Fact_Counts T _))) (fun b_1039 Z1 H1 e P1 => ?_) (fun b_1039 Z1 H1 e P1 => ?_))
                  · replace P := P1
                    have hB := ifT b_1039 hF
                    replace hF := hB
                    clear hB
                    replace h_fact := ((y_Fact T)).mono e.z h_fact
                    obtain ⟨u_1042, h_1043, hF⟩ := bind_inv hF
                    obtain ⟨l_1057, h_1058, hF⟩ := bind_inv hF
                    obtain ⟨r_1059, h_1060, hF⟩ := bind_inv hF
                    obtain ⟨g_1061, hF⟩ := guard_inv hF
                    replace hF := Option.some.inj hF
                    subst hF
                    refine st_ret P (ev_fz (en_cat (ev_li (ev_fz (en_listD (eva_conss ev_int (eva_nils (τ := yInt))) (by show 1 ≤ sizeLine; decide)))) (ev_li (ev_call (cs_law_list T h_1060) (eva_cons (ev_fz (en_mapO (υ := (yList yInt)) (fun (x_1044 : (Str × Int)) => ((F_law_text x_1044.1).bind fun r_1054 =>
                    if r_1054.length + ([x_1044.2] : List Int).length ≤ 16777216 then
                    some (r_1054 ++ ([x_1044.2] : List Int)) else none : Option (List Int))) (ei_tup (ev_fld (fo_Counts_words T) T.cl_Counts T.n_Counts_words (pj_Fact_counts T (ev_var (τ := (y_Fact T)) rfl h_fact) h_1043))) (fun x_1044 v_1045 Z' H' p zz hh rx_1046 hp => by
                          obtain ⟨v_1047, v_1048, k_1049, k_1050, tg_1051⟩ := tgt_p2 rx_1046
                          have hy := hp
                          obtain ⟨r_1054, h_1055, hy⟩ := bind_inv hy
                          obtain ⟨g_1056, hy⟩ := guard_inv hy
                          have hy := Option.some.inj hy
                          subst hy
                          exact ⟨_, (tg_1051 tgt_name tgt_name), (wpe_s (wpe_s wpe_z (by decide)) (by decide)), (ev_fz (en_cat (ev_li (ev_call (cs_law_text T h_1055) (eva_cons (ev_var (τ := yStr) rfl k_1049) eva_nil))) (ev_li (ev_fz (en_listD (eva_conss (ev_var (τ := yInt) rfl k_1050) (eva_nils (τ := yInt))) (by show 1 ≤ sizeLine; decide)))) g_1056))⟩) h_1058)) eva_nil))) g_1061)) (fun v Z1 H1 P1 hv => ?_)
                    exact q v _ _ P1.st hv
                  · replace P := P1
                    have hB := ifF b_1039 hF
                    replace hF := hB
                    clear hB
                    refine st_next0 ?_
                    replace h_fact := ((y_Fact T)).mono e.z h_fact
                    obtain ⟨u_1067, h_1068, hF⟩ := bind_inv hF
                    obtain ⟨r_1069, h_1070, hF⟩ := bind_inv hF
                    obtain ⟨g_1071, hF⟩ := guard_inv hF
                    obtain ⟨u_1072, h_1073, hF⟩ := bind_inv hF
                    obtain ⟨r_1074, h_1075, hF⟩ := bind_inv hF
                    obtain ⟨g_1076, hF⟩ := guard_inv hF
                    replace hF := Option.some.inj hF
                    subst hF
                    refine st_ret P (ev_fz (en_cat (ev_li (ev_fz (en_cat (ev_li (ev_fz (en_listD (eva_conss ev_int (eva_nils (τ := yInt))) (by show 1 ≤ sizeLine; decide)))) (ev_li (ev_call (cs_law_text T h_1070) (eva_cons (ev_fld (fo_Names_low T) T.cl_Names T.n_Names_low (pj_Fact_names T (ev_var (τ := (y_Fact T)) rfl h_fact) h_1068)) eva_nil))) g_1071))) (ev_li (ev_call (cs_law_text T h_1075) (eva_cons (ev_fld (fo_Names_high T) T.cl_Names T.n_Names_high (pj_Fact_names T (ev_var (τ := (y_Fact T)) rfl h_fact) h_1073)) eva_nil))) g_1076)) (fun v Z1 H1 P1 hv => ?_)
                    exact q v _ _ P1.st hv
theorem cs_law_fact_due (T : Txt K mg) {μ : Type} {M : Mu μ} {s : μ} {E : XK} {x_fact : Fact} {y : (List Int)} (h : F_law_fact_due x_fact = some y) : CallS M (sp_law_fact_due T) E (rac (ty (y_Fact T) x_fact) ra0) s (ty (yList yInt) y) s := by
  rintro Z H vs sz m ⟨v_fact, _, rfl, h_fact, rfl⟩ Q q
  exact ⟨Z, v_fact, x_fact, y, rfl, sz, h_fact, h, fun v Z2 H2 st hv => q v Z2 H2 st.pure (M.pure st m) hv⟩
def sp_law_record_due (T : Txt K mg) : Sp := fun vs H Q _ => ∃ (Z0 : Hp) (v_record : V) (x_record : Record) (y : (List Int)), vs = [v_record] ∧ (Same Z0 H) ∧ (((y_Record T)).r Z0 v_record x_record) ∧ (F_law_record_due x_record = some y) ∧ ∀ v Z' H', Step [] Z0 H Z' H' → ((yList yInt)).r Z' v y → Q v H'
set_option maxHeartbeats 4000000 in
theorem ok_law_record_due (T : Txt K mg) : FnOk P w K mg base CX0 3 T.f_law_record_due T.d_law_record_due ["record"] (sp_law_record_due T) := by
  have G_law_text : FnOk P w K mg base CX0 1 T.f_law_text T.d_law_text ["text"] (sp_law_text T) := ok_law_text T
  have G_law_list : FnOk P w K mg base CX0 1 T.f_law_list T.d_law_list ["codes"] (sp_law_list T) := ok_law_list T
  have G_law_value : FnOk P w K mg base CX0 2 T.f_law_value T.d_law_value ["worth"] (sp_law_value T) := ok_law_value T
  have G_law_counted : FnOk P w K mg base CX0 1 T.f_law_counted T.d_law_counted ["row"] (sp_law_counted T) := ok_law_counted T
  refine T.F_law_record_due.ok sc_law_record_due (fun vs H Q E h => ?_) (fun cdv A outer s H vs Q E hr h => ?_)
  · obtain ⟨Z0, v_record, x_record, y, rfl, _⟩ := h
    rfl
  · obtain ⟨Z0, v_record, x_record, y, rfl, sz, h_record, hF, q⟩ := h
    refine ⟨_, (pss_cons (ps_set (i := 1) sc_law_record_due.nd rfl (.inl rfl) (pe_op op_cat (pe_call G_law_text (hr.mono (by decide)) (by rfl) T.g_law_text T.F_law_text.kp T.b_law_text .nil pass0 (pa_cons (pe_fld (pv 0) rfl) pa_nil)) (pe_call G_law_counted (hr.mono (by decide)) (by rfl) T.g_law_counted T.F_law_counted.kp T.b_law_counted .nil pass0 (pa_cons (pe_fld (pv 0) rfl) pa_nil)))) 
      (pss_cons (ps_set (i := 1) sc_law_record_due.nd rfl (.inl rfl) (pe_op op_cat (pv 1) (pe_call G_law_list (hr.mono (by decide)) (by rfl) T.g_law_list T.F_law_list.kp T.b_law_list .nil pass0 (pa_cons (pe_lc (own := [("name", 2), ("worth", 3)]) (g := gTup K 2 (gCons (gName 2) (gCons (gName 3) gNil))) rfl sc_law_record_due.nd (pi_tup (pe_fld (pv 0) rfl)) (blkOk_by (own := [("name", 2), ("worth", 3)]) (N := ["record", "code", "name", "worth", "word", "count"]) (sc := defScope s_law_record_due) (by decide +kernel)) (fun _ _ _ _ _ => (by exact (pg_tup rfl (pgs_cons (pg_name (i := 2) sc_law_record_due.nd rfl (Or.inl rfl)) (pgs_cons (pg_name (i := 3) sc_law_record_due.nd rfl (Or.inl rfl)) pgs_nil))))) (fun _ _ _ _ _ => pts_nil) (fun _ _ _ _ _ => (pe_op op_cat (pe_call G_law_text (hr.mono (by decide)) (by rfl) T.g_law_text T.F_law_text.kp T.b_law_text .nil pass0 (pa_cons (pv 2) pa_nil)) (pe_call G_law_value (hr.mono (by decide)) (by rfl) T.g_law_value T.F_law_value.kp T.b_law_value .nil pass0 (pa_cons (pv 3) pa_nil))))) pa_nil)))) 
      (pss_one (ps_ret (pe_op op_cat (pv 1) (pe_call G_law_list (hr.mono (by decide)) (by rfl) T.g_law_list T.F_law_list.kp T.b_law_list .nil pass0 (pa_cons (pe_lc (own := [("word", 4), ("count", 5)]) (g := gTup K 2 (gCons (gName 4) (gCons (gName 5) gNil))) rfl sc_law_record_due.nd (pi_tup (pe_fld (pv 0) rfl)) (blkOk_by (own := [("word", 4), ("count", 5)]) (N := ["record", "code", "name", "worth", "word", "count"]) (sc := defScope s_law_record_due) (by decide +kernel)) (fun _ _ _ _ _ => (by exact (pg_tup rfl (pgs_cons (pg_name (i := 4) sc_law_record_due.nd rfl (Or.inl rfl)) (pgs_cons (pg_name (i := 5) sc_law_record_due.nd rfl (Or.inl rfl)) pgs_nil))))) (fun _ _ _ _ _ => pts_nil) (fun _ _ _ _ _ => (pe_op op_cat (pe_call G_law_text (hr.mono (by decide)) (by rfl) T.g_law_text T.F_law_text.kp T.b_law_text .nil pass0 (pa_cons (pv 4) pa_nil)) (pe_lst (pa_cons (pv 5) pa_nil))))) pa_nil))))))), ?_⟩
    have P := Pt.start0 sz
    unfold F_law_record_due at hF
    obtain ⟨r_1105, h_1106, hF⟩ := bind_inv hF
    obtain ⟨r_1107, h_1108, hF⟩ := bind_inv hF
    obtain ⟨g_1109, hF⟩ := guard_inv hF
    refine st_seq (st_set P (ev_fz (en_cat (ev_li (ev_call (cs_law_text T h_1106) (eva_cons (ev_fld (fo_Record_name T) T.cl_Record T.n_Record_name (ev_var (τ := (y_Record T)) rfl h_record)) eva_nil))) (ev_li (ev_call (cs_law_counted T h_1108) (eva_cons (ev_seqT (ev_fld (fo_Record_vector T) T.cl_Record T.n_Record_vector (ev_var (τ := (y_Record T)) rfl h_record))) eva_nil))) g_1109)) (fun v_1110 Z1 H1 e P1 k_1111 => ?_))
    refine st_nx ?_
    replace P := P1
    replace h_record := ((y_Record T)).mono e.z h_record
    obtain ⟨l_1127, h_1128, hF⟩ := bind_inv hF
    obtain ⟨r_1129, h_1130, hF⟩ := bind_inv hF
    obtain ⟨g_1131, hF⟩ := guard_inv hF
    obtain ⟨x_code_1132, h_1133, hF⟩ := bind_inv hF
    replace h_1133 := Option.some.inj h_1133
    refine st_seq (st_set P (ev_cast (ev_fz (en_cat (ev_li (ev_var (τ := (yList yInt)) rfl k_1111)) (ev_li (ev_call (cs_law_list T h_1130) (eva_cons (ev_fz (en_mapO (υ := (yList yInt)) (fun (x_1112 : (Str × Val)) => ((F_law_text x_1112.1).bind fun r_1122 =>
    (F_law_value x_1112.2).bind fun r_1124 =>
    if r_1122.length + r_1124.length ≤ 16777216 then
    some (r_1122 ++ r_1124) else none : Option (List Int))) (ei_tup (ev_fld (fo_Record_fields T) T.cl_Record T.n_Record_fields (ev_var (τ := (y_Record T)) rfl h_record))) (fun x_1112 v_1113 Z' H' p zz hh rx_1114 hp => by
          obtain ⟨v_1115, v_1116, k_1117, k_1118, tg_1119⟩ := tgt_p2 rx_1114
          have hy := hp
          obtain ⟨r_1122, h_1123, hy⟩ := bind_inv hy
          obtain ⟨r_1124, h_1125, hy⟩ := bind_inv hy
          obtain ⟨g_1126, hy⟩ := guard_inv hy
          have hy := Option.some.inj hy
          subst hy
          exact ⟨_, (tg_1119 tgt_name tgt_name), (wpe_s (wpe_s wpe_z (by decide)) (by decide)), (ev_fz (en_cat (ev_li (ev_call (cs_law_text T h_1123) (eva_cons (ev_var (τ := yStr) rfl k_1117) eva_nil))) (ev_li (ev_call (cs_law_value T h_1125) (eva_cons (ev_var (τ := (y_Val T)) rfl k_1118) eva_nil))) g_1126))⟩) h_1128)) eva_nil))) g_1131)) h_1133) (fun v_1134 Z1 H1 e P1 k_1135 => ?_))
    refine st_nx ?_
    replace P := P1
    replace h_record := ((y_Record T)).mono e.z h_record
    obtain ⟨l_1149, h_1150, hF⟩ := bind_inv hF
    obtain ⟨r_1151, h_1152, hF⟩ := bind_inv hF
    obtain ⟨g_1153, hF⟩ := guard_inv hF
    replace hF := Option.some.inj hF
    subst hF
    refine st_ret P (ev_fz (en_cat (ev_li (ev_var (τ := (yList yInt)) rfl k_1135)) (ev_li (ev_call (cs_law_list T h_1152) (eva_cons (ev_fz (en_mapO (υ := (yList yInt)) (fun (x_1136 : (Str × Int)) => ((F_law_text x_1136.1).bind fun r_1146 =>
    if r_1146.length + ([x_1136.2] : List Int).length ≤ 16777216 then
    some (r_1146 ++ ([x_1136.2] : List Int)) else none : Option (List Int))) (ei_tup (ev_fld (fo_Record_words T) T.cl_Record T.n_Record_words (ev_var (τ := (y_Record T)) rfl h_record))) (fun x_1136 v_1137 Z' H' p zz hh rx_1138 hp => by
          obtain ⟨v_1139, v_1140, k_1141, k_1142, tg_1143⟩ := tgt_p2 rx_1138
          have hy := hp
          obtain ⟨r_1146, h_1147, hy⟩ := bind_inv hy
          obtain ⟨g_1148, hy⟩ := guard_inv hy
          have hy := Option.some.inj hy
          subst hy
          exact ⟨_, (tg_1143 tgt_name tgt_name), (wpe_s (wpe_s wpe_z (by decide)) (by decide)), (ev_fz (en_cat (ev_li (ev_call (cs_law_text T h_1147) (eva_cons (ev_var (τ := yStr) rfl k_1141) eva_nil))) (ev_li (ev_fz (en_listD (eva_conss (ev_var (τ := yInt) rfl k_1142) (eva_nils (τ := yInt))) (by show 1 ≤ sizeLine; decide)))) g_1148))⟩) h_1150)) eva_nil))) g_1153)) (fun v Z1 H1 P1 hv => ?_)
    exact q v _ _ P1.st hv
theorem cs_law_record_due (T : Txt K mg) {μ : Type} {M : Mu μ} {s : μ} {E : XK} {x_record : Record} {y : (List Int)} (h : F_law_record_due x_record = some y) : CallS M (sp_law_record_due T) E (rac (ty (y_Record T) x_record) ra0) s (ty (yList yInt) y) s := by
  rintro Z H vs sz m ⟨v_record, _, rfl, h_record, rfl⟩ Q q
  exact ⟨Z, v_record, x_record, y, rfl, sz, h_record, h, fun v Z2 H2 st hv => q v Z2 H2 st.pure (M.pure st m) hv⟩
def sp_law_region_due (T : Txt K mg) : Sp := fun vs H Q _ => ∃ (Z0 : Hp) (v_region : V) (x_region : Region) (y : (List Int)), vs = [v_region] ∧ (Same Z0 H) ∧ (((y_Region T)).r Z0 v_region x_region) ∧ (F_law_region_due x_region = some y) ∧ ∀ v Z' H', Step [] Z0 H Z' H' → ((yList yInt)).r Z' v y → Q v H'
set_option maxHeartbeats 4000000 in
theorem ok_law_region_due (T : Txt K mg) : FnOk P w K mg base CX0 4 T.f_law_region_due T.d_law_region_due ["region"] (sp_law_region_due T) := by
  have G_law_fact_due : FnOk P w K mg base CX0 3 T.f_law_fact_due T.d_law_fact_due ["fact"] (sp_law_fact_due T) := ok_law_fact_due T
  have G_law_list : FnOk P w K mg base CX0 1 T.f_law_list T.d_law_list ["codes"] (sp_law_list T) := ok_law_list T
  refine T.F_law_region_due.ok sc_law_region_due (fun vs H Q E h => ?_) (fun cdv A outer s H vs Q E hr h => ?_)
  · obtain ⟨Z0, v_region, x_region, y, rfl, _⟩ := h
    rfl
  · obtain ⟨Z0, v_region, x_region, y, rfl, sz, h_region, hF, q⟩ := h
    refine ⟨_, (pss_cons (ps_set (i := 1) sc_law_region_due.nd rfl (.inl rfl) (pe_lst (pa_cons pe_int pa_nil))) 
      (pss_cut (ps_if (pt_cmpR op_notN (pe_fld (pv 0) rfl) pe_non (nomark _)) (pss_one (ps_set (i := 1) sc_law_region_due.nd rfl (.inl rfl) (pe_lst (pa_cons pe_int (pa_cons (pe_fld (pv 0) rfl) pa_nil))))) pss_nil) 
      (pss_one (ps_ret (pe_op op_cat (pv 1) (pe_call G_law_list (hr.mono (by decide)) (by rfl) T.g_law_list T.F_law_list.kp T.b_law_list .nil pass0 (pa_cons (pe_lc (own := [("fact", 2)]) (g := gName 2) rfl sc_law_region_due.nd (pi_tup (pe_fld (pv 0) rfl)) (blkOk_by (own := [("fact", 2)]) (N := ["region", "parent", "fact"]) (sc := defScope s_law_region_due) (by decide +kernel)) (fun _ _ _ _ _ => (pg_name (i := 2) sc_law_region_due.nd rfl (Or.inl rfl))) (fun _ _ _ _ _ => pts_nil) (fun _ _ _ _ _ => (pe_call G_law_fact_due (hr.mono (by decide)) (by rfl) T.g_law_fact_due T.F_law_fact_due.kp T.b_law_fact_due .nil pass0 (pa_cons (pv 2) pa_nil)))) pa_nil))))))), ?_⟩
    have P := Pt.start0 sz
    unfold F_law_region_due at hF
    refine st_seq (st_set P (ev_fz (en_listD (eva_conss ev_int (eva_nils (τ := yInt))) (by show 1 ≤ sizeLine; decide))) (fun v_1157 Z1 H1 e P1 k_1158 => ?_))
    refine st_nx ?_
    replace P := P1
    replace h_region := ((y_Region T)).mono e.z h_region
    obtain ⟨w_1161, hB_1160, hF⟩ := bind_inv hF
    refine ⟨fun σ' H' => ∃ Z', ∃ (v_1163 : V) (y_1165 : Option V), σ' = [some v_region, some v_1163, y_1165] ∧ Pt [] Z0 H muN Z' H' () ∧ ((y_Region T)).r Z' v_region x_region ∧ ((yList yInt)).r Z' v_1163 w_1161, ?_, ?_⟩
    · refine st_if P (et_cmp (ev_notN (ev_fld (fo_Region_parent T) T.cl_Region T.n_Region_parent (ev_var (τ := (y_Region T)) rfl h_region)) ev_non)) (fun b_1159 Z1 H1 e P1 => ?_) (fun b_1159 Z1 H1 e P1 => ?_)
      · replace P := P1
        replace hB_1160 := ifT b_1159 hB_1160
        replace h_region := ((y_Region T)).mono e.z h_region
        replace k_1158 := ((yList yInt)).mono e.z k_1158
        obtain ⟨u_1166, h_1167, hB_1160⟩ := bind_inv hB_1160
        obtain ⟨x_parent_1168, h_1169, hB_1160⟩ := bind_inv hB_1160
        replace h_1169 := Option.some.inj h_1169
        refine st_set P (ev_cast (ev_fz (en_listD (eva_conss ev_int (eva_conss (ev_uno (ev_fld (fo_Region_parent T) T.cl_Region T.n_Region_parent (ev_var (τ := (y_Region T)) rfl h_region)) h_1167) (eva_nils (τ := yInt)))) (by show 2 ≤ sizeLine; decide))) h_1169) (fun v_1170 Z1 H1 e P1 k_1171 => ?_)
        replace P := P1
        replace h_region := ((y_Region T)).mono e.z h_region
        replace hB_1160 := Option.some.inj hB_1160
        subst hB_1160
        exact ⟨_, _, _, rfl, P, h_region, k_1171⟩
      · replace P := P1
        replace hB_1160 := ifF b_1159 hB_1160
        replace h_region := ((y_Region T)).mono e.z h_region
        replace k_1158 := ((yList yInt)).mono e.z k_1158
        replace hB_1160 := Option.some.inj hB_1160
        subst hB_1160
        exact ⟨_, _, _, rfl, P, h_region, k_1158⟩
    rintro σ' H' ⟨Z1, v_1163, y_1165, rfl, P, k_1162, k_1164⟩
    obtain ⟨l_1177, h_1178, hF⟩ := bind_inv hF
    obtain ⟨r_1179, h_1180, hF⟩ := bind_inv hF
    obtain ⟨g_1181, hF⟩ := guard_inv hF
    replace hF := Option.some.inj hF
    subst hF
    refine st_ret P (ev_fz (en_cat (ev_li (ev_var (τ := (yList yInt)) rfl k_1164)) (ev_li (ev_call (cs_law_list T h_1180) (eva_cons (ev_fz (en_mapO (υ := (yList yInt)) (fun (x_1172 : Fact) => ((F_law_fact_due x_1172).bind fun r_1175 =>
    some r_1175 : Option (List Int))) (ei_tup (ev_fld (fo_Region_facts T) T.cl_Region T.n_Region_facts (ev_var (τ := (y_Region T)) rfl k_1162))) (fun x_1172 v_1173 Z' H' p zz hh rx_1174 hp => by
          have hy := hp
          obtain ⟨r_1175, h_1176, hy⟩ := bind_inv hy
          have hy := Option.some.inj hy
          subst hy
          exact ⟨_, tgt_name, (wpe_s wpe_z (by decide)), (ev_call (cs_law_fact_due T h_1176) (eva_cons (ev_var (τ := (y_Fact T)) rfl rx_1174) eva_nil))⟩) h_1178)) eva_nil))) g_1181)) (fun v Z1 H1 P1 hv => ?_)
    exact q v _ _ P1.st hv
theorem cs_law_region_due (T : Txt K mg) {μ : Type} {M : Mu μ} {s : μ} {E : XK} {x_region : Region} {y : (List Int)} (h : F_law_region_due x_region = some y) : CallS M (sp_law_region_due T) E (rac (ty (y_Region T) x_region) ra0) s (ty (yList yInt) y) s := by
  rintro Z H vs sz m ⟨v_region, _, rfl, h_region, rfl⟩ Q q
  exact ⟨Z, v_region, x_region, y, rfl, sz, h_region, h, fun v Z2 H2 st hv => q v Z2 H2 st.pure (M.pure st m) hv⟩
def sp_law_parts_agree (T : Txt K mg) : Sp := fun vs H Q _ => ∃ (st sc : Addr) (Z0 : Hp) (ds : DS) (y : (Bool × DS)), vs = [.ref st] ∧ (Same Z0 H) ∧ ((muD st sc).m ds Z0 H) ∧ (F_law_parts_agree ds = some y) ∧ ∀ v Z' H', Step (muD st sc).fp Z0 H Z' H' → (muD st sc).m y.2 Z' H' → (yBool).r Z' v y.1 → Q v H'
set_option maxHeartbeats 4000000 in
theorem ok_law_parts_agree (T : Txt K mg) : FnOk P w K mg base CX0 5 T.f_law_parts_agree T.d_law_parts_agree ["state"] (sp_law_parts_agree T) := by
  have G_list_code : FnOk P w K mg base CX0 1 T.f_list_code T.d_list_code ["codes"] (sp_list_code T) := ok_list_code T
  have G_maybe_code : FnOk P w K mg base CX0 1 T.f_maybe_code T.d_maybe_code ["code"] (sp_maybe_code T) := ok_maybe_code T
  have G_numbers_code : FnOk P w K mg base CX0 1 T.f_numbers_code T.d_numbers_code ["numbers"] (sp_numbers_code T) := ok_numbers_code T
  have G_law_counted : FnOk P w K mg base CX0 1 T.f_law_counted T.d_law_counted ["row"] (sp_law_counted T) := ok_law_counted T
  have G_value_code : FnOk P w K mg base CX0 3 T.f_value_code T.d_value_code ["worth"] (sp_value_code T) := ok_value_code T
  have G_law_value : FnOk P w K mg base CX0 2 T.f_law_value T.d_law_value ["worth"] (sp_law_value T) := ok_law_value T
  have G_string_code : FnOk P w K mg base CX0 2 T.f_string_code T.d_string_code ["text"] (sp_string_code T) := ok_string_code T
  have G_law_text : FnOk P w K mg base CX0 1 T.f_law_text T.d_law_text ["text"] (sp_law_text T) := ok_law_text T
  have G_law_numbers : FnOk P w K mg base CX0 3 T.f_law_numbers T.d_law_numbers ["state"] (sp_law_numbers T) := ok_law_numbers T
  have G_law_worth : FnOk P w K mg base CX0 4 T.f_law_worth T.d_law_worth ["state"] (sp_law_worth T) := ok_law_worth T
  have G_law_string : FnOk P w K mg base CX0 3 T.f_law_string T.d_law_string ["state"] (sp_law_string T) := ok_law_string T
  refine T.F_law_parts_agree.ok sc_law_parts_agree (fun vs H Q E h => ?_) (fun cdv A outer s H vs Q E hr h => ?_)
  · obtain ⟨st, sc, Z0, ds, y, rfl, _⟩ := h
    rfl
  · obtain ⟨st, sc, Z0, ds, y, rfl, sz, hm, hF, q⟩ := h
    refine ⟨_, (pss_cons (ps_set (i := 1) sc_law_parts_agree.nd rfl (.inl rfl) (pe_call G_law_string (hr.mono (by decide)) (by rfl) T.g_law_string T.F_law_string.kp T.b_law_string .nil pass0 (pa_cons (pv 0) pa_nil))) 
      (pss_cons (ps_set (i := 2) sc_law_parts_agree.nd rfl (.inl rfl) (pe_call G_law_worth (hr.mono (by decide)) (by rfl) T.g_law_worth T.F_law_worth.kp T.b_law_worth .nil pass0 (pa_cons (pv 0) pa_nil))) 
      (pss_cons (ps_set (i := 3) sc_law_parts_agree.nd rfl (.inl rfl) (pe_call G_law_numbers (hr.mono (by decide)) (by rfl) T.g_law_numbers T.F_law_numbers.kp T.b_law_numbers .nil pass0 (pa_cons (pv 0) pa_nil))) 
      (pss_cons (ps_if (PW.pt (pw_or (pt_cmpR (op_neD hr.units) (pe_call G_string_code (hr.mono (by decide)) (by rfl) T.g_string_code T.F_string_code.kp T.b_string_code .nil pass0 (pa_cons (pv 1) pa_nil)) (pe_call G_law_text (hr.mono (by decide)) (by rfl) T.g_law_text T.F_law_text.kp T.b_law_text .nil pass0 (pa_cons (pv 1) pa_nil)) (nomark _)) (pw_or (pt_cmpR (op_neD hr.units) (pe_call G_value_code (hr.mono (by decide)) (by rfl) T.g_value_code T.F_value_code.kp T.b_value_code .nil pass0 (pa_cons (pv 2) pa_nil)) (pe_call G_law_value (hr.mono (by decide)) (by rfl) T.g_law_value T.F_law_value.kp T.b_law_value .nil pass0 (pa_cons (pv 2) pa_nil)) (nomark _)) (pw_or1 (pt_cmpR (op_neD hr.units) (pe_call G_numbers_code (hr.mono (by decide)) (by rfl) T.g_numbers_code T.F_numbers_code.kp T.b_numbers_code .nil pass0 (pa_cons (pe_callTy call_list_of (by rfl) T.m_list (by decide +kernel) (pa_cons (pv 3) pa_nil)) pa_nil)) (pe_call G_law_counted (hr.mono (by decide)) (by rfl) T.g_law_counted T.F_law_counted.kp T.b_law_counted .nil pass0 (pa_cons (pv 3) pa_nil)) (nomark _)))))) (pss_one (ps_ret pe_bl)) pss_nil) 
      (pss_cons (ps_if (PW.pt (pw_or (pt_cmpR (op_neD hr.units) (pe_call G_maybe_code (hr.mono (by decide)) (by rfl) T.g_maybe_code T.F_maybe_code.kp T.b_maybe_code .nil pass0 (pa_cons pe_non pa_nil)) (pe_lst (pa_cons pe_int pa_nil)) (nomark _)) (pw_or1 (pt_cmpR (op_neD hr.units) (pe_call G_maybe_code (hr.mono (by decide)) (by rfl) T.g_maybe_code T.F_maybe_code.kp T.b_maybe_code .nil pass0 (pa_cons (pe_callTy call_list_of (by rfl) T.m_list (by decide +kernel) (pa_cons (pv 3) pa_nil)) pa_nil)) (pe_op op_cat (pe_lst (pa_cons pe_int pa_nil)) (pv 3)) (nomark _))))) (pss_one (ps_ret pe_bl)) pss_nil) 
      (pss_one (ps_ret (pe_cmpR (op_eqD hr.units) (pe_call G_list_code (hr.mono (by decide)) (by rfl) T.g_list_code T.F_list_code.kp T.b_list_code .nil pass0 (pa_cons (pe_lst (pa_cons (pe_callTy call_list_of (by rfl) T.m_list (by decide +kernel) (pa_cons (pv 3) pa_nil)) (pa_cons (pe_lst pa_nil) (pa_cons (pe_lst (pa_cons pe_int pa_nil)) pa_nil)))) pa_nil)) (pe_op op_cat (pe_op op_cat (pe_lst (pa_cons pe_int pa_nil)) (pv 3)) (pe_lst (pa_cons pe_int pa_nil))) (nomark _))))))))), ?_⟩
    have P := Pt.start (muD st sc) sz hm
    unfold F_law_parts_agree at hF
    obtain ⟨r_1208, h_1209, hF⟩ := bind_inv hF
    refine st_seq (st_set P (ev_call (cs_law_string T h_1209) (eva_cons (ev_ref rfl) eva_nil)) (fun v_1210 Z1 H1 e P1 k_1211 => ?_))
    refine st_nx ?_
    replace P := P1
    obtain ⟨r_1212, h_1213, hF⟩ := bind_inv hF
    refine st_seq (st_set P (ev_call (cs_law_worth T h_1213) (eva_cons (ev_ref rfl) eva_nil)) (fun v_1214 Z1 H1 e P1 k_1215 => ?_))
    refine st_nx ?_
    replace P := P1
    obtain ⟨r_1216, h_1217, hF⟩ := bind_inv hF
    refine st_seq (st_set P (ev_call (cs_law_numbers T h_1217) (eva_cons (ev_ref rfl) eva_nil)) (fun v_1218 Z1 H1 e P1 k_1219 => ?_))
    refine st_nx ?_
    replace P := P1
    replace k_1215 := ((y_Val T)).mono e.z k_1215
    obtain ⟨r_1220, h_1221, hF⟩ := bind_inv hF
    obtain ⟨r_1222, h_1223, hF⟩ := bind_inv hF
    obtain ⟨b_1235, h_1234, hF⟩ := bind_inv hF
    refine st_seq (st_if P (et_orO (et_cmp (ev_neD (eqd_list eqd_int) (by decide) (ev_call (cs_string_code T h_1221) (eva_cons (ev_var (τ := yStr) rfl k_1211) eva_nil)) (ev_call (cs_law_text T h_1223) (eva_cons (ev_var (τ := yStr) rfl k_1211) eva_nil)))) (fun _ y hy => by
          obtain ⟨r_1224, h_1225, hy⟩ := bind_inv hy
          obtain ⟨r_1226, h_1227, hy⟩ := bind_inv hy
          obtain ⟨b_1233, h_1232, hy⟩ := bind_inv hy
          have hy := Option.some.inj hy
          subst hy
          exact (et_orO (et_cmp (ev_neD (eqd_list eqd_int) (by decide) (ev_call (cs_value_code T h_1225) (eva_cons (ev_var (τ := (y_Val T)) rfl k_1215) eva_nil)) (ev_call (cs_law_value T h_1227) (eva_cons (ev_var (τ := (y_Val T)) rfl k_1215) eva_nil)))) (fun _ y hy => by
                obtain ⟨r_1228, h_1229, hy⟩ := bind_inv hy
                obtain ⟨r_1230, h_1231, hy⟩ := bind_inv hy
                have hy := Option.some.inj hy
                subst hy
                exact (et_cmp (ev_neD (eqd_list eqd_int) (by decide) (ev_call (cs_numbers_code T h_1229) (eva_cons (ev_seqL (ev_fz (en_list_of (fun _ _ _ h => h) (ev_li (ev_var (τ := (yList yInt)) rfl k_1219))))) eva_nil)) (ev_call (cs_law_counted T h_1231) (eva_cons (ev_seqL (ev_var (τ := (yList yInt)) rfl k_1219)) eva_nil))))) h_1232)) h_1234) (fun b_1236 Z1 H1 e P1 => ?_) (fun b_1236 Z1 H1 e P1 => ?_))
    · replace P := P1
      have hB := ifT b_1236 hF
      replace hF := hB
      clear hB
      replace hF := Option.some.inj hF
      subst hF
      refine st_ret P ev_bl (fun v Z1 H1 P1 hv => ?_)
      exact q v _ _ P1.st P1.m hv
    · replace P := P1
      have hB := ifF b_1236 hF
      replace hF := hB
      clear hB
      refine st_next0 ?_
      replace k_1219 := ((yList yInt)).mono e.z k_1219
      obtain ⟨r_1237, h_1238, hF⟩ := bind_inv hF
      obtain ⟨b_1243, h_1242, hF⟩ := bind_inv hF
      refine st_seq (st_if P (et_orO (et_cmp (ev_neD (eqd_list eqd_int) (by decide) (ev_call (cs_maybe_code T h_1238) (eva_cons (ev_none (τ := (yList yInt)) ev_non) eva_nil)) (ev_fz (en_listD (eva_conss ev_int (eva_nils (τ := yInt))) (by show 1 ≤ sizeLine; decide))))) (fun _ y hy => by
            obtain ⟨r_1239, h_1240, hy⟩ := bind_inv hy
            obtain ⟨g_1241, hy⟩ := guard_inv hy
            have hy := Option.some.inj hy
            subst hy
            exact (et_cmp (ev_neD (eqd_list eqd_int) (by decide) (ev_call (cs_maybe_code T h_1240) (eva_cons (ev_some nn_list (ev_fz (en_list_of (fun _ _ _ h => h) (ev_li (ev_var (τ := (yList yInt)) rfl k_1219))))) eva_nil)) (ev_fz (en_cat (ev_li (ev_fz (en_listD (eva_conss ev_int (eva_nils (τ := yInt))) (by show 1 ≤ sizeLine; decide)))) (ev_li (ev_var (τ := (yList yInt)) rfl k_1219)) g_1241))))) h_1242) (fun b_1244 Z1 H1 e P1 => ?_) (fun b_1244 Z1 H1 e P1 => ?_))
      · replace P := P1
        have hB := ifT b_1244 hF
        replace hF := hB
        clear hB
        replace hF := Option.some.inj hF
        subst hF
        refine st_ret P ev_bl (fun v Z1 H1 P1 hv => ?_)
        exact q v _ _ P1.st P1.m hv
      · replace P := P1
        have hB := ifF b_1244 hF
        replace hF := hB
        clear hB
        refine st_next0 ?_
        replace k_1219 := ((yList yInt)).mono e.z k_1219
        obtain ⟨r_1245, h_1246, hF⟩ := bind_inv hF
        obtain ⟨g_1248, hF⟩ := guard_inv hF
        obtain ⟨g_1249, hF⟩ := guard_inv hF
        replace hF := Option.some.inj hF
        subst hF
        refine st_ret P (ev_eqD (eqd_list eqd_int) (by decide) (ev_call (cs_list_code T h_1246) (eva_cons (ev_fz (en_listD (eva_conss (ev_fz (en_list_of (fun _ _ _ h => h) (ev_li (ev_var (τ := (yList yInt)) rfl k_1219)))) (eva_conss (ev_fz (en_listD (eva_nils (τ := yInt)) (by show 0 ≤ sizeLine; decide))) (eva_conss (ev_fz (en_listD (eva_conss ev_int (eva_nils (τ := yInt))) (by show 1 ≤ sizeLine; decide))) (eva_nils (τ := (yList yInt)))))) (by show 3 ≤ sizeLine; decide))) eva_nil)) (ev_fz (en_cat (ev_li (ev_fz (en_cat (ev_li (ev_fz (en_listD (eva_conss ev_int (eva_nils (τ := yInt))) (by show 1 ≤ sizeLine; decide)))) (ev_li (ev_var (τ := (yList yInt)) rfl k_1219)) g_1248))) (ev_li (ev_fz (en_listD (eva_conss ev_int (eva_nils (τ := yInt))) (by show 1 ≤ sizeLine; decide)))) g_1249))) (fun v Z1 H1 P1 hv => ?_)
        exact q v _ _ P1.st P1.m hv
theorem cs_law_parts_agree (T : Txt K mg) {st sc : Addr} {ds : DS} {E : XK}  {y : Bool × DS} (h : F_law_parts_agree ds = some y) : CallS (muD st sc) (sp_law_parts_agree T) E (rac (isRef st) ra0) ds (ty yBool y.1) y.2 := by
  rintro Z H vs sz m ⟨_, _, rfl, rfl, rfl⟩ Q q
  exact ⟨st, sc, Z, ds, y, rfl, sz, m, h, fun v Z2 H2 s2 m2 hv => q v Z2 H2 s2 m2 hv⟩
theorem cu_law_parts_agree (T : Txt K mg) {st sc : Addr} {ds : DS} {E : XK}  {y : Bool × DS} {μ : Type} {M : Mu μ} {s s2 : μ} (hm : ∀ Z H, M.m s Z H → (muD st sc).m ds Z H) (hf : ∀ a ∈ (muD st sc).fp, a ∈ M.fp) (hp : ∀ Z H Z' H', M.m s Z H → Step (muD st sc).fp Z H Z' H' → (muD st sc).m y.2 Z' H' → M.m s2 Z' H') (h : F_law_parts_agree ds = some y) : CallS M (sp_law_parts_agree T) E (rac (isRef st) ra0) s (ty yBool y.1) s2 := by
  rintro Z H vs sz m ⟨_, _, rfl, rfl, rfl⟩ Q q
  exact ⟨st, sc, Z, ds, y, rfl, sz, hm _ _ m, h, fun v Z2 H2 st2 m2 hv => q v Z2 H2 (st2.weak fun a h => .inl (hf a h)) (hp _ _ _ _ m st2 m2) hv⟩
def sp_law (K : PySem.W.Frag) : Sp := fun vs H Q _ => ∃ (a : Addr) (ns : List Int), vs = [.ref a] ∧ (SqL K H a (ns.map V.int)) ∧ (ns.length ≤ 63) ∧ ∀ H', Q (.bl true) H'
set_option maxHeartbeats 8000000 in
theorem ok_law (T : Txt K mg) : FnOk P w K mg base CX0 8 T.f_law T.d_law ["script"] (sp_law K) := by
  have G_offer_code : FnOk P w K mg base CX0 7 T.f_offer_code T.d_offer_code ["offer"] (sp_offer_code T) := ok_offer_code T
  have G_law_list : FnOk P w K mg base CX0 1 T.f_law_list T.d_law_list ["codes"] (sp_law_list T) := ok_law_list T
  have G_entry_code : FnOk P w K mg base CX0 5 T.f_entry_code T.d_entry_code ["entry"] (sp_entry_code T) := ok_entry_code T
  have G_law_record_due : FnOk P w K mg base CX0 3 T.f_law_record_due T.d_law_record_due ["record"] (sp_law_record_due T) := ok_law_record_due T
  have G_law_counted : FnOk P w K mg base CX0 1 T.f_law_counted T.d_law_counted ["row"] (sp_law_counted T) := ok_law_counted T
  have G_record_code : FnOk P w K mg base CX0 4 T.f_record_code T.d_record_code ["record"] (sp_record_code T) := ok_record_code T
  have G_partition_code : FnOk P w K mg base CX0 6 T.f_partition_code T.d_partition_code ["regions"] (sp_partition_code T) := ok_partition_code T
  have G_law_region_due : FnOk P w K mg base CX0 4 T.f_law_region_due T.d_law_region_due ["region"] (sp_law_region_due T) := ok_law_region_due T
  have G_region_code : FnOk P w K mg base CX0 5 T.f_region_code T.d_region_code ["region"] (sp_region_code T) := ok_region_code T
  have G_law_offer : FnOk P w K mg base CX0 6 T.f_law_offer T.d_law_offer ["state"] (sp_law_offer T) := ok_law_offer T
  have G_fact_code : FnOk P w K mg base CX0 4 T.f_fact_code T.d_fact_code ["fact"] (sp_fact_code T) := ok_fact_code T
  have G_law_fact_due : FnOk P w K mg base CX0 3 T.f_law_fact_due T.d_law_fact_due ["fact"] (sp_law_fact_due T) := ok_law_fact_due T
  have G_law_fact : FnOk P w K mg base CX0 5 T.f_law_fact T.d_law_fact ["state"] (sp_law_fact T) := ok_law_fact T
  have G_law_parts_agree : FnOk P w K mg base CX0 5 T.f_law_parts_agree T.d_law_parts_agree ["state"] (sp_law_parts_agree T) := ok_law_parts_agree T
  refine T.F_law.ok sc_law (fun vs H Q E h => ?_) (fun cdv A outer s H vs Q E hr h => ?_)
  · obtain ⟨a, ns, rfl, _⟩ := h
    rfl
  · obtain ⟨a, ns, rfl, hA, hlen, q⟩ := h
    refine ⟨_, (pss_cons (ps_set (i := 1) sc_law.nd rfl (.inl rfl) (pe_lst (pa_cons (pe_callTy call_list_of (by rfl) T.m_list (by decide +kernel) (pa_cons (pv 0) pa_nil)) (pa_cons pe_int (pa_cons pe_int pa_nil))))) 
      (pss_cons (ps_if (pt_not (pt_val (pe_call G_law_parts_agree (hr.mono (by decide)) (by rfl) T.g_law_parts_agree T.F_law_parts_agree.kp T.b_law_parts_agree .nil pass0 (pa_cons (pv 1) pa_nil)))) (pss_one (ps_ret pe_bl)) pss_nil) 
      (pss_cons (ps_for PassesOwn.never rfl (pi_range1 rfl T.m_range (pa_cons pe_int pa_nil)) (pg_name (i := 2) sc_law.nd rfl (.inl rfl)) (pss_cons (ps_set (i := 3) sc_law.nd rfl (.inl rfl) (pe_call G_law_fact (hr.mono (by decide)) (by rfl) T.g_law_fact T.F_law_fact.kp T.b_law_fact .nil pass0 (pa_cons (pv 1) pa_nil))) 
      (pss_one (ps_if (pt_cmpR (op_neD hr.units) (pe_call G_fact_code (hr.mono (by decide)) (by rfl) T.g_fact_code T.F_fact_code.kp T.b_fact_code .nil pass0 (pa_cons (pv 3) pa_nil)) (pe_call G_law_fact_due (hr.mono (by decide)) (by rfl) T.g_law_fact_due T.F_law_fact_due.kp T.b_law_fact_due .nil pass0 (pa_cons (pv 3) pa_nil)) (nomark _)) (pss_one (ps_ret pe_bl)) pss_nil)))) 
      (pss_cons (ps_set (i := 4) sc_law.nd rfl (.inl rfl) (pe_call G_law_offer (hr.mono (by decide)) (by rfl) T.g_law_offer T.F_law_offer.kp T.b_law_offer .nil pass0 (pa_cons (pv 1) pa_nil))) 
      (pss_cons (ps_set (i := 5) sc_law.nd rfl (.inl rfl) (pe_lst pa_nil)) 
      (pss_cons (ps_for PassesOwn.never rfl (pi_tup (pe_fld (pv 4) rfl)) (pg_name (i := 6) sc_law.nd rfl (.inl rfl)) (pss_cons (ps_for PassesOwn.never rfl (pi_tup (pv 6)) (pg_name (i := 7) sc_law.nd rfl (.inl rfl)) (pss_one (ps_if (pt_cmpR (op_neD hr.units) (pe_call G_region_code (hr.mono (by decide)) (by rfl) T.g_region_code T.F_region_code.kp T.b_region_code .nil pass0 (pa_cons (pv 7) pa_nil)) (pe_call G_law_region_due (hr.mono (by decide)) (by rfl) T.g_law_region_due T.F_law_region_due.kp T.b_law_region_due .nil pass0 (pa_cons (pv 7) pa_nil)) (nomark _)) (pss_one (ps_ret pe_bl)) pss_nil))) 
      (pss_cons (ps_expr (pe_bm PySem.F.plainAttrs_list PySem.F.slot_list_append PySem.F.type_list_append mt_append (pv 5) (pa_cons (pe_call G_law_list (hr.mono (by decide)) (by rfl) T.g_law_list T.F_law_list.kp T.b_law_list .nil pass0 (pa_cons (pe_lc (own := [("region", 7)]) (g := gName 7) rfl sc_law.nd (pi_tup (pv 6)) (blkOk_by (own := [("region", 7)]) (N := ["script", "state", "turn", "fact", "offer", "partitions", "regions", "region", "entries", "entry"]) (sc := defScope s_law) (by decide +kernel)) (fun _ _ _ _ _ => (pg_name (i := 7) sc_law.nd rfl (Or.inl rfl))) (fun _ _ _ _ _ => pts_nil) (fun _ _ _ _ _ => (pe_call G_law_region_due (hr.mono (by decide)) (by rfl) T.g_law_region_due T.F_law_region_due.kp T.b_law_region_due .nil pass0 (pa_cons (pv 7) pa_nil)))) pa_nil)) pa_nil))) 
      (pss_one (ps_if (pt_cmpR (op_neD hr.units) (pe_call G_partition_code (hr.mono (by decide)) (by rfl) T.g_partition_code T.F_partition_code.kp T.b_partition_code .nil pass0 (pa_cons (pv 6) pa_nil)) (pe_ix ix_list (pv 5) (pe_op op_sub (pe_callB call_len_seq (by rfl) T.m_len PySem.boot_len (pa_cons (pv 5) pa_nil)) pe_int) (fun _ _ => rfl)) (nomark _)) (pss_one (ps_ret pe_bl)) pss_nil))))) 
      (pss_cons (ps_set (i := 8) sc_law.nd rfl (.inl rfl) (pe_lst pa_nil)) 
      (pss_cons (ps_for PassesOwn.never rfl (pi_tup (pe_fld (pv 4) rfl)) (pg_name (i := 9) sc_law.nd rfl (.inl rfl)) (pss_cons (ps_if (pt_cmpR (op_neD hr.units) (pe_call G_record_code (hr.mono (by decide)) (by rfl) T.g_record_code T.F_record_code.kp T.b_record_code .nil pass0 (pa_cons (pe_fld (pv 9) rfl) pa_nil)) (pe_call G_law_record_due (hr.mono (by decide)) (by rfl) T.g_law_record_due T.F_law_record_due.kp T.b_law_record_due .nil pass0 (pa_cons (pe_fld (pv 9) rfl) pa_nil)) (nomark _)) (pss_one (ps_ret pe_bl)) pss_nil) 
      (pss_cons (ps_expr (pe_bm PySem.F.plainAttrs_list PySem.F.slot_list_append PySem.F.type_list_append mt_append (pv 8) (pa_cons (pe_op op_cat (pe_op op_cat (pe_lst (pa_cons (pe_fld (pv 9) rfl) pa_nil)) (pe_call G_law_record_due (hr.mono (by decide)) (by rfl) T.g_law_record_due T.F_law_record_due.kp T.b_law_record_due .nil pass0 (pa_cons (pe_fld (pv 9) rfl) pa_nil))) (pe_call G_law_counted (hr.mono (by decide)) (by rfl) T.g_law_counted T.F_law_counted.kp T.b_law_counted .nil pass0 (pa_cons (pe_fld (pv 9) rfl) pa_nil))) pa_nil))) 
      (pss_one (ps_if (pt_cmpR (op_neD hr.units) (pe_call G_entry_code (hr.mono (by decide)) (by rfl) T.g_entry_code T.F_entry_code.kp T.b_entry_code .nil pass0 (pa_cons (pv 9) pa_nil)) (pe_ix ix_list (pv 8) (pe_op op_sub (pe_callB call_len_seq (by rfl) T.m_len PySem.boot_len (pa_cons (pv 8) pa_nil)) pe_int) (fun _ _ => rfl)) (nomark _)) (pss_one (ps_ret pe_bl)) pss_nil))))) 
      (pss_one (ps_ret (pe_cmpR (op_eqD hr.units) (pe_call G_offer_code (hr.mono (by decide)) (by rfl) T.g_offer_code T.F_offer_code.kp T.b_offer_code .nil pass0 (pa_cons (pv 4) pa_nil)) (pe_op op_cat (pe_call G_law_list (hr.mono (by decide)) (by rfl) T.g_law_list T.F_law_list.kp T.b_law_list .nil pass0 (pa_cons (pv 5) pa_nil)) (pe_call G_law_list (hr.mono (by decide)) (by rfl) T.g_law_list T.F_law_list.kp T.b_law_list .nil pass0 (pa_cons (pv 8) pa_nil))) (nomark _)))))))))))), ?_⟩
    have hF := law_true ns hlen
    unfold F_law at hF
    refine st_norm (by dsimp only [List.set, L2.start, List.map, List.length, List.replicate, List.cons_append, List.nil_append, Nat.reduceSub, Nat.reduceAdd]) ?_
    refine st_seq ?_
    refine st_draws hA hlen (fun st sc Z0 Z1 H1 P => ?_)
    refine st_nx ?_
    refine st_norm (by dsimp only [List.set, L2.start, List.map, List.length, List.replicate, List.cons_append, List.nil_append, Nat.reduceSub, Nat.reduceAdd]) ?_
    obtain ⟨r_1250, h_1251, hF⟩ := bind_inv hF
    refine st_seq (st_if P (et_not (et_val (ev_call (cs_law_parts_agree T h_1251) (eva_cons (ev_ref rfl) eva_nil)))) (fun b_1252 Z1 H1 e P1 => ?_) (fun b_1252 Z1 H1 e P1 => ?_))
    · replace P := P1
      have hB := ifT b_1252 hF
      replace hF := hB
      clear hB
      refine st_norm (by dsimp only [List.set, L2.start, List.map, List.length, List.replicate, List.cons_append, List.nil_append, Nat.reduceSub, Nat.reduceAdd]) ?_
      have hb := Option.some.inj hF
      refine st_ret P ev_bl (fun v Z H P hv => ?_)
      have hv2 : v = V.bl _ := hv
      rw [hb] at hv2
      rw [hv2]
      exact q _
    · replace P := P1
      have hB := ifF b_1252 hF
      replace hF := hB
      clear hB
      refine st_next0 ?_
      refine st_norm (by dsimp only [List.set, L2.start, List.map, List.length, List.replicate, List.cons_append, List.nil_append, Nat.reduceSub, Nat.reduceAdd]) ?_
      obtain ⟨f_1291, hL_1292, hF⟩ := bind_inv hF
      refine st_seq (st_for (τ := yInt) (fun (r_1255 : List Int) σ' Z' H' => ∃ w_1253, ∃ (y_1260 : Option V) (y_1261 : Option V) (y_1262 : Option V) (y_1263 : Option V) (y_1264 : Option V) (y_1265 : Option V) (y_1266 : Option V) (y_1267 : Option V) (y_1268 : Option V), σ' = [y_1260, some (.ref st), y_1261, y_1262, y_1263, y_1264, y_1265, y_1266, y_1267, y_1268] ∧ Pt [] Z0 H (muD st sc) Z' H' w_1253 ∧ forS L_law_1 r_1255 w_1253 = some f_1291) P (ei_rng1 ev_int (by decide)) ?_ ?_ ?_)
      · rintro Z1 H1 e P1
        replace P := P1
        exact ⟨r_1250.2, _, _, _, _, _, _, _, _, _, rfl, P, hL_1292⟩
      · rintro Zb_1259 Hb eb x_1254 r_1255 σ' v_1279 Z1 H1 Z2 H2 zs_1258 ⟨w_1253, y_1260, y_1261, y_1262, y_1263, y_1264, y_1265, y_1266, y_1267, y_1268, rfl, P, hq_1257⟩ e hx_1280
        replace P := P.item e
        replace zs_1258 := zs_1258.trans e.z
        obtain ⟨u_1281, hB_1256, hq_1257⟩ := bind_inv (forS_cons hq_1257)
        unfold L_law_1 at hB_1256
        refine tgt_name _ P.sub _ ?_
        refine st_norm (by dsimp only [List.set, L2.start, List.map, List.length, List.replicate, List.cons_append, List.nil_append, Nat.reduceSub, Nat.reduceAdd]) ?_
        obtain ⟨r_1282, h_1283, hB_1256⟩ := bind_inv hB_1256
        refine st_seq (st_set P (ev_call (cs_law_fact T h_1283) (eva_cons (ev_ref rfl) eva_nil)) (fun v_1284 Z1 H1 e P1 k_1285 => ?_))
        refine st_nx ?_
        replace P := P1
        replace zs_1258 := zs_1258.trans e.z
        refine st_norm (by dsimp only [List.set, L2.start, List.map, List.length, List.replicate, List.cons_append, List.nil_append, Nat.reduceSub, Nat.reduceAdd]) ?_
        obtain ⟨r_1286, h_1287, hB_1256⟩ := bind_inv hB_1256
        obtain ⟨r_1288, h_1289, hB_1256⟩ := bind_inv hB_1256
        refine st_if P (et_cmp (ev_neD (eqd_list eqd_int) (by decide) (ev_call (cs_fact_code T h_1287) (eva_cons (ev_var (τ := (y_Fact T)) rfl k_1285) eva_nil)) (ev_call (cs_law_fact_due T h_1289) (eva_cons (ev_var (τ := (y_Fact T)) rfl k_1285) eva_nil)))) (fun b_1290 Z1 H1 e P1 => ?_) (fun b_1290 Z1 H1 e P1 => ?_)
        · replace P := P1
          have hB := ifT b_1290 hB_1256
          replace hB_1256 := hB
          clear hB
          replace zs_1258 := zs_1258.trans e.z
          refine st_norm (by dsimp only [List.set, L2.start, List.map, List.length, List.replicate, List.cons_append, List.nil_append, Nat.reduceSub, Nat.reduceAdd]) ?_
          replace hB_1256 := Option.some.inj hB_1256
          subst hB_1256
          have hz := nxt_ret hq_1257
          subst hz
          have hz := ret_inv hF
          have hb := Option.some.inj hz
          refine st_ret P ev_bl (fun v Z H P hv => ?_)
          have hv2 : v = V.bl _ := hv
          rw [hb] at hv2
          rw [hv2]
          exact q _
        · replace P := P1
          have hB := ifF b_1290 hB_1256
          replace hB_1256 := hB
          clear hB
          refine st_next ?_
          replace zs_1258 := zs_1258.trans e.z
          replace hB_1256 := Option.some.inj hB_1256
          subst hB_1256
          exact ⟨_, zs_1258, P.sub, r_1282.2, _, _, _, _, _, _, _, _, _, rfl, P, (nxt_go hq_1257)⟩
      rintro σ' Z1 H1 _ _ ⟨w_1269, y_1260, y_1261, y_1262, y_1263, y_1264, y_1265, y_1266, y_1267, y_1268, rfl, P, hl⟩
      have hz := forS_nil hl
      subst hz
      replace hF := go_inv hF
      refine st_nx ?_
      refine st_norm (by dsimp only [List.set, L2.start, List.map, List.length, List.replicate, List.cons_append, List.nil_append, Nat.reduceSub, Nat.reduceAdd]) ?_
      obtain ⟨r_1293, h_1294, hF⟩ := bind_inv hF
      refine st_seq (st_set P (ev_call (cs_law_offer T h_1294) (eva_cons (ev_ref rfl) eva_nil)) (fun v_1295 Z1 H1 e P1 k_1296 => ?_))
      refine st_nx ?_
      replace P := P1
      refine st_norm (by dsimp only [List.set, L2.start, List.map, List.length, List.replicate, List.cons_append, List.nil_append, Nat.reduceSub, Nat.reduceAdd]) ?_
      refine st_seq (st_setN (τ := (yList yInt)) P (en_listD (eva_nils (τ := (yList yInt))) (by show 0 ≤ sizeLine; decide)) (fun p_1297 Z1 H1 e P1 fr_1299 o_1298 => ?_))
      refine st_nx ?_
      replace P := P1
      replace k_1296 := ((y_Offer T)).mono e.z k_1296
      refine st_norm (by dsimp only [List.set, L2.start, List.map, List.length, List.replicate, List.cons_append, List.nil_append, Nat.reduceSub, Nat.reduceAdd]) ?_
      obtain ⟨f_1384, hL_1385, hF⟩ := bind_inv hF
      refine st_seq (st_for (τ := (yTup K (y_Region T))) (fun (r_1302 : List (List Region)) σ' Z' H' => ∃ w_1300, ∃ (y_1307 : Option V) (y_1308 : Option V) (y_1309 : Option V) (y_1312 : Option V) (y_1313 : Option V) (y_1314 : Option V) (y_1315 : Option V), σ' = [y_1307, some (.ref st), y_1308, y_1309, some v_1295, some (.ref p_1297), y_1312, y_1313, y_1314, y_1315] ∧ Pt [] Z0 H (muD st sc) Z' H' r_1293.2 ∧ ((y_Offer T)).r Z' v_1295 r_1293.1 ∧ Own [] H (muD st sc).fp Z' H' (yList yInt) p_1297 w_1300 ∧ forS L_law_2 r_1302 w_1300 = some f_1384) P (ei_tup (ev_fld (fo_Offer_partitions T) T.cl_Offer T.n_Offer_partitions (ev_var (τ := (y_Offer T)) rfl k_1296))) ?_ ?_ ?_)
      · rintro Z1 H1 e P1
        replace P := P1
        replace k_1296 := ((y_Offer T)).mono e.z k_1296
        replace o_1298 := o_1298.next e
        exact ⟨([] : List (List Int)), _, _, _, _, _, _, _, rfl, P, k_1296, o_1298, hL_1385⟩
      · rintro Zb_1306 Hb eb x_1301 r_1302 σ' v_1326 Z1 H1 Z2 H2 zs_1305 ⟨w_1300, y_1307, y_1308, y_1309, y_1312, y_1313, y_1314, y_1315, rfl, P, k_1310, o_1311, hq_1304⟩ e hx_1327
        replace P := P.item e
        replace k_1310 := ((y_Offer T)).mono e.z k_1310
        replace o_1311 := o_1311.step e List.not_mem_nil
        replace zs_1305 := zs_1305.trans e.z
        obtain ⟨u_1328, hB_1303, hq_1304⟩ := bind_inv (forS_cons hq_1304)
        unfold L_law_2 at hB_1303
        refine tgt_name _ P.sub _ ?_
        refine st_norm (by dsimp only [List.set, L2.start, List.map, List.length, List.replicate, List.cons_append, List.nil_append, Nat.reduceSub, Nat.reduceAdd]) ?_
        obtain ⟨f_1365, hL_1366, hB_1303⟩ := bind_inv hB_1303
        refine st_seq (st_for (τ := (y_Region T)) (fun (r_1331 : List Region) σ' Z' H' => ∃ w_1329, ∃ (y_1336 : Option V) (y_1337 : Option V) (y_1338 : Option V) (y_1342 : Option V) (y_1343 : Option V) (y_1344 : Option V), σ' = [y_1336, some (.ref st), y_1337, y_1338, some v_1295, some (.ref p_1297), some v_1326, y_1342, y_1343, y_1344] ∧ Pt [] Z0 H (muD st sc) Z' H' r_1293.2 ∧ Same Zb_1306 Z' ∧ ((y_Offer T)).r Z' v_1295 r_1293.1 ∧ Own [] H (muD st sc).fp Z' H' (yList yInt) p_1297 w_1300 ∧ ((yTup K (y_Region T))).r Z' v_1326 x_1301 ∧ forS L_law_3 r_1331 w_1329 = some f_1365) P (ei_tup (ev_var (τ := (yTup K (y_Region T))) rfl hx_1327)) ?_ ?_ ?_)
        · rintro Z1 H1 e P1
          replace P := P1
          replace k_1310 := ((y_Offer T)).mono e.z k_1310
          replace o_1311 := o_1311.next e
          replace hx_1327 := ((yTup K (y_Region T))).mono e.z hx_1327
          replace zs_1305 := zs_1305.trans e.z
          exact ⟨(), _, _, _, _, _, _, rfl, P, zs_1305, k_1310, o_1311, hx_1327, hL_1366⟩
        · rintro Zb_1335 Hb eb x_1330 r_1331 σ' v_1357 Z1 H1 Z2 H2 zs_1334 ⟨w_1329, y_1336, y_1337, y_1338, y_1342, y_1343, y_1344, rfl, P, zs_1345, k_1339, o_1340, k_1341, hq_1333⟩ e hx_1358
          replace P := P.item e
          replace k_1339 := ((y_Offer T)).mono e.z k_1339
          replace o_1340 := o_1340.step e List.not_mem_nil
          replace k_1341 := ((yTup K (y_Region T))).mono e.z k_1341
          replace zs_1345 := zs_1345.trans e.z
          replace zs_1334 := zs_1334.trans e.z
          obtain ⟨u_1359, hB_1332, hq_1333⟩ := bind_inv (forS_cons hq_1333)
          unfold L_law_3 at hB_1332
          refine tgt_name _ P.sub _ ?_
          refine st_norm (by dsimp only [List.set, L2.start, List.map, List.length, List.replicate, List.cons_append, List.nil_append, Nat.reduceSub, Nat.reduceAdd]) ?_
          obtain ⟨r_1360, h_1361, hB_1332⟩ := bind_inv hB_1332
          obtain ⟨r_1362, h_1363, hB_1332⟩ := bind_inv hB_1332
          refine st_if P (et_cmp (ev_neD (eqd_list eqd_int) (by decide) (ev_call (cs_region_code T h_1361) (eva_cons (ev_var (τ := (y_Region T)) rfl hx_1358) eva_nil)) (ev_call (cs_law_region_due T h_1363) (eva_cons (ev_var (τ := (y_Region T)) rfl hx_1358) eva_nil)))) (fun b_1364 Z1 H1 e P1 => ?_) (fun b_1364 Z1 H1 e P1 => ?_)
          · replace P := P1
            have hB := ifT b_1364 hB_1332
            replace hB_1332 := hB
            clear hB
            replace zs_1345 := zs_1345.trans e.z
            replace zs_1334 := zs_1334.trans e.z
            refine st_norm (by dsimp only [List.set, L2.start, List.map, List.length, List.replicate, List.cons_append, List.nil_append, Nat.reduceSub, Nat.reduceAdd]) ?_
            replace hB_1332 := Option.some.inj hB_1332
            subst hB_1332
            have hz := nxt_ret hq_1333
            subst hz
            have hz := ret_inv hB_1303
            replace hz := Option.some.inj hz
            subst hz
            have hz := nxt_ret hq_1304
            subst hz
            have hz := ret_inv hF
            have hb := Option.some.inj hz
            refine st_ret P ev_bl (fun v Z H P hv => ?_)
            have hv2 : v = V.bl _ := hv
            rw [hb] at hv2
            rw [hv2]
            exact q _
          · replace P := P1
            have hB := ifF b_1364 hB_1332
            replace hB_1332 := hB
            clear hB
            refine st_next ?_
            replace k_1339 := ((y_Offer T)).mono e.z k_1339
            replace o_1340 := o_1340.next e
            replace k_1341 := ((yTup K (y_Region T))).mono e.z k_1341
            replace zs_1345 := zs_1345.trans e.z
            replace zs_1334 := zs_1334.trans e.z
            replace hB_1332 := Option.some.inj hB_1332
            subst hB_1332
            exact ⟨_, zs_1334, P.sub, (), _, _, _, _, _, _, rfl, P, zs_1345, k_1339, o_1340, k_1341, (nxt_go hq_1333)⟩
        rintro σ' Z1 H1 _ _ ⟨w_1346, y_1336, y_1337, y_1338, y_1342, y_1343, y_1344, rfl, P, zs_1356, k_1350, o_1351, k_1352, hl⟩
        have hz := forS_nil hl
        subst hz
        replace hB_1303 := go_inv hB_1303
        refine st_nx ?_
        refine st_norm (by dsimp only [List.set, L2.start, List.map, List.length, List.replicate, List.cons_append, List.nil_append, Nat.reduceSub, Nat.reduceAdd]) ?_
        obtain ⟨l_1373, h_1374, hB_1303⟩ := bind_inv hB_1303
        obtain ⟨r_1375, h_1376, hB_1303⟩ := bind_inv hB_1303
        obtain ⟨g_1377, hB_1303⟩ := guard_inv hB_1303
        refine st_seq (st_append P o_1351 rfl (ev_call (cs_law_list T h_1376) (eva_cons (ev_fz (en_mapO (υ := (yList yInt)) (fun (x_1367 : Region) => ((F_law_region_due x_1367).bind fun r_1371 =>
        some r_1371 : Option (List Int))) (ei_tup (ev_var (τ := (yTup K (y_Region T))) rfl k_1352)) (fun x_1367 v_1369 Z' H' p zz hh rx_1370 hp => by
              have hy := hp
              obtain ⟨r_1371, h_1372, hy⟩ := bind_inv hy
              have hy := Option.some.inj hy
              subst hy
              exact ⟨_, tgt_name, (wpe_s wpe_z (by decide)), (ev_call (cs_law_region_due T h_1372) (eva_cons (ev_var (τ := (y_Region T)) rfl rx_1370) eva_nil))⟩) h_1374)) eva_nil)) g_1377 (fun Z1 H1 e P1 o_1378 => ?_))
        refine st_nx ?_
        replace P := P1
        replace k_1350 := ((y_Offer T)).mono e.z k_1350
        replace k_1352 := ((yTup K (y_Region T))).mono e.z k_1352
        replace zs_1356 := zs_1356.trans e.z
        refine st_norm (by dsimp only [List.set, L2.start, List.map, List.length, List.replicate, List.cons_append, List.nil_append, Nat.reduceSub, Nat.reduceAdd]) ?_
        obtain ⟨r_1379, h_1380, hB_1303⟩ := bind_inv hB_1303
        obtain ⟨i_1381, h_1382, hB_1303⟩ := bind_inv hB_1303
        refine st_if P (et_cmp (ev_neD (eqd_list eqd_int) (by decide) (ev_call (cs_partition_code T h_1380) (eva_cons (ev_var (τ := (yTup K (y_Region T))) rfl k_1352) eva_nil)) (ev_ixL (ev_o o_1378 rfl) (ev_sub (ev_len (fun _ _ _ h => h) (ev_o o_1378 rfl)) ev_int) h_1382))) (fun b_1383 Z1 H1 e P1 => ?_) (fun b_1383 Z1 H1 e P1 => ?_)
        · replace P := P1
          have hB := ifT b_1383 hB_1303
          replace hB_1303 := hB
          clear hB
          replace zs_1356 := zs_1356.trans e.z
          refine st_norm (by dsimp only [List.set, L2.start, List.map, List.length, List.replicate, List.cons_append, List.nil_append, Nat.reduceSub, Nat.reduceAdd]) ?_
          replace hB_1303 := Option.some.inj hB_1303
          subst hB_1303
          have hz := nxt_ret hq_1304
          subst hz
          have hz := ret_inv hF
          have hb := Option.some.inj hz
          refine st_ret P ev_bl (fun v Z H P hv => ?_)
          have hv2 : v = V.bl _ := hv
          rw [hb] at hv2
          rw [hv2]
          exact q _
        · replace P := P1
          have hB := ifF b_1383 hB_1303
          replace hB_1303 := hB
          clear hB
          refine st_next ?_
          replace k_1350 := ((y_Offer T)).mono e.z k_1350
          replace o_1378 := o_1378.next e
          replace zs_1356 := zs_1356.trans e.z
          replace hB_1303 := Option.some.inj hB_1303
          subst hB_1303
          exact ⟨_, zs_1356, P.sub, (w_1300 ++ [r_1375]), _, _, _, _, _, _, _, rfl, P, k_1350, o_1378, (nxt_go hq_1304)⟩
      rintro σ' Z1 H1 _ _ ⟨w_1316, y_1307, y_1308, y_1309, y_1312, y_1313, y_1314, y_1315, rfl, P, k_1320, o_1321, hl⟩
      have hz := forS_nil hl
      subst hz
      replace hF := go_inv hF
      refine st_nx ?_
      refine st_norm (by dsimp only [List.set, L2.start, List.map, List.length, List.replicate, List.cons_append, List.nil_append, Nat.reduceSub, Nat.reduceAdd]) ?_
      refine st_seq (st_setN (τ := (yList yInt)) P (en_listD (eva_nils (τ := (yList yInt))) (by show 0 ≤ sizeLine; decide)) (fun p_1386 Z1 H1 e P1 fr_1388 o_1387 => ?_))
      refine st_nx ?_
      have ne_1389 := o_1321.ne fr_1388
      replace P := P1
      replace k_1320 := ((y_Offer T)).mono e.z k_1320
      replace o_1321 := o_1321.next e
      refine st_norm (by dsimp only [List.set, L2.start, List.map, List.length, List.replicate, List.cons_append, List.nil_append, Nat.reduceSub, Nat.reduceAdd]) ?_
      obtain ⟨f_1440, hL_1441, hF⟩ := bind_inv hF
      refine st_seq (st_for (τ := (y_Entry T)) (fun (r_1392 : List Entry) σ' Z' H' => ∃ w_1390, ∃ (y_1397 : Option V) (y_1398 : Option V) (y_1399 : Option V) (y_1402 : Option V) (y_1403 : Option V) (y_1405 : Option V), σ' = [y_1397, some (.ref st), y_1398, y_1399, some v_1295, some (.ref p_1297), y_1402, y_1403, some (.ref p_1386), y_1405] ∧ Pt [] Z0 H (muD st sc) Z' H' r_1293.2 ∧ ((y_Offer T)).r Z' v_1295 r_1293.1 ∧ Own [] H (muD st sc).fp Z' H' (yList yInt) p_1297 w_1316 ∧ Own [] H (muD st sc).fp Z' H' (yList yInt) p_1386 w_1390 ∧ forS L_law_4 r_1392 w_1390 = some f_1440) P (ei_tup (ev_fld (fo_Offer_entries T) T.cl_Offer T.n_Offer_entries (ev_var (τ := (y_Offer T)) rfl k_1320))) ?_ ?_ ?_)
      · rintro Z1 H1 e P1
        replace P := P1
        replace k_1320 := ((y_Offer T)).mono e.z k_1320
        replace o_1321 := o_1321.next e
        replace o_1387 := o_1387.next e
        exact ⟨([] : List (List Int)), _, _, _, _, _, _, rfl, P, k_1320, o_1321, o_1387, hL_1441⟩
      · rintro Zb_1396 Hb eb x_1391 r_1392 σ' v_1416 Z1 H1 Z2 H2 zs_1395 ⟨w_1390, y_1397, y_1398, y_1399, y_1402, y_1403, y_1405, rfl, P, k_1400, o_1401, o_1404, hq_1394⟩ e hx_1417
        replace P := P.item e
        replace k_1400 := ((y_Offer T)).mono e.z k_1400
        replace o_1401 := o_1401.step e List.not_mem_nil
        replace o_1404 := o_1404.step e List.not_mem_nil
        replace zs_1395 := zs_1395.trans e.z
        obtain ⟨u_1418, hB_1393, hq_1394⟩ := bind_inv (forS_cons hq_1394)
        unfold L_law_4 at hB_1393
        refine tgt_name _ P.sub _ ?_
        refine st_norm (by dsimp only [List.set, L2.start, List.map, List.length, List.replicate, List.cons_append, List.nil_append, Nat.reduceSub, Nat.reduceAdd]) ?_
        obtain ⟨r_1419, h_1420, hB_1393⟩ := bind_inv hB_1393
        obtain ⟨r_1421, h_1422, hB_1393⟩ := bind_inv hB_1393
        refine st_seq (st_if P (et_cmp (ev_neD (eqd_list eqd_int) (by decide) (ev_call (cs_record_code T h_1420) (eva_cons (ev_fld (fo_Entry_record T) T.cl_Entry T.n_Entry_record (ev_var (τ := (y_Entry T)) rfl hx_1417)) eva_nil)) (ev_call (cs_law_record_due T h_1422) (eva_cons (ev_fld (fo_Entry_record T) T.cl_Entry T.n_Entry_record (ev_var (τ := (y_Entry T)) rfl hx_1417)) eva_nil)))) (fun b_1423 Z1 H1 e P1 => ?_) (fun b_1423 Z1 H1 e P1 => ?_))
        · replace P := P1
          have hB := ifT b_1423 hB_1393
          replace hB_1393 := hB
          clear hB
          replace zs_1395 := zs_1395.trans e.z
          refine st_norm (by dsimp only [List.set, L2.start, List.map, List.length, List.replicate, List.cons_append, List.nil_append, Nat.reduceSub, Nat.reduceAdd]) ?_
          replace hB_1393 := Option.some.inj hB_1393
          subst hB_1393
          have hz := nxt_ret hq_1394
          subst hz
          have hz := ret_inv hF
          have hb := Option.some.inj hz
          refine st_ret P ev_bl (fun v Z H P hv => ?_)
          have hv2 : v = V.bl _ := hv
          rw [hb] at hv2
          rw [hv2]
          exact q _
        · replace P := P1
          have hB := ifF b_1423 hB_1393
          replace hB_1393 := hB
          clear hB
          refine st_next0 ?_
          replace k_1400 := ((y_Offer T)).mono e.z k_1400
          replace o_1401 := o_1401.next e
          replace o_1404 := o_1404.next e
          replace hx_1417 := ((y_Entry T)).mono e.z hx_1417
          replace zs_1395 := zs_1395.trans e.z
          refine st_norm (by dsimp only [List.set, L2.start, List.map, List.length, List.replicate, List.cons_append, List.nil_append, Nat.reduceSub, Nat.reduceAdd]) ?_
          obtain ⟨r_1427, h_1428, hB_1393⟩ := bind_inv hB_1393
          obtain ⟨g_1429, hB_1393⟩ := guard_inv hB_1393
          obtain ⟨r_1430, h_1431, hB_1393⟩ := bind_inv hB_1393
          obtain ⟨g_1432, hB_1393⟩ := guard_inv hB_1393
          obtain ⟨g_1433, hB_1393⟩ := guard_inv hB_1393
          refine st_seq (st_append P o_1404 rfl (ev_fz (en_cat (ev_li (ev_fz (en_cat (ev_li (ev_fz (en_listD (eva_conss (ev_fld (fo_Entry_number T) T.cl_Entry T.n_Entry_number (ev_var (τ := (y_Entry T)) rfl hx_1417)) (eva_nils (τ := yInt))) (by show 1 ≤ sizeLine; decide)))) (ev_li (ev_call (cs_law_record_due T h_1428) (eva_cons (ev_fld (fo_Entry_record T) T.cl_Entry T.n_Entry_record (ev_var (τ := (y_Entry T)) rfl hx_1417)) eva_nil))) g_1429))) (ev_li (ev_call (cs_law_counted T h_1431) (eva_cons (ev_seqT (ev_fld (fo_Entry_leaves T) T.cl_Entry T.n_Entry_leaves (ev_var (τ := (y_Entry T)) rfl hx_1417))) eva_nil))) g_1432)) g_1433 (fun Z1 H1 e P1 o_1434 => ?_))
          refine st_nx ?_
          replace P := P1
          replace k_1400 := ((y_Offer T)).mono e.z k_1400
          replace o_1401 := o_1401.step e (fun h => (List.mem_cons.mp h).elim (fun z => ne_1389 z) o_1401.n)
          replace hx_1417 := ((y_Entry T)).mono e.z hx_1417
          replace zs_1395 := zs_1395.trans e.z
          refine st_norm (by dsimp only [List.set, L2.start, List.map, List.length, List.replicate, List.cons_append, List.nil_append, Nat.reduceSub, Nat.reduceAdd]) ?_
          obtain ⟨r_1435, h_1436, hB_1393⟩ := bind_inv hB_1393
          obtain ⟨i_1437, h_1438, hB_1393⟩ := bind_inv hB_1393
          refine st_if P (et_cmp (ev_neD (eqd_list eqd_int) (by decide) (ev_call (cs_entry_code T h_1436) (eva_cons (ev_var (τ := (y_Entry T)) rfl hx_1417) eva_nil)) (ev_ixL (ev_o o_1434 rfl) (ev_sub (ev_len (fun _ _ _ h => h) (ev_o o_1434 rfl)) ev_int) h_1438))) (fun b_1439 Z1 H1 e P1 => ?_) (fun b_1439 Z1 H1 e P1 => ?_)
          · replace P := P1
            have hB := ifT b_1439 hB_1393
            replace hB_1393 := hB
            clear hB
            replace zs_1395 := zs_1395.trans e.z
            refine st_norm (by dsimp only [List.set, L2.start, List.map, List.length, List.replicate, List.cons_append, List.nil_append, Nat.reduceSub, Nat.reduceAdd]) ?_
            replace hB_1393 := Option.some.inj hB_1393
            subst hB_1393
            have hz := nxt_ret hq_1394
            subst hz
            have hz := ret_inv hF
            have hb := Option.some.inj hz
            refine st_ret P ev_bl (fun v Z H P hv => ?_)
            have hv2 : v = V.bl _ := hv
            rw [hb] at hv2
            rw [hv2]
            exact q _
          · replace P := P1
            have hB := ifF b_1439 hB_1393
            replace hB_1393 := hB
            clear hB
            refine st_next ?_
            replace k_1400 := ((y_Offer T)).mono e.z k_1400
            replace o_1401 := o_1401.next e
            replace o_1434 := o_1434.next e
            replace zs_1395 := zs_1395.trans e.z
            replace hB_1393 := Option.some.inj hB_1393
            subst hB_1393
            exact ⟨_, zs_1395, P.sub, (w_1390 ++ [((([x_1391.number] : List Int) ++ r_1427) ++ r_1430)]), _, _, _, _, _, _, rfl, P, k_1400, o_1401, o_1434, (nxt_go hq_1394)⟩
      rintro σ' Z1 H1 _ _ ⟨w_1406, y_1397, y_1398, y_1399, y_1402, y_1403, y_1405, rfl, P, k_1410, o_1411, o_1414, hl⟩
      have hz := forS_nil hl
      subst hz
      replace hF := go_inv hF
      refine st_nx ?_
      refine st_norm (by dsimp only [List.set, L2.start, List.map, List.length, List.replicate, List.cons_append, List.nil_append, Nat.reduceSub, Nat.reduceAdd]) ?_
      obtain ⟨Z, P, zf, hf, of⟩ := o_1411.fz P
      replace k_1410 := ((y_Offer T)).mono zf k_1410
      replace o_1414 := o_1414.keep zf (of _ ne_1389.symm o_1414.z)
      have k_1442 := hf
      clear hf zf of
      obtain ⟨Z, P, zf, hf, of⟩ := o_1414.fz P
      replace k_1410 := ((y_Offer T)).mono zf k_1410
      replace k_1442 := ((yList (yList yInt))).mono zf k_1442
      have k_1443 := hf
      clear hf zf of
      obtain ⟨r_1444, h_1445, hF⟩ := bind_inv hF
      obtain ⟨r_1448, h_1449, hF⟩ := bind_inv hF
      obtain ⟨r_1450, h_1451, hF⟩ := bind_inv hF
      obtain ⟨g_1452, hF⟩ := guard_inv hF
      have hb := Option.some.inj hF
      refine st_ret P (ev_eqD (eqd_list eqd_int) (by decide) (ev_call (cs_offer_code T h_1445) (eva_cons (ev_var (τ := (y_Offer T)) rfl k_1410) eva_nil)) (ev_fz (en_cat (ev_li (ev_call (cs_law_list T h_1449) (eva_cons (ev_var (τ := (yList (yList yInt))) rfl k_1442) eva_nil))) (ev_li (ev_call (cs_law_list T h_1451) (eva_cons (ev_var (τ := (yList (yList yInt))) rfl k_1443) eva_nil))) g_1452))) (fun v Z H P hv => ?_)
      have hv2 : v = V.bl _ := hv
      rw [hb] at hv2
      rw [hv2]
      exact q _
end
set_option maxRecDepth 100000 in
set_option maxHeartbeats 0 in
theorem all_mk {l : PySem.W.OpenLaw} {w : World} {K : PySem.W.Frag} {h : Heap} {mg : Str → Option Value} {fa f0 f1 f2 f3 f4 f5 f6 f7 f8 f9 f10 f11 f12 f13 f14 f15 f16 f17 f18 f19 f20 f21 f22 f23 f24 f25 f26 f27 f28 f29 f30 f31 f32 f33 f34 f35 f36 f37 f38 f39 f40 f41 f42 f43 f44 f45 : Addr} (X : K.In h) (G : h.Ns mainGlobals mg) (hfa : mg "law" = some (.ref fa))
    {od0 an0 od1 an1 od2 an2 od3 an3 od4 an4 od5 an5 od6 an6 od7 an7 od8 an8 od9 an9 od10 an10 od11 an11 od12 an12 od13 an13 od14 an14 od15 an15 od16 an16 od17 an17 od18 an18 od19 an19 od20 an20 od21 an21 od22 an22 od23 an23 od24 an24 od25 an25 od26 an26 od27 an27 od28 an28 od29 an29 od30 an30 od31 an31 od32 an32 od33 an33 od34 an34 od35 an35 od36 an36 od37 an37 od38 an38 od39 an39 od40 an40 od41 an41 od42 an42 od43 an43 od44 an44 od45 an45 : Option Addr} {sl0 sl1 sl2 sl3 sl4 sl5 sl6 sl7 sl8 sl9 sl10 sl11 sl12 sl13 sl14 sl15 sl16 sl17 sl18 sl19 sl20 sl21 sl22 sl23 sl24 sl25 sl26 sl27 sl28 sl29 sl30 sl31 sl32 sl33 sl34 sl35 sl36 sl37 sl38 sl39 sl40 sl41 sl42 sl43 sl44 sl45 : Array (Option Value)} {oc0 kV0 dc0 pm0 cd0 ct0 oc1 kV1 dc1 pm1 cd1 ct1 oc2 kV2 dc2 pm2 cd2 ct2 oc3 kV3 dc3 pm3 cd3 ct3 oc4 kV4 dc4 pm4 cd4 ct4 oc5 dc5 pm5 cd5 ct5 oc6 kV6 dc6 pm6 cd6 ct6 oc7 kV7 dc7 pm7 cd7 ct7 oc8 kV8 dc8 pm8 cd8 ct8 oc9 kV9 dc9 pm9 cd9 ct9 oc10 kV10 dc10 pm10 cd10 ct10 oc11 kV11 dc11 pm11 cd11 ct11 oc12 kV12 dc12 pm12 cd12 ct12 oc13 dc13 pm13 cd13 ct13 oc14 dc14 pm14 cd14 ct14 oc15 kV15 dc15 pm15 cd15 ct15 oc16 kV16 dc16 pm16 cd16 ct16 oc17 kV17 dc17 pm17 cd17 ct17 oc18 kV18 dc18 pm18 cd18 ct18 oc19 kV19 dc19 pm19 cd19 ct19 oc20 kV20 dc20 pm20 cd20 ct20 oc21 kV21 dc21 pm21 cd21 ct21 oc22 kV22 dc22 pm22 cd22 ct22 oc23 kV23 dc23 pm23 cd23 ct23 oc24 kV24 dc24 pm24 cd24 ct24 oc25 kV25 dc25 pm25 cd25 ct25 oc26 kV26 dc26 pm26 cd26 ct26 oc27 kV27 dc27 pm27 cd27 ct27 oc28 kV28 dc28 pm28 cd28 ct28 oc29 kV29 dc29 pm29 cd29 ct29 oc30 kV30 dc30 pm30 cd30 ct30 oc31 kV31 dc31 pm31 cd31 ct31 oc32 kV32 dc32 pm32 cd32 ct32 oc33 kV33 dc33 pm33 cd33 ct33 oc34 kV34 dc34 pm34 cd34 ct34 oc35 kV35 dc35 pm35 cd35 ct35 oc36 kV36 dc36 pm36 cd36 ct36 oc37 kV37 dc37 pm37 cd37 ct37 oc38 kV38 dc38 pm38 cd38 ct38 oc39 kV39 dc39 pm39 cd39 ct39 oc40 kV40 dc40 pm40 cd40 ct40 oc41 kV41 dc41 pm41 cd41 ct41 oc42 kV42 dc42 pm42 cd42 ct42 oc43 kV43 dc43 pm43 cd43 ct43 oc44 kV44 dc44 pm44 cd44 ct44 oc45 kV45 dc45 pm45 cd45 ct45 : Value}
    {C_Record C_Part C_Parts C_Cell C_Box C_Norms C_Differ C_Range C_Values C_Counts C_Names C_Region C_Entry C_Offer : Addr}
    (a0 : PySem.W.nsIn K mainGlobals "_law_row" = some (some (.ref f0))) (l0 : K.lookup f0 = some ⟨oc0, od0, .func (PySem.W.fnOf "_law_row" "_law_row" (defArgs s_law_row) (defBody s_law_row) (defScope s_law_row) .none kV0 dc0 pm0 an0 cd0 ct0), sl0⟩) (c0 : PySem.W.codeIn K cd0 "_law_row" = true) (k0 : PySem.W.keepIn K (.ref f0) = true)
    (a1 : PySem.W.nsIn K mainGlobals "_law_next" = some (some (.ref f1))) (l1 : K.lookup f1 = some ⟨oc1, od1, .func (PySem.W.fnOf "_law_next" "_law_next" (defArgs s_law_next) (defBody s_law_next) (defScope s_law_next) .none kV1 dc1 pm1 an1 cd1 ct1), sl1⟩) (c1 : PySem.W.codeIn K cd1 "_law_next" = true) (k1 : PySem.W.keepIn K (.ref f1) = true)
    (a2 : PySem.W.nsIn K mainGlobals "_law_string" = some (some (.ref f2))) (l2 : K.lookup f2 = some ⟨oc2, od2, .func (PySem.W.fnOf "_law_string" "_law_string" (defArgs s_law_string) (defBody s_law_string) (defScope s_law_string) .none kV2 dc2 pm2 an2 cd2 ct2), sl2⟩) (c2 : PySem.W.codeIn K cd2 "_law_string" = true) (k2 : PySem.W.keepIn K (.ref f2) = true)
    (a3 : PySem.W.nsIn K mainGlobals "_law_numbers" = some (some (.ref f3))) (l3 : K.lookup f3 = some ⟨oc3, od3, .func (PySem.W.fnOf "_law_numbers" "_law_numbers" (defArgs s_law_numbers) (defBody s_law_numbers) (defScope s_law_numbers) .none kV3 dc3 pm3 an3 cd3 ct3), sl3⟩) (c3 : PySem.W.codeIn K cd3 "_law_numbers" = true) (k3 : PySem.W.keepIn K (.ref f3) = true)
    (a4 : PySem.W.nsIn K mainGlobals "_law_worth" = some (some (.ref f4))) (l4 : K.lookup f4 = some ⟨oc4, od4, .func (PySem.W.fnOf "_law_worth" "_law_worth" (defArgs s_law_worth) (defBody s_law_worth) (defScope s_law_worth) .none kV4 dc4 pm4 an4 cd4 ct4), sl4⟩) (c4 : PySem.W.codeIn K cd4 "_law_worth" = true) (k4 : PySem.W.keepIn K (.ref f4) = true)
    {DK5 : Addr} (l5 : K.lookup f5 = some ⟨oc5, od5, .func (PySem.W.fnOf "__init__" "Record.__init__" (defArgs s_Record___init__) (defBody s_Record___init__) (defScope s_Record___init__) .none (.ref DK5) dc5 pm5 an5 cd5 ct5), sl5⟩) (c5 : PySem.W.codeIn K cd5 "Record.__init__" = true) (k5 : PySem.W.keepIn K (.ref f5) = true)
    {E5_fields : Addr} {eo5_fields : Option Addr} {en5_fields : Nat} {es5_fields : Array (Option Value)} (n5_fields : PySem.W.nsIn K DK5 "fields" = some (some (.ref E5_fields))) (t5_fields : K.lookup E5_fields = some ⟨.type "tuple", eo5_fields, .seq #[] en5_fields, es5_fields⟩)
    {E5_words : Addr} {eo5_words : Option Addr} {en5_words : Nat} {es5_words : Array (Option Value)} (n5_words : PySem.W.nsIn K DK5 "words" = some (some (.ref E5_words))) (t5_words : K.lookup E5_words = some ⟨.type "tuple", eo5_words, .seq #[] en5_words, es5_words⟩)
    (a6 : PySem.W.nsIn K mainGlobals "_law_record" = some (some (.ref f6))) (l6 : K.lookup f6 = some ⟨oc6, od6, .func (PySem.W.fnOf "_law_record" "_law_record" (defArgs s_law_record) (defBody s_law_record) (defScope s_law_record) .none kV6 dc6 pm6 an6 cd6 ct6), sl6⟩) (c6 : PySem.W.codeIn K cd6 "_law_record" = true) (k6 : PySem.W.keepIn K (.ref f6) = true)
    (l7 : K.lookup f7 = some ⟨oc7, od7, .func (PySem.W.fnOf "__init__" "Part.__init__" (defArgs s_Part___init__) (defBody s_Part___init__) (defScope s_Part___init__) .none kV7 dc7 pm7 an7 cd7 ct7), sl7⟩) (c7 : PySem.W.codeIn K cd7 "Part.__init__" = true) (k7 : PySem.W.keepIn K (.ref f7) = true)
    (l8 : K.lookup f8 = some ⟨oc8, od8, .func (PySem.W.fnOf "__init__" "Parts.__init__" (defArgs s_Parts___init__) (defBody s_Parts___init__) (defScope s_Parts___init__) .none kV8 dc8 pm8 an8 cd8 ct8), sl8⟩) (c8 : PySem.W.codeIn K cd8 "Parts.__init__" = true) (k8 : PySem.W.keepIn K (.ref f8) = true)
    (l9 : K.lookup f9 = some ⟨oc9, od9, .func (PySem.W.fnOf "__init__" "Cell.__init__" (defArgs s_Cell___init__) (defBody s_Cell___init__) (defScope s_Cell___init__) .none kV9 dc9 pm9 an9 cd9 ct9), sl9⟩) (c9 : PySem.W.codeIn K cd9 "Cell.__init__" = true) (k9 : PySem.W.keepIn K (.ref f9) = true)
    (l10 : K.lookup f10 = some ⟨oc10, od10, .func (PySem.W.fnOf "__init__" "Box.__init__" (defArgs s_Box___init__) (defBody s_Box___init__) (defScope s_Box___init__) .none kV10 dc10 pm10 an10 cd10 ct10), sl10⟩) (c10 : PySem.W.codeIn K cd10 "Box.__init__" = true) (k10 : PySem.W.keepIn K (.ref f10) = true)
    (l11 : K.lookup f11 = some ⟨oc11, od11, .func (PySem.W.fnOf "__init__" "Norms.__init__" (defArgs s_Norms___init__) (defBody s_Norms___init__) (defScope s_Norms___init__) .none kV11 dc11 pm11 an11 cd11 ct11), sl11⟩) (c11 : PySem.W.codeIn K cd11 "Norms.__init__" = true) (k11 : PySem.W.keepIn K (.ref f11) = true)
    (l12 : K.lookup f12 = some ⟨oc12, od12, .func (PySem.W.fnOf "__init__" "Differ.__init__" (defArgs s_Differ___init__) (defBody s_Differ___init__) (defScope s_Differ___init__) .none kV12 dc12 pm12 an12 cd12 ct12), sl12⟩) (c12 : PySem.W.codeIn K cd12 "Differ.__init__" = true) (k12 : PySem.W.keepIn K (.ref f12) = true)
    {DK13 : Addr} (l13 : K.lookup f13 = some ⟨oc13, od13, .func (PySem.W.fnOf "__init__" "Range.__init__" (defArgs s_Range___init__) (defBody s_Range___init__) (defScope s_Range___init__) .none (.ref DK13) dc13 pm13 an13 cd13 ct13), sl13⟩) (c13 : PySem.W.codeIn K cd13 "Range.__init__" = true) (k13 : PySem.W.keepIn K (.ref f13) = true)
    {tq13_lack : Tok} (n13_lack : PySem.W.nsIn K DK13 "lack" = some (some (.str "nobody" tq13_lack)))
    {DK14 : Addr} (l14 : K.lookup f14 = some ⟨oc14, od14, .func (PySem.W.fnOf "__init__" "Values.__init__" (defArgs s_Values___init__) (defBody s_Values___init__) (defScope s_Values___init__) .none (.ref DK14) dc14 pm14 an14 cd14 ct14), sl14⟩) (c14 : PySem.W.codeIn K cd14 "Values.__init__" = true) (k14 : PySem.W.keepIn K (.ref f14) = true)
    {tq14_lack : Tok} (n14_lack : PySem.W.nsIn K DK14 "lack" = some (some (.str "nobody" tq14_lack)))
    (a15 : PySem.W.nsIn K mainGlobals "greatest_counts" = some (some (.ref f15))) (l15 : K.lookup f15 = some ⟨oc15, od15, .func (PySem.W.fnOf "greatest_counts" "greatest_counts" (defArgs s_greatest_counts) (defBody s_greatest_counts) (defScope s_greatest_counts) .none kV15 dc15 pm15 an15 cd15 ct15), sl15⟩) (c15 : PySem.W.codeIn K cd15 "greatest_counts" = true) (k15 : PySem.W.keepIn K (.ref f15) = true)
    (l16 : K.lookup f16 = some ⟨oc16, od16, .func (PySem.W.fnOf "__init__" "Counts.__init__" (defArgs s_Counts___init__) (defBody s_Counts___init__) (defScope s_Counts___init__) .none kV16 dc16 pm16 an16 cd16 ct16), sl16⟩) (c16 : PySem.W.codeIn K cd16 "Counts.__init__" = true) (k16 : PySem.W.keepIn K (.ref f16) = true)
    (l17 : K.lookup f17 = some ⟨oc17, od17, .func (PySem.W.fnOf "__init__" "Names.__init__" (defArgs s_Names___init__) (defBody s_Names___init__) (defScope s_Names___init__) .none kV17 dc17 pm17 an17 cd17 ct17), sl17⟩) (c17 : PySem.W.codeIn K cd17 "Names.__init__" = true) (k17 : PySem.W.keepIn K (.ref f17) = true)
    (a18 : PySem.W.nsIn K mainGlobals "_law_fact" = some (some (.ref f18))) (l18 : K.lookup f18 = some ⟨oc18, od18, .func (PySem.W.fnOf "_law_fact" "_law_fact" (defArgs s_law_fact) (defBody s_law_fact) (defScope s_law_fact) .none kV18 dc18 pm18 an18 cd18 ct18), sl18⟩) (c18 : PySem.W.codeIn K cd18 "_law_fact" = true) (k18 : PySem.W.keepIn K (.ref f18) = true)
    (l19 : K.lookup f19 = some ⟨oc19, od19, .func (PySem.W.fnOf "__init__" "Region.__init__" (defArgs s_Region___init__) (defBody s_Region___init__) (defScope s_Region___init__) .none kV19 dc19 pm19 an19 cd19 ct19), sl19⟩) (c19 : PySem.W.codeIn K cd19 "Region.__init__" = true) (k19 : PySem.W.keepIn K (.ref f19) = true)
    (l20 : K.lookup f20 = some ⟨oc20, od20, .func (PySem.W.fnOf "__init__" "Entry.__init__" (defArgs s_Entry___init__) (defBody s_Entry___init__) (defScope s_Entry___init__) .none kV20 dc20 pm20 an20 cd20 ct20), sl20⟩) (c20 : PySem.W.codeIn K cd20 "Entry.__init__" = true) (k20 : PySem.W.keepIn K (.ref f20) = true)
    (l21 : K.lookup f21 = some ⟨oc21, od21, .func (PySem.W.fnOf "__init__" "Offer.__init__" (defArgs s_Offer___init__) (defBody s_Offer___init__) (defScope s_Offer___init__) .none kV21 dc21 pm21 an21 cd21 ct21), sl21⟩) (c21 : PySem.W.codeIn K cd21 "Offer.__init__" = true) (k21 : PySem.W.keepIn K (.ref f21) = true)
    (a22 : PySem.W.nsIn K mainGlobals "_law_offer" = some (some (.ref f22))) (l22 : K.lookup f22 = some ⟨oc22, od22, .func (PySem.W.fnOf "_law_offer" "_law_offer" (defArgs s_law_offer) (defBody s_law_offer) (defScope s_law_offer) .none kV22 dc22 pm22 an22 cd22 ct22), sl22⟩) (c22 : PySem.W.codeIn K cd22 "_law_offer" = true) (k22 : PySem.W.keepIn K (.ref f22) = true)
    (a23 : PySem.W.nsIn K mainGlobals "list_code" = some (some (.ref f23))) (l23 : K.lookup f23 = some ⟨oc23, od23, .func (PySem.W.fnOf "list_code" "list_code" (defArgs s_list_code) (defBody s_list_code) (defScope s_list_code) .none kV23 dc23 pm23 an23 cd23 ct23), sl23⟩) (c23 : PySem.W.codeIn K cd23 "list_code" = true) (k23 : PySem.W.keepIn K (.ref f23) = true)
    (a24 : PySem.W.nsIn K mainGlobals "numbers_code" = some (some (.ref f24))) (l24 : K.lookup f24 = some ⟨oc24, od24, .func (PySem.W.fnOf "numbers_code" "numbers_code" (defArgs s_numbers_code) (defBody s_numbers_code) (defScope s_numbers_code) .none kV24 dc24 pm24 an24 cd24 ct24), sl24⟩) (c24 : PySem.W.codeIn K cd24 "numbers_code" = true) (k24 : PySem.W.keepIn K (.ref f24) = true)
    (a25 : PySem.W.nsIn K mainGlobals "string_code" = some (some (.ref f25))) (l25 : K.lookup f25 = some ⟨oc25, od25, .func (PySem.W.fnOf "string_code" "string_code" (defArgs s_string_code) (defBody s_string_code) (defScope s_string_code) .none kV25 dc25 pm25 an25 cd25 ct25), sl25⟩) (c25 : PySem.W.codeIn K cd25 "string_code" = true) (k25 : PySem.W.keepIn K (.ref f25) = true)
    (a26 : PySem.W.nsIn K mainGlobals "kind_of_value" = some (some (.ref f26))) (l26 : K.lookup f26 = some ⟨oc26, od26, .func (PySem.W.fnOf "kind_of_value" "kind_of_value" (defArgs s_kind_of_value) (defBody s_kind_of_value) (defScope s_kind_of_value) .none kV26 dc26 pm26 an26 cd26 ct26), sl26⟩) (c26 : PySem.W.codeIn K cd26 "kind_of_value" = true) (k26 : PySem.W.keepIn K (.ref f26) = true)
    (a27 : PySem.W.nsIn K mainGlobals "value_code" = some (some (.ref f27))) (l27 : K.lookup f27 = some ⟨oc27, od27, .func (PySem.W.fnOf "value_code" "value_code" (defArgs s_value_code) (defBody s_value_code) (defScope s_value_code) .none kV27 dc27 pm27 an27 cd27 ct27), sl27⟩) (c27 : PySem.W.codeIn K cd27 "value_code" = true) (k27 : PySem.W.keepIn K (.ref f27) = true)
    (a28 : PySem.W.nsIn K mainGlobals "maybe_code" = some (some (.ref f28))) (l28 : K.lookup f28 = some ⟨oc28, od28, .func (PySem.W.fnOf "maybe_code" "maybe_code" (defArgs s_maybe_code) (defBody s_maybe_code) (defScope s_maybe_code) .none kV28 dc28 pm28 an28 cd28 ct28), sl28⟩) (c28 : PySem.W.codeIn K cd28 "maybe_code" = true) (k28 : PySem.W.keepIn K (.ref f28) = true)
    (a29 : PySem.W.nsIn K mainGlobals "words_code" = some (some (.ref f29))) (l29 : K.lookup f29 = some ⟨oc29, od29, .func (PySem.W.fnOf "words_code" "words_code" (defArgs s_words_code) (defBody s_words_code) (defScope s_words_code) .none kV29 dc29 pm29 an29 cd29 ct29), sl29⟩) (c29 : PySem.W.codeIn K cd29 "words_code" = true) (k29 : PySem.W.keepIn K (.ref f29) = true)
    (a30 : PySem.W.nsIn K mainGlobals "part_code" = some (some (.ref f30))) (l30 : K.lookup f30 = some ⟨oc30, od30, .func (PySem.W.fnOf "part_code" "part_code" (defArgs s_part_code) (defBody s_part_code) (defScope s_part_code) .none kV30 dc30 pm30 an30 cd30 ct30), sl30⟩) (c30 : PySem.W.codeIn K cd30 "part_code" = true) (k30 : PySem.W.keepIn K (.ref f30) = true)
    (a31 : PySem.W.nsIn K mainGlobals "fact_code" = some (some (.ref f31))) (l31 : K.lookup f31 = some ⟨oc31, od31, .func (PySem.W.fnOf "fact_code" "fact_code" (defArgs s_fact_code) (defBody s_fact_code) (defScope s_fact_code) .none kV31 dc31 pm31 an31 cd31 ct31), sl31⟩) (c31 : PySem.W.codeIn K cd31 "fact_code" = true) (k31 : PySem.W.keepIn K (.ref f31) = true)
    (a32 : PySem.W.nsIn K mainGlobals "region_code" = some (some (.ref f32))) (l32 : K.lookup f32 = some ⟨oc32, od32, .func (PySem.W.fnOf "region_code" "region_code" (defArgs s_region_code) (defBody s_region_code) (defScope s_region_code) .none kV32 dc32 pm32 an32 cd32 ct32), sl32⟩) (c32 : PySem.W.codeIn K cd32 "region_code" = true) (k32 : PySem.W.keepIn K (.ref f32) = true)
    (a33 : PySem.W.nsIn K mainGlobals "partition_code" = some (some (.ref f33))) (l33 : K.lookup f33 = some ⟨oc33, od33, .func (PySem.W.fnOf "partition_code" "partition_code" (defArgs s_partition_code) (defBody s_partition_code) (defScope s_partition_code) .none kV33 dc33 pm33 an33 cd33 ct33), sl33⟩) (c33 : PySem.W.codeIn K cd33 "partition_code" = true) (k33 : PySem.W.keepIn K (.ref f33) = true)
    (a34 : PySem.W.nsIn K mainGlobals "record_code" = some (some (.ref f34))) (l34 : K.lookup f34 = some ⟨oc34, od34, .func (PySem.W.fnOf "record_code" "record_code" (defArgs s_record_code) (defBody s_record_code) (defScope s_record_code) .none kV34 dc34 pm34 an34 cd34 ct34), sl34⟩) (c34 : PySem.W.codeIn K cd34 "record_code" = true) (k34 : PySem.W.keepIn K (.ref f34) = true)
    (a35 : PySem.W.nsIn K mainGlobals "entry_code" = some (some (.ref f35))) (l35 : K.lookup f35 = some ⟨oc35, od35, .func (PySem.W.fnOf "entry_code" "entry_code" (defArgs s_entry_code) (defBody s_entry_code) (defScope s_entry_code) .none kV35 dc35 pm35 an35 cd35 ct35), sl35⟩) (c35 : PySem.W.codeIn K cd35 "entry_code" = true) (k35 : PySem.W.keepIn K (.ref f35) = true)
    (a36 : PySem.W.nsIn K mainGlobals "offer_code" = some (some (.ref f36))) (l36 : K.lookup f36 = some ⟨oc36, od36, .func (PySem.W.fnOf "offer_code" "offer_code" (defArgs s_offer_code) (defBody s_offer_code) (defScope s_offer_code) .none kV36 dc36 pm36 an36 cd36 ct36), sl36⟩) (c36 : PySem.W.codeIn K cd36 "offer_code" = true) (k36 : PySem.W.keepIn K (.ref f36) = true)
    (a37 : PySem.W.nsIn K mainGlobals "_law_text" = some (some (.ref f37))) (l37 : K.lookup f37 = some ⟨oc37, od37, .func (PySem.W.fnOf "_law_text" "_law_text" (defArgs s_law_text) (defBody s_law_text) (defScope s_law_text) .none kV37 dc37 pm37 an37 cd37 ct37), sl37⟩) (c37 : PySem.W.codeIn K cd37 "_law_text" = true) (k37 : PySem.W.keepIn K (.ref f37) = true)
    (a38 : PySem.W.nsIn K mainGlobals "_law_value" = some (some (.ref f38))) (l38 : K.lookup f38 = some ⟨oc38, od38, .func (PySem.W.fnOf "_law_value" "_law_value" (defArgs s_law_value) (defBody s_law_value) (defScope s_law_value) .none kV38 dc38 pm38 an38 cd38 ct38), sl38⟩) (c38 : PySem.W.codeIn K cd38 "_law_value" = true) (k38 : PySem.W.keepIn K (.ref f38) = true)
    (a39 : PySem.W.nsIn K mainGlobals "_law_list" = some (some (.ref f39))) (l39 : K.lookup f39 = some ⟨oc39, od39, .func (PySem.W.fnOf "_law_list" "_law_list" (defArgs s_law_list) (defBody s_law_list) (defScope s_law_list) .none kV39 dc39 pm39 an39 cd39 ct39), sl39⟩) (c39 : PySem.W.codeIn K cd39 "_law_list" = true) (k39 : PySem.W.keepIn K (.ref f39) = true)
    (a40 : PySem.W.nsIn K mainGlobals "_law_counted" = some (some (.ref f40))) (l40 : K.lookup f40 = some ⟨oc40, od40, .func (PySem.W.fnOf "_law_counted" "_law_counted" (defArgs s_law_counted) (defBody s_law_counted) (defScope s_law_counted) .none kV40 dc40 pm40 an40 cd40 ct40), sl40⟩) (c40 : PySem.W.codeIn K cd40 "_law_counted" = true) (k40 : PySem.W.keepIn K (.ref f40) = true)
    (a41 : PySem.W.nsIn K mainGlobals "_law_fact_due" = some (some (.ref f41))) (l41 : K.lookup f41 = some ⟨oc41, od41, .func (PySem.W.fnOf "_law_fact_due" "_law_fact_due" (defArgs s_law_fact_due) (defBody s_law_fact_due) (defScope s_law_fact_due) .none kV41 dc41 pm41 an41 cd41 ct41), sl41⟩) (c41 : PySem.W.codeIn K cd41 "_law_fact_due" = true) (k41 : PySem.W.keepIn K (.ref f41) = true)
    (a42 : PySem.W.nsIn K mainGlobals "_law_record_due" = some (some (.ref f42))) (l42 : K.lookup f42 = some ⟨oc42, od42, .func (PySem.W.fnOf "_law_record_due" "_law_record_due" (defArgs s_law_record_due) (defBody s_law_record_due) (defScope s_law_record_due) .none kV42 dc42 pm42 an42 cd42 ct42), sl42⟩) (c42 : PySem.W.codeIn K cd42 "_law_record_due" = true) (k42 : PySem.W.keepIn K (.ref f42) = true)
    (a43 : PySem.W.nsIn K mainGlobals "_law_region_due" = some (some (.ref f43))) (l43 : K.lookup f43 = some ⟨oc43, od43, .func (PySem.W.fnOf "_law_region_due" "_law_region_due" (defArgs s_law_region_due) (defBody s_law_region_due) (defScope s_law_region_due) .none kV43 dc43 pm43 an43 cd43 ct43), sl43⟩) (c43 : PySem.W.codeIn K cd43 "_law_region_due" = true) (k43 : PySem.W.keepIn K (.ref f43) = true)
    (a44 : PySem.W.nsIn K mainGlobals "_law_parts_agree" = some (some (.ref f44))) (l44 : K.lookup f44 = some ⟨oc44, od44, .func (PySem.W.fnOf "_law_parts_agree" "_law_parts_agree" (defArgs s_law_parts_agree) (defBody s_law_parts_agree) (defScope s_law_parts_agree) .none kV44 dc44 pm44 an44 cd44 ct44), sl44⟩) (c44 : PySem.W.codeIn K cd44 "_law_parts_agree" = true) (k44 : PySem.W.keepIn K (.ref f44) = true)
    (a45 : PySem.W.nsIn K mainGlobals "law" = some (some (.ref f45))) (l45 : K.lookup f45 = some ⟨oc45, od45, .func (PySem.W.fnOf "law" "law" (defArgs s_law) (defBody s_law) (defScope s_law) .none kV45 dc45 pm45 an45 cd45 ct45), sl45⟩) (c45 : PySem.W.codeIn K cd45 "law" = true) (k45 : PySem.W.keepIn K (.ref f45) = true)
    (aC_Record : PySem.W.nsIn K mainGlobals "Record" = some (some (.ref C_Record)))
    (pg_Record : PySem.W.plainGet K C_Record Str.empty = true)
    (hd_Record : PySem.W.hasDictIn K C_Record = true)
    (po_Record : PySem.W.plainOver K C_Record = true)
    (sa_Record : PySem.W.findIn K (.ref C_Record) "__setattr__" = some (some (.builtin "object.__setattr__")))
    (n_Record_name : PySem.W.findIn K (.ref C_Record) "name" = some none)
    (n_Record_vector : PySem.W.findIn K (.ref C_Record) "vector" = some none)
    (n_Record_fields : PySem.W.findIn K (.ref C_Record) "fields" = some none)
    (n_Record_words : PySem.W.findIn K (.ref C_Record) "words" = some none)
    (mk_Record : PySem.W.makesIn K C_Record = true)
    (in_Record : PySem.W.findIn K (.ref C_Record) "__init__" = some (some (.ref f5)))
    (if_Record : PySem.W.isFn K (.ref f5) = true)
    (kc_Record : PySem.W.keepIn K (.ref C_Record) = true)
    (aC_Part : PySem.W.nsIn K mainGlobals "Part" = some (some (.ref C_Part)))
    (pg_Part : PySem.W.plainGet K C_Part Str.empty = true)
    (hd_Part : PySem.W.hasDictIn K C_Part = true)
    (po_Part : PySem.W.plainOver K C_Part = true)
    (sa_Part : PySem.W.findIn K (.ref C_Part) "__setattr__" = some (some (.builtin "object.__setattr__")))
    (n_Part_start : PySem.W.findIn K (.ref C_Part) "start" = some none)
    (n_Part_centre : PySem.W.findIn K (.ref C_Part) "centre" = some none)
    (n_Part_radius : PySem.W.findIn K (.ref C_Part) "radius" = some none)
    (mk_Part : PySem.W.makesIn K C_Part = true)
    (in_Part : PySem.W.findIn K (.ref C_Part) "__init__" = some (some (.ref f7)))
    (if_Part : PySem.W.isFn K (.ref f7) = true)
    (kc_Part : PySem.W.keepIn K (.ref C_Part) = true)
    (aC_Parts : PySem.W.nsIn K mainGlobals "Parts" = some (some (.ref C_Parts)))
    (pg_Parts : PySem.W.plainGet K C_Parts Str.empty = true)
    (hd_Parts : PySem.W.hasDictIn K C_Parts = true)
    (po_Parts : PySem.W.plainOver K C_Parts = true)
    (sa_Parts : PySem.W.findIn K (.ref C_Parts) "__setattr__" = some (some (.builtin "object.__setattr__")))
    (n_Parts_parts : PySem.W.findIn K (.ref C_Parts) "parts" = some none)
    (mk_Parts : PySem.W.makesIn K C_Parts = true)
    (in_Parts : PySem.W.findIn K (.ref C_Parts) "__init__" = some (some (.ref f8)))
    (if_Parts : PySem.W.isFn K (.ref f8) = true)
    (kc_Parts : PySem.W.keepIn K (.ref C_Parts) = true)
    (ha_Parts : PySem.W.findIn K (.ref C_Parts) "__class__" = some (some (.builtin "object.__class__")))
    (hm_Parts : PySem.W.mroIn K C_Parts (.type "object") = some true)
    (aC_Cell : PySem.W.nsIn K mainGlobals "Cell" = some (some (.ref C_Cell)))
    (pg_Cell : PySem.W.plainGet K C_Cell Str.empty = true)
    (hd_Cell : PySem.W.hasDictIn K C_Cell = true)
    (po_Cell : PySem.W.plainOver K C_Cell = true)
    (sa_Cell : PySem.W.findIn K (.ref C_Cell) "__setattr__" = some (some (.builtin "object.__setattr__")))
    (n_Cell_near : PySem.W.findIn K (.ref C_Cell) "near" = some none)
    (n_Cell_rival : PySem.W.findIn K (.ref C_Cell) "rival" = some none)
    (mk_Cell : PySem.W.makesIn K C_Cell = true)
    (in_Cell : PySem.W.findIn K (.ref C_Cell) "__init__" = some (some (.ref f9)))
    (if_Cell : PySem.W.isFn K (.ref f9) = true)
    (kc_Cell : PySem.W.keepIn K (.ref C_Cell) = true)
    (ha_Cell : PySem.W.findIn K (.ref C_Cell) "__class__" = some (some (.builtin "object.__class__")))
    (hm_Cell : PySem.W.mroIn K C_Cell (.type "object") = some true)
    (aC_Box : PySem.W.nsIn K mainGlobals "Box" = some (some (.ref C_Box)))
    (pg_Box : PySem.W.plainGet K C_Box Str.empty = true)
    (hd_Box : PySem.W.hasDictIn K C_Box = true)
    (po_Box : PySem.W.plainOver K C_Box = true)
    (sa_Box : PySem.W.findIn K (.ref C_Box) "__setattr__" = some (some (.builtin "object.__setattr__")))
    (n_Box_low : PySem.W.findIn K (.ref C_Box) "low" = some none)
    (n_Box_high : PySem.W.findIn K (.ref C_Box) "high" = some none)
    (mk_Box : PySem.W.makesIn K C_Box = true)
    (in_Box : PySem.W.findIn K (.ref C_Box) "__init__" = some (some (.ref f10)))
    (if_Box : PySem.W.isFn K (.ref f10) = true)
    (kc_Box : PySem.W.keepIn K (.ref C_Box) = true)
    (ha_Box : PySem.W.findIn K (.ref C_Box) "__class__" = some (some (.builtin "object.__class__")))
    (hm_Box : PySem.W.mroIn K C_Box (.type "object") = some true)
    (aC_Norms : PySem.W.nsIn K mainGlobals "Norms" = some (some (.ref C_Norms)))
    (pg_Norms : PySem.W.plainGet K C_Norms Str.empty = true)
    (hd_Norms : PySem.W.hasDictIn K C_Norms = true)
    (po_Norms : PySem.W.plainOver K C_Norms = true)
    (sa_Norms : PySem.W.findIn K (.ref C_Norms) "__setattr__" = some (some (.builtin "object.__setattr__")))
    (n_Norms_low : PySem.W.findIn K (.ref C_Norms) "low" = some none)
    (n_Norms_high : PySem.W.findIn K (.ref C_Norms) "high" = some none)
    (mk_Norms : PySem.W.makesIn K C_Norms = true)
    (in_Norms : PySem.W.findIn K (.ref C_Norms) "__init__" = some (some (.ref f11)))
    (if_Norms : PySem.W.isFn K (.ref f11) = true)
    (kc_Norms : PySem.W.keepIn K (.ref C_Norms) = true)
    (ha_Norms : PySem.W.findIn K (.ref C_Norms) "__class__" = some (some (.builtin "object.__class__")))
    (hm_Norms : PySem.W.mroIn K C_Norms (.type "object") = some true)
    (aC_Differ : PySem.W.nsIn K mainGlobals "Differ" = some (some (.ref C_Differ)))
    (pg_Differ : PySem.W.plainGet K C_Differ Str.empty = true)
    (hd_Differ : PySem.W.hasDictIn K C_Differ = true)
    (po_Differ : PySem.W.plainOver K C_Differ = true)
    (sa_Differ : PySem.W.findIn K (.ref C_Differ) "__setattr__" = some (some (.builtin "object.__setattr__")))
    (n_Differ_centre : PySem.W.findIn K (.ref C_Differ) "centre" = some none)
    (n_Differ_most : PySem.W.findIn K (.ref C_Differ) "most" = some none)
    (mk_Differ : PySem.W.makesIn K C_Differ = true)
    (in_Differ : PySem.W.findIn K (.ref C_Differ) "__init__" = some (some (.ref f12)))
    (if_Differ : PySem.W.isFn K (.ref f12) = true)
    (kc_Differ : PySem.W.keepIn K (.ref C_Differ) = true)
    (ha_Differ : PySem.W.findIn K (.ref C_Differ) "__class__" = some (some (.builtin "object.__class__")))
    (hm_Differ : PySem.W.mroIn K C_Differ (.type "object") = some true)
    (aC_Range : PySem.W.nsIn K mainGlobals "Range" = some (some (.ref C_Range)))
    (pg_Range : PySem.W.plainGet K C_Range Str.empty = true)
    (hd_Range : PySem.W.hasDictIn K C_Range = true)
    (po_Range : PySem.W.plainOver K C_Range = true)
    (sa_Range : PySem.W.findIn K (.ref C_Range) "__setattr__" = some (some (.builtin "object.__setattr__")))
    (n_Range_field : PySem.W.findIn K (.ref C_Range) "field" = some none)
    (n_Range_low : PySem.W.findIn K (.ref C_Range) "low" = some none)
    (n_Range_high : PySem.W.findIn K (.ref C_Range) "high" = some none)
    (n_Range_lack : PySem.W.findIn K (.ref C_Range) "lack" = some none)
    (mk_Range : PySem.W.makesIn K C_Range = true)
    (in_Range : PySem.W.findIn K (.ref C_Range) "__init__" = some (some (.ref f13)))
    (if_Range : PySem.W.isFn K (.ref f13) = true)
    (kc_Range : PySem.W.keepIn K (.ref C_Range) = true)
    (ha_Range : PySem.W.findIn K (.ref C_Range) "__class__" = some (some (.builtin "object.__class__")))
    (hm_Range : PySem.W.mroIn K C_Range (.type "object") = some true)
    (aC_Values : PySem.W.nsIn K mainGlobals "Values" = some (some (.ref C_Values)))
    (pg_Values : PySem.W.plainGet K C_Values Str.empty = true)
    (hd_Values : PySem.W.hasDictIn K C_Values = true)
    (po_Values : PySem.W.plainOver K C_Values = true)
    (sa_Values : PySem.W.findIn K (.ref C_Values) "__setattr__" = some (some (.builtin "object.__setattr__")))
    (n_Values_field : PySem.W.findIn K (.ref C_Values) "field" = some none)
    (n_Values_choices : PySem.W.findIn K (.ref C_Values) "choices" = some none)
    (n_Values_lack : PySem.W.findIn K (.ref C_Values) "lack" = some none)
    (mk_Values : PySem.W.makesIn K C_Values = true)
    (in_Values : PySem.W.findIn K (.ref C_Values) "__init__" = some (some (.ref f14)))
    (if_Values : PySem.W.isFn K (.ref f14) = true)
    (kc_Values : PySem.W.keepIn K (.ref C_Values) = true)
    (ha_Values : PySem.W.findIn K (.ref C_Values) "__class__" = some (some (.builtin "object.__class__")))
    (hm_Values : PySem.W.mroIn K C_Values (.type "object") = some true)
    (aC_Counts : PySem.W.nsIn K mainGlobals "Counts" = some (some (.ref C_Counts)))
    (pg_Counts : PySem.W.plainGet K C_Counts Str.empty = true)
    (hd_Counts : PySem.W.hasDictIn K C_Counts = true)
    (po_Counts : PySem.W.plainOver K C_Counts = true)
    (sa_Counts : PySem.W.findIn K (.ref C_Counts) "__setattr__" = some (some (.builtin "object.__setattr__")))
    (n_Counts_words : PySem.W.findIn K (.ref C_Counts) "words" = some none)
    (n_Counts_bounds : PySem.W.findIn K (.ref C_Counts) "bounds" = some none)
    (mk_Counts : PySem.W.makesIn K C_Counts = true)
    (in_Counts : PySem.W.findIn K (.ref C_Counts) "__init__" = some (some (.ref f16)))
    (if_Counts : PySem.W.isFn K (.ref f16) = true)
    (kc_Counts : PySem.W.keepIn K (.ref C_Counts) = true)
    (ha_Counts : PySem.W.findIn K (.ref C_Counts) "__class__" = some (some (.builtin "object.__class__")))
    (hm_Counts : PySem.W.mroIn K C_Counts (.type "object") = some true)
    (aC_Names : PySem.W.nsIn K mainGlobals "Names" = some (some (.ref C_Names)))
    (pg_Names : PySem.W.plainGet K C_Names Str.empty = true)
    (hd_Names : PySem.W.hasDictIn K C_Names = true)
    (po_Names : PySem.W.plainOver K C_Names = true)
    (sa_Names : PySem.W.findIn K (.ref C_Names) "__setattr__" = some (some (.builtin "object.__setattr__")))
    (n_Names_low : PySem.W.findIn K (.ref C_Names) "low" = some none)
    (n_Names_high : PySem.W.findIn K (.ref C_Names) "high" = some none)
    (mk_Names : PySem.W.makesIn K C_Names = true)
    (in_Names : PySem.W.findIn K (.ref C_Names) "__init__" = some (some (.ref f17)))
    (if_Names : PySem.W.isFn K (.ref f17) = true)
    (kc_Names : PySem.W.keepIn K (.ref C_Names) = true)
    (ha_Names : PySem.W.findIn K (.ref C_Names) "__class__" = some (some (.builtin "object.__class__")))
    (hm_Names : PySem.W.mroIn K C_Names (.type "object") = some true)
    (aC_Region : PySem.W.nsIn K mainGlobals "Region" = some (some (.ref C_Region)))
    (pg_Region : PySem.W.plainGet K C_Region Str.empty = true)
    (hd_Region : PySem.W.hasDictIn K C_Region = true)
    (po_Region : PySem.W.plainOver K C_Region = true)
    (sa_Region : PySem.W.findIn K (.ref C_Region) "__setattr__" = some (some (.builtin "object.__setattr__")))
    (n_Region_parent : PySem.W.findIn K (.ref C_Region) "parent" = some none)
    (n_Region_facts : PySem.W.findIn K (.ref C_Region) "facts" = some none)
    (mk_Region : PySem.W.makesIn K C_Region = true)
    (in_Region : PySem.W.findIn K (.ref C_Region) "__init__" = some (some (.ref f19)))
    (if_Region : PySem.W.isFn K (.ref f19) = true)
    (kc_Region : PySem.W.keepIn K (.ref C_Region) = true)
    (aC_Entry : PySem.W.nsIn K mainGlobals "Entry" = some (some (.ref C_Entry)))
    (pg_Entry : PySem.W.plainGet K C_Entry Str.empty = true)
    (hd_Entry : PySem.W.hasDictIn K C_Entry = true)
    (po_Entry : PySem.W.plainOver K C_Entry = true)
    (sa_Entry : PySem.W.findIn K (.ref C_Entry) "__setattr__" = some (some (.builtin "object.__setattr__")))
    (n_Entry_number : PySem.W.findIn K (.ref C_Entry) "number" = some none)
    (n_Entry_record : PySem.W.findIn K (.ref C_Entry) "record" = some none)
    (n_Entry_leaves : PySem.W.findIn K (.ref C_Entry) "leaves" = some none)
    (mk_Entry : PySem.W.makesIn K C_Entry = true)
    (in_Entry : PySem.W.findIn K (.ref C_Entry) "__init__" = some (some (.ref f20)))
    (if_Entry : PySem.W.isFn K (.ref f20) = true)
    (kc_Entry : PySem.W.keepIn K (.ref C_Entry) = true)
    (aC_Offer : PySem.W.nsIn K mainGlobals "Offer" = some (some (.ref C_Offer)))
    (pg_Offer : PySem.W.plainGet K C_Offer Str.empty = true)
    (hd_Offer : PySem.W.hasDictIn K C_Offer = true)
    (po_Offer : PySem.W.plainOver K C_Offer = true)
    (sa_Offer : PySem.W.findIn K (.ref C_Offer) "__setattr__" = some (some (.builtin "object.__setattr__")))
    (n_Offer_partitions : PySem.W.findIn K (.ref C_Offer) "partitions" = some none)
    (n_Offer_entries : PySem.W.findIn K (.ref C_Offer) "entries" = some none)
    (mk_Offer : PySem.W.makesIn K C_Offer = true)
    (in_Offer : PySem.W.findIn K (.ref C_Offer) "__init__" = some (some (.ref f21)))
    (if_Offer : PySem.W.isFn K (.ref f21) = true)
    (kc_Offer : PySem.W.keepIn K (.ref C_Offer) = true)
    (ic_Parts : PySem.W.isClsIn K C_Parts = true)
    (ty_Parts : PySem.W.typeIn K (.ref C_Parts) = some (.type "type"))
    (ic_Cell : PySem.W.isClsIn K C_Cell = true)
    (ty_Cell : PySem.W.typeIn K (.ref C_Cell) = some (.type "type"))
    (ic_Box : PySem.W.isClsIn K C_Box = true)
    (ty_Box : PySem.W.typeIn K (.ref C_Box) = some (.type "type"))
    (ic_Norms : PySem.W.isClsIn K C_Norms = true)
    (ty_Norms : PySem.W.typeIn K (.ref C_Norms) = some (.type "type"))
    (ic_Differ : PySem.W.isClsIn K C_Differ = true)
    (ty_Differ : PySem.W.typeIn K (.ref C_Differ) = some (.type "type"))
    (ic_Range : PySem.W.isClsIn K C_Range = true)
    (ty_Range : PySem.W.typeIn K (.ref C_Range) = some (.type "type"))
    (ic_Values : PySem.W.isClsIn K C_Values = true)
    (ty_Values : PySem.W.typeIn K (.ref C_Values) = some (.type "type"))
    (ic_Counts : PySem.W.isClsIn K C_Counts = true)
    (ty_Counts : PySem.W.typeIn K (.ref C_Counts) = some (.type "type"))
    (ss_Parts : PySem.W.subIn K (.ref C_Parts) (.ref C_Parts) = some true)
    (sb_Cell_Parts : PySem.W.subIn K (.ref C_Cell) (.ref C_Parts) = some false)
    (sb_Box_Parts : PySem.W.subIn K (.ref C_Box) (.ref C_Parts) = some false)
    (sb_Norms_Parts : PySem.W.subIn K (.ref C_Norms) (.ref C_Parts) = some false)
    (sb_Differ_Parts : PySem.W.subIn K (.ref C_Differ) (.ref C_Parts) = some false)
    (sb_Range_Parts : PySem.W.subIn K (.ref C_Range) (.ref C_Parts) = some false)
    (sb_Values_Parts : PySem.W.subIn K (.ref C_Values) (.ref C_Parts) = some false)
    (sb_Counts_Parts : PySem.W.subIn K (.ref C_Counts) (.ref C_Parts) = some false)
    (sb_Names_Parts : PySem.W.subIn K (.ref C_Names) (.ref C_Parts) = some false)
    (ss_Cell : PySem.W.subIn K (.ref C_Cell) (.ref C_Cell) = some true)
    (sb_Parts_Cell : PySem.W.subIn K (.ref C_Parts) (.ref C_Cell) = some false)
    (sb_Box_Cell : PySem.W.subIn K (.ref C_Box) (.ref C_Cell) = some false)
    (sb_Norms_Cell : PySem.W.subIn K (.ref C_Norms) (.ref C_Cell) = some false)
    (sb_Differ_Cell : PySem.W.subIn K (.ref C_Differ) (.ref C_Cell) = some false)
    (sb_Range_Cell : PySem.W.subIn K (.ref C_Range) (.ref C_Cell) = some false)
    (sb_Values_Cell : PySem.W.subIn K (.ref C_Values) (.ref C_Cell) = some false)
    (sb_Counts_Cell : PySem.W.subIn K (.ref C_Counts) (.ref C_Cell) = some false)
    (sb_Names_Cell : PySem.W.subIn K (.ref C_Names) (.ref C_Cell) = some false)
    (ss_Box : PySem.W.subIn K (.ref C_Box) (.ref C_Box) = some true)
    (sb_Parts_Box : PySem.W.subIn K (.ref C_Parts) (.ref C_Box) = some false)
    (sb_Cell_Box : PySem.W.subIn K (.ref C_Cell) (.ref C_Box) = some false)
    (sb_Norms_Box : PySem.W.subIn K (.ref C_Norms) (.ref C_Box) = some false)
    (sb_Differ_Box : PySem.W.subIn K (.ref C_Differ) (.ref C_Box) = some false)
    (sb_Range_Box : PySem.W.subIn K (.ref C_Range) (.ref C_Box) = some false)
    (sb_Values_Box : PySem.W.subIn K (.ref C_Values) (.ref C_Box) = some false)
    (sb_Counts_Box : PySem.W.subIn K (.ref C_Counts) (.ref C_Box) = some false)
    (sb_Names_Box : PySem.W.subIn K (.ref C_Names) (.ref C_Box) = some false)
    (ss_Norms : PySem.W.subIn K (.ref C_Norms) (.ref C_Norms) = some true)
    (sb_Parts_Norms : PySem.W.subIn K (.ref C_Parts) (.ref C_Norms) = some false)
    (sb_Cell_Norms : PySem.W.subIn K (.ref C_Cell) (.ref C_Norms) = some false)
    (sb_Box_Norms : PySem.W.subIn K (.ref C_Box) (.ref C_Norms) = some false)
    (sb_Differ_Norms : PySem.W.subIn K (.ref C_Differ) (.ref C_Norms) = some false)
    (sb_Range_Norms : PySem.W.subIn K (.ref C_Range) (.ref C_Norms) = some false)
    (sb_Values_Norms : PySem.W.subIn K (.ref C_Values) (.ref C_Norms) = some false)
    (sb_Counts_Norms : PySem.W.subIn K (.ref C_Counts) (.ref C_Norms) = some false)
    (sb_Names_Norms : PySem.W.subIn K (.ref C_Names) (.ref C_Norms) = some false)
    (ss_Differ : PySem.W.subIn K (.ref C_Differ) (.ref C_Differ) = some true)
    (sb_Parts_Differ : PySem.W.subIn K (.ref C_Parts) (.ref C_Differ) = some false)
    (sb_Cell_Differ : PySem.W.subIn K (.ref C_Cell) (.ref C_Differ) = some false)
    (sb_Box_Differ : PySem.W.subIn K (.ref C_Box) (.ref C_Differ) = some false)
    (sb_Norms_Differ : PySem.W.subIn K (.ref C_Norms) (.ref C_Differ) = some false)
    (sb_Range_Differ : PySem.W.subIn K (.ref C_Range) (.ref C_Differ) = some false)
    (sb_Values_Differ : PySem.W.subIn K (.ref C_Values) (.ref C_Differ) = some false)
    (sb_Counts_Differ : PySem.W.subIn K (.ref C_Counts) (.ref C_Differ) = some false)
    (sb_Names_Differ : PySem.W.subIn K (.ref C_Names) (.ref C_Differ) = some false)
    (ss_Range : PySem.W.subIn K (.ref C_Range) (.ref C_Range) = some true)
    (sb_Parts_Range : PySem.W.subIn K (.ref C_Parts) (.ref C_Range) = some false)
    (sb_Cell_Range : PySem.W.subIn K (.ref C_Cell) (.ref C_Range) = some false)
    (sb_Box_Range : PySem.W.subIn K (.ref C_Box) (.ref C_Range) = some false)
    (sb_Norms_Range : PySem.W.subIn K (.ref C_Norms) (.ref C_Range) = some false)
    (sb_Differ_Range : PySem.W.subIn K (.ref C_Differ) (.ref C_Range) = some false)
    (sb_Values_Range : PySem.W.subIn K (.ref C_Values) (.ref C_Range) = some false)
    (sb_Counts_Range : PySem.W.subIn K (.ref C_Counts) (.ref C_Range) = some false)
    (sb_Names_Range : PySem.W.subIn K (.ref C_Names) (.ref C_Range) = some false)
    (ss_Values : PySem.W.subIn K (.ref C_Values) (.ref C_Values) = some true)
    (sb_Parts_Values : PySem.W.subIn K (.ref C_Parts) (.ref C_Values) = some false)
    (sb_Cell_Values : PySem.W.subIn K (.ref C_Cell) (.ref C_Values) = some false)
    (sb_Box_Values : PySem.W.subIn K (.ref C_Box) (.ref C_Values) = some false)
    (sb_Norms_Values : PySem.W.subIn K (.ref C_Norms) (.ref C_Values) = some false)
    (sb_Differ_Values : PySem.W.subIn K (.ref C_Differ) (.ref C_Values) = some false)
    (sb_Range_Values : PySem.W.subIn K (.ref C_Range) (.ref C_Values) = some false)
    (sb_Counts_Values : PySem.W.subIn K (.ref C_Counts) (.ref C_Values) = some false)
    (sb_Names_Values : PySem.W.subIn K (.ref C_Names) (.ref C_Values) = some false)
    (ss_Counts : PySem.W.subIn K (.ref C_Counts) (.ref C_Counts) = some true)
    (sb_Parts_Counts : PySem.W.subIn K (.ref C_Parts) (.ref C_Counts) = some false)
    (sb_Cell_Counts : PySem.W.subIn K (.ref C_Cell) (.ref C_Counts) = some false)
    (sb_Box_Counts : PySem.W.subIn K (.ref C_Box) (.ref C_Counts) = some false)
    (sb_Norms_Counts : PySem.W.subIn K (.ref C_Norms) (.ref C_Counts) = some false)
    (sb_Differ_Counts : PySem.W.subIn K (.ref C_Differ) (.ref C_Counts) = some false)
    (sb_Range_Counts : PySem.W.subIn K (.ref C_Range) (.ref C_Counts) = some false)
    (sb_Values_Counts : PySem.W.subIn K (.ref C_Values) (.ref C_Counts) = some false)
    (sb_Names_Counts : PySem.W.subIn K (.ref C_Names) (.ref C_Counts) = some false)
    (hn0 : PySem.W.specialIn K (.builtin "object.__class__") "__get__" = some (some (.builtin "getset_descriptor.__get__")))
    (ht0 : PySem.W.takesIn K (.builtin "object.__class__") = some true)
    {tk_BOX : Tok} (z_BOX : PySem.W.nsIn K mainGlobals "BOX" = some (some (.int 3 tk_BOX)))
    {tk_CELL : Tok} (z_CELL : PySem.W.nsIn K mainGlobals "CELL" = some (some (.int 2 tk_CELL)))
    {tk_COUNTS : Tok} (z_COUNTS : PySem.W.nsIn K mainGlobals "COUNTS" = some (some (.int 8 tk_COUNTS)))
    {tk_DIFFER : Tok} (z_DIFFER : PySem.W.nsIn K mainGlobals "DIFFER" = some (some (.int 5 tk_DIFFER)))
    {A_LACKS : Addr} {ti_LACKS : Array Value} {tn_LACKS : Nat} {ts_LACKS : Array (Option Value)} (z_LACKS : PySem.W.nsIn K mainGlobals "LACKS" = some (some (.ref A_LACKS))) (zl_LACKS : K.lookup A_LACKS = some ⟨.type "tuple", none, .seq ti_LACKS tn_LACKS, ts_LACKS⟩) (zv_LACKS : Vals [.str "nobody", .str "some", .str "all"] ti_LACKS.toList) (zn_LACKS : ti_LACKS.size ≤ sizeLine)
    {tk_NAMES : Tok} (z_NAMES : PySem.W.nsIn K mainGlobals "NAMES" = some (some (.int 9 tk_NAMES)))
    {tk_NORMS : Tok} (z_NORMS : PySem.W.nsIn K mainGlobals "NORMS" = some (some (.int 4 tk_NORMS)))
    {tk_PARTS : Tok} (z_PARTS : PySem.W.nsIn K mainGlobals "PARTS" = some (some (.int 1 tk_PARTS)))
    {tk_RANGE : Tok} (z_RANGE : PySem.W.nsIn K mainGlobals "RANGE" = some (some (.int 6 tk_RANGE)))
    {tk_VALUES : Tok} (z_VALUES : PySem.W.nsIn K mainGlobals "VALUES" = some (some (.int 7 tk_VALUES)))
    (z_bool : PySem.W.nsIn K mainGlobals "bool" = some none)
    (z_int : PySem.W.nsIn K mainGlobals "int" = some none)
    (z_isinstance : PySem.W.nsIn K mainGlobals "isinstance" = some none)
    (z_len : PySem.W.nsIn K mainGlobals "len" = some none)
    (z_list : PySem.W.nsIn K mainGlobals "list" = some none)
    (z_max : PySem.W.nsIn K mainGlobals "max" = some none)
    (z_ord : PySem.W.nsIn K mainGlobals "ord" = some none)
    (z_range : PySem.W.nsIn K mainGlobals "range" = some none)
    (z_str : PySem.W.nsIn K mainGlobals "str" = some none)
    (z_tuple : PySem.W.nsIn K mainGlobals "tuple" = some none)
    : ∃ fd : FuncData, (∀ (s : Shared) (v : Value), BindsTo s fd ⟨[v], []⟩ [("script", v)]) ∧ ∀ base : Heap, K.In base → base.Ns mainGlobals mg → FnOk l.prog w K mg base CX0 8 fa fd ["script"] (sp_law K) := by
  have e := hfa.symm.trans (PySem.W.mg_of X G a45)
  cases e
  have F0 := fun_mk (st := s_law_row) l0 c0 k0
  have b0 := F0.binds (ps := ["script", "k"]) fun _ _ _ _ _ _ us hl => match us, hl with | [_, _], _ => rfl
  have F1 := fun_mk (st := s_law_next) l1 c1 k1
  have b1 := F1.binds (ps := ["state", "many"]) fun _ _ _ _ _ _ us hl => match us, hl with | [_, _], _ => rfl
  have F2 := fun_mk (st := s_law_string) l2 c2 k2
  have b2 := F2.binds (ps := ["state"]) fun _ _ _ _ _ _ us hl => match us, hl with | [_], _ => rfl
  have F3 := fun_mk (st := s_law_numbers) l3 c3 k3
  have b3 := F3.binds (ps := ["state"]) fun _ _ _ _ _ _ us hl => match us, hl with | [_], _ => rfl
  have F4 := fun_mk (st := s_law_worth) l4 c4 k4
  have b4 := F4.binds (ps := ["state"]) fun _ _ _ _ _ _ us hl => match us, hl with | [_], _ => rfl
  have F5 : FunD K "__init__" "Record.__init__" (defArgs s_Record___init__) (defBody s_Record___init__) (defScope s_Record___init__) [] [("fields", .ref E5_fields), ("words", .ref E5_words)] f5 _ := ⟨⟨_, _, _, _, _, _, _, _, _, _, rfl, l5, c5, .inl ⟨rfl, rfl⟩, .inr ⟨DK5, rfl, fun q hq => by
    simp only [List.mem_cons, List.not_mem_nil, or_false] at hq
    rcases hq with rfl | rfl
    · exact ⟨_, n5_fields, rfl⟩
    · exact ⟨_, n5_words, rfl⟩⟩⟩, k5⟩
  obtain ⟨mv5, kb5⟩ := F5.kbinds0 (ps := ["self", "name", "vector", "fields", "words"]) 3 ["fields", "words"] [] (fun us mv ws => us ++ ws) (by intro h; cases h) (fun q h => by cases h) (fun r1 _ r3 => r1.append r3) (fun D doc pm an cdv ct us mv ws l1 l2 l3 => match us, mv, ws, l1, l2, l3 with | [_, _, _], [], [_, _], _, _, _ => rfl)
  obtain ⟨ds5, v5, b5⟩ := F5.binds0 (ps := ["self", "name", "vector", "fields", "words"]) 3 (by intro h; cases h) rfl (fun D doc pm an cdv ct us ks l1 l2 => match us, ks, l1, l2 with | [_, _, _], [_, _], _, _ => ⟨_, _, _, _, _, _, rfl, rfl, ⟨_, _, _, _, _, _, rfl, rfl, rfl⟩⟩)
  have F6 := fun_mk (st := s_law_record) l6 c6 k6
  have b6 := F6.binds (ps := ["state"]) fun _ _ _ _ _ _ us hl => match us, hl with | [_], _ => rfl
  have F7 := fun_mk (st := s_Part___init__) l7 c7 k7
  have b7 := F7.binds (ps := ["self", "start", "centre", "radius"]) fun _ _ _ _ _ _ us hl => match us, hl with | [_, _, _, _], _ => rfl
  have F8 := fun_mk (st := s_Parts___init__) l8 c8 k8
  have b8 := F8.binds (ps := ["self", "parts"]) fun _ _ _ _ _ _ us hl => match us, hl with | [_, _], _ => rfl
  have F9 := fun_mk (st := s_Cell___init__) l9 c9 k9
  have b9 := F9.binds (ps := ["self", "near", "rival"]) fun _ _ _ _ _ _ us hl => match us, hl with | [_, _, _], _ => rfl
  have F10 := fun_mk (st := s_Box___init__) l10 c10 k10
  have b10 := F10.binds (ps := ["self", "low", "high"]) fun _ _ _ _ _ _ us hl => match us, hl with | [_, _, _], _ => rfl
  have F11 := fun_mk (st := s_Norms___init__) l11 c11 k11
  have b11 := F11.binds (ps := ["self", "low", "high"]) fun _ _ _ _ _ _ us hl => match us, hl with | [_, _, _], _ => rfl
  have F12 := fun_mk (st := s_Differ___init__) l12 c12 k12
  have b12 := F12.binds (ps := ["self", "centre", "most"]) fun _ _ _ _ _ _ us hl => match us, hl with | [_, _, _], _ => rfl
  have F13 : FunD K "__init__" "Range.__init__" (defArgs s_Range___init__) (defBody s_Range___init__) (defScope s_Range___init__) [] [("lack", .str "nobody")] f13 _ := ⟨⟨_, _, _, _, _, _, _, _, _, _, rfl, l13, c13, .inl ⟨rfl, rfl⟩, .inr ⟨DK13, rfl, fun q hq => by
    simp only [List.mem_cons, List.not_mem_nil, or_false] at hq
    rcases hq with rfl
    · exact ⟨_, n13_lack, ⟨_, rfl⟩⟩⟩⟩, k13⟩
  obtain ⟨mv13, kb13⟩ := F13.kbinds0 (ps := ["self", "field", "low", "high", "lack"]) 4 ["lack"] [] (fun us mv ws => us ++ ws) (by intro h; cases h) (fun q h => by cases h) (fun r1 _ r3 => r1.append r3) (fun D doc pm an cdv ct us mv ws l1 l2 l3 => match us, mv, ws, l1, l2, l3 with | [_, _, _, _], [], [_], _, _, _ => rfl)
  obtain ⟨ds13, v13, b13⟩ := F13.binds0 (ps := ["self", "field", "low", "high", "lack"]) 4 (by intro h; cases h) rfl (fun D doc pm an cdv ct us ks l1 l2 => match us, ks, l1, l2 with | [_, _, _, _], [_], _, _ => ⟨_, _, _, _, _, _, rfl, rfl, rfl⟩)
  have F14 : FunD K "__init__" "Values.__init__" (defArgs s_Values___init__) (defBody s_Values___init__) (defScope s_Values___init__) [] [("lack", .str "nobody")] f14 _ := ⟨⟨_, _, _, _, _, _, _, _, _, _, rfl, l14, c14, .inl ⟨rfl, rfl⟩, .inr ⟨DK14, rfl, fun q hq => by
    simp only [List.mem_cons, List.not_mem_nil, or_false] at hq
    rcases hq with rfl
    · exact ⟨_, n14_lack, ⟨_, rfl⟩⟩⟩⟩, k14⟩
  obtain ⟨mv14, kb14⟩ := F14.kbinds0 (ps := ["self", "field", "choices", "lack"]) 3 ["lack"] [] (fun us mv ws => us ++ ws) (by intro h; cases h) (fun q h => by cases h) (fun r1 _ r3 => r1.append r3) (fun D doc pm an cdv ct us mv ws l1 l2 l3 => match us, mv, ws, l1, l2, l3 with | [_, _, _], [], [_], _, _, _ => rfl)
  obtain ⟨ds14, v14, b14⟩ := F14.binds0 (ps := ["self", "field", "choices", "lack"]) 3 (by intro h; cases h) rfl (fun D doc pm an cdv ct us ks l1 l2 => match us, ks, l1, l2 with | [_, _, _], [_], _, _ => ⟨_, _, _, _, _, _, rfl, rfl, rfl⟩)
  have F15 := fun_mk (st := s_greatest_counts) l15 c15 k15
  have b15 := F15.binds (ps := ["words"]) fun _ _ _ _ _ _ us hl => match us, hl with | [_], _ => rfl
  have F16 := fun_mk (st := s_Counts___init__) l16 c16 k16
  have b16 := F16.binds (ps := ["self", "words"]) fun _ _ _ _ _ _ us hl => match us, hl with | [_, _], _ => rfl
  have F17 := fun_mk (st := s_Names___init__) l17 c17 k17
  have b17 := F17.binds (ps := ["self", "low", "high"]) fun _ _ _ _ _ _ us hl => match us, hl with | [_, _, _], _ => rfl
  have F18 := fun_mk (st := s_law_fact) l18 c18 k18
  have b18 := F18.binds (ps := ["state"]) fun _ _ _ _ _ _ us hl => match us, hl with | [_], _ => rfl
  have F19 := fun_mk (st := s_Region___init__) l19 c19 k19
  have b19 := F19.binds (ps := ["self", "parent", "facts"]) fun _ _ _ _ _ _ us hl => match us, hl with | [_, _, _], _ => rfl
  have F20 := fun_mk (st := s_Entry___init__) l20 c20 k20
  have b20 := F20.binds (ps := ["self", "number", "record", "leaves"]) fun _ _ _ _ _ _ us hl => match us, hl with | [_, _, _, _], _ => rfl
  have F21 := fun_mk (st := s_Offer___init__) l21 c21 k21
  have b21 := F21.binds (ps := ["self", "partitions", "entries"]) fun _ _ _ _ _ _ us hl => match us, hl with | [_, _, _], _ => rfl
  have F22 := fun_mk (st := s_law_offer) l22 c22 k22
  have b22 := F22.binds (ps := ["state"]) fun _ _ _ _ _ _ us hl => match us, hl with | [_], _ => rfl
  have F23 := fun_mk (st := s_list_code) l23 c23 k23
  have b23 := F23.binds (ps := ["codes"]) fun _ _ _ _ _ _ us hl => match us, hl with | [_], _ => rfl
  have F24 := fun_mk (st := s_numbers_code) l24 c24 k24
  have b24 := F24.binds (ps := ["numbers"]) fun _ _ _ _ _ _ us hl => match us, hl with | [_], _ => rfl
  have F25 := fun_mk (st := s_string_code) l25 c25 k25
  have b25 := F25.binds (ps := ["text"]) fun _ _ _ _ _ _ us hl => match us, hl with | [_], _ => rfl
  have F26 := fun_mk (st := s_kind_of_value) l26 c26 k26
  have b26 := F26.binds (ps := ["worth"]) fun _ _ _ _ _ _ us hl => match us, hl with | [_], _ => rfl
  have F27 := fun_mk (st := s_value_code) l27 c27 k27
  have b27 := F27.binds (ps := ["worth"]) fun _ _ _ _ _ _ us hl => match us, hl with | [_], _ => rfl
  have F28 := fun_mk (st := s_maybe_code) l28 c28 k28
  have b28 := F28.binds (ps := ["code"]) fun _ _ _ _ _ _ us hl => match us, hl with | [_], _ => rfl
  have F29 := fun_mk (st := s_words_code) l29 c29 k29
  have b29 := F29.binds (ps := ["words"]) fun _ _ _ _ _ _ us hl => match us, hl with | [_], _ => rfl
  have F30 := fun_mk (st := s_part_code) l30 c30 k30
  have b30 := F30.binds (ps := ["part"]) fun _ _ _ _ _ _ us hl => match us, hl with | [_], _ => rfl
  have F31 := fun_mk (st := s_fact_code) l31 c31 k31
  have b31 := F31.binds (ps := ["fact"]) fun _ _ _ _ _ _ us hl => match us, hl with | [_], _ => rfl
  have F32 := fun_mk (st := s_region_code) l32 c32 k32
  have b32 := F32.binds (ps := ["region"]) fun _ _ _ _ _ _ us hl => match us, hl with | [_], _ => rfl
  have F33 := fun_mk (st := s_partition_code) l33 c33 k33
  have b33 := F33.binds (ps := ["regions"]) fun _ _ _ _ _ _ us hl => match us, hl with | [_], _ => rfl
  have F34 := fun_mk (st := s_record_code) l34 c34 k34
  have b34 := F34.binds (ps := ["record"]) fun _ _ _ _ _ _ us hl => match us, hl with | [_], _ => rfl
  have F35 := fun_mk (st := s_entry_code) l35 c35 k35
  have b35 := F35.binds (ps := ["entry"]) fun _ _ _ _ _ _ us hl => match us, hl with | [_], _ => rfl
  have F36 := fun_mk (st := s_offer_code) l36 c36 k36
  have b36 := F36.binds (ps := ["offer"]) fun _ _ _ _ _ _ us hl => match us, hl with | [_], _ => rfl
  have F37 := fun_mk (st := s_law_text) l37 c37 k37
  have b37 := F37.binds (ps := ["text"]) fun _ _ _ _ _ _ us hl => match us, hl with | [_], _ => rfl
  have F38 := fun_mk (st := s_law_value) l38 c38 k38
  have b38 := F38.binds (ps := ["worth"]) fun _ _ _ _ _ _ us hl => match us, hl with | [_], _ => rfl
  have F39 := fun_mk (st := s_law_list) l39 c39 k39
  have b39 := F39.binds (ps := ["codes"]) fun _ _ _ _ _ _ us hl => match us, hl with | [_], _ => rfl
  have F40 := fun_mk (st := s_law_counted) l40 c40 k40
  have b40 := F40.binds (ps := ["row"]) fun _ _ _ _ _ _ us hl => match us, hl with | [_], _ => rfl
  have F41 := fun_mk (st := s_law_fact_due) l41 c41 k41
  have b41 := F41.binds (ps := ["fact"]) fun _ _ _ _ _ _ us hl => match us, hl with | [_], _ => rfl
  have F42 := fun_mk (st := s_law_record_due) l42 c42 k42
  have b42 := F42.binds (ps := ["record"]) fun _ _ _ _ _ _ us hl => match us, hl with | [_], _ => rfl
  have F43 := fun_mk (st := s_law_region_due) l43 c43 k43
  have b43 := F43.binds (ps := ["region"]) fun _ _ _ _ _ _ us hl => match us, hl with | [_], _ => rfl
  have F44 := fun_mk (st := s_law_parts_agree) l44 c44 k44
  have b44 := F44.binds (ps := ["state"]) fun _ _ _ _ _ _ us hl => match us, hl with | [_], _ => rfl
  have F45 := fun_mk (st := s_law) l45 c45 k45
  have b45 := F45.binds (ps := ["script"]) fun _ _ _ _ _ _ us hl => match us, hl with | [_], _ => rfl
  let T : Txt K mg := ⟨_, _, F0, b0, PySem.W.mg_of X G a0,
    _, _, F1, b1, PySem.W.mg_of X G a1,
    _, _, F2, b2, PySem.W.mg_of X G a2,
    _, _, F3, b3, PySem.W.mg_of X G a3,
    _, _, F4, b4, PySem.W.mg_of X G a4,
    _, _, _, fun H => .inr ⟨_, _, _, t5_fields, rfl, rfl, by decide, .nil⟩, _, fun H => .inr ⟨_, _, _, t5_words, rfl, rfl, by decide, .nil⟩, F5, kb5, _, v5, b5,
    _, _, F6, b6, PySem.W.mg_of X G a6,
    _, _, F7, b7,
    _, _, F8, b8,
    _, _, F9, b9,
    _, _, F10, b10,
    _, _, F11, b11,
    _, _, F12, b12,
    _, _, F13, kb13, _, v13, b13,
    _, _, F14, kb14, _, v14, b14,
    _, _, F15, b15, PySem.W.mg_of X G a15,
    _, _, F16, b16,
    _, _, F17, b17,
    _, _, F18, b18, PySem.W.mg_of X G a18,
    _, _, F19, b19,
    _, _, F20, b20,
    _, _, F21, b21,
    _, _, F22, b22, PySem.W.mg_of X G a22,
    _, _, F23, b23, PySem.W.mg_of X G a23,
    _, _, F24, b24, PySem.W.mg_of X G a24,
    _, _, F25, b25, PySem.W.mg_of X G a25,
    _, _, F26, b26, PySem.W.mg_of X G a26,
    _, _, F27, b27, PySem.W.mg_of X G a27,
    _, _, F28, b28, PySem.W.mg_of X G a28,
    _, _, F29, b29, PySem.W.mg_of X G a29,
    _, _, F30, b30, PySem.W.mg_of X G a30,
    _, _, F31, b31, PySem.W.mg_of X G a31,
    _, _, F32, b32, PySem.W.mg_of X G a32,
    _, _, F33, b33, PySem.W.mg_of X G a33,
    _, _, F34, b34, PySem.W.mg_of X G a34,
    _, _, F35, b35, PySem.W.mg_of X G a35,
    _, _, F36, b36, PySem.W.mg_of X G a36,
    _, _, F37, b37, PySem.W.mg_of X G a37,
    _, _, F38, b38, PySem.W.mg_of X G a38,
    _, _, F39, b39, PySem.W.mg_of X G a39,
    _, _, F40, b40, PySem.W.mg_of X G a40,
    _, _, F41, b41, PySem.W.mg_of X G a41,
    _, _, F42, b42, PySem.W.mg_of X G a42,
    _, _, F43, b43, PySem.W.mg_of X G a43,
    _, _, F44, b44, PySem.W.mg_of X G a44,
    _, _, F45, b45, PySem.W.mg_of X G a45,
    _, ⟨pg_Record, hd_Record, po_Record, sa_Record⟩, PySem.W.mg_of X G aC_Record, n_Record_name, n_Record_vector, n_Record_fields, n_Record_words, ⟨mk_Record, in_Record, if_Record, kc_Record⟩,
    _, ⟨pg_Part, hd_Part, po_Part, sa_Part⟩, PySem.W.mg_of X G aC_Part, n_Part_start, n_Part_centre, n_Part_radius, ⟨mk_Part, in_Part, if_Part, kc_Part⟩,
    _, ⟨pg_Parts, hd_Parts, po_Parts, sa_Parts⟩, PySem.W.mg_of X G aC_Parts, n_Parts_parts, ⟨mk_Parts, in_Parts, if_Parts, kc_Parts⟩, ha_Parts, hm_Parts,
    _, ⟨pg_Cell, hd_Cell, po_Cell, sa_Cell⟩, PySem.W.mg_of X G aC_Cell, n_Cell_near, n_Cell_rival, ⟨mk_Cell, in_Cell, if_Cell, kc_Cell⟩, ha_Cell, hm_Cell,
    _, ⟨pg_Box, hd_Box, po_Box, sa_Box⟩, PySem.W.mg_of X G aC_Box, n_Box_low, n_Box_high, ⟨mk_Box, in_Box, if_Box, kc_Box⟩, ha_Box, hm_Box,
    _, ⟨pg_Norms, hd_Norms, po_Norms, sa_Norms⟩, PySem.W.mg_of X G aC_Norms, n_Norms_low, n_Norms_high, ⟨mk_Norms, in_Norms, if_Norms, kc_Norms⟩, ha_Norms, hm_Norms,
    _, ⟨pg_Differ, hd_Differ, po_Differ, sa_Differ⟩, PySem.W.mg_of X G aC_Differ, n_Differ_centre, n_Differ_most, ⟨mk_Differ, in_Differ, if_Differ, kc_Differ⟩, ha_Differ, hm_Differ,
    _, ⟨pg_Range, hd_Range, po_Range, sa_Range⟩, PySem.W.mg_of X G aC_Range, n_Range_field, n_Range_low, n_Range_high, n_Range_lack, ⟨mk_Range, in_Range, if_Range, kc_Range⟩, ha_Range, hm_Range,
    _, ⟨pg_Values, hd_Values, po_Values, sa_Values⟩, PySem.W.mg_of X G aC_Values, n_Values_field, n_Values_choices, n_Values_lack, ⟨mk_Values, in_Values, if_Values, kc_Values⟩, ha_Values, hm_Values,
    _, ⟨pg_Counts, hd_Counts, po_Counts, sa_Counts⟩, PySem.W.mg_of X G aC_Counts, n_Counts_words, n_Counts_bounds, ⟨mk_Counts, in_Counts, if_Counts, kc_Counts⟩, ha_Counts, hm_Counts,
    _, ⟨pg_Names, hd_Names, po_Names, sa_Names⟩, PySem.W.mg_of X G aC_Names, n_Names_low, n_Names_high, ⟨mk_Names, in_Names, if_Names, kc_Names⟩, ha_Names, hm_Names,
    _, ⟨pg_Region, hd_Region, po_Region, sa_Region⟩, PySem.W.mg_of X G aC_Region, n_Region_parent, n_Region_facts, ⟨mk_Region, in_Region, if_Region, kc_Region⟩,
    _, ⟨pg_Entry, hd_Entry, po_Entry, sa_Entry⟩, PySem.W.mg_of X G aC_Entry, n_Entry_number, n_Entry_record, n_Entry_leaves, ⟨mk_Entry, in_Entry, if_Entry, kc_Entry⟩,
    _, ⟨pg_Offer, hd_Offer, po_Offer, sa_Offer⟩, PySem.W.mg_of X G aC_Offer, n_Offer_partitions, n_Offer_entries, ⟨mk_Offer, in_Offer, if_Offer, kc_Offer⟩,
    kit_self,
    kit_subN ic_Parts ty_Parts sb_Cell_Parts ss_Parts,
    kit_subN ic_Parts ty_Parts sb_Box_Parts ss_Parts,
    kit_subN ic_Parts ty_Parts sb_Norms_Parts ss_Parts,
    kit_subN ic_Parts ty_Parts sb_Differ_Parts ss_Parts,
    kit_subN ic_Parts ty_Parts sb_Range_Parts ss_Parts,
    kit_subN ic_Parts ty_Parts sb_Values_Parts ss_Parts,
    kit_subN ic_Parts ty_Parts sb_Counts_Parts ss_Parts,
    kit_subN ic_Parts ty_Parts sb_Names_Parts ss_Parts,
    kit_subN ic_Cell ty_Cell sb_Parts_Cell ss_Cell,
    kit_self,
    kit_subN ic_Cell ty_Cell sb_Box_Cell ss_Cell,
    kit_subN ic_Cell ty_Cell sb_Norms_Cell ss_Cell,
    kit_subN ic_Cell ty_Cell sb_Differ_Cell ss_Cell,
    kit_subN ic_Cell ty_Cell sb_Range_Cell ss_Cell,
    kit_subN ic_Cell ty_Cell sb_Values_Cell ss_Cell,
    kit_subN ic_Cell ty_Cell sb_Counts_Cell ss_Cell,
    kit_subN ic_Cell ty_Cell sb_Names_Cell ss_Cell,
    kit_subN ic_Box ty_Box sb_Parts_Box ss_Box,
    kit_subN ic_Box ty_Box sb_Cell_Box ss_Box,
    kit_self,
    kit_subN ic_Box ty_Box sb_Norms_Box ss_Box,
    kit_subN ic_Box ty_Box sb_Differ_Box ss_Box,
    kit_subN ic_Box ty_Box sb_Range_Box ss_Box,
    kit_subN ic_Box ty_Box sb_Values_Box ss_Box,
    kit_subN ic_Box ty_Box sb_Counts_Box ss_Box,
    kit_subN ic_Box ty_Box sb_Names_Box ss_Box,
    kit_subN ic_Norms ty_Norms sb_Parts_Norms ss_Norms,
    kit_subN ic_Norms ty_Norms sb_Cell_Norms ss_Norms,
    kit_subN ic_Norms ty_Norms sb_Box_Norms ss_Norms,
    kit_self,
    kit_subN ic_Norms ty_Norms sb_Differ_Norms ss_Norms,
    kit_subN ic_Norms ty_Norms sb_Range_Norms ss_Norms,
    kit_subN ic_Norms ty_Norms sb_Values_Norms ss_Norms,
    kit_subN ic_Norms ty_Norms sb_Counts_Norms ss_Norms,
    kit_subN ic_Norms ty_Norms sb_Names_Norms ss_Norms,
    kit_subN ic_Differ ty_Differ sb_Parts_Differ ss_Differ,
    kit_subN ic_Differ ty_Differ sb_Cell_Differ ss_Differ,
    kit_subN ic_Differ ty_Differ sb_Box_Differ ss_Differ,
    kit_subN ic_Differ ty_Differ sb_Norms_Differ ss_Differ,
    kit_self,
    kit_subN ic_Differ ty_Differ sb_Range_Differ ss_Differ,
    kit_subN ic_Differ ty_Differ sb_Values_Differ ss_Differ,
    kit_subN ic_Differ ty_Differ sb_Counts_Differ ss_Differ,
    kit_subN ic_Differ ty_Differ sb_Names_Differ ss_Differ,
    kit_subN ic_Range ty_Range sb_Parts_Range ss_Range,
    kit_subN ic_Range ty_Range sb_Cell_Range ss_Range,
    kit_subN ic_Range ty_Range sb_Box_Range ss_Range,
    kit_subN ic_Range ty_Range sb_Norms_Range ss_Range,
    kit_subN ic_Range ty_Range sb_Differ_Range ss_Range,
    kit_self,
    kit_subN ic_Range ty_Range sb_Values_Range ss_Range,
    kit_subN ic_Range ty_Range sb_Counts_Range ss_Range,
    kit_subN ic_Range ty_Range sb_Names_Range ss_Range,
    kit_subN ic_Values ty_Values sb_Parts_Values ss_Values,
    kit_subN ic_Values ty_Values sb_Cell_Values ss_Values,
    kit_subN ic_Values ty_Values sb_Box_Values ss_Values,
    kit_subN ic_Values ty_Values sb_Norms_Values ss_Values,
    kit_subN ic_Values ty_Values sb_Differ_Values ss_Values,
    kit_subN ic_Values ty_Values sb_Range_Values ss_Values,
    kit_self,
    kit_subN ic_Values ty_Values sb_Counts_Values ss_Values,
    kit_subN ic_Values ty_Values sb_Names_Values ss_Values,
    kit_subN ic_Counts ty_Counts sb_Parts_Counts ss_Counts,
    kit_subN ic_Counts ty_Counts sb_Cell_Counts ss_Counts,
    kit_subN ic_Counts ty_Counts sb_Box_Counts ss_Counts,
    kit_subN ic_Counts ty_Counts sb_Norms_Counts ss_Counts,
    kit_subN ic_Counts ty_Counts sb_Differ_Counts ss_Counts,
    kit_subN ic_Counts ty_Counts sb_Range_Counts ss_Counts,
    kit_subN ic_Counts ty_Counts sb_Values_Counts ss_Counts,
    kit_self,
    kit_subN ic_Counts ty_Counts sb_Names_Counts ss_Counts,
    hn0,
    ht0,
    ⟨_, PySem.W.mg_of X G z_BOX⟩,
    ⟨_, PySem.W.mg_of X G z_CELL⟩,
    ⟨_, PySem.W.mg_of X G z_COUNTS⟩,
    ⟨_, PySem.W.mg_of X G z_DIFFER⟩,
    _, PySem.W.mg_of X G z_LACKS, fun H => .inr ⟨_, _, _, zl_LACKS, rfl, rfl, zn_LACKS, zv_LACKS⟩, ⟨_, zl_LACKS, rfl, rfl⟩,
    ⟨_, PySem.W.mg_of X G z_NAMES⟩,
    ⟨_, PySem.W.mg_of X G z_NORMS⟩,
    ⟨_, PySem.W.mg_of X G z_PARTS⟩,
    ⟨_, PySem.W.mg_of X G z_RANGE⟩,
    ⟨_, PySem.W.mg_of X G z_VALUES⟩,
    PySem.W.mg_none_of X G z_bool,
    PySem.W.mg_none_of X G z_int,
    PySem.W.mg_none_of X G z_isinstance,
    PySem.W.mg_none_of X G z_len,
    PySem.W.mg_none_of X G z_list,
    PySem.W.mg_none_of X G z_max,
    PySem.W.mg_none_of X G z_ord,
    PySem.W.mg_none_of X G z_range,
    PySem.W.mg_none_of X G z_str,
    PySem.W.mg_none_of X G z_tuple⟩
  exact ⟨_, fun s v => .of_eq rfl, fun base _ _ => ok_law T⟩
end K36
open PySem PySem.W PyProof.Rows
open PySem.Calls
namespace K36H
abbrev Rw : OpenRow := OpenLaw.row PySem.Challenge.rw_surenear_k36_codes_number_by_number
abbrev qv : Program := view Rw.prog [80]
def nm0 : List PySem.Str := ["_wall", "kind_of_value", "same_value", "same_values", "is_among", "Fact", "Range", "Values", "Counts", "Names", "greatest_counts", "is_from", "inner", "distance", "differing", "norm", "Part", "Parts", "Cell", "Box", "Norms", "Differ", "have_size", "numbers_at", "ends_within", "is_near", "PARTS", "CELL", "BOX", "NORMS"]
def nm1 : List PySem.Str := ["DIFFER", "RANGE", "VALUES", "COUNTS", "NAMES", "LACKS", "list_code", "numbers_code", "string_code", "value_code", "maybe_code", "words_code", "record_code", "fact_code", "part_code", "region_code", "partition_code", "entry_code", "offer_code", "Record", "same_fields", "Region", "Entry", "Offer", "_law_row", "_law_next", "_law_string", "_law_numbers", "_law_worth", "_law_fact"]
def nm2 : List PySem.Str := ["_law_record", "_law_offer", "_law_text", "_law_value", "_law_list", "_law_counted", "_law_fact_due", "_law_record_due", "_law_region_due", "_law_parts_agree"]
def names : List PySem.Str := nm0 ++ nm1 ++ nm2
noncomputable abbrev theRun (w : World) (os : OsState) : Option SharedT := HeadRun.endF (HeadRun.stepQ (HeadRun.denQ HeadRun.tabQ) Rw.prog w) 60000 Rw.prog w os
theorem run_parts {H : Hook} {ob : SharedT → H.α} {w : World}
    (h1 : ∀ os, (theRun w os).map (fun s => HeadRun.looksF Rw.prog (boot_heap w.params) s.abs) = some true)
    (h2 : ∀ os, (theRun w os).map (fun s => HeadRun.seenQ qv names (importedModules Rw.prog.main.body) (fun s => xlAt qv [] s && recOk Rw.toRowW.records s) s.abs) = some (openGood qv names))
    (h3 : ∀ os, (theRun w os).map ob = some (H.val w)) : HeadRun.RunEq Rw qv H ob 60000 names w := by
  intro os
  obtain ⟨s, hs, e1⟩ := Option.map_eq_some_iff.mp (h1 os)
  have e2 := h2 os
  have e3 := h3 os
  rw [hs, Option.map_some] at e2 e3
  have e2 := Option.some.inj e2
  have e3 := Option.some.inj e3
  show (theRun w os).map _ = _
  rw [hs, Option.map_some, e1, e2, e3]
theorem obs_parts {x : Option SharedT} {as : List Addr} {vs : List (Option Obj)} (n : Nat)
    (ha : x.map (fun s => (as.take n).map (HeadRun.getT s)) = some (vs.take n))
    (hb : x.map (fun s => (as.drop n).map (HeadRun.getT s)) = some (vs.drop n)) : x.map (fun s => as.map (HeadRun.getT s)) = some vs := by
  obtain ⟨s, rfl, e1⟩ := Option.map_eq_some_iff.mp ha
  rw [Option.map_some] at hb ⊢
  have e2 := Option.some.inj hb
  rw [← List.take_append_drop n as, List.map_append, e1, e2, List.take_append_drop]
theorem part1 (w : World) (os : OsState) : (theRun w os).map (fun s => HeadRun.looksF Rw.prog (boot_heap w.params) s.abs) = some true := by kernel_rfl
theorem part2 (w : World) (os : OsState) : (theRun w os).map (fun s => HeadRun.seenQ qv names (importedModules Rw.prog.main.body) (fun s => xlAt qv [] s && recOk Rw.toRowW.records s) s.abs) = some (openGood qv names) := by kernel_rfl
end K36H
set_option hygiene false in
local macro_rules
  | `(tactic| o_headL (kHook $k $a $e)) => `(tactic| refine HeadRun.head_any (r := K36H.Rw) (q := K36H.qv) (H := kHook $k $a $e) (ob := fun s => List.map (HeadRun.getT s) $a) (M := 60000) (loose := K36H.names) (d := HeadRun.topDef K36H.Rw.prog 80) (kwd := []) (fun s => List.map_congr_left fun a _ => HeadRun.getT_eq s a) (by kernel_rfl) (fun s => by kernel_rfl) (fun w => K36H.run_parts (K36H.part1 w) (K36H.part2 w) (fun os => (by kernel_rfl))) (by kernel_rfl) (by kernel_rfl) (by kernel_rfl) (by kernel_rfl) (by first | assumption | decide +kernel) (by decide +kernel) ⟨rfl, rfl, rfl, rfl, rfl, by decide +kernel⟩ ?hw ?hc)
set_option maxRecDepth 100000 in
set_option maxHeartbeats 0 in
theorem PySem.Challenge.cw_surenear_k36_codes_number_by_number_holds : PySem.Challenge.rw_surenear_k36_codes_number_by_number.Holds := by
  w_on; o_law; k_headL; (case hw => w_witness2)
  k_fill
  refine L2.walk_of (l := PySem.Challenge.rw_surenear_k36_codes_number_by_number) (n := 63) (k := 8) (x := "script") (CX := fun _ => L2.CX0) (sp := fun w => K36.sp_law _) rfl (by decide) rfl ⟨rfl, by decide, by decide⟩ (fun w h Y => PySem.W.kIn_of Y) ?F (fun _ _ a ns hl _ hS => ⟨a, ns, rfl, hS, hl, fun _ => rfl⟩) (fun _ _ _ _ _ h => h)
  case F =>
    intro w mg fa h KX G hmg
    refine' K36.all_mk KX G hmg (a0 := ?a0) (l0 := ?l0) (c0 := ?c0) (k0 := ?k0) (a1 := ?a1) (l1 := ?l1) (c1 := ?c1) (k1 := ?k1) (a2 := ?a2) (l2 := ?l2) (c2 := ?c2) (k2 := ?k2) (a3 := ?a3) (l3 := ?l3) (c3 := ?c3) (k3 := ?k3) (a4 := ?a4) (l4 := ?l4) (c4 := ?c4) (k4 := ?k4) (a6 := ?a6) (l6 := ?l6) (c6 := ?c6) (k6 := ?k6) (a15 := ?a15) (l15 := ?l15) (c15 := ?c15) (k15 := ?k15) (a18 := ?a18) (l18 := ?l18) (c18 := ?c18) (k18 := ?k18) (a22 := ?a22) (l22 := ?l22) (c22 := ?c22) (k22 := ?k22) (a23 := ?a23) (l23 := ?l23) (c23 := ?c23) (k23 := ?k23) (a24 := ?a24) (l24 := ?l24) (c24 := ?c24) (k24 := ?k24) (a25 := ?a25) (l25 := ?l25) (c25 := ?c25) (k25 := ?k25) (a26 := ?a26) (l26 := ?l26) (c26 := ?c26) (k26 := ?k26) (a27 := ?a27) (l27 := ?l27) (c27 := ?c27) (k27 := ?k27) (a28 := ?a28) (l28 := ?l28) (c28 := ?c28) (k28 := ?k28) (a29 := ?a29) (l29 := ?l29) (c29 := ?c29) (k29 := ?k29) (a30 := ?a30) (l30 := ?l30) (c30 := ?c30) (k30 := ?k30) (a31 := ?a31) (l31 := ?l31) (c31 := ?c31) (k31 := ?k31) (a32 := ?a32) (l32 := ?l32) (c32 := ?c32) (k32 := ?k32) (a33 := ?a33) (l33 := ?l33) (c33 := ?c33) (k33 := ?k33) (a34 := ?a34) (l34 := ?l34) (c34 := ?c34) (k34 := ?k34) (a35 := ?a35) (l35 := ?l35) (c35 := ?c35) (k35 := ?k35) (a36 := ?a36) (l36 := ?l36) (c36 := ?c36) (k36 := ?k36) (a37 := ?a37) (l37 := ?l37) (c37 := ?c37) (k37 := ?k37) (a38 := ?a38) (l38 := ?l38) (c38 := ?c38) (k38 := ?k38) (a39 := ?a39) (l39 := ?l39) (c39 := ?c39) (k39 := ?k39) (a40 := ?a40) (l40 := ?l40) (c40 := ?c40) (k40 := ?k40) (a41 := ?a41) (l41 := ?l41) (c41 := ?c41) (k41 := ?k41) (a42 := ?a42) (l42 := ?l42) (c42 := ?c42) (k42 := ?k42) (a43 := ?a43) (l43 := ?l43) (c43 := ?c43) (k43 := ?k43) (a44 := ?a44) (l44 := ?l44) (c44 := ?c44) (k44 := ?k44) (a45 := ?a45) (l45 := ?l45) (c45 := ?c45) (k45 := ?k45) (aC_Record := ?aC_Record) (pg_Record := ?pg_Record) (hd_Record := ?hd_Record) (po_Record := ?po_Record) (sa_Record := ?sa_Record) (n_Record_name := ?n_Record_name) (n_Record_vector := ?n_Record_vector) (n_Record_fields := ?n_Record_fields) (n_Record_words := ?n_Record_words) (mk_Record := ?mk_Record) (in_Record := ?in_Record) (if_Record := ?if_Record) (kc_Record := ?kc_Record) (aC_Part := ?aC_Part) (pg_Part := ?pg_Part) (hd_Part := ?hd_Part) (po_Part := ?po_Part) (sa_Part := ?sa_Part) (n_Part_start := ?n_Part_start) (n_Part_centre := ?n_Part_centre) (n_Part_radius := ?n_Part_radius) (mk_Part := ?mk_Part) (in_Part := ?in_Part) (if_Part := ?if_Part) (kc_Part := ?kc_Part) (aC_Parts := ?aC_Parts) (pg_Parts := ?pg_Parts) (hd_Parts := ?hd_Parts) (po_Parts := ?po_Parts) (sa_Parts := ?sa_Parts) (n_Parts_parts := ?n_Parts_parts) (mk_Parts := ?mk_Parts) (in_Parts := ?in_Parts) (if_Parts := ?if_Parts) (kc_Parts := ?kc_Parts) (ha_Parts := ?ha_Parts) (hm_Parts := ?hm_Parts) (aC_Cell := ?aC_Cell) (pg_Cell := ?pg_Cell) (hd_Cell := ?hd_Cell) (po_Cell := ?po_Cell) (sa_Cell := ?sa_Cell) (n_Cell_near := ?n_Cell_near) (n_Cell_rival := ?n_Cell_rival) (mk_Cell := ?mk_Cell) (in_Cell := ?in_Cell) (if_Cell := ?if_Cell) (kc_Cell := ?kc_Cell) (ha_Cell := ?ha_Cell) (hm_Cell := ?hm_Cell) (aC_Box := ?aC_Box) (pg_Box := ?pg_Box) (hd_Box := ?hd_Box) (po_Box := ?po_Box) (sa_Box := ?sa_Box) (n_Box_low := ?n_Box_low) (n_Box_high := ?n_Box_high) (mk_Box := ?mk_Box) (in_Box := ?in_Box) (if_Box := ?if_Box) (kc_Box := ?kc_Box) (ha_Box := ?ha_Box) (hm_Box := ?hm_Box) (aC_Norms := ?aC_Norms) (pg_Norms := ?pg_Norms) (hd_Norms := ?hd_Norms) (po_Norms := ?po_Norms) (sa_Norms := ?sa_Norms) (n_Norms_low := ?n_Norms_low) (n_Norms_high := ?n_Norms_high) (mk_Norms := ?mk_Norms) (in_Norms := ?in_Norms) (if_Norms := ?if_Norms) (kc_Norms := ?kc_Norms) (ha_Norms := ?ha_Norms) (hm_Norms := ?hm_Norms) (aC_Differ := ?aC_Differ) (pg_Differ := ?pg_Differ) (hd_Differ := ?hd_Differ) (po_Differ := ?po_Differ) (sa_Differ := ?sa_Differ) (n_Differ_centre := ?n_Differ_centre) (n_Differ_most := ?n_Differ_most) (mk_Differ := ?mk_Differ) (in_Differ := ?in_Differ) (if_Differ := ?if_Differ) (kc_Differ := ?kc_Differ) (ha_Differ := ?ha_Differ) (hm_Differ := ?hm_Differ) (aC_Range := ?aC_Range) (pg_Range := ?pg_Range) (hd_Range := ?hd_Range) (po_Range := ?po_Range) (sa_Range := ?sa_Range) (n_Range_field := ?n_Range_field) (n_Range_low := ?n_Range_low) (n_Range_high := ?n_Range_high) (n_Range_lack := ?n_Range_lack) (mk_Range := ?mk_Range) (in_Range := ?in_Range) (if_Range := ?if_Range) (kc_Range := ?kc_Range) (ha_Range := ?ha_Range) (hm_Range := ?hm_Range) (aC_Values := ?aC_Values) (pg_Values := ?pg_Values) (hd_Values := ?hd_Values) (po_Values := ?po_Values) (sa_Values := ?sa_Values) (n_Values_field := ?n_Values_field) (n_Values_choices := ?n_Values_choices) (n_Values_lack := ?n_Values_lack) (mk_Values := ?mk_Values) (in_Values := ?in_Values) (if_Values := ?if_Values) (kc_Values := ?kc_Values) (ha_Values := ?ha_Values) (hm_Values := ?hm_Values) (aC_Counts := ?aC_Counts) (pg_Counts := ?pg_Counts) (hd_Counts := ?hd_Counts) (po_Counts := ?po_Counts) (sa_Counts := ?sa_Counts) (n_Counts_words := ?n_Counts_words) (n_Counts_bounds := ?n_Counts_bounds) (mk_Counts := ?mk_Counts) (in_Counts := ?in_Counts) (if_Counts := ?if_Counts) (kc_Counts := ?kc_Counts) (ha_Counts := ?ha_Counts) (hm_Counts := ?hm_Counts) (aC_Names := ?aC_Names) (pg_Names := ?pg_Names) (hd_Names := ?hd_Names) (po_Names := ?po_Names) (sa_Names := ?sa_Names) (n_Names_low := ?n_Names_low) (n_Names_high := ?n_Names_high) (mk_Names := ?mk_Names) (in_Names := ?in_Names) (if_Names := ?if_Names) (kc_Names := ?kc_Names) (ha_Names := ?ha_Names) (hm_Names := ?hm_Names) (aC_Region := ?aC_Region) (pg_Region := ?pg_Region) (hd_Region := ?hd_Region) (po_Region := ?po_Region) (sa_Region := ?sa_Region) (n_Region_parent := ?n_Region_parent) (n_Region_facts := ?n_Region_facts) (mk_Region := ?mk_Region) (in_Region := ?in_Region) (if_Region := ?if_Region) (kc_Region := ?kc_Region) (aC_Entry := ?aC_Entry) (pg_Entry := ?pg_Entry) (hd_Entry := ?hd_Entry) (po_Entry := ?po_Entry) (sa_Entry := ?sa_Entry) (n_Entry_number := ?n_Entry_number) (n_Entry_record := ?n_Entry_record) (n_Entry_leaves := ?n_Entry_leaves) (mk_Entry := ?mk_Entry) (in_Entry := ?in_Entry) (if_Entry := ?if_Entry) (kc_Entry := ?kc_Entry) (aC_Offer := ?aC_Offer) (pg_Offer := ?pg_Offer) (hd_Offer := ?hd_Offer) (po_Offer := ?po_Offer) (sa_Offer := ?sa_Offer) (n_Offer_partitions := ?n_Offer_partitions) (n_Offer_entries := ?n_Offer_entries) (mk_Offer := ?mk_Offer) (in_Offer := ?in_Offer) (if_Offer := ?if_Offer) (kc_Offer := ?kc_Offer) (ic_Parts := ?ic_Parts) (ty_Parts := ?ty_Parts) (ic_Cell := ?ic_Cell) (ty_Cell := ?ty_Cell) (ic_Box := ?ic_Box) (ty_Box := ?ty_Box) (ic_Norms := ?ic_Norms) (ty_Norms := ?ty_Norms) (ic_Differ := ?ic_Differ) (ty_Differ := ?ty_Differ) (ic_Range := ?ic_Range) (ty_Range := ?ty_Range) (ic_Values := ?ic_Values) (ty_Values := ?ty_Values) (ic_Counts := ?ic_Counts) (ty_Counts := ?ty_Counts) (ss_Parts := ?ss_Parts) (sb_Cell_Parts := ?sb_Cell_Parts) (sb_Box_Parts := ?sb_Box_Parts) (sb_Norms_Parts := ?sb_Norms_Parts) (sb_Differ_Parts := ?sb_Differ_Parts) (sb_Range_Parts := ?sb_Range_Parts) (sb_Values_Parts := ?sb_Values_Parts) (sb_Counts_Parts := ?sb_Counts_Parts) (sb_Names_Parts := ?sb_Names_Parts) (ss_Cell := ?ss_Cell) (sb_Parts_Cell := ?sb_Parts_Cell) (sb_Box_Cell := ?sb_Box_Cell) (sb_Norms_Cell := ?sb_Norms_Cell) (sb_Differ_Cell := ?sb_Differ_Cell) (sb_Range_Cell := ?sb_Range_Cell) (sb_Values_Cell := ?sb_Values_Cell) (sb_Counts_Cell := ?sb_Counts_Cell) (sb_Names_Cell := ?sb_Names_Cell) (ss_Box := ?ss_Box) (sb_Parts_Box := ?sb_Parts_Box) (sb_Cell_Box := ?sb_Cell_Box) (sb_Norms_Box := ?sb_Norms_Box) (sb_Differ_Box := ?sb_Differ_Box) (sb_Range_Box := ?sb_Range_Box) (sb_Values_Box := ?sb_Values_Box) (sb_Counts_Box := ?sb_Counts_Box) (sb_Names_Box := ?sb_Names_Box) (ss_Norms := ?ss_Norms) (sb_Parts_Norms := ?sb_Parts_Norms) (sb_Cell_Norms := ?sb_Cell_Norms) (sb_Box_Norms := ?sb_Box_Norms) (sb_Differ_Norms := ?sb_Differ_Norms) (sb_Range_Norms := ?sb_Range_Norms) (sb_Values_Norms := ?sb_Values_Norms) (sb_Counts_Norms := ?sb_Counts_Norms) (sb_Names_Norms := ?sb_Names_Norms) (ss_Differ := ?ss_Differ) (sb_Parts_Differ := ?sb_Parts_Differ) (sb_Cell_Differ := ?sb_Cell_Differ) (sb_Box_Differ := ?sb_Box_Differ) (sb_Norms_Differ := ?sb_Norms_Differ) (sb_Range_Differ := ?sb_Range_Differ) (sb_Values_Differ := ?sb_Values_Differ) (sb_Counts_Differ := ?sb_Counts_Differ) (sb_Names_Differ := ?sb_Names_Differ) (ss_Range := ?ss_Range) (sb_Parts_Range := ?sb_Parts_Range) (sb_Cell_Range := ?sb_Cell_Range) (sb_Box_Range := ?sb_Box_Range) (sb_Norms_Range := ?sb_Norms_Range) (sb_Differ_Range := ?sb_Differ_Range) (sb_Values_Range := ?sb_Values_Range) (sb_Counts_Range := ?sb_Counts_Range) (sb_Names_Range := ?sb_Names_Range) (ss_Values := ?ss_Values) (sb_Parts_Values := ?sb_Parts_Values) (sb_Cell_Values := ?sb_Cell_Values) (sb_Box_Values := ?sb_Box_Values) (sb_Norms_Values := ?sb_Norms_Values) (sb_Differ_Values := ?sb_Differ_Values) (sb_Range_Values := ?sb_Range_Values) (sb_Counts_Values := ?sb_Counts_Values) (sb_Names_Values := ?sb_Names_Values) (ss_Counts := ?ss_Counts) (sb_Parts_Counts := ?sb_Parts_Counts) (sb_Cell_Counts := ?sb_Cell_Counts) (sb_Box_Counts := ?sb_Box_Counts) (sb_Norms_Counts := ?sb_Norms_Counts) (sb_Differ_Counts := ?sb_Differ_Counts) (sb_Range_Counts := ?sb_Range_Counts) (sb_Values_Counts := ?sb_Values_Counts) (sb_Names_Counts := ?sb_Names_Counts) (hn0 := ?hn0) (ht0 := ?ht0) (l5 := ?l5) (n5_fields := ?n5_fields) (t5_fields := ?t5_fields) (n5_words := ?n5_words) (t5_words := ?t5_words) (c5 := ?c5) (k5 := ?k5) (l7 := ?l7) (c7 := ?c7) (k7 := ?k7) (l8 := ?l8) (c8 := ?c8) (k8 := ?k8) (l9 := ?l9) (c9 := ?c9) (k9 := ?k9) (l10 := ?l10) (c10 := ?c10) (k10 := ?k10) (l11 := ?l11) (c11 := ?c11) (k11 := ?k11) (l12 := ?l12) (c12 := ?c12) (k12 := ?k12) (l13 := ?l13) (n13_lack := ?n13_lack) (c13 := ?c13) (k13 := ?k13) (l14 := ?l14) (n14_lack := ?n14_lack) (c14 := ?c14) (k14 := ?k14) (l16 := ?l16) (c16 := ?c16) (k16 := ?k16) (l17 := ?l17) (c17 := ?c17) (k17 := ?k17) (l19 := ?l19) (c19 := ?c19) (k19 := ?k19) (l20 := ?l20) (c20 := ?c20) (k20 := ?k20) (l21 := ?l21) (c21 := ?c21) (k21 := ?k21) (z_BOX := ?z_BOX) (z_CELL := ?z_CELL) (z_COUNTS := ?z_COUNTS) (z_DIFFER := ?z_DIFFER) (z_LACKS := ?z_LACKS) (zl_LACKS := ?zl_LACKS) (z_NAMES := ?z_NAMES) (z_NORMS := ?z_NORMS) (z_PARTS := ?z_PARTS) (z_RANGE := ?z_RANGE) (z_VALUES := ?z_VALUES) (z_bool := ?z_bool) (z_int := ?z_int) (z_isinstance := ?z_isinstance) (z_len := ?z_len) (z_list := ?z_list) (z_max := ?z_max) (z_ord := ?z_ord) (z_range := ?z_range) (z_str := ?z_str) (z_tuple := ?z_tuple) (zv_LACKS := ?zv_LACKS) (zn_LACKS := ?zn_LACKS)
    (case a0 => k_is); (case l0 => k_is); (case c0 => k_is); (case k0 => k_is); (case a1 => k_is); (case l1 => k_is); (case c1 => k_is); (case k1 => k_is); (case a2 => k_is); (case l2 => k_is); (case c2 => k_is); (case k2 => k_is); (case a3 => k_is); (case l3 => k_is); (case c3 => k_is); (case k3 => k_is); (case a4 => k_is); (case l4 => k_is); (case c4 => k_is); (case k4 => k_is); (case a6 => k_is); (case l6 => k_is); (case c6 => k_is); (case k6 => k_is); (case a15 => k_is); (case l15 => k_is); (case c15 => k_is); (case k15 => k_is); (case a18 => k_is); (case l18 => k_is); (case c18 => k_is); (case k18 => k_is); (case a22 => k_is); (case l22 => k_is); (case c22 => k_is); (case k22 => k_is); (case a23 => k_is); (case l23 => k_is); (case c23 => k_is); (case k23 => k_is); (case a24 => k_is); (case l24 => k_is); (case c24 => k_is); (case k24 => k_is); (case a25 => k_is); (case l25 => k_is); (case c25 => k_is); (case k25 => k_is); (case a26 => k_is); (case l26 => k_is); (case c26 => k_is); (case k26 => k_is); (case a27 => k_is); (case l27 => k_is); (case c27 => k_is); (case k27 => k_is); (case a28 => k_is); (case l28 => k_is); (case c28 => k_is); (case k28 => k_is); (case a29 => k_is); (case l29 => k_is); (case c29 => k_is); (case k29 => k_is); (case a30 => k_is); (case l30 => k_is); (case c30 => k_is); (case k30 => k_is); (case a31 => k_is); (case l31 => k_is); (case c31 => k_is); (case k31 => k_is); (case a32 => k_is); (case l32 => k_is); (case c32 => k_is); (case k32 => k_is); (case a33 => k_is); (case l33 => k_is); (case c33 => k_is); (case k33 => k_is); (case a34 => k_is); (case l34 => k_is); (case c34 => k_is); (case k34 => k_is); (case a35 => k_is); (case l35 => k_is); (case c35 => k_is); (case k35 => k_is); (case a36 => k_is); (case l36 => k_is); (case c36 => k_is); (case k36 => k_is); (case a37 => k_is); (case l37 => k_is); (case c37 => k_is); (case k37 => k_is); (case a38 => k_is); (case l38 => k_is); (case c38 => k_is); (case k38 => k_is); (case a39 => k_is); (case l39 => k_is); (case c39 => k_is); (case k39 => k_is); (case a40 => k_is); (case l40 => k_is); (case c40 => k_is); (case k40 => k_is); (case a41 => k_is); (case l41 => k_is); (case c41 => k_is); (case k41 => k_is); (case a42 => k_is); (case l42 => k_is); (case c42 => k_is); (case k42 => k_is); (case a43 => k_is); (case l43 => k_is); (case c43 => k_is); (case k43 => k_is); (case a44 => k_is); (case l44 => k_is); (case c44 => k_is); (case k44 => k_is); (case a45 => k_is); (case l45 => k_is); (case c45 => k_is); (case k45 => k_is); (case aC_Record => k_is); (case pg_Record => k_is); (case hd_Record => k_is); (case po_Record => k_is); (case sa_Record => k_is); (case n_Record_name => k_is); (case n_Record_vector => k_is); (case n_Record_fields => k_is); (case n_Record_words => k_is); (case mk_Record => k_is); (case in_Record => k_is); (case if_Record => k_is); (case kc_Record => k_is); (case aC_Part => k_is); (case pg_Part => k_is); (case hd_Part => k_is); (case po_Part => k_is); (case sa_Part => k_is); (case n_Part_start => k_is); (case n_Part_centre => k_is); (case n_Part_radius => k_is); (case mk_Part => k_is); (case in_Part => k_is); (case if_Part => k_is); (case kc_Part => k_is); (case aC_Parts => k_is); (case pg_Parts => k_is); (case hd_Parts => k_is); (case po_Parts => k_is); (case sa_Parts => k_is); (case n_Parts_parts => k_is); (case mk_Parts => k_is); (case in_Parts => k_is); (case if_Parts => k_is); (case kc_Parts => k_is); (case ha_Parts => k_is); (case hm_Parts => k_is); (case aC_Cell => k_is); (case pg_Cell => k_is); (case hd_Cell => k_is); (case po_Cell => k_is); (case sa_Cell => k_is); (case n_Cell_near => k_is); (case n_Cell_rival => k_is); (case mk_Cell => k_is); (case in_Cell => k_is); (case if_Cell => k_is); (case kc_Cell => k_is); (case ha_Cell => k_is); (case hm_Cell => k_is); (case aC_Box => k_is); (case pg_Box => k_is); (case hd_Box => k_is); (case po_Box => k_is); (case sa_Box => k_is); (case n_Box_low => k_is); (case n_Box_high => k_is); (case mk_Box => k_is); (case in_Box => k_is); (case if_Box => k_is); (case kc_Box => k_is); (case ha_Box => k_is); (case hm_Box => k_is); (case aC_Norms => k_is); (case pg_Norms => k_is); (case hd_Norms => k_is); (case po_Norms => k_is); (case sa_Norms => k_is); (case n_Norms_low => k_is); (case n_Norms_high => k_is); (case mk_Norms => k_is); (case in_Norms => k_is); (case if_Norms => k_is); (case kc_Norms => k_is); (case ha_Norms => k_is); (case hm_Norms => k_is); (case aC_Differ => k_is); (case pg_Differ => k_is); (case hd_Differ => k_is); (case po_Differ => k_is); (case sa_Differ => k_is); (case n_Differ_centre => k_is); (case n_Differ_most => k_is); (case mk_Differ => k_is); (case in_Differ => k_is); (case if_Differ => k_is); (case kc_Differ => k_is); (case ha_Differ => k_is); (case hm_Differ => k_is); (case aC_Range => k_is); (case pg_Range => k_is); (case hd_Range => k_is); (case po_Range => k_is); (case sa_Range => k_is); (case n_Range_field => k_is); (case n_Range_low => k_is); (case n_Range_high => k_is); (case n_Range_lack => k_is); (case mk_Range => k_is); (case in_Range => k_is); (case if_Range => k_is); (case kc_Range => k_is); (case ha_Range => k_is); (case hm_Range => k_is); (case aC_Values => k_is); (case pg_Values => k_is); (case hd_Values => k_is); (case po_Values => k_is); (case sa_Values => k_is); (case n_Values_field => k_is); (case n_Values_choices => k_is); (case n_Values_lack => k_is); (case mk_Values => k_is); (case in_Values => k_is); (case if_Values => k_is); (case kc_Values => k_is); (case ha_Values => k_is); (case hm_Values => k_is); (case aC_Counts => k_is); (case pg_Counts => k_is); (case hd_Counts => k_is); (case po_Counts => k_is); (case sa_Counts => k_is); (case n_Counts_words => k_is); (case n_Counts_bounds => k_is); (case mk_Counts => k_is); (case in_Counts => k_is); (case if_Counts => k_is); (case kc_Counts => k_is); (case ha_Counts => k_is); (case hm_Counts => k_is); (case aC_Names => k_is); (case pg_Names => k_is); (case hd_Names => k_is); (case po_Names => k_is); (case sa_Names => k_is); (case n_Names_low => k_is); (case n_Names_high => k_is); (case mk_Names => k_is); (case in_Names => k_is); (case if_Names => k_is); (case kc_Names => k_is); (case ha_Names => k_is); (case hm_Names => k_is); (case aC_Region => k_is); (case pg_Region => k_is); (case hd_Region => k_is); (case po_Region => k_is); (case sa_Region => k_is); (case n_Region_parent => k_is); (case n_Region_facts => k_is); (case mk_Region => k_is); (case in_Region => k_is); (case if_Region => k_is); (case kc_Region => k_is); (case aC_Entry => k_is); (case pg_Entry => k_is); (case hd_Entry => k_is); (case po_Entry => k_is); (case sa_Entry => k_is); (case n_Entry_number => k_is); (case n_Entry_record => k_is); (case n_Entry_leaves => k_is); (case mk_Entry => k_is); (case in_Entry => k_is); (case if_Entry => k_is); (case kc_Entry => k_is); (case aC_Offer => k_is); (case pg_Offer => k_is); (case hd_Offer => k_is); (case po_Offer => k_is); (case sa_Offer => k_is); (case n_Offer_partitions => k_is); (case n_Offer_entries => k_is); (case mk_Offer => k_is); (case in_Offer => k_is); (case if_Offer => k_is); (case kc_Offer => k_is); (case ic_Parts => k_is); (case ty_Parts => k_is); (case ic_Cell => k_is); (case ty_Cell => k_is); (case ic_Box => k_is); (case ty_Box => k_is); (case ic_Norms => k_is); (case ty_Norms => k_is); (case ic_Differ => k_is); (case ty_Differ => k_is); (case ic_Range => k_is); (case ty_Range => k_is); (case ic_Values => k_is); (case ty_Values => k_is); (case ic_Counts => k_is); (case ty_Counts => k_is); (case ss_Parts => k_is); (case sb_Cell_Parts => k_is); (case sb_Box_Parts => k_is); (case sb_Norms_Parts => k_is); (case sb_Differ_Parts => k_is); (case sb_Range_Parts => k_is); (case sb_Values_Parts => k_is); (case sb_Counts_Parts => k_is); (case sb_Names_Parts => k_is); (case ss_Cell => k_is); (case sb_Parts_Cell => k_is); (case sb_Box_Cell => k_is); (case sb_Norms_Cell => k_is); (case sb_Differ_Cell => k_is); (case sb_Range_Cell => k_is); (case sb_Values_Cell => k_is); (case sb_Counts_Cell => k_is); (case sb_Names_Cell => k_is); (case ss_Box => k_is); (case sb_Parts_Box => k_is); (case sb_Cell_Box => k_is); (case sb_Norms_Box => k_is); (case sb_Differ_Box => k_is); (case sb_Range_Box => k_is); (case sb_Values_Box => k_is); (case sb_Counts_Box => k_is); (case sb_Names_Box => k_is); (case ss_Norms => k_is); (case sb_Parts_Norms => k_is); (case sb_Cell_Norms => k_is); (case sb_Box_Norms => k_is); (case sb_Differ_Norms => k_is); (case sb_Range_Norms => k_is); (case sb_Values_Norms => k_is); (case sb_Counts_Norms => k_is); (case sb_Names_Norms => k_is); (case ss_Differ => k_is); (case sb_Parts_Differ => k_is); (case sb_Cell_Differ => k_is); (case sb_Box_Differ => k_is); (case sb_Norms_Differ => k_is); (case sb_Range_Differ => k_is); (case sb_Values_Differ => k_is); (case sb_Counts_Differ => k_is); (case sb_Names_Differ => k_is); (case ss_Range => k_is); (case sb_Parts_Range => k_is); (case sb_Cell_Range => k_is); (case sb_Box_Range => k_is); (case sb_Norms_Range => k_is); (case sb_Differ_Range => k_is); (case sb_Values_Range => k_is); (case sb_Counts_Range => k_is); (case sb_Names_Range => k_is); (case ss_Values => k_is); (case sb_Parts_Values => k_is); (case sb_Cell_Values => k_is); (case sb_Box_Values => k_is); (case sb_Norms_Values => k_is); (case sb_Differ_Values => k_is); (case sb_Range_Values => k_is); (case sb_Counts_Values => k_is); (case sb_Names_Values => k_is); (case ss_Counts => k_is); (case sb_Parts_Counts => k_is); (case sb_Cell_Counts => k_is); (case sb_Box_Counts => k_is); (case sb_Norms_Counts => k_is); (case sb_Differ_Counts => k_is); (case sb_Range_Counts => k_is); (case sb_Values_Counts => k_is); (case sb_Names_Counts => k_is); (case hn0 => k_is); (case ht0 => k_is); (case l5 => k_is); (case n5_fields => k_is); (case t5_fields => k_is); (case n5_words => k_is); (case t5_words => k_is); (case c5 => k_is); (case k5 => k_is); (case l7 => k_is); (case c7 => k_is); (case k7 => k_is); (case l8 => k_is); (case c8 => k_is); (case k8 => k_is); (case l9 => k_is); (case c9 => k_is); (case k9 => k_is); (case l10 => k_is); (case c10 => k_is); (case k10 => k_is); (case l11 => k_is); (case c11 => k_is); (case k11 => k_is); (case l12 => k_is); (case c12 => k_is); (case k12 => k_is); (case l13 => k_is); (case n13_lack => k_is); (case c13 => k_is); (case k13 => k_is); (case l14 => k_is); (case n14_lack => k_is); (case c14 => k_is); (case k14 => k_is); (case l16 => k_is); (case c16 => k_is); (case k16 => k_is); (case l17 => k_is); (case c17 => k_is); (case k17 => k_is); (case l19 => k_is); (case c19 => k_is); (case k19 => k_is); (case l20 => k_is); (case c20 => k_is); (case k20 => k_is); (case l21 => k_is); (case c21 => k_is); (case k21 => k_is); (case z_BOX => k_is); (case z_CELL => k_is); (case z_COUNTS => k_is); (case z_DIFFER => k_is); (case z_LACKS => k_is); (case zl_LACKS => k_is); (case z_NAMES => k_is); (case z_NORMS => k_is); (case z_PARTS => k_is); (case z_RANGE => k_is); (case z_VALUES => k_is); (case z_bool => k_is); (case z_int => k_is); (case z_isinstance => k_is); (case z_len => k_is); (case z_list => k_is); (case z_max => k_is); (case z_ord => k_is); (case z_range => k_is); (case z_str => k_is); (case z_tuple => k_is)
    (case zv_LACKS => exact .cons ⟨_, rfl⟩ (.cons ⟨_, rfl⟩ (.cons ⟨_, rfl⟩ .nil))); (case zn_LACKS => decide)
