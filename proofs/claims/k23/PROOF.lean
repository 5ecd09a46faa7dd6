import PyProof.Rows.All
import Wide.All
import OpenK.AllK
import Wide.FinOn
import HandS.ForMost
import HandS.Codes
import HandS.Wide
import HandS.IsInst
import HandS.Walk
import HandS.Zip
import HandS.MakeKwOnly
import HandS.ForExc
import HandS.TryMany
import HandS.Strs
import HandS.More
import HandS.Property
import HandS.SetFor
import HandS.Conv
import HandS.Text
import HandS.TupAny
import HandS.Style
import KE.KEqSeq
import KE.LtData
import KE.OsRunLaw
import KE.GoesEnum
import HandS.OwnEq
import PyProof.NeKinds
import HandS.Small
import HandS.Deep
import KE.KTupSum
import KE.KDictZip
import KE.KStar
import HandS.Star
import HandS.FStr
import KE.HD2
import HandS.SetKeys
import PySem.Challenge.RW_surenear_k23_what_facts_let_pass
set_option Elab.async false
set_option linter.all false
set_option maxRecDepth 100000
set_option synthInstance.maxHeartbeats 400000
set_option synthInstance.maxSize 4000
namespace TP
open PySem PySem.Spec PyProof.Rows L2
/-! ### heaps: Z is the part that never changes, H is all -/
def SameX (S : List Addr) (H H' : Hp) : Prop := ∀ a o, a ∉ S → H a = some o → H' a = some o
theorem SameX.refl {S : List Addr} {H : Hp} : SameX S H H := fun _ _ _ h => h
theorem SameX.trans {S : List Addr} {H H1 H2 : Hp} (f : SameX S H H1) (g : SameX S H1 H2) : SameX S H H2 := fun a o n h => g a o n (f a o n h)
structure Step (S : List Addr) (Z H Z' H' : Hp) : Prop where
  z : Same Z Z'
  s : Same Z' H'
  h : SameX S H H'
  n : ∀ a, H a ≠ none → Z a = none → Z' a = none
  al : ∀ a, H a ≠ none → H' a ≠ none
theorem Step.refl {S : List Addr} {Z H : Hp} (s : Same Z H) : Step S Z H Z H := ⟨Same.refl _, s, SameX.refl, fun _ _ h => h, fun _ h => h⟩
theorem Step.mine {S F : List Addr} {Z H Z1 H1 Z2 H2 : Hp} (f : Step S Z H Z1 H1) (g : Step F Z1 H1 Z2 H2) (m : ∀ a ∈ F, a ∈ S ∨ H a = none) : Step S Z H Z2 H2 :=
  ⟨f.z.trans g.z, g.s, fun a o na h => g.h a o (fun q => by rcases m a q with x | x; exact na x; rw [x] at h; cases h) (f.h a o na h), fun a h z => g.n a (f.al a h) (f.n a h z), fun a h => g.al a (f.al a h)⟩
theorem Step.trans {S : List Addr} {Z H Z1 H1 Z2 H2 : Hp} (f : Step S Z H Z1 H1) (g : Step S Z1 H1 Z2 H2) : Step S Z H Z2 H2 := f.mine g fun _ h => .inl h
theorem Step.weak {S F : List Addr} {Z H Z1 H1 : Hp} (g : Step F Z H Z1 H1) (m : ∀ a ∈ F, a ∈ S ∨ H a = none) : Step S Z H Z1 H1 :=
  ⟨g.z, g.s, fun a o na h => g.h a o (fun q => by rcases m a q with x | x; exact na x; rw [x] at h; cases h) h, g.n, g.al⟩
theorem Step.pure {S : List Addr} {Z H Z1 H1 : Hp} (g : Step [] Z H Z1 H1) : Step S Z H Z1 H1 := g.weak fun _ h => by cases h
theorem ne_of_some {H : Hp} {a p : Addr} (h : H a ≠ none) (hp : H p = none) : a ≠ p := fun e => h (e ▸ hp)
theorem some_ne {H : Hp} {a : Addr} {o : HO} (h : H a = some o) : H a ≠ none := by rw [h]; exact fun z => nomatch z
theorem same_none {Z H : Hp} (s : Same Z H) {p : Addr} (h : H p = none) : Z p = none := s.free h
theorem same_upd {H : Hp} {p : Addr} {o : HO} (h : H p = none) : Same H (upd H p o) := fun a u e => by
  rw [upd_ne (ne_of_some (some_ne e) h)]; exact e
theorem same_upd2 {Z H : Hp} {p : Addr} {o : HO} (s : Same Z H) : Same (upd Z p o) (upd H p o) := fun a u e => by
  by_cases q : a = p
  · subst q; rw [upd_same] at e ⊢; exact e
  · rw [upd_ne q] at e ⊢; exact s a u e
/-- something new that never changes -/
theorem Step.new {Z H : Hp} {p : Addr} {o : HO} (s : Same Z H) (hp : H p = none) : Step [] Z H (upd Z p o) (upd H p o) :=
  ⟨same_upd (same_none s hp), same_upd2 s, fun a u _ e => same_upd hp a u e, fun a h z => by rw [upd_ne (ne_of_some h hp)]; exact z, fun a h => by rw [upd_ne (ne_of_some h hp)]; exact h⟩
/-- something new of one's own -/
theorem Step.own {Z H : Hp} {p : Addr} {o : HO} (s : Same Z H) (hp : H p = none) : Step [] Z H Z (upd H p o) :=
  ⟨Same.refl _, s.trans (same_upd hp), fun a u _ e => same_upd hp a u e, fun _ _ z => z, fun a h => by rw [upd_ne (ne_of_some h hp)]; exact h⟩
/-- one's own is changed -/
theorem Step.set {Z H : Hp} {p : Addr} {o : HO} (s : Same Z H) (hz : Z p = none) : Step [p] Z H Z (upd H p o) := by
  refine ⟨Same.refl _, fun a u e => ?_, fun a u n e => ?_, fun _ _ z => z, fun a h => ?_⟩
  · rw [upd_ne (ne_of_some (some_ne e) hz)]; exact s a u e
  · rw [upd_ne (fun q => n (by rw [q]; exact List.mem_cons_self))]; exact e
  · by_cases q : a = p
    · subst q; rw [upd_same]; exact fun z => nomatch z
    · rw [upd_ne q]; exact h

/-! ### kinds of values -/
structure Ty (α : Type) where
  r : Hp → V → α → Prop
  mono : ∀ {Z Z' : Hp} {v : V} {x : α}, Same Z Z' → r Z v x → r Z' v x
def yInt : Ty Int := ⟨fun _ v x => v = .int x, fun _ h => h⟩
def yBool : Ty Bool := ⟨fun _ v x => v = .bl x, fun _ h => h⟩
def okS (x : Str) : Bool := PyData.strOk x && decide (x.length ≤ sizeLine)
def yStr : Ty Str := ⟨fun _ v x => v = .str x ∧ okS x = true, fun _ h => h⟩
def yNon : Ty Unit := ⟨fun _ v _ => v = .non, fun _ h => h⟩
def yOpt {α : Type} (τ : Ty α) : Ty (Option α) := ⟨fun Z v x => match x with | none => v = .non | some y => τ.r Z v y ∧ v ≠ .non, fun {_ _ _ x} s h => match x, h with | none, h => h | some _, h => ⟨τ.mono s h.1, h.2⟩⟩
/-- place by place -/
inductive All {α : Type} (R : V → α → Prop) : List V → List α → Prop
  | nil : All R [] []
  | cons {v : V} {vs : List V} {x : α} {xs : List α} : R v x → All R vs xs → All R (v :: vs) (x :: xs)
section
variable {α β : Type} {R R' : V → α → Prop}
theorem All.imp (f : ∀ v x, R v x → R' v x) : ∀ {vs : List V} {xs : List α}, All R vs xs → All R' vs xs
  | _, _, .nil => .nil
  | _, _, .cons h t => .cons (f _ _ h) (t.imp f)
theorem All.len : ∀ {vs : List V} {xs : List α}, All R vs xs → vs.length = xs.length
  | _, _, .nil => rfl
  | _, _, .cons _ t => congrArg Nat.succ t.len
theorem All.app : ∀ {vs ws : List V} {xs ys : List α}, All R vs xs → All R ws ys → All R (vs ++ ws) (xs ++ ys)
  | _, _, _, _, .nil, h => h
  | _, _, _, _, .cons h t, g => .cons h (t.app g)
theorem All.snoc {vs : List V} {xs : List α} {v : V} {x : α} (h : All R vs xs) (g : R v x) : All R (vs ++ [v]) (xs ++ [x]) := h.app (.cons g .nil)
theorem All.get : ∀ {vs : List V} {xs : List α} {i : Nat} {v : V}, All R vs xs → vs[i]? = some v → ∃ x, xs[i]? = some x ∧ R v x
  | _, _, _, _, .nil, h => by simp at h
  | _, _, 0, _, .cons h _, e => ⟨_, rfl, by have := Option.some.inj e; rw [← this]; exact h⟩
  | _, _, i + 1, _, .cons _ t, e => t.get (i := i) e
theorem All.at : ∀ {vs : List V} {xs : List α} {i : Nat} {x : α}, All R vs xs → xs[i]? = some x → ∃ v, vs[i]? = some v ∧ R v x
  | _, _, _, _, .nil, h => by simp at h
  | _, _, 0, _, .cons h _, e => ⟨_, rfl, by have := Option.some.inj e; rw [← this]; exact h⟩
  | _, _, i + 1, _, .cons _ t, e => t.at (i := i) e
theorem All.take : ∀ {vs : List V} {xs : List α} (n : Nat), All R vs xs → All R (vs.take n) (xs.take n)
  | _, _, 0, _ => .nil
  | _, _, _ + 1, .nil => .nil
  | _, _, n + 1, .cons h t => .cons h (t.take n)
theorem All.drop : ∀ {vs : List V} {xs : List α} (n : Nat), All R vs xs → All R (vs.drop n) (xs.drop n)
  | _, _, 0, h => h
  | _, _, _ + 1, .nil => .nil
  | _, _, n + 1, .cons _ t => t.drop n
theorem All.set {v : V} {x : α} (g : R v x) : ∀ {vs : List V} {xs : List α} (n : Nat), All R vs xs → All R (vs.set n v) (xs.set n x)
  | _, _, _, .nil => .nil
  | _, _, 0, .cons _ t => .cons g t
  | _, _, n + 1, .cons h t => .cons h (t.set g n)
theorem All.ints : ∀ {vs : List V} {xs : List Int}, All (fun v x => v = .int x) vs xs → vs = xs.map V.int
  | _, _, .nil => rfl
  | _, _, .cons h t => by rw [h, t.ints]; rfl
theorem All.map {f : α → V} (e : ∀ v x, R v x → v = f x) : ∀ {vs : List V} {xs : List α}, All R vs xs → vs = xs.map f
  | _, _, .nil => rfl
  | _, _, .cons h t => by rw [e _ _ h, t.map e]; rfl
theorem All.bls : ∀ {vs : List V} {xs : List Bool}, All (fun v x => v = .bl x) vs xs → vs = xs.map V.bl
  | _, _, .nil => rfl
  | _, _, .cons h t => by rw [h, t.bls]; rfl
theorem All.ofInts : ∀ xs : List Int, All (fun v x => v = .int x) (xs.map V.int) xs
  | [] => .nil
  | _ :: r => .cons rfl (All.ofInts r)
theorem All.atI {vs : List V} {xs : List α} {i : Int} {x : α} (h : All R vs xs) (e : L2.atI xs i = some x) : ∃ v, L2.atI vs i = some v ∧ R v x := by
  unfold L2.atI at e ⊢
  rw [h.len]
  cases q : ixN xs.length i with
  | none => rw [q] at e; cases e
  | some j =>
    rw [q] at e
    exact h.at (i := j) e
end
/-- a list that never changes -/
def yList {α : Type} (τ : Ty α) : Ty (List α) := ⟨fun Z v xs => ∃ a vs, v = .ref a ∧ Z a = some (.lst vs) ∧ All (τ.r Z) vs xs ∧ xs.length ≤ sizeLine,
  fun s ⟨a, vs, e, h, t, l⟩ => ⟨a, vs, e, s _ _ h, t.imp fun _ _ => τ.mono s, l⟩⟩
theorem seqT_same {K : PySem.W.Frag} {H H' : Hp} {q : Addr} {xs : List V} (f : Same H H') (h : SqT K H q xs) : SqT K H' q xs := by
  rcases h with (h | ⟨o, h⟩) | h
  · exact .inl (.inl (f _ _ h))
  · exact .inl (.inr ⟨o, f _ _ h⟩)
  · exact .inr h
section
variable (K : PySem.W.Frag)
def yTup {α : Type} (τ : Ty α) : Ty (List α) := ⟨fun Z v xs => ∃ a vs, v = .ref a ∧ SqT K Z a vs ∧ All (τ.r Z) vs xs ∧ xs.length ≤ sizeLine,
  fun s ⟨a, vs, e, h, t, l⟩ => ⟨a, vs, e, seqT_same s h, t.imp fun _ _ => τ.mono s, l⟩⟩
def yP0 : Ty Unit := ⟨fun Z v _ => ∃ a, v = .ref a ∧ SqT K Z a [], fun s ⟨a, e, h⟩ => ⟨a, e, seqT_same s h⟩⟩
def yP1 {α : Type} (τ : Ty α) : Ty α := ⟨fun Z v x => ∃ a v1, v = .ref a ∧ SqT K Z a [v1] ∧ τ.r Z v1 x, fun s ⟨a, v1, e, h, h1⟩ => ⟨a, v1, e, seqT_same s h, τ.mono s h1⟩⟩
def yP2 {α β : Type} (τ : Ty α) (υ : Ty β) : Ty (α × β) := ⟨fun Z v x => ∃ a v1 v2, v = .ref a ∧ SqT K Z a [v1, v2] ∧ τ.r Z v1 x.1 ∧ υ.r Z v2 x.2,
  fun s ⟨a, v1, v2, e, h, h1, h2⟩ => ⟨a, v1, v2, e, seqT_same s h, τ.mono s h1, υ.mono s h2⟩⟩
def yP3 {α β γ : Type} (τ : Ty α) (υ : Ty β) (φ : Ty γ) : Ty (α × β × γ) := ⟨fun Z v x => ∃ a v1 v2 v3, v = .ref a ∧ SqT K Z a [v1, v2, v3] ∧ τ.r Z v1 x.1 ∧ υ.r Z v2 x.2.1 ∧ φ.r Z v3 x.2.2,
  fun s ⟨a, v1, v2, v3, e, h, h1, h2, h3⟩ => ⟨a, v1, v2, v3, e, seqT_same s h, τ.mono s h1, υ.mono s h2, φ.mono s h3⟩⟩
def yP4 {α β γ δ : Type} (τ : Ty α) (υ : Ty β) (φ : Ty γ) (ψ : Ty δ) : Ty (α × β × γ × δ) := ⟨fun Z v x => ∃ a v1 v2 v3 v4, v = .ref a ∧ SqT K Z a [v1, v2, v3, v4] ∧ τ.r Z v1 x.1 ∧ υ.r Z v2 x.2.1 ∧ φ.r Z v3 x.2.2.1 ∧ ψ.r Z v4 x.2.2.2,
  fun s ⟨a, v1, v2, v3, v4, e, h, h1, h2, h3, h4⟩ => ⟨a, v1, v2, v3, v4, e, seqT_same s h, τ.mono s h1, υ.mono s h2, φ.mono s h3, ψ.mono s h4⟩⟩
end

/-! ### what changes: s of a kind μ stands at the addresses fp -/
structure Mu (μ : Type) where
  fp : List Addr
  m : μ → Hp → Hp → Prop
  al : ∀ {s : μ} {Z H : Hp}, m s Z H → ∀ a ∈ fp, H a ≠ none ∧ Z a = none
  loc : ∀ {s : μ} {Z H Z' H' : Hp}, Same Z Z' → (∀ a ∈ fp, ∀ o, H a = some o → H' a = some o) → (∀ a ∈ fp, H a ≠ none → Z a = none → Z' a = none) → m s Z H → m s Z' H'
def muN : Mu Unit := ⟨[], fun _ _ _ => True, fun _ _ h => (nomatch h), fun _ _ _ _ => trivial⟩
/-- what was told of more that stands still is told without it -/
def Mu.Back {μ : Type} (M : Mu μ) : Prop := ∀ {s s' : μ} {Z H Z' H' : Hp}, Same Z Z' → M.m s Z H → M.m s' Z' H' → M.m s' Z H'
theorem muN_back : muN.Back := fun _ _ _ => trivial
theorem Mu.pure {μ : Type} (M : Mu μ) {s : μ} {Z H Z' H' : Hp} (g : Step [] Z H Z' H') (h : M.m s Z H) : M.m s Z' H' := M.loc g.z (fun a _ o e => g.h a o (List.not_mem_nil) e) (fun a _ x y => g.n a x y) h
/-- what a value is, of the heaps -/
structure Rr (fp : List Addr) where
  r : Hp → Hp → V → Prop
  st : ∀ {Z H Z' H' : Hp} {v : V}, Step fp Z H Z' H' → r Z H v → r Z' H' v
structure Ra (fp : List Addr) where
  r : Hp → Hp → List V → Prop
  st : ∀ {Z H Z' H' : Hp} {vs : List V}, Step fp Z H Z' H' → r Z H vs → r Z' H' vs
def ty {fp : List Addr} {α : Type} (τ : Ty α) (x : α) : Rr fp := ⟨fun Z _ v => τ.r Z v x, fun g h => τ.mono g.z h⟩
/-- a list that may be read: one that never changes, or one of one's own -/
def RdL (fp : List Addr) (Z H : Hp) (p : Addr) (vs : List V) : Prop := Z p = some (.lst vs) ∨ (H p = some (.lst vs) ∧ p ∉ fp)
theorem RdL.st {fp : List Addr} {Z H Z' H' : Hp} {p : Addr} {vs : List V} (g : Step fp Z H Z' H') (h : RdL fp Z H p vs) : RdL fp Z' H' p vs := h.elim (fun e => .inl (g.z _ _ e)) fun e => .inr ⟨g.h _ _ e.2 e.1, e.2⟩
theorem RdL.get {fp : List Addr} {Z H : Hp} {p : Addr} {vs : List V} (s : Same Z H) (h : RdL fp Z H p vs) : H p = some (.lst vs) := h.elim (fun e => s _ _ e) fun e => e.1
def li {fp : List Addr} {α : Type} (τ : Ty α) (xs : List α) : Rr fp := ⟨fun Z H v => ∃ p vs, v = .ref p ∧ RdL fp Z H p vs ∧ All (τ.r Z) vs xs ∧ xs.length ≤ sizeLine,
  fun g ⟨p, vs, e, h, t, l⟩ => ⟨p, vs, e, h.st g, t.imp fun _ _ => τ.mono g.z, l⟩⟩
/-- an address, whatever stands there -/
def isRef {fp : List Addr} (a : Addr) : Rr fp := ⟨fun _ _ v => v = .ref a, fun _ h => h⟩
def ra0 {fp : List Addr} : Ra fp := ⟨fun _ _ vs => vs = [], fun _ h => h⟩
def rac {fp : List Addr} (R : Rr fp) (Rs : Ra fp) : Ra fp := ⟨fun Z H vs => ∃ v r, vs = v :: r ∧ R.r Z H v ∧ Rs.r Z H r, fun g ⟨v, r, e, h, t⟩ => ⟨v, r, e, R.st g h, Rs.st g t⟩⟩

section
variable {μ : Type}
/-- from the state s the expression gives a value of which R is true, and the state s' -/
def Ev (M : Mu μ) (t : TE) (σ : L2.St) (Z H : Hp) (s : μ) (R : Rr M.fp) (s' : μ) : Prop :=
  ∀ Z1 H1, Same Z Z1 → SameX M.fp H H1 → Same Z1 H1 → M.m s Z1 H1 → ∀ Q : VK, (∀ v Z2 H2, Step M.fp Z1 H1 Z2 H2 → M.m s' Z2 H2 → R.r Z2 H2 v → Q v H2) → t σ H1 Q
def EvT (M : Mu μ) (t : TT) (σ : L2.St) (Z H : Hp) (s : μ) (b : Bool) (s' : μ) : Prop :=
  ∀ Z1 H1, Same Z Z1 → SameX M.fp H H1 → Same Z1 H1 → M.m s Z1 H1 → ∀ Q : Bool → Hp → Prop, (∀ Z2 H2, Step M.fp Z1 H1 Z2 H2 → M.m s' Z2 H2 → Q b H2) → t σ H1 Q
def EvA (M : Mu μ) (t : TA) (σ : L2.St) (Z H : Hp) (s : μ) (Rs : Ra M.fp) (s' : μ) : Prop :=
  ∀ Z1 H1, Same Z Z1 → SameX M.fp H H1 → Same Z1 H1 → M.m s Z1 H1 → ∀ Q : List V → Hp → Prop, (∀ vs Z2 H2, Step M.fp Z1 H1 Z2 H2 → M.m s' Z2 H2 → Rs.r Z2 H2 vs → Q vs H2) → t σ H1 Q
variable {M : Mu μ} {σ : L2.St} {Z H : Hp} {s s' s1 s2 s3 : μ} {ta tb tc te : TE} {t : TA}
theorem Ev.up {t : TE} {R : Rr M.fp} {Z' H' : Hp} (h : Ev M t σ Z H s R s') (z : Same Z Z') (x : SameX M.fp H H') : Ev M t σ Z' H' s R s' := fun Z1 H1 a b => h Z1 H1 (z.trans a) (x.trans b)
theorem Ev.weak {t : TE} {R R' : Rr M.fp} (h : Ev M t σ Z H s R s') (f : ∀ Z H v, Same Z H → R.r Z H v → R'.r Z H v) : Ev M t σ Z H s R' s' := fun Z1 H1 a b c d Q q => h Z1 H1 a b c d Q fun v Z2 H2 e m r => q v Z2 H2 e m (f _ _ _ e.s r)
/-- nothing is done -/
theorem ev_of {t : TE} {R : Rr M.fp} (h : ∀ Z1 H1, Same Z Z1 → SameX M.fp H H1 → Same Z1 H1 → ∀ Q : VK, (∀ v, R.r Z1 H1 v → Q v H1) → t σ H1 Q) : Ev M t σ Z H s R s := fun Z1 H1 a b c d Q q => h Z1 H1 a b c Q fun v r => q v Z1 H1 (Step.refl c) d r
/-- one after the other, by values -/
theorem ev_op {R1 R3 R : Rr M.fp} {r : R2} (ha : Ev M ta σ Z H s R1 s1) (hb : Ev M tb σ Z H s1 R3 s2) (h : ∀ Z H v w, Same Z H → R1.r Z H v → R3.r Z H w → ∀ Q : VK, (∀ u Z2 H2, Step [] Z H Z2 H2 → R.r Z2 H2 u → Q u H2) → r v w H Q) : Ev M (tOp r ta tb) σ Z H s R s2 :=
  fun Z1 H1 a b c d Q q => ha Z1 H1 a b c d _ fun v Z2 H2 e m rv => hb Z2 H2 (a.trans e.z) (b.trans e.h) e.s m _ fun w Z3 H3 e2 m2 rw => h Z3 H3 v w e2.s (R1.st e2 rv) rw _ fun u Z4 H4 e3 ru => q u Z4 H4 ((e.trans e2).trans e3.pure) (M.pure e3 m2) ru
theorem ev_un {R1 R : Rr M.fp} {r : V → Hp → VK → Prop} (ha : Ev M ta σ Z H s R1 s1) (h : ∀ Z H v, Same Z H → R1.r Z H v → ∀ Q : VK, (∀ u Z2 H2, Step [] Z H Z2 H2 → R.r Z2 H2 u → Q u H2) → r v H Q) : Ev M (fun σ H Q => ta σ H fun x H1 => r x H1 Q) σ Z H s R s1 :=
  fun Z1 H1 a b c d Q q => ha Z1 H1 a b c d _ fun v Z2 H2 e m rv => h Z2 H2 v e.s rv _ fun u Z4 H4 e3 ru => q u Z4 H4 (e.trans e3.pure) (M.pure e3 m) ru
theorem eva_nil : EvA M tNil σ Z H s ra0 s := fun Z1 H1 _ _ c d Q q => q [] Z1 H1 (Step.refl c) d rfl
theorem eva_cons {R : Rr M.fp} {Rs : Ra M.fp} (ha : Ev M ta σ Z H s R s1) (hr : EvA M t σ Z H s1 Rs s2) : EvA M (tCons ta t) σ Z H s (rac R Rs) s2 :=
  fun Z1 H1 a b c d Q q => ha Z1 H1 a b c d _ fun v Z2 H2 e m rv => hr Z2 H2 (a.trans e.z) (b.trans e.h) e.s m _ fun vs Z3 H3 e2 m2 rs => q _ Z3 H3 (e.trans e2) m2 ⟨v, vs, rfl, R.st e2 rv, rs⟩
/-- by all arguments -/
theorem ev_cb {Rs : Ra M.fp} {R : Rr M.fp} {r : List V → Hp → VK → Prop} (ha : EvA M t σ Z H s Rs s1) (h : ∀ Z H vs, Same Z H → Rs.r Z H vs → ∀ Q : VK, (∀ u Z2 H2, Step [] Z H Z2 H2 → R.r Z2 H2 u → Q u H2) → r vs H Q) : Ev M (tCB r t) σ Z H s R s1 :=
  fun Z1 H1 a b c d Q q => ha Z1 H1 a b c d _ fun vs Z2 H2 e m rv => h Z2 H2 vs e.s rv _ fun u Z4 H4 e3 ru => q u Z4 H4 (e.trans e3.pure) (M.pure e3 m) ru
/-! names and constants -/
theorem ev_var {i : Nat} {v : V} {α : Type} {τ : Ty α} {x : α} (e : σ[i]? = some (some v)) (h : τ.r Z v x) : Ev M (tVar i) σ Z H s (ty τ x) s := ev_of fun _ _ a _ _ _ q => ⟨v, e, q v (τ.mono a h)⟩
/-- a list of one's own -/
theorem ev_own {i : Nat} {p : Addr} {vs : List V} {α : Type} {τ : Ty α} {xs : List α} (e : σ[i]? = some (some (.ref p))) (h : H p = some (.lst vs)) (n : p ∉ M.fp) (t : All (τ.r Z) vs xs) (l : xs.length ≤ sizeLine) : Ev M (tVar i) σ Z H s (li τ xs) s :=
  ev_of fun _ _ a b _ _ q => ⟨.ref p, e, q _ ⟨p, vs, rfl, .inr ⟨b _ _ n h, n⟩, t.imp fun _ _ => τ.mono a, l⟩⟩
theorem ev_ref {i : Nat} {p : Addr} (e : σ[i]? = some (some (.ref p))) : Ev M (tVar i) σ Z H s (isRef p) s := ev_of fun _ _ _ _ _ _ q => ⟨_, e, q _ rfl⟩
theorem ev_int {i : Int} : Ev M (tC (.int i)) σ Z H s (ty yInt i) s := ev_of fun _ _ _ _ _ _ q => q _ rfl
theorem ev_bl {i : Bool} : Ev M (tC (.bl i)) σ Z H s (ty yBool i) s := ev_of fun _ _ _ _ _ _ q => q _ rfl
theorem ev_str {i : Str} (h : okS i = true := by decide +kernel) : Ev M (tC (.str i)) σ Z H s (ty yStr i) s := ev_of fun _ _ _ _ _ _ q => q _ ⟨rfl, h⟩
theorem ev_non : Ev M (tC .non) σ Z H s (ty yNon ()) s := ev_of fun _ _ _ _ _ _ q => q _ rfl
theorem ev_const {v : V} {α : Type} {τ : Ty α} {x : α} (h : ∀ Z, τ.r Z v x) : Ev M (tC v) σ Z H s (ty τ x) s := ev_of fun _ _ _ _ _ _ q => q _ (h _)
theorem ev_li {α : Type} {τ : Ty α} {xs : List α} (h : Ev M ta σ Z H s (ty (yList τ) xs) s') : Ev M ta σ Z H s (li τ xs) s' := h.weak fun _ _ _ _ ⟨a, vs, e, g, t, l⟩ => ⟨a, vs, e, .inl g, t, l⟩
theorem ev_none {α : Type} {τ : Ty α} (h : Ev M ta σ Z H s (ty yNon ()) s') : Ev M ta σ Z H s (ty (yOpt τ) none) s' := h.weak fun _ _ _ _ e => e
/-- of this kind nothing is None -/
def NonNil {α : Type} (τ : Ty α) : Prop := ∀ Z v x, τ.r Z v x → v ≠ .non
theorem nn_int : NonNil yInt := fun _ _ _ e => by rw [show _ = V.int _ from e]; exact fun z => nomatch z
theorem nn_bool : NonNil yBool := fun _ _ _ e => by rw [show _ = V.bl _ from e]; exact fun z => nomatch z
theorem nn_str : NonNil yStr := fun _ _ _ e => by rw [show _ = V.str _ from e.1]; exact fun z => nomatch z
theorem nn_list {α : Type} {τ : Ty α} : NonNil (yList τ) := fun _ _ _ ⟨_, _, e, _⟩ => by rw [e]; exact fun z => nomatch z
theorem nn_tup {K : PySem.W.Frag} {α : Type} {τ : Ty α} : NonNil (yTup K τ) := fun _ _ _ ⟨_, _, e, _⟩ => by rw [e]; exact fun z => nomatch z
theorem nn_p2 {K : PySem.W.Frag} {α β : Type} {τ : Ty α} {υ : Ty β} : NonNil (yP2 K τ υ) := fun _ _ _ ⟨_, _, _, e, _⟩ => by rw [e]; exact fun z => nomatch z
theorem nn_p3 {K : PySem.W.Frag} {α β γ : Type} {τ : Ty α} {υ : Ty β} {φ : Ty γ} : NonNil (yP3 K τ υ φ) := fun _ _ _ ⟨_, _, _, _, e, _⟩ => by rw [e]; exact fun z => nomatch z
theorem nn_p4 {K : PySem.W.Frag} {α β γ δ : Type} {τ : Ty α} {υ : Ty β} {φ : Ty γ} {ψ : Ty δ} : NonNil (yP4 K τ υ φ ψ) := fun _ _ _ ⟨_, _, _, _, _, e, _⟩ => by rw [e]; exact fun z => nomatch z
theorem ev_some {α : Type} {τ : Ty α} {x : α} (n : NonNil τ) (h : Ev M ta σ Z H s (ty τ x) s') : Ev M ta σ Z H s (ty (yOpt τ) (some x)) s' := h.weak fun _ _ _ _ e => ⟨e, n _ _ _ e⟩
theorem ev_uno {α : Type} {τ : Ty α} {x : α} {o : Option α} (h : Ev M ta σ Z H s (ty (yOpt τ) o) s') (e : o = some x) : Ev M ta σ Z H s (ty τ x) s' := by
  subst e; exact h.weak fun _ _ _ _ e => e.1
theorem ev_cast {α : Type} {τ : Ty α} {x y : α} (h : Ev M ta σ Z H s (ty τ x) s') (e : x = y) : Ev M ta σ Z H s (ty τ y) s' := e ▸ h
/-! numbers -/
section
variable {i j : Int}
theorem ev_I0 {g : Int → Int → V} {R : Rr M.fp} (ha : Ev M ta σ Z H s (ty yInt i) s1) (hb : Ev M tb σ Z H s1 (ty yInt j) s2) (h : ∀ Z H, R.r Z H (g i j)) : Ev M (tOp (rI0 g) ta tb) σ Z H s R s2 :=
  ev_op ha hb fun _ _ _ _ sz e1 e2 _ q => ⟨i, j, e1, e2, q _ _ _ (Step.refl sz) (h _ _)⟩
theorem ev_I1 {C : Int → Int → Prop} {g : Int → Int → V} {R : Rr M.fp} (ha : Ev M ta σ Z H s (ty yInt i) s1) (hb : Ev M tb σ Z H s1 (ty yInt j) s2) (c : C i j) (h : ∀ Z H, R.r Z H (g i j)) : Ev M (tOp (rI C g) ta tb) σ Z H s R s2 :=
  ev_op ha hb fun _ _ _ _ sz e1 e2 _ q => ⟨i, j, e1, e2, c, q _ _ _ (Step.refl sz) (h _ _)⟩
theorem ev_add (ha : Ev M ta σ Z H s (ty yInt i) s1) (hb : Ev M tb σ Z H s1 (ty yInt j) s2) : Ev M (tOp (rI0 fun i j => .int (i + j)) ta tb) σ Z H s (ty yInt (i + j)) s2 := ev_I0 ha hb fun _ _ => rfl
theorem ev_sub (ha : Ev M ta σ Z H s (ty yInt i) s1) (hb : Ev M tb σ Z H s1 (ty yInt j) s2) : Ev M (tOp (rI0 fun i j => .int (i - j)) ta tb) σ Z H s (ty yInt (i - j)) s2 := ev_I0 ha hb fun _ _ => rfl
theorem ev_mul (ha : Ev M ta σ Z H s (ty yInt i) s1) (hb : Ev M tb σ Z H s1 (ty yInt j) s2) (c : CMul i j) : Ev M (tOp (rI CMul fun i j => .int (i * j)) ta tb) σ Z H s (ty yInt (i * j)) s2 := ev_I1 ha hb c fun _ _ => rfl
theorem ev_fdiv (ha : Ev M ta σ Z H s (ty yInt i) s1) (hb : Ev M tb σ Z H s1 (ty yInt j) s2) (c : CDiv i j) : Ev M (tOp (rI CDiv fun i j => .int (i / j)) ta tb) σ Z H s (ty yInt (i / j)) s2 := ev_I1 ha hb c fun _ _ => rfl
theorem ev_mod (ha : Ev M ta σ Z H s (ty yInt i) s1) (hb : Ev M tb σ Z H s1 (ty yInt j) s2) (c : 0 < j) : Ev M (tOp (rI (fun _ j => 0 < j) fun i j => .int (i % j)) ta tb) σ Z H s (ty yInt (i % j)) s2 := ev_I1 (C := fun _ j => 0 < j) ha hb c fun _ _ => rfl
theorem ev_pow (ha : Ev M ta σ Z H s (ty yInt i) s1) (hb : Ev M tb σ Z H s1 (ty yInt j) s2) (c : CPow i j) : Ev M (tOp (rI CPow fun i j => .int (i ^ j.toNat)) ta tb) σ Z H s (ty yInt (i ^ j.toNat)) s2 := ev_I1 ha hb c fun _ _ => rfl
theorem ev_tun {R1 R : Rr M.fp} {r : V → Hp → VK → Prop} (ha : Ev M ta σ Z H s R1 s1) (h : ∀ Z H v, Same Z H → R1.r Z H v → ∀ Q : VK, (∀ u Z2 H2, Step [] Z H Z2 H2 → R.r Z2 H2 u → Q u H2) → r v H Q) : Ev M (tUn r ta) σ Z H s R s1 :=
  fun Z1 H1 a b c d Q q => ha Z1 H1 a b c d _ fun v Z2 H2 e m rv => h Z2 H2 v e.s rv _ fun u Z4 H4 e3 ru => q u Z4 H4 (e.trans e3.pure) (M.pure e3 m) ru
theorem ev_neg (ha : Ev M ta σ Z H s (ty yInt i) s1) : Ev M (tUn (rU fun i => .int (-i)) ta) σ Z H s (ty yInt (-i)) s1 := ev_tun ha fun _ _ _ sz e _ q => ⟨i, e, q _ _ _ (Step.refl sz) rfl⟩
theorem ev_lt (ha : Ev M ta σ Z H s (ty yInt i) s1) (hb : Ev M tb σ Z H s1 (ty yInt j) s2) : Ev M (tOp (rI0 fun i j => .bl (decide (i < j))) ta tb) σ Z H s (ty yBool (decide (i < j))) s2 := ev_I0 ha hb fun _ _ => rfl
theorem ev_le (ha : Ev M ta σ Z H s (ty yInt i) s1) (hb : Ev M tb σ Z H s1 (ty yInt j) s2) : Ev M (tOp (rI0 fun i j => .bl (decide (i ≤ j))) ta tb) σ Z H s (ty yBool (decide (i ≤ j))) s2 := ev_I0 ha hb fun _ _ => rfl
theorem ev_gt (ha : Ev M ta σ Z H s (ty yInt i) s1) (hb : Ev M tb σ Z H s1 (ty yInt j) s2) : Ev M (tOp (rI0 fun i j => .bl (decide (j < i))) ta tb) σ Z H s (ty yBool (decide (j < i))) s2 := ev_I0 ha hb fun _ _ => rfl
theorem ev_ge (ha : Ev M ta σ Z H s (ty yInt i) s1) (hb : Ev M tb σ Z H s1 (ty yInt j) s2) : Ev M (tOp (rI0 fun i j => .bl (decide (j ≤ i))) ta tb) σ Z H s (ty yBool (decide (j ≤ i))) s2 := ev_I0 ha hb fun _ _ => rfl
end
/-! equality of flat things -/
/-- flat: the value is told by the thing alone -/
structure Flat {α : Type} (τ : Ty α) (f : α → V) : Prop where
  eq : ∀ Z v x, τ.r Z v x → v = f x
  inj : ∀ x y, f x = f y → x = y
  sc : ∀ x y, scal (f x) (f y) = true
theorem flat_int : Flat yInt V.int := ⟨fun _ _ _ h => h, fun _ _ h => V.int.inj h, fun _ _ => rfl⟩
theorem flat_str : Flat yStr V.str := ⟨fun _ _ _ h => h.1, fun _ _ h => V.str.inj h, fun _ _ => rfl⟩
theorem flat_bool : Flat yBool V.bl := ⟨fun _ _ _ h => h, fun _ _ h => V.bl.inj h, fun _ _ => rfl⟩
section
variable {α : Type} {τ : Ty α} {f : α → V} {x y : α}
theorem ev_eq [DecidableEq α] (F : Flat τ f) (ha : Ev M ta σ Z H s (ty τ x) s1) (hb : Ev M tb σ Z H s1 (ty τ y) s2) : Ev M (tOp rEq ta tb) σ Z H s (ty yBool (decide (x = y))) s2 :=
  ev_op ha hb fun Z H v w sz e1 e2 Q q => by
    rw [F.eq _ _ _ e1, F.eq _ _ _ e2]
    have : decide (f x = f y) = decide (x = y) := decide_eq_decide.mpr ⟨F.inj x y, congrArg f⟩
    exact ⟨F.sc _ _, q _ _ _ (Step.refl sz) (congrArg V.bl this)⟩
theorem ev_ne [DecidableEq α] (F : Flat τ f) (ha : Ev M ta σ Z H s (ty τ x) s1) (hb : Ev M tb σ Z H s1 (ty τ y) s2) : Ev M (tOp rNe ta tb) σ Z H s (ty yBool (!decide (x = y))) s2 :=
  ev_op ha hb fun Z H v w sz e1 e2 Q q => by
    rw [F.eq _ _ _ e1, F.eq _ _ _ e2]
    have : decide (f x = f y) = decide (x = y) := decide_eq_decide.mpr ⟨F.inj x y, congrArg f⟩
    exact ⟨F.sc _ _, q _ _ _ (Step.refl sz) (congrArg (fun b => V.bl (!b)) this)⟩
end
theorem ev_isN {α : Type} {τ : Ty α} {o : Option α} (ha : Ev M ta σ Z H s (ty (yOpt τ) o) s1) (hb : Ev M tb σ Z H s1 (ty yNon ()) s2) : Ev M (tOp (fun x y H Q => y = .non ∧ Q (.bl (decide (x = .non))) H) ta tb) σ Z H s (ty yBool o.isNone) s2 :=
  ev_op ha hb fun Z H v w sz e1 e2 Q q => by
    refine ⟨e2, q _ _ _ (Step.refl sz) ?_⟩
    cases o with
    | none => rw [show v = .non from e1]; rfl
    | some y => rw [show decide (v = .non) = false from decide_eq_false e1.2]; rfl
theorem ev_notN {α : Type} {τ : Ty α} {o : Option α} (ha : Ev M ta σ Z H s (ty (yOpt τ) o) s1) (hb : Ev M tb σ Z H s1 (ty yNon ()) s2) : Ev M (tOp (fun x y H Q => y = .non ∧ Q (.bl (!decide (x = .non))) H) ta tb) σ Z H s (ty yBool o.isSome) s2 :=
  ev_op ha hb fun Z H v w sz e1 e2 Q q => by
    refine ⟨e2, q _ _ _ (Step.refl sz) ?_⟩
    cases o with
    | none => rw [show v = .non from e1]; rfl
    | some y => rw [show decide (v = .non) = false from decide_eq_false e1.2]; rfl
/-! and, or, not, if, as values -/
theorem ev_and {a b : Bool} {o : Option (Bool × μ)} (ha : Ev M ta σ Z H s (ty yBool a) s1) (hb : a = true → ∀ y s', o = some (y, s') → Ev M tb σ Z H s1 (ty yBool y) s') (h : (if a = true then o else some (false, s1)) = some (b, s2)) : Ev M (tAndV ta tb) σ Z H s (ty yBool b) s2 :=
  fun Z1 H1 p q r d Q k => ha Z1 H1 p q r d _ fun v Z2 H2 e m rv => ⟨a, rv, by
    cases a with
    | true => rw [if_pos rfl] at h ⊢; exact hb rfl b s2 h Z2 H2 (p.trans e.z) (q.trans e.h) e.s m _ fun w Z3 H3 e2 m2 rw => k w Z3 H3 (e.trans e2) m2 rw
    | false => rw [if_neg Bool.false_ne_true] at h ⊢; cases h; exact k _ Z2 H2 e m rfl⟩
theorem ev_or {a b : Bool} {o : Option (Bool × μ)} (ha : Ev M ta σ Z H s (ty yBool a) s1) (hb : a = false → ∀ y s', o = some (y, s') → Ev M tb σ Z H s1 (ty yBool y) s') (h : (if a = true then some (true, s1) else o) = some (b, s2)) : Ev M (tOrV ta tb) σ Z H s (ty yBool b) s2 :=
  fun Z1 H1 p q r d Q k => ha Z1 H1 p q r d _ fun v Z2 H2 e m rv => ⟨a, rv, by
    cases a with
    | false => rw [if_neg Bool.false_ne_true] at h ⊢; exact hb rfl b s2 h Z2 H2 (p.trans e.z) (q.trans e.h) e.s m _ fun w Z3 H3 e2 m2 rw => k w Z3 H3 (e.trans e2) m2 rw
    | true => rw [if_pos rfl] at h ⊢; cases h; exact k _ Z2 H2 e m rfl⟩
theorem ev_and0 {a b : Bool} (ha : Ev M ta σ Z H s (ty yBool a) s1) (hb : Ev M tb σ Z H s1 (ty yBool b) s1) : Ev M (tAndV ta tb) σ Z H s (ty yBool (a && b)) s1 :=
  ev_and (o := some (b, s1)) ha (fun _ y s' e => by cases e; exact hb) (by cases a <;> rfl)
theorem ev_or0 {a b : Bool} (ha : Ev M ta σ Z H s (ty yBool a) s1) (hb : Ev M tb σ Z H s1 (ty yBool b) s1) : Ev M (tOrV ta tb) σ Z H s (ty yBool (a || b)) s1 :=
  ev_or (o := some (b, s1)) ha (fun _ y s' e => by cases e; exact hb) (by cases a <;> rfl)
theorem ev_not {a : Bool} (ha : Ev M ta σ Z H s (ty yBool a) s1) : Ev M (tNotV ta) σ Z H s (ty yBool (!a)) s1 :=
  fun Z1 H1 p q r d Q k => ha Z1 H1 p q r d _ fun v Z2 H2 e m rv => ⟨a, rv, k _ Z2 H2 e m rfl⟩
theorem ev_if {tt : TT} {a : Bool} {R : Rr M.fp} (ht : EvT M tt σ Z H s a s1) (ha : a = true → Ev M ta σ Z H s1 R s2) (hb : a = false → Ev M tb σ Z H s1 R s2) : Ev M (tIf tt ta tb) σ Z H s R s2 :=
  fun Z1 H1 p q r d Q k => ht Z1 H1 p q r d _ fun Z2 H2 e m => by
    cases a with
    | true => rw [if_pos rfl]; exact ha rfl Z2 H2 (p.trans e.z) (q.trans e.h) e.s m _ fun w Z3 H3 e2 m2 rw => k w Z3 H3 (e.trans e2) m2 rw
    | false => rw [if_neg Bool.false_ne_true]; exact hb rfl Z2 H2 (p.trans e.z) (q.trans e.h) e.s m _ fun w Z3 H3 e2 m2 rw => k w Z3 H3 (e.trans e2) m2 rw
theorem ev_if0 {tt : TT} {a : Bool} {α : Type} {τ : Ty α} {x y : α} (ht : EvT M tt σ Z H s a s1) (ha : Ev M ta σ Z H s1 (ty τ x) s1) (hb : Ev M tb σ Z H s1 (ty τ y) s1) : Ev M (tIf tt ta tb) σ Z H s (ty τ (if a = true then x else y)) s1 :=
  ev_if ht (fun e => by rw [if_pos e]; exact ha) (fun e => by rw [if_neg (by rw [e]; exact Bool.false_ne_true)]; exact hb)
/-! tests -/
theorem et_val {a : Bool} (h : Ev M te σ Z H s (ty yBool a) s1) : EvT M (tB te) σ Z H s a s1 := fun Z1 H1 p q r d _ k => h Z1 H1 p q r d _ fun _ Z2 H2 e m rv => ⟨a, rv, k Z2 H2 e m⟩
theorem et_cmp {a : Bool} (h : Ev M te σ Z H s (ty yBool a) s1) : EvT M (tTest te) σ Z H s a s1 := fun Z1 H1 p q r d _ k => h Z1 H1 p q r d _ fun _ Z2 H2 e m rv => ⟨a, rv, k Z2 H2 e m⟩
section
variable {tA tB' : TT} {a b : Bool}
theorem et_and {o : Option (Bool × μ)} (ha : EvT M tA σ Z H s a s1) (hb : a = true → ∀ y s', o = some (y, s') → EvT M tB' σ Z H s1 y s') (h : (if a = true then o else some (false, s1)) = some (b, s2)) : EvT M (tAnd tA tB') σ Z H s b s2 :=
  fun Z1 H1 p q r d Q k => ha Z1 H1 p q r d _ fun Z2 H2 e m => by
    cases a with
    | true => rw [if_pos rfl] at h ⊢; exact hb rfl b s2 h Z2 H2 (p.trans e.z) (q.trans e.h) e.s m _ fun Z3 H3 e2 m2 => k Z3 H3 (e.trans e2) m2
    | false => rw [if_neg Bool.false_ne_true] at h ⊢; cases h; exact k Z2 H2 e m
theorem et_or {o : Option (Bool × μ)} (ha : EvT M tA σ Z H s a s1) (hb : a = false → ∀ y s', o = some (y, s') → EvT M tB' σ Z H s1 y s') (h : (if a = true then some (true, s1) else o) = some (b, s2)) : EvT M (tOr tA tB') σ Z H s b s2 :=
  fun Z1 H1 p q r d Q k => ha Z1 H1 p q r d _ fun Z2 H2 e m => by
    cases a with
    | false => rw [if_neg Bool.false_ne_true] at h ⊢; exact hb rfl b s2 h Z2 H2 (p.trans e.z) (q.trans e.h) e.s m _ fun Z3 H3 e2 m2 => k Z3 H3 (e.trans e2) m2
    | true => rw [if_pos rfl] at h ⊢; cases h; exact k Z2 H2 e m
theorem et_and0 (ha : EvT M tA σ Z H s a s1) (hb : EvT M tB' σ Z H s1 b s1) : EvT M (tAnd tA tB') σ Z H s (a && b) s1 := et_and (o := some (b, s1)) ha (fun _ y s' e => by cases e; exact hb) (by cases a <;> rfl)
theorem et_or0 (ha : EvT M tA σ Z H s a s1) (hb : EvT M tB' σ Z H s1 b s1) : EvT M (tOr tA tB') σ Z H s (a || b) s1 := et_or (o := some (b, s1)) ha (fun _ y s' e => by cases e; exact hb) (by cases a <;> rfl)
theorem et_not (ha : EvT M tA σ Z H s a s1) : EvT M (tNot tA) σ Z H s (!a) s1 := fun Z1 H1 p q r d _ k => ha Z1 H1 p q r d _ k
end
end
end TP

namespace TP
open PySem PySem.Spec PyProof.Rows L2
instance {i j : Int} : Decidable (CMul i j) := inferInstanceAs (Decidable ((_ ∧ _) ∨ (_ ∧ _)))
instance {i j : Int} : Decidable (CDiv i j) := inferInstanceAs (Decidable (_ ∧ _))
instance {i j : Int} : Decidable (CPow i j) := inferInstanceAs (Decidable (_ ∧ _ ∧ _))
section
variable {μ : Type} {M : Mu μ} {σ : L2.St} {Z H : Hp} {s s' s1 s2 s3 : μ} {ta tb tc te : TE} {t : TA} {K : PySem.W.Frag}
theorem same_x {S : List Addr} {Z H Z1 H1 : Hp} (g : Step S Z H Z1 H1) {p : Addr} (h : H1 p = none) : H p = none := by
  cases q : H p with
  | none => rfl
  | some o => exact absurd h (g.al p (some_ne q))
theorem fresh_fp {fp : List Addr} {Z H : Hp} {p : Addr} {o : HO} (sz : Same Z H) (hp : H p = none) : Step fp Z H (upd Z p o) (upd H p o) := (Step.new sz hp).pure
/-! ### texts -/
theorem okS_app {x y : Str} (hx : okS x = true) (hy : okS y = true) (l : x.length + y.length ≤ sizeLine) : okS (x ++ y) = true := by
  unfold okS PyData.strOk at *
  rw [Bool.and_eq_true] at hx hy ⊢
  refine ⟨?_, ?_⟩
  · have e : (x ++ y).cps = x.cps ++ y.cps := rfl
    rw [e, Array.all_append, hx.1, hy.1]; rfl
  · refine decide_eq_true ?_
    have e : (x ++ y).length = x.length + y.length := by
      show (x.cps ++ y.cps).size = _
      rw [Array.size_append]; rfl
    omega
theorem ev_cat_str {x y : Str} (ha : Ev M ta σ Z H s (ty yStr x) s1) (hb : Ev M tb σ Z H s1 (ty yStr y) s2) (l : x.length + y.length ≤ sizeLine) : Ev M (tOp (fun x y H Q => ∃ i j, x = .str i ∧ y = .str j ∧ i.length + j.length ≤ sizeLine ∧ Q (.str (i ++ j)) H) ta tb) σ Z H s (ty yStr (x ++ y)) s2 :=
  ev_op ha hb fun _ _ _ _ sz e1 e2 _ q => ⟨x, y, e1.1, e2.1, l, q _ _ _ (Step.refl sz) ⟨rfl, okS_app e1.2 e2.2 l⟩⟩
theorem ev_lt_str {x y : Str} (ha : Ev M ta σ Z H s (ty yStr x) s1) (hb : Ev M tb σ Z H s1 (ty yStr y) s2) : Ev M (tOp (fun x y H Q => ∃ i j, x = .str i ∧ y = .str j ∧ Q (.bl (decide (i.cps.toList < j.cps.toList))) H) ta tb) σ Z H s (ty yBool (decide (x.cps.toList < y.cps.toList))) s2 :=
  ev_op ha hb fun _ _ _ _ sz e1 e2 _ q => ⟨x, y, e1.1, e2.1, q _ _ _ (Step.refl sz) rfl⟩
theorem ev_len_str {x : Str} (ha : Ev M ta σ Z H s (ty yStr x) s1) : Ev M (tCB (fun xs H Q => ∃ z, xs = [.str z] ∧ z.length ≤ sizeLine ∧ Q (.int z.length) H) (tCons ta tNil)) σ Z H s (ty yInt (x.length : Nat)) s1 :=
  ev_cb (eva_cons ha eva_nil) fun _ _ vs sz ⟨v, r, e, h, e2⟩ Q q => ⟨x, by rw [e, h.1, show r = [] from e2], of_decide_eq_true (Bool.and_eq_true_iff.mp (show (PyData.strOk x && decide (x.length ≤ sizeLine)) = true from h.2)).2, q _ _ _ (Step.refl sz) rfl⟩
/-! ### lists and tuples that are made -/
theorem ev_tup {Rs : Ra M.fp} {R : Rr M.fp} (ha : EvA M t σ Z H s Rs s1) (h : ∀ Z H vs, Same Z H → Rs.r Z H vs → vs.length ≤ sizeLine ∧ ∀ p, H p = none → R.r (upd Z p (.tup vs)) (upd H p (.tup vs)) (.ref p)) : Ev M (tTup t) σ Z H s R s1 :=
  fun Z1 H1 a b c d Q q => ha Z1 H1 a b c d _ fun vs Z2 H2 e m rv => by
    obtain ⟨l, hr⟩ := h Z2 H2 vs e.s rv
    exact ⟨l, fun p hp => q _ _ _ (e.trans (fresh_fp e.s hp)) (M.pure (Step.new e.s hp) m) (hr p hp)⟩
theorem ev_lst {Rs : Ra M.fp} {R : Rr M.fp} (ha : EvA M t σ Z H s Rs s1) (h : ∀ Z H vs, Same Z H → Rs.r Z H vs → vs.length ≤ sizeLine ∧ ∀ p, H p = none → R.r (upd Z p (.lst vs)) (upd H p (.lst vs)) (.ref p)) : Ev M (tLst t) σ Z H s R s1 :=
  fun Z1 H1 a b c d Q q => ha Z1 H1 a b c d _ fun vs Z2 H2 e m rv => by
    obtain ⟨l, hr⟩ := h Z2 H2 vs e.s rv
    exact ⟨l, fun p hp => q _ _ _ (e.trans (fresh_fp e.s hp)) (M.pure (Step.new e.s hp) m) (hr p hp)⟩
theorem sqT_new {Z : Hp} {p : Addr} {vs : List V} : SqT K (upd Z p (.tup vs)) p vs := .inl (.inl upd_same)
section
variable {α β γ δ : Type} {τ : Ty α} {υ : Ty β} {φ : Ty γ} {ψ : Ty δ} {x : α} {y : β} {z : γ} {u : δ}
theorem ev_p0 : Ev M (tTup tNil) σ Z H s (ty (yP0 K) ()) s := ev_tup eva_nil fun _ _ vs _ e => ⟨by rw [show vs = [] from e]; exact Nat.zero_le _, fun p _ => ⟨p, rfl, by rw [show vs = [] from e]; exact sqT_new⟩⟩
theorem ev_p1 (ha : EvA M t σ Z H s (rac (ty τ x) ra0) s1) : Ev M (tTup t) σ Z H s (ty (yP1 K τ) x) s1 :=
  ev_tup ha fun Z H vs sz ⟨v1, r1, e1, h1, e2⟩ => by
    cases e2; cases e1
    exact ⟨by show 1 ≤ sizeLine; decide, fun p hp => ⟨p, v1, rfl, sqT_new, τ.mono (same_upd (same_none sz hp)) h1⟩⟩
theorem ev_p2 (ha : EvA M t σ Z H s (rac (ty τ x) (rac (ty υ y) ra0)) s1) : Ev M (tTup t) σ Z H s (ty (yP2 K τ υ) (x, y)) s1 :=
  ev_tup ha fun Z H vs sz ⟨v1, r1, e1, h1, v2, r2, e2, h2, e3⟩ => by
    cases e3; cases e2; cases e1
    exact ⟨by show 2 ≤ sizeLine; decide, fun p hp => have q := same_upd (same_none sz hp); ⟨p, v1, v2, rfl, sqT_new, τ.mono q h1, υ.mono q h2⟩⟩
theorem ev_p3 (ha : EvA M t σ Z H s (rac (ty τ x) (rac (ty υ y) (rac (ty φ z) ra0))) s1) : Ev M (tTup t) σ Z H s (ty (yP3 K τ υ φ) (x, y, z)) s1 :=
  ev_tup ha fun Z H vs sz ⟨v1, r1, e1, h1, v2, r2, e2, h2, v3, r3, e3, h3, e4⟩ => by
    cases e4; cases e3; cases e2; cases e1
    exact ⟨by show 3 ≤ sizeLine; decide, fun p hp => have q := same_upd (same_none sz hp); ⟨p, v1, v2, v3, rfl, sqT_new, τ.mono q h1, υ.mono q h2, φ.mono q h3⟩⟩
theorem ev_p4 (ha : EvA M t σ Z H s (rac (ty τ x) (rac (ty υ y) (rac (ty φ z) (rac (ty ψ u) ra0)))) s1) : Ev M (tTup t) σ Z H s (ty (yP4 K τ υ φ ψ) (x, y, z, u)) s1 :=
  ev_tup ha fun Z H vs sz ⟨v1, r1, e1, h1, v2, r2, e2, h2, v3, r3, e3, h3, v4, r4, e4, h4, e5⟩ => by
    cases e5; cases e4; cases e3; cases e2; cases e1
    exact ⟨by show 4 ≤ sizeLine; decide, fun p hp => have q := same_upd (same_none sz hp); ⟨p, v1, v2, v3, v4, rfl, sqT_new, τ.mono q h1, υ.mono q h2, φ.mono q h3, ψ.mono q h4⟩⟩
/-- arguments all of one kind -/
def ras {fp : List Addr} (τ : Ty α) (xs : List α) : Ra fp := ⟨fun Z _ vs => All (τ.r Z) vs xs, fun g h => h.imp fun _ _ => τ.mono g.z⟩
theorem eva_nils : EvA M tNil σ Z H s (ras τ []) s := fun Z1 H1 _ _ c d Q q => q [] Z1 H1 (Step.refl c) d .nil
theorem eva_conss {xs : List α} (ha : Ev M ta σ Z H s (ty τ x) s1) (hr : EvA M t σ Z H s1 (ras τ xs) s2) : EvA M (tCons ta t) σ Z H s (ras τ (x :: xs)) s2 :=
  fun Z1 H1 a b c d Q q => ha Z1 H1 a b c d _ fun v Z2 H2 e m rv => hr Z2 H2 (a.trans e.z) (b.trans e.h) e.s m _ fun vs Z3 H3 e2 m2 rs => q _ Z3 H3 (e.trans e2) m2 (.cons (τ.mono e2.z rv) rs)
/-- a new list of one's own -/
def EvN {α : Type} (M : Mu μ) (t : TE) (σ : L2.St) (Z H : Hp) (s : μ) (τ : Ty α) (xs : List α) (s' : μ) : Prop :=
  ∀ Z1 H1, Same Z Z1 → SameX M.fp H H1 → Same Z1 H1 → M.m s Z1 H1 → ∀ Q : VK, (∀ p vs Z2 H2, Step M.fp Z1 H1 Z2 H2 → M.m s' Z2 H2 → H1 p = none → Z2 p = none → H2 p = some (.lst vs) → All (τ.r Z2) vs xs → xs.length ≤ sizeLine → Q (.ref p) H2) → t σ H1 Q
theorem Step.fz {S : List Addr} {Z H Z1 H1 : Hp} {x : Addr} {o : HO} (g : Step S Z H Z1 H1) (hx : H x = none) (h1 : H1 x = some o) (hz : Z1 x = none) : Step S Z H (upd Z1 x o) H1 := by
  refine ⟨g.z.trans (same_upd hz), fun a u e => ?_, g.h, fun a h z => ?_, g.al⟩
  · by_cases q : a = x
    · subst q; rw [upd_same] at e; rw [← Option.some.inj e]; exact h1
    · rw [upd_ne q] at e; exact g.s a u e
  · rw [upd_ne (ne_of_some h hx)]; exact g.n a h z
theorem Mu.fz {M : Mu μ} {s : μ} {Z H : Hp} {x : Addr} {o : HO} (m : M.m s Z H) (hz : Z x = none) (nx : x ∉ M.fp) : M.m s (upd Z x o) H := by
  refine M.loc (same_upd hz) (fun _ _ _ x => x) (fun a ha _ z => ?_) m
  rw [upd_ne (fun q => nx (by rw [← q]; exact ha))]
  exact z
theorem ev_fz {α : Type} {τ : Ty α} {xs : List α} (h : EvN M ta σ Z H s τ xs s1) : Ev M ta σ Z H s (ty (yList τ) xs) s1 :=
  fun Z1 H1 a b c d Q q => h Z1 H1 a b c d Q fun p vs Z2 H2 e m hp zp h2 t l =>
    q _ _ _ (e.fz hp h2 zp) (Mu.fz m zp (fun hf => (M.al d p hf).1 hp)) ⟨p, vs, rfl, upd_same, t.imp fun _ _ => τ.mono (same_upd zp), l⟩
theorem en_op {α : Type} {τ : Ty α} {xs : List α} {R1 R3 : Rr M.fp} {r : R2} (ha : Ev M ta σ Z H s R1 s1) (hb : Ev M tb σ Z H s1 R3 s2) (h : ∀ Z H v w, Same Z H → R1.r Z H v → R3.r Z H w → ∃ vs, All (τ.r Z) vs xs ∧ xs.length ≤ sizeLine ∧ ∀ Q : VK, (∀ p, H p = none → Q (.ref p) (upd H p (.lst vs))) → r v w H Q) : EvN M (tOp r ta tb) σ Z H s τ xs s2 :=
  fun Z1 H1 a b c d Q q => ha Z1 H1 a b c d _ fun v Z2 H2 e m rv => hb Z2 H2 (a.trans e.z) (b.trans e.h) e.s m _ fun w Z3 H3 e2 m2 rw => by
    obtain ⟨vs, t, l, k⟩ := h Z3 H3 v w e2.s (R1.st e2 rv) rw
    refine k _ fun p hp => ?_
    have e3 := Step.own (o := .lst vs) e2.s hp
    exact q p vs Z3 _ ((e.trans e2).trans e3.pure) (M.pure e3 m2) (same_x (e.trans e2) hp) (same_none e2.s hp) upd_same t l
theorem en_cb {α : Type} {τ : Ty α} {xs : List α} {Rs : Ra M.fp} {r : List V → Hp → VK → Prop} (ha : EvA M t σ Z H s Rs s1) (h : ∀ Z H vs, Same Z H → Rs.r Z H vs → ∃ ws, All (τ.r Z) ws xs ∧ xs.length ≤ sizeLine ∧ ∀ Q : VK, (∀ p, H p = none → Q (.ref p) (upd H p (.lst ws))) → r vs H Q) : EvN M (tCB r t) σ Z H s τ xs s1 :=
  fun Z1 H1 a b c d Q q => ha Z1 H1 a b c d _ fun v Z2 H2 e m rv => by
    obtain ⟨vs, t, l, k⟩ := h Z2 H2 v e.s rv
    refine k _ fun p hp => ?_
    have e3 := Step.own (o := .lst vs) e.s hp
    exact q p vs Z2 _ (e.trans e3.pure) (M.pure e3 m) (same_x e hp) (same_none e.s hp) upd_same t l
theorem en_listD {xs : List α} (ha : EvA M t σ Z H s (ras τ xs) s1) (l : xs.length ≤ sizeLine) : EvN M (tLst t) σ Z H s τ xs s1 :=
  fun Z1 H1 a b c d Q q => ha Z1 H1 a b c d _ fun vs Z2 H2 e m rv => ⟨by rw [All.len rv]; exact l, fun p hp => by
    have e3 := Step.own (o := .lst vs) e.s hp
    exact q p vs Z2 _ (e.trans e3.pure) (M.pure e3 m) (same_x e hp) (same_none e.s hp) upd_same rv l⟩
theorem ev_tupD {xs : List α} (ha : EvA M t σ Z H s (ras τ xs) s1) (l : xs.length ≤ sizeLine) : Ev M (tTup t) σ Z H s (ty (yTup K τ) xs) s1 :=
  ev_tup ha fun Z H vs sz h => ⟨by rw [h.len]; exact l, fun p hp => ⟨p, vs, rfl, sqT_new, h.imp fun _ _ => τ.mono (same_upd (same_none sz hp)), l⟩⟩
/-! ### lists and tuples that are read -/
variable {xs ys : List α}
theorem rdl {fp : List Addr} {Z H : Hp} {v : V} (sz : Same Z H) (h : (li (fp := fp) τ xs).r Z H v) : ∃ p vs, v = .ref p ∧ H p = some (.lst vs) ∧ All (τ.r Z) vs xs ∧ xs.length ≤ sizeLine := by
  obtain ⟨p, vs, e, g, t, l⟩ := h
  exact ⟨p, vs, e, g.get sz, t, l⟩
theorem ev_ixL {i : Int} (ha : Ev M ta σ Z H s (li τ xs) s1) (hb : Ev M tb σ Z H s1 (ty yInt i) s2) (e : atI xs i = some x) : Ev M (tOp (rIxL K) ta tb) σ Z H s (ty τ x) s2 :=
  ev_op ha hb fun _ _ _ _ sz e1 e2 _ q => by
    obtain ⟨p, vs, rfl, g, t, _⟩ := rdl sz e1
    obtain ⟨w, hw, rw'⟩ := t.atI e
    exact ⟨p, vs, i, w, rfl, e2, SqL.of g, hw, q _ _ _ (Step.refl sz) rw'⟩
theorem ev_ixT {i : Int} (ha : Ev M ta σ Z H s (ty (yTup K τ) xs) s1) (hb : Ev M tb σ Z H s1 (ty yInt i) s2) (e : atI xs i = some x) : Ev M (tOp (rIxT K) ta tb) σ Z H s (ty τ x) s2 :=
  ev_op ha hb fun _ _ _ _ sz e1 e2 _ q => by
    obtain ⟨p, vs, rfl, g, t, _⟩ := e1
    obtain ⟨w, hw, rw'⟩ := t.atI e
    exact ⟨p, vs, i, w, rfl, e2, seqT_same sz g, hw, q _ _ _ (Step.refl sz) rw'⟩
/-- a part of a tuple by its written place -/
def PartOf {α' β' : Type} (K : PySem.W.Frag) (τ : Ty α') (i : Int) (τ' : Ty β') (f : α' → β') : Prop := ∀ Z v x, τ.r Z v x → ∃ a vs w, v = .ref a ∧ SqT K Z a vs ∧ atI vs i = some w ∧ τ'.r Z w (f x)
theorem po1_0 : PartOf K (yP1 K τ) 0 τ id := fun _ _ _ ⟨a, v1, e, h, h1⟩ => ⟨a, _, v1, e, h, rfl, h1⟩
theorem po2_0 : PartOf K (yP2 K τ υ) 0 τ Prod.fst := fun _ _ _ ⟨a, v1, v2, e, h, h1, _⟩ => ⟨a, _, v1, e, h, rfl, h1⟩
theorem po2_1 : PartOf K (yP2 K τ υ) 1 υ Prod.snd := fun _ _ _ ⟨a, v1, v2, e, h, _, h1⟩ => ⟨a, _, v2, e, h, rfl, h1⟩
theorem po3_0 : PartOf K (yP3 K τ υ φ) 0 τ (fun x => x.1) := fun _ _ _ ⟨a, v1, v2, v3, e, h, h1, _⟩ => ⟨a, _, v1, e, h, rfl, h1⟩
theorem po3_1 : PartOf K (yP3 K τ υ φ) 1 υ (fun x => x.2.1) := fun _ _ _ ⟨a, v1, v2, v3, e, h, _, h1, _⟩ => ⟨a, _, v2, e, h, rfl, h1⟩
theorem po3_2 : PartOf K (yP3 K τ υ φ) 2 φ (fun x => x.2.2) := fun _ _ _ ⟨a, v1, v2, v3, e, h, _, _, h1⟩ => ⟨a, _, v3, e, h, rfl, h1⟩
theorem po4_0 : PartOf K (yP4 K τ υ φ ψ) 0 τ (fun x => x.1) := fun _ _ _ ⟨a, v1, v2, v3, v4, e, h, h1, _⟩ => ⟨a, _, v1, e, h, rfl, h1⟩
theorem po4_1 : PartOf K (yP4 K τ υ φ ψ) 1 υ (fun x => x.2.1) := fun _ _ _ ⟨a, v1, v2, v3, v4, e, h, _, h1, _⟩ => ⟨a, _, v2, e, h, rfl, h1⟩
theorem po4_2 : PartOf K (yP4 K τ υ φ ψ) 2 φ (fun x => x.2.2.1) := fun _ _ _ ⟨a, v1, v2, v3, v4, e, h, _, _, h1, _⟩ => ⟨a, _, v3, e, h, rfl, h1⟩
theorem po4_3 : PartOf K (yP4 K τ υ φ ψ) 3 ψ (fun x => x.2.2.2) := fun _ _ _ ⟨a, v1, v2, v3, v4, e, h, _, _, _, h1⟩ => ⟨a, _, v4, e, h, rfl, h1⟩
theorem ev_part {i : Int} {f : α → β} (P : PartOf K τ i υ f) (ha : Ev M ta σ Z H s (ty τ x) s1) (hb : Ev M tb σ Z H s1 (ty yInt i) s2) : Ev M (tOp (rIxT K) ta tb) σ Z H s (ty υ (f x)) s2 :=
  ev_op ha hb fun _ _ _ _ sz e1 e2 _ q => by
    obtain ⟨p, vs, w, rfl, g, hw, rw'⟩ := P _ _ _ e1
    exact ⟨p, vs, i, w, rfl, e2, seqT_same sz g, hw, q _ _ _ (Step.refl sz) rw'⟩
theorem ev_len {r : List V → Hp → VK → Prop} (hr : ∀ xs H Q, (∃ p ys, xs = [.ref p] ∧ (SqL K H p ys ∨ SqT K H p ys) ∧ Q (.int ys.length) H) → r xs H Q) (ha : Ev M ta σ Z H s (li τ xs) s1) : Ev M (tCB r (tCons ta tNil)) σ Z H s (ty yInt (xs.length : Nat)) s1 :=
  ev_cb (eva_cons ha eva_nil) fun _ _ _ sz ⟨v, r, e, h, e2⟩ _ q => by
    cases e2; cases e
    obtain ⟨p, vs, rfl, g, t, _⟩ := rdl sz h
    exact hr _ _ _ ⟨p, vs, rfl, .inl (SqL.of g), by rw [t.len]; exact q _ _ _ (Step.refl sz) rfl⟩
theorem ev_lenT {r : List V → Hp → VK → Prop} (hr : ∀ xs H Q, (∃ p ys, xs = [.ref p] ∧ (SqL K H p ys ∨ SqT K H p ys) ∧ Q (.int ys.length) H) → r xs H Q) (ha : Ev M ta σ Z H s (ty (yTup K τ) xs) s1) : Ev M (tCB r (tCons ta tNil)) σ Z H s (ty yInt (xs.length : Nat)) s1 :=
  ev_cb (eva_cons ha eva_nil) fun _ _ _ sz ⟨v, r, e, h, e2⟩ _ q => by
    cases e2; cases e
    obtain ⟨p, vs, rfl, g, t, _⟩ := h
    exact hr _ _ _ ⟨p, vs, rfl, .inr (seqT_same sz g), by rw [t.len]; exact q _ _ _ (Step.refl sz) rfl⟩
theorem en_list_of {r : List V → Hp → VK → Prop} (hr : ∀ xs H Q, (∃ p ys, xs = [.ref p] ∧ (SqL K H p ys ∨ SqT K H p ys) ∧ ∀ l, H l = none → Q (.ref l) (upd H l (.lst ys))) → r xs H Q) (ha : Ev M ta σ Z H s (li τ xs) s1) : EvN M (tCB r (tCons ta tNil)) σ Z H s τ xs s1 :=
  en_cb (eva_cons ha eva_nil) fun _ _ _ sz ⟨v, r, e, h, e2⟩ => by
    cases e2; cases e
    obtain ⟨p, vs, rfl, g, t, l⟩ := rdl sz h
    exact ⟨vs, t, l, fun Q q => hr _ _ _ ⟨p, vs, rfl, .inl (SqL.of g), q⟩⟩
theorem en_list_ofT {r : List V → Hp → VK → Prop} (hr : ∀ xs H Q, (∃ p ys, xs = [.ref p] ∧ (SqL K H p ys ∨ SqT K H p ys) ∧ ∀ l, H l = none → Q (.ref l) (upd H l (.lst ys))) → r xs H Q) (ha : Ev M ta σ Z H s (ty (yTup K τ) xs) s1) : EvN M (tCB r (tCons ta tNil)) σ Z H s τ xs s1 :=
  en_cb (eva_cons ha eva_nil) fun _ _ _ sz ⟨v, r, e, h, e2⟩ => by
    cases e2; cases e
    obtain ⟨p, vs, rfl, g, t, l⟩ := h
    exact ⟨vs, t, l, fun Q q => hr _ _ _ ⟨p, vs, rfl, .inr (seqT_same sz g), q⟩⟩
theorem ev_tuple_of {r : List V → Hp → VK → Prop} (hr : ∀ xs H Q, (∃ p ys, xs = [.ref p] ∧ ((SqL K H p ys ∧ ∀ l, H l = none → Q (.ref l) (upd H l (.tup ys))) ∨ (SqT K H p ys ∧ Q (.ref p) H))) → r xs H Q) (ha : Ev M ta σ Z H s (li τ xs) s1) : Ev M (tCB r (tCons ta tNil)) σ Z H s (ty (yTup K τ) xs) s1 :=
  ev_cb (eva_cons ha eva_nil) fun _ _ _ sz ⟨v, r, e, h, e2⟩ _ q => by
    cases e2; cases e
    obtain ⟨p, vs, rfl, g, t, l⟩ := rdl sz h
    exact hr _ _ _ ⟨p, vs, rfl, .inl ⟨SqL.of g, fun d hd => q _ _ _ (Step.new sz hd) ⟨d, vs, rfl, sqT_new, t.imp fun _ _ => τ.mono (same_upd (same_none sz hd)), l⟩⟩⟩
theorem ev_tuple_ofT {r : List V → Hp → VK → Prop} (hr : ∀ xs H Q, (∃ p ys, xs = [.ref p] ∧ ((SqL K H p ys ∧ ∀ l, H l = none → Q (.ref l) (upd H l (.tup ys))) ∨ (SqT K H p ys ∧ Q (.ref p) H))) → r xs H Q) (ha : Ev M ta σ Z H s (ty (yTup K τ) xs) s1) : Ev M (tCB r (tCons ta tNil)) σ Z H s (ty (yTup K τ) xs) s1 :=
  ev_cb (eva_cons ha eva_nil) fun _ _ _ sz ⟨v, r, e, h, e2⟩ _ q => by
    cases e2; cases e
    obtain ⟨p, vs, rfl, g, t, l⟩ := h
    exact hr _ _ _ ⟨p, vs, rfl, .inr ⟨seqT_same sz g, q _ _ _ (Step.refl sz) ⟨p, vs, rfl, g, t, l⟩⟩⟩
/-- a pair, as a tuple of a pair: itself -/
theorem ev_tuple_id {r : List V → Hp → VK → Prop} (hr : ∀ xs H Q, (∃ p ys, xs = [.ref p] ∧ ((SqL K H p ys ∧ ∀ l, H l = none → Q (.ref l) (upd H l (.tup ys))) ∨ (SqT K H p ys ∧ Q (.ref p) H))) → r xs H Q) (hτ : ∀ Z v x, τ.r Z v x → ∃ p ys, v = .ref p ∧ SqT K Z p ys) (ha : Ev M ta σ Z H s (ty τ x) s1) : Ev M (tCB r (tCons ta tNil)) σ Z H s (ty τ x) s1 :=
  ev_cb (eva_cons ha eva_nil) fun _ _ _ sz ⟨v, r, e, h, e2⟩ _ q => by
    cases e2; cases e
    obtain ⟨p, vs, rfl, g⟩ := hτ _ _ _ h
    exact hr _ _ _ ⟨p, vs, rfl, .inr ⟨seqT_same sz g, q _ _ _ (Step.refl sz) h⟩⟩
theorem it_p2 : ∀ Z v x, (yP2 K τ υ).r Z v x → ∃ p ys, v = .ref p ∧ SqT K Z p ys := fun _ _ _ ⟨a, _, _, e, h, _⟩ => ⟨a, _, e, h⟩
theorem it_p3 : ∀ Z v x, (yP3 K τ υ φ).r Z v x → ∃ p ys, v = .ref p ∧ SqT K Z p ys := fun _ _ _ ⟨a, _, _, _, e, h, _⟩ => ⟨a, _, e, h⟩
theorem en_cat (ha : Ev M ta σ Z H s (li τ xs) s1) (hb : Ev M tb σ Z H s1 (li τ ys) s2) (l : xs.length + ys.length ≤ sizeLine) : EvN M (tOp rCat ta tb) σ Z H s τ (xs ++ ys) s2 :=
  en_op ha hb fun _ _ _ _ sz e1 e2 => by
    obtain ⟨p, vs, rfl, g, t, _⟩ := rdl sz e1
    obtain ⟨p2, ws, rfl, g2, t2, _⟩ := rdl sz e2
    exact ⟨vs ++ ws, t.app t2, by rw [List.length_append]; exact l, fun Q q => ⟨p, p2, vs, ws, rfl, rfl, g, g2, by rw [t.len, t2.len]; exact l, q⟩⟩
end
def cutA {α : Type} (xs : List α) (lo hi : Option Int) : List α := (xs.drop (HT.sIx xs.length 0 lo)).take (HT.sIx xs.length xs.length hi - HT.sIx xs.length 0 lo)
theorem All.cut {α : Type} {R : V → α → Prop} {vs : List V} {xs : List α} (h : All R vs xs) (lo hi : Option Int) : All R (cutV vs lo hi) (cutA xs lo hi) := by
  unfold cutV cutA
  rw [h.len]
  exact (h.drop _).take _
theorem cutA_len {α : Type} (xs : List α) (lo hi : Option Int) : (cutA xs lo hi).length ≤ xs.length := by
  unfold cutA
  rw [List.length_take, List.length_drop]
  omega
def EvO (M : Mu μ) (t : TO) (σ : L2.St) (Z H : Hp) (s : μ) (i : Option Int) (s' : μ) : Prop :=
  ∀ Z1 H1, Same Z Z1 → SameX M.fp H H1 → Same Z1 H1 → M.m s Z1 H1 → ∀ Q : Option Int → Hp → Prop, (∀ Z2 H2, Step M.fp Z1 H1 Z2 H2 → M.m s' Z2 H2 → Q i H2) → t σ H1 Q
theorem eo_none : EvO M tNoPart σ Z H s none s := fun Z1 H1 _ _ c d Q q => q Z1 H1 (Step.refl c) d
theorem eo_some {i : Int} (h : Ev M te σ Z H s (ty yInt i) s1) : EvO M (tPart te) σ Z H s (some i) s1 := fun Z1 H1 a b c d Q q => h Z1 H1 a b c d _ fun v Z2 H2 e m rv => ⟨i, rv, q Z2 H2 e m⟩
theorem ev_slice {r : V → Option Int → Option Int → Hp → VK → Prop} {tl th : TO} {lo hi : Option Int} {R R' : Rr M.fp} (ha : Ev M ta σ Z H s R s1) (hl : EvO M tl σ Z H s1 lo s2) (hh : EvO M th σ Z H s2 hi s3)
    (h : ∀ Z H v, Same Z H → R.r Z H v → ∀ Q : VK, (∀ u Z2 H2, Step [] Z H Z2 H2 → R'.r Z2 H2 u → Q u H2) → r v lo hi H Q) : Ev M (tSl r ta tl th) σ Z H s R' s3 :=
  fun Z1 H1 a b c d Q q => ha Z1 H1 a b c d _ fun v Z2 H2 e m rv => hl Z2 H2 (a.trans e.z) (b.trans e.h) e.s m _ fun Z3 H3 e2 m2 => hh Z3 H3 ((a.trans e.z).trans e2.z) ((b.trans e.h).trans e2.h) e2.s m2 _ fun Z4 H4 e3 m3 =>
    h Z4 H4 v e3.s (R.st e3 (R.st e2 rv)) _ fun u Z5 H5 e4 ru => q u Z5 H5 (((e.trans e2).trans e3).trans e4.pure) (M.pure e4 m3) ru
theorem en_slL {α : Type} {τ : Ty α} {xs : List α} {tl th : TO} {lo hi : Option Int} (ha : Ev M ta σ Z H s (li τ xs) s1) (hl : EvO M tl σ Z H s1 lo s2) (hh : EvO M th σ Z H s2 hi s3) : EvN M (tSl (rSlL K) ta tl th) σ Z H s τ (cutA xs lo hi) s3 :=
  fun Z1 H1 a b c d Q q => ha Z1 H1 a b c d _ fun v Z2 H2 e m rv => hl Z2 H2 (a.trans e.z) (b.trans e.h) e.s m _ fun Z3 H3 e2 m2 => hh Z3 H3 ((a.trans e.z).trans e2.z) ((b.trans e.h).trans e2.h) e2.s m2 _ fun Z4 H4 e3 m3 => by
    obtain ⟨p, vs, rfl, g, t, l⟩ := rdl e3.s ((li τ xs).st e3 ((li τ xs).st e2 rv))
    refine ⟨p, vs, rfl, SqL.of g, fun d hd => ?_⟩
    have e4 := Step.own (o := .lst (cutV vs lo hi)) e3.s hd
    exact q d _ Z4 _ (((e.trans e2).trans e3).trans e4.pure) (M.pure e4 m3) (same_x ((e.trans e2).trans e3) hd) (same_none e3.s hd) upd_same (t.cut lo hi) (Nat.le_trans (cutA_len _ _ _) l)
/-- a tuple's slice: the whole is the tuple itself -/
def rSlW (K : PySem.W.Frag) : V → Option Int → Option Int → Hp → VK → Prop := fun x lo hi H Q => ∃ a xs, x = .ref a ∧ SqT K H a xs ∧
  ((HT.sIx xs.length 0 lo = 0 ∧ HT.sIx xs.length xs.length hi = xs.length) → Q (.ref a) H) ∧ (¬ (HT.sIx xs.length 0 lo = 0 ∧ HT.sIx xs.length xs.length hi = xs.length) → ∀ p, H p = none → Q (.ref p) (upd H p (.tup (cutV xs lo hi))))
theorem ev_slT {α : Type} {τ : Ty α} {xs : List α} {tl th : TO} {lo hi : Option Int} (ha : Ev M ta σ Z H s (ty (yTup K τ) xs) s1) (hl : EvO M tl σ Z H s1 lo s2) (hh : EvO M th σ Z H s2 hi s3) : Ev M (tSl (rSlW K) ta tl th) σ Z H s (ty (yTup K τ) (cutA xs lo hi)) s3 :=
  ev_slice ha hl hh fun _ _ _ sz ⟨p, vs, e, g, t, l⟩ _ q => by
    subst e
    refine ⟨p, vs, rfl, seqT_same sz g, fun w => q _ _ _ (Step.refl sz) ⟨p, vs, rfl, g, ?_, Nat.le_trans (cutA_len _ _ _) l⟩, fun _ d hd => q _ _ _ (Step.new sz hd) ⟨d, _, rfl, sqT_new, (t.cut lo hi).imp fun _ _ => τ.mono (same_upd (same_none sz hd)), Nat.le_trans (cutA_len _ _ _) l⟩⟩
    have c := t.cut lo hi
    have e : cutV vs lo hi = vs := by
      unfold cutV
      rw [w.1, w.2, List.drop_zero, Nat.sub_zero, List.take_length]
    rw [e] at c
    exact c
/-! ### sums and the like -/
theorem ev_sum {xs : List Int} (ha : Ev M ta σ Z H s (li yInt xs) s1) : Ev M (tCB (rSum K) (tCons ta tNil)) σ Z H s (ty yInt xs.sum) s1 :=
  ev_cb (eva_cons ha eva_nil) fun _ _ _ sz ⟨v, r, e, h, e2⟩ _ q => by
    cases e2; cases e
    obtain ⟨p, vs, rfl, g, t, _⟩ := rdl sz h
    rw [t.ints] at g
    exact ⟨p, xs, rfl, SqL.of g, q _ _ _ (Step.refl sz) rfl⟩
theorem ev_anyL {xs : List Bool} (ha : Ev M ta σ Z H s (li yBool xs) s1) : Ev M (tCB (rAny K) (tCons ta tNil)) σ Z H s (ty yBool (xs.any id)) s1 :=
  ev_cb (eva_cons ha eva_nil) fun _ _ _ sz ⟨v, r, e, h, e2⟩ _ q => by
    cases e2; cases e
    obtain ⟨p, vs, rfl, g, t, _⟩ := rdl sz h
    rw [t.bls] at g
    exact ⟨p, xs, rfl, SqL.of g, q _ _ _ (Step.refl sz) rfl⟩
theorem ev_allL {xs : List Bool} (ha : Ev M ta σ Z H s (li yBool xs) s1) : Ev M (tCB (rAll K) (tCons ta tNil)) σ Z H s (ty yBool (xs.all id)) s1 :=
  ev_cb (eva_cons ha eva_nil) fun _ _ _ sz ⟨v, r, e, h, e2⟩ _ q => by
    cases e2; cases e
    obtain ⟨p, vs, rfl, g, t, _⟩ := rdl sz h
    rw [t.bls] at g
    exact ⟨p, xs, rfl, SqL.of g, q _ _ _ (Step.refl sz) rfl⟩
def maxZ : List Int → Option Int
  | [] => none
  | x :: xs => some (xs.foldl max x)
def minZ : List Int → Option Int
  | [] => none
  | x :: xs => some (xs.foldl min x)
theorem foldl_max_of : ∀ (xs : List Int) (x m : Int), m ∈ x :: xs → (∀ y ∈ x :: xs, y ≤ m) → m = xs.foldl max x
  | [], x, m, h, _ => by simpa using h
  | y :: r, x, m, h, g => by
    refine foldl_max_of r (max x y) m ?_ (fun z hz => ?_)
    · have hx := g x (by simp)
      have hy := g y (by simp)
      rcases List.mem_cons.mp h with e | h
      · have : max x y = m := by omega
        rw [this]; exact List.mem_cons_self
      · rcases List.mem_cons.mp h with e | h
        · have : max x y = m := by omega
          rw [this]; exact List.mem_cons_self
        · exact List.mem_cons_of_mem _ h
    · rcases List.mem_cons.mp hz with e | hz
      · have hx := g x (by simp)
        have hy := g y (by simp)
        omega
      · exact g z (by simp [hz])
theorem foldl_min_of : ∀ (xs : List Int) (x m : Int), m ∈ x :: xs → (∀ y ∈ x :: xs, m ≤ y) → m = xs.foldl min x
  | [], x, m, h, _ => by simpa using h
  | y :: r, x, m, h, g => by
    refine foldl_min_of r (min x y) m ?_ (fun z hz => ?_)
    · have hx := g x (by simp)
      have hy := g y (by simp)
      rcases List.mem_cons.mp h with e | h
      · have : min x y = m := by omega
        rw [this]; exact List.mem_cons_self
      · rcases List.mem_cons.mp h with e | h
        · have : min x y = m := by omega
          rw [this]; exact List.mem_cons_self
        · exact List.mem_cons_of_mem _ h
    · rcases List.mem_cons.mp hz with e | hz
      · have hx := g x (by simp)
        have hy := g y (by simp)
        omega
      · exact g z (by simp [hz])
theorem ev_maxL {xs : List Int} {m : Int} (ha : Ev M ta σ Z H s (li yInt xs) s1) (e : maxZ xs = some m) : Ev M (tCB (rMax K) (tCons ta tNil)) σ Z H s (ty yInt m) s1 :=
  ev_cb (eva_cons ha eva_nil) fun _ _ _ sz ⟨v, r, e1, h, e2⟩ _ q => by
    cases e2; cases e1
    obtain ⟨p, vs, rfl, g, t, _⟩ := rdl sz h
    rw [t.ints] at g
    cases xs with
    | nil => cases e
    | cons x r =>
      refine ⟨p, x :: r, rfl, SqL.of g, Nat.succ_pos _, fun n hn hg => q _ _ _ (Step.refl sz) ?_⟩
      rw [foldl_max_of r x n hn hg, ← Option.some.inj (e : some (r.foldl max x) = some m)]
      rfl
theorem ev_minL {xs : List Int} {m : Int} (ha : Ev M ta σ Z H s (li yInt xs) s1) (e : minZ xs = some m) : Ev M (tCB (rMin K) (tCons ta tNil)) σ Z H s (ty yInt m) s1 :=
  ev_cb (eva_cons ha eva_nil) fun _ _ _ sz ⟨v, r, e1, h, e2⟩ _ q => by
    cases e2; cases e1
    obtain ⟨p, vs, rfl, g, t, _⟩ := rdl sz h
    rw [t.ints] at g
    cases xs with
    | nil => cases e
    | cons x r =>
      refine ⟨p, x :: r, rfl, SqL.of g, Nat.succ_pos _, fun n hn hg => q _ _ _ (Step.refl sz) ?_⟩
      rw [foldl_min_of r x n hn hg, ← Option.some.inj (e : some (r.foldl min x) = some m)]
      rfl
theorem ev_max2 {i j : Int} (ha : Ev M ta σ Z H s (ty yInt i) s1) (hb : Ev M tb σ Z H s1 (ty yInt j) s2) : Ev M (tCB (fun xs H Q => ∃ i j, xs = [.int i, .int j] ∧ Q (.int (if j > i then j else i)) H) (tCons ta (tCons tb tNil))) σ Z H s (ty yInt (max i j)) s2 :=
  ev_cb (eva_cons ha (eva_cons hb eva_nil)) fun _ _ _ sz ⟨v, r, e1, h, w, r2, e2, h2, e3⟩ _ q => by
    cases e3; cases e2; cases e1; cases h; cases h2
    refine ⟨i, j, rfl, q _ _ _ (Step.refl sz) ?_⟩
    show V.int _ = V.int _
    by_cases c : j > i
    · rw [if_pos c, Int.max_eq_right (by omega)]
    · rw [if_neg c, Int.max_eq_left (by omega)]
theorem ev_min2 {i j : Int} (ha : Ev M ta σ Z H s (ty yInt i) s1) (hb : Ev M tb σ Z H s1 (ty yInt j) s2) : Ev M (tCB (fun xs H Q => ∃ i j, xs = [.int i, .int j] ∧ Q (.int (if j < i then j else i)) H) (tCons ta (tCons tb tNil))) σ Z H s (ty yInt (min i j)) s2 :=
  ev_cb (eva_cons ha (eva_cons hb eva_nil)) fun _ _ _ sz ⟨v, r, e1, h, w, r2, e2, h2, e3⟩ _ q => by
    cases e3; cases e2; cases e1; cases h; cases h2
    refine ⟨i, j, rfl, q _ _ _ (Step.refl sz) ?_⟩
    show V.int _ = V.int _
    by_cases c : j < i
    · rw [if_pos c, Int.min_eq_right (by omega)]
    · rw [if_neg c, Int.min_eq_left (by omega)]
theorem ev_int_of {i : Int} (ha : Ev M ta σ Z H s (ty yInt i) s1) : Ev M (tCB (fun xs H Q => (∃ i, xs = [.int i] ∧ Q (.int i) H) ∨ ∃ k, xs = [.bl k] ∧ Q (.int (if k then 1 else 0)) H) (tCons ta tNil)) σ Z H s (ty yInt i) s1 :=
  ev_cb (eva_cons ha eva_nil) fun _ _ _ sz ⟨v, r, e1, h, e2⟩ _ q => by
    cases e2; cases e1; cases h
    exact .inl ⟨i, rfl, q _ _ _ (Step.refl sz) rfl⟩
/-! ### in -/
/-- flat, and its equality is the thing's -/
structure FlatI {α : Type} (τ : Ty α) (f : α → V) : Prop where
  flat : Flat τ f
  fl : ∀ x, flatV (f x) = true
  eqv : ∀ x y, eqV (f x) (f y) = true ↔ x = y
theorem fi_int : FlatI yInt V.int := ⟨flat_int, fun _ => rfl, fun x y => by show (x == y) = true ↔ _; exact beq_iff_eq⟩
theorem fi_str : FlatI yStr V.str := ⟨flat_str, fun _ => rfl, fun x y => by show (x == y) = true ↔ _; exact beq_iff_eq⟩
theorem fi_bool : FlatI yBool V.bl := ⟨flat_bool, fun _ => rfl, fun x y => by show (x == y) = true ↔ _; exact beq_iff_eq⟩
section
variable {α : Type} [DecidableEq α] {τ : Ty α} {f : α → V} {x : α} {xs : List α}
theorem inV_map (F : FlatI τ f) : inV (f x) (xs.map f) = decide (x ∈ xs) := by
  unfold inV
  rw [List.any_map]
  apply Bool.eq_iff_iff.mpr
  rw [List.any_eq_true, decide_eq_true_iff]
  constructor
  · rintro ⟨y, hy, e⟩
    rw [← (F.eqv y x).mp e]; exact hy
  · exact fun h => ⟨x, h, (F.eqv x x).mpr rfl⟩
theorem flat_map (F : FlatI τ f) : (xs.map f).all flatV = true := by
  rw [List.all_map]
  exact List.all_eq_true.mpr fun y _ => F.fl y
theorem ev_in (F : FlatI τ f) (ha : Ev M ta σ Z H s (ty τ x) s1) (hb : Ev M tb σ Z H s1 (li τ xs) s2) : Ev M (tOp (rIn K false) ta tb) σ Z H s (ty yBool (decide (x ∈ xs))) s2 :=
  ev_op ha hb fun _ _ _ _ sz e1 e2 _ q => by
    obtain ⟨p, vs, rfl, g, t, _⟩ := rdl sz e2
    have ev := t.map (F.flat.eq _); subst ev
    rw [F.flat.eq _ _ _ e1]
    exact ⟨p, _, rfl, .inl (SqL.of g), F.fl x, flat_map F, q _ _ _ (Step.refl sz) (congrArg V.bl (inV_map F))⟩
theorem ev_notin (F : FlatI τ f) (ha : Ev M ta σ Z H s (ty τ x) s1) (hb : Ev M tb σ Z H s1 (li τ xs) s2) : Ev M (tOp (rIn K true) ta tb) σ Z H s (ty yBool (!decide (x ∈ xs))) s2 :=
  ev_op ha hb fun _ _ _ _ sz e1 e2 _ q => by
    obtain ⟨p, vs, rfl, g, t, _⟩ := rdl sz e2
    have ev := t.map (F.flat.eq _); subst ev
    rw [F.flat.eq _ _ _ e1]
    exact ⟨p, _, rfl, .inl (SqL.of g), F.fl x, flat_map F, q _ _ _ (Step.refl sz) (congrArg (fun b => V.bl (!b)) (inV_map F))⟩
theorem ev_inT (F : FlatI τ f) (ha : Ev M ta σ Z H s (ty τ x) s1) (hb : Ev M tb σ Z H s1 (ty (yTup K τ) xs) s2) : Ev M (tOp (rIn K false) ta tb) σ Z H s (ty yBool (decide (x ∈ xs))) s2 :=
  ev_op ha hb fun _ _ _ _ sz e1 ⟨p, vs, e, g, t, _⟩ _ q => by
    subst e
    have ev := t.map (F.flat.eq _); subst ev
    rw [F.flat.eq _ _ _ e1]
    exact ⟨p, _, rfl, .inr (seqT_same sz g), F.fl x, flat_map F, q _ _ _ (Step.refl sz) (congrArg V.bl (inV_map F))⟩
theorem ev_notinT (F : FlatI τ f) (ha : Ev M ta σ Z H s (ty τ x) s1) (hb : Ev M tb σ Z H s1 (ty (yTup K τ) xs) s2) : Ev M (tOp (rIn K true) ta tb) σ Z H s (ty yBool (!decide (x ∈ xs))) s2 :=
  ev_op ha hb fun _ _ _ _ sz e1 ⟨p, vs, e, g, t, _⟩ _ q => by
    subst e
    have ev := t.map (F.flat.eq _); subst ev
    rw [F.flat.eq _ _ _ e1]
    exact ⟨p, _, rfl, .inr (seqT_same sz g), F.fl x, flat_map F, q _ _ _ (Step.refl sz) (congrArg (fun b => V.bl (!b)) (inV_map F))⟩
end
end
end TP

namespace TP
open PySem PySem.Spec PyProof.Rows L2
section
variable {μ : Type} {M : Mu μ} {σ : L2.St} {Z H : Hp} {s s' s1 s2 s3 : μ} {ta tb tc te : TE} {t : TA} {K : PySem.W.Frag}
/-! ### equality of data -/
structure EqD (K : PySem.W.Frag) {α : Type} (τ : Ty α) (d : α → PyData) (n : Nat) : Prop where
  dp : ∀ Z H v x, Same Z H → τ.r Z v x → Dp K H v (d x)
  lay : ∀ Z v x, τ.r Z v x → (d x).canLay0 = true
  dep : ∀ x, (d x).depth ≤ n
  eqv : ∀ x y, PyData.eqv (d x) (d y) = true ↔ x = y
theorem eqd_int : EqD K yInt PyData.int 0 := ⟨fun _ _ _ x _ h => by cases h; exact .int x, fun _ _ _ _ => rfl, fun _ => Nat.le_refl _, fun x y => by simp [PyData.eqv]⟩
theorem eqd_bool : EqD K yBool PyData.bool 0 := ⟨fun _ _ _ x _ h => by cases h; exact .bl x, fun _ _ _ _ => rfl, fun _ => Nat.le_refl _, fun x y => by simp [PyData.eqv]⟩
theorem eqd_str : EqD K yStr PyData.str 0 := ⟨fun _ _ _ x _ h => by rw [h.1]; exact .str x, fun _ _ x h => by
  have := (Bool.and_eq_true_iff.mp (show (PyData.strOk x && decide (x.length ≤ sizeLine)) = true from h.2)).1
  simpa [PyData.canLay0] using this, fun _ => Nat.le_refl _, fun x y => by simp [PyData.eqv]⟩
theorem eqd_non : EqD K yNon (fun _ => PyData.none) 0 := ⟨fun _ _ _ x _ h => by cases h; exact .non, fun _ _ _ _ => rfl, fun _ => Nat.le_refl _, fun x y => by simp [PyData.eqv]⟩
section
variable {α β γ δ : Type} {τ : Ty α} {υ : Ty β} {φ : Ty γ} {ψ : Ty δ} {d : α → PyData} {e : β → PyData} {f : γ → PyData} {g : δ → PyData} {n m k l : Nat}
theorem EqD.all (E : EqD K τ d n) {Z H : Hp} (sz : Same Z H) : ∀ {vs : List V} {xs : List α}, All (τ.r Z) vs xs → DpAll K H vs (xs.map d)
  | _, _, .nil => .nil
  | _, _, .cons h t => .cons (E.dp _ _ _ _ sz h) (E.all sz t)
theorem EqD.lays (E : EqD K τ d n) {Z : Hp} : ∀ {vs : List V} {xs : List α}, All (τ.r Z) vs xs → PyData.canLayAll0 (xs.map d) = true
  | _, _, .nil => by simp [PyData.canLayAll0]
  | _, _, .cons h t => by
    have h1 := E.lay _ _ _ h
    have h2 := E.lays t
    simp [PyData.canLayAll0, h1, h2]
theorem EqD.deps (E : EqD K τ d n) : ∀ xs : List α, PyData.depthAll (xs.map d) ≤ n
  | [] => by simp [PyData.depthAll]
  | x :: r => by
    have h1 := E.dep x
    have h2 := E.deps r
    simp only [List.map_cons, PyData.depthAll]
    omega
theorem EqD.eqvs (E : EqD K τ d n) : ∀ xs ys : List α, PyData.eqvAll (xs.map d) (ys.map d) = true ↔ xs = ys
  | [], [] => by simp [PyData.eqvAll]
  | [], _ :: _ => by simp [PyData.eqvAll]
  | _ :: _, [] => by simp [PyData.eqvAll]
  | x :: xs, y :: ys => by
    simp only [List.map_cons, PyData.eqvAll, Bool.and_eq_true, E.eqv x y, E.eqvs xs ys, List.cons.injEq]
theorem eqd_list (E : EqD K τ d n) : EqD K (yList τ) (fun xs => .list (xs.map d)) (n + 1) where
  dp := fun Z H v x sz ⟨a, vs, e, h, t, _⟩ => by subst e; exact .lst (SqL.of (sz _ _ h)) (E.all sz t)
  lay := fun Z v x ⟨a, vs, e, h, t, _⟩ => by simpa [PyData.canLay0] using E.lays t
  dep := fun x => by have := E.deps x; simp only [PyData.depth]; omega
  eqv := fun x y => by simp only [PyData.eqv]; exact E.eqvs x y
theorem eqd_tup (E : EqD K τ d n) : EqD K (yTup K τ) (fun xs => .tuple (xs.map d)) (n + 1) where
  dp := fun Z H v x sz ⟨a, vs, e, h, t, _⟩ => by subst e; exact .tup (seqT_same sz h) (E.all sz t)
  lay := fun Z v x ⟨a, vs, e, h, t, _⟩ => by simpa [PyData.canLay0] using E.lays t
  dep := fun x => by have := E.deps x; simp only [PyData.depth]; omega
  eqv := fun x y => by simp only [PyData.eqv]; exact E.eqvs x y
theorem eqd_p1 (E : EqD K τ d n) : EqD K (yP1 K τ) (fun x => .tuple [d x]) (n + 1) where
  dp := fun Z H v x sz ⟨a, v1, e, h, h1⟩ => by subst e; exact .tup (seqT_same sz h) (.cons (E.dp _ _ _ _ sz h1) .nil)
  lay := fun Z v x ⟨a, v1, e, h, h1⟩ => by simp [PyData.canLay0, PyData.canLayAll0, E.lay _ _ _ h1]
  dep := fun x => by have := E.dep x; simp only [PyData.depth, PyData.depthAll]; omega
  eqv := fun x y => by simp only [PyData.eqv, PyData.eqvAll, Bool.and_true]; exact E.eqv x y
theorem eqd_p2 (E : EqD K τ d n) (F : EqD K υ e m) : EqD K (yP2 K τ υ) (fun x => .tuple [d x.1, e x.2]) (max n m + 1) where
  dp := fun Z H v x sz ⟨a, v1, v2, e, h, h1, h2⟩ => by subst e; exact .tup (seqT_same sz h) (.cons (E.dp _ _ _ _ sz h1) (.cons (F.dp _ _ _ _ sz h2) .nil))
  lay := fun Z v x ⟨a, v1, v2, e, h, h1, h2⟩ => by simp [PyData.canLay0, PyData.canLayAll0, E.lay _ _ _ h1, F.lay _ _ _ h2]
  dep := fun x => by have := E.dep x.1; have := F.dep x.2; simp only [PyData.depth, PyData.depthAll]; omega
  eqv := fun x y => by
    simp only [PyData.eqv, PyData.eqvAll, Bool.and_true, Bool.and_eq_true, E.eqv, F.eqv]
    exact Prod.ext_iff.symm
theorem eqd_p3 (E : EqD K τ d n) (F : EqD K υ e m) (G : EqD K φ f k) : EqD K (yP3 K τ υ φ) (fun x => .tuple [d x.1, e x.2.1, f x.2.2]) (max n (max m k) + 1) where
  dp := fun Z H v x sz ⟨a, v1, v2, v3, e, h, h1, h2, h3⟩ => by subst e; exact .tup (seqT_same sz h) (.cons (E.dp _ _ _ _ sz h1) (.cons (F.dp _ _ _ _ sz h2) (.cons (G.dp _ _ _ _ sz h3) .nil)))
  lay := fun Z v x ⟨a, v1, v2, v3, e, h, h1, h2, h3⟩ => by simp [PyData.canLay0, PyData.canLayAll0, E.lay _ _ _ h1, F.lay _ _ _ h2, G.lay _ _ _ h3]
  dep := fun x => by have := E.dep x.1; have := F.dep x.2.1; have := G.dep x.2.2; simp only [PyData.depth, PyData.depthAll]; omega
  eqv := fun x y => by
    simp only [PyData.eqv, PyData.eqvAll, Bool.and_true, Bool.and_eq_true, E.eqv, F.eqv, G.eqv]
    rw [Prod.ext_iff, Prod.ext_iff]
theorem eqd_p4 (E : EqD K τ d n) (F : EqD K υ e m) (G : EqD K φ f k) (I : EqD K ψ g l) : EqD K (yP4 K τ υ φ ψ) (fun x => .tuple [d x.1, e x.2.1, f x.2.2.1, g x.2.2.2]) (max n (max m (max k l)) + 1) where
  dp := fun Z H v x sz ⟨a, v1, v2, v3, v4, e, h, h1, h2, h3, h4⟩ => by subst e; exact .tup (seqT_same sz h) (.cons (E.dp _ _ _ _ sz h1) (.cons (F.dp _ _ _ _ sz h2) (.cons (G.dp _ _ _ _ sz h3) (.cons (I.dp _ _ _ _ sz h4) .nil))))
  lay := fun Z v x ⟨a, v1, v2, v3, v4, e, h, h1, h2, h3, h4⟩ => by simp [PyData.canLay0, PyData.canLayAll0, E.lay _ _ _ h1, F.lay _ _ _ h2, G.lay _ _ _ h3, I.lay _ _ _ h4]
  dep := fun x => by have := E.dep x.1; have := F.dep x.2.1; have := G.dep x.2.2.1; have := I.dep x.2.2.2; simp only [PyData.depth, PyData.depthAll]; omega
  eqv := fun x y => by
    simp only [PyData.eqv, PyData.eqvAll, Bool.and_true, Bool.and_eq_true, E.eqv, F.eqv, G.eqv, I.eqv]
    rw [Prod.ext_iff, Prod.ext_iff, Prod.ext_iff]
def optD (d : α → PyData) : Option α → PyData
  | none => .none
  | some x => d x
theorem eqv_none : ∀ c : PyData, PyData.eqv .none c = true ↔ c = .none
  | .none => by simp [PyData.eqv]
  | .bool _ => by simp [PyData.eqv]
  | .int _ => by simp [PyData.eqv]
  | .str _ => by simp [PyData.eqv]
  | .list _ => by simp [PyData.eqv]
  | .tuple _ => by simp [PyData.eqv]
  | .dict _ => by simp [PyData.eqv]
theorem none_eqv : ∀ c : PyData, PyData.eqv c .none = true ↔ c = .none
  | .none => by simp [PyData.eqv]
  | .bool _ => by simp [PyData.eqv]
  | .int _ => by simp [PyData.eqv]
  | .str _ => by simp [PyData.eqv]
  | .list _ => by simp [PyData.eqv]
  | .tuple _ => by simp [PyData.eqv]
  | .dict _ => by simp [PyData.eqv]
theorem eqd_opt (E : EqD K τ d n) (nn : ∀ x, d x ≠ .none) : EqD K (yOpt τ) (optD d) n where
  dp := fun Z H v x sz h => match x, h with
    | none, h => by rw [show v = .non from h]; exact .non
    | some x, h => E.dp _ _ _ _ sz h.1
  lay := fun Z v x h => match x, h with
    | none, h => rfl
    | some x, h => E.lay _ _ _ h.1
  dep := fun x => match x with
    | none => Nat.zero_le _
    | some x => E.dep x
  eqv := fun x y => match x, y with
    | none, none => by simp [optD, PyData.eqv]
    | none, some y => by simp [optD, eqv_none, nn y]
    | some x, none => by simp [optD, none_eqv, nn x]
    | some x, some y => by simp [optD, E.eqv x y]
end
/-- the value is read as the data d -/
def GD {fp : List Addr} (K : PySem.W.Frag) (R : Rr fp) (d : PyData) : Prop := ∀ Z H v, Same Z H → R.r Z H v → Dp K H v d ∧ d.canLay0 = true
theorem EqD.gd {fp : List Addr} {α : Type} {τ : Ty α} {d : α → PyData} {n : Nat} (E : EqD K τ d n) (x : α) : GD K (ty (fp := fp) τ x) (d x) := fun _ _ _ sz h => ⟨E.dp _ _ _ _ sz h, E.lay _ _ _ h⟩
theorem EqD.gdl {fp : List Addr} {α : Type} {τ : Ty α} {d : α → PyData} {n : Nat} (E : EqD K τ d n) (xs : List α) : GD K (li (fp := fp) τ xs) (.list (xs.map d)) := fun _ _ _ sz h => by
  obtain ⟨p, vs, rfl, g, t, _⟩ := rdl sz h
  exact ⟨.lst (SqL.of g) (E.all sz t), by simpa [PyData.canLay0] using E.lays t⟩
theorem shaped_of {d : PyData} {n : Nat} (h : d.canLay0 = true) (l : d.depth ≤ n) (hn : n ≤ 64) : SeqAt.shaped d = true := by
  unfold SeqAt.shaped
  rw [h, Bool.true_and]
  exact decide_eq_true (by omega)
theorem ev_eqG {R R' : Rr M.fp} {c c' : PyData} {P : Prop} [Decidable P] (hc : PyData.eqv c c' = true ↔ P) (G : GD K R c) (G' : GD K R' c') (l : c.depth ≤ 64) (l' : c'.depth ≤ 64) (ha : Ev M ta σ Z H s R s1) (hb : Ev M tb σ Z H s1 R' s2) : Ev M (tOp (rEqD K) ta tb) σ Z H s (ty yBool (decide P)) s2 :=
  ev_op ha hb fun _ _ _ _ sz e1 e2 _ q => by
    obtain ⟨d1, k1⟩ := G _ _ _ sz e1
    obtain ⟨d2, k2⟩ := G' _ _ _ sz e2
    exact ⟨c, c', d1, d2, shaped_of k1 l (Nat.le_refl _), shaped_of k2 l' (Nat.le_refl _), q _ _ _ (Step.refl sz) (congrArg V.bl (Bool.eq_iff_iff.mpr (hc.trans decide_eq_true_iff.symm)))⟩
theorem ev_neG {R R' : Rr M.fp} {c c' : PyData} {P : Prop} [Decidable P] (hc : PyData.eqv c c' = true ↔ P) (G : GD K R c) (G' : GD K R' c') (l : c.depth ≤ 64) (l' : c'.depth ≤ 64) (ha : Ev M ta σ Z H s R s1) (hb : Ev M tb σ Z H s1 R' s2) : Ev M (tOp (rNeD K) ta tb) σ Z H s (ty yBool (!decide P)) s2 :=
  ev_op ha hb fun _ _ _ _ sz e1 e2 _ q => by
    obtain ⟨d1, k1⟩ := G _ _ _ sz e1
    obtain ⟨d2, k2⟩ := G' _ _ _ sz e2
    exact ⟨c, c', d1, d2, shaped_of k1 l (Nat.le_refl _), shaped_of k2 l' (Nat.le_refl _), q _ _ _ (Step.refl sz) (congrArg (fun b => V.bl (!b)) (Bool.eq_iff_iff.mpr (hc.trans decide_eq_true_iff.symm)))⟩
section
variable {α : Type} [DecidableEq α] {τ : Ty α} {d : α → PyData} {n : Nat} {x y : α} {xs ys : List α}
theorem ev_eqD (E : EqD K τ d n) (hn : n ≤ 64) (ha : Ev M ta σ Z H s (ty τ x) s1) (hb : Ev M tb σ Z H s1 (ty τ y) s2) : Ev M (tOp (rEqD K) ta tb) σ Z H s (ty yBool (decide (x = y))) s2 :=
  ev_eqG (E.eqv x y) (E.gd x) (E.gd y) (Nat.le_trans (E.dep x) hn) (Nat.le_trans (E.dep y) hn) ha hb
theorem ev_neD (E : EqD K τ d n) (hn : n ≤ 64) (ha : Ev M ta σ Z H s (ty τ x) s1) (hb : Ev M tb σ Z H s1 (ty τ y) s2) : Ev M (tOp (rNeD K) ta tb) σ Z H s (ty yBool (!decide (x = y))) s2 :=
  ev_neG (E.eqv x y) (E.gd x) (E.gd y) (Nat.le_trans (E.dep x) hn) (Nat.le_trans (E.dep y) hn) ha hb
theorem depL (E : EqD K τ d n) (hn : n + 1 ≤ 64) : (PyData.list (xs.map d)).depth ≤ 64 := by have := E.deps xs; simp only [PyData.depth]; omega
theorem ev_eqL (E : EqD K τ d n) (hn : n + 1 ≤ 64) (ha : Ev M ta σ Z H s (li τ xs) s1) (hb : Ev M tb σ Z H s1 (li τ ys) s2) : Ev M (tOp (rEqD K) ta tb) σ Z H s (ty yBool (decide (xs = ys))) s2 :=
  ev_eqG (by simp only [PyData.eqv]; exact E.eqvs xs ys) (E.gdl xs) (E.gdl ys) (depL E hn) (depL E hn) ha hb
theorem ev_neL (E : EqD K τ d n) (hn : n + 1 ≤ 64) (ha : Ev M ta σ Z H s (li τ xs) s1) (hb : Ev M tb σ Z H s1 (li τ ys) s2) : Ev M (tOp (rNeD K) ta tb) σ Z H s (ty yBool (!decide (xs = ys))) s2 :=
  ev_neG (by simp only [PyData.eqv]; exact E.eqvs xs ys) (E.gdl xs) (E.gdl ys) (depL E hn) (depL E hn) ha hb
end
theorem en_cast {α : Type} {τ : Ty α} {xs ys : List α} (h : EvN M te σ Z H s τ xs s1) (e : xs = ys) : EvN M te σ Z H s τ ys s1 := e ▸ h
theorem ev_chain {i j k : Int} {p r : Int → Int → Bool} (ha : Ev M ta σ Z H s (ty yInt i) s1) (hb : Ev M tb σ Z H s1 (ty yInt j) s1) (hc : Ev M tc σ Z H s1 (ty yInt k) s1) : Ev M (tChain (rI0 fun i j => .bl (p i j)) (rI0 fun i j => .bl (r i j)) ta tb tc) σ Z H s (ty yBool (p i j && r j k)) s1 :=
  fun Z1 H1 a b c d Q q => ha Z1 H1 a b c d _ fun v Z2 H2 e m rv => hb Z2 H2 (a.trans e.z) (b.trans e.h) e.s m _ fun w Z3 H3 e2 m2 rw => ⟨i, j, rv, rw, p i j, rfl, by
    have e3 := e.trans e2
    cases hp : p i j with
    | true => rw [if_pos rfl]; exact hc Z3 H3 (a.trans e3.z) (b.trans e3.h) e3.s m2 _ fun u Z4 H4 e4 m4 ru => ⟨j, k, rw, ru, q _ Z4 H4 (e3.trans e4) m4 (by rw [hp]; rfl)⟩
    | false => rw [if_neg Bool.false_ne_true]; exact q _ Z3 H3 e3 m2 (by rw [hp]; rfl)⟩
theorem ev_chainO {i j k : Int} {b : Bool} {o : Option Bool} {p r : Int → Int → Bool} (ha : Ev M ta σ Z H s (ty yInt i) s1) (hb : Ev M tb σ Z H s1 (ty yInt j) s1) (hc : p i j = true → Ev M tc σ Z H s1 (ty yInt k) s1) : Ev M (tChain (rI0 fun i j => .bl (p i j)) (rI0 fun i j => .bl (r i j)) ta tb tc) σ Z H s (ty yBool (p i j && r j k)) s1 :=
  fun Z1 H1 a b c d Q q => ha Z1 H1 a b c d _ fun v Z2 H2 e m rv => hb Z2 H2 (a.trans e.z) (b.trans e.h) e.s m _ fun w Z3 H3 e2 m2 rw => ⟨i, j, rv, rw, p i j, rfl, by
    have e3 := e.trans e2
    cases hp : p i j with
    | true => rw [if_pos rfl]; exact hc hp Z3 H3 (a.trans e3.z) (b.trans e3.h) e3.s m2 _ fun u Z4 H4 e4 m4 ru => ⟨j, k, rw, ru, q _ Z4 H4 (e3.trans e4) m4 (by rw [hp]; rfl)⟩
    | false => rw [if_neg Bool.false_ne_true]; exact q _ Z3 H3 e3 m2 (by rw [hp]; rfl)⟩
section
variable {a b : Bool} {o o' : Option Bool} {tA tB' tt : TT}
theorem ev_andO (ha : Ev M ta σ Z H s (ty yBool a) s1) (hb : a = true → ∀ y, o = some y → Ev M tb σ Z H s1 (ty yBool y) s1) (h : (if a = true then o else some false) = some b) : Ev M (tAndV ta tb) σ Z H s (ty yBool b) s1 :=
  ev_and (o := o.map fun y => (y, s1)) ha (fun e y s' hy => by obtain ⟨z, hz, e2⟩ := Option.map_eq_some_iff.mp hy; cases e2; exact hb e _ hz) (by
    cases a with
    | true => rw [if_pos rfl] at h ⊢; rw [h]; rfl
    | false => rw [if_neg Bool.false_ne_true] at h ⊢; rw [← Option.some.inj h])
theorem ev_orO (ha : Ev M ta σ Z H s (ty yBool a) s1) (hb : a = false → ∀ y, o = some y → Ev M tb σ Z H s1 (ty yBool y) s1) (h : (if a = true then some true else o) = some b) : Ev M (tOrV ta tb) σ Z H s (ty yBool b) s1 :=
  ev_or (o := o.map fun y => (y, s1)) ha (fun e y s' hy => by obtain ⟨z, hz, e2⟩ := Option.map_eq_some_iff.mp hy; cases e2; exact hb e _ hz) (by
    cases a with
    | false => rw [if_neg Bool.false_ne_true] at h ⊢; rw [h]; rfl
    | true => rw [if_pos rfl] at h ⊢; rw [← Option.some.inj h])
theorem et_andO (ha : EvT M tA σ Z H s a s1) (hb : a = true → ∀ y, o = some y → EvT M tB' σ Z H s1 y s1) (h : (if a = true then o else some false) = some b) : EvT M (tAnd tA tB') σ Z H s b s1 :=
  et_and (o := o.map fun y => (y, s1)) ha (fun e y s' hy => by obtain ⟨z, hz, e2⟩ := Option.map_eq_some_iff.mp hy; cases e2; exact hb e _ hz) (by
    cases a with
    | true => rw [if_pos rfl] at h ⊢; rw [h]; rfl
    | false => rw [if_neg Bool.false_ne_true] at h ⊢; rw [← Option.some.inj h])
theorem et_orO (ha : EvT M tA σ Z H s a s1) (hb : a = false → ∀ y, o = some y → EvT M tB' σ Z H s1 y s1) (h : (if a = true then some true else o) = some b) : EvT M (tOr tA tB') σ Z H s b s1 :=
  et_or (o := o.map fun y => (y, s1)) ha (fun e y s' hy => by obtain ⟨z, hz, e2⟩ := Option.map_eq_some_iff.mp hy; cases e2; exact hb e _ hz) (by
    cases a with
    | false => rw [if_neg Bool.false_ne_true] at h ⊢; rw [h]; rfl
    | true => rw [if_pos rfl] at h ⊢; rw [← Option.some.inj h])
end
/-! ### fields, calls -/
/-- the attribute f of things of this kind -/
def FldOf {α β : Type} (τ : Ty α) (C : Addr) (f : Str) (υ : Ty β) (pr : α → β) : Prop := ∀ Z v x, τ.r Z v x → ∃ a dx fs w, v = .ref a ∧ Z a = some (.ins C dx fs) ∧ fs.lookup f = some w ∧ υ.r Z w (pr x)
theorem ev_fld {α β : Type} {τ : Ty α} {υ : Ty β} {C : Addr} {f : Str} {pr : α → β} {x : α} (F : FldOf τ C f υ pr) (c : Cls K C) (n : NoAttr K C f) (ha : Ev M ta σ Z H s (ty τ x) s1) : Ev M (tFld K ta f) σ Z H s (ty υ (pr x)) s1 :=
  fun Z1 H1 a b c' d Q q => ha Z1 H1 a b c' d _ fun v Z2 H2 e m rv => by
    obtain ⟨p, dx, fs, w, rfl, hp, l, rw'⟩ := F _ _ _ rv
    exact ⟨p, C, dx, fs, w, rfl, e.s _ _ hp, c, n, l, q _ _ _ e m rw'⟩
/-- things of this kind are instances of the class at C without an own attribute m -/
def ObjOf {α : Type} (τ : Ty α) (C : Addr) (m : Str) : Prop := ∀ Z v x, τ.r Z v x → ∃ a dx fs, v = .ref a ∧ Z a = some (.ins C dx fs) ∧ fs.lookup m = none
/-- what a promise gives for arguments of which Rs is true -/
def CallS (M : Mu μ) (sp : Sp) (E : XK) (Rs : Ra M.fp) (s : μ) (R : Rr M.fp) (s' : μ) : Prop :=
  ∀ Z H vs, Same Z H → M.m s Z H → Rs.r Z H vs → ∀ Q : VK, (∀ v Z2 H2, Step M.fp Z H Z2 H2 → M.m s' Z2 H2 → R.r Z2 H2 v → Q v H2) → sp vs H Q E
theorem ev_call {sp : Sp} {E : XK} {Rs : Ra M.fp} {R : Rr M.fp} (C : CallS M sp E Rs s1 R s2) (ha : EvA M t σ Z H s Rs s1) : Ev M (tCall sp [] E t) σ Z H s R s2 :=
  fun Z1 H1 a b c d Q q => ha Z1 H1 a b c d _ fun vs Z2 H2 e m rs => by
    rw [List.append_nil]
    exact C Z2 H2 vs e.s m rs Q fun v Z3 H3 e2 m2 rv => q v Z3 H3 (e.trans e2) m2 rv
theorem ev_meth {α : Type} {τ : Ty α} {x : α} {C' : Addr} {m : Str} {sp : Sp} {E : XK} {Rs : Ra M.fp} {R : Rr M.fp} (O : ObjOf τ C' m) (C : CallS M sp E (rac (ty τ x) Rs) s2 R s3) (hx : Ev M ta σ Z H s (ty τ x) s1) (ha : EvA M t σ Z H s1 Rs s2) : Ev M (tMeth C' m sp [] E ta t) σ Z H s R s3 :=
  fun Z1 H1 a b c d Q q => hx Z1 H1 a b c d _ fun v Z2 H2 e mm rv => by
    obtain ⟨p, dx, fs, rfl, hp, l⟩ := O _ _ _ rv
    refine ⟨p, dx, fs, rfl, e.s _ _ hp, l, ha Z2 H2 (a.trans e.z) (b.trans e.h) e.s mm _ fun vs Z3 H3 e2 m2 rs => ?_⟩
    rw [List.append_nil]
    exact C Z3 H3 _ e2.s m2 ⟨_, vs, rfl, τ.mono e2.z rv, rs⟩ Q fun v Z4 H4 e3 m3 rv' => q v Z4 H4 ((e.trans e2).trans e3) m3 rv'
theorem ev_meth0 {α : Type} {τ : Ty α} {x : α} {C' : Addr} {m : Str} {sp : Sp} {E : XK} {R : Rr M.fp} (O : ObjOf τ C' m) (C : CallS M sp E (rac (ty τ x) ra0) s1 R s2) (hx : Ev M ta σ Z H s (ty τ x) s1) : Ev M (tMeth C' m sp [] E ta tNil) σ Z H s R s2 := ev_meth O C hx eva_nil
theorem ev_prop {α : Type} {τ : Ty α} {x : α} {C' : Addr} {m : Str} {sp : Sp} {E : XK} {R : Rr M.fp} (O : ObjOf τ C' m) (C : CallS M sp E (rac (ty τ x) ra0) s1 R s2) (hx : Ev M ta σ Z H s (ty τ x) s1) : Ev M (tProp C' sp [] E ta) σ Z H s R s2 :=
  fun Z1 H1 a b c d Q q => hx Z1 H1 a b c d _ fun v Z2 H2 e mm rv => by
    obtain ⟨p, dx, fs, rfl, hp, l⟩ := O _ _ _ rv
    exact ⟨p, dx, fs, rfl, e.s _ _ hp, C Z2 H2 _ e.s mm ⟨_, [], rfl, rv, rfl⟩ Q fun v Z4 H4 e3 m3 rv' => q v Z4 H4 (e.trans e3) m3 rv'⟩
/-- what the __init__ of the class at C makes of a new instance: a thing of which R is true -/
def InitS (M : Mu μ) (C : Addr) (sp : Sp) (E : XK) (Rs : Ra M.fp) (s : μ) (R : Rr M.fp) (s' : μ) : Prop :=
  ∀ Z H vs x dx, Same Z H → M.m s Z H → Rs.r Z H vs → H x = some (.ins C dx []) → Z x = none → x ∉ M.fp → ∀ Q : VK, (∀ Z2 H2 o, Step (x :: M.fp) Z H Z2 H2 → M.m s' Z2 H2 → H2 x = some o → R.r (upd Z2 x o) H2 (.ref x) → Q .non H2) → sp (.ref x :: vs) H Q E
theorem Step.dict {Z H : Hp} {x dx C : Addr} (sz : Same Z H) (hx : H x = none) (hd : H dx = none) (ne : dx ≠ x) : Step [] Z H Z (upd (upd H dx (.own x)) x (.ins C dx [])) :=
  (Step.own sz hd).trans (Step.own (Step.own sz hd).s (by rw [upd_ne ne.symm]; exact hx))
theorem Step.freeze {S : List Addr} {Z H Z1 H1 : Hp} {x : Addr} {o : HO} (g : Step (x :: S) Z H Z1 H1) (hx : H x = none) (h1 : H1 x = some o) (hz : Z1 x = none) : Step S Z H (upd Z1 x o) H1 := by
  have g' : Step S Z H Z1 H1 := g.weak fun a h => by
    rcases List.mem_cons.mp h with e | h
    · exact .inr (e ▸ hx)
    · exact .inl h
  refine ⟨g'.z.trans (same_upd hz), fun a u e => ?_, g'.h, fun a h z => ?_, g'.al⟩
  · by_cases q : a = x
    · subst q; rw [upd_same] at e; rw [← Option.some.inj e]; exact h1
    · rw [upd_ne q] at e; exact g'.s a u e
  · rw [upd_ne (ne_of_some h hx)]; exact g'.n a h z
theorem ev_make {C : Addr} {sp : Sp} {E : XK} {Rs : Ra M.fp} {R : Rr M.fp} (I : InitS M C sp E Rs s1 R s2) (ha : EvA M t σ Z H s Rs s1) : Ev M (tMake C sp [] E t) σ Z H s R s2 :=
  fun Z1 H1 a b c d Q q => ha Z1 H1 a b c d _ fun vs Z2 H2 e m rs x dx hx hd ne => by
    rw [List.append_nil]
    have st := Step.dict (C := C) e.s hx hd ne
    have nf : x ∉ M.fp := fun h => (M.al m x h).1 hx
    refine I Z2 _ vs x dx st.s (M.pure st m) (Rs.st st.pure rs) upd_same (same_none e.s hx) nf _ fun Z3 H3 o e2 m2 ho rv => ⟨rfl, ?_⟩
    have hz3 : Z3 x = none := e2.n x (by rw [upd_same]; exact fun z => nomatch z) (same_none e.s hx)
    have e3 : Step M.fp Z2 H2 (upd Z3 x o) H3 := ((st.pure (S := x :: M.fp)).trans e2).freeze hx ho hz3
    refine q _ _ _ (e.trans e3) (M.loc (same_upd hz3) (fun _ _ _ e => e) (fun a ha _ z => ?_) m2) rv
    rw [upd_ne (fun q => nf (by rw [← q]; exact ha))]
    exact z
theorem ev_makeK {C : Addr} {n k : Nat} {sp : Sp} {E : XK} {Rs Rk Rs' : Ra M.fp} {R : Rr M.fp} {gV : List V → List V → List V} {tk : TA} (I : InitS M C sp E Rs' s2 R s3) (ha : EvA M t σ Z H s Rs s1) (hk : EvA M tk σ Z H s1 Rk s2)
    (hg : ∀ Z H vs zs x, Rs.r Z H vs → Rk.r Z H zs → vs.length = n ∧ zs.length = k ∧ ∃ ws, gV (.ref x :: vs) zs = .ref x :: ws ∧ Rs'.r Z H ws) : Ev M (tMakeK C n k sp gV E t tk) σ Z H s R s3 :=
  fun Z1 H1 a b c d Q q => ha Z1 H1 a b c d _ fun vs Z2 H2 e m rs => hk Z2 H2 (a.trans e.z) (b.trans e.h) e.s m _ fun zs Z3 H3 e1 m1 rk => by
    have rs3 := Rs.st e1 rs
    obtain ⟨l1, l2, _⟩ := hg Z3 H3 vs zs 0 rs3 rk
    refine ⟨l1, l2, fun x dx hx hd ne => ?_⟩
    obtain ⟨_, _, ws, eg, rw'⟩ := hg Z3 H3 vs zs x rs3 rk
    rw [eg]
    have st := Step.dict (C := C) e1.s hx hd ne
    have nf : x ∉ M.fp := fun h => (M.al m1 x h).1 hx
    refine I Z3 _ ws x dx st.s (M.pure st m1) (Rs'.st st.pure rw') upd_same (same_none e1.s hx) nf _ fun Z4 H4 o e2 m2 ho rv => ⟨rfl, ?_⟩
    have hz3 : Z4 x = none := e2.n x (by rw [upd_same]; exact fun z => nomatch z) (same_none e1.s hx)
    have e3 : Step M.fp Z3 H3 (upd Z4 x o) H4 := ((st.pure (S := x :: M.fp)).trans e2).freeze hx ho hz3
    refine q _ _ _ ((e.trans e1).trans e3) (M.loc (same_upd hz3) (fun _ _ _ e => e) (fun a ha _ z => ?_) m2) rv
    rw [upd_ne (fun q => nf (by rw [← q]; exact ha))]
    exact z
/-! ### what is walked -/
/-- the things xs, of the kind τ, one after the other; what stands at F may change meanwhile -/
def WalkT {α : Type} (X : Hp → Hp → Prop) (J : It) (Z H : Hp) (τ : Ty α) (xs : List α) : Prop := xs.length ≤ sizeLine ∧ ∃ G Y, Walk J xs.length G Y ∧ (∀ Z' H', Same Z Z' → Same Z' H' → X H H' → G H') ∧
  ∀ i Z' H' v H'', i < xs.length → Same Z Z' → Same Z' H' → G H' → Y i H' v H'' → ∃ Z'' x, xs[i]? = some x ∧ Step [] Z' H' Z'' H'' ∧ τ.r Z'' v x
def EvI {α : Type} (M : Mu μ) (X : Hp → Hp → Prop) (wi : TI) (σ : L2.St) (Z H : Hp) (s : μ) (τ : Ty α) (xs : List α) (s' : μ) : Prop :=
  ∀ Z1 H1, Same Z Z1 → SameX M.fp H H1 → Same Z1 H1 → M.m s Z1 H1 → ∀ R : It → Hp → Prop, (∀ J Z2 H2, Step M.fp Z1 H1 Z2 H2 → M.m s' Z2 H2 → WalkT X J Z2 H2 τ xs → R J H2) → wi σ H1 R
section
variable {α β : Type} {τ : Ty α} {υ : Ty β} {xs : List α} {X : Hp → Hp → Prop}
theorem walk_at {J : It} {vs : List V} {G : Hp → Prop} (w : Walk J vs.length G (YAt vs)) {Z H : Hp} (hG : ∀ Z' H', Same Z Z' → Same Z' H' → X H H' → G H') (t : All (τ.r Z) vs xs) (l : xs.length ≤ sizeLine) : WalkT X J Z H τ xs := by
  refine ⟨l, G, YAt vs, by rw [← t.len]; exact w, hG, fun i Z' H' v H'' hi z sz _ y => ?_⟩
  obtain ⟨e, y⟩ := y
  subst e
  obtain ⟨x, ex, rx⟩ := t.get y
  exact ⟨Z', x, ex, Step.refl sz, τ.mono z rx⟩
theorem ei_list (ha : Ev M ta σ Z H s (ty (yList τ) xs) s1) : EvI M X (iList K ta) σ Z H s τ xs s1 :=
  fun Z1 H1 a b c d R q => ha Z1 H1 a b c d _ fun v Z2 H2 e m ⟨p, vs, ev, h, t, l⟩ => by
    subst ev
    exact ⟨p, rfl, ⟨vs, SqL.of (e.s _ _ h)⟩, q _ Z2 H2 e m (walk_at walk_list (fun Z' H' z sz _ => SqL.of (sz _ _ (z _ _ h))) t l)⟩
theorem ei_own (ha : Ev M ta σ Z H s (li τ xs) s1) : EvI M (SameX M.fp) (iList K ta) σ Z H s τ xs s1 :=
  fun Z1 H1 a b c d R q => ha Z1 H1 a b c d _ fun v Z2 H2 e m ⟨p, vs, ev, h, t, l⟩ => by
    subst ev
    refine ⟨p, rfl, ⟨vs, SqL.of (h.get e.s)⟩, q _ Z2 H2 e m (walk_at walk_list (fun Z' H' z sz x => ?_) t l)⟩
    rcases h with h | h
    · exact SqL.of (sz _ _ (z _ _ h))
    · exact SqL.of (x _ _ h.2 h.1)
theorem ei_tup (ha : Ev M ta σ Z H s (ty (yTup K τ) xs) s1) : EvI M X (iTup K ta) σ Z H s τ xs s1 :=
  fun Z1 H1 a b c d R q => ha Z1 H1 a b c d _ fun v Z2 H2 e m ⟨p, vs, ev, h, t, l⟩ => by
    subst ev
    exact ⟨p, rfl, ⟨vs, seqT_same e.s h⟩, q _ Z2 H2 e m (walk_at walk_tup (fun Z' H' z sz _ => seqT_same sz (seqT_same z h)) t l)⟩
def rangeZ (lo hi : Int) : List Int := (List.range (hi - lo).toNat).map fun (i : Nat) => lo + (i : Int)
def RangeOk (lo hi : Int) : Prop := (-(2 ^ 62) ≤ lo ∧ lo < 2 ^ 62) ∧ (-(2 ^ 62) ≤ hi ∧ hi < 2 ^ 62) ∧ hi - lo ≤ 16777216
instance {lo hi : Int} : Decidable (RangeOk lo hi) := inferInstanceAs (Decidable (_ ∧ _ ∧ _))
theorem rangeZ_len (lo hi : Int) : (rangeZ lo hi).length = (hi - lo).toNat := by unfold rangeZ; rw [List.length_map, List.length_range]
theorem walk_rng {lo hi : Int} {Z H : Hp} (l : hi - lo ≤ 16777216) : WalkT X (Itr lo (hi - lo).toNat) Z H yInt (rangeZ lo hi) := by
  refine ⟨by rw [rangeZ_len]; show (hi - lo).toNat ≤ 2 ^ 24; omega, fun _ => True, YFn fun i => .int (lo + i), by rw [rangeZ_len]; exact walk_range, fun _ _ _ _ _ => trivial, fun i Z' H' v H'' hi z sz _ y => ?_⟩
  obtain ⟨e, y⟩ := y
  subst e
  rw [rangeZ_len] at hi
  refine ⟨Z', lo + (i : Int), ?_, Step.refl sz, y⟩
  unfold rangeZ
  rw [List.getElem?_map, List.getElem?_range hi]
  rfl
theorem ei_rng1 {i : Int} (ha : Ev M ta σ Z H s (ty yInt i) s1) (h1 : RangeOk 0 i) : EvI M X (iRng1 (tCons ta tNil)) σ Z H s yInt (rangeZ 0 i) s1 :=
  fun Z1 H1 a b c d R q => eva_cons ha eva_nil Z1 H1 a b c d _ fun vs Z2 H2 e m ⟨v, r, e1, h, e2⟩ => by
    cases e2; cases h
    refine ⟨i, e1, h1.2.1.1, h1.2.1.2, q _ Z2 H2 e m ?_⟩
    have := walk_rng (X := X) (lo := 0) (hi := i) (Z := Z2) (H := H2) h1.2.2
    rw [Int.sub_zero] at this
    exact this
theorem ei_rng2 {i j : Int} (ha : Ev M ta σ Z H s (ty yInt i) s1) (hb : Ev M tb σ Z H s1 (ty yInt j) s2) (h1 : RangeOk i j) : EvI M X (iRng2 (tCons ta (tCons tb tNil))) σ Z H s yInt (rangeZ i j) s2 :=
  fun Z1 H1 a b c d R q => eva_cons ha (eva_cons hb eva_nil) Z1 H1 a b c d _ fun vs Z2 H2 e m ⟨v, r, e1, h, w, r2, e3, h3, e2⟩ => by
    cases e2; cases h; cases h3; cases e3
    exact ⟨i, j, e1, ⟨h1.1.1, h1.1.2, h1.2.1.1, h1.2.1.2⟩, q _ Z2 H2 e m (walk_rng h1.2.2)⟩
/-- pairs that are laid turn by turn -/
theorem walk_pairs {ys : List β} {vs ws : List V} {J : It} {G : Hp → Prop} (n : Nat) (hn : n = min vs.length ws.length) (w : Walk J n G (YPair (fun i => vs[i]?) (fun i => ws[i]?))) {Z H : Hp} (hG : ∀ Z' H', Same Z Z' → Same Z' H' → X H H' → G H') (t : All (τ.r Z) vs xs) (u : All (υ.r Z) ws ys) (l : vs.length ≤ sizeLine) : WalkT X J Z H (yP2 K τ υ) (xs.zip ys) := by
  have ln : (xs.zip ys).length = n := by rw [List.length_zip, ← t.len, ← u.len, hn]
  refine ⟨by rw [ln, hn]; omega, G, _, by rw [ln]; exact w, hG, fun i Z' H' v H'' hi z sz _ y => ?_⟩
  obtain ⟨T, v1, v2, rfl, nT, rfl, g1, g2⟩ := y
  obtain ⟨x1, ex1, rx1⟩ := t.get g1
  obtain ⟨x2, ex2, rx2⟩ := u.get g2
  have st := Step.new (o := .tup [v1, v2]) sz nT
  exact ⟨upd Z' T (.tup [v1, v2]), (x1, x2), by rw [List.getElem?_zip_eq_some]; exact ⟨ex1, ex2⟩, st, T, v1, v2, rfl, sqT_new, τ.mono (z.trans st.z) rx1, υ.mono (z.trans st.z) rx2⟩
def enumZ {α : Type} (xs : List α) : List (Int × α) := (rangeZ 0 (xs.length : Nat)).zip xs
theorem enum_rng (n : Nat) (i : Nat) (h : i < n) : ((rangeZ 0 (n : Nat)).map V.int)[i]? = some (.int (i : Nat)) := by
  unfold rangeZ
  rw [List.getElem?_map, List.getElem?_map, List.getElem?_range (by omega)]
  show some (V.int (0 + (i : Int))) = _
  rw [Int.zero_add]
theorem ei_enum (ha : Ev M ta σ Z H s (ty (yList τ) xs) s1) : EvI M X (iEnum K (tCons ta tNil)) σ Z H s (yP2 K yInt τ) (enumZ xs) s1 :=
  fun Z1 H1 a b c d R q => eva_cons ha eva_nil Z1 H1 a b c d _ fun us Z2 H2 e m ⟨v, r, e1, ⟨p, vs, ev, h, t, l⟩, e2⟩ => by
    cases e2; cases ev; cases e1
    refine ⟨p, vs, rfl, SqL.of (e.s _ _ h), q _ Z2 H2 e m ?_⟩
    have hl : ((rangeZ 0 (xs.length : Nat)).map V.int).length = vs.length := by
      rw [List.length_map, rangeZ_len, t.len]; omega
    refine walk_pairs (vs := (rangeZ 0 (xs.length : Nat)).map V.int) (ws := vs) vs.length (by rw [hl]; omega) (walk_enum.mono (fun _ g => g) fun i H v H' hi _ ⟨T, x, y, h1, h2, h3, h4, h5⟩ => ⟨T, x, y, h1, h2, h3, ?_, h5⟩) (fun Z' H' z sz _ => SqL.of (sz _ _ (z _ _ h))) (All.ofInts _) t (by rw [hl, t.len]; exact l)
    show ((rangeZ 0 (xs.length : Nat)).map V.int)[i]? = some x
    rw [enum_rng _ _ (by rw [← t.len]; exact hi)]
    exact h4
theorem ei_str {x : Str} (ha : Ev M ta σ Z H s (ty yStr x) s1) : EvI M X (iStr ta) σ Z H s yStr (x.cps.toList.map fun c => (⟨#[c]⟩ : Str)) s1 :=
  fun Z1 H1 a b c d R q => ha Z1 H1 a b c d _ fun v Z2 H2 e m rv => by
    refine ⟨x, rv.1, q _ Z2 H2 e m ?_⟩
    have ln : (x.cps.toList.map fun c => (⟨#[c]⟩ : Str)).length = x.cps.size := by rw [List.length_map, Array.length_toList]
    have lz : x.cps.size ≤ sizeLine := of_decide_eq_true (Bool.and_eq_true_iff.mp (show (PyData.strOk x && decide (x.length ≤ sizeLine)) = true from rv.2)).2
    refine ⟨by rw [ln]; exact lz, fun _ => True, _, by rw [ln]; exact walk_str, fun _ _ _ _ _ => trivial, fun i Z' H' v H'' hi z sz _ y => ?_⟩
    obtain ⟨e, c, hc, rfl⟩ := y
    subst e
    have hc' : x.cps.toList[i]? = some c := by rw [Array.getElem?_toList]; exact hc
    refine ⟨Z', ⟨#[c]⟩, by rw [List.getElem?_map, hc']; rfl, Step.refl sz, rfl, ?_⟩
    have ok := rv.2
    unfold okS PyData.strOk at ok ⊢
    rw [Bool.and_eq_true] at ok ⊢
    refine ⟨?_, decide_eq_true (by show (#[c] : Array Nat).size ≤ sizeLine; exact (by decide : 1 ≤ sizeLine))⟩
    have h2 := Array.all_eq_true_iff_forall_mem.mp ok.1 c (Array.mem_of_getElem? hc)
    simpa using h2
end
/-! ### list comprehensions -/
/-- the target stores the value: from the slots σ to σ2 -/
def Tgt (g : TG) (v : V) (σ σ2 : L2.St) (Z : Hp) : Prop := ∀ H, Same Z H → ∀ Q : L2.St → Hp → Prop, Q σ2 H → g v σ H Q
theorem tgt_name {i : Nat} {v : V} {σ : L2.St} {Z : Hp} : Tgt (gName i) v σ (σ.set i (some v)) Z := fun _ _ _ q => q
theorem tgt_p2 {α β : Type} {τ : Ty α} {υ : Ty β} {g1 g2 : TG} {v : V} {x : α × β} {Z : Hp} (h : (yP2 K τ υ).r Z v x) : ∃ v1 v2, τ.r Z v1 x.1 ∧ υ.r Z v2 x.2 ∧ ∀ {σ σ1 σ2 : L2.St}, Tgt g1 v1 σ σ1 Z → Tgt g2 v2 σ1 σ2 Z → Tgt (gTup K 2 (gCons g1 (gCons g2 gNil))) v σ σ2 Z := by
  obtain ⟨a, v1, v2, rfl, t, h1, h2⟩ := h
  exact ⟨v1, v2, h1, h2, fun {σ σ1 σ2} t1 t2 H sz Q q => ⟨a, _, rfl, seqT_same sz t, rfl, v1, _, rfl, t1 H sz _ ⟨v2, _, rfl, t2 H sz _ ⟨rfl, q⟩⟩⟩⟩
theorem tgt_p3 {α β γ : Type} {τ : Ty α} {υ : Ty β} {φ : Ty γ} {g1 g2 g3 : TG} {v : V} {x : α × β × γ} {Z : Hp} (h : (yP3 K τ υ φ).r Z v x) : ∃ v1 v2 v3, τ.r Z v1 x.1 ∧ υ.r Z v2 x.2.1 ∧ φ.r Z v3 x.2.2 ∧ ∀ {σ σ1 σ2 σ3 : L2.St}, Tgt g1 v1 σ σ1 Z → Tgt g2 v2 σ1 σ2 Z → Tgt g3 v3 σ2 σ3 Z → Tgt (gTup K 3 (gCons g1 (gCons g2 (gCons g3 gNil)))) v σ σ3 Z := by
  obtain ⟨a, v1, v2, v3, rfl, t, h1, h2, h3⟩ := h
  exact ⟨v1, v2, v3, h1, h2, h3, fun {σ σ1 σ2 σ3} t1 t2 t3 H sz Q q => ⟨a, _, rfl, seqT_same sz t, rfl, v1, _, rfl, t1 H sz _ ⟨v2, _, rfl, t2 H sz _ ⟨v3, _, rfl, t3 H sz _ ⟨rfl, q⟩⟩⟩⟩⟩
section
variable {α β : Type} {τ : Ty α} {υ : Ty β} {xs : List α} {ys : List β}
/-- the comprehension as a plain walk: none leaves an item out -/
def lcM (g : α → μ → Option (Option β × μ)) : List α → μ → Option (List β × μ)
  | [], s => some ([], s)
  | x :: xs, s => (g x s).bind fun p => (lcM g xs p.2).bind fun q => some (match p.1 with | none => q.1 | some y => y :: q.1, q.2)
theorem en_lc {wi : TI} {g : TG} {tt : TT} {vs : List Nat} (P : μ → Prop) (h : α → μ → Option (Option β × μ)) (hP : P s1) (hi : EvI M (SameX M.fp) wi σ Z H s τ xs s1)
    (hb : ∀ x v Z' H' si p, Same Z Z' → SameX M.fp H H' → τ.r Z' v x → P si → h x si = some p → P p.2 ∧ ∃ σ2, Tgt g v (wipe σ vs) σ2 Z' ∧ wipe σ2 vs = wipe σ vs ∧ ∃ b s', EvT M tt σ2 Z' H' si b s' ∧ (b = true → ∃ y, p.1 = some y ∧ Ev M te σ2 Z' H' s' (ty υ y) p.2) ∧ (b = false → p = (none, s')))
    (hF : lcM h xs s1 = some (ys, s2)) : EvN M (tLc wi g tt te vs) σ Z H s υ ys s2 := by
  intro Z1 H1 a b c d Q q
  refine hi Z1 H1 a b c d _ fun J Z2 H2 e m ⟨hx, G, Y, wk, hG, hY⟩ D hD => ?_
  have zD : Z2 D = none := same_none e.s hD
  have st0 := Step.own (o := .lst []) e.s hD
  refine lc_it wk (fun i H' => ∃ Z' si zs ws r, Step M.fp Z2 H2 Z' H' ∧ Z' D = none ∧ H' D = some (.lst ws) ∧ All (υ.r Z') ws zs ∧ ws.length ≤ i ∧ M.m si Z' H' ∧ P si ∧ lcM h (xs.drop i) si = some (r, s2) ∧ ys = zs ++ r)
    ⟨Z2, s1, [], [], ys, st0.pure, zD, upd_same, .nil, Nat.le_refl _, M.pure st0 m, hP, by rw [List.drop_zero]; exact hF, rfl⟩ ?_ ?_ ?_
  · rintro i H' _ ⟨Z', si, zs, ws, r, st, _⟩
    exact hG Z' H' st.z st.s st.h
  · rintro i v H3 H4 hin ⟨Z', si, zs, ws, r, st, zD', hD', al, lw, m', pi, hF', ey⟩ y
    obtain ⟨Z4, x, ex, st4, rx⟩ := hY i Z' H3 v H4 hin st.z st.s (hG Z' H3 st.z st.s st.h) y
    have hd : xs.drop i = x :: xs.drop (i + 1) := by
      rw [List.drop_eq_getElem_cons hin]
      rw [List.getElem?_eq_getElem hin] at ex
      rw [Option.some.inj ex]
    rw [hd] at hF'
    obtain ⟨p, hp, hF2⟩ := Option.bind_eq_some_iff.mp hF'
    obtain ⟨⟨r2, s2'⟩, hr, hF3⟩ := Option.bind_eq_some_iff.mp hF2
    have e4 := st.trans st4.pure
    have eZ : Same Z Z4 := (a.trans e.z).trans e4.z
    have eH : SameX M.fp H H4 := (b.trans e.h).trans e4.h
    obtain ⟨pp, σ2, tg, wp, bb, s', et, ht, hf⟩ := hb x v Z4 H4 si p eZ eH rx pi hp
    have es2 : s2' = s2 := by injection hF3 with q; exact congrArg Prod.snd q
    subst es2
    refine tg H4 e4.s _ ⟨wp, et Z4 H4 (Same.refl _) SameX.refl e4.s (M.pure st4 m') _ fun Z5 H5 e5 m5 => ?_⟩
    have nD : D ∉ M.fp := fun h => absurd hD (M.al m D h).1
    have hD4 : H4 D = some (.lst ws) := st4.h _ _ List.not_mem_nil hD'
    have hD5 : H5 D = some (.lst ws) := e5.h _ _ nD hD4
    have zD5 : Z5 D = none := e5.n D (some_ne hD4) (st4.n D (some_ne hD') zD')
    have e15 := e4.trans e5
    cases bb with
    | false =>
      rw [if_neg Bool.false_ne_true]
      have ep := hf rfl
      subst ep
      refine ⟨Z5, s', zs, ws, r2, e15, zD5, hD5, al.imp fun _ _ => υ.mono (st4.z.trans e5.z), by omega, m5, pp, hr, ?_⟩
      injection hF3 with q3
      have q4 : r2 = r := congrArg Prod.fst q3
      rw [ey, q4]
    | true =>
      rw [if_pos rfl]
      obtain ⟨y, ep, ev⟩ := ht rfl
      refine ev Z5 H5 e5.z e5.h e5.s m5 _ fun w Z6 H6 e6 m6 rw' => ?_
      have hD6 : H6 D = some (.lst ws) := e6.h _ _ nD hD5
      have zD6 : Z6 D = none := e6.n D (some_ne hD5) zD5
      have s7 := Step.set (o := .lst (ws ++ [w])) e6.s zD6
      refine ⟨ws, hD6, by omega, Z6, p.2, zs ++ [y], ws ++ [w], r2, (e15.trans e6).mine s7 (fun x hx => by rw [List.mem_singleton] at hx; subst hx; exact .inr hD), zD6, upd_same, (al.imp fun _ _ => υ.mono ((st4.z.trans e5.z).trans e6.z)).snoc rw', by rw [List.length_append]; show ws.length + 1 ≤ _; omega, ?_, pp, hr, ?_⟩
      · refine M.loc (Same.refl _) (fun a' ha' o ho => ?_) (fun _ _ _ z => z) m6
        rw [upd_ne (fun q' => nD (by rw [← q']; exact ha'))]
        exact ho
      · injection hF3 with q3
        rw [ep] at q3
        have q4 : y :: r2 = r := congrArg Prod.fst q3
        rw [ey, ← q4, List.append_assoc]
        rfl
  · rintro H' ⟨Z', si, zs, ws, r, st, zD', hD', al, lw, m', _, hF', ey⟩
    rw [List.drop_length] at hF'
    injection hF' with q'
    have e1 : r = [] := (congrArg Prod.fst q').symm
    have e2 : si = s2 := congrArg Prod.snd q'
    subst e1 e2
    rw [List.append_nil] at ey
    subst ey
    exact q D ws Z' H' (e.trans st) m' (same_x e hD) zD' hD' al (by rw [← al.len]; omega)
def mapO (f : α → Option β) : List α → Option (List β)
  | [] => some []
  | x :: r => (f x).bind fun y => (mapO f r).bind fun ys => some (y :: ys)
def fmO (f : α → Option (Option β)) : List α → Option (List β)
  | [] => some []
  | x :: r => (f x).bind fun y => (fmO f r).bind fun ys => some (match y with | none => ys | some z => z :: ys)
def mapS (f : α → μ → Option (β × μ)) : List α → μ → Option (List β × μ)
  | [], s => some ([], s)
  | x :: r, s => (f x s).bind fun p => (mapS f r p.2).bind fun q => some (p.1 :: q.1, q.2)
theorem lcM_fmO (f : α → Option (Option β)) (s : μ) : ∀ xs : List α, lcM (fun x s => (f x).map fun y => (y, s)) xs s = (fmO f xs).map fun ys => (ys, s)
  | [] => rfl
  | x :: r => by
    have ih := lcM_fmO f s r
    unfold lcM fmO
    cases f x with
    | none => rfl
    | some y =>
      simp only [Option.map_some, Option.bind_some, ih]
      cases fmO f r with
      | none => rfl
      | some ys => cases y <;> rfl
theorem lcM_mapS (f : α → μ → Option (β × μ)) : ∀ (xs : List α) (s : μ), lcM (fun x s => (f x s).map fun p => (some p.1, p.2)) xs s = mapS f xs s
  | [], _ => rfl
  | x :: r, s => by
    unfold lcM mapS
    cases f x s with
    | none => rfl
    | some p =>
      simp only [Option.map_some, Option.bind_some, lcM_mapS f r p.2]
theorem fmO_mapO (f : α → Option β) : ∀ xs : List α, fmO (fun x => (f x).map some) xs = mapO f xs
  | [] => rfl
  | x :: r => by
    unfold fmO mapO
    rw [fmO_mapO f r]
    cases f x <;> rfl
theorem fmO_fil (p : α → Bool) (f : α → β) : ∀ xs : List α, fmO (fun x => some (if p x = true then some (f x) else none)) xs = some ((xs.filter p).map f)
  | [] => rfl
  | x :: r => by
    unfold fmO
    rw [fmO_fil p f r]
    cases e : p x with
    | true => rw [List.filter_cons_of_pos e]; rfl
    | false => rw [List.filter_cons_of_neg (by rw [e]; exact Bool.false_ne_true)]; rfl
section
variable {wi : TI} {g : TG} {tt : TT} {vs : List Nat}
/-- stateless, with a test -/
theorem en_fmO (f : α → Option (Option β)) (hi : EvI M (SameX M.fp) wi σ Z H s τ xs s1)
    (hb : ∀ x v Z' H' p, Same Z Z' → SameX M.fp H H' → τ.r Z' v x → f x = some p → ∃ σ2, Tgt g v (wipe σ vs) σ2 Z' ∧ wipe σ2 vs = wipe σ vs ∧ ∃ b, EvT M tt σ2 Z' H' s1 b s1 ∧ (b = true → ∃ y, p = some y ∧ Ev M te σ2 Z' H' s1 (ty υ y) s1) ∧ (b = false → p = none))
    (hF : fmO f xs = some ys) : EvN M (tLc wi g tt te vs) σ Z H s υ ys s1 := by
  refine en_lc (· = s1) (fun x s => (f x).map fun y => (y, s)) rfl hi (fun x v Z' H' si p z h rv e hp => ?_) (by rw [lcM_fmO, hF]; rfl)
  subst e
  obtain ⟨q, hq, rfl⟩ := Option.map_eq_some_iff.mp hp
  obtain ⟨σ2, tg, wp, b, et, h1, h2⟩ := hb x v Z' H' q z h rv hq
  exact ⟨rfl, σ2, tg, wp, b, _, et, h1, fun e => by rw [h2 e]⟩
/-- stateless, partial -/
theorem en_mapO (f : α → Option β) (hi : EvI M (SameX M.fp) wi σ Z H s τ xs s1)
    (hb : ∀ x v Z' H' y, Same Z Z' → SameX M.fp H H' → τ.r Z' v x → f x = some y → ∃ σ2, Tgt g v (wipe σ vs) σ2 Z' ∧ wipe σ2 vs = wipe σ vs ∧ Ev M te σ2 Z' H' s1 (ty υ y) s1)
    (hF : mapO f xs = some ys) : EvN M (tLc wi g tYes te vs) σ Z H s υ ys s1 :=
  en_fmO (fun x => (f x).map some) hi (fun x v Z' H' p z h rv hp => by
    obtain ⟨y, hy, rfl⟩ := Option.map_eq_some_iff.mp hp
    obtain ⟨σ2, tg, wp, ev⟩ := hb x v Z' H' y z h rv hy
    exact ⟨σ2, tg, wp, true, fun Z1 H1 _ _ c d _ k => k Z1 H1 (Step.refl c) d, fun _ => ⟨y, rfl, ev⟩, fun e => nomatch e⟩) (by rw [fmO_mapO, hF])
/-- stateless, total -/
theorem en_map (f : α → β) (hi : EvI M (SameX M.fp) wi σ Z H s τ xs s1)
    (hb : ∀ x v Z' H', Same Z Z' → SameX M.fp H H' → τ.r Z' v x → ∃ σ2, Tgt g v (wipe σ vs) σ2 Z' ∧ wipe σ2 vs = wipe σ vs ∧ Ev M te σ2 Z' H' s1 (ty υ (f x)) s1) : EvN M (tLc wi g tYes te vs) σ Z H s υ (xs.map f) s1 :=
  en_mapO (fun x => some (f x)) hi (fun x v Z' H' y z h rv hy => by cases hy; exact hb x v Z' H' z h rv) (by
    clear hb hi
    induction xs with
    | nil => rfl
    | cons x r ih => unfold mapO; rw [ih]; rfl)
theorem en_fil (p : α → Bool) (f : α → β) (hi : EvI M (SameX M.fp) wi σ Z H s τ xs s1)
    (hb : ∀ x v Z' H', Same Z Z' → SameX M.fp H H' → τ.r Z' v x → ∃ σ2, Tgt g v (wipe σ vs) σ2 Z' ∧ wipe σ2 vs = wipe σ vs ∧ EvT M tt σ2 Z' H' s1 (p x) s1 ∧ Ev M te σ2 Z' H' s1 (ty υ (f x)) s1) : EvN M (tLc wi g tt te vs) σ Z H s υ ((xs.filter p).map f) s1 :=
  en_fmO (fun x => some (if p x = true then some (f x) else none)) hi (fun x v Z' H' q z h rv hq => by
    obtain ⟨σ2, tg, wp, et, ev⟩ := hb x v Z' H' z h rv
    cases hq
    exact ⟨σ2, tg, wp, p x, et, fun e => ⟨f x, if_pos e, ev⟩, fun e => if_neg (by rw [e]; exact Bool.false_ne_true)⟩) (fmO_fil p f xs)
theorem en_mapS (f : α → μ → Option (β × μ)) (hi : EvI M (SameX M.fp) wi σ Z H s τ xs s1)
    (hb : ∀ x v Z' H' si p, Same Z Z' → SameX M.fp H H' → τ.r Z' v x → f x si = some p → ∃ σ2, Tgt g v (wipe σ vs) σ2 Z' ∧ wipe σ2 vs = wipe σ vs ∧ Ev M te σ2 Z' H' si (ty υ p.1) p.2)
    (hF : mapS f xs s1 = some (ys, s2)) : EvN M (tLc wi g tYes te vs) σ Z H s υ ys s2 :=
  en_lc (fun _ => True) (fun x s => (f x s).map fun p => (some p.1, p.2)) trivial hi (fun x v Z' H' si p z h rv _ hp => by
    obtain ⟨q, hq, rfl⟩ := Option.map_eq_some_iff.mp hp
    obtain ⟨σ2, tg, wp, ev⟩ := hb x v Z' H' si q z h rv hq
    exact ⟨trivial, σ2, tg, wp, true, si, fun Z1 H1 _ _ c d _ k => k Z1 H1 (Step.refl c) d, fun _ => ⟨q.1, rfl, ev⟩, fun e => nomatch e⟩) (by rw [lcM_mapS, hF])
end
end
end
end TP

namespace TP
open PySem PySem.Spec PyProof.Rows L2
section
variable {μ : Type} {S : List Addr} {Z0 H0 : Hp} {M : Mu μ} {σ : L2.St} {Z H : Hp} {s s' s1 s2 s3 : μ} {ta tb tc te : TE} {t : TA} {K : PySem.W.Frag} {D : Ends} {u w : TS}
/-! ### a place in a def's body -/
structure Pt (S : List Addr) (Z0 H0 : Hp) (M : Mu μ) (Z H : Hp) (s : μ) : Prop where
  st : Step S Z0 H0 Z H
  m : M.m s Z H
  mine : ∀ a ∈ M.fp, a ∈ S ∨ H0 a = none
theorem Pt.next {Z1 H1 : Hp} (P : Pt S Z0 H0 M Z H s) (e : Step M.fp Z H Z1 H1) (m : M.m s1 Z1 H1) : Pt S Z0 H0 M Z1 H1 s1 := ⟨P.st.mine e P.mine, m, P.mine⟩
theorem Pt.start (M : Mu μ) (sz : Same Z H) (m : M.m s Z H) : Pt M.fp Z H M Z H s := ⟨Step.refl sz, m, fun _ h => .inl h⟩
theorem Pt.start0 (sz : Same Z H) : Pt [] Z H muN Z H () := ⟨Step.refl sz, trivial, fun _ h => (nomatch h)⟩
theorem Pt.sub (P : Pt S Z0 H0 M Z H s) : Same Z H := P.st.s
/-- a list of one's own: it may change -/
structure Own {α : Type} (S : List Addr) (H0 : Hp) (fp : List Addr) (Z H : Hp) (τ : Ty α) (p : Addr) (xs : List α) : Prop where
  ex : ∃ vs, H p = some (.lst vs) ∧ All (τ.r Z) vs xs
  z : Z p = none
  n : p ∉ fp
  mine : H0 p = none
  l : xs.length ≤ sizeLine
section
variable {α : Type} {τ : Ty α} {xs : List α} {p : Addr} {fp : List Addr}
theorem Own.step {F : List Addr} {Z1 H1 : Hp} (o : Own S H0 fp Z H τ p xs) (e : Step F Z H Z1 H1) (n : p ∉ F) : Own S H0 fp Z1 H1 τ p xs := by
  obtain ⟨vs, h, t⟩ := o.ex
  exact ⟨⟨vs, e.h _ _ n h, t.imp fun _ _ => τ.mono e.z⟩, e.n _ (some_ne h) o.z, o.n, o.mine, o.l⟩
theorem Own.next {Z1 H1 : Hp} (o : Own S H0 fp Z H τ p xs) (e : Step fp Z H Z1 H1) : Own S H0 fp Z1 H1 τ p xs := o.step e o.n
theorem Own.ne (o : Own S H0 fp Z H τ p xs) {q : Addr} (h : H q = none) : p ≠ q := by
  obtain ⟨vs, hp, _⟩ := o.ex
  exact ne_of_some (some_ne hp) h
theorem ev_o {i : Nat} (o : Own S H0 M.fp Z H τ p xs) (e : σ[i]? = some (some (.ref p))) : Ev M (tVar i) σ Z H s (li τ xs) s := by
  obtain ⟨vs, h, t⟩ := o.ex
  exact ev_own e h o.n t o.l
/-- it never changes from now on -/
theorem Own.fz (o : Own S H0 M.fp Z H τ p xs) (P : Pt S Z0 H0 M Z H s) : ∃ Z', Pt S Z0 H0 M Z' H s ∧ Same Z Z' ∧ (yList τ).r Z' (.ref p) xs ∧ ∀ q, q ≠ p → Z q = none → Z' q = none := by
  obtain ⟨vs, h, t⟩ := o.ex
  refine ⟨upd Z p (.lst vs), ⟨?_, Mu.fz P.m o.z o.n, P.mine⟩, same_upd o.z, ⟨p, vs, rfl, upd_same, t.imp fun _ _ => τ.mono (same_upd o.z), o.l⟩, fun q n e => by rw [upd_ne n]; exact e⟩
  exact P.st.fz o.mine h o.z
theorem Own.keep {Z1 : Hp} (o : Own S H0 fp Z H τ p xs) (e : Same Z Z1) (n : Z1 p = none) : Own S H0 fp Z1 H τ p xs := by
  obtain ⟨vs, h, t⟩ := o.ex
  exact ⟨⟨vs, h, t.imp fun _ _ => τ.mono e⟩, n, o.n, o.mine, o.l⟩
end
/-- a list of one's own is lent: for a while it does not change -/
theorem Own.bor {α : Type} {τ : Ty α} {xs : List α} {p : Addr} (o : Own S H0 M.fp Z H τ p xs) (sz : Same Z H) (m : M.m s Z H) : ∃ Zb, Same Z Zb ∧ Same Zb H ∧ M.m s Zb H ∧ (yList τ).r Zb (.ref p) xs ∧ ∀ q, q ≠ p → Z q = none → Zb q = none := by
  obtain ⟨vs, h, t⟩ := o.ex
  refine ⟨upd Z p (.lst vs), same_upd o.z, fun a u e => ?_, Mu.fz m o.z o.n, ⟨p, vs, rfl, upd_same, t.imp fun _ _ => τ.mono (same_upd o.z), o.l⟩, fun q n e => by rw [upd_ne n]; exact e⟩
  by_cases q : a = p
  · subst q; rw [upd_same] at e; rw [← Option.some.inj e]; exact h
  · rw [upd_ne q] at e; exact sz a u e
theorem Step.lent {S : List Addr} {Z Zb H Z1 H1 : Hp} (zf : Same Z Zb) (e : Step S Zb H Z1 H1) : Step S Z H Z H1 := ⟨Same.refl _, zf.trans (e.z.trans e.s), e.h, fun _ _ z => z, e.al⟩
/-! ### statements -/
theorem st_nx {nx bk ct : L2.St → Hp → Prop} {rt : VK} (h : nx σ H) : Ends.nx ⟨nx, rt, bk, ct⟩ σ H := h
theorem st_next0 {nx bk ct : L2.St → Hp → Prop} {rt : VK} (h : nx σ H) : tNext ⟨nx, rt, bk, ct⟩ σ H := h
theorem st_next (h : D.nx σ H) : tNext D σ H := h
theorem st_seq (h : u { D with nx := w D } σ H) : tSeq u w D σ H := h
theorem st_set {R : Rr M.fp} {i : Nat} (P : Pt S Z0 H0 M Z H s) (e : Ev M te σ Z H s R s1) (k : ∀ v Z1 H1, Step M.fp Z H Z1 H1 → Pt S Z0 H0 M Z1 H1 s1 → R.r Z1 H1 v → D.nx (σ.set i (some v)) H1) : tAsg te (gName i) D σ H :=
  e Z H (Same.refl _) SameX.refl P.sub P.m _ fun v Z1 H1 e m r => k v Z1 H1 e (P.next e m) r
theorem st_asg {R : Rr M.fp} {g : TG} (P : Pt S Z0 H0 M Z H s) (e : Ev M te σ Z H s R s1) (k : ∀ v Z1 H1, Step M.fp Z H Z1 H1 → Pt S Z0 H0 M Z1 H1 s1 → R.r Z1 H1 v → ∃ σ2, Tgt g v σ σ2 Z1 ∧ D.nx σ2 H1) : tAsg te g D σ H :=
  e Z H (Same.refl _) SameX.refl P.sub P.m _ fun v Z1 H1 e m r => by
    obtain ⟨σ2, tg, q⟩ := k v Z1 H1 e (P.next e m) r
    exact tg H1 e.s _ q
theorem st_ret {R : Rr M.fp} (P : Pt S Z0 H0 M Z H s) (e : Ev M te σ Z H s R s1) (k : ∀ v Z1 H1, Pt S Z0 H0 M Z1 H1 s1 → R.r Z1 H1 v → D.rt v H1) : tRet te D σ H :=
  e Z H (Same.refl _) SameX.refl P.sub P.m _ fun v Z1 H1 e m r => k v Z1 H1 (P.next e m) r
theorem st_expr {R : Rr M.fp} (P : Pt S Z0 H0 M Z H s) (e : Ev M te σ Z H s R s1) (k : ∀ Z1 H1, Step M.fp Z H Z1 H1 → Pt S Z0 H0 M Z1 H1 s1 → D.nx σ H1) : tDrop te D σ H :=
  e Z H (Same.refl _) SameX.refl P.sub P.m _ fun v Z1 H1 e m r => k Z1 H1 e (P.next e m)
theorem st_if {b : Bool} {tt : TT} (P : Pt S Z0 H0 M Z H s) (e : EvT M tt σ Z H s b s1) (ht : b = true → ∀ Z1 H1, Step M.fp Z H Z1 H1 → Pt S Z0 H0 M Z1 H1 s1 → u D σ H1) (hf : b = false → ∀ Z1 H1, Step M.fp Z H Z1 H1 → Pt S Z0 H0 M Z1 H1 s1 → w D σ H1) : tIfS tt u w D σ H :=
  e Z H (Same.refl _) SameX.refl P.sub P.m _ fun Z1 H1 e' m => by
    cases b with
    | true => rw [if_pos rfl]; exact ht rfl Z1 H1 e' (P.next e' m)
    | false => rw [if_neg Bool.false_ne_true]; exact hf rfl Z1 H1 e' (P.next e' m)
theorem st_ifB {b : Bool} {tt : TT} {Zb : Hp} (bk : M.Back) (P : Pt S Z0 H0 M Z H s) (zf : Same Z Zb) (sb : Same Zb H) (mb : M.m s Zb H) (e : EvT M tt σ Zb H s b s1) (ht : b = true → ∀ Z1 H1, Step M.fp Z H Z1 H1 → Pt S Z0 H0 M Z1 H1 s1 → u D σ H1) (hf : b = false → ∀ Z1 H1, Step M.fp Z H Z1 H1 → Pt S Z0 H0 M Z1 H1 s1 → w D σ H1) : tIfS tt u w D σ H :=
  e Zb H (Same.refl _) SameX.refl sb mb _ fun Z1 H1 e' m => by
    have e2 := Step.lent zf e'
    have m2 := bk (zf.trans e'.z) P.m m
    cases b with
    | true => rw [if_pos rfl]; exact ht rfl Z H1 e2 (P.next e2 m2)
    | false => rw [if_neg Bool.false_ne_true]; exact hf rfl Z H1 e2 (P.next e2 m2)
theorem st_aug {i : Nat} {a b : Int} {v : V} {f : Int → Int → Int} (P : Pt S Z0 H0 M Z H s) (hσ : σ[i]? = some (some v)) (hv : v = .int a) (e : Ev M te σ Z H s (ty yInt b) s1) (k : ∀ v Z1 H1, Step M.fp Z H Z1 H1 → Pt S Z0 H0 M Z1 H1 s1 → yInt.r Z1 v (f a b) → D.nx (σ.set i (some v)) H1) : tAug i te (ipI f) D σ H :=
  ⟨v, hσ, e Z H (Same.refl _) SameX.refl P.sub P.m _ fun v' Z1 H1 e m r => ⟨a, b, hv, r, k _ Z1 H1 e (P.next e m) rfl⟩⟩
section
variable {α β : Type} {τ : Ty α} {υ : Ty β} {xs ys : List α} {p : Addr} {x : α}
/-- a new list of one's own -/
theorem st_setN {i : Nat} (P : Pt S Z0 H0 M Z H s) (e : EvN M te σ Z H s τ xs s1) (k : ∀ p Z1 H1, Step M.fp Z H Z1 H1 → Pt S Z0 H0 M Z1 H1 s1 → H p = none → Own S H0 M.fp Z1 H1 τ p xs → D.nx (σ.set i (some (.ref p))) H1) : tAsg te (gName i) D σ H :=
  e Z H (Same.refl _) SameX.refl P.sub P.m _ fun p vs Z1 H1 e m hp zp h1 t l => k p Z1 H1 e (P.next e m) hp ⟨⟨vs, h1, t⟩, zp, fun hf => (M.al P.m p hf).1 hp, same_x P.st hp, l⟩
theorem Pt.set {o : HO} (P : Pt S Z0 H0 M Z H s) (hz : Z p = none) (n : p ∉ M.fp) (mine : p ∈ S ∨ H0 p = none) : Pt S Z0 H0 M Z (upd H p o) s := by
  refine ⟨P.st.mine (Step.set P.sub hz) fun a h => by rw [List.mem_singleton] at h; rw [h]; exact mine, M.loc (Same.refl _) (fun a ha u e => ?_) (fun _ _ _ z => z) P.m, P.mine⟩
  rw [upd_ne (fun q => n (by rw [← q]; exact ha))]
  exact e
theorem step2 {F : List Addr} {Z1 H1 : Hp} {o : HO} (e : Step F Z H Z1 H1) (hz : Z1 p = none) : Step (p :: F) Z H Z1 (upd H1 p o) :=
  (e.weak fun _ h => .inl (List.mem_cons_of_mem _ h)).mine (Step.set e.s hz) fun a h => by rw [List.mem_singleton] at h; rw [h]; exact .inl List.mem_cons_self
/-- xs.append(x) -/
theorem st_append {i : Nat} (P : Pt S Z0 H0 M Z H s) (o : Own S H0 M.fp Z H τ p xs) (hσ : σ[i]? = some (some (.ref p))) (e : Ev M te σ Z H s (ty τ x) s1) (l : xs.length < sizeLine)
    (k : ∀ Z1 H1, Step (p :: M.fp) Z H Z1 H1 → Pt S Z0 H0 M Z1 H1 s1 → Own S H0 M.fp Z1 H1 τ p (xs ++ [x]) → D.nx σ H1) : tDrop (tBM K "list" rAppend (tVar i) (tCons te tNil)) D σ H := by
  obtain ⟨vs, h, t⟩ := o.ex
  refine ⟨.ref p, hσ, .inl ⟨rfl, _, .inl (.inl h)⟩, e Z H (Same.refl _) SameX.refl P.sub P.m _ fun v Z1 H1 e m r => ?_⟩
  have o1 := o.next e
  have P1 := P.next e m
  refine ⟨p, vs, v, rfl, rfl, e.h _ _ o.n h, by rw [t.len]; exact l, ?_⟩
  exact k _ _ (step2 e o1.z) (P1.set o1.z o.n (.inr o.mine)) ⟨⟨_, upd_same, (t.imp fun _ _ => τ.mono e.z).snoc r⟩, o1.z, o.n, o.mine, by rw [List.length_append]; show xs.length + 1 ≤ _; omega⟩
/-- xs.extend(ys) -/
theorem st_extend {i : Nat} (P : Pt S Z0 H0 M Z H s) (o : Own S H0 M.fp Z H τ p xs) (hσ : σ[i]? = some (some (.ref p))) (e : Ev M te σ Z H s (ty (yList τ) ys) s1) (l : xs.length + ys.length ≤ sizeLine)
    (k : ∀ Z1 H1, Step (p :: M.fp) Z H Z1 H1 → Pt S Z0 H0 M Z1 H1 s1 → Own S H0 M.fp Z1 H1 τ p (xs ++ ys) → D.nx σ H1) : tDrop (tBM K "list" rExtend (tVar i) (tCons te tNil)) D σ H := by
  obtain ⟨vs, h, t⟩ := o.ex
  refine ⟨.ref p, hσ, .inl ⟨rfl, _, .inl (.inl h)⟩, e Z H (Same.refl _) SameX.refl P.sub P.m _ fun v Z1 H1 e m ⟨q, ws, ev, hq, t2, _⟩ => ?_⟩
  subst ev
  have o1 := o.next e
  have P1 := P.next e m
  refine ⟨p, q, vs, ws, rfl, rfl, e.h _ _ o.n h, e.s _ _ hq, by rw [t.len, t2.len]; exact l, ?_⟩
  exact k _ _ (step2 e o1.z) (P1.set o1.z o.n (.inr o.mine)) ⟨⟨_, upd_same, (t.imp fun _ _ => τ.mono e.z).app t2⟩, o1.z, o.n, o.mine, by rw [List.length_append]; exact l⟩
/-- xs[i] = x -/
theorem st_setitem {i : Nat} {j : Int} {n : Nat} {tj : TE} (P : Pt S Z0 H0 M Z H s) (o : Own S H0 M.fp Z H τ p xs) (hσ : σ[i]? = some (some (.ref p))) (e : Ev M te σ Z H s (ty τ x) s1) (ej : ∀ Z1 H1, Step M.fp Z H Z1 H1 → Ev M tj σ Z1 H1 s1 (ty yInt j) s2) (hj : ixN xs.length j = some n)
    (k : ∀ Z1 H1, Step (p :: M.fp) Z H Z1 H1 → Pt S Z0 H0 M Z1 H1 s2 → Own S H0 M.fp Z1 H1 τ p (xs.set n x) → D.nx σ H1) : tAsg te (gSub (tVar i) tj rSetL) D σ H := by
  obtain ⟨vs, h, t⟩ := o.ex
  refine e Z H (Same.refl _) SameX.refl P.sub P.m _ fun v Z1 H1 e m r => ⟨.ref p, hσ, ej Z1 H1 e Z1 H1 (Same.refl _) SameX.refl e.s m _ fun v2 Z2 H2 e2 m2 r2 => ?_⟩
  have o1 := (o.next e).next e2
  have P1 := (P.next e m).next e2 m2
  refine ⟨p, vs, j, n, rfl, r2, e2.h _ _ o.n (e.h _ _ o.n h), by rw [t.len]; exact hj, ?_⟩
  exact k _ _ (step2 (e.trans e2) o1.z) (P1.set o1.z o.n (.inr o.mine)) ⟨⟨_, upd_same, (t.imp fun _ _ => τ.mono (e.trans e2).z).set (τ.mono e2.z r) n⟩, o1.z, o.n, o.mine, by rw [List.length_set]; exact o.l⟩
end
/-! ### loops -/
inductive Flow (ρ β : Type)
  | go (b : β) | brk (b : β) | ret (r : ρ)
def forF {α β : Type} (f : α → β → Option β) : List α → β → Option β
  | [], b => some b
  | x :: r, b => (f x b).bind fun b' => forF f r b'
def Flow.nxt {ρ β : Type} (k : β → Option (Flow ρ β)) : Flow ρ β → Option (Flow ρ β)
  | .go b => k b
  | .brk b => some (.go b)
  | .ret y => some (.ret y)
def Flow.thn {ρ β γ : Type} (k : β → Option γ) (g : ρ → Option γ) : Flow ρ β → Option γ
  | .go b => k b
  | .brk b => k b
  | .ret y => g y
def forS {ρ α β : Type} (f : α → β → Option (Flow ρ β)) : List α → β → Option (Flow ρ β)
  | [], b => some (.go b)
  | x :: r, b => (f x b).bind (Flow.nxt (forS f r))
def whileS {ρ β : Type} (f : β → Option (Flow ρ β)) : Nat → β → Option (Flow ρ β)
  | 0, _ => none
  | n + 1, b => (f b).bind (Flow.nxt (whileS f n))
section
variable {ρ α β γ : Type} {k : β → Option (Flow ρ β)} {f : α → β → Option (Flow ρ β)} {f' : α → β → Option β} {x : α} {r : List α} {b : β} {y : ρ} {q : Flow ρ β}
theorem nxt_go (h : Flow.nxt k (.go b) = some q) : k b = some q := h
theorem nxt_brk (h : Flow.nxt k (.brk b) = some q) : q = .go b := (Option.some.inj h).symm
theorem nxt_ret (h : Flow.nxt k (.ret y) = some q) : q = .ret y := (Option.some.inj h).symm
theorem go_inv {k : β → Option γ} {g : ρ → Option γ} {z : γ} (h : Flow.thn k g (.go b) = some z) : k b = some z := h
theorem ret_inv {k : β → Option γ} {g : ρ → Option γ} {z : γ} (h : Flow.thn k g (.ret y) = some z) : g y = some z := h
theorem forS_cons (h : forS f (x :: r) b = some q) : (f x b).bind (Flow.nxt (forS f r)) = some q := h
theorem forS_nil (h : forS f [] b = some q) : q = .go b := (Option.some.inj h).symm
theorem forF_cons {c : β} (h : forF f' (x :: r) b = some c) : (f' x b).bind (fun b' => forF f' r b') = some c := h
theorem forF_nil {c : β} (h : forF f' [] b = some c) : c = b := (Option.some.inj h).symm
end
section
variable {α β : Type} {τ : Ty α} {xs : List α}
/-- what a turn is to reach -/
def LoopW (I : List α → L2.St → Hp → Hp → Prop) (Z1 : Hp) (r : List α) : L2.St → Hp → Prop := fun σ H => ∃ Z, Same Z1 Z ∧ Same Z H ∧ I r σ Z H
/-- I: what is true ahead of the turns for the rest of the items -/
theorem st_for {wi : TI} {g : TG} (I : List α → L2.St → Hp → Hp → Prop) (P : Pt S Z0 H0 M Z H s) (hi : EvI M (fun _ _ => True) wi σ Z H s τ xs s1)
    (h0 : ∀ Z1 H1, Step M.fp Z H Z1 H1 → Pt S Z0 H0 M Z1 H1 s1 → I xs σ Z1 H1)
    (hs : ∀ Z1 H1, Step M.fp Z H Z1 H1 → ∀ x r σ' v Z' H' Z2 H2, Same Z1 Z' → I (x :: r) σ' Z' H' → Step [] Z' H' Z2 H2 → τ.r Z2 v x →
      g v σ' H2 fun σ2 H3 => u { D with nx := LoopW I Z1 r, ct := LoopW I Z1 r, bk := D.nx } σ2 H3)
    (hd : ∀ σ' Z' H', Same Z Z' → Same Z' H' → I [] σ' Z' H' → D.nx σ' H') : tFor wi g u D σ H := by
  refine hi Z H (Same.refl _) SameX.refl P.sub P.m _ fun J Z1 H1 e m ⟨_, G, Y, wk, hG, hY⟩ => ?_
  refine for_it wk (fun i => LoopW I Z1 (xs.drop i)) ⟨Z1, Same.refl _, e.s, by rw [List.drop_zero]; exact h0 Z1 H1 e (P.next e m)⟩ ?_ ?_ ?_
  · rintro i σ' H' _ ⟨Z', sa, sb, _⟩
    exact hG Z' H' sa sb trivial
  · rintro i v σ' H3 H4 hin ⟨Z', sa, sb, hI⟩ y
    obtain ⟨Z4, x, ex, st4, rx⟩ := hY i Z' H3 v H4 hin sa sb (hG Z' H3 sa sb trivial) y
    have hd : xs.drop i = x :: xs.drop (i + 1) := by
      rw [List.drop_eq_getElem_cons hin]
      rw [List.getElem?_eq_getElem hin] at ex
      rw [Option.some.inj ex]
    rw [hd] at hI
    exact hs Z1 H1 e x _ σ' v Z' H3 Z4 H4 sa hI st4 rx
  · rintro σ' H' ⟨Z', sa, sb, hI⟩
    rw [List.drop_length] at hI
    exact hd σ' Z' H' (e.z.trans sa) sb hI
end
theorem bind_inv {α β : Type} {o : Option α} {f : α → Option β} {y : β} (h : o.bind f = some y) : ∃ x, o = some x ∧ f x = some y := Option.bind_eq_some_iff.mp h
theorem guard_inv {c : Prop} [Decidable c] {β : Type} {o : Option β} {y : β} (h : (if c then o else none) = some y) : c ∧ o = some y := by
  by_cases hc : c
  · rw [if_pos hc] at h; exact ⟨hc, h⟩
  · rw [if_neg hc] at h; cases h
theorem ifT {β : Type} {b : Bool} {o p y : β} (hb : b = true) (h : (if b = true then o else p) = y) : o = y := by rw [if_pos hb] at h; exact h
theorem ifF {β : Type} {b : Bool} {o p y : β} (hb : b = false) (h : (if b = true then o else p) = y) : p = y := by rw [if_neg (by rw [hb]; exact Bool.false_ne_true)] at h; exact h
theorem Pt.item {Z1 H1 : Hp} (P : Pt S Z0 H0 M Z H s) (e : Step [] Z H Z1 H1) : Pt S Z0 H0 M Z1 H1 s := P.next e.pure (M.pure e P.m)
theorem Mu.away {x : Addr} {Z1 H1 : Hp} (e : Step [x] Z H Z1 H1) (nx : x ∉ M.fp) (m : M.m s Z H) : M.m s Z1 H1 :=
  M.loc e.z (fun a ha o ho => e.h a o (fun q => nx (by rw [List.mem_singleton] at q; rw [← q]; exact ha)) ho) (fun a _ h z => e.n a h z) m
/-- self.f = e, self new -/
theorem st_fld {α : Type} {τ : Ty α} {x : α} {i : Nat} {p C dx : Addr} {fs : List (Str × V)} {f : Str} {tv : TE} (P : Pt S Z0 H0 M Z H s) (hp : H p = some (.ins C dx fs)) (zp : Z p = none) (np : p ∉ M.fp) (mp : p ∈ S ∨ H0 p = none) (hσ : σ[i]? = some (some (.ref p)))
    (e : Ev M tv σ Z H s (ty τ x) s1) (c : Cls K C) (n : NoAttr K C f) (l : fs.length < 1000) (k : ∀ v Z1 H1, Step (p :: M.fp) Z H Z1 H1 → Pt S Z0 H0 M Z1 H1 s1 → τ.r Z1 v x → H1 p = some (.ins C dx (putF f v fs)) → Z1 p = none → D.nx σ H1) : sFld K (tVar i) tv f D σ H :=
  e Z H (Same.refl _) SameX.refl P.sub P.m _ fun v Z1 H1 e m r => by
    have h1 : H1 p = some (.ins C dx fs) := e.h _ _ np hp
    have z1 : Z1 p = none := e.n p (some_ne hp) zp
    exact ⟨.ref p, hσ, p, C, dx, fs, rfl, h1, c, n, l, k v Z1 _ (step2 e z1) ((P.next e m).set z1 np mp) r upd_same z1⟩
/-- a list of one's own in the block of a comprehension -/
theorem ev_oX {α : Type} {τ : Ty α} {xs : List α} {p : Addr} {i : Nat} {Z1 H1 : Hp} (o : Own S H0 M.fp Z H τ p xs) (zz : Same Z Z1) (hh : SameX M.fp H H1) (e : σ[i]? = some (some (.ref p))) : Ev M (tVar i) σ Z1 H1 s (li τ xs) s := by
  obtain ⟨vs, h, t⟩ := o.ex
  exact ev_own e (hh _ _ o.n h) o.n (t.imp fun _ _ => τ.mono zz) o.l
end
/-! ### the draws -/
structure DS where
  ns : List Int
  k : Nat
  x : Nat
def rowZ (ns : List Int) (k : Nat) : Int :=
  let c0 := ns.getD k 0
  let c := if c0 < 0 then -2 * c0 - 1 else c0
  if c < 10 ^ 9 then
    let a := (c * 48271 + k * 69621 + 11) % 2147483647
    let b := (a * 16807 + c * 7 + k + 5) % 2147483629
    let d := (b * 39373 + a * b + 3) % 2147483587
    a + b * 2147483647 + d * 2147483647 ^ 2
  else c
def DS.cur (s : DS) (m : Int) : Nat := if (s.x : Int) < m then (rowZ s.ns s.k).toNat else s.x
def nxV (s : DS) (m : Int) : Int := (s.cur m : Int) % m
def nxS (s : DS) (m : Int) : DS := ⟨s.ns, if (s.x : Int) < m then s.k + 1 else s.k, ((s.cur m : Int) / m).toNat⟩
theorem nx_ge (s : DS) {m : Int} (h : 0 < m) : 0 ≤ nxV s m := Int.emod_nonneg _ (by omega)
theorem nx_lt (s : DS) {m : Int} (h : 0 < m) : nxV s m < m := Int.emod_lt_of_pos _ h
def NxOk (m : Int) : Prop := 0 < m ∧ m.natAbs < 2 ^ 200
instance {m : Int} : Decidable (NxOk m) := inferInstanceAs (Decidable (_ ∧ _))
def muD (st sc : Addr) : Mu DS where
  fp := [st]
  m := fun s Z H => H st = some (.lst [.ref sc, .int (s.k : Nat), .int (s.x : Nat)]) ∧ Z sc = some (.lst (s.ns.map V.int)) ∧ Z st = none
  al := fun ⟨h, _, z⟩ a ha => by rw [List.mem_singleton] at ha; subst ha; exact ⟨some_ne h, z⟩
  loc := fun sz hk hn ⟨h, hs, z⟩ => ⟨hk _ List.mem_cons_self _ h, sz _ _ hs, hn _ List.mem_cons_self (some_ne h) z⟩
theorem muD_back {st sc : Addr} : (muD st sc).Back := fun sz ⟨_, hs, z⟩ ⟨h', hs', _⟩ => ⟨h', by rw [hs, ← hs', sz _ _ hs], z⟩
section
variable {K : PySem.W.Frag} {σ : L2.St} {H : Hp} {D : Ends}
theorem st_draws {r : List V → Hp → VK → Prop} {a : Addr} {ns : List Int} {i j : Nat} (hA : SqL K H a (ns.map V.int)) (hlen : ns.length ≤ 63) (k : ∀ st sc Z0 Z1 H1, Pt [] Z0 H (muD st sc) Z1 H1 ⟨ns, 0, 0⟩ → D.nx (σ.set i (some (.ref st))) H1)
    (hr : ∀ xs H Q, (∃ p ys, xs = [.ref p] ∧ (SqL K H p ys ∨ SqT K H p ys) ∧ ∀ l, H l = none → Q (.ref l) (upd H l (.lst ys))) → r xs H Q := by exact fun _ _ _ h => h) (hσ : σ[j]? = some (some (.ref a)) := by rfl) :
    tAsg (tLst (tCons (tCB r (tCons (tVar j) tNil)) (tCons (tC (.int 0)) (tCons (tC (.int 0)) tNil)))) (gName i) D σ H := by
  refine ⟨.ref a, hσ, hr _ _ _ ⟨a, _, rfl, .inl hA, fun sc hsc => ?_⟩⟩
  refine ⟨by show 3 ≤ sizeLine; decide, fun st hst => ?_⟩
  have s0 : Same (fun _ => none : Hp) H := fun _ _ h => by cases h
  have e1 := Step.new (o := .lst (ns.map V.int)) s0 hsc
  have e2 := Step.own (o := .lst [.ref sc, .int 0, .int 0]) e1.s hst
  exact k st sc (fun _ => none) _ _ ⟨e1.trans e2, ⟨upd_same, upd_same, by rw [upd_ne (fun q => by rw [q, upd_same] at hst; cases hst)]⟩, fun x hx => by rw [show x = st from List.mem_singleton.mp hx]; exact .inr (same_x e1 hst)⟩
end
end TP
namespace TP
open PySem PySem.Spec PyProof.Rows L2
section
variable {μ : Type} {S : List Addr} {Z0 H0 : Hp} {M : Mu μ} {σ : L2.St} {Z H : Hp} {s s' s1 s2 s3 : μ} {ta tb tc te : TE} {t : TA} {K : PySem.W.Frag} {D : Ends} {u w : TS}
theorem whileS_cons {ρ β : Type} {f : β → Option (Flow ρ β)} {n : Nat} {b : β} {q : Flow ρ β} (h : whileS f n b = some q) : ∃ k, n = k + 1 ∧ (f b).bind (Flow.nxt (whileS f k)) = some q := by
  cases n with
  | zero => cases h
  | succ k => exact ⟨k, rfl, h⟩
def WhW (I : Nat → L2.St → Hp → Hp → Prop) (k : Nat) : L2.St → Hp → Prop := fun σ H => ∃ Z, I k σ Z H
theorem st_while {c : TT} {tb : TS} (I : Nat → L2.St → Hp → Hp → Prop) (n : Nat) (P : Pt S Z0 H0 M Z H s) (h0 : I n σ Z H)
    (hs : ∀ n σ' Z' H', I n σ' Z' H' → ∃ k s s1 b, n = k + 1 ∧ Pt S Z0 H0 M Z' H' s ∧ EvT M c σ' Z' H' s b s1 ∧ (b = true → ∀ Z1 H1, Step M.fp Z' H' Z1 H1 → Pt S Z0 H0 M Z1 H1 s1 → tb { D with nx := WhW I k, ct := WhW I k, bk := D.nx } σ' H1) ∧
      (b = false → ∀ Z1 H1, Step M.fp Z' H' Z1 H1 → Pt S Z0 H0 M Z1 H1 s1 → D.nx σ' H1)) : tWhile c tb D σ H := by
  refine ⟨fun m σ H => ∃ Z, I m σ Z H, ⟨n, Z, h0⟩, ?_⟩
  rintro m σ' H' ⟨Z', hI⟩
  obtain ⟨k, s, s1, b, rfl, P, et, ht, hf⟩ := hs m σ' Z' H' hI
  refine et Z' H' (Same.refl _) SameX.refl P.sub P.m _ fun Z1 H1 e m => ?_
  cases b with
  | true =>
    rw [if_pos rfl]
    exact ⟨WhW I k, fun σ3 H3 h3 => ⟨k, Nat.lt_succ_self _, h3⟩, ht rfl Z1 H1 e (P.next e m)⟩
  | false =>
    rw [if_neg Bool.false_ne_true]
    exact hf rfl Z1 H1 e (P.next e m)
end
end TP

namespace TP
open PySem PySem.Spec PyProof.Rows L2
section
variable {μ : Type} {S : List Addr} {Z0 H0 : Hp} {M : Mu μ} {σ : L2.St} {Z H : Hp} {s s' s1 s2 s3 : μ} {ta tb tc te : TE} {t : TA} {K : PySem.W.Frag} {D : Ends} {u w : TS}
/-! ### isinstance -/
theorem ev_isi {r : List V → Hp → VK → Prop} {R : Rr M.fp} {c : V} {v t : Value} {b : Bool} (hr : ∀ xs H Q, rIsi K xs H Q → r xs H Q) (ha : Ev M ta σ Z H s R s1) (tx : ∀ Z H v, Same Z H → R.r Z H v → TyX K H v t) (hc : ClsV c v) (hk : PySem.W.kitOne K t v = some b) :
    Ev M (tCB r (tCons ta (tCons (tC c) tNil))) σ Z H s (ty yBool b) s1 :=
  ev_cb (Rs := rac R (rac ⟨fun _ _ v => v = c, fun _ h => h⟩ ra0)) (eva_cons ha (eva_cons (ev_of fun _ _ _ _ _ _ q => q _ rfl) eva_nil)) fun _ _ _ sz ⟨x, r1, e1, h1, y, r2, e2, h2, e3⟩ _ q => by
    cases e3; cases e2; cases e1
    have h2' : y = c := h2
    subst h2'
    exact hr _ _ _ ⟨x, y, t, v, b, rfl, hc, tx _ _ _ sz h1, hk, q _ _ _ (Step.refl sz) rfl⟩
section
variable {fp : List Addr} {α β γ δ : Type} {τ : Ty α} {υ : Ty β} {φ : Ty γ} {ψ : Ty δ}
theorem tx_int {x : Int} : ∀ Z H v, Same Z H → (ty (fp := fp) yInt x).r Z H v → TyX K H v (.type "int") := fun _ _ _ _ h => by cases h; exact .base (.int _)
theorem tx_bool {x : Bool} : ∀ Z H v, Same Z H → (ty (fp := fp) yBool x).r Z H v → TyX K H v (.type "bool") := fun _ _ _ _ h => by cases h; exact .base (.bl _)
theorem tx_str {x : Str} : ∀ Z H v, Same Z H → (ty (fp := fp) yStr x).r Z H v → TyX K H v (.type "str") := fun _ _ _ _ h => by rw [h.1]; exact .base (.str _)
theorem tx_li {x : List α} : ∀ Z H v, Same Z H → (li (fp := fp) τ x).r Z H v → TyX K H v (.type "list") := fun _ _ _ sz h => by
  obtain ⟨p, vs, rfl, g, _, _⟩ := rdl sz h
  exact .base (.lst g)
theorem tx_sqT {H : Hp} {a : Addr} {vs : List V} (h : SqT K H a vs) : TyX K H (.ref a) (.type "tuple") := by
  rcases h with (h | ⟨o, h⟩) | ⟨o, its, n, h, hc, _⟩
  · exact .base (.tup h)
  · exact .fTuple h
  · exact .kTuple h hc
theorem tx_tup {x : List α} : ∀ Z H v, Same Z H → (ty (fp := fp) (yTup K τ) x).r Z H v → TyX K H v (.type "tuple") := fun _ _ _ sz ⟨a, vs, e, h, _⟩ => by subst e; exact tx_sqT (seqT_same sz h)
theorem tx_p2 {x : α × β} : ∀ Z H v, Same Z H → (ty (fp := fp) (yP2 K τ υ) x).r Z H v → TyX K H v (.type "tuple") := fun _ _ _ sz ⟨a, _, _, e, h, _⟩ => by subst e; exact tx_sqT (seqT_same sz h)
theorem tx_p3 {x : α × β × γ} : ∀ Z H v, Same Z H → (ty (fp := fp) (yP3 K τ υ φ) x).r Z H v → TyX K H v (.type "tuple") := fun _ _ _ sz ⟨a, _, _, _, e, h, _⟩ => by subst e; exact tx_sqT (seqT_same sz h)
end
end
end TP

namespace TP
open PySem PySem.Spec PyProof.Rows L2
/-! on, where what is bound is known: proofs that are no rfl, so that the kernel evaluates nothing -/
theorem bsome {α β : Type} {x : α} {f : α → Option β} : (some x).bind f = f x := by rw [Option.bind_some]
theorem bnone {α β : Type} {f : α → Option β} : (none : Option α).bind f = none := of_eq_true (eq_self _)
theorem thn_go {ρ β γ : Type} {b : β} {k : β → Option γ} {g : ρ → Option γ} : Flow.thn k g (.go b) = k b := by simp only [Flow.thn]
theorem thn_brk {ρ β γ : Type} {b : β} {k : β → Option γ} {g : ρ → Option γ} : Flow.thn k g (.brk b) = k b := by simp only [Flow.thn]
theorem thn_ret {ρ β γ : Type} {y : ρ} {k : β → Option γ} {g : ρ → Option γ} : Flow.thn k g (.ret y) = g y := by simp only [Flow.thn]
theorem forF_foldl {α β : Type} {f : α → β → Option β} {g : β → α → β} (h : ∀ x b, f x b = some (g b x)) : ∀ (xs : List α) (b : β), forF f xs b = some (xs.foldl g b)
  | [], _ => rfl
  | x :: r, b => by
    show (f x b).bind _ = _
    rw [h x b]
    exact forF_foldl h r _
theorem forF_inv {α β : Type} {f : α → β → Option β} {I : Nat → β → Prop} {m : Nat} (h : ∀ n x b, n < m → I n b → ∃ b', f x b = some b' ∧ I (n + 1) b') : ∀ (xs : List α) (n : Nat) (b : β), n + xs.length ≤ m → I n b → ∃ b', forF f xs b = some b' ∧ I (n + xs.length) b'
  | [], _, b, _, i => ⟨b, rfl, i⟩
  | x :: r, n, b, l, i => by
    rw [List.length_cons] at l
    obtain ⟨b1, e, i1⟩ := h n x b (by omega) i
    obtain ⟨b2, e2, i2⟩ := forF_inv h r (n + 1) b1 (by omega) i1
    refine ⟨b2, ?_, by rw [List.length_cons, show n + (r.length + 1) = n + 1 + r.length by omega]; exact i2⟩
    show (f x b).bind _ = _
    rw [e]
    exact e2
theorem forS_inv {ρ α β : Type} {f : α → β → Option (Flow ρ β)} {I : Nat → β → Prop} {m : Nat} (h : ∀ n x b, n < m → I n b → ∃ b', f x b = some (.go b') ∧ I (n + 1) b') : ∀ (xs : List α) (n : Nat) (b : β), n + xs.length ≤ m → I n b → ∃ b', forS f xs b = some (.go b') ∧ I (n + xs.length) b'
  | [], _, b, _, i => ⟨b, rfl, i⟩
  | x :: r, n, b, l, i => by
    rw [List.length_cons] at l
    obtain ⟨b1, e, i1⟩ := h n x b (by omega) i
    obtain ⟨b2, e2, i2⟩ := forS_inv h r (n + 1) b1 (by omega) i1
    refine ⟨b2, ?_, by rw [List.length_cons, show n + (r.length + 1) = n + 1 + r.length by omega]; exact i2⟩
    show (f x b).bind _ = _
    rw [e]
    exact e2
theorem mapS_all {α β μ : Type} {f : α → μ → Option (β × μ)} {R : β → Prop} (h : ∀ x s, ∃ y s', f x s = some (y, s') ∧ R y) : ∀ (xs : List α) (s : μ), ∃ ys s', mapS f xs s = some (ys, s') ∧ ys.length = xs.length ∧ ∀ y ∈ ys, R y
  | [], s => ⟨[], s, rfl, rfl, fun _ h => nomatch h⟩
  | x :: r, s => by
    obtain ⟨y, s1, e, hy⟩ := h x s
    obtain ⟨ys, s2, e2, l, hs⟩ := mapS_all h r s1
    refine ⟨y :: ys, s2, ?_, congrArg Nat.succ l, fun z hz => ?_⟩
    · show (f x s).bind _ = _
      rw [e]
      show (mapS f r s1).bind _ = _
      rw [e2]
      rfl
    · rcases List.mem_cons.mp hz with rfl | hz
      · exact hy
      · exact hs z hz
theorem cutA_none {α : Type} (xs : List α) {c : Int} (h : 0 ≤ c) : cutA xs none (some c) = xs.take c.toNat := by
  obtain ⟨k, rfl⟩ := Int.eq_ofNat_of_zero_le h
  unfold cutA
  rw [HT.sIx_none, HT.sIx_nat, List.drop_zero, Nat.sub_zero, Int.toNat_natCast]
  by_cases q : k ≤ xs.length
  · rw [Nat.min_eq_left q]
  · rw [Nat.min_eq_right (by omega), List.take_length, List.take_of_length_le (by omega)]
theorem cutA_to {α : Type} (xs : List α) {a c : Int} (h : 0 ≤ a) (h2 : a ≤ c) (h3 : c ≤ xs.length) : cutA xs (some a) (some c) = (xs.drop a.toNat).take (c - a).toNat := by
  obtain ⟨k, rfl⟩ := Int.eq_ofNat_of_zero_le h
  obtain ⟨m, rfl⟩ := Int.eq_ofNat_of_zero_le (show 0 ≤ c by omega)
  unfold cutA
  rw [HT.sIx_nat, HT.sIx_nat, Nat.min_eq_left (by omega), Nat.min_eq_left (by omega), Int.toNat_natCast, show ((m : Int) - (k : Int)).toNat = m - k by omega]
theorem cutA_from {α : Type} (xs : List α) {a : Int} (h : 0 ≤ a) : cutA xs (some a) none = xs.drop a.toNat := by
  obtain ⟨k, rfl⟩ := Int.eq_ofNat_of_zero_le h
  unfold cutA
  rw [HT.sIx_nat, HT.sIx_none, Int.toNat_natCast]
  by_cases q : k ≤ xs.length
  · rw [Nat.min_eq_left q, List.take_of_length_le (by rw [List.length_drop]; omega)]
  · rw [Nat.min_eq_right (by omega), List.drop_length, List.drop_of_length_le (by omega)]
    simp
theorem ixN_of {n : Nat} {i : Int} (h : 0 ≤ i) (l : i < n) : ixN n i = some i.toNat := by
  obtain ⟨k, rfl⟩ := Int.eq_ofNat_of_zero_le h
  rw [Int.toNat_natCast]
  unfold ixN
  split <;> first | rfl | omega | (split <;> first | rfl | omega) | skip
theorem atI_of {α : Type} {xs : List α} {i : Int} (h : 0 ≤ i) : L2.atI xs i = xs[i.toNat]? := by
  by_cases l : i < xs.length
  · unfold L2.atI
    rw [ixN_of h l]
    rfl
  · rw [List.getElem?_eq_none (by omega)]
    obtain ⟨k, rfl⟩ := Int.eq_ofNat_of_zero_le h
    unfold L2.atI ixN
    split <;> first | rfl | (split <;> first | rfl | omega) | skip
theorem nxOk_of {m : Int} (h : 0 < m) (l : m < 2 ^ 199) : NxOk m := ⟨h, by
  have : m.natAbs < 2 ^ 199 := by
    have e : (2 : Int) ^ 199 = ((2 ^ 199 : Nat) : Int) := by decide
    rw [e] at l
    omega
  exact Nat.lt_trans this (by decide)⟩
theorem rangeOk_of {a b : Int} (h : 0 ≤ a) (h1 : a ≤ 16777216) (l : b ≤ 16777216) (l2 : -16777216 ≤ b) : RangeOk a b := ⟨⟨by omega, by omega⟩, ⟨by omega, by omega⟩, by omega⟩
end TP
namespace TP
open PySem PySem.Spec PyProof.Rows L2
theorem forF_idx {α β : Type} {f : α → β → Option β} {I : Nat → β → Prop} : ∀ (xs : List α) (k : Nat) (b : β), (∀ n x b, xs[n]? = some x → I (k + n) b → ∃ b', f x b = some b' ∧ I (k + n + 1) b') → I k b → ∃ b', forF f xs b = some b' ∧ I (k + xs.length) b'
  | [], k, b, _, i => ⟨b, rfl, i⟩
  | x :: r, k, b, h, i => by
    obtain ⟨b1, e1, i1⟩ := h 0 x b rfl i
    obtain ⟨b2, e2, i2⟩ := forF_idx (I := I) r (k + 1) b1 (fun n y b' hy ib => by
      have := h (n + 1) y b' (by simpa using hy) (by rw [show k + (n + 1) = k + 1 + n by omega]; exact ib)
      rw [show k + 1 + n + 1 = k + (n + 1) + 1 by omega]
      exact this) i1
    refine ⟨b2, ?_, by rw [List.length_cons, show k + (r.length + 1) = k + 1 + r.length by omega]; exact i2⟩
    show (f x b).bind _ = _
    rw [e1]
    exact e2
theorem forS_idx {ρ α β : Type} {f : α → β → Option (Flow ρ β)} {I : Nat → β → Prop} : ∀ (xs : List α) (k : Nat) (b : β), (∀ n x b, xs[n]? = some x → I (k + n) b → ∃ b', f x b = some (.go b') ∧ I (k + n + 1) b') → I k b → ∃ b', forS f xs b = some (.go b') ∧ I (k + xs.length) b'
  | [], k, b, _, i => ⟨b, rfl, i⟩
  | x :: r, k, b, h, i => by
    obtain ⟨b1, e1, i1⟩ := h 0 x b rfl i
    obtain ⟨b2, e2, i2⟩ := forS_idx (I := I) r (k + 1) b1 (fun n y b' hy ib => by
      have := h (n + 1) y b' (by simpa using hy) (by rw [show k + (n + 1) = k + 1 + n by omega]; exact ib)
      rw [show k + 1 + n + 1 = k + (n + 1) + 1 by omega]
      exact this) i1
    refine ⟨b2, ?_, by rw [List.length_cons, show k + (r.length + 1) = k + 1 + r.length by omega]; exact i2⟩
    show (f x b).bind _ = _
    rw [e1]
    exact e2
theorem rangeZ_get {lo hi : Int} {n : Nat} {x : Int} (h : (rangeZ lo hi)[n]? = some x) : x = lo + (n : Int) ∧ (n : Int) < hi - lo := by
  have l := (List.getElem?_eq_some_iff.mp h).1
  rw [rangeZ_len] at l
  unfold rangeZ at h
  rw [List.getElem?_map, List.getElem?_range l] at h
  exact ⟨(Option.some.inj h).symm, by omega⟩
/-- a loop over range(m) that always goes on -/
theorem forF_rng {β : Type} {f : Int → β → Option β} (I : Nat → β → Prop) {m : Int} {b : β} (h0 : I 0 b) (h : ∀ (n : Nat) b, (n : Int) < m → I n b → ∃ b', f (n : Int) b = some b' ∧ I (n + 1) b') : ∃ b', forF f (rangeZ 0 m) b = some b' ∧ I m.toNat b' := by
  obtain ⟨b', e, i⟩ := forF_idx (f := f) (I := I) (rangeZ 0 m) 0 b (fun n x b hx ib => by
    obtain ⟨rfl, hm⟩ := rangeZ_get hx
    rw [Nat.zero_add] at ib ⊢
    obtain ⟨b', e, i⟩ := h n b (by omega) ib
    exact ⟨b', by rw [show (0 : Int) + (n : Int) = n by omega]; exact e, i⟩) h0
  refine ⟨b', e, ?_⟩
  rw [Nat.zero_add, rangeZ_len, Int.sub_zero] at i
  exact i
theorem forS_rng {ρ β : Type} {f : Int → β → Option (Flow ρ β)} (I : Nat → β → Prop) {m : Int} {b : β} (h0 : I 0 b) (h : ∀ (n : Nat) b, (n : Int) < m → I n b → ∃ b', f (n : Int) b = some (.go b') ∧ I (n + 1) b') : ∃ b', forS f (rangeZ 0 m) b = some (.go b') ∧ I m.toNat b' := by
  obtain ⟨b', e, i⟩ := forS_idx (f := f) (I := I) (rangeZ 0 m) 0 b (fun n x b hx ib => by
    obtain ⟨rfl, hm⟩ := rangeZ_get hx
    rw [Nat.zero_add] at ib ⊢
    obtain ⟨b', e, i⟩ := h n b (by omega) ib
    exact ⟨b', by rw [show (0 : Int) + (n : Int) = n by omega]; exact e, i⟩) h0
  refine ⟨b', e, ?_⟩
  rw [Nat.zero_add, rangeZ_len, Int.sub_zero] at i
  exact i
/-- enumerate, from k on -/
def enumF {α : Type} : Int → List α → List (Int × α)
  | _, [] => []
  | k, x :: r => (k, x) :: enumF (k + 1) r
theorem enumZ_eq {α : Type} (xs : List α) : enumZ xs = enumF 0 xs := by
  have key : ∀ (xs : List α) (k : Nat), ((List.range xs.length).map fun (i : Nat) => ((k + i : Nat) : Int)).zip xs = enumF (k : Int) xs := fun xs => by
    induction xs with
    | nil => intro k; rfl
    | cons x r ih =>
      intro k
      rw [List.length_cons, List.range_succ_eq_map, List.map_cons, List.map_map, List.zip_cons_cons]
      show (((k + 0 : Nat) : Int), x) :: _ = ((k : Int), x) :: enumF ((k : Int) + 1) r
      have := ih (k + 1)
      rw [Nat.add_zero]
      congr 1
      have e : ((k + 1 : Nat) : Int) = (k : Int) + 1 := by omega
      rw [← e, ← this]
      congr 2
      funext i
      show ((k + (i + 1) : Nat) : Int) = ((k + 1 + i : Nat) : Int)
      omega
  have := key xs 0
  unfold enumZ rangeZ
  rw [Int.sub_zero, Int.toNat_natCast]
  refine Eq.trans ?_ this
  congr 2
end TP

namespace TP
open PySem PySem.Spec PyProof.Rows L2
section
variable {α β γ μ : Type}
theorem mapO_eq {f : α → Option β} {g : α → β} : ∀ {xs : List α}, (∀ x ∈ xs, f x = some (g x)) → mapO f xs = some (xs.map g)
  | [], _ => rfl
  | x :: r, h => by
    show (f x).bind _ = _
    rw [h x List.mem_cons_self, Option.bind_some, mapO_eq fun y hy => h y (List.mem_cons_of_mem _ hy)]
    rfl
theorem mapO_ex {f : α → Option β} {R : β → Prop} : ∀ {xs : List α}, (∀ x ∈ xs, ∃ y, f x = some y ∧ R y) → ∃ ys, mapO f xs = some ys ∧ ys.length = xs.length ∧ ∀ y ∈ ys, R y
  | [], _ => ⟨[], rfl, rfl, fun _ h => nomatch h⟩
  | x :: r, h => by
    obtain ⟨y, e, hy⟩ := h x List.mem_cons_self
    obtain ⟨ys, e2, l, hs⟩ := mapO_ex fun y hy => h y (List.mem_cons_of_mem _ hy)
    refine ⟨y :: ys, ?_, congrArg Nat.succ l, fun z hz => ?_⟩
    · show (f x).bind _ = _
      rw [e, Option.bind_some, e2]
      rfl
    · rcases List.mem_cons.mp hz with rfl | hz
      · exact hy
      · exact hs z hz
/-- a comprehension that draws, with a fact of the items -/
theorem mapS_mem {f : α → μ → Option (β × μ)} {R : β → Prop} : ∀ {xs : List α} (s : μ), (∀ x ∈ xs, ∀ s, ∃ y s', f x s = some (y, s') ∧ R y) → ∃ ys s', mapS f xs s = some (ys, s') ∧ ys.length = xs.length ∧ ∀ y ∈ ys, R y
  | [], s, _ => ⟨[], s, rfl, rfl, fun _ h => nomatch h⟩
  | x :: r, s, h => by
    obtain ⟨y, s1, e, hy⟩ := h x List.mem_cons_self s
    obtain ⟨ys, s2, e2, l, hs⟩ := mapS_mem s1 fun y hy => h y (List.mem_cons_of_mem _ hy)
    refine ⟨y :: ys, s2, ?_, congrArg Nat.succ l, fun z hz => ?_⟩
    · show (f x s).bind _ = _
      rw [e]
      show (mapS f r s1).bind _ = _
      rw [e2]
      rfl
    · rcases List.mem_cons.mp hz with rfl | hz
      · exact hy
      · exact hs z hz
theorem forF_mem {f : α → β → Option β} {I : β → Prop} : ∀ {xs : List α} {b : β}, I b → (∀ x ∈ xs, ∀ b, I b → ∃ b', f x b = some b' ∧ I b') → ∃ b', forF f xs b = some b' ∧ I b'
  | [], b, i, _ => ⟨b, rfl, i⟩
  | x :: r, b, i, h => by
    obtain ⟨b1, e, i1⟩ := h x List.mem_cons_self b i
    obtain ⟨b2, e2, i2⟩ := forF_mem i1 fun y hy => h y (List.mem_cons_of_mem _ hy)
    refine ⟨b2, ?_, i2⟩
    show (f x b).bind _ = _
    rw [e]
    exact e2
theorem forS_mem {ρ : Type} {f : α → β → Option (Flow ρ β)} {I : β → Prop} : ∀ {xs : List α} {b : β}, I b → (∀ x ∈ xs, ∀ b, I b → ∃ b', f x b = some (.go b') ∧ I b') → ∃ b', forS f xs b = some (.go b') ∧ I b'
  | [], b, i, _ => ⟨b, rfl, i⟩
  | x :: r, b, i, h => by
    obtain ⟨b1, e, i1⟩ := h x List.mem_cons_self b i
    obtain ⟨b2, e2, i2⟩ := forS_mem i1 fun y hy => h y (List.mem_cons_of_mem _ hy)
    refine ⟨b2, ?_, i2⟩
    show (f x b).bind _ = _
    rw [e]
    exact e2
/-- the loop by places: what is true behind n items -/
theorem forF_take {f : α → β → Option β} {I : List α → β → Prop} {xs : List α} {b : β} (h0 : I [] b) (h : ∀ p x r b, xs = p ++ x :: r → I p b → ∃ b', f x b = some b' ∧ I (p ++ [x]) b') : ∃ b', forF f xs b = some b' ∧ I xs b' := by
  have key : ∀ (r p : List α) (b : β), xs = p ++ r → I p b → ∃ b', forF f r b = some b' ∧ I xs b' := fun r => by
    induction r with
    | nil => intro p b e i; rw [List.append_nil] at e; exact ⟨b, rfl, e ▸ i⟩
    | cons x r ih =>
      intro p b e i
      obtain ⟨b1, e1, i1⟩ := h p x r b e i
      obtain ⟨b2, e2, i2⟩ := ih (p ++ [x]) b1 (by rw [e]; simp) i1
      refine ⟨b2, ?_, i2⟩
      show (f x b).bind _ = _
      rw [e1]
      exact e2
  exact key xs [] b rfl h0
theorem forS_take {ρ : Type} {f : α → β → Option (Flow ρ β)} {I : List α → β → Prop} {xs : List α} {b : β} (h0 : I [] b) (h : ∀ p x r b, xs = p ++ x :: r → I p b → ∃ b', f x b = some (.go b') ∧ I (p ++ [x]) b') : ∃ b', forS f xs b = some (.go b') ∧ I xs b' := by
  have key : ∀ (r p : List α) (b : β), xs = p ++ r → I p b → ∃ b', forS f r b = some (.go b') ∧ I xs b' := fun r => by
    induction r with
    | nil => intro p b e i; rw [List.append_nil] at e; exact ⟨b, rfl, e ▸ i⟩
    | cons x r ih =>
      intro p b e i
      obtain ⟨b1, e1, i1⟩ := h p x r b e i
      obtain ⟨b2, e2, i2⟩ := ih (p ++ [x]) b1 (by rw [e]; simp) i1
      refine ⟨b2, ?_, i2⟩
      show (f x b).bind _ = _
      rw [e1]
      exact e2
  exact key xs [] b rfl h0
theorem str_len1 {c : Nat} : (⟨#[c]⟩ : Str).length = 1 := rfl
theorem str_app_len (x y : Str) : (x ++ y).length = x.length + y.length := by
  show (x.cps ++ y.cps).size = _
  rw [Array.size_append]; rfl
/-- == of data that are compared by their terms -/
theorem EqD.eqvB {K : PySem.W.Frag} {τ : Ty α} {d : α → PyData} {n : Nat} (E : EqD K τ d n) [DecidableEq α] (x y : α) : PyData.eqv (d x) (d y) = decide (x = y) := Bool.eq_iff_iff.mpr ((E.eqv x y).trans decide_eq_true_iff.symm)
theorem atI_lit {xs : List α} {i : Int} (h : 0 ≤ i) (l : i < xs.length) : ∃ x, L2.atI xs i = some x ∧ x ∈ xs := by
  rw [atI_of h]
  obtain ⟨k, rfl⟩ := Int.eq_ofNat_of_zero_le h
  rw [Int.toNat_natCast]
  have hk : k < xs.length := by omega
  exact ⟨xs[k], List.getElem?_eq_getElem hk, List.getElem_mem hk⟩
/-- a loop that looks at each item and may say no -/
theorem forS_all {ρ : Type} {f : α → Unit → Option (Flow ρ Unit)} {p : α → Bool} {r : ρ} : ∀ {xs : List α}, (∀ x ∈ xs, f x () = some (if p x = true then .go () else .ret r)) → forS f xs () = some (if xs.all p = true then .go () else .ret r)
  | [], _ => rfl
  | x :: t, h => by
    show (f x ()).bind _ = _
    rw [h x List.mem_cons_self, bsome]
    cases hp : p x with
    | true =>
      rw [if_pos rfl, List.all_cons, hp, Bool.true_and]
      exact forS_all fun y hy => h y (List.mem_cons_of_mem _ hy)
    | false =>
      rw [if_neg Bool.false_ne_true, List.all_cons, hp, Bool.false_and, if_neg Bool.false_ne_true]
      rfl
theorem rangeZ_mem {lo hi x : Int} (h : x ∈ rangeZ lo hi) : lo ≤ x ∧ x < hi := by
  unfold rangeZ at h
  obtain ⟨i, hi', rfl⟩ := List.mem_map.mp h
  have := List.mem_range.mp hi'
  omega
theorem rangeZ_map (n : Nat) (f : Int → α) : (rangeZ 0 (n : Int)).map f = (List.range n).map fun (k : Nat) => f (k : Int) := by
  unfold rangeZ
  rw [List.map_map, Int.sub_zero, Int.toNat_natCast]
  refine List.map_congr_left fun k _ => ?_
  show f (0 + (k : Int)) = f k
  rw [Int.zero_add]
theorem atI_nat {xs : List α} {k : Nat} {x : α} (h : xs[k]? = some x) : L2.atI xs (k : Int) = some x := by
  rw [atI_of (by omega), Int.toNat_natCast, h]
theorem fmO_eq {f : α → Option (Option β)} {p : α → Bool} {g : α → β} : ∀ {xs : List α}, (∀ x ∈ xs, f x = some (if p x = true then some (g x) else none)) → fmO f xs = some ((xs.filter p).map g)
  | [], _ => rfl
  | x :: t, h => by
    show (f x).bind _ = _
    rw [h x List.mem_cons_self, bsome, fmO_eq fun y hy => h y (List.mem_cons_of_mem _ hy), bsome]
    cases hp : p x with
    | true => rw [if_pos rfl, List.filter_cons_of_pos hp]; rfl
    | false => rw [if_neg Bool.false_ne_true, List.filter_cons_of_neg (by rw [hp]; exact Bool.false_ne_true)]
end
end TP

namespace TP
open PySem PySem.Spec PyProof.Rows L2
/-! ### exceptions -/
/-- a value, or an exception -/
inductive Res (ε α : Type)
  | ok (a : α) | er (e : ε)
deriving DecidableEq
def Res.thn {ε α γ : Type} (g : ε → Option γ) (k : α → Option γ) : Res ε α → Option γ
  | .ok a => k a
  | .er e => g e
section
variable {ε α γ : Type} {g : ε → Option γ} {k : α → Option γ} {y : γ}
theorem rok_inv {a : α} (h : Res.thn g k (.ok a) = some y) : k a = some y := h
theorem rer_inv {e : ε} (h : Res.thn g k (.er e) = some y) : g e = some y := h
end
section
variable {μ : Type} {S : List Addr} {Z0 H0 : Hp} {M : Mu μ} {σ : L2.St} {Z H : Hp} {s s' s1 s2 s3 : μ} {ta tb tc te : TE} {t : TA} {K : PySem.W.Frag} {D : Ends} {u w : TS} {X : Hp → Prop}
/-- the expression raises: X is asked of the heap then -/
def EvE (M : Mu μ) (t : TE) (σ : L2.St) (Z H : Hp) (s : μ) (X : Hp → Prop) (s' : μ) : Prop :=
  ∀ Z1 H1, Same Z Z1 → SameX M.fp H H1 → Same Z1 H1 → M.m s Z1 H1 → ∀ Q : VK, (∀ Z2 H2, Step M.fp Z1 H1 Z2 H2 → M.m s' Z2 H2 → X H2) → t σ H1 Q
def EvAE (M : Mu μ) (t : TA) (σ : L2.St) (Z H : Hp) (s : μ) (X : Hp → Prop) (s' : μ) : Prop :=
  ∀ Z1 H1, Same Z Z1 → SameX M.fp H H1 → Same Z1 H1 → M.m s Z1 H1 → ∀ Q : List V → Hp → Prop, (∀ Z2 H2, Step M.fp Z1 H1 Z2 H2 → M.m s' Z2 H2 → X H2) → t σ H1 Q
def EvTE (M : Mu μ) (t : TT) (σ : L2.St) (Z H : Hp) (s : μ) (X : Hp → Prop) (s' : μ) : Prop :=
  ∀ Z1 H1, Same Z Z1 → SameX M.fp H H1 → Same Z1 H1 → M.m s Z1 H1 → ∀ Q : Bool → Hp → Prop, (∀ Z2 H2, Step M.fp Z1 H1 Z2 H2 → M.m s' Z2 H2 → X H2) → t σ H1 Q
/-- for arguments of which Rs is true the promise raises: the class cls -/
def CallE (M : Mu μ) (sp : Sp) (E : XK) (Rs : Ra M.fp) (s : μ) (cls : Value) (s' : μ) : Prop :=
  ∀ Z H vs, Same Z H → M.m s Z H → Rs.r Z H vs → ∀ Q : VK, (∀ Z2 H2, Step M.fp Z H Z2 H2 → M.m s' Z2 H2 → E cls none H2) → sp vs H Q E
def InitE (M : Mu μ) (C : Addr) (sp : Sp) (E : XK) (Rs : Ra M.fp) (s : μ) (cls : Value) (s' : μ) : Prop :=
  ∀ Z H vs x dx, Same Z H → M.m s Z H → Rs.r Z H vs → H x = some (.ins C dx []) → Z x = none → x ∉ M.fp → ∀ Q : VK, (∀ Z2 H2, Step (x :: M.fp) Z H Z2 H2 → M.m s' Z2 H2 → E cls none H2) → sp (.ref x :: vs) H Q E
theorem eae_head (ha : EvE M ta σ Z H s X s1) : EvAE M (tCons ta t) σ Z H s X s1 := fun Z1 H1 a b c d _ q => ha Z1 H1 a b c d _ q
theorem eae_tail {R : Rr M.fp} (ha : Ev M ta σ Z H s R s1) (hr : EvAE M t σ Z H s1 X s2) : EvAE M (tCons ta t) σ Z H s X s2 :=
  fun Z1 H1 a b c d _ q => ha Z1 H1 a b c d _ fun _ Z2 H2 e m _ => hr Z2 H2 (a.trans e.z) (b.trans e.h) e.s m _ fun Z3 H3 e2 m2 => q Z3 H3 (e.trans e2) m2
theorem eve_args {sp : Sp} {E : XK} {dvs : List V} (ha : EvAE M t σ Z H s X s1) : EvE M (tCall sp dvs E t) σ Z H s X s1 := fun Z1 H1 a b c d _ q => ha Z1 H1 a b c d _ q
theorem eve_cb {r : List V → Hp → VK → Prop} (ha : EvAE M t σ Z H s X s1) : EvE M (tCB r t) σ Z H s X s1 := fun Z1 H1 a b c d _ q => ha Z1 H1 a b c d _ q
theorem eve_tup (ha : EvAE M t σ Z H s X s1) : EvE M (tTup t) σ Z H s X s1 := fun Z1 H1 a b c d _ q => ha Z1 H1 a b c d _ q
theorem eve_lst (ha : EvAE M t σ Z H s X s1) : EvE M (tLst t) σ Z H s X s1 := fun Z1 H1 a b c d _ q => ha Z1 H1 a b c d _ q
theorem eve_left {r : R2} (ha : EvE M ta σ Z H s X s1) : EvE M (tOp r ta tb) σ Z H s X s1 := fun Z1 H1 a b c d _ q => ha Z1 H1 a b c d _ q
theorem eve_right {r : R2} {R : Rr M.fp} (ha : Ev M ta σ Z H s R s1) (hb : EvE M tb σ Z H s1 X s2) : EvE M (tOp r ta tb) σ Z H s X s2 :=
  fun Z1 H1 a b c d _ q => ha Z1 H1 a b c d _ fun _ Z2 H2 e m _ => hb Z2 H2 (a.trans e.z) (b.trans e.h) e.s m _ fun Z3 H3 e2 m2 => q Z3 H3 (e.trans e2) m2
theorem eve_fld {f : Str} (ha : EvE M ta σ Z H s X s1) : EvE M (tFld K ta f) σ Z H s X s1 := fun Z1 H1 a b c d _ q => ha Z1 H1 a b c d _ q
theorem eve_call {sp : Sp} {E : XK} {Rs : Ra M.fp} {cls : Value} (C : CallE M sp E Rs s1 cls s2) (ha : EvA M t σ Z H s Rs s1) : EvE M (tCall sp [] E t) σ Z H s (E cls none) s2 :=
  fun Z1 H1 a b c d Q q => ha Z1 H1 a b c d _ fun vs Z2 H2 e m rs => by
    rw [List.append_nil]
    exact C Z2 H2 vs e.s m rs Q fun Z3 H3 e2 m2 => q Z3 H3 (e.trans e2) m2
theorem eve_meth {α : Type} {τ : Ty α} {x : α} {C' : Addr} {m : Str} {sp : Sp} {E : XK} {Rs : Ra M.fp} {cls : Value} (O : ObjOf τ C' m) (C : CallE M sp E (rac (ty τ x) Rs) s2 cls s3) (hx : Ev M ta σ Z H s (ty τ x) s1) (ha : EvA M t σ Z H s1 Rs s2) : EvE M (tMeth C' m sp [] E ta t) σ Z H s (E cls none) s3 :=
  fun Z1 H1 a b c d Q q => hx Z1 H1 a b c d _ fun v Z2 H2 e mm rv => by
    obtain ⟨p, dx, fs, rfl, hp, l⟩ := O _ _ _ rv
    refine ⟨p, dx, fs, rfl, e.s _ _ hp, l, ha Z2 H2 (a.trans e.z) (b.trans e.h) e.s mm _ fun vs Z3 H3 e2 m2 rs => ?_⟩
    rw [List.append_nil]
    exact C Z3 H3 _ e2.s m2 ⟨_, vs, rfl, τ.mono e2.z rv, rs⟩ Q fun Z4 H4 e3 m3 => q Z4 H4 ((e.trans e2).trans e3) m3
theorem eve_methA {α : Type} {τ : Ty α} {x : α} {C' : Addr} {m : Str} {sp : Sp} {E : XK} (O : ObjOf τ C' m) (hx : Ev M ta σ Z H s (ty τ x) s1) (ha : EvAE M t σ Z H s1 X s2) : EvE M (tMeth C' m sp [] E ta t) σ Z H s X s2 :=
  fun Z1 H1 a b c d Q q => hx Z1 H1 a b c d _ fun v Z2 H2 e mm rv => by
    obtain ⟨p, dx, fs, rfl, hp, l⟩ := O _ _ _ rv
    exact ⟨p, dx, fs, rfl, e.s _ _ hp, l, ha Z2 H2 (a.trans e.z) (b.trans e.h) e.s mm _ fun Z3 H3 e2 m2 => q Z3 H3 (e.trans e2) m2⟩
theorem eve_methO {C' : Addr} {m : Str} {sp : Sp} {E : XK} (hx : EvE M ta σ Z H s X s1) : EvE M (tMeth C' m sp [] E ta t) σ Z H s X s1 := fun Z1 H1 a b c d _ q => hx Z1 H1 a b c d _ q
theorem eve_makeA {C : Addr} {sp : Sp} {E : XK} (ha : EvAE M t σ Z H s X s1) : EvE M (tMake C sp [] E t) σ Z H s X s1 := fun Z1 H1 a b c d _ q => ha Z1 H1 a b c d _ q
theorem eve_makeKA {C : Addr} {n k : Nat} {sp : Sp} {E : XK} {gV : List V → List V → List V} {tk : TA} (ha : EvAE M t σ Z H s X s1) : EvE M (tMakeK C n k sp gV E t tk) σ Z H s X s1 := fun Z1 H1 a b c d _ q => ha Z1 H1 a b c d _ q
theorem Step.drop {S : List Addr} {Z H Z1 H1 : Hp} {x : Addr} (g : Step (x :: S) Z H Z1 H1) (hx : H x = none) : Step S Z H Z1 H1 := g.weak fun a h => by
  rcases List.mem_cons.mp h with e | h
  · exact .inr (e ▸ hx)
  · exact .inl h
theorem eve_make {C : Addr} {sp : Sp} {E : XK} {Rs : Ra M.fp} {cls : Value} (I : InitE M C sp E Rs s1 cls s2) (ha : EvA M t σ Z H s Rs s1) : EvE M (tMake C sp [] E t) σ Z H s (E cls none) s2 :=
  fun Z1 H1 a b c d Q q => ha Z1 H1 a b c d _ fun vs Z2 H2 e m rs x dx hx hd ne => by
    rw [List.append_nil]
    have st := Step.dict (C := C) e.s hx hd ne
    have nf : x ∉ M.fp := fun h => (M.al m x h).1 hx
    refine I Z2 _ vs x dx st.s (M.pure st m) (Rs.st st.pure rs) upd_same (same_none e.s hx) nf _ fun Z3 H3 e2 m2 => ?_
    exact q _ _ (e.trans (((st.pure (S := x :: M.fp)).trans e2).drop hx)) m2
theorem eve_makeK {C : Addr} {n k : Nat} {sp : Sp} {E : XK} {Rs Rk Rs' : Ra M.fp} {cls : Value} {gV : List V → List V → List V} {tk : TA} (I : InitE M C sp E Rs' s2 cls s3) (ha : EvA M t σ Z H s Rs s1) (hk : EvA M tk σ Z H s1 Rk s2)
    (hg : ∀ Z H vs zs x, Rs.r Z H vs → Rk.r Z H zs → vs.length = n ∧ zs.length = k ∧ ∃ ws, gV (.ref x :: vs) zs = .ref x :: ws ∧ Rs'.r Z H ws) : EvE M (tMakeK C n k sp gV E t tk) σ Z H s (E cls none) s3 :=
  fun Z1 H1 a b c d Q q => ha Z1 H1 a b c d _ fun vs Z2 H2 e m rs => hk Z2 H2 (a.trans e.z) (b.trans e.h) e.s m _ fun zs Z3 H3 e1 m1 rk => by
    have rs3 := Rs.st e1 rs
    obtain ⟨l1, l2, _⟩ := hg Z3 H3 vs zs 0 rs3 rk
    refine ⟨l1, l2, fun x dx hx hd ne => ?_⟩
    obtain ⟨_, _, ws, eg, rw'⟩ := hg Z3 H3 vs zs x rs3 rk
    rw [eg]
    have st := Step.dict (C := C) e1.s hx hd ne
    have nf : x ∉ M.fp := fun h => (M.al m1 x h).1 hx
    refine I Z3 _ ws x dx st.s (M.pure st m1) (Rs'.st st.pure rw') upd_same (same_none e1.s hx) nf _ fun Z4 H4 e2 m2 => ?_
    exact q _ _ ((e.trans e1).trans (((st.pure (S := x :: M.fp)).trans e2).drop hx)) m2
/-- defaults for all that are not written -/
theorem ev_makeD {C : Addr} {dvs : List V} {sp : Sp} {E : XK} {Rs Rs' : Ra M.fp} {R : Rr M.fp} (I : InitS M C sp E Rs' s1 R s2) (ha : EvA M t σ Z H s Rs s1) (hg : ∀ Z H vs, Rs.r Z H vs → Rs'.r Z H (vs ++ dvs)) : Ev M (tMake C sp dvs E t) σ Z H s R s2 :=
  fun Z1 H1 a b c d Q q => ha Z1 H1 a b c d _ fun vs Z2 H2 e m rs x dx hx hd ne => by
    have st := Step.dict (C := C) e.s hx hd ne
    have nf : x ∉ M.fp := fun h => (M.al m x h).1 hx
    refine I Z2 _ (vs ++ dvs) x dx st.s (M.pure st m) (hg _ _ _ (Rs.st st.pure rs)) upd_same (same_none e.s hx) nf _ fun Z3 H3 o e2 m2 ho rv => ⟨rfl, ?_⟩
    have hz3 : Z3 x = none := e2.n x (by rw [upd_same]; exact fun z => nomatch z) (same_none e.s hx)
    have e3 : Step M.fp Z2 H2 (upd Z3 x o) H3 := ((st.pure (S := x :: M.fp)).trans e2).freeze hx ho hz3
    refine q _ _ _ (e.trans e3) (M.loc (same_upd hz3) (fun _ _ _ e => e) (fun a ha _ z => ?_) m2) rv
    rw [upd_ne (fun q => nf (by rw [← q]; exact ha))]
    exact z
theorem eve_makeD {C : Addr} {dvs : List V} {sp : Sp} {E : XK} {Rs Rs' : Ra M.fp} {cls : Value} (I : InitE M C sp E Rs' s1 cls s2) (ha : EvA M t σ Z H s Rs s1) (hg : ∀ Z H vs, Rs.r Z H vs → Rs'.r Z H (vs ++ dvs)) : EvE M (tMake C sp dvs E t) σ Z H s (E cls none) s2 :=
  fun Z1 H1 a b c d Q q => ha Z1 H1 a b c d _ fun vs Z2 H2 e m rs x dx hx hd ne => by
    have st := Step.dict (C := C) e.s hx hd ne
    have nf : x ∉ M.fp := fun h => (M.al m x h).1 hx
    refine I Z2 _ (vs ++ dvs) x dx st.s (M.pure st m) (hg _ _ _ (Rs.st st.pure rs)) upd_same (same_none e.s hx) nf _ fun Z3 H3 e2 m2 => ?_
    exact q _ _ (e.trans (((st.pure (S := x :: M.fp)).trans e2).drop hx)) m2
/-! a call that is known not to raise -/
end
def Res.val {ε α : Type} (o : Option (Res ε α)) : Option α := o.bind (Res.thn (fun _ => none) some)
def Res.valS {ε α μ : Type} (o : Option (Res ε α × μ)) : Option (α × μ) := o.bind fun p => Res.thn (fun _ => none) (fun a => some (a, p.2)) p.1
theorem val_inv {ε α : Type} {o : Option (Res ε α)} {v : α} (h : Res.val o = some v) : o = some (.ok v) := by
  cases o with
  | none => cases h
  | some r =>
    cases r with
    | ok a => rw [show a = v from Option.some.inj h]
    | er e => cases h
theorem valS_inv {ε α μ : Type} {o : Option (Res ε α × μ)} {v : α × μ} (h : Res.valS o = some v) : o = some (.ok v.1, v.2) := by
  cases o with
  | none => cases h
  | some r =>
    obtain ⟨r, s⟩ := r
    cases r with
    | ok a => rw [← Option.some.inj h]
    | er e => cases h
section
variable {μ : Type} {S : List Addr} {Z0 H0 : Hp} {M : Mu μ} {σ : L2.St} {Z H : Hp} {s s' s1 s2 s3 : μ} {ta tb tc te : TE} {t : TA} {K : PySem.W.Frag} {D : Ends} {u w : TS} {X : Hp → Prop}
/-! tests that raise -/
theorem ete_val (h : EvE M te σ Z H s X s1) : EvTE M (tB te) σ Z H s X s1 := fun Z1 H1 p q r d _ k => h Z1 H1 p q r d _ k
theorem ete_cmp (h : EvE M te σ Z H s X s1) : EvTE M (tTest te) σ Z H s X s1 := fun Z1 H1 p q r d _ k => h Z1 H1 p q r d _ k
theorem ete_not {tA : TT} (h : EvTE M tA σ Z H s X s1) : EvTE M (tNot tA) σ Z H s X s1 := fun Z1 H1 p q r d _ k => h Z1 H1 p q r d _ k
/-! statements that raise -/
theorem st_setE {g : TG} (P : Pt S Z0 H0 M Z H s) (e : EvE M te σ Z H s X s1) (k : ∀ Z1 H1, Step M.fp Z H Z1 H1 → Pt S Z0 H0 M Z1 H1 s1 → X H1) : tAsg te g D σ H :=
  e Z H (Same.refl _) SameX.refl P.sub P.m _ fun Z1 H1 e m => k Z1 H1 e (P.next e m)
theorem st_retE (P : Pt S Z0 H0 M Z H s) (e : EvE M te σ Z H s X s1) (k : ∀ Z1 H1, Step M.fp Z H Z1 H1 → Pt S Z0 H0 M Z1 H1 s1 → X H1) : tRet te D σ H :=
  e Z H (Same.refl _) SameX.refl P.sub P.m _ fun Z1 H1 e m => k Z1 H1 e (P.next e m)
theorem st_exprE (P : Pt S Z0 H0 M Z H s) (e : EvE M te σ Z H s X s1) (k : ∀ Z1 H1, Step M.fp Z H Z1 H1 → Pt S Z0 H0 M Z1 H1 s1 → X H1) : tDrop te D σ H :=
  e Z H (Same.refl _) SameX.refl P.sub P.m _ fun Z1 H1 e m => k Z1 H1 e (P.next e m)
theorem st_ifE {tt : TT} (P : Pt S Z0 H0 M Z H s) (e : EvTE M tt σ Z H s X s1) (k : ∀ Z1 H1, Step M.fp Z H Z1 H1 → Pt S Z0 H0 M Z1 H1 s1 → X H1) : tIfS tt u w D σ H :=
  e Z H (Same.refl _) SameX.refl P.sub P.m _ fun Z1 H1 e m => k Z1 H1 e (P.next e m)
/-- a field of the thing that is being made -/
theorem ev_selfF {α : Type} {τ : Ty α} {x : α} {i : Nat} {p C dx : Addr} {fs : List (Str × V)} {f : Str} {v : V} (hp : H p = some (.ins C dx fs)) (np : p ∉ M.fp) (hσ : σ[i]? = some (some (.ref p))) (c : Cls K C) (n : NoAttr K C f) (l : fs.lookup f = some v) (hv : τ.r Z v x) : Ev M (tFld K (tVar i) f) σ Z H s (ty τ x) s :=
  fun Z1 H1 a b c' d Q q => ⟨.ref p, hσ, p, C, dx, fs, v, rfl, b _ _ np hp, c, n, l, q _ _ _ (Step.refl c') d (τ.mono a hv)⟩
end
end TP
namespace TP
open PySem PySem.Spec PyProof.Rows L2

theorem pi_tupB {X : Cx} {K : PySem.W.Frag} (hK : X.K = K) {tg l : Expr} {tl : TE} (hl : PE X l tl) : PI X tg l (iTup K tl) := by
  subst hK
  exact pi_tup hl
theorem pi_listB {X : Cx} {K : PySem.W.Frag} (hK : X.K = K) {tg l : Expr} {tl : TE} (hl : PE X l tl) : PI X tg l (iList K tl) := by
  subst hK
  exact pi_list hl
def rLenB (K : PySem.W.Frag) : List V → Hp → VK → Prop := fun xs H Q => ∃ p ys, xs = [.ref p] ∧ (SqL K H p ys ∨ SqT K H p ys) ∧ Q (.int ys.length) H
def rListB (K : PySem.W.Frag) : List V → Hp → VK → Prop := fun xs H Q => ∃ p ys, xs = [.ref p] ∧ (SqL K H p ys ∨ SqT K H p ys) ∧ ∀ l, H l = none → Q (.ref l) (upd H l (.lst ys))
def rTupleB (K : PySem.W.Frag) : List V → Hp → VK → Prop := fun xs H Q => ∃ p ys, xs = [.ref p] ∧ ((SqL K H p ys ∧ ∀ l, H l = none → Q (.ref l) (upd H l (.tup ys))) ∨ (SqT K H p ys ∧ Q (.ref p) H))
theorem pe_fldB {X : Cx} {K : PySem.W.Frag} (hK : X.K = K) {e : Expr} {f : Str} {pos : Pos} {ta : TE} (he : PE X e ta) (hb : attributeBase e f X.env (eval e X.env) = eval e X.env) : PE X (.Attribute e f pos) (tFld K ta f) := by
  subst hK
  exact pe_fld he hb
end TP

namespace TP
open PySem PySem.Spec PyProof.Rows L2
theorem kit_self {K : PySem.W.Frag} {C : Addr} : PySem.W.kitOne K (.ref C) (.ref C) = some true := by
  unfold PySem.W.kitOne
  rw [if_pos (by simp)]
theorem kit_sub {K : PySem.W.Frag} {t : Value} {C : Addr} {v : Bool} (h1 : PySem.W.isClsIn K C = true) (h2 : PySem.W.typeIn K (.ref C) = some (.type "type")) (h3 : PySem.W.subIn K t (.ref C) = some v) (h4 : (t == .ref C) = false) : PySem.W.kitOne K t (.ref C) = some v := by
  unfold PySem.W.kitOne
  rw [h4, if_neg Bool.false_ne_true]
  unfold PySem.W.kitCls
  have h1' : (PySem.W.clsIn K C).isSome = true := h1
  simp only [h1', h2, Bool.true_and]
  simp [h3]
theorem kit_subN {K : PySem.W.Frag} {t : Value} {C : Addr} (h1 : PySem.W.isClsIn K C = true) (h2 : PySem.W.typeIn K (.ref C) = some (.type "type")) (h3 : PySem.W.subIn K t (.ref C) = some false) (h4 : PySem.W.subIn K (.ref C) (.ref C) = some true) : PySem.W.kitOne K t (.ref C) = some false := by
  refine kit_sub h1 h2 h3 ?_
  cases e : (t == .ref C) with
  | false => rfl
  | true =>
    have e' : t = .ref C := beq_iff_eq.mp e
    rw [e', h4] at h3
    cases h3
theorem nf_self {K : PySem.W.Frag} {C : Addr} : PySem.W.notFirst K C (.ref C) = true := by simp [PySem.W.notFirst]
theorem nf_sub {K : PySem.W.Frag} {C : Addr} {t : Value} (h : PySem.W.subIn K t (.ref C) = some false) : PySem.W.notFirst K C t = true := by simp [PySem.W.notFirst, h]
end TP

namespace TP
open PySem PySem.Spec PyProof.Rows L2
/-! ### slots of a block forgotten -/
theorem wipe_at {σ : L2.St} {j : Nat} : ∀ {vs : List Nat}, (wipe σ vs)[j]? = if j ∈ vs then (σ[j]?).map fun _ => none else σ[j]?
  | [] => by simp [wipe]
  | v :: vs => by
    unfold wipe
    by_cases h : v = j
    · subst h
      rw [if_pos List.mem_cons_self]
      by_cases hl : v < σ.length
      · rw [List.getElem?_set_self (by rw [wipe_length]; exact hl), List.getElem?_eq_getElem hl]; rfl
      · rw [List.getElem?_eq_none (by rw [List.length_set, wipe_length]; omega), List.getElem?_eq_none (by omega)]; rfl
    · rw [List.getElem?_set_ne h, wipe_at (vs := vs)]
      by_cases g : j ∈ vs
      · rw [if_pos g, if_pos (List.mem_cons_of_mem _ g)]
      · rw [if_neg g, if_neg (fun z => (List.mem_cons.mp z).elim (fun q => h q.symm) g)]
theorem wpe_z {σ : L2.St} {vs : List Nat} : wipe (wipe σ vs) vs = wipe σ vs := by
  refine List.ext_getElem? fun j => ?_
  rw [wipe_at, wipe_at]
  by_cases g : j ∈ vs
  · rw [if_pos g, if_pos g]; cases σ[j]? <;> rfl
  · rw [if_neg g, if_neg g]
theorem wpe_s {σ σ1 : L2.St} {vs : List Nat} {i : Nat} {x : Option V} (h : wipe σ1 vs = wipe σ vs) (m : i ∈ vs) : wipe (σ1.set i x) vs = wipe σ vs := by
  rw [← h]
  refine List.ext_getElem? fun j => ?_
  rw [wipe_at, wipe_at]
  by_cases g : j ∈ vs
  · rw [if_pos g, if_pos g]
    by_cases e : i = j
    · subst e
      by_cases hl : i < σ1.length
      · rw [List.getElem?_set_self hl, List.getElem?_eq_getElem hl]; rfl
      · rw [List.getElem?_eq_none (by rw [List.length_set]; omega), List.getElem?_eq_none (by omega)]
    · rw [List.getElem?_set_ne e]
  · rw [if_neg g, if_neg g, List.getElem?_set_ne (fun e => g (by rw [← e]; exact m))]
end TP

namespace TP
open PySem PySem.Spec PyProof.Rows L2
/-- the slots written out -/
theorem st_norm {nx : L2.St → Hp → Prop} {σ σ' : L2.St} {H : Hp} (e : σ = σ') (h : nx σ' H) : nx σ H := by
  rw [e]; exact h
end TP

/-! != of instances with an own ==, and == and != of such an instance with anything -/
namespace TPN
open PySem PySem.Spec PyProof.Rows L2
section
variable {M : Model} {prog : Program} {w : World} {A : Around} {E : Value → Shared → Prop} {s : Shared} {K : PySem.W.Frag} {x C f : Addr} {ox : Obj} {od : Option Obj} {b tb : Value}
theorem ifBound_ne {args : List Value} {Q : Option Value → Shared → Prop} (X : K.In s.heap) (I : PySem.W.InstAt s.heap x ox C od) (hs : PySem.W.findIn K (.ref C) "__ne__" = some (some (.builtin "object.__ne__")))
    (h : wpAny M A (call (.builtin "object.__ne__") (.ref x :: args)) (fun v => Q (some v)) E s) : wpAny M A (callSpecialIfBound? (.ref x) "__ne__" args) Q E s := by
  simp only [callSpecialIfBound?, bindSpecialIfBound?]
  refine wpAny_holding (wpAny_bind (wpAny_bind (wpAny_bind (I.type.here ((PySem.W.looks_findIn X hs).here ?_)))))
  refine wpAny_bind (wpAny_askSetting (wpAny_ite ?_))
  have fin : wpAny M A (call (.builtin "object.__ne__") ([.ref x] ++ args) >>= fun v => pure (some v)) Q E s := wpAny_bind (wpAny_mono h (fun v s' h' => wpAny_pure h') fun _ _ h' => h')
  split
  · exact wpAny_bind (wpAny_of_eq (F.cmp_object.ne.bind _) (wpAny_pure (by exact fin)))
  · exact wpAny_tryCatch (wpAny_bind (wpAny_of_eq (F.cmp_object.ne.bind _) (wpAny_pure (by exact fin))))
theorem entry_ne {Q : Fin → Shared → Prop} (hu : A.units < cLine) (X : K.In s.heap) (I : PySem.W.InstAt s.heap x ox C od) (hs : PySem.W.findIn K (.ref C) "__eq__" = some (some (.ref f))) (hf : PySem.W.isFn K (.ref f) = true)
    (h : wpAny M A (call (.ref f) [.ref x, b]) (fun v s' => ∃ r, v = .bool r ∧ Q (.done (.ret (.bool (!r)))) s') E s) : wpAny M A (Builtin.«object.__ne__» ⟨[.ref x, b], []⟩) Q E s := by
  unfold Builtin.«object.__ne__»
  repeat (first
    | with_reducible refine wpAny_cRoomFor hu ?_
    | (refine wpAny_bind (m := callSpecialIfBound? (.ref x) (Str.ofString "__eq__") [b]) (PySem.W.ifBound_K X I hs hf (wpAny_mono h (fun r s' hr => by
        obtain ⟨b, rfl, hq⟩ := hr
        repeat (first | exact hq | exact wpAny_pure hq | exact wpAny_truthy_bool hq | (refine wpAny_bind (m := truthy (.bool _)) (wpAny_truthy_bool ?_)) | wp_step)) fun _ _ e => e)))
    | wp_step)
theorem call_ne {Q : Value → Shared → Prop} (hu : A.units + 1 < cLine) (X : K.In s.heap) (I : PySem.W.InstAt s.heap x ox C od) (hm : PySem.W.mroIn K C (.type "object") = some true) (hs : PySem.W.findIn K (.ref C) "__eq__" = some (some (.ref f))) (hf : PySem.W.isFn K (.ref f) = true)
    (h : wpAny (model prog w) A.in1 (call (.ref f) [.ref x, b]) (fun v s' => ∃ r, v = .bool r ∧ Q (.bool (!r)) s') E s) :
    wpAny (model prog w) A (call (.builtin "object.__ne__") [.ref x, b]) Q E s :=
  wpAny_call (codeAny_call_builtin F.cmp_object.ne.plain F.cmpEntry_ne (PySem.W.check_slot F.cmpKind_ne F.cmpSplit_ne (I.type.andThen (PySem.W.looks_mroIn X hm)) (F.cmpArgs_ne _ _) (entry_ne (A := A.in1) hu X I hs hf (wpAny_mono h (fun v s' hv => by
    obtain ⟨r, e, q⟩ := hv
    exact ⟨r, e, q⟩) fun _ _ e => e))))
theorem ne_K {Q : Value → Shared → Prop} (hu : A.units + 1 < cLine) (X : K.In s.heap) (I : PySem.W.InstAt s.heap x ox C od) (hb : PySem.W.Looks (model prog w) s.heap (typeOf b) tb) (hn : PySem.W.notFirst K C tb = true)
    (hm : PySem.W.mroIn K C (.type "object") = some true) (hne : PySem.W.findIn K (.ref C) "__ne__" = some (some (.builtin "object.__ne__")))
    (hs : PySem.W.findIn K (.ref C) "__eq__" = some (some (.ref f))) (hf : PySem.W.isFn K (.ref f) = true)
    (h : wpAny (model prog w) A.in1 (call (.ref f) [.ref x, b]) (fun v s' => ∃ r, v = .bool r ∧ Q (.bool (!r)) s') E s) : wpAny (model prog w) A (richCompare .NotEq (.ref x) b) Q E s := by
  have one : wpAny (model prog w) A (tryCompare (.ref x) "__ne__" b) (fun r s' => ∃ v, r = some v ∧ Q v s') E s := by
    unfold tryCompare
    refine wpAny_bind (ifBound_ne X I hne (call_ne hu X I hm hs hf (wpAny_mono h (fun v s' hv => ?_) fun _ _ e => e)))
    obtain ⟨r, rfl, q⟩ := hv
    exact ⟨r, rfl, wpAny_pure ⟨_, rfl, q⟩⟩
  unfold richCompare
  simp only [oneThing_ref]
  refine wpAny_holding (wpAny_bind (wpAny_cRoomFor (by omega) ?_))
  rw [cmpInfo_NotEq]
  dsimp only
  refine wpAny_bind (I.type.here (wpAny_bind (hb.here ?_)))
  split
  · rename_i q
    have e : PySem.W.subIn K tb (.ref C) = some false := by
      rcases Bool.or_eq_true_iff.mp hn with e | e
      · rw [beq_iff_eq.mp e] at q; simp at q
      · exact beq_iff_eq.mp e
    refine wpAny_bind ((PySem.W.looks_subIn X e).here ?_)
    simp only [Bool.false_eq_true, if_false]
    refine wpAny_bind (wpAny_mono one (fun r s' z => ?_) fun _ _ e => e)
    obtain ⟨v, rfl, hq⟩ := z
    exact wpAny_pure hq
  · refine wpAny_bind (wpAny_pure ?_)
    simp only [Bool.false_eq_true, if_false]
    refine wpAny_bind (wpAny_mono one (fun r s' z => ?_) fun _ _ e => e)
    obtain ⟨v, rfl, hq⟩ := z
    exact wpAny_pure hq
end
end TPN
namespace TPN
open PySem PySem.Spec PyProof.Rows L2
/-- == (neg false) or != of x, an instance of a class with an own ==, with anything -/
def rOwnE (K : PySem.W.Frag) (C : Addr) (neg : Bool) (sp : Sp) (E : XK) : R2 := fun x y H Q => ∃ a dx fs t, x = .ref a ∧ H a = some (.ins C dx fs) ∧ TyX K H y t ∧ PySem.W.notFirst K C t = true ∧ sp [x, y] H (fun z H' => ∃ b, z = .bl b ∧ Q (.bl (b != neg)) H') E
theorem nf_self {K : PySem.W.Frag} {C : Addr} : PySem.W.notFirst K C (.ref C) = true := by simp [PySem.W.notFirst]
theorem op_ownE {X : Cx} {CX : CXT} {C f : Addr} {fd : FuncData} {ps : List Str} {sp : Sp} {n : Nat} {E : XK} (M : Meth X.K C "__eq__" f) (F : FnOk X.prog X.w X.K X.mg X.base CX n f fd ps sp) (hr : Room n X.A)
    (hb : Binds X.K fd ps []) (hx : Passes CX X E) : OpR X (compareOp .Eq) (rOwnE X.K C false sp E) := by
  intro pins s σ H x y v u Q I rx ry h
  obtain ⟨a, dx, fs, t, rfl, ha, ty, hn, q⟩ := h
  cases (show v = Value.ref a from rx)
  obtain ⟨mA, J, _⟩ := ins_get I.hok ha
  obtain ⟨od, J, _⟩ := J.look
  obtain ⟨P, Z, p, _⟩ := kit_of I ry ty
  obtain ⟨m, hF⟩ := I.fr
  show wpAny (model X.prog X.w) X.A (richCompare .Eq (.ref a) u) _ _ _
  refine PySem.W.cmp_K (op := .Eq) (tb := t) hr.units0 hF I.ok.mod.kin J (Z.ty _ _ I.kIn p) hn M.at_ M.fn ?_
  refine wpAny_mono (run_fn (Q := fun z H' => ∃ b, z = .bl b ∧ Q (.bl (b != false)) H') (us := [.ref a, u]) (vs := [.ref a, y]) F hr hb .nil hx I (.cons rfl (.cons ry .nil)) (by simpa using q)) (fun w s' z => ?_) fun _ _ x => x
  obtain ⟨z', H', I', rz, b, ez, qz⟩ := z
  subst ez
  cases (show w = Value.bool b from rz)
  exact ⟨.bl b, H', I', rfl, by simpa using qz⟩
theorem op_ownNE {X : Cx} {CX : CXT} {C f : Addr} {fd : FuncData} {ps : List Str} {sp : Sp} {n : Nat} {E : XK} (hm : PySem.W.mroIn X.K C (.type "object") = some true) (hne : PySem.W.findIn X.K (.ref C) "__ne__" = some (some (.builtin "object.__ne__")))
    (M : Meth X.K C "__eq__" f) (F : FnOk X.prog X.w X.K X.mg X.base CX n f fd ps sp) (hr : Room (n + 1) X.A)
    (hb : Binds X.K fd ps []) (hx : ∀ (pins : List (Addr × Obj)) (σ : L2.St) (H : Hp) (s : Shared) (e : Value) (s' : Shared), Inv X pins σ H s → CX X.stack H s E e s' → X.xe e s') : OpR X (compareOp .NotEq) (rOwnE X.K C true sp E) := by
  intro pins s σ H x y v u Q I rx ry h
  obtain ⟨a, dx, fs, t, rfl, ha, ty, hn, q⟩ := h
  cases (show v = Value.ref a from rx)
  obtain ⟨mA, J, _⟩ := ins_get I.hok ha
  obtain ⟨od, J, _⟩ := J.look
  obtain ⟨P, Z, p, _⟩ := kit_of I ry ty
  show wpAny (model X.prog X.w) X.A (richCompare .NotEq (.ref a) u) _ _ _
  have hr1 : Room n X.A.in1 := hr.in1
  refine ne_K (A := X.A) (tb := t) (by have := hr1.units0; exact this) I.kIn J (Z.ty _ _ I.kIn p) hn hm hne M.at_ M.fn ?_
  have e0 : Env0 X.prog X.w X.K X.mg X.base X.A.in1 X.stack s H := I.env0.in1
  have r2 : Vals [V.ref a, y] [Value.ref a, u] := .cons rfl (.cons ry .nil)
  have hl : ([Value.ref a, u] : List Value).length = ps.length := by rw [← r2.length]; exact F.len _ _ _ _ q
  refine wpAny_call (codeAny_mono (F.run X.A.in1 X.stack s H ⟨[.ref a, u], []⟩ [.ref a, u] [.ref a, y] _ E hr1 e0 (by
    have := hb s [.ref a, u] I.kIn (by simpa using hl)
    simpa using this) r2 q) fun r s' hq => ?_)
  cases r with
  | error e => exact hx pins σ H s e s' I hq
  | ok fl =>
    cases fl with
    | ret w =>
      obtain ⟨z, H', I', rz, b, ez, qz⟩ := I.after hq
      subst ez
      cases (show w = Value.bool b from rz)
      exact ⟨b, rfl, .bl (!b), H', I', rfl, by simpa using qz⟩
    | next => exact False.elim hq
    | brk => exact False.elim hq
    | cont => exact False.elim hq
end TPN

namespace TPN
open PySem PySem.Spec PyProof.Rows L2 PySem.SeqAt
section
variable {prog : Program} {w : World} {A : Around} {E : Value → Shared → Prop} {s : Shared} {K : PySem.W.Frag} {y C f : Addr} {oy : Obj} {od : Option Obj}
/-- None == an instance: its own == is asked -/
theorem eq_none_ref {Q : Value → Shared → Prop} (hu : A.units < cLine) (X : K.In s.heap) (I : PySem.W.InstAt s.heap y oy C od) (hsub : PySem.W.subIn K (.ref C) (.type "NoneType") = some false)
    (hs : PySem.W.findIn K (.ref C) "__eq__" = some (some (.ref f))) (hf : PySem.W.isFn K (.ref f) = true)
    (h : wpAny (model prog w) A (call (.ref f) [.ref y, .none]) (fun v s' => ∃ r, v = .bool r ∧ Q (.bool r) s') E s) : wpAny (model prog w) A (richCompare .Eq .none (.ref y)) Q E s := by
  have one : wpAny (model prog w) A (tryCompare .none "__eq__" (.ref y)) (fun r s' => r = none ∧ s' = s) E s :=
    wpAny_tryCompare_declines (show s.TypeIs .none "NoneType" from rfl) F.slot_NoneType_eq (call_gives F.slot_NoneType_eq rfl F.entry_NoneType_eq (F.args_NoneType_eq_2 _ _) (NoneType___eq___none_ref_0 y) ⟨rfl, rfl, rfl⟩)
  have two : wpAny (model prog w) A (tryCompare (.ref y) "__eq__" .none) (fun r s' => ∃ v, r = some v ∧ Q v s') E s := by
    unfold tryCompare
    refine wpAny_bind (PySem.W.ifBound_K X I hs hf (wpAny_mono h (fun v s' hv => ?_) fun _ _ e => e))
    obtain ⟨r, rfl, q⟩ := hv
    exact wpAny_pure ⟨_, rfl, q⟩
  have e0 : oneThing? .Eq .none (.ref y) = none := rfl
  simp only [richCompare, cmpInfo_Eq, e0]
  refine wpAny_holding (wpAny_bind (wpAny_cRoomFor hu ?_))
  refine wpAny_bind (wpAny_typeOf (show s.TypeIs .none "NoneType" from rfl) ?_)
  refine wpAny_bind (I.type.here ?_)
  have fin : wpAny (model prog w) A (tryCompare .none "__eq__" (.ref y)) (fun r s' => r = none ∧ s' = s) E s := one
  split
  · refine wpAny_bind ((PySem.W.looks_subIn X hsub).here ?_)
    simp only [Bool.false_eq_true, if_false, Bool.not_false, if_true]
    refine wpAny_bind (m := tryCompare .none _ (.ref y)) (wpAny_mono one (fun r s1 z => ?_) fun _ _ e => e)
    obtain ⟨z1, z2⟩ := z
    subst z1
    subst z2
    refine wpAny_bind (m := tryCompare (.ref y) _ .none) (wpAny_mono two (fun r s2 z => ?_) fun _ _ e => e)
    obtain ⟨v, rfl, q⟩ := z
    exact wpAny_pure q
  · rename_i q
    exact absurd (by simp) q
end
/-- == of what may be None or an instance of the class at C with an own == -/
def rOptE (K : PySem.W.Frag) (C : Addr) (sp : Sp) (E : XK) : R2 := fun x y H Q => (x = .non ∧ y = .non ∧ Q (.bl true) H) ∨ (x = .non ∧ (∃ a dx fs, y = .ref a ∧ H a = some (.ins C dx fs)) ∧ sp [y, x] H (fun z H' => ∃ b, z = .bl b ∧ Q (.bl b) H') E) ∨ rOwnE K C false sp E x y H Q
theorem op_optE {X : Cx} {CX : CXT} {C f : Addr} {fd : FuncData} {ps : List Str} {sp : Sp} {n : Nat} {E : XK} (hn : PySem.W.subIn X.K (.ref C) (.type "NoneType") = some false) (M : Meth X.K C "__eq__" f) (F : FnOk X.prog X.w X.K X.mg X.base CX n f fd ps sp) (hr : Room n X.A)
    (hb : Binds X.K fd ps []) (hx : Passes CX X E) : OpR X (compareOp .Eq) (rOptE X.K C sp E) := by
  intro pins s σ H x y v u Q I rx ry h
  rcases h with ⟨rfl, rfl, q⟩ | ⟨rfl, ⟨a, dx, fs, rfl, ha⟩, q⟩ | h
  · exact op_eq pins s σ H .non .non v u Q I rx ry ⟨rfl, by simpa using q⟩
  · cases rx
    cases (show u = Value.ref a from ry)
    obtain ⟨mA, J, _⟩ := ins_get I.hok ha
    obtain ⟨od, J, _⟩ := J.look
    show wpAny (model X.prog X.w) X.A (richCompare .Eq .none (.ref a)) _ _ _
    refine eq_none_ref hr.units0 I.kIn J hn M.at_ M.fn ?_
    refine wpAny_mono (run_fn (Q := fun z H' => ∃ b, z = .bl b ∧ Q (.bl b) H') (us := [.ref a, .none]) (vs := [.ref a, .non]) F hr hb .nil hx I (.cons rfl (.cons rfl .nil)) (by simpa using q)) (fun w s' z => ?_) fun _ _ x => x
    obtain ⟨z', H', I', rz, b, ez, qz⟩ := z
    subst ez
    cases (show w = Value.bool b from rz)
    exact ⟨b, rfl, .bl b, H', I', rfl, qz⟩
  · exact op_ownE M F hr hb hx pins s σ H x y v u Q I rx ry h
end TPN

namespace TP
open PySem PySem.Spec PyProof.Rows L2
/-! ### data by what == says of it -/
structure EqW (K : PySem.W.Frag) {α : Type} (τ : Ty α) (d : α → PyData) (n : Nat) : Prop where
  dp : ∀ Z H v x, Same Z H → τ.r Z v x → Dp K H v (d x)
  lay : ∀ Z v x, τ.r Z v x → (d x).canLay0 = true
  dep : ∀ x, (d x).depth ≤ n
def dLst {α : Type} (d : α → PyData) (xs : List α) : PyData := .list (xs.map d)
def dTup {α : Type} (d : α → PyData) (xs : List α) : PyData := .tuple (xs.map d)
def dP1 {α : Type} (d : α → PyData) (x : α) : PyData := .tuple [d x]
def dP2 {α β : Type} (d : α → PyData) (e : β → PyData) (x : α × β) : PyData := .tuple [d x.1, e x.2]
def dP3 {α β γ : Type} (d : α → PyData) (e : β → PyData) (f : γ → PyData) (x : α × β × γ) : PyData := .tuple [d x.1, e x.2.1, f x.2.2]
def dP4 {α β γ δ : Type} (d : α → PyData) (e : β → PyData) (f : γ → PyData) (g : δ → PyData) (x : α × β × γ × δ) : PyData := .tuple [d x.1, e x.2.1, f x.2.2.1, g x.2.2.2]
def dNon (_ : Unit) : PyData := .none
section
variable {K : PySem.W.Frag} {α β γ δ : Type} {τ : Ty α} {υ : Ty β} {φ : Ty γ} {ψ : Ty δ} {d : α → PyData} {e : β → PyData} {f : γ → PyData} {g : δ → PyData} {n m k l : Nat}
theorem EqD.w (E : EqD K τ d n) : EqW K τ d n := ⟨E.dp, E.lay, E.dep⟩
theorem EqW.all (E : EqW K τ d n) {Z H : Hp} (sz : Same Z H) : ∀ {vs : List V} {xs : List α}, All (τ.r Z) vs xs → DpAll K H vs (xs.map d)
  | _, _, .nil => .nil
  | _, _, .cons h t => .cons (E.dp _ _ _ _ sz h) (E.all sz t)
theorem EqW.lays (E : EqW K τ d n) {Z : Hp} : ∀ {vs : List V} {xs : List α}, All (τ.r Z) vs xs → PyData.canLayAll0 (xs.map d) = true
  | _, _, .nil => by simp [PyData.canLayAll0]
  | _, _, .cons h t => by
    have h1 := E.lay _ _ _ h
    have h2 := E.lays t
    simp [PyData.canLayAll0, h1, h2]
theorem EqW.deps (E : EqW K τ d n) : ∀ xs : List α, PyData.depthAll (xs.map d) ≤ n
  | [] => by simp [PyData.depthAll]
  | x :: r => by
    have h1 := E.dep x
    have h2 := E.deps r
    simp only [List.map_cons, PyData.depthAll]
    omega
theorem eqw_list (E : EqW K τ d n) : EqW K (yList τ) (dLst d) (n + 1) where
  dp := fun Z H v x sz ⟨a, vs, e, h, t, _⟩ => by subst e; exact .lst (SqL.of (sz _ _ h)) (E.all sz t)
  lay := fun Z v x ⟨a, vs, e, h, t, _⟩ => by simpa [PyData.canLay0, dLst] using E.lays t
  dep := fun x => by have := E.deps x; simp only [PyData.depth, dLst]; omega
theorem eqw_tup (E : EqW K τ d n) : EqW K (yTup K τ) (dTup d) (n + 1) where
  dp := fun Z H v x sz ⟨a, vs, e, h, t, _⟩ => by subst e; exact .tup (seqT_same sz h) (E.all sz t)
  lay := fun Z v x ⟨a, vs, e, h, t, _⟩ => by simpa [PyData.canLay0, dTup] using E.lays t
  dep := fun x => by have := E.deps x; simp only [PyData.depth, dTup]; omega
theorem eqw_p1 (E : EqW K τ d n) : EqW K (yP1 K τ) (dP1 d) (n + 1) where
  dp := fun Z H v x sz ⟨a, v1, e, h, h1⟩ => by subst e; exact .tup (seqT_same sz h) (.cons (E.dp _ _ _ _ sz h1) .nil)
  lay := fun Z v x ⟨a, v1, e, h, h1⟩ => by simp [PyData.canLay0, PyData.canLayAll0, dP1, E.lay _ _ _ h1]
  dep := fun x => by have := E.dep x; simp only [PyData.depth, PyData.depthAll, dP1]; omega
theorem eqw_p2 (E : EqW K τ d n) (F : EqW K υ e m) : EqW K (yP2 K τ υ) (dP2 d e) (max n m + 1) where
  dp := fun Z H v x sz ⟨a, v1, v2, e, h, h1, h2⟩ => by subst e; exact .tup (seqT_same sz h) (.cons (E.dp _ _ _ _ sz h1) (.cons (F.dp _ _ _ _ sz h2) .nil))
  lay := fun Z v x ⟨a, v1, v2, e, h, h1, h2⟩ => by simp [PyData.canLay0, PyData.canLayAll0, dP2, E.lay _ _ _ h1, F.lay _ _ _ h2]
  dep := fun x => by have := E.dep x.1; have := F.dep x.2; simp only [PyData.depth, PyData.depthAll, dP2]; omega
theorem eqw_p3 (E : EqW K τ d n) (F : EqW K υ e m) (G : EqW K φ f k) : EqW K (yP3 K τ υ φ) (dP3 d e f) (max n (max m k) + 1) where
  dp := fun Z H v x sz ⟨a, v1, v2, v3, e, h, h1, h2, h3⟩ => by subst e; exact .tup (seqT_same sz h) (.cons (E.dp _ _ _ _ sz h1) (.cons (F.dp _ _ _ _ sz h2) (.cons (G.dp _ _ _ _ sz h3) .nil)))
  lay := fun Z v x ⟨a, v1, v2, v3, e, h, h1, h2, h3⟩ => by simp [PyData.canLay0, PyData.canLayAll0, dP3, E.lay _ _ _ h1, F.lay _ _ _ h2, G.lay _ _ _ h3]
  dep := fun x => by have := E.dep x.1; have := F.dep x.2.1; have := G.dep x.2.2; simp only [PyData.depth, PyData.depthAll, dP3]; omega
theorem eqw_p4 (E : EqW K τ d n) (F : EqW K υ e m) (G : EqW K φ f k) (I : EqW K ψ g l) : EqW K (yP4 K τ υ φ ψ) (dP4 d e f g) (max n (max m (max k l)) + 1) where
  dp := fun Z H v x sz ⟨a, v1, v2, v3, v4, e, h, h1, h2, h3, h4⟩ => by subst e; exact .tup (seqT_same sz h) (.cons (E.dp _ _ _ _ sz h1) (.cons (F.dp _ _ _ _ sz h2) (.cons (G.dp _ _ _ _ sz h3) (.cons (I.dp _ _ _ _ sz h4) .nil))))
  lay := fun Z v x ⟨a, v1, v2, v3, v4, e, h, h1, h2, h3, h4⟩ => by simp [PyData.canLay0, PyData.canLayAll0, dP4, E.lay _ _ _ h1, F.lay _ _ _ h2, G.lay _ _ _ h3, I.lay _ _ _ h4]
  dep := fun x => by have := E.dep x.1; have := F.dep x.2.1; have := G.dep x.2.2.1; have := I.dep x.2.2.2; simp only [PyData.depth, PyData.depthAll, dP4]; omega
theorem eqw_non : EqW K yNon dNon 0 := ⟨fun _ _ _ x _ h => by cases h; exact .non, fun _ _ _ _ => rfl, fun _ => Nat.le_refl _⟩
theorem eqw_opt (E : EqW K τ d n) : EqW K (yOpt τ) (optD d) n where
  dp := fun Z H v x sz h => match x, h with
    | none, h => by rw [show v = .non from h]; exact .non
    | some x, h => E.dp _ _ _ _ sz h.1
  lay := fun Z v x h => match x, h with
    | none, h => rfl
    | some x, h => E.lay _ _ _ h.1
  dep := fun x => match x with
    | none => Nat.zero_le _
    | some x => E.dep x
theorem EqW.gd {fp : List Addr} (E : EqW K τ d n) (x : α) : GD K (ty (fp := fp) τ x) (d x) := fun _ _ _ sz h => ⟨E.dp _ _ _ _ sz h, E.lay _ _ _ h⟩
theorem EqW.gdl {fp : List Addr} (E : EqW K τ d n) (xs : List α) : GD K (li (fp := fp) τ xs) (dLst d xs) := fun _ _ _ sz h => by
  obtain ⟨p, vs, rfl, g, t, _⟩ := rdl sz h
  exact ⟨.lst (SqL.of g) (E.all sz t), by simpa [PyData.canLay0, dLst] using E.lays t⟩
theorem EqW.dpt (E : EqW K τ d n) (h : n ≤ 64) (x : α) : (d x).depth ≤ 64 := Nat.le_trans (E.dep x) h
theorem EqW.dpl (E : EqW K τ d n) (h : n + 1 ≤ 64) (xs : List α) : (dLst d xs).depth ≤ 64 := by have := E.deps xs; simp only [PyData.depth, dLst]; omega
end
section
variable {μ : Type} {M : Mu μ} {σ : L2.St} {Z H : Hp} {s s' s1 s2 s3 : μ} {ta tb tc te : TE} {t : TA} {K : PySem.W.Frag}
theorem ev_eqW {R R' : Rr M.fp} {c c' : PyData} (G : GD K R c) (G' : GD K R' c') (l : c.depth ≤ 64) (l' : c'.depth ≤ 64) (ha : Ev M ta σ Z H s R s1) (hb : Ev M tb σ Z H s1 R' s2) : Ev M (tOp (rEqD K) ta tb) σ Z H s (ty yBool (PyData.eqv c c')) s2 :=
  ev_op ha hb fun _ _ _ _ sz e1 e2 _ q => by
    obtain ⟨d1, k1⟩ := G _ _ _ sz e1
    obtain ⟨d2, k2⟩ := G' _ _ _ sz e2
    exact ⟨c, c', d1, d2, shaped_of k1 l (Nat.le_refl _), shaped_of k2 l' (Nat.le_refl _), q _ _ _ (Step.refl sz) rfl⟩
theorem ev_neW {R R' : Rr M.fp} {c c' : PyData} (G : GD K R c) (G' : GD K R' c') (l : c.depth ≤ 64) (l' : c'.depth ≤ 64) (ha : Ev M ta σ Z H s R s1) (hb : Ev M tb σ Z H s1 R' s2) : Ev M (tOp (rNeD K) ta tb) σ Z H s (ty yBool (!PyData.eqv c c')) s2 :=
  ev_op ha hb fun _ _ _ _ sz e1 e2 _ q => by
    obtain ⟨d1, k1⟩ := G _ _ _ sz e1
    obtain ⟨d2, k2⟩ := G' _ _ _ sz e2
    exact ⟨c, c', d1, d2, shaped_of k1 l (Nat.le_refl _), shaped_of k2 l' (Nat.le_refl _), q _ _ _ (Step.refl sz) rfl⟩
theorem ev_cmpS {F : Str → Str → Bool} {x y : Str} (ha : Ev M ta σ Z H s (ty yStr x) s1) (hb : Ev M tb σ Z H s1 (ty yStr y) s2) : Ev M (tOp (fun x y H Q => ∃ i j, x = .str i ∧ y = .str j ∧ Q (.bl (F i j)) H) ta tb) σ Z H s (ty yBool (F x y)) s2 :=
  ev_op ha hb fun _ _ _ _ sz e1 e2 _ q => ⟨x, y, e1.1, e2.1, q _ _ _ (Step.refl sz) rfl⟩
theorem ev_chainG {R1 R0 R3 : Rr M.fp} {r r' : R2} {p q : Bool} (h1 : ∀ Z H x y, Same Z H → R1.r Z H x → R0.r Z H y → ∀ Q : VK, Q (.bl p) H → r x y H Q) (h2 : ∀ Z H x y, Same Z H → R0.r Z H x → R3.r Z H y → ∀ Q : VK, Q (.bl q) H → r' x y H Q)
    (ha : Ev M ta σ Z H s R1 s1) (hb : Ev M tb σ Z H s1 R0 s1) (hc : Ev M tc σ Z H s1 R3 s1) : Ev M (tChain r r' ta tb tc) σ Z H s (ty yBool (p && q)) s1 :=
  fun Z1 H1 a b c d Q k => ha Z1 H1 a b c d _ fun v Z2 H2 e m rv => hb Z2 H2 (a.trans e.z) (b.trans e.h) e.s m _ fun w Z3 H3 e2 m2 rw => by
    have e3 := e.trans e2
    refine h1 Z3 H3 v w e2.s (R1.st e2 rv) rw _ ⟨p, rfl, ?_⟩
    cases p with
    | true => rw [if_pos rfl]; exact hc Z3 H3 (a.trans e3.z) (b.trans e3.h) e3.s m2 _ fun u Z4 H4 e4 m4 ru => h2 Z4 H4 w u e4.s (R0.st e4 rw) ru _ (k _ Z4 H4 (e3.trans e4) m4 rfl)
    | false => rw [if_neg Bool.false_ne_true]; exact k _ Z3 H3 e3 m2 rfl
/-- the third part is read only where the first two hold -/
theorem ev_chainB {i j : Int} {b : Bool} {o : Option Bool} {p r : Int → Int → Bool} (ha : Ev M ta σ Z H s (ty yInt i) s1) (hb : Ev M tb σ Z H s1 (ty yInt j) s1) (hc : p i j = true → ∀ y, o = some y → ∃ k, y = r j k ∧ Ev M tc σ Z H s1 (ty yInt k) s1) (h : (if p i j = true then o else some false) = some b) :
    Ev M (tChain (rI0 fun i j => .bl (p i j)) (rI0 fun i j => .bl (r i j)) ta tb tc) σ Z H s (ty yBool b) s1 := by
  cases hp : p i j with
  | false =>
    rw [if_neg (by rw [hp]; exact Bool.false_ne_true)] at h
    have hb' := Option.some.inj h
    subst hb'
    intro Z1 H1 a b c d Q q
    exact ha Z1 H1 a b c d _ fun v Z2 H2 e m rv => hb Z2 H2 (a.trans e.z) (b.trans e.h) e.s m _ fun w Z3 H3 e2 m2 rw => ⟨i, j, rv, rw, p i j, rfl, by
      rw [hp, if_neg Bool.false_ne_true]
      exact q _ Z3 H3 (e.trans e2) m2 rfl⟩
  | true =>
    rw [if_pos hp] at h
    obtain ⟨k, rfl, hk⟩ := hc hp b h
    have := ev_chainO (b := true) (o := none) (p := p) (r := r) ha hb (fun _ => hk)
    rw [hp, Bool.true_and] at this
    exact this
theorem ev_chainS {F G : Str → Str → Bool} {x y z : Str} (ha : Ev M ta σ Z H s (ty yStr x) s1) (hb : Ev M tb σ Z H s1 (ty yStr y) s1) (hc : Ev M tc σ Z H s1 (ty yStr z) s1) :
    Ev M (tChain (fun x y H Q => ∃ i j, x = .str i ∧ y = .str j ∧ Q (.bl (F i j)) H) (fun x y H Q => ∃ i j, x = .str i ∧ y = .str j ∧ Q (.bl (G i j)) H) ta tb tc) σ Z H s (ty yBool (F x y && G y z)) s1 :=
  ev_chainG (R1 := ty yStr x) (R0 := ty yStr y) (R3 := ty yStr z) (fun _ _ _ _ _ e1 e2 _ q => ⟨x, y, e1.1, e2.1, q⟩) (fun _ _ _ _ _ e1 e2 _ q => ⟨y, z, e1.1, e2.1, q⟩) ha hb hc
theorem ev_isB {x y : Bool} (ha : Ev M ta σ Z H s (ty yBool x) s1) (hb : Ev M tb σ Z H s1 (ty yBool y) s2) : Ev M (tOp rIsB ta tb) σ Z H s (ty yBool (decide (x = y))) s2 :=
  ev_op ha hb fun _ _ _ _ sz e1 e2 _ q => ⟨x, y, e1, e2, q _ _ _ (Step.refl sz) rfl⟩
theorem ev_notB {x y : Bool} (ha : Ev M ta σ Z H s (ty yBool x) s1) (hb : Ev M tb σ Z H s1 (ty yBool y) s2) : Ev M (tOp rNotB ta tb) σ Z H s (ty yBool (!decide (x = y))) s2 :=
  ev_op ha hb fun _ _ _ _ sz e1 e2 _ q => ⟨x, y, e1, e2, q _ _ _ (Step.refl sz) rfl⟩
theorem all_nil {α : Type} {R : V → α → Prop} {vs : List V} {xs : List α} (h : All R vs xs) (e : vs = []) : xs = [] := by
  cases h with
  | nil => rfl
  | cons _ _ => cases e
theorem ev_catT {α : Type} {τ : Ty α} {xs ys : List α} (ha : Ev M ta σ Z H s (ty (yTup K τ) xs) s1) (hb : Ev M tb σ Z H s1 (ty (yTup K τ) ys) s2) (l : xs.length + ys.length ≤ sizeLine) : Ev M (tOp (rCatA K) ta tb) σ Z H s (ty (yTup K τ) (xs ++ ys)) s2 :=
  ev_op ha hb fun Z H v w sz ⟨a, vs, e1, h1, t1, l1⟩ ⟨b, ws, e2, h2, t2, l2⟩ _ q =>
    ⟨a, b, vs, ws, e1, e2, seqT_same sz h1, seqT_same sz h2, by rw [t1.len, t2.len]; exact l,
      fun e => q _ _ _ (Step.refl sz) ⟨b, ws, rfl, h2, by rw [all_nil t1 e]; exact t2, by rw [all_nil t1 e]; exact l2⟩,
      fun _ e => q _ _ _ (Step.refl sz) ⟨a, vs, rfl, h1, by rw [all_nil t2 e, List.append_nil]; exact t1, by rw [all_nil t2 e, List.append_nil]; exact l1⟩,
      fun _ _ p hp => q _ _ _ (Step.new sz hp) ⟨p, _, rfl, sqT_new, (t1.app t2).imp fun _ _ => τ.mono (same_upd (same_none sz hp)), by rw [List.length_append]; exact l⟩⟩
theorem ev_ord {x : Str} (ha : Ev M ta σ Z H s (ty yStr x) s1) (l : x.length = 1) : Ev M (tCB (fun xs H Q => ∃ x, xs = [.str x] ∧ x.length = 1 ∧ Q (.int (x.cps.getD 0 0 : Nat)) H) (tCons ta tNil)) σ Z H s (ty yInt ((x.cps.getD 0 0 : Nat) : Int)) s1 :=
  ev_cb (eva_cons ha eva_nil) fun _ _ vs sz ⟨v, r, e, h, e2⟩ Q q => ⟨x, by rw [e, h.1, show r = [] from e2], l, q _ _ _ (Step.refl sz) rfl⟩
/-- == and != of an instance by its own == with anything -/
theorem ev_ownE {α : Type} {τ : Ty α} {x : α} {R0 : Rr M.fp} {C : Addr} {t : Value} {sp : Sp} {E : XK} {b neg : Bool} (O : ∀ Z v x, τ.r Z v x → ∃ a dx fs, v = .ref a ∧ Z a = some (.ins C dx fs)) (tx : ∀ Z H v, Same Z H → R0.r Z H v → TyX K H v t) (hn : PySem.W.notFirst K C t = true)
    (c : CallS M sp E (rac (ty τ x) (rac R0 ra0)) s2 (ty yBool b) s3) (ha : Ev M ta σ Z H s (ty τ x) s1) (hb : Ev M tb σ Z H s1 R0 s2) : Ev M (tOp (TPN.rOwnE K C neg sp E) ta tb) σ Z H s (ty yBool (b != neg)) s3 :=
  fun Z1 H1 a' b' c' d' Q q => ha Z1 H1 a' b' c' d' _ fun v Z2 H2 e m rv => hb Z2 H2 (a'.trans e.z) (b'.trans e.h) e.s m _ fun w Z3 H3 e2 m2 rw => by
    have rv3 := τ.mono e2.z rv
    obtain ⟨p, dx, fs, rfl, hp⟩ := O _ _ _ rv3
    exact ⟨p, dx, fs, t, rfl, e2.s _ _ hp, tx _ _ _ e2.s rw, hn, c Z3 H3 _ e2.s m2 ⟨_, _, rfl, rv3, _, _, rfl, rw, rfl⟩ _ fun u Z4 H4 e3 m3 ru => ⟨b, ru, q _ Z4 H4 ((e.trans e2).trans e3) m3 rfl⟩⟩
/-- the class of what may be None -/
def clsO {α : Type} (c : Value) : Option α → Value
  | none => .type "NoneType"
  | some _ => c
theorem tx_opt {fp : List Addr} {α : Type} {τ : Ty α} {c : Value} (h : ∀ (x : α) Z H v, Same Z H → (ty (fp := fp) τ x).r Z H v → TyX K H v c) {x : Option α} : ∀ Z H v, Same Z H → (ty (fp := fp) (yOpt τ) x).r Z H v → TyX K H v (clsO c x) := fun Z H v sz e => match x, e with
  | none, e => by rw [show v = .non from e]; exact .base .non
  | some y, e => h y Z H v sz e.1
theorem tx_non {fp : List Addr} {x : Unit} : ∀ Z H v, Same Z H → (ty (fp := fp) yNon x).r Z H v → TyX K H v (.type "NoneType") := fun _ _ _ _ h => by rw [show _ = V.non from h]; exact .base .non
theorem kit_opt {α : Type} {c t : Value} {b : Bool} (h0 : PySem.W.kitOne K (.type "NoneType") t = some false) (h1 : PySem.W.kitOne K c t = some b) (x : Option α) : PySem.W.kitOne K (clsO c x) t = some (x.isSome && b) := match x with
  | none => h0
  | some _ => h1
theorem nf_opt {α : Type} {C : Addr} {c : Value} (h0 : PySem.W.notFirst K C (.type "NoneType") = true) (h1 : PySem.W.notFirst K C c = true) (x : Option α) : PySem.W.notFirst K C (clsO c x) = true := match x with
  | none => h0
  | some _ => h1
def optEqO {α : Type} (f : α → Option α → Option Bool) : Option α → Option α → Option Bool
  | none, none => some true
  | none, some y => f y none
  | some x, y => f x y
theorem ev_optE {α : Type} {τ : Ty α} {a b : Option α} {r : Bool} {f : α → Option α → Option Bool} {C : Addr} {t : Option α → Value} {sp : Sp} {E : XK} (h : optEqO f a b = some r) (O : ∀ Z v x, τ.r Z v x → ∃ a dx fs, v = .ref a ∧ Z a = some (.ins C dx fs))
    (tx : ∀ (y : Option α) Z H v, Same Z H → (ty (fp := M.fp) (yOpt τ) y).r Z H v → TyX K H v (t y)) (hn : ∀ y, PySem.W.notFirst K C (t y) = true) (c : ∀ x y r, f x y = some r → CallS M sp E (rac (ty τ x) (rac (ty (yOpt τ) y) ra0)) s2 (ty yBool r) s2)
    (ha : Ev M ta σ Z H s (ty (yOpt τ) a) s1) (hb : Ev M tb σ Z H s1 (ty (yOpt τ) b) s2) : Ev M (tOp (TPN.rOptE K C sp E) ta tb) σ Z H s (ty yBool r) s2 :=
  fun Z1 H1 a' b' c' d' Q q => ha Z1 H1 a' b' c' d' _ fun v Z2 H2 e m rv => hb Z2 H2 (a'.trans e.z) (b'.trans e.h) e.s m _ fun w Z3 H3 e2 m2 rw => by
    have rv3 := (yOpt τ).mono e2.z rv
    match a, b, h, rv3, rw with
    | none, none, h, rv3, rw => exact .inl ⟨rv3, rw, q _ Z3 H3 (e.trans e2) m2 (congrArg V.bl (Option.some.inj h))⟩
    | none, some y, h, rv3, rw =>
      obtain ⟨p, dx, fs, rfl, hp⟩ := O _ _ _ rw.1
      exact .inr (.inl ⟨rv3, ⟨p, dx, fs, rfl, e2.s _ _ hp⟩, c y none r h Z3 H3 _ e2.s m2 ⟨_, _, rfl, rw.1, _, _, rfl, rv3, rfl⟩ _ fun u Z4 H4 e3 m3 ru => ⟨r, ru, q _ Z4 H4 ((e.trans e2).trans e3) m3 rfl⟩⟩)
    | some x, y, h, rv3, rw =>
      obtain ⟨p, dx, fs, rfl, hp⟩ := O _ _ _ rv3.1
      exact .inr (.inr ⟨p, dx, fs, t y, rfl, e2.s _ _ hp, tx _ _ _ _ e2.s rw, hn y, c x y r h Z3 H3 _ e2.s m2 ⟨_, _, rfl, rv3.1, _, _, rfl, rw, rfl⟩ _ fun u Z4 H4 e3 m3 ru => ⟨r, ru, q _ Z4 H4 ((e.trans e2).trans e3) m3 (by rw [show (r != false) = r by cases r <;> rfl]; exact rfl)⟩⟩)
end
end TP

namespace TP
open PySem PySem.Spec PyProof.Rows L2
/-! ### a list that never changes, or a tuple -/
def iSeq (K : PySem.W.Frag) (tl : TE) : TI := fun σ H R => tl σ H fun x H1 => (∃ a, x = .ref a ∧ (∃ xs, SqL K H1 a xs) ∧ R (Itl K a) H1) ∨ (∃ a, x = .ref a ∧ (∃ xs, SqT K H1 a xs) ∧ R (Itt K a) H1)
theorem pi_seq {X : Cx} {tg l : Expr} {tl : TE} (hl : PE X l tl) : PI X tg l (iSeq X.K tl) := by
  refine ⟨fun pins s σ H R I h => ?_⟩
  refine thn (hl.run pins s σ H _ I h) fun v s1 ⟨x, H1, I1, r1, q1⟩ => ?_
  rcases q1 with q1 | q1
  · obtain ⟨a, e, ⟨xs, hq⟩, q⟩ := q1
    subst e
    cases r1
    obtain ⟨its, rv, p, hz⟩ := I1.list hq
    refine wpAny_pyIter_list p.isList ?_
    refine ⟨s1.heap.objs.size, [s1.heap.objs.size], _, _, H1, rfl, I1.kept (t' := s1.toks) fun b o e => Heap.get?_push_of_some _ e, turn_list a _, ⟨_, Heap.get?_push_size _ rfl, rfl, rfl⟩, fun b hb => ?_, q⟩
    have e : b = s1.heap.objs.size := by simpa using hb
    subst e
    exact I1.fpOk (Nat.le_refl _) (I1.hok.fresh (Nat.le_refl _))
  · obtain ⟨a, e, ⟨xs, hq⟩, q⟩ := q1
    subst e
    cases r1
    obtain ⟨its, rv, p, hz⟩ := I1.tuple hq
    refine wpAny_pyIter_tuple (show s1.heap.IsTuple a its.toArray from p) ?_
    refine ⟨s1.heap.objs.size, [s1.heap.objs.size], _, _, H1, rfl, I1.kept (t' := s1.toks) fun b o e => Heap.get?_push_of_some _ e, turn_tuple a _, ⟨_, Heap.get?_push_size _ rfl, rfl, rfl⟩, fun b hb => ?_, q⟩
    have e : b = s1.heap.objs.size := by simpa using hb
    subst e
    exact I1.fpOk (Nat.le_refl _) (I1.hok.fresh (Nat.le_refl _))
theorem pi_seqB {X : Cx} {K : PySem.W.Frag} (hK : X.K = K) {tg l : Expr} {tl : TE} (hl : PE X l tl) : PI X tg l (iSeq K tl) := by
  subst hK
  exact pi_seq hl
section
variable {K : PySem.W.Frag} {α : Type}
def ySeq (K : PySem.W.Frag) (τ : Ty α) : Ty (List α) := ⟨fun Z v xs => ∃ a vs, v = .ref a ∧ (Z a = some (.lst vs) ∨ SqT K Z a vs) ∧ All (τ.r Z) vs xs ∧ xs.length ≤ sizeLine,
  fun s ⟨a, vs, e, h, t, l⟩ => ⟨a, vs, e, h.imp (fun h => s _ _ h) (seqT_same s), t.imp fun _ _ => τ.mono s, l⟩⟩
theorem nn_seq {τ : Ty α} : NonNil (ySeq K τ) := fun _ _ _ ⟨_, _, e, _⟩ => by rw [e]; exact fun z => nomatch z
section
variable {μ : Type} {M : Mu μ} {σ : L2.St} {Z H : Hp} {s s1 : μ} {ta : TE} {τ : Ty α} {xs : List α} {X : Hp → Hp → Prop}
theorem ev_seqL (h : Ev M ta σ Z H s (ty (yList τ) xs) s1) : Ev M ta σ Z H s (ty (ySeq K τ) xs) s1 := h.weak fun _ _ _ _ ⟨a, vs, e, h, t, l⟩ => ⟨a, vs, e, .inl h, t, l⟩
theorem ev_seqT (h : Ev M ta σ Z H s (ty (yTup K τ) xs) s1) : Ev M ta σ Z H s (ty (ySeq K τ) xs) s1 := h.weak fun _ _ _ _ ⟨a, vs, e, h, t, l⟩ => ⟨a, vs, e, .inr h, t, l⟩
theorem ei_seq (ha : Ev M ta σ Z H s (ty (ySeq K τ) xs) s1) : EvI M X (iSeq K ta) σ Z H s τ xs s1 :=
  fun Z1 H1 a b c d R q => ha Z1 H1 a b c d _ fun v Z2 H2 e m ⟨p, vs, ev, h, t, l⟩ => by
    subst ev
    rcases h with h | h
    · exact .inl ⟨p, rfl, ⟨vs, SqL.of (e.s _ _ h)⟩, q _ Z2 H2 e m (walk_at walk_list (fun Z' H' z sz _ => SqL.of (sz _ _ (z _ _ h))) t l)⟩
    · exact .inr ⟨p, rfl, ⟨vs, seqT_same e.s h⟩, q _ Z2 H2 e m (walk_at walk_tup (fun Z' H' z sz _ => seqT_same sz (seqT_same z h)) t l)⟩
theorem ev_lenS {r : List V → Hp → VK → Prop} (hr : ∀ xs H Q, (∃ p ys, xs = [.ref p] ∧ (SqL K H p ys ∨ SqT K H p ys) ∧ Q (.int ys.length) H) → r xs H Q) (ha : Ev M ta σ Z H s (ty (ySeq K τ) xs) s1) : Ev M (tCB r (tCons ta tNil)) σ Z H s (ty yInt (xs.length : Nat)) s1 :=
  ev_cb (eva_cons ha eva_nil) fun _ _ _ sz ⟨v, r, e, h, e2⟩ _ q => by
    cases e2; cases e
    obtain ⟨p, vs, rfl, g, t, _⟩ := h
    exact hr _ _ _ ⟨p, vs, rfl, g.imp (fun g => SqL.of (sz _ _ g)) (seqT_same sz), by rw [t.len]; exact q _ _ _ (Step.refl sz) rfl⟩
theorem en_list_ofS {r : List V → Hp → VK → Prop} (hr : ∀ xs H Q, (∃ p ys, xs = [.ref p] ∧ (SqL K H p ys ∨ SqT K H p ys) ∧ ∀ l, H l = none → Q (.ref l) (upd H l (.lst ys))) → r xs H Q) (ha : Ev M ta σ Z H s (ty (ySeq K τ) xs) s1) : EvN M (tCB r (tCons ta tNil)) σ Z H s τ xs s1 :=
  en_cb (eva_cons ha eva_nil) fun _ _ _ sz ⟨v, r, e, h, e2⟩ => by
    cases e2; cases e
    obtain ⟨p, vs, rfl, g, t, l⟩ := h
    exact ⟨vs, t, l, fun Q q => hr _ _ _ ⟨p, vs, rfl, g.imp (fun g => SqL.of (sz _ _ g)) (seqT_same sz), q⟩⟩
theorem ev_tuple_ofS {r : List V → Hp → VK → Prop} (hr : ∀ xs H Q, (∃ p ys, xs = [.ref p] ∧ ((SqL K H p ys ∧ ∀ l, H l = none → Q (.ref l) (upd H l (.tup ys))) ∨ (SqT K H p ys ∧ Q (.ref p) H))) → r xs H Q) (ha : Ev M ta σ Z H s (ty (ySeq K τ) xs) s1) : Ev M (tCB r (tCons ta tNil)) σ Z H s (ty (yTup K τ) xs) s1 :=
  ev_cb (eva_cons ha eva_nil) fun _ _ _ sz ⟨v, r, e, h, e2⟩ _ q => by
    cases e2; cases e
    obtain ⟨p, vs, rfl, g, t, l⟩ := h
    rcases g with g | g
    · exact hr _ _ _ ⟨p, vs, rfl, .inl ⟨SqL.of (sz _ _ g), fun d hd => q _ _ _ (Step.new sz hd) ⟨d, vs, rfl, sqT_new, t.imp fun _ _ => τ.mono (same_upd (same_none sz hd)), l⟩⟩⟩
    · exact hr _ _ _ ⟨p, vs, rfl, .inr ⟨seqT_same sz g, q _ _ _ (Step.refl sz) ⟨p, vs, rfl, g, t, l⟩⟩⟩
end
end
end TP

namespace TP
open PySem PySem.Spec PyProof.Rows L2
/-- a list grows by a tuple's items -/
def rExtS (K : PySem.W.Frag) : V → List V → Hp → VK → Prop := fun x vs H Q => ∃ l b xs zs, x = .ref l ∧ vs = [.ref b] ∧ H l = some (.lst xs) ∧ SqT K H b zs ∧ xs.length + zs.length ≤ sizeLine ∧ Q .non (upd H l (.lst (xs ++ zs)))
open PySem.AutoSeq1 in
theorem ext_tup (l b : Addr) (xs ys : Array Value) (n m : Nat) (dd : Option Addr) (sl : Array (Option Value)) (k0 : ¬ (!xs.isEmpty && Builtin.List.listTooLong (xs.size + ys.size)) = true) (k1 : xs.size ≤ sizeLine) (k2 : xs.size + ys.size ≤ sizeLine + 1) :
    Meets (Builtin.«list.extend» ⟨[.ref l, .ref b], []⟩) (fun _ R s => (s.heap.get? b = some ⟨.type "tuple", dd, .seq ys m, sl⟩ ∧ s.heap.get? l = some ⟨.type "list", none, .seq xs n, #[]⟩) ∧
      R (.ok (.ret Value.none)) { s with heap := s.heap.update l (Obj.mapSeq fun z => z ++ ys), toks := s.toks }) :=
  .of_wp fun prog w A R s ⟨⟨gb, gl⟩, q⟩ => by
    obtain ⟨hp, ge, dr, tk, os⟩ := s
    have s1 := PySem.AutoSeq1.idx_int
    have s2 := PySem.AutoSeq1.sub_list_list
    have s3 := PySem.AutoSeq1.sub_tuple_list
    have s4 := PySem.AutoSeq1.sub_tuple_tuple
    have s5 := PySem.AutoSeq1.sub_list_tuple
    have tot : (xs ++ ys).size ≤ sizeLine + 1 := by simpa [Array.size_append] using k2
    wp_walk using (wpAny_updateSeq gl rfl (hz := k1) (_hz' := tot)), wpAny_loadPart' gl, wpAny_loadPart' gb
    exact ⟨_, rfl, q⟩
theorem mt_extendT {X : Cx} : MtM X "list.extend" (rExtS X.K) := by
  intro pins s σ H x vs v us Q I rx rv g
  obtain ⟨l, b, xs, zs, rfl, rfl, gl, gb, gz, q⟩ := g
  cases rx
  obtain ⟨u, rfl, ru⟩ := rv.one
  cases ru
  obtain ⟨_, its, n, r, _, e⟩ := I.lstM gl
  obtain ⟨js, r2, ⟨⟨oc, od, ot, os⟩, e2, e3, m, e4⟩, _⟩ := I.tuple gb
  dsimp only at e3 e4
  subst e3 e4
  have k1 := r.length
  have k2 := r2.length
  have fits : its.toArray.size + js.toArray.size ≤ sizeLine := by
    rw [List.size_toArray, List.size_toArray]
    omega
  have open_ : ¬ (!its.toArray.isEmpty && Builtin.List.listTooLong (its.toArray.size + js.toArray.size)) = true := by
    rw [notLongL fits, Bool.and_false]
    decide
  refine call_meets F.slot_list_extend ⟨_, e, rfl⟩ F.entry_list_extend (F.args_list_extend_2 _ _) (ext_tup l b its.toArray js.toArray n m _ _ open_ (by omega) (by omega)) ⟨⟨e2, e⟩, .non, _, I.lset (its' := its ++ js) gl e (by simp) (r.append r2) (by rw [List.length_append]; omega), rfl, q⟩
section
variable {μ : Type} {S : List Addr} {Z0 H0 : Hp} {M : Mu μ} {σ : L2.St} {Z H : Hp} {s s1 s2 : μ} {ta tb te : TE} {K : PySem.W.Frag} {D : Ends} {α : Type} {τ : Ty α} {xs ys : List α} {p : Addr}
theorem st_extendT {i : Nat} (P : Pt S Z0 H0 M Z H s) (o : Own S H0 M.fp Z H τ p xs) (hσ : σ[i]? = some (some (.ref p))) (e : Ev M te σ Z H s (ty (yTup K τ) ys) s1) (l : xs.length + ys.length ≤ sizeLine)
    (k : ∀ Z1 H1, Step (p :: M.fp) Z H Z1 H1 → Pt S Z0 H0 M Z1 H1 s1 → Own S H0 M.fp Z1 H1 τ p (xs ++ ys) → D.nx σ H1) : tDrop (tBM K "list" (rExtS K) (tVar i) (tCons te tNil)) D σ H := by
  obtain ⟨vs, h, t⟩ := o.ex
  refine ⟨.ref p, hσ, .inl ⟨rfl, _, .inl (.inl h)⟩, e Z H (Same.refl _) SameX.refl P.sub P.m _ fun v Z1 H1 e m ⟨q, ws, ev, hq, t2, _⟩ => ?_⟩
  subst ev
  have o1 := o.next e
  have P1 := P.next e m
  refine ⟨p, q, vs, ws, rfl, rfl, e.h _ _ o.n h, seqT_same e.s hq, by rw [t.len, t2.len]; exact l, ?_⟩
  exact k _ _ (step2 e o1.z) (P1.set o1.z o.n (.inr o.mine)) ⟨⟨_, upd_same, (t.imp fun _ _ => τ.mono e.z).app t2⟩, o1.z, o.n, o.mine, by rw [List.length_append]; exact l⟩
/-- a sign of a text -/
def atSi (x : Str) (i : Int) : Option Str := (atI x.cps.toList i).map fun c => ⟨#[c]⟩
theorem ev_ixS {x y : Str} {i : Int} (ha : Ev M ta σ Z H s (ty yStr x) s1) (hb : Ev M tb σ Z H s1 (ty yInt i) s2) (e : atSi x i = some y) : Ev M (tOp rIxS ta tb) σ Z H s (ty yStr y) s2 :=
  ev_op ha hb fun _ _ _ _ sz e1 e2 _ q => by
    obtain ⟨c, hc, rfl⟩ := Option.map_eq_some_iff.mp e
    have ok := (show (PyData.strOk x && decide (x.length ≤ sizeLine)) = true from e1.2)
    rw [Bool.and_eq_true] at ok
    refine ⟨x, i, c, e1.1, e2, of_decide_eq_true ok.2, hc, q _ _ _ (Step.refl sz) ⟨rfl, ?_⟩⟩
    show (PyData.strOk ⟨#[c]⟩ && decide ((⟨#[c]⟩ : Str).length ≤ sizeLine)) = true
    have h1 : c ∈ x.cps.toList := by
      unfold atI at hc
      obtain ⟨j, _, hj⟩ := Option.bind_eq_some_iff.mp hc
      exact List.mem_of_getElem? hj
    have h2 := ok.1
    unfold PyData.strOk at h2 ⊢
    rw [Array.all_eq_true_iff_forall_mem] at h2
    rw [Bool.and_eq_true]
    refine ⟨?_, by show decide (1 ≤ sizeLine) = true; decide⟩
    simpa using h2 c (by simpa using h1)
end
end TP

namespace TP
open PySem PySem.Spec PyProof.Rows L2
/-! ### things that change: products -/
def muX {α β : Type} (A : Mu α) (B : Mu β) : Mu (α × β) where
  fp := A.fp ++ B.fp
  m := fun s Z H => A.m s.1 Z H ∧ B.m s.2 Z H ∧ ∀ a ∈ A.fp, a ∉ B.fp
  al := fun ⟨h, g, _⟩ a ha => by
    rcases List.mem_append.mp ha with ha | ha
    · exact A.al h a ha
    · exact B.al g a ha
  loc := fun sz hk hn ⟨h, g, d⟩ => ⟨A.loc sz (fun a ha => hk a (List.mem_append_left _ ha)) (fun a ha => hn a (List.mem_append_left _ ha)) h, B.loc sz (fun a ha => hk a (List.mem_append_right _ ha)) (fun a ha => hn a (List.mem_append_right _ ha)) g, d⟩
theorem Mu.keep {μ : Type} {N : Mu μ} {s : μ} {F : List Addr} {Z H Z' H' : Hp} (m : N.m s Z H) (e : Step F Z H Z' H') (d : ∀ a ∈ N.fp, a ∉ F) : N.m s Z' H' :=
  N.loc e.z (fun a ha o h => e.h a o (d a ha) h) (fun a _ h z => e.n a h z) m
section
variable {μ ν ι : Type} {S : List Addr} {Z0 H0 : Hp} {M : Mu μ} {N : Mu ν} {σ : L2.St} {Z H : Hp} {s s' s1 s2 s3 : μ} {c c' : ν} {ta tb tc te : TE} {t : TA} {K : PySem.W.Frag} {D : Ends}
/-- the attribute f of the thing at p -/
def MFld {α : Type} (N : Mu ν) (p C : Addr) (f : Str) (τ : Ty α) (pr : ν → α) : Prop := ∀ c Z H, N.m c Z H → ∃ dx fs w, H p = some (.ins C dx fs) ∧ fs.lookup f = some w ∧ τ.r Z w (pr c)
theorem ev_mfld {α : Type} {τ : Ty α} {p C : Addr} {f : Str} {pr : ν → α} {i : Nat} (hm : ∀ Z H, M.m s Z H → N.m c Z H) (F : MFld N p C f τ pr) (cl : Cls K C) (n : NoAttr K C f) (e : σ[i]? = some (some (.ref p))) : Ev M (tFld K (tVar i) f) σ Z H s (ty τ (pr c)) s :=
  fun Z1 H1 _ _ c' d Q q => ⟨_, e, by
    obtain ⟨dx, fs, w, hp, l, r⟩ := F c Z1 H1 (hm Z1 H1 d)
    exact ⟨p, C, dx, fs, w, rfl, hp, cl, n, l, q w Z1 H1 (Step.refl c') d r⟩⟩
/-- the attribute f is itself a thing that changes, at q -/
def MRef (N : Mu ν) (p C : Addr) (f : Str) (q : Addr) : Prop := ∀ c Z H, N.m c Z H → ∃ dx fs, H p = some (.ins C dx fs) ∧ fs.lookup f = some (.ref q)
theorem ev_mref {p C q : Addr} {f : Str} {i : Nat} (hm : ∀ Z H, M.m s Z H → N.m c Z H) (F : MRef N p C f q) (cl : Cls K C) (n : NoAttr K C f) (e : σ[i]? = some (some (.ref p))) : Ev M (tFld K (tVar i) f) σ Z H s (isRef q) s :=
  fun Z1 H1 _ _ c' d Q k => ⟨_, e, by
    obtain ⟨dx, fs, hp, l⟩ := F c Z1 H1 (hm Z1 H1 d)
    exact ⟨p, C, dx, fs, _, rfl, hp, cl, n, l, k _ Z1 H1 (Step.refl c') d rfl⟩⟩
/-- the thing at p is an instance of the class at C without an own attribute m -/
def MObj (N : Mu ν) (p C : Addr) (m : Str) : Prop := ∀ c Z H, N.m c Z H → ∃ dx fs, H p = some (.ins C dx fs) ∧ fs.lookup m = none
theorem ev_mmeth {p C' : Addr} {m : Str} {sp : Sp} {E : XK} {Rs : Ra M.fp} {R : Rr M.fp} (hm : ∀ Z H, M.m s1 Z H → N.m c Z H) (O : MObj N p C' m) (cs : CallS M sp E (rac (isRef p) Rs) s2 R s3) (hx : Ev M ta σ Z H s (isRef p) s1) (ha : EvA M t σ Z H s1 Rs s2) : Ev M (tMeth C' m sp [] E ta t) σ Z H s R s3 :=
  fun Z1 H1 a b c' d Q q => hx Z1 H1 a b c' d _ fun v Z2 H2 e mm rv => by
    obtain ⟨dx, fs, hp, l⟩ := O _ Z2 H2 (hm Z2 H2 mm)
    have ev : v = .ref p := rv
    subst ev
    refine ⟨p, dx, fs, rfl, hp, l, ha Z2 H2 (a.trans e.z) (b.trans e.h) e.s mm _ fun vs Z3 H3 e2 m2 rs => ?_⟩
    rw [List.append_nil]
    exact cs Z3 H3 _ e2.s m2 ⟨_, vs, rfl, rfl, rs⟩ Q fun v Z4 H4 e3 m3 rv' => q v Z4 H4 ((e.trans e2).trans e3) m3 rv'
theorem ev_mprop {p C' : Addr} {m : Str} {sp : Sp} {E : XK} {R : Rr M.fp} (hm : ∀ Z H, M.m s1 Z H → N.m c Z H) (O : MObj N p C' m) (cs : CallS M sp E (rac (isRef p) ra0) s1 R s2) (hx : Ev M ta σ Z H s (isRef p) s1) : Ev M (tProp C' sp [] E ta) σ Z H s R s2 :=
  fun Z1 H1 a b c' d Q q => hx Z1 H1 a b c' d _ fun v Z2 H2 e mm rv => by
    obtain ⟨dx, fs, hp, l⟩ := O _ Z2 H2 (hm Z2 H2 mm)
    have ev : v = .ref p := rv
    subst ev
    exact ⟨p, dx, fs, rfl, hp, cs Z2 H2 _ e.s mm ⟨_, [], rfl, rfl, rfl⟩ Q fun v Z4 H4 e3 m3 rv' => q v Z4 H4 (e.trans e3) m3 rv'⟩
theorem eve_mmeth {p C' : Addr} {m : Str} {sp : Sp} {E : XK} {Rs : Ra M.fp} {cls : Value} (hm : ∀ Z H, M.m s1 Z H → N.m c Z H) (O : MObj N p C' m) (cs : CallE M sp E (rac (isRef p) Rs) s2 cls s3) (hx : Ev M ta σ Z H s (isRef p) s1) (ha : EvA M t σ Z H s1 Rs s2) : EvE M (tMeth C' m sp [] E ta t) σ Z H s (E cls none) s3 :=
  fun Z1 H1 a b c' d Q q => hx Z1 H1 a b c' d _ fun v Z2 H2 e mm rv => by
    obtain ⟨dx, fs, hp, l⟩ := O _ Z2 H2 (hm Z2 H2 mm)
    have ev : v = .ref p := rv
    subst ev
    refine ⟨p, dx, fs, rfl, hp, l, ha Z2 H2 (a.trans e.z) (b.trans e.h) e.s mm _ fun vs Z3 H3 e2 m2 rs => ?_⟩
    rw [List.append_nil]
    exact cs Z3 H3 _ e2.s m2 ⟨_, vs, rfl, rfl, rs⟩ Q fun Z4 H4 e3 m3 => q Z4 H4 ((e.trans e2).trans e3) m3
theorem eve_mmethA {p C' : Addr} {m : Str} {sp : Sp} {E : XK} {X : Hp → Prop} (hm : ∀ Z H, M.m s1 Z H → N.m c Z H) (O : MObj N p C' m) (hx : Ev M ta σ Z H s (isRef p) s1) (ha : EvAE M t σ Z H s1 X s2) : EvE M (tMeth C' m sp [] E ta t) σ Z H s X s2 :=
  fun Z1 H1 a b c' d Q q => hx Z1 H1 a b c' d _ fun v Z2 H2 e mm rv => by
    obtain ⟨dx, fs, hp, l⟩ := O _ Z2 H2 (hm Z2 H2 mm)
    have ev : v = .ref p := rv
    subst ev
    exact ⟨p, dx, fs, rfl, hp, l, ha Z2 H2 (a.trans e.z) (b.trans e.h) e.s mm _ fun Z3 H3 e2 m2 => q Z3 H3 (e.trans e2) m2⟩
/-- the attribute f is stored anew -/
def MSet {α : Type} (N : Mu ν) (p C : Addr) (f : Str) (τ : Ty α) (up : ν → α → ν) : Prop := ∀ c Z H, N.m c Z H → p ∈ N.fp ∧ Z p = none ∧ ∃ dx fs, H p = some (.ins C dx fs) ∧ fs.length < 1000 ∧ ∀ w x, τ.r Z w x → N.m (up c x) Z (upd H p (.ins C dx (putF f w fs)))
theorem st_mset {α : Type} {τ : Ty α} {x : α} {p C : Addr} {f : Str} {i : Nat} {up : ν → α → ν} {tv : TE} (P : Pt S Z0 H0 M Z H s) (hm : ∀ Z H, M.m s1 Z H → N.m c Z H) (hf : ∀ a ∈ N.fp, a ∈ M.fp) (hp : ∀ Z H Z' H', M.m s1 Z H → Step N.fp Z H Z' H' → N.m (up c x) Z' H' → M.m s2 Z' H')
    (F : MSet N p C f τ up) (cl : Cls K C) (n : NoAttr K C f) (hσ : σ[i]? = some (some (.ref p))) (e : Ev M tv σ Z H s (ty τ x) s1) (k : ∀ Z1 H1, Step M.fp Z H Z1 H1 → Pt S Z0 H0 M Z1 H1 s2 → D.nx σ H1) : sFld K (tVar i) tv f D σ H :=
  e Z H (Same.refl _) SameX.refl P.sub P.m _ fun v Z1 H1 e m r => by
    obtain ⟨pf, zp, dx, fs, h1, l, up'⟩ := F c Z1 H1 (hm Z1 H1 m)
    have m' := up' v x r
    have st : Step [p] Z1 H1 Z1 (upd H1 p (.ins C dx (putF f v fs))) := Step.set e.s zp
    have stN : Step N.fp Z1 H1 Z1 (upd H1 p (.ins C dx (putF f v fs))) := st.weak fun a ha => by rw [List.mem_singleton] at ha; rw [ha]; exact .inl pf
    have m2 := hp _ _ _ _ m stN m'
    have e2 := e.trans (stN.weak fun a ha => .inl (hf a ha))
    exact ⟨.ref p, hσ, p, C, dx, fs, rfl, h1, cl, n, l, k _ _ e2 (P.next e2 m2)⟩
/-- self.f += e of integers -/
theorem st_maug {p C : Addr} {f : Str} {i : Nat} {up : ν → Int → ν} {tv : TE} {pr : ν → Int} {b : Int} {g : Int → Int → Int} (P : Pt S Z0 H0 M Z H s) (hm : ∀ Z H, M.m s Z H → N.m c Z H) (hf : ∀ a ∈ N.fp, a ∈ M.fp) (hp : ∀ Z H Z' H', M.m s Z H → Step N.fp Z H Z' H' → N.m (up c (g (pr c) b)) Z' H' → M.m s2 Z' H')
    (F : MSet N p C f yInt up) (G : MFld N p C f yInt pr) (cl : Cls K C) (n : NoAttr K C f) (hσ : σ[i]? = some (some (.ref p))) (e : Ev M tv σ Z H s (ty yInt b) s) (k : ∀ Z1 H1, Step M.fp Z H Z1 H1 → Pt S Z0 H0 M Z1 H1 s2 → D.nx σ H1) : sFldAug K (tVar i) tv (ipI g) f D σ H := by
  obtain ⟨dx0, fs0, w, h0, l0, r0⟩ := G c Z H (hm Z H P.m)
  refine ⟨.ref p, hσ, p, C, dx0, fs0, w, rfl, h0, cl, n, l0, e Z H (Same.refl _) SameX.refl P.sub P.m _ fun v Z1 H1 e m r => ?_⟩
  obtain ⟨pf, zp, dx, fs, h1, l, up'⟩ := F c Z1 H1 (hm Z1 H1 m)
  refine ⟨pr c, b, r0, r, dx, fs, h1, l, ?_⟩
  have m' := up' (.int (g (pr c) b)) (g (pr c) b) rfl
  have st : Step [p] Z1 H1 Z1 (upd H1 p (.ins C dx (putF f (.int (g (pr c) b)) fs))) := Step.set e.s zp
  have stN : Step N.fp Z1 H1 Z1 (upd H1 p (.ins C dx (putF f (.int (g (pr c) b)) fs))) := st.weak fun a ha => by rw [List.mem_singleton] at ha; rw [ha]; exact .inl pf
  have m2 := hp _ _ _ _ m stN m'
  have e2 := e.trans (stN.weak fun a ha => .inl (hf a ha))
  exact k _ _ e2 (P.next e2 m2)
/-- a new thing that changes -/
def EvM (M : Mu μ) (t : TE) (σ : L2.St) (Z H : Hp) (s : μ) (N : ι → Mu ν) (pr : ι → Addr) (x : ν) (s' : μ) : Prop :=
  ∀ Z1 H1, Same Z Z1 → SameX M.fp H H1 → Same Z1 H1 → M.m s Z1 H1 → ∀ Q : VK, (∀ i Z2 H2, Step M.fp Z1 H1 Z2 H2 → M.m s' Z2 H2 → (∀ a ∈ (N i).fp, H1 a = none) → (N i).m x Z2 H2 → Q (.ref (pr i)) H2) → t σ H1 Q
/-- what the __init__ makes: a thing that changes -/
def InitM (M : Mu μ) (C : Addr) (sp : Sp) (E : XK) (Rs : Ra M.fp) (s : μ) (N : ι → Mu ν) (pr : ι → Addr) (x : ν) (s' : μ) : Prop :=
  ∀ Z H vs p dx, Same Z H → M.m s Z H → Rs.r Z H vs → H p = some (.ins C dx []) → Z p = none → p ∉ M.fp → ∀ Q : VK, (∀ i Z2 H2, pr i = p → Step (p :: M.fp) Z H Z2 H2 → M.m s' Z2 H2 → (∀ a ∈ (N i).fp, a = p ∨ H a = none) → (N i).m x Z2 H2 → Q .non H2) → sp (.ref p :: vs) H Q E
theorem ev_makeM {C : Addr} {sp : Sp} {E : XK} {Rs : Ra M.fp} {N : ι → Mu ν} {pr : ι → Addr} {x : ν} (I : InitM M C sp E Rs s1 N pr x s2) (ha : EvA M t σ Z H s Rs s1) : EvM M (tMake C sp [] E t) σ Z H s N pr x s2 :=
  fun Z1 H1 a b c d Q q => ha Z1 H1 a b c d _ fun vs Z2 H2 e m rs x' dx hx hd ne => by
    rw [List.append_nil]
    have st := Step.dict (C := C) e.s hx hd ne
    have nf : x' ∉ M.fp := fun h => (M.al m x' h).1 hx
    have back : ∀ a, upd (upd H2 dx (.own x')) x' (.ins C dx []) a = none → H2 a = none := fun a h => by
      cases q : H2 a with
      | none => rfl
      | some o => exact absurd h (st.al a (some_ne q))
    refine I Z2 _ vs x' dx st.s (M.pure st m) (Rs.st st.pure rs) upd_same (same_none e.s hx) nf _ fun i Z3 H3 ei e2 m2 fr mi => ⟨rfl, ?_⟩
    subst ei
    have e3 : Step M.fp Z2 H2 Z3 H3 := ((st.pure (S := pr i :: M.fp)).trans e2).weak fun a h => by
      rcases List.mem_cons.mp h with e | h
      · exact .inr (e ▸ hx)
      · exact .inl h
    exact q i Z3 H3 (e.trans e3) m2 (fun a ha => by
      rcases fr a ha with r | r
      · rw [r]; exact same_x e hx
      · exact same_x e (back a r)) mi
/-- it is called x from now on -/
theorem st_setM {N : ι → Mu ν} {pr : ι → Addr} {x : ν} {j : Nat} (P : Pt S Z0 H0 M Z H s) (e : EvM M te σ Z H s N pr x s1) (k : ∀ i Z1 H1, Step M.fp Z H Z1 H1 → (∀ a ∈ (N i).fp, H a = none) → Pt S Z0 H0 (muX M (N i)) Z1 H1 (s1, x) → D.nx (σ.set j (some (.ref (pr i)))) H1) : tAsg te (gName j) D σ H :=
  e Z H (Same.refl _) SameX.refl P.sub P.m _ fun i Z1 H1 e m fr mi => k i Z1 H1 e fr ⟨P.st.mine e P.mine, ⟨m, mi, fun a ha hb => (M.al P.m a ha).1 (fr a hb)⟩, fun a ha => by
    rcases List.mem_append.mp ha with ha | ha
    · exact P.mine a ha
    · exact .inr (same_x P.st (fr a ha))⟩
theorem Pt.left {N : Mu ν} {x : ν} (P : Pt S Z0 H0 (muX M N) Z H (s, x)) : Pt S Z0 H0 M Z H s := ⟨P.st, P.m.1, fun a ha => P.mine a (List.mem_append_left _ ha)⟩
theorem Own.grow {α : Type} {τ : Ty α} {xs : List α} {p : Addr} {F : List Addr} {Z1 H1 : Hp} (o : Own S H0 M.fp Z H τ p xs) (e : Step M.fp Z H Z1 H1) (fr : ∀ a ∈ F, H a = none) : Own S H0 (M.fp ++ F) Z1 H1 τ p xs := by
  have o1 := o.next e
  obtain ⟨vs, h, _⟩ := o.ex
  have nf : p ∉ F := fun hb => by
    rw [fr p hb] at h
    exact nomatch h
  exact ⟨o1.ex, o1.z, fun ha => (List.mem_append.mp ha).elim o.n nf, o1.mine, o1.l⟩
theorem Own.left {α : Type} {τ : Ty α} {xs : List α} {p : Addr} {F G : List Addr} (o : Own S H0 (F ++ G) Z H τ p xs) : Own S H0 F Z H τ p xs := ⟨o.ex, o.z, fun h => o.n (List.mem_append_left _ h), o.mine, o.l⟩
theorem Step.left {F G : List Addr} {Z H Z1 H1 : Hp} (e : Step F Z H Z1 H1) : Step (F ++ G) Z H Z1 H1 := e.weak fun a h => .inl (List.mem_append_left _ h)
theorem putF_ne {f g : Str} {v w : V} {r : List (Str × V)} (h : ¬ g = f) : putF f v ((g, w) :: r) = (g, w) :: putF f v r := by
  show (if g = f then (g, v) :: r else (g, w) :: putF f v r) = _
  rw [if_neg h]
theorem putF_eq {f : Str} {v w : V} {r : List (Str × V)} : putF f v ((f, w) :: r) = (f, v) :: r := by
  show (if f = f then (f, v) :: r else _) = _
  rw [if_pos rfl]
theorem putF_nil {f : Str} {v : V} : putF f v [] = [(f, v)] := rfl
end
end TP

namespace TP
open PySem PySem.Spec PyProof.Rows L2
/-- what never is reached -/
theorem ps_dead {X : Cx} {s : Stmt} : PS X s (fun _ _ _ => False) := ⟨fun _ _ _ _ _ _ h => h.elim⟩
theorem sl_tupW {X : Cx} : SlR X (rSlW X.K) := sl_tupA
/-- an expression that is read in one of two ways -/
theorem pe_or2 {X : Cx} {e : Expr} {t u : TE} (h : PE X e t) (g : PE X e u) : PE X e (fun σ H Q => t σ H Q ∨ u σ H Q) := ⟨fun pins s σ H Q I q => by
  rcases q with q | q
  · exact h.run pins s σ H Q I q
  · exact g.run pins s σ H Q I q⟩
def rOr (r r' : R2) : R2 := fun x y H Q => r x y H Q ∨ r' x y H Q
theorem op_or {X : Cx} {f : Value → Value → Sem Value} {r r' : R2} (h : OpR X f r) (h' : OpR X f r') : OpR X f (rOr r r') := fun pins s σ H x y v u Q I rx ry q => by
  rcases q with q | q
  · exact h pins s σ H x y v u Q I rx ry q
  · exact h' pins s σ H x y v u Q I rx ry q
def rImp (r r' : R2) : Prop := ∀ x y H Q, r x y H Q → r' x y H Q
theorem ri_self {r : R2} : rImp r r := fun _ _ _ _ h => h
theorem ri_l {r r' : R2} : rImp r (rOr r r') := fun _ _ _ _ h => .inl h
theorem ri_r {r r' r'' : R2} (h : rImp r r') : rImp r (rOr r'' r') := fun _ _ _ _ q => .inr (h _ _ _ _ q)
section
variable {μ : Type} {M : Mu μ} {σ : L2.St} {Z H : Hp} {s s1 s2 s3 : μ} {ta tb t u : TE} {K : PySem.W.Frag}
theorem ev_orl {R : Rr M.fp} (h : Ev M t σ Z H s R s1) : Ev M (fun σ H Q => t σ H Q ∨ u σ H Q) σ Z H s R s1 := fun Z1 H1 a b c d Q q => .inl (h Z1 H1 a b c d Q q)
theorem ev_orr {R : Rr M.fp} (h : Ev M u σ Z H s R s1) : Ev M (fun σ H Q => t σ H Q ∨ u σ H Q) σ Z H s R s1 := fun Z1 H1 a b c d Q q => .inr (h Z1 H1 a b c d Q q)
theorem ev_ownR {α : Type} {τ : Ty α} {x : α} {R0 : Rr M.fp} {C : Addr} {t : Value} {sp : Sp} {E : XK} {b neg : Bool} {r : R2} (hr : rImp (TPN.rOwnE K C neg sp E) r) (O : ∀ Z v x, τ.r Z v x → ∃ a dx fs, v = .ref a ∧ Z a = some (.ins C dx fs)) (tx : ∀ Z H v, Same Z H → R0.r Z H v → TyX K H v t) (hn : PySem.W.notFirst K C t = true)
    (c : CallS M sp E (rac (ty τ x) (rac R0 ra0)) s2 (ty yBool b) s3) (ha : Ev M ta σ Z H s (ty τ x) s1) (hb : Ev M tb σ Z H s1 R0 s2) : Ev M (tOp r ta tb) σ Z H s (ty yBool (b != neg)) s3 :=
  fun Z1 H1 a' b' c' d' Q q => ha Z1 H1 a' b' c' d' _ fun v Z2 H2 e m rv => hb Z2 H2 (a'.trans e.z) (b'.trans e.h) e.s m _ fun w Z3 H3 e2 m2 rw => by
    have rv3 := τ.mono e2.z rv
    obtain ⟨p, dx, fs, rfl, hp⟩ := O _ _ _ rv3
    exact hr _ _ _ _ ⟨p, dx, fs, t, rfl, e2.s _ _ hp, tx _ _ _ e2.s rw, hn, c Z3 H3 _ e2.s m2 ⟨_, _, rfl, rv3, _, _, rfl, rw, rfl⟩ _ fun u Z4 H4 e3 m3 ru => ⟨b, ru, q _ Z4 H4 ((e.trans e2).trans e3) m3 rfl⟩⟩
variable {fp : List Addr} {α β γ δ : Type} {τ : Ty α} {υ : Ty β} {φ : Ty γ} {ψ : Ty δ}
theorem tx_p1 {x : α} : ∀ Z H v, Same Z H → (ty (fp := fp) (yP1 K τ) x).r Z H v → TyX K H v (.type "tuple") := fun _ _ _ sz ⟨a, _, e, h, _⟩ => by subst e; exact tx_sqT (seqT_same sz h)
theorem tx_p4 {x : α × β × γ × δ} : ∀ Z H v, Same Z H → (ty (fp := fp) (yP4 K τ υ φ ψ) x).r Z H v → TyX K H v (.type "tuple") := fun _ _ _ sz ⟨a, _, _, _, _, e, h, _⟩ => by subst e; exact tx_sqT (seqT_same sz h)
end
end TP

namespace TP
open PySem PySem.Spec PyProof.Rows L2
section
variable {μ : Type} {M : Mu μ} {σ : L2.St} {Z H : Hp} {s s1 s2 : μ} {ta tb : TE} {K : PySem.W.Frag} {α : Type} {τ : Ty α}
theorem ev_countI {xs : List Int} {k : Int} (ha : Ev M ta σ Z H s (li yInt xs) s1) (hb : Ev M tb σ Z H s1 (ty yInt k) s2) : Ev M (tBM K "list" (rCntI K) ta (tCons tb tNil)) σ Z H s (ty yInt ((xs.count k : Nat) : Int)) s2 :=
  fun Z1 H1 a b c d Q q => ha Z1 H1 a b c d _ fun v Z2 H2 e m rv => by
    obtain ⟨p, vs, rfl, g, t, _⟩ := rdl e.s rv
    refine ⟨.inl ⟨rfl, _, SqL.of g⟩, eva_cons hb eva_nil Z2 H2 (a.trans e.z) (b.trans e.h) e.s m _ fun us Z3 H3 e2 m2 ⟨w, r, e3, rw', e4⟩ => ?_⟩
    cases e4; cases e3
    obtain ⟨p', vs', ev, g', t', _⟩ := rdl e2.s ((li yInt xs).st e2 rv)
    cases ev
    have hvs : vs' = xs.map V.int := All.ints t'
    subst hvs
    exact ⟨p, xs, k, rfl, by rw [show w = .int k from rw'], SqL.of g', q _ _ _ (e.trans e2) m2 rfl⟩
def idxO [DecidableEq α] (xs : List α) (x : α) : Option Nat := xs.findIdx? (fun y => decide (y = x))
/-- flat kinds, as list.index asks -/
structure FlatJ {α : Type} (τ : Ty α) (f : α → V) : Prop where
  eq : ∀ Z v x, τ.r Z v x → v = f x
  fl : ∀ x, flatV (f x) = true
  ev : ∀ x y, eqV (f x) (f y) = true ↔ x = y
theorem fj_int : FlatJ yInt V.int := ⟨fun _ _ _ h => h, fun _ => rfl, fun x y => by simp [eqV]⟩
theorem fj_str : FlatJ yStr V.str := ⟨fun _ _ _ h => h.1, fun _ => rfl, fun x y => by simp [eqV]⟩
theorem ev_indexL [DecidableEq α] {f : α → V} {xs : List α} {x : α} {j : Nat} (F : FlatJ τ f) (ha : Ev M ta σ Z H s (li τ xs) s1) (hb : Ev M tb σ Z H s1 (ty τ x) s2) (h : idxO xs x = some j) : Ev M (tBM K "list" (rIndex K) ta (tCons tb tNil)) σ Z H s (ty yInt ((j : Nat) : Int)) s2 :=
  fun Z1 H1 a b c d Q q => ha Z1 H1 a b c d _ fun v Z2 H2 e m rv => by
    obtain ⟨p, vs, rfl, g, t, _⟩ := rdl e.s rv
    refine ⟨.inl ⟨rfl, _, SqL.of g⟩, eva_cons hb eva_nil Z2 H2 (a.trans e.z) (b.trans e.h) e.s m _ fun us Z3 H3 e2 m2 ⟨w, r, e3, rw', e4⟩ => ?_⟩
    cases e4; cases e3
    obtain ⟨p', vs', ev, g', t', _⟩ := rdl e2.s ((li τ xs).st e2 rv)
    cases ev
    have hvs : vs' = xs.map f := All.map (fun v x => F.eq _ v x) t'
    subst hvs
    have hw : w = f x := F.eq _ _ _ rw'
    subst hw
    unfold idxO at h
    rw [List.findIdx?_eq_some_iff_getElem] at h
    obtain ⟨hj, h1, h2⟩ := h
    have e1 : xs[j] = x := of_decide_eq_true h1
    refine ⟨p, xs.map f, f x, j, f x, rfl, rfl, SqL.of g', F.fl x, ?_, by rw [List.getElem?_map, List.getElem?_eq_getElem hj, e1]; rfl, (F.ev x x).mpr rfl, fun m' z' hm hz => ?_, q _ _ _ (e.trans e2) m2 rfl⟩
    · rw [List.all_map]
      rw [List.all_eq_true]
      exact fun y _ => F.fl y
    · rw [List.getElem?_map] at hz
      have hm' : m' < xs.length := by omega
      rw [List.getElem?_eq_getElem hm'] at hz
      have hz' : f xs[m'] = z' := Option.some.inj hz
      subst hz'
      have := h2 m' hm
      cases q' : eqV (f xs[m']) (f x) with
      | false => rfl
      | true => exact absurd (decide_eq_true ((F.ev _ _).mp q')) (by simpa using this)
end
end TP

/-! == and != of lists, tuples and instances with an own ==, with either outcome -/
namespace TPQ
open PySem PySem.SeqAt
open AutoSeq1 (wpAny_loadPart')
open MeetsSeq MeetsSeq2 MeetsSeq3 SeqRoads2
section
variable {prog : Program} {w : World} {A : Around} {R : Result → Shared → Prop} {E : Value → Shared → Prop}
/-- at each turn the two lists are read anew; the i-th two are equal as e i says -/
def ListB (prog : Program) (w : World) (A : Around) (E : Value → Shared → Prop) (l b : Addr) (N : Nat) (e : Nat → Bool) (I : Shared → Prop) : Prop :=
  ∀ s, I s → ∃ (items items2 : Array Value) (dd dd2 : Option Addr) (n n2 : Nat) (sl sl2 : Array (Option Value)), s.heap.get? l = some { cls := .type "list", dict := dd, data := .seq items n, slots := sl } ∧ s.heap.get? b = some { cls := .type "list", dict := dd2, data := .seq items2 n2, slots := sl2 } ∧ items.size = N ∧ items2.size = N ∧
    ∀ i (h1 : i < items.size) (h2 : i < items2.size), wpAny (model prog w) A.in1 (eqBool items[i] items2[i]) (fun r s' => r = e i ∧ I s') E s
set_option maxHeartbeats 2000000 in
theorem list_loop (neg : Bool) (l b : Addr) (N : Nat) (e : Nat → Bool) (I : Shared → Prop) (hl : ListB prog w A (fun e s' => R (.error e) s') l b N e I)
    (fin : ∀ s, I s → R (.ok (.ret (.bool ((List.range N).all e != neg)))) s) (k : Nat) :
    ∀ i : Nat, N - i = k → i ≤ N → (∀ j, j < i → e j = true) → ∀ s, I s →
      wpAny (model prog w) A.in1 (Builtin.«list.__eq__.loop» ⟨[.ref l, .ref b, rawInt i, rawInt (if neg then 3 else 2)], []⟩) (GQ.FinOf prog w A R) (fun e s' => R (.error e) s') s := by
  induction k with
  | zero =>
    intro i hk hi he s h
    obtain ⟨items, items2, dd, dd2, n, n2, sl, sl2, hl1, hb1, hs1, hs2, _⟩ := hl _ h
    have hi' : i = N := by omega
    subst hi'
    have hR := fin s h
    have ha : (List.range i).all e = true := by rw [List.all_eq_true]; exact fun j hj => he j (List.mem_range.mp hj)
    rw [ha] at hR
    have hi1 : items[((i : Nat) : Int).toNat]? = none := by simp; omega
    have hi2 : items2[((i : Nat) : Int).toNat]? = none := by simp; omega
    obtain ⟨hp, g, d, tk, os⟩ := s
    cases neg
    · rw [if_neg Bool.false_ne_true]
      wp_walk using wpAny_loadPart' hl1, wpAny_loadPart' hb1
      rw [hi1, hi2]
      wp_walk using wpAny_loadPart' hl1, wpAny_loadPart' hb1
      show R (.ok (.ret (.bool (items.size == items2.size)))) _
      rw [hs1, hs2]
      simpa using hR
    · rw [if_pos rfl]
      wp_walk using wpAny_loadPart' hl1, wpAny_loadPart' hb1
      rw [hi1, hi2]
      wp_walk using wpAny_loadPart' hl1, wpAny_loadPart' hb1
      show R (.ok (.ret (.bool (items.size != items2.size)))) _
      rw [hs1, hs2]
      simpa using hR
  | succ k ih =>
    intro i hk hi he s h
    obtain ⟨items, items2, dd, dd2, n, n2, sl, sl2, hl1, hb1, hs1, hs2, turn⟩ := hl _ h
    have hlt : i < items.size := by omega
    have hlt2 : i < items2.size := by omega
    have ht := turn i hlt hlt2
    have hi1 : items[((i : Nat) : Int).toNat]? = some items[i] := by simp [hlt]
    have hi2 : items2[((i : Nat) : Int).toNat]? = some items2[i] := by simp [hlt2]
    have hc : ((i : Int) + 1) = ((i + 1 : Nat) : Int) := by omega
    have go : e i = true → ∀ s2, I s2 → wpAny (model prog w) A.in1 (Builtin.«list.__eq__.loop» ⟨[.ref l, .ref b, rawInt ((i + 1 : Nat) : Int), rawInt (if neg then 3 else 2)], []⟩) (GQ.FinOf prog w A R) (fun e s' => R (.error e) s') s2 := fun ei s2 h2 =>
      ih (i + 1) (by omega) (by omega) (fun j hj => by
        rcases Nat.lt_or_ge j i with g | g
        · exact he j g
        · have : j = i := by omega
          rw [this]; exact ei) s2 h2
    have stop : e i = false → (List.range N).all e = false := fun ei => by
      cases q : (List.range N).all e with
      | false => rfl
      | true => rw [List.all_eq_true.mp q i (List.mem_range.mpr (by omega))] at ei; cases ei
    obtain ⟨hp, g, d, tk, os⟩ := s
    cases neg
    · rw [if_neg Bool.false_ne_true] at go ⊢
      wp_walk using wpAny_loadPart' hl1, wpAny_loadPart' hb1
      rw [hi1, hi2]
      refine wpAny_bind (wpAny_mono ht (fun r s2 h2 => ?_) fun _ _ x => x)
      obtain ⟨hr, h2⟩ := h2
      subst hr
      cases ei : e i with
      | true =>
        have hrec := go ei s2 h2
        obtain ⟨hp2, g2, d2, tk2, os2⟩ := s2
        wp_walk
        rw [hc]
        exact ⟨plainId_quiet plain_eq_loop _, codeAny_builtin entry_eq_loop (by
          rw [Around.under_plainId plain_eq_loop _]
          exact hrec)⟩
      | false =>
        have hR := fin s2 h2
        rw [stop ei] at hR
        obtain ⟨its, its2, _, _, m, m2, _, _, hl2, hb2, z1, z2, _⟩ := hl _ h2
        have ki1 : its[((i : Nat) : Int).toNat]? = some (its[i]'(by omega)) := by simp
        have ki2 : its2[((i : Nat) : Int).toNat]? = some (its2[i]'(by omega)) := by simp
        obtain ⟨hp2, g2, d2, tk2, os2⟩ := s2
        wp_walk using wpAny_loadPart' hl2, wpAny_loadPart' hb2
        rw [ki1, ki2]
        wp_walk
        simpa using hR
    · rw [if_pos rfl] at go ⊢
      wp_walk using wpAny_loadPart' hl1, wpAny_loadPart' hb1
      rw [hi1, hi2]
      refine wpAny_bind (wpAny_mono ht (fun r s2 h2 => ?_) fun _ _ x => x)
      obtain ⟨hr, h2⟩ := h2
      subst hr
      cases ei : e i with
      | true =>
        have hrec := go ei s2 h2
        obtain ⟨hp2, g2, d2, tk2, os2⟩ := s2
        wp_walk
        rw [hc]
        exact ⟨plainId_quiet plain_eq_loop _, codeAny_builtin entry_eq_loop (by
          rw [Around.under_plainId plain_eq_loop _]
          exact hrec)⟩
      | false =>
        have hR := fin s2 h2
        rw [stop ei] at hR
        obtain ⟨its, its2, _, _, m, m2, _, _, hl2, hb2, z1, z2, _⟩ := hl _ h2
        have ki1 : its[((i : Nat) : Int).toNat]? = some (its[i]'(by omega)) := by simp
        have ki2 : its2[((i : Nat) : Int).toNat]? = some (its2[i]'(by omega)) := by simp
        obtain ⟨hp2, g2, d2, tk2, os2⟩ := s2
        wp_walk using wpAny_loadPart' hl2, wpAny_loadPart' hb2
        rw [ki1, ki2]
        wp_walk
        simpa using hR
set_option maxHeartbeats 2000000 in
theorem list_cmp (neg : Bool) (l b : Addr) (N : Nat) (e : Nat → Bool) (I : Shared → Prop) (hl : ListB prog w A (fun e s' => R (.error e) s') l b N e I)
    (fin : ∀ s, I s → R (.ok (.ret (.bool ((List.range N).all e != neg)))) s) {s : Shared} (h : I s) :
    wpAny (model prog w) A.in1 ((if neg then Builtin.«list.__ne__» else Builtin.«list.__eq__») ⟨[.ref l, .ref b], []⟩) (GQ.FinOf prog w A R) (fun e s' => R (.error e) s') s := by
  obtain ⟨items, items2, dd, dd2, n, n2, sl, sl2, hl1, hb1, hs1, hs2, _⟩ := hl _ h
  have hrec := list_loop (A := A) (R := R) neg l b N e I hl fin _ 0 rfl (Nat.zero_le _) (fun j hj => absurd hj (Nat.not_lt_zero j)) s h
  obtain ⟨hp, g, d, tk, os⟩ := s
  have f3 := AutoSeq1.sub_list_list
  have hne : ¬ (items.size != items2.size) = true := by simp [hs1, hs2]
  cases neg
  · rw [if_neg Bool.false_ne_true] at hrec ⊢
    wp_walk using wpAny_loadPart' hl1, wpAny_loadPart' hb1
    exact ⟨plainId_quiet plain_eq_loop _, codeAny_builtin entry_eq_loop (by
      rw [Around.under_plainId plain_eq_loop _]
      exact hrec)⟩
  · rw [if_pos rfl] at hrec ⊢
    wp_walk using wpAny_loadPart' hl1, wpAny_loadPart' hb1
    exact ⟨plainId_quiet plain_eq_loop _, codeAny_builtin entry_eq_loop (by
      rw [Around.under_plainId plain_eq_loop _]
      exact hrec)⟩
set_option maxHeartbeats 2000000 in
theorem list_len (neg : Bool) (l b : Addr) (items items2 : Array Value) (dd dd2 : Option Addr) (n n2 : Nat) (sl sl2 : Array (Option Value)) (hne : (items.size != items2.size) = true) {s : Shared} (hl1 : s.heap.get? l = some { cls := .type "list", dict := dd, data := .seq items n, slots := sl }) (hb1 : s.heap.get? b = some { cls := .type "list", dict := dd2, data := .seq items2 n2, slots := sl2 })
    (fin : R (.ok (.ret (.bool neg))) s) :
    wpAny (model prog w) A.in1 ((if neg then Builtin.«list.__ne__» else Builtin.«list.__eq__») ⟨[.ref l, .ref b], []⟩) (GQ.FinOf prog w A R) (fun e s' => R (.error e) s') s := by
  obtain ⟨hp, g, d, tk, os⟩ := s
  have f3 := AutoSeq1.sub_list_list
  cases neg
  · rw [if_neg Bool.false_ne_true]
    wp_walk using wpAny_loadPart' hl1, wpAny_loadPart' hb1
    exact fin
  · rw [if_pos rfl]
    wp_walk using wpAny_loadPart' hl1, wpAny_loadPart' hb1
    exact fin
set_option maxHeartbeats 2000000 in
theorem tup_cmp (neg : Bool) (l b : Addr) (items items2 : Array Value) (n n2 : Nat) (dd dd2 : Option Addr) (sl sl2 : Array (Option Value)) (e : Nat → Bool) (I : Shared → Prop)
    (turn : ∀ i (h1 : i < items.size) (h2 : i < items2.size) s, I s → wpAny (model prog w) A.in1 (eqBool items[i] items2[i]) (fun r s' => r = e i ∧ I s') (fun e s' => R (.error e) s') s)
    (fin : ∀ s, I s → R (.ok (.ret (.bool (((List.range (min items.size items2.size)).all e && items.size == items2.size) != neg)))) s) {s : Shared} (hl1 : s.heap.get? l = some { cls := .type "tuple", dict := dd, data := .seq items n, slots := sl }) (hb1 : s.heap.get? b = some { cls := .type "tuple", dict := dd2, data := .seq items2 n2, slots := sl2 }) (h : I s) :
    wpAny (model prog w) A.in1 ((if neg then Builtin.«tuple.__ne__» else Builtin.«tuple.__eq__») ⟨[.ref l, .ref b], []⟩) (GQ.FinOf prog w A R) (fun e s' => R (.error e) s') s := by
  have f2 := AutoSeq1.sub_tuple_tuple
  have hZ : (items.toList.zip items2.toList).length = min items.size items2.size := by simp
  have h0 := h
  have stop : ∀ i, i < min items.size items2.size → e i = false → (List.range (min items.size items2.size)).all e = false := fun i hi ei => by
    cases q : (List.range (min items.size items2.size)).all e with
    | false => rfl
    | true => rw [List.all_eq_true.mp q i (List.mem_range.mpr hi)] at ei; cases ei
  have turn' : ∀ (y x : Value) (rest : List (Value × Value)) (i : Nat), (y, x) :: rest = (items.toList.zip items2.toList).drop i → i < min items.size items2.size ∧ rest = (items.toList.zip items2.toList).drop (i + 1) ∧ ∀ s, I s → wpAny (model prog w) A.in1 (eqBool y x) (fun r s' => r = e i ∧ I s') (fun e s' => R (.error e) s') s := fun y x rest i hz => by
    have hlt : i < (items.toList.zip items2.toList).length := by
      rcases Nat.lt_or_ge i (items.toList.zip items2.toList).length with h' | h'
      · exact h'
      · rw [List.drop_of_length_le h'] at hz; cases hz
    have hm : i < min items.size items2.size := hZ ▸ hlt
    have h1 : i < items.size := Nat.lt_of_lt_of_le hm (Nat.min_le_left _ _)
    have h2 : i < items2.size := Nat.lt_of_lt_of_le hm (Nat.min_le_right _ _)
    rw [List.drop_eq_getElem_cons hlt] at hz
    injection hz with hyx hrest
    have hy : y = items[i] := by have := congrArg Prod.fst hyx; simpa using this
    have hx : x = items2[i] := by have := congrArg Prod.snd hyx; simpa using this
    subst hy hx
    exact ⟨hm, hrest, turn i h1 h2⟩
  have last : ∀ i, [] = (items.toList.zip items2.toList).drop i → (∀ j, j < i → j < min items.size items2.size → e j = true) → (List.range (min items.size items2.size)).all e = true := fun i hz he => by
    have hge : min items.size items2.size ≤ i := by
      rcases Nat.lt_or_ge i (items.toList.zip items2.toList).length with h' | h'
      · rw [List.drop_eq_getElem_cons h'] at hz; cases hz
      · exact hZ ▸ h'
    rw [List.all_eq_true]
    exact fun j hj => he j (Nat.lt_of_lt_of_le (List.mem_range.mp hj) hge) (List.mem_range.mp hj)
  have grow : ∀ i, e i = true → (∀ j, j < i → j < min items.size items2.size → e j = true) → ∀ j, j < i + 1 → j < min items.size items2.size → e j = true := fun i ei he j hj hm => by
    rcases Nat.lt_or_ge j i with g | g
    · exact he j g hm
    · have : j = i := by omega
      rw [this]; exact ei
  obtain ⟨hp, g, d, tk, os⟩ := s
  cases neg
  · rw [if_neg Bool.false_ne_true]
    wp_walk using wpAny_loadPart' hl1, wpAny_loadPart' hb1, wpAny_forIn_list _ (fun rest b s' => b.1 = none ∧ I s' ∧ ∃ i, rest = (items.toList.zip items2.toList).drop i ∧ ∀ j, j < i → j < min items.size items2.size → e j = true) _
    case turn =>
      rintro ⟨y, x⟩ rest b s' ⟨hb', hI, i, hz, he⟩
      obtain ⟨hm, hrest, tr⟩ := turn' y x rest i hz
      refine wpAny_bind (wpAny_mono (tr s' hI) (fun r s2 q2 => ?_) fun _ _ x => x)
      obtain ⟨hr, q2⟩ := q2
      subst hr
      cases ei : e i with
      | true =>
        wp_walk
        exact ⟨rfl, q2, i + 1, hrest, grow i ei he⟩
      | false =>
        have hR := fin s2 q2
        rw [stop i hm ei] at hR
        obtain ⟨hp2, g2, d2, tk2, os2⟩ := s2
        wp_walk
        simpa using hR
    case fin =>
      rintro ⟨b1, b2⟩ s' ⟨hb', hI, i, hz, he⟩
      simp only at hb'
      subst hb'
      have hR := fin s' hI
      rw [last i hz he] at hR
      wp_walk
      simpa [Builtin.Tuple.tupleCompareSizes, bne] using hR
    case h =>
      exact ⟨rfl, h0, 0, rfl, fun j hj => absurd hj (Nat.not_lt_zero j)⟩
  · rw [if_pos rfl]
    wp_walk using wpAny_loadPart' hl1, wpAny_loadPart' hb1, wpAny_forIn_list _ (fun rest b s' => b.1 = none ∧ I s' ∧ ∃ i, rest = (items.toList.zip items2.toList).drop i ∧ ∀ j, j < i → j < min items.size items2.size → e j = true) _
    case turn =>
      rintro ⟨y, x⟩ rest b s' ⟨hb', hI, i, hz, he⟩
      obtain ⟨hm, hrest, tr⟩ := turn' y x rest i hz
      refine wpAny_bind (wpAny_mono (tr s' hI) (fun r s2 q2 => ?_) fun _ _ x => x)
      obtain ⟨hr, q2⟩ := q2
      subst hr
      cases ei : e i with
      | true =>
        wp_walk
        exact ⟨rfl, q2, i + 1, hrest, grow i ei he⟩
      | false =>
        have hR := fin s2 q2
        rw [stop i hm ei] at hR
        obtain ⟨hp2, g2, d2, tk2, os2⟩ := s2
        wp_walk
        simpa using hR
    case fin =>
      rintro ⟨b1, b2⟩ s' ⟨hb', hI, i, hz, he⟩
      simp only at hb'
      subst hb'
      have hR := fin s' hI
      rw [last i hz he] at hR
      wp_walk
      simpa [Builtin.Tuple.tupleCompareSizes, bne] using hR
    case h =>
      exact ⟨rfl, h0, 0, rfl, fun j hj => absurd hj (Nat.not_lt_zero j)⟩

section
variable {s : Shared}
theorem rc_list (neg : Bool) {l b : Addr} {N : Nat} {Q : Value → Shared → Prop} (hu : A.units < cLine) (e : Nat → Bool) (I : Shared → Prop) (hl : ListB prog w A E l b N e I)
    (fin : ∀ s, I s → Q (.bool ((List.range N).all e != neg)) s) (h : I s) : wpAny (model prog w) A (richCompare (if neg then .NotEq else .Eq) (.ref l) (.ref b)) Q E s := by
  obtain ⟨items, items2, dd, dd2, n, n2, sl, sl2, hl1, hb1, _, _, _⟩ := hl _ h
  cases neg
  · rw [if_neg Bool.false_ne_true]
    refine wpAny_richCompare_same_room (op := .Eq) ⟨_, hl1, rfl⟩ ⟨_, hb1, rfl⟩ F.slot_list_eq (GQ.call_here F.slot_list_eq ⟨_, hl1, rfl⟩ F.entry_list_eq (F.args_list_eq_2 _ _) ?_) hu
    exact list_cmp (R := wants (fun v s' => v ≠ .notImplemented ∧ Q v s') E) false l b N e I hl (fun s' q => ⟨(fun x => nomatch x), fin s' q⟩) h
  · rw [if_pos rfl]
    refine wpAny_richCompare_same_room (op := .NotEq) ⟨_, hl1, rfl⟩ ⟨_, hb1, rfl⟩ F.slot_list_ne (GQ.call_here F.slot_list_ne ⟨_, hl1, rfl⟩ F.entry_list_ne (F.args_list_ne_2 _ _) ?_) hu
    exact list_cmp (R := wants (fun v s' => v ≠ .notImplemented ∧ Q v s') E) true l b N e I hl (fun s' q => ⟨(fun x => nomatch x), fin s' q⟩) h
theorem rc_list_len (neg : Bool) {l b : Addr} {items items2 : Array Value} {Q : Value → Shared → Prop} (hu : A.units < cLine) (hl : s.heap.IsList l items) (hb : s.heap.IsList b items2) (hne : (items.size != items2.size) = true) (fin : Q (.bool neg) s) :
    wpAny (model prog w) A (richCompare (if neg then .NotEq else .Eq) (.ref l) (.ref b)) Q E s := by
  obtain ⟨⟨cls, dd, data, sl⟩, ho, hc, n, hd⟩ := id hl
  obtain ⟨⟨cls2, dd2, data2, sl2⟩, ho2, hc2, n2, hd2⟩ := id hb
  simp only at hc hd hc2 hd2
  subst hc hd hc2 hd2
  cases neg
  · rw [if_neg Bool.false_ne_true]
    refine wpAny_richCompare_same_room (op := .Eq) ⟨_, ho, rfl⟩ ⟨_, ho2, rfl⟩ F.slot_list_eq (GQ.call_here F.slot_list_eq ⟨_, ho, rfl⟩ F.entry_list_eq (F.args_list_eq_2 _ _) ?_) hu
    exact list_len (R := wants (fun v s' => v ≠ .notImplemented ∧ Q v s') E) false l b items items2 dd dd2 n n2 sl sl2 hne ho ho2 ⟨(fun x => nomatch x), fin⟩
  · rw [if_pos rfl]
    refine wpAny_richCompare_same_room (op := .NotEq) ⟨_, ho, rfl⟩ ⟨_, ho2, rfl⟩ F.slot_list_ne (GQ.call_here F.slot_list_ne ⟨_, ho, rfl⟩ F.entry_list_ne (F.args_list_ne_2 _ _) ?_) hu
    exact list_len (R := wants (fun v s' => v ≠ .notImplemented ∧ Q v s') E) true l b items items2 dd dd2 n n2 sl sl2 hne ho ho2 ⟨(fun x => nomatch x), fin⟩
theorem rc_tup (neg : Bool) {l b : Addr} {items items2 : Array Value} {Q : Value → Shared → Prop} (hu : A.units < cLine) (e : Nat → Bool) (I : Shared → Prop) (hl : s.heap.IsTuple l items) (hb : s.heap.IsTuple b items2)
    (turn : ∀ i (h1 : i < items.size) (h2 : i < items2.size) s, I s → wpAny (model prog w) A.in1 (eqBool items[i] items2[i]) (fun r s' => r = e i ∧ I s') E s)
    (fin : ∀ s, I s → Q (.bool (((List.range (min items.size items2.size)).all e && items.size == items2.size) != neg)) s) (h : I s) : wpAny (model prog w) A (richCompare (if neg then .NotEq else .Eq) (.ref l) (.ref b)) Q E s := by
  obtain ⟨⟨cls, dd, data, sl⟩, ho, hc, n, hd⟩ := id hl
  obtain ⟨⟨cls2, dd2, data2, sl2⟩, ho2, hc2, n2, hd2⟩ := id hb
  simp only at hc hd hc2 hd2
  subst hc hd hc2 hd2
  cases neg
  · rw [if_neg Bool.false_ne_true]
    refine wpAny_richCompare_same_room (op := .Eq) ⟨_, ho, rfl⟩ ⟨_, ho2, rfl⟩ F.slot_tuple_eq (GQ.call_here F.slot_tuple_eq ⟨_, ho, rfl⟩ F.entry_tuple_eq (F.args_tuple_eq_2 _ _) ?_) hu
    exact tup_cmp (R := wants (fun v s' => v ≠ .notImplemented ∧ Q v s') E) false l b items items2 n n2 dd dd2 sl sl2 e I turn (fun s' q => ⟨(fun x => nomatch x), fin s' q⟩) ho ho2 h
  · rw [if_pos rfl]
    refine wpAny_richCompare_same_room (op := .NotEq) ⟨_, ho, rfl⟩ ⟨_, ho2, rfl⟩ F.slot_tuple_ne (GQ.call_here F.slot_tuple_ne ⟨_, ho, rfl⟩ F.entry_tuple_ne (F.args_tuple_ne_2 _ _) ?_) hu
    exact tup_cmp (R := wants (fun v s' => v ≠ .notImplemented ∧ Q v s') E) true l b items items2 n n2 dd dd2 sl sl2 e I turn (fun s' q => ⟨(fun x => nomatch x), fin s' q⟩) ho ho2 h
end
end
end TPQ
namespace TPQ
open PySem PySem.Spec PyProof.Rows L2
/-- how two values compare, by the abstract heap: with what outcome -/
abbrev EqF := V → V → Hp → Bool → Prop
def MonF (D : EqF) : Prop := ∀ x y b H H', L2.Ext H H' → D x y H b → D x y H' b
/-- ==, within a builtin -/
def EqB (X : Cx) (n : Nat) (D : EqF) : Prop :=
  ∀ (A : Around) (pins : List (Addr × Obj)) (s : Shared) (σ : L2.St) (H : Hp) (x y : V) (u v : Value) (b : Bool), Sub X n A → Inv X pins σ H s → RelV x u → RelV y v → D x y H b →
    wpAny (model X.prog X.w) A (eqBool u v) (fun r s' => r = b ∧ ∃ H', Inv X pins σ H' s' ∧ L2.Ext H H') X.xe s
/-- == and !=, as operators -/
def RcB (X : Cx) (n : Nat) (neg : Bool) (D : EqF) : Prop :=
  ∀ (A : Around) (pins : List (Addr × Obj)) (s : Shared) (σ : L2.St) (H : Hp) (x y : V) (u v : Value) (b : Bool), Sub X n A → Inv X pins σ H s → RelV x u → RelV y v → D x y H b →
    wpAny (model X.prog X.w) A (richCompare (if neg then .NotEq else .Eq) u v) (fun r s' => r = .bool (b != neg) ∧ ∃ H', Inv X pins σ H' s' ∧ L2.Ext H H') X.xe s
section
variable {X : Cx} {n m : Nat} {D D' : EqF}
theorem EqB.mono (h : EqB X n D) (hn : n ≤ m) : EqB X m D := fun A pins s σ H x y u v b sb => h A pins s σ H x y u v b (sb.mono hn)
theorem RcB.mono {neg : Bool} (h : RcB X n neg D) (hn : n ≤ m) : RcB X m neg D := fun A pins s σ H x y u v b sb => h A pins s σ H x y u v b (sb.mono hn)
theorem EqB.imp (h : EqB X n D) (hd : ∀ x y H b, D' x y H b → D x y H b) : EqB X n D' := fun A pins s σ H x y u v b sb I rx ry d => h A pins s σ H x y u v b sb I rx ry (hd x y H b d)
theorem RcB.imp {neg : Bool} (h : RcB X n neg D) (hd : ∀ x y H b, D' x y H b → D x y H b) : RcB X n neg D' := fun A pins s σ H x y u v b sb I rx ry d => h A pins s σ H x y u v b sb I rx ry (hd x y H b d)
/-- flat values -/
def FFlat : EqF := fun x y _ b => flatV x = true ∧ flatV y = true ∧ eqV x y = b
theorem eqB_flat : EqB X 0 FFlat := by
  intro A pins s σ H x y u v b sb I rx ry d
  obtain ⟨fx, fy, e⟩ := d
  have q := eqAt_V (A := A) (s := s) rx ry fx fy
  rw [e] at q
  exact q X.prog X.w X.xe _ ⟨rfl, H, I, Ext.rfl'⟩
/-- pair by pair -/
inductive PrB (D : EqF) : List V → List V → Hp → List Bool → Prop
  | nil {xs ys : List V} {H : Hp} (h : xs = [] ∨ ys = []) : PrB D xs ys H []
  | cons {x y : V} {xs ys : List V} {H : Hp} {b : Bool} {bs : List Bool} (h : D x y H b) (r : PrB D xs ys H bs) : PrB D (x :: xs) (y :: ys) H (b :: bs)
theorem PrB.mon (hD : MonF D) {H H' : Hp} (e : L2.Ext H H') : ∀ {xs ys : List V} {bs : List Bool}, PrB D xs ys H bs → PrB D xs ys H' bs
  | _, _, _, .nil h => .nil h
  | _, _, _, .cons h r => .cons (hD _ _ _ _ _ e h) (r.mon hD e)
theorem PrB.len {H : Hp} : ∀ {xs ys : List V} {bs : List Bool}, PrB D xs ys H bs → bs.length = min xs.length ys.length
  | _, _, _, .nil h => by rcases h with rfl | rfl <;> simp
  | _, _, _, .cons h r => by have := r.len; simp only [List.length_cons]; omega
theorem PrB.get {H : Hp} : ∀ {xs ys : List V} {bs : List Bool} (i : Nat) {x y : V}, PrB D xs ys H bs → xs[i]? = some x → ys[i]? = some y → D x y H (bs.getD i false)
  | _, _, _, i, _, _, .nil h, h1, h2 => by rcases h with rfl | rfl <;> simp at h1 h2
  | _, _, _, 0, _, _, .cons h r, h1, h2 => by
    simp at h1 h2
    subst h1 h2
    exact h
  | _, _, _, i + 1, _, _, .cons h r, h1, h2 => by
    simp at h1 h2
    have := r.get i h1 h2
    simpa using this
theorem all_range : ∀ bs : List Bool, (List.range bs.length).all (fun i => bs.getD i false) = bs.all id
  | [] => rfl
  | b :: bs => by
    rw [List.length_cons, List.range_succ_eq_map, List.all_cons, List.all_map, List.all_cons, ← all_range bs]
    rfl
def LoopB (X : Cx) (pins : List (Addr × Obj)) (σ : L2.St) (H : Hp) (s' : Shared) : Prop := ∃ H', Inv X pins σ H' s' ∧ L2.Ext H H'
theorem turnB (hD : MonF D) (h : EqB X n D) {A : Around} (sb : Sub X (n + 1) A) {pins : List (Addr × Obj)} {σ : L2.St} {H : Hp} {xs ys : List V} {bs : List Bool} {its its2 : List Value} (p : PrB D xs ys H bs) (r : Vals xs its) (r2 : Vals ys its2)
    (i : Nat) (h1 : i < its.toArray.size) (h2 : i < its2.toArray.size) (s' : Shared) (l : LoopB X pins σ H s') :
    wpAny (model X.prog X.w) A.in1 (eqBool its.toArray[i] its2.toArray[i]) (fun r s2 => r = bs.getD i false ∧ LoopB X pins σ H s2) X.xe s' := by
  obtain ⟨H1, I1, e1⟩ := l
  have g1 : its[i]? = some its.toArray[i] := by
    have h1' : i < its.length := by simpa using h1
    rw [List.getElem?_eq_getElem h1'] <;> simp
  have g2 : its2[i]? = some its2.toArray[i] := by
    have h2' : i < its2.length := by simpa using h2
    rw [List.getElem?_eq_getElem h2'] <;> simp
  have k1 : i < xs.length := by rw [r.length]; simpa using h1
  have k2 : i < ys.length := by rw [r2.length]; simpa using h2
  obtain ⟨u, hu, ru⟩ := r.get (List.getElem?_eq_getElem k1)
  obtain ⟨v, hv, rv⟩ := r2.get (List.getElem?_eq_getElem k2)
  rw [g1] at hu
  rw [g2] at hv
  rw [Option.some.inj hu, Option.some.inj hv]
  refine wpAny_mono (h A.in1 pins s' σ H1 _ _ u v _ sb.in1 I1 ru rv ((p.mon hD e1).get i (List.getElem?_eq_getElem k1) (List.getElem?_eq_getElem k2))) (fun r s2 q => ?_) fun _ _ x => x
  obtain ⟨hr, H2, I2, e2⟩ := q
  exact ⟨hr, H2, I2, e1.trans e2⟩
def FList (D : EqF) : EqF := fun x y H b => ∃ a c xs ys bs, x = .ref a ∧ y = .ref c ∧ H a = some (.lst xs) ∧ H c = some (.lst ys) ∧ PrB D xs ys H bs ∧ b = (bs.all id && decide (xs.length = ys.length))
def FTup (K : PySem.W.Frag) (D : EqF) : EqF := fun x y H b => ∃ a c xs ys bs, x = .ref a ∧ y = .ref c ∧ SqT K H a xs ∧ SqT K H c ys ∧ PrB D xs ys H bs ∧ b = (bs.all id && decide (xs.length = ys.length))
theorem mon_list (hD : MonF D) : MonF (FList D) := fun x y b H H' e ⟨a, c, xs, ys, bs, hx, hy, h1, h2, p, hb⟩ => ⟨a, c, xs, ys, bs, hx, hy, e _ _ h1, e _ _ h2, p.mon hD e, hb⟩
theorem mon_tup {K : PySem.W.Frag} (hD : MonF D) : MonF (FTup K D) := fun x y b H H' e ⟨a, c, xs, ys, bs, hx, hy, h1, h2, p, hb⟩ => ⟨a, c, xs, ys, bs, hx, hy, h1.ext e, h2.ext e, p.mon hD e, hb⟩
theorem rcB_list (neg : Bool) (hD : MonF D) (h : EqB X n D) : RcB X (n + 1) neg (FList D) := by
  intro A pins s σ H x y u v b sb I rx ry d
  obtain ⟨a, c, xs, ys, bs, rfl, rfl, ha, hc, p, rfl⟩ := d
  cases rx
  cases ry
  by_cases hn : xs.length = ys.length
  · have hl : bs.length = xs.length := by have := p.len; omega
    rw [decide_eq_true hn, Bool.and_true]
    refine rc_list neg (N := xs.length) sb.room.units0 (fun i => bs.getD i false) (LoopB X pins σ H) (fun s' q => ?_) (fun s' q => ⟨?_, q⟩) ⟨H, I, Ext.rfl'⟩
    · obtain ⟨H1, I1, e1⟩ := id q
      obtain ⟨z, its, k, r, e⟩ := I1.hok a _ (e1 _ _ ha)
      obtain ⟨z2, its2, k2, r2, e2⟩ := I1.hok c _ (e1 _ _ hc)
      exact ⟨its.toArray, its2.toArray, _, _, k, k2, _, _, e, e2, by rw [List.size_toArray, ← r.length], by rw [List.size_toArray, ← r2.length, ← hn], fun i h1 h2 => turnB hD h sb p r r2 i h1 h2 s' q⟩
    · rw [← hl, all_range]
  · rw [decide_eq_false hn, Bool.and_false]
    obtain ⟨z, its, k, r, e⟩ := I.hok a _ ha
    obtain ⟨z2, its2, k2, r2, e2⟩ := I.hok c _ hc
    refine rc_list_len neg sb.room.units0 (items := its.toArray) (items2 := its2.toArray) ⟨_, e, rfl, _, rfl⟩ ⟨_, e2, rfl, _, rfl⟩ ?_ ⟨by simp, H, I, Ext.rfl'⟩
    rw [List.size_toArray, List.size_toArray, ← r.length, ← r2.length]
    simpa using hn
theorem rcB_tup (neg : Bool) (hD : MonF D) (h : EqB X n D) : RcB X (n + 1) neg (FTup X.K D) := by
  intro A pins s σ H x y u v b sb I rx ry d
  obtain ⟨a, c, xs, ys, bs, rfl, rfl, ha, hc, p, rfl⟩ := d
  cases rx
  cases ry
  obtain ⟨its, r, e, z⟩ := I.tuple ha
  obtain ⟨its2, r2, e2, z2⟩ := I.tuple hc
  refine rc_tup neg sb.room.units0 (fun i => bs.getD i false) (LoopB X pins σ H) e e2 (fun i h1 h2 s' q => turnB hD h sb p r r2 i h1 h2 s' q) (fun s' q => ⟨?_, q⟩) ⟨H, I, Ext.rfl'⟩
  have hl := p.len
  have e3 : min its.toArray.size its2.toArray.size = bs.length := by rw [List.size_toArray, List.size_toArray, ← r.length, ← r2.length, hl]
  rw [e3, all_range, List.size_toArray, List.size_toArray, ← r.length, ← r2.length]
  rfl
/-- instances of the class at C with the text's own == : R tells the outcome -/
def FIns (C : Addr) (R : Addr → Addr → Hp → Bool → Prop) : EqF := fun x y H b => ∃ a c dx dy fs gs, x = .ref a ∧ y = .ref c ∧ H a = some (.ins C dx fs) ∧ H c = some (.ins C dy gs) ∧ R a c H b
theorem mon_ins {C : Addr} {R : Addr → Addr → Hp → Bool → Prop} (hR : ∀ a c b H H', L2.Ext H H' → R a c H b → R a c H' b) : MonF (FIns C R) := fun x y b H H' e ⟨a, c, dx, dy, fs, gs, hx, hy, h1, h2, r⟩ => ⟨a, c, dx, dy, fs, gs, hx, hy, e _ _ h1, e _ _ h2, hR a c b H H' e r⟩
def spEqB (R : Addr → Addr → Hp → Bool → Prop) : Sp := fun vs H Q _ => ∃ a c b, vs = [.ref a, .ref c] ∧ R a c H b ∧ ∀ H', L2.Ext H H' → Q (.bl b) H'
theorem rcB_ins {CX : CXT} {C f : Addr} {fd : FuncData} {ps : List Str} {R : Addr → Addr → Hp → Bool → Prop} {E : XK} (F : FnOk X.prog X.w X.K X.mg X.base CX n f fd ps (spEqB R))
    (hs : PySem.W.findIn X.K (.ref C) "__eq__" = some (some (.ref f))) (hf : PySem.W.isFn X.K (.ref f) = true) (hb : Binds X.K fd ps []) (hx : Passes CX X E) : RcB X n false (FIns C R) := by
  intro A pins s σ H x y u v b sb I rx ry d
  obtain ⟨a, c, dx, dy, fs, gs, rfl, rfl, ha, hc, hr⟩ := d
  cases rx
  cases ry
  obtain ⟨mA, J, _⟩ := ins_get I.hok ha
  obtain ⟨mB, J', _⟩ := ins_get I.hok hc
  obtain ⟨od, J, _⟩ := J.look
  obtain ⟨od', J', _⟩ := J'.look
  obtain ⟨m, hF⟩ := I.fr
  rw [if_neg Bool.false_ne_true]
  refine PySem.W.cmp_K (op := .Eq) (tb := .ref C) sb.room.units0 hF I.ok.mod.kin J J'.type (by simp [PySem.W.notFirst]) hs hf ?_
  have hsp : spEqB R [.ref a, .ref c] H (fun v H' => v = .bl b ∧ L2.Ext H H') E := ⟨a, c, b, rfl, hr, fun H' e => ⟨rfl, e⟩⟩
  have e0 : Env0 X.prog X.w X.K X.mg X.base A X.stack s H := by
    have e := I.env0
    exact ⟨by rw [sb.fr]; exact e.frames, e.mod, e.bs, e.bsz, e.funs, e.frf, e.hok, e.bare⟩
  have hl := F.len _ _ _ _ hsp
  have r2 : Vals [V.ref a, V.ref c] [Value.ref a, Value.ref c] := .cons rfl (.cons rfl .nil)
  refine wpAny_call (codeAny_mono (F.run A X.stack s H ⟨[.ref a, .ref c], []⟩ [.ref a, .ref c] [.ref a, .ref c] _ E sb.room e0 (by
    have := hb s [.ref a, .ref c] I.kIn (by simpa using hl)
    simpa using this) r2 hsp) fun r s' hq => ?_)
  cases r with
  | error e => exact hx pins σ H s e s' I hq
  | ok fl =>
    cases fl with
    | ret w =>
      obtain ⟨z, H', I', rz, ez, ex⟩ := I.after hq
      subst ez
      cases rz
      exact ⟨by simp, H', I', ex⟩
    | next => exact False.elim hq
    | brk => exact False.elim hq
    | cont => exact False.elim hq
/-- within a builtin the same object is equal to itself: D must say so too -/
theorem RcB.eqB (h : RcB X n false D) (hr : ∀ x y H b, D x y H b → ∃ a c, x = .ref a ∧ y = .ref c) (hs : ∀ a H b, D (.ref a) (.ref a) H b → b = true) : EqB X n D := by
  intro A pins s σ H x y u v b sb I rx ry d
  obtain ⟨a, c, rfl, rfl⟩ := hr _ _ _ _ d
  cases rx
  cases ry
  by_cases hab : a = c
  · subst hab
    rw [hs _ _ _ d]
    exact SeqAt.EqAt.same (A := A) (s := s) (.ref a) X.prog X.w X.xe _ ⟨rfl, H, I, Ext.rfl'⟩
  · refine GQ.eqBool_refG hab (wpAny_mono (h A pins s σ H (.ref a) (.ref c) _ _ b sb I rfl rfl d) (fun r s' q => ?_) fun _ _ x => x)
    obtain ⟨hr', q⟩ := q
    exact ⟨b, by rw [hr']; simp, rfl, q⟩
/-- as an expression -/
def rCmpB (neg : Bool) (D : EqF) : R2 := fun x y H Q => ∃ b, D x y H b ∧ ∀ H', L2.Ext H H' → Q (.bl (b != neg)) H'
theorem op_eqB (h : RcB X n false D) (hr : Room n X.A) : OpR X (compareOp .Eq) (rCmpB false D) := by
  intro pins s σ H x y v u Q I rx ry hq
  obtain ⟨b, d, q⟩ := hq
  show wpAny (model X.prog X.w) X.A (richCompare .Eq v u) (EP X pins σ Q) X.xe s
  refine wpAny_mono (h X.A pins s σ H x y v u b ⟨hr, rfl⟩ I rx ry d) (fun r s' z => ?_) fun _ _ x => x
  obtain ⟨hr', H', I', e⟩ := z
  subst hr'
  exact ⟨.bl (b != false), H', I', rfl, q H' e⟩
theorem op_neB (h : RcB X n true D) (hr : Room n X.A) : OpR X (compareOp .NotEq) (rCmpB true D) := by
  intro pins s σ H x y v u Q I rx ry hq
  obtain ⟨b, d, q⟩ := hq
  show wpAny (model X.prog X.w) X.A (richCompare .NotEq v u) (EP X pins σ Q) X.xe s
  refine wpAny_mono (h X.A pins s σ H x y v u b ⟨hr, rfl⟩ I rx ry d) (fun r s' z => ?_) fun _ _ x => x
  obtain ⟨hr', H', I', e⟩ := z
  subst hr'
  exact ⟨.bl (b != true), H', I', rfl, q H' e⟩
end
end TPQ

namespace TP
open PySem PySem.Spec PyProof.Rows L2 TPQ
/-! ### == of things that hold instances -/
section
variable {X : Cx} {n m : Nat} {α β γ δ : Type} [DecidableEq α] [DecidableEq β] [DecidableEq γ] [DecidableEq δ] {τ : Ty α} {υ : Ty β} {φ : Ty γ} {ψ : Ty δ}
/-- the two are equal just when the things are -/
def FT (τ : Ty α) : EqF := fun x y H b => ∃ Z a c, Same Z H ∧ τ.r Z x a ∧ τ.r Z y c ∧ b = decide (a = c)
theorem mon_FT : MonF (FT τ) := fun _ _ _ _ _ e ⟨Z, a, c, s, r1, r2, h⟩ => ⟨Z, a, c, fun p o q => e _ _ (s p o q), r1, r2, h⟩
/-- a value stands for one thing only -/
def FnI (X : Cx) (τ : Ty α) : Prop := ∀ pins σ s Z H v x y, Inv X pins σ H s → Same Z H → τ.r Z v x → τ.r Z v y → x = y
theorem fn_int : FnI X yInt := fun _ _ _ _ _ _ _ _ _ _ h g => by cases h; cases g; rfl
theorem fn_bool : FnI X yBool := fun _ _ _ _ _ _ _ _ _ _ h g => by cases h; cases g; rfl
theorem fn_str : FnI X yStr := fun _ _ _ _ _ _ _ _ _ _ h g => by have := h.1.symm.trans g.1; cases this; rfl
theorem fn_non : FnI X yNon := fun _ _ _ _ _ _ _ _ _ _ _ _ => rfl
theorem fn_opt (F : FnI X τ) : FnI X (yOpt τ) := fun pins σ s Z H v x y I sz h g => by
  cases x with
  | none =>
    cases y with
    | none => rfl
    | some b => exact absurd (show v = .non from h) g.2
  | some a =>
    cases y with
    | none => exact absurd (show v = .non from g) h.2
    | some b => rw [F pins σ s Z H v a b I sz h.1 g.1]
theorem all_fn {R : V → α → Prop} (h : ∀ v x y, R v x → R v y → x = y) : ∀ {vs : List V} {xs ys : List α}, All R vs xs → All R vs ys → xs = ys
  | _, _, _, .nil, .nil => rfl
  | _, _, _, .cons a r, .cons b t => by rw [h _ _ _ a b, all_fn h r t]
theorem vals_inj : ∀ {us : List Value} {vs ws : List V}, Vals vs us → Vals ws us → vs = ws
  | _, _, _, .nil, .nil => rfl
  | _, _, _, .cons a r, .cons b t => by rw [RelV.inj a b, vals_inj r t]
theorem sqt_fn {pins : List (Addr × Obj)} {σ : L2.St} {s : Shared} {H : Hp} {a : Addr} {vs ws : List V} (I : Inv X pins σ H s) (h : SqT X.K H a vs) (g : SqT X.K H a ws) : vs = ws := by
  obtain ⟨its, r, e, _⟩ := I.tuple h
  obtain ⟨its2, r2, e2, _⟩ := I.tuple g
  obtain ⟨o, h1, _, n, d1⟩ := e
  obtain ⟨o2, h2, _, n2, d2⟩ := e2
  rw [h1] at h2
  cases Option.some.inj h2
  rw [d1] at d2
  have e3 : its.toArray = its2.toArray := by injection d2
  have e4 : its = its2 := by simpa using e3
  subst e4
  exact vals_inj r r2
theorem fn_list (F : FnI X τ) : FnI X (yList τ) := fun pins σ s Z H v x y I sz ⟨a, vs, e, h, t, _⟩ ⟨c, ws, e2, h2, t2, _⟩ => by
  cases e
  cases e2
  rw [h] at h2
  cases Option.some.inj h2
  exact all_fn (fun v x y => F pins σ s Z H v x y I sz) t t2
theorem fn_tup (F : FnI X τ) : FnI X (yTup X.K τ) := fun pins σ s Z H v x y I sz ⟨a, vs, e, h, t, _⟩ ⟨c, ws, e2, h2, t2, _⟩ => by
  cases e
  cases e2
  cases sqt_fn I (seqT_same sz h) (seqT_same sz h2)
  exact all_fn (fun v x y => F pins σ s Z H v x y I sz) t t2
theorem fn_p2 (F : FnI X τ) (G : FnI X υ) : FnI X (yP2 X.K τ υ) := fun pins σ s Z H v x y I sz ⟨a, v1, v2, e, h, h1, h2⟩ ⟨c, w1, w2, e2, g, g1, g2⟩ => by
  cases e
  cases e2
  cases sqt_fn I (seqT_same sz h) (seqT_same sz g)
  exact Prod.ext (F pins σ s Z H _ _ _ I sz h1 g1) (G pins σ s Z H _ _ _ I sz h2 g2)
theorem fn_p3 (F : FnI X τ) (G : FnI X υ) (K' : FnI X φ) : FnI X (yP3 X.K τ υ φ) := fun pins σ s Z H v x y I sz ⟨a, v1, v2, v3, e, h, h1, h2, h3⟩ ⟨c, w1, w2, w3, e2, g, g1, g2, g3⟩ => by
  cases e
  cases e2
  cases sqt_fn I (seqT_same sz h) (seqT_same sz g)
  exact Prod.ext (F pins σ s Z H _ _ _ I sz h1 g1) (Prod.ext (G pins σ s Z H _ _ _ I sz h2 g2) (K' pins σ s Z H _ _ _ I sz h3 g3))
theorem fn_p4 (F : FnI X τ) (G : FnI X υ) (K' : FnI X φ) (L : FnI X ψ) : FnI X (yP4 X.K τ υ φ ψ) := fun pins σ s Z H v x y I sz ⟨a, v1, v2, v3, v4, e, h, h1, h2, h3, h4⟩ ⟨c, w1, w2, w3, w4, e2, g, g1, g2, g3, g4⟩ => by
  cases e
  cases e2
  cases sqt_fn I (seqT_same sz h) (seqT_same sz g)
  exact Prod.ext (F pins σ s Z H _ _ _ I sz h1 g1) (Prod.ext (G pins σ s Z H _ _ _ I sz h2 g2) (Prod.ext (K' pins σ s Z H _ _ _ I sz h3 g3) (L pins σ s Z H _ _ _ I sz h4 g4)))
/-- within a builtin the same object is equal to itself -/
theorem eqT_of (F : FnI X τ) (hr : ∀ Z v x, τ.r Z v x → ∃ a, v = .ref a) (h : RcB X n false (FT τ)) : EqB X n (FT τ) := by
  intro A pins s σ H x y u v b sb I rx ry d
  obtain ⟨Z, a, c, sz, r1, r2, hb⟩ := id d
  obtain ⟨p, rfl⟩ := hr _ _ _ r1
  obtain ⟨q, rfl⟩ := hr _ _ _ r2
  cases rx
  cases ry
  by_cases hab : p = q
  · subst hab
    have e := F pins σ s Z H _ a c I sz r1 r2
    rw [hb, decide_eq_true e]
    exact SeqAt.EqAt.same (A := A) (s := s) (.ref p) X.prog X.w X.xe _ ⟨rfl, H, I, Ext.rfl'⟩
  · refine GQ.eqBool_refG hab (wpAny_mono (h A pins s σ H (.ref p) (.ref q) _ _ b sb I rfl rfl d) (fun r s' z => ?_) fun _ _ x => x)
    obtain ⟨hr', z⟩ := z
    exact ⟨b, by rw [hr']; simp, rfl, z⟩
theorem eqT_data {d : α → PyData} {k : Nat} (E : EqD X.K τ d k) (hk : k ≤ 60) : EqB X 0 (FT τ) := by
  intro A pins s σ H x y u v b sb I rx ry ⟨Z, a, c, sz, r1, r2, hb⟩
  obtain ⟨as, w1⟩ := Dp.reads I (d a) x u (E.dp _ _ _ _ sz r1) rx
  obtain ⟨bs, w2⟩ := Dp.reads I (d c) y v (E.dp _ _ _ _ sz r2) ry
  have h1 := E.dep a
  have hu := sb.room.un
  have q := SeqAt.eqAt_reads (d a) (d c) A s u v as bs w1 w2 (E.lay _ _ _ r1) (E.lay _ _ _ r2) (by omega)
  have e : PyData.eqv (d a) (d c) = b := by
    rw [hb]
    exact Bool.eq_iff_iff.mpr ((E.eqv a c).trans decide_eq_true_iff.symm)
  rw [e] at q
  exact q X.prog X.w X.xe _ ⟨rfl, H, I, Ext.rfl'⟩
/-- two lists of things, pair by pair -/
theorem prB {Z H : Hp} (sz : Same Z H) : ∀ {vs ws : List V} {xs ys : List α}, All (τ.r Z) vs xs → All (τ.r Z) ws ys → ∃ bs, PrB (FT τ) vs ws H bs ∧ decide (xs = ys) = (bs.all id && decide (vs.length = ws.length))
  | _, _, _, _, .nil, .nil => ⟨[], .nil (.inl rfl), by simp⟩
  | _, _, _, _, .nil, .cons _ _ => ⟨[], .nil (.inl rfl), by simp⟩
  | _, _, _, _, .cons _ _, .nil => ⟨[], .nil (.inr rfl), by simp⟩
  | v :: vs, w :: ws, x :: xs, y :: ys, .cons a r, .cons b t => by
    obtain ⟨bs, p, e⟩ := prB sz r t
    refine ⟨decide (x = y) :: bs, .cons ⟨Z, x, y, sz, a, b, rfl⟩ p, ?_⟩
    rw [List.all_cons, Bool.and_assoc]
    have e2 : decide (x :: xs = y :: ys) = (decide (x = y) && decide (xs = ys)) := by simp
    rw [e2, e]
    simp
theorem rcT_tup (neg : Bool) (E : EqB X n (FT τ)) : RcB X (n + 1) neg (FT (yTup X.K τ)) :=
  (rcB_tup neg mon_FT E).imp fun x y H b ⟨Z, xs, ys, sz, ⟨a, vs, e, h, t, _⟩, ⟨c, ws, e2, h2, t2, _⟩, hb⟩ => by
    obtain ⟨bs, p, q⟩ := prB sz t t2
    exact ⟨a, c, vs, ws, bs, e, e2, seqT_same sz h, seqT_same sz h2, p, hb.trans q⟩
theorem rcT_list (neg : Bool) (E : EqB X n (FT τ)) : RcB X (n + 1) neg (FT (yList τ)) :=
  (rcB_list neg mon_FT E).imp fun x y H b ⟨Z, xs, ys, sz, ⟨a, vs, e, h, t, _⟩, ⟨c, ws, e2, h2, t2, _⟩, hb⟩ => by
    obtain ⟨bs, p, q⟩ := prB sz t t2
    exact ⟨a, c, vs, ws, bs, e, e2, sz _ _ h, sz _ _ h2, p, hb.trans q⟩
/-- lists of one's own too -/
def FL (τ : Ty α) : EqF := fun x y H b => ∃ Z xs ys p q vs ws, Same Z H ∧ x = .ref p ∧ y = .ref q ∧ H p = some (.lst vs) ∧ H q = some (.lst ws) ∧ All (τ.r Z) vs xs ∧ All (τ.r Z) ws ys ∧ b = decide (xs = ys)
theorem rcT_own (neg : Bool) (E : EqB X n (FT τ)) : RcB X (n + 1) neg (FL τ) :=
  (rcB_list neg mon_FT E).imp fun x y H b ⟨Z, xs, ys, a, c, vs, ws, sz, e, e2, h, h2, t, t2, hb⟩ => by
    obtain ⟨bs, p, q⟩ := prB sz t t2
    exact ⟨a, c, vs, ws, bs, e, e2, h, h2, p, hb.trans q⟩
theorem eqT_tup (F : FnI X τ) (E : EqB X n (FT τ)) : EqB X (n + 1) (FT (yTup X.K τ)) := eqT_of (fn_tup F) (fun _ _ _ ⟨a, _, e, _⟩ => ⟨a, e⟩) (rcT_tup false E)
theorem eqT_list (F : FnI X τ) (E : EqB X n (FT τ)) : EqB X (n + 1) (FT (yList τ)) := eqT_of (fn_list F) (fun _ _ _ ⟨a, _, e, _⟩ => ⟨a, e⟩) (rcT_list false E)
def Or2 (D D' : EqF) : EqF := fun x y H b => D x y H b ∨ D' x y H b
theorem mon_or {D D' : EqF} (h : MonF D) (g : MonF D') : MonF (Or2 D D') := fun _ _ _ _ _ e d => d.imp (h _ _ _ _ _ e) (g _ _ _ _ _ e)
theorem eqB_or {D D' : EqF} (h : EqB X n D) (g : EqB X m D') : EqB X (max n m) (Or2 D D') := fun A pins s σ H x y u v b sb I rx ry d => by
  rcases d with d | d
  · exact h A pins s σ H x y u v b (sb.mono (Nat.le_max_left _ _)) I rx ry d
  · exact g A pins s σ H x y u v b (sb.mono (Nat.le_max_right _ _)) I rx ry d
theorem rcT_p2 (neg : Bool) (E : EqB X n (FT τ)) (F : EqB X m (FT υ)) : RcB X (max n m + 1) neg (FT (yP2 X.K τ υ)) :=
  (rcB_tup neg (mon_or mon_FT mon_FT) (eqB_or E F)).imp fun x y H b ⟨Z, x1, y1, sz, ⟨a, v1, v2, e, h, h1, h2⟩, ⟨c, w1, w2, e2, g, g1, g2⟩, hb⟩ =>
    ⟨a, c, _, _, [decide (x1.1 = y1.1), decide (x1.2 = y1.2)], e, e2, seqT_same sz h, seqT_same sz g, .cons (.inl ⟨Z, _, _, sz, h1, g1, rfl⟩) (.cons (.inr ⟨Z, _, _, sz, h2, g2, rfl⟩) (.nil (.inl rfl))), by rw [hb]; simp [Prod.ext_iff]⟩
theorem rcT_p3 {k : Nat} (neg : Bool) (E : EqB X n (FT τ)) (F : EqB X m (FT υ)) (G : EqB X k (FT φ)) : RcB X (max n (max m k) + 1) neg (FT (yP3 X.K τ υ φ)) :=
  (rcB_tup neg (mon_or mon_FT (mon_or mon_FT mon_FT)) (eqB_or E (eqB_or F G))).imp fun x y H b ⟨Z, x1, y1, sz, ⟨a, v1, v2, v3, e, h, h1, h2, h3⟩, ⟨c, w1, w2, w3, e2, g, g1, g2, g3⟩, hb⟩ =>
    ⟨a, c, _, _, [decide (x1.1 = y1.1), decide (x1.2.1 = y1.2.1), decide (x1.2.2 = y1.2.2)], e, e2, seqT_same sz h, seqT_same sz g, .cons (.inl ⟨Z, _, _, sz, h1, g1, rfl⟩) (.cons (.inr (.inl ⟨Z, _, _, sz, h2, g2, rfl⟩)) (.cons (.inr (.inr ⟨Z, _, _, sz, h3, g3, rfl⟩)) (.nil (.inl rfl)))), by rw [hb]; simp [Prod.ext_iff]⟩
theorem rcT_p4 {k l : Nat} (neg : Bool) (E : EqB X n (FT τ)) (F : EqB X m (FT υ)) (G : EqB X k (FT φ)) (L : EqB X l (FT ψ)) : RcB X (max n (max m (max k l)) + 1) neg (FT (yP4 X.K τ υ φ ψ)) :=
  (rcB_tup neg (mon_or mon_FT (mon_or mon_FT (mon_or mon_FT mon_FT))) (eqB_or E (eqB_or F (eqB_or G L)))).imp fun x y H b ⟨Z, x1, y1, sz, ⟨a, v1, v2, v3, v4, e, h, h1, h2, h3, h4⟩, ⟨c, w1, w2, w3, w4, e2, g, g1, g2, g3, g4⟩, hb⟩ =>
    ⟨a, c, _, _, [decide (x1.1 = y1.1), decide (x1.2.1 = y1.2.1), decide (x1.2.2.1 = y1.2.2.1), decide (x1.2.2.2 = y1.2.2.2)], e, e2, seqT_same sz h, seqT_same sz g, .cons (.inl ⟨Z, _, _, sz, h1, g1, rfl⟩) (.cons (.inr (.inl ⟨Z, _, _, sz, h2, g2, rfl⟩)) (.cons (.inr (.inr (.inl ⟨Z, _, _, sz, h3, g3, rfl⟩))) (.cons (.inr (.inr (.inr ⟨Z, _, _, sz, h4, g4, rfl⟩))) (.nil (.inl rfl))))), by rw [hb]; simp [Prod.ext_iff]⟩
theorem eqT_p2 (f : FnI X τ) (g : FnI X υ) (E : EqB X n (FT τ)) (F : EqB X m (FT υ)) : EqB X (max n m + 1) (FT (yP2 X.K τ υ)) := eqT_of (fn_p2 f g) (fun _ _ _ ⟨a, _, _, e, _⟩ => ⟨a, e⟩) (rcT_p2 false E F)
theorem eqT_p3 {k : Nat} (f : FnI X τ) (g : FnI X υ) (i : FnI X φ) (E : EqB X n (FT τ)) (F : EqB X m (FT υ)) (G : EqB X k (FT φ)) : EqB X (max n (max m k) + 1) (FT (yP3 X.K τ υ φ)) := eqT_of (fn_p3 f g i) (fun _ _ _ ⟨a, _, _, _, e, _⟩ => ⟨a, e⟩) (rcT_p3 false E F G)
theorem eqT_p4 {k l : Nat} (f : FnI X τ) (g : FnI X υ) (i : FnI X φ) (j : FnI X ψ) (E : EqB X n (FT τ)) (F : EqB X m (FT υ)) (G : EqB X k (FT φ)) (L : EqB X l (FT ψ)) : EqB X (max n (max m (max k l)) + 1) (FT (yP4 X.K τ υ φ ψ)) := eqT_of (fn_p4 f g i j) (fun _ _ _ ⟨a, _, _, _, _, e, _⟩ => ⟨a, e⟩) (rcT_p4 false E F G L)
/-- instances: by the text's own == -/
def FTr (τ : Ty α) : Addr → Addr → Hp → Bool → Prop := fun a c H b => FT τ (.ref a) (.ref c) H b
theorem rcT_obj {C f : Addr} {CX : CXT} {fd : FuncData} {ps : List Str} {sp : Sp} {E : XK} (ho : ∀ Z v x, τ.r Z v x → ∃ a dx fs, v = .ref a ∧ Z a = some (.ins C dx fs)) (F : FnOk X.prog X.w X.K X.mg X.base CX n f fd ps sp) (hsp : ∀ vs H Q E, spEqB (FTr τ) vs H Q E → sp vs H Q E)
    (M : Meth X.K C "__eq__" f) (hb : Binds X.K fd ps []) (hx : Passes CX X E) : RcB X n false (FT τ) :=
  (rcB_ins (R := FTr τ) (F.imp hsp) M.at_ M.fn hb hx).imp fun x y H b ⟨Z, a, c, sz, r1, r2, hb⟩ => by
    obtain ⟨p, dx, fs, e, h⟩ := ho _ _ _ r1
    obtain ⟨q, dy, gs, e2, h2⟩ := ho _ _ _ r2
    exact ⟨p, q, dx, dy, fs, gs, e, e2, sz _ _ h, sz _ _ h2, Z, a, c, sz, by rw [← e]; exact r1, by rw [← e2]; exact r2, hb⟩
end
section
variable {μ : Type} {M : Mu μ} {σ : L2.St} {Z H : Hp} {s s1 s2 : μ} {ta tb : TE} {K : PySem.W.Frag} {α : Type} [DecidableEq α] {τ : Ty α} {x y : α} {xs ys : List α} {neg : Bool}
theorem bneT {b : Bool} : (b != true) = !b := by cases b <;> rfl
theorem bneF {b : Bool} : (b != false) = b := by cases b <;> rfl
theorem step_ext {Z H H' : Hp} (sz : Same Z H) (e : L2.Ext H H') : Step [] Z H Z H' := ⟨Same.refl _, fun a o h => e _ _ (sz a o h), fun a o _ h => e _ _ h, fun _ _ h => h, fun a h q => by
  cases e1 : H a with
  | none => exact h e1
  | some o => rw [e _ _ e1] at q; cases q⟩
theorem ev_cmpO (ha : Ev M ta σ Z H s (ty τ x) s1) (hb : Ev M tb σ Z H s1 (ty τ y) s2) : Ev M (tOp (rCmpB neg (FT τ)) ta tb) σ Z H s (ty yBool (decide (x = y) != neg)) s2 :=
  ev_op ha hb fun Z H v w sz e1 e2 _ q => ⟨_, ⟨Z, x, y, sz, e1, e2, rfl⟩, fun H' e => q _ Z H' (step_ext sz e) rfl⟩
theorem ev_cmpL (ha : Ev M ta σ Z H s (li τ xs) s1) (hb : Ev M tb σ Z H s1 (li τ ys) s2) : Ev M (tOp (rCmpB neg (FL τ)) ta tb) σ Z H s (ty yBool (decide (xs = ys) != neg)) s2 :=
  ev_op ha hb fun Z H v w sz e1 e2 _ q => by
    obtain ⟨p, vs, rfl, g, t, _⟩ := rdl sz e1
    obtain ⟨p2, ws, rfl, g2, t2, _⟩ := rdl sz e2
    exact ⟨_, ⟨Z, xs, ys, p, p2, vs, ws, sz, rfl, rfl, g, g2, t, t2, rfl⟩, fun H' e => q _ Z H' (step_ext sz e) rfl⟩
end
end TP

namespace TP
open PySem PySem.Spec PyProof.Rows L2
/-! ### a field that nobody looks at -/
def yGhost : Ty Unit := ⟨fun _ _ _ => True, fun _ h => h⟩
theorem fn_ghost {X : Cx} : FnI X yGhost := fun _ _ _ _ _ _ _ _ _ _ _ _ => rfl
theorem ev_ghost {μ : Type} {M : Mu μ} {σ : L2.St} {Z H : Hp} {s s1 : μ} {ta : TE} {R : Rr M.fp} (h : Ev M ta σ Z H s R s1) : Ev M ta σ Z H s (ty yGhost ()) s1 := h.weak fun _ _ _ _ _ => trivial
end TP

namespace TP
open PySem PySem.Spec PyProof.Rows L2
theorem u65 {k : Nat} {A : Around} (r : Room k A) : A.units + 65 < cLine := by have := r.un; omega
/-- is it among them? -/
def memD {α : Type} [DecidableEq α] (x : α) (xs : List α) : Bool := decide (x ∈ xs)
section
variable {μ : Type} {M : Mu μ} {σ : L2.St} {Z H : Hp} {s s1 s2 : μ} {ta tb : TE} {K : PySem.W.Frag} {α : Type} [DecidableEq α] {τ : Ty α} {d : α → PyData} {n : Nat} {x : α} {xs : List α}
theorem any_memD (E : EqD K τ d n) (x : α) (xs : List α) : ((xs.map d).any fun z => PyData.eqv z (d x)) = memD x xs := by
  unfold memD
  rw [Bool.eq_iff_iff, List.any_eq_true, decide_eq_true_iff]
  constructor
  · rintro ⟨z, hz, e⟩
    obtain ⟨y, hy, rfl⟩ := List.mem_map.mp hz
    rw [(E.eqv y x).mp e] at hy
    exact hy
  · intro h
    exact ⟨d x, List.mem_map.mpr ⟨x, h, rfl⟩, (E.eqv x x).mpr rfl⟩
theorem ev_inG {R : Rr M.fp} (E : EqD K τ d n) (hn : n + 1 ≤ 64) (G : GD K R (d x)) (ha : Ev M ta σ Z H s R s1) (hb : Ev M tb σ Z H s1 (li τ xs) s2) : Ev M (tOp (rInD K) ta tb) σ Z H s (ty yBool (memD x xs)) s2 :=
  ev_op ha hb fun _ _ _ _ sz e1 e2 _ q => by
    obtain ⟨d1, k1⟩ := G _ _ _ sz e1
    obtain ⟨d2, k2⟩ := E.gdl xs _ _ _ sz e2
    exact ⟨d x, xs.map d, d1, d2, shaped_of k1 (Nat.le_trans (E.dep x) (by omega)) (Nat.le_refl _), shaped_of k2 (depL E hn) (Nat.le_refl _), q _ _ _ (Step.refl sz) (congrArg V.bl (any_memD E x xs))⟩
theorem ev_notinG {R : Rr M.fp} (E : EqD K τ d n) (hn : n + 1 ≤ 64) (G : GD K R (d x)) (ha : Ev M ta σ Z H s R s1) (hb : Ev M tb σ Z H s1 (li τ xs) s2) : Ev M (tOp (rNotInD K) ta tb) σ Z H s (ty yBool (!memD x xs)) s2 :=
  ev_op ha hb fun _ _ _ _ sz e1 e2 _ q => by
    obtain ⟨d1, k1⟩ := G _ _ _ sz e1
    obtain ⟨d2, k2⟩ := E.gdl xs _ _ _ sz e2
    exact ⟨d x, xs.map d, d1, d2, shaped_of k1 (Nat.le_trans (E.dep x) (by omega)) (Nat.le_refl _), shaped_of k2 (depL E hn) (Nat.le_refl _), q _ _ _ (Step.refl sz) (congrArg (fun b => V.bl (!b)) (any_memD E x xs))⟩
theorem ev_indexG {R : Rr M.fp} {j : Nat} (E : EqD K τ d n) (hn : n + 1 ≤ 64) (G : GD K R (d x)) (ha : Ev M ta σ Z H s (li τ xs) s1) (hb : Ev M tb σ Z H s1 R s2) (h : idxO xs x = some j) : Ev M (tBM K "list" (rIndexD K) ta (tCons tb tNil)) σ Z H s (ty yInt ((j : Nat) : Int)) s2 :=
  fun Z1 H1 a b c d' Q q => ha Z1 H1 a b c d' _ fun v Z2 H2 e m rv => by
    obtain ⟨p, vs, rfl, g, t, _⟩ := rdl e.s rv
    refine ⟨.inl ⟨rfl, _, SqL.of g⟩, eva_cons hb eva_nil Z2 H2 (a.trans e.z) (b.trans e.h) e.s m _ fun us Z3 H3 e2 m2 ⟨w, r, e3, rw', e4⟩ => ?_⟩
    cases e4; cases e3
    obtain ⟨d2, k2⟩ := E.gdl xs _ _ _ e2.s ((li τ xs).st e2 rv)
    obtain ⟨d1, k1⟩ := G _ _ _ e2.s rw'
    unfold idxO at h
    rw [List.findIdx?_eq_some_iff_getElem] at h
    obtain ⟨hj, h1, h2⟩ := h
    have e1 : xs[j] = x := of_decide_eq_true h1
    refine ⟨p, w, d x, xs.map d, j, d x, rfl, rfl, d2, d1, shaped_of k2 (depL E hn) (Nat.le_refl _), shaped_of k1 (Nat.le_trans (E.dep x) (by omega)) (Nat.le_refl _), by rw [List.getElem?_map, List.getElem?_eq_getElem hj, e1]; rfl, (E.eqv x x).mpr rfl, fun m' z' hm hz => ?_, q _ _ _ (e.trans e2) m2 rfl⟩
    rw [List.getElem?_map] at hz
    have hm' : m' < xs.length := by omega
    rw [List.getElem?_eq_getElem hm'] at hz
    have hz' : d xs[m'] = z' := Option.some.inj hz
    subst hz'
    have := h2 m' hm
    cases q' : PyData.eqv (d xs[m']) (d x) with
    | false => rfl
    | true => exact absurd (decide_eq_true ((E.eqv _ _).mp q')) (by simpa using this)
end
end TP

namespace TP
open PySem PySem.Spec PyProof.Rows L2
/-! ### is a value among others, by their data -/
def memW {α : Type} (d : α → PyData) (x : α) (xs : List α) : Bool := (xs.map d).any fun z => PyData.eqv z (d x)
section
variable {μ : Type} {M : Mu μ} {σ : L2.St} {Z H : Hp} {s s1 s2 : μ} {ta tb : TE} {K : PySem.W.Frag} {α : Type} {τ : Ty α} {d : α → PyData} {n : Nat} {x : α} {xs : List α}
theorem ev_inW (E : EqW K τ d n) (hn : n + 1 ≤ 64) (ha : Ev M ta σ Z H s (ty τ x) s1) (hb : Ev M tb σ Z H s1 (li τ xs) s2) : Ev M (tOp (rInD K) ta tb) σ Z H s (ty yBool (memW d x xs)) s2 :=
  ev_op ha hb fun _ _ _ _ sz e1 e2 _ q => by
    obtain ⟨d1, k1⟩ := E.gd x _ _ _ sz e1
    obtain ⟨d2, k2⟩ := E.gdl xs _ _ _ sz e2
    exact ⟨d x, xs.map d, d1, d2, shaped_of k1 (E.dpt (by omega) x) (Nat.le_refl _), shaped_of k2 (E.dpl hn xs) (Nat.le_refl _), q _ _ _ (Step.refl sz) rfl⟩
theorem ev_notinW (E : EqW K τ d n) (hn : n + 1 ≤ 64) (ha : Ev M ta σ Z H s (ty τ x) s1) (hb : Ev M tb σ Z H s1 (li τ xs) s2) : Ev M (tOp (rNotInD K) ta tb) σ Z H s (ty yBool (!memW d x xs)) s2 :=
  ev_op ha hb fun _ _ _ _ sz e1 e2 _ q => by
    obtain ⟨d1, k1⟩ := E.gd x _ _ _ sz e1
    obtain ⟨d2, k2⟩ := E.gdl xs _ _ _ sz e2
    exact ⟨d x, xs.map d, d1, d2, shaped_of k1 (E.dpt (by omega) x) (Nat.le_refl _), shaped_of k2 (E.dpl hn xs) (Nat.le_refl _), q _ _ _ (Step.refl sz) rfl⟩
end
end TP
namespace TP
open PySem PySem.Spec PyProof.Rows L2
theorem ev_lenQ {μ : Type} {M : Mu μ} {σ : L2.St} {Z H : Hp} {s s1 : μ} {ta : TE} {K : PySem.W.Frag} {α : Type} {τ : Ty α} {x : α} {n : Int} {r : List V → Hp → VK → Prop} (hr : ∀ xs H Q, (∃ p ys, xs = [.ref p] ∧ (SqL K H p ys ∨ SqT K H p ys) ∧ Q (.int ys.length) H) → r xs H Q)
    (hτ : ∀ Z v, τ.r Z v x → ∃ p ys, v = .ref p ∧ SqT K Z p ys ∧ (ys.length : Int) = n) (ha : Ev M ta σ Z H s (ty τ x) s1) : Ev M (tCB r (tCons ta tNil)) σ Z H s (ty yInt n) s1 :=
  ev_cb (eva_cons ha eva_nil) fun _ _ _ sz ⟨v, r, e, h, e2⟩ _ q => by
    cases e2; cases e
    obtain ⟨p, ys, rfl, g, l⟩ := hτ _ _ h
    exact hr _ _ _ ⟨p, ys, rfl, .inr (seqT_same sz g), by rw [l]; exact q _ _ _ (Step.refl sz) rfl⟩
end TP
namespace TP
open PySem PySem.Spec PyProof.Rows L2
/-! ### list(range(..)) -/
theorem all_rgV {R : V → Int → Prop} (h : ∀ x, R (.int x) x) (a b : Int) : All R (rgV a b) (rangeZ a b) := by
  unfold rgV rangeZ
  generalize List.range (b - a).toNat = l
  induction l with
  | nil => exact .nil
  | cons i l ih => exact .cons (h _) ih
theorem rgOk_of {i j : Int} (h : RangeOk i j) : RgOk i j ∧ (rangeZ i j).length ≤ sizeLine := by
  obtain ⟨⟨h1, h2⟩, ⟨h3, h4⟩, h5⟩ := h
  rw [rangeZ_len]
  exact ⟨⟨h1, h2, h3, h4, by omega⟩, by show (j - i).toNat ≤ 16777216; omega⟩
section
variable {μ : Type} {M : Mu μ} {σ : L2.St} {Z H : Hp} {s s1 s2 : μ} {ta tb : TE}
theorem en_lrg2 {i j : Int} (ha : Ev M ta σ Z H s (ty yInt i) s1) (hb : Ev M tb σ Z H s1 (ty yInt j) s2) (h1 : RangeOk i j) : EvN M (tLstRg (tRg2 ta tb)) σ Z H s yInt (rangeZ i j) s2 :=
  fun Z1 H1 a b c d Q q => ha Z1 H1 a b c d _ fun v Z2 H2 e m rv => hb Z2 H2 (a.trans e.z) (b.trans e.h) e.s m _ fun w Z3 H3 e2 m2 rw => ⟨i, j, rv, rw, (rgOk_of h1).1, fun p hp => by
    have e3 := Step.own (o := .lst (rgV i j)) e2.s hp
    exact q p _ Z3 _ ((e.trans e2).trans e3.pure) (M.pure e3 m2) (same_x (e.trans e2) hp) (same_none e2.s hp) upd_same (all_rgV (fun _ => rfl) i j) (rgOk_of h1).2⟩
theorem en_lrg1 {j : Int} (hb : Ev M tb σ Z H s (ty yInt j) s1) (h1 : RangeOk 0 j) : EvN M (tLstRg (tRg1 tb)) σ Z H s yInt (rangeZ 0 j) s1 :=
  fun Z1 H1 a b c d Q q => hb Z1 H1 a b c d _ fun w Z3 H3 e m rw => ⟨j, rw, (rgOk_of h1).1, fun p hp => by
    have e3 := Step.own (o := .lst (rgV 0 j)) e.s hp
    exact q p _ Z3 _ (e.trans e3.pure) (M.pure e3 m) (same_x e hp) (same_none e.s hp) upd_same (all_rgV (fun _ => rfl) 0 j) (rgOk_of h1).2⟩
end
end TP
namespace TP
open PySem PySem.Spec PyProof.Rows L2
theorem ev_chainEE {μ : Type} {M : Mu μ} {σ : L2.St} {Z H : Hp} {s s1 : μ} {ta tb tc : TE} {i j k : Int} (ha : Ev M ta σ Z H s (ty yInt i) s1) (hb : Ev M tb σ Z H s1 (ty yInt j) s1) (hc : Ev M tc σ Z H s1 (ty yInt k) s1) :
    Ev M (tChain rEq rEq ta tb tc) σ Z H s (ty yBool (decide (i = j) && decide (j = k))) s1 :=
  have e : ∀ a b : Int, decide (V.int a = V.int b) = decide (a = b) := fun a b => by
    by_cases h : a = b
    · rw [decide_eq_true h, decide_eq_true (by rw [h])]
    · rw [decide_eq_false h, decide_eq_false (fun z => h (V.int.inj z))]
  ev_chainG (R1 := ty yInt i) (R0 := ty yInt j) (R3 := ty yInt k) (fun _ _ x y _ e1 e2 _ q => by
    have e1 : x = .int i := e1
    have e2 : y = .int j := e2
    subst e1 e2
    exact ⟨rfl, by rw [e]; exact q⟩) (fun _ _ x y _ e1 e2 _ q => by
    have e1 : x = .int j := e1
    have e2 : y = .int k := e2
    subst e1 e2
    exact ⟨rfl, by rw [e]; exact q⟩) ha hb hc
end TP

namespace TP
open PySem PySem.Spec PyProof.Rows L2
/-! ### < of values of one kind: integers, texts, flags -/
def SameK (x y : V) : Prop := (∃ i j : Int, x = .int i ∧ y = .int j) ∨ (∃ i j : Str, x = .str i ∧ y = .str j) ∨ (∃ i j : Bool, x = .bl i ∧ y = .bl j)
def ltV : V → V → Bool
  | .int a, .int b => decide (a < b)
  | .str a, .str b => decide (a.cps.toList < b.cps.toList)
  | .bl a, .bl b => decide (b2i a < b2i b)
  | _, _ => false
def rCmpV (f : V → V → Bool) : R2 := fun x y H Q => SameK x y ∧ Q (.bl (f x y)) H
theorem vnlt {a b : Int} : (decide (a ≤ b)) = !decide (b < a) := by
  by_cases h : a ≤ b
  · rw [decide_eq_true h, decide_eq_false (by omega)]; rfl
  · rw [decide_eq_false h, decide_eq_true (by omega)]; rfl
section
variable {X : Cx}
theorem op_ltV : OpR X (compareOp .Lt) (rCmpV ltV) := by
  intro pins s σ H x y v u Q I rx ry h
  obtain ⟨⟨i, j, rfl, rfl⟩ | ⟨i, j, rfl, rfl⟩ | ⟨i, j, rfl, rfl⟩, q⟩ := h
  · obtain ⟨t, rfl⟩ := rx
    obtain ⟨t', rfl⟩ := ry
    exact lt_int (fin_bl I q rfl)
  · obtain ⟨t, rfl⟩ := rx
    obtain ⟨t', rfl⟩ := ry
    exact lt_str (fin_bl I q rfl)
  · cases rx
    cases ry
    exact lt_bool (fin_bl I q rfl)
theorem op_gtV : OpR X (compareOp .Gt) (rCmpV fun x y => ltV y x) := by
  intro pins s σ H x y v u Q I rx ry h
  obtain ⟨⟨i, j, rfl, rfl⟩ | ⟨i, j, rfl, rfl⟩ | ⟨i, j, rfl, rfl⟩, q⟩ := h
  · obtain ⟨t, rfl⟩ := rx
    obtain ⟨t', rfl⟩ := ry
    exact gt_int (fin_bl I q rfl)
  · obtain ⟨t, rfl⟩ := rx
    obtain ⟨t', rfl⟩ := ry
    exact PySem.P.gt_str (fin_bl I q rfl)
  · cases rx
    cases ry
    exact gt_bool (fin_bl I q rfl)
theorem op_leV : OpR X (compareOp .LtE) (rCmpV fun x y => !ltV y x) := by
  intro pins s σ H x y v u Q I rx ry h
  obtain ⟨⟨i, j, rfl, rfl⟩ | ⟨i, j, rfl, rfl⟩ | ⟨i, j, rfl, rfl⟩, q⟩ := h
  · obtain ⟨t, rfl⟩ := rx
    obtain ⟨t', rfl⟩ := ry
    exact le_int (fin_bl I q vnlt.symm)
  · exact op_le_str pins s σ H _ _ v u Q I rx ry ⟨_, _, rfl, rfl, q⟩
  · cases rx
    cases ry
    exact le_bool (fin_bl I q vnlt.symm)
theorem op_geV : OpR X (compareOp .GtE) (rCmpV fun x y => !ltV x y) := by
  intro pins s σ H x y v u Q I rx ry h
  obtain ⟨⟨i, j, rfl, rfl⟩ | ⟨i, j, rfl, rfl⟩ | ⟨i, j, rfl, rfl⟩, q⟩ := h
  · obtain ⟨t, rfl⟩ := rx
    obtain ⟨t', rfl⟩ := ry
    exact ge_int (fin_bl I q vnlt.symm)
  · obtain ⟨t, rfl⟩ := rx
    obtain ⟨t', rfl⟩ := ry
    exact PySem.P.ge_str (fin_bl I q rfl)
  · cases rx
    cases ry
    exact ge_bool (fin_bl I q vnlt.symm)
end
section
variable {μ : Type} {M : Mu μ} {σ : L2.St} {Z H : Hp} {s s1 s2 : μ} {ta tb : TE}
/-- the rows of a sum of values: to what they are in the program -/
theorem ev_cmpV {α : Type} {τ : Ty α} {toV : α → V} {f : V → V → Bool} {x y : α} (ht : ∀ Z v x, τ.r Z v x → v = toV x) (k : SameK (toV x) (toV y)) (ha : Ev M ta σ Z H s (ty τ x) s1) (hb : Ev M tb σ Z H s1 (ty τ y) s2) : Ev M (tOp (rCmpV f) ta tb) σ Z H s (ty yBool (f (toV x) (toV y))) s2 :=
  ev_op ha hb fun _ _ _ _ sz e1 e2 _ q => by
    rw [ht _ _ _ e1, ht _ _ _ e2]
    exact ⟨k, q _ _ _ (Step.refl sz) rfl⟩
def sameB : V → V → Bool
  | .int _, .int _ => true
  | .str _, .str _ => true
  | .bl _, .bl _ => true
  | _, _ => false
theorem sameB_of {x y : V} (h : sameB x y = true) : SameK x y := by
  cases x <;> cases y <;> first | exact .inl ⟨_, _, rfl, rfl⟩ | exact .inr (.inl ⟨_, _, rfl, rfl⟩) | exact .inr (.inr ⟨_, _, rfl, rfl⟩) | exact absurd h (by simp [sameB])
end
end TP

namespace TP
open PySem PySem.Spec PyProof.Rows L2
/-! ### an instance of a class that has no __init__ -/
structure MkB (K : PySem.W.Frag) (C : Addr) : Prop where
  makes : PySem.W.makesIn K C = true
  init : PySem.W.findIn K (.ref C) "__init__" = some (some (.builtin "object.__init__"))
  kp : PySem.W.keepIn K (.ref C) = true
theorem run_oi {prog : Program} {w : World} {A : Around} {R : Result → Shared → Prop} {s : Shared} {a : Addr} (h : PySem.W.Looks (model prog w) s.heap (isInstance (.ref a) (.type "object")) true) (q : R (.ok (.ret .none)) s) : codeAny (model prog w) A (Code.call (.builtin "object.__init__") { pos := [.ref a] }) R s := by
  refine codeAny_call_builtin (b := Builtin.«object.__init__») PySem.W.oi_plain PySem.W.entry_oi ?_
  have ho : argsOk "object.__init__" { pos := .ref a :: [], kw := [] } := PySem.W.oi_args (.ref a)
  have c : ∀ {E : Value → Shared → Prop} {Q : Unit → Shared → Prop}, Q () s → wpAny (model prog w) (Around.in1 A) (checkBuiltinCall "object.__init__" { pos := .ref a :: [], kw := [] }) Q E s := fun q => @PySem.W.check_slot (model prog w) (Around.in1 A) _ s "object.__init__" "object" "__init__" (.ref a) [] [] _ PySem.W.oi_kind PySem.W.oi_split h ho q
  refine c ?_
  rw [PySem.W.oi_run]
  exact wpAny_pure q
theorem run_bare {X : Cx} {pins : List (Addr × Obj)} {σ : L2.St} {H : Hp} {s : Shared} {Q : VK} {C : Addr} (M : MkB X.K C) (I : L2.Inv X pins σ H s)
    (q : ∀ x dx, H x = none → H dx = none → dx ≠ x → Q (.ref x) (upd (upd H dx (.own x)) x (.ins C dx []))) : wpAny (model X.prog X.w) X.A (call (.ref C) []) (EP X pins σ Q) X.xe s := by
  refine wpAny_call (make_map0 I.kIn M.makes M.init (fun self => PySem.W.Looks.of_pure (PySem.W.oi_bind self)) ?_)
  have fx : H (s.heap.objs.size + 1) = none := I.hok.fresh (Nat.le_succ _)
  have fd : H s.heap.objs.size = none := I.hok.fresh (Nat.le_refl _)
  have I2 := I.made (C := C)
  have ne : s.heap.objs.size ≠ s.heap.objs.size + 1 := by omega
  have q2 := q (s.heap.objs.size + 1) s.heap.objs.size fx fd ne
  clear q
  refine run_oi ?_ ?_
  · have g : ((s.heap.push PySem.W.emptyDict).push (PySem.W.instObj C s.heap.objs.size)).get? (s.heap.objs.size + 1) = some (PySem.W.instObj C s.heap.objs.size) := by
      have e : (s.heap.push PySem.W.emptyDict).objs.size = s.heap.objs.size + 1 := Heap.size_push _ _
      exact Heap.get?_push_at e.symm (by rfl)
    refine PySem.W.Looks.andThen (a := .ref C) (PySem.W.Looks.andThen (PySem.W.Looks.ld g) PySem.W.Looks.now) ?_
    exact ((PySem.W.makes_of I.kIn M.makes).top).keeps fun b o e => Heap.get?_push_of_some _ (Heap.get?_push_of_some _ e)
  · exact ⟨rfl, .ref (s.heap.objs.size + 1), _, I2, rfl, q2⟩
def tBare (C : Addr) : TE := fun _ H Q => ∀ x dx, H x = none → H dx = none → dx ≠ x → Q (.ref x) (upd (upd H dx (.own x)) x (.ins C dx []))
theorem pe_bare {X : Cx} {C : Addr} {x : Str} {p pos : Pos} (M : MkB X.K C) (hg : Gl X x) (hm : X.mg x = some (.ref C)) (hd : (x == "__debug__") = false := by decide +kernel) : PE X (.Call (.Name x p) [] [] pos) (tBare C) := ⟨fun pins s σ H Q I q =>
  wpAny_Call_Name_kw (ld_glob I hg hm (PySem.W.callWith_K0 I.kIn M.kp (run_bare M I q)) hd)⟩
section
variable {μ : Type} {M : Mu μ} {σ : L2.St} {Z H : Hp} {s : μ} {K : PySem.W.Frag}
theorem ev_bare {α : Type} {τ : Ty α} {x : α} {C : Addr} (h : ∀ Z p dx, Z p = some (.ins C dx []) → τ.r Z (.ref p) x) : Ev M (tBare C) σ Z H s (ty τ x) s :=
  fun Z1 H1 a b c d Q q p dx hp hd ne => by
    have s1 := Step.own (o := .own p) c hd
    have hp1 : (upd H1 dx (.own p)) p = none := by rw [upd_ne ne.symm]; exact hp
    have s2 := Step.new (o := .ins C dx []) s1.s hp1
    have st : Step [] Z1 H1 (upd Z1 p (.ins C dx [])) (upd (upd H1 dx (.own p)) p (.ins C dx [])) := s1.trans s2
    exact q _ _ _ st.pure (M.pure st d) (h _ p dx upd_same)
theorem callS_ghost {α : Type} {τ : Ty α} {x : α} {sp : Sp} {E : XK} {Rs : Ra M.fp} {s2 : μ} {R : Rr M.fp} (c : CallS M sp E (rac (ty yGhost ()) Rs) s R s2) : CallS M sp E (rac (ty τ x) Rs) s R s2 :=
  fun Z H vs sz m ⟨v, r, e, _, t⟩ Q q => c Z H vs sz m ⟨v, r, e, trivial, t⟩ Q q
end
end TP

namespace TP
open PySem PySem.Spec PyProof.Rows L2
/-! ### isinstance with a tuple of classes -/
def tCs : List V → TA
  | [] => tNil
  | c :: r => tCons (tC c) (tCs r)
theorem kitAnyN {K : PySem.W.Frag} {t : Value} : PySem.W.kitAny K t [] = some false := rfl
theorem kitAnyC {K : PySem.W.Frag} {t u : Value} {us : List Value} {b c : Bool} (h : PySem.W.kitOne K t u = some b) (g : PySem.W.kitAny K t us = some c) : PySem.W.kitAny K t (u :: us) = some (b || c) := by
  unfold PySem.W.kitAny
  rw [h]
  cases b <;> first | exact g | rfl
section
variable {μ : Type} {M : Mu μ} {σ : L2.St} {Z H : Hp} {s s1 : μ} {ta : TE} {K : PySem.W.Frag}
theorem eva_cs : ∀ cs : List V, EvA M (tCs cs) σ Z H s ⟨fun _ _ vs => vs = cs, fun _ h => h⟩ s
  | [] => fun Z1 H1 _ _ c d Q q => q [] Z1 H1 (Step.refl c) d rfl
  | c :: r => fun Z1 H1 a b c' d Q q => (eva_cons (R := ⟨fun _ _ v => v = c, fun _ h => h⟩) (ev_of fun _ _ _ _ _ _ q => q _ rfl) (eva_cs r)) Z1 H1 a b c' d Q fun vs Z2 H2 e m ⟨v, w, e1, e2, e3⟩ => q vs Z2 H2 e m (by
    have e2 : v = c := e2
    have e3 : w = r := e3
    rw [e1, e2, e3])
theorem ev_isiT {r : List V → Hp → VK → Prop} {R : Rr M.fp} {cs : List V} {us : List Value} {t : Value} {b : Bool} (hr : ∀ xs H Q, rIsiT K xs H Q → r xs H Q) (ha : Ev M ta σ Z H s R s1) (tx : ∀ Z H v, Same Z H → R.r Z H v → TyX K H v t) (hl : cs.length ≤ sizeLine) (hc : Paired ClsV cs us) (hk : PySem.W.kitAny K t us = some b) :
    Ev M (tCB r (tCons ta (tCons (tTup (tCs cs)) tNil))) σ Z H s (ty yBool b) s1 :=
  ev_cb (Rs := rac R (rac ⟨fun Z _ v => ∃ p, v = .ref p ∧ Z p = some (.tup cs), fun g ⟨p, e, h⟩ => ⟨p, e, g.z _ _ h⟩⟩ ra0)) (eva_cons ha (eva_cons (ev_tup (eva_cs cs) fun Z H vs sz h => by
    have h : vs = cs := h
    subst h
    exact ⟨hl, fun p _ => ⟨p, rfl, upd_same⟩⟩) eva_nil)) fun _ _ _ sz ⟨x, r1, e1, h1, y, r2, e2, ⟨p, e4, h2⟩, e3⟩ _ q => by
    cases e3; cases e2; cases e1; cases e4
    exact hr _ _ _ ⟨x, p, cs, t, us, b, rfl, sz _ _ h2, hc, tx _ _ _ sz h1, hk, q _ _ _ (Step.refl sz) rfl⟩
end
end TP

namespace TP
open PySem PySem.Spec PyProof.Rows L2
/-! ### a value of one kind taken as one of another -/
section
variable {μ : Type} {M : Mu μ} {σ : L2.St} {Z H : Hp} {s s1 : μ} {te : TE} {K : PySem.W.Frag} {α β γ δ : Type} {τ : Ty α} {υ : Ty β} {φ : Ty γ} {ψ : Ty δ} {f : α → Option β} {g : γ → Option δ}
def CastO (τ : Ty α) (υ : Ty β) (f : α → Option β) : Prop := ∀ Z v x y, τ.r Z v x → f x = some y → υ.r Z v y
theorem ev_castK {x : α} {y : β} (c : CastO τ υ f) (h : Ev M te σ Z H s (ty τ x) s1) (e : f x = some y) : Ev M te σ Z H s (ty υ y) s1 := h.weak fun _ _ _ _ r => c _ _ _ _ r e
theorem cast_id : CastO τ τ some := fun _ _ _ _ h e => by
  have e := Option.some.inj e
  subst e
  exact h
theorem all_mapO {Z : Hp} (c : CastO τ υ f) {vs : List V} {xs : List α} (t : All (τ.r Z) vs xs) : ∀ {ys : List β}, mapO f xs = some ys → All (υ.r Z) vs ys ∧ ys.length = xs.length := by
  induction t with
  | nil => intro ys e; have e := Option.some.inj e; subst e; exact ⟨.nil, rfl⟩
  | cons h _ ih =>
    intro ys e
    obtain ⟨y, hy, e⟩ := Option.bind_eq_some_iff.mp e
    obtain ⟨zs, hz, e⟩ := Option.bind_eq_some_iff.mp e
    have e := Option.some.inj e
    subst e
    obtain ⟨a, l⟩ := ih hz
    exact ⟨.cons (c _ _ _ _ h hy) a, by rw [List.length_cons, List.length_cons, l]⟩
theorem cast_list (c : CastO τ υ f) : CastO (yList τ) (yList υ) (mapO f) := fun _ _ _ _ ⟨p, vs, e, h, t, l⟩ hf => by
  obtain ⟨a, b⟩ := all_mapO c t hf
  exact ⟨p, vs, e, h, a, by omega⟩
theorem cast_tup (c : CastO τ υ f) : CastO (yTup K τ) (yTup K υ) (mapO f) := fun _ _ _ _ ⟨p, vs, e, h, t, l⟩ hf => by
  obtain ⟨a, b⟩ := all_mapO c t hf
  exact ⟨p, vs, e, h, a, by omega⟩
theorem cast_p2 (c : CastO τ υ f) (d : CastO φ ψ g) : CastO (yP2 K τ φ) (yP2 K υ ψ) (fun x => (f x.1).bind fun a => (g x.2).bind fun b => some (a, b)) := fun _ _ _ _ ⟨p, v1, v2, e, h, h1, h2⟩ hf => by
  obtain ⟨y, hy, hf⟩ := Option.bind_eq_some_iff.mp hf
  obtain ⟨z, hz, hf⟩ := Option.bind_eq_some_iff.mp hf
  have e' := Option.some.inj hf
  subst e'
  exact ⟨p, v1, v2, e, h, c _ _ _ _ h1 hy, d _ _ _ _ h2 hz⟩
theorem tx_list {fp : List Addr} {x : List α} : ∀ Z H v, Same Z H → (ty (fp := fp) (yList τ) x).r Z H v → TyX K H v (.type "list") := fun _ _ _ sz ⟨a, vs, e, h, _⟩ => by subst e; exact .base (.lst (sz _ _ h))
end
end TP

namespace TP
open PySem PySem.Spec PyProof.Rows L2
/-! ### tuples of five -/
section
variable {K : PySem.W.Frag}
def yP5 (K : PySem.W.Frag) {α β γ δ ε : Type} (τ : Ty α) (υ : Ty β) (φ : Ty γ) (ψ : Ty δ) (χ : Ty ε) : Ty (α × β × γ × δ × ε) := ⟨fun Z v x => ∃ a v1 v2 v3 v4 v5, v = .ref a ∧ SqT K Z a [v1, v2, v3, v4, v5] ∧ τ.r Z v1 x.1 ∧ υ.r Z v2 x.2.1 ∧ φ.r Z v3 x.2.2.1 ∧ ψ.r Z v4 x.2.2.2.1 ∧ χ.r Z v5 x.2.2.2.2,
  fun s ⟨a, v1, v2, v3, v4, v5, e, h, h1, h2, h3, h4, h5⟩ => ⟨a, v1, v2, v3, v4, v5, e, seqT_same s h, τ.mono s h1, υ.mono s h2, φ.mono s h3, ψ.mono s h4, χ.mono s h5⟩⟩
variable {α β γ δ ε : Type} {τ : Ty α} {υ : Ty β} {φ : Ty γ} {ψ : Ty δ} {χ : Ty ε}
theorem nn_p1 : NonNil (yP1 K τ) := fun _ _ _ ⟨_, _, e, _⟩ => by rw [e]; exact fun z => nomatch z
theorem nn_p5 : NonNil (yP5 K τ υ φ ψ χ) := fun _ _ _ ⟨_, _, _, _, _, _, e, _⟩ => by rw [e]; exact fun z => nomatch z
theorem po5_0 : PartOf K (yP5 K τ υ φ ψ χ) 0 τ (fun x => x.1) := fun _ _ _ ⟨a, v1, v2, v3, v4, v5, e, h, h1, _⟩ => ⟨a, _, v1, e, h, rfl, h1⟩
theorem po5_1 : PartOf K (yP5 K τ υ φ ψ χ) 1 υ (fun x => x.2.1) := fun _ _ _ ⟨a, v1, v2, v3, v4, v5, e, h, _, h1, _⟩ => ⟨a, _, v2, e, h, rfl, h1⟩
theorem po5_2 : PartOf K (yP5 K τ υ φ ψ χ) 2 φ (fun x => x.2.2.1) := fun _ _ _ ⟨a, v1, v2, v3, v4, v5, e, h, _, _, h1, _⟩ => ⟨a, _, v3, e, h, rfl, h1⟩
theorem po5_3 : PartOf K (yP5 K τ υ φ ψ χ) 3 ψ (fun x => x.2.2.2.1) := fun _ _ _ ⟨a, v1, v2, v3, v4, v5, e, h, _, _, _, h1, _⟩ => ⟨a, _, v4, e, h, rfl, h1⟩
theorem po5_4 : PartOf K (yP5 K τ υ φ ψ χ) 4 χ (fun x => x.2.2.2.2) := fun _ _ _ ⟨a, v1, v2, v3, v4, v5, e, h, _, _, _, _, h1⟩ => ⟨a, _, v5, e, h, rfl, h1⟩
def dP5 (d : α → PyData) (e : β → PyData) (f : γ → PyData) (g : δ → PyData) (i : ε → PyData) (x : α × β × γ × δ × ε) : PyData := .tuple [d x.1, e x.2.1, f x.2.2.1, g x.2.2.2.1, i x.2.2.2.2]
theorem eqw_p5 {d : α → PyData} {e : β → PyData} {f : γ → PyData} {g : δ → PyData} {i : ε → PyData} {n m k l o : Nat} (E : EqW K τ d n) (F : EqW K υ e m) (G : EqW K φ f k) (I : EqW K ψ g l) (J : EqW K χ i o) : EqW K (yP5 K τ υ φ ψ χ) (dP5 d e f g i) (max n (max m (max k (max l o))) + 1) where
  dp := fun Z H v x sz ⟨a, v1, v2, v3, v4, v5, e, h, h1, h2, h3, h4, h5⟩ => by subst e; exact .tup (seqT_same sz h) (.cons (E.dp _ _ _ _ sz h1) (.cons (F.dp _ _ _ _ sz h2) (.cons (G.dp _ _ _ _ sz h3) (.cons (I.dp _ _ _ _ sz h4) (.cons (J.dp _ _ _ _ sz h5) .nil)))))
  lay := fun Z v x ⟨a, v1, v2, v3, v4, v5, e, h, h1, h2, h3, h4, h5⟩ => by simp [PyData.canLay0, PyData.canLayAll0, dP5, E.lay _ _ _ h1, F.lay _ _ _ h2, G.lay _ _ _ h3, I.lay _ _ _ h4, J.lay _ _ _ h5]
  dep := fun x => by have := E.dep x.1; have := F.dep x.2.1; have := G.dep x.2.2.1; have := I.dep x.2.2.2.1; have := J.dep x.2.2.2.2; simp only [PyData.depth, PyData.depthAll, dP5]; omega
variable {μ : Type} {M : Mu μ} {σ : L2.St} {Z H : Hp} {s s1 : μ} {t : TA} {x : α} {y : β} {z : γ} {u : δ} {w : ε}
theorem ev_p5 (ha : EvA M t σ Z H s (rac (ty τ x) (rac (ty υ y) (rac (ty φ z) (rac (ty ψ u) (rac (ty χ w) ra0))))) s1) : Ev M (tTup t) σ Z H s (ty (yP5 K τ υ φ ψ χ) (x, y, z, u, w)) s1 :=
  ev_tup ha fun Z H vs sz ⟨v1, r1, e1, h1, v2, r2, e2, h2, v3, r3, e3, h3, v4, r4, e4, h4, v5, r5, e5, h5, e6⟩ => by
    cases e6; cases e5; cases e4; cases e3; cases e2; cases e1
    exact ⟨by show 5 ≤ sizeLine; decide, fun p hp => have q := same_upd (same_none sz hp); ⟨p, v1, v2, v3, v4, v5, rfl, sqT_new, τ.mono q h1, υ.mono q h2, φ.mono q h3, ψ.mono q h4, χ.mono q h5⟩⟩
theorem tx_p5 {fp : List Addr} {x : α × β × γ × δ × ε} : ∀ Z H v, Same Z H → (ty (fp := fp) (yP5 K τ υ φ ψ χ) x).r Z H v → TyX K H v (.type "tuple") := fun _ _ _ sz ⟨a, _, _, _, _, _, e, h, _⟩ => by subst e; exact tx_sqT (seqT_same sz h)
end
end TP

namespace K23
open PySem PySem.Spec PyProof.Rows L2
open C8 (tCut pss_cut)
/-! the text by places -/
def topS (i : Nat) : Stmt := PySem.Challenge.pw_surenear_k23_what_facts_let_pass.main.body.getD i (.Pass ⟨0, 0, 0, 0⟩)
abbrev s_law_row : Stmt := (topS 52)
abbrev s_law_next : Stmt := (topS 53)
abbrev s_law_leaf : Stmt := (topS 60)
abbrev s_law_tree : Stmt := (topS 61)
abbrev s_Fact_outcomes : Stmt := (inClass (topS 29) 6)
abbrev s_outcomes_of_lack : Stmt := (topS 37)
abbrev s_kind_of_value : Stmt := (topS 2)
abbrev s_range_outcomes : Stmt := (topS 38)
abbrev s_is_from : Stmt := (topS 36)
abbrev s_Range_outcomes : Stmt := (inClass (topS 31) 2)
abbrev s_satisfies : Stmt := (topS 6)
abbrev s_same_value : Stmt := (topS 3)
abbrev s_is_among : Stmt := (topS 5)
abbrev s_value_passes : Stmt := (topS 39)
abbrev s_Values_outcomes : Stmt := (inClass (topS 32) 2)
abbrev s_outcomes_on_field : Stmt := (topS 27)
abbrev s_can_pass : Stmt := (topS 26)
abbrev s_law_field_fact : Stmt := (topS 59)
abbrev s_Names___init__ : Stmt := (inClass (topS 34) 0)
abbrev s_Box___init__ : Stmt := (inClass (topS 44) 0)
abbrev s_Norms___init__ : Stmt := (inClass (topS 45) 0)
abbrev s_Range___init__ : Stmt := (inClass (topS 31) 0)
abbrev s_Values___init__ : Stmt := (inClass (topS 32) 0)
abbrev s_law_made : Stmt := (topS 54)
abbrev s_Either___init__ : Stmt := (inClass (topS 14) 0)
abbrev s_Has___init__ : Stmt := (inClass (topS 10) 0)
abbrev s_Compare___init__ : Stmt := (inClass (topS 11) 0)
abbrev s_OneOf___init__ : Stmt := (inClass (topS 12) 0)
abbrev s_Negation___init__ : Stmt := (inClass (topS 15) 0)
abbrev s_Both___init__ : Stmt := (inClass (topS 13) 0)
abbrev s_law_built : Stmt := (topS 55)
abbrev s_law_compares : Stmt := (topS 56)
abbrev s_law_worth_passes : Stmt := (topS 57)
abbrev s_law_outcomes : Stmt := (topS 58)
abbrev s_law_due : Stmt := (topS 62)
abbrev s_law : Stmt := (topS 63)
theorem sc_law_row : FnScope ["script", "k", "cell", "a", "b", "c"] ["script", "k"] (defScope s_law_row) := ⟨rfl, rfl, rfl, by decide +kernel, rfl, by decide +kernel, by decide +kernel⟩
theorem sc_law_next : FnScope ["state", "many", "drawn"] ["state", "many"] (defScope s_law_next) := ⟨rfl, rfl, rfl, by decide +kernel, rfl, by decide +kernel, by decide +kernel⟩
theorem sc_law_leaf : FnScope ["state", "kind", "name", "worths", "k"] ["state"] (defScope s_law_leaf) := ⟨rfl, rfl, rfl, by decide +kernel, rfl, by decide +kernel, by decide +kernel⟩
theorem sc_law_tree : FnScope ["state", "depth", "kind"] ["state", "depth"] (defScope s_law_tree) := ⟨rfl, rfl, rfl, by decide +kernel, rfl, by decide +kernel, by decide +kernel⟩
theorem sc_Fact_outcomes : FnScope ["self", "condition"] ["self", "condition"] (defScope s_Fact_outcomes) := ⟨rfl, rfl, rfl, by decide +kernel, rfl, by decide +kernel, by decide +kernel⟩
theorem sc_outcomes_of_lack : FnScope ["lack"] ["lack"] (defScope s_outcomes_of_lack) := ⟨rfl, rfl, rfl, by decide +kernel, rfl, by decide +kernel, by decide +kernel⟩
theorem sc_kind_of_value : FnScope ["worth"] ["worth"] (defScope s_kind_of_value) := ⟨rfl, rfl, rfl, by decide +kernel, rfl, by decide +kernel, by decide +kernel⟩
theorem sc_range_outcomes : FnScope ["low", "high", "sign", "value", "can_equal", "can_differ"] ["low", "high", "sign", "value"] (defScope s_range_outcomes) := ⟨rfl, rfl, rfl, by decide +kernel, rfl, by decide +kernel, by decide +kernel⟩
theorem sc_is_from : FnScope ["low", "high", "worth"] ["low", "high", "worth"] (defScope s_is_from) := ⟨rfl, rfl, rfl, by decide +kernel, rfl, by decide +kernel, by decide +kernel⟩
theorem sc_Range_outcomes : FnScope ["self", "condition", "can_pass", "worth", "can_fail"] ["self", "condition"] (defScope s_Range_outcomes) := ⟨rfl, rfl, rfl, by decide +kernel, rfl, by decide +kernel, by decide +kernel⟩
theorem sc_satisfies : FnScope ["worth", "sign", "other"] ["worth", "sign", "other"] (defScope s_satisfies) := ⟨rfl, rfl, rfl, by decide +kernel, rfl, by decide +kernel, by decide +kernel⟩
theorem sc_same_value : FnScope ["one", "other"] ["one", "other"] (defScope s_same_value) := ⟨rfl, rfl, rfl, by decide +kernel, rfl, by decide +kernel, by decide +kernel⟩
theorem sc_is_among : FnScope ["worth", "choices", "choice"] ["worth", "choices"] (defScope s_is_among) := ⟨rfl, rfl, rfl, by decide +kernel, rfl, by decide +kernel, by decide +kernel⟩
theorem sc_value_passes : FnScope ["worth", "condition"] ["worth", "condition"] (defScope s_value_passes) := ⟨rfl, rfl, rfl, by decide +kernel, rfl, by decide +kernel, by decide +kernel⟩
theorem sc_Values_outcomes : FnScope ["self", "condition", "passed", "worth"] ["self", "condition"] (defScope s_Values_outcomes) := ⟨rfl, rfl, rfl, by decide +kernel, rfl, by decide +kernel, by decide +kernel⟩
theorem sc_outcomes_on_field : FnScope ["condition", "facts", "outcomes", "fact", "told", "outcome", "passed", "_", "failed"] ["condition", "facts"] (defScope s_outcomes_on_field) := ⟨rfl, rfl, rfl, by decide +kernel, rfl, by decide +kernel, by decide +kernel⟩
theorem sc_can_pass : FnScope ["condition", "facts", "passed", "failed", "a_passed", "a_failed", "b_passed", "b_failed"] ["condition", "facts"] (defScope s_can_pass) := ⟨rfl, rfl, rfl, by decide +kernel, rfl, by decide +kernel, by decide +kernel⟩
theorem sc_law_field_fact : FnScope ["state", "lack", "low"] ["state"] (defScope s_law_field_fact) := ⟨rfl, rfl, rfl, by decide +kernel, rfl, by decide +kernel, by decide +kernel⟩
theorem sc_Names___init__ : FnScope ["self", "low", "high"] ["self", "low", "high"] (defScope s_Names___init__) := ⟨rfl, rfl, rfl, by decide +kernel, rfl, by decide +kernel, by decide +kernel⟩
theorem sc_Box___init__ : FnScope ["self", "low", "high"] ["self", "low", "high"] (defScope s_Box___init__) := ⟨rfl, rfl, rfl, by decide +kernel, rfl, by decide +kernel, by decide +kernel⟩
theorem sc_Norms___init__ : FnScope ["self", "low", "high"] ["self", "low", "high"] (defScope s_Norms___init__) := ⟨rfl, rfl, rfl, by decide +kernel, rfl, by decide +kernel, by decide +kernel⟩
theorem sc_Range___init__ : FnScope ["self", "field", "low", "high", "lack"] ["self", "field", "low", "high", "lack"] (defScope s_Range___init__) := ⟨rfl, rfl, rfl, by decide +kernel, rfl, by decide +kernel, by decide +kernel⟩
theorem sc_Values___init__ : FnScope ["self", "field", "choices", "lack"] ["self", "field", "choices", "lack"] (defScope s_Values___init__) := ⟨rfl, rfl, rfl, by decide +kernel, rfl, by decide +kernel, by decide +kernel⟩
theorem sc_law_made : FnScope ["fact", "start", "centre", "radius"] ["fact"] (defScope s_law_made) := ⟨rfl, rfl, rfl, by decide +kernel, rfl, by decide +kernel, by decide +kernel⟩
theorem sc_Either___init__ : FnScope ["self", "a", "b"] ["self", "a", "b"] (defScope s_Either___init__) := ⟨rfl, rfl, rfl, by decide +kernel, rfl, by decide +kernel, by decide +kernel⟩
theorem sc_Has___init__ : FnScope ["self", "field"] ["self", "field"] (defScope s_Has___init__) := ⟨rfl, rfl, rfl, by decide +kernel, rfl, by decide +kernel, by decide +kernel⟩
theorem sc_Compare___init__ : FnScope ["self", "field", "sign", "value"] ["self", "field", "sign", "value"] (defScope s_Compare___init__) := ⟨rfl, rfl, rfl, by decide +kernel, rfl, by decide +kernel, by decide +kernel⟩
theorem sc_OneOf___init__ : FnScope ["self", "field", "choices"] ["self", "field", "choices"] (defScope s_OneOf___init__) := ⟨rfl, rfl, rfl, by decide +kernel, rfl, by decide +kernel, by decide +kernel⟩
theorem sc_Negation___init__ : FnScope ["self", "a"] ["self", "a"] (defScope s_Negation___init__) := ⟨rfl, rfl, rfl, by decide +kernel, rfl, by decide +kernel, by decide +kernel⟩
theorem sc_Both___init__ : FnScope ["self", "a", "b"] ["self", "a", "b"] (defScope s_Both___init__) := ⟨rfl, rfl, rfl, by decide +kernel, rfl, by decide +kernel, by decide +kernel⟩
theorem sc_law_built : FnScope ["tree"] ["tree"] (defScope s_law_built) := ⟨rfl, rfl, rfl, by decide +kernel, rfl, by decide +kernel, by decide +kernel⟩
theorem sc_law_compares : FnScope ["sign", "a", "b"] ["sign", "a", "b"] (defScope s_law_compares) := ⟨rfl, rfl, rfl, by decide +kernel, rfl, by decide +kernel, by decide +kernel⟩
theorem sc_law_worth_passes : FnScope ["tree", "worth"] ["tree", "worth"] (defScope s_law_worth_passes) := ⟨rfl, rfl, rfl, by decide +kernel, rfl, by decide +kernel, by decide +kernel⟩
theorem sc_law_outcomes : FnScope ["fact", "tree", "lack", "worths", "passing", "worth", "failing", "fails"] ["fact", "tree"] (defScope s_law_outcomes) := ⟨rfl, rfl, rfl, by decide +kernel, rfl, by decide +kernel, by decide +kernel⟩
theorem sc_law_due : FnScope ["tree", "facts", "passing", "failing", "one", "two", "fact", "told"] ["tree", "facts"] (defScope s_law_due) := ⟨rfl, rfl, rfl, by decide +kernel, rfl, by decide +kernel, by decide +kernel⟩
theorem sc_law : FnScope ["script", "state", "turn", "facts", "k", "tree", "made", "fact", "actual"] ["script"] (defScope s_law) := ⟨rfl, rfl, rfl, by decide +kernel, rfl, by decide +kernel, by decide +kernel⟩
/-! the mathematics -/
open TP

theorem getD_lt {ns : List Int} {k : Nat} (h : k < ns.length) : ns[k]? = some (ns.getD k 0) := by
  rw [List.getD_eq_getElem?_getD, List.getElem?_eq_getElem h]; rfl
theorem getD_ge {ns : List Int} {k : Nat} (h : ¬ k < ns.length) : ns.getD k 0 = 0 := by
  rw [List.getD_eq_getElem?_getD, List.getElem?_eq_none (by omega)]; rfl
def row1 (ns : List Int) (k : Nat) : Int := if ns.getD k 0 < 0 then -2 * ns.getD k 0 - 1 else ns.getD k 0
def rowA (c : Int) (k : Nat) : Int := (c * 48271 + k * 69621 + 11) % 2147483647
def rowB (a c : Int) (k : Nat) : Int := (a * 16807 + c * 7 + k + 5) % 2147483629
def rowC (a b : Int) : Int := (b * 39373 + a * b + 3) % 2147483587
theorem rowZ_hi {ns : List Int} {k : Nat} (h : ¬ row1 ns k < 10 ^ 9) : rowZ ns k = row1 ns k := by
  unfold rowZ
  exact if_neg h
theorem rowZ_lo {ns : List Int} {k : Nat} (h : row1 ns k < 10 ^ 9) : rowZ ns k = rowA (row1 ns k) k + rowB (rowA (row1 ns k) k) (row1 ns k) k * 2147483647 + rowC (rowA (row1 ns k) k) (rowB (rowA (row1 ns k) k) (row1 ns k) k) * 2147483647 ^ 2 := by
  unfold rowZ
  exact if_pos h
theorem row1_nn (ns : List Int) (k : Nat) : 0 ≤ row1 ns k := by
  unfold row1
  by_cases h : ns.getD k 0 < 0
  · rw [if_pos h]; omega
  · rw [if_neg h]; omega
theorem rowZ_nn (ns : List Int) (k : Nat) : 0 ≤ rowZ ns k := by
  by_cases h : row1 ns k < 10 ^ 9
  · rw [rowZ_lo h]
    have a0 : 0 ≤ rowA (row1 ns k) k := Int.emod_nonneg _ (by decide)
    have b0 : 0 ≤ rowB (rowA (row1 ns k) k) (row1 ns k) k := Int.emod_nonneg _ (by decide)
    have d0 : 0 ≤ rowC (rowA (row1 ns k) k) (rowB (rowA (row1 ns k) k) (row1 ns k) k) := Int.emod_nonneg _ (by decide)
    have e2 : (2147483647 : Int) ^ 2 = 4611686014132420609 := by decide
    rw [e2]
    omega
  · rw [rowZ_hi h]; exact row1_nn ns k

structure Every where

deriving DecidableEq
structure Has where
  field : Str
deriving DecidableEq
inductive Val
  | i (x : Int)
  | s (x : Str)
  | b (x : Bool)
deriving DecidableEq
def Val.p_i : Val → Option Int
  | .i x => some x
  | _ => none
def Val.p_s : Val → Option Str
  | .s x => some x
  | _ => none
def Val.p_b : Val → Option Bool
  | .b x => some x
  | _ => none
def d_Val : Val → PyData
  | .i x => PyData.int x
  | .s x => PyData.str x
  | .b x => PyData.bool x
def Val.is_bool : Val → Bool
  | .i _ => false
  | .s _ => false
  | .b _ => true
def Val.is_int : Val → Bool
  | .i _ => true
  | .s _ => false
  | .b _ => true
def Val.toV : Val → V
  | .i x => V.int x
  | .s x => V.str x
  | .b x => V.bl x
structure Compare where
  field : Str
  sign : Str
  value : Val
deriving DecidableEq
structure OneOf where
  field : Str
  choices : (List Val)
deriving DecidableEq
mutual
inductive Cond
  | every (x : Every)
  | has (x : Has)
  | compare (x : Compare)
  | one (x : OneOf)
  | both (x : Both)
  | either (x : Either)
  | neg (x : Negation)
structure Both where
  a : Cond
  b : Cond
structure Either where
  a : Cond
  b : Cond
structure Negation where
  a : Cond
end
def Cond.p_every : Cond → Option Every
  | .every x => some x
  | _ => none
def Cond.p_has : Cond → Option Has
  | .has x => some x
  | _ => none
def Cond.p_compare : Cond → Option Compare
  | .compare x => some x
  | _ => none
def Cond.p_one : Cond → Option OneOf
  | .one x => some x
  | _ => none
def Cond.p_both : Cond → Option Both
  | .both x => some x
  | _ => none
def Cond.p_either : Cond → Option Either
  | .either x => some x
  | _ => none
def Cond.p_neg : Cond → Option Negation
  | .neg x => some x
  | _ => none
def Cond.f_field : Cond → Option Str
  | .every x => none
  | .has x => some x.field
  | .compare x => some x.field
  | .one x => some x.field
  | .both x => none
  | .either x => none
  | .neg x => none
def Cond.f_sign : Cond → Option Str
  | .every x => none
  | .has x => none
  | .compare x => some x.sign
  | .one x => none
  | .both x => none
  | .either x => none
  | .neg x => none
def Cond.f_value : Cond → Option Val
  | .every x => none
  | .has x => none
  | .compare x => some x.value
  | .one x => none
  | .both x => none
  | .either x => none
  | .neg x => none
def Cond.is_Has : Cond → Bool
  | .every _ => false
  | .has _ => true
  | .compare _ => false
  | .one _ => false
  | .both _ => false
  | .either _ => false
  | .neg _ => false
def Cond.is_OneOf : Cond → Bool
  | .every _ => false
  | .has _ => false
  | .compare _ => false
  | .one _ => true
  | .both _ => false
  | .either _ => false
  | .neg _ => false
def Cond.is_Negation : Cond → Bool
  | .every _ => false
  | .has _ => false
  | .compare _ => false
  | .one _ => false
  | .both _ => false
  | .either _ => false
  | .neg _ => true
def Cond.is_Both : Cond → Bool
  | .every _ => false
  | .has _ => false
  | .compare _ => false
  | .one _ => false
  | .both _ => true
  | .either _ => false
  | .neg _ => false
def Cond.is_Either : Cond → Bool
  | .every _ => false
  | .has _ => false
  | .compare _ => false
  | .one _ => false
  | .both _ => false
  | .either _ => true
  | .neg _ => false
def Cond.is_Compare : Cond → Bool
  | .every _ => false
  | .has _ => false
  | .compare _ => true
  | .one _ => false
  | .both _ => false
  | .either _ => false
  | .neg _ => false
structure Range where
  field : Str
  low : Int
  high : Int
  lack : Str
deriving DecidableEq
structure Values where
  field : Str
  choices : (List Val)
  lack : Str
deriving DecidableEq
structure Norms where
  low : Int
  high : Int
deriving DecidableEq
structure Names where
  low : Str
  high : Str
deriving DecidableEq
structure Box where
  low : (List Int)
  high : (List Int)
deriving DecidableEq
inductive W
  | i (x : Int)
  | l (x : (List Val))
deriving DecidableEq
def W.p_i : W → Option Int
  | .i x => some x
  | _ => none
def W.p_l : W → Option (List Val)
  | .l x => some x
  | _ => none
def d_W : W → PyData
  | .i x => PyData.int x
  | .l x => (dLst d_Val) x
inductive FT
  | k_range (a1 : Str) (a2 : Int) (a3 : Int) (a4 : Str)
  | k_values (a1 : Str) (a2 : (List Val)) (a3 : Str)
deriving DecidableEq
def FT.tag : FT → Str
  | .k_range a1 a2 a3 a4 => "range"
  | .k_values a1 a2 a3 => "values"
def FT.s_0 : FT → Option Str
  | .k_range a1 a2 a3 a4 => some a1
  | .k_values a1 a2 a3 => some a1
def FT.s_1 : FT → Option Int
  | .k_range a1 a2 a3 a4 => some a2
  | .k_values a1 a2 a3 => none
def FT.s_2 : FT → Option Int
  | .k_range a1 a2 a3 a4 => some a3
  | .k_values a1 a2 a3 => none
def FT.s_3 : FT → Option Str
  | .k_range a1 a2 a3 a4 => some a4
  | .k_values a1 a2 a3 => none
def FT.s_4 : FT → Option (List Val)
  | .k_range a1 a2 a3 a4 => none
  | .k_values a1 a2 a3 => some a2
def FT.s_5 : FT → Option Str
  | .k_range a1 a2 a3 a4 => none
  | .k_values a1 a2 a3 => some a3
def d_FT : FT → PyData
  | .k_range a1 a2 a3 a4 => (dP5 PyData.str PyData.str PyData.int PyData.int PyData.str) (("range" : Str), a1, a2, a3, a4)
  | .k_values a1 a2 a3 => (dP4 PyData.str PyData.str (dLst d_Val) PyData.str) (("values" : Str), a1, a2, a3)
theorem FT.tag_range {a1 : Str} {a2 : Int} {a3 : Int} {a4 : Str} : FT.tag (.k_range a1 a2 a3 a4) = "range" := of_eq_true (eq_self _)
theorem FT.s_0_range {a1 : Str} {a2 : Int} {a3 : Int} {a4 : Str} : FT.s_0 (.k_range a1 a2 a3 a4) = some a1 := of_eq_true (eq_self _)
theorem FT.s_1_range {a1 : Str} {a2 : Int} {a3 : Int} {a4 : Str} : FT.s_1 (.k_range a1 a2 a3 a4) = some a2 := of_eq_true (eq_self _)
theorem FT.s_2_range {a1 : Str} {a2 : Int} {a3 : Int} {a4 : Str} : FT.s_2 (.k_range a1 a2 a3 a4) = some a3 := of_eq_true (eq_self _)
theorem FT.s_3_range {a1 : Str} {a2 : Int} {a3 : Int} {a4 : Str} : FT.s_3 (.k_range a1 a2 a3 a4) = some a4 := of_eq_true (eq_self _)
theorem FT.s_4_range {a1 : Str} {a2 : Int} {a3 : Int} {a4 : Str} : FT.s_4 (.k_range a1 a2 a3 a4) = none := of_eq_true (eq_self _)
theorem FT.s_5_range {a1 : Str} {a2 : Int} {a3 : Int} {a4 : Str} : FT.s_5 (.k_range a1 a2 a3 a4) = none := of_eq_true (eq_self _)
theorem FT.tag_values {a1 : Str} {a2 : (List Val)} {a3 : Str} : FT.tag (.k_values a1 a2 a3) = "values" := of_eq_true (eq_self _)
theorem FT.s_0_values {a1 : Str} {a2 : (List Val)} {a3 : Str} : FT.s_0 (.k_values a1 a2 a3) = some a1 := of_eq_true (eq_self _)
theorem FT.s_1_values {a1 : Str} {a2 : (List Val)} {a3 : Str} : FT.s_1 (.k_values a1 a2 a3) = none := of_eq_true (eq_self _)
theorem FT.s_2_values {a1 : Str} {a2 : (List Val)} {a3 : Str} : FT.s_2 (.k_values a1 a2 a3) = none := of_eq_true (eq_self _)
theorem FT.s_3_values {a1 : Str} {a2 : (List Val)} {a3 : Str} : FT.s_3 (.k_values a1 a2 a3) = none := of_eq_true (eq_self _)
theorem FT.s_4_values {a1 : Str} {a2 : (List Val)} {a3 : Str} : FT.s_4 (.k_values a1 a2 a3) = some a2 := of_eq_true (eq_self _)
theorem FT.s_5_values {a1 : Str} {a2 : (List Val)} {a3 : Str} : FT.s_5 (.k_values a1 a2 a3) = some a3 := of_eq_true (eq_self _)
theorem FT.ne_range_values : (("range" : Str) = "values") = False := eq_false (by decide +kernel)
theorem FT.ne_range_parts : (("range" : Str) = "parts") = False := eq_false (by decide +kernel)
theorem FT.ne_range_cell : (("range" : Str) = "cell") = False := eq_false (by decide +kernel)
theorem FT.ne_range_box : (("range" : Str) = "box") = False := eq_false (by decide +kernel)
theorem FT.ne_range_norms : (("range" : Str) = "norms") = False := eq_false (by decide +kernel)
theorem FT.ne_range_differ : (("range" : Str) = "differ") = False := eq_false (by decide +kernel)
theorem FT.ne_range_counts : (("range" : Str) = "counts") = False := eq_false (by decide +kernel)
theorem FT.ne_values_range : (("values" : Str) = "range") = False := eq_false (by decide +kernel)
theorem FT.ne_values_parts : (("values" : Str) = "parts") = False := eq_false (by decide +kernel)
theorem FT.ne_values_cell : (("values" : Str) = "cell") = False := eq_false (by decide +kernel)
theorem FT.ne_values_box : (("values" : Str) = "box") = False := eq_false (by decide +kernel)
theorem FT.ne_values_norms : (("values" : Str) = "norms") = False := eq_false (by decide +kernel)
theorem FT.ne_values_differ : (("values" : Str) = "differ") = False := eq_false (by decide +kernel)
theorem FT.ne_values_counts : (("values" : Str) = "counts") = False := eq_false (by decide +kernel)
theorem FT.ne_parts_range : (("parts" : Str) = "range") = False := eq_false (by decide +kernel)
theorem FT.ne_parts_values : (("parts" : Str) = "values") = False := eq_false (by decide +kernel)
theorem FT.ne_parts_cell : (("parts" : Str) = "cell") = False := eq_false (by decide +kernel)
theorem FT.ne_parts_box : (("parts" : Str) = "box") = False := eq_false (by decide +kernel)
theorem FT.ne_parts_norms : (("parts" : Str) = "norms") = False := eq_false (by decide +kernel)
theorem FT.ne_parts_differ : (("parts" : Str) = "differ") = False := eq_false (by decide +kernel)
theorem FT.ne_parts_counts : (("parts" : Str) = "counts") = False := eq_false (by decide +kernel)
theorem FT.ne_cell_range : (("cell" : Str) = "range") = False := eq_false (by decide +kernel)
theorem FT.ne_cell_values : (("cell" : Str) = "values") = False := eq_false (by decide +kernel)
theorem FT.ne_cell_parts : (("cell" : Str) = "parts") = False := eq_false (by decide +kernel)
theorem FT.ne_cell_box : (("cell" : Str) = "box") = False := eq_false (by decide +kernel)
theorem FT.ne_cell_norms : (("cell" : Str) = "norms") = False := eq_false (by decide +kernel)
theorem FT.ne_cell_differ : (("cell" : Str) = "differ") = False := eq_false (by decide +kernel)
theorem FT.ne_cell_counts : (("cell" : Str) = "counts") = False := eq_false (by decide +kernel)
theorem FT.ne_box_range : (("box" : Str) = "range") = False := eq_false (by decide +kernel)
theorem FT.ne_box_values : (("box" : Str) = "values") = False := eq_false (by decide +kernel)
theorem FT.ne_box_parts : (("box" : Str) = "parts") = False := eq_false (by decide +kernel)
theorem FT.ne_box_cell : (("box" : Str) = "cell") = False := eq_false (by decide +kernel)
theorem FT.ne_box_norms : (("box" : Str) = "norms") = False := eq_false (by decide +kernel)
theorem FT.ne_box_differ : (("box" : Str) = "differ") = False := eq_false (by decide +kernel)
theorem FT.ne_box_counts : (("box" : Str) = "counts") = False := eq_false (by decide +kernel)
theorem FT.ne_norms_range : (("norms" : Str) = "range") = False := eq_false (by decide +kernel)
theorem FT.ne_norms_values : (("norms" : Str) = "values") = False := eq_false (by decide +kernel)
theorem FT.ne_norms_parts : (("norms" : Str) = "parts") = False := eq_false (by decide +kernel)
theorem FT.ne_norms_cell : (("norms" : Str) = "cell") = False := eq_false (by decide +kernel)
theorem FT.ne_norms_box : (("norms" : Str) = "box") = False := eq_false (by decide +kernel)
theorem FT.ne_norms_differ : (("norms" : Str) = "differ") = False := eq_false (by decide +kernel)
theorem FT.ne_norms_counts : (("norms" : Str) = "counts") = False := eq_false (by decide +kernel)
theorem FT.ne_differ_range : (("differ" : Str) = "range") = False := eq_false (by decide +kernel)
theorem FT.ne_differ_values : (("differ" : Str) = "values") = False := eq_false (by decide +kernel)
theorem FT.ne_differ_parts : (("differ" : Str) = "parts") = False := eq_false (by decide +kernel)
theorem FT.ne_differ_cell : (("differ" : Str) = "cell") = False := eq_false (by decide +kernel)
theorem FT.ne_differ_box : (("differ" : Str) = "box") = False := eq_false (by decide +kernel)
theorem FT.ne_differ_norms : (("differ" : Str) = "norms") = False := eq_false (by decide +kernel)
theorem FT.ne_differ_counts : (("differ" : Str) = "counts") = False := eq_false (by decide +kernel)
theorem FT.ne_counts_range : (("counts" : Str) = "range") = False := eq_false (by decide +kernel)
theorem FT.ne_counts_values : (("counts" : Str) = "values") = False := eq_false (by decide +kernel)
theorem FT.ne_counts_parts : (("counts" : Str) = "parts") = False := eq_false (by decide +kernel)
theorem FT.ne_counts_cell : (("counts" : Str) = "cell") = False := eq_false (by decide +kernel)
theorem FT.ne_counts_box : (("counts" : Str) = "box") = False := eq_false (by decide +kernel)
theorem FT.ne_counts_norms : (("counts" : Str) = "norms") = False := eq_false (by decide +kernel)
theorem FT.ne_counts_differ : (("counts" : Str) = "differ") = False := eq_false (by decide +kernel)
def FT.size : FT → Int
  | .k_range a1 a2 a3 a4 => 5
  | .k_values a1 a2 a3 => 4
def FT.at_0 (x : FT) (i : Int) : Option Str := match x with
  | .k_range a1 a2 a3 a4 => if i = 1 then some a1 else if i = 4 then some a4 else none
  | .k_values a1 a2 a3 => if i = 1 then some a1 else if i = 3 then some a3 else none
def FT.w_0 : FT → Option W
  | .k_range a1 a2 a3 a4 => some (.i a2)
  | .k_values a1 a2 a3 => some (.l a2)
inductive Tree
  | k_every
  | k_has (a1 : Str)
  | k_in (a1 : Str) (a2 : (List Val))
  | k_compare (a1 : Str) (a2 : Str) (a3 : Val)
  | k_not (a1 : Tree)
  | k_and (a1 : Tree) (a2 : Tree)
  | k_or (a1 : Tree) (a2 : Tree)
deriving DecidableEq
def Tree.tag : Tree → Str
  | .k_every => "every"
  | .k_has a1 => "has"
  | .k_in a1 a2 => "in"
  | .k_compare a1 a2 a3 => "compare"
  | .k_not a1 => "not"
  | .k_and a1 a2 => "and"
  | .k_or a1 a2 => "or"
def Tree.s_6 : Tree → Option Str
  | .k_every => none
  | .k_has a1 => some a1
  | .k_in a1 a2 => some a1
  | .k_compare a1 a2 a3 => some a1
  | .k_not a1 => none
  | .k_and a1 a2 => none
  | .k_or a1 a2 => none
def Tree.s_7 : Tree → Option Str
  | .k_every => none
  | .k_has a1 => none
  | .k_in a1 a2 => none
  | .k_compare a1 a2 a3 => some a2
  | .k_not a1 => none
  | .k_and a1 a2 => none
  | .k_or a1 a2 => none
def Tree.s_8 : Tree → Option Val
  | .k_every => none
  | .k_has a1 => none
  | .k_in a1 a2 => none
  | .k_compare a1 a2 a3 => some a3
  | .k_not a1 => none
  | .k_and a1 a2 => none
  | .k_or a1 a2 => none
def Tree.s_9 : Tree → Option (List Val)
  | .k_every => none
  | .k_has a1 => none
  | .k_in a1 a2 => some a2
  | .k_compare a1 a2 a3 => none
  | .k_not a1 => none
  | .k_and a1 a2 => none
  | .k_or a1 a2 => none
def Tree.s_10 : Tree → Option Tree
  | .k_every => none
  | .k_has a1 => none
  | .k_in a1 a2 => none
  | .k_compare a1 a2 a3 => none
  | .k_not a1 => some a1
  | .k_and a1 a2 => some a1
  | .k_or a1 a2 => some a1
def Tree.s_11 : Tree → Option Tree
  | .k_every => none
  | .k_has a1 => none
  | .k_in a1 a2 => none
  | .k_compare a1 a2 a3 => none
  | .k_not a1 => none
  | .k_and a1 a2 => some a2
  | .k_or a1 a2 => some a2
theorem Tree.tag_every : Tree.tag (.k_every) = "every" := of_eq_true (eq_self _)
theorem Tree.s_6_every : Tree.s_6 (.k_every) = none := of_eq_true (eq_self _)
theorem Tree.s_7_every : Tree.s_7 (.k_every) = none := of_eq_true (eq_self _)
theorem Tree.s_8_every : Tree.s_8 (.k_every) = none := of_eq_true (eq_self _)
theorem Tree.s_9_every : Tree.s_9 (.k_every) = none := of_eq_true (eq_self _)
theorem Tree.s_10_every : Tree.s_10 (.k_every) = none := of_eq_true (eq_self _)
theorem Tree.s_11_every : Tree.s_11 (.k_every) = none := of_eq_true (eq_self _)
theorem Tree.tag_has {a1 : Str} : Tree.tag (.k_has a1) = "has" := of_eq_true (eq_self _)
theorem Tree.s_6_has {a1 : Str} : Tree.s_6 (.k_has a1) = some a1 := of_eq_true (eq_self _)
theorem Tree.s_7_has {a1 : Str} : Tree.s_7 (.k_has a1) = none := of_eq_true (eq_self _)
theorem Tree.s_8_has {a1 : Str} : Tree.s_8 (.k_has a1) = none := of_eq_true (eq_self _)
theorem Tree.s_9_has {a1 : Str} : Tree.s_9 (.k_has a1) = none := of_eq_true (eq_self _)
theorem Tree.s_10_has {a1 : Str} : Tree.s_10 (.k_has a1) = none := of_eq_true (eq_self _)
theorem Tree.s_11_has {a1 : Str} : Tree.s_11 (.k_has a1) = none := of_eq_true (eq_self _)
theorem Tree.tag_in {a1 : Str} {a2 : (List Val)} : Tree.tag (.k_in a1 a2) = "in" := of_eq_true (eq_self _)
theorem Tree.s_6_in {a1 : Str} {a2 : (List Val)} : Tree.s_6 (.k_in a1 a2) = some a1 := of_eq_true (eq_self _)
theorem Tree.s_7_in {a1 : Str} {a2 : (List Val)} : Tree.s_7 (.k_in a1 a2) = none := of_eq_true (eq_self _)
theorem Tree.s_8_in {a1 : Str} {a2 : (List Val)} : Tree.s_8 (.k_in a1 a2) = none := of_eq_true (eq_self _)
theorem Tree.s_9_in {a1 : Str} {a2 : (List Val)} : Tree.s_9 (.k_in a1 a2) = some a2 := of_eq_true (eq_self _)
theorem Tree.s_10_in {a1 : Str} {a2 : (List Val)} : Tree.s_10 (.k_in a1 a2) = none := of_eq_true (eq_self _)
theorem Tree.s_11_in {a1 : Str} {a2 : (List Val)} : Tree.s_11 (.k_in a1 a2) = none := of_eq_true (eq_self _)
theorem Tree.tag_compare {a1 : Str} {a2 : Str} {a3 : Val} : Tree.tag (.k_compare a1 a2 a3) = "compare" := of_eq_true (eq_self _)
theorem Tree.s_6_compare {a1 : Str} {a2 : Str} {a3 : Val} : Tree.s_6 (.k_compare a1 a2 a3) = some a1 := of_eq_true (eq_self _)
theorem Tree.s_7_compare {a1 : Str} {a2 : Str} {a3 : Val} : Tree.s_7 (.k_compare a1 a2 a3) = some a2 := of_eq_true (eq_self _)
theorem Tree.s_8_compare {a1 : Str} {a2 : Str} {a3 : Val} : Tree.s_8 (.k_compare a1 a2 a3) = some a3 := of_eq_true (eq_self _)
theorem Tree.s_9_compare {a1 : Str} {a2 : Str} {a3 : Val} : Tree.s_9 (.k_compare a1 a2 a3) = none := of_eq_true (eq_self _)
theorem Tree.s_10_compare {a1 : Str} {a2 : Str} {a3 : Val} : Tree.s_10 (.k_compare a1 a2 a3) = none := of_eq_true (eq_self _)
theorem Tree.s_11_compare {a1 : Str} {a2 : Str} {a3 : Val} : Tree.s_11 (.k_compare a1 a2 a3) = none := of_eq_true (eq_self _)
theorem Tree.tag_not {a1 : Tree} : Tree.tag (.k_not a1) = "not" := of_eq_true (eq_self _)
theorem Tree.s_6_not {a1 : Tree} : Tree.s_6 (.k_not a1) = none := of_eq_true (eq_self _)
theorem Tree.s_7_not {a1 : Tree} : Tree.s_7 (.k_not a1) = none := of_eq_true (eq_self _)
theorem Tree.s_8_not {a1 : Tree} : Tree.s_8 (.k_not a1) = none := of_eq_true (eq_self _)
theorem Tree.s_9_not {a1 : Tree} : Tree.s_9 (.k_not a1) = none := of_eq_true (eq_self _)
theorem Tree.s_10_not {a1 : Tree} : Tree.s_10 (.k_not a1) = some a1 := of_eq_true (eq_self _)
theorem Tree.s_11_not {a1 : Tree} : Tree.s_11 (.k_not a1) = none := of_eq_true (eq_self _)
theorem Tree.tag_and {a1 : Tree} {a2 : Tree} : Tree.tag (.k_and a1 a2) = "and" := of_eq_true (eq_self _)
theorem Tree.s_6_and {a1 : Tree} {a2 : Tree} : Tree.s_6 (.k_and a1 a2) = none := of_eq_true (eq_self _)
theorem Tree.s_7_and {a1 : Tree} {a2 : Tree} : Tree.s_7 (.k_and a1 a2) = none := of_eq_true (eq_self _)
theorem Tree.s_8_and {a1 : Tree} {a2 : Tree} : Tree.s_8 (.k_and a1 a2) = none := of_eq_true (eq_self _)
theorem Tree.s_9_and {a1 : Tree} {a2 : Tree} : Tree.s_9 (.k_and a1 a2) = none := of_eq_true (eq_self _)
theorem Tree.s_10_and {a1 : Tree} {a2 : Tree} : Tree.s_10 (.k_and a1 a2) = some a1 := of_eq_true (eq_self _)
theorem Tree.s_11_and {a1 : Tree} {a2 : Tree} : Tree.s_11 (.k_and a1 a2) = some a2 := of_eq_true (eq_self _)
theorem Tree.tag_or {a1 : Tree} {a2 : Tree} : Tree.tag (.k_or a1 a2) = "or" := of_eq_true (eq_self _)
theorem Tree.s_6_or {a1 : Tree} {a2 : Tree} : Tree.s_6 (.k_or a1 a2) = none := of_eq_true (eq_self _)
theorem Tree.s_7_or {a1 : Tree} {a2 : Tree} : Tree.s_7 (.k_or a1 a2) = none := of_eq_true (eq_self _)
theorem Tree.s_8_or {a1 : Tree} {a2 : Tree} : Tree.s_8 (.k_or a1 a2) = none := of_eq_true (eq_self _)
theorem Tree.s_9_or {a1 : Tree} {a2 : Tree} : Tree.s_9 (.k_or a1 a2) = none := of_eq_true (eq_self _)
theorem Tree.s_10_or {a1 : Tree} {a2 : Tree} : Tree.s_10 (.k_or a1 a2) = some a1 := of_eq_true (eq_self _)
theorem Tree.s_11_or {a1 : Tree} {a2 : Tree} : Tree.s_11 (.k_or a1 a2) = some a2 := of_eq_true (eq_self _)
theorem Tree.ne_every_has : (("every" : Str) = "has") = False := eq_false (by decide +kernel)
theorem Tree.ne_every_in : (("every" : Str) = "in") = False := eq_false (by decide +kernel)
theorem Tree.ne_every_compare : (("every" : Str) = "compare") = False := eq_false (by decide +kernel)
theorem Tree.ne_every_not : (("every" : Str) = "not") = False := eq_false (by decide +kernel)
theorem Tree.ne_every_and : (("every" : Str) = "and") = False := eq_false (by decide +kernel)
theorem Tree.ne_every_or : (("every" : Str) = "or") = False := eq_false (by decide +kernel)
theorem Tree.ne_every_parts : (("every" : Str) = "parts") = False := eq_false (by decide +kernel)
theorem Tree.ne_every_cell : (("every" : Str) = "cell") = False := eq_false (by decide +kernel)
theorem Tree.ne_every_box : (("every" : Str) = "box") = False := eq_false (by decide +kernel)
theorem Tree.ne_every_norms : (("every" : Str) = "norms") = False := eq_false (by decide +kernel)
theorem Tree.ne_every_differ : (("every" : Str) = "differ") = False := eq_false (by decide +kernel)
theorem Tree.ne_every_counts : (("every" : Str) = "counts") = False := eq_false (by decide +kernel)
theorem Tree.ne_has_every : (("has" : Str) = "every") = False := eq_false (by decide +kernel)
theorem Tree.ne_has_in : (("has" : Str) = "in") = False := eq_false (by decide +kernel)
theorem Tree.ne_has_compare : (("has" : Str) = "compare") = False := eq_false (by decide +kernel)
theorem Tree.ne_has_not : (("has" : Str) = "not") = False := eq_false (by decide +kernel)
theorem Tree.ne_has_and : (("has" : Str) = "and") = False := eq_false (by decide +kernel)
theorem Tree.ne_has_or : (("has" : Str) = "or") = False := eq_false (by decide +kernel)
theorem Tree.ne_has_parts : (("has" : Str) = "parts") = False := eq_false (by decide +kernel)
theorem Tree.ne_has_cell : (("has" : Str) = "cell") = False := eq_false (by decide +kernel)
theorem Tree.ne_has_box : (("has" : Str) = "box") = False := eq_false (by decide +kernel)
theorem Tree.ne_has_norms : (("has" : Str) = "norms") = False := eq_false (by decide +kernel)
theorem Tree.ne_has_differ : (("has" : Str) = "differ") = False := eq_false (by decide +kernel)
theorem Tree.ne_has_counts : (("has" : Str) = "counts") = False := eq_false (by decide +kernel)
theorem Tree.ne_in_every : (("in" : Str) = "every") = False := eq_false (by decide +kernel)
theorem Tree.ne_in_has : (("in" : Str) = "has") = False := eq_false (by decide +kernel)
theorem Tree.ne_in_compare : (("in" : Str) = "compare") = False := eq_false (by decide +kernel)
theorem Tree.ne_in_not : (("in" : Str) = "not") = False := eq_false (by decide +kernel)
theorem Tree.ne_in_and : (("in" : Str) = "and") = False := eq_false (by decide +kernel)
theorem Tree.ne_in_or : (("in" : Str) = "or") = False := eq_false (by decide +kernel)
theorem Tree.ne_in_parts : (("in" : Str) = "parts") = False := eq_false (by decide +kernel)
theorem Tree.ne_in_cell : (("in" : Str) = "cell") = False := eq_false (by decide +kernel)
theorem Tree.ne_in_box : (("in" : Str) = "box") = False := eq_false (by decide +kernel)
theorem Tree.ne_in_norms : (("in" : Str) = "norms") = False := eq_false (by decide +kernel)
theorem Tree.ne_in_differ : (("in" : Str) = "differ") = False := eq_false (by decide +kernel)
theorem Tree.ne_in_counts : (("in" : Str) = "counts") = False := eq_false (by decide +kernel)
theorem Tree.ne_compare_every : (("compare" : Str) = "every") = False := eq_false (by decide +kernel)
theorem Tree.ne_compare_has : (("compare" : Str) = "has") = False := eq_false (by decide +kernel)
theorem Tree.ne_compare_in : (("compare" : Str) = "in") = False := eq_false (by decide +kernel)
theorem Tree.ne_compare_not : (("compare" : Str) = "not") = False := eq_false (by decide +kernel)
theorem Tree.ne_compare_and : (("compare" : Str) = "and") = False := eq_false (by decide +kernel)
theorem Tree.ne_compare_or : (("compare" : Str) = "or") = False := eq_false (by decide +kernel)
theorem Tree.ne_compare_parts : (("compare" : Str) = "parts") = False := eq_false (by decide +kernel)
theorem Tree.ne_compare_cell : (("compare" : Str) = "cell") = False := eq_false (by decide +kernel)
theorem Tree.ne_compare_box : (("compare" : Str) = "box") = False := eq_false (by decide +kernel)
theorem Tree.ne_compare_norms : (("compare" : Str) = "norms") = False := eq_false (by decide +kernel)
theorem Tree.ne_compare_differ : (("compare" : Str) = "differ") = False := eq_false (by decide +kernel)
theorem Tree.ne_compare_counts : (("compare" : Str) = "counts") = False := eq_false (by decide +kernel)
theorem Tree.ne_not_every : (("not" : Str) = "every") = False := eq_false (by decide +kernel)
theorem Tree.ne_not_has : (("not" : Str) = "has") = False := eq_false (by decide +kernel)
theorem Tree.ne_not_in : (("not" : Str) = "in") = False := eq_false (by decide +kernel)
theorem Tree.ne_not_compare : (("not" : Str) = "compare") = False := eq_false (by decide +kernel)
theorem Tree.ne_not_and : (("not" : Str) = "and") = False := eq_false (by decide +kernel)
theorem Tree.ne_not_or : (("not" : Str) = "or") = False := eq_false (by decide +kernel)
theorem Tree.ne_not_parts : (("not" : Str) = "parts") = False := eq_false (by decide +kernel)
theorem Tree.ne_not_cell : (("not" : Str) = "cell") = False := eq_false (by decide +kernel)
theorem Tree.ne_not_box : (("not" : Str) = "box") = False := eq_false (by decide +kernel)
theorem Tree.ne_not_norms : (("not" : Str) = "norms") = False := eq_false (by decide +kernel)
theorem Tree.ne_not_differ : (("not" : Str) = "differ") = False := eq_false (by decide +kernel)
theorem Tree.ne_not_counts : (("not" : Str) = "counts") = False := eq_false (by decide +kernel)
theorem Tree.ne_and_every : (("and" : Str) = "every") = False := eq_false (by decide +kernel)
theorem Tree.ne_and_has : (("and" : Str) = "has") = False := eq_false (by decide +kernel)
theorem Tree.ne_and_in : (("and" : Str) = "in") = False := eq_false (by decide +kernel)
theorem Tree.ne_and_compare : (("and" : Str) = "compare") = False := eq_false (by decide +kernel)
theorem Tree.ne_and_not : (("and" : Str) = "not") = False := eq_false (by decide +kernel)
theorem Tree.ne_and_or : (("and" : Str) = "or") = False := eq_false (by decide +kernel)
theorem Tree.ne_and_parts : (("and" : Str) = "parts") = False := eq_false (by decide +kernel)
theorem Tree.ne_and_cell : (("and" : Str) = "cell") = False := eq_false (by decide +kernel)
theorem Tree.ne_and_box : (("and" : Str) = "box") = False := eq_false (by decide +kernel)
theorem Tree.ne_and_norms : (("and" : Str) = "norms") = False := eq_false (by decide +kernel)
theorem Tree.ne_and_differ : (("and" : Str) = "differ") = False := eq_false (by decide +kernel)
theorem Tree.ne_and_counts : (("and" : Str) = "counts") = False := eq_false (by decide +kernel)
theorem Tree.ne_or_every : (("or" : Str) = "every") = False := eq_false (by decide +kernel)
theorem Tree.ne_or_has : (("or" : Str) = "has") = False := eq_false (by decide +kernel)
theorem Tree.ne_or_in : (("or" : Str) = "in") = False := eq_false (by decide +kernel)
theorem Tree.ne_or_compare : (("or" : Str) = "compare") = False := eq_false (by decide +kernel)
theorem Tree.ne_or_not : (("or" : Str) = "not") = False := eq_false (by decide +kernel)
theorem Tree.ne_or_and : (("or" : Str) = "and") = False := eq_false (by decide +kernel)
theorem Tree.ne_or_parts : (("or" : Str) = "parts") = False := eq_false (by decide +kernel)
theorem Tree.ne_or_cell : (("or" : Str) = "cell") = False := eq_false (by decide +kernel)
theorem Tree.ne_or_box : (("or" : Str) = "box") = False := eq_false (by decide +kernel)
theorem Tree.ne_or_norms : (("or" : Str) = "norms") = False := eq_false (by decide +kernel)
theorem Tree.ne_or_differ : (("or" : Str) = "differ") = False := eq_false (by decide +kernel)
theorem Tree.ne_or_counts : (("or" : Str) = "counts") = False := eq_false (by decide +kernel)
theorem Tree.ne_parts_every : (("parts" : Str) = "every") = False := eq_false (by decide +kernel)
theorem Tree.ne_parts_has : (("parts" : Str) = "has") = False := eq_false (by decide +kernel)
theorem Tree.ne_parts_in : (("parts" : Str) = "in") = False := eq_false (by decide +kernel)
theorem Tree.ne_parts_compare : (("parts" : Str) = "compare") = False := eq_false (by decide +kernel)
theorem Tree.ne_parts_not : (("parts" : Str) = "not") = False := eq_false (by decide +kernel)
theorem Tree.ne_parts_and : (("parts" : Str) = "and") = False := eq_false (by decide +kernel)
theorem Tree.ne_parts_or : (("parts" : Str) = "or") = False := eq_false (by decide +kernel)
theorem Tree.ne_parts_cell : (("parts" : Str) = "cell") = False := eq_false (by decide +kernel)
theorem Tree.ne_parts_box : (("parts" : Str) = "box") = False := eq_false (by decide +kernel)
theorem Tree.ne_parts_norms : (("parts" : Str) = "norms") = False := eq_false (by decide +kernel)
theorem Tree.ne_parts_differ : (("parts" : Str) = "differ") = False := eq_false (by decide +kernel)
theorem Tree.ne_parts_counts : (("parts" : Str) = "counts") = False := eq_false (by decide +kernel)
theorem Tree.ne_cell_every : (("cell" : Str) = "every") = False := eq_false (by decide +kernel)
theorem Tree.ne_cell_has : (("cell" : Str) = "has") = False := eq_false (by decide +kernel)
theorem Tree.ne_cell_in : (("cell" : Str) = "in") = False := eq_false (by decide +kernel)
theorem Tree.ne_cell_compare : (("cell" : Str) = "compare") = False := eq_false (by decide +kernel)
theorem Tree.ne_cell_not : (("cell" : Str) = "not") = False := eq_false (by decide +kernel)
theorem Tree.ne_cell_and : (("cell" : Str) = "and") = False := eq_false (by decide +kernel)
theorem Tree.ne_cell_or : (("cell" : Str) = "or") = False := eq_false (by decide +kernel)
theorem Tree.ne_cell_parts : (("cell" : Str) = "parts") = False := eq_false (by decide +kernel)
theorem Tree.ne_cell_box : (("cell" : Str) = "box") = False := eq_false (by decide +kernel)
theorem Tree.ne_cell_norms : (("cell" : Str) = "norms") = False := eq_false (by decide +kernel)
theorem Tree.ne_cell_differ : (("cell" : Str) = "differ") = False := eq_false (by decide +kernel)
theorem Tree.ne_cell_counts : (("cell" : Str) = "counts") = False := eq_false (by decide +kernel)
theorem Tree.ne_box_every : (("box" : Str) = "every") = False := eq_false (by decide +kernel)
theorem Tree.ne_box_has : (("box" : Str) = "has") = False := eq_false (by decide +kernel)
theorem Tree.ne_box_in : (("box" : Str) = "in") = False := eq_false (by decide +kernel)
theorem Tree.ne_box_compare : (("box" : Str) = "compare") = False := eq_false (by decide +kernel)
theorem Tree.ne_box_not : (("box" : Str) = "not") = False := eq_false (by decide +kernel)
theorem Tree.ne_box_and : (("box" : Str) = "and") = False := eq_false (by decide +kernel)
theorem Tree.ne_box_or : (("box" : Str) = "or") = False := eq_false (by decide +kernel)
theorem Tree.ne_box_parts : (("box" : Str) = "parts") = False := eq_false (by decide +kernel)
theorem Tree.ne_box_cell : (("box" : Str) = "cell") = False := eq_false (by decide +kernel)
theorem Tree.ne_box_norms : (("box" : Str) = "norms") = False := eq_false (by decide +kernel)
theorem Tree.ne_box_differ : (("box" : Str) = "differ") = False := eq_false (by decide +kernel)
theorem Tree.ne_box_counts : (("box" : Str) = "counts") = False := eq_false (by decide +kernel)
theorem Tree.ne_norms_every : (("norms" : Str) = "every") = False := eq_false (by decide +kernel)
theorem Tree.ne_norms_has : (("norms" : Str) = "has") = False := eq_false (by decide +kernel)
theorem Tree.ne_norms_in : (("norms" : Str) = "in") = False := eq_false (by decide +kernel)
theorem Tree.ne_norms_compare : (("norms" : Str) = "compare") = False := eq_false (by decide +kernel)
theorem Tree.ne_norms_not : (("norms" : Str) = "not") = False := eq_false (by decide +kernel)
theorem Tree.ne_norms_and : (("norms" : Str) = "and") = False := eq_false (by decide +kernel)
theorem Tree.ne_norms_or : (("norms" : Str) = "or") = False := eq_false (by decide +kernel)
theorem Tree.ne_norms_parts : (("norms" : Str) = "parts") = False := eq_false (by decide +kernel)
theorem Tree.ne_norms_cell : (("norms" : Str) = "cell") = False := eq_false (by decide +kernel)
theorem Tree.ne_norms_box : (("norms" : Str) = "box") = False := eq_false (by decide +kernel)
theorem Tree.ne_norms_differ : (("norms" : Str) = "differ") = False := eq_false (by decide +kernel)
theorem Tree.ne_norms_counts : (("norms" : Str) = "counts") = False := eq_false (by decide +kernel)
theorem Tree.ne_differ_every : (("differ" : Str) = "every") = False := eq_false (by decide +kernel)
theorem Tree.ne_differ_has : (("differ" : Str) = "has") = False := eq_false (by decide +kernel)
theorem Tree.ne_differ_in : (("differ" : Str) = "in") = False := eq_false (by decide +kernel)
theorem Tree.ne_differ_compare : (("differ" : Str) = "compare") = False := eq_false (by decide +kernel)
theorem Tree.ne_differ_not : (("differ" : Str) = "not") = False := eq_false (by decide +kernel)
theorem Tree.ne_differ_and : (("differ" : Str) = "and") = False := eq_false (by decide +kernel)
theorem Tree.ne_differ_or : (("differ" : Str) = "or") = False := eq_false (by decide +kernel)
theorem Tree.ne_differ_parts : (("differ" : Str) = "parts") = False := eq_false (by decide +kernel)
theorem Tree.ne_differ_cell : (("differ" : Str) = "cell") = False := eq_false (by decide +kernel)
theorem Tree.ne_differ_box : (("differ" : Str) = "box") = False := eq_false (by decide +kernel)
theorem Tree.ne_differ_norms : (("differ" : Str) = "norms") = False := eq_false (by decide +kernel)
theorem Tree.ne_differ_counts : (("differ" : Str) = "counts") = False := eq_false (by decide +kernel)
theorem Tree.ne_counts_every : (("counts" : Str) = "every") = False := eq_false (by decide +kernel)
theorem Tree.ne_counts_has : (("counts" : Str) = "has") = False := eq_false (by decide +kernel)
theorem Tree.ne_counts_in : (("counts" : Str) = "in") = False := eq_false (by decide +kernel)
theorem Tree.ne_counts_compare : (("counts" : Str) = "compare") = False := eq_false (by decide +kernel)
theorem Tree.ne_counts_not : (("counts" : Str) = "not") = False := eq_false (by decide +kernel)
theorem Tree.ne_counts_and : (("counts" : Str) = "and") = False := eq_false (by decide +kernel)
theorem Tree.ne_counts_or : (("counts" : Str) = "or") = False := eq_false (by decide +kernel)
theorem Tree.ne_counts_parts : (("counts" : Str) = "parts") = False := eq_false (by decide +kernel)
theorem Tree.ne_counts_cell : (("counts" : Str) = "cell") = False := eq_false (by decide +kernel)
theorem Tree.ne_counts_box : (("counts" : Str) = "box") = False := eq_false (by decide +kernel)
theorem Tree.ne_counts_norms : (("counts" : Str) = "norms") = False := eq_false (by decide +kernel)
theorem Tree.ne_counts_differ : (("counts" : Str) = "differ") = False := eq_false (by decide +kernel)
def Tree.mk2 (w : Str) (a1 : Tree) (a2 : Tree) : Option Tree := if w = "and" then some (.k_and a1 a2) else if w = "or" then some (.k_or a1 a2) else none
inductive Fa
  | range (x : Range)
  | values (x : Values)
  | norms (x : Norms)
  | names (x : Names)
  | box (x : Box)
deriving DecidableEq
def Fa.p_range : Fa → Option Range
  | .range x => some x
  | _ => none
def Fa.p_values : Fa → Option Values
  | .values x => some x
  | _ => none
def Fa.p_norms : Fa → Option Norms
  | .norms x => some x
  | _ => none
def Fa.p_names : Fa → Option Names
  | .names x => some x
  | _ => none
def Fa.p_box : Fa → Option Box
  | .box x => some x
  | _ => none


def F_law_leaf (ds : DS) : Option (Tree × DS) :=
  (atI ([("n" : Str), ("n" : Str), ("t" : Str), ("f" : Str)] : List Str) (nxV (nxS ds (4 : Int)) (4 : Int))).bind fun i_25 =>
  (idxO ([("n" : Str), ("t" : Str), ("f" : Str)] : List Str) i_25).bind fun j_29 =>
  (atI ([([(Val.i (-(5 : Int))), (Val.i (-(1 : Int))), (Val.i (0 : Int)), (Val.i (2 : Int)), (Val.i (5 : Int)), (Val.i (9 : Int))] : List Val), ([(Val.s ("" : Str)), (Val.s ("red" : Str)), (Val.s ("ash" : Str)), (Val.s ("zz" : Str))] : List Val), ([(Val.b true), (Val.b false)] : List Val)] : List (List Val)) (j_29 : Int)).bind fun i_31 =>
  if (decide ((nxV ds (4 : Int)) = (0 : Int))) = true then
  some ((Tree.k_has i_25), (nxS (nxS ds (4 : Int)) (4 : Int)))
  else
  if (decide ((nxV ds (4 : Int)) = (1 : Int))) = true then
  if RangeOk 0 ((1 : Int) + (nxV (nxS (nxS ds (4 : Int)) (4 : Int)) (3 : Int))) then
  (mapS (fun (x_38 : Int) (s_39 : DS) => (if NxOk (i_31.length : Int) then
  (atI i_31 (nxV s_39 (i_31.length : Int))).bind fun i_43 =>
  some (i_43, (nxS s_39 (i_31.length : Int))) else none : Option (Val × DS))) (rangeZ 0 ((1 : Int) + (nxV (nxS (nxS ds (4 : Int)) (4 : Int)) (3 : Int)))) (nxS (nxS (nxS ds (4 : Int)) (4 : Int)) (3 : Int))).bind fun l_45 =>
  some ((Tree.k_in i_25 l_45.1), l_45.2) else none
  else
  (atI ([("=" : Str), ("!=" : Str), ("<" : Str), ("<=" : Str), (">" : Str), (">=" : Str)] : List Str) (nxV (nxS (nxS ds (4 : Int)) (4 : Int)) (6 : Int))).bind fun i_47 =>
  if NxOk (i_31.length : Int) then
  (atI i_31 (nxV (nxS (nxS (nxS ds (4 : Int)) (4 : Int)) (6 : Int)) (i_31.length : Int))).bind fun i_50 =>
  some ((Tree.k_compare i_25 i_47 i_50), (nxS (nxS (nxS (nxS ds (4 : Int)) (4 : Int)) (6 : Int)) (i_31.length : Int))) else none
structure Grp0 where
  h_law_tree : DS → Int → Option (Tree × DS)
def S_law_tree (g : Grp0) (ds : DS) (x_depth : Int) : Option (Tree × DS) :=
  if (decide ((nxV ds (6 : Int)) = (0 : Int))) = true then
  some ((Tree.k_every), (nxS ds (6 : Int)))
  else
  if ((decide (x_depth = (0 : Int))) || (decide ((nxV ds (6 : Int)) < (3 : Int)))) = true then
  (F_law_leaf (nxS ds (6 : Int))).bind fun r_56 =>
  some (r_56.1, r_56.2)
  else
  if (decide ((nxV ds (6 : Int)) = (3 : Int))) = true then
  ((g.h_law_tree) (nxS ds (6 : Int)) (x_depth - (1 : Int))).bind fun r_59 =>
  some ((Tree.k_not r_59.1), r_59.2)
  else
  (atI ([("and" : Str), ("or" : Str)] : List Str) ((nxV ds (6 : Int)) - (4 : Int))).bind fun i_61 =>
  ((g.h_law_tree) (nxS ds (6 : Int)) (x_depth - (1 : Int))).bind fun r_63 =>
  ((g.h_law_tree) r_63.2 (x_depth - (1 : Int))).bind fun r_65 =>
  (Tree.mk2 i_61 r_63.1 r_65.1).bind fun t_67 =>
  some (t_67, r_65.2)
def grp0 : Nat → Grp0
  | 0 => ⟨fun _ _ => none⟩
  | n + 1 => ⟨S_law_tree (grp0 n)⟩
def F_law_tree (ds : DS) (x_depth : Int) : Option (Tree × DS) := (grp0 5).h_law_tree ds x_depth
def F_Fact_outcomes (x_self : Unit) (x_condition : Cond) : (Option (Bool × Bool)) :=
  none
def F_outcomes_of_lack (x_lack : Str) : (Bool × Bool) :=
  ((!decide (x_lack = ("all" : Str))), (!decide (x_lack = ("nobody" : Str))))
def F_kind_of_value (x_worth : Val) : Str :=
  if (x_worth.is_bool) = true then
  ("flag" : Str)
  else
  if (x_worth.is_int) = true then
  ("integer" : Str)
  else
  ("text" : Str)
def F_range_outcomes (x_low : Int) (x_high : Int) (x_sign : Str) (x_value : Val) : Option (Bool × Bool) :=
  if (!decide ((F_kind_of_value x_value) = ("integer" : Str))) = true then
  some (false, true)
  else
  (x_value.p_i).bind fun u_88 =>
  (some ((decide (x_low ≤ u_88)) && (decide (u_88 ≤ x_high)))).bind fun x_can_equal_90 =>
  (x_value.p_i).bind fun u_94 =>
  (some (!((decide (x_low = u_94)) && (decide (u_94 = x_high))))).bind fun x_can_differ_96 =>
  if (decide (x_sign = ("=" : Str))) = true then
  some (x_can_equal_90, x_can_differ_96)
  else
  if (decide (x_sign = ("!=" : Str))) = true then
  some (x_can_differ_96, x_can_equal_90)
  else
  if (decide (x_sign = ("<" : Str))) = true then
  (x_value.p_i).bind fun u_103 =>
  (x_value.p_i).bind fun u_105 =>
  some ((decide (x_low < u_103)), (decide (u_105 ≤ x_high)))
  else
  if (decide (x_sign = ("<=" : Str))) = true then
  (x_value.p_i).bind fun u_108 =>
  (x_value.p_i).bind fun u_110 =>
  some ((decide (x_low ≤ u_108)), (decide (u_110 < x_high)))
  else
  if (decide (x_sign = (">" : Str))) = true then
  (x_value.p_i).bind fun u_113 =>
  (x_value.p_i).bind fun u_115 =>
  some ((decide (u_113 < x_high)), (decide (x_low ≤ u_115)))
  else
  (x_value.p_i).bind fun u_117 =>
  (x_value.p_i).bind fun u_119 =>
  some ((decide (u_117 ≤ x_high)), (decide (x_low < u_119)))
def F_is_from (x_low : Int) (x_high : Int) (x_worth : Val) : Option Bool :=
  (if (decide ((F_kind_of_value x_worth) = ("integer" : Str))) = true then ((x_worth.p_i).bind fun u_125 =>
  some ((decide (x_low ≤ u_125)) && (decide (u_125 ≤ x_high)))) else some false).bind fun b_128 =>
  some b_128
def F_Range_outcomes (x_self : Range) (x_condition : Cond) : Option (Option (Bool × Bool)) :=
  (x_condition.f_field).bind fun a_134 =>
  if (!decide (a_134 = x_self.field)) = true then
  some none
  else
  if ((decide (x_self.lack = ("all" : Str))) || (x_condition.is_Has)) = true then
  some (some (F_outcomes_of_lack x_self.lack))
  else
  (if (x_condition.is_OneOf) = true then
  (x_condition.p_one).bind fun u_161 =>
  (mapO (fun (x_163 : Val) => ((F_is_from x_self.low x_self.high x_163).bind fun r_166 =>
  some r_166 : Option Bool)) u_161.choices).bind fun l_168 =>
  some ((l_168.any id), true)
  else
  (x_condition.f_sign).bind fun a_174 =>
  (x_condition.f_value).bind fun a_176 =>
  (F_range_outcomes x_self.low x_self.high a_174 a_176).bind fun r_178 =>
  some (r_178.1, r_178.2) : Option (Bool × Bool)).bind fun w_151 =>
  some (some (w_151.1, (w_151.2 || (decide (x_self.lack = ("some" : Str))))))
def F_satisfies (x_worth : Val) (x_sign : Str) (x_other : Val) : Option Bool :=
  if (!decide ((F_kind_of_value x_worth) = (F_kind_of_value x_other))) = true then
  some (decide (x_sign = ("!=" : Str)))
  else
  if (decide (x_sign = ("=" : Str))) = true then
  some (PyData.eqv (d_Val x_worth) (d_Val x_other))
  else
  if (decide (x_sign = ("!=" : Str))) = true then
  some (!(PyData.eqv (d_Val x_worth) (d_Val x_other)))
  else
  if (decide (x_sign = ("<" : Str))) = true then
  if sameB (x_worth.toV) (x_other.toV) = true then
  some (ltV x_worth.toV x_other.toV) else none
  else
  if (decide (x_sign = ("<=" : Str))) = true then
  if sameB (x_worth.toV) (x_other.toV) = true then
  some (!ltV x_other.toV x_worth.toV) else none
  else
  if (decide (x_sign = (">" : Str))) = true then
  if sameB (x_worth.toV) (x_other.toV) = true then
  some (ltV x_other.toV x_worth.toV) else none
  else
  if sameB (x_worth.toV) (x_other.toV) = true then
  some (!ltV x_worth.toV x_other.toV) else none
def F_same_value (x_one : Val) (x_other : Val) : Bool :=
  ((decide ((F_kind_of_value x_one) = (F_kind_of_value x_other))) && (PyData.eqv (d_Val x_one) (d_Val x_other)))
def F_is_among (x_worth : Val) (x_choices : (List Val)) : Bool :=
  ((x_choices.map (fun (x_201 : Val) => (F_same_value x_worth x_201))).any id)
def F_value_passes (x_worth : Val) (x_condition : Cond) : Option Bool :=
  if (x_condition.is_OneOf) = true then
  (x_condition.p_one).bind fun u_208 =>
  some (F_is_among x_worth u_208.choices)
  else
  (x_condition.f_sign).bind fun a_210 =>
  (x_condition.f_value).bind fun a_212 =>
  (F_satisfies x_worth a_210 a_212).bind fun r_214 =>
  some r_214
def F_Values_outcomes (x_self : Values) (x_condition : Cond) : Option (Option (Bool × Bool)) :=
  (x_condition.f_field).bind fun a_227 =>
  if (!decide (a_227 = x_self.field)) = true then
  some none
  else
  if ((decide (x_self.lack = ("all" : Str))) || (x_condition.is_Has)) = true then
  some (some (F_outcomes_of_lack x_self.lack))
  else
  (mapO (fun (x_231 : Val) => ((F_value_passes x_231 x_condition).bind fun r_234 =>
  some r_234 : Option Bool)) x_self.choices).bind fun l_236 =>
  some (some ((memW PyData.bool true l_236), ((memW PyData.bool false l_236) || (decide (x_self.lack = ("some" : Str))))))
def A_outcomes_on_field_2 (x : Fa) (z0 : Cond) : Option (Option (Bool × Bool)) := match x with
  | .range y => F_Range_outcomes y z0
  | .values y => F_Values_outcomes y z0
  | .norms y => some (F_Fact_outcomes () z0)
  | .names y => some (F_Fact_outcomes () z0)
  | .box y => some (F_Fact_outcomes () z0)
def F_outcomes_on_field (x_condition : Cond) (x_facts : (List Fa)) : Option (Bool × Bool) :=
  (mapO (fun (x_247 : Fa) => ((A_outcomes_on_field_2 x_247 x_condition).bind fun r_250 =>
  some r_250 : Option (Option (Bool × Bool)))) x_facts).bind fun l_252 =>
  (fmO (fun (x_256 : (Option (Bool × Bool))) => (if x_256.isSome = true then ((x_256).bind fun u_259 =>
  some (some u_259)) else some none : Option (Option (Bool × Bool)))) l_252).bind fun l_261 =>
  some (((l_261.map (fun (x_265 : (Bool × Bool)) => x_265.1)).all id), ((l_261.map (fun (x_273 : (Bool × Bool)) => x_273.2)).all id))
structure Grp1 where
  h_can_pass : Cond → (List Fa) → Option (Bool × Bool)
def S_can_pass (g : Grp1) (x_condition : Cond) (x_facts : (List Fa)) : Option (Bool × Bool) :=
  if (x_condition.is_Negation) = true then
  (x_condition.p_neg).bind fun u_282 =>
  ((g.h_can_pass) u_282.a x_facts).bind fun r_284 =>
  some (r_284.2, r_284.1)
  else
  if (x_condition.is_Both) = true then
  (x_condition.p_both).bind fun u_293 =>
  ((g.h_can_pass) u_293.a x_facts).bind fun r_295 =>
  (x_condition.p_both).bind fun u_297 =>
  ((g.h_can_pass) u_297.b x_facts).bind fun r_299 =>
  some ((((r_295, r_299).1).1 && ((r_295, r_299).2).1), (((r_295, r_299).1).2 || ((r_295, r_299).2).2))
  else
  if (x_condition.is_Either) = true then
  (x_condition.p_either).bind fun u_318 =>
  ((g.h_can_pass) u_318.a x_facts).bind fun r_320 =>
  (x_condition.p_either).bind fun u_322 =>
  ((g.h_can_pass) u_322.b x_facts).bind fun r_324 =>
  some ((((r_320, r_324).1).1 || ((r_320, r_324).2).1), (((r_320, r_324).1).2 && ((r_320, r_324).2).2))
  else
  if (x_condition.is_Has || (x_condition.is_Compare || (x_condition.is_OneOf || false))) = true then
  (F_outcomes_on_field x_condition x_facts).bind fun r_343 =>
  some r_343
  else
  some (true, false)
def grp1 : Nat → Grp1
  | 0 => ⟨fun _ _ => none⟩
  | n + 1 => ⟨S_can_pass (grp1 n)⟩
def F_can_pass (x_condition : Cond) (x_facts : (List Fa)) : Option (Bool × Bool) := (grp1 5).h_can_pass x_condition x_facts
def F_law_field_fact (ds : DS) : Option (FT × DS) :=
  (atI ([("nobody" : Str), ("some" : Str), ("all" : Str)] : List Str) (nxV ds (3 : Int))).bind fun i_355 =>
  if (decide ((nxV (nxS ds (3 : Int)) (2 : Int)) = (0 : Int))) = true then
  (some ((nxV (nxS (nxS ds (3 : Int)) (2 : Int)) (9 : Int)) - (4 : Int))).bind fun x_low_360 =>
  some ((FT.k_range ("n" : Str) x_low_360 (x_low_360 + (nxV (nxS (nxS (nxS ds (3 : Int)) (2 : Int)) (9 : Int)) (5 : Int))) i_355), (nxS (nxS (nxS (nxS ds (3 : Int)) (2 : Int)) (9 : Int)) (5 : Int)))
  else
  if (decide ((nxV (nxS (nxS ds (3 : Int)) (2 : Int)) (2 : Int)) = (0 : Int))) = true then
  ((mapO (fun x : Str => some (Val.s x))) (cutA ([("red" : Str), ("blue" : Str), ("ash" : Str), ("" : Str)] : List Str) none (some (nxV (nxS (nxS (nxS ds (3 : Int)) (2 : Int)) (2 : Int)) (5 : Int))))).bind fun u_365 =>
  some ((FT.k_values ("t" : Str) u_365 i_355), (nxS (nxS (nxS (nxS ds (3 : Int)) (2 : Int)) (2 : Int)) (5 : Int)))
  else
  ((mapO (fun x : Bool => some (Val.b x))) (cutA ([true, false] : List Bool) none (some ((1 : Int) + (nxV (nxS (nxS (nxS ds (3 : Int)) (2 : Int)) (2 : Int)) (2 : Int)))))).bind fun u_367 =>
  some ((FT.k_values ("f" : Str) u_367 i_355), (nxS (nxS (nxS (nxS ds (3 : Int)) (2 : Int)) (2 : Int)) (2 : Int)))
def F_Names___init__ (x_low : Str) (x_high : Str) : Names :=
  (⟨x_low, x_high⟩ : Names)
def F_Box___init__ (x_low : (List Int)) (x_high : (List Int)) : Box :=
  (⟨x_low, x_high⟩ : Box)
def F_Norms___init__ (x_low : Int) (x_high : Int) : Norms :=
  (⟨x_low, x_high⟩ : Norms)
def F_Range___init__ (x_field : Str) (x_low : Int) (x_high : Int) (x_lack : Str) : Range :=
  (⟨x_field, x_low, x_high, x_lack⟩ : Range)
def F_Values___init__ (x_field : Str) (x_choices : (List Val)) (x_lack : Str) : Values :=
  (⟨x_field, x_choices, x_lack⟩ : Values)
def F_law_made (x_fact : FT) : Option Fa :=
  if (decide (x_fact.tag = ("parts" : Str))) = true then
  none
  else
  if (decide (x_fact.tag = ("cell" : Str))) = true then
  none
  else
  if (decide (x_fact.tag = ("box" : Str))) = true then
  none
  else
  if (decide (x_fact.tag = ("norms" : Str))) = true then
  none
  else
  if (decide (x_fact.tag = ("differ" : Str))) = true then
  none
  else
  if (decide (x_fact.tag = ("range" : Str))) = true then
  (x_fact.s_0).bind fun a_402 =>
  (x_fact.s_1).bind fun a_404 =>
  (x_fact.s_2).bind fun a_406 =>
  (x_fact.s_3).bind fun a_408 =>
  some (Fa.range (F_Range___init__ a_402 a_404 a_406 a_408))
  else
  if (decide (x_fact.tag = ("values" : Str))) = true then
  (x_fact.s_0).bind fun a_411 =>
  (x_fact.s_4).bind fun a_415 =>
  (x_fact.s_5).bind fun a_417 =>
  some (Fa.values (F_Values___init__ a_411 a_415 a_417))
  else
  if (decide (x_fact.tag = ("counts" : Str))) = true then
  none
  else
  none
def F_Either___init__ (x_a : Cond) (x_b : Cond) : Either :=
  (⟨x_a, x_b⟩ : Either)
def F_Has___init__ (x_field : Str) : Has :=
  (⟨x_field⟩ : Has)
def F_Compare___init__ (x_field : Str) (x_sign : Str) (x_value : Val) : Compare :=
  (⟨x_field, x_sign, x_value⟩ : Compare)
def F_OneOf___init__ (x_field : Str) (x_choices : (List Val)) : OneOf :=
  (⟨x_field, x_choices⟩ : OneOf)
def F_Negation___init__ (x_a : Cond) : Negation :=
  (⟨x_a⟩ : Negation)
def F_Both___init__ (x_a : Cond) (x_b : Cond) : Both :=
  (⟨x_a, x_b⟩ : Both)
structure Grp2 where
  h_law_built : Tree → Option Cond
def S_law_built (g : Grp2) (x_tree : Tree) : Option Cond :=
  if (decide (x_tree.tag = ("every" : Str))) = true then
  some (Cond.every (⟨⟩ : Every))
  else
  if (decide (x_tree.tag = ("has" : Str))) = true then
  (x_tree.s_6).bind fun a_444 =>
  some (Cond.has (F_Has___init__ a_444))
  else
  if (decide (x_tree.tag = ("compare" : Str))) = true then
  (x_tree.s_6).bind fun a_447 =>
  (x_tree.s_7).bind fun a_449 =>
  (x_tree.s_8).bind fun a_451 =>
  some (Cond.compare (F_Compare___init__ a_447 a_449 a_451))
  else
  if (decide (x_tree.tag = ("in" : Str))) = true then
  (x_tree.s_6).bind fun a_454 =>
  (x_tree.s_9).bind fun a_458 =>
  some (Cond.one (F_OneOf___init__ a_454 a_458))
  else
  if (decide (x_tree.tag = ("not" : Str))) = true then
  (x_tree.s_10).bind fun a_461 =>
  ((g.h_law_built) a_461).bind fun r_463 =>
  some (Cond.neg (F_Negation___init__ r_463))
  else
  if (decide (x_tree.tag = ("and" : Str))) = true then
  (x_tree.s_10).bind fun a_466 =>
  ((g.h_law_built) a_466).bind fun r_468 =>
  (x_tree.s_11).bind fun a_470 =>
  ((g.h_law_built) a_470).bind fun r_472 =>
  some (Cond.both (F_Both___init__ r_468 r_472))
  else
  (x_tree.s_10).bind fun a_474 =>
  ((g.h_law_built) a_474).bind fun r_476 =>
  (x_tree.s_11).bind fun a_478 =>
  ((g.h_law_built) a_478).bind fun r_480 =>
  some (Cond.either (F_Either___init__ r_476 r_480))
def grp2 : Nat → Grp2
  | 0 => ⟨fun _ => none⟩
  | n + 1 => ⟨S_law_built (grp2 n)⟩
def F_law_built (x_tree : Tree) : Option Cond := (grp2 5).h_law_built x_tree
def F_law_compares (x_sign : Str) (x_a : Val) (x_b : Val) : Option Bool :=
  if (decide (x_sign = ("=" : Str))) = true then
  some (PyData.eqv (d_Val x_a) (d_Val x_b))
  else
  if (decide (x_sign = ("!=" : Str))) = true then
  some (!(PyData.eqv (d_Val x_a) (d_Val x_b)))
  else
  if (decide (x_sign = ("<" : Str))) = true then
  if sameB (x_a.toV) (x_b.toV) = true then
  some (ltV x_a.toV x_b.toV) else none
  else
  if (decide (x_sign = ("<=" : Str))) = true then
  if sameB (x_a.toV) (x_b.toV) = true then
  some (!ltV x_b.toV x_a.toV) else none
  else
  if (decide (x_sign = (">" : Str))) = true then
  if sameB (x_b.toV) (x_a.toV) = true then
  some (ltV x_b.toV x_a.toV) else none
  else
  if sameB (x_b.toV) (x_a.toV) = true then
  some (!ltV x_a.toV x_b.toV) else none
def F_law_worth_passes (x_tree : Tree) (x_worth : Val) : Option Bool :=
  if (decide (x_tree.tag = ("in" : Str))) = true then
  (x_tree.s_9).bind fun a_499 =>
  some (memW d_Val x_worth a_499)
  else
  (x_tree.s_7).bind fun a_501 =>
  (x_tree.s_8).bind fun a_503 =>
  (F_law_compares a_501 x_worth a_503).bind fun r_505 =>
  some r_505
def F_law_outcomes (x_fact : FT) (x_tree : Tree) : Option (Option (Bool × Bool)) :=
  (x_tree.s_6).bind fun a_523 =>
  (x_fact.s_0).bind fun a_525 =>
  if (!decide (a_523 = a_525)) = true then
  some none
  else
  (x_fact.at_0 (x_fact.size - (1 : Int))).bind fun a_528 =>
  if (decide (a_528 = ("all" : Str))) = true then
  some (some (false, true))
  else
  if (decide (x_tree.tag = ("has" : Str))) = true then
  some (some (true, (decide (a_528 = ("some" : Str)))))
  else
  (x_fact.w_0).bind fun a_534 =>
  (if (decide (x_fact.tag = ("range" : Str))) = true then
  (x_fact.s_1).bind fun a_549 =>
  (x_fact.s_2).bind fun a_553 =>
  if RangeOk a_549 (a_553 + (1 : Int)) then
  ((fun x : (List Int) => ((mapO (fun x : Int => some (Val.i x))) x).map W.l) (rangeZ a_549 (a_553 + (1 : Int)))).bind fun u_556 =>
  some u_556 else none
  else
  some a_534 : Option W).bind fun w_540 =>
  (w_540.p_l).bind fun u_562 =>
  (fmO (fun (x_564 : Val) => ((F_law_worth_passes x_tree x_564).bind fun r_567 =>
  if r_567 = true then (some (some x_564)) else some none : Option (Option Val))) u_562).bind fun l_569 =>
  (w_540.p_l).bind fun u_575 =>
  (fmO (fun (x_577 : Val) => ((F_law_worth_passes x_tree x_577).bind fun r_580 =>
  if (!r_580) = true then (some (some x_577)) else some none : Option (Option Val))) u_575).bind fun l_582 =>
  (some ((decide ((0 : Int) < (l_582.length : Int))) || ((decide (a_528 = ("some" : Str))) || ((decide (x_fact.tag = ("range" : Str))) && (decide (x_tree.tag = ("in" : Str))))))).bind fun x_fails_586 =>
  some (some ((decide ((0 : Int) < (l_569.length : Int))), x_fails_586))
structure Grp3 where
  h_law_due : Tree → (List FT) → Option (Bool × Bool)
def L_law_due_1 (g : Grp3) (x_tree : Tree) (x_621 : FT) (w_620 : (Bool × Bool)) : Option (Bool × Bool) :=
  (F_law_outcomes x_621 x_tree).bind fun r_651 =>
  if r_651.isSome = true then
  (if w_620.1 = true then ((r_651).bind fun u_656 =>
  some u_656.1) else some false).bind fun b_659 =>
  (if w_620.2 = true then ((r_651).bind fun u_662 =>
  some u_662.2) else some false).bind fun b_665 =>
  some (b_659, b_665)
  else
  some (w_620.1, w_620.2)
def S_law_due (g : Grp3) (x_tree : Tree) (x_facts : (List FT)) : Option (Bool × Bool) :=
  if (decide (x_tree.tag = ("every" : Str))) = true then
  some (true, false)
  else
  if (decide (x_tree.tag = ("not" : Str))) = true then
  (x_tree.s_10).bind fun a_592 =>
  ((g.h_law_due) a_592 x_facts).bind fun r_594 =>
  some (r_594.2, r_594.1)
  else
  if (decide (x_tree.tag ∈ ([("and" : Str), ("or" : Str)] : List Str))) = true then
  (x_tree.s_10).bind fun a_603 =>
  ((g.h_law_due) a_603 x_facts).bind fun r_605 =>
  (x_tree.s_11).bind fun a_609 =>
  ((g.h_law_due) a_609 x_facts).bind fun r_611 =>
  if (decide (x_tree.tag = ("and" : Str))) = true then
  some ((r_605.1 && r_611.1), (r_605.2 || r_611.2))
  else
  some ((r_605.1 || r_611.1), (r_605.2 && r_611.2))
  else
  (forF ((L_law_due_1 g) x_tree) x_facts (true, true)).bind fun w_637 =>
  some (w_637.1, w_637.2)
def grp3 : Nat → Grp3
  | 0 => ⟨fun _ _ => none⟩
  | n + 1 => ⟨S_law_due (grp3 n)⟩
def F_law_due (x_tree : Tree) (x_facts : (List FT)) : Option (Bool × Bool) := (grp3 5).h_law_due x_tree x_facts
def L_law_1 (x_671 : Int) (w_670 : DS) : Option (Flow Bool DS) :=
  if RangeOk 0 (nxV w_670 (5 : Int)) then
  (mapS (fun (x_698 : Int) (s_699 : DS) => ((F_law_field_fact s_699).bind fun r_702 =>
  some (r_702.1, r_702.2) : Option (FT × DS))) (rangeZ 0 (nxV w_670 (5 : Int))) (nxS w_670 (5 : Int))).bind fun l_704 =>
  (F_law_tree (nxS l_704.2 (3 : Int)) ((1 : Int) + (nxV l_704.2 (3 : Int)))).bind fun r_708 =>
  (mapO (fun (x_712 : FT) => ((F_law_made x_712).bind fun r_716 =>
  some r_716 : Option Fa)) l_704.1).bind fun l_718 =>
  (if (decide ((nxV r_708.2 (2 : Int)) = (0 : Int))) = true then
  if ([(Fa.norms (F_Norms___init__ (0 : Int) (1 : Int)))] : List Fa).length + l_718.length ≤ 16777216 then
  if (([(Fa.norms (F_Norms___init__ (0 : Int) (1 : Int)))] : List Fa) ++ l_718).length + ([(Fa.names (F_Names___init__ ("a" : Str) ("b" : Str))), (Fa.box (F_Box___init__ ([(0 : Int)] : List Int) ([(1 : Int)] : List Int)))] : List Fa).length ≤ 16777216 then
  (some ((([(Fa.norms (F_Norms___init__ (0 : Int) (1 : Int)))] : List Fa) ++ l_718) ++ ([(Fa.names (F_Names___init__ ("a" : Str) ("b" : Str))), (Fa.box (F_Box___init__ ([(0 : Int)] : List Int) ([(1 : Int)] : List Int)))] : List Fa))).bind fun x_made_738 =>
  some x_made_738 else none else none
  else
  some l_718 : Option (List Fa)).bind fun w_724 =>
  (F_law_built r_708.1).bind fun r_742 =>
  (F_can_pass r_742 w_724).bind fun r_744 =>
  (if (!true) = true then some true else ((F_law_due r_708.1 l_704.1).bind fun r_748 =>
  some (!decide (r_744 = r_748)))).bind fun b_751 =>
  if b_751 = true then
  some (Flow.ret false)
  else
  some (Flow.go (nxS r_708.2 (2 : Int))) else none
def F_law (ns : List Int) : Option Bool :=
  (forS L_law_1 (rangeZ 0 (4 : Int)) (DS.mk ns 0 0)).bind (Flow.thn (fun w_685 =>
  some true) (fun r => some r))
-- MATH BEGINS
def LACK : List Str := ["nobody", "some", "all"]
def SIGN : List Str := ["=", "!=", "<", "<=", ">", ">="]
/-- a value that the field may have -/
def KOk (f : Str) : Val → Prop
  | .i _ => f = "n"
  | .s _ => f = "t"
  | .b _ => f = "f"
theorem nt : ¬ ("n" : Str) = "t" := by decide +kernel
theorem nf : ¬ ("n" : Str) = "f" := by decide +kernel
theorem tf : ¬ ("t" : Str) = "f" := by decide +kernel
def OkF : FT → Prop
  | .k_range f lo hi l => f = "n" ∧ (lo ≤ hi ∧ -100 ≤ lo ∧ hi ≤ 100) ∧ l ∈ LACK
  | .k_values f vs l => (∀ v ∈ vs, KOk f v) ∧ l ∈ LACK
def OkT : Tree → Prop
  | .k_every => True
  | .k_has _ => True
  | .k_in f vs => ∀ v ∈ vs, KOk f v
  | .k_compare f sg v => sg ∈ SIGN ∧ KOk f v
  | .k_not a => OkT a
  | .k_and a b => OkT a ∧ OkT b
  | .k_or a b => OkT a ∧ OkT b
def depT : Tree → Nat
  | .k_not a => depT a + 1
  | .k_and a b => max (depT a) (depT b) + 1
  | .k_or a b => max (depT a) (depT b) + 1
  | _ => 0
def B : Tree → Cond
  | .k_every => .every ⟨⟩
  | .k_has f => .has ⟨f⟩
  | .k_in f vs => .one ⟨f, vs⟩
  | .k_compare f sg v => .compare ⟨f, sg, v⟩
  | .k_not a => .neg ⟨B a⟩
  | .k_and a b => .both ⟨B a, B b⟩
  | .k_or a b => .either ⟨B a, B b⟩
def MkF : FT → Fa
  | .k_range f lo hi l => .range ⟨f, lo, hi, l⟩
  | .k_values f vs l => .values ⟨f, vs, l⟩
theorem made_eq (F : FT) : F_law_made F = some (MkF F) := by
  cases F <;> simp only [F_law_made, decide_true, decide_false, Bool.false_eq_true, if_true, if_false, TP.bsome, TP.bnone, eq_self, FT.tag_range, FT.s_0_range, FT.s_1_range, FT.s_2_range, FT.s_3_range, FT.s_4_range, FT.s_5_range, FT.tag_values, FT.s_0_values, FT.s_1_values, FT.s_2_values, FT.s_3_values, FT.s_4_values, FT.s_5_values, FT.ne_range_values, FT.ne_range_parts, FT.ne_range_cell, FT.ne_range_box, FT.ne_range_norms, FT.ne_range_differ, FT.ne_range_counts, FT.ne_values_range, FT.ne_values_parts, FT.ne_values_cell, FT.ne_values_box, FT.ne_values_norms, FT.ne_values_differ, FT.ne_values_counts, FT.ne_parts_range, FT.ne_parts_values, FT.ne_parts_cell, FT.ne_parts_box, FT.ne_parts_norms, FT.ne_parts_differ, FT.ne_parts_counts, FT.ne_cell_range, FT.ne_cell_values, FT.ne_cell_parts, FT.ne_cell_box, FT.ne_cell_norms, FT.ne_cell_differ, FT.ne_cell_counts, FT.ne_box_range, FT.ne_box_values, FT.ne_box_parts, FT.ne_box_cell, FT.ne_box_norms, FT.ne_box_differ, FT.ne_box_counts, FT.ne_norms_range, FT.ne_norms_values, FT.ne_norms_parts, FT.ne_norms_cell, FT.ne_norms_box, FT.ne_norms_differ, FT.ne_norms_counts, FT.ne_differ_range, FT.ne_differ_values, FT.ne_differ_parts, FT.ne_differ_cell, FT.ne_differ_box, FT.ne_differ_norms, FT.ne_differ_counts, FT.ne_counts_range, FT.ne_counts_values, FT.ne_counts_parts, FT.ne_counts_cell, FT.ne_counts_box, FT.ne_counts_norms, FT.ne_counts_differ] <;> rfl
theorem built_eq : ∀ (n : Nat) (t : Tree), depT t < n → (grp2 n).h_law_built t = some (B t)
  | 0, _, h => absurd h (Nat.not_lt_zero _)
  | n + 1, t, h => by
    show S_law_built (grp2 n) t = _
    have ih := built_eq n
    cases t with
    | k_every => simp only [S_law_built, decide_true, decide_false, Bool.false_eq_true, if_true, if_false, TP.bsome, TP.bnone, eq_self, Tree.tag_every, Tree.s_6_every, Tree.s_7_every, Tree.s_8_every, Tree.s_9_every, Tree.s_10_every, Tree.s_11_every, Tree.tag_has, Tree.s_6_has, Tree.s_7_has, Tree.s_8_has, Tree.s_9_has, Tree.s_10_has, Tree.s_11_has, Tree.tag_in, Tree.s_6_in, Tree.s_7_in, Tree.s_8_in, Tree.s_9_in, Tree.s_10_in, Tree.s_11_in, Tree.tag_compare, Tree.s_6_compare, Tree.s_7_compare, Tree.s_8_compare, Tree.s_9_compare, Tree.s_10_compare, Tree.s_11_compare, Tree.tag_not, Tree.s_6_not, Tree.s_7_not, Tree.s_8_not, Tree.s_9_not, Tree.s_10_not, Tree.s_11_not, Tree.tag_and, Tree.s_6_and, Tree.s_7_and, Tree.s_8_and, Tree.s_9_and, Tree.s_10_and, Tree.s_11_and, Tree.tag_or, Tree.s_6_or, Tree.s_7_or, Tree.s_8_or, Tree.s_9_or, Tree.s_10_or, Tree.s_11_or, Tree.ne_every_has, Tree.ne_every_in, Tree.ne_every_compare, Tree.ne_every_not, Tree.ne_every_and, Tree.ne_every_or, Tree.ne_every_parts, Tree.ne_every_cell, Tree.ne_every_box, Tree.ne_every_norms, Tree.ne_every_differ, Tree.ne_every_counts, Tree.ne_has_every, Tree.ne_has_in, Tree.ne_has_compare, Tree.ne_has_not, Tree.ne_has_and, Tree.ne_has_or, Tree.ne_has_parts, Tree.ne_has_cell, Tree.ne_has_box, Tree.ne_has_norms, Tree.ne_has_differ, Tree.ne_has_counts, Tree.ne_in_every, Tree.ne_in_has, Tree.ne_in_compare, Tree.ne_in_not, Tree.ne_in_and, Tree.ne_in_or, Tree.ne_in_parts, Tree.ne_in_cell, Tree.ne_in_box, Tree.ne_in_norms, Tree.ne_in_differ, Tree.ne_in_counts, Tree.ne_compare_every, Tree.ne_compare_has, Tree.ne_compare_in, Tree.ne_compare_not, Tree.ne_compare_and, Tree.ne_compare_or, Tree.ne_compare_parts, Tree.ne_compare_cell, Tree.ne_compare_box, Tree.ne_compare_norms, Tree.ne_compare_differ, Tree.ne_compare_counts, Tree.ne_not_every, Tree.ne_not_has, Tree.ne_not_in, Tree.ne_not_compare, Tree.ne_not_and, Tree.ne_not_or, Tree.ne_not_parts, Tree.ne_not_cell, Tree.ne_not_box, Tree.ne_not_norms, Tree.ne_not_differ, Tree.ne_not_counts, Tree.ne_and_every, Tree.ne_and_has, Tree.ne_and_in, Tree.ne_and_compare, Tree.ne_and_not, Tree.ne_and_or, Tree.ne_and_parts, Tree.ne_and_cell, Tree.ne_and_box, Tree.ne_and_norms, Tree.ne_and_differ, Tree.ne_and_counts, Tree.ne_or_every, Tree.ne_or_has, Tree.ne_or_in, Tree.ne_or_compare, Tree.ne_or_not, Tree.ne_or_and, Tree.ne_or_parts, Tree.ne_or_cell, Tree.ne_or_box, Tree.ne_or_norms, Tree.ne_or_differ, Tree.ne_or_counts, Tree.ne_parts_every, Tree.ne_parts_has, Tree.ne_parts_in, Tree.ne_parts_compare, Tree.ne_parts_not, Tree.ne_parts_and, Tree.ne_parts_or, Tree.ne_parts_cell, Tree.ne_parts_box, Tree.ne_parts_norms, Tree.ne_parts_differ, Tree.ne_parts_counts, Tree.ne_cell_every, Tree.ne_cell_has, Tree.ne_cell_in, Tree.ne_cell_compare, Tree.ne_cell_not, Tree.ne_cell_and, Tree.ne_cell_or, Tree.ne_cell_parts, Tree.ne_cell_box, Tree.ne_cell_norms, Tree.ne_cell_differ, Tree.ne_cell_counts, Tree.ne_box_every, Tree.ne_box_has, Tree.ne_box_in, Tree.ne_box_compare, Tree.ne_box_not, Tree.ne_box_and, Tree.ne_box_or, Tree.ne_box_parts, Tree.ne_box_cell, Tree.ne_box_norms, Tree.ne_box_differ, Tree.ne_box_counts, Tree.ne_norms_every, Tree.ne_norms_has, Tree.ne_norms_in, Tree.ne_norms_compare, Tree.ne_norms_not, Tree.ne_norms_and, Tree.ne_norms_or, Tree.ne_norms_parts, Tree.ne_norms_cell, Tree.ne_norms_box, Tree.ne_norms_differ, Tree.ne_norms_counts, Tree.ne_differ_every, Tree.ne_differ_has, Tree.ne_differ_in, Tree.ne_differ_compare, Tree.ne_differ_not, Tree.ne_differ_and, Tree.ne_differ_or, Tree.ne_differ_parts, Tree.ne_differ_cell, Tree.ne_differ_box, Tree.ne_differ_norms, Tree.ne_differ_counts, Tree.ne_counts_every, Tree.ne_counts_has, Tree.ne_counts_in, Tree.ne_counts_compare, Tree.ne_counts_not, Tree.ne_counts_and, Tree.ne_counts_or, Tree.ne_counts_parts, Tree.ne_counts_cell, Tree.ne_counts_box, Tree.ne_counts_norms, Tree.ne_counts_differ]; rfl
    | k_has f => simp only [S_law_built, decide_true, decide_false, Bool.false_eq_true, if_true, if_false, TP.bsome, TP.bnone, eq_self, Tree.tag_every, Tree.s_6_every, Tree.s_7_every, Tree.s_8_every, Tree.s_9_every, Tree.s_10_every, Tree.s_11_every, Tree.tag_has, Tree.s_6_has, Tree.s_7_has, Tree.s_8_has, Tree.s_9_has, Tree.s_10_has, Tree.s_11_has, Tree.tag_in, Tree.s_6_in, Tree.s_7_in, Tree.s_8_in, Tree.s_9_in, Tree.s_10_in, Tree.s_11_in, Tree.tag_compare, Tree.s_6_compare, Tree.s_7_compare, Tree.s_8_compare, Tree.s_9_compare, Tree.s_10_compare, Tree.s_11_compare, Tree.tag_not, Tree.s_6_not, Tree.s_7_not, Tree.s_8_not, Tree.s_9_not, Tree.s_10_not, Tree.s_11_not, Tree.tag_and, Tree.s_6_and, Tree.s_7_and, Tree.s_8_and, Tree.s_9_and, Tree.s_10_and, Tree.s_11_and, Tree.tag_or, Tree.s_6_or, Tree.s_7_or, Tree.s_8_or, Tree.s_9_or, Tree.s_10_or, Tree.s_11_or, Tree.ne_every_has, Tree.ne_every_in, Tree.ne_every_compare, Tree.ne_every_not, Tree.ne_every_and, Tree.ne_every_or, Tree.ne_every_parts, Tree.ne_every_cell, Tree.ne_every_box, Tree.ne_every_norms, Tree.ne_every_differ, Tree.ne_every_counts, Tree.ne_has_every, Tree.ne_has_in, Tree.ne_has_compare, Tree.ne_has_not, Tree.ne_has_and, Tree.ne_has_or, Tree.ne_has_parts, Tree.ne_has_cell, Tree.ne_has_box, Tree.ne_has_norms, Tree.ne_has_differ, Tree.ne_has_counts, Tree.ne_in_every, Tree.ne_in_has, Tree.ne_in_compare, Tree.ne_in_not, Tree.ne_in_and, Tree.ne_in_or, Tree.ne_in_parts, Tree.ne_in_cell, Tree.ne_in_box, Tree.ne_in_norms, Tree.ne_in_differ, Tree.ne_in_counts, Tree.ne_compare_every, Tree.ne_compare_has, Tree.ne_compare_in, Tree.ne_compare_not, Tree.ne_compare_and, Tree.ne_compare_or, Tree.ne_compare_parts, Tree.ne_compare_cell, Tree.ne_compare_box, Tree.ne_compare_norms, Tree.ne_compare_differ, Tree.ne_compare_counts, Tree.ne_not_every, Tree.ne_not_has, Tree.ne_not_in, Tree.ne_not_compare, Tree.ne_not_and, Tree.ne_not_or, Tree.ne_not_parts, Tree.ne_not_cell, Tree.ne_not_box, Tree.ne_not_norms, Tree.ne_not_differ, Tree.ne_not_counts, Tree.ne_and_every, Tree.ne_and_has, Tree.ne_and_in, Tree.ne_and_compare, Tree.ne_and_not, Tree.ne_and_or, Tree.ne_and_parts, Tree.ne_and_cell, Tree.ne_and_box, Tree.ne_and_norms, Tree.ne_and_differ, Tree.ne_and_counts, Tree.ne_or_every, Tree.ne_or_has, Tree.ne_or_in, Tree.ne_or_compare, Tree.ne_or_not, Tree.ne_or_and, Tree.ne_or_parts, Tree.ne_or_cell, Tree.ne_or_box, Tree.ne_or_norms, Tree.ne_or_differ, Tree.ne_or_counts, Tree.ne_parts_every, Tree.ne_parts_has, Tree.ne_parts_in, Tree.ne_parts_compare, Tree.ne_parts_not, Tree.ne_parts_and, Tree.ne_parts_or, Tree.ne_parts_cell, Tree.ne_parts_box, Tree.ne_parts_norms, Tree.ne_parts_differ, Tree.ne_parts_counts, Tree.ne_cell_every, Tree.ne_cell_has, Tree.ne_cell_in, Tree.ne_cell_compare, Tree.ne_cell_not, Tree.ne_cell_and, Tree.ne_cell_or, Tree.ne_cell_parts, Tree.ne_cell_box, Tree.ne_cell_norms, Tree.ne_cell_differ, Tree.ne_cell_counts, Tree.ne_box_every, Tree.ne_box_has, Tree.ne_box_in, Tree.ne_box_compare, Tree.ne_box_not, Tree.ne_box_and, Tree.ne_box_or, Tree.ne_box_parts, Tree.ne_box_cell, Tree.ne_box_norms, Tree.ne_box_differ, Tree.ne_box_counts, Tree.ne_norms_every, Tree.ne_norms_has, Tree.ne_norms_in, Tree.ne_norms_compare, Tree.ne_norms_not, Tree.ne_norms_and, Tree.ne_norms_or, Tree.ne_norms_parts, Tree.ne_norms_cell, Tree.ne_norms_box, Tree.ne_norms_differ, Tree.ne_norms_counts, Tree.ne_differ_every, Tree.ne_differ_has, Tree.ne_differ_in, Tree.ne_differ_compare, Tree.ne_differ_not, Tree.ne_differ_and, Tree.ne_differ_or, Tree.ne_differ_parts, Tree.ne_differ_cell, Tree.ne_differ_box, Tree.ne_differ_norms, Tree.ne_differ_counts, Tree.ne_counts_every, Tree.ne_counts_has, Tree.ne_counts_in, Tree.ne_counts_compare, Tree.ne_counts_not, Tree.ne_counts_and, Tree.ne_counts_or, Tree.ne_counts_parts, Tree.ne_counts_cell, Tree.ne_counts_box, Tree.ne_counts_norms, Tree.ne_counts_differ]; rfl
    | k_in f vs => simp only [S_law_built, decide_true, decide_false, Bool.false_eq_true, if_true, if_false, TP.bsome, TP.bnone, eq_self, Tree.tag_every, Tree.s_6_every, Tree.s_7_every, Tree.s_8_every, Tree.s_9_every, Tree.s_10_every, Tree.s_11_every, Tree.tag_has, Tree.s_6_has, Tree.s_7_has, Tree.s_8_has, Tree.s_9_has, Tree.s_10_has, Tree.s_11_has, Tree.tag_in, Tree.s_6_in, Tree.s_7_in, Tree.s_8_in, Tree.s_9_in, Tree.s_10_in, Tree.s_11_in, Tree.tag_compare, Tree.s_6_compare, Tree.s_7_compare, Tree.s_8_compare, Tree.s_9_compare, Tree.s_10_compare, Tree.s_11_compare, Tree.tag_not, Tree.s_6_not, Tree.s_7_not, Tree.s_8_not, Tree.s_9_not, Tree.s_10_not, Tree.s_11_not, Tree.tag_and, Tree.s_6_and, Tree.s_7_and, Tree.s_8_and, Tree.s_9_and, Tree.s_10_and, Tree.s_11_and, Tree.tag_or, Tree.s_6_or, Tree.s_7_or, Tree.s_8_or, Tree.s_9_or, Tree.s_10_or, Tree.s_11_or, Tree.ne_every_has, Tree.ne_every_in, Tree.ne_every_compare, Tree.ne_every_not, Tree.ne_every_and, Tree.ne_every_or, Tree.ne_every_parts, Tree.ne_every_cell, Tree.ne_every_box, Tree.ne_every_norms, Tree.ne_every_differ, Tree.ne_every_counts, Tree.ne_has_every, Tree.ne_has_in, Tree.ne_has_compare, Tree.ne_has_not, Tree.ne_has_and, Tree.ne_has_or, Tree.ne_has_parts, Tree.ne_has_cell, Tree.ne_has_box, Tree.ne_has_norms, Tree.ne_has_differ, Tree.ne_has_counts, Tree.ne_in_every, Tree.ne_in_has, Tree.ne_in_compare, Tree.ne_in_not, Tree.ne_in_and, Tree.ne_in_or, Tree.ne_in_parts, Tree.ne_in_cell, Tree.ne_in_box, Tree.ne_in_norms, Tree.ne_in_differ, Tree.ne_in_counts, Tree.ne_compare_every, Tree.ne_compare_has, Tree.ne_compare_in, Tree.ne_compare_not, Tree.ne_compare_and, Tree.ne_compare_or, Tree.ne_compare_parts, Tree.ne_compare_cell, Tree.ne_compare_box, Tree.ne_compare_norms, Tree.ne_compare_differ, Tree.ne_compare_counts, Tree.ne_not_every, Tree.ne_not_has, Tree.ne_not_in, Tree.ne_not_compare, Tree.ne_not_and, Tree.ne_not_or, Tree.ne_not_parts, Tree.ne_not_cell, Tree.ne_not_box, Tree.ne_not_norms, Tree.ne_not_differ, Tree.ne_not_counts, Tree.ne_and_every, Tree.ne_and_has, Tree.ne_and_in, Tree.ne_and_compare, Tree.ne_and_not, Tree.ne_and_or, Tree.ne_and_parts, Tree.ne_and_cell, Tree.ne_and_box, Tree.ne_and_norms, Tree.ne_and_differ, Tree.ne_and_counts, Tree.ne_or_every, Tree.ne_or_has, Tree.ne_or_in, Tree.ne_or_compare, Tree.ne_or_not, Tree.ne_or_and, Tree.ne_or_parts, Tree.ne_or_cell, Tree.ne_or_box, Tree.ne_or_norms, Tree.ne_or_differ, Tree.ne_or_counts, Tree.ne_parts_every, Tree.ne_parts_has, Tree.ne_parts_in, Tree.ne_parts_compare, Tree.ne_parts_not, Tree.ne_parts_and, Tree.ne_parts_or, Tree.ne_parts_cell, Tree.ne_parts_box, Tree.ne_parts_norms, Tree.ne_parts_differ, Tree.ne_parts_counts, Tree.ne_cell_every, Tree.ne_cell_has, Tree.ne_cell_in, Tree.ne_cell_compare, Tree.ne_cell_not, Tree.ne_cell_and, Tree.ne_cell_or, Tree.ne_cell_parts, Tree.ne_cell_box, Tree.ne_cell_norms, Tree.ne_cell_differ, Tree.ne_cell_counts, Tree.ne_box_every, Tree.ne_box_has, Tree.ne_box_in, Tree.ne_box_compare, Tree.ne_box_not, Tree.ne_box_and, Tree.ne_box_or, Tree.ne_box_parts, Tree.ne_box_cell, Tree.ne_box_norms, Tree.ne_box_differ, Tree.ne_box_counts, Tree.ne_norms_every, Tree.ne_norms_has, Tree.ne_norms_in, Tree.ne_norms_compare, Tree.ne_norms_not, Tree.ne_norms_and, Tree.ne_norms_or, Tree.ne_norms_parts, Tree.ne_norms_cell, Tree.ne_norms_box, Tree.ne_norms_differ, Tree.ne_norms_counts, Tree.ne_differ_every, Tree.ne_differ_has, Tree.ne_differ_in, Tree.ne_differ_compare, Tree.ne_differ_not, Tree.ne_differ_and, Tree.ne_differ_or, Tree.ne_differ_parts, Tree.ne_differ_cell, Tree.ne_differ_box, Tree.ne_differ_norms, Tree.ne_differ_counts, Tree.ne_counts_every, Tree.ne_counts_has, Tree.ne_counts_in, Tree.ne_counts_compare, Tree.ne_counts_not, Tree.ne_counts_and, Tree.ne_counts_or, Tree.ne_counts_parts, Tree.ne_counts_cell, Tree.ne_counts_box, Tree.ne_counts_norms, Tree.ne_counts_differ]; rfl
    | k_compare f sg v => simp only [S_law_built, decide_true, decide_false, Bool.false_eq_true, if_true, if_false, TP.bsome, TP.bnone, eq_self, Tree.tag_every, Tree.s_6_every, Tree.s_7_every, Tree.s_8_every, Tree.s_9_every, Tree.s_10_every, Tree.s_11_every, Tree.tag_has, Tree.s_6_has, Tree.s_7_has, Tree.s_8_has, Tree.s_9_has, Tree.s_10_has, Tree.s_11_has, Tree.tag_in, Tree.s_6_in, Tree.s_7_in, Tree.s_8_in, Tree.s_9_in, Tree.s_10_in, Tree.s_11_in, Tree.tag_compare, Tree.s_6_compare, Tree.s_7_compare, Tree.s_8_compare, Tree.s_9_compare, Tree.s_10_compare, Tree.s_11_compare, Tree.tag_not, Tree.s_6_not, Tree.s_7_not, Tree.s_8_not, Tree.s_9_not, Tree.s_10_not, Tree.s_11_not, Tree.tag_and, Tree.s_6_and, Tree.s_7_and, Tree.s_8_and, Tree.s_9_and, Tree.s_10_and, Tree.s_11_and, Tree.tag_or, Tree.s_6_or, Tree.s_7_or, Tree.s_8_or, Tree.s_9_or, Tree.s_10_or, Tree.s_11_or, Tree.ne_every_has, Tree.ne_every_in, Tree.ne_every_compare, Tree.ne_every_not, Tree.ne_every_and, Tree.ne_every_or, Tree.ne_every_parts, Tree.ne_every_cell, Tree.ne_every_box, Tree.ne_every_norms, Tree.ne_every_differ, Tree.ne_every_counts, Tree.ne_has_every, Tree.ne_has_in, Tree.ne_has_compare, Tree.ne_has_not, Tree.ne_has_and, Tree.ne_has_or, Tree.ne_has_parts, Tree.ne_has_cell, Tree.ne_has_box, Tree.ne_has_norms, Tree.ne_has_differ, Tree.ne_has_counts, Tree.ne_in_every, Tree.ne_in_has, Tree.ne_in_compare, Tree.ne_in_not, Tree.ne_in_and, Tree.ne_in_or, Tree.ne_in_parts, Tree.ne_in_cell, Tree.ne_in_box, Tree.ne_in_norms, Tree.ne_in_differ, Tree.ne_in_counts, Tree.ne_compare_every, Tree.ne_compare_has, Tree.ne_compare_in, Tree.ne_compare_not, Tree.ne_compare_and, Tree.ne_compare_or, Tree.ne_compare_parts, Tree.ne_compare_cell, Tree.ne_compare_box, Tree.ne_compare_norms, Tree.ne_compare_differ, Tree.ne_compare_counts, Tree.ne_not_every, Tree.ne_not_has, Tree.ne_not_in, Tree.ne_not_compare, Tree.ne_not_and, Tree.ne_not_or, Tree.ne_not_parts, Tree.ne_not_cell, Tree.ne_not_box, Tree.ne_not_norms, Tree.ne_not_differ, Tree.ne_not_counts, Tree.ne_and_every, Tree.ne_and_has, Tree.ne_and_in, Tree.ne_and_compare, Tree.ne_and_not, Tree.ne_and_or, Tree.ne_and_parts, Tree.ne_and_cell, Tree.ne_and_box, Tree.ne_and_norms, Tree.ne_and_differ, Tree.ne_and_counts, Tree.ne_or_every, Tree.ne_or_has, Tree.ne_or_in, Tree.ne_or_compare, Tree.ne_or_not, Tree.ne_or_and, Tree.ne_or_parts, Tree.ne_or_cell, Tree.ne_or_box, Tree.ne_or_norms, Tree.ne_or_differ, Tree.ne_or_counts, Tree.ne_parts_every, Tree.ne_parts_has, Tree.ne_parts_in, Tree.ne_parts_compare, Tree.ne_parts_not, Tree.ne_parts_and, Tree.ne_parts_or, Tree.ne_parts_cell, Tree.ne_parts_box, Tree.ne_parts_norms, Tree.ne_parts_differ, Tree.ne_parts_counts, Tree.ne_cell_every, Tree.ne_cell_has, Tree.ne_cell_in, Tree.ne_cell_compare, Tree.ne_cell_not, Tree.ne_cell_and, Tree.ne_cell_or, Tree.ne_cell_parts, Tree.ne_cell_box, Tree.ne_cell_norms, Tree.ne_cell_differ, Tree.ne_cell_counts, Tree.ne_box_every, Tree.ne_box_has, Tree.ne_box_in, Tree.ne_box_compare, Tree.ne_box_not, Tree.ne_box_and, Tree.ne_box_or, Tree.ne_box_parts, Tree.ne_box_cell, Tree.ne_box_norms, Tree.ne_box_differ, Tree.ne_box_counts, Tree.ne_norms_every, Tree.ne_norms_has, Tree.ne_norms_in, Tree.ne_norms_compare, Tree.ne_norms_not, Tree.ne_norms_and, Tree.ne_norms_or, Tree.ne_norms_parts, Tree.ne_norms_cell, Tree.ne_norms_box, Tree.ne_norms_differ, Tree.ne_norms_counts, Tree.ne_differ_every, Tree.ne_differ_has, Tree.ne_differ_in, Tree.ne_differ_compare, Tree.ne_differ_not, Tree.ne_differ_and, Tree.ne_differ_or, Tree.ne_differ_parts, Tree.ne_differ_cell, Tree.ne_differ_box, Tree.ne_differ_norms, Tree.ne_differ_counts, Tree.ne_counts_every, Tree.ne_counts_has, Tree.ne_counts_in, Tree.ne_counts_compare, Tree.ne_counts_not, Tree.ne_counts_and, Tree.ne_counts_or, Tree.ne_counts_parts, Tree.ne_counts_cell, Tree.ne_counts_box, Tree.ne_counts_norms, Tree.ne_counts_differ]; rfl
    | k_not a =>
      have h : depT a + 1 < n + 1 := h
      simp only [S_law_built, decide_true, decide_false, Bool.false_eq_true, if_true, if_false, TP.bsome, TP.bnone, eq_self, Tree.tag_every, Tree.s_6_every, Tree.s_7_every, Tree.s_8_every, Tree.s_9_every, Tree.s_10_every, Tree.s_11_every, Tree.tag_has, Tree.s_6_has, Tree.s_7_has, Tree.s_8_has, Tree.s_9_has, Tree.s_10_has, Tree.s_11_has, Tree.tag_in, Tree.s_6_in, Tree.s_7_in, Tree.s_8_in, Tree.s_9_in, Tree.s_10_in, Tree.s_11_in, Tree.tag_compare, Tree.s_6_compare, Tree.s_7_compare, Tree.s_8_compare, Tree.s_9_compare, Tree.s_10_compare, Tree.s_11_compare, Tree.tag_not, Tree.s_6_not, Tree.s_7_not, Tree.s_8_not, Tree.s_9_not, Tree.s_10_not, Tree.s_11_not, Tree.tag_and, Tree.s_6_and, Tree.s_7_and, Tree.s_8_and, Tree.s_9_and, Tree.s_10_and, Tree.s_11_and, Tree.tag_or, Tree.s_6_or, Tree.s_7_or, Tree.s_8_or, Tree.s_9_or, Tree.s_10_or, Tree.s_11_or, Tree.ne_every_has, Tree.ne_every_in, Tree.ne_every_compare, Tree.ne_every_not, Tree.ne_every_and, Tree.ne_every_or, Tree.ne_every_parts, Tree.ne_every_cell, Tree.ne_every_box, Tree.ne_every_norms, Tree.ne_every_differ, Tree.ne_every_counts, Tree.ne_has_every, Tree.ne_has_in, Tree.ne_has_compare, Tree.ne_has_not, Tree.ne_has_and, Tree.ne_has_or, Tree.ne_has_parts, Tree.ne_has_cell, Tree.ne_has_box, Tree.ne_has_norms, Tree.ne_has_differ, Tree.ne_has_counts, Tree.ne_in_every, Tree.ne_in_has, Tree.ne_in_compare, Tree.ne_in_not, Tree.ne_in_and, Tree.ne_in_or, Tree.ne_in_parts, Tree.ne_in_cell, Tree.ne_in_box, Tree.ne_in_norms, Tree.ne_in_differ, Tree.ne_in_counts, Tree.ne_compare_every, Tree.ne_compare_has, Tree.ne_compare_in, Tree.ne_compare_not, Tree.ne_compare_and, Tree.ne_compare_or, Tree.ne_compare_parts, Tree.ne_compare_cell, Tree.ne_compare_box, Tree.ne_compare_norms, Tree.ne_compare_differ, Tree.ne_compare_counts, Tree.ne_not_every, Tree.ne_not_has, Tree.ne_not_in, Tree.ne_not_compare, Tree.ne_not_and, Tree.ne_not_or, Tree.ne_not_parts, Tree.ne_not_cell, Tree.ne_not_box, Tree.ne_not_norms, Tree.ne_not_differ, Tree.ne_not_counts, Tree.ne_and_every, Tree.ne_and_has, Tree.ne_and_in, Tree.ne_and_compare, Tree.ne_and_not, Tree.ne_and_or, Tree.ne_and_parts, Tree.ne_and_cell, Tree.ne_and_box, Tree.ne_and_norms, Tree.ne_and_differ, Tree.ne_and_counts, Tree.ne_or_every, Tree.ne_or_has, Tree.ne_or_in, Tree.ne_or_compare, Tree.ne_or_not, Tree.ne_or_and, Tree.ne_or_parts, Tree.ne_or_cell, Tree.ne_or_box, Tree.ne_or_norms, Tree.ne_or_differ, Tree.ne_or_counts, Tree.ne_parts_every, Tree.ne_parts_has, Tree.ne_parts_in, Tree.ne_parts_compare, Tree.ne_parts_not, Tree.ne_parts_and, Tree.ne_parts_or, Tree.ne_parts_cell, Tree.ne_parts_box, Tree.ne_parts_norms, Tree.ne_parts_differ, Tree.ne_parts_counts, Tree.ne_cell_every, Tree.ne_cell_has, Tree.ne_cell_in, Tree.ne_cell_compare, Tree.ne_cell_not, Tree.ne_cell_and, Tree.ne_cell_or, Tree.ne_cell_parts, Tree.ne_cell_box, Tree.ne_cell_norms, Tree.ne_cell_differ, Tree.ne_cell_counts, Tree.ne_box_every, Tree.ne_box_has, Tree.ne_box_in, Tree.ne_box_compare, Tree.ne_box_not, Tree.ne_box_and, Tree.ne_box_or, Tree.ne_box_parts, Tree.ne_box_cell, Tree.ne_box_norms, Tree.ne_box_differ, Tree.ne_box_counts, Tree.ne_norms_every, Tree.ne_norms_has, Tree.ne_norms_in, Tree.ne_norms_compare, Tree.ne_norms_not, Tree.ne_norms_and, Tree.ne_norms_or, Tree.ne_norms_parts, Tree.ne_norms_cell, Tree.ne_norms_box, Tree.ne_norms_differ, Tree.ne_norms_counts, Tree.ne_differ_every, Tree.ne_differ_has, Tree.ne_differ_in, Tree.ne_differ_compare, Tree.ne_differ_not, Tree.ne_differ_and, Tree.ne_differ_or, Tree.ne_differ_parts, Tree.ne_differ_cell, Tree.ne_differ_box, Tree.ne_differ_norms, Tree.ne_differ_counts, Tree.ne_counts_every, Tree.ne_counts_has, Tree.ne_counts_in, Tree.ne_counts_compare, Tree.ne_counts_not, Tree.ne_counts_and, Tree.ne_counts_or, Tree.ne_counts_parts, Tree.ne_counts_cell, Tree.ne_counts_box, Tree.ne_counts_norms, Tree.ne_counts_differ, ih a (by omega)]; rfl
    | k_and a b =>
      have h : max (depT a) (depT b) + 1 < n + 1 := h
      simp only [S_law_built, decide_true, decide_false, Bool.false_eq_true, if_true, if_false, TP.bsome, TP.bnone, eq_self, Tree.tag_every, Tree.s_6_every, Tree.s_7_every, Tree.s_8_every, Tree.s_9_every, Tree.s_10_every, Tree.s_11_every, Tree.tag_has, Tree.s_6_has, Tree.s_7_has, Tree.s_8_has, Tree.s_9_has, Tree.s_10_has, Tree.s_11_has, Tree.tag_in, Tree.s_6_in, Tree.s_7_in, Tree.s_8_in, Tree.s_9_in, Tree.s_10_in, Tree.s_11_in, Tree.tag_compare, Tree.s_6_compare, Tree.s_7_compare, Tree.s_8_compare, Tree.s_9_compare, Tree.s_10_compare, Tree.s_11_compare, Tree.tag_not, Tree.s_6_not, Tree.s_7_not, Tree.s_8_not, Tree.s_9_not, Tree.s_10_not, Tree.s_11_not, Tree.tag_and, Tree.s_6_and, Tree.s_7_and, Tree.s_8_and, Tree.s_9_and, Tree.s_10_and, Tree.s_11_and, Tree.tag_or, Tree.s_6_or, Tree.s_7_or, Tree.s_8_or, Tree.s_9_or, Tree.s_10_or, Tree.s_11_or, Tree.ne_every_has, Tree.ne_every_in, Tree.ne_every_compare, Tree.ne_every_not, Tree.ne_every_and, Tree.ne_every_or, Tree.ne_every_parts, Tree.ne_every_cell, Tree.ne_every_box, Tree.ne_every_norms, Tree.ne_every_differ, Tree.ne_every_counts, Tree.ne_has_every, Tree.ne_has_in, Tree.ne_has_compare, Tree.ne_has_not, Tree.ne_has_and, Tree.ne_has_or, Tree.ne_has_parts, Tree.ne_has_cell, Tree.ne_has_box, Tree.ne_has_norms, Tree.ne_has_differ, Tree.ne_has_counts, Tree.ne_in_every, Tree.ne_in_has, Tree.ne_in_compare, Tree.ne_in_not, Tree.ne_in_and, Tree.ne_in_or, Tree.ne_in_parts, Tree.ne_in_cell, Tree.ne_in_box, Tree.ne_in_norms, Tree.ne_in_differ, Tree.ne_in_counts, Tree.ne_compare_every, Tree.ne_compare_has, Tree.ne_compare_in, Tree.ne_compare_not, Tree.ne_compare_and, Tree.ne_compare_or, Tree.ne_compare_parts, Tree.ne_compare_cell, Tree.ne_compare_box, Tree.ne_compare_norms, Tree.ne_compare_differ, Tree.ne_compare_counts, Tree.ne_not_every, Tree.ne_not_has, Tree.ne_not_in, Tree.ne_not_compare, Tree.ne_not_and, Tree.ne_not_or, Tree.ne_not_parts, Tree.ne_not_cell, Tree.ne_not_box, Tree.ne_not_norms, Tree.ne_not_differ, Tree.ne_not_counts, Tree.ne_and_every, Tree.ne_and_has, Tree.ne_and_in, Tree.ne_and_compare, Tree.ne_and_not, Tree.ne_and_or, Tree.ne_and_parts, Tree.ne_and_cell, Tree.ne_and_box, Tree.ne_and_norms, Tree.ne_and_differ, Tree.ne_and_counts, Tree.ne_or_every, Tree.ne_or_has, Tree.ne_or_in, Tree.ne_or_compare, Tree.ne_or_not, Tree.ne_or_and, Tree.ne_or_parts, Tree.ne_or_cell, Tree.ne_or_box, Tree.ne_or_norms, Tree.ne_or_differ, Tree.ne_or_counts, Tree.ne_parts_every, Tree.ne_parts_has, Tree.ne_parts_in, Tree.ne_parts_compare, Tree.ne_parts_not, Tree.ne_parts_and, Tree.ne_parts_or, Tree.ne_parts_cell, Tree.ne_parts_box, Tree.ne_parts_norms, Tree.ne_parts_differ, Tree.ne_parts_counts, Tree.ne_cell_every, Tree.ne_cell_has, Tree.ne_cell_in, Tree.ne_cell_compare, Tree.ne_cell_not, Tree.ne_cell_and, Tree.ne_cell_or, Tree.ne_cell_parts, Tree.ne_cell_box, Tree.ne_cell_norms, Tree.ne_cell_differ, Tree.ne_cell_counts, Tree.ne_box_every, Tree.ne_box_has, Tree.ne_box_in, Tree.ne_box_compare, Tree.ne_box_not, Tree.ne_box_and, Tree.ne_box_or, Tree.ne_box_parts, Tree.ne_box_cell, Tree.ne_box_norms, Tree.ne_box_differ, Tree.ne_box_counts, Tree.ne_norms_every, Tree.ne_norms_has, Tree.ne_norms_in, Tree.ne_norms_compare, Tree.ne_norms_not, Tree.ne_norms_and, Tree.ne_norms_or, Tree.ne_norms_parts, Tree.ne_norms_cell, Tree.ne_norms_box, Tree.ne_norms_differ, Tree.ne_norms_counts, Tree.ne_differ_every, Tree.ne_differ_has, Tree.ne_differ_in, Tree.ne_differ_compare, Tree.ne_differ_not, Tree.ne_differ_and, Tree.ne_differ_or, Tree.ne_differ_parts, Tree.ne_differ_cell, Tree.ne_differ_box, Tree.ne_differ_norms, Tree.ne_differ_counts, Tree.ne_counts_every, Tree.ne_counts_has, Tree.ne_counts_in, Tree.ne_counts_compare, Tree.ne_counts_not, Tree.ne_counts_and, Tree.ne_counts_or, Tree.ne_counts_parts, Tree.ne_counts_cell, Tree.ne_counts_box, Tree.ne_counts_norms, Tree.ne_counts_differ, ih a (by omega), ih b (by omega)]; rfl
    | k_or a b =>
      have h : max (depT a) (depT b) + 1 < n + 1 := h
      simp only [S_law_built, decide_true, decide_false, Bool.false_eq_true, if_true, if_false, TP.bsome, TP.bnone, eq_self, Tree.tag_every, Tree.s_6_every, Tree.s_7_every, Tree.s_8_every, Tree.s_9_every, Tree.s_10_every, Tree.s_11_every, Tree.tag_has, Tree.s_6_has, Tree.s_7_has, Tree.s_8_has, Tree.s_9_has, Tree.s_10_has, Tree.s_11_has, Tree.tag_in, Tree.s_6_in, Tree.s_7_in, Tree.s_8_in, Tree.s_9_in, Tree.s_10_in, Tree.s_11_in, Tree.tag_compare, Tree.s_6_compare, Tree.s_7_compare, Tree.s_8_compare, Tree.s_9_compare, Tree.s_10_compare, Tree.s_11_compare, Tree.tag_not, Tree.s_6_not, Tree.s_7_not, Tree.s_8_not, Tree.s_9_not, Tree.s_10_not, Tree.s_11_not, Tree.tag_and, Tree.s_6_and, Tree.s_7_and, Tree.s_8_and, Tree.s_9_and, Tree.s_10_and, Tree.s_11_and, Tree.tag_or, Tree.s_6_or, Tree.s_7_or, Tree.s_8_or, Tree.s_9_or, Tree.s_10_or, Tree.s_11_or, Tree.ne_every_has, Tree.ne_every_in, Tree.ne_every_compare, Tree.ne_every_not, Tree.ne_every_and, Tree.ne_every_or, Tree.ne_every_parts, Tree.ne_every_cell, Tree.ne_every_box, Tree.ne_every_norms, Tree.ne_every_differ, Tree.ne_every_counts, Tree.ne_has_every, Tree.ne_has_in, Tree.ne_has_compare, Tree.ne_has_not, Tree.ne_has_and, Tree.ne_has_or, Tree.ne_has_parts, Tree.ne_has_cell, Tree.ne_has_box, Tree.ne_has_norms, Tree.ne_has_differ, Tree.ne_has_counts, Tree.ne_in_every, Tree.ne_in_has, Tree.ne_in_compare, Tree.ne_in_not, Tree.ne_in_and, Tree.ne_in_or, Tree.ne_in_parts, Tree.ne_in_cell, Tree.ne_in_box, Tree.ne_in_norms, Tree.ne_in_differ, Tree.ne_in_counts, Tree.ne_compare_every, Tree.ne_compare_has, Tree.ne_compare_in, Tree.ne_compare_not, Tree.ne_compare_and, Tree.ne_compare_or, Tree.ne_compare_parts, Tree.ne_compare_cell, Tree.ne_compare_box, Tree.ne_compare_norms, Tree.ne_compare_differ, Tree.ne_compare_counts, Tree.ne_not_every, Tree.ne_not_has, Tree.ne_not_in, Tree.ne_not_compare, Tree.ne_not_and, Tree.ne_not_or, Tree.ne_not_parts, Tree.ne_not_cell, Tree.ne_not_box, Tree.ne_not_norms, Tree.ne_not_differ, Tree.ne_not_counts, Tree.ne_and_every, Tree.ne_and_has, Tree.ne_and_in, Tree.ne_and_compare, Tree.ne_and_not, Tree.ne_and_or, Tree.ne_and_parts, Tree.ne_and_cell, Tree.ne_and_box, Tree.ne_and_norms, Tree.ne_and_differ, Tree.ne_and_counts, Tree.ne_or_every, Tree.ne_or_has, Tree.ne_or_in, Tree.ne_or_compare, Tree.ne_or_not, Tree.ne_or_and, Tree.ne_or_parts, Tree.ne_or_cell, Tree.ne_or_box, Tree.ne_or_norms, Tree.ne_or_differ, Tree.ne_or_counts, Tree.ne_parts_every, Tree.ne_parts_has, Tree.ne_parts_in, Tree.ne_parts_compare, Tree.ne_parts_not, Tree.ne_parts_and, Tree.ne_parts_or, Tree.ne_parts_cell, Tree.ne_parts_box, Tree.ne_parts_norms, Tree.ne_parts_differ, Tree.ne_parts_counts, Tree.ne_cell_every, Tree.ne_cell_has, Tree.ne_cell_in, Tree.ne_cell_compare, Tree.ne_cell_not, Tree.ne_cell_and, Tree.ne_cell_or, Tree.ne_cell_parts, Tree.ne_cell_box, Tree.ne_cell_norms, Tree.ne_cell_differ, Tree.ne_cell_counts, Tree.ne_box_every, Tree.ne_box_has, Tree.ne_box_in, Tree.ne_box_compare, Tree.ne_box_not, Tree.ne_box_and, Tree.ne_box_or, Tree.ne_box_parts, Tree.ne_box_cell, Tree.ne_box_norms, Tree.ne_box_differ, Tree.ne_box_counts, Tree.ne_norms_every, Tree.ne_norms_has, Tree.ne_norms_in, Tree.ne_norms_compare, Tree.ne_norms_not, Tree.ne_norms_and, Tree.ne_norms_or, Tree.ne_norms_parts, Tree.ne_norms_cell, Tree.ne_norms_box, Tree.ne_norms_differ, Tree.ne_norms_counts, Tree.ne_differ_every, Tree.ne_differ_has, Tree.ne_differ_in, Tree.ne_differ_compare, Tree.ne_differ_not, Tree.ne_differ_and, Tree.ne_differ_or, Tree.ne_differ_parts, Tree.ne_differ_cell, Tree.ne_differ_box, Tree.ne_differ_norms, Tree.ne_differ_counts, Tree.ne_counts_every, Tree.ne_counts_has, Tree.ne_counts_in, Tree.ne_counts_compare, Tree.ne_counts_not, Tree.ne_counts_and, Tree.ne_counts_or, Tree.ne_counts_parts, Tree.ne_counts_cell, Tree.ne_counts_box, Tree.ne_counts_norms, Tree.ne_counts_differ, ih a (by omega), ih b (by omega)]; rfl
/-! comparing values of one kind -/
def cmpB (sg : Str) (w v : Val) : Bool := if sg = "=" then PyData.eqv (d_Val w) (d_Val v) else if sg = "!=" then !(PyData.eqv (d_Val w) (d_Val v)) else if sg = "<" then ltV w.toV v.toV else if sg = "<=" then !ltV v.toV w.toV else if sg = ">" then ltV v.toV w.toV else !ltV w.toV v.toV
theorem same_of {f : Str} {v w : Val} (h : KOk f v) (g : KOk f w) : sameB v.toV w.toV = true ∧ F_kind_of_value v = F_kind_of_value w := by
  cases v <;> cases w <;> first | exact ⟨rfl, rfl⟩ | (exfalso; have h : _ = _ := h; have g : _ = _ := g; rw [h] at g; revert g; decide +kernel)
theorem compares_eq {f : Str} {v w : Val} (sg : Str) (h : KOk f v) (g : KOk f w) : F_law_compares sg w v = some (cmpB sg w v) := by
  have s1 := (same_of g h).1
  have s2 := (same_of h g).1
  unfold F_law_compares cmpB
  by_cases q1 : sg = "="
  · rw [if_pos (decide_eq_true q1), if_pos q1]
  rw [if_neg (fun z => q1 (of_decide_eq_true z)), if_neg q1]
  by_cases q2 : sg = "!="
  · rw [if_pos (decide_eq_true q2), if_pos q2]
  rw [if_neg (fun z => q2 (of_decide_eq_true z)), if_neg q2]
  by_cases q3 : sg = "<"
  · rw [if_pos (decide_eq_true q3), if_pos q3, if_pos s1]
  rw [if_neg (fun z => q3 (of_decide_eq_true z)), if_neg q3]
  by_cases q4 : sg = "<="
  · rw [if_pos (decide_eq_true q4), if_pos q4, if_pos s1]
  rw [if_neg (fun z => q4 (of_decide_eq_true z)), if_neg q4]
  by_cases q5 : sg = ">"
  · rw [if_pos (decide_eq_true q5), if_pos q5, if_pos s2]
  rw [if_neg (fun z => q5 (of_decide_eq_true z)), if_neg q5, if_pos s2]
theorem satisfies_eq {f : Str} {v w : Val} (sg : Str) (h : KOk f v) (g : KOk f w) : F_satisfies w sg v = some (cmpB sg w v) := by
  obtain ⟨s1, k1⟩ := same_of g h
  unfold F_satisfies cmpB
  rw [k1, if_neg (by simp)]
  by_cases q1 : sg = "="
  · rw [if_pos (decide_eq_true q1), if_pos q1]
  rw [if_neg (fun z => q1 (of_decide_eq_true z)), if_neg q1]
  by_cases q2 : sg = "!="
  · rw [if_pos (decide_eq_true q2), if_pos q2]
  rw [if_neg (fun z => q2 (of_decide_eq_true z)), if_neg q2]
  by_cases q3 : sg = "<"
  · rw [if_pos (decide_eq_true q3), if_pos q3, if_pos s1]
  rw [if_neg (fun z => q3 (of_decide_eq_true z)), if_neg q3]
  by_cases q4 : sg = "<="
  · rw [if_pos (decide_eq_true q4), if_pos q4, if_pos s1]
  rw [if_neg (fun z => q4 (of_decide_eq_true z)), if_neg q4]
  by_cases q5 : sg = ">"
  · rw [if_pos (decide_eq_true q5), if_pos q5, if_pos s1]
  rw [if_neg (fun z => q5 (of_decide_eq_true z)), if_neg q5, if_pos s1]
theorem eqv_same {f : Str} {v w : Val} (h : KOk f v) (g : KOk f w) : PyData.eqv (d_Val v) (d_Val w) = decide (v = w) := by
  cases v <;> cases w <;> first | skip | skip
  all_goals first
    | (exfalso; have h : _ = _ := h; have g : _ = _ := g; rw [h] at g; revert g; decide +kernel)
    | skip
  · rename_i x y
    show PyData.eqv (.int x) (.int y) = _
    rw [Bool.eq_iff_iff, decide_eq_true_iff]
    exact (eqd_int (K := default)).eqv x y |>.trans ⟨fun z => by rw [z], fun z => Val.i.inj z⟩
  · rename_i x y
    show PyData.eqv (.str x) (.str y) = _
    rw [Bool.eq_iff_iff, decide_eq_true_iff]
    exact (eqd_str (K := default)).eqv x y |>.trans ⟨fun z => by rw [z], fun z => Val.s.inj z⟩
  · rename_i x y
    show PyData.eqv (.bool x) (.bool y) = _
    rw [Bool.eq_iff_iff, decide_eq_true_iff]
    exact (eqd_bool (K := default)).eqv x y |>.trans ⟨fun z => by rw [z], fun z => Val.b.inj z⟩
theorem eqv_bool (b c : Bool) : PyData.eqv (.bool b) (.bool c) = decide (b = c) := by
  rw [Bool.eq_iff_iff, decide_eq_true_iff]
  exact (eqd_bool (K := default)).eqv b c
theorem memW_true {α : Type} (p : α → Bool) (xs : List α) : memW PyData.bool true (xs.map p) = xs.any p := by
  unfold memW
  induction xs with
  | nil => rfl
  | cons x r ih =>
    rw [List.map_cons, List.map_cons, List.any_cons, List.any_cons, ih, eqv_bool]
    cases p x <;> rfl
theorem memW_false {α : Type} (p : α → Bool) (xs : List α) : memW PyData.bool false (xs.map p) = xs.any fun x => !p x := by
  unfold memW
  induction xs with
  | nil => rfl
  | cons x r ih =>
    rw [List.map_cons, List.map_cons, List.any_cons, List.any_cons, ih, eqv_bool]
    cases p x <;> rfl
theorem any_len {α : Type} (p : α → Bool) (xs : List α) : decide ((0 : Int) < ((xs.filter p).length : Int)) = xs.any p := by
  rw [Bool.eq_iff_iff, decide_eq_true_iff, List.any_eq_true]
  constructor
  · intro h
    have h : 0 < (xs.filter p).length := by omega
    obtain ⟨x, hx⟩ := List.exists_mem_of_length_pos h
    rw [List.mem_filter] at hx
    exact ⟨x, hx⟩
  · rintro ⟨x, hx, hp⟩
    have := List.length_pos_of_mem (List.mem_filter.mpr ⟨hx, hp⟩)
    omega
theorem any_map' {α β : Type} (f : α → β) (p : β → Bool) (xs : List α) : (xs.map f).any p = xs.any fun x => p (f x) := by
  rw [List.any_map]
  rfl
theorem mem_rng {a b x : Int} : x ∈ rangeZ a b ↔ a ≤ x ∧ x < b := by
  unfold rangeZ
  rw [List.mem_map]
  constructor
  · rintro ⟨i, hi, rfl⟩
    rw [List.mem_range] at hi
    omega
  · rintro ⟨h1, h2⟩
    exact ⟨(x - a).toNat, List.mem_range.mpr (by omega), by omega⟩
/-- does the leaf let the value pass? -/
def pass : Tree → Val → Bool
  | .k_in _ vs, w => memW d_Val w vs
  | .k_compare _ sg v, w => cmpB sg w v
  | _, _ => false
def Leaf2 (t : Tree) (f : Str) : Prop := (∃ vs, t = .k_in f vs) ∨ ∃ sg v, t = .k_compare f sg v
theorem passes_eq {t : Tree} {f : Str} {w : Val} (h : OkT t) (hl : Leaf2 t f) (g : KOk f w) : F_law_worth_passes t w = some (pass t w) := by
  rcases hl with ⟨vs, rfl⟩ | ⟨sg, v, rfl⟩
  · simp only [F_law_worth_passes, decide_true, decide_false, Bool.false_eq_true, if_true, if_false, TP.bsome, TP.bnone, eq_self, Tree.tag_every, Tree.s_6_every, Tree.s_7_every, Tree.s_8_every, Tree.s_9_every, Tree.s_10_every, Tree.s_11_every, Tree.tag_has, Tree.s_6_has, Tree.s_7_has, Tree.s_8_has, Tree.s_9_has, Tree.s_10_has, Tree.s_11_has, Tree.tag_in, Tree.s_6_in, Tree.s_7_in, Tree.s_8_in, Tree.s_9_in, Tree.s_10_in, Tree.s_11_in, Tree.tag_compare, Tree.s_6_compare, Tree.s_7_compare, Tree.s_8_compare, Tree.s_9_compare, Tree.s_10_compare, Tree.s_11_compare, Tree.tag_not, Tree.s_6_not, Tree.s_7_not, Tree.s_8_not, Tree.s_9_not, Tree.s_10_not, Tree.s_11_not, Tree.tag_and, Tree.s_6_and, Tree.s_7_and, Tree.s_8_and, Tree.s_9_and, Tree.s_10_and, Tree.s_11_and, Tree.tag_or, Tree.s_6_or, Tree.s_7_or, Tree.s_8_or, Tree.s_9_or, Tree.s_10_or, Tree.s_11_or, Tree.ne_every_has, Tree.ne_every_in, Tree.ne_every_compare, Tree.ne_every_not, Tree.ne_every_and, Tree.ne_every_or, Tree.ne_every_parts, Tree.ne_every_cell, Tree.ne_every_box, Tree.ne_every_norms, Tree.ne_every_differ, Tree.ne_every_counts, Tree.ne_has_every, Tree.ne_has_in, Tree.ne_has_compare, Tree.ne_has_not, Tree.ne_has_and, Tree.ne_has_or, Tree.ne_has_parts, Tree.ne_has_cell, Tree.ne_has_box, Tree.ne_has_norms, Tree.ne_has_differ, Tree.ne_has_counts, Tree.ne_in_every, Tree.ne_in_has, Tree.ne_in_compare, Tree.ne_in_not, Tree.ne_in_and, Tree.ne_in_or, Tree.ne_in_parts, Tree.ne_in_cell, Tree.ne_in_box, Tree.ne_in_norms, Tree.ne_in_differ, Tree.ne_in_counts, Tree.ne_compare_every, Tree.ne_compare_has, Tree.ne_compare_in, Tree.ne_compare_not, Tree.ne_compare_and, Tree.ne_compare_or, Tree.ne_compare_parts, Tree.ne_compare_cell, Tree.ne_compare_box, Tree.ne_compare_norms, Tree.ne_compare_differ, Tree.ne_compare_counts, Tree.ne_not_every, Tree.ne_not_has, Tree.ne_not_in, Tree.ne_not_compare, Tree.ne_not_and, Tree.ne_not_or, Tree.ne_not_parts, Tree.ne_not_cell, Tree.ne_not_box, Tree.ne_not_norms, Tree.ne_not_differ, Tree.ne_not_counts, Tree.ne_and_every, Tree.ne_and_has, Tree.ne_and_in, Tree.ne_and_compare, Tree.ne_and_not, Tree.ne_and_or, Tree.ne_and_parts, Tree.ne_and_cell, Tree.ne_and_box, Tree.ne_and_norms, Tree.ne_and_differ, Tree.ne_and_counts, Tree.ne_or_every, Tree.ne_or_has, Tree.ne_or_in, Tree.ne_or_compare, Tree.ne_or_not, Tree.ne_or_and, Tree.ne_or_parts, Tree.ne_or_cell, Tree.ne_or_box, Tree.ne_or_norms, Tree.ne_or_differ, Tree.ne_or_counts, Tree.ne_parts_every, Tree.ne_parts_has, Tree.ne_parts_in, Tree.ne_parts_compare, Tree.ne_parts_not, Tree.ne_parts_and, Tree.ne_parts_or, Tree.ne_parts_cell, Tree.ne_parts_box, Tree.ne_parts_norms, Tree.ne_parts_differ, Tree.ne_parts_counts, Tree.ne_cell_every, Tree.ne_cell_has, Tree.ne_cell_in, Tree.ne_cell_compare, Tree.ne_cell_not, Tree.ne_cell_and, Tree.ne_cell_or, Tree.ne_cell_parts, Tree.ne_cell_box, Tree.ne_cell_norms, Tree.ne_cell_differ, Tree.ne_cell_counts, Tree.ne_box_every, Tree.ne_box_has, Tree.ne_box_in, Tree.ne_box_compare, Tree.ne_box_not, Tree.ne_box_and, Tree.ne_box_or, Tree.ne_box_parts, Tree.ne_box_cell, Tree.ne_box_norms, Tree.ne_box_differ, Tree.ne_box_counts, Tree.ne_norms_every, Tree.ne_norms_has, Tree.ne_norms_in, Tree.ne_norms_compare, Tree.ne_norms_not, Tree.ne_norms_and, Tree.ne_norms_or, Tree.ne_norms_parts, Tree.ne_norms_cell, Tree.ne_norms_box, Tree.ne_norms_differ, Tree.ne_norms_counts, Tree.ne_differ_every, Tree.ne_differ_has, Tree.ne_differ_in, Tree.ne_differ_compare, Tree.ne_differ_not, Tree.ne_differ_and, Tree.ne_differ_or, Tree.ne_differ_parts, Tree.ne_differ_cell, Tree.ne_differ_box, Tree.ne_differ_norms, Tree.ne_differ_counts, Tree.ne_counts_every, Tree.ne_counts_has, Tree.ne_counts_in, Tree.ne_counts_compare, Tree.ne_counts_not, Tree.ne_counts_and, Tree.ne_counts_or, Tree.ne_counts_parts, Tree.ne_counts_cell, Tree.ne_counts_box, Tree.ne_counts_norms, Tree.ne_counts_differ]; rfl
  · simp only [F_law_worth_passes, decide_true, decide_false, Bool.false_eq_true, if_true, if_false, TP.bsome, TP.bnone, eq_self, Tree.tag_every, Tree.s_6_every, Tree.s_7_every, Tree.s_8_every, Tree.s_9_every, Tree.s_10_every, Tree.s_11_every, Tree.tag_has, Tree.s_6_has, Tree.s_7_has, Tree.s_8_has, Tree.s_9_has, Tree.s_10_has, Tree.s_11_has, Tree.tag_in, Tree.s_6_in, Tree.s_7_in, Tree.s_8_in, Tree.s_9_in, Tree.s_10_in, Tree.s_11_in, Tree.tag_compare, Tree.s_6_compare, Tree.s_7_compare, Tree.s_8_compare, Tree.s_9_compare, Tree.s_10_compare, Tree.s_11_compare, Tree.tag_not, Tree.s_6_not, Tree.s_7_not, Tree.s_8_not, Tree.s_9_not, Tree.s_10_not, Tree.s_11_not, Tree.tag_and, Tree.s_6_and, Tree.s_7_and, Tree.s_8_and, Tree.s_9_and, Tree.s_10_and, Tree.s_11_and, Tree.tag_or, Tree.s_6_or, Tree.s_7_or, Tree.s_8_or, Tree.s_9_or, Tree.s_10_or, Tree.s_11_or, Tree.ne_every_has, Tree.ne_every_in, Tree.ne_every_compare, Tree.ne_every_not, Tree.ne_every_and, Tree.ne_every_or, Tree.ne_every_parts, Tree.ne_every_cell, Tree.ne_every_box, Tree.ne_every_norms, Tree.ne_every_differ, Tree.ne_every_counts, Tree.ne_has_every, Tree.ne_has_in, Tree.ne_has_compare, Tree.ne_has_not, Tree.ne_has_and, Tree.ne_has_or, Tree.ne_has_parts, Tree.ne_has_cell, Tree.ne_has_box, Tree.ne_has_norms, Tree.ne_has_differ, Tree.ne_has_counts, Tree.ne_in_every, Tree.ne_in_has, Tree.ne_in_compare, Tree.ne_in_not, Tree.ne_in_and, Tree.ne_in_or, Tree.ne_in_parts, Tree.ne_in_cell, Tree.ne_in_box, Tree.ne_in_norms, Tree.ne_in_differ, Tree.ne_in_counts, Tree.ne_compare_every, Tree.ne_compare_has, Tree.ne_compare_in, Tree.ne_compare_not, Tree.ne_compare_and, Tree.ne_compare_or, Tree.ne_compare_parts, Tree.ne_compare_cell, Tree.ne_compare_box, Tree.ne_compare_norms, Tree.ne_compare_differ, Tree.ne_compare_counts, Tree.ne_not_every, Tree.ne_not_has, Tree.ne_not_in, Tree.ne_not_compare, Tree.ne_not_and, Tree.ne_not_or, Tree.ne_not_parts, Tree.ne_not_cell, Tree.ne_not_box, Tree.ne_not_norms, Tree.ne_not_differ, Tree.ne_not_counts, Tree.ne_and_every, Tree.ne_and_has, Tree.ne_and_in, Tree.ne_and_compare, Tree.ne_and_not, Tree.ne_and_or, Tree.ne_and_parts, Tree.ne_and_cell, Tree.ne_and_box, Tree.ne_and_norms, Tree.ne_and_differ, Tree.ne_and_counts, Tree.ne_or_every, Tree.ne_or_has, Tree.ne_or_in, Tree.ne_or_compare, Tree.ne_or_not, Tree.ne_or_and, Tree.ne_or_parts, Tree.ne_or_cell, Tree.ne_or_box, Tree.ne_or_norms, Tree.ne_or_differ, Tree.ne_or_counts, Tree.ne_parts_every, Tree.ne_parts_has, Tree.ne_parts_in, Tree.ne_parts_compare, Tree.ne_parts_not, Tree.ne_parts_and, Tree.ne_parts_or, Tree.ne_parts_cell, Tree.ne_parts_box, Tree.ne_parts_norms, Tree.ne_parts_differ, Tree.ne_parts_counts, Tree.ne_cell_every, Tree.ne_cell_has, Tree.ne_cell_in, Tree.ne_cell_compare, Tree.ne_cell_not, Tree.ne_cell_and, Tree.ne_cell_or, Tree.ne_cell_parts, Tree.ne_cell_box, Tree.ne_cell_norms, Tree.ne_cell_differ, Tree.ne_cell_counts, Tree.ne_box_every, Tree.ne_box_has, Tree.ne_box_in, Tree.ne_box_compare, Tree.ne_box_not, Tree.ne_box_and, Tree.ne_box_or, Tree.ne_box_parts, Tree.ne_box_cell, Tree.ne_box_norms, Tree.ne_box_differ, Tree.ne_box_counts, Tree.ne_norms_every, Tree.ne_norms_has, Tree.ne_norms_in, Tree.ne_norms_compare, Tree.ne_norms_not, Tree.ne_norms_and, Tree.ne_norms_or, Tree.ne_norms_parts, Tree.ne_norms_cell, Tree.ne_norms_box, Tree.ne_norms_differ, Tree.ne_norms_counts, Tree.ne_differ_every, Tree.ne_differ_has, Tree.ne_differ_in, Tree.ne_differ_compare, Tree.ne_differ_not, Tree.ne_differ_and, Tree.ne_differ_or, Tree.ne_differ_parts, Tree.ne_differ_cell, Tree.ne_differ_box, Tree.ne_differ_norms, Tree.ne_differ_counts, Tree.ne_counts_every, Tree.ne_counts_has, Tree.ne_counts_in, Tree.ne_counts_compare, Tree.ne_counts_not, Tree.ne_counts_and, Tree.ne_counts_or, Tree.ne_counts_parts, Tree.ne_counts_cell, Tree.ne_counts_box, Tree.ne_counts_norms, Tree.ne_counts_differ, compares_eq sg h.2 g]; rfl
theorem mapI (xs : List Int) : (mapO (fun x : Int => some (Val.i x))) xs = some (xs.map Val.i) := mapO_eq fun _ _ => rfl
def lackF : FT → Str
  | .k_range _ _ _ l => l
  | .k_values _ _ l => l
def fldF : FT → Str
  | .k_range f _ _ _ => f
  | .k_values f _ _ => f
def wsF : FT → List Val
  | .k_range _ lo hi _ => (rangeZ lo (hi + 1)).map Val.i
  | .k_values _ vs _ => vs
def isR : FT → Bool
  | .k_range .. => true
  | .k_values .. => false
def isIn : Tree → Bool
  | .k_in .. => true
  | _ => false
theorem ws_ok {F : FT} (h : OkF F) : ∀ v ∈ wsF F, KOk (fldF F) v := by
  cases F with
  | k_range f lo hi l =>
    intro v hv
    obtain ⟨x, _, rfl⟩ := List.mem_map.mp hv
    exact h.1
  | k_values f vs l => exact h.1
theorem at_last (F : FT) : F.at_0 (F.size - 1) = some (lackF F) := by
  cases F <;> rfl
theorem due2 {F : FT} {t : Tree} (hF : OkF F) (h : OkT t) (hl : Leaf2 t (fldF F)) (na : ¬ lackF F = "all") :
    F_law_outcomes F t = some (some ((wsF F).any (pass t), ((wsF F).any (fun w => !pass t w) || (decide (lackF F = "some") || (isR F && isIn t))))) := by
  have key : ∀ w ∈ wsF F, F_law_worth_passes t w = some (pass t w) := fun w hw => passes_eq h hl (ws_ok hF w hw)
  have e1 : fmO (fun (x_564 : Val) => ((F_law_worth_passes t x_564).bind fun r_567 => if r_567 = true then (some (some x_564)) else some none : Option (Option Val))) (wsF F) = some ((wsF F).filter (pass t)) := by
    rw [fmO_eq (p := pass t) (g := fun x => x) fun w hw => by rw [key w hw, bsome]; cases pass t w <;> rfl]
    rw [List.map_id']
  have e2 : fmO (fun (x_577 : Val) => ((F_law_worth_passes t x_577).bind fun r_580 => if (!r_580) = true then (some (some x_577)) else some none : Option (Option Val))) (wsF F) = some ((wsF F).filter fun w => !pass t w) := by
    rw [fmO_eq (p := fun w => !pass t w) (g := fun x => x) fun w hw => by rw [key w hw, bsome]; cases pass t w <;> rfl]
    rw [List.map_id']
  have es : t.s_6 = some (fldF F) := by rcases hl with ⟨vs, rfl⟩ | ⟨sg, v, rfl⟩ <;> rfl
  have e0 : F.s_0 = some (fldF F) := by cases F <;> rfl
  have eh : decide (t.tag = ("has" : Str)) = false := by rcases hl with ⟨vs, rfl⟩ | ⟨sg, v, rfl⟩ <;> simp only [decide_true, decide_false, Bool.false_eq_true, if_true, if_false, TP.bsome, TP.bnone, eq_self, Tree.tag_every, Tree.s_6_every, Tree.s_7_every, Tree.s_8_every, Tree.s_9_every, Tree.s_10_every, Tree.s_11_every, Tree.tag_has, Tree.s_6_has, Tree.s_7_has, Tree.s_8_has, Tree.s_9_has, Tree.s_10_has, Tree.s_11_has, Tree.tag_in, Tree.s_6_in, Tree.s_7_in, Tree.s_8_in, Tree.s_9_in, Tree.s_10_in, Tree.s_11_in, Tree.tag_compare, Tree.s_6_compare, Tree.s_7_compare, Tree.s_8_compare, Tree.s_9_compare, Tree.s_10_compare, Tree.s_11_compare, Tree.tag_not, Tree.s_6_not, Tree.s_7_not, Tree.s_8_not, Tree.s_9_not, Tree.s_10_not, Tree.s_11_not, Tree.tag_and, Tree.s_6_and, Tree.s_7_and, Tree.s_8_and, Tree.s_9_and, Tree.s_10_and, Tree.s_11_and, Tree.tag_or, Tree.s_6_or, Tree.s_7_or, Tree.s_8_or, Tree.s_9_or, Tree.s_10_or, Tree.s_11_or, Tree.ne_every_has, Tree.ne_every_in, Tree.ne_every_compare, Tree.ne_every_not, Tree.ne_every_and, Tree.ne_every_or, Tree.ne_every_parts, Tree.ne_every_cell, Tree.ne_every_box, Tree.ne_every_norms, Tree.ne_every_differ, Tree.ne_every_counts, Tree.ne_has_every, Tree.ne_has_in, Tree.ne_has_compare, Tree.ne_has_not, Tree.ne_has_and, Tree.ne_has_or, Tree.ne_has_parts, Tree.ne_has_cell, Tree.ne_has_box, Tree.ne_has_norms, Tree.ne_has_differ, Tree.ne_has_counts, Tree.ne_in_every, Tree.ne_in_has, Tree.ne_in_compare, Tree.ne_in_not, Tree.ne_in_and, Tree.ne_in_or, Tree.ne_in_parts, Tree.ne_in_cell, Tree.ne_in_box, Tree.ne_in_norms, Tree.ne_in_differ, Tree.ne_in_counts, Tree.ne_compare_every, Tree.ne_compare_has, Tree.ne_compare_in, Tree.ne_compare_not, Tree.ne_compare_and, Tree.ne_compare_or, Tree.ne_compare_parts, Tree.ne_compare_cell, Tree.ne_compare_box, Tree.ne_compare_norms, Tree.ne_compare_differ, Tree.ne_compare_counts, Tree.ne_not_every, Tree.ne_not_has, Tree.ne_not_in, Tree.ne_not_compare, Tree.ne_not_and, Tree.ne_not_or, Tree.ne_not_parts, Tree.ne_not_cell, Tree.ne_not_box, Tree.ne_not_norms, Tree.ne_not_differ, Tree.ne_not_counts, Tree.ne_and_every, Tree.ne_and_has, Tree.ne_and_in, Tree.ne_and_compare, Tree.ne_and_not, Tree.ne_and_or, Tree.ne_and_parts, Tree.ne_and_cell, Tree.ne_and_box, Tree.ne_and_norms, Tree.ne_and_differ, Tree.ne_and_counts, Tree.ne_or_every, Tree.ne_or_has, Tree.ne_or_in, Tree.ne_or_compare, Tree.ne_or_not, Tree.ne_or_and, Tree.ne_or_parts, Tree.ne_or_cell, Tree.ne_or_box, Tree.ne_or_norms, Tree.ne_or_differ, Tree.ne_or_counts, Tree.ne_parts_every, Tree.ne_parts_has, Tree.ne_parts_in, Tree.ne_parts_compare, Tree.ne_parts_not, Tree.ne_parts_and, Tree.ne_parts_or, Tree.ne_parts_cell, Tree.ne_parts_box, Tree.ne_parts_norms, Tree.ne_parts_differ, Tree.ne_parts_counts, Tree.ne_cell_every, Tree.ne_cell_has, Tree.ne_cell_in, Tree.ne_cell_compare, Tree.ne_cell_not, Tree.ne_cell_and, Tree.ne_cell_or, Tree.ne_cell_parts, Tree.ne_cell_box, Tree.ne_cell_norms, Tree.ne_cell_differ, Tree.ne_cell_counts, Tree.ne_box_every, Tree.ne_box_has, Tree.ne_box_in, Tree.ne_box_compare, Tree.ne_box_not, Tree.ne_box_and, Tree.ne_box_or, Tree.ne_box_parts, Tree.ne_box_cell, Tree.ne_box_norms, Tree.ne_box_differ, Tree.ne_box_counts, Tree.ne_norms_every, Tree.ne_norms_has, Tree.ne_norms_in, Tree.ne_norms_compare, Tree.ne_norms_not, Tree.ne_norms_and, Tree.ne_norms_or, Tree.ne_norms_parts, Tree.ne_norms_cell, Tree.ne_norms_box, Tree.ne_norms_differ, Tree.ne_norms_counts, Tree.ne_differ_every, Tree.ne_differ_has, Tree.ne_differ_in, Tree.ne_differ_compare, Tree.ne_differ_not, Tree.ne_differ_and, Tree.ne_differ_or, Tree.ne_differ_parts, Tree.ne_differ_cell, Tree.ne_differ_box, Tree.ne_differ_norms, Tree.ne_differ_counts, Tree.ne_counts_every, Tree.ne_counts_has, Tree.ne_counts_in, Tree.ne_counts_compare, Tree.ne_counts_not, Tree.ne_counts_and, Tree.ne_counts_or, Tree.ne_counts_parts, Tree.ne_counts_cell, Tree.ne_counts_box, Tree.ne_counts_norms, Tree.ne_counts_differ]
  have ei : decide (t.tag = ("in" : Str)) = isIn t := by rcases hl with ⟨vs, rfl⟩ | ⟨sg, v, rfl⟩ <;> simp only [decide_true, decide_false, Bool.false_eq_true, if_true, if_false, TP.bsome, TP.bnone, eq_self, Tree.tag_every, Tree.s_6_every, Tree.s_7_every, Tree.s_8_every, Tree.s_9_every, Tree.s_10_every, Tree.s_11_every, Tree.tag_has, Tree.s_6_has, Tree.s_7_has, Tree.s_8_has, Tree.s_9_has, Tree.s_10_has, Tree.s_11_has, Tree.tag_in, Tree.s_6_in, Tree.s_7_in, Tree.s_8_in, Tree.s_9_in, Tree.s_10_in, Tree.s_11_in, Tree.tag_compare, Tree.s_6_compare, Tree.s_7_compare, Tree.s_8_compare, Tree.s_9_compare, Tree.s_10_compare, Tree.s_11_compare, Tree.tag_not, Tree.s_6_not, Tree.s_7_not, Tree.s_8_not, Tree.s_9_not, Tree.s_10_not, Tree.s_11_not, Tree.tag_and, Tree.s_6_and, Tree.s_7_and, Tree.s_8_and, Tree.s_9_and, Tree.s_10_and, Tree.s_11_and, Tree.tag_or, Tree.s_6_or, Tree.s_7_or, Tree.s_8_or, Tree.s_9_or, Tree.s_10_or, Tree.s_11_or, Tree.ne_every_has, Tree.ne_every_in, Tree.ne_every_compare, Tree.ne_every_not, Tree.ne_every_and, Tree.ne_every_or, Tree.ne_every_parts, Tree.ne_every_cell, Tree.ne_every_box, Tree.ne_every_norms, Tree.ne_every_differ, Tree.ne_every_counts, Tree.ne_has_every, Tree.ne_has_in, Tree.ne_has_compare, Tree.ne_has_not, Tree.ne_has_and, Tree.ne_has_or, Tree.ne_has_parts, Tree.ne_has_cell, Tree.ne_has_box, Tree.ne_has_norms, Tree.ne_has_differ, Tree.ne_has_counts, Tree.ne_in_every, Tree.ne_in_has, Tree.ne_in_compare, Tree.ne_in_not, Tree.ne_in_and, Tree.ne_in_or, Tree.ne_in_parts, Tree.ne_in_cell, Tree.ne_in_box, Tree.ne_in_norms, Tree.ne_in_differ, Tree.ne_in_counts, Tree.ne_compare_every, Tree.ne_compare_has, Tree.ne_compare_in, Tree.ne_compare_not, Tree.ne_compare_and, Tree.ne_compare_or, Tree.ne_compare_parts, Tree.ne_compare_cell, Tree.ne_compare_box, Tree.ne_compare_norms, Tree.ne_compare_differ, Tree.ne_compare_counts, Tree.ne_not_every, Tree.ne_not_has, Tree.ne_not_in, Tree.ne_not_compare, Tree.ne_not_and, Tree.ne_not_or, Tree.ne_not_parts, Tree.ne_not_cell, Tree.ne_not_box, Tree.ne_not_norms, Tree.ne_not_differ, Tree.ne_not_counts, Tree.ne_and_every, Tree.ne_and_has, Tree.ne_and_in, Tree.ne_and_compare, Tree.ne_and_not, Tree.ne_and_or, Tree.ne_and_parts, Tree.ne_and_cell, Tree.ne_and_box, Tree.ne_and_norms, Tree.ne_and_differ, Tree.ne_and_counts, Tree.ne_or_every, Tree.ne_or_has, Tree.ne_or_in, Tree.ne_or_compare, Tree.ne_or_not, Tree.ne_or_and, Tree.ne_or_parts, Tree.ne_or_cell, Tree.ne_or_box, Tree.ne_or_norms, Tree.ne_or_differ, Tree.ne_or_counts, Tree.ne_parts_every, Tree.ne_parts_has, Tree.ne_parts_in, Tree.ne_parts_compare, Tree.ne_parts_not, Tree.ne_parts_and, Tree.ne_parts_or, Tree.ne_parts_cell, Tree.ne_parts_box, Tree.ne_parts_norms, Tree.ne_parts_differ, Tree.ne_parts_counts, Tree.ne_cell_every, Tree.ne_cell_has, Tree.ne_cell_in, Tree.ne_cell_compare, Tree.ne_cell_not, Tree.ne_cell_and, Tree.ne_cell_or, Tree.ne_cell_parts, Tree.ne_cell_box, Tree.ne_cell_norms, Tree.ne_cell_differ, Tree.ne_cell_counts, Tree.ne_box_every, Tree.ne_box_has, Tree.ne_box_in, Tree.ne_box_compare, Tree.ne_box_not, Tree.ne_box_and, Tree.ne_box_or, Tree.ne_box_parts, Tree.ne_box_cell, Tree.ne_box_norms, Tree.ne_box_differ, Tree.ne_box_counts, Tree.ne_norms_every, Tree.ne_norms_has, Tree.ne_norms_in, Tree.ne_norms_compare, Tree.ne_norms_not, Tree.ne_norms_and, Tree.ne_norms_or, Tree.ne_norms_parts, Tree.ne_norms_cell, Tree.ne_norms_box, Tree.ne_norms_differ, Tree.ne_norms_counts, Tree.ne_differ_every, Tree.ne_differ_has, Tree.ne_differ_in, Tree.ne_differ_compare, Tree.ne_differ_not, Tree.ne_differ_and, Tree.ne_differ_or, Tree.ne_differ_parts, Tree.ne_differ_cell, Tree.ne_differ_box, Tree.ne_differ_norms, Tree.ne_differ_counts, Tree.ne_counts_every, Tree.ne_counts_has, Tree.ne_counts_in, Tree.ne_counts_compare, Tree.ne_counts_not, Tree.ne_counts_and, Tree.ne_counts_or, Tree.ne_counts_parts, Tree.ne_counts_cell, Tree.ne_counts_box, Tree.ne_counts_norms, Tree.ne_counts_differ] <;> rfl
  unfold F_law_outcomes
  rw [es, bsome, e0, bsome, if_neg (by simp), at_last, bsome, if_neg (fun z => na (of_decide_eq_true z)), eh, if_neg (by decide), ei]
  cases F with
  | k_range f lo hi l =>
    have hb := hF.2.1
    have w0 : (FT.k_range f lo hi l).w_0 = some (.i lo) := rfl
    have tg : decide ((FT.k_range f lo hi l).tag = ("range" : Str)) = true := by simp only [decide_true, decide_false, Bool.false_eq_true, if_true, if_false, TP.bsome, TP.bnone, eq_self, FT.tag_range, FT.s_0_range, FT.s_1_range, FT.s_2_range, FT.s_3_range, FT.s_4_range, FT.s_5_range, FT.tag_values, FT.s_0_values, FT.s_1_values, FT.s_2_values, FT.s_3_values, FT.s_4_values, FT.s_5_values, FT.ne_range_values, FT.ne_range_parts, FT.ne_range_cell, FT.ne_range_box, FT.ne_range_norms, FT.ne_range_differ, FT.ne_range_counts, FT.ne_values_range, FT.ne_values_parts, FT.ne_values_cell, FT.ne_values_box, FT.ne_values_norms, FT.ne_values_differ, FT.ne_values_counts, FT.ne_parts_range, FT.ne_parts_values, FT.ne_parts_cell, FT.ne_parts_box, FT.ne_parts_norms, FT.ne_parts_differ, FT.ne_parts_counts, FT.ne_cell_range, FT.ne_cell_values, FT.ne_cell_parts, FT.ne_cell_box, FT.ne_cell_norms, FT.ne_cell_differ, FT.ne_cell_counts, FT.ne_box_range, FT.ne_box_values, FT.ne_box_parts, FT.ne_box_cell, FT.ne_box_norms, FT.ne_box_differ, FT.ne_box_counts, FT.ne_norms_range, FT.ne_norms_values, FT.ne_norms_parts, FT.ne_norms_cell, FT.ne_norms_box, FT.ne_norms_differ, FT.ne_norms_counts, FT.ne_differ_range, FT.ne_differ_values, FT.ne_differ_parts, FT.ne_differ_cell, FT.ne_differ_box, FT.ne_differ_norms, FT.ne_differ_counts, FT.ne_counts_range, FT.ne_counts_values, FT.ne_counts_parts, FT.ne_counts_cell, FT.ne_counts_box, FT.ne_counts_norms, FT.ne_counts_differ]
    have s1 : (FT.k_range f lo hi l).s_1 = some lo := rfl
    have s2 : (FT.k_range f lo hi l).s_2 = some hi := rfl
    rw [w0, bsome, tg, if_pos rfl, s1, bsome, s2, bsome, if_pos ⟨⟨by omega, by omega⟩, ⟨by omega, by omega⟩, by omega⟩]
    dsimp only
    rw [mapI]
    have p1 : (Option.map W.l (some ((rangeZ lo (hi + 1)).map Val.i))) = some (.l (wsF (.k_range f lo hi l))) := rfl
    have p2 : (W.l (wsF (.k_range f lo hi l))).p_l = some (wsF (.k_range f lo hi l)) := rfl
    rw [p1, bsome, bsome, p2, bsome, e1, bsome, bsome, e2, bsome, bsome, any_len, any_len]
    rfl
  | k_values f vs l =>
    have w0 : (FT.k_values f vs l).w_0 = some (.l vs) := rfl
    have tg : decide ((FT.k_values f vs l).tag = ("range" : Str)) = false := by simp only [decide_true, decide_false, Bool.false_eq_true, if_true, if_false, TP.bsome, TP.bnone, eq_self, FT.tag_range, FT.s_0_range, FT.s_1_range, FT.s_2_range, FT.s_3_range, FT.s_4_range, FT.s_5_range, FT.tag_values, FT.s_0_values, FT.s_1_values, FT.s_2_values, FT.s_3_values, FT.s_4_values, FT.s_5_values, FT.ne_range_values, FT.ne_range_parts, FT.ne_range_cell, FT.ne_range_box, FT.ne_range_norms, FT.ne_range_differ, FT.ne_range_counts, FT.ne_values_range, FT.ne_values_parts, FT.ne_values_cell, FT.ne_values_box, FT.ne_values_norms, FT.ne_values_differ, FT.ne_values_counts, FT.ne_parts_range, FT.ne_parts_values, FT.ne_parts_cell, FT.ne_parts_box, FT.ne_parts_norms, FT.ne_parts_differ, FT.ne_parts_counts, FT.ne_cell_range, FT.ne_cell_values, FT.ne_cell_parts, FT.ne_cell_box, FT.ne_cell_norms, FT.ne_cell_differ, FT.ne_cell_counts, FT.ne_box_range, FT.ne_box_values, FT.ne_box_parts, FT.ne_box_cell, FT.ne_box_norms, FT.ne_box_differ, FT.ne_box_counts, FT.ne_norms_range, FT.ne_norms_values, FT.ne_norms_parts, FT.ne_norms_cell, FT.ne_norms_box, FT.ne_norms_differ, FT.ne_norms_counts, FT.ne_differ_range, FT.ne_differ_values, FT.ne_differ_parts, FT.ne_differ_cell, FT.ne_differ_box, FT.ne_differ_norms, FT.ne_differ_counts, FT.ne_counts_range, FT.ne_counts_values, FT.ne_counts_parts, FT.ne_counts_cell, FT.ne_counts_box, FT.ne_counts_norms, FT.ne_counts_differ]
    have p2 : (W.l vs).p_l = some (wsF (.k_values f vs l)) := rfl
    rw [w0, bsome, tg, if_neg (by decide), bsome, p2, bsome, e1, bsome, bsome, e2, bsome, bsome, any_len, any_len]
    rfl
theorem kind_i (x : Int) : F_kind_of_value (.i x) = "integer" := by simp only [F_kind_of_value, Val.is_bool, Val.is_int, Bool.false_eq_true, if_false, if_true]
theorem any_rngI {lo hi : Int} {p : Val → Bool} : (((rangeZ lo (hi + 1)).map Val.i).any p = true) ↔ ∃ x, lo ≤ x ∧ x ≤ hi ∧ p (.i x) = true := by
  rw [any_map', List.any_eq_true]
  constructor
  · rintro ⟨x, hx, hp⟩
    rw [mem_rng] at hx
    exact ⟨x, hx.1, by omega, hp⟩
  · rintro ⟨x, h1, h2, hp⟩
    exact ⟨x, mem_rng.mpr ⟨h1, by omega⟩, hp⟩
theorem any_rng {lo hi : Int} {p : Val → Bool} {q : Prop} [Decidable q] (h : (∃ x, lo ≤ x ∧ x ≤ hi ∧ p (.i x) = true) ↔ q) : (((rangeZ lo (hi + 1)).map Val.i).any p) = decide q := by
  rw [Bool.eq_iff_iff, decide_eq_true_iff, ← h, any_map', List.any_eq_true]
  constructor
  · rintro ⟨x, hx, hp⟩
    rw [mem_rng] at hx
    exact ⟨x, hx.1, by omega, hp⟩
  · rintro ⟨x, h1, h2, hp⟩
    exact ⟨x, mem_rng.mpr ⟨h1, by omega⟩, hp⟩
theorem eqv_i (x y : Int) : PyData.eqv (d_Val (.i x)) (d_Val (.i y)) = decide (x = y) := by
  rw [eqv_same (f := "n") (show KOk "n" (.i x) from rfl) (show KOk "n" (.i y) from rfl)]
  by_cases h : x = y
  · rw [h, decide_eq_true rfl, decide_eq_true rfl]
  · rw [decide_eq_false h, decide_eq_false fun z => h (Val.i.inj z)]
theorem sne {a b : Str} (h : ¬ a = b) : decide (a = b) = false := decide_eq_false h
/-- the range's outcomes are those of its integers -/
theorem range_eq {lo hi : Int} {sg : Str} {x : Int} (h : lo ≤ hi) (hs : sg ∈ SIGN) :
    F_range_outcomes lo hi sg (.i x) = some (((rangeZ lo (hi + 1)).map Val.i).any (fun w => cmpB sg w (.i x)), ((rangeZ lo (hi + 1)).map Val.i).any (fun w => !cmpB sg w (.i x))) := by
  have lt : ∀ a b : Int, ltV (Val.i a).toV (Val.i b).toV = decide (a < b) := fun _ _ => rfl
  unfold F_range_outcomes
  rw [kind_i, if_neg (by simp)]
  have p : (Val.i x).p_i = some x := rfl
  rw [p, bsome, bsome, bsome, bsome]
  unfold SIGN at hs
  simp only [List.mem_cons, List.not_mem_nil, or_false] at hs
  rcases hs with rfl | rfl | rfl | rfl | rfl | rfl
  · rw [if_pos (by decide +kernel)]
    congr 2
    · rw [any_rng (q := lo ≤ x ∧ x ≤ hi)]
      · simp
      · simp only [cmpB, if_pos, eqv_i, decide_eq_true_iff]
        exact ⟨fun ⟨y, a, b, e⟩ => by omega, fun ⟨a, b⟩ => ⟨x, a, b, rfl⟩⟩
    · rw [any_rng (q := ¬ (lo = x ∧ x = hi))]
      · simp
      · simp only [cmpB, if_pos, eqv_i, Bool.not_eq_true', decide_eq_false_iff_not]
        refine ⟨fun ⟨y, a, b, e⟩ => by omega, fun e => ?_⟩
        by_cases q : lo = x
        · exact ⟨hi, h, Int.le_refl _, by omega⟩
        · exact ⟨lo, Int.le_refl _, h, q⟩
  · rw [if_neg (by decide +kernel), if_pos (by decide +kernel)]
    have c : ∀ w v, cmpB "!=" w v = !(PyData.eqv (d_Val w) (d_Val v)) := fun w v => by unfold cmpB; rw [if_neg (by decide +kernel), if_pos rfl]
    congr 2
    · rw [any_rng (q := ¬ (lo = x ∧ x = hi))]
      · simp
      · simp only [c, eqv_i, Bool.not_eq_true', decide_eq_false_iff_not]
        refine ⟨fun ⟨y, a, b, e⟩ => by omega, fun e => ?_⟩
        by_cases q : lo = x
        · exact ⟨hi, h, Int.le_refl _, by omega⟩
        · exact ⟨lo, Int.le_refl _, h, q⟩
    · rw [any_rng (q := lo ≤ x ∧ x ≤ hi)]
      · simp
      · simp only [c, eqv_i, Bool.not_not, decide_eq_true_iff]
        exact ⟨fun ⟨y, a, b, e⟩ => by omega, fun ⟨a, b⟩ => ⟨x, a, b, rfl⟩⟩
  · rw [if_neg (by decide +kernel), if_neg (by decide +kernel), if_pos (by decide +kernel), bsome, bsome]
    have c : ∀ w v, cmpB "<" w v = ltV w.toV v.toV := fun w v => by unfold cmpB; rw [if_neg (by decide +kernel), if_neg (by decide +kernel), if_pos rfl]
    congr 2
    · rw [any_rng (q := lo < x)]
      simp only [c, lt, decide_eq_true_iff]
      exact ⟨fun ⟨y, a, b, e⟩ => by omega, fun a => ⟨lo, Int.le_refl _, h, a⟩⟩
    · rw [any_rng (q := x ≤ hi)]
      simp only [c, lt, Bool.not_eq_true', decide_eq_false_iff_not]
      exact ⟨fun ⟨y, a, b, e⟩ => by omega, fun a => ⟨hi, h, Int.le_refl _, by omega⟩⟩
  · rw [if_neg (by decide +kernel), if_neg (by decide +kernel), if_neg (by decide +kernel), if_pos (by decide +kernel), bsome, bsome]
    have c : ∀ w v, cmpB "<=" w v = !ltV v.toV w.toV := fun w v => by unfold cmpB; rw [if_neg (by decide +kernel), if_neg (by decide +kernel), if_neg (by decide +kernel), if_pos rfl]
    congr 2
    · rw [any_rng (q := lo ≤ x)]
      simp only [c, lt, Bool.not_eq_true', decide_eq_false_iff_not]
      exact ⟨fun ⟨y, a, b, e⟩ => by omega, fun a => ⟨lo, Int.le_refl _, h, by omega⟩⟩
    · rw [any_rng (q := x < hi)]
      simp only [c, lt, Bool.not_not, decide_eq_true_iff]
      exact ⟨fun ⟨y, a, b, e⟩ => by omega, fun a => ⟨hi, h, Int.le_refl _, by omega⟩⟩
  · rw [if_neg (by decide +kernel), if_neg (by decide +kernel), if_neg (by decide +kernel), if_neg (by decide +kernel), if_pos (by decide +kernel), bsome, bsome]
    have c : ∀ w v, cmpB ">" w v = ltV v.toV w.toV := fun w v => by unfold cmpB; rw [if_neg (by decide +kernel), if_neg (by decide +kernel), if_neg (by decide +kernel), if_neg (by decide +kernel), if_pos rfl]
    congr 2
    · rw [any_rng (q := x < hi)]
      simp only [c, lt, decide_eq_true_iff]
      exact ⟨fun ⟨y, a, b, e⟩ => by omega, fun a => ⟨hi, h, Int.le_refl _, by omega⟩⟩
    · rw [any_rng (q := lo ≤ x)]
      simp only [c, lt, Bool.not_eq_true', decide_eq_false_iff_not]
      exact ⟨fun ⟨y, a, b, e⟩ => by omega, fun a => ⟨lo, Int.le_refl _, h, by omega⟩⟩
  · rw [if_neg (by decide +kernel), if_neg (by decide +kernel), if_neg (by decide +kernel), if_neg (by decide +kernel), if_neg (by decide +kernel), bsome, bsome]
    have c : ∀ w v, cmpB ">=" w v = !ltV w.toV v.toV := fun w v => by unfold cmpB; rw [if_neg (by decide +kernel), if_neg (by decide +kernel), if_neg (by decide +kernel), if_neg (by decide +kernel), if_neg (by decide +kernel)]
    congr 2
    · rw [any_rng (q := x ≤ hi)]
      simp only [c, lt, Bool.not_eq_true', decide_eq_false_iff_not]
      exact ⟨fun ⟨y, a, b, e⟩ => by omega, fun a => ⟨hi, h, Int.le_refl _, by omega⟩⟩
    · rw [any_rng (q := lo < x)]
      simp only [c, lt, Bool.not_not, decide_eq_true_iff]
      exact ⟨fun ⟨y, a, b, e⟩ => by omega, fun a => ⟨lo, Int.le_refl _, h, by omega⟩⟩
theorem among_eq {f : Str} {w : Val} {vs : List Val} (g : KOk f w) (h : ∀ v ∈ vs, KOk f v) : F_is_among w vs = memW d_Val w vs := by
  unfold F_is_among memW F_same_value
  rw [any_map', any_map']
  induction vs with
  | nil => rfl
  | cons v r ih =>
    rw [List.any_cons, List.any_cons, ih fun x hx => h x (List.mem_cons_of_mem _ hx), eqv_same (h v List.mem_cons_self) g, eqv_same g (h v List.mem_cons_self), (same_of g (h v List.mem_cons_self)).2, decide_eq_true rfl]
    congr 1
    by_cases q : w = v
    · rw [q]; rfl
    · rw [decide_eq_false q, decide_eq_false fun z => q z.symm]; rfl
theorem value_passes_eq {t : Tree} {f : Str} {w : Val} (h : OkT t) (hl : Leaf2 t f) (g : KOk f w) : F_value_passes w (B t) = some (pass t w) := by
  rcases hl with ⟨vs, rfl⟩ | ⟨sg, v, rfl⟩
  · unfold F_value_passes
    have h1 : (B (.k_in f vs)).is_OneOf = true := rfl
    have h2 : (B (.k_in f vs)).p_one = some ⟨f, vs⟩ := rfl
    rw [h1, if_pos rfl, h2, bsome, among_eq g h]
    rfl
  · unfold F_value_passes
    have h1 : (B (.k_compare f sg v)).is_OneOf = false := rfl
    have h2 : (B (.k_compare f sg v)).f_sign = some sg := rfl
    have h3 : (B (.k_compare f sg v)).f_value = some v := rfl
    rw [h1, if_neg (by decide), h2, bsome, h3, bsome, satisfies_eq sg h.2 g, bsome]
    rfl
theorem fromI (lo hi x : Int) : F_is_from lo hi (.i x) = some (decide (lo ≤ x) && decide (x ≤ hi)) := by
  unfold F_is_from
  have p : (Val.i x).p_i = some x := rfl
  rw [kind_i, if_pos (by simp), p, bsome, bsome]
theorem field_B {t : Tree} {f : Str} (hl : Leaf2 t f) : (B t).f_field = some f ∧ (B t).is_Has = false := by
  rcases hl with ⟨vs, rfl⟩ | ⟨sg, v, rfl⟩ <;> exact ⟨rfl, rfl⟩
theorem ofI {v : Val} (h : KOk "n" v) : ∃ x, v = .i x := by
  cases v with
  | i x => exact ⟨x, rfl⟩
  | s x => exact absurd h nt
  | b x => exact absurd h nf
theorem code2 {F : FT} {t : Tree} (hF : OkF F) (h : OkT t) (hl : Leaf2 t (fldF F)) (na : ¬ lackF F = "all") :
    A_outcomes_on_field_2 (MkF F) (B t) = some (some ((wsF F).any (pass t), ((wsF F).any (fun w => !pass t w) || (decide (lackF F = "some") || (isR F && isIn t))))) := by
  obtain ⟨hf, hh⟩ := field_B hl
  cases F with
  | k_range f lo hi l =>
    show F_Range_outcomes ⟨f, lo, hi, l⟩ (B t) = _
    unfold F_Range_outcomes
    have hf : (B t).f_field = some f := hf
    have nb : ¬ l = "all" := na
    obtain ⟨hn, hb, _⟩ := hF
    subst hn
    rw [hf, bsome]
    dsimp only
    rw [if_neg (by simp), hh, decide_eq_false nb, if_neg (by decide)]
    rcases hl with ⟨vs, rfl⟩ | ⟨sg, v, rfl⟩
    · have h1 : (B (.k_in (fldF (.k_range "n" lo hi l)) vs)).is_OneOf = true := rfl
      have h2 : (B (.k_in (fldF (.k_range "n" lo hi l)) vs)).p_one = some ⟨"n", vs⟩ := rfl
      have hv : ∀ v ∈ vs, KOk "n" v := h
      rw [h1, if_pos rfl, h2, bsome]
      dsimp only
      rw [mapO_eq (g := fun v => match v with | .i x => decide (lo ≤ x) && decide (x ≤ hi) | _ => false) fun v hm => by
        obtain ⟨x, rfl⟩ := ofI (hv v hm)
        rw [fromI, bsome]]
      rw [bsome, bsome, any_map']
      have e : (vs.any fun v => id (match v with | .i x => decide (lo ≤ x) && decide (x ≤ hi) | _ => false)) = ((rangeZ lo (hi + 1)).map Val.i).any (pass (.k_in "n" vs)) := by
        rw [Bool.eq_iff_iff, any_rngI, List.any_eq_true]
        constructor
        · rintro ⟨v, hm, e⟩
          obtain ⟨x, rfl⟩ := ofI (hv v hm)
          have e : (decide (lo ≤ x) && decide (x ≤ hi)) = true := e
          rw [Bool.and_eq_true, decide_eq_true_iff, decide_eq_true_iff] at e
          refine ⟨x, e.1, e.2, ?_⟩
          show memW d_Val (.i x) vs = true
          unfold memW
          rw [any_map', List.any_eq_true]
          exact ⟨_, hm, by rw [eqv_i]; exact decide_eq_true rfl⟩
        · rintro ⟨x, a, b, e⟩
          have e : memW d_Val (.i x) vs = true := e
          unfold memW at e
          rw [any_map', List.any_eq_true] at e
          obtain ⟨v, hm, e⟩ := e
          obtain ⟨y, rfl⟩ := ofI (hv v hm)
          rw [eqv_i, decide_eq_true_iff] at e
          subst e
          exact ⟨_, hm, by show (decide (lo ≤ y) && decide (y ≤ hi)) = true; rw [Bool.and_eq_true, decide_eq_true_iff, decide_eq_true_iff]; exact ⟨a, b⟩⟩
      rw [e]
      have r : ∀ a b : Bool, (a || (b || true)) = true := by decide
      show some (some (_, true)) = some (some (_, (_ || (_ || true))))
      rw [r]
      rfl
    · have h1 : (B (.k_compare (fldF (.k_range "n" lo hi l)) sg v)).is_OneOf = false := rfl
      have h2 : (B (.k_compare (fldF (.k_range "n" lo hi l)) sg v)).f_sign = some sg := rfl
      have h3 : (B (.k_compare (fldF (.k_range "n" lo hi l)) sg v)).f_value = some v := rfl
      obtain ⟨x, rfl⟩ := ofI (v := v) h.2
      rw [h1, if_neg (by decide), h2, bsome, h3, bsome, range_eq hb.1 h.1, bsome, bsome]
      show some (some (_, (_ || _))) = some (some (_, (_ || (_ || false))))
      rw [Bool.or_false]
      rfl
  | k_values f vs l =>
    show F_Values_outcomes ⟨f, vs, l⟩ (B t) = _
    unfold F_Values_outcomes
    have hf : (B t).f_field = some f := hf
    have nb : ¬ l = "all" := na
    rw [hf, bsome]
    dsimp only
    rw [if_neg (by simp), hh, decide_eq_false nb, if_neg (by decide)]
    rw [mapO_eq (g := pass t) fun v hm => by rw [value_passes_eq h hl (hF.1 v hm), bsome]]
    rw [bsome, memW_true, memW_false]
    show some (some (_, (_ || _))) = some (some (_, (_ || (_ || false))))
    rw [Bool.or_false]
    rfl
theorem lack_or {l : Str} (h : l ∈ LACK) (na : ¬ l = "all") : (!decide (l = "nobody")) = decide (l = "some") := by
  unfold LACK at h
  simp only [List.mem_cons, List.not_mem_nil, or_false] at h
  rcases h with rfl | rfl | rfl
  · decide +kernel
  · decide +kernel
  · exact absurd rfl na
theorem lack_in {F : FT} (h : OkF F) : lackF F ∈ LACK := by cases F <;> first | exact h.2.2 | exact h.2
def Leaf (t : Tree) (f : Str) : Prop := t = .k_has f ∨ Leaf2 t f
/-- a fact and a leaf -/
theorem leaf_eq {F : FT} {t : Tree} {f : Str} (hF : OkF F) (h : OkT t) (hl : Leaf t f) : ∃ o, A_outcomes_on_field_2 (MkF F) (B t) = some o ∧ F_law_outcomes F t = some o := by
  have es : t.s_6 = some f := by rcases hl with rfl | ⟨vs, rfl⟩ | ⟨sg, v, rfl⟩ <;> rfl
  have ef : (B t).f_field = some f := by rcases hl with rfl | ⟨vs, rfl⟩ | ⟨sg, v, rfl⟩ <;> rfl
  have e0 : F.s_0 = some (fldF F) := by cases F <;> rfl
  by_cases q : f = fldF F
  · by_cases qa : lackF F = "all"
    · refine ⟨some (false, true), ?_, ?_⟩
      · have o : F_outcomes_of_lack "all" = (false, true) := by decide +kernel
        cases F with
        | k_range f' lo hi l =>
          have q : f = f' := q
          have qa : l = "all" := qa
          subst q qa
          show F_Range_outcomes ⟨f, lo, hi, "all"⟩ (B t) = _
          unfold F_Range_outcomes
          rw [ef, bsome]
          dsimp only
          rw [if_neg (by simp), if_pos (by simp), o]
        | k_values f' vs l =>
          have q : f = f' := q
          have qa : l = "all" := qa
          subst q qa
          show F_Values_outcomes ⟨f, vs, "all"⟩ (B t) = _
          unfold F_Values_outcomes
          rw [ef, bsome]
          dsimp only
          rw [if_neg (by simp), if_pos (by simp), o]
      · unfold F_law_outcomes
        rw [es, bsome, e0, bsome, q, if_neg (by simp), at_last, bsome, if_pos (decide_eq_true qa)]
    · rcases hl with rfl | hl
      · refine ⟨some (true, decide (lackF F = "some")), ?_, ?_⟩
        · have o : ∀ l, l ∈ LACK → ¬ l = "all" → F_outcomes_of_lack l = (true, decide (l = "some")) := fun l h1 h2 => by
            unfold F_outcomes_of_lack
            rw [lack_or h1 h2, decide_eq_false h2]
            rfl
          have hk := lack_in hF
          cases F with
          | k_range f' lo hi l =>
            have q : f = f' := q
            subst q
            show F_Range_outcomes ⟨f, lo, hi, l⟩ (.has ⟨f⟩) = _
            unfold F_Range_outcomes
            have ef : (Cond.has ⟨f⟩).f_field = some f := rfl
            have eh : (Cond.has ⟨f⟩).is_Has = true := rfl
            rw [ef, bsome]
            dsimp only
            rw [if_neg (by simp), eh, if_pos (by simp), o l hk qa]
            rfl
          | k_values f' vs l =>
            have q : f = f' := q
            subst q
            show F_Values_outcomes ⟨f, vs, l⟩ (.has ⟨f⟩) = _
            unfold F_Values_outcomes
            have ef : (Cond.has ⟨f⟩).f_field = some f := rfl
            have eh : (Cond.has ⟨f⟩).is_Has = true := rfl
            rw [ef, bsome]
            dsimp only
            rw [if_neg (by simp), eh, if_pos (by simp), o l hk qa]
            rfl
        · unfold F_law_outcomes
          have eh : decide ((Tree.k_has f).tag = ("has" : Str)) = true := by simp only [decide_true, decide_false, Bool.false_eq_true, if_true, if_false, TP.bsome, TP.bnone, eq_self, Tree.tag_every, Tree.s_6_every, Tree.s_7_every, Tree.s_8_every, Tree.s_9_every, Tree.s_10_every, Tree.s_11_every, Tree.tag_has, Tree.s_6_has, Tree.s_7_has, Tree.s_8_has, Tree.s_9_has, Tree.s_10_has, Tree.s_11_has, Tree.tag_in, Tree.s_6_in, Tree.s_7_in, Tree.s_8_in, Tree.s_9_in, Tree.s_10_in, Tree.s_11_in, Tree.tag_compare, Tree.s_6_compare, Tree.s_7_compare, Tree.s_8_compare, Tree.s_9_compare, Tree.s_10_compare, Tree.s_11_compare, Tree.tag_not, Tree.s_6_not, Tree.s_7_not, Tree.s_8_not, Tree.s_9_not, Tree.s_10_not, Tree.s_11_not, Tree.tag_and, Tree.s_6_and, Tree.s_7_and, Tree.s_8_and, Tree.s_9_and, Tree.s_10_and, Tree.s_11_and, Tree.tag_or, Tree.s_6_or, Tree.s_7_or, Tree.s_8_or, Tree.s_9_or, Tree.s_10_or, Tree.s_11_or, Tree.ne_every_has, Tree.ne_every_in, Tree.ne_every_compare, Tree.ne_every_not, Tree.ne_every_and, Tree.ne_every_or, Tree.ne_every_parts, Tree.ne_every_cell, Tree.ne_every_box, Tree.ne_every_norms, Tree.ne_every_differ, Tree.ne_every_counts, Tree.ne_has_every, Tree.ne_has_in, Tree.ne_has_compare, Tree.ne_has_not, Tree.ne_has_and, Tree.ne_has_or, Tree.ne_has_parts, Tree.ne_has_cell, Tree.ne_has_box, Tree.ne_has_norms, Tree.ne_has_differ, Tree.ne_has_counts, Tree.ne_in_every, Tree.ne_in_has, Tree.ne_in_compare, Tree.ne_in_not, Tree.ne_in_and, Tree.ne_in_or, Tree.ne_in_parts, Tree.ne_in_cell, Tree.ne_in_box, Tree.ne_in_norms, Tree.ne_in_differ, Tree.ne_in_counts, Tree.ne_compare_every, Tree.ne_compare_has, Tree.ne_compare_in, Tree.ne_compare_not, Tree.ne_compare_and, Tree.ne_compare_or, Tree.ne_compare_parts, Tree.ne_compare_cell, Tree.ne_compare_box, Tree.ne_compare_norms, Tree.ne_compare_differ, Tree.ne_compare_counts, Tree.ne_not_every, Tree.ne_not_has, Tree.ne_not_in, Tree.ne_not_compare, Tree.ne_not_and, Tree.ne_not_or, Tree.ne_not_parts, Tree.ne_not_cell, Tree.ne_not_box, Tree.ne_not_norms, Tree.ne_not_differ, Tree.ne_not_counts, Tree.ne_and_every, Tree.ne_and_has, Tree.ne_and_in, Tree.ne_and_compare, Tree.ne_and_not, Tree.ne_and_or, Tree.ne_and_parts, Tree.ne_and_cell, Tree.ne_and_box, Tree.ne_and_norms, Tree.ne_and_differ, Tree.ne_and_counts, Tree.ne_or_every, Tree.ne_or_has, Tree.ne_or_in, Tree.ne_or_compare, Tree.ne_or_not, Tree.ne_or_and, Tree.ne_or_parts, Tree.ne_or_cell, Tree.ne_or_box, Tree.ne_or_norms, Tree.ne_or_differ, Tree.ne_or_counts, Tree.ne_parts_every, Tree.ne_parts_has, Tree.ne_parts_in, Tree.ne_parts_compare, Tree.ne_parts_not, Tree.ne_parts_and, Tree.ne_parts_or, Tree.ne_parts_cell, Tree.ne_parts_box, Tree.ne_parts_norms, Tree.ne_parts_differ, Tree.ne_parts_counts, Tree.ne_cell_every, Tree.ne_cell_has, Tree.ne_cell_in, Tree.ne_cell_compare, Tree.ne_cell_not, Tree.ne_cell_and, Tree.ne_cell_or, Tree.ne_cell_parts, Tree.ne_cell_box, Tree.ne_cell_norms, Tree.ne_cell_differ, Tree.ne_cell_counts, Tree.ne_box_every, Tree.ne_box_has, Tree.ne_box_in, Tree.ne_box_compare, Tree.ne_box_not, Tree.ne_box_and, Tree.ne_box_or, Tree.ne_box_parts, Tree.ne_box_cell, Tree.ne_box_norms, Tree.ne_box_differ, Tree.ne_box_counts, Tree.ne_norms_every, Tree.ne_norms_has, Tree.ne_norms_in, Tree.ne_norms_compare, Tree.ne_norms_not, Tree.ne_norms_and, Tree.ne_norms_or, Tree.ne_norms_parts, Tree.ne_norms_cell, Tree.ne_norms_box, Tree.ne_norms_differ, Tree.ne_norms_counts, Tree.ne_differ_every, Tree.ne_differ_has, Tree.ne_differ_in, Tree.ne_differ_compare, Tree.ne_differ_not, Tree.ne_differ_and, Tree.ne_differ_or, Tree.ne_differ_parts, Tree.ne_differ_cell, Tree.ne_differ_box, Tree.ne_differ_norms, Tree.ne_differ_counts, Tree.ne_counts_every, Tree.ne_counts_has, Tree.ne_counts_in, Tree.ne_counts_compare, Tree.ne_counts_not, Tree.ne_counts_and, Tree.ne_counts_or, Tree.ne_counts_parts, Tree.ne_counts_cell, Tree.ne_counts_box, Tree.ne_counts_norms, Tree.ne_counts_differ]
          rw [es, bsome, e0, bsome, q, if_neg (by simp), at_last, bsome, if_neg (fun z => qa (of_decide_eq_true z))]
          rw [← q, eh, if_pos rfl]
      · subst q
        exact ⟨_, code2 hF h hl qa, due2 hF h hl qa⟩
  · refine ⟨none, ?_, ?_⟩
    · cases F with
      | k_range f' lo hi l =>
        have q : ¬ f = f' := q
        show F_Range_outcomes ⟨f', lo, hi, l⟩ (B t) = _
        unfold F_Range_outcomes
        rw [ef, bsome]
        dsimp only
        rw [if_pos (by simp [q])]
      | k_values f' vs l =>
        have q : ¬ f = f' := q
        show F_Values_outcomes ⟨f', vs, l⟩ (B t) = _
        unfold F_Values_outcomes
        rw [ef, bsome]
        dsimp only
        rw [if_pos (by simp [q])]
    · unfold F_law_outcomes
      rw [es, bsome, e0, bsome, if_pos (by simp [q])]
/-! all facts -/
def oc (t : Tree) (F : FT) : Option (Bool × Bool) := (F_law_outcomes F t).getD none
theorem leaf_oc {F : FT} {t : Tree} {f : Str} (hF : OkF F) (h : OkT t) (hl : Leaf t f) : A_outcomes_on_field_2 (MkF F) (B t) = some (oc t F) ∧ F_law_outcomes F t = some (oc t F) := by
  obtain ⟨o, e1, e2⟩ := leaf_eq hF h hl
  unfold oc
  rw [e2]
  exact ⟨e1, rfl⟩
def p1 (o : Option (Bool × Bool)) : Bool := match o with | none => true | some r => r.1
def p2 (o : Option (Bool × Bool)) : Bool := match o with | none => true | some r => r.2
theorem on_field {c : Cond} {xs : List Fa} {g : Fa → Option (Bool × Bool)} (h : ∀ x ∈ xs, A_outcomes_on_field_2 x c = some (g x)) : F_outcomes_on_field c xs = some (xs.all fun x => p1 (g x), xs.all fun x => p2 (g x)) := by
  unfold F_outcomes_on_field
  rw [mapO_eq (g := g) fun x hx => by rw [h x hx, bsome], bsome]
  rw [fmO_eq (p := fun o => o.isSome) (g := fun o => o.getD (true, true)) fun o _ => by cases o <;> rfl, bsome]
  congr 2
  · clear h
    induction xs with
    | nil => rfl
    | cons x r ih =>
      rw [List.map_cons, List.all_cons, ← ih]
      cases e : g x with
      | none => rfl
      | some y => rfl
  · clear h
    induction xs with
    | nil => rfl
    | cons x r ih =>
      rw [List.map_cons, List.all_cons, ← ih]
      cases e : g x with
      | none => rfl
      | some y => rfl
theorem due_loop {g : Grp3} {t : Tree} {f : Str} (h : OkT t) (hl : Leaf t f) : ∀ (fs : List FT) (w : Bool × Bool), (∀ F ∈ fs, OkF F) → forF ((L_law_due_1 g) t) fs w = some (w.1 && fs.all (fun F => p1 (oc t F)), w.2 && fs.all (fun F => p2 (oc t F)))
  | [], w, _ => by
    show some w = _
    rw [List.all_nil, List.all_nil, Bool.and_true, Bool.and_true]
  | F :: r, w, hf => by
    show ((L_law_due_1 g) t F w).bind _ = _
    have e1 : (L_law_due_1 g) t F w = some (w.1 && p1 (oc t F), w.2 && p2 (oc t F)) := by
      unfold L_law_due_1
      rw [(leaf_oc (hf F List.mem_cons_self) h hl).2, bsome]
      cases oc t F with
      | none =>
        rw [if_neg (by decide)]
        show some (w.1, w.2) = some (w.1 && true, w.2 && true)
        rw [Bool.and_true, Bool.and_true]
      | some y =>
        obtain ⟨a, b⟩ := w
        rw [if_pos (show (some y).isSome = true from rfl)]
        cases a <;> cases b <;> rfl
    rw [e1, bsome, due_loop h hl r _ fun F hF => hf F (List.mem_cons_of_mem _ hF), List.all_cons, List.all_cons, Bool.and_assoc, Bool.and_assoc]
/-- the facts made, with or without some that tell nothing of fields -/
def Ext (fs : List FT) (xs : List Fa) : Prop := ∃ us vs, xs = us ++ fs.map MkF ++ vs ∧ (∀ x ∈ us, ∀ c, A_outcomes_on_field_2 x c = some none) ∧ ∀ x ∈ vs, ∀ c, A_outcomes_on_field_2 x c = some none
theorem on_ext {fs : List FT} {xs : List Fa} {t : Tree} {f : Str} (hx : Ext fs xs) (hf : ∀ F ∈ fs, OkF F) (h : OkT t) (hl : Leaf t f) : F_outcomes_on_field (B t) xs = some (fs.all (fun F => p1 (oc t F)), fs.all (fun F => p2 (oc t F))) := by
  obtain ⟨us, vs, rfl, hu, hv⟩ := hx
  have key : ∀ x ∈ us ++ fs.map MkF ++ vs, A_outcomes_on_field_2 x (B t) = some ((A_outcomes_on_field_2 x (B t)).getD none) := fun x hm => by
    rcases List.mem_append.mp hm with hm | hm
    · rcases List.mem_append.mp hm with hm | hm
      · rw [hu x hm]; rfl
      · obtain ⟨F, hF, rfl⟩ := List.mem_map.mp hm
        rw [(leaf_oc (hf F hF) h hl).1]; rfl
    · rw [hv x hm]; rfl
  rw [on_field key]
  have none_all : ∀ (ws : List Fa) (p : Option (Bool × Bool) → Bool), p none = true → (∀ x ∈ ws, ∀ c, A_outcomes_on_field_2 x c = some none) → (ws.all fun x => p ((A_outcomes_on_field_2 x (B t)).getD none)) = true := fun ws p hp hw => by
    rw [List.all_eq_true]
    intro x hm
    rw [hw x hm]
    exact hp
  have mid : ∀ p : Option (Bool × Bool) → Bool, ((fs.map MkF).all fun x => p ((A_outcomes_on_field_2 x (B t)).getD none)) = fs.all fun F => p (oc t F) := fun p => by
    clear key
    induction fs with
    | nil => rfl
    | cons F r ih =>
      rw [List.map_cons, List.all_cons, List.all_cons, ih fun F hF => hf F (List.mem_cons_of_mem _ hF), (leaf_oc (hf F List.mem_cons_self) h hl).1]
      rfl
  rw [List.all_append, List.all_append, List.all_append, List.all_append, none_all us p1 rfl hu, none_all vs p1 rfl hv, none_all us p2 rfl hu, none_all vs p2 rfl hv, mid, mid, Bool.true_and, Bool.and_true, Bool.true_and, Bool.and_true]
theorem can_due {fs : List FT} {xs : List Fa} (hx : Ext fs xs) (hf : ∀ F ∈ fs, OkF F) : ∀ (n : Nat) (t : Tree), depT t < n → OkT t → ∃ r, (grp1 n).h_can_pass (B t) xs = some r ∧ (grp3 n).h_law_due t fs = some r
  | 0, _, h, _ => absurd h (Nat.not_lt_zero _)
  | n + 1, t, h, ho => by
    show ∃ r, S_can_pass (grp1 n) (B t) xs = some r ∧ S_law_due (grp3 n) t fs = some r
    have ih := can_due hx hf n
    cases t with
    | k_every => exact ⟨(true, false), by simp only [S_can_pass, B, Cond.is_Negation, Cond.is_Both, Cond.is_Either, Cond.is_Has, Cond.is_Compare, Cond.is_OneOf, Bool.false_eq_true, if_false, Bool.or_self], by simp only [S_law_due, decide_true, decide_false, Bool.false_eq_true, if_true, if_false, TP.bsome, TP.bnone, eq_self, Tree.tag_every, Tree.s_6_every, Tree.s_7_every, Tree.s_8_every, Tree.s_9_every, Tree.s_10_every, Tree.s_11_every, Tree.tag_has, Tree.s_6_has, Tree.s_7_has, Tree.s_8_has, Tree.s_9_has, Tree.s_10_has, Tree.s_11_has, Tree.tag_in, Tree.s_6_in, Tree.s_7_in, Tree.s_8_in, Tree.s_9_in, Tree.s_10_in, Tree.s_11_in, Tree.tag_compare, Tree.s_6_compare, Tree.s_7_compare, Tree.s_8_compare, Tree.s_9_compare, Tree.s_10_compare, Tree.s_11_compare, Tree.tag_not, Tree.s_6_not, Tree.s_7_not, Tree.s_8_not, Tree.s_9_not, Tree.s_10_not, Tree.s_11_not, Tree.tag_and, Tree.s_6_and, Tree.s_7_and, Tree.s_8_and, Tree.s_9_and, Tree.s_10_and, Tree.s_11_and, Tree.tag_or, Tree.s_6_or, Tree.s_7_or, Tree.s_8_or, Tree.s_9_or, Tree.s_10_or, Tree.s_11_or, Tree.ne_every_has, Tree.ne_every_in, Tree.ne_every_compare, Tree.ne_every_not, Tree.ne_every_and, Tree.ne_every_or, Tree.ne_every_parts, Tree.ne_every_cell, Tree.ne_every_box, Tree.ne_every_norms, Tree.ne_every_differ, Tree.ne_every_counts, Tree.ne_has_every, Tree.ne_has_in, Tree.ne_has_compare, Tree.ne_has_not, Tree.ne_has_and, Tree.ne_has_or, Tree.ne_has_parts, Tree.ne_has_cell, Tree.ne_has_box, Tree.ne_has_norms, Tree.ne_has_differ, Tree.ne_has_counts, Tree.ne_in_every, Tree.ne_in_has, Tree.ne_in_compare, Tree.ne_in_not, Tree.ne_in_and, Tree.ne_in_or, Tree.ne_in_parts, Tree.ne_in_cell, Tree.ne_in_box, Tree.ne_in_norms, Tree.ne_in_differ, Tree.ne_in_counts, Tree.ne_compare_every, Tree.ne_compare_has, Tree.ne_compare_in, Tree.ne_compare_not, Tree.ne_compare_and, Tree.ne_compare_or, Tree.ne_compare_parts, Tree.ne_compare_cell, Tree.ne_compare_box, Tree.ne_compare_norms, Tree.ne_compare_differ, Tree.ne_compare_counts, Tree.ne_not_every, Tree.ne_not_has, Tree.ne_not_in, Tree.ne_not_compare, Tree.ne_not_and, Tree.ne_not_or, Tree.ne_not_parts, Tree.ne_not_cell, Tree.ne_not_box, Tree.ne_not_norms, Tree.ne_not_differ, Tree.ne_not_counts, Tree.ne_and_every, Tree.ne_and_has, Tree.ne_and_in, Tree.ne_and_compare, Tree.ne_and_not, Tree.ne_and_or, Tree.ne_and_parts, Tree.ne_and_cell, Tree.ne_and_box, Tree.ne_and_norms, Tree.ne_and_differ, Tree.ne_and_counts, Tree.ne_or_every, Tree.ne_or_has, Tree.ne_or_in, Tree.ne_or_compare, Tree.ne_or_not, Tree.ne_or_and, Tree.ne_or_parts, Tree.ne_or_cell, Tree.ne_or_box, Tree.ne_or_norms, Tree.ne_or_differ, Tree.ne_or_counts, Tree.ne_parts_every, Tree.ne_parts_has, Tree.ne_parts_in, Tree.ne_parts_compare, Tree.ne_parts_not, Tree.ne_parts_and, Tree.ne_parts_or, Tree.ne_parts_cell, Tree.ne_parts_box, Tree.ne_parts_norms, Tree.ne_parts_differ, Tree.ne_parts_counts, Tree.ne_cell_every, Tree.ne_cell_has, Tree.ne_cell_in, Tree.ne_cell_compare, Tree.ne_cell_not, Tree.ne_cell_and, Tree.ne_cell_or, Tree.ne_cell_parts, Tree.ne_cell_box, Tree.ne_cell_norms, Tree.ne_cell_differ, Tree.ne_cell_counts, Tree.ne_box_every, Tree.ne_box_has, Tree.ne_box_in, Tree.ne_box_compare, Tree.ne_box_not, Tree.ne_box_and, Tree.ne_box_or, Tree.ne_box_parts, Tree.ne_box_cell, Tree.ne_box_norms, Tree.ne_box_differ, Tree.ne_box_counts, Tree.ne_norms_every, Tree.ne_norms_has, Tree.ne_norms_in, Tree.ne_norms_compare, Tree.ne_norms_not, Tree.ne_norms_and, Tree.ne_norms_or, Tree.ne_norms_parts, Tree.ne_norms_cell, Tree.ne_norms_box, Tree.ne_norms_differ, Tree.ne_norms_counts, Tree.ne_differ_every, Tree.ne_differ_has, Tree.ne_differ_in, Tree.ne_differ_compare, Tree.ne_differ_not, Tree.ne_differ_and, Tree.ne_differ_or, Tree.ne_differ_parts, Tree.ne_differ_cell, Tree.ne_differ_box, Tree.ne_differ_norms, Tree.ne_differ_counts, Tree.ne_counts_every, Tree.ne_counts_has, Tree.ne_counts_in, Tree.ne_counts_compare, Tree.ne_counts_not, Tree.ne_counts_and, Tree.ne_counts_or, Tree.ne_counts_parts, Tree.ne_counts_cell, Tree.ne_counts_box, Tree.ne_counts_norms, Tree.ne_counts_differ]⟩
    | k_has f =>
      have hl : Leaf (.k_has f) f := .inl rfl
      refine ⟨(fs.all (fun F => p1 (oc (.k_has f) F)), fs.all (fun F => p2 (oc (.k_has f) F))), ?_, ?_⟩
      rotate_left
      · simp only [S_law_due, decide_true, decide_false, Bool.false_eq_true, if_true, if_false, TP.bsome, TP.bnone, eq_self, Tree.tag_every, Tree.s_6_every, Tree.s_7_every, Tree.s_8_every, Tree.s_9_every, Tree.s_10_every, Tree.s_11_every, Tree.tag_has, Tree.s_6_has, Tree.s_7_has, Tree.s_8_has, Tree.s_9_has, Tree.s_10_has, Tree.s_11_has, Tree.tag_in, Tree.s_6_in, Tree.s_7_in, Tree.s_8_in, Tree.s_9_in, Tree.s_10_in, Tree.s_11_in, Tree.tag_compare, Tree.s_6_compare, Tree.s_7_compare, Tree.s_8_compare, Tree.s_9_compare, Tree.s_10_compare, Tree.s_11_compare, Tree.tag_not, Tree.s_6_not, Tree.s_7_not, Tree.s_8_not, Tree.s_9_not, Tree.s_10_not, Tree.s_11_not, Tree.tag_and, Tree.s_6_and, Tree.s_7_and, Tree.s_8_and, Tree.s_9_and, Tree.s_10_and, Tree.s_11_and, Tree.tag_or, Tree.s_6_or, Tree.s_7_or, Tree.s_8_or, Tree.s_9_or, Tree.s_10_or, Tree.s_11_or, Tree.ne_every_has, Tree.ne_every_in, Tree.ne_every_compare, Tree.ne_every_not, Tree.ne_every_and, Tree.ne_every_or, Tree.ne_every_parts, Tree.ne_every_cell, Tree.ne_every_box, Tree.ne_every_norms, Tree.ne_every_differ, Tree.ne_every_counts, Tree.ne_has_every, Tree.ne_has_in, Tree.ne_has_compare, Tree.ne_has_not, Tree.ne_has_and, Tree.ne_has_or, Tree.ne_has_parts, Tree.ne_has_cell, Tree.ne_has_box, Tree.ne_has_norms, Tree.ne_has_differ, Tree.ne_has_counts, Tree.ne_in_every, Tree.ne_in_has, Tree.ne_in_compare, Tree.ne_in_not, Tree.ne_in_and, Tree.ne_in_or, Tree.ne_in_parts, Tree.ne_in_cell, Tree.ne_in_box, Tree.ne_in_norms, Tree.ne_in_differ, Tree.ne_in_counts, Tree.ne_compare_every, Tree.ne_compare_has, Tree.ne_compare_in, Tree.ne_compare_not, Tree.ne_compare_and, Tree.ne_compare_or, Tree.ne_compare_parts, Tree.ne_compare_cell, Tree.ne_compare_box, Tree.ne_compare_norms, Tree.ne_compare_differ, Tree.ne_compare_counts, Tree.ne_not_every, Tree.ne_not_has, Tree.ne_not_in, Tree.ne_not_compare, Tree.ne_not_and, Tree.ne_not_or, Tree.ne_not_parts, Tree.ne_not_cell, Tree.ne_not_box, Tree.ne_not_norms, Tree.ne_not_differ, Tree.ne_not_counts, Tree.ne_and_every, Tree.ne_and_has, Tree.ne_and_in, Tree.ne_and_compare, Tree.ne_and_not, Tree.ne_and_or, Tree.ne_and_parts, Tree.ne_and_cell, Tree.ne_and_box, Tree.ne_and_norms, Tree.ne_and_differ, Tree.ne_and_counts, Tree.ne_or_every, Tree.ne_or_has, Tree.ne_or_in, Tree.ne_or_compare, Tree.ne_or_not, Tree.ne_or_and, Tree.ne_or_parts, Tree.ne_or_cell, Tree.ne_or_box, Tree.ne_or_norms, Tree.ne_or_differ, Tree.ne_or_counts, Tree.ne_parts_every, Tree.ne_parts_has, Tree.ne_parts_in, Tree.ne_parts_compare, Tree.ne_parts_not, Tree.ne_parts_and, Tree.ne_parts_or, Tree.ne_parts_cell, Tree.ne_parts_box, Tree.ne_parts_norms, Tree.ne_parts_differ, Tree.ne_parts_counts, Tree.ne_cell_every, Tree.ne_cell_has, Tree.ne_cell_in, Tree.ne_cell_compare, Tree.ne_cell_not, Tree.ne_cell_and, Tree.ne_cell_or, Tree.ne_cell_parts, Tree.ne_cell_box, Tree.ne_cell_norms, Tree.ne_cell_differ, Tree.ne_cell_counts, Tree.ne_box_every, Tree.ne_box_has, Tree.ne_box_in, Tree.ne_box_compare, Tree.ne_box_not, Tree.ne_box_and, Tree.ne_box_or, Tree.ne_box_parts, Tree.ne_box_cell, Tree.ne_box_norms, Tree.ne_box_differ, Tree.ne_box_counts, Tree.ne_norms_every, Tree.ne_norms_has, Tree.ne_norms_in, Tree.ne_norms_compare, Tree.ne_norms_not, Tree.ne_norms_and, Tree.ne_norms_or, Tree.ne_norms_parts, Tree.ne_norms_cell, Tree.ne_norms_box, Tree.ne_norms_differ, Tree.ne_norms_counts, Tree.ne_differ_every, Tree.ne_differ_has, Tree.ne_differ_in, Tree.ne_differ_compare, Tree.ne_differ_not, Tree.ne_differ_and, Tree.ne_differ_or, Tree.ne_differ_parts, Tree.ne_differ_cell, Tree.ne_differ_box, Tree.ne_differ_norms, Tree.ne_differ_counts, Tree.ne_counts_every, Tree.ne_counts_has, Tree.ne_counts_in, Tree.ne_counts_compare, Tree.ne_counts_not, Tree.ne_counts_and, Tree.ne_counts_or, Tree.ne_counts_parts, Tree.ne_counts_cell, Tree.ne_counts_box, Tree.ne_counts_norms, Tree.ne_counts_differ, List.mem_cons, List.not_mem_nil, or_self, due_loop ho hl fs (true, true) hf, Bool.true_and]
      · have e := on_ext hx hf ho hl
        unfold S_can_pass
        have a1 : (B (.k_has f)).is_Negation = false := rfl
        have a2 : (B (.k_has f)).is_Both = false := rfl
        have a3 : (B (.k_has f)).is_Either = false := rfl
        have a4 : ((B (.k_has f)).is_Has || ((B (.k_has f)).is_Compare || ((B (.k_has f)).is_OneOf || false))) = true := rfl
        rw [a1, a2, a3, a4, if_neg (by decide), if_neg (by decide), if_neg (by decide), if_pos rfl, e, bsome]
    | k_in f vs =>
      have hl : Leaf (.k_in f vs) f := .inr (.inl ⟨vs, rfl⟩)
      refine ⟨(fs.all (fun F => p1 (oc (.k_in f vs) F)), fs.all (fun F => p2 (oc (.k_in f vs) F))), ?_, ?_⟩
      rotate_left
      · simp only [S_law_due, decide_true, decide_false, Bool.false_eq_true, if_true, if_false, TP.bsome, TP.bnone, eq_self, Tree.tag_every, Tree.s_6_every, Tree.s_7_every, Tree.s_8_every, Tree.s_9_every, Tree.s_10_every, Tree.s_11_every, Tree.tag_has, Tree.s_6_has, Tree.s_7_has, Tree.s_8_has, Tree.s_9_has, Tree.s_10_has, Tree.s_11_has, Tree.tag_in, Tree.s_6_in, Tree.s_7_in, Tree.s_8_in, Tree.s_9_in, Tree.s_10_in, Tree.s_11_in, Tree.tag_compare, Tree.s_6_compare, Tree.s_7_compare, Tree.s_8_compare, Tree.s_9_compare, Tree.s_10_compare, Tree.s_11_compare, Tree.tag_not, Tree.s_6_not, Tree.s_7_not, Tree.s_8_not, Tree.s_9_not, Tree.s_10_not, Tree.s_11_not, Tree.tag_and, Tree.s_6_and, Tree.s_7_and, Tree.s_8_and, Tree.s_9_and, Tree.s_10_and, Tree.s_11_and, Tree.tag_or, Tree.s_6_or, Tree.s_7_or, Tree.s_8_or, Tree.s_9_or, Tree.s_10_or, Tree.s_11_or, Tree.ne_every_has, Tree.ne_every_in, Tree.ne_every_compare, Tree.ne_every_not, Tree.ne_every_and, Tree.ne_every_or, Tree.ne_every_parts, Tree.ne_every_cell, Tree.ne_every_box, Tree.ne_every_norms, Tree.ne_every_differ, Tree.ne_every_counts, Tree.ne_has_every, Tree.ne_has_in, Tree.ne_has_compare, Tree.ne_has_not, Tree.ne_has_and, Tree.ne_has_or, Tree.ne_has_parts, Tree.ne_has_cell, Tree.ne_has_box, Tree.ne_has_norms, Tree.ne_has_differ, Tree.ne_has_counts, Tree.ne_in_every, Tree.ne_in_has, Tree.ne_in_compare, Tree.ne_in_not, Tree.ne_in_and, Tree.ne_in_or, Tree.ne_in_parts, Tree.ne_in_cell, Tree.ne_in_box, Tree.ne_in_norms, Tree.ne_in_differ, Tree.ne_in_counts, Tree.ne_compare_every, Tree.ne_compare_has, Tree.ne_compare_in, Tree.ne_compare_not, Tree.ne_compare_and, Tree.ne_compare_or, Tree.ne_compare_parts, Tree.ne_compare_cell, Tree.ne_compare_box, Tree.ne_compare_norms, Tree.ne_compare_differ, Tree.ne_compare_counts, Tree.ne_not_every, Tree.ne_not_has, Tree.ne_not_in, Tree.ne_not_compare, Tree.ne_not_and, Tree.ne_not_or, Tree.ne_not_parts, Tree.ne_not_cell, Tree.ne_not_box, Tree.ne_not_norms, Tree.ne_not_differ, Tree.ne_not_counts, Tree.ne_and_every, Tree.ne_and_has, Tree.ne_and_in, Tree.ne_and_compare, Tree.ne_and_not, Tree.ne_and_or, Tree.ne_and_parts, Tree.ne_and_cell, Tree.ne_and_box, Tree.ne_and_norms, Tree.ne_and_differ, Tree.ne_and_counts, Tree.ne_or_every, Tree.ne_or_has, Tree.ne_or_in, Tree.ne_or_compare, Tree.ne_or_not, Tree.ne_or_and, Tree.ne_or_parts, Tree.ne_or_cell, Tree.ne_or_box, Tree.ne_or_norms, Tree.ne_or_differ, Tree.ne_or_counts, Tree.ne_parts_every, Tree.ne_parts_has, Tree.ne_parts_in, Tree.ne_parts_compare, Tree.ne_parts_not, Tree.ne_parts_and, Tree.ne_parts_or, Tree.ne_parts_cell, Tree.ne_parts_box, Tree.ne_parts_norms, Tree.ne_parts_differ, Tree.ne_parts_counts, Tree.ne_cell_every, Tree.ne_cell_has, Tree.ne_cell_in, Tree.ne_cell_compare, Tree.ne_cell_not, Tree.ne_cell_and, Tree.ne_cell_or, Tree.ne_cell_parts, Tree.ne_cell_box, Tree.ne_cell_norms, Tree.ne_cell_differ, Tree.ne_cell_counts, Tree.ne_box_every, Tree.ne_box_has, Tree.ne_box_in, Tree.ne_box_compare, Tree.ne_box_not, Tree.ne_box_and, Tree.ne_box_or, Tree.ne_box_parts, Tree.ne_box_cell, Tree.ne_box_norms, Tree.ne_box_differ, Tree.ne_box_counts, Tree.ne_norms_every, Tree.ne_norms_has, Tree.ne_norms_in, Tree.ne_norms_compare, Tree.ne_norms_not, Tree.ne_norms_and, Tree.ne_norms_or, Tree.ne_norms_parts, Tree.ne_norms_cell, Tree.ne_norms_box, Tree.ne_norms_differ, Tree.ne_norms_counts, Tree.ne_differ_every, Tree.ne_differ_has, Tree.ne_differ_in, Tree.ne_differ_compare, Tree.ne_differ_not, Tree.ne_differ_and, Tree.ne_differ_or, Tree.ne_differ_parts, Tree.ne_differ_cell, Tree.ne_differ_box, Tree.ne_differ_norms, Tree.ne_differ_counts, Tree.ne_counts_every, Tree.ne_counts_has, Tree.ne_counts_in, Tree.ne_counts_compare, Tree.ne_counts_not, Tree.ne_counts_and, Tree.ne_counts_or, Tree.ne_counts_parts, Tree.ne_counts_cell, Tree.ne_counts_box, Tree.ne_counts_norms, Tree.ne_counts_differ, List.mem_cons, List.not_mem_nil, or_self, due_loop ho hl fs (true, true) hf, Bool.true_and]
      · have e := on_ext hx hf ho hl
        unfold S_can_pass
        have a1 : (B (.k_in f vs)).is_Negation = false := rfl
        have a2 : (B (.k_in f vs)).is_Both = false := rfl
        have a3 : (B (.k_in f vs)).is_Either = false := rfl
        have a4 : ((B (.k_in f vs)).is_Has || ((B (.k_in f vs)).is_Compare || ((B (.k_in f vs)).is_OneOf || false))) = true := rfl
        rw [a1, a2, a3, a4, if_neg (by decide), if_neg (by decide), if_neg (by decide), if_pos rfl, e, bsome]
    | k_compare f sg v =>
      have hl : Leaf (.k_compare f sg v) f := .inr (.inr ⟨sg, v, rfl⟩)
      refine ⟨(fs.all (fun F => p1 (oc (.k_compare f sg v) F)), fs.all (fun F => p2 (oc (.k_compare f sg v) F))), ?_, ?_⟩
      rotate_left
      · simp only [S_law_due, decide_true, decide_false, Bool.false_eq_true, if_true, if_false, TP.bsome, TP.bnone, eq_self, Tree.tag_every, Tree.s_6_every, Tree.s_7_every, Tree.s_8_every, Tree.s_9_every, Tree.s_10_every, Tree.s_11_every, Tree.tag_has, Tree.s_6_has, Tree.s_7_has, Tree.s_8_has, Tree.s_9_has, Tree.s_10_has, Tree.s_11_has, Tree.tag_in, Tree.s_6_in, Tree.s_7_in, Tree.s_8_in, Tree.s_9_in, Tree.s_10_in, Tree.s_11_in, Tree.tag_compare, Tree.s_6_compare, Tree.s_7_compare, Tree.s_8_compare, Tree.s_9_compare, Tree.s_10_compare, Tree.s_11_compare, Tree.tag_not, Tree.s_6_not, Tree.s_7_not, Tree.s_8_not, Tree.s_9_not, Tree.s_10_not, Tree.s_11_not, Tree.tag_and, Tree.s_6_and, Tree.s_7_and, Tree.s_8_and, Tree.s_9_and, Tree.s_10_and, Tree.s_11_and, Tree.tag_or, Tree.s_6_or, Tree.s_7_or, Tree.s_8_or, Tree.s_9_or, Tree.s_10_or, Tree.s_11_or, Tree.ne_every_has, Tree.ne_every_in, Tree.ne_every_compare, Tree.ne_every_not, Tree.ne_every_and, Tree.ne_every_or, Tree.ne_every_parts, Tree.ne_every_cell, Tree.ne_every_box, Tree.ne_every_norms, Tree.ne_every_differ, Tree.ne_every_counts, Tree.ne_has_every, Tree.ne_has_in, Tree.ne_has_compare, Tree.ne_has_not, Tree.ne_has_and, Tree.ne_has_or, Tree.ne_has_parts, Tree.ne_has_cell, Tree.ne_has_box, Tree.ne_has_norms, Tree.ne_has_differ, Tree.ne_has_counts, Tree.ne_in_every, Tree.ne_in_has, Tree.ne_in_compare, Tree.ne_in_not, Tree.ne_in_and, Tree.ne_in_or, Tree.ne_in_parts, Tree.ne_in_cell, Tree.ne_in_box, Tree.ne_in_norms, Tree.ne_in_differ, Tree.ne_in_counts, Tree.ne_compare_every, Tree.ne_compare_has, Tree.ne_compare_in, Tree.ne_compare_not, Tree.ne_compare_and, Tree.ne_compare_or, Tree.ne_compare_parts, Tree.ne_compare_cell, Tree.ne_compare_box, Tree.ne_compare_norms, Tree.ne_compare_differ, Tree.ne_compare_counts, Tree.ne_not_every, Tree.ne_not_has, Tree.ne_not_in, Tree.ne_not_compare, Tree.ne_not_and, Tree.ne_not_or, Tree.ne_not_parts, Tree.ne_not_cell, Tree.ne_not_box, Tree.ne_not_norms, Tree.ne_not_differ, Tree.ne_not_counts, Tree.ne_and_every, Tree.ne_and_has, Tree.ne_and_in, Tree.ne_and_compare, Tree.ne_and_not, Tree.ne_and_or, Tree.ne_and_parts, Tree.ne_and_cell, Tree.ne_and_box, Tree.ne_and_norms, Tree.ne_and_differ, Tree.ne_and_counts, Tree.ne_or_every, Tree.ne_or_has, Tree.ne_or_in, Tree.ne_or_compare, Tree.ne_or_not, Tree.ne_or_and, Tree.ne_or_parts, Tree.ne_or_cell, Tree.ne_or_box, Tree.ne_or_norms, Tree.ne_or_differ, Tree.ne_or_counts, Tree.ne_parts_every, Tree.ne_parts_has, Tree.ne_parts_in, Tree.ne_parts_compare, Tree.ne_parts_not, Tree.ne_parts_and, Tree.ne_parts_or, Tree.ne_parts_cell, Tree.ne_parts_box, Tree.ne_parts_norms, Tree.ne_parts_differ, Tree.ne_parts_counts, Tree.ne_cell_every, Tree.ne_cell_has, Tree.ne_cell_in, Tree.ne_cell_compare, Tree.ne_cell_not, Tree.ne_cell_and, Tree.ne_cell_or, Tree.ne_cell_parts, Tree.ne_cell_box, Tree.ne_cell_norms, Tree.ne_cell_differ, Tree.ne_cell_counts, Tree.ne_box_every, Tree.ne_box_has, Tree.ne_box_in, Tree.ne_box_compare, Tree.ne_box_not, Tree.ne_box_and, Tree.ne_box_or, Tree.ne_box_parts, Tree.ne_box_cell, Tree.ne_box_norms, Tree.ne_box_differ, Tree.ne_box_counts, Tree.ne_norms_every, Tree.ne_norms_has, Tree.ne_norms_in, Tree.ne_norms_compare, Tree.ne_norms_not, Tree.ne_norms_and, Tree.ne_norms_or, Tree.ne_norms_parts, Tree.ne_norms_cell, Tree.ne_norms_box, Tree.ne_norms_differ, Tree.ne_norms_counts, Tree.ne_differ_every, Tree.ne_differ_has, Tree.ne_differ_in, Tree.ne_differ_compare, Tree.ne_differ_not, Tree.ne_differ_and, Tree.ne_differ_or, Tree.ne_differ_parts, Tree.ne_differ_cell, Tree.ne_differ_box, Tree.ne_differ_norms, Tree.ne_differ_counts, Tree.ne_counts_every, Tree.ne_counts_has, Tree.ne_counts_in, Tree.ne_counts_compare, Tree.ne_counts_not, Tree.ne_counts_and, Tree.ne_counts_or, Tree.ne_counts_parts, Tree.ne_counts_cell, Tree.ne_counts_box, Tree.ne_counts_norms, Tree.ne_counts_differ, List.mem_cons, List.not_mem_nil, or_self, due_loop ho hl fs (true, true) hf, Bool.true_and]
      · have e := on_ext hx hf ho hl
        unfold S_can_pass
        have a1 : (B (.k_compare f sg v)).is_Negation = false := rfl
        have a2 : (B (.k_compare f sg v)).is_Both = false := rfl
        have a3 : (B (.k_compare f sg v)).is_Either = false := rfl
        have a4 : ((B (.k_compare f sg v)).is_Has || ((B (.k_compare f sg v)).is_Compare || ((B (.k_compare f sg v)).is_OneOf || false))) = true := rfl
        rw [a1, a2, a3, a4, if_neg (by decide), if_neg (by decide), if_neg (by decide), if_pos rfl, e, bsome]
    | k_not a =>
      have h : depT a + 1 < n + 1 := h
      obtain ⟨r, e1, e2⟩ := ih a (by omega) ho
      refine ⟨(r.2, r.1), ?_, ?_⟩
      · unfold S_can_pass
        have a1 : (B (.k_not a)).is_Negation = true := rfl
        have b1 : (B (.k_not a)).p_neg = some ⟨B a⟩ := rfl
        rw [a1, if_pos rfl, b1, bsome, e1, bsome]
      · simp only [S_law_due, decide_true, decide_false, Bool.false_eq_true, if_true, if_false, TP.bsome, TP.bnone, eq_self, Tree.tag_every, Tree.s_6_every, Tree.s_7_every, Tree.s_8_every, Tree.s_9_every, Tree.s_10_every, Tree.s_11_every, Tree.tag_has, Tree.s_6_has, Tree.s_7_has, Tree.s_8_has, Tree.s_9_has, Tree.s_10_has, Tree.s_11_has, Tree.tag_in, Tree.s_6_in, Tree.s_7_in, Tree.s_8_in, Tree.s_9_in, Tree.s_10_in, Tree.s_11_in, Tree.tag_compare, Tree.s_6_compare, Tree.s_7_compare, Tree.s_8_compare, Tree.s_9_compare, Tree.s_10_compare, Tree.s_11_compare, Tree.tag_not, Tree.s_6_not, Tree.s_7_not, Tree.s_8_not, Tree.s_9_not, Tree.s_10_not, Tree.s_11_not, Tree.tag_and, Tree.s_6_and, Tree.s_7_and, Tree.s_8_and, Tree.s_9_and, Tree.s_10_and, Tree.s_11_and, Tree.tag_or, Tree.s_6_or, Tree.s_7_or, Tree.s_8_or, Tree.s_9_or, Tree.s_10_or, Tree.s_11_or, Tree.ne_every_has, Tree.ne_every_in, Tree.ne_every_compare, Tree.ne_every_not, Tree.ne_every_and, Tree.ne_every_or, Tree.ne_every_parts, Tree.ne_every_cell, Tree.ne_every_box, Tree.ne_every_norms, Tree.ne_every_differ, Tree.ne_every_counts, Tree.ne_has_every, Tree.ne_has_in, Tree.ne_has_compare, Tree.ne_has_not, Tree.ne_has_and, Tree.ne_has_or, Tree.ne_has_parts, Tree.ne_has_cell, Tree.ne_has_box, Tree.ne_has_norms, Tree.ne_has_differ, Tree.ne_has_counts, Tree.ne_in_every, Tree.ne_in_has, Tree.ne_in_compare, Tree.ne_in_not, Tree.ne_in_and, Tree.ne_in_or, Tree.ne_in_parts, Tree.ne_in_cell, Tree.ne_in_box, Tree.ne_in_norms, Tree.ne_in_differ, Tree.ne_in_counts, Tree.ne_compare_every, Tree.ne_compare_has, Tree.ne_compare_in, Tree.ne_compare_not, Tree.ne_compare_and, Tree.ne_compare_or, Tree.ne_compare_parts, Tree.ne_compare_cell, Tree.ne_compare_box, Tree.ne_compare_norms, Tree.ne_compare_differ, Tree.ne_compare_counts, Tree.ne_not_every, Tree.ne_not_has, Tree.ne_not_in, Tree.ne_not_compare, Tree.ne_not_and, Tree.ne_not_or, Tree.ne_not_parts, Tree.ne_not_cell, Tree.ne_not_box, Tree.ne_not_norms, Tree.ne_not_differ, Tree.ne_not_counts, Tree.ne_and_every, Tree.ne_and_has, Tree.ne_and_in, Tree.ne_and_compare, Tree.ne_and_not, Tree.ne_and_or, Tree.ne_and_parts, Tree.ne_and_cell, Tree.ne_and_box, Tree.ne_and_norms, Tree.ne_and_differ, Tree.ne_and_counts, Tree.ne_or_every, Tree.ne_or_has, Tree.ne_or_in, Tree.ne_or_compare, Tree.ne_or_not, Tree.ne_or_and, Tree.ne_or_parts, Tree.ne_or_cell, Tree.ne_or_box, Tree.ne_or_norms, Tree.ne_or_differ, Tree.ne_or_counts, Tree.ne_parts_every, Tree.ne_parts_has, Tree.ne_parts_in, Tree.ne_parts_compare, Tree.ne_parts_not, Tree.ne_parts_and, Tree.ne_parts_or, Tree.ne_parts_cell, Tree.ne_parts_box, Tree.ne_parts_norms, Tree.ne_parts_differ, Tree.ne_parts_counts, Tree.ne_cell_every, Tree.ne_cell_has, Tree.ne_cell_in, Tree.ne_cell_compare, Tree.ne_cell_not, Tree.ne_cell_and, Tree.ne_cell_or, Tree.ne_cell_parts, Tree.ne_cell_box, Tree.ne_cell_norms, Tree.ne_cell_differ, Tree.ne_cell_counts, Tree.ne_box_every, Tree.ne_box_has, Tree.ne_box_in, Tree.ne_box_compare, Tree.ne_box_not, Tree.ne_box_and, Tree.ne_box_or, Tree.ne_box_parts, Tree.ne_box_cell, Tree.ne_box_norms, Tree.ne_box_differ, Tree.ne_box_counts, Tree.ne_norms_every, Tree.ne_norms_has, Tree.ne_norms_in, Tree.ne_norms_compare, Tree.ne_norms_not, Tree.ne_norms_and, Tree.ne_norms_or, Tree.ne_norms_parts, Tree.ne_norms_cell, Tree.ne_norms_box, Tree.ne_norms_differ, Tree.ne_norms_counts, Tree.ne_differ_every, Tree.ne_differ_has, Tree.ne_differ_in, Tree.ne_differ_compare, Tree.ne_differ_not, Tree.ne_differ_and, Tree.ne_differ_or, Tree.ne_differ_parts, Tree.ne_differ_cell, Tree.ne_differ_box, Tree.ne_differ_norms, Tree.ne_differ_counts, Tree.ne_counts_every, Tree.ne_counts_has, Tree.ne_counts_in, Tree.ne_counts_compare, Tree.ne_counts_not, Tree.ne_counts_and, Tree.ne_counts_or, Tree.ne_counts_parts, Tree.ne_counts_cell, Tree.ne_counts_box, Tree.ne_counts_norms, Tree.ne_counts_differ, e2]
    | k_and a b =>
      have h : max (depT a) (depT b) + 1 < n + 1 := h
      obtain ⟨r, e1, e2⟩ := ih a (by omega) ho.1
      obtain ⟨q, f1, f2⟩ := ih b (by omega) ho.2
      refine ⟨(r.1 && q.1, r.2 || q.2), ?_, ?_⟩
      · unfold S_can_pass
        have a1 : (B (.k_and a b)).is_Negation = false := rfl
        have a2 : (B (.k_and a b)).is_Both = true := rfl
        have b1 : (B (.k_and a b)).p_both = some ⟨B a, B b⟩ := rfl
        rw [a1, a2, if_neg (by decide), if_pos rfl, b1, bsome, e1, bsome, bsome, f1, bsome]
      · have m : decide (("and" : Str) ∈ [("and" : Str), ("or" : Str)]) = true := by decide +kernel
        simp only [S_law_due, decide_true, decide_false, Bool.false_eq_true, if_true, if_false, TP.bsome, TP.bnone, eq_self, Tree.tag_every, Tree.s_6_every, Tree.s_7_every, Tree.s_8_every, Tree.s_9_every, Tree.s_10_every, Tree.s_11_every, Tree.tag_has, Tree.s_6_has, Tree.s_7_has, Tree.s_8_has, Tree.s_9_has, Tree.s_10_has, Tree.s_11_has, Tree.tag_in, Tree.s_6_in, Tree.s_7_in, Tree.s_8_in, Tree.s_9_in, Tree.s_10_in, Tree.s_11_in, Tree.tag_compare, Tree.s_6_compare, Tree.s_7_compare, Tree.s_8_compare, Tree.s_9_compare, Tree.s_10_compare, Tree.s_11_compare, Tree.tag_not, Tree.s_6_not, Tree.s_7_not, Tree.s_8_not, Tree.s_9_not, Tree.s_10_not, Tree.s_11_not, Tree.tag_and, Tree.s_6_and, Tree.s_7_and, Tree.s_8_and, Tree.s_9_and, Tree.s_10_and, Tree.s_11_and, Tree.tag_or, Tree.s_6_or, Tree.s_7_or, Tree.s_8_or, Tree.s_9_or, Tree.s_10_or, Tree.s_11_or, Tree.ne_every_has, Tree.ne_every_in, Tree.ne_every_compare, Tree.ne_every_not, Tree.ne_every_and, Tree.ne_every_or, Tree.ne_every_parts, Tree.ne_every_cell, Tree.ne_every_box, Tree.ne_every_norms, Tree.ne_every_differ, Tree.ne_every_counts, Tree.ne_has_every, Tree.ne_has_in, Tree.ne_has_compare, Tree.ne_has_not, Tree.ne_has_and, Tree.ne_has_or, Tree.ne_has_parts, Tree.ne_has_cell, Tree.ne_has_box, Tree.ne_has_norms, Tree.ne_has_differ, Tree.ne_has_counts, Tree.ne_in_every, Tree.ne_in_has, Tree.ne_in_compare, Tree.ne_in_not, Tree.ne_in_and, Tree.ne_in_or, Tree.ne_in_parts, Tree.ne_in_cell, Tree.ne_in_box, Tree.ne_in_norms, Tree.ne_in_differ, Tree.ne_in_counts, Tree.ne_compare_every, Tree.ne_compare_has, Tree.ne_compare_in, Tree.ne_compare_not, Tree.ne_compare_and, Tree.ne_compare_or, Tree.ne_compare_parts, Tree.ne_compare_cell, Tree.ne_compare_box, Tree.ne_compare_norms, Tree.ne_compare_differ, Tree.ne_compare_counts, Tree.ne_not_every, Tree.ne_not_has, Tree.ne_not_in, Tree.ne_not_compare, Tree.ne_not_and, Tree.ne_not_or, Tree.ne_not_parts, Tree.ne_not_cell, Tree.ne_not_box, Tree.ne_not_norms, Tree.ne_not_differ, Tree.ne_not_counts, Tree.ne_and_every, Tree.ne_and_has, Tree.ne_and_in, Tree.ne_and_compare, Tree.ne_and_not, Tree.ne_and_or, Tree.ne_and_parts, Tree.ne_and_cell, Tree.ne_and_box, Tree.ne_and_norms, Tree.ne_and_differ, Tree.ne_and_counts, Tree.ne_or_every, Tree.ne_or_has, Tree.ne_or_in, Tree.ne_or_compare, Tree.ne_or_not, Tree.ne_or_and, Tree.ne_or_parts, Tree.ne_or_cell, Tree.ne_or_box, Tree.ne_or_norms, Tree.ne_or_differ, Tree.ne_or_counts, Tree.ne_parts_every, Tree.ne_parts_has, Tree.ne_parts_in, Tree.ne_parts_compare, Tree.ne_parts_not, Tree.ne_parts_and, Tree.ne_parts_or, Tree.ne_parts_cell, Tree.ne_parts_box, Tree.ne_parts_norms, Tree.ne_parts_differ, Tree.ne_parts_counts, Tree.ne_cell_every, Tree.ne_cell_has, Tree.ne_cell_in, Tree.ne_cell_compare, Tree.ne_cell_not, Tree.ne_cell_and, Tree.ne_cell_or, Tree.ne_cell_parts, Tree.ne_cell_box, Tree.ne_cell_norms, Tree.ne_cell_differ, Tree.ne_cell_counts, Tree.ne_box_every, Tree.ne_box_has, Tree.ne_box_in, Tree.ne_box_compare, Tree.ne_box_not, Tree.ne_box_and, Tree.ne_box_or, Tree.ne_box_parts, Tree.ne_box_cell, Tree.ne_box_norms, Tree.ne_box_differ, Tree.ne_box_counts, Tree.ne_norms_every, Tree.ne_norms_has, Tree.ne_norms_in, Tree.ne_norms_compare, Tree.ne_norms_not, Tree.ne_norms_and, Tree.ne_norms_or, Tree.ne_norms_parts, Tree.ne_norms_cell, Tree.ne_norms_box, Tree.ne_norms_differ, Tree.ne_norms_counts, Tree.ne_differ_every, Tree.ne_differ_has, Tree.ne_differ_in, Tree.ne_differ_compare, Tree.ne_differ_not, Tree.ne_differ_and, Tree.ne_differ_or, Tree.ne_differ_parts, Tree.ne_differ_cell, Tree.ne_differ_box, Tree.ne_differ_norms, Tree.ne_differ_counts, Tree.ne_counts_every, Tree.ne_counts_has, Tree.ne_counts_in, Tree.ne_counts_compare, Tree.ne_counts_not, Tree.ne_counts_and, Tree.ne_counts_or, Tree.ne_counts_parts, Tree.ne_counts_cell, Tree.ne_counts_box, Tree.ne_counts_norms, Tree.ne_counts_differ, m, e2, f2]
    | k_or a b =>
      have h : max (depT a) (depT b) + 1 < n + 1 := h
      obtain ⟨r, e1, e2⟩ := ih a (by omega) ho.1
      obtain ⟨q, f1, f2⟩ := ih b (by omega) ho.2
      refine ⟨(r.1 || q.1, r.2 && q.2), ?_, ?_⟩
      · unfold S_can_pass
        have a1 : (B (.k_or a b)).is_Negation = false := rfl
        have a2 : (B (.k_or a b)).is_Both = false := rfl
        have a3 : (B (.k_or a b)).is_Either = true := rfl
        have b1 : (B (.k_or a b)).p_either = some ⟨B a, B b⟩ := rfl
        rw [a1, a2, a3, if_neg (by decide), if_neg (by decide), if_pos rfl, b1, bsome, e1, bsome, bsome, f1, bsome]
      · have m : decide (("or" : Str) ∈ [("and" : Str), ("or" : Str)]) = true := by decide +kernel
        simp only [S_law_due, decide_true, decide_false, Bool.false_eq_true, if_true, if_false, TP.bsome, TP.bnone, eq_self, Tree.tag_every, Tree.s_6_every, Tree.s_7_every, Tree.s_8_every, Tree.s_9_every, Tree.s_10_every, Tree.s_11_every, Tree.tag_has, Tree.s_6_has, Tree.s_7_has, Tree.s_8_has, Tree.s_9_has, Tree.s_10_has, Tree.s_11_has, Tree.tag_in, Tree.s_6_in, Tree.s_7_in, Tree.s_8_in, Tree.s_9_in, Tree.s_10_in, Tree.s_11_in, Tree.tag_compare, Tree.s_6_compare, Tree.s_7_compare, Tree.s_8_compare, Tree.s_9_compare, Tree.s_10_compare, Tree.s_11_compare, Tree.tag_not, Tree.s_6_not, Tree.s_7_not, Tree.s_8_not, Tree.s_9_not, Tree.s_10_not, Tree.s_11_not, Tree.tag_and, Tree.s_6_and, Tree.s_7_and, Tree.s_8_and, Tree.s_9_and, Tree.s_10_and, Tree.s_11_and, Tree.tag_or, Tree.s_6_or, Tree.s_7_or, Tree.s_8_or, Tree.s_9_or, Tree.s_10_or, Tree.s_11_or, Tree.ne_every_has, Tree.ne_every_in, Tree.ne_every_compare, Tree.ne_every_not, Tree.ne_every_and, Tree.ne_every_or, Tree.ne_every_parts, Tree.ne_every_cell, Tree.ne_every_box, Tree.ne_every_norms, Tree.ne_every_differ, Tree.ne_every_counts, Tree.ne_has_every, Tree.ne_has_in, Tree.ne_has_compare, Tree.ne_has_not, Tree.ne_has_and, Tree.ne_has_or, Tree.ne_has_parts, Tree.ne_has_cell, Tree.ne_has_box, Tree.ne_has_norms, Tree.ne_has_differ, Tree.ne_has_counts, Tree.ne_in_every, Tree.ne_in_has, Tree.ne_in_compare, Tree.ne_in_not, Tree.ne_in_and, Tree.ne_in_or, Tree.ne_in_parts, Tree.ne_in_cell, Tree.ne_in_box, Tree.ne_in_norms, Tree.ne_in_differ, Tree.ne_in_counts, Tree.ne_compare_every, Tree.ne_compare_has, Tree.ne_compare_in, Tree.ne_compare_not, Tree.ne_compare_and, Tree.ne_compare_or, Tree.ne_compare_parts, Tree.ne_compare_cell, Tree.ne_compare_box, Tree.ne_compare_norms, Tree.ne_compare_differ, Tree.ne_compare_counts, Tree.ne_not_every, Tree.ne_not_has, Tree.ne_not_in, Tree.ne_not_compare, Tree.ne_not_and, Tree.ne_not_or, Tree.ne_not_parts, Tree.ne_not_cell, Tree.ne_not_box, Tree.ne_not_norms, Tree.ne_not_differ, Tree.ne_not_counts, Tree.ne_and_every, Tree.ne_and_has, Tree.ne_and_in, Tree.ne_and_compare, Tree.ne_and_not, Tree.ne_and_or, Tree.ne_and_parts, Tree.ne_and_cell, Tree.ne_and_box, Tree.ne_and_norms, Tree.ne_and_differ, Tree.ne_and_counts, Tree.ne_or_every, Tree.ne_or_has, Tree.ne_or_in, Tree.ne_or_compare, Tree.ne_or_not, Tree.ne_or_and, Tree.ne_or_parts, Tree.ne_or_cell, Tree.ne_or_box, Tree.ne_or_norms, Tree.ne_or_differ, Tree.ne_or_counts, Tree.ne_parts_every, Tree.ne_parts_has, Tree.ne_parts_in, Tree.ne_parts_compare, Tree.ne_parts_not, Tree.ne_parts_and, Tree.ne_parts_or, Tree.ne_parts_cell, Tree.ne_parts_box, Tree.ne_parts_norms, Tree.ne_parts_differ, Tree.ne_parts_counts, Tree.ne_cell_every, Tree.ne_cell_has, Tree.ne_cell_in, Tree.ne_cell_compare, Tree.ne_cell_not, Tree.ne_cell_and, Tree.ne_cell_or, Tree.ne_cell_parts, Tree.ne_cell_box, Tree.ne_cell_norms, Tree.ne_cell_differ, Tree.ne_cell_counts, Tree.ne_box_every, Tree.ne_box_has, Tree.ne_box_in, Tree.ne_box_compare, Tree.ne_box_not, Tree.ne_box_and, Tree.ne_box_or, Tree.ne_box_parts, Tree.ne_box_cell, Tree.ne_box_norms, Tree.ne_box_differ, Tree.ne_box_counts, Tree.ne_norms_every, Tree.ne_norms_has, Tree.ne_norms_in, Tree.ne_norms_compare, Tree.ne_norms_not, Tree.ne_norms_and, Tree.ne_norms_or, Tree.ne_norms_parts, Tree.ne_norms_cell, Tree.ne_norms_box, Tree.ne_norms_differ, Tree.ne_norms_counts, Tree.ne_differ_every, Tree.ne_differ_has, Tree.ne_differ_in, Tree.ne_differ_compare, Tree.ne_differ_not, Tree.ne_differ_and, Tree.ne_differ_or, Tree.ne_differ_parts, Tree.ne_differ_cell, Tree.ne_differ_box, Tree.ne_differ_norms, Tree.ne_differ_counts, Tree.ne_counts_every, Tree.ne_counts_has, Tree.ne_counts_in, Tree.ne_counts_compare, Tree.ne_counts_not, Tree.ne_counts_and, Tree.ne_counts_or, Tree.ne_counts_parts, Tree.ne_counts_cell, Tree.ne_counts_box, Tree.ne_counts_norms, Tree.ne_counts_differ, m, e2, f2]

/-! what is drawn -/
theorem field_fact_ex (s : DS) : ∃ F s', F_law_field_fact s = some (F, s') ∧ OkF F := by
  unfold F_law_field_fact
  have b0 := nx_ge s (m := 3) (by decide)
  have b1 := nx_lt s (m := 3) (by decide)
  obtain ⟨l, el, hl⟩ := atI_lit (xs := [("nobody" : Str), ("some" : Str), ("all" : Str)]) b0 b1
  have hl : l ∈ LACK := hl
  rw [el, bsome]
  generalize nxS s 3 = s
  by_cases q : nxV s 2 = 0
  · rw [if_pos (decide_eq_true q), bsome]
    have c0 := nx_ge (nxS s 2) (m := 9) (by decide)
    have c1 := nx_lt (nxS s 2) (m := 9) (by decide)
    have d0 := nx_ge (nxS (nxS s 2) 9) (m := 5) (by decide)
    have d1 := nx_lt (nxS (nxS s 2) 9) (m := 5) (by decide)
    exact ⟨_, _, rfl, rfl, ⟨by omega, by omega, by omega⟩, hl⟩
  rw [if_neg (fun z => q (of_decide_eq_true z))]
  by_cases q2 : nxV (nxS s 2) 2 = 0
  · rw [if_pos (decide_eq_true q2), mapO_eq (g := Val.s) fun _ _ => rfl, bsome]
    refine ⟨_, _, rfl, fun v hv => ?_, hl⟩
    obtain ⟨x, _, rfl⟩ := List.mem_map.mp hv
    exact rfl
  · rw [if_neg (fun z => q2 (of_decide_eq_true z)), mapO_eq (g := Val.b) fun _ _ => rfl, bsome]
    refine ⟨_, _, rfl, fun v hv => ?_, hl⟩
    obtain ⟨x, _, rfl⟩ := List.mem_map.mp hv
    exact rfl
def NAMES : List Str := ["n", "t", "f"]
def WORTHS : List (List Val) := [([(Val.i (-(5 : Int))), (Val.i (-(1 : Int))), (Val.i (0 : Int)), (Val.i (2 : Int)), (Val.i (5 : Int)), (Val.i (9 : Int))] : List Val), ([(Val.s ("" : Str)), (Val.s ("red" : Str)), (Val.s ("ash" : Str)), (Val.s ("zz" : Str))] : List Val), ([(Val.b true), (Val.b false)] : List Val)]
instance (f : Str) (v : Val) : Decidable (KOk f v) := by cases v <;> (unfold KOk; infer_instance)
theorem worths_ok : ∀ f ∈ NAMES, ((idxO NAMES f).bind fun j => atI WORTHS (j : Int)).any (fun vs => decide (0 < vs.length) && decide (vs.length ≤ 10) && vs.all fun v => decide (KOk f v)) = true := by decide +kernel
theorem leaf_ex (s : DS) : ∃ t s', F_law_leaf s = some (t, s') ∧ OkT t ∧ depT t = 0 := by
  unfold F_law_leaf
  have a0 := nx_ge (nxS s 4) (m := 4) (by decide)
  have a1 := nx_lt (nxS s 4) (m := 4) (by decide)
  obtain ⟨f, ef, hf⟩ := atI_lit (xs := [("n" : Str), ("n" : Str), ("t" : Str), ("f" : Str)]) a0 a1
  rw [ef, bsome]
  have hf : f ∈ NAMES := by
    have key : ∀ f ∈ [("n" : Str), ("n" : Str), ("t" : Str), ("f" : Str)], f ∈ NAMES := by decide +kernel
    exact key f hf
  have hw := worths_ok f hf
  unfold NAMES WORTHS at hw
  cases ej : idxO [("n" : Str), ("t" : Str), ("f" : Str)] f with
  | none =>
    rw [ej] at hw
    exact absurd (show (none : Option (List Val)).any _ = true from hw) Bool.false_ne_true
  | some j =>
    rw [ej, bsome] at hw
    rw [bsome]
    generalize ev : atI ([([(Val.i (-(5 : Int))), (Val.i (-(1 : Int))), (Val.i (0 : Int)), (Val.i (2 : Int)), (Val.i (5 : Int)), (Val.i (9 : Int))] : List Val), ([(Val.s ("" : Str)), (Val.s ("red" : Str)), (Val.s ("ash" : Str)), (Val.s ("zz" : Str))] : List Val), ([(Val.b true), (Val.b false)] : List Val)] : List (List Val)) (j : Int) = ov at hw
    cases ov with
    | none => exact absurd hw Bool.false_ne_true
    | some vs =>
      rw [bsome]
      have hw : (decide (0 < vs.length) && decide (vs.length ≤ 10) && vs.all fun v => decide (KOk f v)) = true := hw
      rw [Bool.and_eq_true, Bool.and_eq_true, decide_eq_true_iff, decide_eq_true_iff, List.all_eq_true] at hw
      obtain ⟨⟨h0, h10⟩, hk⟩ := hw
      have hk : ∀ v ∈ vs, KOk f v := fun v hv => of_decide_eq_true (hk v hv)
      have draw : ∀ s : DS, ∃ v, atI vs (nxV s (vs.length : Int)) = some v ∧ KOk f v := fun s => by
        have c0 := nx_ge s (m := (vs.length : Int)) (by omega)
        have c1 := nx_lt s (m := (vs.length : Int)) (by omega)
        obtain ⟨v, e, hm⟩ := atI_lit (xs := vs) c0 c1
        exact ⟨v, e, hk v hm⟩
      have hn : NxOk (vs.length : Int) := nxOk_of (by omega) (by omega)
      by_cases q0 : nxV s 4 = 0
      · rw [if_pos (decide_eq_true q0)]
        exact ⟨_, _, rfl, trivial, rfl⟩
      rw [if_neg (fun z => q0 (of_decide_eq_true z))]
      by_cases q1 : nxV s 4 = 1
      · have c0 := nx_ge (nxS (nxS s 4) 4) (m := 3) (by decide)
        have c1 := nx_lt (nxS (nxS s 4) 4) (m := 3) (by decide)
        rw [if_pos (decide_eq_true q1), if_pos (rangeOk_of (by omega) (by omega) (by omega) (by omega))]
        obtain ⟨ys, s', e, _, hy⟩ := mapS_mem (f := fun (x_38 : Int) (s_39 : DS) => (if NxOk (vs.length : Int) then (atI vs (nxV s_39 (vs.length : Int))).bind fun i_43 => some (i_43, (nxS s_39 (vs.length : Int))) else none : Option (Val × DS))) (R := KOk f) (xs := rangeZ 0 ((1 : Int) + (nxV (nxS (nxS s (4 : Int)) (4 : Int)) (3 : Int)))) (nxS (nxS (nxS s (4 : Int)) (4 : Int)) (3 : Int)) (fun x _ s => by
          obtain ⟨v, e, h⟩ := draw s
          exact ⟨v, _, by rw [if_pos hn, e, bsome], h⟩)
        rw [e, bsome]
        exact ⟨_, _, rfl, hy, rfl⟩
      rw [if_neg (fun z => q1 (of_decide_eq_true z))]
      have d0 := nx_ge (nxS (nxS s 4) 4) (m := 6) (by decide)
      have d1 := nx_lt (nxS (nxS s 4) 4) (m := 6) (by decide)
      obtain ⟨sg, es, hs⟩ := atI_lit (xs := [("=" : Str), ("!=" : Str), ("<" : Str), ("<=" : Str), (">" : Str), (">=" : Str)]) d0 d1
      obtain ⟨v, e, h⟩ := draw (nxS (nxS (nxS s 4) 4) 6)
      rw [es, bsome, if_pos hn, e, bsome]
      exact ⟨_, _, rfl, ⟨hs, h⟩, rfl⟩
theorem tree_ex : ∀ (n d : Nat) (s : DS), d < n → ∃ t s', (grp0 n).h_law_tree s (d : Int) = some (t, s') ∧ OkT t ∧ depT t ≤ d
  | 0, _, _, h => absurd h (Nat.not_lt_zero _)
  | n + 1, d, s, h => by
    show ∃ t s', S_law_tree (grp0 n) s (d : Int) = some (t, s') ∧ OkT t ∧ depT t ≤ d
    unfold S_law_tree
    have k0 := nx_ge s (m := 6) (by decide)
    have k1 := nx_lt s (m := 6) (by decide)
    generalize nxV s 6 = k at k0 k1
    generalize nxS s 6 = s
    by_cases q0 : k = 0
    · rw [if_pos (decide_eq_true q0)]
      exact ⟨_, _, rfl, trivial, Nat.zero_le _⟩
    rw [if_neg (fun z => q0 (of_decide_eq_true z))]
    by_cases q1 : (d : Int) = 0 ∨ k < 3
    · obtain ⟨t, s', e, ho, hd⟩ := leaf_ex s
      rw [if_pos (by rw [Bool.or_eq_true, decide_eq_true_iff, decide_eq_true_iff]; exact q1), e, bsome]
      exact ⟨_, _, rfl, ho, by show depT t ≤ d; omega⟩
    rw [if_neg (fun z => q1 (by rw [Bool.or_eq_true, decide_eq_true_iff, decide_eq_true_iff] at z; exact z))]
    have hd : (d : Int) - 1 = ((d - 1 : Nat) : Int) := by omega
    obtain ⟨t, s1, e1, o1, d1⟩ := tree_ex n (d - 1) s (by omega)
    rw [hd]
    by_cases q3 : k = 3
    · rw [if_pos (decide_eq_true q3), e1, bsome]
      refine ⟨_, _, rfl, o1, ?_⟩
      show depT t + 1 ≤ d
      omega
    rw [if_neg (fun z => q3 (of_decide_eq_true z))]
    obtain ⟨u, s2, e2, o2, d2⟩ := tree_ex n (d - 1) s1 (by omega)
    have hk : k = 4 ∨ k = 5 := by omega
    have m1 : ∀ a b, Tree.mk2 "and" a b = some (.k_and a b) := fun a b => by unfold Tree.mk2; rw [if_pos rfl]
    have m2 : ∀ a b, Tree.mk2 "or" a b = some (.k_or a b) := fun a b => by unfold Tree.mk2; rw [if_neg (by decide +kernel), if_pos rfl]
    rcases hk with rfl | rfl
    · have i : atI ([("and" : Str), ("or" : Str)] : List Str) ((4 : Int) - 4) = some ("and" : Str) := by decide +kernel
      rw [i, bsome, e1, bsome, e2, bsome, m1, bsome]
      refine ⟨_, _, rfl, ⟨o1, o2⟩, ?_⟩
      show max (depT t) (depT u) + 1 ≤ d
      omega
    · have i : atI ([("and" : Str), ("or" : Str)] : List Str) ((5 : Int) - 4) = some ("or" : Str) := by decide +kernel
      rw [i, bsome, e1, bsome, e2, bsome, m2, bsome]
      refine ⟨_, _, rfl, ⟨o1, o2⟩, ?_⟩
      show max (depT t) (depT u) + 1 ≤ d
      omega
theorem law_true (ns : List Int) (_ : ns.length ≤ 63) : F_law ns = some true := by
  unfold F_law
  obtain ⟨w, e, _⟩ := forS_mem (f := L_law_1) (I := fun _ => True) (xs := rangeZ 0 4) (b := DS.mk ns 0 0) trivial fun x _ w _ => by
    unfold L_law_1
    have b0 := nx_ge w (m := 5) (by decide)
    have b1 := nx_lt w (m := 5) (by decide)
    rw [if_pos (rangeOk_of (by omega) (by omega) (by omega) (by omega))]
    obtain ⟨fs, s1, e1, l1, hf⟩ := mapS_mem (f := fun (x_698 : Int) (s_699 : DS) => ((F_law_field_fact s_699).bind fun r_702 => some (r_702.1, r_702.2) : Option (FT × DS))) (R := OkF) (xs := rangeZ 0 (nxV w 5)) (nxS w 5) (fun x _ s => by
      obtain ⟨F, s', e, h⟩ := field_fact_ex s
      exact ⟨F, s', by rw [e, bsome], h⟩)
    rw [rangeZ_len] at l1
    rw [e1, bsome]
    dsimp only
    have c0 := nx_ge s1 (m := 3) (by decide)
    have c1 := nx_lt s1 (m := 3) (by decide)
    obtain ⟨d, hd⟩ := Int.eq_ofNat_of_zero_le c0
    obtain ⟨t, s2, e2, ot, dt⟩ := tree_ex 5 (d + 1) (nxS s1 3) (by omega)
    have e2' : F_law_tree (nxS s1 3) (1 + nxV s1 3) = some (t, s2) := by
      unfold F_law_tree
      rw [hd, show (1 : Int) + (d : Int) = ((d + 1 : Nat) : Int) by omega]
      exact e2
    have e3 : mapO (fun (x_712 : FT) => ((F_law_made x_712).bind fun r_716 => some r_716 : Option Fa)) fs = some (fs.map MkF) := mapO_eq fun F _ => by rw [made_eq, bsome]
    rw [e2', bsome, e3, bsome]
    dsimp only
    have e4 : F_law_built t = some (B t) := built_eq 5 t (by omega)
    have fin : ∀ xs, Ext fs xs → ∃ r, F_can_pass (B t) xs = some r ∧ F_law_due t fs = some r := fun xs hx => can_due hx hf 5 t (by omega) ot
    have go : ∀ xs, Ext fs xs → ∃ b', ((F_law_built t).bind fun r_742 => (F_can_pass r_742 xs).bind fun r_744 => (if (!true) = true then some true else ((F_law_due t fs).bind fun r_748 => some (!decide (r_744 = r_748)))).bind fun b_751 => if b_751 = true then some (Flow.ret false) else some (Flow.go (nxS s2 (2 : Int)))) = some (Flow.go b') ∧ True := fun xs hx => by
      obtain ⟨r, f1, f2⟩ := fin xs hx
      rw [e4, bsome, f1, bsome, if_neg (by decide), f2, bsome, bsome, if_neg (by simp)]
      exact ⟨_, rfl, trivial⟩
    by_cases q : nxV s2 2 = 0
    · rw [if_pos (decide_eq_true q), if_pos (by rw [List.length_map, List.length_singleton]; omega), if_pos (by simp only [List.length_append, List.length_map, List.length_cons, List.length_nil]; omega), bsome, bsome]
      refine go _ ⟨_, _, rfl, fun x hm c => ?_, fun x hm c => ?_⟩
      · rw [List.mem_singleton] at hm
        subst hm
        rfl
      · simp only [List.mem_cons, List.not_mem_nil, or_false] at hm
        rcases hm with rfl | rfl <;> rfl
    · rw [if_neg (fun z => q (of_decide_eq_true z)), bsome]
      exact go _ ⟨[], [], by rw [List.nil_append, List.append_nil], (fun _ h => absurd h List.not_mem_nil), (fun _ h => absurd h List.not_mem_nil)⟩
  rw [e, bsome]
  rfl

def ff_Has (v0 : V) : List (Str × V) := putF "field" v0 []
theorem lk_Has_field {v0 : V} : (ff_Has v0).lookup ("field" : Str) = some v0 := by
  unfold ff_Has
  rw [lookup_putF, if_pos rfl]
theorem no_Has {v0 : V} {m : Str} (h0 : ¬ m = "field" := by decide +kernel) : (ff_Has v0).lookup m = none := by
  unfold ff_Has
  rw [lookup_putF, if_neg h0]
  rfl
def ff_Compare (v0 v1 v2 : V) : List (Str × V) := putF "value" v2 (putF "sign" v1 (putF "field" v0 []))
theorem lk_Compare_field {v0 v1 v2 : V} : (ff_Compare v0 v1 v2).lookup ("field" : Str) = some v0 := by
  unfold ff_Compare
  rw [lookup_putF, if_neg (by decide +kernel), lookup_putF, if_neg (by decide +kernel), lookup_putF, if_pos rfl]
theorem lk_Compare_sign {v0 v1 v2 : V} : (ff_Compare v0 v1 v2).lookup ("sign" : Str) = some v1 := by
  unfold ff_Compare
  rw [lookup_putF, if_neg (by decide +kernel), lookup_putF, if_pos rfl]
theorem lk_Compare_value {v0 v1 v2 : V} : (ff_Compare v0 v1 v2).lookup ("value" : Str) = some v2 := by
  unfold ff_Compare
  rw [lookup_putF, if_pos rfl]
theorem no_Compare {v0 v1 v2 : V} {m : Str} (h0 : ¬ m = "field" := by decide +kernel) (h1 : ¬ m = "sign" := by decide +kernel) (h2 : ¬ m = "value" := by decide +kernel) : (ff_Compare v0 v1 v2).lookup m = none := by
  unfold ff_Compare
  rw [lookup_putF, if_neg h2, lookup_putF, if_neg h1, lookup_putF, if_neg h0]
  rfl
def ff_OneOf (v0 v1 : V) : List (Str × V) := putF "choices" v1 (putF "field" v0 [])
theorem lk_OneOf_field {v0 v1 : V} : (ff_OneOf v0 v1).lookup ("field" : Str) = some v0 := by
  unfold ff_OneOf
  rw [lookup_putF, if_neg (by decide +kernel), lookup_putF, if_pos rfl]
theorem lk_OneOf_choices {v0 v1 : V} : (ff_OneOf v0 v1).lookup ("choices" : Str) = some v1 := by
  unfold ff_OneOf
  rw [lookup_putF, if_pos rfl]
theorem no_OneOf {v0 v1 : V} {m : Str} (h0 : ¬ m = "field" := by decide +kernel) (h1 : ¬ m = "choices" := by decide +kernel) : (ff_OneOf v0 v1).lookup m = none := by
  unfold ff_OneOf
  rw [lookup_putF, if_neg h1, lookup_putF, if_neg h0]
  rfl
def ff_Both (v0 v1 : V) : List (Str × V) := putF "b" v1 (putF "a" v0 [])
theorem lk_Both_a {v0 v1 : V} : (ff_Both v0 v1).lookup ("a" : Str) = some v0 := by
  unfold ff_Both
  rw [lookup_putF, if_neg (by decide +kernel), lookup_putF, if_pos rfl]
theorem lk_Both_b {v0 v1 : V} : (ff_Both v0 v1).lookup ("b" : Str) = some v1 := by
  unfold ff_Both
  rw [lookup_putF, if_pos rfl]
theorem no_Both {v0 v1 : V} {m : Str} (h0 : ¬ m = "a" := by decide +kernel) (h1 : ¬ m = "b" := by decide +kernel) : (ff_Both v0 v1).lookup m = none := by
  unfold ff_Both
  rw [lookup_putF, if_neg h1, lookup_putF, if_neg h0]
  rfl
def ff_Either (v0 v1 : V) : List (Str × V) := putF "b" v1 (putF "a" v0 [])
theorem lk_Either_a {v0 v1 : V} : (ff_Either v0 v1).lookup ("a" : Str) = some v0 := by
  unfold ff_Either
  rw [lookup_putF, if_neg (by decide +kernel), lookup_putF, if_pos rfl]
theorem lk_Either_b {v0 v1 : V} : (ff_Either v0 v1).lookup ("b" : Str) = some v1 := by
  unfold ff_Either
  rw [lookup_putF, if_pos rfl]
theorem no_Either {v0 v1 : V} {m : Str} (h0 : ¬ m = "a" := by decide +kernel) (h1 : ¬ m = "b" := by decide +kernel) : (ff_Either v0 v1).lookup m = none := by
  unfold ff_Either
  rw [lookup_putF, if_neg h1, lookup_putF, if_neg h0]
  rfl
def ff_Negation (v0 : V) : List (Str × V) := putF "a" v0 []
theorem lk_Negation_a {v0 : V} : (ff_Negation v0).lookup ("a" : Str) = some v0 := by
  unfold ff_Negation
  rw [lookup_putF, if_pos rfl]
theorem no_Negation {v0 : V} {m : Str} (h0 : ¬ m = "a" := by decide +kernel) : (ff_Negation v0).lookup m = none := by
  unfold ff_Negation
  rw [lookup_putF, if_neg h0]
  rfl
def ff_Range (v0 v1 v2 v3 : V) : List (Str × V) := putF "lack" v3 (putF "high" v2 (putF "low" v1 (putF "field" v0 [])))
theorem lk_Range_field {v0 v1 v2 v3 : V} : (ff_Range v0 v1 v2 v3).lookup ("field" : Str) = some v0 := by
  unfold ff_Range
  rw [lookup_putF, if_neg (by decide +kernel), lookup_putF, if_neg (by decide +kernel), lookup_putF, if_neg (by decide +kernel), lookup_putF, if_pos rfl]
theorem lk_Range_low {v0 v1 v2 v3 : V} : (ff_Range v0 v1 v2 v3).lookup ("low" : Str) = some v1 := by
  unfold ff_Range
  rw [lookup_putF, if_neg (by decide +kernel), lookup_putF, if_neg (by decide +kernel), lookup_putF, if_pos rfl]
theorem lk_Range_high {v0 v1 v2 v3 : V} : (ff_Range v0 v1 v2 v3).lookup ("high" : Str) = some v2 := by
  unfold ff_Range
  rw [lookup_putF, if_neg (by decide +kernel), lookup_putF, if_pos rfl]
theorem lk_Range_lack {v0 v1 v2 v3 : V} : (ff_Range v0 v1 v2 v3).lookup ("lack" : Str) = some v3 := by
  unfold ff_Range
  rw [lookup_putF, if_pos rfl]
theorem no_Range {v0 v1 v2 v3 : V} {m : Str} (h0 : ¬ m = "field" := by decide +kernel) (h1 : ¬ m = "low" := by decide +kernel) (h2 : ¬ m = "high" := by decide +kernel) (h3 : ¬ m = "lack" := by decide +kernel) : (ff_Range v0 v1 v2 v3).lookup m = none := by
  unfold ff_Range
  rw [lookup_putF, if_neg h3, lookup_putF, if_neg h2, lookup_putF, if_neg h1, lookup_putF, if_neg h0]
  rfl
def ff_Values (v0 v1 v2 : V) : List (Str × V) := putF "lack" v2 (putF "choices" v1 (putF "field" v0 []))
theorem lk_Values_field {v0 v1 v2 : V} : (ff_Values v0 v1 v2).lookup ("field" : Str) = some v0 := by
  unfold ff_Values
  rw [lookup_putF, if_neg (by decide +kernel), lookup_putF, if_neg (by decide +kernel), lookup_putF, if_pos rfl]
theorem lk_Values_choices {v0 v1 v2 : V} : (ff_Values v0 v1 v2).lookup ("choices" : Str) = some v1 := by
  unfold ff_Values
  rw [lookup_putF, if_neg (by decide +kernel), lookup_putF, if_pos rfl]
theorem lk_Values_lack {v0 v1 v2 : V} : (ff_Values v0 v1 v2).lookup ("lack" : Str) = some v2 := by
  unfold ff_Values
  rw [lookup_putF, if_pos rfl]
theorem no_Values {v0 v1 v2 : V} {m : Str} (h0 : ¬ m = "field" := by decide +kernel) (h1 : ¬ m = "choices" := by decide +kernel) (h2 : ¬ m = "lack" := by decide +kernel) : (ff_Values v0 v1 v2).lookup m = none := by
  unfold ff_Values
  rw [lookup_putF, if_neg h2, lookup_putF, if_neg h1, lookup_putF, if_neg h0]
  rfl
def ff_Norms (v0 v1 : V) : List (Str × V) := putF "high" v1 (putF "low" v0 [])
theorem lk_Norms_low {v0 v1 : V} : (ff_Norms v0 v1).lookup ("low" : Str) = some v0 := by
  unfold ff_Norms
  rw [lookup_putF, if_neg (by decide +kernel), lookup_putF, if_pos rfl]
theorem lk_Norms_high {v0 v1 : V} : (ff_Norms v0 v1).lookup ("high" : Str) = some v1 := by
  unfold ff_Norms
  rw [lookup_putF, if_pos rfl]
theorem no_Norms {v0 v1 : V} {m : Str} (h0 : ¬ m = "low" := by decide +kernel) (h1 : ¬ m = "high" := by decide +kernel) : (ff_Norms v0 v1).lookup m = none := by
  unfold ff_Norms
  rw [lookup_putF, if_neg h1, lookup_putF, if_neg h0]
  rfl
def ff_Names (v0 v1 : V) : List (Str × V) := putF "high" v1 (putF "low" v0 [])
theorem lk_Names_low {v0 v1 : V} : (ff_Names v0 v1).lookup ("low" : Str) = some v0 := by
  unfold ff_Names
  rw [lookup_putF, if_neg (by decide +kernel), lookup_putF, if_pos rfl]
theorem lk_Names_high {v0 v1 : V} : (ff_Names v0 v1).lookup ("high" : Str) = some v1 := by
  unfold ff_Names
  rw [lookup_putF, if_pos rfl]
theorem no_Names {v0 v1 : V} {m : Str} (h0 : ¬ m = "low" := by decide +kernel) (h1 : ¬ m = "high" := by decide +kernel) : (ff_Names v0 v1).lookup m = none := by
  unfold ff_Names
  rw [lookup_putF, if_neg h1, lookup_putF, if_neg h0]
  rfl
def ff_Box (v0 v1 : V) : List (Str × V) := putF "high" v1 (putF "low" v0 [])
theorem lk_Box_low {v0 v1 : V} : (ff_Box v0 v1).lookup ("low" : Str) = some v0 := by
  unfold ff_Box
  rw [lookup_putF, if_neg (by decide +kernel), lookup_putF, if_pos rfl]
theorem lk_Box_high {v0 v1 : V} : (ff_Box v0 v1).lookup ("high" : Str) = some v1 := by
  unfold ff_Box
  rw [lookup_putF, if_pos rfl]
theorem no_Box {v0 v1 : V} {m : Str} (h0 : ¬ m = "low" := by decide +kernel) (h1 : ¬ m = "high" := by decide +kernel) : (ff_Box v0 v1).lookup m = none := by
  unfold ff_Box
  rw [lookup_putF, if_neg h1, lookup_putF, if_neg h0]
  rfl
theorem putF_le {f : Str} {v : V} {fs : List (Str × V)} {n : Nat} (h : fs.length ≤ n) : (putF f v fs).length ≤ n + 1 := by
  induction fs generalizing n with
  | nil => show 1 ≤ n + 1; omega
  | cons x r ih =>
    obtain ⟨g, y⟩ := x
    show (if g = f then (g, v) :: r else (g, y) :: putF f v r).length ≤ n + 1
    rw [List.length_cons] at h
    by_cases e : g = f
    · rw [if_pos e, List.length_cons]; omega
    · rw [if_neg e, List.length_cons]
      have := ih (n := r.length) (Nat.le_refl _)
      omega
/-! what the top has made -/
set_option maxHeartbeats 0 in
structure Txt (K : PySem.W.Frag) (mg : Str → Option Value) where
  f_law_row : Addr
  d_law_row : FuncData
  F_law_row : Fun K "_law_row" "_law_row" s_law_row f_law_row d_law_row
  b_law_row : Binds K d_law_row ["script", "k"] []
  g_law_row : mg "_law_row" = some (.ref f_law_row)
  f_law_next : Addr
  d_law_next : FuncData
  F_law_next : Fun K "_law_next" "_law_next" s_law_next f_law_next d_law_next
  b_law_next : Binds K d_law_next ["state", "many"] []
  g_law_next : mg "_law_next" = some (.ref f_law_next)
  f_law_leaf : Addr
  d_law_leaf : FuncData
  F_law_leaf : Fun K "_law_leaf" "_law_leaf" s_law_leaf f_law_leaf d_law_leaf
  b_law_leaf : Binds K d_law_leaf ["state"] []
  g_law_leaf : mg "_law_leaf" = some (.ref f_law_leaf)
  f_law_tree : Addr
  d_law_tree : FuncData
  F_law_tree : Fun K "_law_tree" "_law_tree" s_law_tree f_law_tree d_law_tree
  b_law_tree : Binds K d_law_tree ["state", "depth"] []
  g_law_tree : mg "_law_tree" = some (.ref f_law_tree)
  f_Fact_outcomes : Addr
  d_Fact_outcomes : FuncData
  F_Fact_outcomes : Fun K "outcomes" "Fact.outcomes" s_Fact_outcomes f_Fact_outcomes d_Fact_outcomes
  b_Fact_outcomes : Binds K d_Fact_outcomes ["self", "condition"] []
  f_outcomes_of_lack : Addr
  d_outcomes_of_lack : FuncData
  F_outcomes_of_lack : Fun K "outcomes_of_lack" "outcomes_of_lack" s_outcomes_of_lack f_outcomes_of_lack d_outcomes_of_lack
  b_outcomes_of_lack : Binds K d_outcomes_of_lack ["lack"] []
  g_outcomes_of_lack : mg "outcomes_of_lack" = some (.ref f_outcomes_of_lack)
  f_kind_of_value : Addr
  d_kind_of_value : FuncData
  F_kind_of_value : Fun K "kind_of_value" "kind_of_value" s_kind_of_value f_kind_of_value d_kind_of_value
  b_kind_of_value : Binds K d_kind_of_value ["worth"] []
  g_kind_of_value : mg "kind_of_value" = some (.ref f_kind_of_value)
  f_range_outcomes : Addr
  d_range_outcomes : FuncData
  F_range_outcomes : Fun K "range_outcomes" "range_outcomes" s_range_outcomes f_range_outcomes d_range_outcomes
  b_range_outcomes : Binds K d_range_outcomes ["low", "high", "sign", "value"] []
  g_range_outcomes : mg "range_outcomes" = some (.ref f_range_outcomes)
  f_is_from : Addr
  d_is_from : FuncData
  F_is_from : Fun K "is_from" "is_from" s_is_from f_is_from d_is_from
  b_is_from : Binds K d_is_from ["low", "high", "worth"] []
  g_is_from : mg "is_from" = some (.ref f_is_from)
  f_Range_outcomes : Addr
  d_Range_outcomes : FuncData
  F_Range_outcomes : Fun K "outcomes" "Range.outcomes" s_Range_outcomes f_Range_outcomes d_Range_outcomes
  b_Range_outcomes : Binds K d_Range_outcomes ["self", "condition"] []
  f_satisfies : Addr
  d_satisfies : FuncData
  F_satisfies : Fun K "satisfies" "satisfies" s_satisfies f_satisfies d_satisfies
  b_satisfies : Binds K d_satisfies ["worth", "sign", "other"] []
  g_satisfies : mg "satisfies" = some (.ref f_satisfies)
  f_same_value : Addr
  d_same_value : FuncData
  F_same_value : Fun K "same_value" "same_value" s_same_value f_same_value d_same_value
  b_same_value : Binds K d_same_value ["one", "other"] []
  g_same_value : mg "same_value" = some (.ref f_same_value)
  f_is_among : Addr
  d_is_among : FuncData
  F_is_among : Fun K "is_among" "is_among" s_is_among f_is_among d_is_among
  b_is_among : Binds K d_is_among ["worth", "choices"] []
  g_is_among : mg "is_among" = some (.ref f_is_among)
  f_value_passes : Addr
  d_value_passes : FuncData
  F_value_passes : Fun K "value_passes" "value_passes" s_value_passes f_value_passes d_value_passes
  b_value_passes : Binds K d_value_passes ["worth", "condition"] []
  g_value_passes : mg "value_passes" = some (.ref f_value_passes)
  f_Values_outcomes : Addr
  d_Values_outcomes : FuncData
  F_Values_outcomes : Fun K "outcomes" "Values.outcomes" s_Values_outcomes f_Values_outcomes d_Values_outcomes
  b_Values_outcomes : Binds K d_Values_outcomes ["self", "condition"] []
  f_outcomes_on_field : Addr
  d_outcomes_on_field : FuncData
  F_outcomes_on_field : Fun K "outcomes_on_field" "outcomes_on_field" s_outcomes_on_field f_outcomes_on_field d_outcomes_on_field
  b_outcomes_on_field : Binds K d_outcomes_on_field ["condition", "facts"] []
  g_outcomes_on_field : mg "outcomes_on_field" = some (.ref f_outcomes_on_field)
  f_can_pass : Addr
  d_can_pass : FuncData
  F_can_pass : Fun K "can_pass" "can_pass" s_can_pass f_can_pass d_can_pass
  b_can_pass : Binds K d_can_pass ["condition", "facts"] []
  g_can_pass : mg "can_pass" = some (.ref f_can_pass)
  f_law_field_fact : Addr
  d_law_field_fact : FuncData
  F_law_field_fact : Fun K "_law_field_fact" "_law_field_fact" s_law_field_fact f_law_field_fact d_law_field_fact
  b_law_field_fact : Binds K d_law_field_fact ["state"] []
  g_law_field_fact : mg "_law_field_fact" = some (.ref f_law_field_fact)
  f_Names___init__ : Addr
  d_Names___init__ : FuncData
  F_Names___init__ : Fun K "__init__" "Names.__init__" s_Names___init__ f_Names___init__ d_Names___init__
  b_Names___init__ : Binds K d_Names___init__ ["self", "low", "high"] []
  f_Box___init__ : Addr
  d_Box___init__ : FuncData
  F_Box___init__ : Fun K "__init__" "Box.__init__" s_Box___init__ f_Box___init__ d_Box___init__
  b_Box___init__ : Binds K d_Box___init__ ["self", "low", "high"] []
  f_Norms___init__ : Addr
  d_Norms___init__ : FuncData
  F_Norms___init__ : Fun K "__init__" "Norms.__init__" s_Norms___init__ f_Norms___init__ d_Norms___init__
  b_Norms___init__ : Binds K d_Norms___init__ ["self", "low", "high"] []
  f_Range___init__ : Addr
  d_Range___init__ : FuncData
  F_Range___init__ : FunD K "__init__" "Range.__init__" (defArgs s_Range___init__) (defBody s_Range___init__) (defScope s_Range___init__) [] [("lack", .str "nobody")] f_Range___init__ d_Range___init__
  kb_Range___init__ : KBn K d_Range___init__ ["self", "field", "low", "high", "lack"] 4 ["lack"] (fun us ws => us ++ ws) (fun vs zs => vs ++ zs)
  ds_Range___init__ : List Value
  v_Range___init__ : Vals [.str "nobody"] ds_Range___init__
  b_Range___init__ : Binds K d_Range___init__ ["self", "field", "low", "high", "lack"] ds_Range___init__
  f_Values___init__ : Addr
  d_Values___init__ : FuncData
  F_Values___init__ : FunD K "__init__" "Values.__init__" (defArgs s_Values___init__) (defBody s_Values___init__) (defScope s_Values___init__) [] [("lack", .str "nobody")] f_Values___init__ d_Values___init__
  kb_Values___init__ : KBn K d_Values___init__ ["self", "field", "choices", "lack"] 3 ["lack"] (fun us ws => us ++ ws) (fun vs zs => vs ++ zs)
  ds_Values___init__ : List Value
  v_Values___init__ : Vals [.str "nobody"] ds_Values___init__
  b_Values___init__ : Binds K d_Values___init__ ["self", "field", "choices", "lack"] ds_Values___init__
  f_law_made : Addr
  d_law_made : FuncData
  F_law_made : Fun K "_law_made" "_law_made" s_law_made f_law_made d_law_made
  b_law_made : Binds K d_law_made ["fact"] []
  g_law_made : mg "_law_made" = some (.ref f_law_made)
  f_Either___init__ : Addr
  d_Either___init__ : FuncData
  F_Either___init__ : Fun K "__init__" "Either.__init__" s_Either___init__ f_Either___init__ d_Either___init__
  b_Either___init__ : Binds K d_Either___init__ ["self", "a", "b"] []
  f_Has___init__ : Addr
  d_Has___init__ : FuncData
  F_Has___init__ : Fun K "__init__" "Has.__init__" s_Has___init__ f_Has___init__ d_Has___init__
  b_Has___init__ : Binds K d_Has___init__ ["self", "field"] []
  f_Compare___init__ : Addr
  d_Compare___init__ : FuncData
  F_Compare___init__ : Fun K "__init__" "Compare.__init__" s_Compare___init__ f_Compare___init__ d_Compare___init__
  b_Compare___init__ : Binds K d_Compare___init__ ["self", "field", "sign", "value"] []
  f_OneOf___init__ : Addr
  d_OneOf___init__ : FuncData
  F_OneOf___init__ : Fun K "__init__" "OneOf.__init__" s_OneOf___init__ f_OneOf___init__ d_OneOf___init__
  b_OneOf___init__ : Binds K d_OneOf___init__ ["self", "field", "choices"] []
  f_Negation___init__ : Addr
  d_Negation___init__ : FuncData
  F_Negation___init__ : Fun K "__init__" "Negation.__init__" s_Negation___init__ f_Negation___init__ d_Negation___init__
  b_Negation___init__ : Binds K d_Negation___init__ ["self", "a"] []
  f_Both___init__ : Addr
  d_Both___init__ : FuncData
  F_Both___init__ : Fun K "__init__" "Both.__init__" s_Both___init__ f_Both___init__ d_Both___init__
  b_Both___init__ : Binds K d_Both___init__ ["self", "a", "b"] []
  f_law_built : Addr
  d_law_built : FuncData
  F_law_built : Fun K "_law_built" "_law_built" s_law_built f_law_built d_law_built
  b_law_built : Binds K d_law_built ["tree"] []
  g_law_built : mg "_law_built" = some (.ref f_law_built)
  f_law_compares : Addr
  d_law_compares : FuncData
  F_law_compares : Fun K "_law_compares" "_law_compares" s_law_compares f_law_compares d_law_compares
  b_law_compares : Binds K d_law_compares ["sign", "a", "b"] []
  g_law_compares : mg "_law_compares" = some (.ref f_law_compares)
  f_law_worth_passes : Addr
  d_law_worth_passes : FuncData
  F_law_worth_passes : Fun K "_law_worth_passes" "_law_worth_passes" s_law_worth_passes f_law_worth_passes d_law_worth_passes
  b_law_worth_passes : Binds K d_law_worth_passes ["tree", "worth"] []
  g_law_worth_passes : mg "_law_worth_passes" = some (.ref f_law_worth_passes)
  f_law_outcomes : Addr
  d_law_outcomes : FuncData
  F_law_outcomes : Fun K "_law_outcomes" "_law_outcomes" s_law_outcomes f_law_outcomes d_law_outcomes
  b_law_outcomes : Binds K d_law_outcomes ["fact", "tree"] []
  g_law_outcomes : mg "_law_outcomes" = some (.ref f_law_outcomes)
  f_law_due : Addr
  d_law_due : FuncData
  F_law_due : Fun K "_law_due" "_law_due" s_law_due f_law_due d_law_due
  b_law_due : Binds K d_law_due ["tree", "facts"] []
  g_law_due : mg "_law_due" = some (.ref f_law_due)
  f_law : Addr
  d_law : FuncData
  F_law : Fun K "law" "law" s_law f_law d_law
  b_law : Binds K d_law ["script"] []
  g_law : mg "law" = some (.ref f_law)
  c_Every : Addr
  cl_Every : Cls K c_Every
  mc_Every : mg "Every" = some (.ref c_Every)
  mb_Every : MkB K c_Every
  ha_Every : PySem.W.findIn K (.ref c_Every) "__class__" = some (some (.builtin "object.__class__"))
  hm_Every : PySem.W.mroIn K c_Every (.type "object") = some true
  c_Has : Addr
  cl_Has : Cls K c_Has
  mc_Has : mg "Has" = some (.ref c_Has)
  n_Has_field : NoAttr K c_Has "field"
  mk_Has : Mk K c_Has f_Has___init__
  ha_Has : PySem.W.findIn K (.ref c_Has) "__class__" = some (some (.builtin "object.__class__"))
  hm_Has : PySem.W.mroIn K c_Has (.type "object") = some true
  c_Compare : Addr
  cl_Compare : Cls K c_Compare
  mc_Compare : mg "Compare" = some (.ref c_Compare)
  n_Compare_field : NoAttr K c_Compare "field"
  n_Compare_sign : NoAttr K c_Compare "sign"
  n_Compare_value : NoAttr K c_Compare "value"
  mk_Compare : Mk K c_Compare f_Compare___init__
  ha_Compare : PySem.W.findIn K (.ref c_Compare) "__class__" = some (some (.builtin "object.__class__"))
  hm_Compare : PySem.W.mroIn K c_Compare (.type "object") = some true
  c_OneOf : Addr
  cl_OneOf : Cls K c_OneOf
  mc_OneOf : mg "OneOf" = some (.ref c_OneOf)
  n_OneOf_field : NoAttr K c_OneOf "field"
  n_OneOf_choices : NoAttr K c_OneOf "choices"
  mk_OneOf : Mk K c_OneOf f_OneOf___init__
  ha_OneOf : PySem.W.findIn K (.ref c_OneOf) "__class__" = some (some (.builtin "object.__class__"))
  hm_OneOf : PySem.W.mroIn K c_OneOf (.type "object") = some true
  c_Both : Addr
  cl_Both : Cls K c_Both
  mc_Both : mg "Both" = some (.ref c_Both)
  n_Both_a : NoAttr K c_Both "a"
  n_Both_b : NoAttr K c_Both "b"
  mk_Both : Mk K c_Both f_Both___init__
  ha_Both : PySem.W.findIn K (.ref c_Both) "__class__" = some (some (.builtin "object.__class__"))
  hm_Both : PySem.W.mroIn K c_Both (.type "object") = some true
  c_Either : Addr
  cl_Either : Cls K c_Either
  mc_Either : mg "Either" = some (.ref c_Either)
  n_Either_a : NoAttr K c_Either "a"
  n_Either_b : NoAttr K c_Either "b"
  mk_Either : Mk K c_Either f_Either___init__
  ha_Either : PySem.W.findIn K (.ref c_Either) "__class__" = some (some (.builtin "object.__class__"))
  hm_Either : PySem.W.mroIn K c_Either (.type "object") = some true
  c_Negation : Addr
  cl_Negation : Cls K c_Negation
  mc_Negation : mg "Negation" = some (.ref c_Negation)
  n_Negation_a : NoAttr K c_Negation "a"
  mk_Negation : Mk K c_Negation f_Negation___init__
  ha_Negation : PySem.W.findIn K (.ref c_Negation) "__class__" = some (some (.builtin "object.__class__"))
  hm_Negation : PySem.W.mroIn K c_Negation (.type "object") = some true
  c_Range : Addr
  cl_Range : Cls K c_Range
  mc_Range : mg "Range" = some (.ref c_Range)
  n_Range_field : NoAttr K c_Range "field"
  n_Range_low : NoAttr K c_Range "low"
  n_Range_high : NoAttr K c_Range "high"
  n_Range_lack : NoAttr K c_Range "lack"
  mk_Range : Mk K c_Range f_Range___init__
  me_Range_outcomes : Meth K c_Range "outcomes" f_Range_outcomes
  c_Values : Addr
  cl_Values : Cls K c_Values
  mc_Values : mg "Values" = some (.ref c_Values)
  n_Values_field : NoAttr K c_Values "field"
  n_Values_choices : NoAttr K c_Values "choices"
  n_Values_lack : NoAttr K c_Values "lack"
  mk_Values : Mk K c_Values f_Values___init__
  me_Values_outcomes : Meth K c_Values "outcomes" f_Values_outcomes
  c_Norms : Addr
  cl_Norms : Cls K c_Norms
  mc_Norms : mg "Norms" = some (.ref c_Norms)
  n_Norms_low : NoAttr K c_Norms "low"
  n_Norms_high : NoAttr K c_Norms "high"
  mk_Norms : Mk K c_Norms f_Norms___init__
  me_Norms_outcomes : Meth K c_Norms "outcomes" f_Fact_outcomes
  c_Names : Addr
  cl_Names : Cls K c_Names
  mc_Names : mg "Names" = some (.ref c_Names)
  n_Names_low : NoAttr K c_Names "low"
  n_Names_high : NoAttr K c_Names "high"
  mk_Names : Mk K c_Names f_Names___init__
  me_Names_outcomes : Meth K c_Names "outcomes" f_Fact_outcomes
  c_Box : Addr
  cl_Box : Cls K c_Box
  mc_Box : mg "Box" = some (.ref c_Box)
  n_Box_low : NoAttr K c_Box "low"
  n_Box_high : NoAttr K c_Box "high"
  mk_Box : Mk K c_Box f_Box___init__
  me_Box_outcomes : Meth K c_Box "outcomes" f_Fact_outcomes
  kit_Every_Has : PySem.W.kitOne K (.ref c_Every) (.ref c_Has) = some false
  kit_Has_Has : PySem.W.kitOne K (.ref c_Has) (.ref c_Has) = some true
  kit_Compare_Has : PySem.W.kitOne K (.ref c_Compare) (.ref c_Has) = some false
  kit_OneOf_Has : PySem.W.kitOne K (.ref c_OneOf) (.ref c_Has) = some false
  kit_Both_Has : PySem.W.kitOne K (.ref c_Both) (.ref c_Has) = some false
  kit_Either_Has : PySem.W.kitOne K (.ref c_Either) (.ref c_Has) = some false
  kit_Negation_Has : PySem.W.kitOne K (.ref c_Negation) (.ref c_Has) = some false
  kit_Every_OneOf : PySem.W.kitOne K (.ref c_Every) (.ref c_OneOf) = some false
  kit_Has_OneOf : PySem.W.kitOne K (.ref c_Has) (.ref c_OneOf) = some false
  kit_Compare_OneOf : PySem.W.kitOne K (.ref c_Compare) (.ref c_OneOf) = some false
  kit_OneOf_OneOf : PySem.W.kitOne K (.ref c_OneOf) (.ref c_OneOf) = some true
  kit_Both_OneOf : PySem.W.kitOne K (.ref c_Both) (.ref c_OneOf) = some false
  kit_Either_OneOf : PySem.W.kitOne K (.ref c_Either) (.ref c_OneOf) = some false
  kit_Negation_OneOf : PySem.W.kitOne K (.ref c_Negation) (.ref c_OneOf) = some false
  kit_Every_Negation : PySem.W.kitOne K (.ref c_Every) (.ref c_Negation) = some false
  kit_Has_Negation : PySem.W.kitOne K (.ref c_Has) (.ref c_Negation) = some false
  kit_Compare_Negation : PySem.W.kitOne K (.ref c_Compare) (.ref c_Negation) = some false
  kit_OneOf_Negation : PySem.W.kitOne K (.ref c_OneOf) (.ref c_Negation) = some false
  kit_Both_Negation : PySem.W.kitOne K (.ref c_Both) (.ref c_Negation) = some false
  kit_Either_Negation : PySem.W.kitOne K (.ref c_Either) (.ref c_Negation) = some false
  kit_Negation_Negation : PySem.W.kitOne K (.ref c_Negation) (.ref c_Negation) = some true
  kit_Every_Both : PySem.W.kitOne K (.ref c_Every) (.ref c_Both) = some false
  kit_Has_Both : PySem.W.kitOne K (.ref c_Has) (.ref c_Both) = some false
  kit_Compare_Both : PySem.W.kitOne K (.ref c_Compare) (.ref c_Both) = some false
  kit_OneOf_Both : PySem.W.kitOne K (.ref c_OneOf) (.ref c_Both) = some false
  kit_Both_Both : PySem.W.kitOne K (.ref c_Both) (.ref c_Both) = some true
  kit_Either_Both : PySem.W.kitOne K (.ref c_Either) (.ref c_Both) = some false
  kit_Negation_Both : PySem.W.kitOne K (.ref c_Negation) (.ref c_Both) = some false
  kit_Every_Either : PySem.W.kitOne K (.ref c_Every) (.ref c_Either) = some false
  kit_Has_Either : PySem.W.kitOne K (.ref c_Has) (.ref c_Either) = some false
  kit_Compare_Either : PySem.W.kitOne K (.ref c_Compare) (.ref c_Either) = some false
  kit_OneOf_Either : PySem.W.kitOne K (.ref c_OneOf) (.ref c_Either) = some false
  kit_Both_Either : PySem.W.kitOne K (.ref c_Both) (.ref c_Either) = some false
  kit_Either_Either : PySem.W.kitOne K (.ref c_Either) (.ref c_Either) = some true
  kit_Negation_Either : PySem.W.kitOne K (.ref c_Negation) (.ref c_Either) = some false
  kit_Every_Compare : PySem.W.kitOne K (.ref c_Every) (.ref c_Compare) = some false
  kit_Has_Compare : PySem.W.kitOne K (.ref c_Has) (.ref c_Compare) = some false
  kit_Compare_Compare : PySem.W.kitOne K (.ref c_Compare) (.ref c_Compare) = some true
  kit_OneOf_Compare : PySem.W.kitOne K (.ref c_OneOf) (.ref c_Compare) = some false
  kit_Both_Compare : PySem.W.kitOne K (.ref c_Both) (.ref c_Compare) = some false
  kit_Either_Compare : PySem.W.kitOne K (.ref c_Either) (.ref c_Compare) = some false
  kit_Negation_Compare : PySem.W.kitOne K (.ref c_Negation) (.ref c_Compare) = some false
  hn0 : PySem.W.specialIn K (.builtin "object.__class__") "__get__" = some (some (.builtin "getset_descriptor.__get__"))
  ht0 : PySem.W.takesIn K (.builtin "object.__class__") = some true
  m_all : mg "all" = none
  m_any : mg "any" = none
  m_bool : mg "bool" = none
  m_int : mg "int" = none
  m_isinstance : mg "isinstance" = none
  m_len : mg "len" = none
  m_list : mg "list" = none
  m_range : mg "range" = none
  m_tuple : mg "tuple" = none
section
variable {P : Program} {w : World} {K : PySem.W.Frag} {mg : Str → Option Value} {base : Heap}
def y_Every (T : Txt K mg) : Ty Every := ⟨fun Z v _ => ∃ a dx, v = .ref a ∧ Z a = some (.ins T.c_Every dx []), fun s ⟨a, dx, e, h⟩ => ⟨a, dx, e, s _ _ h⟩⟩
theorem nn_Every (T : Txt K mg) : NonNil (y_Every T) := fun _ _ _ ⟨_, _, e, _⟩ => by rw [e]; exact fun z => nomatch z
theorem oo_Every (T : Txt K mg) {m : Str} (_ : True) : ObjOf (y_Every T) T.c_Every m := fun _ _ _ ⟨a, dx, e, g⟩ => ⟨a, dx, _, e, g, rfl⟩
theorem tx_Every (T : Txt K mg) {fp : List Addr} {x : Every} : ∀ Z H v, Same Z H → (ty (fp := fp) (y_Every T) x).r Z H v → TyX K H v (.ref T.c_Every) := fun _ _ _ sz ⟨a, dx, e, h⟩ => by subst e; exact .base (.ins (sz _ _ h) T.cl_Every T.ha_Every T.hn0 T.ht0 T.hm_Every)
def y_Has (T : Txt K mg) : Ty Has := ⟨fun Z v x => ∃ a dx w0, v = .ref a ∧ Z a = some (.ins T.c_Has dx (ff_Has w0)) ∧ (yStr).r Z w0 x.field,
  fun s ⟨a, dx, w0, e, h, h0⟩ => ⟨a, dx, w0, e, s _ _ h, (yStr).mono s h0⟩⟩
theorem nn_Has (T : Txt K mg) : NonNil (y_Has T) := fun _ _ _ ⟨_, _, _, e, _⟩ => by rw [e]; exact fun z => nomatch z
theorem fo_Has_field (T : Txt K mg) : FldOf (y_Has T) T.c_Has "field" yStr Has.field := fun _ _ _ ⟨a, dx, w0, e, h, h0⟩ => ⟨a, dx, _, w0, e, h, lk_Has_field, h0⟩
theorem tx_Has (T : Txt K mg) {fp : List Addr} {x : Has} : ∀ Z H v, Same Z H → (ty (fp := fp) (y_Has T) x).r Z H v → TyX K H v (.ref T.c_Has) := fun _ _ _ sz ⟨a, dx, w0, e, h, _⟩ => by subst e; exact .base (.ins (sz _ _ h) T.cl_Has T.ha_Has T.hn0 T.ht0 T.hm_Has)
theorem oo_Has (T : Txt K mg) {m : Str} (h : ¬ m = "field") : ObjOf (y_Has T) T.c_Has m := fun _ _ _ ⟨a, dx, w0, e, g, _⟩ => ⟨a, dx, _, e, g, no_Has (h)⟩
def y_Val (T : Txt K mg) : Ty Val := ⟨fun Z v x => match x with
  | .i y => (yInt).r Z v y
  | .s y => (yStr).r Z v y
  | .b y => (yBool).r Z v y,
  fun {Z Z2 v x} s h => match x, h with
  | .i y, h => (yInt).mono s h
  | .s y, h => (yStr).mono s h
  | .b y, h => (yBool).mono s h⟩
theorem nn_Val (T : Txt K mg) : NonNil (y_Val T) := fun Z v x h => match x, h with
  | .i y, h => nn_int Z v y h
  | .s y, h => nn_str Z v y h
  | .b y, h => nn_bool Z v y h
theorem ij_Val_i (T : Txt K mg) {μ : Type} {M : Mu μ} {σ : L2.St} {Z H : Hp} {s s1 : μ} {ta : TE} {x : Int} (h : Ev M ta σ Z H s (ty yInt x) s1) : Ev M ta σ Z H s (ty (y_Val T) (.i x)) s1 := h.weak fun _ _ _ _ e => e
theorem pj_Val_i (T : Txt K mg) {μ : Type} {M : Mu μ} {σ : L2.St} {Z H : Hp} {s s1 : μ} {ta : TE} {x : Val} {y : Int} (h : Ev M ta σ Z H s (ty (y_Val T) x) s1) (e : x.p_i = some y) : Ev M ta σ Z H s (ty yInt y) s1 := by
  cases x <;> first | (have e := Option.some.inj e; subst e; exact h.weak fun _ _ _ _ e => e) | cases e
theorem ij_Val_s (T : Txt K mg) {μ : Type} {M : Mu μ} {σ : L2.St} {Z H : Hp} {s s1 : μ} {ta : TE} {x : Str} (h : Ev M ta σ Z H s (ty yStr x) s1) : Ev M ta σ Z H s (ty (y_Val T) (.s x)) s1 := h.weak fun _ _ _ _ e => e
theorem pj_Val_s (T : Txt K mg) {μ : Type} {M : Mu μ} {σ : L2.St} {Z H : Hp} {s s1 : μ} {ta : TE} {x : Val} {y : Str} (h : Ev M ta σ Z H s (ty (y_Val T) x) s1) (e : x.p_s = some y) : Ev M ta σ Z H s (ty yStr y) s1 := by
  cases x <;> first | (have e := Option.some.inj e; subst e; exact h.weak fun _ _ _ _ e => e) | cases e
theorem ij_Val_b (T : Txt K mg) {μ : Type} {M : Mu μ} {σ : L2.St} {Z H : Hp} {s s1 : μ} {ta : TE} {x : Bool} (h : Ev M ta σ Z H s (ty yBool x) s1) : Ev M ta σ Z H s (ty (y_Val T) (.b x)) s1 := h.weak fun _ _ _ _ e => e
theorem pj_Val_b (T : Txt K mg) {μ : Type} {M : Mu μ} {σ : L2.St} {Z H : Hp} {s s1 : μ} {ta : TE} {x : Val} {y : Bool} (h : Ev M ta σ Z H s (ty (y_Val T) x) s1) (e : x.p_b = some y) : Ev M ta σ Z H s (ty yBool y) s1 := by
  cases x <;> first | (have e := Option.some.inj e; subst e; exact h.weak fun _ _ _ _ e => e) | cases e
theorem eqw_Val (T : Txt K mg) : EqW K (y_Val T) d_Val 8 where
  dp := fun Z H v x sz h => match x, h with
    | .i y, h => EqW.dp (K := K) (τ := yInt) eqd_int.w Z H v y sz h
    | .s y, h => EqW.dp (K := K) (τ := yStr) eqd_str.w Z H v y sz h
    | .b y, h => EqW.dp (K := K) (τ := yBool) eqd_bool.w Z H v y sz h
  lay := fun Z v x h => match x, h with
    | .i y, h => EqW.lay (K := K) (τ := yInt) eqd_int.w Z v y h
    | .s y, h => EqW.lay (K := K) (τ := yStr) eqd_str.w Z v y h
    | .b y, h => EqW.lay (K := K) (τ := yBool) eqd_bool.w Z v y h
  dep := fun x => match x with
    | .i y => Nat.le_trans (EqW.dep (K := K) (τ := yInt) eqd_int.w y) (by decide)
    | .s y => Nat.le_trans (EqW.dep (K := K) (τ := yStr) eqd_str.w y) (by decide)
    | .b y => Nat.le_trans (EqW.dep (K := K) (τ := yBool) eqd_bool.w y) (by decide)
def cls_Val (T : Txt K mg) : Val → Value
  | .i _ => (.type "int")
  | .s _ => (.type "str")
  | .b _ => (.type "bool")
theorem tx_Val (T : Txt K mg) {fp : List Addr} {x : Val} : ∀ Z H v, Same Z H → (ty (fp := fp) (y_Val T) x).r Z H v → TyX K H v (cls_Val T x) := fun Z H v sz h => match x, h with
  | .i y, h => tx_int Z H v sz (show (ty (fp := fp) yInt y).r Z H v from h)
  | .s y, h => tx_str Z H v sz (show (ty (fp := fp) yStr y).r Z H v from h)
  | .b y, h => tx_bool Z H v sz (show (ty (fp := fp) yBool y).r Z H v from h)
theorem kit_Val_bool (T : Txt K mg) (x : Val) : PySem.W.kitOne K (cls_Val T x) (.type "bool") = some (x.is_bool) := match x with
  | .i _ => (show PySem.W.kitOne K (.type "int") (.type "bool") = some false from (kit_ty (by decide +kernel)))
  | .s _ => (show PySem.W.kitOne K (.type "str") (.type "bool") = some false from (kit_ty (by decide +kernel)))
  | .b _ => (show PySem.W.kitOne K (.type "bool") (.type "bool") = some true from (kit_ty (by decide +kernel)))
theorem kit_Val_int (T : Txt K mg) (x : Val) : PySem.W.kitOne K (cls_Val T x) (.type "int") = some (x.is_int) := match x with
  | .i _ => (show PySem.W.kitOne K (.type "int") (.type "int") = some true from (kit_ty (by decide +kernel)))
  | .s _ => (show PySem.W.kitOne K (.type "str") (.type "int") = some false from (kit_ty (by decide +kernel)))
  | .b _ => (show PySem.W.kitOne K (.type "bool") (.type "int") = some true from (kit_ty (by decide +kernel)))
theorem tv_Val (T : Txt K mg) : ∀ Z v x, (y_Val T).r Z v x → v = x.toV := fun Z v x h => match x, h with
  | .i y, h => h
  | .s y, h => h.1
  | .b y, h => h
def y_Compare (T : Txt K mg) : Ty Compare := ⟨fun Z v x => ∃ a dx w0 w1 w2, v = .ref a ∧ Z a = some (.ins T.c_Compare dx (ff_Compare w0 w1 w2)) ∧ (yStr).r Z w0 x.field ∧ (yStr).r Z w1 x.sign ∧ ((y_Val T)).r Z w2 x.value,
  fun s ⟨a, dx, w0, w1, w2, e, h, h0, h1, h2⟩ => ⟨a, dx, w0, w1, w2, e, s _ _ h, (yStr).mono s h0, (yStr).mono s h1, ((y_Val T)).mono s h2⟩⟩
theorem nn_Compare (T : Txt K mg) : NonNil (y_Compare T) := fun _ _ _ ⟨_, _, _, _, _, e, _⟩ => by rw [e]; exact fun z => nomatch z
theorem fo_Compare_field (T : Txt K mg) : FldOf (y_Compare T) T.c_Compare "field" yStr Compare.field := fun _ _ _ ⟨a, dx, w0, w1, w2, e, h, h0, h1, h2⟩ => ⟨a, dx, _, w0, e, h, lk_Compare_field, h0⟩
theorem fo_Compare_sign (T : Txt K mg) : FldOf (y_Compare T) T.c_Compare "sign" yStr Compare.sign := fun _ _ _ ⟨a, dx, w0, w1, w2, e, h, h0, h1, h2⟩ => ⟨a, dx, _, w1, e, h, lk_Compare_sign, h1⟩
theorem fo_Compare_value (T : Txt K mg) : FldOf (y_Compare T) T.c_Compare "value" (y_Val T) Compare.value := fun _ _ _ ⟨a, dx, w0, w1, w2, e, h, h0, h1, h2⟩ => ⟨a, dx, _, w2, e, h, lk_Compare_value, h2⟩
theorem tx_Compare (T : Txt K mg) {fp : List Addr} {x : Compare} : ∀ Z H v, Same Z H → (ty (fp := fp) (y_Compare T) x).r Z H v → TyX K H v (.ref T.c_Compare) := fun _ _ _ sz ⟨a, dx, w0, w1, w2, e, h, _⟩ => by subst e; exact .base (.ins (sz _ _ h) T.cl_Compare T.ha_Compare T.hn0 T.ht0 T.hm_Compare)
theorem oo_Compare (T : Txt K mg) {m : Str} (h : ¬ m = "field" ∧ ¬ m = "sign" ∧ ¬ m = "value") : ObjOf (y_Compare T) T.c_Compare m := fun _ _ _ ⟨a, dx, w0, w1, w2, e, g, _⟩ => ⟨a, dx, _, e, g, no_Compare (h.1) (h.2.1) (h.2.2)⟩
def y_OneOf (T : Txt K mg) : Ty OneOf := ⟨fun Z v x => ∃ a dx w0 w1, v = .ref a ∧ Z a = some (.ins T.c_OneOf dx (ff_OneOf w0 w1)) ∧ (yStr).r Z w0 x.field ∧ ((yTup K (y_Val T))).r Z w1 x.choices,
  fun s ⟨a, dx, w0, w1, e, h, h0, h1⟩ => ⟨a, dx, w0, w1, e, s _ _ h, (yStr).mono s h0, ((yTup K (y_Val T))).mono s h1⟩⟩
theorem nn_OneOf (T : Txt K mg) : NonNil (y_OneOf T) := fun _ _ _ ⟨_, _, _, _, e, _⟩ => by rw [e]; exact fun z => nomatch z
theorem fo_OneOf_field (T : Txt K mg) : FldOf (y_OneOf T) T.c_OneOf "field" yStr OneOf.field := fun _ _ _ ⟨a, dx, w0, w1, e, h, h0, h1⟩ => ⟨a, dx, _, w0, e, h, lk_OneOf_field, h0⟩
theorem fo_OneOf_choices (T : Txt K mg) : FldOf (y_OneOf T) T.c_OneOf "choices" (yTup K (y_Val T)) OneOf.choices := fun _ _ _ ⟨a, dx, w0, w1, e, h, h0, h1⟩ => ⟨a, dx, _, w1, e, h, lk_OneOf_choices, h1⟩
theorem tx_OneOf (T : Txt K mg) {fp : List Addr} {x : OneOf} : ∀ Z H v, Same Z H → (ty (fp := fp) (y_OneOf T) x).r Z H v → TyX K H v (.ref T.c_OneOf) := fun _ _ _ sz ⟨a, dx, w0, w1, e, h, _⟩ => by subst e; exact .base (.ins (sz _ _ h) T.cl_OneOf T.ha_OneOf T.hn0 T.ht0 T.hm_OneOf)
theorem oo_OneOf (T : Txt K mg) {m : Str} (h : ¬ m = "field" ∧ ¬ m = "choices") : ObjOf (y_OneOf T) T.c_OneOf m := fun _ _ _ ⟨a, dx, w0, w1, e, g, _⟩ => ⟨a, dx, _, e, g, no_OneOf (h.1) (h.2)⟩
def r_Cond (T : Txt K mg) (Z : Hp) : V → Cond → Prop
  | v, .every x => ((y_Every T)).r Z v x
  | v, .has x => ((y_Has T)).r Z v x
  | v, .compare x => ((y_Compare T)).r Z v x
  | v, .one x => ((y_OneOf T)).r Z v x
  | v, .both ⟨y0, y1⟩ => ∃ a dx w0 w1, v = .ref a ∧ Z a = some (.ins T.c_Both dx (ff_Both w0 w1)) ∧ r_Cond T Z w0 y0 ∧ r_Cond T Z w1 y1
  | v, .either ⟨y0, y1⟩ => ∃ a dx w0 w1, v = .ref a ∧ Z a = some (.ins T.c_Either dx (ff_Either w0 w1)) ∧ r_Cond T Z w0 y0 ∧ r_Cond T Z w1 y1
  | v, .neg ⟨y0⟩ => ∃ a dx w0, v = .ref a ∧ Z a = some (.ins T.c_Negation dx (ff_Negation w0)) ∧ r_Cond T Z w0 y0
theorem mono_Cond (T : Txt K mg) : ∀ {Z Z' : Hp} {v : V} {x : Cond}, Same Z Z' → r_Cond T Z v x → r_Cond T Z' v x
  | _, _, _, .every x, s, h => ((y_Every T)).mono s h
  | _, _, _, .has x, s, h => ((y_Has T)).mono s h
  | _, _, _, .compare x, s, h => ((y_Compare T)).mono s h
  | _, _, _, .one x, s, h => ((y_OneOf T)).mono s h
  | _, _, _, .both ⟨y0, y1⟩, s, ⟨a, dx, w0, w1, e, h, h0, h1⟩ => ⟨a, dx, w0, w1, e, s _ _ h, mono_Cond T s h0, mono_Cond T s h1⟩
  | _, _, _, .either ⟨y0, y1⟩, s, ⟨a, dx, w0, w1, e, h, h0, h1⟩ => ⟨a, dx, w0, w1, e, s _ _ h, mono_Cond T s h0, mono_Cond T s h1⟩
  | _, _, _, .neg ⟨y0⟩, s, ⟨a, dx, w0, e, h, h0⟩ => ⟨a, dx, w0, e, s _ _ h, mono_Cond T s h0⟩
def y_Cond (T : Txt K mg) : Ty Cond := ⟨r_Cond T, mono_Cond T⟩
def y_Both (T : Txt K mg) : Ty Both := ⟨fun Z v x => ∃ a dx w0 w1, v = .ref a ∧ Z a = some (.ins T.c_Both dx (ff_Both w0 w1)) ∧ ((y_Cond T)).r Z w0 x.a ∧ ((y_Cond T)).r Z w1 x.b,
  fun s ⟨a, dx, w0, w1, e, h, h0, h1⟩ => ⟨a, dx, w0, w1, e, s _ _ h, ((y_Cond T)).mono s h0, ((y_Cond T)).mono s h1⟩⟩
theorem nn_Both (T : Txt K mg) : NonNil (y_Both T) := fun _ _ _ ⟨_, _, _, _, e, _⟩ => by rw [e]; exact fun z => nomatch z
theorem fo_Both_a (T : Txt K mg) : FldOf (y_Both T) T.c_Both "a" (y_Cond T) Both.a := fun _ _ _ ⟨a, dx, w0, w1, e, h, h0, h1⟩ => ⟨a, dx, _, w0, e, h, lk_Both_a, h0⟩
theorem fo_Both_b (T : Txt K mg) : FldOf (y_Both T) T.c_Both "b" (y_Cond T) Both.b := fun _ _ _ ⟨a, dx, w0, w1, e, h, h0, h1⟩ => ⟨a, dx, _, w1, e, h, lk_Both_b, h1⟩
theorem tx_Both (T : Txt K mg) {fp : List Addr} {x : Both} : ∀ Z H v, Same Z H → (ty (fp := fp) (y_Both T) x).r Z H v → TyX K H v (.ref T.c_Both) := fun _ _ _ sz ⟨a, dx, w0, w1, e, h, _⟩ => by subst e; exact .base (.ins (sz _ _ h) T.cl_Both T.ha_Both T.hn0 T.ht0 T.hm_Both)
theorem oo_Both (T : Txt K mg) {m : Str} (h : ¬ m = "a" ∧ ¬ m = "b") : ObjOf (y_Both T) T.c_Both m := fun _ _ _ ⟨a, dx, w0, w1, e, g, _⟩ => ⟨a, dx, _, e, g, no_Both (h.1) (h.2)⟩
def y_Either (T : Txt K mg) : Ty Either := ⟨fun Z v x => ∃ a dx w0 w1, v = .ref a ∧ Z a = some (.ins T.c_Either dx (ff_Either w0 w1)) ∧ ((y_Cond T)).r Z w0 x.a ∧ ((y_Cond T)).r Z w1 x.b,
  fun s ⟨a, dx, w0, w1, e, h, h0, h1⟩ => ⟨a, dx, w0, w1, e, s _ _ h, ((y_Cond T)).mono s h0, ((y_Cond T)).mono s h1⟩⟩
theorem nn_Either (T : Txt K mg) : NonNil (y_Either T) := fun _ _ _ ⟨_, _, _, _, e, _⟩ => by rw [e]; exact fun z => nomatch z
theorem fo_Either_a (T : Txt K mg) : FldOf (y_Either T) T.c_Either "a" (y_Cond T) Either.a := fun _ _ _ ⟨a, dx, w0, w1, e, h, h0, h1⟩ => ⟨a, dx, _, w0, e, h, lk_Either_a, h0⟩
theorem fo_Either_b (T : Txt K mg) : FldOf (y_Either T) T.c_Either "b" (y_Cond T) Either.b := fun _ _ _ ⟨a, dx, w0, w1, e, h, h0, h1⟩ => ⟨a, dx, _, w1, e, h, lk_Either_b, h1⟩
theorem tx_Either (T : Txt K mg) {fp : List Addr} {x : Either} : ∀ Z H v, Same Z H → (ty (fp := fp) (y_Either T) x).r Z H v → TyX K H v (.ref T.c_Either) := fun _ _ _ sz ⟨a, dx, w0, w1, e, h, _⟩ => by subst e; exact .base (.ins (sz _ _ h) T.cl_Either T.ha_Either T.hn0 T.ht0 T.hm_Either)
theorem oo_Either (T : Txt K mg) {m : Str} (h : ¬ m = "a" ∧ ¬ m = "b") : ObjOf (y_Either T) T.c_Either m := fun _ _ _ ⟨a, dx, w0, w1, e, g, _⟩ => ⟨a, dx, _, e, g, no_Either (h.1) (h.2)⟩
def y_Negation (T : Txt K mg) : Ty Negation := ⟨fun Z v x => ∃ a dx w0, v = .ref a ∧ Z a = some (.ins T.c_Negation dx (ff_Negation w0)) ∧ ((y_Cond T)).r Z w0 x.a,
  fun s ⟨a, dx, w0, e, h, h0⟩ => ⟨a, dx, w0, e, s _ _ h, ((y_Cond T)).mono s h0⟩⟩
theorem nn_Negation (T : Txt K mg) : NonNil (y_Negation T) := fun _ _ _ ⟨_, _, _, e, _⟩ => by rw [e]; exact fun z => nomatch z
theorem fo_Negation_a (T : Txt K mg) : FldOf (y_Negation T) T.c_Negation "a" (y_Cond T) Negation.a := fun _ _ _ ⟨a, dx, w0, e, h, h0⟩ => ⟨a, dx, _, w0, e, h, lk_Negation_a, h0⟩
theorem tx_Negation (T : Txt K mg) {fp : List Addr} {x : Negation} : ∀ Z H v, Same Z H → (ty (fp := fp) (y_Negation T) x).r Z H v → TyX K H v (.ref T.c_Negation) := fun _ _ _ sz ⟨a, dx, w0, e, h, _⟩ => by subst e; exact .base (.ins (sz _ _ h) T.cl_Negation T.ha_Negation T.hn0 T.ht0 T.hm_Negation)
theorem oo_Negation (T : Txt K mg) {m : Str} (h : ¬ m = "a") : ObjOf (y_Negation T) T.c_Negation m := fun _ _ _ ⟨a, dx, w0, e, g, _⟩ => ⟨a, dx, _, e, g, no_Negation (h)⟩
theorem eb_Cond_both (T : Txt K mg) {Z : Hp} {v : V} {x : Both} (h : (y_Cond T).r Z v (.both x)) : (y_Both T).r Z v x := by cases x; exact h
theorem eb_Cond_either (T : Txt K mg) {Z : Hp} {v : V} {x : Either} (h : (y_Cond T).r Z v (.either x)) : (y_Either T).r Z v x := by cases x; exact h
theorem eb_Cond_neg (T : Txt K mg) {Z : Hp} {v : V} {x : Negation} (h : (y_Cond T).r Z v (.neg x)) : (y_Negation T).r Z v x := by cases x; exact h
theorem nn_Cond (T : Txt K mg) : NonNil (y_Cond T) := fun Z v x h => match x, h with
  | .every y, h => (nn_Every T) Z v y h
  | .has y, h => (nn_Has T) Z v y h
  | .compare y, h => (nn_Compare T) Z v y h
  | .one y, h => (nn_OneOf T) Z v y h
  | .both ⟨y0, y1⟩, h => (nn_Both T) Z v (⟨y0, y1⟩ : Both) h
  | .either ⟨y0, y1⟩, h => (nn_Either T) Z v (⟨y0, y1⟩ : Either) h
  | .neg ⟨y0⟩, h => (nn_Negation T) Z v (⟨y0⟩ : Negation) h
theorem ij_Cond_every (T : Txt K mg) {μ : Type} {M : Mu μ} {σ : L2.St} {Z H : Hp} {s s1 : μ} {ta : TE} {x : Every} (h : Ev M ta σ Z H s (ty (y_Every T) x) s1) : Ev M ta σ Z H s (ty (y_Cond T) (.every x)) s1 := h.weak fun _ _ _ _ e => e
theorem pj_Cond_every (T : Txt K mg) {μ : Type} {M : Mu μ} {σ : L2.St} {Z H : Hp} {s s1 : μ} {ta : TE} {x : Cond} {y : Every} (h : Ev M ta σ Z H s (ty (y_Cond T) x) s1) (e : x.p_every = some y) : Ev M ta σ Z H s (ty (y_Every T) y) s1 := by
  cases x <;> first | (have e := Option.some.inj e; subst e; exact h.weak fun _ _ _ _ e => e) | (have e := Option.some.inj e; subst e; rename_i z; cases z; exact h.weak fun _ _ _ _ e => e) | cases e
theorem ij_Cond_has (T : Txt K mg) {μ : Type} {M : Mu μ} {σ : L2.St} {Z H : Hp} {s s1 : μ} {ta : TE} {x : Has} (h : Ev M ta σ Z H s (ty (y_Has T) x) s1) : Ev M ta σ Z H s (ty (y_Cond T) (.has x)) s1 := h.weak fun _ _ _ _ e => e
theorem pj_Cond_has (T : Txt K mg) {μ : Type} {M : Mu μ} {σ : L2.St} {Z H : Hp} {s s1 : μ} {ta : TE} {x : Cond} {y : Has} (h : Ev M ta σ Z H s (ty (y_Cond T) x) s1) (e : x.p_has = some y) : Ev M ta σ Z H s (ty (y_Has T) y) s1 := by
  cases x <;> first | (have e := Option.some.inj e; subst e; exact h.weak fun _ _ _ _ e => e) | (have e := Option.some.inj e; subst e; rename_i z; cases z; exact h.weak fun _ _ _ _ e => e) | cases e
theorem ij_Cond_compare (T : Txt K mg) {μ : Type} {M : Mu μ} {σ : L2.St} {Z H : Hp} {s s1 : μ} {ta : TE} {x : Compare} (h : Ev M ta σ Z H s (ty (y_Compare T) x) s1) : Ev M ta σ Z H s (ty (y_Cond T) (.compare x)) s1 := h.weak fun _ _ _ _ e => e
theorem pj_Cond_compare (T : Txt K mg) {μ : Type} {M : Mu μ} {σ : L2.St} {Z H : Hp} {s s1 : μ} {ta : TE} {x : Cond} {y : Compare} (h : Ev M ta σ Z H s (ty (y_Cond T) x) s1) (e : x.p_compare = some y) : Ev M ta σ Z H s (ty (y_Compare T) y) s1 := by
  cases x <;> first | (have e := Option.some.inj e; subst e; exact h.weak fun _ _ _ _ e => e) | (have e := Option.some.inj e; subst e; rename_i z; cases z; exact h.weak fun _ _ _ _ e => e) | cases e
theorem ij_Cond_one (T : Txt K mg) {μ : Type} {M : Mu μ} {σ : L2.St} {Z H : Hp} {s s1 : μ} {ta : TE} {x : OneOf} (h : Ev M ta σ Z H s (ty (y_OneOf T) x) s1) : Ev M ta σ Z H s (ty (y_Cond T) (.one x)) s1 := h.weak fun _ _ _ _ e => e
theorem pj_Cond_one (T : Txt K mg) {μ : Type} {M : Mu μ} {σ : L2.St} {Z H : Hp} {s s1 : μ} {ta : TE} {x : Cond} {y : OneOf} (h : Ev M ta σ Z H s (ty (y_Cond T) x) s1) (e : x.p_one = some y) : Ev M ta σ Z H s (ty (y_OneOf T) y) s1 := by
  cases x <;> first | (have e := Option.some.inj e; subst e; exact h.weak fun _ _ _ _ e => e) | (have e := Option.some.inj e; subst e; rename_i z; cases z; exact h.weak fun _ _ _ _ e => e) | cases e
theorem ij_Cond_both (T : Txt K mg) {μ : Type} {M : Mu μ} {σ : L2.St} {Z H : Hp} {s s1 : μ} {ta : TE} {x : Both} (h : Ev M ta σ Z H s (ty (y_Both T) x) s1) : Ev M ta σ Z H s (ty (y_Cond T) (.both x)) s1 := h.weak fun _ _ _ _ e => by cases x; exact e
theorem pj_Cond_both (T : Txt K mg) {μ : Type} {M : Mu μ} {σ : L2.St} {Z H : Hp} {s s1 : μ} {ta : TE} {x : Cond} {y : Both} (h : Ev M ta σ Z H s (ty (y_Cond T) x) s1) (e : x.p_both = some y) : Ev M ta σ Z H s (ty (y_Both T) y) s1 := by
  cases x <;> first | (have e := Option.some.inj e; subst e; exact h.weak fun _ _ _ _ e => e) | (have e := Option.some.inj e; subst e; rename_i z; cases z; exact h.weak fun _ _ _ _ e => e) | cases e
theorem ij_Cond_either (T : Txt K mg) {μ : Type} {M : Mu μ} {σ : L2.St} {Z H : Hp} {s s1 : μ} {ta : TE} {x : Either} (h : Ev M ta σ Z H s (ty (y_Either T) x) s1) : Ev M ta σ Z H s (ty (y_Cond T) (.either x)) s1 := h.weak fun _ _ _ _ e => by cases x; exact e
theorem pj_Cond_either (T : Txt K mg) {μ : Type} {M : Mu μ} {σ : L2.St} {Z H : Hp} {s s1 : μ} {ta : TE} {x : Cond} {y : Either} (h : Ev M ta σ Z H s (ty (y_Cond T) x) s1) (e : x.p_either = some y) : Ev M ta σ Z H s (ty (y_Either T) y) s1 := by
  cases x <;> first | (have e := Option.some.inj e; subst e; exact h.weak fun _ _ _ _ e => e) | (have e := Option.some.inj e; subst e; rename_i z; cases z; exact h.weak fun _ _ _ _ e => e) | cases e
theorem ij_Cond_neg (T : Txt K mg) {μ : Type} {M : Mu μ} {σ : L2.St} {Z H : Hp} {s s1 : μ} {ta : TE} {x : Negation} (h : Ev M ta σ Z H s (ty (y_Negation T) x) s1) : Ev M ta σ Z H s (ty (y_Cond T) (.neg x)) s1 := h.weak fun _ _ _ _ e => by cases x; exact e
theorem pj_Cond_neg (T : Txt K mg) {μ : Type} {M : Mu μ} {σ : L2.St} {Z H : Hp} {s s1 : μ} {ta : TE} {x : Cond} {y : Negation} (h : Ev M ta σ Z H s (ty (y_Cond T) x) s1) (e : x.p_neg = some y) : Ev M ta σ Z H s (ty (y_Negation T) y) s1 := by
  cases x <;> first | (have e := Option.some.inj e; subst e; exact h.weak fun _ _ _ _ e => e) | (have e := Option.some.inj e; subst e; rename_i z; cases z; exact h.weak fun _ _ _ _ e => e) | cases e
def cls_Cond (T : Txt K mg) : Cond → Value
  | .every _ => (.ref T.c_Every)
  | .has _ => (.ref T.c_Has)
  | .compare _ => (.ref T.c_Compare)
  | .one _ => (.ref T.c_OneOf)
  | .both _ => (.ref T.c_Both)
  | .either _ => (.ref T.c_Either)
  | .neg _ => (.ref T.c_Negation)
theorem tx_Cond (T : Txt K mg) {fp : List Addr} {x : Cond} : ∀ Z H v, Same Z H → (ty (fp := fp) (y_Cond T) x).r Z H v → TyX K H v (cls_Cond T x) := fun Z H v sz h => match x, h with
  | .every y, h => (tx_Every T) Z H v sz (show (ty (fp := fp) (y_Every T) y).r Z H v from h)
  | .has y, h => (tx_Has T) Z H v sz (show (ty (fp := fp) (y_Has T) y).r Z H v from h)
  | .compare y, h => (tx_Compare T) Z H v sz (show (ty (fp := fp) (y_Compare T) y).r Z H v from h)
  | .one y, h => (tx_OneOf T) Z H v sz (show (ty (fp := fp) (y_OneOf T) y).r Z H v from h)
  | .both ⟨y0, y1⟩, h => (tx_Both T) Z H v sz (show (ty (fp := fp) (y_Both T) (⟨y0, y1⟩ : Both)).r Z H v from h)
  | .either ⟨y0, y1⟩, h => (tx_Either T) Z H v sz (show (ty (fp := fp) (y_Either T) (⟨y0, y1⟩ : Either)).r Z H v from h)
  | .neg ⟨y0⟩, h => (tx_Negation T) Z H v sz (show (ty (fp := fp) (y_Negation T) (⟨y0⟩ : Negation)).r Z H v from h)
theorem kit_Cond_Has (T : Txt K mg) (x : Cond) : PySem.W.kitOne K (cls_Cond T x) (.ref T.c_Has) = some (x.is_Has) := match x with
  | .every _ => (show PySem.W.kitOne K (.ref T.c_Every) (.ref T.c_Has) = some false from T.kit_Every_Has)
  | .has _ => (show PySem.W.kitOne K (.ref T.c_Has) (.ref T.c_Has) = some true from T.kit_Has_Has)
  | .compare _ => (show PySem.W.kitOne K (.ref T.c_Compare) (.ref T.c_Has) = some false from T.kit_Compare_Has)
  | .one _ => (show PySem.W.kitOne K (.ref T.c_OneOf) (.ref T.c_Has) = some false from T.kit_OneOf_Has)
  | .both _ => (show PySem.W.kitOne K (.ref T.c_Both) (.ref T.c_Has) = some false from T.kit_Both_Has)
  | .either _ => (show PySem.W.kitOne K (.ref T.c_Either) (.ref T.c_Has) = some false from T.kit_Either_Has)
  | .neg _ => (show PySem.W.kitOne K (.ref T.c_Negation) (.ref T.c_Has) = some false from T.kit_Negation_Has)
theorem kit_Cond_OneOf (T : Txt K mg) (x : Cond) : PySem.W.kitOne K (cls_Cond T x) (.ref T.c_OneOf) = some (x.is_OneOf) := match x with
  | .every _ => (show PySem.W.kitOne K (.ref T.c_Every) (.ref T.c_OneOf) = some false from T.kit_Every_OneOf)
  | .has _ => (show PySem.W.kitOne K (.ref T.c_Has) (.ref T.c_OneOf) = some false from T.kit_Has_OneOf)
  | .compare _ => (show PySem.W.kitOne K (.ref T.c_Compare) (.ref T.c_OneOf) = some false from T.kit_Compare_OneOf)
  | .one _ => (show PySem.W.kitOne K (.ref T.c_OneOf) (.ref T.c_OneOf) = some true from T.kit_OneOf_OneOf)
  | .both _ => (show PySem.W.kitOne K (.ref T.c_Both) (.ref T.c_OneOf) = some false from T.kit_Both_OneOf)
  | .either _ => (show PySem.W.kitOne K (.ref T.c_Either) (.ref T.c_OneOf) = some false from T.kit_Either_OneOf)
  | .neg _ => (show PySem.W.kitOne K (.ref T.c_Negation) (.ref T.c_OneOf) = some false from T.kit_Negation_OneOf)
theorem kit_Cond_Negation (T : Txt K mg) (x : Cond) : PySem.W.kitOne K (cls_Cond T x) (.ref T.c_Negation) = some (x.is_Negation) := match x with
  | .every _ => (show PySem.W.kitOne K (.ref T.c_Every) (.ref T.c_Negation) = some false from T.kit_Every_Negation)
  | .has _ => (show PySem.W.kitOne K (.ref T.c_Has) (.ref T.c_Negation) = some false from T.kit_Has_Negation)
  | .compare _ => (show PySem.W.kitOne K (.ref T.c_Compare) (.ref T.c_Negation) = some false from T.kit_Compare_Negation)
  | .one _ => (show PySem.W.kitOne K (.ref T.c_OneOf) (.ref T.c_Negation) = some false from T.kit_OneOf_Negation)
  | .both _ => (show PySem.W.kitOne K (.ref T.c_Both) (.ref T.c_Negation) = some false from T.kit_Both_Negation)
  | .either _ => (show PySem.W.kitOne K (.ref T.c_Either) (.ref T.c_Negation) = some false from T.kit_Either_Negation)
  | .neg _ => (show PySem.W.kitOne K (.ref T.c_Negation) (.ref T.c_Negation) = some true from T.kit_Negation_Negation)
theorem kit_Cond_Both (T : Txt K mg) (x : Cond) : PySem.W.kitOne K (cls_Cond T x) (.ref T.c_Both) = some (x.is_Both) := match x with
  | .every _ => (show PySem.W.kitOne K (.ref T.c_Every) (.ref T.c_Both) = some false from T.kit_Every_Both)
  | .has _ => (show PySem.W.kitOne K (.ref T.c_Has) (.ref T.c_Both) = some false from T.kit_Has_Both)
  | .compare _ => (show PySem.W.kitOne K (.ref T.c_Compare) (.ref T.c_Both) = some false from T.kit_Compare_Both)
  | .one _ => (show PySem.W.kitOne K (.ref T.c_OneOf) (.ref T.c_Both) = some false from T.kit_OneOf_Both)
  | .both _ => (show PySem.W.kitOne K (.ref T.c_Both) (.ref T.c_Both) = some true from T.kit_Both_Both)
  | .either _ => (show PySem.W.kitOne K (.ref T.c_Either) (.ref T.c_Both) = some false from T.kit_Either_Both)
  | .neg _ => (show PySem.W.kitOne K (.ref T.c_Negation) (.ref T.c_Both) = some false from T.kit_Negation_Both)
theorem kit_Cond_Either (T : Txt K mg) (x : Cond) : PySem.W.kitOne K (cls_Cond T x) (.ref T.c_Either) = some (x.is_Either) := match x with
  | .every _ => (show PySem.W.kitOne K (.ref T.c_Every) (.ref T.c_Either) = some false from T.kit_Every_Either)
  | .has _ => (show PySem.W.kitOne K (.ref T.c_Has) (.ref T.c_Either) = some false from T.kit_Has_Either)
  | .compare _ => (show PySem.W.kitOne K (.ref T.c_Compare) (.ref T.c_Either) = some false from T.kit_Compare_Either)
  | .one _ => (show PySem.W.kitOne K (.ref T.c_OneOf) (.ref T.c_Either) = some false from T.kit_OneOf_Either)
  | .both _ => (show PySem.W.kitOne K (.ref T.c_Both) (.ref T.c_Either) = some false from T.kit_Both_Either)
  | .either _ => (show PySem.W.kitOne K (.ref T.c_Either) (.ref T.c_Either) = some true from T.kit_Either_Either)
  | .neg _ => (show PySem.W.kitOne K (.ref T.c_Negation) (.ref T.c_Either) = some false from T.kit_Negation_Either)
theorem kit_Cond_Compare (T : Txt K mg) (x : Cond) : PySem.W.kitOne K (cls_Cond T x) (.ref T.c_Compare) = some (x.is_Compare) := match x with
  | .every _ => (show PySem.W.kitOne K (.ref T.c_Every) (.ref T.c_Compare) = some false from T.kit_Every_Compare)
  | .has _ => (show PySem.W.kitOne K (.ref T.c_Has) (.ref T.c_Compare) = some false from T.kit_Has_Compare)
  | .compare _ => (show PySem.W.kitOne K (.ref T.c_Compare) (.ref T.c_Compare) = some true from T.kit_Compare_Compare)
  | .one _ => (show PySem.W.kitOne K (.ref T.c_OneOf) (.ref T.c_Compare) = some false from T.kit_OneOf_Compare)
  | .both _ => (show PySem.W.kitOne K (.ref T.c_Both) (.ref T.c_Compare) = some false from T.kit_Both_Compare)
  | .either _ => (show PySem.W.kitOne K (.ref T.c_Either) (.ref T.c_Compare) = some false from T.kit_Either_Compare)
  | .neg _ => (show PySem.W.kitOne K (.ref T.c_Negation) (.ref T.c_Compare) = some false from T.kit_Negation_Compare)
theorem fs_Cond_field (T : Txt K mg) {μ : Type} {M : Mu μ} {σ : L2.St} {Z H : Hp} {s s1 : μ} {ta : TE} {x : Cond} {y : Str} (ha : Ev M ta σ Z H s (ty (y_Cond T) x) s1) (e : x.f_field = some y) : Ev M (tFld K ta "field") σ Z H s (ty yStr y) s1 := by
  cases x with
  | every z => cases e
  | has z => have e := Option.some.inj e; subst e; exact ev_fld (fo_Has_field T) T.cl_Has T.n_Has_field (ha.weak (R' := ty (y_Has T) z) fun _ _ _ _ e => e)
  | compare z => have e := Option.some.inj e; subst e; exact ev_fld (fo_Compare_field T) T.cl_Compare T.n_Compare_field (ha.weak (R' := ty (y_Compare T) z) fun _ _ _ _ e => e)
  | one z => have e := Option.some.inj e; subst e; exact ev_fld (fo_OneOf_field T) T.cl_OneOf T.n_OneOf_field (ha.weak (R' := ty (y_OneOf T) z) fun _ _ _ _ e => e)
  | both z => cases e
  | either z => cases e
  | neg z => cases e
theorem fs_Cond_sign (T : Txt K mg) {μ : Type} {M : Mu μ} {σ : L2.St} {Z H : Hp} {s s1 : μ} {ta : TE} {x : Cond} {y : Str} (ha : Ev M ta σ Z H s (ty (y_Cond T) x) s1) (e : x.f_sign = some y) : Ev M (tFld K ta "sign") σ Z H s (ty yStr y) s1 := by
  cases x with
  | every z => cases e
  | has z => cases e
  | compare z => have e := Option.some.inj e; subst e; exact ev_fld (fo_Compare_sign T) T.cl_Compare T.n_Compare_sign (ha.weak (R' := ty (y_Compare T) z) fun _ _ _ _ e => e)
  | one z => cases e
  | both z => cases e
  | either z => cases e
  | neg z => cases e
theorem fs_Cond_value (T : Txt K mg) {μ : Type} {M : Mu μ} {σ : L2.St} {Z H : Hp} {s s1 : μ} {ta : TE} {x : Cond} {y : Val} (ha : Ev M ta σ Z H s (ty (y_Cond T) x) s1) (e : x.f_value = some y) : Ev M (tFld K ta "value") σ Z H s (ty (y_Val T) y) s1 := by
  cases x with
  | every z => cases e
  | has z => cases e
  | compare z => have e := Option.some.inj e; subst e; exact ev_fld (fo_Compare_value T) T.cl_Compare T.n_Compare_value (ha.weak (R' := ty (y_Compare T) z) fun _ _ _ _ e => e)
  | one z => cases e
  | both z => cases e
  | either z => cases e
  | neg z => cases e
def y_Range (T : Txt K mg) : Ty Range := ⟨fun Z v x => ∃ a dx w0 w1 w2 w3, v = .ref a ∧ Z a = some (.ins T.c_Range dx (ff_Range w0 w1 w2 w3)) ∧ (yStr).r Z w0 x.field ∧ (yInt).r Z w1 x.low ∧ (yInt).r Z w2 x.high ∧ (yStr).r Z w3 x.lack,
  fun s ⟨a, dx, w0, w1, w2, w3, e, h, h0, h1, h2, h3⟩ => ⟨a, dx, w0, w1, w2, w3, e, s _ _ h, (yStr).mono s h0, (yInt).mono s h1, (yInt).mono s h2, (yStr).mono s h3⟩⟩
theorem nn_Range (T : Txt K mg) : NonNil (y_Range T) := fun _ _ _ ⟨_, _, _, _, _, _, e, _⟩ => by rw [e]; exact fun z => nomatch z
theorem fo_Range_field (T : Txt K mg) : FldOf (y_Range T) T.c_Range "field" yStr Range.field := fun _ _ _ ⟨a, dx, w0, w1, w2, w3, e, h, h0, h1, h2, h3⟩ => ⟨a, dx, _, w0, e, h, lk_Range_field, h0⟩
theorem fo_Range_low (T : Txt K mg) : FldOf (y_Range T) T.c_Range "low" yInt Range.low := fun _ _ _ ⟨a, dx, w0, w1, w2, w3, e, h, h0, h1, h2, h3⟩ => ⟨a, dx, _, w1, e, h, lk_Range_low, h1⟩
theorem fo_Range_high (T : Txt K mg) : FldOf (y_Range T) T.c_Range "high" yInt Range.high := fun _ _ _ ⟨a, dx, w0, w1, w2, w3, e, h, h0, h1, h2, h3⟩ => ⟨a, dx, _, w2, e, h, lk_Range_high, h2⟩
theorem fo_Range_lack (T : Txt K mg) : FldOf (y_Range T) T.c_Range "lack" yStr Range.lack := fun _ _ _ ⟨a, dx, w0, w1, w2, w3, e, h, h0, h1, h2, h3⟩ => ⟨a, dx, _, w3, e, h, lk_Range_lack, h3⟩
theorem oo_Range (T : Txt K mg) {m : Str} (h : ¬ m = "field" ∧ ¬ m = "low" ∧ ¬ m = "high" ∧ ¬ m = "lack") : ObjOf (y_Range T) T.c_Range m := fun _ _ _ ⟨a, dx, w0, w1, w2, w3, e, g, _⟩ => ⟨a, dx, _, e, g, no_Range (h.1) (h.2.1) (h.2.2.1) (h.2.2.2)⟩
def y_Values (T : Txt K mg) : Ty Values := ⟨fun Z v x => ∃ a dx w0 w1 w2, v = .ref a ∧ Z a = some (.ins T.c_Values dx (ff_Values w0 w1 w2)) ∧ (yStr).r Z w0 x.field ∧ ((yTup K (y_Val T))).r Z w1 x.choices ∧ (yStr).r Z w2 x.lack,
  fun s ⟨a, dx, w0, w1, w2, e, h, h0, h1, h2⟩ => ⟨a, dx, w0, w1, w2, e, s _ _ h, (yStr).mono s h0, ((yTup K (y_Val T))).mono s h1, (yStr).mono s h2⟩⟩
theorem nn_Values (T : Txt K mg) : NonNil (y_Values T) := fun _ _ _ ⟨_, _, _, _, _, e, _⟩ => by rw [e]; exact fun z => nomatch z
theorem fo_Values_field (T : Txt K mg) : FldOf (y_Values T) T.c_Values "field" yStr Values.field := fun _ _ _ ⟨a, dx, w0, w1, w2, e, h, h0, h1, h2⟩ => ⟨a, dx, _, w0, e, h, lk_Values_field, h0⟩
theorem fo_Values_choices (T : Txt K mg) : FldOf (y_Values T) T.c_Values "choices" (yTup K (y_Val T)) Values.choices := fun _ _ _ ⟨a, dx, w0, w1, w2, e, h, h0, h1, h2⟩ => ⟨a, dx, _, w1, e, h, lk_Values_choices, h1⟩
theorem fo_Values_lack (T : Txt K mg) : FldOf (y_Values T) T.c_Values "lack" yStr Values.lack := fun _ _ _ ⟨a, dx, w0, w1, w2, e, h, h0, h1, h2⟩ => ⟨a, dx, _, w2, e, h, lk_Values_lack, h2⟩
theorem oo_Values (T : Txt K mg) {m : Str} (h : ¬ m = "field" ∧ ¬ m = "choices" ∧ ¬ m = "lack") : ObjOf (y_Values T) T.c_Values m := fun _ _ _ ⟨a, dx, w0, w1, w2, e, g, _⟩ => ⟨a, dx, _, e, g, no_Values (h.1) (h.2.1) (h.2.2)⟩
def y_Norms (T : Txt K mg) : Ty Norms := ⟨fun Z v x => ∃ a dx w0 w1, v = .ref a ∧ Z a = some (.ins T.c_Norms dx (ff_Norms w0 w1)) ∧ (yInt).r Z w0 x.low ∧ (yInt).r Z w1 x.high,
  fun s ⟨a, dx, w0, w1, e, h, h0, h1⟩ => ⟨a, dx, w0, w1, e, s _ _ h, (yInt).mono s h0, (yInt).mono s h1⟩⟩
theorem nn_Norms (T : Txt K mg) : NonNil (y_Norms T) := fun _ _ _ ⟨_, _, _, _, e, _⟩ => by rw [e]; exact fun z => nomatch z
theorem fo_Norms_low (T : Txt K mg) : FldOf (y_Norms T) T.c_Norms "low" yInt Norms.low := fun _ _ _ ⟨a, dx, w0, w1, e, h, h0, h1⟩ => ⟨a, dx, _, w0, e, h, lk_Norms_low, h0⟩
theorem fo_Norms_high (T : Txt K mg) : FldOf (y_Norms T) T.c_Norms "high" yInt Norms.high := fun _ _ _ ⟨a, dx, w0, w1, e, h, h0, h1⟩ => ⟨a, dx, _, w1, e, h, lk_Norms_high, h1⟩
theorem oo_Norms (T : Txt K mg) {m : Str} (h : ¬ m = "low" ∧ ¬ m = "high") : ObjOf (y_Norms T) T.c_Norms m := fun _ _ _ ⟨a, dx, w0, w1, e, g, _⟩ => ⟨a, dx, _, e, g, no_Norms (h.1) (h.2)⟩
def y_Names (T : Txt K mg) : Ty Names := ⟨fun Z v x => ∃ a dx w0 w1, v = .ref a ∧ Z a = some (.ins T.c_Names dx (ff_Names w0 w1)) ∧ (yStr).r Z w0 x.low ∧ (yStr).r Z w1 x.high,
  fun s ⟨a, dx, w0, w1, e, h, h0, h1⟩ => ⟨a, dx, w0, w1, e, s _ _ h, (yStr).mono s h0, (yStr).mono s h1⟩⟩
theorem nn_Names (T : Txt K mg) : NonNil (y_Names T) := fun _ _ _ ⟨_, _, _, _, e, _⟩ => by rw [e]; exact fun z => nomatch z
theorem fo_Names_low (T : Txt K mg) : FldOf (y_Names T) T.c_Names "low" yStr Names.low := fun _ _ _ ⟨a, dx, w0, w1, e, h, h0, h1⟩ => ⟨a, dx, _, w0, e, h, lk_Names_low, h0⟩
theorem fo_Names_high (T : Txt K mg) : FldOf (y_Names T) T.c_Names "high" yStr Names.high := fun _ _ _ ⟨a, dx, w0, w1, e, h, h0, h1⟩ => ⟨a, dx, _, w1, e, h, lk_Names_high, h1⟩
theorem oo_Names (T : Txt K mg) {m : Str} (h : ¬ m = "low" ∧ ¬ m = "high") : ObjOf (y_Names T) T.c_Names m := fun _ _ _ ⟨a, dx, w0, w1, e, g, _⟩ => ⟨a, dx, _, e, g, no_Names (h.1) (h.2)⟩
def y_Box (T : Txt K mg) : Ty Box := ⟨fun Z v x => ∃ a dx w0 w1, v = .ref a ∧ Z a = some (.ins T.c_Box dx (ff_Box w0 w1)) ∧ ((yTup K yInt)).r Z w0 x.low ∧ ((yTup K yInt)).r Z w1 x.high,
  fun s ⟨a, dx, w0, w1, e, h, h0, h1⟩ => ⟨a, dx, w0, w1, e, s _ _ h, ((yTup K yInt)).mono s h0, ((yTup K yInt)).mono s h1⟩⟩
theorem nn_Box (T : Txt K mg) : NonNil (y_Box T) := fun _ _ _ ⟨_, _, _, _, e, _⟩ => by rw [e]; exact fun z => nomatch z
theorem fo_Box_low (T : Txt K mg) : FldOf (y_Box T) T.c_Box "low" (yTup K yInt) Box.low := fun _ _ _ ⟨a, dx, w0, w1, e, h, h0, h1⟩ => ⟨a, dx, _, w0, e, h, lk_Box_low, h0⟩
theorem fo_Box_high (T : Txt K mg) : FldOf (y_Box T) T.c_Box "high" (yTup K yInt) Box.high := fun _ _ _ ⟨a, dx, w0, w1, e, h, h0, h1⟩ => ⟨a, dx, _, w1, e, h, lk_Box_high, h1⟩
theorem oo_Box (T : Txt K mg) {m : Str} (h : ¬ m = "low" ∧ ¬ m = "high") : ObjOf (y_Box T) T.c_Box m := fun _ _ _ ⟨a, dx, w0, w1, e, g, _⟩ => ⟨a, dx, _, e, g, no_Box (h.1) (h.2)⟩
def y_W (T : Txt K mg) : Ty W := ⟨fun Z v x => match x with
  | .i y => (yInt).r Z v y
  | .l y => ((yList (y_Val T))).r Z v y,
  fun {Z Z2 v x} s h => match x, h with
  | .i y, h => (yInt).mono s h
  | .l y, h => ((yList (y_Val T))).mono s h⟩
theorem nn_W (T : Txt K mg) : NonNil (y_W T) := fun Z v x h => match x, h with
  | .i y, h => nn_int Z v y h
  | .l y, h => nn_list Z v y h
theorem ij_W_i (T : Txt K mg) {μ : Type} {M : Mu μ} {σ : L2.St} {Z H : Hp} {s s1 : μ} {ta : TE} {x : Int} (h : Ev M ta σ Z H s (ty yInt x) s1) : Ev M ta σ Z H s (ty (y_W T) (.i x)) s1 := h.weak fun _ _ _ _ e => e
theorem pj_W_i (T : Txt K mg) {μ : Type} {M : Mu μ} {σ : L2.St} {Z H : Hp} {s s1 : μ} {ta : TE} {x : W} {y : Int} (h : Ev M ta σ Z H s (ty (y_W T) x) s1) (e : x.p_i = some y) : Ev M ta σ Z H s (ty yInt y) s1 := by
  cases x <;> first | (have e := Option.some.inj e; subst e; exact h.weak fun _ _ _ _ e => e) | cases e
theorem ij_W_l (T : Txt K mg) {μ : Type} {M : Mu μ} {σ : L2.St} {Z H : Hp} {s s1 : μ} {ta : TE} {x : (List Val)} (h : Ev M ta σ Z H s (ty (yList (y_Val T)) x) s1) : Ev M ta σ Z H s (ty (y_W T) (.l x)) s1 := h.weak fun _ _ _ _ e => e
theorem pj_W_l (T : Txt K mg) {μ : Type} {M : Mu μ} {σ : L2.St} {Z H : Hp} {s s1 : μ} {ta : TE} {x : W} {y : (List Val)} (h : Ev M ta σ Z H s (ty (y_W T) x) s1) (e : x.p_l = some y) : Ev M ta σ Z H s (ty (yList (y_Val T)) y) s1 := by
  cases x <;> first | (have e := Option.some.inj e; subst e; exact h.weak fun _ _ _ _ e => e) | cases e
theorem eqw_W (T : Txt K mg) : EqW K (y_W T) d_W 16 where
  dp := fun Z H v x sz h => match x, h with
    | .i y, h => EqW.dp (K := K) (τ := yInt) eqd_int.w Z H v y sz h
    | .l y, h => EqW.dp (K := K) (τ := (yList (y_Val T))) (eqw_list (eqw_Val T)) Z H v y sz h
  lay := fun Z v x h => match x, h with
    | .i y, h => EqW.lay (K := K) (τ := yInt) eqd_int.w Z v y h
    | .l y, h => EqW.lay (K := K) (τ := (yList (y_Val T))) (eqw_list (eqw_Val T)) Z v y h
  dep := fun x => match x with
    | .i y => Nat.le_trans (EqW.dep (K := K) (τ := yInt) eqd_int.w y) (by decide)
    | .l y => Nat.le_trans (EqW.dep (K := K) (τ := (yList (y_Val T))) (eqw_list (eqw_Val T)) y) (by decide)
def y_FT (T : Txt K mg) : Ty FT := ⟨fun Z v x => match x with
  | .k_range a1 a2 a3 a4 => ((yP5 K yStr yStr yInt yInt yStr)).r Z v (("range" : Str), a1, a2, a3, a4)
  | .k_values a1 a2 a3 => ((yP4 K yStr yStr (yList (y_Val T)) yStr)).r Z v (("values" : Str), a1, a2, a3),
  fun {Z Z2 v x} s h => match x, h with
  | .k_range a1 a2 a3 a4, h => ((yP5 K yStr yStr yInt yInt yStr)).mono s h
  | .k_values a1 a2 a3, h => ((yP4 K yStr yStr (yList (y_Val T)) yStr)).mono s h⟩
theorem nn_FT (T : Txt K mg) : NonNil (y_FT T) := fun Z v x h => match x, h with
  | .k_range a1 a2 a3 a4, h => nn_p5 Z v (("range" : Str), a1, a2, a3, a4) h
  | .k_values a1 a2 a3, h => nn_p4 Z v (("values" : Str), a1, a2, a3) h
theorem it_FT_range (T : Txt K mg) {μ : Type} {M : Mu μ} {σ : L2.St} {Z H : Hp} {s s1 : μ} {ta : TE} {a1 : Str} {a2 : Int} {a3 : Int} {a4 : Str} (h : Ev M ta σ Z H s (ty (yP5 K yStr yStr yInt yInt yStr) (("range" : Str), a1, a2, a3, a4)) s1) : Ev M ta σ Z H s (ty (y_FT T) (.k_range a1 a2 a3 a4)) s1 := h.weak fun _ _ _ _ e => e
theorem it_FT_values (T : Txt K mg) {μ : Type} {M : Mu μ} {σ : L2.St} {Z H : Hp} {s s1 : μ} {ta : TE} {a1 : Str} {a2 : (List Val)} {a3 : Str} (h : Ev M ta σ Z H s (ty (yP4 K yStr yStr (yList (y_Val T)) yStr) (("values" : Str), a1, a2, a3)) s1) : Ev M ta σ Z H s (ty (y_FT T) (.k_values a1 a2 a3)) s1 := h.weak fun _ _ _ _ e => e
theorem tg_FT (T : Txt K mg) {μ : Type} {M : Mu μ} {σ : L2.St} {Z H : Hp} {s s1 s2 : μ} {ta tb : TE} {x : FT} (ha : Ev M ta σ Z H s (ty (y_FT T) x) s1) (hb : Ev M tb σ Z H s1 (ty yInt 0) s2) : Ev M (tOp (rIxT K) ta tb) σ Z H s (ty yStr x.tag) s2 := by
  cases x with
  | k_range a1 a2 a3 a4 => have e2 := ev_part po5_0 (ha.weak (R' := ty (yP5 K yStr yStr yInt yInt yStr) (("range" : Str), a1, a2, a3, a4)) fun _ _ _ _ e => e) hb; exact e2
  | k_values a1 a2 a3 => have e2 := ev_part po4_0 (ha.weak (R' := ty (yP4 K yStr yStr (yList (y_Val T)) yStr) (("values" : Str), a1, a2, a3)) fun _ _ _ _ e => e) hb; exact e2
theorem sl_FT_0 (T : Txt K mg) {μ : Type} {M : Mu μ} {σ : L2.St} {Z H : Hp} {s s1 s2 : μ} {ta tb : TE} {x : FT} {y : Str} (ha : Ev M ta σ Z H s (ty (y_FT T) x) s1) (hb : Ev M tb σ Z H s1 (ty yInt 1) s2) (e : x.s_0 = some y) : Ev M (tOp (rIxT K) ta tb) σ Z H s (ty yStr y) s2 := by
  cases x with
  | k_range a1 a2 a3 a4 => have e := Option.some.inj e; subst e; have e2 := ev_part po5_1 (ha.weak (R' := ty (yP5 K yStr yStr yInt yInt yStr) (("range" : Str), a1, a2, a3, a4)) fun _ _ _ _ e => e) hb; exact e2
  | k_values a1 a2 a3 => have e := Option.some.inj e; subst e; have e2 := ev_part po4_1 (ha.weak (R' := ty (yP4 K yStr yStr (yList (y_Val T)) yStr) (("values" : Str), a1, a2, a3)) fun _ _ _ _ e => e) hb; exact e2
theorem sl_FT_1 (T : Txt K mg) {μ : Type} {M : Mu μ} {σ : L2.St} {Z H : Hp} {s s1 s2 : μ} {ta tb : TE} {x : FT} {y : Int} (ha : Ev M ta σ Z H s (ty (y_FT T) x) s1) (hb : Ev M tb σ Z H s1 (ty yInt 2) s2) (e : x.s_1 = some y) : Ev M (tOp (rIxT K) ta tb) σ Z H s (ty yInt y) s2 := by
  cases x with
  | k_range a1 a2 a3 a4 => have e := Option.some.inj e; subst e; have e2 := ev_part po5_2 (ha.weak (R' := ty (yP5 K yStr yStr yInt yInt yStr) (("range" : Str), a1, a2, a3, a4)) fun _ _ _ _ e => e) hb; exact e2
  | k_values a1 a2 a3 => cases e
theorem sl_FT_2 (T : Txt K mg) {μ : Type} {M : Mu μ} {σ : L2.St} {Z H : Hp} {s s1 s2 : μ} {ta tb : TE} {x : FT} {y : Int} (ha : Ev M ta σ Z H s (ty (y_FT T) x) s1) (hb : Ev M tb σ Z H s1 (ty yInt 3) s2) (e : x.s_2 = some y) : Ev M (tOp (rIxT K) ta tb) σ Z H s (ty yInt y) s2 := by
  cases x with
  | k_range a1 a2 a3 a4 => have e := Option.some.inj e; subst e; have e2 := ev_part po5_3 (ha.weak (R' := ty (yP5 K yStr yStr yInt yInt yStr) (("range" : Str), a1, a2, a3, a4)) fun _ _ _ _ e => e) hb; exact e2
  | k_values a1 a2 a3 => cases e
theorem sl_FT_3 (T : Txt K mg) {μ : Type} {M : Mu μ} {σ : L2.St} {Z H : Hp} {s s1 s2 : μ} {ta tb : TE} {x : FT} {y : Str} (ha : Ev M ta σ Z H s (ty (y_FT T) x) s1) (hb : Ev M tb σ Z H s1 (ty yInt 4) s2) (e : x.s_3 = some y) : Ev M (tOp (rIxT K) ta tb) σ Z H s (ty yStr y) s2 := by
  cases x with
  | k_range a1 a2 a3 a4 => have e := Option.some.inj e; subst e; have e2 := ev_part po5_4 (ha.weak (R' := ty (yP5 K yStr yStr yInt yInt yStr) (("range" : Str), a1, a2, a3, a4)) fun _ _ _ _ e => e) hb; exact e2
  | k_values a1 a2 a3 => cases e
theorem sl_FT_4 (T : Txt K mg) {μ : Type} {M : Mu μ} {σ : L2.St} {Z H : Hp} {s s1 s2 : μ} {ta tb : TE} {x : FT} {y : (List Val)} (ha : Ev M ta σ Z H s (ty (y_FT T) x) s1) (hb : Ev M tb σ Z H s1 (ty yInt 2) s2) (e : x.s_4 = some y) : Ev M (tOp (rIxT K) ta tb) σ Z H s (ty (yList (y_Val T)) y) s2 := by
  cases x with
  | k_range a1 a2 a3 a4 => cases e
  | k_values a1 a2 a3 => have e := Option.some.inj e; subst e; have e2 := ev_part po4_2 (ha.weak (R' := ty (yP4 K yStr yStr (yList (y_Val T)) yStr) (("values" : Str), a1, a2, a3)) fun _ _ _ _ e => e) hb; exact e2
theorem sl_FT_5 (T : Txt K mg) {μ : Type} {M : Mu μ} {σ : L2.St} {Z H : Hp} {s s1 s2 : μ} {ta tb : TE} {x : FT} {y : Str} (ha : Ev M ta σ Z H s (ty (y_FT T) x) s1) (hb : Ev M tb σ Z H s1 (ty yInt 3) s2) (e : x.s_5 = some y) : Ev M (tOp (rIxT K) ta tb) σ Z H s (ty yStr y) s2 := by
  cases x with
  | k_range a1 a2 a3 a4 => cases e
  | k_values a1 a2 a3 => have e := Option.some.inj e; subst e; have e2 := ev_part po4_3 (ha.weak (R' := ty (yP4 K yStr yStr (yList (y_Val T)) yStr) (("values" : Str), a1, a2, a3)) fun _ _ _ _ e => e) hb; exact e2
theorem eqw_FT (T : Txt K mg) : EqW K (y_FT T) d_FT 24 where
  dp := fun Z H v x sz h => match x, h with
    | .k_range a1 a2 a3 a4, h => EqW.dp (K := K) (τ := (yP5 K yStr yStr yInt yInt yStr)) (eqw_p5 eqd_str.w eqd_str.w eqd_int.w eqd_int.w eqd_str.w) Z H v (("range" : Str), a1, a2, a3, a4) sz h
    | .k_values a1 a2 a3, h => EqW.dp (K := K) (τ := (yP4 K yStr yStr (yList (y_Val T)) yStr)) (eqw_p4 eqd_str.w eqd_str.w (eqw_list (eqw_Val T)) eqd_str.w) Z H v (("values" : Str), a1, a2, a3) sz h
  lay := fun Z v x h => match x, h with
    | .k_range a1 a2 a3 a4, h => EqW.lay (K := K) (τ := (yP5 K yStr yStr yInt yInt yStr)) (eqw_p5 eqd_str.w eqd_str.w eqd_int.w eqd_int.w eqd_str.w) Z v (("range" : Str), a1, a2, a3, a4) h
    | .k_values a1 a2 a3, h => EqW.lay (K := K) (τ := (yP4 K yStr yStr (yList (y_Val T)) yStr)) (eqw_p4 eqd_str.w eqd_str.w (eqw_list (eqw_Val T)) eqd_str.w) Z v (("values" : Str), a1, a2, a3) h
  dep := fun x => match x with
    | .k_range a1 a2 a3 a4 => Nat.le_trans (EqW.dep (K := K) (τ := (yP5 K yStr yStr yInt yInt yStr)) (eqw_p5 eqd_str.w eqd_str.w eqd_int.w eqd_int.w eqd_str.w) (("range" : Str), a1, a2, a3, a4)) (by decide)
    | .k_values a1 a2 a3 => Nat.le_trans (EqW.dep (K := K) (τ := (yP4 K yStr yStr (yList (y_Val T)) yStr)) (eqw_p4 eqd_str.w eqd_str.w (eqw_list (eqw_Val T)) eqd_str.w) (("values" : Str), a1, a2, a3)) (by decide)
theorem tx_FT (T : Txt K mg) {fp : List Addr} {x : FT} : ∀ Z H v, Same Z H → (ty (fp := fp) (y_FT T) x).r Z H v → TyX K H v (.type "tuple") := fun Z H v sz h => match x, h with
  | .k_range a1 a2 a3 a4, h => tx_p5 Z H v sz (show (ty (fp := fp) (yP5 K yStr yStr yInt yInt yStr) (("range" : Str), a1, a2, a3, a4)).r Z H v from h)
  | .k_values a1 a2 a3, h => tx_p4 Z H v sz (show (ty (fp := fp) (yP4 K yStr yStr (yList (y_Val T)) yStr) (("values" : Str), a1, a2, a3)).r Z H v from h)
theorem ln_FT (T : Txt K mg) {μ : Type} {M : Mu μ} {σ : L2.St} {Z H : Hp} {s s1 : μ} {ta : TE} {r : List V → Hp → VK → Prop} (hr : ∀ xs H Q, (∃ p ys, xs = [.ref p] ∧ (SqL K H p ys ∨ SqT K H p ys) ∧ Q (.int ys.length) H) → r xs H Q) {x : FT} (ha : Ev M ta σ Z H s (ty (y_FT T) x) s1) : Ev M (tCB r (tCons ta tNil)) σ Z H s (ty yInt x.size) s1 := by
  cases x with
  | k_range a1 a2 a3 a4 => exact ev_lenQ (n := 5) (τ := (yP5 K yStr yStr yInt yInt yStr)) (x := (("range" : Str), a1, a2, a3, a4)) hr (fun Z v ⟨a, _, _, _, _, _, e, g, _⟩ => ⟨a, _, e, g, rfl⟩) (ha.weak (R' := ty (yP5 K yStr yStr yInt yInt yStr) (("range" : Str), a1, a2, a3, a4)) fun _ _ _ _ e => e)
  | k_values a1 a2 a3 => exact ev_lenQ (n := 4) (τ := (yP4 K yStr yStr (yList (y_Val T)) yStr)) (x := (("values" : Str), a1, a2, a3)) hr (fun Z v ⟨a, _, _, _, _, e, g, _⟩ => ⟨a, _, e, g, rfl⟩) (ha.weak (R' := ty (yP4 K yStr yStr (yList (y_Val T)) yStr) (("values" : Str), a1, a2, a3)) fun _ _ _ _ e => e)
theorem sw_FT_0 (T : Txt K mg) {μ : Type} {M : Mu μ} {σ : L2.St} {Z H : Hp} {s s1 s2 : μ} {ta tb : TE} {x : FT} {y : W} (ha : Ev M ta σ Z H s (ty (y_FT T) x) s1) (hb : Ev M tb σ Z H s1 (ty yInt 2) s2) (e : x.w_0 = some y) : Ev M (tOp (rIxT K) ta tb) σ Z H s (ty (y_W T) y) s2 := by
  cases x with
  | k_range a1 a2 a3 a4 => have e := Option.some.inj e; subst e; have e2 := ev_part po5_2 (ha.weak (R' := ty (yP5 K yStr yStr yInt yInt yStr) (("range" : Str), a1, a2, a3, a4)) fun _ _ _ _ e => e) hb; exact ij_W_i T e2
  | k_values a1 a2 a3 => have e := Option.some.inj e; subst e; have e2 := ev_part po4_2 (ha.weak (R' := ty (yP4 K yStr yStr (yList (y_Val T)) yStr) (("values" : Str), a1, a2, a3)) fun _ _ _ _ e => e) hb; exact ij_W_l T e2
theorem at_FT_0 (T : Txt K mg) {μ : Type} {M : Mu μ} {σ : L2.St} {Z H : Hp} {s s1 s2 : μ} {ta tb : TE} {x : FT} {y : Str} {i : Int} (ha : Ev M ta σ Z H s (ty (y_FT T) x) s1) (hb : Ev M tb σ Z H s1 (ty yInt i) s2) (e : x.at_0 i = some y) : Ev M (tOp (rIxT K) ta tb) σ Z H s (ty yStr y) s2 := by
  unfold FT.at_0 at e
  cases x with
  | k_range a1 a2 a3 a4 =>
    dsimp only at e
    by_cases q : i = 1
    · rw [if_pos q] at e
      have e := Option.some.inj e
      subst e q
      have e2 := ev_part po5_1 (ha.weak (R' := ty (yP5 K yStr yStr yInt yInt yStr) (("range" : Str), a1, a2, a3, a4)) fun _ _ _ _ e => e) hb
      exact e2
    rw [if_neg q] at e
    clear q
    by_cases q : i = 4
    · rw [if_pos q] at e
      have e := Option.some.inj e
      subst e q
      have e2 := ev_part po5_4 (ha.weak (R' := ty (yP5 K yStr yStr yInt yInt yStr) (("range" : Str), a1, a2, a3, a4)) fun _ _ _ _ e => e) hb
      exact e2
    rw [if_neg q] at e
    clear q
    cases e
  | k_values a1 a2 a3 =>
    dsimp only at e
    by_cases q : i = 1
    · rw [if_pos q] at e
      have e := Option.some.inj e
      subst e q
      have e2 := ev_part po4_1 (ha.weak (R' := ty (yP4 K yStr yStr (yList (y_Val T)) yStr) (("values" : Str), a1, a2, a3)) fun _ _ _ _ e => e) hb
      exact e2
    rw [if_neg q] at e
    clear q
    by_cases q : i = 3
    · rw [if_pos q] at e
      have e := Option.some.inj e
      subst e q
      have e2 := ev_part po4_3 (ha.weak (R' := ty (yP4 K yStr yStr (yList (y_Val T)) yStr) (("values" : Str), a1, a2, a3)) fun _ _ _ _ e => e) hb
      exact e2
    rw [if_neg q] at e
    clear q
    cases e
def r_Tree (T : Txt K mg) (Z : Hp) : V → Tree → Prop
  | v, .k_every => ∃ a v1, v = .ref a ∧ SqT K Z a [v1] ∧ yStr.r Z v1 "every"
  | v, .k_has a1 => ∃ a v1 v2, v = .ref a ∧ SqT K Z a [v1, v2] ∧ yStr.r Z v1 "has" ∧ (yStr).r Z v2 a1
  | v, .k_in a1 a2 => ∃ a v1 v2 v3, v = .ref a ∧ SqT K Z a [v1, v2, v3] ∧ yStr.r Z v1 "in" ∧ (yStr).r Z v2 a1 ∧ ((yList (y_Val T))).r Z v3 a2
  | v, .k_compare a1 a2 a3 => ∃ a v1 v2 v3 v4, v = .ref a ∧ SqT K Z a [v1, v2, v3, v4] ∧ yStr.r Z v1 "compare" ∧ (yStr).r Z v2 a1 ∧ (yStr).r Z v3 a2 ∧ ((y_Val T)).r Z v4 a3
  | v, .k_not a1 => ∃ a v1 v2, v = .ref a ∧ SqT K Z a [v1, v2] ∧ yStr.r Z v1 "not" ∧ r_Tree T Z v2 a1
  | v, .k_and a1 a2 => ∃ a v1 v2 v3, v = .ref a ∧ SqT K Z a [v1, v2, v3] ∧ yStr.r Z v1 "and" ∧ r_Tree T Z v2 a1 ∧ r_Tree T Z v3 a2
  | v, .k_or a1 a2 => ∃ a v1 v2 v3, v = .ref a ∧ SqT K Z a [v1, v2, v3] ∧ yStr.r Z v1 "or" ∧ r_Tree T Z v2 a1 ∧ r_Tree T Z v3 a2
theorem mono_Tree (T : Txt K mg) : ∀ {Z Z' : Hp} {v : V} {x : Tree}, Same Z Z' → r_Tree T Z v x → r_Tree T Z' v x
  | _, _, _, .k_every, s, ⟨a, v1, e, h, h1⟩ => ⟨a, v1, e, seqT_same s h, h1⟩
  | _, _, _, .k_has a1, s, ⟨a, v1, v2, e, h, h1, h2⟩ => ⟨a, v1, v2, e, seqT_same s h, h1, (yStr).mono s h2⟩
  | _, _, _, .k_in a1 a2, s, ⟨a, v1, v2, v3, e, h, h1, h2, h3⟩ => ⟨a, v1, v2, v3, e, seqT_same s h, h1, (yStr).mono s h2, ((yList (y_Val T))).mono s h3⟩
  | _, _, _, .k_compare a1 a2 a3, s, ⟨a, v1, v2, v3, v4, e, h, h1, h2, h3, h4⟩ => ⟨a, v1, v2, v3, v4, e, seqT_same s h, h1, (yStr).mono s h2, (yStr).mono s h3, ((y_Val T)).mono s h4⟩
  | _, _, _, .k_not a1, s, ⟨a, v1, v2, e, h, h1, h2⟩ => ⟨a, v1, v2, e, seqT_same s h, h1, mono_Tree T s h2⟩
  | _, _, _, .k_and a1 a2, s, ⟨a, v1, v2, v3, e, h, h1, h2, h3⟩ => ⟨a, v1, v2, v3, e, seqT_same s h, h1, mono_Tree T s h2, mono_Tree T s h3⟩
  | _, _, _, .k_or a1 a2, s, ⟨a, v1, v2, v3, e, h, h1, h2, h3⟩ => ⟨a, v1, v2, v3, e, seqT_same s h, h1, mono_Tree T s h2, mono_Tree T s h3⟩
def y_Tree (T : Txt K mg) : Ty Tree := ⟨r_Tree T, mono_Tree T⟩
theorem nn_Tree (T : Txt K mg) : NonNil (y_Tree T) := fun Z v x h => match x, h with
  | .k_every, h => (nn_p1 : NonNil (yP1 K yStr)) Z v ("every" : Str) h
  | .k_has a1, h => (nn_p2 : NonNil (yP2 K yStr yStr)) Z v (("has" : Str), a1) h
  | .k_in a1 a2, h => (nn_p3 : NonNil (yP3 K yStr yStr (yList (y_Val T)))) Z v (("in" : Str), a1, a2) h
  | .k_compare a1 a2 a3, h => (nn_p4 : NonNil (yP4 K yStr yStr yStr (y_Val T))) Z v (("compare" : Str), a1, a2, a3) h
  | .k_not a1, h => (nn_p2 : NonNil (yP2 K yStr (y_Tree T))) Z v (("not" : Str), a1) h
  | .k_and a1 a2, h => (nn_p3 : NonNil (yP3 K yStr (y_Tree T) (y_Tree T))) Z v (("and" : Str), a1, a2) h
  | .k_or a1 a2, h => (nn_p3 : NonNil (yP3 K yStr (y_Tree T) (y_Tree T))) Z v (("or" : Str), a1, a2) h
theorem it_Tree_every (T : Txt K mg) {μ : Type} {M : Mu μ} {σ : L2.St} {Z H : Hp} {s s1 : μ} {ta : TE} (h : Ev M ta σ Z H s (ty (yP1 K yStr) ("every" : Str)) s1) : Ev M ta σ Z H s (ty (y_Tree T) (.k_every)) s1 := h.weak fun _ _ _ _ e => e
theorem it_Tree_has (T : Txt K mg) {μ : Type} {M : Mu μ} {σ : L2.St} {Z H : Hp} {s s1 : μ} {ta : TE} {a1 : Str} (h : Ev M ta σ Z H s (ty (yP2 K yStr yStr) (("has" : Str), a1)) s1) : Ev M ta σ Z H s (ty (y_Tree T) (.k_has a1)) s1 := h.weak fun _ _ _ _ e => e
theorem it_Tree_in (T : Txt K mg) {μ : Type} {M : Mu μ} {σ : L2.St} {Z H : Hp} {s s1 : μ} {ta : TE} {a1 : Str} {a2 : (List Val)} (h : Ev M ta σ Z H s (ty (yP3 K yStr yStr (yList (y_Val T))) (("in" : Str), a1, a2)) s1) : Ev M ta σ Z H s (ty (y_Tree T) (.k_in a1 a2)) s1 := h.weak fun _ _ _ _ e => e
theorem it_Tree_compare (T : Txt K mg) {μ : Type} {M : Mu μ} {σ : L2.St} {Z H : Hp} {s s1 : μ} {ta : TE} {a1 : Str} {a2 : Str} {a3 : Val} (h : Ev M ta σ Z H s (ty (yP4 K yStr yStr yStr (y_Val T)) (("compare" : Str), a1, a2, a3)) s1) : Ev M ta σ Z H s (ty (y_Tree T) (.k_compare a1 a2 a3)) s1 := h.weak fun _ _ _ _ e => e
theorem it_Tree_not (T : Txt K mg) {μ : Type} {M : Mu μ} {σ : L2.St} {Z H : Hp} {s s1 : μ} {ta : TE} {a1 : Tree} (h : Ev M ta σ Z H s (ty (yP2 K yStr (y_Tree T)) (("not" : Str), a1)) s1) : Ev M ta σ Z H s (ty (y_Tree T) (.k_not a1)) s1 := h.weak fun _ _ _ _ e => e
theorem it_Tree_and (T : Txt K mg) {μ : Type} {M : Mu μ} {σ : L2.St} {Z H : Hp} {s s1 : μ} {ta : TE} {a1 : Tree} {a2 : Tree} (h : Ev M ta σ Z H s (ty (yP3 K yStr (y_Tree T) (y_Tree T)) (("and" : Str), a1, a2)) s1) : Ev M ta σ Z H s (ty (y_Tree T) (.k_and a1 a2)) s1 := h.weak fun _ _ _ _ e => e
theorem it_Tree_or (T : Txt K mg) {μ : Type} {M : Mu μ} {σ : L2.St} {Z H : Hp} {s s1 : μ} {ta : TE} {a1 : Tree} {a2 : Tree} (h : Ev M ta σ Z H s (ty (yP3 K yStr (y_Tree T) (y_Tree T)) (("or" : Str), a1, a2)) s1) : Ev M ta σ Z H s (ty (y_Tree T) (.k_or a1 a2)) s1 := h.weak fun _ _ _ _ e => e
theorem tg_Tree (T : Txt K mg) {μ : Type} {M : Mu μ} {σ : L2.St} {Z H : Hp} {s s1 s2 : μ} {ta tb : TE} {x : Tree} (ha : Ev M ta σ Z H s (ty (y_Tree T) x) s1) (hb : Ev M tb σ Z H s1 (ty yInt 0) s2) : Ev M (tOp (rIxT K) ta tb) σ Z H s (ty yStr x.tag) s2 := by
  cases x with
  | k_every => have e2 := ev_part po1_0 (ha.weak (R' := ty (yP1 K yStr) ("every" : Str)) fun _ _ _ _ e => e) hb; exact e2
  | k_has a1 => have e2 := ev_part po2_0 (ha.weak (R' := ty (yP2 K yStr yStr) (("has" : Str), a1)) fun _ _ _ _ e => e) hb; exact e2
  | k_in a1 a2 => have e2 := ev_part po3_0 (ha.weak (R' := ty (yP3 K yStr yStr (yList (y_Val T))) (("in" : Str), a1, a2)) fun _ _ _ _ e => e) hb; exact e2
  | k_compare a1 a2 a3 => have e2 := ev_part po4_0 (ha.weak (R' := ty (yP4 K yStr yStr yStr (y_Val T)) (("compare" : Str), a1, a2, a3)) fun _ _ _ _ e => e) hb; exact e2
  | k_not a1 => have e2 := ev_part po2_0 (ha.weak (R' := ty (yP2 K yStr (y_Tree T)) (("not" : Str), a1)) fun _ _ _ _ e => e) hb; exact e2
  | k_and a1 a2 => have e2 := ev_part po3_0 (ha.weak (R' := ty (yP3 K yStr (y_Tree T) (y_Tree T)) (("and" : Str), a1, a2)) fun _ _ _ _ e => e) hb; exact e2
  | k_or a1 a2 => have e2 := ev_part po3_0 (ha.weak (R' := ty (yP3 K yStr (y_Tree T) (y_Tree T)) (("or" : Str), a1, a2)) fun _ _ _ _ e => e) hb; exact e2
theorem sl_Tree_6 (T : Txt K mg) {μ : Type} {M : Mu μ} {σ : L2.St} {Z H : Hp} {s s1 s2 : μ} {ta tb : TE} {x : Tree} {y : Str} (ha : Ev M ta σ Z H s (ty (y_Tree T) x) s1) (hb : Ev M tb σ Z H s1 (ty yInt 1) s2) (e : x.s_6 = some y) : Ev M (tOp (rIxT K) ta tb) σ Z H s (ty yStr y) s2 := by
  cases x with
  | k_every => cases e
  | k_has a1 => have e := Option.some.inj e; subst e; have e2 := ev_part po2_1 (ha.weak (R' := ty (yP2 K yStr yStr) (("has" : Str), a1)) fun _ _ _ _ e => e) hb; exact e2
  | k_in a1 a2 => have e := Option.some.inj e; subst e; have e2 := ev_part po3_1 (ha.weak (R' := ty (yP3 K yStr yStr (yList (y_Val T))) (("in" : Str), a1, a2)) fun _ _ _ _ e => e) hb; exact e2
  | k_compare a1 a2 a3 => have e := Option.some.inj e; subst e; have e2 := ev_part po4_1 (ha.weak (R' := ty (yP4 K yStr yStr yStr (y_Val T)) (("compare" : Str), a1, a2, a3)) fun _ _ _ _ e => e) hb; exact e2
  | k_not a1 => cases e
  | k_and a1 a2 => cases e
  | k_or a1 a2 => cases e
theorem sl_Tree_7 (T : Txt K mg) {μ : Type} {M : Mu μ} {σ : L2.St} {Z H : Hp} {s s1 s2 : μ} {ta tb : TE} {x : Tree} {y : Str} (ha : Ev M ta σ Z H s (ty (y_Tree T) x) s1) (hb : Ev M tb σ Z H s1 (ty yInt 2) s2) (e : x.s_7 = some y) : Ev M (tOp (rIxT K) ta tb) σ Z H s (ty yStr y) s2 := by
  cases x with
  | k_every => cases e
  | k_has a1 => cases e
  | k_in a1 a2 => cases e
  | k_compare a1 a2 a3 => have e := Option.some.inj e; subst e; have e2 := ev_part po4_2 (ha.weak (R' := ty (yP4 K yStr yStr yStr (y_Val T)) (("compare" : Str), a1, a2, a3)) fun _ _ _ _ e => e) hb; exact e2
  | k_not a1 => cases e
  | k_and a1 a2 => cases e
  | k_or a1 a2 => cases e
theorem sl_Tree_8 (T : Txt K mg) {μ : Type} {M : Mu μ} {σ : L2.St} {Z H : Hp} {s s1 s2 : μ} {ta tb : TE} {x : Tree} {y : Val} (ha : Ev M ta σ Z H s (ty (y_Tree T) x) s1) (hb : Ev M tb σ Z H s1 (ty yInt 3) s2) (e : x.s_8 = some y) : Ev M (tOp (rIxT K) ta tb) σ Z H s (ty (y_Val T) y) s2 := by
  cases x with
  | k_every => cases e
  | k_has a1 => cases e
  | k_in a1 a2 => cases e
  | k_compare a1 a2 a3 => have e := Option.some.inj e; subst e; have e2 := ev_part po4_3 (ha.weak (R' := ty (yP4 K yStr yStr yStr (y_Val T)) (("compare" : Str), a1, a2, a3)) fun _ _ _ _ e => e) hb; exact e2
  | k_not a1 => cases e
  | k_and a1 a2 => cases e
  | k_or a1 a2 => cases e
theorem sl_Tree_9 (T : Txt K mg) {μ : Type} {M : Mu μ} {σ : L2.St} {Z H : Hp} {s s1 s2 : μ} {ta tb : TE} {x : Tree} {y : (List Val)} (ha : Ev M ta σ Z H s (ty (y_Tree T) x) s1) (hb : Ev M tb σ Z H s1 (ty yInt 2) s2) (e : x.s_9 = some y) : Ev M (tOp (rIxT K) ta tb) σ Z H s (ty (yList (y_Val T)) y) s2 := by
  cases x with
  | k_every => cases e
  | k_has a1 => cases e
  | k_in a1 a2 => have e := Option.some.inj e; subst e; have e2 := ev_part po3_2 (ha.weak (R' := ty (yP3 K yStr yStr (yList (y_Val T))) (("in" : Str), a1, a2)) fun _ _ _ _ e => e) hb; exact e2
  | k_compare a1 a2 a3 => cases e
  | k_not a1 => cases e
  | k_and a1 a2 => cases e
  | k_or a1 a2 => cases e
theorem sl_Tree_10 (T : Txt K mg) {μ : Type} {M : Mu μ} {σ : L2.St} {Z H : Hp} {s s1 s2 : μ} {ta tb : TE} {x : Tree} {y : Tree} (ha : Ev M ta σ Z H s (ty (y_Tree T) x) s1) (hb : Ev M tb σ Z H s1 (ty yInt 1) s2) (e : x.s_10 = some y) : Ev M (tOp (rIxT K) ta tb) σ Z H s (ty (y_Tree T) y) s2 := by
  cases x with
  | k_every => cases e
  | k_has a1 => cases e
  | k_in a1 a2 => cases e
  | k_compare a1 a2 a3 => cases e
  | k_not a1 => have e := Option.some.inj e; subst e; have e2 := ev_part po2_1 (ha.weak (R' := ty (yP2 K yStr (y_Tree T)) (("not" : Str), a1)) fun _ _ _ _ e => e) hb; exact e2
  | k_and a1 a2 => have e := Option.some.inj e; subst e; have e2 := ev_part po3_1 (ha.weak (R' := ty (yP3 K yStr (y_Tree T) (y_Tree T)) (("and" : Str), a1, a2)) fun _ _ _ _ e => e) hb; exact e2
  | k_or a1 a2 => have e := Option.some.inj e; subst e; have e2 := ev_part po3_1 (ha.weak (R' := ty (yP3 K yStr (y_Tree T) (y_Tree T)) (("or" : Str), a1, a2)) fun _ _ _ _ e => e) hb; exact e2
theorem sl_Tree_11 (T : Txt K mg) {μ : Type} {M : Mu μ} {σ : L2.St} {Z H : Hp} {s s1 s2 : μ} {ta tb : TE} {x : Tree} {y : Tree} (ha : Ev M ta σ Z H s (ty (y_Tree T) x) s1) (hb : Ev M tb σ Z H s1 (ty yInt 2) s2) (e : x.s_11 = some y) : Ev M (tOp (rIxT K) ta tb) σ Z H s (ty (y_Tree T) y) s2 := by
  cases x with
  | k_every => cases e
  | k_has a1 => cases e
  | k_in a1 a2 => cases e
  | k_compare a1 a2 a3 => cases e
  | k_not a1 => cases e
  | k_and a1 a2 => have e := Option.some.inj e; subst e; have e2 := ev_part po3_2 (ha.weak (R' := ty (yP3 K yStr (y_Tree T) (y_Tree T)) (("and" : Str), a1, a2)) fun _ _ _ _ e => e) hb; exact e2
  | k_or a1 a2 => have e := Option.some.inj e; subst e; have e2 := ev_part po3_2 (ha.weak (R' := ty (yP3 K yStr (y_Tree T) (y_Tree T)) (("or" : Str), a1, a2)) fun _ _ _ _ e => e) hb; exact e2
theorem tx_Tree (T : Txt K mg) {fp : List Addr} {x : Tree} : ∀ Z H v, Same Z H → (ty (fp := fp) (y_Tree T) x).r Z H v → TyX K H v (.type "tuple") := fun Z H v sz h => match x, h with
  | .k_every, h => tx_p1 Z H v sz (show (ty (fp := fp) (yP1 K yStr) ("every" : Str)).r Z H v from h)
  | .k_has a1, h => tx_p2 Z H v sz (show (ty (fp := fp) (yP2 K yStr yStr) (("has" : Str), a1)).r Z H v from h)
  | .k_in a1 a2, h => tx_p3 Z H v sz (show (ty (fp := fp) (yP3 K yStr yStr (yList (y_Val T))) (("in" : Str), a1, a2)).r Z H v from h)
  | .k_compare a1 a2 a3, h => tx_p4 Z H v sz (show (ty (fp := fp) (yP4 K yStr yStr yStr (y_Val T)) (("compare" : Str), a1, a2, a3)).r Z H v from h)
  | .k_not a1, h => tx_p2 Z H v sz (show (ty (fp := fp) (yP2 K yStr (y_Tree T)) (("not" : Str), a1)).r Z H v from h)
  | .k_and a1 a2, h => tx_p3 Z H v sz (show (ty (fp := fp) (yP3 K yStr (y_Tree T) (y_Tree T)) (("and" : Str), a1, a2)).r Z H v from h)
  | .k_or a1 a2, h => tx_p3 Z H v sz (show (ty (fp := fp) (yP3 K yStr (y_Tree T) (y_Tree T)) (("or" : Str), a1, a2)).r Z H v from h)
theorem mk_Tree_2 (T : Txt K mg) {μ : Type} {M : Mu μ} {σ : L2.St} {Z H : Hp} {s s1 : μ} {ta : TE} {w : Str} {a1 : Tree} {a2 : Tree} {y : Tree} (e : Tree.mk2 w a1 a2 = some y) (h : Ev M ta σ Z H s (ty (yP3 K yStr (y_Tree T) (y_Tree T)) (w, a1, a2)) s1) : Ev M ta σ Z H s (ty (y_Tree T) y) s1 := by
  unfold Tree.mk2 at e
  by_cases q : w = "and"
  · rw [if_pos q] at e
    have e := Option.some.inj e
    subst e
    subst q
    exact it_Tree_and T h
  rw [if_neg q] at e
  clear q
  by_cases q : w = "or"
  · rw [if_pos q] at e
    have e := Option.some.inj e
    subst e
    subst q
    exact it_Tree_or T h
  rw [if_neg q] at e
  clear q
  cases e
def y_Fa (T : Txt K mg) : Ty Fa := ⟨fun Z v x => match x with
  | .range y => ((y_Range T)).r Z v y
  | .values y => ((y_Values T)).r Z v y
  | .norms y => ((y_Norms T)).r Z v y
  | .names y => ((y_Names T)).r Z v y
  | .box y => ((y_Box T)).r Z v y,
  fun {Z Z2 v x} s h => match x, h with
  | .range y, h => ((y_Range T)).mono s h
  | .values y, h => ((y_Values T)).mono s h
  | .norms y, h => ((y_Norms T)).mono s h
  | .names y, h => ((y_Names T)).mono s h
  | .box y, h => ((y_Box T)).mono s h⟩
theorem nn_Fa (T : Txt K mg) : NonNil (y_Fa T) := fun Z v x h => match x, h with
  | .range y, h => (nn_Range T) Z v y h
  | .values y, h => (nn_Values T) Z v y h
  | .norms y, h => (nn_Norms T) Z v y h
  | .names y, h => (nn_Names T) Z v y h
  | .box y, h => (nn_Box T) Z v y h
theorem ij_Fa_range (T : Txt K mg) {μ : Type} {M : Mu μ} {σ : L2.St} {Z H : Hp} {s s1 : μ} {ta : TE} {x : Range} (h : Ev M ta σ Z H s (ty (y_Range T) x) s1) : Ev M ta σ Z H s (ty (y_Fa T) (.range x)) s1 := h.weak fun _ _ _ _ e => e
theorem pj_Fa_range (T : Txt K mg) {μ : Type} {M : Mu μ} {σ : L2.St} {Z H : Hp} {s s1 : μ} {ta : TE} {x : Fa} {y : Range} (h : Ev M ta σ Z H s (ty (y_Fa T) x) s1) (e : x.p_range = some y) : Ev M ta σ Z H s (ty (y_Range T) y) s1 := by
  cases x <;> first | (have e := Option.some.inj e; subst e; exact h.weak fun _ _ _ _ e => e) | cases e
theorem ij_Fa_values (T : Txt K mg) {μ : Type} {M : Mu μ} {σ : L2.St} {Z H : Hp} {s s1 : μ} {ta : TE} {x : Values} (h : Ev M ta σ Z H s (ty (y_Values T) x) s1) : Ev M ta σ Z H s (ty (y_Fa T) (.values x)) s1 := h.weak fun _ _ _ _ e => e
theorem pj_Fa_values (T : Txt K mg) {μ : Type} {M : Mu μ} {σ : L2.St} {Z H : Hp} {s s1 : μ} {ta : TE} {x : Fa} {y : Values} (h : Ev M ta σ Z H s (ty (y_Fa T) x) s1) (e : x.p_values = some y) : Ev M ta σ Z H s (ty (y_Values T) y) s1 := by
  cases x <;> first | (have e := Option.some.inj e; subst e; exact h.weak fun _ _ _ _ e => e) | cases e
theorem ij_Fa_norms (T : Txt K mg) {μ : Type} {M : Mu μ} {σ : L2.St} {Z H : Hp} {s s1 : μ} {ta : TE} {x : Norms} (h : Ev M ta σ Z H s (ty (y_Norms T) x) s1) : Ev M ta σ Z H s (ty (y_Fa T) (.norms x)) s1 := h.weak fun _ _ _ _ e => e
theorem pj_Fa_norms (T : Txt K mg) {μ : Type} {M : Mu μ} {σ : L2.St} {Z H : Hp} {s s1 : μ} {ta : TE} {x : Fa} {y : Norms} (h : Ev M ta σ Z H s (ty (y_Fa T) x) s1) (e : x.p_norms = some y) : Ev M ta σ Z H s (ty (y_Norms T) y) s1 := by
  cases x <;> first | (have e := Option.some.inj e; subst e; exact h.weak fun _ _ _ _ e => e) | cases e
theorem ij_Fa_names (T : Txt K mg) {μ : Type} {M : Mu μ} {σ : L2.St} {Z H : Hp} {s s1 : μ} {ta : TE} {x : Names} (h : Ev M ta σ Z H s (ty (y_Names T) x) s1) : Ev M ta σ Z H s (ty (y_Fa T) (.names x)) s1 := h.weak fun _ _ _ _ e => e
theorem pj_Fa_names (T : Txt K mg) {μ : Type} {M : Mu μ} {σ : L2.St} {Z H : Hp} {s s1 : μ} {ta : TE} {x : Fa} {y : Names} (h : Ev M ta σ Z H s (ty (y_Fa T) x) s1) (e : x.p_names = some y) : Ev M ta σ Z H s (ty (y_Names T) y) s1 := by
  cases x <;> first | (have e := Option.some.inj e; subst e; exact h.weak fun _ _ _ _ e => e) | cases e
theorem ij_Fa_box (T : Txt K mg) {μ : Type} {M : Mu μ} {σ : L2.St} {Z H : Hp} {s s1 : μ} {ta : TE} {x : Box} (h : Ev M ta σ Z H s (ty (y_Box T) x) s1) : Ev M ta σ Z H s (ty (y_Fa T) (.box x)) s1 := h.weak fun _ _ _ _ e => e
theorem pj_Fa_box (T : Txt K mg) {μ : Type} {M : Mu μ} {σ : L2.St} {Z H : Hp} {s s1 : μ} {ta : TE} {x : Fa} {y : Box} (h : Ev M ta σ Z H s (ty (y_Fa T) x) s1) (e : x.p_box = some y) : Ev M ta σ Z H s (ty (y_Box T) y) s1 := by
  cases x <;> first | (have e := Option.some.inj e; subst e; exact h.weak fun _ _ _ _ e => e) | cases e


def sp_law_row (T : Txt K mg) : Sp := fun vs H Q _ => ∃ (sc : Addr) (ns : List Int) (k : Nat), vs = [.ref sc, .int (k : Nat)] ∧ (H sc = some (.lst (ns.map V.int))) ∧ Q (.int (rowZ ns k)) H
set_option maxHeartbeats 4000000 in
theorem ok_law_row (T : Txt K mg) : FnOk P w K mg base CX0 1 T.f_law_row T.d_law_row ["script", "k"] (sp_law_row T) := by
  refine T.F_law_row.ok sc_law_row (fun vs H Q E h => ?_) (fun cdv A outer s H vs Q E hr h => ?_)
  · obtain ⟨sc, ns, k, rfl, _⟩ := h
    rfl
  · obtain ⟨sc, ns, k, rfl, hS, q⟩ := h
    refine ⟨_, (pss_cons (ps_set (i := 2) sc_law_row.nd rfl (.inl rfl) pe_int) 
      (pss_cut (ps_if (pt_cmpR op_lt (pv 1) (pe_callB call_len_seq (by rfl) T.m_len PySem.boot_len (pa_cons (pv 0) pa_nil)) (nomark _)) (pss_one (ps_set (i := 2) sc_law_row.nd rfl (.inl rfl) (pe_ix ix_list (pv 0) (pv 1) (fun _ _ => rfl)))) pss_nil) 
      (pss_cut (ps_if (pt_cmpR op_lt (pv 2) pe_int (nomark _)) (pss_one (ps_set (i := 2) sc_law_row.nd rfl (.inl rfl) (pe_op op_sub (pe_op op_mul (pe_un un_neg pe_int) (pv 2)) pe_int))) pss_nil) 
      (pss_cut (ps_if (pt_cmpR op_lt (pv 2) (pe_op op_pow pe_int pe_int) (nomark _)) (pss_cons (ps_set (i := 3) sc_law_row.nd rfl (.inl rfl) (pe_op op_mod (pe_callTy call_int1 (by rfl) T.m_int (by decide +kernel) (pa_cons (pe_op op_add (pe_op op_add (pe_op op_mul (pv 2) pe_int) (pe_op op_mul (pv 1) pe_int)) pe_int) pa_nil)) pe_int)) 
      (pss_cons (ps_set (i := 4) sc_law_row.nd rfl (.inl rfl) (pe_op op_mod (pe_callTy call_int1 (by rfl) T.m_int (by decide +kernel) (pa_cons (pe_op op_add (pe_op op_add (pe_op op_add (pe_op op_mul (pv 3) pe_int) (pe_op op_mul (pv 2) pe_int)) (pv 1)) pe_int) pa_nil)) pe_int)) 
      (pss_cons (ps_set (i := 5) sc_law_row.nd rfl (.inl rfl) (pe_op op_mod (pe_callTy call_int1 (by rfl) T.m_int (by decide +kernel) (pa_cons (pe_op op_add (pe_op op_add (pe_op op_mul (pv 4) pe_int) (pe_op op_mul (pv 3) (pv 4))) pe_int) pa_nil)) pe_int)) 
      (pss_one (ps_set (i := 2) sc_law_row.nd rfl (.inl rfl) (pe_op op_add (pe_op op_add (pv 3) (pe_op op_mul (pv 4) pe_int)) (pe_op op_mul (pv 5) (pe_op op_pow pe_int pe_int)))))))) pss_nil) 
      (pss_one (ps_ret (pv 2))))))), ?_⟩
    -- if k < len(script): cell = script[k]
    refine ⟨fun σ' H' => H' = H ∧ σ' = [some (.ref sc), some (.int (k : Nat)), some (.int (ns.getD k 0)), none, none, none], ?_, ?_⟩
    · refine ⟨_, rfl, _, rfl, sc, _, rfl, .inl (SqL.of hS), _, _, rfl, rfl, _, rfl, ite2 (fun e => ?_) (fun e => ?_)⟩
      · have hl : (k : Int) < ((ns.map V.int).length : Int) := of_decide_eq_true e
        rw [List.length_map] at hl
        have hk : k < ns.length := by omega
        exact ⟨_, rfl, _, rfl, sc, _, (k : Nat), .int (ns.getD k 0), rfl, rfl, SqL.of hS, at_of (j := k) rfl (by rw [List.getElem?_map, getD_lt hk]; rfl), rfl, rfl⟩
      · have hl : ¬ (k : Int) < ((ns.map V.int).length : Int) := fun h => e (decide_eq_true h)
        rw [List.length_map] at hl
        have hk : ¬ k < ns.length := by omega
        exact ⟨rfl, by rw [getD_ge hk]; rfl⟩
    rintro σ' H' ⟨rfl, rfl⟩
    -- if cell < 0: cell = -2 * cell - 1
    refine ⟨fun σ' H2 => H2 = H' ∧ σ' = [some (.ref sc), some (.int (k : Nat)), some (.int (row1 ns k)), none, none, none], ?_, ?_⟩
    · refine ⟨_, rfl, _, _, rfl, rfl, _, rfl, ite2 (fun e => ?_) (fun e => ?_)⟩
      · have hc : ns.getD k 0 < 0 := of_decide_eq_true e
        refine ⟨2, rfl, _, rfl, _, _, rfl, rfl, .inl ⟨by decide, by decide⟩, _, _, rfl, rfl, rfl, ?_⟩
        unfold row1
        rw [if_pos hc]
        rfl
      · have hc : ¬ ns.getD k 0 < 0 := fun h => e (decide_eq_true h)
        exact ⟨rfl, by unfold row1; rw [if_neg hc]⟩
    rintro σ' H2 ⟨rfl, rfl⟩
    have c0 := row1_nn ns k
    -- if cell < 10 ** 9: ..
    refine ⟨fun σ' H' => H' = H2 ∧ ∃ (x y z : Option V), σ' = [some (.ref sc), some (.int (k : Nat)), some (.int (rowZ ns k)), x, y, z], ?_, ?_⟩
    · refine ⟨_, rfl, _, _, rfl, rfl, ⟨by decide, by decide, by decide⟩, _, _, rfl, rfl, _, rfl, ite2 (fun e => ?_) (fun e => ?_)⟩
      · have h9 : row1 ns k < 10 ^ 9 := of_decide_eq_true e
        rw [rowZ_lo h9]
        generalize row1 ns k = c at h9 c0
        refine ⟨_, rfl, _, _, rfl, rfl, .inr ⟨by decide, by decide⟩, _, rfl, _, _, rfl, rfl, .inr ⟨by decide, by decide⟩, _, _, rfl, rfl, _, _, rfl, rfl, .inl ⟨_, rfl, ?_⟩⟩
        refine ⟨_, _, rfl, rfl, (by decide : (0 : Int) < 2147483647), ?_⟩
        dsimp only
        refine ⟨_, rfl, _, _, rfl, rfl, .inr ⟨by decide, by decide⟩, _, rfl, _, _, rfl, rfl, .inr ⟨by decide, by decide⟩, _, _, rfl, rfl, _, rfl, _, _, rfl, rfl, _, _, rfl, rfl, .inl ⟨_, rfl, ?_⟩⟩
        refine ⟨_, _, rfl, rfl, (by decide : (0 : Int) < 2147483629), ?_⟩
        dsimp only
        refine ⟨_, rfl, _, _, rfl, rfl, .inr ⟨by decide, by decide⟩, _, rfl, _, rfl, _, _, rfl, rfl, .inl ⟨by omega, by omega⟩, _, _, rfl, rfl, _, _, rfl, rfl, .inl ⟨_, rfl, ?_⟩⟩
        refine ⟨_, _, rfl, rfl, (by decide : (0 : Int) < 2147483587), ?_⟩
        dsimp only
        refine ⟨_, rfl, _, rfl, _, _, rfl, rfl, .inr ⟨by decide, by decide⟩, _, _, rfl, rfl, _, rfl, _, _, rfl, rfl, ⟨by decide, by decide, by decide⟩, _, _, rfl, rfl, .inr ⟨by decide, by decide⟩, _, _, rfl, rfl, rfl, _, _, _, rfl⟩
      · have h9 : ¬ row1 ns k < 10 ^ 9 := fun h => e (decide_eq_true h)
        rw [rowZ_hi h9]
        exact ⟨rfl, _, _, _, rfl⟩
    rintro σ' H' ⟨rfl, x, y, z, rfl⟩
    exact ⟨_, rfl, q⟩
def sp_law_next (T : Txt K mg) : Sp := fun vs H Q _ => ∃ (st sc : Addr) (Z0 : Hp) (ds : DS) (v_many : V) (m : Int), vs = [.ref st, v_many] ∧ (Same Z0 H) ∧ ((muD st sc).m ds Z0 H) ∧ (v_many = .int m) ∧ (NxOk m) ∧ ∀ v Z' H', Step (muD st sc).fp Z0 H Z' H' → (muD st sc).m (nxS ds m) Z' H' → yInt.r Z' v (nxV ds m) → Q v H'
set_option maxHeartbeats 4000000 in
theorem ok_law_next (T : Txt K mg) : FnOk P w K mg base CX0 2 T.f_law_next T.d_law_next ["state", "many"] (sp_law_next T) := by
  have G_law_row : FnOk P w K mg base CX0 1 T.f_law_row T.d_law_row ["script", "k"] (sp_law_row T) := ok_law_row T
  refine T.F_law_next.ok sc_law_next (fun vs H Q E h => ?_) (fun cdv A outer s H vs Q E hr h => ?_)
  · obtain ⟨st, sc, Z0, ds, v_many, m, rfl, _⟩ := h
    rfl
  · obtain ⟨st, sc, Z0, ds, v_many, m, rfl, sz, hm, h_many, hok, q⟩ := h
    refine ⟨_, (pss_cut (ps_if (pt_cmpR op_lt (pe_ix ix_list (pv 0) pe_int (fun _ _ => rfl)) (pv 1) (nomark _)) (pss_cons (ps_asg (pe_call G_law_row (hr.mono (by decide)) (by rfl) T.g_law_row T.F_law_row.kp T.b_law_row .nil pass0 (pa_cons (pe_ix ix_list (pv 0) pe_int (fun _ _ => rfl)) (pa_cons (pe_ix ix_list (pv 0) pe_int (fun _ _ => rfl)) pa_nil))) (pg_sub (pv 0) pe_int set_list)) 
      (pss_one (ps_asg (pe_op op_add (pe_ix ix_list (pv 0) pe_int (fun _ _ => rfl)) pe_int) (pg_sub (pv 0) pe_int set_list)))) pss_nil) 
      (pss_cons (ps_set (i := 2) sc_law_next.nd rfl (.inl rfl) (pe_op op_mod (pe_callTy call_int1 (by rfl) T.m_int (by decide +kernel) (pa_cons (pe_ix ix_list (pv 0) pe_int (fun _ _ => rfl)) pa_nil)) (pv 1))) 
      (pss_cons (ps_asg (pe_op op_fdivW (pe_ix ix_list (pv 0) pe_int (fun _ _ => rfl)) (pv 1)) (pg_sub (pv 0) pe_int set_list)) 
      (pss_one (ps_ret (pv 2)))))), ?_⟩
    obtain ⟨m0, m1⟩ := hok
    subst h_many
    obtain ⟨h1, h2, h3⟩ := hm
    obtain ⟨ns, k, x⟩ := ds
    have g2 : H sc = some (.lst (ns.map V.int)) := sz _ _ h2
    have ne : sc ≠ st := fun e => by rw [e] at h2; rw [h2] at h3; cases h3
    refine ⟨fun σ' H' => Step [st] Z0 H Z0 H' ∧ σ' = [some (.ref st), some (.int m), none] ∧ H' st = some (.lst [.ref sc, .int ((if (x : Int) < m then k + 1 else k : Nat) : Int), .int ((DS.cur ⟨ns, k, x⟩ m : Nat) : Int)]), ?_, ?_⟩
    · refine ⟨_, rfl, st, _, _, _, rfl, rfl, SqL.of h1, at_of (j := 2) rfl rfl, _, rfl, _, _, rfl, rfl, _, rfl, ite2 (fun e => ?_) (fun e => ?_)⟩
      · have hlt : (x : Int) < m := of_decide_eq_true e
        refine ⟨_, rfl, st, _, _, _, rfl, rfl, SqL.of h1, at_of (j := 0) rfl rfl, _, rfl, st, _, _, _, rfl, rfl, SqL.of h1, at_of (j := 1) rfl rfl, sc, ns, k, rfl, g2, ?_⟩
        refine ⟨_, rfl, st, _, _, 2, rfl, rfl, h1, rfl, ?_⟩
        refine ⟨_, rfl, st, _, _, _, rfl, rfl, SqL.of upd_same, at_of (j := 1) rfl rfl, _, _, rfl, rfl, _, rfl, st, _, _, 1, rfl, rfl, upd_same, rfl, ?_⟩
        refine ⟨(Step.set sz h3).trans (Step.set (Step.set sz h3).s h3), rfl, ?_⟩
        rw [upd_same, if_pos hlt]
        have : ((DS.cur ⟨ns, k, x⟩ m : Nat) : Int) = rowZ ns k := by
          unfold DS.cur
          rw [if_pos hlt]
          have := rowZ_nn ns k
          show (((rowZ ns k).toNat : Nat) : Int) = rowZ ns k
          omega
        rw [this]
        rfl
      · have hlt : ¬ (x : Int) < m := fun h => e (decide_eq_true h)
        refine ⟨Step.refl sz, rfl, ?_⟩
        rw [h1, if_neg hlt]
        unfold DS.cur
        rw [if_neg hlt]
    rintro σ' H' ⟨hO, rfl, h4⟩
    -- drawn = int(state[2]) % many
    refine ⟨_, rfl, st, _, _, _, rfl, rfl, SqL.of h4, at_of (j := 2) rfl rfl, .inl ⟨_, rfl, ?_⟩⟩
    refine ⟨_, rfl, _, _, rfl, rfl, m0, ?_⟩
    -- state[2] = state[2] // many
    refine ⟨_, rfl, st, _, _, _, rfl, rfl, SqL.of h4, at_of (j := 2) rfl rfl, _, rfl, _, _, rfl, rfl, wide_div m0 m1 (by decide) (by decide), ?_⟩
    refine ⟨_, rfl, st, _, _, 2, rfl, rfl, h4, rfl, ?_⟩
    have nn : 0 ≤ ((DS.cur ⟨ns, k, x⟩ m : Nat) : Int) / m := Int.ediv_nonneg (Int.natCast_nonneg _) (by omega)
    refine ⟨_, rfl, q _ Z0 _ (hO.trans (Step.set hO.s h3)) ⟨?_, h2, h3⟩ rfl⟩
    rw [upd_same]
    show some (HO.lst [_, _, _]) = some (HO.lst [_, _, V.int (((((DS.cur ⟨ns, k, x⟩ m : Nat) : Int) / m).toNat : Nat) : Int)])
    rw [Int.toNat_of_nonneg nn]
    rfl
theorem cs__law_next (T : Txt K mg) {st sc : Addr} {ds : DS} {E : XK} {m : Int} (h : NxOk m) : CallS (muD st sc) (sp_law_next T) E (rac (isRef st) (rac (ty yInt m) ra0)) ds (ty yInt (nxV ds m)) (nxS ds m) := by
  rintro Z H vs sz mm ⟨_, _, rfl, rfl, v_many, _, rfl, h_many, rfl⟩ Q q
  exact ⟨st, sc, Z, ds, v_many, m, rfl, sz, mm, h_many, h, q⟩
theorem cu__law_next (T : Txt K mg) {st sc : Addr} {ds : DS} {E : XK} {m : Int} {μ : Type} {M : Mu μ} {s s2 : μ} (hm : ∀ Z H, M.m s Z H → (muD st sc).m ds Z H) (hf : ∀ a ∈ (muD st sc).fp, a ∈ M.fp) (hp : ∀ Z H Z' H', M.m s Z H → Step (muD st sc).fp Z H Z' H' → (muD st sc).m (nxS ds m) Z' H' → M.m s2 Z' H') (h : NxOk m) : CallS M (sp_law_next T) E (rac (isRef st) (rac (ty yInt m) ra0)) s (ty yInt (nxV ds m)) s2 := by
  rintro Z H vs sz mm ⟨_, _, rfl, rfl, v_many, _, rfl, h_many, rfl⟩ Q q
  exact ⟨st, sc, Z, ds, v_many, m, rfl, sz, hm _ _ mm, h_many, h, fun v Z2 H2 st2 m2 hv => q v Z2 H2 (st2.weak fun a h => .inl (hf a h)) (hp _ _ _ _ mm st2 m2) hv⟩
def sp_law_leaf (T : Txt K mg) : Sp := fun vs H Q _ => ∃ (st sc : Addr) (Z0 : Hp) (ds : DS) (y : (Tree × DS)), vs = [.ref st] ∧ (Same Z0 H) ∧ ((muD st sc).m ds Z0 H) ∧ (F_law_leaf ds = some y) ∧ ∀ v Z' H', Step (muD st sc).fp Z0 H Z' H' → (muD st sc).m y.2 Z' H' → ((y_Tree T)).r Z' v y.1 → Q v H'
set_option maxHeartbeats 4000000 in
theorem ok_law_leaf (T : Txt K mg) : FnOk P w K mg base CX0 3 T.f_law_leaf T.d_law_leaf ["state"] (sp_law_leaf T) := by
  have G_law_next : FnOk P w K mg base CX0 2 T.f_law_next T.d_law_next ["state", "many"] (sp_law_next T) := ok_law_next T
  refine T.F_law_leaf.ok sc_law_leaf (fun vs H Q E h => ?_) (fun cdv A outer s H vs Q E hr h => ?_)
  · obtain ⟨st, sc, Z0, ds, y, rfl, _⟩ := h
    rfl
  · obtain ⟨st, sc, Z0, ds, y, rfl, sz, hm, hF, q⟩ := h
    refine ⟨_, (pss_cons (ps_set (i := 1) sc_law_leaf.nd rfl (.inl rfl) (pe_call G_law_next (hr.mono (by decide)) (by rfl) T.g_law_next T.F_law_next.kp T.b_law_next .nil pass0 (pa_cons (pv 0) (pa_cons pe_int pa_nil)))) 
      (pss_cons (ps_set (i := 2) sc_law_leaf.nd rfl (.inl rfl) (pe_ix ix_list (pe_lst (pa_cons pe_str (pa_cons pe_str (pa_cons pe_str (pa_cons pe_str pa_nil))))) (pe_call G_law_next (hr.mono (by decide)) (by rfl) T.g_law_next T.F_law_next.kp T.b_law_next .nil pass0 (pa_cons (pv 0) (pa_cons pe_int pa_nil))) (fun _ _ => rfl))) 
      (pss_cons (ps_set (i := 3) sc_law_leaf.nd rfl (.inr rfl) (pe_ix ix_list (pe_lst (pa_cons (pe_lst (pa_cons (pe_un un_neg pe_int) (pa_cons (pe_un un_neg pe_int) (pa_cons pe_int (pa_cons pe_int (pa_cons pe_int (pa_cons pe_int pa_nil))))))) (pa_cons (pe_lst (pa_cons pe_str (pa_cons pe_str (pa_cons pe_str (pa_cons pe_str pa_nil))))) (pa_cons (pe_lst (pa_cons pe_bl (pa_cons pe_bl pa_nil))) pa_nil)))) (pe_bm PySem.F.plainAttrs_list PySem.F.slot_list_index PySem.F.type_list_index mt_index (pe_lst (pa_cons pe_str (pa_cons pe_str (pa_cons pe_str pa_nil)))) (pa_cons (pv 2) pa_nil)) (fun _ _ => rfl))) 
      (pss_cons (ps_if (pt_cmpR op_eq (pv 1) pe_int (nomark _)) (pss_one (ps_ret (pe_tup (pa_cons pe_str (pa_cons (pv 2) pa_nil))))) pss_nil) 
      (pss_cons (ps_if (pt_cmpR op_eq (pv 1) pe_int (nomark _)) (pss_one (ps_ret (pe_tup (pa_cons pe_str (pa_cons (pv 2) (pa_cons (pe_lc (own := [("k", 4)]) (g := gName 4) rfl sc_law_leaf.nd (pi_range1 rfl T.m_range (pa_cons (pe_op op_add pe_int (pe_call G_law_next (hr.mono (by decide)) (by rfl) T.g_law_next T.F_law_next.kp T.b_law_next .nil pass0 (pa_cons (pv 0) (pa_cons pe_int pa_nil)))) pa_nil)) (blkOk_by (own := [("k", 4)]) (N := ["state", "kind", "name", "worths", "k"]) (sc := defScope s_law_leaf) (by decide +kernel)) (fun _ _ _ _ _ => (pg_name (i := 4) sc_law_leaf.nd rfl (Or.inl rfl))) (fun _ _ _ _ _ => pts_nil) (fun _ _ _ _ _ => (pe_ix (r := rIxL K) (by exact ix_list) (pv 3) (pe_call G_law_next (hr.mono (by decide)) (by rfl) T.g_law_next T.F_law_next.kp T.b_law_next .nil pass0 (pa_cons (pv 0) (pa_cons (pe_callB (r := rLenB K) (by exact call_len_seq) (by rfl) T.m_len PySem.boot_len (pa_cons (pv 3) pa_nil)) pa_nil))) (fun _ _ => rfl)))) pa_nil)))))) pss_nil) 
      (pss_one (ps_ret (pe_tup (pa_cons pe_str (pa_cons (pv 2) (pa_cons (pe_ix ix_list (pe_lst (pa_cons pe_str (pa_cons pe_str (pa_cons pe_str (pa_cons pe_str (pa_cons pe_str (pa_cons pe_str pa_nil))))))) (pe_call G_law_next (hr.mono (by decide)) (by rfl) T.g_law_next T.F_law_next.kp T.b_law_next .nil pass0 (pa_cons (pv 0) (pa_cons pe_int pa_nil))) (fun _ _ => rfl)) (pa_cons (pe_ix ix_list (pv 3) (pe_call G_law_next (hr.mono (by decide)) (by rfl) T.g_law_next T.F_law_next.kp T.b_law_next .nil pass0 (pa_cons (pv 0) (pa_cons (pe_callB call_len_seq (by rfl) T.m_len PySem.boot_len (pa_cons (pv 3) pa_nil)) pa_nil))) (fun _ _ => rfl)) pa_nil)))))))))))), ?_⟩
    have P := Pt.start (muD st sc) sz hm
    unfold F_law_leaf at hF
    refine st_seq (st_set P (ev_call (cs__law_next T (by decide +kernel)) (eva_cons (ev_ref rfl) (eva_cons ev_int eva_nil))) (fun v_23 Z1 H1 e P1 k_24 => ?_))
    refine st_nx ?_
    replace P := P1
    obtain ⟨i_25, h_26, hF⟩ := bind_inv hF
    refine st_seq (st_set P (ev_ixL (ev_li (ev_fz (en_listD (eva_conss ev_str (eva_conss ev_str (eva_conss ev_str (eva_conss ev_str (eva_nils (τ := yStr)))))) (by show 4 ≤ sizeLine; decide)))) (ev_call (cs__law_next T (by decide +kernel)) (eva_cons (ev_ref rfl) (eva_cons ev_int eva_nil))) h_26) (fun v_27 Z1 H1 e P1 k_28 => ?_))
    refine st_nx ?_
    replace P := P1
    obtain ⟨j_29, h_30, hF⟩ := bind_inv hF
    obtain ⟨i_31, h_32, hF⟩ := bind_inv hF
    refine st_seq (st_set P (ev_ixL (ev_li (ev_fz (en_listD (eva_conss (ev_fz (en_listD (eva_conss (ij_Val_i T (ev_neg ev_int)) (eva_conss (ij_Val_i T (ev_neg ev_int)) (eva_conss (ij_Val_i T ev_int) (eva_conss (ij_Val_i T ev_int) (eva_conss (ij_Val_i T ev_int) (eva_conss (ij_Val_i T ev_int) (eva_nils (τ := (y_Val T))))))))) (by show 6 ≤ sizeLine; decide))) (eva_conss (ev_fz (en_listD (eva_conss (ij_Val_s T ev_str) (eva_conss (ij_Val_s T ev_str) (eva_conss (ij_Val_s T ev_str) (eva_conss (ij_Val_s T ev_str) (eva_nils (τ := (y_Val T))))))) (by show 4 ≤ sizeLine; decide))) (eva_conss (ev_fz (en_listD (eva_conss (ij_Val_b T ev_bl) (eva_conss (ij_Val_b T ev_bl) (eva_nils (τ := (y_Val T))))) (by show 2 ≤ sizeLine; decide))) (eva_nils (τ := (yList (y_Val T))))))) (by show 3 ≤ sizeLine; decide)))) (ev_indexL fj_str (ev_li (ev_fz (en_listD (eva_conss ev_str (eva_conss ev_str (eva_conss ev_str (eva_nils (τ := yStr))))) (by show 3 ≤ sizeLine; decide)))) (ev_var (τ := yStr) rfl k_28) h_30) h_32) (fun v_33 Z1 H1 e P1 k_34 => ?_))
    refine st_nx ?_
    replace P := P1
    refine st_seq (st_if P (et_cmp (ev_eq flat_int (ev_var (τ := yInt) rfl k_24) ev_int)) (fun b_35 Z1 H1 e P1 => ?_) (fun b_35 Z1 H1 e P1 => ?_))
    · replace P := P1
      have hB := ifT b_35 hF
      replace hF := hB
      clear hB
      replace hF := Option.some.inj hF
      subst hF
      refine st_ret P (it_Tree_has T (ev_p2 (K := K) (eva_cons ev_str (eva_cons (ev_var (τ := yStr) rfl k_28) eva_nil)))) (fun v Z1 H1 P1 hv => ?_)
      exact q v _ _ P1.st P1.m hv
    · replace P := P1
      have hB := ifF b_35 hF
      replace hF := hB
      clear hB
      refine st_next0 ?_
      replace k_34 := ((yList (y_Val T))).mono e.z k_34
      refine st_seq (st_if P (et_cmp (ev_eq flat_int (ev_var (τ := yInt) rfl k_24) ev_int)) (fun b_36 Z1 H1 e P1 => ?_) (fun b_36 Z1 H1 e P1 => ?_))
      · replace P := P1
        have hB := ifT b_36 hF
        replace hF := hB
        clear hB
        replace k_34 := ((yList (y_Val T))).mono e.z k_34
        obtain ⟨g_37, hF⟩ := guard_inv hF
        obtain ⟨l_45, h_46, hF⟩ := bind_inv hF
        replace hF := Option.some.inj hF
        subst hF
        refine st_ret P (it_Tree_in T (ev_p3 (K := K) (eva_cons ev_str (eva_cons (ev_var (τ := yStr) rfl k_28) (eva_cons (ev_fz (en_mapS (υ := (y_Val T)) (fun (x_38 : Int) (s_39 : DS) => (if NxOk (i_31.length : Int) then
        (atI i_31 (nxV s_39 (i_31.length : Int))).bind fun i_43 =>
        some (i_43, (nxS s_39 (i_31.length : Int))) else none : Option (Val × DS))) (ei_rng1 (ev_add ev_int (ev_call (cs__law_next T (by decide +kernel)) (eva_cons (ev_ref rfl) (eva_cons ev_int eva_nil)))) g_37) (fun x_38 v_40 Z' H' s_39 p zz hh rx_41 hp => by
              replace k_34 := ((yList (y_Val T))).mono zz k_34
              have hy := hp
              obtain ⟨g_42, hy⟩ := guard_inv hy
              obtain ⟨i_43, h_44, hy⟩ := bind_inv hy
              have hy := Option.some.inj hy
              subst hy
              exact ⟨_, tgt_name, (wpe_s wpe_z (by decide)), (ev_ixL (ev_li (ev_var (τ := (yList (y_Val T))) rfl k_34)) (ev_call (cs__law_next T g_42) (eva_cons (ev_ref rfl) (eva_cons (ev_len (fun _ _ _ h => h) (ev_li (ev_var (τ := (yList (y_Val T))) rfl k_34))) eva_nil))) h_44)⟩) h_46)) eva_nil))))) (fun v Z1 H1 P1 hv => ?_)
        exact q v _ _ P1.st P1.m hv
      · replace P := P1
        have hB := ifF b_36 hF
        replace hF := hB
        clear hB
        refine st_next0 ?_
        replace k_34 := ((yList (y_Val T))).mono e.z k_34
        obtain ⟨i_47, h_48, hF⟩ := bind_inv hF
        obtain ⟨g_49, hF⟩ := guard_inv hF
        obtain ⟨i_50, h_51, hF⟩ := bind_inv hF
        replace hF := Option.some.inj hF
        subst hF
        refine st_ret P (it_Tree_compare T (ev_p4 (K := K) (eva_cons ev_str (eva_cons (ev_var (τ := yStr) rfl k_28) (eva_cons (ev_ixL (ev_li (ev_fz (en_listD (eva_conss ev_str (eva_conss ev_str (eva_conss ev_str (eva_conss ev_str (eva_conss ev_str (eva_conss ev_str (eva_nils (τ := yStr)))))))) (by show 6 ≤ sizeLine; decide)))) (ev_call (cs__law_next T (by decide +kernel)) (eva_cons (ev_ref rfl) (eva_cons ev_int eva_nil))) h_48) (eva_cons (ev_ixL (ev_li (ev_var (τ := (yList (y_Val T))) rfl k_34)) (ev_call (cs__law_next T g_49) (eva_cons (ev_ref rfl) (eva_cons (ev_len (fun _ _ _ h => h) (ev_li (ev_var (τ := (yList (y_Val T))) rfl k_34))) eva_nil))) h_51) eva_nil)))))) (fun v Z1 H1 P1 hv => ?_)
        exact q v _ _ P1.st P1.m hv
theorem cs_law_leaf (T : Txt K mg) {st sc : Addr} {ds : DS} {E : XK}  {y : Tree × DS} (h : F_law_leaf ds = some y) : CallS (muD st sc) (sp_law_leaf T) E (rac (isRef st) ra0) ds (ty (y_Tree T) y.1) y.2 := by
  rintro Z H vs sz m ⟨_, _, rfl, rfl, rfl⟩ Q q
  exact ⟨st, sc, Z, ds, y, rfl, sz, m, h, fun v Z2 H2 s2 m2 hv => q v Z2 H2 s2 m2 hv⟩
theorem cu_law_leaf (T : Txt K mg) {st sc : Addr} {ds : DS} {E : XK}  {y : Tree × DS} {μ : Type} {M : Mu μ} {s s2 : μ} (hm : ∀ Z H, M.m s Z H → (muD st sc).m ds Z H) (hf : ∀ a ∈ (muD st sc).fp, a ∈ M.fp) (hp : ∀ Z H Z' H', M.m s Z H → Step (muD st sc).fp Z H Z' H' → (muD st sc).m y.2 Z' H' → M.m s2 Z' H') (h : F_law_leaf ds = some y) : CallS M (sp_law_leaf T) E (rac (isRef st) ra0) s (ty (y_Tree T) y.1) s2 := by
  rintro Z H vs sz m ⟨_, _, rfl, rfl, rfl⟩ Q q
  exact ⟨st, sc, Z, ds, y, rfl, sz, hm _ _ m, h, fun v Z2 H2 st2 m2 hv => q v Z2 H2 (st2.weak fun a h => .inl (hf a h)) (hp _ _ _ _ m st2 m2) hv⟩
def sg_law_tree (T : Txt K mg) (g : Grp0) : Sp := fun vs H Q _ => ∃ (st sc : Addr) (Z0 : Hp) (ds : DS) (v_depth : V) (x_depth : Int) (y : (Tree × DS)), vs = [.ref st, v_depth] ∧ (Same Z0 H) ∧ ((muD st sc).m ds Z0 H) ∧ ((yInt).r Z0 v_depth x_depth) ∧ (g.h_law_tree ds x_depth = some y) ∧ ∀ v Z' H', Step (muD st sc).fp Z0 H Z' H' → (muD st sc).m y.2 Z' H' → ((y_Tree T)).r Z' v y.1 → Q v H'
theorem csg_law_tree (T : Txt K mg) {g : Grp0} {st sc : Addr} {ds : DS} {E : XK} {x_depth : Int} {y : Tree × DS} (h : (g.h_law_tree) ds x_depth = some y) : CallS (muD st sc) (sg_law_tree T g) E (rac (isRef st) (rac (ty yInt x_depth) ra0)) ds (ty (y_Tree T) y.1) y.2 := by
  rintro Z H vs sz m ⟨_, _, rfl, rfl, ⟨v_depth, _, rfl, h_depth, rfl⟩⟩ Q q
  exact ⟨st, sc, Z, ds, v_depth, x_depth, y, rfl, sz, m, h_depth, h, fun v Z2 H2 s2 m2 hv => q v Z2 H2 s2 m2 hv⟩
theorem cug_law_tree (T : Txt K mg) {g : Grp0} {st sc : Addr} {ds : DS} {E : XK} {x_depth : Int} {y : Tree × DS} {μ : Type} {M : Mu μ} {s s2 : μ} (hm : ∀ Z H, M.m s Z H → (muD st sc).m ds Z H) (hf : ∀ a ∈ (muD st sc).fp, a ∈ M.fp) (hp : ∀ Z H Z' H', M.m s Z H → Step (muD st sc).fp Z H Z' H' → (muD st sc).m y.2 Z' H' → M.m s2 Z' H') (h : (g.h_law_tree) ds x_depth = some y) : CallS M (sg_law_tree T g) E (rac (isRef st) (rac (ty yInt x_depth) ra0)) s (ty (y_Tree T) y.1) s2 := by
  rintro Z H vs sz m ⟨_, _, rfl, rfl, ⟨v_depth, _, rfl, h_depth, rfl⟩⟩ Q q
  exact ⟨st, sc, Z, ds, v_depth, x_depth, y, rfl, sz, hm _ _ m, h_depth, h, fun v Z2 H2 st2 m2 hv => q v Z2 H2 (st2.weak fun a h => .inl (hf a h)) (hp _ _ _ _ m st2 m2) hv⟩
set_option maxHeartbeats 4000000 in
theorem og_law_tree (T : Txt K mg) {n n2 : Nat} {g g2 : Grp0} (hg : g2.h_law_tree = S_law_tree g) (hlo : 3 ≤ n) (hup : n + 1 ≤ n2 + 1) (G_law_tree : FnOk P w K mg base CX0 n T.f_law_tree T.d_law_tree ["state", "depth"] (sg_law_tree T g)) : FnOk P w K mg base CX0 (n2 + 1) T.f_law_tree T.d_law_tree ["state", "depth"] (sg_law_tree T g2) := by
  have G_law_leaf : FnOk P w K mg base CX0 3 T.f_law_leaf T.d_law_leaf ["state"] (sp_law_leaf T) := ok_law_leaf T
  have G_law_next : FnOk P w K mg base CX0 2 T.f_law_next T.d_law_next ["state", "many"] (sp_law_next T) := ok_law_next T
  refine T.F_law_tree.ok sc_law_tree (fun vs H Q E h => ?_) (fun cdv A outer s H vs Q E hr h => ?_)
  · obtain ⟨st, sc, Z0, ds, v_depth, x_depth, y, rfl, _⟩ := h
    rfl
  · obtain ⟨st, sc, Z0, ds, v_depth, x_depth, y, rfl, sz, hm, h_depth, hF, q⟩ := h
    refine ⟨_, (pss_cons (ps_set (i := 2) sc_law_tree.nd rfl (.inl rfl) (pe_call G_law_next (hr.mono (by omega)) (by rfl) T.g_law_next T.F_law_next.kp T.b_law_next .nil pass0 (pa_cons (pv 0) (pa_cons pe_int pa_nil)))) 
      (pss_cons (ps_if (pt_cmpR op_eq (pv 2) pe_int (nomark _)) (pss_one (ps_ret (pe_tup (pa_cons pe_str pa_nil)))) pss_nil) 
      (pss_cons (ps_if (PW.pt (pw_or (pt_cmpR op_eq (pv 1) pe_int (nomark _)) (pw_or1 (pt_cmpR op_lt (pv 2) pe_int (nomark _))))) (pss_one (ps_ret (pe_call G_law_leaf (hr.mono (by omega)) (by rfl) T.g_law_leaf T.F_law_leaf.kp T.b_law_leaf .nil pass0 (pa_cons (pv 0) pa_nil)))) pss_nil) 
      (pss_cons (ps_if (pt_cmpR op_eq (pv 2) pe_int (nomark _)) (pss_one (ps_ret (pe_tup (pa_cons pe_str (pa_cons (pe_call G_law_tree (hr.mono (by omega)) (by rfl) T.g_law_tree T.F_law_tree.kp T.b_law_tree .nil pass0 (pa_cons (pv 0) (pa_cons (pe_op op_sub (pv 1) pe_int) pa_nil))) pa_nil))))) pss_nil) 
      (pss_one (ps_ret (pe_tup (pa_cons (pe_ix ix_list (pe_lst (pa_cons pe_str (pa_cons pe_str pa_nil))) (pe_op op_sub (pv 2) pe_int) (fun _ _ => rfl)) (pa_cons (pe_call G_law_tree (hr.mono (by omega)) (by rfl) T.g_law_tree T.F_law_tree.kp T.b_law_tree .nil pass0 (pa_cons (pv 0) (pa_cons (pe_op op_sub (pv 1) pe_int) pa_nil))) (pa_cons (pe_call G_law_tree (hr.mono (by omega)) (by rfl) T.g_law_tree T.F_law_tree.kp T.b_law_tree .nil pass0 (pa_cons (pv 0) (pa_cons (pe_op op_sub (pv 1) pe_int) pa_nil))) pa_nil)))))))))), ?_⟩
    have P := Pt.start (muD st sc) sz hm
    rw [hg] at hF
    unfold S_law_tree at hF
    refine st_seq (st_set P (ev_call (cs__law_next T (by decide +kernel)) (eva_cons (ev_ref rfl) (eva_cons ev_int eva_nil))) (fun v_52 Z1 H1 e P1 k_53 => ?_))
    refine st_nx ?_
    replace P := P1
    refine st_seq (st_if P (et_cmp (ev_eq flat_int (ev_var (τ := yInt) rfl k_53) ev_int)) (fun b_54 Z1 H1 e P1 => ?_) (fun b_54 Z1 H1 e P1 => ?_))
    · replace P := P1
      have hB := ifT b_54 hF
      replace hF := hB
      clear hB
      replace hF := Option.some.inj hF
      subst hF
      refine st_ret P (it_Tree_every T (ev_p1 (K := K) (eva_cons ev_str eva_nil))) (fun v Z1 H1 P1 hv => ?_)
      exact q v _ _ P1.st P1.m hv
    · replace P := P1
      have hB := ifF b_54 hF
      replace hF := hB
      clear hB
      refine st_next0 ?_
      refine st_seq (st_if P (et_or0 (et_cmp (ev_eq flat_int (ev_var (τ := yInt) rfl h_depth) ev_int)) (et_cmp (ev_lt (ev_var (τ := yInt) rfl k_53) ev_int))) (fun b_55 Z1 H1 e P1 => ?_) (fun b_55 Z1 H1 e P1 => ?_))
      · replace P := P1
        have hB := ifT b_55 hF
        replace hF := hB
        clear hB
        obtain ⟨r_56, h_57, hF⟩ := bind_inv hF
        replace hF := Option.some.inj hF
        subst hF
        refine st_ret P (ev_call (cs_law_leaf T h_57) (eva_cons (ev_ref rfl) eva_nil)) (fun v Z1 H1 P1 hv => ?_)
        exact q v _ _ P1.st P1.m hv
      · replace P := P1
        have hB := ifF b_55 hF
        replace hF := hB
        clear hB
        refine st_next0 ?_
        refine st_seq (st_if P (et_cmp (ev_eq flat_int (ev_var (τ := yInt) rfl k_53) ev_int)) (fun b_58 Z1 H1 e P1 => ?_) (fun b_58 Z1 H1 e P1 => ?_))
        · replace P := P1
          have hB := ifT b_58 hF
          replace hF := hB
          clear hB
          obtain ⟨r_59, h_60, hF⟩ := bind_inv hF
          replace hF := Option.some.inj hF
          subst hF
          refine st_ret P (it_Tree_not T (ev_p2 (K := K) (eva_cons ev_str (eva_cons (ev_call (csg_law_tree T h_60) (eva_cons (ev_ref rfl) (eva_cons (ev_sub (ev_var (τ := yInt) rfl h_depth) ev_int) eva_nil))) eva_nil)))) (fun v Z1 H1 P1 hv => ?_)
          exact q v _ _ P1.st P1.m hv
        · replace P := P1
          have hB := ifF b_58 hF
          replace hF := hB
          clear hB
          refine st_next0 ?_
          obtain ⟨i_61, h_62, hF⟩ := bind_inv hF
          obtain ⟨r_63, h_64, hF⟩ := bind_inv hF
          obtain ⟨r_65, h_66, hF⟩ := bind_inv hF
          obtain ⟨t_67, h_68, hF⟩ := bind_inv hF
          replace hF := Option.some.inj hF
          subst hF
          refine st_ret P (mk_Tree_2 T h_68 (ev_p3 (K := K) (eva_cons (ev_ixL (ev_li (ev_fz (en_listD (eva_conss ev_str (eva_conss ev_str (eva_nils (τ := yStr)))) (by show 2 ≤ sizeLine; decide)))) (ev_sub (ev_var (τ := yInt) rfl k_53) ev_int) h_62) (eva_cons (ev_call (csg_law_tree T h_64) (eva_cons (ev_ref rfl) (eva_cons (ev_sub (ev_var (τ := yInt) rfl h_depth) ev_int) eva_nil))) (eva_cons (ev_call (csg_law_tree T h_66) (eva_cons (ev_ref rfl) (eva_cons (ev_sub (ev_var (τ := yInt) rfl h_depth) ev_int) eva_nil))) eva_nil))))) (fun v Z1 H1 P1 hv => ?_)
          exact q v _ _ P1.st P1.m hv
theorem ogs_0 (T : Txt K mg) : ∀ n, FnOk P w K mg base CX0 (2 + 1 * n + 1) T.f_law_tree T.d_law_tree ["state", "depth"] (sg_law_tree T (grp0 n))
  | 0 => ⟨fun _ _ _ _ h => (by obtain ⟨st, sc, Z0, ds, v_depth, x_depth, y, rfl, sz, hm, h_depth, hF, _⟩ := h; exact nomatch (show (none : Option _) = some _ from hF)), fun _ _ _ _ _ _ _ _ _ _ _ _ _ h => (by obtain ⟨st, sc, Z0, ds, v_depth, x_depth, y, rfl, sz, hm, h_depth, hF, _⟩ := h; exact nomatch (show (none : Option _) = some _ from hF))⟩
  | n + 1 => og_law_tree T rfl (n := 2 + 1 * n + 1) (n2 := 2 + 1 * (n + 1)) (by omega) (by omega) (ogs_0 T n)
def sp_law_tree (T : Txt K mg) : Sp := sg_law_tree T (grp0 5)
theorem ok_law_tree (T : Txt K mg) : FnOk P w K mg base CX0 8 T.f_law_tree T.d_law_tree ["state", "depth"] (sp_law_tree T) := (ogs_0 T 5)
theorem cs_law_tree (T : Txt K mg) {st sc : Addr} {ds : DS} {E : XK} {x_depth : Int} {y : Tree × DS} (h : F_law_tree ds x_depth = some y) : CallS (muD st sc) (sp_law_tree T) E (rac (isRef st) (rac (ty yInt x_depth) ra0)) ds (ty (y_Tree T) y.1) y.2 := by
  rintro Z H vs sz m ⟨_, _, rfl, rfl, ⟨v_depth, _, rfl, h_depth, rfl⟩⟩ Q q
  exact ⟨st, sc, Z, ds, v_depth, x_depth, y, rfl, sz, m, h_depth, h, fun v Z2 H2 s2 m2 hv => q v Z2 H2 s2 m2 hv⟩
theorem cu_law_tree (T : Txt K mg) {st sc : Addr} {ds : DS} {E : XK} {x_depth : Int} {y : Tree × DS} {μ : Type} {M : Mu μ} {s s2 : μ} (hm : ∀ Z H, M.m s Z H → (muD st sc).m ds Z H) (hf : ∀ a ∈ (muD st sc).fp, a ∈ M.fp) (hp : ∀ Z H Z' H', M.m s Z H → Step (muD st sc).fp Z H Z' H' → (muD st sc).m y.2 Z' H' → M.m s2 Z' H') (h : F_law_tree ds x_depth = some y) : CallS M (sp_law_tree T) E (rac (isRef st) (rac (ty yInt x_depth) ra0)) s (ty (y_Tree T) y.1) s2 := by
  rintro Z H vs sz m ⟨_, _, rfl, rfl, ⟨v_depth, _, rfl, h_depth, rfl⟩⟩ Q q
  exact ⟨st, sc, Z, ds, v_depth, x_depth, y, rfl, sz, hm _ _ m, h_depth, h, fun v Z2 H2 st2 m2 hv => q v Z2 H2 (st2.weak fun a h => .inl (hf a h)) (hp _ _ _ _ m st2 m2) hv⟩
def sp_Fact_outcomes (T : Txt K mg) : Sp := fun vs H Q _ => ∃ (Z0 : Hp) (v_self : V) (v_condition : V) (x_self : Unit) (x_condition : Cond), vs = [v_self, v_condition] ∧ (Same Z0 H) ∧ ((yGhost).r Z0 v_self x_self) ∧ (((y_Cond T)).r Z0 v_condition x_condition) ∧ ∀ v Z' H', Step [] Z0 H Z' H' → ((yOpt (yP2 K yBool yBool))).r Z' v (F_Fact_outcomes x_self x_condition) → Q v H'
set_option maxHeartbeats 4000000 in
theorem ok_Fact_outcomes (T : Txt K mg) : FnOk P w K mg base CX0 1 T.f_Fact_outcomes T.d_Fact_outcomes ["self", "condition"] (sp_Fact_outcomes T) := by
  refine T.F_Fact_outcomes.ok sc_Fact_outcomes (fun vs H Q E h => ?_) (fun cdv A outer s H vs Q E hr h => ?_)
  · obtain ⟨Z0, v_self, v_condition, x_self, x_condition, rfl, _⟩ := h
    rfl
  · obtain ⟨Z0, v_self, v_condition, x_self, x_condition, rfl, sz, h_self, h_condition, q⟩ := h
    refine ⟨_, (pss_one (ps_ret pe_non)), ?_⟩
    have P := Pt.start0 sz
    generalize hF : F_Fact_outcomes x_self x_condition = y at q
    unfold F_Fact_outcomes at hF
    subst hF
    refine st_ret P (ev_none (τ := (yP2 K yBool yBool)) ev_non) (fun v Z1 H1 P1 hv => ?_)
    exact q v _ _ P1.st hv
theorem cs_Fact_outcomes (T : Txt K mg) {μ : Type} {M : Mu μ} {s : μ} {E : XK} {x_self : Unit} {x_condition : Cond} : CallS M (sp_Fact_outcomes T) E (rac (ty yGhost x_self) (rac (ty (y_Cond T) x_condition) ra0)) s (ty (yOpt (yP2 K yBool yBool)) (F_Fact_outcomes x_self x_condition)) s := by
  rintro Z H vs sz m ⟨v_self, _, rfl, h_self, ⟨v_condition, _, rfl, h_condition, rfl⟩⟩ Q q
  exact ⟨Z, v_self, v_condition, x_self, x_condition, rfl, sz, h_self, h_condition, fun v Z2 H2 st hv => q v Z2 H2 st.pure (M.pure st m) hv⟩
def sp_outcomes_of_lack (T : Txt K mg) : Sp := fun vs H Q _ => ∃ (Z0 : Hp) (v_lack : V) (x_lack : Str), vs = [v_lack] ∧ (Same Z0 H) ∧ ((yStr).r Z0 v_lack x_lack) ∧ ∀ v Z' H', Step [] Z0 H Z' H' → ((yP2 K yBool yBool)).r Z' v (F_outcomes_of_lack x_lack) → Q v H'
set_option maxHeartbeats 4000000 in
theorem ok_outcomes_of_lack (T : Txt K mg) : FnOk P w K mg base CX0 1 T.f_outcomes_of_lack T.d_outcomes_of_lack ["lack"] (sp_outcomes_of_lack T) := by
  refine T.F_outcomes_of_lack.ok sc_outcomes_of_lack (fun vs H Q E h => ?_) (fun cdv A outer s H vs Q E hr h => ?_)
  · obtain ⟨Z0, v_lack, x_lack, rfl, _⟩ := h
    rfl
  · obtain ⟨Z0, v_lack, x_lack, rfl, sz, h_lack, q⟩ := h
    refine ⟨_, (pss_one (ps_ret (pe_tup (pa_cons (pe_cmpR op_ne (pv 0) pe_str (nomark _)) (pa_cons (pe_cmpR op_ne (pv 0) pe_str (nomark _)) pa_nil))))), ?_⟩
    have P := Pt.start0 sz
    generalize hF : F_outcomes_of_lack x_lack = y at q
    unfold F_outcomes_of_lack at hF
    subst hF
    refine st_ret P (ev_p2 (K := K) (eva_cons (ev_ne flat_str (ev_var (τ := yStr) rfl h_lack) ev_str) (eva_cons (ev_ne flat_str (ev_var (τ := yStr) rfl h_lack) ev_str) eva_nil))) (fun v Z1 H1 P1 hv => ?_)
    exact q v _ _ P1.st hv
theorem cs_outcomes_of_lack (T : Txt K mg) {μ : Type} {M : Mu μ} {s : μ} {E : XK} {x_lack : Str} : CallS M (sp_outcomes_of_lack T) E (rac (ty yStr x_lack) ra0) s (ty (yP2 K yBool yBool) (F_outcomes_of_lack x_lack)) s := by
  rintro Z H vs sz m ⟨v_lack, _, rfl, h_lack, rfl⟩ Q q
  exact ⟨Z, v_lack, x_lack, rfl, sz, h_lack, fun v Z2 H2 st hv => q v Z2 H2 st.pure (M.pure st m) hv⟩
def sp_kind_of_value (T : Txt K mg) : Sp := fun vs H Q _ => ∃ (Z0 : Hp) (v_worth : V) (x_worth : Val), vs = [v_worth] ∧ (Same Z0 H) ∧ (((y_Val T)).r Z0 v_worth x_worth) ∧ ∀ v Z' H', Step [] Z0 H Z' H' → (yStr).r Z' v (F_kind_of_value x_worth) → Q v H'
set_option maxHeartbeats 4000000 in
theorem ok_kind_of_value (T : Txt K mg) : FnOk P w K mg base CX0 1 T.f_kind_of_value T.d_kind_of_value ["worth"] (sp_kind_of_value T) := by
  refine T.F_kind_of_value.ok sc_kind_of_value (fun vs H Q E h => ?_) (fun cdv A outer s H vs Q E hr h => ?_)
  · obtain ⟨Z0, v_worth, x_worth, rfl, _⟩ := h
    rfl
  · obtain ⟨Z0, v_worth, x_worth, rfl, sz, h_worth, q⟩ := h
    refine ⟨_, (pss_cons (ps_if (pt_val (pe_callB call_isi (by rfl) T.m_isinstance (by decide +kernel) (pa_cons (pv 0) (pa_cons (pe_bltn (v := .ty "bool") (u := .type "bool") (by rfl) T.m_bool (by decide +kernel) rfl) pa_nil)))) (pss_one (ps_ret pe_str)) pss_nil) 
      (pss_cons (ps_if (pt_val (pe_callB call_isi (by rfl) T.m_isinstance (by decide +kernel) (pa_cons (pv 0) (pa_cons (pe_bltn (v := .ty "int") (u := .type "int") (by rfl) T.m_int (by decide +kernel) rfl) pa_nil)))) (pss_one (ps_ret pe_str)) pss_nil) 
      (pss_one (ps_ret pe_str)))), ?_⟩
    have P := Pt.start0 sz
    generalize hF : F_kind_of_value x_worth = y at q
    unfold F_kind_of_value at hF
    refine st_seq (st_if P (et_val (ev_isi (b := x_worth.is_bool) (fun _ _ _ h => h) (ev_var (τ := (y_Val T)) rfl h_worth) (tx_Val T) (.ty _) (kit_Val_bool T _))) (fun b_69 Z1 H1 e P1 => ?_) (fun b_69 Z1 H1 e P1 => ?_))
    · replace P := P1
      have hB := ifT b_69 hF
      replace hF := hB
      clear hB
      subst hF
      refine st_ret P ev_str (fun v Z1 H1 P1 hv => ?_)
      exact q v _ _ P1.st hv
    · replace P := P1
      have hB := ifF b_69 hF
      replace hF := hB
      clear hB
      refine st_next0 ?_
      replace h_worth := ((y_Val T)).mono e.z h_worth
      refine st_seq (st_if P (et_val (ev_isi (b := x_worth.is_int) (fun _ _ _ h => h) (ev_var (τ := (y_Val T)) rfl h_worth) (tx_Val T) (.ty _) (kit_Val_int T _))) (fun b_70 Z1 H1 e P1 => ?_) (fun b_70 Z1 H1 e P1 => ?_))
      · replace P := P1
        have hB := ifT b_70 hF
        replace hF := hB
        clear hB
        subst hF
        refine st_ret P ev_str (fun v Z1 H1 P1 hv => ?_)
        exact q v _ _ P1.st hv
      · replace P := P1
        have hB := ifF b_70 hF
        replace hF := hB
        clear hB
        refine st_next0 ?_
        subst hF
        refine st_ret P ev_str (fun v Z1 H1 P1 hv => ?_)
        exact q v _ _ P1.st hv
theorem cs_kind_of_value (T : Txt K mg) {μ : Type} {M : Mu μ} {s : μ} {E : XK} {x_worth : Val} : CallS M (sp_kind_of_value T) E (rac (ty (y_Val T) x_worth) ra0) s (ty yStr (F_kind_of_value x_worth)) s := by
  rintro Z H vs sz m ⟨v_worth, _, rfl, h_worth, rfl⟩ Q q
  exact ⟨Z, v_worth, x_worth, rfl, sz, h_worth, fun v Z2 H2 st hv => q v Z2 H2 st.pure (M.pure st m) hv⟩
def sp_range_outcomes (T : Txt K mg) : Sp := fun vs H Q _ => ∃ (Z0 : Hp) (v_low : V) (v_high : V) (v_sign : V) (v_value : V) (x_low : Int) (x_high : Int) (x_sign : Str) (x_value : Val) (y : (Bool × Bool)), vs = [v_low, v_high, v_sign, v_value] ∧ (Same Z0 H) ∧ ((yInt).r Z0 v_low x_low) ∧ ((yInt).r Z0 v_high x_high) ∧ ((yStr).r Z0 v_sign x_sign) ∧ (((y_Val T)).r Z0 v_value x_value) ∧ (F_range_outcomes x_low x_high x_sign x_value = some y) ∧ ∀ v Z' H', Step [] Z0 H Z' H' → ((yP2 K yBool yBool)).r Z' v y → Q v H'
set_option maxHeartbeats 4000000 in
theorem ok_range_outcomes (T : Txt K mg) : FnOk P w K mg base CX0 2 T.f_range_outcomes T.d_range_outcomes ["low", "high", "sign", "value"] (sp_range_outcomes T) := by
  have G_kind_of_value : FnOk P w K mg base CX0 1 T.f_kind_of_value T.d_kind_of_value ["worth"] (sp_kind_of_value T) := ok_kind_of_value T
  refine T.F_range_outcomes.ok sc_range_outcomes (fun vs H Q E h => ?_) (fun cdv A outer s H vs Q E hr h => ?_)
  · obtain ⟨Z0, v_low, v_high, v_sign, v_value, x_low, x_high, x_sign, x_value, y, rfl, _⟩ := h
    rfl
  · obtain ⟨Z0, v_low, v_high, v_sign, v_value, x_low, x_high, x_sign, x_value, y, rfl, sz, h_low, h_high, h_sign, h_value, hF, q⟩ := h
    refine ⟨_, (pss_cons (ps_if (pt_cmpR op_ne (pe_call G_kind_of_value (hr.mono (by decide)) (by rfl) T.g_kind_of_value T.F_kind_of_value.kp T.b_kind_of_value .nil pass0 (pa_cons (pv 3) pa_nil)) pe_str (nomark _)) (pss_one (ps_ret (pe_tup (pa_cons pe_bl (pa_cons pe_bl pa_nil))))) pss_nil) 
      (pss_cons (ps_set (i := 4) sc_range_outcomes.nd rfl (.inl rfl) (pe_chain op_le op_le (pv 0) (pv 3) (pv 1))) 
      (pss_cons (ps_set (i := 5) sc_range_outcomes.nd rfl (.inl rfl) (pe_not (pe_chain op_eq op_eq (pv 0) (pv 3) (pv 1)))) 
      (pss_cons (ps_if (pt_cmpR op_eq (pv 2) pe_str (nomark _)) (pss_one (ps_ret (pe_tup (pa_cons (pv 4) (pa_cons (pv 5) pa_nil))))) pss_nil) 
      (pss_cons (ps_if (pt_cmpR op_eq (pv 2) pe_str (nomark _)) (pss_one (ps_ret (pe_tup (pa_cons (pv 5) (pa_cons (pv 4) pa_nil))))) pss_nil) 
      (pss_cons (ps_if (pt_cmpR op_eq (pv 2) pe_str (nomark _)) (pss_one (ps_ret (pe_tup (pa_cons (pe_cmpR op_lt (pv 0) (pv 3) (nomark _)) (pa_cons (pe_cmpR op_le (pv 3) (pv 1) (nomark _)) pa_nil))))) pss_nil) 
      (pss_cons (ps_if (pt_cmpR op_eq (pv 2) pe_str (nomark _)) (pss_one (ps_ret (pe_tup (pa_cons (pe_cmpR op_le (pv 0) (pv 3) (nomark _)) (pa_cons (pe_cmpR op_lt (pv 3) (pv 1) (nomark _)) pa_nil))))) pss_nil) 
      (pss_cons (ps_if (pt_cmpR op_eq (pv 2) pe_str (nomark _)) (pss_one (ps_ret (pe_tup (pa_cons (pe_cmpR op_lt (pv 3) (pv 1) (nomark _)) (pa_cons (pe_cmpR op_le (pv 0) (pv 3) (nomark _)) pa_nil))))) pss_nil) 
      (pss_one (ps_ret (pe_tup (pa_cons (pe_cmpR op_le (pv 3) (pv 1) (nomark _)) (pa_cons (pe_cmpR op_lt (pv 0) (pv 3) (nomark _)) pa_nil))))))))))))), ?_⟩
    have P := Pt.start0 sz
    unfold F_range_outcomes at hF
    refine st_seq (st_if P (et_cmp (ev_ne flat_str (ev_call (cs_kind_of_value T) (eva_cons (ev_var (τ := (y_Val T)) rfl h_value) eva_nil)) ev_str)) (fun b_87 Z1 H1 e P1 => ?_) (fun b_87 Z1 H1 e P1 => ?_))
    · replace P := P1
      have hB := ifT b_87 hF
      replace hF := hB
      clear hB
      replace hF := Option.some.inj hF
      subst hF
      refine st_ret P (ev_p2 (K := K) (eva_cons ev_bl (eva_cons ev_bl eva_nil))) (fun v Z1 H1 P1 hv => ?_)
      exact q v _ _ P1.st hv
    · replace P := P1
      have hB := ifF b_87 hF
      replace hF := hB
      clear hB
      refine st_next0 ?_
      replace h_value := ((y_Val T)).mono e.z h_value
      obtain ⟨u_88, h_89, hF⟩ := bind_inv hF
      obtain ⟨x_can_equal_90, h_91, hF⟩ := bind_inv hF
      replace h_91 := Option.some.inj h_91
      refine st_seq (st_set P (ev_cast (ev_chain (ev_var (τ := yInt) rfl h_low) (pj_Val_i T (ev_var (τ := (y_Val T)) rfl h_value) h_89) (ev_var (τ := yInt) rfl h_high)) h_91) (fun v_92 Z1 H1 e P1 k_93 => ?_))
      refine st_nx ?_
      replace P := P1
      replace h_value := ((y_Val T)).mono e.z h_value
      obtain ⟨u_94, h_95, hF⟩ := bind_inv hF
      obtain ⟨x_can_differ_96, h_97, hF⟩ := bind_inv hF
      replace h_97 := Option.some.inj h_97
      refine st_seq (st_set P (ev_cast (ev_not (ev_chainEE (ev_var (τ := yInt) rfl h_low) (pj_Val_i T (ev_var (τ := (y_Val T)) rfl h_value) h_95) (ev_var (τ := yInt) rfl h_high))) h_97) (fun v_98 Z1 H1 e P1 k_99 => ?_))
      refine st_nx ?_
      replace P := P1
      replace h_value := ((y_Val T)).mono e.z h_value
      refine st_seq (st_if P (et_cmp (ev_eq flat_str (ev_var (τ := yStr) rfl h_sign) ev_str)) (fun b_100 Z1 H1 e P1 => ?_) (fun b_100 Z1 H1 e P1 => ?_))
      · replace P := P1
        have hB := ifT b_100 hF
        replace hF := hB
        clear hB
        replace hF := Option.some.inj hF
        subst hF
        refine st_ret P (ev_p2 (K := K) (eva_cons (ev_var (τ := yBool) rfl k_93) (eva_cons (ev_var (τ := yBool) rfl k_99) eva_nil))) (fun v Z1 H1 P1 hv => ?_)
        exact q v _ _ P1.st hv
      · replace P := P1
        have hB := ifF b_100 hF
        replace hF := hB
        clear hB
        refine st_next0 ?_
        replace h_value := ((y_Val T)).mono e.z h_value
        refine st_seq (st_if P (et_cmp (ev_eq flat_str (ev_var (τ := yStr) rfl h_sign) ev_str)) (fun b_101 Z1 H1 e P1 => ?_) (fun b_101 Z1 H1 e P1 => ?_))
        · replace P := P1
          have hB := ifT b_101 hF
          replace hF := hB
          clear hB
          replace hF := Option.some.inj hF
          subst hF
          refine st_ret P (ev_p2 (K := K) (eva_cons (ev_var (τ := yBool) rfl k_99) (eva_cons (ev_var (τ := yBool) rfl k_93) eva_nil))) (fun v Z1 H1 P1 hv => ?_)
          exact q v _ _ P1.st hv
        · replace P := P1
          have hB := ifF b_101 hF
          replace hF := hB
          clear hB
          refine st_next0 ?_
          replace h_value := ((y_Val T)).mono e.z h_value
          refine st_seq (st_if P (et_cmp (ev_eq flat_str (ev_var (τ := yStr) rfl h_sign) ev_str)) (fun b_102 Z1 H1 e P1 => ?_) (fun b_102 Z1 H1 e P1 => ?_))
          · replace P := P1
            have hB := ifT b_102 hF
            replace hF := hB
            clear hB
            replace h_value := ((y_Val T)).mono e.z h_value
            obtain ⟨u_103, h_104, hF⟩ := bind_inv hF
            obtain ⟨u_105, h_106, hF⟩ := bind_inv hF
            replace hF := Option.some.inj hF
            subst hF
            refine st_ret P (ev_p2 (K := K) (eva_cons (ev_lt (ev_var (τ := yInt) rfl h_low) (pj_Val_i T (ev_var (τ := (y_Val T)) rfl h_value) h_104)) (eva_cons (ev_le (pj_Val_i T (ev_var (τ := (y_Val T)) rfl h_value) h_106) (ev_var (τ := yInt) rfl h_high)) eva_nil))) (fun v Z1 H1 P1 hv => ?_)
            exact q v _ _ P1.st hv
          · replace P := P1
            have hB := ifF b_102 hF
            replace hF := hB
            clear hB
            refine st_next0 ?_
            replace h_value := ((y_Val T)).mono e.z h_value
            refine st_seq (st_if P (et_cmp (ev_eq flat_str (ev_var (τ := yStr) rfl h_sign) ev_str)) (fun b_107 Z1 H1 e P1 => ?_) (fun b_107 Z1 H1 e P1 => ?_))
            · replace P := P1
              have hB := ifT b_107 hF
              replace hF := hB
              clear hB
              replace h_value := ((y_Val T)).mono e.z h_value
              obtain ⟨u_108, h_109, hF⟩ := bind_inv hF
              obtain ⟨u_110, h_111, hF⟩ := bind_inv hF
              replace hF := Option.some.inj hF
              subst hF
              refine st_ret P (ev_p2 (K := K) (eva_cons (ev_le (ev_var (τ := yInt) rfl h_low) (pj_Val_i T (ev_var (τ := (y_Val T)) rfl h_value) h_109)) (eva_cons (ev_lt (pj_Val_i T (ev_var (τ := (y_Val T)) rfl h_value) h_111) (ev_var (τ := yInt) rfl h_high)) eva_nil))) (fun v Z1 H1 P1 hv => ?_)
              exact q v _ _ P1.st hv
            · replace P := P1
              have hB := ifF b_107 hF
              replace hF := hB
              clear hB
              refine st_next0 ?_
              replace h_value := ((y_Val T)).mono e.z h_value
              refine st_seq (st_if P (et_cmp (ev_eq flat_str (ev_var (τ := yStr) rfl h_sign) ev_str)) (fun b_112 Z1 H1 e P1 => ?_) (fun b_112 Z1 H1 e P1 => ?_))
              · replace P := P1
                have hB := ifT b_112 hF
                replace hF := hB
                clear hB
                replace h_value := ((y_Val T)).mono e.z h_value
                obtain ⟨u_113, h_114, hF⟩ := bind_inv hF
                obtain ⟨u_115, h_116, hF⟩ := bind_inv hF
                replace hF := Option.some.inj hF
                subst hF
                refine st_ret P (ev_p2 (K := K) (eva_cons (ev_lt (pj_Val_i T (ev_var (τ := (y_Val T)) rfl h_value) h_114) (ev_var (τ := yInt) rfl h_high)) (eva_cons (ev_le (ev_var (τ := yInt) rfl h_low) (pj_Val_i T (ev_var (τ := (y_Val T)) rfl h_value) h_116)) eva_nil))) (fun v Z1 H1 P1 hv => ?_)
                exact q v _ _ P1.st hv
              · replace P := P1
                have hB := ifF b_112 hF
                replace hF := hB
                clear hB
                refine st_next0 ?_
                replace h_value := ((y_Val T)).mono e.z h_value
                obtain ⟨u_117, h_118, hF⟩ := bind_inv hF
                obtain ⟨u_119, h_120, hF⟩ := bind_inv hF
                replace hF := Option.some.inj hF
                subst hF
                refine st_ret P (ev_p2 (K := K) (eva_cons (ev_le (pj_Val_i T (ev_var (τ := (y_Val T)) rfl h_value) h_118) (ev_var (τ := yInt) rfl h_high)) (eva_cons (ev_lt (ev_var (τ := yInt) rfl h_low) (pj_Val_i T (ev_var (τ := (y_Val T)) rfl h_value) h_120)) eva_nil))) (fun v Z1 H1 P1 hv => ?_)
                exact q v _ _ P1.st hv
theorem cs_range_outcomes (T : Txt K mg) {μ : Type} {M : Mu μ} {s : μ} {E : XK} {x_low : Int} {x_high : Int} {x_sign : Str} {x_value : Val} {y : (Bool × Bool)} (h : F_range_outcomes x_low x_high x_sign x_value = some y) : CallS M (sp_range_outcomes T) E (rac (ty yInt x_low) (rac (ty yInt x_high) (rac (ty yStr x_sign) (rac (ty (y_Val T) x_value) ra0)))) s (ty (yP2 K yBool yBool) y) s := by
  rintro Z H vs sz m ⟨v_low, _, rfl, h_low, ⟨v_high, _, rfl, h_high, ⟨v_sign, _, rfl, h_sign, ⟨v_value, _, rfl, h_value, rfl⟩⟩⟩⟩ Q q
  exact ⟨Z, v_low, v_high, v_sign, v_value, x_low, x_high, x_sign, x_value, y, rfl, sz, h_low, h_high, h_sign, h_value, h, fun v Z2 H2 st hv => q v Z2 H2 st.pure (M.pure st m) hv⟩
def sp_is_from (T : Txt K mg) : Sp := fun vs H Q _ => ∃ (Z0 : Hp) (v_low : V) (v_high : V) (v_worth : V) (x_low : Int) (x_high : Int) (x_worth : Val) (y : Bool), vs = [v_low, v_high, v_worth] ∧ (Same Z0 H) ∧ ((yInt).r Z0 v_low x_low) ∧ ((yInt).r Z0 v_high x_high) ∧ (((y_Val T)).r Z0 v_worth x_worth) ∧ (F_is_from x_low x_high x_worth = some y) ∧ ∀ v Z' H', Step [] Z0 H Z' H' → (yBool).r Z' v y → Q v H'
set_option maxHeartbeats 4000000 in
theorem ok_is_from (T : Txt K mg) : FnOk P w K mg base CX0 2 T.f_is_from T.d_is_from ["low", "high", "worth"] (sp_is_from T) := by
  have G_kind_of_value : FnOk P w K mg base CX0 1 T.f_kind_of_value T.d_kind_of_value ["worth"] (sp_kind_of_value T) := ok_kind_of_value T
  refine T.F_is_from.ok sc_is_from (fun vs H Q E h => ?_) (fun cdv A outer s H vs Q E hr h => ?_)
  · obtain ⟨Z0, v_low, v_high, v_worth, x_low, x_high, x_worth, y, rfl, _⟩ := h
    rfl
  · obtain ⟨Z0, v_low, v_high, v_worth, x_low, x_high, x_worth, y, rfl, sz, h_low, h_high, h_worth, hF, q⟩ := h
    refine ⟨_, (pss_one (ps_ret (pe_and (pe_cmpR op_eq (pe_call G_kind_of_value (hr.mono (by decide)) (by rfl) T.g_kind_of_value T.F_kind_of_value.kp T.b_kind_of_value .nil pass0 (pa_cons (pv 2) pa_nil)) pe_str (nomark _)) (pe_one (pe_chain op_le op_le (pv 0) (pv 2) (pv 1)))))), ?_⟩
    have P := Pt.start0 sz
    unfold F_is_from at hF
    obtain ⟨b_128, h_127, hF⟩ := bind_inv hF
    replace hF := Option.some.inj hF
    subst hF
    refine st_ret P (ev_andO (ev_eq flat_str (ev_call (cs_kind_of_value T) (eva_cons (ev_var (τ := (y_Val T)) rfl h_worth) eva_nil)) ev_str) (fun _ y hy => by
          obtain ⟨u_125, h_126, hy⟩ := bind_inv hy
          have hy := Option.some.inj hy
          subst hy
          exact (ev_chain (ev_var (τ := yInt) rfl h_low) (pj_Val_i T (ev_var (τ := (y_Val T)) rfl h_worth) h_126) (ev_var (τ := yInt) rfl h_high))) h_127) (fun v Z1 H1 P1 hv => ?_)
    exact q v _ _ P1.st hv
theorem cs_is_from (T : Txt K mg) {μ : Type} {M : Mu μ} {s : μ} {E : XK} {x_low : Int} {x_high : Int} {x_worth : Val} {y : Bool} (h : F_is_from x_low x_high x_worth = some y) : CallS M (sp_is_from T) E (rac (ty yInt x_low) (rac (ty yInt x_high) (rac (ty (y_Val T) x_worth) ra0))) s (ty yBool y) s := by
  rintro Z H vs sz m ⟨v_low, _, rfl, h_low, ⟨v_high, _, rfl, h_high, ⟨v_worth, _, rfl, h_worth, rfl⟩⟩⟩ Q q
  exact ⟨Z, v_low, v_high, v_worth, x_low, x_high, x_worth, y, rfl, sz, h_low, h_high, h_worth, h, fun v Z2 H2 st hv => q v Z2 H2 st.pure (M.pure st m) hv⟩
def sp_Range_outcomes (T : Txt K mg) : Sp := fun vs H Q _ => ∃ (Z0 : Hp) (v_self : V) (v_condition : V) (x_self : Range) (x_condition : Cond) (y : (Option (Bool × Bool))), vs = [v_self, v_condition] ∧ (Same Z0 H) ∧ (((y_Range T)).r Z0 v_self x_self) ∧ (((y_Cond T)).r Z0 v_condition x_condition) ∧ (F_Range_outcomes x_self x_condition = some y) ∧ ∀ v Z' H', Step [] Z0 H Z' H' → ((yOpt (yP2 K yBool yBool))).r Z' v y → Q v H'
set_option maxHeartbeats 4000000 in
theorem ok_Range_outcomes (T : Txt K mg) : FnOk P w K mg base CX0 3 T.f_Range_outcomes T.d_Range_outcomes ["self", "condition"] (sp_Range_outcomes T) := by
  have G_is_from : FnOk P w K mg base CX0 2 T.f_is_from T.d_is_from ["low", "high", "worth"] (sp_is_from T) := ok_is_from T
  have G_range_outcomes : FnOk P w K mg base CX0 2 T.f_range_outcomes T.d_range_outcomes ["low", "high", "sign", "value"] (sp_range_outcomes T) := ok_range_outcomes T
  have G_outcomes_of_lack : FnOk P w K mg base CX0 1 T.f_outcomes_of_lack T.d_outcomes_of_lack ["lack"] (sp_outcomes_of_lack T) := ok_outcomes_of_lack T
  refine T.F_Range_outcomes.ok sc_Range_outcomes (fun vs H Q E h => ?_) (fun cdv A outer s H vs Q E hr h => ?_)
  · obtain ⟨Z0, v_self, v_condition, x_self, x_condition, y, rfl, _⟩ := h
    rfl
  · obtain ⟨Z0, v_self, v_condition, x_self, x_condition, y, rfl, sz, h_self, h_condition, hF, q⟩ := h
    refine ⟨_, (pss_cons (ps_if (pt_cmpR op_ne (pe_fld (pv 1) rfl) (pe_fld (pv 0) rfl) (nomark _)) (pss_one (ps_ret pe_non)) pss_nil) 
      (pss_cons (ps_if (PW.pt (pw_or (pt_cmpR op_eq (pe_fld (pv 0) rfl) pe_str (nomark _)) (pw_or1 (pt_val (pe_callB call_isi (by rfl) T.m_isinstance (by decide +kernel) (pa_cons (pv 1) (pa_cons (pe_glob (v := .ref T.c_Has) rfl T.mc_Has rfl) pa_nil))))))) (pss_one (ps_ret (pe_call G_outcomes_of_lack (hr.mono (by decide)) (by rfl) T.g_outcomes_of_lack T.F_outcomes_of_lack.kp T.b_outcomes_of_lack .nil pass0 (pa_cons (pe_fld (pv 0) rfl) pa_nil)))) pss_nil) 
      (pss_cut (ps_if (pt_val (pe_callB call_isi (by rfl) T.m_isinstance (by decide +kernel) (pa_cons (pv 1) (pa_cons (pe_glob (v := .ref T.c_OneOf) rfl T.mc_OneOf rfl) pa_nil)))) (pss_cons (ps_set (i := 2) sc_Range_outcomes.nd rfl (.inl rfl) (pe_callB (cr_any rfl) (by rfl) T.m_any (by decide +kernel) (pa_cons (pe_lc (own := [("worth", 3)]) (g := gName 3) rfl sc_Range_outcomes.nd (pi_tup (pe_fld (pv 1) rfl)) (blkOk_by (own := [("worth", 3)]) (N := ["self", "condition", "can_pass", "worth", "can_fail"]) (sc := defScope s_Range_outcomes) (by decide +kernel)) (fun _ _ _ _ _ => (pg_name (i := 3) sc_Range_outcomes.nd rfl (Or.inl rfl))) (fun _ _ _ _ _ => pts_nil) (fun _ _ _ _ _ => (pe_call G_is_from (hr.mono (by decide)) (by rfl) T.g_is_from T.F_is_from.kp T.b_is_from .nil pass0 (pa_cons (pe_fldB (K := K) rfl (by exact (pv 0)) rfl) (pa_cons (pe_fldB (K := K) rfl (by exact (pv 0)) rfl) (pa_cons (pv 3) pa_nil)))))) pa_nil))) 
      (pss_one (ps_set (i := 4) sc_Range_outcomes.nd rfl (.inl rfl) pe_bl))) (pss_one (ps_asg (pe_call G_range_outcomes (hr.mono (by decide)) (by rfl) T.g_range_outcomes T.F_range_outcomes.kp T.b_range_outcomes .nil pass0 (pa_cons (pe_fld (pv 0) rfl) (pa_cons (pe_fld (pv 0) rfl) (pa_cons (pe_fld (pv 1) rfl) (pa_cons (pe_fld (pv 1) rfl) pa_nil))))) (pg_tup rfl (pgs_cons (pg_name (i := 2) sc_Range_outcomes.nd rfl (.inl rfl)) (pgs_cons (pg_name (i := 4) sc_Range_outcomes.nd rfl (.inl rfl)) pgs_nil)))))) 
      (pss_one (ps_ret (pe_tup (pa_cons (pv 2) (pa_cons (pe_or (pv 4) (pe_one (pe_cmpR op_eq (pe_fld (pv 0) rfl) pe_str (nomark _)))) pa_nil)))))))), ?_⟩
    have P := Pt.start0 sz
    unfold F_Range_outcomes at hF
    obtain ⟨a_134, h_135, hF⟩ := bind_inv hF
    refine st_seq (st_if P (et_cmp (ev_ne flat_str (fs_Cond_field T (ev_var (τ := (y_Cond T)) rfl h_condition) h_135) (ev_fld (fo_Range_field T) T.cl_Range T.n_Range_field (ev_var (τ := (y_Range T)) rfl h_self)))) (fun b_136 Z1 H1 e P1 => ?_) (fun b_136 Z1 H1 e P1 => ?_))
    · replace P := P1
      have hB := ifT b_136 hF
      replace hF := hB
      clear hB
      replace hF := Option.some.inj hF
      subst hF
      refine st_ret P (ev_none (τ := (yP2 K yBool yBool)) ev_non) (fun v Z1 H1 P1 hv => ?_)
      exact q v _ _ P1.st hv
    · replace P := P1
      have hB := ifF b_136 hF
      replace hF := hB
      clear hB
      refine st_next0 ?_
      replace h_self := ((y_Range T)).mono e.z h_self
      replace h_condition := ((y_Cond T)).mono e.z h_condition
      refine st_seq (st_if P (et_or0 (et_cmp (ev_eq flat_str (ev_fld (fo_Range_lack T) T.cl_Range T.n_Range_lack (ev_var (τ := (y_Range T)) rfl h_self)) ev_str)) (et_val (ev_isi (b := x_condition.is_Has) (fun _ _ _ h => h) (ev_var (τ := (y_Cond T)) rfl h_condition) (tx_Cond T) (.own _) (kit_Cond_Has T _)))) (fun b_137 Z1 H1 e P1 => ?_) (fun b_137 Z1 H1 e P1 => ?_))
      · replace P := P1
        have hB := ifT b_137 hF
        replace hF := hB
        clear hB
        replace h_self := ((y_Range T)).mono e.z h_self
        replace hF := Option.some.inj hF
        subst hF
        refine st_ret P (ev_some nn_p2 (ev_call (cs_outcomes_of_lack T) (eva_cons (ev_fld (fo_Range_lack T) T.cl_Range T.n_Range_lack (ev_var (τ := (y_Range T)) rfl h_self)) eva_nil))) (fun v Z1 H1 P1 hv => ?_)
        exact q v _ _ P1.st hv
      · replace P := P1
        have hB := ifF b_137 hF
        replace hF := hB
        clear hB
        refine st_next0 ?_
        replace h_self := ((y_Range T)).mono e.z h_self
        replace h_condition := ((y_Cond T)).mono e.z h_condition
        obtain ⟨w_151, hB_150, hF⟩ := bind_inv hF
        refine ⟨fun σ' H' => ∃ Z', ∃ (y_153 : Option V) (v_154 : V) (y_156 : Option V) (v_157 : V), σ' = [some v_self, y_153, some v_154, y_156, some v_157] ∧ Pt [] Z0 H muN Z' H' () ∧ ((y_Range T)).r Z' v_self x_self ∧ (yBool).r Z' v_154 w_151.1 ∧ (yBool).r Z' v_157 w_151.2, ?_, ?_⟩
        · refine st_if P (et_val (ev_isi (b := x_condition.is_OneOf) (fun _ _ _ h => h) (ev_var (τ := (y_Cond T)) rfl h_condition) (tx_Cond T) (.own _) (kit_Cond_OneOf T _))) (fun b_138 Z1 H1 e P1 => ?_) (fun b_138 Z1 H1 e P1 => ?_)
          · replace P := P1
            replace hB_150 := ifT b_138 hB_150
            replace h_self := ((y_Range T)).mono e.z h_self
            replace h_condition := ((y_Cond T)).mono e.z h_condition
            obtain ⟨u_161, h_162, hB_150⟩ := bind_inv hB_150
            obtain ⟨l_168, h_169, hB_150⟩ := bind_inv hB_150
            refine st_seq (st_set P (ev_anyL (ev_li (ev_fz (en_mapO (υ := yBool) (fun (x_163 : Val) => ((F_is_from x_self.low x_self.high x_163).bind fun r_166 =>
            some r_166 : Option Bool)) (ei_tup (ev_fld (fo_OneOf_choices T) T.cl_OneOf T.n_OneOf_choices (pj_Cond_one T (ev_var (τ := (y_Cond T)) rfl h_condition) h_162))) (fun x_163 v_164 Z' H' p zz hh rx_165 hp => by
                  replace h_self := ((y_Range T)).mono zz h_self
                  have hy := hp
                  obtain ⟨r_166, h_167, hy⟩ := bind_inv hy
                  have hy := Option.some.inj hy
                  subst hy
                  exact ⟨_, tgt_name, (wpe_s wpe_z (by decide)), (ev_call (cs_is_from T h_167) (eva_cons (ev_fld (fo_Range_low T) T.cl_Range T.n_Range_low (ev_var (τ := (y_Range T)) rfl h_self)) (eva_cons (ev_fld (fo_Range_high T) T.cl_Range T.n_Range_high (ev_var (τ := (y_Range T)) rfl h_self)) (eva_cons (ev_var (τ := (y_Val T)) rfl rx_165) eva_nil))))⟩) h_169)))) (fun v_170 Z1 H1 e P1 k_171 => ?_))
            refine st_nx ?_
            replace P := P1
            replace h_self := ((y_Range T)).mono e.z h_self
            refine st_set P ev_bl (fun v_172 Z1 H1 e P1 k_173 => ?_)
            replace P := P1
            replace h_self := ((y_Range T)).mono e.z h_self
            replace hB_150 := Option.some.inj hB_150
            subst hB_150
            exact ⟨_, _, _, _, _, rfl, P, h_self, k_171, k_173⟩
          · replace P := P1
            replace hB_150 := ifF b_138 hB_150
            replace h_self := ((y_Range T)).mono e.z h_self
            replace h_condition := ((y_Cond T)).mono e.z h_condition
            obtain ⟨a_174, h_175, hB_150⟩ := bind_inv hB_150
            obtain ⟨a_176, h_177, hB_150⟩ := bind_inv hB_150
            obtain ⟨r_178, h_179, hB_150⟩ := bind_inv hB_150
            refine st_asg P (ev_call (cs_range_outcomes T h_179) (eva_cons (ev_fld (fo_Range_low T) T.cl_Range T.n_Range_low (ev_var (τ := (y_Range T)) rfl h_self)) (eva_cons (ev_fld (fo_Range_high T) T.cl_Range T.n_Range_high (ev_var (τ := (y_Range T)) rfl h_self)) (eva_cons (fs_Cond_sign T (ev_var (τ := (y_Cond T)) rfl h_condition) h_175) (eva_cons (fs_Cond_value T (ev_var (τ := (y_Cond T)) rfl h_condition) h_177) eva_nil))))) (fun v Z1 H1 e P1 k_180 => ?_)
            replace P := P1
            replace h_self := ((y_Range T)).mono e.z h_self
            obtain ⟨v_181, v_182, k_183, k_184, tg_185⟩ := tgt_p2 k_180
            refine ⟨_, (tg_185 tgt_name tgt_name), ?_⟩
            replace hB_150 := Option.some.inj hB_150
            subst hB_150
            exact ⟨_, _, _, _, _, rfl, P, h_self, k_183, k_184⟩
        rintro σ' H' ⟨Z1, y_153, v_154, y_156, v_157, rfl, P, k_152, k_155, k_158⟩
        replace hF := Option.some.inj hF
        subst hF
        refine st_ret P (ev_some nn_p2 (ev_p2 (K := K) (eva_cons (ev_var (τ := yBool) rfl k_155) (eva_cons (ev_or0 (ev_var (τ := yBool) rfl k_158) (ev_eq flat_str (ev_fld (fo_Range_lack T) T.cl_Range T.n_Range_lack (ev_var (τ := (y_Range T)) rfl k_152)) ev_str)) eva_nil)))) (fun v Z1 H1 P1 hv => ?_)
        exact q v _ _ P1.st hv
theorem cs_Range_outcomes (T : Txt K mg) {μ : Type} {M : Mu μ} {s : μ} {E : XK} {x_self : Range} {x_condition : Cond} {y : (Option (Bool × Bool))} (h : F_Range_outcomes x_self x_condition = some y) : CallS M (sp_Range_outcomes T) E (rac (ty (y_Range T) x_self) (rac (ty (y_Cond T) x_condition) ra0)) s (ty (yOpt (yP2 K yBool yBool)) y) s := by
  rintro Z H vs sz m ⟨v_self, _, rfl, h_self, ⟨v_condition, _, rfl, h_condition, rfl⟩⟩ Q q
  exact ⟨Z, v_self, v_condition, x_self, x_condition, y, rfl, sz, h_self, h_condition, h, fun v Z2 H2 st hv => q v Z2 H2 st.pure (M.pure st m) hv⟩
def sp_satisfies (T : Txt K mg) : Sp := fun vs H Q _ => ∃ (Z0 : Hp) (v_worth : V) (v_sign : V) (v_other : V) (x_worth : Val) (x_sign : Str) (x_other : Val) (y : Bool), vs = [v_worth, v_sign, v_other] ∧ (Same Z0 H) ∧ (((y_Val T)).r Z0 v_worth x_worth) ∧ ((yStr).r Z0 v_sign x_sign) ∧ (((y_Val T)).r Z0 v_other x_other) ∧ (F_satisfies x_worth x_sign x_other = some y) ∧ ∀ v Z' H', Step [] Z0 H Z' H' → (yBool).r Z' v y → Q v H'
set_option maxHeartbeats 4000000 in
theorem ok_satisfies (T : Txt K mg) : FnOk P w K mg base CX0 2 T.f_satisfies T.d_satisfies ["worth", "sign", "other"] (sp_satisfies T) := by
  have G_kind_of_value : FnOk P w K mg base CX0 1 T.f_kind_of_value T.d_kind_of_value ["worth"] (sp_kind_of_value T) := ok_kind_of_value T
  refine T.F_satisfies.ok sc_satisfies (fun vs H Q E h => ?_) (fun cdv A outer s H vs Q E hr h => ?_)
  · obtain ⟨Z0, v_worth, v_sign, v_other, x_worth, x_sign, x_other, y, rfl, _⟩ := h
    rfl
  · obtain ⟨Z0, v_worth, v_sign, v_other, x_worth, x_sign, x_other, y, rfl, sz, h_worth, h_sign, h_other, hF, q⟩ := h
    refine ⟨_, (pss_cons (ps_if (pt_cmpR op_ne (pe_call G_kind_of_value (hr.mono (by decide)) (by rfl) T.g_kind_of_value T.F_kind_of_value.kp T.b_kind_of_value .nil pass0 (pa_cons (pv 0) pa_nil)) (pe_call G_kind_of_value (hr.mono (by decide)) (by rfl) T.g_kind_of_value T.F_kind_of_value.kp T.b_kind_of_value .nil pass0 (pa_cons (pv 2) pa_nil)) (nomark _)) (pss_one (ps_ret (pe_cmpR op_eq (pv 1) pe_str (nomark _)))) pss_nil) 
      (pss_cons (ps_if (pt_cmpR op_eq (pv 1) pe_str (nomark _)) (pss_one (ps_ret (pe_cmpR (op_eqD hr.units) (pv 0) (pv 2) (nomark _)))) pss_nil) 
      (pss_cons (ps_if (pt_cmpR op_eq (pv 1) pe_str (nomark _)) (pss_one (ps_ret (pe_cmpR (op_neD hr.units) (pv 0) (pv 2) (nomark _)))) pss_nil) 
      (pss_cons (ps_if (pt_cmpR op_eq (pv 1) pe_str (nomark _)) (pss_one (ps_ret (pe_cmpR op_ltV (pv 0) (pv 2) (nomark _)))) pss_nil) 
      (pss_cons (ps_if (pt_cmpR op_eq (pv 1) pe_str (nomark _)) (pss_one (ps_ret (pe_cmpR op_leV (pv 0) (pv 2) (nomark _)))) pss_nil) 
      (pss_cons (ps_if (pt_cmpR op_eq (pv 1) pe_str (nomark _)) (pss_one (ps_ret (pe_cmpR op_gtV (pv 0) (pv 2) (nomark _)))) pss_nil) 
      (pss_one (ps_ret (pe_cmpR op_geV (pv 0) (pv 2) (nomark _)))))))))), ?_⟩
    have P := Pt.start0 sz
    unfold F_satisfies at hF
    refine st_seq (st_if P (et_cmp (ev_ne flat_str (ev_call (cs_kind_of_value T) (eva_cons (ev_var (τ := (y_Val T)) rfl h_worth) eva_nil)) (ev_call (cs_kind_of_value T) (eva_cons (ev_var (τ := (y_Val T)) rfl h_other) eva_nil)))) (fun b_191 Z1 H1 e P1 => ?_) (fun b_191 Z1 H1 e P1 => ?_))
    · replace P := P1
      have hB := ifT b_191 hF
      replace hF := hB
      clear hB
      replace hF := Option.some.inj hF
      subst hF
      refine st_ret P (ev_eq flat_str (ev_var (τ := yStr) rfl h_sign) ev_str) (fun v Z1 H1 P1 hv => ?_)
      exact q v _ _ P1.st hv
    · replace P := P1
      have hB := ifF b_191 hF
      replace hF := hB
      clear hB
      refine st_next0 ?_
      replace h_worth := ((y_Val T)).mono e.z h_worth
      replace h_other := ((y_Val T)).mono e.z h_other
      refine st_seq (st_if P (et_cmp (ev_eq flat_str (ev_var (τ := yStr) rfl h_sign) ev_str)) (fun b_192 Z1 H1 e P1 => ?_) (fun b_192 Z1 H1 e P1 => ?_))
      · replace P := P1
        have hB := ifT b_192 hF
        replace hF := hB
        clear hB
        replace h_worth := ((y_Val T)).mono e.z h_worth
        replace h_other := ((y_Val T)).mono e.z h_other
        replace hF := Option.some.inj hF
        subst hF
        refine st_ret P (ev_eqW (EqW.gd (eqw_Val T) _) (EqW.gd (eqw_Val T) _) (EqW.dpt (K := K) (τ := (y_Val T)) (eqw_Val T) (by decide) _) (EqW.dpt (K := K) (τ := (y_Val T)) (eqw_Val T) (by decide) _) (ev_var (τ := (y_Val T)) rfl h_worth) (ev_var (τ := (y_Val T)) rfl h_other)) (fun v Z1 H1 P1 hv => ?_)
        exact q v _ _ P1.st hv
      · replace P := P1
        have hB := ifF b_192 hF
        replace hF := hB
        clear hB
        refine st_next0 ?_
        replace h_worth := ((y_Val T)).mono e.z h_worth
        replace h_other := ((y_Val T)).mono e.z h_other
        refine st_seq (st_if P (et_cmp (ev_eq flat_str (ev_var (τ := yStr) rfl h_sign) ev_str)) (fun b_193 Z1 H1 e P1 => ?_) (fun b_193 Z1 H1 e P1 => ?_))
        · replace P := P1
          have hB := ifT b_193 hF
          replace hF := hB
          clear hB
          replace h_worth := ((y_Val T)).mono e.z h_worth
          replace h_other := ((y_Val T)).mono e.z h_other
          replace hF := Option.some.inj hF
          subst hF
          refine st_ret P (ev_neW (EqW.gd (eqw_Val T) _) (EqW.gd (eqw_Val T) _) (EqW.dpt (K := K) (τ := (y_Val T)) (eqw_Val T) (by decide) _) (EqW.dpt (K := K) (τ := (y_Val T)) (eqw_Val T) (by decide) _) (ev_var (τ := (y_Val T)) rfl h_worth) (ev_var (τ := (y_Val T)) rfl h_other)) (fun v Z1 H1 P1 hv => ?_)
          exact q v _ _ P1.st hv
        · replace P := P1
          have hB := ifF b_193 hF
          replace hF := hB
          clear hB
          refine st_next0 ?_
          replace h_worth := ((y_Val T)).mono e.z h_worth
          replace h_other := ((y_Val T)).mono e.z h_other
          refine st_seq (st_if P (et_cmp (ev_eq flat_str (ev_var (τ := yStr) rfl h_sign) ev_str)) (fun b_194 Z1 H1 e P1 => ?_) (fun b_194 Z1 H1 e P1 => ?_))
          · replace P := P1
            have hB := ifT b_194 hF
            replace hF := hB
            clear hB
            replace h_worth := ((y_Val T)).mono e.z h_worth
            replace h_other := ((y_Val T)).mono e.z h_other
            obtain ⟨g_195, hF⟩ := guard_inv hF
            replace hF := Option.some.inj hF
            subst hF
            refine st_ret P (ev_cmpV (tv_Val T) (sameB_of g_195) (ev_var (τ := (y_Val T)) rfl h_worth) (ev_var (τ := (y_Val T)) rfl h_other)) (fun v Z1 H1 P1 hv => ?_)
            exact q v _ _ P1.st hv
          · replace P := P1
            have hB := ifF b_194 hF
            replace hF := hB
            clear hB
            refine st_next0 ?_
            replace h_worth := ((y_Val T)).mono e.z h_worth
            replace h_other := ((y_Val T)).mono e.z h_other
            refine st_seq (st_if P (et_cmp (ev_eq flat_str (ev_var (τ := yStr) rfl h_sign) ev_str)) (fun b_196 Z1 H1 e P1 => ?_) (fun b_196 Z1 H1 e P1 => ?_))
            · replace P := P1
              have hB := ifT b_196 hF
              replace hF := hB
              clear hB
              replace h_worth := ((y_Val T)).mono e.z h_worth
              replace h_other := ((y_Val T)).mono e.z h_other
              obtain ⟨g_197, hF⟩ := guard_inv hF
              replace hF := Option.some.inj hF
              subst hF
              refine st_ret P (ev_cmpV (tv_Val T) (sameB_of g_197) (ev_var (τ := (y_Val T)) rfl h_worth) (ev_var (τ := (y_Val T)) rfl h_other)) (fun v Z1 H1 P1 hv => ?_)
              exact q v _ _ P1.st hv
            · replace P := P1
              have hB := ifF b_196 hF
              replace hF := hB
              clear hB
              refine st_next0 ?_
              replace h_worth := ((y_Val T)).mono e.z h_worth
              replace h_other := ((y_Val T)).mono e.z h_other
              refine st_seq (st_if P (et_cmp (ev_eq flat_str (ev_var (τ := yStr) rfl h_sign) ev_str)) (fun b_198 Z1 H1 e P1 => ?_) (fun b_198 Z1 H1 e P1 => ?_))
              · replace P := P1
                have hB := ifT b_198 hF
                replace hF := hB
                clear hB
                replace h_worth := ((y_Val T)).mono e.z h_worth
                replace h_other := ((y_Val T)).mono e.z h_other
                obtain ⟨g_199, hF⟩ := guard_inv hF
                replace hF := Option.some.inj hF
                subst hF
                refine st_ret P (ev_cmpV (tv_Val T) (sameB_of g_199) (ev_var (τ := (y_Val T)) rfl h_worth) (ev_var (τ := (y_Val T)) rfl h_other)) (fun v Z1 H1 P1 hv => ?_)
                exact q v _ _ P1.st hv
              · replace P := P1
                have hB := ifF b_198 hF
                replace hF := hB
                clear hB
                refine st_next0 ?_
                replace h_worth := ((y_Val T)).mono e.z h_worth
                replace h_other := ((y_Val T)).mono e.z h_other
                obtain ⟨g_200, hF⟩ := guard_inv hF
                replace hF := Option.some.inj hF
                subst hF
                refine st_ret P (ev_cmpV (tv_Val T) (sameB_of g_200) (ev_var (τ := (y_Val T)) rfl h_worth) (ev_var (τ := (y_Val T)) rfl h_other)) (fun v Z1 H1 P1 hv => ?_)
                exact q v _ _ P1.st hv
theorem cs_satisfies (T : Txt K mg) {μ : Type} {M : Mu μ} {s : μ} {E : XK} {x_worth : Val} {x_sign : Str} {x_other : Val} {y : Bool} (h : F_satisfies x_worth x_sign x_other = some y) : CallS M (sp_satisfies T) E (rac (ty (y_Val T) x_worth) (rac (ty yStr x_sign) (rac (ty (y_Val T) x_other) ra0))) s (ty yBool y) s := by
  rintro Z H vs sz m ⟨v_worth, _, rfl, h_worth, ⟨v_sign, _, rfl, h_sign, ⟨v_other, _, rfl, h_other, rfl⟩⟩⟩ Q q
  exact ⟨Z, v_worth, v_sign, v_other, x_worth, x_sign, x_other, y, rfl, sz, h_worth, h_sign, h_other, h, fun v Z2 H2 st hv => q v Z2 H2 st.pure (M.pure st m) hv⟩
def sp_same_value (T : Txt K mg) : Sp := fun vs H Q _ => ∃ (Z0 : Hp) (v_one : V) (v_other : V) (x_one : Val) (x_other : Val), vs = [v_one, v_other] ∧ (Same Z0 H) ∧ (((y_Val T)).r Z0 v_one x_one) ∧ (((y_Val T)).r Z0 v_other x_other) ∧ ∀ v Z' H', Step [] Z0 H Z' H' → (yBool).r Z' v (F_same_value x_one x_other) → Q v H'
set_option maxHeartbeats 4000000 in
theorem ok_same_value (T : Txt K mg) : FnOk P w K mg base CX0 2 T.f_same_value T.d_same_value ["one", "other"] (sp_same_value T) := by
  have G_kind_of_value : FnOk P w K mg base CX0 1 T.f_kind_of_value T.d_kind_of_value ["worth"] (sp_kind_of_value T) := ok_kind_of_value T
  refine T.F_same_value.ok sc_same_value (fun vs H Q E h => ?_) (fun cdv A outer s H vs Q E hr h => ?_)
  · obtain ⟨Z0, v_one, v_other, x_one, x_other, rfl, _⟩ := h
    rfl
  · obtain ⟨Z0, v_one, v_other, x_one, x_other, rfl, sz, h_one, h_other, q⟩ := h
    refine ⟨_, (pss_one (ps_ret (pe_and (pe_cmpR op_eq (pe_call G_kind_of_value (hr.mono (by decide)) (by rfl) T.g_kind_of_value T.F_kind_of_value.kp T.b_kind_of_value .nil pass0 (pa_cons (pv 0) pa_nil)) (pe_call G_kind_of_value (hr.mono (by decide)) (by rfl) T.g_kind_of_value T.F_kind_of_value.kp T.b_kind_of_value .nil pass0 (pa_cons (pv 1) pa_nil)) (nomark _)) (pe_one (pe_cmpR (op_eqD hr.units) (pv 0) (pv 1) (nomark _)))))), ?_⟩
    have P := Pt.start0 sz
    generalize hF : F_same_value x_one x_other = y at q
    unfold F_same_value at hF
    subst hF
    refine st_ret P (ev_and0 (ev_eq flat_str (ev_call (cs_kind_of_value T) (eva_cons (ev_var (τ := (y_Val T)) rfl h_one) eva_nil)) (ev_call (cs_kind_of_value T) (eva_cons (ev_var (τ := (y_Val T)) rfl h_other) eva_nil))) (ev_eqW (EqW.gd (eqw_Val T) _) (EqW.gd (eqw_Val T) _) (EqW.dpt (K := K) (τ := (y_Val T)) (eqw_Val T) (by decide) _) (EqW.dpt (K := K) (τ := (y_Val T)) (eqw_Val T) (by decide) _) (ev_var (τ := (y_Val T)) rfl h_one) (ev_var (τ := (y_Val T)) rfl h_other))) (fun v Z1 H1 P1 hv => ?_)
    exact q v _ _ P1.st hv
theorem cs_same_value (T : Txt K mg) {μ : Type} {M : Mu μ} {s : μ} {E : XK} {x_one : Val} {x_other : Val} : CallS M (sp_same_value T) E (rac (ty (y_Val T) x_one) (rac (ty (y_Val T) x_other) ra0)) s (ty yBool (F_same_value x_one x_other)) s := by
  rintro Z H vs sz m ⟨v_one, _, rfl, h_one, ⟨v_other, _, rfl, h_other, rfl⟩⟩ Q q
  exact ⟨Z, v_one, v_other, x_one, x_other, rfl, sz, h_one, h_other, fun v Z2 H2 st hv => q v Z2 H2 st.pure (M.pure st m) hv⟩
def sp_is_among (T : Txt K mg) : Sp := fun vs H Q _ => ∃ (Z0 : Hp) (v_worth : V) (v_choices : V) (x_worth : Val) (x_choices : (List Val)), vs = [v_worth, v_choices] ∧ (Same Z0 H) ∧ (((y_Val T)).r Z0 v_worth x_worth) ∧ (((yTup K (y_Val T))).r Z0 v_choices x_choices) ∧ ∀ v Z' H', Step [] Z0 H Z' H' → (yBool).r Z' v (F_is_among x_worth x_choices) → Q v H'
set_option maxHeartbeats 4000000 in
theorem ok_is_among (T : Txt K mg) : FnOk P w K mg base CX0 3 T.f_is_among T.d_is_among ["worth", "choices"] (sp_is_among T) := by
  have G_same_value : FnOk P w K mg base CX0 2 T.f_same_value T.d_same_value ["one", "other"] (sp_same_value T) := ok_same_value T
  refine T.F_is_among.ok sc_is_among (fun vs H Q E h => ?_) (fun cdv A outer s H vs Q E hr h => ?_)
  · obtain ⟨Z0, v_worth, v_choices, x_worth, x_choices, rfl, _⟩ := h
    rfl
  · obtain ⟨Z0, v_worth, v_choices, x_worth, x_choices, rfl, sz, h_worth, h_choices, q⟩ := h
    refine ⟨_, (pss_one (ps_ret (pe_callB (cr_any rfl) (by rfl) T.m_any (by decide +kernel) (pa_cons (pe_lc (own := [("choice", 2)]) (g := gName 2) rfl sc_is_among.nd (pi_tup (pv 1)) (blkOk_by (own := [("choice", 2)]) (N := ["worth", "choices", "choice"]) (sc := defScope s_is_among) (by decide +kernel)) (fun _ _ _ _ _ => (pg_name (i := 2) sc_is_among.nd rfl (Or.inl rfl))) (fun _ _ _ _ _ => pts_nil) (fun _ _ _ _ _ => (pe_call G_same_value (hr.mono (by decide)) (by rfl) T.g_same_value T.F_same_value.kp T.b_same_value .nil pass0 (pa_cons (pv 0) (pa_cons (pv 2) pa_nil))))) pa_nil)))), ?_⟩
    have P := Pt.start0 sz
    generalize hF : F_is_among x_worth x_choices = y at q
    unfold F_is_among at hF
    subst hF
    refine st_ret P (ev_anyL (ev_li (ev_fz (en_map (υ := yBool) (fun (x_201 : Val) => (F_same_value x_worth x_201)) (ei_tup (ev_var (τ := (yTup K (y_Val T))) rfl h_choices)) (fun x_201 v_202 Z' H' zz hh rx_203 => by
          replace h_worth := ((y_Val T)).mono zz h_worth
          exact ⟨_, tgt_name, (wpe_s wpe_z (by decide)), (ev_call (cs_same_value T) (eva_cons (ev_var (τ := (y_Val T)) rfl h_worth) (eva_cons (ev_var (τ := (y_Val T)) rfl rx_203) eva_nil)))⟩))))) (fun v Z1 H1 P1 hv => ?_)
    exact q v _ _ P1.st hv
theorem cs_is_among (T : Txt K mg) {μ : Type} {M : Mu μ} {s : μ} {E : XK} {x_worth : Val} {x_choices : (List Val)} : CallS M (sp_is_among T) E (rac (ty (y_Val T) x_worth) (rac (ty (yTup K (y_Val T)) x_choices) ra0)) s (ty yBool (F_is_among x_worth x_choices)) s := by
  rintro Z H vs sz m ⟨v_worth, _, rfl, h_worth, ⟨v_choices, _, rfl, h_choices, rfl⟩⟩ Q q
  exact ⟨Z, v_worth, v_choices, x_worth, x_choices, rfl, sz, h_worth, h_choices, fun v Z2 H2 st hv => q v Z2 H2 st.pure (M.pure st m) hv⟩
def sp_value_passes (T : Txt K mg) : Sp := fun vs H Q _ => ∃ (Z0 : Hp) (v_worth : V) (v_condition : V) (x_worth : Val) (x_condition : Cond) (y : Bool), vs = [v_worth, v_condition] ∧ (Same Z0 H) ∧ (((y_Val T)).r Z0 v_worth x_worth) ∧ (((y_Cond T)).r Z0 v_condition x_condition) ∧ (F_value_passes x_worth x_condition = some y) ∧ ∀ v Z' H', Step [] Z0 H Z' H' → (yBool).r Z' v y → Q v H'
set_option maxHeartbeats 4000000 in
theorem ok_value_passes (T : Txt K mg) : FnOk P w K mg base CX0 4 T.f_value_passes T.d_value_passes ["worth", "condition"] (sp_value_passes T) := by
  have G_satisfies : FnOk P w K mg base CX0 2 T.f_satisfies T.d_satisfies ["worth", "sign", "other"] (sp_satisfies T) := ok_satisfies T
  have G_is_among : FnOk P w K mg base CX0 3 T.f_is_among T.d_is_among ["worth", "choices"] (sp_is_among T) := ok_is_among T
  refine T.F_value_passes.ok sc_value_passes (fun vs H Q E h => ?_) (fun cdv A outer s H vs Q E hr h => ?_)
  · obtain ⟨Z0, v_worth, v_condition, x_worth, x_condition, y, rfl, _⟩ := h
    rfl
  · obtain ⟨Z0, v_worth, v_condition, x_worth, x_condition, y, rfl, sz, h_worth, h_condition, hF, q⟩ := h
    refine ⟨_, (pss_cons (ps_if (pt_val (pe_callB call_isi (by rfl) T.m_isinstance (by decide +kernel) (pa_cons (pv 1) (pa_cons (pe_glob (v := .ref T.c_OneOf) rfl T.mc_OneOf rfl) pa_nil)))) (pss_one (ps_ret (pe_call G_is_among (hr.mono (by decide)) (by rfl) T.g_is_among T.F_is_among.kp T.b_is_among .nil pass0 (pa_cons (pv 0) (pa_cons (pe_fld (pv 1) rfl) pa_nil))))) pss_nil) 
      (pss_one (ps_ret (pe_call G_satisfies (hr.mono (by decide)) (by rfl) T.g_satisfies T.F_satisfies.kp T.b_satisfies .nil pass0 (pa_cons (pv 0) (pa_cons (pe_fld (pv 1) rfl) (pa_cons (pe_fld (pv 1) rfl) pa_nil))))))), ?_⟩
    have P := Pt.start0 sz
    unfold F_value_passes at hF
    refine st_seq (st_if P (et_val (ev_isi (b := x_condition.is_OneOf) (fun _ _ _ h => h) (ev_var (τ := (y_Cond T)) rfl h_condition) (tx_Cond T) (.own _) (kit_Cond_OneOf T _))) (fun b_207 Z1 H1 e P1 => ?_) (fun b_207 Z1 H1 e P1 => ?_))
    · replace P := P1
      have hB := ifT b_207 hF
      replace hF := hB
      clear hB
      replace h_worth := ((y_Val T)).mono e.z h_worth
      replace h_condition := ((y_Cond T)).mono e.z h_condition
      obtain ⟨u_208, h_209, hF⟩ := bind_inv hF
      replace hF := Option.some.inj hF
      subst hF
      refine st_ret P (ev_call (cs_is_among T) (eva_cons (ev_var (τ := (y_Val T)) rfl h_worth) (eva_cons (ev_fld (fo_OneOf_choices T) T.cl_OneOf T.n_OneOf_choices (pj_Cond_one T (ev_var (τ := (y_Cond T)) rfl h_condition) h_209)) eva_nil))) (fun v Z1 H1 P1 hv => ?_)
      exact q v _ _ P1.st hv
    · replace P := P1
      have hB := ifF b_207 hF
      replace hF := hB
      clear hB
      refine st_next0 ?_
      replace h_worth := ((y_Val T)).mono e.z h_worth
      replace h_condition := ((y_Cond T)).mono e.z h_condition
      obtain ⟨a_210, h_211, hF⟩ := bind_inv hF
      obtain ⟨a_212, h_213, hF⟩ := bind_inv hF
      obtain ⟨r_214, h_215, hF⟩ := bind_inv hF
      replace hF := Option.some.inj hF
      subst hF
      refine st_ret P (ev_call (cs_satisfies T h_215) (eva_cons (ev_var (τ := (y_Val T)) rfl h_worth) (eva_cons (fs_Cond_sign T (ev_var (τ := (y_Cond T)) rfl h_condition) h_211) (eva_cons (fs_Cond_value T (ev_var (τ := (y_Cond T)) rfl h_condition) h_213) eva_nil)))) (fun v Z1 H1 P1 hv => ?_)
      exact q v _ _ P1.st hv
theorem cs_value_passes (T : Txt K mg) {μ : Type} {M : Mu μ} {s : μ} {E : XK} {x_worth : Val} {x_condition : Cond} {y : Bool} (h : F_value_passes x_worth x_condition = some y) : CallS M (sp_value_passes T) E (rac (ty (y_Val T) x_worth) (rac (ty (y_Cond T) x_condition) ra0)) s (ty yBool y) s := by
  rintro Z H vs sz m ⟨v_worth, _, rfl, h_worth, ⟨v_condition, _, rfl, h_condition, rfl⟩⟩ Q q
  exact ⟨Z, v_worth, v_condition, x_worth, x_condition, y, rfl, sz, h_worth, h_condition, h, fun v Z2 H2 st hv => q v Z2 H2 st.pure (M.pure st m) hv⟩
def sp_Values_outcomes (T : Txt K mg) : Sp := fun vs H Q _ => ∃ (Z0 : Hp) (v_self : V) (v_condition : V) (x_self : Values) (x_condition : Cond) (y : (Option (Bool × Bool))), vs = [v_self, v_condition] ∧ (Same Z0 H) ∧ (((y_Values T)).r Z0 v_self x_self) ∧ (((y_Cond T)).r Z0 v_condition x_condition) ∧ (F_Values_outcomes x_self x_condition = some y) ∧ ∀ v Z' H', Step [] Z0 H Z' H' → ((yOpt (yP2 K yBool yBool))).r Z' v y → Q v H'
set_option maxHeartbeats 4000000 in
theorem ok_Values_outcomes (T : Txt K mg) : FnOk P w K mg base CX0 5 T.f_Values_outcomes T.d_Values_outcomes ["self", "condition"] (sp_Values_outcomes T) := by
  have G_value_passes : FnOk P w K mg base CX0 4 T.f_value_passes T.d_value_passes ["worth", "condition"] (sp_value_passes T) := ok_value_passes T
  have G_outcomes_of_lack : FnOk P w K mg base CX0 1 T.f_outcomes_of_lack T.d_outcomes_of_lack ["lack"] (sp_outcomes_of_lack T) := ok_outcomes_of_lack T
  refine T.F_Values_outcomes.ok sc_Values_outcomes (fun vs H Q E h => ?_) (fun cdv A outer s H vs Q E hr h => ?_)
  · obtain ⟨Z0, v_self, v_condition, x_self, x_condition, y, rfl, _⟩ := h
    rfl
  · obtain ⟨Z0, v_self, v_condition, x_self, x_condition, y, rfl, sz, h_self, h_condition, hF, q⟩ := h
    refine ⟨_, (pss_cons (ps_if (pt_cmpR op_ne (pe_fld (pv 1) rfl) (pe_fld (pv 0) rfl) (nomark _)) (pss_one (ps_ret pe_non)) pss_nil) 
      (pss_cons (ps_if (PW.pt (pw_or (pt_cmpR op_eq (pe_fld (pv 0) rfl) pe_str (nomark _)) (pw_or1 (pt_val (pe_callB call_isi (by rfl) T.m_isinstance (by decide +kernel) (pa_cons (pv 1) (pa_cons (pe_glob (v := .ref T.c_Has) rfl T.mc_Has rfl) pa_nil))))))) (pss_one (ps_ret (pe_call G_outcomes_of_lack (hr.mono (by decide)) (by rfl) T.g_outcomes_of_lack T.F_outcomes_of_lack.kp T.b_outcomes_of_lack .nil pass0 (pa_cons (pe_fld (pv 0) rfl) pa_nil)))) pss_nil) 
      (pss_cons (ps_setLc (i := 2) (own := [("worth", 3)]) (g := gName 3) rfl sc_Values_outcomes.nd rfl rfl (sw_true rfl rfl rfl (by decide +kernel)) (pi_tup (pe_fld (pv 0) rfl)) (blkOk_by (own := [("worth", 3)]) (N := ["self", "condition", "passed", "worth"]) (sc := defScope s_Values_outcomes) (by decide +kernel)) (fun _ _ _ _ _ => (pg_name (i := 3) sc_Values_outcomes.nd rfl (Or.inl rfl))) (fun _ _ _ _ _ => pts_nil) (fun _ _ _ _ _ => (pe_call G_value_passes (hr.mono (by decide)) (by rfl) T.g_value_passes T.F_value_passes.kp T.b_value_passes .nil pass0 (pa_cons (pv 3) (pa_cons (pv 1) pa_nil))))) 
      (pss_one (ps_ret (pe_tup (pa_cons (pe_cmpR (op_inD (u65 hr)) pe_bl (pv 2) rfl) (pa_cons (pe_or (pe_cmpR (op_inD (u65 hr)) pe_bl (pv 2) rfl) (pe_one (pe_cmpR op_eq (pe_fld (pv 0) rfl) pe_str (nomark _)))) pa_nil)))))))), ?_⟩
    have P := Pt.start0 sz
    unfold F_Values_outcomes at hF
    obtain ⟨a_227, h_228, hF⟩ := bind_inv hF
    refine st_seq (st_if P (et_cmp (ev_ne flat_str (fs_Cond_field T (ev_var (τ := (y_Cond T)) rfl h_condition) h_228) (ev_fld (fo_Values_field T) T.cl_Values T.n_Values_field (ev_var (τ := (y_Values T)) rfl h_self)))) (fun b_229 Z1 H1 e P1 => ?_) (fun b_229 Z1 H1 e P1 => ?_))
    · replace P := P1
      have hB := ifT b_229 hF
      replace hF := hB
      clear hB
      replace hF := Option.some.inj hF
      subst hF
      refine st_ret P (ev_none (τ := (yP2 K yBool yBool)) ev_non) (fun v Z1 H1 P1 hv => ?_)
      exact q v _ _ P1.st hv
    · replace P := P1
      have hB := ifF b_229 hF
      replace hF := hB
      clear hB
      refine st_next0 ?_
      replace h_self := ((y_Values T)).mono e.z h_self
      replace h_condition := ((y_Cond T)).mono e.z h_condition
      refine st_seq (st_if P (et_or0 (et_cmp (ev_eq flat_str (ev_fld (fo_Values_lack T) T.cl_Values T.n_Values_lack (ev_var (τ := (y_Values T)) rfl h_self)) ev_str)) (et_val (ev_isi (b := x_condition.is_Has) (fun _ _ _ h => h) (ev_var (τ := (y_Cond T)) rfl h_condition) (tx_Cond T) (.own _) (kit_Cond_Has T _)))) (fun b_230 Z1 H1 e P1 => ?_) (fun b_230 Z1 H1 e P1 => ?_))
      · replace P := P1
        have hB := ifT b_230 hF
        replace hF := hB
        clear hB
        replace h_self := ((y_Values T)).mono e.z h_self
        replace hF := Option.some.inj hF
        subst hF
        refine st_ret P (ev_some nn_p2 (ev_call (cs_outcomes_of_lack T) (eva_cons (ev_fld (fo_Values_lack T) T.cl_Values T.n_Values_lack (ev_var (τ := (y_Values T)) rfl h_self)) eva_nil))) (fun v Z1 H1 P1 hv => ?_)
        exact q v _ _ P1.st hv
      · replace P := P1
        have hB := ifF b_230 hF
        replace hF := hB
        clear hB
        refine st_next0 ?_
        replace h_self := ((y_Values T)).mono e.z h_self
        replace h_condition := ((y_Cond T)).mono e.z h_condition
        obtain ⟨l_236, h_237, hF⟩ := bind_inv hF
        refine st_seq (st_set P (ev_fz (en_mapO (υ := yBool) (fun (x_231 : Val) => ((F_value_passes x_231 x_condition).bind fun r_234 =>
        some r_234 : Option Bool)) (ei_tup (ev_fld (fo_Values_choices T) T.cl_Values T.n_Values_choices (ev_var (τ := (y_Values T)) rfl h_self))) (fun x_231 v_232 Z' H' p zz hh rx_233 hp => by
              replace h_condition := ((y_Cond T)).mono zz h_condition
              have hy := hp
              obtain ⟨r_234, h_235, hy⟩ := bind_inv hy
              have hy := Option.some.inj hy
              subst hy
              exact ⟨_, tgt_name, (wpe_s wpe_z (by decide)), (ev_call (cs_value_passes T h_235) (eva_cons (ev_var (τ := (y_Val T)) rfl rx_233) (eva_cons (ev_var (τ := (y_Cond T)) rfl h_condition) eva_nil)))⟩) h_237)) (fun v_238 Z1 H1 e P1 k_239 => ?_))
        refine st_nx ?_
        replace P := P1
        replace h_self := ((y_Values T)).mono e.z h_self
        replace hF := Option.some.inj hF
        subst hF
        refine st_ret P (ev_some nn_p2 (ev_p2 (K := K) (eva_cons (ev_inW eqd_bool.w (by decide) ev_bl (ev_li (ev_var (τ := (yList yBool)) rfl k_239))) (eva_cons (ev_or0 (ev_inW eqd_bool.w (by decide) ev_bl (ev_li (ev_var (τ := (yList yBool)) rfl k_239))) (ev_eq flat_str (ev_fld (fo_Values_lack T) T.cl_Values T.n_Values_lack (ev_var (τ := (y_Values T)) rfl h_self)) ev_str)) eva_nil)))) (fun v Z1 H1 P1 hv => ?_)
        exact q v _ _ P1.st hv
theorem cs_Values_outcomes (T : Txt K mg) {μ : Type} {M : Mu μ} {s : μ} {E : XK} {x_self : Values} {x_condition : Cond} {y : (Option (Bool × Bool))} (h : F_Values_outcomes x_self x_condition = some y) : CallS M (sp_Values_outcomes T) E (rac (ty (y_Values T) x_self) (rac (ty (y_Cond T) x_condition) ra0)) s (ty (yOpt (yP2 K yBool yBool)) y) s := by
  rintro Z H vs sz m ⟨v_self, _, rfl, h_self, ⟨v_condition, _, rfl, h_condition, rfl⟩⟩ Q q
  exact ⟨Z, v_self, v_condition, x_self, x_condition, y, rfl, sz, h_self, h_condition, h, fun v Z2 H2 st hv => q v Z2 H2 st.pure (M.pure st m) hv⟩
def sp_outcomes_on_field (T : Txt K mg) : Sp := fun vs H Q _ => ∃ (Z0 : Hp) (v_condition : V) (v_facts : V) (x_condition : Cond) (x_facts : (List Fa)) (y : (Bool × Bool)), vs = [v_condition, v_facts] ∧ (Same Z0 H) ∧ (((y_Cond T)).r Z0 v_condition x_condition) ∧ (((yList (y_Fa T))).r Z0 v_facts x_facts) ∧ (F_outcomes_on_field x_condition x_facts = some y) ∧ ∀ v Z' H', Step [] Z0 H Z' H' → ((yP2 K yBool yBool)).r Z' v y → Q v H'
set_option maxHeartbeats 4000000 in
theorem ok_outcomes_on_field (T : Txt K mg) : FnOk P w K mg base CX0 6 T.f_outcomes_on_field T.d_outcomes_on_field ["condition", "facts"] (sp_outcomes_on_field T) := by
  have G_Range_outcomes : FnOk P w K mg base CX0 3 T.f_Range_outcomes T.d_Range_outcomes ["self", "condition"] (sp_Range_outcomes T) := ok_Range_outcomes T
  have G_Values_outcomes : FnOk P w K mg base CX0 5 T.f_Values_outcomes T.d_Values_outcomes ["self", "condition"] (sp_Values_outcomes T) := ok_Values_outcomes T
  have G_Fact_outcomes : FnOk P w K mg base CX0 1 T.f_Fact_outcomes T.d_Fact_outcomes ["self", "condition"] (sp_Fact_outcomes T) := ok_Fact_outcomes T
  refine T.F_outcomes_on_field.ok sc_outcomes_on_field (fun vs H Q E h => ?_) (fun cdv A outer s H vs Q E hr h => ?_)
  · obtain ⟨Z0, v_condition, v_facts, x_condition, x_facts, y, rfl, _⟩ := h
    rfl
  · obtain ⟨Z0, v_condition, v_facts, x_condition, x_facts, y, rfl, sz, h_condition, h_facts, hF, q⟩ := h
    refine ⟨_, (pss_cons (ps_setLc (i := 2) (own := [("fact", 3)]) (g := gName 3) rfl sc_outcomes_on_field.nd rfl rfl (sw_true rfl rfl rfl (by decide +kernel)) (pi_list (pv 1)) (blkOk_by (own := [("fact", 3)]) (N := ["condition", "facts", "outcomes", "fact", "told", "outcome", "passed", "_", "failed"]) (sc := defScope s_outcomes_on_field) (by decide +kernel)) (fun _ _ _ _ _ => (pg_name (i := 3) sc_outcomes_on_field.nd rfl (Or.inl rfl))) (fun _ _ _ _ _ => pts_nil) (fun _ _ _ _ _ => (pe_or2 (pe_meth (pv 3) T.cl_Range T.me_Range_outcomes G_Range_outcomes (hr.mono (by decide)) T.b_Range_outcomes .nil pass0 (pa_cons (pv 0) pa_nil)) (pe_or2 (pe_meth (pv 3) T.cl_Values T.me_Values_outcomes G_Values_outcomes (hr.mono (by decide)) T.b_Values_outcomes .nil pass0 (pa_cons (pv 0) pa_nil)) (pe_or2 (pe_meth (pv 3) T.cl_Norms T.me_Norms_outcomes G_Fact_outcomes (hr.mono (by decide)) T.b_Fact_outcomes .nil pass0 (pa_cons (pv 0) pa_nil)) (pe_or2 (pe_meth (pv 3) T.cl_Names T.me_Names_outcomes G_Fact_outcomes (hr.mono (by decide)) T.b_Fact_outcomes .nil pass0 (pa_cons (pv 0) pa_nil)) (pe_meth (pv 3) T.cl_Box T.me_Box_outcomes G_Fact_outcomes (hr.mono (by decide)) T.b_Fact_outcomes .nil pass0 (pa_cons (pv 0) pa_nil)))))))) 
      (pss_cons (ps_setLc (i := 4) (own := [("outcome", 5)]) (g := gName 5) rfl sc_outcomes_on_field.nd rfl rfl (sw_true rfl rfl rfl (by decide +kernel)) (pi_list (pv 2)) (blkOk_by (own := [("outcome", 5)]) (N := ["condition", "facts", "outcomes", "fact", "told", "outcome", "passed", "_", "failed"]) (sc := defScope s_outcomes_on_field) (by decide +kernel)) (fun _ _ _ _ _ => (pg_name (i := 5) sc_outcomes_on_field.nd rfl (Or.inl rfl))) (fun _ _ _ _ _ => (by exact pts_one (pt_cmpR op_notN (pv 5) pe_non (nomark _)))) (fun _ _ _ _ _ => (pv 5))) 
      (pss_one (ps_ret (pe_tup (pa_cons (pe_callB (cr_all rfl) (by rfl) T.m_all (by decide +kernel) (pa_cons (pe_lc (own := [("passed", 6), ("_", 7)]) (g := gTup K 2 (gCons (gName 6) (gCons (gName 7) gNil))) rfl sc_outcomes_on_field.nd (pi_list (pv 4)) (blkOk_by (own := [("passed", 6), ("_", 7)]) (N := ["condition", "facts", "outcomes", "fact", "told", "outcome", "passed", "_", "failed"]) (sc := defScope s_outcomes_on_field) (by decide +kernel)) (fun _ _ _ _ _ => (by exact (pg_tup rfl (pgs_cons (pg_name (i := 6) sc_outcomes_on_field.nd rfl (Or.inl rfl)) (pgs_cons (pg_name (i := 7) sc_outcomes_on_field.nd rfl (Or.inl rfl)) pgs_nil))))) (fun _ _ _ _ _ => pts_nil) (fun _ _ _ _ _ => (pv 6))) pa_nil)) (pa_cons (pe_callB (cr_all rfl) (by rfl) T.m_all (by decide +kernel) (pa_cons (pe_lc (own := [("_", 7), ("failed", 8)]) (g := gTup K 2 (gCons (gName 7) (gCons (gName 8) gNil))) rfl sc_outcomes_on_field.nd (pi_list (pv 4)) (blkOk_by (own := [("_", 7), ("failed", 8)]) (N := ["condition", "facts", "outcomes", "fact", "told", "outcome", "passed", "_", "failed"]) (sc := defScope s_outcomes_on_field) (by decide +kernel)) (fun _ _ _ _ _ => (by exact (pg_tup rfl (pgs_cons (pg_name (i := 7) sc_outcomes_on_field.nd rfl (Or.inl rfl)) (pgs_cons (pg_name (i := 8) sc_outcomes_on_field.nd rfl (Or.inl rfl)) pgs_nil))))) (fun _ _ _ _ _ => pts_nil) (fun _ _ _ _ _ => (pv 8))) pa_nil)) pa_nil))))))), ?_⟩
    have P := Pt.start0 sz
    unfold F_outcomes_on_field at hF
    refine st_norm (by dsimp only [List.set, L2.start, List.map, List.length, List.replicate, List.cons_append, List.nil_append, Nat.reduceSub, Nat.reduceAdd]) ?_
    obtain ⟨l_252, h_253, hF⟩ := bind_inv hF
    refine st_seq (st_set P (ev_fz (en_mapO (υ := (yOpt (yP2 K yBool yBool))) (fun (x_247 : Fa) => ((A_outcomes_on_field_2 x_247 x_condition).bind fun r_250 =>
    some r_250 : Option (Option (Bool × Bool)))) (ei_list (ev_var (τ := (yList (y_Fa T))) rfl h_facts)) (fun x_247 v_248 Z' H' p zz hh rx_249 hp => by
          replace h_condition := ((y_Cond T)).mono zz h_condition
          have hy := hp
          obtain ⟨r_250, h_251, hy⟩ := bind_inv hy
          have hy := Option.some.inj hy
          subst hy
          exact ⟨_, tgt_name, (wpe_s wpe_z (by decide)), (match (generalizing := false) x_247, (ev_var (τ := (y_Fa T)) rfl rx_249), h_251 with
              | .range y, ha, h => (ev_orl (ev_meth (oo_Range T (by decide +kernel)) (cs_Range_outcomes T h) (ha.weak (R' := ty (y_Range T) y) fun _ _ _ _ e => e) (eva_cons (ev_var (τ := (y_Cond T)) rfl h_condition) eva_nil)))
              | .values y, ha, h => (ev_orr (ev_orl (ev_meth (oo_Values T (by decide +kernel)) (cs_Values_outcomes T h) (ha.weak (R' := ty (y_Values T) y) fun _ _ _ _ e => e) (eva_cons (ev_var (τ := (y_Cond T)) rfl h_condition) eva_nil))))
              | .norms y, ha, h => (ev_orr (ev_orr (ev_orl (by cases h; exact ev_meth (oo_Norms T (by decide +kernel)) (callS_ghost (cs_Fact_outcomes T)) (ha.weak (R' := ty (y_Norms T) y) fun _ _ _ _ e => e) (eva_cons (ev_var (τ := (y_Cond T)) rfl h_condition) eva_nil)))))
              | .names y, ha, h => (ev_orr (ev_orr (ev_orr (ev_orl (by cases h; exact ev_meth (oo_Names T (by decide +kernel)) (callS_ghost (cs_Fact_outcomes T)) (ha.weak (R' := ty (y_Names T) y) fun _ _ _ _ e => e) (eva_cons (ev_var (τ := (y_Cond T)) rfl h_condition) eva_nil))))))
              | .box y, ha, h => (ev_orr (ev_orr (ev_orr (ev_orr (by cases h; exact ev_meth (oo_Box T (by decide +kernel)) (callS_ghost (cs_Fact_outcomes T)) (ha.weak (R' := ty (y_Box T) y) fun _ _ _ _ e => e) (eva_cons (ev_var (τ := (y_Cond T)) rfl h_condition) eva_nil)))))))⟩) h_253)) (fun v_254 Z1 H1 e P1 k_255 => ?_))
    refine st_nx ?_
    replace P := P1
    refine st_norm (by dsimp only [List.set, L2.start, List.map, List.length, List.replicate, List.cons_append, List.nil_append, Nat.reduceSub, Nat.reduceAdd]) ?_
    obtain ⟨l_261, h_262, hF⟩ := bind_inv hF
    refine st_seq (st_set P (ev_fz (en_fmO (υ := (yP2 K yBool yBool)) (fun (x_256 : (Option (Bool × Bool))) => (if x_256.isSome = true then ((x_256).bind fun u_259 =>
    some (some u_259)) else some none : Option (Option (Bool × Bool)))) (ei_list (ev_var (τ := (yList (yOpt (yP2 K yBool yBool)))) rfl k_255)) (fun x_256 v_257 Z' H' p zz hh rx_258 hp => by
          have hy := hp
          cases hb : x_256.isSome
          · have hy := ifF hb hy
            have hy := Option.some.inj hy
            subst hy
            exact ⟨_, tgt_name, (wpe_s wpe_z (by decide)), false, hb ▸ (et_cmp (ev_notN (ev_var (τ := (yOpt (yP2 K yBool yBool))) rfl rx_258) ev_non)), (fun z => nomatch z), fun _ => rfl⟩
          · have hy := ifT hb hy
            obtain ⟨u_259, h_260, hy⟩ := bind_inv hy
            have hy := Option.some.inj hy
            subst hy
            exact ⟨_, tgt_name, (wpe_s wpe_z (by decide)), true, hb ▸ (et_cmp (ev_notN (ev_var (τ := (yOpt (yP2 K yBool yBool))) rfl rx_258) ev_non)), fun _ => ⟨_, rfl, (ev_uno (ev_var (τ := (yOpt (yP2 K yBool yBool))) rfl rx_258) h_260)⟩, fun z => nomatch z⟩) h_262)) (fun v_263 Z1 H1 e P1 k_264 => ?_))
    refine st_nx ?_
    replace P := P1
    refine st_norm (by dsimp only [List.set, L2.start, List.map, List.length, List.replicate, List.cons_append, List.nil_append, Nat.reduceSub, Nat.reduceAdd]) ?_
    replace hF := Option.some.inj hF
    subst hF
    refine st_ret P (ev_p2 (K := K) (eva_cons (ev_allL (ev_li (ev_fz (en_map (υ := yBool) (fun (x_265 : (Bool × Bool)) => x_265.1) (ei_list (ev_var (τ := (yList (yP2 K yBool yBool))) rfl k_264)) (fun x_265 v_266 Z' H' zz hh rx_267 => by
          obtain ⟨v_268, v_269, k_270, k_271, tg_272⟩ := tgt_p2 rx_267
          exact ⟨_, (tg_272 tgt_name tgt_name), (wpe_s (wpe_s wpe_z (by decide)) (by decide)), (ev_var (τ := yBool) rfl k_270)⟩))))) (eva_cons (ev_allL (ev_li (ev_fz (en_map (υ := yBool) (fun (x_273 : (Bool × Bool)) => x_273.2) (ei_list (ev_var (τ := (yList (yP2 K yBool yBool))) rfl k_264)) (fun x_273 v_274 Z' H' zz hh rx_275 => by
          obtain ⟨v_276, v_277, k_278, k_279, tg_280⟩ := tgt_p2 rx_275
          exact ⟨_, (tg_280 tgt_name tgt_name), (wpe_s (wpe_s wpe_z (by decide)) (by decide)), (ev_var (τ := yBool) rfl k_279)⟩))))) eva_nil))) (fun v Z1 H1 P1 hv => ?_)
    exact q v _ _ P1.st hv
theorem cs_outcomes_on_field (T : Txt K mg) {μ : Type} {M : Mu μ} {s : μ} {E : XK} {x_condition : Cond} {x_facts : (List Fa)} {y : (Bool × Bool)} (h : F_outcomes_on_field x_condition x_facts = some y) : CallS M (sp_outcomes_on_field T) E (rac (ty (y_Cond T) x_condition) (rac (ty (yList (y_Fa T)) x_facts) ra0)) s (ty (yP2 K yBool yBool) y) s := by
  rintro Z H vs sz m ⟨v_condition, _, rfl, h_condition, ⟨v_facts, _, rfl, h_facts, rfl⟩⟩ Q q
  exact ⟨Z, v_condition, v_facts, x_condition, x_facts, y, rfl, sz, h_condition, h_facts, h, fun v Z2 H2 st hv => q v Z2 H2 st.pure (M.pure st m) hv⟩
def sg_can_pass (T : Txt K mg) (g : Grp1) : Sp := fun vs H Q _ => ∃ (Z0 : Hp) (v_condition : V) (v_facts : V) (x_condition : Cond) (x_facts : (List Fa)) (y : (Bool × Bool)), vs = [v_condition, v_facts] ∧ (Same Z0 H) ∧ (((y_Cond T)).r Z0 v_condition x_condition) ∧ (((yList (y_Fa T))).r Z0 v_facts x_facts) ∧ (g.h_can_pass x_condition x_facts = some y) ∧ ∀ v Z' H', Step [] Z0 H Z' H' → ((yP2 K yBool yBool)).r Z' v y → Q v H'
theorem csg_can_pass (T : Txt K mg) {g : Grp1} {μ : Type} {M : Mu μ} {s : μ} {E : XK} {x_condition : Cond} {x_facts : (List Fa)} {y : (Bool × Bool)} (h : (g.h_can_pass) x_condition x_facts = some y) : CallS M (sg_can_pass T g) E (rac (ty (y_Cond T) x_condition) (rac (ty (yList (y_Fa T)) x_facts) ra0)) s (ty (yP2 K yBool yBool) y) s := by
  rintro Z H vs sz m ⟨v_condition, _, rfl, h_condition, ⟨v_facts, _, rfl, h_facts, rfl⟩⟩ Q q
  exact ⟨Z, v_condition, v_facts, x_condition, x_facts, y, rfl, sz, h_condition, h_facts, h, fun v Z2 H2 st hv => q v Z2 H2 st.pure (M.pure st m) hv⟩
set_option maxHeartbeats 4000000 in
theorem og_can_pass (T : Txt K mg) {n n2 : Nat} {g g2 : Grp1} (hg : g2.h_can_pass = S_can_pass g) (hlo : 6 ≤ n) (hup : n + 1 ≤ n2 + 1) (G_can_pass : FnOk P w K mg base CX0 n T.f_can_pass T.d_can_pass ["condition", "facts"] (sg_can_pass T g)) : FnOk P w K mg base CX0 (n2 + 1) T.f_can_pass T.d_can_pass ["condition", "facts"] (sg_can_pass T g2) := by
  have G_outcomes_on_field : FnOk P w K mg base CX0 6 T.f_outcomes_on_field T.d_outcomes_on_field ["condition", "facts"] (sp_outcomes_on_field T) := ok_outcomes_on_field T
  refine T.F_can_pass.ok sc_can_pass (fun vs H Q E h => ?_) (fun cdv A outer s H vs Q E hr h => ?_)
  · obtain ⟨Z0, v_condition, v_facts, x_condition, x_facts, y, rfl, _⟩ := h
    rfl
  · obtain ⟨Z0, v_condition, v_facts, x_condition, x_facts, y, rfl, sz, h_condition, h_facts, hF, q⟩ := h
    refine ⟨_, (pss_cons (ps_if (pt_val (pe_callB call_isi (by rfl) T.m_isinstance (by decide +kernel) (pa_cons (pv 0) (pa_cons (pe_glob (v := .ref T.c_Negation) rfl T.mc_Negation rfl) pa_nil)))) (pss_cons (ps_asg (pe_call G_can_pass (hr.mono (by omega)) (by rfl) T.g_can_pass T.F_can_pass.kp T.b_can_pass .nil pass0 (pa_cons (pe_fld (pv 0) rfl) (pa_cons (pv 1) pa_nil))) (pg_tup rfl (pgs_cons (pg_name (i := 2) sc_can_pass.nd rfl (.inl rfl)) (pgs_cons (pg_name (i := 3) sc_can_pass.nd rfl (.inl rfl)) pgs_nil)))) 
      (pss_one (ps_ret (pe_tup (pa_cons (pv 3) (pa_cons (pv 2) pa_nil)))))) pss_nil) 
      (pss_cons (ps_if (pt_val (pe_callB call_isi (by rfl) T.m_isinstance (by decide +kernel) (pa_cons (pv 0) (pa_cons (pe_glob (v := .ref T.c_Both) rfl T.mc_Both rfl) pa_nil)))) (pss_cons (ps_asg (pe_tup (pa_cons (pe_call G_can_pass (hr.mono (by omega)) (by rfl) T.g_can_pass T.F_can_pass.kp T.b_can_pass .nil pass0 (pa_cons (pe_fld (pv 0) rfl) (pa_cons (pv 1) pa_nil))) (pa_cons (pe_call G_can_pass (hr.mono (by omega)) (by rfl) T.g_can_pass T.F_can_pass.kp T.b_can_pass .nil pass0 (pa_cons (pe_fld (pv 0) rfl) (pa_cons (pv 1) pa_nil))) pa_nil))) (pg_tup rfl (pgs_cons (pg_tup rfl (pgs_cons (pg_name (i := 4) sc_can_pass.nd rfl (.inl rfl)) (pgs_cons (pg_name (i := 5) sc_can_pass.nd rfl (.inl rfl)) pgs_nil))) (pgs_cons (pg_tup rfl (pgs_cons (pg_name (i := 6) sc_can_pass.nd rfl (.inl rfl)) (pgs_cons (pg_name (i := 7) sc_can_pass.nd rfl (.inl rfl)) pgs_nil))) pgs_nil)))) 
      (pss_one (ps_ret (pe_tup (pa_cons (pe_and (pv 4) (pe_one (pv 6))) (pa_cons (pe_or (pv 5) (pe_one (pv 7))) pa_nil)))))) pss_nil) 
      (pss_cons (ps_if (pt_val (pe_callB call_isi (by rfl) T.m_isinstance (by decide +kernel) (pa_cons (pv 0) (pa_cons (pe_glob (v := .ref T.c_Either) rfl T.mc_Either rfl) pa_nil)))) (pss_cons (ps_asg (pe_tup (pa_cons (pe_call G_can_pass (hr.mono (by omega)) (by rfl) T.g_can_pass T.F_can_pass.kp T.b_can_pass .nil pass0 (pa_cons (pe_fld (pv 0) rfl) (pa_cons (pv 1) pa_nil))) (pa_cons (pe_call G_can_pass (hr.mono (by omega)) (by rfl) T.g_can_pass T.F_can_pass.kp T.b_can_pass .nil pass0 (pa_cons (pe_fld (pv 0) rfl) (pa_cons (pv 1) pa_nil))) pa_nil))) (pg_tup rfl (pgs_cons (pg_tup rfl (pgs_cons (pg_name (i := 4) sc_can_pass.nd rfl (.inl rfl)) (pgs_cons (pg_name (i := 5) sc_can_pass.nd rfl (.inl rfl)) pgs_nil))) (pgs_cons (pg_tup rfl (pgs_cons (pg_name (i := 6) sc_can_pass.nd rfl (.inl rfl)) (pgs_cons (pg_name (i := 7) sc_can_pass.nd rfl (.inl rfl)) pgs_nil))) pgs_nil)))) 
      (pss_one (ps_ret (pe_tup (pa_cons (pe_or (pv 4) (pe_one (pv 6))) (pa_cons (pe_and (pv 5) (pe_one (pv 7))) pa_nil)))))) pss_nil) 
      (pss_cons (ps_if (pt_val (pe_callB (r := rIsiT K) (by exact call_isiT) (by rfl) T.m_isinstance (by decide +kernel) (pa_cons (pv 0) (pa_cons (pe_tup (pa_cons (pe_glob (v := .ref T.c_Has) rfl T.mc_Has rfl) (pa_cons (pe_glob (v := .ref T.c_Compare) rfl T.mc_Compare rfl) (pa_cons (pe_glob (v := .ref T.c_OneOf) rfl T.mc_OneOf rfl) pa_nil)))) pa_nil)))) (pss_one (ps_ret (pe_call G_outcomes_on_field (hr.mono (by omega)) (by rfl) T.g_outcomes_on_field T.F_outcomes_on_field.kp T.b_outcomes_on_field .nil pass0 (pa_cons (pv 0) (pa_cons (pv 1) pa_nil))))) pss_nil) 
      (pss_one (ps_ret (pe_tup (pa_cons pe_bl (pa_cons pe_bl pa_nil))))))))), ?_⟩
    have P := Pt.start0 sz
    rw [hg] at hF
    unfold S_can_pass at hF
    refine st_seq (st_if P (et_val (ev_isi (b := x_condition.is_Negation) (fun _ _ _ h => h) (ev_var (τ := (y_Cond T)) rfl h_condition) (tx_Cond T) (.own _) (kit_Cond_Negation T _))) (fun b_281 Z1 H1 e P1 => ?_) (fun b_281 Z1 H1 e P1 => ?_))
    · replace P := P1
      have hB := ifT b_281 hF
      replace hF := hB
      clear hB
      replace h_condition := ((y_Cond T)).mono e.z h_condition
      replace h_facts := ((yList (y_Fa T))).mono e.z h_facts
      obtain ⟨u_282, h_283, hF⟩ := bind_inv hF
      obtain ⟨r_284, h_285, hF⟩ := bind_inv hF
      refine st_seq (st_asg P (ev_call (csg_can_pass T h_285) (eva_cons (ev_fld (fo_Negation_a T) T.cl_Negation T.n_Negation_a (pj_Cond_neg T (ev_var (τ := (y_Cond T)) rfl h_condition) h_283)) (eva_cons (ev_var (τ := (yList (y_Fa T))) rfl h_facts) eva_nil))) (fun v Z1 H1 e P1 k_286 => ?_))
      replace P := P1
      obtain ⟨v_287, v_288, k_289, k_290, tg_291⟩ := tgt_p2 k_286
      refine ⟨_, (tg_291 tgt_name tgt_name), ?_⟩
      refine st_nx ?_
      replace hF := Option.some.inj hF
      subst hF
      refine st_ret P (ev_p2 (K := K) (eva_cons (ev_var (τ := yBool) rfl k_290) (eva_cons (ev_var (τ := yBool) rfl k_289) eva_nil))) (fun v Z1 H1 P1 hv => ?_)
      exact q v _ _ P1.st hv
    · replace P := P1
      have hB := ifF b_281 hF
      replace hF := hB
      clear hB
      refine st_next0 ?_
      replace h_condition := ((y_Cond T)).mono e.z h_condition
      replace h_facts := ((yList (y_Fa T))).mono e.z h_facts
      refine st_seq (st_if P (et_val (ev_isi (b := x_condition.is_Both) (fun _ _ _ h => h) (ev_var (τ := (y_Cond T)) rfl h_condition) (tx_Cond T) (.own _) (kit_Cond_Both T _))) (fun b_292 Z1 H1 e P1 => ?_) (fun b_292 Z1 H1 e P1 => ?_))
      · replace P := P1
        have hB := ifT b_292 hF
        replace hF := hB
        clear hB
        replace h_condition := ((y_Cond T)).mono e.z h_condition
        replace h_facts := ((yList (y_Fa T))).mono e.z h_facts
        obtain ⟨u_293, h_294, hF⟩ := bind_inv hF
        obtain ⟨r_295, h_296, hF⟩ := bind_inv hF
        obtain ⟨u_297, h_298, hF⟩ := bind_inv hF
        obtain ⟨r_299, h_300, hF⟩ := bind_inv hF
        refine st_seq (st_asg P (ev_p2 (K := K) (eva_cons (ev_call (csg_can_pass T h_296) (eva_cons (ev_fld (fo_Both_a T) T.cl_Both T.n_Both_a (pj_Cond_both T (ev_var (τ := (y_Cond T)) rfl h_condition) h_294)) (eva_cons (ev_var (τ := (yList (y_Fa T))) rfl h_facts) eva_nil))) (eva_cons (ev_call (csg_can_pass T h_300) (eva_cons (ev_fld (fo_Both_b T) T.cl_Both T.n_Both_b (pj_Cond_both T (ev_var (τ := (y_Cond T)) rfl h_condition) h_298)) (eva_cons (ev_var (τ := (yList (y_Fa T))) rfl h_facts) eva_nil))) eva_nil))) (fun v Z1 H1 e P1 k_301 => ?_))
        replace P := P1
        obtain ⟨v_302, v_303, k_304, k_305, tg_306⟩ := tgt_p2 k_301
        obtain ⟨v_307, v_308, k_309, k_310, tg_311⟩ := tgt_p2 k_304
        obtain ⟨v_312, v_313, k_314, k_315, tg_316⟩ := tgt_p2 k_305
        refine ⟨_, (tg_306 (tg_311 tgt_name tgt_name) (tg_316 tgt_name tgt_name)), ?_⟩
        refine st_nx ?_
        replace hF := Option.some.inj hF
        subst hF
        refine st_ret P (ev_p2 (K := K) (eva_cons (ev_and0 (ev_var (τ := yBool) rfl k_309) (ev_var (τ := yBool) rfl k_314)) (eva_cons (ev_or0 (ev_var (τ := yBool) rfl k_310) (ev_var (τ := yBool) rfl k_315)) eva_nil))) (fun v Z1 H1 P1 hv => ?_)
        exact q v _ _ P1.st hv
      · replace P := P1
        have hB := ifF b_292 hF
        replace hF := hB
        clear hB
        refine st_next0 ?_
        replace h_condition := ((y_Cond T)).mono e.z h_condition
        replace h_facts := ((yList (y_Fa T))).mono e.z h_facts
        refine st_seq (st_if P (et_val (ev_isi (b := x_condition.is_Either) (fun _ _ _ h => h) (ev_var (τ := (y_Cond T)) rfl h_condition) (tx_Cond T) (.own _) (kit_Cond_Either T _))) (fun b_317 Z1 H1 e P1 => ?_) (fun b_317 Z1 H1 e P1 => ?_))
        · replace P := P1
          have hB := ifT b_317 hF
          replace hF := hB
          clear hB
          replace h_condition := ((y_Cond T)).mono e.z h_condition
          replace h_facts := ((yList (y_Fa T))).mono e.z h_facts
          obtain ⟨u_318, h_319, hF⟩ := bind_inv hF
          obtain ⟨r_320, h_321, hF⟩ := bind_inv hF
          obtain ⟨u_322, h_323, hF⟩ := bind_inv hF
          obtain ⟨r_324, h_325, hF⟩ := bind_inv hF
          refine st_seq (st_asg P (ev_p2 (K := K) (eva_cons (ev_call (csg_can_pass T h_321) (eva_cons (ev_fld (fo_Either_a T) T.cl_Either T.n_Either_a (pj_Cond_either T (ev_var (τ := (y_Cond T)) rfl h_condition) h_319)) (eva_cons (ev_var (τ := (yList (y_Fa T))) rfl h_facts) eva_nil))) (eva_cons (ev_call (csg_can_pass T h_325) (eva_cons (ev_fld (fo_Either_b T) T.cl_Either T.n_Either_b (pj_Cond_either T (ev_var (τ := (y_Cond T)) rfl h_condition) h_323)) (eva_cons (ev_var (τ := (yList (y_Fa T))) rfl h_facts) eva_nil))) eva_nil))) (fun v Z1 H1 e P1 k_326 => ?_))
          replace P := P1
          obtain ⟨v_327, v_328, k_329, k_330, tg_331⟩ := tgt_p2 k_326
          obtain ⟨v_332, v_333, k_334, k_335, tg_336⟩ := tgt_p2 k_329
          obtain ⟨v_337, v_338, k_339, k_340, tg_341⟩ := tgt_p2 k_330
          refine ⟨_, (tg_331 (tg_336 tgt_name tgt_name) (tg_341 tgt_name tgt_name)), ?_⟩
          refine st_nx ?_
          replace hF := Option.some.inj hF
          subst hF
          refine st_ret P (ev_p2 (K := K) (eva_cons (ev_or0 (ev_var (τ := yBool) rfl k_334) (ev_var (τ := yBool) rfl k_339)) (eva_cons (ev_and0 (ev_var (τ := yBool) rfl k_335) (ev_var (τ := yBool) rfl k_340)) eva_nil))) (fun v Z1 H1 P1 hv => ?_)
          exact q v _ _ P1.st hv
        · replace P := P1
          have hB := ifF b_317 hF
          replace hF := hB
          clear hB
          refine st_next0 ?_
          replace h_condition := ((y_Cond T)).mono e.z h_condition
          replace h_facts := ((yList (y_Fa T))).mono e.z h_facts
          refine st_seq (st_if P (et_val (ev_isiT (b := (x_condition.is_Has || (x_condition.is_Compare || (x_condition.is_OneOf || false)))) (cs := [.ref T.c_Has, .ref T.c_Compare, .ref T.c_OneOf]) (fun _ _ _ h => h) (ev_var (τ := (y_Cond T)) rfl h_condition) (tx_Cond T) (show 3 ≤ sizeLine by decide) (.cons (.own _) (.cons (.own _) (.cons (.own _) .nil))) (kitAnyC (kit_Cond_Has T _) (kitAnyC (kit_Cond_Compare T _) (kitAnyC (kit_Cond_OneOf T _) kitAnyN))))) (fun b_342 Z1 H1 e P1 => ?_) (fun b_342 Z1 H1 e P1 => ?_))
          · replace P := P1
            have hB := ifT b_342 hF
            replace hF := hB
            clear hB
            replace h_condition := ((y_Cond T)).mono e.z h_condition
            replace h_facts := ((yList (y_Fa T))).mono e.z h_facts
            obtain ⟨r_343, h_344, hF⟩ := bind_inv hF
            replace hF := Option.some.inj hF
            subst hF
            refine st_ret P (ev_call (cs_outcomes_on_field T h_344) (eva_cons (ev_var (τ := (y_Cond T)) rfl h_condition) (eva_cons (ev_var (τ := (yList (y_Fa T))) rfl h_facts) eva_nil))) (fun v Z1 H1 P1 hv => ?_)
            exact q v _ _ P1.st hv
          · replace P := P1
            have hB := ifF b_342 hF
            replace hF := hB
            clear hB
            refine st_next0 ?_
            replace hF := Option.some.inj hF
            subst hF
            refine st_ret P (ev_p2 (K := K) (eva_cons ev_bl (eva_cons ev_bl eva_nil))) (fun v Z1 H1 P1 hv => ?_)
            exact q v _ _ P1.st hv
theorem ogs_1 (T : Txt K mg) : ∀ n, FnOk P w K mg base CX0 (5 + 1 * n + 1) T.f_can_pass T.d_can_pass ["condition", "facts"] (sg_can_pass T (grp1 n))
  | 0 => ⟨fun _ _ _ _ h => (by obtain ⟨Z0, v_condition, v_facts, x_condition, x_facts, y, rfl, sz, h_condition, h_facts, hF, _⟩ := h; exact nomatch (show (none : Option _) = some _ from hF)), fun _ _ _ _ _ _ _ _ _ _ _ _ _ h => (by obtain ⟨Z0, v_condition, v_facts, x_condition, x_facts, y, rfl, sz, h_condition, h_facts, hF, _⟩ := h; exact nomatch (show (none : Option _) = some _ from hF))⟩
  | n + 1 => og_can_pass T rfl (n := 5 + 1 * n + 1) (n2 := 5 + 1 * (n + 1)) (by omega) (by omega) (ogs_1 T n)
def sp_can_pass (T : Txt K mg) : Sp := sg_can_pass T (grp1 5)
theorem ok_can_pass (T : Txt K mg) : FnOk P w K mg base CX0 11 T.f_can_pass T.d_can_pass ["condition", "facts"] (sp_can_pass T) := (ogs_1 T 5)
theorem cs_can_pass (T : Txt K mg) {μ : Type} {M : Mu μ} {s : μ} {E : XK} {x_condition : Cond} {x_facts : (List Fa)} {y : (Bool × Bool)} (h : F_can_pass x_condition x_facts = some y) : CallS M (sp_can_pass T) E (rac (ty (y_Cond T) x_condition) (rac (ty (yList (y_Fa T)) x_facts) ra0)) s (ty (yP2 K yBool yBool) y) s := by
  rintro Z H vs sz m ⟨v_condition, _, rfl, h_condition, ⟨v_facts, _, rfl, h_facts, rfl⟩⟩ Q q
  exact ⟨Z, v_condition, v_facts, x_condition, x_facts, y, rfl, sz, h_condition, h_facts, h, fun v Z2 H2 st hv => q v Z2 H2 st.pure (M.pure st m) hv⟩
def sp_law_field_fact (T : Txt K mg) : Sp := fun vs H Q _ => ∃ (st sc : Addr) (Z0 : Hp) (ds : DS) (y : (FT × DS)), vs = [.ref st] ∧ (Same Z0 H) ∧ ((muD st sc).m ds Z0 H) ∧ (F_law_field_fact ds = some y) ∧ ∀ v Z' H', Step (muD st sc).fp Z0 H Z' H' → (muD st sc).m y.2 Z' H' → ((y_FT T)).r Z' v y.1 → Q v H'
set_option maxHeartbeats 4000000 in
theorem ok_law_field_fact (T : Txt K mg) : FnOk P w K mg base CX0 3 T.f_law_field_fact T.d_law_field_fact ["state"] (sp_law_field_fact T) := by
  have G_law_next : FnOk P w K mg base CX0 2 T.f_law_next T.d_law_next ["state", "many"] (sp_law_next T) := ok_law_next T
  refine T.F_law_field_fact.ok sc_law_field_fact (fun vs H Q E h => ?_) (fun cdv A outer s H vs Q E hr h => ?_)
  · obtain ⟨st, sc, Z0, ds, y, rfl, _⟩ := h
    rfl
  · obtain ⟨st, sc, Z0, ds, y, rfl, sz, hm, hF, q⟩ := h
    refine ⟨_, (pss_cons (ps_set (i := 1) sc_law_field_fact.nd rfl (.inl rfl) (pe_ix ix_list (pe_lst (pa_cons pe_str (pa_cons pe_str (pa_cons pe_str pa_nil)))) (pe_call G_law_next (hr.mono (by decide)) (by rfl) T.g_law_next T.F_law_next.kp T.b_law_next .nil pass0 (pa_cons (pv 0) (pa_cons pe_int pa_nil))) (fun _ _ => rfl))) 
      (pss_cons (ps_if (pt_cmpR op_eq (pe_call G_law_next (hr.mono (by decide)) (by rfl) T.g_law_next T.F_law_next.kp T.b_law_next .nil pass0 (pa_cons (pv 0) (pa_cons pe_int pa_nil))) pe_int (nomark _)) (pss_cons (ps_set (i := 2) sc_law_field_fact.nd rfl (.inl rfl) (pe_op op_sub (pe_call G_law_next (hr.mono (by decide)) (by rfl) T.g_law_next T.F_law_next.kp T.b_law_next .nil pass0 (pa_cons (pv 0) (pa_cons pe_int pa_nil))) pe_int)) 
      (pss_one (ps_ret (pe_tup (pa_cons pe_str (pa_cons pe_str (pa_cons (pv 2) (pa_cons (pe_op op_add (pv 2) (pe_call G_law_next (hr.mono (by decide)) (by rfl) T.g_law_next T.F_law_next.kp T.b_law_next .nil pass0 (pa_cons (pv 0) (pa_cons pe_int pa_nil)))) (pa_cons (pv 1) pa_nil))))))))) pss_nil) 
      (pss_cons (ps_if (pt_cmpR op_eq (pe_call G_law_next (hr.mono (by decide)) (by rfl) T.g_law_next T.F_law_next.kp T.b_law_next .nil pass0 (pa_cons (pv 0) (pa_cons pe_int pa_nil))) pe_int (nomark _)) (pss_one (ps_ret (pe_tup (pa_cons pe_str (pa_cons pe_str (pa_cons (pe_slice sl_list (pe_lst (pa_cons pe_str (pa_cons pe_str (pa_cons pe_str (pa_cons pe_str pa_nil))))) po_none (po_some (pe_call G_law_next (hr.mono (by decide)) (by rfl) T.g_law_next T.F_law_next.kp T.b_law_next .nil pass0 (pa_cons (pv 0) (pa_cons pe_int pa_nil))))) (pa_cons (pv 1) pa_nil))))))) pss_nil) 
      (pss_one (ps_ret (pe_tup (pa_cons pe_str (pa_cons pe_str (pa_cons (pe_slice sl_list (pe_lst (pa_cons pe_bl (pa_cons pe_bl pa_nil))) po_none (po_some (pe_op op_add pe_int (pe_call G_law_next (hr.mono (by decide)) (by rfl) T.g_law_next T.F_law_next.kp T.b_law_next .nil pass0 (pa_cons (pv 0) (pa_cons pe_int pa_nil)))))) (pa_cons (pv 1) pa_nil)))))))))), ?_⟩
    have P := Pt.start (muD st sc) sz hm
    unfold F_law_field_fact at hF
    obtain ⟨i_355, h_356, hF⟩ := bind_inv hF
    refine st_seq (st_set P (ev_ixL (ev_li (ev_fz (en_listD (eva_conss ev_str (eva_conss ev_str (eva_conss ev_str (eva_nils (τ := yStr))))) (by show 3 ≤ sizeLine; decide)))) (ev_call (cs__law_next T (by decide +kernel)) (eva_cons (ev_ref rfl) (eva_cons ev_int eva_nil))) h_356) (fun v_357 Z1 H1 e P1 k_358 => ?_))
    refine st_nx ?_
    replace P := P1
    refine st_seq (st_if P (et_cmp (ev_eq flat_int (ev_call (cs__law_next T (by decide +kernel)) (eva_cons (ev_ref rfl) (eva_cons ev_int eva_nil))) ev_int)) (fun b_359 Z1 H1 e P1 => ?_) (fun b_359 Z1 H1 e P1 => ?_))
    · replace P := P1
      have hB := ifT b_359 hF
      replace hF := hB
      clear hB
      obtain ⟨x_low_360, h_361, hF⟩ := bind_inv hF
      replace h_361 := Option.some.inj h_361
      refine st_seq (st_set P (ev_cast (ev_sub (ev_call (cs__law_next T (by decide +kernel)) (eva_cons (ev_ref rfl) (eva_cons ev_int eva_nil))) ev_int) h_361) (fun v_362 Z1 H1 e P1 k_363 => ?_))
      refine st_nx ?_
      replace P := P1
      replace hF := Option.some.inj hF
      subst hF
      refine st_ret P (it_FT_range T (ev_p5 (K := K) (eva_cons ev_str (eva_cons ev_str (eva_cons (ev_var (τ := yInt) rfl k_363) (eva_cons (ev_add (ev_var (τ := yInt) rfl k_363) (ev_call (cs__law_next T (by decide +kernel)) (eva_cons (ev_ref rfl) (eva_cons ev_int eva_nil)))) (eva_cons (ev_var (τ := yStr) rfl k_358) eva_nil))))))) (fun v Z1 H1 P1 hv => ?_)
      exact q v _ _ P1.st P1.m hv
    · replace P := P1
      have hB := ifF b_359 hF
      replace hF := hB
      clear hB
      refine st_next0 ?_
      refine st_seq (st_if P (et_cmp (ev_eq flat_int (ev_call (cs__law_next T (by decide +kernel)) (eva_cons (ev_ref rfl) (eva_cons ev_int eva_nil))) ev_int)) (fun b_364 Z1 H1 e P1 => ?_) (fun b_364 Z1 H1 e P1 => ?_))
      · replace P := P1
        have hB := ifT b_364 hF
        replace hF := hB
        clear hB
        obtain ⟨u_365, h_366, hF⟩ := bind_inv hF
        replace hF := Option.some.inj hF
        subst hF
        refine st_ret P (it_FT_values T (ev_p4 (K := K) (eva_cons ev_str (eva_cons ev_str (eva_cons (ev_castK (show CastO (yList yStr) (yList (y_Val T)) (mapO (fun x : Str => some (Val.s x))) from (cast_list (show CastO yStr (y_Val T) (fun x : Str => some (Val.s x)) from (fun _ _ _ _ h e => by have e := Option.some.inj e; subst e; exact h)))) (ev_fz (en_slL (ev_li (ev_fz (en_listD (eva_conss ev_str (eva_conss ev_str (eva_conss ev_str (eva_conss ev_str (eva_nils (τ := yStr)))))) (by show 4 ≤ sizeLine; decide)))) eo_none (eo_some (ev_call (cs__law_next T (by decide +kernel)) (eva_cons (ev_ref rfl) (eva_cons ev_int eva_nil)))))) h_366) (eva_cons (ev_var (τ := yStr) rfl k_358) eva_nil)))))) (fun v Z1 H1 P1 hv => ?_)
        exact q v _ _ P1.st P1.m hv
      · replace P := P1
        have hB := ifF b_364 hF
        replace hF := hB
        clear hB
        refine st_next0 ?_
        obtain ⟨u_367, h_368, hF⟩ := bind_inv hF
        replace hF := Option.some.inj hF
        subst hF
        refine st_ret P (it_FT_values T (ev_p4 (K := K) (eva_cons ev_str (eva_cons ev_str (eva_cons (ev_castK (show CastO (yList yBool) (yList (y_Val T)) (mapO (fun x : Bool => some (Val.b x))) from (cast_list (show CastO yBool (y_Val T) (fun x : Bool => some (Val.b x)) from (fun _ _ _ _ h e => by have e := Option.some.inj e; subst e; exact h)))) (ev_fz (en_slL (ev_li (ev_fz (en_listD (eva_conss ev_bl (eva_conss ev_bl (eva_nils (τ := yBool)))) (by show 2 ≤ sizeLine; decide)))) eo_none (eo_some (ev_add ev_int (ev_call (cs__law_next T (by decide +kernel)) (eva_cons (ev_ref rfl) (eva_cons ev_int eva_nil))))))) h_368) (eva_cons (ev_var (τ := yStr) rfl k_358) eva_nil)))))) (fun v Z1 H1 P1 hv => ?_)
        exact q v _ _ P1.st P1.m hv
theorem cs_law_field_fact (T : Txt K mg) {st sc : Addr} {ds : DS} {E : XK}  {y : FT × DS} (h : F_law_field_fact ds = some y) : CallS (muD st sc) (sp_law_field_fact T) E (rac (isRef st) ra0) ds (ty (y_FT T) y.1) y.2 := by
  rintro Z H vs sz m ⟨_, _, rfl, rfl, rfl⟩ Q q
  exact ⟨st, sc, Z, ds, y, rfl, sz, m, h, fun v Z2 H2 s2 m2 hv => q v Z2 H2 s2 m2 hv⟩
theorem cu_law_field_fact (T : Txt K mg) {st sc : Addr} {ds : DS} {E : XK}  {y : FT × DS} {μ : Type} {M : Mu μ} {s s2 : μ} (hm : ∀ Z H, M.m s Z H → (muD st sc).m ds Z H) (hf : ∀ a ∈ (muD st sc).fp, a ∈ M.fp) (hp : ∀ Z H Z' H', M.m s Z H → Step (muD st sc).fp Z H Z' H' → (muD st sc).m y.2 Z' H' → M.m s2 Z' H') (h : F_law_field_fact ds = some y) : CallS M (sp_law_field_fact T) E (rac (isRef st) ra0) s (ty (y_FT T) y.1) s2 := by
  rintro Z H vs sz m ⟨_, _, rfl, rfl, rfl⟩ Q q
  exact ⟨st, sc, Z, ds, y, rfl, sz, hm _ _ m, h, fun v Z2 H2 st2 m2 hv => q v Z2 H2 (st2.weak fun a h => .inl (hf a h)) (hp _ _ _ _ m st2 m2) hv⟩
def sp_Names___init__ (T : Txt K mg) : Sp := fun vs H Q _ => ∃ (p dx : Addr) (Z0 : Hp) (v_low : V) (v_high : V) (x_low : Str) (x_high : Str), vs = [.ref p, v_low, v_high] ∧ (Same Z0 H) ∧ (H p = some (.ins T.c_Names dx [])) ∧ (Z0 p = none) ∧ ((yStr).r Z0 v_low x_low) ∧ ((yStr).r Z0 v_high x_high) ∧ ∀ Z' H' o, Step [p] Z0 H Z' H' → H' p = some o → (y_Names T).r (upd Z' p o) (.ref p) (F_Names___init__ x_low x_high) → Q .non H'
set_option maxHeartbeats 4000000 in
theorem ok_Names___init__ (T : Txt K mg) : FnOk P w K mg base CX0 1 T.f_Names___init__ T.d_Names___init__ ["self", "low", "high"] (sp_Names___init__ T) := by
  refine T.F_Names___init__.ok sc_Names___init__ (fun vs H Q E h => ?_) (fun cdv A outer s H vs Q E hr h => ?_)
  · obtain ⟨p, dx, Z0, v_low, v_high, x_low, x_high, rfl, _⟩ := h
    rfl
  · obtain ⟨p, dx, Z0, v_low, v_high, x_low, x_high, rfl, sz, hself, zself, h_low, h_high, q⟩ := h
    refine ⟨_, (pss_cons (ps_fld (pv 0) (pv 1) rfl) 
      (pss_one (ps_fld (pv 0) (pv 2) rfl))), ?_⟩
    have P : Pt [p] Z0 H muN Z0 H () := ⟨Step.refl sz, trivial, fun _ h => (nomatch h)⟩
    generalize hF : F_Names___init__ x_low x_high = y at q
    unfold F_Names___init__ at hF
    refine st_seq (st_fld (x := x_low) (τ := yStr) P hself zself List.not_mem_nil (.inl List.mem_cons_self) rfl (ev_var (τ := yStr) rfl h_low) T.cl_Names T.n_Names_low (Nat.lt_of_le_of_lt (Nat.le_refl 0) (by decide)) (fun v_369 Z1 H1 e P1 k_370 hself1 zself1 => ?_))
    refine st_nx ?_
    replace P := P1
    replace hself := hself1
    replace zself := zself1
    refine st_fld (x := x_high) (τ := yStr) P hself zself List.not_mem_nil (.inl List.mem_cons_self) rfl (ev_var (τ := yStr) rfl h_high) T.cl_Names T.n_Names_high (Nat.lt_of_le_of_lt (putF_le (Nat.le_refl 0)) (by decide)) (fun v_371 Z1 H1 e P1 k_372 hself1 zself1 => ?_)
    replace P := P1
    replace hself := hself1
    replace zself := zself1
    subst hF
    exact q _ _ _ P.st hself ⟨p, dx, v_369, v_371, rfl, upd_same, k_370, k_372⟩
theorem is_Names___init__ (T : Txt K mg) {μ : Type} {M : Mu μ} {s : μ} {E : XK} {x_low : Str} {x_high : Str} : InitS M T.c_Names (sp_Names___init__ T) E (rac (ty yStr x_low) (rac (ty yStr x_high) ra0)) s (ty (y_Names T) (F_Names___init__ x_low x_high)) s := by
  rintro Z H vs x dx sz m ⟨v_low, _, rfl, h_low, ⟨v_high, _, rfl, h_high, rfl⟩⟩ hx zx nx Q q
  exact ⟨x, dx, Z, v_low, v_high, x_low, x_high, rfl, sz, hx, zx, h_low, h_high, fun Z2 H2 o st ho hr => q Z2 H2 o (st.weak fun a h => by rw [List.mem_singleton] at h; rw [h]; exact .inl List.mem_cons_self) (Mu.away st nx m) ho hr⟩
def sp_Box___init__ (T : Txt K mg) : Sp := fun vs H Q _ => ∃ (p dx : Addr) (Z0 : Hp) (v_low : V) (v_high : V) (x_low : (List Int)) (x_high : (List Int)), vs = [.ref p, v_low, v_high] ∧ (Same Z0 H) ∧ (H p = some (.ins T.c_Box dx [])) ∧ (Z0 p = none) ∧ (((yList yInt)).r Z0 v_low x_low) ∧ (((yList yInt)).r Z0 v_high x_high) ∧ ∀ Z' H' o, Step [p] Z0 H Z' H' → H' p = some o → (y_Box T).r (upd Z' p o) (.ref p) (F_Box___init__ x_low x_high) → Q .non H'
set_option maxHeartbeats 4000000 in
theorem ok_Box___init__ (T : Txt K mg) : FnOk P w K mg base CX0 1 T.f_Box___init__ T.d_Box___init__ ["self", "low", "high"] (sp_Box___init__ T) := by
  refine T.F_Box___init__.ok sc_Box___init__ (fun vs H Q E h => ?_) (fun cdv A outer s H vs Q E hr h => ?_)
  · obtain ⟨p, dx, Z0, v_low, v_high, x_low, x_high, rfl, _⟩ := h
    rfl
  · obtain ⟨p, dx, Z0, v_low, v_high, x_low, x_high, rfl, sz, hself, zself, h_low, h_high, q⟩ := h
    refine ⟨_, (pss_cons (ps_fld (pv 0) (pe_callTy call_tuple_of (by rfl) T.m_tuple (by decide +kernel) (pa_cons (pv 1) pa_nil)) rfl) 
      (pss_one (ps_fld (pv 0) (pe_callTy call_tuple_of (by rfl) T.m_tuple (by decide +kernel) (pa_cons (pv 2) pa_nil)) rfl))), ?_⟩
    have P : Pt [p] Z0 H muN Z0 H () := ⟨Step.refl sz, trivial, fun _ h => (nomatch h)⟩
    generalize hF : F_Box___init__ x_low x_high = y at q
    unfold F_Box___init__ at hF
    refine st_seq (st_fld (x := x_low) (τ := (yTup K yInt)) P hself zself List.not_mem_nil (.inl List.mem_cons_self) rfl (ev_tuple_of (fun _ _ _ h => h) (ev_li (ev_var (τ := (yList yInt)) rfl h_low))) T.cl_Box T.n_Box_low (Nat.lt_of_le_of_lt (Nat.le_refl 0) (by decide)) (fun v_373 Z1 H1 e P1 k_374 hself1 zself1 => ?_))
    refine st_nx ?_
    replace P := P1
    replace hself := hself1
    replace zself := zself1
    replace h_high := ((yList yInt)).mono e.z h_high
    refine st_fld (x := x_high) (τ := (yTup K yInt)) P hself zself List.not_mem_nil (.inl List.mem_cons_self) rfl (ev_tuple_of (fun _ _ _ h => h) (ev_li (ev_var (τ := (yList yInt)) rfl h_high))) T.cl_Box T.n_Box_high (Nat.lt_of_le_of_lt (putF_le (Nat.le_refl 0)) (by decide)) (fun v_375 Z1 H1 e P1 k_376 hself1 zself1 => ?_)
    replace P := P1
    replace hself := hself1
    replace zself := zself1
    replace k_374 := ((yTup K yInt)).mono e.z k_374
    subst hF
    exact q _ _ _ P.st hself ⟨p, dx, v_373, v_375, rfl, upd_same, ((yTup K yInt)).mono (same_upd zself) k_374, ((yTup K yInt)).mono (same_upd zself) k_376⟩
theorem is_Box___init__ (T : Txt K mg) {μ : Type} {M : Mu μ} {s : μ} {E : XK} {x_low : (List Int)} {x_high : (List Int)} : InitS M T.c_Box (sp_Box___init__ T) E (rac (ty (yList yInt) x_low) (rac (ty (yList yInt) x_high) ra0)) s (ty (y_Box T) (F_Box___init__ x_low x_high)) s := by
  rintro Z H vs x dx sz m ⟨v_low, _, rfl, h_low, ⟨v_high, _, rfl, h_high, rfl⟩⟩ hx zx nx Q q
  exact ⟨x, dx, Z, v_low, v_high, x_low, x_high, rfl, sz, hx, zx, h_low, h_high, fun Z2 H2 o st ho hr => q Z2 H2 o (st.weak fun a h => by rw [List.mem_singleton] at h; rw [h]; exact .inl List.mem_cons_self) (Mu.away st nx m) ho hr⟩
def sp_Norms___init__ (T : Txt K mg) : Sp := fun vs H Q _ => ∃ (p dx : Addr) (Z0 : Hp) (v_low : V) (v_high : V) (x_low : Int) (x_high : Int), vs = [.ref p, v_low, v_high] ∧ (Same Z0 H) ∧ (H p = some (.ins T.c_Norms dx [])) ∧ (Z0 p = none) ∧ ((yInt).r Z0 v_low x_low) ∧ ((yInt).r Z0 v_high x_high) ∧ ∀ Z' H' o, Step [p] Z0 H Z' H' → H' p = some o → (y_Norms T).r (upd Z' p o) (.ref p) (F_Norms___init__ x_low x_high) → Q .non H'
set_option maxHeartbeats 4000000 in
theorem ok_Norms___init__ (T : Txt K mg) : FnOk P w K mg base CX0 1 T.f_Norms___init__ T.d_Norms___init__ ["self", "low", "high"] (sp_Norms___init__ T) := by
  refine T.F_Norms___init__.ok sc_Norms___init__ (fun vs H Q E h => ?_) (fun cdv A outer s H vs Q E hr h => ?_)
  · obtain ⟨p, dx, Z0, v_low, v_high, x_low, x_high, rfl, _⟩ := h
    rfl
  · obtain ⟨p, dx, Z0, v_low, v_high, x_low, x_high, rfl, sz, hself, zself, h_low, h_high, q⟩ := h
    refine ⟨_, (pss_cons (ps_fld (pv 0) (pv 1) rfl) 
      (pss_one (ps_fld (pv 0) (pv 2) rfl))), ?_⟩
    have P : Pt [p] Z0 H muN Z0 H () := ⟨Step.refl sz, trivial, fun _ h => (nomatch h)⟩
    generalize hF : F_Norms___init__ x_low x_high = y at q
    unfold F_Norms___init__ at hF
    refine st_seq (st_fld (x := x_low) (τ := yInt) P hself zself List.not_mem_nil (.inl List.mem_cons_self) rfl (ev_var (τ := yInt) rfl h_low) T.cl_Norms T.n_Norms_low (Nat.lt_of_le_of_lt (Nat.le_refl 0) (by decide)) (fun v_377 Z1 H1 e P1 k_378 hself1 zself1 => ?_))
    refine st_nx ?_
    replace P := P1
    replace hself := hself1
    replace zself := zself1
    refine st_fld (x := x_high) (τ := yInt) P hself zself List.not_mem_nil (.inl List.mem_cons_self) rfl (ev_var (τ := yInt) rfl h_high) T.cl_Norms T.n_Norms_high (Nat.lt_of_le_of_lt (putF_le (Nat.le_refl 0)) (by decide)) (fun v_379 Z1 H1 e P1 k_380 hself1 zself1 => ?_)
    replace P := P1
    replace hself := hself1
    replace zself := zself1
    subst hF
    exact q _ _ _ P.st hself ⟨p, dx, v_377, v_379, rfl, upd_same, k_378, k_380⟩
theorem is_Norms___init__ (T : Txt K mg) {μ : Type} {M : Mu μ} {s : μ} {E : XK} {x_low : Int} {x_high : Int} : InitS M T.c_Norms (sp_Norms___init__ T) E (rac (ty yInt x_low) (rac (ty yInt x_high) ra0)) s (ty (y_Norms T) (F_Norms___init__ x_low x_high)) s := by
  rintro Z H vs x dx sz m ⟨v_low, _, rfl, h_low, ⟨v_high, _, rfl, h_high, rfl⟩⟩ hx zx nx Q q
  exact ⟨x, dx, Z, v_low, v_high, x_low, x_high, rfl, sz, hx, zx, h_low, h_high, fun Z2 H2 o st ho hr => q Z2 H2 o (st.weak fun a h => by rw [List.mem_singleton] at h; rw [h]; exact .inl List.mem_cons_self) (Mu.away st nx m) ho hr⟩
def sp_Range___init__ (T : Txt K mg) : Sp := fun vs H Q _ => ∃ (p dx : Addr) (Z0 : Hp) (v_field : V) (v_low : V) (v_high : V) (v_lack : V) (x_field : Str) (x_low : Int) (x_high : Int) (x_lack : Str), vs = [.ref p, v_field, v_low, v_high, v_lack] ∧ (Same Z0 H) ∧ (H p = some (.ins T.c_Range dx [])) ∧ (Z0 p = none) ∧ ((yStr).r Z0 v_field x_field) ∧ ((yInt).r Z0 v_low x_low) ∧ ((yInt).r Z0 v_high x_high) ∧ ((yStr).r Z0 v_lack x_lack) ∧ ∀ Z' H' o, Step [p] Z0 H Z' H' → H' p = some o → (y_Range T).r (upd Z' p o) (.ref p) (F_Range___init__ x_field x_low x_high x_lack) → Q .non H'
set_option maxHeartbeats 4000000 in
theorem ok_Range___init__ (T : Txt K mg) : FnOk P w K mg base CX0 1 T.f_Range___init__ T.d_Range___init__ ["self", "field", "low", "high", "lack"] (sp_Range___init__ T) := by
  refine T.F_Range___init__.ok sc_Range___init__ (fun vs H Q E h => ?_) (fun cdv A outer s H vs Q E hr h => ?_)
  · obtain ⟨p, dx, Z0, v_field, v_low, v_high, v_lack, x_field, x_low, x_high, x_lack, rfl, _⟩ := h
    rfl
  · obtain ⟨p, dx, Z0, v_field, v_low, v_high, v_lack, x_field, x_low, x_high, x_lack, rfl, sz, hself, zself, h_field, h_low, h_high, h_lack, q⟩ := h
    refine ⟨_, PSs.nox (pss_cons (ps_fld (pv 0) (pv 1) rfl) 
      (pss_cons (ps_fld (pv 0) (pv 2) rfl) 
      (pss_cons (ps_fld (pv 0) (pv 3) rfl) 
      (pss_one (ps_fld (pv 0) (pv 4) rfl))))), ?_⟩
    have P : Pt [p] Z0 H muN Z0 H () := ⟨Step.refl sz, trivial, fun _ h => (nomatch h)⟩
    generalize hF : F_Range___init__ x_field x_low x_high x_lack = y at q
    unfold F_Range___init__ at hF
    refine st_seq (st_fld (x := x_field) (τ := yStr) P hself zself List.not_mem_nil (.inl List.mem_cons_self) rfl (ev_var (τ := yStr) rfl h_field) T.cl_Range T.n_Range_field (Nat.lt_of_le_of_lt (Nat.le_refl 0) (by decide)) (fun v_381 Z1 H1 e P1 k_382 hself1 zself1 => ?_))
    refine st_nx ?_
    replace P := P1
    replace hself := hself1
    replace zself := zself1
    refine st_seq (st_fld (x := x_low) (τ := yInt) P hself zself List.not_mem_nil (.inl List.mem_cons_self) rfl (ev_var (τ := yInt) rfl h_low) T.cl_Range T.n_Range_low (Nat.lt_of_le_of_lt (putF_le (Nat.le_refl 0)) (by decide)) (fun v_383 Z1 H1 e P1 k_384 hself1 zself1 => ?_))
    refine st_nx ?_
    replace P := P1
    replace hself := hself1
    replace zself := zself1
    refine st_seq (st_fld (x := x_high) (τ := yInt) P hself zself List.not_mem_nil (.inl List.mem_cons_self) rfl (ev_var (τ := yInt) rfl h_high) T.cl_Range T.n_Range_high (Nat.lt_of_le_of_lt (putF_le (putF_le (Nat.le_refl 0))) (by decide)) (fun v_385 Z1 H1 e P1 k_386 hself1 zself1 => ?_))
    refine st_nx ?_
    replace P := P1
    replace hself := hself1
    replace zself := zself1
    refine st_fld (x := x_lack) (τ := yStr) P hself zself List.not_mem_nil (.inl List.mem_cons_self) rfl (ev_var (τ := yStr) rfl h_lack) T.cl_Range T.n_Range_lack (Nat.lt_of_le_of_lt (putF_le (putF_le (putF_le (Nat.le_refl 0)))) (by decide)) (fun v_387 Z1 H1 e P1 k_388 hself1 zself1 => ?_)
    replace P := P1
    replace hself := hself1
    replace zself := zself1
    subst hF
    exact q _ _ _ P.st hself ⟨p, dx, v_381, v_383, v_385, v_387, rfl, upd_same, k_382, k_384, k_386, k_388⟩
theorem is_Range___init__ (T : Txt K mg) {μ : Type} {M : Mu μ} {s : μ} {E : XK} {x_field : Str} {x_low : Int} {x_high : Int} {x_lack : Str} : InitS M T.c_Range (sp_Range___init__ T) E (rac (ty yStr x_field) (rac (ty yInt x_low) (rac (ty yInt x_high) (rac (ty yStr x_lack) ra0)))) s (ty (y_Range T) (F_Range___init__ x_field x_low x_high x_lack)) s := by
  rintro Z H vs x dx sz m ⟨v_field, _, rfl, h_field, ⟨v_low, _, rfl, h_low, ⟨v_high, _, rfl, h_high, ⟨v_lack, _, rfl, h_lack, rfl⟩⟩⟩⟩ hx zx nx Q q
  exact ⟨x, dx, Z, v_field, v_low, v_high, v_lack, x_field, x_low, x_high, x_lack, rfl, sz, hx, zx, h_field, h_low, h_high, h_lack, fun Z2 H2 o st ho hr => q Z2 H2 o (st.weak fun a h => by rw [List.mem_singleton] at h; rw [h]; exact .inl List.mem_cons_self) (Mu.away st nx m) ho hr⟩
def sp_Values___init__ (T : Txt K mg) : Sp := fun vs H Q _ => ∃ (p dx : Addr) (Z0 : Hp) (v_field : V) (v_choices : V) (v_lack : V) (x_field : Str) (x_choices : (List Val)) (x_lack : Str), vs = [.ref p, v_field, v_choices, v_lack] ∧ (Same Z0 H) ∧ (H p = some (.ins T.c_Values dx [])) ∧ (Z0 p = none) ∧ ((yStr).r Z0 v_field x_field) ∧ (((yList (y_Val T))).r Z0 v_choices x_choices) ∧ ((yStr).r Z0 v_lack x_lack) ∧ ∀ Z' H' o, Step [p] Z0 H Z' H' → H' p = some o → (y_Values T).r (upd Z' p o) (.ref p) (F_Values___init__ x_field x_choices x_lack) → Q .non H'
set_option maxHeartbeats 4000000 in
theorem ok_Values___init__ (T : Txt K mg) : FnOk P w K mg base CX0 1 T.f_Values___init__ T.d_Values___init__ ["self", "field", "choices", "lack"] (sp_Values___init__ T) := by
  refine T.F_Values___init__.ok sc_Values___init__ (fun vs H Q E h => ?_) (fun cdv A outer s H vs Q E hr h => ?_)
  · obtain ⟨p, dx, Z0, v_field, v_choices, v_lack, x_field, x_choices, x_lack, rfl, _⟩ := h
    rfl
  · obtain ⟨p, dx, Z0, v_field, v_choices, v_lack, x_field, x_choices, x_lack, rfl, sz, hself, zself, h_field, h_choices, h_lack, q⟩ := h
    refine ⟨_, PSs.nox (pss_cons (ps_fld (pv 0) (pv 1) rfl) 
      (pss_cons (ps_fld (pv 0) (pe_callTy call_tuple_of (by rfl) T.m_tuple (by decide +kernel) (pa_cons (pv 2) pa_nil)) rfl) 
      (pss_one (ps_fld (pv 0) (pv 3) rfl)))), ?_⟩
    have P : Pt [p] Z0 H muN Z0 H () := ⟨Step.refl sz, trivial, fun _ h => (nomatch h)⟩
    generalize hF : F_Values___init__ x_field x_choices x_lack = y at q
    unfold F_Values___init__ at hF
    refine st_seq (st_fld (x := x_field) (τ := yStr) P hself zself List.not_mem_nil (.inl List.mem_cons_self) rfl (ev_var (τ := yStr) rfl h_field) T.cl_Values T.n_Values_field (Nat.lt_of_le_of_lt (Nat.le_refl 0) (by decide)) (fun v_389 Z1 H1 e P1 k_390 hself1 zself1 => ?_))
    refine st_nx ?_
    replace P := P1
    replace hself := hself1
    replace zself := zself1
    replace h_choices := ((yList (y_Val T))).mono e.z h_choices
    refine st_seq (st_fld (x := x_choices) (τ := (yTup K (y_Val T))) P hself zself List.not_mem_nil (.inl List.mem_cons_self) rfl (ev_tuple_of (fun _ _ _ h => h) (ev_li (ev_var (τ := (yList (y_Val T))) rfl h_choices))) T.cl_Values T.n_Values_choices (Nat.lt_of_le_of_lt (putF_le (Nat.le_refl 0)) (by decide)) (fun v_391 Z1 H1 e P1 k_392 hself1 zself1 => ?_))
    refine st_nx ?_
    replace P := P1
    replace hself := hself1
    replace zself := zself1
    refine st_fld (x := x_lack) (τ := yStr) P hself zself List.not_mem_nil (.inl List.mem_cons_self) rfl (ev_var (τ := yStr) rfl h_lack) T.cl_Values T.n_Values_lack (Nat.lt_of_le_of_lt (putF_le (putF_le (Nat.le_refl 0))) (by decide)) (fun v_393 Z1 H1 e P1 k_394 hself1 zself1 => ?_)
    replace P := P1
    replace hself := hself1
    replace zself := zself1
    replace k_392 := ((yTup K (y_Val T))).mono e.z k_392
    subst hF
    exact q _ _ _ P.st hself ⟨p, dx, v_389, v_391, v_393, rfl, upd_same, k_390, ((yTup K (y_Val T))).mono (same_upd zself) k_392, k_394⟩
theorem is_Values___init__ (T : Txt K mg) {μ : Type} {M : Mu μ} {s : μ} {E : XK} {x_field : Str} {x_choices : (List Val)} {x_lack : Str} : InitS M T.c_Values (sp_Values___init__ T) E (rac (ty yStr x_field) (rac (ty (yList (y_Val T)) x_choices) (rac (ty yStr x_lack) ra0))) s (ty (y_Values T) (F_Values___init__ x_field x_choices x_lack)) s := by
  rintro Z H vs x dx sz m ⟨v_field, _, rfl, h_field, ⟨v_choices, _, rfl, h_choices, ⟨v_lack, _, rfl, h_lack, rfl⟩⟩⟩ hx zx nx Q q
  exact ⟨x, dx, Z, v_field, v_choices, v_lack, x_field, x_choices, x_lack, rfl, sz, hx, zx, h_field, h_choices, h_lack, fun Z2 H2 o st ho hr => q Z2 H2 o (st.weak fun a h => by rw [List.mem_singleton] at h; rw [h]; exact .inl List.mem_cons_self) (Mu.away st nx m) ho hr⟩
def sp_law_made (T : Txt K mg) : Sp := fun vs H Q _ => ∃ (Z0 : Hp) (v_fact : V) (x_fact : FT) (y : Fa), vs = [v_fact] ∧ (Same Z0 H) ∧ (((y_FT T)).r Z0 v_fact x_fact) ∧ (F_law_made x_fact = some y) ∧ ∀ v Z' H', Step [] Z0 H Z' H' → ((y_Fa T)).r Z' v y → Q v H'
set_option maxHeartbeats 4000000 in
theorem ok_law_made (T : Txt K mg) : FnOk P w K mg base CX0 3 T.f_law_made T.d_law_made ["fact"] (sp_law_made T) := by
  have G_Values___init__ : FnOk P w K mg base CX0 1 T.f_Values___init__ T.d_Values___init__ ["self", "field", "choices", "lack"] (sp_Values___init__ T) := ok_Values___init__ T
  have G_Range___init__ : FnOk P w K mg base CX0 1 T.f_Range___init__ T.d_Range___init__ ["self", "field", "low", "high", "lack"] (sp_Range___init__ T) := ok_Range___init__ T
  refine T.F_law_made.ok sc_law_made (fun vs H Q E h => ?_) (fun cdv A outer s H vs Q E hr h => ?_)
  · obtain ⟨Z0, v_fact, x_fact, y, rfl, _⟩ := h
    rfl
  · obtain ⟨Z0, v_fact, x_fact, y, rfl, sz, h_fact, hF, q⟩ := h
    refine ⟨_, (pss_cons (ps_if (pt_cmpR op_eq (pe_ix ix_tup (pv 0) pe_int (fun _ _ => rfl)) pe_str (nomark _)) (pss_one ps_dead) pss_nil) 
      (pss_cons (ps_if (pt_cmpR op_eq (pe_ix ix_tup (pv 0) pe_int (fun _ _ => rfl)) pe_str (nomark _)) (pss_one ps_dead) pss_nil) 
      (pss_cons (ps_if (pt_cmpR op_eq (pe_ix ix_tup (pv 0) pe_int (fun _ _ => rfl)) pe_str (nomark _)) (pss_one ps_dead) pss_nil) 
      (pss_cons (ps_if (pt_cmpR op_eq (pe_ix ix_tup (pv 0) pe_int (fun _ _ => rfl)) pe_str (nomark _)) (pss_one ps_dead) pss_nil) 
      (pss_cons (ps_if (pt_cmpR op_eq (pe_ix ix_tup (pv 0) pe_int (fun _ _ => rfl)) pe_str (nomark _)) (pss_one ps_dead) pss_nil) 
      (pss_cons (ps_if (pt_cmpR op_eq (pe_ix ix_tup (pv 0) pe_int (fun _ _ => rfl)) pe_str (nomark _)) (pss_one (ps_ret (pe_makeK T.mk_Range G_Range___init__ (hr.mono (by decide)) (by rfl) T.mc_Range T.kb_Range___init__ pass0 (pa_cons (pe_ix ix_tup (pv 0) pe_int (fun _ _ => rfl)) (pa_cons (pe_ix ix_tup (pv 0) pe_int (fun _ _ => rfl)) (pa_cons (pe_ix ix_tup (pv 0) pe_int (fun _ _ => rfl)) pa_nil))) (pk_cons (pe_ix ix_tup (pv 0) pe_int (fun _ _ => rfl)) pk_nil)))) pss_nil) 
      (pss_cons (ps_if (pt_cmpR op_eq (pe_ix ix_tup (pv 0) pe_int (fun _ _ => rfl)) pe_str (nomark _)) (pss_one (ps_ret (pe_makeK T.mk_Values G_Values___init__ (hr.mono (by decide)) (by rfl) T.mc_Values T.kb_Values___init__ pass0 (pa_cons (pe_ix ix_tup (pv 0) pe_int (fun _ _ => rfl)) (pa_cons (pe_callTy call_list_of (by rfl) T.m_list (by decide +kernel) (pa_cons (pe_ix ix_tup (pv 0) pe_int (fun _ _ => rfl)) pa_nil)) pa_nil)) (pk_cons (pe_ix ix_tup (pv 0) pe_int (fun _ _ => rfl)) pk_nil)))) pss_nil) 
      (pss_cons (ps_if (pt_cmpR op_eq (pe_ix ix_tup (pv 0) pe_int (fun _ _ => rfl)) pe_str (nomark _)) (pss_one ps_dead) pss_nil) 
      (pss_one ps_dead))))))))), ?_⟩
    have P := Pt.start0 sz
    unfold F_law_made at hF
    refine st_seq (st_if P (et_cmp (ev_eq flat_str (tg_FT T (ev_var (τ := (y_FT T)) rfl h_fact) ev_int) ev_str)) (fun b_396 Z1 H1 e P1 => ?_) (fun b_396 Z1 H1 e P1 => ?_))
    · replace P := P1
      have hB := ifT b_396 hF
      replace hF := hB
      clear hB
      replace h_fact := ((y_FT T)).mono e.z h_fact
      cases hF
    · replace P := P1
      have hB := ifF b_396 hF
      replace hF := hB
      clear hB
      refine st_next0 ?_
      replace h_fact := ((y_FT T)).mono e.z h_fact
      refine st_seq (st_if P (et_cmp (ev_eq flat_str (tg_FT T (ev_var (τ := (y_FT T)) rfl h_fact) ev_int) ev_str)) (fun b_397 Z1 H1 e P1 => ?_) (fun b_397 Z1 H1 e P1 => ?_))
      · replace P := P1
        have hB := ifT b_397 hF
        replace hF := hB
        clear hB
        replace h_fact := ((y_FT T)).mono e.z h_fact
        cases hF
      · replace P := P1
        have hB := ifF b_397 hF
        replace hF := hB
        clear hB
        refine st_next0 ?_
        replace h_fact := ((y_FT T)).mono e.z h_fact
        refine st_seq (st_if P (et_cmp (ev_eq flat_str (tg_FT T (ev_var (τ := (y_FT T)) rfl h_fact) ev_int) ev_str)) (fun b_398 Z1 H1 e P1 => ?_) (fun b_398 Z1 H1 e P1 => ?_))
        · replace P := P1
          have hB := ifT b_398 hF
          replace hF := hB
          clear hB
          replace h_fact := ((y_FT T)).mono e.z h_fact
          cases hF
        · replace P := P1
          have hB := ifF b_398 hF
          replace hF := hB
          clear hB
          refine st_next0 ?_
          replace h_fact := ((y_FT T)).mono e.z h_fact
          refine st_seq (st_if P (et_cmp (ev_eq flat_str (tg_FT T (ev_var (τ := (y_FT T)) rfl h_fact) ev_int) ev_str)) (fun b_399 Z1 H1 e P1 => ?_) (fun b_399 Z1 H1 e P1 => ?_))
          · replace P := P1
            have hB := ifT b_399 hF
            replace hF := hB
            clear hB
            replace h_fact := ((y_FT T)).mono e.z h_fact
            cases hF
          · replace P := P1
            have hB := ifF b_399 hF
            replace hF := hB
            clear hB
            refine st_next0 ?_
            replace h_fact := ((y_FT T)).mono e.z h_fact
            refine st_seq (st_if P (et_cmp (ev_eq flat_str (tg_FT T (ev_var (τ := (y_FT T)) rfl h_fact) ev_int) ev_str)) (fun b_400 Z1 H1 e P1 => ?_) (fun b_400 Z1 H1 e P1 => ?_))
            · replace P := P1
              have hB := ifT b_400 hF
              replace hF := hB
              clear hB
              replace h_fact := ((y_FT T)).mono e.z h_fact
              cases hF
            · replace P := P1
              have hB := ifF b_400 hF
              replace hF := hB
              clear hB
              refine st_next0 ?_
              replace h_fact := ((y_FT T)).mono e.z h_fact
              refine st_seq (st_if P (et_cmp (ev_eq flat_str (tg_FT T (ev_var (τ := (y_FT T)) rfl h_fact) ev_int) ev_str)) (fun b_401 Z1 H1 e P1 => ?_) (fun b_401 Z1 H1 e P1 => ?_))
              · replace P := P1
                have hB := ifT b_401 hF
                replace hF := hB
                clear hB
                replace h_fact := ((y_FT T)).mono e.z h_fact
                obtain ⟨a_402, h_403, hF⟩ := bind_inv hF
                obtain ⟨a_404, h_405, hF⟩ := bind_inv hF
                obtain ⟨a_406, h_407, hF⟩ := bind_inv hF
                obtain ⟨a_408, h_409, hF⟩ := bind_inv hF
                replace hF := Option.some.inj hF
                subst hF
                refine st_ret P (ij_Fa_range T (ev_makeK (is_Range___init__ T) (eva_cons (sl_FT_0 T (ev_var (τ := (y_FT T)) rfl h_fact) ev_int h_403) (eva_cons (sl_FT_1 T (ev_var (τ := (y_FT T)) rfl h_fact) ev_int h_405) (eva_cons (sl_FT_2 T (ev_var (τ := (y_FT T)) rfl h_fact) ev_int h_407) eva_nil))) (eva_cons (sl_FT_3 T (ev_var (τ := (y_FT T)) rfl h_fact) ev_int h_409) eva_nil) (fun Z H vs zs x hv hz => by
                      obtain ⟨v0, _, rfl, hv0, ⟨v1, _, rfl, hv1, ⟨v2, _, rfl, hv2, rfl⟩⟩⟩ := hv
                      obtain ⟨w0, _, rfl, hw0, rfl⟩ := hz
                      exact ⟨rfl, rfl, _, rfl, ⟨v0, _, rfl, hv0, ⟨v1, _, rfl, hv1, ⟨v2, _, rfl, hv2, ⟨w0, _, rfl, hw0, rfl⟩⟩⟩⟩⟩))) (fun v Z1 H1 P1 hv => ?_)
                exact q v _ _ P1.st hv
              · replace P := P1
                have hB := ifF b_401 hF
                replace hF := hB
                clear hB
                refine st_next0 ?_
                replace h_fact := ((y_FT T)).mono e.z h_fact
                refine st_seq (st_if P (et_cmp (ev_eq flat_str (tg_FT T (ev_var (τ := (y_FT T)) rfl h_fact) ev_int) ev_str)) (fun b_410 Z1 H1 e P1 => ?_) (fun b_410 Z1 H1 e P1 => ?_))
                · replace P := P1
                  have hB := ifT b_410 hF
                  replace hF := hB
                  clear hB
                  replace h_fact := ((y_FT T)).mono e.z h_fact
                  obtain ⟨a_411, h_412, hF⟩ := bind_inv hF
                  obtain ⟨a_415, h_416, hF⟩ := bind_inv hF
                  obtain ⟨a_417, h_418, hF⟩ := bind_inv hF
                  replace hF := Option.some.inj hF
                  subst hF
                  refine st_ret P (ij_Fa_values T (ev_makeK (is_Values___init__ T) (eva_cons (sl_FT_0 T (ev_var (τ := (y_FT T)) rfl h_fact) ev_int h_412) (eva_cons (ev_fz (en_list_of (fun _ _ _ h => h) (ev_li (sl_FT_4 T (ev_var (τ := (y_FT T)) rfl h_fact) ev_int h_416)))) eva_nil)) (eva_cons (sl_FT_5 T (ev_var (τ := (y_FT T)) rfl h_fact) ev_int h_418) eva_nil) (fun Z H vs zs x hv hz => by
                        obtain ⟨v0, _, rfl, hv0, ⟨v1, _, rfl, hv1, rfl⟩⟩ := hv
                        obtain ⟨w0, _, rfl, hw0, rfl⟩ := hz
                        exact ⟨rfl, rfl, _, rfl, ⟨v0, _, rfl, hv0, ⟨v1, _, rfl, hv1, ⟨w0, _, rfl, hw0, rfl⟩⟩⟩⟩))) (fun v Z1 H1 P1 hv => ?_)
                  exact q v _ _ P1.st hv
                · replace P := P1
                  have hB := ifF b_410 hF
                  replace hF := hB
                  clear hB
                  refine st_next0 ?_
                  replace h_fact := ((y_FT T)).mono e.z h_fact
                  refine st_seq (st_if P (et_cmp (ev_eq flat_str (tg_FT T (ev_var (τ := (y_FT T)) rfl h_fact) ev_int) ev_str)) (fun b_419 Z1 H1 e P1 => ?_) (fun b_419 Z1 H1 e P1 => ?_))
                  · replace P := P1
                    have hB := ifT b_419 hF
                    replace hF := hB
                    clear hB
                    replace h_fact := ((y_FT T)).mono e.z h_fact
                    cases hF
                  · replace P := P1
                    have hB := ifF b_419 hF
                    replace hF := hB
                    clear hB
                    refine st_next0 ?_
                    replace h_fact := ((y_FT T)).mono e.z h_fact
                    cases hF
theorem cs_law_made (T : Txt K mg) {μ : Type} {M : Mu μ} {s : μ} {E : XK} {x_fact : FT} {y : Fa} (h : F_law_made x_fact = some y) : CallS M (sp_law_made T) E (rac (ty (y_FT T) x_fact) ra0) s (ty (y_Fa T) y) s := by
  rintro Z H vs sz m ⟨v_fact, _, rfl, h_fact, rfl⟩ Q q
  exact ⟨Z, v_fact, x_fact, y, rfl, sz, h_fact, h, fun v Z2 H2 st hv => q v Z2 H2 st.pure (M.pure st m) hv⟩
def sp_Either___init__ (T : Txt K mg) : Sp := fun vs H Q _ => ∃ (p dx : Addr) (Z0 : Hp) (v_a : V) (v_b : V) (x_a : Cond) (x_b : Cond), vs = [.ref p, v_a, v_b] ∧ (Same Z0 H) ∧ (H p = some (.ins T.c_Either dx [])) ∧ (Z0 p = none) ∧ (((y_Cond T)).r Z0 v_a x_a) ∧ (((y_Cond T)).r Z0 v_b x_b) ∧ ∀ Z' H' o, Step [p] Z0 H Z' H' → H' p = some o → (y_Either T).r (upd Z' p o) (.ref p) (F_Either___init__ x_a x_b) → Q .non H'
set_option maxHeartbeats 4000000 in
theorem ok_Either___init__ (T : Txt K mg) : FnOk P w K mg base CX0 1 T.f_Either___init__ T.d_Either___init__ ["self", "a", "b"] (sp_Either___init__ T) := by
  refine T.F_Either___init__.ok sc_Either___init__ (fun vs H Q E h => ?_) (fun cdv A outer s H vs Q E hr h => ?_)
  · obtain ⟨p, dx, Z0, v_a, v_b, x_a, x_b, rfl, _⟩ := h
    rfl
  · obtain ⟨p, dx, Z0, v_a, v_b, x_a, x_b, rfl, sz, hself, zself, h_a, h_b, q⟩ := h
    refine ⟨_, (pss_cons (ps_fld (pv 0) (pv 1) rfl) 
      (pss_one (ps_fld (pv 0) (pv 2) rfl))), ?_⟩
    have P : Pt [p] Z0 H muN Z0 H () := ⟨Step.refl sz, trivial, fun _ h => (nomatch h)⟩
    generalize hF : F_Either___init__ x_a x_b = y at q
    unfold F_Either___init__ at hF
    refine st_seq (st_fld (x := x_a) (τ := (y_Cond T)) P hself zself List.not_mem_nil (.inl List.mem_cons_self) rfl (ev_var (τ := (y_Cond T)) rfl h_a) T.cl_Either T.n_Either_a (Nat.lt_of_le_of_lt (Nat.le_refl 0) (by decide)) (fun v_420 Z1 H1 e P1 k_421 hself1 zself1 => ?_))
    refine st_nx ?_
    replace P := P1
    replace hself := hself1
    replace zself := zself1
    replace h_b := ((y_Cond T)).mono e.z h_b
    refine st_fld (x := x_b) (τ := (y_Cond T)) P hself zself List.not_mem_nil (.inl List.mem_cons_self) rfl (ev_var (τ := (y_Cond T)) rfl h_b) T.cl_Either T.n_Either_b (Nat.lt_of_le_of_lt (putF_le (Nat.le_refl 0)) (by decide)) (fun v_422 Z1 H1 e P1 k_423 hself1 zself1 => ?_)
    replace P := P1
    replace hself := hself1
    replace zself := zself1
    replace k_421 := ((y_Cond T)).mono e.z k_421
    subst hF
    exact q _ _ _ P.st hself ⟨p, dx, v_420, v_422, rfl, upd_same, ((y_Cond T)).mono (same_upd zself) k_421, ((y_Cond T)).mono (same_upd zself) k_423⟩
theorem is_Either___init__ (T : Txt K mg) {μ : Type} {M : Mu μ} {s : μ} {E : XK} {x_a : Cond} {x_b : Cond} : InitS M T.c_Either (sp_Either___init__ T) E (rac (ty (y_Cond T) x_a) (rac (ty (y_Cond T) x_b) ra0)) s (ty (y_Either T) (F_Either___init__ x_a x_b)) s := by
  rintro Z H vs x dx sz m ⟨v_a, _, rfl, h_a, ⟨v_b, _, rfl, h_b, rfl⟩⟩ hx zx nx Q q
  exact ⟨x, dx, Z, v_a, v_b, x_a, x_b, rfl, sz, hx, zx, h_a, h_b, fun Z2 H2 o st ho hr => q Z2 H2 o (st.weak fun a h => by rw [List.mem_singleton] at h; rw [h]; exact .inl List.mem_cons_self) (Mu.away st nx m) ho hr⟩
def sp_Has___init__ (T : Txt K mg) : Sp := fun vs H Q _ => ∃ (p dx : Addr) (Z0 : Hp) (v_field : V) (x_field : Str), vs = [.ref p, v_field] ∧ (Same Z0 H) ∧ (H p = some (.ins T.c_Has dx [])) ∧ (Z0 p = none) ∧ ((yStr).r Z0 v_field x_field) ∧ ∀ Z' H' o, Step [p] Z0 H Z' H' → H' p = some o → (y_Has T).r (upd Z' p o) (.ref p) (F_Has___init__ x_field) → Q .non H'
set_option maxHeartbeats 4000000 in
theorem ok_Has___init__ (T : Txt K mg) : FnOk P w K mg base CX0 1 T.f_Has___init__ T.d_Has___init__ ["self", "field"] (sp_Has___init__ T) := by
  refine T.F_Has___init__.ok sc_Has___init__ (fun vs H Q E h => ?_) (fun cdv A outer s H vs Q E hr h => ?_)
  · obtain ⟨p, dx, Z0, v_field, x_field, rfl, _⟩ := h
    rfl
  · obtain ⟨p, dx, Z0, v_field, x_field, rfl, sz, hself, zself, h_field, q⟩ := h
    refine ⟨_, (pss_one (ps_fld (pv 0) (pv 1) rfl)), ?_⟩
    have P : Pt [p] Z0 H muN Z0 H () := ⟨Step.refl sz, trivial, fun _ h => (nomatch h)⟩
    generalize hF : F_Has___init__ x_field = y at q
    unfold F_Has___init__ at hF
    refine st_fld (x := x_field) (τ := yStr) P hself zself List.not_mem_nil (.inl List.mem_cons_self) rfl (ev_var (τ := yStr) rfl h_field) T.cl_Has T.n_Has_field (Nat.lt_of_le_of_lt (Nat.le_refl 0) (by decide)) (fun v_424 Z1 H1 e P1 k_425 hself1 zself1 => ?_)
    replace P := P1
    replace hself := hself1
    replace zself := zself1
    subst hF
    exact q _ _ _ P.st hself ⟨p, dx, v_424, rfl, upd_same, k_425⟩
theorem is_Has___init__ (T : Txt K mg) {μ : Type} {M : Mu μ} {s : μ} {E : XK} {x_field : Str} : InitS M T.c_Has (sp_Has___init__ T) E (rac (ty yStr x_field) ra0) s (ty (y_Has T) (F_Has___init__ x_field)) s := by
  rintro Z H vs x dx sz m ⟨v_field, _, rfl, h_field, rfl⟩ hx zx nx Q q
  exact ⟨x, dx, Z, v_field, x_field, rfl, sz, hx, zx, h_field, fun Z2 H2 o st ho hr => q Z2 H2 o (st.weak fun a h => by rw [List.mem_singleton] at h; rw [h]; exact .inl List.mem_cons_self) (Mu.away st nx m) ho hr⟩
def sp_Compare___init__ (T : Txt K mg) : Sp := fun vs H Q _ => ∃ (p dx : Addr) (Z0 : Hp) (v_field : V) (v_sign : V) (v_value : V) (x_field : Str) (x_sign : Str) (x_value : Val), vs = [.ref p, v_field, v_sign, v_value] ∧ (Same Z0 H) ∧ (H p = some (.ins T.c_Compare dx [])) ∧ (Z0 p = none) ∧ ((yStr).r Z0 v_field x_field) ∧ ((yStr).r Z0 v_sign x_sign) ∧ (((y_Val T)).r Z0 v_value x_value) ∧ ∀ Z' H' o, Step [p] Z0 H Z' H' → H' p = some o → (y_Compare T).r (upd Z' p o) (.ref p) (F_Compare___init__ x_field x_sign x_value) → Q .non H'
set_option maxHeartbeats 4000000 in
theorem ok_Compare___init__ (T : Txt K mg) : FnOk P w K mg base CX0 1 T.f_Compare___init__ T.d_Compare___init__ ["self", "field", "sign", "value"] (sp_Compare___init__ T) := by
  refine T.F_Compare___init__.ok sc_Compare___init__ (fun vs H Q E h => ?_) (fun cdv A outer s H vs Q E hr h => ?_)
  · obtain ⟨p, dx, Z0, v_field, v_sign, v_value, x_field, x_sign, x_value, rfl, _⟩ := h
    rfl
  · obtain ⟨p, dx, Z0, v_field, v_sign, v_value, x_field, x_sign, x_value, rfl, sz, hself, zself, h_field, h_sign, h_value, q⟩ := h
    refine ⟨_, (pss_cons (ps_fld (pv 0) (pv 1) rfl) 
      (pss_cons (ps_fld (pv 0) (pv 2) rfl) 
      (pss_one (ps_fld (pv 0) (pv 3) rfl)))), ?_⟩
    have P : Pt [p] Z0 H muN Z0 H () := ⟨Step.refl sz, trivial, fun _ h => (nomatch h)⟩
    generalize hF : F_Compare___init__ x_field x_sign x_value = y at q
    unfold F_Compare___init__ at hF
    refine st_seq (st_fld (x := x_field) (τ := yStr) P hself zself List.not_mem_nil (.inl List.mem_cons_self) rfl (ev_var (τ := yStr) rfl h_field) T.cl_Compare T.n_Compare_field (Nat.lt_of_le_of_lt (Nat.le_refl 0) (by decide)) (fun v_426 Z1 H1 e P1 k_427 hself1 zself1 => ?_))
    refine st_nx ?_
    replace P := P1
    replace hself := hself1
    replace zself := zself1
    replace h_value := ((y_Val T)).mono e.z h_value
    refine st_seq (st_fld (x := x_sign) (τ := yStr) P hself zself List.not_mem_nil (.inl List.mem_cons_self) rfl (ev_var (τ := yStr) rfl h_sign) T.cl_Compare T.n_Compare_sign (Nat.lt_of_le_of_lt (putF_le (Nat.le_refl 0)) (by decide)) (fun v_428 Z1 H1 e P1 k_429 hself1 zself1 => ?_))
    refine st_nx ?_
    replace P := P1
    replace hself := hself1
    replace zself := zself1
    replace h_value := ((y_Val T)).mono e.z h_value
    refine st_fld (x := x_value) (τ := (y_Val T)) P hself zself List.not_mem_nil (.inl List.mem_cons_self) rfl (ev_var (τ := (y_Val T)) rfl h_value) T.cl_Compare T.n_Compare_value (Nat.lt_of_le_of_lt (putF_le (putF_le (Nat.le_refl 0))) (by decide)) (fun v_430 Z1 H1 e P1 k_431 hself1 zself1 => ?_)
    replace P := P1
    replace hself := hself1
    replace zself := zself1
    subst hF
    exact q _ _ _ P.st hself ⟨p, dx, v_426, v_428, v_430, rfl, upd_same, k_427, k_429, ((y_Val T)).mono (same_upd zself) k_431⟩
theorem is_Compare___init__ (T : Txt K mg) {μ : Type} {M : Mu μ} {s : μ} {E : XK} {x_field : Str} {x_sign : Str} {x_value : Val} : InitS M T.c_Compare (sp_Compare___init__ T) E (rac (ty yStr x_field) (rac (ty yStr x_sign) (rac (ty (y_Val T) x_value) ra0))) s (ty (y_Compare T) (F_Compare___init__ x_field x_sign x_value)) s := by
  rintro Z H vs x dx sz m ⟨v_field, _, rfl, h_field, ⟨v_sign, _, rfl, h_sign, ⟨v_value, _, rfl, h_value, rfl⟩⟩⟩ hx zx nx Q q
  exact ⟨x, dx, Z, v_field, v_sign, v_value, x_field, x_sign, x_value, rfl, sz, hx, zx, h_field, h_sign, h_value, fun Z2 H2 o st ho hr => q Z2 H2 o (st.weak fun a h => by rw [List.mem_singleton] at h; rw [h]; exact .inl List.mem_cons_self) (Mu.away st nx m) ho hr⟩
def sp_OneOf___init__ (T : Txt K mg) : Sp := fun vs H Q _ => ∃ (p dx : Addr) (Z0 : Hp) (v_field : V) (v_choices : V) (x_field : Str) (x_choices : (List Val)), vs = [.ref p, v_field, v_choices] ∧ (Same Z0 H) ∧ (H p = some (.ins T.c_OneOf dx [])) ∧ (Z0 p = none) ∧ ((yStr).r Z0 v_field x_field) ∧ (((yList (y_Val T))).r Z0 v_choices x_choices) ∧ ∀ Z' H' o, Step [p] Z0 H Z' H' → H' p = some o → (y_OneOf T).r (upd Z' p o) (.ref p) (F_OneOf___init__ x_field x_choices) → Q .non H'
set_option maxHeartbeats 4000000 in
theorem ok_OneOf___init__ (T : Txt K mg) : FnOk P w K mg base CX0 1 T.f_OneOf___init__ T.d_OneOf___init__ ["self", "field", "choices"] (sp_OneOf___init__ T) := by
  refine T.F_OneOf___init__.ok sc_OneOf___init__ (fun vs H Q E h => ?_) (fun cdv A outer s H vs Q E hr h => ?_)
  · obtain ⟨p, dx, Z0, v_field, v_choices, x_field, x_choices, rfl, _⟩ := h
    rfl
  · obtain ⟨p, dx, Z0, v_field, v_choices, x_field, x_choices, rfl, sz, hself, zself, h_field, h_choices, q⟩ := h
    refine ⟨_, (pss_cons (ps_fld (pv 0) (pv 1) rfl) 
      (pss_one (ps_fld (pv 0) (pe_callTy call_tuple_of (by rfl) T.m_tuple (by decide +kernel) (pa_cons (pv 2) pa_nil)) rfl))), ?_⟩
    have P : Pt [p] Z0 H muN Z0 H () := ⟨Step.refl sz, trivial, fun _ h => (nomatch h)⟩
    generalize hF : F_OneOf___init__ x_field x_choices = y at q
    unfold F_OneOf___init__ at hF
    refine st_seq (st_fld (x := x_field) (τ := yStr) P hself zself List.not_mem_nil (.inl List.mem_cons_self) rfl (ev_var (τ := yStr) rfl h_field) T.cl_OneOf T.n_OneOf_field (Nat.lt_of_le_of_lt (Nat.le_refl 0) (by decide)) (fun v_432 Z1 H1 e P1 k_433 hself1 zself1 => ?_))
    refine st_nx ?_
    replace P := P1
    replace hself := hself1
    replace zself := zself1
    replace h_choices := ((yList (y_Val T))).mono e.z h_choices
    refine st_fld (x := x_choices) (τ := (yTup K (y_Val T))) P hself zself List.not_mem_nil (.inl List.mem_cons_self) rfl (ev_tuple_of (fun _ _ _ h => h) (ev_li (ev_var (τ := (yList (y_Val T))) rfl h_choices))) T.cl_OneOf T.n_OneOf_choices (Nat.lt_of_le_of_lt (putF_le (Nat.le_refl 0)) (by decide)) (fun v_434 Z1 H1 e P1 k_435 hself1 zself1 => ?_)
    replace P := P1
    replace hself := hself1
    replace zself := zself1
    subst hF
    exact q _ _ _ P.st hself ⟨p, dx, v_432, v_434, rfl, upd_same, k_433, ((yTup K (y_Val T))).mono (same_upd zself) k_435⟩
theorem is_OneOf___init__ (T : Txt K mg) {μ : Type} {M : Mu μ} {s : μ} {E : XK} {x_field : Str} {x_choices : (List Val)} : InitS M T.c_OneOf (sp_OneOf___init__ T) E (rac (ty yStr x_field) (rac (ty (yList (y_Val T)) x_choices) ra0)) s (ty (y_OneOf T) (F_OneOf___init__ x_field x_choices)) s := by
  rintro Z H vs x dx sz m ⟨v_field, _, rfl, h_field, ⟨v_choices, _, rfl, h_choices, rfl⟩⟩ hx zx nx Q q
  exact ⟨x, dx, Z, v_field, v_choices, x_field, x_choices, rfl, sz, hx, zx, h_field, h_choices, fun Z2 H2 o st ho hr => q Z2 H2 o (st.weak fun a h => by rw [List.mem_singleton] at h; rw [h]; exact .inl List.mem_cons_self) (Mu.away st nx m) ho hr⟩
def sp_Negation___init__ (T : Txt K mg) : Sp := fun vs H Q _ => ∃ (p dx : Addr) (Z0 : Hp) (v_a : V) (x_a : Cond), vs = [.ref p, v_a] ∧ (Same Z0 H) ∧ (H p = some (.ins T.c_Negation dx [])) ∧ (Z0 p = none) ∧ (((y_Cond T)).r Z0 v_a x_a) ∧ ∀ Z' H' o, Step [p] Z0 H Z' H' → H' p = some o → (y_Negation T).r (upd Z' p o) (.ref p) (F_Negation___init__ x_a) → Q .non H'
set_option maxHeartbeats 4000000 in
theorem ok_Negation___init__ (T : Txt K mg) : FnOk P w K mg base CX0 1 T.f_Negation___init__ T.d_Negation___init__ ["self", "a"] (sp_Negation___init__ T) := by
  refine T.F_Negation___init__.ok sc_Negation___init__ (fun vs H Q E h => ?_) (fun cdv A outer s H vs Q E hr h => ?_)
  · obtain ⟨p, dx, Z0, v_a, x_a, rfl, _⟩ := h
    rfl
  · obtain ⟨p, dx, Z0, v_a, x_a, rfl, sz, hself, zself, h_a, q⟩ := h
    refine ⟨_, (pss_one (ps_fld (pv 0) (pv 1) rfl)), ?_⟩
    have P : Pt [p] Z0 H muN Z0 H () := ⟨Step.refl sz, trivial, fun _ h => (nomatch h)⟩
    generalize hF : F_Negation___init__ x_a = y at q
    unfold F_Negation___init__ at hF
    refine st_fld (x := x_a) (τ := (y_Cond T)) P hself zself List.not_mem_nil (.inl List.mem_cons_self) rfl (ev_var (τ := (y_Cond T)) rfl h_a) T.cl_Negation T.n_Negation_a (Nat.lt_of_le_of_lt (Nat.le_refl 0) (by decide)) (fun v_436 Z1 H1 e P1 k_437 hself1 zself1 => ?_)
    replace P := P1
    replace hself := hself1
    replace zself := zself1
    subst hF
    exact q _ _ _ P.st hself ⟨p, dx, v_436, rfl, upd_same, ((y_Cond T)).mono (same_upd zself) k_437⟩
theorem is_Negation___init__ (T : Txt K mg) {μ : Type} {M : Mu μ} {s : μ} {E : XK} {x_a : Cond} : InitS M T.c_Negation (sp_Negation___init__ T) E (rac (ty (y_Cond T) x_a) ra0) s (ty (y_Negation T) (F_Negation___init__ x_a)) s := by
  rintro Z H vs x dx sz m ⟨v_a, _, rfl, h_a, rfl⟩ hx zx nx Q q
  exact ⟨x, dx, Z, v_a, x_a, rfl, sz, hx, zx, h_a, fun Z2 H2 o st ho hr => q Z2 H2 o (st.weak fun a h => by rw [List.mem_singleton] at h; rw [h]; exact .inl List.mem_cons_self) (Mu.away st nx m) ho hr⟩
def sp_Both___init__ (T : Txt K mg) : Sp := fun vs H Q _ => ∃ (p dx : Addr) (Z0 : Hp) (v_a : V) (v_b : V) (x_a : Cond) (x_b : Cond), vs = [.ref p, v_a, v_b] ∧ (Same Z0 H) ∧ (H p = some (.ins T.c_Both dx [])) ∧ (Z0 p = none) ∧ (((y_Cond T)).r Z0 v_a x_a) ∧ (((y_Cond T)).r Z0 v_b x_b) ∧ ∀ Z' H' o, Step [p] Z0 H Z' H' → H' p = some o → (y_Both T).r (upd Z' p o) (.ref p) (F_Both___init__ x_a x_b) → Q .non H'
set_option maxHeartbeats 4000000 in
theorem ok_Both___init__ (T : Txt K mg) : FnOk P w K mg base CX0 1 T.f_Both___init__ T.d_Both___init__ ["self", "a", "b"] (sp_Both___init__ T) := by
  refine T.F_Both___init__.ok sc_Both___init__ (fun vs H Q E h => ?_) (fun cdv A outer s H vs Q E hr h => ?_)
  · obtain ⟨p, dx, Z0, v_a, v_b, x_a, x_b, rfl, _⟩ := h
    rfl
  · obtain ⟨p, dx, Z0, v_a, v_b, x_a, x_b, rfl, sz, hself, zself, h_a, h_b, q⟩ := h
    refine ⟨_, (pss_cons (ps_fld (pv 0) (pv 1) rfl) 
      (pss_one (ps_fld (pv 0) (pv 2) rfl))), ?_⟩
    have P : Pt [p] Z0 H muN Z0 H () := ⟨Step.refl sz, trivial, fun _ h => (nomatch h)⟩
    generalize hF : F_Both___init__ x_a x_b = y at q
    unfold F_Both___init__ at hF
    refine st_seq (st_fld (x := x_a) (τ := (y_Cond T)) P hself zself List.not_mem_nil (.inl List.mem_cons_self) rfl (ev_var (τ := (y_Cond T)) rfl h_a) T.cl_Both T.n_Both_a (Nat.lt_of_le_of_lt (Nat.le_refl 0) (by decide)) (fun v_438 Z1 H1 e P1 k_439 hself1 zself1 => ?_))
    refine st_nx ?_
    replace P := P1
    replace hself := hself1
    replace zself := zself1
    replace h_b := ((y_Cond T)).mono e.z h_b
    refine st_fld (x := x_b) (τ := (y_Cond T)) P hself zself List.not_mem_nil (.inl List.mem_cons_self) rfl (ev_var (τ := (y_Cond T)) rfl h_b) T.cl_Both T.n_Both_b (Nat.lt_of_le_of_lt (putF_le (Nat.le_refl 0)) (by decide)) (fun v_440 Z1 H1 e P1 k_441 hself1 zself1 => ?_)
    replace P := P1
    replace hself := hself1
    replace zself := zself1
    replace k_439 := ((y_Cond T)).mono e.z k_439
    subst hF
    exact q _ _ _ P.st hself ⟨p, dx, v_438, v_440, rfl, upd_same, ((y_Cond T)).mono (same_upd zself) k_439, ((y_Cond T)).mono (same_upd zself) k_441⟩
theorem is_Both___init__ (T : Txt K mg) {μ : Type} {M : Mu μ} {s : μ} {E : XK} {x_a : Cond} {x_b : Cond} : InitS M T.c_Both (sp_Both___init__ T) E (rac (ty (y_Cond T) x_a) (rac (ty (y_Cond T) x_b) ra0)) s (ty (y_Both T) (F_Both___init__ x_a x_b)) s := by
  rintro Z H vs x dx sz m ⟨v_a, _, rfl, h_a, ⟨v_b, _, rfl, h_b, rfl⟩⟩ hx zx nx Q q
  exact ⟨x, dx, Z, v_a, v_b, x_a, x_b, rfl, sz, hx, zx, h_a, h_b, fun Z2 H2 o st ho hr => q Z2 H2 o (st.weak fun a h => by rw [List.mem_singleton] at h; rw [h]; exact .inl List.mem_cons_self) (Mu.away st nx m) ho hr⟩
def sg_law_built (T : Txt K mg) (g : Grp2) : Sp := fun vs H Q _ => ∃ (Z0 : Hp) (v_tree : V) (x_tree : Tree) (y : Cond), vs = [v_tree] ∧ (Same Z0 H) ∧ (((y_Tree T)).r Z0 v_tree x_tree) ∧ (g.h_law_built x_tree = some y) ∧ ∀ v Z' H', Step [] Z0 H Z' H' → ((y_Cond T)).r Z' v y → Q v H'
theorem csg_law_built (T : Txt K mg) {g : Grp2} {μ : Type} {M : Mu μ} {s : μ} {E : XK} {x_tree : Tree} {y : Cond} (h : (g.h_law_built) x_tree = some y) : CallS M (sg_law_built T g) E (rac (ty (y_Tree T) x_tree) ra0) s (ty (y_Cond T) y) s := by
  rintro Z H vs sz m ⟨v_tree, _, rfl, h_tree, rfl⟩ Q q
  exact ⟨Z, v_tree, x_tree, y, rfl, sz, h_tree, h, fun v Z2 H2 st hv => q v Z2 H2 st.pure (M.pure st m) hv⟩
set_option maxHeartbeats 4000000 in
theorem og_law_built (T : Txt K mg) {n n2 : Nat} {g g2 : Grp2} (hg : g2.h_law_built = S_law_built g) (hlo : 2 ≤ n) (hup : n + 1 ≤ n2 + 1) (G_law_built : FnOk P w K mg base CX0 n T.f_law_built T.d_law_built ["tree"] (sg_law_built T g)) : FnOk P w K mg base CX0 (n2 + 1) T.f_law_built T.d_law_built ["tree"] (sg_law_built T g2) := by
  have G_Either___init__ : FnOk P w K mg base CX0 1 T.f_Either___init__ T.d_Either___init__ ["self", "a", "b"] (sp_Either___init__ T) := ok_Either___init__ T
  have G_Both___init__ : FnOk P w K mg base CX0 1 T.f_Both___init__ T.d_Both___init__ ["self", "a", "b"] (sp_Both___init__ T) := ok_Both___init__ T
  have G_Negation___init__ : FnOk P w K mg base CX0 1 T.f_Negation___init__ T.d_Negation___init__ ["self", "a"] (sp_Negation___init__ T) := ok_Negation___init__ T
  have G_OneOf___init__ : FnOk P w K mg base CX0 1 T.f_OneOf___init__ T.d_OneOf___init__ ["self", "field", "choices"] (sp_OneOf___init__ T) := ok_OneOf___init__ T
  have G_Compare___init__ : FnOk P w K mg base CX0 1 T.f_Compare___init__ T.d_Compare___init__ ["self", "field", "sign", "value"] (sp_Compare___init__ T) := ok_Compare___init__ T
  have G_Has___init__ : FnOk P w K mg base CX0 1 T.f_Has___init__ T.d_Has___init__ ["self", "field"] (sp_Has___init__ T) := ok_Has___init__ T
  refine T.F_law_built.ok sc_law_built (fun vs H Q E h => ?_) (fun cdv A outer s H vs Q E hr h => ?_)
  · obtain ⟨Z0, v_tree, x_tree, y, rfl, _⟩ := h
    rfl
  · obtain ⟨Z0, v_tree, x_tree, y, rfl, sz, h_tree, hF, q⟩ := h
    refine ⟨_, (pss_cons (ps_if (pt_cmpR op_eq (pe_ix ix_tup (pv 0) pe_int (fun _ _ => rfl)) pe_str (nomark _)) (pss_one (ps_ret (pe_bare T.mb_Every (by rfl) T.mc_Every))) pss_nil) 
      (pss_cons (ps_if (pt_cmpR op_eq (pe_ix ix_tup (pv 0) pe_int (fun _ _ => rfl)) pe_str (nomark _)) (pss_one (ps_ret (pe_make T.mk_Has G_Has___init__ (hr.mono (by omega)) (by rfl) T.mc_Has T.b_Has___init__ .nil pass0 (pa_cons (pe_ix ix_tup (pv 0) pe_int (fun _ _ => rfl)) pa_nil)))) pss_nil) 
      (pss_cons (ps_if (pt_cmpR op_eq (pe_ix ix_tup (pv 0) pe_int (fun _ _ => rfl)) pe_str (nomark _)) (pss_one (ps_ret (pe_make T.mk_Compare G_Compare___init__ (hr.mono (by omega)) (by rfl) T.mc_Compare T.b_Compare___init__ .nil pass0 (pa_cons (pe_ix ix_tup (pv 0) pe_int (fun _ _ => rfl)) (pa_cons (pe_ix ix_tup (pv 0) pe_int (fun _ _ => rfl)) (pa_cons (pe_ix ix_tup (pv 0) pe_int (fun _ _ => rfl)) pa_nil)))))) pss_nil) 
      (pss_cons (ps_if (pt_cmpR op_eq (pe_ix ix_tup (pv 0) pe_int (fun _ _ => rfl)) pe_str (nomark _)) (pss_one (ps_ret (pe_make T.mk_OneOf G_OneOf___init__ (hr.mono (by omega)) (by rfl) T.mc_OneOf T.b_OneOf___init__ .nil pass0 (pa_cons (pe_ix ix_tup (pv 0) pe_int (fun _ _ => rfl)) (pa_cons (pe_callTy call_list_of (by rfl) T.m_list (by decide +kernel) (pa_cons (pe_ix ix_tup (pv 0) pe_int (fun _ _ => rfl)) pa_nil)) pa_nil))))) pss_nil) 
      (pss_cons (ps_if (pt_cmpR op_eq (pe_ix ix_tup (pv 0) pe_int (fun _ _ => rfl)) pe_str (nomark _)) (pss_one (ps_ret (pe_make T.mk_Negation G_Negation___init__ (hr.mono (by omega)) (by rfl) T.mc_Negation T.b_Negation___init__ .nil pass0 (pa_cons (pe_call G_law_built (hr.mono (by omega)) (by rfl) T.g_law_built T.F_law_built.kp T.b_law_built .nil pass0 (pa_cons (pe_ix ix_tup (pv 0) pe_int (fun _ _ => rfl)) pa_nil)) pa_nil)))) pss_nil) 
      (pss_cons (ps_if (pt_cmpR op_eq (pe_ix ix_tup (pv 0) pe_int (fun _ _ => rfl)) pe_str (nomark _)) (pss_one (ps_ret (pe_make T.mk_Both G_Both___init__ (hr.mono (by omega)) (by rfl) T.mc_Both T.b_Both___init__ .nil pass0 (pa_cons (pe_call G_law_built (hr.mono (by omega)) (by rfl) T.g_law_built T.F_law_built.kp T.b_law_built .nil pass0 (pa_cons (pe_ix ix_tup (pv 0) pe_int (fun _ _ => rfl)) pa_nil)) (pa_cons (pe_call G_law_built (hr.mono (by omega)) (by rfl) T.g_law_built T.F_law_built.kp T.b_law_built .nil pass0 (pa_cons (pe_ix ix_tup (pv 0) pe_int (fun _ _ => rfl)) pa_nil)) pa_nil))))) pss_nil) 
      (pss_one (ps_ret (pe_make T.mk_Either G_Either___init__ (hr.mono (by omega)) (by rfl) T.mc_Either T.b_Either___init__ .nil pass0 (pa_cons (pe_call G_law_built (hr.mono (by omega)) (by rfl) T.g_law_built T.F_law_built.kp T.b_law_built .nil pass0 (pa_cons (pe_ix ix_tup (pv 0) pe_int (fun _ _ => rfl)) pa_nil)) (pa_cons (pe_call G_law_built (hr.mono (by omega)) (by rfl) T.g_law_built T.F_law_built.kp T.b_law_built .nil pass0 (pa_cons (pe_ix ix_tup (pv 0) pe_int (fun _ _ => rfl)) pa_nil)) pa_nil))))))))))), ?_⟩
    have P := Pt.start0 sz
    rw [hg] at hF
    unfold S_law_built at hF
    refine st_seq (st_if P (et_cmp (ev_eq flat_str (tg_Tree T (ev_var (τ := (y_Tree T)) rfl h_tree) ev_int) ev_str)) (fun b_442 Z1 H1 e P1 => ?_) (fun b_442 Z1 H1 e P1 => ?_))
    · replace P := P1
      have hB := ifT b_442 hF
      replace hF := hB
      clear hB
      replace hF := Option.some.inj hF
      subst hF
      refine st_ret P (ij_Cond_every T (ev_bare (τ := y_Every T) (x := (⟨⟩ : Every)) (fun Z p dx h => ⟨p, dx, rfl, h⟩))) (fun v Z1 H1 P1 hv => ?_)
      exact q v _ _ P1.st hv
    · replace P := P1
      have hB := ifF b_442 hF
      replace hF := hB
      clear hB
      refine st_next0 ?_
      replace h_tree := ((y_Tree T)).mono e.z h_tree
      refine st_seq (st_if P (et_cmp (ev_eq flat_str (tg_Tree T (ev_var (τ := (y_Tree T)) rfl h_tree) ev_int) ev_str)) (fun b_443 Z1 H1 e P1 => ?_) (fun b_443 Z1 H1 e P1 => ?_))
      · replace P := P1
        have hB := ifT b_443 hF
        replace hF := hB
        clear hB
        replace h_tree := ((y_Tree T)).mono e.z h_tree
        obtain ⟨a_444, h_445, hF⟩ := bind_inv hF
        replace hF := Option.some.inj hF
        subst hF
        refine st_ret P (ij_Cond_has T (ev_make (is_Has___init__ T) (eva_cons (sl_Tree_6 T (ev_var (τ := (y_Tree T)) rfl h_tree) ev_int h_445) eva_nil))) (fun v Z1 H1 P1 hv => ?_)
        exact q v _ _ P1.st hv
      · replace P := P1
        have hB := ifF b_443 hF
        replace hF := hB
        clear hB
        refine st_next0 ?_
        replace h_tree := ((y_Tree T)).mono e.z h_tree
        refine st_seq (st_if P (et_cmp (ev_eq flat_str (tg_Tree T (ev_var (τ := (y_Tree T)) rfl h_tree) ev_int) ev_str)) (fun b_446 Z1 H1 e P1 => ?_) (fun b_446 Z1 H1 e P1 => ?_))
        · replace P := P1
          have hB := ifT b_446 hF
          replace hF := hB
          clear hB
          replace h_tree := ((y_Tree T)).mono e.z h_tree
          obtain ⟨a_447, h_448, hF⟩ := bind_inv hF
          obtain ⟨a_449, h_450, hF⟩ := bind_inv hF
          obtain ⟨a_451, h_452, hF⟩ := bind_inv hF
          replace hF := Option.some.inj hF
          subst hF
          refine st_ret P (ij_Cond_compare T (ev_make (is_Compare___init__ T) (eva_cons (sl_Tree_6 T (ev_var (τ := (y_Tree T)) rfl h_tree) ev_int h_448) (eva_cons (sl_Tree_7 T (ev_var (τ := (y_Tree T)) rfl h_tree) ev_int h_450) (eva_cons (sl_Tree_8 T (ev_var (τ := (y_Tree T)) rfl h_tree) ev_int h_452) eva_nil))))) (fun v Z1 H1 P1 hv => ?_)
          exact q v _ _ P1.st hv
        · replace P := P1
          have hB := ifF b_446 hF
          replace hF := hB
          clear hB
          refine st_next0 ?_
          replace h_tree := ((y_Tree T)).mono e.z h_tree
          refine st_seq (st_if P (et_cmp (ev_eq flat_str (tg_Tree T (ev_var (τ := (y_Tree T)) rfl h_tree) ev_int) ev_str)) (fun b_453 Z1 H1 e P1 => ?_) (fun b_453 Z1 H1 e P1 => ?_))
          · replace P := P1
            have hB := ifT b_453 hF
            replace hF := hB
            clear hB
            replace h_tree := ((y_Tree T)).mono e.z h_tree
            obtain ⟨a_454, h_455, hF⟩ := bind_inv hF
            obtain ⟨a_458, h_459, hF⟩ := bind_inv hF
            replace hF := Option.some.inj hF
            subst hF
            refine st_ret P (ij_Cond_one T (ev_make (is_OneOf___init__ T) (eva_cons (sl_Tree_6 T (ev_var (τ := (y_Tree T)) rfl h_tree) ev_int h_455) (eva_cons (ev_fz (en_list_of (fun _ _ _ h => h) (ev_li (sl_Tree_9 T (ev_var (τ := (y_Tree T)) rfl h_tree) ev_int h_459)))) eva_nil)))) (fun v Z1 H1 P1 hv => ?_)
            exact q v _ _ P1.st hv
          · replace P := P1
            have hB := ifF b_453 hF
            replace hF := hB
            clear hB
            refine st_next0 ?_
            replace h_tree := ((y_Tree T)).mono e.z h_tree
            refine st_seq (st_if P (et_cmp (ev_eq flat_str (tg_Tree T (ev_var (τ := (y_Tree T)) rfl h_tree) ev_int) ev_str)) (fun b_460 Z1 H1 e P1 => ?_) (fun b_460 Z1 H1 e P1 => ?_))
            · replace P := P1
              have hB := ifT b_460 hF
              replace hF := hB
              clear hB
              replace h_tree := ((y_Tree T)).mono e.z h_tree
              obtain ⟨a_461, h_462, hF⟩ := bind_inv hF
              obtain ⟨r_463, h_464, hF⟩ := bind_inv hF
              replace hF := Option.some.inj hF
              subst hF
              refine st_ret P (ij_Cond_neg T (ev_make (is_Negation___init__ T) (eva_cons (ev_call (csg_law_built T h_464) (eva_cons (sl_Tree_10 T (ev_var (τ := (y_Tree T)) rfl h_tree) ev_int h_462) eva_nil)) eva_nil))) (fun v Z1 H1 P1 hv => ?_)
              exact q v _ _ P1.st hv
            · replace P := P1
              have hB := ifF b_460 hF
              replace hF := hB
              clear hB
              refine st_next0 ?_
              replace h_tree := ((y_Tree T)).mono e.z h_tree
              refine st_seq (st_if P (et_cmp (ev_eq flat_str (tg_Tree T (ev_var (τ := (y_Tree T)) rfl h_tree) ev_int) ev_str)) (fun b_465 Z1 H1 e P1 => ?_) (fun b_465 Z1 H1 e P1 => ?_))
              · replace P := P1
                have hB := ifT b_465 hF
                replace hF := hB
                clear hB
                replace h_tree := ((y_Tree T)).mono e.z h_tree
                obtain ⟨a_466, h_467, hF⟩ := bind_inv hF
                obtain ⟨r_468, h_469, hF⟩ := bind_inv hF
                obtain ⟨a_470, h_471, hF⟩ := bind_inv hF
                obtain ⟨r_472, h_473, hF⟩ := bind_inv hF
                replace hF := Option.some.inj hF
                subst hF
                refine st_ret P (ij_Cond_both T (ev_make (is_Both___init__ T) (eva_cons (ev_call (csg_law_built T h_469) (eva_cons (sl_Tree_10 T (ev_var (τ := (y_Tree T)) rfl h_tree) ev_int h_467) eva_nil)) (eva_cons (ev_call (csg_law_built T h_473) (eva_cons (sl_Tree_11 T (ev_var (τ := (y_Tree T)) rfl h_tree) ev_int h_471) eva_nil)) eva_nil)))) (fun v Z1 H1 P1 hv => ?_)
                exact q v _ _ P1.st hv
              · replace P := P1
                have hB := ifF b_465 hF
                replace hF := hB
                clear hB
                refine st_next0 ?_
                replace h_tree := ((y_Tree T)).mono e.z h_tree
                obtain ⟨a_474, h_475, hF⟩ := bind_inv hF
                obtain ⟨r_476, h_477, hF⟩ := bind_inv hF
                obtain ⟨a_478, h_479, hF⟩ := bind_inv hF
                obtain ⟨r_480, h_481, hF⟩ := bind_inv hF
                replace hF := Option.some.inj hF
                subst hF
                refine st_ret P (ij_Cond_either T (ev_make (is_Either___init__ T) (eva_cons (ev_call (csg_law_built T h_477) (eva_cons (sl_Tree_10 T (ev_var (τ := (y_Tree T)) rfl h_tree) ev_int h_475) eva_nil)) (eva_cons (ev_call (csg_law_built T h_481) (eva_cons (sl_Tree_11 T (ev_var (τ := (y_Tree T)) rfl h_tree) ev_int h_479) eva_nil)) eva_nil)))) (fun v Z1 H1 P1 hv => ?_)
                exact q v _ _ P1.st hv
theorem ogs_2 (T : Txt K mg) : ∀ n, FnOk P w K mg base CX0 (1 + 1 * n + 1) T.f_law_built T.d_law_built ["tree"] (sg_law_built T (grp2 n))
  | 0 => ⟨fun _ _ _ _ h => (by obtain ⟨Z0, v_tree, x_tree, y, rfl, sz, h_tree, hF, _⟩ := h; exact nomatch (show (none : Option _) = some _ from hF)), fun _ _ _ _ _ _ _ _ _ _ _ _ _ h => (by obtain ⟨Z0, v_tree, x_tree, y, rfl, sz, h_tree, hF, _⟩ := h; exact nomatch (show (none : Option _) = some _ from hF))⟩
  | n + 1 => og_law_built T rfl (n := 1 + 1 * n + 1) (n2 := 1 + 1 * (n + 1)) (by omega) (by omega) (ogs_2 T n)
def sp_law_built (T : Txt K mg) : Sp := sg_law_built T (grp2 5)
theorem ok_law_built (T : Txt K mg) : FnOk P w K mg base CX0 7 T.f_law_built T.d_law_built ["tree"] (sp_law_built T) := (ogs_2 T 5)
theorem cs_law_built (T : Txt K mg) {μ : Type} {M : Mu μ} {s : μ} {E : XK} {x_tree : Tree} {y : Cond} (h : F_law_built x_tree = some y) : CallS M (sp_law_built T) E (rac (ty (y_Tree T) x_tree) ra0) s (ty (y_Cond T) y) s := by
  rintro Z H vs sz m ⟨v_tree, _, rfl, h_tree, rfl⟩ Q q
  exact ⟨Z, v_tree, x_tree, y, rfl, sz, h_tree, h, fun v Z2 H2 st hv => q v Z2 H2 st.pure (M.pure st m) hv⟩
def sp_law_compares (T : Txt K mg) : Sp := fun vs H Q _ => ∃ (Z0 : Hp) (v_sign : V) (v_a : V) (v_b : V) (x_sign : Str) (x_a : Val) (x_b : Val) (y : Bool), vs = [v_sign, v_a, v_b] ∧ (Same Z0 H) ∧ ((yStr).r Z0 v_sign x_sign) ∧ (((y_Val T)).r Z0 v_a x_a) ∧ (((y_Val T)).r Z0 v_b x_b) ∧ (F_law_compares x_sign x_a x_b = some y) ∧ ∀ v Z' H', Step [] Z0 H Z' H' → (yBool).r Z' v y → Q v H'
set_option maxHeartbeats 4000000 in
theorem ok_law_compares (T : Txt K mg) : FnOk P w K mg base CX0 1 T.f_law_compares T.d_law_compares ["sign", "a", "b"] (sp_law_compares T) := by
  refine T.F_law_compares.ok sc_law_compares (fun vs H Q E h => ?_) (fun cdv A outer s H vs Q E hr h => ?_)
  · obtain ⟨Z0, v_sign, v_a, v_b, x_sign, x_a, x_b, y, rfl, _⟩ := h
    rfl
  · obtain ⟨Z0, v_sign, v_a, v_b, x_sign, x_a, x_b, y, rfl, sz, h_sign, h_a, h_b, hF, q⟩ := h
    refine ⟨_, (pss_cons (ps_if (pt_cmpR op_eq (pv 0) pe_str (nomark _)) (pss_one (ps_ret (pe_cmpR (op_eqD hr.units) (pv 1) (pv 2) (nomark _)))) pss_nil) 
      (pss_cons (ps_if (pt_cmpR op_eq (pv 0) pe_str (nomark _)) (pss_one (ps_ret (pe_cmpR (op_neD hr.units) (pv 1) (pv 2) (nomark _)))) pss_nil) 
      (pss_cons (ps_if (pt_cmpR op_eq (pv 0) pe_str (nomark _)) (pss_one (ps_ret (pe_cmpR op_ltV (pv 1) (pv 2) (nomark _)))) pss_nil) 
      (pss_cons (ps_if (pt_cmpR op_eq (pv 0) pe_str (nomark _)) (pss_one (ps_ret (pe_cmpR op_leV (pv 1) (pv 2) (nomark _)))) pss_nil) 
      (pss_cons (ps_if (pt_cmpR op_eq (pv 0) pe_str (nomark _)) (pss_one (ps_ret (pe_cmpR op_ltV (pv 2) (pv 1) (nomark _)))) pss_nil) 
      (pss_one (ps_ret (pe_cmpR op_leV (pv 2) (pv 1) (nomark _))))))))), ?_⟩
    have P := Pt.start0 sz
    unfold F_law_compares at hF
    refine st_seq (st_if P (et_cmp (ev_eq flat_str (ev_var (τ := yStr) rfl h_sign) ev_str)) (fun b_486 Z1 H1 e P1 => ?_) (fun b_486 Z1 H1 e P1 => ?_))
    · replace P := P1
      have hB := ifT b_486 hF
      replace hF := hB
      clear hB
      replace h_a := ((y_Val T)).mono e.z h_a
      replace h_b := ((y_Val T)).mono e.z h_b
      replace hF := Option.some.inj hF
      subst hF
      refine st_ret P (ev_eqW (EqW.gd (eqw_Val T) _) (EqW.gd (eqw_Val T) _) (EqW.dpt (K := K) (τ := (y_Val T)) (eqw_Val T) (by decide) _) (EqW.dpt (K := K) (τ := (y_Val T)) (eqw_Val T) (by decide) _) (ev_var (τ := (y_Val T)) rfl h_a) (ev_var (τ := (y_Val T)) rfl h_b)) (fun v Z1 H1 P1 hv => ?_)
      exact q v _ _ P1.st hv
    · replace P := P1
      have hB := ifF b_486 hF
      replace hF := hB
      clear hB
      refine st_next0 ?_
      replace h_a := ((y_Val T)).mono e.z h_a
      replace h_b := ((y_Val T)).mono e.z h_b
      refine st_seq (st_if P (et_cmp (ev_eq flat_str (ev_var (τ := yStr) rfl h_sign) ev_str)) (fun b_487 Z1 H1 e P1 => ?_) (fun b_487 Z1 H1 e P1 => ?_))
      · replace P := P1
        have hB := ifT b_487 hF
        replace hF := hB
        clear hB
        replace h_a := ((y_Val T)).mono e.z h_a
        replace h_b := ((y_Val T)).mono e.z h_b
        replace hF := Option.some.inj hF
        subst hF
        refine st_ret P (ev_neW (EqW.gd (eqw_Val T) _) (EqW.gd (eqw_Val T) _) (EqW.dpt (K := K) (τ := (y_Val T)) (eqw_Val T) (by decide) _) (EqW.dpt (K := K) (τ := (y_Val T)) (eqw_Val T) (by decide) _) (ev_var (τ := (y_Val T)) rfl h_a) (ev_var (τ := (y_Val T)) rfl h_b)) (fun v Z1 H1 P1 hv => ?_)
        exact q v _ _ P1.st hv
      · replace P := P1
        have hB := ifF b_487 hF
        replace hF := hB
        clear hB
        refine st_next0 ?_
        replace h_a := ((y_Val T)).mono e.z h_a
        replace h_b := ((y_Val T)).mono e.z h_b
        refine st_seq (st_if P (et_cmp (ev_eq flat_str (ev_var (τ := yStr) rfl h_sign) ev_str)) (fun b_488 Z1 H1 e P1 => ?_) (fun b_488 Z1 H1 e P1 => ?_))
        · replace P := P1
          have hB := ifT b_488 hF
          replace hF := hB
          clear hB
          replace h_a := ((y_Val T)).mono e.z h_a
          replace h_b := ((y_Val T)).mono e.z h_b
          obtain ⟨g_489, hF⟩ := guard_inv hF
          replace hF := Option.some.inj hF
          subst hF
          refine st_ret P (ev_cmpV (tv_Val T) (sameB_of g_489) (ev_var (τ := (y_Val T)) rfl h_a) (ev_var (τ := (y_Val T)) rfl h_b)) (fun v Z1 H1 P1 hv => ?_)
          exact q v _ _ P1.st hv
        · replace P := P1
          have hB := ifF b_488 hF
          replace hF := hB
          clear hB
          refine st_next0 ?_
          replace h_a := ((y_Val T)).mono e.z h_a
          replace h_b := ((y_Val T)).mono e.z h_b
          refine st_seq (st_if P (et_cmp (ev_eq flat_str (ev_var (τ := yStr) rfl h_sign) ev_str)) (fun b_490 Z1 H1 e P1 => ?_) (fun b_490 Z1 H1 e P1 => ?_))
          · replace P := P1
            have hB := ifT b_490 hF
            replace hF := hB
            clear hB
            replace h_a := ((y_Val T)).mono e.z h_a
            replace h_b := ((y_Val T)).mono e.z h_b
            obtain ⟨g_491, hF⟩ := guard_inv hF
            replace hF := Option.some.inj hF
            subst hF
            refine st_ret P (ev_cmpV (tv_Val T) (sameB_of g_491) (ev_var (τ := (y_Val T)) rfl h_a) (ev_var (τ := (y_Val T)) rfl h_b)) (fun v Z1 H1 P1 hv => ?_)
            exact q v _ _ P1.st hv
          · replace P := P1
            have hB := ifF b_490 hF
            replace hF := hB
            clear hB
            refine st_next0 ?_
            replace h_a := ((y_Val T)).mono e.z h_a
            replace h_b := ((y_Val T)).mono e.z h_b
            refine st_seq (st_if P (et_cmp (ev_eq flat_str (ev_var (τ := yStr) rfl h_sign) ev_str)) (fun b_492 Z1 H1 e P1 => ?_) (fun b_492 Z1 H1 e P1 => ?_))
            · replace P := P1
              have hB := ifT b_492 hF
              replace hF := hB
              clear hB
              replace h_a := ((y_Val T)).mono e.z h_a
              replace h_b := ((y_Val T)).mono e.z h_b
              obtain ⟨g_493, hF⟩ := guard_inv hF
              replace hF := Option.some.inj hF
              subst hF
              refine st_ret P (ev_cmpV (tv_Val T) (sameB_of g_493) (ev_var (τ := (y_Val T)) rfl h_b) (ev_var (τ := (y_Val T)) rfl h_a)) (fun v Z1 H1 P1 hv => ?_)
              exact q v _ _ P1.st hv
            · replace P := P1
              have hB := ifF b_492 hF
              replace hF := hB
              clear hB
              refine st_next0 ?_
              replace h_a := ((y_Val T)).mono e.z h_a
              replace h_b := ((y_Val T)).mono e.z h_b
              obtain ⟨g_494, hF⟩ := guard_inv hF
              replace hF := Option.some.inj hF
              subst hF
              refine st_ret P (ev_cmpV (tv_Val T) (sameB_of g_494) (ev_var (τ := (y_Val T)) rfl h_b) (ev_var (τ := (y_Val T)) rfl h_a)) (fun v Z1 H1 P1 hv => ?_)
              exact q v _ _ P1.st hv
theorem cs_law_compares (T : Txt K mg) {μ : Type} {M : Mu μ} {s : μ} {E : XK} {x_sign : Str} {x_a : Val} {x_b : Val} {y : Bool} (h : F_law_compares x_sign x_a x_b = some y) : CallS M (sp_law_compares T) E (rac (ty yStr x_sign) (rac (ty (y_Val T) x_a) (rac (ty (y_Val T) x_b) ra0))) s (ty yBool y) s := by
  rintro Z H vs sz m ⟨v_sign, _, rfl, h_sign, ⟨v_a, _, rfl, h_a, ⟨v_b, _, rfl, h_b, rfl⟩⟩⟩ Q q
  exact ⟨Z, v_sign, v_a, v_b, x_sign, x_a, x_b, y, rfl, sz, h_sign, h_a, h_b, h, fun v Z2 H2 st hv => q v Z2 H2 st.pure (M.pure st m) hv⟩
def sp_law_worth_passes (T : Txt K mg) : Sp := fun vs H Q _ => ∃ (Z0 : Hp) (v_tree : V) (v_worth : V) (x_tree : Tree) (x_worth : Val) (y : Bool), vs = [v_tree, v_worth] ∧ (Same Z0 H) ∧ (((y_Tree T)).r Z0 v_tree x_tree) ∧ (((y_Val T)).r Z0 v_worth x_worth) ∧ (F_law_worth_passes x_tree x_worth = some y) ∧ ∀ v Z' H', Step [] Z0 H Z' H' → (yBool).r Z' v y → Q v H'
set_option maxHeartbeats 4000000 in
theorem ok_law_worth_passes (T : Txt K mg) : FnOk P w K mg base CX0 2 T.f_law_worth_passes T.d_law_worth_passes ["tree", "worth"] (sp_law_worth_passes T) := by
  have G_law_compares : FnOk P w K mg base CX0 1 T.f_law_compares T.d_law_compares ["sign", "a", "b"] (sp_law_compares T) := ok_law_compares T
  refine T.F_law_worth_passes.ok sc_law_worth_passes (fun vs H Q E h => ?_) (fun cdv A outer s H vs Q E hr h => ?_)
  · obtain ⟨Z0, v_tree, v_worth, x_tree, x_worth, y, rfl, _⟩ := h
    rfl
  · obtain ⟨Z0, v_tree, v_worth, x_tree, x_worth, y, rfl, sz, h_tree, h_worth, hF, q⟩ := h
    refine ⟨_, (pss_cons (ps_if (pt_cmpR op_eq (pe_ix ix_tup (pv 0) pe_int (fun _ _ => rfl)) pe_str (nomark _)) (pss_one (ps_ret (pe_cmpR (op_inD (u65 hr)) (pv 1) (pe_ix ix_tup (pv 0) pe_int (fun _ _ => rfl)) rfl))) pss_nil) 
      (pss_one (ps_ret (pe_call G_law_compares (hr.mono (by decide)) (by rfl) T.g_law_compares T.F_law_compares.kp T.b_law_compares .nil pass0 (pa_cons (pe_ix ix_tup (pv 0) pe_int (fun _ _ => rfl)) (pa_cons (pv 1) (pa_cons (pe_ix ix_tup (pv 0) pe_int (fun _ _ => rfl)) pa_nil))))))), ?_⟩
    have P := Pt.start0 sz
    unfold F_law_worth_passes at hF
    refine st_seq (st_if P (et_cmp (ev_eq flat_str (tg_Tree T (ev_var (τ := (y_Tree T)) rfl h_tree) ev_int) ev_str)) (fun b_498 Z1 H1 e P1 => ?_) (fun b_498 Z1 H1 e P1 => ?_))
    · replace P := P1
      have hB := ifT b_498 hF
      replace hF := hB
      clear hB
      replace h_tree := ((y_Tree T)).mono e.z h_tree
      replace h_worth := ((y_Val T)).mono e.z h_worth
      obtain ⟨a_499, h_500, hF⟩ := bind_inv hF
      replace hF := Option.some.inj hF
      subst hF
      refine st_ret P (ev_inW (eqw_Val T) (by decide) (ev_var (τ := (y_Val T)) rfl h_worth) (ev_li (sl_Tree_9 T (ev_var (τ := (y_Tree T)) rfl h_tree) ev_int h_500))) (fun v Z1 H1 P1 hv => ?_)
      exact q v _ _ P1.st hv
    · replace P := P1
      have hB := ifF b_498 hF
      replace hF := hB
      clear hB
      refine st_next0 ?_
      replace h_tree := ((y_Tree T)).mono e.z h_tree
      replace h_worth := ((y_Val T)).mono e.z h_worth
      obtain ⟨a_501, h_502, hF⟩ := bind_inv hF
      obtain ⟨a_503, h_504, hF⟩ := bind_inv hF
      obtain ⟨r_505, h_506, hF⟩ := bind_inv hF
      replace hF := Option.some.inj hF
      subst hF
      refine st_ret P (ev_call (cs_law_compares T h_506) (eva_cons (sl_Tree_7 T (ev_var (τ := (y_Tree T)) rfl h_tree) ev_int h_502) (eva_cons (ev_var (τ := (y_Val T)) rfl h_worth) (eva_cons (sl_Tree_8 T (ev_var (τ := (y_Tree T)) rfl h_tree) ev_int h_504) eva_nil)))) (fun v Z1 H1 P1 hv => ?_)
      exact q v _ _ P1.st hv
theorem cs_law_worth_passes (T : Txt K mg) {μ : Type} {M : Mu μ} {s : μ} {E : XK} {x_tree : Tree} {x_worth : Val} {y : Bool} (h : F_law_worth_passes x_tree x_worth = some y) : CallS M (sp_law_worth_passes T) E (rac (ty (y_Tree T) x_tree) (rac (ty (y_Val T) x_worth) ra0)) s (ty yBool y) s := by
  rintro Z H vs sz m ⟨v_tree, _, rfl, h_tree, ⟨v_worth, _, rfl, h_worth, rfl⟩⟩ Q q
  exact ⟨Z, v_tree, v_worth, x_tree, x_worth, y, rfl, sz, h_tree, h_worth, h, fun v Z2 H2 st hv => q v Z2 H2 st.pure (M.pure st m) hv⟩
def sp_law_outcomes (T : Txt K mg) : Sp := fun vs H Q _ => ∃ (Z0 : Hp) (v_fact : V) (v_tree : V) (x_fact : FT) (x_tree : Tree) (y : (Option (Bool × Bool))), vs = [v_fact, v_tree] ∧ (Same Z0 H) ∧ (((y_FT T)).r Z0 v_fact x_fact) ∧ (((y_Tree T)).r Z0 v_tree x_tree) ∧ (F_law_outcomes x_fact x_tree = some y) ∧ ∀ v Z' H', Step [] Z0 H Z' H' → ((yOpt (yP2 K yBool yBool))).r Z' v y → Q v H'
set_option maxHeartbeats 4000000 in
theorem ok_law_outcomes (T : Txt K mg) : FnOk P w K mg base CX0 3 T.f_law_outcomes T.d_law_outcomes ["fact", "tree"] (sp_law_outcomes T) := by
  have G_law_worth_passes : FnOk P w K mg base CX0 2 T.f_law_worth_passes T.d_law_worth_passes ["tree", "worth"] (sp_law_worth_passes T) := ok_law_worth_passes T
  refine T.F_law_outcomes.ok sc_law_outcomes (fun vs H Q E h => ?_) (fun cdv A outer s H vs Q E hr h => ?_)
  · obtain ⟨Z0, v_fact, v_tree, x_fact, x_tree, y, rfl, _⟩ := h
    rfl
  · obtain ⟨Z0, v_fact, v_tree, x_fact, x_tree, y, rfl, sz, h_fact, h_tree, hF, q⟩ := h
    refine ⟨_, (pss_cons (ps_if (pt_cmpR op_ne (pe_ix ix_tup (pv 1) pe_int (fun _ _ => rfl)) (pe_ix ix_tup (pv 0) pe_int (fun _ _ => rfl)) (nomark _)) (pss_one (ps_ret pe_non)) pss_nil) 
      (pss_cons (ps_set (i := 2) sc_law_outcomes.nd rfl (.inl rfl) (pe_ix ix_tup (pv 0) (pe_op op_sub (pe_callB call_len_seq (by rfl) T.m_len PySem.boot_len (pa_cons (pv 0) pa_nil)) pe_int) (fun _ _ => rfl))) 
      (pss_cons (ps_if (pt_cmpR op_eq (pv 2) pe_str (nomark _)) (pss_one (ps_ret (pe_tup (pa_cons pe_bl (pa_cons pe_bl pa_nil))))) pss_nil) 
      (pss_cons (ps_if (pt_cmpR op_eq (pe_ix ix_tup (pv 1) pe_int (fun _ _ => rfl)) pe_str (nomark _)) (pss_one (ps_ret (pe_tup (pa_cons pe_bl (pa_cons (pe_cmpR op_eq (pv 2) pe_str (nomark _)) pa_nil))))) pss_nil) 
      (pss_cons (ps_set (i := 3) sc_law_outcomes.nd rfl (.inl rfl) (pe_ix ix_tup (pv 0) pe_int (fun _ _ => rfl))) 
      (pss_cut (ps_if (pt_cmpR op_eq (pe_ix ix_tup (pv 0) pe_int (fun _ _ => rfl)) pe_str (nomark _)) (pss_one (ps_set (i := 3) sc_law_outcomes.nd rfl (.inl rfl) (pe_listRg rfl (by rfl) T.m_list (prg_2 (by rfl) T.m_range (pe_ix ix_tup (pv 0) pe_int (fun _ _ => rfl)) (pe_op op_add (pe_ix ix_tup (pv 0) pe_int (fun _ _ => rfl)) pe_int))))) pss_nil) 
      (pss_cons (ps_setLc (i := 4) (own := [("worth", 5)]) (g := gName 5) rfl sc_law_outcomes.nd rfl rfl (sw_true rfl rfl rfl (by decide +kernel)) (pi_list (pv 3)) (blkOk_by (own := [("worth", 5)]) (N := ["fact", "tree", "lack", "worths", "passing", "worth", "failing", "fails"]) (sc := defScope s_law_outcomes) (by decide +kernel)) (fun _ _ _ _ _ => (pg_name (i := 5) sc_law_outcomes.nd rfl (Or.inl rfl))) (fun _ _ _ _ _ => (by exact pts_one (pt_val (pe_call G_law_worth_passes (hr.mono (by decide)) (by rfl) T.g_law_worth_passes T.F_law_worth_passes.kp T.b_law_worth_passes .nil pass0 (pa_cons (pv 1) (pa_cons (pv 5) pa_nil)))))) (fun _ _ _ _ _ => (pv 5))) 
      (pss_cons (ps_setLc (i := 6) (own := [("worth", 5)]) (g := gName 5) rfl sc_law_outcomes.nd rfl rfl (sw_true rfl rfl rfl (by decide +kernel)) (pi_list (pv 3)) (blkOk_by (own := [("worth", 5)]) (N := ["fact", "tree", "lack", "worths", "passing", "worth", "failing", "fails"]) (sc := defScope s_law_outcomes) (by decide +kernel)) (fun _ _ _ _ _ => (pg_name (i := 5) sc_law_outcomes.nd rfl (Or.inl rfl))) (fun _ _ _ _ _ => (by exact pts_one (pt_not (pt_val (pe_call G_law_worth_passes (hr.mono (by decide)) (by rfl) T.g_law_worth_passes T.F_law_worth_passes.kp T.b_law_worth_passes .nil pass0 (pa_cons (pv 1) (pa_cons (pv 5) pa_nil))))))) (fun _ _ _ _ _ => (pv 5))) 
      (pss_cons (ps_set (i := 7) sc_law_outcomes.nd rfl (.inl rfl) (pe_or (pe_cmpR op_gt (pe_callB call_len_seq (by rfl) T.m_len PySem.boot_len (pa_cons (pv 6) pa_nil)) pe_int (nomark _)) (pe_or (pe_cmpR op_eq (pv 2) pe_str (nomark _)) (pe_one (pe_and (pe_cmpR op_eq (pe_ix ix_tup (pv 0) pe_int (fun _ _ => rfl)) pe_str (nomark _)) (pe_one (pe_cmpR op_eq (pe_ix ix_tup (pv 1) pe_int (fun _ _ => rfl)) pe_str (nomark _)))))))) 
      (pss_one (ps_ret (pe_tup (pa_cons (pe_cmpR op_gt (pe_callB call_len_seq (by rfl) T.m_len PySem.boot_len (pa_cons (pv 4) pa_nil)) pe_int (nomark _)) (pa_cons (pv 7) pa_nil)))))))))))))), ?_⟩
    have P := Pt.start0 sz
    unfold F_law_outcomes at hF
    obtain ⟨a_523, h_524, hF⟩ := bind_inv hF
    obtain ⟨a_525, h_526, hF⟩ := bind_inv hF
    refine st_seq (st_if P (et_cmp (ev_ne flat_str (sl_Tree_6 T (ev_var (τ := (y_Tree T)) rfl h_tree) ev_int h_524) (sl_FT_0 T (ev_var (τ := (y_FT T)) rfl h_fact) ev_int h_526))) (fun b_527 Z1 H1 e P1 => ?_) (fun b_527 Z1 H1 e P1 => ?_))
    · replace P := P1
      have hB := ifT b_527 hF
      replace hF := hB
      clear hB
      replace hF := Option.some.inj hF
      subst hF
      refine st_ret P (ev_none (τ := (yP2 K yBool yBool)) ev_non) (fun v Z1 H1 P1 hv => ?_)
      exact q v _ _ P1.st hv
    · replace P := P1
      have hB := ifF b_527 hF
      replace hF := hB
      clear hB
      refine st_next0 ?_
      replace h_fact := ((y_FT T)).mono e.z h_fact
      replace h_tree := ((y_Tree T)).mono e.z h_tree
      obtain ⟨a_528, h_529, hF⟩ := bind_inv hF
      refine st_seq (st_set P (at_FT_0 T (ev_var (τ := (y_FT T)) rfl h_fact) (ev_sub (ln_FT T (fun _ _ _ h => h) (ev_var (τ := (y_FT T)) rfl h_fact)) ev_int) h_529) (fun v_530 Z1 H1 e P1 k_531 => ?_))
      refine st_nx ?_
      replace P := P1
      replace h_fact := ((y_FT T)).mono e.z h_fact
      replace h_tree := ((y_Tree T)).mono e.z h_tree
      refine st_seq (st_if P (et_cmp (ev_eq flat_str (ev_var (τ := yStr) rfl k_531) ev_str)) (fun b_532 Z1 H1 e P1 => ?_) (fun b_532 Z1 H1 e P1 => ?_))
      · replace P := P1
        have hB := ifT b_532 hF
        replace hF := hB
        clear hB
        replace hF := Option.some.inj hF
        subst hF
        refine st_ret P (ev_some nn_p2 (ev_p2 (K := K) (eva_cons ev_bl (eva_cons ev_bl eva_nil)))) (fun v Z1 H1 P1 hv => ?_)
        exact q v _ _ P1.st hv
      · replace P := P1
        have hB := ifF b_532 hF
        replace hF := hB
        clear hB
        refine st_next0 ?_
        replace h_fact := ((y_FT T)).mono e.z h_fact
        replace h_tree := ((y_Tree T)).mono e.z h_tree
        refine st_seq (st_if P (et_cmp (ev_eq flat_str (tg_Tree T (ev_var (τ := (y_Tree T)) rfl h_tree) ev_int) ev_str)) (fun b_533 Z1 H1 e P1 => ?_) (fun b_533 Z1 H1 e P1 => ?_))
        · replace P := P1
          have hB := ifT b_533 hF
          replace hF := hB
          clear hB
          replace hF := Option.some.inj hF
          subst hF
          refine st_ret P (ev_some nn_p2 (ev_p2 (K := K) (eva_cons ev_bl (eva_cons (ev_eq flat_str (ev_var (τ := yStr) rfl k_531) ev_str) eva_nil)))) (fun v Z1 H1 P1 hv => ?_)
          exact q v _ _ P1.st hv
        · replace P := P1
          have hB := ifF b_533 hF
          replace hF := hB
          clear hB
          refine st_next0 ?_
          replace h_fact := ((y_FT T)).mono e.z h_fact
          replace h_tree := ((y_Tree T)).mono e.z h_tree
          obtain ⟨a_534, h_535, hF⟩ := bind_inv hF
          refine st_seq (st_set P (sw_FT_0 T (ev_var (τ := (y_FT T)) rfl h_fact) ev_int h_535) (fun v_536 Z1 H1 e P1 k_537 => ?_))
          refine st_nx ?_
          replace P := P1
          replace h_fact := ((y_FT T)).mono e.z h_fact
          replace h_tree := ((y_Tree T)).mono e.z h_tree
          obtain ⟨w_540, hB_539, hF⟩ := bind_inv hF
          refine ⟨fun σ' H' => ∃ Z', ∃ (v_543 : V) (y_545 : Option V) (y_546 : Option V) (y_547 : Option V) (y_548 : Option V), σ' = [some v_fact, some v_tree, some v_530, some v_543, y_545, y_546, y_547, y_548] ∧ Pt [] Z0 H muN Z' H' () ∧ ((y_FT T)).r Z' v_fact x_fact ∧ ((y_Tree T)).r Z' v_tree x_tree ∧ ((y_W T)).r Z' v_543 w_540, ?_, ?_⟩
          · refine st_if P (et_cmp (ev_eq flat_str (tg_FT T (ev_var (τ := (y_FT T)) rfl h_fact) ev_int) ev_str)) (fun b_538 Z1 H1 e P1 => ?_) (fun b_538 Z1 H1 e P1 => ?_)
            · replace P := P1
              replace hB_539 := ifT b_538 hB_539
              replace h_fact := ((y_FT T)).mono e.z h_fact
              replace h_tree := ((y_Tree T)).mono e.z h_tree
              replace k_537 := ((y_W T)).mono e.z k_537
              obtain ⟨a_549, h_550, hB_539⟩ := bind_inv hB_539
              obtain ⟨a_553, h_554, hB_539⟩ := bind_inv hB_539
              obtain ⟨g_555, hB_539⟩ := guard_inv hB_539
              obtain ⟨u_556, h_557, hB_539⟩ := bind_inv hB_539
              refine st_set P (ev_castK (show CastO (yList yInt) (y_W T) (fun x : (List Int) => ((mapO (fun x : Int => some (Val.i x))) x).map W.l) from (fun _ _ _ _ h e => by obtain ⟨z, hz, e⟩ := Option.map_eq_some_iff.mp e; subst e; exact (show CastO (yList yInt) (yList (y_Val T)) (mapO (fun x : Int => some (Val.i x))) from (cast_list (show CastO yInt (y_Val T) (fun x : Int => some (Val.i x)) from (fun _ _ _ _ h e => by have e := Option.some.inj e; subst e; exact h)))) _ _ _ _ h hz)) (ev_fz (en_lrg2 (sl_FT_1 T (ev_var (τ := (y_FT T)) rfl h_fact) ev_int h_550) (ev_add (sl_FT_2 T (ev_var (τ := (y_FT T)) rfl h_fact) ev_int h_554) ev_int) g_555)) h_557) (fun v_558 Z1 H1 e P1 k_559 => ?_)
              replace P := P1
              replace h_fact := ((y_FT T)).mono e.z h_fact
              replace h_tree := ((y_Tree T)).mono e.z h_tree
              replace hB_539 := Option.some.inj hB_539
              subst hB_539
              exact ⟨_, _, _, _, _, _, rfl, P, h_fact, h_tree, k_559⟩
            · replace P := P1
              replace hB_539 := ifF b_538 hB_539
              replace h_fact := ((y_FT T)).mono e.z h_fact
              replace h_tree := ((y_Tree T)).mono e.z h_tree
              replace k_537 := ((y_W T)).mono e.z k_537
              replace hB_539 := Option.some.inj hB_539
              subst hB_539
              exact ⟨_, _, _, _, _, _, rfl, P, h_fact, h_tree, k_537⟩
          rintro σ' H' ⟨Z1, v_543, y_545, y_546, y_547, y_548, rfl, P, k_541, k_542, k_544⟩
          obtain ⟨u_562, h_563, hF⟩ := bind_inv hF
          obtain ⟨l_569, h_570, hF⟩ := bind_inv hF
          refine st_seq (st_set P (ev_fz (en_fmO (υ := (y_Val T)) (fun (x_564 : Val) => ((F_law_worth_passes x_tree x_564).bind fun r_567 =>
          if r_567 = true then (some (some x_564)) else some none : Option (Option Val))) (ei_list (pj_W_l T (ev_var (τ := (y_W T)) rfl k_544) h_563)) (fun x_564 v_565 Z' H' p zz hh rx_566 hp => by
                replace k_542 := ((y_Tree T)).mono zz k_542
                have hy := hp
                obtain ⟨r_567, h_568, hy⟩ := bind_inv hy
                cases hb : r_567
                · have hy := ifF hb hy
                  have hy := Option.some.inj hy
                  subst hy
                  exact ⟨_, tgt_name, (wpe_s wpe_z (by decide)), false, hb ▸ (et_val (ev_call (cs_law_worth_passes T h_568) (eva_cons (ev_var (τ := (y_Tree T)) rfl k_542) (eva_cons (ev_var (τ := (y_Val T)) rfl rx_566) eva_nil)))), (fun z => nomatch z), fun _ => rfl⟩
                · have hy := ifT hb hy
                  have hy := Option.some.inj hy
                  subst hy
                  exact ⟨_, tgt_name, (wpe_s wpe_z (by decide)), true, hb ▸ (et_val (ev_call (cs_law_worth_passes T h_568) (eva_cons (ev_var (τ := (y_Tree T)) rfl k_542) (eva_cons (ev_var (τ := (y_Val T)) rfl rx_566) eva_nil)))), fun _ => ⟨_, rfl, (ev_var (τ := (y_Val T)) rfl rx_566)⟩, fun z => nomatch z⟩) h_570)) (fun v_571 Z1 H1 e P1 k_572 => ?_))
          refine st_nx ?_
          replace P := P1
          replace k_541 := ((y_FT T)).mono e.z k_541
          replace k_542 := ((y_Tree T)).mono e.z k_542
          replace k_544 := ((y_W T)).mono e.z k_544
          obtain ⟨u_575, h_576, hF⟩ := bind_inv hF
          obtain ⟨l_582, h_583, hF⟩ := bind_inv hF
          refine st_seq (st_set P (ev_fz (en_fmO (υ := (y_Val T)) (fun (x_577 : Val) => ((F_law_worth_passes x_tree x_577).bind fun r_580 =>
          if (!r_580) = true then (some (some x_577)) else some none : Option (Option Val))) (ei_list (pj_W_l T (ev_var (τ := (y_W T)) rfl k_544) h_576)) (fun x_577 v_578 Z' H' p zz hh rx_579 hp => by
                replace k_542 := ((y_Tree T)).mono zz k_542
                have hy := hp
                obtain ⟨r_580, h_581, hy⟩ := bind_inv hy
                cases hb : (!r_580)
                · have hy := ifF hb hy
                  have hy := Option.some.inj hy
                  subst hy
                  exact ⟨_, tgt_name, (wpe_s wpe_z (by decide)), false, hb ▸ (et_not (et_val (ev_call (cs_law_worth_passes T h_581) (eva_cons (ev_var (τ := (y_Tree T)) rfl k_542) (eva_cons (ev_var (τ := (y_Val T)) rfl rx_579) eva_nil))))), (fun z => nomatch z), fun _ => rfl⟩
                · have hy := ifT hb hy
                  have hy := Option.some.inj hy
                  subst hy
                  exact ⟨_, tgt_name, (wpe_s wpe_z (by decide)), true, hb ▸ (et_not (et_val (ev_call (cs_law_worth_passes T h_581) (eva_cons (ev_var (τ := (y_Tree T)) rfl k_542) (eva_cons (ev_var (τ := (y_Val T)) rfl rx_579) eva_nil))))), fun _ => ⟨_, rfl, (ev_var (τ := (y_Val T)) rfl rx_579)⟩, fun z => nomatch z⟩) h_583)) (fun v_584 Z1 H1 e P1 k_585 => ?_))
          refine st_nx ?_
          replace P := P1
          replace k_541 := ((y_FT T)).mono e.z k_541
          replace k_542 := ((y_Tree T)).mono e.z k_542
          replace k_572 := ((yList (y_Val T))).mono e.z k_572
          obtain ⟨x_fails_586, h_587, hF⟩ := bind_inv hF
          replace h_587 := Option.some.inj h_587
          refine st_seq (st_set P (ev_cast (ev_or0 (ev_gt (ev_len (fun _ _ _ h => h) (ev_li (ev_var (τ := (yList (y_Val T))) rfl k_585))) ev_int) (ev_or0 (ev_eq flat_str (ev_var (τ := yStr) rfl k_531) ev_str) (ev_and0 (ev_eq flat_str (tg_FT T (ev_var (τ := (y_FT T)) rfl k_541) ev_int) ev_str) (ev_eq flat_str (tg_Tree T (ev_var (τ := (y_Tree T)) rfl k_542) ev_int) ev_str)))) h_587) (fun v_588 Z1 H1 e P1 k_589 => ?_))
          refine st_nx ?_
          replace P := P1
          replace k_572 := ((yList (y_Val T))).mono e.z k_572
          replace hF := Option.some.inj hF
          subst hF
          refine st_ret P (ev_some nn_p2 (ev_p2 (K := K) (eva_cons (ev_gt (ev_len (fun _ _ _ h => h) (ev_li (ev_var (τ := (yList (y_Val T))) rfl k_572))) ev_int) (eva_cons (ev_var (τ := yBool) rfl k_589) eva_nil)))) (fun v Z1 H1 P1 hv => ?_)
          exact q v _ _ P1.st hv
theorem cs_law_outcomes (T : Txt K mg) {μ : Type} {M : Mu μ} {s : μ} {E : XK} {x_fact : FT} {x_tree : Tree} {y : (Option (Bool × Bool))} (h : F_law_outcomes x_fact x_tree = some y) : CallS M (sp_law_outcomes T) E (rac (ty (y_FT T) x_fact) (rac (ty (y_Tree T) x_tree) ra0)) s (ty (yOpt (yP2 K yBool yBool)) y) s := by
  rintro Z H vs sz m ⟨v_fact, _, rfl, h_fact, ⟨v_tree, _, rfl, h_tree, rfl⟩⟩ Q q
  exact ⟨Z, v_fact, v_tree, x_fact, x_tree, y, rfl, sz, h_fact, h_tree, h, fun v Z2 H2 st hv => q v Z2 H2 st.pure (M.pure st m) hv⟩
def sg_law_due (T : Txt K mg) (g : Grp3) : Sp := fun vs H Q _ => ∃ (Z0 : Hp) (v_tree : V) (v_facts : V) (x_tree : Tree) (x_facts : (List FT)) (y : (Bool × Bool)), vs = [v_tree, v_facts] ∧ (Same Z0 H) ∧ (((y_Tree T)).r Z0 v_tree x_tree) ∧ (((yList (y_FT T))).r Z0 v_facts x_facts) ∧ (g.h_law_due x_tree x_facts = some y) ∧ ∀ v Z' H', Step [] Z0 H Z' H' → ((yP2 K yBool yBool)).r Z' v y → Q v H'
theorem csg_law_due (T : Txt K mg) {g : Grp3} {μ : Type} {M : Mu μ} {s : μ} {E : XK} {x_tree : Tree} {x_facts : (List FT)} {y : (Bool × Bool)} (h : (g.h_law_due) x_tree x_facts = some y) : CallS M (sg_law_due T g) E (rac (ty (y_Tree T) x_tree) (rac (ty (yList (y_FT T)) x_facts) ra0)) s (ty (yP2 K yBool yBool) y) s := by
  rintro Z H vs sz m ⟨v_tree, _, rfl, h_tree, ⟨v_facts, _, rfl, h_facts, rfl⟩⟩ Q q
  exact ⟨Z, v_tree, v_facts, x_tree, x_facts, y, rfl, sz, h_tree, h_facts, h, fun v Z2 H2 st hv => q v Z2 H2 st.pure (M.pure st m) hv⟩
set_option maxHeartbeats 4000000 in
theorem og_law_due (T : Txt K mg) {n n2 : Nat} {g g2 : Grp3} (hg : g2.h_law_due = S_law_due g) (hlo : 3 ≤ n) (hup : n + 1 ≤ n2 + 1) (G_law_due : FnOk P w K mg base CX0 n T.f_law_due T.d_law_due ["tree", "facts"] (sg_law_due T g)) : FnOk P w K mg base CX0 (n2 + 1) T.f_law_due T.d_law_due ["tree", "facts"] (sg_law_due T g2) := by
  have G_law_outcomes : FnOk P w K mg base CX0 3 T.f_law_outcomes T.d_law_outcomes ["fact", "tree"] (sp_law_outcomes T) := ok_law_outcomes T
  refine T.F_law_due.ok sc_law_due (fun vs H Q E h => ?_) (fun cdv A outer s H vs Q E hr h => ?_)
  · obtain ⟨Z0, v_tree, v_facts, x_tree, x_facts, y, rfl, _⟩ := h
    rfl
  · obtain ⟨Z0, v_tree, v_facts, x_tree, x_facts, y, rfl, sz, h_tree, h_facts, hF, q⟩ := h
    refine ⟨_, (pss_cons (ps_if (pt_cmpR op_eq (pe_ix ix_tup (pv 0) pe_int (fun _ _ => rfl)) pe_str (nomark _)) (pss_one (ps_ret (pe_tup (pa_cons pe_bl (pa_cons pe_bl pa_nil))))) pss_nil) 
      (pss_cons (ps_if (pt_cmpR op_eq (pe_ix ix_tup (pv 0) pe_int (fun _ _ => rfl)) pe_str (nomark _)) (pss_cons (ps_asg (pe_call G_law_due (hr.mono (by omega)) (by rfl) T.g_law_due T.F_law_due.kp T.b_law_due .nil pass0 (pa_cons (pe_ix ix_tup (pv 0) pe_int (fun _ _ => rfl)) (pa_cons (pv 1) pa_nil))) (pg_tup rfl (pgs_cons (pg_name (i := 2) sc_law_due.nd rfl (.inl rfl)) (pgs_cons (pg_name (i := 3) sc_law_due.nd rfl (.inl rfl)) pgs_nil)))) 
      (pss_one (ps_ret (pe_tup (pa_cons (pv 3) (pa_cons (pv 2) pa_nil)))))) pss_nil) 
      (pss_cons (ps_if (pt_cmpR op_in_seq (pe_ix ix_tup (pv 0) pe_int (fun _ _ => rfl)) (pe_lst (pa_cons pe_str (pa_cons pe_str pa_nil))) rfl) (pss_cons (ps_set (i := 4) sc_law_due.nd rfl (.inl rfl) (pe_call G_law_due (hr.mono (by omega)) (by rfl) T.g_law_due T.F_law_due.kp T.b_law_due .nil pass0 (pa_cons (pe_ix ix_tup (pv 0) pe_int (fun _ _ => rfl)) (pa_cons (pv 1) pa_nil)))) 
      (pss_cons (ps_set (i := 5) sc_law_due.nd rfl (.inl rfl) (pe_call G_law_due (hr.mono (by omega)) (by rfl) T.g_law_due T.F_law_due.kp T.b_law_due .nil pass0 (pa_cons (pe_ix ix_tup (pv 0) pe_int (fun _ _ => rfl)) (pa_cons (pv 1) pa_nil)))) 
      (pss_cons (ps_if (pt_cmpR op_eq (pe_ix ix_tup (pv 0) pe_int (fun _ _ => rfl)) pe_str (nomark _)) (pss_one (ps_ret (pe_tup (pa_cons (pe_and (pe_ix ix_tup (pv 4) pe_int (fun _ _ => rfl)) (pe_one (pe_ix ix_tup (pv 5) pe_int (fun _ _ => rfl)))) (pa_cons (pe_or (pe_ix ix_tup (pv 4) pe_int (fun _ _ => rfl)) (pe_one (pe_ix ix_tup (pv 5) pe_int (fun _ _ => rfl)))) pa_nil))))) pss_nil) 
      (pss_one (ps_ret (pe_tup (pa_cons (pe_or (pe_ix ix_tup (pv 4) pe_int (fun _ _ => rfl)) (pe_one (pe_ix ix_tup (pv 5) pe_int (fun _ _ => rfl)))) (pa_cons (pe_and (pe_ix ix_tup (pv 4) pe_int (fun _ _ => rfl)) (pe_one (pe_ix ix_tup (pv 5) pe_int (fun _ _ => rfl)))) pa_nil)))))))) pss_nil) 
      (pss_cons (ps_set (i := 2) sc_law_due.nd rfl (.inl rfl) pe_bl) 
      (pss_cons (ps_set (i := 3) sc_law_due.nd rfl (.inl rfl) pe_bl) 
      (pss_cons (ps_for PassesOwn.never rfl (pi_list (pv 1)) (pg_name (i := 6) sc_law_due.nd rfl (.inl rfl)) (pss_cons (ps_set (i := 7) sc_law_due.nd rfl (.inl rfl) (pe_call G_law_outcomes (hr.mono (by omega)) (by rfl) T.g_law_outcomes T.F_law_outcomes.kp T.b_law_outcomes .nil pass0 (pa_cons (pv 6) (pa_cons (pv 0) pa_nil)))) 
      (pss_one (ps_if (pt_cmpR op_notN (pv 7) pe_non (nomark _)) (pss_cons (ps_set (i := 2) sc_law_due.nd rfl (.inl rfl) (pe_and (pv 2) (pe_one (pe_ix ix_tup (pv 7) pe_int (fun _ _ => rfl))))) 
      (pss_one (ps_set (i := 3) sc_law_due.nd rfl (.inl rfl) (pe_and (pv 3) (pe_one (pe_ix ix_tup (pv 7) pe_int (fun _ _ => rfl))))))) pss_nil)))) 
      (pss_one (ps_ret (pe_tup (pa_cons (pv 2) (pa_cons (pv 3) pa_nil))))))))))), ?_⟩
    have P := Pt.start0 sz
    rw [hg] at hF
    unfold S_law_due at hF
    refine st_seq (st_if P (et_cmp (ev_eq flat_str (tg_Tree T (ev_var (τ := (y_Tree T)) rfl h_tree) ev_int) ev_str)) (fun b_590 Z1 H1 e P1 => ?_) (fun b_590 Z1 H1 e P1 => ?_))
    · replace P := P1
      have hB := ifT b_590 hF
      replace hF := hB
      clear hB
      replace hF := Option.some.inj hF
      subst hF
      refine st_ret P (ev_p2 (K := K) (eva_cons ev_bl (eva_cons ev_bl eva_nil))) (fun v Z1 H1 P1 hv => ?_)
      exact q v _ _ P1.st hv
    · replace P := P1
      have hB := ifF b_590 hF
      replace hF := hB
      clear hB
      refine st_next0 ?_
      replace h_tree := ((y_Tree T)).mono e.z h_tree
      replace h_facts := ((yList (y_FT T))).mono e.z h_facts
      refine st_seq (st_if P (et_cmp (ev_eq flat_str (tg_Tree T (ev_var (τ := (y_Tree T)) rfl h_tree) ev_int) ev_str)) (fun b_591 Z1 H1 e P1 => ?_) (fun b_591 Z1 H1 e P1 => ?_))
      · replace P := P1
        have hB := ifT b_591 hF
        replace hF := hB
        clear hB
        replace h_tree := ((y_Tree T)).mono e.z h_tree
        replace h_facts := ((yList (y_FT T))).mono e.z h_facts
        obtain ⟨a_592, h_593, hF⟩ := bind_inv hF
        obtain ⟨r_594, h_595, hF⟩ := bind_inv hF
        refine st_seq (st_asg P (ev_call (csg_law_due T h_595) (eva_cons (sl_Tree_10 T (ev_var (τ := (y_Tree T)) rfl h_tree) ev_int h_593) (eva_cons (ev_var (τ := (yList (y_FT T))) rfl h_facts) eva_nil))) (fun v Z1 H1 e P1 k_596 => ?_))
        replace P := P1
        obtain ⟨v_597, v_598, k_599, k_600, tg_601⟩ := tgt_p2 k_596
        refine ⟨_, (tg_601 tgt_name tgt_name), ?_⟩
        refine st_nx ?_
        replace hF := Option.some.inj hF
        subst hF
        refine st_ret P (ev_p2 (K := K) (eva_cons (ev_var (τ := yBool) rfl k_600) (eva_cons (ev_var (τ := yBool) rfl k_599) eva_nil))) (fun v Z1 H1 P1 hv => ?_)
        exact q v _ _ P1.st hv
      · replace P := P1
        have hB := ifF b_591 hF
        replace hF := hB
        clear hB
        refine st_next0 ?_
        replace h_tree := ((y_Tree T)).mono e.z h_tree
        replace h_facts := ((yList (y_FT T))).mono e.z h_facts
        refine st_seq (st_if P (et_cmp (ev_in fi_str (tg_Tree T (ev_var (τ := (y_Tree T)) rfl h_tree) ev_int) (ev_li (ev_fz (en_listD (eva_conss ev_str (eva_conss ev_str (eva_nils (τ := yStr)))) (by show 2 ≤ sizeLine; decide)))))) (fun b_602 Z1 H1 e P1 => ?_) (fun b_602 Z1 H1 e P1 => ?_))
        · replace P := P1
          have hB := ifT b_602 hF
          replace hF := hB
          clear hB
          replace h_tree := ((y_Tree T)).mono e.z h_tree
          replace h_facts := ((yList (y_FT T))).mono e.z h_facts
          obtain ⟨a_603, h_604, hF⟩ := bind_inv hF
          obtain ⟨r_605, h_606, hF⟩ := bind_inv hF
          refine st_seq (st_set P (ev_call (csg_law_due T h_606) (eva_cons (sl_Tree_10 T (ev_var (τ := (y_Tree T)) rfl h_tree) ev_int h_604) (eva_cons (ev_var (τ := (yList (y_FT T))) rfl h_facts) eva_nil))) (fun v_607 Z1 H1 e P1 k_608 => ?_))
          refine st_nx ?_
          replace P := P1
          replace h_tree := ((y_Tree T)).mono e.z h_tree
          replace h_facts := ((yList (y_FT T))).mono e.z h_facts
          obtain ⟨a_609, h_610, hF⟩ := bind_inv hF
          obtain ⟨r_611, h_612, hF⟩ := bind_inv hF
          refine st_seq (st_set P (ev_call (csg_law_due T h_612) (eva_cons (sl_Tree_11 T (ev_var (τ := (y_Tree T)) rfl h_tree) ev_int h_610) (eva_cons (ev_var (τ := (yList (y_FT T))) rfl h_facts) eva_nil))) (fun v_613 Z1 H1 e P1 k_614 => ?_))
          refine st_nx ?_
          replace P := P1
          replace h_tree := ((y_Tree T)).mono e.z h_tree
          replace k_608 := ((yP2 K yBool yBool)).mono e.z k_608
          refine st_seq (st_if P (et_cmp (ev_eq flat_str (tg_Tree T (ev_var (τ := (y_Tree T)) rfl h_tree) ev_int) ev_str)) (fun b_615 Z1 H1 e P1 => ?_) (fun b_615 Z1 H1 e P1 => ?_))
          · replace P := P1
            have hB := ifT b_615 hF
            replace hF := hB
            clear hB
            replace k_608 := ((yP2 K yBool yBool)).mono e.z k_608
            replace k_614 := ((yP2 K yBool yBool)).mono e.z k_614
            replace hF := Option.some.inj hF
            subst hF
            refine st_ret P (ev_p2 (K := K) (eva_cons (ev_and0 (ev_cast (ev_part po2_0 (ev_var (τ := (yP2 K yBool yBool)) rfl k_608) ev_int) rfl) (ev_cast (ev_part po2_0 (ev_var (τ := (yP2 K yBool yBool)) rfl k_614) ev_int) rfl)) (eva_cons (ev_or0 (ev_cast (ev_part po2_1 (ev_var (τ := (yP2 K yBool yBool)) rfl k_608) ev_int) rfl) (ev_cast (ev_part po2_1 (ev_var (τ := (yP2 K yBool yBool)) rfl k_614) ev_int) rfl)) eva_nil))) (fun v Z1 H1 P1 hv => ?_)
            exact q v _ _ P1.st hv
          · replace P := P1
            have hB := ifF b_615 hF
            replace hF := hB
            clear hB
            refine st_next0 ?_
            replace k_608 := ((yP2 K yBool yBool)).mono e.z k_608
            replace k_614 := ((yP2 K yBool yBool)).mono e.z k_614
            replace hF := Option.some.inj hF
            subst hF
            refine st_ret P (ev_p2 (K := K) (eva_cons (ev_or0 (ev_cast (ev_part po2_0 (ev_var (τ := (yP2 K yBool yBool)) rfl k_608) ev_int) rfl) (ev_cast (ev_part po2_0 (ev_var (τ := (yP2 K yBool yBool)) rfl k_614) ev_int) rfl)) (eva_cons (ev_and0 (ev_cast (ev_part po2_1 (ev_var (τ := (yP2 K yBool yBool)) rfl k_608) ev_int) rfl) (ev_cast (ev_part po2_1 (ev_var (τ := (yP2 K yBool yBool)) rfl k_614) ev_int) rfl)) eva_nil))) (fun v Z1 H1 P1 hv => ?_)
            exact q v _ _ P1.st hv
        · replace P := P1
          have hB := ifF b_602 hF
          replace hF := hB
          clear hB
          refine st_next0 ?_
          replace h_tree := ((y_Tree T)).mono e.z h_tree
          replace h_facts := ((yList (y_FT T))).mono e.z h_facts
          refine st_seq (st_set P ev_bl (fun v_616 Z1 H1 e P1 k_617 => ?_))
          refine st_nx ?_
          replace P := P1
          replace h_tree := ((y_Tree T)).mono e.z h_tree
          replace h_facts := ((yList (y_FT T))).mono e.z h_facts
          refine st_seq (st_set P ev_bl (fun v_618 Z1 H1 e P1 k_619 => ?_))
          refine st_nx ?_
          replace P := P1
          replace h_tree := ((y_Tree T)).mono e.z h_tree
          replace h_facts := ((yList (y_FT T))).mono e.z h_facts
          obtain ⟨f_668, hL_669, hF⟩ := bind_inv hF
          refine st_seq (st_for (τ := (y_FT T)) (fun (r_622 : List FT) σ' Z' H' => ∃ w_620, ∃ (y_628 : Option V) (v_629 : V) (v_631 : V) (y_633 : Option V) (y_634 : Option V) (y_635 : Option V) (y_636 : Option V), σ' = [some v_tree, y_628, some v_629, some v_631, y_633, y_634, y_635, y_636] ∧ Pt [] Z0 H muN Z' H' () ∧ ((y_Tree T)).r Z' v_tree x_tree ∧ (yBool).r Z' v_629 w_620.1 ∧ (yBool).r Z' v_631 w_620.2 ∧ forF ((L_law_due_1 g) x_tree) r_622 w_620 = some f_668) P (ei_list (ev_var (τ := (yList (y_FT T))) rfl h_facts)) ?_ ?_ ?_)
          · rintro Z1 H1 e P1
            replace P := P1
            replace h_tree := ((y_Tree T)).mono e.z h_tree
            replace h_facts := ((yList (y_FT T))).mono e.z h_facts
            exact ⟨(true, true), _, _, _, _, _, _, _, rfl, P, h_tree, k_617, k_619, hL_669⟩
          · rintro Zb_626 Hb eb x_621 r_622 σ' v_648 Z1 H1 Z2 H2 zs_625 ⟨w_620, y_628, v_629, v_631, y_633, y_634, y_635, y_636, rfl, P, k_627, k_630, k_632, hq_624⟩ e hx_649
            replace P := P.item e
            replace k_627 := ((y_Tree T)).mono e.z k_627
            replace zs_625 := zs_625.trans e.z
            obtain ⟨u_650, hB_623, hq_624⟩ := bind_inv (forF_cons hq_624)
            unfold L_law_due_1 at hB_623
            refine tgt_name _ P.sub _ ?_
            obtain ⟨r_651, h_652, hB_623⟩ := bind_inv hB_623
            refine st_seq (st_set P (ev_call (cs_law_outcomes T h_652) (eva_cons (ev_var (τ := (y_FT T)) rfl hx_649) (eva_cons (ev_var (τ := (y_Tree T)) rfl k_627) eva_nil))) (fun v_653 Z1 H1 e P1 k_654 => ?_))
            refine st_nx ?_
            replace P := P1
            replace k_654 : ((yOpt (yP2 K yBool yBool))).r Z1 v_653 r_651 := k_654
            replace k_627 := ((y_Tree T)).mono e.z k_627
            replace zs_625 := zs_625.trans e.z
            refine st_if P (et_cmp (ev_notN (ev_var (τ := (yOpt (yP2 K yBool yBool))) rfl k_654) ev_non)) (fun b_655 Z1 H1 e P1 => ?_) (fun b_655 Z1 H1 e P1 => ?_)
            · replace P := P1
              have hB := ifT b_655 hB_623
              replace hB_623 := hB
              clear hB
              replace k_627 := ((y_Tree T)).mono e.z k_627
              replace k_654 := ((yOpt (yP2 K yBool yBool))).mono e.z k_654
              replace zs_625 := zs_625.trans e.z
              obtain ⟨b_659, h_658, hB_623⟩ := bind_inv hB_623
              refine st_seq (st_set P (ev_andO (ev_var (τ := yBool) rfl k_630) (fun _ y hy => by
                    obtain ⟨u_656, h_657, hy⟩ := bind_inv hy
                    have hy := Option.some.inj hy
                    subst hy
                    exact (ev_cast (ev_part po2_0 (ev_uno (ev_var (τ := (yOpt (yP2 K yBool yBool))) rfl k_654) h_657) ev_int) rfl)) h_658) (fun v_660 Z1 H1 e P1 k_661 => ?_))
              refine st_nx ?_
              replace P := P1
              replace k_627 := ((y_Tree T)).mono e.z k_627
              replace k_654 := ((yOpt (yP2 K yBool yBool))).mono e.z k_654
              replace zs_625 := zs_625.trans e.z
              obtain ⟨b_665, h_664, hB_623⟩ := bind_inv hB_623
              refine st_set P (ev_andO (ev_var (τ := yBool) rfl k_632) (fun _ y hy => by
                    obtain ⟨u_662, h_663, hy⟩ := bind_inv hy
                    have hy := Option.some.inj hy
                    subst hy
                    exact (ev_cast (ev_part po2_1 (ev_uno (ev_var (τ := (yOpt (yP2 K yBool yBool))) rfl k_654) h_663) ev_int) rfl)) h_664) (fun v_666 Z1 H1 e P1 k_667 => ?_)
              replace P := P1
              replace k_627 := ((y_Tree T)).mono e.z k_627
              replace zs_625 := zs_625.trans e.z
              replace hB_623 := Option.some.inj hB_623
              subst hB_623
              exact ⟨_, zs_625, P.sub, (b_659, b_665), _, _, _, _, _, _, _, rfl, P, k_627, k_661, k_667, hq_624⟩
            · replace P := P1
              have hB := ifF b_655 hB_623
              replace hB_623 := hB
              clear hB
              refine st_next ?_
              replace k_627 := ((y_Tree T)).mono e.z k_627
              replace zs_625 := zs_625.trans e.z
              replace hB_623 := Option.some.inj hB_623
              subst hB_623
              exact ⟨_, zs_625, P.sub, (w_620.1, w_620.2), _, _, _, _, _, _, _, rfl, P, k_627, k_630, k_632, hq_624⟩
          rintro σ' Z1 H1 _ _ ⟨w_637, y_628, v_640, v_642, y_633, y_634, y_635, y_636, rfl, P, k_627, k_641, k_643, hl⟩
          have hz := (forF_nil hl).symm
          subst hz
          refine st_nx ?_
          replace hF := Option.some.inj hF
          subst hF
          refine st_ret P (ev_p2 (K := K) (eva_cons (ev_var (τ := yBool) rfl k_641) (eva_cons (ev_var (τ := yBool) rfl k_643) eva_nil))) (fun v Z1 H1 P1 hv => ?_)
          exact q v _ _ P1.st hv
theorem ogs_3 (T : Txt K mg) : ∀ n, FnOk P w K mg base CX0 (2 + 1 * n + 1) T.f_law_due T.d_law_due ["tree", "facts"] (sg_law_due T (grp3 n))
  | 0 => ⟨fun _ _ _ _ h => (by obtain ⟨Z0, v_tree, v_facts, x_tree, x_facts, y, rfl, sz, h_tree, h_facts, hF, _⟩ := h; exact nomatch (show (none : Option _) = some _ from hF)), fun _ _ _ _ _ _ _ _ _ _ _ _ _ h => (by obtain ⟨Z0, v_tree, v_facts, x_tree, x_facts, y, rfl, sz, h_tree, h_facts, hF, _⟩ := h; exact nomatch (show (none : Option _) = some _ from hF))⟩
  | n + 1 => og_law_due T rfl (n := 2 + 1 * n + 1) (n2 := 2 + 1 * (n + 1)) (by omega) (by omega) (ogs_3 T n)
def sp_law_due (T : Txt K mg) : Sp := sg_law_due T (grp3 5)
theorem ok_law_due (T : Txt K mg) : FnOk P w K mg base CX0 8 T.f_law_due T.d_law_due ["tree", "facts"] (sp_law_due T) := (ogs_3 T 5)
theorem cs_law_due (T : Txt K mg) {μ : Type} {M : Mu μ} {s : μ} {E : XK} {x_tree : Tree} {x_facts : (List FT)} {y : (Bool × Bool)} (h : F_law_due x_tree x_facts = some y) : CallS M (sp_law_due T) E (rac (ty (y_Tree T) x_tree) (rac (ty (yList (y_FT T)) x_facts) ra0)) s (ty (yP2 K yBool yBool) y) s := by
  rintro Z H vs sz m ⟨v_tree, _, rfl, h_tree, ⟨v_facts, _, rfl, h_facts, rfl⟩⟩ Q q
  exact ⟨Z, v_tree, v_facts, x_tree, x_facts, y, rfl, sz, h_tree, h_facts, h, fun v Z2 H2 st hv => q v Z2 H2 st.pure (M.pure st m) hv⟩
def sp_law (K : PySem.W.Frag) : Sp := fun vs H Q _ => ∃ (a : Addr) (ns : List Int), vs = [.ref a] ∧ (SqL K H a (ns.map V.int)) ∧ (ns.length ≤ 63) ∧ ∀ H', Q (.bl true) H'
set_option maxHeartbeats 8000000 in
theorem ok_law (T : Txt K mg) : FnOk P w K mg base CX0 12 T.f_law T.d_law ["script"] (sp_law K) := by
  have G_law_due : FnOk P w K mg base CX0 8 T.f_law_due T.d_law_due ["tree", "facts"] (sp_law_due T) := ok_law_due T
  have G_law_built : FnOk P w K mg base CX0 7 T.f_law_built T.d_law_built ["tree"] (sp_law_built T) := ok_law_built T
  have G_can_pass : FnOk P w K mg base CX0 11 T.f_can_pass T.d_can_pass ["condition", "facts"] (sp_can_pass T) := ok_can_pass T
  have G_law_next : FnOk P w K mg base CX0 2 T.f_law_next T.d_law_next ["state", "many"] (sp_law_next T) := ok_law_next T
  have G_Norms___init__ : FnOk P w K mg base CX0 1 T.f_Norms___init__ T.d_Norms___init__ ["self", "low", "high"] (sp_Norms___init__ T) := ok_Norms___init__ T
  have G_Box___init__ : FnOk P w K mg base CX0 1 T.f_Box___init__ T.d_Box___init__ ["self", "low", "high"] (sp_Box___init__ T) := ok_Box___init__ T
  have G_Names___init__ : FnOk P w K mg base CX0 1 T.f_Names___init__ T.d_Names___init__ ["self", "low", "high"] (sp_Names___init__ T) := ok_Names___init__ T
  have G_law_made : FnOk P w K mg base CX0 3 T.f_law_made T.d_law_made ["fact"] (sp_law_made T) := ok_law_made T
  have G_law_tree : FnOk P w K mg base CX0 8 T.f_law_tree T.d_law_tree ["state", "depth"] (sp_law_tree T) := ok_law_tree T
  have G_law_field_fact : FnOk P w K mg base CX0 3 T.f_law_field_fact T.d_law_field_fact ["state"] (sp_law_field_fact T) := ok_law_field_fact T
  refine T.F_law.ok sc_law (fun vs H Q E h => ?_) (fun cdv A outer s H vs Q E hr h => ?_)
  · obtain ⟨a, ns, rfl, _⟩ := h
    rfl
  · obtain ⟨a, ns, rfl, hA, hlen, q⟩ := h
    refine ⟨_, (pss_cons (ps_set (i := 1) sc_law.nd rfl (.inr rfl) (pe_lst (pa_cons (pe_callTy call_list_of (by rfl) T.m_list (by decide +kernel) (pa_cons (pv 0) pa_nil)) (pa_cons pe_int (pa_cons pe_int pa_nil))))) 
      (pss_cons (ps_for PassesOwn.never rfl (pi_range1 rfl T.m_range (pa_cons pe_int pa_nil)) (pg_name (i := 2) sc_law.nd rfl (.inl rfl)) (pss_cons (ps_setLc (i := 3) (own := [("k", 4)]) (g := gName 4) rfl sc_law.nd rfl rfl (sw_true rfl rfl rfl (by decide +kernel)) (pi_range1 rfl T.m_range (pa_cons (pe_call G_law_next (hr.mono (by decide)) (by rfl) T.g_law_next T.F_law_next.kp T.b_law_next .nil pass0 (pa_cons (pv 1) (pa_cons pe_int pa_nil))) pa_nil)) (blkOk_by (own := [("k", 4)]) (N := ["script", "state", "turn", "facts", "k", "tree", "made", "fact", "actual"]) (sc := defScope s_law) (by decide +kernel)) (fun _ _ _ _ _ => (pg_name (i := 4) sc_law.nd rfl (Or.inl rfl))) (fun _ _ _ _ _ => pts_nil) (fun _ _ _ _ _ => (pe_call G_law_field_fact (hr.mono (by decide)) (by rfl) T.g_law_field_fact T.F_law_field_fact.kp T.b_law_field_fact .nil pass0 (pa_cons (pv 1) pa_nil)))) 
      (pss_cons (ps_set (i := 5) sc_law.nd rfl (.inl rfl) (pe_call G_law_tree (hr.mono (by decide)) (by rfl) T.g_law_tree T.F_law_tree.kp T.b_law_tree .nil pass0 (pa_cons (pv 1) (pa_cons (pe_op op_add pe_int (pe_call G_law_next (hr.mono (by decide)) (by rfl) T.g_law_next T.F_law_next.kp T.b_law_next .nil pass0 (pa_cons (pv 1) (pa_cons pe_int pa_nil)))) pa_nil)))) 
      (pss_cons (ps_setLc (i := 6) (own := [("fact", 7)]) (g := gName 7) rfl sc_law.nd rfl rfl (sw_true rfl rfl rfl (by decide +kernel)) (pi_list (pv 3)) (blkOk_by (own := [("fact", 7)]) (N := ["script", "state", "turn", "facts", "k", "tree", "made", "fact", "actual"]) (sc := defScope s_law) (by decide +kernel)) (fun _ _ _ _ _ => (pg_name (i := 7) sc_law.nd rfl (Or.inl rfl))) (fun _ _ _ _ _ => pts_nil) (fun _ _ _ _ _ => (pe_call G_law_made (hr.mono (by decide)) (by rfl) T.g_law_made T.F_law_made.kp T.b_law_made .nil pass0 (pa_cons (pv 7) pa_nil)))) 
      (pss_cut (ps_if (pt_cmpR op_eq (pe_call G_law_next (hr.mono (by decide)) (by rfl) T.g_law_next T.F_law_next.kp T.b_law_next .nil pass0 (pa_cons (pv 1) (pa_cons pe_int pa_nil))) pe_int (nomark _)) (pss_one (ps_set (i := 6) sc_law.nd rfl (.inl rfl) (pe_op op_cat (pe_op op_cat (pe_lst (pa_cons (pe_make T.mk_Norms G_Norms___init__ (hr.mono (by decide)) (by rfl) T.mc_Norms T.b_Norms___init__ .nil pass0 (pa_cons pe_int (pa_cons pe_int pa_nil))) pa_nil)) (pv 6)) (pe_lst (pa_cons (pe_make T.mk_Names G_Names___init__ (hr.mono (by decide)) (by rfl) T.mc_Names T.b_Names___init__ .nil pass0 (pa_cons pe_str (pa_cons pe_str pa_nil))) (pa_cons (pe_make T.mk_Box G_Box___init__ (hr.mono (by decide)) (by rfl) T.mc_Box T.b_Box___init__ .nil pass0 (pa_cons (pe_lst (pa_cons pe_int pa_nil)) (pa_cons (pe_lst (pa_cons pe_int pa_nil)) pa_nil))) pa_nil)))))) pss_nil) 
      (pss_cons (ps_set (i := 8) sc_law.nd rfl (.inl rfl) (pe_call G_can_pass (hr.mono (by decide)) (by rfl) T.g_can_pass T.F_can_pass.kp T.b_can_pass .nil pass0 (pa_cons (pe_call G_law_built (hr.mono (by decide)) (by rfl) T.g_law_built T.F_law_built.kp T.b_law_built .nil pass0 (pa_cons (pv 5) pa_nil)) (pa_cons (pv 6) pa_nil)))) 
      (pss_one (ps_if (PW.pt (pw_or (pt_not (pt_val (pe_callB call_isi (by rfl) T.m_isinstance (by decide +kernel) (pa_cons (pv 8) (pa_cons (pe_bltn (v := .ty "tuple") (u := .type "tuple") (by rfl) T.m_tuple (by decide +kernel) rfl) pa_nil))))) (pw_or1 (pt_cmpR (op_neD hr.units) (pv 8) (pe_call G_law_due (hr.mono (by decide)) (by rfl) T.g_law_due T.F_law_due.kp T.b_law_due .nil pass0 (pa_cons (pv 5) (pa_cons (pv 3) pa_nil))) (nomark _))))) (pss_one (ps_ret pe_bl)) pss_nil)))))))) 
      (pss_one (ps_ret pe_bl)))), ?_⟩
    have hF := law_true ns hlen
    unfold F_law at hF
    refine st_norm (by dsimp only [List.set, L2.start, List.map, List.length, List.replicate, List.cons_append, List.nil_append, Nat.reduceSub, Nat.reduceAdd]) ?_
    refine st_seq ?_
    refine st_draws hA hlen (fun st sc Z0 Z1 H1 P => ?_)
    refine st_nx ?_
    refine st_norm (by dsimp only [List.set, L2.start, List.map, List.length, List.replicate, List.cons_append, List.nil_append, Nat.reduceSub, Nat.reduceAdd]) ?_
    obtain ⟨f_753, hL_754, hF⟩ := bind_inv hF
    refine st_seq (st_for (τ := yInt) (fun (r_672 : List Int) σ' Z' H' => ∃ w_670, ∃ (y_677 : Option V) (y_678 : Option V) (y_679 : Option V) (y_680 : Option V) (y_681 : Option V) (y_682 : Option V) (y_683 : Option V) (y_684 : Option V), σ' = [y_677, some (.ref st), y_678, y_679, y_680, y_681, y_682, y_683, y_684] ∧ Pt [] Z0 H (muD st sc) Z' H' w_670 ∧ forS L_law_1 r_672 w_670 = some f_753) P (ei_rng1 ev_int (by decide)) ?_ ?_ ?_)
    · rintro Z1 H1 e P1
      replace P := P1
      exact ⟨(DS.mk ns 0 0), _, _, _, _, _, _, _, _, rfl, P, hL_754⟩
    · rintro Zb_676 Hb eb x_671 r_672 σ' v_694 Z1 H1 Z2 H2 zs_675 ⟨w_670, y_677, y_678, y_679, y_680, y_681, y_682, y_683, y_684, rfl, P, hq_674⟩ e hx_695
      replace P := P.item e
      replace zs_675 := zs_675.trans e.z
      obtain ⟨u_696, hB_673, hq_674⟩ := bind_inv (forS_cons hq_674)
      unfold L_law_1 at hB_673
      refine tgt_name _ P.sub _ ?_
      refine st_norm (by dsimp only [List.set, L2.start, List.map, List.length, List.replicate, List.cons_append, List.nil_append, Nat.reduceSub, Nat.reduceAdd]) ?_
      obtain ⟨g_697, hB_673⟩ := guard_inv hB_673
      obtain ⟨l_704, h_705, hB_673⟩ := bind_inv hB_673
      refine st_seq (st_set P (ev_fz (en_mapS (υ := (y_FT T)) (fun (x_698 : Int) (s_699 : DS) => ((F_law_field_fact s_699).bind fun r_702 =>
      some (r_702.1, r_702.2) : Option (FT × DS))) (ei_rng1 (ev_call (cs__law_next T (by decide +kernel)) (eva_cons (ev_ref rfl) (eva_cons ev_int eva_nil))) g_697) (fun x_698 v_700 Z' H' s_699 p zz hh rx_701 hp => by
            have hy := hp
            obtain ⟨r_702, h_703, hy⟩ := bind_inv hy
            have hy := Option.some.inj hy
            subst hy
            exact ⟨_, tgt_name, (wpe_s wpe_z (by decide)), (ev_call (cs_law_field_fact T h_703) (eva_cons (ev_ref rfl) eva_nil))⟩) h_705)) (fun v_706 Z1 H1 e P1 k_707 => ?_))
      refine st_nx ?_
      replace P := P1
      replace zs_675 := zs_675.trans e.z
      refine st_norm (by dsimp only [List.set, L2.start, List.map, List.length, List.replicate, List.cons_append, List.nil_append, Nat.reduceSub, Nat.reduceAdd]) ?_
      obtain ⟨r_708, h_709, hB_673⟩ := bind_inv hB_673
      refine st_seq (st_set P (ev_call (cs_law_tree T h_709) (eva_cons (ev_ref rfl) (eva_cons (ev_add ev_int (ev_call (cs__law_next T (by decide +kernel)) (eva_cons (ev_ref rfl) (eva_cons ev_int eva_nil)))) eva_nil))) (fun v_710 Z1 H1 e P1 k_711 => ?_))
      refine st_nx ?_
      replace P := P1
      replace k_707 := ((yList (y_FT T))).mono e.z k_707
      replace zs_675 := zs_675.trans e.z
      refine st_norm (by dsimp only [List.set, L2.start, List.map, List.length, List.replicate, List.cons_append, List.nil_append, Nat.reduceSub, Nat.reduceAdd]) ?_
      obtain ⟨l_718, h_719, hB_673⟩ := bind_inv hB_673
      refine st_seq (st_set P (ev_fz (en_mapO (υ := (y_Fa T)) (fun (x_712 : FT) => ((F_law_made x_712).bind fun r_716 =>
      some r_716 : Option Fa)) (ei_list (ev_var (τ := (yList (y_FT T))) rfl k_707)) (fun x_712 v_714 Z' H' p zz hh rx_715 hp => by
            have hy := hp
            obtain ⟨r_716, h_717, hy⟩ := bind_inv hy
            have hy := Option.some.inj hy
            subst hy
            exact ⟨_, tgt_name, (wpe_s wpe_z (by decide)), (ev_call (cs_law_made T h_717) (eva_cons (ev_var (τ := (y_FT T)) rfl rx_715) eva_nil))⟩) h_719)) (fun v_720 Z1 H1 e P1 k_721 => ?_))
      refine st_nx ?_
      replace P := P1
      replace k_707 := ((yList (y_FT T))).mono e.z k_707
      replace k_711 := ((y_Tree T)).mono e.z k_711
      replace zs_675 := zs_675.trans e.z
      refine st_norm (by dsimp only [List.set, L2.start, List.map, List.length, List.replicate, List.cons_append, List.nil_append, Nat.reduceSub, Nat.reduceAdd]) ?_
      obtain ⟨w_724, hB_723, hB_673⟩ := bind_inv hB_673
      refine ⟨fun σ' H' => ∃ Z', ∃ (y_725 : Option V) (y_726 : Option V) (y_728 : Option V) (v_730 : V) (y_732 : Option V) (y_733 : Option V), σ' = [y_725, some (.ref st), y_726, some v_706, y_728, some v_710, some v_730, y_732, y_733] ∧ Pt [] Z0 H (muD st sc) Z' H' (nxS r_708.2 (2 : Int)) ∧ Same Zb_676 Z' ∧ ((yList (y_FT T))).r Z' v_706 l_704.1 ∧ ((y_Tree T)).r Z' v_710 r_708.1 ∧ ((yList (y_Fa T))).r Z' v_730 w_724, ?_, ?_⟩
      · refine st_if P (et_cmp (ev_eq flat_int (ev_call (cs__law_next T (by decide +kernel)) (eva_cons (ev_ref rfl) (eva_cons ev_int eva_nil))) ev_int)) (fun b_722 Z1 H1 e P1 => ?_) (fun b_722 Z1 H1 e P1 => ?_)
        · replace P := P1
          replace hB_723 := ifT b_722 hB_723
          replace k_707 := ((yList (y_FT T))).mono e.z k_707
          replace k_711 := ((y_Tree T)).mono e.z k_711
          replace k_721 := ((yList (y_Fa T))).mono e.z k_721
          replace zs_675 := zs_675.trans e.z
          refine st_norm (by dsimp only [List.set, L2.start, List.map, List.length, List.replicate, List.cons_append, List.nil_append, Nat.reduceSub, Nat.reduceAdd]) ?_
          obtain ⟨g_736, hB_723⟩ := guard_inv hB_723
          obtain ⟨g_737, hB_723⟩ := guard_inv hB_723
          obtain ⟨x_made_738, h_739, hB_723⟩ := bind_inv hB_723
          replace h_739 := Option.some.inj h_739
          refine st_set P (ev_cast (ev_fz (en_cat (ev_li (ev_fz (en_cat (ev_li (ev_fz (en_listD (eva_conss (ij_Fa_norms T (ev_make (is_Norms___init__ T) (eva_cons ev_int (eva_cons ev_int eva_nil)))) (eva_nils (τ := (y_Fa T)))) (by show 1 ≤ sizeLine; decide)))) (ev_li (ev_var (τ := (yList (y_Fa T))) rfl k_721)) g_736))) (ev_li (ev_fz (en_listD (eva_conss (ij_Fa_names T (ev_make (is_Names___init__ T) (eva_cons ev_str (eva_cons ev_str eva_nil)))) (eva_conss (ij_Fa_box T (ev_make (is_Box___init__ T) (eva_cons (ev_fz (en_listD (eva_conss ev_int (eva_nils (τ := yInt))) (by show 1 ≤ sizeLine; decide))) (eva_cons (ev_fz (en_listD (eva_conss ev_int (eva_nils (τ := yInt))) (by show 1 ≤ sizeLine; decide))) eva_nil)))) (eva_nils (τ := (y_Fa T))))) (by show 2 ≤ sizeLine; decide)))) g_737)) h_739) (fun v_740 Z1 H1 e P1 k_741 => ?_)
          replace P := P1
          replace k_707 := ((yList (y_FT T))).mono e.z k_707
          replace k_711 := ((y_Tree T)).mono e.z k_711
          replace zs_675 := zs_675.trans e.z
          replace hB_723 := Option.some.inj hB_723
          subst hB_723
          exact ⟨_, _, _, _, _, _, _, rfl, P, zs_675, k_707, k_711, k_741⟩
        · replace P := P1
          replace hB_723 := ifF b_722 hB_723
          replace k_707 := ((yList (y_FT T))).mono e.z k_707
          replace k_711 := ((y_Tree T)).mono e.z k_711
          replace k_721 := ((yList (y_Fa T))).mono e.z k_721
          replace zs_675 := zs_675.trans e.z
          replace hB_723 := Option.some.inj hB_723
          subst hB_723
          exact ⟨_, _, _, _, _, _, _, rfl, P, zs_675, k_707, k_711, k_721⟩
      rintro σ' H' ⟨Z1, y_725, y_726, y_728, v_730, y_732, y_733, rfl, P, zs_734, k_727, k_729, k_731⟩
      refine st_norm (by dsimp only [List.set, L2.start, List.map, List.length, List.replicate, List.cons_append, List.nil_append, Nat.reduceSub, Nat.reduceAdd]) ?_
      obtain ⟨r_742, h_743, hB_673⟩ := bind_inv hB_673
      obtain ⟨r_744, h_745, hB_673⟩ := bind_inv hB_673
      refine st_seq (st_set P (ev_call (cs_can_pass T h_745) (eva_cons (ev_call (cs_law_built T h_743) (eva_cons (ev_var (τ := (y_Tree T)) rfl k_729) eva_nil)) (eva_cons (ev_var (τ := (yList (y_Fa T))) rfl k_731) eva_nil))) (fun v_746 Z1 H1 e P1 k_747 => ?_))
      refine st_nx ?_
      replace P := P1
      replace k_727 := ((yList (y_FT T))).mono e.z k_727
      replace k_729 := ((y_Tree T)).mono e.z k_729
      replace zs_734 := zs_734.trans e.z
      refine st_norm (by dsimp only [List.set, L2.start, List.map, List.length, List.replicate, List.cons_append, List.nil_append, Nat.reduceSub, Nat.reduceAdd]) ?_
      obtain ⟨b_751, h_750, hB_673⟩ := bind_inv hB_673
      refine st_if P (et_orO (et_not (et_val (ev_isi (b := true) (fun _ _ _ h => h) (ev_var (τ := (yP2 K yBool yBool)) rfl k_747) tx_p2 (.ty _) (kit_ty (by decide +kernel))))) (fun _ y hy => by
            obtain ⟨r_748, h_749, hy⟩ := bind_inv hy
            have hy := Option.some.inj hy
            subst hy
            exact (et_cmp (ev_neD (eqd_p2 eqd_bool eqd_bool) (by decide) (ev_var (τ := (yP2 K yBool yBool)) rfl k_747) (ev_call (cs_law_due T h_749) (eva_cons (ev_var (τ := (y_Tree T)) rfl k_729) (eva_cons (ev_var (τ := (yList (y_FT T))) rfl k_727) eva_nil)))))) h_750) (fun b_752 Z1 H1 e P1 => ?_) (fun b_752 Z1 H1 e P1 => ?_)
      · replace P := P1
        have hB := ifT b_752 hB_673
        replace hB_673 := hB
        clear hB
        replace zs_734 := zs_734.trans e.z
        refine st_norm (by dsimp only [List.set, L2.start, List.map, List.length, List.replicate, List.cons_append, List.nil_append, Nat.reduceSub, Nat.reduceAdd]) ?_
        replace hB_673 := Option.some.inj hB_673
        subst hB_673
        have hz := nxt_ret hq_674
        subst hz
        have hz := ret_inv hF
        have hb := Option.some.inj hz
        refine st_ret P ev_bl (fun v Z H P hv => ?_)
        have hv2 : v = V.bl _ := hv
        rw [hb] at hv2
        rw [hv2]
        exact q _
      · replace P := P1
        have hB := ifF b_752 hB_673
        replace hB_673 := hB
        clear hB
        refine st_next ?_
        replace zs_734 := zs_734.trans e.z
        replace hB_673 := Option.some.inj hB_673
        subst hB_673
        exact ⟨_, zs_734, P.sub, (nxS r_708.2 (2 : Int)), _, _, _, _, _, _, _, _, rfl, P, (nxt_go hq_674)⟩
    rintro σ' Z1 H1 _ _ ⟨w_685, y_677, y_678, y_679, y_680, y_681, y_682, y_683, y_684, rfl, P, hl⟩
    have hz := forS_nil hl
    subst hz
    replace hF := go_inv hF
    refine st_nx ?_
    refine st_norm (by dsimp only [List.set, L2.start, List.map, List.length, List.replicate, List.cons_append, List.nil_append, Nat.reduceSub, Nat.reduceAdd]) ?_
    have hb := Option.some.inj hF
    refine st_ret P ev_bl (fun v Z H P hv => ?_)
    have hv2 : v = V.bl _ := hv
    rw [hb] at hv2
    rw [hv2]
    exact q _
end
set_option maxRecDepth 100000 in
set_option maxHeartbeats 0 in
theorem all_mk {l : PySem.W.OpenLaw} {w : World} {K : PySem.W.Frag} {h : Heap} {mg : Str → Option Value} {fa f0 f1 f2 f3 f4 f5 f6 f7 f8 f9 f10 f11 f12 f13 f14 f15 f16 f17 f18 f19 f20 f21 f22 f23 f24 f25 f26 f27 f28 f29 f30 f31 f32 f33 f34 f35 : Addr} (X : K.In h) (G : h.Ns mainGlobals mg) (hfa : mg "law" = some (.ref fa))
    {od0 an0 od1 an1 od2 an2 od3 an3 od4 an4 od5 an5 od6 an6 od7 an7 od8 an8 od9 an9 od10 an10 od11 an11 od12 an12 od13 an13 od14 an14 od15 an15 od16 an16 od17 an17 od18 an18 od19 an19 od20 an20 od21 an21 od22 an22 od23 an23 od24 an24 od25 an25 od26 an26 od27 an27 od28 an28 od29 an29 od30 an30 od31 an31 od32 an32 od33 an33 od34 an34 od35 an35 : Option Addr} {sl0 sl1 sl2 sl3 sl4 sl5 sl6 sl7 sl8 sl9 sl10 sl11 sl12 sl13 sl14 sl15 sl16 sl17 sl18 sl19 sl20 sl21 sl22 sl23 sl24 sl25 sl26 sl27 sl28 sl29 sl30 sl31 sl32 sl33 sl34 sl35 : Array (Option Value)} {oc0 kV0 dc0 pm0 cd0 ct0 oc1 kV1 dc1 pm1 cd1 ct1 oc2 kV2 dc2 pm2 cd2 ct2 oc3 kV3 dc3 pm3 cd3 ct3 oc4 kV4 dc4 pm4 cd4 ct4 oc5 kV5 dc5 pm5 cd5 ct5 oc6 kV6 dc6 pm6 cd6 ct6 oc7 kV7 dc7 pm7 cd7 ct7 oc8 kV8 dc8 pm8 cd8 ct8 oc9 kV9 dc9 pm9 cd9 ct9 oc10 kV10 dc10 pm10 cd10 ct10 oc11 kV11 dc11 pm11 cd11 ct11 oc12 kV12 dc12 pm12 cd12 ct12 oc13 kV13 dc13 pm13 cd13 ct13 oc14 kV14 dc14 pm14 cd14 ct14 oc15 kV15 dc15 pm15 cd15 ct15 oc16 kV16 dc16 pm16 cd16 ct16 oc17 kV17 dc17 pm17 cd17 ct17 oc18 kV18 dc18 pm18 cd18 ct18 oc19 kV19 dc19 pm19 cd19 ct19 oc20 kV20 dc20 pm20 cd20 ct20 oc21 dc21 pm21 cd21 ct21 oc22 dc22 pm22 cd22 ct22 oc23 kV23 dc23 pm23 cd23 ct23 oc24 kV24 dc24 pm24 cd24 ct24 oc25 kV25 dc25 pm25 cd25 ct25 oc26 kV26 dc26 pm26 cd26 ct26 oc27 kV27 dc27 pm27 cd27 ct27 oc28 kV28 dc28 pm28 cd28 ct28 oc29 kV29 dc29 pm29 cd29 ct29 oc30 kV30 dc30 pm30 cd30 ct30 oc31 kV31 dc31 pm31 cd31 ct31 oc32 kV32 dc32 pm32 cd32 ct32 oc33 kV33 dc33 pm33 cd33 ct33 oc34 kV34 dc34 pm34 cd34 ct34 oc35 kV35 dc35 pm35 cd35 ct35 : Value}
    {C_Every C_Has C_Compare C_OneOf C_Both C_Either C_Negation C_Range C_Values C_Norms C_Names C_Box : Addr}
    (a0 : PySem.W.nsIn K mainGlobals "_law_row" = some (some (.ref f0))) (l0 : K.lookup f0 = some ⟨oc0, od0, .func (PySem.W.fnOf "_law_row" "_law_row" (defArgs s_law_row) (defBody s_law_row) (defScope s_law_row) .none kV0 dc0 pm0 an0 cd0 ct0), sl0⟩) (c0 : PySem.W.codeIn K cd0 "_law_row" = true) (k0 : PySem.W.keepIn K (.ref f0) = true)
    (a1 : PySem.W.nsIn K mainGlobals "_law_next" = some (some (.ref f1))) (l1 : K.lookup f1 = some ⟨oc1, od1, .func (PySem.W.fnOf "_law_next" "_law_next" (defArgs s_law_next) (defBody s_law_next) (defScope s_law_next) .none kV1 dc1 pm1 an1 cd1 ct1), sl1⟩) (c1 : PySem.W.codeIn K cd1 "_law_next" = true) (k1 : PySem.W.keepIn K (.ref f1) = true)
    (a2 : PySem.W.nsIn K mainGlobals "_law_leaf" = some (some (.ref f2))) (l2 : K.lookup f2 = some ⟨oc2, od2, .func (PySem.W.fnOf "_law_leaf" "_law_leaf" (defArgs s_law_leaf) (defBody s_law_leaf) (defScope s_law_leaf) .none kV2 dc2 pm2 an2 cd2 ct2), sl2⟩) (c2 : PySem.W.codeIn K cd2 "_law_leaf" = true) (k2 : PySem.W.keepIn K (.ref f2) = true)
    (a3 : PySem.W.nsIn K mainGlobals "_law_tree" = some (some (.ref f3))) (l3 : K.lookup f3 = some ⟨oc3, od3, .func (PySem.W.fnOf "_law_tree" "_law_tree" (defArgs s_law_tree) (defBody s_law_tree) (defScope s_law_tree) .none kV3 dc3 pm3 an3 cd3 ct3), sl3⟩) (c3 : PySem.W.codeIn K cd3 "_law_tree" = true) (k3 : PySem.W.keepIn K (.ref f3) = true)
    (l4 : K.lookup f4 = some ⟨oc4, od4, .func (PySem.W.fnOf "outcomes" "Fact.outcomes" (defArgs s_Fact_outcomes) (defBody s_Fact_outcomes) (defScope s_Fact_outcomes) .none kV4 dc4 pm4 an4 cd4 ct4), sl4⟩) (c4 : PySem.W.codeIn K cd4 "Fact.outcomes" = true) (k4 : PySem.W.keepIn K (.ref f4) = true)
    (a5 : PySem.W.nsIn K mainGlobals "outcomes_of_lack" = some (some (.ref f5))) (l5 : K.lookup f5 = some ⟨oc5, od5, .func (PySem.W.fnOf "outcomes_of_lack" "outcomes_of_lack" (defArgs s_outcomes_of_lack) (defBody s_outcomes_of_lack) (defScope s_outcomes_of_lack) .none kV5 dc5 pm5 an5 cd5 ct5), sl5⟩) (c5 : PySem.W.codeIn K cd5 "outcomes_of_lack" = true) (k5 : PySem.W.keepIn K (.ref f5) = true)
    (a6 : PySem.W.nsIn K mainGlobals "kind_of_value" = some (some (.ref f6))) (l6 : K.lookup f6 = some ⟨oc6, od6, .func (PySem.W.fnOf "kind_of_value" "kind_of_value" (defArgs s_kind_of_value) (defBody s_kind_of_value) (defScope s_kind_of_value) .none kV6 dc6 pm6 an6 cd6 ct6), sl6⟩) (c6 : PySem.W.codeIn K cd6 "kind_of_value" = true) (k6 : PySem.W.keepIn K (.ref f6) = true)
    (a7 : PySem.W.nsIn K mainGlobals "range_outcomes" = some (some (.ref f7))) (l7 : K.lookup f7 = some ⟨oc7, od7, .func (PySem.W.fnOf "range_outcomes" "range_outcomes" (defArgs s_range_outcomes) (defBody s_range_outcomes) (defScope s_range_outcomes) .none kV7 dc7 pm7 an7 cd7 ct7), sl7⟩) (c7 : PySem.W.codeIn K cd7 "range_outcomes" = true) (k7 : PySem.W.keepIn K (.ref f7) = true)
    (a8 : PySem.W.nsIn K mainGlobals "is_from" = some (some (.ref f8))) (l8 : K.lookup f8 = some ⟨oc8, od8, .func (PySem.W.fnOf "is_from" "is_from" (defArgs s_is_from) (defBody s_is_from) (defScope s_is_from) .none kV8 dc8 pm8 an8 cd8 ct8), sl8⟩) (c8 : PySem.W.codeIn K cd8 "is_from" = true) (k8 : PySem.W.keepIn K (.ref f8) = true)
    (l9 : K.lookup f9 = some ⟨oc9, od9, .func (PySem.W.fnOf "outcomes" "Range.outcomes" (defArgs s_Range_outcomes) (defBody s_Range_outcomes) (defScope s_Range_outcomes) .none kV9 dc9 pm9 an9 cd9 ct9), sl9⟩) (c9 : PySem.W.codeIn K cd9 "Range.outcomes" = true) (k9 : PySem.W.keepIn K (.ref f9) = true)
    (a10 : PySem.W.nsIn K mainGlobals "satisfies" = some (some (.ref f10))) (l10 : K.lookup f10 = some ⟨oc10, od10, .func (PySem.W.fnOf "satisfies" "satisfies" (defArgs s_satisfies) (defBody s_satisfies) (defScope s_satisfies) .none kV10 dc10 pm10 an10 cd10 ct10), sl10⟩) (c10 : PySem.W.codeIn K cd10 "satisfies" = true) (k10 : PySem.W.keepIn K (.ref f10) = true)
    (a11 : PySem.W.nsIn K mainGlobals "same_value" = some (some (.ref f11))) (l11 : K.lookup f11 = some ⟨oc11, od11, .func (PySem.W.fnOf "same_value" "same_value" (defArgs s_same_value) (defBody s_same_value) (defScope s_same_value) .none kV11 dc11 pm11 an11 cd11 ct11), sl11⟩) (c11 : PySem.W.codeIn K cd11 "same_value" = true) (k11 : PySem.W.keepIn K (.ref f11) = true)
    (a12 : PySem.W.nsIn K mainGlobals "is_among" = some (some (.ref f12))) (l12 : K.lookup f12 = some ⟨oc12, od12, .func (PySem.W.fnOf "is_among" "is_among" (defArgs s_is_among) (defBody s_is_among) (defScope s_is_among) .none kV12 dc12 pm12 an12 cd12 ct12), sl12⟩) (c12 : PySem.W.codeIn K cd12 "is_among" = true) (k12 : PySem.W.keepIn K (.ref f12) = true)
    (a13 : PySem.W.nsIn K mainGlobals "value_passes" = some (some (.ref f13))) (l13 : K.lookup f13 = some ⟨oc13, od13, .func (PySem.W.fnOf "value_passes" "value_passes" (defArgs s_value_passes) (defBody s_value_passes) (defScope s_value_passes) .none kV13 dc13 pm13 an13 cd13 ct13), sl13⟩) (c13 : PySem.W.codeIn K cd13 "value_passes" = true) (k13 : PySem.W.keepIn K (.ref f13) = true)
    (l14 : K.lookup f14 = some ⟨oc14, od14, .func (PySem.W.fnOf "outcomes" "Values.outcomes" (defArgs s_Values_outcomes) (defBody s_Values_outcomes) (defScope s_Values_outcomes) .none kV14 dc14 pm14 an14 cd14 ct14), sl14⟩) (c14 : PySem.W.codeIn K cd14 "Values.outcomes" = true) (k14 : PySem.W.keepIn K (.ref f14) = true)
    (a15 : PySem.W.nsIn K mainGlobals "outcomes_on_field" = some (some (.ref f15))) (l15 : K.lookup f15 = some ⟨oc15, od15, .func (PySem.W.fnOf "outcomes_on_field" "outcomes_on_field" (defArgs s_outcomes_on_field) (defBody s_outcomes_on_field) (defScope s_outcomes_on_field) .none kV15 dc15 pm15 an15 cd15 ct15), sl15⟩) (c15 : PySem.W.codeIn K cd15 "outcomes_on_field" = true) (k15 : PySem.W.keepIn K (.ref f15) = true)
    (a16 : PySem.W.nsIn K mainGlobals "can_pass" = some (some (.ref f16))) (l16 : K.lookup f16 = some ⟨oc16, od16, .func (PySem.W.fnOf "can_pass" "can_pass" (defArgs s_can_pass) (defBody s_can_pass) (defScope s_can_pass) .none kV16 dc16 pm16 an16 cd16 ct16), sl16⟩) (c16 : PySem.W.codeIn K cd16 "can_pass" = true) (k16 : PySem.W.keepIn K (.ref f16) = true)
    (a17 : PySem.W.nsIn K mainGlobals "_law_field_fact" = some (some (.ref f17))) (l17 : K.lookup f17 = some ⟨oc17, od17, .func (PySem.W.fnOf "_law_field_fact" "_law_field_fact" (defArgs s_law_field_fact) (defBody s_law_field_fact) (defScope s_law_field_fact) .none kV17 dc17 pm17 an17 cd17 ct17), sl17⟩) (c17 : PySem.W.codeIn K cd17 "_law_field_fact" = true) (k17 : PySem.W.keepIn K (.ref f17) = true)
    (l18 : K.lookup f18 = some ⟨oc18, od18, .func (PySem.W.fnOf "__init__" "Names.__init__" (defArgs s_Names___init__) (defBody s_Names___init__) (defScope s_Names___init__) .none kV18 dc18 pm18 an18 cd18 ct18), sl18⟩) (c18 : PySem.W.codeIn K cd18 "Names.__init__" = true) (k18 : PySem.W.keepIn K (.ref f18) = true)
    (l19 : K.lookup f19 = some ⟨oc19, od19, .func (PySem.W.fnOf "__init__" "Box.__init__" (defArgs s_Box___init__) (defBody s_Box___init__) (defScope s_Box___init__) .none kV19 dc19 pm19 an19 cd19 ct19), sl19⟩) (c19 : PySem.W.codeIn K cd19 "Box.__init__" = true) (k19 : PySem.W.keepIn K (.ref f19) = true)
    (l20 : K.lookup f20 = some ⟨oc20, od20, .func (PySem.W.fnOf "__init__" "Norms.__init__" (defArgs s_Norms___init__) (defBody s_Norms___init__) (defScope s_Norms___init__) .none kV20 dc20 pm20 an20 cd20 ct20), sl20⟩) (c20 : PySem.W.codeIn K cd20 "Norms.__init__" = true) (k20 : PySem.W.keepIn K (.ref f20) = true)
    {DK21 : Addr} (l21 : K.lookup f21 = some ⟨oc21, od21, .func (PySem.W.fnOf "__init__" "Range.__init__" (defArgs s_Range___init__) (defBody s_Range___init__) (defScope s_Range___init__) .none (.ref DK21) dc21 pm21 an21 cd21 ct21), sl21⟩) (c21 : PySem.W.codeIn K cd21 "Range.__init__" = true) (k21 : PySem.W.keepIn K (.ref f21) = true)
    {tq21_lack : Tok} (n21_lack : PySem.W.nsIn K DK21 "lack" = some (some (.str "nobody" tq21_lack)))
    {DK22 : Addr} (l22 : K.lookup f22 = some ⟨oc22, od22, .func (PySem.W.fnOf "__init__" "Values.__init__" (defArgs s_Values___init__) (defBody s_Values___init__) (defScope s_Values___init__) .none (.ref DK22) dc22 pm22 an22 cd22 ct22), sl22⟩) (c22 : PySem.W.codeIn K cd22 "Values.__init__" = true) (k22 : PySem.W.keepIn K (.ref f22) = true)
    {tq22_lack : Tok} (n22_lack : PySem.W.nsIn K DK22 "lack" = some (some (.str "nobody" tq22_lack)))
    (a23 : PySem.W.nsIn K mainGlobals "_law_made" = some (some (.ref f23))) (l23 : K.lookup f23 = some ⟨oc23, od23, .func (PySem.W.fnOf "_law_made" "_law_made" (defArgs s_law_made) (defBody s_law_made) (defScope s_law_made) .none kV23 dc23 pm23 an23 cd23 ct23), sl23⟩) (c23 : PySem.W.codeIn K cd23 "_law_made" = true) (k23 : PySem.W.keepIn K (.ref f23) = true)
    (l24 : K.lookup f24 = some ⟨oc24, od24, .func (PySem.W.fnOf "__init__" "Either.__init__" (defArgs s_Either___init__) (defBody s_Either___init__) (defScope s_Either___init__) .none kV24 dc24 pm24 an24 cd24 ct24), sl24⟩) (c24 : PySem.W.codeIn K cd24 "Either.__init__" = true) (k24 : PySem.W.keepIn K (.ref f24) = true)
    (l25 : K.lookup f25 = some ⟨oc25, od25, .func (PySem.W.fnOf "__init__" "Has.__init__" (defArgs s_Has___init__) (defBody s_Has___init__) (defScope s_Has___init__) .none kV25 dc25 pm25 an25 cd25 ct25), sl25⟩) (c25 : PySem.W.codeIn K cd25 "Has.__init__" = true) (k25 : PySem.W.keepIn K (.ref f25) = true)
    (l26 : K.lookup f26 = some ⟨oc26, od26, .func (PySem.W.fnOf "__init__" "Compare.__init__" (defArgs s_Compare___init__) (defBody s_Compare___init__) (defScope s_Compare___init__) .none kV26 dc26 pm26 an26 cd26 ct26), sl26⟩) (c26 : PySem.W.codeIn K cd26 "Compare.__init__" = true) (k26 : PySem.W.keepIn K (.ref f26) = true)
    (l27 : K.lookup f27 = some ⟨oc27, od27, .func (PySem.W.fnOf "__init__" "OneOf.__init__" (defArgs s_OneOf___init__) (defBody s_OneOf___init__) (defScope s_OneOf___init__) .none kV27 dc27 pm27 an27 cd27 ct27), sl27⟩) (c27 : PySem.W.codeIn K cd27 "OneOf.__init__" = true) (k27 : PySem.W.keepIn K (.ref f27) = true)
    (l28 : K.lookup f28 = some ⟨oc28, od28, .func (PySem.W.fnOf "__init__" "Negation.__init__" (defArgs s_Negation___init__) (defBody s_Negation___init__) (defScope s_Negation___init__) .none kV28 dc28 pm28 an28 cd28 ct28), sl28⟩) (c28 : PySem.W.codeIn K cd28 "Negation.__init__" = true) (k28 : PySem.W.keepIn K (.ref f28) = true)
    (l29 : K.lookup f29 = some ⟨oc29, od29, .func (PySem.W.fnOf "__init__" "Both.__init__" (defArgs s_Both___init__) (defBody s_Both___init__) (defScope s_Both___init__) .none kV29 dc29 pm29 an29 cd29 ct29), sl29⟩) (c29 : PySem.W.codeIn K cd29 "Both.__init__" = true) (k29 : PySem.W.keepIn K (.ref f29) = true)
    (a30 : PySem.W.nsIn K mainGlobals "_law_built" = some (some (.ref f30))) (l30 : K.lookup f30 = some ⟨oc30, od30, .func (PySem.W.fnOf "_law_built" "_law_built" (defArgs s_law_built) (defBody s_law_built) (defScope s_law_built) .none kV30 dc30 pm30 an30 cd30 ct30), sl30⟩) (c30 : PySem.W.codeIn K cd30 "_law_built" = true) (k30 : PySem.W.keepIn K (.ref f30) = true)
    (a31 : PySem.W.nsIn K mainGlobals "_law_compares" = some (some (.ref f31))) (l31 : K.lookup f31 = some ⟨oc31, od31, .func (PySem.W.fnOf "_law_compares" "_law_compares" (defArgs s_law_compares) (defBody s_law_compares) (defScope s_law_compares) .none kV31 dc31 pm31 an31 cd31 ct31), sl31⟩) (c31 : PySem.W.codeIn K cd31 "_law_compares" = true) (k31 : PySem.W.keepIn K (.ref f31) = true)
    (a32 : PySem.W.nsIn K mainGlobals "_law_worth_passes" = some (some (.ref f32))) (l32 : K.lookup f32 = some ⟨oc32, od32, .func (PySem.W.fnOf "_law_worth_passes" "_law_worth_passes" (defArgs s_law_worth_passes) (defBody s_law_worth_passes) (defScope s_law_worth_passes) .none kV32 dc32 pm32 an32 cd32 ct32), sl32⟩) (c32 : PySem.W.codeIn K cd32 "_law_worth_passes" = true) (k32 : PySem.W.keepIn K (.ref f32) = true)
    (a33 : PySem.W.nsIn K mainGlobals "_law_outcomes" = some (some (.ref f33))) (l33 : K.lookup f33 = some ⟨oc33, od33, .func (PySem.W.fnOf "_law_outcomes" "_law_outcomes" (defArgs s_law_outcomes) (defBody s_law_outcomes) (defScope s_law_outcomes) .none kV33 dc33 pm33 an33 cd33 ct33), sl33⟩) (c33 : PySem.W.codeIn K cd33 "_law_outcomes" = true) (k33 : PySem.W.keepIn K (.ref f33) = true)
    (a34 : PySem.W.nsIn K mainGlobals "_law_due" = some (some (.ref f34))) (l34 : K.lookup f34 = some ⟨oc34, od34, .func (PySem.W.fnOf "_law_due" "_law_due" (defArgs s_law_due) (defBody s_law_due) (defScope s_law_due) .none kV34 dc34 pm34 an34 cd34 ct34), sl34⟩) (c34 : PySem.W.codeIn K cd34 "_law_due" = true) (k34 : PySem.W.keepIn K (.ref f34) = true)
    (a35 : PySem.W.nsIn K mainGlobals "law" = some (some (.ref f35))) (l35 : K.lookup f35 = some ⟨oc35, od35, .func (PySem.W.fnOf "law" "law" (defArgs s_law) (defBody s_law) (defScope s_law) .none kV35 dc35 pm35 an35 cd35 ct35), sl35⟩) (c35 : PySem.W.codeIn K cd35 "law" = true) (k35 : PySem.W.keepIn K (.ref f35) = true)
    (aC_Every : PySem.W.nsIn K mainGlobals "Every" = some (some (.ref C_Every)))
    (pg_Every : PySem.W.plainGet K C_Every Str.empty = true)
    (hd_Every : PySem.W.hasDictIn K C_Every = true)
    (po_Every : PySem.W.plainOver K C_Every = true)
    (sa_Every : PySem.W.findIn K (.ref C_Every) "__setattr__" = some (some (.builtin "object.__setattr__")))
    (mk_Every : PySem.W.makesIn K C_Every = true)
    (in_Every : PySem.W.findIn K (.ref C_Every) "__init__" = some (some (.builtin "object.__init__")))
    (kc_Every : PySem.W.keepIn K (.ref C_Every) = true)
    (ha_Every : PySem.W.findIn K (.ref C_Every) "__class__" = some (some (.builtin "object.__class__")))
    (hm_Every : PySem.W.mroIn K C_Every (.type "object") = some true)
    (aC_Has : PySem.W.nsIn K mainGlobals "Has" = some (some (.ref C_Has)))
    (pg_Has : PySem.W.plainGet K C_Has Str.empty = true)
    (hd_Has : PySem.W.hasDictIn K C_Has = true)
    (po_Has : PySem.W.plainOver K C_Has = true)
    (sa_Has : PySem.W.findIn K (.ref C_Has) "__setattr__" = some (some (.builtin "object.__setattr__")))
    (n_Has_field : PySem.W.findIn K (.ref C_Has) "field" = some none)
    (mk_Has : PySem.W.makesIn K C_Has = true)
    (in_Has : PySem.W.findIn K (.ref C_Has) "__init__" = some (some (.ref f25)))
    (if_Has : PySem.W.isFn K (.ref f25) = true)
    (kc_Has : PySem.W.keepIn K (.ref C_Has) = true)
    (ha_Has : PySem.W.findIn K (.ref C_Has) "__class__" = some (some (.builtin "object.__class__")))
    (hm_Has : PySem.W.mroIn K C_Has (.type "object") = some true)
    (aC_Compare : PySem.W.nsIn K mainGlobals "Compare" = some (some (.ref C_Compare)))
    (pg_Compare : PySem.W.plainGet K C_Compare Str.empty = true)
    (hd_Compare : PySem.W.hasDictIn K C_Compare = true)
    (po_Compare : PySem.W.plainOver K C_Compare = true)
    (sa_Compare : PySem.W.findIn K (.ref C_Compare) "__setattr__" = some (some (.builtin "object.__setattr__")))
    (n_Compare_field : PySem.W.findIn K (.ref C_Compare) "field" = some none)
    (n_Compare_sign : PySem.W.findIn K (.ref C_Compare) "sign" = some none)
    (n_Compare_value : PySem.W.findIn K (.ref C_Compare) "value" = some none)
    (mk_Compare : PySem.W.makesIn K C_Compare = true)
    (in_Compare : PySem.W.findIn K (.ref C_Compare) "__init__" = some (some (.ref f26)))
    (if_Compare : PySem.W.isFn K (.ref f26) = true)
    (kc_Compare : PySem.W.keepIn K (.ref C_Compare) = true)
    (ha_Compare : PySem.W.findIn K (.ref C_Compare) "__class__" = some (some (.builtin "object.__class__")))
    (hm_Compare : PySem.W.mroIn K C_Compare (.type "object") = some true)
    (aC_OneOf : PySem.W.nsIn K mainGlobals "OneOf" = some (some (.ref C_OneOf)))
    (pg_OneOf : PySem.W.plainGet K C_OneOf Str.empty = true)
    (hd_OneOf : PySem.W.hasDictIn K C_OneOf = true)
    (po_OneOf : PySem.W.plainOver K C_OneOf = true)
    (sa_OneOf : PySem.W.findIn K (.ref C_OneOf) "__setattr__" = some (some (.builtin "object.__setattr__")))
    (n_OneOf_field : PySem.W.findIn K (.ref C_OneOf) "field" = some none)
    (n_OneOf_choices : PySem.W.findIn K (.ref C_OneOf) "choices" = some none)
    (mk_OneOf : PySem.W.makesIn K C_OneOf = true)
    (in_OneOf : PySem.W.findIn K (.ref C_OneOf) "__init__" = some (some (.ref f27)))
    (if_OneOf : PySem.W.isFn K (.ref f27) = true)
    (kc_OneOf : PySem.W.keepIn K (.ref C_OneOf) = true)
    (ha_OneOf : PySem.W.findIn K (.ref C_OneOf) "__class__" = some (some (.builtin "object.__class__")))
    (hm_OneOf : PySem.W.mroIn K C_OneOf (.type "object") = some true)
    (aC_Both : PySem.W.nsIn K mainGlobals "Both" = some (some (.ref C_Both)))
    (pg_Both : PySem.W.plainGet K C_Both Str.empty = true)
    (hd_Both : PySem.W.hasDictIn K C_Both = true)
    (po_Both : PySem.W.plainOver K C_Both = true)
    (sa_Both : PySem.W.findIn K (.ref C_Both) "__setattr__" = some (some (.builtin "object.__setattr__")))
    (n_Both_a : PySem.W.findIn K (.ref C_Both) "a" = some none)
    (n_Both_b : PySem.W.findIn K (.ref C_Both) "b" = some none)
    (mk_Both : PySem.W.makesIn K C_Both = true)
    (in_Both : PySem.W.findIn K (.ref C_Both) "__init__" = some (some (.ref f29)))
    (if_Both : PySem.W.isFn K (.ref f29) = true)
    (kc_Both : PySem.W.keepIn K (.ref C_Both) = true)
    (ha_Both : PySem.W.findIn K (.ref C_Both) "__class__" = some (some (.builtin "object.__class__")))
    (hm_Both : PySem.W.mroIn K C_Both (.type "object") = some true)
    (aC_Either : PySem.W.nsIn K mainGlobals "Either" = some (some (.ref C_Either)))
    (pg_Either : PySem.W.plainGet K C_Either Str.empty = true)
    (hd_Either : PySem.W.hasDictIn K C_Either = true)
    (po_Either : PySem.W.plainOver K C_Either = true)
    (sa_Either : PySem.W.findIn K (.ref C_Either) "__setattr__" = some (some (.builtin "object.__setattr__")))
    (n_Either_a : PySem.W.findIn K (.ref C_Either) "a" = some none)
    (n_Either_b : PySem.W.findIn K (.ref C_Either) "b" = some none)
    (mk_Either : PySem.W.makesIn K C_Either = true)
    (in_Either : PySem.W.findIn K (.ref C_Either) "__init__" = some (some (.ref f24)))
    (if_Either : PySem.W.isFn K (.ref f24) = true)
    (kc_Either : PySem.W.keepIn K (.ref C_Either) = true)
    (ha_Either : PySem.W.findIn K (.ref C_Either) "__class__" = some (some (.builtin "object.__class__")))
    (hm_Either : PySem.W.mroIn K C_Either (.type "object") = some true)
    (aC_Negation : PySem.W.nsIn K mainGlobals "Negation" = some (some (.ref C_Negation)))
    (pg_Negation : PySem.W.plainGet K C_Negation Str.empty = true)
    (hd_Negation : PySem.W.hasDictIn K C_Negation = true)
    (po_Negation : PySem.W.plainOver K C_Negation = true)
    (sa_Negation : PySem.W.findIn K (.ref C_Negation) "__setattr__" = some (some (.builtin "object.__setattr__")))
    (n_Negation_a : PySem.W.findIn K (.ref C_Negation) "a" = some none)
    (mk_Negation : PySem.W.makesIn K C_Negation = true)
    (in_Negation : PySem.W.findIn K (.ref C_Negation) "__init__" = some (some (.ref f28)))
    (if_Negation : PySem.W.isFn K (.ref f28) = true)
    (kc_Negation : PySem.W.keepIn K (.ref C_Negation) = true)
    (ha_Negation : PySem.W.findIn K (.ref C_Negation) "__class__" = some (some (.builtin "object.__class__")))
    (hm_Negation : PySem.W.mroIn K C_Negation (.type "object") = some true)
    (aC_Range : PySem.W.nsIn K mainGlobals "Range" = some (some (.ref C_Range)))
    (pg_Range : PySem.W.plainGet K C_Range Str.empty = true)
    (hd_Range : PySem.W.hasDictIn K C_Range = true)
    (po_Range : PySem.W.plainOver K C_Range = true)
    (sa_Range : PySem.W.findIn K (.ref C_Range) "__setattr__" = some (some (.builtin "object.__setattr__")))
    (n_Range_field : PySem.W.findIn K (.ref C_Range) "field" = some none)
    (n_Range_low : PySem.W.findIn K (.ref C_Range) "low" = some none)
    (n_Range_high : PySem.W.findIn K (.ref C_Range) "high" = some none)
    (n_Range_lack : PySem.W.findIn K (.ref C_Range) "lack" = some none)
    (mk_Range : PySem.W.makesIn K C_Range = true)
    (in_Range : PySem.W.findIn K (.ref C_Range) "__init__" = some (some (.ref f21)))
    (if_Range : PySem.W.isFn K (.ref f21) = true)
    (kc_Range : PySem.W.keepIn K (.ref C_Range) = true)
    (fm_Range_outcomes : PySem.W.findIn K (.ref C_Range) "outcomes" = some (some (.ref f9)))
    (im_Range_outcomes : PySem.W.isFn K (.ref f9) = true)
    (aC_Values : PySem.W.nsIn K mainGlobals "Values" = some (some (.ref C_Values)))
    (pg_Values : PySem.W.plainGet K C_Values Str.empty = true)
    (hd_Values : PySem.W.hasDictIn K C_Values = true)
    (po_Values : PySem.W.plainOver K C_Values = true)
    (sa_Values : PySem.W.findIn K (.ref C_Values) "__setattr__" = some (some (.builtin "object.__setattr__")))
    (n_Values_field : PySem.W.findIn K (.ref C_Values) "field" = some none)
    (n_Values_choices : PySem.W.findIn K (.ref C_Values) "choices" = some none)
    (n_Values_lack : PySem.W.findIn K (.ref C_Values) "lack" = some none)
    (mk_Values : PySem.W.makesIn K C_Values = true)
    (in_Values : PySem.W.findIn K (.ref C_Values) "__init__" = some (some (.ref f22)))
    (if_Values : PySem.W.isFn K (.ref f22) = true)
    (kc_Values : PySem.W.keepIn K (.ref C_Values) = true)
    (fm_Values_outcomes : PySem.W.findIn K (.ref C_Values) "outcomes" = some (some (.ref f14)))
    (im_Values_outcomes : PySem.W.isFn K (.ref f14) = true)
    (aC_Norms : PySem.W.nsIn K mainGlobals "Norms" = some (some (.ref C_Norms)))
    (pg_Norms : PySem.W.plainGet K C_Norms Str.empty = true)
    (hd_Norms : PySem.W.hasDictIn K C_Norms = true)
    (po_Norms : PySem.W.plainOver K C_Norms = true)
    (sa_Norms : PySem.W.findIn K (.ref C_Norms) "__setattr__" = some (some (.builtin "object.__setattr__")))
    (n_Norms_low : PySem.W.findIn K (.ref C_Norms) "low" = some none)
    (n_Norms_high : PySem.W.findIn K (.ref C_Norms) "high" = some none)
    (mk_Norms : PySem.W.makesIn K C_Norms = true)
    (in_Norms : PySem.W.findIn K (.ref C_Norms) "__init__" = some (some (.ref f20)))
    (if_Norms : PySem.W.isFn K (.ref f20) = true)
    (kc_Norms : PySem.W.keepIn K (.ref C_Norms) = true)
    (fm_Norms_outcomes : PySem.W.findIn K (.ref C_Norms) "outcomes" = some (some (.ref f4)))
    (im_Norms_outcomes : PySem.W.isFn K (.ref f4) = true)
    (aC_Names : PySem.W.nsIn K mainGlobals "Names" = some (some (.ref C_Names)))
    (pg_Names : PySem.W.plainGet K C_Names Str.empty = true)
    (hd_Names : PySem.W.hasDictIn K C_Names = true)
    (po_Names : PySem.W.plainOver K C_Names = true)
    (sa_Names : PySem.W.findIn K (.ref C_Names) "__setattr__" = some (some (.builtin "object.__setattr__")))
    (n_Names_low : PySem.W.findIn K (.ref C_Names) "low" = some none)
    (n_Names_high : PySem.W.findIn K (.ref C_Names) "high" = some none)
    (mk_Names : PySem.W.makesIn K C_Names = true)
    (in_Names : PySem.W.findIn K (.ref C_Names) "__init__" = some (some (.ref f18)))
    (if_Names : PySem.W.isFn K (.ref f18) = true)
    (kc_Names : PySem.W.keepIn K (.ref C_Names) = true)
    (fm_Names_outcomes : PySem.W.findIn K (.ref C_Names) "outcomes" = some (some (.ref f4)))
    (im_Names_outcomes : PySem.W.isFn K (.ref f4) = true)
    (aC_Box : PySem.W.nsIn K mainGlobals "Box" = some (some (.ref C_Box)))
    (pg_Box : PySem.W.plainGet K C_Box Str.empty = true)
    (hd_Box : PySem.W.hasDictIn K C_Box = true)
    (po_Box : PySem.W.plainOver K C_Box = true)
    (sa_Box : PySem.W.findIn K (.ref C_Box) "__setattr__" = some (some (.builtin "object.__setattr__")))
    (n_Box_low : PySem.W.findIn K (.ref C_Box) "low" = some none)
    (n_Box_high : PySem.W.findIn K (.ref C_Box) "high" = some none)
    (mk_Box : PySem.W.makesIn K C_Box = true)
    (in_Box : PySem.W.findIn K (.ref C_Box) "__init__" = some (some (.ref f19)))
    (if_Box : PySem.W.isFn K (.ref f19) = true)
    (kc_Box : PySem.W.keepIn K (.ref C_Box) = true)
    (fm_Box_outcomes : PySem.W.findIn K (.ref C_Box) "outcomes" = some (some (.ref f4)))
    (im_Box_outcomes : PySem.W.isFn K (.ref f4) = true)
    (ic_Has : PySem.W.isClsIn K C_Has = true)
    (ty_Has : PySem.W.typeIn K (.ref C_Has) = some (.type "type"))
    (ic_OneOf : PySem.W.isClsIn K C_OneOf = true)
    (ty_OneOf : PySem.W.typeIn K (.ref C_OneOf) = some (.type "type"))
    (ic_Negation : PySem.W.isClsIn K C_Negation = true)
    (ty_Negation : PySem.W.typeIn K (.ref C_Negation) = some (.type "type"))
    (ic_Both : PySem.W.isClsIn K C_Both = true)
    (ty_Both : PySem.W.typeIn K (.ref C_Both) = some (.type "type"))
    (ic_Either : PySem.W.isClsIn K C_Either = true)
    (ty_Either : PySem.W.typeIn K (.ref C_Either) = some (.type "type"))
    (ic_Compare : PySem.W.isClsIn K C_Compare = true)
    (ty_Compare : PySem.W.typeIn K (.ref C_Compare) = some (.type "type"))
    (ss_Has : PySem.W.subIn K (.ref C_Has) (.ref C_Has) = some true)
    (sb_Every_Has : PySem.W.subIn K (.ref C_Every) (.ref C_Has) = some false)
    (sb_Compare_Has : PySem.W.subIn K (.ref C_Compare) (.ref C_Has) = some false)
    (sb_OneOf_Has : PySem.W.subIn K (.ref C_OneOf) (.ref C_Has) = some false)
    (sb_Both_Has : PySem.W.subIn K (.ref C_Both) (.ref C_Has) = some false)
    (sb_Either_Has : PySem.W.subIn K (.ref C_Either) (.ref C_Has) = some false)
    (sb_Negation_Has : PySem.W.subIn K (.ref C_Negation) (.ref C_Has) = some false)
    (ss_OneOf : PySem.W.subIn K (.ref C_OneOf) (.ref C_OneOf) = some true)
    (sb_Every_OneOf : PySem.W.subIn K (.ref C_Every) (.ref C_OneOf) = some false)
    (sb_Has_OneOf : PySem.W.subIn K (.ref C_Has) (.ref C_OneOf) = some false)
    (sb_Compare_OneOf : PySem.W.subIn K (.ref C_Compare) (.ref C_OneOf) = some false)
    (sb_Both_OneOf : PySem.W.subIn K (.ref C_Both) (.ref C_OneOf) = some false)
    (sb_Either_OneOf : PySem.W.subIn K (.ref C_Either) (.ref C_OneOf) = some false)
    (sb_Negation_OneOf : PySem.W.subIn K (.ref C_Negation) (.ref C_OneOf) = some false)
    (ss_Negation : PySem.W.subIn K (.ref C_Negation) (.ref C_Negation) = some true)
    (sb_Every_Negation : PySem.W.subIn K (.ref C_Every) (.ref C_Negation) = some false)
    (sb_Has_Negation : PySem.W.subIn K (.ref C_Has) (.ref C_Negation) = some false)
    (sb_Compare_Negation : PySem.W.subIn K (.ref C_Compare) (.ref C_Negation) = some false)
    (sb_OneOf_Negation : PySem.W.subIn K (.ref C_OneOf) (.ref C_Negation) = some false)
    (sb_Both_Negation : PySem.W.subIn K (.ref C_Both) (.ref C_Negation) = some false)
    (sb_Either_Negation : PySem.W.subIn K (.ref C_Either) (.ref C_Negation) = some false)
    (ss_Both : PySem.W.subIn K (.ref C_Both) (.ref C_Both) = some true)
    (sb_Every_Both : PySem.W.subIn K (.ref C_Every) (.ref C_Both) = some false)
    (sb_Has_Both : PySem.W.subIn K (.ref C_Has) (.ref C_Both) = some false)
    (sb_Compare_Both : PySem.W.subIn K (.ref C_Compare) (.ref C_Both) = some false)
    (sb_OneOf_Both : PySem.W.subIn K (.ref C_OneOf) (.ref C_Both) = some false)
    (sb_Either_Both : PySem.W.subIn K (.ref C_Either) (.ref C_Both) = some false)
    (sb_Negation_Both : PySem.W.subIn K (.ref C_Negation) (.ref C_Both) = some false)
    (ss_Either : PySem.W.subIn K (.ref C_Either) (.ref C_Either) = some true)
    (sb_Every_Either : PySem.W.subIn K (.ref C_Every) (.ref C_Either) = some false)
    (sb_Has_Either : PySem.W.subIn K (.ref C_Has) (.ref C_Either) = some false)
    (sb_Compare_Either : PySem.W.subIn K (.ref C_Compare) (.ref C_Either) = some false)
    (sb_OneOf_Either : PySem.W.subIn K (.ref C_OneOf) (.ref C_Either) = some false)
    (sb_Both_Either : PySem.W.subIn K (.ref C_Both) (.ref C_Either) = some false)
    (sb_Negation_Either : PySem.W.subIn K (.ref C_Negation) (.ref C_Either) = some false)
    (ss_Compare : PySem.W.subIn K (.ref C_Compare) (.ref C_Compare) = some true)
    (sb_Every_Compare : PySem.W.subIn K (.ref C_Every) (.ref C_Compare) = some false)
    (sb_Has_Compare : PySem.W.subIn K (.ref C_Has) (.ref C_Compare) = some false)
    (sb_OneOf_Compare : PySem.W.subIn K (.ref C_OneOf) (.ref C_Compare) = some false)
    (sb_Both_Compare : PySem.W.subIn K (.ref C_Both) (.ref C_Compare) = some false)
    (sb_Either_Compare : PySem.W.subIn K (.ref C_Either) (.ref C_Compare) = some false)
    (sb_Negation_Compare : PySem.W.subIn K (.ref C_Negation) (.ref C_Compare) = some false)
    (hn0 : PySem.W.specialIn K (.builtin "object.__class__") "__get__" = some (some (.builtin "getset_descriptor.__get__")))
    (ht0 : PySem.W.takesIn K (.builtin "object.__class__") = some true)
    (z_all : PySem.W.nsIn K mainGlobals "all" = some none)
    (z_any : PySem.W.nsIn K mainGlobals "any" = some none)
    (z_bool : PySem.W.nsIn K mainGlobals "bool" = some none)
    (z_int : PySem.W.nsIn K mainGlobals "int" = some none)
    (z_isinstance : PySem.W.nsIn K mainGlobals "isinstance" = some none)
    (z_len : PySem.W.nsIn K mainGlobals "len" = some none)
    (z_list : PySem.W.nsIn K mainGlobals "list" = some none)
    (z_range : PySem.W.nsIn K mainGlobals "range" = some none)
    (z_tuple : PySem.W.nsIn K mainGlobals "tuple" = some none)
    : ∃ fd : FuncData, (∀ (s : Shared) (v : Value), BindsTo s fd ⟨[v], []⟩ [("script", v)]) ∧ ∀ base : Heap, K.In base → base.Ns mainGlobals mg → FnOk l.prog w K mg base CX0 12 fa fd ["script"] (sp_law K) := by
  have e := hfa.symm.trans (PySem.W.mg_of X G a35)
  cases e
  have F0 := fun_mk (st := s_law_row) l0 c0 k0
  have b0 := F0.binds (ps := ["script", "k"]) fun _ _ _ _ _ _ us hl => match us, hl with | [_, _], _ => rfl
  have F1 := fun_mk (st := s_law_next) l1 c1 k1
  have b1 := F1.binds (ps := ["state", "many"]) fun _ _ _ _ _ _ us hl => match us, hl with | [_, _], _ => rfl
  have F2 := fun_mk (st := s_law_leaf) l2 c2 k2
  have b2 := F2.binds (ps := ["state"]) fun _ _ _ _ _ _ us hl => match us, hl with | [_], _ => rfl
  have F3 := fun_mk (st := s_law_tree) l3 c3 k3
  have b3 := F3.binds (ps := ["state", "depth"]) fun _ _ _ _ _ _ us hl => match us, hl with | [_, _], _ => rfl
  have F4 := fun_mk (st := s_Fact_outcomes) l4 c4 k4
  have b4 := F4.binds (ps := ["self", "condition"]) fun _ _ _ _ _ _ us hl => match us, hl with | [_, _], _ => rfl
  have F5 := fun_mk (st := s_outcomes_of_lack) l5 c5 k5
  have b5 := F5.binds (ps := ["lack"]) fun _ _ _ _ _ _ us hl => match us, hl with | [_], _ => rfl
  have F6 := fun_mk (st := s_kind_of_value) l6 c6 k6
  have b6 := F6.binds (ps := ["worth"]) fun _ _ _ _ _ _ us hl => match us, hl with | [_], _ => rfl
  have F7 := fun_mk (st := s_range_outcomes) l7 c7 k7
  have b7 := F7.binds (ps := ["low", "high", "sign", "value"]) fun _ _ _ _ _ _ us hl => match us, hl with | [_, _, _, _], _ => rfl
  have F8 := fun_mk (st := s_is_from) l8 c8 k8
  have b8 := F8.binds (ps := ["low", "high", "worth"]) fun _ _ _ _ _ _ us hl => match us, hl with | [_, _, _], _ => rfl
  have F9 := fun_mk (st := s_Range_outcomes) l9 c9 k9
  have b9 := F9.binds (ps := ["self", "condition"]) fun _ _ _ _ _ _ us hl => match us, hl with | [_, _], _ => rfl
  have F10 := fun_mk (st := s_satisfies) l10 c10 k10
  have b10 := F10.binds (ps := ["worth", "sign", "other"]) fun _ _ _ _ _ _ us hl => match us, hl with | [_, _, _], _ => rfl
  have F11 := fun_mk (st := s_same_value) l11 c11 k11
  have b11 := F11.binds (ps := ["one", "other"]) fun _ _ _ _ _ _ us hl => match us, hl with | [_, _], _ => rfl
  have F12 := fun_mk (st := s_is_among) l12 c12 k12
  have b12 := F12.binds (ps := ["worth", "choices"]) fun _ _ _ _ _ _ us hl => match us, hl with | [_, _], _ => rfl
  have F13 := fun_mk (st := s_value_passes) l13 c13 k13
  have b13 := F13.binds (ps := ["worth", "condition"]) fun _ _ _ _ _ _ us hl => match us, hl with | [_, _], _ => rfl
  have F14 := fun_mk (st := s_Values_outcomes) l14 c14 k14
  have b14 := F14.binds (ps := ["self", "condition"]) fun _ _ _ _ _ _ us hl => match us, hl with | [_, _], _ => rfl
  have F15 := fun_mk (st := s_outcomes_on_field) l15 c15 k15
  have b15 := F15.binds (ps := ["condition", "facts"]) fun _ _ _ _ _ _ us hl => match us, hl with | [_, _], _ => rfl
  have F16 := fun_mk (st := s_can_pass) l16 c16 k16
  have b16 := F16.binds (ps := ["condition", "facts"]) fun _ _ _ _ _ _ us hl => match us, hl with | [_, _], _ => rfl
  have F17 := fun_mk (st := s_law_field_fact) l17 c17 k17
  have b17 := F17.binds (ps := ["state"]) fun _ _ _ _ _ _ us hl => match us, hl with | [_], _ => rfl
  have F18 := fun_mk (st := s_Names___init__) l18 c18 k18
  have b18 := F18.binds (ps := ["self", "low", "high"]) fun _ _ _ _ _ _ us hl => match us, hl with | [_, _, _], _ => rfl
  have F19 := fun_mk (st := s_Box___init__) l19 c19 k19
  have b19 := F19.binds (ps := ["self", "low", "high"]) fun _ _ _ _ _ _ us hl => match us, hl with | [_, _, _], _ => rfl
  have F20 := fun_mk (st := s_Norms___init__) l20 c20 k20
  have b20 := F20.binds (ps := ["self", "low", "high"]) fun _ _ _ _ _ _ us hl => match us, hl with | [_, _, _], _ => rfl
  have F21 : FunD K "__init__" "Range.__init__" (defArgs s_Range___init__) (defBody s_Range___init__) (defScope s_Range___init__) [] [("lack", .str "nobody")] f21 _ := ⟨⟨_, _, _, _, _, _, _, _, _, _, rfl, l21, c21, .inl ⟨rfl, rfl⟩, .inr ⟨DK21, rfl, fun q hq => by
    simp only [List.mem_cons, List.not_mem_nil, or_false] at hq
    rcases hq with rfl
    · exact ⟨_, n21_lack, ⟨_, rfl⟩⟩⟩⟩, k21⟩
  obtain ⟨mv21, kb21⟩ := F21.kbinds0 (ps := ["self", "field", "low", "high", "lack"]) 4 ["lack"] [] (fun us mv ws => us ++ ws) (by intro h; cases h) (fun q h => by cases h) (fun r1 _ r3 => r1.append r3) (fun D doc pm an cdv ct us mv ws l1 l2 l3 => match us, mv, ws, l1, l2, l3 with | [_, _, _, _], [], [_], _, _, _ => rfl)
  obtain ⟨ds21, v21, b21⟩ := F21.binds0 (ps := ["self", "field", "low", "high", "lack"]) 4 (by intro h; cases h) rfl (fun D doc pm an cdv ct us ks l1 l2 => match us, ks, l1, l2 with | [_, _, _, _], [_], _, _ => ⟨_, _, _, _, _, _, rfl, rfl, rfl⟩)
  have F22 : FunD K "__init__" "Values.__init__" (defArgs s_Values___init__) (defBody s_Values___init__) (defScope s_Values___init__) [] [("lack", .str "nobody")] f22 _ := ⟨⟨_, _, _, _, _, _, _, _, _, _, rfl, l22, c22, .inl ⟨rfl, rfl⟩, .inr ⟨DK22, rfl, fun q hq => by
    simp only [List.mem_cons, List.not_mem_nil, or_false] at hq
    rcases hq with rfl
    · exact ⟨_, n22_lack, ⟨_, rfl⟩⟩⟩⟩, k22⟩
  obtain ⟨mv22, kb22⟩ := F22.kbinds0 (ps := ["self", "field", "choices", "lack"]) 3 ["lack"] [] (fun us mv ws => us ++ ws) (by intro h; cases h) (fun q h => by cases h) (fun r1 _ r3 => r1.append r3) (fun D doc pm an cdv ct us mv ws l1 l2 l3 => match us, mv, ws, l1, l2, l3 with | [_, _, _], [], [_], _, _, _ => rfl)
  obtain ⟨ds22, v22, b22⟩ := F22.binds0 (ps := ["self", "field", "choices", "lack"]) 3 (by intro h; cases h) rfl (fun D doc pm an cdv ct us ks l1 l2 => match us, ks, l1, l2 with | [_, _, _], [_], _, _ => ⟨_, _, _, _, _, _, rfl, rfl, rfl⟩)
  have F23 := fun_mk (st := s_law_made) l23 c23 k23
  have b23 := F23.binds (ps := ["fact"]) fun _ _ _ _ _ _ us hl => match us, hl with | [_], _ => rfl
  have F24 := fun_mk (st := s_Either___init__) l24 c24 k24
  have b24 := F24.binds (ps := ["self", "a", "b"]) fun _ _ _ _ _ _ us hl => match us, hl with | [_, _, _], _ => rfl
  have F25 := fun_mk (st := s_Has___init__) l25 c25 k25
  have b25 := F25.binds (ps := ["self", "field"]) fun _ _ _ _ _ _ us hl => match us, hl with | [_, _], _ => rfl
  have F26 := fun_mk (st := s_Compare___init__) l26 c26 k26
  have b26 := F26.binds (ps := ["self", "field", "sign", "value"]) fun _ _ _ _ _ _ us hl => match us, hl with | [_, _, _, _], _ => rfl
  have F27 := fun_mk (st := s_OneOf___init__) l27 c27 k27
  have b27 := F27.binds (ps := ["self", "field", "choices"]) fun _ _ _ _ _ _ us hl => match us, hl with | [_, _, _], _ => rfl
  have F28 := fun_mk (st := s_Negation___init__) l28 c28 k28
  have b28 := F28.binds (ps := ["self", "a"]) fun _ _ _ _ _ _ us hl => match us, hl with | [_, _], _ => rfl
  have F29 := fun_mk (st := s_Both___init__) l29 c29 k29
  have b29 := F29.binds (ps := ["self", "a", "b"]) fun _ _ _ _ _ _ us hl => match us, hl with | [_, _, _], _ => rfl
  have F30 := fun_mk (st := s_law_built) l30 c30 k30
  have b30 := F30.binds (ps := ["tree"]) fun _ _ _ _ _ _ us hl => match us, hl with | [_], _ => rfl
  have F31 := fun_mk (st := s_law_compares) l31 c31 k31
  have b31 := F31.binds (ps := ["sign", "a", "b"]) fun _ _ _ _ _ _ us hl => match us, hl with | [_, _, _], _ => rfl
  have F32 := fun_mk (st := s_law_worth_passes) l32 c32 k32
  have b32 := F32.binds (ps := ["tree", "worth"]) fun _ _ _ _ _ _ us hl => match us, hl with | [_, _], _ => rfl
  have F33 := fun_mk (st := s_law_outcomes) l33 c33 k33
  have b33 := F33.binds (ps := ["fact", "tree"]) fun _ _ _ _ _ _ us hl => match us, hl with | [_, _], _ => rfl
  have F34 := fun_mk (st := s_law_due) l34 c34 k34
  have b34 := F34.binds (ps := ["tree", "facts"]) fun _ _ _ _ _ _ us hl => match us, hl with | [_, _], _ => rfl
  have F35 := fun_mk (st := s_law) l35 c35 k35
  have b35 := F35.binds (ps := ["script"]) fun _ _ _ _ _ _ us hl => match us, hl with | [_], _ => rfl
  let T : Txt K mg := ⟨_, _, F0, b0, PySem.W.mg_of X G a0,
    _, _, F1, b1, PySem.W.mg_of X G a1,
    _, _, F2, b2, PySem.W.mg_of X G a2,
    _, _, F3, b3, PySem.W.mg_of X G a3,
    _, _, F4, b4,
    _, _, F5, b5, PySem.W.mg_of X G a5,
    _, _, F6, b6, PySem.W.mg_of X G a6,
    _, _, F7, b7, PySem.W.mg_of X G a7,
    _, _, F8, b8, PySem.W.mg_of X G a8,
    _, _, F9, b9,
    _, _, F10, b10, PySem.W.mg_of X G a10,
    _, _, F11, b11, PySem.W.mg_of X G a11,
    _, _, F12, b12, PySem.W.mg_of X G a12,
    _, _, F13, b13, PySem.W.mg_of X G a13,
    _, _, F14, b14,
    _, _, F15, b15, PySem.W.mg_of X G a15,
    _, _, F16, b16, PySem.W.mg_of X G a16,
    _, _, F17, b17, PySem.W.mg_of X G a17,
    _, _, F18, b18,
    _, _, F19, b19,
    _, _, F20, b20,
    _, _, F21, kb21, _, v21, b21,
    _, _, F22, kb22, _, v22, b22,
    _, _, F23, b23, PySem.W.mg_of X G a23,
    _, _, F24, b24,
    _, _, F25, b25,
    _, _, F26, b26,
    _, _, F27, b27,
    _, _, F28, b28,
    _, _, F29, b29,
    _, _, F30, b30, PySem.W.mg_of X G a30,
    _, _, F31, b31, PySem.W.mg_of X G a31,
    _, _, F32, b32, PySem.W.mg_of X G a32,
    _, _, F33, b33, PySem.W.mg_of X G a33,
    _, _, F34, b34, PySem.W.mg_of X G a34,
    _, _, F35, b35, PySem.W.mg_of X G a35,
    _, ⟨pg_Every, hd_Every, po_Every, sa_Every⟩, PySem.W.mg_of X G aC_Every, ⟨mk_Every, in_Every, kc_Every⟩, ha_Every, hm_Every,
    _, ⟨pg_Has, hd_Has, po_Has, sa_Has⟩, PySem.W.mg_of X G aC_Has, n_Has_field, ⟨mk_Has, in_Has, if_Has, kc_Has⟩, ha_Has, hm_Has,
    _, ⟨pg_Compare, hd_Compare, po_Compare, sa_Compare⟩, PySem.W.mg_of X G aC_Compare, n_Compare_field, n_Compare_sign, n_Compare_value, ⟨mk_Compare, in_Compare, if_Compare, kc_Compare⟩, ha_Compare, hm_Compare,
    _, ⟨pg_OneOf, hd_OneOf, po_OneOf, sa_OneOf⟩, PySem.W.mg_of X G aC_OneOf, n_OneOf_field, n_OneOf_choices, ⟨mk_OneOf, in_OneOf, if_OneOf, kc_OneOf⟩, ha_OneOf, hm_OneOf,
    _, ⟨pg_Both, hd_Both, po_Both, sa_Both⟩, PySem.W.mg_of X G aC_Both, n_Both_a, n_Both_b, ⟨mk_Both, in_Both, if_Both, kc_Both⟩, ha_Both, hm_Both,
    _, ⟨pg_Either, hd_Either, po_Either, sa_Either⟩, PySem.W.mg_of X G aC_Either, n_Either_a, n_Either_b, ⟨mk_Either, in_Either, if_Either, kc_Either⟩, ha_Either, hm_Either,
    _, ⟨pg_Negation, hd_Negation, po_Negation, sa_Negation⟩, PySem.W.mg_of X G aC_Negation, n_Negation_a, ⟨mk_Negation, in_Negation, if_Negation, kc_Negation⟩, ha_Negation, hm_Negation,
    _, ⟨pg_Range, hd_Range, po_Range, sa_Range⟩, PySem.W.mg_of X G aC_Range, n_Range_field, n_Range_low, n_Range_high, n_Range_lack, ⟨mk_Range, in_Range, if_Range, kc_Range⟩, ⟨fm_Range_outcomes, im_Range_outcomes, k9⟩,
    _, ⟨pg_Values, hd_Values, po_Values, sa_Values⟩, PySem.W.mg_of X G aC_Values, n_Values_field, n_Values_choices, n_Values_lack, ⟨mk_Values, in_Values, if_Values, kc_Values⟩, ⟨fm_Values_outcomes, im_Values_outcomes, k14⟩,
    _, ⟨pg_Norms, hd_Norms, po_Norms, sa_Norms⟩, PySem.W.mg_of X G aC_Norms, n_Norms_low, n_Norms_high, ⟨mk_Norms, in_Norms, if_Norms, kc_Norms⟩, ⟨fm_Norms_outcomes, im_Norms_outcomes, k4⟩,
    _, ⟨pg_Names, hd_Names, po_Names, sa_Names⟩, PySem.W.mg_of X G aC_Names, n_Names_low, n_Names_high, ⟨mk_Names, in_Names, if_Names, kc_Names⟩, ⟨fm_Names_outcomes, im_Names_outcomes, k4⟩,
    _, ⟨pg_Box, hd_Box, po_Box, sa_Box⟩, PySem.W.mg_of X G aC_Box, n_Box_low, n_Box_high, ⟨mk_Box, in_Box, if_Box, kc_Box⟩, ⟨fm_Box_outcomes, im_Box_outcomes, k4⟩,
    kit_subN ic_Has ty_Has sb_Every_Has ss_Has,
    kit_self,
    kit_subN ic_Has ty_Has sb_Compare_Has ss_Has,
    kit_subN ic_Has ty_Has sb_OneOf_Has ss_Has,
    kit_subN ic_Has ty_Has sb_Both_Has ss_Has,
    kit_subN ic_Has ty_Has sb_Either_Has ss_Has,
    kit_subN ic_Has ty_Has sb_Negation_Has ss_Has,
    kit_subN ic_OneOf ty_OneOf sb_Every_OneOf ss_OneOf,
    kit_subN ic_OneOf ty_OneOf sb_Has_OneOf ss_OneOf,
    kit_subN ic_OneOf ty_OneOf sb_Compare_OneOf ss_OneOf,
    kit_self,
    kit_subN ic_OneOf ty_OneOf sb_Both_OneOf ss_OneOf,
    kit_subN ic_OneOf ty_OneOf sb_Either_OneOf ss_OneOf,
    kit_subN ic_OneOf ty_OneOf sb_Negation_OneOf ss_OneOf,
    kit_subN ic_Negation ty_Negation sb_Every_Negation ss_Negation,
    kit_subN ic_Negation ty_Negation sb_Has_Negation ss_Negation,
    kit_subN ic_Negation ty_Negation sb_Compare_Negation ss_Negation,
    kit_subN ic_Negation ty_Negation sb_OneOf_Negation ss_Negation,
    kit_subN ic_Negation ty_Negation sb_Both_Negation ss_Negation,
    kit_subN ic_Negation ty_Negation sb_Either_Negation ss_Negation,
    kit_self,
    kit_subN ic_Both ty_Both sb_Every_Both ss_Both,
    kit_subN ic_Both ty_Both sb_Has_Both ss_Both,
    kit_subN ic_Both ty_Both sb_Compare_Both ss_Both,
    kit_subN ic_Both ty_Both sb_OneOf_Both ss_Both,
    kit_self,
    kit_subN ic_Both ty_Both sb_Either_Both ss_Both,
    kit_subN ic_Both ty_Both sb_Negation_Both ss_Both,
    kit_subN ic_Either ty_Either sb_Every_Either ss_Either,
    kit_subN ic_Either ty_Either sb_Has_Either ss_Either,
    kit_subN ic_Either ty_Either sb_Compare_Either ss_Either,
    kit_subN ic_Either ty_Either sb_OneOf_Either ss_Either,
    kit_subN ic_Either ty_Either sb_Both_Either ss_Either,
    kit_self,
    kit_subN ic_Either ty_Either sb_Negation_Either ss_Either,
    kit_subN ic_Compare ty_Compare sb_Every_Compare ss_Compare,
    kit_subN ic_Compare ty_Compare sb_Has_Compare ss_Compare,
    kit_self,
    kit_subN ic_Compare ty_Compare sb_OneOf_Compare ss_Compare,
    kit_subN ic_Compare ty_Compare sb_Both_Compare ss_Compare,
    kit_subN ic_Compare ty_Compare sb_Either_Compare ss_Compare,
    kit_subN ic_Compare ty_Compare sb_Negation_Compare ss_Compare,
    hn0,
    ht0,
    PySem.W.mg_none_of X G z_all,
    PySem.W.mg_none_of X G z_any,
    PySem.W.mg_none_of X G z_bool,
    PySem.W.mg_none_of X G z_int,
    PySem.W.mg_none_of X G z_isinstance,
    PySem.W.mg_none_of X G z_len,
    PySem.W.mg_none_of X G z_list,
    PySem.W.mg_none_of X G z_range,
    PySem.W.mg_none_of X G z_tuple⟩
  exact ⟨_, fun s v => .of_eq rfl, fun base _ _ => ok_law T⟩
end K23
open PySem PySem.W PyProof.Rows
open PySem.Calls
namespace K23H
abbrev Rw : OpenRow := OpenLaw.row PySem.Challenge.rw_surenear_k23_what_facts_let_pass
abbrev qv : Program := view Rw.prog [63]
def nm0 : List PySem.Str := ["_wall", "kind_of_value", "same_value", "same_values", "is_among", "satisfies", "Condition", "Every", "Has", "Compare", "OneOf", "Both", "Either", "Negation", "pieces_of", "parts_of", "bracketed", "text_of_value", "inner", "distance", "differing", "norm", "can_pass", "outcomes_on_field", "Fact", "Range", "Values", "Counts", "Names", "greatest_counts"]
def nm1 : List PySem.Str := ["is_from", "outcomes_of_lack", "range_outcomes", "value_passes", "Part", "Parts", "Cell", "Box", "Norms", "Differ", "have_size", "numbers_at", "ends_within", "is_near", "_law_row", "_law_next", "_law_made", "_law_built", "_law_compares", "_law_worth_passes", "_law_outcomes", "_law_field_fact", "_law_leaf", "_law_tree", "_law_due"]
def names : List PySem.Str := nm0 ++ nm1
noncomputable abbrev theRun (w : World) (os : OsState) : Option SharedT := HeadRun.endF (HeadRun.stepQ (HeadRun.denQ HeadRun.tabQ) Rw.prog w) 60000 Rw.prog w os
theorem run_parts {H : Hook} {ob : SharedT → H.α} {w : World}
    (h1 : ∀ os, (theRun w os).map (fun s => HeadRun.looksF Rw.prog (boot_heap w.params) s.abs) = some true)
    (h2 : ∀ os, (theRun w os).map (fun s => HeadRun.seenQ qv names (importedModules Rw.prog.main.body) (fun s => xlAt qv [] s && recOk Rw.toRowW.records s) s.abs) = some (openGood qv names))
    (h3 : ∀ os, (theRun w os).map ob = some (H.val w)) : HeadRun.RunEq Rw qv H ob 60000 names w := by
  intro os
  obtain ⟨s, hs, e1⟩ := Option.map_eq_some_iff.mp (h1 os)
  have e2 := h2 os
  have e3 := h3 os
  rw [hs, Option.map_some] at e2 e3
  have e2 := Option.some.inj e2
  have e3 := Option.some.inj e3
  show (theRun w os).map _ = _
  rw [hs, Option.map_some, e1, e2, e3]
theorem obs_parts {x : Option SharedT} {as : List Addr} {vs : List (Option Obj)} (n : Nat)
    (ha : x.map (fun s => (as.take n).map (HeadRun.getT s)) = some (vs.take n))
    (hb : x.map (fun s => (as.drop n).map (HeadRun.getT s)) = some (vs.drop n)) : x.map (fun s => as.map (HeadRun.getT s)) = some vs := by
  obtain ⟨s, rfl, e1⟩ := Option.map_eq_some_iff.mp ha
  rw [Option.map_some] at hb ⊢
  have e2 := Option.some.inj hb
  rw [← List.take_append_drop n as, List.map_append, e1, e2, List.take_append_drop]
theorem part1 (w : World) (os : OsState) : (theRun w os).map (fun s => HeadRun.looksF Rw.prog (boot_heap w.params) s.abs) = some true := by kernel_rfl
theorem part2 (w : World) (os : OsState) : (theRun w os).map (fun s => HeadRun.seenQ qv names (importedModules Rw.prog.main.body) (fun s => xlAt qv [] s && recOk Rw.toRowW.records s) s.abs) = some (openGood qv names) := by kernel_rfl
end K23H
set_option hygiene false in
local macro_rules
  | `(tactic| o_headL (kHook $k $a $e)) => `(tactic| refine HeadRun.head_any (r := K23H.Rw) (q := K23H.qv) (H := kHook $k $a $e) (ob := fun s => List.map (HeadRun.getT s) $a) (M := 60000) (loose := K23H.names) (d := HeadRun.topDef K23H.Rw.prog 63) (kwd := []) (fun s => List.map_congr_left fun a _ => HeadRun.getT_eq s a) (by kernel_rfl) (fun s => by kernel_rfl) (fun w => K23H.run_parts (K23H.part1 w) (K23H.part2 w) (fun os => (by kernel_rfl))) (by kernel_rfl) (by kernel_rfl) (by kernel_rfl) (by kernel_rfl) (by first | assumption | decide +kernel) (by decide +kernel) ⟨rfl, rfl, rfl, rfl, rfl, by decide +kernel⟩ ?hw ?hc)
set_option maxRecDepth 100000 in
set_option maxHeartbeats 0 in
theorem PySem.Challenge.cw_surenear_k23_what_facts_let_pass_holds : PySem.Challenge.rw_surenear_k23_what_facts_let_pass.Holds := by
  w_on; o_law; k_headL; (case hw => w_witness2)
  k_fill
  refine L2.walk_of (l := PySem.Challenge.rw_surenear_k23_what_facts_let_pass) (n := 63) (k := 12) (x := "script") (CX := fun _ => L2.CX0) (sp := fun w => K23.sp_law _) rfl (by decide) rfl ⟨rfl, by decide, by decide⟩ (fun w h Y => PySem.W.kIn_of Y) ?F (fun _ _ a ns hl _ hS => ⟨a, ns, rfl, hS, hl, fun _ => rfl⟩) (fun _ _ _ _ _ h => h)
  case F =>
    intro w mg fa h KX G hmg
    refine' K23.all_mk KX G hmg (a0 := ?a0) (l0 := ?l0) (c0 := ?c0) (k0 := ?k0) (a1 := ?a1) (l1 := ?l1) (c1 := ?c1) (k1 := ?k1) (a2 := ?a2) (l2 := ?l2) (c2 := ?c2) (k2 := ?k2) (a3 := ?a3) (l3 := ?l3) (c3 := ?c3) (k3 := ?k3) (a5 := ?a5) (l5 := ?l5) (c5 := ?c5) (k5 := ?k5) (a6 := ?a6) (l6 := ?l6) (c6 := ?c6) (k6 := ?k6) (a7 := ?a7) (l7 := ?l7) (c7 := ?c7) (k7 := ?k7) (a8 := ?a8) (l8 := ?l8) (c8 := ?c8) (k8 := ?k8) (a10 := ?a10) (l10 := ?l10) (c10 := ?c10) (k10 := ?k10) (a11 := ?a11) (l11 := ?l11) (c11 := ?c11) (k11 := ?k11) (a12 := ?a12) (l12 := ?l12) (c12 := ?c12) (k12 := ?k12) (a13 := ?a13) (l13 := ?l13) (c13 := ?c13) (k13 := ?k13) (a15 := ?a15) (l15 := ?l15) (c15 := ?c15) (k15 := ?k15) (a16 := ?a16) (l16 := ?l16) (c16 := ?c16) (k16 := ?k16) (a17 := ?a17) (l17 := ?l17) (c17 := ?c17) (k17 := ?k17) (a23 := ?a23) (l23 := ?l23) (c23 := ?c23) (k23 := ?k23) (a30 := ?a30) (l30 := ?l30) (c30 := ?c30) (k30 := ?k30) (a31 := ?a31) (l31 := ?l31) (c31 := ?c31) (k31 := ?k31) (a32 := ?a32) (l32 := ?l32) (c32 := ?c32) (k32 := ?k32) (a33 := ?a33) (l33 := ?l33) (c33 := ?c33) (k33 := ?k33) (a34 := ?a34) (l34 := ?l34) (c34 := ?c34) (k34 := ?k34) (a35 := ?a35) (l35 := ?l35) (c35 := ?c35) (k35 := ?k35) (aC_Every := ?aC_Every) (pg_Every := ?pg_Every) (hd_Every := ?hd_Every) (po_Every := ?po_Every) (sa_Every := ?sa_Every) (mk_Every := ?mk_Every) (in_Every := ?in_Every) (kc_Every := ?kc_Every) (ha_Every := ?ha_Every) (hm_Every := ?hm_Every) (aC_Has := ?aC_Has) (pg_Has := ?pg_Has) (hd_Has := ?hd_Has) (po_Has := ?po_Has) (sa_Has := ?sa_Has) (n_Has_field := ?n_Has_field) (mk_Has := ?mk_Has) (in_Has := ?in_Has) (if_Has := ?if_Has) (kc_Has := ?kc_Has) (ha_Has := ?ha_Has) (hm_Has := ?hm_Has) (aC_Compare := ?aC_Compare) (pg_Compare := ?pg_Compare) (hd_Compare := ?hd_Compare) (po_Compare := ?po_Compare) (sa_Compare := ?sa_Compare) (n_Compare_field := ?n_Compare_field) (n_Compare_sign := ?n_Compare_sign) (n_Compare_value := ?n_Compare_value) (mk_Compare := ?mk_Compare) (in_Compare := ?in_Compare) (if_Compare := ?if_Compare) (kc_Compare := ?kc_Compare) (ha_Compare := ?ha_Compare) (hm_Compare := ?hm_Compare) (aC_OneOf := ?aC_OneOf) (pg_OneOf := ?pg_OneOf) (hd_OneOf := ?hd_OneOf) (po_OneOf := ?po_OneOf) (sa_OneOf := ?sa_OneOf) (n_OneOf_field := ?n_OneOf_field) (n_OneOf_choices := ?n_OneOf_choices) (mk_OneOf := ?mk_OneOf) (in_OneOf := ?in_OneOf) (if_OneOf := ?if_OneOf) (kc_OneOf := ?kc_OneOf) (ha_OneOf := ?ha_OneOf) (hm_OneOf := ?hm_OneOf) (aC_Both := ?aC_Both) (pg_Both := ?pg_Both) (hd_Both := ?hd_Both) (po_Both := ?po_Both) (sa_Both := ?sa_Both) (n_Both_a := ?n_Both_a) (n_Both_b := ?n_Both_b) (mk_Both := ?mk_Both) (in_Both := ?in_Both) (if_Both := ?if_Both) (kc_Both := ?kc_Both) (ha_Both := ?ha_Both) (hm_Both := ?hm_Both) (aC_Either := ?aC_Either) (pg_Either := ?pg_Either) (hd_Either := ?hd_Either) (po_Either := ?po_Either) (sa_Either := ?sa_Either) (n_Either_a := ?n_Either_a) (n_Either_b := ?n_Either_b) (mk_Either := ?mk_Either) (in_Either := ?in_Either) (if_Either := ?if_Either) (kc_Either := ?kc_Either) (ha_Either := ?ha_Either) (hm_Either := ?hm_Either) (aC_Negation := ?aC_Negation) (pg_Negation := ?pg_Negation) (hd_Negation := ?hd_Negation) (po_Negation := ?po_Negation) (sa_Negation := ?sa_Negation) (n_Negation_a := ?n_Negation_a) (mk_Negation := ?mk_Negation) (in_Negation := ?in_Negation) (if_Negation := ?if_Negation) (kc_Negation := ?kc_Negation) (ha_Negation := ?ha_Negation) (hm_Negation := ?hm_Negation) (aC_Range := ?aC_Range) (pg_Range := ?pg_Range) (hd_Range := ?hd_Range) (po_Range := ?po_Range) (sa_Range := ?sa_Range) (n_Range_field := ?n_Range_field) (n_Range_low := ?n_Range_low) (n_Range_high := ?n_Range_high) (n_Range_lack := ?n_Range_lack) (mk_Range := ?mk_Range) (in_Range := ?in_Range) (if_Range := ?if_Range) (kc_Range := ?kc_Range) (fm_Range_outcomes := ?fm_Range_outcomes) (im_Range_outcomes := ?im_Range_outcomes) (aC_Values := ?aC_Values) (pg_Values := ?pg_Values) (hd_Values := ?hd_Values) (po_Values := ?po_Values) (sa_Values := ?sa_Values) (n_Values_field := ?n_Values_field) (n_Values_choices := ?n_Values_choices) (n_Values_lack := ?n_Values_lack) (mk_Values := ?mk_Values) (in_Values := ?in_Values) (if_Values := ?if_Values) (kc_Values := ?kc_Values) (fm_Values_outcomes := ?fm_Values_outcomes) (im_Values_outcomes := ?im_Values_outcomes) (aC_Norms := ?aC_Norms) (pg_Norms := ?pg_Norms) (hd_Norms := ?hd_Norms) (po_Norms := ?po_Norms) (sa_Norms := ?sa_Norms) (n_Norms_low := ?n_Norms_low) (n_Norms_high := ?n_Norms_high) (mk_Norms := ?mk_Norms) (in_Norms := ?in_Norms) (if_Norms := ?if_Norms) (kc_Norms := ?kc_Norms) (fm_Norms_outcomes := ?fm_Norms_outcomes) (im_Norms_outcomes := ?im_Norms_outcomes) (aC_Names := ?aC_Names) (pg_Names := ?pg_Names) (hd_Names := ?hd_Names) (po_Names := ?po_Names) (sa_Names := ?sa_Names) (n_Names_low := ?n_Names_low) (n_Names_high := ?n_Names_high) (mk_Names := ?mk_Names) (in_Names := ?in_Names) (if_Names := ?if_Names) (kc_Names := ?kc_Names) (fm_Names_outcomes := ?fm_Names_outcomes) (im_Names_outcomes := ?im_Names_outcomes) (aC_Box := ?aC_Box) (pg_Box := ?pg_Box) (hd_Box := ?hd_Box) (po_Box := ?po_Box) (sa_Box := ?sa_Box) (n_Box_low := ?n_Box_low) (n_Box_high := ?n_Box_high) (mk_Box := ?mk_Box) (in_Box := ?in_Box) (if_Box := ?if_Box) (kc_Box := ?kc_Box) (fm_Box_outcomes := ?fm_Box_outcomes) (im_Box_outcomes := ?im_Box_outcomes) (ic_Has := ?ic_Has) (ty_Has := ?ty_Has) (ic_OneOf := ?ic_OneOf) (ty_OneOf := ?ty_OneOf) (ic_Negation := ?ic_Negation) (ty_Negation := ?ty_Negation) (ic_Both := ?ic_Both) (ty_Both := ?ty_Both) (ic_Either := ?ic_Either) (ty_Either := ?ty_Either) (ic_Compare := ?ic_Compare) (ty_Compare := ?ty_Compare) (ss_Has := ?ss_Has) (sb_Every_Has := ?sb_Every_Has) (sb_Compare_Has := ?sb_Compare_Has) (sb_OneOf_Has := ?sb_OneOf_Has) (sb_Both_Has := ?sb_Both_Has) (sb_Either_Has := ?sb_Either_Has) (sb_Negation_Has := ?sb_Negation_Has) (ss_OneOf := ?ss_OneOf) (sb_Every_OneOf := ?sb_Every_OneOf) (sb_Has_OneOf := ?sb_Has_OneOf) (sb_Compare_OneOf := ?sb_Compare_OneOf) (sb_Both_OneOf := ?sb_Both_OneOf) (sb_Either_OneOf := ?sb_Either_OneOf) (sb_Negation_OneOf := ?sb_Negation_OneOf) (ss_Negation := ?ss_Negation) (sb_Every_Negation := ?sb_Every_Negation) (sb_Has_Negation := ?sb_Has_Negation) (sb_Compare_Negation := ?sb_Compare_Negation) (sb_OneOf_Negation := ?sb_OneOf_Negation) (sb_Both_Negation := ?sb_Both_Negation) (sb_Either_Negation := ?sb_Either_Negation) (ss_Both := ?ss_Both) (sb_Every_Both := ?sb_Every_Both) (sb_Has_Both := ?sb_Has_Both) (sb_Compare_Both := ?sb_Compare_Both) (sb_OneOf_Both := ?sb_OneOf_Both) (sb_Either_Both := ?sb_Either_Both) (sb_Negation_Both := ?sb_Negation_Both) (ss_Either := ?ss_Either) (sb_Every_Either := ?sb_Every_Either) (sb_Has_Either := ?sb_Has_Either) (sb_Compare_Either := ?sb_Compare_Either) (sb_OneOf_Either := ?sb_OneOf_Either) (sb_Both_Either := ?sb_Both_Either) (sb_Negation_Either := ?sb_Negation_Either) (ss_Compare := ?ss_Compare) (sb_Every_Compare := ?sb_Every_Compare) (sb_Has_Compare := ?sb_Has_Compare) (sb_OneOf_Compare := ?sb_OneOf_Compare) (sb_Both_Compare := ?sb_Both_Compare) (sb_Either_Compare := ?sb_Either_Compare) (sb_Negation_Compare := ?sb_Negation_Compare) (hn0 := ?hn0) (ht0 := ?ht0) (l4 := ?l4) (c4 := ?c4) (k4 := ?k4) (l9 := ?l9) (c9 := ?c9) (k9 := ?k9) (l14 := ?l14) (c14 := ?c14) (k14 := ?k14) (l18 := ?l18) (c18 := ?c18) (k18 := ?k18) (l19 := ?l19) (c19 := ?c19) (k19 := ?k19) (l20 := ?l20) (c20 := ?c20) (k20 := ?k20) (l21 := ?l21) (n21_lack := ?n21_lack) (c21 := ?c21) (k21 := ?k21) (l22 := ?l22) (n22_lack := ?n22_lack) (c22 := ?c22) (k22 := ?k22) (l24 := ?l24) (c24 := ?c24) (k24 := ?k24) (l25 := ?l25) (c25 := ?c25) (k25 := ?k25) (l26 := ?l26) (c26 := ?c26) (k26 := ?k26) (l27 := ?l27) (c27 := ?c27) (k27 := ?k27) (l28 := ?l28) (c28 := ?c28) (k28 := ?k28) (l29 := ?l29) (c29 := ?c29) (k29 := ?k29) (z_all := ?z_all) (z_any := ?z_any) (z_bool := ?z_bool) (z_int := ?z_int) (z_isinstance := ?z_isinstance) (z_len := ?z_len) (z_list := ?z_list) (z_range := ?z_range) (z_tuple := ?z_tuple)
    (case a0 => k_is); (case l0 => k_is); (case c0 => k_is); (case k0 => k_is); (case a1 => k_is); (case l1 => k_is); (case c1 => k_is); (case k1 => k_is); (case a2 => k_is); (case l2 => k_is); (case c2 => k_is); (case k2 => k_is); (case a3 => k_is); (case l3 => k_is); (case c3 => k_is); (case k3 => k_is); (case a5 => k_is); (case l5 => k_is); (case c5 => k_is); (case k5 => k_is); (case a6 => k_is); (case l6 => k_is); (case c6 => k_is); (case k6 => k_is); (case a7 => k_is); (case l7 => k_is); (case c7 => k_is); (case k7 => k_is); (case a8 => k_is); (case l8 => k_is); (case c8 => k_is); (case k8 => k_is); (case a10 => k_is); (case l10 => k_is); (case c10 => k_is); (case k10 => k_is); (case a11 => k_is); (case l11 => k_is); (case c11 => k_is); (case k11 => k_is); (case a12 => k_is); (case l12 => k_is); (case c12 => k_is); (case k12 => k_is); (case a13 => k_is); (case l13 => k_is); (case c13 => k_is); (case k13 => k_is); (case a15 => k_is); (case l15 => k_is); (case c15 => k_is); (case k15 => k_is); (case a16 => k_is); (case l16 => k_is); (case c16 => k_is); (case k16 => k_is); (case a17 => k_is); (case l17 => k_is); (case c17 => k_is); (case k17 => k_is); (case a23 => k_is); (case l23 => k_is); (case c23 => k_is); (case k23 => k_is); (case a30 => k_is); (case l30 => k_is); (case c30 => k_is); (case k30 => k_is); (case a31 => k_is); (case l31 => k_is); (case c31 => k_is); (case k31 => k_is); (case a32 => k_is); (case l32 => k_is); (case c32 => k_is); (case k32 => k_is); (case a33 => k_is); (case l33 => k_is); (case c33 => k_is); (case k33 => k_is); (case a34 => k_is); (case l34 => k_is); (case c34 => k_is); (case k34 => k_is); (case a35 => k_is); (case l35 => k_is); (case c35 => k_is); (case k35 => k_is); (case aC_Every => k_is); (case pg_Every => k_is); (case hd_Every => k_is); (case po_Every => k_is); (case sa_Every => k_is); (case mk_Every => k_is); (case in_Every => k_is); (case kc_Every => k_is); (case ha_Every => k_is); (case hm_Every => k_is); (case aC_Has => k_is); (case pg_Has => k_is); (case hd_Has => k_is); (case po_Has => k_is); (case sa_Has => k_is); (case n_Has_field => k_is); (case mk_Has => k_is); (case in_Has => k_is); (case if_Has => k_is); (case kc_Has => k_is); (case ha_Has => k_is); (case hm_Has => k_is); (case aC_Compare => k_is); (case pg_Compare => k_is); (case hd_Compare => k_is); (case po_Compare => k_is); (case sa_Compare => k_is); (case n_Compare_field => k_is); (case n_Compare_sign => k_is); (case n_Compare_value => k_is); (case mk_Compare => k_is); (case in_Compare => k_is); (case if_Compare => k_is); (case kc_Compare => k_is); (case ha_Compare => k_is); (case hm_Compare => k_is); (case aC_OneOf => k_is); (case pg_OneOf => k_is); (case hd_OneOf => k_is); (case po_OneOf => k_is); (case sa_OneOf => k_is); (case n_OneOf_field => k_is); (case n_OneOf_choices => k_is); (case mk_OneOf => k_is); (case in_OneOf => k_is); (case if_OneOf => k_is); (case kc_OneOf => k_is); (case ha_OneOf => k_is); (case hm_OneOf => k_is); (case aC_Both => k_is); (case pg_Both => k_is); (case hd_Both => k_is); (case po_Both => k_is); (case sa_Both => k_is); (case n_Both_a => k_is); (case n_Both_b => k_is); (case mk_Both => k_is); (case in_Both => k_is); (case if_Both => k_is); (case kc_Both => k_is); (case ha_Both => k_is); (case hm_Both => k_is); (case aC_Either => k_is); (case pg_Either => k_is); (case hd_Either => k_is); (case po_Either => k_is); (case sa_Either => k_is); (case n_Either_a => k_is); (case n_Either_b => k_is); (case mk_Either => k_is); (case in_Either => k_is); (case if_Either => k_is); (case kc_Either => k_is); (case ha_Either => k_is); (case hm_Either => k_is); (case aC_Negation => k_is); (case pg_Negation => k_is); (case hd_Negation => k_is); (case po_Negation => k_is); (case sa_Negation => k_is); (case n_Negation_a => k_is); (case mk_Negation => k_is); (case in_Negation => k_is); (case if_Negation => k_is); (case kc_Negation => k_is); (case ha_Negation => k_is); (case hm_Negation => k_is); (case aC_Range => k_is); (case pg_Range => k_is); (case hd_Range => k_is); (case po_Range => k_is); (case sa_Range => k_is); (case n_Range_field => k_is); (case n_Range_low => k_is); (case n_Range_high => k_is); (case n_Range_lack => k_is); (case mk_Range => k_is); (case in_Range => k_is); (case if_Range => k_is); (case kc_Range => k_is); (case fm_Range_outcomes => k_is); (case im_Range_outcomes => k_is); (case aC_Values => k_is); (case pg_Values => k_is); (case hd_Values => k_is); (case po_Values => k_is); (case sa_Values => k_is); (case n_Values_field => k_is); (case n_Values_choices => k_is); (case n_Values_lack => k_is); (case mk_Values => k_is); (case in_Values => k_is); (case if_Values => k_is); (case kc_Values => k_is); (case fm_Values_outcomes => k_is); (case im_Values_outcomes => k_is); (case aC_Norms => k_is); (case pg_Norms => k_is); (case hd_Norms => k_is); (case po_Norms => k_is); (case sa_Norms => k_is); (case n_Norms_low => k_is); (case n_Norms_high => k_is); (case mk_Norms => k_is); (case in_Norms => k_is); (case if_Norms => k_is); (case kc_Norms => k_is); (case fm_Norms_outcomes => k_is); (case im_Norms_outcomes => k_is); (case aC_Names => k_is); (case pg_Names => k_is); (case hd_Names => k_is); (case po_Names => k_is); (case sa_Names => k_is); (case n_Names_low => k_is); (case n_Names_high => k_is); (case mk_Names => k_is); (case in_Names => k_is); (case if_Names => k_is); (case kc_Names => k_is); (case fm_Names_outcomes => k_is); (case im_Names_outcomes => k_is); (case aC_Box => k_is); (case pg_Box => k_is); (case hd_Box => k_is); (case po_Box => k_is); (case sa_Box => k_is); (case n_Box_low => k_is); (case n_Box_high => k_is); (case mk_Box => k_is); (case in_Box => k_is); (case if_Box => k_is); (case kc_Box => k_is); (case fm_Box_outcomes => k_is); (case im_Box_outcomes => k_is); (case ic_Has => k_is); (case ty_Has => k_is); (case ic_OneOf => k_is); (case ty_OneOf => k_is); (case ic_Negation => k_is); (case ty_Negation => k_is); (case ic_Both => k_is); (case ty_Both => k_is); (case ic_Either => k_is); (case ty_Either => k_is); (case ic_Compare => k_is); (case ty_Compare => k_is); (case ss_Has => k_is); (case sb_Every_Has => k_is); (case sb_Compare_Has => k_is); (case sb_OneOf_Has => k_is); (case sb_Both_Has => k_is); (case sb_Either_Has => k_is); (case sb_Negation_Has => k_is); (case ss_OneOf => k_is); (case sb_Every_OneOf => k_is); (case sb_Has_OneOf => k_is); (case sb_Compare_OneOf => k_is); (case sb_Both_OneOf => k_is); (case sb_Either_OneOf => k_is); (case sb_Negation_OneOf => k_is); (case ss_Negation => k_is); (case sb_Every_Negation => k_is); (case sb_Has_Negation => k_is); (case sb_Compare_Negation => k_is); (case sb_OneOf_Negation => k_is); (case sb_Both_Negation => k_is); (case sb_Either_Negation => k_is); (case ss_Both => k_is); (case sb_Every_Both => k_is); (case sb_Has_Both => k_is); (case sb_Compare_Both => k_is); (case sb_OneOf_Both => k_is); (case sb_Either_Both => k_is); (case sb_Negation_Both => k_is); (case ss_Either => k_is); (case sb_Every_Either => k_is); (case sb_Has_Either => k_is); (case sb_Compare_Either => k_is); (case sb_OneOf_Either => k_is); (case sb_Both_Either => k_is); (case sb_Negation_Either => k_is); (case ss_Compare => k_is); (case sb_Every_Compare => k_is); (case sb_Has_Compare => k_is); (case sb_OneOf_Compare => k_is); (case sb_Both_Compare => k_is); (case sb_Either_Compare => k_is); (case sb_Negation_Compare => k_is); (case hn0 => k_is); (case ht0 => k_is); (case l4 => k_is); (case c4 => k_is); (case k4 => k_is); (case l9 => k_is); (case c9 => k_is); (case k9 => k_is); (case l14 => k_is); (case c14 => k_is); (case k14 => k_is); (case l18 => k_is); (case c18 => k_is); (case k18 => k_is); (case l19 => k_is); (case c19 => k_is); (case k19 => k_is); (case l20 => k_is); (case c20 => k_is); (case k20 => k_is); (case l21 => k_is); (case n21_lack => k_is); (case c21 => k_is); (case k21 => k_is); (case l22 => k_is); (case n22_lack => k_is); (case c22 => k_is); (case k22 => k_is); (case l24 => k_is); (case c24 => k_is); (case k24 => k_is); (case l25 => k_is); (case c25 => k_is); (case k25 => k_is); (case l26 => k_is); (case c26 => k_is); (case k26 => k_is); (case l27 => k_is); (case c27 => k_is); (case k27 => k_is); (case l28 => k_is); (case c28 => k_is); (case k28 => k_is); (case l29 => k_is); (case c29 => k_is); (case k29 => k_is); (case z_all => k_is); (case z_any => k_is); (case z_bool => k_is); (case z_int => k_is); (case z_isinstance => k_is); (case z_len => k_is); (case z_list => k_is); (case z_range => k_is); (case z_tuple => k_is)
