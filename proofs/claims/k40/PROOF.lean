import PyProof.Rows.All
import Wide.All
import OpenK.AllK
import Wide.FinOn
import HandS.ForMost
import HandS.Codes
import HandS.Wide
import HandS.IsInst
import HandS.Walk
import HandS.Zip
import HandS.MakeKwOnly
import HandS.ForExc
import HandS.TryMany
import HandS.Strs
import HandS.More
import HandS.Property
import HandS.SetFor
import HandS.Conv
import HandS.Text
import HandS.TupAny
import HandS.Style
import KE.KEqSeq
import KE.LtData
import KE.OsRunLaw
import KE.GoesEnum
import HandS.OwnEq
import PyProof.NeKinds
import HandS.Small
import HandS.Deep
import KE.KTupSum
import KE.KDictZip
import KE.KStar
import HandS.Star
import HandS.FStr
import KE.HD2
import HandS.SetKeys
import PySem.Challenge.RW_surenear_k40_logs
set_option Elab.async false
set_option linter.all false
set_option maxRecDepth 100000
set_option synthInstance.maxHeartbeats 400000
set_option synthInstance.maxSize 4000
namespace TP
open PySem PySem.Spec PyProof.Rows L2
/-! ### heaps: Z is the part that never changes, H is all -/
def SameX (S : List Addr) (H H' : Hp) : Prop := ∀ a o, a ∉ S → H a = some o → H' a = some o
theorem SameX.refl {S : List Addr} {H : Hp} : SameX S H H := fun _ _ _ h => h
theorem SameX.trans {S : List Addr} {H H1 H2 : Hp} (f : SameX S H H1) (g : SameX S H1 H2) : SameX S H H2 := fun a o n h => g a o n (f a o n h)
structure Step (S : List Addr) (Z H Z' H' : Hp) : Prop where
  z : Same Z Z'
  s : Same Z' H'
  h : SameX S H H'
  n : ∀ a, H a ≠ none → Z a = none → Z' a = none
  al : ∀ a, H a ≠ none → H' a ≠ none
theorem Step.refl {S : List Addr} {Z H : Hp} (s : Same Z H) : Step S Z H Z H := ⟨Same.refl _, s, SameX.refl, fun _ _ h => h, fun _ h => h⟩
theorem Step.mine {S F : List Addr} {Z H Z1 H1 Z2 H2 : Hp} (f : Step S Z H Z1 H1) (g : Step F Z1 H1 Z2 H2) (m : ∀ a ∈ F, a ∈ S ∨ H a = none) : Step S Z H Z2 H2 :=
  ⟨f.z.trans g.z, g.s, fun a o na h => g.h a o (fun q => by rcases m a q with x | x; exact na x; rw [x] at h; cases h) (f.h a o na h), fun a h z => g.n a (f.al a h) (f.n a h z), fun a h => g.al a (f.al a h)⟩
theorem Step.trans {S : List Addr} {Z H Z1 H1 Z2 H2 : Hp} (f : Step S Z H Z1 H1) (g : Step S Z1 H1 Z2 H2) : Step S Z H Z2 H2 := f.mine g fun _ h => .inl h
theorem Step.weak {S F : List Addr} {Z H Z1 H1 : Hp} (g : Step F Z H Z1 H1) (m : ∀ a ∈ F, a ∈ S ∨ H a = none) : Step S Z H Z1 H1 :=
  ⟨g.z, g.s, fun a o na h => g.h a o (fun q => by rcases m a q with x | x; exact na x; rw [x] at h; cases h) h, g.n, g.al⟩
theorem Step.pure {S : List Addr} {Z H Z1 H1 : Hp} (g : Step [] Z H Z1 H1) : Step S Z H Z1 H1 := g.weak fun _ h => by cases h
theorem ne_of_some {H : Hp} {a p : Addr} (h : H a ≠ none) (hp : H p = none) : a ≠ p := fun e => h (e ▸ hp)
theorem some_ne {H : Hp} {a : Addr} {o : HO} (h : H a = some o) : H a ≠ none := by rw [h]; exact fun z => nomatch z
theorem same_none {Z H : Hp} (s : Same Z H) {p : Addr} (h : H p = none) : Z p = none := s.free h
theorem same_upd {H : Hp} {p : Addr} {o : HO} (h : H p = none) : Same H (upd H p o) := fun a u e => by
  rw [upd_ne (ne_of_some (some_ne e) h)]; exact e
theorem same_upd2 {Z H : Hp} {p : Addr} {o : HO} (s : Same Z H) : Same (upd Z p o) (upd H p o) := fun a u e => by
  by_cases q : a = p
  · subst q; rw [upd_same] at e ⊢; exact e
  · rw [upd_ne q] at e ⊢; exact s a u e
/-- something new that never changes -/
theorem Step.new {Z H : Hp} {p : Addr} {o : HO} (s : Same Z H) (hp : H p = none) : Step [] Z H (upd Z p o) (upd H p o) :=
  ⟨same_upd (same_none s hp), same_upd2 s, fun a u _ e => same_upd hp a u e, fun a h z => by rw [upd_ne (ne_of_some h hp)]; exact z, fun a h => by rw [upd_ne (ne_of_some h hp)]; exact h⟩
/-- something new of one's own -/
theorem Step.own {Z H : Hp} {p : Addr} {o : HO} (s : Same Z H) (hp : H p = none) : Step [] Z H Z (upd H p o) :=
  ⟨Same.refl _, s.trans (same_upd hp), fun a u _ e => same_upd hp a u e, fun _ _ z => z, fun a h => by rw [upd_ne (ne_of_some h hp)]; exact h⟩
/-- one's own is changed -/
theorem Step.set {Z H : Hp} {p : Addr} {o : HO} (s : Same Z H) (hz : Z p = none) : Step [p] Z H Z (upd H p o) := by
  refine ⟨Same.refl _, fun a u e => ?_, fun a u n e => ?_, fun _ _ z => z, fun a h => ?_⟩
  · rw [upd_ne (ne_of_some (some_ne e) hz)]; exact s a u e
  · rw [upd_ne (fun q => n (by rw [q]; exact List.mem_cons_self))]; exact e
  · by_cases q : a = p
    · subst q; rw [upd_same]; exact fun z => nomatch z
    · rw [upd_ne q]; exact h

/-! ### kinds of values -/
structure Ty (α : Type) where
  r : Hp → V → α → Prop
  mono : ∀ {Z Z' : Hp} {v : V} {x : α}, Same Z Z' → r Z v x → r Z' v x
def yInt : Ty Int := ⟨fun _ v x => v = .int x, fun _ h => h⟩
def yBool : Ty Bool := ⟨fun _ v x => v = .bl x, fun _ h => h⟩
def okS (x : Str) : Bool := PyData.strOk x && decide (x.length ≤ sizeLine)
def yStr : Ty Str := ⟨fun _ v x => v = .str x ∧ okS x = true, fun _ h => h⟩
def yNon : Ty Unit := ⟨fun _ v _ => v = .non, fun _ h => h⟩
def yOpt {α : Type} (τ : Ty α) : Ty (Option α) := ⟨fun Z v x => match x with | none => v = .non | some y => τ.r Z v y ∧ v ≠ .non, fun {_ _ _ x} s h => match x, h with | none, h => h | some _, h => ⟨τ.mono s h.1, h.2⟩⟩
/-- place by place -/
inductive All {α : Type} (R : V → α → Prop) : List V → List α → Prop
  | nil : All R [] []
  | cons {v : V} {vs : List V} {x : α} {xs : List α} : R v x → All R vs xs → All R (v :: vs) (x :: xs)
section
variable {α β : Type} {R R' : V → α → Prop}
theorem All.imp (f : ∀ v x, R v x → R' v x) : ∀ {vs : List V} {xs : List α}, All R vs xs → All R' vs xs
  | _, _, .nil => .nil
  | _, _, .cons h t => .cons (f _ _ h) (t.imp f)
theorem All.len : ∀ {vs : List V} {xs : List α}, All R vs xs → vs.length = xs.length
  | _, _, .nil => rfl
  | _, _, .cons _ t => congrArg Nat.succ t.len
theorem All.app : ∀ {vs ws : List V} {xs ys : List α}, All R vs xs → All R ws ys → All R (vs ++ ws) (xs ++ ys)
  | _, _, _, _, .nil, h => h
  | _, _, _, _, .cons h t, g => .cons h (t.app g)
theorem All.snoc {vs : List V} {xs : List α} {v : V} {x : α} (h : All R vs xs) (g : R v x) : All R (vs ++ [v]) (xs ++ [x]) := h.app (.cons g .nil)
theorem All.get : ∀ {vs : List V} {xs : List α} {i : Nat} {v : V}, All R vs xs → vs[i]? = some v → ∃ x, xs[i]? = some x ∧ R v x
  | _, _, _, _, .nil, h => by simp at h
  | _, _, 0, _, .cons h _, e => ⟨_, rfl, by have := Option.some.inj e; rw [← this]; exact h⟩
  | _, _, i + 1, _, .cons _ t, e => t.get (i := i) e
theorem All.at : ∀ {vs : List V} {xs : List α} {i : Nat} {x : α}, All R vs xs → xs[i]? = some x → ∃ v, vs[i]? = some v ∧ R v x
  | _, _, _, _, .nil, h => by simp at h
  | _, _, 0, _, .cons h _, e => ⟨_, rfl, by have := Option.some.inj e; rw [← this]; exact h⟩
  | _, _, i + 1, _, .cons _ t, e => t.at (i := i) e
theorem All.take : ∀ {vs : List V} {xs : List α} (n : Nat), All R vs xs → All R (vs.take n) (xs.take n)
  | _, _, 0, _ => .nil
  | _, _, _ + 1, .nil => .nil
  | _, _, n + 1, .cons h t => .cons h (t.take n)
theorem All.drop : ∀ {vs : List V} {xs : List α} (n : Nat), All R vs xs → All R (vs.drop n) (xs.drop n)
  | _, _, 0, h => h
  | _, _, _ + 1, .nil => .nil
  | _, _, n + 1, .cons _ t => t.drop n
theorem All.set {v : V} {x : α} (g : R v x) : ∀ {vs : List V} {xs : List α} (n : Nat), All R vs xs → All R (vs.set n v) (xs.set n x)
  | _, _, _, .nil => .nil
  | _, _, 0, .cons _ t => .cons g t
  | _, _, n + 1, .cons h t => .cons h (t.set g n)
theorem All.ints : ∀ {vs : List V} {xs : List Int}, All (fun v x => v = .int x) vs xs → vs = xs.map V.int
  | _, _, .nil => rfl
  | _, _, .cons h t => by rw [h, t.ints]; rfl
theorem All.map {f : α → V} (e : ∀ v x, R v x → v = f x) : ∀ {vs : List V} {xs : List α}, All R vs xs → vs = xs.map f
  | _, _, .nil => rfl
  | _, _, .cons h t => by rw [e _ _ h, t.map e]; rfl
theorem All.bls : ∀ {vs : List V} {xs : List Bool}, All (fun v x => v = .bl x) vs xs → vs = xs.map V.bl
  | _, _, .nil => rfl
  | _, _, .cons h t => by rw [h, t.bls]; rfl
theorem All.ofInts : ∀ xs : List Int, All (fun v x => v = .int x) (xs.map V.int) xs
  | [] => .nil
  | _ :: r => .cons rfl (All.ofInts r)
theorem All.atI {vs : List V} {xs : List α} {i : Int} {x : α} (h : All R vs xs) (e : L2.atI xs i = some x) : ∃ v, L2.atI vs i = some v ∧ R v x := by
  unfold L2.atI at e ⊢
  rw [h.len]
  cases q : ixN xs.length i with
  | none => rw [q] at e; cases e
  | some j =>
    rw [q] at e
    exact h.at (i := j) e
end
/-- a list that never changes -/
def yList {α : Type} (τ : Ty α) : Ty (List α) := ⟨fun Z v xs => ∃ a vs, v = .ref a ∧ Z a = some (.lst vs) ∧ All (τ.r Z) vs xs ∧ xs.length ≤ sizeLine,
  fun s ⟨a, vs, e, h, t, l⟩ => ⟨a, vs, e, s _ _ h, t.imp fun _ _ => τ.mono s, l⟩⟩
theorem seqT_same {K : PySem.W.Frag} {H H' : Hp} {q : Addr} {xs : List V} (f : Same H H') (h : SqT K H q xs) : SqT K H' q xs := by
  rcases h with (h | ⟨o, h⟩) | h
  · exact .inl (.inl (f _ _ h))
  · exact .inl (.inr ⟨o, f _ _ h⟩)
  · exact .inr h
section
variable (K : PySem.W.Frag)
def yTup {α : Type} (τ : Ty α) : Ty (List α) := ⟨fun Z v xs => ∃ a vs, v = .ref a ∧ SqT K Z a vs ∧ All (τ.r Z) vs xs ∧ xs.length ≤ sizeLine,
  fun s ⟨a, vs, e, h, t, l⟩ => ⟨a, vs, e, seqT_same s h, t.imp fun _ _ => τ.mono s, l⟩⟩
def yP0 : Ty Unit := ⟨fun Z v _ => ∃ a, v = .ref a ∧ SqT K Z a [], fun s ⟨a, e, h⟩ => ⟨a, e, seqT_same s h⟩⟩
def yP1 {α : Type} (τ : Ty α) : Ty α := ⟨fun Z v x => ∃ a v1, v = .ref a ∧ SqT K Z a [v1] ∧ τ.r Z v1 x, fun s ⟨a, v1, e, h, h1⟩ => ⟨a, v1, e, seqT_same s h, τ.mono s h1⟩⟩
def yP2 {α β : Type} (τ : Ty α) (υ : Ty β) : Ty (α × β) := ⟨fun Z v x => ∃ a v1 v2, v = .ref a ∧ SqT K Z a [v1, v2] ∧ τ.r Z v1 x.1 ∧ υ.r Z v2 x.2,
  fun s ⟨a, v1, v2, e, h, h1, h2⟩ => ⟨a, v1, v2, e, seqT_same s h, τ.mono s h1, υ.mono s h2⟩⟩
def yP3 {α β γ : Type} (τ : Ty α) (υ : Ty β) (φ : Ty γ) : Ty (α × β × γ) := ⟨fun Z v x => ∃ a v1 v2 v3, v = .ref a ∧ SqT K Z a [v1, v2, v3] ∧ τ.r Z v1 x.1 ∧ υ.r Z v2 x.2.1 ∧ φ.r Z v3 x.2.2,
  fun s ⟨a, v1, v2, v3, e, h, h1, h2, h3⟩ => ⟨a, v1, v2, v3, e, seqT_same s h, τ.mono s h1, υ.mono s h2, φ.mono s h3⟩⟩
def yP4 {α β γ δ : Type} (τ : Ty α) (υ : Ty β) (φ : Ty γ) (ψ : Ty δ) : Ty (α × β × γ × δ) := ⟨fun Z v x => ∃ a v1 v2 v3 v4, v = .ref a ∧ SqT K Z a [v1, v2, v3, v4] ∧ τ.r Z v1 x.1 ∧ υ.r Z v2 x.2.1 ∧ φ.r Z v3 x.2.2.1 ∧ ψ.r Z v4 x.2.2.2,
  fun s ⟨a, v1, v2, v3, v4, e, h, h1, h2, h3, h4⟩ => ⟨a, v1, v2, v3, v4, e, seqT_same s h, τ.mono s h1, υ.mono s h2, φ.mono s h3, ψ.mono s h4⟩⟩
end

/-! ### what changes: s of a kind μ stands at the addresses fp -/
structure Mu (μ : Type) where
  fp : List Addr
  m : μ → Hp → Hp → Prop
  al : ∀ {s : μ} {Z H : Hp}, m s Z H → ∀ a ∈ fp, H a ≠ none ∧ Z a = none
  loc : ∀ {s : μ} {Z H Z' H' : Hp}, Same Z Z' → (∀ a ∈ fp, ∀ o, H a = some o → H' a = some o) → (∀ a ∈ fp, H a ≠ none → Z a = none → Z' a = none) → m s Z H → m s Z' H'
def muN : Mu Unit := ⟨[], fun _ _ _ => True, fun _ _ h => (nomatch h), fun _ _ _ _ => trivial⟩
/-- what was told of more that stands still is told without it -/
def Mu.Back {μ : Type} (M : Mu μ) : Prop := ∀ {s s' : μ} {Z H Z' H' : Hp}, Same Z Z' → M.m s Z H → M.m s' Z' H' → M.m s' Z H'
theorem muN_back : muN.Back := fun _ _ _ => trivial
theorem Mu.pure {μ : Type} (M : Mu μ) {s : μ} {Z H Z' H' : Hp} (g : Step [] Z H Z' H') (h : M.m s Z H) : M.m s Z' H' := M.loc g.z (fun a _ o e => g.h a o (List.not_mem_nil) e) (fun a _ x y => g.n a x y) h
/-- what a value is, of the heaps -/
structure Rr (fp : List Addr) where
  r : Hp → Hp → V → Prop
  st : ∀ {Z H Z' H' : Hp} {v : V}, Step fp Z H Z' H' → r Z H v → r Z' H' v
structure Ra (fp : List Addr) where
  r : Hp → Hp → List V → Prop
  st : ∀ {Z H Z' H' : Hp} {vs : List V}, Step fp Z H Z' H' → r Z H vs → r Z' H' vs
def ty {fp : List Addr} {α : Type} (τ : Ty α) (x : α) : Rr fp := ⟨fun Z _ v => τ.r Z v x, fun g h => τ.mono g.z h⟩
/-- a list that may be read: one that never changes, or one of one's own -/
def RdL (fp : List Addr) (Z H : Hp) (p : Addr) (vs : List V) : Prop := Z p = some (.lst vs) ∨ (H p = some (.lst vs) ∧ p ∉ fp)
theorem RdL.st {fp : List Addr} {Z H Z' H' : Hp} {p : Addr} {vs : List V} (g : Step fp Z H Z' H') (h : RdL fp Z H p vs) : RdL fp Z' H' p vs := h.elim (fun e => .inl (g.z _ _ e)) fun e => .inr ⟨g.h _ _ e.2 e.1, e.2⟩
theorem RdL.get {fp : List Addr} {Z H : Hp} {p : Addr} {vs : List V} (s : Same Z H) (h : RdL fp Z H p vs) : H p = some (.lst vs) := h.elim (fun e => s _ _ e) fun e => e.1
def li {fp : List Addr} {α : Type} (τ : Ty α) (xs : List α) : Rr fp := ⟨fun Z H v => ∃ p vs, v = .ref p ∧ RdL fp Z H p vs ∧ All (τ.r Z) vs xs ∧ xs.length ≤ sizeLine,
  fun g ⟨p, vs, e, h, t, l⟩ => ⟨p, vs, e, h.st g, t.imp fun _ _ => τ.mono g.z, l⟩⟩
/-- an address, whatever stands there -/
def isRef {fp : List Addr} (a : Addr) : Rr fp := ⟨fun _ _ v => v = .ref a, fun _ h => h⟩
def ra0 {fp : List Addr} : Ra fp := ⟨fun _ _ vs => vs = [], fun _ h => h⟩
def rac {fp : List Addr} (R : Rr fp) (Rs : Ra fp) : Ra fp := ⟨fun Z H vs => ∃ v r, vs = v :: r ∧ R.r Z H v ∧ Rs.r Z H r, fun g ⟨v, r, e, h, t⟩ => ⟨v, r, e, R.st g h, Rs.st g t⟩⟩

section
variable {μ : Type}
/-- from the state s the expression gives a value of which R is true, and the state s' -/
def Ev (M : Mu μ) (t : TE) (σ : L2.St) (Z H : Hp) (s : μ) (R : Rr M.fp) (s' : μ) : Prop :=
  ∀ Z1 H1, Same Z Z1 → SameX M.fp H H1 → Same Z1 H1 → M.m s Z1 H1 → ∀ Q : VK, (∀ v Z2 H2, Step M.fp Z1 H1 Z2 H2 → M.m s' Z2 H2 → R.r Z2 H2 v → Q v H2) → t σ H1 Q
def EvT (M : Mu μ) (t : TT) (σ : L2.St) (Z H : Hp) (s : μ) (b : Bool) (s' : μ) : Prop :=
  ∀ Z1 H1, Same Z Z1 → SameX M.fp H H1 → Same Z1 H1 → M.m s Z1 H1 → ∀ Q : Bool → Hp → Prop, (∀ Z2 H2, Step M.fp Z1 H1 Z2 H2 → M.m s' Z2 H2 → Q b H2) → t σ H1 Q
def EvA (M : Mu μ) (t : TA) (σ : L2.St) (Z H : Hp) (s : μ) (Rs : Ra M.fp) (s' : μ) : Prop :=
  ∀ Z1 H1, Same Z Z1 → SameX M.fp H H1 → Same Z1 H1 → M.m s Z1 H1 → ∀ Q : List V → Hp → Prop, (∀ vs Z2 H2, Step M.fp Z1 H1 Z2 H2 → M.m s' Z2 H2 → Rs.r Z2 H2 vs → Q vs H2) → t σ H1 Q
variable {M : Mu μ} {σ : L2.St} {Z H : Hp} {s s' s1 s2 s3 : μ} {ta tb tc te : TE} {t : TA}
theorem Ev.up {t : TE} {R : Rr M.fp} {Z' H' : Hp} (h : Ev M t σ Z H s R s') (z : Same Z Z') (x : SameX M.fp H H') : Ev M t σ Z' H' s R s' := fun Z1 H1 a b => h Z1 H1 (z.trans a) (x.trans b)
theorem Ev.weak {t : TE} {R R' : Rr M.fp} (h : Ev M t σ Z H s R s') (f : ∀ Z H v, Same Z H → R.r Z H v → R'.r Z H v) : Ev M t σ Z H s R' s' := fun Z1 H1 a b c d Q q => h Z1 H1 a b c d Q fun v Z2 H2 e m r => q v Z2 H2 e m (f _ _ _ e.s r)
/-- nothing is done -/
theorem ev_of {t : TE} {R : Rr M.fp} (h : ∀ Z1 H1, Same Z Z1 → SameX M.fp H H1 → Same Z1 H1 → ∀ Q : VK, (∀ v, R.r Z1 H1 v → Q v H1) → t σ H1 Q) : Ev M t σ Z H s R s := fun Z1 H1 a b c d Q q => h Z1 H1 a b c Q fun v r => q v Z1 H1 (Step.refl c) d r
/-- one after the other, by values -/
theorem ev_op {R1 R3 R : Rr M.fp} {r : R2} (ha : Ev M ta σ Z H s R1 s1) (hb : Ev M tb σ Z H s1 R3 s2) (h : ∀ Z H v w, Same Z H → R1.r Z H v → R3.r Z H w → ∀ Q : VK, (∀ u Z2 H2, Step [] Z H Z2 H2 → R.r Z2 H2 u → Q u H2) → r v w H Q) : Ev M (tOp r ta tb) σ Z H s R s2 :=
  fun Z1 H1 a b c d Q q => ha Z1 H1 a b c d _ fun v Z2 H2 e m rv => hb Z2 H2 (a.trans e.z) (b.trans e.h) e.s m _ fun w Z3 H3 e2 m2 rw => h Z3 H3 v w e2.s (R1.st e2 rv) rw _ fun u Z4 H4 e3 ru => q u Z4 H4 ((e.trans e2).trans e3.pure) (M.pure e3 m2) ru
theorem ev_un {R1 R : Rr M.fp} {r : V → Hp → VK → Prop} (ha : Ev M ta σ Z H s R1 s1) (h : ∀ Z H v, Same Z H → R1.r Z H v → ∀ Q : VK, (∀ u Z2 H2, Step [] Z H Z2 H2 → R.r Z2 H2 u → Q u H2) → r v H Q) : Ev M (fun σ H Q => ta σ H fun x H1 => r x H1 Q) σ Z H s R s1 :=
  fun Z1 H1 a b c d Q q => ha Z1 H1 a b c d _ fun v Z2 H2 e m rv => h Z2 H2 v e.s rv _ fun u Z4 H4 e3 ru => q u Z4 H4 (e.trans e3.pure) (M.pure e3 m) ru
theorem eva_nil : EvA M tNil σ Z H s ra0 s := fun Z1 H1 _ _ c d Q q => q [] Z1 H1 (Step.refl c) d rfl
theorem eva_cons {R : Rr M.fp} {Rs : Ra M.fp} (ha : Ev M ta σ Z H s R s1) (hr : EvA M t σ Z H s1 Rs s2) : EvA M (tCons ta t) σ Z H s (rac R Rs) s2 :=
  fun Z1 H1 a b c d Q q => ha Z1 H1 a b c d _ fun v Z2 H2 e m rv => hr Z2 H2 (a.trans e.z) (b.trans e.h) e.s m _ fun vs Z3 H3 e2 m2 rs => q _ Z3 H3 (e.trans e2) m2 ⟨v, vs, rfl, R.st e2 rv, rs⟩
/-- by all arguments -/
theorem ev_cb {Rs : Ra M.fp} {R : Rr M.fp} {r : List V → Hp → VK → Prop} (ha : EvA M t σ Z H s Rs s1) (h : ∀ Z H vs, Same Z H → Rs.r Z H vs → ∀ Q : VK, (∀ u Z2 H2, Step [] Z H Z2 H2 → R.r Z2 H2 u → Q u H2) → r vs H Q) : Ev M (tCB r t) σ Z H s R s1 :=
  fun Z1 H1 a b c d Q q => ha Z1 H1 a b c d _ fun vs Z2 H2 e m rv => h Z2 H2 vs e.s rv _ fun u Z4 H4 e3 ru => q u Z4 H4 (e.trans e3.pure) (M.pure e3 m) ru
/-! names and constants -/
theorem ev_var {i : Nat} {v : V} {α : Type} {τ : Ty α} {x : α} (e : σ[i]? = some (some v)) (h : τ.r Z v x) : Ev M (tVar i) σ Z H s (ty τ x) s := ev_of fun _ _ a _ _ _ q => ⟨v, e, q v (τ.mono a h)⟩
/-- a list of one's own -/
theorem ev_own {i : Nat} {p : Addr} {vs : List V} {α : Type} {τ : Ty α} {xs : List α} (e : σ[i]? = some (some (.ref p))) (h : H p = some (.lst vs)) (n : p ∉ M.fp) (t : All (τ.r Z) vs xs) (l : xs.length ≤ sizeLine) : Ev M (tVar i) σ Z H s (li τ xs) s :=
  ev_of fun _ _ a b _ _ q => ⟨.ref p, e, q _ ⟨p, vs, rfl, .inr ⟨b _ _ n h, n⟩, t.imp fun _ _ => τ.mono a, l⟩⟩
theorem ev_ref {i : Nat} {p : Addr} (e : σ[i]? = some (some (.ref p))) : Ev M (tVar i) σ Z H s (isRef p) s := ev_of fun _ _ _ _ _ _ q => ⟨_, e, q _ rfl⟩
theorem ev_int {i : Int} : Ev M (tC (.int i)) σ Z H s (ty yInt i) s := ev_of fun _ _ _ _ _ _ q => q _ rfl
theorem ev_bl {i : Bool} : Ev M (tC (.bl i)) σ Z H s (ty yBool i) s := ev_of fun _ _ _ _ _ _ q => q _ rfl
theorem ev_str {i : Str} (h : okS i = true := by decide +kernel) : Ev M (tC (.str i)) σ Z H s (ty yStr i) s := ev_of fun _ _ _ _ _ _ q => q _ ⟨rfl, h⟩
theorem ev_non : Ev M (tC .non) σ Z H s (ty yNon ()) s := ev_of fun _ _ _ _ _ _ q => q _ rfl
theorem ev_const {v : V} {α : Type} {τ : Ty α} {x : α} (h : ∀ Z, τ.r Z v x) : Ev M (tC v) σ Z H s (ty τ x) s := ev_of fun _ _ _ _ _ _ q => q _ (h _)
theorem ev_li {α : Type} {τ : Ty α} {xs : List α} (h : Ev M ta σ Z H s (ty (yList τ) xs) s') : Ev M ta σ Z H s (li τ xs) s' := h.weak fun _ _ _ _ ⟨a, vs, e, g, t, l⟩ => ⟨a, vs, e, .inl g, t, l⟩
theorem ev_none {α : Type} {τ : Ty α} (h : Ev M ta σ Z H s (ty yNon ()) s') : Ev M ta σ Z H s (ty (yOpt τ) none) s' := h.weak fun _ _ _ _ e => e
/-- of this kind nothing is None -/
def NonNil {α : Type} (τ : Ty α) : Prop := ∀ Z v x, τ.r Z v x → v ≠ .non
theorem nn_int : NonNil yInt := fun _ _ _ e => by rw [show _ = V.int _ from e]; exact fun z => nomatch z
theorem nn_bool : NonNil yBool := fun _ _ _ e => by rw [show _ = V.bl _ from e]; exact fun z => nomatch z
theorem nn_str : NonNil yStr := fun _ _ _ e => by rw [show _ = V.str _ from e.1]; exact fun z => nomatch z
theorem nn_list {α : Type} {τ : Ty α} : NonNil (yList τ) := fun _ _ _ ⟨_, _, e, _⟩ => by rw [e]; exact fun z => nomatch z
theorem nn_tup {K : PySem.W.Frag} {α : Type} {τ : Ty α} : NonNil (yTup K τ) := fun _ _ _ ⟨_, _, e, _⟩ => by rw [e]; exact fun z => nomatch z
theorem nn_p2 {K : PySem.W.Frag} {α β : Type} {τ : Ty α} {υ : Ty β} : NonNil (yP2 K τ υ) := fun _ _ _ ⟨_, _, _, e, _⟩ => by rw [e]; exact fun z => nomatch z
theorem nn_p3 {K : PySem.W.Frag} {α β γ : Type} {τ : Ty α} {υ : Ty β} {φ : Ty γ} : NonNil (yP3 K τ υ φ) := fun _ _ _ ⟨_, _, _, _, e, _⟩ => by rw [e]; exact fun z => nomatch z
theorem nn_p4 {K : PySem.W.Frag} {α β γ δ : Type} {τ : Ty α} {υ : Ty β} {φ : Ty γ} {ψ : Ty δ} : NonNil (yP4 K τ υ φ ψ) := fun _ _ _ ⟨_, _, _, _, _, e, _⟩ => by rw [e]; exact fun z => nomatch z
theorem ev_some {α : Type} {τ : Ty α} {x : α} (n : NonNil τ) (h : Ev M ta σ Z H s (ty τ x) s') : Ev M ta σ Z H s (ty (yOpt τ) (some x)) s' := h.weak fun _ _ _ _ e => ⟨e, n _ _ _ e⟩
theorem ev_uno {α : Type} {τ : Ty α} {x : α} {o : Option α} (h : Ev M ta σ Z H s (ty (yOpt τ) o) s') (e : o = some x) : Ev M ta σ Z H s (ty τ x) s' := by
  subst e; exact h.weak fun _ _ _ _ e => e.1
theorem ev_cast {α : Type} {τ : Ty α} {x y : α} (h : Ev M ta σ Z H s (ty τ x) s') (e : x = y) : Ev M ta σ Z H s (ty τ y) s' := e ▸ h
/-! numbers -/
section
variable {i j : Int}
theorem ev_I0 {g : Int → Int → V} {R : Rr M.fp} (ha : Ev M ta σ Z H s (ty yInt i) s1) (hb : Ev M tb σ Z H s1 (ty yInt j) s2) (h : ∀ Z H, R.r Z H (g i j)) : Ev M (tOp (rI0 g) ta tb) σ Z H s R s2 :=
  ev_op ha hb fun _ _ _ _ sz e1 e2 _ q => ⟨i, j, e1, e2, q _ _ _ (Step.refl sz) (h _ _)⟩
theorem ev_I1 {C : Int → Int → Prop} {g : Int → Int → V} {R : Rr M.fp} (ha : Ev M ta σ Z H s (ty yInt i) s1) (hb : Ev M tb σ Z H s1 (ty yInt j) s2) (c : C i j) (h : ∀ Z H, R.r Z H (g i j)) : Ev M (tOp (rI C g) ta tb) σ Z H s R s2 :=
  ev_op ha hb fun _ _ _ _ sz e1 e2 _ q => ⟨i, j, e1, e2, c, q _ _ _ (Step.refl sz) (h _ _)⟩
theorem ev_add (ha : Ev M ta σ Z H s (ty yInt i) s1) (hb : Ev M tb σ Z H s1 (ty yInt j) s2) : Ev M (tOp (rI0 fun i j => .int (i + j)) ta tb) σ Z H s (ty yInt (i + j)) s2 := ev_I0 ha hb fun _ _ => rfl
theorem ev_sub (ha : Ev M ta σ Z H s (ty yInt i) s1) (hb : Ev M tb σ Z H s1 (ty yInt j) s2) : Ev M (tOp (rI0 fun i j => .int (i - j)) ta tb) σ Z H s (ty yInt (i - j)) s2 := ev_I0 ha hb fun _ _ => rfl
theorem ev_mul (ha : Ev M ta σ Z H s (ty yInt i) s1) (hb : Ev M tb σ Z H s1 (ty yInt j) s2) (c : CMul i j) : Ev M (tOp (rI CMul fun i j => .int (i * j)) ta tb) σ Z H s (ty yInt (i * j)) s2 := ev_I1 ha hb c fun _ _ => rfl
theorem ev_fdiv (ha : Ev M ta σ Z H s (ty yInt i) s1) (hb : Ev M tb σ Z H s1 (ty yInt j) s2) (c : CDiv i j) : Ev M (tOp (rI CDiv fun i j => .int (i / j)) ta tb) σ Z H s (ty yInt (i / j)) s2 := ev_I1 ha hb c fun _ _ => rfl
theorem ev_mod (ha : Ev M ta σ Z H s (ty yInt i) s1) (hb : Ev M tb σ Z H s1 (ty yInt j) s2) (c : 0 < j) : Ev M (tOp (rI (fun _ j => 0 < j) fun i j => .int (i % j)) ta tb) σ Z H s (ty yInt (i % j)) s2 := ev_I1 (C := fun _ j => 0 < j) ha hb c fun _ _ => rfl
theorem ev_pow (ha : Ev M ta σ Z H s (ty yInt i) s1) (hb : Ev M tb σ Z H s1 (ty yInt j) s2) (c : CPow i j) : Ev M (tOp (rI CPow fun i j => .int (i ^ j.toNat)) ta tb) σ Z H s (ty yInt (i ^ j.toNat)) s2 := ev_I1 ha hb c fun _ _ => rfl
theorem ev_tun {R1 R : Rr M.fp} {r : V → Hp → VK → Prop} (ha : Ev M ta σ Z H s R1 s1) (h : ∀ Z H v, Same Z H → R1.r Z H v → ∀ Q : VK, (∀ u Z2 H2, Step [] Z H Z2 H2 → R.r Z2 H2 u → Q u H2) → r v H Q) : Ev M (tUn r ta) σ Z H s R s1 :=
  fun Z1 H1 a b c d Q q => ha Z1 H1 a b c d _ fun v Z2 H2 e m rv => h Z2 H2 v e.s rv _ fun u Z4 H4 e3 ru => q u Z4 H4 (e.trans e3.pure) (M.pure e3 m) ru
theorem ev_neg (ha : Ev M ta σ Z H s (ty yInt i) s1) : Ev M (tUn (rU fun i => .int (-i)) ta) σ Z H s (ty yInt (-i)) s1 := ev_tun ha fun _ _ _ sz e _ q => ⟨i, e, q _ _ _ (Step.refl sz) rfl⟩
theorem ev_lt (ha : Ev M ta σ Z H s (ty yInt i) s1) (hb : Ev M tb σ Z H s1 (ty yInt j) s2) : Ev M (tOp (rI0 fun i j => .bl (decide (i < j))) ta tb) σ Z H s (ty yBool (decide (i < j))) s2 := ev_I0 ha hb fun _ _ => rfl
theorem ev_le (ha : Ev M ta σ Z H s (ty yInt i) s1) (hb : Ev M tb σ Z H s1 (ty yInt j) s2) : Ev M (tOp (rI0 fun i j => .bl (decide (i ≤ j))) ta tb) σ Z H s (ty yBool (decide (i ≤ j))) s2 := ev_I0 ha hb fun _ _ => rfl
theorem ev_gt (ha : Ev M ta σ Z H s (ty yInt i) s1) (hb : Ev M tb σ Z H s1 (ty yInt j) s2) : Ev M (tOp (rI0 fun i j => .bl (decide (j < i))) ta tb) σ Z H s (ty yBool (decide (j < i))) s2 := ev_I0 ha hb fun _ _ => rfl
theorem ev_ge (ha : Ev M ta σ Z H s (ty yInt i) s1) (hb : Ev M tb σ Z H s1 (ty yInt j) s2) : Ev M (tOp (rI0 fun i j => .bl (decide (j ≤ i))) ta tb) σ Z H s (ty yBool (decide (j ≤ i))) s2 := ev_I0 ha hb fun _ _ => rfl
end
/-! equality of flat things -/
/-- flat: the value is told by the thing alone -/
structure Flat {α : Type} (τ : Ty α) (f : α → V) : Prop where
  eq : ∀ Z v x, τ.r Z v x → v = f x
  inj : ∀ x y, f x = f y → x = y
  sc : ∀ x y, scal (f x) (f y) = true
theorem flat_int : Flat yInt V.int := ⟨fun _ _ _ h => h, fun _ _ h => V.int.inj h, fun _ _ => rfl⟩
theorem flat_str : Flat yStr V.str := ⟨fun _ _ _ h => h.1, fun _ _ h => V.str.inj h, fun _ _ => rfl⟩
theorem flat_bool : Flat yBool V.bl := ⟨fun _ _ _ h => h, fun _ _ h => V.bl.inj h, fun _ _ => rfl⟩
section
variable {α : Type} {τ : Ty α} {f : α → V} {x y : α}
theorem ev_eq [DecidableEq α] (F : Flat τ f) (ha : Ev M ta σ Z H s (ty τ x) s1) (hb : Ev M tb σ Z H s1 (ty τ y) s2) : Ev M (tOp rEq ta tb) σ Z H s (ty yBool (decide (x = y))) s2 :=
  ev_op ha hb fun Z H v w sz e1 e2 Q q => by
    rw [F.eq _ _ _ e1, F.eq _ _ _ e2]
    have : decide (f x = f y) = decide (x = y) := decide_eq_decide.mpr ⟨F.inj x y, congrArg f⟩
    exact ⟨F.sc _ _, q _ _ _ (Step.refl sz) (congrArg V.bl this)⟩
theorem ev_ne [DecidableEq α] (F : Flat τ f) (ha : Ev M ta σ Z H s (ty τ x) s1) (hb : Ev M tb σ Z H s1 (ty τ y) s2) : Ev M (tOp rNe ta tb) σ Z H s (ty yBool (!decide (x = y))) s2 :=
  ev_op ha hb fun Z H v w sz e1 e2 Q q => by
    rw [F.eq _ _ _ e1, F.eq _ _ _ e2]
    have : decide (f x = f y) = decide (x = y) := decide_eq_decide.mpr ⟨F.inj x y, congrArg f⟩
    exact ⟨F.sc _ _, q _ _ _ (Step.refl sz) (congrArg (fun b => V.bl (!b)) this)⟩
end
theorem ev_isN {α : Type} {τ : Ty α} {o : Option α} (ha : Ev M ta σ Z H s (ty (yOpt τ) o) s1) (hb : Ev M tb σ Z H s1 (ty yNon ()) s2) : Ev M (tOp (fun x y H Q => y = .non ∧ Q (.bl (decide (x = .non))) H) ta tb) σ Z H s (ty yBool o.isNone) s2 :=
  ev_op ha hb fun Z H v w sz e1 e2 Q q => by
    refine ⟨e2, q _ _ _ (Step.refl sz) ?_⟩
    cases o with
    | none => rw [show v = .non from e1]; rfl
    | some y => rw [show decide (v = .non) = false from decide_eq_false e1.2]; rfl
theorem ev_notN {α : Type} {τ : Ty α} {o : Option α} (ha : Ev M ta σ Z H s (ty (yOpt τ) o) s1) (hb : Ev M tb σ Z H s1 (ty yNon ()) s2) : Ev M (tOp (fun x y H Q => y = .non ∧ Q (.bl (!decide (x = .non))) H) ta tb) σ Z H s (ty yBool o.isSome) s2 :=
  ev_op ha hb fun Z H v w sz e1 e2 Q q => by
    refine ⟨e2, q _ _ _ (Step.refl sz) ?_⟩
    cases o with
    | none => rw [show v = .non from e1]; rfl
    | some y => rw [show decide (v = .non) = false from decide_eq_false e1.2]; rfl
/-! and, or, not, if, as values -/
theorem ev_and {a b : Bool} {o : Option (Bool × μ)} (ha : Ev M ta σ Z H s (ty yBool a) s1) (hb : a = true → ∀ y s', o = some (y, s') → Ev M tb σ Z H s1 (ty yBool y) s') (h : (if a = true then o else some (false, s1)) = some (b, s2)) : Ev M (tAndV ta tb) σ Z H s (ty yBool b) s2 :=
  fun Z1 H1 p q r d Q k => ha Z1 H1 p q r d _ fun v Z2 H2 e m rv => ⟨a, rv, by
    cases a with
    | true => rw [if_pos rfl] at h ⊢; exact hb rfl b s2 h Z2 H2 (p.trans e.z) (q.trans e.h) e.s m _ fun w Z3 H3 e2 m2 rw => k w Z3 H3 (e.trans e2) m2 rw
    | false => rw [if_neg Bool.false_ne_true] at h ⊢; cases h; exact k _ Z2 H2 e m rfl⟩
theorem ev_or {a b : Bool} {o : Option (Bool × μ)} (ha : Ev M ta σ Z H s (ty yBool a) s1) (hb : a = false → ∀ y s', o = some (y, s') → Ev M tb σ Z H s1 (ty yBool y) s') (h : (if a = true then some (true, s1) else o) = some (b, s2)) : Ev M (tOrV ta tb) σ Z H s (ty yBool b) s2 :=
  fun Z1 H1 p q r d Q k => ha Z1 H1 p q r d _ fun v Z2 H2 e m rv => ⟨a, rv, by
    cases a with
    | false => rw [if_neg Bool.false_ne_true] at h ⊢; exact hb rfl b s2 h Z2 H2 (p.trans e.z) (q.trans e.h) e.s m _ fun w Z3 H3 e2 m2 rw => k w Z3 H3 (e.trans e2) m2 rw
    | true => rw [if_pos rfl] at h ⊢; cases h; exact k _ Z2 H2 e m rfl⟩
theorem ev_and0 {a b : Bool} (ha : Ev M ta σ Z H s (ty yBool a) s1) (hb : Ev M tb σ Z H s1 (ty yBool b) s1) : Ev M (tAndV ta tb) σ Z H s (ty yBool (a && b)) s1 :=
  ev_and (o := some (b, s1)) ha (fun _ y s' e => by cases e; exact hb) (by cases a <;> rfl)
theorem ev_or0 {a b : Bool} (ha : Ev M ta σ Z H s (ty yBool a) s1) (hb : Ev M tb σ Z H s1 (ty yBool b) s1) : Ev M (tOrV ta tb) σ Z H s (ty yBool (a || b)) s1 :=
  ev_or (o := some (b, s1)) ha (fun _ y s' e => by cases e; exact hb) (by cases a <;> rfl)
theorem ev_not {a : Bool} (ha : Ev M ta σ Z H s (ty yBool a) s1) : Ev M (tNotV ta) σ Z H s (ty yBool (!a)) s1 :=
  fun Z1 H1 p q r d Q k => ha Z1 H1 p q r d _ fun v Z2 H2 e m rv => ⟨a, rv, k _ Z2 H2 e m rfl⟩
theorem ev_if {tt : TT} {a : Bool} {R : Rr M.fp} (ht : EvT M tt σ Z H s a s1) (ha : a = true → Ev M ta σ Z H s1 R s2) (hb : a = false → Ev M tb σ Z H s1 R s2) : Ev M (tIf tt ta tb) σ Z H s R s2 :=
  fun Z1 H1 p q r d Q k => ht Z1 H1 p q r d _ fun Z2 H2 e m => by
    cases a with
    | true => rw [if_pos rfl]; exact ha rfl Z2 H2 (p.trans e.z) (q.trans e.h) e.s m _ fun w Z3 H3 e2 m2 rw => k w Z3 H3 (e.trans e2) m2 rw
    | false => rw [if_neg Bool.false_ne_true]; exact hb rfl Z2 H2 (p.trans e.z) (q.trans e.h) e.s m _ fun w Z3 H3 e2 m2 rw => k w Z3 H3 (e.trans e2) m2 rw
theorem ev_if0 {tt : TT} {a : Bool} {α : Type} {τ : Ty α} {x y : α} (ht : EvT M tt σ Z H s a s1) (ha : Ev M ta σ Z H s1 (ty τ x) s1) (hb : Ev M tb σ Z H s1 (ty τ y) s1) : Ev M (tIf tt ta tb) σ Z H s (ty τ (if a = true then x else y)) s1 :=
  ev_if ht (fun e => by rw [if_pos e]; exact ha) (fun e => by rw [if_neg (by rw [e]; exact Bool.false_ne_true)]; exact hb)
/-! tests -/
theorem et_val {a : Bool} (h : Ev M te σ Z H s (ty yBool a) s1) : EvT M (tB te) σ Z H s a s1 := fun Z1 H1 p q r d _ k => h Z1 H1 p q r d _ fun _ Z2 H2 e m rv => ⟨a, rv, k Z2 H2 e m⟩
theorem et_cmp {a : Bool} (h : Ev M te σ Z H s (ty yBool a) s1) : EvT M (tTest te) σ Z H s a s1 := fun Z1 H1 p q r d _ k => h Z1 H1 p q r d _ fun _ Z2 H2 e m rv => ⟨a, rv, k Z2 H2 e m⟩
section
variable {tA tB' : TT} {a b : Bool}
theorem et_and {o : Option (Bool × μ)} (ha : EvT M tA σ Z H s a s1) (hb : a = true → ∀ y s', o = some (y, s') → EvT M tB' σ Z H s1 y s') (h : (if a = true then o else some (false, s1)) = some (b, s2)) : EvT M (tAnd tA tB') σ Z H s b s2 :=
  fun Z1 H1 p q r d Q k => ha Z1 H1 p q r d _ fun Z2 H2 e m => by
    cases a with
    | true => rw [if_pos rfl] at h ⊢; exact hb rfl b s2 h Z2 H2 (p.trans e.z) (q.trans e.h) e.s m _ fun Z3 H3 e2 m2 => k Z3 H3 (e.trans e2) m2
    | false => rw [if_neg Bool.false_ne_true] at h ⊢; cases h; exact k Z2 H2 e m
theorem et_or {o : Option (Bool × μ)} (ha : EvT M tA σ Z H s a s1) (hb : a = false → ∀ y s', o = some (y, s') → EvT M tB' σ Z H s1 y s') (h : (if a = true then some (true, s1) else o) = some (b, s2)) : EvT M (tOr tA tB') σ Z H s b s2 :=
  fun Z1 H1 p q r d Q k => ha Z1 H1 p q r d _ fun Z2 H2 e m => by
    cases a with
    | false => rw [if_neg Bool.false_ne_true] at h ⊢; exact hb rfl b s2 h Z2 H2 (p.trans e.z) (q.trans e.h) e.s m _ fun Z3 H3 e2 m2 => k Z3 H3 (e.trans e2) m2
    | true => rw [if_pos rfl] at h ⊢; cases h; exact k Z2 H2 e m
theorem et_and0 (ha : EvT M tA σ Z H s a s1) (hb : EvT M tB' σ Z H s1 b s1) : EvT M (tAnd tA tB') σ Z H s (a && b) s1 := et_and (o := some (b, s1)) ha (fun _ y s' e => by cases e; exact hb) (by cases a <;> rfl)
theorem et_or0 (ha : EvT M tA σ Z H s a s1) (hb : EvT M tB' σ Z H s1 b s1) : EvT M (tOr tA tB') σ Z H s (a || b) s1 := et_or (o := some (b, s1)) ha (fun _ y s' e => by cases e; exact hb) (by cases a <;> rfl)
theorem et_not (ha : EvT M tA σ Z H s a s1) : EvT M (tNot tA) σ Z H s (!a) s1 := fun Z1 H1 p q r d _ k => ha Z1 H1 p q r d _ k
end
end
end TP

namespace TP
open PySem PySem.Spec PyProof.Rows L2
instance {i j : Int} : Decidable (CMul i j) := inferInstanceAs (Decidable ((_ ∧ _) ∨ (_ ∧ _)))
instance {i j : Int} : Decidable (CDiv i j) := inferInstanceAs (Decidable (_ ∧ _))
instance {i j : Int} : Decidable (CPow i j) := inferInstanceAs (Decidable (_ ∧ _ ∧ _))
section
variable {μ : Type} {M : Mu μ} {σ : L2.St} {Z H : Hp} {s s' s1 s2 s3 : μ} {ta tb tc te : TE} {t : TA} {K : PySem.W.Frag}
theorem same_x {S : List Addr} {Z H Z1 H1 : Hp} (g : Step S Z H Z1 H1) {p : Addr} (h : H1 p = none) : H p = none := by
  cases q : H p with
  | none => rfl
  | some o => exact absurd h (g.al p (some_ne q))
theorem fresh_fp {fp : List Addr} {Z H : Hp} {p : Addr} {o : HO} (sz : Same Z H) (hp : H p = none) : Step fp Z H (upd Z p o) (upd H p o) := (Step.new sz hp).pure
/-! ### texts -/
theorem okS_app {x y : Str} (hx : okS x = true) (hy : okS y = true) (l : x.length + y.length ≤ sizeLine) : okS (x ++ y) = true := by
  unfold okS PyData.strOk at *
  rw [Bool.and_eq_true] at hx hy ⊢
  refine ⟨?_, ?_⟩
  · have e : (x ++ y).cps = x.cps ++ y.cps := rfl
    rw [e, Array.all_append, hx.1, hy.1]; rfl
  · refine decide_eq_true ?_
    have e : (x ++ y).length = x.length + y.length := by
      show (x.cps ++ y.cps).size = _
      rw [Array.size_append]; rfl
    omega
theorem ev_cat_str {x y : Str} (ha : Ev M ta σ Z H s (ty yStr x) s1) (hb : Ev M tb σ Z H s1 (ty yStr y) s2) (l : x.length + y.length ≤ sizeLine) : Ev M (tOp (fun x y H Q => ∃ i j, x = .str i ∧ y = .str j ∧ i.length + j.length ≤ sizeLine ∧ Q (.str (i ++ j)) H) ta tb) σ Z H s (ty yStr (x ++ y)) s2 :=
  ev_op ha hb fun _ _ _ _ sz e1 e2 _ q => ⟨x, y, e1.1, e2.1, l, q _ _ _ (Step.refl sz) ⟨rfl, okS_app e1.2 e2.2 l⟩⟩
theorem ev_lt_str {x y : Str} (ha : Ev M ta σ Z H s (ty yStr x) s1) (hb : Ev M tb σ Z H s1 (ty yStr y) s2) : Ev M (tOp (fun x y H Q => ∃ i j, x = .str i ∧ y = .str j ∧ Q (.bl (decide (i.cps.toList < j.cps.toList))) H) ta tb) σ Z H s (ty yBool (decide (x.cps.toList < y.cps.toList))) s2 :=
  ev_op ha hb fun _ _ _ _ sz e1 e2 _ q => ⟨x, y, e1.1, e2.1, q _ _ _ (Step.refl sz) rfl⟩
theorem ev_len_str {x : Str} (ha : Ev M ta σ Z H s (ty yStr x) s1) : Ev M (tCB (fun xs H Q => ∃ z, xs = [.str z] ∧ z.length ≤ sizeLine ∧ Q (.int z.length) H) (tCons ta tNil)) σ Z H s (ty yInt (x.length : Nat)) s1 :=
  ev_cb (eva_cons ha eva_nil) fun _ _ vs sz ⟨v, r, e, h, e2⟩ Q q => ⟨x, by rw [e, h.1, show r = [] from e2], of_decide_eq_true (Bool.and_eq_true_iff.mp (show (PyData.strOk x && decide (x.length ≤ sizeLine)) = true from h.2)).2, q _ _ _ (Step.refl sz) rfl⟩
/-! ### lists and tuples that are made -/
theorem ev_tup {Rs : Ra M.fp} {R : Rr M.fp} (ha : EvA M t σ Z H s Rs s1) (h : ∀ Z H vs, Same Z H → Rs.r Z H vs → vs.length ≤ sizeLine ∧ ∀ p, H p = none → R.r (upd Z p (.tup vs)) (upd H p (.tup vs)) (.ref p)) : Ev M (tTup t) σ Z H s R s1 :=
  fun Z1 H1 a b c d Q q => ha Z1 H1 a b c d _ fun vs Z2 H2 e m rv => by
    obtain ⟨l, hr⟩ := h Z2 H2 vs e.s rv
    exact ⟨l, fun p hp => q _ _ _ (e.trans (fresh_fp e.s hp)) (M.pure (Step.new e.s hp) m) (hr p hp)⟩
theorem ev_lst {Rs : Ra M.fp} {R : Rr M.fp} (ha : EvA M t σ Z H s Rs s1) (h : ∀ Z H vs, Same Z H → Rs.r Z H vs → vs.length ≤ sizeLine ∧ ∀ p, H p = none → R.r (upd Z p (.lst vs)) (upd H p (.lst vs)) (.ref p)) : Ev M (tLst t) σ Z H s R s1 :=
  fun Z1 H1 a b c d Q q => ha Z1 H1 a b c d _ fun vs Z2 H2 e m rv => by
    obtain ⟨l, hr⟩ := h Z2 H2 vs e.s rv
    exact ⟨l, fun p hp => q _ _ _ (e.trans (fresh_fp e.s hp)) (M.pure (Step.new e.s hp) m) (hr p hp)⟩
theorem sqT_new {Z : Hp} {p : Addr} {vs : List V} : SqT K (upd Z p (.tup vs)) p vs := .inl (.inl upd_same)
section
variable {α β γ δ : Type} {τ : Ty α} {υ : Ty β} {φ : Ty γ} {ψ : Ty δ} {x : α} {y : β} {z : γ} {u : δ}
theorem ev_p0 : Ev M (tTup tNil) σ Z H s (ty (yP0 K) ()) s := ev_tup eva_nil fun _ _ vs _ e => ⟨by rw [show vs = [] from e]; exact Nat.zero_le _, fun p _ => ⟨p, rfl, by rw [show vs = [] from e]; exact sqT_new⟩⟩
theorem ev_p1 (ha : EvA M t σ Z H s (rac (ty τ x) ra0) s1) : Ev M (tTup t) σ Z H s (ty (yP1 K τ) x) s1 :=
  ev_tup ha fun Z H vs sz ⟨v1, r1, e1, h1, e2⟩ => by
    cases e2; cases e1
    exact ⟨by show 1 ≤ sizeLine; decide, fun p hp => ⟨p, v1, rfl, sqT_new, τ.mono (same_upd (same_none sz hp)) h1⟩⟩
theorem ev_p2 (ha : EvA M t σ Z H s (rac (ty τ x) (rac (ty υ y) ra0)) s1) : Ev M (tTup t) σ Z H s (ty (yP2 K τ υ) (x, y)) s1 :=
  ev_tup ha fun Z H vs sz ⟨v1, r1, e1, h1, v2, r2, e2, h2, e3⟩ => by
    cases e3; cases e2; cases e1
    exact ⟨by show 2 ≤ sizeLine; decide, fun p hp => have q := same_upd (same_none sz hp); ⟨p, v1, v2, rfl, sqT_new, τ.mono q h1, υ.mono q h2⟩⟩
theorem ev_p3 (ha : EvA M t σ Z H s (rac (ty τ x) (rac (ty υ y) (rac (ty φ z) ra0))) s1) : Ev M (tTup t) σ Z H s (ty (yP3 K τ υ φ) (x, y, z)) s1 :=
  ev_tup ha fun Z H vs sz ⟨v1, r1, e1, h1, v2, r2, e2, h2, v3, r3, e3, h3, e4⟩ => by
    cases e4; cases e3; cases e2; cases e1
    exact ⟨by show 3 ≤ sizeLine; decide, fun p hp => have q := same_upd (same_none sz hp); ⟨p, v1, v2, v3, rfl, sqT_new, τ.mono q h1, υ.mono q h2, φ.mono q h3⟩⟩
theorem ev_p4 (ha : EvA M t σ Z H s (rac (ty τ x) (rac (ty υ y) (rac (ty φ z) (rac (ty ψ u) ra0)))) s1) : Ev M (tTup t) σ Z H s (ty (yP4 K τ υ φ ψ) (x, y, z, u)) s1 :=
  ev_tup ha fun Z H vs sz ⟨v1, r1, e1, h1, v2, r2, e2, h2, v3, r3, e3, h3, v4, r4, e4, h4, e5⟩ => by
    cases e5; cases e4; cases e3; cases e2; cases e1
    exact ⟨by show 4 ≤ sizeLine; decide, fun p hp => have q := same_upd (same_none sz hp); ⟨p, v1, v2, v3, v4, rfl, sqT_new, τ.mono q h1, υ.mono q h2, φ.mono q h3, ψ.mono q h4⟩⟩
/-- arguments all of one kind -/
def ras {fp : List Addr} (τ : Ty α) (xs : List α) : Ra fp := ⟨fun Z _ vs => All (τ.r Z) vs xs, fun g h => h.imp fun _ _ => τ.mono g.z⟩
theorem eva_nils : EvA M tNil σ Z H s (ras τ []) s := fun Z1 H1 _ _ c d Q q => q [] Z1 H1 (Step.refl c) d .nil
theorem eva_conss {xs : List α} (ha : Ev M ta σ Z H s (ty τ x) s1) (hr : EvA M t σ Z H s1 (ras τ xs) s2) : EvA M (tCons ta t) σ Z H s (ras τ (x :: xs)) s2 :=
  fun Z1 H1 a b c d Q q => ha Z1 H1 a b c d _ fun v Z2 H2 e m rv => hr Z2 H2 (a.trans e.z) (b.trans e.h) e.s m _ fun vs Z3 H3 e2 m2 rs => q _ Z3 H3 (e.trans e2) m2 (.cons (τ.mono e2.z rv) rs)
/-- a new list of one's own -/
def EvN {α : Type} (M : Mu μ) (t : TE) (σ : L2.St) (Z H : Hp) (s : μ) (τ : Ty α) (xs : List α) (s' : μ) : Prop :=
  ∀ Z1 H1, Same Z Z1 → SameX M.fp H H1 → Same Z1 H1 → M.m s Z1 H1 → ∀ Q : VK, (∀ p vs Z2 H2, Step M.fp Z1 H1 Z2 H2 → M.m s' Z2 H2 → H1 p = none → Z2 p = none → H2 p = some (.lst vs) → All (τ.r Z2) vs xs → xs.length ≤ sizeLine → Q (.ref p) H2) → t σ H1 Q
theorem Step.fz {S : List Addr} {Z H Z1 H1 : Hp} {x : Addr} {o : HO} (g : Step S Z H Z1 H1) (hx : H x = none) (h1 : H1 x = some o) (hz : Z1 x = none) : Step S Z H (upd Z1 x o) H1 := by
  refine ⟨g.z.trans (same_upd hz), fun a u e => ?_, g.h, fun a h z => ?_, g.al⟩
  · by_cases q : a = x
    · subst q; rw [upd_same] at e; rw [← Option.some.inj e]; exact h1
    · rw [upd_ne q] at e; exact g.s a u e
  · rw [upd_ne (ne_of_some h hx)]; exact g.n a h z
theorem Mu.fz {M : Mu μ} {s : μ} {Z H : Hp} {x : Addr} {o : HO} (m : M.m s Z H) (hz : Z x = none) (nx : x ∉ M.fp) : M.m s (upd Z x o) H := by
  refine M.loc (same_upd hz) (fun _ _ _ x => x) (fun a ha _ z => ?_) m
  rw [upd_ne (fun q => nx (by rw [← q]; exact ha))]
  exact z
theorem ev_fz {α : Type} {τ : Ty α} {xs : List α} (h : EvN M ta σ Z H s τ xs s1) : Ev M ta σ Z H s (ty (yList τ) xs) s1 :=
  fun Z1 H1 a b c d Q q => h Z1 H1 a b c d Q fun p vs Z2 H2 e m hp zp h2 t l =>
    q _ _ _ (e.fz hp h2 zp) (Mu.fz m zp (fun hf => (M.al d p hf).1 hp)) ⟨p, vs, rfl, upd_same, t.imp fun _ _ => τ.mono (same_upd zp), l⟩
theorem en_op {α : Type} {τ : Ty α} {xs : List α} {R1 R3 : Rr M.fp} {r : R2} (ha : Ev M ta σ Z H s R1 s1) (hb : Ev M tb σ Z H s1 R3 s2) (h : ∀ Z H v w, Same Z H → R1.r Z H v → R3.r Z H w → ∃ vs, All (τ.r Z) vs xs ∧ xs.length ≤ sizeLine ∧ ∀ Q : VK, (∀ p, H p = none → Q (.ref p) (upd H p (.lst vs))) → r v w H Q) : EvN M (tOp r ta tb) σ Z H s τ xs s2 :=
  fun Z1 H1 a b c d Q q => ha Z1 H1 a b c d _ fun v Z2 H2 e m rv => hb Z2 H2 (a.trans e.z) (b.trans e.h) e.s m _ fun w Z3 H3 e2 m2 rw => by
    obtain ⟨vs, t, l, k⟩ := h Z3 H3 v w e2.s (R1.st e2 rv) rw
    refine k _ fun p hp => ?_
    have e3 := Step.own (o := .lst vs) e2.s hp
    exact q p vs Z3 _ ((e.trans e2).trans e3.pure) (M.pure e3 m2) (same_x (e.trans e2) hp) (same_none e2.s hp) upd_same t l
theorem en_cb {α : Type} {τ : Ty α} {xs : List α} {Rs : Ra M.fp} {r : List V → Hp → VK → Prop} (ha : EvA M t σ Z H s Rs s1) (h : ∀ Z H vs, Same Z H → Rs.r Z H vs → ∃ ws, All (τ.r Z) ws xs ∧ xs.length ≤ sizeLine ∧ ∀ Q : VK, (∀ p, H p = none → Q (.ref p) (upd H p (.lst ws))) → r vs H Q) : EvN M (tCB r t) σ Z H s τ xs s1 :=
  fun Z1 H1 a b c d Q q => ha Z1 H1 a b c d _ fun v Z2 H2 e m rv => by
    obtain ⟨vs, t, l, k⟩ := h Z2 H2 v e.s rv
    refine k _ fun p hp => ?_
    have e3 := Step.own (o := .lst vs) e.s hp
    exact q p vs Z2 _ (e.trans e3.pure) (M.pure e3 m) (same_x e hp) (same_none e.s hp) upd_same t l
theorem en_listD {xs : List α} (ha : EvA M t σ Z H s (ras τ xs) s1) (l : xs.length ≤ sizeLine) : EvN M (tLst t) σ Z H s τ xs s1 :=
  fun Z1 H1 a b c d Q q => ha Z1 H1 a b c d _ fun vs Z2 H2 e m rv => ⟨by rw [All.len rv]; exact l, fun p hp => by
    have e3 := Step.own (o := .lst vs) e.s hp
    exact q p vs Z2 _ (e.trans e3.pure) (M.pure e3 m) (same_x e hp) (same_none e.s hp) upd_same rv l⟩
theorem ev_tupD {xs : List α} (ha : EvA M t σ Z H s (ras τ xs) s1) (l : xs.length ≤ sizeLine) : Ev M (tTup t) σ Z H s (ty (yTup K τ) xs) s1 :=
  ev_tup ha fun Z H vs sz h => ⟨by rw [h.len]; exact l, fun p hp => ⟨p, vs, rfl, sqT_new, h.imp fun _ _ => τ.mono (same_upd (same_none sz hp)), l⟩⟩
/-! ### lists and tuples that are read -/
variable {xs ys : List α}
theorem rdl {fp : List Addr} {Z H : Hp} {v : V} (sz : Same Z H) (h : (li (fp := fp) τ xs).r Z H v) : ∃ p vs, v = .ref p ∧ H p = some (.lst vs) ∧ All (τ.r Z) vs xs ∧ xs.length ≤ sizeLine := by
  obtain ⟨p, vs, e, g, t, l⟩ := h
  exact ⟨p, vs, e, g.get sz, t, l⟩
theorem ev_ixL {i : Int} (ha : Ev M ta σ Z H s (li τ xs) s1) (hb : Ev M tb σ Z H s1 (ty yInt i) s2) (e : atI xs i = some x) : Ev M (tOp (rIxL K) ta tb) σ Z H s (ty τ x) s2 :=
  ev_op ha hb fun _ _ _ _ sz e1 e2 _ q => by
    obtain ⟨p, vs, rfl, g, t, _⟩ := rdl sz e1
    obtain ⟨w, hw, rw'⟩ := t.atI e
    exact ⟨p, vs, i, w, rfl, e2, SqL.of g, hw, q _ _ _ (Step.refl sz) rw'⟩
theorem ev_ixT {i : Int} (ha : Ev M ta σ Z H s (ty (yTup K τ) xs) s1) (hb : Ev M tb σ Z H s1 (ty yInt i) s2) (e : atI xs i = some x) : Ev M (tOp (rIxT K) ta tb) σ Z H s (ty τ x) s2 :=
  ev_op ha hb fun _ _ _ _ sz e1 e2 _ q => by
    obtain ⟨p, vs, rfl, g, t, _⟩ := e1
    obtain ⟨w, hw, rw'⟩ := t.atI e
    exact ⟨p, vs, i, w, rfl, e2, seqT_same sz g, hw, q _ _ _ (Step.refl sz) rw'⟩
/-- a part of a tuple by its written place -/
def PartOf {α' β' : Type} (K : PySem.W.Frag) (τ : Ty α') (i : Int) (τ' : Ty β') (f : α' → β') : Prop := ∀ Z v x, τ.r Z v x → ∃ a vs w, v = .ref a ∧ SqT K Z a vs ∧ atI vs i = some w ∧ τ'.r Z w (f x)
theorem po1_0 : PartOf K (yP1 K τ) 0 τ id := fun _ _ _ ⟨a, v1, e, h, h1⟩ => ⟨a, _, v1, e, h, rfl, h1⟩
theorem po2_0 : PartOf K (yP2 K τ υ) 0 τ Prod.fst := fun _ _ _ ⟨a, v1, v2, e, h, h1, _⟩ => ⟨a, _, v1, e, h, rfl, h1⟩
theorem po2_1 : PartOf K (yP2 K τ υ) 1 υ Prod.snd := fun _ _ _ ⟨a, v1, v2, e, h, _, h1⟩ => ⟨a, _, v2, e, h, rfl, h1⟩
theorem po3_0 : PartOf K (yP3 K τ υ φ) 0 τ (fun x => x.1) := fun _ _ _ ⟨a, v1, v2, v3, e, h, h1, _⟩ => ⟨a, _, v1, e, h, rfl, h1⟩
theorem po3_1 : PartOf K (yP3 K τ υ φ) 1 υ (fun x => x.2.1) := fun _ _ _ ⟨a, v1, v2, v3, e, h, _, h1, _⟩ => ⟨a, _, v2, e, h, rfl, h1⟩
theorem po3_2 : PartOf K (yP3 K τ υ φ) 2 φ (fun x => x.2.2) := fun _ _ _ ⟨a, v1, v2, v3, e, h, _, _, h1⟩ => ⟨a, _, v3, e, h, rfl, h1⟩
theorem po4_0 : PartOf K (yP4 K τ υ φ ψ) 0 τ (fun x => x.1) := fun _ _ _ ⟨a, v1, v2, v3, v4, e, h, h1, _⟩ => ⟨a, _, v1, e, h, rfl, h1⟩
theorem po4_1 : PartOf K (yP4 K τ υ φ ψ) 1 υ (fun x => x.2.1) := fun _ _ _ ⟨a, v1, v2, v3, v4, e, h, _, h1, _⟩ => ⟨a, _, v2, e, h, rfl, h1⟩
theorem po4_2 : PartOf K (yP4 K τ υ φ ψ) 2 φ (fun x => x.2.2.1) := fun _ _ _ ⟨a, v1, v2, v3, v4, e, h, _, _, h1, _⟩ => ⟨a, _, v3, e, h, rfl, h1⟩
theorem po4_3 : PartOf K (yP4 K τ υ φ ψ) 3 ψ (fun x => x.2.2.2) := fun _ _ _ ⟨a, v1, v2, v3, v4, e, h, _, _, _, h1⟩ => ⟨a, _, v4, e, h, rfl, h1⟩
theorem ev_part {i : Int} {f : α → β} (P : PartOf K τ i υ f) (ha : Ev M ta σ Z H s (ty τ x) s1) (hb : Ev M tb σ Z H s1 (ty yInt i) s2) : Ev M (tOp (rIxT K) ta tb) σ Z H s (ty υ (f x)) s2 :=
  ev_op ha hb fun _ _ _ _ sz e1 e2 _ q => by
    obtain ⟨p, vs, w, rfl, g, hw, rw'⟩ := P _ _ _ e1
    exact ⟨p, vs, i, w, rfl, e2, seqT_same sz g, hw, q _ _ _ (Step.refl sz) rw'⟩
theorem ev_len {r : List V → Hp → VK → Prop} (hr : ∀ xs H Q, (∃ p ys, xs = [.ref p] ∧ (SqL K H p ys ∨ SqT K H p ys) ∧ Q (.int ys.length) H) → r xs H Q) (ha : Ev M ta σ Z H s (li τ xs) s1) : Ev M (tCB r (tCons ta tNil)) σ Z H s (ty yInt (xs.length : Nat)) s1 :=
  ev_cb (eva_cons ha eva_nil) fun _ _ _ sz ⟨v, r, e, h, e2⟩ _ q => by
    cases e2; cases e
    obtain ⟨p, vs, rfl, g, t, _⟩ := rdl sz h
    exact hr _ _ _ ⟨p, vs, rfl, .inl (SqL.of g), by rw [t.len]; exact q _ _ _ (Step.refl sz) rfl⟩
theorem ev_lenT {r : List V → Hp → VK → Prop} (hr : ∀ xs H Q, (∃ p ys, xs = [.ref p] ∧ (SqL K H p ys ∨ SqT K H p ys) ∧ Q (.int ys.length) H) → r xs H Q) (ha : Ev M ta σ Z H s (ty (yTup K τ) xs) s1) : Ev M (tCB r (tCons ta tNil)) σ Z H s (ty yInt (xs.length : Nat)) s1 :=
  ev_cb (eva_cons ha eva_nil) fun _ _ _ sz ⟨v, r, e, h, e2⟩ _ q => by
    cases e2; cases e
    obtain ⟨p, vs, rfl, g, t, _⟩ := h
    exact hr _ _ _ ⟨p, vs, rfl, .inr (seqT_same sz g), by rw [t.len]; exact q _ _ _ (Step.refl sz) rfl⟩
theorem en_list_of {r : List V → Hp → VK → Prop} (hr : ∀ xs H Q, (∃ p ys, xs = [.ref p] ∧ (SqL K H p ys ∨ SqT K H p ys) ∧ ∀ l, H l = none → Q (.ref l) (upd H l (.lst ys))) → r xs H Q) (ha : Ev M ta σ Z H s (li τ xs) s1) : EvN M (tCB r (tCons ta tNil)) σ Z H s τ xs s1 :=
  en_cb (eva_cons ha eva_nil) fun _ _ _ sz ⟨v, r, e, h, e2⟩ => by
    cases e2; cases e
    obtain ⟨p, vs, rfl, g, t, l⟩ := rdl sz h
    exact ⟨vs, t, l, fun Q q => hr _ _ _ ⟨p, vs, rfl, .inl (SqL.of g), q⟩⟩
theorem en_list_ofT {r : List V → Hp → VK → Prop} (hr : ∀ xs H Q, (∃ p ys, xs = [.ref p] ∧ (SqL K H p ys ∨ SqT K H p ys) ∧ ∀ l, H l = none → Q (.ref l) (upd H l (.lst ys))) → r xs H Q) (ha : Ev M ta σ Z H s (ty (yTup K τ) xs) s1) : EvN M (tCB r (tCons ta tNil)) σ Z H s τ xs s1 :=
  en_cb (eva_cons ha eva_nil) fun _ _ _ sz ⟨v, r, e, h, e2⟩ => by
    cases e2; cases e
    obtain ⟨p, vs, rfl, g, t, l⟩ := h
    exact ⟨vs, t, l, fun Q q => hr _ _ _ ⟨p, vs, rfl, .inr (seqT_same sz g), q⟩⟩
theorem ev_tuple_of {r : List V → Hp → VK → Prop} (hr : ∀ xs H Q, (∃ p ys, xs = [.ref p] ∧ ((SqL K H p ys ∧ ∀ l, H l = none → Q (.ref l) (upd H l (.tup ys))) ∨ (SqT K H p ys ∧ Q (.ref p) H))) → r xs H Q) (ha : Ev M ta σ Z H s (li τ xs) s1) : Ev M (tCB r (tCons ta tNil)) σ Z H s (ty (yTup K τ) xs) s1 :=
  ev_cb (eva_cons ha eva_nil) fun _ _ _ sz ⟨v, r, e, h, e2⟩ _ q => by
    cases e2; cases e
    obtain ⟨p, vs, rfl, g, t, l⟩ := rdl sz h
    exact hr _ _ _ ⟨p, vs, rfl, .inl ⟨SqL.of g, fun d hd => q _ _ _ (Step.new sz hd) ⟨d, vs, rfl, sqT_new, t.imp fun _ _ => τ.mono (same_upd (same_none sz hd)), l⟩⟩⟩
theorem ev_tuple_ofT {r : List V → Hp → VK → Prop} (hr : ∀ xs H Q, (∃ p ys, xs = [.ref p] ∧ ((SqL K H p ys ∧ ∀ l, H l = none → Q (.ref l) (upd H l (.tup ys))) ∨ (SqT K H p ys ∧ Q (.ref p) H))) → r xs H Q) (ha : Ev M ta σ Z H s (ty (yTup K τ) xs) s1) : Ev M (tCB r (tCons ta tNil)) σ Z H s (ty (yTup K τ) xs) s1 :=
  ev_cb (eva_cons ha eva_nil) fun _ _ _ sz ⟨v, r, e, h, e2⟩ _ q => by
    cases e2; cases e
    obtain ⟨p, vs, rfl, g, t, l⟩ := h
    exact hr _ _ _ ⟨p, vs, rfl, .inr ⟨seqT_same sz g, q _ _ _ (Step.refl sz) ⟨p, vs, rfl, g, t, l⟩⟩⟩
/-- a pair, as a tuple of a pair: itself -/
theorem ev_tuple_id {r : List V → Hp → VK → Prop} (hr : ∀ xs H Q, (∃ p ys, xs = [.ref p] ∧ ((SqL K H p ys ∧ ∀ l, H l = none → Q (.ref l) (upd H l (.tup ys))) ∨ (SqT K H p ys ∧ Q (.ref p) H))) → r xs H Q) (hτ : ∀ Z v x, τ.r Z v x → ∃ p ys, v = .ref p ∧ SqT K Z p ys) (ha : Ev M ta σ Z H s (ty τ x) s1) : Ev M (tCB r (tCons ta tNil)) σ Z H s (ty τ x) s1 :=
  ev_cb (eva_cons ha eva_nil) fun _ _ _ sz ⟨v, r, e, h, e2⟩ _ q => by
    cases e2; cases e
    obtain ⟨p, vs, rfl, g⟩ := hτ _ _ _ h
    exact hr _ _ _ ⟨p, vs, rfl, .inr ⟨seqT_same sz g, q _ _ _ (Step.refl sz) h⟩⟩
theorem it_p2 : ∀ Z v x, (yP2 K τ υ).r Z v x → ∃ p ys, v = .ref p ∧ SqT K Z p ys := fun _ _ _ ⟨a, _, _, e, h, _⟩ => ⟨a, _, e, h⟩
theorem it_p3 : ∀ Z v x, (yP3 K τ υ φ).r Z v x → ∃ p ys, v = .ref p ∧ SqT K Z p ys := fun _ _ _ ⟨a, _, _, _, e, h, _⟩ => ⟨a, _, e, h⟩
theorem en_cat (ha : Ev M ta σ Z H s (li τ xs) s1) (hb : Ev M tb σ Z H s1 (li τ ys) s2) (l : xs.length + ys.length ≤ sizeLine) : EvN M (tOp rCat ta tb) σ Z H s τ (xs ++ ys) s2 :=
  en_op ha hb fun _ _ _ _ sz e1 e2 => by
    obtain ⟨p, vs, rfl, g, t, _⟩ := rdl sz e1
    obtain ⟨p2, ws, rfl, g2, t2, _⟩ := rdl sz e2
    exact ⟨vs ++ ws, t.app t2, by rw [List.length_append]; exact l, fun Q q => ⟨p, p2, vs, ws, rfl, rfl, g, g2, by rw [t.len, t2.len]; exact l, q⟩⟩
end
def cutA {α : Type} (xs : List α) (lo hi : Option Int) : List α := (xs.drop (HT.sIx xs.length 0 lo)).take (HT.sIx xs.length xs.length hi - HT.sIx xs.length 0 lo)
theorem All.cut {α : Type} {R : V → α → Prop} {vs : List V} {xs : List α} (h : All R vs xs) (lo hi : Option Int) : All R (cutV vs lo hi) (cutA xs lo hi) := by
  unfold cutV cutA
  rw [h.len]
  exact (h.drop _).take _
theorem cutA_len {α : Type} (xs : List α) (lo hi : Option Int) : (cutA xs lo hi).length ≤ xs.length := by
  unfold cutA
  rw [List.length_take, List.length_drop]
  omega
def EvO (M : Mu μ) (t : TO) (σ : L2.St) (Z H : Hp) (s : μ) (i : Option Int) (s' : μ) : Prop :=
  ∀ Z1 H1, Same Z Z1 → SameX M.fp H H1 → Same Z1 H1 → M.m s Z1 H1 → ∀ Q : Option Int → Hp → Prop, (∀ Z2 H2, Step M.fp Z1 H1 Z2 H2 → M.m s' Z2 H2 → Q i H2) → t σ H1 Q
theorem eo_none : EvO M tNoPart σ Z H s none s := fun Z1 H1 _ _ c d Q q => q Z1 H1 (Step.refl c) d
theorem eo_some {i : Int} (h : Ev M te σ Z H s (ty yInt i) s1) : EvO M (tPart te) σ Z H s (some i) s1 := fun Z1 H1 a b c d Q q => h Z1 H1 a b c d _ fun v Z2 H2 e m rv => ⟨i, rv, q Z2 H2 e m⟩
theorem ev_slice {r : V → Option Int → Option Int → Hp → VK → Prop} {tl th : TO} {lo hi : Option Int} {R R' : Rr M.fp} (ha : Ev M ta σ Z H s R s1) (hl : EvO M tl σ Z H s1 lo s2) (hh : EvO M th σ Z H s2 hi s3)
    (h : ∀ Z H v, Same Z H → R.r Z H v → ∀ Q : VK, (∀ u Z2 H2, Step [] Z H Z2 H2 → R'.r Z2 H2 u → Q u H2) → r v lo hi H Q) : Ev M (tSl r ta tl th) σ Z H s R' s3 :=
  fun Z1 H1 a b c d Q q => ha Z1 H1 a b c d _ fun v Z2 H2 e m rv => hl Z2 H2 (a.trans e.z) (b.trans e.h) e.s m _ fun Z3 H3 e2 m2 => hh Z3 H3 ((a.trans e.z).trans e2.z) ((b.trans e.h).trans e2.h) e2.s m2 _ fun Z4 H4 e3 m3 =>
    h Z4 H4 v e3.s (R.st e3 (R.st e2 rv)) _ fun u Z5 H5 e4 ru => q u Z5 H5 (((e.trans e2).trans e3).trans e4.pure) (M.pure e4 m3) ru
theorem en_slL {α : Type} {τ : Ty α} {xs : List α} {tl th : TO} {lo hi : Option Int} (ha : Ev M ta σ Z H s (li τ xs) s1) (hl : EvO M tl σ Z H s1 lo s2) (hh : EvO M th σ Z H s2 hi s3) : EvN M (tSl (rSlL K) ta tl th) σ Z H s τ (cutA xs lo hi) s3 :=
  fun Z1 H1 a b c d Q q => ha Z1 H1 a b c d _ fun v Z2 H2 e m rv => hl Z2 H2 (a.trans e.z) (b.trans e.h) e.s m _ fun Z3 H3 e2 m2 => hh Z3 H3 ((a.trans e.z).trans e2.z) ((b.trans e.h).trans e2.h) e2.s m2 _ fun Z4 H4 e3 m3 => by
    obtain ⟨p, vs, rfl, g, t, l⟩ := rdl e3.s ((li τ xs).st e3 ((li τ xs).st e2 rv))
    refine ⟨p, vs, rfl, SqL.of g, fun d hd => ?_⟩
    have e4 := Step.own (o := .lst (cutV vs lo hi)) e3.s hd
    exact q d _ Z4 _ (((e.trans e2).trans e3).trans e4.pure) (M.pure e4 m3) (same_x ((e.trans e2).trans e3) hd) (same_none e3.s hd) upd_same (t.cut lo hi) (Nat.le_trans (cutA_len _ _ _) l)
/-- a tuple's slice: the whole is the tuple itself -/
def rSlW (K : PySem.W.Frag) : V → Option Int → Option Int → Hp → VK → Prop := fun x lo hi H Q => ∃ a xs, x = .ref a ∧ SqT K H a xs ∧
  ((HT.sIx xs.length 0 lo = 0 ∧ HT.sIx xs.length xs.length hi = xs.length) → Q (.ref a) H) ∧ (¬ (HT.sIx xs.length 0 lo = 0 ∧ HT.sIx xs.length xs.length hi = xs.length) → ∀ p, H p = none → Q (.ref p) (upd H p (.tup (cutV xs lo hi))))
theorem ev_slT {α : Type} {τ : Ty α} {xs : List α} {tl th : TO} {lo hi : Option Int} (ha : Ev M ta σ Z H s (ty (yTup K τ) xs) s1) (hl : EvO M tl σ Z H s1 lo s2) (hh : EvO M th σ Z H s2 hi s3) : Ev M (tSl (rSlW K) ta tl th) σ Z H s (ty (yTup K τ) (cutA xs lo hi)) s3 :=
  ev_slice ha hl hh fun _ _ _ sz ⟨p, vs, e, g, t, l⟩ _ q => by
    subst e
    refine ⟨p, vs, rfl, seqT_same sz g, fun w => q _ _ _ (Step.refl sz) ⟨p, vs, rfl, g, ?_, Nat.le_trans (cutA_len _ _ _) l⟩, fun _ d hd => q _ _ _ (Step.new sz hd) ⟨d, _, rfl, sqT_new, (t.cut lo hi).imp fun _ _ => τ.mono (same_upd (same_none sz hd)), Nat.le_trans (cutA_len _ _ _) l⟩⟩
    have c := t.cut lo hi
    have e : cutV vs lo hi = vs := by
      unfold cutV
      rw [w.1, w.2, List.drop_zero, Nat.sub_zero, List.take_length]
    rw [e] at c
    exact c
/-! ### sums and the like -/
theorem ev_sum {xs : List Int} (ha : Ev M ta σ Z H s (li yInt xs) s1) : Ev M (tCB (rSum K) (tCons ta tNil)) σ Z H s (ty yInt xs.sum) s1 :=
  ev_cb (eva_cons ha eva_nil) fun _ _ _ sz ⟨v, r, e, h, e2⟩ _ q => by
    cases e2; cases e
    obtain ⟨p, vs, rfl, g, t, _⟩ := rdl sz h
    rw [t.ints] at g
    exact ⟨p, xs, rfl, SqL.of g, q _ _ _ (Step.refl sz) rfl⟩
theorem ev_anyL {xs : List Bool} (ha : Ev M ta σ Z H s (li yBool xs) s1) : Ev M (tCB (rAny K) (tCons ta tNil)) σ Z H s (ty yBool (xs.any id)) s1 :=
  ev_cb (eva_cons ha eva_nil) fun _ _ _ sz ⟨v, r, e, h, e2⟩ _ q => by
    cases e2; cases e
    obtain ⟨p, vs, rfl, g, t, _⟩ := rdl sz h
    rw [t.bls] at g
    exact ⟨p, xs, rfl, SqL.of g, q _ _ _ (Step.refl sz) rfl⟩
theorem ev_allL {xs : List Bool} (ha : Ev M ta σ Z H s (li yBool xs) s1) : Ev M (tCB (rAll K) (tCons ta tNil)) σ Z H s (ty yBool (xs.all id)) s1 :=
  ev_cb (eva_cons ha eva_nil) fun _ _ _ sz ⟨v, r, e, h, e2⟩ _ q => by
    cases e2; cases e
    obtain ⟨p, vs, rfl, g, t, _⟩ := rdl sz h
    rw [t.bls] at g
    exact ⟨p, xs, rfl, SqL.of g, q _ _ _ (Step.refl sz) rfl⟩
def maxZ : List Int → Option Int
  | [] => none
  | x :: xs => some (xs.foldl max x)
def minZ : List Int → Option Int
  | [] => none
  | x :: xs => some (xs.foldl min x)
theorem foldl_max_of : ∀ (xs : List Int) (x m : Int), m ∈ x :: xs → (∀ y ∈ x :: xs, y ≤ m) → m = xs.foldl max x
  | [], x, m, h, _ => by simpa using h
  | y :: r, x, m, h, g => by
    refine foldl_max_of r (max x y) m ?_ (fun z hz => ?_)
    · have hx := g x (by simp)
      have hy := g y (by simp)
      rcases List.mem_cons.mp h with e | h
      · have : max x y = m := by omega
        rw [this]; exact List.mem_cons_self
      · rcases List.mem_cons.mp h with e | h
        · have : max x y = m := by omega
          rw [this]; exact List.mem_cons_self
        · exact List.mem_cons_of_mem _ h
    · rcases List.mem_cons.mp hz with e | hz
      · have hx := g x (by simp)
        have hy := g y (by simp)
        omega
      · exact g z (by simp [hz])
theorem foldl_min_of : ∀ (xs : List Int) (x m : Int), m ∈ x :: xs → (∀ y ∈ x :: xs, m ≤ y) → m = xs.foldl min x
  | [], x, m, h, _ => by simpa using h
  | y :: r, x, m, h, g => by
    refine foldl_min_of r (min x y) m ?_ (fun z hz => ?_)
    · have hx := g x (by simp)
      have hy := g y (by simp)
      rcases List.mem_cons.mp h with e | h
      · have : min x y = m := by omega
        rw [this]; exact List.mem_cons_self
      · rcases List.mem_cons.mp h with e | h
        · have : min x y = m := by omega
          rw [this]; exact List.mem_cons_self
        · exact List.mem_cons_of_mem _ h
    · rcases List.mem_cons.mp hz with e | hz
      · have hx := g x (by simp)
        have hy := g y (by simp)
        omega
      · exact g z (by simp [hz])
theorem ev_maxL {xs : List Int} {m : Int} (ha : Ev M ta σ Z H s (li yInt xs) s1) (e : maxZ xs = some m) : Ev M (tCB (rMax K) (tCons ta tNil)) σ Z H s (ty yInt m) s1 :=
  ev_cb (eva_cons ha eva_nil) fun _ _ _ sz ⟨v, r, e1, h, e2⟩ _ q => by
    cases e2; cases e1
    obtain ⟨p, vs, rfl, g, t, _⟩ := rdl sz h
    rw [t.ints] at g
    cases xs with
    | nil => cases e
    | cons x r =>
      refine ⟨p, x :: r, rfl, SqL.of g, Nat.succ_pos _, fun n hn hg => q _ _ _ (Step.refl sz) ?_⟩
      rw [foldl_max_of r x n hn hg, ← Option.some.inj (e : some (r.foldl max x) = some m)]
      rfl
theorem ev_minL {xs : List Int} {m : Int} (ha : Ev M ta σ Z H s (li yInt xs) s1) (e : minZ xs = some m) : Ev M (tCB (rMin K) (tCons ta tNil)) σ Z H s (ty yInt m) s1 :=
  ev_cb (eva_cons ha eva_nil) fun _ _ _ sz ⟨v, r, e1, h, e2⟩ _ q => by
    cases e2; cases e1
    obtain ⟨p, vs, rfl, g, t, _⟩ := rdl sz h
    rw [t.ints] at g
    cases xs with
    | nil => cases e
    | cons x r =>
      refine ⟨p, x :: r, rfl, SqL.of g, Nat.succ_pos _, fun n hn hg => q _ _ _ (Step.refl sz) ?_⟩
      rw [foldl_min_of r x n hn hg, ← Option.some.inj (e : some (r.foldl min x) = some m)]
      rfl
theorem ev_max2 {i j : Int} (ha : Ev M ta σ Z H s (ty yInt i) s1) (hb : Ev M tb σ Z H s1 (ty yInt j) s2) : Ev M (tCB (fun xs H Q => ∃ i j, xs = [.int i, .int j] ∧ Q (.int (if j > i then j else i)) H) (tCons ta (tCons tb tNil))) σ Z H s (ty yInt (max i j)) s2 :=
  ev_cb (eva_cons ha (eva_cons hb eva_nil)) fun _ _ _ sz ⟨v, r, e1, h, w, r2, e2, h2, e3⟩ _ q => by
    cases e3; cases e2; cases e1; cases h; cases h2
    refine ⟨i, j, rfl, q _ _ _ (Step.refl sz) ?_⟩
    show V.int _ = V.int _
    by_cases c : j > i
    · rw [if_pos c, Int.max_eq_right (by omega)]
    · rw [if_neg c, Int.max_eq_left (by omega)]
theorem ev_min2 {i j : Int} (ha : Ev M ta σ Z H s (ty yInt i) s1) (hb : Ev M tb σ Z H s1 (ty yInt j) s2) : Ev M (tCB (fun xs H Q => ∃ i j, xs = [.int i, .int j] ∧ Q (.int (if j < i then j else i)) H) (tCons ta (tCons tb tNil))) σ Z H s (ty yInt (min i j)) s2 :=
  ev_cb (eva_cons ha (eva_cons hb eva_nil)) fun _ _ _ sz ⟨v, r, e1, h, w, r2, e2, h2, e3⟩ _ q => by
    cases e3; cases e2; cases e1; cases h; cases h2
    refine ⟨i, j, rfl, q _ _ _ (Step.refl sz) ?_⟩
    show V.int _ = V.int _
    by_cases c : j < i
    · rw [if_pos c, Int.min_eq_right (by omega)]
    · rw [if_neg c, Int.min_eq_left (by omega)]
theorem ev_int_of {i : Int} (ha : Ev M ta σ Z H s (ty yInt i) s1) : Ev M (tCB (fun xs H Q => (∃ i, xs = [.int i] ∧ Q (.int i) H) ∨ ∃ k, xs = [.bl k] ∧ Q (.int (if k then 1 else 0)) H) (tCons ta tNil)) σ Z H s (ty yInt i) s1 :=
  ev_cb (eva_cons ha eva_nil) fun _ _ _ sz ⟨v, r, e1, h, e2⟩ _ q => by
    cases e2; cases e1; cases h
    exact .inl ⟨i, rfl, q _ _ _ (Step.refl sz) rfl⟩
/-! ### in -/
/-- flat, and its equality is the thing's -/
structure FlatI {α : Type} (τ : Ty α) (f : α → V) : Prop where
  flat : Flat τ f
  fl : ∀ x, flatV (f x) = true
  eqv : ∀ x y, eqV (f x) (f y) = true ↔ x = y
theorem fi_int : FlatI yInt V.int := ⟨flat_int, fun _ => rfl, fun x y => by show (x == y) = true ↔ _; exact beq_iff_eq⟩
theorem fi_str : FlatI yStr V.str := ⟨flat_str, fun _ => rfl, fun x y => by show (x == y) = true ↔ _; exact beq_iff_eq⟩
theorem fi_bool : FlatI yBool V.bl := ⟨flat_bool, fun _ => rfl, fun x y => by show (x == y) = true ↔ _; exact beq_iff_eq⟩
section
variable {α : Type} [DecidableEq α] {τ : Ty α} {f : α → V} {x : α} {xs : List α}
theorem inV_map (F : FlatI τ f) : inV (f x) (xs.map f) = decide (x ∈ xs) := by
  unfold inV
  rw [List.any_map]
  apply Bool.eq_iff_iff.mpr
  rw [List.any_eq_true, decide_eq_true_iff]
  constructor
  · rintro ⟨y, hy, e⟩
    rw [← (F.eqv y x).mp e]; exact hy
  · exact fun h => ⟨x, h, (F.eqv x x).mpr rfl⟩
theorem flat_map (F : FlatI τ f) : (xs.map f).all flatV = true := by
  rw [List.all_map]
  exact List.all_eq_true.mpr fun y _ => F.fl y
theorem ev_in (F : FlatI τ f) (ha : Ev M ta σ Z H s (ty τ x) s1) (hb : Ev M tb σ Z H s1 (li τ xs) s2) : Ev M (tOp (rIn K false) ta tb) σ Z H s (ty yBool (decide (x ∈ xs))) s2 :=
  ev_op ha hb fun _ _ _ _ sz e1 e2 _ q => by
    obtain ⟨p, vs, rfl, g, t, _⟩ := rdl sz e2
    have ev := t.map (F.flat.eq _); subst ev
    rw [F.flat.eq _ _ _ e1]
    exact ⟨p, _, rfl, .inl (SqL.of g), F.fl x, flat_map F, q _ _ _ (Step.refl sz) (congrArg V.bl (inV_map F))⟩
theorem ev_notin (F : FlatI τ f) (ha : Ev M ta σ Z H s (ty τ x) s1) (hb : Ev M tb σ Z H s1 (li τ xs) s2) : Ev M (tOp (rIn K true) ta tb) σ Z H s (ty yBool (!decide (x ∈ xs))) s2 :=
  ev_op ha hb fun _ _ _ _ sz e1 e2 _ q => by
    obtain ⟨p, vs, rfl, g, t, _⟩ := rdl sz e2
    have ev := t.map (F.flat.eq _); subst ev
    rw [F.flat.eq _ _ _ e1]
    exact ⟨p, _, rfl, .inl (SqL.of g), F.fl x, flat_map F, q _ _ _ (Step.refl sz) (congrArg (fun b => V.bl (!b)) (inV_map F))⟩
theorem ev_inT (F : FlatI τ f) (ha : Ev M ta σ Z H s (ty τ x) s1) (hb : Ev M tb σ Z H s1 (ty (yTup K τ) xs) s2) : Ev M (tOp (rIn K false) ta tb) σ Z H s (ty yBool (decide (x ∈ xs))) s2 :=
  ev_op ha hb fun _ _ _ _ sz e1 ⟨p, vs, e, g, t, _⟩ _ q => by
    subst e
    have ev := t.map (F.flat.eq _); subst ev
    rw [F.flat.eq _ _ _ e1]
    exact ⟨p, _, rfl, .inr (seqT_same sz g), F.fl x, flat_map F, q _ _ _ (Step.refl sz) (congrArg V.bl (inV_map F))⟩
theorem ev_notinT (F : FlatI τ f) (ha : Ev M ta σ Z H s (ty τ x) s1) (hb : Ev M tb σ Z H s1 (ty (yTup K τ) xs) s2) : Ev M (tOp (rIn K true) ta tb) σ Z H s (ty yBool (!decide (x ∈ xs))) s2 :=
  ev_op ha hb fun _ _ _ _ sz e1 ⟨p, vs, e, g, t, _⟩ _ q => by
    subst e
    have ev := t.map (F.flat.eq _); subst ev
    rw [F.flat.eq _ _ _ e1]
    exact ⟨p, _, rfl, .inr (seqT_same sz g), F.fl x, flat_map F, q _ _ _ (Step.refl sz) (congrArg (fun b => V.bl (!b)) (inV_map F))⟩
end
end
end TP

namespace TP
open PySem PySem.Spec PyProof.Rows L2
section
variable {μ : Type} {M : Mu μ} {σ : L2.St} {Z H : Hp} {s s' s1 s2 s3 : μ} {ta tb tc te : TE} {t : TA} {K : PySem.W.Frag}
/-! ### equality of data -/
structure EqD (K : PySem.W.Frag) {α : Type} (τ : Ty α) (d : α → PyData) (n : Nat) : Prop where
  dp : ∀ Z H v x, Same Z H → τ.r Z v x → Dp K H v (d x)
  lay : ∀ Z v x, τ.r Z v x → (d x).canLay0 = true
  dep : ∀ x, (d x).depth ≤ n
  eqv : ∀ x y, PyData.eqv (d x) (d y) = true ↔ x = y
theorem eqd_int : EqD K yInt PyData.int 0 := ⟨fun _ _ _ x _ h => by cases h; exact .int x, fun _ _ _ _ => rfl, fun _ => Nat.le_refl _, fun x y => by simp [PyData.eqv]⟩
theorem eqd_bool : EqD K yBool PyData.bool 0 := ⟨fun _ _ _ x _ h => by cases h; exact .bl x, fun _ _ _ _ => rfl, fun _ => Nat.le_refl _, fun x y => by simp [PyData.eqv]⟩
theorem eqd_str : EqD K yStr PyData.str 0 := ⟨fun _ _ _ x _ h => by rw [h.1]; exact .str x, fun _ _ x h => by
  have := (Bool.and_eq_true_iff.mp (show (PyData.strOk x && decide (x.length ≤ sizeLine)) = true from h.2)).1
  simpa [PyData.canLay0] using this, fun _ => Nat.le_refl _, fun x y => by simp [PyData.eqv]⟩
theorem eqd_non : EqD K yNon (fun _ => PyData.none) 0 := ⟨fun _ _ _ x _ h => by cases h; exact .non, fun _ _ _ _ => rfl, fun _ => Nat.le_refl _, fun x y => by simp [PyData.eqv]⟩
section
variable {α β γ δ : Type} {τ : Ty α} {υ : Ty β} {φ : Ty γ} {ψ : Ty δ} {d : α → PyData} {e : β → PyData} {f : γ → PyData} {g : δ → PyData} {n m k l : Nat}
theorem EqD.all (E : EqD K τ d n) {Z H : Hp} (sz : Same Z H) : ∀ {vs : List V} {xs : List α}, All (τ.r Z) vs xs → DpAll K H vs (xs.map d)
  | _, _, .nil => .nil
  | _, _, .cons h t => .cons (E.dp _ _ _ _ sz h) (E.all sz t)
theorem EqD.lays (E : EqD K τ d n) {Z : Hp} : ∀ {vs : List V} {xs : List α}, All (τ.r Z) vs xs → PyData.canLayAll0 (xs.map d) = true
  | _, _, .nil => by simp [PyData.canLayAll0]
  | _, _, .cons h t => by
    have h1 := E.lay _ _ _ h
    have h2 := E.lays t
    simp [PyData.canLayAll0, h1, h2]
theorem EqD.deps (E : EqD K τ d n) : ∀ xs : List α, PyData.depthAll (xs.map d) ≤ n
  | [] => by simp [PyData.depthAll]
  | x :: r => by
    have h1 := E.dep x
    have h2 := E.deps r
    simp only [List.map_cons, PyData.depthAll]
    omega
theorem EqD.eqvs (E : EqD K τ d n) : ∀ xs ys : List α, PyData.eqvAll (xs.map d) (ys.map d) = true ↔ xs = ys
  | [], [] => by simp [PyData.eqvAll]
  | [], _ :: _ => by simp [PyData.eqvAll]
  | _ :: _, [] => by simp [PyData.eqvAll]
  | x :: xs, y :: ys => by
    simp only [List.map_cons, PyData.eqvAll, Bool.and_eq_true, E.eqv x y, E.eqvs xs ys, List.cons.injEq]
theorem eqd_list (E : EqD K τ d n) : EqD K (yList τ) (fun xs => .list (xs.map d)) (n + 1) where
  dp := fun Z H v x sz ⟨a, vs, e, h, t, _⟩ => by subst e; exact .lst (SqL.of (sz _ _ h)) (E.all sz t)
  lay := fun Z v x ⟨a, vs, e, h, t, _⟩ => by simpa [PyData.canLay0] using E.lays t
  dep := fun x => by have := E.deps x; simp only [PyData.depth]; omega
  eqv := fun x y => by simp only [PyData.eqv]; exact E.eqvs x y
theorem eqd_tup (E : EqD K τ d n) : EqD K (yTup K τ) (fun xs => .tuple (xs.map d)) (n + 1) where
  dp := fun Z H v x sz ⟨a, vs, e, h, t, _⟩ => by subst e; exact .tup (seqT_same sz h) (E.all sz t)
  lay := fun Z v x ⟨a, vs, e, h, t, _⟩ => by simpa [PyData.canLay0] using E.lays t
  dep := fun x => by have := E.deps x; simp only [PyData.depth]; omega
  eqv := fun x y => by simp only [PyData.eqv]; exact E.eqvs x y
theorem eqd_p1 (E : EqD K τ d n) : EqD K (yP1 K τ) (fun x => .tuple [d x]) (n + 1) where
  dp := fun Z H v x sz ⟨a, v1, e, h, h1⟩ => by subst e; exact .tup (seqT_same sz h) (.cons (E.dp _ _ _ _ sz h1) .nil)
  lay := fun Z v x ⟨a, v1, e, h, h1⟩ => by simp [PyData.canLay0, PyData.canLayAll0, E.lay _ _ _ h1]
  dep := fun x => by have := E.dep x; simp only [PyData.depth, PyData.depthAll]; omega
  eqv := fun x y => by simp only [PyData.eqv, PyData.eqvAll, Bool.and_true]; exact E.eqv x y
theorem eqd_p2 (E : EqD K τ d n) (F : EqD K υ e m) : EqD K (yP2 K τ υ) (fun x => .tuple [d x.1, e x.2]) (max n m + 1) where
  dp := fun Z H v x sz ⟨a, v1, v2, e, h, h1, h2⟩ => by subst e; exact .tup (seqT_same sz h) (.cons (E.dp _ _ _ _ sz h1) (.cons (F.dp _ _ _ _ sz h2) .nil))
  lay := fun Z v x ⟨a, v1, v2, e, h, h1, h2⟩ => by simp [PyData.canLay0, PyData.canLayAll0, E.lay _ _ _ h1, F.lay _ _ _ h2]
  dep := fun x => by have := E.dep x.1; have := F.dep x.2; simp only [PyData.depth, PyData.depthAll]; omega
  eqv := fun x y => by
    simp only [PyData.eqv, PyData.eqvAll, Bool.and_true, Bool.and_eq_true, E.eqv, F.eqv]
    exact Prod.ext_iff.symm
theorem eqd_p3 (E : EqD K τ d n) (F : EqD K υ e m) (G : EqD K φ f k) : EqD K (yP3 K τ υ φ) (fun x => .tuple [d x.1, e x.2.1, f x.2.2]) (max n (max m k) + 1) where
  dp := fun Z H v x sz ⟨a, v1, v2, v3, e, h, h1, h2, h3⟩ => by subst e; exact .tup (seqT_same sz h) (.cons (E.dp _ _ _ _ sz h1) (.cons (F.dp _ _ _ _ sz h2) (.cons (G.dp _ _ _ _ sz h3) .nil)))
  lay := fun Z v x ⟨a, v1, v2, v3, e, h, h1, h2, h3⟩ => by simp [PyData.canLay0, PyData.canLayAll0, E.lay _ _ _ h1, F.lay _ _ _ h2, G.lay _ _ _ h3]
  dep := fun x => by have := E.dep x.1; have := F.dep x.2.1; have := G.dep x.2.2; simp only [PyData.depth, PyData.depthAll]; omega
  eqv := fun x y => by
    simp only [PyData.eqv, PyData.eqvAll, Bool.and_true, Bool.and_eq_true, E.eqv, F.eqv, G.eqv]
    rw [Prod.ext_iff, Prod.ext_iff]
theorem eqd_p4 (E : EqD K τ d n) (F : EqD K υ e m) (G : EqD K φ f k) (I : EqD K ψ g l) : EqD K (yP4 K τ υ φ ψ) (fun x => .tuple [d x.1, e x.2.1, f x.2.2.1, g x.2.2.2]) (max n (max m (max k l)) + 1) where
  dp := fun Z H v x sz ⟨a, v1, v2, v3, v4, e, h, h1, h2, h3, h4⟩ => by subst e; exact .tup (seqT_same sz h) (.cons (E.dp _ _ _ _ sz h1) (.cons (F.dp _ _ _ _ sz h2) (.cons (G.dp _ _ _ _ sz h3) (.cons (I.dp _ _ _ _ sz h4) .nil))))
  lay := fun Z v x ⟨a, v1, v2, v3, v4, e, h, h1, h2, h3, h4⟩ => by simp [PyData.canLay0, PyData.canLayAll0, E.lay _ _ _ h1, F.lay _ _ _ h2, G.lay _ _ _ h3, I.lay _ _ _ h4]
  dep := fun x => by have := E.dep x.1; have := F.dep x.2.1; have := G.dep x.2.2.1; have := I.dep x.2.2.2; simp only [PyData.depth, PyData.depthAll]; omega
  eqv := fun x y => by
    simp only [PyData.eqv, PyData.eqvAll, Bool.and_true, Bool.and_eq_true, E.eqv, F.eqv, G.eqv, I.eqv]
    rw [Prod.ext_iff, Prod.ext_iff, Prod.ext_iff]
def optD (d : α → PyData) : Option α → PyData
  | none => .none
  | some x => d x
theorem eqv_none : ∀ c : PyData, PyData.eqv .none c = true ↔ c = .none
  | .none => by simp [PyData.eqv]
  | .bool _ => by simp [PyData.eqv]
  | .int _ => by simp [PyData.eqv]
  | .str _ => by simp [PyData.eqv]
  | .list _ => by simp [PyData.eqv]
  | .tuple _ => by simp [PyData.eqv]
  | .dict _ => by simp [PyData.eqv]
theorem none_eqv : ∀ c : PyData, PyData.eqv c .none = true ↔ c = .none
  | .none => by simp [PyData.eqv]
  | .bool _ => by simp [PyData.eqv]
  | .int _ => by simp [PyData.eqv]
  | .str _ => by simp [PyData.eqv]
  | .list _ => by simp [PyData.eqv]
  | .tuple _ => by simp [PyData.eqv]
  | .dict _ => by simp [PyData.eqv]
theorem eqd_opt (E : EqD K τ d n) (nn : ∀ x, d x ≠ .none) : EqD K (yOpt τ) (optD d) n where
  dp := fun Z H v x sz h => match x, h with
    | none, h => by rw [show v = .non from h]; exact .non
    | some x, h => E.dp _ _ _ _ sz h.1
  lay := fun Z v x h => match x, h with
    | none, h => rfl
    | some x, h => E.lay _ _ _ h.1
  dep := fun x => match x with
    | none => Nat.zero_le _
    | some x => E.dep x
  eqv := fun x y => match x, y with
    | none, none => by simp [optD, PyData.eqv]
    | none, some y => by simp [optD, eqv_none, nn y]
    | some x, none => by simp [optD, none_eqv, nn x]
    | some x, some y => by simp [optD, E.eqv x y]
end
/-- the value is read as the data d -/
def GD {fp : List Addr} (K : PySem.W.Frag) (R : Rr fp) (d : PyData) : Prop := ∀ Z H v, Same Z H → R.r Z H v → Dp K H v d ∧ d.canLay0 = true
theorem EqD.gd {fp : List Addr} {α : Type} {τ : Ty α} {d : α → PyData} {n : Nat} (E : EqD K τ d n) (x : α) : GD K (ty (fp := fp) τ x) (d x) := fun _ _ _ sz h => ⟨E.dp _ _ _ _ sz h, E.lay _ _ _ h⟩
theorem EqD.gdl {fp : List Addr} {α : Type} {τ : Ty α} {d : α → PyData} {n : Nat} (E : EqD K τ d n) (xs : List α) : GD K (li (fp := fp) τ xs) (.list (xs.map d)) := fun _ _ _ sz h => by
  obtain ⟨p, vs, rfl, g, t, _⟩ := rdl sz h
  exact ⟨.lst (SqL.of g) (E.all sz t), by simpa [PyData.canLay0] using E.lays t⟩
theorem shaped_of {d : PyData} {n : Nat} (h : d.canLay0 = true) (l : d.depth ≤ n) (hn : n ≤ 64) : SeqAt.shaped d = true := by
  unfold SeqAt.shaped
  rw [h, Bool.true_and]
  exact decide_eq_true (by omega)
theorem ev_eqG {R R' : Rr M.fp} {c c' : PyData} {P : Prop} [Decidable P] (hc : PyData.eqv c c' = true ↔ P) (G : GD K R c) (G' : GD K R' c') (l : c.depth ≤ 64) (l' : c'.depth ≤ 64) (ha : Ev M ta σ Z H s R s1) (hb : Ev M tb σ Z H s1 R' s2) : Ev M (tOp (rEqD K) ta tb) σ Z H s (ty yBool (decide P)) s2 :=
  ev_op ha hb fun _ _ _ _ sz e1 e2 _ q => by
    obtain ⟨d1, k1⟩ := G _ _ _ sz e1
    obtain ⟨d2, k2⟩ := G' _ _ _ sz e2
    exact ⟨c, c', d1, d2, shaped_of k1 l (Nat.le_refl _), shaped_of k2 l' (Nat.le_refl _), q _ _ _ (Step.refl sz) (congrArg V.bl (Bool.eq_iff_iff.mpr (hc.trans decide_eq_true_iff.symm)))⟩
theorem ev_neG {R R' : Rr M.fp} {c c' : PyData} {P : Prop} [Decidable P] (hc : PyData.eqv c c' = true ↔ P) (G : GD K R c) (G' : GD K R' c') (l : c.depth ≤ 64) (l' : c'.depth ≤ 64) (ha : Ev M ta σ Z H s R s1) (hb : Ev M tb σ Z H s1 R' s2) : Ev M (tOp (rNeD K) ta tb) σ Z H s (ty yBool (!decide P)) s2 :=
  ev_op ha hb fun _ _ _ _ sz e1 e2 _ q => by
    obtain ⟨d1, k1⟩ := G _ _ _ sz e1
    obtain ⟨d2, k2⟩ := G' _ _ _ sz e2
    exact ⟨c, c', d1, d2, shaped_of k1 l (Nat.le_refl _), shaped_of k2 l' (Nat.le_refl _), q _ _ _ (Step.refl sz) (congrArg (fun b => V.bl (!b)) (Bool.eq_iff_iff.mpr (hc.trans decide_eq_true_iff.symm)))⟩
section
variable {α : Type} [DecidableEq α] {τ : Ty α} {d : α → PyData} {n : Nat} {x y : α} {xs ys : List α}
theorem ev_eqD (E : EqD K τ d n) (hn : n ≤ 64) (ha : Ev M ta σ Z H s (ty τ x) s1) (hb : Ev M tb σ Z H s1 (ty τ y) s2) : Ev M (tOp (rEqD K) ta tb) σ Z H s (ty yBool (decide (x = y))) s2 :=
  ev_eqG (E.eqv x y) (E.gd x) (E.gd y) (Nat.le_trans (E.dep x) hn) (Nat.le_trans (E.dep y) hn) ha hb
theorem ev_neD (E : EqD K τ d n) (hn : n ≤ 64) (ha : Ev M ta σ Z H s (ty τ x) s1) (hb : Ev M tb σ Z H s1 (ty τ y) s2) : Ev M (tOp (rNeD K) ta tb) σ Z H s (ty yBool (!decide (x = y))) s2 :=
  ev_neG (E.eqv x y) (E.gd x) (E.gd y) (Nat.le_trans (E.dep x) hn) (Nat.le_trans (E.dep y) hn) ha hb
theorem depL (E : EqD K τ d n) (hn : n + 1 ≤ 64) : (PyData.list (xs.map d)).depth ≤ 64 := by have := E.deps xs; simp only [PyData.depth]; omega
theorem ev_eqL (E : EqD K τ d n) (hn : n + 1 ≤ 64) (ha : Ev M ta σ Z H s (li τ xs) s1) (hb : Ev M tb σ Z H s1 (li τ ys) s2) : Ev M (tOp (rEqD K) ta tb) σ Z H s (ty yBool (decide (xs = ys))) s2 :=
  ev_eqG (by simp only [PyData.eqv]; exact E.eqvs xs ys) (E.gdl xs) (E.gdl ys) (depL E hn) (depL E hn) ha hb
theorem ev_neL (E : EqD K τ d n) (hn : n + 1 ≤ 64) (ha : Ev M ta σ Z H s (li τ xs) s1) (hb : Ev M tb σ Z H s1 (li τ ys) s2) : Ev M (tOp (rNeD K) ta tb) σ Z H s (ty yBool (!decide (xs = ys))) s2 :=
  ev_neG (by simp only [PyData.eqv]; exact E.eqvs xs ys) (E.gdl xs) (E.gdl ys) (depL E hn) (depL E hn) ha hb
end
theorem en_cast {α : Type} {τ : Ty α} {xs ys : List α} (h : EvN M te σ Z H s τ xs s1) (e : xs = ys) : EvN M te σ Z H s τ ys s1 := e ▸ h
theorem ev_chain {i j k : Int} {p r : Int → Int → Bool} (ha : Ev M ta σ Z H s (ty yInt i) s1) (hb : Ev M tb σ Z H s1 (ty yInt j) s1) (hc : Ev M tc σ Z H s1 (ty yInt k) s1) : Ev M (tChain (rI0 fun i j => .bl (p i j)) (rI0 fun i j => .bl (r i j)) ta tb tc) σ Z H s (ty yBool (p i j && r j k)) s1 :=
  fun Z1 H1 a b c d Q q => ha Z1 H1 a b c d _ fun v Z2 H2 e m rv => hb Z2 H2 (a.trans e.z) (b.trans e.h) e.s m _ fun w Z3 H3 e2 m2 rw => ⟨i, j, rv, rw, p i j, rfl, by
    have e3 := e.trans e2
    cases hp : p i j with
    | true => rw [if_pos rfl]; exact hc Z3 H3 (a.trans e3.z) (b.trans e3.h) e3.s m2 _ fun u Z4 H4 e4 m4 ru => ⟨j, k, rw, ru, q _ Z4 H4 (e3.trans e4) m4 (by rw [hp]; rfl)⟩
    | false => rw [if_neg Bool.false_ne_true]; exact q _ Z3 H3 e3 m2 (by rw [hp]; rfl)⟩
theorem ev_chainO {i j k : Int} {b : Bool} {o : Option Bool} {p r : Int → Int → Bool} (ha : Ev M ta σ Z H s (ty yInt i) s1) (hb : Ev M tb σ Z H s1 (ty yInt j) s1) (hc : p i j = true → Ev M tc σ Z H s1 (ty yInt k) s1) : Ev M (tChain (rI0 fun i j => .bl (p i j)) (rI0 fun i j => .bl (r i j)) ta tb tc) σ Z H s (ty yBool (p i j && r j k)) s1 :=
  fun Z1 H1 a b c d Q q => ha Z1 H1 a b c d _ fun v Z2 H2 e m rv => hb Z2 H2 (a.trans e.z) (b.trans e.h) e.s m _ fun w Z3 H3 e2 m2 rw => ⟨i, j, rv, rw, p i j, rfl, by
    have e3 := e.trans e2
    cases hp : p i j with
    | true => rw [if_pos rfl]; exact hc hp Z3 H3 (a.trans e3.z) (b.trans e3.h) e3.s m2 _ fun u Z4 H4 e4 m4 ru => ⟨j, k, rw, ru, q _ Z4 H4 (e3.trans e4) m4 (by rw [hp]; rfl)⟩
    | false => rw [if_neg Bool.false_ne_true]; exact q _ Z3 H3 e3 m2 (by rw [hp]; rfl)⟩
section
variable {a b : Bool} {o o' : Option Bool} {tA tB' tt : TT}
theorem ev_andO (ha : Ev M ta σ Z H s (ty yBool a) s1) (hb : a = true → ∀ y, o = some y → Ev M tb σ Z H s1 (ty yBool y) s1) (h : (if a = true then o else some false) = some b) : Ev M (tAndV ta tb) σ Z H s (ty yBool b) s1 :=
  ev_and (o := o.map fun y => (y, s1)) ha (fun e y s' hy => by obtain ⟨z, hz, e2⟩ := Option.map_eq_some_iff.mp hy; cases e2; exact hb e _ hz) (by
    cases a with
    | true => rw [if_pos rfl] at h ⊢; rw [h]; rfl
    | false => rw [if_neg Bool.false_ne_true] at h ⊢; rw [← Option.some.inj h])
theorem ev_orO (ha : Ev M ta σ Z H s (ty yBool a) s1) (hb : a = false → ∀ y, o = some y → Ev M tb σ Z H s1 (ty yBool y) s1) (h : (if a = true then some true else o) = some b) : Ev M (tOrV ta tb) σ Z H s (ty yBool b) s1 :=
  ev_or (o := o.map fun y => (y, s1)) ha (fun e y s' hy => by obtain ⟨z, hz, e2⟩ := Option.map_eq_some_iff.mp hy; cases e2; exact hb e _ hz) (by
    cases a with
    | false => rw [if_neg Bool.false_ne_true] at h ⊢; rw [h]; rfl
    | true => rw [if_pos rfl] at h ⊢; rw [← Option.some.inj h])
theorem et_andO (ha : EvT M tA σ Z H s a s1) (hb : a = true → ∀ y, o = some y → EvT M tB' σ Z H s1 y s1) (h : (if a = true then o else some false) = some b) : EvT M (tAnd tA tB') σ Z H s b s1 :=
  et_and (o := o.map fun y => (y, s1)) ha (fun e y s' hy => by obtain ⟨z, hz, e2⟩ := Option.map_eq_some_iff.mp hy; cases e2; exact hb e _ hz) (by
    cases a with
    | true => rw [if_pos rfl] at h ⊢; rw [h]; rfl
    | false => rw [if_neg Bool.false_ne_true] at h ⊢; rw [← Option.some.inj h])
theorem et_orO (ha : EvT M tA σ Z H s a s1) (hb : a = false → ∀ y, o = some y → EvT M tB' σ Z H s1 y s1) (h : (if a = true then some true else o) = some b) : EvT M (tOr tA tB') σ Z H s b s1 :=
  et_or (o := o.map fun y => (y, s1)) ha (fun e y s' hy => by obtain ⟨z, hz, e2⟩ := Option.map_eq_some_iff.mp hy; cases e2; exact hb e _ hz) (by
    cases a with
    | false => rw [if_neg Bool.false_ne_true] at h ⊢; rw [h]; rfl
    | true => rw [if_pos rfl] at h ⊢; rw [← Option.some.inj h])
end
/-! ### fields, calls -/
/-- the attribute f of things of this kind -/
def FldOf {α β : Type} (τ : Ty α) (C : Addr) (f : Str) (υ : Ty β) (pr : α → β) : Prop := ∀ Z v x, τ.r Z v x → ∃ a dx fs w, v = .ref a ∧ Z a = some (.ins C dx fs) ∧ fs.lookup f = some w ∧ υ.r Z w (pr x)
theorem ev_fld {α β : Type} {τ : Ty α} {υ : Ty β} {C : Addr} {f : Str} {pr : α → β} {x : α} (F : FldOf τ C f υ pr) (c : Cls K C) (n : NoAttr K C f) (ha : Ev M ta σ Z H s (ty τ x) s1) : Ev M (tFld K ta f) σ Z H s (ty υ (pr x)) s1 :=
  fun Z1 H1 a b c' d Q q => ha Z1 H1 a b c' d _ fun v Z2 H2 e m rv => by
    obtain ⟨p, dx, fs, w, rfl, hp, l, rw'⟩ := F _ _ _ rv
    exact ⟨p, C, dx, fs, w, rfl, e.s _ _ hp, c, n, l, q _ _ _ e m rw'⟩
/-- things of this kind are instances of the class at C without an own attribute m -/
def ObjOf {α : Type} (τ : Ty α) (C : Addr) (m : Str) : Prop := ∀ Z v x, τ.r Z v x → ∃ a dx fs, v = .ref a ∧ Z a = some (.ins C dx fs) ∧ fs.lookup m = none
/-- what a promise gives for arguments of which Rs is true -/
def CallS (M : Mu μ) (sp : Sp) (E : XK) (Rs : Ra M.fp) (s : μ) (R : Rr M.fp) (s' : μ) : Prop :=
  ∀ Z H vs, Same Z H → M.m s Z H → Rs.r Z H vs → ∀ Q : VK, (∀ v Z2 H2, Step M.fp Z H Z2 H2 → M.m s' Z2 H2 → R.r Z2 H2 v → Q v H2) → sp vs H Q E
theorem ev_call {sp : Sp} {E : XK} {Rs : Ra M.fp} {R : Rr M.fp} (C : CallS M sp E Rs s1 R s2) (ha : EvA M t σ Z H s Rs s1) : Ev M (tCall sp [] E t) σ Z H s R s2 :=
  fun Z1 H1 a b c d Q q => ha Z1 H1 a b c d _ fun vs Z2 H2 e m rs => by
    rw [List.append_nil]
    exact C Z2 H2 vs e.s m rs Q fun v Z3 H3 e2 m2 rv => q v Z3 H3 (e.trans e2) m2 rv
theorem ev_meth {α : Type} {τ : Ty α} {x : α} {C' : Addr} {m : Str} {sp : Sp} {E : XK} {Rs : Ra M.fp} {R : Rr M.fp} (O : ObjOf τ C' m) (C : CallS M sp E (rac (ty τ x) Rs) s2 R s3) (hx : Ev M ta σ Z H s (ty τ x) s1) (ha : EvA M t σ Z H s1 Rs s2) : Ev M (tMeth C' m sp [] E ta t) σ Z H s R s3 :=
  fun Z1 H1 a b c d Q q => hx Z1 H1 a b c d _ fun v Z2 H2 e mm rv => by
    obtain ⟨p, dx, fs, rfl, hp, l⟩ := O _ _ _ rv
    refine ⟨p, dx, fs, rfl, e.s _ _ hp, l, ha Z2 H2 (a.trans e.z) (b.trans e.h) e.s mm _ fun vs Z3 H3 e2 m2 rs => ?_⟩
    rw [List.append_nil]
    exact C Z3 H3 _ e2.s m2 ⟨_, vs, rfl, τ.mono e2.z rv, rs⟩ Q fun v Z4 H4 e3 m3 rv' => q v Z4 H4 ((e.trans e2).trans e3) m3 rv'
theorem ev_meth0 {α : Type} {τ : Ty α} {x : α} {C' : Addr} {m : Str} {sp : Sp} {E : XK} {R : Rr M.fp} (O : ObjOf τ C' m) (C : CallS M sp E (rac (ty τ x) ra0) s1 R s2) (hx : Ev M ta σ Z H s (ty τ x) s1) : Ev M (tMeth C' m sp [] E ta tNil) σ Z H s R s2 := ev_meth O C hx eva_nil
theorem ev_prop {α : Type} {τ : Ty α} {x : α} {C' : Addr} {m : Str} {sp : Sp} {E : XK} {R : Rr M.fp} (O : ObjOf τ C' m) (C : CallS M sp E (rac (ty τ x) ra0) s1 R s2) (hx : Ev M ta σ Z H s (ty τ x) s1) : Ev M (tProp C' sp [] E ta) σ Z H s R s2 :=
  fun Z1 H1 a b c d Q q => hx Z1 H1 a b c d _ fun v Z2 H2 e mm rv => by
    obtain ⟨p, dx, fs, rfl, hp, l⟩ := O _ _ _ rv
    exact ⟨p, dx, fs, rfl, e.s _ _ hp, C Z2 H2 _ e.s mm ⟨_, [], rfl, rv, rfl⟩ Q fun v Z4 H4 e3 m3 rv' => q v Z4 H4 (e.trans e3) m3 rv'⟩
/-- what the __init__ of the class at C makes of a new instance: a thing of which R is true -/
def InitS (M : Mu μ) (C : Addr) (sp : Sp) (E : XK) (Rs : Ra M.fp) (s : μ) (R : Rr M.fp) (s' : μ) : Prop :=
  ∀ Z H vs x dx, Same Z H → M.m s Z H → Rs.r Z H vs → H x = some (.ins C dx []) → Z x = none → x ∉ M.fp → ∀ Q : VK, (∀ Z2 H2 o, Step (x :: M.fp) Z H Z2 H2 → M.m s' Z2 H2 → H2 x = some o → R.r (upd Z2 x o) H2 (.ref x) → Q .non H2) → sp (.ref x :: vs) H Q E
theorem Step.dict {Z H : Hp} {x dx C : Addr} (sz : Same Z H) (hx : H x = none) (hd : H dx = none) (ne : dx ≠ x) : Step [] Z H Z (upd (upd H dx (.own x)) x (.ins C dx [])) :=
  (Step.own sz hd).trans (Step.own (Step.own sz hd).s (by rw [upd_ne ne.symm]; exact hx))
theorem Step.freeze {S : List Addr} {Z H Z1 H1 : Hp} {x : Addr} {o : HO} (g : Step (x :: S) Z H Z1 H1) (hx : H x = none) (h1 : H1 x = some o) (hz : Z1 x = none) : Step S Z H (upd Z1 x o) H1 := by
  have g' : Step S Z H Z1 H1 := g.weak fun a h => by
    rcases List.mem_cons.mp h with e | h
    · exact .inr (e ▸ hx)
    · exact .inl h
  refine ⟨g'.z.trans (same_upd hz), fun a u e => ?_, g'.h, fun a h z => ?_, g'.al⟩
  · by_cases q : a = x
    · subst q; rw [upd_same] at e; rw [← Option.some.inj e]; exact h1
    · rw [upd_ne q] at e; exact g'.s a u e
  · rw [upd_ne (ne_of_some h hx)]; exact g'.n a h z
theorem ev_make {C : Addr} {sp : Sp} {E : XK} {Rs : Ra M.fp} {R : Rr M.fp} (I : InitS M C sp E Rs s1 R s2) (ha : EvA M t σ Z H s Rs s1) : Ev M (tMake C sp [] E t) σ Z H s R s2 :=
  fun Z1 H1 a b c d Q q => ha Z1 H1 a b c d _ fun vs Z2 H2 e m rs x dx hx hd ne => by
    rw [List.append_nil]
    have st := Step.dict (C := C) e.s hx hd ne
    have nf : x ∉ M.fp := fun h => (M.al m x h).1 hx
    refine I Z2 _ vs x dx st.s (M.pure st m) (Rs.st st.pure rs) upd_same (same_none e.s hx) nf _ fun Z3 H3 o e2 m2 ho rv => ⟨rfl, ?_⟩
    have hz3 : Z3 x = none := e2.n x (by rw [upd_same]; exact fun z => nomatch z) (same_none e.s hx)
    have e3 : Step M.fp Z2 H2 (upd Z3 x o) H3 := ((st.pure (S := x :: M.fp)).trans e2).freeze hx ho hz3
    refine q _ _ _ (e.trans e3) (M.loc (same_upd hz3) (fun _ _ _ e => e) (fun a ha _ z => ?_) m2) rv
    rw [upd_ne (fun q => nf (by rw [← q]; exact ha))]
    exact z
theorem ev_makeK {C : Addr} {n k : Nat} {sp : Sp} {E : XK} {Rs Rk Rs' : Ra M.fp} {R : Rr M.fp} {gV : List V → List V → List V} {tk : TA} (I : InitS M C sp E Rs' s2 R s3) (ha : EvA M t σ Z H s Rs s1) (hk : EvA M tk σ Z H s1 Rk s2)
    (hg : ∀ Z H vs zs x, Rs.r Z H vs → Rk.r Z H zs → vs.length = n ∧ zs.length = k ∧ ∃ ws, gV (.ref x :: vs) zs = .ref x :: ws ∧ Rs'.r Z H ws) : Ev M (tMakeK C n k sp gV E t tk) σ Z H s R s3 :=
  fun Z1 H1 a b c d Q q => ha Z1 H1 a b c d _ fun vs Z2 H2 e m rs => hk Z2 H2 (a.trans e.z) (b.trans e.h) e.s m _ fun zs Z3 H3 e1 m1 rk => by
    have rs3 := Rs.st e1 rs
    obtain ⟨l1, l2, _⟩ := hg Z3 H3 vs zs 0 rs3 rk
    refine ⟨l1, l2, fun x dx hx hd ne => ?_⟩
    obtain ⟨_, _, ws, eg, rw'⟩ := hg Z3 H3 vs zs x rs3 rk
    rw [eg]
    have st := Step.dict (C := C) e1.s hx hd ne
    have nf : x ∉ M.fp := fun h => (M.al m1 x h).1 hx
    refine I Z3 _ ws x dx st.s (M.pure st m1) (Rs'.st st.pure rw') upd_same (same_none e1.s hx) nf _ fun Z4 H4 o e2 m2 ho rv => ⟨rfl, ?_⟩
    have hz3 : Z4 x = none := e2.n x (by rw [upd_same]; exact fun z => nomatch z) (same_none e1.s hx)
    have e3 : Step M.fp Z3 H3 (upd Z4 x o) H4 := ((st.pure (S := x :: M.fp)).trans e2).freeze hx ho hz3
    refine q _ _ _ ((e.trans e1).trans e3) (M.loc (same_upd hz3) (fun _ _ _ e => e) (fun a ha _ z => ?_) m2) rv
    rw [upd_ne (fun q => nf (by rw [← q]; exact ha))]
    exact z
/-! ### what is walked -/
/-- the things xs, of the kind τ, one after the other; what stands at F may change meanwhile -/
def WalkT {α : Type} (X : Hp → Hp → Prop) (J : It) (Z H : Hp) (τ : Ty α) (xs : List α) : Prop := xs.length ≤ sizeLine ∧ ∃ G Y, Walk J xs.length G Y ∧ (∀ Z' H', Same Z Z' → Same Z' H' → X H H' → G H') ∧
  ∀ i Z' H' v H'', i < xs.length → Same Z Z' → Same Z' H' → G H' → Y i H' v H'' → ∃ Z'' x, xs[i]? = some x ∧ Step [] Z' H' Z'' H'' ∧ τ.r Z'' v x
def EvI {α : Type} (M : Mu μ) (X : Hp → Hp → Prop) (wi : TI) (σ : L2.St) (Z H : Hp) (s : μ) (τ : Ty α) (xs : List α) (s' : μ) : Prop :=
  ∀ Z1 H1, Same Z Z1 → SameX M.fp H H1 → Same Z1 H1 → M.m s Z1 H1 → ∀ R : It → Hp → Prop, (∀ J Z2 H2, Step M.fp Z1 H1 Z2 H2 → M.m s' Z2 H2 → WalkT X J Z2 H2 τ xs → R J H2) → wi σ H1 R
section
variable {α β : Type} {τ : Ty α} {υ : Ty β} {xs : List α} {X : Hp → Hp → Prop}
theorem walk_at {J : It} {vs : List V} {G : Hp → Prop} (w : Walk J vs.length G (YAt vs)) {Z H : Hp} (hG : ∀ Z' H', Same Z Z' → Same Z' H' → X H H' → G H') (t : All (τ.r Z) vs xs) (l : xs.length ≤ sizeLine) : WalkT X J Z H τ xs := by
  refine ⟨l, G, YAt vs, by rw [← t.len]; exact w, hG, fun i Z' H' v H'' hi z sz _ y => ?_⟩
  obtain ⟨e, y⟩ := y
  subst e
  obtain ⟨x, ex, rx⟩ := t.get y
  exact ⟨Z', x, ex, Step.refl sz, τ.mono z rx⟩
theorem ei_list (ha : Ev M ta σ Z H s (ty (yList τ) xs) s1) : EvI M X (iList K ta) σ Z H s τ xs s1 :=
  fun Z1 H1 a b c d R q => ha Z1 H1 a b c d _ fun v Z2 H2 e m ⟨p, vs, ev, h, t, l⟩ => by
    subst ev
    exact ⟨p, rfl, ⟨vs, SqL.of (e.s _ _ h)⟩, q _ Z2 H2 e m (walk_at walk_list (fun Z' H' z sz _ => SqL.of (sz _ _ (z _ _ h))) t l)⟩
theorem ei_own (ha : Ev M ta σ Z H s (li τ xs) s1) : EvI M (SameX M.fp) (iList K ta) σ Z H s τ xs s1 :=
  fun Z1 H1 a b c d R q => ha Z1 H1 a b c d _ fun v Z2 H2 e m ⟨p, vs, ev, h, t, l⟩ => by
    subst ev
    refine ⟨p, rfl, ⟨vs, SqL.of (h.get e.s)⟩, q _ Z2 H2 e m (walk_at walk_list (fun Z' H' z sz x => ?_) t l)⟩
    rcases h with h | h
    · exact SqL.of (sz _ _ (z _ _ h))
    · exact SqL.of (x _ _ h.2 h.1)
theorem ei_tup (ha : Ev M ta σ Z H s (ty (yTup K τ) xs) s1) : EvI M X (iTup K ta) σ Z H s τ xs s1 :=
  fun Z1 H1 a b c d R q => ha Z1 H1 a b c d _ fun v Z2 H2 e m ⟨p, vs, ev, h, t, l⟩ => by
    subst ev
    exact ⟨p, rfl, ⟨vs, seqT_same e.s h⟩, q _ Z2 H2 e m (walk_at walk_tup (fun Z' H' z sz _ => seqT_same sz (seqT_same z h)) t l)⟩
def rangeZ (lo hi : Int) : List Int := (List.range (hi - lo).toNat).map fun (i : Nat) => lo + (i : Int)
def RangeOk (lo hi : Int) : Prop := (-(2 ^ 62) ≤ lo ∧ lo < 2 ^ 62) ∧ (-(2 ^ 62) ≤ hi ∧ hi < 2 ^ 62) ∧ hi - lo ≤ 16777216
instance {lo hi : Int} : Decidable (RangeOk lo hi) := inferInstanceAs (Decidable (_ ∧ _ ∧ _))
theorem rangeZ_len (lo hi : Int) : (rangeZ lo hi).length = (hi - lo).toNat := by unfold rangeZ; rw [List.length_map, List.length_range]
theorem walk_rng {lo hi : Int} {Z H : Hp} (l : hi - lo ≤ 16777216) : WalkT X (Itr lo (hi - lo).toNat) Z H yInt (rangeZ lo hi) := by
  refine ⟨by rw [rangeZ_len]; show (hi - lo).toNat ≤ 2 ^ 24; omega, fun _ => True, YFn fun i => .int (lo + i), by rw [rangeZ_len]; exact walk_range, fun _ _ _ _ _ => trivial, fun i Z' H' v H'' hi z sz _ y => ?_⟩
  obtain ⟨e, y⟩ := y
  subst e
  rw [rangeZ_len] at hi
  refine ⟨Z', lo + (i : Int), ?_, Step.refl sz, y⟩
  unfold rangeZ
  rw [List.getElem?_map, List.getElem?_range hi]
  rfl
theorem ei_rng1 {i : Int} (ha : Ev M ta σ Z H s (ty yInt i) s1) (h1 : RangeOk 0 i) : EvI M X (iRng1 (tCons ta tNil)) σ Z H s yInt (rangeZ 0 i) s1 :=
  fun Z1 H1 a b c d R q => eva_cons ha eva_nil Z1 H1 a b c d _ fun vs Z2 H2 e m ⟨v, r, e1, h, e2⟩ => by
    cases e2; cases h
    refine ⟨i, e1, h1.2.1.1, h1.2.1.2, q _ Z2 H2 e m ?_⟩
    have := walk_rng (X := X) (lo := 0) (hi := i) (Z := Z2) (H := H2) h1.2.2
    rw [Int.sub_zero] at this
    exact this
theorem ei_rng2 {i j : Int} (ha : Ev M ta σ Z H s (ty yInt i) s1) (hb : Ev M tb σ Z H s1 (ty yInt j) s2) (h1 : RangeOk i j) : EvI M X (iRng2 (tCons ta (tCons tb tNil))) σ Z H s yInt (rangeZ i j) s2 :=
  fun Z1 H1 a b c d R q => eva_cons ha (eva_cons hb eva_nil) Z1 H1 a b c d _ fun vs Z2 H2 e m ⟨v, r, e1, h, w, r2, e3, h3, e2⟩ => by
    cases e2; cases h; cases h3; cases e3
    exact ⟨i, j, e1, ⟨h1.1.1, h1.1.2, h1.2.1.1, h1.2.1.2⟩, q _ Z2 H2 e m (walk_rng h1.2.2)⟩
/-- pairs that are laid turn by turn -/
theorem walk_pairs {ys : List β} {vs ws : List V} {J : It} {G : Hp → Prop} (n : Nat) (hn : n = min vs.length ws.length) (w : Walk J n G (YPair (fun i => vs[i]?) (fun i => ws[i]?))) {Z H : Hp} (hG : ∀ Z' H', Same Z Z' → Same Z' H' → X H H' → G H') (t : All (τ.r Z) vs xs) (u : All (υ.r Z) ws ys) (l : vs.length ≤ sizeLine) : WalkT X J Z H (yP2 K τ υ) (xs.zip ys) := by
  have ln : (xs.zip ys).length = n := by rw [List.length_zip, ← t.len, ← u.len, hn]
  refine ⟨by rw [ln, hn]; omega, G, _, by rw [ln]; exact w, hG, fun i Z' H' v H'' hi z sz _ y => ?_⟩
  obtain ⟨T, v1, v2, rfl, nT, rfl, g1, g2⟩ := y
  obtain ⟨x1, ex1, rx1⟩ := t.get g1
  obtain ⟨x2, ex2, rx2⟩ := u.get g2
  have st := Step.new (o := .tup [v1, v2]) sz nT
  exact ⟨upd Z' T (.tup [v1, v2]), (x1, x2), by rw [List.getElem?_zip_eq_some]; exact ⟨ex1, ex2⟩, st, T, v1, v2, rfl, sqT_new, τ.mono (z.trans st.z) rx1, υ.mono (z.trans st.z) rx2⟩
def enumZ {α : Type} (xs : List α) : List (Int × α) := (rangeZ 0 (xs.length : Nat)).zip xs
theorem enum_rng (n : Nat) (i : Nat) (h : i < n) : ((rangeZ 0 (n : Nat)).map V.int)[i]? = some (.int (i : Nat)) := by
  unfold rangeZ
  rw [List.getElem?_map, List.getElem?_map, List.getElem?_range (by omega)]
  show some (V.int (0 + (i : Int))) = _
  rw [Int.zero_add]
theorem ei_enum (ha : Ev M ta σ Z H s (ty (yList τ) xs) s1) : EvI M X (iEnum K (tCons ta tNil)) σ Z H s (yP2 K yInt τ) (enumZ xs) s1 :=
  fun Z1 H1 a b c d R q => eva_cons ha eva_nil Z1 H1 a b c d _ fun us Z2 H2 e m ⟨v, r, e1, ⟨p, vs, ev, h, t, l⟩, e2⟩ => by
    cases e2; cases ev; cases e1
    refine ⟨p, vs, rfl, SqL.of (e.s _ _ h), q _ Z2 H2 e m ?_⟩
    have hl : ((rangeZ 0 (xs.length : Nat)).map V.int).length = vs.length := by
      rw [List.length_map, rangeZ_len, t.len]; omega
    refine walk_pairs (vs := (rangeZ 0 (xs.length : Nat)).map V.int) (ws := vs) vs.length (by rw [hl]; omega) (walk_enum.mono (fun _ g => g) fun i H v H' hi _ ⟨T, x, y, h1, h2, h3, h4, h5⟩ => ⟨T, x, y, h1, h2, h3, ?_, h5⟩) (fun Z' H' z sz _ => SqL.of (sz _ _ (z _ _ h))) (All.ofInts _) t (by rw [hl, t.len]; exact l)
    show ((rangeZ 0 (xs.length : Nat)).map V.int)[i]? = some x
    rw [enum_rng _ _ (by rw [← t.len]; exact hi)]
    exact h4
theorem ei_str {x : Str} (ha : Ev M ta σ Z H s (ty yStr x) s1) : EvI M X (iStr ta) σ Z H s yStr (x.cps.toList.map fun c => (⟨#[c]⟩ : Str)) s1 :=
  fun Z1 H1 a b c d R q => ha Z1 H1 a b c d _ fun v Z2 H2 e m rv => by
    refine ⟨x, rv.1, q _ Z2 H2 e m ?_⟩
    have ln : (x.cps.toList.map fun c => (⟨#[c]⟩ : Str)).length = x.cps.size := by rw [List.length_map, Array.length_toList]
    have lz : x.cps.size ≤ sizeLine := of_decide_eq_true (Bool.and_eq_true_iff.mp (show (PyData.strOk x && decide (x.length ≤ sizeLine)) = true from rv.2)).2
    refine ⟨by rw [ln]; exact lz, fun _ => True, _, by rw [ln]; exact walk_str, fun _ _ _ _ _ => trivial, fun i Z' H' v H'' hi z sz _ y => ?_⟩
    obtain ⟨e, c, hc, rfl⟩ := y
    subst e
    have hc' : x.cps.toList[i]? = some c := by rw [Array.getElem?_toList]; exact hc
    refine ⟨Z', ⟨#[c]⟩, by rw [List.getElem?_map, hc']; rfl, Step.refl sz, rfl, ?_⟩
    have ok := rv.2
    unfold okS PyData.strOk at ok ⊢
    rw [Bool.and_eq_true] at ok ⊢
    refine ⟨?_, decide_eq_true (by show (#[c] : Array Nat).size ≤ sizeLine; exact (by decide : 1 ≤ sizeLine))⟩
    have h2 := Array.all_eq_true_iff_forall_mem.mp ok.1 c (Array.mem_of_getElem? hc)
    simpa using h2
end
/-! ### list comprehensions -/
/-- the target stores the value: from the slots σ to σ2 -/
def Tgt (g : TG) (v : V) (σ σ2 : L2.St) (Z : Hp) : Prop := ∀ H, Same Z H → ∀ Q : L2.St → Hp → Prop, Q σ2 H → g v σ H Q
theorem tgt_name {i : Nat} {v : V} {σ : L2.St} {Z : Hp} : Tgt (gName i) v σ (σ.set i (some v)) Z := fun _ _ _ q => q
theorem tgt_p2 {α β : Type} {τ : Ty α} {υ : Ty β} {g1 g2 : TG} {v : V} {x : α × β} {Z : Hp} (h : (yP2 K τ υ).r Z v x) : ∃ v1 v2, τ.r Z v1 x.1 ∧ υ.r Z v2 x.2 ∧ ∀ {σ σ1 σ2 : L2.St}, Tgt g1 v1 σ σ1 Z → Tgt g2 v2 σ1 σ2 Z → Tgt (gTup K 2 (gCons g1 (gCons g2 gNil))) v σ σ2 Z := by
  obtain ⟨a, v1, v2, rfl, t, h1, h2⟩ := h
  exact ⟨v1, v2, h1, h2, fun {σ σ1 σ2} t1 t2 H sz Q q => ⟨a, _, rfl, seqT_same sz t, rfl, v1, _, rfl, t1 H sz _ ⟨v2, _, rfl, t2 H sz _ ⟨rfl, q⟩⟩⟩⟩
theorem tgt_p3 {α β γ : Type} {τ : Ty α} {υ : Ty β} {φ : Ty γ} {g1 g2 g3 : TG} {v : V} {x : α × β × γ} {Z : Hp} (h : (yP3 K τ υ φ).r Z v x) : ∃ v1 v2 v3, τ.r Z v1 x.1 ∧ υ.r Z v2 x.2.1 ∧ φ.r Z v3 x.2.2 ∧ ∀ {σ σ1 σ2 σ3 : L2.St}, Tgt g1 v1 σ σ1 Z → Tgt g2 v2 σ1 σ2 Z → Tgt g3 v3 σ2 σ3 Z → Tgt (gTup K 3 (gCons g1 (gCons g2 (gCons g3 gNil)))) v σ σ3 Z := by
  obtain ⟨a, v1, v2, v3, rfl, t, h1, h2, h3⟩ := h
  exact ⟨v1, v2, v3, h1, h2, h3, fun {σ σ1 σ2 σ3} t1 t2 t3 H sz Q q => ⟨a, _, rfl, seqT_same sz t, rfl, v1, _, rfl, t1 H sz _ ⟨v2, _, rfl, t2 H sz _ ⟨v3, _, rfl, t3 H sz _ ⟨rfl, q⟩⟩⟩⟩⟩
section
variable {α β : Type} {τ : Ty α} {υ : Ty β} {xs : List α} {ys : List β}
/-- the comprehension as a plain walk: none leaves an item out -/
def lcM (g : α → μ → Option (Option β × μ)) : List α → μ → Option (List β × μ)
  | [], s => some ([], s)
  | x :: xs, s => (g x s).bind fun p => (lcM g xs p.2).bind fun q => some (match p.1 with | none => q.1 | some y => y :: q.1, q.2)
theorem en_lc {wi : TI} {g : TG} {tt : TT} {vs : List Nat} (P : μ → Prop) (h : α → μ → Option (Option β × μ)) (hP : P s1) (hi : EvI M (SameX M.fp) wi σ Z H s τ xs s1)
    (hb : ∀ x v Z' H' si p, Same Z Z' → SameX M.fp H H' → τ.r Z' v x → P si → h x si = some p → P p.2 ∧ ∃ σ2, Tgt g v (wipe σ vs) σ2 Z' ∧ wipe σ2 vs = wipe σ vs ∧ ∃ b s', EvT M tt σ2 Z' H' si b s' ∧ (b = true → ∃ y, p.1 = some y ∧ Ev M te σ2 Z' H' s' (ty υ y) p.2) ∧ (b = false → p = (none, s')))
    (hF : lcM h xs s1 = some (ys, s2)) : EvN M (tLc wi g tt te vs) σ Z H s υ ys s2 := by
  intro Z1 H1 a b c d Q q
  refine hi Z1 H1 a b c d _ fun J Z2 H2 e m ⟨hx, G, Y, wk, hG, hY⟩ D hD => ?_
  have zD : Z2 D = none := same_none e.s hD
  have st0 := Step.own (o := .lst []) e.s hD
  refine lc_it wk (fun i H' => ∃ Z' si zs ws r, Step M.fp Z2 H2 Z' H' ∧ Z' D = none ∧ H' D = some (.lst ws) ∧ All (υ.r Z') ws zs ∧ ws.length ≤ i ∧ M.m si Z' H' ∧ P si ∧ lcM h (xs.drop i) si = some (r, s2) ∧ ys = zs ++ r)
    ⟨Z2, s1, [], [], ys, st0.pure, zD, upd_same, .nil, Nat.le_refl _, M.pure st0 m, hP, by rw [List.drop_zero]; exact hF, rfl⟩ ?_ ?_ ?_
  · rintro i H' _ ⟨Z', si, zs, ws, r, st, _⟩
    exact hG Z' H' st.z st.s st.h
  · rintro i v H3 H4 hin ⟨Z', si, zs, ws, r, st, zD', hD', al, lw, m', pi, hF', ey⟩ y
    obtain ⟨Z4, x, ex, st4, rx⟩ := hY i Z' H3 v H4 hin st.z st.s (hG Z' H3 st.z st.s st.h) y
    have hd : xs.drop i = x :: xs.drop (i + 1) := by
      rw [List.drop_eq_getElem_cons hin]
      rw [List.getElem?_eq_getElem hin] at ex
      rw [Option.some.inj ex]
    rw [hd] at hF'
    obtain ⟨p, hp, hF2⟩ := Option.bind_eq_some_iff.mp hF'
    obtain ⟨⟨r2, s2'⟩, hr, hF3⟩ := Option.bind_eq_some_iff.mp hF2
    have e4 := st.trans st4.pure
    have eZ : Same Z Z4 := (a.trans e.z).trans e4.z
    have eH : SameX M.fp H H4 := (b.trans e.h).trans e4.h
    obtain ⟨pp, σ2, tg, wp, bb, s', et, ht, hf⟩ := hb x v Z4 H4 si p eZ eH rx pi hp
    have es2 : s2' = s2 := by injection hF3 with q; exact congrArg Prod.snd q
    subst es2
    refine tg H4 e4.s _ ⟨wp, et Z4 H4 (Same.refl _) SameX.refl e4.s (M.pure st4 m') _ fun Z5 H5 e5 m5 => ?_⟩
    have nD : D ∉ M.fp := fun h => absurd hD (M.al m D h).1
    have hD4 : H4 D = some (.lst ws) := st4.h _ _ List.not_mem_nil hD'
    have hD5 : H5 D = some (.lst ws) := e5.h _ _ nD hD4
    have zD5 : Z5 D = none := e5.n D (some_ne hD4) (st4.n D (some_ne hD') zD')
    have e15 := e4.trans e5
    cases bb with
    | false =>
      rw [if_neg Bool.false_ne_true]
      have ep := hf rfl
      subst ep
      refine ⟨Z5, s', zs, ws, r2, e15, zD5, hD5, al.imp fun _ _ => υ.mono (st4.z.trans e5.z), by omega, m5, pp, hr, ?_⟩
      injection hF3 with q3
      have q4 : r2 = r := congrArg Prod.fst q3
      rw [ey, q4]
    | true =>
      rw [if_pos rfl]
      obtain ⟨y, ep, ev⟩ := ht rfl
      refine ev Z5 H5 e5.z e5.h e5.s m5 _ fun w Z6 H6 e6 m6 rw' => ?_
      have hD6 : H6 D = some (.lst ws) := e6.h _ _ nD hD5
      have zD6 : Z6 D = none := e6.n D (some_ne hD5) zD5
      have s7 := Step.set (o := .lst (ws ++ [w])) e6.s zD6
      refine ⟨ws, hD6, by omega, Z6, p.2, zs ++ [y], ws ++ [w], r2, (e15.trans e6).mine s7 (fun x hx => by rw [List.mem_singleton] at hx; subst hx; exact .inr hD), zD6, upd_same, (al.imp fun _ _ => υ.mono ((st4.z.trans e5.z).trans e6.z)).snoc rw', by rw [List.length_append]; show ws.length + 1 ≤ _; omega, ?_, pp, hr, ?_⟩
      · refine M.loc (Same.refl _) (fun a' ha' o ho => ?_) (fun _ _ _ z => z) m6
        rw [upd_ne (fun q' => nD (by rw [← q']; exact ha'))]
        exact ho
      · injection hF3 with q3
        rw [ep] at q3
        have q4 : y :: r2 = r := congrArg Prod.fst q3
        rw [ey, ← q4, List.append_assoc]
        rfl
  · rintro H' ⟨Z', si, zs, ws, r, st, zD', hD', al, lw, m', _, hF', ey⟩
    rw [List.drop_length] at hF'
    injection hF' with q'
    have e1 : r = [] := (congrArg Prod.fst q').symm
    have e2 : si = s2 := congrArg Prod.snd q'
    subst e1 e2
    rw [List.append_nil] at ey
    subst ey
    exact q D ws Z' H' (e.trans st) m' (same_x e hD) zD' hD' al (by rw [← al.len]; omega)
def mapO (f : α → Option β) : List α → Option (List β)
  | [] => some []
  | x :: r => (f x).bind fun y => (mapO f r).bind fun ys => some (y :: ys)
def fmO (f : α → Option (Option β)) : List α → Option (List β)
  | [] => some []
  | x :: r => (f x).bind fun y => (fmO f r).bind fun ys => some (match y with | none => ys | some z => z :: ys)
def mapS (f : α → μ → Option (β × μ)) : List α → μ → Option (List β × μ)
  | [], s => some ([], s)
  | x :: r, s => (f x s).bind fun p => (mapS f r p.2).bind fun q => some (p.1 :: q.1, q.2)
theorem lcM_fmO (f : α → Option (Option β)) (s : μ) : ∀ xs : List α, lcM (fun x s => (f x).map fun y => (y, s)) xs s = (fmO f xs).map fun ys => (ys, s)
  | [] => rfl
  | x :: r => by
    have ih := lcM_fmO f s r
    unfold lcM fmO
    cases f x with
    | none => rfl
    | some y =>
      simp only [Option.map_some, Option.bind_some, ih]
      cases fmO f r with
      | none => rfl
      | some ys => cases y <;> rfl
theorem lcM_mapS (f : α → μ → Option (β × μ)) : ∀ (xs : List α) (s : μ), lcM (fun x s => (f x s).map fun p => (some p.1, p.2)) xs s = mapS f xs s
  | [], _ => rfl
  | x :: r, s => by
    unfold lcM mapS
    cases f x s with
    | none => rfl
    | some p =>
      simp only [Option.map_some, Option.bind_some, lcM_mapS f r p.2]
theorem fmO_mapO (f : α → Option β) : ∀ xs : List α, fmO (fun x => (f x).map some) xs = mapO f xs
  | [] => rfl
  | x :: r => by
    unfold fmO mapO
    rw [fmO_mapO f r]
    cases f x <;> rfl
theorem fmO_fil (p : α → Bool) (f : α → β) : ∀ xs : List α, fmO (fun x => some (if p x = true then some (f x) else none)) xs = some ((xs.filter p).map f)
  | [] => rfl
  | x :: r => by
    unfold fmO
    rw [fmO_fil p f r]
    cases e : p x with
    | true => rw [List.filter_cons_of_pos e]; rfl
    | false => rw [List.filter_cons_of_neg (by rw [e]; exact Bool.false_ne_true)]; rfl
section
variable {wi : TI} {g : TG} {tt : TT} {vs : List Nat}
/-- stateless, with a test -/
theorem en_fmO (f : α → Option (Option β)) (hi : EvI M (SameX M.fp) wi σ Z H s τ xs s1)
    (hb : ∀ x v Z' H' p, Same Z Z' → SameX M.fp H H' → τ.r Z' v x → f x = some p → ∃ σ2, Tgt g v (wipe σ vs) σ2 Z' ∧ wipe σ2 vs = wipe σ vs ∧ ∃ b, EvT M tt σ2 Z' H' s1 b s1 ∧ (b = true → ∃ y, p = some y ∧ Ev M te σ2 Z' H' s1 (ty υ y) s1) ∧ (b = false → p = none))
    (hF : fmO f xs = some ys) : EvN M (tLc wi g tt te vs) σ Z H s υ ys s1 := by
  refine en_lc (· = s1) (fun x s => (f x).map fun y => (y, s)) rfl hi (fun x v Z' H' si p z h rv e hp => ?_) (by rw [lcM_fmO, hF]; rfl)
  subst e
  obtain ⟨q, hq, rfl⟩ := Option.map_eq_some_iff.mp hp
  obtain ⟨σ2, tg, wp, b, et, h1, h2⟩ := hb x v Z' H' q z h rv hq
  exact ⟨rfl, σ2, tg, wp, b, _, et, h1, fun e => by rw [h2 e]⟩
/-- stateless, partial -/
theorem en_mapO (f : α → Option β) (hi : EvI M (SameX M.fp) wi σ Z H s τ xs s1)
    (hb : ∀ x v Z' H' y, Same Z Z' → SameX M.fp H H' → τ.r Z' v x → f x = some y → ∃ σ2, Tgt g v (wipe σ vs) σ2 Z' ∧ wipe σ2 vs = wipe σ vs ∧ Ev M te σ2 Z' H' s1 (ty υ y) s1)
    (hF : mapO f xs = some ys) : EvN M (tLc wi g tYes te vs) σ Z H s υ ys s1 :=
  en_fmO (fun x => (f x).map some) hi (fun x v Z' H' p z h rv hp => by
    obtain ⟨y, hy, rfl⟩ := Option.map_eq_some_iff.mp hp
    obtain ⟨σ2, tg, wp, ev⟩ := hb x v Z' H' y z h rv hy
    exact ⟨σ2, tg, wp, true, fun Z1 H1 _ _ c d _ k => k Z1 H1 (Step.refl c) d, fun _ => ⟨y, rfl, ev⟩, fun e => nomatch e⟩) (by rw [fmO_mapO, hF])
/-- stateless, total -/
theorem en_map (f : α → β) (hi : EvI M (SameX M.fp) wi σ Z H s τ xs s1)
    (hb : ∀ x v Z' H', Same Z Z' → SameX M.fp H H' → τ.r Z' v x → ∃ σ2, Tgt g v (wipe σ vs) σ2 Z' ∧ wipe σ2 vs = wipe σ vs ∧ Ev M te σ2 Z' H' s1 (ty υ (f x)) s1) : EvN M (tLc wi g tYes te vs) σ Z H s υ (xs.map f) s1 :=
  en_mapO (fun x => some (f x)) hi (fun x v Z' H' y z h rv hy => by cases hy; exact hb x v Z' H' z h rv) (by
    clear hb hi
    induction xs with
    | nil => rfl
    | cons x r ih => unfold mapO; rw [ih]; rfl)
theorem en_fil (p : α → Bool) (f : α → β) (hi : EvI M (SameX M.fp) wi σ Z H s τ xs s1)
    (hb : ∀ x v Z' H', Same Z Z' → SameX M.fp H H' → τ.r Z' v x → ∃ σ2, Tgt g v (wipe σ vs) σ2 Z' ∧ wipe σ2 vs = wipe σ vs ∧ EvT M tt σ2 Z' H' s1 (p x) s1 ∧ Ev M te σ2 Z' H' s1 (ty υ (f x)) s1) : EvN M (tLc wi g tt te vs) σ Z H s υ ((xs.filter p).map f) s1 :=
  en_fmO (fun x => some (if p x = true then some (f x) else none)) hi (fun x v Z' H' q z h rv hq => by
    obtain ⟨σ2, tg, wp, et, ev⟩ := hb x v Z' H' z h rv
    cases hq
    exact ⟨σ2, tg, wp, p x, et, fun e => ⟨f x, if_pos e, ev⟩, fun e => if_neg (by rw [e]; exact Bool.false_ne_true)⟩) (fmO_fil p f xs)
theorem en_mapS (f : α → μ → Option (β × μ)) (hi : EvI M (SameX M.fp) wi σ Z H s τ xs s1)
    (hb : ∀ x v Z' H' si p, Same Z Z' → SameX M.fp H H' → τ.r Z' v x → f x si = some p → ∃ σ2, Tgt g v (wipe σ vs) σ2 Z' ∧ wipe σ2 vs = wipe σ vs ∧ Ev M te σ2 Z' H' si (ty υ p.1) p.2)
    (hF : mapS f xs s1 = some (ys, s2)) : EvN M (tLc wi g tYes te vs) σ Z H s υ ys s2 :=
  en_lc (fun _ => True) (fun x s => (f x s).map fun p => (some p.1, p.2)) trivial hi (fun x v Z' H' si p z h rv _ hp => by
    obtain ⟨q, hq, rfl⟩ := Option.map_eq_some_iff.mp hp
    obtain ⟨σ2, tg, wp, ev⟩ := hb x v Z' H' si q z h rv hq
    exact ⟨trivial, σ2, tg, wp, true, si, fun Z1 H1 _ _ c d _ k => k Z1 H1 (Step.refl c) d, fun _ => ⟨q.1, rfl, ev⟩, fun e => nomatch e⟩) (by rw [lcM_mapS, hF])
end
end
end
end TP

namespace TP
open PySem PySem.Spec PyProof.Rows L2
section
variable {μ : Type} {S : List Addr} {Z0 H0 : Hp} {M : Mu μ} {σ : L2.St} {Z H : Hp} {s s' s1 s2 s3 : μ} {ta tb tc te : TE} {t : TA} {K : PySem.W.Frag} {D : Ends} {u w : TS}
/-! ### a place in a def's body -/
structure Pt (S : List Addr) (Z0 H0 : Hp) (M : Mu μ) (Z H : Hp) (s : μ) : Prop where
  st : Step S Z0 H0 Z H
  m : M.m s Z H
  mine : ∀ a ∈ M.fp, a ∈ S ∨ H0 a = none
theorem Pt.next {Z1 H1 : Hp} (P : Pt S Z0 H0 M Z H s) (e : Step M.fp Z H Z1 H1) (m : M.m s1 Z1 H1) : Pt S Z0 H0 M Z1 H1 s1 := ⟨P.st.mine e P.mine, m, P.mine⟩
theorem Pt.start (M : Mu μ) (sz : Same Z H) (m : M.m s Z H) : Pt M.fp Z H M Z H s := ⟨Step.refl sz, m, fun _ h => .inl h⟩
theorem Pt.start0 (sz : Same Z H) : Pt [] Z H muN Z H () := ⟨Step.refl sz, trivial, fun _ h => (nomatch h)⟩
theorem Pt.sub (P : Pt S Z0 H0 M Z H s) : Same Z H := P.st.s
/-- a list of one's own: it may change -/
structure Own {α : Type} (S : List Addr) (H0 : Hp) (fp : List Addr) (Z H : Hp) (τ : Ty α) (p : Addr) (xs : List α) : Prop where
  ex : ∃ vs, H p = some (.lst vs) ∧ All (τ.r Z) vs xs
  z : Z p = none
  n : p ∉ fp
  mine : H0 p = none
  l : xs.length ≤ sizeLine
section
variable {α : Type} {τ : Ty α} {xs : List α} {p : Addr} {fp : List Addr}
theorem Own.step {F : List Addr} {Z1 H1 : Hp} (o : Own S H0 fp Z H τ p xs) (e : Step F Z H Z1 H1) (n : p ∉ F) : Own S H0 fp Z1 H1 τ p xs := by
  obtain ⟨vs, h, t⟩ := o.ex
  exact ⟨⟨vs, e.h _ _ n h, t.imp fun _ _ => τ.mono e.z⟩, e.n _ (some_ne h) o.z, o.n, o.mine, o.l⟩
theorem Own.next {Z1 H1 : Hp} (o : Own S H0 fp Z H τ p xs) (e : Step fp Z H Z1 H1) : Own S H0 fp Z1 H1 τ p xs := o.step e o.n
theorem Own.ne (o : Own S H0 fp Z H τ p xs) {q : Addr} (h : H q = none) : p ≠ q := by
  obtain ⟨vs, hp, _⟩ := o.ex
  exact ne_of_some (some_ne hp) h
theorem ev_o {i : Nat} (o : Own S H0 M.fp Z H τ p xs) (e : σ[i]? = some (some (.ref p))) : Ev M (tVar i) σ Z H s (li τ xs) s := by
  obtain ⟨vs, h, t⟩ := o.ex
  exact ev_own e h o.n t o.l
/-- it never changes from now on -/
theorem Own.fz (o : Own S H0 M.fp Z H τ p xs) (P : Pt S Z0 H0 M Z H s) : ∃ Z', Pt S Z0 H0 M Z' H s ∧ Same Z Z' ∧ (yList τ).r Z' (.ref p) xs ∧ ∀ q, q ≠ p → Z q = none → Z' q = none := by
  obtain ⟨vs, h, t⟩ := o.ex
  refine ⟨upd Z p (.lst vs), ⟨?_, Mu.fz P.m o.z o.n, P.mine⟩, same_upd o.z, ⟨p, vs, rfl, upd_same, t.imp fun _ _ => τ.mono (same_upd o.z), o.l⟩, fun q n e => by rw [upd_ne n]; exact e⟩
  exact P.st.fz o.mine h o.z
theorem Own.keep {Z1 : Hp} (o : Own S H0 fp Z H τ p xs) (e : Same Z Z1) (n : Z1 p = none) : Own S H0 fp Z1 H τ p xs := by
  obtain ⟨vs, h, t⟩ := o.ex
  exact ⟨⟨vs, h, t.imp fun _ _ => τ.mono e⟩, n, o.n, o.mine, o.l⟩
end
/-- a list of one's own is lent: for a while it does not change -/
theorem Own.bor {α : Type} {τ : Ty α} {xs : List α} {p : Addr} (o : Own S H0 M.fp Z H τ p xs) (sz : Same Z H) (m : M.m s Z H) : ∃ Zb, Same Z Zb ∧ Same Zb H ∧ M.m s Zb H ∧ (yList τ).r Zb (.ref p) xs ∧ ∀ q, q ≠ p → Z q = none → Zb q = none := by
  obtain ⟨vs, h, t⟩ := o.ex
  refine ⟨upd Z p (.lst vs), same_upd o.z, fun a u e => ?_, Mu.fz m o.z o.n, ⟨p, vs, rfl, upd_same, t.imp fun _ _ => τ.mono (same_upd o.z), o.l⟩, fun q n e => by rw [upd_ne n]; exact e⟩
  by_cases q : a = p
  · subst q; rw [upd_same] at e; rw [← Option.some.inj e]; exact h
  · rw [upd_ne q] at e; exact sz a u e
theorem Step.lent {S : List Addr} {Z Zb H Z1 H1 : Hp} (zf : Same Z Zb) (e : Step S Zb H Z1 H1) : Step S Z H Z H1 := ⟨Same.refl _, zf.trans (e.z.trans e.s), e.h, fun _ _ z => z, e.al⟩
/-! ### statements -/
theorem st_nx {nx bk ct : L2.St → Hp → Prop} {rt : VK} (h : nx σ H) : Ends.nx ⟨nx, rt, bk, ct⟩ σ H := h
theorem st_next0 {nx bk ct : L2.St → Hp → Prop} {rt : VK} (h : nx σ H) : tNext ⟨nx, rt, bk, ct⟩ σ H := h
theorem st_next (h : D.nx σ H) : tNext D σ H := h
theorem st_seq (h : u { D with nx := w D } σ H) : tSeq u w D σ H := h
theorem st_set {R : Rr M.fp} {i : Nat} (P : Pt S Z0 H0 M Z H s) (e : Ev M te σ Z H s R s1) (k : ∀ v Z1 H1, Step M.fp Z H Z1 H1 → Pt S Z0 H0 M Z1 H1 s1 → R.r Z1 H1 v → D.nx (σ.set i (some v)) H1) : tAsg te (gName i) D σ H :=
  e Z H (Same.refl _) SameX.refl P.sub P.m _ fun v Z1 H1 e m r => k v Z1 H1 e (P.next e m) r
theorem st_asg {R : Rr M.fp} {g : TG} (P : Pt S Z0 H0 M Z H s) (e : Ev M te σ Z H s R s1) (k : ∀ v Z1 H1, Step M.fp Z H Z1 H1 → Pt S Z0 H0 M Z1 H1 s1 → R.r Z1 H1 v → ∃ σ2, Tgt g v σ σ2 Z1 ∧ D.nx σ2 H1) : tAsg te g D σ H :=
  e Z H (Same.refl _) SameX.refl P.sub P.m _ fun v Z1 H1 e m r => by
    obtain ⟨σ2, tg, q⟩ := k v Z1 H1 e (P.next e m) r
    exact tg H1 e.s _ q
theorem st_ret {R : Rr M.fp} (P : Pt S Z0 H0 M Z H s) (e : Ev M te σ Z H s R s1) (k : ∀ v Z1 H1, Pt S Z0 H0 M Z1 H1 s1 → R.r Z1 H1 v → D.rt v H1) : tRet te D σ H :=
  e Z H (Same.refl _) SameX.refl P.sub P.m _ fun v Z1 H1 e m r => k v Z1 H1 (P.next e m) r
theorem st_expr {R : Rr M.fp} (P : Pt S Z0 H0 M Z H s) (e : Ev M te σ Z H s R s1) (k : ∀ Z1 H1, Step M.fp Z H Z1 H1 → Pt S Z0 H0 M Z1 H1 s1 → D.nx σ H1) : tDrop te D σ H :=
  e Z H (Same.refl _) SameX.refl P.sub P.m _ fun v Z1 H1 e m r => k Z1 H1 e (P.next e m)
theorem st_if {b : Bool} {tt : TT} (P : Pt S Z0 H0 M Z H s) (e : EvT M tt σ Z H s b s1) (ht : b = true → ∀ Z1 H1, Step M.fp Z H Z1 H1 → Pt S Z0 H0 M Z1 H1 s1 → u D σ H1) (hf : b = false → ∀ Z1 H1, Step M.fp Z H Z1 H1 → Pt S Z0 H0 M Z1 H1 s1 → w D σ H1) : tIfS tt u w D σ H :=
  e Z H (Same.refl _) SameX.refl P.sub P.m _ fun Z1 H1 e' m => by
    cases b with
    | true => rw [if_pos rfl]; exact ht rfl Z1 H1 e' (P.next e' m)
    | false => rw [if_neg Bool.false_ne_true]; exact hf rfl Z1 H1 e' (P.next e' m)
theorem st_ifB {b : Bool} {tt : TT} {Zb : Hp} (bk : M.Back) (P : Pt S Z0 H0 M Z H s) (zf : Same Z Zb) (sb : Same Zb H) (mb : M.m s Zb H) (e : EvT M tt σ Zb H s b s1) (ht : b = true → ∀ Z1 H1, Step M.fp Z H Z1 H1 → Pt S Z0 H0 M Z1 H1 s1 → u D σ H1) (hf : b = false → ∀ Z1 H1, Step M.fp Z H Z1 H1 → Pt S Z0 H0 M Z1 H1 s1 → w D σ H1) : tIfS tt u w D σ H :=
  e Zb H (Same.refl _) SameX.refl sb mb _ fun Z1 H1 e' m => by
    have e2 := Step.lent zf e'
    have m2 := bk (zf.trans e'.z) P.m m
    cases b with
    | true => rw [if_pos rfl]; exact ht rfl Z H1 e2 (P.next e2 m2)
    | false => rw [if_neg Bool.false_ne_true]; exact hf rfl Z H1 e2 (P.next e2 m2)
theorem st_aug {i : Nat} {a b : Int} {v : V} {f : Int → Int → Int} (P : Pt S Z0 H0 M Z H s) (hσ : σ[i]? = some (some v)) (hv : v = .int a) (e : Ev M te σ Z H s (ty yInt b) s1) (k : ∀ v Z1 H1, Step M.fp Z H Z1 H1 → Pt S Z0 H0 M Z1 H1 s1 → yInt.r Z1 v (f a b) → D.nx (σ.set i (some v)) H1) : tAug i te (ipI f) D σ H :=
  ⟨v, hσ, e Z H (Same.refl _) SameX.refl P.sub P.m _ fun v' Z1 H1 e m r => ⟨a, b, hv, r, k _ Z1 H1 e (P.next e m) rfl⟩⟩
section
variable {α β : Type} {τ : Ty α} {υ : Ty β} {xs ys : List α} {p : Addr} {x : α}
/-- a new list of one's own -/
theorem st_setN {i : Nat} (P : Pt S Z0 H0 M Z H s) (e : EvN M te σ Z H s τ xs s1) (k : ∀ p Z1 H1, Step M.fp Z H Z1 H1 → Pt S Z0 H0 M Z1 H1 s1 → H p = none → Own S H0 M.fp Z1 H1 τ p xs → D.nx (σ.set i (some (.ref p))) H1) : tAsg te (gName i) D σ H :=
  e Z H (Same.refl _) SameX.refl P.sub P.m _ fun p vs Z1 H1 e m hp zp h1 t l => k p Z1 H1 e (P.next e m) hp ⟨⟨vs, h1, t⟩, zp, fun hf => (M.al P.m p hf).1 hp, same_x P.st hp, l⟩
theorem Pt.set {o : HO} (P : Pt S Z0 H0 M Z H s) (hz : Z p = none) (n : p ∉ M.fp) (mine : p ∈ S ∨ H0 p = none) : Pt S Z0 H0 M Z (upd H p o) s := by
  refine ⟨P.st.mine (Step.set P.sub hz) fun a h => by rw [List.mem_singleton] at h; rw [h]; exact mine, M.loc (Same.refl _) (fun a ha u e => ?_) (fun _ _ _ z => z) P.m, P.mine⟩
  rw [upd_ne (fun q => n (by rw [← q]; exact ha))]
  exact e
theorem step2 {F : List Addr} {Z1 H1 : Hp} {o : HO} (e : Step F Z H Z1 H1) (hz : Z1 p = none) : Step (p :: F) Z H Z1 (upd H1 p o) :=
  (e.weak fun _ h => .inl (List.mem_cons_of_mem _ h)).mine (Step.set e.s hz) fun a h => by rw [List.mem_singleton] at h; rw [h]; exact .inl List.mem_cons_self
/-- xs.append(x) -/
theorem st_append {i : Nat} (P : Pt S Z0 H0 M Z H s) (o : Own S H0 M.fp Z H τ p xs) (hσ : σ[i]? = some (some (.ref p))) (e : Ev M te σ Z H s (ty τ x) s1) (l : xs.length < sizeLine)
    (k : ∀ Z1 H1, Step (p :: M.fp) Z H Z1 H1 → Pt S Z0 H0 M Z1 H1 s1 → Own S H0 M.fp Z1 H1 τ p (xs ++ [x]) → D.nx σ H1) : tDrop (tBM K "list" rAppend (tVar i) (tCons te tNil)) D σ H := by
  obtain ⟨vs, h, t⟩ := o.ex
  refine ⟨.ref p, hσ, .inl ⟨rfl, _, .inl (.inl h)⟩, e Z H (Same.refl _) SameX.refl P.sub P.m _ fun v Z1 H1 e m r => ?_⟩
  have o1 := o.next e
  have P1 := P.next e m
  refine ⟨p, vs, v, rfl, rfl, e.h _ _ o.n h, by rw [t.len]; exact l, ?_⟩
  exact k _ _ (step2 e o1.z) (P1.set o1.z o.n (.inr o.mine)) ⟨⟨_, upd_same, (t.imp fun _ _ => τ.mono e.z).snoc r⟩, o1.z, o.n, o.mine, by rw [List.length_append]; show xs.length + 1 ≤ _; omega⟩
/-- xs.extend(ys) -/
theorem st_extend {i : Nat} (P : Pt S Z0 H0 M Z H s) (o : Own S H0 M.fp Z H τ p xs) (hσ : σ[i]? = some (some (.ref p))) (e : Ev M te σ Z H s (ty (yList τ) ys) s1) (l : xs.length + ys.length ≤ sizeLine)
    (k : ∀ Z1 H1, Step (p :: M.fp) Z H Z1 H1 → Pt S Z0 H0 M Z1 H1 s1 → Own S H0 M.fp Z1 H1 τ p (xs ++ ys) → D.nx σ H1) : tDrop (tBM K "list" rExtend (tVar i) (tCons te tNil)) D σ H := by
  obtain ⟨vs, h, t⟩ := o.ex
  refine ⟨.ref p, hσ, .inl ⟨rfl, _, .inl (.inl h)⟩, e Z H (Same.refl _) SameX.refl P.sub P.m _ fun v Z1 H1 e m ⟨q, ws, ev, hq, t2, _⟩ => ?_⟩
  subst ev
  have o1 := o.next e
  have P1 := P.next e m
  refine ⟨p, q, vs, ws, rfl, rfl, e.h _ _ o.n h, e.s _ _ hq, by rw [t.len, t2.len]; exact l, ?_⟩
  exact k _ _ (step2 e o1.z) (P1.set o1.z o.n (.inr o.mine)) ⟨⟨_, upd_same, (t.imp fun _ _ => τ.mono e.z).app t2⟩, o1.z, o.n, o.mine, by rw [List.length_append]; exact l⟩
/-- xs[i] = x -/
theorem st_setitem {i : Nat} {j : Int} {n : Nat} {tj : TE} (P : Pt S Z0 H0 M Z H s) (o : Own S H0 M.fp Z H τ p xs) (hσ : σ[i]? = some (some (.ref p))) (e : Ev M te σ Z H s (ty τ x) s1) (ej : ∀ Z1 H1, Step M.fp Z H Z1 H1 → Ev M tj σ Z1 H1 s1 (ty yInt j) s2) (hj : ixN xs.length j = some n)
    (k : ∀ Z1 H1, Step (p :: M.fp) Z H Z1 H1 → Pt S Z0 H0 M Z1 H1 s2 → Own S H0 M.fp Z1 H1 τ p (xs.set n x) → D.nx σ H1) : tAsg te (gSub (tVar i) tj rSetL) D σ H := by
  obtain ⟨vs, h, t⟩ := o.ex
  refine e Z H (Same.refl _) SameX.refl P.sub P.m _ fun v Z1 H1 e m r => ⟨.ref p, hσ, ej Z1 H1 e Z1 H1 (Same.refl _) SameX.refl e.s m _ fun v2 Z2 H2 e2 m2 r2 => ?_⟩
  have o1 := (o.next e).next e2
  have P1 := (P.next e m).next e2 m2
  refine ⟨p, vs, j, n, rfl, r2, e2.h _ _ o.n (e.h _ _ o.n h), by rw [t.len]; exact hj, ?_⟩
  exact k _ _ (step2 (e.trans e2) o1.z) (P1.set o1.z o.n (.inr o.mine)) ⟨⟨_, upd_same, (t.imp fun _ _ => τ.mono (e.trans e2).z).set (τ.mono e2.z r) n⟩, o1.z, o.n, o.mine, by rw [List.length_set]; exact o.l⟩
end
/-! ### loops -/
inductive Flow (ρ β : Type)
  | go (b : β) | brk (b : β) | ret (r : ρ)
def forF {α β : Type} (f : α → β → Option β) : List α → β → Option β
  | [], b => some b
  | x :: r, b => (f x b).bind fun b' => forF f r b'
def Flow.nxt {ρ β : Type} (k : β → Option (Flow ρ β)) : Flow ρ β → Option (Flow ρ β)
  | .go b => k b
  | .brk b => some (.go b)
  | .ret y => some (.ret y)
def Flow.thn {ρ β γ : Type} (k : β → Option γ) (g : ρ → Option γ) : Flow ρ β → Option γ
  | .go b => k b
  | .brk b => k b
  | .ret y => g y
def forS {ρ α β : Type} (f : α → β → Option (Flow ρ β)) : List α → β → Option (Flow ρ β)
  | [], b => some (.go b)
  | x :: r, b => (f x b).bind (Flow.nxt (forS f r))
def whileS {ρ β : Type} (f : β → Option (Flow ρ β)) : Nat → β → Option (Flow ρ β)
  | 0, _ => none
  | n + 1, b => (f b).bind (Flow.nxt (whileS f n))
section
variable {ρ α β γ : Type} {k : β → Option (Flow ρ β)} {f : α → β → Option (Flow ρ β)} {f' : α → β → Option β} {x : α} {r : List α} {b : β} {y : ρ} {q : Flow ρ β}
theorem nxt_go (h : Flow.nxt k (.go b) = some q) : k b = some q := h
theorem nxt_brk (h : Flow.nxt k (.brk b) = some q) : q = .go b := (Option.some.inj h).symm
theorem nxt_ret (h : Flow.nxt k (.ret y) = some q) : q = .ret y := (Option.some.inj h).symm
theorem go_inv {k : β → Option γ} {g : ρ → Option γ} {z : γ} (h : Flow.thn k g (.go b) = some z) : k b = some z := h
theorem ret_inv {k : β → Option γ} {g : ρ → Option γ} {z : γ} (h : Flow.thn k g (.ret y) = some z) : g y = some z := h
theorem forS_cons (h : forS f (x :: r) b = some q) : (f x b).bind (Flow.nxt (forS f r)) = some q := h
theorem forS_nil (h : forS f [] b = some q) : q = .go b := (Option.some.inj h).symm
theorem forF_cons {c : β} (h : forF f' (x :: r) b = some c) : (f' x b).bind (fun b' => forF f' r b') = some c := h
theorem forF_nil {c : β} (h : forF f' [] b = some c) : c = b := (Option.some.inj h).symm
end
section
variable {α β : Type} {τ : Ty α} {xs : List α}
/-- what a turn is to reach -/
def LoopW (I : List α → L2.St → Hp → Hp → Prop) (Z1 : Hp) (r : List α) : L2.St → Hp → Prop := fun σ H => ∃ Z, Same Z1 Z ∧ Same Z H ∧ I r σ Z H
/-- I: what is true ahead of the turns for the rest of the items -/
theorem st_for {wi : TI} {g : TG} (I : List α → L2.St → Hp → Hp → Prop) (P : Pt S Z0 H0 M Z H s) (hi : EvI M (fun _ _ => True) wi σ Z H s τ xs s1)
    (h0 : ∀ Z1 H1, Step M.fp Z H Z1 H1 → Pt S Z0 H0 M Z1 H1 s1 → I xs σ Z1 H1)
    (hs : ∀ Z1 H1, Step M.fp Z H Z1 H1 → ∀ x r σ' v Z' H' Z2 H2, Same Z1 Z' → I (x :: r) σ' Z' H' → Step [] Z' H' Z2 H2 → τ.r Z2 v x →
      g v σ' H2 fun σ2 H3 => u { D with nx := LoopW I Z1 r, ct := LoopW I Z1 r, bk := D.nx } σ2 H3)
    (hd : ∀ σ' Z' H', Same Z Z' → Same Z' H' → I [] σ' Z' H' → D.nx σ' H') : tFor wi g u D σ H := by
  refine hi Z H (Same.refl _) SameX.refl P.sub P.m _ fun J Z1 H1 e m ⟨_, G, Y, wk, hG, hY⟩ => ?_
  refine for_it wk (fun i => LoopW I Z1 (xs.drop i)) ⟨Z1, Same.refl _, e.s, by rw [List.drop_zero]; exact h0 Z1 H1 e (P.next e m)⟩ ?_ ?_ ?_
  · rintro i σ' H' _ ⟨Z', sa, sb, _⟩
    exact hG Z' H' sa sb trivial
  · rintro i v σ' H3 H4 hin ⟨Z', sa, sb, hI⟩ y
    obtain ⟨Z4, x, ex, st4, rx⟩ := hY i Z' H3 v H4 hin sa sb (hG Z' H3 sa sb trivial) y
    have hd : xs.drop i = x :: xs.drop (i + 1) := by
      rw [List.drop_eq_getElem_cons hin]
      rw [List.getElem?_eq_getElem hin] at ex
      rw [Option.some.inj ex]
    rw [hd] at hI
    exact hs Z1 H1 e x _ σ' v Z' H3 Z4 H4 sa hI st4 rx
  · rintro σ' H' ⟨Z', sa, sb, hI⟩
    rw [List.drop_length] at hI
    exact hd σ' Z' H' (e.z.trans sa) sb hI
end
theorem bind_inv {α β : Type} {o : Option α} {f : α → Option β} {y : β} (h : o.bind f = some y) : ∃ x, o = some x ∧ f x = some y := Option.bind_eq_some_iff.mp h
theorem guard_inv {c : Prop} [Decidable c] {β : Type} {o : Option β} {y : β} (h : (if c then o else none) = some y) : c ∧ o = some y := by
  by_cases hc : c
  · rw [if_pos hc] at h; exact ⟨hc, h⟩
  · rw [if_neg hc] at h; cases h
theorem ifT {β : Type} {b : Bool} {o p y : β} (hb : b = true) (h : (if b = true then o else p) = y) : o = y := by rw [if_pos hb] at h; exact h
theorem ifF {β : Type} {b : Bool} {o p y : β} (hb : b = false) (h : (if b = true then o else p) = y) : p = y := by rw [if_neg (by rw [hb]; exact Bool.false_ne_true)] at h; exact h
theorem Pt.item {Z1 H1 : Hp} (P : Pt S Z0 H0 M Z H s) (e : Step [] Z H Z1 H1) : Pt S Z0 H0 M Z1 H1 s := P.next e.pure (M.pure e P.m)
theorem Mu.away {x : Addr} {Z1 H1 : Hp} (e : Step [x] Z H Z1 H1) (nx : x ∉ M.fp) (m : M.m s Z H) : M.m s Z1 H1 :=
  M.loc e.z (fun a ha o ho => e.h a o (fun q => nx (by rw [List.mem_singleton] at q; rw [← q]; exact ha)) ho) (fun a _ h z => e.n a h z) m
/-- self.f = e, self new -/
theorem st_fld {α : Type} {τ : Ty α} {x : α} {i : Nat} {p C dx : Addr} {fs : List (Str × V)} {f : Str} {tv : TE} (P : Pt S Z0 H0 M Z H s) (hp : H p = some (.ins C dx fs)) (zp : Z p = none) (np : p ∉ M.fp) (mp : p ∈ S ∨ H0 p = none) (hσ : σ[i]? = some (some (.ref p)))
    (e : Ev M tv σ Z H s (ty τ x) s1) (c : Cls K C) (n : NoAttr K C f) (l : fs.length < 1000) (k : ∀ v Z1 H1, Step (p :: M.fp) Z H Z1 H1 → Pt S Z0 H0 M Z1 H1 s1 → τ.r Z1 v x → H1 p = some (.ins C dx (putF f v fs)) → Z1 p = none → D.nx σ H1) : sFld K (tVar i) tv f D σ H :=
  e Z H (Same.refl _) SameX.refl P.sub P.m _ fun v Z1 H1 e m r => by
    have h1 : H1 p = some (.ins C dx fs) := e.h _ _ np hp
    have z1 : Z1 p = none := e.n p (some_ne hp) zp
    exact ⟨.ref p, hσ, p, C, dx, fs, rfl, h1, c, n, l, k v Z1 _ (step2 e z1) ((P.next e m).set z1 np mp) r upd_same z1⟩
/-- a list of one's own in the block of a comprehension -/
theorem ev_oX {α : Type} {τ : Ty α} {xs : List α} {p : Addr} {i : Nat} {Z1 H1 : Hp} (o : Own S H0 M.fp Z H τ p xs) (zz : Same Z Z1) (hh : SameX M.fp H H1) (e : σ[i]? = some (some (.ref p))) : Ev M (tVar i) σ Z1 H1 s (li τ xs) s := by
  obtain ⟨vs, h, t⟩ := o.ex
  exact ev_own e (hh _ _ o.n h) o.n (t.imp fun _ _ => τ.mono zz) o.l
end
/-! ### the draws -/
structure DS where
  ns : List Int
  k : Nat
  x : Nat
def rowZ (ns : List Int) (k : Nat) : Int :=
  let c0 := ns.getD k 0
  let c := if c0 < 0 then -2 * c0 - 1 else c0
  if c < 10 ^ 9 then
    let a := (c * 48271 + k * 69621 + 11) % 2147483647
    let b := (a * 16807 + c * 7 + k + 5) % 2147483629
    let d := (b * 39373 + a * b + 3) % 2147483587
    a + b * 2147483647 + d * 2147483647 ^ 2
  else c
def DS.cur (s : DS) (m : Int) : Nat := if (s.x : Int) < m then (rowZ s.ns s.k).toNat else s.x
def nxV (s : DS) (m : Int) : Int := (s.cur m : Int) % m
def nxS (s : DS) (m : Int) : DS := ⟨s.ns, if (s.x : Int) < m then s.k + 1 else s.k, ((s.cur m : Int) / m).toNat⟩
theorem nx_ge (s : DS) {m : Int} (h : 0 < m) : 0 ≤ nxV s m := Int.emod_nonneg _ (by omega)
theorem nx_lt (s : DS) {m : Int} (h : 0 < m) : nxV s m < m := Int.emod_lt_of_pos _ h
def NxOk (m : Int) : Prop := 0 < m ∧ m.natAbs < 2 ^ 200
instance {m : Int} : Decidable (NxOk m) := inferInstanceAs (Decidable (_ ∧ _))
def muD (st sc : Addr) : Mu DS where
  fp := [st]
  m := fun s Z H => H st = some (.lst [.ref sc, .int (s.k : Nat), .int (s.x : Nat)]) ∧ Z sc = some (.lst (s.ns.map V.int)) ∧ Z st = none
  al := fun ⟨h, _, z⟩ a ha => by rw [List.mem_singleton] at ha; subst ha; exact ⟨some_ne h, z⟩
  loc := fun sz hk hn ⟨h, hs, z⟩ => ⟨hk _ List.mem_cons_self _ h, sz _ _ hs, hn _ List.mem_cons_self (some_ne h) z⟩
theorem muD_back {st sc : Addr} : (muD st sc).Back := fun sz ⟨_, hs, z⟩ ⟨h', hs', _⟩ => ⟨h', by rw [hs, ← hs', sz _ _ hs], z⟩
section
variable {K : PySem.W.Frag} {σ : L2.St} {H : Hp} {D : Ends}
theorem st_draws {r : List V → Hp → VK → Prop} {a : Addr} {ns : List Int} {i j : Nat} (hA : SqL K H a (ns.map V.int)) (hlen : ns.length ≤ 63) (k : ∀ st sc Z0 Z1 H1, Pt [] Z0 H (muD st sc) Z1 H1 ⟨ns, 0, 0⟩ → D.nx (σ.set i (some (.ref st))) H1)
    (hr : ∀ xs H Q, (∃ p ys, xs = [.ref p] ∧ (SqL K H p ys ∨ SqT K H p ys) ∧ ∀ l, H l = none → Q (.ref l) (upd H l (.lst ys))) → r xs H Q := by exact fun _ _ _ h => h) (hσ : σ[j]? = some (some (.ref a)) := by rfl) :
    tAsg (tLst (tCons (tCB r (tCons (tVar j) tNil)) (tCons (tC (.int 0)) (tCons (tC (.int 0)) tNil)))) (gName i) D σ H := by
  refine ⟨.ref a, hσ, hr _ _ _ ⟨a, _, rfl, .inl hA, fun sc hsc => ?_⟩⟩
  refine ⟨by show 3 ≤ sizeLine; decide, fun st hst => ?_⟩
  have s0 : Same (fun _ => none : Hp) H := fun _ _ h => by cases h
  have e1 := Step.new (o := .lst (ns.map V.int)) s0 hsc
  have e2 := Step.own (o := .lst [.ref sc, .int 0, .int 0]) e1.s hst
  exact k st sc (fun _ => none) _ _ ⟨e1.trans e2, ⟨upd_same, upd_same, by rw [upd_ne (fun q => by rw [q, upd_same] at hst; cases hst)]⟩, fun x hx => by rw [show x = st from List.mem_singleton.mp hx]; exact .inr (same_x e1 hst)⟩
end
end TP
namespace TP
open PySem PySem.Spec PyProof.Rows L2
section
variable {μ : Type} {S : List Addr} {Z0 H0 : Hp} {M : Mu μ} {σ : L2.St} {Z H : Hp} {s s' s1 s2 s3 : μ} {ta tb tc te : TE} {t : TA} {K : PySem.W.Frag} {D : Ends} {u w : TS}
theorem whileS_cons {ρ β : Type} {f : β → Option (Flow ρ β)} {n : Nat} {b : β} {q : Flow ρ β} (h : whileS f n b = some q) : ∃ k, n = k + 1 ∧ (f b).bind (Flow.nxt (whileS f k)) = some q := by
  cases n with
  | zero => cases h
  | succ k => exact ⟨k, rfl, h⟩
def WhW (I : Nat → L2.St → Hp → Hp → Prop) (k : Nat) : L2.St → Hp → Prop := fun σ H => ∃ Z, I k σ Z H
theorem st_while {c : TT} {tb : TS} (I : Nat → L2.St → Hp → Hp → Prop) (n : Nat) (P : Pt S Z0 H0 M Z H s) (h0 : I n σ Z H)
    (hs : ∀ n σ' Z' H', I n σ' Z' H' → ∃ k s s1 b, n = k + 1 ∧ Pt S Z0 H0 M Z' H' s ∧ EvT M c σ' Z' H' s b s1 ∧ (b = true → ∀ Z1 H1, Step M.fp Z' H' Z1 H1 → Pt S Z0 H0 M Z1 H1 s1 → tb { D with nx := WhW I k, ct := WhW I k, bk := D.nx } σ' H1) ∧
      (b = false → ∀ Z1 H1, Step M.fp Z' H' Z1 H1 → Pt S Z0 H0 M Z1 H1 s1 → D.nx σ' H1)) : tWhile c tb D σ H := by
  refine ⟨fun m σ H => ∃ Z, I m σ Z H, ⟨n, Z, h0⟩, ?_⟩
  rintro m σ' H' ⟨Z', hI⟩
  obtain ⟨k, s, s1, b, rfl, P, et, ht, hf⟩ := hs m σ' Z' H' hI
  refine et Z' H' (Same.refl _) SameX.refl P.sub P.m _ fun Z1 H1 e m => ?_
  cases b with
  | true =>
    rw [if_pos rfl]
    exact ⟨WhW I k, fun σ3 H3 h3 => ⟨k, Nat.lt_succ_self _, h3⟩, ht rfl Z1 H1 e (P.next e m)⟩
  | false =>
    rw [if_neg Bool.false_ne_true]
    exact hf rfl Z1 H1 e (P.next e m)
end
end TP

namespace TP
open PySem PySem.Spec PyProof.Rows L2
section
variable {μ : Type} {S : List Addr} {Z0 H0 : Hp} {M : Mu μ} {σ : L2.St} {Z H : Hp} {s s' s1 s2 s3 : μ} {ta tb tc te : TE} {t : TA} {K : PySem.W.Frag} {D : Ends} {u w : TS}
/-! ### isinstance -/
theorem ev_isi {r : List V → Hp → VK → Prop} {R : Rr M.fp} {c : V} {v t : Value} {b : Bool} (hr : ∀ xs H Q, rIsi K xs H Q → r xs H Q) (ha : Ev M ta σ Z H s R s1) (tx : ∀ Z H v, Same Z H → R.r Z H v → TyX K H v t) (hc : ClsV c v) (hk : PySem.W.kitOne K t v = some b) :
    Ev M (tCB r (tCons ta (tCons (tC c) tNil))) σ Z H s (ty yBool b) s1 :=
  ev_cb (Rs := rac R (rac ⟨fun _ _ v => v = c, fun _ h => h⟩ ra0)) (eva_cons ha (eva_cons (ev_of fun _ _ _ _ _ _ q => q _ rfl) eva_nil)) fun _ _ _ sz ⟨x, r1, e1, h1, y, r2, e2, h2, e3⟩ _ q => by
    cases e3; cases e2; cases e1
    have h2' : y = c := h2
    subst h2'
    exact hr _ _ _ ⟨x, y, t, v, b, rfl, hc, tx _ _ _ sz h1, hk, q _ _ _ (Step.refl sz) rfl⟩
section
variable {fp : List Addr} {α β γ δ : Type} {τ : Ty α} {υ : Ty β} {φ : Ty γ} {ψ : Ty δ}
theorem tx_int {x : Int} : ∀ Z H v, Same Z H → (ty (fp := fp) yInt x).r Z H v → TyX K H v (.type "int") := fun _ _ _ _ h => by cases h; exact .base (.int _)
theorem tx_bool {x : Bool} : ∀ Z H v, Same Z H → (ty (fp := fp) yBool x).r Z H v → TyX K H v (.type "bool") := fun _ _ _ _ h => by cases h; exact .base (.bl _)
theorem tx_str {x : Str} : ∀ Z H v, Same Z H → (ty (fp := fp) yStr x).r Z H v → TyX K H v (.type "str") := fun _ _ _ _ h => by rw [h.1]; exact .base (.str _)
theorem tx_li {x : List α} : ∀ Z H v, Same Z H → (li (fp := fp) τ x).r Z H v → TyX K H v (.type "list") := fun _ _ _ sz h => by
  obtain ⟨p, vs, rfl, g, _, _⟩ := rdl sz h
  exact .base (.lst g)
theorem tx_sqT {H : Hp} {a : Addr} {vs : List V} (h : SqT K H a vs) : TyX K H (.ref a) (.type "tuple") := by
  rcases h with (h | ⟨o, h⟩) | ⟨o, its, n, h, hc, _⟩
  · exact .base (.tup h)
  · exact .fTuple h
  · exact .kTuple h hc
theorem tx_tup {x : List α} : ∀ Z H v, Same Z H → (ty (fp := fp) (yTup K τ) x).r Z H v → TyX K H v (.type "tuple") := fun _ _ _ sz ⟨a, vs, e, h, _⟩ => by subst e; exact tx_sqT (seqT_same sz h)
theorem tx_p2 {x : α × β} : ∀ Z H v, Same Z H → (ty (fp := fp) (yP2 K τ υ) x).r Z H v → TyX K H v (.type "tuple") := fun _ _ _ sz ⟨a, _, _, e, h, _⟩ => by subst e; exact tx_sqT (seqT_same sz h)
theorem tx_p3 {x : α × β × γ} : ∀ Z H v, Same Z H → (ty (fp := fp) (yP3 K τ υ φ) x).r Z H v → TyX K H v (.type "tuple") := fun _ _ _ sz ⟨a, _, _, _, e, h, _⟩ => by subst e; exact tx_sqT (seqT_same sz h)
end
end
end TP

namespace TP
open PySem PySem.Spec PyProof.Rows L2
/-! on, where what is bound is known: proofs that are no rfl, so that the kernel evaluates nothing -/
theorem bsome {α β : Type} {x : α} {f : α → Option β} : (some x).bind f = f x := by rw [Option.bind_some]
theorem bnone {α β : Type} {f : α → Option β} : (none : Option α).bind f = none := of_eq_true (eq_self _)
theorem thn_go {ρ β γ : Type} {b : β} {k : β → Option γ} {g : ρ → Option γ} : Flow.thn k g (.go b) = k b := by simp only [Flow.thn]
theorem thn_brk {ρ β γ : Type} {b : β} {k : β → Option γ} {g : ρ → Option γ} : Flow.thn k g (.brk b) = k b := by simp only [Flow.thn]
theorem thn_ret {ρ β γ : Type} {y : ρ} {k : β → Option γ} {g : ρ → Option γ} : Flow.thn k g (.ret y) = g y := by simp only [Flow.thn]
theorem forF_foldl {α β : Type} {f : α → β → Option β} {g : β → α → β} (h : ∀ x b, f x b = some (g b x)) : ∀ (xs : List α) (b : β), forF f xs b = some (xs.foldl g b)
  | [], _ => rfl
  | x :: r, b => by
    show (f x b).bind _ = _
    rw [h x b]
    exact forF_foldl h r _
theorem forF_inv {α β : Type} {f : α → β → Option β} {I : Nat → β → Prop} {m : Nat} (h : ∀ n x b, n < m → I n b → ∃ b', f x b = some b' ∧ I (n + 1) b') : ∀ (xs : List α) (n : Nat) (b : β), n + xs.length ≤ m → I n b → ∃ b', forF f xs b = some b' ∧ I (n + xs.length) b'
  | [], _, b, _, i => ⟨b, rfl, i⟩
  | x :: r, n, b, l, i => by
    rw [List.length_cons] at l
    obtain ⟨b1, e, i1⟩ := h n x b (by omega) i
    obtain ⟨b2, e2, i2⟩ := forF_inv h r (n + 1) b1 (by omega) i1
    refine ⟨b2, ?_, by rw [List.length_cons, show n + (r.length + 1) = n + 1 + r.length by omega]; exact i2⟩
    show (f x b).bind _ = _
    rw [e]
    exact e2
theorem forS_inv {ρ α β : Type} {f : α → β → Option (Flow ρ β)} {I : Nat → β → Prop} {m : Nat} (h : ∀ n x b, n < m → I n b → ∃ b', f x b = some (.go b') ∧ I (n + 1) b') : ∀ (xs : List α) (n : Nat) (b : β), n + xs.length ≤ m → I n b → ∃ b', forS f xs b = some (.go b') ∧ I (n + xs.length) b'
  | [], _, b, _, i => ⟨b, rfl, i⟩
  | x :: r, n, b, l, i => by
    rw [List.length_cons] at l
    obtain ⟨b1, e, i1⟩ := h n x b (by omega) i
    obtain ⟨b2, e2, i2⟩ := forS_inv h r (n + 1) b1 (by omega) i1
    refine ⟨b2, ?_, by rw [List.length_cons, show n + (r.length + 1) = n + 1 + r.length by omega]; exact i2⟩
    show (f x b).bind _ = _
    rw [e]
    exact e2
theorem mapS_all {α β μ : Type} {f : α → μ → Option (β × μ)} {R : β → Prop} (h : ∀ x s, ∃ y s', f x s = some (y, s') ∧ R y) : ∀ (xs : List α) (s : μ), ∃ ys s', mapS f xs s = some (ys, s') ∧ ys.length = xs.length ∧ ∀ y ∈ ys, R y
  | [], s => ⟨[], s, rfl, rfl, fun _ h => nomatch h⟩
  | x :: r, s => by
    obtain ⟨y, s1, e, hy⟩ := h x s
    obtain ⟨ys, s2, e2, l, hs⟩ := mapS_all h r s1
    refine ⟨y :: ys, s2, ?_, congrArg Nat.succ l, fun z hz => ?_⟩
    · show (f x s).bind _ = _
      rw [e]
      show (mapS f r s1).bind _ = _
      rw [e2]
      rfl
    · rcases List.mem_cons.mp hz with rfl | hz
      · exact hy
      · exact hs z hz
theorem cutA_none {α : Type} (xs : List α) {c : Int} (h : 0 ≤ c) : cutA xs none (some c) = xs.take c.toNat := by
  obtain ⟨k, rfl⟩ := Int.eq_ofNat_of_zero_le h
  unfold cutA
  rw [HT.sIx_none, HT.sIx_nat, List.drop_zero, Nat.sub_zero, Int.toNat_natCast]
  by_cases q : k ≤ xs.length
  · rw [Nat.min_eq_left q]
  · rw [Nat.min_eq_right (by omega), List.take_length, List.take_of_length_le (by omega)]
theorem cutA_to {α : Type} (xs : List α) {a c : Int} (h : 0 ≤ a) (h2 : a ≤ c) (h3 : c ≤ xs.length) : cutA xs (some a) (some c) = (xs.drop a.toNat).take (c - a).toNat := by
  obtain ⟨k, rfl⟩ := Int.eq_ofNat_of_zero_le h
  obtain ⟨m, rfl⟩ := Int.eq_ofNat_of_zero_le (show 0 ≤ c by omega)
  unfold cutA
  rw [HT.sIx_nat, HT.sIx_nat, Nat.min_eq_left (by omega), Nat.min_eq_left (by omega), Int.toNat_natCast, show ((m : Int) - (k : Int)).toNat = m - k by omega]
theorem cutA_from {α : Type} (xs : List α) {a : Int} (h : 0 ≤ a) : cutA xs (some a) none = xs.drop a.toNat := by
  obtain ⟨k, rfl⟩ := Int.eq_ofNat_of_zero_le h
  unfold cutA
  rw [HT.sIx_nat, HT.sIx_none, Int.toNat_natCast]
  by_cases q : k ≤ xs.length
  · rw [Nat.min_eq_left q, List.take_of_length_le (by rw [List.length_drop]; omega)]
  · rw [Nat.min_eq_right (by omega), List.drop_length, List.drop_of_length_le (by omega)]
    simp
theorem ixN_of {n : Nat} {i : Int} (h : 0 ≤ i) (l : i < n) : ixN n i = some i.toNat := by
  obtain ⟨k, rfl⟩ := Int.eq_ofNat_of_zero_le h
  rw [Int.toNat_natCast]
  unfold ixN
  split <;> first | rfl | omega | (split <;> first | rfl | omega) | skip
theorem atI_of {α : Type} {xs : List α} {i : Int} (h : 0 ≤ i) : L2.atI xs i = xs[i.toNat]? := by
  by_cases l : i < xs.length
  · unfold L2.atI
    rw [ixN_of h l]
    rfl
  · rw [List.getElem?_eq_none (by omega)]
    obtain ⟨k, rfl⟩ := Int.eq_ofNat_of_zero_le h
    unfold L2.atI ixN
    split <;> first | rfl | (split <;> first | rfl | omega) | skip
theorem nxOk_of {m : Int} (h : 0 < m) (l : m < 2 ^ 199) : NxOk m := ⟨h, by
  have : m.natAbs < 2 ^ 199 := by
    have e : (2 : Int) ^ 199 = ((2 ^ 199 : Nat) : Int) := by decide
    rw [e] at l
    omega
  exact Nat.lt_trans this (by decide)⟩
theorem rangeOk_of {a b : Int} (h : 0 ≤ a) (h1 : a ≤ 16777216) (l : b ≤ 16777216) (l2 : -16777216 ≤ b) : RangeOk a b := ⟨⟨by omega, by omega⟩, ⟨by omega, by omega⟩, by omega⟩
end TP
namespace TP
open PySem PySem.Spec PyProof.Rows L2
theorem forF_idx {α β : Type} {f : α → β → Option β} {I : Nat → β → Prop} : ∀ (xs : List α) (k : Nat) (b : β), (∀ n x b, xs[n]? = some x → I (k + n) b → ∃ b', f x b = some b' ∧ I (k + n + 1) b') → I k b → ∃ b', forF f xs b = some b' ∧ I (k + xs.length) b'
  | [], k, b, _, i => ⟨b, rfl, i⟩
  | x :: r, k, b, h, i => by
    obtain ⟨b1, e1, i1⟩ := h 0 x b rfl i
    obtain ⟨b2, e2, i2⟩ := forF_idx (I := I) r (k + 1) b1 (fun n y b' hy ib => by
      have := h (n + 1) y b' (by simpa using hy) (by rw [show k + (n + 1) = k + 1 + n by omega]; exact ib)
      rw [show k + 1 + n + 1 = k + (n + 1) + 1 by omega]
      exact this) i1
    refine ⟨b2, ?_, by rw [List.length_cons, show k + (r.length + 1) = k + 1 + r.length by omega]; exact i2⟩
    show (f x b).bind _ = _
    rw [e1]
    exact e2
theorem forS_idx {ρ α β : Type} {f : α → β → Option (Flow ρ β)} {I : Nat → β → Prop} : ∀ (xs : List α) (k : Nat) (b : β), (∀ n x b, xs[n]? = some x → I (k + n) b → ∃ b', f x b = some (.go b') ∧ I (k + n + 1) b') → I k b → ∃ b', forS f xs b = some (.go b') ∧ I (k + xs.length) b'
  | [], k, b, _, i => ⟨b, rfl, i⟩
  | x :: r, k, b, h, i => by
    obtain ⟨b1, e1, i1⟩ := h 0 x b rfl i
    obtain ⟨b2, e2, i2⟩ := forS_idx (I := I) r (k + 1) b1 (fun n y b' hy ib => by
      have := h (n + 1) y b' (by simpa using hy) (by rw [show k + (n + 1) = k + 1 + n by omega]; exact ib)
      rw [show k + 1 + n + 1 = k + (n + 1) + 1 by omega]
      exact this) i1
    refine ⟨b2, ?_, by rw [List.length_cons, show k + (r.length + 1) = k + 1 + r.length by omega]; exact i2⟩
    show (f x b).bind _ = _
    rw [e1]
    exact e2
theorem rangeZ_get {lo hi : Int} {n : Nat} {x : Int} (h : (rangeZ lo hi)[n]? = some x) : x = lo + (n : Int) ∧ (n : Int) < hi - lo := by
  have l := (List.getElem?_eq_some_iff.mp h).1
  rw [rangeZ_len] at l
  unfold rangeZ at h
  rw [List.getElem?_map, List.getElem?_range l] at h
  exact ⟨(Option.some.inj h).symm, by omega⟩
/-- a loop over range(m) that always goes on -/
theorem forF_rng {β : Type} {f : Int → β → Option β} (I : Nat → β → Prop) {m : Int} {b : β} (h0 : I 0 b) (h : ∀ (n : Nat) b, (n : Int) < m → I n b → ∃ b', f (n : Int) b = some b' ∧ I (n + 1) b') : ∃ b', forF f (rangeZ 0 m) b = some b' ∧ I m.toNat b' := by
  obtain ⟨b', e, i⟩ := forF_idx (f := f) (I := I) (rangeZ 0 m) 0 b (fun n x b hx ib => by
    obtain ⟨rfl, hm⟩ := rangeZ_get hx
    rw [Nat.zero_add] at ib ⊢
    obtain ⟨b', e, i⟩ := h n b (by omega) ib
    exact ⟨b', by rw [show (0 : Int) + (n : Int) = n by omega]; exact e, i⟩) h0
  refine ⟨b', e, ?_⟩
  rw [Nat.zero_add, rangeZ_len, Int.sub_zero] at i
  exact i
theorem forS_rng {ρ β : Type} {f : Int → β → Option (Flow ρ β)} (I : Nat → β → Prop) {m : Int} {b : β} (h0 : I 0 b) (h : ∀ (n : Nat) b, (n : Int) < m → I n b → ∃ b', f (n : Int) b = some (.go b') ∧ I (n + 1) b') : ∃ b', forS f (rangeZ 0 m) b = some (.go b') ∧ I m.toNat b' := by
  obtain ⟨b', e, i⟩ := forS_idx (f := f) (I := I) (rangeZ 0 m) 0 b (fun n x b hx ib => by
    obtain ⟨rfl, hm⟩ := rangeZ_get hx
    rw [Nat.zero_add] at ib ⊢
    obtain ⟨b', e, i⟩ := h n b (by omega) ib
    exact ⟨b', by rw [show (0 : Int) + (n : Int) = n by omega]; exact e, i⟩) h0
  refine ⟨b', e, ?_⟩
  rw [Nat.zero_add, rangeZ_len, Int.sub_zero] at i
  exact i
/-- enumerate, from k on -/
def enumF {α : Type} : Int → List α → List (Int × α)
  | _, [] => []
  | k, x :: r => (k, x) :: enumF (k + 1) r
theorem enumZ_eq {α : Type} (xs : List α) : enumZ xs = enumF 0 xs := by
  have key : ∀ (xs : List α) (k : Nat), ((List.range xs.length).map fun (i : Nat) => ((k + i : Nat) : Int)).zip xs = enumF (k : Int) xs := fun xs => by
    induction xs with
    | nil => intro k; rfl
    | cons x r ih =>
      intro k
      rw [List.length_cons, List.range_succ_eq_map, List.map_cons, List.map_map, List.zip_cons_cons]
      show (((k + 0 : Nat) : Int), x) :: _ = ((k : Int), x) :: enumF ((k : Int) + 1) r
      have := ih (k + 1)
      rw [Nat.add_zero]
      congr 1
      have e : ((k + 1 : Nat) : Int) = (k : Int) + 1 := by omega
      rw [← e, ← this]
      congr 2
      funext i
      show ((k + (i + 1) : Nat) : Int) = ((k + 1 + i : Nat) : Int)
      omega
  have := key xs 0
  unfold enumZ rangeZ
  rw [Int.sub_zero, Int.toNat_natCast]
  refine Eq.trans ?_ this
  congr 2
end TP

namespace TP
open PySem PySem.Spec PyProof.Rows L2
section
variable {α β γ μ : Type}
theorem mapO_eq {f : α → Option β} {g : α → β} : ∀ {xs : List α}, (∀ x ∈ xs, f x = some (g x)) → mapO f xs = some (xs.map g)
  | [], _ => rfl
  | x :: r, h => by
    show (f x).bind _ = _
    rw [h x List.mem_cons_self, Option.bind_some, mapO_eq fun y hy => h y (List.mem_cons_of_mem _ hy)]
    rfl
theorem mapO_ex {f : α → Option β} {R : β → Prop} : ∀ {xs : List α}, (∀ x ∈ xs, ∃ y, f x = some y ∧ R y) → ∃ ys, mapO f xs = some ys ∧ ys.length = xs.length ∧ ∀ y ∈ ys, R y
  | [], _ => ⟨[], rfl, rfl, fun _ h => nomatch h⟩
  | x :: r, h => by
    obtain ⟨y, e, hy⟩ := h x List.mem_cons_self
    obtain ⟨ys, e2, l, hs⟩ := mapO_ex fun y hy => h y (List.mem_cons_of_mem _ hy)
    refine ⟨y :: ys, ?_, congrArg Nat.succ l, fun z hz => ?_⟩
    · show (f x).bind _ = _
      rw [e, Option.bind_some, e2]
      rfl
    · rcases List.mem_cons.mp hz with rfl | hz
      · exact hy
      · exact hs z hz
/-- a comprehension that draws, with a fact of the items -/
theorem mapS_mem {f : α → μ → Option (β × μ)} {R : β → Prop} : ∀ {xs : List α} (s : μ), (∀ x ∈ xs, ∀ s, ∃ y s', f x s = some (y, s') ∧ R y) → ∃ ys s', mapS f xs s = some (ys, s') ∧ ys.length = xs.length ∧ ∀ y ∈ ys, R y
  | [], s, _ => ⟨[], s, rfl, rfl, fun _ h => nomatch h⟩
  | x :: r, s, h => by
    obtain ⟨y, s1, e, hy⟩ := h x List.mem_cons_self s
    obtain ⟨ys, s2, e2, l, hs⟩ := mapS_mem s1 fun y hy => h y (List.mem_cons_of_mem _ hy)
    refine ⟨y :: ys, s2, ?_, congrArg Nat.succ l, fun z hz => ?_⟩
    · show (f x s).bind _ = _
      rw [e]
      show (mapS f r s1).bind _ = _
      rw [e2]
      rfl
    · rcases List.mem_cons.mp hz with rfl | hz
      · exact hy
      · exact hs z hz
theorem forF_mem {f : α → β → Option β} {I : β → Prop} : ∀ {xs : List α} {b : β}, I b → (∀ x ∈ xs, ∀ b, I b → ∃ b', f x b = some b' ∧ I b') → ∃ b', forF f xs b = some b' ∧ I b'
  | [], b, i, _ => ⟨b, rfl, i⟩
  | x :: r, b, i, h => by
    obtain ⟨b1, e, i1⟩ := h x List.mem_cons_self b i
    obtain ⟨b2, e2, i2⟩ := forF_mem i1 fun y hy => h y (List.mem_cons_of_mem _ hy)
    refine ⟨b2, ?_, i2⟩
    show (f x b).bind _ = _
    rw [e]
    exact e2
theorem forS_mem {ρ : Type} {f : α → β → Option (Flow ρ β)} {I : β → Prop} : ∀ {xs : List α} {b : β}, I b → (∀ x ∈ xs, ∀ b, I b → ∃ b', f x b = some (.go b') ∧ I b') → ∃ b', forS f xs b = some (.go b') ∧ I b'
  | [], b, i, _ => ⟨b, rfl, i⟩
  | x :: r, b, i, h => by
    obtain ⟨b1, e, i1⟩ := h x List.mem_cons_self b i
    obtain ⟨b2, e2, i2⟩ := forS_mem i1 fun y hy => h y (List.mem_cons_of_mem _ hy)
    refine ⟨b2, ?_, i2⟩
    show (f x b).bind _ = _
    rw [e]
    exact e2
/-- the loop by places: what is true behind n items -/
theorem forF_take {f : α → β → Option β} {I : List α → β → Prop} {xs : List α} {b : β} (h0 : I [] b) (h : ∀ p x r b, xs = p ++ x :: r → I p b → ∃ b', f x b = some b' ∧ I (p ++ [x]) b') : ∃ b', forF f xs b = some b' ∧ I xs b' := by
  have key : ∀ (r p : List α) (b : β), xs = p ++ r → I p b → ∃ b', forF f r b = some b' ∧ I xs b' := fun r => by
    induction r with
    | nil => intro p b e i; rw [List.append_nil] at e; exact ⟨b, rfl, e ▸ i⟩
    | cons x r ih =>
      intro p b e i
      obtain ⟨b1, e1, i1⟩ := h p x r b e i
      obtain ⟨b2, e2, i2⟩ := ih (p ++ [x]) b1 (by rw [e]; simp) i1
      refine ⟨b2, ?_, i2⟩
      show (f x b).bind _ = _
      rw [e1]
      exact e2
  exact key xs [] b rfl h0
theorem forS_take {ρ : Type} {f : α → β → Option (Flow ρ β)} {I : List α → β → Prop} {xs : List α} {b : β} (h0 : I [] b) (h : ∀ p x r b, xs = p ++ x :: r → I p b → ∃ b', f x b = some (.go b') ∧ I (p ++ [x]) b') : ∃ b', forS f xs b = some (.go b') ∧ I xs b' := by
  have key : ∀ (r p : List α) (b : β), xs = p ++ r → I p b → ∃ b', forS f r b = some (.go b') ∧ I xs b' := fun r => by
    induction r with
    | nil => intro p b e i; rw [List.append_nil] at e; exact ⟨b, rfl, e ▸ i⟩
    | cons x r ih =>
      intro p b e i
      obtain ⟨b1, e1, i1⟩ := h p x r b e i
      obtain ⟨b2, e2, i2⟩ := ih (p ++ [x]) b1 (by rw [e]; simp) i1
      refine ⟨b2, ?_, i2⟩
      show (f x b).bind _ = _
      rw [e1]
      exact e2
  exact key xs [] b rfl h0
theorem str_len1 {c : Nat} : (⟨#[c]⟩ : Str).length = 1 := rfl
theorem str_app_len (x y : Str) : (x ++ y).length = x.length + y.length := by
  show (x.cps ++ y.cps).size = _
  rw [Array.size_append]; rfl
/-- == of data that are compared by their terms -/
theorem EqD.eqvB {K : PySem.W.Frag} {τ : Ty α} {d : α → PyData} {n : Nat} (E : EqD K τ d n) [DecidableEq α] (x y : α) : PyData.eqv (d x) (d y) = decide (x = y) := Bool.eq_iff_iff.mpr ((E.eqv x y).trans decide_eq_true_iff.symm)
theorem atI_lit {xs : List α} {i : Int} (h : 0 ≤ i) (l : i < xs.length) : ∃ x, L2.atI xs i = some x ∧ x ∈ xs := by
  rw [atI_of h]
  obtain ⟨k, rfl⟩ := Int.eq_ofNat_of_zero_le h
  rw [Int.toNat_natCast]
  have hk : k < xs.length := by omega
  exact ⟨xs[k], List.getElem?_eq_getElem hk, List.getElem_mem hk⟩
/-- a loop that looks at each item and may say no -/
theorem forS_all {ρ : Type} {f : α → Unit → Option (Flow ρ Unit)} {p : α → Bool} {r : ρ} : ∀ {xs : List α}, (∀ x ∈ xs, f x () = some (if p x = true then .go () else .ret r)) → forS f xs () = some (if xs.all p = true then .go () else .ret r)
  | [], _ => rfl
  | x :: t, h => by
    show (f x ()).bind _ = _
    rw [h x List.mem_cons_self, bsome]
    cases hp : p x with
    | true =>
      rw [if_pos rfl, List.all_cons, hp, Bool.true_and]
      exact forS_all fun y hy => h y (List.mem_cons_of_mem _ hy)
    | false =>
      rw [if_neg Bool.false_ne_true, List.all_cons, hp, Bool.false_and, if_neg Bool.false_ne_true]
      rfl
theorem rangeZ_mem {lo hi x : Int} (h : x ∈ rangeZ lo hi) : lo ≤ x ∧ x < hi := by
  unfold rangeZ at h
  obtain ⟨i, hi', rfl⟩ := List.mem_map.mp h
  have := List.mem_range.mp hi'
  omega
theorem rangeZ_map (n : Nat) (f : Int → α) : (rangeZ 0 (n : Int)).map f = (List.range n).map fun (k : Nat) => f (k : Int) := by
  unfold rangeZ
  rw [List.map_map, Int.sub_zero, Int.toNat_natCast]
  refine List.map_congr_left fun k _ => ?_
  show f (0 + (k : Int)) = f k
  rw [Int.zero_add]
theorem atI_nat {xs : List α} {k : Nat} {x : α} (h : xs[k]? = some x) : L2.atI xs (k : Int) = some x := by
  rw [atI_of (by omega), Int.toNat_natCast, h]
theorem fmO_eq {f : α → Option (Option β)} {p : α → Bool} {g : α → β} : ∀ {xs : List α}, (∀ x ∈ xs, f x = some (if p x = true then some (g x) else none)) → fmO f xs = some ((xs.filter p).map g)
  | [], _ => rfl
  | x :: t, h => by
    show (f x).bind _ = _
    rw [h x List.mem_cons_self, bsome, fmO_eq fun y hy => h y (List.mem_cons_of_mem _ hy), bsome]
    cases hp : p x with
    | true => rw [if_pos rfl, List.filter_cons_of_pos hp]; rfl
    | false => rw [if_neg Bool.false_ne_true, List.filter_cons_of_neg (by rw [hp]; exact Bool.false_ne_true)]
end
end TP

namespace TP
open PySem PySem.Spec PyProof.Rows L2
/-! ### exceptions -/
/-- a value, or an exception -/
inductive Res (ε α : Type)
  | ok (a : α) | er (e : ε)
deriving DecidableEq
def Res.thn {ε α γ : Type} (g : ε → Option γ) (k : α → Option γ) : Res ε α → Option γ
  | .ok a => k a
  | .er e => g e
section
variable {ε α γ : Type} {g : ε → Option γ} {k : α → Option γ} {y : γ}
theorem rok_inv {a : α} (h : Res.thn g k (.ok a) = some y) : k a = some y := h
theorem rer_inv {e : ε} (h : Res.thn g k (.er e) = some y) : g e = some y := h
end
section
variable {μ : Type} {S : List Addr} {Z0 H0 : Hp} {M : Mu μ} {σ : L2.St} {Z H : Hp} {s s' s1 s2 s3 : μ} {ta tb tc te : TE} {t : TA} {K : PySem.W.Frag} {D : Ends} {u w : TS} {X : Hp → Prop}
/-- the expression raises: X is asked of the heap then -/
def EvE (M : Mu μ) (t : TE) (σ : L2.St) (Z H : Hp) (s : μ) (X : Hp → Prop) (s' : μ) : Prop :=
  ∀ Z1 H1, Same Z Z1 → SameX M.fp H H1 → Same Z1 H1 → M.m s Z1 H1 → ∀ Q : VK, (∀ Z2 H2, Step M.fp Z1 H1 Z2 H2 → M.m s' Z2 H2 → X H2) → t σ H1 Q
def EvAE (M : Mu μ) (t : TA) (σ : L2.St) (Z H : Hp) (s : μ) (X : Hp → Prop) (s' : μ) : Prop :=
  ∀ Z1 H1, Same Z Z1 → SameX M.fp H H1 → Same Z1 H1 → M.m s Z1 H1 → ∀ Q : List V → Hp → Prop, (∀ Z2 H2, Step M.fp Z1 H1 Z2 H2 → M.m s' Z2 H2 → X H2) → t σ H1 Q
def EvTE (M : Mu μ) (t : TT) (σ : L2.St) (Z H : Hp) (s : μ) (X : Hp → Prop) (s' : μ) : Prop :=
  ∀ Z1 H1, Same Z Z1 → SameX M.fp H H1 → Same Z1 H1 → M.m s Z1 H1 → ∀ Q : Bool → Hp → Prop, (∀ Z2 H2, Step M.fp Z1 H1 Z2 H2 → M.m s' Z2 H2 → X H2) → t σ H1 Q
/-- for arguments of which Rs is true the promise raises: the class cls -/
def CallE (M : Mu μ) (sp : Sp) (E : XK) (Rs : Ra M.fp) (s : μ) (cls : Value) (s' : μ) : Prop :=
  ∀ Z H vs, Same Z H → M.m s Z H → Rs.r Z H vs → ∀ Q : VK, (∀ Z2 H2, Step M.fp Z H Z2 H2 → M.m s' Z2 H2 → E cls none H2) → sp vs H Q E
def InitE (M : Mu μ) (C : Addr) (sp : Sp) (E : XK) (Rs : Ra M.fp) (s : μ) (cls : Value) (s' : μ) : Prop :=
  ∀ Z H vs x dx, Same Z H → M.m s Z H → Rs.r Z H vs → H x = some (.ins C dx []) → Z x = none → x ∉ M.fp → ∀ Q : VK, (∀ Z2 H2, Step (x :: M.fp) Z H Z2 H2 → M.m s' Z2 H2 → E cls none H2) → sp (.ref x :: vs) H Q E
theorem eae_head (ha : EvE M ta σ Z H s X s1) : EvAE M (tCons ta t) σ Z H s X s1 := fun Z1 H1 a b c d _ q => ha Z1 H1 a b c d _ q
theorem eae_tail {R : Rr M.fp} (ha : Ev M ta σ Z H s R s1) (hr : EvAE M t σ Z H s1 X s2) : EvAE M (tCons ta t) σ Z H s X s2 :=
  fun Z1 H1 a b c d _ q => ha Z1 H1 a b c d _ fun _ Z2 H2 e m _ => hr Z2 H2 (a.trans e.z) (b.trans e.h) e.s m _ fun Z3 H3 e2 m2 => q Z3 H3 (e.trans e2) m2
theorem eve_args {sp : Sp} {E : XK} {dvs : List V} (ha : EvAE M t σ Z H s X s1) : EvE M (tCall sp dvs E t) σ Z H s X s1 := fun Z1 H1 a b c d _ q => ha Z1 H1 a b c d _ q
theorem eve_cb {r : List V → Hp → VK → Prop} (ha : EvAE M t σ Z H s X s1) : EvE M (tCB r t) σ Z H s X s1 := fun Z1 H1 a b c d _ q => ha Z1 H1 a b c d _ q
theorem eve_tup (ha : EvAE M t σ Z H s X s1) : EvE M (tTup t) σ Z H s X s1 := fun Z1 H1 a b c d _ q => ha Z1 H1 a b c d _ q
theorem eve_lst (ha : EvAE M t σ Z H s X s1) : EvE M (tLst t) σ Z H s X s1 := fun Z1 H1 a b c d _ q => ha Z1 H1 a b c d _ q
theorem eve_left {r : R2} (ha : EvE M ta σ Z H s X s1) : EvE M (tOp r ta tb) σ Z H s X s1 := fun Z1 H1 a b c d _ q => ha Z1 H1 a b c d _ q
theorem eve_right {r : R2} {R : Rr M.fp} (ha : Ev M ta σ Z H s R s1) (hb : EvE M tb σ Z H s1 X s2) : EvE M (tOp r ta tb) σ Z H s X s2 :=
  fun Z1 H1 a b c d _ q => ha Z1 H1 a b c d _ fun _ Z2 H2 e m _ => hb Z2 H2 (a.trans e.z) (b.trans e.h) e.s m _ fun Z3 H3 e2 m2 => q Z3 H3 (e.trans e2) m2
theorem eve_fld {f : Str} (ha : EvE M ta σ Z H s X s1) : EvE M (tFld K ta f) σ Z H s X s1 := fun Z1 H1 a b c d _ q => ha Z1 H1 a b c d _ q
theorem eve_call {sp : Sp} {E : XK} {Rs : Ra M.fp} {cls : Value} (C : CallE M sp E Rs s1 cls s2) (ha : EvA M t σ Z H s Rs s1) : EvE M (tCall sp [] E t) σ Z H s (E cls none) s2 :=
  fun Z1 H1 a b c d Q q => ha Z1 H1 a b c d _ fun vs Z2 H2 e m rs => by
    rw [List.append_nil]
    exact C Z2 H2 vs e.s m rs Q fun Z3 H3 e2 m2 => q Z3 H3 (e.trans e2) m2
theorem eve_meth {α : Type} {τ : Ty α} {x : α} {C' : Addr} {m : Str} {sp : Sp} {E : XK} {Rs : Ra M.fp} {cls : Value} (O : ObjOf τ C' m) (C : CallE M sp E (rac (ty τ x) Rs) s2 cls s3) (hx : Ev M ta σ Z H s (ty τ x) s1) (ha : EvA M t σ Z H s1 Rs s2) : EvE M (tMeth C' m sp [] E ta t) σ Z H s (E cls none) s3 :=
  fun Z1 H1 a b c d Q q => hx Z1 H1 a b c d _ fun v Z2 H2 e mm rv => by
    obtain ⟨p, dx, fs, rfl, hp, l⟩ := O _ _ _ rv
    refine ⟨p, dx, fs, rfl, e.s _ _ hp, l, ha Z2 H2 (a.trans e.z) (b.trans e.h) e.s mm _ fun vs Z3 H3 e2 m2 rs => ?_⟩
    rw [List.append_nil]
    exact C Z3 H3 _ e2.s m2 ⟨_, vs, rfl, τ.mono e2.z rv, rs⟩ Q fun Z4 H4 e3 m3 => q Z4 H4 ((e.trans e2).trans e3) m3
theorem eve_methA {α : Type} {τ : Ty α} {x : α} {C' : Addr} {m : Str} {sp : Sp} {E : XK} (O : ObjOf τ C' m) (hx : Ev M ta σ Z H s (ty τ x) s1) (ha : EvAE M t σ Z H s1 X s2) : EvE M (tMeth C' m sp [] E ta t) σ Z H s X s2 :=
  fun Z1 H1 a b c d Q q => hx Z1 H1 a b c d _ fun v Z2 H2 e mm rv => by
    obtain ⟨p, dx, fs, rfl, hp, l⟩ := O _ _ _ rv
    exact ⟨p, dx, fs, rfl, e.s _ _ hp, l, ha Z2 H2 (a.trans e.z) (b.trans e.h) e.s mm _ fun Z3 H3 e2 m2 => q Z3 H3 (e.trans e2) m2⟩
theorem eve_methO {C' : Addr} {m : Str} {sp : Sp} {E : XK} (hx : EvE M ta σ Z H s X s1) : EvE M (tMeth C' m sp [] E ta t) σ Z H s X s1 := fun Z1 H1 a b c d _ q => hx Z1 H1 a b c d _ q
theorem eve_makeA {C : Addr} {sp : Sp} {E : XK} (ha : EvAE M t σ Z H s X s1) : EvE M (tMake C sp [] E t) σ Z H s X s1 := fun Z1 H1 a b c d _ q => ha Z1 H1 a b c d _ q
theorem eve_makeKA {C : Addr} {n k : Nat} {sp : Sp} {E : XK} {gV : List V → List V → List V} {tk : TA} (ha : EvAE M t σ Z H s X s1) : EvE M (tMakeK C n k sp gV E t tk) σ Z H s X s1 := fun Z1 H1 a b c d _ q => ha Z1 H1 a b c d _ q
theorem Step.drop {S : List Addr} {Z H Z1 H1 : Hp} {x : Addr} (g : Step (x :: S) Z H Z1 H1) (hx : H x = none) : Step S Z H Z1 H1 := g.weak fun a h => by
  rcases List.mem_cons.mp h with e | h
  · exact .inr (e ▸ hx)
  · exact .inl h
theorem eve_make {C : Addr} {sp : Sp} {E : XK} {Rs : Ra M.fp} {cls : Value} (I : InitE M C sp E Rs s1 cls s2) (ha : EvA M t σ Z H s Rs s1) : EvE M (tMake C sp [] E t) σ Z H s (E cls none) s2 :=
  fun Z1 H1 a b c d Q q => ha Z1 H1 a b c d _ fun vs Z2 H2 e m rs x dx hx hd ne => by
    rw [List.append_nil]
    have st := Step.dict (C := C) e.s hx hd ne
    have nf : x ∉ M.fp := fun h => (M.al m x h).1 hx
    refine I Z2 _ vs x dx st.s (M.pure st m) (Rs.st st.pure rs) upd_same (same_none e.s hx) nf _ fun Z3 H3 e2 m2 => ?_
    exact q _ _ (e.trans (((st.pure (S := x :: M.fp)).trans e2).drop hx)) m2
theorem eve_makeK {C : Addr} {n k : Nat} {sp : Sp} {E : XK} {Rs Rk Rs' : Ra M.fp} {cls : Value} {gV : List V → List V → List V} {tk : TA} (I : InitE M C sp E Rs' s2 cls s3) (ha : EvA M t σ Z H s Rs s1) (hk : EvA M tk σ Z H s1 Rk s2)
    (hg : ∀ Z H vs zs x, Rs.r Z H vs → Rk.r Z H zs → vs.length = n ∧ zs.length = k ∧ ∃ ws, gV (.ref x :: vs) zs = .ref x :: ws ∧ Rs'.r Z H ws) : EvE M (tMakeK C n k sp gV E t tk) σ Z H s (E cls none) s3 :=
  fun Z1 H1 a b c d Q q => ha Z1 H1 a b c d _ fun vs Z2 H2 e m rs => hk Z2 H2 (a.trans e.z) (b.trans e.h) e.s m _ fun zs Z3 H3 e1 m1 rk => by
    have rs3 := Rs.st e1 rs
    obtain ⟨l1, l2, _⟩ := hg Z3 H3 vs zs 0 rs3 rk
    refine ⟨l1, l2, fun x dx hx hd ne => ?_⟩
    obtain ⟨_, _, ws, eg, rw'⟩ := hg Z3 H3 vs zs x rs3 rk
    rw [eg]
    have st := Step.dict (C := C) e1.s hx hd ne
    have nf : x ∉ M.fp := fun h => (M.al m1 x h).1 hx
    refine I Z3 _ ws x dx st.s (M.pure st m1) (Rs'.st st.pure rw') upd_same (same_none e1.s hx) nf _ fun Z4 H4 e2 m2 => ?_
    exact q _ _ ((e.trans e1).trans (((st.pure (S := x :: M.fp)).trans e2).drop hx)) m2
/-- defaults for all that are not written -/
theorem ev_makeD {C : Addr} {dvs : List V} {sp : Sp} {E : XK} {Rs Rs' : Ra M.fp} {R : Rr M.fp} (I : InitS M C sp E Rs' s1 R s2) (ha : EvA M t σ Z H s Rs s1) (hg : ∀ Z H vs, Rs.r Z H vs → Rs'.r Z H (vs ++ dvs)) : Ev M (tMake C sp dvs E t) σ Z H s R s2 :=
  fun Z1 H1 a b c d Q q => ha Z1 H1 a b c d _ fun vs Z2 H2 e m rs x dx hx hd ne => by
    have st := Step.dict (C := C) e.s hx hd ne
    have nf : x ∉ M.fp := fun h => (M.al m x h).1 hx
    refine I Z2 _ (vs ++ dvs) x dx st.s (M.pure st m) (hg _ _ _ (Rs.st st.pure rs)) upd_same (same_none e.s hx) nf _ fun Z3 H3 o e2 m2 ho rv => ⟨rfl, ?_⟩
    have hz3 : Z3 x = none := e2.n x (by rw [upd_same]; exact fun z => nomatch z) (same_none e.s hx)
    have e3 : Step M.fp Z2 H2 (upd Z3 x o) H3 := ((st.pure (S := x :: M.fp)).trans e2).freeze hx ho hz3
    refine q _ _ _ (e.trans e3) (M.loc (same_upd hz3) (fun _ _ _ e => e) (fun a ha _ z => ?_) m2) rv
    rw [upd_ne (fun q => nf (by rw [← q]; exact ha))]
    exact z
theorem eve_makeD {C : Addr} {dvs : List V} {sp : Sp} {E : XK} {Rs Rs' : Ra M.fp} {cls : Value} (I : InitE M C sp E Rs' s1 cls s2) (ha : EvA M t σ Z H s Rs s1) (hg : ∀ Z H vs, Rs.r Z H vs → Rs'.r Z H (vs ++ dvs)) : EvE M (tMake C sp dvs E t) σ Z H s (E cls none) s2 :=
  fun Z1 H1 a b c d Q q => ha Z1 H1 a b c d _ fun vs Z2 H2 e m rs x dx hx hd ne => by
    have st := Step.dict (C := C) e.s hx hd ne
    have nf : x ∉ M.fp := fun h => (M.al m x h).1 hx
    refine I Z2 _ (vs ++ dvs) x dx st.s (M.pure st m) (hg _ _ _ (Rs.st st.pure rs)) upd_same (same_none e.s hx) nf _ fun Z3 H3 e2 m2 => ?_
    exact q _ _ (e.trans (((st.pure (S := x :: M.fp)).trans e2).drop hx)) m2
/-! a call that is known not to raise -/
end
def Res.val {ε α : Type} (o : Option (Res ε α)) : Option α := o.bind (Res.thn (fun _ => none) some)
def Res.valS {ε α μ : Type} (o : Option (Res ε α × μ)) : Option (α × μ) := o.bind fun p => Res.thn (fun _ => none) (fun a => some (a, p.2)) p.1
theorem val_inv {ε α : Type} {o : Option (Res ε α)} {v : α} (h : Res.val o = some v) : o = some (.ok v) := by
  cases o with
  | none => cases h
  | some r =>
    cases r with
    | ok a => rw [show a = v from Option.some.inj h]
    | er e => cases h
theorem valS_inv {ε α μ : Type} {o : Option (Res ε α × μ)} {v : α × μ} (h : Res.valS o = some v) : o = some (.ok v.1, v.2) := by
  cases o with
  | none => cases h
  | some r =>
    obtain ⟨r, s⟩ := r
    cases r with
    | ok a => rw [← Option.some.inj h]
    | er e => cases h
section
variable {μ : Type} {S : List Addr} {Z0 H0 : Hp} {M : Mu μ} {σ : L2.St} {Z H : Hp} {s s' s1 s2 s3 : μ} {ta tb tc te : TE} {t : TA} {K : PySem.W.Frag} {D : Ends} {u w : TS} {X : Hp → Prop}
/-! tests that raise -/
theorem ete_val (h : EvE M te σ Z H s X s1) : EvTE M (tB te) σ Z H s X s1 := fun Z1 H1 p q r d _ k => h Z1 H1 p q r d _ k
theorem ete_cmp (h : EvE M te σ Z H s X s1) : EvTE M (tTest te) σ Z H s X s1 := fun Z1 H1 p q r d _ k => h Z1 H1 p q r d _ k
theorem ete_not {tA : TT} (h : EvTE M tA σ Z H s X s1) : EvTE M (tNot tA) σ Z H s X s1 := fun Z1 H1 p q r d _ k => h Z1 H1 p q r d _ k
/-! statements that raise -/
theorem st_setE {g : TG} (P : Pt S Z0 H0 M Z H s) (e : EvE M te σ Z H s X s1) (k : ∀ Z1 H1, Step M.fp Z H Z1 H1 → Pt S Z0 H0 M Z1 H1 s1 → X H1) : tAsg te g D σ H :=
  e Z H (Same.refl _) SameX.refl P.sub P.m _ fun Z1 H1 e m => k Z1 H1 e (P.next e m)
theorem st_retE (P : Pt S Z0 H0 M Z H s) (e : EvE M te σ Z H s X s1) (k : ∀ Z1 H1, Step M.fp Z H Z1 H1 → Pt S Z0 H0 M Z1 H1 s1 → X H1) : tRet te D σ H :=
  e Z H (Same.refl _) SameX.refl P.sub P.m _ fun Z1 H1 e m => k Z1 H1 e (P.next e m)
theorem st_exprE (P : Pt S Z0 H0 M Z H s) (e : EvE M te σ Z H s X s1) (k : ∀ Z1 H1, Step M.fp Z H Z1 H1 → Pt S Z0 H0 M Z1 H1 s1 → X H1) : tDrop te D σ H :=
  e Z H (Same.refl _) SameX.refl P.sub P.m _ fun Z1 H1 e m => k Z1 H1 e (P.next e m)
theorem st_ifE {tt : TT} (P : Pt S Z0 H0 M Z H s) (e : EvTE M tt σ Z H s X s1) (k : ∀ Z1 H1, Step M.fp Z H Z1 H1 → Pt S Z0 H0 M Z1 H1 s1 → X H1) : tIfS tt u w D σ H :=
  e Z H (Same.refl _) SameX.refl P.sub P.m _ fun Z1 H1 e m => k Z1 H1 e (P.next e m)
/-- a field of the thing that is being made -/
theorem ev_selfF {α : Type} {τ : Ty α} {x : α} {i : Nat} {p C dx : Addr} {fs : List (Str × V)} {f : Str} {v : V} (hp : H p = some (.ins C dx fs)) (np : p ∉ M.fp) (hσ : σ[i]? = some (some (.ref p))) (c : Cls K C) (n : NoAttr K C f) (l : fs.lookup f = some v) (hv : τ.r Z v x) : Ev M (tFld K (tVar i) f) σ Z H s (ty τ x) s :=
  fun Z1 H1 a b c' d Q q => ⟨.ref p, hσ, p, C, dx, fs, v, rfl, b _ _ np hp, c, n, l, q _ _ _ (Step.refl c') d (τ.mono a hv)⟩
end
end TP
namespace TP
open PySem PySem.Spec PyProof.Rows L2

theorem pi_tupB {X : Cx} {K : PySem.W.Frag} (hK : X.K = K) {tg l : Expr} {tl : TE} (hl : PE X l tl) : PI X tg l (iTup K tl) := by
  subst hK
  exact pi_tup hl
theorem pi_listB {X : Cx} {K : PySem.W.Frag} (hK : X.K = K) {tg l : Expr} {tl : TE} (hl : PE X l tl) : PI X tg l (iList K tl) := by
  subst hK
  exact pi_list hl
def rLenB (K : PySem.W.Frag) : List V → Hp → VK → Prop := fun xs H Q => ∃ p ys, xs = [.ref p] ∧ (SqL K H p ys ∨ SqT K H p ys) ∧ Q (.int ys.length) H
def rListB (K : PySem.W.Frag) : List V → Hp → VK → Prop := fun xs H Q => ∃ p ys, xs = [.ref p] ∧ (SqL K H p ys ∨ SqT K H p ys) ∧ ∀ l, H l = none → Q (.ref l) (upd H l (.lst ys))
def rTupleB (K : PySem.W.Frag) : List V → Hp → VK → Prop := fun xs H Q => ∃ p ys, xs = [.ref p] ∧ ((SqL K H p ys ∧ ∀ l, H l = none → Q (.ref l) (upd H l (.tup ys))) ∨ (SqT K H p ys ∧ Q (.ref p) H))
theorem pe_fldB {X : Cx} {K : PySem.W.Frag} (hK : X.K = K) {e : Expr} {f : Str} {pos : Pos} {ta : TE} (he : PE X e ta) (hb : attributeBase e f X.env (eval e X.env) = eval e X.env) : PE X (.Attribute e f pos) (tFld K ta f) := by
  subst hK
  exact pe_fld he hb
end TP

namespace TP
open PySem PySem.Spec PyProof.Rows L2
theorem kit_self {K : PySem.W.Frag} {C : Addr} : PySem.W.kitOne K (.ref C) (.ref C) = some true := by
  unfold PySem.W.kitOne
  rw [if_pos (by simp)]
theorem kit_sub {K : PySem.W.Frag} {t : Value} {C : Addr} {v : Bool} (h1 : PySem.W.isClsIn K C = true) (h2 : PySem.W.typeIn K (.ref C) = some (.type "type")) (h3 : PySem.W.subIn K t (.ref C) = some v) (h4 : (t == .ref C) = false) : PySem.W.kitOne K t (.ref C) = some v := by
  unfold PySem.W.kitOne
  rw [h4, if_neg Bool.false_ne_true]
  unfold PySem.W.kitCls
  have h1' : (PySem.W.clsIn K C).isSome = true := h1
  simp only [h1', h2, Bool.true_and]
  simp [h3]
theorem kit_subN {K : PySem.W.Frag} {t : Value} {C : Addr} (h1 : PySem.W.isClsIn K C = true) (h2 : PySem.W.typeIn K (.ref C) = some (.type "type")) (h3 : PySem.W.subIn K t (.ref C) = some false) (h4 : PySem.W.subIn K (.ref C) (.ref C) = some true) : PySem.W.kitOne K t (.ref C) = some false := by
  refine kit_sub h1 h2 h3 ?_
  cases e : (t == .ref C) with
  | false => rfl
  | true =>
    have e' : t = .ref C := beq_iff_eq.mp e
    rw [e', h4] at h3
    cases h3
theorem nf_self {K : PySem.W.Frag} {C : Addr} : PySem.W.notFirst K C (.ref C) = true := by simp [PySem.W.notFirst]
theorem nf_sub {K : PySem.W.Frag} {C : Addr} {t : Value} (h : PySem.W.subIn K t (.ref C) = some false) : PySem.W.notFirst K C t = true := by simp [PySem.W.notFirst, h]
end TP

namespace TP
open PySem PySem.Spec PyProof.Rows L2
/-! ### slots of a block forgotten -/
theorem wipe_at {σ : L2.St} {j : Nat} : ∀ {vs : List Nat}, (wipe σ vs)[j]? = if j ∈ vs then (σ[j]?).map fun _ => none else σ[j]?
  | [] => by simp [wipe]
  | v :: vs => by
    unfold wipe
    by_cases h : v = j
    · subst h
      rw [if_pos List.mem_cons_self]
      by_cases hl : v < σ.length
      · rw [List.getElem?_set_self (by rw [wipe_length]; exact hl), List.getElem?_eq_getElem hl]; rfl
      · rw [List.getElem?_eq_none (by rw [List.length_set, wipe_length]; omega), List.getElem?_eq_none (by omega)]; rfl
    · rw [List.getElem?_set_ne h, wipe_at (vs := vs)]
      by_cases g : j ∈ vs
      · rw [if_pos g, if_pos (List.mem_cons_of_mem _ g)]
      · rw [if_neg g, if_neg (fun z => (List.mem_cons.mp z).elim (fun q => h q.symm) g)]
theorem wpe_z {σ : L2.St} {vs : List Nat} : wipe (wipe σ vs) vs = wipe σ vs := by
  refine List.ext_getElem? fun j => ?_
  rw [wipe_at, wipe_at]
  by_cases g : j ∈ vs
  · rw [if_pos g, if_pos g]; cases σ[j]? <;> rfl
  · rw [if_neg g, if_neg g]
theorem wpe_s {σ σ1 : L2.St} {vs : List Nat} {i : Nat} {x : Option V} (h : wipe σ1 vs = wipe σ vs) (m : i ∈ vs) : wipe (σ1.set i x) vs = wipe σ vs := by
  rw [← h]
  refine List.ext_getElem? fun j => ?_
  rw [wipe_at, wipe_at]
  by_cases g : j ∈ vs
  · rw [if_pos g, if_pos g]
    by_cases e : i = j
    · subst e
      by_cases hl : i < σ1.length
      · rw [List.getElem?_set_self hl, List.getElem?_eq_getElem hl]; rfl
      · rw [List.getElem?_eq_none (by rw [List.length_set]; omega), List.getElem?_eq_none (by omega)]
    · rw [List.getElem?_set_ne e]
  · rw [if_neg g, if_neg g, List.getElem?_set_ne (fun e => g (by rw [← e]; exact m))]
end TP

namespace TP
open PySem PySem.Spec PyProof.Rows L2
/-- the slots written out -/
theorem st_norm {nx : L2.St → Hp → Prop} {σ σ' : L2.St} {H : Hp} (e : σ = σ') (h : nx σ' H) : nx σ H := by
  rw [e]; exact h
end TP

/-! != of instances with an own ==, and == and != of such an instance with anything -/
namespace TPN
open PySem PySem.Spec PyProof.Rows L2
section
variable {M : Model} {prog : Program} {w : World} {A : Around} {E : Value → Shared → Prop} {s : Shared} {K : PySem.W.Frag} {x C f : Addr} {ox : Obj} {od : Option Obj} {b tb : Value}
theorem ifBound_ne {args : List Value} {Q : Option Value → Shared → Prop} (X : K.In s.heap) (I : PySem.W.InstAt s.heap x ox C od) (hs : PySem.W.findIn K (.ref C) "__ne__" = some (some (.builtin "object.__ne__")))
    (h : wpAny M A (call (.builtin "object.__ne__") (.ref x :: args)) (fun v => Q (some v)) E s) : wpAny M A (callSpecialIfBound? (.ref x) "__ne__" args) Q E s := by
  simp only [callSpecialIfBound?, bindSpecialIfBound?]
  refine wpAny_holding (wpAny_bind (wpAny_bind (wpAny_bind (I.type.here ((PySem.W.looks_findIn X hs).here ?_)))))
  refine wpAny_bind (wpAny_askSetting (wpAny_ite ?_))
  have fin : wpAny M A (call (.builtin "object.__ne__") ([.ref x] ++ args) >>= fun v => pure (some v)) Q E s := wpAny_bind (wpAny_mono h (fun v s' h' => wpAny_pure h') fun _ _ h' => h')
  split
  · exact wpAny_bind (wpAny_of_eq (F.cmp_object.ne.bind _) (wpAny_pure (by exact fin)))
  · exact wpAny_tryCatch (wpAny_bind (wpAny_of_eq (F.cmp_object.ne.bind _) (wpAny_pure (by exact fin))))
theorem entry_ne {Q : Fin → Shared → Prop} (hu : A.units < cLine) (X : K.In s.heap) (I : PySem.W.InstAt s.heap x ox C od) (hs : PySem.W.findIn K (.ref C) "__eq__" = some (some (.ref f))) (hf : PySem.W.isFn K (.ref f) = true)
    (h : wpAny M A (call (.ref f) [.ref x, b]) (fun v s' => ∃ r, v = .bool r ∧ Q (.done (.ret (.bool (!r)))) s') E s) : wpAny M A (Builtin.«object.__ne__» ⟨[.ref x, b], []⟩) Q E s := by
  unfold Builtin.«object.__ne__»
  repeat (first
    | with_reducible refine wpAny_cRoomFor hu ?_
    | (refine wpAny_bind (m := callSpecialIfBound? (.ref x) (Str.ofString "__eq__") [b]) (PySem.W.ifBound_K X I hs hf (wpAny_mono h (fun r s' hr => by
        obtain ⟨b, rfl, hq⟩ := hr
        repeat (first | exact hq | exact wpAny_pure hq | exact wpAny_truthy_bool hq | (refine wpAny_bind (m := truthy (.bool _)) (wpAny_truthy_bool ?_)) | wp_step)) fun _ _ e => e)))
    | wp_step)
theorem call_ne {Q : Value → Shared → Prop} (hu : A.units + 1 < cLine) (X : K.In s.heap) (I : PySem.W.InstAt s.heap x ox C od) (hm : PySem.W.mroIn K C (.type "object") = some true) (hs : PySem.W.findIn K (.ref C) "__eq__" = some (some (.ref f))) (hf : PySem.W.isFn K (.ref f) = true)
    (h : wpAny (model prog w) A.in1 (call (.ref f) [.ref x, b]) (fun v s' => ∃ r, v = .bool r ∧ Q (.bool (!r)) s') E s) :
    wpAny (model prog w) A (call (.builtin "object.__ne__") [.ref x, b]) Q E s :=
  wpAny_call (codeAny_call_builtin F.cmp_object.ne.plain F.cmpEntry_ne (PySem.W.check_slot F.cmpKind_ne F.cmpSplit_ne (I.type.andThen (PySem.W.looks_mroIn X hm)) (F.cmpArgs_ne _ _) (entry_ne (A := A.in1) hu X I hs hf (wpAny_mono h (fun v s' hv => by
    obtain ⟨r, e, q⟩ := hv
    exact ⟨r, e, q⟩) fun _ _ e => e))))
theorem ne_K {Q : Value → Shared → Prop} (hu : A.units + 1 < cLine) (X : K.In s.heap) (I : PySem.W.InstAt s.heap x ox C od) (hb : PySem.W.Looks (model prog w) s.heap (typeOf b) tb) (hn : PySem.W.notFirst K C tb = true)
    (hm : PySem.W.mroIn K C (.type "object") = some true) (hne : PySem.W.findIn K (.ref C) "__ne__" = some (some (.builtin "object.__ne__")))
    (hs : PySem.W.findIn K (.ref C) "__eq__" = some (some (.ref f))) (hf : PySem.W.isFn K (.ref f) = true)
    (h : wpAny (model prog w) A.in1 (call (.ref f) [.ref x, b]) (fun v s' => ∃ r, v = .bool r ∧ Q (.bool (!r)) s') E s) : wpAny (model prog w) A (richCompare .NotEq (.ref x) b) Q E s := by
  have one : wpAny (model prog w) A (tryCompare (.ref x) "__ne__" b) (fun r s' => ∃ v, r = some v ∧ Q v s') E s := by
    unfold tryCompare
    refine wpAny_bind (ifBound_ne X I hne (call_ne hu X I hm hs hf (wpAny_mono h (fun v s' hv => ?_) fun _ _ e => e)))
    obtain ⟨r, rfl, q⟩ := hv
    exact ⟨r, rfl, wpAny_pure ⟨_, rfl, q⟩⟩
  unfold richCompare
  simp only [oneThing_ref]
  refine wpAny_holding (wpAny_bind (wpAny_cRoomFor (by omega) ?_))
  rw [cmpInfo_NotEq]
  dsimp only
  refine wpAny_bind (I.type.here (wpAny_bind (hb.here ?_)))
  split
  · rename_i q
    have e : PySem.W.subIn K tb (.ref C) = some false := by
      rcases Bool.or_eq_true_iff.mp hn with e | e
      · rw [beq_iff_eq.mp e] at q; simp at q
      · exact beq_iff_eq.mp e
    refine wpAny_bind ((PySem.W.looks_subIn X e).here ?_)
    simp only [Bool.false_eq_true, if_false]
    refine wpAny_bind (wpAny_mono one (fun r s' z => ?_) fun _ _ e => e)
    obtain ⟨v, rfl, hq⟩ := z
    exact wpAny_pure hq
  · refine wpAny_bind (wpAny_pure ?_)
    simp only [Bool.false_eq_true, if_false]
    refine wpAny_bind (wpAny_mono one (fun r s' z => ?_) fun _ _ e => e)
    obtain ⟨v, rfl, hq⟩ := z
    exact wpAny_pure hq
end
end TPN
namespace TPN
open PySem PySem.Spec PyProof.Rows L2
/-- == (neg false) or != of x, an instance of a class with an own ==, with anything -/
def rOwnE (K : PySem.W.Frag) (C : Addr) (neg : Bool) (sp : Sp) (E : XK) : R2 := fun x y H Q => ∃ a dx fs t, x = .ref a ∧ H a = some (.ins C dx fs) ∧ TyX K H y t ∧ PySem.W.notFirst K C t = true ∧ sp [x, y] H (fun z H' => ∃ b, z = .bl b ∧ Q (.bl (b != neg)) H') E
theorem nf_self {K : PySem.W.Frag} {C : Addr} : PySem.W.notFirst K C (.ref C) = true := by simp [PySem.W.notFirst]
theorem op_ownE {X : Cx} {CX : CXT} {C f : Addr} {fd : FuncData} {ps : List Str} {sp : Sp} {n : Nat} {E : XK} (M : Meth X.K C "__eq__" f) (F : FnOk X.prog X.w X.K X.mg X.base CX n f fd ps sp) (hr : Room n X.A)
    (hb : Binds X.K fd ps []) (hx : Passes CX X E) : OpR X (compareOp .Eq) (rOwnE X.K C false sp E) := by
  intro pins s σ H x y v u Q I rx ry h
  obtain ⟨a, dx, fs, t, rfl, ha, ty, hn, q⟩ := h
  cases (show v = Value.ref a from rx)
  obtain ⟨mA, J, _⟩ := ins_get I.hok ha
  obtain ⟨od, J, _⟩ := J.look
  obtain ⟨P, Z, p, _⟩ := kit_of I ry ty
  obtain ⟨m, hF⟩ := I.fr
  show wpAny (model X.prog X.w) X.A (richCompare .Eq (.ref a) u) _ _ _
  refine PySem.W.cmp_K (op := .Eq) (tb := t) hr.units0 hF I.ok.mod.kin J (Z.ty _ _ I.kIn p) hn M.at_ M.fn ?_
  refine wpAny_mono (run_fn (Q := fun z H' => ∃ b, z = .bl b ∧ Q (.bl (b != false)) H') (us := [.ref a, u]) (vs := [.ref a, y]) F hr hb .nil hx I (.cons rfl (.cons ry .nil)) (by simpa using q)) (fun w s' z => ?_) fun _ _ x => x
  obtain ⟨z', H', I', rz, b, ez, qz⟩ := z
  subst ez
  cases (show w = Value.bool b from rz)
  exact ⟨.bl b, H', I', rfl, by simpa using qz⟩
theorem op_ownNE {X : Cx} {CX : CXT} {C f : Addr} {fd : FuncData} {ps : List Str} {sp : Sp} {n : Nat} {E : XK} (hm : PySem.W.mroIn X.K C (.type "object") = some true) (hne : PySem.W.findIn X.K (.ref C) "__ne__" = some (some (.builtin "object.__ne__")))
    (M : Meth X.K C "__eq__" f) (F : FnOk X.prog X.w X.K X.mg X.base CX n f fd ps sp) (hr : Room (n + 1) X.A)
    (hb : Binds X.K fd ps []) (hx : ∀ (pins : List (Addr × Obj)) (σ : L2.St) (H : Hp) (s : Shared) (e : Value) (s' : Shared), Inv X pins σ H s → CX X.stack H s E e s' → X.xe e s') : OpR X (compareOp .NotEq) (rOwnE X.K C true sp E) := by
  intro pins s σ H x y v u Q I rx ry h
  obtain ⟨a, dx, fs, t, rfl, ha, ty, hn, q⟩ := h
  cases (show v = Value.ref a from rx)
  obtain ⟨mA, J, _⟩ := ins_get I.hok ha
  obtain ⟨od, J, _⟩ := J.look
  obtain ⟨P, Z, p, _⟩ := kit_of I ry ty
  show wpAny (model X.prog X.w) X.A (richCompare .NotEq (.ref a) u) _ _ _
  have hr1 : Room n X.A.in1 := hr.in1
  refine ne_K (A := X.A) (tb := t) (by have := hr1.units0; exact this) I.kIn J (Z.ty _ _ I.kIn p) hn hm hne M.at_ M.fn ?_
  have e0 : Env0 X.prog X.w X.K X.mg X.base X.A.in1 X.stack s H := I.env0.in1
  have r2 : Vals [V.ref a, y] [Value.ref a, u] := .cons rfl (.cons ry .nil)
  have hl : ([Value.ref a, u] : List Value).length = ps.length := by rw [← r2.length]; exact F.len _ _ _ _ q
  refine wpAny_call (codeAny_mono (F.run X.A.in1 X.stack s H ⟨[.ref a, u], []⟩ [.ref a, u] [.ref a, y] _ E hr1 e0 (by
    have := hb s [.ref a, u] I.kIn (by simpa using hl)
    simpa using this) r2 q) fun r s' hq => ?_)
  cases r with
  | error e => exact hx pins σ H s e s' I hq
  | ok fl =>
    cases fl with
    | ret w =>
      obtain ⟨z, H', I', rz, b, ez, qz⟩ := I.after hq
      subst ez
      cases (show w = Value.bool b from rz)
      exact ⟨b, rfl, .bl (!b), H', I', rfl, by simpa using qz⟩
    | next => exact False.elim hq
    | brk => exact False.elim hq
    | cont => exact False.elim hq
end TPN

namespace TPN
open PySem PySem.Spec PyProof.Rows L2 PySem.SeqAt
section
variable {prog : Program} {w : World} {A : Around} {E : Value → Shared → Prop} {s : Shared} {K : PySem.W.Frag} {y C f : Addr} {oy : Obj} {od : Option Obj}
/-- None == an instance: its own == is asked -/
theorem eq_none_ref {Q : Value → Shared → Prop} (hu : A.units < cLine) (X : K.In s.heap) (I : PySem.W.InstAt s.heap y oy C od) (hsub : PySem.W.subIn K (.ref C) (.type "NoneType") = some false)
    (hs : PySem.W.findIn K (.ref C) "__eq__" = some (some (.ref f))) (hf : PySem.W.isFn K (.ref f) = true)
    (h : wpAny (model prog w) A (call (.ref f) [.ref y, .none]) (fun v s' => ∃ r, v = .bool r ∧ Q (.bool r) s') E s) : wpAny (model prog w) A (richCompare .Eq .none (.ref y)) Q E s := by
  have one : wpAny (model prog w) A (tryCompare .none "__eq__" (.ref y)) (fun r s' => r = none ∧ s' = s) E s :=
    wpAny_tryCompare_declines (show s.TypeIs .none "NoneType" from rfl) F.slot_NoneType_eq (call_gives F.slot_NoneType_eq rfl F.entry_NoneType_eq (F.args_NoneType_eq_2 _ _) (NoneType___eq___none_ref_0 y) ⟨rfl, rfl, rfl⟩)
  have two : wpAny (model prog w) A (tryCompare (.ref y) "__eq__" .none) (fun r s' => ∃ v, r = some v ∧ Q v s') E s := by
    unfold tryCompare
    refine wpAny_bind (PySem.W.ifBound_K X I hs hf (wpAny_mono h (fun v s' hv => ?_) fun _ _ e => e))
    obtain ⟨r, rfl, q⟩ := hv
    exact wpAny_pure ⟨_, rfl, q⟩
  have e0 : oneThing? .Eq .none (.ref y) = none := rfl
  simp only [richCompare, cmpInfo_Eq, e0]
  refine wpAny_holding (wpAny_bind (wpAny_cRoomFor hu ?_))
  refine wpAny_bind (wpAny_typeOf (show s.TypeIs .none "NoneType" from rfl) ?_)
  refine wpAny_bind (I.type.here ?_)
  have fin : wpAny (model prog w) A (tryCompare .none "__eq__" (.ref y)) (fun r s' => r = none ∧ s' = s) E s := one
  split
  · refine wpAny_bind ((PySem.W.looks_subIn X hsub).here ?_)
    simp only [Bool.false_eq_true, if_false, Bool.not_false, if_true]
    refine wpAny_bind (m := tryCompare .none _ (.ref y)) (wpAny_mono one (fun r s1 z => ?_) fun _ _ e => e)
    obtain ⟨z1, z2⟩ := z
    subst z1
    subst z2
    refine wpAny_bind (m := tryCompare (.ref y) _ .none) (wpAny_mono two (fun r s2 z => ?_) fun _ _ e => e)
    obtain ⟨v, rfl, q⟩ := z
    exact wpAny_pure q
  · rename_i q
    exact absurd (by simp) q
end
/-- == of what may be None or an instance of the class at C with an own == -/
def rOptE (K : PySem.W.Frag) (C : Addr) (sp : Sp) (E : XK) : R2 := fun x y H Q => (x = .non ∧ y = .non ∧ Q (.bl true) H) ∨ (x = .non ∧ (∃ a dx fs, y = .ref a ∧ H a = some (.ins C dx fs)) ∧ sp [y, x] H (fun z H' => ∃ b, z = .bl b ∧ Q (.bl b) H') E) ∨ rOwnE K C false sp E x y H Q
theorem op_optE {X : Cx} {CX : CXT} {C f : Addr} {fd : FuncData} {ps : List Str} {sp : Sp} {n : Nat} {E : XK} (hn : PySem.W.subIn X.K (.ref C) (.type "NoneType") = some false) (M : Meth X.K C "__eq__" f) (F : FnOk X.prog X.w X.K X.mg X.base CX n f fd ps sp) (hr : Room n X.A)
    (hb : Binds X.K fd ps []) (hx : Passes CX X E) : OpR X (compareOp .Eq) (rOptE X.K C sp E) := by
  intro pins s σ H x y v u Q I rx ry h
  rcases h with ⟨rfl, rfl, q⟩ | ⟨rfl, ⟨a, dx, fs, rfl, ha⟩, q⟩ | h
  · exact op_eq pins s σ H .non .non v u Q I rx ry ⟨rfl, by simpa using q⟩
  · cases rx
    cases (show u = Value.ref a from ry)
    obtain ⟨mA, J, _⟩ := ins_get I.hok ha
    obtain ⟨od, J, _⟩ := J.look
    show wpAny (model X.prog X.w) X.A (richCompare .Eq .none (.ref a)) _ _ _
    refine eq_none_ref hr.units0 I.kIn J hn M.at_ M.fn ?_
    refine wpAny_mono (run_fn (Q := fun z H' => ∃ b, z = .bl b ∧ Q (.bl b) H') (us := [.ref a, .none]) (vs := [.ref a, .non]) F hr hb .nil hx I (.cons rfl (.cons rfl .nil)) (by simpa using q)) (fun w s' z => ?_) fun _ _ x => x
    obtain ⟨z', H', I', rz, b, ez, qz⟩ := z
    subst ez
    cases (show w = Value.bool b from rz)
    exact ⟨b, rfl, .bl b, H', I', rfl, qz⟩
  · exact op_ownE M F hr hb hx pins s σ H x y v u Q I rx ry h
end TPN

namespace TP
open PySem PySem.Spec PyProof.Rows L2
/-! ### data by what == says of it -/
structure EqW (K : PySem.W.Frag) {α : Type} (τ : Ty α) (d : α → PyData) (n : Nat) : Prop where
  dp : ∀ Z H v x, Same Z H → τ.r Z v x → Dp K H v (d x)
  lay : ∀ Z v x, τ.r Z v x → (d x).canLay0 = true
  dep : ∀ x, (d x).depth ≤ n
def dLst {α : Type} (d : α → PyData) (xs : List α) : PyData := .list (xs.map d)
def dTup {α : Type} (d : α → PyData) (xs : List α) : PyData := .tuple (xs.map d)
def dP1 {α : Type} (d : α → PyData) (x : α) : PyData := .tuple [d x]
def dP2 {α β : Type} (d : α → PyData) (e : β → PyData) (x : α × β) : PyData := .tuple [d x.1, e x.2]
def dP3 {α β γ : Type} (d : α → PyData) (e : β → PyData) (f : γ → PyData) (x : α × β × γ) : PyData := .tuple [d x.1, e x.2.1, f x.2.2]
def dP4 {α β γ δ : Type} (d : α → PyData) (e : β → PyData) (f : γ → PyData) (g : δ → PyData) (x : α × β × γ × δ) : PyData := .tuple [d x.1, e x.2.1, f x.2.2.1, g x.2.2.2]
def dNon (_ : Unit) : PyData := .none
section
variable {K : PySem.W.Frag} {α β γ δ : Type} {τ : Ty α} {υ : Ty β} {φ : Ty γ} {ψ : Ty δ} {d : α → PyData} {e : β → PyData} {f : γ → PyData} {g : δ → PyData} {n m k l : Nat}
theorem EqD.w (E : EqD K τ d n) : EqW K τ d n := ⟨E.dp, E.lay, E.dep⟩
theorem EqW.all (E : EqW K τ d n) {Z H : Hp} (sz : Same Z H) : ∀ {vs : List V} {xs : List α}, All (τ.r Z) vs xs → DpAll K H vs (xs.map d)
  | _, _, .nil => .nil
  | _, _, .cons h t => .cons (E.dp _ _ _ _ sz h) (E.all sz t)
theorem EqW.lays (E : EqW K τ d n) {Z : Hp} : ∀ {vs : List V} {xs : List α}, All (τ.r Z) vs xs → PyData.canLayAll0 (xs.map d) = true
  | _, _, .nil => by simp [PyData.canLayAll0]
  | _, _, .cons h t => by
    have h1 := E.lay _ _ _ h
    have h2 := E.lays t
    simp [PyData.canLayAll0, h1, h2]
theorem EqW.deps (E : EqW K τ d n) : ∀ xs : List α, PyData.depthAll (xs.map d) ≤ n
  | [] => by simp [PyData.depthAll]
  | x :: r => by
    have h1 := E.dep x
    have h2 := E.deps r
    simp only [List.map_cons, PyData.depthAll]
    omega
theorem eqw_list (E : EqW K τ d n) : EqW K (yList τ) (dLst d) (n + 1) where
  dp := fun Z H v x sz ⟨a, vs, e, h, t, _⟩ => by subst e; exact .lst (SqL.of (sz _ _ h)) (E.all sz t)
  lay := fun Z v x ⟨a, vs, e, h, t, _⟩ => by simpa [PyData.canLay0, dLst] using E.lays t
  dep := fun x => by have := E.deps x; simp only [PyData.depth, dLst]; omega
theorem eqw_tup (E : EqW K τ d n) : EqW K (yTup K τ) (dTup d) (n + 1) where
  dp := fun Z H v x sz ⟨a, vs, e, h, t, _⟩ => by subst e; exact .tup (seqT_same sz h) (E.all sz t)
  lay := fun Z v x ⟨a, vs, e, h, t, _⟩ => by simpa [PyData.canLay0, dTup] using E.lays t
  dep := fun x => by have := E.deps x; simp only [PyData.depth, dTup]; omega
theorem eqw_p1 (E : EqW K τ d n) : EqW K (yP1 K τ) (dP1 d) (n + 1) where
  dp := fun Z H v x sz ⟨a, v1, e, h, h1⟩ => by subst e; exact .tup (seqT_same sz h) (.cons (E.dp _ _ _ _ sz h1) .nil)
  lay := fun Z v x ⟨a, v1, e, h, h1⟩ => by simp [PyData.canLay0, PyData.canLayAll0, dP1, E.lay _ _ _ h1]
  dep := fun x => by have := E.dep x; simp only [PyData.depth, PyData.depthAll, dP1]; omega
theorem eqw_p2 (E : EqW K τ d n) (F : EqW K υ e m) : EqW K (yP2 K τ υ) (dP2 d e) (max n m + 1) where
  dp := fun Z H v x sz ⟨a, v1, v2, e, h, h1, h2⟩ => by subst e; exact .tup (seqT_same sz h) (.cons (E.dp _ _ _ _ sz h1) (.cons (F.dp _ _ _ _ sz h2) .nil))
  lay := fun Z v x ⟨a, v1, v2, e, h, h1, h2⟩ => by simp [PyData.canLay0, PyData.canLayAll0, dP2, E.lay _ _ _ h1, F.lay _ _ _ h2]
  dep := fun x => by have := E.dep x.1; have := F.dep x.2; simp only [PyData.depth, PyData.depthAll, dP2]; omega
theorem eqw_p3 (E : EqW K τ d n) (F : EqW K υ e m) (G : EqW K φ f k) : EqW K (yP3 K τ υ φ) (dP3 d e f) (max n (max m k) + 1) where
  dp := fun Z H v x sz ⟨a, v1, v2, v3, e, h, h1, h2, h3⟩ => by subst e; exact .tup (seqT_same sz h) (.cons (E.dp _ _ _ _ sz h1) (.cons (F.dp _ _ _ _ sz h2) (.cons (G.dp _ _ _ _ sz h3) .nil)))
  lay := fun Z v x ⟨a, v1, v2, v3, e, h, h1, h2, h3⟩ => by simp [PyData.canLay0, PyData.canLayAll0, dP3, E.lay _ _ _ h1, F.lay _ _ _ h2, G.lay _ _ _ h3]
  dep := fun x => by have := E.dep x.1; have := F.dep x.2.1; have := G.dep x.2.2; simp only [PyData.depth, PyData.depthAll, dP3]; omega
theorem eqw_p4 (E : EqW K τ d n) (F : EqW K υ e m) (G : EqW K φ f k) (I : EqW K ψ g l) : EqW K (yP4 K τ υ φ ψ) (dP4 d e f g) (max n (max m (max k l)) + 1) where
  dp := fun Z H v x sz ⟨a, v1, v2, v3, v4, e, h, h1, h2, h3, h4⟩ => by subst e; exact .tup (seqT_same sz h) (.cons (E.dp _ _ _ _ sz h1) (.cons (F.dp _ _ _ _ sz h2) (.cons (G.dp _ _ _ _ sz h3) (.cons (I.dp _ _ _ _ sz h4) .nil))))
  lay := fun Z v x ⟨a, v1, v2, v3, v4, e, h, h1, h2, h3, h4⟩ => by simp [PyData.canLay0, PyData.canLayAll0, dP4, E.lay _ _ _ h1, F.lay _ _ _ h2, G.lay _ _ _ h3, I.lay _ _ _ h4]
  dep := fun x => by have := E.dep x.1; have := F.dep x.2.1; have := G.dep x.2.2.1; have := I.dep x.2.2.2; simp only [PyData.depth, PyData.depthAll, dP4]; omega
theorem eqw_non : EqW K yNon dNon 0 := ⟨fun _ _ _ x _ h => by cases h; exact .non, fun _ _ _ _ => rfl, fun _ => Nat.le_refl _⟩
theorem eqw_opt (E : EqW K τ d n) : EqW K (yOpt τ) (optD d) n where
  dp := fun Z H v x sz h => match x, h with
    | none, h => by rw [show v = .non from h]; exact .non
    | some x, h => E.dp _ _ _ _ sz h.1
  lay := fun Z v x h => match x, h with
    | none, h => rfl
    | some x, h => E.lay _ _ _ h.1
  dep := fun x => match x with
    | none => Nat.zero_le _
    | some x => E.dep x
theorem EqW.gd {fp : List Addr} (E : EqW K τ d n) (x : α) : GD K (ty (fp := fp) τ x) (d x) := fun _ _ _ sz h => ⟨E.dp _ _ _ _ sz h, E.lay _ _ _ h⟩
theorem EqW.gdl {fp : List Addr} (E : EqW K τ d n) (xs : List α) : GD K (li (fp := fp) τ xs) (dLst d xs) := fun _ _ _ sz h => by
  obtain ⟨p, vs, rfl, g, t, _⟩ := rdl sz h
  exact ⟨.lst (SqL.of g) (E.all sz t), by simpa [PyData.canLay0, dLst] using E.lays t⟩
theorem EqW.dpt (E : EqW K τ d n) (h : n ≤ 64) (x : α) : (d x).depth ≤ 64 := Nat.le_trans (E.dep x) h
theorem EqW.dpl (E : EqW K τ d n) (h : n + 1 ≤ 64) (xs : List α) : (dLst d xs).depth ≤ 64 := by have := E.deps xs; simp only [PyData.depth, dLst]; omega
end
section
variable {μ : Type} {M : Mu μ} {σ : L2.St} {Z H : Hp} {s s' s1 s2 s3 : μ} {ta tb tc te : TE} {t : TA} {K : PySem.W.Frag}
theorem ev_eqW {R R' : Rr M.fp} {c c' : PyData} (G : GD K R c) (G' : GD K R' c') (l : c.depth ≤ 64) (l' : c'.depth ≤ 64) (ha : Ev M ta σ Z H s R s1) (hb : Ev M tb σ Z H s1 R' s2) : Ev M (tOp (rEqD K) ta tb) σ Z H s (ty yBool (PyData.eqv c c')) s2 :=
  ev_op ha hb fun _ _ _ _ sz e1 e2 _ q => by
    obtain ⟨d1, k1⟩ := G _ _ _ sz e1
    obtain ⟨d2, k2⟩ := G' _ _ _ sz e2
    exact ⟨c, c', d1, d2, shaped_of k1 l (Nat.le_refl _), shaped_of k2 l' (Nat.le_refl _), q _ _ _ (Step.refl sz) rfl⟩
theorem ev_neW {R R' : Rr M.fp} {c c' : PyData} (G : GD K R c) (G' : GD K R' c') (l : c.depth ≤ 64) (l' : c'.depth ≤ 64) (ha : Ev M ta σ Z H s R s1) (hb : Ev M tb σ Z H s1 R' s2) : Ev M (tOp (rNeD K) ta tb) σ Z H s (ty yBool (!PyData.eqv c c')) s2 :=
  ev_op ha hb fun _ _ _ _ sz e1 e2 _ q => by
    obtain ⟨d1, k1⟩ := G _ _ _ sz e1
    obtain ⟨d2, k2⟩ := G' _ _ _ sz e2
    exact ⟨c, c', d1, d2, shaped_of k1 l (Nat.le_refl _), shaped_of k2 l' (Nat.le_refl _), q _ _ _ (Step.refl sz) rfl⟩
theorem ev_cmpS {F : Str → Str → Bool} {x y : Str} (ha : Ev M ta σ Z H s (ty yStr x) s1) (hb : Ev M tb σ Z H s1 (ty yStr y) s2) : Ev M (tOp (fun x y H Q => ∃ i j, x = .str i ∧ y = .str j ∧ Q (.bl (F i j)) H) ta tb) σ Z H s (ty yBool (F x y)) s2 :=
  ev_op ha hb fun _ _ _ _ sz e1 e2 _ q => ⟨x, y, e1.1, e2.1, q _ _ _ (Step.refl sz) rfl⟩
theorem ev_chainG {R1 R0 R3 : Rr M.fp} {r r' : R2} {p q : Bool} (h1 : ∀ Z H x y, Same Z H → R1.r Z H x → R0.r Z H y → ∀ Q : VK, Q (.bl p) H → r x y H Q) (h2 : ∀ Z H x y, Same Z H → R0.r Z H x → R3.r Z H y → ∀ Q : VK, Q (.bl q) H → r' x y H Q)
    (ha : Ev M ta σ Z H s R1 s1) (hb : Ev M tb σ Z H s1 R0 s1) (hc : Ev M tc σ Z H s1 R3 s1) : Ev M (tChain r r' ta tb tc) σ Z H s (ty yBool (p && q)) s1 :=
  fun Z1 H1 a b c d Q k => ha Z1 H1 a b c d _ fun v Z2 H2 e m rv => hb Z2 H2 (a.trans e.z) (b.trans e.h) e.s m _ fun w Z3 H3 e2 m2 rw => by
    have e3 := e.trans e2
    refine h1 Z3 H3 v w e2.s (R1.st e2 rv) rw _ ⟨p, rfl, ?_⟩
    cases p with
    | true => rw [if_pos rfl]; exact hc Z3 H3 (a.trans e3.z) (b.trans e3.h) e3.s m2 _ fun u Z4 H4 e4 m4 ru => h2 Z4 H4 w u e4.s (R0.st e4 rw) ru _ (k _ Z4 H4 (e3.trans e4) m4 rfl)
    | false => rw [if_neg Bool.false_ne_true]; exact k _ Z3 H3 e3 m2 rfl
/-- the third part is read only where the first two hold -/
theorem ev_chainB {i j : Int} {b : Bool} {o : Option Bool} {p r : Int → Int → Bool} (ha : Ev M ta σ Z H s (ty yInt i) s1) (hb : Ev M tb σ Z H s1 (ty yInt j) s1) (hc : p i j = true → ∀ y, o = some y → ∃ k, y = r j k ∧ Ev M tc σ Z H s1 (ty yInt k) s1) (h : (if p i j = true then o else some false) = some b) :
    Ev M (tChain (rI0 fun i j => .bl (p i j)) (rI0 fun i j => .bl (r i j)) ta tb tc) σ Z H s (ty yBool b) s1 := by
  cases hp : p i j with
  | false =>
    rw [if_neg (by rw [hp]; exact Bool.false_ne_true)] at h
    have hb' := Option.some.inj h
    subst hb'
    intro Z1 H1 a b c d Q q
    exact ha Z1 H1 a b c d _ fun v Z2 H2 e m rv => hb Z2 H2 (a.trans e.z) (b.trans e.h) e.s m _ fun w Z3 H3 e2 m2 rw => ⟨i, j, rv, rw, p i j, rfl, by
      rw [hp, if_neg Bool.false_ne_true]
      exact q _ Z3 H3 (e.trans e2) m2 rfl⟩
  | true =>
    rw [if_pos hp] at h
    obtain ⟨k, rfl, hk⟩ := hc hp b h
    have := ev_chainO (b := true) (o := none) (p := p) (r := r) ha hb (fun _ => hk)
    rw [hp, Bool.true_and] at this
    exact this
theorem ev_chainS {F G : Str → Str → Bool} {x y z : Str} (ha : Ev M ta σ Z H s (ty yStr x) s1) (hb : Ev M tb σ Z H s1 (ty yStr y) s1) (hc : Ev M tc σ Z H s1 (ty yStr z) s1) :
    Ev M (tChain (fun x y H Q => ∃ i j, x = .str i ∧ y = .str j ∧ Q (.bl (F i j)) H) (fun x y H Q => ∃ i j, x = .str i ∧ y = .str j ∧ Q (.bl (G i j)) H) ta tb tc) σ Z H s (ty yBool (F x y && G y z)) s1 :=
  ev_chainG (R1 := ty yStr x) (R0 := ty yStr y) (R3 := ty yStr z) (fun _ _ _ _ _ e1 e2 _ q => ⟨x, y, e1.1, e2.1, q⟩) (fun _ _ _ _ _ e1 e2 _ q => ⟨y, z, e1.1, e2.1, q⟩) ha hb hc
theorem ev_isB {x y : Bool} (ha : Ev M ta σ Z H s (ty yBool x) s1) (hb : Ev M tb σ Z H s1 (ty yBool y) s2) : Ev M (tOp rIsB ta tb) σ Z H s (ty yBool (decide (x = y))) s2 :=
  ev_op ha hb fun _ _ _ _ sz e1 e2 _ q => ⟨x, y, e1, e2, q _ _ _ (Step.refl sz) rfl⟩
theorem ev_notB {x y : Bool} (ha : Ev M ta σ Z H s (ty yBool x) s1) (hb : Ev M tb σ Z H s1 (ty yBool y) s2) : Ev M (tOp rNotB ta tb) σ Z H s (ty yBool (!decide (x = y))) s2 :=
  ev_op ha hb fun _ _ _ _ sz e1 e2 _ q => ⟨x, y, e1, e2, q _ _ _ (Step.refl sz) rfl⟩
theorem all_nil {α : Type} {R : V → α → Prop} {vs : List V} {xs : List α} (h : All R vs xs) (e : vs = []) : xs = [] := by
  cases h with
  | nil => rfl
  | cons _ _ => cases e
theorem ev_catT {α : Type} {τ : Ty α} {xs ys : List α} (ha : Ev M ta σ Z H s (ty (yTup K τ) xs) s1) (hb : Ev M tb σ Z H s1 (ty (yTup K τ) ys) s2) (l : xs.length + ys.length ≤ sizeLine) : Ev M (tOp (rCatA K) ta tb) σ Z H s (ty (yTup K τ) (xs ++ ys)) s2 :=
  ev_op ha hb fun Z H v w sz ⟨a, vs, e1, h1, t1, l1⟩ ⟨b, ws, e2, h2, t2, l2⟩ _ q =>
    ⟨a, b, vs, ws, e1, e2, seqT_same sz h1, seqT_same sz h2, by rw [t1.len, t2.len]; exact l,
      fun e => q _ _ _ (Step.refl sz) ⟨b, ws, rfl, h2, by rw [all_nil t1 e]; exact t2, by rw [all_nil t1 e]; exact l2⟩,
      fun _ e => q _ _ _ (Step.refl sz) ⟨a, vs, rfl, h1, by rw [all_nil t2 e, List.append_nil]; exact t1, by rw [all_nil t2 e, List.append_nil]; exact l1⟩,
      fun _ _ p hp => q _ _ _ (Step.new sz hp) ⟨p, _, rfl, sqT_new, (t1.app t2).imp fun _ _ => τ.mono (same_upd (same_none sz hp)), by rw [List.length_append]; exact l⟩⟩
theorem ev_ord {x : Str} (ha : Ev M ta σ Z H s (ty yStr x) s1) (l : x.length = 1) : Ev M (tCB (fun xs H Q => ∃ x, xs = [.str x] ∧ x.length = 1 ∧ Q (.int (x.cps.getD 0 0 : Nat)) H) (tCons ta tNil)) σ Z H s (ty yInt ((x.cps.getD 0 0 : Nat) : Int)) s1 :=
  ev_cb (eva_cons ha eva_nil) fun _ _ vs sz ⟨v, r, e, h, e2⟩ Q q => ⟨x, by rw [e, h.1, show r = [] from e2], l, q _ _ _ (Step.refl sz) rfl⟩
/-- == and != of an instance by its own == with anything -/
theorem ev_ownE {α : Type} {τ : Ty α} {x : α} {R0 : Rr M.fp} {C : Addr} {t : Value} {sp : Sp} {E : XK} {b neg : Bool} (O : ∀ Z v x, τ.r Z v x → ∃ a dx fs, v = .ref a ∧ Z a = some (.ins C dx fs)) (tx : ∀ Z H v, Same Z H → R0.r Z H v → TyX K H v t) (hn : PySem.W.notFirst K C t = true)
    (c : CallS M sp E (rac (ty τ x) (rac R0 ra0)) s2 (ty yBool b) s3) (ha : Ev M ta σ Z H s (ty τ x) s1) (hb : Ev M tb σ Z H s1 R0 s2) : Ev M (tOp (TPN.rOwnE K C neg sp E) ta tb) σ Z H s (ty yBool (b != neg)) s3 :=
  fun Z1 H1 a' b' c' d' Q q => ha Z1 H1 a' b' c' d' _ fun v Z2 H2 e m rv => hb Z2 H2 (a'.trans e.z) (b'.trans e.h) e.s m _ fun w Z3 H3 e2 m2 rw => by
    have rv3 := τ.mono e2.z rv
    obtain ⟨p, dx, fs, rfl, hp⟩ := O _ _ _ rv3
    exact ⟨p, dx, fs, t, rfl, e2.s _ _ hp, tx _ _ _ e2.s rw, hn, c Z3 H3 _ e2.s m2 ⟨_, _, rfl, rv3, _, _, rfl, rw, rfl⟩ _ fun u Z4 H4 e3 m3 ru => ⟨b, ru, q _ Z4 H4 ((e.trans e2).trans e3) m3 rfl⟩⟩
/-- the class of what may be None -/
def clsO {α : Type} (c : Value) : Option α → Value
  | none => .type "NoneType"
  | some _ => c
theorem tx_opt {fp : List Addr} {α : Type} {τ : Ty α} {c : Value} (h : ∀ (x : α) Z H v, Same Z H → (ty (fp := fp) τ x).r Z H v → TyX K H v c) {x : Option α} : ∀ Z H v, Same Z H → (ty (fp := fp) (yOpt τ) x).r Z H v → TyX K H v (clsO c x) := fun Z H v sz e => match x, e with
  | none, e => by rw [show v = .non from e]; exact .base .non
  | some y, e => h y Z H v sz e.1
theorem tx_non {fp : List Addr} {x : Unit} : ∀ Z H v, Same Z H → (ty (fp := fp) yNon x).r Z H v → TyX K H v (.type "NoneType") := fun _ _ _ _ h => by rw [show _ = V.non from h]; exact .base .non
theorem kit_opt {α : Type} {c t : Value} {b : Bool} (h0 : PySem.W.kitOne K (.type "NoneType") t = some false) (h1 : PySem.W.kitOne K c t = some b) (x : Option α) : PySem.W.kitOne K (clsO c x) t = some (x.isSome && b) := match x with
  | none => h0
  | some _ => h1
theorem nf_opt {α : Type} {C : Addr} {c : Value} (h0 : PySem.W.notFirst K C (.type "NoneType") = true) (h1 : PySem.W.notFirst K C c = true) (x : Option α) : PySem.W.notFirst K C (clsO c x) = true := match x with
  | none => h0
  | some _ => h1
def optEqO {α : Type} (f : α → Option α → Option Bool) : Option α → Option α → Option Bool
  | none, none => some true
  | none, some y => f y none
  | some x, y => f x y
theorem ev_optE {α : Type} {τ : Ty α} {a b : Option α} {r : Bool} {f : α → Option α → Option Bool} {C : Addr} {t : Option α → Value} {sp : Sp} {E : XK} (h : optEqO f a b = some r) (O : ∀ Z v x, τ.r Z v x → ∃ a dx fs, v = .ref a ∧ Z a = some (.ins C dx fs))
    (tx : ∀ (y : Option α) Z H v, Same Z H → (ty (fp := M.fp) (yOpt τ) y).r Z H v → TyX K H v (t y)) (hn : ∀ y, PySem.W.notFirst K C (t y) = true) (c : ∀ x y r, f x y = some r → CallS M sp E (rac (ty τ x) (rac (ty (yOpt τ) y) ra0)) s2 (ty yBool r) s2)
    (ha : Ev M ta σ Z H s (ty (yOpt τ) a) s1) (hb : Ev M tb σ Z H s1 (ty (yOpt τ) b) s2) : Ev M (tOp (TPN.rOptE K C sp E) ta tb) σ Z H s (ty yBool r) s2 :=
  fun Z1 H1 a' b' c' d' Q q => ha Z1 H1 a' b' c' d' _ fun v Z2 H2 e m rv => hb Z2 H2 (a'.trans e.z) (b'.trans e.h) e.s m _ fun w Z3 H3 e2 m2 rw => by
    have rv3 := (yOpt τ).mono e2.z rv
    match a, b, h, rv3, rw with
    | none, none, h, rv3, rw => exact .inl ⟨rv3, rw, q _ Z3 H3 (e.trans e2) m2 (congrArg V.bl (Option.some.inj h))⟩
    | none, some y, h, rv3, rw =>
      obtain ⟨p, dx, fs, rfl, hp⟩ := O _ _ _ rw.1
      exact .inr (.inl ⟨rv3, ⟨p, dx, fs, rfl, e2.s _ _ hp⟩, c y none r h Z3 H3 _ e2.s m2 ⟨_, _, rfl, rw.1, _, _, rfl, rv3, rfl⟩ _ fun u Z4 H4 e3 m3 ru => ⟨r, ru, q _ Z4 H4 ((e.trans e2).trans e3) m3 rfl⟩⟩)
    | some x, y, h, rv3, rw =>
      obtain ⟨p, dx, fs, rfl, hp⟩ := O _ _ _ rv3.1
      exact .inr (.inr ⟨p, dx, fs, t y, rfl, e2.s _ _ hp, tx _ _ _ _ e2.s rw, hn y, c x y r h Z3 H3 _ e2.s m2 ⟨_, _, rfl, rv3.1, _, _, rfl, rw, rfl⟩ _ fun u Z4 H4 e3 m3 ru => ⟨r, ru, q _ Z4 H4 ((e.trans e2).trans e3) m3 (by rw [show (r != false) = r by cases r <;> rfl]; exact rfl)⟩⟩)
end
end TP

namespace TP
open PySem PySem.Spec PyProof.Rows L2
/-! ### a list that never changes, or a tuple -/
def iSeq (K : PySem.W.Frag) (tl : TE) : TI := fun σ H R => tl σ H fun x H1 => (∃ a, x = .ref a ∧ (∃ xs, SqL K H1 a xs) ∧ R (Itl K a) H1) ∨ (∃ a, x = .ref a ∧ (∃ xs, SqT K H1 a xs) ∧ R (Itt K a) H1)
theorem pi_seq {X : Cx} {tg l : Expr} {tl : TE} (hl : PE X l tl) : PI X tg l (iSeq X.K tl) := by
  refine ⟨fun pins s σ H R I h => ?_⟩
  refine thn (hl.run pins s σ H _ I h) fun v s1 ⟨x, H1, I1, r1, q1⟩ => ?_
  rcases q1 with q1 | q1
  · obtain ⟨a, e, ⟨xs, hq⟩, q⟩ := q1
    subst e
    cases r1
    obtain ⟨its, rv, p, hz⟩ := I1.list hq
    refine wpAny_pyIter_list p.isList ?_
    refine ⟨s1.heap.objs.size, [s1.heap.objs.size], _, _, H1, rfl, I1.kept (t' := s1.toks) fun b o e => Heap.get?_push_of_some _ e, turn_list a _, ⟨_, Heap.get?_push_size _ rfl, rfl, rfl⟩, fun b hb => ?_, q⟩
    have e : b = s1.heap.objs.size := by simpa using hb
    subst e
    exact I1.fpOk (Nat.le_refl _) (I1.hok.fresh (Nat.le_refl _))
  · obtain ⟨a, e, ⟨xs, hq⟩, q⟩ := q1
    subst e
    cases r1
    obtain ⟨its, rv, p, hz⟩ := I1.tuple hq
    refine wpAny_pyIter_tuple (show s1.heap.IsTuple a its.toArray from p) ?_
    refine ⟨s1.heap.objs.size, [s1.heap.objs.size], _, _, H1, rfl, I1.kept (t' := s1.toks) fun b o e => Heap.get?_push_of_some _ e, turn_tuple a _, ⟨_, Heap.get?_push_size _ rfl, rfl, rfl⟩, fun b hb => ?_, q⟩
    have e : b = s1.heap.objs.size := by simpa using hb
    subst e
    exact I1.fpOk (Nat.le_refl _) (I1.hok.fresh (Nat.le_refl _))
theorem pi_seqB {X : Cx} {K : PySem.W.Frag} (hK : X.K = K) {tg l : Expr} {tl : TE} (hl : PE X l tl) : PI X tg l (iSeq K tl) := by
  subst hK
  exact pi_seq hl
section
variable {K : PySem.W.Frag} {α : Type}
def ySeq (K : PySem.W.Frag) (τ : Ty α) : Ty (List α) := ⟨fun Z v xs => ∃ a vs, v = .ref a ∧ (Z a = some (.lst vs) ∨ SqT K Z a vs) ∧ All (τ.r Z) vs xs ∧ xs.length ≤ sizeLine,
  fun s ⟨a, vs, e, h, t, l⟩ => ⟨a, vs, e, h.imp (fun h => s _ _ h) (seqT_same s), t.imp fun _ _ => τ.mono s, l⟩⟩
theorem nn_seq {τ : Ty α} : NonNil (ySeq K τ) := fun _ _ _ ⟨_, _, e, _⟩ => by rw [e]; exact fun z => nomatch z
section
variable {μ : Type} {M : Mu μ} {σ : L2.St} {Z H : Hp} {s s1 : μ} {ta : TE} {τ : Ty α} {xs : List α} {X : Hp → Hp → Prop}
theorem ev_seqL (h : Ev M ta σ Z H s (ty (yList τ) xs) s1) : Ev M ta σ Z H s (ty (ySeq K τ) xs) s1 := h.weak fun _ _ _ _ ⟨a, vs, e, h, t, l⟩ => ⟨a, vs, e, .inl h, t, l⟩
theorem ev_seqT (h : Ev M ta σ Z H s (ty (yTup K τ) xs) s1) : Ev M ta σ Z H s (ty (ySeq K τ) xs) s1 := h.weak fun _ _ _ _ ⟨a, vs, e, h, t, l⟩ => ⟨a, vs, e, .inr h, t, l⟩
theorem ei_seq (ha : Ev M ta σ Z H s (ty (ySeq K τ) xs) s1) : EvI M X (iSeq K ta) σ Z H s τ xs s1 :=
  fun Z1 H1 a b c d R q => ha Z1 H1 a b c d _ fun v Z2 H2 e m ⟨p, vs, ev, h, t, l⟩ => by
    subst ev
    rcases h with h | h
    · exact .inl ⟨p, rfl, ⟨vs, SqL.of (e.s _ _ h)⟩, q _ Z2 H2 e m (walk_at walk_list (fun Z' H' z sz _ => SqL.of (sz _ _ (z _ _ h))) t l)⟩
    · exact .inr ⟨p, rfl, ⟨vs, seqT_same e.s h⟩, q _ Z2 H2 e m (walk_at walk_tup (fun Z' H' z sz _ => seqT_same sz (seqT_same z h)) t l)⟩
theorem ev_lenS {r : List V → Hp → VK → Prop} (hr : ∀ xs H Q, (∃ p ys, xs = [.ref p] ∧ (SqL K H p ys ∨ SqT K H p ys) ∧ Q (.int ys.length) H) → r xs H Q) (ha : Ev M ta σ Z H s (ty (ySeq K τ) xs) s1) : Ev M (tCB r (tCons ta tNil)) σ Z H s (ty yInt (xs.length : Nat)) s1 :=
  ev_cb (eva_cons ha eva_nil) fun _ _ _ sz ⟨v, r, e, h, e2⟩ _ q => by
    cases e2; cases e
    obtain ⟨p, vs, rfl, g, t, _⟩ := h
    exact hr _ _ _ ⟨p, vs, rfl, g.imp (fun g => SqL.of (sz _ _ g)) (seqT_same sz), by rw [t.len]; exact q _ _ _ (Step.refl sz) rfl⟩
theorem en_list_ofS {r : List V → Hp → VK → Prop} (hr : ∀ xs H Q, (∃ p ys, xs = [.ref p] ∧ (SqL K H p ys ∨ SqT K H p ys) ∧ ∀ l, H l = none → Q (.ref l) (upd H l (.lst ys))) → r xs H Q) (ha : Ev M ta σ Z H s (ty (ySeq K τ) xs) s1) : EvN M (tCB r (tCons ta tNil)) σ Z H s τ xs s1 :=
  en_cb (eva_cons ha eva_nil) fun _ _ _ sz ⟨v, r, e, h, e2⟩ => by
    cases e2; cases e
    obtain ⟨p, vs, rfl, g, t, l⟩ := h
    exact ⟨vs, t, l, fun Q q => hr _ _ _ ⟨p, vs, rfl, g.imp (fun g => SqL.of (sz _ _ g)) (seqT_same sz), q⟩⟩
theorem ev_tuple_ofS {r : List V → Hp → VK → Prop} (hr : ∀ xs H Q, (∃ p ys, xs = [.ref p] ∧ ((SqL K H p ys ∧ ∀ l, H l = none → Q (.ref l) (upd H l (.tup ys))) ∨ (SqT K H p ys ∧ Q (.ref p) H))) → r xs H Q) (ha : Ev M ta σ Z H s (ty (ySeq K τ) xs) s1) : Ev M (tCB r (tCons ta tNil)) σ Z H s (ty (yTup K τ) xs) s1 :=
  ev_cb (eva_cons ha eva_nil) fun _ _ _ sz ⟨v, r, e, h, e2⟩ _ q => by
    cases e2; cases e
    obtain ⟨p, vs, rfl, g, t, l⟩ := h
    rcases g with g | g
    · exact hr _ _ _ ⟨p, vs, rfl, .inl ⟨SqL.of (sz _ _ g), fun d hd => q _ _ _ (Step.new sz hd) ⟨d, vs, rfl, sqT_new, t.imp fun _ _ => τ.mono (same_upd (same_none sz hd)), l⟩⟩⟩
    · exact hr _ _ _ ⟨p, vs, rfl, .inr ⟨seqT_same sz g, q _ _ _ (Step.refl sz) ⟨p, vs, rfl, g, t, l⟩⟩⟩
end
end
end TP

namespace TP
open PySem PySem.Spec PyProof.Rows L2
/-- a list grows by a tuple's items -/
def rExtS (K : PySem.W.Frag) : V → List V → Hp → VK → Prop := fun x vs H Q => ∃ l b xs zs, x = .ref l ∧ vs = [.ref b] ∧ H l = some (.lst xs) ∧ SqT K H b zs ∧ xs.length + zs.length ≤ sizeLine ∧ Q .non (upd H l (.lst (xs ++ zs)))
open PySem.AutoSeq1 in
theorem ext_tup (l b : Addr) (xs ys : Array Value) (n m : Nat) (dd : Option Addr) (sl : Array (Option Value)) (k0 : ¬ (!xs.isEmpty && Builtin.List.listTooLong (xs.size + ys.size)) = true) (k1 : xs.size ≤ sizeLine) (k2 : xs.size + ys.size ≤ sizeLine + 1) :
    Meets (Builtin.«list.extend» ⟨[.ref l, .ref b], []⟩) (fun _ R s => (s.heap.get? b = some ⟨.type "tuple", dd, .seq ys m, sl⟩ ∧ s.heap.get? l = some ⟨.type "list", none, .seq xs n, #[]⟩) ∧
      R (.ok (.ret Value.none)) { s with heap := s.heap.update l (Obj.mapSeq fun z => z ++ ys), toks := s.toks }) :=
  .of_wp fun prog w A R s ⟨⟨gb, gl⟩, q⟩ => by
    obtain ⟨hp, ge, dr, tk, os⟩ := s
    have s1 := PySem.AutoSeq1.idx_int
    have s2 := PySem.AutoSeq1.sub_list_list
    have s3 := PySem.AutoSeq1.sub_tuple_list
    have s4 := PySem.AutoSeq1.sub_tuple_tuple
    have s5 := PySem.AutoSeq1.sub_list_tuple
    have tot : (xs ++ ys).size ≤ sizeLine + 1 := by simpa [Array.size_append] using k2
    wp_walk using (wpAny_updateSeq gl rfl (hz := k1) (_hz' := tot)), wpAny_loadPart' gl, wpAny_loadPart' gb
    exact ⟨_, rfl, q⟩
theorem mt_extendT {X : Cx} : MtM X "list.extend" (rExtS X.K) := by
  intro pins s σ H x vs v us Q I rx rv g
  obtain ⟨l, b, xs, zs, rfl, rfl, gl, gb, gz, q⟩ := g
  cases rx
  obtain ⟨u, rfl, ru⟩ := rv.one
  cases ru
  obtain ⟨_, its, n, r, _, e⟩ := I.lstM gl
  obtain ⟨js, r2, ⟨⟨oc, od, ot, os⟩, e2, e3, m, e4⟩, _⟩ := I.tuple gb
  dsimp only at e3 e4
  subst e3 e4
  have k1 := r.length
  have k2 := r2.length
  have fits : its.toArray.size + js.toArray.size ≤ sizeLine := by
    rw [List.size_toArray, List.size_toArray]
    omega
  have open_ : ¬ (!its.toArray.isEmpty && Builtin.List.listTooLong (its.toArray.size + js.toArray.size)) = true := by
    rw [notLongL fits, Bool.and_false]
    decide
  refine call_meets F.slot_list_extend ⟨_, e, rfl⟩ F.entry_list_extend (F.args_list_extend_2 _ _) (ext_tup l b its.toArray js.toArray n m _ _ open_ (by omega) (by omega)) ⟨⟨e2, e⟩, .non, _, I.lset (its' := its ++ js) gl e (by simp) (r.append r2) (by rw [List.length_append]; omega), rfl, q⟩
section
variable {μ : Type} {S : List Addr} {Z0 H0 : Hp} {M : Mu μ} {σ : L2.St} {Z H : Hp} {s s1 s2 : μ} {ta tb te : TE} {K : PySem.W.Frag} {D : Ends} {α : Type} {τ : Ty α} {xs ys : List α} {p : Addr}
theorem st_extendT {i : Nat} (P : Pt S Z0 H0 M Z H s) (o : Own S H0 M.fp Z H τ p xs) (hσ : σ[i]? = some (some (.ref p))) (e : Ev M te σ Z H s (ty (yTup K τ) ys) s1) (l : xs.length + ys.length ≤ sizeLine)
    (k : ∀ Z1 H1, Step (p :: M.fp) Z H Z1 H1 → Pt S Z0 H0 M Z1 H1 s1 → Own S H0 M.fp Z1 H1 τ p (xs ++ ys) → D.nx σ H1) : tDrop (tBM K "list" (rExtS K) (tVar i) (tCons te tNil)) D σ H := by
  obtain ⟨vs, h, t⟩ := o.ex
  refine ⟨.ref p, hσ, .inl ⟨rfl, _, .inl (.inl h)⟩, e Z H (Same.refl _) SameX.refl P.sub P.m _ fun v Z1 H1 e m ⟨q, ws, ev, hq, t2, _⟩ => ?_⟩
  subst ev
  have o1 := o.next e
  have P1 := P.next e m
  refine ⟨p, q, vs, ws, rfl, rfl, e.h _ _ o.n h, seqT_same e.s hq, by rw [t.len, t2.len]; exact l, ?_⟩
  exact k _ _ (step2 e o1.z) (P1.set o1.z o.n (.inr o.mine)) ⟨⟨_, upd_same, (t.imp fun _ _ => τ.mono e.z).app t2⟩, o1.z, o.n, o.mine, by rw [List.length_append]; exact l⟩
/-- a sign of a text -/
def atSi (x : Str) (i : Int) : Option Str := (atI x.cps.toList i).map fun c => ⟨#[c]⟩
theorem ev_ixS {x y : Str} {i : Int} (ha : Ev M ta σ Z H s (ty yStr x) s1) (hb : Ev M tb σ Z H s1 (ty yInt i) s2) (e : atSi x i = some y) : Ev M (tOp rIxS ta tb) σ Z H s (ty yStr y) s2 :=
  ev_op ha hb fun _ _ _ _ sz e1 e2 _ q => by
    obtain ⟨c, hc, rfl⟩ := Option.map_eq_some_iff.mp e
    have ok := (show (PyData.strOk x && decide (x.length ≤ sizeLine)) = true from e1.2)
    rw [Bool.and_eq_true] at ok
    refine ⟨x, i, c, e1.1, e2, of_decide_eq_true ok.2, hc, q _ _ _ (Step.refl sz) ⟨rfl, ?_⟩⟩
    show (PyData.strOk ⟨#[c]⟩ && decide ((⟨#[c]⟩ : Str).length ≤ sizeLine)) = true
    have h1 : c ∈ x.cps.toList := by
      unfold atI at hc
      obtain ⟨j, _, hj⟩ := Option.bind_eq_some_iff.mp hc
      exact List.mem_of_getElem? hj
    have h2 := ok.1
    unfold PyData.strOk at h2 ⊢
    rw [Array.all_eq_true_iff_forall_mem] at h2
    rw [Bool.and_eq_true]
    refine ⟨?_, by show decide (1 ≤ sizeLine) = true; decide⟩
    simpa using h2 c (by simpa using h1)
end
end TP

namespace TP
open PySem PySem.Spec PyProof.Rows L2
/-! ### things that change: products -/
def muX {α β : Type} (A : Mu α) (B : Mu β) : Mu (α × β) where
  fp := A.fp ++ B.fp
  m := fun s Z H => A.m s.1 Z H ∧ B.m s.2 Z H ∧ ∀ a ∈ A.fp, a ∉ B.fp
  al := fun ⟨h, g, _⟩ a ha => by
    rcases List.mem_append.mp ha with ha | ha
    · exact A.al h a ha
    · exact B.al g a ha
  loc := fun sz hk hn ⟨h, g, d⟩ => ⟨A.loc sz (fun a ha => hk a (List.mem_append_left _ ha)) (fun a ha => hn a (List.mem_append_left _ ha)) h, B.loc sz (fun a ha => hk a (List.mem_append_right _ ha)) (fun a ha => hn a (List.mem_append_right _ ha)) g, d⟩
theorem Mu.keep {μ : Type} {N : Mu μ} {s : μ} {F : List Addr} {Z H Z' H' : Hp} (m : N.m s Z H) (e : Step F Z H Z' H') (d : ∀ a ∈ N.fp, a ∉ F) : N.m s Z' H' :=
  N.loc e.z (fun a ha o h => e.h a o (d a ha) h) (fun a _ h z => e.n a h z) m
section
variable {μ ν ι : Type} {S : List Addr} {Z0 H0 : Hp} {M : Mu μ} {N : Mu ν} {σ : L2.St} {Z H : Hp} {s s' s1 s2 s3 : μ} {c c' : ν} {ta tb tc te : TE} {t : TA} {K : PySem.W.Frag} {D : Ends}
/-- the attribute f of the thing at p -/
def MFld {α : Type} (N : Mu ν) (p C : Addr) (f : Str) (τ : Ty α) (pr : ν → α) : Prop := ∀ c Z H, N.m c Z H → ∃ dx fs w, H p = some (.ins C dx fs) ∧ fs.lookup f = some w ∧ τ.r Z w (pr c)
theorem ev_mfld {α : Type} {τ : Ty α} {p C : Addr} {f : Str} {pr : ν → α} {i : Nat} (hm : ∀ Z H, M.m s Z H → N.m c Z H) (F : MFld N p C f τ pr) (cl : Cls K C) (n : NoAttr K C f) (e : σ[i]? = some (some (.ref p))) : Ev M (tFld K (tVar i) f) σ Z H s (ty τ (pr c)) s :=
  fun Z1 H1 _ _ c' d Q q => ⟨_, e, by
    obtain ⟨dx, fs, w, hp, l, r⟩ := F c Z1 H1 (hm Z1 H1 d)
    exact ⟨p, C, dx, fs, w, rfl, hp, cl, n, l, q w Z1 H1 (Step.refl c') d r⟩⟩
/-- the attribute f is itself a thing that changes, at q -/
def MRef (N : Mu ν) (p C : Addr) (f : Str) (q : Addr) : Prop := ∀ c Z H, N.m c Z H → ∃ dx fs, H p = some (.ins C dx fs) ∧ fs.lookup f = some (.ref q)
theorem ev_mref {p C q : Addr} {f : Str} {i : Nat} (hm : ∀ Z H, M.m s Z H → N.m c Z H) (F : MRef N p C f q) (cl : Cls K C) (n : NoAttr K C f) (e : σ[i]? = some (some (.ref p))) : Ev M (tFld K (tVar i) f) σ Z H s (isRef q) s :=
  fun Z1 H1 _ _ c' d Q k => ⟨_, e, by
    obtain ⟨dx, fs, hp, l⟩ := F c Z1 H1 (hm Z1 H1 d)
    exact ⟨p, C, dx, fs, _, rfl, hp, cl, n, l, k _ Z1 H1 (Step.refl c') d rfl⟩⟩
/-- the thing at p is an instance of the class at C without an own attribute m -/
def MObj (N : Mu ν) (p C : Addr) (m : Str) : Prop := ∀ c Z H, N.m c Z H → ∃ dx fs, H p = some (.ins C dx fs) ∧ fs.lookup m = none
theorem ev_mmeth {p C' : Addr} {m : Str} {sp : Sp} {E : XK} {Rs : Ra M.fp} {R : Rr M.fp} (hm : ∀ Z H, M.m s1 Z H → N.m c Z H) (O : MObj N p C' m) (cs : CallS M sp E (rac (isRef p) Rs) s2 R s3) (hx : Ev M ta σ Z H s (isRef p) s1) (ha : EvA M t σ Z H s1 Rs s2) : Ev M (tMeth C' m sp [] E ta t) σ Z H s R s3 :=
  fun Z1 H1 a b c' d Q q => hx Z1 H1 a b c' d _ fun v Z2 H2 e mm rv => by
    obtain ⟨dx, fs, hp, l⟩ := O _ Z2 H2 (hm Z2 H2 mm)
    have ev : v = .ref p := rv
    subst ev
    refine ⟨p, dx, fs, rfl, hp, l, ha Z2 H2 (a.trans e.z) (b.trans e.h) e.s mm _ fun vs Z3 H3 e2 m2 rs => ?_⟩
    rw [List.append_nil]
    exact cs Z3 H3 _ e2.s m2 ⟨_, vs, rfl, rfl, rs⟩ Q fun v Z4 H4 e3 m3 rv' => q v Z4 H4 ((e.trans e2).trans e3) m3 rv'
theorem ev_mprop {p C' : Addr} {m : Str} {sp : Sp} {E : XK} {R : Rr M.fp} (hm : ∀ Z H, M.m s1 Z H → N.m c Z H) (O : MObj N p C' m) (cs : CallS M sp E (rac (isRef p) ra0) s1 R s2) (hx : Ev M ta σ Z H s (isRef p) s1) : Ev M (tProp C' sp [] E ta) σ Z H s R s2 :=
  fun Z1 H1 a b c' d Q q => hx Z1 H1 a b c' d _ fun v Z2 H2 e mm rv => by
    obtain ⟨dx, fs, hp, l⟩ := O _ Z2 H2 (hm Z2 H2 mm)
    have ev : v = .ref p := rv
    subst ev
    exact ⟨p, dx, fs, rfl, hp, cs Z2 H2 _ e.s mm ⟨_, [], rfl, rfl, rfl⟩ Q fun v Z4 H4 e3 m3 rv' => q v Z4 H4 (e.trans e3) m3 rv'⟩
theorem eve_mmeth {p C' : Addr} {m : Str} {sp : Sp} {E : XK} {Rs : Ra M.fp} {cls : Value} (hm : ∀ Z H, M.m s1 Z H → N.m c Z H) (O : MObj N p C' m) (cs : CallE M sp E (rac (isRef p) Rs) s2 cls s3) (hx : Ev M ta σ Z H s (isRef p) s1) (ha : EvA M t σ Z H s1 Rs s2) : EvE M (tMeth C' m sp [] E ta t) σ Z H s (E cls none) s3 :=
  fun Z1 H1 a b c' d Q q => hx Z1 H1 a b c' d _ fun v Z2 H2 e mm rv => by
    obtain ⟨dx, fs, hp, l⟩ := O _ Z2 H2 (hm Z2 H2 mm)
    have ev : v = .ref p := rv
    subst ev
    refine ⟨p, dx, fs, rfl, hp, l, ha Z2 H2 (a.trans e.z) (b.trans e.h) e.s mm _ fun vs Z3 H3 e2 m2 rs => ?_⟩
    rw [List.append_nil]
    exact cs Z3 H3 _ e2.s m2 ⟨_, vs, rfl, rfl, rs⟩ Q fun Z4 H4 e3 m3 => q Z4 H4 ((e.trans e2).trans e3) m3
theorem eve_mmethA {p C' : Addr} {m : Str} {sp : Sp} {E : XK} {X : Hp → Prop} (hm : ∀ Z H, M.m s1 Z H → N.m c Z H) (O : MObj N p C' m) (hx : Ev M ta σ Z H s (isRef p) s1) (ha : EvAE M t σ Z H s1 X s2) : EvE M (tMeth C' m sp [] E ta t) σ Z H s X s2 :=
  fun Z1 H1 a b c' d Q q => hx Z1 H1 a b c' d _ fun v Z2 H2 e mm rv => by
    obtain ⟨dx, fs, hp, l⟩ := O _ Z2 H2 (hm Z2 H2 mm)
    have ev : v = .ref p := rv
    subst ev
    exact ⟨p, dx, fs, rfl, hp, l, ha Z2 H2 (a.trans e.z) (b.trans e.h) e.s mm _ fun Z3 H3 e2 m2 => q Z3 H3 (e.trans e2) m2⟩
/-- the attribute f is stored anew -/
def MSet {α : Type} (N : Mu ν) (p C : Addr) (f : Str) (τ : Ty α) (up : ν → α → ν) : Prop := ∀ c Z H, N.m c Z H → p ∈ N.fp ∧ Z p = none ∧ ∃ dx fs, H p = some (.ins C dx fs) ∧ fs.length < 1000 ∧ ∀ w x, τ.r Z w x → N.m (up c x) Z (upd H p (.ins C dx (putF f w fs)))
theorem st_mset {α : Type} {τ : Ty α} {x : α} {p C : Addr} {f : Str} {i : Nat} {up : ν → α → ν} {tv : TE} (P : Pt S Z0 H0 M Z H s) (hm : ∀ Z H, M.m s1 Z H → N.m c Z H) (hf : ∀ a ∈ N.fp, a ∈ M.fp) (hp : ∀ Z H Z' H', M.m s1 Z H → Step N.fp Z H Z' H' → N.m (up c x) Z' H' → M.m s2 Z' H')
    (F : MSet N p C f τ up) (cl : Cls K C) (n : NoAttr K C f) (hσ : σ[i]? = some (some (.ref p))) (e : Ev M tv σ Z H s (ty τ x) s1) (k : ∀ Z1 H1, Step M.fp Z H Z1 H1 → Pt S Z0 H0 M Z1 H1 s2 → D.nx σ H1) : sFld K (tVar i) tv f D σ H :=
  e Z H (Same.refl _) SameX.refl P.sub P.m _ fun v Z1 H1 e m r => by
    obtain ⟨pf, zp, dx, fs, h1, l, up'⟩ := F c Z1 H1 (hm Z1 H1 m)
    have m' := up' v x r
    have st : Step [p] Z1 H1 Z1 (upd H1 p (.ins C dx (putF f v fs))) := Step.set e.s zp
    have stN : Step N.fp Z1 H1 Z1 (upd H1 p (.ins C dx (putF f v fs))) := st.weak fun a ha => by rw [List.mem_singleton] at ha; rw [ha]; exact .inl pf
    have m2 := hp _ _ _ _ m stN m'
    have e2 := e.trans (stN.weak fun a ha => .inl (hf a ha))
    exact ⟨.ref p, hσ, p, C, dx, fs, rfl, h1, cl, n, l, k _ _ e2 (P.next e2 m2)⟩
/-- self.f += e of integers -/
theorem st_maug {p C : Addr} {f : Str} {i : Nat} {up : ν → Int → ν} {tv : TE} {pr : ν → Int} {b : Int} {g : Int → Int → Int} (P : Pt S Z0 H0 M Z H s) (hm : ∀ Z H, M.m s Z H → N.m c Z H) (hf : ∀ a ∈ N.fp, a ∈ M.fp) (hp : ∀ Z H Z' H', M.m s Z H → Step N.fp Z H Z' H' → N.m (up c (g (pr c) b)) Z' H' → M.m s2 Z' H')
    (F : MSet N p C f yInt up) (G : MFld N p C f yInt pr) (cl : Cls K C) (n : NoAttr K C f) (hσ : σ[i]? = some (some (.ref p))) (e : Ev M tv σ Z H s (ty yInt b) s) (k : ∀ Z1 H1, Step M.fp Z H Z1 H1 → Pt S Z0 H0 M Z1 H1 s2 → D.nx σ H1) : sFldAug K (tVar i) tv (ipI g) f D σ H := by
  obtain ⟨dx0, fs0, w, h0, l0, r0⟩ := G c Z H (hm Z H P.m)
  refine ⟨.ref p, hσ, p, C, dx0, fs0, w, rfl, h0, cl, n, l0, e Z H (Same.refl _) SameX.refl P.sub P.m _ fun v Z1 H1 e m r => ?_⟩
  obtain ⟨pf, zp, dx, fs, h1, l, up'⟩ := F c Z1 H1 (hm Z1 H1 m)
  refine ⟨pr c, b, r0, r, dx, fs, h1, l, ?_⟩
  have m' := up' (.int (g (pr c) b)) (g (pr c) b) rfl
  have st : Step [p] Z1 H1 Z1 (upd H1 p (.ins C dx (putF f (.int (g (pr c) b)) fs))) := Step.set e.s zp
  have stN : Step N.fp Z1 H1 Z1 (upd H1 p (.ins C dx (putF f (.int (g (pr c) b)) fs))) := st.weak fun a ha => by rw [List.mem_singleton] at ha; rw [ha]; exact .inl pf
  have m2 := hp _ _ _ _ m stN m'
  have e2 := e.trans (stN.weak fun a ha => .inl (hf a ha))
  exact k _ _ e2 (P.next e2 m2)
/-- a new thing that changes -/
def EvM (M : Mu μ) (t : TE) (σ : L2.St) (Z H : Hp) (s : μ) (N : ι → Mu ν) (pr : ι → Addr) (x : ν) (s' : μ) : Prop :=
  ∀ Z1 H1, Same Z Z1 → SameX M.fp H H1 → Same Z1 H1 → M.m s Z1 H1 → ∀ Q : VK, (∀ i Z2 H2, Step M.fp Z1 H1 Z2 H2 → M.m s' Z2 H2 → (∀ a ∈ (N i).fp, H1 a = none) → (N i).m x Z2 H2 → Q (.ref (pr i)) H2) → t σ H1 Q
/-- what the __init__ makes: a thing that changes -/
def InitM (M : Mu μ) (C : Addr) (sp : Sp) (E : XK) (Rs : Ra M.fp) (s : μ) (N : ι → Mu ν) (pr : ι → Addr) (x : ν) (s' : μ) : Prop :=
  ∀ Z H vs p dx, Same Z H → M.m s Z H → Rs.r Z H vs → H p = some (.ins C dx []) → Z p = none → p ∉ M.fp → ∀ Q : VK, (∀ i Z2 H2, pr i = p → Step (p :: M.fp) Z H Z2 H2 → M.m s' Z2 H2 → (∀ a ∈ (N i).fp, a = p ∨ H a = none) → (N i).m x Z2 H2 → Q .non H2) → sp (.ref p :: vs) H Q E
theorem ev_makeM {C : Addr} {sp : Sp} {E : XK} {Rs : Ra M.fp} {N : ι → Mu ν} {pr : ι → Addr} {x : ν} (I : InitM M C sp E Rs s1 N pr x s2) (ha : EvA M t σ Z H s Rs s1) : EvM M (tMake C sp [] E t) σ Z H s N pr x s2 :=
  fun Z1 H1 a b c d Q q => ha Z1 H1 a b c d _ fun vs Z2 H2 e m rs x' dx hx hd ne => by
    rw [List.append_nil]
    have st := Step.dict (C := C) e.s hx hd ne
    have nf : x' ∉ M.fp := fun h => (M.al m x' h).1 hx
    have back : ∀ a, upd (upd H2 dx (.own x')) x' (.ins C dx []) a = none → H2 a = none := fun a h => by
      cases q : H2 a with
      | none => rfl
      | some o => exact absurd h (st.al a (some_ne q))
    refine I Z2 _ vs x' dx st.s (M.pure st m) (Rs.st st.pure rs) upd_same (same_none e.s hx) nf _ fun i Z3 H3 ei e2 m2 fr mi => ⟨rfl, ?_⟩
    subst ei
    have e3 : Step M.fp Z2 H2 Z3 H3 := ((st.pure (S := pr i :: M.fp)).trans e2).weak fun a h => by
      rcases List.mem_cons.mp h with e | h
      · exact .inr (e ▸ hx)
      · exact .inl h
    exact q i Z3 H3 (e.trans e3) m2 (fun a ha => by
      rcases fr a ha with r | r
      · rw [r]; exact same_x e hx
      · exact same_x e (back a r)) mi
/-- it is called x from now on -/
theorem st_setM {N : ι → Mu ν} {pr : ι → Addr} {x : ν} {j : Nat} (P : Pt S Z0 H0 M Z H s) (e : EvM M te σ Z H s N pr x s1) (k : ∀ i Z1 H1, Step M.fp Z H Z1 H1 → (∀ a ∈ (N i).fp, H a = none) → Pt S Z0 H0 (muX M (N i)) Z1 H1 (s1, x) → D.nx (σ.set j (some (.ref (pr i)))) H1) : tAsg te (gName j) D σ H :=
  e Z H (Same.refl _) SameX.refl P.sub P.m _ fun i Z1 H1 e m fr mi => k i Z1 H1 e fr ⟨P.st.mine e P.mine, ⟨m, mi, fun a ha hb => (M.al P.m a ha).1 (fr a hb)⟩, fun a ha => by
    rcases List.mem_append.mp ha with ha | ha
    · exact P.mine a ha
    · exact .inr (same_x P.st (fr a ha))⟩
theorem Pt.left {N : Mu ν} {x : ν} (P : Pt S Z0 H0 (muX M N) Z H (s, x)) : Pt S Z0 H0 M Z H s := ⟨P.st, P.m.1, fun a ha => P.mine a (List.mem_append_left _ ha)⟩
theorem Own.grow {α : Type} {τ : Ty α} {xs : List α} {p : Addr} {F : List Addr} {Z1 H1 : Hp} (o : Own S H0 M.fp Z H τ p xs) (e : Step M.fp Z H Z1 H1) (fr : ∀ a ∈ F, H a = none) : Own S H0 (M.fp ++ F) Z1 H1 τ p xs := by
  have o1 := o.next e
  obtain ⟨vs, h, _⟩ := o.ex
  have nf : p ∉ F := fun hb => by
    rw [fr p hb] at h
    exact nomatch h
  exact ⟨o1.ex, o1.z, fun ha => (List.mem_append.mp ha).elim o.n nf, o1.mine, o1.l⟩
theorem Own.left {α : Type} {τ : Ty α} {xs : List α} {p : Addr} {F G : List Addr} (o : Own S H0 (F ++ G) Z H τ p xs) : Own S H0 F Z H τ p xs := ⟨o.ex, o.z, fun h => o.n (List.mem_append_left _ h), o.mine, o.l⟩
theorem Step.left {F G : List Addr} {Z H Z1 H1 : Hp} (e : Step F Z H Z1 H1) : Step (F ++ G) Z H Z1 H1 := e.weak fun a h => .inl (List.mem_append_left _ h)
theorem putF_ne {f g : Str} {v w : V} {r : List (Str × V)} (h : ¬ g = f) : putF f v ((g, w) :: r) = (g, w) :: putF f v r := by
  show (if g = f then (g, v) :: r else (g, w) :: putF f v r) = _
  rw [if_neg h]
theorem putF_eq {f : Str} {v w : V} {r : List (Str × V)} : putF f v ((f, w) :: r) = (f, v) :: r := by
  show (if f = f then (f, v) :: r else _) = _
  rw [if_pos rfl]
theorem putF_nil {f : Str} {v : V} : putF f v [] = [(f, v)] := rfl
end
end TP

namespace TP
open PySem PySem.Spec PyProof.Rows L2
/-- what never is reached -/
theorem ps_dead {X : Cx} {s : Stmt} : PS X s (fun _ _ _ => False) := ⟨fun _ _ _ _ _ _ h => h.elim⟩
theorem sl_tupW {X : Cx} : SlR X (rSlW X.K) := sl_tupA
/-- an expression that is read in one of two ways -/
theorem pe_or2 {X : Cx} {e : Expr} {t u : TE} (h : PE X e t) (g : PE X e u) : PE X e (fun σ H Q => t σ H Q ∨ u σ H Q) := ⟨fun pins s σ H Q I q => by
  rcases q with q | q
  · exact h.run pins s σ H Q I q
  · exact g.run pins s σ H Q I q⟩
def rOr (r r' : R2) : R2 := fun x y H Q => r x y H Q ∨ r' x y H Q
theorem op_or {X : Cx} {f : Value → Value → Sem Value} {r r' : R2} (h : OpR X f r) (h' : OpR X f r') : OpR X f (rOr r r') := fun pins s σ H x y v u Q I rx ry q => by
  rcases q with q | q
  · exact h pins s σ H x y v u Q I rx ry q
  · exact h' pins s σ H x y v u Q I rx ry q
def rImp (r r' : R2) : Prop := ∀ x y H Q, r x y H Q → r' x y H Q
theorem ri_self {r : R2} : rImp r r := fun _ _ _ _ h => h
theorem ri_l {r r' : R2} : rImp r (rOr r r') := fun _ _ _ _ h => .inl h
theorem ri_r {r r' r'' : R2} (h : rImp r r') : rImp r (rOr r'' r') := fun _ _ _ _ q => .inr (h _ _ _ _ q)
section
variable {μ : Type} {M : Mu μ} {σ : L2.St} {Z H : Hp} {s s1 s2 s3 : μ} {ta tb t u : TE} {K : PySem.W.Frag}
theorem ev_orl {R : Rr M.fp} (h : Ev M t σ Z H s R s1) : Ev M (fun σ H Q => t σ H Q ∨ u σ H Q) σ Z H s R s1 := fun Z1 H1 a b c d Q q => .inl (h Z1 H1 a b c d Q q)
theorem ev_orr {R : Rr M.fp} (h : Ev M u σ Z H s R s1) : Ev M (fun σ H Q => t σ H Q ∨ u σ H Q) σ Z H s R s1 := fun Z1 H1 a b c d Q q => .inr (h Z1 H1 a b c d Q q)
theorem ev_ownR {α : Type} {τ : Ty α} {x : α} {R0 : Rr M.fp} {C : Addr} {t : Value} {sp : Sp} {E : XK} {b neg : Bool} {r : R2} (hr : rImp (TPN.rOwnE K C neg sp E) r) (O : ∀ Z v x, τ.r Z v x → ∃ a dx fs, v = .ref a ∧ Z a = some (.ins C dx fs)) (tx : ∀ Z H v, Same Z H → R0.r Z H v → TyX K H v t) (hn : PySem.W.notFirst K C t = true)
    (c : CallS M sp E (rac (ty τ x) (rac R0 ra0)) s2 (ty yBool b) s3) (ha : Ev M ta σ Z H s (ty τ x) s1) (hb : Ev M tb σ Z H s1 R0 s2) : Ev M (tOp r ta tb) σ Z H s (ty yBool (b != neg)) s3 :=
  fun Z1 H1 a' b' c' d' Q q => ha Z1 H1 a' b' c' d' _ fun v Z2 H2 e m rv => hb Z2 H2 (a'.trans e.z) (b'.trans e.h) e.s m _ fun w Z3 H3 e2 m2 rw => by
    have rv3 := τ.mono e2.z rv
    obtain ⟨p, dx, fs, rfl, hp⟩ := O _ _ _ rv3
    exact hr _ _ _ _ ⟨p, dx, fs, t, rfl, e2.s _ _ hp, tx _ _ _ e2.s rw, hn, c Z3 H3 _ e2.s m2 ⟨_, _, rfl, rv3, _, _, rfl, rw, rfl⟩ _ fun u Z4 H4 e3 m3 ru => ⟨b, ru, q _ Z4 H4 ((e.trans e2).trans e3) m3 rfl⟩⟩
variable {fp : List Addr} {α β γ δ : Type} {τ : Ty α} {υ : Ty β} {φ : Ty γ} {ψ : Ty δ}
theorem tx_p1 {x : α} : ∀ Z H v, Same Z H → (ty (fp := fp) (yP1 K τ) x).r Z H v → TyX K H v (.type "tuple") := fun _ _ _ sz ⟨a, _, e, h, _⟩ => by subst e; exact tx_sqT (seqT_same sz h)
theorem tx_p4 {x : α × β × γ × δ} : ∀ Z H v, Same Z H → (ty (fp := fp) (yP4 K τ υ φ ψ) x).r Z H v → TyX K H v (.type "tuple") := fun _ _ _ sz ⟨a, _, _, _, _, e, h, _⟩ => by subst e; exact tx_sqT (seqT_same sz h)
end
end TP

namespace TP
open PySem PySem.Spec PyProof.Rows L2
/-! ### comprehensions whose items may raise -/
section
variable {ε α β μ : Type}
def mapR (f : α → μ → Option (Res ε β × μ)) : List α → μ → Option (Res ε (List β) × μ)
  | [], s => some (.ok [], s)
  | x :: r, s => (f x s).bind fun p => match p.1 with
    | .er e => some (.er e, p.2)
    | .ok y => (mapR f r p.2).bind fun q => match q.1 with
      | .er e => some (.er e, q.2)
      | .ok ys => some (.ok (y :: ys), q.2)
theorem mapR_ok (f : α → μ → Option (Res ε β × μ)) : ∀ (xs : List α) (s : μ) {ys : List β} {s2 : μ}, mapR f xs s = some (.ok ys, s2) → mapS (fun x s => Res.valS (f x s)) xs s = some (ys, s2)
  | [], s, ys, s2, h => by
    have h := Prod.mk.inj (Option.some.inj h)
    cases h.1
    rw [← h.2]
    rfl
  | x :: r, s, ys, s2, h => by
    unfold mapR at h
    obtain ⟨⟨p, sp⟩, hp, h⟩ := Option.bind_eq_some_iff.mp h
    cases p with
    | er e => cases h
    | ok y =>
      obtain ⟨⟨q, sq⟩, hq, h⟩ := Option.bind_eq_some_iff.mp h
      cases q with
      | er e => cases h
      | ok zs =>
        have h := Prod.mk.inj (Option.some.inj h)
        have e1 : y :: zs = ys := by injection h.1
        have e2 : sq = s2 := h.2
        subst e1 e2
        unfold mapS
        have hv : Res.valS (f x s) = some (y, sp) := by rw [hp]; rfl
        rw [hv]
        show (mapS _ r sp).bind _ = _
        rw [mapR_ok f r sp hq]
        rfl
end
section
variable {μ : Type} {S : List Addr} {Z0 H0 : Hp} {M : Mu μ} {σ : L2.St} {Z H : Hp} {s s' s1 s2 s3 : μ} {ta tb tc te : TE} {t : TA} {K : PySem.W.Frag} {D : Ends} {X : Hp → Prop} {ε α β : Type} {τ : Ty α} {υ : Ty β} {xs : List α} {ys : List β} {wi : TI} {g : TG} {tt : TT} {vs : List Nat} {ex : ε}
/-- what is walked raises -/
def EvIE (M : Mu μ) (wi : TI) (σ : L2.St) (Z H : Hp) (s : μ) (X : Hp → Prop) (s' : μ) : Prop :=
  ∀ Z1 H1, Same Z Z1 → SameX M.fp H H1 → Same Z1 H1 → M.m s Z1 H1 → ∀ R, (∀ Z2 H2, Step M.fp Z1 H1 Z2 H2 → M.m s' Z2 H2 → X H2) → wi σ H1 R
theorem eie_range (ha : EvAE M t σ Z H s X s1) : EvIE M (iRng1 t) σ Z H s X s1 := fun Z1 H1 a b c d _ q => ha Z1 H1 a b c d _ q
theorem eve_lcI (hi : EvIE M wi σ Z H s X s1) : EvE M (tLc wi g tt te vs) σ Z H s X s1 := fun Z1 H1 a b c d _ q => hi Z1 H1 a b c d _ q
theorem en_mapR (f : α → μ → Option (Res ε β × μ)) (hi : EvI M (SameX M.fp) wi σ Z H s τ xs s1)
    (hb : ∀ x v Z' H' si y s', Same Z Z' → SameX M.fp H H' → τ.r Z' v x → f x si = some (.ok y, s') → ∃ σ2, Tgt g v (wipe σ vs) σ2 Z' ∧ wipe σ2 vs = wipe σ vs ∧ Ev M te σ2 Z' H' si (ty υ y) s')
    (hF : mapR f xs s1 = some (.ok ys, s2)) : EvN M (tLc wi g tYes te vs) σ Z H s υ ys s2 :=
  en_mapS (fun x s => Res.valS (f x s)) hi (fun x v Z' H' si p z h rv hp => hb x v Z' H' si p.1 p.2 z h rv (valS_inv hp)) (mapR_ok f xs s1 hF)
theorem eve_mapR (f : α → μ → Option (Res ε β × μ)) (hi : EvI M (SameX M.fp) wi σ Z H s τ xs s1)
    (hb : ∀ x v Z' H' si y s', Same Z Z' → SameX M.fp H H' → τ.r Z' v x → f x si = some (.ok y, s') → ∃ σ2, Tgt g v (wipe σ vs) σ2 Z' ∧ wipe σ2 vs = wipe σ vs ∧ Ev M te σ2 Z' H' si (ty υ y) s')
    (he : ∀ x v Z' H' si s', Same Z Z' → SameX M.fp H H' → τ.r Z' v x → f x si = some (.er ex, s') → ∃ σ2, Tgt g v (wipe σ vs) σ2 Z' ∧ wipe σ2 vs = wipe σ vs ∧ EvE M te σ2 Z' H' si X s')
    (hF : mapR f xs s1 = some (.er ex, s2)) : EvE M (tLc wi g tYes te vs) σ Z H s X s2 := by
  intro Z1 H1 a b c d Q q
  refine hi Z1 H1 a b c d _ fun J Z2 H2 e m ⟨hx, G, Y, wk, hG, hY⟩ D hD => ?_
  have zD : Z2 D = none := same_none e.s hD
  have st0 := Step.own (o := .lst []) e.s hD
  refine lc_it wk (fun i H' => ∃ Z' si ws, Step M.fp Z2 H2 Z' H' ∧ Z' D = none ∧ H' D = some (.lst ws) ∧ ws.length ≤ i ∧ M.m si Z' H' ∧ mapR f (xs.drop i) si = some (.er ex, s2))
    ⟨Z2, s1, [], st0.pure, zD, upd_same, Nat.le_refl _, M.pure st0 m, by rw [List.drop_zero]; exact hF⟩ ?_ ?_ ?_
  · rintro i H' _ ⟨Z', si, ws, st, _⟩
    exact hG Z' H' st.z st.s st.h
  · rintro i v H3 H4 hin ⟨Z', si, ws, st, zD', hD', lw, m', hF'⟩ y
    obtain ⟨Z4, x, ex', st4, rx⟩ := hY i Z' H3 v H4 hin st.z st.s (hG Z' H3 st.z st.s st.h) y
    have hd : xs.drop i = x :: xs.drop (i + 1) := by
      rw [List.drop_eq_getElem_cons hin]
      rw [List.getElem?_eq_getElem hin] at ex'
      rw [Option.some.inj ex']
    rw [hd] at hF'
    obtain ⟨⟨p, sp⟩, hp, hF2⟩ := Option.bind_eq_some_iff.mp hF'
    have e4 := st.trans st4.pure
    have eZ : Same Z Z4 := (a.trans e.z).trans e4.z
    have eH : SameX M.fp H H4 := (b.trans e.h).trans e4.h
    have nD : D ∉ M.fp := fun h => absurd hD (M.al m D h).1
    have hD4 : H4 D = some (.lst ws) := st4.h _ _ List.not_mem_nil hD'
    have zD4 : Z4 D = none := st4.n D (some_ne hD') zD'
    have m4 := M.pure st4 m'
    cases p with
    | er e' =>
      have h2 := Prod.mk.inj (Option.some.inj hF2)
      have e1 : e' = ex := by injection h2.1
      have e2 : sp = s2 := h2.2
      subst e1 e2
      obtain ⟨σ2, tg, wp, ev⟩ := he x v Z4 H4 si sp eZ eH rx hp
      have ty : EvT M tYes σ2 Z4 H4 si true si := fun Z1 H1 _ _ c d _ k => k Z1 H1 (Step.refl c) d
      refine tg H4 e4.s _ ⟨wp, ty Z4 H4 (Same.refl _) SameX.refl e4.s m4 _ fun Z5 H5 e5 m5 => ?_⟩
      rw [if_pos rfl]
      exact ev Z5 H5 e5.z e5.h e5.s m5 _ fun Z6 H6 e6 m6 => q Z6 H6 (((e.trans e4).trans e5).trans e6) m6
    | ok y0 =>
      obtain ⟨⟨r, sr⟩, hr, hF3⟩ := Option.bind_eq_some_iff.mp hF2
      cases r with
      | ok zs => cases hF3
      | er e' =>
        have h2 := Prod.mk.inj (Option.some.inj hF3)
        have e1 : e' = ex := by injection h2.1
        have e2 : sr = s2 := h2.2
        subst e1 e2
        obtain ⟨σ2, tg, wp, ev⟩ := hb x v Z4 H4 si y0 sp eZ eH rx hp
        have ty : EvT M tYes σ2 Z4 H4 si true si := fun Z1 H1 _ _ c d _ k => k Z1 H1 (Step.refl c) d
        refine tg H4 e4.s _ ⟨wp, ty Z4 H4 (Same.refl _) SameX.refl e4.s m4 _ fun Z5 H5 e5 m5 => ?_⟩
        rw [if_pos rfl]
        refine ev Z5 H5 e5.z e5.h e5.s m5 _ fun w Z6 H6 e6 m6 rw' => ?_
        have hD5 : H5 D = some (.lst ws) := e5.h _ _ nD hD4
        have zD5 : Z5 D = none := e5.n D (some_ne hD4) zD4
        have hD6 : H6 D = some (.lst ws) := e6.h _ _ nD hD5
        have zD6 : Z6 D = none := e6.n D (some_ne hD5) zD5
        have s7 := Step.set (o := .lst (ws ++ [w])) e6.s zD6
        refine ⟨ws, hD6, by omega, Z6, sp, ws ++ [w], ((e4.trans e5).trans e6).mine s7 (fun x hx => by rw [List.mem_singleton] at hx; subst hx; exact .inr hD), zD6, upd_same, by rw [List.length_append]; show ws.length + 1 ≤ _; omega, ?_, hr⟩
        refine M.loc (Same.refl _) (fun a' ha' o ho => ?_) (fun _ _ _ z => z) m6
        rw [upd_ne (fun q' => nD (by rw [← q']; exact ha'))]
        exact ho
  · rintro H' ⟨Z', si, ws, st, zD', hD', lw, m', hF'⟩
    rw [List.drop_length] at hF'
    have h2 := Prod.mk.inj (Option.some.inj hF')
    cases h2.1
end
section
variable {μ : Type} {M : Mu μ} {σ : L2.St} {Z H : Hp} {s s1 s2 s3 : μ} {ta tb : TE} {K : PySem.W.Frag}
theorem tyV_str {a : Str} {H : Hp} : tyV K "str" (.str a) H := by simp [tyV]
theorem ev_sw {x y : Str} (ha : Ev M ta σ Z H s (ty yStr x) s1) (hb : Ev M tb σ Z H s1 (ty yStr y) s2) : Ev M (tBM K "str" (fun x xs H Q => ∃ a b, x = .str a ∧ xs = [.str b] ∧ Q (.bl (Txt.startswith a b)) H) ta (tCons tb tNil)) σ Z H s (ty yBool (Txt.startswith x y)) s2 :=
  fun Z1 H1 a b c d Q q => ha Z1 H1 a b c d _ fun v Z2 H2 e m rv => by
    have ev : v = .str x := rv.1
    subst ev
    refine ⟨tyV_str, eva_cons hb eva_nil Z2 H2 (a.trans e.z) (b.trans e.h) e.s m _ fun us Z3 H3 e2 m2 ⟨w, r, e3, rw', e4⟩ => ?_⟩
    cases e4; cases e3
    exact ⟨x, y, rfl, by rw [show w = .str y from rw'.1], q _ Z3 H3 (e.trans e2) m2 rfl⟩
theorem okS_len {x : Str} (h : okS x = true) : x.length ≤ sizeLine := of_decide_eq_true (Bool.and_eq_true_iff.mp (show (PyData.strOk x && decide (x.length ≤ sizeLine)) = true from h)).2
theorem okS_cut {x : Str} (h : okS x = true) (lo hi : Option Int) : okS (cutS x lo hi) = true := by
  have hl := okS_len h
  have hc := cutS_length x lo hi
  unfold okS PyData.strOk at h ⊢
  rw [Bool.and_eq_true] at h ⊢
  refine ⟨?_, decide_eq_true (Nat.le_trans hc hl)⟩
  rw [Array.all_eq_true_iff_forall_mem]
  intro c hm
  have := Array.all_eq_true_iff_forall_mem.mp h.1 c (by
    unfold cutS at hm
    rw [List.mem_toArray] at hm
    exact Array.mem_toList_iff.mp (List.mem_of_mem_drop (List.mem_of_mem_take hm)))
  exact this
theorem ev_slS {x : Str} {tl th : TO} {lo hi : Option Int} (ha : Ev M ta σ Z H s (ty yStr x) s1) (hl : EvO M tl σ Z H s1 lo s2) (hh : EvO M th σ Z H s2 hi s3) : Ev M (tSl rSlS ta tl th) σ Z H s (ty yStr (cutS x lo hi)) s3 :=
  ev_slice ha hl hh fun _ _ _ sz ⟨e, ok⟩ _ q => ⟨x, e, okS_len ok, q _ _ _ (Step.refl sz) ⟨rfl, okS_cut ok lo hi⟩⟩
end
end TP

namespace TP
open PySem PySem.Spec PyProof.Rows L2
/-! ### comprehensions whose block raises: the readings -/
theorem note_same {e : Value} {u v : Env} (h : u.frame = v.frame) : noteFrame e u = noteFrame e v := by
  unfold noteFrame PySem.frameOf
  rw [h]
/-- what a block leaves, its scope known -/
def BlkEnd (M : Model) (A : Around) (E : Value → Shared → Prop) (use : Option (Value → Sem Unit)) (Q : Value → Shared → Prop) (acc : Value) (ce : Env) (r : Result) (t : Shared) : Prop :=
  match r with
  | .error x => ∃ m, t.heap.Ns ce.locals m ∧ ∀ g, Heap.SameBut ce.locals t.heap g → wpAny M A (PySem.passOn "comprehension.variables-let-go" x ce : Sem Value) (fun _ _ => False) E { t with heap := g }
  | .ok _ => match use with
    | none => ∃ m, t.heap.Ns ce.locals m ∧ ∀ g, Heap.SameBut ce.locals t.heap g → Q acc { t with heap := g }
    | some u => wpAny M A (u acc) (fun _ t2 => ∃ m, t2.heap.Ns ce.locals m ∧ ∀ g, Heap.SameBut ce.locals t2.heap g → Q .none { t2 with heap := g }) E t
section
variable {M : Model} {A : Around} {E : Value → Shared → Prop} {s : Shared} {env : Env}
theorem wp_block {e : Expr} {scope : Scope} {pos : Pos} {na fst : Sem Value} {g : Comprehension} {gs : List Comprehension} {cl : List (Str × Addr)} {use : Option (Value → Sem Unit)} {Q : Value → Shared → Prop}
    (c1 : clausesOf e = g :: gs) (c2 : ∀ x, foldedSetIterable g.iter env x = pure x) (c3 : closureFor scope env = pure cl) (kf : scope.kind = .function) (nm : ∀ x ∈ scope.names, x.2 = .local → scope.names.lookup x.1 = some .local)
    (h : wpAny M A fst (fun x t1 => wpAny M A (pyIter x) (fun it t2 => wpAny M A na (fun acc t3 => wpAny M A (newFunctionEnv scope env.globals cl [] env.qual none .none (some env)) (fun ce t4 => codeAny M A (.compStart e 0 it acc { ce with scope := relabel scope env }) (BlkEnd M A E use Q acc { ce with scope := relabel scope env }) t4) E t3) E t2) E t1) E s) :
    wpAny M A (comprehension e scope env pos na false fst use) Q E s := by
  unfold comprehension
  rw [c3, c1]
  refine wpAny_bind (wpAny_mono h (fun x t1 h1 => ?_) fun _ _ q => q)
  refine wpAny_bind (wpAny_standAt ?_)
  refine wpAny_bind (wpAny_of_eq (c2 x) ?_)
  refine wpAny_bind (wpAny_holding (wpAny_mono h1 (fun it t2 h2 => ?_) fun _ _ q => q))
  refine wpAny_standIf (wpAny_bind (wpAny_mono h2 (fun acc t3 h3 => ?_) fun _ _ q => q))
  refine wpAny_bind (wpAny_pure (wpAny_bind (wpAny_mono h3 (fun ce t4 h4 => ?_) fun _ _ q => q)))
  dsimp only
  have ha : ∀ p ∈ (scope.names.filter fun p => (p.2 == .local || p.2 == .cell) && p.1 != (".0" : Str)).reverse, p.2 = .local → Env.kindOf { ce with scope := relabel scope env } p.1 = some .local :=
    fun p hp hl => lookup_relabel_local (nm p (List.mem_filter.mp (List.mem_reverse.mp hp)).1 hl)
  refine wpAny_holding (wpAny_bind (wpAny_attempt (wpAny_holding (wpAny_run (codeAny_mono h4 fun r t hr => ?_)))))
  cases r with
  | error x =>
    obtain ⟨m, hn, hr⟩ := hr
    refine wpAny_bind (wpAny_holding (wpAny_comp_letGo (cenv := { ce with scope := relabel scope env }) kf _ t m ha hn fun g _ _ hg => ?_))
    exact wpAny_mono (hr g hg) (fun _ _ f => f.elim) fun _ _ y => y
  | ok f =>
    cases use with
    | none =>
      obtain ⟨m, hn, hr⟩ := hr
      refine wpAny_bind (wpAny_holding (wpAny_comp_letGo (cenv := { ce with scope := relabel scope env }) kf _ t m ha hn fun g _ _ hg => ?_))
      exact wpAny_pure (hr g hg)
    | some u =>
      refine wpAny_bind (wpAny_rule (wpAny_bind (wpAny_holding (wpAny_mono hr (fun _ t2 hr2 => ?_) fun _ _ y => y))))
      obtain ⟨m, hn, hr3⟩ := hr2
      refine wpAny_bind (wpAny_comp_letGo (cenv := { ce with scope := relabel scope env }) kf _ t2 m (fun p hp hl => ?_) hn fun g _ _ hg => ?_)
      · exact ha p ((List.mem_append.mp hp).elim List.mem_of_mem_drop List.mem_of_mem_take) hl
      · exact wpAny_pure (hr3 g hg)
end
/-- an exception in the air of Y, whose frame is L: W tells of it -/
def XL (Y : Cx) (W : XK) (u : Value) (t : Shared) : Prop :=
  ∃ (a : Addr) (B : Heap) (sI : Shared) (pins : List (Addr × Obj)) (σ : L2.St) (H : Hp) (cls : Value) (d : Option Addr) (L : Addr),
    u = .ref a ∧ Y.env.frame = some L ∧ Inv Y pins σ H sI ∧ (∀ b o, sI.heap.get? b = some o → b ∉ frs Y.stack → B.get? b = some o) ∧ sI.heap.UpToSlots t.heap ∧
      Sky B Y.stack a (Zc cls d) L t.heap ∧ H a = none ∧ t.os = sI.os ∧ AllBare t.gens ∧ W cls d H
def TakesL (X : Cx) (W : XK) : Prop := ∀ u t, XL X W u t → X.xe u t
theorem takesL {X : Cx} {V : WX} {W : XK} (hf : X.env.frame = some X.env.locals) (tk : Takes X V) (h : ∀ c d σ H, W c d H → V c d σ H) : TakesL X W := fun u t ⟨a, B, sI, pins, σ, H, cls, d, L, e, hL, I, nb, up, sky, na, os, ag, w⟩ => by
  rw [hf] at hL
  cases hL
  exact tk u t ⟨a, B, sI, pins, σ, H, cls, d, e, I, nb, up, sky, na, os, ag, h _ _ _ _ w⟩
/-- the context of a block that may raise -/
abbrev blkE (X : Cx) (W : XK) (s : Shared) (H : Hp) (scope : Scope) (ce : Env) (fp : List Addr) : Cx := (X.blk s H scope ce fp).wish (XL (X.blk s H scope ce fp) W)
theorem takesB {X : Cx} {W : XK} {s : Shared} {H : Hp} {scope : Scope} {ce : Env} {fp : List Addr} : TakesL (blkE X W s H scope ce fp) W := fun u t ⟨a, B, sI, pins, σ, H', cls, d, L, e, hL, I, nb, up, sky, na, os, ag, w⟩ =>
  ⟨a, B, sI, pins, σ, H', cls, d, L, e, hL, I.unwish, nb, up, sky, na, os, ag, w⟩
section
variable {X : Cx} {pins : List (Addr × Obj)} {σ : L2.St} {H : Hp} {s : Shared} {W E : XK}
theorem XL.call {L : Addr} (hf : X.env.frame = some L) (I : Inv X pins σ H s) (hW : ∀ c d H, E c d H → W c d H) {u : Value} {t : Shared} (c : CX X.prog X.w X.stack H s E u t) : XL X W u t := by
  obtain ⟨a, B, H', cls, d, rfl, fl, hok, ub, na, os, ag, hE⟩ := c
  obtain ⟨G, g1, g2⟩ := restrict t.heap fun b => (B.get? b).isSome || decide (b ∈ frs X.stack)
  have sB : B.StaysIn t.heap := fl.1
  have inG : ∀ b o, B.get? b = some o → G.get? b = some o := fun b o e => by
    have q : ((B.get? b).isSome || decide (b ∈ frs X.stack)) = true := by rw [e]; rfl
    rw [g1 b q]
    exact sB b o e
  have frG : ∀ b, b ∈ frs X.stack → G.get? b = t.heap.get? b := fun b hb => g1 b (by rw [decide_eq_true hb, Bool.or_true])
  have ofG : ∀ b o, G.get? b = some o → t.heap.get? b = some o ∧ (b ∉ frs X.stack → B.get? b = some o) := fun b o e => by
    cases q : ((B.get? b).isSome || decide (b ∈ frs X.stack)) with
    | false => rw [g2 b q] at e; cases e
    | true =>
      rw [g1 b q] at e
      refine ⟨e, fun hb => ?_⟩
      rw [decide_eq_false hb, Bool.or_false] at q
      obtain ⟨o', q⟩ := Option.isSome_iff_exists.mp q
      have z := sB b o' q
      rw [e] at z
      cases z
      exact q
  refine ⟨a, B, { s with heap := G, gens := t.gens, drawn := t.drawn, toks := t.toks }, pins, σ, H', cls, d, L, rfl, hf, ?_, fun b o e => (ofG b o e).2, Heap.UpToSlots.of_keeps fun b o e => (ofG b o e).1, .inr (.inl fl), na, os, ag, hW _ _ _ hE⟩
  have un : Un (frs X.stack) [] H H' s.heap G := by
    refine ⟨fun b o e n hb _ => inG b o (ub.keep b o e n hb), fun b o e n hb _ => ?_, fun b o e n _ => ub.free b o e n, fun b o e _ => ?_, ub.tups, ub.frzs, ub.tbls⟩
    · obtain ⟨sl, q⟩ := ub.slot b o e hb
      exact ⟨sl, (frG b hb).trans q⟩
    · by_cases hb : b ∈ frs X.stack
      · obtain ⟨sl, q⟩ := ub.slot b o e hb
        exact ⟨_, (frG b hb).trans q⟩
      · obtain ⟨o', q⟩ := ub.there b o e hb
        exact ⟨o', inG b o' q⟩
  exact I.call (ch := []) un (hok.kept inG) ag fun _ z => nomatch z
theorem passLR {L : Addr} (hf : X.env.frame = some L) (tk : TakesL X W) (hW : ∀ c d H, E c d H → W c d H) : ∀ (pins : List (Addr × Obj)) (σ : L2.St) (H : Hp) (s : Shared) (e : Value) (t : Shared), Inv X pins σ H s → CX X.prog X.w X.stack H s E e t → X.xe e t :=
  fun _ _ _ _ _ _ I c => tk _ _ (XL.call hf I hW c)
theorem frames_to {base B h g : Heap} : ∀ {l : List Env}, h.FunFrames base l → (∀ L ∈ frs l, B.get? L = none ∧ ∀ o, h.get? L = some o → g.get? L = some o) → g.FunFrames B l
  | [], _, _ => trivial
  | env :: l, h, k => by
    obtain ⟨hk, ⟨L, o, hf, _, ho, hd⟩, hr⟩ := h
    obtain ⟨k1, k2⟩ := k L (List.mem_filterMap.mpr ⟨env, List.mem_cons_self, hf⟩)
    refine ⟨hk, ⟨L, o, hf, k1, k2 o ho, hd⟩, frames_to hr fun b hb => ?_⟩
    obtain ⟨e, he, q⟩ := List.mem_filterMap.mp hb
    exact k b (List.mem_filterMap.mpr ⟨e, List.mem_cons_of_mem _ he, q⟩)
/-- the block's exception goes on, out of the block -/
theorem XL.out {H3 : Hp} {s3 t : Shared} {scope : Scope} {ce : Env} {fp : List Addr} {u : Value} {use : Option (Value → Sem Unit)} {Qf : Value → Shared → Prop} {acc : Value} {e0 : Env} {l0 : List Env} {L0 : Addr}
    (hst : X.stack = e0 :: l0) (h0 : e0.frame = some L0) (hX : X.env.frame = some L0) (hce : ce.frame = X.env.frame) (cL : ce.locals = s3.heap.objs.size) (I3 : Inv X pins σ H3 s3) (f3 : ∀ b ∈ fp, FpOk X pins H3 b ∧ b < s3.heap.objs.size)
    (tk : TakesL X W) (x : XL (X.blk s3 H3 scope ce fp) W u t) {E1 : Value → Shared → Prop} :
    wpAny (model X.prog X.w) X.A (noteFrame u ce) (fun _ t2 => BlkEnd (model X.prog X.w) X.A X.xe use Qf acc ce (.error u) t2) E1 t := by
  obtain ⟨a, B, sI, pins', σ', H', cls, d, L, rfl, hL, J, nb, up, sky, na, os, ag, w⟩ := x
  have hL : ce.frame = some L := hL
  rw [hce, hX] at hL
  cases hL
  have nb : ∀ b o, sI.heap.get? b = some o → b ∉ frs X.stack → B.get? b = some o := nb
  have sky : Sky B X.stack a (Zc cls d) L0 t.heap := sky
  rw [hst] at sky
  have hfr : X.A.frames = some (e0 :: l0) := by rw [I3.ok.frames, hst]
  rw [note_same (u := ce) (v := e0) (by rw [hce, hX, h0])]
  have fin : ∀ h1, HandSPX.HeldZ B (e0 :: l0) a (Zc cls d) L0 h1 → t.heap.UpToSlots h1 → BlkEnd (model X.prog X.w) X.A X.xe use Qf acc ce (.error (.ref a)) { t with heap := h1 } := fun h1 hh up1 => by
    obtain ⟨m, hn, _⟩ := J.loc
    have hn : sI.heap.Ns ce.locals m := hn
    have nC : H' ce.locals = none := J.free
    generalize hC : ce.locals = C at cL hn nC
    have cfr : C ∉ frs X.stack := fun hm => by
      obtain ⟨_, o, ho, _⟩ := I3.stack.mem hm
      exact absurd (Heap.lt_size ho) (by rw [cL]; exact Nat.lt_irrefl _)
    obtain ⟨oC, es, ep, hoC, rC⟩ := hn
    have bC := nb C oC hoC cfr
    obtain ⟨k1, k2, k3, oe, vs, T, oT, ts, he, hz, hd, hv1, hnT, hTe, hT, hdT, hv3⟩ := hh
    have aC : a ≠ C := fun z => by rw [z, bC] at k2; cases k2
    have tC : T ≠ C := fun z => by rw [z, bC] at hnT; cases hnT
    refine ⟨m, by rw [hC]; exact ⟨oC, es, ep, k1 C oC bC, rC⟩, fun g sb => ?_⟩
    rw [hC] at sb
    have gk : ∀ b, b ≠ C → g.get? b = h1.get? b := fun b hb => sb.2 b hb
    obtain ⟨B2, b1, b2⟩ := restrict B fun b => !decide (b = C)
    have bk : ∀ b, b ≠ C → B2.get? b = B.get? b := fun b hb => b1 b (by rw [decide_eq_false hb]; rfl)
    have bn : B2.get? C = none := b2 C (by rw [decide_eq_true rfl]; rfl)
    obtain ⟨G, e1, e2⟩ := restrict sI.heap fun b => !decide (b = C)
    have ek : ∀ b, b ≠ C → G.get? b = sI.heap.get? b := fun b hb => e1 b (by rw [decide_eq_false hb]; rfl)
    have en : G.get? C = none := e2 C (by rw [decide_eq_true rfl]; rfl)
    have ne : ∀ {Y : Heap} {b : Addr} {o : Obj}, Y.get? C = none → Y.get? b = some o → b ≠ C := fun n e z => by rw [z, n] at e; cases e
    have hh2 : HandSPX.HeldZ B2 (e0 :: l0) a (Zc cls d) L0 g := by
      refine ⟨fun b o e => ?_, (bk a aC).trans k2, frames_to k3 fun b hb => ?_, oe, vs, T, oT, ts, (gk a aC).trans he, hz, hd, hv1, (bk T tC).trans hnT, hTe, (gk T tC).trans hT, hdT, hv3⟩
      · have z := ne bn e
        rw [bk b z] at e
        rw [gk b z]
        exact k1 b o e
      · have z : b ≠ C := fun z => cfr (by rw [hst, ← z]; exact hb)
        obtain ⟨b0, _⟩ := k3.mem hb
        exact ⟨(bk b z).trans b0, fun o ho => (gk b z).trans ho⟩
    have I7 : Inv X pins σ H' sI := I3.call' (ch := fp) J.os J.base J.hok J.bare fun b hb => ⟨(f3 b hb).1.2.2.2.1, (f3 b hb).1.2.1, (f3 b hb).1.2.2.2.2.1, (f3 b hb).1.2.2.2.2.2⟩
    obtain ⟨f0, f1, f2, f4, f5, f6⟩ := I3.fpOk (b := C) (H' := H') (by rw [cL]; exact Nat.le_refl _) nC
    have K := I7.turned (h' := G) (t' := sI.toks) (it := C) (fun b o hb e => (ek b hb).trans e) f0 f1 f4 f5 f6
    unfold PySem.passOn
    refine wpAny_bind (wpAny_field ((gk a aC).trans he) hd hv1 ?_)
    rw [if_neg (show ¬ ((Value.ref T == Value.none) = true) from by simp)]
    have fin2 : wpAny (model X.prog X.w) X.A (setFlight (.ref a) ce.frame) (fun _ t4 => wpAny (model X.prog X.w) X.A (throw (.ref a) : Sem Value) (fun _ _ => False) X.xe t4) X.xe { t with heap := g } := by
      rw [hce, hX]
      refine HandSPX.setFlight_onZ hh2 fun h4 hh4 up4 => wpAny_throw (tk _ _ ?_)
      refine ⟨a, B2, { sI with heap := G, toks := sI.toks }, pins, σ, H', cls, d, L0, rfl, hX, K, fun b o e hb => ?_, fun b o e hd => ?_, .inr (.inr (by rw [hst]; exact hh4)), na, os, ag, w⟩
      · have z := ne en e
        rw [bk b z]
        rw [ek b z] at e
        exact nb b o e hb
      · have z := ne en e
        rw [ek b z] at e
        obtain ⟨sl1, q1⟩ := up b o e hd
        obtain ⟨sl2, q2⟩ := up1 b _ q1 hd
        obtain ⟨sl3, q3⟩ := up4 b _ ((gk b z).trans q2) hd
        exact ⟨sl3, q3⟩
    first
      | exact wpAny_bind (wpAny_pure (wpAny_bind fin2))
      | exact wpAny_bind fin2
  rcases sky with ⟨hB, hn, hl, oe, vs, he, hz, hd, h1⟩ | fl | hh
  · exact HandSPX.look_newZ Zc.steady hfr hl h0 he hB hn hd h1 hz fin
  · exact HandSPX.looks_onZ Zc.steady hfr h0 fl fin
  · exact HandSPX.againZ h0 hh.2.2.2 (fin t.heap hh (Heap.UpToSlots.refl _))
end
section
variable {X : Cx} {pins : List (Addr × Obj)} {σ : L2.St} {H : Hp} {s : Shared} {W : XK}
theorem lcr_core {Q : VK} {elt tg iter : Expr} {ifs : List Expr} {scope : Scope} {own : List (Str × Nat)} {pos pos' : Pos} {wi : TI} {g : TG} {tt : TT} {te : TE} {use : Option (Value → Sem Unit)} {Qf : Value → Shared → Prop} {e0 : Env} {l0 : List Env} {L0 : Addr}
    (hst : X.stack = e0 :: l0) (h0 : e0.frame = some L0) (hX : X.env.frame = some L0) (tk : TakesL X W)
    (hc : X.calm = true) (hN : X.N.Nodup) (I : Inv X pins σ H s) (hi : PI X tg iter wi) (ok : BlkOk X.N X.env.scope scope own)
    (hg : ∀ (s : Shared) (H : Hp) (C : Addr) (cl : List (Str × Addr)) (fp : List Addr), PG (blkE X W s H scope (compEnvC scope cl C X.env) fp) tg g)
    (ht : ∀ (s : Shared) (H : Hp) (C : Addr) (cl : List (Str × Addr)) (fp : List Addr), PTs (blkE X W s H scope (compEnvC scope cl C X.env) fp) ifs tt)
    (he : ∀ (s : Shared) (H : Hp) (C : Addr) (cl : List (Str × Addr)) (fp : List Addr), PE (blkE X W s H scope (compEnvC scope cl C X.env) fp) elt te)
    (hs : ∀ x, foldedSetIterable iter X.env x = pure x) (h : tLc wi g tt te (own.map (·.2)) σ H Q)
    (hR : ∀ D C t m H' ce, Inv X pins σ H' t → Q (.ref D) H' → t.heap.Ns C m → FpOk X pins H' C → ce.locals = C → BlkEnd (model X.prog X.w) X.A X.xe use Qf (.ref D) ce (.ok .next) t) :
    wpAny (model X.prog X.w) X.A (comprehension (.ListComp elt [⟨tg, iter, ifs, 0⟩] scope pos) scope X.env pos' (newList []) false (eval iter X.env) use) Qf X.xe s := by
  have hfree : ∀ y ∈ scope.names, y.2 = .free → ∃ c, X.env.cells.lookup y.1 = some c := fun y hy e => I.ok.has _ (ok.free y hy e)
  refine wp_block (use := use) rfl hs (closure_ok hfree) ok.kind (fun y hy e => by rw [ok.uniq y hy, e]) (thn (hi.run pins s σ H _ I h) fun xv s1 hx => thn hx fun itv s2 h2 => ?_)
  obtain ⟨it, fp, tn, J, H2, e, I2, T, st2, f2, q⟩ := h2
  subst e
  refine wpAny_newObj_type (newEnv_comp ?_) (by show 0 ≤ sizeLine; decide)
  generalize hD : s2.heap.objs.size = D
  have hDn : H2 D = none := I2.hok.fresh (Nat.le_of_eq hD)
  obtain ⟨Wm, ⟨m0, w0⟩, turn⟩ := q D hDn
  generalize hs3 : ({ s2 with heap := s2.heap.push { cls := .type "list", data := .seq ([] : List Value).toArray } } : Shared) = s3
  have h3 : s3.heap = s2.heap.push { cls := .type "list", data := .seq ([] : List Value).toArray } := by rw [← hs3]
  have I3 : Inv X pins σ (upd H2 D (.lst [])) s3 := by
    rw [← hs3]
    exact I2.laid (t' := s2.toks) (fun b o e => Heap.get?_push_of_some _ e) (Nat.le_of_eq hD) ⟨Nat.zero_le _, [], 0, .nil, by rw [← hD]; exact Heap.get?_push_size _ rfl⟩
  have f3 : ∀ b ∈ fp, FpOk X pins (upd H2 D (.lst [])) b ∧ b < s3.heap.objs.size := fun b hb => by
    obtain ⟨o, e, _⟩ := T.obj _ _ st2 b hb
    have hlt : b < s2.heap.objs.size := Heap.lt_size e
    refine ⟨⟨(upd_ne (by rw [← hD]; exact Nat.ne_of_lt hlt)).trans (f2 b hb).1, (f2 b hb).2⟩, ?_⟩
    rw [h3, Heap.size_push]
    exact Nat.lt_succ_of_lt hlt
  have st3 : tn 0 s3.heap := T.keep _ _ _ st2 fun b _ o e => by rw [h3]; exact Heap.get?_push_of_some _ e
  have I4 := block_start I3 ok hN f3
  have pg := hg s3 (upd H2 D (.lst [])) s3.heap.objs.size (cellsFrom (s3.heap.objs.size + 1) scope.names (cloFrom X.env.cells scope.names [])) fp
  have pt := ht s3 (upd H2 D (.lst [])) s3.heap.objs.size (cellsFrom (s3.heap.objs.size + 1) scope.names (cloFrom X.env.cells scope.names [])) fp
  have pe := he s3 (upd H2 D (.lst [])) s3.heap.objs.size (cellsFrom (s3.heap.objs.size + 1) scope.names (cloFrom X.env.cells scope.names [])) fp
  show codeAny _ _ (.compStart (.ListComp elt [⟨tg, iter, ifs, 0⟩] scope pos) 0 (.ref it) (.ref D) (compEnvC scope (cellsFrom (s3.heap.objs.size + 1) scope.names (cloFrom X.env.cells scope.names [])) s3.heap.objs.size X.env))
    (BlkEnd (model X.prog X.w) X.A X.xe use Qf (.ref D) (compEnvC scope (cellsFrom (s3.heap.objs.size + 1) scope.names (cloFrom X.env.cells scope.names [])) s3.heap.objs.size X.env)) { s3 with heap := pushCells (s3.heap.push { cls := .type "dict", data := .dict #[] }) scope.names }
  generalize hce : compEnvC scope (cellsFrom (s3.heap.objs.size + 1) scope.names (cloFrom X.env.cells scope.names [])) s3.heap.objs.size X.env = ce at I4 pg pt pe ⊢
  have cL : ce.locals = s3.heap.objs.size := by rw [← hce]; rfl
  have cF : ce.frame = X.env.frame := by rw [← hce]; rfl
  generalize hH3 : upd H2 D (.lst []) = H3 at I3 I4 pg pt pe w0 f3
  generalize hs4 : ({ s3 with heap := pushCells (s3.heap.push { cls := .type "dict", data := .dict #[] }) scope.names } : Shared) = s4 at I4 ⊢
  have I4 := I4.wish (XL (X.blk s3 H3 scope ce fp) W)
  have nfp : ∀ b ∈ fp, H3 b = none := fun b hb => (f3 b hb).1.1
  have st4 : tn 0 s4.heap := T.keep _ _ _ st3 fun b _ o e => by rw [← hs4]; exact pushCells_keeps _ _ _ _ (Heap.get?_push_of_some _ e)
  have stat : ∀ {σ' : L2.St} {H' : Hp} {s' : Shared}, Inv (blkE X W s3 H3 scope ce fp) [] σ' H' s' → (∀ b ∈ fp, H' b = none) → ∀ b ∈ fp, FpOk (blkE X W s3 H3 scope ce fp) [] H' b := fun {σ' H' s'} I' hn b hb =>
    ⟨hn b hb, (I'.ok.exf b hb).1, I'.ok.exfs b hb, .inl hb, (I'.ok.exf b hb).2, fun p hp => absurd (show p ∈ ([] : List (Addr × Obj)) ++ [] from hp) (by simp)⟩
  have loop : codeAny (model X.prog X.w) X.A (.compLoop (.ListComp elt [⟨tg, iter, ifs, 0⟩] scope pos) 0 (.ref it) (.ref D) ce) (BlkEnd (model X.prog X.w) X.A X.xe use Qf (.ref D) ce) s4 := by
    refine compLoop_any (fun n t => ∃ i H', Inv (blkE X W s3 H3 scope ce fp) [] (wipe σ (own.map (·.2))) H' t ∧ tn i t.heap ∧ (∀ b ∈ fp, H' b = none) ∧ Wm i n H') ?_ m0 ⟨0, H3, I4, st4, nfp, w0⟩
    rintro n s5 ⟨i, H5, I5, st5, n5, w5⟩
    have out : ∀ (u : Value) (t : Shared), (blkE X W s3 H3 scope ce fp).xe u t → notedBy (model X.prog X.w) X.A ce (fun e t2 => BlkEnd (model X.prog X.w) X.A X.xe use Qf (.ref D) ce (.error e) t2) u t := fun u t x =>
      XL.out hst h0 hX cF cL I3 f3 tk x
    rcases turn i n H5 w5 with ⟨stop, qq⟩ | ⟨go, Nx, hNx, step⟩
    · refine thnF (T.done (blkE X W s3 H3 scope ce fp) rfl rfl rfl hc i [] s5 _ H5 (fun _ _ => False) I5 (stat I5 n5) st5 stop) fun r s6 ⟨hr, I6⟩ => ?_
      subst hr
      have nC : H5 s3.heap.objs.size = none := by rw [← cL]; exact I6.free
      have I7 : Inv X pins σ H5 s6 := I3.call' (ch := fp) I6.os I6.base I6.hok I6.bare fun b hb => ⟨(f3 b hb).1.2.2.2.1, (f3 b hb).1.2.1, (f3 b hb).1.2.2.2.2.1, (f3 b hb).1.2.2.2.2.2⟩
      obtain ⟨m, hn, _⟩ := I6.loc
      have hn : s6.heap.Ns ce.locals m := hn
      exact hR D ce.locals s6 m H5 ce I7 qq hn (I3.fpOk (by rw [cL]; exact Nat.le_refl _) (by rw [cL]; exact nC)) rfl
    · refine thnF (T.item (blkE X W s3 H3 scope ce fp) rfl rfl rfl hc i [] s5 _ H5 (fun _ _ => False) I5 (stat I5 n5) st5 go) fun r s6 ⟨u, hr, h6⟩ => ?_
      subst hr
      refine thnF h6 fun _ s7 ⟨x, H7, I7, r7, y7, st7, n7⟩ => ?_
      have I7' := I7.pinned (stat I7 n7) (T.obj _ _ st7)
      refine wpAny_mono (pg.run _ s7 _ H7 x u _ I7' r7 (step x H7 y7)) (fun _ s8 ⟨σ8, H8, I8, hw8, q8⟩ => ?_) out
      refine wpAny_mono (pt.run _ s8 σ8 H8 _ I8 q8) (fun b s9 ⟨H9, I9, q9⟩ => ?_) out
      have fin : ∀ {t : Shared} {H' : Hp}, Inv (blkE X W s3 H3 scope ce fp) ([] ++ pinsAt fp s7.heap) σ8 H' t → Nx H' → ∃ m, m < n ∧ ∃ i H', Inv (blkE X W s3 H3 scope ce fp) [] (wipe σ (own.map (·.2))) H' t ∧ tn i t.heap ∧ (∀ b ∈ fp, H' b = none) ∧ Wm i m H' := fun {t H'} I' nx => by
        obtain ⟨m', hm, w'⟩ := hNx H' nx
        have pin' : ∀ b ∈ fp, ∀ o, s7.heap.get? b = some o → t.heap.get? b = some o ∧ H' b = none := fun b hb o e => by
          have z := I'.pin (b, o) (List.mem_append_right _ (List.mem_append_right _ (mem_pinsAt hb e)))
          exact ⟨z.1, z.2.1⟩
        refine ⟨m', hm, i + 1, H', (I'.unpinned (pins := [])).weak (by rw [← hw8, wipe_length]) (fun j v e => ?_), T.keep _ _ _ st7 fun b hb o e => (pin' b hb o e).1, fun b hb => ?_, w'⟩
        · rw [← hw8] at e
          exact (wipe_some e).1
        · obtain ⟨o, e, _⟩ := T.obj _ _ st7 b hb
          exact (pin' b hb o e).2
      cases b with
      | false =>
        simp only [Bool.false_eq_true, if_false] at q9 ⊢
        exact fin I9 q9
      | true =>
        simp only [if_true] at q9 ⊢
        refine wpAny_mono (pe.run _ s9 σ8 H9 _ I9 q9) (fun z s10 ⟨yv, H10, I10, r10, acc, hD10, hz10, nx⟩ => ?_) out
        exact app_ok (X := blkE X W s3 H3 scope ce fp) I10 hD10 hz10 r10 fun s11 I11 => fin I11 nx
  exact codeAny_compStart_list loop (T.self X.A 0 _ _ _ st4 loop)
variable {elt tg iter : Expr} {ifs : List Expr} {scope : Scope} {own : List (Str × Nat)} {pos : Pos} {wi : TI} {g : TG} {tt : TT} {te : TE} {e0 : Env} {l0 : List Env} {L0 : Addr}
theorem pe_lcr (hst : X.stack = e0 :: l0) (h0 : e0.frame = some L0) (hX : X.env.frame = some L0) (tk : TakesL X W) (hc : X.calm = true) (hN : X.N.Nodup) (hi : PI X tg iter wi) (ok : BlkOk X.N X.env.scope scope own)
    (hg : ∀ (s : Shared) (H : Hp) (C : Addr) (cl : List (Str × Addr)) (fp : List Addr), PG (blkE X W s H scope (compEnvC scope cl C X.env) fp) tg g)
    (ht : ∀ (s : Shared) (H : Hp) (C : Addr) (cl : List (Str × Addr)) (fp : List Addr), PTs (blkE X W s H scope (compEnvC scope cl C X.env) fp) ifs tt)
    (he : ∀ (s : Shared) (H : Hp) (C : Addr) (cl : List (Str × Addr)) (fp : List Addr), PE (blkE X W s H scope (compEnvC scope cl C X.env) fp) elt te) (hs : ∀ x, foldedSetIterable iter X.env x = pure x := by intro _; rfl) :
    PE X (.ListComp elt [⟨tg, iter, ifs, 0⟩] scope pos) (tLc wi g tt te (own.map (·.2))) := by
  refine ⟨fun pins s σ H Q I h => ?_⟩
  rw [eval_ListComp]
  refine lcr_core hst h0 hX tk hc hN I hi ok hg ht he hs h fun D C t m H' ce I' q hn f hce => ⟨m, by rw [hce]; exact hn, fun k sb => ?_⟩
  rw [hce] at sb
  obtain ⟨f0, f1, f2, f3, f4, f5⟩ := f
  exact ⟨.ref D, H', I'.turned (t' := t.toks) (fun b o hb e => (sb.2 b hb).trans e) f0 f1 f3 f4 f5, rfl, q⟩
theorem ps_setLcr {i : Nat} {y : Str} {py spos : Pos} (hst : X.stack = e0 :: l0) (h0 : e0.frame = some L0) (hX : X.env.frame = some L0) (tk : TakesL X W) (hc : X.calm = true) (hN : X.N.Nodup) (hy : X.N[i]? = some y) (hyl : X.env.scope.names.lookup y = some .local)
    (hsw : swapsWith (.ListComp elt [⟨tg, iter, ifs, 0⟩] scope pos) (some (.Name y py)) spos.line X.env = pure true) (hi : PI X tg iter wi) (ok : BlkOk X.N X.env.scope scope own)
    (hg : ∀ (s : Shared) (H : Hp) (C : Addr) (cl : List (Str × Addr)) (fp : List Addr), PG (blkE X W s H scope (compEnvC scope cl C X.env) fp) tg g)
    (ht : ∀ (s : Shared) (H : Hp) (C : Addr) (cl : List (Str × Addr)) (fp : List Addr), PTs (blkE X W s H scope (compEnvC scope cl C X.env) fp) ifs tt)
    (he : ∀ (s : Shared) (H : Hp) (C : Addr) (cl : List (Str × Addr)) (fp : List Addr), PE (blkE X W s H scope (compEnvC scope cl C X.env) fp) elt te) (hs : ∀ x, foldedSetIterable iter X.env x = pure x := by intro _; rfl) :
    PS X (.Assign [.Name y py] (.ListComp elt [⟨tg, iter, ifs, 0⟩] scope pos) spos) (tAsg (tLc wi g tt te (own.map (·.2))) (gName i)) := by
  refine ⟨fun pins s σ H D I h => ?_⟩
  rw [exec_Assign_Name_used _ _ _ _ hsw]
  refine wpAny_bind (wpAny_standAt (wpAny_bind ?_))
  show wpAny _ X.A (do let _ ← comprehension (.ListComp elt [⟨tg, iter, ifs, 0⟩] scope pos) scope X.env (firstIterPos [⟨tg, iter, ifs, 0⟩] pos) (newList []) false (eval iter X.env) (some (assign (.Name y py) X.env))) _ _ s
  have h : tLc wi g tt te (own.map (·.2)) σ H (fun x H1 => gName i x σ H1 D.nx) := h
  refine wpAny_bind (thn (lcr_core (Qf := fun _ t => SP X pins D .next t) hst h0 hX tk hc hN I hi ok hg ht he hs h fun L C t m H' ce I' q hn f hce => ?_) fun _ t hq => wpAny_pure (wpAny_pure hq))
  show wpAny _ _ (assign (.Name y py) X.env (.ref L)) _ _ _
  obtain ⟨f0, f1, f2, f3, f4, f5⟩ := f
  refine wpAny_assign_Name (store_ok2 (v := V.ref L) I' hN hy (.inl hyl) rfl (fun s2 I2 ⟨a, sb, ha⟩ => ?_) (.inr hyl))
  have haC : C ≠ a := ha.elim (fun z => by rw [z]; exact f1) fun z w => f4 y a z w.symm
  refine ⟨m, by rw [hce]; exact hn.sameBut sb haC, fun k sb3 => ?_⟩
  rw [hce] at sb3
  exact ⟨_, H', I2.turned (t' := s2.toks) (fun b o hb e => (sb3.2 b hb).trans e) f0 f1 f3 f4 f5, q⟩
end
end TP

namespace ZN
open PySem PySem.Spec PyProof.Rows L2
open PySem.Sem (wp)
/-- what is walked: an address, and whether a tuple stands there -/
structure Src where
  a : Addr
  t : Bool
def SIt (h : Heap) (it : Addr) (x : Src) (k : Nat) : Prop := match x.t with
  | true => h.IsTupleIter it x.a k
  | false => h.IsListIter it x.a k
def SSq (h : Heap) (x : Src) (r : Array Value) : Prop := match x.t with
  | true => h.IsTuple x.a r
  | false => h.IsList x.a r
theorem SIt.at {h h' : Heap} {it : Addr} {x : Src} {k : Nat} (g : SIt h it x k) (e : ∀ o, h.get? it = some o → h'.get? it = some o) : SIt h' it x k := by
  obtain ⟨a, t⟩ := x
  cases t
  · exact Heap.IsListIter.at g e
  · exact Heap.IsTupleIter.at g e
theorem SSq.at {h h' : Heap} {x : Src} {r : Array Value} (g : SSq h x r) (e : ∀ o, h.get? x.a = some o → h'.get? x.a = some o) : SSq h' x r := by
  obtain ⟨a, t⟩ := x
  cases t
  · exact Heap.IsList.at g e
  · exact Heap.IsTuple.at g e
theorem SIt.obj {h : Heap} {it : Addr} {x : Src} {k : Nat} (g : SIt h it x k) : ∃ o, h.get? it = some o ∧ ∀ v, o.data ≠ .cell v := by
  obtain ⟨a, t⟩ := x
  cases t
  · obtain ⟨o, e, _, d⟩ := g
    exact ⟨o, e, fun v q => by rw [d] at q; cases q⟩
  · obtain ⟨o, e, _, d⟩ := g
    exact ⟨o, e, fun v q => by rw [d] at q; cases q⟩
section
variable {prog : Program} {w : World} {A : Around} {E : Value → Shared → Prop} {s : Shared}
theorem nextOf_item {it : Addr} {x : Src} {k : Nat} {r : Array Value} {v : Value} {Q : Value → Shared → Prop} (hit : SIt s.heap it x k) (hl : SSq s.heap x r) (hx : r[k]? = some v)
    (hQ : ∀ h', SIt h' it x (k + 1) → Heap.SameBut it s.heap h' → Q v { s with heap := h' }) : wpAny (model prog w) A (Builtin.SmallTypes.nextOf (.ref it)) Q E s := by
  obtain ⟨a, t⟩ := x
  cases t
  · exact wpAny_nextOf_list_item hit hl hx hQ
  · exact RZ.nextOf_tuple_item hit hl hx hQ
theorem nextOf_end {it : Addr} {x : Src} {k : Nat} {r : Array Value} {Q : Value → Shared → Prop} (hh : A.handled = none) (hit : SIt s.heap it x k) (hl : SSq s.heap x r) (hx : r[k]? = none)
    (hE : ∀ h' e, Heap.ExtBut it s.heap h' → (∃ o, h'.get? e = some o ∧ o.cls = .type "StopIteration") → E (.ref e) { s with heap := h' }) : wpAny (model prog w) A (Builtin.SmallTypes.nextOf (.ref it)) Q E s := by
  obtain ⟨a, t⟩ := x
  cases t
  · exact wpAny_nextOf_list_end hh hit hl hx hE
  · exact RZ.nextOf_tuple_end hh hit hl hx hE
theorem pyIter_src {x : Src} {r : Array Value} {Q : Value → Shared → Prop} (hl : SSq s.heap x r)
    (hQ : Q (.ref s.heap.objs.size) { s with heap := s.heap.push { cls := .type (if x.t then "tuple_iterator" else "list_iterator"), data := .fields #[.ref x.a, .int 0 0] } }) :
    wpAny (model prog w) A (pyIter (.ref x.a)) Q E s := by
  obtain ⟨a, t⟩ := x
  cases t
  · exact wpAny_pyIter_list hl hQ
  · exact wpAny_pyIter_tuple hl hQ
theorem forIn_by {α β : Type} {r0 : β} {Q : β → Shared → Prop} : ∀ {l : List α} {f : α → β → Sem (ForInStep β)} (I : Nat → Shared → Prop) {s : Shared}, I 0 s →
    (∀ j x s, l[j]? = some x → I j s → wpAny (model prog w) A (f x r0) (fun r s' => r = .yield r0 ∧ I (j + 1) s') E s) → (∀ s, I l.length s → Q r0 s) → wpAny (model prog w) A (forIn l r0 f) Q E s
  | [], f, I, s, h0, _, hd => by
    rw [List.forIn_nil]
    exact wpAny_pure (hd s h0)
  | y :: r, f, I, s, h0, hs, hd => by
    rw [List.forIn_cons]
    refine wpAny_bind (wpAny_mono (hs 0 y s rfl h0) (fun z s' q => ?_) fun _ _ e => e)
    obtain ⟨rfl, q⟩ := q
    exact forIn_by (l := r) (fun j => I (j + 1)) q (fun j x s hx => hs (j + 1) x s hx) hd
theorem updateSeq_at {T : Addr} {ys : Array Value} {x : Value} {k : Nat} {Q : Unit → Shared → Prop} (hT : s.heap.get? T = some { cls := .type "tuple", data := .seq ys }) (hz : ys.size ≤ sizeLine)
    (h : ∀ h', h'.get? T = some { cls := .type "tuple", data := .seq (ys.setIfInBounds k x) } → Heap.SameBut T s.heap h' → Q () { s with heap := h' }) :
    wpAny (model prog w) A (updateSeq T (·.setIfInBounds k x)) Q E s := by
  refine wpAny_updateSeq hT rfl (h _ ?_ (Heap.SameBut.update ..)) hz (by simp; omega)
  rw [Heap.get?_update_self _ hT rfl]
  simp [Obj.mapSeq]
structure Apart (z TI TO : Addr) (is : List Addr) (srcs : List Src) : Prop where
  TIz : TI ≠ z
  TOz : TO ≠ z
  TITO : TI ≠ TO
  zi : z ∉ is
  TIi : TI ∉ is
  TOi : TO ∉ is
  nd : is.Nodup
  sz : ∀ x ∈ srcs, x.a ≠ z
  sTO : ∀ x ∈ srcs, x.a ≠ TO
  si : ∀ x ∈ srcs, x.a ∉ is
theorem nd_inj {α : Type} {is : List α} {i j : Nat} {a : α} (h : is.Nodup) (e1 : is[i]? = some a) (e2 : is[j]? = some a) : i = j := by
  obtain ⟨l1, g1⟩ := List.getElem?_eq_some_iff.mp e1
  obtain ⟨l2, g2⟩ := List.getElem?_eq_some_iff.mp e2
  rcases Nat.lt_trichotomy i j with g | g | g
  · exact absurd (g1.trans g2.symm) (List.pairwise_iff_getElem.mp h i j l1 l2 g)
  · exact g
  · exact absurd (g2.trans g1.symm) (List.pairwise_iff_getElem.mp h j i l2 l1 g)
def refs (is : List Addr) : Array Value := (is.map Value.ref).toArray
theorem next {z TI TO : Addr} {is : List Addr} {srcs : List Src} {k : Nat} {row : Nat → Array Value} {Q : Fin → Shared → Prop} (hh : A.handled = none) (D : Apart z TI TO is srcs) (hlen : is.length = srcs.length) (hne : is ≠ []) (hsm : is.length ≤ 1000)
    (hz : IsZip s.heap z TI TO .none) (hTI : s.heap.get? TI = some { cls := .type "tuple", data := .seq (refs is) }) (hTO : ∃ ys : Array Value, ys.size = is.length ∧ s.heap.get? TO = some { cls := .type "tuple", data := .seq ys })
    (hit : ∀ (j : Nat) (i : Addr) (x : Src), is[j]? = some i → srcs[j]? = some x → SIt s.heap i x k) (hsq : ∀ (j : Nat) (x : Src), srcs[j]? = some x → SSq s.heap x (row j))
    (hQ : (∀ j, j < is.length → (row j)[k]? ≠ none) → ∀ h' (ys : Array Value), IsZip h' z TI TO (rawInt s.heap.objs.size) → ys.size = is.length → (∀ j, j < is.length → ys[j]? = (row j)[k]?) → h'.get? TO = some { cls := .type "tuple", data := .seq ys } →
      (∀ (j : Nat) (i : Addr) (x : Src), is[j]? = some i → srcs[j]? = some x → SIt h' i x (k + 1)) → h'.get? s.heap.objs.size = some { cls := .type "tuple", data := .seq ys } → h'.objs.size = s.heap.objs.size + 1 →
      (∀ c o, c ≠ z → c ≠ TO → c ∉ is → s.heap.get? c = some o → h'.get? c = some o) → Q (.done (.ret (.ref s.heap.objs.size))) { s with heap := h' })
    (hE : (∃ j, j < is.length ∧ (row j)[k]? = none) → ∀ h' e, (∀ c o, c ≠ z → c ≠ TO → c ∉ is → s.heap.get? c = some o → h'.get? c = some o) → (∃ o, h'.get? e = some o ∧ o.cls = .type "StopIteration") → E (.ref e) { s with heap := h' }) :
    wpAny (model prog w) A (Builtin.«zip.__next__» ⟨[.ref z], []⟩) Q E s := by
  show wpAny _ _ (field (.ref z) 2 >>= _) _ _ _
  refine wpAny_bind (wpAny_field hz rfl (x := .bool false) rfl ?_)
  show wpAny _ _ (field (.ref z) 3 >>= _) _ _ _
  refine wpAny_bind (wpAny_field hz rfl (x := .ref TI) rfl ?_)
  refine wpAny_bind (wpAny_seqItems hTI rfl ?_)
  have hem : (refs is).isEmpty = false := by
    cases is with
    | nil => exact absurd rfl hne
    | cons i r => rfl
  simp only [hem, Bool.false_eq_true, if_false]
  show wpAny _ _ (Builtin.SmallTypes.ownedTupleIsFree (.ref z) >>= _) _ _ _
  refine wpAny_bind ?_
  unfold Builtin.SmallTypes.ownedTupleIsFree
  refine wpAny_bind (wpAny_field hz rfl (x := .none) rfl (wpAny_pure ?_))
  simp only [if_true]
  refine wpAny_bind (wpAny_rule ?_)
  refine wpAny_bind (wpAny_field hz rfl (x := .ref TO) rfl ?_)
  refine wpAny_bind (wpAny_setField_rec hz (by simp) fun h₁ hz₁ hs₁ => ?_)
  replace hz₁ : IsZip h₁ z TI TO .ellipsis := hz₁
  refine wpAny_bind ?_
  refine forIn_by (fun j s' => ∃ h', s' = { s with heap := h' } ∧ IsZip h' z TI TO .ellipsis ∧ (∃ ys : Array Value, ys.size = is.length ∧ h'.get? TO = some { cls := .type "tuple", data := .seq ys } ∧ ∀ i, i < j → i < is.length → ys[i]? = (row i)[k]?) ∧
    (∀ (i : Nat) (a : Addr) (x : Src), is[i]? = some a → srcs[i]? = some x → SIt h' a x (if i < j then k + 1 else k)) ∧ h'.objs.size = s.heap.objs.size ∧ (∀ i, i < j → i < is.length → (row i)[k]? ≠ none) ∧
    ∀ c o, c ≠ z → c ≠ TO → c ∉ is → s.heap.get? c = some o → h'.get? c = some o) ?_ ?_ ?_
  · obtain ⟨ys, y1, y2⟩ := hTO
    refine ⟨h₁, rfl, hz₁, ⟨ys, y1, hs₁.extBut _ _ D.TOz y2, fun i hi => absurd hi (Nat.not_lt_zero i)⟩, fun i a x e1 e2 => ?_, hs₁.1, fun i hi => absurd hi (Nat.not_lt_zero i), fun c o c1 _ _ e => hs₁.extBut _ _ c1 e⟩
    rw [if_neg (Nat.not_lt_zero i)]
    have ne : a ≠ z := fun q => D.zi (q ▸ List.mem_of_getElem? e1)
    exact (hit i a x e1 e2).at fun o q => hs₁.extBut _ _ ne q
  · rintro j ⟨v, n⟩ s' hj ⟨h', rfl, hz', ⟨ys, y1, y2, y3⟩, it', hsz, had, hk⟩
    rw [List.getElem?_zipIdx] at hj
    have hj' : ∃ a, is[j]? = some a ∧ v = .ref a ∧ n = j := by
      unfold refs at hj
      rw [List.toList_toArray, List.getElem?_map] at hj
      cases ea : is[j]? with
      | none => rw [ea] at hj; cases hj
      | some a =>
        rw [ea] at hj
        have := Option.some.inj hj
        have e1 := (Prod.mk.inj this).1
        have e2 := (Prod.mk.inj this).2
        exact ⟨a, rfl, e1.symm, by omega⟩
    obtain ⟨a, ea, rfl, rfl⟩ := hj'
    have jl : n < is.length := (List.getElem?_eq_some_iff.mp ea).1
    obtain ⟨x, ex⟩ : ∃ x, srcs[n]? = some x := ⟨srcs[n]'(by omega), List.getElem?_eq_getElem _⟩
    have ma := List.mem_of_getElem? ea
    have mx := List.mem_of_getElem? ex
    have az : a ≠ z := fun q => D.zi (q ▸ ma)
    have aTO : a ≠ TO := fun q => D.TOi (q ▸ ma)
    have hI := it' n a x ea ex
    rw [if_neg (Nat.lt_irrefl n)] at hI
    have hS : SSq h' x (row n) := (hsq n x ex).at fun o q => hk _ o (D.sz x mx) (D.sTO x mx) (D.si x mx) q
    refine wpAny_bind (wpAny_onRaise ?_)
    show wpAny _ _ (Builtin.SmallTypes.nextOf (.ref a) >>= _) _ _ _
    cases hx : (row n)[k]? with
    | none =>
      refine wpAny_bind (nextOf_end hh hI hS hx fun h₂ e hs₂ he => ?_)
      obtain ⟨oe, hoe, hce⟩ := he
      have hz₂ : IsZip h₂ z TI TO .ellipsis := hs₂ _ _ az.symm hz'
      have hez : e ≠ z := fun x => by subst x; rw [hz₂] at hoe; cases hoe; simp at hce
      refine wpAny_setField_rec hz₂ (by simp) fun h₃ _ hs₃ => hE ⟨n, jl, hx⟩ h₃ e (fun c o c1 c2 c3 q => hs₃.extBut _ _ c1 (hs₂ _ _ (fun q' => c3 (q' ▸ ma)) (hk c o c1 c2 c3 q))) ⟨oe, hs₃.extBut _ _ hez hoe, hce⟩
    | some u =>
      refine wpAny_bind (nextOf_item hI hS hx fun h₂ h1₂ hs₂ => wpAny_pure ?_)
      have hTO₂ : h₂.get? TO = some { cls := .type "tuple", data := .seq ys } := hs₂.extBut _ _ aTO.symm y2
      refine wpAny_bind (wpAny_seqItems hTO₂ rfl ?_)
      refine wpAny_bind (updateSeq_at hTO₂ (by rw [y1]; exact Nat.le_trans hsm (by decide)) fun h₃ hTO₃ hs₃ => ?_)
      refine wpAny_bind (wpAny_letGo (wpAny_pure ⟨rfl, h₃, rfl, hs₃.extBut _ _ D.TOz.symm (hs₂.extBut _ _ az.symm hz'), ⟨_, by simp [y1], hTO₃, fun i hi il => ?_⟩, fun i b x' e1 e2 => ?_, by rw [hs₃.1, hs₂.1, hsz], fun i hi il => ?_, fun c o c1 c2 c3 q => ?_⟩))
      · rcases Nat.lt_or_ge i n with g | g
        · rw [Array.getElem?_setIfInBounds_ne (by omega)]
          exact y3 i g il
        · have e : i = n := by omega
          subst e
          rw [Array.getElem?_setIfInBounds_self_of_lt (by omega), hx]
      · rcases Nat.lt_trichotomy i n with g | g | g
        · rw [if_pos (by omega)]
          have hb := it' i b x' e1 e2
          rw [if_pos g] at hb
          have ne : b ≠ a := fun q => by
            have := nd_inj D.nd e1 (q ▸ ea)
            omega
          have nT : b ≠ TO := fun q => D.TOi (q ▸ List.mem_of_getElem? e1)
          exact (hb.at fun o q => hs₂.extBut _ _ ne q).at fun o q => hs₃.extBut _ _ nT q
        · subst g
          rw [ea] at e1
          rw [ex] at e2
          cases e1
          cases e2
          rw [if_pos (by omega)]
          exact h1₂.at fun o q => hs₃.extBut _ _ aTO q
        · rw [if_neg (by omega)]
          have hb := it' i b x' e1 e2
          rw [if_neg (by omega)] at hb
          have ne : b ≠ a := fun q => by
            have := nd_inj D.nd e1 (q ▸ ea)
            omega
          have nT : b ≠ TO := fun q => D.TOi (q ▸ List.mem_of_getElem? e1)
          exact (hb.at fun o q => hs₂.extBut _ _ ne q).at fun o q => hs₃.extBut _ _ nT q
      · rcases Nat.lt_or_ge i n with g | g
        · exact had i g il
        · have e : i = n := by omega
          subst e
          rw [hx]
          exact fun q => nomatch q
      · exact hs₃.extBut _ _ c2 (hs₂.extBut _ _ (fun q' => c3 (q' ▸ ma)) (hk c o c1 c2 c3 q))
  · rintro s' ⟨h', rfl, hz', ⟨ys, y1, y2, y3⟩, it', hsz, had, hk⟩
    have ll : (refs is).toList.zipIdx.length = is.length := by simp [refs]
    rw [ll] at y3 it' had
    refine wpAny_bind (wpAny_seqItems y2 rfl ?_)
    refine wpAny_bind (wpAny_newTuple ?_ (by simp [y1]; exact Nat.le_trans hsm (by decide)))
    show wpAny _ _ (Builtin.SmallTypes.ownedTupleHandOut (.ref z) (.ref h'.objs.size) >>= _) _ _ _
    refine wpAny_bind ?_
    unfold Builtin.SmallTypes.ownedTupleHandOut
    have hzlt : z < h'.objs.size := Heap.lt_size hz'
    have hz₆ : IsZip (h'.push { cls := .type "tuple", data := .seq ys }) z TI TO .ellipsis := Heap.get?_push_of_some _ hz'
    refine wpAny_bind (wpAny_setField_rec hz₆ (by simp) fun h₇ hz₇ hs₇ => ?_)
    replace hz₇ : IsZip h₇ z TI TO (rawInt h'.objs.size) := hz₇
    refine wpAny_setField_rec hz₇ (by simp) fun h₈ hz₈ hs₈ => ?_
    replace hz₈ : IsZip h₈ z TI TO (rawInt h'.objs.size) := hz₈
    have up : ∀ c o, c ≠ z → h'.get? c = some o → h₈.get? c = some o := fun c o c1 e => hs₈.extBut _ _ c1 (hs₇.extBut _ _ c1 (Heap.get?_push_of_some _ e))
    have hT₈ : h₈.get? h'.objs.size = some { cls := .type "tuple", data := .seq ys } := hs₈.extBut _ _ (Nat.ne_of_gt hzlt) (hs₇.extBut _ _ (Nat.ne_of_gt hzlt) (Heap.get?_push_size _ rfl))
    have hz8 : h₈.objs.size = h'.objs.size + 1 := by rw [hs₈.1, hs₇.1, Heap.size_push]
    rw [hsz] at hz₈ hT₈ hz8
    refine wpAny_pure ?_
    show Q (.done (.ret (.ref h'.objs.size))) _
    rw [hsz]
    refine hQ (fun j hj => had j hj hj) h₈ ys hz₈ y1 (fun j hj => y3 j hj hj) (up _ _ D.TOz y2) (fun i a x e1 e2 => ?_) hT₈ hz8 fun c o c1 c2 c3 e => up c o c1 (hk c o c1 c2 c3 e)
    have hb := it' i a x e1 e2
    rw [if_pos (List.getElem?_eq_some_iff.mp e1).1] at hb
    exact hb.at fun o e => up _ o (fun q => D.zi (q ▸ List.mem_of_getElem? e1)) e
theorem pyNext_item {z TI TO : Addr} {is : List Addr} {srcs : List Src} {k : Nat} {row : Nat → Array Value} {Q : Option Value → Shared → Prop} (hh : A.handled = none) (D : Apart z TI TO is srcs) (hlen : is.length = srcs.length) (hne : is ≠ []) (hsm : is.length ≤ 1000)
    (hz : IsZip s.heap z TI TO .none) (hTI : s.heap.get? TI = some { cls := .type "tuple", data := .seq (refs is) }) (hTO : ∃ ys : Array Value, ys.size = is.length ∧ s.heap.get? TO = some { cls := .type "tuple", data := .seq ys })
    (hit : ∀ (j : Nat) (i : Addr) (x : Src), is[j]? = some i → srcs[j]? = some x → SIt s.heap i x k) (hsq : ∀ (j : Nat) (x : Src), srcs[j]? = some x → SSq s.heap x (row j)) (hall : ∀ j, j < is.length → (row j)[k]? ≠ none)
    (hQ : ∀ h' (ys : Array Value), IsZip h' z TI TO (rawInt s.heap.objs.size) → ys.size = is.length → (∀ j, j < is.length → ys[j]? = (row j)[k]?) → h'.get? TO = some { cls := .type "tuple", data := .seq ys } →
      (∀ (j : Nat) (i : Addr) (x : Src), is[j]? = some i → srcs[j]? = some x → SIt h' i x (k + 1)) → h'.get? s.heap.objs.size = some { cls := .type "tuple", data := .seq ys } → h'.objs.size = s.heap.objs.size + 1 →
      (∀ c o, c ≠ z → c ≠ TO → c ∉ is → s.heap.get? c = some o → h'.get? c = some o) → Q (some (.ref s.heap.objs.size)) { s with heap := h' }) :
    wpAny (model prog w) A (pyNext (.ref z)) Q E s := by
  have hT : s.TypeIs (.ref z) "zip" := ⟨_, hz, rfl⟩
  unfold pyNext
  refine wpAny_bind (wpAny_attempt (wpAny_callSpecial?_slot (name := Str.ofString "__next__") hT F.slot_zip_next
    (wpAny_call_entry F.slot_zip_next hT F.entry_zip_next
      (next (A := A.in1) hh D hlen hne hsm hz hTI hTO hit hsq (fun _ h' ys a1 a2 a3 a4 a5 a6 a7 a8 => ⟨_, rfl, wpAny_pure (hQ h' ys a1 a2 a3 a4 a5 a6 a7 a8)⟩) (fun g => ?_)) (F.args_zip_next_1 _))))
  obtain ⟨j, jl, e⟩ := g
  exact absurd e (hall j jl)
theorem pyNext_end {z TI TO : Addr} {is : List Addr} {srcs : List Src} {k : Nat} {row : Nat → Array Value} {Q : Option Value → Shared → Prop} (hh : A.handled = none) (D : Apart z TI TO is srcs) (hlen : is.length = srcs.length) (hne : is ≠ []) (hsm : is.length ≤ 1000)
    (hz : IsZip s.heap z TI TO .none) (hTI : s.heap.get? TI = some { cls := .type "tuple", data := .seq (refs is) }) (hTO : ∃ ys : Array Value, ys.size = is.length ∧ s.heap.get? TO = some { cls := .type "tuple", data := .seq ys })
    (hit : ∀ (j : Nat) (i : Addr) (x : Src), is[j]? = some i → srcs[j]? = some x → SIt s.heap i x k) (hsq : ∀ (j : Nat) (x : Src), srcs[j]? = some x → SSq s.heap x (row j)) (hend : ∃ j, j < is.length ∧ (row j)[k]? = none)
    (hQ : ∀ h', (∀ c o, c ≠ z → c ≠ TO → c ∉ is → s.heap.get? c = some o → h'.get? c = some o) → Q none { s with heap := h' }) : wpAny (model prog w) A (pyNext (.ref z)) Q E s := by
  have hT : s.TypeIs (.ref z) "zip" := ⟨_, hz, rfl⟩
  unfold pyNext
  refine wpAny_bind (wpAny_attempt (wpAny_callSpecial?_slot (name := Str.ofString "__next__") hT F.slot_zip_next
    (wpAny_call_entry F.slot_zip_next hT F.entry_zip_next (next (A := A.in1) hh D hlen hne hsm hz hTI hTO hit hsq (fun g => ?_) (fun _ h' e hk he => ?_)) (F.args_zip_next_1 _))))
  · obtain ⟨j, jl, e⟩ := hend
    exact absurd e (g j jl)
  · obtain ⟨o, ho, hc⟩ := he
    refine wpAny_bind (wpAny_isInstance (T := "StopIteration") (b := true) ⟨o, ho, hc⟩ isSubtype_stop ?_)
    exact wpAny_pure (hQ _ hk)
end
def SqX (K : PySem.W.Frag) (H : Hp) (x : Src) (xs : List V) : Prop := match x.t with
  | true => SqT K H x.a xs
  | false => SqL K H x.a xs
theorem sq_get {X : Cx} {pins : List (Addr × Obj)} {σ : L2.St} {H : Hp} {s : Shared} (I : Inv X pins σ H s) {x : Src} {xs : List V} (q : SqX X.K H x xs) : ∃ its : List Value, Vals xs its ∧ SSq s.heap x its.toArray := by
  obtain ⟨a, t⟩ := x
  cases t
  · obtain ⟨its, rv, p, _⟩ := I.list q
    exact ⟨its, rv, p.isList⟩
  · obtain ⟨its, rv, p, _⟩ := I.tuple q
    exact ⟨its, rv, p⟩
theorem sq_inj {X : Cx} {pins : List (Addr × Obj)} {σ : L2.St} {H : Hp} {s : Shared} (I : Inv X pins σ H s) {x : Src} {xs ys : List V} (q : SqX X.K H x xs) (r : SqX X.K H x ys) : xs = ys := by
  obtain ⟨a, t⟩ := x
  cases t
  · exact I.list_inj q r
  · exact I.tuple_inj q r
/-- things as they stand at each turn, the items in a new tuple -/
def ItN (K : PySem.W.Frag) (srcs : List Src) : It :=
  ⟨fun i H => ∀ (j : Nat) (x : Src), srcs[j]? = some x → ∃ xs v, SqX K H x xs ∧ xs[i]? = some v,
    fun i H v H' => ∃ T vs, v = .ref T ∧ H T = none ∧ H' = upd H T (.tup vs) ∧ vs.length = srcs.length ∧ ∀ (j : Nat) (x : Src) (xs : List V), srcs[j]? = some x → SqX K H x xs → ∃ y, xs[i]? = some y ∧ vs[j]? = some y,
    fun i H => (∀ (j : Nat) (x : Src), srcs[j]? = some x → ∃ xs, SqX K H x xs) ∧ ∃ (j : Nat) (x : Src) (xs : List V), srcs[j]? = some x ∧ SqX K H x xs ∧ xs.length ≤ i⟩
theorem vals_of : ∀ {us : List Value} {P : Nat → V → Prop}, (∀ j u, us[j]? = some u → ∃ v, RelV v u ∧ P j v) → ∃ vs, Vals vs us ∧ ∀ j v, vs[j]? = some v → P j v
  | [], _, _ => ⟨[], .nil, fun j v h => by simp at h⟩
  | u :: r, P, h => by
    obtain ⟨v, r1, p1⟩ := h 0 u rfl
    obtain ⟨vs, r2, p2⟩ := vals_of (us := r) (P := fun j => P (j + 1)) fun j u e => h (j + 1) u e
    refine ⟨v :: vs, .cons r1 r2, fun j w e => ?_⟩
    cases j with
    | zero =>
      have := Option.some.inj e
      subst this
      exact p1
    | succ j => exact p2 j w e
theorem rows {X : Cx} {pins : List (Addr × Obj)} {σ : L2.St} {H : Hp} {s : Shared} (I : Inv X pins σ H s) {srcs : List Src} (h : ∀ (j : Nat) (x : Src), srcs[j]? = some x → ∃ xs, SqX X.K H x xs) :
    ∃ row : Nat → List Value, ∀ (j : Nat) (x : Src), srcs[j]? = some x → ∃ xs, SqX X.K H x xs ∧ Vals xs (row j) ∧ SSq s.heap x (row j).toArray := by
  refine Classical.axiomOfChoice (r := fun (j : Nat) (r : List Value) => ∀ x : Src, srcs[j]? = some x → ∃ xs, SqX X.K H x xs ∧ Vals xs r ∧ SSq s.heap x r.toArray) fun j => ?_
  cases e : srcs[j]? with
  | none => exact ⟨[], fun x h => nomatch h⟩
  | some x =>
    obtain ⟨xs, q⟩ := h j x e
    obtain ⟨its, rv, p⟩ := sq_get I q
    exact ⟨its, fun y hy => by cases hy; exact ⟨xs, q, rv, p⟩⟩
theorem turnN {P : Program} {w : World} {K : PySem.W.Frag} {elts : List Expr} {kk : Nat} {tpos : Pos} {z TI TO : Addr} {is : List Addr} {srcs : List Src} (D : Apart z TI TO is srcs) (hlen : is.length = srcs.length) (hne : is ≠ []) (hsm : is.length ≤ 1000) :
    Turn P w K (.Tuple elts kk tpos) (ItN K srcs) (z :: TI :: TO :: is) z (fun i h => IsZip h z TI TO .none ∧ h.get? TI = some { cls := .type "tuple", data := .seq (refs is) } ∧ (∃ ys : Array Value, ys.size = is.length ∧ h.get? TO = some { cls := .type "tuple", data := .seq ys }) ∧
      ∀ (j : Nat) (b : Addr) (x : Src), is[j]? = some b → srcs[j]? = some x → SIt h b x i) where
  mem := List.mem_cons_self ..
  obj := fun i h st c hc => by
    obtain ⟨hz, hTI, ⟨ys, _, hTO⟩, hi⟩ := st
    rcases List.mem_cons.mp hc with q | hc
    · rw [q]; exact ⟨_, hz, fun v q => nomatch q⟩
    rcases List.mem_cons.mp hc with q | hc
    · rw [q]; exact ⟨_, hTI, fun v q => nomatch q⟩
    rcases List.mem_cons.mp hc with q | hc
    · rw [q]; exact ⟨_, hTO, fun v q => nomatch q⟩
    obtain ⟨j, ej⟩ := List.mem_iff_getElem?.mp hc
    have jl := (List.getElem?_eq_some_iff.mp ej).1
    exact (hi j c _ ej (List.getElem?_eq_getElem (by omega))).obj
  keep := fun i h h' st k => by
    obtain ⟨hz, hTI, ⟨ys, y1, hTO⟩, hi⟩ := st
    exact ⟨k z (by simp) _ hz, k TI (by simp) _ hTI, ⟨ys, y1, k TO (by simp) _ hTO⟩, fun j b x e1 e2 => (hi j b x e1 e2).at fun o q => k b (by simp [List.mem_of_getElem? e1]) o q⟩
  item := by
    intro X hP hw hK hc i pins s σ H E I hf st hg
    subst hP hw hK
    obtain ⟨hz, hTI, hTO, hi⟩ := st
    obtain ⟨row, hrow⟩ := rows I (srcs := srcs) fun j x e => by obtain ⟨xs, v, q, _⟩ := hg j x e; exact ⟨xs, q⟩
    have hzl : z < s.heap.objs.size := Heap.lt_size hz
    have src : ∀ j, j < is.length → ∃ x, srcs[j]? = some x := fun j hj => ⟨srcs[j]'(by omega), List.getElem?_eq_getElem _⟩
    refine pyNext_item (row := fun j => (row j).toArray) (I.ok.hd hc) D hlen hne hsm hz hTI hTO hi (fun j x e => by obtain ⟨xs, _, _, p⟩ := hrow j x e; exact p) (fun j hj => ?_) fun h' ys z' y1 y2 TO' hi' hT hsz hk => ?_
    · obtain ⟨x, ex⟩ := src j hj
      obtain ⟨xs, q, rv, _⟩ := hrow j x ex
      obtain ⟨xs', v, q', hv⟩ := hg j x ex
      rw [sq_inj I q' q] at hv
      obtain ⟨u, hu, _⟩ := rv.get hv
      rw [List.getElem?_toArray, hu]
      exact fun q => nomatch q
    refine ⟨_, rfl, wpAny_letOwnedTupleGo_zip (s := { s with heap := h' }) z' fun h'' z'' sb => ?_⟩
    have hT2 : h''.get? s.heap.objs.size = some { cls := .type "tuple", data := .seq ys } := (sb.2 _ (Nat.ne_of_gt hzl)).trans hT
    obtain ⟨vs, rvs, pvs⟩ := vals_of (us := ys.toList) (P := fun j v => ∀ (x : Src) (xs : List V), srcs[j]? = some x → SqX X.K H x xs → xs[i]? = some v) fun j u e => by
      have jl : j < is.length := by
        have := (List.getElem?_eq_some_iff.mp e).1
        simp at this
        omega
      obtain ⟨x, ex⟩ := src j jl
      obtain ⟨xs, q, rv, _⟩ := hrow j x ex
      obtain ⟨xs', v, q', hv⟩ := hg j x ex
      rw [sq_inj I q' q] at hv
      obtain ⟨u', hu, ru⟩ := rv.get hv
      have e2 := y2 j jl
      rw [← Array.getElem?_toList, e] at e2
      have e3 : u = u' := by
        have : (row j).toArray[i]? = some u' := by rw [List.getElem?_toArray]; exact hu
        rw [this] at e2
        exact Option.some.inj e2
      subst e3
      refine ⟨v, ru, fun x' ys' ex' q'' => ?_⟩
      rw [ex] at ex'
      cases ex'
      rw [sq_inj I q'' q]
      exact hv
    have lvs : vs.length = srcs.length := by
      have := rvs.length
      simp at this
      omega
    have new : ObjOk X.prog X.w (upd H s.heap.objs.size (.tup vs)) h'' s.heap.objs.size (.tup vs) :=
      ⟨by rw [lvs, ← hlen]; exact Nat.le_trans hsm (by decide), ys.toList, rvs, ⟨_, hT2, rfl, 0, by simp⟩⟩
    have I1 : Inv X pins σ (upd H s.heap.objs.size (.tup vs)) { s with heap := h'' } :=
      I.turnedNew (t' := s.toks) (ch := z :: TI :: TO :: is) (fun c o hb q => (sb.2 c (fun q' => hb (by simp [q']))).trans (hk c o (fun q' => hb (by simp [q'])) (fun q' => hb (by simp [q'])) (fun q' => hb (by simp [q'])) q)) hf (Nat.le_refl _) new
    refine ⟨.ref s.heap.objs.size, _, I1, rfl, ⟨_, vs, rfl, I.hok.fresh (Nat.le_refl _), rfl, lvs, fun j x xs ex q => ?_⟩, ⟨z'', ?_, ⟨ys, y1, ?_⟩, fun j b x e1 e2 => ?_⟩, fun c hcm => ?_⟩
    · have jl : j < vs.length := by rw [lvs]; exact (List.getElem?_eq_some_iff.mp ex).1
      exact ⟨vs[j], pvs j _ (List.getElem?_eq_getElem jl) x xs ex q, List.getElem?_eq_getElem jl⟩
    · exact (sb.2 _ D.TIz).trans (hk _ _ D.TIz D.TITO D.TIi hTI)
    · exact (sb.2 _ D.TOz).trans TO'
    · exact (hi' j b x e1 e2).at fun o q => (sb.2 _ (fun q' => D.zi (q' ▸ List.mem_of_getElem? e1))).trans q
    · have hlt : c < s.heap.objs.size := by
        rcases List.mem_cons.mp hcm with q | hcm
        · rw [q]; exact hzl
        rcases List.mem_cons.mp hcm with q | hcm
        · rw [q]; exact Heap.lt_size hTI
        rcases List.mem_cons.mp hcm with q | hcm
        · obtain ⟨_, _, e⟩ := hTO; rw [q]; exact Heap.lt_size e
        obtain ⟨j, ej⟩ := List.mem_iff_getElem?.mp hcm
        have jl := (List.getElem?_eq_some_iff.mp ej).1
        obtain ⟨o, e, _⟩ := (hi j c _ ej (List.getElem?_eq_getElem (by omega))).obj
        exact Heap.lt_size e
      rw [upd_ne (Nat.ne_of_lt hlt)]
      exact (hf c hcm).1
  done := by
    intro X hP hw hK hc i pins s σ H E I hf st hg
    subst hP hw hK
    obtain ⟨hz, hTI, hTO, hi⟩ := st
    obtain ⟨hall, j, x, xs, ex, q, hl⟩ := hg
    obtain ⟨row, hrow⟩ := rows I (srcs := srcs) hall
    refine pyNext_end (row := fun j => (row j).toArray) (I.ok.hd hc) D hlen hne hsm hz hTI hTO hi (fun j x e => by obtain ⟨xs, _, _, p⟩ := hrow j x e; exact p) ⟨j, by rw [hlen]; exact (List.getElem?_eq_some_iff.mp ex).1, ?_⟩ fun h' hk => ⟨rfl, I.turnedL (t' := s.toks) (ch := z :: TI :: TO :: is) (fun c o hb q =>
      hk c o (fun q' => hb (by simp [q'])) (fun q' => hb (by simp [q'])) (fun q' => hb (by simp [q'])) q) hf⟩
    obtain ⟨xs', q', rv, _⟩ := hrow j x ex
    rw [sq_inj I q q'] at hl
    have := rv.length
    rw [List.getElem?_toArray]
    exact List.getElem?_eq_none (by omega)
  self := fun A i s Q E st h => wpAny_pyIter_zip st.1 h
abbrev itObj (x : Src) : Obj := { cls := .type (if x.t then "tuple_iterator" else "list_iterator"), data := .fields #[.ref x.a, .int 0 0] }
theorem itObj_at {h : Heap} {i : Addr} {x : Src} (e : h.get? i = some (itObj x)) : SIt h i x 0 := by
  obtain ⟨a, t⟩ := x
  cases t
  · exact ⟨_, e, rfl, rfl⟩
  · exact ⟨_, e, rfl, rfl⟩
theorem SSq.push {h : Heap} {x : Src} {r : Array Value} (g : SSq h x r) (o : Obj) : SSq (h.push o) x r := g.at fun _ e => Heap.get?_push_of_some _ e
theorem SSq.lt {h : Heap} {x : Src} {r : Array Value} (g : SSq h x r) : x.a < h.objs.size := by
  obtain ⟨a, t⟩ := x
  cases t
  · obtain ⟨_, e, _⟩ := g
    exact Heap.lt_size e
  · obtain ⟨_, e, _⟩ := g
    exact Heap.lt_size e
abbrev tupO (vs : Array Value) : Obj := { cls := .type "tuple", data := .seq vs }
abbrev zipO (TI TO : Addr) : Obj := { cls := .type "zip", data := .fields #[.none, .bool false, .bool false, .ref TI, .ref TO] }
abbrev h3a (h : Heap) (x y z : Src) : Heap := ((h.push (itObj x)).push (itObj y)).push (itObj z)
abbrev h3b (h : Heap) (x y z : Src) : Heap := (h3a h x y z).push (tupO #[.ref h.objs.size, .ref (h.push (itObj x)).objs.size, .ref ((h.push (itObj x)).push (itObj y)).objs.size])
abbrev h3c (h : Heap) (x y z : Src) : Heap := (h3b h x y z).push (tupO #[.none, .none, .none])
abbrev h3d (h : Heap) (x y z : Src) : Heap := (h3c h x y z).push (zipO (h3a h x y z).objs.size (h3b h x y z).objs.size)
set_option maxHeartbeats 4000000 in
theorem meets_new3 (x y z : Src) (r1 r2 r3 : Array Value) :
    Meets (Builtin.«zip.__new__» ⟨[.type "zip", .ref x.a, .ref y.a, .ref z.a], []⟩) (fun _ R s => SSq s.heap x r1 ∧ SSq s.heap y r2 ∧ SSq s.heap z r3 ∧
      R (.ok (.ret (.ref (h3c s.heap x y z).objs.size))) { s with heap := h3d s.heap x y z }) :=
  .of_wp fun prog w A R s h => by
    obtain ⟨hp, g, d, tk, os⟩ := s; obtain ⟨hl1, hl2, hl3, h⟩ := h
    have hsub := sub_zip
    have hL1 : SSq (Shared.heap ⟨hp, g, d, tk, os⟩) x r1 := hl1
    have hL2 : SSq (Shared.heap ⟨hp.push (itObj x), g, d, tk, os⟩) y r2 := hl2.push _
    have hL3 : SSq (Shared.heap ⟨(hp.push (itObj x)).push (itObj y), g, d, tk, os⟩) z r3 := (hl3.push _).push _
    wp_walk using pyIter_src hL1, pyIter_src hL2, pyIter_src hL3
    exact ⟨_, rfl, h⟩
theorem typeCall_zip_3 (a b c : Value) : checkTypeCall "zip" ⟨[a, b, c], []⟩ = pure () := by kernel_rfl
theorem newCall_zip_3 (a b c : Value) : checkBuiltinCall "zip.__new__" ⟨[.type "zip", a, b, c], []⟩ = pure () := by kernel_rfl
theorem args_object_init_4 (a b c d : Value) : argsOk "object.__init__" ⟨[a, b, c, d], []⟩ := by
  unfold argsOk; rw [signature?_of (id := "object.__init__") (n := ['_', '_', 't', 'i', 'n', 'i', '_', '_']) (o := ['t', 'c', 'e', 'j', 'b', 'o']) (by kernel_rfl) F.owner_object]; kernel_rfl
theorem apart3 (n : Nat) {x y z : Src} (h1 : x.a < n) (h2 : y.a < n) (h3 : z.a < n) : Apart (n + 5) (n + 3) (n + 4) [n, n + 1, n + 2] [x, y, z] where
  TIz := by show (n + 3 : Nat) ≠ n + 5; omega
  TOz := by show (n + 4 : Nat) ≠ n + 5; omega
  TITO := by show (n + 3 : Nat) ≠ n + 4; omega
  zi := by simp
  TIi := by simp
  TOi := by simp
  nd := by simp
  sz := by
    intro s hs
    simp at hs
    rcases hs with rfl | rfl | rfl
    · exact Nat.ne_of_lt (Nat.lt_of_lt_of_le h1 (Nat.le_add_right _ _))
    · exact Nat.ne_of_lt (Nat.lt_of_lt_of_le h2 (Nat.le_add_right _ _))
    · exact Nat.ne_of_lt (Nat.lt_of_lt_of_le h3 (Nat.le_add_right _ _))
  sTO := by
    intro s hs
    simp at hs
    rcases hs with rfl | rfl | rfl
    · exact Nat.ne_of_lt (Nat.lt_of_lt_of_le h1 (Nat.le_add_right _ _))
    · exact Nat.ne_of_lt (Nat.lt_of_lt_of_le h2 (Nat.le_add_right _ _))
    · exact Nat.ne_of_lt (Nat.lt_of_lt_of_le h3 (Nat.le_add_right _ _))
  si := by
    have no : ∀ {a : Addr}, a < n → a ∉ ([n, n + 1, n + 2] : List Addr) := fun {a} h q => by
      rcases List.mem_cons.mp q with q | q
      · exact Nat.ne_of_lt h q
      rcases List.mem_cons.mp q with q | q
      · exact Nat.ne_of_lt (Nat.lt_of_lt_of_le h (Nat.le_add_right _ _)) q
      · exact Nat.ne_of_lt (Nat.lt_of_lt_of_le h (Nat.le_add_right _ _)) (List.mem_singleton.mp q)
    intro s hs
    simp at hs
    rcases hs with rfl | rfl | rfl
    · exact no h1
    · exact no h2
    · exact no h3
theorem call3 {prog : Program} {w : World} {A : Around} {E : Value → Shared → Prop} {s : Shared} {x y z : Src} {r1 r2 r3 : Array Value} {Q : Value → Shared → Prop} (hl1 : SSq s.heap x r1) (hl2 : SSq s.heap y r2) (hl3 : SSq s.heap z r3)
    (h : ∀ h', IsZip h' (s.heap.objs.size + 5) (s.heap.objs.size + 3) (s.heap.objs.size + 4) .none → h'.get? (s.heap.objs.size + 3) = some (tupO (refs [s.heap.objs.size, s.heap.objs.size + 1, s.heap.objs.size + 2])) → h'.get? (s.heap.objs.size + 4) = some (tupO #[.none, .none, .none]) →
      SIt h' s.heap.objs.size x 0 → SIt h' (s.heap.objs.size + 1) y 0 → SIt h' (s.heap.objs.size + 2) z 0 → (∀ c o, s.heap.get? c = some o → h'.get? c = some o) → Q (.ref (s.heap.objs.size + 5)) { s with heap := h' }) :
    wpAny (model prog w) A (call (.type "zip") [.ref x.a, .ref y.a, .ref z.a]) Q E s := by
  refine callType_new F.called_zip (by decide) (typeCall_zip_3 _ _ _) (newCall_zip_3 _ _ _) (fun obj => args_object_init_4 obj _ _ _) F.entry_zip_new (meets_new3 x y z r1 r2 r3) ⟨hl1, hl2, hl3, ?_⟩
  have z1 : (s.heap.push (itObj x)).objs.size = s.heap.objs.size + 1 := Heap.size_push ..
  have z2 : ((s.heap.push (itObj x)).push (itObj y)).objs.size = s.heap.objs.size + 2 := by rw [Heap.size_push, z1]
  have z3 : (h3a s.heap x y z).objs.size = s.heap.objs.size + 3 := by rw [Heap.size_push, z2]
  have z4 : (h3b s.heap x y z).objs.size = s.heap.objs.size + 4 := by rw [Heap.size_push, z3]
  have z5 : (h3c s.heap x y z).objs.size = s.heap.objs.size + 5 := by rw [Heap.size_push, z4]
  have g6 : (h3d s.heap x y z).get? (h3c s.heap x y z).objs.size = some _ := Heap.get?_push_size _ rfl
  have g5 : (h3d s.heap x y z).get? (h3b s.heap x y z).objs.size = some _ := Heap.get?_push_of_some _ (Heap.get?_push_size _ rfl)
  have g4 : (h3d s.heap x y z).get? (h3a s.heap x y z).objs.size = some _ := Heap.get?_push_of_some _ (Heap.get?_push_of_some _ (Heap.get?_push_size _ rfl))
  have g3 : (h3d s.heap x y z).get? ((s.heap.push (itObj x)).push (itObj y)).objs.size = some (itObj z) := Heap.get?_push_of_some _ (Heap.get?_push_of_some _ (Heap.get?_push_of_some _ (Heap.get?_push_size _ rfl)))
  have g2 : (h3d s.heap x y z).get? (s.heap.push (itObj x)).objs.size = some (itObj y) := Heap.get?_push_of_some _ (Heap.get?_push_of_some _ (Heap.get?_push_of_some _ (Heap.get?_push_of_some _ (Heap.get?_push_size _ rfl))))
  have g1 : (h3d s.heap x y z).get? s.heap.objs.size = some (itObj x) := Heap.get?_push_of_some _ (Heap.get?_push_of_some _ (Heap.get?_push_of_some _ (Heap.get?_push_of_some _ (Heap.get?_push_of_some _ (Heap.get?_push_size _ rfl)))))
  show _ ∧ _
  rw [z3, z4, z5] at g6
  rw [z1, z2, z3] at g4
  rw [z4] at g5
  rw [z2] at g3
  rw [z1] at g2
  rw [z5]
  exact ⟨⟨_, g6, rfl⟩, h _ g6 g4 g5 (itObj_at g1) (itObj_at g2) (itObj_at g3) fun c o x =>
    Heap.get?_push_of_some _ (Heap.get?_push_of_some _ (Heap.get?_push_of_some _ (Heap.get?_push_of_some _ (Heap.get?_push_of_some _ (Heap.get?_push_of_some _ x)))))⟩
def iZip3 (K : PySem.W.Frag) (ta : TA) : TI := fun σ H R => ta σ H fun vs H1 => ∃ (x y z : Src) (xs ys zs : List V), vs = [.ref x.a, .ref y.a, .ref z.a] ∧ SqX K H1 x xs ∧ SqX K H1 y ys ∧ SqX K H1 z zs ∧ R (ItN K [x, y, z]) H1
theorem pi_zip3 {X : Cx} {e e2 e3 : Expr} {ta : TA} {p pos tpos : Pos} {elts : List Expr} {kk : Nat} (hg : Gl X "zip") (hm : X.mg "zip" = none) (ha : PA X [e, e2, e3] ta)
    (hs : starEach [e, e2, e3] X.env = (false, eval e X.env) :: starEach [e2, e3] X.env := by rfl) (hpl : (backTo pos (starEach [e2, e3] X.env)).any (·.1) = false := by rfl) :
    PI X (.Tuple elts kk tpos) (.Call (.Name "zip" p) [e, e2, e3] [] pos) (iZip3 X.K ta) := by
  refine ⟨fun pins s σ H R I h => ?_⟩
  refine Call_ (ld_blt I hg hm PyProof.Rows.boot_zip (PyProof.Rows.callWith_type1 (thn (ha.run pos pins s σ H _ I h) fun us s1 ⟨vs, H1, I1, r1, q1⟩ => ?_) hs hpl))
  obtain ⟨x, y, z, xs, ys, zs, ex, qx, qy, qz, q⟩ := q1
  subst ex
  cases r1 with
  | cons r rr =>
    cases rr with
    | cons r' rr =>
      cases rr with
      | cons r'' rr =>
        cases rr
        cases r
        cases r'
        cases r''
        obtain ⟨its, _, p1⟩ := sq_get I1 qx
        obtain ⟨its2, _, p2⟩ := sq_get I1 qy
        obtain ⟨its3, _, p3⟩ := sq_get I1 qz
        refine call3 p1 p2 p3 fun h' hz hTI hTO i1 i2 i3 hk => wpAny_pyIter_zip hz ?_
        have I2 : Inv X pins σ H1 { s1 with heap := h' } := I1.kept (t' := s1.toks) hk
        refine ⟨s1.heap.objs.size + 5, [s1.heap.objs.size + 5, s1.heap.objs.size + 3, s1.heap.objs.size + 4, s1.heap.objs.size, s1.heap.objs.size + 1, s1.heap.objs.size + 2], _, _, H1, rfl, I2,
          turnN (apart3 s1.heap.objs.size p1.lt p2.lt p3.lt) rfl (fun q => nomatch q) (by show 3 ≤ 1000; decide), ⟨hz, hTI, ⟨_, rfl, hTO⟩, fun j b u e1 e2 => ?_⟩, fun c hcm => ?_, q⟩
        · match j, e1, e2 with
          | 0, e1, e2 => cases e1; cases e2; exact i1
          | 1, e1, e2 => cases e1; cases e2; exact i2
          | 2, e1, e2 => cases e1; cases e2; exact i3
          | n + 3, e1, _ => cases e1
        · have hle : s1.heap.objs.size ≤ c := by
            simp only [List.mem_cons, List.not_mem_nil, or_false] at hcm
            rcases hcm with z | z | z | z | z | z <;> rw [z] <;> first | exact Nat.le_refl _ | exact Nat.le_add_right _ _
          exact I1.fpOk hle (I1.hok.fresh hle)
def Y3 (xs ys zs : List V) : Nat → Hp → V → Hp → Prop := fun i H v H' => ∃ T x y z, v = .ref T ∧ H T = none ∧ H' = upd H T (.tup [x, y, z]) ∧ xs[i]? = some x ∧ ys[i]? = some y ∧ zs[i]? = some z
theorem walk3 {K : PySem.W.Frag} {x y z : Src} {xs ys zs : List V} (h1 : ys.length = xs.length) (h2 : zs.length = xs.length) : Walk (ItN K [x, y, z]) xs.length (fun H => SqX K H x xs ∧ SqX K H y ys ∧ SqX K H z zs) (Y3 xs ys zs) where
  goes := fun i H hi g j u e => by
    match j, e with
    | 0, e => cases e; exact ⟨xs, _, g.1, List.getElem?_eq_getElem hi⟩
    | 1, e => cases e; exact ⟨ys, _, g.2.1, List.getElem?_eq_getElem (by omega)⟩
    | 2, e => cases e; exact ⟨zs, _, g.2.2, List.getElem?_eq_getElem (by omega)⟩
    | n + 3, e => cases e
  stops := fun H g => by
    refine ⟨fun j u e => ?_, 0, x, xs, rfl, g.1, Nat.le_refl _⟩
    match j, e with
    | 0, e => cases e; exact ⟨xs, g.1⟩
    | 1, e => cases e; exact ⟨ys, g.2.1⟩
    | 2, e => cases e; exact ⟨zs, g.2.2⟩
    | n + 3, e => cases e
  yields := fun i H v H' hi g q => by
    obtain ⟨T, vs, rfl, nT, rfl, lv, hv⟩ := q
    obtain ⟨a, a1, a2⟩ := hv 0 x xs rfl g.1
    obtain ⟨b, b1, b2⟩ := hv 1 y ys rfl g.2.1
    obtain ⟨c, c1, c2⟩ := hv 2 z zs rfl g.2.2
    refine ⟨T, a, b, c, rfl, nT, ?_, a1, b1, c1⟩
    match vs, lv with
    | [u, v, w], _ =>
      cases a2
      cases b2
      cases c2
      rfl
abbrev h2a (h : Heap) (x y : Src) : Heap := (h.push (itObj x)).push (itObj y)
abbrev h2b (h : Heap) (x y : Src) : Heap := (h2a h x y).push (tupO #[.ref h.objs.size, .ref (h.push (itObj x)).objs.size])
abbrev h2c (h : Heap) (x y : Src) : Heap := (h2b h x y).push (tupO #[.none, .none])
abbrev h2d (h : Heap) (x y : Src) : Heap := (h2c h x y).push (zipO (h2a h x y).objs.size (h2b h x y).objs.size)
set_option maxHeartbeats 4000000 in
theorem meets_new2 (x y : Src) (r1 r2 : Array Value) :
    Meets (Builtin.«zip.__new__» ⟨[.type "zip", .ref x.a, .ref y.a], []⟩) (fun _ R s => SSq s.heap x r1 ∧ SSq s.heap y r2 ∧
      R (.ok (.ret (.ref (h2c s.heap x y).objs.size))) { s with heap := h2d s.heap x y }) :=
  .of_wp fun prog w A R s h => by
    obtain ⟨hp, g, d, tk, os⟩ := s; obtain ⟨hl1, hl2, h⟩ := h
    have hsub := sub_zip
    have hL1 : SSq (Shared.heap ⟨hp, g, d, tk, os⟩) x r1 := hl1
    have hL2 : SSq (Shared.heap ⟨hp.push (itObj x), g, d, tk, os⟩) y r2 := hl2.push _
    wp_walk using pyIter_src hL1, pyIter_src hL2
    exact ⟨_, rfl, h⟩
theorem apart2 (n : Nat) {x y : Src} (h1 : x.a < n) (h2 : y.a < n) : Apart (n + 4) (n + 2) (n + 3) [n, n + 1] [x, y] where
  TIz := by show (n + 2 : Nat) ≠ n + 4; omega
  TOz := by show (n + 3 : Nat) ≠ n + 4; omega
  TITO := by show (n + 2 : Nat) ≠ n + 3; omega
  zi := by simp
  TIi := by simp
  TOi := by simp
  nd := by simp
  sz := by
    intro s hs
    simp at hs
    rcases hs with rfl | rfl
    · exact Nat.ne_of_lt (Nat.lt_of_lt_of_le h1 (Nat.le_add_right _ _))
    · exact Nat.ne_of_lt (Nat.lt_of_lt_of_le h2 (Nat.le_add_right _ _))
  sTO := by
    intro s hs
    simp at hs
    rcases hs with rfl | rfl
    · exact Nat.ne_of_lt (Nat.lt_of_lt_of_le h1 (Nat.le_add_right _ _))
    · exact Nat.ne_of_lt (Nat.lt_of_lt_of_le h2 (Nat.le_add_right _ _))
  si := by
    have no : ∀ {a : Addr}, a < n → a ∉ ([n, n + 1] : List Addr) := fun {a} h q => by
      rcases List.mem_cons.mp q with q | q
      · exact Nat.ne_of_lt h q
      · exact Nat.ne_of_lt (Nat.lt_of_lt_of_le h (Nat.le_add_right _ _)) (List.mem_singleton.mp q)
    intro s hs
    simp at hs
    rcases hs with rfl | rfl
    · exact no h1
    · exact no h2
theorem call2 {prog : Program} {w : World} {A : Around} {E : Value → Shared → Prop} {s : Shared} {x y : Src} {r1 r2 : Array Value} {Q : Value → Shared → Prop} (hl1 : SSq s.heap x r1) (hl2 : SSq s.heap y r2)
    (h : ∀ h', IsZip h' (s.heap.objs.size + 4) (s.heap.objs.size + 2) (s.heap.objs.size + 3) .none → h'.get? (s.heap.objs.size + 2) = some (tupO (refs [s.heap.objs.size, s.heap.objs.size + 1])) → h'.get? (s.heap.objs.size + 3) = some (tupO #[.none, .none]) →
      SIt h' s.heap.objs.size x 0 → SIt h' (s.heap.objs.size + 1) y 0 → (∀ c o, s.heap.get? c = some o → h'.get? c = some o) → Q (.ref (s.heap.objs.size + 4)) { s with heap := h' }) :
    wpAny (model prog w) A (call (.type "zip") [.ref x.a, .ref y.a]) Q E s := by
  refine callType_new F.called_zip (by decide) (F.typeCall_zip_2 _ _) (F.newCall_zip_2 _ _) (fun obj => F.args_object_init_3 obj _ _) F.entry_zip_new (meets_new2 x y r1 r2) ⟨hl1, hl2, ?_⟩
  have z1 : (s.heap.push (itObj x)).objs.size = s.heap.objs.size + 1 := Heap.size_push ..
  have z3 : (h2a s.heap x y).objs.size = s.heap.objs.size + 2 := by rw [Heap.size_push, z1]
  have z4 : (h2b s.heap x y).objs.size = s.heap.objs.size + 3 := by rw [Heap.size_push, z3]
  have z5 : (h2c s.heap x y).objs.size = s.heap.objs.size + 4 := by rw [Heap.size_push, z4]
  have g6 : (h2d s.heap x y).get? (h2c s.heap x y).objs.size = some _ := Heap.get?_push_size _ rfl
  have g5 : (h2d s.heap x y).get? (h2b s.heap x y).objs.size = some _ := Heap.get?_push_of_some _ (Heap.get?_push_size _ rfl)
  have g4 : (h2d s.heap x y).get? (h2a s.heap x y).objs.size = some _ := Heap.get?_push_of_some _ (Heap.get?_push_of_some _ (Heap.get?_push_size _ rfl))
  have g2 : (h2d s.heap x y).get? (s.heap.push (itObj x)).objs.size = some (itObj y) := Heap.get?_push_of_some _ (Heap.get?_push_of_some _ (Heap.get?_push_of_some _ (Heap.get?_push_size _ rfl)))
  have g1 : (h2d s.heap x y).get? s.heap.objs.size = some (itObj x) := Heap.get?_push_of_some _ (Heap.get?_push_of_some _ (Heap.get?_push_of_some _ (Heap.get?_push_of_some _ (Heap.get?_push_size _ rfl))))
  show _ ∧ _
  rw [z3, z4, z5] at g6
  rw [z1, z3] at g4
  rw [z4] at g5
  rw [z1] at g2
  rw [z5]
  exact ⟨⟨_, g6, rfl⟩, h _ g6 g4 g5 (itObj_at g1) (itObj_at g2) fun c o x =>
    Heap.get?_push_of_some _ (Heap.get?_push_of_some _ (Heap.get?_push_of_some _ (Heap.get?_push_of_some _ (Heap.get?_push_of_some _ x))))⟩
def iZip2 (K : PySem.W.Frag) (ta : TA) : TI := fun σ H R => ta σ H fun vs H1 => ∃ (x y : Src) (xs ys : List V), vs = [.ref x.a, .ref y.a] ∧ SqX K H1 x xs ∧ SqX K H1 y ys ∧ R (ItN K [x, y]) H1
theorem pi_zip2 {X : Cx} {e e2 : Expr} {ta : TA} {p pos tpos : Pos} {elts : List Expr} {kk : Nat} (hg : Gl X "zip") (hm : X.mg "zip" = none) (ha : PA X [e, e2] ta)
    (hs : starEach [e, e2] X.env = (false, eval e X.env) :: starEach [e2] X.env := by rfl) (hpl : (backTo pos (starEach [e2] X.env)).any (·.1) = false := by rfl) :
    PI X (.Tuple elts kk tpos) (.Call (.Name "zip" p) [e, e2] [] pos) (iZip2 X.K ta) := by
  refine ⟨fun pins s σ H R I h => ?_⟩
  refine Call_ (ld_blt I hg hm PyProof.Rows.boot_zip (PyProof.Rows.callWith_type1 (thn (ha.run pos pins s σ H _ I h) fun us s1 ⟨vs, H1, I1, r1, q1⟩ => ?_) hs hpl))
  obtain ⟨x, y, xs, ys, ex, qx, qy, q⟩ := q1
  subst ex
  cases r1 with
  | cons r rr =>
    cases rr with
    | cons r' rr =>
      cases rr
      cases r
      cases r'
      obtain ⟨its, _, p1⟩ := sq_get I1 qx
      obtain ⟨its2, _, p2⟩ := sq_get I1 qy
      refine call2 p1 p2 fun h' hz hTI hTO i1 i2 hk => wpAny_pyIter_zip hz ?_
      have I2 : Inv X pins σ H1 { s1 with heap := h' } := I1.kept (t' := s1.toks) hk
      refine ⟨s1.heap.objs.size + 4, [s1.heap.objs.size + 4, s1.heap.objs.size + 2, s1.heap.objs.size + 3, s1.heap.objs.size, s1.heap.objs.size + 1], _, _, H1, rfl, I2,
        turnN (apart2 s1.heap.objs.size p1.lt p2.lt) rfl (fun q => nomatch q) (by show 2 ≤ 1000; decide), ⟨hz, hTI, ⟨_, rfl, hTO⟩, fun j b u e1 e2 => ?_⟩, fun c hcm => ?_, q⟩
      · match j, e1, e2 with
        | 0, e1, e2 => cases e1; cases e2; exact i1
        | 1, e1, e2 => cases e1; cases e2; exact i2
        | n + 2, e1, _ => cases e1
      · have hle : s1.heap.objs.size ≤ c := by
          simp only [List.mem_cons, List.not_mem_nil, or_false] at hcm
          rcases hcm with z | z | z | z | z <;> rw [z] <;> first | exact Nat.le_refl _ | exact Nat.le_add_right _ _
        exact I1.fpOk hle (I1.hok.fresh hle)
theorem walk2 {K : PySem.W.Frag} {x y : Src} {xs ys : List V} (h1 : ys.length = xs.length) : Walk (ItN K [x, y]) xs.length (fun H => SqX K H x xs ∧ SqX K H y ys) (YPair (fun i => xs[i]?) (fun i => ys[i]?)) where
  goes := fun i H hi g j u e => by
    match j, e with
    | 0, e => cases e; exact ⟨xs, _, g.1, List.getElem?_eq_getElem hi⟩
    | 1, e => cases e; exact ⟨ys, _, g.2, List.getElem?_eq_getElem (by omega)⟩
    | n + 2, e => cases e
  stops := fun H g => by
    refine ⟨fun j u e => ?_, 0, x, xs, rfl, g.1, Nat.le_refl _⟩
    match j, e with
    | 0, e => cases e; exact ⟨xs, g.1⟩
    | 1, e => cases e; exact ⟨ys, g.2⟩
    | n + 2, e => cases e
  yields := fun i H v H' hi g q => by
    obtain ⟨T, vs, rfl, nT, rfl, lv, hv⟩ := q
    obtain ⟨a, a1, a2⟩ := hv 0 x xs rfl g.1
    obtain ⟨b, b1, b2⟩ := hv 1 y ys rfl g.2
    refine ⟨T, a, b, rfl, nT, ?_, a1, b1⟩
    match vs, lv with
    | [u, v], _ =>
      cases a2
      cases b2
      rfl
end ZN

namespace TP
open PySem PySem.Spec PyProof.Rows L2 ZN
/-! ### zip of two or three, lists and tuples -/
theorem walk2m {K : PySem.W.Frag} {x y : Src} {xs ys : List V} : Walk (ItN K [x, y]) (min xs.length ys.length) (fun H => SqX K H x xs ∧ SqX K H y ys) (YPair (fun i => xs[i]?) (fun i => ys[i]?)) where
  goes := fun i H hi g j u e => by
    match j, e with
    | 0, e => cases e; exact ⟨xs, _, g.1, List.getElem?_eq_getElem (by omega)⟩
    | 1, e => cases e; exact ⟨ys, _, g.2, List.getElem?_eq_getElem (by omega)⟩
    | n + 2, e => cases e
  stops := fun H g => by
    refine ⟨fun j u e => ?_, ?_⟩
    · match j, e with
      | 0, e => cases e; exact ⟨xs, g.1⟩
      | 1, e => cases e; exact ⟨ys, g.2⟩
      | n + 2, e => cases e
    · by_cases q : xs.length ≤ ys.length
      · exact ⟨0, x, xs, rfl, g.1, by omega⟩
      · exact ⟨1, y, ys, rfl, g.2, by omega⟩
  yields := fun i H v H' hi g q => by
    obtain ⟨T, vs, rfl, nT, rfl, lv, hv⟩ := q
    obtain ⟨a, a1, a2⟩ := hv 0 x xs rfl g.1
    obtain ⟨b, b1, b2⟩ := hv 1 y ys rfl g.2
    refine ⟨T, a, b, rfl, nT, ?_, a1, b1⟩
    match vs, lv with
    | [u, v], _ =>
      cases a2
      cases b2
      rfl
theorem walk3m {K : PySem.W.Frag} {x y z : Src} {xs ys zs : List V} : Walk (ItN K [x, y, z]) (min xs.length (min ys.length zs.length)) (fun H => SqX K H x xs ∧ SqX K H y ys ∧ SqX K H z zs) (Y3 xs ys zs) where
  goes := fun i H hi g j u e => by
    match j, e with
    | 0, e => cases e; exact ⟨xs, _, g.1, List.getElem?_eq_getElem (by omega)⟩
    | 1, e => cases e; exact ⟨ys, _, g.2.1, List.getElem?_eq_getElem (by omega)⟩
    | 2, e => cases e; exact ⟨zs, _, g.2.2, List.getElem?_eq_getElem (by omega)⟩
    | n + 3, e => cases e
  stops := fun H g => by
    refine ⟨fun j u e => ?_, ?_⟩
    · match j, e with
      | 0, e => cases e; exact ⟨xs, g.1⟩
      | 1, e => cases e; exact ⟨ys, g.2.1⟩
      | 2, e => cases e; exact ⟨zs, g.2.2⟩
      | n + 3, e => cases e
    · by_cases q : xs.length ≤ min ys.length zs.length
      · exact ⟨0, x, xs, rfl, g.1, by omega⟩
      · by_cases q2 : ys.length ≤ zs.length
        · exact ⟨1, y, ys, rfl, g.2.1, by omega⟩
        · exact ⟨2, z, zs, rfl, g.2.2, by omega⟩
  yields := fun i H v H' hi g q => by
    obtain ⟨T, vs, rfl, nT, rfl, lv, hv⟩ := q
    obtain ⟨a, a1, a2⟩ := hv 0 x xs rfl g.1
    obtain ⟨b, b1, b2⟩ := hv 1 y ys rfl g.2.1
    obtain ⟨c, c1, c2⟩ := hv 2 z zs rfl g.2.2
    refine ⟨T, a, b, c, rfl, nT, ?_, a1, b1, c1⟩
    match vs, lv with
    | [u, v, w], _ =>
      cases a2
      cases b2
      cases c2
      rfl
/-- what is walked by zip -/
def SrcOf (K : PySem.W.Frag) {α : Type} (τs : Ty (List α)) (τ : Ty α) : Prop := ∀ Z v xs, τs.r Z v xs → ∃ (x : Src) (vs : List V), v = .ref x.a ∧ (∀ H, Same Z H → SqX K H x vs) ∧ All (τ.r Z) vs xs ∧ xs.length ≤ sizeLine
section
variable {K : PySem.W.Frag} {α β γ : Type} {τ : Ty α} {υ : Ty β} {φ : Ty γ}
theorem src_list : SrcOf K (yList τ) τ := fun Z v xs ⟨a, vs, e, h, t, l⟩ => ⟨⟨a, false⟩, vs, e, fun H s => SqL.of (s _ _ h), t, l⟩
theorem src_tup : SrcOf K (yTup K τ) τ := fun Z v xs ⟨a, vs, e, h, t, l⟩ => ⟨⟨a, true⟩, vs, e, fun H s => seqT_same s h, t, l⟩
theorem src_seq : SrcOf K (ySeq K τ) τ := fun Z v xs ⟨a, vs, e, h, t, l⟩ => by
  rcases h with h | h
  · exact ⟨⟨a, false⟩, vs, e, fun H s => SqL.of (s _ _ h), t, l⟩
  · exact ⟨⟨a, true⟩, vs, e, fun H s => seqT_same s h, t, l⟩
section
variable {μ : Type} {M : Mu μ} {σ : L2.St} {Z H : Hp} {s s1 s2 s3 : μ} {t : TA} {τs : Ty (List α)} {υs : Ty (List β)} {φs : Ty (List γ)} {xs : List α} {ys : List β} {zs : List γ} {X : Hp → Hp → Prop}
theorem ei_zip2 (f : SrcOf K τs τ) (g : SrcOf K υs υ) (ha : EvA M t σ Z H s (rac (ty τs xs) (rac (ty υs ys) ra0)) s1) : EvI M X (iZip2 K t) σ Z H s (yP2 K τ υ) (xs.zip ys) s1 :=
  fun Z1 H1 a b c d R q => ha Z1 H1 a b c d _ fun us Z2 H2 e m ⟨v, r, e1, h1, w, r2, e2, h2, e3⟩ => by
    cases e3; cases e2; cases e1
    obtain ⟨x, vs, rfl, hx, tx, lx⟩ := f _ _ _ h1
    obtain ⟨y, ws, rfl, hy, ty, ly⟩ := g _ _ _ h2
    exact ⟨x, y, vs, ws, rfl, hx _ e.s, hy _ e.s, q _ Z2 H2 e m (walk_pairs _ rfl walk2m (fun Z' H' z sz _ => ⟨hx _ (z.trans sz), hy _ (z.trans sz)⟩) tx ty (by rw [tx.len]; exact lx))⟩
theorem ei_zip3 (f : SrcOf K τs τ) (g : SrcOf K υs υ) (k : SrcOf K φs φ) (ha : EvA M t σ Z H s (rac (ty τs xs) (rac (ty υs ys) (rac (ty φs zs) ra0))) s1) : EvI M X (iZip3 K t) σ Z H s (yP3 K τ υ φ) (xs.zip (ys.zip zs)) s1 :=
  fun Z1 H1 a b c d R q => ha Z1 H1 a b c d _ fun us Z2 H2 e m ⟨v, r, e1, h1, w, r2, e2, h2, u, r3, e3, h3, e4⟩ => by
    cases e4; cases e3; cases e2; cases e1
    obtain ⟨x, vs, rfl, hx, tx, lx⟩ := f _ _ _ h1
    obtain ⟨y, ws, rfl, hy, ty, ly⟩ := g _ _ _ h2
    obtain ⟨z, us, rfl, hz, tz, lz⟩ := k _ _ _ h3
    refine ⟨x, y, z, vs, ws, us, rfl, hx _ e.s, hy _ e.s, hz _ e.s, q _ Z2 H2 e m ?_⟩
    have ln : (xs.zip (ys.zip zs)).length = min vs.length (min ws.length us.length) := by rw [List.length_zip, List.length_zip, tx.len, ty.len, tz.len]
    refine ⟨by rw [ln, tx.len]; omega, fun H => SqX K H x vs ∧ SqX K H y ws ∧ SqX K H z us, Y3 vs ws us, by rw [ln]; exact walk3m, fun Z' H' zz sz _ => ⟨hx _ (zz.trans sz), hy _ (zz.trans sz), hz _ (zz.trans sz)⟩, fun i Z' H' v H'' hi zz sz _ yy => ?_⟩
    obtain ⟨T, v1, v2, v3, rfl, nT, rfl, g1, g2, g3⟩ := yy
    obtain ⟨x1, ex1, rx1⟩ := tx.get g1
    obtain ⟨x2, ex2, rx2⟩ := ty.get g2
    obtain ⟨x3, ex3, rx3⟩ := tz.get g3
    have st : Step [] Z' H' (upd Z' T (.tup [v1, v2, v3])) (upd H' T (.tup [v1, v2, v3])) := Step.new sz nT
    refine ⟨upd Z' T (.tup [v1, v2, v3]), (x1, x2, x3), ?_, st, T, v1, v2, v3, rfl, sqT_new, τ.mono (zz.trans st.z) rx1, υ.mono (zz.trans st.z) rx2, φ.mono (zz.trans st.z) rx3⟩
    rw [List.getElem?_zip_eq_some]
    exact ⟨ex1, by rw [List.getElem?_zip_eq_some]; exact ⟨ex2, ex3⟩⟩
end
end
section
variable {μ : Type} {M : Mu μ} {σ : L2.St} {Z H : Hp} {s s1 s2 : μ} {ta tb : TE} {K : PySem.W.Frag}
/-- int of a flag -/
theorem ev_int_bl {b : Bool} (ha : Ev M ta σ Z H s (ty yBool b) s1) : Ev M (tCB (fun xs H Q => (∃ i, xs = [.int i] ∧ Q (.int i) H) ∨ ∃ k, xs = [.bl k] ∧ Q (.int (if k then 1 else 0)) H) (tCons ta tNil)) σ Z H s (ty yInt (if b = true then 1 else 0)) s1 :=
  ev_cb (eva_cons ha eva_nil) fun _ _ vs sz ⟨v, r, e, h, e2⟩ Q q => .inr ⟨b, by rw [e, show v = .bl b from h, show r = [] from e2], q _ _ _ (Step.refl sz) rfl⟩
/-- the text of a number -/
def strI (i : Int) : Str := Str.ofString (toString i)
theorem strOk_of (s : String) : PyData.strOk (Str.ofString s) = true := by
  rw [Str.ofString_eq_toList]
  unfold PyData.strOk
  rw [Array.all_eq_true_iff_forall_mem]
  intro x hx
  simp only [List.mem_toArray, List.mem_map] at hx
  obtain ⟨c, _, rfl⟩ := hx
  have := c.valid
  refine decide_eq_true ?_
  show c.val.toNat < 0x110000
  rcases this with h | ⟨_, h⟩
  · have : c.val.toNat < 0xd800 := h
    omega
  · exact h
def StrIOk (i : Int) : Prop := i.natAbs.log2 < 1920 ∧ (strI i).length ≤ 16777216
instance {i : Int} : Decidable (StrIOk i) := inferInstanceAs (Decidable (_ ∧ _))
theorem ev_str_int {i : Int} (ha : Ev M ta σ Z H s (ty yInt i) s1) (h : StrIOk i) : Ev M (tCB (fun xs H Q => ∃ i, xs = [.int i] ∧ i.natAbs.log2 < 1920 ∧ Q (.str (toString i)) H) (tCons ta tNil)) σ Z H s (ty yStr (strI i)) s1 :=
  ev_cb (eva_cons ha eva_nil) fun _ _ vs sz ⟨v, r, e, h1, e2⟩ Q q => ⟨i, by rw [e, show v = .int i from h1, show r = [] from e2], h.1, q _ _ _ (Step.refl sz) ⟨rfl, by
    unfold okS
    rw [Bool.and_eq_true]
    exact ⟨strOk_of _, decide_eq_true h.2⟩⟩⟩
theorem strIOk_of {i : Int} (h0 : 0 ≤ i) (h : i < 10 ^ 100) : StrIOk i := by
  refine ⟨?_, Nat.le_trans (toString_length_le (k := 100) h0 (by decide) h) (by decide)⟩
  by_cases q : i = 0
  · subst q; decide
  · have : i.natAbs < 2 ^ 1920 := by
      have h2 : i.natAbs < 10 ^ 100 := by
        have e : ((10 : Int) ^ 100) = ((10 ^ 100 : Nat) : Int) := by decide
        rw [e] at h
        omega
      exact Nat.lt_trans h2 (by decide)
    exact (Nat.log2_lt (by omega)).mpr this
end
end TP

namespace TP
open PySem PySem.Spec PyProof.Rows L2
def optV (f : Int → V) : Option Int → V
  | none => .non
  | some i => f i
theorem flat_optI : Flat (yOpt yInt) (optV V.int) := by
  refine ⟨fun Z v x h => ?_, fun x y h => ?_, fun x => ?_⟩
  · cases x with
    | none => exact h
    | some i => exact h.1
  · cases x with
    | none => cases y with
      | none => rfl
      | some j => exact nomatch h
    | some i => cases y with
      | none => exact nomatch h
      | some j => exact congrArg some (V.int.inj h)
  · intro y; cases x <;> cases y <;> rfl
theorem fi_optI : FlatI (yOpt yInt) (optV V.int) := by
  refine ⟨flat_optI, fun x => by cases x <;> rfl, fun x y => ?_⟩
  cases x with
  | none => cases y with
    | none => exact ⟨fun _ => rfl, fun _ => rfl⟩
    | some j => exact ⟨fun h => (nomatch h), fun h => (nomatch h)⟩
  | some i => cases y with
    | none => exact ⟨fun h => (nomatch h), fun h => (nomatch h)⟩
    | some j =>
      show (i == j) = true ↔ _
      rw [beq_iff_eq, Option.some.injEq]
section
variable {μ : Type} {M : Mu μ} {σ : L2.St} {Z H : Hp} {s s1 s2 s3 : μ} {ta tb te : TE} {K : PySem.W.Frag}
def inO (x : Option Int) (xs : List (Option Int)) : Bool := decide (x ∈ xs)
theorem ev_inO {x : Option Int} {xs : List (Option Int)} (ha : Ev M ta σ Z H s (ty (yOpt yInt) x) s1) (hb : Ev M tb σ Z H s1 (li (yOpt yInt) xs) s2) : Ev M (tOp (rIn K false) ta tb) σ Z H s (ty yBool (inO x xs)) s2 := ev_cast (ev_in fi_optI ha hb) (decide_eq_decide.mpr Iff.rfl)
theorem ev_notinO {x : Option Int} {xs : List (Option Int)} (ha : Ev M ta σ Z H s (ty (yOpt yInt) x) s1) (hb : Ev M tb σ Z H s1 (li (yOpt yInt) xs) s2) : Ev M (tOp (rIn K true) ta tb) σ Z H s (ty yBool (!inO x xs)) s2 := ev_cast (ev_notin fi_optI ha hb) (congrArg (! ·) (decide_eq_decide.mpr Iff.rfl))
theorem all_okS (Z : Hp) : ∀ l : List Str, l.all okS = true → All (yStr.r Z) (l.map V.str) l
  | [], _ => .nil
  | z :: r, h => by
    rw [List.all_cons, Bool.and_eq_true] at h
    exact .cons ⟨rfl, h.1⟩ (all_okS Z r h.2)
theorem ev_int_str {x : Str} {n : Int} (ha : Ev M ta σ Z H s (ty yStr x) s1) (h : intText? x = some n) (l : x.length ≤ 640) : Ev M (tCB (fun xs H Q => ∃ a n, xs = [.str a] ∧ PySem.intText? a = some n ∧ a.length ≤ 640 ∧ Q (.int n) H) (tCons ta tNil)) σ Z H s (ty yInt n) s1 :=
  ev_cb (eva_cons ha eva_nil) fun _ _ vs sz ⟨v, r, e, hv, e2⟩ Q q => ⟨x, n, by rw [e, hv.1, show r = [] from e2], h, l, q _ _ _ (Step.refl sz) rfl⟩
theorem en_split {x y : Str} (ha : Ev M ta σ Z H s (ty yStr x) s1) (hb : Ev M tb σ Z H s1 (ty yStr y) s2) (h1 : (y.length == 0) = false) (h2 : x.length + 2 ≤ 16777216) (h3 : ((Txt.split x y).all okS) = true) :
    EvN M (tM1 (fun x xs H Q => ∃ a b, x = .str a ∧ xs = [.str b] ∧ (b.length == 0) = false ∧ a.length + 2 ≤ sizeLine ∧ rNewStrs (Txt.split a b) H Q) ta tb) σ Z H s yStr (Txt.split x y) s2 :=
  fun Z1 H1 a b c d Q q => ha Z1 H1 a b c d _ fun v Z2 H2 e m rv => ⟨⟨x, rv.1⟩, hb Z2 H2 (a.trans e.z) (b.trans e.h) e.s m _ fun w Z3 H3 e2 m2 rk => ⟨x, y, rv.1, by rw [rk.1], h1, h2, fun p hp => by
    have st := Step.own (o := .lst ((Txt.split x y).map V.str)) e2.s hp
    refine q p _ Z3 _ ((e.trans e2).trans st.pure) (M.pure st m2) (same_x (e.trans e2) hp) (same_none e2.s hp) upd_same ?_ (Nat.le_trans (PyProof.Rows.split_le x y) h2)
    exact all_okS Z3 _ h3⟩⟩
/-- f'{i}' -/
theorem ev_fmtI {i : Int} (ha : Ev M te σ Z H s (ty yInt i) s1) (h : StrIOk i) : Ev M (tFmt te) σ Z H s (ty yStr (strI i)) s1 :=
  fun Z1 H1 a b c d Q q => ha Z1 H1 a b c d _ fun v Z2 H2 e m rv => .inr ⟨i, rv, h.1, q _ Z2 H2 e m ⟨rfl, by
    have ok : okS (strI i) = true := by
      unfold okS
      rw [Bool.and_eq_true]
      exact ⟨strOk_of _, decide_eq_true h.2⟩
    exact ok⟩⟩
theorem ev_fmtS {x : Str} (ha : Ev M te σ Z H s (ty yStr x) s1) : Ev M (tFmt te) σ Z H s (ty yStr x) s1 :=
  fun Z1 H1 a b c d Q q => ha Z1 H1 a b c d _ fun v Z2 H2 e m rv => .inl ⟨x, rv.1, of_decide_eq_true (Bool.and_eq_true_iff.mp (show (PyData.strOk x && decide (x.length ≤ sizeLine)) = true from rv.2)).2, q _ Z2 H2 e m ⟨rfl, rv.2⟩⟩
/-- the parts of an f-string behind acc -/
def EvJ (M : Mu μ) (ts : List TE) (acc : Str) (σ : L2.St) (Z H : Hp) (s : μ) (out : Str) (s' : μ) : Prop :=
  okS acc = true → ∀ Z1 H1, Same Z Z1 → SameX M.fp H H1 → Same Z1 H1 → M.m s Z1 H1 → ∀ Q : Str → Hp → Prop, (∀ Z2 H2, Step M.fp Z1 H1 Z2 H2 → M.m s' Z2 H2 → okS out = true → Q out H2) → tJs ts acc σ H1 Q
theorem evj_nil {acc : Str} : EvJ M [] acc σ Z H s acc s := fun ok Z1 H1 _ _ c d Q q => q Z1 H1 (Step.refl c) d ok
theorem evj_cons {t : TE} {ts : List TE} {acc y out : Str} (ha : Ev M t σ Z H s (ty yStr y) s1) (l : acc.length + y.length ≤ 16777216) (r : EvJ M ts (acc ++ y) σ Z H s1 out s2) : EvJ M (t :: ts) acc σ Z H s out s2 :=
  fun ok Z1 H1 a b c d Q q => ha Z1 H1 a b c d _ fun v Z2 H2 e m rv => ⟨y, rv.1, by
    have : (acc ++ y).length = acc.length + y.length := by
      show (acc.cps ++ y.cps).size = _
      rw [Array.size_append]; rfl
    rw [this]; exact l, r (okS_app ok rv.2 l) Z2 H2 (a.trans e.z) (b.trans e.h) e.s m _ fun Z3 H3 e2 m2 ok2 => q Z3 H3 (e.trans e2) m2 ok2⟩
theorem ev_joined {ts : List TE} {out : Str} (h : EvJ M ts Str.empty σ Z H s out s1) : Ev M (fun σ H Q => tJs ts Str.empty σ H fun out H1 => Q (.str out) H1) σ Z H s (ty yStr out) s1 :=
  fun Z1 H1 a b c d Q q => h (by decide +kernel) Z1 H1 a b c d _ fun Z2 H2 e m ok => q _ Z2 H2 e m ⟨rfl, ok⟩
end
end TP

namespace TP
open PySem PySem.Spec PyProof.Rows L2
section
variable {μ : Type} {M : Mu μ} {σ : L2.St} {Z H : Hp} {s s1 : μ} {K : PySem.W.Frag} {α β γ : Type} {τ : Ty α} {τ1 : Ty β} {υ : Ty γ} {xs : List α} {wi wi1 : TI} {g g1 : TG} {te : TE} {vs vs1 : List Nat}
/-- [f x y for x in xs for y in h x] -/
theorem en_flat (h : α → List β) (f : α → β → γ) (hi : EvI M (SameX M.fp) wi σ Z H s τ xs s1) (hl : (xs.flatMap fun x => (h x).map (f x)).length ≤ sizeLine)
    (hb : ∀ x v Z' H', Same Z Z' → SameX M.fp H H' → τ.r Z' v x → ∃ σ2, Tgt g v (wipe σ vs) σ2 Z' ∧ wipe σ2 vs = wipe σ vs ∧ (∀ X, EvI M X wi1 σ2 Z' H' s1 τ1 (h x) s1) ∧
      ∀ y w Z'' H'', Same Z' Z'' → Same Z Z'' → SameX M.fp H H'' → τ1.r Z'' w y → ∃ σ3, Tgt g1 w (wipe σ2 vs1) σ3 Z'' ∧ wipe σ3 vs1 = wipe σ2 vs1 ∧ Ev M te σ3 Z'' H'' s1 (ty υ (f x y)) s1) :
    EvN M (tLc2 wi g tYes wi1 g1 tYes te vs vs1) σ Z H s υ (xs.flatMap fun x => (h x).map (f x)) s1 := by
  intro Z1 H1 a b c d Q q
  refine hi Z1 H1 a b c d _ fun J Z2 H2 e m ⟨hx, G, Y, wk, hG, hY⟩ D hD => ?_
  have zD : Z2 D = none := same_none e.s hD
  have st0 := Step.own (o := .lst []) e.s hD
  have nD : D ∉ M.fp := fun h => absurd hD (M.al m D h).1
  refine ⟨fun i m H' => m = xs.length - i ∧ i ≤ xs.length ∧ ∃ Z' ws, Step M.fp Z2 H2 Z' H' ∧ Z' D = none ∧ H' D = some (.lst ws) ∧ All (υ.r Z') ws ((xs.take i).flatMap fun x => (h x).map (f x)) ∧ M.m s1 Z' H',
    ⟨xs.length, by simp, Nat.zero_le _, Z2, [], st0.pure, zD, upd_same, .nil, M.pure st0 m⟩, ?_⟩
  rintro i _ H' ⟨rfl, hi', Z', ws, st, zD', hD', al, m'⟩
  have gg := hG Z' H' st.z st.s st.h
  by_cases hlt : i < xs.length
  · refine .inr ⟨wk.goes i H' hlt gg, fun H'' => ∃ Z' ws, Step M.fp Z2 H2 Z' H'' ∧ Z' D = none ∧ H'' D = some (.lst ws) ∧ All (υ.r Z') ws ((xs.take (i + 1)).flatMap fun x => (h x).map (f x)) ∧ M.m s1 Z' H'', fun H'' p => ⟨xs.length - (i + 1), by omega, rfl, hlt, p⟩, fun v H4 y => ?_⟩
    obtain ⟨Z4, x, ex, st4, rx⟩ := hY i Z' H' v H4 hlt st.z st.s gg (wk.yields i H' v H4 hlt gg y)
    have hxi : xs[i] = x := by rw [List.getElem?_eq_getElem hlt] at ex; exact Option.some.inj ex
    have tk : (xs.take (i + 1)).flatMap (fun x => (h x).map (f x)) = ((xs.take i).flatMap fun x => (h x).map (f x)) ++ (h x).map (f x) := by
      rw [List.take_succ_eq_append_getElem hlt, List.flatMap_append, hxi]
      simp
    have tot : ((xs.take i).flatMap fun x => (h x).map (f x)).length + (h x).length ≤ sizeLine := by
      have e1 : xs.flatMap (fun x => (h x).map (f x)) = ((xs.take (i + 1)).flatMap fun x => (h x).map (f x)) ++ ((xs.drop (i + 1)).flatMap fun x => (h x).map (f x)) := by
        rw [← List.flatMap_append, List.take_append_drop]
      rw [e1, tk, List.length_append, List.length_append, List.length_map] at hl
      omega
    have e4 := st.trans st4.pure
    have eZ : Same Z Z4 := (a.trans e.z).trans e4.z
    have eH : SameX M.fp H H4 := (b.trans e.h).trans e4.h
    obtain ⟨σ2, tg, wp, hi1, hb1⟩ := hb x v Z4 H4 eZ eH rx
    refine tg H4 e4.s _ ⟨wp, ?_⟩
    refine (hi1 (fun _ _ => True)) Z4 H4 (Same.refl _) SameX.refl e4.s (M.pure st4 m') _ fun J1 Z5 H5 e5 m5 ⟨hx1, G1, Y1, wk1, hG1, hY1⟩ => ?_
    have hD4 : H4 D = some (.lst ws) := st4.h _ _ List.not_mem_nil hD'
    have hD5 : H5 D = some (.lst ws) := e5.h _ _ nD hD4
    have zD5 : Z5 D = none := e5.n D (some_ne hD4) (st4.n D (some_ne hD') zD')
    have e25 := e4.trans e5
    refine ⟨fun j k H6 => k = (h x).length - j ∧ j ≤ (h x).length ∧ ∃ Z6 w6, Step M.fp Z2 H2 Z6 H6 ∧ Same Z5 Z6 ∧ Z6 D = none ∧ H6 D = some (.lst w6) ∧ All (υ.r Z6) w6 (((xs.take i).flatMap fun x => (h x).map (f x)) ++ ((h x).take j).map (f x)) ∧ M.m s1 Z6 H6,
      ⟨(h x).length, by simp, Nat.zero_le _, Z5, ws, e25, Same.refl _, zD5, hD5, by rw [List.take_zero]; simpa using al.imp fun _ _ => υ.mono (st4.z.trans e5.z), m5⟩, ?_⟩
    rintro j _ H6 ⟨rfl, hj', Z6, w6, st6, z56, zD6, hD6, al6, m6⟩
    have g1' := hG1 Z6 H6 z56 st6.s trivial
    by_cases hlt1 : j < (h x).length
    · refine .inr ⟨wk1.goes j H6 hlt1 g1', fun H'' => ∃ Z6 w6, Step M.fp Z2 H2 Z6 H'' ∧ Same Z5 Z6 ∧ Z6 D = none ∧ H'' D = some (.lst w6) ∧ All (υ.r Z6) w6 (((xs.take i).flatMap fun x => (h x).map (f x)) ++ ((h x).take (j + 1)).map (f x)) ∧ M.m s1 Z6 H'', fun H'' p => ⟨(h x).length - (j + 1), by omega, rfl, hlt1, p⟩, fun w H7 y1 => ?_⟩
      obtain ⟨Z7, yv, ey, st7, ry⟩ := hY1 j Z6 H6 w H7 hlt1 z56 st6.s g1' (wk1.yields j H6 w H7 hlt1 g1' y1)
      have e7 := st6.trans st7.pure
      obtain ⟨σ3, tg1, wp1, ev⟩ := hb1 yv w Z7 H7 ((e5.z.trans z56).trans st7.z) ((a.trans e.z).trans e7.z) ((b.trans e.h).trans e7.h) ry
      refine tg1 H7 e7.s _ ⟨wp1, ?_⟩
      refine ev Z7 H7 (Same.refl _) SameX.refl e7.s (M.pure st7 m6) _ fun u Z8 H8 e8 m8 ru => ?_
      have hD7 : H7 D = some (.lst w6) := st7.h _ _ List.not_mem_nil hD6
      have hD8 : H8 D = some (.lst w6) := e8.h _ _ nD hD7
      have zD8 : Z8 D = none := e8.n D (some_ne hD7) (st7.n D (some_ne hD6) zD6)
      have s9 := Step.set (o := .lst (w6 ++ [u])) e8.s zD8
      have ll : w6.length < sizeLine := by
        rw [al6.len, List.length_append, List.length_map, List.length_take]
        omega
      refine ⟨w6, hD8, ll, Z8, w6 ++ [u], (e7.trans e8).mine s9 (fun x hx => by rw [List.mem_singleton] at hx; subst hx; exact .inr hD), (z56.trans st7.z).trans e8.z, zD8, upd_same, ?_, ?_⟩
      · have hyj : (h x)[j] = yv := by rw [List.getElem?_eq_getElem hlt1] at ey; exact Option.some.inj ey
        rw [List.take_succ_eq_append_getElem hlt1, List.map_append, hyj, ← List.append_assoc]
        exact (al6.imp fun _ _ => υ.mono (st7.z.trans e8.z)).snoc ru
      · refine M.loc (Same.refl _) (fun a' ha' o ho => ?_) (fun _ _ _ z => z) m8
        rw [upd_ne (fun q' => nD (by rw [← q']; exact ha'))]
        exact ho
    · have ej : j = (h x).length := by omega
      subst ej
      rw [List.take_length] at al6
      exact .inl ⟨wk1.stops H6 g1', Z6, w6, st6, zD6, hD6, by rw [tk]; exact al6, m6⟩
  · have ei : i = xs.length := by omega
    subst ei
    rw [List.take_length] at al
    exact .inl ⟨wk.stops H' gg, q D ws Z' H' (e.trans st) m' (same_x e hD) zD' hD' al hl⟩
end
end TP

namespace K40
open PySem PySem.Spec PyProof.Rows L2
open C8 (tCut pss_cut)
theorem exm_any {K : PySem.W.Frag} {a b : Value} {v : Bool} (h1 : PySem.W.subIn K b (.type "BaseException") = some true) (h2 : ∀ c, b = .ref c → PySem.W.isClsIn K c = true) (h3 : PySem.W.typeIn K b = some (.type "type")) (h4 : PySem.W.subIn K a b = some v) (h5 : ∃ c, b = .ref c) : PySem.W.exmOne K a b = some v := by
  obtain ⟨c, rfl⟩ := h5
  have g := h2 c rfl
  have e1 : (PySem.W.subIn K (.ref c) (.type "BaseException") == some true) = true := by rw [h1]; rfl
  have e2 : ((PySem.W.clsIn K c).isSome && PySem.W.typeIn K (.ref c) == some (.type "type")) = true := by
    have g' : (PySem.W.clsIn K c).isSome = true := g
    rw [g', h3]; rfl
  unfold PySem.W.exmOne PySem.W.kitCls
  simp only [e1, e2, h4, if_true]
/-! the text by places -/
def topS (i : Nat) : Stmt := PySem.Challenge.pw_surenear_k40_logs.main.body.getD i (.Pass ⟨0, 0, 0, 0⟩)
abbrev s_law_row : Stmt := (topS 31)
abbrev s_law_next : Stmt := (topS 32)
abbrev s_law_numbers : Stmt := (topS 33)
abbrev s_remainder_of : Stmt := (topS 17)
abbrev s_sum_of : Stmt := (topS 20)
abbrev s_block_of : Stmt := (topS 21)
abbrev s_begins_block : Stmt := (topS 23)
abbrev s_read_blocks : Stmt := (topS 22)
abbrev s_NumberReader___init__ : Stmt := (inClass (topS 13) 0)
abbrev s_NumberReader_finish : Stmt := (inClass (topS 13) 5)
abbrev s_NumberReader_take : Stmt := (inClass (topS 13) 1)
abbrev s_NumberReader_size : Stmt := (inClass (topS 13) 2)
abbrev s_NumberReader_integers : Stmt := (inClass (topS 13) 6)
abbrev s_lists_in : Stmt := (topS 29)
abbrev s_read_log : Stmt := (topS 28)
abbrev s_log_name : Stmt := (topS 26)
abbrev s_is_digit : Stmt := (topS 2)
abbrev s_number_in : Stmt := (topS 3)
abbrev s_log_number : Stmt := (topS 27)
abbrev s_law_names : Stmt := (topS 34)
abbrev s_list_code : Stmt := (topS 5)
abbrev s_numbers_code : Stmt := (topS 6)
abbrev s_law : Stmt := (topS 35)
theorem sc_law_row : FnScope ["script", "k", "cell", "a", "b", "c"] ["script", "k"] (defScope s_law_row) := ⟨rfl, rfl, rfl, by decide +kernel, rfl, by decide +kernel, by decide +kernel⟩
theorem sc_law_next : FnScope ["state", "many", "drawn"] ["state", "many"] (defScope s_law_next) := ⟨rfl, rfl, rfl, by decide +kernel, rfl, by decide +kernel, by decide +kernel⟩
theorem sc_law_numbers : FnScope ["state", "k"] ["state"] (defScope s_law_numbers) := ⟨rfl, rfl, rfl, by decide +kernel, rfl, by decide +kernel, by decide +kernel⟩
theorem sc_remainder_of : FnScope ["row", "factor", "left", "number"] ["row", "factor"] (defScope s_remainder_of) := ⟨rfl, rfl, rfl, by decide +kernel, rfl, by decide +kernel, by decide +kernel⟩
theorem sc_sum_of : FnScope ["numbers"] ["numbers"] (defScope s_sum_of) := ⟨rfl, rfl, rfl, by decide +kernel, rfl, by decide +kernel, by decide +kernel⟩
theorem sc_block_of : FnScope ["numbers"] ["numbers"] (defScope s_block_of) := ⟨rfl, rfl, rfl, by decide +kernel, rfl, by decide +kernel, by decide +kernel⟩
theorem sc_begins_block : FnScope ["numbers", "at", "size"] ["numbers", "at"] (defScope s_begins_block) := ⟨rfl, rfl, rfl, by decide +kernel, rfl, by decide +kernel, by decide +kernel⟩
theorem sc_read_blocks : FnScope ["numbers", "blocks", "at", "end"] ["numbers"] (defScope s_read_blocks) := ⟨rfl, rfl, rfl, by decide +kernel, rfl, by decide +kernel, by decide +kernel⟩
theorem sc_NumberReader___init__ : FnScope ["self", "numbers"] ["self", "numbers"] (defScope s_NumberReader___init__) := ⟨rfl, rfl, rfl, by decide +kernel, rfl, by decide +kernel, by decide +kernel⟩
theorem sc_NumberReader_finish : FnScope ["self"] ["self"] (defScope s_NumberReader_finish) := ⟨rfl, rfl, rfl, by decide +kernel, rfl, by decide +kernel, by decide +kernel⟩
theorem sc_NumberReader_take : FnScope ["self"] ["self"] (defScope s_NumberReader_take) := ⟨rfl, rfl, rfl, by decide +kernel, rfl, by decide +kernel, by decide +kernel⟩
theorem sc_NumberReader_size : FnScope ["self", "number"] ["self"] (defScope s_NumberReader_size) := ⟨rfl, rfl, rfl, by decide +kernel, rfl, by decide +kernel, by decide +kernel⟩
theorem sc_NumberReader_integers : FnScope ["self", "_"] ["self"] (defScope s_NumberReader_integers) := ⟨rfl, rfl, rfl, by decide +kernel, rfl, by decide +kernel, by decide +kernel⟩
theorem sc_lists_in : FnScope ["numbers", "reader", "lists", "_"] ["numbers"] (defScope s_lists_in) := ⟨rfl, rfl, rfl, by decide +kernel, rfl, by decide +kernel, by decide +kernel⟩
theorem sc_read_log : FnScope ["numbers", "blocks", "lists"] ["numbers"] (defScope s_read_log) := ⟨rfl, rfl, rfl, by decide +kernel, rfl, by decide +kernel, by decide +kernel⟩
theorem sc_log_name : FnScope ["number"] ["number"] (defScope s_log_name) := ⟨rfl, rfl, rfl, by decide +kernel, rfl, by decide +kernel, by decide +kernel⟩
theorem sc_is_digit : FnScope ["char"] ["char"] (defScope s_is_digit) := ⟨rfl, rfl, rfl, by decide +kernel, rfl, by decide +kernel, by decide +kernel⟩
theorem sc_number_in : FnScope ["text", "char"] ["text"] (defScope s_number_in) := ⟨rfl, rfl, rfl, by decide +kernel, rfl, by decide +kernel, by decide +kernel⟩
theorem sc_log_number : FnScope ["name", "number"] ["name"] (defScope s_log_number) := ⟨rfl, rfl, rfl, by decide +kernel, rfl, by decide +kernel, by decide +kernel⟩
theorem sc_law_names : FnScope ["state", "number", "name"] ["state"] (defScope s_law_names) := ⟨rfl, rfl, rfl, by decide +kernel, rfl, by decide +kernel, by decide +kernel⟩
theorem sc_list_code : FnScope ["codes", "code", "number"] ["codes"] (defScope s_list_code) := ⟨rfl, rfl, rfl, by decide +kernel, rfl, by decide +kernel, by decide +kernel⟩
theorem sc_numbers_code : FnScope ["numbers"] ["numbers"] (defScope s_numbers_code) := ⟨rfl, rfl, rfl, by decide +kernel, rfl, by decide +kernel, by decide +kernel⟩
theorem sc_law : FnScope ["script", "state", "base", "inside", "k", "after", "first", "row", "whole", "ends", "told", "cut", "many", "end", "bad"] ["script"] (defScope s_law) := ⟨rfl, rfl, rfl, by decide +kernel, rfl, by decide +kernel, by decide +kernel⟩
/-! the mathematics -/
open TP

theorem getD_lt {ns : List Int} {k : Nat} (h : k < ns.length) : ns[k]? = some (ns.getD k 0) := by
  rw [List.getD_eq_getElem?_getD, List.getElem?_eq_getElem h]; rfl
theorem getD_ge {ns : List Int} {k : Nat} (h : ¬ k < ns.length) : ns.getD k 0 = 0 := by
  rw [List.getD_eq_getElem?_getD, List.getElem?_eq_none (by omega)]; rfl
def row1 (ns : List Int) (k : Nat) : Int := if ns.getD k 0 < 0 then -2 * ns.getD k 0 - 1 else ns.getD k 0
def rowA (c : Int) (k : Nat) : Int := (c * 48271 + k * 69621 + 11) % 2147483647
def rowB (a c : Int) (k : Nat) : Int := (a * 16807 + c * 7 + k + 5) % 2147483629
def rowC (a b : Int) : Int := (b * 39373 + a * b + 3) % 2147483587
theorem rowZ_hi {ns : List Int} {k : Nat} (h : ¬ row1 ns k < 10 ^ 9) : rowZ ns k = row1 ns k := by
  unfold rowZ
  exact if_neg h
theorem rowZ_lo {ns : List Int} {k : Nat} (h : row1 ns k < 10 ^ 9) : rowZ ns k = rowA (row1 ns k) k + rowB (rowA (row1 ns k) k) (row1 ns k) k * 2147483647 + rowC (rowA (row1 ns k) k) (rowB (rowA (row1 ns k) k) (row1 ns k) k) * 2147483647 ^ 2 := by
  unfold rowZ
  exact if_pos h
theorem row1_nn (ns : List Int) (k : Nat) : 0 ≤ row1 ns k := by
  unfold row1
  by_cases h : ns.getD k 0 < 0
  · rw [if_pos h]; omega
  · rw [if_neg h]; omega
theorem rowZ_nn (ns : List Int) (k : Nat) : 0 ≤ rowZ ns k := by
  by_cases h : row1 ns k < 10 ^ 9
  · rw [rowZ_lo h]
    have a0 : 0 ≤ rowA (row1 ns k) k := Int.emod_nonneg _ (by decide)
    have b0 : 0 ≤ rowB (rowA (row1 ns k) k) (row1 ns k) k := Int.emod_nonneg _ (by decide)
    have d0 : 0 ≤ rowC (rowA (row1 ns k) k) (rowB (rowA (row1 ns k) k) (row1 ns k) k) := Int.emod_nonneg _ (by decide)
    have e2 : (2147483647 : Int) ^ 2 = 4611686014132420609 := by decide
    rw [e2]
    omega
  · rw [rowZ_hi h]; exact row1_nn ns k

inductive Exc
  | InvalidCode
deriving DecidableEq

structure NumberReader where
  numbers : (List Int)
  «at» : Int
deriving DecidableEq


def F_law_numbers (ds : DS) : Option ((List Int) × DS) :=
  if RangeOk 0 (nxV ds (4 : Int)) then
  (mapS (fun (x_9 : Int) (s_10 : DS) => (some (((nxV s_10 (7 : Int)) - (2 : Int)), (nxS s_10 (7 : Int))) : Option (Int × DS))) (rangeZ 0 (nxV ds (4 : Int))) (nxS ds (4 : Int))).bind fun l_13 =>
  some (l_13.1, l_13.2) else none
def L_remainder_of_1 (x_factor : Int) (x_20 : Int) (w_19 : Int) : Option Int :=
  if CMul w_19 x_factor then
  (some ((((w_19 * x_factor) + x_20) + (1 : Int)) % (4294967291 : Int))).bind fun x_left_43 =>
  some x_left_43 else none
def F_remainder_of (x_row : (List Int)) (x_factor : Int) : Option Int :=
  (forF (L_remainder_of_1 x_factor) x_row (0 : Int)).bind fun w_30 =>
  some w_30
def F_sum_of (x_numbers : (List Int)) : Option Int :=
  (F_remainder_of x_numbers (257 : Int)).bind fun r_51 =>
  some r_51
def F_block_of (x_numbers : (List Int)) : Option (List Int) :=
  (F_sum_of x_numbers).bind fun r_60 =>
  if ([(x_numbers.length : Int), r_60] : List Int).length + x_numbers.length ≤ 16777216 then
  some (([(x_numbers.length : Int), r_60] : List Int) ++ x_numbers) else none
def F_begins_block (x_numbers : (List Int)) (x_at : Int) : Option Bool :=
  if (decide ((x_numbers.length : Int) < (x_at + (2 : Int)))) = true then
  some false
  else
  (atI x_numbers x_at).bind fun i_74 =>
  if ((decide (i_74 < (0 : Int))) || (decide ((x_numbers.length : Int) < ((x_at + (2 : Int)) + i_74)))) = true then
  some false
  else
  (atI x_numbers (x_at + (1 : Int))).bind fun i_79 =>
  (F_sum_of (cutA x_numbers (some (x_at + (2 : Int))) (some ((x_at + (2 : Int)) + i_74)))).bind fun r_81 =>
  some (decide (i_79 = r_81))
def L_read_blocks_1 (x_numbers : (List Int)) (w_93 : ((List (List Int)) × Int)) : Option (Flow (List (List Int)) ((List (List Int)) × Int)) :=
  (F_begins_block x_numbers w_93.2).bind fun r_103 =>
  if r_103 = true then
  (atI x_numbers w_93.2).bind fun i_106 =>
  (some ((w_93.2 + (2 : Int)) + i_106)).bind fun x_end_108 =>
  if w_93.1.length < 16777216 then
  some (Flow.go ((w_93.1 ++ [(cutA x_numbers (some (w_93.2 + (2 : Int))) (some x_end_108))]), x_end_108)) else none
  else some (Flow.brk (w_93.1, w_93.2))
def F_read_blocks (x_numbers : (List Int)) : Option (List (List Int)) :=
  (whileS (L_read_blocks_1 x_numbers) ((x_numbers.length + 1)) (([] : List (List Int)), (0 : Int))).bind (Flow.thn (fun w_93 =>
  some w_93.1) (fun r => some r))
def F_NumberReader___init__ (x_numbers : (List Int)) : NumberReader :=
  (⟨x_numbers, (0 : Int)⟩ : NumberReader)
def F_NumberReader_finish (ds : NumberReader) : Option (Res Exc Unit) :=
  if (decide (ds.«at» < (ds.numbers.length : Int))) = true then
  some (Res.er Exc.InvalidCode)
  else
  some (Res.ok ())
def F_NumberReader_take (ds : NumberReader) : Option ((Res Exc Int) × NumberReader) :=
  if (decide (ds.«at» = (ds.numbers.length : Int))) = true then
  some ((Res.er Exc.InvalidCode), ds)
  else
  (atI (({ ds with «at» := ds.«at» + (1 : Int) }).numbers) (({ ds with «at» := ds.«at» + (1 : Int) }).«at» - (1 : Int))).bind fun i_124 =>
  some ((Res.ok i_124), { ds with «at» := ds.«at» + (1 : Int) })
def F_NumberReader_size (ds : NumberReader) : Option ((Res Exc Int) × NumberReader) :=
  (F_NumberReader_take ds).bind fun p_128 =>
  (fun s_129 => Res.thn (fun e => some ((Res.er e), s_129)) (fun r_126 =>
  if (decide (r_126 < (0 : Int))) = true then
  some ((Res.er Exc.InvalidCode), s_129)
  else
  some ((Res.ok r_126), s_129)) p_128.1) p_128.2
def F_NumberReader_integers (ds : NumberReader) : Option ((Res Exc (List Int)) × NumberReader) :=
  (F_NumberReader_size ds).bind fun p_135 =>
  (fun s_136 => Res.thn (fun e => some ((Res.er e), s_136)) (fun r_133 =>
  if RangeOk 0 r_133 then
  (mapR (fun (x_138 : Int) (s_139 : NumberReader) => ((F_NumberReader_take s_139).bind fun p_145 => some (p_145.1, p_145.2) : Option (Res Exc Int × NumberReader))) (rangeZ 0 r_133) s_136).bind fun p_148 =>
  (fun s_149 => Res.thn (fun e => some ((Res.er e), s_149)) (fun l_146 =>
  some ((Res.ok l_146), s_149)) p_148.1) p_148.2 else none) p_135.1) p_135.2
def F_lists_in (x_numbers : (List Int)) : Option (List (List Int)) :=
  (some (F_NumberReader___init__ x_numbers)).bind fun x_reader_156 =>
  (F_NumberReader_size x_reader_156).bind fun p_160 =>
  (fun s_161 => Res.thn (fun e => (match e with
    | .InvalidCode =>
        some ([] : List (List Int)))) (fun r_158 =>
  if RangeOk 0 r_158 then
  (mapR (fun (x_163 : Int) (s_164 : (Unit × NumberReader)) => ((F_NumberReader_integers s_164.2).bind fun p_170 => some (p_170.1, (s_164.1, p_170.2)) : Option (Res Exc (List Int) × (Unit × NumberReader)))) (rangeZ 0 r_158) ((), s_161)).bind fun p_173 =>
  (fun s_174 => Res.thn (fun e => (match e with
    | .InvalidCode =>
        some ([] : List (List Int)))) (fun l_171 =>
  (F_NumberReader_finish s_174.2).bind (Res.thn (fun e => (match e with
    | .InvalidCode =>
        some ([] : List (List Int)))) fun r_177 =>
  some l_171)) p_173.1) p_173.2 else none) p_160.1) p_160.2
def F_read_log (x_numbers : (List Int)) : Option (Option ((List Int) × (List (List Int)))) :=
  (F_read_blocks x_numbers).bind fun r_196 =>
  if (decide (r_196 = ([] : List (List Int)))) = true then
  some none
  else
  (atI r_196 (0 : Int)).bind fun i_201 =>
  (F_lists_in i_201).bind fun r_203 =>
  if (decide (r_203 = ([] : List (List Int)))) = true then
  some none
  else
  (atI r_203 (0 : Int)).bind fun i_208 =>
  if (cutA r_203 (some (1 : Int)) none).length + (cutA r_196 (some (1 : Int)) none).length ≤ 16777216 then
  some (some (i_208, ((cutA r_203 (some (1 : Int)) none) ++ (cutA r_196 (some (1 : Int)) none)))) else none
def F_log_name (x_number : Int) : Option Str :=
  if Str.empty.length + ("log " : Str).length ≤ 16777216 then
  if StrIOk x_number then
  if (Str.empty ++ ("log " : Str)).length + (strI x_number).length ≤ 16777216 then
  some ((Str.empty ++ ("log " : Str)) ++ (strI x_number)) else none else none else none
def F_is_digit (x_char : Str) : Bool :=
  ((!decide (x_char.cps.toList < ("0" : Str).cps.toList)) && (!decide (("9" : Str).cps.toList < x_char.cps.toList)))
def F_number_in (x_text : Str) : Option (Option Int) :=
  if ((decide (x_text = ("" : Str))) || (!(((x_text.cps.toList.map fun c => (⟨#[c]⟩ : Str)).map (fun (x_227 : Str) => (F_is_digit x_227))).all id))) = true then
  some none
  else
  (atSi x_text (0 : Int)).bind fun i_231 =>
  if ((decide (i_231 = ("0" : Str))) && (decide ((1 : Int) < (x_text.length : Int)))) = true then
  some none
  else
  (intText? x_text).bind fun n_234 =>
  if x_text.length ≤ 640 then
  some (some n_234) else none
def F_log_number (x_name : Str) : Option (Option Int) :=
  if (!(Txt.startswith x_name ("log " : Str))) = true then
  some none
  else
  (F_number_in (cutS x_name (some (("log " : Str).length : Int)) none)).bind fun r_243 =>
  some (if (decide (r_243 = (some (0 : Int)))) = true then none else r_243)
def L_law_names_1 (ds : DS) (i_262 : Int) (x_281 : Str) (w_280 : Unit) : Option (Flow (Bool × DS) Unit) :=
  (F_log_number x_281).bind fun r_295 =>
  if r_295.isSome = true then
  some (Flow.ret (false, (nxS (nxS ds (2 : Int)) i_262)))
  else
  some (Flow.go ())
def F_law_names (ds : DS) : Option (Bool × DS) :=
  (atI ([(9 : Int), ((10 : Int) ^ (12 : Int).toNat)] : List Int) (nxV ds (2 : Int))).bind fun i_262 =>
  if NxOk i_262 then
  (some ((1 : Int) + (nxV (nxS ds (2 : Int)) i_262))).bind fun x_number_265 =>
  (F_log_name x_number_265).bind fun r_269 =>
  if StrIOk x_number_265 then
  if ("log " : Str).length + (strI x_number_265).length ≤ 16777216 then
  (if (!decide (r_269 = (("log " : Str) ++ (strI x_number_265)))) = true then some true else (if StrIOk x_number_265 then
  if ("log " : Str).length + (strI x_number_265).length ≤ 16777216 then
  (F_log_number (("log " : Str) ++ (strI x_number_265))).bind fun r_275 =>
  some (!decide (r_275 = (some x_number_265))) else none else none)).bind fun b_278 =>
  if b_278 = true then
  some (false, (nxS (nxS ds (2 : Int)) i_262))
  else
  (forS (L_law_names_1 ds i_262) ([("log 0" : Str), ("log 01" : Str), ("log" : Str), ("log " : Str), ("log 1a" : Str), ("log -1" : Str), ("Log 1" : Str), ("log  1" : Str), ("segment 1 0" : Str), ("1" : Str), ("" : Str)] : List Str) ()).bind (Flow.thn (fun w_289 =>
  some (true, (nxS (nxS ds (2 : Int)) i_262))) (fun r => some r)) else none else none else none
def F_list_code (x_codes : (List (List Int))) : Option (List Int) :=
  if (x_codes.flatMap fun (x_308 : (List Int)) => x_308.map (fun (y_311 : Int) => y_311)).length ≤ 16777216 then
  if ([(x_codes.length : Int)] : List Int).length + (x_codes.flatMap fun (x_308 : (List Int)) => x_308.map (fun (y_311 : Int) => y_311)).length ≤ 16777216 then
  some (([(x_codes.length : Int)] : List Int) ++ (x_codes.flatMap fun (x_308 : (List Int)) => x_308.map (fun (y_311 : Int) => y_311))) else none else none
def F_numbers_code (x_numbers : (List Int)) : Option (List Int) :=
  if ([(x_numbers.length : Int)] : List Int).length + x_numbers.length ≤ 16777216 then
  some (([(x_numbers.length : Int)] : List Int) ++ x_numbers) else none
def L_law_1 (x_368 : (List Int)) (w_367 : ((List Int) × (List Int))) : Option ((List Int) × (List Int)) :=
  (F_block_of x_368).bind fun r_408 =>
  if w_367.1.length + r_408.length ≤ 16777216 then
  if w_367.2.length < 16777216 then
  some ((w_367.1 ++ r_408), (w_367.2 ++ [((w_367.1 ++ r_408).length : Int)])) else none else none
def F_law (ns : List Int) : Option Bool :=
  (F_law_numbers (DS.mk ns 0 0)).bind fun r_318 =>
  if RangeOk 0 (nxV r_318.2 (3 : Int)) then
  (mapS (fun (x_323 : Int) (s_324 : DS) => ((F_law_numbers s_324).bind fun r_327 =>
  some (r_327.1, r_327.2) : Option ((List Int) × DS))) (rangeZ 0 (nxV r_318.2 (3 : Int))) (nxS r_318.2 (3 : Int))).bind fun l_329 =>
  if RangeOk 0 (nxV l_329.2 (4 : Int)) then
  (mapS (fun (x_334 : Int) (s_335 : DS) => ((F_law_numbers s_335).bind fun r_338 =>
  some (r_338.1, r_338.2) : Option ((List Int) × DS))) (rangeZ 0 (nxV l_329.2 (4 : Int))) (nxS l_329.2 (4 : Int))).bind fun l_340 =>
  if ([r_318.1] : List (List Int)).length + l_329.1.length ≤ 16777216 then
  (mapO (fun (x_346 : (List Int)) => ((F_numbers_code x_346).bind fun r_350 =>
  some r_350 : Option (List Int))) (([r_318.1] : List (List Int)) ++ l_329.1)).bind fun l_352 =>
  (F_list_code l_352).bind fun r_354 =>
  (F_block_of r_354).bind fun r_356 =>
  (some ([(r_356.length : Int)] : List Int)).bind fun x_ends_362 =>
  (forF L_law_1 l_340.1 (r_356, x_ends_362)).bind fun w_389 =>
  (F_read_log w_389.1).bind fun r_417 =>
  (if r_417.isNone = true then some true else ((r_417).bind fun u_423 =>
  (if (!decide (u_423.1 = r_318.1)) = true then some true else ((r_417).bind fun u_427 =>
  if l_329.1.length + l_340.1.length ≤ 16777216 then
  some (!decide (u_427.2 = (l_329.1 ++ l_340.1))) else none)).bind fun b_431 =>
  some b_431)).bind fun b_433 =>
  if b_433 = true then
  some false
  else
  if NxOk ((w_389.1.length : Int) + (1 : Int)) then
  (some (nxV l_340.2 ((w_389.1.length : Int) + (1 : Int)))).bind fun x_cut_436 =>
  (F_read_log (cutA w_389.1 none (some x_cut_436))).bind fun r_440 =>
  (if (decide (x_cut_436 < (r_356.length : Int))) = true then
  if r_440.isSome = true then
  some (Flow.ret false)
  else
  some (Flow.go ())
  else
  (some (((w_389.2.filter (fun (x_466 : Int) => (decide (x_466 ≤ x_cut_436)))).length : Int) - (1 : Int))).bind fun x_many_470 =>
  (if r_440.isNone = true then some true else ((r_440).bind fun u_476 =>
  (if (!decide (u_476.1 = r_318.1)) = true then some true else ((r_440).bind fun u_480 =>
  if l_329.1.length + (cutA l_340.1 none (some x_many_470)).length ≤ 16777216 then
  some (!decide (u_480.2 = (l_329.1 ++ (cutA l_340.1 none (some x_many_470))))) else none)).bind fun b_484 =>
  some b_484)).bind fun b_486 =>
  if b_486 = true then
  some (Flow.ret false)
  else
  some (Flow.go ()) : Option (Flow Bool Unit)).bind (Flow.thn (fun w_446 =>
  (atI ([([(3 : Int)] : List Int), ([(-(1 : Int))] : List Int), ([(2 : Int), (0 : Int)] : List Int)] : List (List Int)) (nxV (nxS l_340.2 ((w_389.1.length : Int) + (1 : Int))) (3 : Int))).bind fun i_488 =>
  if w_389.1.length + i_488.length ≤ 16777216 then
  (F_read_log (w_389.1 ++ i_488)).bind fun r_491 =>
  (if r_491.isNone = true then some true else ((r_491).bind fun u_497 =>
  (if (!decide (u_497.1 = r_318.1)) = true then some true else ((r_491).bind fun u_501 =>
  if l_329.1.length + l_340.1.length ≤ 16777216 then
  some (!decide (u_501.2 = (l_329.1 ++ l_340.1))) else none)).bind fun b_505 =>
  some b_505)).bind fun b_507 =>
  if b_507 = true then
  some false
  else
  (F_block_of ([(0 : Int)] : List Int)).bind fun r_509 =>
  (F_block_of ([] : List Int)).bind fun r_511 =>
  (F_block_of ([(1 : Int)] : List Int)).bind fun r_513 =>
  (F_block_of ([(1 : Int), (2 : Int), (5 : Int)] : List Int)).bind fun r_515 =>
  (F_block_of ([(1 : Int), (0 : Int), (7 : Int)] : List Int)).bind fun r_517 =>
  (some ([([(-(1 : Int))] : List Int), r_509, r_511, r_513, r_515, r_517, ([(1 : Int), (1 : Int), (1 : Int)] : List Int)] : List (List Int))).bind fun x_bad_519 =>
  (atI x_bad_519 (nxV (nxS (nxS l_340.2 ((w_389.1.length : Int) + (1 : Int))) (3 : Int)) (7 : Int))).bind fun i_525 =>
  (F_block_of r_318.1).bind fun r_527 =>
  if i_525.length + r_527.length ≤ 16777216 then
  (F_read_log (i_525 ++ r_527)).bind fun r_530 =>
  if r_530.isSome = true then
  some false
  else
  (F_law_names (nxS (nxS (nxS l_340.2 ((w_389.1.length : Int) + (1 : Int))) (3 : Int)) (7 : Int))).bind fun r_533 =>
  some r_533.1 else none else none) (fun r => some r)) else none else none else none else none
-- MATH BEGINS
def S39 (xs : List Int) : Int := xs.foldl (fun t x => (t * 257 + x + 1) % 4294967291) 0
theorem F_remainder_eq (xs : List Int) : F_remainder_of xs 257 = some (S39 xs) := by
  unfold F_remainder_of
  rw [forF_foldl (g := fun t x => (t * 257 + x + 1) % 4294967291) (fun x b => by unfold L_remainder_of_1; rw [if_pos (.inr ⟨by decide, by decide⟩)]; rfl)]
  rfl
theorem F_sum_eq (xs : List Int) : F_sum_of xs = some (S39 xs) := by
  unfold F_sum_of
  rw [F_remainder_eq]
  rfl
/-- the block with which a list begins, and its length -/
def next39 : List Int → Option (List Int × Nat)
  | s :: c :: r => if 0 ≤ s ∧ s ≤ r.length ∧ S39 (r.take s.toNat) = c then some (r.take s.toNat, s.toNat + 2) else none
  | _ => none
theorem next39_cons (s c : Int) (r : List Int) : next39 (s :: c :: r) = if 0 ≤ s ∧ s ≤ r.length ∧ S39 (r.take s.toNat) = c then some (r.take s.toNat, s.toNat + 2) else none := rfl
def rb39 : Nat → List Int → List (List Int)
  | 0, _ => []
  | f + 1, l => match next39 l with
    | none => []
    | some p => p.1 :: rb39 f (l.drop p.2)
theorem next39_le {l : List Int} {p : List Int × Nat} (h : next39 l = some p) : 2 ≤ p.2 ∧ p.2 ≤ l.length := by
  match l, h with
  | s :: c :: r, h =>
    unfold next39 at h
    dsimp only at h
    by_cases q : 0 ≤ s ∧ s ≤ r.length ∧ S39 (r.take s.toNat) = c
    · rw [if_pos q] at h
      rw [← Option.some.inj h]
      simp only [List.length_cons]
      omega
    · rw [if_neg q] at h
      cases h
theorem rb39_mono : ∀ (f g : Nat) (l : List Int), l.length ≤ f → l.length ≤ g → rb39 f l = rb39 g l
  | 0, 0, _, _, _ => rfl
  | 0, g + 1, l, h, _ => by
    have : l = [] := List.length_eq_zero_iff.mp (by omega)
    subst this
    rfl
  | f + 1, 0, l, _, h => by
    have : l = [] := List.length_eq_zero_iff.mp (by omega)
    subst this
    rfl
  | f + 1, g + 1, l, h, k => by
    show (match next39 l with | none => [] | some p => p.1 :: rb39 f (l.drop p.2)) = (match next39 l with | none => [] | some p => p.1 :: rb39 g (l.drop p.2))
    cases e : next39 l with
    | none => rfl
    | some p =>
      have := next39_le e
      dsimp only
      rw [rb39_mono f g _ (by rw [List.length_drop]; omega) (by rw [List.length_drop]; omega)]
def RB39 (l : List Int) : List (List Int) := rb39 l.length l
theorem rb39_pre : ∀ (f : Nat) (l : List Int) (c : Nat), rb39 f (l.take c) <+: rb39 f l
  | 0, _, _ => List.prefix_refl _
  | f + 1, l, c => by
    show (match next39 (l.take c) with | none => [] | some p => p.1 :: rb39 f ((l.take c).drop p.2)) <+: (match next39 l with | none => [] | some p => p.1 :: rb39 f (l.drop p.2))
    cases e : next39 (l.take c) with
    | none => exact List.nil_prefix
    | some p =>
      have e2 : next39 l = some p := by
        match l, c, e with
        | [], c, e => rw [List.take_nil] at e; cases e
        | _, 0, e => cases e
        | [_], c + 1, e => rw [List.take_succ_cons, List.take_nil] at e; cases e
        | _ :: _, 1, e => cases e
        | s :: d :: r, c + 2, e =>
          rw [List.take_succ_cons, List.take_succ_cons] at e
          unfold next39 at e ⊢
          dsimp only at e ⊢
          by_cases q : 0 ≤ s ∧ s ≤ (r.take c).length ∧ S39 ((r.take c).take s.toNat) = d
          · rw [if_pos q] at e
            rw [List.length_take] at q
            have : (r.take c).take s.toNat = r.take s.toNat := by rw [List.take_take, Nat.min_eq_left (by omega)]
            rw [this] at q e
            rw [if_pos ⟨q.1, by omega, q.2.2⟩]
            exact e
          · rw [if_neg q] at e
            cases e
      rw [e2]
      dsimp only
      have : (l.take c).drop p.2 = (l.drop p.2).take (c - p.2) := by rw [List.drop_take]
      rw [this]
      exact (List.prefix_cons_inj _).mpr (rb39_pre f _ _)
def B39 (r : List Int) : List Int := (r.length : Int) :: S39 r :: r
theorem next39_block (r l : List Int) : next39 (B39 r ++ l) = some (r, r.length + 2) := by
  show next39 ((r.length : Int) :: S39 r :: (r ++ l)) = _
  rw [next39_cons, Int.toNat_natCast, List.take_left, if_pos ⟨by omega, by rw [List.length_append]; omega, rfl⟩]
theorem rb39_blocks : ∀ (rows : List (List Int)) (f : Nat), rows.length ≤ f → rb39 f (rows.flatMap B39) = rows
  | [], 0, _ => rfl
  | [], _ + 1, _ => rfl
  | r :: rs, f + 1, h => by
    rw [List.flatMap_cons]
    show (match next39 (B39 r ++ rs.flatMap B39) with | none => [] | some p => p.1 :: rb39 f ((B39 r ++ rs.flatMap B39).drop p.2)) = _
    rw [next39_block]
    dsimp only
    have : (B39 r ++ rs.flatMap B39).drop (r.length + 2) = rs.flatMap B39 := by
      show (((r.length : Int) :: S39 r :: (r ++ rs.flatMap B39)).drop (r.length + 2)) = _
      rw [List.drop_succ_cons, List.drop_succ_cons, List.drop_left]
    rw [this, rb39_blocks rs f (by rw [List.length_cons] at h; omega)]
theorem RB39_blocks (rows : List (List Int)) : RB39 (rows.flatMap B39) = rows := by
  unfold RB39
  refine rb39_blocks rows _ ?_
  induction rows with
  | nil => exact Nat.zero_le _
  | cons r rs ih =>
    rw [List.flatMap_cons, List.length_append, List.length_cons]
    have : (B39 r).length = r.length + 2 := rfl
    omega
theorem RB39_pre (l : List Int) (c : Nat) : RB39 (l.take c) <+: RB39 l := by
  unfold RB39
  rw [rb39_mono (l.take c).length l.length (l.take c) (Nat.le_refl _) (by rw [List.length_take]; omega)]
  exact rb39_pre _ _ _
/-- what the turn at a place does -/
theorem drop_two {xs : List Int} {a : Nat} (h : a + 2 ≤ xs.length) : ∃ s c, xs.drop a = s :: c :: xs.drop (a + 2) ∧ xs[a]? = some s ∧ xs[a + 1]? = some c := by
  refine ⟨xs[a], xs[a + 1], ?_, List.getElem?_eq_getElem (by omega), List.getElem?_eq_getElem (by omega)⟩
  rw [List.drop_eq_getElem_cons (by omega), List.drop_eq_getElem_cons (by omega)]
theorem next39_short {l : List Int} (h : l.length < 2) : next39 l = none := by
  match l, h with
  | [], _ => rfl
  | [_], _ => rfl
theorem begins_eq {xs : List Int} {a : Nat} : F_begins_block xs a = some (next39 (xs.drop a)).isSome := by
  unfold F_begins_block
  by_cases h : xs.length < a + 2
  · rw [if_pos (decide_eq_true (by omega)), next39_short (by rw [List.length_drop]; omega)]
    rfl
  · rw [if_neg (fun e => by have := of_decide_eq_true e; omega)]
    obtain ⟨s, c, e, e1, e2⟩ := drop_two (xs := xs) (a := a) (by omega)
    rw [atI_of (by omega), Int.toNat_natCast, e1]
    show (if _ then _ else _) = _
    rw [atI_of (by omega), show ((a : Int) + 1).toNat = a + 1 by omega, e2, e, next39_cons]
    by_cases q : s < 0 ∨ (xs.length : Int) < a + 2 + s
    · rw [if_pos (by rcases q with q | q <;> simp [q]), if_neg (fun z => by have := z.1; have := z.2.1; rw [List.length_drop] at this; omega)]
      rfl
    · rw [if_neg (fun z => by simp at z; omega)]
      show (F_sum_of _).bind _ = _
      rw [cutA_to _ (by omega) (by omega) (by omega), F_sum_eq, show ((a : Int) + 2).toNat = a + 2 by omega, show ((a : Int) + 2 + s - (a + 2)).toNat = s.toNat by omega]
      show some (decide _) = _
      by_cases w : S39 ((xs.drop (a + 2)).take s.toNat) = c
      · rw [if_pos ⟨by omega, by rw [List.length_drop]; omega, w⟩, decide_eq_true w.symm]
        rfl
      · rw [if_neg (fun z => w z.2.2), decide_eq_false (fun z => w z.symm)]
        rfl
theorem next39_some {xs : List Int} {a : Nat} {p : List Int × Nat} (h : next39 (xs.drop a) = some p) : ∃ s : Int, 0 ≤ s ∧ a + 2 + s.toNat ≤ xs.length ∧ xs[a]? = some s ∧ xs[a + 1]? = some (S39 p.1) ∧ p = ((xs.drop (a + 2)).take s.toNat, s.toNat + 2) := by
  have l := next39_le h
  rw [List.length_drop] at l
  obtain ⟨s, c, e, e1, e2⟩ := drop_two (xs := xs) (a := a) (by omega)
  rw [e] at h
  unfold next39 at h
  dsimp only at h
  by_cases q : 0 ≤ s ∧ s ≤ (xs.drop (a + 2)).length ∧ S39 ((xs.drop (a + 2)).take s.toNat) = c
  · rw [if_pos q] at h
    have hp := Option.some.inj h
    subst hp
    have := q.2.1
    rw [List.length_drop] at this
    refine ⟨s, q.1, by omega, e1, ?_, rfl⟩
    rw [e2]
    exact congrArg some q.2.2.symm
  · rw [if_neg q] at h
    cases h
theorem read_body {xs : List Int} {a : Nat} {bs : List (List Int)} (hb : bs.length < 16777216) : L_read_blocks_1 xs (bs, (a : Int)) = match next39 (xs.drop a) with
    | none => some (Flow.brk (bs, (a : Int)))
    | some p => some (Flow.go (bs ++ [p.1], ((a + p.2 : Nat) : Int))) := by
  unfold L_read_blocks_1
  dsimp only
  rw [begins_eq]
  show (if _ then _ else _) = _
  cases e : next39 (xs.drop a) with
  | none => rw [if_neg (fun z => nomatch z)]
  | some p =>
    obtain ⟨s, s0, s1, e1, _, hp⟩ := next39_some e
    subst hp
    rw [if_pos (by rfl), atI_of (by omega), Int.toNat_natCast, e1]
    show (if _ then _ else _) = _
    rw [if_pos hb, cutA_to _ (by omega) (by omega) (by omega), show ((a : Int) + 2).toNat = a + 2 by omega, show ((a : Int) + 2 + s - (a + 2)).toNat = s.toNat by omega]
    dsimp only
    rw [show ((a + (s.toNat + 2) : Nat) : Int) = a + 2 + s by omega]
theorem read_loop {xs : List Int} (hx : xs.length ≤ 10000) : ∀ (f a : Nat) (bs : List (List Int)), bs.length ≤ a → a ≤ xs.length → xs.length - a < f → ∃ e, whileS (L_read_blocks_1 xs) f (bs, (a : Int)) = some (Flow.go (bs ++ rb39 f (xs.drop a), e))
  | 0, _, _, _, _, h => by omega
  | f + 1, a, bs, hb, ha, h => by
    show ∃ e, (L_read_blocks_1 xs (bs, (a : Int))).bind _ = some (Flow.go (bs ++ (match next39 (xs.drop a) with | none => [] | some p => p.1 :: rb39 f ((xs.drop a).drop p.2)), e))
    rw [read_body (by omega)]
    cases e : next39 (xs.drop a) with
    | none => exact ⟨(a : Int), by show some _ = some _; rw [List.append_nil]⟩
    | some p =>
      have l := next39_le e
      rw [List.length_drop] at l
      obtain ⟨e, w⟩ := read_loop hx f (a + p.2) (bs ++ [p.1]) (by rw [List.length_append, List.length_singleton]; omega) (by omega) (by omega)
      refine ⟨e, ?_⟩
      show whileS (L_read_blocks_1 xs) f (bs ++ [p.1], ((a + p.2 : Nat) : Int)) = _
      rw [w, List.append_assoc]
      dsimp only
      rw [List.drop_drop]
      rfl
theorem F_read_eq {xs : List Int} (hx : xs.length ≤ 10000) : F_read_blocks xs = some (RB39 xs) := by
  unfold F_read_blocks
  obtain ⟨e, w⟩ := read_loop hx (xs.length + 1) 0 [] (Nat.le_refl _) (Nat.zero_le _) (by omega)
  show (whileS (L_read_blocks_1 xs) (xs.length + 1) (([] : List (List Int)), ((0 : Nat) : Int))).bind _ = _
  rw [w]
  show some (rb39 (xs.length + 1) (xs.drop 0)) = _
  rw [List.drop_zero, rb39_mono _ xs.length xs (by omega) (Nat.le_refl _)]
  rfl
theorem F_block_eq {xs : List Int} (h : xs.length ≤ 10000) : F_block_of xs = some (B39 xs) := by
  unfold F_block_of
  rw [F_sum_eq]
  show (if _ then _ else _) = _
  rw [if_pos (by simp only [List.length_cons, List.length_nil]; omega)]
  rfl

/-! numbers as texts -/
theorem tl_strI (n : Nat) : TL.tl (strI (n : Int)) = TL.numL n := TL.tl_num n
theorem num_len {n : Nat} (h : n < 10 ^ 13) : (TL.numL n).length ≤ 13 := TL.numL_len (by decide) h
theorem strI_len {n : Nat} (h : n < 10 ^ 13) : (strI (n : Int)).length ≤ 13 := by
  rw [TL.len_tl, tl_strI]
  exact num_len h
theorem strI_ok {n : Nat} (h : n < 10 ^ 13) : okS (strI (n : Int)) = true := by
  unfold okS
  rw [Bool.and_eq_true]
  exact ⟨strOk_of _, decide_eq_true (Nat.le_trans (strI_len h) (by decide))⟩
theorem ok_strI {n : Nat} (h : n < 10 ^ 13) : StrIOk (n : Int) := strIOk_of (by omega) (by
  have : (n : Int) < 10 ^ 13 := by
    have e : ((10 : Int) ^ 13) = ((10 ^ 13 : Nat) : Int) := by decide
    rw [e]
    exact Int.ofNat_lt.mpr h
  exact Int.lt_trans this (by decide))
theorem head_ok (n : Nat) : ∃ c r, TL.numL n = c :: r ∧ (c = 48 → r = []) := by
  have key : ∀ n : Nat, 1 ≤ n → ∃ c r, TL.numL n = c :: r ∧ c ≠ 48 := fun n => by
    induction n using Nat.strongRecOn with
    | _ n ih =>
      intro h
      by_cases q : n < 10
      · rw [TL.numL_lt q]
        exact ⟨48 + n, [], rfl, by omega⟩
      · obtain ⟨c, r, e, hc⟩ := ih (n / 10) (by omega) (by omega)
        rw [TL.numL_step (by omega), e]
        exact ⟨c, r ++ [48 + n % 10], rfl, hc⟩
  cases n with
  | zero => exact ⟨48, [], TL.numL_lt (by decide), fun _ => rfl⟩
  | succ n =>
    obtain ⟨c, r, e, hc⟩ := key (n + 1) (by omega)
    exact ⟨c, r, e, fun q => absurd q hc⟩
theorem digit_ok (c : Nat) (h0 : 48 ≤ c) (h1 : c ≤ 57) : F_is_digit ⟨#[c]⟩ = true := by
  have : c = 48 ∨ c = 49 ∨ c = 50 ∨ c = 51 ∨ c = 52 ∨ c = 53 ∨ c = 54 ∨ c = 55 ∨ c = 56 ∨ c = 57 := by omega
  rcases this with rfl | rfl | rfl | rfl | rfl | rfl | rfl | rfl | rfl | rfl <;> decide +kernel
theorem number_eq {n : Nat} (h : n < 10 ^ 13) : F_number_in (strI (n : Int)) = some (some (n : Int)) := by
  unfold F_number_in
  obtain ⟨c, r, e, hc⟩ := head_ok n
  have et : (strI (n : Int)).cps.toList = c :: r := (tl_strI n).trans e
  have ne : strI (n : Int) ≠ ("" : Str) := fun z => by
    rw [z] at et
    exact absurd (show ("" : Str).cps.toList = [] by decide +kernel) (by rw [et]; simp)
  have al : (((strI (n : Int)).cps.toList.map fun c => (⟨#[c]⟩ : Str)).map (fun (x_72 : Str) => (F_is_digit x_72))).all id = true := by
    rw [List.all_map, List.all_map, List.all_eq_true]
    intro d hd
    have hd2 : d ∈ TL.numL n := by rw [← tl_strI n]; exact hd
    have := TL.numL_digits n d hd2
    exact digit_ok d this.1 this.2
  rw [al, if_neg (by simp [ne])]
  have ea : atSi (strI (n : Int)) 0 = some ⟨#[c]⟩ := by
    unfold atSi
    rw [et, show atI (c :: r) 0 = some c from TP.atI_nat (k := 0) rfl]
    rfl
  rw [ea, bsome]
  have hl : (strI (n : Int)).length ≤ 13 := strI_len h
  have g : ((decide ((⟨#[c]⟩ : Str) = ("0" : Str))) && (decide ((1 : Int) < ((strI (n : Int)).length : Int)))) = false := by
    by_cases q : (⟨#[c]⟩ : Str) = ("0" : Str)
    · have c48 : c = 48 := by
        have z : (⟨#[c]⟩ : Str).cps.toList = ("0" : Str).cps.toList := congrArg (fun s : Str => s.cps.toList) q
        rw [show ("0" : Str).cps.toList = [48] by decide +kernel] at z
        exact (List.cons.inj z).1
      have hr := hc c48
      have hl1 : (strI (n : Int)).length = 1 := by rw [TL.len_tl]; show (strI (n : Int)).cps.toList.length = 1; rw [et, hr]; rfl
      rw [hl1]
      simp
    · rw [decide_eq_false q, Bool.false_and]
  rw [if_neg (by rw [g]; decide), show intText? (strI (n : Int)) = some (n : Int) from TL.int_num (Nat.le_trans (num_len h) (by decide)), bsome, if_pos (by omega)]
theorem empty_app (x : Str) : Str.empty ++ x = x := TL.ext_tl (by rw [TL.tl_append]; rfl)

/-! the reader of numbers -/
theorem rok {ε α γ : Type} {g : ε → Option γ} {k : α → Option γ} {a : α} : Res.thn g k (.ok a) = k a := by simp only [Res.thn]
theorem rer {ε α γ : Type} {g : ε → Option γ} {k : α → Option γ} {e : ε} : Res.thn g k (.er e) = g e := by simp only [Res.thn]
theorem bind3 {α β γ : Type} {o : Option α} {X : α → Option β} {f : β → Option γ} {y : β} {z : Option γ} (h : ∃ t, o = some t ∧ X t = some y) (k : f y = z) : (o.bind fun r => (X r).bind f) = z := by
  obtain ⟨t, e1, e2⟩ := h
  rw [e1, bsome, e2, bsome]
  exact k
theorem take_end {ns : List Int} {k : Nat} (h : k = ns.length) : F_NumberReader_take ⟨ns, k⟩ = some (.er .InvalidCode, ⟨ns, k⟩) := by
  unfold F_NumberReader_take
  rw [if_pos (by show decide ((k : Int) = (ns.length : Int)) = true; exact decide_eq_true (by omega))]
theorem take_at {ns r : List Int} {k : Nat} {x : Int} (h : ns.drop k = x :: r) : F_NumberReader_take ⟨ns, k⟩ = some (.ok x, ⟨ns, ((k + 1 : Nat) : Int)⟩) := by
  have hk : k < ns.length := by
    have l := congrArg List.length h
    rw [List.length_drop, List.length_cons] at l
    omega
  have hx : ns[k]? = some x := by
    have e := List.drop_eq_getElem_cons hk
    rw [h] at e
    rw [List.getElem?_eq_getElem hk, (List.cons.inj e).1]
  unfold F_NumberReader_take
  rw [if_neg (fun z => by have : (k : Int) = (ns.length : Int) := of_decide_eq_true z; omega)]
  dsimp only
  rw [atI_of (by omega), show ((k : Int) + 1 - 1).toNat = k by omega, hx, bsome, show ((k + 1 : Nat) : Int) = (k : Int) + 1 by omega]
theorem drop_next {ns r : List Int} {k : Nat} {x : Int} (h : ns.drop k = x :: r) : ns.drop (k + 1) = r := by
  rw [← List.drop_drop, h]
  rfl
theorem drop_more {ns p r : List Int} {k : Nat} (h : ns.drop k = p ++ r) : ns.drop (k + p.length) = r := by
  rw [← List.drop_drop, h, List.drop_left]
theorem size_at {ns r : List Int} {k n : Nat} (h : ns.drop k = (n : Int) :: r) : F_NumberReader_size ⟨ns, k⟩ = some (.ok (n : Int), ⟨ns, ((k + 1 : Nat) : Int)⟩) := by
  unfold F_NumberReader_size
  rw [take_at h, bsome]
  dsimp only
  rw [rok, if_neg (fun z => by have := of_decide_eq_true z; omega)]
theorem ints_loop {f : Int → NumberReader → Option (Res Exc Int × NumberReader)} (hf : ∀ x s, f x s = (F_NumberReader_take s).bind fun p => some (p.1, p.2)) {ns : List Int} : ∀ (l row r : List Int) (k : Nat), l.length = row.length → ns.drop k = row ++ r → mapR f l ⟨ns, k⟩ = some (.ok row, ⟨ns, ((k + row.length : Nat) : Int)⟩)
  | [], [], r, k, _, h => rfl
  | [], _ :: _, _, _, e, _ => nomatch e
  | _ :: _, [], _, _, e, _ => nomatch e
  | y :: l, x :: row, r, k, e, h => by
    unfold mapR
    rw [hf, take_at (r := row ++ r) h, bsome, bsome]
    dsimp only
    rw [ints_loop hf l row r (k + 1) (Nat.succ.inj e) (drop_next (r := row ++ r) h), bsome]
    dsimp only
    rw [List.length_cons, show k + 1 + row.length = k + (row.length + 1) by omega]
theorem rangeOk_nat {n : Nat} (h : n ≤ 16777216) : RangeOk 0 (n : Int) := rangeOk_of (by omega) (by omega) (by omega) (by omega)
theorem integers_at {ns row r : List Int} {k : Nat} (hl : row.length ≤ 16777216) (h : ns.drop k = (row.length : Int) :: (row ++ r)) : F_NumberReader_integers ⟨ns, k⟩ = some (.ok row, ⟨ns, ((k + (row.length + 1) : Nat) : Int)⟩) := by
  unfold F_NumberReader_integers
  rw [size_at h, bsome]
  dsimp only
  rw [rok, if_pos (rangeOk_nat hl), ints_loop (fun _ _ => rfl) _ row r (k + 1) (by rw [rangeZ_len]; omega) (drop_next h), bsome]
  dsimp only
  rw [rok, show k + 1 + row.length = k + (row.length + 1) by omega]

/-- the code of a list of numbers -/
def nc (r : List Int) : List Int := (r.length : Int) :: r
theorem nc_eq {r : List Int} (h : r.length ≤ 10000) : F_numbers_code r = some (nc r) := by
  unfold F_numbers_code
  rw [if_pos (by simp only [List.length_cons, List.length_nil]; omega)]
  rfl
def lcode (rs : List (List Int)) : List Int := (rs.length : Int) :: rs.flatMap nc
theorem flat_len {rs : List (List Int)} {m : Nat} (h : ∀ r ∈ rs, r.length ≤ m) : (rs.flatMap nc).length ≤ rs.length * (m + 1) := by
  induction rs with
  | nil => exact Nat.zero_le _
  | cons r rs ih =>
    rw [List.flatMap_cons, List.length_append, List.length_cons, Nat.succ_mul]
    have a := ih fun x hx => h x (List.mem_cons_of_mem _ hx)
    have b := h r List.mem_cons_self
    have c : (nc r).length = r.length + 1 := rfl
    omega
theorem lists_loop {f : Int → (Unit × NumberReader) → Option (Res Exc (List Int) × (Unit × NumberReader))} (hf : ∀ x s, f x s = (F_NumberReader_integers s.2).bind fun p => some (p.1, (s.1, p.2))) {ns : List Int} : ∀ (l : List Int) (rows : List (List Int)) (r : List Int) (k : Nat), l.length = rows.length → (∀ x ∈ rows, x.length ≤ 16777216) → ns.drop k = rows.flatMap nc ++ r → mapR f l ((), ⟨ns, k⟩) = some (.ok rows, ((), ⟨ns, ((k + (rows.flatMap nc).length : Nat) : Int)⟩))
  | [], [], r, k, _, _, h => rfl
  | [], _ :: _, _, _, e, _, _ => nomatch e
  | _ :: _, [], _, _, e, _, _ => nomatch e
  | y :: l, x :: rows, r, k, e, hl, h => by
    rw [List.flatMap_cons, List.append_assoc] at h
    unfold mapR
    rw [hf]
    dsimp only
    rw [integers_at (hl x List.mem_cons_self) (r := rows.flatMap nc ++ r) h, bsome, bsome]
    dsimp only
    have h2 : ns.drop (k + (x.length + 1)) = rows.flatMap nc ++ r := drop_more (p := nc x) h
    rw [lists_loop hf l rows r (k + (x.length + 1)) (Nat.succ.inj e) (fun z hz => hl z (List.mem_cons_of_mem _ hz)) h2, bsome]
    dsimp only
    rw [List.flatMap_cons, List.length_append, show (nc x).length = x.length + 1 from rfl, Nat.add_assoc]
theorem lists_in_code {rows : List (List Int)} (hl : rows.length ≤ 1000) (hr : ∀ x ∈ rows, x.length ≤ 1000) : F_lists_in (lcode rows) = some rows := by
  unfold F_lists_in F_NumberReader___init__
  rw [bsome, show (0 : Int) = ((0 : Nat) : Int) from rfl, size_at (ns := lcode rows) (k := 0) (n := rows.length) (r := rows.flatMap nc) rfl, bsome]
  dsimp only
  have hd : (lcode rows).drop (0 + 1) = rows.flatMap nc ++ [] := by rw [List.append_nil]; rfl
  have ln : (lcode rows).length = (rows.flatMap nc).length + 1 := rfl
  rw [rok, show ((0 : Nat) : Int) = 0 from rfl, if_pos (rangeOk_nat (by omega)), lists_loop (fun _ _ => rfl) _ rows [] (0 + 1) (by rw [rangeZ_len]; omega) (fun x hx => Nat.le_trans (hr x hx) (by decide)) hd, bsome]
  dsimp only
  rw [rok]
  unfold F_NumberReader_finish
  dsimp only
  rw [if_neg (fun z => by have := of_decide_eq_true z; omega), bsome, rok]
/-- what a log tells -/
theorem log_none {xs : List Int} (hx : xs.length ≤ 10000) (h : RB39 xs = []) : F_read_log xs = some none := by
  unfold F_read_log
  rw [F_read_eq hx, bsome, h, if_pos (decide_eq_true rfl)]
theorem log_bad {xs c : List Int} {rest : List (List Int)} (hx : xs.length ≤ 10000) (h : RB39 xs = c :: rest) (hc : F_lists_in c = some []) : F_read_log xs = some none := by
  unfold F_read_log
  rw [F_read_eq hx, bsome, h, if_neg (by simp), show atI (c :: rest) 0 = some c from TP.atI_nat (k := 0) rfl, bsome, hc, bsome, if_pos (decide_eq_true rfl)]
theorem log_good {xs b : List Int} {ins rest : List (List Int)} (hx : xs.length ≤ 10000) (h : RB39 xs = lcode (b :: ins) :: rest) (hl : ins.length < 1000) (hr : ∀ x ∈ b :: ins, x.length ≤ 1000) (l2 : rest.length ≤ 1000) : F_read_log xs = some (some (b, ins ++ rest)) := by
  unfold F_read_log
  rw [F_read_eq hx, bsome, h, if_neg (by simp), show atI (lcode (b :: ins) :: rest) 0 = some (lcode (b :: ins)) from TP.atI_nat (k := 0) rfl, bsome, lists_in_code (by rw [List.length_cons]; omega) hr, bsome, if_neg (by simp), show atI (b :: ins) 0 = some b from TP.atI_nat (k := 0) rfl, bsome]
  rw [cutA_from _ (by decide), cutA_from _ (by decide)]
  show (if ins.length + rest.length ≤ 16777216 then some (some (b, ins ++ rest)) else none) = _
  rw [if_pos (by omega)]
/-- where the blocks end -/
def endsF : Nat → List (List Int) → List Int
  | _, [] => []
  | a, r :: rs => ((a + (r.length + 2) : Nat) : Int) :: endsF (a + (r.length + 2)) rs
theorem endsF_late (c : Nat) : ∀ (rs : List (List Int)) (a : Nat), c < a → (endsF a rs).filter (fun e => decide (e ≤ (c : Int))) = []
  | [], _, _ => rfl
  | r :: rs, a, h => by
    unfold endsF
    rw [List.filter_cons_of_neg (by simp; omega)]
    exact endsF_late c rs _ (by omega)
theorem next39_cut (r l : List Int) {c : Nat} (h : c < r.length + 2) : next39 ((B39 r ++ l).take c) = none := by
  match c, h with
  | 0, _ => rfl
  | 1, _ => rfl
  | c + 2, h =>
    show next39 ((r.length : Int) :: S39 r :: (r ++ l).take c) = none
    rw [next39_cons, if_neg]
    intro z
    have := z.2.1
    rw [List.length_take] at this
    omega
theorem rb39_cut : ∀ (rs : List (List Int)) (f a c : Nat), rs.length ≤ f → a ≤ c → rb39 f ((rs.flatMap B39).take (c - a)) = rs.take ((endsF a rs).filter (fun e => decide (e ≤ (c : Int)))).length
  | [], f, a, c, _, _ => by
    show rb39 f (([] : List Int).take (c - a)) = _
    rw [List.take_nil, List.take_nil]
    cases f <;> rfl
  | r :: rs, 0, _, _, h, _ => by simp at h
  | r :: rs, f + 1, a, c, h, ha => by
    rw [List.flatMap_cons]
    unfold endsF
    show (match next39 ((B39 r ++ rs.flatMap B39).take (c - a)) with | none => [] | some p => p.1 :: rb39 f (((B39 r ++ rs.flatMap B39).take (c - a)).drop p.2)) = _
    by_cases q : c < a + (r.length + 2)
    · rw [next39_cut r _ (by omega)]
      rw [List.filter_cons_of_neg (by simp; omega), endsF_late c rs _ (by omega)]
      rfl
    · have hl : (B39 r).length = r.length + 2 := rfl
      have e : (B39 r ++ rs.flatMap B39).take (c - a) = B39 r ++ (rs.flatMap B39).take (c - (a + (r.length + 2))) := by
        rw [List.take_append, hl, List.take_of_length_le (by omega), show c - a - (r.length + 2) = c - (a + (r.length + 2)) by omega]
      rw [e, next39_block]
      dsimp only
      have e2 : (B39 r ++ (rs.flatMap B39).take (c - (a + (r.length + 2)))).drop (r.length + 2) = (rs.flatMap B39).take (c - (a + (r.length + 2))) := by rw [← hl, List.drop_left]
      rw [e2, rb39_cut rs f _ c (by rw [List.length_cons] at h; omega) (by omega), List.filter_cons_of_pos (by simp; omega), List.length_cons, List.take_succ_cons]
theorem flatB_len (rs : List (List Int)) : rs.length ≤ (rs.flatMap B39).length := by
  induction rs with
  | nil => exact Nat.le_refl _
  | cons r rs ih =>
    rw [List.flatMap_cons, List.length_append, List.length_cons]
    have : (B39 r).length = r.length + 2 := rfl
    omega
theorem RB39_cut (rs : List (List Int)) (c : Nat) : RB39 ((rs.flatMap B39).take c) = rs.take ((endsF 0 rs).filter (fun e => decide (e ≤ (c : Int)))).length := by
  unfold RB39
  rw [rb39_mono _ (rs.flatMap B39).length _ (Nat.le_refl _) (by rw [List.length_take]; omega)]
  have := rb39_cut rs (rs.flatMap B39).length 0 c (flatB_len rs) (Nat.zero_le _)
  rwa [Nat.sub_zero] at this
/-- behind blocks stands what begins none -/
theorem rb39_tail : ∀ (rs : List (List Int)) (t : List Int) (f : Nat), (rs.flatMap B39 ++ t).length ≤ f → next39 t = none → rb39 f (rs.flatMap B39 ++ t) = rs
  | [], t, f, _, h => by
    show rb39 f t = []
    cases f with
    | zero => rfl
    | succ f => show (match next39 t with | none => [] | some p => p.1 :: rb39 f (t.drop p.2)) = _; rw [h]
  | r :: rs, t, 0, h, _ => by
    rw [List.flatMap_cons] at h
    have : (B39 r).length = r.length + 2 := rfl
    simp only [List.length_append] at h
    omega
  | r :: rs, t, f + 1, h, hn => by
    rw [List.flatMap_cons, List.append_assoc] at h ⊢
    show (match next39 (B39 r ++ (rs.flatMap B39 ++ t)) with | none => [] | some p => p.1 :: rb39 f ((B39 r ++ (rs.flatMap B39 ++ t)).drop p.2)) = _
    have hl : (B39 r).length = r.length + 2 := rfl
    rw [next39_block]
    dsimp only
    rw [List.length_append] at h
    rw [← hl, List.drop_left, rb39_tail rs t f (by omega) hn]
theorem RB39_tail (rs : List (List Int)) (t : List Int) (h : next39 t = none) : RB39 (rs.flatMap B39 ++ t) = rs := rb39_tail rs t _ (Nat.le_refl _) h
theorem RB39_none {l : List Int} (h : next39 l = none) : RB39 l = [] := RB39_tail [] l h
theorem RB39_two (a b : List Int) : RB39 (B39 a ++ B39 b) = [a, b] := by
  have := RB39_blocks [a, b]
  simpa using this
/-! the draws -/
theorem numbers_ex (s : DS) : ∃ row s', F_law_numbers s = some (row, s') ∧ row.length ≤ 3 := by
  unfold F_law_numbers
  have a := nx_ge s (m := 4) (by decide)
  have b := nx_lt s (m := 4) (by decide)
  obtain ⟨l, s', e, hl, _⟩ := mapS_all (R := fun _ : Int => True) (f := fun (x_9 : Int) (s_10 : DS) => (some (((nxV s_10 (7 : Int)) - (2 : Int)), (nxS s_10 (7 : Int))) : Option (Int × DS))) (fun _ _ => ⟨_, _, rfl, trivial⟩) (rangeZ 0 (nxV s 4)) (nxS s 4)
  rw [rangeZ_len] at hl
  rw [if_pos (rangeOk_of (by omega) (by omega) (by omega) (by omega)), e, bsome]
  exact ⟨l, s', rfl, by omega⟩
theorem rows_ex (m : Int) (h0 : 0 ≤ m) (hm : m ≤ 10) (s : DS) : ∃ rows s', mapS (fun (x_323 : Int) (s_324 : DS) => ((F_law_numbers s_324).bind fun r_327 =>
  some (r_327.1, r_327.2) : Option ((List Int) × DS))) (rangeZ 0 m) s = some (rows, s') ∧ (rows.length : Int) = m ∧ ∀ r ∈ rows, r.length ≤ 3 := by
  obtain ⟨l, s', e, hl, hr⟩ := mapS_all (R := fun r : List Int => r.length ≤ 3) (f := fun (x_323 : Int) (s_324 : DS) => ((F_law_numbers s_324).bind fun r_327 =>
  some (r_327.1, r_327.2) : Option ((List Int) × DS))) (fun _ s => by
    obtain ⟨row, s', e, h⟩ := numbers_ex s
    rw [e, bsome]
    exact ⟨row, s', rfl, h⟩) (rangeZ 0 m) s
  rw [rangeZ_len] at hl
  exact ⟨l, s', e, by omega, hr⟩
theorem list_code_eq {rows : List (List Int)} (hl : rows.length ≤ 100) (hr : ∀ x ∈ rows, x.length ≤ 3) : F_list_code (rows.map nc) = some (lcode rows) := by
  unfold F_list_code
  have e : ((rows.map nc).flatMap fun (x_308 : (List Int)) => x_308.map (fun (y_311 : Int) => y_311)) = rows.flatMap nc := by
    simp only [List.flatMap_map, List.map_id']
  have l := flat_len hr
  rw [e, List.length_map]
  have g1 : (rows.flatMap nc).length ≤ 16777216 := by omega
  rw [if_pos g1, if_pos (by simp only [List.length_cons, List.length_nil]; omega)]
  rfl
theorem flatB_le {rs : List (List Int)} {m : Nat} (h : ∀ r ∈ rs, r.length ≤ m) : (rs.flatMap B39).length ≤ rs.length * (m + 2) := by
  induction rs with
  | nil => exact Nat.zero_le _
  | cons r rs ih =>
    rw [List.flatMap_cons, List.length_append, List.length_cons, Nat.succ_mul]
    have a := ih fun x hx => h x (List.mem_cons_of_mem _ hx)
    have b := h r List.mem_cons_self
    have c : (B39 r).length = r.length + 2 := rfl
    omega
theorem whole_turn (r w es : List Int) (h : r.length ≤ 1000) (h1 : w.length ≤ 10000) (h2 : es.length ≤ 10000) : L_law_1 r (w, es) = some (w ++ B39 r, es ++ [((w ++ B39 r).length : Int)]) := by
  have hl : (B39 r).length = r.length + 2 := rfl
  unfold L_law_1
  rw [F_block_eq (by omega), bsome]
  dsimp only
  rw [if_pos (by omega), if_pos (by omega)]
theorem whole_loop (rows : List (List Int)) (hr : ∀ x ∈ rows, x.length ≤ 3) (w : List Int) (es : List Int) (l : w.length ≤ 1000) (l2 : es.length ≤ 1000) (l3 : rows.length ≤ 100) : forF L_law_1 rows (w, es) = some (w ++ rows.flatMap B39, es ++ endsF w.length rows) := by
  have key : ∀ (rows : List (List Int)) (w es : List Int), (∀ x ∈ rows, x.length ≤ 3) → w.length + rows.length * 5 ≤ 2000 → es.length + rows.length ≤ 2000 → forF L_law_1 rows (w, es) = some (w ++ rows.flatMap B39, es ++ endsF w.length rows) := fun rows => by
    induction rows with
    | nil =>
      intro w es _ _ _
      show some _ = some _
      rw [List.flatMap_nil, List.append_nil, show endsF w.length [] = [] from rfl, List.append_nil]
    | cons r rows ih =>
      intro w es hr h1 h2
      rw [List.length_cons] at h1 h2
      have b := hr r List.mem_cons_self
      have hl : (B39 r).length = r.length + 2 := rfl
      show (L_law_1 r (w, es)).bind _ = _
      rw [whole_turn r w es (by omega) (by omega) (by omega), bsome]
      rw [ih (w ++ B39 r) _ (fun x hx => hr x (List.mem_cons_of_mem _ hx)) (by rw [List.length_append]; omega) (by rw [List.length_append]; simp only [List.length_cons, List.length_nil]; omega)]
      rw [List.flatMap_cons, List.append_assoc, List.append_assoc, List.length_append, hl]
      rfl
  exact key rows w es hr (by omega) (by omega)
/-! names -/
theorem log_starts (x : Str) : Txt.startswith (("log " : Str) ++ x) ("log " : Str) = true := by
  have s : Builtin.Str.subAt (("log " : Str) ++ x) ("log " : Str) 0 = true := by
    rw [StrLaws.subAt_eq, PySem.Str.cps_append, Array.toList_append, List.drop_zero, show ("log " : Str).length = ("log " : Str).cps.toList.length from Array.length_toList.symm, List.take_left]
    exact beq_self_eq_true _
  unfold Txt.startswith
  rw [s, Bool.and_true]
  exact decide_eq_true (by rw [str_app_len]; omega)
theorem log_rest (x : Str) : cutS (("log " : Str) ++ x) (some (("log " : Str).length : Int)) none = x := by
  refine TL.ext_tl ?_
  unfold cutS
  rw [HT.sIx_nat, HT.sIx_none, str_app_len, Nat.min_eq_left (by omega)]
  show (List.drop _ (("log " : Str) ++ x).cps.toList).take _ = _
  rw [PySem.Str.cps_append, Array.toList_append, show ("log " : Str).length = ("log " : Str).cps.toList.length from Array.length_toList.symm, List.drop_left, Nat.add_sub_cancel_left]
  exact List.take_of_length_le (by rw [Array.length_toList]; exact Nat.le_refl _)
theorem log_name_eq {n : Nat} (h : n < 10 ^ 13) : F_log_name (n : Int) = some (("log " : Str) ++ strI (n : Int)) := by
  unfold F_log_name
  have h2 := strI_len h
  have l1 : ("log " : Str).length = 4 := by decide +kernel
  have l0 : Str.empty.length = 0 := by decide +kernel
  rw [if_pos (by omega), if_pos (ok_strI h), empty_app, if_pos (by omega)]
theorem log_number_eq {n : Nat} (h : n < 10 ^ 13) (h1 : 1 ≤ n) : F_log_number (("log " : Str) ++ strI (n : Int)) = some (some (n : Int)) := by
  unfold F_log_number
  rw [log_starts, if_neg (by decide), log_rest, number_eq h, bsome]
  rw [decide_eq_false (fun z => by have := Option.some.inj z; omega), if_neg (by decide)]
def WRONG40 : List Str := [("log 0" : Str), ("log 01" : Str), ("log" : Str), ("log " : Str), ("log 1a" : Str), ("log -1" : Str), ("Log 1" : Str), ("log  1" : Str), ("segment 1 0" : Str), ("1" : Str), ("" : Str)]
theorem wrong40 : ∀ x ∈ WRONG40, F_log_number x = some none := by decide +kernel
theorem names_eq (s : DS) : ∃ s', F_law_names s = some (true, s') := by
  unfold F_law_names
  have a := nx_ge s (m := 2) (by decide)
  have b := nx_lt s (m := 2) (by decide)
  obtain ⟨i, e, hm⟩ := atI_lit (xs := [(9 : Int), ((10 : Int) ^ (12 : Int).toNat)]) a b
  have e10 : ((10 : Int) ^ (12 : Int).toNat) = 1000000000000 := by decide
  have hi : 0 < i ∧ i ≤ 1000000000000 := by
    simp only [List.mem_cons, List.not_mem_nil, or_false, e10] at hm
    omega
  have c := nx_ge (nxS s 2) (m := i) (by omega)
  have d := nx_lt (nxS s 2) (m := i) (by omega)
  obtain ⟨n, hn⟩ := Int.eq_ofNat_of_zero_le (show 0 ≤ 1 + nxV (nxS s 2) i by omega)
  have hn1 : 1 ≤ n := by omega
  have hn2 : n < 10 ^ 13 := by omega
  have l1 : ("log " : Str).length = 4 := by decide +kernel
  have h2 := strI_len hn2
  rw [e, bsome, if_pos (nxOk_of (by omega) (by omega)), hn, bsome, log_name_eq hn2, bsome, if_pos (ok_strI hn2), if_pos (by omega), if_neg (by simp), if_pos (ok_strI hn2), if_pos (by omega), log_number_eq hn2 hn1, bsome, show (!decide (some (n : Int) = some (n : Int))) = false by simp, bsome, if_neg (by decide)]
  obtain ⟨_, e1, _⟩ := forS_mem (f := L_law_names_1 s i) (I := fun _ => True) (xs := WRONG40) (b := ()) trivial (fun x hx _ _ => by
    refine ⟨(), ?_, trivial⟩
    unfold L_law_names_1
    rw [wrong40 x hx, bsome, if_neg (by simp)])
  have hW : ([("log 0" : Str), ("log 01" : Str), ("log" : Str), ("log " : Str), ("log 1a" : Str), ("log -1" : Str), ("Log 1" : Str), ("log  1" : Str), ("segment 1 0" : Str), ("1" : Str), ("" : Str)] : List Str) = WRONG40 := rfl
  rw [hW, e1, bsome, thn_go]
  exact ⟨_, rfl⟩
def BADL : List (List Int) := [([(-(1 : Int))] : List Int), B39 [0], B39 [], B39 [1], B39 [1, 2, 5], B39 [1, 0, 7], ([(1 : Int), (1 : Int), (1 : Int)] : List Int)]
theorem bad_none {b : List Int} (hb : b.length ≤ 1000) : ∀ x ∈ BADL, F_read_log (x ++ B39 b) = some none := by
  have lb : (B39 b).length = b.length + 2 := rfl
  intro x hx
  unfold BADL at hx
  simp only [List.mem_cons, List.not_mem_nil, or_false] at hx
  rcases hx with rfl | rfl | rfl | rfl | rfl | rfl | rfl
  · refine log_none (by rw [List.length_append]; simp only [List.length_cons, List.length_nil]; omega) (RB39_none ?_)
    show next39 ((-1) :: (b.length : Int) :: S39 b :: b) = none
    rw [next39_cons, if_neg (fun z => by omega)]
  · exact log_bad (by rw [List.length_append, lb]; show 3 + _ ≤ _; omega) (RB39_two _ _) (by decide +kernel)
  · exact log_bad (by rw [List.length_append, lb]; show 2 + _ ≤ _; omega) (RB39_two _ _) (by decide +kernel)
  · exact log_bad (by rw [List.length_append, lb]; show 3 + _ ≤ _; omega) (RB39_two _ _) (by decide +kernel)
  · exact log_bad (by rw [List.length_append, lb]; show 5 + _ ≤ _; omega) (RB39_two _ _) (by decide +kernel)
  · exact log_bad (by rw [List.length_append, lb]; show 5 + _ ≤ _; omega) (RB39_two _ _) (by decide +kernel)
  · refine log_none (by rw [List.length_append]; simp only [List.length_cons, List.length_nil]; omega) (RB39_none ?_)
    show next39 (1 :: 1 :: 1 :: B39 b) = none
    rw [next39_cons, if_neg (fun z => by have := z.2.2; rw [show (1 :: B39 b).take (1 : Int).toNat = [1] from rfl] at this; exact absurd this (by decide +kernel))]
theorem told_ok (b : List Int) (ins aft : List (List Int)) (h : ins.length + aft.length ≤ 16777216) : (if (some (b, ins ++ aft)).isNone = true then some true else ((some (b, ins ++ aft)).bind fun u_423 =>
  (if (!decide (u_423.1 = b)) = true then some true else ((some (b, ins ++ aft)).bind fun u_427 =>
  if ins.length + aft.length ≤ 16777216 then
  some (!decide (u_427.2 = (ins ++ aft))) else none)).bind fun b_431 =>
  some b_431)) = some false := by
  rw [if_neg (by simp), bsome, if_neg (by simp), bsome, if_pos h, bsome]
  simp
theorem law_true (ns : List Int) (h : ns.length ≤ 63) : F_law ns = some true := by
  unfold F_law
  obtain ⟨base, s0, e0, l0⟩ := numbers_ex (DS.mk ns 0 0)
  rw [e0, bsome]
  dsimp only
  have a1 := nx_ge s0 (m := 3) (by decide)
  have b1 := nx_lt s0 (m := 3) (by decide)
  obtain ⟨ins, s1, e1, l1, r1⟩ := rows_ex (nxV s0 3) a1 (by omega) (nxS s0 3)
  rw [if_pos (rangeOk_of (by omega) (by omega) (by omega) (by omega)), e1, bsome]
  dsimp only
  have a2 := nx_ge s1 (m := 4) (by decide)
  have b2 := nx_lt s1 (m := 4) (by decide)
  obtain ⟨aft, s2, e2, l2, r2⟩ := rows_ex (nxV s1 4) a2 (by omega) (nxS s1 4)
  rw [if_pos (rangeOk_of (by omega) (by omega) (by omega) (by omega)), e2, bsome]
  dsimp only
  have hi : ins.length ≤ 2 := by omega
  have ha : aft.length ≤ 3 := by omega
  have hb : ∀ x ∈ base :: ins, x.length ≤ 3 := fun x hx => (List.mem_cons.mp hx).elim (fun z => z ▸ l0) (r1 x)
  have hb2 : ∀ x ∈ base :: ins, x.length ≤ 1000 := fun x hx => Nat.le_trans (hb x hx) (by decide)
  rw [if_pos (by simp only [List.length_cons, List.length_nil]; omega), show ([base] : List (List Int)) ++ ins = base :: ins from rfl]
  rw [mapO_eq (g := nc) (fun x hx => by rw [nc_eq (Nat.le_trans (hb x hx) (by decide)), bsome]), bsome, list_code_eq (by rw [List.length_cons]; omega) hb, bsome]
  have lc : (lcode (base :: ins)).length ≤ 13 := by
    have := flat_len hb
    rw [List.length_cons] at this
    have e : (lcode (base :: ins)).length = ((base :: ins).flatMap nc).length + 1 := rfl
    omega
  rw [F_block_eq (by omega), bsome, bsome]
  have lb : (B39 (lcode (base :: ins))).length = (lcode (base :: ins)).length + 2 := rfl
  rw [whole_loop aft r2 _ _ (by omega) (by simp) (by omega), bsome]
  dsimp only
  have hw : B39 (lcode (base :: ins)) ++ aft.flatMap B39 = (lcode (base :: ins) :: aft).flatMap B39 := rfl
  have he : [((B39 (lcode (base :: ins))).length : Int)] ++ endsF (B39 (lcode (base :: ins))).length aft = endsF 0 (lcode (base :: ins) :: aft) := by
    unfold endsF
    rw [lb, Nat.zero_add]
    cases aft <;> rfl
  have lw : (B39 (lcode (base :: ins)) ++ aft.flatMap B39).length ≤ 30 := by
    have := flatB_le r2
    rw [List.length_append]
    omega
  rw [he]
  rw [log_good (xs := B39 (lcode (base :: ins)) ++ aft.flatMap B39) (b := base) (ins := ins) (rest := aft) (by omega) (by rw [hw, RB39_blocks]) (by omega) hb2 (by omega), bsome, told_ok _ _ _ (by omega), bsome, if_neg (by decide)]
  have hk : NxOk (((B39 (lcode (base :: ins)) ++ aft.flatMap B39).length : Int) + 1) := nxOk_of (by omega) (by omega)
  rw [if_pos hk, bsome]
  have a3 := nx_ge s2 hk.1
  obtain ⟨c, hc⟩ := Int.eq_ofNat_of_zero_le a3
  have hcut := RB39_cut (lcode (base :: ins) :: aft) c
  rw [← hw] at hcut
  generalize hS : nxS s2 (((B39 (lcode (base :: ins)) ++ aft.flatMap B39).length : Int) + 1) = s3
  rw [hc, cutA_none _ (by omega), Int.toNat_natCast]
  have lt : ((B39 (lcode (base :: ins)) ++ aft.flatMap B39).take c).length ≤ 10000 := by rw [List.length_take]; omega
  refine bind3 (y := Flow.go ()) ?_ ?_
  · by_cases hcc : c < (B39 (lcode (base :: ins))).length
    · have hf : (endsF 0 (lcode (base :: ins) :: aft)).filter (fun e => decide (e ≤ (c : Int))) = [] := by
        unfold endsF
        rw [Nat.zero_add, ← lb, List.filter_cons_of_neg (by simp; omega)]
        exact endsF_late c aft _ hcc
      rw [hf] at hcut
      refine ⟨none, log_none lt hcut, ?_⟩
      rw [if_pos (decide_eq_true (by omega)), if_neg (by simp)]
    · obtain ⟨n, hn⟩ : ∃ n, ((endsF 0 (lcode (base :: ins) :: aft)).filter (fun e => decide (e ≤ (c : Int)))).length = n + 1 := by
        unfold endsF
        rw [Nat.zero_add, ← lb, List.filter_cons_of_pos (by simp; omega), List.length_cons]
        exact ⟨_, rfl⟩
      rw [hn, List.take_succ_cons] at hcut
      refine ⟨_, log_good lt hcut (by omega) hb2 (by rw [List.length_take]; omega), ?_⟩
      rw [if_neg (fun z => by have := of_decide_eq_true z; omega), hn, bsome, cutA_none _ (by omega), show (((n + 1 : Nat) : Int) - 1).toNat = n by omega]
      rw [told_ok _ _ _ (by rw [List.length_take]; omega), bsome, if_neg (by decide)]
  · rw [thn_go]
    have a4 := nx_ge s3 (m := 3) (by decide)
    have b4 := nx_lt s3 (m := 3) (by decide)
    obtain ⟨t, et, ht⟩ := atI_lit (xs := ([([(3 : Int)] : List Int), ([(-(1 : Int))] : List Int), ([(2 : Int), (0 : Int)] : List Int)] : List (List Int))) a4 b4
    have htl : next39 t = none ∧ t.length ≤ 2 := by
      simp only [List.mem_cons, List.not_mem_nil, or_false] at ht
      rcases ht with rfl | rfl | rfl <;> exact ⟨by decide +kernel, by decide⟩
    rw [et, bsome, if_pos (by omega), log_good (xs := B39 (lcode (base :: ins)) ++ aft.flatMap B39 ++ t) (b := base) (ins := ins) (rest := aft) (by rw [List.length_append]; omega) (by rw [hw, RB39_tail _ _ htl.1]) (by omega) hb2 (by omega), bsome, told_ok _ _ _ (by omega), bsome, if_neg (by decide)]
    have a5 := nx_ge (nxS (nxS s3 3) 7) (m := 7) (by decide)
    rw [F_block_eq (by decide), bsome, F_block_eq (by decide), bsome, F_block_eq (by decide), bsome, F_block_eq (by decide), bsome, F_block_eq (by decide), bsome, bsome]
    have a5 := nx_ge (nxS s3 3) (m := 7) (by decide)
    have b5 := nx_lt (nxS s3 3) (m := 7) (by decide)
    obtain ⟨u, eu, hu⟩ := atI_lit (xs := BADL) a5 b5
    have lu : u.length ≤ 5 := by
      unfold BADL at hu
      simp only [List.mem_cons, List.not_mem_nil, or_false] at hu
      rcases hu with rfl | rfl | rfl | rfl | rfl | rfl | rfl <;> decide
    have lbb : (B39 base).length = base.length + 2 := rfl
    rw [show ([([(-(1 : Int))] : List Int), B39 [0], B39 [], B39 [1], B39 [1, 2, 5], B39 [1, 0, 7], ([(1 : Int), (1 : Int), (1 : Int)] : List Int)] : List (List Int)) = BADL from rfl, eu, bsome, F_block_eq (by omega), bsome, if_pos (by omega), bad_none (by omega) u hu, bsome, if_neg (by simp)]
    obtain ⟨s', e'⟩ := names_eq (nxS (nxS s3 3) 7)
    rw [e', bsome]

def ff_NumberReader (v0 v1 : V) : List (Str × V) := putF "at" v1 (putF "numbers" v0 [])
theorem lk_NumberReader_numbers {v0 v1 : V} : (ff_NumberReader v0 v1).lookup ("numbers" : Str) = some v0 := by
  unfold ff_NumberReader
  rw [lookup_putF, if_neg (by decide +kernel), lookup_putF, if_pos rfl]
theorem lk_NumberReader_at {v0 v1 : V} : (ff_NumberReader v0 v1).lookup ("at" : Str) = some v1 := by
  unfold ff_NumberReader
  rw [lookup_putF, if_pos rfl]
theorem no_NumberReader {v0 v1 : V} {m : Str} (h0 : ¬ m = "numbers" := by decide +kernel) (h1 : ¬ m = "at" := by decide +kernel) : (ff_NumberReader v0 v1).lookup m = none := by
  unfold ff_NumberReader
  rw [lookup_putF, if_neg h1, lookup_putF, if_neg h0]
  rfl
theorem putF_le {f : Str} {v : V} {fs : List (Str × V)} {n : Nat} (h : fs.length ≤ n) : (putF f v fs).length ≤ n + 1 := by
  induction fs generalizing n with
  | nil => show 1 ≤ n + 1; omega
  | cons x r ih =>
    obtain ⟨g, y⟩ := x
    show (if g = f then (g, v) :: r else (g, y) :: putF f v r).length ≤ n + 1
    rw [List.length_cons] at h
    by_cases e : g = f
    · rw [if_pos e, List.length_cons]; omega
    · rw [if_neg e, List.length_cons]
      have := ih (n := r.length) (Nat.le_refl _)
      omega
/-! what the top has made -/
set_option maxHeartbeats 0 in
structure Txt (K : PySem.W.Frag) (mg : Str → Option Value) where
  f_law_row : Addr
  d_law_row : FuncData
  F_law_row : Fun K "_law_row" "_law_row" s_law_row f_law_row d_law_row
  b_law_row : Binds K d_law_row ["script", "k"] []
  g_law_row : mg "_law_row" = some (.ref f_law_row)
  f_law_next : Addr
  d_law_next : FuncData
  F_law_next : Fun K "_law_next" "_law_next" s_law_next f_law_next d_law_next
  b_law_next : Binds K d_law_next ["state", "many"] []
  g_law_next : mg "_law_next" = some (.ref f_law_next)
  f_law_numbers : Addr
  d_law_numbers : FuncData
  F_law_numbers : Fun K "_law_numbers" "_law_numbers" s_law_numbers f_law_numbers d_law_numbers
  b_law_numbers : Binds K d_law_numbers ["state"] []
  g_law_numbers : mg "_law_numbers" = some (.ref f_law_numbers)
  f_remainder_of : Addr
  d_remainder_of : FuncData
  F_remainder_of : Fun K "remainder_of" "remainder_of" s_remainder_of f_remainder_of d_remainder_of
  b_remainder_of : Binds K d_remainder_of ["row", "factor"] []
  g_remainder_of : mg "remainder_of" = some (.ref f_remainder_of)
  f_sum_of : Addr
  d_sum_of : FuncData
  F_sum_of : Fun K "sum_of" "sum_of" s_sum_of f_sum_of d_sum_of
  b_sum_of : Binds K d_sum_of ["numbers"] []
  g_sum_of : mg "sum_of" = some (.ref f_sum_of)
  f_block_of : Addr
  d_block_of : FuncData
  F_block_of : Fun K "block_of" "block_of" s_block_of f_block_of d_block_of
  b_block_of : Binds K d_block_of ["numbers"] []
  g_block_of : mg "block_of" = some (.ref f_block_of)
  f_begins_block : Addr
  d_begins_block : FuncData
  F_begins_block : Fun K "begins_block" "begins_block" s_begins_block f_begins_block d_begins_block
  b_begins_block : Binds K d_begins_block ["numbers", "at"] []
  g_begins_block : mg "begins_block" = some (.ref f_begins_block)
  f_read_blocks : Addr
  d_read_blocks : FuncData
  F_read_blocks : Fun K "read_blocks" "read_blocks" s_read_blocks f_read_blocks d_read_blocks
  b_read_blocks : Binds K d_read_blocks ["numbers"] []
  g_read_blocks : mg "read_blocks" = some (.ref f_read_blocks)
  f_NumberReader___init__ : Addr
  d_NumberReader___init__ : FuncData
  F_NumberReader___init__ : Fun K "__init__" "NumberReader.__init__" s_NumberReader___init__ f_NumberReader___init__ d_NumberReader___init__
  b_NumberReader___init__ : Binds K d_NumberReader___init__ ["self", "numbers"] []
  f_NumberReader_finish : Addr
  d_NumberReader_finish : FuncData
  F_NumberReader_finish : Fun K "finish" "NumberReader.finish" s_NumberReader_finish f_NumberReader_finish d_NumberReader_finish
  b_NumberReader_finish : Binds K d_NumberReader_finish ["self"] []
  f_NumberReader_take : Addr
  d_NumberReader_take : FuncData
  F_NumberReader_take : Fun K "take" "NumberReader.take" s_NumberReader_take f_NumberReader_take d_NumberReader_take
  b_NumberReader_take : Binds K d_NumberReader_take ["self"] []
  f_NumberReader_size : Addr
  d_NumberReader_size : FuncData
  F_NumberReader_size : Fun K "size" "NumberReader.size" s_NumberReader_size f_NumberReader_size d_NumberReader_size
  b_NumberReader_size : Binds K d_NumberReader_size ["self"] []
  f_NumberReader_integers : Addr
  d_NumberReader_integers : FuncData
  F_NumberReader_integers : Fun K "integers" "NumberReader.integers" s_NumberReader_integers f_NumberReader_integers d_NumberReader_integers
  b_NumberReader_integers : Binds K d_NumberReader_integers ["self"] []
  f_lists_in : Addr
  d_lists_in : FuncData
  F_lists_in : Fun K "lists_in" "lists_in" s_lists_in f_lists_in d_lists_in
  b_lists_in : Binds K d_lists_in ["numbers"] []
  g_lists_in : mg "lists_in" = some (.ref f_lists_in)
  f_read_log : Addr
  d_read_log : FuncData
  F_read_log : Fun K "read_log" "read_log" s_read_log f_read_log d_read_log
  b_read_log : Binds K d_read_log ["numbers"] []
  g_read_log : mg "read_log" = some (.ref f_read_log)
  f_log_name : Addr
  d_log_name : FuncData
  F_log_name : Fun K "log_name" "log_name" s_log_name f_log_name d_log_name
  b_log_name : Binds K d_log_name ["number"] []
  g_log_name : mg "log_name" = some (.ref f_log_name)
  f_is_digit : Addr
  d_is_digit : FuncData
  F_is_digit : Fun K "is_digit" "is_digit" s_is_digit f_is_digit d_is_digit
  b_is_digit : Binds K d_is_digit ["char"] []
  g_is_digit : mg "is_digit" = some (.ref f_is_digit)
  f_number_in : Addr
  d_number_in : FuncData
  F_number_in : Fun K "number_in" "number_in" s_number_in f_number_in d_number_in
  b_number_in : Binds K d_number_in ["text"] []
  g_number_in : mg "number_in" = some (.ref f_number_in)
  f_log_number : Addr
  d_log_number : FuncData
  F_log_number : Fun K "log_number" "log_number" s_log_number f_log_number d_log_number
  b_log_number : Binds K d_log_number ["name"] []
  g_log_number : mg "log_number" = some (.ref f_log_number)
  f_law_names : Addr
  d_law_names : FuncData
  F_law_names : Fun K "_law_names" "_law_names" s_law_names f_law_names d_law_names
  b_law_names : Binds K d_law_names ["state"] []
  g_law_names : mg "_law_names" = some (.ref f_law_names)
  f_list_code : Addr
  d_list_code : FuncData
  F_list_code : Fun K "list_code" "list_code" s_list_code f_list_code d_list_code
  b_list_code : Binds K d_list_code ["codes"] []
  g_list_code : mg "list_code" = some (.ref f_list_code)
  f_numbers_code : Addr
  d_numbers_code : FuncData
  F_numbers_code : Fun K "numbers_code" "numbers_code" s_numbers_code f_numbers_code d_numbers_code
  b_numbers_code : Binds K d_numbers_code ["numbers"] []
  g_numbers_code : mg "numbers_code" = some (.ref f_numbers_code)
  f_law : Addr
  d_law : FuncData
  F_law : Fun K "law" "law" s_law f_law d_law
  b_law : Binds K d_law ["script"] []
  g_law : mg "law" = some (.ref f_law)
  c_InvalidCode : Addr
  mc_InvalidCode : mg "InvalidCode" = some (.ref c_InvalidCode)
  kp_InvalidCode : PySem.W.keepIn K (.ref c_InvalidCode) = true
  x_InvalidCode : PySem.W.excIn K c_InvalidCode [.type "ValueError", .type "Exception", .type "BaseException", .type "object"] "ValueError.__new__" = true
  xb_InvalidCode : PySem.W.subIn K (.ref c_InvalidCode) (.type "BaseException") = some true
  xt_InvalidCode : PySem.W.typeIn K (.ref c_InvalidCode) = some (.type "type")
  xm_InvalidCode_InvalidCode : PySem.W.exmOne K (.ref c_InvalidCode) (.ref c_InvalidCode) = some true
  c_NumberReader : Addr
  cl_NumberReader : Cls K c_NumberReader
  mc_NumberReader : mg "NumberReader" = some (.ref c_NumberReader)
  n_NumberReader_numbers : NoAttr K c_NumberReader "numbers"
  n_NumberReader_at : NoAttr K c_NumberReader "at"
  mk_NumberReader : Mk K c_NumberReader f_NumberReader___init__
  me_NumberReader_take : Meth K c_NumberReader "take" f_NumberReader_take
  me_NumberReader_size : Meth K c_NumberReader "size" f_NumberReader_size
  me_NumberReader_integers : Meth K c_NumberReader "integers" f_NumberReader_integers
  me_NumberReader_finish : Meth K c_NumberReader "finish" f_NumberReader_finish
  m_FACTOR : ∃ t, mg "FACTOR" = some (.int 257 t)
  m_LOG_WORD : ∃ t, mg "LOG_WORD" = some (.str "log " t)
  m_MODULUS : ∃ t, mg "MODULUS" = some (.int 4294967291 t)
  m_all : mg "all" = none
  m_int : mg "int" = none
  m_len : mg "len" = none
  m_list : mg "list" = none
  m_range : mg "range" = none
  m_str : mg "str" = none
  m_tuple : mg "tuple" = none
section
variable {P : Program} {w : World} {K : PySem.W.Frag} {mg : Str → Option Value} {base : Heap}
theorem lf_NumberReader {v0 v1 : V} : ff_NumberReader v0 v1 = [(("numbers" : Str), v0), (("at" : Str), v1)] := by
  unfold ff_NumberReader
  rw [putF_nil]
  rw [putF_ne (by decide +kernel), putF_nil]
theorem lenf_NumberReader {v0 v1 : V} : (ff_NumberReader v0 v1).length ≤ 2 := by
  rw [lf_NumberReader]
  exact Nat.le_refl _
def mu_NumberReader (T : Txt K mg) (p : Addr) : Mu NumberReader where
  fp := [p]
  m := fun x Z H => Z p = none ∧ (∃ dx w0 w1, H p = some (.ins T.c_NumberReader dx (ff_NumberReader w0 w1)) ∧ ((yTup K yInt)).r Z w0 x.numbers ∧ (yInt).r Z w1 x.«at»)
  al := fun ⟨z, ⟨dx, w0, w1, h, _⟩⟩ a ha => by
    rw [List.mem_singleton] at ha; subst ha; exact ⟨some_ne h, z⟩
  loc := fun sz hk hn ⟨z, ⟨dx, w0, w1, h, h0, h1⟩⟩ => ⟨hn p List.mem_cons_self (some_ne h) z, ⟨dx, w0, w1, hk p List.mem_cons_self _ h, ((yTup K yInt)).mono sz h0, (yInt).mono sz h1⟩⟩
theorem mf_NumberReader_numbers (T : Txt K mg) {p : Addr} : MFld (mu_NumberReader T p) p T.c_NumberReader "numbers" (yTup K yInt) (fun x => x.numbers) := fun x Z H ⟨z, ⟨dx, w0, w1, h, h0, h1⟩⟩ => ⟨dx, _, w0, h, lk_NumberReader_numbers, h0⟩
theorem pf_NumberReader_numbers {w0 w1 v : V} : putF "numbers" v (ff_NumberReader w0 w1) = ff_NumberReader v w1 := by
  rw [lf_NumberReader, lf_NumberReader]
  rw [putF_eq]
theorem ms_NumberReader_numbers (T : Txt K mg) {p : Addr} : MSet (mu_NumberReader T p) p T.c_NumberReader "numbers" (yTup K yInt) (fun x y => { x with numbers := y }) := fun x Z H ⟨z, ⟨dx, w0, w1, h, h0, h1⟩⟩ => ⟨List.mem_cons_self, z, dx, _, h, Nat.lt_of_le_of_lt (lenf_NumberReader) (by decide), fun w y r => ⟨z, ⟨dx, w, w1, by rw [upd_same, pf_NumberReader_numbers], r, h1⟩⟩⟩
theorem mf_NumberReader_at (T : Txt K mg) {p : Addr} : MFld (mu_NumberReader T p) p T.c_NumberReader "at" yInt (fun x => x.«at») := fun x Z H ⟨z, ⟨dx, w0, w1, h, h0, h1⟩⟩ => ⟨dx, _, w1, h, lk_NumberReader_at, h1⟩
theorem pf_NumberReader_at {w0 w1 v : V} : putF "at" v (ff_NumberReader w0 w1) = ff_NumberReader w0 v := by
  rw [lf_NumberReader, lf_NumberReader]
  rw [putF_ne (by decide +kernel), putF_eq]
theorem ms_NumberReader_at (T : Txt K mg) {p : Addr} : MSet (mu_NumberReader T p) p T.c_NumberReader "at" yInt (fun x y => { x with «at» := y }) := fun x Z H ⟨z, ⟨dx, w0, w1, h, h0, h1⟩⟩ => ⟨List.mem_cons_self, z, dx, _, h, Nat.lt_of_le_of_lt (lenf_NumberReader) (by decide), fun w y r => ⟨z, ⟨dx, w0, w, by rw [upd_same, pf_NumberReader_at], h0, r⟩⟩⟩
theorem mo_NumberReader (T : Txt K mg) {p : Addr} {m : Str} (hh : ¬ m = "numbers" ∧ ¬ m = "at") : MObj (mu_NumberReader T p) p T.c_NumberReader m := fun x Z H ⟨z, ⟨dx, w0, w1, h, h0, h1⟩⟩ => ⟨dx, _, h, no_NumberReader (hh.1) (hh.2)⟩

def exv (T : Txt K mg) : Exc → Value
  | .InvalidCode => .ref T.c_InvalidCode

def sp_law_row (T : Txt K mg) : Sp := fun vs H Q _ => ∃ (sc : Addr) (ns : List Int) (k : Nat), vs = [.ref sc, .int (k : Nat)] ∧ (H sc = some (.lst (ns.map V.int))) ∧ Q (.int (rowZ ns k)) H
set_option maxHeartbeats 4000000 in
theorem ok_law_row (T : Txt K mg) : FnOk P w K mg base CX0 1 T.f_law_row T.d_law_row ["script", "k"] (sp_law_row T) := by
  refine T.F_law_row.ok sc_law_row (fun vs H Q E h => ?_) (fun cdv A outer s H vs Q E hr h => ?_)
  · obtain ⟨sc, ns, k, rfl, _⟩ := h
    rfl
  · obtain ⟨sc, ns, k, rfl, hS, q⟩ := h
    refine ⟨_, (pss_cons (ps_set (i := 2) sc_law_row.nd rfl (.inl rfl) pe_int) 
      (pss_cut (ps_if (pt_cmpR op_lt (pv 1) (pe_callB call_len_seq (by rfl) T.m_len PySem.boot_len (pa_cons (pv 0) pa_nil)) (nomark _)) (pss_one (ps_set (i := 2) sc_law_row.nd rfl (.inl rfl) (pe_ix ix_list (pv 0) (pv 1) (fun _ _ => rfl)))) pss_nil) 
      (pss_cut (ps_if (pt_cmpR op_lt (pv 2) pe_int (nomark _)) (pss_one (ps_set (i := 2) sc_law_row.nd rfl (.inl rfl) (pe_op op_sub (pe_op op_mul (pe_un un_neg pe_int) (pv 2)) pe_int))) pss_nil) 
      (pss_cut (ps_if (pt_cmpR op_lt (pv 2) (pe_op op_pow pe_int pe_int) (nomark _)) (pss_cons (ps_set (i := 3) sc_law_row.nd rfl (.inl rfl) (pe_op op_mod (pe_callTy call_int1 (by rfl) T.m_int (by decide +kernel) (pa_cons (pe_op op_add (pe_op op_add (pe_op op_mul (pv 2) pe_int) (pe_op op_mul (pv 1) pe_int)) pe_int) pa_nil)) pe_int)) 
      (pss_cons (ps_set (i := 4) sc_law_row.nd rfl (.inl rfl) (pe_op op_mod (pe_callTy call_int1 (by rfl) T.m_int (by decide +kernel) (pa_cons (pe_op op_add (pe_op op_add (pe_op op_add (pe_op op_mul (pv 3) pe_int) (pe_op op_mul (pv 2) pe_int)) (pv 1)) pe_int) pa_nil)) pe_int)) 
      (pss_cons (ps_set (i := 5) sc_law_row.nd rfl (.inl rfl) (pe_op op_mod (pe_callTy call_int1 (by rfl) T.m_int (by decide +kernel) (pa_cons (pe_op op_add (pe_op op_add (pe_op op_mul (pv 4) pe_int) (pe_op op_mul (pv 3) (pv 4))) pe_int) pa_nil)) pe_int)) 
      (pss_one (ps_set (i := 2) sc_law_row.nd rfl (.inl rfl) (pe_op op_add (pe_op op_add (pv 3) (pe_op op_mul (pv 4) pe_int)) (pe_op op_mul (pv 5) (pe_op op_pow pe_int pe_int)))))))) pss_nil) 
      (pss_one (ps_ret (pv 2))))))), ?_⟩
    -- if k < len(script): cell = script[k]
    refine ⟨fun σ' H' => H' = H ∧ σ' = [some (.ref sc), some (.int (k : Nat)), some (.int (ns.getD k 0)), none, none, none], ?_, ?_⟩
    · refine ⟨_, rfl, _, rfl, sc, _, rfl, .inl (SqL.of hS), _, _, rfl, rfl, _, rfl, ite2 (fun e => ?_) (fun e => ?_)⟩
      · have hl : (k : Int) < ((ns.map V.int).length : Int) := of_decide_eq_true e
        rw [List.length_map] at hl
        have hk : k < ns.length := by omega
        exact ⟨_, rfl, _, rfl, sc, _, (k : Nat), .int (ns.getD k 0), rfl, rfl, SqL.of hS, at_of (j := k) rfl (by rw [List.getElem?_map, getD_lt hk]; rfl), rfl, rfl⟩
      · have hl : ¬ (k : Int) < ((ns.map V.int).length : Int) := fun h => e (decide_eq_true h)
        rw [List.length_map] at hl
        have hk : ¬ k < ns.length := by omega
        exact ⟨rfl, by rw [getD_ge hk]; rfl⟩
    rintro σ' H' ⟨rfl, rfl⟩
    -- if cell < 0: cell = -2 * cell - 1
    refine ⟨fun σ' H2 => H2 = H' ∧ σ' = [some (.ref sc), some (.int (k : Nat)), some (.int (row1 ns k)), none, none, none], ?_, ?_⟩
    · refine ⟨_, rfl, _, _, rfl, rfl, _, rfl, ite2 (fun e => ?_) (fun e => ?_)⟩
      · have hc : ns.getD k 0 < 0 := of_decide_eq_true e
        refine ⟨2, rfl, _, rfl, _, _, rfl, rfl, .inl ⟨by decide, by decide⟩, _, _, rfl, rfl, rfl, ?_⟩
        unfold row1
        rw [if_pos hc]
        rfl
      · have hc : ¬ ns.getD k 0 < 0 := fun h => e (decide_eq_true h)
        exact ⟨rfl, by unfold row1; rw [if_neg hc]⟩
    rintro σ' H2 ⟨rfl, rfl⟩
    have c0 := row1_nn ns k
    -- if cell < 10 ** 9: ..
    refine ⟨fun σ' H' => H' = H2 ∧ ∃ (x y z : Option V), σ' = [some (.ref sc), some (.int (k : Nat)), some (.int (rowZ ns k)), x, y, z], ?_, ?_⟩
    · refine ⟨_, rfl, _, _, rfl, rfl, ⟨by decide, by decide, by decide⟩, _, _, rfl, rfl, _, rfl, ite2 (fun e => ?_) (fun e => ?_)⟩
      · have h9 : row1 ns k < 10 ^ 9 := of_decide_eq_true e
        rw [rowZ_lo h9]
        generalize row1 ns k = c at h9 c0
        refine ⟨_, rfl, _, _, rfl, rfl, .inr ⟨by decide, by decide⟩, _, rfl, _, _, rfl, rfl, .inr ⟨by decide, by decide⟩, _, _, rfl, rfl, _, _, rfl, rfl, .inl ⟨_, rfl, ?_⟩⟩
        refine ⟨_, _, rfl, rfl, (by decide : (0 : Int) < 2147483647), ?_⟩
        dsimp only
        refine ⟨_, rfl, _, _, rfl, rfl, .inr ⟨by decide, by decide⟩, _, rfl, _, _, rfl, rfl, .inr ⟨by decide, by decide⟩, _, _, rfl, rfl, _, rfl, _, _, rfl, rfl, _, _, rfl, rfl, .inl ⟨_, rfl, ?_⟩⟩
        refine ⟨_, _, rfl, rfl, (by decide : (0 : Int) < 2147483629), ?_⟩
        dsimp only
        refine ⟨_, rfl, _, _, rfl, rfl, .inr ⟨by decide, by decide⟩, _, rfl, _, rfl, _, _, rfl, rfl, .inl ⟨by omega, by omega⟩, _, _, rfl, rfl, _, _, rfl, rfl, .inl ⟨_, rfl, ?_⟩⟩
        refine ⟨_, _, rfl, rfl, (by decide : (0 : Int) < 2147483587), ?_⟩
        dsimp only
        refine ⟨_, rfl, _, rfl, _, _, rfl, rfl, .inr ⟨by decide, by decide⟩, _, _, rfl, rfl, _, rfl, _, _, rfl, rfl, ⟨by decide, by decide, by decide⟩, _, _, rfl, rfl, .inr ⟨by decide, by decide⟩, _, _, rfl, rfl, rfl, _, _, _, rfl⟩
      · have h9 : ¬ row1 ns k < 10 ^ 9 := fun h => e (decide_eq_true h)
        rw [rowZ_hi h9]
        exact ⟨rfl, _, _, _, rfl⟩
    rintro σ' H' ⟨rfl, x, y, z, rfl⟩
    exact ⟨_, rfl, q⟩
def sp_law_next (T : Txt K mg) : Sp := fun vs H Q _ => ∃ (st sc : Addr) (Z0 : Hp) (ds : DS) (v_many : V) (m : Int), vs = [.ref st, v_many] ∧ (Same Z0 H) ∧ ((muD st sc).m ds Z0 H) ∧ (v_many = .int m) ∧ (NxOk m) ∧ ∀ v Z' H', Step (muD st sc).fp Z0 H Z' H' → (muD st sc).m (nxS ds m) Z' H' → yInt.r Z' v (nxV ds m) → Q v H'
set_option maxHeartbeats 4000000 in
theorem ok_law_next (T : Txt K mg) : FnOk P w K mg base CX0 2 T.f_law_next T.d_law_next ["state", "many"] (sp_law_next T) := by
  have G_law_row : FnOk P w K mg base CX0 1 T.f_law_row T.d_law_row ["script", "k"] (sp_law_row T) := ok_law_row T
  refine T.F_law_next.ok sc_law_next (fun vs H Q E h => ?_) (fun cdv A outer s H vs Q E hr h => ?_)
  · obtain ⟨st, sc, Z0, ds, v_many, m, rfl, _⟩ := h
    rfl
  · obtain ⟨st, sc, Z0, ds, v_many, m, rfl, sz, hm, h_many, hok, q⟩ := h
    refine ⟨_, (pss_cut (ps_if (pt_cmpR op_lt (pe_ix ix_list (pv 0) pe_int (fun _ _ => rfl)) (pv 1) (nomark _)) (pss_cons (ps_asg (pe_call G_law_row (hr.mono (by decide)) (by rfl) T.g_law_row T.F_law_row.kp T.b_law_row .nil pass0 (pa_cons (pe_ix ix_list (pv 0) pe_int (fun _ _ => rfl)) (pa_cons (pe_ix ix_list (pv 0) pe_int (fun _ _ => rfl)) pa_nil))) (pg_sub (pv 0) pe_int set_list)) 
      (pss_one (ps_asg (pe_op op_add (pe_ix ix_list (pv 0) pe_int (fun _ _ => rfl)) pe_int) (pg_sub (pv 0) pe_int set_list)))) pss_nil) 
      (pss_cons (ps_set (i := 2) sc_law_next.nd rfl (.inl rfl) (pe_op op_mod (pe_callTy call_int1 (by rfl) T.m_int (by decide +kernel) (pa_cons (pe_ix ix_list (pv 0) pe_int (fun _ _ => rfl)) pa_nil)) (pv 1))) 
      (pss_cons (ps_asg (pe_op op_fdivW (pe_ix ix_list (pv 0) pe_int (fun _ _ => rfl)) (pv 1)) (pg_sub (pv 0) pe_int set_list)) 
      (pss_one (ps_ret (pv 2)))))), ?_⟩
    obtain ⟨m0, m1⟩ := hok
    subst h_many
    obtain ⟨h1, h2, h3⟩ := hm
    obtain ⟨ns, k, x⟩ := ds
    have g2 : H sc = some (.lst (ns.map V.int)) := sz _ _ h2
    have ne : sc ≠ st := fun e => by rw [e] at h2; rw [h2] at h3; cases h3
    refine ⟨fun σ' H' => Step [st] Z0 H Z0 H' ∧ σ' = [some (.ref st), some (.int m), none] ∧ H' st = some (.lst [.ref sc, .int ((if (x : Int) < m then k + 1 else k : Nat) : Int), .int ((DS.cur ⟨ns, k, x⟩ m : Nat) : Int)]), ?_, ?_⟩
    · refine ⟨_, rfl, st, _, _, _, rfl, rfl, SqL.of h1, at_of (j := 2) rfl rfl, _, rfl, _, _, rfl, rfl, _, rfl, ite2 (fun e => ?_) (fun e => ?_)⟩
      · have hlt : (x : Int) < m := of_decide_eq_true e
        refine ⟨_, rfl, st, _, _, _, rfl, rfl, SqL.of h1, at_of (j := 0) rfl rfl, _, rfl, st, _, _, _, rfl, rfl, SqL.of h1, at_of (j := 1) rfl rfl, sc, ns, k, rfl, g2, ?_⟩
        refine ⟨_, rfl, st, _, _, 2, rfl, rfl, h1, rfl, ?_⟩
        refine ⟨_, rfl, st, _, _, _, rfl, rfl, SqL.of upd_same, at_of (j := 1) rfl rfl, _, _, rfl, rfl, _, rfl, st, _, _, 1, rfl, rfl, upd_same, rfl, ?_⟩
        refine ⟨(Step.set sz h3).trans (Step.set (Step.set sz h3).s h3), rfl, ?_⟩
        rw [upd_same, if_pos hlt]
        have : ((DS.cur ⟨ns, k, x⟩ m : Nat) : Int) = rowZ ns k := by
          unfold DS.cur
          rw [if_pos hlt]
          have := rowZ_nn ns k
          show (((rowZ ns k).toNat : Nat) : Int) = rowZ ns k
          omega
        rw [this]
        rfl
      · have hlt : ¬ (x : Int) < m := fun h => e (decide_eq_true h)
        refine ⟨Step.refl sz, rfl, ?_⟩
        rw [h1, if_neg hlt]
        unfold DS.cur
        rw [if_neg hlt]
    rintro σ' H' ⟨hO, rfl, h4⟩
    -- drawn = int(state[2]) % many
    refine ⟨_, rfl, st, _, _, _, rfl, rfl, SqL.of h4, at_of (j := 2) rfl rfl, .inl ⟨_, rfl, ?_⟩⟩
    refine ⟨_, rfl, _, _, rfl, rfl, m0, ?_⟩
    -- state[2] = state[2] // many
    refine ⟨_, rfl, st, _, _, _, rfl, rfl, SqL.of h4, at_of (j := 2) rfl rfl, _, rfl, _, _, rfl, rfl, wide_div m0 m1 (by decide) (by decide), ?_⟩
    refine ⟨_, rfl, st, _, _, 2, rfl, rfl, h4, rfl, ?_⟩
    have nn : 0 ≤ ((DS.cur ⟨ns, k, x⟩ m : Nat) : Int) / m := Int.ediv_nonneg (Int.natCast_nonneg _) (by omega)
    refine ⟨_, rfl, q _ Z0 _ (hO.trans (Step.set hO.s h3)) ⟨?_, h2, h3⟩ rfl⟩
    rw [upd_same]
    show some (HO.lst [_, _, _]) = some (HO.lst [_, _, V.int (((((DS.cur ⟨ns, k, x⟩ m : Nat) : Int) / m).toNat : Nat) : Int)])
    rw [Int.toNat_of_nonneg nn]
    rfl
theorem cs__law_next (T : Txt K mg) {st sc : Addr} {ds : DS} {E : XK} {m : Int} (h : NxOk m) : CallS (muD st sc) (sp_law_next T) E (rac (isRef st) (rac (ty yInt m) ra0)) ds (ty yInt (nxV ds m)) (nxS ds m) := by
  rintro Z H vs sz mm ⟨_, _, rfl, rfl, v_many, _, rfl, h_many, rfl⟩ Q q
  exact ⟨st, sc, Z, ds, v_many, m, rfl, sz, mm, h_many, h, q⟩
theorem cu__law_next (T : Txt K mg) {st sc : Addr} {ds : DS} {E : XK} {m : Int} {μ : Type} {M : Mu μ} {s s2 : μ} (hm : ∀ Z H, M.m s Z H → (muD st sc).m ds Z H) (hf : ∀ a ∈ (muD st sc).fp, a ∈ M.fp) (hp : ∀ Z H Z' H', M.m s Z H → Step (muD st sc).fp Z H Z' H' → (muD st sc).m (nxS ds m) Z' H' → M.m s2 Z' H') (h : NxOk m) : CallS M (sp_law_next T) E (rac (isRef st) (rac (ty yInt m) ra0)) s (ty yInt (nxV ds m)) s2 := by
  rintro Z H vs sz mm ⟨_, _, rfl, rfl, v_many, _, rfl, h_many, rfl⟩ Q q
  exact ⟨st, sc, Z, ds, v_many, m, rfl, sz, hm _ _ mm, h_many, h, fun v Z2 H2 st2 m2 hv => q v Z2 H2 (st2.weak fun a h => .inl (hf a h)) (hp _ _ _ _ mm st2 m2) hv⟩
def sp_law_numbers (T : Txt K mg) : Sp := fun vs H Q _ => ∃ (st sc : Addr) (Z0 : Hp) (ds : DS) (y : ((List Int) × DS)), vs = [.ref st] ∧ (Same Z0 H) ∧ ((muD st sc).m ds Z0 H) ∧ (F_law_numbers ds = some y) ∧ ∀ v Z' H', Step (muD st sc).fp Z0 H Z' H' → (muD st sc).m y.2 Z' H' → ((yList yInt)).r Z' v y.1 → Q v H'
set_option maxHeartbeats 4000000 in
theorem ok_law_numbers (T : Txt K mg) : FnOk P w K mg base CX0 3 T.f_law_numbers T.d_law_numbers ["state"] (sp_law_numbers T) := by
  have G_law_next : FnOk P w K mg base CX0 2 T.f_law_next T.d_law_next ["state", "many"] (sp_law_next T) := ok_law_next T
  refine T.F_law_numbers.ok sc_law_numbers (fun vs H Q E h => ?_) (fun cdv A outer s H vs Q E hr h => ?_)
  · obtain ⟨st, sc, Z0, ds, y, rfl, _⟩ := h
    rfl
  · obtain ⟨st, sc, Z0, ds, y, rfl, sz, hm, hF, q⟩ := h
    refine ⟨_, (pss_one (ps_ret (pe_lc (own := [("k", 1)]) (g := gName 1) rfl sc_law_numbers.nd (pi_range1 rfl T.m_range (pa_cons (pe_call G_law_next (hr.mono (by decide)) (by rfl) T.g_law_next T.F_law_next.kp T.b_law_next .nil pass0 (pa_cons (pv 0) (pa_cons pe_int pa_nil))) pa_nil)) (blkOk_by (own := [("k", 1)]) (N := ["state", "k"]) (sc := defScope s_law_numbers) (by decide +kernel)) (fun _ _ _ _ _ => (pg_name (i := 1) sc_law_numbers.nd rfl (Or.inl rfl))) (fun _ _ _ _ _ => pts_nil) (fun _ _ _ _ _ => (pe_op op_sub (pe_call G_law_next (hr.mono (by decide)) (by rfl) T.g_law_next T.F_law_next.kp T.b_law_next .nil pass0 (pa_cons (pv 0) (pa_cons pe_int pa_nil))) pe_int))))), ?_⟩
    have P := Pt.start (muD st sc) sz hm
    unfold F_law_numbers at hF
    obtain ⟨g_8, hF⟩ := guard_inv hF
    obtain ⟨l_13, h_14, hF⟩ := bind_inv hF
    replace hF := Option.some.inj hF
    subst hF
    refine st_ret P (ev_fz (en_mapS (υ := yInt) (fun (x_9 : Int) (s_10 : DS) => (some (((nxV s_10 (7 : Int)) - (2 : Int)), (nxS s_10 (7 : Int))) : Option (Int × DS))) (ei_rng1 (ev_call (cs__law_next T (by decide +kernel)) (eva_cons (ev_ref rfl) (eva_cons ev_int eva_nil))) g_8) (fun x_9 v_11 Z' H' s_10 p zz hh rx_12 hp => by
          have hy := hp
          have hy := Option.some.inj hy
          subst hy
          exact ⟨_, tgt_name, (wpe_s wpe_z (by decide)), (ev_sub (ev_call (cs__law_next T (by decide +kernel)) (eva_cons (ev_ref rfl) (eva_cons ev_int eva_nil))) ev_int)⟩) h_14)) (fun v Z1 H1 P1 hv => ?_)
    exact q v _ _ P1.st P1.m hv
theorem cs_law_numbers (T : Txt K mg) {st sc : Addr} {ds : DS} {E : XK}  {y : (List Int) × DS} (h : F_law_numbers ds = some y) : CallS (muD st sc) (sp_law_numbers T) E (rac (isRef st) ra0) ds (ty (yList yInt) y.1) y.2 := by
  rintro Z H vs sz m ⟨_, _, rfl, rfl, rfl⟩ Q q
  exact ⟨st, sc, Z, ds, y, rfl, sz, m, h, fun v Z2 H2 s2 m2 hv => q v Z2 H2 s2 m2 hv⟩
theorem cu_law_numbers (T : Txt K mg) {st sc : Addr} {ds : DS} {E : XK}  {y : (List Int) × DS} {μ : Type} {M : Mu μ} {s s2 : μ} (hm : ∀ Z H, M.m s Z H → (muD st sc).m ds Z H) (hf : ∀ a ∈ (muD st sc).fp, a ∈ M.fp) (hp : ∀ Z H Z' H', M.m s Z H → Step (muD st sc).fp Z H Z' H' → (muD st sc).m y.2 Z' H' → M.m s2 Z' H') (h : F_law_numbers ds = some y) : CallS M (sp_law_numbers T) E (rac (isRef st) ra0) s (ty (yList yInt) y.1) s2 := by
  rintro Z H vs sz m ⟨_, _, rfl, rfl, rfl⟩ Q q
  exact ⟨st, sc, Z, ds, y, rfl, sz, hm _ _ m, h, fun v Z2 H2 st2 m2 hv => q v Z2 H2 (st2.weak fun a h => .inl (hf a h)) (hp _ _ _ _ m st2 m2) hv⟩
def sp_remainder_of (T : Txt K mg) : Sp := fun vs H Q _ => ∃ (Z0 : Hp) (v_row : V) (v_factor : V) (x_row : (List Int)) (x_factor : Int) (y : Int), vs = [v_row, v_factor] ∧ (Same Z0 H) ∧ (((yList yInt)).r Z0 v_row x_row) ∧ ((yInt).r Z0 v_factor x_factor) ∧ (F_remainder_of x_row x_factor = some y) ∧ ∀ v Z' H', Step [] Z0 H Z' H' → (yInt).r Z' v y → Q v H'
set_option maxHeartbeats 4000000 in
theorem ok_remainder_of (T : Txt K mg) : FnOk P w K mg base CX0 1 T.f_remainder_of T.d_remainder_of ["row", "factor"] (sp_remainder_of T) := by
  refine T.F_remainder_of.ok sc_remainder_of (fun vs H Q E h => ?_) (fun cdv A outer s H vs Q E hr h => ?_)
  · obtain ⟨Z0, v_row, v_factor, x_row, x_factor, y, rfl, _⟩ := h
    rfl
  · obtain ⟨Z0, v_row, v_factor, x_row, x_factor, y, rfl, sz, h_row, h_factor, hF, q⟩ := h
    refine ⟨_, (pss_cons (ps_set (i := 2) sc_remainder_of.nd rfl (.inl rfl) pe_int) 
      (pss_cons (ps_for PassesOwn.never rfl (pi_list (pv 0)) (pg_name (i := 3) sc_remainder_of.nd rfl (.inl rfl)) (pss_one (ps_set (i := 2) sc_remainder_of.nd rfl (.inl rfl) (pe_op op_mod (pe_op op_add (pe_op op_add (pe_op op_mul (pv 2) (pv 1)) (pv 3)) pe_int) (pe_glob (v := .int 4294967291) rfl T.m_MODULUS.choose_spec ⟨_, rfl⟩))))) 
      (pss_one (ps_ret (pv 2))))), ?_⟩
    have P := Pt.start0 sz
    unfold F_remainder_of at hF
    refine st_seq (st_set P ev_int (fun v_17 Z1 H1 e P1 k_18 => ?_))
    refine st_nx ?_
    replace P := P1
    replace h_row := ((yList yInt)).mono e.z h_row
    obtain ⟨f_47, hL_48, hF⟩ := bind_inv hF
    refine st_seq (st_for (τ := yInt) (fun (r_21 : List Int) σ' Z' H' => ∃ w_19, ∃ (y_26 : Option V) (v_27 : V) (y_29 : Option V), σ' = [y_26, some v_factor, some v_27, y_29] ∧ Pt [] Z0 H muN Z' H' () ∧ (yInt).r Z' v_27 w_19 ∧ forF (L_remainder_of_1 x_factor) r_21 w_19 = some f_47) P (ei_list (ev_var (τ := (yList yInt)) rfl h_row)) ?_ ?_ ?_)
    · rintro Z1 H1 e P1
      replace P := P1
      replace h_row := ((yList yInt)).mono e.z h_row
      exact ⟨(0 : Int), _, _, _, rfl, P, k_18, hL_48⟩
    · rintro Zb_25 Hb eb x_20 r_21 σ' v_36 Z1 H1 Z2 H2 zs_24 ⟨w_19, y_26, v_27, y_29, rfl, P, k_28, hq_23⟩ e hx_37
      replace P := P.item e
      replace zs_24 := zs_24.trans e.z
      obtain ⟨u_38, hB_22, hq_23⟩ := bind_inv (forF_cons hq_23)
      unfold L_remainder_of_1 at hB_22
      refine tgt_name _ P.sub _ ?_
      obtain ⟨g_42, hB_22⟩ := guard_inv hB_22
      obtain ⟨x_left_43, h_44, hB_22⟩ := bind_inv hB_22
      replace h_44 := Option.some.inj h_44
      refine st_set P (ev_cast (ev_mod (ev_add (ev_add (ev_mul (ev_var (τ := yInt) rfl k_28) (ev_var (τ := yInt) rfl h_factor) g_42) (ev_var (τ := yInt) rfl hx_37)) ev_int) ev_int (by decide)) h_44) (fun v_45 Z1 H1 e P1 k_46 => ?_)
      replace P := P1
      replace zs_24 := zs_24.trans e.z
      replace hB_22 := Option.some.inj hB_22
      subst hB_22
      exact ⟨_, zs_24, P.sub, x_left_43, _, _, _, rfl, P, k_46, hq_23⟩
    rintro σ' Z1 H1 _ _ ⟨w_30, y_26, v_33, y_29, rfl, P, k_34, hl⟩
    have hz := (forF_nil hl).symm
    subst hz
    refine st_nx ?_
    replace hF := Option.some.inj hF
    subst hF
    refine st_ret P (ev_var (τ := yInt) rfl k_34) (fun v Z1 H1 P1 hv => ?_)
    exact q v _ _ P1.st hv
theorem cs_remainder_of (T : Txt K mg) {μ : Type} {M : Mu μ} {s : μ} {E : XK} {x_row : (List Int)} {x_factor : Int} {y : Int} (h : F_remainder_of x_row x_factor = some y) : CallS M (sp_remainder_of T) E (rac (ty (yList yInt) x_row) (rac (ty yInt x_factor) ra0)) s (ty yInt y) s := by
  rintro Z H vs sz m ⟨v_row, _, rfl, h_row, ⟨v_factor, _, rfl, h_factor, rfl⟩⟩ Q q
  exact ⟨Z, v_row, v_factor, x_row, x_factor, y, rfl, sz, h_row, h_factor, h, fun v Z2 H2 st hv => q v Z2 H2 st.pure (M.pure st m) hv⟩
def sp_sum_of (T : Txt K mg) : Sp := fun vs H Q _ => ∃ (Z0 : Hp) (v_numbers : V) (x_numbers : (List Int)) (y : Int), vs = [v_numbers] ∧ (Same Z0 H) ∧ (((yList yInt)).r Z0 v_numbers x_numbers) ∧ (F_sum_of x_numbers = some y) ∧ ∀ v Z' H', Step [] Z0 H Z' H' → (yInt).r Z' v y → Q v H'
set_option maxHeartbeats 4000000 in
theorem ok_sum_of (T : Txt K mg) : FnOk P w K mg base CX0 2 T.f_sum_of T.d_sum_of ["numbers"] (sp_sum_of T) := by
  have G_remainder_of : FnOk P w K mg base CX0 1 T.f_remainder_of T.d_remainder_of ["row", "factor"] (sp_remainder_of T) := ok_remainder_of T
  refine T.F_sum_of.ok sc_sum_of (fun vs H Q E h => ?_) (fun cdv A outer s H vs Q E hr h => ?_)
  · obtain ⟨Z0, v_numbers, x_numbers, y, rfl, _⟩ := h
    rfl
  · obtain ⟨Z0, v_numbers, x_numbers, y, rfl, sz, h_numbers, hF, q⟩ := h
    refine ⟨_, (pss_one (ps_ret (pe_call G_remainder_of (hr.mono (by decide)) (by rfl) T.g_remainder_of T.F_remainder_of.kp T.b_remainder_of .nil pass0 (pa_cons (pv 0) (pa_cons (pe_glob (v := .int 257) rfl T.m_FACTOR.choose_spec ⟨_, rfl⟩) pa_nil))))), ?_⟩
    have P := Pt.start0 sz
    unfold F_sum_of at hF
    obtain ⟨r_51, h_52, hF⟩ := bind_inv hF
    replace hF := Option.some.inj hF
    subst hF
    refine st_ret P (ev_call (cs_remainder_of T h_52) (eva_cons (ev_var (τ := (yList yInt)) rfl h_numbers) (eva_cons ev_int eva_nil))) (fun v Z1 H1 P1 hv => ?_)
    exact q v _ _ P1.st hv
theorem cs_sum_of (T : Txt K mg) {μ : Type} {M : Mu μ} {s : μ} {E : XK} {x_numbers : (List Int)} {y : Int} (h : F_sum_of x_numbers = some y) : CallS M (sp_sum_of T) E (rac (ty (yList yInt) x_numbers) ra0) s (ty yInt y) s := by
  rintro Z H vs sz m ⟨v_numbers, _, rfl, h_numbers, rfl⟩ Q q
  exact ⟨Z, v_numbers, x_numbers, y, rfl, sz, h_numbers, h, fun v Z2 H2 st hv => q v Z2 H2 st.pure (M.pure st m) hv⟩
def sp_block_of (T : Txt K mg) : Sp := fun vs H Q _ => ∃ (Z0 : Hp) (v_numbers : V) (x_numbers : (List Int)) (y : (List Int)), vs = [v_numbers] ∧ (Same Z0 H) ∧ (((yList yInt)).r Z0 v_numbers x_numbers) ∧ (F_block_of x_numbers = some y) ∧ ∀ v Z' H', Step [] Z0 H Z' H' → ((yList yInt)).r Z' v y → Q v H'
set_option maxHeartbeats 4000000 in
theorem ok_block_of (T : Txt K mg) : FnOk P w K mg base CX0 3 T.f_block_of T.d_block_of ["numbers"] (sp_block_of T) := by
  have G_sum_of : FnOk P w K mg base CX0 2 T.f_sum_of T.d_sum_of ["numbers"] (sp_sum_of T) := ok_sum_of T
  refine T.F_block_of.ok sc_block_of (fun vs H Q E h => ?_) (fun cdv A outer s H vs Q E hr h => ?_)
  · obtain ⟨Z0, v_numbers, x_numbers, y, rfl, _⟩ := h
    rfl
  · obtain ⟨Z0, v_numbers, x_numbers, y, rfl, sz, h_numbers, hF, q⟩ := h
    refine ⟨_, (pss_one (ps_ret (pe_op op_cat (pe_lst (pa_cons (pe_callB call_len_seq (by rfl) T.m_len PySem.boot_len (pa_cons (pv 0) pa_nil)) (pa_cons (pe_call G_sum_of (hr.mono (by decide)) (by rfl) T.g_sum_of T.F_sum_of.kp T.b_sum_of .nil pass0 (pa_cons (pv 0) pa_nil)) pa_nil))) (pe_callTy call_list_of (by rfl) T.m_list (by decide +kernel) (pa_cons (pv 0) pa_nil))))), ?_⟩
    have P := Pt.start0 sz
    unfold F_block_of at hF
    obtain ⟨r_60, h_61, hF⟩ := bind_inv hF
    obtain ⟨g_62, hF⟩ := guard_inv hF
    replace hF := Option.some.inj hF
    subst hF
    refine st_ret P (ev_fz (en_cat (ev_li (ev_fz (en_listD (eva_conss (ev_len (fun _ _ _ h => h) (ev_li (ev_var (τ := (yList yInt)) rfl h_numbers))) (eva_conss (ev_call (cs_sum_of T h_61) (eva_cons (ev_var (τ := (yList yInt)) rfl h_numbers) eva_nil)) (eva_nils (τ := yInt)))) (by show 2 ≤ sizeLine; decide)))) (ev_li (ev_fz (en_list_of (fun _ _ _ h => h) (ev_li (ev_var (τ := (yList yInt)) rfl h_numbers))))) g_62)) (fun v Z1 H1 P1 hv => ?_)
    exact q v _ _ P1.st hv
theorem cs_block_of (T : Txt K mg) {μ : Type} {M : Mu μ} {s : μ} {E : XK} {x_numbers : (List Int)} {y : (List Int)} (h : F_block_of x_numbers = some y) : CallS M (sp_block_of T) E (rac (ty (yList yInt) x_numbers) ra0) s (ty (yList yInt) y) s := by
  rintro Z H vs sz m ⟨v_numbers, _, rfl, h_numbers, rfl⟩ Q q
  exact ⟨Z, v_numbers, x_numbers, y, rfl, sz, h_numbers, h, fun v Z2 H2 st hv => q v Z2 H2 st.pure (M.pure st m) hv⟩
def sp_begins_block (T : Txt K mg) : Sp := fun vs H Q _ => ∃ (Z0 : Hp) (v_numbers : V) (v_at : V) (x_numbers : (List Int)) (x_at : Int) (y : Bool), vs = [v_numbers, v_at] ∧ (Same Z0 H) ∧ (((yList yInt)).r Z0 v_numbers x_numbers) ∧ ((yInt).r Z0 v_at x_at) ∧ (F_begins_block x_numbers x_at = some y) ∧ ∀ v Z' H', Step [] Z0 H Z' H' → (yBool).r Z' v y → Q v H'
set_option maxHeartbeats 4000000 in
theorem ok_begins_block (T : Txt K mg) : FnOk P w K mg base CX0 3 T.f_begins_block T.d_begins_block ["numbers", "at"] (sp_begins_block T) := by
  have G_sum_of : FnOk P w K mg base CX0 2 T.f_sum_of T.d_sum_of ["numbers"] (sp_sum_of T) := ok_sum_of T
  refine T.F_begins_block.ok sc_begins_block (fun vs H Q E h => ?_) (fun cdv A outer s H vs Q E hr h => ?_)
  · obtain ⟨Z0, v_numbers, v_at, x_numbers, x_at, y, rfl, _⟩ := h
    rfl
  · obtain ⟨Z0, v_numbers, v_at, x_numbers, x_at, y, rfl, sz, h_numbers, h_at, hF, q⟩ := h
    refine ⟨_, (pss_cons (ps_if (pt_cmpR op_gt (pe_op op_add (pv 1) pe_int) (pe_callB call_len_seq (by rfl) T.m_len PySem.boot_len (pa_cons (pv 0) pa_nil)) (nomark _)) (pss_one (ps_ret pe_bl)) pss_nil) 
      (pss_cons (ps_set (i := 2) sc_begins_block.nd rfl (.inl rfl) (pe_ix ix_list (pv 0) (pv 1) (fun _ _ => rfl))) 
      (pss_cons (ps_if (PW.pt (pw_or (pt_cmpR op_lt (pv 2) pe_int (nomark _)) (pw_or1 (pt_cmpR op_gt (pe_op op_add (pe_op op_add (pv 1) pe_int) (pv 2)) (pe_callB call_len_seq (by rfl) T.m_len PySem.boot_len (pa_cons (pv 0) pa_nil)) (nomark _))))) (pss_one (ps_ret pe_bl)) pss_nil) 
      (pss_one (ps_ret (pe_cmpR op_eq (pe_ix ix_list (pv 0) (pe_op op_add (pv 1) pe_int) (fun _ _ => rfl)) (pe_call G_sum_of (hr.mono (by decide)) (by rfl) T.g_sum_of T.F_sum_of.kp T.b_sum_of .nil pass0 (pa_cons (pe_slice sl_list (pv 0) (po_some (pe_op op_add (pv 1) pe_int)) (po_some (pe_op op_add (pe_op op_add (pv 1) pe_int) (pv 2)))) pa_nil)) (nomark _))))))), ?_⟩
    have P := Pt.start0 sz
    unfold F_begins_block at hF
    refine st_seq (st_if P (et_cmp (ev_gt (ev_add (ev_var (τ := yInt) rfl h_at) ev_int) (ev_len (fun _ _ _ h => h) (ev_li (ev_var (τ := (yList yInt)) rfl h_numbers))))) (fun b_73 Z1 H1 e P1 => ?_) (fun b_73 Z1 H1 e P1 => ?_))
    · replace P := P1
      have hB := ifT b_73 hF
      replace hF := hB
      clear hB
      replace hF := Option.some.inj hF
      subst hF
      refine st_ret P ev_bl (fun v Z1 H1 P1 hv => ?_)
      exact q v _ _ P1.st hv
    · replace P := P1
      have hB := ifF b_73 hF
      replace hF := hB
      clear hB
      refine st_next0 ?_
      replace h_numbers := ((yList yInt)).mono e.z h_numbers
      obtain ⟨i_74, h_75, hF⟩ := bind_inv hF
      refine st_seq (st_set P (ev_ixL (ev_li (ev_var (τ := (yList yInt)) rfl h_numbers)) (ev_var (τ := yInt) rfl h_at) h_75) (fun v_76 Z1 H1 e P1 k_77 => ?_))
      refine st_nx ?_
      replace P := P1
      replace h_numbers := ((yList yInt)).mono e.z h_numbers
      refine st_seq (st_if P (et_or0 (et_cmp (ev_lt (ev_var (τ := yInt) rfl k_77) ev_int)) (et_cmp (ev_gt (ev_add (ev_add (ev_var (τ := yInt) rfl h_at) ev_int) (ev_var (τ := yInt) rfl k_77)) (ev_len (fun _ _ _ h => h) (ev_li (ev_var (τ := (yList yInt)) rfl h_numbers)))))) (fun b_78 Z1 H1 e P1 => ?_) (fun b_78 Z1 H1 e P1 => ?_))
      · replace P := P1
        have hB := ifT b_78 hF
        replace hF := hB
        clear hB
        replace hF := Option.some.inj hF
        subst hF
        refine st_ret P ev_bl (fun v Z1 H1 P1 hv => ?_)
        exact q v _ _ P1.st hv
      · replace P := P1
        have hB := ifF b_78 hF
        replace hF := hB
        clear hB
        refine st_next0 ?_
        replace h_numbers := ((yList yInt)).mono e.z h_numbers
        obtain ⟨i_79, h_80, hF⟩ := bind_inv hF
        obtain ⟨r_81, h_82, hF⟩ := bind_inv hF
        replace hF := Option.some.inj hF
        subst hF
        refine st_ret P (ev_eq flat_int (ev_ixL (ev_li (ev_var (τ := (yList yInt)) rfl h_numbers)) (ev_add (ev_var (τ := yInt) rfl h_at) ev_int) h_80) (ev_call (cs_sum_of T h_82) (eva_cons (ev_fz (en_slL (ev_li (ev_var (τ := (yList yInt)) rfl h_numbers)) (eo_some (ev_add (ev_var (τ := yInt) rfl h_at) ev_int)) (eo_some (ev_add (ev_add (ev_var (τ := yInt) rfl h_at) ev_int) (ev_var (τ := yInt) rfl k_77))))) eva_nil))) (fun v Z1 H1 P1 hv => ?_)
        exact q v _ _ P1.st hv
theorem cs_begins_block (T : Txt K mg) {μ : Type} {M : Mu μ} {s : μ} {E : XK} {x_numbers : (List Int)} {x_at : Int} {y : Bool} (h : F_begins_block x_numbers x_at = some y) : CallS M (sp_begins_block T) E (rac (ty (yList yInt) x_numbers) (rac (ty yInt x_at) ra0)) s (ty yBool y) s := by
  rintro Z H vs sz m ⟨v_numbers, _, rfl, h_numbers, ⟨v_at, _, rfl, h_at, rfl⟩⟩ Q q
  exact ⟨Z, v_numbers, v_at, x_numbers, x_at, y, rfl, sz, h_numbers, h_at, h, fun v Z2 H2 st hv => q v Z2 H2 st.pure (M.pure st m) hv⟩
def sp_read_blocks (T : Txt K mg) : Sp := fun vs H Q _ => ∃ (Z0 : Hp) (v_numbers : V) (x_numbers : (List Int)) (y : (List (List Int))), vs = [v_numbers] ∧ (Same Z0 H) ∧ (((yList yInt)).r Z0 v_numbers x_numbers) ∧ (F_read_blocks x_numbers = some y) ∧ ∀ v Z' H', Step [] Z0 H Z' H' → ((yList (yList yInt))).r Z' v y → Q v H'
set_option maxHeartbeats 4000000 in
theorem ok_read_blocks (T : Txt K mg) : FnOk P w K mg base CX0 4 T.f_read_blocks T.d_read_blocks ["numbers"] (sp_read_blocks T) := by
  have G_begins_block : FnOk P w K mg base CX0 3 T.f_begins_block T.d_begins_block ["numbers", "at"] (sp_begins_block T) := ok_begins_block T
  refine T.F_read_blocks.ok sc_read_blocks (fun vs H Q E h => ?_) (fun cdv A outer s H vs Q E hr h => ?_)
  · obtain ⟨Z0, v_numbers, x_numbers, y, rfl, _⟩ := h
    rfl
  · obtain ⟨Z0, v_numbers, x_numbers, y, rfl, sz, h_numbers, hF, q⟩ := h
    refine ⟨_, (pss_cons (ps_set (i := 1) sc_read_blocks.nd rfl (.inl rfl) (pe_lst pa_nil)) 
      (pss_cons (ps_set (i := 2) sc_read_blocks.nd rfl (.inl rfl) pe_int) 
      (pss_cons (ps_while PassesOwn.never (pt_val (pe_call G_begins_block (hr.mono (by decide)) (by rfl) T.g_begins_block T.F_begins_block.kp T.b_begins_block .nil pass0 (pa_cons (pv 0) (pa_cons (pv 2) pa_nil)))) (pss_cons (ps_set (i := 3) sc_read_blocks.nd rfl (.inl rfl) (pe_op op_add (pe_op op_add (pv 2) pe_int) (pe_ix ix_list (pv 0) (pv 2) (fun _ _ => rfl)))) 
      (pss_cons (ps_expr (pe_bm PySem.F.plainAttrs_list PySem.F.slot_list_append PySem.F.type_list_append mt_append (pv 1) (pa_cons (pe_callTy call_list_of (by rfl) T.m_list (by decide +kernel) (pa_cons (pe_slice sl_list (pv 0) (po_some (pe_op op_add (pv 2) pe_int)) (po_some (pv 3))) pa_nil)) pa_nil))) 
      (pss_one (ps_set (i := 2) sc_read_blocks.nd rfl (.inl rfl) (pv 3)))))) 
      (pss_one (ps_ret (pv 1)))))), ?_⟩
    have P := Pt.start0 sz
    unfold F_read_blocks at hF
    refine st_seq (st_setN (τ := (yList yInt)) P (en_listD (eva_nils (τ := (yList yInt))) (by show 0 ≤ sizeLine; decide)) (fun p_88 Z1 H1 e P1 fr_90 o_89 => ?_))
    refine st_nx ?_
    replace P := P1
    replace h_numbers := ((yList yInt)).mono e.z h_numbers
    refine st_seq (st_set P ev_int (fun v_91 Z1 H1 e P1 k_92 => ?_))
    refine st_nx ?_
    replace P := P1
    replace h_numbers := ((yList yInt)).mono e.z h_numbers
    replace o_89 := o_89.next e
    obtain ⟨f_101, hL_117, hF⟩ := bind_inv hF
    refine st_seq (st_while (fun n σ' Z' H' => ∃ w_93, ∃ (v_98 : V) (y_100 : Option V), σ' = [some v_numbers, some (.ref p_88), some v_98, y_100] ∧ Pt [] Z0 H muN Z' H' () ∧ ((yList yInt)).r Z' v_numbers x_numbers ∧ Own [] H muN.fp Z' H' (yList yInt) p_88 w_93.1 ∧ (yInt).r Z' v_98 w_93.2 ∧ whileS (L_read_blocks_1 x_numbers) n w_93 = some f_101) ((x_numbers.length + 1)) P ?_ ?_)
    · exact ⟨(([] : List (List Int)), (0 : Int)), _, _, rfl, P, h_numbers, o_89, k_92, hL_117⟩
    rintro n σ' Z1 H1 ⟨w_93, v_98, y_100, rfl, P, k_96, o_97, k_99, hq_95⟩
    obtain ⟨k, rfl, hq_95⟩ := whileS_cons hq_95
    obtain ⟨u_102, hB_94, hq_95⟩ := bind_inv hq_95
    unfold L_read_blocks_1 at hB_94
    obtain ⟨r_103, h_104, hB_94⟩ := bind_inv hB_94
    refine ⟨k, _, _, _, rfl, P, (et_val (ev_call (cs_begins_block T h_104) (eva_cons (ev_var (τ := (yList yInt)) rfl k_96) (eva_cons (ev_var (τ := yInt) rfl k_99) eva_nil)))), fun b_105 Z1 H1 e P1 => ?_, fun b_105 Z1 H1 e P1 => ?_⟩
    · replace P := P1
      replace hB_94 := ifT b_105 hB_94
      replace k_96 := ((yList yInt)).mono e.z k_96
      replace o_97 := o_97.next e
      obtain ⟨i_106, h_107, hB_94⟩ := bind_inv hB_94
      obtain ⟨x_end_108, h_109, hB_94⟩ := bind_inv hB_94
      replace h_109 := Option.some.inj h_109
      refine st_seq (st_set P (ev_cast (ev_add (ev_add (ev_var (τ := yInt) rfl k_99) ev_int) (ev_ixL (ev_li (ev_var (τ := (yList yInt)) rfl k_96)) (ev_var (τ := yInt) rfl k_99) h_107)) h_109) (fun v_110 Z1 H1 e P1 k_111 => ?_))
      refine st_nx ?_
      replace P := P1
      replace k_96 := ((yList yInt)).mono e.z k_96
      replace o_97 := o_97.next e
      obtain ⟨g_112, hB_94⟩ := guard_inv hB_94
      refine st_seq (st_append P o_97 rfl (ev_fz (en_list_of (fun _ _ _ h => h) (ev_li (ev_fz (en_slL (ev_li (ev_var (τ := (yList yInt)) rfl k_96)) (eo_some (ev_add (ev_var (τ := yInt) rfl k_99) ev_int)) (eo_some (ev_var (τ := yInt) rfl k_111))))))) g_112 (fun Z1 H1 e P1 o_113 => ?_))
      refine st_nx ?_
      replace P := P1
      replace k_96 := ((yList yInt)).mono e.z k_96
      refine st_set P (ev_var (τ := yInt) rfl k_111) (fun v_114 Z1 H1 e P1 k_115 => ?_)
      replace P := P1
      replace k_96 := ((yList yInt)).mono e.z k_96
      replace o_113 := o_113.next e
      replace hB_94 := Option.some.inj hB_94
      subst hB_94
      exact ⟨_, ((w_93.1 ++ [(cutA x_numbers (some (w_93.2 + (2 : Int))) (some x_end_108))]), x_end_108), _, _, rfl, P, k_96, o_113, k_115, (nxt_go hq_95)⟩
    · replace P := P1
      replace hB_94 := ifF b_105 hB_94
      replace o_97 := o_97.next e
      replace hB_94 := Option.some.inj hB_94
      subst hB_94
      have hz := nxt_brk hq_95
      subst hz
      replace hF := go_inv hF
      refine st_nx ?_
      obtain ⟨Z, P, zf, hf, of⟩ := o_97.fz P
      have k_116 := hf
      clear hf zf of
      replace hF := Option.some.inj hF
      subst hF
      refine st_ret P (ev_var (τ := (yList (yList yInt))) rfl k_116) (fun v Z1 H1 P1 hv => ?_)
      exact q v _ _ P1.st hv
theorem cs_read_blocks (T : Txt K mg) {μ : Type} {M : Mu μ} {s : μ} {E : XK} {x_numbers : (List Int)} {y : (List (List Int))} (h : F_read_blocks x_numbers = some y) : CallS M (sp_read_blocks T) E (rac (ty (yList yInt) x_numbers) ra0) s (ty (yList (yList yInt)) y) s := by
  rintro Z H vs sz m ⟨v_numbers, _, rfl, h_numbers, rfl⟩ Q q
  exact ⟨Z, v_numbers, x_numbers, y, rfl, sz, h_numbers, h, fun v Z2 H2 st hv => q v Z2 H2 st.pure (M.pure st m) hv⟩
def sp_NumberReader___init__ (T : Txt K mg) : Sp := fun vs H Q _ => ∃ (p dx : Addr) (Z0 : Hp) (v_numbers : V) (x_numbers : (List Int)), vs = [.ref p, v_numbers] ∧ (Same Z0 H) ∧ (H p = some (.ins T.c_NumberReader dx [])) ∧ (Z0 p = none) ∧ (((yList yInt)).r Z0 v_numbers x_numbers) ∧ ∀ Z' H', Step [p] Z0 H Z' H' → (mu_NumberReader T p).m (F_NumberReader___init__ x_numbers) Z' H' → Q .non H'
set_option maxHeartbeats 4000000 in
theorem ok_NumberReader___init__ (T : Txt K mg) : FnOk P w K mg base CX0 1 T.f_NumberReader___init__ T.d_NumberReader___init__ ["self", "numbers"] (sp_NumberReader___init__ T) := by
  refine T.F_NumberReader___init__.ok sc_NumberReader___init__ (fun vs H Q E h => ?_) (fun cdv A outer s H vs Q E hr h => ?_)
  · obtain ⟨p, dx, Z0, v_numbers, x_numbers, rfl, _⟩ := h
    rfl
  · obtain ⟨p, dx, Z0, v_numbers, x_numbers, rfl, sz, hself, zself, h_numbers, q⟩ := h
    refine ⟨_, (pss_cons (ps_fld (pv 0) (pe_callTy call_tuple_of (by rfl) T.m_tuple (by decide +kernel) (pa_cons (pv 1) pa_nil)) rfl) 
      (pss_one (ps_fld (pv 0) pe_int rfl))), ?_⟩
    have P : Pt [p] Z0 H muN Z0 H () := ⟨Step.refl sz, trivial, fun _ h => (nomatch h)⟩
    generalize hF : F_NumberReader___init__ x_numbers = y at q
    unfold F_NumberReader___init__ at hF
    refine st_seq (st_fld (x := x_numbers) (τ := (yTup K yInt)) P hself zself List.not_mem_nil (.inl List.mem_cons_self) rfl (ev_tuple_of (fun _ _ _ h => h) (ev_li (ev_var (τ := (yList yInt)) rfl h_numbers))) T.cl_NumberReader T.n_NumberReader_numbers (Nat.lt_of_le_of_lt (Nat.le_refl 0) (by decide)) (fun v_118 Z1 H1 e P1 k_119 hself1 zself1 => ?_))
    refine st_nx ?_
    replace P := P1
    replace hself := hself1
    replace zself := zself1
    refine st_fld (x := (0 : Int)) (τ := yInt) P hself zself List.not_mem_nil (.inl List.mem_cons_self) rfl ev_int T.cl_NumberReader T.n_NumberReader_at (Nat.lt_of_le_of_lt (putF_le (Nat.le_refl 0)) (by decide)) (fun v_120 Z1 H1 e P1 k_121 hself1 zself1 => ?_)
    replace P := P1
    replace hself := hself1
    replace zself := zself1
    replace k_119 := ((yTup K yInt)).mono e.z k_119
    subst hF
    exact q _ _ P.st ⟨zself, ⟨dx, v_118, v_120, hself, k_119, k_121⟩⟩
theorem im_NumberReader___init__ (T : Txt K mg) {μ : Type} {M : Mu μ} {s : μ} {E : XK} {x_numbers : (List Int)} : InitM (ι := Addr) M T.c_NumberReader (sp_NumberReader___init__ T) E (rac (ty (yList yInt) x_numbers) ra0) s (fun p => mu_NumberReader T p) (fun p => p) (F_NumberReader___init__ x_numbers) s := by
  rintro Z H vs x dx sz m ⟨v_numbers, _, rfl, h_numbers, rfl⟩ hx zx nx Q q
  exact ⟨x, dx, Z, v_numbers, x_numbers, rfl, sz, hx, zx, h_numbers, fun Z2 H2 st mi => q x Z2 H2 rfl (st.weak fun a h => by rw [List.mem_singleton] at h; rw [h]; exact .inl List.mem_cons_self) (Mu.away st nx m) (fun a ha => .inl (List.mem_singleton.mp ha)) mi⟩
def sp_NumberReader_finish (T : Txt K mg) : Sp := fun vs H Q E => ∃ (p_self : Addr) (Z0 : Hp) (ds : NumberReader) (y : (Res Exc Unit)), vs = [.ref p_self] ∧ (Same Z0 H) ∧ ((mu_NumberReader T p_self).m ds Z0 H) ∧ (F_NumberReader_finish ds = some y) ∧ (∀ a, y = .ok a → ∀ v Z' H', Step (mu_NumberReader T p_self).fp Z0 H Z' H' → (mu_NumberReader T p_self).m ds Z' H' → (yNon).r Z' v a → Q v H') ∧ (∀ c, y = .er c → ∀ Z' H', Step (mu_NumberReader T p_self).fp Z0 H Z' H' → (mu_NumberReader T p_self).m ds Z' H' → E (exv T c) none H')
set_option maxHeartbeats 4000000 in
theorem ok_NumberReader_finish (T : Txt K mg) : FnOk P w K mg base (L2.CX P w) 1 T.f_NumberReader_finish T.d_NumberReader_finish ["self"] (sp_NumberReader_finish T) := by
  refine T.F_NumberReader_finish.okX sc_NumberReader_finish (fun vs H Q E h => ?_) (fun cdv A outer s H vs Q E hr h => ?_)
  · obtain ⟨p_self, Z0, ds, y, rfl, _⟩ := h
    rfl
  · obtain ⟨p_self, Z0, ds, y, rfl, sz, hm, hF, q⟩ := h
    refine ⟨_, (pss_one (ps_if (pt_cmpR op_lt (pe_fld (pv 0) rfl) (pe_callB call_len_seq (by rfl) T.m_len PySem.boot_len (pa_cons (pe_fld (pv 0) rfl) pa_nil)) (nomark _)) (pss_one (ps_raise rfl (takes_of rfl rfl rfl rfl) (pmk_own PySem.F.excBase_ValueError T.x_InvalidCode T.mc_InvalidCode T.kp_InvalidCode (raises_own T.xb_InvalidCode T.xt_InvalidCode) rfl))) pss_nil)), ?_⟩
    obtain ⟨q, qx⟩ := q
    have P := Pt.start (mu_NumberReader T p_self) sz hm
    unfold F_NumberReader_finish at hF
    refine st_if P (et_cmp (ev_lt (ev_mfld (fun _ _ m => m) (mf_NumberReader_at T) T.cl_NumberReader T.n_NumberReader_at rfl) (ev_lenT (fun _ _ _ h => h) (ev_mfld (fun _ _ m => m) (mf_NumberReader_numbers T) T.cl_NumberReader T.n_NumberReader_numbers rfl)))) (fun b_122 Z1 H1 e P1 => ?_) (fun b_122 Z1 H1 e P1 => ?_)
    · replace P := P1
      have hB := ifT b_122 hF
      replace hF := hB
      clear hB
      replace hF := Option.some.inj hF
      subst hF
      exact qx _ rfl _ _ P.st P.m
    · replace P := P1
      have hB := ifF b_122 hF
      replace hF := hB
      clear hB
      refine st_next ?_
      replace hF := Option.some.inj hF
      subst hF
      exact q _ rfl .non _ _ P.st P.m rfl
theorem cs_NumberReader_finish (T : Txt K mg) {p_self : Addr} {ds : NumberReader} {E : XK}  {y : Unit} (h : F_NumberReader_finish ds = some (.ok y)) : CallS (mu_NumberReader T p_self) (sp_NumberReader_finish T) E (rac (isRef p_self) ra0) ds (ty yNon y) ds := by
  rintro Z H vs sz m ⟨_, _, rfl, rfl, rfl⟩ Q q
  exact ⟨p_self, Z, ds, _, rfl, sz, m, h, fun a e v Z2 H2 st2 m2 hv => by cases e; exact q v Z2 H2 st2 m2 hv, fun _ z => nomatch z⟩
theorem cx_NumberReader_finish (T : Txt K mg) {p_self : Addr} {ds : NumberReader} {E : XK}  {e : Exc} (h : F_NumberReader_finish ds = some (.er e)) : CallE (mu_NumberReader T p_self) (sp_NumberReader_finish T) E (rac (isRef p_self) ra0) ds (exv T e) ds := by
  rintro Z H vs sz m ⟨_, _, rfl, rfl, rfl⟩ Q q
  exact ⟨p_self, Z, ds, _, rfl, sz, m, h, (fun _ z => nomatch z), fun c e Z2 H2 st2 m2 => by cases e; exact q Z2 H2 st2 m2⟩
theorem cu_NumberReader_finish (T : Txt K mg) {p_self : Addr} {ds : NumberReader} {E : XK}  {y : Unit} {μ : Type} {M : Mu μ} {s s2 : μ} (hm : ∀ Z H, M.m s Z H → (mu_NumberReader T p_self).m ds Z H) (hf : ∀ a ∈ (mu_NumberReader T p_self).fp, a ∈ M.fp) (hp : ∀ Z H Z' H', M.m s Z H → Step (mu_NumberReader T p_self).fp Z H Z' H' → (mu_NumberReader T p_self).m ds Z' H' → M.m s2 Z' H') (h : F_NumberReader_finish ds = some (.ok y)) : CallS M (sp_NumberReader_finish T) E (rac (isRef p_self) ra0) s (ty yNon y) s2 := by
  rintro Z H vs sz m ⟨_, _, rfl, rfl, rfl⟩ Q q
  exact ⟨p_self, Z, ds, _, rfl, sz, hm _ _ m, h, fun a e v Z2 H2 st2 m2 hv => by cases e; exact q v Z2 H2 (st2.weak fun a h => .inl (hf a h)) (hp _ _ _ _ m st2 m2) hv, fun _ z => nomatch z⟩
theorem cv_NumberReader_finish (T : Txt K mg) {p_self : Addr} {ds : NumberReader} {E : XK}  {e : Exc} {μ : Type} {M : Mu μ} {s s2 : μ} (hm : ∀ Z H, M.m s Z H → (mu_NumberReader T p_self).m ds Z H) (hf : ∀ a ∈ (mu_NumberReader T p_self).fp, a ∈ M.fp) (hp : ∀ Z H Z' H', M.m s Z H → Step (mu_NumberReader T p_self).fp Z H Z' H' → (mu_NumberReader T p_self).m ds Z' H' → M.m s2 Z' H') (h : F_NumberReader_finish ds = some (.er e)) : CallE M (sp_NumberReader_finish T) E (rac (isRef p_self) ra0) s (exv T e) s2 := by
  rintro Z H vs sz m ⟨_, _, rfl, rfl, rfl⟩ Q q
  exact ⟨p_self, Z, ds, _, rfl, sz, hm _ _ m, h, (fun _ z => nomatch z), fun c e Z2 H2 st2 m2 => by cases e; exact q Z2 H2 (st2.weak fun a h => .inl (hf a h)) (hp _ _ _ _ m st2 m2)⟩
def sp_NumberReader_take (T : Txt K mg) : Sp := fun vs H Q E => ∃ (p_self : Addr) (Z0 : Hp) (ds : NumberReader) (y : ((Res Exc Int) × NumberReader)), vs = [.ref p_self] ∧ (Same Z0 H) ∧ ((mu_NumberReader T p_self).m ds Z0 H) ∧ (F_NumberReader_take ds = some y) ∧ (∀ a s', y = (.ok a, s') → ∀ v Z' H', Step (mu_NumberReader T p_self).fp Z0 H Z' H' → (mu_NumberReader T p_self).m s' Z' H' → (yInt).r Z' v a → Q v H') ∧ (∀ c s', y = (.er c, s') → ∀ Z' H', Step (mu_NumberReader T p_self).fp Z0 H Z' H' → (mu_NumberReader T p_self).m s' Z' H' → E (exv T c) none H')
set_option maxHeartbeats 4000000 in
theorem ok_NumberReader_take (T : Txt K mg) : FnOk P w K mg base (L2.CX P w) 1 T.f_NumberReader_take T.d_NumberReader_take ["self"] (sp_NumberReader_take T) := by
  refine T.F_NumberReader_take.okX sc_NumberReader_take (fun vs H Q E h => ?_) (fun cdv A outer s H vs Q E hr h => ?_)
  · obtain ⟨p_self, Z0, ds, y, rfl, _⟩ := h
    rfl
  · obtain ⟨p_self, Z0, ds, y, rfl, sz, hm, hF, q⟩ := h
    refine ⟨_, (pss_cons (ps_if (pt_cmpR op_eq (pe_fld (pv 0) rfl) (pe_callB call_len_seq (by rfl) T.m_len PySem.boot_len (pa_cons (pe_fld (pv 0) rfl) pa_nil)) (nomark _)) (pss_one (ps_raise rfl (takes_of rfl rfl rfl rfl) (pmk_own PySem.F.excBase_ValueError T.x_InvalidCode T.mc_InvalidCode T.kp_InvalidCode (raises_own T.xb_InvalidCode T.xt_InvalidCode) rfl))) pss_nil) 
      (pss_cons (ps_fldaug (pv 0) pe_int in_add) 
      (pss_one (ps_ret (pe_ix ix_tup (pe_fld (pv 0) rfl) (pe_op op_sub (pe_fld (pv 0) rfl) pe_int) (fun _ _ => rfl)))))), ?_⟩
    obtain ⟨q, qx⟩ := q
    have P := Pt.start (mu_NumberReader T p_self) sz hm
    unfold F_NumberReader_take at hF
    refine st_seq (st_if P (et_cmp (ev_eq flat_int (ev_mfld (fun _ _ m => m) (mf_NumberReader_at T) T.cl_NumberReader T.n_NumberReader_at rfl) (ev_lenT (fun _ _ _ h => h) (ev_mfld (fun _ _ m => m) (mf_NumberReader_numbers T) T.cl_NumberReader T.n_NumberReader_numbers rfl)))) (fun b_123 Z1 H1 e P1 => ?_) (fun b_123 Z1 H1 e P1 => ?_))
    · replace P := P1
      have hB := ifT b_123 hF
      replace hF := hB
      clear hB
      replace hF := Option.some.inj hF
      subst hF
      exact qx _ _ rfl _ _ P.st P.m
    · replace P := P1
      have hB := ifF b_123 hF
      replace hF := hB
      clear hB
      refine st_next0 ?_
      refine st_seq (st_maug (s2 := { ds with «at» := ds.«at» + (1 : Int) }) (c := ds) P (fun _ _ m => m) (fun _ h => h) (fun _ _ _ _ _ _ n => n) (ms_NumberReader_at T) (mf_NumberReader_at T) T.cl_NumberReader T.n_NumberReader_at rfl ev_int (fun Z1 H1 e P1 => ?_))
      refine st_nx ?_
      replace P := P1
      obtain ⟨i_124, h_125, hF⟩ := bind_inv hF
      replace hF := Option.some.inj hF
      subst hF
      refine st_ret P (ev_ixT (ev_mfld (fun _ _ m => m) (mf_NumberReader_numbers T) T.cl_NumberReader T.n_NumberReader_numbers rfl) (ev_sub (ev_mfld (fun _ _ m => m) (mf_NumberReader_at T) T.cl_NumberReader T.n_NumberReader_at rfl) ev_int) h_125) (fun v Z1 H1 P1 hv => ?_)
      exact q _ _ rfl v _ _ P1.st P1.m hv
theorem cs_NumberReader_take (T : Txt K mg) {p_self : Addr} {ds ds' : NumberReader} {E : XK}  {y : Int} (h : F_NumberReader_take ds = some (.ok y, ds')) : CallS (mu_NumberReader T p_self) (sp_NumberReader_take T) E (rac (isRef p_self) ra0) ds (ty yInt y) ds' := by
  rintro Z H vs sz m ⟨_, _, rfl, rfl, rfl⟩ Q q
  exact ⟨p_self, Z, ds, _, rfl, sz, m, h, fun a s2 e v Z2 H2 st2 m2 hv => by cases e; exact q v Z2 H2 st2 m2 hv, fun _ _ z => nomatch z⟩
theorem cx_NumberReader_take (T : Txt K mg) {p_self : Addr} {ds ds' : NumberReader} {E : XK}  {e : Exc} (h : F_NumberReader_take ds = some (.er e, ds')) : CallE (mu_NumberReader T p_self) (sp_NumberReader_take T) E (rac (isRef p_self) ra0) ds (exv T e) ds' := by
  rintro Z H vs sz m ⟨_, _, rfl, rfl, rfl⟩ Q q
  exact ⟨p_self, Z, ds, _, rfl, sz, m, h, (fun _ _ z => nomatch z), fun c s2 e Z2 H2 st2 m2 => by cases e; exact q Z2 H2 st2 m2⟩
theorem cu_NumberReader_take (T : Txt K mg) {p_self : Addr} {ds ds' : NumberReader} {E : XK}  {y : Int} {μ : Type} {M : Mu μ} {s s2 : μ} (hm : ∀ Z H, M.m s Z H → (mu_NumberReader T p_self).m ds Z H) (hf : ∀ a ∈ (mu_NumberReader T p_self).fp, a ∈ M.fp) (hp : ∀ Z H Z' H', M.m s Z H → Step (mu_NumberReader T p_self).fp Z H Z' H' → (mu_NumberReader T p_self).m ds' Z' H' → M.m s2 Z' H') (h : F_NumberReader_take ds = some (.ok y, ds')) : CallS M (sp_NumberReader_take T) E (rac (isRef p_self) ra0) s (ty yInt y) s2 := by
  rintro Z H vs sz m ⟨_, _, rfl, rfl, rfl⟩ Q q
  exact ⟨p_self, Z, ds, _, rfl, sz, hm _ _ m, h, fun a s2 e v Z2 H2 st2 m2 hv => by cases e; exact q v Z2 H2 (st2.weak fun a h => .inl (hf a h)) (hp _ _ _ _ m st2 m2) hv, fun _ _ z => nomatch z⟩
theorem cv_NumberReader_take (T : Txt K mg) {p_self : Addr} {ds ds' : NumberReader} {E : XK}  {e : Exc} {μ : Type} {M : Mu μ} {s s2 : μ} (hm : ∀ Z H, M.m s Z H → (mu_NumberReader T p_self).m ds Z H) (hf : ∀ a ∈ (mu_NumberReader T p_self).fp, a ∈ M.fp) (hp : ∀ Z H Z' H', M.m s Z H → Step (mu_NumberReader T p_self).fp Z H Z' H' → (mu_NumberReader T p_self).m ds' Z' H' → M.m s2 Z' H') (h : F_NumberReader_take ds = some (.er e, ds')) : CallE M (sp_NumberReader_take T) E (rac (isRef p_self) ra0) s (exv T e) s2 := by
  rintro Z H vs sz m ⟨_, _, rfl, rfl, rfl⟩ Q q
  exact ⟨p_self, Z, ds, _, rfl, sz, hm _ _ m, h, (fun _ _ z => nomatch z), fun c s2 e Z2 H2 st2 m2 => by cases e; exact q Z2 H2 (st2.weak fun a h => .inl (hf a h)) (hp _ _ _ _ m st2 m2)⟩
def sp_NumberReader_size (T : Txt K mg) : Sp := fun vs H Q E => ∃ (p_self : Addr) (Z0 : Hp) (ds : NumberReader) (y : ((Res Exc Int) × NumberReader)), vs = [.ref p_self] ∧ (Same Z0 H) ∧ ((mu_NumberReader T p_self).m ds Z0 H) ∧ (F_NumberReader_size ds = some y) ∧ (∀ a s', y = (.ok a, s') → ∀ v Z' H', Step (mu_NumberReader T p_self).fp Z0 H Z' H' → (mu_NumberReader T p_self).m s' Z' H' → (yInt).r Z' v a → Q v H') ∧ (∀ c s', y = (.er c, s') → ∀ Z' H', Step (mu_NumberReader T p_self).fp Z0 H Z' H' → (mu_NumberReader T p_self).m s' Z' H' → E (exv T c) none H')
set_option maxHeartbeats 4000000 in
theorem ok_NumberReader_size (T : Txt K mg) : FnOk P w K mg base (L2.CX P w) 2 T.f_NumberReader_size T.d_NumberReader_size ["self"] (sp_NumberReader_size T) := by
  have G_NumberReader_take : FnOk P w K mg base (L2.CX P w) 1 T.f_NumberReader_take T.d_NumberReader_take ["self"] (sp_NumberReader_take T) := ok_NumberReader_take T
  refine T.F_NumberReader_size.okX sc_NumberReader_size (fun vs H Q E h => ?_) (fun cdv A outer s H vs Q E hr h => ?_)
  · obtain ⟨p_self, Z0, ds, y, rfl, _⟩ := h
    rfl
  · obtain ⟨p_self, Z0, ds, y, rfl, sz, hm, hF, q⟩ := h
    refine ⟨_, (pss_cons (ps_set (i := 1) sc_NumberReader_size.nd rfl (.inl rfl) (pe_meth0 (pv 0) T.cl_NumberReader T.me_NumberReader_take G_NumberReader_take (hr.mono (by decide)) T.b_NumberReader_take .nil (passes_call (takes_of rfl rfl rfl rfl) (fun _ _ _ _ h => h)))) 
      (pss_cons (ps_if (pt_cmpR op_lt (pv 1) pe_int (nomark _)) (pss_one (ps_raise rfl (takes_of rfl rfl rfl rfl) (pmk_own PySem.F.excBase_ValueError T.x_InvalidCode T.mc_InvalidCode T.kp_InvalidCode (raises_own T.xb_InvalidCode T.xt_InvalidCode) rfl))) pss_nil) 
      (pss_one (ps_ret (pv 1))))), ?_⟩
    obtain ⟨q, qx⟩ := q
    have P := Pt.start (mu_NumberReader T p_self) sz hm
    unfold F_NumberReader_size at hF
    obtain ⟨p_128, h_127, hF⟩ := bind_inv hF
    obtain ⟨p_128, s_129⟩ := p_128
    rcases p_128 with r_126 | e
    rotate_left
    · replace hF := rer_inv hF
      replace hF := Option.some.inj hF
      subst hF
      refine st_seq (st_setE P (eve_mmeth (fun _ _ m => m) (mo_NumberReader T (by decide +kernel)) (cx_NumberReader_take T h_127) (ev_ref rfl) eva_nil) (fun Z1 H1 e1 P1 => ?_))
      exact qx _ _ rfl _ _ P1.st P1.m
    replace hF := rok_inv hF
    refine st_seq (st_set P (ev_mmeth (fun _ _ m => m) (mo_NumberReader T (by decide +kernel)) (cs_NumberReader_take T h_127) (ev_ref rfl) eva_nil) (fun v_130 Z1 H1 e P1 k_131 => ?_))
    refine st_nx ?_
    replace P := P1
    refine st_seq (st_if P (et_cmp (ev_lt (ev_var (τ := yInt) rfl k_131) ev_int)) (fun b_132 Z1 H1 e P1 => ?_) (fun b_132 Z1 H1 e P1 => ?_))
    · replace P := P1
      have hB := ifT b_132 hF
      replace hF := hB
      clear hB
      replace hF := Option.some.inj hF
      subst hF
      exact qx _ _ rfl _ _ P.st P.m
    · replace P := P1
      have hB := ifF b_132 hF
      replace hF := hB
      clear hB
      refine st_next0 ?_
      replace hF := Option.some.inj hF
      subst hF
      refine st_ret P (ev_var (τ := yInt) rfl k_131) (fun v Z1 H1 P1 hv => ?_)
      exact q _ _ rfl v _ _ P1.st P1.m hv
theorem cs_NumberReader_size (T : Txt K mg) {p_self : Addr} {ds ds' : NumberReader} {E : XK}  {y : Int} (h : F_NumberReader_size ds = some (.ok y, ds')) : CallS (mu_NumberReader T p_self) (sp_NumberReader_size T) E (rac (isRef p_self) ra0) ds (ty yInt y) ds' := by
  rintro Z H vs sz m ⟨_, _, rfl, rfl, rfl⟩ Q q
  exact ⟨p_self, Z, ds, _, rfl, sz, m, h, fun a s2 e v Z2 H2 st2 m2 hv => by cases e; exact q v Z2 H2 st2 m2 hv, fun _ _ z => nomatch z⟩
theorem cx_NumberReader_size (T : Txt K mg) {p_self : Addr} {ds ds' : NumberReader} {E : XK}  {e : Exc} (h : F_NumberReader_size ds = some (.er e, ds')) : CallE (mu_NumberReader T p_self) (sp_NumberReader_size T) E (rac (isRef p_self) ra0) ds (exv T e) ds' := by
  rintro Z H vs sz m ⟨_, _, rfl, rfl, rfl⟩ Q q
  exact ⟨p_self, Z, ds, _, rfl, sz, m, h, (fun _ _ z => nomatch z), fun c s2 e Z2 H2 st2 m2 => by cases e; exact q Z2 H2 st2 m2⟩
theorem cu_NumberReader_size (T : Txt K mg) {p_self : Addr} {ds ds' : NumberReader} {E : XK}  {y : Int} {μ : Type} {M : Mu μ} {s s2 : μ} (hm : ∀ Z H, M.m s Z H → (mu_NumberReader T p_self).m ds Z H) (hf : ∀ a ∈ (mu_NumberReader T p_self).fp, a ∈ M.fp) (hp : ∀ Z H Z' H', M.m s Z H → Step (mu_NumberReader T p_self).fp Z H Z' H' → (mu_NumberReader T p_self).m ds' Z' H' → M.m s2 Z' H') (h : F_NumberReader_size ds = some (.ok y, ds')) : CallS M (sp_NumberReader_size T) E (rac (isRef p_self) ra0) s (ty yInt y) s2 := by
  rintro Z H vs sz m ⟨_, _, rfl, rfl, rfl⟩ Q q
  exact ⟨p_self, Z, ds, _, rfl, sz, hm _ _ m, h, fun a s2 e v Z2 H2 st2 m2 hv => by cases e; exact q v Z2 H2 (st2.weak fun a h => .inl (hf a h)) (hp _ _ _ _ m st2 m2) hv, fun _ _ z => nomatch z⟩
theorem cv_NumberReader_size (T : Txt K mg) {p_self : Addr} {ds ds' : NumberReader} {E : XK}  {e : Exc} {μ : Type} {M : Mu μ} {s s2 : μ} (hm : ∀ Z H, M.m s Z H → (mu_NumberReader T p_self).m ds Z H) (hf : ∀ a ∈ (mu_NumberReader T p_self).fp, a ∈ M.fp) (hp : ∀ Z H Z' H', M.m s Z H → Step (mu_NumberReader T p_self).fp Z H Z' H' → (mu_NumberReader T p_self).m ds' Z' H' → M.m s2 Z' H') (h : F_NumberReader_size ds = some (.er e, ds')) : CallE M (sp_NumberReader_size T) E (rac (isRef p_self) ra0) s (exv T e) s2 := by
  rintro Z H vs sz m ⟨_, _, rfl, rfl, rfl⟩ Q q
  exact ⟨p_self, Z, ds, _, rfl, sz, hm _ _ m, h, (fun _ _ z => nomatch z), fun c s2 e Z2 H2 st2 m2 => by cases e; exact q Z2 H2 (st2.weak fun a h => .inl (hf a h)) (hp _ _ _ _ m st2 m2)⟩
def sp_NumberReader_integers (T : Txt K mg) : Sp := fun vs H Q E => ∃ (p_self : Addr) (Z0 : Hp) (ds : NumberReader) (y : ((Res Exc (List Int)) × NumberReader)), vs = [.ref p_self] ∧ (Same Z0 H) ∧ ((mu_NumberReader T p_self).m ds Z0 H) ∧ (F_NumberReader_integers ds = some y) ∧ (∀ a s', y = (.ok a, s') → ∀ v Z' H', Step (mu_NumberReader T p_self).fp Z0 H Z' H' → (mu_NumberReader T p_self).m s' Z' H' → ((yList yInt)).r Z' v a → Q v H') ∧ (∀ c s', y = (.er c, s') → ∀ Z' H', Step (mu_NumberReader T p_self).fp Z0 H Z' H' → (mu_NumberReader T p_self).m s' Z' H' → E (exv T c) none H')
set_option maxHeartbeats 4000000 in
theorem ok_NumberReader_integers (T : Txt K mg) : FnOk P w K mg base (L2.CX P w) 3 T.f_NumberReader_integers T.d_NumberReader_integers ["self"] (sp_NumberReader_integers T) := by
  have G_NumberReader_size : FnOk P w K mg base (L2.CX P w) 2 T.f_NumberReader_size T.d_NumberReader_size ["self"] (sp_NumberReader_size T) := ok_NumberReader_size T
  have G_NumberReader_take : FnOk P w K mg base (L2.CX P w) 1 T.f_NumberReader_take T.d_NumberReader_take ["self"] (sp_NumberReader_take T) := ok_NumberReader_take T
  refine T.F_NumberReader_integers.okX sc_NumberReader_integers (fun vs H Q E h => ?_) (fun cdv A outer s H vs Q E hr h => ?_)
  · obtain ⟨p_self, Z0, ds, y, rfl, _⟩ := h
    rfl
  · obtain ⟨p_self, Z0, ds, y, rfl, sz, hm, hF, q⟩ := h
    refine ⟨_, (pss_one (ps_ret (pe_lcr (own := [("_", 1)]) (g := gName 1) rfl rfl rfl (takesL rfl (takes_of rfl rfl rfl rfl) (fun _ _ _ _ h => h)) rfl sc_NumberReader_integers.nd (pi_range1 rfl T.m_range (pa_cons (pe_meth0 (pv 0) T.cl_NumberReader T.me_NumberReader_size G_NumberReader_size (hr.mono (by decide)) T.b_NumberReader_size .nil (passes_call (takes_of rfl rfl rfl rfl) (fun _ _ _ _ h => h))) pa_nil)) (blkOk_by (own := [("_", 1)]) (N := ["self", "_"]) (sc := defScope s_NumberReader_integers) (by decide +kernel)) (fun _ _ _ _ _ => (pg_name (i := 1) sc_NumberReader_integers.nd rfl (Or.inl rfl))) (fun _ _ _ _ _ => pts_nil) (fun _ _ _ _ _ => (pe_meth0 (pv 0) T.cl_NumberReader T.me_NumberReader_take G_NumberReader_take (hr.mono (by decide)) T.b_NumberReader_take .nil (passLR rfl takesB (fun _ _ _ h => h))))))), ?_⟩
    obtain ⟨q, qx⟩ := q
    have P := Pt.start (mu_NumberReader T p_self) sz hm
    unfold F_NumberReader_integers at hF
    obtain ⟨p_135, h_134, hF⟩ := bind_inv hF
    obtain ⟨p_135, s_136⟩ := p_135
    rcases p_135 with r_133 | e
    rotate_left
    · replace hF := rer_inv hF
      replace hF := Option.some.inj hF
      subst hF
      refine st_retE P (eve_lcI (eie_range (eae_head (eve_mmeth (fun _ _ m => m) (mo_NumberReader T (by decide +kernel)) (cx_NumberReader_size T h_134) (ev_ref rfl) eva_nil)))) (fun Z1 H1 e1 P1 => ?_)
      exact qx _ _ rfl _ _ P1.st P1.m
    replace hF := rok_inv hF
    obtain ⟨g_137, hF⟩ := guard_inv hF
    obtain ⟨p_148, h_147, hF⟩ := bind_inv hF
    obtain ⟨p_148, s_149⟩ := p_148
    rcases p_148 with l_146 | e
    rotate_left
    · replace hF := rer_inv hF
      replace hF := Option.some.inj hF
      subst hF
      refine st_retE P (eve_mapR (υ := yInt) (fun (x_138 : Int) (s_139 : NumberReader) => ((F_NumberReader_take s_139).bind fun p_145 => some (p_145.1, p_145.2) : Option (Res Exc Int × NumberReader))) (ei_rng1 (ev_mmeth (fun _ _ m => m) (mo_NumberReader T (by decide +kernel)) (cs_NumberReader_size T h_134) (ev_ref rfl) eva_nil) g_137) (fun x_138 v_140 Z' H' s_139 r_142 s' zz hh rx_141 hp => by
            have hy := hp
            obtain ⟨p_145, h_143, hy⟩ := bind_inv hy
            obtain ⟨rr, s_144⟩ := p_145
            obtain ⟨e1, e2⟩ := Prod.mk.inj (Option.some.inj hy)
            dsimp only at e1 e2
            subst e1
            subst e2
            exact ⟨_, tgt_name, (wpe_s wpe_z (by decide)), (ev_mmeth (fun _ _ m => m) (mo_NumberReader T (by decide +kernel)) (cs_NumberReader_take T h_143) (ev_ref rfl) eva_nil)⟩) (fun x_138 v_140 Z' H' s_139 s' zz hh rx_141 hp => by
            have hy := hp
            obtain ⟨p_145, h_143, hy⟩ := bind_inv hy
            obtain ⟨rr, s_144⟩ := p_145
            obtain ⟨e1, e2⟩ := Prod.mk.inj (Option.some.inj hy)
            dsimp only at e1 e2
            subst e1
            subst e2
            exact ⟨_, tgt_name, (wpe_s wpe_z (by decide)), (eve_mmeth (fun _ _ m => m) (mo_NumberReader T (by decide +kernel)) (cx_NumberReader_take T h_143) (ev_ref rfl) eva_nil)⟩) h_147) (fun Z1 H1 e1 P1 => ?_)
      exact qx _ _ rfl _ _ P1.st P1.m
    replace hF := rok_inv hF
    replace hF := Option.some.inj hF
    subst hF
    refine st_ret P (ev_fz (en_mapR (υ := yInt) (fun (x_138 : Int) (s_139 : NumberReader) => ((F_NumberReader_take s_139).bind fun p_145 => some (p_145.1, p_145.2) : Option (Res Exc Int × NumberReader))) (ei_rng1 (ev_mmeth (fun _ _ m => m) (mo_NumberReader T (by decide +kernel)) (cs_NumberReader_size T h_134) (ev_ref rfl) eva_nil) g_137) (fun x_138 v_140 Z' H' s_139 r_142 s' zz hh rx_141 hp => by
          have hy := hp
          obtain ⟨p_145, h_143, hy⟩ := bind_inv hy
          obtain ⟨rr, s_144⟩ := p_145
          obtain ⟨e1, e2⟩ := Prod.mk.inj (Option.some.inj hy)
          dsimp only at e1 e2
          subst e1
          subst e2
          exact ⟨_, tgt_name, (wpe_s wpe_z (by decide)), (ev_mmeth (fun _ _ m => m) (mo_NumberReader T (by decide +kernel)) (cs_NumberReader_take T h_143) (ev_ref rfl) eva_nil)⟩) h_147)) (fun v Z1 H1 P1 hv => ?_)
    exact q _ _ rfl v _ _ P1.st P1.m hv
theorem cs_NumberReader_integers (T : Txt K mg) {p_self : Addr} {ds ds' : NumberReader} {E : XK}  {y : (List Int)} (h : F_NumberReader_integers ds = some (.ok y, ds')) : CallS (mu_NumberReader T p_self) (sp_NumberReader_integers T) E (rac (isRef p_self) ra0) ds (ty (yList yInt) y) ds' := by
  rintro Z H vs sz m ⟨_, _, rfl, rfl, rfl⟩ Q q
  exact ⟨p_self, Z, ds, _, rfl, sz, m, h, fun a s2 e v Z2 H2 st2 m2 hv => by cases e; exact q v Z2 H2 st2 m2 hv, fun _ _ z => nomatch z⟩
theorem cx_NumberReader_integers (T : Txt K mg) {p_self : Addr} {ds ds' : NumberReader} {E : XK}  {e : Exc} (h : F_NumberReader_integers ds = some (.er e, ds')) : CallE (mu_NumberReader T p_self) (sp_NumberReader_integers T) E (rac (isRef p_self) ra0) ds (exv T e) ds' := by
  rintro Z H vs sz m ⟨_, _, rfl, rfl, rfl⟩ Q q
  exact ⟨p_self, Z, ds, _, rfl, sz, m, h, (fun _ _ z => nomatch z), fun c s2 e Z2 H2 st2 m2 => by cases e; exact q Z2 H2 st2 m2⟩
theorem cu_NumberReader_integers (T : Txt K mg) {p_self : Addr} {ds ds' : NumberReader} {E : XK}  {y : (List Int)} {μ : Type} {M : Mu μ} {s s2 : μ} (hm : ∀ Z H, M.m s Z H → (mu_NumberReader T p_self).m ds Z H) (hf : ∀ a ∈ (mu_NumberReader T p_self).fp, a ∈ M.fp) (hp : ∀ Z H Z' H', M.m s Z H → Step (mu_NumberReader T p_self).fp Z H Z' H' → (mu_NumberReader T p_self).m ds' Z' H' → M.m s2 Z' H') (h : F_NumberReader_integers ds = some (.ok y, ds')) : CallS M (sp_NumberReader_integers T) E (rac (isRef p_self) ra0) s (ty (yList yInt) y) s2 := by
  rintro Z H vs sz m ⟨_, _, rfl, rfl, rfl⟩ Q q
  exact ⟨p_self, Z, ds, _, rfl, sz, hm _ _ m, h, fun a s2 e v Z2 H2 st2 m2 hv => by cases e; exact q v Z2 H2 (st2.weak fun a h => .inl (hf a h)) (hp _ _ _ _ m st2 m2) hv, fun _ _ z => nomatch z⟩
theorem cv_NumberReader_integers (T : Txt K mg) {p_self : Addr} {ds ds' : NumberReader} {E : XK}  {e : Exc} {μ : Type} {M : Mu μ} {s s2 : μ} (hm : ∀ Z H, M.m s Z H → (mu_NumberReader T p_self).m ds Z H) (hf : ∀ a ∈ (mu_NumberReader T p_self).fp, a ∈ M.fp) (hp : ∀ Z H Z' H', M.m s Z H → Step (mu_NumberReader T p_self).fp Z H Z' H' → (mu_NumberReader T p_self).m ds' Z' H' → M.m s2 Z' H') (h : F_NumberReader_integers ds = some (.er e, ds')) : CallE M (sp_NumberReader_integers T) E (rac (isRef p_self) ra0) s (exv T e) s2 := by
  rintro Z H vs sz m ⟨_, _, rfl, rfl, rfl⟩ Q q
  exact ⟨p_self, Z, ds, _, rfl, sz, hm _ _ m, h, (fun _ _ z => nomatch z), fun c s2 e Z2 H2 st2 m2 => by cases e; exact q Z2 H2 (st2.weak fun a h => .inl (hf a h)) (hp _ _ _ _ m st2 m2)⟩
def sp_lists_in (T : Txt K mg) : Sp := fun vs H Q _ => ∃ (Z0 : Hp) (v_numbers : V) (x_numbers : (List Int)) (y : (List (List Int))), vs = [v_numbers] ∧ (Same Z0 H) ∧ (((yList yInt)).r Z0 v_numbers x_numbers) ∧ (F_lists_in x_numbers = some y) ∧ ∀ v Z' H', Step [] Z0 H Z' H' → ((yList (yList yInt))).r Z' v y → Q v H'
set_option maxHeartbeats 4000000 in
theorem ok_lists_in (T : Txt K mg) : FnOk P w K mg base CX0 4 T.f_lists_in T.d_lists_in ["numbers"] (sp_lists_in T) := by
  have G_NumberReader_finish : FnOk P w K mg base (L2.CX P w) 1 T.f_NumberReader_finish T.d_NumberReader_finish ["self"] (sp_NumberReader_finish T) := ok_NumberReader_finish T
  have G_NumberReader_size : FnOk P w K mg base (L2.CX P w) 2 T.f_NumberReader_size T.d_NumberReader_size ["self"] (sp_NumberReader_size T) := ok_NumberReader_size T
  have G_NumberReader_integers : FnOk P w K mg base (L2.CX P w) 3 T.f_NumberReader_integers T.d_NumberReader_integers ["self"] (sp_NumberReader_integers T) := ok_NumberReader_integers T
  have G_NumberReader___init__ : FnOk P w K mg base CX0 1 T.f_NumberReader___init__ T.d_NumberReader___init__ ["self", "numbers"] (sp_NumberReader___init__ T) := ok_NumberReader___init__ T
  refine T.F_lists_in.ok sc_lists_in (fun vs H Q E h => ?_) (fun cdv A outer s H vs Q E hr h => ?_)
  · obtain ⟨Z0, v_numbers, x_numbers, y, rfl, _⟩ := h
    rfl
  · obtain ⟨Z0, v_numbers, x_numbers, y, rfl, sz, h_numbers, hF, q⟩ := h
    refine ⟨_, (pss_cons (ps_set (i := 1) sc_lists_in.nd rfl (.inr rfl) (pe_make T.mk_NumberReader G_NumberReader___init__ (hr.mono (by decide)) (by rfl) T.mc_NumberReader T.b_NumberReader___init__ .nil pass0 (pa_cons (pv 0) pa_nil))) 
      (pss_cons (ps_try_many (Wout := fun _ _ _ _ => False) rfl rfl takes0 (fun W pn xe tk po => (by exact (pss_cons (ps_setLcr (i := 2) (own := [("_", 3)]) (g := gName 3) rfl rfl rfl (takesL (W := fun cls d H => ∀ σ, W cls d σ H) rfl tk (fun _ _ σ _ h => h σ)) rfl sc_lists_in.nd rfl rfl (sw_true rfl rfl rfl (by decide +kernel)) (pi_range1 rfl T.m_range (pa_cons (pe_meth0 (pv 1) T.cl_NumberReader T.me_NumberReader_size G_NumberReader_size (hr.mono (by decide)) T.b_NumberReader_size .nil (passes_call (E := fun cls d H => ∀ σ, W cls d σ H) tk (fun _ _ σ _ h => h σ))) pa_nil)) (blkOk_by (own := [("_", 3)]) (N := ["numbers", "reader", "lists", "_"]) (sc := defScope s_lists_in) (by decide +kernel)) (fun _ _ _ _ _ => (pg_name (i := 3) sc_lists_in.nd rfl (Or.inl rfl))) (fun _ _ _ _ _ => pts_nil) (fun _ _ _ _ _ => (pe_meth0 (pv 1) T.cl_NumberReader T.me_NumberReader_integers G_NumberReader_integers (hr.mono (by decide)) T.b_NumberReader_integers .nil (passLR rfl takesB (fun _ _ _ h => h))))) 
      (pss_one (ps_expr (pe_meth0 (pv 1) T.cl_NumberReader T.me_NumberReader_finish G_NumberReader_finish (hr.mono (by decide)) T.b_NumberReader_finish .nil (passes_call (E := fun cls d H => ∀ σ, W cls d σ H) tk (fun _ _ σ _ h => h σ)))))))) (.cons ⟨rfl, by decide, .inl T.mc_InvalidCode⟩ (fun a oe cls d pn _ _ => (pss_one (ps_ret (pe_lst pa_nil)))) .nil)) 
      (pss_one (ps_ret (pv 2))))), ?_⟩
    have P := Pt.start0 sz
    unfold F_lists_in at hF
    obtain ⟨x_reader_156, h_157, hF⟩ := bind_inv hF
    replace h_157 := Option.some.inj h_157
    refine st_seq (st_setM (x := x_reader_156) P (by rw [← h_157]; exact (ev_makeM (im_NumberReader___init__ T) (eva_cons (ev_var (τ := (yList yInt)) rfl h_numbers) eva_nil))) (fun p_reader_155 Z1 H1 e fr P1 => ?_))
    refine st_nx ?_
    replace P := P1
    refine st_seq ?_
    obtain ⟨p_160, h_159, hF⟩ := bind_inv hF
    obtain ⟨p_160, s_161⟩ := p_160
    rcases p_160 with r_158 | e
    rotate_left
    · replace hF := rer_inv hF
      cases e
      · refine st_seq (st_setE P (eve_lcI (eie_range (eae_head (eve_mmeth (fun Z H m => by
              obtain ⟨m0, m1, d1⟩ := m
              exact m1) (mo_NumberReader T (by decide +kernel)) (cv_NumberReader_size T (s := ((), x_reader_156)) (s2 := ((), s_161)) (fun Z H m => by
              obtain ⟨m0, m1, d1⟩ := m
              exact m1) (fun a hb => (List.mem_append_right _ hb)) (fun Z H Z' H' m e n => by
              obtain ⟨m0, m1, d1⟩ := m
              have n0 := n
              exact ⟨(Mu.keep m0 e (fun a ha hb => (fun a ha => d1 a ha) a ha hb)), n0, d1⟩) h_159) (ev_ref rfl) eva_nil)))) (fun Z1 H1 e1 P1 => ?_))
        intro σ
        refine ⟨true, T.xm_InvalidCode_InvalidCode, fun _ a ha => ?_, fun z => nomatch z⟩
        replace P := P1
        replace hF := Option.some.inj hF
        subst hF
        refine st_ret P (ev_fz (en_listD (eva_nils (τ := (yList yInt))) (by show 0 ≤ sizeLine; decide))) (fun v Z1 H1 P1 hv => ?_)
        exact q v _ _ P1.st hv
    replace hF := rok_inv hF
    obtain ⟨g_162, hF⟩ := guard_inv hF
    obtain ⟨p_173, h_172, hF⟩ := bind_inv hF
    obtain ⟨p_173, s_174⟩ := p_173
    rcases p_173 with l_171 | e
    rotate_left
    · replace hF := rer_inv hF
      cases e
      · refine st_seq (st_setE P (eve_mapR (υ := (yList yInt)) (fun (x_163 : Int) (s_164 : (Unit × NumberReader)) => ((F_NumberReader_integers s_164.2).bind fun p_170 => some (p_170.1, (s_164.1, p_170.2)) : Option (Res Exc (List Int) × (Unit × NumberReader)))) (ei_rng1 (ev_mmeth (fun Z H m => by
              obtain ⟨m0, m1, d1⟩ := m
              exact m1) (mo_NumberReader T (by decide +kernel)) (cu_NumberReader_size T (s := ((), x_reader_156)) (s2 := ((), s_161)) (fun Z H m => by
              obtain ⟨m0, m1, d1⟩ := m
              exact m1) (fun a hb => (List.mem_append_right _ hb)) (fun Z H Z' H' m e n => by
              obtain ⟨m0, m1, d1⟩ := m
              have n0 := n
              exact ⟨(Mu.keep m0 e (fun a ha hb => (fun a ha => d1 a ha) a ha hb)), n0, d1⟩) h_159) (ev_ref rfl) eva_nil) g_162) (fun x_163 v_165 Z' H' s_164 r_167 s' zz hh rx_166 hp => by
              have hy := hp
              obtain ⟨p_170, h_168, hy⟩ := bind_inv hy
              obtain ⟨rr, s_169⟩ := p_170
              obtain ⟨e1, e2⟩ := Prod.mk.inj (Option.some.inj hy)
              dsimp only at e1 e2
              subst e1
              subst e2
              exact ⟨_, tgt_name, (wpe_s wpe_z (by decide)), (ev_mmeth (fun Z H m => by
                    obtain ⟨m0, m1, d1⟩ := m
                    exact m1) (mo_NumberReader T (by decide +kernel)) (cu_NumberReader_integers T (s := (s_164.1, s_164.2)) (s2 := (s_164.1, s_169)) (fun Z H m => by
                    obtain ⟨m0, m1, d1⟩ := m
                    exact m1) (fun a hb => (List.mem_append_right _ hb)) (fun Z H Z' H' m e n => by
                    obtain ⟨m0, m1, d1⟩ := m
                    have n0 := n
                    exact ⟨(Mu.keep m0 e (fun a ha hb => (fun a ha => d1 a ha) a ha hb)), n0, d1⟩) h_168) (ev_ref rfl) eva_nil)⟩) (fun x_163 v_165 Z' H' s_164 s' zz hh rx_166 hp => by
              have hy := hp
              obtain ⟨p_170, h_168, hy⟩ := bind_inv hy
              obtain ⟨rr, s_169⟩ := p_170
              obtain ⟨e1, e2⟩ := Prod.mk.inj (Option.some.inj hy)
              dsimp only at e1 e2
              subst e1
              subst e2
              exact ⟨_, tgt_name, (wpe_s wpe_z (by decide)), (eve_mmeth (fun Z H m => by
                    obtain ⟨m0, m1, d1⟩ := m
                    exact m1) (mo_NumberReader T (by decide +kernel)) (cv_NumberReader_integers T (s := (s_164.1, s_164.2)) (s2 := (s_164.1, s_169)) (fun Z H m => by
                    obtain ⟨m0, m1, d1⟩ := m
                    exact m1) (fun a hb => (List.mem_append_right _ hb)) (fun Z H Z' H' m e n => by
                    obtain ⟨m0, m1, d1⟩ := m
                    have n0 := n
                    exact ⟨(Mu.keep m0 e (fun a ha hb => (fun a ha => d1 a ha) a ha hb)), n0, d1⟩) h_168) (ev_ref rfl) eva_nil)⟩) h_172) (fun Z1 H1 e1 P1 => ?_))
        intro σ
        refine ⟨true, T.xm_InvalidCode_InvalidCode, fun _ a ha => ?_, fun z => nomatch z⟩
        replace P := P1
        replace hF := Option.some.inj hF
        subst hF
        refine st_ret P (ev_fz (en_listD (eva_nils (τ := (yList yInt))) (by show 0 ≤ sizeLine; decide))) (fun v Z1 H1 P1 hv => ?_)
        exact q v _ _ P1.st hv
    replace hF := rok_inv hF
    refine st_seq (st_set P (ev_fz (en_mapR (υ := (yList yInt)) (fun (x_163 : Int) (s_164 : (Unit × NumberReader)) => ((F_NumberReader_integers s_164.2).bind fun p_170 => some (p_170.1, (s_164.1, p_170.2)) : Option (Res Exc (List Int) × (Unit × NumberReader)))) (ei_rng1 (ev_mmeth (fun Z H m => by
          obtain ⟨m0, m1, d1⟩ := m
          exact m1) (mo_NumberReader T (by decide +kernel)) (cu_NumberReader_size T (s := ((), x_reader_156)) (s2 := ((), s_161)) (fun Z H m => by
          obtain ⟨m0, m1, d1⟩ := m
          exact m1) (fun a hb => (List.mem_append_right _ hb)) (fun Z H Z' H' m e n => by
          obtain ⟨m0, m1, d1⟩ := m
          have n0 := n
          exact ⟨(Mu.keep m0 e (fun a ha hb => (fun a ha => d1 a ha) a ha hb)), n0, d1⟩) h_159) (ev_ref rfl) eva_nil) g_162) (fun x_163 v_165 Z' H' s_164 r_167 s' zz hh rx_166 hp => by
          have hy := hp
          obtain ⟨p_170, h_168, hy⟩ := bind_inv hy
          obtain ⟨rr, s_169⟩ := p_170
          obtain ⟨e1, e2⟩ := Prod.mk.inj (Option.some.inj hy)
          dsimp only at e1 e2
          subst e1
          subst e2
          exact ⟨_, tgt_name, (wpe_s wpe_z (by decide)), (ev_mmeth (fun Z H m => by
                obtain ⟨m0, m1, d1⟩ := m
                exact m1) (mo_NumberReader T (by decide +kernel)) (cu_NumberReader_integers T (s := (s_164.1, s_164.2)) (s2 := (s_164.1, s_169)) (fun Z H m => by
                obtain ⟨m0, m1, d1⟩ := m
                exact m1) (fun a hb => (List.mem_append_right _ hb)) (fun Z H Z' H' m e n => by
                obtain ⟨m0, m1, d1⟩ := m
                have n0 := n
                exact ⟨(Mu.keep m0 e (fun a ha hb => (fun a ha => d1 a ha) a ha hb)), n0, d1⟩) h_168) (ev_ref rfl) eva_nil)⟩) h_172)) (fun v_175 Z1 H1 e P1 k_176 => ?_))
    refine st_nx ?_
    replace P := P1
    obtain ⟨p_179, h_178, hF⟩ := bind_inv hF
    rcases p_179 with r_177 | e
    rotate_left
    · replace hF := rer_inv hF
      cases e
      · refine st_exprE P (eve_mmeth (fun Z H m => by
              obtain ⟨m0, m1, d1⟩ := m
              exact m1) (mo_NumberReader T (by decide +kernel)) (cv_NumberReader_finish T (s := (s_174.1, s_174.2)) (s2 := (s_174.1, s_174.2)) (fun Z H m => by
              obtain ⟨m0, m1, d1⟩ := m
              exact m1) (fun a hb => (List.mem_append_right _ hb)) (fun Z H Z' H' m e n => by
              obtain ⟨m0, m1, d1⟩ := m
              have n0 := n
              exact ⟨(Mu.keep m0 e (fun a ha hb => (fun a ha => d1 a ha) a ha hb)), n0, d1⟩) h_178) (ev_ref rfl) eva_nil) (fun Z1 H1 e1 P1 => ?_)
        intro σ
        refine ⟨true, T.xm_InvalidCode_InvalidCode, fun _ a ha => ?_, fun z => nomatch z⟩
        replace P := P1
        replace hF := Option.some.inj hF
        subst hF
        refine st_ret P (ev_fz (en_listD (eva_nils (τ := (yList yInt))) (by show 0 ≤ sizeLine; decide))) (fun v Z1 H1 P1 hv => ?_)
        exact q v _ _ P1.st hv
    replace hF := rok_inv hF
    refine st_expr P (ev_mmeth (fun Z H m => by
          obtain ⟨m0, m1, d1⟩ := m
          exact m1) (mo_NumberReader T (by decide +kernel)) (cu_NumberReader_finish T (s := (s_174.1, s_174.2)) (s2 := (s_174.1, s_174.2)) (fun Z H m => by
          obtain ⟨m0, m1, d1⟩ := m
          exact m1) (fun a hb => (List.mem_append_right _ hb)) (fun Z H Z' H' m e n => by
          obtain ⟨m0, m1, d1⟩ := m
          have n0 := n
          exact ⟨(Mu.keep m0 e (fun a ha hb => (fun a ha => d1 a ha) a ha hb)), n0, d1⟩) h_178) (ev_ref rfl) eva_nil) (fun Z1 H1 e P1 => ?_)
    replace P := P1
    replace k_176 := ((yList (yList yInt))).mono e.z k_176
    refine st_nx ?_
    replace hF := Option.some.inj hF
    subst hF
    refine st_ret P (ev_var (τ := (yList (yList yInt))) rfl k_176) (fun v Z1 H1 P1 hv => ?_)
    exact q v _ _ P1.st hv
theorem cs_lists_in (T : Txt K mg) {μ : Type} {M : Mu μ} {s : μ} {E : XK} {x_numbers : (List Int)} {y : (List (List Int))} (h : F_lists_in x_numbers = some y) : CallS M (sp_lists_in T) E (rac (ty (yList yInt) x_numbers) ra0) s (ty (yList (yList yInt)) y) s := by
  rintro Z H vs sz m ⟨v_numbers, _, rfl, h_numbers, rfl⟩ Q q
  exact ⟨Z, v_numbers, x_numbers, y, rfl, sz, h_numbers, h, fun v Z2 H2 st hv => q v Z2 H2 st.pure (M.pure st m) hv⟩
def sp_read_log (T : Txt K mg) : Sp := fun vs H Q _ => ∃ (Z0 : Hp) (v_numbers : V) (x_numbers : (List Int)) (y : (Option ((List Int) × (List (List Int))))), vs = [v_numbers] ∧ (Same Z0 H) ∧ (((yList yInt)).r Z0 v_numbers x_numbers) ∧ (F_read_log x_numbers = some y) ∧ ∀ v Z' H', Step [] Z0 H Z' H' → ((yOpt (yP2 K (yList yInt) (yList (yList yInt))))).r Z' v y → Q v H'
set_option maxHeartbeats 4000000 in
theorem ok_read_log (T : Txt K mg) : FnOk P w K mg base CX0 5 T.f_read_log T.d_read_log ["numbers"] (sp_read_log T) := by
  have G_lists_in : FnOk P w K mg base CX0 4 T.f_lists_in T.d_lists_in ["numbers"] (sp_lists_in T) := ok_lists_in T
  have G_read_blocks : FnOk P w K mg base CX0 4 T.f_read_blocks T.d_read_blocks ["numbers"] (sp_read_blocks T) := ok_read_blocks T
  refine T.F_read_log.ok sc_read_log (fun vs H Q E h => ?_) (fun cdv A outer s H vs Q E hr h => ?_)
  · obtain ⟨Z0, v_numbers, x_numbers, y, rfl, _⟩ := h
    rfl
  · obtain ⟨Z0, v_numbers, x_numbers, y, rfl, sz, h_numbers, hF, q⟩ := h
    refine ⟨_, (pss_cons (ps_set (i := 1) sc_read_log.nd rfl (.inl rfl) (pe_call G_read_blocks (hr.mono (by decide)) (by rfl) T.g_read_blocks T.F_read_blocks.kp T.b_read_blocks .nil pass0 (pa_cons (pv 0) pa_nil))) 
      (pss_cons (ps_if (pt_cmpR (op_eqD hr.units) (pv 1) (pe_lst pa_nil) (nomark _)) (pss_one (ps_ret pe_non)) pss_nil) 
      (pss_cons (ps_set (i := 2) sc_read_log.nd rfl (.inl rfl) (pe_call G_lists_in (hr.mono (by decide)) (by rfl) T.g_lists_in T.F_lists_in.kp T.b_lists_in .nil pass0 (pa_cons (pe_ix ix_list (pv 1) pe_int (fun _ _ => rfl)) pa_nil))) 
      (pss_cons (ps_if (pt_cmpR (op_eqD hr.units) (pv 2) (pe_lst pa_nil) (nomark _)) (pss_one (ps_ret pe_non)) pss_nil) 
      (pss_one (ps_ret (pe_tup (pa_cons (pe_ix ix_list (pv 2) pe_int (fun _ _ => rfl)) (pa_cons (pe_op op_cat (pe_slice sl_list (pv 2) (po_some pe_int) po_none) (pe_slice sl_list (pv 1) (po_some pe_int) po_none)) pa_nil))))))))), ?_⟩
    have P := Pt.start0 sz
    unfold F_read_log at hF
    obtain ⟨r_196, h_197, hF⟩ := bind_inv hF
    refine st_seq (st_set P (ev_call (cs_read_blocks T h_197) (eva_cons (ev_var (τ := (yList yInt)) rfl h_numbers) eva_nil)) (fun v_198 Z1 H1 e P1 k_199 => ?_))
    refine st_nx ?_
    replace P := P1
    refine st_seq (st_if P (et_cmp (ev_eqD (eqd_list (eqd_list eqd_int)) (by decide) (ev_var (τ := (yList (yList yInt))) rfl k_199) (ev_fz (en_listD (eva_nils (τ := (yList yInt))) (by show 0 ≤ sizeLine; decide))))) (fun b_200 Z1 H1 e P1 => ?_) (fun b_200 Z1 H1 e P1 => ?_))
    · replace P := P1
      have hB := ifT b_200 hF
      replace hF := hB
      clear hB
      replace hF := Option.some.inj hF
      subst hF
      refine st_ret P (ev_none (τ := (yP2 K (yList yInt) (yList (yList yInt)))) ev_non) (fun v Z1 H1 P1 hv => ?_)
      exact q v _ _ P1.st hv
    · replace P := P1
      have hB := ifF b_200 hF
      replace hF := hB
      clear hB
      refine st_next0 ?_
      replace k_199 := ((yList (yList yInt))).mono e.z k_199
      obtain ⟨i_201, h_202, hF⟩ := bind_inv hF
      obtain ⟨r_203, h_204, hF⟩ := bind_inv hF
      refine st_seq (st_set P (ev_call (cs_lists_in T h_204) (eva_cons (ev_ixL (ev_li (ev_var (τ := (yList (yList yInt))) rfl k_199)) ev_int h_202) eva_nil)) (fun v_205 Z1 H1 e P1 k_206 => ?_))
      refine st_nx ?_
      replace P := P1
      replace k_199 := ((yList (yList yInt))).mono e.z k_199
      refine st_seq (st_if P (et_cmp (ev_eqD (eqd_list (eqd_list eqd_int)) (by decide) (ev_var (τ := (yList (yList yInt))) rfl k_206) (ev_fz (en_listD (eva_nils (τ := (yList yInt))) (by show 0 ≤ sizeLine; decide))))) (fun b_207 Z1 H1 e P1 => ?_) (fun b_207 Z1 H1 e P1 => ?_))
      · replace P := P1
        have hB := ifT b_207 hF
        replace hF := hB
        clear hB
        replace hF := Option.some.inj hF
        subst hF
        refine st_ret P (ev_none (τ := (yP2 K (yList yInt) (yList (yList yInt)))) ev_non) (fun v Z1 H1 P1 hv => ?_)
        exact q v _ _ P1.st hv
      · replace P := P1
        have hB := ifF b_207 hF
        replace hF := hB
        clear hB
        refine st_next0 ?_
        replace k_199 := ((yList (yList yInt))).mono e.z k_199
        replace k_206 := ((yList (yList yInt))).mono e.z k_206
        obtain ⟨i_208, h_209, hF⟩ := bind_inv hF
        obtain ⟨g_210, hF⟩ := guard_inv hF
        replace hF := Option.some.inj hF
        subst hF
        refine st_ret P (ev_some nn_p2 (ev_p2 (K := K) (eva_cons (ev_ixL (ev_li (ev_var (τ := (yList (yList yInt))) rfl k_206)) ev_int h_209) (eva_cons (ev_fz (en_cat (ev_li (ev_fz (en_slL (ev_li (ev_var (τ := (yList (yList yInt))) rfl k_206)) (eo_some ev_int) eo_none))) (ev_li (ev_fz (en_slL (ev_li (ev_var (τ := (yList (yList yInt))) rfl k_199)) (eo_some ev_int) eo_none))) g_210)) eva_nil)))) (fun v Z1 H1 P1 hv => ?_)
        exact q v _ _ P1.st hv
theorem cs_read_log (T : Txt K mg) {μ : Type} {M : Mu μ} {s : μ} {E : XK} {x_numbers : (List Int)} {y : (Option ((List Int) × (List (List Int))))} (h : F_read_log x_numbers = some y) : CallS M (sp_read_log T) E (rac (ty (yList yInt) x_numbers) ra0) s (ty (yOpt (yP2 K (yList yInt) (yList (yList yInt)))) y) s := by
  rintro Z H vs sz m ⟨v_numbers, _, rfl, h_numbers, rfl⟩ Q q
  exact ⟨Z, v_numbers, x_numbers, y, rfl, sz, h_numbers, h, fun v Z2 H2 st hv => q v Z2 H2 st.pure (M.pure st m) hv⟩
def sp_log_name (T : Txt K mg) : Sp := fun vs H Q _ => ∃ (Z0 : Hp) (v_number : V) (x_number : Int) (y : Str), vs = [v_number] ∧ (Same Z0 H) ∧ ((yInt).r Z0 v_number x_number) ∧ (F_log_name x_number = some y) ∧ ∀ v Z' H', Step [] Z0 H Z' H' → (yStr).r Z' v y → Q v H'
set_option maxHeartbeats 4000000 in
theorem ok_log_name (T : Txt K mg) : FnOk P w K mg base CX0 1 T.f_log_name T.d_log_name ["number"] (sp_log_name T) := by
  refine T.F_log_name.ok sc_log_name (fun vs H Q E h => ?_) (fun cdv A outer s H vs Q E hr h => ?_)
  · obtain ⟨Z0, v_number, x_number, y, rfl, _⟩ := h
    rfl
  · obtain ⟨Z0, v_number, x_number, y, rfl, sz, h_number, hF, q⟩ := h
    refine ⟨_, (pss_one (ps_ret (pe_joined (.cons (pe_fmt (pe_glob (v := .str "log ") rfl T.m_LOG_WORD.choose_spec ⟨_, rfl⟩)) (.cons (pe_fmt (pv 0)) .nil))))), ?_⟩
    have P := Pt.start0 sz
    unfold F_log_name at hF
    obtain ⟨g_214, hF⟩ := guard_inv hF
    obtain ⟨g_215, hF⟩ := guard_inv hF
    obtain ⟨g_216, hF⟩ := guard_inv hF
    replace hF := Option.some.inj hF
    subst hF
    refine st_ret P (ev_joined (evj_cons (ev_fmtS ev_str) g_214 (evj_cons (ev_fmtI (ev_var (τ := yInt) rfl h_number) g_215) g_216 evj_nil))) (fun v Z1 H1 P1 hv => ?_)
    exact q v _ _ P1.st hv
theorem cs_log_name (T : Txt K mg) {μ : Type} {M : Mu μ} {s : μ} {E : XK} {x_number : Int} {y : Str} (h : F_log_name x_number = some y) : CallS M (sp_log_name T) E (rac (ty yInt x_number) ra0) s (ty yStr y) s := by
  rintro Z H vs sz m ⟨v_number, _, rfl, h_number, rfl⟩ Q q
  exact ⟨Z, v_number, x_number, y, rfl, sz, h_number, h, fun v Z2 H2 st hv => q v Z2 H2 st.pure (M.pure st m) hv⟩
def sp_is_digit (T : Txt K mg) : Sp := fun vs H Q _ => ∃ (Z0 : Hp) (v_char : V) (x_char : Str), vs = [v_char] ∧ (Same Z0 H) ∧ ((yStr).r Z0 v_char x_char) ∧ ∀ v Z' H', Step [] Z0 H Z' H' → (yBool).r Z' v (F_is_digit x_char) → Q v H'
set_option maxHeartbeats 4000000 in
theorem ok_is_digit (T : Txt K mg) : FnOk P w K mg base CX0 1 T.f_is_digit T.d_is_digit ["char"] (sp_is_digit T) := by
  refine T.F_is_digit.ok sc_is_digit (fun vs H Q E h => ?_) (fun cdv A outer s H vs Q E hr h => ?_)
  · obtain ⟨Z0, v_char, x_char, rfl, _⟩ := h
    rfl
  · obtain ⟨Z0, v_char, x_char, rfl, sz, h_char, q⟩ := h
    refine ⟨_, (pss_one (ps_ret (pe_chain op_le_str op_le_str pe_str (pv 0) pe_str))), ?_⟩
    have P := Pt.start0 sz
    generalize hF : F_is_digit x_char = y at q
    unfold F_is_digit at hF
    subst hF
    refine st_ret P (ev_chainS ev_str (ev_var (τ := yStr) rfl h_char) ev_str) (fun v Z1 H1 P1 hv => ?_)
    exact q v _ _ P1.st hv
theorem cs_is_digit (T : Txt K mg) {μ : Type} {M : Mu μ} {s : μ} {E : XK} {x_char : Str} : CallS M (sp_is_digit T) E (rac (ty yStr x_char) ra0) s (ty yBool (F_is_digit x_char)) s := by
  rintro Z H vs sz m ⟨v_char, _, rfl, h_char, rfl⟩ Q q
  exact ⟨Z, v_char, x_char, rfl, sz, h_char, fun v Z2 H2 st hv => q v Z2 H2 st.pure (M.pure st m) hv⟩
def sp_number_in (T : Txt K mg) : Sp := fun vs H Q _ => ∃ (Z0 : Hp) (v_text : V) (x_text : Str) (y : (Option Int)), vs = [v_text] ∧ (Same Z0 H) ∧ ((yStr).r Z0 v_text x_text) ∧ (F_number_in x_text = some y) ∧ ∀ v Z' H', Step [] Z0 H Z' H' → ((yOpt yInt)).r Z' v y → Q v H'
set_option maxHeartbeats 4000000 in
theorem ok_number_in (T : Txt K mg) : FnOk P w K mg base CX0 2 T.f_number_in T.d_number_in ["text"] (sp_number_in T) := by
  have G_is_digit : FnOk P w K mg base CX0 1 T.f_is_digit T.d_is_digit ["char"] (sp_is_digit T) := ok_is_digit T
  refine T.F_number_in.ok sc_number_in (fun vs H Q E h => ?_) (fun cdv A outer s H vs Q E hr h => ?_)
  · obtain ⟨Z0, v_text, x_text, y, rfl, _⟩ := h
    rfl
  · obtain ⟨Z0, v_text, x_text, y, rfl, sz, h_text, hF, q⟩ := h
    refine ⟨_, (pss_cons (ps_if (PW.pt (pw_or (pt_cmpR op_eq (pv 0) pe_str (nomark _)) (pw_or1 (pt_not (pt_val (pe_callB (cr_all rfl) (by rfl) T.m_all (by decide +kernel) (pa_cons (pe_lc (own := [("char", 1)]) (g := gName 1) rfl sc_number_in.nd (pi_str (pv 0)) (blkOk_by (own := [("char", 1)]) (N := ["text", "char"]) (sc := defScope s_number_in) (by decide +kernel)) (fun _ _ _ _ _ => (pg_name (i := 1) sc_number_in.nd rfl (Or.inl rfl))) (fun _ _ _ _ _ => pts_nil) (fun _ _ _ _ _ => (pe_call G_is_digit (hr.mono (by decide)) (by rfl) T.g_is_digit T.F_is_digit.kp T.b_is_digit .nil pass0 (pa_cons (pv 1) pa_nil)))) pa_nil))))))) (pss_one (ps_ret pe_non)) pss_nil) 
      (pss_cons (ps_if (PW.pt (pw_and (pt_cmpR op_eq (pe_ix ix_str (pv 0) pe_int (fun _ _ => rfl)) pe_str (nomark _)) (pw_and1 (pt_cmpR op_gt (pe_callB call_len_str (by rfl) T.m_len PySem.boot_len (pa_cons (pv 0) pa_nil)) pe_int (nomark _))))) (pss_one (ps_ret pe_non)) pss_nil) 
      (pss_one (ps_ret (pe_callTy call_int_str (by rfl) T.m_int (by decide +kernel) (pa_cons (pv 0) pa_nil)))))), ?_⟩
    have P := Pt.start0 sz
    unfold F_number_in at hF
    refine st_seq (st_if P (et_or0 (et_cmp (ev_eq flat_str (ev_var (τ := yStr) rfl h_text) ev_str)) (et_not (et_val (ev_allL (ev_li (ev_fz (en_map (υ := yBool) (fun (x_227 : Str) => (F_is_digit x_227)) (ei_str (ev_var (τ := yStr) rfl h_text)) (fun x_227 v_228 Z' H' zz hh rx_229 => by
          exact ⟨_, tgt_name, (wpe_s wpe_z (by decide)), (ev_call (cs_is_digit T) (eva_cons (ev_var (τ := yStr) rfl rx_229) eva_nil))⟩)))))))) (fun b_230 Z1 H1 e P1 => ?_) (fun b_230 Z1 H1 e P1 => ?_))
    · replace P := P1
      have hB := ifT b_230 hF
      replace hF := hB
      clear hB
      replace hF := Option.some.inj hF
      subst hF
      refine st_ret P (ev_none (τ := yInt) ev_non) (fun v Z1 H1 P1 hv => ?_)
      exact q v _ _ P1.st hv
    · replace P := P1
      have hB := ifF b_230 hF
      replace hF := hB
      clear hB
      refine st_next0 ?_
      obtain ⟨i_231, h_232, hF⟩ := bind_inv hF
      refine st_seq (st_if P (et_and0 (et_cmp (ev_eq flat_str (ev_ixS (ev_var (τ := yStr) rfl h_text) ev_int h_232) ev_str)) (et_cmp (ev_gt (ev_len_str (ev_var (τ := yStr) rfl h_text)) ev_int))) (fun b_233 Z1 H1 e P1 => ?_) (fun b_233 Z1 H1 e P1 => ?_))
      · replace P := P1
        have hB := ifT b_233 hF
        replace hF := hB
        clear hB
        replace hF := Option.some.inj hF
        subst hF
        refine st_ret P (ev_none (τ := yInt) ev_non) (fun v Z1 H1 P1 hv => ?_)
        exact q v _ _ P1.st hv
      · replace P := P1
        have hB := ifF b_233 hF
        replace hF := hB
        clear hB
        refine st_next0 ?_
        obtain ⟨n_234, h_235, hF⟩ := bind_inv hF
        obtain ⟨g_236, hF⟩ := guard_inv hF
        replace hF := Option.some.inj hF
        subst hF
        refine st_ret P (ev_some nn_int (ev_int_str (ev_var (τ := yStr) rfl h_text) h_235 g_236)) (fun v Z1 H1 P1 hv => ?_)
        exact q v _ _ P1.st hv
theorem cs_number_in (T : Txt K mg) {μ : Type} {M : Mu μ} {s : μ} {E : XK} {x_text : Str} {y : (Option Int)} (h : F_number_in x_text = some y) : CallS M (sp_number_in T) E (rac (ty yStr x_text) ra0) s (ty (yOpt yInt) y) s := by
  rintro Z H vs sz m ⟨v_text, _, rfl, h_text, rfl⟩ Q q
  exact ⟨Z, v_text, x_text, y, rfl, sz, h_text, h, fun v Z2 H2 st hv => q v Z2 H2 st.pure (M.pure st m) hv⟩
def sp_log_number (T : Txt K mg) : Sp := fun vs H Q _ => ∃ (Z0 : Hp) (v_name : V) (x_name : Str) (y : (Option Int)), vs = [v_name] ∧ (Same Z0 H) ∧ ((yStr).r Z0 v_name x_name) ∧ (F_log_number x_name = some y) ∧ ∀ v Z' H', Step [] Z0 H Z' H' → ((yOpt yInt)).r Z' v y → Q v H'
set_option maxHeartbeats 4000000 in
theorem ok_log_number (T : Txt K mg) : FnOk P w K mg base CX0 3 T.f_log_number T.d_log_number ["name"] (sp_log_number T) := by
  have G_number_in : FnOk P w K mg base CX0 2 T.f_number_in T.d_number_in ["text"] (sp_number_in T) := ok_number_in T
  refine T.F_log_number.ok sc_log_number (fun vs H Q E h => ?_) (fun cdv A outer s H vs Q E hr h => ?_)
  · obtain ⟨Z0, v_name, x_name, y, rfl, _⟩ := h
    rfl
  · obtain ⟨Z0, v_name, x_name, y, rfl, sz, h_name, hF, q⟩ := h
    refine ⟨_, (pss_cons (ps_if (pt_not (pt_val (pe_bm PySem.F.plainAttrs_str PySem.F.slot_str_startswith PySem.F.type_str_startswith mt_startswith (pv 0) (pa_cons (pe_glob (v := .str "log ") rfl T.m_LOG_WORD.choose_spec ⟨_, rfl⟩) pa_nil)))) (pss_one (ps_ret pe_non)) pss_nil) 
      (pss_cons (ps_set (i := 1) sc_log_number.nd rfl (.inl rfl) (pe_call G_number_in (hr.mono (by decide)) (by rfl) T.g_number_in T.F_number_in.kp T.b_number_in .nil pass0 (pa_cons (pe_slice sl_str (pv 0) (po_some (pe_callB call_len_str (by rfl) T.m_len PySem.boot_len (pa_cons (pe_glob (v := .str "log ") rfl T.m_LOG_WORD.choose_spec ⟨_, rfl⟩) pa_nil))) po_none) pa_nil))) 
      (pss_one (ps_ret (pe_ifExp (pt_cmpR (op_eqD hr.units) (pv 1) pe_int (nomark _)) pe_non (pv 1)))))), ?_⟩
    have P := Pt.start0 sz
    unfold F_log_number at hF
    refine st_seq (st_if P (et_not (et_val (ev_sw (ev_var (τ := yStr) rfl h_name) ev_str))) (fun b_242 Z1 H1 e P1 => ?_) (fun b_242 Z1 H1 e P1 => ?_))
    · replace P := P1
      have hB := ifT b_242 hF
      replace hF := hB
      clear hB
      replace hF := Option.some.inj hF
      subst hF
      refine st_ret P (ev_none (τ := yInt) ev_non) (fun v Z1 H1 P1 hv => ?_)
      exact q v _ _ P1.st hv
    · replace P := P1
      have hB := ifF b_242 hF
      replace hF := hB
      clear hB
      refine st_next0 ?_
      obtain ⟨r_243, h_244, hF⟩ := bind_inv hF
      refine st_seq (st_set P (ev_call (cs_number_in T h_244) (eva_cons (ev_slS (ev_var (τ := yStr) rfl h_name) (eo_some (ev_len_str ev_str)) eo_none) eva_nil)) (fun v_245 Z1 H1 e P1 k_246 => ?_))
      refine st_nx ?_
      replace P := P1
      replace k_246 : ((yOpt yInt)).r Z1 v_245 r_243 := k_246
      replace hF := Option.some.inj hF
      subst hF
      refine st_ret P (ev_if0 (et_cmp (ev_eqD (eqd_opt eqd_int (fun _ z => nomatch z)) (by decide) (ev_var (τ := (yOpt yInt)) rfl k_246) (ev_some nn_int ev_int))) (ev_none (τ := yInt) ev_non) (ev_var (τ := (yOpt yInt)) rfl k_246)) (fun v Z1 H1 P1 hv => ?_)
      exact q v _ _ P1.st hv
theorem cs_log_number (T : Txt K mg) {μ : Type} {M : Mu μ} {s : μ} {E : XK} {x_name : Str} {y : (Option Int)} (h : F_log_number x_name = some y) : CallS M (sp_log_number T) E (rac (ty yStr x_name) ra0) s (ty (yOpt yInt) y) s := by
  rintro Z H vs sz m ⟨v_name, _, rfl, h_name, rfl⟩ Q q
  exact ⟨Z, v_name, x_name, y, rfl, sz, h_name, h, fun v Z2 H2 st hv => q v Z2 H2 st.pure (M.pure st m) hv⟩
def sp_law_names (T : Txt K mg) : Sp := fun vs H Q _ => ∃ (st sc : Addr) (Z0 : Hp) (ds : DS) (y : (Bool × DS)), vs = [.ref st] ∧ (Same Z0 H) ∧ ((muD st sc).m ds Z0 H) ∧ (F_law_names ds = some y) ∧ ∀ v Z' H', Step (muD st sc).fp Z0 H Z' H' → (muD st sc).m y.2 Z' H' → (yBool).r Z' v y.1 → Q v H'
set_option maxHeartbeats 4000000 in
theorem ok_law_names (T : Txt K mg) : FnOk P w K mg base CX0 4 T.f_law_names T.d_law_names ["state"] (sp_law_names T) := by
  have G_log_number : FnOk P w K mg base CX0 3 T.f_log_number T.d_log_number ["name"] (sp_log_number T) := ok_log_number T
  have G_log_name : FnOk P w K mg base CX0 1 T.f_log_name T.d_log_name ["number"] (sp_log_name T) := ok_log_name T
  have G_law_next : FnOk P w K mg base CX0 2 T.f_law_next T.d_law_next ["state", "many"] (sp_law_next T) := ok_law_next T
  refine T.F_law_names.ok sc_law_names (fun vs H Q E h => ?_) (fun cdv A outer s H vs Q E hr h => ?_)
  · obtain ⟨st, sc, Z0, ds, y, rfl, _⟩ := h
    rfl
  · obtain ⟨st, sc, Z0, ds, y, rfl, sz, hm, hF, q⟩ := h
    refine ⟨_, (pss_cons (ps_set (i := 1) sc_law_names.nd rfl (.inl rfl) (pe_op op_add pe_int (pe_call G_law_next (hr.mono (by decide)) (by rfl) T.g_law_next T.F_law_next.kp T.b_law_next .nil pass0 (pa_cons (pv 0) (pa_cons (pe_ix ix_list (pe_lst (pa_cons pe_int (pa_cons (pe_op op_pow pe_int pe_int) pa_nil))) (pe_call G_law_next (hr.mono (by decide)) (by rfl) T.g_law_next T.F_law_next.kp T.b_law_next .nil pass0 (pa_cons (pv 0) (pa_cons pe_int pa_nil))) (fun _ _ => rfl)) pa_nil))))) 
      (pss_cons (ps_if (PW.pt (pw_or (pt_cmpR op_ne (pe_call G_log_name (hr.mono (by decide)) (by rfl) T.g_log_name T.F_log_name.kp T.b_log_name .nil pass0 (pa_cons (pv 1) pa_nil)) (pe_op op_add_str pe_str (pe_callTy call_str_int (by rfl) T.m_str (by decide +kernel) (pa_cons (pv 1) pa_nil))) (nomark _)) (pw_or1 (pt_cmpR (op_neD hr.units) (pe_call G_log_number (hr.mono (by decide)) (by rfl) T.g_log_number T.F_log_number.kp T.b_log_number .nil pass0 (pa_cons (pe_op op_add_str pe_str (pe_callTy call_str_int (by rfl) T.m_str (by decide +kernel) (pa_cons (pv 1) pa_nil))) pa_nil)) (pv 1) (nomark _))))) (pss_one (ps_ret pe_bl)) pss_nil) 
      (pss_cons (ps_for PassesOwn.never rfl (pi_list (pe_lst (pa_cons pe_str (pa_cons pe_str (pa_cons pe_str (pa_cons pe_str (pa_cons pe_str (pa_cons pe_str (pa_cons pe_str (pa_cons pe_str (pa_cons pe_str (pa_cons pe_str (pa_cons pe_str pa_nil))))))))))))) (pg_name (i := 2) sc_law_names.nd rfl (.inl rfl)) (pss_one (ps_if (pt_cmpR op_notN (pe_call G_log_number (hr.mono (by decide)) (by rfl) T.g_log_number T.F_log_number.kp T.b_log_number .nil pass0 (pa_cons (pv 2) pa_nil)) pe_non (nomark _)) (pss_one (ps_ret pe_bl)) pss_nil))) 
      (pss_one (ps_ret pe_bl))))), ?_⟩
    have P := Pt.start (muD st sc) sz hm
    unfold F_law_names at hF
    obtain ⟨i_262, h_263, hF⟩ := bind_inv hF
    obtain ⟨g_264, hF⟩ := guard_inv hF
    obtain ⟨x_number_265, h_266, hF⟩ := bind_inv hF
    replace h_266 := Option.some.inj h_266
    refine st_seq (st_set P (ev_cast (ev_add ev_int (ev_call (cs__law_next T g_264) (eva_cons (ev_ref rfl) (eva_cons (ev_ixL (ev_li (ev_fz (en_listD (eva_conss ev_int (eva_conss (ev_pow ev_int ev_int (by decide)) (eva_nils (τ := yInt)))) (by show 2 ≤ sizeLine; decide)))) (ev_call (cs__law_next T (by decide +kernel)) (eva_cons (ev_ref rfl) (eva_cons ev_int eva_nil))) h_263) eva_nil)))) h_266) (fun v_267 Z1 H1 e P1 k_268 => ?_))
    refine st_nx ?_
    replace P := P1
    obtain ⟨r_269, h_270, hF⟩ := bind_inv hF
    obtain ⟨g_271, hF⟩ := guard_inv hF
    obtain ⟨g_272, hF⟩ := guard_inv hF
    obtain ⟨b_278, h_277, hF⟩ := bind_inv hF
    refine st_seq (st_if P (et_orO (et_cmp (ev_ne flat_str (ev_call (cs_log_name T h_270) (eva_cons (ev_var (τ := yInt) rfl k_268) eva_nil)) (ev_cat_str ev_str (ev_str_int (ev_var (τ := yInt) rfl k_268) g_271) g_272))) (fun _ y hy => by
          obtain ⟨g_273, hy⟩ := guard_inv hy
          obtain ⟨g_274, hy⟩ := guard_inv hy
          obtain ⟨r_275, h_276, hy⟩ := bind_inv hy
          have hy := Option.some.inj hy
          subst hy
          exact (et_cmp (ev_neD (eqd_opt eqd_int (fun _ z => nomatch z)) (by decide) (ev_call (cs_log_number T h_276) (eva_cons (ev_cat_str ev_str (ev_str_int (ev_var (τ := yInt) rfl k_268) g_273) g_274) eva_nil)) (ev_some nn_int (ev_var (τ := yInt) rfl k_268))))) h_277) (fun b_279 Z1 H1 e P1 => ?_) (fun b_279 Z1 H1 e P1 => ?_))
    · replace P := P1
      have hB := ifT b_279 hF
      replace hF := hB
      clear hB
      replace hF := Option.some.inj hF
      subst hF
      refine st_ret P ev_bl (fun v Z1 H1 P1 hv => ?_)
      exact q v _ _ P1.st P1.m hv
    · replace P := P1
      have hB := ifF b_279 hF
      replace hF := hB
      clear hB
      refine st_next0 ?_
      obtain ⟨f_298, hL_299, hF⟩ := bind_inv hF
      refine st_seq (st_for (τ := yStr) (fun (r_282 : List Str) σ' Z' H' => ∃ w_280, ∃ (y_287 : Option V) (y_288 : Option V), σ' = [some (.ref st), y_287, y_288] ∧ Pt (muD st sc).fp Z0 H (muD st sc) Z' H' (nxS (nxS ds (2 : Int)) i_262) ∧ forS (L_law_names_1 ds i_262) r_282 w_280 = some f_298) P (ei_list (ev_fz (en_listD (eva_conss ev_str (eva_conss ev_str (eva_conss ev_str (eva_conss ev_str (eva_conss ev_str (eva_conss ev_str (eva_conss ev_str (eva_conss ev_str (eva_conss ev_str (eva_conss ev_str (eva_conss ev_str (eva_nils (τ := yStr))))))))))))) (by show 11 ≤ sizeLine; decide)))) ?_ ?_ ?_)
      · rintro Z1 H1 e P1
        replace P := P1
        exact ⟨(), _, _, rfl, P, hL_299⟩
      · rintro Zb_286 Hb eb x_281 r_282 σ' v_292 Z1 H1 Z2 H2 zs_285 ⟨w_280, y_287, y_288, rfl, P, hq_284⟩ e hx_293
        replace P := P.item e
        replace zs_285 := zs_285.trans e.z
        obtain ⟨u_294, hB_283, hq_284⟩ := bind_inv (forS_cons hq_284)
        unfold L_law_names_1 at hB_283
        refine tgt_name _ P.sub _ ?_
        obtain ⟨r_295, h_296, hB_283⟩ := bind_inv hB_283
        refine st_if P (et_cmp (ev_notN (ev_call (cs_log_number T h_296) (eva_cons (ev_var (τ := yStr) rfl hx_293) eva_nil)) ev_non)) (fun b_297 Z1 H1 e P1 => ?_) (fun b_297 Z1 H1 e P1 => ?_)
        · replace P := P1
          have hB := ifT b_297 hB_283
          replace hB_283 := hB
          clear hB
          replace zs_285 := zs_285.trans e.z
          replace hB_283 := Option.some.inj hB_283
          subst hB_283
          have hz := nxt_ret hq_284
          subst hz
          have hz := ret_inv hF
          replace hz := Option.some.inj hz
          subst hz
          refine st_ret P ev_bl (fun v Z1 H1 P1 hv => ?_)
          exact q v _ _ P1.st P1.m hv
        · replace P := P1
          have hB := ifF b_297 hB_283
          replace hB_283 := hB
          clear hB
          refine st_next ?_
          replace zs_285 := zs_285.trans e.z
          replace hB_283 := Option.some.inj hB_283
          subst hB_283
          exact ⟨_, zs_285, P.sub, (), _, _, rfl, P, (nxt_go hq_284)⟩
      rintro σ' Z1 H1 _ _ ⟨w_289, y_287, y_288, rfl, P, hl⟩
      have hz := forS_nil hl
      subst hz
      replace hF := go_inv hF
      refine st_nx ?_
      replace hF := Option.some.inj hF
      subst hF
      refine st_ret P ev_bl (fun v Z1 H1 P1 hv => ?_)
      exact q v _ _ P1.st P1.m hv
theorem cs_law_names (T : Txt K mg) {st sc : Addr} {ds : DS} {E : XK}  {y : Bool × DS} (h : F_law_names ds = some y) : CallS (muD st sc) (sp_law_names T) E (rac (isRef st) ra0) ds (ty yBool y.1) y.2 := by
  rintro Z H vs sz m ⟨_, _, rfl, rfl, rfl⟩ Q q
  exact ⟨st, sc, Z, ds, y, rfl, sz, m, h, fun v Z2 H2 s2 m2 hv => q v Z2 H2 s2 m2 hv⟩
theorem cu_law_names (T : Txt K mg) {st sc : Addr} {ds : DS} {E : XK}  {y : Bool × DS} {μ : Type} {M : Mu μ} {s s2 : μ} (hm : ∀ Z H, M.m s Z H → (muD st sc).m ds Z H) (hf : ∀ a ∈ (muD st sc).fp, a ∈ M.fp) (hp : ∀ Z H Z' H', M.m s Z H → Step (muD st sc).fp Z H Z' H' → (muD st sc).m y.2 Z' H' → M.m s2 Z' H') (h : F_law_names ds = some y) : CallS M (sp_law_names T) E (rac (isRef st) ra0) s (ty yBool y.1) s2 := by
  rintro Z H vs sz m ⟨_, _, rfl, rfl, rfl⟩ Q q
  exact ⟨st, sc, Z, ds, y, rfl, sz, hm _ _ m, h, fun v Z2 H2 st2 m2 hv => q v Z2 H2 (st2.weak fun a h => .inl (hf a h)) (hp _ _ _ _ m st2 m2) hv⟩
def sp_list_code (T : Txt K mg) : Sp := fun vs H Q _ => ∃ (Z0 : Hp) (v_codes : V) (x_codes : (List (List Int))) (y : (List Int)), vs = [v_codes] ∧ (Same Z0 H) ∧ (((yList (yList yInt))).r Z0 v_codes x_codes) ∧ (F_list_code x_codes = some y) ∧ ∀ v Z' H', Step [] Z0 H Z' H' → ((yList yInt)).r Z' v y → Q v H'
set_option maxHeartbeats 4000000 in
theorem ok_list_code (T : Txt K mg) : FnOk P w K mg base CX0 1 T.f_list_code T.d_list_code ["codes"] (sp_list_code T) := by
  refine T.F_list_code.ok sc_list_code (fun vs H Q E h => ?_) (fun cdv A outer s H vs Q E hr h => ?_)
  · obtain ⟨Z0, v_codes, x_codes, y, rfl, _⟩ := h
    rfl
  · obtain ⟨Z0, v_codes, x_codes, y, rfl, sz, h_codes, hF, q⟩ := h
    refine ⟨_, (pss_one (ps_ret (pe_op op_cat (pe_lst (pa_cons (pe_callB call_len_seq (by rfl) T.m_len PySem.boot_len (pa_cons (pv 0) pa_nil)) pa_nil)) (pe_lc2 (own := [("code", 1), ("number", 2)]) (vs1 := [2]) (g := gName 1) (g1 := gName 2) rfl sc_list_code.nd (pi_list (pv 0)) (blkOk_by (own := [("code", 1), ("number", 2)]) (N := ["codes", "code", "number"]) (sc := defScope s_list_code) (by decide +kernel)) (by decide) (fun _ _ _ _ _ => (pg_name (i := 1) sc_list_code.nd rfl (Or.inl rfl))) (fun _ _ _ _ _ => pts_nil) (fun _ _ _ _ _ => (pi_listB (K := K) rfl (pv 1))) (fun _ _ _ _ _ => (pg_name (i := 2) sc_list_code.nd rfl (Or.inl rfl))) (fun _ _ _ _ _ => pts_nil) (fun _ _ _ _ _ => (pv 2)))))), ?_⟩
    have P := Pt.start0 sz
    unfold F_list_code at hF
    obtain ⟨g_314, hF⟩ := guard_inv hF
    obtain ⟨g_315, hF⟩ := guard_inv hF
    replace hF := Option.some.inj hF
    subst hF
    refine st_ret P (ev_fz (en_cat (ev_li (ev_fz (en_listD (eva_conss (ev_len (fun _ _ _ h => h) (ev_li (ev_var (τ := (yList (yList yInt))) rfl h_codes))) (eva_nils (τ := yInt))) (by show 1 ≤ sizeLine; decide)))) (ev_li (ev_fz (en_flat (fun (x_308 : (List Int)) => x_308) (fun (x_308 : (List Int)) (y_311 : Int) => y_311) (ei_list (ev_var (τ := (yList (yList yInt))) rfl h_codes)) g_314 (fun x_308 v_309 Z' H' zz hh rx_310 => by
          refine ⟨_, tgt_name, rfl, fun X => (ei_list (ev_var (τ := (yList yInt)) rfl rx_310)), fun y_311 w_312 Z'' H'' z1 zz hh ry_313 => ?_⟩
          exact ⟨_, tgt_name, rfl, (ev_var (τ := yInt) rfl ry_313)⟩)))) g_315)) (fun v Z1 H1 P1 hv => ?_)
    exact q v _ _ P1.st hv
theorem cs_list_code (T : Txt K mg) {μ : Type} {M : Mu μ} {s : μ} {E : XK} {x_codes : (List (List Int))} {y : (List Int)} (h : F_list_code x_codes = some y) : CallS M (sp_list_code T) E (rac (ty (yList (yList yInt)) x_codes) ra0) s (ty (yList yInt) y) s := by
  rintro Z H vs sz m ⟨v_codes, _, rfl, h_codes, rfl⟩ Q q
  exact ⟨Z, v_codes, x_codes, y, rfl, sz, h_codes, h, fun v Z2 H2 st hv => q v Z2 H2 st.pure (M.pure st m) hv⟩
def sp_numbers_code (T : Txt K mg) : Sp := fun vs H Q _ => ∃ (Z0 : Hp) (v_numbers : V) (x_numbers : (List Int)) (y : (List Int)), vs = [v_numbers] ∧ (Same Z0 H) ∧ (((yList yInt)).r Z0 v_numbers x_numbers) ∧ (F_numbers_code x_numbers = some y) ∧ ∀ v Z' H', Step [] Z0 H Z' H' → ((yList yInt)).r Z' v y → Q v H'
set_option maxHeartbeats 4000000 in
theorem ok_numbers_code (T : Txt K mg) : FnOk P w K mg base CX0 1 T.f_numbers_code T.d_numbers_code ["numbers"] (sp_numbers_code T) := by
  refine T.F_numbers_code.ok sc_numbers_code (fun vs H Q E h => ?_) (fun cdv A outer s H vs Q E hr h => ?_)
  · obtain ⟨Z0, v_numbers, x_numbers, y, rfl, _⟩ := h
    rfl
  · obtain ⟨Z0, v_numbers, x_numbers, y, rfl, sz, h_numbers, hF, q⟩ := h
    refine ⟨_, (pss_one (ps_ret (pe_op op_cat (pe_lst (pa_cons (pe_callB call_len_seq (by rfl) T.m_len PySem.boot_len (pa_cons (pv 0) pa_nil)) pa_nil)) (pe_callTy call_list_of (by rfl) T.m_list (by decide +kernel) (pa_cons (pv 0) pa_nil))))), ?_⟩
    have P := Pt.start0 sz
    unfold F_numbers_code at hF
    obtain ⟨g_317, hF⟩ := guard_inv hF
    replace hF := Option.some.inj hF
    subst hF
    refine st_ret P (ev_fz (en_cat (ev_li (ev_fz (en_listD (eva_conss (ev_len (fun _ _ _ h => h) (ev_li (ev_var (τ := (yList yInt)) rfl h_numbers))) (eva_nils (τ := yInt))) (by show 1 ≤ sizeLine; decide)))) (ev_li (ev_fz (en_list_of (fun _ _ _ h => h) (ev_li (ev_var (τ := (yList yInt)) rfl h_numbers))))) g_317)) (fun v Z1 H1 P1 hv => ?_)
    exact q v _ _ P1.st hv
theorem cs_numbers_code (T : Txt K mg) {μ : Type} {M : Mu μ} {s : μ} {E : XK} {x_numbers : (List Int)} {y : (List Int)} (h : F_numbers_code x_numbers = some y) : CallS M (sp_numbers_code T) E (rac (ty (yList yInt) x_numbers) ra0) s (ty (yList yInt) y) s := by
  rintro Z H vs sz m ⟨v_numbers, _, rfl, h_numbers, rfl⟩ Q q
  exact ⟨Z, v_numbers, x_numbers, y, rfl, sz, h_numbers, h, fun v Z2 H2 st hv => q v Z2 H2 st.pure (M.pure st m) hv⟩
def sp_law (K : PySem.W.Frag) : Sp := fun vs H Q _ => ∃ (a : Addr) (ns : List Int), vs = [.ref a] ∧ (SqL K H a (ns.map V.int)) ∧ (ns.length ≤ 63) ∧ ∀ H', Q (.bl true) H'
set_option maxHeartbeats 8000000 in
theorem ok_law (T : Txt K mg) : FnOk P w K mg base CX0 6 T.f_law T.d_law ["script"] (sp_law K) := by
  have G_law_names : FnOk P w K mg base CX0 4 T.f_law_names T.d_law_names ["state"] (sp_law_names T) := ok_law_names T
  have G_law_next : FnOk P w K mg base CX0 2 T.f_law_next T.d_law_next ["state", "many"] (sp_law_next T) := ok_law_next T
  have G_block_of : FnOk P w K mg base CX0 3 T.f_block_of T.d_block_of ["numbers"] (sp_block_of T) := ok_block_of T
  have G_read_log : FnOk P w K mg base CX0 5 T.f_read_log T.d_read_log ["numbers"] (sp_read_log T) := ok_read_log T
  have G_numbers_code : FnOk P w K mg base CX0 1 T.f_numbers_code T.d_numbers_code ["numbers"] (sp_numbers_code T) := ok_numbers_code T
  have G_list_code : FnOk P w K mg base CX0 1 T.f_list_code T.d_list_code ["codes"] (sp_list_code T) := ok_list_code T
  have G_law_numbers : FnOk P w K mg base CX0 3 T.f_law_numbers T.d_law_numbers ["state"] (sp_law_numbers T) := ok_law_numbers T
  refine T.F_law.ok sc_law (fun vs H Q E h => ?_) (fun cdv A outer s H vs Q E hr h => ?_)
  · obtain ⟨a, ns, rfl, _⟩ := h
    rfl
  · obtain ⟨a, ns, rfl, hA, hlen, q⟩ := h
    refine ⟨_, (pss_cons (ps_set (i := 1) sc_law.nd rfl (.inr rfl) (pe_lst (pa_cons (pe_callTy call_list_of (by rfl) T.m_list (by decide +kernel) (pa_cons (pv 0) pa_nil)) (pa_cons pe_int (pa_cons pe_int pa_nil))))) 
      (pss_cons (ps_set (i := 2) sc_law.nd rfl (.inl rfl) (pe_call G_law_numbers (hr.mono (by decide)) (by rfl) T.g_law_numbers T.F_law_numbers.kp T.b_law_numbers .nil pass0 (pa_cons (pv 1) pa_nil))) 
      (pss_cons (ps_setLc (i := 3) (own := [("k", 4)]) (g := gName 4) rfl sc_law.nd rfl rfl (sw_true rfl rfl rfl (by decide +kernel)) (pi_range1 rfl T.m_range (pa_cons (pe_call G_law_next (hr.mono (by decide)) (by rfl) T.g_law_next T.F_law_next.kp T.b_law_next .nil pass0 (pa_cons (pv 1) (pa_cons pe_int pa_nil))) pa_nil)) (blkOk_by (own := [("k", 4)]) (N := ["script", "state", "base", "inside", "k", "after", "first", "row", "whole", "ends", "told", "cut", "many", "end", "bad"]) (sc := defScope s_law) (by decide +kernel)) (fun _ _ _ _ _ => (pg_name (i := 4) sc_law.nd rfl (Or.inl rfl))) (fun _ _ _ _ _ => pts_nil) (fun _ _ _ _ _ => (pe_call G_law_numbers (hr.mono (by decide)) (by rfl) T.g_law_numbers T.F_law_numbers.kp T.b_law_numbers .nil pass0 (pa_cons (pv 1) pa_nil)))) 
      (pss_cons (ps_setLc (i := 5) (own := [("k", 4)]) (g := gName 4) rfl sc_law.nd rfl rfl (sw_true rfl rfl rfl (by decide +kernel)) (pi_range1 rfl T.m_range (pa_cons (pe_call G_law_next (hr.mono (by decide)) (by rfl) T.g_law_next T.F_law_next.kp T.b_law_next .nil pass0 (pa_cons (pv 1) (pa_cons pe_int pa_nil))) pa_nil)) (blkOk_by (own := [("k", 4)]) (N := ["script", "state", "base", "inside", "k", "after", "first", "row", "whole", "ends", "told", "cut", "many", "end", "bad"]) (sc := defScope s_law) (by decide +kernel)) (fun _ _ _ _ _ => (pg_name (i := 4) sc_law.nd rfl (Or.inl rfl))) (fun _ _ _ _ _ => pts_nil) (fun _ _ _ _ _ => (pe_call G_law_numbers (hr.mono (by decide)) (by rfl) T.g_law_numbers T.F_law_numbers.kp T.b_law_numbers .nil pass0 (pa_cons (pv 1) pa_nil)))) 
      (pss_cons (ps_set (i := 6) sc_law.nd rfl (.inl rfl) (pe_call G_block_of (hr.mono (by decide)) (by rfl) T.g_block_of T.F_block_of.kp T.b_block_of .nil pass0 (pa_cons (pe_call G_list_code (hr.mono (by decide)) (by rfl) T.g_list_code T.F_list_code.kp T.b_list_code .nil pass0 (pa_cons (pe_lc (own := [("row", 7)]) (g := gName 7) rfl sc_law.nd (pi_list (pe_op op_cat (pe_lst (pa_cons (pv 2) pa_nil)) (pv 3))) (blkOk_by (own := [("row", 7)]) (N := ["script", "state", "base", "inside", "k", "after", "first", "row", "whole", "ends", "told", "cut", "many", "end", "bad"]) (sc := defScope s_law) (by decide +kernel)) (fun _ _ _ _ _ => (pg_name (i := 7) sc_law.nd rfl (Or.inl rfl))) (fun _ _ _ _ _ => pts_nil) (fun _ _ _ _ _ => (pe_call G_numbers_code (hr.mono (by decide)) (by rfl) T.g_numbers_code T.F_numbers_code.kp T.b_numbers_code .nil pass0 (pa_cons (pv 7) pa_nil)))) pa_nil)) pa_nil))) 
      (pss_cons (ps_set (i := 8) sc_law.nd rfl (.inl rfl) (pe_callTy call_list_of (by rfl) T.m_list (by decide +kernel) (pa_cons (pv 6) pa_nil))) 
      (pss_cons (ps_set (i := 9) sc_law.nd rfl (.inl rfl) (pe_lst (pa_cons (pe_callB call_len_seq (by rfl) T.m_len PySem.boot_len (pa_cons (pv 6) pa_nil)) pa_nil))) 
      (pss_cons (ps_for PassesOwn.never rfl (pi_list (pv 5)) (pg_name (i := 7) sc_law.nd rfl (.inl rfl)) (pss_cons (ps_set (i := 8) sc_law.nd rfl (.inl rfl) (pe_op op_cat (pv 8) (pe_call G_block_of (hr.mono (by decide)) (by rfl) T.g_block_of T.F_block_of.kp T.b_block_of .nil pass0 (pa_cons (pe_callTy call_list_of (by rfl) T.m_list (by decide +kernel) (pa_cons (pv 7) pa_nil)) pa_nil)))) 
      (pss_one (ps_expr (pe_bm PySem.F.plainAttrs_list PySem.F.slot_list_append PySem.F.type_list_append mt_append (pv 9) (pa_cons (pe_callB call_len_seq (by rfl) T.m_len PySem.boot_len (pa_cons (pv 8) pa_nil)) pa_nil)))))) 
      (pss_cons (ps_set (i := 10) sc_law.nd rfl (.inl rfl) (pe_call G_read_log (hr.mono (by decide)) (by rfl) T.g_read_log T.F_read_log.kp T.b_read_log .nil pass0 (pa_cons (pe_callTy call_list_of (by rfl) T.m_list (by decide +kernel) (pa_cons (pv 8) pa_nil)) pa_nil))) 
      (pss_cons (ps_if (PW.pt (pw_or (pt_cmpR op_isN (pv 10) pe_non (nomark _)) (pw_or (pt_cmpR (op_neD hr.units) (pe_callTy call_list_of (by rfl) T.m_list (by decide +kernel) (pa_cons (pe_ix ix_tup (pv 10) pe_int (fun _ _ => rfl)) pa_nil)) (pv 2) (nomark _)) (pw_or1 (pt_cmpR (op_neD hr.units) (pe_callTy call_list_of (by rfl) T.m_list (by decide +kernel) (pa_cons (pe_ix ix_tup (pv 10) pe_int (fun _ _ => rfl)) pa_nil)) (pe_op op_cat (pv 3) (pv 5)) (nomark _)))))) (pss_one (ps_ret pe_bl)) pss_nil) 
      (pss_cons (ps_set (i := 11) sc_law.nd rfl (.inr rfl) (pe_call G_law_next (hr.mono (by decide)) (by rfl) T.g_law_next T.F_law_next.kp T.b_law_next .nil pass0 (pa_cons (pv 1) (pa_cons (pe_op op_add (pe_callB call_len_seq (by rfl) T.m_len PySem.boot_len (pa_cons (pv 8) pa_nil)) pe_int) pa_nil)))) 
      (pss_cons (ps_set (i := 10) sc_law.nd rfl (.inl rfl) (pe_call G_read_log (hr.mono (by decide)) (by rfl) T.g_read_log T.F_read_log.kp T.b_read_log .nil pass0 (pa_cons (pe_slice sl_list (pv 8) po_none (po_some (pv 11))) pa_nil))) 
      (pss_cut (ps_if (pt_cmpR op_lt (pv 11) (pe_callB call_len_seq (by rfl) T.m_len PySem.boot_len (pa_cons (pv 6) pa_nil)) (nomark _)) (pss_one (ps_if (pt_cmpR op_notN (pv 10) pe_non (nomark _)) (pss_one (ps_ret pe_bl)) pss_nil)) (pss_cons (ps_set (i := 12) sc_law.nd rfl (.inl rfl) (pe_op op_sub (pe_callB call_len_seq (by rfl) T.m_len PySem.boot_len (pa_cons (pe_lc (own := [("end", 13)]) (g := gName 13) rfl sc_law.nd (pi_list (pv 9)) (blkOk_by (own := [("end", 13)]) (N := ["script", "state", "base", "inside", "k", "after", "first", "row", "whole", "ends", "told", "cut", "many", "end", "bad"]) (sc := defScope s_law) (by decide +kernel)) (fun _ _ _ _ _ => (pg_name (i := 13) sc_law.nd rfl (Or.inl rfl))) (fun _ _ _ _ _ => (by exact pts_one (pt_cmpR op_le (pv 13) (pv 11) (nomark _)))) (fun _ _ _ _ _ => (pv 13))) pa_nil)) pe_int)) 
      (pss_one (ps_if (PW.pt (pw_or (pt_cmpR op_isN (pv 10) pe_non (nomark _)) (pw_or (pt_cmpR (op_neD hr.units) (pe_callTy call_list_of (by rfl) T.m_list (by decide +kernel) (pa_cons (pe_ix ix_tup (pv 10) pe_int (fun _ _ => rfl)) pa_nil)) (pv 2) (nomark _)) (pw_or1 (pt_cmpR (op_neD hr.units) (pe_callTy call_list_of (by rfl) T.m_list (by decide +kernel) (pa_cons (pe_ix ix_tup (pv 10) pe_int (fun _ _ => rfl)) pa_nil)) (pe_op op_cat (pv 3) (pe_slice sl_list (pv 5) po_none (po_some (pv 12)))) (nomark _)))))) (pss_one (ps_ret pe_bl)) pss_nil)))) 
      (pss_cons (ps_set (i := 10) sc_law.nd rfl (.inl rfl) (pe_call G_read_log (hr.mono (by decide)) (by rfl) T.g_read_log T.F_read_log.kp T.b_read_log .nil pass0 (pa_cons (pe_op op_cat (pv 8) (pe_ix ix_list (pe_lst (pa_cons (pe_lst (pa_cons pe_int pa_nil)) (pa_cons (pe_lst (pa_cons (pe_un un_neg pe_int) pa_nil)) (pa_cons (pe_lst (pa_cons pe_int (pa_cons pe_int pa_nil))) pa_nil)))) (pe_call G_law_next (hr.mono (by decide)) (by rfl) T.g_law_next T.F_law_next.kp T.b_law_next .nil pass0 (pa_cons (pv 1) (pa_cons pe_int pa_nil))) (fun _ _ => rfl))) pa_nil))) 
      (pss_cons (ps_if (PW.pt (pw_or (pt_cmpR op_isN (pv 10) pe_non (nomark _)) (pw_or (pt_cmpR (op_neD hr.units) (pe_callTy call_list_of (by rfl) T.m_list (by decide +kernel) (pa_cons (pe_ix ix_tup (pv 10) pe_int (fun _ _ => rfl)) pa_nil)) (pv 2) (nomark _)) (pw_or1 (pt_cmpR (op_neD hr.units) (pe_callTy call_list_of (by rfl) T.m_list (by decide +kernel) (pa_cons (pe_ix ix_tup (pv 10) pe_int (fun _ _ => rfl)) pa_nil)) (pe_op op_cat (pv 3) (pv 5)) (nomark _)))))) (pss_one (ps_ret pe_bl)) pss_nil) 
      (pss_cons (ps_set (i := 14) sc_law.nd rfl (.inl rfl) (pe_lst (pa_cons (pe_lst (pa_cons (pe_un un_neg pe_int) pa_nil)) (pa_cons (pe_call G_block_of (hr.mono (by decide)) (by rfl) T.g_block_of T.F_block_of.kp T.b_block_of .nil pass0 (pa_cons (pe_lst (pa_cons pe_int pa_nil)) pa_nil)) (pa_cons (pe_call G_block_of (hr.mono (by decide)) (by rfl) T.g_block_of T.F_block_of.kp T.b_block_of .nil pass0 (pa_cons (pe_lst pa_nil) pa_nil)) (pa_cons (pe_call G_block_of (hr.mono (by decide)) (by rfl) T.g_block_of T.F_block_of.kp T.b_block_of .nil pass0 (pa_cons (pe_lst (pa_cons pe_int pa_nil)) pa_nil)) (pa_cons (pe_call G_block_of (hr.mono (by decide)) (by rfl) T.g_block_of T.F_block_of.kp T.b_block_of .nil pass0 (pa_cons (pe_lst (pa_cons pe_int (pa_cons pe_int (pa_cons pe_int pa_nil)))) pa_nil)) (pa_cons (pe_call G_block_of (hr.mono (by decide)) (by rfl) T.g_block_of T.F_block_of.kp T.b_block_of .nil pass0 (pa_cons (pe_lst (pa_cons pe_int (pa_cons pe_int (pa_cons pe_int pa_nil)))) pa_nil)) (pa_cons (pe_lst (pa_cons pe_int (pa_cons pe_int (pa_cons pe_int pa_nil)))) pa_nil))))))))) 
      (pss_cons (ps_if (pt_cmpR op_notN (pe_call G_read_log (hr.mono (by decide)) (by rfl) T.g_read_log T.F_read_log.kp T.b_read_log .nil pass0 (pa_cons (pe_op op_cat (pe_ix ix_list (pv 14) (pe_call G_law_next (hr.mono (by decide)) (by rfl) T.g_law_next T.F_law_next.kp T.b_law_next .nil pass0 (pa_cons (pv 1) (pa_cons pe_int pa_nil))) (fun _ _ => rfl)) (pe_call G_block_of (hr.mono (by decide)) (by rfl) T.g_block_of T.F_block_of.kp T.b_block_of .nil pass0 (pa_cons (pe_callTy call_list_of (by rfl) T.m_list (by decide +kernel) (pa_cons (pv 2) pa_nil)) pa_nil))) pa_nil)) pe_non (nomark _)) (pss_one (ps_ret pe_bl)) pss_nil) 
      (pss_one (ps_ret (pe_call G_law_names (hr.mono (by decide)) (by rfl) T.g_law_names T.F_law_names.kp T.b_law_names .nil pass0 (pa_cons (pv 1) pa_nil))))))))))))))))))))), ?_⟩
    have hF := law_true ns hlen
    unfold F_law at hF
    refine st_norm (by dsimp only [List.set, L2.start, List.map, List.length, List.replicate, List.cons_append, List.nil_append, Nat.reduceSub, Nat.reduceAdd]) ?_
    refine st_seq ?_
    refine st_draws hA hlen (fun st sc Z0 Z1 H1 P => ?_)
    refine st_nx ?_
    refine st_norm (by dsimp only [List.set, L2.start, List.map, List.length, List.replicate, List.cons_append, List.nil_append, Nat.reduceSub, Nat.reduceAdd]) ?_
    obtain ⟨r_318, h_319, hF⟩ := bind_inv hF
    refine st_seq (st_set P (ev_call (cs_law_numbers T h_319) (eva_cons (ev_ref rfl) eva_nil)) (fun v_320 Z1 H1 e P1 k_321 => ?_))
    refine st_nx ?_
    replace P := P1
    refine st_norm (by dsimp only [List.set, L2.start, List.map, List.length, List.replicate, List.cons_append, List.nil_append, Nat.reduceSub, Nat.reduceAdd]) ?_
    obtain ⟨g_322, hF⟩ := guard_inv hF
    obtain ⟨l_329, h_330, hF⟩ := bind_inv hF
    refine st_seq (st_set P (ev_fz (en_mapS (υ := (yList yInt)) (fun (x_323 : Int) (s_324 : DS) => ((F_law_numbers s_324).bind fun r_327 =>
    some (r_327.1, r_327.2) : Option ((List Int) × DS))) (ei_rng1 (ev_call (cs__law_next T (by decide +kernel)) (eva_cons (ev_ref rfl) (eva_cons ev_int eva_nil))) g_322) (fun x_323 v_325 Z' H' s_324 p zz hh rx_326 hp => by
          have hy := hp
          obtain ⟨r_327, h_328, hy⟩ := bind_inv hy
          have hy := Option.some.inj hy
          subst hy
          exact ⟨_, tgt_name, (wpe_s wpe_z (by decide)), (ev_call (cs_law_numbers T h_328) (eva_cons (ev_ref rfl) eva_nil))⟩) h_330)) (fun v_331 Z1 H1 e P1 k_332 => ?_))
    refine st_nx ?_
    replace P := P1
    replace k_321 := ((yList yInt)).mono e.z k_321
    refine st_norm (by dsimp only [List.set, L2.start, List.map, List.length, List.replicate, List.cons_append, List.nil_append, Nat.reduceSub, Nat.reduceAdd]) ?_
    obtain ⟨g_333, hF⟩ := guard_inv hF
    obtain ⟨l_340, h_341, hF⟩ := bind_inv hF
    refine st_seq (st_set P (ev_fz (en_mapS (υ := (yList yInt)) (fun (x_334 : Int) (s_335 : DS) => ((F_law_numbers s_335).bind fun r_338 =>
    some (r_338.1, r_338.2) : Option ((List Int) × DS))) (ei_rng1 (ev_call (cs__law_next T (by decide +kernel)) (eva_cons (ev_ref rfl) (eva_cons ev_int eva_nil))) g_333) (fun x_334 v_336 Z' H' s_335 p zz hh rx_337 hp => by
          have hy := hp
          obtain ⟨r_338, h_339, hy⟩ := bind_inv hy
          have hy := Option.some.inj hy
          subst hy
          exact ⟨_, tgt_name, (wpe_s wpe_z (by decide)), (ev_call (cs_law_numbers T h_339) (eva_cons (ev_ref rfl) eva_nil))⟩) h_341)) (fun v_342 Z1 H1 e P1 k_343 => ?_))
    refine st_nx ?_
    replace P := P1
    replace k_321 := ((yList yInt)).mono e.z k_321
    replace k_332 := ((yList (yList yInt))).mono e.z k_332
    refine st_norm (by dsimp only [List.set, L2.start, List.map, List.length, List.replicate, List.cons_append, List.nil_append, Nat.reduceSub, Nat.reduceAdd]) ?_
    obtain ⟨g_345, hF⟩ := guard_inv hF
    obtain ⟨l_352, h_353, hF⟩ := bind_inv hF
    obtain ⟨r_354, h_355, hF⟩ := bind_inv hF
    obtain ⟨r_356, h_357, hF⟩ := bind_inv hF
    refine st_seq (st_set P (ev_call (cs_block_of T h_357) (eva_cons (ev_call (cs_list_code T h_355) (eva_cons (ev_fz (en_mapO (υ := (yList yInt)) (fun (x_346 : (List Int)) => ((F_numbers_code x_346).bind fun r_350 =>
    some r_350 : Option (List Int))) (ei_list (ev_fz (en_cat (ev_li (ev_fz (en_listD (eva_conss (ev_var (τ := (yList yInt)) rfl k_321) (eva_nils (τ := (yList yInt)))) (by show 1 ≤ sizeLine; decide)))) (ev_li (ev_var (τ := (yList (yList yInt))) rfl k_332)) g_345))) (fun x_346 v_348 Z' H' p zz hh rx_349 hp => by
          have hy := hp
          obtain ⟨r_350, h_351, hy⟩ := bind_inv hy
          have hy := Option.some.inj hy
          subst hy
          exact ⟨_, tgt_name, (wpe_s wpe_z (by decide)), (ev_call (cs_numbers_code T h_351) (eva_cons (ev_var (τ := (yList yInt)) rfl rx_349) eva_nil))⟩) h_353)) eva_nil)) eva_nil)) (fun v_358 Z1 H1 e P1 k_359 => ?_))
    refine st_nx ?_
    replace P := P1
    replace k_321 := ((yList yInt)).mono e.z k_321
    replace k_332 := ((yList (yList yInt))).mono e.z k_332
    replace k_343 := ((yList (yList yInt))).mono e.z k_343
    refine st_norm (by dsimp only [List.set, L2.start, List.map, List.length, List.replicate, List.cons_append, List.nil_append, Nat.reduceSub, Nat.reduceAdd]) ?_
    refine st_seq (st_set P (ev_fz (en_list_of (fun _ _ _ h => h) (ev_li (ev_var (τ := (yList yInt)) rfl k_359)))) (fun v_360 Z1 H1 e P1 k_361 => ?_))
    refine st_nx ?_
    replace P := P1
    replace k_321 := ((yList yInt)).mono e.z k_321
    replace k_332 := ((yList (yList yInt))).mono e.z k_332
    replace k_343 := ((yList (yList yInt))).mono e.z k_343
    replace k_359 := ((yList yInt)).mono e.z k_359
    refine st_norm (by dsimp only [List.set, L2.start, List.map, List.length, List.replicate, List.cons_append, List.nil_append, Nat.reduceSub, Nat.reduceAdd]) ?_
    obtain ⟨x_ends_362, h_363, hF⟩ := bind_inv hF
    replace h_363 := Option.some.inj h_363
    refine st_seq (st_setN (τ := yInt) P (en_cast (en_listD (eva_conss (ev_len (fun _ _ _ h => h) (ev_li (ev_var (τ := (yList yInt)) rfl k_359))) (eva_nils (τ := yInt))) (by show 1 ≤ sizeLine; decide)) h_363) (fun p_364 Z1 H1 e P1 fr_366 o_365 => ?_))
    refine st_nx ?_
    replace P := P1
    replace k_321 := ((yList yInt)).mono e.z k_321
    replace k_332 := ((yList (yList yInt))).mono e.z k_332
    replace k_343 := ((yList (yList yInt))).mono e.z k_343
    replace k_359 := ((yList yInt)).mono e.z k_359
    replace k_361 := ((yList yInt)).mono e.z k_361
    refine st_norm (by dsimp only [List.set, L2.start, List.map, List.length, List.replicate, List.cons_append, List.nil_append, Nat.reduceSub, Nat.reduceAdd]) ?_
    obtain ⟨f_415, hL_416, hF⟩ := bind_inv hF
    refine st_seq (st_for (τ := (yList yInt)) (fun (r_369 : List (List Int)) σ' Z' H' => ∃ w_367, ∃ (y_374 : Option V) (y_377 : Option V) (y_380 : Option V) (v_381 : V) (y_384 : Option V) (y_385 : Option V) (y_386 : Option V) (y_387 : Option V) (y_388 : Option V), σ' = [y_374, some (.ref st), some v_320, some v_331, y_377, some v_342, some v_358, y_380, some v_381, some (.ref p_364), y_384, y_385, y_386, y_387, y_388] ∧ Pt [] Z0 H (muD st sc) Z' H' l_340.2 ∧ ((yList yInt)).r Z' v_320 r_318.1 ∧ ((yList (yList yInt))).r Z' v_331 l_329.1 ∧ ((yList (yList yInt))).r Z' v_342 l_340.1 ∧ ((yList yInt)).r Z' v_358 r_356 ∧ ((yList yInt)).r Z' v_381 w_367.1 ∧ Own [] H (muD st sc).fp Z' H' yInt p_364 w_367.2 ∧ forF L_law_1 r_369 w_367 = some f_415) P (ei_list (ev_var (τ := (yList (yList yInt))) rfl k_343)) ?_ ?_ ?_)
    · rintro Z1 H1 e P1
      replace P := P1
      replace k_321 := ((yList yInt)).mono e.z k_321
      replace k_332 := ((yList (yList yInt))).mono e.z k_332
      replace k_343 := ((yList (yList yInt))).mono e.z k_343
      replace k_359 := ((yList yInt)).mono e.z k_359
      replace k_361 := ((yList yInt)).mono e.z k_361
      replace o_365 := o_365.next e
      exact ⟨(r_356, x_ends_362), _, _, _, _, _, _, _, _, _, rfl, P, k_321, k_332, k_343, k_359, k_361, o_365, hL_416⟩
    · rintro Zb_373 Hb eb x_368 r_369 σ' v_405 Z1 H1 Z2 H2 zs_372 ⟨w_367, y_374, y_377, y_380, v_381, y_384, y_385, y_386, y_387, y_388, rfl, P, k_375, k_376, k_378, k_379, k_382, o_383, hq_371⟩ e hx_406
      replace P := P.item e
      replace k_375 := ((yList yInt)).mono e.z k_375
      replace k_376 := ((yList (yList yInt))).mono e.z k_376
      replace k_378 := ((yList (yList yInt))).mono e.z k_378
      replace k_379 := ((yList yInt)).mono e.z k_379
      replace k_382 := ((yList yInt)).mono e.z k_382
      replace o_383 := o_383.step e List.not_mem_nil
      replace zs_372 := zs_372.trans e.z
      obtain ⟨u_407, hB_370, hq_371⟩ := bind_inv (forF_cons hq_371)
      unfold L_law_1 at hB_370
      refine tgt_name _ P.sub _ ?_
      refine st_norm (by dsimp only [List.set, L2.start, List.map, List.length, List.replicate, List.cons_append, List.nil_append, Nat.reduceSub, Nat.reduceAdd]) ?_
      obtain ⟨r_408, h_409, hB_370⟩ := bind_inv hB_370
      obtain ⟨g_410, hB_370⟩ := guard_inv hB_370
      refine st_seq (st_set P (ev_fz (en_cat (ev_li (ev_var (τ := (yList yInt)) rfl k_382)) (ev_li (ev_call (cs_block_of T h_409) (eva_cons (ev_fz (en_list_of (fun _ _ _ h => h) (ev_li (ev_var (τ := (yList yInt)) rfl hx_406)))) eva_nil))) g_410)) (fun v_411 Z1 H1 e P1 k_412 => ?_))
      refine st_nx ?_
      replace P := P1
      replace k_375 := ((yList yInt)).mono e.z k_375
      replace k_376 := ((yList (yList yInt))).mono e.z k_376
      replace k_378 := ((yList (yList yInt))).mono e.z k_378
      replace k_379 := ((yList yInt)).mono e.z k_379
      replace o_383 := o_383.next e
      replace zs_372 := zs_372.trans e.z
      refine st_norm (by dsimp only [List.set, L2.start, List.map, List.length, List.replicate, List.cons_append, List.nil_append, Nat.reduceSub, Nat.reduceAdd]) ?_
      obtain ⟨g_413, hB_370⟩ := guard_inv hB_370
      refine st_append P o_383 rfl (ev_len (fun _ _ _ h => h) (ev_li (ev_var (τ := (yList yInt)) rfl k_412))) g_413 (fun Z1 H1 e P1 o_414 => ?_)
      replace P := P1
      replace k_375 := ((yList yInt)).mono e.z k_375
      replace k_376 := ((yList (yList yInt))).mono e.z k_376
      replace k_378 := ((yList (yList yInt))).mono e.z k_378
      replace k_379 := ((yList yInt)).mono e.z k_379
      replace k_412 := ((yList yInt)).mono e.z k_412
      replace zs_372 := zs_372.trans e.z
      replace hB_370 := Option.some.inj hB_370
      subst hB_370
      exact ⟨_, zs_372, P.sub, ((w_367.1 ++ r_408), (w_367.2 ++ [((w_367.1 ++ r_408).length : Int)])), _, _, _, _, _, _, _, _, _, rfl, P, k_375, k_376, k_378, k_379, k_412, o_414, hq_371⟩
    rintro σ' Z1 H1 _ _ ⟨w_389, y_374, y_377, y_380, v_397, y_384, y_385, y_386, y_387, y_388, rfl, P, k_391, k_392, k_394, k_395, k_398, o_399, hl⟩
    have hz := (forF_nil hl).symm
    subst hz
    refine st_nx ?_
    refine st_norm (by dsimp only [List.set, L2.start, List.map, List.length, List.replicate, List.cons_append, List.nil_append, Nat.reduceSub, Nat.reduceAdd]) ?_
    obtain ⟨r_417, h_418, hF⟩ := bind_inv hF
    refine st_seq (st_set P (ev_call (cs_read_log T h_418) (eva_cons (ev_fz (en_list_of (fun _ _ _ h => h) (ev_li (ev_var (τ := (yList yInt)) rfl k_398)))) eva_nil)) (fun v_419 Z1 H1 e P1 k_420 => ?_))
    refine st_nx ?_
    replace P := P1
    replace k_420 : ((yOpt (yP2 K (yList yInt) (yList (yList yInt))))).r Z1 v_419 r_417 := k_420
    replace k_391 := ((yList yInt)).mono e.z k_391
    replace k_392 := ((yList (yList yInt))).mono e.z k_392
    replace k_394 := ((yList (yList yInt))).mono e.z k_394
    replace k_395 := ((yList yInt)).mono e.z k_395
    replace k_398 := ((yList yInt)).mono e.z k_398
    replace o_399 := o_399.next e
    refine st_norm (by dsimp only [List.set, L2.start, List.map, List.length, List.replicate, List.cons_append, List.nil_append, Nat.reduceSub, Nat.reduceAdd]) ?_
    obtain ⟨b_433, h_432, hF⟩ := bind_inv hF
    refine st_seq (st_if P (et_orO (et_cmp (ev_isN (ev_var (τ := (yOpt (yP2 K (yList yInt) (yList (yList yInt))))) rfl k_420) ev_non)) (fun _ y hy => by
          obtain ⟨u_423, h_424, hy⟩ := bind_inv hy
          obtain ⟨b_431, h_430, hy⟩ := bind_inv hy
          have hy := Option.some.inj hy
          subst hy
          exact (et_orO (et_cmp (ev_neD (eqd_list eqd_int) (by decide) (ev_fz (en_list_of (fun _ _ _ h => h) (ev_li (ev_cast (ev_part po2_0 (ev_uno (ev_var (τ := (yOpt (yP2 K (yList yInt) (yList (yList yInt))))) rfl k_420) h_424) ev_int) rfl)))) (ev_var (τ := (yList yInt)) rfl k_391))) (fun _ y hy => by
                obtain ⟨u_427, h_428, hy⟩ := bind_inv hy
                obtain ⟨g_429, hy⟩ := guard_inv hy
                have hy := Option.some.inj hy
                subst hy
                exact (et_cmp (ev_neD (eqd_list (eqd_list eqd_int)) (by decide) (ev_fz (en_list_of (fun _ _ _ h => h) (ev_li (ev_cast (ev_part po2_1 (ev_uno (ev_var (τ := (yOpt (yP2 K (yList yInt) (yList (yList yInt))))) rfl k_420) h_428) ev_int) rfl)))) (ev_fz (en_cat (ev_li (ev_var (τ := (yList (yList yInt))) rfl k_392)) (ev_li (ev_var (τ := (yList (yList yInt))) rfl k_394)) g_429))))) h_430)) h_432) (fun b_434 Z1 H1 e P1 => ?_) (fun b_434 Z1 H1 e P1 => ?_))
    · replace P := P1
      have hB := ifT b_434 hF
      replace hF := hB
      clear hB
      refine st_norm (by dsimp only [List.set, L2.start, List.map, List.length, List.replicate, List.cons_append, List.nil_append, Nat.reduceSub, Nat.reduceAdd]) ?_
      have hb := Option.some.inj hF
      refine st_ret P ev_bl (fun v Z H P hv => ?_)
      have hv2 : v = V.bl _ := hv
      rw [hb] at hv2
      rw [hv2]
      exact q _
    · replace P := P1
      have hB := ifF b_434 hF
      replace hF := hB
      clear hB
      refine st_next0 ?_
      replace k_391 := ((yList yInt)).mono e.z k_391
      replace k_392 := ((yList (yList yInt))).mono e.z k_392
      replace k_394 := ((yList (yList yInt))).mono e.z k_394
      replace k_395 := ((yList yInt)).mono e.z k_395
      replace k_398 := ((yList yInt)).mono e.z k_398
      replace o_399 := o_399.next e
      refine st_norm (by dsimp only [List.set, L2.start, List.map, List.length, List.replicate, List.cons_append, List.nil_append, Nat.reduceSub, Nat.reduceAdd]) ?_
      obtain ⟨g_435, hF⟩ := guard_inv hF
      obtain ⟨x_cut_436, h_437, hF⟩ := bind_inv hF
      replace h_437 := Option.some.inj h_437
      refine st_seq (st_set P (ev_cast (ev_call (cs__law_next T g_435) (eva_cons (ev_ref rfl) (eva_cons (ev_add (ev_len (fun _ _ _ h => h) (ev_li (ev_var (τ := (yList yInt)) rfl k_398))) ev_int) eva_nil))) h_437) (fun v_438 Z1 H1 e P1 k_439 => ?_))
      refine st_nx ?_
      replace P := P1
      replace k_391 := ((yList yInt)).mono e.z k_391
      replace k_392 := ((yList (yList yInt))).mono e.z k_392
      replace k_394 := ((yList (yList yInt))).mono e.z k_394
      replace k_395 := ((yList yInt)).mono e.z k_395
      replace k_398 := ((yList yInt)).mono e.z k_398
      replace o_399 := o_399.next e
      refine st_norm (by dsimp only [List.set, L2.start, List.map, List.length, List.replicate, List.cons_append, List.nil_append, Nat.reduceSub, Nat.reduceAdd]) ?_
      obtain ⟨r_440, h_441, hF⟩ := bind_inv hF
      refine st_seq (st_set P (ev_call (cs_read_log T h_441) (eva_cons (ev_fz (en_slL (ev_li (ev_var (τ := (yList yInt)) rfl k_398)) eo_none (eo_some (ev_var (τ := yInt) rfl k_439)))) eva_nil)) (fun v_442 Z1 H1 e P1 k_443 => ?_))
      refine st_nx ?_
      replace P := P1
      replace k_443 : ((yOpt (yP2 K (yList yInt) (yList (yList yInt))))).r Z1 v_442 r_440 := k_443
      replace k_391 := ((yList yInt)).mono e.z k_391
      replace k_392 := ((yList (yList yInt))).mono e.z k_392
      replace k_394 := ((yList (yList yInt))).mono e.z k_394
      replace k_395 := ((yList yInt)).mono e.z k_395
      replace k_398 := ((yList yInt)).mono e.z k_398
      replace o_399 := o_399.next e
      refine st_norm (by dsimp only [List.set, L2.start, List.map, List.length, List.replicate, List.cons_append, List.nil_append, Nat.reduceSub, Nat.reduceAdd]) ?_
      obtain ⟨f_535, hB_445, hF⟩ := bind_inv hF
      refine ⟨fun σ' H' => ∃ Z' w_446, f_535 = Flow.go w_446 ∧ ∃ (y_447 : Option V) (y_450 : Option V) (y_452 : Option V) (y_453 : Option V) (y_455 : Option V) (y_456 : Option V) (y_457 : Option V) (y_458 : Option V) (y_459 : Option V) (y_460 : Option V), σ' = [y_447, some (.ref st), some v_320, some v_331, y_450, some v_342, y_452, y_453, some v_397, y_455, y_456, y_457, y_458, y_459, y_460] ∧ Pt [] Z0 H (muD st sc) Z' H' (nxS l_340.2 ((w_389.1.length : Int) + (1 : Int))) ∧ ((yList yInt)).r Z' v_320 r_318.1 ∧ ((yList (yList yInt))).r Z' v_331 l_329.1 ∧ ((yList (yList yInt))).r Z' v_342 l_340.1 ∧ ((yList yInt)).r Z' v_397 w_389.1, ?_, ?_⟩
      · refine st_if P (et_cmp (ev_lt (ev_var (τ := yInt) rfl k_439) (ev_len (fun _ _ _ h => h) (ev_li (ev_var (τ := (yList yInt)) rfl k_395))))) (fun b_444 Z1 H1 e P1 => ?_) (fun b_444 Z1 H1 e P1 => ?_)
        · replace P := P1
          replace hB_445 := ifT b_444 hB_445
          replace k_391 := ((yList yInt)).mono e.z k_391
          replace k_392 := ((yList (yList yInt))).mono e.z k_392
          replace k_394 := ((yList (yList yInt))).mono e.z k_394
          replace k_398 := ((yList yInt)).mono e.z k_398
          replace k_443 := ((yOpt (yP2 K (yList yInt) (yList (yList yInt))))).mono e.z k_443
          refine st_norm (by dsimp only [List.set, L2.start, List.map, List.length, List.replicate, List.cons_append, List.nil_append, Nat.reduceSub, Nat.reduceAdd]) ?_
          refine st_if P (et_cmp (ev_notN (ev_var (τ := (yOpt (yP2 K (yList yInt) (yList (yList yInt))))) rfl k_443) ev_non)) (fun b_461 Z1 H1 e P1 => ?_) (fun b_461 Z1 H1 e P1 => ?_)
          · replace P := P1
            have hB := ifT b_461 hB_445
            replace hB_445 := hB
            clear hB
            refine st_norm (by dsimp only [List.set, L2.start, List.map, List.length, List.replicate, List.cons_append, List.nil_append, Nat.reduceSub, Nat.reduceAdd]) ?_
            replace hB_445 := Option.some.inj hB_445
            subst hB_445
            have hz := ret_inv hF
            have hb := Option.some.inj hz
            refine st_ret P ev_bl (fun v Z H P hv => ?_)
            have hv2 : v = V.bl _ := hv
            rw [hb] at hv2
            rw [hv2]
            exact q _
          · replace P := P1
            have hB := ifF b_461 hB_445
            replace hB_445 := hB
            clear hB
            refine st_next ?_
            replace k_391 := ((yList yInt)).mono e.z k_391
            replace k_392 := ((yList (yList yInt))).mono e.z k_392
            replace k_394 := ((yList (yList yInt))).mono e.z k_394
            replace k_398 := ((yList yInt)).mono e.z k_398
            replace hB_445 := Option.some.inj hB_445
            subst hB_445
            exact ⟨_, (), rfl, _, _, _, _, _, _, _, _, _, _, rfl, P, k_391, k_392, k_394, k_398⟩
        · replace P := P1
          replace hB_445 := ifF b_444 hB_445
          replace k_391 := ((yList yInt)).mono e.z k_391
          replace k_392 := ((yList (yList yInt))).mono e.z k_392
          replace k_394 := ((yList (yList yInt))).mono e.z k_394
          replace k_398 := ((yList yInt)).mono e.z k_398
          replace o_399 := o_399.next e
          replace k_443 := ((yOpt (yP2 K (yList yInt) (yList (yList yInt))))).mono e.z k_443
          refine st_norm (by dsimp only [List.set, L2.start, List.map, List.length, List.replicate, List.cons_append, List.nil_append, Nat.reduceSub, Nat.reduceAdd]) ?_
          obtain ⟨x_many_470, h_471, hB_445⟩ := bind_inv hB_445
          replace h_471 := Option.some.inj h_471
          refine st_seq (st_set P (ev_cast (ev_sub (ev_len (fun _ _ _ h => h) (ev_li (ev_fz (en_cast (en_fil (υ := yInt) (fun (x_466 : Int) => (decide (x_466 ≤ x_cut_436))) (fun (x_466 : Int) => x_466) (ei_own (ev_o o_399 rfl)) (fun x_466 v_468 Z' H' zz hh rx_469 => by
                exact ⟨_, tgt_name, (wpe_s wpe_z (by decide)), (et_cmp (ev_le (ev_var (τ := yInt) rfl rx_469) (ev_var (τ := yInt) rfl k_439))), (ev_var (τ := yInt) rfl rx_469)⟩)) (List.map_id' _))))) ev_int) h_471) (fun v_472 Z1 H1 e P1 k_473 => ?_))
          refine st_nx ?_
          replace P := P1
          replace k_391 := ((yList yInt)).mono e.z k_391
          replace k_392 := ((yList (yList yInt))).mono e.z k_392
          replace k_394 := ((yList (yList yInt))).mono e.z k_394
          replace k_398 := ((yList yInt)).mono e.z k_398
          replace k_443 := ((yOpt (yP2 K (yList yInt) (yList (yList yInt))))).mono e.z k_443
          refine st_norm (by dsimp only [List.set, L2.start, List.map, List.length, List.replicate, List.cons_append, List.nil_append, Nat.reduceSub, Nat.reduceAdd]) ?_
          obtain ⟨b_486, h_485, hB_445⟩ := bind_inv hB_445
          refine st_if P (et_orO (et_cmp (ev_isN (ev_var (τ := (yOpt (yP2 K (yList yInt) (yList (yList yInt))))) rfl k_443) ev_non)) (fun _ y hy => by
                obtain ⟨u_476, h_477, hy⟩ := bind_inv hy
                obtain ⟨b_484, h_483, hy⟩ := bind_inv hy
                have hy := Option.some.inj hy
                subst hy
                exact (et_orO (et_cmp (ev_neD (eqd_list eqd_int) (by decide) (ev_fz (en_list_of (fun _ _ _ h => h) (ev_li (ev_cast (ev_part po2_0 (ev_uno (ev_var (τ := (yOpt (yP2 K (yList yInt) (yList (yList yInt))))) rfl k_443) h_477) ev_int) rfl)))) (ev_var (τ := (yList yInt)) rfl k_391))) (fun _ y hy => by
                      obtain ⟨u_480, h_481, hy⟩ := bind_inv hy
                      obtain ⟨g_482, hy⟩ := guard_inv hy
                      have hy := Option.some.inj hy
                      subst hy
                      exact (et_cmp (ev_neD (eqd_list (eqd_list eqd_int)) (by decide) (ev_fz (en_list_of (fun _ _ _ h => h) (ev_li (ev_cast (ev_part po2_1 (ev_uno (ev_var (τ := (yOpt (yP2 K (yList yInt) (yList (yList yInt))))) rfl k_443) h_481) ev_int) rfl)))) (ev_fz (en_cat (ev_li (ev_var (τ := (yList (yList yInt))) rfl k_392)) (ev_li (ev_fz (en_slL (ev_li (ev_var (τ := (yList (yList yInt))) rfl k_394)) eo_none (eo_some (ev_var (τ := yInt) rfl k_473))))) g_482))))) h_483)) h_485) (fun b_487 Z1 H1 e P1 => ?_) (fun b_487 Z1 H1 e P1 => ?_)
          · replace P := P1
            have hB := ifT b_487 hB_445
            replace hB_445 := hB
            clear hB
            refine st_norm (by dsimp only [List.set, L2.start, List.map, List.length, List.replicate, List.cons_append, List.nil_append, Nat.reduceSub, Nat.reduceAdd]) ?_
            replace hB_445 := Option.some.inj hB_445
            subst hB_445
            have hz := ret_inv hF
            have hb := Option.some.inj hz
            refine st_ret P ev_bl (fun v Z H P hv => ?_)
            have hv2 : v = V.bl _ := hv
            rw [hb] at hv2
            rw [hv2]
            exact q _
          · replace P := P1
            have hB := ifF b_487 hB_445
            replace hB_445 := hB
            clear hB
            refine st_next ?_
            replace k_391 := ((yList yInt)).mono e.z k_391
            replace k_392 := ((yList (yList yInt))).mono e.z k_392
            replace k_394 := ((yList (yList yInt))).mono e.z k_394
            replace k_398 := ((yList yInt)).mono e.z k_398
            replace hB_445 := Option.some.inj hB_445
            subst hB_445
            exact ⟨_, (), rfl, _, _, _, _, _, _, _, _, _, _, rfl, P, k_391, k_392, k_394, k_398⟩
      rintro σ' H' ⟨Z1, w_446, rfl, y_447, y_450, y_452, y_453, y_455, y_456, y_457, y_458, y_459, y_460, rfl, P, k_448, k_449, k_451, k_454⟩
      replace hF := go_inv hF
      refine st_norm (by dsimp only [List.set, L2.start, List.map, List.length, List.replicate, List.cons_append, List.nil_append, Nat.reduceSub, Nat.reduceAdd]) ?_
      obtain ⟨i_488, h_489, hF⟩ := bind_inv hF
      obtain ⟨g_490, hF⟩ := guard_inv hF
      obtain ⟨r_491, h_492, hF⟩ := bind_inv hF
      refine st_seq (st_set P (ev_call (cs_read_log T h_492) (eva_cons (ev_fz (en_cat (ev_li (ev_var (τ := (yList yInt)) rfl k_454)) (ev_li (ev_ixL (ev_li (ev_fz (en_listD (eva_conss (ev_fz (en_listD (eva_conss ev_int (eva_nils (τ := yInt))) (by show 1 ≤ sizeLine; decide))) (eva_conss (ev_fz (en_listD (eva_conss (ev_neg ev_int) (eva_nils (τ := yInt))) (by show 1 ≤ sizeLine; decide))) (eva_conss (ev_fz (en_listD (eva_conss ev_int (eva_conss ev_int (eva_nils (τ := yInt)))) (by show 2 ≤ sizeLine; decide))) (eva_nils (τ := (yList yInt)))))) (by show 3 ≤ sizeLine; decide)))) (ev_call (cs__law_next T (by decide +kernel)) (eva_cons (ev_ref rfl) (eva_cons ev_int eva_nil))) h_489)) g_490)) eva_nil)) (fun v_493 Z1 H1 e P1 k_494 => ?_))
      refine st_nx ?_
      replace P := P1
      replace k_494 : ((yOpt (yP2 K (yList yInt) (yList (yList yInt))))).r Z1 v_493 r_491 := k_494
      replace k_448 := ((yList yInt)).mono e.z k_448
      replace k_449 := ((yList (yList yInt))).mono e.z k_449
      replace k_451 := ((yList (yList yInt))).mono e.z k_451
      refine st_norm (by dsimp only [List.set, L2.start, List.map, List.length, List.replicate, List.cons_append, List.nil_append, Nat.reduceSub, Nat.reduceAdd]) ?_
      obtain ⟨b_507, h_506, hF⟩ := bind_inv hF
      refine st_seq (st_if P (et_orO (et_cmp (ev_isN (ev_var (τ := (yOpt (yP2 K (yList yInt) (yList (yList yInt))))) rfl k_494) ev_non)) (fun _ y hy => by
            obtain ⟨u_497, h_498, hy⟩ := bind_inv hy
            obtain ⟨b_505, h_504, hy⟩ := bind_inv hy
            have hy := Option.some.inj hy
            subst hy
            exact (et_orO (et_cmp (ev_neD (eqd_list eqd_int) (by decide) (ev_fz (en_list_of (fun _ _ _ h => h) (ev_li (ev_cast (ev_part po2_0 (ev_uno (ev_var (τ := (yOpt (yP2 K (yList yInt) (yList (yList yInt))))) rfl k_494) h_498) ev_int) rfl)))) (ev_var (τ := (yList yInt)) rfl k_448))) (fun _ y hy => by
                  obtain ⟨u_501, h_502, hy⟩ := bind_inv hy
                  obtain ⟨g_503, hy⟩ := guard_inv hy
                  have hy := Option.some.inj hy
                  subst hy
                  exact (et_cmp (ev_neD (eqd_list (eqd_list eqd_int)) (by decide) (ev_fz (en_list_of (fun _ _ _ h => h) (ev_li (ev_cast (ev_part po2_1 (ev_uno (ev_var (τ := (yOpt (yP2 K (yList yInt) (yList (yList yInt))))) rfl k_494) h_502) ev_int) rfl)))) (ev_fz (en_cat (ev_li (ev_var (τ := (yList (yList yInt))) rfl k_449)) (ev_li (ev_var (τ := (yList (yList yInt))) rfl k_451)) g_503))))) h_504)) h_506) (fun b_508 Z1 H1 e P1 => ?_) (fun b_508 Z1 H1 e P1 => ?_))
      · replace P := P1
        have hB := ifT b_508 hF
        replace hF := hB
        clear hB
        refine st_norm (by dsimp only [List.set, L2.start, List.map, List.length, List.replicate, List.cons_append, List.nil_append, Nat.reduceSub, Nat.reduceAdd]) ?_
        have hb := Option.some.inj hF
        refine st_ret P ev_bl (fun v Z H P hv => ?_)
        have hv2 : v = V.bl _ := hv
        rw [hb] at hv2
        rw [hv2]
        exact q _
      · replace P := P1
        have hB := ifF b_508 hF
        replace hF := hB
        clear hB
        refine st_next0 ?_
        replace k_448 := ((yList yInt)).mono e.z k_448
        refine st_norm (by dsimp only [List.set, L2.start, List.map, List.length, List.replicate, List.cons_append, List.nil_append, Nat.reduceSub, Nat.reduceAdd]) ?_
        obtain ⟨r_509, h_510, hF⟩ := bind_inv hF
        obtain ⟨r_511, h_512, hF⟩ := bind_inv hF
        obtain ⟨r_513, h_514, hF⟩ := bind_inv hF
        obtain ⟨r_515, h_516, hF⟩ := bind_inv hF
        obtain ⟨r_517, h_518, hF⟩ := bind_inv hF
        obtain ⟨x_bad_519, h_520, hF⟩ := bind_inv hF
        replace h_520 := Option.some.inj h_520
        refine st_seq (st_set P (ev_cast (ev_fz (en_listD (eva_conss (ev_fz (en_listD (eva_conss (ev_neg ev_int) (eva_nils (τ := yInt))) (by show 1 ≤ sizeLine; decide))) (eva_conss (ev_call (cs_block_of T h_510) (eva_cons (ev_fz (en_listD (eva_conss ev_int (eva_nils (τ := yInt))) (by show 1 ≤ sizeLine; decide))) eva_nil)) (eva_conss (ev_call (cs_block_of T h_512) (eva_cons (ev_fz (en_listD (eva_nils (τ := yInt)) (by show 0 ≤ sizeLine; decide))) eva_nil)) (eva_conss (ev_call (cs_block_of T h_514) (eva_cons (ev_fz (en_listD (eva_conss ev_int (eva_nils (τ := yInt))) (by show 1 ≤ sizeLine; decide))) eva_nil)) (eva_conss (ev_call (cs_block_of T h_516) (eva_cons (ev_fz (en_listD (eva_conss ev_int (eva_conss ev_int (eva_conss ev_int (eva_nils (τ := yInt))))) (by show 3 ≤ sizeLine; decide))) eva_nil)) (eva_conss (ev_call (cs_block_of T h_518) (eva_cons (ev_fz (en_listD (eva_conss ev_int (eva_conss ev_int (eva_conss ev_int (eva_nils (τ := yInt))))) (by show 3 ≤ sizeLine; decide))) eva_nil)) (eva_conss (ev_fz (en_listD (eva_conss ev_int (eva_conss ev_int (eva_conss ev_int (eva_nils (τ := yInt))))) (by show 3 ≤ sizeLine; decide))) (eva_nils (τ := (yList yInt)))))))))) (by show 7 ≤ sizeLine; decide))) h_520) (fun v_521 Z1 H1 e P1 k_522 => ?_))
        refine st_nx ?_
        replace P := P1
        replace k_448 := ((yList yInt)).mono e.z k_448
        refine st_norm (by dsimp only [List.set, L2.start, List.map, List.length, List.replicate, List.cons_append, List.nil_append, Nat.reduceSub, Nat.reduceAdd]) ?_
        obtain ⟨i_525, h_526, hF⟩ := bind_inv hF
        obtain ⟨r_527, h_528, hF⟩ := bind_inv hF
        obtain ⟨g_529, hF⟩ := guard_inv hF
        obtain ⟨r_530, h_531, hF⟩ := bind_inv hF
        refine st_seq (st_if P (et_cmp (ev_notN (ev_call (cs_read_log T h_531) (eva_cons (ev_fz (en_cat (ev_li (ev_ixL (ev_li (ev_var (τ := (yList (yList yInt))) rfl k_522)) (ev_call (cs__law_next T (by decide +kernel)) (eva_cons (ev_ref rfl) (eva_cons ev_int eva_nil))) h_526)) (ev_li (ev_call (cs_block_of T h_528) (eva_cons (ev_fz (en_list_of (fun _ _ _ h => h) (ev_li (ev_var (τ := (yList yInt)) rfl k_448)))) eva_nil))) g_529)) eva_nil)) ev_non)) (fun b_532 Z1 H1 e P1 => ?_) (fun b_532 Z1 H1 e P1 => ?_))
        · replace P := P1
          have hB := ifT b_532 hF
          replace hF := hB
          clear hB
          refine st_norm (by dsimp only [List.set, L2.start, List.map, List.length, List.replicate, List.cons_append, List.nil_append, Nat.reduceSub, Nat.reduceAdd]) ?_
          have hb := Option.some.inj hF
          refine st_ret P ev_bl (fun v Z H P hv => ?_)
          have hv2 : v = V.bl _ := hv
          rw [hb] at hv2
          rw [hv2]
          exact q _
        · replace P := P1
          have hB := ifF b_532 hF
          replace hF := hB
          clear hB
          refine st_next0 ?_
          refine st_norm (by dsimp only [List.set, L2.start, List.map, List.length, List.replicate, List.cons_append, List.nil_append, Nat.reduceSub, Nat.reduceAdd]) ?_
          obtain ⟨r_533, h_534, hF⟩ := bind_inv hF
          have hb := Option.some.inj hF
          refine st_ret P (ev_call (cs_law_names T h_534) (eva_cons (ev_ref rfl) eva_nil)) (fun v Z H P hv => ?_)
          have hv2 : v = V.bl _ := hv
          rw [hb] at hv2
          rw [hv2]
          exact q _
end
set_option maxRecDepth 100000 in
set_option maxHeartbeats 0 in
theorem all_mk {l : PySem.W.OpenLaw} {w : World} {K : PySem.W.Frag} {h : Heap} {mg : Str → Option Value} {fa f0 f1 f2 f3 f4 f5 f6 f7 f8 f9 f10 f11 f12 f13 f14 f15 f16 f17 f18 f19 f20 f21 f22 : Addr} (X : K.In h) (G : h.Ns mainGlobals mg) (hfa : mg "law" = some (.ref fa))
    {od0 an0 od1 an1 od2 an2 od3 an3 od4 an4 od5 an5 od6 an6 od7 an7 od8 an8 od9 an9 od10 an10 od11 an11 od12 an12 od13 an13 od14 an14 od15 an15 od16 an16 od17 an17 od18 an18 od19 an19 od20 an20 od21 an21 od22 an22 : Option Addr} {sl0 sl1 sl2 sl3 sl4 sl5 sl6 sl7 sl8 sl9 sl10 sl11 sl12 sl13 sl14 sl15 sl16 sl17 sl18 sl19 sl20 sl21 sl22 : Array (Option Value)} {oc0 kV0 dc0 pm0 cd0 ct0 oc1 kV1 dc1 pm1 cd1 ct1 oc2 kV2 dc2 pm2 cd2 ct2 oc3 kV3 dc3 pm3 cd3 ct3 oc4 kV4 dc4 pm4 cd4 ct4 oc5 kV5 dc5 pm5 cd5 ct5 oc6 kV6 dc6 pm6 cd6 ct6 oc7 kV7 dc7 pm7 cd7 ct7 oc8 kV8 dc8 pm8 cd8 ct8 oc9 kV9 dc9 pm9 cd9 ct9 oc10 kV10 dc10 pm10 cd10 ct10 oc11 kV11 dc11 pm11 cd11 ct11 oc12 kV12 dc12 pm12 cd12 ct12 oc13 kV13 dc13 pm13 cd13 ct13 oc14 kV14 dc14 pm14 cd14 ct14 oc15 kV15 dc15 pm15 cd15 ct15 oc16 kV16 dc16 pm16 cd16 ct16 oc17 kV17 dc17 pm17 cd17 ct17 oc18 kV18 dc18 pm18 cd18 ct18 oc19 kV19 dc19 pm19 cd19 ct19 oc20 kV20 dc20 pm20 cd20 ct20 oc21 kV21 dc21 pm21 cd21 ct21 oc22 kV22 dc22 pm22 cd22 ct22 : Value}
    {C_NumberReader : Addr}
    (a0 : PySem.W.nsIn K mainGlobals "_law_row" = some (some (.ref f0))) (l0 : K.lookup f0 = some ⟨oc0, od0, .func (PySem.W.fnOf "_law_row" "_law_row" (defArgs s_law_row) (defBody s_law_row) (defScope s_law_row) .none kV0 dc0 pm0 an0 cd0 ct0), sl0⟩) (c0 : PySem.W.codeIn K cd0 "_law_row" = true) (k0 : PySem.W.keepIn K (.ref f0) = true)
    (a1 : PySem.W.nsIn K mainGlobals "_law_next" = some (some (.ref f1))) (l1 : K.lookup f1 = some ⟨oc1, od1, .func (PySem.W.fnOf "_law_next" "_law_next" (defArgs s_law_next) (defBody s_law_next) (defScope s_law_next) .none kV1 dc1 pm1 an1 cd1 ct1), sl1⟩) (c1 : PySem.W.codeIn K cd1 "_law_next" = true) (k1 : PySem.W.keepIn K (.ref f1) = true)
    (a2 : PySem.W.nsIn K mainGlobals "_law_numbers" = some (some (.ref f2))) (l2 : K.lookup f2 = some ⟨oc2, od2, .func (PySem.W.fnOf "_law_numbers" "_law_numbers" (defArgs s_law_numbers) (defBody s_law_numbers) (defScope s_law_numbers) .none kV2 dc2 pm2 an2 cd2 ct2), sl2⟩) (c2 : PySem.W.codeIn K cd2 "_law_numbers" = true) (k2 : PySem.W.keepIn K (.ref f2) = true)
    (a3 : PySem.W.nsIn K mainGlobals "remainder_of" = some (some (.ref f3))) (l3 : K.lookup f3 = some ⟨oc3, od3, .func (PySem.W.fnOf "remainder_of" "remainder_of" (defArgs s_remainder_of) (defBody s_remainder_of) (defScope s_remainder_of) .none kV3 dc3 pm3 an3 cd3 ct3), sl3⟩) (c3 : PySem.W.codeIn K cd3 "remainder_of" = true) (k3 : PySem.W.keepIn K (.ref f3) = true)
    (a4 : PySem.W.nsIn K mainGlobals "sum_of" = some (some (.ref f4))) (l4 : K.lookup f4 = some ⟨oc4, od4, .func (PySem.W.fnOf "sum_of" "sum_of" (defArgs s_sum_of) (defBody s_sum_of) (defScope s_sum_of) .none kV4 dc4 pm4 an4 cd4 ct4), sl4⟩) (c4 : PySem.W.codeIn K cd4 "sum_of" = true) (k4 : PySem.W.keepIn K (.ref f4) = true)
    (a5 : PySem.W.nsIn K mainGlobals "block_of" = some (some (.ref f5))) (l5 : K.lookup f5 = some ⟨oc5, od5, .func (PySem.W.fnOf "block_of" "block_of" (defArgs s_block_of) (defBody s_block_of) (defScope s_block_of) .none kV5 dc5 pm5 an5 cd5 ct5), sl5⟩) (c5 : PySem.W.codeIn K cd5 "block_of" = true) (k5 : PySem.W.keepIn K (.ref f5) = true)
    (a6 : PySem.W.nsIn K mainGlobals "begins_block" = some (some (.ref f6))) (l6 : K.lookup f6 = some ⟨oc6, od6, .func (PySem.W.fnOf "begins_block" "begins_block" (defArgs s_begins_block) (defBody s_begins_block) (defScope s_begins_block) .none kV6 dc6 pm6 an6 cd6 ct6), sl6⟩) (c6 : PySem.W.codeIn K cd6 "begins_block" = true) (k6 : PySem.W.keepIn K (.ref f6) = true)
    (a7 : PySem.W.nsIn K mainGlobals "read_blocks" = some (some (.ref f7))) (l7 : K.lookup f7 = some ⟨oc7, od7, .func (PySem.W.fnOf "read_blocks" "read_blocks" (defArgs s_read_blocks) (defBody s_read_blocks) (defScope s_read_blocks) .none kV7 dc7 pm7 an7 cd7 ct7), sl7⟩) (c7 : PySem.W.codeIn K cd7 "read_blocks" = true) (k7 : PySem.W.keepIn K (.ref f7) = true)
    (l8 : K.lookup f8 = some ⟨oc8, od8, .func (PySem.W.fnOf "__init__" "NumberReader.__init__" (defArgs s_NumberReader___init__) (defBody s_NumberReader___init__) (defScope s_NumberReader___init__) .none kV8 dc8 pm8 an8 cd8 ct8), sl8⟩) (c8 : PySem.W.codeIn K cd8 "NumberReader.__init__" = true) (k8 : PySem.W.keepIn K (.ref f8) = true)
    (l9 : K.lookup f9 = some ⟨oc9, od9, .func (PySem.W.fnOf "finish" "NumberReader.finish" (defArgs s_NumberReader_finish) (defBody s_NumberReader_finish) (defScope s_NumberReader_finish) .none kV9 dc9 pm9 an9 cd9 ct9), sl9⟩) (c9 : PySem.W.codeIn K cd9 "NumberReader.finish" = true) (k9 : PySem.W.keepIn K (.ref f9) = true)
    (l10 : K.lookup f10 = some ⟨oc10, od10, .func (PySem.W.fnOf "take" "NumberReader.take" (defArgs s_NumberReader_take) (defBody s_NumberReader_take) (defScope s_NumberReader_take) .none kV10 dc10 pm10 an10 cd10 ct10), sl10⟩) (c10 : PySem.W.codeIn K cd10 "NumberReader.take" = true) (k10 : PySem.W.keepIn K (.ref f10) = true)
    (l11 : K.lookup f11 = some ⟨oc11, od11, .func (PySem.W.fnOf "size" "NumberReader.size" (defArgs s_NumberReader_size) (defBody s_NumberReader_size) (defScope s_NumberReader_size) .none kV11 dc11 pm11 an11 cd11 ct11), sl11⟩) (c11 : PySem.W.codeIn K cd11 "NumberReader.size" = true) (k11 : PySem.W.keepIn K (.ref f11) = true)
    (l12 : K.lookup f12 = some ⟨oc12, od12, .func (PySem.W.fnOf "integers" "NumberReader.integers" (defArgs s_NumberReader_integers) (defBody s_NumberReader_integers) (defScope s_NumberReader_integers) .none kV12 dc12 pm12 an12 cd12 ct12), sl12⟩) (c12 : PySem.W.codeIn K cd12 "NumberReader.integers" = true) (k12 : PySem.W.keepIn K (.ref f12) = true)
    (a13 : PySem.W.nsIn K mainGlobals "lists_in" = some (some (.ref f13))) (l13 : K.lookup f13 = some ⟨oc13, od13, .func (PySem.W.fnOf "lists_in" "lists_in" (defArgs s_lists_in) (defBody s_lists_in) (defScope s_lists_in) .none kV13 dc13 pm13 an13 cd13 ct13), sl13⟩) (c13 : PySem.W.codeIn K cd13 "lists_in" = true) (k13 : PySem.W.keepIn K (.ref f13) = true)
    (a14 : PySem.W.nsIn K mainGlobals "read_log" = some (some (.ref f14))) (l14 : K.lookup f14 = some ⟨oc14, od14, .func (PySem.W.fnOf "read_log" "read_log" (defArgs s_read_log) (defBody s_read_log) (defScope s_read_log) .none kV14 dc14 pm14 an14 cd14 ct14), sl14⟩) (c14 : PySem.W.codeIn K cd14 "read_log" = true) (k14 : PySem.W.keepIn K (.ref f14) = true)
    (a15 : PySem.W.nsIn K mainGlobals "log_name" = some (some (.ref f15))) (l15 : K.lookup f15 = some ⟨oc15, od15, .func (PySem.W.fnOf "log_name" "log_name" (defArgs s_log_name) (defBody s_log_name) (defScope s_log_name) .none kV15 dc15 pm15 an15 cd15 ct15), sl15⟩) (c15 : PySem.W.codeIn K cd15 "log_name" = true) (k15 : PySem.W.keepIn K (.ref f15) = true)
    (a16 : PySem.W.nsIn K mainGlobals "is_digit" = some (some (.ref f16))) (l16 : K.lookup f16 = some ⟨oc16, od16, .func (PySem.W.fnOf "is_digit" "is_digit" (defArgs s_is_digit) (defBody s_is_digit) (defScope s_is_digit) .none kV16 dc16 pm16 an16 cd16 ct16), sl16⟩) (c16 : PySem.W.codeIn K cd16 "is_digit" = true) (k16 : PySem.W.keepIn K (.ref f16) = true)
    (a17 : PySem.W.nsIn K mainGlobals "number_in" = some (some (.ref f17))) (l17 : K.lookup f17 = some ⟨oc17, od17, .func (PySem.W.fnOf "number_in" "number_in" (defArgs s_number_in) (defBody s_number_in) (defScope s_number_in) .none kV17 dc17 pm17 an17 cd17 ct17), sl17⟩) (c17 : PySem.W.codeIn K cd17 "number_in" = true) (k17 : PySem.W.keepIn K (.ref f17) = true)
    (a18 : PySem.W.nsIn K mainGlobals "log_number" = some (some (.ref f18))) (l18 : K.lookup f18 = some ⟨oc18, od18, .func (PySem.W.fnOf "log_number" "log_number" (defArgs s_log_number) (defBody s_log_number) (defScope s_log_number) .none kV18 dc18 pm18 an18 cd18 ct18), sl18⟩) (c18 : PySem.W.codeIn K cd18 "log_number" = true) (k18 : PySem.W.keepIn K (.ref f18) = true)
    (a19 : PySem.W.nsIn K mainGlobals "_law_names" = some (some (.ref f19))) (l19 : K.lookup f19 = some ⟨oc19, od19, .func (PySem.W.fnOf "_law_names" "_law_names" (defArgs s_law_names) (defBody s_law_names) (defScope s_law_names) .none kV19 dc19 pm19 an19 cd19 ct19), sl19⟩) (c19 : PySem.W.codeIn K cd19 "_law_names" = true) (k19 : PySem.W.keepIn K (.ref f19) = true)
    (a20 : PySem.W.nsIn K mainGlobals "list_code" = some (some (.ref f20))) (l20 : K.lookup f20 = some ⟨oc20, od20, .func (PySem.W.fnOf "list_code" "list_code" (defArgs s_list_code) (defBody s_list_code) (defScope s_list_code) .none kV20 dc20 pm20 an20 cd20 ct20), sl20⟩) (c20 : PySem.W.codeIn K cd20 "list_code" = true) (k20 : PySem.W.keepIn K (.ref f20) = true)
    (a21 : PySem.W.nsIn K mainGlobals "numbers_code" = some (some (.ref f21))) (l21 : K.lookup f21 = some ⟨oc21, od21, .func (PySem.W.fnOf "numbers_code" "numbers_code" (defArgs s_numbers_code) (defBody s_numbers_code) (defScope s_numbers_code) .none kV21 dc21 pm21 an21 cd21 ct21), sl21⟩) (c21 : PySem.W.codeIn K cd21 "numbers_code" = true) (k21 : PySem.W.keepIn K (.ref f21) = true)
    (a22 : PySem.W.nsIn K mainGlobals "law" = some (some (.ref f22))) (l22 : K.lookup f22 = some ⟨oc22, od22, .func (PySem.W.fnOf "law" "law" (defArgs s_law) (defBody s_law) (defScope s_law) .none kV22 dc22 pm22 an22 cd22 ct22), sl22⟩) (c22 : PySem.W.codeIn K cd22 "law" = true) (k22 : PySem.W.keepIn K (.ref f22) = true)
    (aC_NumberReader : PySem.W.nsIn K mainGlobals "NumberReader" = some (some (.ref C_NumberReader)))
    (pg_NumberReader : PySem.W.plainGet K C_NumberReader Str.empty = true)
    (hd_NumberReader : PySem.W.hasDictIn K C_NumberReader = true)
    (po_NumberReader : PySem.W.plainOver K C_NumberReader = true)
    (sa_NumberReader : PySem.W.findIn K (.ref C_NumberReader) "__setattr__" = some (some (.builtin "object.__setattr__")))
    (n_NumberReader_numbers : PySem.W.findIn K (.ref C_NumberReader) "numbers" = some none)
    (n_NumberReader_at : PySem.W.findIn K (.ref C_NumberReader) "at" = some none)
    (mk_NumberReader : PySem.W.makesIn K C_NumberReader = true)
    (in_NumberReader : PySem.W.findIn K (.ref C_NumberReader) "__init__" = some (some (.ref f8)))
    (if_NumberReader : PySem.W.isFn K (.ref f8) = true)
    (kc_NumberReader : PySem.W.keepIn K (.ref C_NumberReader) = true)
    (fm_NumberReader_take : PySem.W.findIn K (.ref C_NumberReader) "take" = some (some (.ref f10)))
    (im_NumberReader_take : PySem.W.isFn K (.ref f10) = true)
    (fm_NumberReader_size : PySem.W.findIn K (.ref C_NumberReader) "size" = some (some (.ref f11)))
    (im_NumberReader_size : PySem.W.isFn K (.ref f11) = true)
    (fm_NumberReader_integers : PySem.W.findIn K (.ref C_NumberReader) "integers" = some (some (.ref f12)))
    (im_NumberReader_integers : PySem.W.isFn K (.ref f12) = true)
    (fm_NumberReader_finish : PySem.W.findIn K (.ref C_NumberReader) "finish" = some (some (.ref f9)))
    (im_NumberReader_finish : PySem.W.isFn K (.ref f9) = true)
    {C_InvalidCode : Addr}
    (aX_InvalidCode : PySem.W.nsIn K mainGlobals "InvalidCode" = some (some (.ref C_InvalidCode)))
    (kx_InvalidCode : PySem.W.keepIn K (.ref C_InvalidCode) = true)
    (ex_InvalidCode : PySem.W.excIn K C_InvalidCode [.type "ValueError", .type "Exception", .type "BaseException", .type "object"] "ValueError.__new__" = true)
    (bx_InvalidCode : PySem.W.subIn K (.ref C_InvalidCode) (.type "BaseException") = some true)
    (tx_InvalidCode : PySem.W.typeIn K (.ref C_InvalidCode) = some (.type "type"))
    (ix_InvalidCode : PySem.W.isClsIn K C_InvalidCode = true)
    (sx_InvalidCode_InvalidCode : PySem.W.subIn K (.ref C_InvalidCode) (.ref C_InvalidCode) = some true)
    {tk_FACTOR : Tok} (z_FACTOR : PySem.W.nsIn K mainGlobals "FACTOR" = some (some (.int 257 tk_FACTOR)))
    {tk_LOG_WORD : Tok} (z_LOG_WORD : PySem.W.nsIn K mainGlobals "LOG_WORD" = some (some (.str "log " tk_LOG_WORD)))
    {tk_MODULUS : Tok} (z_MODULUS : PySem.W.nsIn K mainGlobals "MODULUS" = some (some (.int 4294967291 tk_MODULUS)))
    (z_all : PySem.W.nsIn K mainGlobals "all" = some none)
    (z_int : PySem.W.nsIn K mainGlobals "int" = some none)
    (z_len : PySem.W.nsIn K mainGlobals "len" = some none)
    (z_list : PySem.W.nsIn K mainGlobals "list" = some none)
    (z_range : PySem.W.nsIn K mainGlobals "range" = some none)
    (z_str : PySem.W.nsIn K mainGlobals "str" = some none)
    (z_tuple : PySem.W.nsIn K mainGlobals "tuple" = some none)
    : ∃ fd : FuncData, (∀ (s : Shared) (v : Value), BindsTo s fd ⟨[v], []⟩ [("script", v)]) ∧ ∀ base : Heap, K.In base → base.Ns mainGlobals mg → FnOk l.prog w K mg base CX0 6 fa fd ["script"] (sp_law K) := by
  have e := hfa.symm.trans (PySem.W.mg_of X G a22)
  cases e
  have F0 := fun_mk (st := s_law_row) l0 c0 k0
  have b0 := F0.binds (ps := ["script", "k"]) fun _ _ _ _ _ _ us hl => match us, hl with | [_, _], _ => rfl
  have F1 := fun_mk (st := s_law_next) l1 c1 k1
  have b1 := F1.binds (ps := ["state", "many"]) fun _ _ _ _ _ _ us hl => match us, hl with | [_, _], _ => rfl
  have F2 := fun_mk (st := s_law_numbers) l2 c2 k2
  have b2 := F2.binds (ps := ["state"]) fun _ _ _ _ _ _ us hl => match us, hl with | [_], _ => rfl
  have F3 := fun_mk (st := s_remainder_of) l3 c3 k3
  have b3 := F3.binds (ps := ["row", "factor"]) fun _ _ _ _ _ _ us hl => match us, hl with | [_, _], _ => rfl
  have F4 := fun_mk (st := s_sum_of) l4 c4 k4
  have b4 := F4.binds (ps := ["numbers"]) fun _ _ _ _ _ _ us hl => match us, hl with | [_], _ => rfl
  have F5 := fun_mk (st := s_block_of) l5 c5 k5
  have b5 := F5.binds (ps := ["numbers"]) fun _ _ _ _ _ _ us hl => match us, hl with | [_], _ => rfl
  have F6 := fun_mk (st := s_begins_block) l6 c6 k6
  have b6 := F6.binds (ps := ["numbers", "at"]) fun _ _ _ _ _ _ us hl => match us, hl with | [_, _], _ => rfl
  have F7 := fun_mk (st := s_read_blocks) l7 c7 k7
  have b7 := F7.binds (ps := ["numbers"]) fun _ _ _ _ _ _ us hl => match us, hl with | [_], _ => rfl
  have F8 := fun_mk (st := s_NumberReader___init__) l8 c8 k8
  have b8 := F8.binds (ps := ["self", "numbers"]) fun _ _ _ _ _ _ us hl => match us, hl with | [_, _], _ => rfl
  have F9 := fun_mk (st := s_NumberReader_finish) l9 c9 k9
  have b9 := F9.binds (ps := ["self"]) fun _ _ _ _ _ _ us hl => match us, hl with | [_], _ => rfl
  have F10 := fun_mk (st := s_NumberReader_take) l10 c10 k10
  have b10 := F10.binds (ps := ["self"]) fun _ _ _ _ _ _ us hl => match us, hl with | [_], _ => rfl
  have F11 := fun_mk (st := s_NumberReader_size) l11 c11 k11
  have b11 := F11.binds (ps := ["self"]) fun _ _ _ _ _ _ us hl => match us, hl with | [_], _ => rfl
  have F12 := fun_mk (st := s_NumberReader_integers) l12 c12 k12
  have b12 := F12.binds (ps := ["self"]) fun _ _ _ _ _ _ us hl => match us, hl with | [_], _ => rfl
  have F13 := fun_mk (st := s_lists_in) l13 c13 k13
  have b13 := F13.binds (ps := ["numbers"]) fun _ _ _ _ _ _ us hl => match us, hl with | [_], _ => rfl
  have F14 := fun_mk (st := s_read_log) l14 c14 k14
  have b14 := F14.binds (ps := ["numbers"]) fun _ _ _ _ _ _ us hl => match us, hl with | [_], _ => rfl
  have F15 := fun_mk (st := s_log_name) l15 c15 k15
  have b15 := F15.binds (ps := ["number"]) fun _ _ _ _ _ _ us hl => match us, hl with | [_], _ => rfl
  have F16 := fun_mk (st := s_is_digit) l16 c16 k16
  have b16 := F16.binds (ps := ["char"]) fun _ _ _ _ _ _ us hl => match us, hl with | [_], _ => rfl
  have F17 := fun_mk (st := s_number_in) l17 c17 k17
  have b17 := F17.binds (ps := ["text"]) fun _ _ _ _ _ _ us hl => match us, hl with | [_], _ => rfl
  have F18 := fun_mk (st := s_log_number) l18 c18 k18
  have b18 := F18.binds (ps := ["name"]) fun _ _ _ _ _ _ us hl => match us, hl with | [_], _ => rfl
  have F19 := fun_mk (st := s_law_names) l19 c19 k19
  have b19 := F19.binds (ps := ["state"]) fun _ _ _ _ _ _ us hl => match us, hl with | [_], _ => rfl
  have F20 := fun_mk (st := s_list_code) l20 c20 k20
  have b20 := F20.binds (ps := ["codes"]) fun _ _ _ _ _ _ us hl => match us, hl with | [_], _ => rfl
  have F21 := fun_mk (st := s_numbers_code) l21 c21 k21
  have b21 := F21.binds (ps := ["numbers"]) fun _ _ _ _ _ _ us hl => match us, hl with | [_], _ => rfl
  have F22 := fun_mk (st := s_law) l22 c22 k22
  have b22 := F22.binds (ps := ["script"]) fun _ _ _ _ _ _ us hl => match us, hl with | [_], _ => rfl
  let T : Txt K mg := ⟨_, _, F0, b0, PySem.W.mg_of X G a0,
    _, _, F1, b1, PySem.W.mg_of X G a1,
    _, _, F2, b2, PySem.W.mg_of X G a2,
    _, _, F3, b3, PySem.W.mg_of X G a3,
    _, _, F4, b4, PySem.W.mg_of X G a4,
    _, _, F5, b5, PySem.W.mg_of X G a5,
    _, _, F6, b6, PySem.W.mg_of X G a6,
    _, _, F7, b7, PySem.W.mg_of X G a7,
    _, _, F8, b8,
    _, _, F9, b9,
    _, _, F10, b10,
    _, _, F11, b11,
    _, _, F12, b12,
    _, _, F13, b13, PySem.W.mg_of X G a13,
    _, _, F14, b14, PySem.W.mg_of X G a14,
    _, _, F15, b15, PySem.W.mg_of X G a15,
    _, _, F16, b16, PySem.W.mg_of X G a16,
    _, _, F17, b17, PySem.W.mg_of X G a17,
    _, _, F18, b18, PySem.W.mg_of X G a18,
    _, _, F19, b19, PySem.W.mg_of X G a19,
    _, _, F20, b20, PySem.W.mg_of X G a20,
    _, _, F21, b21, PySem.W.mg_of X G a21,
    _, _, F22, b22, PySem.W.mg_of X G a22,
    _, PySem.W.mg_of X G aX_InvalidCode, kx_InvalidCode, ex_InvalidCode, bx_InvalidCode, tx_InvalidCode,
    exm_any bx_InvalidCode (fun c e => by cases e; exact ix_InvalidCode) tx_InvalidCode sx_InvalidCode_InvalidCode ⟨_, rfl⟩,
    _, ⟨pg_NumberReader, hd_NumberReader, po_NumberReader, sa_NumberReader⟩, PySem.W.mg_of X G aC_NumberReader, n_NumberReader_numbers, n_NumberReader_at, ⟨mk_NumberReader, in_NumberReader, if_NumberReader, kc_NumberReader⟩, ⟨fm_NumberReader_take, im_NumberReader_take, k10⟩, ⟨fm_NumberReader_size, im_NumberReader_size, k11⟩, ⟨fm_NumberReader_integers, im_NumberReader_integers, k12⟩, ⟨fm_NumberReader_finish, im_NumberReader_finish, k9⟩,
    ⟨_, PySem.W.mg_of X G z_FACTOR⟩,
    ⟨_, PySem.W.mg_of X G z_LOG_WORD⟩,
    ⟨_, PySem.W.mg_of X G z_MODULUS⟩,
    PySem.W.mg_none_of X G z_all,
    PySem.W.mg_none_of X G z_int,
    PySem.W.mg_none_of X G z_len,
    PySem.W.mg_none_of X G z_list,
    PySem.W.mg_none_of X G z_range,
    PySem.W.mg_none_of X G z_str,
    PySem.W.mg_none_of X G z_tuple⟩
  exact ⟨_, fun s v => .of_eq rfl, fun base _ _ => ok_law T⟩
end K40
open PySem PySem.W PyProof.Rows
set_option maxRecDepth 100000 in
set_option maxHeartbeats 0 in
theorem PySem.Challenge.cw_surenear_k40_logs_holds : PySem.Challenge.rw_surenear_k40_logs.Holds := by
  w_on; o_law; k_head; (case hw => w_witness2)
  k_fill
  refine L2.walk_of (l := PySem.Challenge.rw_surenear_k40_logs) (n := 63) (k := 6) (x := "script") (CX := fun _ => L2.CX0) (sp := fun w => K40.sp_law _) rfl (by decide) rfl ⟨rfl, by decide, by decide⟩ (fun w h Y => PySem.W.kIn_of Y) ?F (fun _ _ a ns hl _ hS => ⟨a, ns, rfl, hS, hl, fun _ => rfl⟩) (fun _ _ _ _ _ h => h)
  case F =>
    intro w mg fa h KX G hmg
    refine' K40.all_mk KX G hmg (a0 := ?a0) (l0 := ?l0) (c0 := ?c0) (k0 := ?k0) (a1 := ?a1) (l1 := ?l1) (c1 := ?c1) (k1 := ?k1) (a2 := ?a2) (l2 := ?l2) (c2 := ?c2) (k2 := ?k2) (a3 := ?a3) (l3 := ?l3) (c3 := ?c3) (k3 := ?k3) (a4 := ?a4) (l4 := ?l4) (c4 := ?c4) (k4 := ?k4) (a5 := ?a5) (l5 := ?l5) (c5 := ?c5) (k5 := ?k5) (a6 := ?a6) (l6 := ?l6) (c6 := ?c6) (k6 := ?k6) (a7 := ?a7) (l7 := ?l7) (c7 := ?c7) (k7 := ?k7) (a13 := ?a13) (l13 := ?l13) (c13 := ?c13) (k13 := ?k13) (a14 := ?a14) (l14 := ?l14) (c14 := ?c14) (k14 := ?k14) (a15 := ?a15) (l15 := ?l15) (c15 := ?c15) (k15 := ?k15) (a16 := ?a16) (l16 := ?l16) (c16 := ?c16) (k16 := ?k16) (a17 := ?a17) (l17 := ?l17) (c17 := ?c17) (k17 := ?k17) (a18 := ?a18) (l18 := ?l18) (c18 := ?c18) (k18 := ?k18) (a19 := ?a19) (l19 := ?l19) (c19 := ?c19) (k19 := ?k19) (a20 := ?a20) (l20 := ?l20) (c20 := ?c20) (k20 := ?k20) (a21 := ?a21) (l21 := ?l21) (c21 := ?c21) (k21 := ?k21) (a22 := ?a22) (l22 := ?l22) (c22 := ?c22) (k22 := ?k22) (aC_NumberReader := ?aC_NumberReader) (pg_NumberReader := ?pg_NumberReader) (hd_NumberReader := ?hd_NumberReader) (po_NumberReader := ?po_NumberReader) (sa_NumberReader := ?sa_NumberReader) (n_NumberReader_numbers := ?n_NumberReader_numbers) (n_NumberReader_at := ?n_NumberReader_at) (mk_NumberReader := ?mk_NumberReader) (in_NumberReader := ?in_NumberReader) (if_NumberReader := ?if_NumberReader) (kc_NumberReader := ?kc_NumberReader) (fm_NumberReader_take := ?fm_NumberReader_take) (im_NumberReader_take := ?im_NumberReader_take) (fm_NumberReader_size := ?fm_NumberReader_size) (im_NumberReader_size := ?im_NumberReader_size) (fm_NumberReader_integers := ?fm_NumberReader_integers) (im_NumberReader_integers := ?im_NumberReader_integers) (fm_NumberReader_finish := ?fm_NumberReader_finish) (im_NumberReader_finish := ?im_NumberReader_finish) (aX_InvalidCode := ?aX_InvalidCode) (kx_InvalidCode := ?kx_InvalidCode) (bx_InvalidCode := ?bx_InvalidCode) (tx_InvalidCode := ?tx_InvalidCode) (ix_InvalidCode := ?ix_InvalidCode) (sx_InvalidCode_InvalidCode := ?sx_InvalidCode_InvalidCode) (l8 := ?l8) (c8 := ?c8) (k8 := ?k8) (l9 := ?l9) (c9 := ?c9) (k9 := ?k9) (l10 := ?l10) (c10 := ?c10) (k10 := ?k10) (l11 := ?l11) (c11 := ?c11) (k11 := ?k11) (l12 := ?l12) (c12 := ?c12) (k12 := ?k12) (z_FACTOR := ?z_FACTOR) (z_LOG_WORD := ?z_LOG_WORD) (z_MODULUS := ?z_MODULUS) (z_all := ?z_all) (z_int := ?z_int) (z_len := ?z_len) (z_list := ?z_list) (z_range := ?z_range) (z_str := ?z_str) (z_tuple := ?z_tuple) (ex_InvalidCode := ?ex_InvalidCode)
    (case a0 => k_is); (case l0 => k_is); (case c0 => k_is); (case k0 => k_is); (case a1 => k_is); (case l1 => k_is); (case c1 => k_is); (case k1 => k_is); (case a2 => k_is); (case l2 => k_is); (case c2 => k_is); (case k2 => k_is); (case a3 => k_is); (case l3 => k_is); (case c3 => k_is); (case k3 => k_is); (case a4 => k_is); (case l4 => k_is); (case c4 => k_is); (case k4 => k_is); (case a5 => k_is); (case l5 => k_is); (case c5 => k_is); (case k5 => k_is); (case a6 => k_is); (case l6 => k_is); (case c6 => k_is); (case k6 => k_is); (case a7 => k_is); (case l7 => k_is); (case c7 => k_is); (case k7 => k_is); (case a13 => k_is); (case l13 => k_is); (case c13 => k_is); (case k13 => k_is); (case a14 => k_is); (case l14 => k_is); (case c14 => k_is); (case k14 => k_is); (case a15 => k_is); (case l15 => k_is); (case c15 => k_is); (case k15 => k_is); (case a16 => k_is); (case l16 => k_is); (case c16 => k_is); (case k16 => k_is); (case a17 => k_is); (case l17 => k_is); (case c17 => k_is); (case k17 => k_is); (case a18 => k_is); (case l18 => k_is); (case c18 => k_is); (case k18 => k_is); (case a19 => k_is); (case l19 => k_is); (case c19 => k_is); (case k19 => k_is); (case a20 => k_is); (case l20 => k_is); (case c20 => k_is); (case k20 => k_is); (case a21 => k_is); (case l21 => k_is); (case c21 => k_is); (case k21 => k_is); (case a22 => k_is); (case l22 => k_is); (case c22 => k_is); (case k22 => k_is); (case aC_NumberReader => k_is); (case pg_NumberReader => k_is); (case hd_NumberReader => k_is); (case po_NumberReader => k_is); (case sa_NumberReader => k_is); (case n_NumberReader_numbers => k_is); (case n_NumberReader_at => k_is); (case mk_NumberReader => k_is); (case in_NumberReader => k_is); (case if_NumberReader => k_is); (case kc_NumberReader => k_is); (case fm_NumberReader_take => k_is); (case im_NumberReader_take => k_is); (case fm_NumberReader_size => k_is); (case im_NumberReader_size => k_is); (case fm_NumberReader_integers => k_is); (case im_NumberReader_integers => k_is); (case fm_NumberReader_finish => k_is); (case im_NumberReader_finish => k_is); (case aX_InvalidCode => k_is); (case kx_InvalidCode => k_is); (case bx_InvalidCode => k_is); (case tx_InvalidCode => k_is); (case ix_InvalidCode => k_is); (case sx_InvalidCode_InvalidCode => k_is); (case l8 => k_is); (case c8 => k_is); (case k8 => k_is); (case l9 => k_is); (case c9 => k_is); (case k9 => k_is); (case l10 => k_is); (case c10 => k_is); (case k10 => k_is); (case l11 => k_is); (case c11 => k_is); (case k11 => k_is); (case l12 => k_is); (case c12 => k_is); (case k12 => k_is); (case z_FACTOR => k_is); (case z_LOG_WORD => k_is); (case z_MODULUS => k_is); (case z_all => k_is); (case z_int => k_is); (case z_len => k_is); (case z_list => k_is); (case z_range => k_is); (case z_str => k_is); (case z_tuple => k_is)
    (case ex_InvalidCode => k_exc)
