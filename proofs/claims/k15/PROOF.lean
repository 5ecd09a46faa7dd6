import PyProof.Rows.All
import Wide.All
import OpenK.AllK
import Wide.FinOn
import HandS.ForMost
import HandS.Codes
import HandS.Wide
import HandS.IsInst
import HandS.Walk
import HandS.Zip
import HandS.MakeKwOnly
import HandS.ForExc
import HandS.TryMany
import HandS.Strs
import HandS.More
import HandS.Property
import HandS.SetFor
import HandS.Conv
import HandS.Text
import HandS.TupAny
import HandS.Style
import KE.KEqSeq
import KE.LtData
import KE.OsRunLaw
import KE.GoesEnum
import HandS.OwnEq
import PyProof.NeKinds
import HandS.Small
import HandS.Deep
import HandS.Nested
import HandS.Lambda
import HandS.EndTab
import KE.SortKeyHeap
import KE.KNestM
import KE.KTupSum
import KE.KDictZip
import KE.KStar
import HandS.Star
import HandS.FStr
import KE.HD2
import HandS.SetKeys
import PySem.Challenge.RW_surenear_k15_costs
set_option Elab.async false
set_option linter.all false
set_option maxRecDepth 100000
section
open PySem PySem.W PyProof.Rows
open PySem.Calls
namespace K15H
abbrev Rw : OpenRow := OpenLaw.row PySem.Challenge.rw_surenear_k15_costs
abbrev qv : Program := view Rw.prog [81]
def nm0 : List PySem.Str := ["_wall", "Rank", "SurenearError", "InvalidSchema", "InvalidFilter", "InvalidQuery", "kind_of_value", "same_value", "same_values", "is_among", "satisfies", "Condition", "Every", "Has", "Compare", "OneOf", "Both", "Either", "Negation", "pieces_of", "parts_of", "bracketed", "text_of_value", "is_letter", "is_digit", "is_word", "SIGNS", "Token", "read_tokens", "token_at"]
def nm1 : List PySem.Str := ["word_at", "integer_at", "text_at", "MOST_OPEN", "COMPARISONS", "read_filter", "FilterReader", "inner", "distance", "differing", "KINDS", "MEASURES", "WIDTHS", "RESERVED", "Schema", "check_vectors", "check_fields", "are_within", "are_fields_of", "are_words", "MOST_COUNT", "Question", "check_query", "Query", "Record", "same_fields", "_law_row", "_law_next", "_law_fields", "_law_schema"]
def nm2 : List PySem.Str := ["_law_number", "_law_value", "_law_pairs", "_law_words", "_law_name", "_law_query", "_law_far", "_law_cost"]
def names : List PySem.Str := nm0 ++ nm1 ++ nm2
noncomputable abbrev theRun (w : World) (os : OsState) : Option SharedT := HeadRun.endF (HeadRun.stepQ (HeadRun.denQ HeadRun.tabQ) Rw.prog w) 60000 Rw.prog w os
theorem run_parts {H : Hook} {ob : SharedT → H.α} {w : World}
    (h1 : ∀ os, (theRun w os).map (fun s => HeadRun.looksF Rw.prog (boot_heap w.params) s.abs) = some true)
    (h2 : ∀ os, (theRun w os).map (fun s => HeadRun.seenQ qv names (importedModules Rw.prog.main.body) (fun s => xlAt qv [] s && recOk Rw.toRowW.records s) s.abs) = some (openGood qv names))
    (h3 : ∀ os, (theRun w os).map ob = some (H.val w)) : HeadRun.RunEq Rw qv H ob 60000 names w := by
  intro os
  obtain ⟨s, hs, e1⟩ := Option.map_eq_some_iff.mp (h1 os)
  have e2 := h2 os
  have e3 := h3 os
  rw [hs, Option.map_some] at e2 e3
  have e2 := Option.some.inj e2
  have e3 := Option.some.inj e3
  show (theRun w os).map _ = _
  rw [hs, Option.map_some, e1, e2, e3]
theorem obs_parts {x : Option SharedT} {as : List Addr} {vs : List (Option Obj)} (n : Nat)
    (ha : x.map (fun s => (as.take n).map (HeadRun.getT s)) = some (vs.take n))
    (hb : x.map (fun s => (as.drop n).map (HeadRun.getT s)) = some (vs.drop n)) : x.map (fun s => as.map (HeadRun.getT s)) = some vs := by
  obtain ⟨s, rfl, e1⟩ := Option.map_eq_some_iff.mp ha
  rw [Option.map_some] at hb ⊢
  have e2 := Option.some.inj hb
  rw [← List.take_append_drop n as, List.map_append, e1, e2, List.take_append_drop]
theorem part1f (w : World) (os : OsState) : (fun (w : World) (os : OsState) => (theRun w os).map (fun s => HeadRun.looksF Rw.prog (boot_heap w.params) s.abs) = some true) (w.withFollow "special-get-raises" false) os := by kernel_rfl
theorem part1t (w : World) (os : OsState) : (fun (w : World) (os : OsState) => (theRun w os).map (fun s => HeadRun.looksF Rw.prog (boot_heap w.params) s.abs) = some true) (w.withFollow "special-get-raises" true) os := by kernel_rfl
theorem part1 (w : World) (os : OsState) : (theRun w os).map (fun s => HeadRun.looksF Rw.prog (boot_heap w.params) s.abs) = some true := PySem.W.byRow2 "special-get-raises" (P := fun w => ∀ os, (fun (w : World) (os : OsState) => (theRun w os).map (fun s => HeadRun.looksF Rw.prog (boot_heap w.params) s.abs) = some true) w os) part1f part1t w os
theorem part2f (w : World) (os : OsState) : (fun (w : World) (os : OsState) => (theRun w os).map (fun s => HeadRun.seenQ qv names (importedModules Rw.prog.main.body) (fun s => xlAt qv [] s && recOk Rw.toRowW.records s) s.abs) = some (openGood qv names)) (w.withFollow "special-get-raises" false) os := by kernel_rfl
theorem part2t (w : World) (os : OsState) : (fun (w : World) (os : OsState) => (theRun w os).map (fun s => HeadRun.seenQ qv names (importedModules Rw.prog.main.body) (fun s => xlAt qv [] s && recOk Rw.toRowW.records s) s.abs) = some (openGood qv names)) (w.withFollow "special-get-raises" true) os := by kernel_rfl
theorem part2 (w : World) (os : OsState) : (theRun w os).map (fun s => HeadRun.seenQ qv names (importedModules Rw.prog.main.body) (fun s => xlAt qv [] s && recOk Rw.toRowW.records s) s.abs) = some (openGood qv names) := PySem.W.byRow2 "special-get-raises" (P := fun w => ∀ os, (fun (w : World) (os : OsState) => (theRun w os).map (fun s => HeadRun.seenQ qv names (importedModules Rw.prog.main.body) (fun s => xlAt qv [] s && recOk Rw.toRowW.records s) s.abs) = some (openGood qv names)) w os) part2f part2t w os
end K15H
set_option hygiene false in
local macro_rules
  | `(tactic| o_headL (kHook $k $a $e)) => `(tactic| refine HeadRun.head_any (r := K15H.Rw) (q := K15H.qv) (H := kHook $k $a $e) (ob := fun s => List.map (HeadRun.getT s) $a) (M := 60000) (loose := K15H.names) (d := HeadRun.topDef K15H.Rw.prog 81) (kwd := []) (fun s => List.map_congr_left fun a _ => HeadRun.getT_eq s a) (by kernel_rfl) (fun s => by kernel_rfl) (fun w => K15H.run_parts (K15H.part1 w) (K15H.part2 w) (PySem.W.byRow2 "special-get-raises" (P := fun w => ∀ os, (K15H.theRun w os).map (fun s => List.map (HeadRun.getT s) $a) = some ((kHook $k $a $e).val w)) (fun w os => by kernel_rfl) (fun w os => by kernel_rfl) w)) (by kernel_rfl) (by kernel_rfl) (by kernel_rfl) (by kernel_rfl) (by first | assumption | decide +kernel) (by decide +kernel) ⟨rfl, rfl, rfl, rfl, rfl, by decide +kernel⟩ ?hw ?hc)
set_option maxRecDepth 100000 in
set_option maxHeartbeats 0 in
noncomputable def K15H.headT : (T : Prop) ×' PLift (T → PySem.Challenge.rw_surenear_k15_costs.Holds) := ⟨_, ⟨fun h => by
  w_on; o_law; k_headL; (case hw => w_witness2)
  exact h⟩⟩
end
set_option synthInstance.maxHeartbeats 400000
set_option synthInstance.maxSize 4000
namespace TP
open PySem PySem.Spec PyProof.Rows L2
/-! ### heaps: Z is the part that never changes, H is all -/
def SameX (S : List Addr) (H H' : Hp) : Prop := ∀ a o, a ∉ S → H a = some o → H' a = some o
theorem SameX.refl {S : List Addr} {H : Hp} : SameX S H H := fun _ _ _ h => h
theorem SameX.trans {S : List Addr} {H H1 H2 : Hp} (f : SameX S H H1) (g : SameX S H1 H2) : SameX S H H2 := fun a o n h => g a o n (f a o n h)
structure Step (S : List Addr) (Z H Z' H' : Hp) : Prop where
  z : Same Z Z'
  s : Same Z' H'
  h : SameX S H H'
  n : ∀ a, H a ≠ none → Z a = none → Z' a = none
  al : ∀ a, H a ≠ none → H' a ≠ none
theorem Step.refl {S : List Addr} {Z H : Hp} (s : Same Z H) : Step S Z H Z H := ⟨Same.refl _, s, SameX.refl, fun _ _ h => h, fun _ h => h⟩
theorem Step.mine {S F : List Addr} {Z H Z1 H1 Z2 H2 : Hp} (f : Step S Z H Z1 H1) (g : Step F Z1 H1 Z2 H2) (m : ∀ a ∈ F, a ∈ S ∨ H a = none) : Step S Z H Z2 H2 :=
  ⟨f.z.trans g.z, g.s, fun a o na h => g.h a o (fun q => by rcases m a q with x | x; exact na x; rw [x] at h; cases h) (f.h a o na h), fun a h z => g.n a (f.al a h) (f.n a h z), fun a h => g.al a (f.al a h)⟩
theorem Step.trans {S : List Addr} {Z H Z1 H1 Z2 H2 : Hp} (f : Step S Z H Z1 H1) (g : Step S Z1 H1 Z2 H2) : Step S Z H Z2 H2 := f.mine g fun _ h => .inl h
theorem Step.weak {S F : List Addr} {Z H Z1 H1 : Hp} (g : Step F Z H Z1 H1) (m : ∀ a ∈ F, a ∈ S ∨ H a = none) : Step S Z H Z1 H1 :=
  ⟨g.z, g.s, fun a o na h => g.h a o (fun q => by rcases m a q with x | x; exact na x; rw [x] at h; cases h) h, g.n, g.al⟩
theorem Step.pure {S : List Addr} {Z H Z1 H1 : Hp} (g : Step [] Z H Z1 H1) : Step S Z H Z1 H1 := g.weak fun _ h => by cases h
theorem ne_of_some {H : Hp} {a p : Addr} (h : H a ≠ none) (hp : H p = none) : a ≠ p := fun e => h (e ▸ hp)
theorem some_ne {H : Hp} {a : Addr} {o : HO} (h : H a = some o) : H a ≠ none := by rw [h]; exact fun z => nomatch z
theorem same_none {Z H : Hp} (s : Same Z H) {p : Addr} (h : H p = none) : Z p = none := s.free h
theorem same_upd {H : Hp} {p : Addr} {o : HO} (h : H p = none) : Same H (upd H p o) := fun a u e => by
  rw [upd_ne (ne_of_some (some_ne e) h)]; exact e
theorem same_upd2 {Z H : Hp} {p : Addr} {o : HO} (s : Same Z H) : Same (upd Z p o) (upd H p o) := fun a u e => by
  by_cases q : a = p
  · subst q; rw [upd_same] at e ⊢; exact e
  · rw [upd_ne q] at e ⊢; exact s a u e
/-- something new that never changes -/
theorem Step.new {Z H : Hp} {p : Addr} {o : HO} (s : Same Z H) (hp : H p = none) : Step [] Z H (upd Z p o) (upd H p o) :=
  ⟨same_upd (same_none s hp), same_upd2 s, fun a u _ e => same_upd hp a u e, fun a h z => by rw [upd_ne (ne_of_some h hp)]; exact z, fun a h => by rw [upd_ne (ne_of_some h hp)]; exact h⟩
/-- something new of one's own -/
theorem Step.own {Z H : Hp} {p : Addr} {o : HO} (s : Same Z H) (hp : H p = none) : Step [] Z H Z (upd H p o) :=
  ⟨Same.refl _, s.trans (same_upd hp), fun a u _ e => same_upd hp a u e, fun _ _ z => z, fun a h => by rw [upd_ne (ne_of_some h hp)]; exact h⟩
/-- one's own is changed -/
theorem Step.set {Z H : Hp} {p : Addr} {o : HO} (s : Same Z H) (hz : Z p = none) : Step [p] Z H Z (upd H p o) := by
  refine ⟨Same.refl _, fun a u e => ?_, fun a u n e => ?_, fun _ _ z => z, fun a h => ?_⟩
  · rw [upd_ne (ne_of_some (some_ne e) hz)]; exact s a u e
  · rw [upd_ne (fun q => n (by rw [q]; exact List.mem_cons_self))]; exact e
  · by_cases q : a = p
    · subst q; rw [upd_same]; exact fun z => nomatch z
    · rw [upd_ne q]; exact h

/-! ### kinds of values -/
structure Ty (α : Type) where
  r : Hp → V → α → Prop
  mono : ∀ {Z Z' : Hp} {v : V} {x : α}, Same Z Z' → r Z v x → r Z' v x
def yInt : Ty Int := ⟨fun _ v x => v = .int x, fun _ h => h⟩
def yBool : Ty Bool := ⟨fun _ v x => v = .bl x, fun _ h => h⟩
def okS (x : Str) : Bool := PyData.strOk x && decide (x.length ≤ sizeLine)
def yStr : Ty Str := ⟨fun _ v x => v = .str x ∧ okS x = true, fun _ h => h⟩
def yNon : Ty Unit := ⟨fun _ v _ => v = .non, fun _ h => h⟩
def yOpt {α : Type} (τ : Ty α) : Ty (Option α) := ⟨fun Z v x => match x with | none => v = .non | some y => τ.r Z v y ∧ v ≠ .non, fun {_ _ _ x} s h => match x, h with | none, h => h | some _, h => ⟨τ.mono s h.1, h.2⟩⟩
/-- place by place -/
inductive All {α : Type} (R : V → α → Prop) : List V → List α → Prop
  | nil : All R [] []
  | cons {v : V} {vs : List V} {x : α} {xs : List α} : R v x → All R vs xs → All R (v :: vs) (x :: xs)
section
variable {α β : Type} {R R' : V → α → Prop}
theorem All.imp (f : ∀ v x, R v x → R' v x) : ∀ {vs : List V} {xs : List α}, All R vs xs → All R' vs xs
  | _, _, .nil => .nil
  | _, _, .cons h t => .cons (f _ _ h) (t.imp f)
theorem All.len : ∀ {vs : List V} {xs : List α}, All R vs xs → vs.length = xs.length
  | _, _, .nil => rfl
  | _, _, .cons _ t => congrArg Nat.succ t.len
theorem All.app : ∀ {vs ws : List V} {xs ys : List α}, All R vs xs → All R ws ys → All R (vs ++ ws) (xs ++ ys)
  | _, _, _, _, .nil, h => h
  | _, _, _, _, .cons h t, g => .cons h (t.app g)
theorem All.snoc {vs : List V} {xs : List α} {v : V} {x : α} (h : All R vs xs) (g : R v x) : All R (vs ++ [v]) (xs ++ [x]) := h.app (.cons g .nil)
theorem All.get : ∀ {vs : List V} {xs : List α} {i : Nat} {v : V}, All R vs xs → vs[i]? = some v → ∃ x, xs[i]? = some x ∧ R v x
  | _, _, _, _, .nil, h => by simp at h
  | _, _, 0, _, .cons h _, e => ⟨_, rfl, by have := Option.some.inj e; rw [← this]; exact h⟩
  | _, _, i + 1, _, .cons _ t, e => t.get (i := i) e
theorem All.at : ∀ {vs : List V} {xs : List α} {i : Nat} {x : α}, All R vs xs → xs[i]? = some x → ∃ v, vs[i]? = some v ∧ R v x
  | _, _, _, _, .nil, h => by simp at h
  | _, _, 0, _, .cons h _, e => ⟨_, rfl, by have := Option.some.inj e; rw [← this]; exact h⟩
  | _, _, i + 1, _, .cons _ t, e => t.at (i := i) e
theorem All.take : ∀ {vs : List V} {xs : List α} (n : Nat), All R vs xs → All R (vs.take n) (xs.take n)
  | _, _, 0, _ => .nil
  | _, _, _ + 1, .nil => .nil
  | _, _, n + 1, .cons h t => .cons h (t.take n)
theorem All.drop : ∀ {vs : List V} {xs : List α} (n : Nat), All R vs xs → All R (vs.drop n) (xs.drop n)
  | _, _, 0, h => h
  | _, _, _ + 1, .nil => .nil
  | _, _, n + 1, .cons _ t => t.drop n
theorem All.set {v : V} {x : α} (g : R v x) : ∀ {vs : List V} {xs : List α} (n : Nat), All R vs xs → All R (vs.set n v) (xs.set n x)
  | _, _, _, .nil => .nil
  | _, _, 0, .cons _ t => .cons g t
  | _, _, n + 1, .cons h t => .cons h (t.set g n)
theorem All.ints : ∀ {vs : List V} {xs : List Int}, All (fun v x => v = .int x) vs xs → vs = xs.map V.int
  | _, _, .nil => rfl
  | _, _, .cons h t => by rw [h, t.ints]; rfl
theorem All.map {f : α → V} (e : ∀ v x, R v x → v = f x) : ∀ {vs : List V} {xs : List α}, All R vs xs → vs = xs.map f
  | _, _, .nil => rfl
  | _, _, .cons h t => by rw [e _ _ h, t.map e]; rfl
theorem All.bls : ∀ {vs : List V} {xs : List Bool}, All (fun v x => v = .bl x) vs xs → vs = xs.map V.bl
  | _, _, .nil => rfl
  | _, _, .cons h t => by rw [h, t.bls]; rfl
theorem All.ofInts : ∀ xs : List Int, All (fun v x => v = .int x) (xs.map V.int) xs
  | [] => .nil
  | _ :: r => .cons rfl (All.ofInts r)
theorem All.atI {vs : List V} {xs : List α} {i : Int} {x : α} (h : All R vs xs) (e : L2.atI xs i = some x) : ∃ v, L2.atI vs i = some v ∧ R v x := by
  unfold L2.atI at e ⊢
  rw [h.len]
  cases q : ixN xs.length i with
  | none => rw [q] at e; cases e
  | some j =>
    rw [q] at e
    exact h.at (i := j) e
end
/-- a list that never changes -/
def yList {α : Type} (τ : Ty α) : Ty (List α) := ⟨fun Z v xs => ∃ a vs, v = .ref a ∧ Z a = some (.lst vs) ∧ All (τ.r Z) vs xs ∧ xs.length ≤ sizeLine,
  fun s ⟨a, vs, e, h, t, l⟩ => ⟨a, vs, e, s _ _ h, t.imp fun _ _ => τ.mono s, l⟩⟩
theorem seqT_same {K : PySem.W.Frag} {H H' : Hp} {q : Addr} {xs : List V} (f : Same H H') (h : SqT K H q xs) : SqT K H' q xs := by
  rcases h with (h | ⟨o, h⟩) | h
  · exact .inl (.inl (f _ _ h))
  · exact .inl (.inr ⟨o, f _ _ h⟩)
  · exact .inr h
section
variable (K : PySem.W.Frag)
def yTup {α : Type} (τ : Ty α) : Ty (List α) := ⟨fun Z v xs => ∃ a vs, v = .ref a ∧ SqT K Z a vs ∧ All (τ.r Z) vs xs ∧ xs.length ≤ sizeLine,
  fun s ⟨a, vs, e, h, t, l⟩ => ⟨a, vs, e, seqT_same s h, t.imp fun _ _ => τ.mono s, l⟩⟩
def yP0 : Ty Unit := ⟨fun Z v _ => ∃ a, v = .ref a ∧ SqT K Z a [], fun s ⟨a, e, h⟩ => ⟨a, e, seqT_same s h⟩⟩
def yP1 {α : Type} (τ : Ty α) : Ty α := ⟨fun Z v x => ∃ a v1, v = .ref a ∧ SqT K Z a [v1] ∧ τ.r Z v1 x, fun s ⟨a, v1, e, h, h1⟩ => ⟨a, v1, e, seqT_same s h, τ.mono s h1⟩⟩
def yP2 {α β : Type} (τ : Ty α) (υ : Ty β) : Ty (α × β) := ⟨fun Z v x => ∃ a v1 v2, v = .ref a ∧ SqT K Z a [v1, v2] ∧ τ.r Z v1 x.1 ∧ υ.r Z v2 x.2,
  fun s ⟨a, v1, v2, e, h, h1, h2⟩ => ⟨a, v1, v2, e, seqT_same s h, τ.mono s h1, υ.mono s h2⟩⟩
def yP3 {α β γ : Type} (τ : Ty α) (υ : Ty β) (φ : Ty γ) : Ty (α × β × γ) := ⟨fun Z v x => ∃ a v1 v2 v3, v = .ref a ∧ SqT K Z a [v1, v2, v3] ∧ τ.r Z v1 x.1 ∧ υ.r Z v2 x.2.1 ∧ φ.r Z v3 x.2.2,
  fun s ⟨a, v1, v2, v3, e, h, h1, h2, h3⟩ => ⟨a, v1, v2, v3, e, seqT_same s h, τ.mono s h1, υ.mono s h2, φ.mono s h3⟩⟩
def yP4 {α β γ δ : Type} (τ : Ty α) (υ : Ty β) (φ : Ty γ) (ψ : Ty δ) : Ty (α × β × γ × δ) := ⟨fun Z v x => ∃ a v1 v2 v3 v4, v = .ref a ∧ SqT K Z a [v1, v2, v3, v4] ∧ τ.r Z v1 x.1 ∧ υ.r Z v2 x.2.1 ∧ φ.r Z v3 x.2.2.1 ∧ ψ.r Z v4 x.2.2.2,
  fun s ⟨a, v1, v2, v3, v4, e, h, h1, h2, h3, h4⟩ => ⟨a, v1, v2, v3, v4, e, seqT_same s h, τ.mono s h1, υ.mono s h2, φ.mono s h3, ψ.mono s h4⟩⟩
end

/-! ### what changes: s of a kind μ stands at the addresses fp -/
structure Mu (μ : Type) where
  fp : List Addr
  m : μ → Hp → Hp → Prop
  al : ∀ {s : μ} {Z H : Hp}, m s Z H → ∀ a ∈ fp, H a ≠ none ∧ Z a = none
  loc : ∀ {s : μ} {Z H Z' H' : Hp}, Same Z Z' → (∀ a ∈ fp, ∀ o, H a = some o → H' a = some o) → (∀ a ∈ fp, H a ≠ none → Z a = none → Z' a = none) → m s Z H → m s Z' H'
def muN : Mu Unit := ⟨[], fun _ _ _ => True, fun _ _ h => (nomatch h), fun _ _ _ _ => trivial⟩
/-- what was told of more that stands still is told without it -/
def Mu.Back {μ : Type} (M : Mu μ) : Prop := ∀ {s s' : μ} {Z H Z' H' : Hp}, Same Z Z' → M.m s Z H → M.m s' Z' H' → M.m s' Z H'
theorem muN_back : muN.Back := fun _ _ _ => trivial
theorem Mu.pure {μ : Type} (M : Mu μ) {s : μ} {Z H Z' H' : Hp} (g : Step [] Z H Z' H') (h : M.m s Z H) : M.m s Z' H' := M.loc g.z (fun a _ o e => g.h a o (List.not_mem_nil) e) (fun a _ x y => g.n a x y) h
/-- what a value is, of the heaps -/
structure Rr (fp : List Addr) where
  r : Hp → Hp → V → Prop
  st : ∀ {Z H Z' H' : Hp} {v : V}, Step fp Z H Z' H' → r Z H v → r Z' H' v
structure Ra (fp : List Addr) where
  r : Hp → Hp → List V → Prop
  st : ∀ {Z H Z' H' : Hp} {vs : List V}, Step fp Z H Z' H' → r Z H vs → r Z' H' vs
def ty {fp : List Addr} {α : Type} (τ : Ty α) (x : α) : Rr fp := ⟨fun Z _ v => τ.r Z v x, fun g h => τ.mono g.z h⟩
/-- a list that may be read: one that never changes, or one of one's own -/
def RdL (fp : List Addr) (Z H : Hp) (p : Addr) (vs : List V) : Prop := Z p = some (.lst vs) ∨ (H p = some (.lst vs) ∧ p ∉ fp)
theorem RdL.st {fp : List Addr} {Z H Z' H' : Hp} {p : Addr} {vs : List V} (g : Step fp Z H Z' H') (h : RdL fp Z H p vs) : RdL fp Z' H' p vs := h.elim (fun e => .inl (g.z _ _ e)) fun e => .inr ⟨g.h _ _ e.2 e.1, e.2⟩
theorem RdL.get {fp : List Addr} {Z H : Hp} {p : Addr} {vs : List V} (s : Same Z H) (h : RdL fp Z H p vs) : H p = some (.lst vs) := h.elim (fun e => s _ _ e) fun e => e.1
def li {fp : List Addr} {α : Type} (τ : Ty α) (xs : List α) : Rr fp := ⟨fun Z H v => ∃ p vs, v = .ref p ∧ RdL fp Z H p vs ∧ All (τ.r Z) vs xs ∧ xs.length ≤ sizeLine,
  fun g ⟨p, vs, e, h, t, l⟩ => ⟨p, vs, e, h.st g, t.imp fun _ _ => τ.mono g.z, l⟩⟩
/-- an address, whatever stands there -/
def isRef {fp : List Addr} (a : Addr) : Rr fp := ⟨fun _ _ v => v = .ref a, fun _ h => h⟩
def ra0 {fp : List Addr} : Ra fp := ⟨fun _ _ vs => vs = [], fun _ h => h⟩
def rac {fp : List Addr} (R : Rr fp) (Rs : Ra fp) : Ra fp := ⟨fun Z H vs => ∃ v r, vs = v :: r ∧ R.r Z H v ∧ Rs.r Z H r, fun g ⟨v, r, e, h, t⟩ => ⟨v, r, e, R.st g h, Rs.st g t⟩⟩

section
variable {μ : Type}
/-- from the state s the expression gives a value of which R is true, and the state s' -/
def Ev (M : Mu μ) (t : TE) (σ : L2.St) (Z H : Hp) (s : μ) (R : Rr M.fp) (s' : μ) : Prop :=
  ∀ Z1 H1, Same Z Z1 → SameX M.fp H H1 → Same Z1 H1 → M.m s Z1 H1 → ∀ Q : VK, (∀ v Z2 H2, Step M.fp Z1 H1 Z2 H2 → M.m s' Z2 H2 → R.r Z2 H2 v → Q v H2) → t σ H1 Q
def EvT (M : Mu μ) (t : TT) (σ : L2.St) (Z H : Hp) (s : μ) (b : Bool) (s' : μ) : Prop :=
  ∀ Z1 H1, Same Z Z1 → SameX M.fp H H1 → Same Z1 H1 → M.m s Z1 H1 → ∀ Q : Bool → Hp → Prop, (∀ Z2 H2, Step M.fp Z1 H1 Z2 H2 → M.m s' Z2 H2 → Q b H2) → t σ H1 Q
def EvA (M : Mu μ) (t : TA) (σ : L2.St) (Z H : Hp) (s : μ) (Rs : Ra M.fp) (s' : μ) : Prop :=
  ∀ Z1 H1, Same Z Z1 → SameX M.fp H H1 → Same Z1 H1 → M.m s Z1 H1 → ∀ Q : List V → Hp → Prop, (∀ vs Z2 H2, Step M.fp Z1 H1 Z2 H2 → M.m s' Z2 H2 → Rs.r Z2 H2 vs → Q vs H2) → t σ H1 Q
variable {M : Mu μ} {σ : L2.St} {Z H : Hp} {s s' s1 s2 s3 : μ} {ta tb tc te : TE} {t : TA}
theorem Ev.up {t : TE} {R : Rr M.fp} {Z' H' : Hp} (h : Ev M t σ Z H s R s') (z : Same Z Z') (x : SameX M.fp H H') : Ev M t σ Z' H' s R s' := fun Z1 H1 a b => h Z1 H1 (z.trans a) (x.trans b)
theorem Ev.weak {t : TE} {R R' : Rr M.fp} (h : Ev M t σ Z H s R s') (f : ∀ Z H v, Same Z H → R.r Z H v → R'.r Z H v) : Ev M t σ Z H s R' s' := fun Z1 H1 a b c d Q q => h Z1 H1 a b c d Q fun v Z2 H2 e m r => q v Z2 H2 e m (f _ _ _ e.s r)
/-- nothing is done -/
theorem ev_of {t : TE} {R : Rr M.fp} (h : ∀ Z1 H1, Same Z Z1 → SameX M.fp H H1 → Same Z1 H1 → ∀ Q : VK, (∀ v, R.r Z1 H1 v → Q v H1) → t σ H1 Q) : Ev M t σ Z H s R s := fun Z1 H1 a b c d Q q => h Z1 H1 a b c Q fun v r => q v Z1 H1 (Step.refl c) d r
/-- one after the other, by values -/
theorem ev_op {R1 R3 R : Rr M.fp} {r : R2} (ha : Ev M ta σ Z H s R1 s1) (hb : Ev M tb σ Z H s1 R3 s2) (h : ∀ Z H v w, Same Z H → R1.r Z H v → R3.r Z H w → ∀ Q : VK, (∀ u Z2 H2, Step [] Z H Z2 H2 → R.r Z2 H2 u → Q u H2) → r v w H Q) : Ev M (tOp r ta tb) σ Z H s R s2 :=
  fun Z1 H1 a b c d Q q => ha Z1 H1 a b c d _ fun v Z2 H2 e m rv => hb Z2 H2 (a.trans e.z) (b.trans e.h) e.s m _ fun w Z3 H3 e2 m2 rw => h Z3 H3 v w e2.s (R1.st e2 rv) rw _ fun u Z4 H4 e3 ru => q u Z4 H4 ((e.trans e2).trans e3.pure) (M.pure e3 m2) ru
theorem ev_un {R1 R : Rr M.fp} {r : V → Hp → VK → Prop} (ha : Ev M ta σ Z H s R1 s1) (h : ∀ Z H v, Same Z H → R1.r Z H v → ∀ Q : VK, (∀ u Z2 H2, Step [] Z H Z2 H2 → R.r Z2 H2 u → Q u H2) → r v H Q) : Ev M (fun σ H Q => ta σ H fun x H1 => r x H1 Q) σ Z H s R s1 :=
  fun Z1 H1 a b c d Q q => ha Z1 H1 a b c d _ fun v Z2 H2 e m rv => h Z2 H2 v e.s rv _ fun u Z4 H4 e3 ru => q u Z4 H4 (e.trans e3.pure) (M.pure e3 m) ru
theorem eva_nil : EvA M tNil σ Z H s ra0 s := fun Z1 H1 _ _ c d Q q => q [] Z1 H1 (Step.refl c) d rfl
theorem eva_cons {R : Rr M.fp} {Rs : Ra M.fp} (ha : Ev M ta σ Z H s R s1) (hr : EvA M t σ Z H s1 Rs s2) : EvA M (tCons ta t) σ Z H s (rac R Rs) s2 :=
  fun Z1 H1 a b c d Q q => ha Z1 H1 a b c d _ fun v Z2 H2 e m rv => hr Z2 H2 (a.trans e.z) (b.trans e.h) e.s m _ fun vs Z3 H3 e2 m2 rs => q _ Z3 H3 (e.trans e2) m2 ⟨v, vs, rfl, R.st e2 rv, rs⟩
/-- by all arguments -/
theorem ev_cb {Rs : Ra M.fp} {R : Rr M.fp} {r : List V → Hp → VK → Prop} (ha : EvA M t σ Z H s Rs s1) (h : ∀ Z H vs, Same Z H → Rs.r Z H vs → ∀ Q : VK, (∀ u Z2 H2, Step [] Z H Z2 H2 → R.r Z2 H2 u → Q u H2) → r vs H Q) : Ev M (tCB r t) σ Z H s R s1 :=
  fun Z1 H1 a b c d Q q => ha Z1 H1 a b c d _ fun vs Z2 H2 e m rv => h Z2 H2 vs e.s rv _ fun u Z4 H4 e3 ru => q u Z4 H4 (e.trans e3.pure) (M.pure e3 m) ru
/-! names and constants -/
theorem ev_var {i : Nat} {v : V} {α : Type} {τ : Ty α} {x : α} (e : σ[i]? = some (some v)) (h : τ.r Z v x) : Ev M (tVar i) σ Z H s (ty τ x) s := ev_of fun _ _ a _ _ _ q => ⟨v, e, q v (τ.mono a h)⟩
/-- a list of one's own -/
theorem ev_own {i : Nat} {p : Addr} {vs : List V} {α : Type} {τ : Ty α} {xs : List α} (e : σ[i]? = some (some (.ref p))) (h : H p = some (.lst vs)) (n : p ∉ M.fp) (t : All (τ.r Z) vs xs) (l : xs.length ≤ sizeLine) : Ev M (tVar i) σ Z H s (li τ xs) s :=
  ev_of fun _ _ a b _ _ q => ⟨.ref p, e, q _ ⟨p, vs, rfl, .inr ⟨b _ _ n h, n⟩, t.imp fun _ _ => τ.mono a, l⟩⟩
theorem ev_ref {i : Nat} {p : Addr} (e : σ[i]? = some (some (.ref p))) : Ev M (tVar i) σ Z H s (isRef p) s := ev_of fun _ _ _ _ _ _ q => ⟨_, e, q _ rfl⟩
theorem ev_int {i : Int} : Ev M (tC (.int i)) σ Z H s (ty yInt i) s := ev_of fun _ _ _ _ _ _ q => q _ rfl
theorem ev_bl {i : Bool} : Ev M (tC (.bl i)) σ Z H s (ty yBool i) s := ev_of fun _ _ _ _ _ _ q => q _ rfl
theorem ev_str {i : Str} (h : okS i = true := by decide +kernel) : Ev M (tC (.str i)) σ Z H s (ty yStr i) s := ev_of fun _ _ _ _ _ _ q => q _ ⟨rfl, h⟩
theorem ev_non : Ev M (tC .non) σ Z H s (ty yNon ()) s := ev_of fun _ _ _ _ _ _ q => q _ rfl
theorem ev_const {v : V} {α : Type} {τ : Ty α} {x : α} (h : ∀ Z, τ.r Z v x) : Ev M (tC v) σ Z H s (ty τ x) s := ev_of fun _ _ _ _ _ _ q => q _ (h _)
theorem ev_li {α : Type} {τ : Ty α} {xs : List α} (h : Ev M ta σ Z H s (ty (yList τ) xs) s') : Ev M ta σ Z H s (li τ xs) s' := h.weak fun _ _ _ _ ⟨a, vs, e, g, t, l⟩ => ⟨a, vs, e, .inl g, t, l⟩
theorem ev_none {α : Type} {τ : Ty α} (h : Ev M ta σ Z H s (ty yNon ()) s') : Ev M ta σ Z H s (ty (yOpt τ) none) s' := h.weak fun _ _ _ _ e => e
/-- of this kind nothing is None -/
def NonNil {α : Type} (τ : Ty α) : Prop := ∀ Z v x, τ.r Z v x → v ≠ .non
theorem nn_int : NonNil yInt := fun _ _ _ e => by rw [show _ = V.int _ from e]; exact fun z => nomatch z
theorem nn_bool : NonNil yBool := fun _ _ _ e => by rw [show _ = V.bl _ from e]; exact fun z => nomatch z
theorem nn_str : NonNil yStr := fun _ _ _ e => by rw [show _ = V.str _ from e.1]; exact fun z => nomatch z
theorem nn_list {α : Type} {τ : Ty α} : NonNil (yList τ) := fun _ _ _ ⟨_, _, e, _⟩ => by rw [e]; exact fun z => nomatch z
theorem nn_tup {K : PySem.W.Frag} {α : Type} {τ : Ty α} : NonNil (yTup K τ) := fun _ _ _ ⟨_, _, e, _⟩ => by rw [e]; exact fun z => nomatch z
theorem nn_p2 {K : PySem.W.Frag} {α β : Type} {τ : Ty α} {υ : Ty β} : NonNil (yP2 K τ υ) := fun _ _ _ ⟨_, _, _, e, _⟩ => by rw [e]; exact fun z => nomatch z
theorem nn_p3 {K : PySem.W.Frag} {α β γ : Type} {τ : Ty α} {υ : Ty β} {φ : Ty γ} : NonNil (yP3 K τ υ φ) := fun _ _ _ ⟨_, _, _, _, e, _⟩ => by rw [e]; exact fun z => nomatch z
theorem nn_p4 {K : PySem.W.Frag} {α β γ δ : Type} {τ : Ty α} {υ : Ty β} {φ : Ty γ} {ψ : Ty δ} : NonNil (yP4 K τ υ φ ψ) := fun _ _ _ ⟨_, _, _, _, _, e, _⟩ => by rw [e]; exact fun z => nomatch z
theorem ev_some {α : Type} {τ : Ty α} {x : α} (n : NonNil τ) (h : Ev M ta σ Z H s (ty τ x) s') : Ev M ta σ Z H s (ty (yOpt τ) (some x)) s' := h.weak fun _ _ _ _ e => ⟨e, n _ _ _ e⟩
theorem ev_uno {α : Type} {τ : Ty α} {x : α} {o : Option α} (h : Ev M ta σ Z H s (ty (yOpt τ) o) s') (e : o = some x) : Ev M ta σ Z H s (ty τ x) s' := by
  subst e; exact h.weak fun _ _ _ _ e => e.1
theorem ev_cast {α : Type} {τ : Ty α} {x y : α} (h : Ev M ta σ Z H s (ty τ x) s') (e : x = y) : Ev M ta σ Z H s (ty τ y) s' := e ▸ h
/-! numbers -/
section
variable {i j : Int}
theorem ev_I0 {g : Int → Int → V} {R : Rr M.fp} (ha : Ev M ta σ Z H s (ty yInt i) s1) (hb : Ev M tb σ Z H s1 (ty yInt j) s2) (h : ∀ Z H, R.r Z H (g i j)) : Ev M (tOp (rI0 g) ta tb) σ Z H s R s2 :=
  ev_op ha hb fun _ _ _ _ sz e1 e2 _ q => ⟨i, j, e1, e2, q _ _ _ (Step.refl sz) (h _ _)⟩
theorem ev_I1 {C : Int → Int → Prop} {g : Int → Int → V} {R : Rr M.fp} (ha : Ev M ta σ Z H s (ty yInt i) s1) (hb : Ev M tb σ Z H s1 (ty yInt j) s2) (c : C i j) (h : ∀ Z H, R.r Z H (g i j)) : Ev M (tOp (rI C g) ta tb) σ Z H s R s2 :=
  ev_op ha hb fun _ _ _ _ sz e1 e2 _ q => ⟨i, j, e1, e2, c, q _ _ _ (Step.refl sz) (h _ _)⟩
theorem ev_add (ha : Ev M ta σ Z H s (ty yInt i) s1) (hb : Ev M tb σ Z H s1 (ty yInt j) s2) : Ev M (tOp (rI0 fun i j => .int (i + j)) ta tb) σ Z H s (ty yInt (i + j)) s2 := ev_I0 ha hb fun _ _ => rfl
theorem ev_sub (ha : Ev M ta σ Z H s (ty yInt i) s1) (hb : Ev M tb σ Z H s1 (ty yInt j) s2) : Ev M (tOp (rI0 fun i j => .int (i - j)) ta tb) σ Z H s (ty yInt (i - j)) s2 := ev_I0 ha hb fun _ _ => rfl
theorem ev_mul (ha : Ev M ta σ Z H s (ty yInt i) s1) (hb : Ev M tb σ Z H s1 (ty yInt j) s2) (c : CMul i j) : Ev M (tOp (rI CMul fun i j => .int (i * j)) ta tb) σ Z H s (ty yInt (i * j)) s2 := ev_I1 ha hb c fun _ _ => rfl
theorem ev_fdiv (ha : Ev M ta σ Z H s (ty yInt i) s1) (hb : Ev M tb σ Z H s1 (ty yInt j) s2) (c : CDiv i j) : Ev M (tOp (rI CDiv fun i j => .int (i / j)) ta tb) σ Z H s (ty yInt (i / j)) s2 := ev_I1 ha hb c fun _ _ => rfl
theorem ev_mod (ha : Ev M ta σ Z H s (ty yInt i) s1) (hb : Ev M tb σ Z H s1 (ty yInt j) s2) (c : 0 < j) : Ev M (tOp (rI (fun _ j => 0 < j) fun i j => .int (i % j)) ta tb) σ Z H s (ty yInt (i % j)) s2 := ev_I1 (C := fun _ j => 0 < j) ha hb c fun _ _ => rfl
theorem ev_pow (ha : Ev M ta σ Z H s (ty yInt i) s1) (hb : Ev M tb σ Z H s1 (ty yInt j) s2) (c : CPow i j) : Ev M (tOp (rI CPow fun i j => .int (i ^ j.toNat)) ta tb) σ Z H s (ty yInt (i ^ j.toNat)) s2 := ev_I1 ha hb c fun _ _ => rfl
theorem ev_tun {R1 R : Rr M.fp} {r : V → Hp → VK → Prop} (ha : Ev M ta σ Z H s R1 s1) (h : ∀ Z H v, Same Z H → R1.r Z H v → ∀ Q : VK, (∀ u Z2 H2, Step [] Z H Z2 H2 → R.r Z2 H2 u → Q u H2) → r v H Q) : Ev M (tUn r ta) σ Z H s R s1 :=
  fun Z1 H1 a b c d Q q => ha Z1 H1 a b c d _ fun v Z2 H2 e m rv => h Z2 H2 v e.s rv _ fun u Z4 H4 e3 ru => q u Z4 H4 (e.trans e3.pure) (M.pure e3 m) ru
theorem ev_neg (ha : Ev M ta σ Z H s (ty yInt i) s1) : Ev M (tUn (rU fun i => .int (-i)) ta) σ Z H s (ty yInt (-i)) s1 := ev_tun ha fun _ _ _ sz e _ q => ⟨i, e, q _ _ _ (Step.refl sz) rfl⟩
theorem ev_lt (ha : Ev M ta σ Z H s (ty yInt i) s1) (hb : Ev M tb σ Z H s1 (ty yInt j) s2) : Ev M (tOp (rI0 fun i j => .bl (decide (i < j))) ta tb) σ Z H s (ty yBool (decide (i < j))) s2 := ev_I0 ha hb fun _ _ => rfl
theorem ev_le (ha : Ev M ta σ Z H s (ty yInt i) s1) (hb : Ev M tb σ Z H s1 (ty yInt j) s2) : Ev M (tOp (rI0 fun i j => .bl (decide (i ≤ j))) ta tb) σ Z H s (ty yBool (decide (i ≤ j))) s2 := ev_I0 ha hb fun _ _ => rfl
theorem ev_gt (ha : Ev M ta σ Z H s (ty yInt i) s1) (hb : Ev M tb σ Z H s1 (ty yInt j) s2) : Ev M (tOp (rI0 fun i j => .bl (decide (j < i))) ta tb) σ Z H s (ty yBool (decide (j < i))) s2 := ev_I0 ha hb fun _ _ => rfl
theorem ev_ge (ha : Ev M ta σ Z H s (ty yInt i) s1) (hb : Ev M tb σ Z H s1 (ty yInt j) s2) : Ev M (tOp (rI0 fun i j => .bl (decide (j ≤ i))) ta tb) σ Z H s (ty yBool (decide (j ≤ i))) s2 := ev_I0 ha hb fun _ _ => rfl
end
/-! equality of flat things -/
/-- flat: the value is told by the thing alone -/
structure Flat {α : Type} (τ : Ty α) (f : α → V) : Prop where
  eq : ∀ Z v x, τ.r Z v x → v = f x
  inj : ∀ x y, f x = f y → x = y
  sc : ∀ x y, scal (f x) (f y) = true
theorem flat_int : Flat yInt V.int := ⟨fun _ _ _ h => h, fun _ _ h => V.int.inj h, fun _ _ => rfl⟩
theorem flat_str : Flat yStr V.str := ⟨fun _ _ _ h => h.1, fun _ _ h => V.str.inj h, fun _ _ => rfl⟩
theorem flat_bool : Flat yBool V.bl := ⟨fun _ _ _ h => h, fun _ _ h => V.bl.inj h, fun _ _ => rfl⟩
section
variable {α : Type} {τ : Ty α} {f : α → V} {x y : α}
theorem ev_eq [DecidableEq α] (F : Flat τ f) (ha : Ev M ta σ Z H s (ty τ x) s1) (hb : Ev M tb σ Z H s1 (ty τ y) s2) : Ev M (tOp rEq ta tb) σ Z H s (ty yBool (decide (x = y))) s2 :=
  ev_op ha hb fun Z H v w sz e1 e2 Q q => by
    rw [F.eq _ _ _ e1, F.eq _ _ _ e2]
    have : decide (f x = f y) = decide (x = y) := decide_eq_decide.mpr ⟨F.inj x y, congrArg f⟩
    exact ⟨F.sc _ _, q _ _ _ (Step.refl sz) (congrArg V.bl this)⟩
theorem ev_ne [DecidableEq α] (F : Flat τ f) (ha : Ev M ta σ Z H s (ty τ x) s1) (hb : Ev M tb σ Z H s1 (ty τ y) s2) : Ev M (tOp rNe ta tb) σ Z H s (ty yBool (!decide (x = y))) s2 :=
  ev_op ha hb fun Z H v w sz e1 e2 Q q => by
    rw [F.eq _ _ _ e1, F.eq _ _ _ e2]
    have : decide (f x = f y) = decide (x = y) := decide_eq_decide.mpr ⟨F.inj x y, congrArg f⟩
    exact ⟨F.sc _ _, q _ _ _ (Step.refl sz) (congrArg (fun b => V.bl (!b)) this)⟩
end
theorem ev_isN {α : Type} {τ : Ty α} {o : Option α} (ha : Ev M ta σ Z H s (ty (yOpt τ) o) s1) (hb : Ev M tb σ Z H s1 (ty yNon ()) s2) : Ev M (tOp (fun x y H Q => y = .non ∧ Q (.bl (decide (x = .non))) H) ta tb) σ Z H s (ty yBool o.isNone) s2 :=
  ev_op ha hb fun Z H v w sz e1 e2 Q q => by
    refine ⟨e2, q _ _ _ (Step.refl sz) ?_⟩
    cases o with
    | none => rw [show v = .non from e1]; rfl
    | some y => rw [show decide (v = .non) = false from decide_eq_false e1.2]; rfl
theorem ev_notN {α : Type} {τ : Ty α} {o : Option α} (ha : Ev M ta σ Z H s (ty (yOpt τ) o) s1) (hb : Ev M tb σ Z H s1 (ty yNon ()) s2) : Ev M (tOp (fun x y H Q => y = .non ∧ Q (.bl (!decide (x = .non))) H) ta tb) σ Z H s (ty yBool o.isSome) s2 :=
  ev_op ha hb fun Z H v w sz e1 e2 Q q => by
    refine ⟨e2, q _ _ _ (Step.refl sz) ?_⟩
    cases o with
    | none => rw [show v = .non from e1]; rfl
    | some y => rw [show decide (v = .non) = false from decide_eq_false e1.2]; rfl
/-! and, or, not, if, as values -/
theorem ev_and {a b : Bool} {o : Option (Bool × μ)} (ha : Ev M ta σ Z H s (ty yBool a) s1) (hb : a = true → ∀ y s', o = some (y, s') → Ev M tb σ Z H s1 (ty yBool y) s') (h : (if a = true then o else some (false, s1)) = some (b, s2)) : Ev M (tAndV ta tb) σ Z H s (ty yBool b) s2 :=
  fun Z1 H1 p q r d Q k => ha Z1 H1 p q r d _ fun v Z2 H2 e m rv => ⟨a, rv, by
    cases a with
    | true => rw [if_pos rfl] at h ⊢; exact hb rfl b s2 h Z2 H2 (p.trans e.z) (q.trans e.h) e.s m _ fun w Z3 H3 e2 m2 rw => k w Z3 H3 (e.trans e2) m2 rw
    | false => rw [if_neg Bool.false_ne_true] at h ⊢; cases h; exact k _ Z2 H2 e m rfl⟩
theorem ev_or {a b : Bool} {o : Option (Bool × μ)} (ha : Ev M ta σ Z H s (ty yBool a) s1) (hb : a = false → ∀ y s', o = some (y, s') → Ev M tb σ Z H s1 (ty yBool y) s') (h : (if a = true then some (true, s1) else o) = some (b, s2)) : Ev M (tOrV ta tb) σ Z H s (ty yBool b) s2 :=
  fun Z1 H1 p q r d Q k => ha Z1 H1 p q r d _ fun v Z2 H2 e m rv => ⟨a, rv, by
    cases a with
    | false => rw [if_neg Bool.false_ne_true] at h ⊢; exact hb rfl b s2 h Z2 H2 (p.trans e.z) (q.trans e.h) e.s m _ fun w Z3 H3 e2 m2 rw => k w Z3 H3 (e.trans e2) m2 rw
    | true => rw [if_pos rfl] at h ⊢; cases h; exact k _ Z2 H2 e m rfl⟩
theorem ev_and0 {a b : Bool} (ha : Ev M ta σ Z H s (ty yBool a) s1) (hb : Ev M tb σ Z H s1 (ty yBool b) s1) : Ev M (tAndV ta tb) σ Z H s (ty yBool (a && b)) s1 :=
  ev_and (o := some (b, s1)) ha (fun _ y s' e => by cases e; exact hb) (by cases a <;> rfl)
theorem ev_or0 {a b : Bool} (ha : Ev M ta σ Z H s (ty yBool a) s1) (hb : Ev M tb σ Z H s1 (ty yBool b) s1) : Ev M (tOrV ta tb) σ Z H s (ty yBool (a || b)) s1 :=
  ev_or (o := some (b, s1)) ha (fun _ y s' e => by cases e; exact hb) (by cases a <;> rfl)
theorem ev_not {a : Bool} (ha : Ev M ta σ Z H s (ty yBool a) s1) : Ev M (tNotV ta) σ Z H s (ty yBool (!a)) s1 :=
  fun Z1 H1 p q r d Q k => ha Z1 H1 p q r d _ fun v Z2 H2 e m rv => ⟨a, rv, k _ Z2 H2 e m rfl⟩
theorem ev_if {tt : TT} {a : Bool} {R : Rr M.fp} (ht : EvT M tt σ Z H s a s1) (ha : a = true → Ev M ta σ Z H s1 R s2) (hb : a = false → Ev M tb σ Z H s1 R s2) : Ev M (tIf tt ta tb) σ Z H s R s2 :=
  fun Z1 H1 p q r d Q k => ht Z1 H1 p q r d _ fun Z2 H2 e m => by
    cases a with
    | true => rw [if_pos rfl]; exact ha rfl Z2 H2 (p.trans e.z) (q.trans e.h) e.s m _ fun w Z3 H3 e2 m2 rw => k w Z3 H3 (e.trans e2) m2 rw
    | false => rw [if_neg Bool.false_ne_true]; exact hb rfl Z2 H2 (p.trans e.z) (q.trans e.h) e.s m _ fun w Z3 H3 e2 m2 rw => k w Z3 H3 (e.trans e2) m2 rw
theorem ev_if0 {tt : TT} {a : Bool} {α : Type} {τ : Ty α} {x y : α} (ht : EvT M tt σ Z H s a s1) (ha : Ev M ta σ Z H s1 (ty τ x) s1) (hb : Ev M tb σ Z H s1 (ty τ y) s1) : Ev M (tIf tt ta tb) σ Z H s (ty τ (if a = true then x else y)) s1 :=
  ev_if ht (fun e => by rw [if_pos e]; exact ha) (fun e => by rw [if_neg (by rw [e]; exact Bool.false_ne_true)]; exact hb)
/-! tests -/
theorem et_val {a : Bool} (h : Ev M te σ Z H s (ty yBool a) s1) : EvT M (tB te) σ Z H s a s1 := fun Z1 H1 p q r d _ k => h Z1 H1 p q r d _ fun _ Z2 H2 e m rv => ⟨a, rv, k Z2 H2 e m⟩
theorem et_cmp {a : Bool} (h : Ev M te σ Z H s (ty yBool a) s1) : EvT M (tTest te) σ Z H s a s1 := fun Z1 H1 p q r d _ k => h Z1 H1 p q r d _ fun _ Z2 H2 e m rv => ⟨a, rv, k Z2 H2 e m⟩
section
variable {tA tB' : TT} {a b : Bool}
theorem et_and {o : Option (Bool × μ)} (ha : EvT M tA σ Z H s a s1) (hb : a = true → ∀ y s', o = some (y, s') → EvT M tB' σ Z H s1 y s') (h : (if a = true then o else some (false, s1)) = some (b, s2)) : EvT M (tAnd tA tB') σ Z H s b s2 :=
  fun Z1 H1 p q r d Q k => ha Z1 H1 p q r d _ fun Z2 H2 e m => by
    cases a with
    | true => rw [if_pos rfl] at h ⊢; exact hb rfl b s2 h Z2 H2 (p.trans e.z) (q.trans e.h) e.s m _ fun Z3 H3 e2 m2 => k Z3 H3 (e.trans e2) m2
    | false => rw [if_neg Bool.false_ne_true] at h ⊢; cases h; exact k Z2 H2 e m
theorem et_or {o : Option (Bool × μ)} (ha : EvT M tA σ Z H s a s1) (hb : a = false → ∀ y s', o = some (y, s') → EvT M tB' σ Z H s1 y s') (h : (if a = true then some (true, s1) else o) = some (b, s2)) : EvT M (tOr tA tB') σ Z H s b s2 :=
  fun Z1 H1 p q r d Q k => ha Z1 H1 p q r d _ fun Z2 H2 e m => by
    cases a with
    | false => rw [if_neg Bool.false_ne_true] at h ⊢; exact hb rfl b s2 h Z2 H2 (p.trans e.z) (q.trans e.h) e.s m _ fun Z3 H3 e2 m2 => k Z3 H3 (e.trans e2) m2
    | true => rw [if_pos rfl] at h ⊢; cases h; exact k Z2 H2 e m
theorem et_and0 (ha : EvT M tA σ Z H s a s1) (hb : EvT M tB' σ Z H s1 b s1) : EvT M (tAnd tA tB') σ Z H s (a && b) s1 := et_and (o := some (b, s1)) ha (fun _ y s' e => by cases e; exact hb) (by cases a <;> rfl)
theorem et_or0 (ha : EvT M tA σ Z H s a s1) (hb : EvT M tB' σ Z H s1 b s1) : EvT M (tOr tA tB') σ Z H s (a || b) s1 := et_or (o := some (b, s1)) ha (fun _ y s' e => by cases e; exact hb) (by cases a <;> rfl)
theorem et_not (ha : EvT M tA σ Z H s a s1) : EvT M (tNot tA) σ Z H s (!a) s1 := fun Z1 H1 p q r d _ k => ha Z1 H1 p q r d _ k
end
end
end TP

namespace TP
open PySem PySem.Spec PyProof.Rows L2
instance {i j : Int} : Decidable (CMul i j) := inferInstanceAs (Decidable ((_ ∧ _) ∨ (_ ∧ _)))
instance {i j : Int} : Decidable (CDiv i j) := inferInstanceAs (Decidable (_ ∧ _))
instance {i j : Int} : Decidable (CPow i j) := inferInstanceAs (Decidable (_ ∧ _ ∧ _))
section
variable {μ : Type} {M : Mu μ} {σ : L2.St} {Z H : Hp} {s s' s1 s2 s3 : μ} {ta tb tc te : TE} {t : TA} {K : PySem.W.Frag}
theorem same_x {S : List Addr} {Z H Z1 H1 : Hp} (g : Step S Z H Z1 H1) {p : Addr} (h : H1 p = none) : H p = none := by
  cases q : H p with
  | none => rfl
  | some o => exact absurd h (g.al p (some_ne q))
theorem fresh_fp {fp : List Addr} {Z H : Hp} {p : Addr} {o : HO} (sz : Same Z H) (hp : H p = none) : Step fp Z H (upd Z p o) (upd H p o) := (Step.new sz hp).pure
/-! ### texts -/
theorem okS_app {x y : Str} (hx : okS x = true) (hy : okS y = true) (l : x.length + y.length ≤ sizeLine) : okS (x ++ y) = true := by
  unfold okS PyData.strOk at *
  rw [Bool.and_eq_true] at hx hy ⊢
  refine ⟨?_, ?_⟩
  · have e : (x ++ y).cps = x.cps ++ y.cps := rfl
    rw [e, Array.all_append, hx.1, hy.1]; rfl
  · refine decide_eq_true ?_
    have e : (x ++ y).length = x.length + y.length := by
      show (x.cps ++ y.cps).size = _
      rw [Array.size_append]; rfl
    omega
theorem ev_cat_str {x y : Str} (ha : Ev M ta σ Z H s (ty yStr x) s1) (hb : Ev M tb σ Z H s1 (ty yStr y) s2) (l : x.length + y.length ≤ sizeLine) : Ev M (tOp (fun x y H Q => ∃ i j, x = .str i ∧ y = .str j ∧ i.length + j.length ≤ sizeLine ∧ Q (.str (i ++ j)) H) ta tb) σ Z H s (ty yStr (x ++ y)) s2 :=
  ev_op ha hb fun _ _ _ _ sz e1 e2 _ q => ⟨x, y, e1.1, e2.1, l, q _ _ _ (Step.refl sz) ⟨rfl, okS_app e1.2 e2.2 l⟩⟩
theorem ev_lt_str {x y : Str} (ha : Ev M ta σ Z H s (ty yStr x) s1) (hb : Ev M tb σ Z H s1 (ty yStr y) s2) : Ev M (tOp (fun x y H Q => ∃ i j, x = .str i ∧ y = .str j ∧ Q (.bl (decide (i.cps.toList < j.cps.toList))) H) ta tb) σ Z H s (ty yBool (decide (x.cps.toList < y.cps.toList))) s2 :=
  ev_op ha hb fun _ _ _ _ sz e1 e2 _ q => ⟨x, y, e1.1, e2.1, q _ _ _ (Step.refl sz) rfl⟩
theorem ev_len_str {x : Str} (ha : Ev M ta σ Z H s (ty yStr x) s1) : Ev M (tCB (fun xs H Q => ∃ z, xs = [.str z] ∧ z.length ≤ sizeLine ∧ Q (.int z.length) H) (tCons ta tNil)) σ Z H s (ty yInt (x.length : Nat)) s1 :=
  ev_cb (eva_cons ha eva_nil) fun _ _ vs sz ⟨v, r, e, h, e2⟩ Q q => ⟨x, by rw [e, h.1, show r = [] from e2], of_decide_eq_true (Bool.and_eq_true_iff.mp (show (PyData.strOk x && decide (x.length ≤ sizeLine)) = true from h.2)).2, q _ _ _ (Step.refl sz) rfl⟩
/-! ### lists and tuples that are made -/
theorem ev_tup {Rs : Ra M.fp} {R : Rr M.fp} (ha : EvA M t σ Z H s Rs s1) (h : ∀ Z H vs, Same Z H → Rs.r Z H vs → vs.length ≤ sizeLine ∧ ∀ p, H p = none → R.r (upd Z p (.tup vs)) (upd H p (.tup vs)) (.ref p)) : Ev M (tTup t) σ Z H s R s1 :=
  fun Z1 H1 a b c d Q q => ha Z1 H1 a b c d _ fun vs Z2 H2 e m rv => by
    obtain ⟨l, hr⟩ := h Z2 H2 vs e.s rv
    exact ⟨l, fun p hp => q _ _ _ (e.trans (fresh_fp e.s hp)) (M.pure (Step.new e.s hp) m) (hr p hp)⟩
theorem ev_lst {Rs : Ra M.fp} {R : Rr M.fp} (ha : EvA M t σ Z H s Rs s1) (h : ∀ Z H vs, Same Z H → Rs.r Z H vs → vs.length ≤ sizeLine ∧ ∀ p, H p = none → R.r (upd Z p (.lst vs)) (upd H p (.lst vs)) (.ref p)) : Ev M (tLst t) σ Z H s R s1 :=
  fun Z1 H1 a b c d Q q => ha Z1 H1 a b c d _ fun vs Z2 H2 e m rv => by
    obtain ⟨l, hr⟩ := h Z2 H2 vs e.s rv
    exact ⟨l, fun p hp => q _ _ _ (e.trans (fresh_fp e.s hp)) (M.pure (Step.new e.s hp) m) (hr p hp)⟩
theorem sqT_new {Z : Hp} {p : Addr} {vs : List V} : SqT K (upd Z p (.tup vs)) p vs := .inl (.inl upd_same)
section
variable {α β γ δ : Type} {τ : Ty α} {υ : Ty β} {φ : Ty γ} {ψ : Ty δ} {x : α} {y : β} {z : γ} {u : δ}
theorem ev_p0 : Ev M (tTup tNil) σ Z H s (ty (yP0 K) ()) s := ev_tup eva_nil fun _ _ vs _ e => ⟨by rw [show vs = [] from e]; exact Nat.zero_le _, fun p _ => ⟨p, rfl, by rw [show vs = [] from e]; exact sqT_new⟩⟩
theorem ev_p1 (ha : EvA M t σ Z H s (rac (ty τ x) ra0) s1) : Ev M (tTup t) σ Z H s (ty (yP1 K τ) x) s1 :=
  ev_tup ha fun Z H vs sz ⟨v1, r1, e1, h1, e2⟩ => by
    cases e2; cases e1
    exact ⟨by show 1 ≤ sizeLine; decide, fun p hp => ⟨p, v1, rfl, sqT_new, τ.mono (same_upd (same_none sz hp)) h1⟩⟩
theorem ev_p2 (ha : EvA M t σ Z H s (rac (ty τ x) (rac (ty υ y) ra0)) s1) : Ev M (tTup t) σ Z H s (ty (yP2 K τ υ) (x, y)) s1 :=
  ev_tup ha fun Z H vs sz ⟨v1, r1, e1, h1, v2, r2, e2, h2, e3⟩ => by
    cases e3; cases e2; cases e1
    exact ⟨by show 2 ≤ sizeLine; decide, fun p hp => have q := same_upd (same_none sz hp); ⟨p, v1, v2, rfl, sqT_new, τ.mono q h1, υ.mono q h2⟩⟩
theorem ev_p3 (ha : EvA M t σ Z H s (rac (ty τ x) (rac (ty υ y) (rac (ty φ z) ra0))) s1) : Ev M (tTup t) σ Z H s (ty (yP3 K τ υ φ) (x, y, z)) s1 :=
  ev_tup ha fun Z H vs sz ⟨v1, r1, e1, h1, v2, r2, e2, h2, v3, r3, e3, h3, e4⟩ => by
    cases e4; cases e3; cases e2; cases e1
    exact ⟨by show 3 ≤ sizeLine; decide, fun p hp => have q := same_upd (same_none sz hp); ⟨p, v1, v2, v3, rfl, sqT_new, τ.mono q h1, υ.mono q h2, φ.mono q h3⟩⟩
theorem ev_p4 (ha : EvA M t σ Z H s (rac (ty τ x) (rac (ty υ y) (rac (ty φ z) (rac (ty ψ u) ra0)))) s1) : Ev M (tTup t) σ Z H s (ty (yP4 K τ υ φ ψ) (x, y, z, u)) s1 :=
  ev_tup ha fun Z H vs sz ⟨v1, r1, e1, h1, v2, r2, e2, h2, v3, r3, e3, h3, v4, r4, e4, h4, e5⟩ => by
    cases e5; cases e4; cases e3; cases e2; cases e1
    exact ⟨by show 4 ≤ sizeLine; decide, fun p hp => have q := same_upd (same_none sz hp); ⟨p, v1, v2, v3, v4, rfl, sqT_new, τ.mono q h1, υ.mono q h2, φ.mono q h3, ψ.mono q h4⟩⟩
/-- arguments all of one kind -/
def ras {fp : List Addr} (τ : Ty α) (xs : List α) : Ra fp := ⟨fun Z _ vs => All (τ.r Z) vs xs, fun g h => h.imp fun _ _ => τ.mono g.z⟩
theorem eva_nils : EvA M tNil σ Z H s (ras τ []) s := fun Z1 H1 _ _ c d Q q => q [] Z1 H1 (Step.refl c) d .nil
theorem eva_conss {xs : List α} (ha : Ev M ta σ Z H s (ty τ x) s1) (hr : EvA M t σ Z H s1 (ras τ xs) s2) : EvA M (tCons ta t) σ Z H s (ras τ (x :: xs)) s2 :=
  fun Z1 H1 a b c d Q q => ha Z1 H1 a b c d _ fun v Z2 H2 e m rv => hr Z2 H2 (a.trans e.z) (b.trans e.h) e.s m _ fun vs Z3 H3 e2 m2 rs => q _ Z3 H3 (e.trans e2) m2 (.cons (τ.mono e2.z rv) rs)
/-- a new list of one's own -/
def EvN {α : Type} (M : Mu μ) (t : TE) (σ : L2.St) (Z H : Hp) (s : μ) (τ : Ty α) (xs : List α) (s' : μ) : Prop :=
  ∀ Z1 H1, Same Z Z1 → SameX M.fp H H1 → Same Z1 H1 → M.m s Z1 H1 → ∀ Q : VK, (∀ p vs Z2 H2, Step M.fp Z1 H1 Z2 H2 → M.m s' Z2 H2 → H1 p = none → Z2 p = none → H2 p = some (.lst vs) → All (τ.r Z2) vs xs → xs.length ≤ sizeLine → Q (.ref p) H2) → t σ H1 Q
theorem Step.fz {S : List Addr} {Z H Z1 H1 : Hp} {x : Addr} {o : HO} (g : Step S Z H Z1 H1) (hx : H x = none) (h1 : H1 x = some o) (hz : Z1 x = none) : Step S Z H (upd Z1 x o) H1 := by
  refine ⟨g.z.trans (same_upd hz), fun a u e => ?_, g.h, fun a h z => ?_, g.al⟩
  · by_cases q : a = x
    · subst q; rw [upd_same] at e; rw [← Option.some.inj e]; exact h1
    · rw [upd_ne q] at e; exact g.s a u e
  · rw [upd_ne (ne_of_some h hx)]; exact g.n a h z
theorem Mu.fz {M : Mu μ} {s : μ} {Z H : Hp} {x : Addr} {o : HO} (m : M.m s Z H) (hz : Z x = none) (nx : x ∉ M.fp) : M.m s (upd Z x o) H := by
  refine M.loc (same_upd hz) (fun _ _ _ x => x) (fun a ha _ z => ?_) m
  rw [upd_ne (fun q => nx (by rw [← q]; exact ha))]
  exact z
theorem ev_fz {α : Type} {τ : Ty α} {xs : List α} (h : EvN M ta σ Z H s τ xs s1) : Ev M ta σ Z H s (ty (yList τ) xs) s1 :=
  fun Z1 H1 a b c d Q q => h Z1 H1 a b c d Q fun p vs Z2 H2 e m hp zp h2 t l =>
    q _ _ _ (e.fz hp h2 zp) (Mu.fz m zp (fun hf => (M.al d p hf).1 hp)) ⟨p, vs, rfl, upd_same, t.imp fun _ _ => τ.mono (same_upd zp), l⟩
theorem en_op {α : Type} {τ : Ty α} {xs : List α} {R1 R3 : Rr M.fp} {r : R2} (ha : Ev M ta σ Z H s R1 s1) (hb : Ev M tb σ Z H s1 R3 s2) (h : ∀ Z H v w, Same Z H → R1.r Z H v → R3.r Z H w → ∃ vs, All (τ.r Z) vs xs ∧ xs.length ≤ sizeLine ∧ ∀ Q : VK, (∀ p, H p = none → Q (.ref p) (upd H p (.lst vs))) → r v w H Q) : EvN M (tOp r ta tb) σ Z H s τ xs s2 :=
  fun Z1 H1 a b c d Q q => ha Z1 H1 a b c d _ fun v Z2 H2 e m rv => hb Z2 H2 (a.trans e.z) (b.trans e.h) e.s m _ fun w Z3 H3 e2 m2 rw => by
    obtain ⟨vs, t, l, k⟩ := h Z3 H3 v w e2.s (R1.st e2 rv) rw
    refine k _ fun p hp => ?_
    have e3 := Step.own (o := .lst vs) e2.s hp
    exact q p vs Z3 _ ((e.trans e2).trans e3.pure) (M.pure e3 m2) (same_x (e.trans e2) hp) (same_none e2.s hp) upd_same t l
theorem en_cb {α : Type} {τ : Ty α} {xs : List α} {Rs : Ra M.fp} {r : List V → Hp → VK → Prop} (ha : EvA M t σ Z H s Rs s1) (h : ∀ Z H vs, Same Z H → Rs.r Z H vs → ∃ ws, All (τ.r Z) ws xs ∧ xs.length ≤ sizeLine ∧ ∀ Q : VK, (∀ p, H p = none → Q (.ref p) (upd H p (.lst ws))) → r vs H Q) : EvN M (tCB r t) σ Z H s τ xs s1 :=
  fun Z1 H1 a b c d Q q => ha Z1 H1 a b c d _ fun v Z2 H2 e m rv => by
    obtain ⟨vs, t, l, k⟩ := h Z2 H2 v e.s rv
    refine k _ fun p hp => ?_
    have e3 := Step.own (o := .lst vs) e.s hp
    exact q p vs Z2 _ (e.trans e3.pure) (M.pure e3 m) (same_x e hp) (same_none e.s hp) upd_same t l
theorem en_listD {xs : List α} (ha : EvA M t σ Z H s (ras τ xs) s1) (l : xs.length ≤ sizeLine) : EvN M (tLst t) σ Z H s τ xs s1 :=
  fun Z1 H1 a b c d Q q => ha Z1 H1 a b c d _ fun vs Z2 H2 e m rv => ⟨by rw [All.len rv]; exact l, fun p hp => by
    have e3 := Step.own (o := .lst vs) e.s hp
    exact q p vs Z2 _ (e.trans e3.pure) (M.pure e3 m) (same_x e hp) (same_none e.s hp) upd_same rv l⟩
theorem ev_tupD {xs : List α} (ha : EvA M t σ Z H s (ras τ xs) s1) (l : xs.length ≤ sizeLine) : Ev M (tTup t) σ Z H s (ty (yTup K τ) xs) s1 :=
  ev_tup ha fun Z H vs sz h => ⟨by rw [h.len]; exact l, fun p hp => ⟨p, vs, rfl, sqT_new, h.imp fun _ _ => τ.mono (same_upd (same_none sz hp)), l⟩⟩
/-! ### lists and tuples that are read -/
variable {xs ys : List α}
theorem rdl {fp : List Addr} {Z H : Hp} {v : V} (sz : Same Z H) (h : (li (fp := fp) τ xs).r Z H v) : ∃ p vs, v = .ref p ∧ H p = some (.lst vs) ∧ All (τ.r Z) vs xs ∧ xs.length ≤ sizeLine := by
  obtain ⟨p, vs, e, g, t, l⟩ := h
  exact ⟨p, vs, e, g.get sz, t, l⟩
theorem ev_ixL {i : Int} (ha : Ev M ta σ Z H s (li τ xs) s1) (hb : Ev M tb σ Z H s1 (ty yInt i) s2) (e : atI xs i = some x) : Ev M (tOp (rIxL K) ta tb) σ Z H s (ty τ x) s2 :=
  ev_op ha hb fun _ _ _ _ sz e1 e2 _ q => by
    obtain ⟨p, vs, rfl, g, t, _⟩ := rdl sz e1
    obtain ⟨w, hw, rw'⟩ := t.atI e
    exact ⟨p, vs, i, w, rfl, e2, SqL.of g, hw, q _ _ _ (Step.refl sz) rw'⟩
theorem ev_ixT {i : Int} (ha : Ev M ta σ Z H s (ty (yTup K τ) xs) s1) (hb : Ev M tb σ Z H s1 (ty yInt i) s2) (e : atI xs i = some x) : Ev M (tOp (rIxT K) ta tb) σ Z H s (ty τ x) s2 :=
  ev_op ha hb fun _ _ _ _ sz e1 e2 _ q => by
    obtain ⟨p, vs, rfl, g, t, _⟩ := e1
    obtain ⟨w, hw, rw'⟩ := t.atI e
    exact ⟨p, vs, i, w, rfl, e2, seqT_same sz g, hw, q _ _ _ (Step.refl sz) rw'⟩
/-- a part of a tuple by its written place -/
def PartOf {α' β' : Type} (K : PySem.W.Frag) (τ : Ty α') (i : Int) (τ' : Ty β') (f : α' → β') : Prop := ∀ Z v x, τ.r Z v x → ∃ a vs w, v = .ref a ∧ SqT K Z a vs ∧ atI vs i = some w ∧ τ'.r Z w (f x)
theorem po1_0 : PartOf K (yP1 K τ) 0 τ id := fun _ _ _ ⟨a, v1, e, h, h1⟩ => ⟨a, _, v1, e, h, rfl, h1⟩
theorem po2_0 : PartOf K (yP2 K τ υ) 0 τ Prod.fst := fun _ _ _ ⟨a, v1, v2, e, h, h1, _⟩ => ⟨a, _, v1, e, h, rfl, h1⟩
theorem po2_1 : PartOf K (yP2 K τ υ) 1 υ Prod.snd := fun _ _ _ ⟨a, v1, v2, e, h, _, h1⟩ => ⟨a, _, v2, e, h, rfl, h1⟩
theorem po3_0 : PartOf K (yP3 K τ υ φ) 0 τ (fun x => x.1) := fun _ _ _ ⟨a, v1, v2, v3, e, h, h1, _⟩ => ⟨a, _, v1, e, h, rfl, h1⟩
theorem po3_1 : PartOf K (yP3 K τ υ φ) 1 υ (fun x => x.2.1) := fun _ _ _ ⟨a, v1, v2, v3, e, h, _, h1, _⟩ => ⟨a, _, v2, e, h, rfl, h1⟩
theorem po3_2 : PartOf K (yP3 K τ υ φ) 2 φ (fun x => x.2.2) := fun _ _ _ ⟨a, v1, v2, v3, e, h, _, _, h1⟩ => ⟨a, _, v3, e, h, rfl, h1⟩
theorem po4_0 : PartOf K (yP4 K τ υ φ ψ) 0 τ (fun x => x.1) := fun _ _ _ ⟨a, v1, v2, v3, v4, e, h, h1, _⟩ => ⟨a, _, v1, e, h, rfl, h1⟩
theorem po4_1 : PartOf K (yP4 K τ υ φ ψ) 1 υ (fun x => x.2.1) := fun _ _ _ ⟨a, v1, v2, v3, v4, e, h, _, h1, _⟩ => ⟨a, _, v2, e, h, rfl, h1⟩
theorem po4_2 : PartOf K (yP4 K τ υ φ ψ) 2 φ (fun x => x.2.2.1) := fun _ _ _ ⟨a, v1, v2, v3, v4, e, h, _, _, h1, _⟩ => ⟨a, _, v3, e, h, rfl, h1⟩
theorem po4_3 : PartOf K (yP4 K τ υ φ ψ) 3 ψ (fun x => x.2.2.2) := fun _ _ _ ⟨a, v1, v2, v3, v4, e, h, _, _, _, h1⟩ => ⟨a, _, v4, e, h, rfl, h1⟩
theorem ev_part {i : Int} {f : α → β} (P : PartOf K τ i υ f) (ha : Ev M ta σ Z H s (ty τ x) s1) (hb : Ev M tb σ Z H s1 (ty yInt i) s2) : Ev M (tOp (rIxT K) ta tb) σ Z H s (ty υ (f x)) s2 :=
  ev_op ha hb fun _ _ _ _ sz e1 e2 _ q => by
    obtain ⟨p, vs, w, rfl, g, hw, rw'⟩ := P _ _ _ e1
    exact ⟨p, vs, i, w, rfl, e2, seqT_same sz g, hw, q _ _ _ (Step.refl sz) rw'⟩
theorem ev_len {r : List V → Hp → VK → Prop} (hr : ∀ xs H Q, (∃ p ys, xs = [.ref p] ∧ (SqL K H p ys ∨ SqT K H p ys) ∧ Q (.int ys.length) H) → r xs H Q) (ha : Ev M ta σ Z H s (li τ xs) s1) : Ev M (tCB r (tCons ta tNil)) σ Z H s (ty yInt (xs.length : Nat)) s1 :=
  ev_cb (eva_cons ha eva_nil) fun _ _ _ sz ⟨v, r, e, h, e2⟩ _ q => by
    cases e2; cases e
    obtain ⟨p, vs, rfl, g, t, _⟩ := rdl sz h
    exact hr _ _ _ ⟨p, vs, rfl, .inl (SqL.of g), by rw [t.len]; exact q _ _ _ (Step.refl sz) rfl⟩
theorem ev_lenT {r : List V → Hp → VK → Prop} (hr : ∀ xs H Q, (∃ p ys, xs = [.ref p] ∧ (SqL K H p ys ∨ SqT K H p ys) ∧ Q (.int ys.length) H) → r xs H Q) (ha : Ev M ta σ Z H s (ty (yTup K τ) xs) s1) : Ev M (tCB r (tCons ta tNil)) σ Z H s (ty yInt (xs.length : Nat)) s1 :=
  ev_cb (eva_cons ha eva_nil) fun _ _ _ sz ⟨v, r, e, h, e2⟩ _ q => by
    cases e2; cases e
    obtain ⟨p, vs, rfl, g, t, _⟩ := h
    exact hr _ _ _ ⟨p, vs, rfl, .inr (seqT_same sz g), by rw [t.len]; exact q _ _ _ (Step.refl sz) rfl⟩
theorem en_list_of {r : List V → Hp → VK → Prop} (hr : ∀ xs H Q, (∃ p ys, xs = [.ref p] ∧ (SqL K H p ys ∨ SqT K H p ys) ∧ ∀ l, H l = none → Q (.ref l) (upd H l (.lst ys))) → r xs H Q) (ha : Ev M ta σ Z H s (li τ xs) s1) : EvN M (tCB r (tCons ta tNil)) σ Z H s τ xs s1 :=
  en_cb (eva_cons ha eva_nil) fun _ _ _ sz ⟨v, r, e, h, e2⟩ => by
    cases e2; cases e
    obtain ⟨p, vs, rfl, g, t, l⟩ := rdl sz h
    exact ⟨vs, t, l, fun Q q => hr _ _ _ ⟨p, vs, rfl, .inl (SqL.of g), q⟩⟩
theorem en_list_ofT {r : List V → Hp → VK → Prop} (hr : ∀ xs H Q, (∃ p ys, xs = [.ref p] ∧ (SqL K H p ys ∨ SqT K H p ys) ∧ ∀ l, H l = none → Q (.ref l) (upd H l (.lst ys))) → r xs H Q) (ha : Ev M ta σ Z H s (ty (yTup K τ) xs) s1) : EvN M (tCB r (tCons ta tNil)) σ Z H s τ xs s1 :=
  en_cb (eva_cons ha eva_nil) fun _ _ _ sz ⟨v, r, e, h, e2⟩ => by
    cases e2; cases e
    obtain ⟨p, vs, rfl, g, t, l⟩ := h
    exact ⟨vs, t, l, fun Q q => hr _ _ _ ⟨p, vs, rfl, .inr (seqT_same sz g), q⟩⟩
theorem ev_tuple_of {r : List V → Hp → VK → Prop} (hr : ∀ xs H Q, (∃ p ys, xs = [.ref p] ∧ ((SqL K H p ys ∧ ∀ l, H l = none → Q (.ref l) (upd H l (.tup ys))) ∨ (SqT K H p ys ∧ Q (.ref p) H))) → r xs H Q) (ha : Ev M ta σ Z H s (li τ xs) s1) : Ev M (tCB r (tCons ta tNil)) σ Z H s (ty (yTup K τ) xs) s1 :=
  ev_cb (eva_cons ha eva_nil) fun _ _ _ sz ⟨v, r, e, h, e2⟩ _ q => by
    cases e2; cases e
    obtain ⟨p, vs, rfl, g, t, l⟩ := rdl sz h
    exact hr _ _ _ ⟨p, vs, rfl, .inl ⟨SqL.of g, fun d hd => q _ _ _ (Step.new sz hd) ⟨d, vs, rfl, sqT_new, t.imp fun _ _ => τ.mono (same_upd (same_none sz hd)), l⟩⟩⟩
theorem ev_tuple_ofT {r : List V → Hp → VK → Prop} (hr : ∀ xs H Q, (∃ p ys, xs = [.ref p] ∧ ((SqL K H p ys ∧ ∀ l, H l = none → Q (.ref l) (upd H l (.tup ys))) ∨ (SqT K H p ys ∧ Q (.ref p) H))) → r xs H Q) (ha : Ev M ta σ Z H s (ty (yTup K τ) xs) s1) : Ev M (tCB r (tCons ta tNil)) σ Z H s (ty (yTup K τ) xs) s1 :=
  ev_cb (eva_cons ha eva_nil) fun _ _ _ sz ⟨v, r, e, h, e2⟩ _ q => by
    cases e2; cases e
    obtain ⟨p, vs, rfl, g, t, l⟩ := h
    exact hr _ _ _ ⟨p, vs, rfl, .inr ⟨seqT_same sz g, q _ _ _ (Step.refl sz) ⟨p, vs, rfl, g, t, l⟩⟩⟩
/-- a pair, as a tuple of a pair: itself -/
theorem ev_tuple_id {r : List V → Hp → VK → Prop} (hr : ∀ xs H Q, (∃ p ys, xs = [.ref p] ∧ ((SqL K H p ys ∧ ∀ l, H l = none → Q (.ref l) (upd H l (.tup ys))) ∨ (SqT K H p ys ∧ Q (.ref p) H))) → r xs H Q) (hτ : ∀ Z v x, τ.r Z v x → ∃ p ys, v = .ref p ∧ SqT K Z p ys) (ha : Ev M ta σ Z H s (ty τ x) s1) : Ev M (tCB r (tCons ta tNil)) σ Z H s (ty τ x) s1 :=
  ev_cb (eva_cons ha eva_nil) fun _ _ _ sz ⟨v, r, e, h, e2⟩ _ q => by
    cases e2; cases e
    obtain ⟨p, vs, rfl, g⟩ := hτ _ _ _ h
    exact hr _ _ _ ⟨p, vs, rfl, .inr ⟨seqT_same sz g, q _ _ _ (Step.refl sz) h⟩⟩
theorem it_p2 : ∀ Z v x, (yP2 K τ υ).r Z v x → ∃ p ys, v = .ref p ∧ SqT K Z p ys := fun _ _ _ ⟨a, _, _, e, h, _⟩ => ⟨a, _, e, h⟩
theorem it_p3 : ∀ Z v x, (yP3 K τ υ φ).r Z v x → ∃ p ys, v = .ref p ∧ SqT K Z p ys := fun _ _ _ ⟨a, _, _, _, e, h, _⟩ => ⟨a, _, e, h⟩
theorem en_cat (ha : Ev M ta σ Z H s (li τ xs) s1) (hb : Ev M tb σ Z H s1 (li τ ys) s2) (l : xs.length + ys.length ≤ sizeLine) : EvN M (tOp rCat ta tb) σ Z H s τ (xs ++ ys) s2 :=
  en_op ha hb fun _ _ _ _ sz e1 e2 => by
    obtain ⟨p, vs, rfl, g, t, _⟩ := rdl sz e1
    obtain ⟨p2, ws, rfl, g2, t2, _⟩ := rdl sz e2
    exact ⟨vs ++ ws, t.app t2, by rw [List.length_append]; exact l, fun Q q => ⟨p, p2, vs, ws, rfl, rfl, g, g2, by rw [t.len, t2.len]; exact l, q⟩⟩
end
def cutA {α : Type} (xs : List α) (lo hi : Option Int) : List α := (xs.drop (HT.sIx xs.length 0 lo)).take (HT.sIx xs.length xs.length hi - HT.sIx xs.length 0 lo)
theorem All.cut {α : Type} {R : V → α → Prop} {vs : List V} {xs : List α} (h : All R vs xs) (lo hi : Option Int) : All R (cutV vs lo hi) (cutA xs lo hi) := by
  unfold cutV cutA
  rw [h.len]
  exact (h.drop _).take _
theorem cutA_len {α : Type} (xs : List α) (lo hi : Option Int) : (cutA xs lo hi).length ≤ xs.length := by
  unfold cutA
  rw [List.length_take, List.length_drop]
  omega
def EvO (M : Mu μ) (t : TO) (σ : L2.St) (Z H : Hp) (s : μ) (i : Option Int) (s' : μ) : Prop :=
  ∀ Z1 H1, Same Z Z1 → SameX M.fp H H1 → Same Z1 H1 → M.m s Z1 H1 → ∀ Q : Option Int → Hp → Prop, (∀ Z2 H2, Step M.fp Z1 H1 Z2 H2 → M.m s' Z2 H2 → Q i H2) → t σ H1 Q
theorem eo_none : EvO M tNoPart σ Z H s none s := fun Z1 H1 _ _ c d Q q => q Z1 H1 (Step.refl c) d
theorem eo_some {i : Int} (h : Ev M te σ Z H s (ty yInt i) s1) : EvO M (tPart te) σ Z H s (some i) s1 := fun Z1 H1 a b c d Q q => h Z1 H1 a b c d _ fun v Z2 H2 e m rv => ⟨i, rv, q Z2 H2 e m⟩
theorem ev_slice {r : V → Option Int → Option Int → Hp → VK → Prop} {tl th : TO} {lo hi : Option Int} {R R' : Rr M.fp} (ha : Ev M ta σ Z H s R s1) (hl : EvO M tl σ Z H s1 lo s2) (hh : EvO M th σ Z H s2 hi s3)
    (h : ∀ Z H v, Same Z H → R.r Z H v → ∀ Q : VK, (∀ u Z2 H2, Step [] Z H Z2 H2 → R'.r Z2 H2 u → Q u H2) → r v lo hi H Q) : Ev M (tSl r ta tl th) σ Z H s R' s3 :=
  fun Z1 H1 a b c d Q q => ha Z1 H1 a b c d _ fun v Z2 H2 e m rv => hl Z2 H2 (a.trans e.z) (b.trans e.h) e.s m _ fun Z3 H3 e2 m2 => hh Z3 H3 ((a.trans e.z).trans e2.z) ((b.trans e.h).trans e2.h) e2.s m2 _ fun Z4 H4 e3 m3 =>
    h Z4 H4 v e3.s (R.st e3 (R.st e2 rv)) _ fun u Z5 H5 e4 ru => q u Z5 H5 (((e.trans e2).trans e3).trans e4.pure) (M.pure e4 m3) ru
theorem en_slL {α : Type} {τ : Ty α} {xs : List α} {tl th : TO} {lo hi : Option Int} (ha : Ev M ta σ Z H s (li τ xs) s1) (hl : EvO M tl σ Z H s1 lo s2) (hh : EvO M th σ Z H s2 hi s3) : EvN M (tSl (rSlL K) ta tl th) σ Z H s τ (cutA xs lo hi) s3 :=
  fun Z1 H1 a b c d Q q => ha Z1 H1 a b c d _ fun v Z2 H2 e m rv => hl Z2 H2 (a.trans e.z) (b.trans e.h) e.s m _ fun Z3 H3 e2 m2 => hh Z3 H3 ((a.trans e.z).trans e2.z) ((b.trans e.h).trans e2.h) e2.s m2 _ fun Z4 H4 e3 m3 => by
    obtain ⟨p, vs, rfl, g, t, l⟩ := rdl e3.s ((li τ xs).st e3 ((li τ xs).st e2 rv))
    refine ⟨p, vs, rfl, SqL.of g, fun d hd => ?_⟩
    have e4 := Step.own (o := .lst (cutV vs lo hi)) e3.s hd
    exact q d _ Z4 _ (((e.trans e2).trans e3).trans e4.pure) (M.pure e4 m3) (same_x ((e.trans e2).trans e3) hd) (same_none e3.s hd) upd_same (t.cut lo hi) (Nat.le_trans (cutA_len _ _ _) l)
/-- a tuple's slice: the whole is the tuple itself -/
def rSlW (K : PySem.W.Frag) : V → Option Int → Option Int → Hp → VK → Prop := fun x lo hi H Q => ∃ a xs, x = .ref a ∧ SqT K H a xs ∧
  ((HT.sIx xs.length 0 lo = 0 ∧ HT.sIx xs.length xs.length hi = xs.length) → Q (.ref a) H) ∧ (¬ (HT.sIx xs.length 0 lo = 0 ∧ HT.sIx xs.length xs.length hi = xs.length) → ∀ p, H p = none → Q (.ref p) (upd H p (.tup (cutV xs lo hi))))
theorem ev_slT {α : Type} {τ : Ty α} {xs : List α} {tl th : TO} {lo hi : Option Int} (ha : Ev M ta σ Z H s (ty (yTup K τ) xs) s1) (hl : EvO M tl σ Z H s1 lo s2) (hh : EvO M th σ Z H s2 hi s3) : Ev M (tSl (rSlW K) ta tl th) σ Z H s (ty (yTup K τ) (cutA xs lo hi)) s3 :=
  ev_slice ha hl hh fun _ _ _ sz ⟨p, vs, e, g, t, l⟩ _ q => by
    subst e
    refine ⟨p, vs, rfl, seqT_same sz g, fun w => q _ _ _ (Step.refl sz) ⟨p, vs, rfl, g, ?_, Nat.le_trans (cutA_len _ _ _) l⟩, fun _ d hd => q _ _ _ (Step.new sz hd) ⟨d, _, rfl, sqT_new, (t.cut lo hi).imp fun _ _ => τ.mono (same_upd (same_none sz hd)), Nat.le_trans (cutA_len _ _ _) l⟩⟩
    have c := t.cut lo hi
    have e : cutV vs lo hi = vs := by
      unfold cutV
      rw [w.1, w.2, List.drop_zero, Nat.sub_zero, List.take_length]
    rw [e] at c
    exact c
/-! ### sums and the like -/
theorem ev_sum {xs : List Int} (ha : Ev M ta σ Z H s (li yInt xs) s1) : Ev M (tCB (rSum K) (tCons ta tNil)) σ Z H s (ty yInt xs.sum) s1 :=
  ev_cb (eva_cons ha eva_nil) fun _ _ _ sz ⟨v, r, e, h, e2⟩ _ q => by
    cases e2; cases e
    obtain ⟨p, vs, rfl, g, t, _⟩ := rdl sz h
    rw [t.ints] at g
    exact ⟨p, xs, rfl, SqL.of g, q _ _ _ (Step.refl sz) rfl⟩
theorem ev_anyL {xs : List Bool} (ha : Ev M ta σ Z H s (li yBool xs) s1) : Ev M (tCB (rAny K) (tCons ta tNil)) σ Z H s (ty yBool (xs.any id)) s1 :=
  ev_cb (eva_cons ha eva_nil) fun _ _ _ sz ⟨v, r, e, h, e2⟩ _ q => by
    cases e2; cases e
    obtain ⟨p, vs, rfl, g, t, _⟩ := rdl sz h
    rw [t.bls] at g
    exact ⟨p, xs, rfl, SqL.of g, q _ _ _ (Step.refl sz) rfl⟩
theorem ev_allL {xs : List Bool} (ha : Ev M ta σ Z H s (li yBool xs) s1) : Ev M (tCB (rAll K) (tCons ta tNil)) σ Z H s (ty yBool (xs.all id)) s1 :=
  ev_cb (eva_cons ha eva_nil) fun _ _ _ sz ⟨v, r, e, h, e2⟩ _ q => by
    cases e2; cases e
    obtain ⟨p, vs, rfl, g, t, _⟩ := rdl sz h
    rw [t.bls] at g
    exact ⟨p, xs, rfl, SqL.of g, q _ _ _ (Step.refl sz) rfl⟩
def maxZ : List Int → Option Int
  | [] => none
  | x :: xs => some (xs.foldl max x)
def minZ : List Int → Option Int
  | [] => none
  | x :: xs => some (xs.foldl min x)
theorem foldl_max_of : ∀ (xs : List Int) (x m : Int), m ∈ x :: xs → (∀ y ∈ x :: xs, y ≤ m) → m = xs.foldl max x
  | [], x, m, h, _ => by simpa using h
  | y :: r, x, m, h, g => by
    refine foldl_max_of r (max x y) m ?_ (fun z hz => ?_)
    · have hx := g x (by simp)
      have hy := g y (by simp)
      rcases List.mem_cons.mp h with e | h
      · have : max x y = m := by omega
        rw [this]; exact List.mem_cons_self
      · rcases List.mem_cons.mp h with e | h
        · have : max x y = m := by omega
          rw [this]; exact List.mem_cons_self
        · exact List.mem_cons_of_mem _ h
    · rcases List.mem_cons.mp hz with e | hz
      · have hx := g x (by simp)
        have hy := g y (by simp)
        omega
      · exact g z (by simp [hz])
theorem foldl_min_of : ∀ (xs : List Int) (x m : Int), m ∈ x :: xs → (∀ y ∈ x :: xs, m ≤ y) → m = xs.foldl min x
  | [], x, m, h, _ => by simpa using h
  | y :: r, x, m, h, g => by
    refine foldl_min_of r (min x y) m ?_ (fun z hz => ?_)
    · have hx := g x (by simp)
      have hy := g y (by simp)
      rcases List.mem_cons.mp h with e | h
      · have : min x y = m := by omega
        rw [this]; exact List.mem_cons_self
      · rcases List.mem_cons.mp h with e | h
        · have : min x y = m := by omega
          rw [this]; exact List.mem_cons_self
        · exact List.mem_cons_of_mem _ h
    · rcases List.mem_cons.mp hz with e | hz
      · have hx := g x (by simp)
        have hy := g y (by simp)
        omega
      · exact g z (by simp [hz])
theorem ev_maxL {xs : List Int} {m : Int} (ha : Ev M ta σ Z H s (li yInt xs) s1) (e : maxZ xs = some m) : Ev M (tCB (rMax K) (tCons ta tNil)) σ Z H s (ty yInt m) s1 :=
  ev_cb (eva_cons ha eva_nil) fun _ _ _ sz ⟨v, r, e1, h, e2⟩ _ q => by
    cases e2; cases e1
    obtain ⟨p, vs, rfl, g, t, _⟩ := rdl sz h
    rw [t.ints] at g
    cases xs with
    | nil => cases e
    | cons x r =>
      refine ⟨p, x :: r, rfl, SqL.of g, Nat.succ_pos _, fun n hn hg => q _ _ _ (Step.refl sz) ?_⟩
      rw [foldl_max_of r x n hn hg, ← Option.some.inj (e : some (r.foldl max x) = some m)]
      rfl
theorem ev_minL {xs : List Int} {m : Int} (ha : Ev M ta σ Z H s (li yInt xs) s1) (e : minZ xs = some m) : Ev M (tCB (rMin K) (tCons ta tNil)) σ Z H s (ty yInt m) s1 :=
  ev_cb (eva_cons ha eva_nil) fun _ _ _ sz ⟨v, r, e1, h, e2⟩ _ q => by
    cases e2; cases e1
    obtain ⟨p, vs, rfl, g, t, _⟩ := rdl sz h
    rw [t.ints] at g
    cases xs with
    | nil => cases e
    | cons x r =>
      refine ⟨p, x :: r, rfl, SqL.of g, Nat.succ_pos _, fun n hn hg => q _ _ _ (Step.refl sz) ?_⟩
      rw [foldl_min_of r x n hn hg, ← Option.some.inj (e : some (r.foldl min x) = some m)]
      rfl
theorem ev_max2 {i j : Int} (ha : Ev M ta σ Z H s (ty yInt i) s1) (hb : Ev M tb σ Z H s1 (ty yInt j) s2) : Ev M (tCB (fun xs H Q => ∃ i j, xs = [.int i, .int j] ∧ Q (.int (if j > i then j else i)) H) (tCons ta (tCons tb tNil))) σ Z H s (ty yInt (max i j)) s2 :=
  ev_cb (eva_cons ha (eva_cons hb eva_nil)) fun _ _ _ sz ⟨v, r, e1, h, w, r2, e2, h2, e3⟩ _ q => by
    cases e3; cases e2; cases e1; cases h; cases h2
    refine ⟨i, j, rfl, q _ _ _ (Step.refl sz) ?_⟩
    show V.int _ = V.int _
    by_cases c : j > i
    · rw [if_pos c, Int.max_eq_right (by omega)]
    · rw [if_neg c, Int.max_eq_left (by omega)]
theorem ev_min2 {i j : Int} (ha : Ev M ta σ Z H s (ty yInt i) s1) (hb : Ev M tb σ Z H s1 (ty yInt j) s2) : Ev M (tCB (fun xs H Q => ∃ i j, xs = [.int i, .int j] ∧ Q (.int (if j < i then j else i)) H) (tCons ta (tCons tb tNil))) σ Z H s (ty yInt (min i j)) s2 :=
  ev_cb (eva_cons ha (eva_cons hb eva_nil)) fun _ _ _ sz ⟨v, r, e1, h, w, r2, e2, h2, e3⟩ _ q => by
    cases e3; cases e2; cases e1; cases h; cases h2
    refine ⟨i, j, rfl, q _ _ _ (Step.refl sz) ?_⟩
    show V.int _ = V.int _
    by_cases c : j < i
    · rw [if_pos c, Int.min_eq_right (by omega)]
    · rw [if_neg c, Int.min_eq_left (by omega)]
theorem ev_int_of {i : Int} (ha : Ev M ta σ Z H s (ty yInt i) s1) : Ev M (tCB (fun xs H Q => (∃ i, xs = [.int i] ∧ Q (.int i) H) ∨ ∃ k, xs = [.bl k] ∧ Q (.int (if k then 1 else 0)) H) (tCons ta tNil)) σ Z H s (ty yInt i) s1 :=
  ev_cb (eva_cons ha eva_nil) fun _ _ _ sz ⟨v, r, e1, h, e2⟩ _ q => by
    cases e2; cases e1; cases h
    exact .inl ⟨i, rfl, q _ _ _ (Step.refl sz) rfl⟩
/-! ### in -/
/-- flat, and its equality is the thing's -/
structure FlatI {α : Type} (τ : Ty α) (f : α → V) : Prop where
  flat : Flat τ f
  fl : ∀ x, flatV (f x) = true
  eqv : ∀ x y, eqV (f x) (f y) = true ↔ x = y
theorem fi_int : FlatI yInt V.int := ⟨flat_int, fun _ => rfl, fun x y => by show (x == y) = true ↔ _; exact beq_iff_eq⟩
theorem fi_str : FlatI yStr V.str := ⟨flat_str, fun _ => rfl, fun x y => by show (x == y) = true ↔ _; exact beq_iff_eq⟩
theorem fi_bool : FlatI yBool V.bl := ⟨flat_bool, fun _ => rfl, fun x y => by show (x == y) = true ↔ _; exact beq_iff_eq⟩
section
variable {α : Type} [DecidableEq α] {τ : Ty α} {f : α → V} {x : α} {xs : List α}
theorem inV_map (F : FlatI τ f) : inV (f x) (xs.map f) = decide (x ∈ xs) := by
  unfold inV
  rw [List.any_map]
  apply Bool.eq_iff_iff.mpr
  rw [List.any_eq_true, decide_eq_true_iff]
  constructor
  · rintro ⟨y, hy, e⟩
    rw [← (F.eqv y x).mp e]; exact hy
  · exact fun h => ⟨x, h, (F.eqv x x).mpr rfl⟩
theorem flat_map (F : FlatI τ f) : (xs.map f).all flatV = true := by
  rw [List.all_map]
  exact List.all_eq_true.mpr fun y _ => F.fl y
theorem ev_in (F : FlatI τ f) (ha : Ev M ta σ Z H s (ty τ x) s1) (hb : Ev M tb σ Z H s1 (li τ xs) s2) : Ev M (tOp (rIn K false) ta tb) σ Z H s (ty yBool (decide (x ∈ xs))) s2 :=
  ev_op ha hb fun _ _ _ _ sz e1 e2 _ q => by
    obtain ⟨p, vs, rfl, g, t, _⟩ := rdl sz e2
    have ev := t.map (F.flat.eq _); subst ev
    rw [F.flat.eq _ _ _ e1]
    exact ⟨p, _, rfl, .inl (SqL.of g), F.fl x, flat_map F, q _ _ _ (Step.refl sz) (congrArg V.bl (inV_map F))⟩
theorem ev_notin (F : FlatI τ f) (ha : Ev M ta σ Z H s (ty τ x) s1) (hb : Ev M tb σ Z H s1 (li τ xs) s2) : Ev M (tOp (rIn K true) ta tb) σ Z H s (ty yBool (!decide (x ∈ xs))) s2 :=
  ev_op ha hb fun _ _ _ _ sz e1 e2 _ q => by
    obtain ⟨p, vs, rfl, g, t, _⟩ := rdl sz e2
    have ev := t.map (F.flat.eq _); subst ev
    rw [F.flat.eq _ _ _ e1]
    exact ⟨p, _, rfl, .inl (SqL.of g), F.fl x, flat_map F, q _ _ _ (Step.refl sz) (congrArg (fun b => V.bl (!b)) (inV_map F))⟩
theorem ev_inT (F : FlatI τ f) (ha : Ev M ta σ Z H s (ty τ x) s1) (hb : Ev M tb σ Z H s1 (ty (yTup K τ) xs) s2) : Ev M (tOp (rIn K false) ta tb) σ Z H s (ty yBool (decide (x ∈ xs))) s2 :=
  ev_op ha hb fun _ _ _ _ sz e1 ⟨p, vs, e, g, t, _⟩ _ q => by
    subst e
    have ev := t.map (F.flat.eq _); subst ev
    rw [F.flat.eq _ _ _ e1]
    exact ⟨p, _, rfl, .inr (seqT_same sz g), F.fl x, flat_map F, q _ _ _ (Step.refl sz) (congrArg V.bl (inV_map F))⟩
theorem ev_notinT (F : FlatI τ f) (ha : Ev M ta σ Z H s (ty τ x) s1) (hb : Ev M tb σ Z H s1 (ty (yTup K τ) xs) s2) : Ev M (tOp (rIn K true) ta tb) σ Z H s (ty yBool (!decide (x ∈ xs))) s2 :=
  ev_op ha hb fun _ _ _ _ sz e1 ⟨p, vs, e, g, t, _⟩ _ q => by
    subst e
    have ev := t.map (F.flat.eq _); subst ev
    rw [F.flat.eq _ _ _ e1]
    exact ⟨p, _, rfl, .inr (seqT_same sz g), F.fl x, flat_map F, q _ _ _ (Step.refl sz) (congrArg (fun b => V.bl (!b)) (inV_map F))⟩
end
end
end TP

namespace TP
open PySem PySem.Spec PyProof.Rows L2
section
variable {μ : Type} {M : Mu μ} {σ : L2.St} {Z H : Hp} {s s' s1 s2 s3 : μ} {ta tb tc te : TE} {t : TA} {K : PySem.W.Frag}
/-! ### equality of data -/
structure EqD (K : PySem.W.Frag) {α : Type} (τ : Ty α) (d : α → PyData) (n : Nat) : Prop where
  dp : ∀ Z H v x, Same Z H → τ.r Z v x → Dp K H v (d x)
  lay : ∀ Z v x, τ.r Z v x → (d x).canLay0 = true
  dep : ∀ x, (d x).depth ≤ n
  eqv : ∀ x y, PyData.eqv (d x) (d y) = true ↔ x = y
theorem eqd_int : EqD K yInt PyData.int 0 := ⟨fun _ _ _ x _ h => by cases h; exact .int x, fun _ _ _ _ => rfl, fun _ => Nat.le_refl _, fun x y => by simp [PyData.eqv]⟩
theorem eqd_bool : EqD K yBool PyData.bool 0 := ⟨fun _ _ _ x _ h => by cases h; exact .bl x, fun _ _ _ _ => rfl, fun _ => Nat.le_refl _, fun x y => by simp [PyData.eqv]⟩
theorem eqd_str : EqD K yStr PyData.str 0 := ⟨fun _ _ _ x _ h => by rw [h.1]; exact .str x, fun _ _ x h => by
  have := (Bool.and_eq_true_iff.mp (show (PyData.strOk x && decide (x.length ≤ sizeLine)) = true from h.2)).1
  simpa [PyData.canLay0] using this, fun _ => Nat.le_refl _, fun x y => by simp [PyData.eqv]⟩
theorem eqd_non : EqD K yNon (fun _ => PyData.none) 0 := ⟨fun _ _ _ x _ h => by cases h; exact .non, fun _ _ _ _ => rfl, fun _ => Nat.le_refl _, fun x y => by simp [PyData.eqv]⟩
section
variable {α β γ δ : Type} {τ : Ty α} {υ : Ty β} {φ : Ty γ} {ψ : Ty δ} {d : α → PyData} {e : β → PyData} {f : γ → PyData} {g : δ → PyData} {n m k l : Nat}
theorem EqD.all (E : EqD K τ d n) {Z H : Hp} (sz : Same Z H) : ∀ {vs : List V} {xs : List α}, All (τ.r Z) vs xs → DpAll K H vs (xs.map d)
  | _, _, .nil => .nil
  | _, _, .cons h t => .cons (E.dp _ _ _ _ sz h) (E.all sz t)
theorem EqD.lays (E : EqD K τ d n) {Z : Hp} : ∀ {vs : List V} {xs : List α}, All (τ.r Z) vs xs → PyData.canLayAll0 (xs.map d) = true
  | _, _, .nil => by simp [PyData.canLayAll0]
  | _, _, .cons h t => by
    have h1 := E.lay _ _ _ h
    have h2 := E.lays t
    simp [PyData.canLayAll0, h1, h2]
theorem EqD.deps (E : EqD K τ d n) : ∀ xs : List α, PyData.depthAll (xs.map d) ≤ n
  | [] => by simp [PyData.depthAll]
  | x :: r => by
    have h1 := E.dep x
    have h2 := E.deps r
    simp only [List.map_cons, PyData.depthAll]
    omega
theorem EqD.eqvs (E : EqD K τ d n) : ∀ xs ys : List α, PyData.eqvAll (xs.map d) (ys.map d) = true ↔ xs = ys
  | [], [] => by simp [PyData.eqvAll]
  | [], _ :: _ => by simp [PyData.eqvAll]
  | _ :: _, [] => by simp [PyData.eqvAll]
  | x :: xs, y :: ys => by
    simp only [List.map_cons, PyData.eqvAll, Bool.and_eq_true, E.eqv x y, E.eqvs xs ys, List.cons.injEq]
theorem eqd_list (E : EqD K τ d n) : EqD K (yList τ) (fun xs => .list (xs.map d)) (n + 1) where
  dp := fun Z H v x sz ⟨a, vs, e, h, t, _⟩ => by subst e; exact .lst (SqL.of (sz _ _ h)) (E.all sz t)
  lay := fun Z v x ⟨a, vs, e, h, t, _⟩ => by simpa [PyData.canLay0] using E.lays t
  dep := fun x => by have := E.deps x; simp only [PyData.depth]; omega
  eqv := fun x y => by simp only [PyData.eqv]; exact E.eqvs x y
theorem eqd_tup (E : EqD K τ d n) : EqD K (yTup K τ) (fun xs => .tuple (xs.map d)) (n + 1) where
  dp := fun Z H v x sz ⟨a, vs, e, h, t, _⟩ => by subst e; exact .tup (seqT_same sz h) (E.all sz t)
  lay := fun Z v x ⟨a, vs, e, h, t, _⟩ => by simpa [PyData.canLay0] using E.lays t
  dep := fun x => by have := E.deps x; simp only [PyData.depth]; omega
  eqv := fun x y => by simp only [PyData.eqv]; exact E.eqvs x y
theorem eqd_p1 (E : EqD K τ d n) : EqD K (yP1 K τ) (fun x => .tuple [d x]) (n + 1) where
  dp := fun Z H v x sz ⟨a, v1, e, h, h1⟩ => by subst e; exact .tup (seqT_same sz h) (.cons (E.dp _ _ _ _ sz h1) .nil)
  lay := fun Z v x ⟨a, v1, e, h, h1⟩ => by simp [PyData.canLay0, PyData.canLayAll0, E.lay _ _ _ h1]
  dep := fun x => by have := E.dep x; simp only [PyData.depth, PyData.depthAll]; omega
  eqv := fun x y => by simp only [PyData.eqv, PyData.eqvAll, Bool.and_true]; exact E.eqv x y
theorem eqd_p2 (E : EqD K τ d n) (F : EqD K υ e m) : EqD K (yP2 K τ υ) (fun x => .tuple [d x.1, e x.2]) (max n m + 1) where
  dp := fun Z H v x sz ⟨a, v1, v2, e, h, h1, h2⟩ => by subst e; exact .tup (seqT_same sz h) (.cons (E.dp _ _ _ _ sz h1) (.cons (F.dp _ _ _ _ sz h2) .nil))
  lay := fun Z v x ⟨a, v1, v2, e, h, h1, h2⟩ => by simp [PyData.canLay0, PyData.canLayAll0, E.lay _ _ _ h1, F.lay _ _ _ h2]
  dep := fun x => by have := E.dep x.1; have := F.dep x.2; simp only [PyData.depth, PyData.depthAll]; omega
  eqv := fun x y => by
    simp only [PyData.eqv, PyData.eqvAll, Bool.and_true, Bool.and_eq_true, E.eqv, F.eqv]
    exact Prod.ext_iff.symm
theorem eqd_p3 (E : EqD K τ d n) (F : EqD K υ e m) (G : EqD K φ f k) : EqD K (yP3 K τ υ φ) (fun x => .tuple [d x.1, e x.2.1, f x.2.2]) (max n (max m k) + 1) where
  dp := fun Z H v x sz ⟨a, v1, v2, v3, e, h, h1, h2, h3⟩ => by subst e; exact .tup (seqT_same sz h) (.cons (E.dp _ _ _ _ sz h1) (.cons (F.dp _ _ _ _ sz h2) (.cons (G.dp _ _ _ _ sz h3) .nil)))
  lay := fun Z v x ⟨a, v1, v2, v3, e, h, h1, h2, h3⟩ => by simp [PyData.canLay0, PyData.canLayAll0, E.lay _ _ _ h1, F.lay _ _ _ h2, G.lay _ _ _ h3]
  dep := fun x => by have := E.dep x.1; have := F.dep x.2.1; have := G.dep x.2.2; simp only [PyData.depth, PyData.depthAll]; omega
  eqv := fun x y => by
    simp only [PyData.eqv, PyData.eqvAll, Bool.and_true, Bool.and_eq_true, E.eqv, F.eqv, G.eqv]
    rw [Prod.ext_iff, Prod.ext_iff]
theorem eqd_p4 (E : EqD K τ d n) (F : EqD K υ e m) (G : EqD K φ f k) (I : EqD K ψ g l) : EqD K (yP4 K τ υ φ ψ) (fun x => .tuple [d x.1, e x.2.1, f x.2.2.1, g x.2.2.2]) (max n (max m (max k l)) + 1) where
  dp := fun Z H v x sz ⟨a, v1, v2, v3, v4, e, h, h1, h2, h3, h4⟩ => by subst e; exact .tup (seqT_same sz h) (.cons (E.dp _ _ _ _ sz h1) (.cons (F.dp _ _ _ _ sz h2) (.cons (G.dp _ _ _ _ sz h3) (.cons (I.dp _ _ _ _ sz h4) .nil))))
  lay := fun Z v x ⟨a, v1, v2, v3, v4, e, h, h1, h2, h3, h4⟩ => by simp [PyData.canLay0, PyData.canLayAll0, E.lay _ _ _ h1, F.lay _ _ _ h2, G.lay _ _ _ h3, I.lay _ _ _ h4]
  dep := fun x => by have := E.dep x.1; have := F.dep x.2.1; have := G.dep x.2.2.1; have := I.dep x.2.2.2; simp only [PyData.depth, PyData.depthAll]; omega
  eqv := fun x y => by
    simp only [PyData.eqv, PyData.eqvAll, Bool.and_true, Bool.and_eq_true, E.eqv, F.eqv, G.eqv, I.eqv]
    rw [Prod.ext_iff, Prod.ext_iff, Prod.ext_iff]
def optD (d : α → PyData) : Option α → PyData
  | none => .none
  | some x => d x
theorem eqv_none : ∀ c : PyData, PyData.eqv .none c = true ↔ c = .none
  | .none => by simp [PyData.eqv]
  | .bool _ => by simp [PyData.eqv]
  | .int _ => by simp [PyData.eqv]
  | .str _ => by simp [PyData.eqv]
  | .list _ => by simp [PyData.eqv]
  | .tuple _ => by simp [PyData.eqv]
  | .dict _ => by simp [PyData.eqv]
theorem none_eqv : ∀ c : PyData, PyData.eqv c .none = true ↔ c = .none
  | .none => by simp [PyData.eqv]
  | .bool _ => by simp [PyData.eqv]
  | .int _ => by simp [PyData.eqv]
  | .str _ => by simp [PyData.eqv]
  | .list _ => by simp [PyData.eqv]
  | .tuple _ => by simp [PyData.eqv]
  | .dict _ => by simp [PyData.eqv]
theorem eqd_opt (E : EqD K τ d n) (nn : ∀ x, d x ≠ .none) : EqD K (yOpt τ) (optD d) n where
  dp := fun Z H v x sz h => match x, h with
    | none, h => by rw [show v = .non from h]; exact .non
    | some x, h => E.dp _ _ _ _ sz h.1
  lay := fun Z v x h => match x, h with
    | none, h => rfl
    | some x, h => E.lay _ _ _ h.1
  dep := fun x => match x with
    | none => Nat.zero_le _
    | some x => E.dep x
  eqv := fun x y => match x, y with
    | none, none => by simp [optD, PyData.eqv]
    | none, some y => by simp [optD, eqv_none, nn y]
    | some x, none => by simp [optD, none_eqv, nn x]
    | some x, some y => by simp [optD, E.eqv x y]
end
/-- the value is read as the data d -/
def GD {fp : List Addr} (K : PySem.W.Frag) (R : Rr fp) (d : PyData) : Prop := ∀ Z H v, Same Z H → R.r Z H v → Dp K H v d ∧ d.canLay0 = true
theorem EqD.gd {fp : List Addr} {α : Type} {τ : Ty α} {d : α → PyData} {n : Nat} (E : EqD K τ d n) (x : α) : GD K (ty (fp := fp) τ x) (d x) := fun _ _ _ sz h => ⟨E.dp _ _ _ _ sz h, E.lay _ _ _ h⟩
theorem EqD.gdl {fp : List Addr} {α : Type} {τ : Ty α} {d : α → PyData} {n : Nat} (E : EqD K τ d n) (xs : List α) : GD K (li (fp := fp) τ xs) (.list (xs.map d)) := fun _ _ _ sz h => by
  obtain ⟨p, vs, rfl, g, t, _⟩ := rdl sz h
  exact ⟨.lst (SqL.of g) (E.all sz t), by simpa [PyData.canLay0] using E.lays t⟩
theorem shaped_of {d : PyData} {n : Nat} (h : d.canLay0 = true) (l : d.depth ≤ n) (hn : n ≤ 64) : SeqAt.shaped d = true := by
  unfold SeqAt.shaped
  rw [h, Bool.true_and]
  exact decide_eq_true (by omega)
theorem ev_eqG {R R' : Rr M.fp} {c c' : PyData} {P : Prop} [Decidable P] (hc : PyData.eqv c c' = true ↔ P) (G : GD K R c) (G' : GD K R' c') (l : c.depth ≤ 64) (l' : c'.depth ≤ 64) (ha : Ev M ta σ Z H s R s1) (hb : Ev M tb σ Z H s1 R' s2) : Ev M (tOp (rEqD K) ta tb) σ Z H s (ty yBool (decide P)) s2 :=
  ev_op ha hb fun _ _ _ _ sz e1 e2 _ q => by
    obtain ⟨d1, k1⟩ := G _ _ _ sz e1
    obtain ⟨d2, k2⟩ := G' _ _ _ sz e2
    exact ⟨c, c', d1, d2, shaped_of k1 l (Nat.le_refl _), shaped_of k2 l' (Nat.le_refl _), q _ _ _ (Step.refl sz) (congrArg V.bl (Bool.eq_iff_iff.mpr (hc.trans decide_eq_true_iff.symm)))⟩
theorem ev_neG {R R' : Rr M.fp} {c c' : PyData} {P : Prop} [Decidable P] (hc : PyData.eqv c c' = true ↔ P) (G : GD K R c) (G' : GD K R' c') (l : c.depth ≤ 64) (l' : c'.depth ≤ 64) (ha : Ev M ta σ Z H s R s1) (hb : Ev M tb σ Z H s1 R' s2) : Ev M (tOp (rNeD K) ta tb) σ Z H s (ty yBool (!decide P)) s2 :=
  ev_op ha hb fun _ _ _ _ sz e1 e2 _ q => by
    obtain ⟨d1, k1⟩ := G _ _ _ sz e1
    obtain ⟨d2, k2⟩ := G' _ _ _ sz e2
    exact ⟨c, c', d1, d2, shaped_of k1 l (Nat.le_refl _), shaped_of k2 l' (Nat.le_refl _), q _ _ _ (Step.refl sz) (congrArg (fun b => V.bl (!b)) (Bool.eq_iff_iff.mpr (hc.trans decide_eq_true_iff.symm)))⟩
section
variable {α : Type} [DecidableEq α] {τ : Ty α} {d : α → PyData} {n : Nat} {x y : α} {xs ys : List α}
theorem ev_eqD (E : EqD K τ d n) (hn : n ≤ 64) (ha : Ev M ta σ Z H s (ty τ x) s1) (hb : Ev M tb σ Z H s1 (ty τ y) s2) : Ev M (tOp (rEqD K) ta tb) σ Z H s (ty yBool (decide (x = y))) s2 :=
  ev_eqG (E.eqv x y) (E.gd x) (E.gd y) (Nat.le_trans (E.dep x) hn) (Nat.le_trans (E.dep y) hn) ha hb
theorem ev_neD (E : EqD K τ d n) (hn : n ≤ 64) (ha : Ev M ta σ Z H s (ty τ x) s1) (hb : Ev M tb σ Z H s1 (ty τ y) s2) : Ev M (tOp (rNeD K) ta tb) σ Z H s (ty yBool (!decide (x = y))) s2 :=
  ev_neG (E.eqv x y) (E.gd x) (E.gd y) (Nat.le_trans (E.dep x) hn) (Nat.le_trans (E.dep y) hn) ha hb
theorem depL (E : EqD K τ d n) (hn : n + 1 ≤ 64) : (PyData.list (xs.map d)).depth ≤ 64 := by have := E.deps xs; simp only [PyData.depth]; omega
theorem ev_eqL (E : EqD K τ d n) (hn : n + 1 ≤ 64) (ha : Ev M ta σ Z H s (li τ xs) s1) (hb : Ev M tb σ Z H s1 (li τ ys) s2) : Ev M (tOp (rEqD K) ta tb) σ Z H s (ty yBool (decide (xs = ys))) s2 :=
  ev_eqG (by simp only [PyData.eqv]; exact E.eqvs xs ys) (E.gdl xs) (E.gdl ys) (depL E hn) (depL E hn) ha hb
theorem ev_neL (E : EqD K τ d n) (hn : n + 1 ≤ 64) (ha : Ev M ta σ Z H s (li τ xs) s1) (hb : Ev M tb σ Z H s1 (li τ ys) s2) : Ev M (tOp (rNeD K) ta tb) σ Z H s (ty yBool (!decide (xs = ys))) s2 :=
  ev_neG (by simp only [PyData.eqv]; exact E.eqvs xs ys) (E.gdl xs) (E.gdl ys) (depL E hn) (depL E hn) ha hb
end
theorem en_cast {α : Type} {τ : Ty α} {xs ys : List α} (h : EvN M te σ Z H s τ xs s1) (e : xs = ys) : EvN M te σ Z H s τ ys s1 := e ▸ h
theorem ev_chain {i j k : Int} {p r : Int → Int → Bool} (ha : Ev M ta σ Z H s (ty yInt i) s1) (hb : Ev M tb σ Z H s1 (ty yInt j) s1) (hc : Ev M tc σ Z H s1 (ty yInt k) s1) : Ev M (tChain (rI0 fun i j => .bl (p i j)) (rI0 fun i j => .bl (r i j)) ta tb tc) σ Z H s (ty yBool (p i j && r j k)) s1 :=
  fun Z1 H1 a b c d Q q => ha Z1 H1 a b c d _ fun v Z2 H2 e m rv => hb Z2 H2 (a.trans e.z) (b.trans e.h) e.s m _ fun w Z3 H3 e2 m2 rw => ⟨i, j, rv, rw, p i j, rfl, by
    have e3 := e.trans e2
    cases hp : p i j with
    | true => rw [if_pos rfl]; exact hc Z3 H3 (a.trans e3.z) (b.trans e3.h) e3.s m2 _ fun u Z4 H4 e4 m4 ru => ⟨j, k, rw, ru, q _ Z4 H4 (e3.trans e4) m4 (by rw [hp]; rfl)⟩
    | false => rw [if_neg Bool.false_ne_true]; exact q _ Z3 H3 e3 m2 (by rw [hp]; rfl)⟩
theorem ev_chainO {i j k : Int} {b : Bool} {o : Option Bool} {p r : Int → Int → Bool} (ha : Ev M ta σ Z H s (ty yInt i) s1) (hb : Ev M tb σ Z H s1 (ty yInt j) s1) (hc : p i j = true → Ev M tc σ Z H s1 (ty yInt k) s1) : Ev M (tChain (rI0 fun i j => .bl (p i j)) (rI0 fun i j => .bl (r i j)) ta tb tc) σ Z H s (ty yBool (p i j && r j k)) s1 :=
  fun Z1 H1 a b c d Q q => ha Z1 H1 a b c d _ fun v Z2 H2 e m rv => hb Z2 H2 (a.trans e.z) (b.trans e.h) e.s m _ fun w Z3 H3 e2 m2 rw => ⟨i, j, rv, rw, p i j, rfl, by
    have e3 := e.trans e2
    cases hp : p i j with
    | true => rw [if_pos rfl]; exact hc hp Z3 H3 (a.trans e3.z) (b.trans e3.h) e3.s m2 _ fun u Z4 H4 e4 m4 ru => ⟨j, k, rw, ru, q _ Z4 H4 (e3.trans e4) m4 (by rw [hp]; rfl)⟩
    | false => rw [if_neg Bool.false_ne_true]; exact q _ Z3 H3 e3 m2 (by rw [hp]; rfl)⟩
section
variable {a b : Bool} {o o' : Option Bool} {tA tB' tt : TT}
theorem ev_andO (ha : Ev M ta σ Z H s (ty yBool a) s1) (hb : a = true → ∀ y, o = some y → Ev M tb σ Z H s1 (ty yBool y) s1) (h : (if a = true then o else some false) = some b) : Ev M (tAndV ta tb) σ Z H s (ty yBool b) s1 :=
  ev_and (o := o.map fun y => (y, s1)) ha (fun e y s' hy => by obtain ⟨z, hz, e2⟩ := Option.map_eq_some_iff.mp hy; cases e2; exact hb e _ hz) (by
    cases a with
    | true => rw [if_pos rfl] at h ⊢; rw [h]; rfl
    | false => rw [if_neg Bool.false_ne_true] at h ⊢; rw [← Option.some.inj h])
theorem ev_orO (ha : Ev M ta σ Z H s (ty yBool a) s1) (hb : a = false → ∀ y, o = some y → Ev M tb σ Z H s1 (ty yBool y) s1) (h : (if a = true then some true else o) = some b) : Ev M (tOrV ta tb) σ Z H s (ty yBool b) s1 :=
  ev_or (o := o.map fun y => (y, s1)) ha (fun e y s' hy => by obtain ⟨z, hz, e2⟩ := Option.map_eq_some_iff.mp hy; cases e2; exact hb e _ hz) (by
    cases a with
    | false => rw [if_neg Bool.false_ne_true] at h ⊢; rw [h]; rfl
    | true => rw [if_pos rfl] at h ⊢; rw [← Option.some.inj h])
theorem et_andO (ha : EvT M tA σ Z H s a s1) (hb : a = true → ∀ y, o = some y → EvT M tB' σ Z H s1 y s1) (h : (if a = true then o else some false) = some b) : EvT M (tAnd tA tB') σ Z H s b s1 :=
  et_and (o := o.map fun y => (y, s1)) ha (fun e y s' hy => by obtain ⟨z, hz, e2⟩ := Option.map_eq_some_iff.mp hy; cases e2; exact hb e _ hz) (by
    cases a with
    | true => rw [if_pos rfl] at h ⊢; rw [h]; rfl
    | false => rw [if_neg Bool.false_ne_true] at h ⊢; rw [← Option.some.inj h])
theorem et_orO (ha : EvT M tA σ Z H s a s1) (hb : a = false → ∀ y, o = some y → EvT M tB' σ Z H s1 y s1) (h : (if a = true then some true else o) = some b) : EvT M (tOr tA tB') σ Z H s b s1 :=
  et_or (o := o.map fun y => (y, s1)) ha (fun e y s' hy => by obtain ⟨z, hz, e2⟩ := Option.map_eq_some_iff.mp hy; cases e2; exact hb e _ hz) (by
    cases a with
    | false => rw [if_neg Bool.false_ne_true] at h ⊢; rw [h]; rfl
    | true => rw [if_pos rfl] at h ⊢; rw [← Option.some.inj h])
end
/-! ### fields, calls -/
/-- the attribute f of things of this kind -/
def FldOf {α β : Type} (τ : Ty α) (C : Addr) (f : Str) (υ : Ty β) (pr : α → β) : Prop := ∀ Z v x, τ.r Z v x → ∃ a dx fs w, v = .ref a ∧ Z a = some (.ins C dx fs) ∧ fs.lookup f = some w ∧ υ.r Z w (pr x)
theorem ev_fld {α β : Type} {τ : Ty α} {υ : Ty β} {C : Addr} {f : Str} {pr : α → β} {x : α} (F : FldOf τ C f υ pr) (c : Cls K C) (n : NoAttr K C f) (ha : Ev M ta σ Z H s (ty τ x) s1) : Ev M (tFld K ta f) σ Z H s (ty υ (pr x)) s1 :=
  fun Z1 H1 a b c' d Q q => ha Z1 H1 a b c' d _ fun v Z2 H2 e m rv => by
    obtain ⟨p, dx, fs, w, rfl, hp, l, rw'⟩ := F _ _ _ rv
    exact ⟨p, C, dx, fs, w, rfl, e.s _ _ hp, c, n, l, q _ _ _ e m rw'⟩
/-- things of this kind are instances of the class at C without an own attribute m -/
def ObjOf {α : Type} (τ : Ty α) (C : Addr) (m : Str) : Prop := ∀ Z v x, τ.r Z v x → ∃ a dx fs, v = .ref a ∧ Z a = some (.ins C dx fs) ∧ fs.lookup m = none
/-- what a promise gives for arguments of which Rs is true -/
def CallS (M : Mu μ) (sp : Sp) (E : XK) (Rs : Ra M.fp) (s : μ) (R : Rr M.fp) (s' : μ) : Prop :=
  ∀ Z H vs, Same Z H → M.m s Z H → Rs.r Z H vs → ∀ Q : VK, (∀ v Z2 H2, Step M.fp Z H Z2 H2 → M.m s' Z2 H2 → R.r Z2 H2 v → Q v H2) → sp vs H Q E
theorem ev_call {sp : Sp} {E : XK} {Rs : Ra M.fp} {R : Rr M.fp} (C : CallS M sp E Rs s1 R s2) (ha : EvA M t σ Z H s Rs s1) : Ev M (tCall sp [] E t) σ Z H s R s2 :=
  fun Z1 H1 a b c d Q q => ha Z1 H1 a b c d _ fun vs Z2 H2 e m rs => by
    rw [List.append_nil]
    exact C Z2 H2 vs e.s m rs Q fun v Z3 H3 e2 m2 rv => q v Z3 H3 (e.trans e2) m2 rv
theorem ev_meth {α : Type} {τ : Ty α} {x : α} {C' : Addr} {m : Str} {sp : Sp} {E : XK} {Rs : Ra M.fp} {R : Rr M.fp} (O : ObjOf τ C' m) (C : CallS M sp E (rac (ty τ x) Rs) s2 R s3) (hx : Ev M ta σ Z H s (ty τ x) s1) (ha : EvA M t σ Z H s1 Rs s2) : Ev M (tMeth C' m sp [] E ta t) σ Z H s R s3 :=
  fun Z1 H1 a b c d Q q => hx Z1 H1 a b c d _ fun v Z2 H2 e mm rv => by
    obtain ⟨p, dx, fs, rfl, hp, l⟩ := O _ _ _ rv
    refine ⟨p, dx, fs, rfl, e.s _ _ hp, l, ha Z2 H2 (a.trans e.z) (b.trans e.h) e.s mm _ fun vs Z3 H3 e2 m2 rs => ?_⟩
    rw [List.append_nil]
    exact C Z3 H3 _ e2.s m2 ⟨_, vs, rfl, τ.mono e2.z rv, rs⟩ Q fun v Z4 H4 e3 m3 rv' => q v Z4 H4 ((e.trans e2).trans e3) m3 rv'
theorem ev_meth0 {α : Type} {τ : Ty α} {x : α} {C' : Addr} {m : Str} {sp : Sp} {E : XK} {R : Rr M.fp} (O : ObjOf τ C' m) (C : CallS M sp E (rac (ty τ x) ra0) s1 R s2) (hx : Ev M ta σ Z H s (ty τ x) s1) : Ev M (tMeth C' m sp [] E ta tNil) σ Z H s R s2 := ev_meth O C hx eva_nil
theorem ev_prop {α : Type} {τ : Ty α} {x : α} {C' : Addr} {m : Str} {sp : Sp} {E : XK} {R : Rr M.fp} (O : ObjOf τ C' m) (C : CallS M sp E (rac (ty τ x) ra0) s1 R s2) (hx : Ev M ta σ Z H s (ty τ x) s1) : Ev M (tProp C' sp [] E ta) σ Z H s R s2 :=
  fun Z1 H1 a b c d Q q => hx Z1 H1 a b c d _ fun v Z2 H2 e mm rv => by
    obtain ⟨p, dx, fs, rfl, hp, l⟩ := O _ _ _ rv
    exact ⟨p, dx, fs, rfl, e.s _ _ hp, C Z2 H2 _ e.s mm ⟨_, [], rfl, rv, rfl⟩ Q fun v Z4 H4 e3 m3 rv' => q v Z4 H4 (e.trans e3) m3 rv'⟩
/-- what the __init__ of the class at C makes of a new instance: a thing of which R is true -/
def InitS (M : Mu μ) (C : Addr) (sp : Sp) (E : XK) (Rs : Ra M.fp) (s : μ) (R : Rr M.fp) (s' : μ) : Prop :=
  ∀ Z H vs x dx, Same Z H → M.m s Z H → Rs.r Z H vs → H x = some (.ins C dx []) → Z x = none → x ∉ M.fp → ∀ Q : VK, (∀ Z2 H2 o, Step (x :: M.fp) Z H Z2 H2 → M.m s' Z2 H2 → H2 x = some o → R.r (upd Z2 x o) H2 (.ref x) → Q .non H2) → sp (.ref x :: vs) H Q E
theorem Step.dict {Z H : Hp} {x dx C : Addr} (sz : Same Z H) (hx : H x = none) (hd : H dx = none) (ne : dx ≠ x) : Step [] Z H Z (upd (upd H dx (.own x)) x (.ins C dx [])) :=
  (Step.own sz hd).trans (Step.own (Step.own sz hd).s (by rw [upd_ne ne.symm]; exact hx))
theorem Step.freeze {S : List Addr} {Z H Z1 H1 : Hp} {x : Addr} {o : HO} (g : Step (x :: S) Z H Z1 H1) (hx : H x = none) (h1 : H1 x = some o) (hz : Z1 x = none) : Step S Z H (upd Z1 x o) H1 := by
  have g' : Step S Z H Z1 H1 := g.weak fun a h => by
    rcases List.mem_cons.mp h with e | h
    · exact .inr (e ▸ hx)
    · exact .inl h
  refine ⟨g'.z.trans (same_upd hz), fun a u e => ?_, g'.h, fun a h z => ?_, g'.al⟩
  · by_cases q : a = x
    · subst q; rw [upd_same] at e; rw [← Option.some.inj e]; exact h1
    · rw [upd_ne q] at e; exact g'.s a u e
  · rw [upd_ne (ne_of_some h hx)]; exact g'.n a h z
theorem ev_make {C : Addr} {sp : Sp} {E : XK} {Rs : Ra M.fp} {R : Rr M.fp} (I : InitS M C sp E Rs s1 R s2) (ha : EvA M t σ Z H s Rs s1) : Ev M (tMake C sp [] E t) σ Z H s R s2 :=
  fun Z1 H1 a b c d Q q => ha Z1 H1 a b c d _ fun vs Z2 H2 e m rs x dx hx hd ne => by
    rw [List.append_nil]
    have st := Step.dict (C := C) e.s hx hd ne
    have nf : x ∉ M.fp := fun h => (M.al m x h).1 hx
    refine I Z2 _ vs x dx st.s (M.pure st m) (Rs.st st.pure rs) upd_same (same_none e.s hx) nf _ fun Z3 H3 o e2 m2 ho rv => ⟨rfl, ?_⟩
    have hz3 : Z3 x = none := e2.n x (by rw [upd_same]; exact fun z => nomatch z) (same_none e.s hx)
    have e3 : Step M.fp Z2 H2 (upd Z3 x o) H3 := ((st.pure (S := x :: M.fp)).trans e2).freeze hx ho hz3
    refine q _ _ _ (e.trans e3) (M.loc (same_upd hz3) (fun _ _ _ e => e) (fun a ha _ z => ?_) m2) rv
    rw [upd_ne (fun q => nf (by rw [← q]; exact ha))]
    exact z
theorem ev_makeK {C : Addr} {n k : Nat} {sp : Sp} {E : XK} {Rs Rk Rs' : Ra M.fp} {R : Rr M.fp} {gV : List V → List V → List V} {tk : TA} (I : InitS M C sp E Rs' s2 R s3) (ha : EvA M t σ Z H s Rs s1) (hk : EvA M tk σ Z H s1 Rk s2)
    (hg : ∀ Z H vs zs x, Rs.r Z H vs → Rk.r Z H zs → vs.length = n ∧ zs.length = k ∧ ∃ ws, gV (.ref x :: vs) zs = .ref x :: ws ∧ Rs'.r Z H ws) : Ev M (tMakeK C n k sp gV E t tk) σ Z H s R s3 :=
  fun Z1 H1 a b c d Q q => ha Z1 H1 a b c d _ fun vs Z2 H2 e m rs => hk Z2 H2 (a.trans e.z) (b.trans e.h) e.s m _ fun zs Z3 H3 e1 m1 rk => by
    have rs3 := Rs.st e1 rs
    obtain ⟨l1, l2, _⟩ := hg Z3 H3 vs zs 0 rs3 rk
    refine ⟨l1, l2, fun x dx hx hd ne => ?_⟩
    obtain ⟨_, _, ws, eg, rw'⟩ := hg Z3 H3 vs zs x rs3 rk
    rw [eg]
    have st := Step.dict (C := C) e1.s hx hd ne
    have nf : x ∉ M.fp := fun h => (M.al m1 x h).1 hx
    refine I Z3 _ ws x dx st.s (M.pure st m1) (Rs'.st st.pure rw') upd_same (same_none e1.s hx) nf _ fun Z4 H4 o e2 m2 ho rv => ⟨rfl, ?_⟩
    have hz3 : Z4 x = none := e2.n x (by rw [upd_same]; exact fun z => nomatch z) (same_none e1.s hx)
    have e3 : Step M.fp Z3 H3 (upd Z4 x o) H4 := ((st.pure (S := x :: M.fp)).trans e2).freeze hx ho hz3
    refine q _ _ _ ((e.trans e1).trans e3) (M.loc (same_upd hz3) (fun _ _ _ e => e) (fun a ha _ z => ?_) m2) rv
    rw [upd_ne (fun q => nf (by rw [← q]; exact ha))]
    exact z
/-! ### what is walked -/
/-- the things xs, of the kind τ, one after the other; what stands at F may change meanwhile -/
def WalkT {α : Type} (X : Hp → Hp → Prop) (J : It) (Z H : Hp) (τ : Ty α) (xs : List α) : Prop := xs.length ≤ sizeLine ∧ ∃ G Y, Walk J xs.length G Y ∧ (∀ Z' H', Same Z Z' → Same Z' H' → X H H' → G H') ∧
  ∀ i Z' H' v H'', i < xs.length → Same Z Z' → Same Z' H' → G H' → Y i H' v H'' → ∃ Z'' x, xs[i]? = some x ∧ Step [] Z' H' Z'' H'' ∧ τ.r Z'' v x
def EvI {α : Type} (M : Mu μ) (X : Hp → Hp → Prop) (wi : TI) (σ : L2.St) (Z H : Hp) (s : μ) (τ : Ty α) (xs : List α) (s' : μ) : Prop :=
  ∀ Z1 H1, Same Z Z1 → SameX M.fp H H1 → Same Z1 H1 → M.m s Z1 H1 → ∀ R : It → Hp → Prop, (∀ J Z2 H2, Step M.fp Z1 H1 Z2 H2 → M.m s' Z2 H2 → WalkT X J Z2 H2 τ xs → R J H2) → wi σ H1 R
section
variable {α β : Type} {τ : Ty α} {υ : Ty β} {xs : List α} {X : Hp → Hp → Prop}
theorem walk_at {J : It} {vs : List V} {G : Hp → Prop} (w : Walk J vs.length G (YAt vs)) {Z H : Hp} (hG : ∀ Z' H', Same Z Z' → Same Z' H' → X H H' → G H') (t : All (τ.r Z) vs xs) (l : xs.length ≤ sizeLine) : WalkT X J Z H τ xs := by
  refine ⟨l, G, YAt vs, by rw [← t.len]; exact w, hG, fun i Z' H' v H'' hi z sz _ y => ?_⟩
  obtain ⟨e, y⟩ := y
  subst e
  obtain ⟨x, ex, rx⟩ := t.get y
  exact ⟨Z', x, ex, Step.refl sz, τ.mono z rx⟩
theorem ei_list (ha : Ev M ta σ Z H s (ty (yList τ) xs) s1) : EvI M X (iList K ta) σ Z H s τ xs s1 :=
  fun Z1 H1 a b c d R q => ha Z1 H1 a b c d _ fun v Z2 H2 e m ⟨p, vs, ev, h, t, l⟩ => by
    subst ev
    exact ⟨p, rfl, ⟨vs, SqL.of (e.s _ _ h)⟩, q _ Z2 H2 e m (walk_at walk_list (fun Z' H' z sz _ => SqL.of (sz _ _ (z _ _ h))) t l)⟩
theorem ei_own (ha : Ev M ta σ Z H s (li τ xs) s1) : EvI M (SameX M.fp) (iList K ta) σ Z H s τ xs s1 :=
  fun Z1 H1 a b c d R q => ha Z1 H1 a b c d _ fun v Z2 H2 e m ⟨p, vs, ev, h, t, l⟩ => by
    subst ev
    refine ⟨p, rfl, ⟨vs, SqL.of (h.get e.s)⟩, q _ Z2 H2 e m (walk_at walk_list (fun Z' H' z sz x => ?_) t l)⟩
    rcases h with h | h
    · exact SqL.of (sz _ _ (z _ _ h))
    · exact SqL.of (x _ _ h.2 h.1)
theorem ei_tup (ha : Ev M ta σ Z H s (ty (yTup K τ) xs) s1) : EvI M X (iTup K ta) σ Z H s τ xs s1 :=
  fun Z1 H1 a b c d R q => ha Z1 H1 a b c d _ fun v Z2 H2 e m ⟨p, vs, ev, h, t, l⟩ => by
    subst ev
    exact ⟨p, rfl, ⟨vs, seqT_same e.s h⟩, q _ Z2 H2 e m (walk_at walk_tup (fun Z' H' z sz _ => seqT_same sz (seqT_same z h)) t l)⟩
def rangeZ (lo hi : Int) : List Int := (List.range (hi - lo).toNat).map fun (i : Nat) => lo + (i : Int)
def RangeOk (lo hi : Int) : Prop := (-(2 ^ 62) ≤ lo ∧ lo < 2 ^ 62) ∧ (-(2 ^ 62) ≤ hi ∧ hi < 2 ^ 62) ∧ hi - lo ≤ 16777216
instance {lo hi : Int} : Decidable (RangeOk lo hi) := inferInstanceAs (Decidable (_ ∧ _ ∧ _))
theorem rangeZ_len (lo hi : Int) : (rangeZ lo hi).length = (hi - lo).toNat := by unfold rangeZ; rw [List.length_map, List.length_range]
theorem walk_rng {lo hi : Int} {Z H : Hp} (l : hi - lo ≤ 16777216) : WalkT X (Itr lo (hi - lo).toNat) Z H yInt (rangeZ lo hi) := by
  refine ⟨by rw [rangeZ_len]; show (hi - lo).toNat ≤ 2 ^ 24; omega, fun _ => True, YFn fun i => .int (lo + i), by rw [rangeZ_len]; exact walk_range, fun _ _ _ _ _ => trivial, fun i Z' H' v H'' hi z sz _ y => ?_⟩
  obtain ⟨e, y⟩ := y
  subst e
  rw [rangeZ_len] at hi
  refine ⟨Z', lo + (i : Int), ?_, Step.refl sz, y⟩
  unfold rangeZ
  rw [List.getElem?_map, List.getElem?_range hi]
  rfl
theorem ei_rng1 {i : Int} (ha : Ev M ta σ Z H s (ty yInt i) s1) (h1 : RangeOk 0 i) : EvI M X (iRng1 (tCons ta tNil)) σ Z H s yInt (rangeZ 0 i) s1 :=
  fun Z1 H1 a b c d R q => eva_cons ha eva_nil Z1 H1 a b c d _ fun vs Z2 H2 e m ⟨v, r, e1, h, e2⟩ => by
    cases e2; cases h
    refine ⟨i, e1, h1.2.1.1, h1.2.1.2, q _ Z2 H2 e m ?_⟩
    have := walk_rng (X := X) (lo := 0) (hi := i) (Z := Z2) (H := H2) h1.2.2
    rw [Int.sub_zero] at this
    exact this
theorem ei_rng2 {i j : Int} (ha : Ev M ta σ Z H s (ty yInt i) s1) (hb : Ev M tb σ Z H s1 (ty yInt j) s2) (h1 : RangeOk i j) : EvI M X (iRng2 (tCons ta (tCons tb tNil))) σ Z H s yInt (rangeZ i j) s2 :=
  fun Z1 H1 a b c d R q => eva_cons ha (eva_cons hb eva_nil) Z1 H1 a b c d _ fun vs Z2 H2 e m ⟨v, r, e1, h, w, r2, e3, h3, e2⟩ => by
    cases e2; cases h; cases h3; cases e3
    exact ⟨i, j, e1, ⟨h1.1.1, h1.1.2, h1.2.1.1, h1.2.1.2⟩, q _ Z2 H2 e m (walk_rng h1.2.2)⟩
/-- pairs that are laid turn by turn -/
theorem walk_pairs {ys : List β} {vs ws : List V} {J : It} {G : Hp → Prop} (n : Nat) (hn : n = min vs.length ws.length) (w : Walk J n G (YPair (fun i => vs[i]?) (fun i => ws[i]?))) {Z H : Hp} (hG : ∀ Z' H', Same Z Z' → Same Z' H' → X H H' → G H') (t : All (τ.r Z) vs xs) (u : All (υ.r Z) ws ys) (l : vs.length ≤ sizeLine) : WalkT X J Z H (yP2 K τ υ) (xs.zip ys) := by
  have ln : (xs.zip ys).length = n := by rw [List.length_zip, ← t.len, ← u.len, hn]
  refine ⟨by rw [ln, hn]; omega, G, _, by rw [ln]; exact w, hG, fun i Z' H' v H'' hi z sz _ y => ?_⟩
  obtain ⟨T, v1, v2, rfl, nT, rfl, g1, g2⟩ := y
  obtain ⟨x1, ex1, rx1⟩ := t.get g1
  obtain ⟨x2, ex2, rx2⟩ := u.get g2
  have st := Step.new (o := .tup [v1, v2]) sz nT
  exact ⟨upd Z' T (.tup [v1, v2]), (x1, x2), by rw [List.getElem?_zip_eq_some]; exact ⟨ex1, ex2⟩, st, T, v1, v2, rfl, sqT_new, τ.mono (z.trans st.z) rx1, υ.mono (z.trans st.z) rx2⟩
def enumZ {α : Type} (xs : List α) : List (Int × α) := (rangeZ 0 (xs.length : Nat)).zip xs
theorem enum_rng (n : Nat) (i : Nat) (h : i < n) : ((rangeZ 0 (n : Nat)).map V.int)[i]? = some (.int (i : Nat)) := by
  unfold rangeZ
  rw [List.getElem?_map, List.getElem?_map, List.getElem?_range (by omega)]
  show some (V.int (0 + (i : Int))) = _
  rw [Int.zero_add]
theorem ei_enum (ha : Ev M ta σ Z H s (ty (yList τ) xs) s1) : EvI M X (iEnum K (tCons ta tNil)) σ Z H s (yP2 K yInt τ) (enumZ xs) s1 :=
  fun Z1 H1 a b c d R q => eva_cons ha eva_nil Z1 H1 a b c d _ fun us Z2 H2 e m ⟨v, r, e1, ⟨p, vs, ev, h, t, l⟩, e2⟩ => by
    cases e2; cases ev; cases e1
    refine ⟨p, vs, rfl, SqL.of (e.s _ _ h), q _ Z2 H2 e m ?_⟩
    have hl : ((rangeZ 0 (xs.length : Nat)).map V.int).length = vs.length := by
      rw [List.length_map, rangeZ_len, t.len]; omega
    refine walk_pairs (vs := (rangeZ 0 (xs.length : Nat)).map V.int) (ws := vs) vs.length (by rw [hl]; omega) (walk_enum.mono (fun _ g => g) fun i H v H' hi _ ⟨T, x, y, h1, h2, h3, h4, h5⟩ => ⟨T, x, y, h1, h2, h3, ?_, h5⟩) (fun Z' H' z sz _ => SqL.of (sz _ _ (z _ _ h))) (All.ofInts _) t (by rw [hl, t.len]; exact l)
    show ((rangeZ 0 (xs.length : Nat)).map V.int)[i]? = some x
    rw [enum_rng _ _ (by rw [← t.len]; exact hi)]
    exact h4
theorem ei_str {x : Str} (ha : Ev M ta σ Z H s (ty yStr x) s1) : EvI M X (iStr ta) σ Z H s yStr (x.cps.toList.map fun c => (⟨#[c]⟩ : Str)) s1 :=
  fun Z1 H1 a b c d R q => ha Z1 H1 a b c d _ fun v Z2 H2 e m rv => by
    refine ⟨x, rv.1, q _ Z2 H2 e m ?_⟩
    have ln : (x.cps.toList.map fun c => (⟨#[c]⟩ : Str)).length = x.cps.size := by rw [List.length_map, Array.length_toList]
    have lz : x.cps.size ≤ sizeLine := of_decide_eq_true (Bool.and_eq_true_iff.mp (show (PyData.strOk x && decide (x.length ≤ sizeLine)) = true from rv.2)).2
    refine ⟨by rw [ln]; exact lz, fun _ => True, _, by rw [ln]; exact walk_str, fun _ _ _ _ _ => trivial, fun i Z' H' v H'' hi z sz _ y => ?_⟩
    obtain ⟨e, c, hc, rfl⟩ := y
    subst e
    have hc' : x.cps.toList[i]? = some c := by rw [Array.getElem?_toList]; exact hc
    refine ⟨Z', ⟨#[c]⟩, by rw [List.getElem?_map, hc']; rfl, Step.refl sz, rfl, ?_⟩
    have ok := rv.2
    unfold okS PyData.strOk at ok ⊢
    rw [Bool.and_eq_true] at ok ⊢
    refine ⟨?_, decide_eq_true (by show (#[c] : Array Nat).size ≤ sizeLine; exact (by decide : 1 ≤ sizeLine))⟩
    have h2 := Array.all_eq_true_iff_forall_mem.mp ok.1 c (Array.mem_of_getElem? hc)
    simpa using h2
end
/-! ### list comprehensions -/
/-- the target stores the value: from the slots σ to σ2 -/
def Tgt (g : TG) (v : V) (σ σ2 : L2.St) (Z : Hp) : Prop := ∀ H, Same Z H → ∀ Q : L2.St → Hp → Prop, Q σ2 H → g v σ H Q
theorem tgt_name {i : Nat} {v : V} {σ : L2.St} {Z : Hp} : Tgt (gName i) v σ (σ.set i (some v)) Z := fun _ _ _ q => q
theorem tgt_p2 {α β : Type} {τ : Ty α} {υ : Ty β} {g1 g2 : TG} {v : V} {x : α × β} {Z : Hp} (h : (yP2 K τ υ).r Z v x) : ∃ v1 v2, τ.r Z v1 x.1 ∧ υ.r Z v2 x.2 ∧ ∀ {σ σ1 σ2 : L2.St}, Tgt g1 v1 σ σ1 Z → Tgt g2 v2 σ1 σ2 Z → Tgt (gTup K 2 (gCons g1 (gCons g2 gNil))) v σ σ2 Z := by
  obtain ⟨a, v1, v2, rfl, t, h1, h2⟩ := h
  exact ⟨v1, v2, h1, h2, fun {σ σ1 σ2} t1 t2 H sz Q q => ⟨a, _, rfl, seqT_same sz t, rfl, v1, _, rfl, t1 H sz _ ⟨v2, _, rfl, t2 H sz _ ⟨rfl, q⟩⟩⟩⟩
theorem tgt_p3 {α β γ : Type} {τ : Ty α} {υ : Ty β} {φ : Ty γ} {g1 g2 g3 : TG} {v : V} {x : α × β × γ} {Z : Hp} (h : (yP3 K τ υ φ).r Z v x) : ∃ v1 v2 v3, τ.r Z v1 x.1 ∧ υ.r Z v2 x.2.1 ∧ φ.r Z v3 x.2.2 ∧ ∀ {σ σ1 σ2 σ3 : L2.St}, Tgt g1 v1 σ σ1 Z → Tgt g2 v2 σ1 σ2 Z → Tgt g3 v3 σ2 σ3 Z → Tgt (gTup K 3 (gCons g1 (gCons g2 (gCons g3 gNil)))) v σ σ3 Z := by
  obtain ⟨a, v1, v2, v3, rfl, t, h1, h2, h3⟩ := h
  exact ⟨v1, v2, v3, h1, h2, h3, fun {σ σ1 σ2 σ3} t1 t2 t3 H sz Q q => ⟨a, _, rfl, seqT_same sz t, rfl, v1, _, rfl, t1 H sz _ ⟨v2, _, rfl, t2 H sz _ ⟨v3, _, rfl, t3 H sz _ ⟨rfl, q⟩⟩⟩⟩⟩
section
variable {α β : Type} {τ : Ty α} {υ : Ty β} {xs : List α} {ys : List β}
/-- the comprehension as a plain walk: none leaves an item out -/
def lcM (g : α → μ → Option (Option β × μ)) : List α → μ → Option (List β × μ)
  | [], s => some ([], s)
  | x :: xs, s => (g x s).bind fun p => (lcM g xs p.2).bind fun q => some (match p.1 with | none => q.1 | some y => y :: q.1, q.2)
theorem en_lc {wi : TI} {g : TG} {tt : TT} {vs : List Nat} (P : μ → Prop) (h : α → μ → Option (Option β × μ)) (hP : P s1) (hi : EvI M (SameX M.fp) wi σ Z H s τ xs s1)
    (hb : ∀ x v Z' H' si p, Same Z Z' → SameX M.fp H H' → τ.r Z' v x → P si → h x si = some p → P p.2 ∧ ∃ σ2, Tgt g v (wipe σ vs) σ2 Z' ∧ wipe σ2 vs = wipe σ vs ∧ ∃ b s', EvT M tt σ2 Z' H' si b s' ∧ (b = true → ∃ y, p.1 = some y ∧ Ev M te σ2 Z' H' s' (ty υ y) p.2) ∧ (b = false → p = (none, s')))
    (hF : lcM h xs s1 = some (ys, s2)) : EvN M (tLc wi g tt te vs) σ Z H s υ ys s2 := by
  intro Z1 H1 a b c d Q q
  refine hi Z1 H1 a b c d _ fun J Z2 H2 e m ⟨hx, G, Y, wk, hG, hY⟩ D hD => ?_
  have zD : Z2 D = none := same_none e.s hD
  have st0 := Step.own (o := .lst []) e.s hD
  refine lc_it wk (fun i H' => ∃ Z' si zs ws r, Step M.fp Z2 H2 Z' H' ∧ Z' D = none ∧ H' D = some (.lst ws) ∧ All (υ.r Z') ws zs ∧ ws.length ≤ i ∧ M.m si Z' H' ∧ P si ∧ lcM h (xs.drop i) si = some (r, s2) ∧ ys = zs ++ r)
    ⟨Z2, s1, [], [], ys, st0.pure, zD, upd_same, .nil, Nat.le_refl _, M.pure st0 m, hP, by rw [List.drop_zero]; exact hF, rfl⟩ ?_ ?_ ?_
  · rintro i H' _ ⟨Z', si, zs, ws, r, st, _⟩
    exact hG Z' H' st.z st.s st.h
  · rintro i v H3 H4 hin ⟨Z', si, zs, ws, r, st, zD', hD', al, lw, m', pi, hF', ey⟩ y
    obtain ⟨Z4, x, ex, st4, rx⟩ := hY i Z' H3 v H4 hin st.z st.s (hG Z' H3 st.z st.s st.h) y
    have hd : xs.drop i = x :: xs.drop (i + 1) := by
      rw [List.drop_eq_getElem_cons hin]
      rw [List.getElem?_eq_getElem hin] at ex
      rw [Option.some.inj ex]
    rw [hd] at hF'
    obtain ⟨p, hp, hF2⟩ := Option.bind_eq_some_iff.mp hF'
    obtain ⟨⟨r2, s2'⟩, hr, hF3⟩ := Option.bind_eq_some_iff.mp hF2
    have e4 := st.trans st4.pure
    have eZ : Same Z Z4 := (a.trans e.z).trans e4.z
    have eH : SameX M.fp H H4 := (b.trans e.h).trans e4.h
    obtain ⟨pp, σ2, tg, wp, bb, s', et, ht, hf⟩ := hb x v Z4 H4 si p eZ eH rx pi hp
    have es2 : s2' = s2 := by injection hF3 with q; exact congrArg Prod.snd q
    subst es2
    refine tg H4 e4.s _ ⟨wp, et Z4 H4 (Same.refl _) SameX.refl e4.s (M.pure st4 m') _ fun Z5 H5 e5 m5 => ?_⟩
    have nD : D ∉ M.fp := fun h => absurd hD (M.al m D h).1
    have hD4 : H4 D = some (.lst ws) := st4.h _ _ List.not_mem_nil hD'
    have hD5 : H5 D = some (.lst ws) := e5.h _ _ nD hD4
    have zD5 : Z5 D = none := e5.n D (some_ne hD4) (st4.n D (some_ne hD') zD')
    have e15 := e4.trans e5
    cases bb with
    | false =>
      rw [if_neg Bool.false_ne_true]
      have ep := hf rfl
      subst ep
      refine ⟨Z5, s', zs, ws, r2, e15, zD5, hD5, al.imp fun _ _ => υ.mono (st4.z.trans e5.z), by omega, m5, pp, hr, ?_⟩
      injection hF3 with q3
      have q4 : r2 = r := congrArg Prod.fst q3
      rw [ey, q4]
    | true =>
      rw [if_pos rfl]
      obtain ⟨y, ep, ev⟩ := ht rfl
      refine ev Z5 H5 e5.z e5.h e5.s m5 _ fun w Z6 H6 e6 m6 rw' => ?_
      have hD6 : H6 D = some (.lst ws) := e6.h _ _ nD hD5
      have zD6 : Z6 D = none := e6.n D (some_ne hD5) zD5
      have s7 := Step.set (o := .lst (ws ++ [w])) e6.s zD6
      refine ⟨ws, hD6, by omega, Z6, p.2, zs ++ [y], ws ++ [w], r2, (e15.trans e6).mine s7 (fun x hx => by rw [List.mem_singleton] at hx; subst hx; exact .inr hD), zD6, upd_same, (al.imp fun _ _ => υ.mono ((st4.z.trans e5.z).trans e6.z)).snoc rw', by rw [List.length_append]; show ws.length + 1 ≤ _; omega, ?_, pp, hr, ?_⟩
      · refine M.loc (Same.refl _) (fun a' ha' o ho => ?_) (fun _ _ _ z => z) m6
        rw [upd_ne (fun q' => nD (by rw [← q']; exact ha'))]
        exact ho
      · injection hF3 with q3
        rw [ep] at q3
        have q4 : y :: r2 = r := congrArg Prod.fst q3
        rw [ey, ← q4, List.append_assoc]
        rfl
  · rintro H' ⟨Z', si, zs, ws, r, st, zD', hD', al, lw, m', _, hF', ey⟩
    rw [List.drop_length] at hF'
    injection hF' with q'
    have e1 : r = [] := (congrArg Prod.fst q').symm
    have e2 : si = s2 := congrArg Prod.snd q'
    subst e1 e2
    rw [List.append_nil] at ey
    subst ey
    exact q D ws Z' H' (e.trans st) m' (same_x e hD) zD' hD' al (by rw [← al.len]; omega)
def mapO (f : α → Option β) : List α → Option (List β)
  | [] => some []
  | x :: r => (f x).bind fun y => (mapO f r).bind fun ys => some (y :: ys)
def fmO (f : α → Option (Option β)) : List α → Option (List β)
  | [] => some []
  | x :: r => (f x).bind fun y => (fmO f r).bind fun ys => some (match y with | none => ys | some z => z :: ys)
def mapS (f : α → μ → Option (β × μ)) : List α → μ → Option (List β × μ)
  | [], s => some ([], s)
  | x :: r, s => (f x s).bind fun p => (mapS f r p.2).bind fun q => some (p.1 :: q.1, q.2)
theorem lcM_fmO (f : α → Option (Option β)) (s : μ) : ∀ xs : List α, lcM (fun x s => (f x).map fun y => (y, s)) xs s = (fmO f xs).map fun ys => (ys, s)
  | [] => rfl
  | x :: r => by
    have ih := lcM_fmO f s r
    unfold lcM fmO
    cases f x with
    | none => rfl
    | some y =>
      simp only [Option.map_some, Option.bind_some, ih]
      cases fmO f r with
      | none => rfl
      | some ys => cases y <;> rfl
theorem lcM_mapS (f : α → μ → Option (β × μ)) : ∀ (xs : List α) (s : μ), lcM (fun x s => (f x s).map fun p => (some p.1, p.2)) xs s = mapS f xs s
  | [], _ => rfl
  | x :: r, s => by
    unfold lcM mapS
    cases f x s with
    | none => rfl
    | some p =>
      simp only [Option.map_some, Option.bind_some, lcM_mapS f r p.2]
theorem fmO_mapO (f : α → Option β) : ∀ xs : List α, fmO (fun x => (f x).map some) xs = mapO f xs
  | [] => rfl
  | x :: r => by
    unfold fmO mapO
    rw [fmO_mapO f r]
    cases f x <;> rfl
theorem fmO_fil (p : α → Bool) (f : α → β) : ∀ xs : List α, fmO (fun x => some (if p x = true then some (f x) else none)) xs = some ((xs.filter p).map f)
  | [] => rfl
  | x :: r => by
    unfold fmO
    rw [fmO_fil p f r]
    cases e : p x with
    | true => rw [List.filter_cons_of_pos e]; rfl
    | false => rw [List.filter_cons_of_neg (by rw [e]; exact Bool.false_ne_true)]; rfl
section
variable {wi : TI} {g : TG} {tt : TT} {vs : List Nat}
/-- stateless, with a test -/
theorem en_fmO (f : α → Option (Option β)) (hi : EvI M (SameX M.fp) wi σ Z H s τ xs s1)
    (hb : ∀ x v Z' H' p, Same Z Z' → SameX M.fp H H' → τ.r Z' v x → f x = some p → ∃ σ2, Tgt g v (wipe σ vs) σ2 Z' ∧ wipe σ2 vs = wipe σ vs ∧ ∃ b, EvT M tt σ2 Z' H' s1 b s1 ∧ (b = true → ∃ y, p = some y ∧ Ev M te σ2 Z' H' s1 (ty υ y) s1) ∧ (b = false → p = none))
    (hF : fmO f xs = some ys) : EvN M (tLc wi g tt te vs) σ Z H s υ ys s1 := by
  refine en_lc (· = s1) (fun x s => (f x).map fun y => (y, s)) rfl hi (fun x v Z' H' si p z h rv e hp => ?_) (by rw [lcM_fmO, hF]; rfl)
  subst e
  obtain ⟨q, hq, rfl⟩ := Option.map_eq_some_iff.mp hp
  obtain ⟨σ2, tg, wp, b, et, h1, h2⟩ := hb x v Z' H' q z h rv hq
  exact ⟨rfl, σ2, tg, wp, b, _, et, h1, fun e => by rw [h2 e]⟩
/-- stateless, partial -/
theorem en_mapO (f : α → Option β) (hi : EvI M (SameX M.fp) wi σ Z H s τ xs s1)
    (hb : ∀ x v Z' H' y, Same Z Z' → SameX M.fp H H' → τ.r Z' v x → f x = some y → ∃ σ2, Tgt g v (wipe σ vs) σ2 Z' ∧ wipe σ2 vs = wipe σ vs ∧ Ev M te σ2 Z' H' s1 (ty υ y) s1)
    (hF : mapO f xs = some ys) : EvN M (tLc wi g tYes te vs) σ Z H s υ ys s1 :=
  en_fmO (fun x => (f x).map some) hi (fun x v Z' H' p z h rv hp => by
    obtain ⟨y, hy, rfl⟩ := Option.map_eq_some_iff.mp hp
    obtain ⟨σ2, tg, wp, ev⟩ := hb x v Z' H' y z h rv hy
    exact ⟨σ2, tg, wp, true, fun Z1 H1 _ _ c d _ k => k Z1 H1 (Step.refl c) d, fun _ => ⟨y, rfl, ev⟩, fun e => nomatch e⟩) (by rw [fmO_mapO, hF])
/-- stateless, total -/
theorem en_map (f : α → β) (hi : EvI M (SameX M.fp) wi σ Z H s τ xs s1)
    (hb : ∀ x v Z' H', Same Z Z' → SameX M.fp H H' → τ.r Z' v x → ∃ σ2, Tgt g v (wipe σ vs) σ2 Z' ∧ wipe σ2 vs = wipe σ vs ∧ Ev M te σ2 Z' H' s1 (ty υ (f x)) s1) : EvN M (tLc wi g tYes te vs) σ Z H s υ (xs.map f) s1 :=
  en_mapO (fun x => some (f x)) hi (fun x v Z' H' y z h rv hy => by cases hy; exact hb x v Z' H' z h rv) (by
    clear hb hi
    induction xs with
    | nil => rfl
    | cons x r ih => unfold mapO; rw [ih]; rfl)
theorem en_fil (p : α → Bool) (f : α → β) (hi : EvI M (SameX M.fp) wi σ Z H s τ xs s1)
    (hb : ∀ x v Z' H', Same Z Z' → SameX M.fp H H' → τ.r Z' v x → ∃ σ2, Tgt g v (wipe σ vs) σ2 Z' ∧ wipe σ2 vs = wipe σ vs ∧ EvT M tt σ2 Z' H' s1 (p x) s1 ∧ Ev M te σ2 Z' H' s1 (ty υ (f x)) s1) : EvN M (tLc wi g tt te vs) σ Z H s υ ((xs.filter p).map f) s1 :=
  en_fmO (fun x => some (if p x = true then some (f x) else none)) hi (fun x v Z' H' q z h rv hq => by
    obtain ⟨σ2, tg, wp, et, ev⟩ := hb x v Z' H' z h rv
    cases hq
    exact ⟨σ2, tg, wp, p x, et, fun e => ⟨f x, if_pos e, ev⟩, fun e => if_neg (by rw [e]; exact Bool.false_ne_true)⟩) (fmO_fil p f xs)
theorem en_mapS (f : α → μ → Option (β × μ)) (hi : EvI M (SameX M.fp) wi σ Z H s τ xs s1)
    (hb : ∀ x v Z' H' si p, Same Z Z' → SameX M.fp H H' → τ.r Z' v x → f x si = some p → ∃ σ2, Tgt g v (wipe σ vs) σ2 Z' ∧ wipe σ2 vs = wipe σ vs ∧ Ev M te σ2 Z' H' si (ty υ p.1) p.2)
    (hF : mapS f xs s1 = some (ys, s2)) : EvN M (tLc wi g tYes te vs) σ Z H s υ ys s2 :=
  en_lc (fun _ => True) (fun x s => (f x s).map fun p => (some p.1, p.2)) trivial hi (fun x v Z' H' si p z h rv _ hp => by
    obtain ⟨q, hq, rfl⟩ := Option.map_eq_some_iff.mp hp
    obtain ⟨σ2, tg, wp, ev⟩ := hb x v Z' H' si q z h rv hq
    exact ⟨trivial, σ2, tg, wp, true, si, fun Z1 H1 _ _ c d _ k => k Z1 H1 (Step.refl c) d, fun _ => ⟨q.1, rfl, ev⟩, fun e => nomatch e⟩) (by rw [lcM_mapS, hF])
end
end
end
end TP

namespace TP
open PySem PySem.Spec PyProof.Rows L2
section
variable {μ : Type} {S : List Addr} {Z0 H0 : Hp} {M : Mu μ} {σ : L2.St} {Z H : Hp} {s s' s1 s2 s3 : μ} {ta tb tc te : TE} {t : TA} {K : PySem.W.Frag} {D : Ends} {u w : TS}
/-! ### a place in a def's body -/
structure Pt (S : List Addr) (Z0 H0 : Hp) (M : Mu μ) (Z H : Hp) (s : μ) : Prop where
  st : Step S Z0 H0 Z H
  m : M.m s Z H
  mine : ∀ a ∈ M.fp, a ∈ S ∨ H0 a = none
theorem Pt.next {Z1 H1 : Hp} (P : Pt S Z0 H0 M Z H s) (e : Step M.fp Z H Z1 H1) (m : M.m s1 Z1 H1) : Pt S Z0 H0 M Z1 H1 s1 := ⟨P.st.mine e P.mine, m, P.mine⟩
theorem Pt.start (M : Mu μ) (sz : Same Z H) (m : M.m s Z H) : Pt M.fp Z H M Z H s := ⟨Step.refl sz, m, fun _ h => .inl h⟩
theorem Pt.start0 (sz : Same Z H) : Pt [] Z H muN Z H () := ⟨Step.refl sz, trivial, fun _ h => (nomatch h)⟩
theorem Pt.sub (P : Pt S Z0 H0 M Z H s) : Same Z H := P.st.s
/-- a list of one's own: it may change -/
structure Own {α : Type} (S : List Addr) (H0 : Hp) (fp : List Addr) (Z H : Hp) (τ : Ty α) (p : Addr) (xs : List α) : Prop where
  ex : ∃ vs, H p = some (.lst vs) ∧ All (τ.r Z) vs xs
  z : Z p = none
  n : p ∉ fp
  mine : H0 p = none
  l : xs.length ≤ sizeLine
section
variable {α : Type} {τ : Ty α} {xs : List α} {p : Addr} {fp : List Addr}
theorem Own.step {F : List Addr} {Z1 H1 : Hp} (o : Own S H0 fp Z H τ p xs) (e : Step F Z H Z1 H1) (n : p ∉ F) : Own S H0 fp Z1 H1 τ p xs := by
  obtain ⟨vs, h, t⟩ := o.ex
  exact ⟨⟨vs, e.h _ _ n h, t.imp fun _ _ => τ.mono e.z⟩, e.n _ (some_ne h) o.z, o.n, o.mine, o.l⟩
theorem Own.next {Z1 H1 : Hp} (o : Own S H0 fp Z H τ p xs) (e : Step fp Z H Z1 H1) : Own S H0 fp Z1 H1 τ p xs := o.step e o.n
theorem Own.ne (o : Own S H0 fp Z H τ p xs) {q : Addr} (h : H q = none) : p ≠ q := by
  obtain ⟨vs, hp, _⟩ := o.ex
  exact ne_of_some (some_ne hp) h
theorem ev_o {i : Nat} (o : Own S H0 M.fp Z H τ p xs) (e : σ[i]? = some (some (.ref p))) : Ev M (tVar i) σ Z H s (li τ xs) s := by
  obtain ⟨vs, h, t⟩ := o.ex
  exact ev_own e h o.n t o.l
/-- it never changes from now on -/
theorem Own.fz (o : Own S H0 M.fp Z H τ p xs) (P : Pt S Z0 H0 M Z H s) : ∃ Z', Pt S Z0 H0 M Z' H s ∧ Same Z Z' ∧ (yList τ).r Z' (.ref p) xs ∧ ∀ q, q ≠ p → Z q = none → Z' q = none := by
  obtain ⟨vs, h, t⟩ := o.ex
  refine ⟨upd Z p (.lst vs), ⟨?_, Mu.fz P.m o.z o.n, P.mine⟩, same_upd o.z, ⟨p, vs, rfl, upd_same, t.imp fun _ _ => τ.mono (same_upd o.z), o.l⟩, fun q n e => by rw [upd_ne n]; exact e⟩
  exact P.st.fz o.mine h o.z
theorem Own.keep {Z1 : Hp} (o : Own S H0 fp Z H τ p xs) (e : Same Z Z1) (n : Z1 p = none) : Own S H0 fp Z1 H τ p xs := by
  obtain ⟨vs, h, t⟩ := o.ex
  exact ⟨⟨vs, h, t.imp fun _ _ => τ.mono e⟩, n, o.n, o.mine, o.l⟩
end
/-- a list of one's own is lent: for a while it does not change -/
theorem Own.bor {α : Type} {τ : Ty α} {xs : List α} {p : Addr} (o : Own S H0 M.fp Z H τ p xs) (sz : Same Z H) (m : M.m s Z H) : ∃ Zb, Same Z Zb ∧ Same Zb H ∧ M.m s Zb H ∧ (yList τ).r Zb (.ref p) xs ∧ ∀ q, q ≠ p → Z q = none → Zb q = none := by
  obtain ⟨vs, h, t⟩ := o.ex
  refine ⟨upd Z p (.lst vs), same_upd o.z, fun a u e => ?_, Mu.fz m o.z o.n, ⟨p, vs, rfl, upd_same, t.imp fun _ _ => τ.mono (same_upd o.z), o.l⟩, fun q n e => by rw [upd_ne n]; exact e⟩
  by_cases q : a = p
  · subst q; rw [upd_same] at e; rw [← Option.some.inj e]; exact h
  · rw [upd_ne q] at e; exact sz a u e
theorem Step.lent {S : List Addr} {Z Zb H Z1 H1 : Hp} (zf : Same Z Zb) (e : Step S Zb H Z1 H1) : Step S Z H Z H1 := ⟨Same.refl _, zf.trans (e.z.trans e.s), e.h, fun _ _ z => z, e.al⟩
/-! ### statements -/
theorem st_nx {nx bk ct : L2.St → Hp → Prop} {rt : VK} (h : nx σ H) : Ends.nx ⟨nx, rt, bk, ct⟩ σ H := h
theorem st_next0 {nx bk ct : L2.St → Hp → Prop} {rt : VK} (h : nx σ H) : tNext ⟨nx, rt, bk, ct⟩ σ H := h
theorem st_next (h : D.nx σ H) : tNext D σ H := h
theorem st_seq (h : u { D with nx := w D } σ H) : tSeq u w D σ H := h
theorem st_set {R : Rr M.fp} {i : Nat} (P : Pt S Z0 H0 M Z H s) (e : Ev M te σ Z H s R s1) (k : ∀ v Z1 H1, Step M.fp Z H Z1 H1 → Pt S Z0 H0 M Z1 H1 s1 → R.r Z1 H1 v → D.nx (σ.set i (some v)) H1) : tAsg te (gName i) D σ H :=
  e Z H (Same.refl _) SameX.refl P.sub P.m _ fun v Z1 H1 e m r => k v Z1 H1 e (P.next e m) r
theorem st_asg {R : Rr M.fp} {g : TG} (P : Pt S Z0 H0 M Z H s) (e : Ev M te σ Z H s R s1) (k : ∀ v Z1 H1, Step M.fp Z H Z1 H1 → Pt S Z0 H0 M Z1 H1 s1 → R.r Z1 H1 v → ∃ σ2, Tgt g v σ σ2 Z1 ∧ D.nx σ2 H1) : tAsg te g D σ H :=
  e Z H (Same.refl _) SameX.refl P.sub P.m _ fun v Z1 H1 e m r => by
    obtain ⟨σ2, tg, q⟩ := k v Z1 H1 e (P.next e m) r
    exact tg H1 e.s _ q
theorem st_ret {R : Rr M.fp} (P : Pt S Z0 H0 M Z H s) (e : Ev M te σ Z H s R s1) (k : ∀ v Z1 H1, Pt S Z0 H0 M Z1 H1 s1 → R.r Z1 H1 v → D.rt v H1) : tRet te D σ H :=
  e Z H (Same.refl _) SameX.refl P.sub P.m _ fun v Z1 H1 e m r => k v Z1 H1 (P.next e m) r
theorem st_expr {R : Rr M.fp} (P : Pt S Z0 H0 M Z H s) (e : Ev M te σ Z H s R s1) (k : ∀ Z1 H1, Step M.fp Z H Z1 H1 → Pt S Z0 H0 M Z1 H1 s1 → D.nx σ H1) : tDrop te D σ H :=
  e Z H (Same.refl _) SameX.refl P.sub P.m _ fun v Z1 H1 e m r => k Z1 H1 e (P.next e m)
theorem st_if {b : Bool} {tt : TT} (P : Pt S Z0 H0 M Z H s) (e : EvT M tt σ Z H s b s1) (ht : b = true → ∀ Z1 H1, Step M.fp Z H Z1 H1 → Pt S Z0 H0 M Z1 H1 s1 → u D σ H1) (hf : b = false → ∀ Z1 H1, Step M.fp Z H Z1 H1 → Pt S Z0 H0 M Z1 H1 s1 → w D σ H1) : tIfS tt u w D σ H :=
  e Z H (Same.refl _) SameX.refl P.sub P.m _ fun Z1 H1 e' m => by
    cases b with
    | true => rw [if_pos rfl]; exact ht rfl Z1 H1 e' (P.next e' m)
    | false => rw [if_neg Bool.false_ne_true]; exact hf rfl Z1 H1 e' (P.next e' m)
theorem st_ifB {b : Bool} {tt : TT} {Zb : Hp} (bk : M.Back) (P : Pt S Z0 H0 M Z H s) (zf : Same Z Zb) (sb : Same Zb H) (mb : M.m s Zb H) (e : EvT M tt σ Zb H s b s1) (ht : b = true → ∀ Z1 H1, Step M.fp Z H Z1 H1 → Pt S Z0 H0 M Z1 H1 s1 → u D σ H1) (hf : b = false → ∀ Z1 H1, Step M.fp Z H Z1 H1 → Pt S Z0 H0 M Z1 H1 s1 → w D σ H1) : tIfS tt u w D σ H :=
  e Zb H (Same.refl _) SameX.refl sb mb _ fun Z1 H1 e' m => by
    have e2 := Step.lent zf e'
    have m2 := bk (zf.trans e'.z) P.m m
    cases b with
    | true => rw [if_pos rfl]; exact ht rfl Z H1 e2 (P.next e2 m2)
    | false => rw [if_neg Bool.false_ne_true]; exact hf rfl Z H1 e2 (P.next e2 m2)
theorem st_aug {i : Nat} {a b : Int} {v : V} {f : Int → Int → Int} (P : Pt S Z0 H0 M Z H s) (hσ : σ[i]? = some (some v)) (hv : v = .int a) (e : Ev M te σ Z H s (ty yInt b) s1) (k : ∀ v Z1 H1, Step M.fp Z H Z1 H1 → Pt S Z0 H0 M Z1 H1 s1 → yInt.r Z1 v (f a b) → D.nx (σ.set i (some v)) H1) : tAug i te (ipI f) D σ H :=
  ⟨v, hσ, e Z H (Same.refl _) SameX.refl P.sub P.m _ fun v' Z1 H1 e m r => ⟨a, b, hv, r, k _ Z1 H1 e (P.next e m) rfl⟩⟩
section
variable {α β : Type} {τ : Ty α} {υ : Ty β} {xs ys : List α} {p : Addr} {x : α}
/-- a new list of one's own -/
theorem st_setN {i : Nat} (P : Pt S Z0 H0 M Z H s) (e : EvN M te σ Z H s τ xs s1) (k : ∀ p Z1 H1, Step M.fp Z H Z1 H1 → Pt S Z0 H0 M Z1 H1 s1 → H p = none → Own S H0 M.fp Z1 H1 τ p xs → D.nx (σ.set i (some (.ref p))) H1) : tAsg te (gName i) D σ H :=
  e Z H (Same.refl _) SameX.refl P.sub P.m _ fun p vs Z1 H1 e m hp zp h1 t l => k p Z1 H1 e (P.next e m) hp ⟨⟨vs, h1, t⟩, zp, fun hf => (M.al P.m p hf).1 hp, same_x P.st hp, l⟩
theorem Pt.set {o : HO} (P : Pt S Z0 H0 M Z H s) (hz : Z p = none) (n : p ∉ M.fp) (mine : p ∈ S ∨ H0 p = none) : Pt S Z0 H0 M Z (upd H p o) s := by
  refine ⟨P.st.mine (Step.set P.sub hz) fun a h => by rw [List.mem_singleton] at h; rw [h]; exact mine, M.loc (Same.refl _) (fun a ha u e => ?_) (fun _ _ _ z => z) P.m, P.mine⟩
  rw [upd_ne (fun q => n (by rw [← q]; exact ha))]
  exact e
theorem step2 {F : List Addr} {Z1 H1 : Hp} {o : HO} (e : Step F Z H Z1 H1) (hz : Z1 p = none) : Step (p :: F) Z H Z1 (upd H1 p o) :=
  (e.weak fun _ h => .inl (List.mem_cons_of_mem _ h)).mine (Step.set e.s hz) fun a h => by rw [List.mem_singleton] at h; rw [h]; exact .inl List.mem_cons_self
/-- xs.append(x) -/
theorem st_append {i : Nat} (P : Pt S Z0 H0 M Z H s) (o : Own S H0 M.fp Z H τ p xs) (hσ : σ[i]? = some (some (.ref p))) (e : Ev M te σ Z H s (ty τ x) s1) (l : xs.length < sizeLine)
    (k : ∀ Z1 H1, Step (p :: M.fp) Z H Z1 H1 → Pt S Z0 H0 M Z1 H1 s1 → Own S H0 M.fp Z1 H1 τ p (xs ++ [x]) → D.nx σ H1) : tDrop (tBM K "list" rAppend (tVar i) (tCons te tNil)) D σ H := by
  obtain ⟨vs, h, t⟩ := o.ex
  refine ⟨.ref p, hσ, .inl ⟨rfl, _, .inl (.inl h)⟩, e Z H (Same.refl _) SameX.refl P.sub P.m _ fun v Z1 H1 e m r => ?_⟩
  have o1 := o.next e
  have P1 := P.next e m
  refine ⟨p, vs, v, rfl, rfl, e.h _ _ o.n h, by rw [t.len]; exact l, ?_⟩
  exact k _ _ (step2 e o1.z) (P1.set o1.z o.n (.inr o.mine)) ⟨⟨_, upd_same, (t.imp fun _ _ => τ.mono e.z).snoc r⟩, o1.z, o.n, o.mine, by rw [List.length_append]; show xs.length + 1 ≤ _; omega⟩
/-- xs.extend(ys) -/
theorem st_extend {i : Nat} (P : Pt S Z0 H0 M Z H s) (o : Own S H0 M.fp Z H τ p xs) (hσ : σ[i]? = some (some (.ref p))) (e : Ev M te σ Z H s (ty (yList τ) ys) s1) (l : xs.length + ys.length ≤ sizeLine)
    (k : ∀ Z1 H1, Step (p :: M.fp) Z H Z1 H1 → Pt S Z0 H0 M Z1 H1 s1 → Own S H0 M.fp Z1 H1 τ p (xs ++ ys) → D.nx σ H1) : tDrop (tBM K "list" rExtend (tVar i) (tCons te tNil)) D σ H := by
  obtain ⟨vs, h, t⟩ := o.ex
  refine ⟨.ref p, hσ, .inl ⟨rfl, _, .inl (.inl h)⟩, e Z H (Same.refl _) SameX.refl P.sub P.m _ fun v Z1 H1 e m ⟨q, ws, ev, hq, t2, _⟩ => ?_⟩
  subst ev
  have o1 := o.next e
  have P1 := P.next e m
  refine ⟨p, q, vs, ws, rfl, rfl, e.h _ _ o.n h, e.s _ _ hq, by rw [t.len, t2.len]; exact l, ?_⟩
  exact k _ _ (step2 e o1.z) (P1.set o1.z o.n (.inr o.mine)) ⟨⟨_, upd_same, (t.imp fun _ _ => τ.mono e.z).app t2⟩, o1.z, o.n, o.mine, by rw [List.length_append]; exact l⟩
/-- xs[i] = x -/
theorem st_setitem {i : Nat} {j : Int} {n : Nat} {tj : TE} (P : Pt S Z0 H0 M Z H s) (o : Own S H0 M.fp Z H τ p xs) (hσ : σ[i]? = some (some (.ref p))) (e : Ev M te σ Z H s (ty τ x) s1) (ej : ∀ Z1 H1, Step M.fp Z H Z1 H1 → Ev M tj σ Z1 H1 s1 (ty yInt j) s2) (hj : ixN xs.length j = some n)
    (k : ∀ Z1 H1, Step (p :: M.fp) Z H Z1 H1 → Pt S Z0 H0 M Z1 H1 s2 → Own S H0 M.fp Z1 H1 τ p (xs.set n x) → D.nx σ H1) : tAsg te (gSub (tVar i) tj rSetL) D σ H := by
  obtain ⟨vs, h, t⟩ := o.ex
  refine e Z H (Same.refl _) SameX.refl P.sub P.m _ fun v Z1 H1 e m r => ⟨.ref p, hσ, ej Z1 H1 e Z1 H1 (Same.refl _) SameX.refl e.s m _ fun v2 Z2 H2 e2 m2 r2 => ?_⟩
  have o1 := (o.next e).next e2
  have P1 := (P.next e m).next e2 m2
  refine ⟨p, vs, j, n, rfl, r2, e2.h _ _ o.n (e.h _ _ o.n h), by rw [t.len]; exact hj, ?_⟩
  exact k _ _ (step2 (e.trans e2) o1.z) (P1.set o1.z o.n (.inr o.mine)) ⟨⟨_, upd_same, (t.imp fun _ _ => τ.mono (e.trans e2).z).set (τ.mono e2.z r) n⟩, o1.z, o.n, o.mine, by rw [List.length_set]; exact o.l⟩
end
/-! ### loops -/
inductive Flow (ρ β : Type)
  | go (b : β) | brk (b : β) | ret (r : ρ)
def forF {α β : Type} (f : α → β → Option β) : List α → β → Option β
  | [], b => some b
  | x :: r, b => (f x b).bind fun b' => forF f r b'
def Flow.nxt {ρ β : Type} (k : β → Option (Flow ρ β)) : Flow ρ β → Option (Flow ρ β)
  | .go b => k b
  | .brk b => some (.go b)
  | .ret y => some (.ret y)
def Flow.thn {ρ β γ : Type} (k : β → Option γ) (g : ρ → Option γ) : Flow ρ β → Option γ
  | .go b => k b
  | .brk b => k b
  | .ret y => g y
def forS {ρ α β : Type} (f : α → β → Option (Flow ρ β)) : List α → β → Option (Flow ρ β)
  | [], b => some (.go b)
  | x :: r, b => (f x b).bind (Flow.nxt (forS f r))
def whileS {ρ β : Type} (f : β → Option (Flow ρ β)) : Nat → β → Option (Flow ρ β)
  | 0, _ => none
  | n + 1, b => (f b).bind (Flow.nxt (whileS f n))
section
variable {ρ α β γ : Type} {k : β → Option (Flow ρ β)} {f : α → β → Option (Flow ρ β)} {f' : α → β → Option β} {x : α} {r : List α} {b : β} {y : ρ} {q : Flow ρ β}
theorem nxt_go (h : Flow.nxt k (.go b) = some q) : k b = some q := h
theorem nxt_brk (h : Flow.nxt k (.brk b) = some q) : q = .go b := (Option.some.inj h).symm
theorem nxt_ret (h : Flow.nxt k (.ret y) = some q) : q = .ret y := (Option.some.inj h).symm
theorem go_inv {k : β → Option γ} {g : ρ → Option γ} {z : γ} (h : Flow.thn k g (.go b) = some z) : k b = some z := h
theorem ret_inv {k : β → Option γ} {g : ρ → Option γ} {z : γ} (h : Flow.thn k g (.ret y) = some z) : g y = some z := h
theorem forS_cons (h : forS f (x :: r) b = some q) : (f x b).bind (Flow.nxt (forS f r)) = some q := h
theorem forS_nil (h : forS f [] b = some q) : q = .go b := (Option.some.inj h).symm
theorem forF_cons {c : β} (h : forF f' (x :: r) b = some c) : (f' x b).bind (fun b' => forF f' r b') = some c := h
theorem forF_nil {c : β} (h : forF f' [] b = some c) : c = b := (Option.some.inj h).symm
end
section
variable {α β : Type} {τ : Ty α} {xs : List α}
/-- what a turn is to reach -/
def LoopW (I : List α → L2.St → Hp → Hp → Prop) (Z1 : Hp) (r : List α) : L2.St → Hp → Prop := fun σ H => ∃ Z, Same Z1 Z ∧ Same Z H ∧ I r σ Z H
/-- I: what is true ahead of the turns for the rest of the items -/
theorem st_for {wi : TI} {g : TG} (I : List α → L2.St → Hp → Hp → Prop) (P : Pt S Z0 H0 M Z H s) (hi : EvI M (fun _ _ => True) wi σ Z H s τ xs s1)
    (h0 : ∀ Z1 H1, Step M.fp Z H Z1 H1 → Pt S Z0 H0 M Z1 H1 s1 → I xs σ Z1 H1)
    (hs : ∀ Z1 H1, Step M.fp Z H Z1 H1 → ∀ x r σ' v Z' H' Z2 H2, Same Z1 Z' → I (x :: r) σ' Z' H' → Step [] Z' H' Z2 H2 → τ.r Z2 v x →
      g v σ' H2 fun σ2 H3 => u { D with nx := LoopW I Z1 r, ct := LoopW I Z1 r, bk := D.nx } σ2 H3)
    (hd : ∀ σ' Z' H', Same Z Z' → Same Z' H' → I [] σ' Z' H' → D.nx σ' H') : tFor wi g u D σ H := by
  refine hi Z H (Same.refl _) SameX.refl P.sub P.m _ fun J Z1 H1 e m ⟨_, G, Y, wk, hG, hY⟩ => ?_
  refine for_it wk (fun i => LoopW I Z1 (xs.drop i)) ⟨Z1, Same.refl _, e.s, by rw [List.drop_zero]; exact h0 Z1 H1 e (P.next e m)⟩ ?_ ?_ ?_
  · rintro i σ' H' _ ⟨Z', sa, sb, _⟩
    exact hG Z' H' sa sb trivial
  · rintro i v σ' H3 H4 hin ⟨Z', sa, sb, hI⟩ y
    obtain ⟨Z4, x, ex, st4, rx⟩ := hY i Z' H3 v H4 hin sa sb (hG Z' H3 sa sb trivial) y
    have hd : xs.drop i = x :: xs.drop (i + 1) := by
      rw [List.drop_eq_getElem_cons hin]
      rw [List.getElem?_eq_getElem hin] at ex
      rw [Option.some.inj ex]
    rw [hd] at hI
    exact hs Z1 H1 e x _ σ' v Z' H3 Z4 H4 sa hI st4 rx
  · rintro σ' H' ⟨Z', sa, sb, hI⟩
    rw [List.drop_length] at hI
    exact hd σ' Z' H' (e.z.trans sa) sb hI
end
theorem bind_inv {α β : Type} {o : Option α} {f : α → Option β} {y : β} (h : o.bind f = some y) : ∃ x, o = some x ∧ f x = some y := Option.bind_eq_some_iff.mp h
theorem guard_inv {c : Prop} [Decidable c] {β : Type} {o : Option β} {y : β} (h : (if c then o else none) = some y) : c ∧ o = some y := by
  by_cases hc : c
  · rw [if_pos hc] at h; exact ⟨hc, h⟩
  · rw [if_neg hc] at h; cases h
theorem ifT {β : Type} {b : Bool} {o p y : β} (hb : b = true) (h : (if b = true then o else p) = y) : o = y := by rw [if_pos hb] at h; exact h
theorem ifF {β : Type} {b : Bool} {o p y : β} (hb : b = false) (h : (if b = true then o else p) = y) : p = y := by rw [if_neg (by rw [hb]; exact Bool.false_ne_true)] at h; exact h
theorem Pt.item {Z1 H1 : Hp} (P : Pt S Z0 H0 M Z H s) (e : Step [] Z H Z1 H1) : Pt S Z0 H0 M Z1 H1 s := P.next e.pure (M.pure e P.m)
theorem Mu.away {x : Addr} {Z1 H1 : Hp} (e : Step [x] Z H Z1 H1) (nx : x ∉ M.fp) (m : M.m s Z H) : M.m s Z1 H1 :=
  M.loc e.z (fun a ha o ho => e.h a o (fun q => nx (by rw [List.mem_singleton] at q; rw [← q]; exact ha)) ho) (fun a _ h z => e.n a h z) m
/-- self.f = e, self new -/
theorem st_fld {α : Type} {τ : Ty α} {x : α} {i : Nat} {p C dx : Addr} {fs : List (Str × V)} {f : Str} {tv : TE} (P : Pt S Z0 H0 M Z H s) (hp : H p = some (.ins C dx fs)) (zp : Z p = none) (np : p ∉ M.fp) (mp : p ∈ S ∨ H0 p = none) (hσ : σ[i]? = some (some (.ref p)))
    (e : Ev M tv σ Z H s (ty τ x) s1) (c : Cls K C) (n : NoAttr K C f) (l : fs.length < 1000) (k : ∀ v Z1 H1, Step (p :: M.fp) Z H Z1 H1 → Pt S Z0 H0 M Z1 H1 s1 → τ.r Z1 v x → H1 p = some (.ins C dx (putF f v fs)) → Z1 p = none → D.nx σ H1) : sFld K (tVar i) tv f D σ H :=
  e Z H (Same.refl _) SameX.refl P.sub P.m _ fun v Z1 H1 e m r => by
    have h1 : H1 p = some (.ins C dx fs) := e.h _ _ np hp
    have z1 : Z1 p = none := e.n p (some_ne hp) zp
    exact ⟨.ref p, hσ, p, C, dx, fs, rfl, h1, c, n, l, k v Z1 _ (step2 e z1) ((P.next e m).set z1 np mp) r upd_same z1⟩
/-- a list of one's own in the block of a comprehension -/
theorem ev_oX {α : Type} {τ : Ty α} {xs : List α} {p : Addr} {i : Nat} {Z1 H1 : Hp} (o : Own S H0 M.fp Z H τ p xs) (zz : Same Z Z1) (hh : SameX M.fp H H1) (e : σ[i]? = some (some (.ref p))) : Ev M (tVar i) σ Z1 H1 s (li τ xs) s := by
  obtain ⟨vs, h, t⟩ := o.ex
  exact ev_own e (hh _ _ o.n h) o.n (t.imp fun _ _ => τ.mono zz) o.l
end
/-! ### the draws -/
structure DS where
  ns : List Int
  k : Nat
  x : Nat
def rowZ (ns : List Int) (k : Nat) : Int :=
  let c0 := ns.getD k 0
  let c := if c0 < 0 then -2 * c0 - 1 else c0
  if c < 10 ^ 9 then
    let a := (c * 48271 + k * 69621 + 11) % 2147483647
    let b := (a * 16807 + c * 7 + k + 5) % 2147483629
    let d := (b * 39373 + a * b + 3) % 2147483587
    a + b * 2147483647 + d * 2147483647 ^ 2
  else c
def DS.cur (s : DS) (m : Int) : Nat := if (s.x : Int) < m then (rowZ s.ns s.k).toNat else s.x
def nxV (s : DS) (m : Int) : Int := (s.cur m : Int) % m
def nxS (s : DS) (m : Int) : DS := ⟨s.ns, if (s.x : Int) < m then s.k + 1 else s.k, ((s.cur m : Int) / m).toNat⟩
theorem nx_ge (s : DS) {m : Int} (h : 0 < m) : 0 ≤ nxV s m := Int.emod_nonneg _ (by omega)
theorem nx_lt (s : DS) {m : Int} (h : 0 < m) : nxV s m < m := Int.emod_lt_of_pos _ h
def NxOk (m : Int) : Prop := 0 < m ∧ m.natAbs < 2 ^ 200
instance {m : Int} : Decidable (NxOk m) := inferInstanceAs (Decidable (_ ∧ _))
def muD (st sc : Addr) : Mu DS where
  fp := [st]
  m := fun s Z H => H st = some (.lst [.ref sc, .int (s.k : Nat), .int (s.x : Nat)]) ∧ Z sc = some (.lst (s.ns.map V.int)) ∧ Z st = none
  al := fun ⟨h, _, z⟩ a ha => by rw [List.mem_singleton] at ha; subst ha; exact ⟨some_ne h, z⟩
  loc := fun sz hk hn ⟨h, hs, z⟩ => ⟨hk _ List.mem_cons_self _ h, sz _ _ hs, hn _ List.mem_cons_self (some_ne h) z⟩
theorem muD_back {st sc : Addr} : (muD st sc).Back := fun sz ⟨_, hs, z⟩ ⟨h', hs', _⟩ => ⟨h', by rw [hs, ← hs', sz _ _ hs], z⟩
section
variable {K : PySem.W.Frag} {σ : L2.St} {H : Hp} {D : Ends}
theorem st_draws {r : List V → Hp → VK → Prop} {a : Addr} {ns : List Int} {i j : Nat} (hA : SqL K H a (ns.map V.int)) (hlen : ns.length ≤ 63) (k : ∀ st sc Z0 Z1 H1, Pt [] Z0 H (muD st sc) Z1 H1 ⟨ns, 0, 0⟩ → D.nx (σ.set i (some (.ref st))) H1)
    (hr : ∀ xs H Q, (∃ p ys, xs = [.ref p] ∧ (SqL K H p ys ∨ SqT K H p ys) ∧ ∀ l, H l = none → Q (.ref l) (upd H l (.lst ys))) → r xs H Q := by exact fun _ _ _ h => h) (hσ : σ[j]? = some (some (.ref a)) := by rfl) :
    tAsg (tLst (tCons (tCB r (tCons (tVar j) tNil)) (tCons (tC (.int 0)) (tCons (tC (.int 0)) tNil)))) (gName i) D σ H := by
  refine ⟨.ref a, hσ, hr _ _ _ ⟨a, _, rfl, .inl hA, fun sc hsc => ?_⟩⟩
  refine ⟨by show 3 ≤ sizeLine; decide, fun st hst => ?_⟩
  have s0 : Same (fun _ => none : Hp) H := fun _ _ h => by cases h
  have e1 := Step.new (o := .lst (ns.map V.int)) s0 hsc
  have e2 := Step.own (o := .lst [.ref sc, .int 0, .int 0]) e1.s hst
  exact k st sc (fun _ => none) _ _ ⟨e1.trans e2, ⟨upd_same, upd_same, by rw [upd_ne (fun q => by rw [q, upd_same] at hst; cases hst)]⟩, fun x hx => by rw [show x = st from List.mem_singleton.mp hx]; exact .inr (same_x e1 hst)⟩
end
end TP
namespace TP
open PySem PySem.Spec PyProof.Rows L2
section
variable {μ : Type} {S : List Addr} {Z0 H0 : Hp} {M : Mu μ} {σ : L2.St} {Z H : Hp} {s s' s1 s2 s3 : μ} {ta tb tc te : TE} {t : TA} {K : PySem.W.Frag} {D : Ends} {u w : TS}
theorem whileS_cons {ρ β : Type} {f : β → Option (Flow ρ β)} {n : Nat} {b : β} {q : Flow ρ β} (h : whileS f n b = some q) : ∃ k, n = k + 1 ∧ (f b).bind (Flow.nxt (whileS f k)) = some q := by
  cases n with
  | zero => cases h
  | succ k => exact ⟨k, rfl, h⟩
def WhW (I : Nat → L2.St → Hp → Hp → Prop) (k : Nat) : L2.St → Hp → Prop := fun σ H => ∃ Z, I k σ Z H
theorem st_while {c : TT} {tb : TS} (I : Nat → L2.St → Hp → Hp → Prop) (n : Nat) (P : Pt S Z0 H0 M Z H s) (h0 : I n σ Z H)
    (hs : ∀ n σ' Z' H', I n σ' Z' H' → ∃ k s s1 b, n = k + 1 ∧ Pt S Z0 H0 M Z' H' s ∧ EvT M c σ' Z' H' s b s1 ∧ (b = true → ∀ Z1 H1, Step M.fp Z' H' Z1 H1 → Pt S Z0 H0 M Z1 H1 s1 → tb { D with nx := WhW I k, ct := WhW I k, bk := D.nx } σ' H1) ∧
      (b = false → ∀ Z1 H1, Step M.fp Z' H' Z1 H1 → Pt S Z0 H0 M Z1 H1 s1 → D.nx σ' H1)) : tWhile c tb D σ H := by
  refine ⟨fun m σ H => ∃ Z, I m σ Z H, ⟨n, Z, h0⟩, ?_⟩
  rintro m σ' H' ⟨Z', hI⟩
  obtain ⟨k, s, s1, b, rfl, P, et, ht, hf⟩ := hs m σ' Z' H' hI
  refine et Z' H' (Same.refl _) SameX.refl P.sub P.m _ fun Z1 H1 e m => ?_
  cases b with
  | true =>
    rw [if_pos rfl]
    exact ⟨WhW I k, fun σ3 H3 h3 => ⟨k, Nat.lt_succ_self _, h3⟩, ht rfl Z1 H1 e (P.next e m)⟩
  | false =>
    rw [if_neg Bool.false_ne_true]
    exact hf rfl Z1 H1 e (P.next e m)
end
end TP

namespace TP
open PySem PySem.Spec PyProof.Rows L2
section
variable {μ : Type} {S : List Addr} {Z0 H0 : Hp} {M : Mu μ} {σ : L2.St} {Z H : Hp} {s s' s1 s2 s3 : μ} {ta tb tc te : TE} {t : TA} {K : PySem.W.Frag} {D : Ends} {u w : TS}
/-! ### isinstance -/
theorem ev_isi {r : List V → Hp → VK → Prop} {R : Rr M.fp} {c : V} {v t : Value} {b : Bool} (hr : ∀ xs H Q, rIsi K xs H Q → r xs H Q) (ha : Ev M ta σ Z H s R s1) (tx : ∀ Z H v, Same Z H → R.r Z H v → TyX K H v t) (hc : ClsV c v) (hk : PySem.W.kitOne K t v = some b) :
    Ev M (tCB r (tCons ta (tCons (tC c) tNil))) σ Z H s (ty yBool b) s1 :=
  ev_cb (Rs := rac R (rac ⟨fun _ _ v => v = c, fun _ h => h⟩ ra0)) (eva_cons ha (eva_cons (ev_of fun _ _ _ _ _ _ q => q _ rfl) eva_nil)) fun _ _ _ sz ⟨x, r1, e1, h1, y, r2, e2, h2, e3⟩ _ q => by
    cases e3; cases e2; cases e1
    have h2' : y = c := h2
    subst h2'
    exact hr _ _ _ ⟨x, y, t, v, b, rfl, hc, tx _ _ _ sz h1, hk, q _ _ _ (Step.refl sz) rfl⟩
section
variable {fp : List Addr} {α β γ δ : Type} {τ : Ty α} {υ : Ty β} {φ : Ty γ} {ψ : Ty δ}
theorem tx_int {x : Int} : ∀ Z H v, Same Z H → (ty (fp := fp) yInt x).r Z H v → TyX K H v (.type "int") := fun _ _ _ _ h => by cases h; exact .base (.int _)
theorem tx_bool {x : Bool} : ∀ Z H v, Same Z H → (ty (fp := fp) yBool x).r Z H v → TyX K H v (.type "bool") := fun _ _ _ _ h => by cases h; exact .base (.bl _)
theorem tx_str {x : Str} : ∀ Z H v, Same Z H → (ty (fp := fp) yStr x).r Z H v → TyX K H v (.type "str") := fun _ _ _ _ h => by rw [h.1]; exact .base (.str _)
theorem tx_li {x : List α} : ∀ Z H v, Same Z H → (li (fp := fp) τ x).r Z H v → TyX K H v (.type "list") := fun _ _ _ sz h => by
  obtain ⟨p, vs, rfl, g, _, _⟩ := rdl sz h
  exact .base (.lst g)
theorem tx_sqT {H : Hp} {a : Addr} {vs : List V} (h : SqT K H a vs) : TyX K H (.ref a) (.type "tuple") := by
  rcases h with (h | ⟨o, h⟩) | ⟨o, its, n, h, hc, _⟩
  · exact .base (.tup h)
  · exact .fTuple h
  · exact .kTuple h hc
theorem tx_tup {x : List α} : ∀ Z H v, Same Z H → (ty (fp := fp) (yTup K τ) x).r Z H v → TyX K H v (.type "tuple") := fun _ _ _ sz ⟨a, vs, e, h, _⟩ => by subst e; exact tx_sqT (seqT_same sz h)
theorem tx_p2 {x : α × β} : ∀ Z H v, Same Z H → (ty (fp := fp) (yP2 K τ υ) x).r Z H v → TyX K H v (.type "tuple") := fun _ _ _ sz ⟨a, _, _, e, h, _⟩ => by subst e; exact tx_sqT (seqT_same sz h)
theorem tx_p3 {x : α × β × γ} : ∀ Z H v, Same Z H → (ty (fp := fp) (yP3 K τ υ φ) x).r Z H v → TyX K H v (.type "tuple") := fun _ _ _ sz ⟨a, _, _, _, e, h, _⟩ => by subst e; exact tx_sqT (seqT_same sz h)
end
end
end TP

namespace TP
open PySem PySem.Spec PyProof.Rows L2
/-! on, where what is bound is known: proofs that are no rfl, so that the kernel evaluates nothing -/
theorem bsome {α β : Type} {x : α} {f : α → Option β} : (some x).bind f = f x := by rw [Option.bind_some]
theorem bnone {α β : Type} {f : α → Option β} : (none : Option α).bind f = none := of_eq_true (eq_self _)
theorem thn_go {ρ β γ : Type} {b : β} {k : β → Option γ} {g : ρ → Option γ} : Flow.thn k g (.go b) = k b := by simp only [Flow.thn]
theorem thn_brk {ρ β γ : Type} {b : β} {k : β → Option γ} {g : ρ → Option γ} : Flow.thn k g (.brk b) = k b := by simp only [Flow.thn]
theorem thn_ret {ρ β γ : Type} {y : ρ} {k : β → Option γ} {g : ρ → Option γ} : Flow.thn k g (.ret y) = g y := by simp only [Flow.thn]
theorem forF_foldl {α β : Type} {f : α → β → Option β} {g : β → α → β} (h : ∀ x b, f x b = some (g b x)) : ∀ (xs : List α) (b : β), forF f xs b = some (xs.foldl g b)
  | [], _ => rfl
  | x :: r, b => by
    show (f x b).bind _ = _
    rw [h x b]
    exact forF_foldl h r _
theorem forF_inv {α β : Type} {f : α → β → Option β} {I : Nat → β → Prop} {m : Nat} (h : ∀ n x b, n < m → I n b → ∃ b', f x b = some b' ∧ I (n + 1) b') : ∀ (xs : List α) (n : Nat) (b : β), n + xs.length ≤ m → I n b → ∃ b', forF f xs b = some b' ∧ I (n + xs.length) b'
  | [], _, b, _, i => ⟨b, rfl, i⟩
  | x :: r, n, b, l, i => by
    rw [List.length_cons] at l
    obtain ⟨b1, e, i1⟩ := h n x b (by omega) i
    obtain ⟨b2, e2, i2⟩ := forF_inv h r (n + 1) b1 (by omega) i1
    refine ⟨b2, ?_, by rw [List.length_cons, show n + (r.length + 1) = n + 1 + r.length by omega]; exact i2⟩
    show (f x b).bind _ = _
    rw [e]
    exact e2
theorem forS_inv {ρ α β : Type} {f : α → β → Option (Flow ρ β)} {I : Nat → β → Prop} {m : Nat} (h : ∀ n x b, n < m → I n b → ∃ b', f x b = some (.go b') ∧ I (n + 1) b') : ∀ (xs : List α) (n : Nat) (b : β), n + xs.length ≤ m → I n b → ∃ b', forS f xs b = some (.go b') ∧ I (n + xs.length) b'
  | [], _, b, _, i => ⟨b, rfl, i⟩
  | x :: r, n, b, l, i => by
    rw [List.length_cons] at l
    obtain ⟨b1, e, i1⟩ := h n x b (by omega) i
    obtain ⟨b2, e2, i2⟩ := forS_inv h r (n + 1) b1 (by omega) i1
    refine ⟨b2, ?_, by rw [List.length_cons, show n + (r.length + 1) = n + 1 + r.length by omega]; exact i2⟩
    show (f x b).bind _ = _
    rw [e]
    exact e2
theorem mapS_all {α β μ : Type} {f : α → μ → Option (β × μ)} {R : β → Prop} (h : ∀ x s, ∃ y s', f x s = some (y, s') ∧ R y) : ∀ (xs : List α) (s : μ), ∃ ys s', mapS f xs s = some (ys, s') ∧ ys.length = xs.length ∧ ∀ y ∈ ys, R y
  | [], s => ⟨[], s, rfl, rfl, fun _ h => nomatch h⟩
  | x :: r, s => by
    obtain ⟨y, s1, e, hy⟩ := h x s
    obtain ⟨ys, s2, e2, l, hs⟩ := mapS_all h r s1
    refine ⟨y :: ys, s2, ?_, congrArg Nat.succ l, fun z hz => ?_⟩
    · show (f x s).bind _ = _
      rw [e]
      show (mapS f r s1).bind _ = _
      rw [e2]
      rfl
    · rcases List.mem_cons.mp hz with rfl | hz
      · exact hy
      · exact hs z hz
theorem cutA_none {α : Type} (xs : List α) {c : Int} (h : 0 ≤ c) : cutA xs none (some c) = xs.take c.toNat := by
  obtain ⟨k, rfl⟩ := Int.eq_ofNat_of_zero_le h
  unfold cutA
  rw [HT.sIx_none, HT.sIx_nat, List.drop_zero, Nat.sub_zero, Int.toNat_natCast]
  by_cases q : k ≤ xs.length
  · rw [Nat.min_eq_left q]
  · rw [Nat.min_eq_right (by omega), List.take_length, List.take_of_length_le (by omega)]
theorem cutA_to {α : Type} (xs : List α) {a c : Int} (h : 0 ≤ a) (h2 : a ≤ c) (h3 : c ≤ xs.length) : cutA xs (some a) (some c) = (xs.drop a.toNat).take (c - a).toNat := by
  obtain ⟨k, rfl⟩ := Int.eq_ofNat_of_zero_le h
  obtain ⟨m, rfl⟩ := Int.eq_ofNat_of_zero_le (show 0 ≤ c by omega)
  unfold cutA
  rw [HT.sIx_nat, HT.sIx_nat, Nat.min_eq_left (by omega), Nat.min_eq_left (by omega), Int.toNat_natCast, show ((m : Int) - (k : Int)).toNat = m - k by omega]
theorem cutA_from {α : Type} (xs : List α) {a : Int} (h : 0 ≤ a) : cutA xs (some a) none = xs.drop a.toNat := by
  obtain ⟨k, rfl⟩ := Int.eq_ofNat_of_zero_le h
  unfold cutA
  rw [HT.sIx_nat, HT.sIx_none, Int.toNat_natCast]
  by_cases q : k ≤ xs.length
  · rw [Nat.min_eq_left q, List.take_of_length_le (by rw [List.length_drop]; omega)]
  · rw [Nat.min_eq_right (by omega), List.drop_length, List.drop_of_length_le (by omega)]
    simp
theorem ixN_of {n : Nat} {i : Int} (h : 0 ≤ i) (l : i < n) : ixN n i = some i.toNat := by
  obtain ⟨k, rfl⟩ := Int.eq_ofNat_of_zero_le h
  rw [Int.toNat_natCast]
  unfold ixN
  split <;> first | rfl | omega | (split <;> first | rfl | omega) | skip
theorem atI_of {α : Type} {xs : List α} {i : Int} (h : 0 ≤ i) : L2.atI xs i = xs[i.toNat]? := by
  by_cases l : i < xs.length
  · unfold L2.atI
    rw [ixN_of h l]
    rfl
  · rw [List.getElem?_eq_none (by omega)]
    obtain ⟨k, rfl⟩ := Int.eq_ofNat_of_zero_le h
    unfold L2.atI ixN
    split <;> first | rfl | (split <;> first | rfl | omega) | skip
theorem nxOk_of {m : Int} (h : 0 < m) (l : m < 2 ^ 199) : NxOk m := ⟨h, by
  have : m.natAbs < 2 ^ 199 := by
    have e : (2 : Int) ^ 199 = ((2 ^ 199 : Nat) : Int) := by decide
    rw [e] at l
    omega
  exact Nat.lt_trans this (by decide)⟩
theorem rangeOk_of {a b : Int} (h : 0 ≤ a) (h1 : a ≤ 16777216) (l : b ≤ 16777216) (l2 : -16777216 ≤ b) : RangeOk a b := ⟨⟨by omega, by omega⟩, ⟨by omega, by omega⟩, by omega⟩
end TP
namespace TP
open PySem PySem.Spec PyProof.Rows L2
theorem forF_idx {α β : Type} {f : α → β → Option β} {I : Nat → β → Prop} : ∀ (xs : List α) (k : Nat) (b : β), (∀ n x b, xs[n]? = some x → I (k + n) b → ∃ b', f x b = some b' ∧ I (k + n + 1) b') → I k b → ∃ b', forF f xs b = some b' ∧ I (k + xs.length) b'
  | [], k, b, _, i => ⟨b, rfl, i⟩
  | x :: r, k, b, h, i => by
    obtain ⟨b1, e1, i1⟩ := h 0 x b rfl i
    obtain ⟨b2, e2, i2⟩ := forF_idx (I := I) r (k + 1) b1 (fun n y b' hy ib => by
      have := h (n + 1) y b' (by simpa using hy) (by rw [show k + (n + 1) = k + 1 + n by omega]; exact ib)
      rw [show k + 1 + n + 1 = k + (n + 1) + 1 by omega]
      exact this) i1
    refine ⟨b2, ?_, by rw [List.length_cons, show k + (r.length + 1) = k + 1 + r.length by omega]; exact i2⟩
    show (f x b).bind _ = _
    rw [e1]
    exact e2
theorem forS_idx {ρ α β : Type} {f : α → β → Option (Flow ρ β)} {I : Nat → β → Prop} : ∀ (xs : List α) (k : Nat) (b : β), (∀ n x b, xs[n]? = some x → I (k + n) b → ∃ b', f x b = some (.go b') ∧ I (k + n + 1) b') → I k b → ∃ b', forS f xs b = some (.go b') ∧ I (k + xs.length) b'
  | [], k, b, _, i => ⟨b, rfl, i⟩
  | x :: r, k, b, h, i => by
    obtain ⟨b1, e1, i1⟩ := h 0 x b rfl i
    obtain ⟨b2, e2, i2⟩ := forS_idx (I := I) r (k + 1) b1 (fun n y b' hy ib => by
      have := h (n + 1) y b' (by simpa using hy) (by rw [show k + (n + 1) = k + 1 + n by omega]; exact ib)
      rw [show k + 1 + n + 1 = k + (n + 1) + 1 by omega]
      exact this) i1
    refine ⟨b2, ?_, by rw [List.length_cons, show k + (r.length + 1) = k + 1 + r.length by omega]; exact i2⟩
    show (f x b).bind _ = _
    rw [e1]
    exact e2
theorem rangeZ_get {lo hi : Int} {n : Nat} {x : Int} (h : (rangeZ lo hi)[n]? = some x) : x = lo + (n : Int) ∧ (n : Int) < hi - lo := by
  have l := (List.getElem?_eq_some_iff.mp h).1
  rw [rangeZ_len] at l
  unfold rangeZ at h
  rw [List.getElem?_map, List.getElem?_range l] at h
  exact ⟨(Option.some.inj h).symm, by omega⟩
/-- a loop over range(m) that always goes on -/
theorem forF_rng {β : Type} {f : Int → β → Option β} (I : Nat → β → Prop) {m : Int} {b : β} (h0 : I 0 b) (h : ∀ (n : Nat) b, (n : Int) < m → I n b → ∃ b', f (n : Int) b = some b' ∧ I (n + 1) b') : ∃ b', forF f (rangeZ 0 m) b = some b' ∧ I m.toNat b' := by
  obtain ⟨b', e, i⟩ := forF_idx (f := f) (I := I) (rangeZ 0 m) 0 b (fun n x b hx ib => by
    obtain ⟨rfl, hm⟩ := rangeZ_get hx
    rw [Nat.zero_add] at ib ⊢
    obtain ⟨b', e, i⟩ := h n b (by omega) ib
    exact ⟨b', by rw [show (0 : Int) + (n : Int) = n by omega]; exact e, i⟩) h0
  refine ⟨b', e, ?_⟩
  rw [Nat.zero_add, rangeZ_len, Int.sub_zero] at i
  exact i
theorem forS_rng {ρ β : Type} {f : Int → β → Option (Flow ρ β)} (I : Nat → β → Prop) {m : Int} {b : β} (h0 : I 0 b) (h : ∀ (n : Nat) b, (n : Int) < m → I n b → ∃ b', f (n : Int) b = some (.go b') ∧ I (n + 1) b') : ∃ b', forS f (rangeZ 0 m) b = some (.go b') ∧ I m.toNat b' := by
  obtain ⟨b', e, i⟩ := forS_idx (f := f) (I := I) (rangeZ 0 m) 0 b (fun n x b hx ib => by
    obtain ⟨rfl, hm⟩ := rangeZ_get hx
    rw [Nat.zero_add] at ib ⊢
    obtain ⟨b', e, i⟩ := h n b (by omega) ib
    exact ⟨b', by rw [show (0 : Int) + (n : Int) = n by omega]; exact e, i⟩) h0
  refine ⟨b', e, ?_⟩
  rw [Nat.zero_add, rangeZ_len, Int.sub_zero] at i
  exact i
/-- enumerate, from k on -/
def enumF {α : Type} : Int → List α → List (Int × α)
  | _, [] => []
  | k, x :: r => (k, x) :: enumF (k + 1) r
theorem enumZ_eq {α : Type} (xs : List α) : enumZ xs = enumF 0 xs := by
  have key : ∀ (xs : List α) (k : Nat), ((List.range xs.length).map fun (i : Nat) => ((k + i : Nat) : Int)).zip xs = enumF (k : Int) xs := fun xs => by
    induction xs with
    | nil => intro k; rfl
    | cons x r ih =>
      intro k
      rw [List.length_cons, List.range_succ_eq_map, List.map_cons, List.map_map, List.zip_cons_cons]
      show (((k + 0 : Nat) : Int), x) :: _ = ((k : Int), x) :: enumF ((k : Int) + 1) r
      have := ih (k + 1)
      rw [Nat.add_zero]
      congr 1
      have e : ((k + 1 : Nat) : Int) = (k : Int) + 1 := by omega
      rw [← e, ← this]
      congr 2
      funext i
      show ((k + (i + 1) : Nat) : Int) = ((k + 1 + i : Nat) : Int)
      omega
  have := key xs 0
  unfold enumZ rangeZ
  rw [Int.sub_zero, Int.toNat_natCast]
  refine Eq.trans ?_ this
  congr 2
end TP

namespace TP
open PySem PySem.Spec PyProof.Rows L2
section
variable {α β γ μ : Type}
theorem mapO_eq {f : α → Option β} {g : α → β} : ∀ {xs : List α}, (∀ x ∈ xs, f x = some (g x)) → mapO f xs = some (xs.map g)
  | [], _ => rfl
  | x :: r, h => by
    show (f x).bind _ = _
    rw [h x List.mem_cons_self, Option.bind_some, mapO_eq fun y hy => h y (List.mem_cons_of_mem _ hy)]
    rfl
theorem mapO_ex {f : α → Option β} {R : β → Prop} : ∀ {xs : List α}, (∀ x ∈ xs, ∃ y, f x = some y ∧ R y) → ∃ ys, mapO f xs = some ys ∧ ys.length = xs.length ∧ ∀ y ∈ ys, R y
  | [], _ => ⟨[], rfl, rfl, fun _ h => nomatch h⟩
  | x :: r, h => by
    obtain ⟨y, e, hy⟩ := h x List.mem_cons_self
    obtain ⟨ys, e2, l, hs⟩ := mapO_ex fun y hy => h y (List.mem_cons_of_mem _ hy)
    refine ⟨y :: ys, ?_, congrArg Nat.succ l, fun z hz => ?_⟩
    · show (f x).bind _ = _
      rw [e, Option.bind_some, e2]
      rfl
    · rcases List.mem_cons.mp hz with rfl | hz
      · exact hy
      · exact hs z hz
/-- a comprehension that draws, with a fact of the items -/
theorem mapS_mem {f : α → μ → Option (β × μ)} {R : β → Prop} : ∀ {xs : List α} (s : μ), (∀ x ∈ xs, ∀ s, ∃ y s', f x s = some (y, s') ∧ R y) → ∃ ys s', mapS f xs s = some (ys, s') ∧ ys.length = xs.length ∧ ∀ y ∈ ys, R y
  | [], s, _ => ⟨[], s, rfl, rfl, fun _ h => nomatch h⟩
  | x :: r, s, h => by
    obtain ⟨y, s1, e, hy⟩ := h x List.mem_cons_self s
    obtain ⟨ys, s2, e2, l, hs⟩ := mapS_mem s1 fun y hy => h y (List.mem_cons_of_mem _ hy)
    refine ⟨y :: ys, s2, ?_, congrArg Nat.succ l, fun z hz => ?_⟩
    · show (f x s).bind _ = _
      rw [e]
      show (mapS f r s1).bind _ = _
      rw [e2]
      rfl
    · rcases List.mem_cons.mp hz with rfl | hz
      · exact hy
      · exact hs z hz
theorem forF_mem {f : α → β → Option β} {I : β → Prop} : ∀ {xs : List α} {b : β}, I b → (∀ x ∈ xs, ∀ b, I b → ∃ b', f x b = some b' ∧ I b') → ∃ b', forF f xs b = some b' ∧ I b'
  | [], b, i, _ => ⟨b, rfl, i⟩
  | x :: r, b, i, h => by
    obtain ⟨b1, e, i1⟩ := h x List.mem_cons_self b i
    obtain ⟨b2, e2, i2⟩ := forF_mem i1 fun y hy => h y (List.mem_cons_of_mem _ hy)
    refine ⟨b2, ?_, i2⟩
    show (f x b).bind _ = _
    rw [e]
    exact e2
theorem forS_mem {ρ : Type} {f : α → β → Option (Flow ρ β)} {I : β → Prop} : ∀ {xs : List α} {b : β}, I b → (∀ x ∈ xs, ∀ b, I b → ∃ b', f x b = some (.go b') ∧ I b') → ∃ b', forS f xs b = some (.go b') ∧ I b'
  | [], b, i, _ => ⟨b, rfl, i⟩
  | x :: r, b, i, h => by
    obtain ⟨b1, e, i1⟩ := h x List.mem_cons_self b i
    obtain ⟨b2, e2, i2⟩ := forS_mem i1 fun y hy => h y (List.mem_cons_of_mem _ hy)
    refine ⟨b2, ?_, i2⟩
    show (f x b).bind _ = _
    rw [e]
    exact e2
/-- the loop by places: what is true behind n items -/
theorem forF_take {f : α → β → Option β} {I : List α → β → Prop} {xs : List α} {b : β} (h0 : I [] b) (h : ∀ p x r b, xs = p ++ x :: r → I p b → ∃ b', f x b = some b' ∧ I (p ++ [x]) b') : ∃ b', forF f xs b = some b' ∧ I xs b' := by
  have key : ∀ (r p : List α) (b : β), xs = p ++ r → I p b → ∃ b', forF f r b = some b' ∧ I xs b' := fun r => by
    induction r with
    | nil => intro p b e i; rw [List.append_nil] at e; exact ⟨b, rfl, e ▸ i⟩
    | cons x r ih =>
      intro p b e i
      obtain ⟨b1, e1, i1⟩ := h p x r b e i
      obtain ⟨b2, e2, i2⟩ := ih (p ++ [x]) b1 (by rw [e]; simp) i1
      refine ⟨b2, ?_, i2⟩
      show (f x b).bind _ = _
      rw [e1]
      exact e2
  exact key xs [] b rfl h0
theorem forS_take {ρ : Type} {f : α → β → Option (Flow ρ β)} {I : List α → β → Prop} {xs : List α} {b : β} (h0 : I [] b) (h : ∀ p x r b, xs = p ++ x :: r → I p b → ∃ b', f x b = some (.go b') ∧ I (p ++ [x]) b') : ∃ b', forS f xs b = some (.go b') ∧ I xs b' := by
  have key : ∀ (r p : List α) (b : β), xs = p ++ r → I p b → ∃ b', forS f r b = some (.go b') ∧ I xs b' := fun r => by
    induction r with
    | nil => intro p b e i; rw [List.append_nil] at e; exact ⟨b, rfl, e ▸ i⟩
    | cons x r ih =>
      intro p b e i
      obtain ⟨b1, e1, i1⟩ := h p x r b e i
      obtain ⟨b2, e2, i2⟩ := ih (p ++ [x]) b1 (by rw [e]; simp) i1
      refine ⟨b2, ?_, i2⟩
      show (f x b).bind _ = _
      rw [e1]
      exact e2
  exact key xs [] b rfl h0
theorem str_len1 {c : Nat} : (⟨#[c]⟩ : Str).length = 1 := rfl
theorem str_app_len (x y : Str) : (x ++ y).length = x.length + y.length := by
  show (x.cps ++ y.cps).size = _
  rw [Array.size_append]; rfl
/-- == of data that are compared by their terms -/
theorem EqD.eqvB {K : PySem.W.Frag} {τ : Ty α} {d : α → PyData} {n : Nat} (E : EqD K τ d n) [DecidableEq α] (x y : α) : PyData.eqv (d x) (d y) = decide (x = y) := Bool.eq_iff_iff.mpr ((E.eqv x y).trans decide_eq_true_iff.symm)
theorem atI_lit {xs : List α} {i : Int} (h : 0 ≤ i) (l : i < xs.length) : ∃ x, L2.atI xs i = some x ∧ x ∈ xs := by
  rw [atI_of h]
  obtain ⟨k, rfl⟩ := Int.eq_ofNat_of_zero_le h
  rw [Int.toNat_natCast]
  have hk : k < xs.length := by omega
  exact ⟨xs[k], List.getElem?_eq_getElem hk, List.getElem_mem hk⟩
/-- a loop that looks at each item and may say no -/
theorem forS_all {ρ : Type} {f : α → Unit → Option (Flow ρ Unit)} {p : α → Bool} {r : ρ} : ∀ {xs : List α}, (∀ x ∈ xs, f x () = some (if p x = true then .go () else .ret r)) → forS f xs () = some (if xs.all p = true then .go () else .ret r)
  | [], _ => rfl
  | x :: t, h => by
    show (f x ()).bind _ = _
    rw [h x List.mem_cons_self, bsome]
    cases hp : p x with
    | true =>
      rw [if_pos rfl, List.all_cons, hp, Bool.true_and]
      exact forS_all fun y hy => h y (List.mem_cons_of_mem _ hy)
    | false =>
      rw [if_neg Bool.false_ne_true, List.all_cons, hp, Bool.false_and, if_neg Bool.false_ne_true]
      rfl
theorem rangeZ_mem {lo hi x : Int} (h : x ∈ rangeZ lo hi) : lo ≤ x ∧ x < hi := by
  unfold rangeZ at h
  obtain ⟨i, hi', rfl⟩ := List.mem_map.mp h
  have := List.mem_range.mp hi'
  omega
theorem rangeZ_map (n : Nat) (f : Int → α) : (rangeZ 0 (n : Int)).map f = (List.range n).map fun (k : Nat) => f (k : Int) := by
  unfold rangeZ
  rw [List.map_map, Int.sub_zero, Int.toNat_natCast]
  refine List.map_congr_left fun k _ => ?_
  show f (0 + (k : Int)) = f k
  rw [Int.zero_add]
theorem atI_nat {xs : List α} {k : Nat} {x : α} (h : xs[k]? = some x) : L2.atI xs (k : Int) = some x := by
  rw [atI_of (by omega), Int.toNat_natCast, h]
theorem fmO_eq {f : α → Option (Option β)} {p : α → Bool} {g : α → β} : ∀ {xs : List α}, (∀ x ∈ xs, f x = some (if p x = true then some (g x) else none)) → fmO f xs = some ((xs.filter p).map g)
  | [], _ => rfl
  | x :: t, h => by
    show (f x).bind _ = _
    rw [h x List.mem_cons_self, bsome, fmO_eq fun y hy => h y (List.mem_cons_of_mem _ hy), bsome]
    cases hp : p x with
    | true => rw [if_pos rfl, List.filter_cons_of_pos hp]; rfl
    | false => rw [if_neg Bool.false_ne_true, List.filter_cons_of_neg (by rw [hp]; exact Bool.false_ne_true)]
end
end TP

namespace TP
open PySem PySem.Spec PyProof.Rows L2
/-! ### exceptions -/
/-- a value, or an exception -/
inductive Res (ε α : Type)
  | ok (a : α) | er (e : ε)
deriving DecidableEq
def Res.thn {ε α γ : Type} (g : ε → Option γ) (k : α → Option γ) : Res ε α → Option γ
  | .ok a => k a
  | .er e => g e
section
variable {ε α γ : Type} {g : ε → Option γ} {k : α → Option γ} {y : γ}
theorem rok_inv {a : α} (h : Res.thn g k (.ok a) = some y) : k a = some y := h
theorem rer_inv {e : ε} (h : Res.thn g k (.er e) = some y) : g e = some y := h
end
section
variable {μ : Type} {S : List Addr} {Z0 H0 : Hp} {M : Mu μ} {σ : L2.St} {Z H : Hp} {s s' s1 s2 s3 : μ} {ta tb tc te : TE} {t : TA} {K : PySem.W.Frag} {D : Ends} {u w : TS} {X : Hp → Prop}
/-- the expression raises: X is asked of the heap then -/
def EvE (M : Mu μ) (t : TE) (σ : L2.St) (Z H : Hp) (s : μ) (X : Hp → Prop) (s' : μ) : Prop :=
  ∀ Z1 H1, Same Z Z1 → SameX M.fp H H1 → Same Z1 H1 → M.m s Z1 H1 → ∀ Q : VK, (∀ Z2 H2, Step M.fp Z1 H1 Z2 H2 → M.m s' Z2 H2 → X H2) → t σ H1 Q
def EvAE (M : Mu μ) (t : TA) (σ : L2.St) (Z H : Hp) (s : μ) (X : Hp → Prop) (s' : μ) : Prop :=
  ∀ Z1 H1, Same Z Z1 → SameX M.fp H H1 → Same Z1 H1 → M.m s Z1 H1 → ∀ Q : List V → Hp → Prop, (∀ Z2 H2, Step M.fp Z1 H1 Z2 H2 → M.m s' Z2 H2 → X H2) → t σ H1 Q
def EvTE (M : Mu μ) (t : TT) (σ : L2.St) (Z H : Hp) (s : μ) (X : Hp → Prop) (s' : μ) : Prop :=
  ∀ Z1 H1, Same Z Z1 → SameX M.fp H H1 → Same Z1 H1 → M.m s Z1 H1 → ∀ Q : Bool → Hp → Prop, (∀ Z2 H2, Step M.fp Z1 H1 Z2 H2 → M.m s' Z2 H2 → X H2) → t σ H1 Q
/-- for arguments of which Rs is true the promise raises: the class cls -/
def CallE (M : Mu μ) (sp : Sp) (E : XK) (Rs : Ra M.fp) (s : μ) (cls : Value) (s' : μ) : Prop :=
  ∀ Z H vs, Same Z H → M.m s Z H → Rs.r Z H vs → ∀ Q : VK, (∀ Z2 H2, Step M.fp Z H Z2 H2 → M.m s' Z2 H2 → E cls none H2) → sp vs H Q E
def InitE (M : Mu μ) (C : Addr) (sp : Sp) (E : XK) (Rs : Ra M.fp) (s : μ) (cls : Value) (s' : μ) : Prop :=
  ∀ Z H vs x dx, Same Z H → M.m s Z H → Rs.r Z H vs → H x = some (.ins C dx []) → Z x = none → x ∉ M.fp → ∀ Q : VK, (∀ Z2 H2, Step (x :: M.fp) Z H Z2 H2 → M.m s' Z2 H2 → E cls none H2) → sp (.ref x :: vs) H Q E
theorem eae_head (ha : EvE M ta σ Z H s X s1) : EvAE M (tCons ta t) σ Z H s X s1 := fun Z1 H1 a b c d _ q => ha Z1 H1 a b c d _ q
theorem eae_tail {R : Rr M.fp} (ha : Ev M ta σ Z H s R s1) (hr : EvAE M t σ Z H s1 X s2) : EvAE M (tCons ta t) σ Z H s X s2 :=
  fun Z1 H1 a b c d _ q => ha Z1 H1 a b c d _ fun _ Z2 H2 e m _ => hr Z2 H2 (a.trans e.z) (b.trans e.h) e.s m _ fun Z3 H3 e2 m2 => q Z3 H3 (e.trans e2) m2
theorem eve_args {sp : Sp} {E : XK} {dvs : List V} (ha : EvAE M t σ Z H s X s1) : EvE M (tCall sp dvs E t) σ Z H s X s1 := fun Z1 H1 a b c d _ q => ha Z1 H1 a b c d _ q
theorem eve_cb {r : List V → Hp → VK → Prop} (ha : EvAE M t σ Z H s X s1) : EvE M (tCB r t) σ Z H s X s1 := fun Z1 H1 a b c d _ q => ha Z1 H1 a b c d _ q
theorem eve_tup (ha : EvAE M t σ Z H s X s1) : EvE M (tTup t) σ Z H s X s1 := fun Z1 H1 a b c d _ q => ha Z1 H1 a b c d _ q
theorem eve_lst (ha : EvAE M t σ Z H s X s1) : EvE M (tLst t) σ Z H s X s1 := fun Z1 H1 a b c d _ q => ha Z1 H1 a b c d _ q
theorem eve_left {r : R2} (ha : EvE M ta σ Z H s X s1) : EvE M (tOp r ta tb) σ Z H s X s1 := fun Z1 H1 a b c d _ q => ha Z1 H1 a b c d _ q
theorem eve_right {r : R2} {R : Rr M.fp} (ha : Ev M ta σ Z H s R s1) (hb : EvE M tb σ Z H s1 X s2) : EvE M (tOp r ta tb) σ Z H s X s2 :=
  fun Z1 H1 a b c d _ q => ha Z1 H1 a b c d _ fun _ Z2 H2 e m _ => hb Z2 H2 (a.trans e.z) (b.trans e.h) e.s m _ fun Z3 H3 e2 m2 => q Z3 H3 (e.trans e2) m2
theorem eve_fld {f : Str} (ha : EvE M ta σ Z H s X s1) : EvE M (tFld K ta f) σ Z H s X s1 := fun Z1 H1 a b c d _ q => ha Z1 H1 a b c d _ q
theorem eve_call {sp : Sp} {E : XK} {Rs : Ra M.fp} {cls : Value} (C : CallE M sp E Rs s1 cls s2) (ha : EvA M t σ Z H s Rs s1) : EvE M (tCall sp [] E t) σ Z H s (E cls none) s2 :=
  fun Z1 H1 a b c d Q q => ha Z1 H1 a b c d _ fun vs Z2 H2 e m rs => by
    rw [List.append_nil]
    exact C Z2 H2 vs e.s m rs Q fun Z3 H3 e2 m2 => q Z3 H3 (e.trans e2) m2
theorem eve_meth {α : Type} {τ : Ty α} {x : α} {C' : Addr} {m : Str} {sp : Sp} {E : XK} {Rs : Ra M.fp} {cls : Value} (O : ObjOf τ C' m) (C : CallE M sp E (rac (ty τ x) Rs) s2 cls s3) (hx : Ev M ta σ Z H s (ty τ x) s1) (ha : EvA M t σ Z H s1 Rs s2) : EvE M (tMeth C' m sp [] E ta t) σ Z H s (E cls none) s3 :=
  fun Z1 H1 a b c d Q q => hx Z1 H1 a b c d _ fun v Z2 H2 e mm rv => by
    obtain ⟨p, dx, fs, rfl, hp, l⟩ := O _ _ _ rv
    refine ⟨p, dx, fs, rfl, e.s _ _ hp, l, ha Z2 H2 (a.trans e.z) (b.trans e.h) e.s mm _ fun vs Z3 H3 e2 m2 rs => ?_⟩
    rw [List.append_nil]
    exact C Z3 H3 _ e2.s m2 ⟨_, vs, rfl, τ.mono e2.z rv, rs⟩ Q fun Z4 H4 e3 m3 => q Z4 H4 ((e.trans e2).trans e3) m3
theorem eve_methA {α : Type} {τ : Ty α} {x : α} {C' : Addr} {m : Str} {sp : Sp} {E : XK} (O : ObjOf τ C' m) (hx : Ev M ta σ Z H s (ty τ x) s1) (ha : EvAE M t σ Z H s1 X s2) : EvE M (tMeth C' m sp [] E ta t) σ Z H s X s2 :=
  fun Z1 H1 a b c d Q q => hx Z1 H1 a b c d _ fun v Z2 H2 e mm rv => by
    obtain ⟨p, dx, fs, rfl, hp, l⟩ := O _ _ _ rv
    exact ⟨p, dx, fs, rfl, e.s _ _ hp, l, ha Z2 H2 (a.trans e.z) (b.trans e.h) e.s mm _ fun Z3 H3 e2 m2 => q Z3 H3 (e.trans e2) m2⟩
theorem eve_methO {C' : Addr} {m : Str} {sp : Sp} {E : XK} (hx : EvE M ta σ Z H s X s1) : EvE M (tMeth C' m sp [] E ta t) σ Z H s X s1 := fun Z1 H1 a b c d _ q => hx Z1 H1 a b c d _ q
theorem eve_makeA {C : Addr} {sp : Sp} {E : XK} (ha : EvAE M t σ Z H s X s1) : EvE M (tMake C sp [] E t) σ Z H s X s1 := fun Z1 H1 a b c d _ q => ha Z1 H1 a b c d _ q
theorem eve_makeKA {C : Addr} {n k : Nat} {sp : Sp} {E : XK} {gV : List V → List V → List V} {tk : TA} (ha : EvAE M t σ Z H s X s1) : EvE M (tMakeK C n k sp gV E t tk) σ Z H s X s1 := fun Z1 H1 a b c d _ q => ha Z1 H1 a b c d _ q
theorem Step.drop {S : List Addr} {Z H Z1 H1 : Hp} {x : Addr} (g : Step (x :: S) Z H Z1 H1) (hx : H x = none) : Step S Z H Z1 H1 := g.weak fun a h => by
  rcases List.mem_cons.mp h with e | h
  · exact .inr (e ▸ hx)
  · exact .inl h
theorem eve_make {C : Addr} {sp : Sp} {E : XK} {Rs : Ra M.fp} {cls : Value} (I : InitE M C sp E Rs s1 cls s2) (ha : EvA M t σ Z H s Rs s1) : EvE M (tMake C sp [] E t) σ Z H s (E cls none) s2 :=
  fun Z1 H1 a b c d Q q => ha Z1 H1 a b c d _ fun vs Z2 H2 e m rs x dx hx hd ne => by
    rw [List.append_nil]
    have st := Step.dict (C := C) e.s hx hd ne
    have nf : x ∉ M.fp := fun h => (M.al m x h).1 hx
    refine I Z2 _ vs x dx st.s (M.pure st m) (Rs.st st.pure rs) upd_same (same_none e.s hx) nf _ fun Z3 H3 e2 m2 => ?_
    exact q _ _ (e.trans (((st.pure (S := x :: M.fp)).trans e2).drop hx)) m2
theorem eve_makeK {C : Addr} {n k : Nat} {sp : Sp} {E : XK} {Rs Rk Rs' : Ra M.fp} {cls : Value} {gV : List V → List V → List V} {tk : TA} (I : InitE M C sp E Rs' s2 cls s3) (ha : EvA M t σ Z H s Rs s1) (hk : EvA M tk σ Z H s1 Rk s2)
    (hg : ∀ Z H vs zs x, Rs.r Z H vs → Rk.r Z H zs → vs.length = n ∧ zs.length = k ∧ ∃ ws, gV (.ref x :: vs) zs = .ref x :: ws ∧ Rs'.r Z H ws) : EvE M (tMakeK C n k sp gV E t tk) σ Z H s (E cls none) s3 :=
  fun Z1 H1 a b c d Q q => ha Z1 H1 a b c d _ fun vs Z2 H2 e m rs => hk Z2 H2 (a.trans e.z) (b.trans e.h) e.s m _ fun zs Z3 H3 e1 m1 rk => by
    have rs3 := Rs.st e1 rs
    obtain ⟨l1, l2, _⟩ := hg Z3 H3 vs zs 0 rs3 rk
    refine ⟨l1, l2, fun x dx hx hd ne => ?_⟩
    obtain ⟨_, _, ws, eg, rw'⟩ := hg Z3 H3 vs zs x rs3 rk
    rw [eg]
    have st := Step.dict (C := C) e1.s hx hd ne
    have nf : x ∉ M.fp := fun h => (M.al m1 x h).1 hx
    refine I Z3 _ ws x dx st.s (M.pure st m1) (Rs'.st st.pure rw') upd_same (same_none e1.s hx) nf _ fun Z4 H4 e2 m2 => ?_
    exact q _ _ ((e.trans e1).trans (((st.pure (S := x :: M.fp)).trans e2).drop hx)) m2
/-- defaults for all that are not written -/
theorem ev_makeD {C : Addr} {dvs : List V} {sp : Sp} {E : XK} {Rs Rs' : Ra M.fp} {R : Rr M.fp} (I : InitS M C sp E Rs' s1 R s2) (ha : EvA M t σ Z H s Rs s1) (hg : ∀ Z H vs, Rs.r Z H vs → Rs'.r Z H (vs ++ dvs)) : Ev M (tMake C sp dvs E t) σ Z H s R s2 :=
  fun Z1 H1 a b c d Q q => ha Z1 H1 a b c d _ fun vs Z2 H2 e m rs x dx hx hd ne => by
    have st := Step.dict (C := C) e.s hx hd ne
    have nf : x ∉ M.fp := fun h => (M.al m x h).1 hx
    refine I Z2 _ (vs ++ dvs) x dx st.s (M.pure st m) (hg _ _ _ (Rs.st st.pure rs)) upd_same (same_none e.s hx) nf _ fun Z3 H3 o e2 m2 ho rv => ⟨rfl, ?_⟩
    have hz3 : Z3 x = none := e2.n x (by rw [upd_same]; exact fun z => nomatch z) (same_none e.s hx)
    have e3 : Step M.fp Z2 H2 (upd Z3 x o) H3 := ((st.pure (S := x :: M.fp)).trans e2).freeze hx ho hz3
    refine q _ _ _ (e.trans e3) (M.loc (same_upd hz3) (fun _ _ _ e => e) (fun a ha _ z => ?_) m2) rv
    rw [upd_ne (fun q => nf (by rw [← q]; exact ha))]
    exact z
theorem eve_makeD {C : Addr} {dvs : List V} {sp : Sp} {E : XK} {Rs Rs' : Ra M.fp} {cls : Value} (I : InitE M C sp E Rs' s1 cls s2) (ha : EvA M t σ Z H s Rs s1) (hg : ∀ Z H vs, Rs.r Z H vs → Rs'.r Z H (vs ++ dvs)) : EvE M (tMake C sp dvs E t) σ Z H s (E cls none) s2 :=
  fun Z1 H1 a b c d Q q => ha Z1 H1 a b c d _ fun vs Z2 H2 e m rs x dx hx hd ne => by
    have st := Step.dict (C := C) e.s hx hd ne
    have nf : x ∉ M.fp := fun h => (M.al m x h).1 hx
    refine I Z2 _ (vs ++ dvs) x dx st.s (M.pure st m) (hg _ _ _ (Rs.st st.pure rs)) upd_same (same_none e.s hx) nf _ fun Z3 H3 e2 m2 => ?_
    exact q _ _ (e.trans (((st.pure (S := x :: M.fp)).trans e2).drop hx)) m2
/-! a call that is known not to raise -/
end
def Res.val {ε α : Type} (o : Option (Res ε α)) : Option α := o.bind (Res.thn (fun _ => none) some)
def Res.valS {ε α μ : Type} (o : Option (Res ε α × μ)) : Option (α × μ) := o.bind fun p => Res.thn (fun _ => none) (fun a => some (a, p.2)) p.1
theorem val_inv {ε α : Type} {o : Option (Res ε α)} {v : α} (h : Res.val o = some v) : o = some (.ok v) := by
  cases o with
  | none => cases h
  | some r =>
    cases r with
    | ok a => rw [show a = v from Option.some.inj h]
    | er e => cases h
theorem valS_inv {ε α μ : Type} {o : Option (Res ε α × μ)} {v : α × μ} (h : Res.valS o = some v) : o = some (.ok v.1, v.2) := by
  cases o with
  | none => cases h
  | some r =>
    obtain ⟨r, s⟩ := r
    cases r with
    | ok a => rw [← Option.some.inj h]
    | er e => cases h
section
variable {μ : Type} {S : List Addr} {Z0 H0 : Hp} {M : Mu μ} {σ : L2.St} {Z H : Hp} {s s' s1 s2 s3 : μ} {ta tb tc te : TE} {t : TA} {K : PySem.W.Frag} {D : Ends} {u w : TS} {X : Hp → Prop}
/-! tests that raise -/
theorem ete_val (h : EvE M te σ Z H s X s1) : EvTE M (tB te) σ Z H s X s1 := fun Z1 H1 p q r d _ k => h Z1 H1 p q r d _ k
theorem ete_cmp (h : EvE M te σ Z H s X s1) : EvTE M (tTest te) σ Z H s X s1 := fun Z1 H1 p q r d _ k => h Z1 H1 p q r d _ k
theorem ete_not {tA : TT} (h : EvTE M tA σ Z H s X s1) : EvTE M (tNot tA) σ Z H s X s1 := fun Z1 H1 p q r d _ k => h Z1 H1 p q r d _ k
/-! statements that raise -/
theorem st_setE {g : TG} (P : Pt S Z0 H0 M Z H s) (e : EvE M te σ Z H s X s1) (k : ∀ Z1 H1, Step M.fp Z H Z1 H1 → Pt S Z0 H0 M Z1 H1 s1 → X H1) : tAsg te g D σ H :=
  e Z H (Same.refl _) SameX.refl P.sub P.m _ fun Z1 H1 e m => k Z1 H1 e (P.next e m)
theorem st_retE (P : Pt S Z0 H0 M Z H s) (e : EvE M te σ Z H s X s1) (k : ∀ Z1 H1, Step M.fp Z H Z1 H1 → Pt S Z0 H0 M Z1 H1 s1 → X H1) : tRet te D σ H :=
  e Z H (Same.refl _) SameX.refl P.sub P.m _ fun Z1 H1 e m => k Z1 H1 e (P.next e m)
theorem st_exprE (P : Pt S Z0 H0 M Z H s) (e : EvE M te σ Z H s X s1) (k : ∀ Z1 H1, Step M.fp Z H Z1 H1 → Pt S Z0 H0 M Z1 H1 s1 → X H1) : tDrop te D σ H :=
  e Z H (Same.refl _) SameX.refl P.sub P.m _ fun Z1 H1 e m => k Z1 H1 e (P.next e m)
theorem st_ifE {tt : TT} (P : Pt S Z0 H0 M Z H s) (e : EvTE M tt σ Z H s X s1) (k : ∀ Z1 H1, Step M.fp Z H Z1 H1 → Pt S Z0 H0 M Z1 H1 s1 → X H1) : tIfS tt u w D σ H :=
  e Z H (Same.refl _) SameX.refl P.sub P.m _ fun Z1 H1 e m => k Z1 H1 e (P.next e m)
/-- a field of the thing that is being made -/
theorem ev_selfF {α : Type} {τ : Ty α} {x : α} {i : Nat} {p C dx : Addr} {fs : List (Str × V)} {f : Str} {v : V} (hp : H p = some (.ins C dx fs)) (np : p ∉ M.fp) (hσ : σ[i]? = some (some (.ref p))) (c : Cls K C) (n : NoAttr K C f) (l : fs.lookup f = some v) (hv : τ.r Z v x) : Ev M (tFld K (tVar i) f) σ Z H s (ty τ x) s :=
  fun Z1 H1 a b c' d Q q => ⟨.ref p, hσ, p, C, dx, fs, v, rfl, b _ _ np hp, c, n, l, q _ _ _ (Step.refl c') d (τ.mono a hv)⟩
end
end TP
namespace TP
open PySem PySem.Spec PyProof.Rows L2

theorem pi_tupB {X : Cx} {K : PySem.W.Frag} (hK : X.K = K) {tg l : Expr} {tl : TE} (hl : PE X l tl) : PI X tg l (iTup K tl) := by
  subst hK
  exact pi_tup hl
theorem pi_listB {X : Cx} {K : PySem.W.Frag} (hK : X.K = K) {tg l : Expr} {tl : TE} (hl : PE X l tl) : PI X tg l (iList K tl) := by
  subst hK
  exact pi_list hl
def rLenB (K : PySem.W.Frag) : List V → Hp → VK → Prop := fun xs H Q => ∃ p ys, xs = [.ref p] ∧ (SqL K H p ys ∨ SqT K H p ys) ∧ Q (.int ys.length) H
def rListB (K : PySem.W.Frag) : List V → Hp → VK → Prop := fun xs H Q => ∃ p ys, xs = [.ref p] ∧ (SqL K H p ys ∨ SqT K H p ys) ∧ ∀ l, H l = none → Q (.ref l) (upd H l (.lst ys))
def rTupleB (K : PySem.W.Frag) : List V → Hp → VK → Prop := fun xs H Q => ∃ p ys, xs = [.ref p] ∧ ((SqL K H p ys ∧ ∀ l, H l = none → Q (.ref l) (upd H l (.tup ys))) ∨ (SqT K H p ys ∧ Q (.ref p) H))
theorem pe_fldB {X : Cx} {K : PySem.W.Frag} (hK : X.K = K) {e : Expr} {f : Str} {pos : Pos} {ta : TE} (he : PE X e ta) (hb : attributeBase e f X.env (eval e X.env) = eval e X.env) : PE X (.Attribute e f pos) (tFld K ta f) := by
  subst hK
  exact pe_fld he hb
end TP

namespace TP
open PySem PySem.Spec PyProof.Rows L2
theorem kit_self {K : PySem.W.Frag} {C : Addr} : PySem.W.kitOne K (.ref C) (.ref C) = some true := by
  unfold PySem.W.kitOne
  rw [if_pos (by simp)]
theorem kit_sub {K : PySem.W.Frag} {t : Value} {C : Addr} {v : Bool} (h1 : PySem.W.isClsIn K C = true) (h2 : PySem.W.typeIn K (.ref C) = some (.type "type")) (h3 : PySem.W.subIn K t (.ref C) = some v) (h4 : (t == .ref C) = false) : PySem.W.kitOne K t (.ref C) = some v := by
  unfold PySem.W.kitOne
  rw [h4, if_neg Bool.false_ne_true]
  unfold PySem.W.kitCls
  have h1' : (PySem.W.clsIn K C).isSome = true := h1
  simp only [h1', h2, Bool.true_and]
  simp [h3]
theorem kit_subN {K : PySem.W.Frag} {t : Value} {C : Addr} (h1 : PySem.W.isClsIn K C = true) (h2 : PySem.W.typeIn K (.ref C) = some (.type "type")) (h3 : PySem.W.subIn K t (.ref C) = some false) (h4 : PySem.W.subIn K (.ref C) (.ref C) = some true) : PySem.W.kitOne K t (.ref C) = some false := by
  refine kit_sub h1 h2 h3 ?_
  cases e : (t == .ref C) with
  | false => rfl
  | true =>
    have e' : t = .ref C := beq_iff_eq.mp e
    rw [e', h4] at h3
    cases h3
theorem nf_self {K : PySem.W.Frag} {C : Addr} : PySem.W.notFirst K C (.ref C) = true := by simp [PySem.W.notFirst]
theorem nf_sub {K : PySem.W.Frag} {C : Addr} {t : Value} (h : PySem.W.subIn K t (.ref C) = some false) : PySem.W.notFirst K C t = true := by simp [PySem.W.notFirst, h]
end TP

namespace TP
open PySem PySem.Spec PyProof.Rows L2
/-! ### slots of a block forgotten -/
theorem wipe_at {σ : L2.St} {j : Nat} : ∀ {vs : List Nat}, (wipe σ vs)[j]? = if j ∈ vs then (σ[j]?).map fun _ => none else σ[j]?
  | [] => by simp [wipe]
  | v :: vs => by
    unfold wipe
    by_cases h : v = j
    · subst h
      rw [if_pos List.mem_cons_self]
      by_cases hl : v < σ.length
      · rw [List.getElem?_set_self (by rw [wipe_length]; exact hl), List.getElem?_eq_getElem hl]; rfl
      · rw [List.getElem?_eq_none (by rw [List.length_set, wipe_length]; omega), List.getElem?_eq_none (by omega)]; rfl
    · rw [List.getElem?_set_ne h, wipe_at (vs := vs)]
      by_cases g : j ∈ vs
      · rw [if_pos g, if_pos (List.mem_cons_of_mem _ g)]
      · rw [if_neg g, if_neg (fun z => (List.mem_cons.mp z).elim (fun q => h q.symm) g)]
theorem wpe_z {σ : L2.St} {vs : List Nat} : wipe (wipe σ vs) vs = wipe σ vs := by
  refine List.ext_getElem? fun j => ?_
  rw [wipe_at, wipe_at]
  by_cases g : j ∈ vs
  · rw [if_pos g, if_pos g]; cases σ[j]? <;> rfl
  · rw [if_neg g, if_neg g]
theorem wpe_s {σ σ1 : L2.St} {vs : List Nat} {i : Nat} {x : Option V} (h : wipe σ1 vs = wipe σ vs) (m : i ∈ vs) : wipe (σ1.set i x) vs = wipe σ vs := by
  rw [← h]
  refine List.ext_getElem? fun j => ?_
  rw [wipe_at, wipe_at]
  by_cases g : j ∈ vs
  · rw [if_pos g, if_pos g]
    by_cases e : i = j
    · subst e
      by_cases hl : i < σ1.length
      · rw [List.getElem?_set_self hl, List.getElem?_eq_getElem hl]; rfl
      · rw [List.getElem?_eq_none (by rw [List.length_set]; omega), List.getElem?_eq_none (by omega)]
    · rw [List.getElem?_set_ne e]
  · rw [if_neg g, if_neg g, List.getElem?_set_ne (fun e => g (by rw [← e]; exact m))]
end TP

namespace TP
open PySem PySem.Spec PyProof.Rows L2
/-- the slots written out -/
theorem st_norm {nx : L2.St → Hp → Prop} {σ σ' : L2.St} {H : Hp} (e : σ = σ') (h : nx σ' H) : nx σ H := by
  rw [e]; exact h
end TP

/-! != of instances with an own ==, and == and != of such an instance with anything -/
namespace TPN
open PySem PySem.Spec PyProof.Rows L2
section
variable {M : Model} {prog : Program} {w : World} {A : Around} {E : Value → Shared → Prop} {s : Shared} {K : PySem.W.Frag} {x C f : Addr} {ox : Obj} {od : Option Obj} {b tb : Value}
theorem ifBound_ne {args : List Value} {Q : Option Value → Shared → Prop} (X : K.In s.heap) (I : PySem.W.InstAt s.heap x ox C od) (hs : PySem.W.findIn K (.ref C) "__ne__" = some (some (.builtin "object.__ne__")))
    (h : wpAny M A (call (.builtin "object.__ne__") (.ref x :: args)) (fun v => Q (some v)) E s) : wpAny M A (callSpecialIfBound? (.ref x) "__ne__" args) Q E s := by
  simp only [callSpecialIfBound?, bindSpecialIfBound?]
  refine wpAny_holding (wpAny_bind (wpAny_bind (wpAny_bind (I.type.here ((PySem.W.looks_findIn X hs).here ?_)))))
  refine wpAny_bind (wpAny_askSetting (wpAny_ite ?_))
  have fin : wpAny M A (call (.builtin "object.__ne__") ([.ref x] ++ args) >>= fun v => pure (some v)) Q E s := wpAny_bind (wpAny_mono h (fun v s' h' => wpAny_pure h') fun _ _ h' => h')
  split
  · exact wpAny_bind (wpAny_of_eq (F.cmp_object.ne.bind _) (wpAny_pure (by exact fin)))
  · exact wpAny_tryCatch (wpAny_bind (wpAny_of_eq (F.cmp_object.ne.bind _) (wpAny_pure (by exact fin))))
theorem entry_ne {Q : Fin → Shared → Prop} (hu : A.units < cLine) (X : K.In s.heap) (I : PySem.W.InstAt s.heap x ox C od) (hs : PySem.W.findIn K (.ref C) "__eq__" = some (some (.ref f))) (hf : PySem.W.isFn K (.ref f) = true)
    (h : wpAny M A (call (.ref f) [.ref x, b]) (fun v s' => ∃ r, v = .bool r ∧ Q (.done (.ret (.bool (!r)))) s') E s) : wpAny M A (Builtin.«object.__ne__» ⟨[.ref x, b], []⟩) Q E s := by
  unfold Builtin.«object.__ne__»
  repeat (first
    | with_reducible refine wpAny_cRoomFor hu ?_
    | (refine wpAny_bind (m := callSpecialIfBound? (.ref x) (Str.ofString "__eq__") [b]) (PySem.W.ifBound_K X I hs hf (wpAny_mono h (fun r s' hr => by
        obtain ⟨b, rfl, hq⟩ := hr
        repeat (first | exact hq | exact wpAny_pure hq | exact wpAny_truthy_bool hq | (refine wpAny_bind (m := truthy (.bool _)) (wpAny_truthy_bool ?_)) | wp_step)) fun _ _ e => e)))
    | wp_step)
theorem call_ne {Q : Value → Shared → Prop} (hu : A.units + 1 < cLine) (X : K.In s.heap) (I : PySem.W.InstAt s.heap x ox C od) (hm : PySem.W.mroIn K C (.type "object") = some true) (hs : PySem.W.findIn K (.ref C) "__eq__" = some (some (.ref f))) (hf : PySem.W.isFn K (.ref f) = true)
    (h : wpAny (model prog w) A.in1 (call (.ref f) [.ref x, b]) (fun v s' => ∃ r, v = .bool r ∧ Q (.bool (!r)) s') E s) :
    wpAny (model prog w) A (call (.builtin "object.__ne__") [.ref x, b]) Q E s :=
  wpAny_call (codeAny_call_builtin F.cmp_object.ne.plain F.cmpEntry_ne (PySem.W.check_slot F.cmpKind_ne F.cmpSplit_ne (I.type.andThen (PySem.W.looks_mroIn X hm)) (F.cmpArgs_ne _ _) (entry_ne (A := A.in1) hu X I hs hf (wpAny_mono h (fun v s' hv => by
    obtain ⟨r, e, q⟩ := hv
    exact ⟨r, e, q⟩) fun _ _ e => e))))
theorem ne_K {Q : Value → Shared → Prop} (hu : A.units + 1 < cLine) (X : K.In s.heap) (I : PySem.W.InstAt s.heap x ox C od) (hb : PySem.W.Looks (model prog w) s.heap (typeOf b) tb) (hn : PySem.W.notFirst K C tb = true)
    (hm : PySem.W.mroIn K C (.type "object") = some true) (hne : PySem.W.findIn K (.ref C) "__ne__" = some (some (.builtin "object.__ne__")))
    (hs : PySem.W.findIn K (.ref C) "__eq__" = some (some (.ref f))) (hf : PySem.W.isFn K (.ref f) = true)
    (h : wpAny (model prog w) A.in1 (call (.ref f) [.ref x, b]) (fun v s' => ∃ r, v = .bool r ∧ Q (.bool (!r)) s') E s) : wpAny (model prog w) A (richCompare .NotEq (.ref x) b) Q E s := by
  have one : wpAny (model prog w) A (tryCompare (.ref x) "__ne__" b) (fun r s' => ∃ v, r = some v ∧ Q v s') E s := by
    unfold tryCompare
    refine wpAny_bind (ifBound_ne X I hne (call_ne hu X I hm hs hf (wpAny_mono h (fun v s' hv => ?_) fun _ _ e => e)))
    obtain ⟨r, rfl, q⟩ := hv
    exact ⟨r, rfl, wpAny_pure ⟨_, rfl, q⟩⟩
  unfold richCompare
  simp only [oneThing_ref]
  refine wpAny_holding (wpAny_bind (wpAny_cRoomFor (by omega) ?_))
  rw [cmpInfo_NotEq]
  dsimp only
  refine wpAny_bind (I.type.here (wpAny_bind (hb.here ?_)))
  split
  · rename_i q
    have e : PySem.W.subIn K tb (.ref C) = some false := by
      rcases Bool.or_eq_true_iff.mp hn with e | e
      · rw [beq_iff_eq.mp e] at q; simp at q
      · exact beq_iff_eq.mp e
    refine wpAny_bind ((PySem.W.looks_subIn X e).here ?_)
    simp only [Bool.false_eq_true, if_false]
    refine wpAny_bind (wpAny_mono one (fun r s' z => ?_) fun _ _ e => e)
    obtain ⟨v, rfl, hq⟩ := z
    exact wpAny_pure hq
  · refine wpAny_bind (wpAny_pure ?_)
    simp only [Bool.false_eq_true, if_false]
    refine wpAny_bind (wpAny_mono one (fun r s' z => ?_) fun _ _ e => e)
    obtain ⟨v, rfl, hq⟩ := z
    exact wpAny_pure hq
end
end TPN
namespace TPN
open PySem PySem.Spec PyProof.Rows L2
/-- == (neg false) or != of x, an instance of a class with an own ==, with anything -/
def rOwnE (K : PySem.W.Frag) (C : Addr) (neg : Bool) (sp : Sp) (E : XK) : R2 := fun x y H Q => ∃ a dx fs t, x = .ref a ∧ H a = some (.ins C dx fs) ∧ TyX K H y t ∧ PySem.W.notFirst K C t = true ∧ sp [x, y] H (fun z H' => ∃ b, z = .bl b ∧ Q (.bl (b != neg)) H') E
theorem nf_self {K : PySem.W.Frag} {C : Addr} : PySem.W.notFirst K C (.ref C) = true := by simp [PySem.W.notFirst]
theorem op_ownE {X : Cx} {CX : CXT} {C f : Addr} {fd : FuncData} {ps : List Str} {sp : Sp} {n : Nat} {E : XK} (M : Meth X.K C "__eq__" f) (F : FnOk X.prog X.w X.K X.mg X.base CX n f fd ps sp) (hr : Room n X.A)
    (hb : Binds X.K fd ps []) (hx : Passes CX X E) : OpR X (compareOp .Eq) (rOwnE X.K C false sp E) := by
  intro pins s σ H x y v u Q I rx ry h
  obtain ⟨a, dx, fs, t, rfl, ha, ty, hn, q⟩ := h
  cases (show v = Value.ref a from rx)
  obtain ⟨mA, J, _⟩ := ins_get I.hok ha
  obtain ⟨od, J, _⟩ := J.look
  obtain ⟨P, Z, p, _⟩ := kit_of I ry ty
  obtain ⟨m, hF⟩ := I.fr
  show wpAny (model X.prog X.w) X.A (richCompare .Eq (.ref a) u) _ _ _
  refine PySem.W.cmp_K (op := .Eq) (tb := t) hr.units0 hF I.ok.mod.kin J (Z.ty _ _ I.kIn p) hn M.at_ M.fn ?_
  refine wpAny_mono (run_fn (Q := fun z H' => ∃ b, z = .bl b ∧ Q (.bl (b != false)) H') (us := [.ref a, u]) (vs := [.ref a, y]) F hr hb .nil hx I (.cons rfl (.cons ry .nil)) (by simpa using q)) (fun w s' z => ?_) fun _ _ x => x
  obtain ⟨z', H', I', rz, b, ez, qz⟩ := z
  subst ez
  cases (show w = Value.bool b from rz)
  exact ⟨.bl b, H', I', rfl, by simpa using qz⟩
theorem op_ownNE {X : Cx} {CX : CXT} {C f : Addr} {fd : FuncData} {ps : List Str} {sp : Sp} {n : Nat} {E : XK} (hm : PySem.W.mroIn X.K C (.type "object") = some true) (hne : PySem.W.findIn X.K (.ref C) "__ne__" = some (some (.builtin "object.__ne__")))
    (M : Meth X.K C "__eq__" f) (F : FnOk X.prog X.w X.K X.mg X.base CX n f fd ps sp) (hr : Room (n + 1) X.A)
    (hb : Binds X.K fd ps []) (hx : ∀ (pins : List (Addr × Obj)) (σ : L2.St) (H : Hp) (s : Shared) (e : Value) (s' : Shared), Inv X pins σ H s → CX X.stack H s E e s' → X.xe e s') : OpR X (compareOp .NotEq) (rOwnE X.K C true sp E) := by
  intro pins s σ H x y v u Q I rx ry h
  obtain ⟨a, dx, fs, t, rfl, ha, ty, hn, q⟩ := h
  cases (show v = Value.ref a from rx)
  obtain ⟨mA, J, _⟩ := ins_get I.hok ha
  obtain ⟨od, J, _⟩ := J.look
  obtain ⟨P, Z, p, _⟩ := kit_of I ry ty
  show wpAny (model X.prog X.w) X.A (richCompare .NotEq (.ref a) u) _ _ _
  have hr1 : Room n X.A.in1 := hr.in1
  refine ne_K (A := X.A) (tb := t) (by have := hr1.units0; exact this) I.kIn J (Z.ty _ _ I.kIn p) hn hm hne M.at_ M.fn ?_
  have e0 : Env0 X.prog X.w X.K X.mg X.base X.A.in1 X.stack s H := I.env0.in1
  have r2 : Vals [V.ref a, y] [Value.ref a, u] := .cons rfl (.cons ry .nil)
  have hl : ([Value.ref a, u] : List Value).length = ps.length := by rw [← r2.length]; exact F.len _ _ _ _ q
  refine wpAny_call (codeAny_mono (F.run X.A.in1 X.stack s H ⟨[.ref a, u], []⟩ [.ref a, u] [.ref a, y] _ E hr1 e0 (by
    have := hb s [.ref a, u] I.kIn (by simpa using hl)
    simpa using this) r2 q) fun r s' hq => ?_)
  cases r with
  | error e => exact hx pins σ H s e s' I hq
  | ok fl =>
    cases fl with
    | ret w =>
      obtain ⟨z, H', I', rz, b, ez, qz⟩ := I.after hq
      subst ez
      cases (show w = Value.bool b from rz)
      exact ⟨b, rfl, .bl (!b), H', I', rfl, by simpa using qz⟩
    | next => exact False.elim hq
    | brk => exact False.elim hq
    | cont => exact False.elim hq
end TPN

namespace TPN
open PySem PySem.Spec PyProof.Rows L2 PySem.SeqAt
section
variable {prog : Program} {w : World} {A : Around} {E : Value → Shared → Prop} {s : Shared} {K : PySem.W.Frag} {y C f : Addr} {oy : Obj} {od : Option Obj}
/-- None == an instance: its own == is asked -/
theorem eq_none_ref {Q : Value → Shared → Prop} (hu : A.units < cLine) (X : K.In s.heap) (I : PySem.W.InstAt s.heap y oy C od) (hsub : PySem.W.subIn K (.ref C) (.type "NoneType") = some false)
    (hs : PySem.W.findIn K (.ref C) "__eq__" = some (some (.ref f))) (hf : PySem.W.isFn K (.ref f) = true)
    (h : wpAny (model prog w) A (call (.ref f) [.ref y, .none]) (fun v s' => ∃ r, v = .bool r ∧ Q (.bool r) s') E s) : wpAny (model prog w) A (richCompare .Eq .none (.ref y)) Q E s := by
  have one : wpAny (model prog w) A (tryCompare .none "__eq__" (.ref y)) (fun r s' => r = none ∧ s' = s) E s :=
    wpAny_tryCompare_declines (show s.TypeIs .none "NoneType" from rfl) F.slot_NoneType_eq (call_gives F.slot_NoneType_eq rfl F.entry_NoneType_eq (F.args_NoneType_eq_2 _ _) (NoneType___eq___none_ref_0 y) ⟨rfl, rfl, rfl⟩)
  have two : wpAny (model prog w) A (tryCompare (.ref y) "__eq__" .none) (fun r s' => ∃ v, r = some v ∧ Q v s') E s := by
    unfold tryCompare
    refine wpAny_bind (PySem.W.ifBound_K X I hs hf (wpAny_mono h (fun v s' hv => ?_) fun _ _ e => e))
    obtain ⟨r, rfl, q⟩ := hv
    exact wpAny_pure ⟨_, rfl, q⟩
  have e0 : oneThing? .Eq .none (.ref y) = none := rfl
  simp only [richCompare, cmpInfo_Eq, e0]
  refine wpAny_holding (wpAny_bind (wpAny_cRoomFor hu ?_))
  refine wpAny_bind (wpAny_typeOf (show s.TypeIs .none "NoneType" from rfl) ?_)
  refine wpAny_bind (I.type.here ?_)
  have fin : wpAny (model prog w) A (tryCompare .none "__eq__" (.ref y)) (fun r s' => r = none ∧ s' = s) E s := one
  split
  · refine wpAny_bind ((PySem.W.looks_subIn X hsub).here ?_)
    simp only [Bool.false_eq_true, if_false, Bool.not_false, if_true]
    refine wpAny_bind (m := tryCompare .none _ (.ref y)) (wpAny_mono one (fun r s1 z => ?_) fun _ _ e => e)
    obtain ⟨z1, z2⟩ := z
    subst z1
    subst z2
    refine wpAny_bind (m := tryCompare (.ref y) _ .none) (wpAny_mono two (fun r s2 z => ?_) fun _ _ e => e)
    obtain ⟨v, rfl, q⟩ := z
    exact wpAny_pure q
  · rename_i q
    exact absurd (by simp) q
end
/-- == of what may be None or an instance of the class at C with an own == -/
def rOptE (K : PySem.W.Frag) (C : Addr) (sp : Sp) (E : XK) : R2 := fun x y H Q => (x = .non ∧ y = .non ∧ Q (.bl true) H) ∨ (x = .non ∧ (∃ a dx fs, y = .ref a ∧ H a = some (.ins C dx fs)) ∧ sp [y, x] H (fun z H' => ∃ b, z = .bl b ∧ Q (.bl b) H') E) ∨ rOwnE K C false sp E x y H Q
theorem op_optE {X : Cx} {CX : CXT} {C f : Addr} {fd : FuncData} {ps : List Str} {sp : Sp} {n : Nat} {E : XK} (hn : PySem.W.subIn X.K (.ref C) (.type "NoneType") = some false) (M : Meth X.K C "__eq__" f) (F : FnOk X.prog X.w X.K X.mg X.base CX n f fd ps sp) (hr : Room n X.A)
    (hb : Binds X.K fd ps []) (hx : Passes CX X E) : OpR X (compareOp .Eq) (rOptE X.K C sp E) := by
  intro pins s σ H x y v u Q I rx ry h
  rcases h with ⟨rfl, rfl, q⟩ | ⟨rfl, ⟨a, dx, fs, rfl, ha⟩, q⟩ | h
  · exact op_eq pins s σ H .non .non v u Q I rx ry ⟨rfl, by simpa using q⟩
  · cases rx
    cases (show u = Value.ref a from ry)
    obtain ⟨mA, J, _⟩ := ins_get I.hok ha
    obtain ⟨od, J, _⟩ := J.look
    show wpAny (model X.prog X.w) X.A (richCompare .Eq .none (.ref a)) _ _ _
    refine eq_none_ref hr.units0 I.kIn J hn M.at_ M.fn ?_
    refine wpAny_mono (run_fn (Q := fun z H' => ∃ b, z = .bl b ∧ Q (.bl b) H') (us := [.ref a, .none]) (vs := [.ref a, .non]) F hr hb .nil hx I (.cons rfl (.cons rfl .nil)) (by simpa using q)) (fun w s' z => ?_) fun _ _ x => x
    obtain ⟨z', H', I', rz, b, ez, qz⟩ := z
    subst ez
    cases (show w = Value.bool b from rz)
    exact ⟨b, rfl, .bl b, H', I', rfl, qz⟩
  · exact op_ownE M F hr hb hx pins s σ H x y v u Q I rx ry h
end TPN

namespace TP
open PySem PySem.Spec PyProof.Rows L2
/-! ### data by what == says of it -/
structure EqW (K : PySem.W.Frag) {α : Type} (τ : Ty α) (d : α → PyData) (n : Nat) : Prop where
  dp : ∀ Z H v x, Same Z H → τ.r Z v x → Dp K H v (d x)
  lay : ∀ Z v x, τ.r Z v x → (d x).canLay0 = true
  dep : ∀ x, (d x).depth ≤ n
def dLst {α : Type} (d : α → PyData) (xs : List α) : PyData := .list (xs.map d)
def dTup {α : Type} (d : α → PyData) (xs : List α) : PyData := .tuple (xs.map d)
def dP1 {α : Type} (d : α → PyData) (x : α) : PyData := .tuple [d x]
def dP2 {α β : Type} (d : α → PyData) (e : β → PyData) (x : α × β) : PyData := .tuple [d x.1, e x.2]
def dP3 {α β γ : Type} (d : α → PyData) (e : β → PyData) (f : γ → PyData) (x : α × β × γ) : PyData := .tuple [d x.1, e x.2.1, f x.2.2]
def dP4 {α β γ δ : Type} (d : α → PyData) (e : β → PyData) (f : γ → PyData) (g : δ → PyData) (x : α × β × γ × δ) : PyData := .tuple [d x.1, e x.2.1, f x.2.2.1, g x.2.2.2]
def dNon (_ : Unit) : PyData := .none
section
variable {K : PySem.W.Frag} {α β γ δ : Type} {τ : Ty α} {υ : Ty β} {φ : Ty γ} {ψ : Ty δ} {d : α → PyData} {e : β → PyData} {f : γ → PyData} {g : δ → PyData} {n m k l : Nat}
theorem EqD.w (E : EqD K τ d n) : EqW K τ d n := ⟨E.dp, E.lay, E.dep⟩
theorem EqW.all (E : EqW K τ d n) {Z H : Hp} (sz : Same Z H) : ∀ {vs : List V} {xs : List α}, All (τ.r Z) vs xs → DpAll K H vs (xs.map d)
  | _, _, .nil => .nil
  | _, _, .cons h t => .cons (E.dp _ _ _ _ sz h) (E.all sz t)
theorem EqW.lays (E : EqW K τ d n) {Z : Hp} : ∀ {vs : List V} {xs : List α}, All (τ.r Z) vs xs → PyData.canLayAll0 (xs.map d) = true
  | _, _, .nil => by simp [PyData.canLayAll0]
  | _, _, .cons h t => by
    have h1 := E.lay _ _ _ h
    have h2 := E.lays t
    simp [PyData.canLayAll0, h1, h2]
theorem EqW.deps (E : EqW K τ d n) : ∀ xs : List α, PyData.depthAll (xs.map d) ≤ n
  | [] => by simp [PyData.depthAll]
  | x :: r => by
    have h1 := E.dep x
    have h2 := E.deps r
    simp only [List.map_cons, PyData.depthAll]
    omega
theorem eqw_list (E : EqW K τ d n) : EqW K (yList τ) (dLst d) (n + 1) where
  dp := fun Z H v x sz ⟨a, vs, e, h, t, _⟩ => by subst e; exact .lst (SqL.of (sz _ _ h)) (E.all sz t)
  lay := fun Z v x ⟨a, vs, e, h, t, _⟩ => by simpa [PyData.canLay0, dLst] using E.lays t
  dep := fun x => by have := E.deps x; simp only [PyData.depth, dLst]; omega
theorem eqw_tup (E : EqW K τ d n) : EqW K (yTup K τ) (dTup d) (n + 1) where
  dp := fun Z H v x sz ⟨a, vs, e, h, t, _⟩ => by subst e; exact .tup (seqT_same sz h) (E.all sz t)
  lay := fun Z v x ⟨a, vs, e, h, t, _⟩ => by simpa [PyData.canLay0, dTup] using E.lays t
  dep := fun x => by have := E.deps x; simp only [PyData.depth, dTup]; omega
theorem eqw_p1 (E : EqW K τ d n) : EqW K (yP1 K τ) (dP1 d) (n + 1) where
  dp := fun Z H v x sz ⟨a, v1, e, h, h1⟩ => by subst e; exact .tup (seqT_same sz h) (.cons (E.dp _ _ _ _ sz h1) .nil)
  lay := fun Z v x ⟨a, v1, e, h, h1⟩ => by simp [PyData.canLay0, PyData.canLayAll0, dP1, E.lay _ _ _ h1]
  dep := fun x => by have := E.dep x; simp only [PyData.depth, PyData.depthAll, dP1]; omega
theorem eqw_p2 (E : EqW K τ d n) (F : EqW K υ e m) : EqW K (yP2 K τ υ) (dP2 d e) (max n m + 1) where
  dp := fun Z H v x sz ⟨a, v1, v2, e, h, h1, h2⟩ => by subst e; exact .tup (seqT_same sz h) (.cons (E.dp _ _ _ _ sz h1) (.cons (F.dp _ _ _ _ sz h2) .nil))
  lay := fun Z v x ⟨a, v1, v2, e, h, h1, h2⟩ => by simp [PyData.canLay0, PyData.canLayAll0, dP2, E.lay _ _ _ h1, F.lay _ _ _ h2]
  dep := fun x => by have := E.dep x.1; have := F.dep x.2; simp only [PyData.depth, PyData.depthAll, dP2]; omega
theorem eqw_p3 (E : EqW K τ d n) (F : EqW K υ e m) (G : EqW K φ f k) : EqW K (yP3 K τ υ φ) (dP3 d e f) (max n (max m k) + 1) where
  dp := fun Z H v x sz ⟨a, v1, v2, v3, e, h, h1, h2, h3⟩ => by subst e; exact .tup (seqT_same sz h) (.cons (E.dp _ _ _ _ sz h1) (.cons (F.dp _ _ _ _ sz h2) (.cons (G.dp _ _ _ _ sz h3) .nil)))
  lay := fun Z v x ⟨a, v1, v2, v3, e, h, h1, h2, h3⟩ => by simp [PyData.canLay0, PyData.canLayAll0, dP3, E.lay _ _ _ h1, F.lay _ _ _ h2, G.lay _ _ _ h3]
  dep := fun x => by have := E.dep x.1; have := F.dep x.2.1; have := G.dep x.2.2; simp only [PyData.depth, PyData.depthAll, dP3]; omega
theorem eqw_p4 (E : EqW K τ d n) (F : EqW K υ e m) (G : EqW K φ f k) (I : EqW K ψ g l) : EqW K (yP4 K τ υ φ ψ) (dP4 d e f g) (max n (max m (max k l)) + 1) where
  dp := fun Z H v x sz ⟨a, v1, v2, v3, v4, e, h, h1, h2, h3, h4⟩ => by subst e; exact .tup (seqT_same sz h) (.cons (E.dp _ _ _ _ sz h1) (.cons (F.dp _ _ _ _ sz h2) (.cons (G.dp _ _ _ _ sz h3) (.cons (I.dp _ _ _ _ sz h4) .nil))))
  lay := fun Z v x ⟨a, v1, v2, v3, v4, e, h, h1, h2, h3, h4⟩ => by simp [PyData.canLay0, PyData.canLayAll0, dP4, E.lay _ _ _ h1, F.lay _ _ _ h2, G.lay _ _ _ h3, I.lay _ _ _ h4]
  dep := fun x => by have := E.dep x.1; have := F.dep x.2.1; have := G.dep x.2.2.1; have := I.dep x.2.2.2; simp only [PyData.depth, PyData.depthAll, dP4]; omega
theorem eqw_non : EqW K yNon dNon 0 := ⟨fun _ _ _ x _ h => by cases h; exact .non, fun _ _ _ _ => rfl, fun _ => Nat.le_refl _⟩
theorem eqw_opt (E : EqW K τ d n) : EqW K (yOpt τ) (optD d) n where
  dp := fun Z H v x sz h => match x, h with
    | none, h => by rw [show v = .non from h]; exact .non
    | some x, h => E.dp _ _ _ _ sz h.1
  lay := fun Z v x h => match x, h with
    | none, h => rfl
    | some x, h => E.lay _ _ _ h.1
  dep := fun x => match x with
    | none => Nat.zero_le _
    | some x => E.dep x
theorem EqW.gd {fp : List Addr} (E : EqW K τ d n) (x : α) : GD K (ty (fp := fp) τ x) (d x) := fun _ _ _ sz h => ⟨E.dp _ _ _ _ sz h, E.lay _ _ _ h⟩
theorem EqW.gdl {fp : List Addr} (E : EqW K τ d n) (xs : List α) : GD K (li (fp := fp) τ xs) (dLst d xs) := fun _ _ _ sz h => by
  obtain ⟨p, vs, rfl, g, t, _⟩ := rdl sz h
  exact ⟨.lst (SqL.of g) (E.all sz t), by simpa [PyData.canLay0, dLst] using E.lays t⟩
theorem EqW.dpt (E : EqW K τ d n) (h : n ≤ 64) (x : α) : (d x).depth ≤ 64 := Nat.le_trans (E.dep x) h
theorem EqW.dpl (E : EqW K τ d n) (h : n + 1 ≤ 64) (xs : List α) : (dLst d xs).depth ≤ 64 := by have := E.deps xs; simp only [PyData.depth, dLst]; omega
end
section
variable {μ : Type} {M : Mu μ} {σ : L2.St} {Z H : Hp} {s s' s1 s2 s3 : μ} {ta tb tc te : TE} {t : TA} {K : PySem.W.Frag}
theorem ev_eqW {R R' : Rr M.fp} {c c' : PyData} (G : GD K R c) (G' : GD K R' c') (l : c.depth ≤ 64) (l' : c'.depth ≤ 64) (ha : Ev M ta σ Z H s R s1) (hb : Ev M tb σ Z H s1 R' s2) : Ev M (tOp (rEqD K) ta tb) σ Z H s (ty yBool (PyData.eqv c c')) s2 :=
  ev_op ha hb fun _ _ _ _ sz e1 e2 _ q => by
    obtain ⟨d1, k1⟩ := G _ _ _ sz e1
    obtain ⟨d2, k2⟩ := G' _ _ _ sz e2
    exact ⟨c, c', d1, d2, shaped_of k1 l (Nat.le_refl _), shaped_of k2 l' (Nat.le_refl _), q _ _ _ (Step.refl sz) rfl⟩
theorem ev_neW {R R' : Rr M.fp} {c c' : PyData} (G : GD K R c) (G' : GD K R' c') (l : c.depth ≤ 64) (l' : c'.depth ≤ 64) (ha : Ev M ta σ Z H s R s1) (hb : Ev M tb σ Z H s1 R' s2) : Ev M (tOp (rNeD K) ta tb) σ Z H s (ty yBool (!PyData.eqv c c')) s2 :=
  ev_op ha hb fun _ _ _ _ sz e1 e2 _ q => by
    obtain ⟨d1, k1⟩ := G _ _ _ sz e1
    obtain ⟨d2, k2⟩ := G' _ _ _ sz e2
    exact ⟨c, c', d1, d2, shaped_of k1 l (Nat.le_refl _), shaped_of k2 l' (Nat.le_refl _), q _ _ _ (Step.refl sz) rfl⟩
theorem ev_cmpS {F : Str → Str → Bool} {x y : Str} (ha : Ev M ta σ Z H s (ty yStr x) s1) (hb : Ev M tb σ Z H s1 (ty yStr y) s2) : Ev M (tOp (fun x y H Q => ∃ i j, x = .str i ∧ y = .str j ∧ Q (.bl (F i j)) H) ta tb) σ Z H s (ty yBool (F x y)) s2 :=
  ev_op ha hb fun _ _ _ _ sz e1 e2 _ q => ⟨x, y, e1.1, e2.1, q _ _ _ (Step.refl sz) rfl⟩
theorem ev_chainG {R1 R0 R3 : Rr M.fp} {r r' : R2} {p q : Bool} (h1 : ∀ Z H x y, Same Z H → R1.r Z H x → R0.r Z H y → ∀ Q : VK, Q (.bl p) H → r x y H Q) (h2 : ∀ Z H x y, Same Z H → R0.r Z H x → R3.r Z H y → ∀ Q : VK, Q (.bl q) H → r' x y H Q)
    (ha : Ev M ta σ Z H s R1 s1) (hb : Ev M tb σ Z H s1 R0 s1) (hc : Ev M tc σ Z H s1 R3 s1) : Ev M (tChain r r' ta tb tc) σ Z H s (ty yBool (p && q)) s1 :=
  fun Z1 H1 a b c d Q k => ha Z1 H1 a b c d _ fun v Z2 H2 e m rv => hb Z2 H2 (a.trans e.z) (b.trans e.h) e.s m _ fun w Z3 H3 e2 m2 rw => by
    have e3 := e.trans e2
    refine h1 Z3 H3 v w e2.s (R1.st e2 rv) rw _ ⟨p, rfl, ?_⟩
    cases p with
    | true => rw [if_pos rfl]; exact hc Z3 H3 (a.trans e3.z) (b.trans e3.h) e3.s m2 _ fun u Z4 H4 e4 m4 ru => h2 Z4 H4 w u e4.s (R0.st e4 rw) ru _ (k _ Z4 H4 (e3.trans e4) m4 rfl)
    | false => rw [if_neg Bool.false_ne_true]; exact k _ Z3 H3 e3 m2 rfl
/-- the third part is read only where the first two hold -/
theorem ev_chainB {i j : Int} {b : Bool} {o : Option Bool} {p r : Int → Int → Bool} (ha : Ev M ta σ Z H s (ty yInt i) s1) (hb : Ev M tb σ Z H s1 (ty yInt j) s1) (hc : p i j = true → ∀ y, o = some y → ∃ k, y = r j k ∧ Ev M tc σ Z H s1 (ty yInt k) s1) (h : (if p i j = true then o else some false) = some b) :
    Ev M (tChain (rI0 fun i j => .bl (p i j)) (rI0 fun i j => .bl (r i j)) ta tb tc) σ Z H s (ty yBool b) s1 := by
  cases hp : p i j with
  | false =>
    rw [if_neg (by rw [hp]; exact Bool.false_ne_true)] at h
    have hb' := Option.some.inj h
    subst hb'
    intro Z1 H1 a b c d Q q
    exact ha Z1 H1 a b c d _ fun v Z2 H2 e m rv => hb Z2 H2 (a.trans e.z) (b.trans e.h) e.s m _ fun w Z3 H3 e2 m2 rw => ⟨i, j, rv, rw, p i j, rfl, by
      rw [hp, if_neg Bool.false_ne_true]
      exact q _ Z3 H3 (e.trans e2) m2 rfl⟩
  | true =>
    rw [if_pos hp] at h
    obtain ⟨k, rfl, hk⟩ := hc hp b h
    have := ev_chainO (b := true) (o := none) (p := p) (r := r) ha hb (fun _ => hk)
    rw [hp, Bool.true_and] at this
    exact this
theorem ev_chainS {F G : Str → Str → Bool} {x y z : Str} (ha : Ev M ta σ Z H s (ty yStr x) s1) (hb : Ev M tb σ Z H s1 (ty yStr y) s1) (hc : Ev M tc σ Z H s1 (ty yStr z) s1) :
    Ev M (tChain (fun x y H Q => ∃ i j, x = .str i ∧ y = .str j ∧ Q (.bl (F i j)) H) (fun x y H Q => ∃ i j, x = .str i ∧ y = .str j ∧ Q (.bl (G i j)) H) ta tb tc) σ Z H s (ty yBool (F x y && G y z)) s1 :=
  ev_chainG (R1 := ty yStr x) (R0 := ty yStr y) (R3 := ty yStr z) (fun _ _ _ _ _ e1 e2 _ q => ⟨x, y, e1.1, e2.1, q⟩) (fun _ _ _ _ _ e1 e2 _ q => ⟨y, z, e1.1, e2.1, q⟩) ha hb hc
theorem ev_isB {x y : Bool} (ha : Ev M ta σ Z H s (ty yBool x) s1) (hb : Ev M tb σ Z H s1 (ty yBool y) s2) : Ev M (tOp rIsB ta tb) σ Z H s (ty yBool (decide (x = y))) s2 :=
  ev_op ha hb fun _ _ _ _ sz e1 e2 _ q => ⟨x, y, e1, e2, q _ _ _ (Step.refl sz) rfl⟩
theorem ev_notB {x y : Bool} (ha : Ev M ta σ Z H s (ty yBool x) s1) (hb : Ev M tb σ Z H s1 (ty yBool y) s2) : Ev M (tOp rNotB ta tb) σ Z H s (ty yBool (!decide (x = y))) s2 :=
  ev_op ha hb fun _ _ _ _ sz e1 e2 _ q => ⟨x, y, e1, e2, q _ _ _ (Step.refl sz) rfl⟩
theorem all_nil {α : Type} {R : V → α → Prop} {vs : List V} {xs : List α} (h : All R vs xs) (e : vs = []) : xs = [] := by
  cases h with
  | nil => rfl
  | cons _ _ => cases e
theorem ev_catT {α : Type} {τ : Ty α} {xs ys : List α} (ha : Ev M ta σ Z H s (ty (yTup K τ) xs) s1) (hb : Ev M tb σ Z H s1 (ty (yTup K τ) ys) s2) (l : xs.length + ys.length ≤ sizeLine) : Ev M (tOp (rCatA K) ta tb) σ Z H s (ty (yTup K τ) (xs ++ ys)) s2 :=
  ev_op ha hb fun Z H v w sz ⟨a, vs, e1, h1, t1, l1⟩ ⟨b, ws, e2, h2, t2, l2⟩ _ q =>
    ⟨a, b, vs, ws, e1, e2, seqT_same sz h1, seqT_same sz h2, by rw [t1.len, t2.len]; exact l,
      fun e => q _ _ _ (Step.refl sz) ⟨b, ws, rfl, h2, by rw [all_nil t1 e]; exact t2, by rw [all_nil t1 e]; exact l2⟩,
      fun _ e => q _ _ _ (Step.refl sz) ⟨a, vs, rfl, h1, by rw [all_nil t2 e, List.append_nil]; exact t1, by rw [all_nil t2 e, List.append_nil]; exact l1⟩,
      fun _ _ p hp => q _ _ _ (Step.new sz hp) ⟨p, _, rfl, sqT_new, (t1.app t2).imp fun _ _ => τ.mono (same_upd (same_none sz hp)), by rw [List.length_append]; exact l⟩⟩
theorem ev_ord {x : Str} (ha : Ev M ta σ Z H s (ty yStr x) s1) (l : x.length = 1) : Ev M (tCB (fun xs H Q => ∃ x, xs = [.str x] ∧ x.length = 1 ∧ Q (.int (x.cps.getD 0 0 : Nat)) H) (tCons ta tNil)) σ Z H s (ty yInt ((x.cps.getD 0 0 : Nat) : Int)) s1 :=
  ev_cb (eva_cons ha eva_nil) fun _ _ vs sz ⟨v, r, e, h, e2⟩ Q q => ⟨x, by rw [e, h.1, show r = [] from e2], l, q _ _ _ (Step.refl sz) rfl⟩
/-- == and != of an instance by its own == with anything -/
theorem ev_ownE {α : Type} {τ : Ty α} {x : α} {R0 : Rr M.fp} {C : Addr} {t : Value} {sp : Sp} {E : XK} {b neg : Bool} (O : ∀ Z v x, τ.r Z v x → ∃ a dx fs, v = .ref a ∧ Z a = some (.ins C dx fs)) (tx : ∀ Z H v, Same Z H → R0.r Z H v → TyX K H v t) (hn : PySem.W.notFirst K C t = true)
    (c : CallS M sp E (rac (ty τ x) (rac R0 ra0)) s2 (ty yBool b) s3) (ha : Ev M ta σ Z H s (ty τ x) s1) (hb : Ev M tb σ Z H s1 R0 s2) : Ev M (tOp (TPN.rOwnE K C neg sp E) ta tb) σ Z H s (ty yBool (b != neg)) s3 :=
  fun Z1 H1 a' b' c' d' Q q => ha Z1 H1 a' b' c' d' _ fun v Z2 H2 e m rv => hb Z2 H2 (a'.trans e.z) (b'.trans e.h) e.s m _ fun w Z3 H3 e2 m2 rw => by
    have rv3 := τ.mono e2.z rv
    obtain ⟨p, dx, fs, rfl, hp⟩ := O _ _ _ rv3
    exact ⟨p, dx, fs, t, rfl, e2.s _ _ hp, tx _ _ _ e2.s rw, hn, c Z3 H3 _ e2.s m2 ⟨_, _, rfl, rv3, _, _, rfl, rw, rfl⟩ _ fun u Z4 H4 e3 m3 ru => ⟨b, ru, q _ Z4 H4 ((e.trans e2).trans e3) m3 rfl⟩⟩
/-- the class of what may be None -/
def clsO {α : Type} (c : Value) : Option α → Value
  | none => .type "NoneType"
  | some _ => c
theorem tx_opt {fp : List Addr} {α : Type} {τ : Ty α} {c : Value} (h : ∀ (x : α) Z H v, Same Z H → (ty (fp := fp) τ x).r Z H v → TyX K H v c) {x : Option α} : ∀ Z H v, Same Z H → (ty (fp := fp) (yOpt τ) x).r Z H v → TyX K H v (clsO c x) := fun Z H v sz e => match x, e with
  | none, e => by rw [show v = .non from e]; exact .base .non
  | some y, e => h y Z H v sz e.1
theorem tx_non {fp : List Addr} {x : Unit} : ∀ Z H v, Same Z H → (ty (fp := fp) yNon x).r Z H v → TyX K H v (.type "NoneType") := fun _ _ _ _ h => by rw [show _ = V.non from h]; exact .base .non
theorem kit_opt {α : Type} {c t : Value} {b : Bool} (h0 : PySem.W.kitOne K (.type "NoneType") t = some false) (h1 : PySem.W.kitOne K c t = some b) (x : Option α) : PySem.W.kitOne K (clsO c x) t = some (x.isSome && b) := match x with
  | none => h0
  | some _ => h1
theorem nf_opt {α : Type} {C : Addr} {c : Value} (h0 : PySem.W.notFirst K C (.type "NoneType") = true) (h1 : PySem.W.notFirst K C c = true) (x : Option α) : PySem.W.notFirst K C (clsO c x) = true := match x with
  | none => h0
  | some _ => h1
def optEqO {α : Type} (f : α → Option α → Option Bool) : Option α → Option α → Option Bool
  | none, none => some true
  | none, some y => f y none
  | some x, y => f x y
theorem ev_optE {α : Type} {τ : Ty α} {a b : Option α} {r : Bool} {f : α → Option α → Option Bool} {C : Addr} {t : Option α → Value} {sp : Sp} {E : XK} (h : optEqO f a b = some r) (O : ∀ Z v x, τ.r Z v x → ∃ a dx fs, v = .ref a ∧ Z a = some (.ins C dx fs))
    (tx : ∀ (y : Option α) Z H v, Same Z H → (ty (fp := M.fp) (yOpt τ) y).r Z H v → TyX K H v (t y)) (hn : ∀ y, PySem.W.notFirst K C (t y) = true) (c : ∀ x y r, f x y = some r → CallS M sp E (rac (ty τ x) (rac (ty (yOpt τ) y) ra0)) s2 (ty yBool r) s2)
    (ha : Ev M ta σ Z H s (ty (yOpt τ) a) s1) (hb : Ev M tb σ Z H s1 (ty (yOpt τ) b) s2) : Ev M (tOp (TPN.rOptE K C sp E) ta tb) σ Z H s (ty yBool r) s2 :=
  fun Z1 H1 a' b' c' d' Q q => ha Z1 H1 a' b' c' d' _ fun v Z2 H2 e m rv => hb Z2 H2 (a'.trans e.z) (b'.trans e.h) e.s m _ fun w Z3 H3 e2 m2 rw => by
    have rv3 := (yOpt τ).mono e2.z rv
    match a, b, h, rv3, rw with
    | none, none, h, rv3, rw => exact .inl ⟨rv3, rw, q _ Z3 H3 (e.trans e2) m2 (congrArg V.bl (Option.some.inj h))⟩
    | none, some y, h, rv3, rw =>
      obtain ⟨p, dx, fs, rfl, hp⟩ := O _ _ _ rw.1
      exact .inr (.inl ⟨rv3, ⟨p, dx, fs, rfl, e2.s _ _ hp⟩, c y none r h Z3 H3 _ e2.s m2 ⟨_, _, rfl, rw.1, _, _, rfl, rv3, rfl⟩ _ fun u Z4 H4 e3 m3 ru => ⟨r, ru, q _ Z4 H4 ((e.trans e2).trans e3) m3 rfl⟩⟩)
    | some x, y, h, rv3, rw =>
      obtain ⟨p, dx, fs, rfl, hp⟩ := O _ _ _ rv3.1
      exact .inr (.inr ⟨p, dx, fs, t y, rfl, e2.s _ _ hp, tx _ _ _ _ e2.s rw, hn y, c x y r h Z3 H3 _ e2.s m2 ⟨_, _, rfl, rv3.1, _, _, rfl, rw, rfl⟩ _ fun u Z4 H4 e3 m3 ru => ⟨r, ru, q _ Z4 H4 ((e.trans e2).trans e3) m3 (by rw [show (r != false) = r by cases r <;> rfl]; exact rfl)⟩⟩)
end
end TP

namespace TP
open PySem PySem.Spec PyProof.Rows L2
/-! ### a list that never changes, or a tuple -/
def iSeq (K : PySem.W.Frag) (tl : TE) : TI := fun σ H R => tl σ H fun x H1 => (∃ a, x = .ref a ∧ (∃ xs, SqL K H1 a xs) ∧ R (Itl K a) H1) ∨ (∃ a, x = .ref a ∧ (∃ xs, SqT K H1 a xs) ∧ R (Itt K a) H1)
theorem pi_seq {X : Cx} {tg l : Expr} {tl : TE} (hl : PE X l tl) : PI X tg l (iSeq X.K tl) := by
  refine ⟨fun pins s σ H R I h => ?_⟩
  refine thn (hl.run pins s σ H _ I h) fun v s1 ⟨x, H1, I1, r1, q1⟩ => ?_
  rcases q1 with q1 | q1
  · obtain ⟨a, e, ⟨xs, hq⟩, q⟩ := q1
    subst e
    cases r1
    obtain ⟨its, rv, p, hz⟩ := I1.list hq
    refine wpAny_pyIter_list p.isList ?_
    refine ⟨s1.heap.objs.size, [s1.heap.objs.size], _, _, H1, rfl, I1.kept (t' := s1.toks) fun b o e => Heap.get?_push_of_some _ e, turn_list a _, ⟨_, Heap.get?_push_size _ rfl, rfl, rfl⟩, fun b hb => ?_, q⟩
    have e : b = s1.heap.objs.size := by simpa using hb
    subst e
    exact I1.fpOk (Nat.le_refl _) (I1.hok.fresh (Nat.le_refl _))
  · obtain ⟨a, e, ⟨xs, hq⟩, q⟩ := q1
    subst e
    cases r1
    obtain ⟨its, rv, p, hz⟩ := I1.tuple hq
    refine wpAny_pyIter_tuple (show s1.heap.IsTuple a its.toArray from p) ?_
    refine ⟨s1.heap.objs.size, [s1.heap.objs.size], _, _, H1, rfl, I1.kept (t' := s1.toks) fun b o e => Heap.get?_push_of_some _ e, turn_tuple a _, ⟨_, Heap.get?_push_size _ rfl, rfl, rfl⟩, fun b hb => ?_, q⟩
    have e : b = s1.heap.objs.size := by simpa using hb
    subst e
    exact I1.fpOk (Nat.le_refl _) (I1.hok.fresh (Nat.le_refl _))
theorem pi_seqB {X : Cx} {K : PySem.W.Frag} (hK : X.K = K) {tg l : Expr} {tl : TE} (hl : PE X l tl) : PI X tg l (iSeq K tl) := by
  subst hK
  exact pi_seq hl
section
variable {K : PySem.W.Frag} {α : Type}
def ySeq (K : PySem.W.Frag) (τ : Ty α) : Ty (List α) := ⟨fun Z v xs => ∃ a vs, v = .ref a ∧ (Z a = some (.lst vs) ∨ SqT K Z a vs) ∧ All (τ.r Z) vs xs ∧ xs.length ≤ sizeLine,
  fun s ⟨a, vs, e, h, t, l⟩ => ⟨a, vs, e, h.imp (fun h => s _ _ h) (seqT_same s), t.imp fun _ _ => τ.mono s, l⟩⟩
theorem nn_seq {τ : Ty α} : NonNil (ySeq K τ) := fun _ _ _ ⟨_, _, e, _⟩ => by rw [e]; exact fun z => nomatch z
section
variable {μ : Type} {M : Mu μ} {σ : L2.St} {Z H : Hp} {s s1 : μ} {ta : TE} {τ : Ty α} {xs : List α} {X : Hp → Hp → Prop}
theorem ev_seqL (h : Ev M ta σ Z H s (ty (yList τ) xs) s1) : Ev M ta σ Z H s (ty (ySeq K τ) xs) s1 := h.weak fun _ _ _ _ ⟨a, vs, e, h, t, l⟩ => ⟨a, vs, e, .inl h, t, l⟩
theorem ev_seqT (h : Ev M ta σ Z H s (ty (yTup K τ) xs) s1) : Ev M ta σ Z H s (ty (ySeq K τ) xs) s1 := h.weak fun _ _ _ _ ⟨a, vs, e, h, t, l⟩ => ⟨a, vs, e, .inr h, t, l⟩
theorem ei_seq (ha : Ev M ta σ Z H s (ty (ySeq K τ) xs) s1) : EvI M X (iSeq K ta) σ Z H s τ xs s1 :=
  fun Z1 H1 a b c d R q => ha Z1 H1 a b c d _ fun v Z2 H2 e m ⟨p, vs, ev, h, t, l⟩ => by
    subst ev
    rcases h with h | h
    · exact .inl ⟨p, rfl, ⟨vs, SqL.of (e.s _ _ h)⟩, q _ Z2 H2 e m (walk_at walk_list (fun Z' H' z sz _ => SqL.of (sz _ _ (z _ _ h))) t l)⟩
    · exact .inr ⟨p, rfl, ⟨vs, seqT_same e.s h⟩, q _ Z2 H2 e m (walk_at walk_tup (fun Z' H' z sz _ => seqT_same sz (seqT_same z h)) t l)⟩
theorem ev_lenS {r : List V → Hp → VK → Prop} (hr : ∀ xs H Q, (∃ p ys, xs = [.ref p] ∧ (SqL K H p ys ∨ SqT K H p ys) ∧ Q (.int ys.length) H) → r xs H Q) (ha : Ev M ta σ Z H s (ty (ySeq K τ) xs) s1) : Ev M (tCB r (tCons ta tNil)) σ Z H s (ty yInt (xs.length : Nat)) s1 :=
  ev_cb (eva_cons ha eva_nil) fun _ _ _ sz ⟨v, r, e, h, e2⟩ _ q => by
    cases e2; cases e
    obtain ⟨p, vs, rfl, g, t, _⟩ := h
    exact hr _ _ _ ⟨p, vs, rfl, g.imp (fun g => SqL.of (sz _ _ g)) (seqT_same sz), by rw [t.len]; exact q _ _ _ (Step.refl sz) rfl⟩
theorem en_list_ofS {r : List V → Hp → VK → Prop} (hr : ∀ xs H Q, (∃ p ys, xs = [.ref p] ∧ (SqL K H p ys ∨ SqT K H p ys) ∧ ∀ l, H l = none → Q (.ref l) (upd H l (.lst ys))) → r xs H Q) (ha : Ev M ta σ Z H s (ty (ySeq K τ) xs) s1) : EvN M (tCB r (tCons ta tNil)) σ Z H s τ xs s1 :=
  en_cb (eva_cons ha eva_nil) fun _ _ _ sz ⟨v, r, e, h, e2⟩ => by
    cases e2; cases e
    obtain ⟨p, vs, rfl, g, t, l⟩ := h
    exact ⟨vs, t, l, fun Q q => hr _ _ _ ⟨p, vs, rfl, g.imp (fun g => SqL.of (sz _ _ g)) (seqT_same sz), q⟩⟩
theorem ev_tuple_ofS {r : List V → Hp → VK → Prop} (hr : ∀ xs H Q, (∃ p ys, xs = [.ref p] ∧ ((SqL K H p ys ∧ ∀ l, H l = none → Q (.ref l) (upd H l (.tup ys))) ∨ (SqT K H p ys ∧ Q (.ref p) H))) → r xs H Q) (ha : Ev M ta σ Z H s (ty (ySeq K τ) xs) s1) : Ev M (tCB r (tCons ta tNil)) σ Z H s (ty (yTup K τ) xs) s1 :=
  ev_cb (eva_cons ha eva_nil) fun _ _ _ sz ⟨v, r, e, h, e2⟩ _ q => by
    cases e2; cases e
    obtain ⟨p, vs, rfl, g, t, l⟩ := h
    rcases g with g | g
    · exact hr _ _ _ ⟨p, vs, rfl, .inl ⟨SqL.of (sz _ _ g), fun d hd => q _ _ _ (Step.new sz hd) ⟨d, vs, rfl, sqT_new, t.imp fun _ _ => τ.mono (same_upd (same_none sz hd)), l⟩⟩⟩
    · exact hr _ _ _ ⟨p, vs, rfl, .inr ⟨seqT_same sz g, q _ _ _ (Step.refl sz) ⟨p, vs, rfl, g, t, l⟩⟩⟩
end
end
end TP

namespace TP
open PySem PySem.Spec PyProof.Rows L2
/-- a list grows by a tuple's items -/
def rExtS (K : PySem.W.Frag) : V → List V → Hp → VK → Prop := fun x vs H Q => ∃ l b xs zs, x = .ref l ∧ vs = [.ref b] ∧ H l = some (.lst xs) ∧ SqT K H b zs ∧ xs.length + zs.length ≤ sizeLine ∧ Q .non (upd H l (.lst (xs ++ zs)))
open PySem.AutoSeq1 in
theorem ext_tup (l b : Addr) (xs ys : Array Value) (n m : Nat) (dd : Option Addr) (sl : Array (Option Value)) (k0 : ¬ (!xs.isEmpty && Builtin.List.listTooLong (xs.size + ys.size)) = true) (k1 : xs.size ≤ sizeLine) (k2 : xs.size + ys.size ≤ sizeLine + 1) :
    Meets (Builtin.«list.extend» ⟨[.ref l, .ref b], []⟩) (fun _ R s => (s.heap.get? b = some ⟨.type "tuple", dd, .seq ys m, sl⟩ ∧ s.heap.get? l = some ⟨.type "list", none, .seq xs n, #[]⟩) ∧
      R (.ok (.ret Value.none)) { s with heap := s.heap.update l (Obj.mapSeq fun z => z ++ ys), toks := s.toks }) :=
  .of_wp fun prog w A R s ⟨⟨gb, gl⟩, q⟩ => by
    obtain ⟨hp, ge, dr, tk, os⟩ := s
    have s1 := PySem.AutoSeq1.idx_int
    have s2 := PySem.AutoSeq1.sub_list_list
    have s3 := PySem.AutoSeq1.sub_tuple_list
    have s4 := PySem.AutoSeq1.sub_tuple_tuple
    have s5 := PySem.AutoSeq1.sub_list_tuple
    have tot : (xs ++ ys).size ≤ sizeLine + 1 := by simpa [Array.size_append] using k2
    wp_walk using (wpAny_updateSeq gl rfl (hz := k1) (_hz' := tot)), wpAny_loadPart' gl, wpAny_loadPart' gb
    exact ⟨_, rfl, q⟩
theorem mt_extendT {X : Cx} : MtM X "list.extend" (rExtS X.K) := by
  intro pins s σ H x vs v us Q I rx rv g
  obtain ⟨l, b, xs, zs, rfl, rfl, gl, gb, gz, q⟩ := g
  cases rx
  obtain ⟨u, rfl, ru⟩ := rv.one
  cases ru
  obtain ⟨_, its, n, r, _, e⟩ := I.lstM gl
  obtain ⟨js, r2, ⟨⟨oc, od, ot, os⟩, e2, e3, m, e4⟩, _⟩ := I.tuple gb
  dsimp only at e3 e4
  subst e3 e4
  have k1 := r.length
  have k2 := r2.length
  have fits : its.toArray.size + js.toArray.size ≤ sizeLine := by
    rw [List.size_toArray, List.size_toArray]
    omega
  have open_ : ¬ (!its.toArray.isEmpty && Builtin.List.listTooLong (its.toArray.size + js.toArray.size)) = true := by
    rw [notLongL fits, Bool.and_false]
    decide
  refine call_meets F.slot_list_extend ⟨_, e, rfl⟩ F.entry_list_extend (F.args_list_extend_2 _ _) (ext_tup l b its.toArray js.toArray n m _ _ open_ (by omega) (by omega)) ⟨⟨e2, e⟩, .non, _, I.lset (its' := its ++ js) gl e (by simp) (r.append r2) (by rw [List.length_append]; omega), rfl, q⟩
section
variable {μ : Type} {S : List Addr} {Z0 H0 : Hp} {M : Mu μ} {σ : L2.St} {Z H : Hp} {s s1 s2 : μ} {ta tb te : TE} {K : PySem.W.Frag} {D : Ends} {α : Type} {τ : Ty α} {xs ys : List α} {p : Addr}
theorem st_extendT {i : Nat} (P : Pt S Z0 H0 M Z H s) (o : Own S H0 M.fp Z H τ p xs) (hσ : σ[i]? = some (some (.ref p))) (e : Ev M te σ Z H s (ty (yTup K τ) ys) s1) (l : xs.length + ys.length ≤ sizeLine)
    (k : ∀ Z1 H1, Step (p :: M.fp) Z H Z1 H1 → Pt S Z0 H0 M Z1 H1 s1 → Own S H0 M.fp Z1 H1 τ p (xs ++ ys) → D.nx σ H1) : tDrop (tBM K "list" (rExtS K) (tVar i) (tCons te tNil)) D σ H := by
  obtain ⟨vs, h, t⟩ := o.ex
  refine ⟨.ref p, hσ, .inl ⟨rfl, _, .inl (.inl h)⟩, e Z H (Same.refl _) SameX.refl P.sub P.m _ fun v Z1 H1 e m ⟨q, ws, ev, hq, t2, _⟩ => ?_⟩
  subst ev
  have o1 := o.next e
  have P1 := P.next e m
  refine ⟨p, q, vs, ws, rfl, rfl, e.h _ _ o.n h, seqT_same e.s hq, by rw [t.len, t2.len]; exact l, ?_⟩
  exact k _ _ (step2 e o1.z) (P1.set o1.z o.n (.inr o.mine)) ⟨⟨_, upd_same, (t.imp fun _ _ => τ.mono e.z).app t2⟩, o1.z, o.n, o.mine, by rw [List.length_append]; exact l⟩
/-- a sign of a text -/
def atSi (x : Str) (i : Int) : Option Str := (atI x.cps.toList i).map fun c => ⟨#[c]⟩
theorem ev_ixS {x y : Str} {i : Int} (ha : Ev M ta σ Z H s (ty yStr x) s1) (hb : Ev M tb σ Z H s1 (ty yInt i) s2) (e : atSi x i = some y) : Ev M (tOp rIxS ta tb) σ Z H s (ty yStr y) s2 :=
  ev_op ha hb fun _ _ _ _ sz e1 e2 _ q => by
    obtain ⟨c, hc, rfl⟩ := Option.map_eq_some_iff.mp e
    have ok := (show (PyData.strOk x && decide (x.length ≤ sizeLine)) = true from e1.2)
    rw [Bool.and_eq_true] at ok
    refine ⟨x, i, c, e1.1, e2, of_decide_eq_true ok.2, hc, q _ _ _ (Step.refl sz) ⟨rfl, ?_⟩⟩
    show (PyData.strOk ⟨#[c]⟩ && decide ((⟨#[c]⟩ : Str).length ≤ sizeLine)) = true
    have h1 : c ∈ x.cps.toList := by
      unfold atI at hc
      obtain ⟨j, _, hj⟩ := Option.bind_eq_some_iff.mp hc
      exact List.mem_of_getElem? hj
    have h2 := ok.1
    unfold PyData.strOk at h2 ⊢
    rw [Array.all_eq_true_iff_forall_mem] at h2
    rw [Bool.and_eq_true]
    refine ⟨?_, by show decide (1 ≤ sizeLine) = true; decide⟩
    simpa using h2 c (by simpa using h1)
end
end TP

namespace TP
open PySem PySem.Spec PyProof.Rows L2
/-! ### things that change: products -/
def muX {α β : Type} (A : Mu α) (B : Mu β) : Mu (α × β) where
  fp := A.fp ++ B.fp
  m := fun s Z H => A.m s.1 Z H ∧ B.m s.2 Z H ∧ ∀ a ∈ A.fp, a ∉ B.fp
  al := fun ⟨h, g, _⟩ a ha => by
    rcases List.mem_append.mp ha with ha | ha
    · exact A.al h a ha
    · exact B.al g a ha
  loc := fun sz hk hn ⟨h, g, d⟩ => ⟨A.loc sz (fun a ha => hk a (List.mem_append_left _ ha)) (fun a ha => hn a (List.mem_append_left _ ha)) h, B.loc sz (fun a ha => hk a (List.mem_append_right _ ha)) (fun a ha => hn a (List.mem_append_right _ ha)) g, d⟩
theorem Mu.keep {μ : Type} {N : Mu μ} {s : μ} {F : List Addr} {Z H Z' H' : Hp} (m : N.m s Z H) (e : Step F Z H Z' H') (d : ∀ a ∈ N.fp, a ∉ F) : N.m s Z' H' :=
  N.loc e.z (fun a ha o h => e.h a o (d a ha) h) (fun a _ h z => e.n a h z) m
section
variable {μ ν ι : Type} {S : List Addr} {Z0 H0 : Hp} {M : Mu μ} {N : Mu ν} {σ : L2.St} {Z H : Hp} {s s' s1 s2 s3 : μ} {c c' : ν} {ta tb tc te : TE} {t : TA} {K : PySem.W.Frag} {D : Ends}
/-- the attribute f of the thing at p -/
def MFld {α : Type} (N : Mu ν) (p C : Addr) (f : Str) (τ : Ty α) (pr : ν → α) : Prop := ∀ c Z H, N.m c Z H → ∃ dx fs w, H p = some (.ins C dx fs) ∧ fs.lookup f = some w ∧ τ.r Z w (pr c)
theorem ev_mfld {α : Type} {τ : Ty α} {p C : Addr} {f : Str} {pr : ν → α} {i : Nat} (hm : ∀ Z H, M.m s Z H → N.m c Z H) (F : MFld N p C f τ pr) (cl : Cls K C) (n : NoAttr K C f) (e : σ[i]? = some (some (.ref p))) : Ev M (tFld K (tVar i) f) σ Z H s (ty τ (pr c)) s :=
  fun Z1 H1 _ _ c' d Q q => ⟨_, e, by
    obtain ⟨dx, fs, w, hp, l, r⟩ := F c Z1 H1 (hm Z1 H1 d)
    exact ⟨p, C, dx, fs, w, rfl, hp, cl, n, l, q w Z1 H1 (Step.refl c') d r⟩⟩
/-- the attribute f is itself a thing that changes, at q -/
def MRef (N : Mu ν) (p C : Addr) (f : Str) (q : Addr) : Prop := ∀ c Z H, N.m c Z H → ∃ dx fs, H p = some (.ins C dx fs) ∧ fs.lookup f = some (.ref q)
theorem ev_mref {p C q : Addr} {f : Str} {i : Nat} (hm : ∀ Z H, M.m s Z H → N.m c Z H) (F : MRef N p C f q) (cl : Cls K C) (n : NoAttr K C f) (e : σ[i]? = some (some (.ref p))) : Ev M (tFld K (tVar i) f) σ Z H s (isRef q) s :=
  fun Z1 H1 _ _ c' d Q k => ⟨_, e, by
    obtain ⟨dx, fs, hp, l⟩ := F c Z1 H1 (hm Z1 H1 d)
    exact ⟨p, C, dx, fs, _, rfl, hp, cl, n, l, k _ Z1 H1 (Step.refl c') d rfl⟩⟩
/-- the thing at p is an instance of the class at C without an own attribute m -/
def MObj (N : Mu ν) (p C : Addr) (m : Str) : Prop := ∀ c Z H, N.m c Z H → ∃ dx fs, H p = some (.ins C dx fs) ∧ fs.lookup m = none
theorem ev_mmeth {p C' : Addr} {m : Str} {sp : Sp} {E : XK} {Rs : Ra M.fp} {R : Rr M.fp} (hm : ∀ Z H, M.m s1 Z H → N.m c Z H) (O : MObj N p C' m) (cs : CallS M sp E (rac (isRef p) Rs) s2 R s3) (hx : Ev M ta σ Z H s (isRef p) s1) (ha : EvA M t σ Z H s1 Rs s2) : Ev M (tMeth C' m sp [] E ta t) σ Z H s R s3 :=
  fun Z1 H1 a b c' d Q q => hx Z1 H1 a b c' d _ fun v Z2 H2 e mm rv => by
    obtain ⟨dx, fs, hp, l⟩ := O _ Z2 H2 (hm Z2 H2 mm)
    have ev : v = .ref p := rv
    subst ev
    refine ⟨p, dx, fs, rfl, hp, l, ha Z2 H2 (a.trans e.z) (b.trans e.h) e.s mm _ fun vs Z3 H3 e2 m2 rs => ?_⟩
    rw [List.append_nil]
    exact cs Z3 H3 _ e2.s m2 ⟨_, vs, rfl, rfl, rs⟩ Q fun v Z4 H4 e3 m3 rv' => q v Z4 H4 ((e.trans e2).trans e3) m3 rv'
theorem ev_mprop {p C' : Addr} {m : Str} {sp : Sp} {E : XK} {R : Rr M.fp} (hm : ∀ Z H, M.m s1 Z H → N.m c Z H) (O : MObj N p C' m) (cs : CallS M sp E (rac (isRef p) ra0) s1 R s2) (hx : Ev M ta σ Z H s (isRef p) s1) : Ev M (tProp C' sp [] E ta) σ Z H s R s2 :=
  fun Z1 H1 a b c' d Q q => hx Z1 H1 a b c' d _ fun v Z2 H2 e mm rv => by
    obtain ⟨dx, fs, hp, l⟩ := O _ Z2 H2 (hm Z2 H2 mm)
    have ev : v = .ref p := rv
    subst ev
    exact ⟨p, dx, fs, rfl, hp, cs Z2 H2 _ e.s mm ⟨_, [], rfl, rfl, rfl⟩ Q fun v Z4 H4 e3 m3 rv' => q v Z4 H4 (e.trans e3) m3 rv'⟩
theorem eve_mmeth {p C' : Addr} {m : Str} {sp : Sp} {E : XK} {Rs : Ra M.fp} {cls : Value} (hm : ∀ Z H, M.m s1 Z H → N.m c Z H) (O : MObj N p C' m) (cs : CallE M sp E (rac (isRef p) Rs) s2 cls s3) (hx : Ev M ta σ Z H s (isRef p) s1) (ha : EvA M t σ Z H s1 Rs s2) : EvE M (tMeth C' m sp [] E ta t) σ Z H s (E cls none) s3 :=
  fun Z1 H1 a b c' d Q q => hx Z1 H1 a b c' d _ fun v Z2 H2 e mm rv => by
    obtain ⟨dx, fs, hp, l⟩ := O _ Z2 H2 (hm Z2 H2 mm)
    have ev : v = .ref p := rv
    subst ev
    refine ⟨p, dx, fs, rfl, hp, l, ha Z2 H2 (a.trans e.z) (b.trans e.h) e.s mm _ fun vs Z3 H3 e2 m2 rs => ?_⟩
    rw [List.append_nil]
    exact cs Z3 H3 _ e2.s m2 ⟨_, vs, rfl, rfl, rs⟩ Q fun Z4 H4 e3 m3 => q Z4 H4 ((e.trans e2).trans e3) m3
theorem eve_mmethA {p C' : Addr} {m : Str} {sp : Sp} {E : XK} {X : Hp → Prop} (hm : ∀ Z H, M.m s1 Z H → N.m c Z H) (O : MObj N p C' m) (hx : Ev M ta σ Z H s (isRef p) s1) (ha : EvAE M t σ Z H s1 X s2) : EvE M (tMeth C' m sp [] E ta t) σ Z H s X s2 :=
  fun Z1 H1 a b c' d Q q => hx Z1 H1 a b c' d _ fun v Z2 H2 e mm rv => by
    obtain ⟨dx, fs, hp, l⟩ := O _ Z2 H2 (hm Z2 H2 mm)
    have ev : v = .ref p := rv
    subst ev
    exact ⟨p, dx, fs, rfl, hp, l, ha Z2 H2 (a.trans e.z) (b.trans e.h) e.s mm _ fun Z3 H3 e2 m2 => q Z3 H3 (e.trans e2) m2⟩
/-- the attribute f is stored anew -/
def MSet {α : Type} (N : Mu ν) (p C : Addr) (f : Str) (τ : Ty α) (up : ν → α → ν) : Prop := ∀ c Z H, N.m c Z H → p ∈ N.fp ∧ Z p = none ∧ ∃ dx fs, H p = some (.ins C dx fs) ∧ fs.length < 1000 ∧ ∀ w x, τ.r Z w x → N.m (up c x) Z (upd H p (.ins C dx (putF f w fs)))
theorem st_mset {α : Type} {τ : Ty α} {x : α} {p C : Addr} {f : Str} {i : Nat} {up : ν → α → ν} {tv : TE} (P : Pt S Z0 H0 M Z H s) (hm : ∀ Z H, M.m s1 Z H → N.m c Z H) (hf : ∀ a ∈ N.fp, a ∈ M.fp) (hp : ∀ Z H Z' H', M.m s1 Z H → Step N.fp Z H Z' H' → N.m (up c x) Z' H' → M.m s2 Z' H')
    (F : MSet N p C f τ up) (cl : Cls K C) (n : NoAttr K C f) (hσ : σ[i]? = some (some (.ref p))) (e : Ev M tv σ Z H s (ty τ x) s1) (k : ∀ Z1 H1, Step M.fp Z H Z1 H1 → Pt S Z0 H0 M Z1 H1 s2 → D.nx σ H1) : sFld K (tVar i) tv f D σ H :=
  e Z H (Same.refl _) SameX.refl P.sub P.m _ fun v Z1 H1 e m r => by
    obtain ⟨pf, zp, dx, fs, h1, l, up'⟩ := F c Z1 H1 (hm Z1 H1 m)
    have m' := up' v x r
    have st : Step [p] Z1 H1 Z1 (upd H1 p (.ins C dx (putF f v fs))) := Step.set e.s zp
    have stN : Step N.fp Z1 H1 Z1 (upd H1 p (.ins C dx (putF f v fs))) := st.weak fun a ha => by rw [List.mem_singleton] at ha; rw [ha]; exact .inl pf
    have m2 := hp _ _ _ _ m stN m'
    have e2 := e.trans (stN.weak fun a ha => .inl (hf a ha))
    exact ⟨.ref p, hσ, p, C, dx, fs, rfl, h1, cl, n, l, k _ _ e2 (P.next e2 m2)⟩
/-- self.f += e of integers -/
theorem st_maug {p C : Addr} {f : Str} {i : Nat} {up : ν → Int → ν} {tv : TE} {pr : ν → Int} {b : Int} {g : Int → Int → Int} (P : Pt S Z0 H0 M Z H s) (hm : ∀ Z H, M.m s Z H → N.m c Z H) (hf : ∀ a ∈ N.fp, a ∈ M.fp) (hp : ∀ Z H Z' H', M.m s Z H → Step N.fp Z H Z' H' → N.m (up c (g (pr c) b)) Z' H' → M.m s2 Z' H')
    (F : MSet N p C f yInt up) (G : MFld N p C f yInt pr) (cl : Cls K C) (n : NoAttr K C f) (hσ : σ[i]? = some (some (.ref p))) (e : Ev M tv σ Z H s (ty yInt b) s) (k : ∀ Z1 H1, Step M.fp Z H Z1 H1 → Pt S Z0 H0 M Z1 H1 s2 → D.nx σ H1) : sFldAug K (tVar i) tv (ipI g) f D σ H := by
  obtain ⟨dx0, fs0, w, h0, l0, r0⟩ := G c Z H (hm Z H P.m)
  refine ⟨.ref p, hσ, p, C, dx0, fs0, w, rfl, h0, cl, n, l0, e Z H (Same.refl _) SameX.refl P.sub P.m _ fun v Z1 H1 e m r => ?_⟩
  obtain ⟨pf, zp, dx, fs, h1, l, up'⟩ := F c Z1 H1 (hm Z1 H1 m)
  refine ⟨pr c, b, r0, r, dx, fs, h1, l, ?_⟩
  have m' := up' (.int (g (pr c) b)) (g (pr c) b) rfl
  have st : Step [p] Z1 H1 Z1 (upd H1 p (.ins C dx (putF f (.int (g (pr c) b)) fs))) := Step.set e.s zp
  have stN : Step N.fp Z1 H1 Z1 (upd H1 p (.ins C dx (putF f (.int (g (pr c) b)) fs))) := st.weak fun a ha => by rw [List.mem_singleton] at ha; rw [ha]; exact .inl pf
  have m2 := hp _ _ _ _ m stN m'
  have e2 := e.trans (stN.weak fun a ha => .inl (hf a ha))
  exact k _ _ e2 (P.next e2 m2)
/-- a new thing that changes -/
def EvM (M : Mu μ) (t : TE) (σ : L2.St) (Z H : Hp) (s : μ) (N : ι → Mu ν) (pr : ι → Addr) (x : ν) (s' : μ) : Prop :=
  ∀ Z1 H1, Same Z Z1 → SameX M.fp H H1 → Same Z1 H1 → M.m s Z1 H1 → ∀ Q : VK, (∀ i Z2 H2, Step M.fp Z1 H1 Z2 H2 → M.m s' Z2 H2 → (∀ a ∈ (N i).fp, H1 a = none) → (N i).m x Z2 H2 → Q (.ref (pr i)) H2) → t σ H1 Q
/-- what the __init__ makes: a thing that changes -/
def InitM (M : Mu μ) (C : Addr) (sp : Sp) (E : XK) (Rs : Ra M.fp) (s : μ) (N : ι → Mu ν) (pr : ι → Addr) (x : ν) (s' : μ) : Prop :=
  ∀ Z H vs p dx, Same Z H → M.m s Z H → Rs.r Z H vs → H p = some (.ins C dx []) → Z p = none → p ∉ M.fp → ∀ Q : VK, (∀ i Z2 H2, pr i = p → Step (p :: M.fp) Z H Z2 H2 → M.m s' Z2 H2 → (∀ a ∈ (N i).fp, a = p ∨ H a = none) → (N i).m x Z2 H2 → Q .non H2) → sp (.ref p :: vs) H Q E
theorem ev_makeM {C : Addr} {sp : Sp} {E : XK} {Rs : Ra M.fp} {N : ι → Mu ν} {pr : ι → Addr} {x : ν} (I : InitM M C sp E Rs s1 N pr x s2) (ha : EvA M t σ Z H s Rs s1) : EvM M (tMake C sp [] E t) σ Z H s N pr x s2 :=
  fun Z1 H1 a b c d Q q => ha Z1 H1 a b c d _ fun vs Z2 H2 e m rs x' dx hx hd ne => by
    rw [List.append_nil]
    have st := Step.dict (C := C) e.s hx hd ne
    have nf : x' ∉ M.fp := fun h => (M.al m x' h).1 hx
    have back : ∀ a, upd (upd H2 dx (.own x')) x' (.ins C dx []) a = none → H2 a = none := fun a h => by
      cases q : H2 a with
      | none => rfl
      | some o => exact absurd h (st.al a (some_ne q))
    refine I Z2 _ vs x' dx st.s (M.pure st m) (Rs.st st.pure rs) upd_same (same_none e.s hx) nf _ fun i Z3 H3 ei e2 m2 fr mi => ⟨rfl, ?_⟩
    subst ei
    have e3 : Step M.fp Z2 H2 Z3 H3 := ((st.pure (S := pr i :: M.fp)).trans e2).weak fun a h => by
      rcases List.mem_cons.mp h with e | h
      · exact .inr (e ▸ hx)
      · exact .inl h
    exact q i Z3 H3 (e.trans e3) m2 (fun a ha => by
      rcases fr a ha with r | r
      · rw [r]; exact same_x e hx
      · exact same_x e (back a r)) mi
/-- it is called x from now on -/
theorem st_setM {N : ι → Mu ν} {pr : ι → Addr} {x : ν} {j : Nat} (P : Pt S Z0 H0 M Z H s) (e : EvM M te σ Z H s N pr x s1) (k : ∀ i Z1 H1, Step M.fp Z H Z1 H1 → (∀ a ∈ (N i).fp, H a = none) → Pt S Z0 H0 (muX M (N i)) Z1 H1 (s1, x) → D.nx (σ.set j (some (.ref (pr i)))) H1) : tAsg te (gName j) D σ H :=
  e Z H (Same.refl _) SameX.refl P.sub P.m _ fun i Z1 H1 e m fr mi => k i Z1 H1 e fr ⟨P.st.mine e P.mine, ⟨m, mi, fun a ha hb => (M.al P.m a ha).1 (fr a hb)⟩, fun a ha => by
    rcases List.mem_append.mp ha with ha | ha
    · exact P.mine a ha
    · exact .inr (same_x P.st (fr a ha))⟩
theorem Pt.left {N : Mu ν} {x : ν} (P : Pt S Z0 H0 (muX M N) Z H (s, x)) : Pt S Z0 H0 M Z H s := ⟨P.st, P.m.1, fun a ha => P.mine a (List.mem_append_left _ ha)⟩
theorem Own.grow {α : Type} {τ : Ty α} {xs : List α} {p : Addr} {F : List Addr} {Z1 H1 : Hp} (o : Own S H0 M.fp Z H τ p xs) (e : Step M.fp Z H Z1 H1) (fr : ∀ a ∈ F, H a = none) : Own S H0 (M.fp ++ F) Z1 H1 τ p xs := by
  have o1 := o.next e
  obtain ⟨vs, h, _⟩ := o.ex
  have nf : p ∉ F := fun hb => by
    rw [fr p hb] at h
    exact nomatch h
  exact ⟨o1.ex, o1.z, fun ha => (List.mem_append.mp ha).elim o.n nf, o1.mine, o1.l⟩
theorem Own.left {α : Type} {τ : Ty α} {xs : List α} {p : Addr} {F G : List Addr} (o : Own S H0 (F ++ G) Z H τ p xs) : Own S H0 F Z H τ p xs := ⟨o.ex, o.z, fun h => o.n (List.mem_append_left _ h), o.mine, o.l⟩
theorem Step.left {F G : List Addr} {Z H Z1 H1 : Hp} (e : Step F Z H Z1 H1) : Step (F ++ G) Z H Z1 H1 := e.weak fun a h => .inl (List.mem_append_left _ h)
theorem putF_ne {f g : Str} {v w : V} {r : List (Str × V)} (h : ¬ g = f) : putF f v ((g, w) :: r) = (g, w) :: putF f v r := by
  show (if g = f then (g, v) :: r else (g, w) :: putF f v r) = _
  rw [if_neg h]
theorem putF_eq {f : Str} {v w : V} {r : List (Str × V)} : putF f v ((f, w) :: r) = (f, v) :: r := by
  show (if f = f then (f, v) :: r else _) = _
  rw [if_pos rfl]
theorem putF_nil {f : Str} {v : V} : putF f v [] = [(f, v)] := rfl
end
end TP

namespace TP
open PySem PySem.Spec PyProof.Rows L2
/-- what never is reached -/
theorem ps_dead {X : Cx} {s : Stmt} : PS X s (fun _ _ _ => False) := ⟨fun _ _ _ _ _ _ h => h.elim⟩
theorem sl_tupW {X : Cx} : SlR X (rSlW X.K) := sl_tupA
/-- an expression that is read in one of two ways -/
theorem pe_or2 {X : Cx} {e : Expr} {t u : TE} (h : PE X e t) (g : PE X e u) : PE X e (fun σ H Q => t σ H Q ∨ u σ H Q) := ⟨fun pins s σ H Q I q => by
  rcases q with q | q
  · exact h.run pins s σ H Q I q
  · exact g.run pins s σ H Q I q⟩
def rOr (r r' : R2) : R2 := fun x y H Q => r x y H Q ∨ r' x y H Q
theorem op_or {X : Cx} {f : Value → Value → Sem Value} {r r' : R2} (h : OpR X f r) (h' : OpR X f r') : OpR X f (rOr r r') := fun pins s σ H x y v u Q I rx ry q => by
  rcases q with q | q
  · exact h pins s σ H x y v u Q I rx ry q
  · exact h' pins s σ H x y v u Q I rx ry q
def rImp (r r' : R2) : Prop := ∀ x y H Q, r x y H Q → r' x y H Q
theorem ri_self {r : R2} : rImp r r := fun _ _ _ _ h => h
theorem ri_l {r r' : R2} : rImp r (rOr r r') := fun _ _ _ _ h => .inl h
theorem ri_r {r r' r'' : R2} (h : rImp r r') : rImp r (rOr r'' r') := fun _ _ _ _ q => .inr (h _ _ _ _ q)
section
variable {μ : Type} {M : Mu μ} {σ : L2.St} {Z H : Hp} {s s1 s2 s3 : μ} {ta tb t u : TE} {K : PySem.W.Frag}
theorem ev_orl {R : Rr M.fp} (h : Ev M t σ Z H s R s1) : Ev M (fun σ H Q => t σ H Q ∨ u σ H Q) σ Z H s R s1 := fun Z1 H1 a b c d Q q => .inl (h Z1 H1 a b c d Q q)
theorem ev_orr {R : Rr M.fp} (h : Ev M u σ Z H s R s1) : Ev M (fun σ H Q => t σ H Q ∨ u σ H Q) σ Z H s R s1 := fun Z1 H1 a b c d Q q => .inr (h Z1 H1 a b c d Q q)
theorem ev_ownR {α : Type} {τ : Ty α} {x : α} {R0 : Rr M.fp} {C : Addr} {t : Value} {sp : Sp} {E : XK} {b neg : Bool} {r : R2} (hr : rImp (TPN.rOwnE K C neg sp E) r) (O : ∀ Z v x, τ.r Z v x → ∃ a dx fs, v = .ref a ∧ Z a = some (.ins C dx fs)) (tx : ∀ Z H v, Same Z H → R0.r Z H v → TyX K H v t) (hn : PySem.W.notFirst K C t = true)
    (c : CallS M sp E (rac (ty τ x) (rac R0 ra0)) s2 (ty yBool b) s3) (ha : Ev M ta σ Z H s (ty τ x) s1) (hb : Ev M tb σ Z H s1 R0 s2) : Ev M (tOp r ta tb) σ Z H s (ty yBool (b != neg)) s3 :=
  fun Z1 H1 a' b' c' d' Q q => ha Z1 H1 a' b' c' d' _ fun v Z2 H2 e m rv => hb Z2 H2 (a'.trans e.z) (b'.trans e.h) e.s m _ fun w Z3 H3 e2 m2 rw => by
    have rv3 := τ.mono e2.z rv
    obtain ⟨p, dx, fs, rfl, hp⟩ := O _ _ _ rv3
    exact hr _ _ _ _ ⟨p, dx, fs, t, rfl, e2.s _ _ hp, tx _ _ _ e2.s rw, hn, c Z3 H3 _ e2.s m2 ⟨_, _, rfl, rv3, _, _, rfl, rw, rfl⟩ _ fun u Z4 H4 e3 m3 ru => ⟨b, ru, q _ Z4 H4 ((e.trans e2).trans e3) m3 rfl⟩⟩
variable {fp : List Addr} {α β γ δ : Type} {τ : Ty α} {υ : Ty β} {φ : Ty γ} {ψ : Ty δ}
theorem tx_p1 {x : α} : ∀ Z H v, Same Z H → (ty (fp := fp) (yP1 K τ) x).r Z H v → TyX K H v (.type "tuple") := fun _ _ _ sz ⟨a, _, e, h, _⟩ => by subst e; exact tx_sqT (seqT_same sz h)
theorem tx_p4 {x : α × β × γ × δ} : ∀ Z H v, Same Z H → (ty (fp := fp) (yP4 K τ υ φ ψ) x).r Z H v → TyX K H v (.type "tuple") := fun _ _ _ sz ⟨a, _, _, _, _, e, h, _⟩ => by subst e; exact tx_sqT (seqT_same sz h)
end
end TP

/-! len(set(xs)) of numbers -/
namespace TSN
open PySem PySem.Spec PyProof.Rows L2
theorem fold_first (f : List Int → Int → List Int) : ∀ ns : List Int, ((List.range ns.length).map fun i => ns.getD i 0) = ns
  | [] => rfl
  | n :: r => by
    rw [List.length_cons, List.range_succ_eq_map, List.map_cons, List.map_map]
    congr 1
    exact fold_first f r
/-- len(set(xs)), xs a list of numbers -/
def tLenSetI (K : PySem.W.Frag) (ta : TE) : TE := fun σ H Q => ta σ H fun x H1 => ∃ l, ∃ ns : List Int, x = .ref l ∧ SqL K H1 l (ns.map V.int) ∧ ns.length ≤ 1000 ∧ Q (.int (ns.foldl step_dedup []).length) H1
theorem pe_lenSetI {X : Cx} {a : Expr} {ta : TE} {p p2 q pos : Pos} (hc : X.calm = true) (hg : Gl X "len") (hm : X.mg "len" = none) (hg2 : Gl X "set") (hm2 : X.mg "set" = none) (ha : PE X a ta)
    (na : starEach [a] X.env = (false, eval a X.env) :: starEach [] X.env := by rfl) : PE X (.Call (.Name "len" p) [.Call (.Name "set" p2) [a] [] q] [] pos) (tLenSetI X.K ta) := by
  refine ⟨fun pins s σ H Q I g => Call_ (ld_blt I hg hm boot_len (PyProof.Rows.callWith_builtin1 (PyProof.Rows.args_cons ?_ rfl) rfl rfl))⟩
  refine Call_ (ld_blt I hg2 hm2 boot_set (PyProof.Rows.callWith_type1 (PyProof.Rows.args_cons (thn (ha.run pins s σ H _ I g) fun v s1 ⟨x, H1, I1, r1, q1⟩ => PyProof.Rows.args_nil ?_) na) na rfl))
  obtain ⟨l, xs, rfl, gl, few, q1⟩ := q1
  cases r1
  obtain ⟨its, r, pl, _⟩ := I1.list gl
  have hl : its.length = xs.length := by have := r.length; rw [List.length_map] at this; exact this.symm
  refine PySem.call_set_list (ns := xs) (I1.ok.hd hc) pl.isList (by simpa using L2.intsAre_of r) (by rw [List.size_toArray, hl]; unfold scanBound; omega) fun h2 tk held more => PyProof.Rows.args_nil ?_
  have e : PyProof.Rows.firstMet (fun i => xs.getD i 0) its.toArray.size = xs.foldl step_dedup [] := by
    unfold firstMet
    rw [List.size_toArray, hl, fold_first step_dedup]
  rw [e] at held
  obtain ⟨ob, es, ep, tb, g1, g2, g3, _, _, _, g4, g5⟩ := held
  have I2 : Inv X pins σ H1 { s1 with heap := h2, toks := tk } := I1.kept fun b o e => more b o (Heap.lt_size e) e
  have small : (xs.foldl step_dedup []).length ≤ xs.length := by rw [← e]; have := firstMet_length_le (fun i => xs.getD i 0) its.toArray.size; rw [List.size_toArray, hl] at this; rw [List.size_toArray, hl]; exact this
  exact call_len_set g1 g2 g3 g4 (by rw [g5]; omega) ⟨.int (xs.foldl step_dedup []).length, H1, I2.tok _, ⟨_, by rw [g5]⟩, q1⟩
end TSN
namespace TP
open PySem PySem.Spec PyProof.Rows L2
/-- the different ones, in their first order -/
def addZ {α : Type} [DecidableEq α] (l : List α) (v : α) : List α := if v ∈ l then l else l ++ [v]
def uZ {α : Type} [DecidableEq α] (xs : List α) : List α := xs.foldl addZ []
section
variable {α : Type} [DecidableEq α]
theorem uZ_fold : ∀ (xs acc : List α), (xs.foldl addZ acc).length ≤ acc.length + xs.length ∧ ((xs.foldl addZ acc).length = acc.length + xs.length ↔ (∀ x ∈ xs, x ∉ acc) ∧ xs.Nodup)
  | [], acc => ⟨Nat.le_refl _, fun _ => ⟨fun x h => (nomatch h), List.nodup_nil⟩, fun _ => rfl⟩
  | x :: r, acc => by
    have ih := uZ_fold r (addZ acc x)
    show (r.foldl addZ (addZ acc x)).length ≤ _ ∧ ((r.foldl addZ (addZ acc x)).length = _ ↔ _)
    rw [List.length_cons]
    by_cases g : x ∈ acc
    · have e : addZ acc x = acc := if_pos g
      rw [e] at ih ⊢
      exact ⟨by omega, fun h => by omega, fun h => absurd g (h.1 x (List.mem_cons_self ..))⟩
    · have e : addZ acc x = acc ++ [x] := if_neg g
      rw [e] at ih ⊢
      rw [List.length_append, List.length_singleton] at ih
      refine ⟨by omega, fun h => ?_, fun h => ?_⟩
      · obtain ⟨a, b⟩ := ih.2.mp (by omega)
        refine ⟨fun y hy => ?_, List.nodup_cons.mpr ⟨fun hx => a x hx (List.mem_append_right _ (List.mem_singleton.mpr rfl)), b⟩⟩
        rcases List.mem_cons.mp hy with z | z
        · rw [z]; exact g
        · exact fun w => a y z (List.mem_append_left _ w)
      · have b := List.nodup_cons.mp h.2
        have := ih.2.mpr ⟨fun y hy w => ?_, b.2⟩
        · omega
        · rcases List.mem_append.mp w with z | z
          · exact h.1 y (List.mem_cons_of_mem _ hy) z
          · rw [List.mem_singleton.mp z] at hy
            exact b.1 hy
theorem uZ_le (xs : List α) : (uZ xs).length ≤ xs.length := by
  have := (uZ_fold xs []).1
  rw [List.length_nil, Nat.zero_add] at this
  exact this
theorem uZ_nodup (xs : List α) : (uZ xs).length = xs.length ↔ xs.Nodup := by
  have := (uZ_fold xs []).2
  unfold uZ
  simp only [List.length_nil, Nat.zero_add] at this
  rw [this]
  exact ⟨fun h => h.2, fun h => ⟨fun x _ z => (nomatch z), h⟩⟩
end
theorem fold_ext {α β : Type} {f g : β → α → β} (h : ∀ b a, f b a = g b a) : ∀ (xs : List α) (b : β), xs.foldl f b = xs.foldl g b
  | [], _ => rfl
  | x :: r, b => by
    show r.foldl f (f b x) = r.foldl g (g b x)
    rw [h, fold_ext h r]
theorem any_mem {α : Type} [DecidableEq α] [BEq α] [LawfulBEq α] (l : List α) (v : α) : (l.any (· == v)) = decide (v ∈ l) := by
  apply Bool.eq_iff_iff.mpr
  rw [List.any_eq_true, decide_eq_true_iff]
  exact ⟨fun ⟨y, h, e⟩ => by rw [← eq_of_beq e]; exact h, fun h => ⟨v, h, beq_self_eq_true v⟩⟩
theorem uZ_int (ns : List Int) : ns.foldl step_dedup [] = uZ ns := fold_ext (fun l v => by
  unfold step_dedup addZ
  rw [any_mem]
  by_cases h : v ∈ l
  · rw [if_pos (decide_eq_true h), if_pos h]
  · rw [if_neg (fun z => h (of_decide_eq_true z)), if_neg h]) ns []
section
variable {μ : Type} {M : Mu μ} {σ : L2.St} {Z H : Hp} {s s1 : μ} {ta : TE} {K : PySem.W.Frag}
theorem ev_lenSetI {xs : List Int} (ha : Ev M ta σ Z H s (li yInt xs) s1) (l : xs.length ≤ 1000) : Ev M (TSN.tLenSetI K ta) σ Z H s (ty yInt ((uZ xs).length : Nat)) s1 :=
  fun Z1 H1 a b c d Q q => ha Z1 H1 a b c d _ fun v Z2 H2 e m rv => by
    obtain ⟨p, vs, rfl, g, t, _⟩ := rdl e.s rv
    rw [t.ints] at g
    exact ⟨p, xs, rfl, SqL.of g, l, q _ Z2 H2 e m (by rw [uZ_int]; rfl)⟩
end
end TP

/-! len(set(xs)): of texts, of numbers -/
namespace TSN
open PySem PySem.Spec PyProof.Rows L2

def addS (l : List Str) (v : Str) : List Str := if l.any (· == v) then l else l ++ [v]
def uS (xs : List Str) : List Str := xs.foldl addS []
theorem addS_any (l : List Str) (v k : Str) : (addS l v).any (· == k) = (l.any (· == k) || decide (k = v)) := by
  unfold addS
  by_cases g : l.any (· == v) = true
  · rw [if_pos g]
    by_cases e : k = v
    · subst e
      rw [g]
      rfl
    · rw [decide_eq_false e, Bool.or_false]
  · rw [if_neg g, List.any_append]
    congr 1
    by_cases e : k = v
    · subst e
      simp
    · rw [decide_eq_false e]
      simpa using fun z : v = k => e z.symm
theorem addS_len (l : List Str) (v : Str) : (addS l v).length = if l.any (· == v) then l.length else l.length + 1 := by
  unfold addS
  by_cases g : l.any (· == v) = true
  · rw [if_pos g, if_pos g]
  · rw [if_neg g, if_neg g, List.length_append]
    rfl
theorem uS_succ {xs : List Str} {i : Nat} {v : Str} (h : xs[i]? = some v) : uS (xs.take (i + 1)) = addS (uS (xs.take i)) v := by
  unfold uS
  rw [List.take_add_one, h, List.foldl_append]
  rfl
theorem uS_fold : ∀ (xs acc : List Str), (xs.foldl addS acc).length ≤ acc.length + xs.length ∧ ((xs.foldl addS acc).length = acc.length + xs.length ↔ (∀ x ∈ xs, x ∉ acc) ∧ xs.Nodup)
  | [], acc => ⟨Nat.le_refl _, fun _ => ⟨fun x h => (nomatch h), List.nodup_nil⟩, fun _ => rfl⟩
  | x :: r, acc => by
    have ih := uS_fold r (addS acc x)
    show (r.foldl addS (addS acc x)).length ≤ _ ∧ ((r.foldl addS (addS acc x)).length = _ ↔ _)
    rw [List.length_cons]
    by_cases g : x ∈ acc
    · have e : addS acc x = acc := by
        unfold addS
        have z : (acc.any (· == x)) = true := List.any_eq_true.mpr ⟨x, g, beq_self_eq_true x⟩
        rw [if_pos z]
      rw [e] at ih ⊢
      refine ⟨by omega, fun h => by omega, fun h => absurd g (h.1 x (List.mem_cons_self ..))⟩
    · have e : addS acc x = acc ++ [x] := by
        unfold addS
        rw [if_neg]
        intro h
        obtain ⟨y, h1, h2⟩ := List.any_eq_true.mp h
        rw [eq_of_beq h2] at h1
        exact g h1
      rw [e] at ih ⊢
      rw [List.length_append, List.length_singleton] at ih
      refine ⟨by omega, fun h => ?_, fun h => ?_⟩
      · obtain ⟨a, b⟩ := ih.2.mp (by omega)
        refine ⟨fun y hy => ?_, List.nodup_cons.mpr ⟨fun hx => a x hx (List.mem_append_right _ (List.mem_singleton.mpr rfl)), b⟩⟩
        rcases List.mem_cons.mp hy with z | z
        · rw [z]; exact g
        · exact fun w => a y z (List.mem_append_left _ w)
      · have b := List.nodup_cons.mp h.2
        have := ih.2.mpr ⟨fun y hy w => ?_, b.2⟩
        · omega
        · rcases List.mem_append.mp w with z | z
          · exact h.1 y (List.mem_cons_of_mem _ hy) z
          · rw [List.mem_singleton.mp z] at hy
            exact b.1 hy
theorem uS_le (xs : List Str) : (uS xs).length ≤ xs.length := by
  have := (uS_fold xs []).1
  rw [List.length_nil, Nat.zero_add] at this
  exact this
theorem uS_nodup (xs : List Str) : (uS xs).length = xs.length ↔ xs.Nodup := by
  have := (uS_fold xs []).2
  unfold uS
  simp only [List.length_nil, Nat.zero_add] at this
  rw [this]
  exact ⟨fun h => h.2, fun h => ⟨fun x _ z => (nomatch z), h⟩⟩
section
variable {prog : Program} {w : World} {A : Around} {E : Value → Shared → Prop} {s : Shared}
/-- the set's own loop: the items enter one by one -/
theorem enter_texts {R : Result → Shared → Prop} {it : Addr} {own wr : List Addr} {G : Array GenState → Array GenState → Prop} {m : Nat} {P : Nat → Value → Prop} {St : Nat → Shared → Prop} (W : WalksS prog w A.in1 it own wr G m P St) (Z : Addr) (zo : Z ∉ own)
    (xs : List Str) (lx : xs.length = m) (room : m + 1 < scanBound) (isT : ∀ j v, P j v → ∃ t, v = .str (xs.getD j Str.empty) t) (left j : Nat) (t : Shared) (hj : m - j = left) (jm : j ≤ m) (at_ : St j t)
    (held : t.heap.SetOf (PySem.strKind prog w) Z (fun c => (uS (xs.take j)).any (· == c)) (uS (xs.take j)).length)
    (fin : ∀ u, Moved (Z :: wr) G t u → u.heap.SetOf (PySem.strKind prog w) Z (fun c => (uS (xs.take m)).any (· == c)) (uS (xs.take m)).length → R (.ok (.ret .none)) u) :
    codeAny (model prog w) A (.builtin "set.update.loop" ⟨[.ref Z, .ref it], []⟩) R t := by
  have zw : Z ∉ wr := fun b => zo (W.sub _ b)
  have inw : ∀ b ∈ wr, b ∈ Z :: wr := fun b g => List.mem_cons_of_mem _ g
  induction left generalizing j t with
  | zero =>
    obtain rfl : j = m := by omega
    refine codeAny_builtin (PyProof.Rows.F.entry_set_update_loop) ?_
    rw [Around.under_plainId (PyProof.Rows.F.plain_set_update_loop) _]
    show wpAny _ A.in1 (pyNext (.ref it) >>= _) _ _ t
    refine wpAny_bind (W.done t _ _ at_ fun u mv => ?_)
    show wpAny _ A.in1 (ret Value.none) _ _ u
    refine wpAny_pure (fin u (mv.mono inw) ?_)
    obtain ⟨ob, es, ep, tb, g, more⟩ := held
    exact ⟨ob, es, ep, tb, mv.heap Z _ zw g, more⟩
  | succ left ih =>
    have lt : j < m := by omega
    refine codeAny_builtin (PyProof.Rows.F.entry_set_update_loop) ?_
    rw [Around.under_plainId (PyProof.Rows.F.plain_set_update_loop) _]
    show wpAny _ A.in1 (pyNext (.ref it) >>= _) _ _ t
    refine wpAny_bind (W.item j t _ _ lt at_ fun v u pv at2 mv => ?_)
    obtain ⟨tk, rfl⟩ := isT j v pv
    have held2 : u.heap.SetOf (PySem.strKind prog w) Z (fun c => (uS (xs.take j)).any (· == c)) (uS (xs.take j)).length := by
      obtain ⟨ob, es, ep, tb, g, more⟩ := held
      exact ⟨ob, es, ep, tb, mv.heap Z _ zw g, more⟩
    show wpAny _ A.in1 (holding [Value.str (xs.getD j Str.empty) tk] (setAdd Z (.str (xs.getD j Str.empty) tk)) >>= _) _ _ u
    refine wpAny_bind (wpAny_holding ?_)
    unfold setAdd
    refine wpAny_holding (wpAny_bind ((PySem.strKind prog w).pyHash (k := xs.getD j Str.empty) (strKind_is _ _ _ _) ?_))
    have few : (uS (xs.take j)).length + 1 < scanBound := by
      have a := uS_le (xs.take j)
      have b : (xs.take j).length ≤ m := by rw [List.length_take]; omega
      omega
    refine wpAny_setAddHashed_of (knd := PySem.strKind prog w) (s := { u with toks := u.toks + 1 }) (strKind_is _ _ _ _) rfl held2 few fun h2 but held3 => ?_
    have gx : xs[j]? = some (xs.getD j Str.empty) := by
      rw [List.getD_eq_getElem?_getD, List.getElem?_eq_getElem (by omega)]
      rfl
    have held4 : h2.SetOf (PySem.strKind prog w) Z (fun c => (uS (xs.take (j + 1))).any (· == c)) (uS (xs.take (j + 1))).length := by
      rw [uS_succ gx]
      exact PyProof.Rows.SetOf_congr held3 (fun c => (addS_any _ _ c).symm) (addS_len _ _).symm
    refine wpAny_pure ⟨plainId_quiet (PyProof.Rows.F.plain_set_update_loop) _, ih (j + 1) _ (by omega) lt (W.frame _ u _ _ at2 (Nat.le_succ _) fun b g ob e => ?_) held4 fun u2 mv2 held5 => ?_⟩
    · rw [but.2 b (fun y : b = Z => zo (by rw [← y]; exact g))]
      exact e
    · refine fin u2 (Moved.trans W.gtrans ((mv.mono inw).then_heap (Nat.le_succ _) fun b ob g e => ?_) mv2) held5
      rw [but.2 b (fun y : b = Z => g (by rw [y]; exact List.mem_cons_self))]
      exact e
set_option maxHeartbeats 6400000 in
theorem made_of_texts {l : Addr} {its : Array Value} {xs : List Str} {Q : Value → Shared → Prop} (calm : A.handled = none) (gl : s.heap.IsList l its) (are : PyProof.Rows.StrsAre its.toList xs) (room : xs.length + 1 < scanBound)
    (q : ∀ (h2 : Heap) (tk : Nat), h2.SetOf (PySem.strKind prog w) s.heap.objs.size (fun c => (uS xs).any (· == c)) (uS xs).length → (∀ b ob, b < s.heap.objs.size → s.heap.get? b = some ob → h2.get? b = some ob) → Q (.ref s.heap.objs.size) { s with heap := h2, toks := tk }) :
    wpAny (model prog w) A (call (.type "set") [.ref l]) Q E s := by
  have k1 := PySem.F.called_set.made
  have k2 := PySem.F.called_set.sub
  obtain ⟨cc, tl, k3⟩ := PySem.F.called_set.mro
  refine wpAny_call (codeAny_of_tree ?_)
  show wpAny _ _ (callAny (.type "set") _) _ _ _
  refine wpAny_pure ⟨Code.quiet_builtin _ (by decide +kernel), codeAny_builtin (PySem.F.entry_type_call) ?_⟩
  rw [Around.under_plain (weight_type_call_type "set" [.ref l] []) (rfl)]
  have k4 := PySem.F.called_set.notType
  have k5 := PySem.F.called_set.canCreate
  have k6 := PySem.F.typeCall_set_1 (.ref l)
  repeat (any_goals (first | assumption | (wp_step)))
  refine codeAny_mono (code_set_new_1 (.ref l) (E := E) (Q₁ := fun o u => ∃ b : Bool, o = .ref s.heap.objs.size ∧ u = { s with heap := s.heap.push { cls := .type "set", dict := none, data := .set #[] 0 (.fresh 0 0 b) } }) fun b => ⟨b, rfl, rfl⟩) fun r u ru => ?_
  cases r with
  | error e => exact ru
  | ok f1 =>
    cases f1 with
    | ret o =>
      obtain ⟨b, rfl, rfl⟩ := ru
      have gS : (s.heap.push { cls := .type "set", dict := none, data := .set #[] 0 (.fresh 0 0 b) }).get? s.heap.objs.size = some { cls := .type "set", dict := none, data := .set #[] 0 (.fresh 0 0 b) } := Heap.get?_push_size _ (rfl)
      have tS : Shared.TypeIs { s with heap := s.heap.push { cls := .type "set", dict := none, data := .set #[] 0 (.fresh 0 0 b) } } (.ref s.heap.objs.size) "set" := ⟨_, gS, (rfl)⟩
      have k7 := PySem.F.called_set.init.lookup
      have k8 := PySem.F.called_set.init.bind (.ref s.heap.objs.size)
      repeat (any_goals (first | assumption | (wp_step)))
      refine codeAny_mono (codeAny_call_builtin (R := wants (fun o u => o = .none ∧ ∃ h2 tk, u = { s with heap := h2, toks := tk } ∧ h2.SetOf (PySem.strKind prog w) s.heap.objs.size (fun c => (uS xs).any (· == c)) (uS xs).length ∧
          (∀ a ob, a < s.heap.objs.size → s.heap.get? a = some ob → h2.get? a = some ob)) E) (PySem.F.called_set.init.plain) (PySem.F.entry_set_init) (check_set_init_1 tS ?_)) fun r2 u2 ru2 => ?_
      · obtain ⟨⟨c1, d1, e1, f1⟩, ol, ec, nl, ed⟩ := gl
        simp only at ec ed
        subst ec ed
        have ol2 : (s.heap.push { cls := .type "set", dict := none, data := .set #[] 0 (.fresh 0 0 b) }).get? l = some ⟨.type "list", d1, .seq its nl, f1⟩ := Heap.get?_push_of_some _ (ol)
        have k9 := PySem.F.sub_list_set
        have ka := PySem.F.sub_list_frozenset
        have kb : (Value.type "list" == Value.type "dict") = false := by (decide)
        have il : (s.heap.push { cls := .type "set", dict := none, data := .set #[] 0 (.fresh 0 0 b) }).IsList l its := ⟨_, ol2, rfl, nl, (rfl)⟩
        unfold Builtin.«set.__init__» Builtin.Frozenset.updateFrom noKeywords
        generalize ePI : pyIter = PI
        wp_walk
        subst ePI
        refine wpAny_pyIter_list il (wpAny_bind (wpAny_runValue ?_))
        have ll : l < s.heap.objs.size := Heap.lt_size ol
        have calm3 : A.in1.in1.in1.handled = none := by (simp [calm])
        have ne1 : l ≠ (s.heap.push { cls := .type "set", dict := none, data := .set #[] 0 (.fresh 0 0 b) }).objs.size := by
          rw [Heap.size_push]
          exact Nat.ne_of_lt (Nat.lt_succ_of_lt ll)
        have nin : s.heap.objs.size ∉ [(s.heap.push { cls := .type "set", dict := none, data := .set #[] 0 (.fresh 0 0 b) }).objs.size, l] := by
          rw [Heap.size_push]
          intro z
          rcases List.mem_cons.mp z with y | y
          · exact absurd y (Nat.ne_of_lt (Nat.lt_succ_self _))
          · exact absurd (List.mem_singleton.mp y) (Nat.ne_of_gt ll)
        have lx : xs.length = its.size := by rw [← StrsAre.len_eq are, Array.length_toList]
        have isT : ∀ (j : Nat) (v : Value), its[j]? = some v → ∃ t, v = .str (xs.getD j Str.empty) t := fun j v gv => SS.strs_at are j v (by rw [Array.getElem?_toList]; exact (gv))
        refine enter_texts ((Walks.list calm3 _ l ne1 its).toS) s.heap.objs.size nin xs lx (by rw [← lx]; exact room) isT (its.size - 0) 0 _ (by omega) (Nat.zero_le _) ⟨⟨_, Heap.get?_push_size _ rfl, rfl, rfl⟩, (il.push _)⟩ ?start ?stop
        case start =>
          have g0 : ((s.heap.push { cls := .type "set", dict := none, data := .set #[] 0 (.fresh 0 0 b) }).push { cls := .type "list_iterator", data := .fields #[.ref l, .int 0 0] }).get? s.heap.objs.size = some { cls := .type "set", dict := none, data := .set #[] 0 (.fresh 0 0 b) } := Heap.get?_push_of_some _ (gS)
          exact PyProof.Rows.SetOf_congr ((PyProof.Rows.setObjOf_fresh (knd := PySem.strKind prog w) b).setOf g0 (by unfold scanBound; omega)) (fun _ => by rw [List.take_zero]; rfl) (by rw [List.take_zero]; rfl)
        case stop =>
          intro u mv held
          obtain ⟨h2, g2, d2, t2, o2⟩ := u
          obtain rfl : g2 = s.gens := mv.gens
          obtain rfl : d2 = s.drawn := mv.drawn
          obtain rfl : o2 = s.os := mv.os
          rw [← lx, List.take_length] at held
          show wpAny _ _ _ _ _ _
          refine wpAny_pure ?_
          show wpAny _ _ (ret Value.none) _ _ _
          refine wpAny_pure ⟨rfl, h2, t2, rfl, held, fun a ob la e => ?_⟩
          refine mv.heap a ob (fun z => ?_) (Heap.get?_push_of_some _ (Heap.get?_push_of_some _ (e)))
          rw [Heap.size_push] at z
          rcases List.mem_cons.mp z with y | y
          · exact absurd y (Nat.ne_of_lt la)
          · exact absurd (List.mem_singleton.mp y) (Nat.ne_of_lt (Nat.lt_succ_of_lt la))
      · cases r2 with
        | error e => exact ru2
        | ok f2 =>
          cases f2 with
          | ret o =>
            obtain ⟨rfl, h2, t2, rfl, held, more⟩ := ru2
            repeat (any_goals (first | assumption | (wp_step)))
            exact q _ _ held (more)
          | _ => exact (ru2.elim)
    | _ => exact (ru.elim)
end
/-- len(set(xs)), xs a list of texts -/
def tLenSetT (K : PySem.W.Frag) (ta : TE) : TE := fun σ H Q => ta σ H fun x H1 => ∃ l, ∃ xs : List Str, x = .ref l ∧ SqL K H1 l (xs.map V.str) ∧ xs.length ≤ 1000 ∧ Q (.int (uS xs).length) H1
theorem pe_lenSetT {X : Cx} {a : Expr} {ta : TE} {p p2 q pos : Pos} (hc : X.calm = true) (hg : Gl X "len") (hm : X.mg "len" = none) (hg2 : Gl X "set") (hm2 : X.mg "set" = none) (ha : PE X a ta)
    (na : starEach [a] X.env = (false, eval a X.env) :: starEach [] X.env := by rfl) : PE X (.Call (.Name "len" p) [.Call (.Name "set" p2) [a] [] q] [] pos) (tLenSetT X.K ta) := by
  refine ⟨fun pins s σ H Q I g => Call_ (ld_blt I hg hm boot_len (PyProof.Rows.callWith_builtin1 (PyProof.Rows.args_cons ?_ rfl) rfl rfl))⟩
  refine Call_ (ld_blt I hg2 hm2 boot_set (PyProof.Rows.callWith_type1 (PyProof.Rows.args_cons (thn (ha.run pins s σ H _ I g) fun v s1 ⟨x, H1, I1, r1, q1⟩ => PyProof.Rows.args_nil ?_) na) na rfl))
  obtain ⟨l, xs, rfl, gl, few, q1⟩ := q1
  cases r1
  obtain ⟨its, r, pl, _⟩ := I1.list gl
  refine made_of_texts (I1.ok.hd hc) pl.isList (by simpa using L2.strsAre_of r) (by unfold scanBound; omega) fun h2 tk held more => PyProof.Rows.args_nil ?_
  obtain ⟨ob, es, ep, tb, g1, g2, g3, _, _, _, g4, g5⟩ := held
  have I2 : Inv X pins σ H1 { s1 with heap := h2, toks := tk } := I1.kept fun b o e => more b o (Heap.lt_size e) e
  have small := uS_le xs
  exact call_len_set g1 g2 g3 g4 (by rw [g5]; omega) ⟨.int (uS xs).length, H1, I2.tok _, ⟨_, by rw [g5]⟩, q1⟩

end TSN
namespace TP
open PySem PySem.Spec PyProof.Rows L2
theorem uZ_str (ns : List Str) : TSN.uS ns = uZ ns := fold_ext (fun l v => by
  unfold TSN.addS addZ
  rw [any_mem]
  by_cases h : v ∈ l
  · rw [if_pos (decide_eq_true h), if_pos h]
  · rw [if_neg (fun z => h (of_decide_eq_true z)), if_neg h]) ns []
section
variable {μ : Type} {M : Mu μ} {σ : L2.St} {Z H : Hp} {s s1 : μ} {ta : TE} {K : PySem.W.Frag}
theorem All.strs {Z : Hp} : ∀ {vs : List V} {xs : List Str}, All (yStr.r Z) vs xs → vs = xs.map V.str
  | _, _, .nil => rfl
  | _, _, .cons h t => by rw [h.1, t.strs]; rfl
theorem ev_lenSetT {xs : List Str} (ha : Ev M ta σ Z H s (li yStr xs) s1) (l : xs.length ≤ 1000) : Ev M (TSN.tLenSetT K ta) σ Z H s (ty yInt ((uZ xs).length : Nat)) s1 :=
  fun Z1 H1 a b c d Q q => ha Z1 H1 a b c d _ fun v Z2 H2 e m rv => by
    obtain ⟨p, vs, rfl, g, t, _⟩ := rdl e.s rv
    rw [t.strs] at g
    exact ⟨p, xs, rfl, SqL.of g, l, q _ Z2 H2 e m (by rw [uZ_str]; rfl)⟩
end
end TP

namespace TP
open PySem PySem.Spec PyProof.Rows L2
section
variable {μ : Type} {M : Mu μ} {σ : L2.St} {Z H : Hp} {s s1 s2 : μ} {ta tb : TE} {K : PySem.W.Frag} {α : Type} {τ : Ty α}
theorem ev_countI {xs : List Int} {k : Int} (ha : Ev M ta σ Z H s (li yInt xs) s1) (hb : Ev M tb σ Z H s1 (ty yInt k) s2) : Ev M (tBM K "list" (rCntI K) ta (tCons tb tNil)) σ Z H s (ty yInt ((xs.count k : Nat) : Int)) s2 :=
  fun Z1 H1 a b c d Q q => ha Z1 H1 a b c d _ fun v Z2 H2 e m rv => by
    obtain ⟨p, vs, rfl, g, t, _⟩ := rdl e.s rv
    refine ⟨.inl ⟨rfl, _, SqL.of g⟩, eva_cons hb eva_nil Z2 H2 (a.trans e.z) (b.trans e.h) e.s m _ fun us Z3 H3 e2 m2 ⟨w, r, e3, rw', e4⟩ => ?_⟩
    cases e4; cases e3
    obtain ⟨p', vs', ev, g', t', _⟩ := rdl e2.s ((li yInt xs).st e2 rv)
    cases ev
    have hvs : vs' = xs.map V.int := All.ints t'
    subst hvs
    exact ⟨p, xs, k, rfl, by rw [show w = .int k from rw'], SqL.of g', q _ _ _ (e.trans e2) m2 rfl⟩
def idxO [DecidableEq α] (xs : List α) (x : α) : Option Nat := xs.findIdx? (fun y => decide (y = x))
/-- flat kinds, as list.index asks -/
structure FlatJ {α : Type} (τ : Ty α) (f : α → V) : Prop where
  eq : ∀ Z v x, τ.r Z v x → v = f x
  fl : ∀ x, flatV (f x) = true
  ev : ∀ x y, eqV (f x) (f y) = true ↔ x = y
theorem fj_int : FlatJ yInt V.int := ⟨fun _ _ _ h => h, fun _ => rfl, fun x y => by simp [eqV]⟩
theorem fj_str : FlatJ yStr V.str := ⟨fun _ _ _ h => h.1, fun _ => rfl, fun x y => by simp [eqV]⟩
theorem ev_indexL [DecidableEq α] {f : α → V} {xs : List α} {x : α} {j : Nat} (F : FlatJ τ f) (ha : Ev M ta σ Z H s (li τ xs) s1) (hb : Ev M tb σ Z H s1 (ty τ x) s2) (h : idxO xs x = some j) : Ev M (tBM K "list" (rIndex K) ta (tCons tb tNil)) σ Z H s (ty yInt ((j : Nat) : Int)) s2 :=
  fun Z1 H1 a b c d Q q => ha Z1 H1 a b c d _ fun v Z2 H2 e m rv => by
    obtain ⟨p, vs, rfl, g, t, _⟩ := rdl e.s rv
    refine ⟨.inl ⟨rfl, _, SqL.of g⟩, eva_cons hb eva_nil Z2 H2 (a.trans e.z) (b.trans e.h) e.s m _ fun us Z3 H3 e2 m2 ⟨w, r, e3, rw', e4⟩ => ?_⟩
    cases e4; cases e3
    obtain ⟨p', vs', ev, g', t', _⟩ := rdl e2.s ((li τ xs).st e2 rv)
    cases ev
    have hvs : vs' = xs.map f := All.map (fun v x => F.eq _ v x) t'
    subst hvs
    have hw : w = f x := F.eq _ _ _ rw'
    subst hw
    unfold idxO at h
    rw [List.findIdx?_eq_some_iff_getElem] at h
    obtain ⟨hj, h1, h2⟩ := h
    have e1 : xs[j] = x := of_decide_eq_true h1
    refine ⟨p, xs.map f, f x, j, f x, rfl, rfl, SqL.of g', F.fl x, ?_, by rw [List.getElem?_map, List.getElem?_eq_getElem hj, e1]; rfl, (F.ev x x).mpr rfl, fun m' z' hm hz => ?_, q _ _ _ (e.trans e2) m2 rfl⟩
    · rw [List.all_map]
      rw [List.all_eq_true]
      exact fun y _ => F.fl y
    · rw [List.getElem?_map] at hz
      have hm' : m' < xs.length := by omega
      rw [List.getElem?_eq_getElem hm'] at hz
      have hz' : f xs[m'] = z' := Option.some.inj hz
      subst hz'
      have := h2 m' hm
      cases q' : eqV (f xs[m']) (f x) with
      | false => rfl
      | true => exact absurd (decide_eq_true ((F.ev _ _).mp q')) (by simpa using this)
end
end TP

namespace ZN
open PySem PySem.Spec PyProof.Rows L2
open PySem.Sem (wp)
/-- what is walked: an address, and whether a tuple stands there -/
structure Src where
  a : Addr
  t : Bool
def SIt (h : Heap) (it : Addr) (x : Src) (k : Nat) : Prop := match x.t with
  | true => h.IsTupleIter it x.a k
  | false => h.IsListIter it x.a k
def SSq (h : Heap) (x : Src) (r : Array Value) : Prop := match x.t with
  | true => h.IsTuple x.a r
  | false => h.IsList x.a r
theorem SIt.at {h h' : Heap} {it : Addr} {x : Src} {k : Nat} (g : SIt h it x k) (e : ∀ o, h.get? it = some o → h'.get? it = some o) : SIt h' it x k := by
  obtain ⟨a, t⟩ := x
  cases t
  · exact Heap.IsListIter.at g e
  · exact Heap.IsTupleIter.at g e
theorem SSq.at {h h' : Heap} {x : Src} {r : Array Value} (g : SSq h x r) (e : ∀ o, h.get? x.a = some o → h'.get? x.a = some o) : SSq h' x r := by
  obtain ⟨a, t⟩ := x
  cases t
  · exact Heap.IsList.at g e
  · exact Heap.IsTuple.at g e
theorem SIt.obj {h : Heap} {it : Addr} {x : Src} {k : Nat} (g : SIt h it x k) : ∃ o, h.get? it = some o ∧ ∀ v, o.data ≠ .cell v := by
  obtain ⟨a, t⟩ := x
  cases t
  · obtain ⟨o, e, _, d⟩ := g
    exact ⟨o, e, fun v q => by rw [d] at q; cases q⟩
  · obtain ⟨o, e, _, d⟩ := g
    exact ⟨o, e, fun v q => by rw [d] at q; cases q⟩
section
variable {prog : Program} {w : World} {A : Around} {E : Value → Shared → Prop} {s : Shared}
theorem nextOf_item {it : Addr} {x : Src} {k : Nat} {r : Array Value} {v : Value} {Q : Value → Shared → Prop} (hit : SIt s.heap it x k) (hl : SSq s.heap x r) (hx : r[k]? = some v)
    (hQ : ∀ h', SIt h' it x (k + 1) → Heap.SameBut it s.heap h' → Q v { s with heap := h' }) : wpAny (model prog w) A (Builtin.SmallTypes.nextOf (.ref it)) Q E s := by
  obtain ⟨a, t⟩ := x
  cases t
  · exact wpAny_nextOf_list_item hit hl hx hQ
  · exact RZ.nextOf_tuple_item hit hl hx hQ
theorem nextOf_end {it : Addr} {x : Src} {k : Nat} {r : Array Value} {Q : Value → Shared → Prop} (hh : A.handled = none) (hit : SIt s.heap it x k) (hl : SSq s.heap x r) (hx : r[k]? = none)
    (hE : ∀ h' e, Heap.ExtBut it s.heap h' → (∃ o, h'.get? e = some o ∧ o.cls = .type "StopIteration") → E (.ref e) { s with heap := h' }) : wpAny (model prog w) A (Builtin.SmallTypes.nextOf (.ref it)) Q E s := by
  obtain ⟨a, t⟩ := x
  cases t
  · exact wpAny_nextOf_list_end hh hit hl hx hE
  · exact RZ.nextOf_tuple_end hh hit hl hx hE
theorem pyIter_src {x : Src} {r : Array Value} {Q : Value → Shared → Prop} (hl : SSq s.heap x r)
    (hQ : Q (.ref s.heap.objs.size) { s with heap := s.heap.push { cls := .type (if x.t then "tuple_iterator" else "list_iterator"), data := .fields #[.ref x.a, .int 0 0] } }) :
    wpAny (model prog w) A (pyIter (.ref x.a)) Q E s := by
  obtain ⟨a, t⟩ := x
  cases t
  · exact wpAny_pyIter_list hl hQ
  · exact wpAny_pyIter_tuple hl hQ
theorem forIn_by {α β : Type} {r0 : β} {Q : β → Shared → Prop} : ∀ {l : List α} {f : α → β → Sem (ForInStep β)} (I : Nat → Shared → Prop) {s : Shared}, I 0 s →
    (∀ j x s, l[j]? = some x → I j s → wpAny (model prog w) A (f x r0) (fun r s' => r = .yield r0 ∧ I (j + 1) s') E s) → (∀ s, I l.length s → Q r0 s) → wpAny (model prog w) A (forIn l r0 f) Q E s
  | [], f, I, s, h0, _, hd => by
    rw [List.forIn_nil]
    exact wpAny_pure (hd s h0)
  | y :: r, f, I, s, h0, hs, hd => by
    rw [List.forIn_cons]
    refine wpAny_bind (wpAny_mono (hs 0 y s rfl h0) (fun z s' q => ?_) fun _ _ e => e)
    obtain ⟨rfl, q⟩ := q
    exact forIn_by (l := r) (fun j => I (j + 1)) q (fun j x s hx => hs (j + 1) x s hx) hd
theorem updateSeq_at {T : Addr} {ys : Array Value} {x : Value} {k : Nat} {Q : Unit → Shared → Prop} (hT : s.heap.get? T = some { cls := .type "tuple", data := .seq ys }) (hz : ys.size ≤ sizeLine)
    (h : ∀ h', h'.get? T = some { cls := .type "tuple", data := .seq (ys.setIfInBounds k x) } → Heap.SameBut T s.heap h' → Q () { s with heap := h' }) :
    wpAny (model prog w) A (updateSeq T (·.setIfInBounds k x)) Q E s := by
  refine wpAny_updateSeq hT rfl (h _ ?_ (Heap.SameBut.update ..)) hz (by simp; omega)
  rw [Heap.get?_update_self _ hT rfl]
  simp [Obj.mapSeq]
structure Apart (z TI TO : Addr) (is : List Addr) (srcs : List Src) : Prop where
  TIz : TI ≠ z
  TOz : TO ≠ z
  TITO : TI ≠ TO
  zi : z ∉ is
  TIi : TI ∉ is
  TOi : TO ∉ is
  nd : is.Nodup
  sz : ∀ x ∈ srcs, x.a ≠ z
  sTO : ∀ x ∈ srcs, x.a ≠ TO
  si : ∀ x ∈ srcs, x.a ∉ is
theorem nd_inj {α : Type} {is : List α} {i j : Nat} {a : α} (h : is.Nodup) (e1 : is[i]? = some a) (e2 : is[j]? = some a) : i = j := by
  obtain ⟨l1, g1⟩ := List.getElem?_eq_some_iff.mp e1
  obtain ⟨l2, g2⟩ := List.getElem?_eq_some_iff.mp e2
  rcases Nat.lt_trichotomy i j with g | g | g
  · exact absurd (g1.trans g2.symm) (List.pairwise_iff_getElem.mp h i j l1 l2 g)
  · exact g
  · exact absurd (g2.trans g1.symm) (List.pairwise_iff_getElem.mp h j i l2 l1 g)
def refs (is : List Addr) : Array Value := (is.map Value.ref).toArray
theorem next {z TI TO : Addr} {is : List Addr} {srcs : List Src} {k : Nat} {row : Nat → Array Value} {Q : Fin → Shared → Prop} (hh : A.handled = none) (D : Apart z TI TO is srcs) (hlen : is.length = srcs.length) (hne : is ≠ []) (hsm : is.length ≤ 1000)
    (hz : IsZip s.heap z TI TO .none) (hTI : s.heap.get? TI = some { cls := .type "tuple", data := .seq (refs is) }) (hTO : ∃ ys : Array Value, ys.size = is.length ∧ s.heap.get? TO = some { cls := .type "tuple", data := .seq ys })
    (hit : ∀ (j : Nat) (i : Addr) (x : Src), is[j]? = some i → srcs[j]? = some x → SIt s.heap i x k) (hsq : ∀ (j : Nat) (x : Src), srcs[j]? = some x → SSq s.heap x (row j))
    (hQ : (∀ j, j < is.length → (row j)[k]? ≠ none) → ∀ h' (ys : Array Value), IsZip h' z TI TO (rawInt s.heap.objs.size) → ys.size = is.length → (∀ j, j < is.length → ys[j]? = (row j)[k]?) → h'.get? TO = some { cls := .type "tuple", data := .seq ys } →
      (∀ (j : Nat) (i : Addr) (x : Src), is[j]? = some i → srcs[j]? = some x → SIt h' i x (k + 1)) → h'.get? s.heap.objs.size = some { cls := .type "tuple", data := .seq ys } → h'.objs.size = s.heap.objs.size + 1 →
      (∀ c o, c ≠ z → c ≠ TO → c ∉ is → s.heap.get? c = some o → h'.get? c = some o) → Q (.done (.ret (.ref s.heap.objs.size))) { s with heap := h' })
    (hE : (∃ j, j < is.length ∧ (row j)[k]? = none) → ∀ h' e, (∀ c o, c ≠ z → c ≠ TO → c ∉ is → s.heap.get? c = some o → h'.get? c = some o) → (∃ o, h'.get? e = some o ∧ o.cls = .type "StopIteration") → E (.ref e) { s with heap := h' }) :
    wpAny (model prog w) A (Builtin.«zip.__next__» ⟨[.ref z], []⟩) Q E s := by
  show wpAny _ _ (field (.ref z) 2 >>= _) _ _ _
  refine wpAny_bind (wpAny_field hz rfl (x := .bool false) rfl ?_)
  show wpAny _ _ (field (.ref z) 3 >>= _) _ _ _
  refine wpAny_bind (wpAny_field hz rfl (x := .ref TI) rfl ?_)
  refine wpAny_bind (wpAny_seqItems hTI rfl ?_)
  have hem : (refs is).isEmpty = false := by
    cases is with
    | nil => exact absurd rfl hne
    | cons i r => rfl
  simp only [hem, Bool.false_eq_true, if_false]
  show wpAny _ _ (Builtin.SmallTypes.ownedTupleIsFree (.ref z) >>= _) _ _ _
  refine wpAny_bind ?_
  unfold Builtin.SmallTypes.ownedTupleIsFree
  refine wpAny_bind (wpAny_field hz rfl (x := .none) rfl (wpAny_pure ?_))
  simp only [if_true]
  refine wpAny_bind (wpAny_rule ?_)
  refine wpAny_bind (wpAny_field hz rfl (x := .ref TO) rfl ?_)
  refine wpAny_bind (wpAny_setField_rec hz (by simp) fun h₁ hz₁ hs₁ => ?_)
  replace hz₁ : IsZip h₁ z TI TO .ellipsis := hz₁
  refine wpAny_bind ?_
  refine forIn_by (fun j s' => ∃ h', s' = { s with heap := h' } ∧ IsZip h' z TI TO .ellipsis ∧ (∃ ys : Array Value, ys.size = is.length ∧ h'.get? TO = some { cls := .type "tuple", data := .seq ys } ∧ ∀ i, i < j → i < is.length → ys[i]? = (row i)[k]?) ∧
    (∀ (i : Nat) (a : Addr) (x : Src), is[i]? = some a → srcs[i]? = some x → SIt h' a x (if i < j then k + 1 else k)) ∧ h'.objs.size = s.heap.objs.size ∧ (∀ i, i < j → i < is.length → (row i)[k]? ≠ none) ∧
    ∀ c o, c ≠ z → c ≠ TO → c ∉ is → s.heap.get? c = some o → h'.get? c = some o) ?_ ?_ ?_
  · obtain ⟨ys, y1, y2⟩ := hTO
    refine ⟨h₁, rfl, hz₁, ⟨ys, y1, hs₁.extBut _ _ D.TOz y2, fun i hi => absurd hi (Nat.not_lt_zero i)⟩, fun i a x e1 e2 => ?_, hs₁.1, fun i hi => absurd hi (Nat.not_lt_zero i), fun c o c1 _ _ e => hs₁.extBut _ _ c1 e⟩
    rw [if_neg (Nat.not_lt_zero i)]
    have ne : a ≠ z := fun q => D.zi (q ▸ List.mem_of_getElem? e1)
    exact (hit i a x e1 e2).at fun o q => hs₁.extBut _ _ ne q
  · rintro j ⟨v, n⟩ s' hj ⟨h', rfl, hz', ⟨ys, y1, y2, y3⟩, it', hsz, had, hk⟩
    rw [List.getElem?_zipIdx] at hj
    have hj' : ∃ a, is[j]? = some a ∧ v = .ref a ∧ n = j := by
      unfold refs at hj
      rw [List.toList_toArray, List.getElem?_map] at hj
      cases ea : is[j]? with
      | none => rw [ea] at hj; cases hj
      | some a =>
        rw [ea] at hj
        have := Option.some.inj hj
        have e1 := (Prod.mk.inj this).1
        have e2 := (Prod.mk.inj this).2
        exact ⟨a, rfl, e1.symm, by omega⟩
    obtain ⟨a, ea, rfl, rfl⟩ := hj'
    have jl : n < is.length := (List.getElem?_eq_some_iff.mp ea).1
    obtain ⟨x, ex⟩ : ∃ x, srcs[n]? = some x := ⟨srcs[n]'(by omega), List.getElem?_eq_getElem _⟩
    have ma := List.mem_of_getElem? ea
    have mx := List.mem_of_getElem? ex
    have az : a ≠ z := fun q => D.zi (q ▸ ma)
    have aTO : a ≠ TO := fun q => D.TOi (q ▸ ma)
    have hI := it' n a x ea ex
    rw [if_neg (Nat.lt_irrefl n)] at hI
    have hS : SSq h' x (row n) := (hsq n x ex).at fun o q => hk _ o (D.sz x mx) (D.sTO x mx) (D.si x mx) q
    refine wpAny_bind (wpAny_onRaise ?_)
    show wpAny _ _ (Builtin.SmallTypes.nextOf (.ref a) >>= _) _ _ _
    cases hx : (row n)[k]? with
    | none =>
      refine wpAny_bind (nextOf_end hh hI hS hx fun h₂ e hs₂ he => ?_)
      obtain ⟨oe, hoe, hce⟩ := he
      have hz₂ : IsZip h₂ z TI TO .ellipsis := hs₂ _ _ az.symm hz'
      have hez : e ≠ z := fun x => by subst x; rw [hz₂] at hoe; cases hoe; simp at hce
      refine wpAny_setField_rec hz₂ (by simp) fun h₃ _ hs₃ => hE ⟨n, jl, hx⟩ h₃ e (fun c o c1 c2 c3 q => hs₃.extBut _ _ c1 (hs₂ _ _ (fun q' => c3 (q' ▸ ma)) (hk c o c1 c2 c3 q))) ⟨oe, hs₃.extBut _ _ hez hoe, hce⟩
    | some u =>
      refine wpAny_bind (nextOf_item hI hS hx fun h₂ h1₂ hs₂ => wpAny_pure ?_)
      have hTO₂ : h₂.get? TO = some { cls := .type "tuple", data := .seq ys } := hs₂.extBut _ _ aTO.symm y2
      refine wpAny_bind (wpAny_seqItems hTO₂ rfl ?_)
      refine wpAny_bind (updateSeq_at hTO₂ (by rw [y1]; exact Nat.le_trans hsm (by decide)) fun h₃ hTO₃ hs₃ => ?_)
      refine wpAny_bind (wpAny_letGo (wpAny_pure ⟨rfl, h₃, rfl, hs₃.extBut _ _ D.TOz.symm (hs₂.extBut _ _ az.symm hz'), ⟨_, by simp [y1], hTO₃, fun i hi il => ?_⟩, fun i b x' e1 e2 => ?_, by rw [hs₃.1, hs₂.1, hsz], fun i hi il => ?_, fun c o c1 c2 c3 q => ?_⟩))
      · rcases Nat.lt_or_ge i n with g | g
        · rw [Array.getElem?_setIfInBounds_ne (by omega)]
          exact y3 i g il
        · have e : i = n := by omega
          subst e
          rw [Array.getElem?_setIfInBounds_self_of_lt (by omega), hx]
      · rcases Nat.lt_trichotomy i n with g | g | g
        · rw [if_pos (by omega)]
          have hb := it' i b x' e1 e2
          rw [if_pos g] at hb
          have ne : b ≠ a := fun q => by
            have := nd_inj D.nd e1 (q ▸ ea)
            omega
          have nT : b ≠ TO := fun q => D.TOi (q ▸ List.mem_of_getElem? e1)
          exact (hb.at fun o q => hs₂.extBut _ _ ne q).at fun o q => hs₃.extBut _ _ nT q
        · subst g
          rw [ea] at e1
          rw [ex] at e2
          cases e1
          cases e2
          rw [if_pos (by omega)]
          exact h1₂.at fun o q => hs₃.extBut _ _ aTO q
        · rw [if_neg (by omega)]
          have hb := it' i b x' e1 e2
          rw [if_neg (by omega)] at hb
          have ne : b ≠ a := fun q => by
            have := nd_inj D.nd e1 (q ▸ ea)
            omega
          have nT : b ≠ TO := fun q => D.TOi (q ▸ List.mem_of_getElem? e1)
          exact (hb.at fun o q => hs₂.extBut _ _ ne q).at fun o q => hs₃.extBut _ _ nT q
      · rcases Nat.lt_or_ge i n with g | g
        · exact had i g il
        · have e : i = n := by omega
          subst e
          rw [hx]
          exact fun q => nomatch q
      · exact hs₃.extBut _ _ c2 (hs₂.extBut _ _ (fun q' => c3 (q' ▸ ma)) (hk c o c1 c2 c3 q))
  · rintro s' ⟨h', rfl, hz', ⟨ys, y1, y2, y3⟩, it', hsz, had, hk⟩
    have ll : (refs is).toList.zipIdx.length = is.length := by simp [refs]
    rw [ll] at y3 it' had
    refine wpAny_bind (wpAny_seqItems y2 rfl ?_)
    refine wpAny_bind (wpAny_newTuple ?_ (by simp [y1]; exact Nat.le_trans hsm (by decide)))
    show wpAny _ _ (Builtin.SmallTypes.ownedTupleHandOut (.ref z) (.ref h'.objs.size) >>= _) _ _ _
    refine wpAny_bind ?_
    unfold Builtin.SmallTypes.ownedTupleHandOut
    have hzlt : z < h'.objs.size := Heap.lt_size hz'
    have hz₆ : IsZip (h'.push { cls := .type "tuple", data := .seq ys }) z TI TO .ellipsis := Heap.get?_push_of_some _ hz'
    refine wpAny_bind (wpAny_setField_rec hz₆ (by simp) fun h₇ hz₇ hs₇ => ?_)
    replace hz₇ : IsZip h₇ z TI TO (rawInt h'.objs.size) := hz₇
    refine wpAny_setField_rec hz₇ (by simp) fun h₈ hz₈ hs₈ => ?_
    replace hz₈ : IsZip h₈ z TI TO (rawInt h'.objs.size) := hz₈
    have up : ∀ c o, c ≠ z → h'.get? c = some o → h₈.get? c = some o := fun c o c1 e => hs₈.extBut _ _ c1 (hs₇.extBut _ _ c1 (Heap.get?_push_of_some _ e))
    have hT₈ : h₈.get? h'.objs.size = some { cls := .type "tuple", data := .seq ys } := hs₈.extBut _ _ (Nat.ne_of_gt hzlt) (hs₇.extBut _ _ (Nat.ne_of_gt hzlt) (Heap.get?_push_size _ rfl))
    have hz8 : h₈.objs.size = h'.objs.size + 1 := by rw [hs₈.1, hs₇.1, Heap.size_push]
    rw [hsz] at hz₈ hT₈ hz8
    refine wpAny_pure ?_
    show Q (.done (.ret (.ref h'.objs.size))) _
    rw [hsz]
    refine hQ (fun j hj => had j hj hj) h₈ ys hz₈ y1 (fun j hj => y3 j hj hj) (up _ _ D.TOz y2) (fun i a x e1 e2 => ?_) hT₈ hz8 fun c o c1 c2 c3 e => up c o c1 (hk c o c1 c2 c3 e)
    have hb := it' i a x e1 e2
    rw [if_pos (List.getElem?_eq_some_iff.mp e1).1] at hb
    exact hb.at fun o e => up _ o (fun q => D.zi (q ▸ List.mem_of_getElem? e1)) e
theorem pyNext_item {z TI TO : Addr} {is : List Addr} {srcs : List Src} {k : Nat} {row : Nat → Array Value} {Q : Option Value → Shared → Prop} (hh : A.handled = none) (D : Apart z TI TO is srcs) (hlen : is.length = srcs.length) (hne : is ≠ []) (hsm : is.length ≤ 1000)
    (hz : IsZip s.heap z TI TO .none) (hTI : s.heap.get? TI = some { cls := .type "tuple", data := .seq (refs is) }) (hTO : ∃ ys : Array Value, ys.size = is.length ∧ s.heap.get? TO = some { cls := .type "tuple", data := .seq ys })
    (hit : ∀ (j : Nat) (i : Addr) (x : Src), is[j]? = some i → srcs[j]? = some x → SIt s.heap i x k) (hsq : ∀ (j : Nat) (x : Src), srcs[j]? = some x → SSq s.heap x (row j)) (hall : ∀ j, j < is.length → (row j)[k]? ≠ none)
    (hQ : ∀ h' (ys : Array Value), IsZip h' z TI TO (rawInt s.heap.objs.size) → ys.size = is.length → (∀ j, j < is.length → ys[j]? = (row j)[k]?) → h'.get? TO = some { cls := .type "tuple", data := .seq ys } →
      (∀ (j : Nat) (i : Addr) (x : Src), is[j]? = some i → srcs[j]? = some x → SIt h' i x (k + 1)) → h'.get? s.heap.objs.size = some { cls := .type "tuple", data := .seq ys } → h'.objs.size = s.heap.objs.size + 1 →
      (∀ c o, c ≠ z → c ≠ TO → c ∉ is → s.heap.get? c = some o → h'.get? c = some o) → Q (some (.ref s.heap.objs.size)) { s with heap := h' }) :
    wpAny (model prog w) A (pyNext (.ref z)) Q E s := by
  have hT : s.TypeIs (.ref z) "zip" := ⟨_, hz, rfl⟩
  unfold pyNext
  refine wpAny_bind (wpAny_attempt (wpAny_callSpecial?_slot (name := Str.ofString "__next__") hT F.slot_zip_next
    (wpAny_call_entry F.slot_zip_next hT F.entry_zip_next
      (next (A := A.in1) hh D hlen hne hsm hz hTI hTO hit hsq (fun _ h' ys a1 a2 a3 a4 a5 a6 a7 a8 => ⟨_, rfl, wpAny_pure (hQ h' ys a1 a2 a3 a4 a5 a6 a7 a8)⟩) (fun g => ?_)) (F.args_zip_next_1 _))))
  obtain ⟨j, jl, e⟩ := g
  exact absurd e (hall j jl)
theorem pyNext_end {z TI TO : Addr} {is : List Addr} {srcs : List Src} {k : Nat} {row : Nat → Array Value} {Q : Option Value → Shared → Prop} (hh : A.handled = none) (D : Apart z TI TO is srcs) (hlen : is.length = srcs.length) (hne : is ≠ []) (hsm : is.length ≤ 1000)
    (hz : IsZip s.heap z TI TO .none) (hTI : s.heap.get? TI = some { cls := .type "tuple", data := .seq (refs is) }) (hTO : ∃ ys : Array Value, ys.size = is.length ∧ s.heap.get? TO = some { cls := .type "tuple", data := .seq ys })
    (hit : ∀ (j : Nat) (i : Addr) (x : Src), is[j]? = some i → srcs[j]? = some x → SIt s.heap i x k) (hsq : ∀ (j : Nat) (x : Src), srcs[j]? = some x → SSq s.heap x (row j)) (hend : ∃ j, j < is.length ∧ (row j)[k]? = none)
    (hQ : ∀ h', (∀ c o, c ≠ z → c ≠ TO → c ∉ is → s.heap.get? c = some o → h'.get? c = some o) → Q none { s with heap := h' }) : wpAny (model prog w) A (pyNext (.ref z)) Q E s := by
  have hT : s.TypeIs (.ref z) "zip" := ⟨_, hz, rfl⟩
  unfold pyNext
  refine wpAny_bind (wpAny_attempt (wpAny_callSpecial?_slot (name := Str.ofString "__next__") hT F.slot_zip_next
    (wpAny_call_entry F.slot_zip_next hT F.entry_zip_next (next (A := A.in1) hh D hlen hne hsm hz hTI hTO hit hsq (fun g => ?_) (fun _ h' e hk he => ?_)) (F.args_zip_next_1 _))))
  · obtain ⟨j, jl, e⟩ := hend
    exact absurd e (g j jl)
  · obtain ⟨o, ho, hc⟩ := he
    refine wpAny_bind (wpAny_isInstance (T := "StopIteration") (b := true) ⟨o, ho, hc⟩ isSubtype_stop ?_)
    exact wpAny_pure (hQ _ hk)
end
def SqX (K : PySem.W.Frag) (H : Hp) (x : Src) (xs : List V) : Prop := match x.t with
  | true => SqT K H x.a xs
  | false => SqL K H x.a xs
theorem sq_get {X : Cx} {pins : List (Addr × Obj)} {σ : L2.St} {H : Hp} {s : Shared} (I : Inv X pins σ H s) {x : Src} {xs : List V} (q : SqX X.K H x xs) : ∃ its : List Value, Vals xs its ∧ SSq s.heap x its.toArray := by
  obtain ⟨a, t⟩ := x
  cases t
  · obtain ⟨its, rv, p, _⟩ := I.list q
    exact ⟨its, rv, p.isList⟩
  · obtain ⟨its, rv, p, _⟩ := I.tuple q
    exact ⟨its, rv, p⟩
theorem sq_inj {X : Cx} {pins : List (Addr × Obj)} {σ : L2.St} {H : Hp} {s : Shared} (I : Inv X pins σ H s) {x : Src} {xs ys : List V} (q : SqX X.K H x xs) (r : SqX X.K H x ys) : xs = ys := by
  obtain ⟨a, t⟩ := x
  cases t
  · exact I.list_inj q r
  · exact I.tuple_inj q r
/-- things as they stand at each turn, the items in a new tuple -/
def ItN (K : PySem.W.Frag) (srcs : List Src) : It :=
  ⟨fun i H => ∀ (j : Nat) (x : Src), srcs[j]? = some x → ∃ xs v, SqX K H x xs ∧ xs[i]? = some v,
    fun i H v H' => ∃ T vs, v = .ref T ∧ H T = none ∧ H' = upd H T (.tup vs) ∧ vs.length = srcs.length ∧ ∀ (j : Nat) (x : Src) (xs : List V), srcs[j]? = some x → SqX K H x xs → ∃ y, xs[i]? = some y ∧ vs[j]? = some y,
    fun i H => (∀ (j : Nat) (x : Src), srcs[j]? = some x → ∃ xs, SqX K H x xs) ∧ ∃ (j : Nat) (x : Src) (xs : List V), srcs[j]? = some x ∧ SqX K H x xs ∧ xs.length ≤ i⟩
theorem vals_of : ∀ {us : List Value} {P : Nat → V → Prop}, (∀ j u, us[j]? = some u → ∃ v, RelV v u ∧ P j v) → ∃ vs, Vals vs us ∧ ∀ j v, vs[j]? = some v → P j v
  | [], _, _ => ⟨[], .nil, fun j v h => by simp at h⟩
  | u :: r, P, h => by
    obtain ⟨v, r1, p1⟩ := h 0 u rfl
    obtain ⟨vs, r2, p2⟩ := vals_of (us := r) (P := fun j => P (j + 1)) fun j u e => h (j + 1) u e
    refine ⟨v :: vs, .cons r1 r2, fun j w e => ?_⟩
    cases j with
    | zero =>
      have := Option.some.inj e
      subst this
      exact p1
    | succ j => exact p2 j w e
theorem rows {X : Cx} {pins : List (Addr × Obj)} {σ : L2.St} {H : Hp} {s : Shared} (I : Inv X pins σ H s) {srcs : List Src} (h : ∀ (j : Nat) (x : Src), srcs[j]? = some x → ∃ xs, SqX X.K H x xs) :
    ∃ row : Nat → List Value, ∀ (j : Nat) (x : Src), srcs[j]? = some x → ∃ xs, SqX X.K H x xs ∧ Vals xs (row j) ∧ SSq s.heap x (row j).toArray := by
  refine Classical.axiomOfChoice (r := fun (j : Nat) (r : List Value) => ∀ x : Src, srcs[j]? = some x → ∃ xs, SqX X.K H x xs ∧ Vals xs r ∧ SSq s.heap x r.toArray) fun j => ?_
  cases e : srcs[j]? with
  | none => exact ⟨[], fun x h => nomatch h⟩
  | some x =>
    obtain ⟨xs, q⟩ := h j x e
    obtain ⟨its, rv, p⟩ := sq_get I q
    exact ⟨its, fun y hy => by cases hy; exact ⟨xs, q, rv, p⟩⟩
theorem turnN {P : Program} {w : World} {K : PySem.W.Frag} {elts : List Expr} {kk : Nat} {tpos : Pos} {z TI TO : Addr} {is : List Addr} {srcs : List Src} (D : Apart z TI TO is srcs) (hlen : is.length = srcs.length) (hne : is ≠ []) (hsm : is.length ≤ 1000) :
    Turn P w K (.Tuple elts kk tpos) (ItN K srcs) (z :: TI :: TO :: is) z (fun i h => IsZip h z TI TO .none ∧ h.get? TI = some { cls := .type "tuple", data := .seq (refs is) } ∧ (∃ ys : Array Value, ys.size = is.length ∧ h.get? TO = some { cls := .type "tuple", data := .seq ys }) ∧
      ∀ (j : Nat) (b : Addr) (x : Src), is[j]? = some b → srcs[j]? = some x → SIt h b x i) where
  mem := List.mem_cons_self ..
  obj := fun i h st c hc => by
    obtain ⟨hz, hTI, ⟨ys, _, hTO⟩, hi⟩ := st
    rcases List.mem_cons.mp hc with q | hc
    · rw [q]; exact ⟨_, hz, fun v q => nomatch q⟩
    rcases List.mem_cons.mp hc with q | hc
    · rw [q]; exact ⟨_, hTI, fun v q => nomatch q⟩
    rcases List.mem_cons.mp hc with q | hc
    · rw [q]; exact ⟨_, hTO, fun v q => nomatch q⟩
    obtain ⟨j, ej⟩ := List.mem_iff_getElem?.mp hc
    have jl := (List.getElem?_eq_some_iff.mp ej).1
    exact (hi j c _ ej (List.getElem?_eq_getElem (by omega))).obj
  keep := fun i h h' st k => by
    obtain ⟨hz, hTI, ⟨ys, y1, hTO⟩, hi⟩ := st
    exact ⟨k z (by simp) _ hz, k TI (by simp) _ hTI, ⟨ys, y1, k TO (by simp) _ hTO⟩, fun j b x e1 e2 => (hi j b x e1 e2).at fun o q => k b (by simp [List.mem_of_getElem? e1]) o q⟩
  item := by
    intro X hP hw hK hc i pins s σ H E I hf st hg
    subst hP hw hK
    obtain ⟨hz, hTI, hTO, hi⟩ := st
    obtain ⟨row, hrow⟩ := rows I (srcs := srcs) fun j x e => by obtain ⟨xs, v, q, _⟩ := hg j x e; exact ⟨xs, q⟩
    have hzl : z < s.heap.objs.size := Heap.lt_size hz
    have src : ∀ j, j < is.length → ∃ x, srcs[j]? = some x := fun j hj => ⟨srcs[j]'(by omega), List.getElem?_eq_getElem _⟩
    refine pyNext_item (row := fun j => (row j).toArray) (I.ok.hd hc) D hlen hne hsm hz hTI hTO hi (fun j x e => by obtain ⟨xs, _, _, p⟩ := hrow j x e; exact p) (fun j hj => ?_) fun h' ys z' y1 y2 TO' hi' hT hsz hk => ?_
    · obtain ⟨x, ex⟩ := src j hj
      obtain ⟨xs, q, rv, _⟩ := hrow j x ex
      obtain ⟨xs', v, q', hv⟩ := hg j x ex
      rw [sq_inj I q' q] at hv
      obtain ⟨u, hu, _⟩ := rv.get hv
      rw [List.getElem?_toArray, hu]
      exact fun q => nomatch q
    refine ⟨_, rfl, wpAny_letOwnedTupleGo_zip (s := { s with heap := h' }) z' fun h'' z'' sb => ?_⟩
    have hT2 : h''.get? s.heap.objs.size = some { cls := .type "tuple", data := .seq ys } := (sb.2 _ (Nat.ne_of_gt hzl)).trans hT
    obtain ⟨vs, rvs, pvs⟩ := vals_of (us := ys.toList) (P := fun j v => ∀ (x : Src) (xs : List V), srcs[j]? = some x → SqX X.K H x xs → xs[i]? = some v) fun j u e => by
      have jl : j < is.length := by
        have := (List.getElem?_eq_some_iff.mp e).1
        simp at this
        omega
      obtain ⟨x, ex⟩ := src j jl
      obtain ⟨xs, q, rv, _⟩ := hrow j x ex
      obtain ⟨xs', v, q', hv⟩ := hg j x ex
      rw [sq_inj I q' q] at hv
      obtain ⟨u', hu, ru⟩ := rv.get hv
      have e2 := y2 j jl
      rw [← Array.getElem?_toList, e] at e2
      have e3 : u = u' := by
        have : (row j).toArray[i]? = some u' := by rw [List.getElem?_toArray]; exact hu
        rw [this] at e2
        exact Option.some.inj e2
      subst e3
      refine ⟨v, ru, fun x' ys' ex' q'' => ?_⟩
      rw [ex] at ex'
      cases ex'
      rw [sq_inj I q'' q]
      exact hv
    have lvs : vs.length = srcs.length := by
      have := rvs.length
      simp at this
      omega
    have new : ObjOk X.prog X.w (upd H s.heap.objs.size (.tup vs)) h'' s.heap.objs.size (.tup vs) :=
      ⟨by rw [lvs, ← hlen]; exact Nat.le_trans hsm (by decide), ys.toList, rvs, ⟨_, hT2, rfl, 0, by simp⟩⟩
    have I1 : Inv X pins σ (upd H s.heap.objs.size (.tup vs)) { s with heap := h'' } :=
      I.turnedNew (t' := s.toks) (ch := z :: TI :: TO :: is) (fun c o hb q => (sb.2 c (fun q' => hb (by simp [q']))).trans (hk c o (fun q' => hb (by simp [q'])) (fun q' => hb (by simp [q'])) (fun q' => hb (by simp [q'])) q)) hf (Nat.le_refl _) new
    refine ⟨.ref s.heap.objs.size, _, I1, rfl, ⟨_, vs, rfl, I.hok.fresh (Nat.le_refl _), rfl, lvs, fun j x xs ex q => ?_⟩, ⟨z'', ?_, ⟨ys, y1, ?_⟩, fun j b x e1 e2 => ?_⟩, fun c hcm => ?_⟩
    · have jl : j < vs.length := by rw [lvs]; exact (List.getElem?_eq_some_iff.mp ex).1
      exact ⟨vs[j], pvs j _ (List.getElem?_eq_getElem jl) x xs ex q, List.getElem?_eq_getElem jl⟩
    · exact (sb.2 _ D.TIz).trans (hk _ _ D.TIz D.TITO D.TIi hTI)
    · exact (sb.2 _ D.TOz).trans TO'
    · exact (hi' j b x e1 e2).at fun o q => (sb.2 _ (fun q' => D.zi (q' ▸ List.mem_of_getElem? e1))).trans q
    · have hlt : c < s.heap.objs.size := by
        rcases List.mem_cons.mp hcm with q | hcm
        · rw [q]; exact hzl
        rcases List.mem_cons.mp hcm with q | hcm
        · rw [q]; exact Heap.lt_size hTI
        rcases List.mem_cons.mp hcm with q | hcm
        · obtain ⟨_, _, e⟩ := hTO; rw [q]; exact Heap.lt_size e
        obtain ⟨j, ej⟩ := List.mem_iff_getElem?.mp hcm
        have jl := (List.getElem?_eq_some_iff.mp ej).1
        obtain ⟨o, e, _⟩ := (hi j c _ ej (List.getElem?_eq_getElem (by omega))).obj
        exact Heap.lt_size e
      rw [upd_ne (Nat.ne_of_lt hlt)]
      exact (hf c hcm).1
  done := by
    intro X hP hw hK hc i pins s σ H E I hf st hg
    subst hP hw hK
    obtain ⟨hz, hTI, hTO, hi⟩ := st
    obtain ⟨hall, j, x, xs, ex, q, hl⟩ := hg
    obtain ⟨row, hrow⟩ := rows I (srcs := srcs) hall
    refine pyNext_end (row := fun j => (row j).toArray) (I.ok.hd hc) D hlen hne hsm hz hTI hTO hi (fun j x e => by obtain ⟨xs, _, _, p⟩ := hrow j x e; exact p) ⟨j, by rw [hlen]; exact (List.getElem?_eq_some_iff.mp ex).1, ?_⟩ fun h' hk => ⟨rfl, I.turnedL (t' := s.toks) (ch := z :: TI :: TO :: is) (fun c o hb q =>
      hk c o (fun q' => hb (by simp [q'])) (fun q' => hb (by simp [q'])) (fun q' => hb (by simp [q'])) q) hf⟩
    obtain ⟨xs', q', rv, _⟩ := hrow j x ex
    rw [sq_inj I q q'] at hl
    have := rv.length
    rw [List.getElem?_toArray]
    exact List.getElem?_eq_none (by omega)
  self := fun A i s Q E st h => wpAny_pyIter_zip st.1 h
abbrev itObj (x : Src) : Obj := { cls := .type (if x.t then "tuple_iterator" else "list_iterator"), data := .fields #[.ref x.a, .int 0 0] }
theorem itObj_at {h : Heap} {i : Addr} {x : Src} (e : h.get? i = some (itObj x)) : SIt h i x 0 := by
  obtain ⟨a, t⟩ := x
  cases t
  · exact ⟨_, e, rfl, rfl⟩
  · exact ⟨_, e, rfl, rfl⟩
theorem SSq.push {h : Heap} {x : Src} {r : Array Value} (g : SSq h x r) (o : Obj) : SSq (h.push o) x r := g.at fun _ e => Heap.get?_push_of_some _ e
theorem SSq.lt {h : Heap} {x : Src} {r : Array Value} (g : SSq h x r) : x.a < h.objs.size := by
  obtain ⟨a, t⟩ := x
  cases t
  · obtain ⟨_, e, _⟩ := g
    exact Heap.lt_size e
  · obtain ⟨_, e, _⟩ := g
    exact Heap.lt_size e
abbrev tupO (vs : Array Value) : Obj := { cls := .type "tuple", data := .seq vs }
abbrev zipO (TI TO : Addr) : Obj := { cls := .type "zip", data := .fields #[.none, .bool false, .bool false, .ref TI, .ref TO] }
abbrev h3a (h : Heap) (x y z : Src) : Heap := ((h.push (itObj x)).push (itObj y)).push (itObj z)
abbrev h3b (h : Heap) (x y z : Src) : Heap := (h3a h x y z).push (tupO #[.ref h.objs.size, .ref (h.push (itObj x)).objs.size, .ref ((h.push (itObj x)).push (itObj y)).objs.size])
abbrev h3c (h : Heap) (x y z : Src) : Heap := (h3b h x y z).push (tupO #[.none, .none, .none])
abbrev h3d (h : Heap) (x y z : Src) : Heap := (h3c h x y z).push (zipO (h3a h x y z).objs.size (h3b h x y z).objs.size)
set_option maxHeartbeats 4000000 in
theorem meets_new3 (x y z : Src) (r1 r2 r3 : Array Value) :
    Meets (Builtin.«zip.__new__» ⟨[.type "zip", .ref x.a, .ref y.a, .ref z.a], []⟩) (fun _ R s => SSq s.heap x r1 ∧ SSq s.heap y r2 ∧ SSq s.heap z r3 ∧
      R (.ok (.ret (.ref (h3c s.heap x y z).objs.size))) { s with heap := h3d s.heap x y z }) :=
  .of_wp fun prog w A R s h => by
    obtain ⟨hp, g, d, tk, os⟩ := s; obtain ⟨hl1, hl2, hl3, h⟩ := h
    have hsub := sub_zip
    have hL1 : SSq (Shared.heap ⟨hp, g, d, tk, os⟩) x r1 := hl1
    have hL2 : SSq (Shared.heap ⟨hp.push (itObj x), g, d, tk, os⟩) y r2 := hl2.push _
    have hL3 : SSq (Shared.heap ⟨(hp.push (itObj x)).push (itObj y), g, d, tk, os⟩) z r3 := (hl3.push _).push _
    wp_walk using pyIter_src hL1, pyIter_src hL2, pyIter_src hL3
    exact ⟨_, rfl, h⟩
theorem typeCall_zip_3 (a b c : Value) : checkTypeCall "zip" ⟨[a, b, c], []⟩ = pure () := by kernel_rfl
theorem newCall_zip_3 (a b c : Value) : checkBuiltinCall "zip.__new__" ⟨[.type "zip", a, b, c], []⟩ = pure () := by kernel_rfl
theorem args_object_init_4 (a b c d : Value) : argsOk "object.__init__" ⟨[a, b, c, d], []⟩ := by
  unfold argsOk; rw [signature?_of (id := "object.__init__") (n := ['_', '_', 't', 'i', 'n', 'i', '_', '_']) (o := ['t', 'c', 'e', 'j', 'b', 'o']) (by kernel_rfl) F.owner_object]; kernel_rfl
theorem apart3 (n : Nat) {x y z : Src} (h1 : x.a < n) (h2 : y.a < n) (h3 : z.a < n) : Apart (n + 5) (n + 3) (n + 4) [n, n + 1, n + 2] [x, y, z] where
  TIz := by show (n + 3 : Nat) ≠ n + 5; omega
  TOz := by show (n + 4 : Nat) ≠ n + 5; omega
  TITO := by show (n + 3 : Nat) ≠ n + 4; omega
  zi := by simp
  TIi := by simp
  TOi := by simp
  nd := by simp
  sz := by
    intro s hs
    simp at hs
    rcases hs with rfl | rfl | rfl
    · exact Nat.ne_of_lt (Nat.lt_of_lt_of_le h1 (Nat.le_add_right _ _))
    · exact Nat.ne_of_lt (Nat.lt_of_lt_of_le h2 (Nat.le_add_right _ _))
    · exact Nat.ne_of_lt (Nat.lt_of_lt_of_le h3 (Nat.le_add_right _ _))
  sTO := by
    intro s hs
    simp at hs
    rcases hs with rfl | rfl | rfl
    · exact Nat.ne_of_lt (Nat.lt_of_lt_of_le h1 (Nat.le_add_right _ _))
    · exact Nat.ne_of_lt (Nat.lt_of_lt_of_le h2 (Nat.le_add_right _ _))
    · exact Nat.ne_of_lt (Nat.lt_of_lt_of_le h3 (Nat.le_add_right _ _))
  si := by
    have no : ∀ {a : Addr}, a < n → a ∉ ([n, n + 1, n + 2] : List Addr) := fun {a} h q => by
      rcases List.mem_cons.mp q with q | q
      · exact Nat.ne_of_lt h q
      rcases List.mem_cons.mp q with q | q
      · exact Nat.ne_of_lt (Nat.lt_of_lt_of_le h (Nat.le_add_right _ _)) q
      · exact Nat.ne_of_lt (Nat.lt_of_lt_of_le h (Nat.le_add_right _ _)) (List.mem_singleton.mp q)
    intro s hs
    simp at hs
    rcases hs with rfl | rfl | rfl
    · exact no h1
    · exact no h2
    · exact no h3
theorem call3 {prog : Program} {w : World} {A : Around} {E : Value → Shared → Prop} {s : Shared} {x y z : Src} {r1 r2 r3 : Array Value} {Q : Value → Shared → Prop} (hl1 : SSq s.heap x r1) (hl2 : SSq s.heap y r2) (hl3 : SSq s.heap z r3)
    (h : ∀ h', IsZip h' (s.heap.objs.size + 5) (s.heap.objs.size + 3) (s.heap.objs.size + 4) .none → h'.get? (s.heap.objs.size + 3) = some (tupO (refs [s.heap.objs.size, s.heap.objs.size + 1, s.heap.objs.size + 2])) → h'.get? (s.heap.objs.size + 4) = some (tupO #[.none, .none, .none]) →
      SIt h' s.heap.objs.size x 0 → SIt h' (s.heap.objs.size + 1) y 0 → SIt h' (s.heap.objs.size + 2) z 0 → (∀ c o, s.heap.get? c = some o → h'.get? c = some o) → Q (.ref (s.heap.objs.size + 5)) { s with heap := h' }) :
    wpAny (model prog w) A (call (.type "zip") [.ref x.a, .ref y.a, .ref z.a]) Q E s := by
  refine callType_new F.called_zip (by decide) (typeCall_zip_3 _ _ _) (newCall_zip_3 _ _ _) (fun obj => args_object_init_4 obj _ _ _) F.entry_zip_new (meets_new3 x y z r1 r2 r3) ⟨hl1, hl2, hl3, ?_⟩
  have z1 : (s.heap.push (itObj x)).objs.size = s.heap.objs.size + 1 := Heap.size_push ..
  have z2 : ((s.heap.push (itObj x)).push (itObj y)).objs.size = s.heap.objs.size + 2 := by rw [Heap.size_push, z1]
  have z3 : (h3a s.heap x y z).objs.size = s.heap.objs.size + 3 := by rw [Heap.size_push, z2]
  have z4 : (h3b s.heap x y z).objs.size = s.heap.objs.size + 4 := by rw [Heap.size_push, z3]
  have z5 : (h3c s.heap x y z).objs.size = s.heap.objs.size + 5 := by rw [Heap.size_push, z4]
  have g6 : (h3d s.heap x y z).get? (h3c s.heap x y z).objs.size = some _ := Heap.get?_push_size _ rfl
  have g5 : (h3d s.heap x y z).get? (h3b s.heap x y z).objs.size = some _ := Heap.get?_push_of_some _ (Heap.get?_push_size _ rfl)
  have g4 : (h3d s.heap x y z).get? (h3a s.heap x y z).objs.size = some _ := Heap.get?_push_of_some _ (Heap.get?_push_of_some _ (Heap.get?_push_size _ rfl))
  have g3 : (h3d s.heap x y z).get? ((s.heap.push (itObj x)).push (itObj y)).objs.size = some (itObj z) := Heap.get?_push_of_some _ (Heap.get?_push_of_some _ (Heap.get?_push_of_some _ (Heap.get?_push_size _ rfl)))
  have g2 : (h3d s.heap x y z).get? (s.heap.push (itObj x)).objs.size = some (itObj y) := Heap.get?_push_of_some _ (Heap.get?_push_of_some _ (Heap.get?_push_of_some _ (Heap.get?_push_of_some _ (Heap.get?_push_size _ rfl))))
  have g1 : (h3d s.heap x y z).get? s.heap.objs.size = some (itObj x) := Heap.get?_push_of_some _ (Heap.get?_push_of_some _ (Heap.get?_push_of_some _ (Heap.get?_push_of_some _ (Heap.get?_push_of_some _ (Heap.get?_push_size _ rfl)))))
  show _ ∧ _
  rw [z3, z4, z5] at g6
  rw [z1, z2, z3] at g4
  rw [z4] at g5
  rw [z2] at g3
  rw [z1] at g2
  rw [z5]
  exact ⟨⟨_, g6, rfl⟩, h _ g6 g4 g5 (itObj_at g1) (itObj_at g2) (itObj_at g3) fun c o x =>
    Heap.get?_push_of_some _ (Heap.get?_push_of_some _ (Heap.get?_push_of_some _ (Heap.get?_push_of_some _ (Heap.get?_push_of_some _ (Heap.get?_push_of_some _ x)))))⟩
def iZip3 (K : PySem.W.Frag) (ta : TA) : TI := fun σ H R => ta σ H fun vs H1 => ∃ (x y z : Src) (xs ys zs : List V), vs = [.ref x.a, .ref y.a, .ref z.a] ∧ SqX K H1 x xs ∧ SqX K H1 y ys ∧ SqX K H1 z zs ∧ R (ItN K [x, y, z]) H1
theorem pi_zip3 {X : Cx} {e e2 e3 : Expr} {ta : TA} {p pos tpos : Pos} {elts : List Expr} {kk : Nat} (hg : Gl X "zip") (hm : X.mg "zip" = none) (ha : PA X [e, e2, e3] ta)
    (hs : starEach [e, e2, e3] X.env = (false, eval e X.env) :: starEach [e2, e3] X.env := by rfl) (hpl : (backTo pos (starEach [e2, e3] X.env)).any (·.1) = false := by rfl) :
    PI X (.Tuple elts kk tpos) (.Call (.Name "zip" p) [e, e2, e3] [] pos) (iZip3 X.K ta) := by
  refine ⟨fun pins s σ H R I h => ?_⟩
  refine Call_ (ld_blt I hg hm PyProof.Rows.boot_zip (PyProof.Rows.callWith_type1 (thn (ha.run pos pins s σ H _ I h) fun us s1 ⟨vs, H1, I1, r1, q1⟩ => ?_) hs hpl))
  obtain ⟨x, y, z, xs, ys, zs, ex, qx, qy, qz, q⟩ := q1
  subst ex
  cases r1 with
  | cons r rr =>
    cases rr with
    | cons r' rr =>
      cases rr with
      | cons r'' rr =>
        cases rr
        cases r
        cases r'
        cases r''
        obtain ⟨its, _, p1⟩ := sq_get I1 qx
        obtain ⟨its2, _, p2⟩ := sq_get I1 qy
        obtain ⟨its3, _, p3⟩ := sq_get I1 qz
        refine call3 p1 p2 p3 fun h' hz hTI hTO i1 i2 i3 hk => wpAny_pyIter_zip hz ?_
        have I2 : Inv X pins σ H1 { s1 with heap := h' } := I1.kept (t' := s1.toks) hk
        refine ⟨s1.heap.objs.size + 5, [s1.heap.objs.size + 5, s1.heap.objs.size + 3, s1.heap.objs.size + 4, s1.heap.objs.size, s1.heap.objs.size + 1, s1.heap.objs.size + 2], _, _, H1, rfl, I2,
          turnN (apart3 s1.heap.objs.size p1.lt p2.lt p3.lt) rfl (fun q => nomatch q) (by show 3 ≤ 1000; decide), ⟨hz, hTI, ⟨_, rfl, hTO⟩, fun j b u e1 e2 => ?_⟩, fun c hcm => ?_, q⟩
        · match j, e1, e2 with
          | 0, e1, e2 => cases e1; cases e2; exact i1
          | 1, e1, e2 => cases e1; cases e2; exact i2
          | 2, e1, e2 => cases e1; cases e2; exact i3
          | n + 3, e1, _ => cases e1
        · have hle : s1.heap.objs.size ≤ c := by
            simp only [List.mem_cons, List.not_mem_nil, or_false] at hcm
            rcases hcm with z | z | z | z | z | z <;> rw [z] <;> first | exact Nat.le_refl _ | exact Nat.le_add_right _ _
          exact I1.fpOk hle (I1.hok.fresh hle)
def Y3 (xs ys zs : List V) : Nat → Hp → V → Hp → Prop := fun i H v H' => ∃ T x y z, v = .ref T ∧ H T = none ∧ H' = upd H T (.tup [x, y, z]) ∧ xs[i]? = some x ∧ ys[i]? = some y ∧ zs[i]? = some z
theorem walk3 {K : PySem.W.Frag} {x y z : Src} {xs ys zs : List V} (h1 : ys.length = xs.length) (h2 : zs.length = xs.length) : Walk (ItN K [x, y, z]) xs.length (fun H => SqX K H x xs ∧ SqX K H y ys ∧ SqX K H z zs) (Y3 xs ys zs) where
  goes := fun i H hi g j u e => by
    match j, e with
    | 0, e => cases e; exact ⟨xs, _, g.1, List.getElem?_eq_getElem hi⟩
    | 1, e => cases e; exact ⟨ys, _, g.2.1, List.getElem?_eq_getElem (by omega)⟩
    | 2, e => cases e; exact ⟨zs, _, g.2.2, List.getElem?_eq_getElem (by omega)⟩
    | n + 3, e => cases e
  stops := fun H g => by
    refine ⟨fun j u e => ?_, 0, x, xs, rfl, g.1, Nat.le_refl _⟩
    match j, e with
    | 0, e => cases e; exact ⟨xs, g.1⟩
    | 1, e => cases e; exact ⟨ys, g.2.1⟩
    | 2, e => cases e; exact ⟨zs, g.2.2⟩
    | n + 3, e => cases e
  yields := fun i H v H' hi g q => by
    obtain ⟨T, vs, rfl, nT, rfl, lv, hv⟩ := q
    obtain ⟨a, a1, a2⟩ := hv 0 x xs rfl g.1
    obtain ⟨b, b1, b2⟩ := hv 1 y ys rfl g.2.1
    obtain ⟨c, c1, c2⟩ := hv 2 z zs rfl g.2.2
    refine ⟨T, a, b, c, rfl, nT, ?_, a1, b1, c1⟩
    match vs, lv with
    | [u, v, w], _ =>
      cases a2
      cases b2
      cases c2
      rfl
abbrev h2a (h : Heap) (x y : Src) : Heap := (h.push (itObj x)).push (itObj y)
abbrev h2b (h : Heap) (x y : Src) : Heap := (h2a h x y).push (tupO #[.ref h.objs.size, .ref (h.push (itObj x)).objs.size])
abbrev h2c (h : Heap) (x y : Src) : Heap := (h2b h x y).push (tupO #[.none, .none])
abbrev h2d (h : Heap) (x y : Src) : Heap := (h2c h x y).push (zipO (h2a h x y).objs.size (h2b h x y).objs.size)
set_option maxHeartbeats 4000000 in
theorem meets_new2 (x y : Src) (r1 r2 : Array Value) :
    Meets (Builtin.«zip.__new__» ⟨[.type "zip", .ref x.a, .ref y.a], []⟩) (fun _ R s => SSq s.heap x r1 ∧ SSq s.heap y r2 ∧
      R (.ok (.ret (.ref (h2c s.heap x y).objs.size))) { s with heap := h2d s.heap x y }) :=
  .of_wp fun prog w A R s h => by
    obtain ⟨hp, g, d, tk, os⟩ := s; obtain ⟨hl1, hl2, h⟩ := h
    have hsub := sub_zip
    have hL1 : SSq (Shared.heap ⟨hp, g, d, tk, os⟩) x r1 := hl1
    have hL2 : SSq (Shared.heap ⟨hp.push (itObj x), g, d, tk, os⟩) y r2 := hl2.push _
    wp_walk using pyIter_src hL1, pyIter_src hL2
    exact ⟨_, rfl, h⟩
theorem apart2 (n : Nat) {x y : Src} (h1 : x.a < n) (h2 : y.a < n) : Apart (n + 4) (n + 2) (n + 3) [n, n + 1] [x, y] where
  TIz := by show (n + 2 : Nat) ≠ n + 4; omega
  TOz := by show (n + 3 : Nat) ≠ n + 4; omega
  TITO := by show (n + 2 : Nat) ≠ n + 3; omega
  zi := by simp
  TIi := by simp
  TOi := by simp
  nd := by simp
  sz := by
    intro s hs
    simp at hs
    rcases hs with rfl | rfl
    · exact Nat.ne_of_lt (Nat.lt_of_lt_of_le h1 (Nat.le_add_right _ _))
    · exact Nat.ne_of_lt (Nat.lt_of_lt_of_le h2 (Nat.le_add_right _ _))
  sTO := by
    intro s hs
    simp at hs
    rcases hs with rfl | rfl
    · exact Nat.ne_of_lt (Nat.lt_of_lt_of_le h1 (Nat.le_add_right _ _))
    · exact Nat.ne_of_lt (Nat.lt_of_lt_of_le h2 (Nat.le_add_right _ _))
  si := by
    have no : ∀ {a : Addr}, a < n → a ∉ ([n, n + 1] : List Addr) := fun {a} h q => by
      rcases List.mem_cons.mp q with q | q
      · exact Nat.ne_of_lt h q
      · exact Nat.ne_of_lt (Nat.lt_of_lt_of_le h (Nat.le_add_right _ _)) (List.mem_singleton.mp q)
    intro s hs
    simp at hs
    rcases hs with rfl | rfl
    · exact no h1
    · exact no h2
theorem call2 {prog : Program} {w : World} {A : Around} {E : Value → Shared → Prop} {s : Shared} {x y : Src} {r1 r2 : Array Value} {Q : Value → Shared → Prop} (hl1 : SSq s.heap x r1) (hl2 : SSq s.heap y r2)
    (h : ∀ h', IsZip h' (s.heap.objs.size + 4) (s.heap.objs.size + 2) (s.heap.objs.size + 3) .none → h'.get? (s.heap.objs.size + 2) = some (tupO (refs [s.heap.objs.size, s.heap.objs.size + 1])) → h'.get? (s.heap.objs.size + 3) = some (tupO #[.none, .none]) →
      SIt h' s.heap.objs.size x 0 → SIt h' (s.heap.objs.size + 1) y 0 → (∀ c o, s.heap.get? c = some o → h'.get? c = some o) → Q (.ref (s.heap.objs.size + 4)) { s with heap := h' }) :
    wpAny (model prog w) A (call (.type "zip") [.ref x.a, .ref y.a]) Q E s := by
  refine callType_new F.called_zip (by decide) (F.typeCall_zip_2 _ _) (F.newCall_zip_2 _ _) (fun obj => F.args_object_init_3 obj _ _) F.entry_zip_new (meets_new2 x y r1 r2) ⟨hl1, hl2, ?_⟩
  have z1 : (s.heap.push (itObj x)).objs.size = s.heap.objs.size + 1 := Heap.size_push ..
  have z3 : (h2a s.heap x y).objs.size = s.heap.objs.size + 2 := by rw [Heap.size_push, z1]
  have z4 : (h2b s.heap x y).objs.size = s.heap.objs.size + 3 := by rw [Heap.size_push, z3]
  have z5 : (h2c s.heap x y).objs.size = s.heap.objs.size + 4 := by rw [Heap.size_push, z4]
  have g6 : (h2d s.heap x y).get? (h2c s.heap x y).objs.size = some _ := Heap.get?_push_size _ rfl
  have g5 : (h2d s.heap x y).get? (h2b s.heap x y).objs.size = some _ := Heap.get?_push_of_some _ (Heap.get?_push_size _ rfl)
  have g4 : (h2d s.heap x y).get? (h2a s.heap x y).objs.size = some _ := Heap.get?_push_of_some _ (Heap.get?_push_of_some _ (Heap.get?_push_size _ rfl))
  have g2 : (h2d s.heap x y).get? (s.heap.push (itObj x)).objs.size = some (itObj y) := Heap.get?_push_of_some _ (Heap.get?_push_of_some _ (Heap.get?_push_of_some _ (Heap.get?_push_size _ rfl)))
  have g1 : (h2d s.heap x y).get? s.heap.objs.size = some (itObj x) := Heap.get?_push_of_some _ (Heap.get?_push_of_some _ (Heap.get?_push_of_some _ (Heap.get?_push_of_some _ (Heap.get?_push_size _ rfl))))
  show _ ∧ _
  rw [z3, z4, z5] at g6
  rw [z1, z3] at g4
  rw [z4] at g5
  rw [z1] at g2
  rw [z5]
  exact ⟨⟨_, g6, rfl⟩, h _ g6 g4 g5 (itObj_at g1) (itObj_at g2) fun c o x =>
    Heap.get?_push_of_some _ (Heap.get?_push_of_some _ (Heap.get?_push_of_some _ (Heap.get?_push_of_some _ (Heap.get?_push_of_some _ x))))⟩
def iZip2 (K : PySem.W.Frag) (ta : TA) : TI := fun σ H R => ta σ H fun vs H1 => ∃ (x y : Src) (xs ys : List V), vs = [.ref x.a, .ref y.a] ∧ SqX K H1 x xs ∧ SqX K H1 y ys ∧ R (ItN K [x, y]) H1
theorem pi_zip2 {X : Cx} {e e2 : Expr} {ta : TA} {p pos tpos : Pos} {elts : List Expr} {kk : Nat} (hg : Gl X "zip") (hm : X.mg "zip" = none) (ha : PA X [e, e2] ta)
    (hs : starEach [e, e2] X.env = (false, eval e X.env) :: starEach [e2] X.env := by rfl) (hpl : (backTo pos (starEach [e2] X.env)).any (·.1) = false := by rfl) :
    PI X (.Tuple elts kk tpos) (.Call (.Name "zip" p) [e, e2] [] pos) (iZip2 X.K ta) := by
  refine ⟨fun pins s σ H R I h => ?_⟩
  refine Call_ (ld_blt I hg hm PyProof.Rows.boot_zip (PyProof.Rows.callWith_type1 (thn (ha.run pos pins s σ H _ I h) fun us s1 ⟨vs, H1, I1, r1, q1⟩ => ?_) hs hpl))
  obtain ⟨x, y, xs, ys, ex, qx, qy, q⟩ := q1
  subst ex
  cases r1 with
  | cons r rr =>
    cases rr with
    | cons r' rr =>
      cases rr
      cases r
      cases r'
      obtain ⟨its, _, p1⟩ := sq_get I1 qx
      obtain ⟨its2, _, p2⟩ := sq_get I1 qy
      refine call2 p1 p2 fun h' hz hTI hTO i1 i2 hk => wpAny_pyIter_zip hz ?_
      have I2 : Inv X pins σ H1 { s1 with heap := h' } := I1.kept (t' := s1.toks) hk
      refine ⟨s1.heap.objs.size + 4, [s1.heap.objs.size + 4, s1.heap.objs.size + 2, s1.heap.objs.size + 3, s1.heap.objs.size, s1.heap.objs.size + 1], _, _, H1, rfl, I2,
        turnN (apart2 s1.heap.objs.size p1.lt p2.lt) rfl (fun q => nomatch q) (by show 2 ≤ 1000; decide), ⟨hz, hTI, ⟨_, rfl, hTO⟩, fun j b u e1 e2 => ?_⟩, fun c hcm => ?_, q⟩
      · match j, e1, e2 with
        | 0, e1, e2 => cases e1; cases e2; exact i1
        | 1, e1, e2 => cases e1; cases e2; exact i2
        | n + 2, e1, _ => cases e1
      · have hle : s1.heap.objs.size ≤ c := by
          simp only [List.mem_cons, List.not_mem_nil, or_false] at hcm
          rcases hcm with z | z | z | z | z <;> rw [z] <;> first | exact Nat.le_refl _ | exact Nat.le_add_right _ _
        exact I1.fpOk hle (I1.hok.fresh hle)
theorem walk2 {K : PySem.W.Frag} {x y : Src} {xs ys : List V} (h1 : ys.length = xs.length) : Walk (ItN K [x, y]) xs.length (fun H => SqX K H x xs ∧ SqX K H y ys) (YPair (fun i => xs[i]?) (fun i => ys[i]?)) where
  goes := fun i H hi g j u e => by
    match j, e with
    | 0, e => cases e; exact ⟨xs, _, g.1, List.getElem?_eq_getElem hi⟩
    | 1, e => cases e; exact ⟨ys, _, g.2, List.getElem?_eq_getElem (by omega)⟩
    | n + 2, e => cases e
  stops := fun H g => by
    refine ⟨fun j u e => ?_, 0, x, xs, rfl, g.1, Nat.le_refl _⟩
    match j, e with
    | 0, e => cases e; exact ⟨xs, g.1⟩
    | 1, e => cases e; exact ⟨ys, g.2⟩
    | n + 2, e => cases e
  yields := fun i H v H' hi g q => by
    obtain ⟨T, vs, rfl, nT, rfl, lv, hv⟩ := q
    obtain ⟨a, a1, a2⟩ := hv 0 x xs rfl g.1
    obtain ⟨b, b1, b2⟩ := hv 1 y ys rfl g.2
    refine ⟨T, a, b, rfl, nT, ?_, a1, b1⟩
    match vs, lv with
    | [u, v], _ =>
      cases a2
      cases b2
      rfl
end ZN

namespace TP
open PySem PySem.Spec PyProof.Rows L2 ZN
/-! ### zip of two or three, lists and tuples -/
theorem walk2m {K : PySem.W.Frag} {x y : Src} {xs ys : List V} : Walk (ItN K [x, y]) (min xs.length ys.length) (fun H => SqX K H x xs ∧ SqX K H y ys) (YPair (fun i => xs[i]?) (fun i => ys[i]?)) where
  goes := fun i H hi g j u e => by
    match j, e with
    | 0, e => cases e; exact ⟨xs, _, g.1, List.getElem?_eq_getElem (by omega)⟩
    | 1, e => cases e; exact ⟨ys, _, g.2, List.getElem?_eq_getElem (by omega)⟩
    | n + 2, e => cases e
  stops := fun H g => by
    refine ⟨fun j u e => ?_, ?_⟩
    · match j, e with
      | 0, e => cases e; exact ⟨xs, g.1⟩
      | 1, e => cases e; exact ⟨ys, g.2⟩
      | n + 2, e => cases e
    · by_cases q : xs.length ≤ ys.length
      · exact ⟨0, x, xs, rfl, g.1, by omega⟩
      · exact ⟨1, y, ys, rfl, g.2, by omega⟩
  yields := fun i H v H' hi g q => by
    obtain ⟨T, vs, rfl, nT, rfl, lv, hv⟩ := q
    obtain ⟨a, a1, a2⟩ := hv 0 x xs rfl g.1
    obtain ⟨b, b1, b2⟩ := hv 1 y ys rfl g.2
    refine ⟨T, a, b, rfl, nT, ?_, a1, b1⟩
    match vs, lv with
    | [u, v], _ =>
      cases a2
      cases b2
      rfl
theorem walk3m {K : PySem.W.Frag} {x y z : Src} {xs ys zs : List V} : Walk (ItN K [x, y, z]) (min xs.length (min ys.length zs.length)) (fun H => SqX K H x xs ∧ SqX K H y ys ∧ SqX K H z zs) (Y3 xs ys zs) where
  goes := fun i H hi g j u e => by
    match j, e with
    | 0, e => cases e; exact ⟨xs, _, g.1, List.getElem?_eq_getElem (by omega)⟩
    | 1, e => cases e; exact ⟨ys, _, g.2.1, List.getElem?_eq_getElem (by omega)⟩
    | 2, e => cases e; exact ⟨zs, _, g.2.2, List.getElem?_eq_getElem (by omega)⟩
    | n + 3, e => cases e
  stops := fun H g => by
    refine ⟨fun j u e => ?_, ?_⟩
    · match j, e with
      | 0, e => cases e; exact ⟨xs, g.1⟩
      | 1, e => cases e; exact ⟨ys, g.2.1⟩
      | 2, e => cases e; exact ⟨zs, g.2.2⟩
      | n + 3, e => cases e
    · by_cases q : xs.length ≤ min ys.length zs.length
      · exact ⟨0, x, xs, rfl, g.1, by omega⟩
      · by_cases q2 : ys.length ≤ zs.length
        · exact ⟨1, y, ys, rfl, g.2.1, by omega⟩
        · exact ⟨2, z, zs, rfl, g.2.2, by omega⟩
  yields := fun i H v H' hi g q => by
    obtain ⟨T, vs, rfl, nT, rfl, lv, hv⟩ := q
    obtain ⟨a, a1, a2⟩ := hv 0 x xs rfl g.1
    obtain ⟨b, b1, b2⟩ := hv 1 y ys rfl g.2.1
    obtain ⟨c, c1, c2⟩ := hv 2 z zs rfl g.2.2
    refine ⟨T, a, b, c, rfl, nT, ?_, a1, b1, c1⟩
    match vs, lv with
    | [u, v, w], _ =>
      cases a2
      cases b2
      cases c2
      rfl
/-- what is walked by zip -/
def SrcOf (K : PySem.W.Frag) {α : Type} (τs : Ty (List α)) (τ : Ty α) : Prop := ∀ Z v xs, τs.r Z v xs → ∃ (x : Src) (vs : List V), v = .ref x.a ∧ (∀ H, Same Z H → SqX K H x vs) ∧ All (τ.r Z) vs xs ∧ xs.length ≤ sizeLine
section
variable {K : PySem.W.Frag} {α β γ : Type} {τ : Ty α} {υ : Ty β} {φ : Ty γ}
theorem src_list : SrcOf K (yList τ) τ := fun Z v xs ⟨a, vs, e, h, t, l⟩ => ⟨⟨a, false⟩, vs, e, fun H s => SqL.of (s _ _ h), t, l⟩
theorem src_tup : SrcOf K (yTup K τ) τ := fun Z v xs ⟨a, vs, e, h, t, l⟩ => ⟨⟨a, true⟩, vs, e, fun H s => seqT_same s h, t, l⟩
theorem src_seq : SrcOf K (ySeq K τ) τ := fun Z v xs ⟨a, vs, e, h, t, l⟩ => by
  rcases h with h | h
  · exact ⟨⟨a, false⟩, vs, e, fun H s => SqL.of (s _ _ h), t, l⟩
  · exact ⟨⟨a, true⟩, vs, e, fun H s => seqT_same s h, t, l⟩
section
variable {μ : Type} {M : Mu μ} {σ : L2.St} {Z H : Hp} {s s1 s2 s3 : μ} {t : TA} {τs : Ty (List α)} {υs : Ty (List β)} {φs : Ty (List γ)} {xs : List α} {ys : List β} {zs : List γ} {X : Hp → Hp → Prop}
theorem ei_zip2 (f : SrcOf K τs τ) (g : SrcOf K υs υ) (ha : EvA M t σ Z H s (rac (ty τs xs) (rac (ty υs ys) ra0)) s1) : EvI M X (iZip2 K t) σ Z H s (yP2 K τ υ) (xs.zip ys) s1 :=
  fun Z1 H1 a b c d R q => ha Z1 H1 a b c d _ fun us Z2 H2 e m ⟨v, r, e1, h1, w, r2, e2, h2, e3⟩ => by
    cases e3; cases e2; cases e1
    obtain ⟨x, vs, rfl, hx, tx, lx⟩ := f _ _ _ h1
    obtain ⟨y, ws, rfl, hy, ty, ly⟩ := g _ _ _ h2
    exact ⟨x, y, vs, ws, rfl, hx _ e.s, hy _ e.s, q _ Z2 H2 e m (walk_pairs _ rfl walk2m (fun Z' H' z sz _ => ⟨hx _ (z.trans sz), hy _ (z.trans sz)⟩) tx ty (by rw [tx.len]; exact lx))⟩
theorem ei_zip3 (f : SrcOf K τs τ) (g : SrcOf K υs υ) (k : SrcOf K φs φ) (ha : EvA M t σ Z H s (rac (ty τs xs) (rac (ty υs ys) (rac (ty φs zs) ra0))) s1) : EvI M X (iZip3 K t) σ Z H s (yP3 K τ υ φ) (xs.zip (ys.zip zs)) s1 :=
  fun Z1 H1 a b c d R q => ha Z1 H1 a b c d _ fun us Z2 H2 e m ⟨v, r, e1, h1, w, r2, e2, h2, u, r3, e3, h3, e4⟩ => by
    cases e4; cases e3; cases e2; cases e1
    obtain ⟨x, vs, rfl, hx, tx, lx⟩ := f _ _ _ h1
    obtain ⟨y, ws, rfl, hy, ty, ly⟩ := g _ _ _ h2
    obtain ⟨z, us, rfl, hz, tz, lz⟩ := k _ _ _ h3
    refine ⟨x, y, z, vs, ws, us, rfl, hx _ e.s, hy _ e.s, hz _ e.s, q _ Z2 H2 e m ?_⟩
    have ln : (xs.zip (ys.zip zs)).length = min vs.length (min ws.length us.length) := by rw [List.length_zip, List.length_zip, tx.len, ty.len, tz.len]
    refine ⟨by rw [ln, tx.len]; omega, fun H => SqX K H x vs ∧ SqX K H y ws ∧ SqX K H z us, Y3 vs ws us, by rw [ln]; exact walk3m, fun Z' H' zz sz _ => ⟨hx _ (zz.trans sz), hy _ (zz.trans sz), hz _ (zz.trans sz)⟩, fun i Z' H' v H'' hi zz sz _ yy => ?_⟩
    obtain ⟨T, v1, v2, v3, rfl, nT, rfl, g1, g2, g3⟩ := yy
    obtain ⟨x1, ex1, rx1⟩ := tx.get g1
    obtain ⟨x2, ex2, rx2⟩ := ty.get g2
    obtain ⟨x3, ex3, rx3⟩ := tz.get g3
    have st : Step [] Z' H' (upd Z' T (.tup [v1, v2, v3])) (upd H' T (.tup [v1, v2, v3])) := Step.new sz nT
    refine ⟨upd Z' T (.tup [v1, v2, v3]), (x1, x2, x3), ?_, st, T, v1, v2, v3, rfl, sqT_new, τ.mono (zz.trans st.z) rx1, υ.mono (zz.trans st.z) rx2, φ.mono (zz.trans st.z) rx3⟩
    rw [List.getElem?_zip_eq_some]
    exact ⟨ex1, by rw [List.getElem?_zip_eq_some]; exact ⟨ex2, ex3⟩⟩
end
end
section
variable {μ : Type} {M : Mu μ} {σ : L2.St} {Z H : Hp} {s s1 s2 : μ} {ta tb : TE} {K : PySem.W.Frag}
/-- int of a flag -/
theorem ev_int_bl {b : Bool} (ha : Ev M ta σ Z H s (ty yBool b) s1) : Ev M (tCB (fun xs H Q => (∃ i, xs = [.int i] ∧ Q (.int i) H) ∨ ∃ k, xs = [.bl k] ∧ Q (.int (if k then 1 else 0)) H) (tCons ta tNil)) σ Z H s (ty yInt (if b = true then 1 else 0)) s1 :=
  ev_cb (eva_cons ha eva_nil) fun _ _ vs sz ⟨v, r, e, h, e2⟩ Q q => .inr ⟨b, by rw [e, show v = .bl b from h, show r = [] from e2], q _ _ _ (Step.refl sz) rfl⟩
/-- the text of a number -/
def strI (i : Int) : Str := Str.ofString (toString i)
theorem strOk_of (s : String) : PyData.strOk (Str.ofString s) = true := by
  rw [Str.ofString_eq_toList]
  unfold PyData.strOk
  rw [Array.all_eq_true_iff_forall_mem]
  intro x hx
  simp only [List.mem_toArray, List.mem_map] at hx
  obtain ⟨c, _, rfl⟩ := hx
  have := c.valid
  refine decide_eq_true ?_
  show c.val.toNat < 0x110000
  rcases this with h | ⟨_, h⟩
  · have : c.val.toNat < 0xd800 := h
    omega
  · exact h
def StrIOk (i : Int) : Prop := i.natAbs.log2 < 1920 ∧ (strI i).length ≤ 16777216
instance {i : Int} : Decidable (StrIOk i) := inferInstanceAs (Decidable (_ ∧ _))
theorem ev_str_int {i : Int} (ha : Ev M ta σ Z H s (ty yInt i) s1) (h : StrIOk i) : Ev M (tCB (fun xs H Q => ∃ i, xs = [.int i] ∧ i.natAbs.log2 < 1920 ∧ Q (.str (toString i)) H) (tCons ta tNil)) σ Z H s (ty yStr (strI i)) s1 :=
  ev_cb (eva_cons ha eva_nil) fun _ _ vs sz ⟨v, r, e, h1, e2⟩ Q q => ⟨i, by rw [e, show v = .int i from h1, show r = [] from e2], h.1, q _ _ _ (Step.refl sz) ⟨rfl, by
    unfold okS
    rw [Bool.and_eq_true]
    exact ⟨strOk_of _, decide_eq_true h.2⟩⟩⟩
theorem strIOk_of {i : Int} (h0 : 0 ≤ i) (h : i < 10 ^ 100) : StrIOk i := by
  refine ⟨?_, Nat.le_trans (toString_length_le (k := 100) h0 (by decide) h) (by decide)⟩
  by_cases q : i = 0
  · subst q; decide
  · have : i.natAbs < 2 ^ 1920 := by
      have h2 : i.natAbs < 10 ^ 100 := by
        have e : ((10 : Int) ^ 100) = ((10 ^ 100 : Nat) : Int) := by decide
        rw [e] at h
        omega
      exact Nat.lt_trans h2 (by decide)
    exact (Nat.log2_lt (by omega)).mpr this
end
end TP

namespace TP
open PySem PySem.Spec PyProof.Rows L2
/-! ### comprehensions whose items may raise -/
section
variable {ε α β μ : Type}
def mapR (f : α → μ → Option (Res ε β × μ)) : List α → μ → Option (Res ε (List β) × μ)
  | [], s => some (.ok [], s)
  | x :: r, s => (f x s).bind fun p => match p.1 with
    | .er e => some (.er e, p.2)
    | .ok y => (mapR f r p.2).bind fun q => match q.1 with
      | .er e => some (.er e, q.2)
      | .ok ys => some (.ok (y :: ys), q.2)
theorem mapR_ok (f : α → μ → Option (Res ε β × μ)) : ∀ (xs : List α) (s : μ) {ys : List β} {s2 : μ}, mapR f xs s = some (.ok ys, s2) → mapS (fun x s => Res.valS (f x s)) xs s = some (ys, s2)
  | [], s, ys, s2, h => by
    have h := Prod.mk.inj (Option.some.inj h)
    cases h.1
    rw [← h.2]
    rfl
  | x :: r, s, ys, s2, h => by
    unfold mapR at h
    obtain ⟨⟨p, sp⟩, hp, h⟩ := Option.bind_eq_some_iff.mp h
    cases p with
    | er e => cases h
    | ok y =>
      obtain ⟨⟨q, sq⟩, hq, h⟩ := Option.bind_eq_some_iff.mp h
      cases q with
      | er e => cases h
      | ok zs =>
        have h := Prod.mk.inj (Option.some.inj h)
        have e1 : y :: zs = ys := by injection h.1
        have e2 : sq = s2 := h.2
        subst e1 e2
        unfold mapS
        have hv : Res.valS (f x s) = some (y, sp) := by rw [hp]; rfl
        rw [hv]
        show (mapS _ r sp).bind _ = _
        rw [mapR_ok f r sp hq]
        rfl
end
section
variable {μ : Type} {S : List Addr} {Z0 H0 : Hp} {M : Mu μ} {σ : L2.St} {Z H : Hp} {s s' s1 s2 s3 : μ} {ta tb tc te : TE} {t : TA} {K : PySem.W.Frag} {D : Ends} {X : Hp → Prop} {ε α β : Type} {τ : Ty α} {υ : Ty β} {xs : List α} {ys : List β} {wi : TI} {g : TG} {tt : TT} {vs : List Nat} {ex : ε}
/-- what is walked raises -/
def EvIE (M : Mu μ) (wi : TI) (σ : L2.St) (Z H : Hp) (s : μ) (X : Hp → Prop) (s' : μ) : Prop :=
  ∀ Z1 H1, Same Z Z1 → SameX M.fp H H1 → Same Z1 H1 → M.m s Z1 H1 → ∀ R, (∀ Z2 H2, Step M.fp Z1 H1 Z2 H2 → M.m s' Z2 H2 → X H2) → wi σ H1 R
theorem eie_range (ha : EvAE M t σ Z H s X s1) : EvIE M (iRng1 t) σ Z H s X s1 := fun Z1 H1 a b c d _ q => ha Z1 H1 a b c d _ q
theorem eve_lcI (hi : EvIE M wi σ Z H s X s1) : EvE M (tLc wi g tt te vs) σ Z H s X s1 := fun Z1 H1 a b c d _ q => hi Z1 H1 a b c d _ q
theorem en_mapR (f : α → μ → Option (Res ε β × μ)) (hi : EvI M (SameX M.fp) wi σ Z H s τ xs s1)
    (hb : ∀ x v Z' H' si y s', Same Z Z' → SameX M.fp H H' → τ.r Z' v x → f x si = some (.ok y, s') → ∃ σ2, Tgt g v (wipe σ vs) σ2 Z' ∧ wipe σ2 vs = wipe σ vs ∧ Ev M te σ2 Z' H' si (ty υ y) s')
    (hF : mapR f xs s1 = some (.ok ys, s2)) : EvN M (tLc wi g tYes te vs) σ Z H s υ ys s2 :=
  en_mapS (fun x s => Res.valS (f x s)) hi (fun x v Z' H' si p z h rv hp => hb x v Z' H' si p.1 p.2 z h rv (valS_inv hp)) (mapR_ok f xs s1 hF)
theorem eve_mapR (f : α → μ → Option (Res ε β × μ)) (hi : EvI M (SameX M.fp) wi σ Z H s τ xs s1)
    (hb : ∀ x v Z' H' si y s', Same Z Z' → SameX M.fp H H' → τ.r Z' v x → f x si = some (.ok y, s') → ∃ σ2, Tgt g v (wipe σ vs) σ2 Z' ∧ wipe σ2 vs = wipe σ vs ∧ Ev M te σ2 Z' H' si (ty υ y) s')
    (he : ∀ x v Z' H' si s', Same Z Z' → SameX M.fp H H' → τ.r Z' v x → f x si = some (.er ex, s') → ∃ σ2, Tgt g v (wipe σ vs) σ2 Z' ∧ wipe σ2 vs = wipe σ vs ∧ EvE M te σ2 Z' H' si X s')
    (hF : mapR f xs s1 = some (.er ex, s2)) : EvE M (tLc wi g tYes te vs) σ Z H s X s2 := by
  intro Z1 H1 a b c d Q q
  refine hi Z1 H1 a b c d _ fun J Z2 H2 e m ⟨hx, G, Y, wk, hG, hY⟩ D hD => ?_
  have zD : Z2 D = none := same_none e.s hD
  have st0 := Step.own (o := .lst []) e.s hD
  refine lc_it wk (fun i H' => ∃ Z' si ws, Step M.fp Z2 H2 Z' H' ∧ Z' D = none ∧ H' D = some (.lst ws) ∧ ws.length ≤ i ∧ M.m si Z' H' ∧ mapR f (xs.drop i) si = some (.er ex, s2))
    ⟨Z2, s1, [], st0.pure, zD, upd_same, Nat.le_refl _, M.pure st0 m, by rw [List.drop_zero]; exact hF⟩ ?_ ?_ ?_
  · rintro i H' _ ⟨Z', si, ws, st, _⟩
    exact hG Z' H' st.z st.s st.h
  · rintro i v H3 H4 hin ⟨Z', si, ws, st, zD', hD', lw, m', hF'⟩ y
    obtain ⟨Z4, x, ex', st4, rx⟩ := hY i Z' H3 v H4 hin st.z st.s (hG Z' H3 st.z st.s st.h) y
    have hd : xs.drop i = x :: xs.drop (i + 1) := by
      rw [List.drop_eq_getElem_cons hin]
      rw [List.getElem?_eq_getElem hin] at ex'
      rw [Option.some.inj ex']
    rw [hd] at hF'
    obtain ⟨⟨p, sp⟩, hp, hF2⟩ := Option.bind_eq_some_iff.mp hF'
    have e4 := st.trans st4.pure
    have eZ : Same Z Z4 := (a.trans e.z).trans e4.z
    have eH : SameX M.fp H H4 := (b.trans e.h).trans e4.h
    have nD : D ∉ M.fp := fun h => absurd hD (M.al m D h).1
    have hD4 : H4 D = some (.lst ws) := st4.h _ _ List.not_mem_nil hD'
    have zD4 : Z4 D = none := st4.n D (some_ne hD') zD'
    have m4 := M.pure st4 m'
    cases p with
    | er e' =>
      have h2 := Prod.mk.inj (Option.some.inj hF2)
      have e1 : e' = ex := by injection h2.1
      have e2 : sp = s2 := h2.2
      subst e1 e2
      obtain ⟨σ2, tg, wp, ev⟩ := he x v Z4 H4 si sp eZ eH rx hp
      have ty : EvT M tYes σ2 Z4 H4 si true si := fun Z1 H1 _ _ c d _ k => k Z1 H1 (Step.refl c) d
      refine tg H4 e4.s _ ⟨wp, ty Z4 H4 (Same.refl _) SameX.refl e4.s m4 _ fun Z5 H5 e5 m5 => ?_⟩
      rw [if_pos rfl]
      exact ev Z5 H5 e5.z e5.h e5.s m5 _ fun Z6 H6 e6 m6 => q Z6 H6 (((e.trans e4).trans e5).trans e6) m6
    | ok y0 =>
      obtain ⟨⟨r, sr⟩, hr, hF3⟩ := Option.bind_eq_some_iff.mp hF2
      cases r with
      | ok zs => cases hF3
      | er e' =>
        have h2 := Prod.mk.inj (Option.some.inj hF3)
        have e1 : e' = ex := by injection h2.1
        have e2 : sr = s2 := h2.2
        subst e1 e2
        obtain ⟨σ2, tg, wp, ev⟩ := hb x v Z4 H4 si y0 sp eZ eH rx hp
        have ty : EvT M tYes σ2 Z4 H4 si true si := fun Z1 H1 _ _ c d _ k => k Z1 H1 (Step.refl c) d
        refine tg H4 e4.s _ ⟨wp, ty Z4 H4 (Same.refl _) SameX.refl e4.s m4 _ fun Z5 H5 e5 m5 => ?_⟩
        rw [if_pos rfl]
        refine ev Z5 H5 e5.z e5.h e5.s m5 _ fun w Z6 H6 e6 m6 rw' => ?_
        have hD5 : H5 D = some (.lst ws) := e5.h _ _ nD hD4
        have zD5 : Z5 D = none := e5.n D (some_ne hD4) zD4
        have hD6 : H6 D = some (.lst ws) := e6.h _ _ nD hD5
        have zD6 : Z6 D = none := e6.n D (some_ne hD5) zD5
        have s7 := Step.set (o := .lst (ws ++ [w])) e6.s zD6
        refine ⟨ws, hD6, by omega, Z6, sp, ws ++ [w], ((e4.trans e5).trans e6).mine s7 (fun x hx => by rw [List.mem_singleton] at hx; subst hx; exact .inr hD), zD6, upd_same, by rw [List.length_append]; show ws.length + 1 ≤ _; omega, ?_, hr⟩
        refine M.loc (Same.refl _) (fun a' ha' o ho => ?_) (fun _ _ _ z => z) m6
        rw [upd_ne (fun q' => nD (by rw [← q']; exact ha'))]
        exact ho
  · rintro H' ⟨Z', si, ws, st, zD', hD', lw, m', hF'⟩
    rw [List.drop_length] at hF'
    have h2 := Prod.mk.inj (Option.some.inj hF')
    cases h2.1
end
section
variable {μ : Type} {M : Mu μ} {σ : L2.St} {Z H : Hp} {s s1 s2 s3 : μ} {ta tb : TE} {K : PySem.W.Frag}
theorem tyV_str {a : Str} {H : Hp} : tyV K "str" (.str a) H := by simp [tyV]
theorem ev_sw {x y : Str} (ha : Ev M ta σ Z H s (ty yStr x) s1) (hb : Ev M tb σ Z H s1 (ty yStr y) s2) : Ev M (tBM K "str" (fun x xs H Q => ∃ a b, x = .str a ∧ xs = [.str b] ∧ Q (.bl (Txt.startswith a b)) H) ta (tCons tb tNil)) σ Z H s (ty yBool (Txt.startswith x y)) s2 :=
  fun Z1 H1 a b c d Q q => ha Z1 H1 a b c d _ fun v Z2 H2 e m rv => by
    have ev : v = .str x := rv.1
    subst ev
    refine ⟨tyV_str, eva_cons hb eva_nil Z2 H2 (a.trans e.z) (b.trans e.h) e.s m _ fun us Z3 H3 e2 m2 ⟨w, r, e3, rw', e4⟩ => ?_⟩
    cases e4; cases e3
    exact ⟨x, y, rfl, by rw [show w = .str y from rw'.1], q _ Z3 H3 (e.trans e2) m2 rfl⟩
theorem okS_len {x : Str} (h : okS x = true) : x.length ≤ sizeLine := of_decide_eq_true (Bool.and_eq_true_iff.mp (show (PyData.strOk x && decide (x.length ≤ sizeLine)) = true from h)).2
theorem okS_cut {x : Str} (h : okS x = true) (lo hi : Option Int) : okS (cutS x lo hi) = true := by
  have hl := okS_len h
  have hc := cutS_length x lo hi
  unfold okS PyData.strOk at h ⊢
  rw [Bool.and_eq_true] at h ⊢
  refine ⟨?_, decide_eq_true (Nat.le_trans hc hl)⟩
  rw [Array.all_eq_true_iff_forall_mem]
  intro c hm
  have := Array.all_eq_true_iff_forall_mem.mp h.1 c (by
    unfold cutS at hm
    rw [List.mem_toArray] at hm
    exact Array.mem_toList_iff.mp (List.mem_of_mem_drop (List.mem_of_mem_take hm)))
  exact this
theorem ev_slS {x : Str} {tl th : TO} {lo hi : Option Int} (ha : Ev M ta σ Z H s (ty yStr x) s1) (hl : EvO M tl σ Z H s1 lo s2) (hh : EvO M th σ Z H s2 hi s3) : Ev M (tSl rSlS ta tl th) σ Z H s (ty yStr (cutS x lo hi)) s3 :=
  ev_slice ha hl hh fun _ _ _ sz ⟨e, ok⟩ _ q => ⟨x, e, okS_len ok, q _ _ _ (Step.refl sz) ⟨rfl, okS_cut ok lo hi⟩⟩
end
end TP
namespace TP
open PySem PySem.Spec PyProof.Rows L2
section
variable {μ : Type} {M : Mu μ} {σ : L2.St} {Z H : Hp} {s s1 s2 : μ} {ta tb : TE} {K : PySem.W.Frag}
def rJoin (K : PySem.W.Frag) : V → List V → Hp → VK → Prop := fun x xs H Q => ∃ a p, ∃ ys : List Str, x = .str a ∧ xs = [.ref p] ∧ (SqL K H p (ys.map V.str) ∨ SqT K H p (ys.map V.str)) ∧
    (ys.map (·.length)).sum + ys.length * a.length ≤ 16777216 ∧ Q (.str (Txt.join a ys)) H
theorem ev_join {r : V → List V → Hp → VK → Prop} (hr : ∀ x xs H Q, rJoin K x xs H Q → r x xs H Q) {x : Str} {ys : List Str} (ha : Ev M ta σ Z H s (ty yStr x) s1) (hb : Ev M tb σ Z H s1 (li yStr ys) s2) (g : (ys.map (·.length)).sum + ys.length * x.length ≤ 16777216) (ok : okS (Txt.join x ys) = true) :
    Ev M (tBM K "str" r ta (tCons tb tNil)) σ Z H s (ty yStr (Txt.join x ys)) s2 :=
  fun Z1 H1 a b c d Q q => ha Z1 H1 a b c d _ fun v Z2 H2 e m rv => by
    have ev : v = .str x := rv.1
    subst ev
    refine ⟨tyV_str, eva_cons hb eva_nil Z2 H2 (a.trans e.z) (b.trans e.h) e.s m _ fun us Z3 H3 e2 m2 ⟨w, r, e3, rw', e4⟩ => ?_⟩
    cases e4; cases e3
    obtain ⟨p, vs, rfl, hp, t, _⟩ := rdl e2.s rw'
    have hv : vs = ys.map V.str := t.map fun v y h => h.1
    subst hv
    exact hr _ _ _ _ ⟨x, p, ys, rfl, rfl, .inl (SqL.of hp), g, q _ Z3 H3 (e.trans e2) m2 ⟨rfl, ok⟩⟩
end
end TP

/-! == and != of lists, tuples and instances with an own ==, with either outcome -/
namespace TPQ
open PySem PySem.SeqAt
open AutoSeq1 (wpAny_loadPart')
open MeetsSeq MeetsSeq2 MeetsSeq3 SeqRoads2
section
variable {prog : Program} {w : World} {A : Around} {R : Result → Shared → Prop} {E : Value → Shared → Prop}
/-- at each turn the two lists are read anew; the i-th two are equal as e i says -/
def ListB (prog : Program) (w : World) (A : Around) (E : Value → Shared → Prop) (l b : Addr) (N : Nat) (e : Nat → Bool) (I : Shared → Prop) : Prop :=
  ∀ s, I s → ∃ (items items2 : Array Value) (dd dd2 : Option Addr) (n n2 : Nat) (sl sl2 : Array (Option Value)), s.heap.get? l = some { cls := .type "list", dict := dd, data := .seq items n, slots := sl } ∧ s.heap.get? b = some { cls := .type "list", dict := dd2, data := .seq items2 n2, slots := sl2 } ∧ items.size = N ∧ items2.size = N ∧
    ∀ i (h1 : i < items.size) (h2 : i < items2.size), wpAny (model prog w) A.in1 (eqBool items[i] items2[i]) (fun r s' => r = e i ∧ I s') E s
set_option maxHeartbeats 2000000 in
theorem list_loop (neg : Bool) (l b : Addr) (N : Nat) (e : Nat → Bool) (I : Shared → Prop) (hl : ListB prog w A (fun e s' => R (.error e) s') l b N e I)
    (fin : ∀ s, I s → R (.ok (.ret (.bool ((List.range N).all e != neg)))) s) (k : Nat) :
    ∀ i : Nat, N - i = k → i ≤ N → (∀ j, j < i → e j = true) → ∀ s, I s →
      wpAny (model prog w) A.in1 (Builtin.«list.__eq__.loop» ⟨[.ref l, .ref b, rawInt i, rawInt (if neg then 3 else 2)], []⟩) (GQ.FinOf prog w A R) (fun e s' => R (.error e) s') s := by
  induction k with
  | zero =>
    intro i hk hi he s h
    obtain ⟨items, items2, dd, dd2, n, n2, sl, sl2, hl1, hb1, hs1, hs2, _⟩ := hl _ h
    have hi' : i = N := by omega
    subst hi'
    have hR := fin s h
    have ha : (List.range i).all e = true := by rw [List.all_eq_true]; exact fun j hj => he j (List.mem_range.mp hj)
    rw [ha] at hR
    have hi1 : items[((i : Nat) : Int).toNat]? = none := by simp; omega
    have hi2 : items2[((i : Nat) : Int).toNat]? = none := by simp; omega
    obtain ⟨hp, g, d, tk, os⟩ := s
    cases neg
    · rw [if_neg Bool.false_ne_true]
      wp_walk using wpAny_loadPart' hl1, wpAny_loadPart' hb1
      rw [hi1, hi2]
      wp_walk using wpAny_loadPart' hl1, wpAny_loadPart' hb1
      show R (.ok (.ret (.bool (items.size == items2.size)))) _
      rw [hs1, hs2]
      simpa using hR
    · rw [if_pos rfl]
      wp_walk using wpAny_loadPart' hl1, wpAny_loadPart' hb1
      rw [hi1, hi2]
      wp_walk using wpAny_loadPart' hl1, wpAny_loadPart' hb1
      show R (.ok (.ret (.bool (items.size != items2.size)))) _
      rw [hs1, hs2]
      simpa using hR
  | succ k ih =>
    intro i hk hi he s h
    obtain ⟨items, items2, dd, dd2, n, n2, sl, sl2, hl1, hb1, hs1, hs2, turn⟩ := hl _ h
    have hlt : i < items.size := by omega
    have hlt2 : i < items2.size := by omega
    have ht := turn i hlt hlt2
    have hi1 : items[((i : Nat) : Int).toNat]? = some items[i] := by simp [hlt]
    have hi2 : items2[((i : Nat) : Int).toNat]? = some items2[i] := by simp [hlt2]
    have hc : ((i : Int) + 1) = ((i + 1 : Nat) : Int) := by omega
    have go : e i = true → ∀ s2, I s2 → wpAny (model prog w) A.in1 (Builtin.«list.__eq__.loop» ⟨[.ref l, .ref b, rawInt ((i + 1 : Nat) : Int), rawInt (if neg then 3 else 2)], []⟩) (GQ.FinOf prog w A R) (fun e s' => R (.error e) s') s2 := fun ei s2 h2 =>
      ih (i + 1) (by omega) (by omega) (fun j hj => by
        rcases Nat.lt_or_ge j i with g | g
        · exact he j g
        · have : j = i := by omega
          rw [this]; exact ei) s2 h2
    have stop : e i = false → (List.range N).all e = false := fun ei => by
      cases q : (List.range N).all e with
      | false => rfl
      | true => rw [List.all_eq_true.mp q i (List.mem_range.mpr (by omega))] at ei; cases ei
    obtain ⟨hp, g, d, tk, os⟩ := s
    cases neg
    · rw [if_neg Bool.false_ne_true] at go ⊢
      wp_walk using wpAny_loadPart' hl1, wpAny_loadPart' hb1
      rw [hi1, hi2]
      refine wpAny_bind (wpAny_mono ht (fun r s2 h2 => ?_) fun _ _ x => x)
      obtain ⟨hr, h2⟩ := h2
      subst hr
      cases ei : e i with
      | true =>
        have hrec := go ei s2 h2
        obtain ⟨hp2, g2, d2, tk2, os2⟩ := s2
        wp_walk
        rw [hc]
        exact ⟨plainId_quiet plain_eq_loop _, codeAny_builtin entry_eq_loop (by
          rw [Around.under_plainId plain_eq_loop _]
          exact hrec)⟩
      | false =>
        have hR := fin s2 h2
        rw [stop ei] at hR
        obtain ⟨its, its2, _, _, m, m2, _, _, hl2, hb2, z1, z2, _⟩ := hl _ h2
        have ki1 : its[((i : Nat) : Int).toNat]? = some (its[i]'(by omega)) := by simp
        have ki2 : its2[((i : Nat) : Int).toNat]? = some (its2[i]'(by omega)) := by simp
        obtain ⟨hp2, g2, d2, tk2, os2⟩ := s2
        wp_walk using wpAny_loadPart' hl2, wpAny_loadPart' hb2
        rw [ki1, ki2]
        wp_walk
        simpa using hR
    · rw [if_pos rfl] at go ⊢
      wp_walk using wpAny_loadPart' hl1, wpAny_loadPart' hb1
      rw [hi1, hi2]
      refine wpAny_bind (wpAny_mono ht (fun r s2 h2 => ?_) fun _ _ x => x)
      obtain ⟨hr, h2⟩ := h2
      subst hr
      cases ei : e i with
      | true =>
        have hrec := go ei s2 h2
        obtain ⟨hp2, g2, d2, tk2, os2⟩ := s2
        wp_walk
        rw [hc]
        exact ⟨plainId_quiet plain_eq_loop _, codeAny_builtin entry_eq_loop (by
          rw [Around.under_plainId plain_eq_loop _]
          exact hrec)⟩
      | false =>
        have hR := fin s2 h2
        rw [stop ei] at hR
        obtain ⟨its, its2, _, _, m, m2, _, _, hl2, hb2, z1, z2, _⟩ := hl _ h2
        have ki1 : its[((i : Nat) : Int).toNat]? = some (its[i]'(by omega)) := by simp
        have ki2 : its2[((i : Nat) : Int).toNat]? = some (its2[i]'(by omega)) := by simp
        obtain ⟨hp2, g2, d2, tk2, os2⟩ := s2
        wp_walk using wpAny_loadPart' hl2, wpAny_loadPart' hb2
        rw [ki1, ki2]
        wp_walk
        simpa using hR
set_option maxHeartbeats 2000000 in
theorem list_cmp (neg : Bool) (l b : Addr) (N : Nat) (e : Nat → Bool) (I : Shared → Prop) (hl : ListB prog w A (fun e s' => R (.error e) s') l b N e I)
    (fin : ∀ s, I s → R (.ok (.ret (.bool ((List.range N).all e != neg)))) s) {s : Shared} (h : I s) :
    wpAny (model prog w) A.in1 ((if neg then Builtin.«list.__ne__» else Builtin.«list.__eq__») ⟨[.ref l, .ref b], []⟩) (GQ.FinOf prog w A R) (fun e s' => R (.error e) s') s := by
  obtain ⟨items, items2, dd, dd2, n, n2, sl, sl2, hl1, hb1, hs1, hs2, _⟩ := hl _ h
  have hrec := list_loop (A := A) (R := R) neg l b N e I hl fin _ 0 rfl (Nat.zero_le _) (fun j hj => absurd hj (Nat.not_lt_zero j)) s h
  obtain ⟨hp, g, d, tk, os⟩ := s
  have f3 := AutoSeq1.sub_list_list
  have hne : ¬ (items.size != items2.size) = true := by simp [hs1, hs2]
  cases neg
  · rw [if_neg Bool.false_ne_true] at hrec ⊢
    wp_walk using wpAny_loadPart' hl1, wpAny_loadPart' hb1
    exact ⟨plainId_quiet plain_eq_loop _, codeAny_builtin entry_eq_loop (by
      rw [Around.under_plainId plain_eq_loop _]
      exact hrec)⟩
  · rw [if_pos rfl] at hrec ⊢
    wp_walk using wpAny_loadPart' hl1, wpAny_loadPart' hb1
    exact ⟨plainId_quiet plain_eq_loop _, codeAny_builtin entry_eq_loop (by
      rw [Around.under_plainId plain_eq_loop _]
      exact hrec)⟩
set_option maxHeartbeats 2000000 in
theorem list_len (neg : Bool) (l b : Addr) (items items2 : Array Value) (dd dd2 : Option Addr) (n n2 : Nat) (sl sl2 : Array (Option Value)) (hne : (items.size != items2.size) = true) {s : Shared} (hl1 : s.heap.get? l = some { cls := .type "list", dict := dd, data := .seq items n, slots := sl }) (hb1 : s.heap.get? b = some { cls := .type "list", dict := dd2, data := .seq items2 n2, slots := sl2 })
    (fin : R (.ok (.ret (.bool neg))) s) :
    wpAny (model prog w) A.in1 ((if neg then Builtin.«list.__ne__» else Builtin.«list.__eq__») ⟨[.ref l, .ref b], []⟩) (GQ.FinOf prog w A R) (fun e s' => R (.error e) s') s := by
  obtain ⟨hp, g, d, tk, os⟩ := s
  have f3 := AutoSeq1.sub_list_list
  cases neg
  · rw [if_neg Bool.false_ne_true]
    wp_walk using wpAny_loadPart' hl1, wpAny_loadPart' hb1
    exact fin
  · rw [if_pos rfl]
    wp_walk using wpAny_loadPart' hl1, wpAny_loadPart' hb1
    exact fin
set_option maxHeartbeats 2000000 in
theorem tup_cmp (neg : Bool) (l b : Addr) (items items2 : Array Value) (n n2 : Nat) (dd dd2 : Option Addr) (sl sl2 : Array (Option Value)) (e : Nat → Bool) (I : Shared → Prop)
    (turn : ∀ i (h1 : i < items.size) (h2 : i < items2.size) s, I s → wpAny (model prog w) A.in1 (eqBool items[i] items2[i]) (fun r s' => r = e i ∧ I s') (fun e s' => R (.error e) s') s)
    (fin : ∀ s, I s → R (.ok (.ret (.bool (((List.range (min items.size items2.size)).all e && items.size == items2.size) != neg)))) s) {s : Shared} (hl1 : s.heap.get? l = some { cls := .type "tuple", dict := dd, data := .seq items n, slots := sl }) (hb1 : s.heap.get? b = some { cls := .type "tuple", dict := dd2, data := .seq items2 n2, slots := sl2 }) (h : I s) :
    wpAny (model prog w) A.in1 ((if neg then Builtin.«tuple.__ne__» else Builtin.«tuple.__eq__») ⟨[.ref l, .ref b], []⟩) (GQ.FinOf prog w A R) (fun e s' => R (.error e) s') s := by
  have f2 := AutoSeq1.sub_tuple_tuple
  have hZ : (items.toList.zip items2.toList).length = min items.size items2.size := by simp
  have h0 := h
  have stop : ∀ i, i < min items.size items2.size → e i = false → (List.range (min items.size items2.size)).all e = false := fun i hi ei => by
    cases q : (List.range (min items.size items2.size)).all e with
    | false => rfl
    | true => rw [List.all_eq_true.mp q i (List.mem_range.mpr hi)] at ei; cases ei
  have turn' : ∀ (y x : Value) (rest : List (Value × Value)) (i : Nat), (y, x) :: rest = (items.toList.zip items2.toList).drop i → i < min items.size items2.size ∧ rest = (items.toList.zip items2.toList).drop (i + 1) ∧ ∀ s, I s → wpAny (model prog w) A.in1 (eqBool y x) (fun r s' => r = e i ∧ I s') (fun e s' => R (.error e) s') s := fun y x rest i hz => by
    have hlt : i < (items.toList.zip items2.toList).length := by
      rcases Nat.lt_or_ge i (items.toList.zip items2.toList).length with h' | h'
      · exact h'
      · rw [List.drop_of_length_le h'] at hz; cases hz
    have hm : i < min items.size items2.size := hZ ▸ hlt
    have h1 : i < items.size := Nat.lt_of_lt_of_le hm (Nat.min_le_left _ _)
    have h2 : i < items2.size := Nat.lt_of_lt_of_le hm (Nat.min_le_right _ _)
    rw [List.drop_eq_getElem_cons hlt] at hz
    injection hz with hyx hrest
    have hy : y = items[i] := by have := congrArg Prod.fst hyx; simpa using this
    have hx : x = items2[i] := by have := congrArg Prod.snd hyx; simpa using this
    subst hy hx
    exact ⟨hm, hrest, turn i h1 h2⟩
  have last : ∀ i, [] = (items.toList.zip items2.toList).drop i → (∀ j, j < i → j < min items.size items2.size → e j = true) → (List.range (min items.size items2.size)).all e = true := fun i hz he => by
    have hge : min items.size items2.size ≤ i := by
      rcases Nat.lt_or_ge i (items.toList.zip items2.toList).length with h' | h'
      · rw [List.drop_eq_getElem_cons h'] at hz; cases hz
      · exact hZ ▸ h'
    rw [List.all_eq_true]
    exact fun j hj => he j (Nat.lt_of_lt_of_le (List.mem_range.mp hj) hge) (List.mem_range.mp hj)
  have grow : ∀ i, e i = true → (∀ j, j < i → j < min items.size items2.size → e j = true) → ∀ j, j < i + 1 → j < min items.size items2.size → e j = true := fun i ei he j hj hm => by
    rcases Nat.lt_or_ge j i with g | g
    · exact he j g hm
    · have : j = i := by omega
      rw [this]; exact ei
  obtain ⟨hp, g, d, tk, os⟩ := s
  cases neg
  · rw [if_neg Bool.false_ne_true]
    wp_walk using wpAny_loadPart' hl1, wpAny_loadPart' hb1, wpAny_forIn_list _ (fun rest b s' => b.1 = none ∧ I s' ∧ ∃ i, rest = (items.toList.zip items2.toList).drop i ∧ ∀ j, j < i → j < min items.size items2.size → e j = true) _
    case turn =>
      rintro ⟨y, x⟩ rest b s' ⟨hb', hI, i, hz, he⟩
      obtain ⟨hm, hrest, tr⟩ := turn' y x rest i hz
      refine wpAny_bind (wpAny_mono (tr s' hI) (fun r s2 q2 => ?_) fun _ _ x => x)
      obtain ⟨hr, q2⟩ := q2
      subst hr
      cases ei : e i with
      | true =>
        wp_walk
        exact ⟨rfl, q2, i + 1, hrest, grow i ei he⟩
      | false =>
        have hR := fin s2 q2
        rw [stop i hm ei] at hR
        obtain ⟨hp2, g2, d2, tk2, os2⟩ := s2
        wp_walk
        simpa using hR
    case fin =>
      rintro ⟨b1, b2⟩ s' ⟨hb', hI, i, hz, he⟩
      simp only at hb'
      subst hb'
      have hR := fin s' hI
      rw [last i hz he] at hR
      wp_walk
      simpa [Builtin.Tuple.tupleCompareSizes, bne] using hR
    case h =>
      exact ⟨rfl, h0, 0, rfl, fun j hj => absurd hj (Nat.not_lt_zero j)⟩
  · rw [if_pos rfl]
    wp_walk using wpAny_loadPart' hl1, wpAny_loadPart' hb1, wpAny_forIn_list _ (fun rest b s' => b.1 = none ∧ I s' ∧ ∃ i, rest = (items.toList.zip items2.toList).drop i ∧ ∀ j, j < i → j < min items.size items2.size → e j = true) _
    case turn =>
      rintro ⟨y, x⟩ rest b s' ⟨hb', hI, i, hz, he⟩
      obtain ⟨hm, hrest, tr⟩ := turn' y x rest i hz
      refine wpAny_bind (wpAny_mono (tr s' hI) (fun r s2 q2 => ?_) fun _ _ x => x)
      obtain ⟨hr, q2⟩ := q2
      subst hr
      cases ei : e i with
      | true =>
        wp_walk
        exact ⟨rfl, q2, i + 1, hrest, grow i ei he⟩
      | false =>
        have hR := fin s2 q2
        rw [stop i hm ei] at hR
        obtain ⟨hp2, g2, d2, tk2, os2⟩ := s2
        wp_walk
        simpa using hR
    case fin =>
      rintro ⟨b1, b2⟩ s' ⟨hb', hI, i, hz, he⟩
      simp only at hb'
      subst hb'
      have hR := fin s' hI
      rw [last i hz he] at hR
      wp_walk
      simpa [Builtin.Tuple.tupleCompareSizes, bne] using hR
    case h =>
      exact ⟨rfl, h0, 0, rfl, fun j hj => absurd hj (Nat.not_lt_zero j)⟩

section
variable {s : Shared}
theorem rc_list (neg : Bool) {l b : Addr} {N : Nat} {Q : Value → Shared → Prop} (hu : A.units < cLine) (e : Nat → Bool) (I : Shared → Prop) (hl : ListB prog w A E l b N e I)
    (fin : ∀ s, I s → Q (.bool ((List.range N).all e != neg)) s) (h : I s) : wpAny (model prog w) A (richCompare (if neg then .NotEq else .Eq) (.ref l) (.ref b)) Q E s := by
  obtain ⟨items, items2, dd, dd2, n, n2, sl, sl2, hl1, hb1, _, _, _⟩ := hl _ h
  cases neg
  · rw [if_neg Bool.false_ne_true]
    refine wpAny_richCompare_same_room (op := .Eq) ⟨_, hl1, rfl⟩ ⟨_, hb1, rfl⟩ F.slot_list_eq (GQ.call_here F.slot_list_eq ⟨_, hl1, rfl⟩ F.entry_list_eq (F.args_list_eq_2 _ _) ?_) hu
    exact list_cmp (R := wants (fun v s' => v ≠ .notImplemented ∧ Q v s') E) false l b N e I hl (fun s' q => ⟨(fun x => nomatch x), fin s' q⟩) h
  · rw [if_pos rfl]
    refine wpAny_richCompare_same_room (op := .NotEq) ⟨_, hl1, rfl⟩ ⟨_, hb1, rfl⟩ F.slot_list_ne (GQ.call_here F.slot_list_ne ⟨_, hl1, rfl⟩ F.entry_list_ne (F.args_list_ne_2 _ _) ?_) hu
    exact list_cmp (R := wants (fun v s' => v ≠ .notImplemented ∧ Q v s') E) true l b N e I hl (fun s' q => ⟨(fun x => nomatch x), fin s' q⟩) h
theorem rc_list_len (neg : Bool) {l b : Addr} {items items2 : Array Value} {Q : Value → Shared → Prop} (hu : A.units < cLine) (hl : s.heap.IsList l items) (hb : s.heap.IsList b items2) (hne : (items.size != items2.size) = true) (fin : Q (.bool neg) s) :
    wpAny (model prog w) A (richCompare (if neg then .NotEq else .Eq) (.ref l) (.ref b)) Q E s := by
  obtain ⟨⟨cls, dd, data, sl⟩, ho, hc, n, hd⟩ := id hl
  obtain ⟨⟨cls2, dd2, data2, sl2⟩, ho2, hc2, n2, hd2⟩ := id hb
  simp only at hc hd hc2 hd2
  subst hc hd hc2 hd2
  cases neg
  · rw [if_neg Bool.false_ne_true]
    refine wpAny_richCompare_same_room (op := .Eq) ⟨_, ho, rfl⟩ ⟨_, ho2, rfl⟩ F.slot_list_eq (GQ.call_here F.slot_list_eq ⟨_, ho, rfl⟩ F.entry_list_eq (F.args_list_eq_2 _ _) ?_) hu
    exact list_len (R := wants (fun v s' => v ≠ .notImplemented ∧ Q v s') E) false l b items items2 dd dd2 n n2 sl sl2 hne ho ho2 ⟨(fun x => nomatch x), fin⟩
  · rw [if_pos rfl]
    refine wpAny_richCompare_same_room (op := .NotEq) ⟨_, ho, rfl⟩ ⟨_, ho2, rfl⟩ F.slot_list_ne (GQ.call_here F.slot_list_ne ⟨_, ho, rfl⟩ F.entry_list_ne (F.args_list_ne_2 _ _) ?_) hu
    exact list_len (R := wants (fun v s' => v ≠ .notImplemented ∧ Q v s') E) true l b items items2 dd dd2 n n2 sl sl2 hne ho ho2 ⟨(fun x => nomatch x), fin⟩
theorem rc_tup (neg : Bool) {l b : Addr} {items items2 : Array Value} {Q : Value → Shared → Prop} (hu : A.units < cLine) (e : Nat → Bool) (I : Shared → Prop) (hl : s.heap.IsTuple l items) (hb : s.heap.IsTuple b items2)
    (turn : ∀ i (h1 : i < items.size) (h2 : i < items2.size) s, I s → wpAny (model prog w) A.in1 (eqBool items[i] items2[i]) (fun r s' => r = e i ∧ I s') E s)
    (fin : ∀ s, I s → Q (.bool (((List.range (min items.size items2.size)).all e && items.size == items2.size) != neg)) s) (h : I s) : wpAny (model prog w) A (richCompare (if neg then .NotEq else .Eq) (.ref l) (.ref b)) Q E s := by
  obtain ⟨⟨cls, dd, data, sl⟩, ho, hc, n, hd⟩ := id hl
  obtain ⟨⟨cls2, dd2, data2, sl2⟩, ho2, hc2, n2, hd2⟩ := id hb
  simp only at hc hd hc2 hd2
  subst hc hd hc2 hd2
  cases neg
  · rw [if_neg Bool.false_ne_true]
    refine wpAny_richCompare_same_room (op := .Eq) ⟨_, ho, rfl⟩ ⟨_, ho2, rfl⟩ F.slot_tuple_eq (GQ.call_here F.slot_tuple_eq ⟨_, ho, rfl⟩ F.entry_tuple_eq (F.args_tuple_eq_2 _ _) ?_) hu
    exact tup_cmp (R := wants (fun v s' => v ≠ .notImplemented ∧ Q v s') E) false l b items items2 n n2 dd dd2 sl sl2 e I turn (fun s' q => ⟨(fun x => nomatch x), fin s' q⟩) ho ho2 h
  · rw [if_pos rfl]
    refine wpAny_richCompare_same_room (op := .NotEq) ⟨_, ho, rfl⟩ ⟨_, ho2, rfl⟩ F.slot_tuple_ne (GQ.call_here F.slot_tuple_ne ⟨_, ho, rfl⟩ F.entry_tuple_ne (F.args_tuple_ne_2 _ _) ?_) hu
    exact tup_cmp (R := wants (fun v s' => v ≠ .notImplemented ∧ Q v s') E) true l b items items2 n n2 dd dd2 sl sl2 e I turn (fun s' q => ⟨(fun x => nomatch x), fin s' q⟩) ho ho2 h
end
end
end TPQ
namespace TPQ
open PySem PySem.Spec PyProof.Rows L2
/-- how two values compare, by the abstract heap: with what outcome -/
abbrev EqF := V → V → Hp → Bool → Prop
def MonF (D : EqF) : Prop := ∀ x y b H H', L2.Ext H H' → D x y H b → D x y H' b
/-- ==, within a builtin -/
def EqB (X : Cx) (n : Nat) (D : EqF) : Prop :=
  ∀ (A : Around) (pins : List (Addr × Obj)) (s : Shared) (σ : L2.St) (H : Hp) (x y : V) (u v : Value) (b : Bool), Sub X n A → Inv X pins σ H s → RelV x u → RelV y v → D x y H b →
    wpAny (model X.prog X.w) A (eqBool u v) (fun r s' => r = b ∧ ∃ H', Inv X pins σ H' s' ∧ L2.Ext H H') X.xe s
/-- == and !=, as operators -/
def RcB (X : Cx) (n : Nat) (neg : Bool) (D : EqF) : Prop :=
  ∀ (A : Around) (pins : List (Addr × Obj)) (s : Shared) (σ : L2.St) (H : Hp) (x y : V) (u v : Value) (b : Bool), Sub X n A → Inv X pins σ H s → RelV x u → RelV y v → D x y H b →
    wpAny (model X.prog X.w) A (richCompare (if neg then .NotEq else .Eq) u v) (fun r s' => r = .bool (b != neg) ∧ ∃ H', Inv X pins σ H' s' ∧ L2.Ext H H') X.xe s
section
variable {X : Cx} {n m : Nat} {D D' : EqF}
theorem EqB.mono (h : EqB X n D) (hn : n ≤ m) : EqB X m D := fun A pins s σ H x y u v b sb => h A pins s σ H x y u v b (sb.mono hn)
theorem RcB.mono {neg : Bool} (h : RcB X n neg D) (hn : n ≤ m) : RcB X m neg D := fun A pins s σ H x y u v b sb => h A pins s σ H x y u v b (sb.mono hn)
theorem EqB.imp (h : EqB X n D) (hd : ∀ x y H b, D' x y H b → D x y H b) : EqB X n D' := fun A pins s σ H x y u v b sb I rx ry d => h A pins s σ H x y u v b sb I rx ry (hd x y H b d)
theorem RcB.imp {neg : Bool} (h : RcB X n neg D) (hd : ∀ x y H b, D' x y H b → D x y H b) : RcB X n neg D' := fun A pins s σ H x y u v b sb I rx ry d => h A pins s σ H x y u v b sb I rx ry (hd x y H b d)
/-- flat values -/
def FFlat : EqF := fun x y _ b => flatV x = true ∧ flatV y = true ∧ eqV x y = b
theorem eqB_flat : EqB X 0 FFlat := by
  intro A pins s σ H x y u v b sb I rx ry d
  obtain ⟨fx, fy, e⟩ := d
  have q := eqAt_V (A := A) (s := s) rx ry fx fy
  rw [e] at q
  exact q X.prog X.w X.xe _ ⟨rfl, H, I, Ext.rfl'⟩
/-- pair by pair -/
inductive PrB (D : EqF) : List V → List V → Hp → List Bool → Prop
  | nil {xs ys : List V} {H : Hp} (h : xs = [] ∨ ys = []) : PrB D xs ys H []
  | cons {x y : V} {xs ys : List V} {H : Hp} {b : Bool} {bs : List Bool} (h : D x y H b) (r : PrB D xs ys H bs) : PrB D (x :: xs) (y :: ys) H (b :: bs)
theorem PrB.mon (hD : MonF D) {H H' : Hp} (e : L2.Ext H H') : ∀ {xs ys : List V} {bs : List Bool}, PrB D xs ys H bs → PrB D xs ys H' bs
  | _, _, _, .nil h => .nil h
  | _, _, _, .cons h r => .cons (hD _ _ _ _ _ e h) (r.mon hD e)
theorem PrB.len {H : Hp} : ∀ {xs ys : List V} {bs : List Bool}, PrB D xs ys H bs → bs.length = min xs.length ys.length
  | _, _, _, .nil h => by rcases h with rfl | rfl <;> simp
  | _, _, _, .cons h r => by have := r.len; simp only [List.length_cons]; omega
theorem PrB.get {H : Hp} : ∀ {xs ys : List V} {bs : List Bool} (i : Nat) {x y : V}, PrB D xs ys H bs → xs[i]? = some x → ys[i]? = some y → D x y H (bs.getD i false)
  | _, _, _, i, _, _, .nil h, h1, h2 => by rcases h with rfl | rfl <;> simp at h1 h2
  | _, _, _, 0, _, _, .cons h r, h1, h2 => by
    simp at h1 h2
    subst h1 h2
    exact h
  | _, _, _, i + 1, _, _, .cons h r, h1, h2 => by
    simp at h1 h2
    have := r.get i h1 h2
    simpa using this
theorem all_range : ∀ bs : List Bool, (List.range bs.length).all (fun i => bs.getD i false) = bs.all id
  | [] => rfl
  | b :: bs => by
    rw [List.length_cons, List.range_succ_eq_map, List.all_cons, List.all_map, List.all_cons, ← all_range bs]
    rfl
def LoopB (X : Cx) (pins : List (Addr × Obj)) (σ : L2.St) (H : Hp) (s' : Shared) : Prop := ∃ H', Inv X pins σ H' s' ∧ L2.Ext H H'
theorem turnB (hD : MonF D) (h : EqB X n D) {A : Around} (sb : Sub X (n + 1) A) {pins : List (Addr × Obj)} {σ : L2.St} {H : Hp} {xs ys : List V} {bs : List Bool} {its its2 : List Value} (p : PrB D xs ys H bs) (r : Vals xs its) (r2 : Vals ys its2)
    (i : Nat) (h1 : i < its.toArray.size) (h2 : i < its2.toArray.size) (s' : Shared) (l : LoopB X pins σ H s') :
    wpAny (model X.prog X.w) A.in1 (eqBool its.toArray[i] its2.toArray[i]) (fun r s2 => r = bs.getD i false ∧ LoopB X pins σ H s2) X.xe s' := by
  obtain ⟨H1, I1, e1⟩ := l
  have g1 : its[i]? = some its.toArray[i] := by
    have h1' : i < its.length := by simpa using h1
    rw [List.getElem?_eq_getElem h1'] <;> simp
  have g2 : its2[i]? = some its2.toArray[i] := by
    have h2' : i < its2.length := by simpa using h2
    rw [List.getElem?_eq_getElem h2'] <;> simp
  have k1 : i < xs.length := by rw [r.length]; simpa using h1
  have k2 : i < ys.length := by rw [r2.length]; simpa using h2
  obtain ⟨u, hu, ru⟩ := r.get (List.getElem?_eq_getElem k1)
  obtain ⟨v, hv, rv⟩ := r2.get (List.getElem?_eq_getElem k2)
  rw [g1] at hu
  rw [g2] at hv
  rw [Option.some.inj hu, Option.some.inj hv]
  refine wpAny_mono (h A.in1 pins s' σ H1 _ _ u v _ sb.in1 I1 ru rv ((p.mon hD e1).get i (List.getElem?_eq_getElem k1) (List.getElem?_eq_getElem k2))) (fun r s2 q => ?_) fun _ _ x => x
  obtain ⟨hr, H2, I2, e2⟩ := q
  exact ⟨hr, H2, I2, e1.trans e2⟩
def FList (D : EqF) : EqF := fun x y H b => ∃ a c xs ys bs, x = .ref a ∧ y = .ref c ∧ H a = some (.lst xs) ∧ H c = some (.lst ys) ∧ PrB D xs ys H bs ∧ b = (bs.all id && decide (xs.length = ys.length))
def FTup (K : PySem.W.Frag) (D : EqF) : EqF := fun x y H b => ∃ a c xs ys bs, x = .ref a ∧ y = .ref c ∧ SqT K H a xs ∧ SqT K H c ys ∧ PrB D xs ys H bs ∧ b = (bs.all id && decide (xs.length = ys.length))
theorem mon_list (hD : MonF D) : MonF (FList D) := fun x y b H H' e ⟨a, c, xs, ys, bs, hx, hy, h1, h2, p, hb⟩ => ⟨a, c, xs, ys, bs, hx, hy, e _ _ h1, e _ _ h2, p.mon hD e, hb⟩
theorem mon_tup {K : PySem.W.Frag} (hD : MonF D) : MonF (FTup K D) := fun x y b H H' e ⟨a, c, xs, ys, bs, hx, hy, h1, h2, p, hb⟩ => ⟨a, c, xs, ys, bs, hx, hy, h1.ext e, h2.ext e, p.mon hD e, hb⟩
theorem rcB_list (neg : Bool) (hD : MonF D) (h : EqB X n D) : RcB X (n + 1) neg (FList D) := by
  intro A pins s σ H x y u v b sb I rx ry d
  obtain ⟨a, c, xs, ys, bs, rfl, rfl, ha, hc, p, rfl⟩ := d
  cases rx
  cases ry
  by_cases hn : xs.length = ys.length
  · have hl : bs.length = xs.length := by have := p.len; omega
    rw [decide_eq_true hn, Bool.and_true]
    refine rc_list neg (N := xs.length) sb.room.units0 (fun i => bs.getD i false) (LoopB X pins σ H) (fun s' q => ?_) (fun s' q => ⟨?_, q⟩) ⟨H, I, Ext.rfl'⟩
    · obtain ⟨H1, I1, e1⟩ := id q
      obtain ⟨z, its, k, r, e⟩ := I1.hok a _ (e1 _ _ ha)
      obtain ⟨z2, its2, k2, r2, e2⟩ := I1.hok c _ (e1 _ _ hc)
      exact ⟨its.toArray, its2.toArray, _, _, k, k2, _, _, e, e2, by rw [List.size_toArray, ← r.length], by rw [List.size_toArray, ← r2.length, ← hn], fun i h1 h2 => turnB hD h sb p r r2 i h1 h2 s' q⟩
    · rw [← hl, all_range]
  · rw [decide_eq_false hn, Bool.and_false]
    obtain ⟨z, its, k, r, e⟩ := I.hok a _ ha
    obtain ⟨z2, its2, k2, r2, e2⟩ := I.hok c _ hc
    refine rc_list_len neg sb.room.units0 (items := its.toArray) (items2 := its2.toArray) ⟨_, e, rfl, _, rfl⟩ ⟨_, e2, rfl, _, rfl⟩ ?_ ⟨by simp, H, I, Ext.rfl'⟩
    rw [List.size_toArray, List.size_toArray, ← r.length, ← r2.length]
    simpa using hn
theorem rcB_tup (neg : Bool) (hD : MonF D) (h : EqB X n D) : RcB X (n + 1) neg (FTup X.K D) := by
  intro A pins s σ H x y u v b sb I rx ry d
  obtain ⟨a, c, xs, ys, bs, rfl, rfl, ha, hc, p, rfl⟩ := d
  cases rx
  cases ry
  obtain ⟨its, r, e, z⟩ := I.tuple ha
  obtain ⟨its2, r2, e2, z2⟩ := I.tuple hc
  refine rc_tup neg sb.room.units0 (fun i => bs.getD i false) (LoopB X pins σ H) e e2 (fun i h1 h2 s' q => turnB hD h sb p r r2 i h1 h2 s' q) (fun s' q => ⟨?_, q⟩) ⟨H, I, Ext.rfl'⟩
  have hl := p.len
  have e3 : min its.toArray.size its2.toArray.size = bs.length := by rw [List.size_toArray, List.size_toArray, ← r.length, ← r2.length, hl]
  rw [e3, all_range, List.size_toArray, List.size_toArray, ← r.length, ← r2.length]
  rfl
/-- instances of the class at C with the text's own == : R tells the outcome -/
def FIns (C : Addr) (R : Addr → Addr → Hp → Bool → Prop) : EqF := fun x y H b => ∃ a c dx dy fs gs, x = .ref a ∧ y = .ref c ∧ H a = some (.ins C dx fs) ∧ H c = some (.ins C dy gs) ∧ R a c H b
theorem mon_ins {C : Addr} {R : Addr → Addr → Hp → Bool → Prop} (hR : ∀ a c b H H', L2.Ext H H' → R a c H b → R a c H' b) : MonF (FIns C R) := fun x y b H H' e ⟨a, c, dx, dy, fs, gs, hx, hy, h1, h2, r⟩ => ⟨a, c, dx, dy, fs, gs, hx, hy, e _ _ h1, e _ _ h2, hR a c b H H' e r⟩
def spEqB (R : Addr → Addr → Hp → Bool → Prop) : Sp := fun vs H Q _ => ∃ a c b, vs = [.ref a, .ref c] ∧ R a c H b ∧ ∀ H', L2.Ext H H' → Q (.bl b) H'
theorem rcB_ins {CX : CXT} {C f : Addr} {fd : FuncData} {ps : List Str} {R : Addr → Addr → Hp → Bool → Prop} {E : XK} (F : FnOk X.prog X.w X.K X.mg X.base CX n f fd ps (spEqB R))
    (hs : PySem.W.findIn X.K (.ref C) "__eq__" = some (some (.ref f))) (hf : PySem.W.isFn X.K (.ref f) = true) (hb : Binds X.K fd ps []) (hx : Passes CX X E) : RcB X n false (FIns C R) := by
  intro A pins s σ H x y u v b sb I rx ry d
  obtain ⟨a, c, dx, dy, fs, gs, rfl, rfl, ha, hc, hr⟩ := d
  cases rx
  cases ry
  obtain ⟨mA, J, _⟩ := ins_get I.hok ha
  obtain ⟨mB, J', _⟩ := ins_get I.hok hc
  obtain ⟨od, J, _⟩ := J.look
  obtain ⟨od', J', _⟩ := J'.look
  obtain ⟨m, hF⟩ := I.fr
  rw [if_neg Bool.false_ne_true]
  refine PySem.W.cmp_K (op := .Eq) (tb := .ref C) sb.room.units0 hF I.ok.mod.kin J J'.type (by simp [PySem.W.notFirst]) hs hf ?_
  have hsp : spEqB R [.ref a, .ref c] H (fun v H' => v = .bl b ∧ L2.Ext H H') E := ⟨a, c, b, rfl, hr, fun H' e => ⟨rfl, e⟩⟩
  have e0 : Env0 X.prog X.w X.K X.mg X.base A X.stack s H := by
    have e := I.env0
    exact ⟨by rw [sb.fr]; exact e.frames, e.mod, e.bs, e.bsz, e.funs, e.frf, e.hok, e.bare⟩
  have hl := F.len _ _ _ _ hsp
  have r2 : Vals [V.ref a, V.ref c] [Value.ref a, Value.ref c] := .cons rfl (.cons rfl .nil)
  refine wpAny_call (codeAny_mono (F.run A X.stack s H ⟨[.ref a, .ref c], []⟩ [.ref a, .ref c] [.ref a, .ref c] _ E sb.room e0 (by
    have := hb s [.ref a, .ref c] I.kIn (by simpa using hl)
    simpa using this) r2 hsp) fun r s' hq => ?_)
  cases r with
  | error e => exact hx pins σ H s e s' I hq
  | ok fl =>
    cases fl with
    | ret w =>
      obtain ⟨z, H', I', rz, ez, ex⟩ := I.after hq
      subst ez
      cases rz
      exact ⟨by simp, H', I', ex⟩
    | next => exact False.elim hq
    | brk => exact False.elim hq
    | cont => exact False.elim hq
/-- within a builtin the same object is equal to itself: D must say so too -/
theorem RcB.eqB (h : RcB X n false D) (hr : ∀ x y H b, D x y H b → ∃ a c, x = .ref a ∧ y = .ref c) (hs : ∀ a H b, D (.ref a) (.ref a) H b → b = true) : EqB X n D := by
  intro A pins s σ H x y u v b sb I rx ry d
  obtain ⟨a, c, rfl, rfl⟩ := hr _ _ _ _ d
  cases rx
  cases ry
  by_cases hab : a = c
  · subst hab
    rw [hs _ _ _ d]
    exact SeqAt.EqAt.same (A := A) (s := s) (.ref a) X.prog X.w X.xe _ ⟨rfl, H, I, Ext.rfl'⟩
  · refine GQ.eqBool_refG hab (wpAny_mono (h A pins s σ H (.ref a) (.ref c) _ _ b sb I rfl rfl d) (fun r s' q => ?_) fun _ _ x => x)
    obtain ⟨hr', q⟩ := q
    exact ⟨b, by rw [hr']; simp, rfl, q⟩
/-- as an expression -/
def rCmpB (neg : Bool) (D : EqF) : R2 := fun x y H Q => ∃ b, D x y H b ∧ ∀ H', L2.Ext H H' → Q (.bl (b != neg)) H'
theorem op_eqB (h : RcB X n false D) (hr : Room n X.A) : OpR X (compareOp .Eq) (rCmpB false D) := by
  intro pins s σ H x y v u Q I rx ry hq
  obtain ⟨b, d, q⟩ := hq
  show wpAny (model X.prog X.w) X.A (richCompare .Eq v u) (EP X pins σ Q) X.xe s
  refine wpAny_mono (h X.A pins s σ H x y v u b ⟨hr, rfl⟩ I rx ry d) (fun r s' z => ?_) fun _ _ x => x
  obtain ⟨hr', H', I', e⟩ := z
  subst hr'
  exact ⟨.bl (b != false), H', I', rfl, q H' e⟩
theorem op_neB (h : RcB X n true D) (hr : Room n X.A) : OpR X (compareOp .NotEq) (rCmpB true D) := by
  intro pins s σ H x y v u Q I rx ry hq
  obtain ⟨b, d, q⟩ := hq
  show wpAny (model X.prog X.w) X.A (richCompare .NotEq v u) (EP X pins σ Q) X.xe s
  refine wpAny_mono (h X.A pins s σ H x y v u b ⟨hr, rfl⟩ I rx ry d) (fun r s' z => ?_) fun _ _ x => x
  obtain ⟨hr', H', I', e⟩ := z
  subst hr'
  exact ⟨.bl (b != true), H', I', rfl, q H' e⟩
end
end TPQ

namespace TP
open PySem PySem.Spec PyProof.Rows L2 TPQ
/-! ### == of things that hold instances -/
section
variable {X : Cx} {n m : Nat} {α β γ δ : Type} [DecidableEq α] [DecidableEq β] [DecidableEq γ] [DecidableEq δ] {τ : Ty α} {υ : Ty β} {φ : Ty γ} {ψ : Ty δ}
/-- the two are equal just when the things are -/
def FT (τ : Ty α) : EqF := fun x y H b => ∃ Z a c, Same Z H ∧ τ.r Z x a ∧ τ.r Z y c ∧ b = decide (a = c)
theorem mon_FT : MonF (FT τ) := fun _ _ _ _ _ e ⟨Z, a, c, s, r1, r2, h⟩ => ⟨Z, a, c, fun p o q => e _ _ (s p o q), r1, r2, h⟩
/-- a value stands for one thing only -/
def FnI (X : Cx) (τ : Ty α) : Prop := ∀ pins σ s Z H v x y, Inv X pins σ H s → Same Z H → τ.r Z v x → τ.r Z v y → x = y
theorem fn_int : FnI X yInt := fun _ _ _ _ _ _ _ _ _ _ h g => by cases h; cases g; rfl
theorem fn_bool : FnI X yBool := fun _ _ _ _ _ _ _ _ _ _ h g => by cases h; cases g; rfl
theorem fn_str : FnI X yStr := fun _ _ _ _ _ _ _ _ _ _ h g => by have := h.1.symm.trans g.1; cases this; rfl
theorem fn_non : FnI X yNon := fun _ _ _ _ _ _ _ _ _ _ _ _ => rfl
theorem fn_opt (F : FnI X τ) : FnI X (yOpt τ) := fun pins σ s Z H v x y I sz h g => by
  cases x with
  | none =>
    cases y with
    | none => rfl
    | some b => exact absurd (show v = .non from h) g.2
  | some a =>
    cases y with
    | none => exact absurd (show v = .non from g) h.2
    | some b => rw [F pins σ s Z H v a b I sz h.1 g.1]
theorem all_fn {R : V → α → Prop} (h : ∀ v x y, R v x → R v y → x = y) : ∀ {vs : List V} {xs ys : List α}, All R vs xs → All R vs ys → xs = ys
  | _, _, _, .nil, .nil => rfl
  | _, _, _, .cons a r, .cons b t => by rw [h _ _ _ a b, all_fn h r t]
theorem vals_inj : ∀ {us : List Value} {vs ws : List V}, Vals vs us → Vals ws us → vs = ws
  | _, _, _, .nil, .nil => rfl
  | _, _, _, .cons a r, .cons b t => by rw [RelV.inj a b, vals_inj r t]
theorem sqt_fn {pins : List (Addr × Obj)} {σ : L2.St} {s : Shared} {H : Hp} {a : Addr} {vs ws : List V} (I : Inv X pins σ H s) (h : SqT X.K H a vs) (g : SqT X.K H a ws) : vs = ws := by
  obtain ⟨its, r, e, _⟩ := I.tuple h
  obtain ⟨its2, r2, e2, _⟩ := I.tuple g
  obtain ⟨o, h1, _, n, d1⟩ := e
  obtain ⟨o2, h2, _, n2, d2⟩ := e2
  rw [h1] at h2
  cases Option.some.inj h2
  rw [d1] at d2
  have e3 : its.toArray = its2.toArray := by injection d2
  have e4 : its = its2 := by simpa using e3
  subst e4
  exact vals_inj r r2
theorem fn_list (F : FnI X τ) : FnI X (yList τ) := fun pins σ s Z H v x y I sz ⟨a, vs, e, h, t, _⟩ ⟨c, ws, e2, h2, t2, _⟩ => by
  cases e
  cases e2
  rw [h] at h2
  cases Option.some.inj h2
  exact all_fn (fun v x y => F pins σ s Z H v x y I sz) t t2
theorem fn_tup (F : FnI X τ) : FnI X (yTup X.K τ) := fun pins σ s Z H v x y I sz ⟨a, vs, e, h, t, _⟩ ⟨c, ws, e2, h2, t2, _⟩ => by
  cases e
  cases e2
  cases sqt_fn I (seqT_same sz h) (seqT_same sz h2)
  exact all_fn (fun v x y => F pins σ s Z H v x y I sz) t t2
theorem fn_p2 (F : FnI X τ) (G : FnI X υ) : FnI X (yP2 X.K τ υ) := fun pins σ s Z H v x y I sz ⟨a, v1, v2, e, h, h1, h2⟩ ⟨c, w1, w2, e2, g, g1, g2⟩ => by
  cases e
  cases e2
  cases sqt_fn I (seqT_same sz h) (seqT_same sz g)
  exact Prod.ext (F pins σ s Z H _ _ _ I sz h1 g1) (G pins σ s Z H _ _ _ I sz h2 g2)
theorem fn_p3 (F : FnI X τ) (G : FnI X υ) (K' : FnI X φ) : FnI X (yP3 X.K τ υ φ) := fun pins σ s Z H v x y I sz ⟨a, v1, v2, v3, e, h, h1, h2, h3⟩ ⟨c, w1, w2, w3, e2, g, g1, g2, g3⟩ => by
  cases e
  cases e2
  cases sqt_fn I (seqT_same sz h) (seqT_same sz g)
  exact Prod.ext (F pins σ s Z H _ _ _ I sz h1 g1) (Prod.ext (G pins σ s Z H _ _ _ I sz h2 g2) (K' pins σ s Z H _ _ _ I sz h3 g3))
theorem fn_p4 (F : FnI X τ) (G : FnI X υ) (K' : FnI X φ) (L : FnI X ψ) : FnI X (yP4 X.K τ υ φ ψ) := fun pins σ s Z H v x y I sz ⟨a, v1, v2, v3, v4, e, h, h1, h2, h3, h4⟩ ⟨c, w1, w2, w3, w4, e2, g, g1, g2, g3, g4⟩ => by
  cases e
  cases e2
  cases sqt_fn I (seqT_same sz h) (seqT_same sz g)
  exact Prod.ext (F pins σ s Z H _ _ _ I sz h1 g1) (Prod.ext (G pins σ s Z H _ _ _ I sz h2 g2) (Prod.ext (K' pins σ s Z H _ _ _ I sz h3 g3) (L pins σ s Z H _ _ _ I sz h4 g4)))
/-- within a builtin the same object is equal to itself -/
theorem eqT_of (F : FnI X τ) (hr : ∀ Z v x, τ.r Z v x → ∃ a, v = .ref a) (h : RcB X n false (FT τ)) : EqB X n (FT τ) := by
  intro A pins s σ H x y u v b sb I rx ry d
  obtain ⟨Z, a, c, sz, r1, r2, hb⟩ := id d
  obtain ⟨p, rfl⟩ := hr _ _ _ r1
  obtain ⟨q, rfl⟩ := hr _ _ _ r2
  cases rx
  cases ry
  by_cases hab : p = q
  · subst hab
    have e := F pins σ s Z H _ a c I sz r1 r2
    rw [hb, decide_eq_true e]
    exact SeqAt.EqAt.same (A := A) (s := s) (.ref p) X.prog X.w X.xe _ ⟨rfl, H, I, Ext.rfl'⟩
  · refine GQ.eqBool_refG hab (wpAny_mono (h A pins s σ H (.ref p) (.ref q) _ _ b sb I rfl rfl d) (fun r s' z => ?_) fun _ _ x => x)
    obtain ⟨hr', z⟩ := z
    exact ⟨b, by rw [hr']; simp, rfl, z⟩
theorem eqT_data {d : α → PyData} {k : Nat} (E : EqD X.K τ d k) (hk : k ≤ 60) : EqB X 0 (FT τ) := by
  intro A pins s σ H x y u v b sb I rx ry ⟨Z, a, c, sz, r1, r2, hb⟩
  obtain ⟨as, w1⟩ := Dp.reads I (d a) x u (E.dp _ _ _ _ sz r1) rx
  obtain ⟨bs, w2⟩ := Dp.reads I (d c) y v (E.dp _ _ _ _ sz r2) ry
  have h1 := E.dep a
  have hu := sb.room.un
  have q := SeqAt.eqAt_reads (d a) (d c) A s u v as bs w1 w2 (E.lay _ _ _ r1) (E.lay _ _ _ r2) (by omega)
  have e : PyData.eqv (d a) (d c) = b := by
    rw [hb]
    exact Bool.eq_iff_iff.mpr ((E.eqv a c).trans decide_eq_true_iff.symm)
  rw [e] at q
  exact q X.prog X.w X.xe _ ⟨rfl, H, I, Ext.rfl'⟩
/-- two lists of things, pair by pair -/
theorem prB {Z H : Hp} (sz : Same Z H) : ∀ {vs ws : List V} {xs ys : List α}, All (τ.r Z) vs xs → All (τ.r Z) ws ys → ∃ bs, PrB (FT τ) vs ws H bs ∧ decide (xs = ys) = (bs.all id && decide (vs.length = ws.length))
  | _, _, _, _, .nil, .nil => ⟨[], .nil (.inl rfl), by simp⟩
  | _, _, _, _, .nil, .cons _ _ => ⟨[], .nil (.inl rfl), by simp⟩
  | _, _, _, _, .cons _ _, .nil => ⟨[], .nil (.inr rfl), by simp⟩
  | v :: vs, w :: ws, x :: xs, y :: ys, .cons a r, .cons b t => by
    obtain ⟨bs, p, e⟩ := prB sz r t
    refine ⟨decide (x = y) :: bs, .cons ⟨Z, x, y, sz, a, b, rfl⟩ p, ?_⟩
    rw [List.all_cons, Bool.and_assoc]
    have e2 : decide (x :: xs = y :: ys) = (decide (x = y) && decide (xs = ys)) := by simp
    rw [e2, e]
    simp
theorem rcT_tup (neg : Bool) (E : EqB X n (FT τ)) : RcB X (n + 1) neg (FT (yTup X.K τ)) :=
  (rcB_tup neg mon_FT E).imp fun x y H b ⟨Z, xs, ys, sz, ⟨a, vs, e, h, t, _⟩, ⟨c, ws, e2, h2, t2, _⟩, hb⟩ => by
    obtain ⟨bs, p, q⟩ := prB sz t t2
    exact ⟨a, c, vs, ws, bs, e, e2, seqT_same sz h, seqT_same sz h2, p, hb.trans q⟩
theorem rcT_list (neg : Bool) (E : EqB X n (FT τ)) : RcB X (n + 1) neg (FT (yList τ)) :=
  (rcB_list neg mon_FT E).imp fun x y H b ⟨Z, xs, ys, sz, ⟨a, vs, e, h, t, _⟩, ⟨c, ws, e2, h2, t2, _⟩, hb⟩ => by
    obtain ⟨bs, p, q⟩ := prB sz t t2
    exact ⟨a, c, vs, ws, bs, e, e2, sz _ _ h, sz _ _ h2, p, hb.trans q⟩
/-- lists of one's own too -/
def FL (τ : Ty α) : EqF := fun x y H b => ∃ Z xs ys p q vs ws, Same Z H ∧ x = .ref p ∧ y = .ref q ∧ H p = some (.lst vs) ∧ H q = some (.lst ws) ∧ All (τ.r Z) vs xs ∧ All (τ.r Z) ws ys ∧ b = decide (xs = ys)
theorem rcT_own (neg : Bool) (E : EqB X n (FT τ)) : RcB X (n + 1) neg (FL τ) :=
  (rcB_list neg mon_FT E).imp fun x y H b ⟨Z, xs, ys, a, c, vs, ws, sz, e, e2, h, h2, t, t2, hb⟩ => by
    obtain ⟨bs, p, q⟩ := prB sz t t2
    exact ⟨a, c, vs, ws, bs, e, e2, h, h2, p, hb.trans q⟩
theorem eqT_tup (F : FnI X τ) (E : EqB X n (FT τ)) : EqB X (n + 1) (FT (yTup X.K τ)) := eqT_of (fn_tup F) (fun _ _ _ ⟨a, _, e, _⟩ => ⟨a, e⟩) (rcT_tup false E)
theorem eqT_list (F : FnI X τ) (E : EqB X n (FT τ)) : EqB X (n + 1) (FT (yList τ)) := eqT_of (fn_list F) (fun _ _ _ ⟨a, _, e, _⟩ => ⟨a, e⟩) (rcT_list false E)
def Or2 (D D' : EqF) : EqF := fun x y H b => D x y H b ∨ D' x y H b
theorem mon_or {D D' : EqF} (h : MonF D) (g : MonF D') : MonF (Or2 D D') := fun _ _ _ _ _ e d => d.imp (h _ _ _ _ _ e) (g _ _ _ _ _ e)
theorem eqB_or {D D' : EqF} (h : EqB X n D) (g : EqB X m D') : EqB X (max n m) (Or2 D D') := fun A pins s σ H x y u v b sb I rx ry d => by
  rcases d with d | d
  · exact h A pins s σ H x y u v b (sb.mono (Nat.le_max_left _ _)) I rx ry d
  · exact g A pins s σ H x y u v b (sb.mono (Nat.le_max_right _ _)) I rx ry d
theorem rcT_p2 (neg : Bool) (E : EqB X n (FT τ)) (F : EqB X m (FT υ)) : RcB X (max n m + 1) neg (FT (yP2 X.K τ υ)) :=
  (rcB_tup neg (mon_or mon_FT mon_FT) (eqB_or E F)).imp fun x y H b ⟨Z, x1, y1, sz, ⟨a, v1, v2, e, h, h1, h2⟩, ⟨c, w1, w2, e2, g, g1, g2⟩, hb⟩ =>
    ⟨a, c, _, _, [decide (x1.1 = y1.1), decide (x1.2 = y1.2)], e, e2, seqT_same sz h, seqT_same sz g, .cons (.inl ⟨Z, _, _, sz, h1, g1, rfl⟩) (.cons (.inr ⟨Z, _, _, sz, h2, g2, rfl⟩) (.nil (.inl rfl))), by rw [hb]; simp [Prod.ext_iff]⟩
theorem rcT_p3 {k : Nat} (neg : Bool) (E : EqB X n (FT τ)) (F : EqB X m (FT υ)) (G : EqB X k (FT φ)) : RcB X (max n (max m k) + 1) neg (FT (yP3 X.K τ υ φ)) :=
  (rcB_tup neg (mon_or mon_FT (mon_or mon_FT mon_FT)) (eqB_or E (eqB_or F G))).imp fun x y H b ⟨Z, x1, y1, sz, ⟨a, v1, v2, v3, e, h, h1, h2, h3⟩, ⟨c, w1, w2, w3, e2, g, g1, g2, g3⟩, hb⟩ =>
    ⟨a, c, _, _, [decide (x1.1 = y1.1), decide (x1.2.1 = y1.2.1), decide (x1.2.2 = y1.2.2)], e, e2, seqT_same sz h, seqT_same sz g, .cons (.inl ⟨Z, _, _, sz, h1, g1, rfl⟩) (.cons (.inr (.inl ⟨Z, _, _, sz, h2, g2, rfl⟩)) (.cons (.inr (.inr ⟨Z, _, _, sz, h3, g3, rfl⟩)) (.nil (.inl rfl)))), by rw [hb]; simp [Prod.ext_iff]⟩
theorem rcT_p4 {k l : Nat} (neg : Bool) (E : EqB X n (FT τ)) (F : EqB X m (FT υ)) (G : EqB X k (FT φ)) (L : EqB X l (FT ψ)) : RcB X (max n (max m (max k l)) + 1) neg (FT (yP4 X.K τ υ φ ψ)) :=
  (rcB_tup neg (mon_or mon_FT (mon_or mon_FT (mon_or mon_FT mon_FT))) (eqB_or E (eqB_or F (eqB_or G L)))).imp fun x y H b ⟨Z, x1, y1, sz, ⟨a, v1, v2, v3, v4, e, h, h1, h2, h3, h4⟩, ⟨c, w1, w2, w3, w4, e2, g, g1, g2, g3, g4⟩, hb⟩ =>
    ⟨a, c, _, _, [decide (x1.1 = y1.1), decide (x1.2.1 = y1.2.1), decide (x1.2.2.1 = y1.2.2.1), decide (x1.2.2.2 = y1.2.2.2)], e, e2, seqT_same sz h, seqT_same sz g, .cons (.inl ⟨Z, _, _, sz, h1, g1, rfl⟩) (.cons (.inr (.inl ⟨Z, _, _, sz, h2, g2, rfl⟩)) (.cons (.inr (.inr (.inl ⟨Z, _, _, sz, h3, g3, rfl⟩))) (.cons (.inr (.inr (.inr ⟨Z, _, _, sz, h4, g4, rfl⟩))) (.nil (.inl rfl))))), by rw [hb]; simp [Prod.ext_iff]⟩
theorem eqT_p2 (f : FnI X τ) (g : FnI X υ) (E : EqB X n (FT τ)) (F : EqB X m (FT υ)) : EqB X (max n m + 1) (FT (yP2 X.K τ υ)) := eqT_of (fn_p2 f g) (fun _ _ _ ⟨a, _, _, e, _⟩ => ⟨a, e⟩) (rcT_p2 false E F)
theorem eqT_p3 {k : Nat} (f : FnI X τ) (g : FnI X υ) (i : FnI X φ) (E : EqB X n (FT τ)) (F : EqB X m (FT υ)) (G : EqB X k (FT φ)) : EqB X (max n (max m k) + 1) (FT (yP3 X.K τ υ φ)) := eqT_of (fn_p3 f g i) (fun _ _ _ ⟨a, _, _, _, e, _⟩ => ⟨a, e⟩) (rcT_p3 false E F G)
theorem eqT_p4 {k l : Nat} (f : FnI X τ) (g : FnI X υ) (i : FnI X φ) (j : FnI X ψ) (E : EqB X n (FT τ)) (F : EqB X m (FT υ)) (G : EqB X k (FT φ)) (L : EqB X l (FT ψ)) : EqB X (max n (max m (max k l)) + 1) (FT (yP4 X.K τ υ φ ψ)) := eqT_of (fn_p4 f g i j) (fun _ _ _ ⟨a, _, _, _, _, e, _⟩ => ⟨a, e⟩) (rcT_p4 false E F G L)
/-- instances: by the text's own == -/
def FTr (τ : Ty α) : Addr → Addr → Hp → Bool → Prop := fun a c H b => FT τ (.ref a) (.ref c) H b
theorem rcT_obj {C f : Addr} {CX : CXT} {fd : FuncData} {ps : List Str} {sp : Sp} {E : XK} (ho : ∀ Z v x, τ.r Z v x → ∃ a dx fs, v = .ref a ∧ Z a = some (.ins C dx fs)) (F : FnOk X.prog X.w X.K X.mg X.base CX n f fd ps sp) (hsp : ∀ vs H Q E, spEqB (FTr τ) vs H Q E → sp vs H Q E)
    (M : Meth X.K C "__eq__" f) (hb : Binds X.K fd ps []) (hx : Passes CX X E) : RcB X n false (FT τ) :=
  (rcB_ins (R := FTr τ) (F.imp hsp) M.at_ M.fn hb hx).imp fun x y H b ⟨Z, a, c, sz, r1, r2, hb⟩ => by
    obtain ⟨p, dx, fs, e, h⟩ := ho _ _ _ r1
    obtain ⟨q, dy, gs, e2, h2⟩ := ho _ _ _ r2
    exact ⟨p, q, dx, dy, fs, gs, e, e2, sz _ _ h, sz _ _ h2, Z, a, c, sz, by rw [← e]; exact r1, by rw [← e2]; exact r2, hb⟩
end
section
variable {μ : Type} {M : Mu μ} {σ : L2.St} {Z H : Hp} {s s1 s2 : μ} {ta tb : TE} {K : PySem.W.Frag} {α : Type} [DecidableEq α] {τ : Ty α} {x y : α} {xs ys : List α} {neg : Bool}
theorem bneT {b : Bool} : (b != true) = !b := by cases b <;> rfl
theorem bneF {b : Bool} : (b != false) = b := by cases b <;> rfl
theorem step_ext {Z H H' : Hp} (sz : Same Z H) (e : L2.Ext H H') : Step [] Z H Z H' := ⟨Same.refl _, fun a o h => e _ _ (sz a o h), fun a o _ h => e _ _ h, fun _ _ h => h, fun a h q => by
  cases e1 : H a with
  | none => exact h e1
  | some o => rw [e _ _ e1] at q; cases q⟩
theorem ev_cmpO (ha : Ev M ta σ Z H s (ty τ x) s1) (hb : Ev M tb σ Z H s1 (ty τ y) s2) : Ev M (tOp (rCmpB neg (FT τ)) ta tb) σ Z H s (ty yBool (decide (x = y) != neg)) s2 :=
  ev_op ha hb fun Z H v w sz e1 e2 _ q => ⟨_, ⟨Z, x, y, sz, e1, e2, rfl⟩, fun H' e => q _ Z H' (step_ext sz e) rfl⟩
theorem ev_cmpL (ha : Ev M ta σ Z H s (li τ xs) s1) (hb : Ev M tb σ Z H s1 (li τ ys) s2) : Ev M (tOp (rCmpB neg (FL τ)) ta tb) σ Z H s (ty yBool (decide (xs = ys) != neg)) s2 :=
  ev_op ha hb fun Z H v w sz e1 e2 _ q => by
    obtain ⟨p, vs, rfl, g, t, _⟩ := rdl sz e1
    obtain ⟨p2, ws, rfl, g2, t2, _⟩ := rdl sz e2
    exact ⟨_, ⟨Z, xs, ys, p, p2, vs, ws, sz, rfl, rfl, g, g2, t, t2, rfl⟩, fun H' e => q _ Z H' (step_ext sz e) rfl⟩
end
end TP

namespace TP
open PySem PySem.Spec PyProof.Rows L2
/-! ### a field that nobody looks at -/
def yGhost : Ty Unit := ⟨fun _ _ _ => True, fun _ h => h⟩
theorem fn_ghost {X : Cx} : FnI X yGhost := fun _ _ _ _ _ _ _ _ _ _ _ _ => rfl
theorem ev_ghost {μ : Type} {M : Mu μ} {σ : L2.St} {Z H : Hp} {s s1 : μ} {ta : TE} {R : Rr M.fp} (h : Ev M ta σ Z H s R s1) : Ev M ta σ Z H s (ty yGhost ()) s1 := h.weak fun _ _ _ _ _ => trivial
end TP

namespace TP
open PySem PySem.Spec PyProof.Rows L2
/-! ### an instance of a class that has no __init__ -/
structure MkB (K : PySem.W.Frag) (C : Addr) : Prop where
  makes : PySem.W.makesIn K C = true
  init : PySem.W.findIn K (.ref C) "__init__" = some (some (.builtin "object.__init__"))
  kp : PySem.W.keepIn K (.ref C) = true
theorem run_oi {prog : Program} {w : World} {A : Around} {R : Result → Shared → Prop} {s : Shared} {a : Addr} (h : PySem.W.Looks (model prog w) s.heap (isInstance (.ref a) (.type "object")) true) (q : R (.ok (.ret .none)) s) : codeAny (model prog w) A (Code.call (.builtin "object.__init__") { pos := [.ref a] }) R s := by
  refine codeAny_call_builtin (b := Builtin.«object.__init__») PySem.W.oi_plain PySem.W.entry_oi ?_
  have ho : argsOk "object.__init__" { pos := .ref a :: [], kw := [] } := PySem.W.oi_args (.ref a)
  have c : ∀ {E : Value → Shared → Prop} {Q : Unit → Shared → Prop}, Q () s → wpAny (model prog w) (Around.in1 A) (checkBuiltinCall "object.__init__" { pos := .ref a :: [], kw := [] }) Q E s := fun q => @PySem.W.check_slot (model prog w) (Around.in1 A) _ s "object.__init__" "object" "__init__" (.ref a) [] [] _ PySem.W.oi_kind PySem.W.oi_split h ho q
  refine c ?_
  rw [PySem.W.oi_run]
  exact wpAny_pure q
theorem run_bare {X : Cx} {pins : List (Addr × Obj)} {σ : L2.St} {H : Hp} {s : Shared} {Q : VK} {C : Addr} (M : MkB X.K C) (I : L2.Inv X pins σ H s)
    (q : ∀ x dx, H x = none → H dx = none → dx ≠ x → Q (.ref x) (upd (upd H dx (.own x)) x (.ins C dx []))) : wpAny (model X.prog X.w) X.A (call (.ref C) []) (EP X pins σ Q) X.xe s := by
  refine wpAny_call (make_map0 I.kIn M.makes M.init (fun self => PySem.W.Looks.of_pure (PySem.W.oi_bind self)) ?_)
  have fx : H (s.heap.objs.size + 1) = none := I.hok.fresh (Nat.le_succ _)
  have fd : H s.heap.objs.size = none := I.hok.fresh (Nat.le_refl _)
  have I2 := I.made (C := C)
  have ne : s.heap.objs.size ≠ s.heap.objs.size + 1 := by omega
  have q2 := q (s.heap.objs.size + 1) s.heap.objs.size fx fd ne
  clear q
  refine run_oi ?_ ?_
  · have g : ((s.heap.push PySem.W.emptyDict).push (PySem.W.instObj C s.heap.objs.size)).get? (s.heap.objs.size + 1) = some (PySem.W.instObj C s.heap.objs.size) := by
      have e : (s.heap.push PySem.W.emptyDict).objs.size = s.heap.objs.size + 1 := Heap.size_push _ _
      exact Heap.get?_push_at e.symm (by rfl)
    refine PySem.W.Looks.andThen (a := .ref C) (PySem.W.Looks.andThen (PySem.W.Looks.ld g) PySem.W.Looks.now) ?_
    exact ((PySem.W.makes_of I.kIn M.makes).top).keeps fun b o e => Heap.get?_push_of_some _ (Heap.get?_push_of_some _ e)
  · exact ⟨rfl, .ref (s.heap.objs.size + 1), _, I2, rfl, q2⟩
def tBare (C : Addr) : TE := fun _ H Q => ∀ x dx, H x = none → H dx = none → dx ≠ x → Q (.ref x) (upd (upd H dx (.own x)) x (.ins C dx []))
theorem pe_bare {X : Cx} {C : Addr} {x : Str} {p pos : Pos} (M : MkB X.K C) (hg : Gl X x) (hm : X.mg x = some (.ref C)) (hd : (x == "__debug__") = false := by decide +kernel) : PE X (.Call (.Name x p) [] [] pos) (tBare C) := ⟨fun pins s σ H Q I q =>
  wpAny_Call_Name_kw (ld_glob I hg hm (PySem.W.callWith_K0 I.kIn M.kp (run_bare M I q)) hd)⟩
section
variable {μ : Type} {M : Mu μ} {σ : L2.St} {Z H : Hp} {s : μ} {K : PySem.W.Frag}
theorem ev_bare {α : Type} {τ : Ty α} {x : α} {C : Addr} (h : ∀ Z p dx, Z p = some (.ins C dx []) → τ.r Z (.ref p) x) : Ev M (tBare C) σ Z H s (ty τ x) s :=
  fun Z1 H1 a b c d Q q p dx hp hd ne => by
    have s1 := Step.own (o := .own p) c hd
    have hp1 : (upd H1 dx (.own p)) p = none := by rw [upd_ne ne.symm]; exact hp
    have s2 := Step.new (o := .ins C dx []) s1.s hp1
    have st : Step [] Z1 H1 (upd Z1 p (.ins C dx [])) (upd (upd H1 dx (.own p)) p (.ins C dx [])) := s1.trans s2
    exact q _ _ _ st.pure (M.pure st d) (h _ p dx upd_same)
theorem callS_ghost {α : Type} {τ : Ty α} {x : α} {sp : Sp} {E : XK} {Rs : Ra M.fp} {s2 : μ} {R : Rr M.fp} (c : CallS M sp E (rac (ty yGhost ()) Rs) s R s2) : CallS M sp E (rac (ty τ x) Rs) s R s2 :=
  fun Z H vs sz m ⟨v, r, e, _, t⟩ Q q => c Z H vs sz m ⟨v, r, e, trivial, t⟩ Q q
end
end TP

namespace TP
open PySem PySem.Spec PyProof.Rows L2
section
variable {ι ν : Type} {σ : L2.St} {Z H : Hp} {te : TE} {N : ι → Mu ν} {pr : ι → Addr} {x x' : ν} {α : Type} {τ : Ty α} {y : α} {C : Addr} {m : Str} {sp : Sp} {E : XK}
/-- C(..).m(): a thing that changes, made and let go -/
theorem ev_newmeth (e : EvM muN te σ Z H () N pr x ()) (O : ∀ i, MObj (N i) (pr i) C m) (cs : ∀ i, CallS (N i) sp E (rac (isRef (pr i)) ra0) x (ty τ y) x') : Ev muN (tMeth C m sp [] E te tNil) σ Z H () (ty τ y) () :=
  fun Z1 H1 a b c d Q q => e Z1 H1 a b c d _ fun i Z2 H2 st mm fr mi => by
    obtain ⟨dx, fs, hp, l⟩ := O i _ _ _ mi
    refine ⟨pr i, dx, fs, rfl, hp, l, ?_⟩
    exact cs i Z2 H2 _ st.s mi ⟨_, [], rfl, rfl, rfl⟩ Q fun v Z3 H3 st3 m3 rv => q v Z3 H3 (st.mine st3 fun a ha => .inr (fr a ha)) trivial rv
end
end TP

namespace K15
open PySem PySem.Spec PyProof.Rows L2
open C8 (tCut pss_cut)
/-! the text by places -/
def topS (i : Nat) : Stmt := PySem.Challenge.pw_surenear_k15_costs.main.body.getD i (.Pass ⟨0, 0, 0, 0⟩)
abbrev s_law_row : Stmt := (topS 69)
abbrev s_law_next : Stmt := (topS 70)
abbrev s_law_fields : Stmt := (topS 71)
abbrev s_law_schema : Stmt := (topS 72)
abbrev s_check_vectors : Stmt := (topS 54)
abbrev s_is_letter : Stmt := (topS 28)
abbrev s_is_digit : Stmt := (topS 29)
abbrev s_is_word : Stmt := (topS 30)
abbrev s_check_fields : Stmt := (topS 55)
abbrev s_Schema___init__ : Stmt := (inClass (topS 53) 0)
abbrev s_law_number : Stmt := (topS 73)
abbrev s_law_query : Stmt := (topS 78)
abbrev s_are_within : Stmt := (topS 56)
abbrev s_check_query : Stmt := (topS 62)
abbrev s_FilterReader_is_at : Stmt := (inClass (topS 43) 14)
abbrev s_FilterReader_sees : Stmt := (inClass (topS 43) 15)
abbrev s_FilterReader_skips : Stmt := (inClass (topS 43) 16)
abbrev s_differing : Stmt := (topS 47)
abbrev s_distance : Stmt := (topS 46)
abbrev s_inner : Stmt := (topS 45)
abbrev s_Schema_far : Stmt := (inClass (topS 53) 4)
abbrev s_Record_count_of : Stmt := (inClass (topS 66) 2)
abbrev s_Question_cost : Stmt := (inClass (topS 61) 2)
abbrev s_Rank___init__ : Stmt := (inClass (topS 2) 0)
abbrev s_Token___init__ : Stmt := (inClass (topS 33) 0)
abbrev s_word_at : Stmt := (topS 36)
abbrev s_token_at : Stmt := (topS 35)
abbrev s_read_tokens : Stmt := (topS 34)
abbrev s_FilterReader___init__ : Stmt := (inClass (topS 43) 0)
abbrev s_Query___init__ : Stmt := (inClass (topS 64) 0)
abbrev s_Record___init__ : Stmt := (inClass (topS 66) 0)
abbrev s_FilterReader_single : Stmt := (inClass (topS 43) 4)
abbrev s_FilterReader_all_of : Stmt := (inClass (topS 43) 3)
abbrev s_FilterReader_any_of : Stmt := (inClass (topS 43) 2)
abbrev s_FilterReader_whole : Stmt := (inClass (topS 43) 1)
abbrev s_read_filter : Stmt := (topS 42)
abbrev s_Question___init__ : Stmt := (inClass (topS 61) 0)
abbrev s_law_name : Stmt := (topS 77)
abbrev s_law_words : Stmt := (topS 76)
abbrev s_law_far : Stmt := (topS 79)
abbrev s_law_cost : Stmt := (topS 80)
abbrev s_law_value : Stmt := (topS 74)
abbrev s_law_pairs : Stmt := (topS 75)
abbrev s_Question_rank : Stmt := (inClass (topS 61) 3)
abbrev s_Rank___eq__ : Stmt := (inClass (topS 2) 3)
abbrev s_law : Stmt := (topS 81)
theorem sc_law_row : FnScope ["script", "k", "cell", "a", "b", "c"] ["script", "k"] (defScope s_law_row) := ⟨rfl, rfl, rfl, by decide +kernel, rfl, by decide +kernel, by decide +kernel⟩
theorem sc_law_next : FnScope ["state", "many", "drawn"] ["state", "many"] (defScope s_law_next) := ⟨rfl, rfl, rfl, by decide +kernel, rfl, by decide +kernel, by decide +kernel⟩
theorem sc_law_fields : FnScope ["state", "fields", "k", "name"] ["state"] (defScope s_law_fields) := ⟨rfl, rfl, rfl, by decide +kernel, rfl, by decide +kernel, by decide +kernel⟩
theorem sc_law_schema : FnScope ["state", "width", "measure"] ["state"] (defScope s_law_schema) := ⟨rfl, rfl, rfl, by decide +kernel, rfl, by decide +kernel, by decide +kernel⟩
theorem sc_check_vectors : FnScope ["size", "width", "measure"] ["size", "width", "measure"] (defScope s_check_vectors) := ⟨rfl, rfl, rfl, by decide +kernel, rfl, by decide +kernel, by decide +kernel⟩
theorem sc_is_letter : FnScope ["char"] ["char"] (defScope s_is_letter) := ⟨rfl, rfl, rfl, by decide +kernel, rfl, by decide +kernel, by decide +kernel⟩
theorem sc_is_digit : FnScope ["char"] ["char"] (defScope s_is_digit) := ⟨rfl, rfl, rfl, by decide +kernel, rfl, by decide +kernel, by decide +kernel⟩
theorem sc_is_word : FnScope ["text", "char"] ["text"] (defScope s_is_word) := ⟨rfl, rfl, rfl, by decide +kernel, rfl, by decide +kernel, by decide +kernel⟩
theorem sc_check_fields : FnScope ["fields", "name", "kind", "_"] ["fields"] (defScope s_check_fields) := ⟨rfl, rfl, rfl, by decide +kernel, rfl, by decide +kernel, by decide +kernel⟩
theorem sc_Schema___init__ : FnScope ["self", "size", "width", "measure", "fields", "pair"] ["self", "size", "width", "measure", "fields"] (defScope s_Schema___init__) := ⟨rfl, rfl, rfl, by decide +kernel, rfl, by decide +kernel, by decide +kernel⟩
theorem sc_law_number : FnScope ["state", "width", "low", "high", "spread"] ["state", "width"] (defScope s_law_number) := ⟨rfl, rfl, rfl, by decide +kernel, rfl, by decide +kernel, by decide +kernel⟩
theorem sc_law_query : FnScope ["state", "drawn", "vector", "k", "words", "word"] ["state", "drawn"] (defScope s_law_query) := ⟨rfl, rfl, rfl, by decide +kernel, rfl, by decide +kernel, by decide +kernel⟩
theorem sc_are_within : FnScope ["vector", "width", "low", "high", "number"] ["vector", "width"] (defScope s_are_within) := ⟨rfl, rfl, rfl, by decide +kernel, rfl, by decide +kernel, by decide +kernel⟩
theorem sc_check_query : FnScope ["schema", "query", "_", "weight", "word"] ["schema", "query"] (defScope s_check_query) := ⟨rfl, rfl, rfl, by decide +kernel, rfl, by decide +kernel, by decide +kernel⟩
theorem sc_FilterReader_is_at : FnScope ["self", "kind"] ["self", "kind"] (defScope s_FilterReader_is_at) := ⟨rfl, rfl, rfl, by decide +kernel, rfl, by decide +kernel, by decide +kernel⟩
theorem sc_FilterReader_sees : FnScope ["self", "kind", "value"] ["self", "kind", "value"] (defScope s_FilterReader_sees) := ⟨rfl, rfl, rfl, by decide +kernel, rfl, by decide +kernel, by decide +kernel⟩
theorem sc_FilterReader_skips : FnScope ["self", "kind", "value"] ["self", "kind", "value"] (defScope s_FilterReader_skips) := ⟨rfl, rfl, rfl, by decide +kernel, rfl, by decide +kernel, by decide +kernel⟩
theorem sc_differing : FnScope ["a", "b", "x", "y"] ["a", "b"] (defScope s_differing) := ⟨rfl, rfl, rfl, by decide +kernel, rfl, by decide +kernel, by decide +kernel⟩
theorem sc_distance : FnScope ["a", "b", "x", "y"] ["a", "b"] (defScope s_distance) := ⟨rfl, rfl, rfl, by decide +kernel, rfl, by decide +kernel, by decide +kernel⟩
theorem sc_inner : FnScope ["a", "b", "x", "y"] ["a", "b"] (defScope s_inner) := ⟨rfl, rfl, rfl, by decide +kernel, rfl, by decide +kernel, by decide +kernel⟩
theorem sc_Schema_far : FnScope ["self", "a", "b"] ["self", "a", "b"] (defScope s_Schema_far) := ⟨rfl, rfl, rfl, by decide +kernel, rfl, by decide +kernel, by decide +kernel⟩
theorem sc_Record_count_of : FnScope ["self", "word", "known", "count"] ["self", "word"] (defScope s_Record_count_of) := ⟨rfl, rfl, rfl, by decide +kernel, rfl, by decide +kernel, by decide +kernel⟩
theorem sc_Question_cost : FnScope ["self", "record", "far", "counted", "word", "weight"] ["self", "record"] (defScope s_Question_cost) := ⟨rfl, rfl, rfl, by decide +kernel, rfl, by decide +kernel, by decide +kernel⟩
theorem sc_Rank___init__ : FnScope ["self", "cost", "name"] ["self", "cost", "name"] (defScope s_Rank___init__) := ⟨rfl, rfl, rfl, by decide +kernel, rfl, by decide +kernel, by decide +kernel⟩
theorem sc_Token___init__ : FnScope ["self", "kind", "value", "place"] ["self", "kind", "value", "place"] (defScope s_Token___init__) := ⟨rfl, rfl, rfl, by decide +kernel, rfl, by decide +kernel, by decide +kernel⟩
theorem sc_word_at : FnScope ["text", "start", "end"] ["text", "start"] (defScope s_word_at) := ⟨rfl, rfl, rfl, by decide +kernel, rfl, by decide +kernel, by decide +kernel⟩
theorem sc_token_at : FnScope ["text", "start", "char", "sign"] ["text", "start"] (defScope s_token_at) := ⟨rfl, rfl, rfl, by decide +kernel, rfl, by decide +kernel, by decide +kernel⟩
theorem sc_read_tokens : FnScope ["text", "tokens", "at", "token"] ["text"] (defScope s_read_tokens) := ⟨rfl, rfl, rfl, by decide +kernel, rfl, by decide +kernel, by decide +kernel⟩
theorem sc_FilterReader___init__ : FnScope ["self", "schema", "text"] ["self", "schema", "text"] (defScope s_FilterReader___init__) := ⟨rfl, rfl, rfl, by decide +kernel, rfl, by decide +kernel, by decide +kernel⟩
theorem sc_Query___init__ : FnScope ["self", "vector", "near", "words", "text", "most", "pair"] ["self", "vector", "near", "words", "text", "most"] (defScope s_Query___init__) := ⟨rfl, rfl, rfl, by decide +kernel, rfl, by decide +kernel, by decide +kernel⟩
theorem sc_Record___init__ : FnScope ["self", "name", "vector", "fields", "words", "pair"] ["self", "name", "vector", "fields", "words"] (defScope s_Record___init__) := ⟨rfl, rfl, rfl, by decide +kernel, rfl, by decide +kernel, by decide +kernel⟩
theorem sc_FilterReader_single : FnScope ["self"] ["self"] (defScope s_FilterReader_single) := ⟨rfl, rfl, rfl, by decide +kernel, rfl, by decide +kernel, by decide +kernel⟩
theorem sc_FilterReader_all_of : FnScope ["self", "condition"] ["self"] (defScope s_FilterReader_all_of) := ⟨rfl, rfl, rfl, by decide +kernel, rfl, by decide +kernel, by decide +kernel⟩
theorem sc_FilterReader_any_of : FnScope ["self", "condition"] ["self"] (defScope s_FilterReader_any_of) := ⟨rfl, rfl, rfl, by decide +kernel, rfl, by decide +kernel, by decide +kernel⟩
theorem sc_FilterReader_whole : FnScope ["self", "condition"] ["self"] (defScope s_FilterReader_whole) := ⟨rfl, rfl, rfl, by decide +kernel, rfl, by decide +kernel, by decide +kernel⟩
theorem sc_read_filter : FnScope ["schema", "text"] ["schema", "text"] (defScope s_read_filter) := ⟨rfl, rfl, rfl, by decide +kernel, rfl, by decide +kernel, by decide +kernel⟩
theorem sc_Question___init__ : FnScope ["self", "schema", "query"] ["self", "schema", "query"] (defScope s_Question___init__) := ⟨rfl, rfl, rfl, by decide +kernel, rfl, by decide +kernel, by decide +kernel⟩
theorem sc_law_name : FnScope ["state"] ["state"] (defScope s_law_name) := ⟨rfl, rfl, rfl, by decide +kernel, rfl, by decide +kernel, by decide +kernel⟩
theorem sc_law_words : FnScope ["state", "words", "word"] ["state"] (defScope s_law_words) := ⟨rfl, rfl, rfl, by decide +kernel, rfl, by decide +kernel, by decide +kernel⟩
theorem sc_law_far : FnScope ["measure", "a", "b", "total", "k"] ["measure", "a", "b"] (defScope s_law_far) := ⟨rfl, rfl, rfl, by decide +kernel, rfl, by decide +kernel, by decide +kernel⟩
theorem sc_law_cost : FnScope ["measure", "query", "vector", "words", "total", "word", "weight", "counts", "other", "count"] ["measure", "query", "vector", "words"] (defScope s_law_cost) := ⟨rfl, rfl, rfl, by decide +kernel, rfl, by decide +kernel, by decide +kernel⟩
theorem sc_law_value : FnScope ["state", "kind"] ["state", "kind"] (defScope s_law_value) := ⟨rfl, rfl, rfl, by decide +kernel, rfl, by decide +kernel, by decide +kernel⟩
theorem sc_law_pairs : FnScope ["state", "fields", "pairs", "name", "kind"] ["state", "fields"] (defScope s_law_pairs) := ⟨rfl, rfl, rfl, by decide +kernel, rfl, by decide +kernel, by decide +kernel⟩
theorem sc_Question_rank : FnScope ["self", "record"] ["self", "record"] (defScope s_Question_rank) := ⟨rfl, rfl, rfl, by decide +kernel, rfl, by decide +kernel, by decide +kernel⟩
theorem sc_Rank___eq__ : FnScope ["self", "other"] ["self", "other"] (defScope s_Rank___eq__) := ⟨rfl, rfl, rfl, by decide +kernel, rfl, by decide +kernel, by decide +kernel⟩
theorem sc_law : FnScope ["script", "state", "drawn", "schema", "query", "question", "turn", "vector", "k", "name", "words", "record", "due", "actual"] ["script"] (defScope s_law) := ⟨rfl, rfl, rfl, by decide +kernel, rfl, by decide +kernel, by decide +kernel⟩
/-! the mathematics -/
open TP

theorem getD_lt {ns : List Int} {k : Nat} (h : k < ns.length) : ns[k]? = some (ns.getD k 0) := by
  rw [List.getD_eq_getElem?_getD, List.getElem?_eq_getElem h]; rfl
theorem getD_ge {ns : List Int} {k : Nat} (h : ¬ k < ns.length) : ns.getD k 0 = 0 := by
  rw [List.getD_eq_getElem?_getD, List.getElem?_eq_none (by omega)]; rfl
def row1 (ns : List Int) (k : Nat) : Int := if ns.getD k 0 < 0 then -2 * ns.getD k 0 - 1 else ns.getD k 0
def rowA (c : Int) (k : Nat) : Int := (c * 48271 + k * 69621 + 11) % 2147483647
def rowB (a c : Int) (k : Nat) : Int := (a * 16807 + c * 7 + k + 5) % 2147483629
def rowC (a b : Int) : Int := (b * 39373 + a * b + 3) % 2147483587
theorem rowZ_hi {ns : List Int} {k : Nat} (h : ¬ row1 ns k < 10 ^ 9) : rowZ ns k = row1 ns k := by
  unfold rowZ
  exact if_neg h
theorem rowZ_lo {ns : List Int} {k : Nat} (h : row1 ns k < 10 ^ 9) : rowZ ns k = rowA (row1 ns k) k + rowB (rowA (row1 ns k) k) (row1 ns k) k * 2147483647 + rowC (rowA (row1 ns k) k) (rowB (rowA (row1 ns k) k) (row1 ns k) k) * 2147483647 ^ 2 := by
  unfold rowZ
  exact if_pos h
theorem row1_nn (ns : List Int) (k : Nat) : 0 ≤ row1 ns k := by
  unfold row1
  by_cases h : ns.getD k 0 < 0
  · rw [if_pos h]; omega
  · rw [if_neg h]; omega
theorem rowZ_nn (ns : List Int) (k : Nat) : 0 ≤ rowZ ns k := by
  by_cases h : row1 ns k < 10 ^ 9
  · rw [rowZ_lo h]
    have a0 : 0 ≤ rowA (row1 ns k) k := Int.emod_nonneg _ (by decide)
    have b0 : 0 ≤ rowB (rowA (row1 ns k) k) (row1 ns k) k := Int.emod_nonneg _ (by decide)
    have d0 : 0 ≤ rowC (rowA (row1 ns k) k) (rowB (rowA (row1 ns k) k) (row1 ns k) k) := Int.emod_nonneg _ (by decide)
    have e2 : (2147483647 : Int) ^ 2 = 4611686014132420609 := by decide
    rw [e2]
    omega
  · rw [rowZ_hi h]; exact row1_nn ns k

inductive Exc
  | InvalidSchema
  | InvalidQuery
deriving DecidableEq

structure Schema where
  size : Int
  width : Str
  measure : Str
  fields : (List (Str × Str))
deriving DecidableEq
structure Query where
  vector : (List Int)
  near : Int
  words : (List (Str × Int))
  text : Str
  most : Int
deriving DecidableEq
inductive Val
  | i (x : Int)
  | s (x : Str)
  | b (x : Bool)
deriving DecidableEq
def Val.p_i : Val → Option Int
  | .i x => some x
  | _ => none
def Val.p_s : Val → Option Str
  | .s x => some x
  | _ => none
def Val.p_b : Val → Option Bool
  | .b x => some x
  | _ => none
def d_Val : Val → PyData
  | .i x => PyData.int x
  | .s x => PyData.str x
  | .b x => PyData.bool x
structure Record where
  name : Str
  vector : (List Int)
  fields : (List (Str × Val))
  words : (List (Str × Int))
deriving DecidableEq
inductive TV
  | i (x : Int)
  | s (x : Str)
deriving DecidableEq
def TV.p_i : TV → Option Int
  | .i x => some x
  | _ => none
def TV.p_s : TV → Option Str
  | .s x => some x
  | _ => none
def d_TV : TV → PyData
  | .i x => PyData.int x
  | .s x => PyData.str x
structure Token where
  kind : Str
  value : TV
  place : Int
deriving DecidableEq
structure Every where

deriving DecidableEq
structure FilterReader where
  schema : Schema
  tokens : (List Token)
  length : Int
  «at» : Int
  deep : Int
deriving DecidableEq
structure Question where
  schema : Schema
  query : Query
  condition : Every
deriving DecidableEq
structure Rank where
  cost : Int
  name : Str
deriving DecidableEq
def in_WIDTHS (z : Str) : Option Bool :=
  if z = "bit" then some true else
  if z = "small" then some true else
  if z = "wide" then some true else none
def get_WIDTHS (z : Str) : Option (Int × Int) :=
  if z = "bit" then some (0, 1) else
  if z = "small" then some (-128, 127) else
  if z = "wide" then some (-32768, 32767) else none

def L_law_fields_1 (x_9 : Int) (w_8 : ((List (Str × Str)) × DS)) : Option ((List (Str × Str)) × DS) :=
  (atI ([("a" : Str), ("b" : Str), ("note" : Str), ("_x" : Str)] : List Str) x_9).bind fun i_25 =>
  (atI ([("integer" : Str), ("text" : Str), ("flag" : Str)] : List Str) (nxV w_8.2 (3 : Int))).bind fun i_29 =>
  if w_8.1.length < 16777216 then
  some ((w_8.1 ++ [(i_25, i_29)]), (nxS w_8.2 (3 : Int))) else none
def F_law_fields (ds : DS) : Option ((List (Str × Str)) × DS) :=
  if RangeOk 0 (nxV ds (4 : Int)) then
  (forF L_law_fields_1 (rangeZ 0 (nxV ds (4 : Int))) (([] : List (Str × Str)), (nxS ds (4 : Int)))).bind fun w_18 =>
  some (w_18.1, w_18.2) else none
def F_law_schema (ds : DS) : Option ((Int × Str × Str × (List (Str × Str))) × DS) :=
  (atI ([("bit" : Str), ("small" : Str), ("wide" : Str)] : List Str) (nxV ds (3 : Int))).bind fun i_45 =>
  (atI ([("square" : Str), ("dot" : Str), ("bits" : Str)] : List Str) (nxV (nxS ds (3 : Int)) (3 : Int))).bind fun i_49 =>
  (if (decide (i_49 = ("bits" : Str))) = true then
  some ("bit" : Str)
  else
  some i_45 : Option Str).bind fun w_55 =>
  (F_law_fields (nxS (nxS (nxS ds (3 : Int)) (3 : Int)) (4 : Int))).bind fun r_60 =>
  some ((((1 : Int) + (nxV (nxS (nxS ds (3 : Int)) (3 : Int)) (4 : Int))), w_55, i_49, r_60.1), r_60.2)
def F_check_vectors (x_size : Int) (x_width : Str) (x_measure : Str) : Option (Res Exc Unit) :=
  if (decide (x_size < (1 : Int))) = true then
  some (Res.er Exc.InvalidSchema)
  else
  (in_WIDTHS x_width).bind fun b_63 =>
  if (!b_63) = true then
  some (Res.er Exc.InvalidSchema)
  else
  if (!decide (x_measure ∈ (["square", "dot", "bits"] : List Str))) = true then
  some (Res.er Exc.InvalidSchema)
  else
  if ((decide (x_measure = ("bits" : Str))) && (!decide (x_width = ("bit" : Str)))) = true then
  some (Res.er Exc.InvalidSchema)
  else
  some (Res.ok ())
def F_is_letter (x_char : Str) : Bool :=
  (((!decide (x_char.cps.toList < ("a" : Str).cps.toList)) && (!decide (("z" : Str).cps.toList < x_char.cps.toList))) || (((!decide (x_char.cps.toList < ("A" : Str).cps.toList)) && (!decide (("Z" : Str).cps.toList < x_char.cps.toList))) || (decide (x_char = ("_" : Str)))))
def F_is_digit (x_char : Str) : Bool :=
  ((!decide (x_char.cps.toList < ("0" : Str).cps.toList)) && (!decide (("9" : Str).cps.toList < x_char.cps.toList)))
def F_is_word (x_text : Str) : Option Bool :=
  (if (decide (x_text = ("" : Str))) = true then some true else ((atSi x_text (0 : Int)).bind fun i_72 =>
  some (!(F_is_letter i_72)))).bind fun b_75 =>
  if b_75 = true then
  some false
  else
  some (((x_text.cps.toList.map fun c => (⟨#[c]⟩ : Str)).map (fun (x_77 : Str) => ((F_is_letter x_77) || (F_is_digit x_77)))).all id)
def L_check_fields_1 (x_81 : (Str × Str)) (w_80 : Unit) : Option (Flow (Res Exc Unit) Unit) :=
  (F_is_word x_81.1).bind fun r_104 =>
  if ((!r_104) || (decide (x_81.1 ∈ (["every", "has", "in", "and", "or", "not", "true", "false"] : List Str)))) = true then
  some (Flow.ret (Res.er Exc.InvalidSchema))
  else
  if (!decide (x_81.2 ∈ (["integer", "text", "flag"] : List Str))) = true then
  some (Flow.ret (Res.er Exc.InvalidSchema))
  else
  some (Flow.go ())
def F_check_fields (x_fields : (List (Str × Str))) : Option (Res Exc Unit) :=
  (forS L_check_fields_1 x_fields ()).bind (Flow.thn (fun w_91 =>
  if (x_fields.map (fun (x_110 : (Str × Str)) => x_110.1)).length ≤ 1000 then
  if (decide (((uZ (x_fields.map (fun (x_110 : (Str × Str)) => x_110.1))).length : Int) < (x_fields.length : Int))) = true then
  some (Res.er Exc.InvalidSchema)
  else
  some (Res.ok ()) else none) (fun r => some r))
def F_Schema___init__ (x_size : Int) (x_width : Str) (x_measure : Str) (x_fields : (List (Str × Str))) : Option (Res Exc Schema) :=
  (F_check_vectors x_size x_width x_measure).bind (Res.thn (fun e => some (Res.er e)) fun r_134 =>
  (F_check_fields x_fields).bind (Res.thn (fun e => some (Res.er e)) fun r_138 =>
  some (Res.ok (⟨x_size, x_width, x_measure, x_fields⟩ : Schema))))
def F_law_number (ds : DS) (x_width : Str) : Option (Int × DS) :=
  (idxO ([("bit" : Str), ("small" : Str), ("wide" : Str)] : List Str) x_width).bind fun j_157 =>
  (atI ([(0 : Int), (-(128 : Int)), (-(32768 : Int))] : List Int) (j_157 : Int)).bind fun i_159 =>
  (idxO ([("bit" : Str), ("small" : Str), ("wide" : Str)] : List Str) x_width).bind fun j_163 =>
  (atI ([(1 : Int), (127 : Int), (32767 : Int)] : List Int) (j_163 : Int)).bind fun i_165 =>
  if (decide ((nxV ds (5 : Int)) = (0 : Int))) = true then
  (atI ([i_159, i_165] : List Int) (nxV (nxS ds (5 : Int)) (2 : Int))).bind fun i_170 =>
  some (i_170, (nxS (nxS ds (5 : Int)) (2 : Int)))
  else
  (atI ([(1 : Int), (5 : Int), (i_165 - i_159)] : List Int) (nxV (nxS ds (5 : Int)) (3 : Int))).bind fun i_172 =>
  (if (decide ((nxV (nxS (nxS ds (5 : Int)) (3 : Int)) (2 : Int)) = (0 : Int))) = true then (if NxOk (i_172 + (1 : Int)) then
  some ((min i_165 ((max i_159 (0 : Int)) + (nxV (nxS (nxS (nxS ds (5 : Int)) (3 : Int)) (2 : Int)) (i_172 + (1 : Int))))), (nxS (nxS (nxS (nxS ds (5 : Int)) (3 : Int)) (2 : Int)) (i_172 + (1 : Int)))) else none) else (if NxOk (i_172 + (1 : Int)) then
  some ((max i_159 (-(nxV (nxS (nxS (nxS ds (5 : Int)) (3 : Int)) (2 : Int)) (i_172 + (1 : Int))))), (nxS (nxS (nxS (nxS ds (5 : Int)) (3 : Int)) (2 : Int)) (i_172 + (1 : Int)))) else none)).bind fun w_179 =>
  some (w_179.1, w_179.2)
def L_law_query_1 (x_202 : Str) (w_201 : ((List (Str × Int)) × DS)) : Option ((List (Str × Int)) × DS) :=
  if (decide ((nxV w_201.2 (2 : Int)) = (0 : Int))) = true then
  if CMul (nxV (nxS w_201.2 (2 : Int)) (4 : Int)) (nxV (nxS (nxS w_201.2 (2 : Int)) (4 : Int)) (100 : Int)) then
  if w_201.1.length < 16777216 then
  some ((w_201.1 ++ [(x_202, ((nxV (nxS w_201.2 (2 : Int)) (4 : Int)) * (nxV (nxS (nxS w_201.2 (2 : Int)) (4 : Int)) (100 : Int))))]), (nxS (nxS (nxS w_201.2 (2 : Int)) (4 : Int)) (100 : Int))) else none else none
  else
  some (w_201.1, (nxS w_201.2 (2 : Int)))
def F_law_query (ds : DS) (x_drawn : (Int × Str × Str × (List (Str × Str)))) : Option (((List Int) × Int × (List (Str × Int))) × DS) :=
  if RangeOk 0 x_drawn.1 then
  (mapS (fun (x_188 : Int) (s_189 : DS) => ((F_law_number s_189 x_drawn.2.1).bind fun r_192 =>
  some (r_192.1, r_192.2) : Option (Int × DS))) (rangeZ 0 x_drawn.1) ds).bind fun l_194 =>
  (forF L_law_query_1 ([("cow" : Str), ("ant" : Str), ("emu" : Str)] : List Str) (([] : List (Str × Int)), l_194.2)).bind fun w_213 =>
  (atI ([(0 : Int), (1 : Int), (3 : Int), (1000 : Int)] : List Int) (nxV w_213.2 (4 : Int))).bind fun i_229 =>
  some ((l_194.1, i_229, w_213.1), (nxS w_213.2 (4 : Int))) else none
def F_are_within (x_vector : (List Int)) (x_width : Str) : Option Bool :=
  (get_WIDTHS x_width).bind fun i_242 =>
  some ((x_vector.map (fun (x_250 : Int) => ((decide (i_242.1 ≤ x_250)) && (decide (x_250 ≤ i_242.2))))).all id)
def F_check_query (x_schema : Schema) (x_query : Query) : Option (Res Exc Unit) :=
  (if (!decide ((x_query.vector.length : Int) = x_schema.size)) = true then some true else ((F_are_within x_query.vector x_schema.width).bind fun r_253 =>
  some (!r_253))).bind fun b_256 =>
  if b_256 = true then
  some (Res.er Exc.InvalidQuery)
  else
  if ((decide (x_query.near < (0 : Int))) || ((x_query.words.map (fun (x_258 : (Str × Int)) => (decide (x_258.2 < (0 : Int))))).any id)) = true then
  some (Res.er Exc.InvalidQuery)
  else
  if (decide (x_query.most < (1 : Int))) = true then
  some (Res.er Exc.InvalidQuery)
  else
  if (x_query.words.map (fun (x_268 : (Str × Int)) => x_268.1)).length ≤ 1000 then
  if (decide (((uZ (x_query.words.map (fun (x_268 : (Str × Int)) => x_268.1))).length : Int) < (x_query.words.length : Int))) = true then
  some (Res.er Exc.InvalidQuery)
  else
  some (Res.ok ()) else none
def F_FilterReader_is_at (ds : FilterReader) (x_kind : Str) : Option Bool :=
  (if (decide (ds.«at» < (ds.tokens.length : Int))) = true then ((atI ds.tokens ds.«at»).bind fun i_282 =>
  some (decide (i_282.kind = x_kind))) else some false).bind fun b_285 =>
  some b_285
def F_FilterReader_sees (ds : FilterReader) (x_kind : Str) (x_value : Str) : Option Bool :=
  (F_FilterReader_is_at ds x_kind).bind fun r_292 =>
  (if r_292 = true then ((atI ds.tokens ds.«at»).bind fun i_294 =>
  some (PyData.eqv (d_TV i_294.value) (PyData.str x_value))) else some false).bind fun b_297 =>
  some b_297
def F_FilterReader_skips (ds : FilterReader) (x_kind : Str) (x_value : Str) : Option (Bool × FilterReader) :=
  (F_FilterReader_sees ds x_kind x_value).bind fun r_301 =>
  if (!r_301) = true then
  some (false, ds)
  else
  some (true, { ds with «at» := ds.«at» + (1 : Int) })
def F_differing (x_a : (List Int)) (x_b : (List Int)) : Int :=
  ((((x_a.zip x_b).filter (fun (x_312 : (Int × Int)) => (!decide (x_312.1 = x_312.2)))).map (fun (x_312 : (Int × Int)) => true)).length : Int)
def F_distance (x_a : (List Int)) (x_b : (List Int)) : Option Int :=
  (mapO (fun (x_331 : (Int × Int)) => (if CMul (x_331.1 - x_331.2) (x_331.1 - x_331.2) then
  some ((x_331.1 - x_331.2) * (x_331.1 - x_331.2)) else none : Option Int)) (x_a.zip x_b)).bind fun l_340 =>
  some l_340.sum
def F_inner (x_a : (List Int)) (x_b : (List Int)) : Option Int :=
  (mapO (fun (x_353 : (Int × Int)) => (if CMul x_353.1 x_353.2 then
  some (x_353.1 * x_353.2) else none : Option Int)) (x_a.zip x_b)).bind fun l_362 =>
  some l_362.sum
def F_Schema_far (x_self : Schema) (x_a : (List Int)) (x_b : (List Int)) : Option Int :=
  if (decide (x_self.measure = ("square" : Str))) = true then
  (F_distance x_a x_b).bind fun r_368 =>
  some r_368
  else
  if (decide (x_self.measure = ("dot" : Str))) = true then
  (F_inner x_a x_b).bind fun r_371 =>
  some (-r_371)
  else
  some (F_differing x_a x_b)
def L_Record_count_of_1 (x_word : Str) (x_374 : (Str × Int)) (w_373 : Unit) : Option (Flow Int Unit) :=
  if (decide (x_374.1 = x_word)) = true then
  some (Flow.ret x_374.2)
  else
  some (Flow.go ())
def F_Record_count_of (x_self : Record) (x_word : Str) : Option Int :=
  (forS (L_Record_count_of_1 x_word) x_self.words ()).bind (Flow.thn (fun w_383 =>
  some (0 : Int)) (fun r => some r))
def F_Question_cost (x_self : Question) (x_record : Record) : Option Int :=
  (F_Schema_far x_self.schema x_record.vector x_self.query.vector).bind fun r_416 =>
  (mapO (fun (x_420 : (Str × Int)) => ((F_Record_count_of x_record x_420.1).bind fun r_428 =>
  if CMul x_420.2 (min (15 : Int) r_428) then
  some (x_420.2 * (min (15 : Int) r_428)) else none : Option Int)) x_self.query.words).bind fun l_431 =>
  if CMul x_self.query.near r_416 then
  some ((x_self.query.near * r_416) - l_431.sum) else none
def F_Rank___init__ (x_cost : Int) (x_name : Str) : Rank :=
  (⟨x_cost, x_name⟩ : Rank)
def F_Token___init__ (x_kind : Str) (x_value : TV) (x_place : Int) : Token :=
  (⟨x_kind, x_value, x_place⟩ : Token)
def L_word_at_1 (x_text : Str) (w_450 : Int) : Option (Flow (Token × Int) Int) :=
  (if (decide (w_450 < (x_text.length : Int))) = true then ((atSi x_text w_450).bind fun i_457 =>
  (if (F_is_letter i_457) = true then some true else ((atSi x_text w_450).bind fun i_459 =>
  some (F_is_digit i_459))).bind fun b_462 =>
  some b_462) else some false).bind fun b_464 =>
  if b_464 = true then
  some (Flow.go (w_450 + (1 : Int)))
  else some (Flow.brk w_450)
def F_word_at (x_text : Str) (x_start : Int) : Option (Token × Int) :=
  (whileS (L_word_at_1 x_text) ((x_text.length + 1)) x_start).bind (Flow.thn (fun w_450 =>
  some ((F_Token___init__ ("word" : Str) (TV.s (cutS x_text (some x_start) (some w_450))) x_start), w_450)) (fun r => some r))
def F_token_at (x_text : Str) (x_start : Int) : Option (Token × Int) :=
  (atSi x_text x_start).bind fun i_476 =>
  if (F_is_letter i_476) = true then
  (F_word_at x_text x_start).bind fun r_481 =>
  some r_481
  else
  none
def L_read_tokens_1 (x_text : Str) (w_493 : ((List Token) × Int)) : Option (Flow (List Token) ((List Token) × Int)) :=
  if (decide (w_493.2 < (x_text.length : Int))) = true then
  (atSi x_text w_493.2).bind fun i_503 =>
  if (decide (i_503 = (" " : Str))) = true then
  some (Flow.go (w_493.1, (w_493.2 + (1 : Int))))
  else
  (F_token_at x_text w_493.2).bind fun r_508 =>
  if w_493.1.length < 16777216 then
  some (Flow.go ((w_493.1 ++ [r_508.1]), r_508.2)) else none
  else some (Flow.brk (w_493.1, w_493.2))
def F_read_tokens (x_text : Str) : Option (List Token) :=
  (whileS (L_read_tokens_1 x_text) ((x_text.length + 1)) (([] : List Token), (0 : Int))).bind (Flow.thn (fun w_493 =>
  some w_493.1) (fun r => some r))
def F_FilterReader___init__ (x_schema : Schema) (x_text : Str) : Option FilterReader :=
  (F_read_tokens x_text).bind fun r_534 =>
  some (⟨x_schema, r_534, (x_text.length : Int), (0 : Int), (0 : Int)⟩ : FilterReader)
def F_Query___init__ (x_vector : (List Int)) (x_near : Int) (x_words : (List (Str × Int))) (x_text : Str) (x_most : Int) : Query :=
  (⟨x_vector, x_near, x_words, x_text, x_most⟩ : Query)
def F_Record___init__ (x_name : Str) (x_vector : (List Int)) (x_fields : (List (Str × Val))) (x_words : (List (Str × Int))) : Record :=
  (⟨x_name, x_vector, x_fields, x_words⟩ : Record)
def F_FilterReader_single (ds : FilterReader) : Option (Every × FilterReader) :=
  (F_FilterReader_sees ds ("word" : Str) ("not" : Str)).bind fun r_583 =>
  if r_583 = true then
  none
  else
  (F_FilterReader_sees ds ("sign" : Str) ("(" : Str)).bind fun r_586 =>
  if r_586 = true then
  none
  else
  (F_FilterReader_skips ds ("word" : Str) ("every" : Str)).bind fun r_589 =>
  if r_589.1 = true then
  some ((⟨⟩ : Every), r_589.2)
  else
  (F_FilterReader_skips r_589.2 ("word" : Str) ("has" : Str)).bind fun r_592 =>
  if r_592.1 = true then
  none
  else
  none
def L_FilterReader_all_of_1 (w_603 : (Every × FilterReader)) : Option (Flow (Every × FilterReader) (Every × FilterReader)) :=
  (F_FilterReader_skips w_603.2 ("word" : Str) ("and" : Str)).bind fun r_610 =>
  if r_610.1 = true then
  none
  else some (Flow.brk (w_603.1, r_610.2))
def F_FilterReader_all_of (ds : FilterReader) : Option (Every × FilterReader) :=
  (F_FilterReader_single ds).bind fun r_599 =>
  (whileS L_FilterReader_all_of_1 (2) (r_599.1, r_599.2)).bind (Flow.thn (fun w_613 =>
  some (w_613.1, w_613.2)) (fun r => some r))
def L_FilterReader_any_of_1 (w_626 : (Every × FilterReader)) : Option (Flow (Every × FilterReader) (Every × FilterReader)) :=
  (F_FilterReader_skips w_626.2 ("word" : Str) ("or" : Str)).bind fun r_633 =>
  if r_633.1 = true then
  none
  else some (Flow.brk (w_626.1, r_633.2))
def F_FilterReader_any_of (ds : FilterReader) : Option (Every × FilterReader) :=
  (F_FilterReader_all_of ds).bind fun r_622 =>
  (whileS L_FilterReader_any_of_1 (2) (r_622.1, r_622.2)).bind (Flow.thn (fun w_636 =>
  some (w_636.1, w_636.2)) (fun r => some r))
def F_FilterReader_whole (ds : FilterReader) : Option (Every × FilterReader) :=
  (F_FilterReader_any_of ds).bind fun r_646 =>
  if (decide (r_646.2.«at» < (r_646.2.tokens.length : Int))) = true then
  none
  else
  some (r_646.1, r_646.2)
def F_read_filter (x_schema : Schema) (x_text : Str) : Option Every :=
  (F_FilterReader___init__ x_schema x_text).bind fun r_655 =>
  (F_FilterReader_whole r_655).bind fun r_657 =>
  some r_657.1
def F_Question___init__ (x_schema : Schema) (x_query : Query) : Option (Res Exc Question) :=
  (F_check_query x_schema x_query).bind (Res.thn (fun e => some (Res.er e)) fun r_659 =>
  (F_read_filter x_schema x_query.text).bind fun r_667 =>
  some (Res.ok (⟨x_schema, x_query, r_667⟩ : Question)))
def F_law_name (ds : DS) : Option (Str × DS) :=
  (atI ([("a" : Str), ("b" : Str), ("ba" : Str), ("c" : Str), ("k9" : Str), ("z z" : Str)] : List Str) (nxV ds (6 : Int))).bind fun i_673 =>
  some (i_673, (nxS ds (6 : Int)))
def L_law_words_1 (x_682 : Str) (w_681 : ((List (Str × Int)) × DS)) : Option ((List (Str × Int)) × DS) :=
  if (decide ((nxV w_681.2 (2 : Int)) = (0 : Int))) = true then
  if CMul (nxV (nxS w_681.2 (2 : Int)) (3 : Int)) (nxV (nxS (nxS w_681.2 (2 : Int)) (3 : Int)) (20 : Int)) then
  if w_681.1.length < 16777216 then
  some ((w_681.1 ++ [(x_682, ((1 : Int) + ((nxV (nxS w_681.2 (2 : Int)) (3 : Int)) * (nxV (nxS (nxS w_681.2 (2 : Int)) (3 : Int)) (20 : Int)))))]), (nxS (nxS (nxS w_681.2 (2 : Int)) (3 : Int)) (20 : Int))) else none else none
  else
  some (w_681.1, (nxS w_681.2 (2 : Int)))
def F_law_words (ds : DS) : Option ((List (Str × Int)) × DS) :=
  (forF L_law_words_1 ([("ant" : Str), ("bee" : Str), ("cow" : Str), ("dog" : Str)] : List Str) (([] : List (Str × Int)), ds)).bind fun w_690 =>
  some (w_690.1, w_690.2)
def L_law_far_1 (x_measure : Str) (x_a : (List Int)) (x_b : (List Int)) (x_709 : Int) (w_708 : Int) : Option Int :=
  (if (decide (x_measure = ("square" : Str))) = true then
  (atI x_a x_709).bind fun i_738 =>
  (atI x_b x_709).bind fun i_740 =>
  (atI x_a x_709).bind fun i_742 =>
  (atI x_b x_709).bind fun i_744 =>
  if CMul (i_738 - i_740) (i_742 - i_744) then
  (some (w_708 + ((i_738 - i_740) * (i_742 - i_744)))).bind fun x_total_747 =>
  some x_total_747 else none
  else
  some w_708 : Option Int).bind fun w_732 =>
  (if (decide (x_measure = ("dot" : Str))) = true then
  (atI x_a x_709).bind fun i_759 =>
  (atI x_b x_709).bind fun i_761 =>
  if CMul i_759 i_761 then
  (some (w_732 - (i_759 * i_761))).bind fun x_total_764 =>
  some x_total_764 else none
  else
  some w_732 : Option Int).bind fun w_753 =>
  (if (decide (x_measure = ("bits" : Str))) = true then ((atI x_a x_709).bind fun i_768 =>
  (atI x_b x_709).bind fun i_770 =>
  some (!decide (i_768 = i_770))) else some false).bind fun b_773 =>
  if b_773 = true then
  some (w_753 + (1 : Int))
  else
  some w_753
def F_law_far (x_measure : Str) (x_a : (List Int)) (x_b : (List Int)) : Option Int :=
  if RangeOk 0 (x_a.length : Int) then
  (forF (L_law_far_1 x_measure x_a x_b) (rangeZ 0 (x_a.length : Int)) (0 : Int)).bind fun w_720 =>
  some w_720 else none
def L_law_cost_1 (x_words : (List (Str × Int))) (x_790 : (Str × Int)) (w_789 : Int) : Option Int :=
  (some ((x_words.filter (fun (x_827 : (Str × Int)) => (decide (x_827.1 = x_790.1)))).map (fun (x_827 : (Str × Int)) => x_827.2))).bind fun x_counts_835 =>
  if (decide ((0 : Int) < (x_counts_835.length : Int))) = true then
  (atI x_counts_835 (0 : Int)).bind fun i_840 =>
  if CMul x_790.2 (min (15 : Int) i_840) then
  (some (w_789 - (x_790.2 * (min (15 : Int) i_840)))).bind fun x_total_843 =>
  some x_total_843 else none
  else
  some w_789
def F_law_cost (x_measure : Str) (x_query : ((List Int) × Int × (List (Str × Int)))) (x_vector : (List Int)) (x_words : (List (Str × Int))) : Option Int :=
  (F_law_far x_measure x_query.1 x_vector).bind fun r_784 =>
  if CMul x_query.2.1 r_784 then
  (forF (L_law_cost_1 x_words) x_query.2.2 (x_query.2.1 * r_784)).bind fun w_807 =>
  some w_807 else none
def F_law_value (ds : DS) (x_kind : Str) : Option (Val × DS) :=
  if (decide (x_kind = ("flag" : Str))) = true then
  some ((Val.b (decide ((nxV ds (2 : Int)) = (0 : Int)))), (nxS ds (2 : Int)))
  else
  if (decide (x_kind = ("text" : Str))) = true then
  (atI ([(Val.s ("" : Str)), (Val.s ("red" : Str)), (Val.s ("blue" : Str)), (Val.s ("x y" : Str)), (Val.s ("a\\b" : Str))] : List Val) (nxV ds (5 : Int))).bind fun i_855 =>
  some (i_855, (nxS ds (5 : Int)))
  else
  (atI ([(0 : Int), (1 : Int), (-(1 : Int)), (7 : Int), ((10 : Int) ^ (12 : Int).toNat)] : List Int) (nxV ds (5 : Int))).bind fun i_857 =>
  if CMul i_857 ((1 : Int) + (nxV (nxS ds (5 : Int)) (2 : Int))) then
  some ((Val.i (i_857 * ((1 : Int) + (nxV (nxS ds (5 : Int)) (2 : Int))))), (nxS (nxS ds (5 : Int)) (2 : Int))) else none
def L_law_pairs_1 (x_867 : (Str × Str)) (w_866 : ((List (Str × Val)) × DS)) : Option ((List (Str × Val)) × DS) :=
  if (decide ((0 : Int) < (nxV w_866.2 (3 : Int)))) = true then
  (F_law_value (nxS w_866.2 (3 : Int)) x_867.2).bind fun r_891 =>
  if w_866.1.length < 16777216 then
  some ((w_866.1 ++ [(x_867.1, r_891.1)]), r_891.2) else none
  else
  some (w_866.1, (nxS w_866.2 (3 : Int)))
def F_law_pairs (ds : DS) (x_fields : (List (Str × Str))) : Option ((List (Str × Val)) × DS) :=
  (forF L_law_pairs_1 x_fields (([] : List (Str × Val)), ds)).bind fun w_877 =>
  some (w_877.1, w_877.2)
def F_Question_rank (x_self : Question) (x_record : Record) : Option Rank :=
  (F_Question_cost x_self x_record).bind fun r_900 =>
  some (F_Rank___init__ r_900 x_record.name)
def F_Rank___eq__ (x_self : Rank) (x_other : Rank) : Bool :=
  (true && ((decide (x_self.cost = x_other.cost)) && (decide (x_self.name = x_other.name))))
def L_law_1 (r_902 : ((Int × Str × Str × (List (Str × Str))) × DS)) (r_910 : (((List Int) × Int × (List (Str × Int))) × DS)) (r_914 : Question) (x_919 : Int) (w_918 : DS) : Option (Flow Bool DS) :=
  if RangeOk 0 r_902.1.1 then
  (mapS (fun (x_956 : Int) (s_957 : DS) => ((F_law_number s_957 r_902.1.2.1).bind fun r_960 =>
  some (r_960.1, r_960.2) : Option (Int × DS))) (rangeZ 0 r_902.1.1) w_918).bind fun l_962 =>
  (F_law_name l_962.2).bind fun r_966 =>
  (F_law_words r_966.2).bind fun r_970 =>
  (F_law_pairs r_970.2 r_902.1.2.2.2).bind fun r_974 =>
  (some (F_Record___init__ r_966.1 l_962.1 r_974.1 r_970.1)).bind fun x_record_976 =>
  (F_law_cost r_902.1.2.2.1 r_910.1 l_962.1 r_970.1).bind fun r_980 =>
  (F_Question_cost r_914 x_record_976).bind fun r_984 =>
  if ((!true) || (false || (!decide (r_984 = r_980)))) = true then
  some (Flow.ret false)
  else
  (F_Question_rank r_914 x_record_976).bind fun r_989 =>
  if (!(F_Rank___eq__ r_989 (F_Rank___init__ r_980 r_966.1))) = true then
  some (Flow.ret false)
  else
  some (Flow.go r_974.2) else none
def F_law (ns : List Int) : Option Bool :=
  (F_law_schema (DS.mk ns 0 0)).bind fun r_902 =>
  (Res.val (F_Schema___init__ r_902.1.1 r_902.1.2.1 r_902.1.2.2.1 r_902.1.2.2.2)).bind fun r_906 =>
  (F_law_query r_902.2 r_902.1).bind fun r_910 =>
  (Res.val (F_Question___init__ r_906 (F_Query___init__ r_910.1.1 r_910.1.2.1 r_910.1.2.2 ("every" : Str) (3 : Int)))).bind fun r_914 =>
  (forS (L_law_1 r_902 r_910 r_914) (rangeZ 0 (4 : Int)) r_910.2).bind (Flow.thn (fun w_938 =>
  some true) (fun r => some r))
-- MATH BEGINS
/-! schemas that are drawn, the filter «every» -/
theorem rok {ε α γ : Type} {g : ε → Option γ} {k : α → Option γ} {a : α} : Res.thn g k (.ok a) = k a := by simp only [Res.thn]
theorem rer {ε α γ : Type} {g : ε → Option γ} {k : α → Option γ} {e : ε} : Res.thn g k (.er e) = g e := by simp only [Res.thn]
theorem cmul_of {b i j : Int} (hb : b < 2 ^ 60) (h : -b ≤ i ∧ i ≤ b) : CMul i j := Or.inl ⟨by omega, by omega⟩
def NAMES : List Str := ["a", "b", "note", "_x"]
def KINDS : List Str := ["integer", "text", "flag"]
def WID : List Str := ["bit", "small", "wide"]
def MEA : List Str := ["square", "dot", "bits"]
structure FOk (fs : List (Str × Str)) : Prop where
  len : fs.length ≤ 3
  nm : fs.map (·.1) = NAMES.take fs.length
  kd : ∀ x ∈ fs, x.2 ∈ KINDS
theorem fields_ex (s : DS) : ∃ fs s', F_law_fields s = some (fs, s') ∧ FOk fs := by
  unfold F_law_fields
  have b0 := nx_ge s (m := 4) (by decide)
  have b1 := nx_lt s (m := 4) (by decide)
  rw [if_pos (rangeOk_of (by omega) (by omega) (by omega) (by omega))]
  obtain ⟨b, e, i1, i2, i3⟩ := forF_rng (f := L_law_fields_1) (m := nxV s 4) (b := (([] : List (Str × Str)), nxS s 4)) (fun n b => b.1.length = n ∧ b.1.map (·.1) = NAMES.take n ∧ ∀ x ∈ b.1, x.2 ∈ KINDS) ⟨rfl, rfl, fun _ h => nomatch h⟩ (fun n b hn ⟨h1, h2, h3⟩ => by
    have hn3 : n ≤ 2 := by omega
    unfold L_law_fields_1
    have hN : n < NAMES.length := Nat.lt_of_le_of_lt hn3 (by decide)
    have e1 : L2.atI ([("a" : Str), ("b" : Str), ("note" : Str), ("_x" : Str)] : List Str) (n : Int) = some NAMES[n] := TP.atI_nat (List.getElem?_eq_getElem hN)
    rw [e1, bsome]
    obtain ⟨k, e2, hk⟩ := atI_lit (xs := [("integer" : Str), ("text" : Str), ("flag" : Str)]) (nx_ge b.2 (m := 3) (by decide)) (nx_lt b.2 (m := 3) (by decide))
    rw [e2, bsome, if_pos (by omega)]
    refine ⟨_, rfl, by rw [List.length_append, h1]; rfl, ?_, fun x hx => ?_⟩
    · show (b.1 ++ [(NAMES[n], k)]).map (·.1) = _
      rw [List.map_append, h2, List.take_add_one, List.getElem?_eq_getElem hN]
      rfl
    · rcases List.mem_append.mp hx with hx | hx
      · exact h3 x hx
      · rw [List.mem_singleton.mp hx]; exact hk)
  rw [e, bsome]
  have l : b.1.length = (nxV s 4).toNat := i1
  exact ⟨b.1, b.2, rfl, by omega, by rw [l]; exact i2, i3⟩
theorem names_ok : ∀ n ∈ NAMES, F_is_word n = some true ∧ n ∉ (["every", "has", "in", "and", "or", "not", "true", "false"] : List Str) := by decide +kernel
theorem check_fields_eq {fs : List (Str × Str)} (h : FOk fs) : F_check_fields fs = some (.ok ()) := by
  unfold F_check_fields
  obtain ⟨_, e, _⟩ := forS_mem (f := L_check_fields_1) (xs := fs) (b := ()) (I := fun _ => True) trivial (fun x hx b _ => by
    have hn : x.1 ∈ NAMES := by
      have h1 : x.1 ∈ fs.map (·.1) := List.mem_map_of_mem hx
      rw [h.nm] at h1
      exact List.mem_of_mem_take h1
    obtain ⟨e1, e2⟩ := names_ok _ hn
    have hk : x.2 ∈ (["integer", "text", "flag"] : List Str) := h.kd x hx
    unfold L_check_fields_1
    rw [e1, bsome, if_neg (by rw [decide_eq_false e2]; decide), if_neg (by rw [decide_eq_true hk]; decide)]
    exact ⟨(), rfl, trivial⟩)
  rw [e, bsome, thn_go]
  have l := h.len
  have nd : (fs.map (·.1)).Nodup := by
    rw [h.nm]
    exact (show NAMES.Nodup by decide +kernel).sublist (List.take_sublist _ _)
  have e2 := (uZ_nodup _).mpr nd
  rw [List.length_map] at e2
  rw [if_pos (by rw [List.length_map]; omega), if_neg (by rw [e2]; simp)]
theorem widths_in : ∀ w ∈ WID, in_WIDTHS w = some true := by decide +kernel
theorem check_vectors_eq {n : Int} {w m : Str} (h : 1 ≤ n) (hw : w ∈ WID) (hm : m ∈ MEA) (hb : m = "bits" → w = "bit") : F_check_vectors n w m = some (.ok ()) := by
  unfold F_check_vectors
  have hm' : m ∈ (["square", "dot", "bits"] : List Str) := hm
  rw [if_neg (by simp; omega), widths_in w hw, bsome, if_neg (by decide), if_neg (by rw [decide_eq_true hm']; decide), if_neg ?_]
  intro c
  rw [Bool.and_eq_true, Bool.not_eq_true', decide_eq_true_eq, decide_eq_false_iff_not] at c
  exact c.2 (hb c.1)
theorem schema_eq {n : Int} {w m : Str} {fs : List (Str × Str)} (h : 1 ≤ n) (hw : w ∈ WID) (hm : m ∈ MEA) (hb : m = "bits" → w = "bit") (hf : F_check_fields fs = some (.ok ())) : F_Schema___init__ n w m fs = some (.ok ⟨n, w, m, fs⟩) := by
  unfold F_Schema___init__
  rw [check_vectors_eq h hw hm hb, bsome, rok, hf, bsome, rok]
theorem tokens_every : F_read_tokens "every" = some [⟨"word", .s "every", 0⟩] := by decide +kernel
theorem filter_every (sch : Schema) : F_read_filter sch "every" = some ⟨⟩ := by
  unfold F_read_filter F_FilterReader___init__
  rw [tokens_every, bsome, bsome]
  have e : ∃ r, F_FilterReader_whole ⟨sch, [⟨"word", .s "every", 0⟩], (("every" : Str).length : Int), 0, 0⟩ = some (⟨⟩, r) := ⟨⟨sch, [⟨"word", .s "every", 0⟩], (("every" : Str).length : Int), 1, 0⟩, by kernel_rfl⟩
  obtain ⟨r, e⟩ := e
  rw [e, bsome]

/-! how far two vectors are apart, costs -/
def gD (m : Str) (x y : Int) : Int := if m = "square" then (x - y) * (x - y) else if m = "dot" then -(x * y) else if x = y then 0 else 1
def farZ (m : Str) (a b : List Int) : Int := ((a.zip b).map fun x => gD m x.1 x.2).sum
theorem farZ_cons (m : Str) (x y : Int) (a b : List Int) : farZ m (x :: a) (y :: b) = gD m x y + farZ m a b := by
  unfold farZ
  rw [List.zip_cons_cons, List.map_cons, List.sum_cons]
def Small (v : List Int) : Prop := ∀ x ∈ v, -32768 ≤ x ∧ x ≤ 32767
theorem zip_mem {a b : List Int} {x : Int × Int} (h : x ∈ a.zip b) : x.1 ∈ a ∧ x.2 ∈ b := ⟨(List.of_mem_zip h).1, (List.of_mem_zip h).2⟩
theorem sd : ¬ ("dot" : Str) = "square" := by decide +kernel
theorem sb : ¬ ("bits" : Str) = "square" := by decide +kernel
theorem db : ¬ ("bits" : Str) = "dot" := by decide +kernel
theorem sqd : ¬ ("square" : Str) = "dot" := by decide +kernel
theorem sqb : ¬ ("square" : Str) = "bits" := by decide +kernel
theorem dtb : ¬ ("dot" : Str) = "bits" := by decide +kernel
theorem far_sq : ∀ a b : List Int, ((b.zip a).map fun x => (x.1 - x.2) * (x.1 - x.2)).sum = farZ "square" a b
  | [], [] => rfl
  | [], _ :: _ => rfl
  | _ :: _, [] => rfl
  | x :: a, y :: b => by
    rw [List.zip_cons_cons, List.map_cons, List.sum_cons, farZ_cons, far_sq a b]
    unfold gD
    rw [if_pos rfl]
    show (y - x) * (y - x) + _ = _
    rw [← Int.neg_sub x y, Int.neg_mul_neg]
theorem far_dot : ∀ a b : List Int, -((b.zip a).map fun x => x.1 * x.2).sum = farZ "dot" a b
  | [], [] => rfl
  | [], _ :: _ => rfl
  | _ :: _, [] => rfl
  | x :: a, y :: b => by
    rw [List.zip_cons_cons, List.map_cons, List.sum_cons, farZ_cons, ← far_dot a b]
    unfold gD
    rw [if_neg sd, if_pos rfl, Int.neg_add]
    show -(y * x) + _ = _
    rw [Int.mul_comm]
theorem far_bits : ∀ a b : List Int, (((b.zip a).filter fun (x : Int × Int) => !decide (x.1 = x.2)).length : Int) = farZ "bits" a b
  | [], [] => rfl
  | [], _ :: _ => rfl
  | _ :: _, [] => rfl
  | x :: a, y :: b => by
    have ih := far_bits a b
    rw [List.zip_cons_cons, farZ_cons, ← ih]
    unfold gD
    rw [if_neg sb, if_neg db]
    by_cases h : x = y
    · rw [if_pos h, List.filter_cons_of_neg (by simp [h])]
      omega
    · rw [if_neg h, List.filter_cons_of_pos (by simp [Ne.symm h]), List.length_cons]
      omega
theorem mul_small {x y : Int} (hx : -65535 ≤ x ∧ x ≤ 65535) : CMul x y := cmul_of (b := 65535) (by decide) (by omega)
theorem schema_far_eq {sch : Schema} {a b : List Int} (hm : sch.measure ∈ MEA) (ha : Small a) (hb : Small b) : F_Schema_far sch b a = some (farZ sch.measure a b) := by
  have hm : sch.measure = "square" ∨ sch.measure = "dot" ∨ sch.measure = "bits" := by
    unfold MEA at hm
    simpa using hm
  unfold F_Schema_far
  rcases hm with e | e | e
  · rw [if_pos (by rw [decide_eq_true e]), e]
    unfold F_distance
    rw [mapO_eq (g := fun x : Int × Int => (x.1 - x.2) * (x.1 - x.2)) fun x hx => by
      obtain ⟨h1, h2⟩ := zip_mem hx
      have := hb _ h1
      have := ha _ h2
      rw [if_pos (mul_small (by omega))]]
    rw [bsome, bsome, far_sq]
  · rw [if_neg (by rw [e, decide_eq_false sd]; decide), if_pos (by rw [decide_eq_true e]), e]
    unfold F_inner
    rw [mapO_eq (g := fun x : Int × Int => x.1 * x.2) fun x hx => by
      obtain ⟨h1, h2⟩ := zip_mem hx
      have := hb _ h1
      rw [if_pos (mul_small (by omega))]]
    rw [bsome, bsome, far_dot]
  · rw [if_neg (by rw [e, decide_eq_false sb]; decide), if_neg (by rw [e, decide_eq_false db]; decide), e]
    unfold F_differing
    rw [List.length_map, far_bits]
theorem sum_loop {g : Int → Int → Int} {f : Int → Int → Option Int} {a b : List Int} (l : a.length = b.length) (hf : ∀ (n : Nat) (h : n < a.length) (h2 : n < b.length) t, f (n : Int) t = some (t + g a[n] b[n])) : forF f (rangeZ 0 (a.length : Int)) 0 = some ((a.zip b).map fun x => g x.1 x.2).sum := by
  obtain ⟨t, e, i⟩ := forF_rng (f := f) (fun n t => t = (((a.zip b).take n).map fun x => g x.1 x.2).sum) (m := (a.length : Int)) (b := 0) rfl (by
    rintro n t hn rfl
    have h1 : n < a.length := by omega
    have h2 : n < b.length := by omega
    refine ⟨_, hf n h1 h2 _, ?_⟩
    have hz : n < (a.zip b).length := by rw [List.length_zip]; omega
    rw [List.take_succ_eq_append_getElem hz, List.map_append, List.sum_append, List.getElem_zip]
    simp)
  rw [e]
  rw [i, Int.toNat_natCast, List.take_of_length_le (by rw [List.length_zip]; omega)]
theorem law_far_eq {m : Str} {a b : List Int} (hm : m ∈ MEA) (la : a.length ≤ 1000) (l : a.length = b.length) (ha : Small a) (hb : Small b) : F_law_far m a b = some (farZ m a b) := by
  have hm : m = "square" ∨ m = "dot" ∨ m = "bits" := by
    unfold MEA at hm
    simpa using hm
  unfold F_law_far
  rw [if_pos (rangeOk_of (by omega) (by omega) (by omega) (by omega))]
  rw [sum_loop (g := gD m) (f := L_law_far_1 m a b) l fun k h h2 t => by
    unfold L_law_far_1
    have m1 := ha _ (List.getElem_mem h)
    have m2 := hb _ (List.getElem_mem h2)
    have e1 : L2.atI a (k : Int) = some a[k] := TP.atI_nat (List.getElem?_eq_getElem h)
    have e2 : L2.atI b (k : Int) = some b[k] := TP.atI_nat (List.getElem?_eq_getElem h2)
    simp only [e1, e2, bsome]
    unfold gD
    rcases hm with rfl | rfl | rfl
    · rw [if_pos (decide_eq_true rfl), if_pos (mul_small (by omega)), bsome, if_neg (by rw [decide_eq_false sqd]; decide), bsome, if_neg (by rw [decide_eq_false sqb]; decide), bsome, if_neg Bool.false_ne_true, if_pos rfl]
    · rw [if_neg (by rw [decide_eq_false sd]; decide), bsome, if_pos (decide_eq_true rfl), if_pos (mul_small (by omega)), bsome, if_neg (by rw [decide_eq_false dtb]; decide), bsome, if_neg Bool.false_ne_true, if_neg sd, if_pos rfl]
      rfl
    · rw [if_neg (by rw [decide_eq_false sb]; decide), bsome, if_neg (by rw [decide_eq_false db]; decide), bsome, if_pos (decide_eq_true rfl), bsome, if_neg sb, if_neg db]
      by_cases q : a[k] = b[k]
      · rw [if_pos q, if_neg (by rw [decide_eq_true q]; decide), Int.add_zero]
      · rw [if_neg q, if_pos (by rw [decide_eq_false q]; decide)]]
  rw [bsome]
  rfl
/-- the count of a word -/
def cnt (words : List (Str × Int)) (w : Str) : Int := ((words.filter (fun (x : Str × Int) => decide (x.1 = w))).map (fun (x : Str × Int) => x.2)).headD 0
theorem count_eq (r : Record) (w : Str) : F_Record_count_of r w = some (cnt r.words w) := by
  unfold F_Record_count_of cnt
  generalize r.words = ws
  induction ws with
  | nil => rfl
  | cons x t ih =>
    show (Option.bind (L_Record_count_of_1 w x ()) (Flow.nxt (forS (L_Record_count_of_1 w) t))).bind _ = _
    by_cases h : x.1 = w
    · have e : L_Record_count_of_1 w x () = some (Flow.ret x.2) := if_pos (decide_eq_true h)
      rw [e, List.filter_cons_of_pos (p := fun (y : Str × Int) => decide (y.1 = w)) (decide_eq_true h)]
      rfl
    · have e : L_Record_count_of_1 w x () = some (Flow.go ()) := if_neg (by rw [decide_eq_false h]; decide)
      rw [e, List.filter_cons_of_neg (p := fun (y : Str × Int) => decide (y.1 = w)) (by rw [decide_eq_false h]; decide)]
      exact ih
def costZ (m : Str) (near : Int) (qv : List Int) (qw : List (Str × Int)) (v : List Int) (words : List (Str × Int)) : Int := near * farZ m qv v - (qw.map fun x => x.2 * min 15 (cnt words x.1)).sum
def WOk (qw : List (Str × Int)) : Prop := ∀ x ∈ qw, 0 ≤ x.2 ∧ x.2 ≤ 1000
theorem question_cost_eq {q : Question} {r : Record} (hm : q.schema.measure ∈ MEA) (hn : 0 ≤ q.query.near ∧ q.query.near ≤ 1000) (hq : Small q.query.vector) (hv : Small r.vector) (hw : WOk q.query.words) :
    F_Question_cost q r = some (costZ q.schema.measure q.query.near q.query.vector q.query.words r.vector r.words) := by
  unfold F_Question_cost
  rw [schema_far_eq hm hq hv, bsome]
  rw [mapO_eq (g := fun x : Str × Int => x.2 * min 15 (cnt r.words x.1)) fun x hx => by
    rw [count_eq, bsome, if_pos (cmul_of (b := 1000) (by decide) (by have := hw x hx; omega))]]
  rw [bsome, if_pos (cmul_of (b := 1000) (by decide) (by omega))]
  rfl
theorem cost_loop (words : List (Str × Int)) : ∀ (qw : List (Str × Int)) (t : Int), WOk qw → forF (L_law_cost_1 words) qw t = some (t - (qw.map fun x => x.2 * min 15 (cnt words x.1)).sum)
  | [], t, _ => by
    show some t = some (t - 0)
    rw [Int.sub_zero]
  | x :: qw, t, h => by
    show (L_law_cost_1 words x t).bind _ = _
    have hx := h x List.mem_cons_self
    have e : L_law_cost_1 words x t = some (t - x.2 * min 15 (cnt words x.1)) := by
      unfold L_law_cost_1 cnt
      rw [bsome]
      cases hc : (words.filter (fun (y : Str × Int) => decide (y.1 = x.1))).map (fun (y : Str × Int) => y.2) with
      | nil =>
        rw [if_neg (by decide)]
        show some t = some (t - x.2 * min 15 0)
        rw [show min (15 : Int) 0 = 0 by decide, Int.mul_zero, Int.sub_zero]
      | cons c r =>
        rw [if_pos (by rw [decide_eq_true_eq, List.length_cons]; omega)]
        have e0 : L2.atI (c :: r) 0 = some c := TP.atI_nat (k := 0) rfl
        rw [e0, bsome, if_pos (cmul_of (b := 1000) (by decide) (by omega)), bsome]
        rfl
    rw [e, bsome, cost_loop words qw _ fun y hy => h y (List.mem_cons_of_mem _ hy), List.map_cons, List.sum_cons]
    congr 1
    omega
theorem law_cost_eq {m : Str} {near : Int} {qv v : List Int} {qw words : List (Str × Int)} (hm : m ∈ MEA) (hn : 0 ≤ near ∧ near ≤ 1000) (la : qv.length ≤ 1000) (l : qv.length = v.length) (hq : Small qv) (hv : Small v) (hw : WOk qw) :
    F_law_cost m (qv, near, qw) v words = some (costZ m near qv qw v words) := by
  unfold F_law_cost
  rw [law_far_eq hm la l hq hv, bsome, if_pos (cmul_of (b := 1000) (i := near) (by decide) (by omega)), cost_loop words qw _ hw, bsome]
  rfl

theorem schema_ex (s : DS) : ∃ d s', F_law_schema s = some (d, s') ∧ (1 ≤ d.1 ∧ d.1 ≤ 4) ∧ d.2.1 ∈ WID ∧ d.2.2.1 ∈ MEA ∧ (d.2.2.1 = "bits" → d.2.1 = "bit") ∧ FOk d.2.2.2 := by
  unfold F_law_schema
  obtain ⟨w, e1, hw⟩ := atI_lit (xs := [("bit" : Str), ("small" : Str), ("wide" : Str)]) (nx_ge s (m := 3) (by decide)) (nx_lt s (m := 3) (by decide))
  obtain ⟨m, e2, hm⟩ := atI_lit (xs := [("square" : Str), ("dot" : Str), ("bits" : Str)]) (nx_ge (nxS s 3) (m := 3) (by decide)) (nx_lt (nxS s 3) (m := 3) (by decide))
  rw [e1, bsome, e2, bsome]
  have e3 : ∃ w', (if (decide (m = ("bits" : Str))) = true then some ("bit" : Str) else some w : Option Str) = some w' ∧ w' ∈ WID ∧ (m = "bits" → w' = "bit") := by
    by_cases h : m = "bits"
    · exact ⟨_, if_pos (decide_eq_true h), by decide +kernel, fun _ => rfl⟩
    · exact ⟨_, if_neg (by rw [decide_eq_false h]; decide), hw, fun z => absurd z h⟩
  obtain ⟨w', e3, hw', hb⟩ := e3
  rw [e3, bsome]
  obtain ⟨fs, s', e4, hf⟩ := fields_ex (nxS (nxS (nxS s 3) 3) 4)
  rw [e4, bsome]
  have b0 := nx_ge (nxS (nxS s 3) 3) (m := 4) (by decide)
  have b1 := nx_lt (nxS (nxS s 3) 3) (m := 4) (by decide)
  exact ⟨_, _, rfl, ⟨by dsimp only; omega, by dsimp only; omega⟩, hw', hm, hb, hf⟩
theorem number_ex (s : DS) {w : Str} (hw : w ∈ WID) : ∃ lo hi x s', get_WIDTHS w = some (lo, hi) ∧ F_law_number s w = some (x, s') ∧ lo ≤ x ∧ x ≤ hi ∧ -32768 ≤ lo ∧ hi ≤ 32767 := by
  have key : ∃ (lo hi : Int) (j : Nat), get_WIDTHS w = some (lo, hi) ∧ idxO ([("bit" : Str), ("small" : Str), ("wide" : Str)] : List Str) w = some j ∧ L2.atI ([(0 : Int), (-(128 : Int)), (-(32768 : Int))] : List Int) (j : Int) = some lo ∧ L2.atI ([(1 : Int), (127 : Int), (32767 : Int)] : List Int) (j : Int) = some hi ∧ lo ≤ 0 ∧ 1 ≤ hi ∧ -32768 ≤ lo ∧ hi ≤ 32767 := by
    have hw : w = "bit" ∨ w = "small" ∨ w = "wide" := by
      unfold WID at hw
      simpa using hw
    rcases hw with rfl | rfl | rfl
    · exact ⟨0, 1, 0, by decide +kernel, by decide +kernel, by decide +kernel, by decide +kernel, by decide, by decide, by decide, by decide⟩
    · exact ⟨-128, 127, 1, by decide +kernel, by decide +kernel, by decide +kernel, by decide +kernel, by decide, by decide, by decide, by decide⟩
    · exact ⟨-32768, 32767, 2, by decide +kernel, by decide +kernel, by decide +kernel, by decide +kernel, by decide, by decide, by decide, by decide⟩
  obtain ⟨lo, hi, j, e0, e1, e2, e3, h1, h2, h3, h4⟩ := key
  unfold F_law_number
  rw [e1, bsome, e2, bsome, bsome, e3, bsome]
  by_cases c : nxV s 5 = 0
  · rw [if_pos (decide_eq_true c)]
    obtain ⟨x, e4, hx⟩ := atI_lit (xs := [lo, hi]) (nx_ge (nxS s 5) (m := 2) (by decide)) (nx_lt (nxS s 5) (m := 2) (by decide))
    rw [e4, bsome]
    refine ⟨lo, hi, x, _, e0, rfl, ?_⟩
    rcases List.mem_cons.mp hx with rfl | hx
    · omega
    · rw [List.mem_singleton.mp hx]; omega
  · rw [if_neg (by rw [decide_eq_false c]; decide)]
    obtain ⟨sp, e4, hsp⟩ := atI_lit (xs := [(1 : Int), 5, hi - lo]) (nx_ge (nxS s 5) (m := 3) (by decide)) (nx_lt (nxS s 5) (m := 3) (by decide))
    rw [e4, bsome]
    have hs : 1 ≤ sp ∧ sp ≤ 65535 := by
      rcases List.mem_cons.mp hsp with rfl | hsp
      · omega
      · rcases List.mem_cons.mp hsp with rfl | hsp
        · omega
        · rw [List.mem_singleton.mp hsp]; omega
    have nk : NxOk (sp + 1) := nxOk_of (by omega) (Int.lt_of_le_of_lt (show sp + 1 ≤ 65536 by omega) (by decide))
    have g0 := nx_ge (nxS (nxS (nxS s 5) 3) 2) (m := sp + 1) (by omega)
    by_cases c2 : nxV (nxS (nxS s 5) 3) 2 = 0
    · rw [if_pos (decide_eq_true c2), if_pos nk, bsome]
      exact ⟨lo, hi, _, _, e0, rfl, by dsimp only; omega, by dsimp only; omega, h3, h4⟩
    · rw [if_neg (by rw [decide_eq_false c2]; decide), if_pos nk, bsome]
      exact ⟨lo, hi, _, _, e0, rfl, by dsimp only; omega, by dsimp only; omega, h3, h4⟩
def VecOk (n : Int) (w : Str) (v : List Int) : Prop := (v.length : Int) = n ∧ Small v ∧ F_are_within v w = some true
theorem vector_ex {f : Int → DS → Option (Int × DS)} (s : DS) {n : Int} {w : Str} (hw : w ∈ WID) (h0 : 0 ≤ n) (hf : ∀ x s, f x s = F_law_number s w) : ∃ v s', mapS f (rangeZ 0 n) s = some (v, s') ∧ VecOk n w v := by
  obtain ⟨lo, hi, _, _, e0, _, _, _, h3, h4⟩ := number_ex s hw
  obtain ⟨v, s', e, l, hv⟩ := mapS_mem (f := f) (R := fun x => lo ≤ x ∧ x ≤ hi) (xs := rangeZ 0 n) s (fun x _ s => by
    obtain ⟨lo', hi', x', s', e', e1, b1, b2, _⟩ := number_ex s hw
    rw [e0] at e'
    cases e'
    exact ⟨x', s', by rw [hf]; exact e1, b1, b2⟩)
  rw [rangeZ_len] at l
  refine ⟨v, s', e, by omega, fun x hx => ?_, ?_⟩
  · have := hv x hx
    omega
  · unfold F_are_within
    rw [e0, bsome]
    congr 1
    rw [List.all_map, List.all_eq_true]
    intro x hx
    have := hv x hx
    show (decide (lo ≤ x) && decide (x ≤ hi)) = true
    rw [decide_eq_true this.1, decide_eq_true this.2]
    rfl
theorem bindP {α μ : Type} {o : Option (α × μ)} : (o.bind fun r => some (r.1, r.2)) = o := by cases o <;> rfl
structure QOk (d : Int × Str × Str × List (Str × Str)) (q : List Int × Int × List (Str × Int)) : Prop where
  v : VecOk d.1 d.2.1 q.1
  near : 0 ≤ q.2.1 ∧ q.2.1 ≤ 1000
  nd : (q.2.2.map (·.1)).Nodup
  l : q.2.2.length ≤ 3
  w : WOk q.2.2
theorem query_ex (s : DS) (d : Int × Str × Str × List (Str × Str)) (h0 : 1 ≤ d.1) (h1 : d.1 ≤ 4) (hw : d.2.1 ∈ WID) : ∃ q s', F_law_query s d = some (q, s') ∧ QOk d q := by
  unfold F_law_query
  rw [if_pos (rangeOk_of (by omega) (by omega) (by omega) (by omega))]
  obtain ⟨v, s1, e1, hv⟩ := vector_ex (f := fun (x_188 : Int) (s_189 : DS) => ((F_law_number s_189 d.2.1).bind fun r_192 => some (r_192.1, r_192.2) : Option (Int × DS))) s (n := d.1) hw (by omega) (fun _ _ => bindP)
  rw [e1, bsome]
  obtain ⟨b, e2, i1, i2⟩ := forF_take (f := L_law_query_1) (xs := [("cow" : Str), "ant", "emu"]) (b := (([] : List (Str × Int)), s1)) (I := fun p b => (b.1.map (·.1)).Sublist p ∧ WOk b.1) ⟨List.Sublist.slnil, fun _ h => nomatch h⟩ (fun p x r b hp ⟨h1, h2⟩ => by
    have lb : b.1.length ≤ p.length := by
      have := h1.length_le
      rwa [List.length_map] at this
    have lp : p.length ≤ 3 := by
      have := congrArg List.length hp
      rw [List.length_append] at this
      simp only [List.length_cons, List.length_nil] at this
      omega
    unfold L_law_query_1
    by_cases c : nxV b.2 2 = 0
    · have a0 := nx_ge (nxS b.2 2) (m := 4) (by decide)
      have a1 := nx_lt (nxS b.2 2) (m := 4) (by decide)
      have b0 := nx_ge (nxS (nxS b.2 2) 4) (m := 100) (by decide)
      have b1 := nx_lt (nxS (nxS b.2 2) 4) (m := 100) (by decide)
      rw [if_pos (decide_eq_true c), if_pos (cmul_of (b := 10) (by decide) (by omega)), if_pos (by omega)]
      refine ⟨_, rfl, ?_, fun y hy => ?_⟩
      · rw [List.map_append]
        exact h1.append (List.Sublist.refl _)
      · rcases List.mem_append.mp hy with hy | hy
        · exact h2 y hy
        · rw [List.mem_singleton.mp hy]
          dsimp only
          generalize nxV (nxS b.2 2) 4 = i at a0 a1
          generalize nxV (nxS (nxS b.2 2) 4) 100 = j at b0 b1
          refine ⟨Int.mul_nonneg a0 b0, ?_⟩
          have := Int.mul_le_mul (show i ≤ 3 by omega) (show j ≤ 99 by omega) b0 (by decide)
          omega
    · rw [if_neg (by rw [decide_eq_false c]; decide)]
      exact ⟨_, rfl, h1.trans (List.sublist_append_left _ _), h2⟩)
  rw [e2, bsome]
  obtain ⟨nr, e3, hn⟩ := atI_lit (xs := [(0 : Int), 1, 3, 1000]) (nx_ge b.2 (m := 4) (by decide)) (nx_lt b.2 (m := 4) (by decide))
  rw [e3, bsome]
  refine ⟨_, _, rfl, hv, ?_, (show ([("cow" : Str), "ant", "emu"] : List Str).Nodup by decide +kernel).sublist i1, ?_, i2⟩
  · have key : ∀ y ∈ ([0, 1, 3, 1000] : List Int), 0 ≤ y ∧ y ≤ 1000 := by decide
    exact key nr hn
  · have := i1.length_le
    rw [List.length_map] at this
    exact this
theorem check_query_eq {sch : Schema} {q : Query} (hv : VecOk sch.size sch.width q.vector) (hn : 0 ≤ q.near) (nd : (q.words.map (·.1)).Nodup) (l : q.words.length ≤ 3) (hw : WOk q.words) (hm : 1 ≤ q.most) : F_check_query sch q = some (.ok ()) := by
  unfold F_check_query
  rw [if_neg (by rw [decide_eq_true hv.1]; decide), hv.2.2, bsome, bsome, if_neg (by decide), if_neg ?_, if_neg (by simp; omega), if_pos (by rw [List.length_map]; omega), if_neg ?_]
  · have e := (uZ_nodup _).mpr nd
    rw [List.length_map] at e
    rw [e]
    simp
  · rw [Bool.or_eq_true]
    rintro (c | c)
    · rw [decide_eq_true_eq] at c; omega
    · rw [List.any_map, List.any_eq_true] at c
      obtain ⟨x, hx, hc⟩ := c
      have := hw x hx
      have hc : x.2 < 0 := of_decide_eq_true hc
      omega
theorem question_eq {sch : Schema} {q : Query} (ht : q.text = "every") (hc : F_check_query sch q = some (.ok ())) : F_Question___init__ sch q = some (.ok ⟨sch, q, ⟨⟩⟩) := by
  unfold F_Question___init__
  rw [hc, bsome, rok, ht, filter_every, bsome]
theorem name_ex (s : DS) : ∃ t s', F_law_name s = some (t, s') := by
  unfold F_law_name
  obtain ⟨t, e, _⟩ := atI_lit (xs := [("a" : Str), ("b" : Str), ("ba" : Str), ("c" : Str), ("k9" : Str), ("z z" : Str)]) (nx_ge s (m := 6) (by decide)) (nx_lt s (m := 6) (by decide))
  rw [e, bsome]
  exact ⟨_, _, rfl⟩
theorem words_ex (s : DS) : ∃ t s', F_law_words s = some (t, s') := by
  unfold F_law_words
  obtain ⟨b, e, _⟩ := forF_inv (f := L_law_words_1) (I := fun n b => b.1.length ≤ n) (m := 4) (fun n x b hn h => by
    unfold L_law_words_1
    by_cases c : nxV b.2 2 = 0
    · have a0 := nx_ge (nxS b.2 2) (m := 3) (by decide)
      have a1 := nx_lt (nxS b.2 2) (m := 3) (by decide)
      rw [if_pos (decide_eq_true c), if_pos (cmul_of (b := 10) (by decide) (by omega)), if_pos (by omega)]
      exact ⟨_, rfl, by rw [List.length_append]; show b.1.length + 1 ≤ _; omega⟩
    · rw [if_neg (by rw [decide_eq_false c]; decide)]
      exact ⟨_, rfl, by dsimp only; omega⟩) [("ant" : Str), ("bee" : Str), ("cow" : Str), ("dog" : Str)] 0 (([] : List (Str × Int)), s) (by decide) (Nat.le_refl _)
  rw [e, bsome]
  exact ⟨_, _, rfl⟩
theorem value_ex (s : DS) (k : Str) : ∃ t s', F_law_value s k = some (t, s') := by
  unfold F_law_value
  by_cases c : k = "flag"
  · rw [if_pos (decide_eq_true c)]
    exact ⟨_, _, rfl⟩
  · rw [if_neg (by rw [decide_eq_false c]; decide)]
    by_cases c2 : k = "text"
    · rw [if_pos (decide_eq_true c2)]
      obtain ⟨t, e, _⟩ := atI_lit (xs := [(Val.s ("" : Str)), (Val.s ("red" : Str)), (Val.s ("blue" : Str)), (Val.s ("x y" : Str)), (Val.s ("a\\b" : Str))]) (nx_ge s (m := 5) (by decide)) (nx_lt s (m := 5) (by decide))
      rw [e, bsome]
      exact ⟨_, _, rfl⟩
    · rw [if_neg (by rw [decide_eq_false c2]; decide)]
      obtain ⟨t, e, _⟩ := atI_lit (xs := [(0 : Int), (1 : Int), (-(1 : Int)), (7 : Int), ((10 : Int) ^ (12 : Int).toNat)]) (nx_ge s (m := 5) (by decide)) (nx_lt s (m := 5) (by decide))
      have a0 := nx_ge (nxS s 5) (m := 2) (by decide)
      have a1 := nx_lt (nxS s 5) (m := 2) (by decide)
      rw [e, bsome, if_pos (show CMul _ _ from Or.inr ⟨by omega, by omega⟩)]
      exact ⟨_, _, rfl⟩
theorem pairs_ex (s : DS) {fs : List (Str × Str)} (hf : fs.length ≤ 3) : ∃ t s', F_law_pairs s fs = some (t, s') := by
  unfold F_law_pairs
  obtain ⟨b, e, _⟩ := forF_inv (f := L_law_pairs_1) (I := fun n b => b.1.length ≤ n) (m := 4) (fun n x b hn h => by
    unfold L_law_pairs_1
    by_cases c : 0 < nxV b.2 3
    · obtain ⟨t, s', e⟩ := value_ex (nxS b.2 3) x.2
      rw [if_pos (decide_eq_true c), e, bsome, if_pos (by omega)]
      exact ⟨_, rfl, by rw [List.length_append]; show b.1.length + 1 ≤ _; omega⟩
    · rw [if_neg (by rw [decide_eq_false c]; decide)]
      exact ⟨_, rfl, by dsimp only; omega⟩) fs 0 (([] : List (Str × Val)), s) (by omega) (Nat.le_refl _)
  rw [e, bsome]
  exact ⟨_, _, rfl⟩
theorem law_true (ns : List Int) (hns : ns.length ≤ 63) : F_law ns = some true := by
  unfold F_law
  obtain ⟨⟨n, w, m, fs⟩, s1, e1, ⟨h1, h2⟩, hw, hm, hb, hf⟩ := schema_ex ⟨ns, 0, 0⟩
  rw [e1, bsome]
  dsimp only at h1 h2 hw hm hb hf ⊢
  rw [schema_eq h1 hw hm hb (check_fields_eq hf)]
  show (Option.bind (some _) _) = _
  rw [bsome]
  obtain ⟨⟨qv, near, qw⟩, s2, e2, hq⟩ := query_ex s1 (n, w, m, fs) h1 h2 hw
  rw [e2, bsome]
  dsimp only
  rw [question_eq (q := F_Query___init__ qv near qw "every" 3) rfl (check_query_eq hq.v hq.near.1 hq.nd hq.l hq.w (show (1 : Int) ≤ 3 by decide))]
  show (Option.bind (some _) _) = _
  rw [bsome]
  obtain ⟨s3, e3, _⟩ := forS_mem (f := L_law_1 ((n, w, m, fs), s1) ((qv, near, qw), s2) ⟨⟨n, w, m, fs⟩, F_Query___init__ qv near qw "every" 3, ⟨⟩⟩) (xs := rangeZ 0 4) (b := s2) (I := fun _ => True) trivial (fun x _ s _ => by
    unfold L_law_1
    dsimp only
    rw [if_pos (rangeOk_of (by omega) (by omega) (by omega) (by omega))]
    obtain ⟨v, s4, e4, hv⟩ := vector_ex (f := fun (x_956 : Int) (s_957 : DS) => ((F_law_number s_957 w).bind fun r_960 => some (r_960.1, r_960.2) : Option (Int × DS))) s (n := n) hw (by omega) (fun _ _ => bindP)
    obtain ⟨nm, s5, e5⟩ := name_ex s4
    obtain ⟨ws, s6, e6⟩ := words_ex s5
    obtain ⟨ps, s7, e7⟩ := pairs_ex s6 hf.len
    have lq : qv.length = v.length := by have := hv.1; have := hq.v.1; dsimp only at this; omega
    have ec := law_cost_eq (words := ws) hm hq.near (by have := hq.v.1; dsimp only at this; omega) lq hq.v.2.1 hv.2.1 hq.w
    have eq := question_cost_eq (q := ⟨⟨n, w, m, fs⟩, F_Query___init__ qv near qw "every" 3, ⟨⟩⟩) (r := F_Record___init__ nm v ps ws) hm hq.near hq.v.2.1 hv.2.1 hq.w
    rw [e4, bsome, e5, bsome, e6, bsome]
    dsimp only
    rw [e7, bsome, bsome, ec, bsome, eq, bsome, if_neg ?_]
    · unfold F_Question_rank
      rw [eq, bsome, bsome, if_neg ?_]
      · exact ⟨_, rfl, trivial⟩
      · unfold F_Rank___eq__ F_Rank___init__
        simp [F_Record___init__, costZ, F_Query___init__]
    · simp [costZ, F_Query___init__, F_Record___init__])
  rw [e3, bsome, thn_go]

def ff_Schema (v0 v1 v2 v3 : V) : List (Str × V) := putF "fields" v3 (putF "measure" v2 (putF "width" v1 (putF "size" v0 [])))
theorem lk_Schema_size {v0 v1 v2 v3 : V} : (ff_Schema v0 v1 v2 v3).lookup ("size" : Str) = some v0 := by
  unfold ff_Schema
  rw [lookup_putF, if_neg (by decide +kernel), lookup_putF, if_neg (by decide +kernel), lookup_putF, if_neg (by decide +kernel), lookup_putF, if_pos rfl]
theorem lk_Schema_width {v0 v1 v2 v3 : V} : (ff_Schema v0 v1 v2 v3).lookup ("width" : Str) = some v1 := by
  unfold ff_Schema
  rw [lookup_putF, if_neg (by decide +kernel), lookup_putF, if_neg (by decide +kernel), lookup_putF, if_pos rfl]
theorem lk_Schema_measure {v0 v1 v2 v3 : V} : (ff_Schema v0 v1 v2 v3).lookup ("measure" : Str) = some v2 := by
  unfold ff_Schema
  rw [lookup_putF, if_neg (by decide +kernel), lookup_putF, if_pos rfl]
theorem lk_Schema_fields {v0 v1 v2 v3 : V} : (ff_Schema v0 v1 v2 v3).lookup ("fields" : Str) = some v3 := by
  unfold ff_Schema
  rw [lookup_putF, if_pos rfl]
theorem no_Schema {v0 v1 v2 v3 : V} {m : Str} (h0 : ¬ m = "size" := by decide +kernel) (h1 : ¬ m = "width" := by decide +kernel) (h2 : ¬ m = "measure" := by decide +kernel) (h3 : ¬ m = "fields" := by decide +kernel) : (ff_Schema v0 v1 v2 v3).lookup m = none := by
  unfold ff_Schema
  rw [lookup_putF, if_neg h3, lookup_putF, if_neg h2, lookup_putF, if_neg h1, lookup_putF, if_neg h0]
  rfl
def ff_Query (v0 v1 v2 v3 v4 : V) : List (Str × V) := putF "most" v4 (putF "text" v3 (putF "words" v2 (putF "near" v1 (putF "vector" v0 []))))
theorem lk_Query_vector {v0 v1 v2 v3 v4 : V} : (ff_Query v0 v1 v2 v3 v4).lookup ("vector" : Str) = some v0 := by
  unfold ff_Query
  rw [lookup_putF, if_neg (by decide +kernel), lookup_putF, if_neg (by decide +kernel), lookup_putF, if_neg (by decide +kernel), lookup_putF, if_neg (by decide +kernel), lookup_putF, if_pos rfl]
theorem lk_Query_near {v0 v1 v2 v3 v4 : V} : (ff_Query v0 v1 v2 v3 v4).lookup ("near" : Str) = some v1 := by
  unfold ff_Query
  rw [lookup_putF, if_neg (by decide +kernel), lookup_putF, if_neg (by decide +kernel), lookup_putF, if_neg (by decide +kernel), lookup_putF, if_pos rfl]
theorem lk_Query_words {v0 v1 v2 v3 v4 : V} : (ff_Query v0 v1 v2 v3 v4).lookup ("words" : Str) = some v2 := by
  unfold ff_Query
  rw [lookup_putF, if_neg (by decide +kernel), lookup_putF, if_neg (by decide +kernel), lookup_putF, if_pos rfl]
theorem lk_Query_text {v0 v1 v2 v3 v4 : V} : (ff_Query v0 v1 v2 v3 v4).lookup ("text" : Str) = some v3 := by
  unfold ff_Query
  rw [lookup_putF, if_neg (by decide +kernel), lookup_putF, if_pos rfl]
theorem lk_Query_most {v0 v1 v2 v3 v4 : V} : (ff_Query v0 v1 v2 v3 v4).lookup ("most" : Str) = some v4 := by
  unfold ff_Query
  rw [lookup_putF, if_pos rfl]
theorem no_Query {v0 v1 v2 v3 v4 : V} {m : Str} (h0 : ¬ m = "vector" := by decide +kernel) (h1 : ¬ m = "near" := by decide +kernel) (h2 : ¬ m = "words" := by decide +kernel) (h3 : ¬ m = "text" := by decide +kernel) (h4 : ¬ m = "most" := by decide +kernel) : (ff_Query v0 v1 v2 v3 v4).lookup m = none := by
  unfold ff_Query
  rw [lookup_putF, if_neg h4, lookup_putF, if_neg h3, lookup_putF, if_neg h2, lookup_putF, if_neg h1, lookup_putF, if_neg h0]
  rfl
def ff_Record (v0 v1 v2 v3 : V) : List (Str × V) := putF "words" v3 (putF "fields" v2 (putF "vector" v1 (putF "name" v0 [])))
theorem lk_Record_name {v0 v1 v2 v3 : V} : (ff_Record v0 v1 v2 v3).lookup ("name" : Str) = some v0 := by
  unfold ff_Record
  rw [lookup_putF, if_neg (by decide +kernel), lookup_putF, if_neg (by decide +kernel), lookup_putF, if_neg (by decide +kernel), lookup_putF, if_pos rfl]
theorem lk_Record_vector {v0 v1 v2 v3 : V} : (ff_Record v0 v1 v2 v3).lookup ("vector" : Str) = some v1 := by
  unfold ff_Record
  rw [lookup_putF, if_neg (by decide +kernel), lookup_putF, if_neg (by decide +kernel), lookup_putF, if_pos rfl]
theorem lk_Record_fields {v0 v1 v2 v3 : V} : (ff_Record v0 v1 v2 v3).lookup ("fields" : Str) = some v2 := by
  unfold ff_Record
  rw [lookup_putF, if_neg (by decide +kernel), lookup_putF, if_pos rfl]
theorem lk_Record_words {v0 v1 v2 v3 : V} : (ff_Record v0 v1 v2 v3).lookup ("words" : Str) = some v3 := by
  unfold ff_Record
  rw [lookup_putF, if_pos rfl]
theorem no_Record {v0 v1 v2 v3 : V} {m : Str} (h0 : ¬ m = "name" := by decide +kernel) (h1 : ¬ m = "vector" := by decide +kernel) (h2 : ¬ m = "fields" := by decide +kernel) (h3 : ¬ m = "words" := by decide +kernel) : (ff_Record v0 v1 v2 v3).lookup m = none := by
  unfold ff_Record
  rw [lookup_putF, if_neg h3, lookup_putF, if_neg h2, lookup_putF, if_neg h1, lookup_putF, if_neg h0]
  rfl
def ff_Token (v0 v1 v2 : V) : List (Str × V) := putF "place" v2 (putF "value" v1 (putF "kind" v0 []))
theorem lk_Token_kind {v0 v1 v2 : V} : (ff_Token v0 v1 v2).lookup ("kind" : Str) = some v0 := by
  unfold ff_Token
  rw [lookup_putF, if_neg (by decide +kernel), lookup_putF, if_neg (by decide +kernel), lookup_putF, if_pos rfl]
theorem lk_Token_value {v0 v1 v2 : V} : (ff_Token v0 v1 v2).lookup ("value" : Str) = some v1 := by
  unfold ff_Token
  rw [lookup_putF, if_neg (by decide +kernel), lookup_putF, if_pos rfl]
theorem lk_Token_place {v0 v1 v2 : V} : (ff_Token v0 v1 v2).lookup ("place" : Str) = some v2 := by
  unfold ff_Token
  rw [lookup_putF, if_pos rfl]
theorem no_Token {v0 v1 v2 : V} {m : Str} (h0 : ¬ m = "kind" := by decide +kernel) (h1 : ¬ m = "value" := by decide +kernel) (h2 : ¬ m = "place" := by decide +kernel) : (ff_Token v0 v1 v2).lookup m = none := by
  unfold ff_Token
  rw [lookup_putF, if_neg h2, lookup_putF, if_neg h1, lookup_putF, if_neg h0]
  rfl
def ff_FilterReader (v0 v1 v2 v3 v4 : V) : List (Str × V) := putF "deep" v4 (putF "at" v3 (putF "length" v2 (putF "tokens" v1 (putF "schema" v0 []))))
theorem lk_FilterReader_schema {v0 v1 v2 v3 v4 : V} : (ff_FilterReader v0 v1 v2 v3 v4).lookup ("schema" : Str) = some v0 := by
  unfold ff_FilterReader
  rw [lookup_putF, if_neg (by decide +kernel), lookup_putF, if_neg (by decide +kernel), lookup_putF, if_neg (by decide +kernel), lookup_putF, if_neg (by decide +kernel), lookup_putF, if_pos rfl]
theorem lk_FilterReader_tokens {v0 v1 v2 v3 v4 : V} : (ff_FilterReader v0 v1 v2 v3 v4).lookup ("tokens" : Str) = some v1 := by
  unfold ff_FilterReader
  rw [lookup_putF, if_neg (by decide +kernel), lookup_putF, if_neg (by decide +kernel), lookup_putF, if_neg (by decide +kernel), lookup_putF, if_pos rfl]
theorem lk_FilterReader_length {v0 v1 v2 v3 v4 : V} : (ff_FilterReader v0 v1 v2 v3 v4).lookup ("length" : Str) = some v2 := by
  unfold ff_FilterReader
  rw [lookup_putF, if_neg (by decide +kernel), lookup_putF, if_neg (by decide +kernel), lookup_putF, if_pos rfl]
theorem lk_FilterReader_at {v0 v1 v2 v3 v4 : V} : (ff_FilterReader v0 v1 v2 v3 v4).lookup ("at" : Str) = some v3 := by
  unfold ff_FilterReader
  rw [lookup_putF, if_neg (by decide +kernel), lookup_putF, if_pos rfl]
theorem lk_FilterReader_deep {v0 v1 v2 v3 v4 : V} : (ff_FilterReader v0 v1 v2 v3 v4).lookup ("deep" : Str) = some v4 := by
  unfold ff_FilterReader
  rw [lookup_putF, if_pos rfl]
theorem no_FilterReader {v0 v1 v2 v3 v4 : V} {m : Str} (h0 : ¬ m = "schema" := by decide +kernel) (h1 : ¬ m = "tokens" := by decide +kernel) (h2 : ¬ m = "length" := by decide +kernel) (h3 : ¬ m = "at" := by decide +kernel) (h4 : ¬ m = "deep" := by decide +kernel) : (ff_FilterReader v0 v1 v2 v3 v4).lookup m = none := by
  unfold ff_FilterReader
  rw [lookup_putF, if_neg h4, lookup_putF, if_neg h3, lookup_putF, if_neg h2, lookup_putF, if_neg h1, lookup_putF, if_neg h0]
  rfl
def ff_Question (v0 v1 v2 : V) : List (Str × V) := putF "condition" v2 (putF "query" v1 (putF "schema" v0 []))
theorem lk_Question_schema {v0 v1 v2 : V} : (ff_Question v0 v1 v2).lookup ("schema" : Str) = some v0 := by
  unfold ff_Question
  rw [lookup_putF, if_neg (by decide +kernel), lookup_putF, if_neg (by decide +kernel), lookup_putF, if_pos rfl]
theorem lk_Question_query {v0 v1 v2 : V} : (ff_Question v0 v1 v2).lookup ("query" : Str) = some v1 := by
  unfold ff_Question
  rw [lookup_putF, if_neg (by decide +kernel), lookup_putF, if_pos rfl]
theorem lk_Question_condition {v0 v1 v2 : V} : (ff_Question v0 v1 v2).lookup ("condition" : Str) = some v2 := by
  unfold ff_Question
  rw [lookup_putF, if_pos rfl]
theorem no_Question {v0 v1 v2 : V} {m : Str} (h0 : ¬ m = "schema" := by decide +kernel) (h1 : ¬ m = "query" := by decide +kernel) (h2 : ¬ m = "condition" := by decide +kernel) : (ff_Question v0 v1 v2).lookup m = none := by
  unfold ff_Question
  rw [lookup_putF, if_neg h2, lookup_putF, if_neg h1, lookup_putF, if_neg h0]
  rfl
def ff_Rank (v0 v1 : V) : List (Str × V) := putF "name" v1 (putF "cost" v0 [])
theorem lk_Rank_cost {v0 v1 : V} : (ff_Rank v0 v1).lookup ("cost" : Str) = some v0 := by
  unfold ff_Rank
  rw [lookup_putF, if_neg (by decide +kernel), lookup_putF, if_pos rfl]
theorem lk_Rank_name {v0 v1 : V} : (ff_Rank v0 v1).lookup ("name" : Str) = some v1 := by
  unfold ff_Rank
  rw [lookup_putF, if_pos rfl]
theorem no_Rank {v0 v1 : V} {m : Str} (h0 : ¬ m = "cost" := by decide +kernel) (h1 : ¬ m = "name" := by decide +kernel) : (ff_Rank v0 v1).lookup m = none := by
  unfold ff_Rank
  rw [lookup_putF, if_neg h1, lookup_putF, if_neg h0]
  rfl
theorem putF_le {f : Str} {v : V} {fs : List (Str × V)} {n : Nat} (h : fs.length ≤ n) : (putF f v fs).length ≤ n + 1 := by
  induction fs generalizing n with
  | nil => show 1 ≤ n + 1; omega
  | cons x r ih =>
    obtain ⟨g, y⟩ := x
    show (if g = f then (g, v) :: r else (g, y) :: putF f v r).length ≤ n + 1
    rw [List.length_cons] at h
    by_cases e : g = f
    · rw [if_pos e, List.length_cons]; omega
    · rw [if_neg e, List.length_cons]
      have := ih (n := r.length) (Nat.le_refl _)
      omega
/-! what the top has made -/
set_option maxHeartbeats 0 in
structure Txt (w : World) (K : PySem.W.Frag) (mg : Str → Option Value) where
  f_law_row : Addr
  d_law_row : FuncData
  F_law_row : Fun K "_law_row" "_law_row" s_law_row f_law_row d_law_row
  b_law_row : Binds K d_law_row ["script", "k"] []
  g_law_row : mg "_law_row" = some (.ref f_law_row)
  f_law_next : Addr
  d_law_next : FuncData
  F_law_next : Fun K "_law_next" "_law_next" s_law_next f_law_next d_law_next
  b_law_next : Binds K d_law_next ["state", "many"] []
  g_law_next : mg "_law_next" = some (.ref f_law_next)
  f_law_fields : Addr
  d_law_fields : FuncData
  F_law_fields : Fun K "_law_fields" "_law_fields" s_law_fields f_law_fields d_law_fields
  b_law_fields : Binds K d_law_fields ["state"] []
  g_law_fields : mg "_law_fields" = some (.ref f_law_fields)
  f_law_schema : Addr
  d_law_schema : FuncData
  F_law_schema : Fun K "_law_schema" "_law_schema" s_law_schema f_law_schema d_law_schema
  b_law_schema : Binds K d_law_schema ["state"] []
  g_law_schema : mg "_law_schema" = some (.ref f_law_schema)
  f_check_vectors : Addr
  d_check_vectors : FuncData
  F_check_vectors : Fun K "check_vectors" "check_vectors" s_check_vectors f_check_vectors d_check_vectors
  b_check_vectors : Binds K d_check_vectors ["size", "width", "measure"] []
  g_check_vectors : mg "check_vectors" = some (.ref f_check_vectors)
  f_is_letter : Addr
  d_is_letter : FuncData
  F_is_letter : Fun K "is_letter" "is_letter" s_is_letter f_is_letter d_is_letter
  b_is_letter : Binds K d_is_letter ["char"] []
  g_is_letter : mg "is_letter" = some (.ref f_is_letter)
  f_is_digit : Addr
  d_is_digit : FuncData
  F_is_digit : Fun K "is_digit" "is_digit" s_is_digit f_is_digit d_is_digit
  b_is_digit : Binds K d_is_digit ["char"] []
  g_is_digit : mg "is_digit" = some (.ref f_is_digit)
  f_is_word : Addr
  d_is_word : FuncData
  F_is_word : Fun K "is_word" "is_word" s_is_word f_is_word d_is_word
  b_is_word : Binds K d_is_word ["text"] []
  g_is_word : mg "is_word" = some (.ref f_is_word)
  f_check_fields : Addr
  d_check_fields : FuncData
  F_check_fields : Fun K "check_fields" "check_fields" s_check_fields f_check_fields d_check_fields
  b_check_fields : Binds K d_check_fields ["fields"] []
  g_check_fields : mg "check_fields" = some (.ref f_check_fields)
  f_Schema___init__ : Addr
  d_Schema___init__ : FuncData
  e_Schema___init___fields : Addr
  et_Schema___init___fields : ∀ H, SqT K H e_Schema___init___fields []
  F_Schema___init__ : FunD K "__init__" "Schema.__init__" (defArgs s_Schema___init__) (defBody s_Schema___init__) (defScope s_Schema___init__) [] [("width", .str "small"), ("measure", .str "square"), ("fields", .ref e_Schema___init___fields)] f_Schema___init__ d_Schema___init__
  kb_Schema___init__ : KBn K d_Schema___init__ ["self", "size", "width", "measure", "fields"] 2 ["width", "measure", "fields"] (fun us ws => us ++ ws) (fun vs zs => vs ++ zs)
  ds_Schema___init__ : List Value
  v_Schema___init__ : Vals [.str "small", .str "square", .ref e_Schema___init___fields] ds_Schema___init__
  b_Schema___init__ : Binds K d_Schema___init__ ["self", "size", "width", "measure", "fields"] ds_Schema___init__
  f_law_number : Addr
  d_law_number : FuncData
  F_law_number : Fun K "_law_number" "_law_number" s_law_number f_law_number d_law_number
  b_law_number : Binds K d_law_number ["state", "width"] []
  g_law_number : mg "_law_number" = some (.ref f_law_number)
  f_law_query : Addr
  d_law_query : FuncData
  F_law_query : Fun K "_law_query" "_law_query" s_law_query f_law_query d_law_query
  b_law_query : Binds K d_law_query ["state", "drawn"] []
  g_law_query : mg "_law_query" = some (.ref f_law_query)
  f_are_within : Addr
  d_are_within : FuncData
  F_are_within : Fun K "are_within" "are_within" s_are_within f_are_within d_are_within
  b_are_within : Binds K d_are_within ["vector", "width"] []
  g_are_within : mg "are_within" = some (.ref f_are_within)
  f_check_query : Addr
  d_check_query : FuncData
  F_check_query : Fun K "check_query" "check_query" s_check_query f_check_query d_check_query
  b_check_query : Binds K d_check_query ["schema", "query"] []
  g_check_query : mg "check_query" = some (.ref f_check_query)
  f_FilterReader_is_at : Addr
  d_FilterReader_is_at : FuncData
  F_FilterReader_is_at : Fun K "is_at" "FilterReader.is_at" s_FilterReader_is_at f_FilterReader_is_at d_FilterReader_is_at
  b_FilterReader_is_at : Binds K d_FilterReader_is_at ["self", "kind"] []
  f_FilterReader_sees : Addr
  d_FilterReader_sees : FuncData
  F_FilterReader_sees : Fun K "sees" "FilterReader.sees" s_FilterReader_sees f_FilterReader_sees d_FilterReader_sees
  b_FilterReader_sees : Binds K d_FilterReader_sees ["self", "kind", "value"] []
  f_FilterReader_skips : Addr
  d_FilterReader_skips : FuncData
  F_FilterReader_skips : Fun K "skips" "FilterReader.skips" s_FilterReader_skips f_FilterReader_skips d_FilterReader_skips
  b_FilterReader_skips : Binds K d_FilterReader_skips ["self", "kind", "value"] []
  f_differing : Addr
  d_differing : FuncData
  F_differing : Fun K "differing" "differing" s_differing f_differing d_differing
  b_differing : Binds K d_differing ["a", "b"] []
  g_differing : mg "differing" = some (.ref f_differing)
  f_distance : Addr
  d_distance : FuncData
  F_distance : Fun K "distance" "distance" s_distance f_distance d_distance
  b_distance : Binds K d_distance ["a", "b"] []
  g_distance : mg "distance" = some (.ref f_distance)
  f_inner : Addr
  d_inner : FuncData
  F_inner : Fun K "inner" "inner" s_inner f_inner d_inner
  b_inner : Binds K d_inner ["a", "b"] []
  g_inner : mg "inner" = some (.ref f_inner)
  f_Schema_far : Addr
  d_Schema_far : FuncData
  F_Schema_far : Fun K "far" "Schema.far" s_Schema_far f_Schema_far d_Schema_far
  b_Schema_far : Binds K d_Schema_far ["self", "a", "b"] []
  f_Record_count_of : Addr
  d_Record_count_of : FuncData
  F_Record_count_of : Fun K "count_of" "Record.count_of" s_Record_count_of f_Record_count_of d_Record_count_of
  b_Record_count_of : Binds K d_Record_count_of ["self", "word"] []
  f_Question_cost : Addr
  d_Question_cost : FuncData
  F_Question_cost : Fun K "cost" "Question.cost" s_Question_cost f_Question_cost d_Question_cost
  b_Question_cost : Binds K d_Question_cost ["self", "record"] []
  f_Rank___init__ : Addr
  d_Rank___init__ : FuncData
  F_Rank___init__ : Fun K "__init__" "Rank.__init__" s_Rank___init__ f_Rank___init__ d_Rank___init__
  b_Rank___init__ : Binds K d_Rank___init__ ["self", "cost", "name"] []
  f_Token___init__ : Addr
  d_Token___init__ : FuncData
  F_Token___init__ : Fun K "__init__" "Token.__init__" s_Token___init__ f_Token___init__ d_Token___init__
  b_Token___init__ : Binds K d_Token___init__ ["self", "kind", "value", "place"] []
  f_word_at : Addr
  d_word_at : FuncData
  F_word_at : Fun K "word_at" "word_at" s_word_at f_word_at d_word_at
  b_word_at : Binds K d_word_at ["text", "start"] []
  g_word_at : mg "word_at" = some (.ref f_word_at)
  f_token_at : Addr
  d_token_at : FuncData
  F_token_at : Fun K "token_at" "token_at" s_token_at f_token_at d_token_at
  b_token_at : Binds K d_token_at ["text", "start"] []
  g_token_at : mg "token_at" = some (.ref f_token_at)
  f_read_tokens : Addr
  d_read_tokens : FuncData
  F_read_tokens : Fun K "read_tokens" "read_tokens" s_read_tokens f_read_tokens d_read_tokens
  b_read_tokens : Binds K d_read_tokens ["text"] []
  g_read_tokens : mg "read_tokens" = some (.ref f_read_tokens)
  f_FilterReader___init__ : Addr
  d_FilterReader___init__ : FuncData
  F_FilterReader___init__ : Fun K "__init__" "FilterReader.__init__" s_FilterReader___init__ f_FilterReader___init__ d_FilterReader___init__
  b_FilterReader___init__ : Binds K d_FilterReader___init__ ["self", "schema", "text"] []
  f_Query___init__ : Addr
  d_Query___init__ : FuncData
  e_Query___init___words : Addr
  et_Query___init___words : ∀ H, SqT K H e_Query___init___words []
  F_Query___init__ : FunD K "__init__" "Query.__init__" (defArgs s_Query___init__) (defBody s_Query___init__) (defScope s_Query___init__) [] [("near", .int (1)), ("words", .ref e_Query___init___words), ("text", .str "every"), ("most", .int (1))] f_Query___init__ d_Query___init__
  kb_Query___init__ : KBn K d_Query___init__ ["self", "vector", "near", "words", "text", "most"] 2 ["near", "words", "text", "most"] (fun us ws => us ++ ws) (fun vs zs => vs ++ zs)
  mv_Query___init___k0 : List Value
  kb_Query___init___k0 : KBn K d_Query___init__ ["self", "vector", "near", "words", "text", "most"] 2 ["near", "words", "most"] (fun us ws => us ++ ((ws.drop 0).take 1 ++ ((ws.drop 1).take 1 ++ ((mv_Query___init___k0.drop 0).take 1 ++ ((ws.drop 2).take 1))))) (fun vs zs => vs ++ ((zs.drop 0).take 1 ++ ((zs.drop 1).take 1 ++ (([.str "every"].drop 0).take 1 ++ ((zs.drop 2).take 1)))))
  ds_Query___init__ : List Value
  v_Query___init__ : Vals [.int (1), .ref e_Query___init___words, .str "every", .int (1)] ds_Query___init__
  b_Query___init__ : Binds K d_Query___init__ ["self", "vector", "near", "words", "text", "most"] ds_Query___init__
  f_Record___init__ : Addr
  d_Record___init__ : FuncData
  e_Record___init___fields : Addr
  et_Record___init___fields : ∀ H, SqT K H e_Record___init___fields []
  e_Record___init___words : Addr
  et_Record___init___words : ∀ H, SqT K H e_Record___init___words []
  F_Record___init__ : FunD K "__init__" "Record.__init__" (defArgs s_Record___init__) (defBody s_Record___init__) (defScope s_Record___init__) [] [("fields", .ref e_Record___init___fields), ("words", .ref e_Record___init___words)] f_Record___init__ d_Record___init__
  kb_Record___init__ : KBn K d_Record___init__ ["self", "name", "vector", "fields", "words"] 3 ["fields", "words"] (fun us ws => us ++ ws) (fun vs zs => vs ++ zs)
  ds_Record___init__ : List Value
  v_Record___init__ : Vals [.ref e_Record___init___fields, .ref e_Record___init___words] ds_Record___init__
  b_Record___init__ : Binds K d_Record___init__ ["self", "name", "vector", "fields", "words"] ds_Record___init__
  f_FilterReader_single : Addr
  d_FilterReader_single : FuncData
  F_FilterReader_single : Fun K "single" "FilterReader.single" s_FilterReader_single f_FilterReader_single d_FilterReader_single
  b_FilterReader_single : Binds K d_FilterReader_single ["self"] []
  f_FilterReader_all_of : Addr
  d_FilterReader_all_of : FuncData
  F_FilterReader_all_of : Fun K "all_of" "FilterReader.all_of" s_FilterReader_all_of f_FilterReader_all_of d_FilterReader_all_of
  b_FilterReader_all_of : Binds K d_FilterReader_all_of ["self"] []
  f_FilterReader_any_of : Addr
  d_FilterReader_any_of : FuncData
  F_FilterReader_any_of : Fun K "any_of" "FilterReader.any_of" s_FilterReader_any_of f_FilterReader_any_of d_FilterReader_any_of
  b_FilterReader_any_of : Binds K d_FilterReader_any_of ["self"] []
  f_FilterReader_whole : Addr
  d_FilterReader_whole : FuncData
  F_FilterReader_whole : Fun K "whole" "FilterReader.whole" s_FilterReader_whole f_FilterReader_whole d_FilterReader_whole
  b_FilterReader_whole : Binds K d_FilterReader_whole ["self"] []
  f_read_filter : Addr
  d_read_filter : FuncData
  F_read_filter : Fun K "read_filter" "read_filter" s_read_filter f_read_filter d_read_filter
  b_read_filter : Binds K d_read_filter ["schema", "text"] []
  g_read_filter : mg "read_filter" = some (.ref f_read_filter)
  f_Question___init__ : Addr
  d_Question___init__ : FuncData
  F_Question___init__ : Fun K "__init__" "Question.__init__" s_Question___init__ f_Question___init__ d_Question___init__
  b_Question___init__ : Binds K d_Question___init__ ["self", "schema", "query"] []
  f_law_name : Addr
  d_law_name : FuncData
  F_law_name : Fun K "_law_name" "_law_name" s_law_name f_law_name d_law_name
  b_law_name : Binds K d_law_name ["state"] []
  g_law_name : mg "_law_name" = some (.ref f_law_name)
  f_law_words : Addr
  d_law_words : FuncData
  F_law_words : Fun K "_law_words" "_law_words" s_law_words f_law_words d_law_words
  b_law_words : Binds K d_law_words ["state"] []
  g_law_words : mg "_law_words" = some (.ref f_law_words)
  f_law_far : Addr
  d_law_far : FuncData
  F_law_far : Fun K "_law_far" "_law_far" s_law_far f_law_far d_law_far
  b_law_far : Binds K d_law_far ["measure", "a", "b"] []
  g_law_far : mg "_law_far" = some (.ref f_law_far)
  f_law_cost : Addr
  d_law_cost : FuncData
  F_law_cost : Fun K "_law_cost" "_law_cost" s_law_cost f_law_cost d_law_cost
  b_law_cost : Binds K d_law_cost ["measure", "query", "vector", "words"] []
  g_law_cost : mg "_law_cost" = some (.ref f_law_cost)
  f_law_value : Addr
  d_law_value : FuncData
  F_law_value : Fun K "_law_value" "_law_value" s_law_value f_law_value d_law_value
  b_law_value : Binds K d_law_value ["state", "kind"] []
  g_law_value : mg "_law_value" = some (.ref f_law_value)
  f_law_pairs : Addr
  d_law_pairs : FuncData
  F_law_pairs : Fun K "_law_pairs" "_law_pairs" s_law_pairs f_law_pairs d_law_pairs
  b_law_pairs : Binds K d_law_pairs ["state", "fields"] []
  g_law_pairs : mg "_law_pairs" = some (.ref f_law_pairs)
  f_Question_rank : Addr
  d_Question_rank : FuncData
  F_Question_rank : Fun K "rank" "Question.rank" s_Question_rank f_Question_rank d_Question_rank
  b_Question_rank : Binds K d_Question_rank ["self", "record"] []
  f_Rank___eq__ : Addr
  d_Rank___eq__ : FuncData
  F_Rank___eq__ : Fun K "__eq__" "Rank.__eq__" s_Rank___eq__ f_Rank___eq__ d_Rank___eq__
  b_Rank___eq__ : Binds K d_Rank___eq__ ["self", "other"] []
  f_law : Addr
  d_law : FuncData
  F_law : Fun K "law" "law" s_law f_law d_law
  b_law : Binds K d_law ["script"] []
  g_law : mg "law" = some (.ref f_law)
  c_InvalidQuery : Addr
  mc_InvalidQuery : mg "InvalidQuery" = some (.ref c_InvalidQuery)
  kp_InvalidQuery : PySem.W.keepIn K (.ref c_InvalidQuery) = true
  x_InvalidQuery : PySem.W.excIn K c_InvalidQuery [.type "ValueError", .type "Exception", .type "BaseException", .type "object"] "ValueError.__new__" = true
  xb_InvalidQuery : PySem.W.subIn K (.ref c_InvalidQuery) (.type "BaseException") = some true
  xt_InvalidQuery : PySem.W.typeIn K (.ref c_InvalidQuery) = some (.type "type")
  c_InvalidSchema : Addr
  mc_InvalidSchema : mg "InvalidSchema" = some (.ref c_InvalidSchema)
  kp_InvalidSchema : PySem.W.keepIn K (.ref c_InvalidSchema) = true
  x_InvalidSchema : PySem.W.excIn K c_InvalidSchema [.type "ValueError", .type "Exception", .type "BaseException", .type "object"] "ValueError.__new__" = true
  xb_InvalidSchema : PySem.W.subIn K (.ref c_InvalidSchema) (.type "BaseException") = some true
  xt_InvalidSchema : PySem.W.typeIn K (.ref c_InvalidSchema) = some (.type "type")
  c_Schema : Addr
  cl_Schema : Cls K c_Schema
  mc_Schema : mg "Schema" = some (.ref c_Schema)
  n_Schema_size : NoAttr K c_Schema "size"
  n_Schema_width : NoAttr K c_Schema "width"
  n_Schema_measure : NoAttr K c_Schema "measure"
  n_Schema_fields : NoAttr K c_Schema "fields"
  mk_Schema : Mk K c_Schema f_Schema___init__
  me_Schema_far : Meth K c_Schema "far" f_Schema_far
  c_Query : Addr
  cl_Query : Cls K c_Query
  mc_Query : mg "Query" = some (.ref c_Query)
  n_Query_vector : NoAttr K c_Query "vector"
  n_Query_near : NoAttr K c_Query "near"
  n_Query_words : NoAttr K c_Query "words"
  n_Query_text : NoAttr K c_Query "text"
  n_Query_most : NoAttr K c_Query "most"
  mk_Query : Mk K c_Query f_Query___init__
  c_Record : Addr
  cl_Record : Cls K c_Record
  mc_Record : mg "Record" = some (.ref c_Record)
  n_Record_name : NoAttr K c_Record "name"
  n_Record_vector : NoAttr K c_Record "vector"
  n_Record_fields : NoAttr K c_Record "fields"
  n_Record_words : NoAttr K c_Record "words"
  mk_Record : Mk K c_Record f_Record___init__
  me_Record_count_of : Meth K c_Record "count_of" f_Record_count_of
  c_Token : Addr
  cl_Token : Cls K c_Token
  mc_Token : mg "Token" = some (.ref c_Token)
  n_Token_kind : NoAttr K c_Token "kind"
  n_Token_value : NoAttr K c_Token "value"
  n_Token_place : NoAttr K c_Token "place"
  mk_Token : Mk K c_Token f_Token___init__
  c_Every : Addr
  cl_Every : Cls K c_Every
  mc_Every : mg "Every" = some (.ref c_Every)
  mb_Every : MkB K c_Every
  c_FilterReader : Addr
  cl_FilterReader : Cls K c_FilterReader
  mc_FilterReader : mg "FilterReader" = some (.ref c_FilterReader)
  n_FilterReader_schema : NoAttr K c_FilterReader "schema"
  n_FilterReader_tokens : NoAttr K c_FilterReader "tokens"
  n_FilterReader_length : NoAttr K c_FilterReader "length"
  n_FilterReader_at : NoAttr K c_FilterReader "at"
  n_FilterReader_deep : NoAttr K c_FilterReader "deep"
  mk_FilterReader : Mk K c_FilterReader f_FilterReader___init__
  me_FilterReader_is_at : Meth K c_FilterReader "is_at" f_FilterReader_is_at
  me_FilterReader_sees : Meth K c_FilterReader "sees" f_FilterReader_sees
  me_FilterReader_skips : Meth K c_FilterReader "skips" f_FilterReader_skips
  me_FilterReader_single : Meth K c_FilterReader "single" f_FilterReader_single
  me_FilterReader_all_of : Meth K c_FilterReader "all_of" f_FilterReader_all_of
  me_FilterReader_any_of : Meth K c_FilterReader "any_of" f_FilterReader_any_of
  me_FilterReader_whole : Meth K c_FilterReader "whole" f_FilterReader_whole
  c_Question : Addr
  cl_Question : Cls K c_Question
  mc_Question : mg "Question" = some (.ref c_Question)
  n_Question_schema : NoAttr K c_Question "schema"
  n_Question_query : NoAttr K c_Question "query"
  n_Question_condition : NoAttr K c_Question "condition"
  mk_Question : Mk K c_Question f_Question___init__
  me_Question_cost : Meth K c_Question "cost" f_Question_cost
  me_Question_rank : Meth K c_Question "rank" f_Question_rank
  c_Rank : Addr
  cl_Rank : Cls K c_Rank
  mc_Rank : mg "Rank" = some (.ref c_Rank)
  n_Rank_cost : NoAttr K c_Rank "cost"
  n_Rank_name : NoAttr K c_Rank "name"
  mk_Rank : Mk K c_Rank f_Rank___init__
  me_Rank___eq__ : Meth K c_Rank "__eq__" f_Rank___eq__
  ha_Rank : PySem.W.findIn K (.ref c_Rank) "__class__" = some (some (.builtin "object.__class__"))
  hm_Rank : PySem.W.mroIn K c_Rank (.type "object") = some true
  kit_Rank_Rank : PySem.W.kitOne K (.ref c_Rank) (.ref c_Rank) = some true
  hn0 : PySem.W.specialIn K (.builtin "object.__class__") "__get__" = some (some (.builtin "getset_descriptor.__get__"))
  ht0 : PySem.W.takesIn K (.builtin "object.__class__") = some true
  a_KINDS : Addr
  m_KINDS : mg "KINDS" = some (.ref a_KINDS)
  sq_KINDS : ∀ H, SqT K H a_KINDS [.str "integer", .str "text", .str "flag"]
  a_MEASURES : Addr
  m_MEASURES : mg "MEASURES" = some (.ref a_MEASURES)
  sq_MEASURES : ∀ H, SqT K H a_MEASURES [.str "square", .str "dot", .str "bits"]
  m_MOST_COUNT : ∃ t, mg "MOST_COUNT" = some (.int 15 t)
  a_RESERVED : Addr
  m_RESERVED : mg "RESERVED" = some (.ref a_RESERVED)
  sq_RESERVED : ∀ H, SqT K H a_RESERVED [.str "every", .str "has", .str "in", .str "and", .str "or", .str "not", .str "true", .str "false"]
  a_WIDTHS : Addr
  m_WIDTHS : mg "WIDTHS" = some (.ref a_WIDTHS)
  es_WIDTHS : Array DictEntry
  en_WIDTHS : Nat
  kd_WIDTHS : KDict K w a_WIDTHS es_WIDTHS en_WIDTHS
  av_WIDTHS_bit : Addr
  ns_WIDTHS_bit : PySem.W.nsIn K a_WIDTHS "bit" = some (some (.ref av_WIDTHS_bit))
  sv_WIDTHS_bit : ∀ H, SqT K H av_WIDTHS_bit [.int (0), .int (1)]
  av_WIDTHS_small : Addr
  ns_WIDTHS_small : PySem.W.nsIn K a_WIDTHS "small" = some (some (.ref av_WIDTHS_small))
  sv_WIDTHS_small : ∀ H, SqT K H av_WIDTHS_small [.int (-128), .int (127)]
  av_WIDTHS_wide : Addr
  ns_WIDTHS_wide : PySem.W.nsIn K a_WIDTHS "wide" = some (some (.ref av_WIDTHS_wide))
  sv_WIDTHS_wide : ∀ H, SqT K H av_WIDTHS_wide [.int (-32768), .int (32767)]
  m_all : mg "all" = none
  m_any : mg "any" = none
  m_bool : mg "bool" = none
  m_int : mg "int" = none
  m_isinstance : mg "isinstance" = none
  m_len : mg "len" = none
  m_list : mg "list" = none
  m_max : mg "max" = none
  m_min : mg "min" = none
  m_range : mg "range" = none
  m_set : mg "set" = none
  m_sum : mg "sum" = none
  m_tuple : mg "tuple" = none
  m_zip : mg "zip" = none
section
variable {P : Program} {w : World} {K : PySem.W.Frag} {mg : Str → Option Value} {base : Heap}
def y_Schema (T : Txt w K mg) : Ty Schema := ⟨fun Z v x => ∃ a dx w0 w1 w2 w3, v = .ref a ∧ Z a = some (.ins T.c_Schema dx (ff_Schema w0 w1 w2 w3)) ∧ (yInt).r Z w0 x.size ∧ (yStr).r Z w1 x.width ∧ (yStr).r Z w2 x.measure ∧ ((yTup K (yP2 K yStr yStr))).r Z w3 x.fields,
  fun s ⟨a, dx, w0, w1, w2, w3, e, h, h0, h1, h2, h3⟩ => ⟨a, dx, w0, w1, w2, w3, e, s _ _ h, (yInt).mono s h0, (yStr).mono s h1, (yStr).mono s h2, ((yTup K (yP2 K yStr yStr))).mono s h3⟩⟩
theorem nn_Schema (T : Txt w K mg) : NonNil (y_Schema T) := fun _ _ _ ⟨_, _, _, _, _, _, e, _⟩ => by rw [e]; exact fun z => nomatch z
theorem fo_Schema_size (T : Txt w K mg) : FldOf (y_Schema T) T.c_Schema "size" yInt Schema.size := fun _ _ _ ⟨a, dx, w0, w1, w2, w3, e, h, h0, h1, h2, h3⟩ => ⟨a, dx, _, w0, e, h, lk_Schema_size, h0⟩
theorem fo_Schema_width (T : Txt w K mg) : FldOf (y_Schema T) T.c_Schema "width" yStr Schema.width := fun _ _ _ ⟨a, dx, w0, w1, w2, w3, e, h, h0, h1, h2, h3⟩ => ⟨a, dx, _, w1, e, h, lk_Schema_width, h1⟩
theorem fo_Schema_measure (T : Txt w K mg) : FldOf (y_Schema T) T.c_Schema "measure" yStr Schema.measure := fun _ _ _ ⟨a, dx, w0, w1, w2, w3, e, h, h0, h1, h2, h3⟩ => ⟨a, dx, _, w2, e, h, lk_Schema_measure, h2⟩
theorem fo_Schema_fields (T : Txt w K mg) : FldOf (y_Schema T) T.c_Schema "fields" (yTup K (yP2 K yStr yStr)) Schema.fields := fun _ _ _ ⟨a, dx, w0, w1, w2, w3, e, h, h0, h1, h2, h3⟩ => ⟨a, dx, _, w3, e, h, lk_Schema_fields, h3⟩
theorem oo_Schema (T : Txt w K mg) {m : Str} (h : ¬ m = "size" ∧ ¬ m = "width" ∧ ¬ m = "measure" ∧ ¬ m = "fields") : ObjOf (y_Schema T) T.c_Schema m := fun _ _ _ ⟨a, dx, w0, w1, w2, w3, e, g, _⟩ => ⟨a, dx, _, e, g, no_Schema (h.1) (h.2.1) (h.2.2.1) (h.2.2.2)⟩
def y_Query (T : Txt w K mg) : Ty Query := ⟨fun Z v x => ∃ a dx w0 w1 w2 w3 w4, v = .ref a ∧ Z a = some (.ins T.c_Query dx (ff_Query w0 w1 w2 w3 w4)) ∧ ((yTup K yInt)).r Z w0 x.vector ∧ (yInt).r Z w1 x.near ∧ ((yTup K (yP2 K yStr yInt))).r Z w2 x.words ∧ (yStr).r Z w3 x.text ∧ (yInt).r Z w4 x.most,
  fun s ⟨a, dx, w0, w1, w2, w3, w4, e, h, h0, h1, h2, h3, h4⟩ => ⟨a, dx, w0, w1, w2, w3, w4, e, s _ _ h, ((yTup K yInt)).mono s h0, (yInt).mono s h1, ((yTup K (yP2 K yStr yInt))).mono s h2, (yStr).mono s h3, (yInt).mono s h4⟩⟩
theorem nn_Query (T : Txt w K mg) : NonNil (y_Query T) := fun _ _ _ ⟨_, _, _, _, _, _, _, e, _⟩ => by rw [e]; exact fun z => nomatch z
theorem fo_Query_vector (T : Txt w K mg) : FldOf (y_Query T) T.c_Query "vector" (yTup K yInt) Query.vector := fun _ _ _ ⟨a, dx, w0, w1, w2, w3, w4, e, h, h0, h1, h2, h3, h4⟩ => ⟨a, dx, _, w0, e, h, lk_Query_vector, h0⟩
theorem fo_Query_near (T : Txt w K mg) : FldOf (y_Query T) T.c_Query "near" yInt Query.near := fun _ _ _ ⟨a, dx, w0, w1, w2, w3, w4, e, h, h0, h1, h2, h3, h4⟩ => ⟨a, dx, _, w1, e, h, lk_Query_near, h1⟩
theorem fo_Query_words (T : Txt w K mg) : FldOf (y_Query T) T.c_Query "words" (yTup K (yP2 K yStr yInt)) Query.words := fun _ _ _ ⟨a, dx, w0, w1, w2, w3, w4, e, h, h0, h1, h2, h3, h4⟩ => ⟨a, dx, _, w2, e, h, lk_Query_words, h2⟩
theorem fo_Query_text (T : Txt w K mg) : FldOf (y_Query T) T.c_Query "text" yStr Query.text := fun _ _ _ ⟨a, dx, w0, w1, w2, w3, w4, e, h, h0, h1, h2, h3, h4⟩ => ⟨a, dx, _, w3, e, h, lk_Query_text, h3⟩
theorem fo_Query_most (T : Txt w K mg) : FldOf (y_Query T) T.c_Query "most" yInt Query.most := fun _ _ _ ⟨a, dx, w0, w1, w2, w3, w4, e, h, h0, h1, h2, h3, h4⟩ => ⟨a, dx, _, w4, e, h, lk_Query_most, h4⟩
theorem oo_Query (T : Txt w K mg) {m : Str} (h : ¬ m = "vector" ∧ ¬ m = "near" ∧ ¬ m = "words" ∧ ¬ m = "text" ∧ ¬ m = "most") : ObjOf (y_Query T) T.c_Query m := fun _ _ _ ⟨a, dx, w0, w1, w2, w3, w4, e, g, _⟩ => ⟨a, dx, _, e, g, no_Query (h.1) (h.2.1) (h.2.2.1) (h.2.2.2.1) (h.2.2.2.2)⟩
def y_Val (T : Txt w K mg) : Ty Val := ⟨fun Z v x => match x with
  | .i y => (yInt).r Z v y
  | .s y => (yStr).r Z v y
  | .b y => (yBool).r Z v y,
  fun {Z Z2 v x} s h => match x, h with
  | .i y, h => (yInt).mono s h
  | .s y, h => (yStr).mono s h
  | .b y, h => (yBool).mono s h⟩
theorem nn_Val (T : Txt w K mg) : NonNil (y_Val T) := fun Z v x h => match x, h with
  | .i y, h => nn_int Z v y h
  | .s y, h => nn_str Z v y h
  | .b y, h => nn_bool Z v y h
theorem ij_Val_i (T : Txt w K mg) {μ : Type} {M : Mu μ} {σ : L2.St} {Z H : Hp} {s s1 : μ} {ta : TE} {x : Int} (h : Ev M ta σ Z H s (ty yInt x) s1) : Ev M ta σ Z H s (ty (y_Val T) (.i x)) s1 := h.weak fun _ _ _ _ e => e
theorem pj_Val_i (T : Txt w K mg) {μ : Type} {M : Mu μ} {σ : L2.St} {Z H : Hp} {s s1 : μ} {ta : TE} {x : Val} {y : Int} (h : Ev M ta σ Z H s (ty (y_Val T) x) s1) (e : x.p_i = some y) : Ev M ta σ Z H s (ty yInt y) s1 := by
  cases x <;> first | (have e := Option.some.inj e; subst e; exact h.weak fun _ _ _ _ e => e) | cases e
theorem ij_Val_s (T : Txt w K mg) {μ : Type} {M : Mu μ} {σ : L2.St} {Z H : Hp} {s s1 : μ} {ta : TE} {x : Str} (h : Ev M ta σ Z H s (ty yStr x) s1) : Ev M ta σ Z H s (ty (y_Val T) (.s x)) s1 := h.weak fun _ _ _ _ e => e
theorem pj_Val_s (T : Txt w K mg) {μ : Type} {M : Mu μ} {σ : L2.St} {Z H : Hp} {s s1 : μ} {ta : TE} {x : Val} {y : Str} (h : Ev M ta σ Z H s (ty (y_Val T) x) s1) (e : x.p_s = some y) : Ev M ta σ Z H s (ty yStr y) s1 := by
  cases x <;> first | (have e := Option.some.inj e; subst e; exact h.weak fun _ _ _ _ e => e) | cases e
theorem ij_Val_b (T : Txt w K mg) {μ : Type} {M : Mu μ} {σ : L2.St} {Z H : Hp} {s s1 : μ} {ta : TE} {x : Bool} (h : Ev M ta σ Z H s (ty yBool x) s1) : Ev M ta σ Z H s (ty (y_Val T) (.b x)) s1 := h.weak fun _ _ _ _ e => e
theorem pj_Val_b (T : Txt w K mg) {μ : Type} {M : Mu μ} {σ : L2.St} {Z H : Hp} {s s1 : μ} {ta : TE} {x : Val} {y : Bool} (h : Ev M ta σ Z H s (ty (y_Val T) x) s1) (e : x.p_b = some y) : Ev M ta σ Z H s (ty yBool y) s1 := by
  cases x <;> first | (have e := Option.some.inj e; subst e; exact h.weak fun _ _ _ _ e => e) | cases e
theorem eqw_Val (T : Txt w K mg) : EqW K (y_Val T) d_Val 8 where
  dp := fun Z H v x sz h => match x, h with
    | .i y, h => EqW.dp (K := K) (τ := yInt) eqd_int.w Z H v y sz h
    | .s y, h => EqW.dp (K := K) (τ := yStr) eqd_str.w Z H v y sz h
    | .b y, h => EqW.dp (K := K) (τ := yBool) eqd_bool.w Z H v y sz h
  lay := fun Z v x h => match x, h with
    | .i y, h => EqW.lay (K := K) (τ := yInt) eqd_int.w Z v y h
    | .s y, h => EqW.lay (K := K) (τ := yStr) eqd_str.w Z v y h
    | .b y, h => EqW.lay (K := K) (τ := yBool) eqd_bool.w Z v y h
  dep := fun x => match x with
    | .i y => Nat.le_trans (EqW.dep (K := K) (τ := yInt) eqd_int.w y) (by decide)
    | .s y => Nat.le_trans (EqW.dep (K := K) (τ := yStr) eqd_str.w y) (by decide)
    | .b y => Nat.le_trans (EqW.dep (K := K) (τ := yBool) eqd_bool.w y) (by decide)
def y_Record (T : Txt w K mg) : Ty Record := ⟨fun Z v x => ∃ a dx w0 w1 w2 w3, v = .ref a ∧ Z a = some (.ins T.c_Record dx (ff_Record w0 w1 w2 w3)) ∧ (yStr).r Z w0 x.name ∧ ((yTup K yInt)).r Z w1 x.vector ∧ ((yTup K (yP2 K yStr (y_Val T)))).r Z w2 x.fields ∧ ((yTup K (yP2 K yStr yInt))).r Z w3 x.words,
  fun s ⟨a, dx, w0, w1, w2, w3, e, h, h0, h1, h2, h3⟩ => ⟨a, dx, w0, w1, w2, w3, e, s _ _ h, (yStr).mono s h0, ((yTup K yInt)).mono s h1, ((yTup K (yP2 K yStr (y_Val T)))).mono s h2, ((yTup K (yP2 K yStr yInt))).mono s h3⟩⟩
theorem nn_Record (T : Txt w K mg) : NonNil (y_Record T) := fun _ _ _ ⟨_, _, _, _, _, _, e, _⟩ => by rw [e]; exact fun z => nomatch z
theorem fo_Record_name (T : Txt w K mg) : FldOf (y_Record T) T.c_Record "name" yStr Record.name := fun _ _ _ ⟨a, dx, w0, w1, w2, w3, e, h, h0, h1, h2, h3⟩ => ⟨a, dx, _, w0, e, h, lk_Record_name, h0⟩
theorem fo_Record_vector (T : Txt w K mg) : FldOf (y_Record T) T.c_Record "vector" (yTup K yInt) Record.vector := fun _ _ _ ⟨a, dx, w0, w1, w2, w3, e, h, h0, h1, h2, h3⟩ => ⟨a, dx, _, w1, e, h, lk_Record_vector, h1⟩
theorem fo_Record_fields (T : Txt w K mg) : FldOf (y_Record T) T.c_Record "fields" (yTup K (yP2 K yStr (y_Val T))) Record.fields := fun _ _ _ ⟨a, dx, w0, w1, w2, w3, e, h, h0, h1, h2, h3⟩ => ⟨a, dx, _, w2, e, h, lk_Record_fields, h2⟩
theorem fo_Record_words (T : Txt w K mg) : FldOf (y_Record T) T.c_Record "words" (yTup K (yP2 K yStr yInt)) Record.words := fun _ _ _ ⟨a, dx, w0, w1, w2, w3, e, h, h0, h1, h2, h3⟩ => ⟨a, dx, _, w3, e, h, lk_Record_words, h3⟩
theorem oo_Record (T : Txt w K mg) {m : Str} (h : ¬ m = "name" ∧ ¬ m = "vector" ∧ ¬ m = "fields" ∧ ¬ m = "words") : ObjOf (y_Record T) T.c_Record m := fun _ _ _ ⟨a, dx, w0, w1, w2, w3, e, g, _⟩ => ⟨a, dx, _, e, g, no_Record (h.1) (h.2.1) (h.2.2.1) (h.2.2.2)⟩
def y_TV (T : Txt w K mg) : Ty TV := ⟨fun Z v x => match x with
  | .i y => (yInt).r Z v y
  | .s y => (yStr).r Z v y,
  fun {Z Z2 v x} s h => match x, h with
  | .i y, h => (yInt).mono s h
  | .s y, h => (yStr).mono s h⟩
theorem nn_TV (T : Txt w K mg) : NonNil (y_TV T) := fun Z v x h => match x, h with
  | .i y, h => nn_int Z v y h
  | .s y, h => nn_str Z v y h
theorem ij_TV_i (T : Txt w K mg) {μ : Type} {M : Mu μ} {σ : L2.St} {Z H : Hp} {s s1 : μ} {ta : TE} {x : Int} (h : Ev M ta σ Z H s (ty yInt x) s1) : Ev M ta σ Z H s (ty (y_TV T) (.i x)) s1 := h.weak fun _ _ _ _ e => e
theorem pj_TV_i (T : Txt w K mg) {μ : Type} {M : Mu μ} {σ : L2.St} {Z H : Hp} {s s1 : μ} {ta : TE} {x : TV} {y : Int} (h : Ev M ta σ Z H s (ty (y_TV T) x) s1) (e : x.p_i = some y) : Ev M ta σ Z H s (ty yInt y) s1 := by
  cases x <;> first | (have e := Option.some.inj e; subst e; exact h.weak fun _ _ _ _ e => e) | cases e
theorem ij_TV_s (T : Txt w K mg) {μ : Type} {M : Mu μ} {σ : L2.St} {Z H : Hp} {s s1 : μ} {ta : TE} {x : Str} (h : Ev M ta σ Z H s (ty yStr x) s1) : Ev M ta σ Z H s (ty (y_TV T) (.s x)) s1 := h.weak fun _ _ _ _ e => e
theorem pj_TV_s (T : Txt w K mg) {μ : Type} {M : Mu μ} {σ : L2.St} {Z H : Hp} {s s1 : μ} {ta : TE} {x : TV} {y : Str} (h : Ev M ta σ Z H s (ty (y_TV T) x) s1) (e : x.p_s = some y) : Ev M ta σ Z H s (ty yStr y) s1 := by
  cases x <;> first | (have e := Option.some.inj e; subst e; exact h.weak fun _ _ _ _ e => e) | cases e
theorem eqw_TV (T : Txt w K mg) : EqW K (y_TV T) d_TV 8 where
  dp := fun Z H v x sz h => match x, h with
    | .i y, h => EqW.dp (K := K) (τ := yInt) eqd_int.w Z H v y sz h
    | .s y, h => EqW.dp (K := K) (τ := yStr) eqd_str.w Z H v y sz h
  lay := fun Z v x h => match x, h with
    | .i y, h => EqW.lay (K := K) (τ := yInt) eqd_int.w Z v y h
    | .s y, h => EqW.lay (K := K) (τ := yStr) eqd_str.w Z v y h
  dep := fun x => match x with
    | .i y => Nat.le_trans (EqW.dep (K := K) (τ := yInt) eqd_int.w y) (by decide)
    | .s y => Nat.le_trans (EqW.dep (K := K) (τ := yStr) eqd_str.w y) (by decide)
def y_Token (T : Txt w K mg) : Ty Token := ⟨fun Z v x => ∃ a dx w0 w1 w2, v = .ref a ∧ Z a = some (.ins T.c_Token dx (ff_Token w0 w1 w2)) ∧ (yStr).r Z w0 x.kind ∧ ((y_TV T)).r Z w1 x.value ∧ (yInt).r Z w2 x.place,
  fun s ⟨a, dx, w0, w1, w2, e, h, h0, h1, h2⟩ => ⟨a, dx, w0, w1, w2, e, s _ _ h, (yStr).mono s h0, ((y_TV T)).mono s h1, (yInt).mono s h2⟩⟩
theorem nn_Token (T : Txt w K mg) : NonNil (y_Token T) := fun _ _ _ ⟨_, _, _, _, _, e, _⟩ => by rw [e]; exact fun z => nomatch z
theorem fo_Token_kind (T : Txt w K mg) : FldOf (y_Token T) T.c_Token "kind" yStr Token.kind := fun _ _ _ ⟨a, dx, w0, w1, w2, e, h, h0, h1, h2⟩ => ⟨a, dx, _, w0, e, h, lk_Token_kind, h0⟩
theorem fo_Token_value (T : Txt w K mg) : FldOf (y_Token T) T.c_Token "value" (y_TV T) Token.value := fun _ _ _ ⟨a, dx, w0, w1, w2, e, h, h0, h1, h2⟩ => ⟨a, dx, _, w1, e, h, lk_Token_value, h1⟩
theorem fo_Token_place (T : Txt w K mg) : FldOf (y_Token T) T.c_Token "place" yInt Token.place := fun _ _ _ ⟨a, dx, w0, w1, w2, e, h, h0, h1, h2⟩ => ⟨a, dx, _, w2, e, h, lk_Token_place, h2⟩
theorem oo_Token (T : Txt w K mg) {m : Str} (h : ¬ m = "kind" ∧ ¬ m = "value" ∧ ¬ m = "place") : ObjOf (y_Token T) T.c_Token m := fun _ _ _ ⟨a, dx, w0, w1, w2, e, g, _⟩ => ⟨a, dx, _, e, g, no_Token (h.1) (h.2.1) (h.2.2)⟩
def y_Every (T : Txt w K mg) : Ty Every := ⟨fun Z v x => ∃ a dx, v = .ref a ∧ Z a = some (.ins T.c_Every dx []) ∧ x = x, fun s ⟨a, dx, e, h, z⟩ => ⟨a, dx, e, s _ _ h, z⟩⟩
theorem nn_Every (T : Txt w K mg) : NonNil (y_Every T) := fun _ _ _ ⟨_, _, e, _, _⟩ => by rw [e]; exact fun z => nomatch z
theorem oo_Every (T : Txt w K mg) {m : Str} (_ : True) : ObjOf (y_Every T) T.c_Every m := fun _ _ _ ⟨a, dx, e, g, _⟩ => ⟨a, dx, _, e, g, rfl⟩
theorem lf_FilterReader {v0 v1 v2 v3 v4 : V} : ff_FilterReader v0 v1 v2 v3 v4 = [(("schema" : Str), v0), (("tokens" : Str), v1), (("length" : Str), v2), (("at" : Str), v3), (("deep" : Str), v4)] := by
  unfold ff_FilterReader
  rw [putF_nil (f := "schema")]
  rw [putF_ne (f := "tokens") (g := "schema") (by decide +kernel), putF_nil (f := "tokens")]
  rw [putF_ne (f := "length") (g := "schema") (by decide +kernel), putF_ne (f := "length") (g := "tokens") (by decide +kernel), putF_nil (f := "length")]
  rw [putF_ne (f := "at") (g := "schema") (by decide +kernel), putF_ne (f := "at") (g := "tokens") (by decide +kernel), putF_ne (f := "at") (g := "length") (by decide +kernel), putF_nil (f := "at")]
  rw [putF_ne (f := "deep") (g := "schema") (by decide +kernel), putF_ne (f := "deep") (g := "tokens") (by decide +kernel), putF_ne (f := "deep") (g := "length") (by decide +kernel), putF_ne (f := "deep") (g := "at") (by decide +kernel), putF_nil (f := "deep")]
theorem lenf_FilterReader {v0 v1 v2 v3 v4 : V} : (ff_FilterReader v0 v1 v2 v3 v4).length ≤ 5 := by
  rw [lf_FilterReader]
  exact Nat.le_refl _
def mu_FilterReader (T : Txt w K mg) (p : Addr) : Mu FilterReader where
  fp := [p]
  m := fun x Z H => Z p = none ∧ (∃ dx w0 w1 w2 w3 w4, H p = some (.ins T.c_FilterReader dx (ff_FilterReader w0 w1 w2 w3 w4)) ∧ ((y_Schema T)).r Z w0 x.schema ∧ ((yList (y_Token T))).r Z w1 x.tokens ∧ (yInt).r Z w2 x.length ∧ (yInt).r Z w3 x.«at» ∧ (yInt).r Z w4 x.deep)
  al := fun ⟨z, ⟨dx, w0, w1, w2, w3, w4, h, _⟩⟩ a ha => by
    rw [List.mem_singleton] at ha; subst ha; exact ⟨some_ne h, z⟩
  loc := fun sz hk hn ⟨z, ⟨dx, w0, w1, w2, w3, w4, h, h0, h1, h2, h3, h4⟩⟩ => ⟨hn p List.mem_cons_self (some_ne h) z, ⟨dx, w0, w1, w2, w3, w4, hk p List.mem_cons_self _ h, ((y_Schema T)).mono sz h0, ((yList (y_Token T))).mono sz h1, (yInt).mono sz h2, (yInt).mono sz h3, (yInt).mono sz h4⟩⟩
theorem mf_FilterReader_schema (T : Txt w K mg) {p : Addr} : MFld (mu_FilterReader T p) p T.c_FilterReader "schema" (y_Schema T) (fun x => x.schema) := fun x Z H ⟨z, ⟨dx, w0, w1, w2, w3, w4, h, h0, h1, h2, h3, h4⟩⟩ => ⟨dx, _, w0, h, lk_FilterReader_schema, h0⟩
theorem pf_FilterReader_schema {w0 w1 w2 w3 w4 v : V} : putF "schema" v (ff_FilterReader w0 w1 w2 w3 w4) = ff_FilterReader v w1 w2 w3 w4 := by
  rw [lf_FilterReader, lf_FilterReader]
  rw [putF_eq]
theorem ms_FilterReader_schema (T : Txt w K mg) {p : Addr} : MSet (mu_FilterReader T p) p T.c_FilterReader "schema" (y_Schema T) (fun x y => { x with schema := y }) := fun x Z H ⟨z, ⟨dx, w0, w1, w2, w3, w4, h, h0, h1, h2, h3, h4⟩⟩ => ⟨List.mem_cons_self, z, dx, _, h, Nat.lt_of_le_of_lt (lenf_FilterReader) (by decide), fun w y r => ⟨z, ⟨dx, w, w1, w2, w3, w4, by rw [upd_same, pf_FilterReader_schema], r, h1, h2, h3, h4⟩⟩⟩
theorem mf_FilterReader_tokens (T : Txt w K mg) {p : Addr} : MFld (mu_FilterReader T p) p T.c_FilterReader "tokens" (yList (y_Token T)) (fun x => x.tokens) := fun x Z H ⟨z, ⟨dx, w0, w1, w2, w3, w4, h, h0, h1, h2, h3, h4⟩⟩ => ⟨dx, _, w1, h, lk_FilterReader_tokens, h1⟩
theorem pf_FilterReader_tokens {w0 w1 w2 w3 w4 v : V} : putF "tokens" v (ff_FilterReader w0 w1 w2 w3 w4) = ff_FilterReader w0 v w2 w3 w4 := by
  rw [lf_FilterReader, lf_FilterReader]
  rw [putF_ne (by decide +kernel), putF_eq]
theorem ms_FilterReader_tokens (T : Txt w K mg) {p : Addr} : MSet (mu_FilterReader T p) p T.c_FilterReader "tokens" (yList (y_Token T)) (fun x y => { x with tokens := y }) := fun x Z H ⟨z, ⟨dx, w0, w1, w2, w3, w4, h, h0, h1, h2, h3, h4⟩⟩ => ⟨List.mem_cons_self, z, dx, _, h, Nat.lt_of_le_of_lt (lenf_FilterReader) (by decide), fun w y r => ⟨z, ⟨dx, w0, w, w2, w3, w4, by rw [upd_same, pf_FilterReader_tokens], h0, r, h2, h3, h4⟩⟩⟩
theorem mf_FilterReader_length (T : Txt w K mg) {p : Addr} : MFld (mu_FilterReader T p) p T.c_FilterReader "length" yInt (fun x => x.length) := fun x Z H ⟨z, ⟨dx, w0, w1, w2, w3, w4, h, h0, h1, h2, h3, h4⟩⟩ => ⟨dx, _, w2, h, lk_FilterReader_length, h2⟩
theorem pf_FilterReader_length {w0 w1 w2 w3 w4 v : V} : putF "length" v (ff_FilterReader w0 w1 w2 w3 w4) = ff_FilterReader w0 w1 v w3 w4 := by
  rw [lf_FilterReader, lf_FilterReader]
  rw [putF_ne (by decide +kernel), putF_ne (by decide +kernel), putF_eq]
theorem ms_FilterReader_length (T : Txt w K mg) {p : Addr} : MSet (mu_FilterReader T p) p T.c_FilterReader "length" yInt (fun x y => { x with length := y }) := fun x Z H ⟨z, ⟨dx, w0, w1, w2, w3, w4, h, h0, h1, h2, h3, h4⟩⟩ => ⟨List.mem_cons_self, z, dx, _, h, Nat.lt_of_le_of_lt (lenf_FilterReader) (by decide), fun w y r => ⟨z, ⟨dx, w0, w1, w, w3, w4, by rw [upd_same, pf_FilterReader_length], h0, h1, r, h3, h4⟩⟩⟩
theorem mf_FilterReader_at (T : Txt w K mg) {p : Addr} : MFld (mu_FilterReader T p) p T.c_FilterReader "at" yInt (fun x => x.«at») := fun x Z H ⟨z, ⟨dx, w0, w1, w2, w3, w4, h, h0, h1, h2, h3, h4⟩⟩ => ⟨dx, _, w3, h, lk_FilterReader_at, h3⟩
theorem pf_FilterReader_at {w0 w1 w2 w3 w4 v : V} : putF "at" v (ff_FilterReader w0 w1 w2 w3 w4) = ff_FilterReader w0 w1 w2 v w4 := by
  rw [lf_FilterReader, lf_FilterReader]
  rw [putF_ne (by decide +kernel), putF_ne (by decide +kernel), putF_ne (by decide +kernel), putF_eq]
theorem ms_FilterReader_at (T : Txt w K mg) {p : Addr} : MSet (mu_FilterReader T p) p T.c_FilterReader "at" yInt (fun x y => { x with «at» := y }) := fun x Z H ⟨z, ⟨dx, w0, w1, w2, w3, w4, h, h0, h1, h2, h3, h4⟩⟩ => ⟨List.mem_cons_self, z, dx, _, h, Nat.lt_of_le_of_lt (lenf_FilterReader) (by decide), fun w y r => ⟨z, ⟨dx, w0, w1, w2, w, w4, by rw [upd_same, pf_FilterReader_at], h0, h1, h2, r, h4⟩⟩⟩
theorem mf_FilterReader_deep (T : Txt w K mg) {p : Addr} : MFld (mu_FilterReader T p) p T.c_FilterReader "deep" yInt (fun x => x.deep) := fun x Z H ⟨z, ⟨dx, w0, w1, w2, w3, w4, h, h0, h1, h2, h3, h4⟩⟩ => ⟨dx, _, w4, h, lk_FilterReader_deep, h4⟩
theorem pf_FilterReader_deep {w0 w1 w2 w3 w4 v : V} : putF "deep" v (ff_FilterReader w0 w1 w2 w3 w4) = ff_FilterReader w0 w1 w2 w3 v := by
  rw [lf_FilterReader, lf_FilterReader]
  rw [putF_ne (by decide +kernel), putF_ne (by decide +kernel), putF_ne (by decide +kernel), putF_ne (by decide +kernel), putF_eq]
theorem ms_FilterReader_deep (T : Txt w K mg) {p : Addr} : MSet (mu_FilterReader T p) p T.c_FilterReader "deep" yInt (fun x y => { x with deep := y }) := fun x Z H ⟨z, ⟨dx, w0, w1, w2, w3, w4, h, h0, h1, h2, h3, h4⟩⟩ => ⟨List.mem_cons_self, z, dx, _, h, Nat.lt_of_le_of_lt (lenf_FilterReader) (by decide), fun w y r => ⟨z, ⟨dx, w0, w1, w2, w3, w, by rw [upd_same, pf_FilterReader_deep], h0, h1, h2, h3, r⟩⟩⟩
theorem mo_FilterReader (T : Txt w K mg) {p : Addr} {m : Str} (hh : ¬ m = "schema" ∧ ¬ m = "tokens" ∧ ¬ m = "length" ∧ ¬ m = "at" ∧ ¬ m = "deep") : MObj (mu_FilterReader T p) p T.c_FilterReader m := fun x Z H ⟨z, ⟨dx, w0, w1, w2, w3, w4, h, h0, h1, h2, h3, h4⟩⟩ => ⟨dx, _, h, no_FilterReader (hh.1) (hh.2.1) (hh.2.2.1) (hh.2.2.2.1) (hh.2.2.2.2)⟩
def y_Question (T : Txt w K mg) : Ty Question := ⟨fun Z v x => ∃ a dx w0 w1 w2, v = .ref a ∧ Z a = some (.ins T.c_Question dx (ff_Question w0 w1 w2)) ∧ ((y_Schema T)).r Z w0 x.schema ∧ ((y_Query T)).r Z w1 x.query ∧ ((y_Every T)).r Z w2 x.condition,
  fun s ⟨a, dx, w0, w1, w2, e, h, h0, h1, h2⟩ => ⟨a, dx, w0, w1, w2, e, s _ _ h, ((y_Schema T)).mono s h0, ((y_Query T)).mono s h1, ((y_Every T)).mono s h2⟩⟩
theorem nn_Question (T : Txt w K mg) : NonNil (y_Question T) := fun _ _ _ ⟨_, _, _, _, _, e, _⟩ => by rw [e]; exact fun z => nomatch z
theorem fo_Question_schema (T : Txt w K mg) : FldOf (y_Question T) T.c_Question "schema" (y_Schema T) Question.schema := fun _ _ _ ⟨a, dx, w0, w1, w2, e, h, h0, h1, h2⟩ => ⟨a, dx, _, w0, e, h, lk_Question_schema, h0⟩
theorem fo_Question_query (T : Txt w K mg) : FldOf (y_Question T) T.c_Question "query" (y_Query T) Question.query := fun _ _ _ ⟨a, dx, w0, w1, w2, e, h, h0, h1, h2⟩ => ⟨a, dx, _, w1, e, h, lk_Question_query, h1⟩
theorem fo_Question_condition (T : Txt w K mg) : FldOf (y_Question T) T.c_Question "condition" (y_Every T) Question.condition := fun _ _ _ ⟨a, dx, w0, w1, w2, e, h, h0, h1, h2⟩ => ⟨a, dx, _, w2, e, h, lk_Question_condition, h2⟩
theorem oo_Question (T : Txt w K mg) {m : Str} (h : ¬ m = "schema" ∧ ¬ m = "query" ∧ ¬ m = "condition") : ObjOf (y_Question T) T.c_Question m := fun _ _ _ ⟨a, dx, w0, w1, w2, e, g, _⟩ => ⟨a, dx, _, e, g, no_Question (h.1) (h.2.1) (h.2.2)⟩
def y_Rank (T : Txt w K mg) : Ty Rank := ⟨fun Z v x => ∃ a dx w0 w1, v = .ref a ∧ Z a = some (.ins T.c_Rank dx (ff_Rank w0 w1)) ∧ (yInt).r Z w0 x.cost ∧ (yStr).r Z w1 x.name,
  fun s ⟨a, dx, w0, w1, e, h, h0, h1⟩ => ⟨a, dx, w0, w1, e, s _ _ h, (yInt).mono s h0, (yStr).mono s h1⟩⟩
theorem nn_Rank (T : Txt w K mg) : NonNil (y_Rank T) := fun _ _ _ ⟨_, _, _, _, e, _⟩ => by rw [e]; exact fun z => nomatch z
theorem fo_Rank_cost (T : Txt w K mg) : FldOf (y_Rank T) T.c_Rank "cost" yInt Rank.cost := fun _ _ _ ⟨a, dx, w0, w1, e, h, h0, h1⟩ => ⟨a, dx, _, w0, e, h, lk_Rank_cost, h0⟩
theorem fo_Rank_name (T : Txt w K mg) : FldOf (y_Rank T) T.c_Rank "name" yStr Rank.name := fun _ _ _ ⟨a, dx, w0, w1, e, h, h0, h1⟩ => ⟨a, dx, _, w1, e, h, lk_Rank_name, h1⟩
theorem tx_Rank (T : Txt w K mg) {fp : List Addr} {x : Rank} : ∀ Z H v, Same Z H → (ty (fp := fp) (y_Rank T) x).r Z H v → TyX K H v (.ref T.c_Rank) := fun _ _ _ sz ⟨a, dx, w0, w1, e, h, _⟩ => by subst e; exact .base (.ins (sz _ _ h) T.cl_Rank T.ha_Rank T.hn0 T.ht0 T.hm_Rank)
theorem oo_Rank (T : Txt w K mg) {m : Str} (h : ¬ m = "cost" ∧ ¬ m = "name") : ObjOf (y_Rank T) T.c_Rank m := fun _ _ _ ⟨a, dx, w0, w1, e, g, _⟩ => ⟨a, dx, _, e, g, no_Rank (h.1) (h.2)⟩
theorem ins_Rank (T : Txt w K mg) : ∀ Z v x, (y_Rank T).r Z v x → ∃ a dx fs, v = .ref a ∧ Z a = some (.ins T.c_Rank dx fs) := fun _ _ _ ⟨a, dx, _, _, e, h, _⟩ => ⟨a, dx, _, e, h⟩
theorem ev_in_WIDTHS (T : Txt w K mg) {μ : Type} {M : Mu μ} {σ : L2.St} {Z H : Hp} {s s1 : μ} {ta : TE} {z : Str} {b : Bool} (ha : Ev M ta σ Z H s (ty yStr z) s1) (h : in_WIDTHS z = some b) :
    Ev M (tOp (fun x y H Q => ∃ (z : Str) (r : Option Value), x = .str z ∧ y = .ref T.a_WIDTHS ∧ PySem.W.nsIn K T.a_WIDTHS z = some r ∧ Q (.bl (r.isSome)) H) ta (tC (.ref T.a_WIDTHS))) σ Z H s (ty yBool (b)) s1 := by
  have key : ∃ r, PySem.W.nsIn K T.a_WIDTHS z = some r ∧ r.isSome = b := by
    unfold in_WIDTHS at h
    by_cases q : z = "bit"
    · subst q
      rw [if_pos rfl] at h
      have h := Option.some.inj h
      subst h
      exact ⟨_, T.ns_WIDTHS_bit, rfl⟩
    rw [if_neg q] at h
    by_cases q : z = "small"
    · subst q
      rw [if_pos rfl] at h
      have h := Option.some.inj h
      subst h
      exact ⟨_, T.ns_WIDTHS_small, rfl⟩
    rw [if_neg q] at h
    by_cases q : z = "wide"
    · subst q
      rw [if_pos rfl] at h
      have h := Option.some.inj h
      subst h
      exact ⟨_, T.ns_WIDTHS_wide, rfl⟩
    rw [if_neg q] at h
    cases h
  obtain ⟨r, hr, hb⟩ := key
  subst hb
  exact ev_op ha (ev_of (R := ⟨fun _ _ v => v = .ref T.a_WIDTHS, fun _ h => h⟩) fun _ _ _ _ _ _ q => q _ rfl) fun _ _ _ _ sz e1 e2 _ q => ⟨z, r, e1.1, e2, hr, q _ _ _ (Step.refl sz) rfl⟩
theorem ev_notin_WIDTHS (T : Txt w K mg) {μ : Type} {M : Mu μ} {σ : L2.St} {Z H : Hp} {s s1 : μ} {ta : TE} {z : Str} {b : Bool} (ha : Ev M ta σ Z H s (ty yStr z) s1) (h : in_WIDTHS z = some b) :
    Ev M (tOp (fun x y H Q => ∃ (z : Str) (r : Option Value), x = .str z ∧ y = .ref T.a_WIDTHS ∧ PySem.W.nsIn K T.a_WIDTHS z = some r ∧ Q (.bl (!r.isSome)) H) ta (tC (.ref T.a_WIDTHS))) σ Z H s (ty yBool (!b)) s1 := by
  have key : ∃ r, PySem.W.nsIn K T.a_WIDTHS z = some r ∧ r.isSome = b := by
    unfold in_WIDTHS at h
    by_cases q : z = "bit"
    · subst q
      rw [if_pos rfl] at h
      have h := Option.some.inj h
      subst h
      exact ⟨_, T.ns_WIDTHS_bit, rfl⟩
    rw [if_neg q] at h
    by_cases q : z = "small"
    · subst q
      rw [if_pos rfl] at h
      have h := Option.some.inj h
      subst h
      exact ⟨_, T.ns_WIDTHS_small, rfl⟩
    rw [if_neg q] at h
    by_cases q : z = "wide"
    · subst q
      rw [if_pos rfl] at h
      have h := Option.some.inj h
      subst h
      exact ⟨_, T.ns_WIDTHS_wide, rfl⟩
    rw [if_neg q] at h
    cases h
  obtain ⟨r, hr, hb⟩ := key
  subst hb
  exact ev_op ha (ev_of (R := ⟨fun _ _ v => v = .ref T.a_WIDTHS, fun _ h => h⟩) fun _ _ _ _ _ _ q => q _ rfl) fun _ _ _ _ sz e1 e2 _ q => ⟨z, r, e1.1, e2, hr, q _ _ _ (Step.refl sz) rfl⟩
theorem ev_get_WIDTHS (T : Txt w K mg) {μ : Type} {M : Mu μ} {σ : L2.St} {Z H : Hp} {s s1 : μ} {tb : TE} {z : Str} {y : (Int × Int)} (hb : Ev M tb σ Z H s (ty yStr z) s1) (h : get_WIDTHS z = some y) :
    Ev M (tOp (rIxD K w) (tC (.ref T.a_WIDTHS)) tb) σ Z H s (ty (yP2 K yInt yInt) y) s1 := by
  have key : ∃ av : Addr, PySem.W.nsIn K T.a_WIDTHS z = some (some (.ref av)) ∧ ∀ H, SqT K H av [.int y.1, .int y.2] := by
    unfold get_WIDTHS at h
    by_cases q : z = "bit"
    · subst q
      rw [if_pos rfl] at h
      have h := Option.some.inj h
      subst h
      exact ⟨_, T.ns_WIDTHS_bit, T.sv_WIDTHS_bit⟩
    rw [if_neg q] at h
    by_cases q : z = "small"
    · subst q
      rw [if_pos rfl] at h
      have h := Option.some.inj h
      subst h
      exact ⟨_, T.ns_WIDTHS_small, T.sv_WIDTHS_small⟩
    rw [if_neg q] at h
    by_cases q : z = "wide"
    · subst q
      rw [if_pos rfl] at h
      have h := Option.some.inj h
      subst h
      exact ⟨_, T.ns_WIDTHS_wide, T.sv_WIDTHS_wide⟩
    rw [if_neg q] at h
    cases h
  obtain ⟨av, hav, sav⟩ := key
  exact ev_op (ev_of (R := ⟨fun _ _ v => v = .ref T.a_WIDTHS, fun _ h => h⟩) fun _ _ _ _ _ _ q => q _ rfl) hb fun _ _ _ _ sz e1 e2 _ q => ⟨T.a_WIDTHS, z, .ref av, e1, e2.1, ⟨_, _, _, T.kd_WIDTHS.at_, T.kd_WIDTHS.lit, hav, rfl⟩, q _ _ _ (Step.refl sz) ⟨av, _, _, rfl, sav _, rfl, rfl⟩⟩
def exv (T : Txt w K mg) : Exc → Value
  | .InvalidSchema => .ref T.c_InvalidSchema
  | .InvalidQuery => .ref T.c_InvalidQuery

def sp_law_row (T : Txt w K mg) : Sp := fun vs H Q _ => ∃ (sc : Addr) (ns : List Int) (k : Nat), vs = [.ref sc, .int (k : Nat)] ∧ (H sc = some (.lst (ns.map V.int))) ∧ Q (.int (rowZ ns k)) H
set_option maxHeartbeats 4000000 in
theorem ok_law_row (T : Txt w K mg) : FnOk P w K mg base CX0 1 T.f_law_row T.d_law_row ["script", "k"] (sp_law_row T) := by
  refine T.F_law_row.ok sc_law_row (fun vs H Q E h => ?_) (fun cdv A outer s H vs Q E hr h => ?_)
  · obtain ⟨sc, ns, k, rfl, _⟩ := h
    rfl
  · obtain ⟨sc, ns, k, rfl, hS, q⟩ := h
    refine ⟨_, (pss_cons (ps_set (i := 2) sc_law_row.nd rfl (.inl rfl) pe_int) 
      (pss_cut (ps_if (pt_cmpR op_lt (pv 1) (pe_callB call_len_seq (by rfl) T.m_len PySem.boot_len (pa_cons (pv 0) pa_nil)) (nomark _)) (pss_one (ps_set (i := 2) sc_law_row.nd rfl (.inl rfl) (pe_ix ix_list (pv 0) (pv 1) (fun _ _ => rfl)))) pss_nil) 
      (pss_cut (ps_if (pt_cmpR op_lt (pv 2) pe_int (nomark _)) (pss_one (ps_set (i := 2) sc_law_row.nd rfl (.inl rfl) (pe_op op_sub (pe_op op_mul (pe_un un_neg pe_int) (pv 2)) pe_int))) pss_nil) 
      (pss_cut (ps_if (pt_cmpR op_lt (pv 2) (pe_op op_pow pe_int pe_int) (nomark _)) (pss_cons (ps_set (i := 3) sc_law_row.nd rfl (.inl rfl) (pe_op op_mod (pe_callTy call_int1 (by rfl) T.m_int (by decide +kernel) (pa_cons (pe_op op_add (pe_op op_add (pe_op op_mul (pv 2) pe_int) (pe_op op_mul (pv 1) pe_int)) pe_int) pa_nil)) pe_int)) 
      (pss_cons (ps_set (i := 4) sc_law_row.nd rfl (.inl rfl) (pe_op op_mod (pe_callTy call_int1 (by rfl) T.m_int (by decide +kernel) (pa_cons (pe_op op_add (pe_op op_add (pe_op op_add (pe_op op_mul (pv 3) pe_int) (pe_op op_mul (pv 2) pe_int)) (pv 1)) pe_int) pa_nil)) pe_int)) 
      (pss_cons (ps_set (i := 5) sc_law_row.nd rfl (.inl rfl) (pe_op op_mod (pe_callTy call_int1 (by rfl) T.m_int (by decide +kernel) (pa_cons (pe_op op_add (pe_op op_add (pe_op op_mul (pv 4) pe_int) (pe_op op_mul (pv 3) (pv 4))) pe_int) pa_nil)) pe_int)) 
      (pss_one (ps_set (i := 2) sc_law_row.nd rfl (.inl rfl) (pe_op op_add (pe_op op_add (pv 3) (pe_op op_mul (pv 4) pe_int)) (pe_op op_mul (pv 5) (pe_op op_pow pe_int pe_int)))))))) pss_nil) 
      (pss_one (ps_ret (pv 2))))))), ?_⟩
    -- if k < len(script): cell = script[k]
    refine ⟨fun σ' H' => H' = H ∧ σ' = [some (.ref sc), some (.int (k : Nat)), some (.int (ns.getD k 0)), none, none, none], ?_, ?_⟩
    · refine ⟨_, rfl, _, rfl, sc, _, rfl, .inl (SqL.of hS), _, _, rfl, rfl, _, rfl, ite2 (fun e => ?_) (fun e => ?_)⟩
      · have hl : (k : Int) < ((ns.map V.int).length : Int) := of_decide_eq_true e
        rw [List.length_map] at hl
        have hk : k < ns.length := by omega
        exact ⟨_, rfl, _, rfl, sc, _, (k : Nat), .int (ns.getD k 0), rfl, rfl, SqL.of hS, at_of (j := k) rfl (by rw [List.getElem?_map, getD_lt hk]; rfl), rfl, rfl⟩
      · have hl : ¬ (k : Int) < ((ns.map V.int).length : Int) := fun h => e (decide_eq_true h)
        rw [List.length_map] at hl
        have hk : ¬ k < ns.length := by omega
        exact ⟨rfl, by rw [getD_ge hk]; rfl⟩
    rintro σ' H' ⟨rfl, rfl⟩
    -- if cell < 0: cell = -2 * cell - 1
    refine ⟨fun σ' H2 => H2 = H' ∧ σ' = [some (.ref sc), some (.int (k : Nat)), some (.int (row1 ns k)), none, none, none], ?_, ?_⟩
    · refine ⟨_, rfl, _, _, rfl, rfl, _, rfl, ite2 (fun e => ?_) (fun e => ?_)⟩
      · have hc : ns.getD k 0 < 0 := of_decide_eq_true e
        refine ⟨2, rfl, _, rfl, _, _, rfl, rfl, .inl ⟨by decide, by decide⟩, _, _, rfl, rfl, rfl, ?_⟩
        unfold row1
        rw [if_pos hc]
        rfl
      · have hc : ¬ ns.getD k 0 < 0 := fun h => e (decide_eq_true h)
        exact ⟨rfl, by unfold row1; rw [if_neg hc]⟩
    rintro σ' H2 ⟨rfl, rfl⟩
    have c0 := row1_nn ns k
    -- if cell < 10 ** 9: ..
    refine ⟨fun σ' H' => H' = H2 ∧ ∃ (x y z : Option V), σ' = [some (.ref sc), some (.int (k : Nat)), some (.int (rowZ ns k)), x, y, z], ?_, ?_⟩
    · refine ⟨_, rfl, _, _, rfl, rfl, ⟨by decide, by decide, by decide⟩, _, _, rfl, rfl, _, rfl, ite2 (fun e => ?_) (fun e => ?_)⟩
      · have h9 : row1 ns k < 10 ^ 9 := of_decide_eq_true e
        rw [rowZ_lo h9]
        generalize row1 ns k = c at h9 c0
        refine ⟨_, rfl, _, _, rfl, rfl, .inr ⟨by decide, by decide⟩, _, rfl, _, _, rfl, rfl, .inr ⟨by decide, by decide⟩, _, _, rfl, rfl, _, _, rfl, rfl, .inl ⟨_, rfl, ?_⟩⟩
        refine ⟨_, _, rfl, rfl, (by decide : (0 : Int) < 2147483647), ?_⟩
        dsimp only
        refine ⟨_, rfl, _, _, rfl, rfl, .inr ⟨by decide, by decide⟩, _, rfl, _, _, rfl, rfl, .inr ⟨by decide, by decide⟩, _, _, rfl, rfl, _, rfl, _, _, rfl, rfl, _, _, rfl, rfl, .inl ⟨_, rfl, ?_⟩⟩
        refine ⟨_, _, rfl, rfl, (by decide : (0 : Int) < 2147483629), ?_⟩
        dsimp only
        refine ⟨_, rfl, _, _, rfl, rfl, .inr ⟨by decide, by decide⟩, _, rfl, _, rfl, _, _, rfl, rfl, .inl ⟨by omega, by omega⟩, _, _, rfl, rfl, _, _, rfl, rfl, .inl ⟨_, rfl, ?_⟩⟩
        refine ⟨_, _, rfl, rfl, (by decide : (0 : Int) < 2147483587), ?_⟩
        dsimp only
        refine ⟨_, rfl, _, rfl, _, _, rfl, rfl, .inr ⟨by decide, by decide⟩, _, _, rfl, rfl, _, rfl, _, _, rfl, rfl, ⟨by decide, by decide, by decide⟩, _, _, rfl, rfl, .inr ⟨by decide, by decide⟩, _, _, rfl, rfl, rfl, _, _, _, rfl⟩
      · have h9 : ¬ row1 ns k < 10 ^ 9 := fun h => e (decide_eq_true h)
        rw [rowZ_hi h9]
        exact ⟨rfl, _, _, _, rfl⟩
    rintro σ' H' ⟨rfl, x, y, z, rfl⟩
    exact ⟨_, rfl, q⟩
def sp_law_next (T : Txt w K mg) : Sp := fun vs H Q _ => ∃ (st sc : Addr) (Z0 : Hp) (ds : DS) (v_many : V) (m : Int), vs = [.ref st, v_many] ∧ (Same Z0 H) ∧ ((muD st sc).m ds Z0 H) ∧ (v_many = .int m) ∧ (NxOk m) ∧ ∀ v Z' H', Step (muD st sc).fp Z0 H Z' H' → (muD st sc).m (nxS ds m) Z' H' → yInt.r Z' v (nxV ds m) → Q v H'
set_option maxHeartbeats 4000000 in
theorem ok_law_next (T : Txt w K mg) : FnOk P w K mg base CX0 2 T.f_law_next T.d_law_next ["state", "many"] (sp_law_next T) := by
  have G_law_row : FnOk P w K mg base CX0 1 T.f_law_row T.d_law_row ["script", "k"] (sp_law_row T) := ok_law_row T
  refine T.F_law_next.ok sc_law_next (fun vs H Q E h => ?_) (fun cdv A outer s H vs Q E hr h => ?_)
  · obtain ⟨st, sc, Z0, ds, v_many, m, rfl, _⟩ := h
    rfl
  · obtain ⟨st, sc, Z0, ds, v_many, m, rfl, sz, hm, h_many, hok, q⟩ := h
    refine ⟨_, (pss_cut (ps_if (pt_cmpR op_lt (pe_ix ix_list (pv 0) pe_int (fun _ _ => rfl)) (pv 1) (nomark _)) (pss_cons (ps_asg (pe_call G_law_row (hr.mono (by decide)) (by rfl) T.g_law_row T.F_law_row.kp T.b_law_row .nil pass0 (pa_cons (pe_ix ix_list (pv 0) pe_int (fun _ _ => rfl)) (pa_cons (pe_ix ix_list (pv 0) pe_int (fun _ _ => rfl)) pa_nil))) (pg_sub (pv 0) pe_int set_list)) 
      (pss_one (ps_asg (pe_op op_add (pe_ix ix_list (pv 0) pe_int (fun _ _ => rfl)) pe_int) (pg_sub (pv 0) pe_int set_list)))) pss_nil) 
      (pss_cons (ps_set (i := 2) sc_law_next.nd rfl (.inl rfl) (pe_op op_mod (pe_callTy call_int1 (by rfl) T.m_int (by decide +kernel) (pa_cons (pe_ix ix_list (pv 0) pe_int (fun _ _ => rfl)) pa_nil)) (pv 1))) 
      (pss_cons (ps_asg (pe_op op_fdivW (pe_ix ix_list (pv 0) pe_int (fun _ _ => rfl)) (pv 1)) (pg_sub (pv 0) pe_int set_list)) 
      (pss_one (ps_ret (pv 2)))))), ?_⟩
    obtain ⟨m0, m1⟩ := hok
    subst h_many
    obtain ⟨h1, h2, h3⟩ := hm
    obtain ⟨ns, k, x⟩ := ds
    have g2 : H sc = some (.lst (ns.map V.int)) := sz _ _ h2
    have ne : sc ≠ st := fun e => by rw [e] at h2; rw [h2] at h3; cases h3
    refine ⟨fun σ' H' => Step [st] Z0 H Z0 H' ∧ σ' = [some (.ref st), some (.int m), none] ∧ H' st = some (.lst [.ref sc, .int ((if (x : Int) < m then k + 1 else k : Nat) : Int), .int ((DS.cur ⟨ns, k, x⟩ m : Nat) : Int)]), ?_, ?_⟩
    · refine ⟨_, rfl, st, _, _, _, rfl, rfl, SqL.of h1, at_of (j := 2) rfl rfl, _, rfl, _, _, rfl, rfl, _, rfl, ite2 (fun e => ?_) (fun e => ?_)⟩
      · have hlt : (x : Int) < m := of_decide_eq_true e
        refine ⟨_, rfl, st, _, _, _, rfl, rfl, SqL.of h1, at_of (j := 0) rfl rfl, _, rfl, st, _, _, _, rfl, rfl, SqL.of h1, at_of (j := 1) rfl rfl, sc, ns, k, rfl, g2, ?_⟩
        refine ⟨_, rfl, st, _, _, 2, rfl, rfl, h1, rfl, ?_⟩
        refine ⟨_, rfl, st, _, _, _, rfl, rfl, SqL.of upd_same, at_of (j := 1) rfl rfl, _, _, rfl, rfl, _, rfl, st, _, _, 1, rfl, rfl, upd_same, rfl, ?_⟩
        refine ⟨(Step.set sz h3).trans (Step.set (Step.set sz h3).s h3), rfl, ?_⟩
        rw [upd_same, if_pos hlt]
        have : ((DS.cur ⟨ns, k, x⟩ m : Nat) : Int) = rowZ ns k := by
          unfold DS.cur
          rw [if_pos hlt]
          have := rowZ_nn ns k
          show (((rowZ ns k).toNat : Nat) : Int) = rowZ ns k
          omega
        rw [this]
        rfl
      · have hlt : ¬ (x : Int) < m := fun h => e (decide_eq_true h)
        refine ⟨Step.refl sz, rfl, ?_⟩
        rw [h1, if_neg hlt]
        unfold DS.cur
        rw [if_neg hlt]
    rintro σ' H' ⟨hO, rfl, h4⟩
    -- drawn = int(state[2]) % many
    refine ⟨_, rfl, st, _, _, _, rfl, rfl, SqL.of h4, at_of (j := 2) rfl rfl, .inl ⟨_, rfl, ?_⟩⟩
    refine ⟨_, rfl, _, _, rfl, rfl, m0, ?_⟩
    -- state[2] = state[2] // many
    refine ⟨_, rfl, st, _, _, _, rfl, rfl, SqL.of h4, at_of (j := 2) rfl rfl, _, rfl, _, _, rfl, rfl, wide_div m0 m1 (by decide) (by decide), ?_⟩
    refine ⟨_, rfl, st, _, _, 2, rfl, rfl, h4, rfl, ?_⟩
    have nn : 0 ≤ ((DS.cur ⟨ns, k, x⟩ m : Nat) : Int) / m := Int.ediv_nonneg (Int.natCast_nonneg _) (by omega)
    refine ⟨_, rfl, q _ Z0 _ (hO.trans (Step.set hO.s h3)) ⟨?_, h2, h3⟩ rfl⟩
    rw [upd_same]
    show some (HO.lst [_, _, _]) = some (HO.lst [_, _, V.int (((((DS.cur ⟨ns, k, x⟩ m : Nat) : Int) / m).toNat : Nat) : Int)])
    rw [Int.toNat_of_nonneg nn]
    rfl
theorem cs__law_next (T : Txt w K mg) {st sc : Addr} {ds : DS} {E : XK} {m : Int} (h : NxOk m) : CallS (muD st sc) (sp_law_next T) E (rac (isRef st) (rac (ty yInt m) ra0)) ds (ty yInt (nxV ds m)) (nxS ds m) := by
  rintro Z H vs sz mm ⟨_, _, rfl, rfl, v_many, _, rfl, h_many, rfl⟩ Q q
  exact ⟨st, sc, Z, ds, v_many, m, rfl, sz, mm, h_many, h, q⟩
theorem cu__law_next (T : Txt w K mg) {st sc : Addr} {ds : DS} {E : XK} {m : Int} {μ : Type} {M : Mu μ} {s s2 : μ} (hm : ∀ Z H, M.m s Z H → (muD st sc).m ds Z H) (hf : ∀ a ∈ (muD st sc).fp, a ∈ M.fp) (hp : ∀ Z H Z' H', M.m s Z H → Step (muD st sc).fp Z H Z' H' → (muD st sc).m (nxS ds m) Z' H' → M.m s2 Z' H') (h : NxOk m) : CallS M (sp_law_next T) E (rac (isRef st) (rac (ty yInt m) ra0)) s (ty yInt (nxV ds m)) s2 := by
  rintro Z H vs sz mm ⟨_, _, rfl, rfl, v_many, _, rfl, h_many, rfl⟩ Q q
  exact ⟨st, sc, Z, ds, v_many, m, rfl, sz, hm _ _ mm, h_many, h, fun v Z2 H2 st2 m2 hv => q v Z2 H2 (st2.weak fun a h => .inl (hf a h)) (hp _ _ _ _ mm st2 m2) hv⟩
def sp_law_fields (T : Txt w K mg) : Sp := fun vs H Q _ => ∃ (st sc : Addr) (Z0 : Hp) (ds : DS) (y : ((List (Str × Str)) × DS)), vs = [.ref st] ∧ (Same Z0 H) ∧ ((muD st sc).m ds Z0 H) ∧ (F_law_fields ds = some y) ∧ ∀ v Z' H', Step (muD st sc).fp Z0 H Z' H' → (muD st sc).m y.2 Z' H' → ((yList (yP2 K yStr yStr))).r Z' v y.1 → Q v H'
set_option maxHeartbeats 4000000 in
theorem ok_law_fields (T : Txt w K mg) : FnOk P w K mg base CX0 3 T.f_law_fields T.d_law_fields ["state"] (sp_law_fields T) := by
  have G_law_next : FnOk P w K mg base CX0 2 T.f_law_next T.d_law_next ["state", "many"] (sp_law_next T) := ok_law_next T
  refine T.F_law_fields.ok sc_law_fields (fun vs H Q E h => ?_) (fun cdv A outer s H vs Q E hr h => ?_)
  · obtain ⟨st, sc, Z0, ds, y, rfl, _⟩ := h
    rfl
  · obtain ⟨st, sc, Z0, ds, y, rfl, sz, hm, hF, q⟩ := h
    refine ⟨_, (pss_cons (ps_set (i := 1) sc_law_fields.nd rfl (.inl rfl) (pe_lst pa_nil)) 
      (pss_cons (ps_for PassesOwn.never rfl (pi_range1 rfl T.m_range (pa_cons (pe_call G_law_next (hr.mono (by decide)) (by rfl) T.g_law_next T.F_law_next.kp T.b_law_next .nil pass0 (pa_cons (pv 0) (pa_cons pe_int pa_nil))) pa_nil)) (pg_name (i := 2) sc_law_fields.nd rfl (.inl rfl)) (pss_cons (ps_set (i := 3) sc_law_fields.nd rfl (.inl rfl) (pe_ix ix_list (pe_lst (pa_cons pe_str (pa_cons pe_str (pa_cons pe_str (pa_cons pe_str pa_nil))))) (pv 2) (fun _ _ => rfl))) 
      (pss_one (ps_expr (pe_bm PySem.F.plainAttrs_list PySem.F.slot_list_append PySem.F.type_list_append mt_append (pv 1) (pa_cons (pe_tup (pa_cons (pv 3) (pa_cons (pe_ix ix_list (pe_lst (pa_cons pe_str (pa_cons pe_str (pa_cons pe_str pa_nil)))) (pe_call G_law_next (hr.mono (by decide)) (by rfl) T.g_law_next T.F_law_next.kp T.b_law_next .nil pass0 (pa_cons (pv 0) (pa_cons pe_int pa_nil))) (fun _ _ => rfl)) pa_nil))) pa_nil)))))) 
      (pss_one (ps_ret (pv 1))))), ?_⟩
    have P := Pt.start (muD st sc) sz hm
    unfold F_law_fields at hF
    refine st_seq (st_setN (τ := (yP2 K yStr yStr)) P (en_listD (eva_nils (τ := (yP2 K yStr yStr))) (by show 0 ≤ sizeLine; decide)) (fun p_4 Z1 H1 e P1 fr_6 o_5 => ?_))
    refine st_nx ?_
    replace P := P1
    obtain ⟨g_7, hF⟩ := guard_inv hF
    obtain ⟨f_33, hL_34, hF⟩ := bind_inv hF
    refine st_seq (st_for (τ := yInt) (fun (r_10 : List Int) σ' Z' H' => ∃ w_8, ∃ (y_16 : Option V) (y_17 : Option V), σ' = [some (.ref st), some (.ref p_4), y_16, y_17] ∧ Pt (muD st sc).fp Z0 H (muD st sc) Z' H' w_8.2 ∧ Own (muD st sc).fp H (muD st sc).fp Z' H' (yP2 K yStr yStr) p_4 w_8.1 ∧ forF L_law_fields_1 r_10 w_8 = some f_33) P (ei_rng1 (ev_call (cs__law_next T (by decide +kernel)) (eva_cons (ev_ref rfl) (eva_cons ev_int eva_nil))) g_7) ?_ ?_ ?_)
    · rintro Z1 H1 e P1
      replace P := P1
      replace o_5 := o_5.next e
      exact ⟨(([] : List (Str × Str)), (nxS ds (4 : Int))), _, _, rfl, P, o_5, hL_34⟩
    · rintro Zb_14 Hb eb x_9 r_10 σ' v_22 Z1 H1 Z2 H2 zs_13 ⟨w_8, y_16, y_17, rfl, P, o_15, hq_12⟩ e hx_23
      replace P := P.item e
      replace o_15 := o_15.step e List.not_mem_nil
      replace zs_13 := zs_13.trans e.z
      obtain ⟨u_24, hB_11, hq_12⟩ := bind_inv (forF_cons hq_12)
      unfold L_law_fields_1 at hB_11
      refine tgt_name _ P.sub _ ?_
      obtain ⟨i_25, h_26, hB_11⟩ := bind_inv hB_11
      refine st_seq (st_set P (ev_ixL (ev_li (ev_fz (en_listD (eva_conss ev_str (eva_conss ev_str (eva_conss ev_str (eva_conss ev_str (eva_nils (τ := yStr)))))) (by show 4 ≤ sizeLine; decide)))) (ev_var (τ := yInt) rfl hx_23) h_26) (fun v_27 Z1 H1 e P1 k_28 => ?_))
      refine st_nx ?_
      replace P := P1
      replace o_15 := o_15.next e
      replace zs_13 := zs_13.trans e.z
      obtain ⟨i_29, h_30, hB_11⟩ := bind_inv hB_11
      obtain ⟨g_31, hB_11⟩ := guard_inv hB_11
      refine st_append P o_15 rfl (ev_p2 (K := K) (eva_cons (ev_var (τ := yStr) rfl k_28) (eva_cons (ev_ixL (ev_li (ev_fz (en_listD (eva_conss ev_str (eva_conss ev_str (eva_conss ev_str (eva_nils (τ := yStr))))) (by show 3 ≤ sizeLine; decide)))) (ev_call (cs__law_next T (by decide +kernel)) (eva_cons (ev_ref rfl) (eva_cons ev_int eva_nil))) h_30) eva_nil))) g_31 (fun Z1 H1 e P1 o_32 => ?_)
      replace P := P1
      replace zs_13 := zs_13.trans e.z
      replace hB_11 := Option.some.inj hB_11
      subst hB_11
      exact ⟨_, zs_13, P.sub, ((w_8.1 ++ [(i_25, i_29)]), (nxS w_8.2 (3 : Int))), _, _, rfl, P, o_32, hq_12⟩
    rintro σ' Z1 H1 _ _ ⟨w_18, y_16, y_17, rfl, P, o_19, hl⟩
    have hz := (forF_nil hl).symm
    subst hz
    refine st_nx ?_
    obtain ⟨Z, P, zf, hf, of⟩ := o_19.fz P
    have k_35 := hf
    clear hf zf of
    replace hF := Option.some.inj hF
    subst hF
    refine st_ret P (ev_var (τ := (yList (yP2 K yStr yStr))) rfl k_35) (fun v Z1 H1 P1 hv => ?_)
    exact q v _ _ P1.st P1.m hv
theorem cs_law_fields (T : Txt w K mg) {st sc : Addr} {ds : DS} {E : XK}  {y : (List (Str × Str)) × DS} (h : F_law_fields ds = some y) : CallS (muD st sc) (sp_law_fields T) E (rac (isRef st) ra0) ds (ty (yList (yP2 K yStr yStr)) y.1) y.2 := by
  rintro Z H vs sz m ⟨_, _, rfl, rfl, rfl⟩ Q q
  exact ⟨st, sc, Z, ds, y, rfl, sz, m, h, fun v Z2 H2 s2 m2 hv => q v Z2 H2 s2 m2 hv⟩
theorem cu_law_fields (T : Txt w K mg) {st sc : Addr} {ds : DS} {E : XK}  {y : (List (Str × Str)) × DS} {μ : Type} {M : Mu μ} {s s2 : μ} (hm : ∀ Z H, M.m s Z H → (muD st sc).m ds Z H) (hf : ∀ a ∈ (muD st sc).fp, a ∈ M.fp) (hp : ∀ Z H Z' H', M.m s Z H → Step (muD st sc).fp Z H Z' H' → (muD st sc).m y.2 Z' H' → M.m s2 Z' H') (h : F_law_fields ds = some y) : CallS M (sp_law_fields T) E (rac (isRef st) ra0) s (ty (yList (yP2 K yStr yStr)) y.1) s2 := by
  rintro Z H vs sz m ⟨_, _, rfl, rfl, rfl⟩ Q q
  exact ⟨st, sc, Z, ds, y, rfl, sz, hm _ _ m, h, fun v Z2 H2 st2 m2 hv => q v Z2 H2 (st2.weak fun a h => .inl (hf a h)) (hp _ _ _ _ m st2 m2) hv⟩
def sp_law_schema (T : Txt w K mg) : Sp := fun vs H Q _ => ∃ (st sc : Addr) (Z0 : Hp) (ds : DS) (y : ((Int × Str × Str × (List (Str × Str))) × DS)), vs = [.ref st] ∧ (Same Z0 H) ∧ ((muD st sc).m ds Z0 H) ∧ (F_law_schema ds = some y) ∧ ∀ v Z' H', Step (muD st sc).fp Z0 H Z' H' → (muD st sc).m y.2 Z' H' → ((yP4 K yInt yStr yStr (yList (yP2 K yStr yStr)))).r Z' v y.1 → Q v H'
set_option maxHeartbeats 4000000 in
theorem ok_law_schema (T : Txt w K mg) : FnOk P w K mg base CX0 4 T.f_law_schema T.d_law_schema ["state"] (sp_law_schema T) := by
  have G_law_fields : FnOk P w K mg base CX0 3 T.f_law_fields T.d_law_fields ["state"] (sp_law_fields T) := ok_law_fields T
  have G_law_next : FnOk P w K mg base CX0 2 T.f_law_next T.d_law_next ["state", "many"] (sp_law_next T) := ok_law_next T
  refine T.F_law_schema.ok sc_law_schema (fun vs H Q E h => ?_) (fun cdv A outer s H vs Q E hr h => ?_)
  · obtain ⟨st, sc, Z0, ds, y, rfl, _⟩ := h
    rfl
  · obtain ⟨st, sc, Z0, ds, y, rfl, sz, hm, hF, q⟩ := h
    refine ⟨_, (pss_cons (ps_set (i := 1) sc_law_schema.nd rfl (.inl rfl) (pe_ix ix_list (pe_lst (pa_cons pe_str (pa_cons pe_str (pa_cons pe_str pa_nil)))) (pe_call G_law_next (hr.mono (by decide)) (by rfl) T.g_law_next T.F_law_next.kp T.b_law_next .nil pass0 (pa_cons (pv 0) (pa_cons pe_int pa_nil))) (fun _ _ => rfl))) 
      (pss_cons (ps_set (i := 2) sc_law_schema.nd rfl (.inl rfl) (pe_ix ix_list (pe_lst (pa_cons pe_str (pa_cons pe_str (pa_cons pe_str pa_nil)))) (pe_call G_law_next (hr.mono (by decide)) (by rfl) T.g_law_next T.F_law_next.kp T.b_law_next .nil pass0 (pa_cons (pv 0) (pa_cons pe_int pa_nil))) (fun _ _ => rfl))) 
      (pss_cut (ps_if (pt_cmpR op_eq (pv 2) pe_str (nomark _)) (pss_one (ps_set (i := 1) sc_law_schema.nd rfl (.inl rfl) pe_str)) pss_nil) 
      (pss_one (ps_ret (pe_tup (pa_cons (pe_op op_add pe_int (pe_call G_law_next (hr.mono (by decide)) (by rfl) T.g_law_next T.F_law_next.kp T.b_law_next .nil pass0 (pa_cons (pv 0) (pa_cons pe_int pa_nil)))) (pa_cons (pv 1) (pa_cons (pv 2) (pa_cons (pe_call G_law_fields (hr.mono (by decide)) (by rfl) T.g_law_fields T.F_law_fields.kp T.b_law_fields .nil pass0 (pa_cons (pv 0) pa_nil)) pa_nil)))))))))), ?_⟩
    have P := Pt.start (muD st sc) sz hm
    unfold F_law_schema at hF
    obtain ⟨i_45, h_46, hF⟩ := bind_inv hF
    refine st_seq (st_set P (ev_ixL (ev_li (ev_fz (en_listD (eva_conss ev_str (eva_conss ev_str (eva_conss ev_str (eva_nils (τ := yStr))))) (by show 3 ≤ sizeLine; decide)))) (ev_call (cs__law_next T (by decide +kernel)) (eva_cons (ev_ref rfl) (eva_cons ev_int eva_nil))) h_46) (fun v_47 Z1 H1 e P1 k_48 => ?_))
    refine st_nx ?_
    replace P := P1
    obtain ⟨i_49, h_50, hF⟩ := bind_inv hF
    refine st_seq (st_set P (ev_ixL (ev_li (ev_fz (en_listD (eva_conss ev_str (eva_conss ev_str (eva_conss ev_str (eva_nils (τ := yStr))))) (by show 3 ≤ sizeLine; decide)))) (ev_call (cs__law_next T (by decide +kernel)) (eva_cons (ev_ref rfl) (eva_cons ev_int eva_nil))) h_50) (fun v_51 Z1 H1 e P1 k_52 => ?_))
    refine st_nx ?_
    replace P := P1
    obtain ⟨w_55, hB_54, hF⟩ := bind_inv hF
    refine ⟨fun σ' H' => ∃ Z', ∃ (v_56 : V), σ' = [some (.ref st), some v_56, some v_51] ∧ Pt (muD st sc).fp Z0 H (muD st sc) Z' H' (nxS (nxS ds (3 : Int)) (3 : Int)) ∧ (yStr).r Z' v_56 w_55, ?_, ?_⟩
    · refine st_if P (et_cmp (ev_eq flat_str (ev_var (τ := yStr) rfl k_52) ev_str)) (fun b_53 Z1 H1 e P1 => ?_) (fun b_53 Z1 H1 e P1 => ?_)
      · replace P := P1
        replace hB_54 := ifT b_53 hB_54
        refine st_set P ev_str (fun v_58 Z1 H1 e P1 k_59 => ?_)
        replace P := P1
        replace hB_54 := Option.some.inj hB_54
        subst hB_54
        exact ⟨_, _, rfl, P, k_59⟩
      · replace P := P1
        replace hB_54 := ifF b_53 hB_54
        replace hB_54 := Option.some.inj hB_54
        subst hB_54
        exact ⟨_, _, rfl, P, k_48⟩
    rintro σ' H' ⟨Z1, v_56, rfl, P, k_57⟩
    obtain ⟨r_60, h_61, hF⟩ := bind_inv hF
    replace hF := Option.some.inj hF
    subst hF
    refine st_ret P (ev_p4 (K := K) (eva_cons (ev_add ev_int (ev_call (cs__law_next T (by decide +kernel)) (eva_cons (ev_ref rfl) (eva_cons ev_int eva_nil)))) (eva_cons (ev_var (τ := yStr) rfl k_57) (eva_cons (ev_var (τ := yStr) rfl k_52) (eva_cons (ev_call (cs_law_fields T h_61) (eva_cons (ev_ref rfl) eva_nil)) eva_nil))))) (fun v Z1 H1 P1 hv => ?_)
    exact q v _ _ P1.st P1.m hv
theorem cs_law_schema (T : Txt w K mg) {st sc : Addr} {ds : DS} {E : XK}  {y : (Int × Str × Str × (List (Str × Str))) × DS} (h : F_law_schema ds = some y) : CallS (muD st sc) (sp_law_schema T) E (rac (isRef st) ra0) ds (ty (yP4 K yInt yStr yStr (yList (yP2 K yStr yStr))) y.1) y.2 := by
  rintro Z H vs sz m ⟨_, _, rfl, rfl, rfl⟩ Q q
  exact ⟨st, sc, Z, ds, y, rfl, sz, m, h, fun v Z2 H2 s2 m2 hv => q v Z2 H2 s2 m2 hv⟩
theorem cu_law_schema (T : Txt w K mg) {st sc : Addr} {ds : DS} {E : XK}  {y : (Int × Str × Str × (List (Str × Str))) × DS} {μ : Type} {M : Mu μ} {s s2 : μ} (hm : ∀ Z H, M.m s Z H → (muD st sc).m ds Z H) (hf : ∀ a ∈ (muD st sc).fp, a ∈ M.fp) (hp : ∀ Z H Z' H', M.m s Z H → Step (muD st sc).fp Z H Z' H' → (muD st sc).m y.2 Z' H' → M.m s2 Z' H') (h : F_law_schema ds = some y) : CallS M (sp_law_schema T) E (rac (isRef st) ra0) s (ty (yP4 K yInt yStr yStr (yList (yP2 K yStr yStr))) y.1) s2 := by
  rintro Z H vs sz m ⟨_, _, rfl, rfl, rfl⟩ Q q
  exact ⟨st, sc, Z, ds, y, rfl, sz, hm _ _ m, h, fun v Z2 H2 st2 m2 hv => q v Z2 H2 (st2.weak fun a h => .inl (hf a h)) (hp _ _ _ _ m st2 m2) hv⟩
def sp_check_vectors (T : Txt w K mg) : Sp := fun vs H Q E => ∃ (Z0 : Hp) (v_size : V) (v_width : V) (v_measure : V) (x_size : Int) (x_width : Str) (x_measure : Str) (y : (Res Exc Unit)), vs = [v_size, v_width, v_measure] ∧ (Same Z0 H) ∧ ((yInt).r Z0 v_size x_size) ∧ ((yStr).r Z0 v_width x_width) ∧ ((yStr).r Z0 v_measure x_measure) ∧ (F_check_vectors x_size x_width x_measure = some y) ∧ (∀ a, y = .ok a → ∀ v Z' H', Step [] Z0 H Z' H' → (yNon).r Z' v a → Q v H') ∧ (∀ c, y = .er c → ∀ Z' H', Step [] Z0 H Z' H' → E (exv T c) none H')
set_option maxHeartbeats 4000000 in
theorem ok_check_vectors (T : Txt w K mg) : FnOk P w K mg base (L2.CX P w) 1 T.f_check_vectors T.d_check_vectors ["size", "width", "measure"] (sp_check_vectors T) := by
  refine T.F_check_vectors.okX sc_check_vectors (fun vs H Q E h => ?_) (fun cdv A outer s H vs Q E hr h => ?_)
  · obtain ⟨Z0, v_size, v_width, v_measure, x_size, x_width, x_measure, y, rfl, _⟩ := h
    rfl
  · obtain ⟨Z0, v_size, v_width, v_measure, x_size, x_width, x_measure, y, rfl, sz, h_size, h_width, h_measure, hF, q⟩ := h
    refine ⟨_, (pss_cons (ps_if (pt_cmpR op_lt (pv 0) pe_int (nomark _)) (pss_one (ps_raise rfl (takes_of rfl rfl rfl rfl) (pmk_own PySem.F.excBase_ValueError T.x_InvalidSchema T.mc_InvalidSchema T.kp_InvalidSchema (raises_own T.xb_InvalidSchema T.xt_InvalidSchema) rfl))) pss_nil) 
      (pss_cons (ps_if (pt_cmpR (op_notIn_kd T.kd_WIDTHS) (pv 1) (pe_glob (v := .ref T.a_WIDTHS) rfl T.m_WIDTHS rfl) rfl) (pss_one (ps_raise rfl (takes_of rfl rfl rfl rfl) (pmk_own PySem.F.excBase_ValueError T.x_InvalidSchema T.mc_InvalidSchema T.kp_InvalidSchema (raises_own T.xb_InvalidSchema T.xt_InvalidSchema) rfl))) pss_nil) 
      (pss_cons (ps_if (pt_cmpR op_notIn_seq (pv 2) (pe_glob (v := .ref T.a_MEASURES) rfl T.m_MEASURES rfl) rfl) (pss_one (ps_raise rfl (takes_of rfl rfl rfl rfl) (pmk_own PySem.F.excBase_ValueError T.x_InvalidSchema T.mc_InvalidSchema T.kp_InvalidSchema (raises_own T.xb_InvalidSchema T.xt_InvalidSchema) rfl))) pss_nil) 
      (pss_one (ps_if (PW.pt (pw_and (pt_cmpR op_eq (pv 2) pe_str (nomark _)) (pw_and1 (pt_cmpR op_ne (pv 1) pe_str (nomark _))))) (pss_one (ps_raise rfl (takes_of rfl rfl rfl rfl) (pmk_own PySem.F.excBase_ValueError T.x_InvalidSchema T.mc_InvalidSchema T.kp_InvalidSchema (raises_own T.xb_InvalidSchema T.xt_InvalidSchema) rfl))) pss_nil))))), ?_⟩
    obtain ⟨q, qx⟩ := q
    have P := Pt.start0 sz
    unfold F_check_vectors at hF
    refine st_seq (st_if P (et_cmp (ev_lt (ev_var (τ := yInt) rfl h_size) ev_int)) (fun b_62 Z1 H1 e P1 => ?_) (fun b_62 Z1 H1 e P1 => ?_))
    · replace P := P1
      have hB := ifT b_62 hF
      replace hF := hB
      clear hB
      replace hF := Option.some.inj hF
      subst hF
      exact qx _ rfl _ _ P.st
    · replace P := P1
      have hB := ifF b_62 hF
      replace hF := hB
      clear hB
      refine st_next0 ?_
      obtain ⟨b_63, h_64, hF⟩ := bind_inv hF
      refine st_seq (st_if P (et_cmp (ev_notin_WIDTHS T (ev_var (τ := yStr) rfl h_width) h_64)) (fun b_65 Z1 H1 e P1 => ?_) (fun b_65 Z1 H1 e P1 => ?_))
      · replace P := P1
        have hB := ifT b_65 hF
        replace hF := hB
        clear hB
        replace hF := Option.some.inj hF
        subst hF
        exact qx _ rfl _ _ P.st
      · replace P := P1
        have hB := ifF b_65 hF
        replace hF := hB
        clear hB
        refine st_next0 ?_
        refine st_seq (st_if P (et_cmp (ev_notinT fi_str (ev_var (τ := yStr) rfl h_measure) (ev_const (τ := yTup K yStr) fun Z => ⟨_, _, rfl, T.sq_MEASURES Z, (.cons ⟨rfl, by decide +kernel⟩ (.cons ⟨rfl, by decide +kernel⟩ (.cons ⟨rfl, by decide +kernel⟩ .nil))), by decide⟩))) (fun b_66 Z1 H1 e P1 => ?_) (fun b_66 Z1 H1 e P1 => ?_))
        · replace P := P1
          have hB := ifT b_66 hF
          replace hF := hB
          clear hB
          replace hF := Option.some.inj hF
          subst hF
          exact qx _ rfl _ _ P.st
        · replace P := P1
          have hB := ifF b_66 hF
          replace hF := hB
          clear hB
          refine st_next0 ?_
          refine st_if P (et_and0 (et_cmp (ev_eq flat_str (ev_var (τ := yStr) rfl h_measure) ev_str)) (et_cmp (ev_ne flat_str (ev_var (τ := yStr) rfl h_width) ev_str))) (fun b_67 Z1 H1 e P1 => ?_) (fun b_67 Z1 H1 e P1 => ?_)
          · replace P := P1
            have hB := ifT b_67 hF
            replace hF := hB
            clear hB
            replace hF := Option.some.inj hF
            subst hF
            exact qx _ rfl _ _ P.st
          · replace P := P1
            have hB := ifF b_67 hF
            replace hF := hB
            clear hB
            refine st_next ?_
            replace hF := Option.some.inj hF
            subst hF
            exact q _ rfl .non _ _ P.st rfl
theorem cs_check_vectors (T : Txt w K mg) {μ : Type} {M : Mu μ} {s : μ} {E : XK} {x_size : Int} {x_width : Str} {x_measure : Str} {y : Unit} (h : F_check_vectors x_size x_width x_measure = some (.ok y)) : CallS M (sp_check_vectors T) E (rac (ty yInt x_size) (rac (ty yStr x_width) (rac (ty yStr x_measure) ra0))) s (ty yNon y) s := by
  rintro Z H vs sz m ⟨v_size, _, rfl, h_size, ⟨v_width, _, rfl, h_width, ⟨v_measure, _, rfl, h_measure, rfl⟩⟩⟩ Q q
  exact ⟨Z, v_size, v_width, v_measure, x_size, x_width, x_measure, _, rfl, sz, h_size, h_width, h_measure, h, fun a e v Z2 H2 st hv => by cases e; exact q v Z2 H2 st.pure (M.pure st m) hv, fun _ z => nomatch z⟩
theorem cx_check_vectors (T : Txt w K mg) {μ : Type} {M : Mu μ} {s : μ} {E : XK} {x_size : Int} {x_width : Str} {x_measure : Str} {e : Exc} (h : F_check_vectors x_size x_width x_measure = some (.er e)) : CallE M (sp_check_vectors T) E (rac (ty yInt x_size) (rac (ty yStr x_width) (rac (ty yStr x_measure) ra0))) s (exv T e) s := by
  rintro Z H vs sz m ⟨v_size, _, rfl, h_size, ⟨v_width, _, rfl, h_width, ⟨v_measure, _, rfl, h_measure, rfl⟩⟩⟩ Q q
  exact ⟨Z, v_size, v_width, v_measure, x_size, x_width, x_measure, _, rfl, sz, h_size, h_width, h_measure, h, (fun _ z => nomatch z), fun c e Z2 H2 st => by cases e; exact q Z2 H2 st.pure (M.pure st m)⟩
def sp_is_letter (T : Txt w K mg) : Sp := fun vs H Q _ => ∃ (Z0 : Hp) (v_char : V) (x_char : Str), vs = [v_char] ∧ (Same Z0 H) ∧ ((yStr).r Z0 v_char x_char) ∧ ∀ v Z' H', Step [] Z0 H Z' H' → (yBool).r Z' v (F_is_letter x_char) → Q v H'
set_option maxHeartbeats 4000000 in
theorem ok_is_letter (T : Txt w K mg) : FnOk P w K mg base CX0 1 T.f_is_letter T.d_is_letter ["char"] (sp_is_letter T) := by
  refine T.F_is_letter.ok sc_is_letter (fun vs H Q E h => ?_) (fun cdv A outer s H vs Q E hr h => ?_)
  · obtain ⟨Z0, v_char, x_char, rfl, _⟩ := h
    rfl
  · obtain ⟨Z0, v_char, x_char, rfl, sz, h_char, q⟩ := h
    refine ⟨_, (pss_one (ps_ret (pe_or (pe_chain op_le_str op_le_str pe_str (pv 0) pe_str) (pe_or (pe_chain op_le_str op_le_str pe_str (pv 0) pe_str) (pe_one (pe_cmpR op_eq (pv 0) pe_str (nomark _))))))), ?_⟩
    have P := Pt.start0 sz
    generalize hF : F_is_letter x_char = y at q
    unfold F_is_letter at hF
    subst hF
    refine st_ret P (ev_or0 (ev_chainS ev_str (ev_var (τ := yStr) rfl h_char) ev_str) (ev_or0 (ev_chainS ev_str (ev_var (τ := yStr) rfl h_char) ev_str) (ev_eq flat_str (ev_var (τ := yStr) rfl h_char) ev_str))) (fun v Z1 H1 P1 hv => ?_)
    exact q v _ _ P1.st hv
theorem cs_is_letter (T : Txt w K mg) {μ : Type} {M : Mu μ} {s : μ} {E : XK} {x_char : Str} : CallS M (sp_is_letter T) E (rac (ty yStr x_char) ra0) s (ty yBool (F_is_letter x_char)) s := by
  rintro Z H vs sz m ⟨v_char, _, rfl, h_char, rfl⟩ Q q
  exact ⟨Z, v_char, x_char, rfl, sz, h_char, fun v Z2 H2 st hv => q v Z2 H2 st.pure (M.pure st m) hv⟩
def sp_is_digit (T : Txt w K mg) : Sp := fun vs H Q _ => ∃ (Z0 : Hp) (v_char : V) (x_char : Str), vs = [v_char] ∧ (Same Z0 H) ∧ ((yStr).r Z0 v_char x_char) ∧ ∀ v Z' H', Step [] Z0 H Z' H' → (yBool).r Z' v (F_is_digit x_char) → Q v H'
set_option maxHeartbeats 4000000 in
theorem ok_is_digit (T : Txt w K mg) : FnOk P w K mg base CX0 1 T.f_is_digit T.d_is_digit ["char"] (sp_is_digit T) := by
  refine T.F_is_digit.ok sc_is_digit (fun vs H Q E h => ?_) (fun cdv A outer s H vs Q E hr h => ?_)
  · obtain ⟨Z0, v_char, x_char, rfl, _⟩ := h
    rfl
  · obtain ⟨Z0, v_char, x_char, rfl, sz, h_char, q⟩ := h
    refine ⟨_, (pss_one (ps_ret (pe_chain op_le_str op_le_str pe_str (pv 0) pe_str))), ?_⟩
    have P := Pt.start0 sz
    generalize hF : F_is_digit x_char = y at q
    unfold F_is_digit at hF
    subst hF
    refine st_ret P (ev_chainS ev_str (ev_var (τ := yStr) rfl h_char) ev_str) (fun v Z1 H1 P1 hv => ?_)
    exact q v _ _ P1.st hv
theorem cs_is_digit (T : Txt w K mg) {μ : Type} {M : Mu μ} {s : μ} {E : XK} {x_char : Str} : CallS M (sp_is_digit T) E (rac (ty yStr x_char) ra0) s (ty yBool (F_is_digit x_char)) s := by
  rintro Z H vs sz m ⟨v_char, _, rfl, h_char, rfl⟩ Q q
  exact ⟨Z, v_char, x_char, rfl, sz, h_char, fun v Z2 H2 st hv => q v Z2 H2 st.pure (M.pure st m) hv⟩
def sp_is_word (T : Txt w K mg) : Sp := fun vs H Q _ => ∃ (Z0 : Hp) (v_text : V) (x_text : Str) (y : Bool), vs = [v_text] ∧ (Same Z0 H) ∧ ((yStr).r Z0 v_text x_text) ∧ (F_is_word x_text = some y) ∧ ∀ v Z' H', Step [] Z0 H Z' H' → (yBool).r Z' v y → Q v H'
set_option maxHeartbeats 4000000 in
theorem ok_is_word (T : Txt w K mg) : FnOk P w K mg base CX0 2 T.f_is_word T.d_is_word ["text"] (sp_is_word T) := by
  have G_is_digit : FnOk P w K mg base CX0 1 T.f_is_digit T.d_is_digit ["char"] (sp_is_digit T) := ok_is_digit T
  have G_is_letter : FnOk P w K mg base CX0 1 T.f_is_letter T.d_is_letter ["char"] (sp_is_letter T) := ok_is_letter T
  refine T.F_is_word.ok sc_is_word (fun vs H Q E h => ?_) (fun cdv A outer s H vs Q E hr h => ?_)
  · obtain ⟨Z0, v_text, x_text, y, rfl, _⟩ := h
    rfl
  · obtain ⟨Z0, v_text, x_text, y, rfl, sz, h_text, hF, q⟩ := h
    refine ⟨_, (pss_cons (ps_if (PW.pt (pw_or (pt_cmpR op_eq (pv 0) pe_str (nomark _)) (pw_or1 (pt_not (pt_val (pe_call G_is_letter (hr.mono (by decide)) (by rfl) T.g_is_letter T.F_is_letter.kp T.b_is_letter .nil pass0 (pa_cons (pe_ix ix_str (pv 0) pe_int (fun _ _ => rfl)) pa_nil))))))) (pss_one (ps_ret pe_bl)) pss_nil) 
      (pss_one (ps_ret (pe_callB (cr_all rfl) (by rfl) T.m_all (by decide +kernel) (pa_cons (pe_lc (own := [("char", 1)]) (g := gName 1) rfl sc_is_word.nd (pi_str (pv 0)) (blkOk_by (own := [("char", 1)]) (N := ["text", "char"]) (sc := defScope s_is_word) (by decide +kernel)) (fun _ _ _ _ _ => (pg_name (i := 1) sc_is_word.nd rfl (Or.inl rfl))) (fun _ _ _ _ _ => pts_nil) (fun _ _ _ _ _ => (pe_or (pe_call G_is_letter (hr.mono (by decide)) (by rfl) T.g_is_letter T.F_is_letter.kp T.b_is_letter .nil pass0 (pa_cons (pv 1) pa_nil)) (pe_one (pe_call G_is_digit (hr.mono (by decide)) (by rfl) T.g_is_digit T.F_is_digit.kp T.b_is_digit .nil pass0 (pa_cons (pv 1) pa_nil)))))) pa_nil))))), ?_⟩
    have P := Pt.start0 sz
    unfold F_is_word at hF
    obtain ⟨b_75, h_74, hF⟩ := bind_inv hF
    refine st_seq (st_if P (et_orO (et_cmp (ev_eq flat_str (ev_var (τ := yStr) rfl h_text) ev_str)) (fun _ y hy => by
          obtain ⟨i_72, h_73, hy⟩ := bind_inv hy
          have hy := Option.some.inj hy
          subst hy
          exact (et_not (et_val (ev_call (cs_is_letter T) (eva_cons (ev_ixS (ev_var (τ := yStr) rfl h_text) ev_int h_73) eva_nil))))) h_74) (fun b_76 Z1 H1 e P1 => ?_) (fun b_76 Z1 H1 e P1 => ?_))
    · replace P := P1
      have hB := ifT b_76 hF
      replace hF := hB
      clear hB
      replace hF := Option.some.inj hF
      subst hF
      refine st_ret P ev_bl (fun v Z1 H1 P1 hv => ?_)
      exact q v _ _ P1.st hv
    · replace P := P1
      have hB := ifF b_76 hF
      replace hF := hB
      clear hB
      refine st_next0 ?_
      replace hF := Option.some.inj hF
      subst hF
      refine st_ret P (ev_allL (ev_li (ev_fz (en_map (υ := yBool) (fun (x_77 : Str) => ((F_is_letter x_77) || (F_is_digit x_77))) (ei_str (ev_var (τ := yStr) rfl h_text)) (fun x_77 v_78 Z' H' zz hh rx_79 => by
            exact ⟨_, tgt_name, (wpe_s wpe_z (by decide)), (ev_or0 (ev_call (cs_is_letter T) (eva_cons (ev_var (τ := yStr) rfl rx_79) eva_nil)) (ev_call (cs_is_digit T) (eva_cons (ev_var (τ := yStr) rfl rx_79) eva_nil)))⟩))))) (fun v Z1 H1 P1 hv => ?_)
      exact q v _ _ P1.st hv
theorem cs_is_word (T : Txt w K mg) {μ : Type} {M : Mu μ} {s : μ} {E : XK} {x_text : Str} {y : Bool} (h : F_is_word x_text = some y) : CallS M (sp_is_word T) E (rac (ty yStr x_text) ra0) s (ty yBool y) s := by
  rintro Z H vs sz m ⟨v_text, _, rfl, h_text, rfl⟩ Q q
  exact ⟨Z, v_text, x_text, y, rfl, sz, h_text, h, fun v Z2 H2 st hv => q v Z2 H2 st.pure (M.pure st m) hv⟩
def sp_check_fields (T : Txt w K mg) : Sp := fun vs H Q E => ∃ (Z0 : Hp) (v_fields : V) (x_fields : (List (Str × Str))) (y : (Res Exc Unit)), vs = [v_fields] ∧ (Same Z0 H) ∧ (((yTup K (yP2 K yStr yStr))).r Z0 v_fields x_fields) ∧ (F_check_fields x_fields = some y) ∧ (∀ a, y = .ok a → ∀ v Z' H', Step [] Z0 H Z' H' → (yNon).r Z' v a → Q v H') ∧ (∀ c, y = .er c → ∀ Z' H', Step [] Z0 H Z' H' → E (exv T c) none H')
set_option maxHeartbeats 4000000 in
theorem ok_check_fields (T : Txt w K mg) : FnOk P w K mg base (L2.CX P w) 3 T.f_check_fields T.d_check_fields ["fields"] (sp_check_fields T) := by
  have G_is_word : FnOk P w K mg base CX0 2 T.f_is_word T.d_is_word ["text"] (sp_is_word T) := ok_is_word T
  refine T.F_check_fields.okX sc_check_fields (fun vs H Q E h => ?_) (fun cdv A outer s H vs Q E hr h => ?_)
  · obtain ⟨Z0, v_fields, x_fields, y, rfl, _⟩ := h
    rfl
  · obtain ⟨Z0, v_fields, x_fields, y, rfl, sz, h_fields, hF, q⟩ := h
    refine ⟨_, (pss_cons (ps_for (passes_of rfl) rfl (pi_tup (pv 0)) (pg_tup rfl (pgs_cons (pg_name (i := 1) sc_check_fields.nd rfl (.inl rfl)) (pgs_cons (pg_name (i := 2) sc_check_fields.nd rfl (.inl rfl)) pgs_nil))) (pss_cons (ps_if (PW.pt (pw_or (pt_not (pt_val (pe_call G_is_word (hr.mono (by decide)) (by rfl) T.g_is_word T.F_is_word.kp T.b_is_word .nil pass0 (pa_cons (pv 1) pa_nil)))) (pw_or1 (pt_cmpR op_in_seq (pv 1) (pe_glob (v := .ref T.a_RESERVED) rfl T.m_RESERVED rfl) rfl)))) (pss_one (ps_raise rfl (takes_of rfl rfl rfl rfl) (pmk_own PySem.F.excBase_ValueError T.x_InvalidSchema T.mc_InvalidSchema T.kp_InvalidSchema (raises_own T.xb_InvalidSchema T.xt_InvalidSchema) rfl))) pss_nil) 
      (pss_one (ps_if (pt_cmpR op_notIn_seq (pv 2) (pe_glob (v := .ref T.a_KINDS) rfl T.m_KINDS rfl) rfl) (pss_one (ps_raise rfl (takes_of rfl rfl rfl rfl) (pmk_own PySem.F.excBase_ValueError T.x_InvalidSchema T.mc_InvalidSchema T.kp_InvalidSchema (raises_own T.xb_InvalidSchema T.xt_InvalidSchema) rfl))) pss_nil)))) 
      (pss_one (ps_if (pt_cmpR op_lt (TSN.pe_lenSetT rfl (by rfl) T.m_len (by rfl) T.m_set (pe_lc (own := [("name", 1), ("_", 3)]) (g := gTup K 2 (gCons (gName 1) (gCons (gName 3) gNil))) rfl sc_check_fields.nd (pi_tup (pv 0)) (blkOk_by (own := [("name", 1), ("_", 3)]) (N := ["fields", "name", "kind", "_"]) (sc := defScope s_check_fields) (by decide +kernel)) (fun _ _ _ _ _ => (by exact (pg_tup rfl (pgs_cons (pg_name (i := 1) sc_check_fields.nd rfl (Or.inl rfl)) (pgs_cons (pg_name (i := 3) sc_check_fields.nd rfl (Or.inl rfl)) pgs_nil))))) (fun _ _ _ _ _ => pts_nil) (fun _ _ _ _ _ => (pv 1)))) (pe_callB call_len_seq (by rfl) T.m_len PySem.boot_len (pa_cons (pv 0) pa_nil)) (nomark _)) (pss_one (ps_raise rfl (takes_of rfl rfl rfl rfl) (pmk_own PySem.F.excBase_ValueError T.x_InvalidSchema T.mc_InvalidSchema T.kp_InvalidSchema (raises_own T.xb_InvalidSchema T.xt_InvalidSchema) rfl))) pss_nil))), ?_⟩
    obtain ⟨q, qx⟩ := q
    have P := Pt.start0 sz
    unfold F_check_fields at hF
    obtain ⟨f_108, hL_109, hF⟩ := bind_inv hF
    refine st_seq (st_for (τ := (yP2 K yStr yStr)) (fun (r_82 : List (Str × Str)) σ' Z' H' => ∃ w_80, ∃ (y_88 : Option V) (y_89 : Option V) (y_90 : Option V), σ' = [some v_fields, y_88, y_89, y_90] ∧ Pt [] Z0 H muN Z' H' () ∧ ((yTup K (yP2 K yStr yStr))).r Z' v_fields x_fields ∧ forS L_check_fields_1 r_82 w_80 = some f_108) P (ei_tup (ev_var (τ := (yTup K (yP2 K yStr yStr))) rfl h_fields)) ?_ ?_ ?_)
    · rintro Z1 H1 e P1
      replace P := P1
      replace h_fields := ((yTup K (yP2 K yStr yStr))).mono e.z h_fields
      exact ⟨(), _, _, _, rfl, P, h_fields, hL_109⟩
    · rintro Zb_86 Hb eb x_81 r_82 σ' v_96 Z1 H1 Z2 H2 zs_85 ⟨w_80, y_88, y_89, y_90, rfl, P, k_87, hq_84⟩ e hx_97
      replace P := P.item e
      replace k_87 := ((yTup K (yP2 K yStr yStr))).mono e.z k_87
      replace zs_85 := zs_85.trans e.z
      obtain ⟨u_98, hB_83, hq_84⟩ := bind_inv (forS_cons hq_84)
      unfold L_check_fields_1 at hB_83
      obtain ⟨v_99, v_100, k_101, k_102, tg_103⟩ := tgt_p2 hx_97
      refine (tg_103 tgt_name tgt_name) _ P.sub _ ?_
      obtain ⟨r_104, h_105, hB_83⟩ := bind_inv hB_83
      refine st_seq (st_if P (et_or0 (et_not (et_val (ev_call (cs_is_word T h_105) (eva_cons (ev_var (τ := yStr) rfl k_101) eva_nil)))) (et_cmp (ev_inT fi_str (ev_var (τ := yStr) rfl k_101) (ev_const (τ := yTup K yStr) fun Z => ⟨_, _, rfl, T.sq_RESERVED Z, (.cons ⟨rfl, by decide +kernel⟩ (.cons ⟨rfl, by decide +kernel⟩ (.cons ⟨rfl, by decide +kernel⟩ (.cons ⟨rfl, by decide +kernel⟩ (.cons ⟨rfl, by decide +kernel⟩ (.cons ⟨rfl, by decide +kernel⟩ (.cons ⟨rfl, by decide +kernel⟩ (.cons ⟨rfl, by decide +kernel⟩ .nil)))))))), by decide⟩)))) (fun b_106 Z1 H1 e P1 => ?_) (fun b_106 Z1 H1 e P1 => ?_))
      · replace P := P1
        have hB := ifT b_106 hB_83
        replace hB_83 := hB
        clear hB
        replace zs_85 := zs_85.trans e.z
        replace hB_83 := Option.some.inj hB_83
        subst hB_83
        have hz := nxt_ret hq_84
        subst hz
        have hz := ret_inv hF
        replace hz := Option.some.inj hz
        subst hz
        exact qx _ rfl _ _ P.st
      · replace P := P1
        have hB := ifF b_106 hB_83
        replace hB_83 := hB
        clear hB
        refine st_next0 ?_
        replace k_87 := ((yTup K (yP2 K yStr yStr))).mono e.z k_87
        replace zs_85 := zs_85.trans e.z
        refine st_if P (et_cmp (ev_notinT fi_str (ev_var (τ := yStr) rfl k_102) (ev_const (τ := yTup K yStr) fun Z => ⟨_, _, rfl, T.sq_KINDS Z, (.cons ⟨rfl, by decide +kernel⟩ (.cons ⟨rfl, by decide +kernel⟩ (.cons ⟨rfl, by decide +kernel⟩ .nil))), by decide⟩))) (fun b_107 Z1 H1 e P1 => ?_) (fun b_107 Z1 H1 e P1 => ?_)
        · replace P := P1
          have hB := ifT b_107 hB_83
          replace hB_83 := hB
          clear hB
          replace zs_85 := zs_85.trans e.z
          replace hB_83 := Option.some.inj hB_83
          subst hB_83
          have hz := nxt_ret hq_84
          subst hz
          have hz := ret_inv hF
          replace hz := Option.some.inj hz
          subst hz
          exact qx _ rfl _ _ P.st
        · replace P := P1
          have hB := ifF b_107 hB_83
          replace hB_83 := hB
          clear hB
          refine st_next ?_
          replace k_87 := ((yTup K (yP2 K yStr yStr))).mono e.z k_87
          replace zs_85 := zs_85.trans e.z
          replace hB_83 := Option.some.inj hB_83
          subst hB_83
          exact ⟨_, zs_85, P.sub, (), _, _, _, rfl, P, k_87, (nxt_go hq_84)⟩
    rintro σ' Z1 H1 _ _ ⟨w_91, y_88, y_89, y_90, rfl, P, k_92, hl⟩
    have hz := forS_nil hl
    subst hz
    replace hF := go_inv hF
    refine st_nx ?_
    obtain ⟨g_118, hF⟩ := guard_inv hF
    refine st_if P (et_cmp (ev_lt (ev_lenSetT (ev_li (ev_fz (en_map (υ := yStr) (fun (x_110 : (Str × Str)) => x_110.1) (ei_tup (ev_var (τ := (yTup K (yP2 K yStr yStr))) rfl k_92)) (fun x_110 v_111 Z' H' zz hh rx_112 => by
          obtain ⟨v_113, v_114, k_115, k_116, tg_117⟩ := tgt_p2 rx_112
          exact ⟨_, (tg_117 tgt_name tgt_name), (wpe_s (wpe_s wpe_z (by decide)) (by decide)), (ev_var (τ := yStr) rfl k_115)⟩)))) g_118) (ev_lenT (fun _ _ _ h => h) (ev_var (τ := (yTup K (yP2 K yStr yStr))) rfl k_92)))) (fun b_119 Z1 H1 e P1 => ?_) (fun b_119 Z1 H1 e P1 => ?_)
    · replace P := P1
      have hB := ifT b_119 hF
      replace hF := hB
      clear hB
      replace hF := Option.some.inj hF
      subst hF
      exact qx _ rfl _ _ P.st
    · replace P := P1
      have hB := ifF b_119 hF
      replace hF := hB
      clear hB
      refine st_next ?_
      replace hF := Option.some.inj hF
      subst hF
      exact q _ rfl .non _ _ P.st rfl
theorem cs_check_fields (T : Txt w K mg) {μ : Type} {M : Mu μ} {s : μ} {E : XK} {x_fields : (List (Str × Str))} {y : Unit} (h : F_check_fields x_fields = some (.ok y)) : CallS M (sp_check_fields T) E (rac (ty (yTup K (yP2 K yStr yStr)) x_fields) ra0) s (ty yNon y) s := by
  rintro Z H vs sz m ⟨v_fields, _, rfl, h_fields, rfl⟩ Q q
  exact ⟨Z, v_fields, x_fields, _, rfl, sz, h_fields, h, fun a e v Z2 H2 st hv => by cases e; exact q v Z2 H2 st.pure (M.pure st m) hv, fun _ z => nomatch z⟩
theorem cx_check_fields (T : Txt w K mg) {μ : Type} {M : Mu μ} {s : μ} {E : XK} {x_fields : (List (Str × Str))} {e : Exc} (h : F_check_fields x_fields = some (.er e)) : CallE M (sp_check_fields T) E (rac (ty (yTup K (yP2 K yStr yStr)) x_fields) ra0) s (exv T e) s := by
  rintro Z H vs sz m ⟨v_fields, _, rfl, h_fields, rfl⟩ Q q
  exact ⟨Z, v_fields, x_fields, _, rfl, sz, h_fields, h, (fun _ z => nomatch z), fun c e Z2 H2 st => by cases e; exact q Z2 H2 st.pure (M.pure st m)⟩
def sp_Schema___init__ (T : Txt w K mg) : Sp := fun vs H Q E => ∃ (p dx : Addr) (Z0 : Hp) (v_size : V) (v_width : V) (v_measure : V) (v_fields : V) (x_size : Int) (x_width : Str) (x_measure : Str) (x_fields : (List (Str × Str))) (y : (Res Exc Schema)), vs = [.ref p, v_size, v_width, v_measure, v_fields] ∧ (Same Z0 H) ∧ (H p = some (.ins T.c_Schema dx [])) ∧ (Z0 p = none) ∧ ((yInt).r Z0 v_size x_size) ∧ ((yStr).r Z0 v_width x_width) ∧ ((yStr).r Z0 v_measure x_measure) ∧ (((yList (yP2 K yStr yStr))).r Z0 v_fields x_fields) ∧ (F_Schema___init__ x_size x_width x_measure x_fields = some y) ∧ (∀ a, y = .ok a → ∀ Z' H' o, Step [p] Z0 H Z' H' → H' p = some o → (y_Schema T).r (upd Z' p o) (.ref p) a → Q .non H') ∧ (∀ c, y = .er c → ∀ Z' H', Step [p] Z0 H Z' H' → E (exv T c) none H')
set_option maxHeartbeats 4000000 in
theorem ok_Schema___init__ (T : Txt w K mg) : FnOk P w K mg base (L2.CX P w) 4 T.f_Schema___init__ T.d_Schema___init__ ["self", "size", "width", "measure", "fields"] (sp_Schema___init__ T) := by
  have G_check_fields : FnOk P w K mg base (L2.CX P w) 3 T.f_check_fields T.d_check_fields ["fields"] (sp_check_fields T) := ok_check_fields T
  have G_check_vectors : FnOk P w K mg base (L2.CX P w) 1 T.f_check_vectors T.d_check_vectors ["size", "width", "measure"] (sp_check_vectors T) := ok_check_vectors T
  refine T.F_Schema___init__.ok sc_Schema___init__ (fun vs H Q E h => ?_) (fun cdv A outer s H vs Q E hr h => ?_)
  · obtain ⟨p, dx, Z0, v_size, v_width, v_measure, v_fields, x_size, x_width, x_measure, x_fields, y, rfl, _⟩ := h
    rfl
  · obtain ⟨p, dx, Z0, v_size, v_width, v_measure, v_fields, x_size, x_width, x_measure, x_fields, y, rfl, sz, hself, zself, h_size, h_width, h_measure, h_fields, hF, q⟩ := h
    refine ⟨_, (pss_cons (ps_fld (pv 0) (pv 1) rfl) 
      (pss_cons (ps_fld (pv 0) (pv 2) rfl) 
      (pss_cons (ps_fld (pv 0) (pv 3) rfl) 
      (pss_cons (ps_fld (pv 0) (pe_callTy call_tuple_of (by rfl) T.m_tuple (by decide +kernel) (pa_cons (pe_lc (own := [("pair", 5)]) (g := gName 5) rfl sc_Schema___init__.nd (pi_list (pv 4)) (blkOk_by (own := [("pair", 5)]) (N := ["self", "size", "width", "measure", "fields", "pair"]) (sc := defScope s_Schema___init__) (by decide +kernel)) (fun _ _ _ _ _ => (pg_name (i := 5) sc_Schema___init__.nd rfl (Or.inl rfl))) (fun _ _ _ _ _ => pts_nil) (fun _ _ _ _ _ => (pe_callTy (r := rTupleB K) (by exact call_tuple_of) (by rfl) T.m_tuple (by decide +kernel) (pa_cons (pv 5) pa_nil)))) pa_nil)) rfl) 
      (pss_cons (ps_expr (pe_call G_check_vectors (hr.mono (by decide)) (by rfl) T.g_check_vectors T.F_check_vectors.kp T.b_check_vectors .nil (passes_call (takes_of rfl rfl rfl rfl) (fun _ _ _ _ h => h)) (pa_cons (pv 1) (pa_cons (pv 2) (pa_cons (pv 3) pa_nil))))) 
      (pss_one (ps_expr (pe_call G_check_fields (hr.mono (by decide)) (by rfl) T.g_check_fields T.F_check_fields.kp T.b_check_fields .nil (passes_call (takes_of rfl rfl rfl rfl) (fun _ _ _ _ h => h)) (pa_cons (pe_fld (pv 0) rfl) pa_nil))))))))), ?_⟩
    obtain ⟨q, qx⟩ := q
    have P : Pt [p] Z0 H muN Z0 H () := ⟨Step.refl sz, trivial, fun _ h => (nomatch h)⟩
    unfold F_Schema___init__ at hF
    refine st_seq (st_fld (x := x_size) (τ := yInt) P hself zself List.not_mem_nil (.inl List.mem_cons_self) rfl (ev_var (τ := yInt) rfl h_size) T.cl_Schema T.n_Schema_size (Nat.lt_of_le_of_lt (Nat.le_refl 0) (by decide)) (fun v_120 Z1 H1 e P1 k_121 hself1 zself1 => ?_))
    refine st_nx ?_
    replace P := P1
    replace hself := hself1
    replace zself := zself1
    replace h_fields := ((yList (yP2 K yStr yStr))).mono e.z h_fields
    refine st_seq (st_fld (x := x_width) (τ := yStr) P hself zself List.not_mem_nil (.inl List.mem_cons_self) rfl (ev_var (τ := yStr) rfl h_width) T.cl_Schema T.n_Schema_width (Nat.lt_of_le_of_lt (putF_le (Nat.le_refl 0)) (by decide)) (fun v_122 Z1 H1 e P1 k_123 hself1 zself1 => ?_))
    refine st_nx ?_
    replace P := P1
    replace hself := hself1
    replace zself := zself1
    replace h_fields := ((yList (yP2 K yStr yStr))).mono e.z h_fields
    refine st_seq (st_fld (x := x_measure) (τ := yStr) P hself zself List.not_mem_nil (.inl List.mem_cons_self) rfl (ev_var (τ := yStr) rfl h_measure) T.cl_Schema T.n_Schema_measure (Nat.lt_of_le_of_lt (putF_le (putF_le (Nat.le_refl 0))) (by decide)) (fun v_124 Z1 H1 e P1 k_125 hself1 zself1 => ?_))
    refine st_nx ?_
    replace P := P1
    replace hself := hself1
    replace zself := zself1
    replace h_fields := ((yList (yP2 K yStr yStr))).mono e.z h_fields
    refine st_seq (st_fld (x := x_fields) (τ := (yTup K (yP2 K yStr yStr))) P hself zself List.not_mem_nil (.inl List.mem_cons_self) rfl (ev_tuple_of (fun _ _ _ h => h) (ev_li (ev_fz (en_cast (en_map (fun x => x) (ei_list (ev_var (τ := (yList (yP2 K yStr yStr))) rfl h_fields)) (fun x_129 v_130 Z' H' zz hh rx_131 => by
          exact ⟨_, tgt_name, (wpe_s wpe_z (by decide)), (ev_tuple_id (fun _ _ _ h => h) it_p2 (ev_var (τ := (yP2 K yStr yStr)) rfl rx_131))⟩)) (List.map_id' _))))) T.cl_Schema T.n_Schema_fields (Nat.lt_of_le_of_lt (putF_le (putF_le (putF_le (Nat.le_refl 0)))) (by decide)) (fun v_132 Z1 H1 e P1 k_133 hself1 zself1 => ?_))
    refine st_nx ?_
    replace P := P1
    replace hself := hself1
    replace zself := zself1
    obtain ⟨p_136, h_135, hF⟩ := bind_inv hF
    rcases p_136 with r_134 | e
    rotate_left
    · replace hF := rer_inv hF
      replace hF := Option.some.inj hF
      subst hF
      refine st_seq (st_exprE P (eve_call (cx_check_vectors T h_135) (eva_cons (ev_var (τ := yInt) rfl h_size) (eva_cons (ev_var (τ := yStr) rfl h_width) (eva_cons (ev_var (τ := yStr) rfl h_measure) eva_nil)))) (fun Z1 H1 e1 P1 => ?_))
      exact qx _ rfl _ _ P1.st
    replace hF := rok_inv hF
    refine st_seq (st_expr P (ev_call (cs_check_vectors T h_135) (eva_cons (ev_var (τ := yInt) rfl h_size) (eva_cons (ev_var (τ := yStr) rfl h_width) (eva_cons (ev_var (τ := yStr) rfl h_measure) eva_nil)))) (fun Z1 H1 e P1 => ?_))
    refine st_nx ?_
    replace P := P1
    replace k_133 := ((yTup K (yP2 K yStr yStr))).mono e.z k_133
    replace zself := e.n _ (some_ne hself) zself
    replace hself := e.h _ _ List.not_mem_nil hself
    obtain ⟨p_140, h_139, hF⟩ := bind_inv hF
    rcases p_140 with r_138 | e
    rotate_left
    · replace hF := rer_inv hF
      replace hF := Option.some.inj hF
      subst hF
      refine st_exprE P (eve_call (cx_check_fields T h_139) (eva_cons (ev_selfF hself List.not_mem_nil rfl T.cl_Schema T.n_Schema_fields (by rw [lookup_putF, if_pos rfl]) k_133) eva_nil)) (fun Z1 H1 e1 P1 => ?_)
      exact qx _ rfl _ _ P1.st
    replace hF := rok_inv hF
    refine st_expr P (ev_call (cs_check_fields T h_139) (eva_cons (ev_selfF hself List.not_mem_nil rfl T.cl_Schema T.n_Schema_fields (by rw [lookup_putF, if_pos rfl]) k_133) eva_nil)) (fun Z1 H1 e P1 => ?_)
    replace P := P1
    replace k_133 := ((yTup K (yP2 K yStr yStr))).mono e.z k_133
    replace zself := e.n _ (some_ne hself) zself
    replace hself := e.h _ _ List.not_mem_nil hself
    replace hF := Option.some.inj hF
    subst hF
    exact q _ rfl _ _ _ P.st hself ⟨p, dx, v_120, v_122, v_124, v_132, rfl, upd_same, k_121, k_123, k_125, ((yTup K (yP2 K yStr yStr))).mono (same_upd zself) k_133⟩
theorem is_Schema___init__ (T : Txt w K mg) {μ : Type} {M : Mu μ} {s : μ} {E : XK} {x_size : Int} {x_width : Str} {x_measure : Str} {x_fields : (List (Str × Str))} {y : Schema} (h : F_Schema___init__ x_size x_width x_measure x_fields = some (.ok y)) : InitS M T.c_Schema (sp_Schema___init__ T) E (rac (ty yInt x_size) (rac (ty yStr x_width) (rac (ty yStr x_measure) (rac (ty (yList (yP2 K yStr yStr)) x_fields) ra0)))) s (ty (y_Schema T) y) s := by
  rintro Z H vs x dx sz m ⟨v_size, _, rfl, h_size, ⟨v_width, _, rfl, h_width, ⟨v_measure, _, rfl, h_measure, ⟨v_fields, _, rfl, h_fields, rfl⟩⟩⟩⟩ hx zx nx Q q
  exact ⟨x, dx, Z, v_size, v_width, v_measure, v_fields, x_size, x_width, x_measure, x_fields, _, rfl, sz, hx, zx, h_size, h_width, h_measure, h_fields, h, fun a e Z2 H2 o st ho hr => by cases e; exact q Z2 H2 o (st.weak fun a h => by rw [List.mem_singleton] at h; rw [h]; exact .inl List.mem_cons_self) (Mu.away st nx m) ho hr, fun _ z => nomatch z⟩
theorem ix_Schema___init__ (T : Txt w K mg) {μ : Type} {M : Mu μ} {s : μ} {E : XK} {x_size : Int} {x_width : Str} {x_measure : Str} {x_fields : (List (Str × Str))} {e : Exc} (h : F_Schema___init__ x_size x_width x_measure x_fields = some (.er e)) : InitE M T.c_Schema (sp_Schema___init__ T) E (rac (ty yInt x_size) (rac (ty yStr x_width) (rac (ty yStr x_measure) (rac (ty (yList (yP2 K yStr yStr)) x_fields) ra0)))) s (exv T e) s := by
  rintro Z H vs x dx sz m ⟨v_size, _, rfl, h_size, ⟨v_width, _, rfl, h_width, ⟨v_measure, _, rfl, h_measure, ⟨v_fields, _, rfl, h_fields, rfl⟩⟩⟩⟩ hx zx nx Q q
  exact ⟨x, dx, Z, v_size, v_width, v_measure, v_fields, x_size, x_width, x_measure, x_fields, _, rfl, sz, hx, zx, h_size, h_width, h_measure, h_fields, h, (fun _ z => nomatch z), fun c e Z2 H2 st => by cases e; exact q Z2 H2 (st.weak fun a h => by rw [List.mem_singleton] at h; rw [h]; exact .inl List.mem_cons_self) (Mu.away st nx m)⟩
def sp_law_number (T : Txt w K mg) : Sp := fun vs H Q _ => ∃ (st sc : Addr) (Z0 : Hp) (ds : DS) (v_width : V) (x_width : Str) (y : (Int × DS)), vs = [.ref st, v_width] ∧ (Same Z0 H) ∧ ((muD st sc).m ds Z0 H) ∧ ((yStr).r Z0 v_width x_width) ∧ (F_law_number ds x_width = some y) ∧ ∀ v Z' H', Step (muD st sc).fp Z0 H Z' H' → (muD st sc).m y.2 Z' H' → (yInt).r Z' v y.1 → Q v H'
set_option maxHeartbeats 4000000 in
theorem ok_law_number (T : Txt w K mg) : FnOk P w K mg base CX0 3 T.f_law_number T.d_law_number ["state", "width"] (sp_law_number T) := by
  have G_law_next : FnOk P w K mg base CX0 2 T.f_law_next T.d_law_next ["state", "many"] (sp_law_next T) := ok_law_next T
  refine T.F_law_number.ok sc_law_number (fun vs H Q E h => ?_) (fun cdv A outer s H vs Q E hr h => ?_)
  · obtain ⟨st, sc, Z0, ds, v_width, x_width, y, rfl, _⟩ := h
    rfl
  · obtain ⟨st, sc, Z0, ds, v_width, x_width, y, rfl, sz, hm, h_width, hF, q⟩ := h
    refine ⟨_, (pss_cons (ps_set (i := 2) sc_law_number.nd rfl (.inl rfl) (pe_ix ix_list (pe_lst (pa_cons pe_int (pa_cons (pe_un un_neg pe_int) (pa_cons (pe_un un_neg pe_int) pa_nil)))) (pe_bm PySem.F.plainAttrs_list PySem.F.slot_list_index PySem.F.type_list_index mt_index (pe_lst (pa_cons pe_str (pa_cons pe_str (pa_cons pe_str pa_nil)))) (pa_cons (pv 1) pa_nil)) (fun _ _ => rfl))) 
      (pss_cons (ps_set (i := 3) sc_law_number.nd rfl (.inl rfl) (pe_ix ix_list (pe_lst (pa_cons pe_int (pa_cons pe_int (pa_cons pe_int pa_nil)))) (pe_bm PySem.F.plainAttrs_list PySem.F.slot_list_index PySem.F.type_list_index mt_index (pe_lst (pa_cons pe_str (pa_cons pe_str (pa_cons pe_str pa_nil)))) (pa_cons (pv 1) pa_nil)) (fun _ _ => rfl))) 
      (pss_cons (ps_if (pt_cmpR op_eq (pe_call G_law_next (hr.mono (by decide)) (by rfl) T.g_law_next T.F_law_next.kp T.b_law_next .nil pass0 (pa_cons (pv 0) (pa_cons pe_int pa_nil))) pe_int (nomark _)) (pss_one (ps_ret (pe_ix ix_list (pe_lst (pa_cons (pv 2) (pa_cons (pv 3) pa_nil))) (pe_call G_law_next (hr.mono (by decide)) (by rfl) T.g_law_next T.F_law_next.kp T.b_law_next .nil pass0 (pa_cons (pv 0) (pa_cons pe_int pa_nil))) (fun _ _ => rfl)))) pss_nil) 
      (pss_cons (ps_set (i := 4) sc_law_number.nd rfl (.inl rfl) (pe_ix ix_list (pe_lst (pa_cons pe_int (pa_cons pe_int (pa_cons (pe_op op_sub (pv 3) (pv 2)) pa_nil)))) (pe_call G_law_next (hr.mono (by decide)) (by rfl) T.g_law_next T.F_law_next.kp T.b_law_next .nil pass0 (pa_cons (pv 0) (pa_cons pe_int pa_nil))) (fun _ _ => rfl))) 
      (pss_one (ps_ret (pe_ifExp (pt_cmpR op_eq (pe_call G_law_next (hr.mono (by decide)) (by rfl) T.g_law_next T.F_law_next.kp T.b_law_next .nil pass0 (pa_cons (pv 0) (pa_cons pe_int pa_nil))) pe_int (nomark _)) (pe_callB (call_min2 rfl) (by rfl) T.m_min (by decide +kernel) (pa_cons (pv 3) (pa_cons (pe_op op_add (pe_callB (call_max2 rfl) (by rfl) T.m_max (by decide +kernel) (pa_cons (pv 2) (pa_cons pe_int pa_nil))) (pe_call G_law_next (hr.mono (by decide)) (by rfl) T.g_law_next T.F_law_next.kp T.b_law_next .nil pass0 (pa_cons (pv 0) (pa_cons (pe_op op_add (pv 4) pe_int) pa_nil)))) pa_nil))) (pe_callB (call_max2 rfl) (by rfl) T.m_max (by decide +kernel) (pa_cons (pv 2) (pa_cons (pe_un un_neg (pe_call G_law_next (hr.mono (by decide)) (by rfl) T.g_law_next T.F_law_next.kp T.b_law_next .nil pass0 (pa_cons (pv 0) (pa_cons (pe_op op_add (pv 4) pe_int) pa_nil)))) pa_nil)))))))))), ?_⟩
    have P := Pt.start (muD st sc) sz hm
    unfold F_law_number at hF
    obtain ⟨j_157, h_158, hF⟩ := bind_inv hF
    obtain ⟨i_159, h_160, hF⟩ := bind_inv hF
    refine st_seq (st_set P (ev_ixL (ev_li (ev_fz (en_listD (eva_conss ev_int (eva_conss (ev_neg ev_int) (eva_conss (ev_neg ev_int) (eva_nils (τ := yInt))))) (by show 3 ≤ sizeLine; decide)))) (ev_indexL fj_str (ev_li (ev_fz (en_listD (eva_conss ev_str (eva_conss ev_str (eva_conss ev_str (eva_nils (τ := yStr))))) (by show 3 ≤ sizeLine; decide)))) (ev_var (τ := yStr) rfl h_width) h_158) h_160) (fun v_161 Z1 H1 e P1 k_162 => ?_))
    refine st_nx ?_
    replace P := P1
    obtain ⟨j_163, h_164, hF⟩ := bind_inv hF
    obtain ⟨i_165, h_166, hF⟩ := bind_inv hF
    refine st_seq (st_set P (ev_ixL (ev_li (ev_fz (en_listD (eva_conss ev_int (eva_conss ev_int (eva_conss ev_int (eva_nils (τ := yInt))))) (by show 3 ≤ sizeLine; decide)))) (ev_indexL fj_str (ev_li (ev_fz (en_listD (eva_conss ev_str (eva_conss ev_str (eva_conss ev_str (eva_nils (τ := yStr))))) (by show 3 ≤ sizeLine; decide)))) (ev_var (τ := yStr) rfl h_width) h_164) h_166) (fun v_167 Z1 H1 e P1 k_168 => ?_))
    refine st_nx ?_
    replace P := P1
    refine st_seq (st_if P (et_cmp (ev_eq flat_int (ev_call (cs__law_next T (by decide +kernel)) (eva_cons (ev_ref rfl) (eva_cons ev_int eva_nil))) ev_int)) (fun b_169 Z1 H1 e P1 => ?_) (fun b_169 Z1 H1 e P1 => ?_))
    · replace P := P1
      have hB := ifT b_169 hF
      replace hF := hB
      clear hB
      obtain ⟨i_170, h_171, hF⟩ := bind_inv hF
      replace hF := Option.some.inj hF
      subst hF
      refine st_ret P (ev_ixL (ev_li (ev_fz (en_listD (eva_conss (ev_var (τ := yInt) rfl k_162) (eva_conss (ev_var (τ := yInt) rfl k_168) (eva_nils (τ := yInt)))) (by show 2 ≤ sizeLine; decide)))) (ev_call (cs__law_next T (by decide +kernel)) (eva_cons (ev_ref rfl) (eva_cons ev_int eva_nil))) h_171) (fun v Z1 H1 P1 hv => ?_)
      exact q v _ _ P1.st P1.m hv
    · replace P := P1
      have hB := ifF b_169 hF
      replace hF := hB
      clear hB
      refine st_next0 ?_
      obtain ⟨i_172, h_173, hF⟩ := bind_inv hF
      refine st_seq (st_set P (ev_ixL (ev_li (ev_fz (en_listD (eva_conss ev_int (eva_conss ev_int (eva_conss (ev_sub (ev_var (τ := yInt) rfl k_168) (ev_var (τ := yInt) rfl k_162)) (eva_nils (τ := yInt))))) (by show 3 ≤ sizeLine; decide)))) (ev_call (cs__law_next T (by decide +kernel)) (eva_cons (ev_ref rfl) (eva_cons ev_int eva_nil))) h_173) (fun v_174 Z1 H1 e P1 k_175 => ?_))
      refine st_nx ?_
      replace P := P1
      obtain ⟨w_179, h_178, hF⟩ := bind_inv hF
      replace hF := Option.some.inj hF
      subst hF
      refine st_ret P (ev_if (R := ty yInt w_179.1) (s2 := w_179.2) (et_cmp (ev_eq flat_int (ev_call (cs__law_next T (by decide +kernel)) (eva_cons (ev_ref rfl) (eva_cons ev_int eva_nil))) ev_int)) (fun hb => by
            have hy := ifT hb h_178
            obtain ⟨g_176, hy⟩ := guard_inv hy
            have hy := Option.some.inj hy
            subst hy
            exact (ev_min2 (ev_var (τ := yInt) rfl k_168) (ev_add (ev_max2 (ev_var (τ := yInt) rfl k_162) ev_int) (ev_call (cs__law_next T g_176) (eva_cons (ev_ref rfl) (eva_cons (ev_add (ev_var (τ := yInt) rfl k_175) ev_int) eva_nil)))))) (fun hb => by
            have hy := ifF hb h_178
            obtain ⟨g_177, hy⟩ := guard_inv hy
            have hy := Option.some.inj hy
            subst hy
            exact (ev_max2 (ev_var (τ := yInt) rfl k_162) (ev_neg (ev_call (cs__law_next T g_177) (eva_cons (ev_ref rfl) (eva_cons (ev_add (ev_var (τ := yInt) rfl k_175) ev_int) eva_nil))))))) (fun v Z1 H1 P1 hv => ?_)
      exact q v _ _ P1.st P1.m hv
theorem cs_law_number (T : Txt w K mg) {st sc : Addr} {ds : DS} {E : XK} {x_width : Str} {y : Int × DS} (h : F_law_number ds x_width = some y) : CallS (muD st sc) (sp_law_number T) E (rac (isRef st) (rac (ty yStr x_width) ra0)) ds (ty yInt y.1) y.2 := by
  rintro Z H vs sz m ⟨_, _, rfl, rfl, ⟨v_width, _, rfl, h_width, rfl⟩⟩ Q q
  exact ⟨st, sc, Z, ds, v_width, x_width, y, rfl, sz, m, h_width, h, fun v Z2 H2 s2 m2 hv => q v Z2 H2 s2 m2 hv⟩
theorem cu_law_number (T : Txt w K mg) {st sc : Addr} {ds : DS} {E : XK} {x_width : Str} {y : Int × DS} {μ : Type} {M : Mu μ} {s s2 : μ} (hm : ∀ Z H, M.m s Z H → (muD st sc).m ds Z H) (hf : ∀ a ∈ (muD st sc).fp, a ∈ M.fp) (hp : ∀ Z H Z' H', M.m s Z H → Step (muD st sc).fp Z H Z' H' → (muD st sc).m y.2 Z' H' → M.m s2 Z' H') (h : F_law_number ds x_width = some y) : CallS M (sp_law_number T) E (rac (isRef st) (rac (ty yStr x_width) ra0)) s (ty yInt y.1) s2 := by
  rintro Z H vs sz m ⟨_, _, rfl, rfl, ⟨v_width, _, rfl, h_width, rfl⟩⟩ Q q
  exact ⟨st, sc, Z, ds, v_width, x_width, y, rfl, sz, hm _ _ m, h_width, h, fun v Z2 H2 st2 m2 hv => q v Z2 H2 (st2.weak fun a h => .inl (hf a h)) (hp _ _ _ _ m st2 m2) hv⟩
def sp_law_query (T : Txt w K mg) : Sp := fun vs H Q _ => ∃ (st sc : Addr) (Z0 : Hp) (ds : DS) (v_drawn : V) (x_drawn : (Int × Str × Str × (List (Str × Str)))) (y : (((List Int) × Int × (List (Str × Int))) × DS)), vs = [.ref st, v_drawn] ∧ (Same Z0 H) ∧ ((muD st sc).m ds Z0 H) ∧ (((yP4 K yInt yStr yStr (yList (yP2 K yStr yStr)))).r Z0 v_drawn x_drawn) ∧ (F_law_query ds x_drawn = some y) ∧ ∀ v Z' H', Step (muD st sc).fp Z0 H Z' H' → (muD st sc).m y.2 Z' H' → ((yP3 K (yList yInt) yInt (yList (yP2 K yStr yInt)))).r Z' v y.1 → Q v H'
set_option maxHeartbeats 4000000 in
theorem ok_law_query (T : Txt w K mg) : FnOk P w K mg base CX0 4 T.f_law_query T.d_law_query ["state", "drawn"] (sp_law_query T) := by
  have G_law_next : FnOk P w K mg base CX0 2 T.f_law_next T.d_law_next ["state", "many"] (sp_law_next T) := ok_law_next T
  have G_law_number : FnOk P w K mg base CX0 3 T.f_law_number T.d_law_number ["state", "width"] (sp_law_number T) := ok_law_number T
  refine T.F_law_query.ok sc_law_query (fun vs H Q E h => ?_) (fun cdv A outer s H vs Q E hr h => ?_)
  · obtain ⟨st, sc, Z0, ds, v_drawn, x_drawn, y, rfl, _⟩ := h
    rfl
  · obtain ⟨st, sc, Z0, ds, v_drawn, x_drawn, y, rfl, sz, hm, h_drawn, hF, q⟩ := h
    refine ⟨_, (pss_cons (ps_setLc (i := 2) (own := [("k", 3)]) (g := gName 3) rfl sc_law_query.nd rfl rfl (sw_true rfl rfl rfl (by decide +kernel)) (pi_range1 rfl T.m_range (pa_cons (pe_ix ix_tup (pv 1) pe_int (fun _ _ => rfl)) pa_nil)) (blkOk_by (own := [("k", 3)]) (N := ["state", "drawn", "vector", "k", "words", "word"]) (sc := defScope s_law_query) (by decide +kernel)) (fun _ _ _ _ _ => (pg_name (i := 3) sc_law_query.nd rfl (Or.inl rfl))) (fun _ _ _ _ _ => pts_nil) (fun _ _ _ _ _ => (pe_call G_law_number (hr.mono (by decide)) (by rfl) T.g_law_number T.F_law_number.kp T.b_law_number .nil pass0 (pa_cons (pv 0) (pa_cons (pe_ix (r := rIxT K) (by exact ix_tup) (pv 1) pe_int (fun _ _ => rfl)) pa_nil))))) 
      (pss_cons (ps_set (i := 4) sc_law_query.nd rfl (.inl rfl) (pe_lst pa_nil)) 
      (pss_cons (ps_for PassesOwn.never rfl (pi_list (pe_lst (pa_cons pe_str (pa_cons pe_str (pa_cons pe_str pa_nil))))) (pg_name (i := 5) sc_law_query.nd rfl (.inl rfl)) (pss_one (ps_if (pt_cmpR op_eq (pe_call G_law_next (hr.mono (by decide)) (by rfl) T.g_law_next T.F_law_next.kp T.b_law_next .nil pass0 (pa_cons (pv 0) (pa_cons pe_int pa_nil))) pe_int (nomark _)) (pss_one (ps_expr (pe_bm PySem.F.plainAttrs_list PySem.F.slot_list_append PySem.F.type_list_append mt_append (pv 4) (pa_cons (pe_tup (pa_cons (pv 5) (pa_cons (pe_op op_mul (pe_call G_law_next (hr.mono (by decide)) (by rfl) T.g_law_next T.F_law_next.kp T.b_law_next .nil pass0 (pa_cons (pv 0) (pa_cons pe_int pa_nil))) (pe_call G_law_next (hr.mono (by decide)) (by rfl) T.g_law_next T.F_law_next.kp T.b_law_next .nil pass0 (pa_cons (pv 0) (pa_cons pe_int pa_nil)))) pa_nil))) pa_nil)))) pss_nil))) 
      (pss_one (ps_ret (pe_tup (pa_cons (pv 2) (pa_cons (pe_ix ix_list (pe_lst (pa_cons pe_int (pa_cons pe_int (pa_cons pe_int (pa_cons pe_int pa_nil))))) (pe_call G_law_next (hr.mono (by decide)) (by rfl) T.g_law_next T.F_law_next.kp T.b_law_next .nil pass0 (pa_cons (pv 0) (pa_cons pe_int pa_nil))) (fun _ _ => rfl)) (pa_cons (pv 4) pa_nil))))))))), ?_⟩
    have P := Pt.start (muD st sc) sz hm
    unfold F_law_query at hF
    obtain ⟨g_187, hF⟩ := guard_inv hF
    obtain ⟨l_194, h_195, hF⟩ := bind_inv hF
    refine st_seq (st_set P (ev_fz (en_mapS (υ := yInt) (fun (x_188 : Int) (s_189 : DS) => ((F_law_number s_189 x_drawn.2.1).bind fun r_192 =>
    some (r_192.1, r_192.2) : Option (Int × DS))) (ei_rng1 (ev_cast (ev_part po4_0 (ev_var (τ := (yP4 K yInt yStr yStr (yList (yP2 K yStr yStr)))) rfl h_drawn) ev_int) rfl) g_187) (fun x_188 v_190 Z' H' s_189 p zz hh rx_191 hp => by
          replace h_drawn := ((yP4 K yInt yStr yStr (yList (yP2 K yStr yStr)))).mono zz h_drawn
          have hy := hp
          obtain ⟨r_192, h_193, hy⟩ := bind_inv hy
          have hy := Option.some.inj hy
          subst hy
          exact ⟨_, tgt_name, (wpe_s wpe_z (by decide)), (ev_call (cs_law_number T h_193) (eva_cons (ev_ref rfl) (eva_cons (ev_cast (ev_part po4_1 (ev_var (τ := (yP4 K yInt yStr yStr (yList (yP2 K yStr yStr)))) rfl h_drawn) ev_int) rfl) eva_nil)))⟩) h_195)) (fun v_196 Z1 H1 e P1 k_197 => ?_))
    refine st_nx ?_
    replace P := P1
    refine st_seq (st_setN (τ := (yP2 K yStr yInt)) P (en_listD (eva_nils (τ := (yP2 K yStr yInt))) (by show 0 ≤ sizeLine; decide)) (fun p_198 Z1 H1 e P1 fr_200 o_199 => ?_))
    refine st_nx ?_
    replace P := P1
    replace k_197 := ((yList yInt)).mono e.z k_197
    obtain ⟨f_226, hL_227, hF⟩ := bind_inv hF
    refine st_seq (st_for (τ := yStr) (fun (r_203 : List Str) σ' Z' H' => ∃ w_201, ∃ (y_208 : Option V) (y_210 : Option V) (y_212 : Option V), σ' = [some (.ref st), y_208, some v_196, y_210, some (.ref p_198), y_212] ∧ Pt (muD st sc).fp Z0 H (muD st sc) Z' H' w_201.2 ∧ ((yList yInt)).r Z' v_196 l_194.1 ∧ Own (muD st sc).fp H (muD st sc).fp Z' H' (yP2 K yStr yInt) p_198 w_201.1 ∧ forF L_law_query_1 r_203 w_201 = some f_226) P (ei_list (ev_fz (en_listD (eva_conss ev_str (eva_conss ev_str (eva_conss ev_str (eva_nils (τ := yStr))))) (by show 3 ≤ sizeLine; decide)))) ?_ ?_ ?_)
    · rintro Z1 H1 e P1
      replace P := P1
      replace k_197 := ((yList yInt)).mono e.z k_197
      replace o_199 := o_199.next e
      exact ⟨(([] : List (Str × Int)), l_194.2), _, _, _, rfl, P, k_197, o_199, hL_227⟩
    · rintro Zb_207 Hb eb x_202 r_203 σ' v_219 Z1 H1 Z2 H2 zs_206 ⟨w_201, y_208, y_210, y_212, rfl, P, k_209, o_211, hq_205⟩ e hx_220
      replace P := P.item e
      replace k_209 := ((yList yInt)).mono e.z k_209
      replace o_211 := o_211.step e List.not_mem_nil
      replace zs_206 := zs_206.trans e.z
      obtain ⟨u_221, hB_204, hq_205⟩ := bind_inv (forF_cons hq_205)
      unfold L_law_query_1 at hB_204
      refine tgt_name _ P.sub _ ?_
      refine st_if P (et_cmp (ev_eq flat_int (ev_call (cs__law_next T (by decide +kernel)) (eva_cons (ev_ref rfl) (eva_cons ev_int eva_nil))) ev_int)) (fun b_222 Z1 H1 e P1 => ?_) (fun b_222 Z1 H1 e P1 => ?_)
      · replace P := P1
        have hB := ifT b_222 hB_204
        replace hB_204 := hB
        clear hB
        replace k_209 := ((yList yInt)).mono e.z k_209
        replace o_211 := o_211.next e
        replace zs_206 := zs_206.trans e.z
        obtain ⟨g_223, hB_204⟩ := guard_inv hB_204
        obtain ⟨g_224, hB_204⟩ := guard_inv hB_204
        refine st_append P o_211 rfl (ev_p2 (K := K) (eva_cons (ev_var (τ := yStr) rfl hx_220) (eva_cons (ev_mul (ev_call (cs__law_next T (by decide +kernel)) (eva_cons (ev_ref rfl) (eva_cons ev_int eva_nil))) (ev_call (cs__law_next T (by decide +kernel)) (eva_cons (ev_ref rfl) (eva_cons ev_int eva_nil))) g_223) eva_nil))) g_224 (fun Z1 H1 e P1 o_225 => ?_)
        replace P := P1
        replace k_209 := ((yList yInt)).mono e.z k_209
        replace zs_206 := zs_206.trans e.z
        replace hB_204 := Option.some.inj hB_204
        subst hB_204
        exact ⟨_, zs_206, P.sub, ((w_201.1 ++ [(x_202, ((nxV (nxS w_201.2 (2 : Int)) (4 : Int)) * (nxV (nxS (nxS w_201.2 (2 : Int)) (4 : Int)) (100 : Int))))]), (nxS (nxS (nxS w_201.2 (2 : Int)) (4 : Int)) (100 : Int))), _, _, _, rfl, P, k_209, o_225, hq_205⟩
      · replace P := P1
        have hB := ifF b_222 hB_204
        replace hB_204 := hB
        clear hB
        refine st_next ?_
        replace k_209 := ((yList yInt)).mono e.z k_209
        replace o_211 := o_211.next e
        replace zs_206 := zs_206.trans e.z
        replace hB_204 := Option.some.inj hB_204
        subst hB_204
        exact ⟨_, zs_206, P.sub, (w_201.1, (nxS w_201.2 (2 : Int))), _, _, _, rfl, P, k_209, o_211, hq_205⟩
    rintro σ' Z1 H1 _ _ ⟨w_213, y_208, y_210, y_212, rfl, P, k_215, o_217, hl⟩
    have hz := (forF_nil hl).symm
    subst hz
    refine st_nx ?_
    obtain ⟨Z, P, zf, hf, of⟩ := o_217.fz P
    replace k_215 := ((yList yInt)).mono zf k_215
    have k_228 := hf
    clear hf zf of
    obtain ⟨i_229, h_230, hF⟩ := bind_inv hF
    replace hF := Option.some.inj hF
    subst hF
    refine st_ret P (ev_p3 (K := K) (eva_cons (ev_var (τ := (yList yInt)) rfl k_215) (eva_cons (ev_ixL (ev_li (ev_fz (en_listD (eva_conss ev_int (eva_conss ev_int (eva_conss ev_int (eva_conss ev_int (eva_nils (τ := yInt)))))) (by show 4 ≤ sizeLine; decide)))) (ev_call (cs__law_next T (by decide +kernel)) (eva_cons (ev_ref rfl) (eva_cons ev_int eva_nil))) h_230) (eva_cons (ev_var (τ := (yList (yP2 K yStr yInt))) rfl k_228) eva_nil)))) (fun v Z1 H1 P1 hv => ?_)
    exact q v _ _ P1.st P1.m hv
theorem cs_law_query (T : Txt w K mg) {st sc : Addr} {ds : DS} {E : XK} {x_drawn : (Int × Str × Str × (List (Str × Str)))} {y : ((List Int) × Int × (List (Str × Int))) × DS} (h : F_law_query ds x_drawn = some y) : CallS (muD st sc) (sp_law_query T) E (rac (isRef st) (rac (ty (yP4 K yInt yStr yStr (yList (yP2 K yStr yStr))) x_drawn) ra0)) ds (ty (yP3 K (yList yInt) yInt (yList (yP2 K yStr yInt))) y.1) y.2 := by
  rintro Z H vs sz m ⟨_, _, rfl, rfl, ⟨v_drawn, _, rfl, h_drawn, rfl⟩⟩ Q q
  exact ⟨st, sc, Z, ds, v_drawn, x_drawn, y, rfl, sz, m, h_drawn, h, fun v Z2 H2 s2 m2 hv => q v Z2 H2 s2 m2 hv⟩
theorem cu_law_query (T : Txt w K mg) {st sc : Addr} {ds : DS} {E : XK} {x_drawn : (Int × Str × Str × (List (Str × Str)))} {y : ((List Int) × Int × (List (Str × Int))) × DS} {μ : Type} {M : Mu μ} {s s2 : μ} (hm : ∀ Z H, M.m s Z H → (muD st sc).m ds Z H) (hf : ∀ a ∈ (muD st sc).fp, a ∈ M.fp) (hp : ∀ Z H Z' H', M.m s Z H → Step (muD st sc).fp Z H Z' H' → (muD st sc).m y.2 Z' H' → M.m s2 Z' H') (h : F_law_query ds x_drawn = some y) : CallS M (sp_law_query T) E (rac (isRef st) (rac (ty (yP4 K yInt yStr yStr (yList (yP2 K yStr yStr))) x_drawn) ra0)) s (ty (yP3 K (yList yInt) yInt (yList (yP2 K yStr yInt))) y.1) s2 := by
  rintro Z H vs sz m ⟨_, _, rfl, rfl, ⟨v_drawn, _, rfl, h_drawn, rfl⟩⟩ Q q
  exact ⟨st, sc, Z, ds, v_drawn, x_drawn, y, rfl, sz, hm _ _ m, h_drawn, h, fun v Z2 H2 st2 m2 hv => q v Z2 H2 (st2.weak fun a h => .inl (hf a h)) (hp _ _ _ _ m st2 m2) hv⟩
def sp_are_within (T : Txt w K mg) : Sp := fun vs H Q _ => ∃ (Z0 : Hp) (v_vector : V) (v_width : V) (x_vector : (List Int)) (x_width : Str) (y : Bool), vs = [v_vector, v_width] ∧ (Same Z0 H) ∧ (((yTup K yInt)).r Z0 v_vector x_vector) ∧ ((yStr).r Z0 v_width x_width) ∧ (F_are_within x_vector x_width = some y) ∧ ∀ v Z' H', Step [] Z0 H Z' H' → (yBool).r Z' v y → Q v H'
set_option maxHeartbeats 4000000 in
theorem ok_are_within (T : Txt w K mg) : FnOk P w K mg base CX0 1 T.f_are_within T.d_are_within ["vector", "width"] (sp_are_within T) := by
  refine T.F_are_within.ok sc_are_within (fun vs H Q E h => ?_) (fun cdv A outer s H vs Q E hr h => ?_)
  · obtain ⟨Z0, v_vector, v_width, x_vector, x_width, y, rfl, _⟩ := h
    rfl
  · obtain ⟨Z0, v_vector, v_width, x_vector, x_width, y, rfl, sz, h_vector, h_width, hF, q⟩ := h
    refine ⟨_, (pss_cons (ps_asg (pe_ix ix_kdict (pe_glob (v := .ref T.a_WIDTHS) rfl T.m_WIDTHS rfl) (pv 1) (fun _ _ => rfl)) (pg_tup rfl (pgs_cons (pg_name (i := 2) sc_are_within.nd rfl (.inr rfl)) (pgs_cons (pg_name (i := 3) sc_are_within.nd rfl (.inr rfl)) pgs_nil)))) 
      (pss_one (ps_ret (pe_callB (cr_all rfl) (by rfl) T.m_all (by decide +kernel) (pa_cons (pe_lc (own := [("number", 4)]) (g := gName 4) rfl sc_are_within.nd (pi_tup (pv 0)) (blkOk_by (own := [("number", 4)]) (N := ["vector", "width", "low", "high", "number"]) (sc := defScope s_are_within) (by decide +kernel)) (fun _ _ _ _ _ => (pg_name (i := 4) sc_are_within.nd rfl (Or.inl rfl))) (fun _ _ _ _ _ => pts_nil) (fun _ _ _ _ _ => (pe_chain op_le op_le (pv 2) (pv 4) (pv 3)))) pa_nil))))), ?_⟩
    have P := Pt.start0 sz
    unfold F_are_within at hF
    obtain ⟨i_242, h_243, hF⟩ := bind_inv hF
    refine st_seq (st_asg P (ev_get_WIDTHS T (ev_var (τ := yStr) rfl h_width) h_243) (fun v Z1 H1 e P1 k_244 => ?_))
    replace P := P1
    replace h_vector := ((yTup K yInt)).mono e.z h_vector
    obtain ⟨v_245, v_246, k_247, k_248, tg_249⟩ := tgt_p2 k_244
    refine ⟨_, (tg_249 tgt_name tgt_name), ?_⟩
    refine st_nx ?_
    replace hF := Option.some.inj hF
    subst hF
    refine st_ret P (ev_allL (ev_li (ev_fz (en_map (υ := yBool) (fun (x_250 : Int) => ((decide (i_242.1 ≤ x_250)) && (decide (x_250 ≤ i_242.2)))) (ei_tup (ev_var (τ := (yTup K yInt)) rfl h_vector)) (fun x_250 v_251 Z' H' zz hh rx_252 => by
          exact ⟨_, tgt_name, (wpe_s wpe_z (by decide)), (ev_chain (ev_var (τ := yInt) rfl k_247) (ev_var (τ := yInt) rfl rx_252) (ev_var (τ := yInt) rfl k_248))⟩))))) (fun v Z1 H1 P1 hv => ?_)
    exact q v _ _ P1.st hv
theorem cs_are_within (T : Txt w K mg) {μ : Type} {M : Mu μ} {s : μ} {E : XK} {x_vector : (List Int)} {x_width : Str} {y : Bool} (h : F_are_within x_vector x_width = some y) : CallS M (sp_are_within T) E (rac (ty (yTup K yInt) x_vector) (rac (ty yStr x_width) ra0)) s (ty yBool y) s := by
  rintro Z H vs sz m ⟨v_vector, _, rfl, h_vector, ⟨v_width, _, rfl, h_width, rfl⟩⟩ Q q
  exact ⟨Z, v_vector, v_width, x_vector, x_width, y, rfl, sz, h_vector, h_width, h, fun v Z2 H2 st hv => q v Z2 H2 st.pure (M.pure st m) hv⟩
def sp_check_query (T : Txt w K mg) : Sp := fun vs H Q E => ∃ (Z0 : Hp) (v_schema : V) (v_query : V) (x_schema : Schema) (x_query : Query) (y : (Res Exc Unit)), vs = [v_schema, v_query] ∧ (Same Z0 H) ∧ (((y_Schema T)).r Z0 v_schema x_schema) ∧ (((y_Query T)).r Z0 v_query x_query) ∧ (F_check_query x_schema x_query = some y) ∧ (∀ a, y = .ok a → ∀ v Z' H', Step [] Z0 H Z' H' → (yNon).r Z' v a → Q v H') ∧ (∀ c, y = .er c → ∀ Z' H', Step [] Z0 H Z' H' → E (exv T c) none H')
set_option maxHeartbeats 4000000 in
theorem ok_check_query (T : Txt w K mg) : FnOk P w K mg base (L2.CX P w) 2 T.f_check_query T.d_check_query ["schema", "query"] (sp_check_query T) := by
  have G_are_within : FnOk P w K mg base CX0 1 T.f_are_within T.d_are_within ["vector", "width"] (sp_are_within T) := ok_are_within T
  refine T.F_check_query.okX sc_check_query (fun vs H Q E h => ?_) (fun cdv A outer s H vs Q E hr h => ?_)
  · obtain ⟨Z0, v_schema, v_query, x_schema, x_query, y, rfl, _⟩ := h
    rfl
  · obtain ⟨Z0, v_schema, v_query, x_schema, x_query, y, rfl, sz, h_schema, h_query, hF, q⟩ := h
    refine ⟨_, (pss_cons (ps_if (PW.pt (pw_or (pt_cmpR op_ne (pe_callB call_len_seq (by rfl) T.m_len PySem.boot_len (pa_cons (pe_fld (pv 1) rfl) pa_nil)) (pe_fld (pv 0) rfl) (nomark _)) (pw_or1 (pt_not (pt_val (pe_call G_are_within (hr.mono (by decide)) (by rfl) T.g_are_within T.F_are_within.kp T.b_are_within .nil pass0 (pa_cons (pe_fld (pv 1) rfl) (pa_cons (pe_fld (pv 0) rfl) pa_nil)))))))) (pss_one (ps_raise rfl (takes_of rfl rfl rfl rfl) (pmk_own PySem.F.excBase_ValueError T.x_InvalidQuery T.mc_InvalidQuery T.kp_InvalidQuery (raises_own T.xb_InvalidQuery T.xt_InvalidQuery) rfl))) pss_nil) 
      (pss_cons (ps_if (PW.pt (pw_or (pt_cmpR op_lt (pe_fld (pv 1) rfl) pe_int (nomark _)) (pw_or1 (pt_val (pe_callB (cr_any rfl) (by rfl) T.m_any (by decide +kernel) (pa_cons (pe_lc (own := [("_", 2), ("weight", 3)]) (g := gTup K 2 (gCons (gName 2) (gCons (gName 3) gNil))) rfl sc_check_query.nd (pi_tup (pe_fld (pv 1) rfl)) (blkOk_by (own := [("_", 2), ("weight", 3)]) (N := ["schema", "query", "_", "weight", "word"]) (sc := defScope s_check_query) (by decide +kernel)) (fun _ _ _ _ _ => (by exact (pg_tup rfl (pgs_cons (pg_name (i := 2) sc_check_query.nd rfl (Or.inl rfl)) (pgs_cons (pg_name (i := 3) sc_check_query.nd rfl (Or.inl rfl)) pgs_nil))))) (fun _ _ _ _ _ => pts_nil) (fun _ _ _ _ _ => (pe_cmpR op_lt (pv 3) pe_int (nomark _)))) pa_nil)))))) (pss_one (ps_raise rfl (takes_of rfl rfl rfl rfl) (pmk_own PySem.F.excBase_ValueError T.x_InvalidQuery T.mc_InvalidQuery T.kp_InvalidQuery (raises_own T.xb_InvalidQuery T.xt_InvalidQuery) rfl))) pss_nil) 
      (pss_cons (ps_if (pt_cmpR op_lt (pe_fld (pv 1) rfl) pe_int (nomark _)) (pss_one (ps_raise rfl (takes_of rfl rfl rfl rfl) (pmk_own PySem.F.excBase_ValueError T.x_InvalidQuery T.mc_InvalidQuery T.kp_InvalidQuery (raises_own T.xb_InvalidQuery T.xt_InvalidQuery) rfl))) pss_nil) 
      (pss_one (ps_if (pt_cmpR op_lt (TSN.pe_lenSetT rfl (by rfl) T.m_len (by rfl) T.m_set (pe_lc (own := [("word", 4), ("_", 2)]) (g := gTup K 2 (gCons (gName 4) (gCons (gName 2) gNil))) rfl sc_check_query.nd (pi_tup (pe_fld (pv 1) rfl)) (blkOk_by (own := [("word", 4), ("_", 2)]) (N := ["schema", "query", "_", "weight", "word"]) (sc := defScope s_check_query) (by decide +kernel)) (fun _ _ _ _ _ => (by exact (pg_tup rfl (pgs_cons (pg_name (i := 4) sc_check_query.nd rfl (Or.inl rfl)) (pgs_cons (pg_name (i := 2) sc_check_query.nd rfl (Or.inl rfl)) pgs_nil))))) (fun _ _ _ _ _ => pts_nil) (fun _ _ _ _ _ => (pv 4)))) (pe_callB call_len_seq (by rfl) T.m_len PySem.boot_len (pa_cons (pe_fld (pv 1) rfl) pa_nil)) (nomark _)) (pss_one (ps_raise rfl (takes_of rfl rfl rfl rfl) (pmk_own PySem.F.excBase_ValueError T.x_InvalidQuery T.mc_InvalidQuery T.kp_InvalidQuery (raises_own T.xb_InvalidQuery T.xt_InvalidQuery) rfl))) pss_nil))))), ?_⟩
    obtain ⟨q, qx⟩ := q
    have P := Pt.start0 sz
    unfold F_check_query at hF
    obtain ⟨b_256, h_255, hF⟩ := bind_inv hF
    refine st_seq (st_if P (et_orO (et_cmp (ev_ne flat_int (ev_lenT (fun _ _ _ h => h) (ev_fld (fo_Query_vector T) T.cl_Query T.n_Query_vector (ev_var (τ := (y_Query T)) rfl h_query))) (ev_fld (fo_Schema_size T) T.cl_Schema T.n_Schema_size (ev_var (τ := (y_Schema T)) rfl h_schema)))) (fun _ y hy => by
          obtain ⟨r_253, h_254, hy⟩ := bind_inv hy
          have hy := Option.some.inj hy
          subst hy
          exact (et_not (et_val (ev_call (cs_are_within T h_254) (eva_cons (ev_fld (fo_Query_vector T) T.cl_Query T.n_Query_vector (ev_var (τ := (y_Query T)) rfl h_query)) (eva_cons (ev_fld (fo_Schema_width T) T.cl_Schema T.n_Schema_width (ev_var (τ := (y_Schema T)) rfl h_schema)) eva_nil)))))) h_255) (fun b_257 Z1 H1 e P1 => ?_) (fun b_257 Z1 H1 e P1 => ?_))
    · replace P := P1
      have hB := ifT b_257 hF
      replace hF := hB
      clear hB
      replace hF := Option.some.inj hF
      subst hF
      exact qx _ rfl _ _ P.st
    · replace P := P1
      have hB := ifF b_257 hF
      replace hF := hB
      clear hB
      refine st_next0 ?_
      replace h_query := ((y_Query T)).mono e.z h_query
      refine st_seq (st_if P (et_or0 (et_cmp (ev_lt (ev_fld (fo_Query_near T) T.cl_Query T.n_Query_near (ev_var (τ := (y_Query T)) rfl h_query)) ev_int)) (et_val (ev_anyL (ev_li (ev_fz (en_map (υ := yBool) (fun (x_258 : (Str × Int)) => (decide (x_258.2 < (0 : Int)))) (ei_tup (ev_fld (fo_Query_words T) T.cl_Query T.n_Query_words (ev_var (τ := (y_Query T)) rfl h_query))) (fun x_258 v_259 Z' H' zz hh rx_260 => by
            obtain ⟨v_261, v_262, k_263, k_264, tg_265⟩ := tgt_p2 rx_260
            exact ⟨_, (tg_265 tgt_name tgt_name), (wpe_s (wpe_s wpe_z (by decide)) (by decide)), (ev_lt (ev_var (τ := yInt) rfl k_264) ev_int)⟩))))))) (fun b_266 Z1 H1 e P1 => ?_) (fun b_266 Z1 H1 e P1 => ?_))
      · replace P := P1
        have hB := ifT b_266 hF
        replace hF := hB
        clear hB
        replace hF := Option.some.inj hF
        subst hF
        exact qx _ rfl _ _ P.st
      · replace P := P1
        have hB := ifF b_266 hF
        replace hF := hB
        clear hB
        refine st_next0 ?_
        replace h_query := ((y_Query T)).mono e.z h_query
        refine st_seq (st_if P (et_cmp (ev_lt (ev_fld (fo_Query_most T) T.cl_Query T.n_Query_most (ev_var (τ := (y_Query T)) rfl h_query)) ev_int)) (fun b_267 Z1 H1 e P1 => ?_) (fun b_267 Z1 H1 e P1 => ?_))
        · replace P := P1
          have hB := ifT b_267 hF
          replace hF := hB
          clear hB
          replace hF := Option.some.inj hF
          subst hF
          exact qx _ rfl _ _ P.st
        · replace P := P1
          have hB := ifF b_267 hF
          replace hF := hB
          clear hB
          refine st_next0 ?_
          replace h_query := ((y_Query T)).mono e.z h_query
          obtain ⟨g_276, hF⟩ := guard_inv hF
          refine st_if P (et_cmp (ev_lt (ev_lenSetT (ev_li (ev_fz (en_map (υ := yStr) (fun (x_268 : (Str × Int)) => x_268.1) (ei_tup (ev_fld (fo_Query_words T) T.cl_Query T.n_Query_words (ev_var (τ := (y_Query T)) rfl h_query))) (fun x_268 v_269 Z' H' zz hh rx_270 => by
                obtain ⟨v_271, v_272, k_273, k_274, tg_275⟩ := tgt_p2 rx_270
                exact ⟨_, (tg_275 tgt_name tgt_name), (wpe_s (wpe_s wpe_z (by decide)) (by decide)), (ev_var (τ := yStr) rfl k_273)⟩)))) g_276) (ev_lenT (fun _ _ _ h => h) (ev_fld (fo_Query_words T) T.cl_Query T.n_Query_words (ev_var (τ := (y_Query T)) rfl h_query))))) (fun b_277 Z1 H1 e P1 => ?_) (fun b_277 Z1 H1 e P1 => ?_)
          · replace P := P1
            have hB := ifT b_277 hF
            replace hF := hB
            clear hB
            replace hF := Option.some.inj hF
            subst hF
            exact qx _ rfl _ _ P.st
          · replace P := P1
            have hB := ifF b_277 hF
            replace hF := hB
            clear hB
            refine st_next ?_
            replace hF := Option.some.inj hF
            subst hF
            exact q _ rfl .non _ _ P.st rfl
theorem cs_check_query (T : Txt w K mg) {μ : Type} {M : Mu μ} {s : μ} {E : XK} {x_schema : Schema} {x_query : Query} {y : Unit} (h : F_check_query x_schema x_query = some (.ok y)) : CallS M (sp_check_query T) E (rac (ty (y_Schema T) x_schema) (rac (ty (y_Query T) x_query) ra0)) s (ty yNon y) s := by
  rintro Z H vs sz m ⟨v_schema, _, rfl, h_schema, ⟨v_query, _, rfl, h_query, rfl⟩⟩ Q q
  exact ⟨Z, v_schema, v_query, x_schema, x_query, _, rfl, sz, h_schema, h_query, h, fun a e v Z2 H2 st hv => by cases e; exact q v Z2 H2 st.pure (M.pure st m) hv, fun _ z => nomatch z⟩
theorem cx_check_query (T : Txt w K mg) {μ : Type} {M : Mu μ} {s : μ} {E : XK} {x_schema : Schema} {x_query : Query} {e : Exc} (h : F_check_query x_schema x_query = some (.er e)) : CallE M (sp_check_query T) E (rac (ty (y_Schema T) x_schema) (rac (ty (y_Query T) x_query) ra0)) s (exv T e) s := by
  rintro Z H vs sz m ⟨v_schema, _, rfl, h_schema, ⟨v_query, _, rfl, h_query, rfl⟩⟩ Q q
  exact ⟨Z, v_schema, v_query, x_schema, x_query, _, rfl, sz, h_schema, h_query, h, (fun _ z => nomatch z), fun c e Z2 H2 st => by cases e; exact q Z2 H2 st.pure (M.pure st m)⟩
def sp_FilterReader_is_at (T : Txt w K mg) : Sp := fun vs H Q _ => ∃ (p_self : Addr) (Z0 : Hp) (ds : FilterReader) (v_kind : V) (x_kind : Str) (y : Bool), vs = [.ref p_self, v_kind] ∧ (Same Z0 H) ∧ ((mu_FilterReader T p_self).m ds Z0 H) ∧ ((yStr).r Z0 v_kind x_kind) ∧ (F_FilterReader_is_at ds x_kind = some y) ∧ ∀ v Z' H', Step (mu_FilterReader T p_self).fp Z0 H Z' H' → (mu_FilterReader T p_self).m ds Z' H' → (yBool).r Z' v y → Q v H'
set_option maxHeartbeats 4000000 in
theorem ok_FilterReader_is_at (T : Txt w K mg) : FnOk P w K mg base CX0 1 T.f_FilterReader_is_at T.d_FilterReader_is_at ["self", "kind"] (sp_FilterReader_is_at T) := by
  refine T.F_FilterReader_is_at.ok sc_FilterReader_is_at (fun vs H Q E h => ?_) (fun cdv A outer s H vs Q E hr h => ?_)
  · obtain ⟨p_self, Z0, ds, v_kind, x_kind, y, rfl, _⟩ := h
    rfl
  · obtain ⟨p_self, Z0, ds, v_kind, x_kind, y, rfl, sz, hm, h_kind, hF, q⟩ := h
    refine ⟨_, (pss_one (ps_ret (pe_and (pe_cmpR op_lt (pe_fld (pv 0) rfl) (pe_callB call_len_seq (by rfl) T.m_len PySem.boot_len (pa_cons (pe_fld (pv 0) rfl) pa_nil)) (nomark _)) (pe_one (pe_cmpR op_eq (pe_fld (pe_ix ix_list (pe_fld (pv 0) rfl) (pe_fld (pv 0) rfl) (fun _ _ => rfl)) rfl) (pv 1) (nomark _)))))), ?_⟩
    have P := Pt.start (mu_FilterReader T p_self) sz hm
    unfold F_FilterReader_is_at at hF
    obtain ⟨b_285, h_284, hF⟩ := bind_inv hF
    replace hF := Option.some.inj hF
    subst hF
    refine st_ret P (ev_andO (ev_lt (ev_mfld (fun _ _ m => m) (mf_FilterReader_at T) T.cl_FilterReader T.n_FilterReader_at rfl) (ev_len (fun _ _ _ h => h) (ev_li (ev_mfld (fun _ _ m => m) (mf_FilterReader_tokens T) T.cl_FilterReader T.n_FilterReader_tokens rfl)))) (fun _ y hy => by
          obtain ⟨i_282, h_283, hy⟩ := bind_inv hy
          have hy := Option.some.inj hy
          subst hy
          exact (ev_eq flat_str (ev_fld (fo_Token_kind T) T.cl_Token T.n_Token_kind (ev_ixL (ev_li (ev_mfld (fun _ _ m => m) (mf_FilterReader_tokens T) T.cl_FilterReader T.n_FilterReader_tokens rfl)) (ev_mfld (fun _ _ m => m) (mf_FilterReader_at T) T.cl_FilterReader T.n_FilterReader_at rfl) h_283)) (ev_var (τ := yStr) rfl h_kind))) h_284) (fun v Z1 H1 P1 hv => ?_)
    exact q v _ _ P1.st P1.m hv
theorem cs_FilterReader_is_at (T : Txt w K mg) {p_self : Addr} {ds : FilterReader} {E : XK} {x_kind : Str} {y : Bool} (h : F_FilterReader_is_at ds x_kind = some y) : CallS (mu_FilterReader T p_self) (sp_FilterReader_is_at T) E (rac (isRef p_self) (rac (ty yStr x_kind) ra0)) ds (ty yBool y) ds := by
  rintro Z H vs sz m ⟨_, _, rfl, rfl, ⟨v_kind, _, rfl, h_kind, rfl⟩⟩ Q q
  exact ⟨p_self, Z, ds, v_kind, x_kind, y, rfl, sz, m, h_kind, h, fun v Z2 H2 s2 m2 hv => q v Z2 H2 s2 m2 hv⟩
theorem cu_FilterReader_is_at (T : Txt w K mg) {p_self : Addr} {ds : FilterReader} {E : XK} {x_kind : Str} {y : Bool} {μ : Type} {M : Mu μ} {s s2 : μ} (hm : ∀ Z H, M.m s Z H → (mu_FilterReader T p_self).m ds Z H) (hf : ∀ a ∈ (mu_FilterReader T p_self).fp, a ∈ M.fp) (hp : ∀ Z H Z' H', M.m s Z H → Step (mu_FilterReader T p_self).fp Z H Z' H' → (mu_FilterReader T p_self).m ds Z' H' → M.m s2 Z' H') (h : F_FilterReader_is_at ds x_kind = some y) : CallS M (sp_FilterReader_is_at T) E (rac (isRef p_self) (rac (ty yStr x_kind) ra0)) s (ty yBool y) s2 := by
  rintro Z H vs sz m ⟨_, _, rfl, rfl, ⟨v_kind, _, rfl, h_kind, rfl⟩⟩ Q q
  exact ⟨p_self, Z, ds, v_kind, x_kind, y, rfl, sz, hm _ _ m, h_kind, h, fun v Z2 H2 st2 m2 hv => q v Z2 H2 (st2.weak fun a h => .inl (hf a h)) (hp _ _ _ _ m st2 m2) hv⟩
def sp_FilterReader_sees (T : Txt w K mg) : Sp := fun vs H Q _ => ∃ (p_self : Addr) (Z0 : Hp) (ds : FilterReader) (v_kind : V) (v_value : V) (x_kind : Str) (x_value : Str) (y : Bool), vs = [.ref p_self, v_kind, v_value] ∧ (Same Z0 H) ∧ ((mu_FilterReader T p_self).m ds Z0 H) ∧ ((yStr).r Z0 v_kind x_kind) ∧ ((yStr).r Z0 v_value x_value) ∧ (F_FilterReader_sees ds x_kind x_value = some y) ∧ ∀ v Z' H', Step (mu_FilterReader T p_self).fp Z0 H Z' H' → (mu_FilterReader T p_self).m ds Z' H' → (yBool).r Z' v y → Q v H'
set_option maxHeartbeats 4000000 in
theorem ok_FilterReader_sees (T : Txt w K mg) : FnOk P w K mg base CX0 2 T.f_FilterReader_sees T.d_FilterReader_sees ["self", "kind", "value"] (sp_FilterReader_sees T) := by
  have G_FilterReader_is_at : FnOk P w K mg base CX0 1 T.f_FilterReader_is_at T.d_FilterReader_is_at ["self", "kind"] (sp_FilterReader_is_at T) := ok_FilterReader_is_at T
  refine T.F_FilterReader_sees.ok sc_FilterReader_sees (fun vs H Q E h => ?_) (fun cdv A outer s H vs Q E hr h => ?_)
  · obtain ⟨p_self, Z0, ds, v_kind, v_value, x_kind, x_value, y, rfl, _⟩ := h
    rfl
  · obtain ⟨p_self, Z0, ds, v_kind, v_value, x_kind, x_value, y, rfl, sz, hm, h_kind, h_value, hF, q⟩ := h
    refine ⟨_, (pss_one (ps_ret (pe_and (pe_meth (pv 0) T.cl_FilterReader T.me_FilterReader_is_at G_FilterReader_is_at (hr.mono (by decide)) T.b_FilterReader_is_at .nil pass0 (pa_cons (pv 1) pa_nil)) (pe_one (pe_cmpR (op_eqD hr.units) (pe_fld (pe_ix ix_list (pe_fld (pv 0) rfl) (pe_fld (pv 0) rfl) (fun _ _ => rfl)) rfl) (pv 2) (nomark _)))))), ?_⟩
    have P := Pt.start (mu_FilterReader T p_self) sz hm
    unfold F_FilterReader_sees at hF
    obtain ⟨r_292, h_293, hF⟩ := bind_inv hF
    obtain ⟨b_297, h_296, hF⟩ := bind_inv hF
    replace hF := Option.some.inj hF
    subst hF
    refine st_ret P (ev_andO (ev_mmeth (fun _ _ m => m) (mo_FilterReader T (by decide +kernel)) (cs_FilterReader_is_at T h_293) (ev_ref rfl) (eva_cons (ev_var (τ := yStr) rfl h_kind) eva_nil)) (fun _ y hy => by
          obtain ⟨i_294, h_295, hy⟩ := bind_inv hy
          have hy := Option.some.inj hy
          subst hy
          exact (ev_eqW (EqW.gd (eqw_TV T) _) (EqW.gd eqd_str.w _) (EqW.dpt (K := K) (τ := (y_TV T)) (eqw_TV T) (by decide) _) (EqW.dpt (K := K) (τ := yStr) eqd_str.w (by decide) _) (ev_fld (fo_Token_value T) T.cl_Token T.n_Token_value (ev_ixL (ev_li (ev_mfld (fun _ _ m => m) (mf_FilterReader_tokens T) T.cl_FilterReader T.n_FilterReader_tokens rfl)) (ev_mfld (fun _ _ m => m) (mf_FilterReader_at T) T.cl_FilterReader T.n_FilterReader_at rfl) h_295)) (ev_var (τ := yStr) rfl h_value))) h_296) (fun v Z1 H1 P1 hv => ?_)
    exact q v _ _ P1.st P1.m hv
theorem cs_FilterReader_sees (T : Txt w K mg) {p_self : Addr} {ds : FilterReader} {E : XK} {x_kind : Str} {x_value : Str} {y : Bool} (h : F_FilterReader_sees ds x_kind x_value = some y) : CallS (mu_FilterReader T p_self) (sp_FilterReader_sees T) E (rac (isRef p_self) (rac (ty yStr x_kind) (rac (ty yStr x_value) ra0))) ds (ty yBool y) ds := by
  rintro Z H vs sz m ⟨_, _, rfl, rfl, ⟨v_kind, _, rfl, h_kind, ⟨v_value, _, rfl, h_value, rfl⟩⟩⟩ Q q
  exact ⟨p_self, Z, ds, v_kind, v_value, x_kind, x_value, y, rfl, sz, m, h_kind, h_value, h, fun v Z2 H2 s2 m2 hv => q v Z2 H2 s2 m2 hv⟩
theorem cu_FilterReader_sees (T : Txt w K mg) {p_self : Addr} {ds : FilterReader} {E : XK} {x_kind : Str} {x_value : Str} {y : Bool} {μ : Type} {M : Mu μ} {s s2 : μ} (hm : ∀ Z H, M.m s Z H → (mu_FilterReader T p_self).m ds Z H) (hf : ∀ a ∈ (mu_FilterReader T p_self).fp, a ∈ M.fp) (hp : ∀ Z H Z' H', M.m s Z H → Step (mu_FilterReader T p_self).fp Z H Z' H' → (mu_FilterReader T p_self).m ds Z' H' → M.m s2 Z' H') (h : F_FilterReader_sees ds x_kind x_value = some y) : CallS M (sp_FilterReader_sees T) E (rac (isRef p_self) (rac (ty yStr x_kind) (rac (ty yStr x_value) ra0))) s (ty yBool y) s2 := by
  rintro Z H vs sz m ⟨_, _, rfl, rfl, ⟨v_kind, _, rfl, h_kind, ⟨v_value, _, rfl, h_value, rfl⟩⟩⟩ Q q
  exact ⟨p_self, Z, ds, v_kind, v_value, x_kind, x_value, y, rfl, sz, hm _ _ m, h_kind, h_value, h, fun v Z2 H2 st2 m2 hv => q v Z2 H2 (st2.weak fun a h => .inl (hf a h)) (hp _ _ _ _ m st2 m2) hv⟩
def sp_FilterReader_skips (T : Txt w K mg) : Sp := fun vs H Q _ => ∃ (p_self : Addr) (Z0 : Hp) (ds : FilterReader) (v_kind : V) (v_value : V) (x_kind : Str) (x_value : Str) (y : (Bool × FilterReader)), vs = [.ref p_self, v_kind, v_value] ∧ (Same Z0 H) ∧ ((mu_FilterReader T p_self).m ds Z0 H) ∧ ((yStr).r Z0 v_kind x_kind) ∧ ((yStr).r Z0 v_value x_value) ∧ (F_FilterReader_skips ds x_kind x_value = some y) ∧ ∀ v Z' H', Step (mu_FilterReader T p_self).fp Z0 H Z' H' → (mu_FilterReader T p_self).m y.2 Z' H' → (yBool).r Z' v y.1 → Q v H'
set_option maxHeartbeats 4000000 in
theorem ok_FilterReader_skips (T : Txt w K mg) : FnOk P w K mg base CX0 3 T.f_FilterReader_skips T.d_FilterReader_skips ["self", "kind", "value"] (sp_FilterReader_skips T) := by
  have G_FilterReader_sees : FnOk P w K mg base CX0 2 T.f_FilterReader_sees T.d_FilterReader_sees ["self", "kind", "value"] (sp_FilterReader_sees T) := ok_FilterReader_sees T
  refine T.F_FilterReader_skips.ok sc_FilterReader_skips (fun vs H Q E h => ?_) (fun cdv A outer s H vs Q E hr h => ?_)
  · obtain ⟨p_self, Z0, ds, v_kind, v_value, x_kind, x_value, y, rfl, _⟩ := h
    rfl
  · obtain ⟨p_self, Z0, ds, v_kind, v_value, x_kind, x_value, y, rfl, sz, hm, h_kind, h_value, hF, q⟩ := h
    refine ⟨_, (pss_cons (ps_if (pt_not (pt_val (pe_meth (pv 0) T.cl_FilterReader T.me_FilterReader_sees G_FilterReader_sees (hr.mono (by decide)) T.b_FilterReader_sees .nil pass0 (pa_cons (pv 1) (pa_cons (pv 2) pa_nil))))) (pss_one (ps_ret pe_bl)) pss_nil) 
      (pss_cons (ps_fldaug (pv 0) pe_int in_add) 
      (pss_one (ps_ret pe_bl)))), ?_⟩
    have P := Pt.start (mu_FilterReader T p_self) sz hm
    unfold F_FilterReader_skips at hF
    obtain ⟨r_301, h_302, hF⟩ := bind_inv hF
    refine st_seq (st_if P (et_not (et_val (ev_mmeth (fun _ _ m => m) (mo_FilterReader T (by decide +kernel)) (cs_FilterReader_sees T h_302) (ev_ref rfl) (eva_cons (ev_var (τ := yStr) rfl h_kind) (eva_cons (ev_var (τ := yStr) rfl h_value) eva_nil))))) (fun b_303 Z1 H1 e P1 => ?_) (fun b_303 Z1 H1 e P1 => ?_))
    · replace P := P1
      have hB := ifT b_303 hF
      replace hF := hB
      clear hB
      replace hF := Option.some.inj hF
      subst hF
      refine st_ret P ev_bl (fun v Z1 H1 P1 hv => ?_)
      exact q v _ _ P1.st P1.m hv
    · replace P := P1
      have hB := ifF b_303 hF
      replace hF := hB
      clear hB
      refine st_next0 ?_
      refine st_seq (st_maug (s2 := { ds with «at» := ds.«at» + (1 : Int) }) (c := ds) P (fun _ _ m => m) (fun _ h => h) (fun _ _ _ _ _ _ n => n) (ms_FilterReader_at T) (mf_FilterReader_at T) T.cl_FilterReader T.n_FilterReader_at rfl ev_int (fun Z1 H1 e P1 => ?_))
      refine st_nx ?_
      replace P := P1
      replace hF := Option.some.inj hF
      subst hF
      refine st_ret P ev_bl (fun v Z1 H1 P1 hv => ?_)
      exact q v _ _ P1.st P1.m hv
theorem cs_FilterReader_skips (T : Txt w K mg) {p_self : Addr} {ds : FilterReader} {E : XK} {x_kind : Str} {x_value : Str} {y : Bool × FilterReader} (h : F_FilterReader_skips ds x_kind x_value = some y) : CallS (mu_FilterReader T p_self) (sp_FilterReader_skips T) E (rac (isRef p_self) (rac (ty yStr x_kind) (rac (ty yStr x_value) ra0))) ds (ty yBool y.1) y.2 := by
  rintro Z H vs sz m ⟨_, _, rfl, rfl, ⟨v_kind, _, rfl, h_kind, ⟨v_value, _, rfl, h_value, rfl⟩⟩⟩ Q q
  exact ⟨p_self, Z, ds, v_kind, v_value, x_kind, x_value, y, rfl, sz, m, h_kind, h_value, h, fun v Z2 H2 s2 m2 hv => q v Z2 H2 s2 m2 hv⟩
theorem cu_FilterReader_skips (T : Txt w K mg) {p_self : Addr} {ds : FilterReader} {E : XK} {x_kind : Str} {x_value : Str} {y : Bool × FilterReader} {μ : Type} {M : Mu μ} {s s2 : μ} (hm : ∀ Z H, M.m s Z H → (mu_FilterReader T p_self).m ds Z H) (hf : ∀ a ∈ (mu_FilterReader T p_self).fp, a ∈ M.fp) (hp : ∀ Z H Z' H', M.m s Z H → Step (mu_FilterReader T p_self).fp Z H Z' H' → (mu_FilterReader T p_self).m y.2 Z' H' → M.m s2 Z' H') (h : F_FilterReader_skips ds x_kind x_value = some y) : CallS M (sp_FilterReader_skips T) E (rac (isRef p_self) (rac (ty yStr x_kind) (rac (ty yStr x_value) ra0))) s (ty yBool y.1) s2 := by
  rintro Z H vs sz m ⟨_, _, rfl, rfl, ⟨v_kind, _, rfl, h_kind, ⟨v_value, _, rfl, h_value, rfl⟩⟩⟩ Q q
  exact ⟨p_self, Z, ds, v_kind, v_value, x_kind, x_value, y, rfl, sz, hm _ _ m, h_kind, h_value, h, fun v Z2 H2 st2 m2 hv => q v Z2 H2 (st2.weak fun a h => .inl (hf a h)) (hp _ _ _ _ m st2 m2) hv⟩
def sp_differing (T : Txt w K mg) : Sp := fun vs H Q _ => ∃ (Z0 : Hp) (v_a : V) (v_b : V) (x_a : (List Int)) (x_b : (List Int)), vs = [v_a, v_b] ∧ (Same Z0 H) ∧ (((yTup K yInt)).r Z0 v_a x_a) ∧ (((yTup K yInt)).r Z0 v_b x_b) ∧ ∀ v Z' H', Step [] Z0 H Z' H' → (yInt).r Z' v (F_differing x_a x_b) → Q v H'
set_option maxHeartbeats 4000000 in
theorem ok_differing (T : Txt w K mg) : FnOk P w K mg base CX0 1 T.f_differing T.d_differing ["a", "b"] (sp_differing T) := by
  refine T.F_differing.ok sc_differing (fun vs H Q E h => ?_) (fun cdv A outer s H vs Q E hr h => ?_)
  · obtain ⟨Z0, v_a, v_b, x_a, x_b, rfl, _⟩ := h
    rfl
  · obtain ⟨Z0, v_a, v_b, x_a, x_b, rfl, sz, h_a, h_b, q⟩ := h
    refine ⟨_, (pss_one (ps_ret (pe_callB call_len_seq (by rfl) T.m_len PySem.boot_len (pa_cons (pe_lc (own := [("x", 2), ("y", 3)]) (g := gTup K 2 (gCons (gName 2) (gCons (gName 3) gNil))) rfl sc_differing.nd (ZN.pi_zip2 (by rfl) T.m_zip (pa_cons (pv 0) (pa_cons (pv 1) pa_nil))) (blkOk_by (own := [("x", 2), ("y", 3)]) (N := ["a", "b", "x", "y"]) (sc := defScope s_differing) (by decide +kernel)) (fun _ _ _ _ _ => (by exact (pg_tup rfl (pgs_cons (pg_name (i := 2) sc_differing.nd rfl (Or.inl rfl)) (pgs_cons (pg_name (i := 3) sc_differing.nd rfl (Or.inl rfl)) pgs_nil))))) (fun _ _ _ _ _ => (by exact pts_one (pt_cmpR op_ne (pv 2) (pv 3) (nomark _)))) (fun _ _ _ _ _ => pe_bl)) pa_nil)))), ?_⟩
    have P := Pt.start0 sz
    generalize hF : F_differing x_a x_b = y at q
    unfold F_differing at hF
    subst hF
    refine st_ret P (ev_len (fun _ _ _ h => h) (ev_li (ev_fz (en_fil (υ := yBool) (fun (x_312 : (Int × Int)) => (!decide (x_312.1 = x_312.2))) (fun (x_312 : (Int × Int)) => true) (ei_zip2 src_tup src_tup (eva_cons (ev_var (τ := (yTup K yInt)) rfl h_a) (eva_cons (ev_var (τ := (yTup K yInt)) rfl h_b) eva_nil))) (fun x_312 v_313 Z' H' zz hh rx_314 => by
          obtain ⟨v_315, v_316, k_317, k_318, tg_319⟩ := tgt_p2 rx_314
          exact ⟨_, (tg_319 tgt_name tgt_name), (wpe_s (wpe_s wpe_z (by decide)) (by decide)), (et_cmp (ev_ne flat_int (ev_var (τ := yInt) rfl k_317) (ev_var (τ := yInt) rfl k_318))), ev_bl⟩))))) (fun v Z1 H1 P1 hv => ?_)
    exact q v _ _ P1.st hv
theorem cs_differing (T : Txt w K mg) {μ : Type} {M : Mu μ} {s : μ} {E : XK} {x_a : (List Int)} {x_b : (List Int)} : CallS M (sp_differing T) E (rac (ty (yTup K yInt) x_a) (rac (ty (yTup K yInt) x_b) ra0)) s (ty yInt (F_differing x_a x_b)) s := by
  rintro Z H vs sz m ⟨v_a, _, rfl, h_a, ⟨v_b, _, rfl, h_b, rfl⟩⟩ Q q
  exact ⟨Z, v_a, v_b, x_a, x_b, rfl, sz, h_a, h_b, fun v Z2 H2 st hv => q v Z2 H2 st.pure (M.pure st m) hv⟩
def sp_distance (T : Txt w K mg) : Sp := fun vs H Q _ => ∃ (Z0 : Hp) (v_a : V) (v_b : V) (x_a : (List Int)) (x_b : (List Int)) (y : Int), vs = [v_a, v_b] ∧ (Same Z0 H) ∧ (((yTup K yInt)).r Z0 v_a x_a) ∧ (((yTup K yInt)).r Z0 v_b x_b) ∧ (F_distance x_a x_b = some y) ∧ ∀ v Z' H', Step [] Z0 H Z' H' → (yInt).r Z' v y → Q v H'
set_option maxHeartbeats 4000000 in
theorem ok_distance (T : Txt w K mg) : FnOk P w K mg base CX0 1 T.f_distance T.d_distance ["a", "b"] (sp_distance T) := by
  refine T.F_distance.ok sc_distance (fun vs H Q E h => ?_) (fun cdv A outer s H vs Q E hr h => ?_)
  · obtain ⟨Z0, v_a, v_b, x_a, x_b, y, rfl, _⟩ := h
    rfl
  · obtain ⟨Z0, v_a, v_b, x_a, x_b, y, rfl, sz, h_a, h_b, hF, q⟩ := h
    refine ⟨_, (pss_one (ps_ret (pe_callB (cr_sum rfl) (by rfl) T.m_sum (by decide +kernel) (pa_cons (pe_lc (own := [("x", 2), ("y", 3)]) (g := gTup K 2 (gCons (gName 2) (gCons (gName 3) gNil))) rfl sc_distance.nd (ZN.pi_zip2 (by rfl) T.m_zip (pa_cons (pv 0) (pa_cons (pv 1) pa_nil))) (blkOk_by (own := [("x", 2), ("y", 3)]) (N := ["a", "b", "x", "y"]) (sc := defScope s_distance) (by decide +kernel)) (fun _ _ _ _ _ => (by exact (pg_tup rfl (pgs_cons (pg_name (i := 2) sc_distance.nd rfl (Or.inl rfl)) (pgs_cons (pg_name (i := 3) sc_distance.nd rfl (Or.inl rfl)) pgs_nil))))) (fun _ _ _ _ _ => pts_nil) (fun _ _ _ _ _ => (pe_op op_mul (pe_op op_sub (pv 2) (pv 3)) (pe_op op_sub (pv 2) (pv 3))))) pa_nil)))), ?_⟩
    have P := Pt.start0 sz
    unfold F_distance at hF
    obtain ⟨l_340, h_341, hF⟩ := bind_inv hF
    replace hF := Option.some.inj hF
    subst hF
    refine st_ret P (ev_sum (ev_li (ev_fz (en_mapO (υ := yInt) (fun (x_331 : (Int × Int)) => (if CMul (x_331.1 - x_331.2) (x_331.1 - x_331.2) then
    some ((x_331.1 - x_331.2) * (x_331.1 - x_331.2)) else none : Option Int)) (ei_zip2 src_tup src_tup (eva_cons (ev_var (τ := (yTup K yInt)) rfl h_a) (eva_cons (ev_var (τ := (yTup K yInt)) rfl h_b) eva_nil))) (fun x_331 v_332 Z' H' p zz hh rx_333 hp => by
          obtain ⟨v_334, v_335, k_336, k_337, tg_338⟩ := tgt_p2 rx_333
          have hy := hp
          obtain ⟨g_339, hy⟩ := guard_inv hy
          have hy := Option.some.inj hy
          subst hy
          exact ⟨_, (tg_338 tgt_name tgt_name), (wpe_s (wpe_s wpe_z (by decide)) (by decide)), (ev_mul (ev_sub (ev_var (τ := yInt) rfl k_336) (ev_var (τ := yInt) rfl k_337)) (ev_sub (ev_var (τ := yInt) rfl k_336) (ev_var (τ := yInt) rfl k_337)) g_339)⟩) h_341)))) (fun v Z1 H1 P1 hv => ?_)
    exact q v _ _ P1.st hv
theorem cs_distance (T : Txt w K mg) {μ : Type} {M : Mu μ} {s : μ} {E : XK} {x_a : (List Int)} {x_b : (List Int)} {y : Int} (h : F_distance x_a x_b = some y) : CallS M (sp_distance T) E (rac (ty (yTup K yInt) x_a) (rac (ty (yTup K yInt) x_b) ra0)) s (ty yInt y) s := by
  rintro Z H vs sz m ⟨v_a, _, rfl, h_a, ⟨v_b, _, rfl, h_b, rfl⟩⟩ Q q
  exact ⟨Z, v_a, v_b, x_a, x_b, y, rfl, sz, h_a, h_b, h, fun v Z2 H2 st hv => q v Z2 H2 st.pure (M.pure st m) hv⟩
def sp_inner (T : Txt w K mg) : Sp := fun vs H Q _ => ∃ (Z0 : Hp) (v_a : V) (v_b : V) (x_a : (List Int)) (x_b : (List Int)) (y : Int), vs = [v_a, v_b] ∧ (Same Z0 H) ∧ (((yTup K yInt)).r Z0 v_a x_a) ∧ (((yTup K yInt)).r Z0 v_b x_b) ∧ (F_inner x_a x_b = some y) ∧ ∀ v Z' H', Step [] Z0 H Z' H' → (yInt).r Z' v y → Q v H'
set_option maxHeartbeats 4000000 in
theorem ok_inner (T : Txt w K mg) : FnOk P w K mg base CX0 1 T.f_inner T.d_inner ["a", "b"] (sp_inner T) := by
  refine T.F_inner.ok sc_inner (fun vs H Q E h => ?_) (fun cdv A outer s H vs Q E hr h => ?_)
  · obtain ⟨Z0, v_a, v_b, x_a, x_b, y, rfl, _⟩ := h
    rfl
  · obtain ⟨Z0, v_a, v_b, x_a, x_b, y, rfl, sz, h_a, h_b, hF, q⟩ := h
    refine ⟨_, (pss_one (ps_ret (pe_callB (cr_sum rfl) (by rfl) T.m_sum (by decide +kernel) (pa_cons (pe_lc (own := [("x", 2), ("y", 3)]) (g := gTup K 2 (gCons (gName 2) (gCons (gName 3) gNil))) rfl sc_inner.nd (ZN.pi_zip2 (by rfl) T.m_zip (pa_cons (pv 0) (pa_cons (pv 1) pa_nil))) (blkOk_by (own := [("x", 2), ("y", 3)]) (N := ["a", "b", "x", "y"]) (sc := defScope s_inner) (by decide +kernel)) (fun _ _ _ _ _ => (by exact (pg_tup rfl (pgs_cons (pg_name (i := 2) sc_inner.nd rfl (Or.inl rfl)) (pgs_cons (pg_name (i := 3) sc_inner.nd rfl (Or.inl rfl)) pgs_nil))))) (fun _ _ _ _ _ => pts_nil) (fun _ _ _ _ _ => (pe_op op_mul (pv 2) (pv 3)))) pa_nil)))), ?_⟩
    have P := Pt.start0 sz
    unfold F_inner at hF
    obtain ⟨l_362, h_363, hF⟩ := bind_inv hF
    replace hF := Option.some.inj hF
    subst hF
    refine st_ret P (ev_sum (ev_li (ev_fz (en_mapO (υ := yInt) (fun (x_353 : (Int × Int)) => (if CMul x_353.1 x_353.2 then
    some (x_353.1 * x_353.2) else none : Option Int)) (ei_zip2 src_tup src_tup (eva_cons (ev_var (τ := (yTup K yInt)) rfl h_a) (eva_cons (ev_var (τ := (yTup K yInt)) rfl h_b) eva_nil))) (fun x_353 v_354 Z' H' p zz hh rx_355 hp => by
          obtain ⟨v_356, v_357, k_358, k_359, tg_360⟩ := tgt_p2 rx_355
          have hy := hp
          obtain ⟨g_361, hy⟩ := guard_inv hy
          have hy := Option.some.inj hy
          subst hy
          exact ⟨_, (tg_360 tgt_name tgt_name), (wpe_s (wpe_s wpe_z (by decide)) (by decide)), (ev_mul (ev_var (τ := yInt) rfl k_358) (ev_var (τ := yInt) rfl k_359) g_361)⟩) h_363)))) (fun v Z1 H1 P1 hv => ?_)
    exact q v _ _ P1.st hv
theorem cs_inner (T : Txt w K mg) {μ : Type} {M : Mu μ} {s : μ} {E : XK} {x_a : (List Int)} {x_b : (List Int)} {y : Int} (h : F_inner x_a x_b = some y) : CallS M (sp_inner T) E (rac (ty (yTup K yInt) x_a) (rac (ty (yTup K yInt) x_b) ra0)) s (ty yInt y) s := by
  rintro Z H vs sz m ⟨v_a, _, rfl, h_a, ⟨v_b, _, rfl, h_b, rfl⟩⟩ Q q
  exact ⟨Z, v_a, v_b, x_a, x_b, y, rfl, sz, h_a, h_b, h, fun v Z2 H2 st hv => q v Z2 H2 st.pure (M.pure st m) hv⟩
def sp_Schema_far (T : Txt w K mg) : Sp := fun vs H Q _ => ∃ (Z0 : Hp) (v_self : V) (v_a : V) (v_b : V) (x_self : Schema) (x_a : (List Int)) (x_b : (List Int)) (y : Int), vs = [v_self, v_a, v_b] ∧ (Same Z0 H) ∧ (((y_Schema T)).r Z0 v_self x_self) ∧ (((yTup K yInt)).r Z0 v_a x_a) ∧ (((yTup K yInt)).r Z0 v_b x_b) ∧ (F_Schema_far x_self x_a x_b = some y) ∧ ∀ v Z' H', Step [] Z0 H Z' H' → (yInt).r Z' v y → Q v H'
set_option maxHeartbeats 4000000 in
theorem ok_Schema_far (T : Txt w K mg) : FnOk P w K mg base CX0 2 T.f_Schema_far T.d_Schema_far ["self", "a", "b"] (sp_Schema_far T) := by
  have G_differing : FnOk P w K mg base CX0 1 T.f_differing T.d_differing ["a", "b"] (sp_differing T) := ok_differing T
  have G_inner : FnOk P w K mg base CX0 1 T.f_inner T.d_inner ["a", "b"] (sp_inner T) := ok_inner T
  have G_distance : FnOk P w K mg base CX0 1 T.f_distance T.d_distance ["a", "b"] (sp_distance T) := ok_distance T
  refine T.F_Schema_far.ok sc_Schema_far (fun vs H Q E h => ?_) (fun cdv A outer s H vs Q E hr h => ?_)
  · obtain ⟨Z0, v_self, v_a, v_b, x_self, x_a, x_b, y, rfl, _⟩ := h
    rfl
  · obtain ⟨Z0, v_self, v_a, v_b, x_self, x_a, x_b, y, rfl, sz, h_self, h_a, h_b, hF, q⟩ := h
    refine ⟨_, (pss_cons (ps_if (pt_cmpR op_eq (pe_fld (pv 0) rfl) pe_str (nomark _)) (pss_one (ps_ret (pe_call G_distance (hr.mono (by decide)) (by rfl) T.g_distance T.F_distance.kp T.b_distance .nil pass0 (pa_cons (pv 1) (pa_cons (pv 2) pa_nil))))) pss_nil) 
      (pss_cons (ps_if (pt_cmpR op_eq (pe_fld (pv 0) rfl) pe_str (nomark _)) (pss_one (ps_ret (pe_un un_neg (pe_call G_inner (hr.mono (by decide)) (by rfl) T.g_inner T.F_inner.kp T.b_inner .nil pass0 (pa_cons (pv 1) (pa_cons (pv 2) pa_nil)))))) pss_nil) 
      (pss_one (ps_ret (pe_call G_differing (hr.mono (by decide)) (by rfl) T.g_differing T.F_differing.kp T.b_differing .nil pass0 (pa_cons (pv 1) (pa_cons (pv 2) pa_nil))))))), ?_⟩
    have P := Pt.start0 sz
    unfold F_Schema_far at hF
    refine st_seq (st_if P (et_cmp (ev_eq flat_str (ev_fld (fo_Schema_measure T) T.cl_Schema T.n_Schema_measure (ev_var (τ := (y_Schema T)) rfl h_self)) ev_str)) (fun b_367 Z1 H1 e P1 => ?_) (fun b_367 Z1 H1 e P1 => ?_))
    · replace P := P1
      have hB := ifT b_367 hF
      replace hF := hB
      clear hB
      replace h_a := ((yTup K yInt)).mono e.z h_a
      replace h_b := ((yTup K yInt)).mono e.z h_b
      obtain ⟨r_368, h_369, hF⟩ := bind_inv hF
      replace hF := Option.some.inj hF
      subst hF
      refine st_ret P (ev_call (cs_distance T h_369) (eva_cons (ev_var (τ := (yTup K yInt)) rfl h_a) (eva_cons (ev_var (τ := (yTup K yInt)) rfl h_b) eva_nil))) (fun v Z1 H1 P1 hv => ?_)
      exact q v _ _ P1.st hv
    · replace P := P1
      have hB := ifF b_367 hF
      replace hF := hB
      clear hB
      refine st_next0 ?_
      replace h_self := ((y_Schema T)).mono e.z h_self
      replace h_a := ((yTup K yInt)).mono e.z h_a
      replace h_b := ((yTup K yInt)).mono e.z h_b
      refine st_seq (st_if P (et_cmp (ev_eq flat_str (ev_fld (fo_Schema_measure T) T.cl_Schema T.n_Schema_measure (ev_var (τ := (y_Schema T)) rfl h_self)) ev_str)) (fun b_370 Z1 H1 e P1 => ?_) (fun b_370 Z1 H1 e P1 => ?_))
      · replace P := P1
        have hB := ifT b_370 hF
        replace hF := hB
        clear hB
        replace h_a := ((yTup K yInt)).mono e.z h_a
        replace h_b := ((yTup K yInt)).mono e.z h_b
        obtain ⟨r_371, h_372, hF⟩ := bind_inv hF
        replace hF := Option.some.inj hF
        subst hF
        refine st_ret P (ev_neg (ev_call (cs_inner T h_372) (eva_cons (ev_var (τ := (yTup K yInt)) rfl h_a) (eva_cons (ev_var (τ := (yTup K yInt)) rfl h_b) eva_nil)))) (fun v Z1 H1 P1 hv => ?_)
        exact q v _ _ P1.st hv
      · replace P := P1
        have hB := ifF b_370 hF
        replace hF := hB
        clear hB
        refine st_next0 ?_
        replace h_a := ((yTup K yInt)).mono e.z h_a
        replace h_b := ((yTup K yInt)).mono e.z h_b
        replace hF := Option.some.inj hF
        subst hF
        refine st_ret P (ev_call (cs_differing T) (eva_cons (ev_var (τ := (yTup K yInt)) rfl h_a) (eva_cons (ev_var (τ := (yTup K yInt)) rfl h_b) eva_nil))) (fun v Z1 H1 P1 hv => ?_)
        exact q v _ _ P1.st hv
theorem cs_Schema_far (T : Txt w K mg) {μ : Type} {M : Mu μ} {s : μ} {E : XK} {x_self : Schema} {x_a : (List Int)} {x_b : (List Int)} {y : Int} (h : F_Schema_far x_self x_a x_b = some y) : CallS M (sp_Schema_far T) E (rac (ty (y_Schema T) x_self) (rac (ty (yTup K yInt) x_a) (rac (ty (yTup K yInt) x_b) ra0))) s (ty yInt y) s := by
  rintro Z H vs sz m ⟨v_self, _, rfl, h_self, ⟨v_a, _, rfl, h_a, ⟨v_b, _, rfl, h_b, rfl⟩⟩⟩ Q q
  exact ⟨Z, v_self, v_a, v_b, x_self, x_a, x_b, y, rfl, sz, h_self, h_a, h_b, h, fun v Z2 H2 st hv => q v Z2 H2 st.pure (M.pure st m) hv⟩
def sp_Record_count_of (T : Txt w K mg) : Sp := fun vs H Q _ => ∃ (Z0 : Hp) (v_self : V) (v_word : V) (x_self : Record) (x_word : Str) (y : Int), vs = [v_self, v_word] ∧ (Same Z0 H) ∧ (((y_Record T)).r Z0 v_self x_self) ∧ ((yStr).r Z0 v_word x_word) ∧ (F_Record_count_of x_self x_word = some y) ∧ ∀ v Z' H', Step [] Z0 H Z' H' → (yInt).r Z' v y → Q v H'
set_option maxHeartbeats 4000000 in
theorem ok_Record_count_of (T : Txt w K mg) : FnOk P w K mg base CX0 1 T.f_Record_count_of T.d_Record_count_of ["self", "word"] (sp_Record_count_of T) := by
  refine T.F_Record_count_of.ok sc_Record_count_of (fun vs H Q E h => ?_) (fun cdv A outer s H vs Q E hr h => ?_)
  · obtain ⟨Z0, v_self, v_word, x_self, x_word, y, rfl, _⟩ := h
    rfl
  · obtain ⟨Z0, v_self, v_word, x_self, x_word, y, rfl, sz, h_self, h_word, hF, q⟩ := h
    refine ⟨_, (pss_cons (ps_for PassesOwn.never rfl (pi_tup (pe_fld (pv 0) rfl)) (pg_tup rfl (pgs_cons (pg_name (i := 2) sc_Record_count_of.nd rfl (.inl rfl)) (pgs_cons (pg_name (i := 3) sc_Record_count_of.nd rfl (.inl rfl)) pgs_nil))) (pss_one (ps_if (pt_cmpR op_eq (pv 2) (pv 1) (nomark _)) (pss_one (ps_ret (pv 3))) pss_nil))) 
      (pss_one (ps_ret pe_int))), ?_⟩
    have P := Pt.start0 sz
    unfold F_Record_count_of at hF
    obtain ⟨f_397, hL_398, hF⟩ := bind_inv hF
    refine st_seq (st_for (τ := (yP2 K yStr yInt)) (fun (r_375 : List (Str × Int)) σ' Z' H' => ∃ w_373, ∃ (y_380 : Option V) (y_381 : Option V) (y_382 : Option V), σ' = [y_380, some v_word, y_381, y_382] ∧ Pt [] Z0 H muN Z' H' () ∧ forS (L_Record_count_of_1 x_word) r_375 w_373 = some f_397) P (ei_tup (ev_fld (fo_Record_words T) T.cl_Record T.n_Record_words (ev_var (τ := (y_Record T)) rfl h_self))) ?_ ?_ ?_)
    · rintro Z1 H1 e P1
      replace P := P1
      replace h_self := ((y_Record T)).mono e.z h_self
      exact ⟨(), _, _, _, rfl, P, hL_398⟩
    · rintro Zb_379 Hb eb x_374 r_375 σ' v_388 Z1 H1 Z2 H2 zs_378 ⟨w_373, y_380, y_381, y_382, rfl, P, hq_377⟩ e hx_389
      replace P := P.item e
      replace zs_378 := zs_378.trans e.z
      obtain ⟨u_390, hB_376, hq_377⟩ := bind_inv (forS_cons hq_377)
      unfold L_Record_count_of_1 at hB_376
      obtain ⟨v_391, v_392, k_393, k_394, tg_395⟩ := tgt_p2 hx_389
      refine (tg_395 tgt_name tgt_name) _ P.sub _ ?_
      refine st_if P (et_cmp (ev_eq flat_str (ev_var (τ := yStr) rfl k_393) (ev_var (τ := yStr) rfl h_word))) (fun b_396 Z1 H1 e P1 => ?_) (fun b_396 Z1 H1 e P1 => ?_)
      · replace P := P1
        have hB := ifT b_396 hB_376
        replace hB_376 := hB
        clear hB
        replace zs_378 := zs_378.trans e.z
        replace hB_376 := Option.some.inj hB_376
        subst hB_376
        have hz := nxt_ret hq_377
        subst hz
        have hz := ret_inv hF
        replace hz := Option.some.inj hz
        subst hz
        refine st_ret P (ev_var (τ := yInt) rfl k_394) (fun v Z1 H1 P1 hv => ?_)
        exact q v _ _ P1.st hv
      · replace P := P1
        have hB := ifF b_396 hB_376
        replace hB_376 := hB
        clear hB
        refine st_next ?_
        replace zs_378 := zs_378.trans e.z
        replace hB_376 := Option.some.inj hB_376
        subst hB_376
        exact ⟨_, zs_378, P.sub, (), _, _, _, rfl, P, (nxt_go hq_377)⟩
    rintro σ' Z1 H1 _ _ ⟨w_383, y_380, y_381, y_382, rfl, P, hl⟩
    have hz := forS_nil hl
    subst hz
    replace hF := go_inv hF
    refine st_nx ?_
    replace hF := Option.some.inj hF
    subst hF
    refine st_ret P ev_int (fun v Z1 H1 P1 hv => ?_)
    exact q v _ _ P1.st hv
theorem cs_Record_count_of (T : Txt w K mg) {μ : Type} {M : Mu μ} {s : μ} {E : XK} {x_self : Record} {x_word : Str} {y : Int} (h : F_Record_count_of x_self x_word = some y) : CallS M (sp_Record_count_of T) E (rac (ty (y_Record T) x_self) (rac (ty yStr x_word) ra0)) s (ty yInt y) s := by
  rintro Z H vs sz m ⟨v_self, _, rfl, h_self, ⟨v_word, _, rfl, h_word, rfl⟩⟩ Q q
  exact ⟨Z, v_self, v_word, x_self, x_word, y, rfl, sz, h_self, h_word, h, fun v Z2 H2 st hv => q v Z2 H2 st.pure (M.pure st m) hv⟩
def sp_Question_cost (T : Txt w K mg) : Sp := fun vs H Q _ => ∃ (Z0 : Hp) (v_self : V) (v_record : V) (x_self : Question) (x_record : Record) (y : Int), vs = [v_self, v_record] ∧ (Same Z0 H) ∧ (((y_Question T)).r Z0 v_self x_self) ∧ (((y_Record T)).r Z0 v_record x_record) ∧ (F_Question_cost x_self x_record = some y) ∧ ∀ v Z' H', Step [] Z0 H Z' H' → (yInt).r Z' v y → Q v H'
set_option maxHeartbeats 4000000 in
theorem ok_Question_cost (T : Txt w K mg) : FnOk P w K mg base CX0 3 T.f_Question_cost T.d_Question_cost ["self", "record"] (sp_Question_cost T) := by
  have G_Record_count_of : FnOk P w K mg base CX0 1 T.f_Record_count_of T.d_Record_count_of ["self", "word"] (sp_Record_count_of T) := ok_Record_count_of T
  have G_Schema_far : FnOk P w K mg base CX0 2 T.f_Schema_far T.d_Schema_far ["self", "a", "b"] (sp_Schema_far T) := ok_Schema_far T
  refine T.F_Question_cost.ok sc_Question_cost (fun vs H Q E h => ?_) (fun cdv A outer s H vs Q E hr h => ?_)
  · obtain ⟨Z0, v_self, v_record, x_self, x_record, y, rfl, _⟩ := h
    rfl
  · obtain ⟨Z0, v_self, v_record, x_self, x_record, y, rfl, sz, h_self, h_record, hF, q⟩ := h
    refine ⟨_, (pss_cons (ps_set (i := 2) sc_Question_cost.nd rfl (.inl rfl) (pe_meth (pe_fld (pv 0) rfl) T.cl_Schema T.me_Schema_far G_Schema_far (hr.mono (by decide)) T.b_Schema_far .nil pass0 (pa_cons (pe_fld (pv 1) rfl) (pa_cons (pe_fld (pe_fld (pv 0) rfl) rfl) pa_nil)))) 
      (pss_cons (ps_setLc (i := 3) (own := [("word", 4), ("weight", 5)]) (g := gTup K 2 (gCons (gName 4) (gCons (gName 5) gNil))) rfl sc_Question_cost.nd rfl rfl (sw_true rfl rfl rfl (by decide +kernel)) (pi_tup (pe_fld (pe_fld (pv 0) rfl) rfl)) (blkOk_by (own := [("word", 4), ("weight", 5)]) (N := ["self", "record", "far", "counted", "word", "weight"]) (sc := defScope s_Question_cost) (by decide +kernel)) (fun _ _ _ _ _ => (by exact (pg_tup rfl (pgs_cons (pg_name (i := 4) sc_Question_cost.nd rfl (Or.inl rfl)) (pgs_cons (pg_name (i := 5) sc_Question_cost.nd rfl (Or.inl rfl)) pgs_nil))))) (fun _ _ _ _ _ => pts_nil) (fun _ _ _ _ _ => (pe_op op_mul (pv 5) (pe_callB (call_min2 rfl) (by rfl) T.m_min (by decide +kernel) (pa_cons (pe_glob (v := .int 15) rfl T.m_MOST_COUNT.choose_spec ⟨_, rfl⟩) (pa_cons (pe_meth (pv 1) T.cl_Record T.me_Record_count_of G_Record_count_of (hr.mono (by decide)) T.b_Record_count_of .nil pass0 (pa_cons (pv 4) pa_nil)) pa_nil)))))) 
      (pss_one (ps_ret (pe_op op_sub (pe_op op_mul (pe_fld (pe_fld (pv 0) rfl) rfl) (pv 2)) (pe_callB (cr_sum rfl) (by rfl) T.m_sum (by decide +kernel) (pa_cons (pv 3) pa_nil))))))), ?_⟩
    have P := Pt.start0 sz
    unfold F_Question_cost at hF
    obtain ⟨r_416, h_417, hF⟩ := bind_inv hF
    refine st_seq (st_set P (ev_meth (oo_Schema T (by decide +kernel)) (cs_Schema_far T h_417) (ev_fld (fo_Question_schema T) T.cl_Question T.n_Question_schema (ev_var (τ := (y_Question T)) rfl h_self)) (eva_cons (ev_fld (fo_Record_vector T) T.cl_Record T.n_Record_vector (ev_var (τ := (y_Record T)) rfl h_record)) (eva_cons (ev_fld (fo_Query_vector T) T.cl_Query T.n_Query_vector (ev_fld (fo_Question_query T) T.cl_Question T.n_Question_query (ev_var (τ := (y_Question T)) rfl h_self))) eva_nil))) (fun v_418 Z1 H1 e P1 k_419 => ?_))
    refine st_nx ?_
    replace P := P1
    replace h_self := ((y_Question T)).mono e.z h_self
    replace h_record := ((y_Record T)).mono e.z h_record
    obtain ⟨l_431, h_432, hF⟩ := bind_inv hF
    refine st_seq (st_set P (ev_fz (en_mapO (υ := yInt) (fun (x_420 : (Str × Int)) => ((F_Record_count_of x_record x_420.1).bind fun r_428 =>
    if CMul x_420.2 (min (15 : Int) r_428) then
    some (x_420.2 * (min (15 : Int) r_428)) else none : Option Int)) (ei_tup (ev_fld (fo_Query_words T) T.cl_Query T.n_Query_words (ev_fld (fo_Question_query T) T.cl_Question T.n_Question_query (ev_var (τ := (y_Question T)) rfl h_self)))) (fun x_420 v_421 Z' H' p zz hh rx_422 hp => by
          replace h_record := ((y_Record T)).mono zz h_record
          obtain ⟨v_423, v_424, k_425, k_426, tg_427⟩ := tgt_p2 rx_422
          have hy := hp
          obtain ⟨r_428, h_429, hy⟩ := bind_inv hy
          obtain ⟨g_430, hy⟩ := guard_inv hy
          have hy := Option.some.inj hy
          subst hy
          exact ⟨_, (tg_427 tgt_name tgt_name), (wpe_s (wpe_s wpe_z (by decide)) (by decide)), (ev_mul (ev_var (τ := yInt) rfl k_426) (ev_min2 ev_int (ev_meth (oo_Record T (by decide +kernel)) (cs_Record_count_of T h_429) (ev_var (τ := (y_Record T)) rfl h_record) (eva_cons (ev_var (τ := yStr) rfl k_425) eva_nil))) g_430)⟩) h_432)) (fun v_433 Z1 H1 e P1 k_434 => ?_))
    refine st_nx ?_
    replace P := P1
    replace h_self := ((y_Question T)).mono e.z h_self
    obtain ⟨g_435, hF⟩ := guard_inv hF
    replace hF := Option.some.inj hF
    subst hF
    refine st_ret P (ev_sub (ev_mul (ev_fld (fo_Query_near T) T.cl_Query T.n_Query_near (ev_fld (fo_Question_query T) T.cl_Question T.n_Question_query (ev_var (τ := (y_Question T)) rfl h_self))) (ev_var (τ := yInt) rfl k_419) g_435) (ev_sum (ev_li (ev_var (τ := (yList yInt)) rfl k_434)))) (fun v Z1 H1 P1 hv => ?_)
    exact q v _ _ P1.st hv
theorem cs_Question_cost (T : Txt w K mg) {μ : Type} {M : Mu μ} {s : μ} {E : XK} {x_self : Question} {x_record : Record} {y : Int} (h : F_Question_cost x_self x_record = some y) : CallS M (sp_Question_cost T) E (rac (ty (y_Question T) x_self) (rac (ty (y_Record T) x_record) ra0)) s (ty yInt y) s := by
  rintro Z H vs sz m ⟨v_self, _, rfl, h_self, ⟨v_record, _, rfl, h_record, rfl⟩⟩ Q q
  exact ⟨Z, v_self, v_record, x_self, x_record, y, rfl, sz, h_self, h_record, h, fun v Z2 H2 st hv => q v Z2 H2 st.pure (M.pure st m) hv⟩
def sp_Rank___init__ (T : Txt w K mg) : Sp := fun vs H Q _ => ∃ (p dx : Addr) (Z0 : Hp) (v_cost : V) (v_name : V) (x_cost : Int) (x_name : Str), vs = [.ref p, v_cost, v_name] ∧ (Same Z0 H) ∧ (H p = some (.ins T.c_Rank dx [])) ∧ (Z0 p = none) ∧ ((yInt).r Z0 v_cost x_cost) ∧ ((yStr).r Z0 v_name x_name) ∧ ∀ Z' H' o, Step [p] Z0 H Z' H' → H' p = some o → (y_Rank T).r (upd Z' p o) (.ref p) (F_Rank___init__ x_cost x_name) → Q .non H'
set_option maxHeartbeats 4000000 in
theorem ok_Rank___init__ (T : Txt w K mg) : FnOk P w K mg base CX0 1 T.f_Rank___init__ T.d_Rank___init__ ["self", "cost", "name"] (sp_Rank___init__ T) := by
  refine T.F_Rank___init__.ok sc_Rank___init__ (fun vs H Q E h => ?_) (fun cdv A outer s H vs Q E hr h => ?_)
  · obtain ⟨p, dx, Z0, v_cost, v_name, x_cost, x_name, rfl, _⟩ := h
    rfl
  · obtain ⟨p, dx, Z0, v_cost, v_name, x_cost, x_name, rfl, sz, hself, zself, h_cost, h_name, q⟩ := h
    refine ⟨_, (pss_cons (ps_fld (pv 0) (pv 1) rfl) 
      (pss_one (ps_fld (pv 0) (pv 2) rfl))), ?_⟩
    have P : Pt [p] Z0 H muN Z0 H () := ⟨Step.refl sz, trivial, fun _ h => (nomatch h)⟩
    generalize hF : F_Rank___init__ x_cost x_name = y at q
    unfold F_Rank___init__ at hF
    refine st_seq (st_fld (x := x_cost) (τ := yInt) P hself zself List.not_mem_nil (.inl List.mem_cons_self) rfl (ev_var (τ := yInt) rfl h_cost) T.cl_Rank T.n_Rank_cost (Nat.lt_of_le_of_lt (Nat.le_refl 0) (by decide)) (fun v_436 Z1 H1 e P1 k_437 hself1 zself1 => ?_))
    refine st_nx ?_
    replace P := P1
    replace hself := hself1
    replace zself := zself1
    refine st_fld (x := x_name) (τ := yStr) P hself zself List.not_mem_nil (.inl List.mem_cons_self) rfl (ev_var (τ := yStr) rfl h_name) T.cl_Rank T.n_Rank_name (Nat.lt_of_le_of_lt (putF_le (Nat.le_refl 0)) (by decide)) (fun v_438 Z1 H1 e P1 k_439 hself1 zself1 => ?_)
    replace P := P1
    replace hself := hself1
    replace zself := zself1
    subst hF
    exact q _ _ _ P.st hself ⟨p, dx, v_436, v_438, rfl, upd_same, k_437, k_439⟩
theorem is_Rank___init__ (T : Txt w K mg) {μ : Type} {M : Mu μ} {s : μ} {E : XK} {x_cost : Int} {x_name : Str} : InitS M T.c_Rank (sp_Rank___init__ T) E (rac (ty yInt x_cost) (rac (ty yStr x_name) ra0)) s (ty (y_Rank T) (F_Rank___init__ x_cost x_name)) s := by
  rintro Z H vs x dx sz m ⟨v_cost, _, rfl, h_cost, ⟨v_name, _, rfl, h_name, rfl⟩⟩ hx zx nx Q q
  exact ⟨x, dx, Z, v_cost, v_name, x_cost, x_name, rfl, sz, hx, zx, h_cost, h_name, fun Z2 H2 o st ho hr => q Z2 H2 o (st.weak fun a h => by rw [List.mem_singleton] at h; rw [h]; exact .inl List.mem_cons_self) (Mu.away st nx m) ho hr⟩
def sp_Token___init__ (T : Txt w K mg) : Sp := fun vs H Q _ => ∃ (p dx : Addr) (Z0 : Hp) (v_kind : V) (v_value : V) (v_place : V) (x_kind : Str) (x_value : TV) (x_place : Int), vs = [.ref p, v_kind, v_value, v_place] ∧ (Same Z0 H) ∧ (H p = some (.ins T.c_Token dx [])) ∧ (Z0 p = none) ∧ ((yStr).r Z0 v_kind x_kind) ∧ (((y_TV T)).r Z0 v_value x_value) ∧ ((yInt).r Z0 v_place x_place) ∧ ∀ Z' H' o, Step [p] Z0 H Z' H' → H' p = some o → (y_Token T).r (upd Z' p o) (.ref p) (F_Token___init__ x_kind x_value x_place) → Q .non H'
set_option maxHeartbeats 4000000 in
theorem ok_Token___init__ (T : Txt w K mg) : FnOk P w K mg base CX0 1 T.f_Token___init__ T.d_Token___init__ ["self", "kind", "value", "place"] (sp_Token___init__ T) := by
  refine T.F_Token___init__.ok sc_Token___init__ (fun vs H Q E h => ?_) (fun cdv A outer s H vs Q E hr h => ?_)
  · obtain ⟨p, dx, Z0, v_kind, v_value, v_place, x_kind, x_value, x_place, rfl, _⟩ := h
    rfl
  · obtain ⟨p, dx, Z0, v_kind, v_value, v_place, x_kind, x_value, x_place, rfl, sz, hself, zself, h_kind, h_value, h_place, q⟩ := h
    refine ⟨_, (pss_cons (ps_fld (pv 0) (pv 1) rfl) 
      (pss_cons (ps_fld (pv 0) (pv 2) rfl) 
      (pss_one (ps_fld (pv 0) (pv 3) rfl)))), ?_⟩
    have P : Pt [p] Z0 H muN Z0 H () := ⟨Step.refl sz, trivial, fun _ h => (nomatch h)⟩
    generalize hF : F_Token___init__ x_kind x_value x_place = y at q
    unfold F_Token___init__ at hF
    refine st_seq (st_fld (x := x_kind) (τ := yStr) P hself zself List.not_mem_nil (.inl List.mem_cons_self) rfl (ev_var (τ := yStr) rfl h_kind) T.cl_Token T.n_Token_kind (Nat.lt_of_le_of_lt (Nat.le_refl 0) (by decide)) (fun v_440 Z1 H1 e P1 k_441 hself1 zself1 => ?_))
    refine st_nx ?_
    replace P := P1
    replace hself := hself1
    replace zself := zself1
    replace h_value := ((y_TV T)).mono e.z h_value
    refine st_seq (st_fld (x := x_value) (τ := (y_TV T)) P hself zself List.not_mem_nil (.inl List.mem_cons_self) rfl (ev_var (τ := (y_TV T)) rfl h_value) T.cl_Token T.n_Token_value (Nat.lt_of_le_of_lt (putF_le (Nat.le_refl 0)) (by decide)) (fun v_442 Z1 H1 e P1 k_443 hself1 zself1 => ?_))
    refine st_nx ?_
    replace P := P1
    replace hself := hself1
    replace zself := zself1
    refine st_fld (x := x_place) (τ := yInt) P hself zself List.not_mem_nil (.inl List.mem_cons_self) rfl (ev_var (τ := yInt) rfl h_place) T.cl_Token T.n_Token_place (Nat.lt_of_le_of_lt (putF_le (putF_le (Nat.le_refl 0))) (by decide)) (fun v_444 Z1 H1 e P1 k_445 hself1 zself1 => ?_)
    replace P := P1
    replace hself := hself1
    replace zself := zself1
    replace k_443 := ((y_TV T)).mono e.z k_443
    subst hF
    exact q _ _ _ P.st hself ⟨p, dx, v_440, v_442, v_444, rfl, upd_same, k_441, ((y_TV T)).mono (same_upd zself) k_443, k_445⟩
theorem is_Token___init__ (T : Txt w K mg) {μ : Type} {M : Mu μ} {s : μ} {E : XK} {x_kind : Str} {x_value : TV} {x_place : Int} : InitS M T.c_Token (sp_Token___init__ T) E (rac (ty yStr x_kind) (rac (ty (y_TV T) x_value) (rac (ty yInt x_place) ra0))) s (ty (y_Token T) (F_Token___init__ x_kind x_value x_place)) s := by
  rintro Z H vs x dx sz m ⟨v_kind, _, rfl, h_kind, ⟨v_value, _, rfl, h_value, ⟨v_place, _, rfl, h_place, rfl⟩⟩⟩ hx zx nx Q q
  exact ⟨x, dx, Z, v_kind, v_value, v_place, x_kind, x_value, x_place, rfl, sz, hx, zx, h_kind, h_value, h_place, fun Z2 H2 o st ho hr => q Z2 H2 o (st.weak fun a h => by rw [List.mem_singleton] at h; rw [h]; exact .inl List.mem_cons_self) (Mu.away st nx m) ho hr⟩
def sp_word_at (T : Txt w K mg) : Sp := fun vs H Q _ => ∃ (Z0 : Hp) (v_text : V) (v_start : V) (x_text : Str) (x_start : Int) (y : (Token × Int)), vs = [v_text, v_start] ∧ (Same Z0 H) ∧ ((yStr).r Z0 v_text x_text) ∧ ((yInt).r Z0 v_start x_start) ∧ (F_word_at x_text x_start = some y) ∧ ∀ v Z' H', Step [] Z0 H Z' H' → ((yP2 K (y_Token T) yInt)).r Z' v y → Q v H'
set_option maxHeartbeats 4000000 in
theorem ok_word_at (T : Txt w K mg) : FnOk P w K mg base CX0 3 T.f_word_at T.d_word_at ["text", "start"] (sp_word_at T) := by
  have G_Token___init__ : FnOk P w K mg base CX0 1 T.f_Token___init__ T.d_Token___init__ ["self", "kind", "value", "place"] (sp_Token___init__ T) := ok_Token___init__ T
  have G_is_digit : FnOk P w K mg base CX0 1 T.f_is_digit T.d_is_digit ["char"] (sp_is_digit T) := ok_is_digit T
  have G_is_letter : FnOk P w K mg base CX0 1 T.f_is_letter T.d_is_letter ["char"] (sp_is_letter T) := ok_is_letter T
  refine T.F_word_at.ok sc_word_at (fun vs H Q E h => ?_) (fun cdv A outer s H vs Q E hr h => ?_)
  · obtain ⟨Z0, v_text, v_start, x_text, x_start, y, rfl, _⟩ := h
    rfl
  · obtain ⟨Z0, v_text, v_start, x_text, x_start, y, rfl, sz, h_text, h_start, hF, q⟩ := h
    refine ⟨_, (pss_cons (ps_set (i := 2) sc_word_at.nd rfl (.inl rfl) (pv 1)) 
      (pss_cons (ps_while PassesOwn.never (PW.pt (pw_and (pt_cmpR op_lt (pv 2) (pe_callB call_len_str (by rfl) T.m_len PySem.boot_len (pa_cons (pv 0) pa_nil)) (nomark _)) (pw_and1 (PW.pt (pw_or (pt_val (pe_call G_is_letter (hr.mono (by decide)) (by rfl) T.g_is_letter T.F_is_letter.kp T.b_is_letter .nil pass0 (pa_cons (pe_ix ix_str (pv 0) (pv 2) (fun _ _ => rfl)) pa_nil))) (pw_or1 (pt_val (pe_call G_is_digit (hr.mono (by decide)) (by rfl) T.g_is_digit T.F_is_digit.kp T.b_is_digit .nil pass0 (pa_cons (pe_ix ix_str (pv 0) (pv 2) (fun _ _ => rfl)) pa_nil))))))))) (pss_one (ps_aug (i := 2) sc_word_at.nd rfl (.inl rfl) pe_int ip_add))) 
      (pss_one (ps_ret (pe_tup (pa_cons (pe_make T.mk_Token G_Token___init__ (hr.mono (by decide)) (by rfl) T.mc_Token T.b_Token___init__ .nil pass0 (pa_cons pe_str (pa_cons (pe_slice sl_str (pv 0) (po_some (pv 1)) (po_some (pv 2))) (pa_cons (pv 1) pa_nil)))) (pa_cons (pv 2) pa_nil))))))), ?_⟩
    have P := Pt.start0 sz
    unfold F_word_at at hF
    refine st_seq (st_set P (ev_var (τ := yInt) rfl h_start) (fun v_448 Z1 H1 e P1 k_449 => ?_))
    refine st_nx ?_
    replace P := P1
    obtain ⟨f_455, hL_468, hF⟩ := bind_inv hF
    refine st_seq (st_while (fun n σ' Z' H' => ∃ w_450, ∃ (v_453 : V), σ' = [some v_text, some v_start, some v_453] ∧ Pt [] Z0 H muN Z' H' () ∧ (yInt).r Z' v_453 w_450 ∧ whileS (L_word_at_1 x_text) n w_450 = some f_455) ((x_text.length + 1)) P ?_ ?_)
    · exact ⟨x_start, _, rfl, P, k_449, hL_468⟩
    rintro n σ' Z1 H1 ⟨w_450, v_453, rfl, P, k_454, hq_452⟩
    obtain ⟨k, rfl, hq_452⟩ := whileS_cons hq_452
    obtain ⟨u_456, hB_451, hq_452⟩ := bind_inv hq_452
    unfold L_word_at_1 at hB_451
    obtain ⟨b_464, h_463, hB_451⟩ := bind_inv hB_451
    refine ⟨k, _, _, _, rfl, P, (et_andO (et_cmp (ev_lt (ev_var (τ := yInt) rfl k_454) (ev_len_str (ev_var (τ := yStr) rfl h_text)))) (fun _ y hy => by
          obtain ⟨i_457, h_458, hy⟩ := bind_inv hy
          obtain ⟨b_462, h_461, hy⟩ := bind_inv hy
          have hy := Option.some.inj hy
          subst hy
          exact (et_orO (et_val (ev_call (cs_is_letter T) (eva_cons (ev_ixS (ev_var (τ := yStr) rfl h_text) (ev_var (τ := yInt) rfl k_454) h_458) eva_nil))) (fun _ y hy => by
                obtain ⟨i_459, h_460, hy⟩ := bind_inv hy
                have hy := Option.some.inj hy
                subst hy
                exact (et_val (ev_call (cs_is_digit T) (eva_cons (ev_ixS (ev_var (τ := yStr) rfl h_text) (ev_var (τ := yInt) rfl k_454) h_460) eva_nil)))) h_461)) h_463), fun b_465 Z1 H1 e P1 => ?_, fun b_465 Z1 H1 e P1 => ?_⟩
    · replace P := P1
      replace hB_451 := ifT b_465 hB_451
      refine st_aug P rfl k_454 ev_int (fun v_466 Z1 H1 e P1 k_467 => ?_)
      replace P := P1
      replace hB_451 := Option.some.inj hB_451
      subst hB_451
      exact ⟨_, (w_450 + (1 : Int)), _, rfl, P, k_467, (nxt_go hq_452)⟩
    · replace P := P1
      replace hB_451 := ifF b_465 hB_451
      replace hB_451 := Option.some.inj hB_451
      subst hB_451
      have hz := nxt_brk hq_452
      subst hz
      replace hF := go_inv hF
      refine st_nx ?_
      replace hF := Option.some.inj hF
      subst hF
      refine st_ret P (ev_p2 (K := K) (eva_cons (ev_make (is_Token___init__ T) (eva_cons ev_str (eva_cons (ij_TV_s T (ev_slS (ev_var (τ := yStr) rfl h_text) (eo_some (ev_var (τ := yInt) rfl h_start)) (eo_some (ev_var (τ := yInt) rfl k_454)))) (eva_cons (ev_var (τ := yInt) rfl h_start) eva_nil)))) (eva_cons (ev_var (τ := yInt) rfl k_454) eva_nil))) (fun v Z1 H1 P1 hv => ?_)
      exact q v _ _ P1.st hv
theorem cs_word_at (T : Txt w K mg) {μ : Type} {M : Mu μ} {s : μ} {E : XK} {x_text : Str} {x_start : Int} {y : (Token × Int)} (h : F_word_at x_text x_start = some y) : CallS M (sp_word_at T) E (rac (ty yStr x_text) (rac (ty yInt x_start) ra0)) s (ty (yP2 K (y_Token T) yInt) y) s := by
  rintro Z H vs sz m ⟨v_text, _, rfl, h_text, ⟨v_start, _, rfl, h_start, rfl⟩⟩ Q q
  exact ⟨Z, v_text, v_start, x_text, x_start, y, rfl, sz, h_text, h_start, h, fun v Z2 H2 st hv => q v Z2 H2 st.pure (M.pure st m) hv⟩
def sp_token_at (T : Txt w K mg) : Sp := fun vs H Q _ => ∃ (Z0 : Hp) (v_text : V) (v_start : V) (x_text : Str) (x_start : Int) (y : (Token × Int)), vs = [v_text, v_start] ∧ (Same Z0 H) ∧ ((yStr).r Z0 v_text x_text) ∧ ((yInt).r Z0 v_start x_start) ∧ (F_token_at x_text x_start = some y) ∧ ∀ v Z' H', Step [] Z0 H Z' H' → ((yP2 K (y_Token T) yInt)).r Z' v y → Q v H'
set_option maxHeartbeats 4000000 in
theorem ok_token_at (T : Txt w K mg) : FnOk P w K mg base CX0 4 T.f_token_at T.d_token_at ["text", "start"] (sp_token_at T) := by
  have G_is_letter : FnOk P w K mg base CX0 1 T.f_is_letter T.d_is_letter ["char"] (sp_is_letter T) := ok_is_letter T
  have G_word_at : FnOk P w K mg base CX0 3 T.f_word_at T.d_word_at ["text", "start"] (sp_word_at T) := ok_word_at T
  refine T.F_token_at.ok sc_token_at (fun vs H Q E h => ?_) (fun cdv A outer s H vs Q E hr h => ?_)
  · obtain ⟨Z0, v_text, v_start, x_text, x_start, y, rfl, _⟩ := h
    rfl
  · obtain ⟨Z0, v_text, v_start, x_text, x_start, y, rfl, sz, h_text, h_start, hF, q⟩ := h
    refine ⟨_, (pss_cons (ps_set (i := 2) sc_token_at.nd rfl (.inl rfl) (pe_ix ix_str (pv 0) (pv 1) (fun _ _ => rfl))) 
      (pss_cons (ps_if (pt_val (pe_call G_is_letter (hr.mono (by decide)) (by rfl) T.g_is_letter T.F_is_letter.kp T.b_is_letter .nil pass0 (pa_cons (pv 2) pa_nil))) (pss_one (ps_ret (pe_call G_word_at (hr.mono (by decide)) (by rfl) T.g_word_at T.F_word_at.kp T.b_word_at .nil pass0 (pa_cons (pv 0) (pa_cons (pv 1) pa_nil))))) pss_nil) 
      (pss_cons ps_dead 
      (pss_cons ps_dead 
      (pss_cons ps_dead 
      (pss_one ps_dead)))))), ?_⟩
    have P := Pt.start0 sz
    unfold F_token_at at hF
    obtain ⟨i_476, h_477, hF⟩ := bind_inv hF
    refine st_seq (st_set P (ev_ixS (ev_var (τ := yStr) rfl h_text) (ev_var (τ := yInt) rfl h_start) h_477) (fun v_478 Z1 H1 e P1 k_479 => ?_))
    refine st_nx ?_
    replace P := P1
    refine st_seq (st_if P (et_val (ev_call (cs_is_letter T) (eva_cons (ev_var (τ := yStr) rfl k_479) eva_nil))) (fun b_480 Z1 H1 e P1 => ?_) (fun b_480 Z1 H1 e P1 => ?_))
    · replace P := P1
      have hB := ifT b_480 hF
      replace hF := hB
      clear hB
      obtain ⟨r_481, h_482, hF⟩ := bind_inv hF
      replace hF := Option.some.inj hF
      subst hF
      refine st_ret P (ev_call (cs_word_at T h_482) (eva_cons (ev_var (τ := yStr) rfl h_text) (eva_cons (ev_var (τ := yInt) rfl h_start) eva_nil))) (fun v Z1 H1 P1 hv => ?_)
      exact q v _ _ P1.st hv
    · replace P := P1
      have hB := ifF b_480 hF
      replace hF := hB
      clear hB
      refine st_next0 ?_
      cases hF
theorem cs_token_at (T : Txt w K mg) {μ : Type} {M : Mu μ} {s : μ} {E : XK} {x_text : Str} {x_start : Int} {y : (Token × Int)} (h : F_token_at x_text x_start = some y) : CallS M (sp_token_at T) E (rac (ty yStr x_text) (rac (ty yInt x_start) ra0)) s (ty (yP2 K (y_Token T) yInt) y) s := by
  rintro Z H vs sz m ⟨v_text, _, rfl, h_text, ⟨v_start, _, rfl, h_start, rfl⟩⟩ Q q
  exact ⟨Z, v_text, v_start, x_text, x_start, y, rfl, sz, h_text, h_start, h, fun v Z2 H2 st hv => q v Z2 H2 st.pure (M.pure st m) hv⟩
def sp_read_tokens (T : Txt w K mg) : Sp := fun vs H Q _ => ∃ (Z0 : Hp) (v_text : V) (x_text : Str) (y : (List Token)), vs = [v_text] ∧ (Same Z0 H) ∧ ((yStr).r Z0 v_text x_text) ∧ (F_read_tokens x_text = some y) ∧ ∀ v Z' H', Step [] Z0 H Z' H' → ((yList (y_Token T))).r Z' v y → Q v H'
set_option maxHeartbeats 4000000 in
theorem ok_read_tokens (T : Txt w K mg) : FnOk P w K mg base CX0 5 T.f_read_tokens T.d_read_tokens ["text"] (sp_read_tokens T) := by
  have G_token_at : FnOk P w K mg base CX0 4 T.f_token_at T.d_token_at ["text", "start"] (sp_token_at T) := ok_token_at T
  refine T.F_read_tokens.ok sc_read_tokens (fun vs H Q E h => ?_) (fun cdv A outer s H vs Q E hr h => ?_)
  · obtain ⟨Z0, v_text, x_text, y, rfl, _⟩ := h
    rfl
  · obtain ⟨Z0, v_text, x_text, y, rfl, sz, h_text, hF, q⟩ := h
    refine ⟨_, (pss_cons (ps_set (i := 1) sc_read_tokens.nd rfl (.inl rfl) (pe_lst pa_nil)) 
      (pss_cons (ps_set (i := 2) sc_read_tokens.nd rfl (.inl rfl) pe_int) 
      (pss_cons (ps_while PassesOwn.never (pt_cmpR op_lt (pv 2) (pe_callB call_len_str (by rfl) T.m_len PySem.boot_len (pa_cons (pv 0) pa_nil)) (nomark _)) (pss_one (ps_if (pt_cmpR op_eq (pe_ix ix_str (pv 0) (pv 2) (fun _ _ => rfl)) pe_str (nomark _)) (pss_one (ps_aug (i := 2) sc_read_tokens.nd rfl (.inl rfl) pe_int ip_add)) (pss_cons (ps_asg (pe_call G_token_at (hr.mono (by decide)) (by rfl) T.g_token_at T.F_token_at.kp T.b_token_at .nil pass0 (pa_cons (pv 0) (pa_cons (pv 2) pa_nil))) (pg_tup rfl (pgs_cons (pg_name (i := 3) sc_read_tokens.nd rfl (.inl rfl)) (pgs_cons (pg_name (i := 2) sc_read_tokens.nd rfl (.inl rfl)) pgs_nil)))) 
      (pss_one (ps_expr (pe_bm PySem.F.plainAttrs_list PySem.F.slot_list_append PySem.F.type_list_append mt_append (pv 1) (pa_cons (pv 3) pa_nil)))))))) 
      (pss_one (ps_ret (pv 1)))))), ?_⟩
    have P := Pt.start0 sz
    unfold F_read_tokens at hF
    refine st_seq (st_setN (τ := (y_Token T)) P (en_listD (eva_nils (τ := (y_Token T))) (by show 0 ≤ sizeLine; decide)) (fun p_488 Z1 H1 e P1 fr_490 o_489 => ?_))
    refine st_nx ?_
    replace P := P1
    refine st_seq (st_set P ev_int (fun v_491 Z1 H1 e P1 k_492 => ?_))
    refine st_nx ?_
    replace P := P1
    replace o_489 := o_489.next e
    obtain ⟨f_500, hL_519, hF⟩ := bind_inv hF
    refine st_seq (st_while (fun n σ' Z' H' => ∃ w_493, ∃ (v_497 : V) (y_499 : Option V), σ' = [some v_text, some (.ref p_488), some v_497, y_499] ∧ Pt [] Z0 H muN Z' H' () ∧ Own [] H muN.fp Z' H' (y_Token T) p_488 w_493.1 ∧ (yInt).r Z' v_497 w_493.2 ∧ whileS (L_read_tokens_1 x_text) n w_493 = some f_500) ((x_text.length + 1)) P ?_ ?_)
    · exact ⟨(([] : List Token), (0 : Int)), _, _, rfl, P, o_489, k_492, hL_519⟩
    rintro n σ' Z1 H1 ⟨w_493, v_497, y_499, rfl, P, o_496, k_498, hq_495⟩
    obtain ⟨k, rfl, hq_495⟩ := whileS_cons hq_495
    obtain ⟨u_501, hB_494, hq_495⟩ := bind_inv hq_495
    unfold L_read_tokens_1 at hB_494
    refine ⟨k, _, _, _, rfl, P, (et_cmp (ev_lt (ev_var (τ := yInt) rfl k_498) (ev_len_str (ev_var (τ := yStr) rfl h_text)))), fun b_502 Z1 H1 e P1 => ?_, fun b_502 Z1 H1 e P1 => ?_⟩
    · replace P := P1
      replace hB_494 := ifT b_502 hB_494
      replace o_496 := o_496.next e
      obtain ⟨i_503, h_504, hB_494⟩ := bind_inv hB_494
      refine st_if P (et_cmp (ev_eq flat_str (ev_ixS (ev_var (τ := yStr) rfl h_text) (ev_var (τ := yInt) rfl k_498) h_504) ev_str)) (fun b_505 Z1 H1 e P1 => ?_) (fun b_505 Z1 H1 e P1 => ?_)
      · replace P := P1
        have hB := ifT b_505 hB_494
        replace hB_494 := hB
        clear hB
        replace o_496 := o_496.next e
        refine st_aug P rfl k_498 ev_int (fun v_506 Z1 H1 e P1 k_507 => ?_)
        replace P := P1
        replace o_496 := o_496.next e
        replace hB_494 := Option.some.inj hB_494
        subst hB_494
        exact ⟨_, (w_493.1, (w_493.2 + (1 : Int))), _, _, rfl, P, o_496, k_507, (nxt_go hq_495)⟩
      · replace P := P1
        have hB := ifF b_505 hB_494
        replace hB_494 := hB
        clear hB
        replace o_496 := o_496.next e
        obtain ⟨r_508, h_509, hB_494⟩ := bind_inv hB_494
        refine st_seq (st_asg P (ev_call (cs_token_at T h_509) (eva_cons (ev_var (τ := yStr) rfl h_text) (eva_cons (ev_var (τ := yInt) rfl k_498) eva_nil))) (fun v Z1 H1 e P1 k_510 => ?_))
        replace P := P1
        replace o_496 := o_496.next e
        obtain ⟨v_511, v_512, k_513, k_514, tg_515⟩ := tgt_p2 k_510
        refine ⟨_, (tg_515 tgt_name tgt_name), ?_⟩
        refine st_nx ?_
        obtain ⟨g_516, hB_494⟩ := guard_inv hB_494
        refine st_append P o_496 rfl (ev_var (τ := (y_Token T)) rfl k_513) g_516 (fun Z1 H1 e P1 o_517 => ?_)
        replace P := P1
        replace hB_494 := Option.some.inj hB_494
        subst hB_494
        exact ⟨_, ((w_493.1 ++ [r_508.1]), r_508.2), _, _, rfl, P, o_517, k_514, (nxt_go hq_495)⟩
    · replace P := P1
      replace hB_494 := ifF b_502 hB_494
      replace o_496 := o_496.next e
      replace hB_494 := Option.some.inj hB_494
      subst hB_494
      have hz := nxt_brk hq_495
      subst hz
      replace hF := go_inv hF
      refine st_nx ?_
      obtain ⟨Z, P, zf, hf, of⟩ := o_496.fz P
      have k_518 := hf
      clear hf zf of
      replace hF := Option.some.inj hF
      subst hF
      refine st_ret P (ev_var (τ := (yList (y_Token T))) rfl k_518) (fun v Z1 H1 P1 hv => ?_)
      exact q v _ _ P1.st hv
theorem cs_read_tokens (T : Txt w K mg) {μ : Type} {M : Mu μ} {s : μ} {E : XK} {x_text : Str} {y : (List Token)} (h : F_read_tokens x_text = some y) : CallS M (sp_read_tokens T) E (rac (ty yStr x_text) ra0) s (ty (yList (y_Token T)) y) s := by
  rintro Z H vs sz m ⟨v_text, _, rfl, h_text, rfl⟩ Q q
  exact ⟨Z, v_text, x_text, y, rfl, sz, h_text, h, fun v Z2 H2 st hv => q v Z2 H2 st.pure (M.pure st m) hv⟩
def sp_FilterReader___init__ (T : Txt w K mg) : Sp := fun vs H Q _ => ∃ (p dx : Addr) (Z0 : Hp) (v_schema : V) (v_text : V) (x_schema : Schema) (x_text : Str) (y : FilterReader), vs = [.ref p, v_schema, v_text] ∧ (Same Z0 H) ∧ (H p = some (.ins T.c_FilterReader dx [])) ∧ (Z0 p = none) ∧ (((y_Schema T)).r Z0 v_schema x_schema) ∧ ((yStr).r Z0 v_text x_text) ∧ (F_FilterReader___init__ x_schema x_text = some y) ∧ ∀ Z' H', Step [p] Z0 H Z' H' → (mu_FilterReader T p).m y Z' H' → Q .non H'
set_option maxHeartbeats 4000000 in
theorem ok_FilterReader___init__ (T : Txt w K mg) : FnOk P w K mg base CX0 6 T.f_FilterReader___init__ T.d_FilterReader___init__ ["self", "schema", "text"] (sp_FilterReader___init__ T) := by
  have G_read_tokens : FnOk P w K mg base CX0 5 T.f_read_tokens T.d_read_tokens ["text"] (sp_read_tokens T) := ok_read_tokens T
  refine T.F_FilterReader___init__.ok sc_FilterReader___init__ (fun vs H Q E h => ?_) (fun cdv A outer s H vs Q E hr h => ?_)
  · obtain ⟨p, dx, Z0, v_schema, v_text, x_schema, x_text, y, rfl, _⟩ := h
    rfl
  · obtain ⟨p, dx, Z0, v_schema, v_text, x_schema, x_text, y, rfl, sz, hself, zself, h_schema, h_text, hF, q⟩ := h
    refine ⟨_, (pss_cons (ps_fld (pv 0) (pv 1) rfl) 
      (pss_cons (ps_fld (pv 0) (pe_call G_read_tokens (hr.mono (by decide)) (by rfl) T.g_read_tokens T.F_read_tokens.kp T.b_read_tokens .nil pass0 (pa_cons (pv 2) pa_nil)) rfl) 
      (pss_cons (ps_fld (pv 0) (pe_callB call_len_str (by rfl) T.m_len PySem.boot_len (pa_cons (pv 2) pa_nil)) rfl) 
      (pss_cons (ps_fld (pv 0) pe_int rfl) 
      (pss_one (ps_fld (pv 0) pe_int rfl)))))), ?_⟩
    have P : Pt [p] Z0 H muN Z0 H () := ⟨Step.refl sz, trivial, fun _ h => (nomatch h)⟩
    unfold F_FilterReader___init__ at hF
    refine st_seq (st_fld (x := x_schema) (τ := (y_Schema T)) P hself zself List.not_mem_nil (.inl List.mem_cons_self) rfl (ev_var (τ := (y_Schema T)) rfl h_schema) T.cl_FilterReader T.n_FilterReader_schema (Nat.lt_of_le_of_lt (Nat.le_refl 0) (by decide)) (fun v_532 Z1 H1 e P1 k_533 hself1 zself1 => ?_))
    refine st_nx ?_
    replace P := P1
    replace hself := hself1
    replace zself := zself1
    obtain ⟨r_534, h_535, hF⟩ := bind_inv hF
    refine st_seq (st_fld (x := r_534) (τ := (yList (y_Token T))) P hself zself List.not_mem_nil (.inl List.mem_cons_self) rfl (ev_call (cs_read_tokens T h_535) (eva_cons (ev_var (τ := yStr) rfl h_text) eva_nil)) T.cl_FilterReader T.n_FilterReader_tokens (Nat.lt_of_le_of_lt (putF_le (Nat.le_refl 0)) (by decide)) (fun v_536 Z1 H1 e P1 k_537 hself1 zself1 => ?_))
    refine st_nx ?_
    replace P := P1
    replace hself := hself1
    replace zself := zself1
    replace k_533 := ((y_Schema T)).mono e.z k_533
    refine st_seq (st_fld (x := (x_text.length : Int)) (τ := yInt) P hself zself List.not_mem_nil (.inl List.mem_cons_self) rfl (ev_len_str (ev_var (τ := yStr) rfl h_text)) T.cl_FilterReader T.n_FilterReader_length (Nat.lt_of_le_of_lt (putF_le (putF_le (Nat.le_refl 0))) (by decide)) (fun v_538 Z1 H1 e P1 k_539 hself1 zself1 => ?_))
    refine st_nx ?_
    replace P := P1
    replace hself := hself1
    replace zself := zself1
    replace k_533 := ((y_Schema T)).mono e.z k_533
    replace k_537 := ((yList (y_Token T))).mono e.z k_537
    refine st_seq (st_fld (x := (0 : Int)) (τ := yInt) P hself zself List.not_mem_nil (.inl List.mem_cons_self) rfl ev_int T.cl_FilterReader T.n_FilterReader_at (Nat.lt_of_le_of_lt (putF_le (putF_le (putF_le (Nat.le_refl 0)))) (by decide)) (fun v_540 Z1 H1 e P1 k_541 hself1 zself1 => ?_))
    refine st_nx ?_
    replace P := P1
    replace hself := hself1
    replace zself := zself1
    replace k_533 := ((y_Schema T)).mono e.z k_533
    replace k_537 := ((yList (y_Token T))).mono e.z k_537
    refine st_fld (x := (0 : Int)) (τ := yInt) P hself zself List.not_mem_nil (.inl List.mem_cons_self) rfl ev_int T.cl_FilterReader T.n_FilterReader_deep (Nat.lt_of_le_of_lt (putF_le (putF_le (putF_le (putF_le (Nat.le_refl 0))))) (by decide)) (fun v_542 Z1 H1 e P1 k_543 hself1 zself1 => ?_)
    replace P := P1
    replace hself := hself1
    replace zself := zself1
    replace k_533 := ((y_Schema T)).mono e.z k_533
    replace k_537 := ((yList (y_Token T))).mono e.z k_537
    replace hF := Option.some.inj hF
    subst hF
    exact q _ _ P.st ⟨zself, ⟨dx, v_532, v_536, v_538, v_540, v_542, hself, k_533, k_537, k_539, k_541, k_543⟩⟩
theorem im_FilterReader___init__ (T : Txt w K mg) {μ : Type} {M : Mu μ} {s : μ} {E : XK} {x_schema : Schema} {x_text : Str} {y : FilterReader} (h : F_FilterReader___init__ x_schema x_text = some y) : InitM (ι := Addr) M T.c_FilterReader (sp_FilterReader___init__ T) E (rac (ty (y_Schema T) x_schema) (rac (ty yStr x_text) ra0)) s (fun p => mu_FilterReader T p) (fun p => p) y s := by
  rintro Z H vs x dx sz m ⟨v_schema, _, rfl, h_schema, ⟨v_text, _, rfl, h_text, rfl⟩⟩ hx zx nx Q q
  exact ⟨x, dx, Z, v_schema, v_text, x_schema, x_text, y, rfl, sz, hx, zx, h_schema, h_text, h, fun Z2 H2 st mi => q x Z2 H2 rfl (st.weak fun a h => by rw [List.mem_singleton] at h; rw [h]; exact .inl List.mem_cons_self) (Mu.away st nx m) (fun a ha => .inl (List.mem_singleton.mp ha)) mi⟩
def sp_Query___init__ (T : Txt w K mg) : Sp := fun vs H Q _ => ∃ (p dx : Addr) (Z0 : Hp) (v_vector : V) (v_near : V) (v_words : V) (v_text : V) (v_most : V) (x_vector : (List Int)) (x_near : Int) (x_words : (List (Str × Int))) (x_text : Str) (x_most : Int), vs = [.ref p, v_vector, v_near, v_words, v_text, v_most] ∧ (Same Z0 H) ∧ (H p = some (.ins T.c_Query dx [])) ∧ (Z0 p = none) ∧ (((yList yInt)).r Z0 v_vector x_vector) ∧ ((yInt).r Z0 v_near x_near) ∧ (((yList (yP2 K yStr yInt))).r Z0 v_words x_words) ∧ ((yStr).r Z0 v_text x_text) ∧ ((yInt).r Z0 v_most x_most) ∧ ∀ Z' H' o, Step [p] Z0 H Z' H' → H' p = some o → (y_Query T).r (upd Z' p o) (.ref p) (F_Query___init__ x_vector x_near x_words x_text x_most) → Q .non H'
set_option maxHeartbeats 4000000 in
theorem ok_Query___init__ (T : Txt w K mg) : FnOk P w K mg base CX0 1 T.f_Query___init__ T.d_Query___init__ ["self", "vector", "near", "words", "text", "most"] (sp_Query___init__ T) := by
  refine T.F_Query___init__.ok sc_Query___init__ (fun vs H Q E h => ?_) (fun cdv A outer s H vs Q E hr h => ?_)
  · obtain ⟨p, dx, Z0, v_vector, v_near, v_words, v_text, v_most, x_vector, x_near, x_words, x_text, x_most, rfl, _⟩ := h
    rfl
  · obtain ⟨p, dx, Z0, v_vector, v_near, v_words, v_text, v_most, x_vector, x_near, x_words, x_text, x_most, rfl, sz, hself, zself, h_vector, h_near, h_words, h_text, h_most, q⟩ := h
    refine ⟨_, PSs.nox (pss_cons (ps_fld (pv 0) (pe_callTy call_tuple_of (by rfl) T.m_tuple (by decide +kernel) (pa_cons (pv 1) pa_nil)) rfl) 
      (pss_cons (ps_fld (pv 0) (pv 2) rfl) 
      (pss_cons (ps_fld (pv 0) (pe_callTy call_tuple_of (by rfl) T.m_tuple (by decide +kernel) (pa_cons (pe_lc (own := [("pair", 6)]) (g := gName 6) rfl sc_Query___init__.nd (pi_list (pv 3)) (blkOk_by (own := [("pair", 6)]) (N := ["self", "vector", "near", "words", "text", "most", "pair"]) (sc := defScope s_Query___init__) (by decide +kernel)) (fun _ _ _ _ _ => (pg_name (i := 6) sc_Query___init__.nd rfl (Or.inl rfl))) (fun _ _ _ _ _ => pts_nil) (fun _ _ _ _ _ => (pe_callTy (r := rTupleB K) (by exact call_tuple_of) (by rfl) T.m_tuple (by decide +kernel) (pa_cons (pv 6) pa_nil)))) pa_nil)) rfl) 
      (pss_cons (ps_fld (pv 0) (pv 4) rfl) 
      (pss_one (ps_fld (pv 0) (pv 5) rfl)))))), ?_⟩
    have P : Pt [p] Z0 H muN Z0 H () := ⟨Step.refl sz, trivial, fun _ h => (nomatch h)⟩
    generalize hF : F_Query___init__ x_vector x_near x_words x_text x_most = y at q
    unfold F_Query___init__ at hF
    refine st_seq (st_fld (x := x_vector) (τ := (yTup K yInt)) P hself zself List.not_mem_nil (.inl List.mem_cons_self) rfl (ev_tuple_of (fun _ _ _ h => h) (ev_li (ev_var (τ := (yList yInt)) rfl h_vector))) T.cl_Query T.n_Query_vector (Nat.lt_of_le_of_lt (Nat.le_refl 0) (by decide)) (fun v_544 Z1 H1 e P1 k_545 hself1 zself1 => ?_))
    refine st_nx ?_
    replace P := P1
    replace hself := hself1
    replace zself := zself1
    replace h_words := ((yList (yP2 K yStr yInt))).mono e.z h_words
    refine st_seq (st_fld (x := x_near) (τ := yInt) P hself zself List.not_mem_nil (.inl List.mem_cons_self) rfl (ev_var (τ := yInt) rfl h_near) T.cl_Query T.n_Query_near (Nat.lt_of_le_of_lt (putF_le (Nat.le_refl 0)) (by decide)) (fun v_546 Z1 H1 e P1 k_547 hself1 zself1 => ?_))
    refine st_nx ?_
    replace P := P1
    replace hself := hself1
    replace zself := zself1
    replace h_words := ((yList (yP2 K yStr yInt))).mono e.z h_words
    replace k_545 := ((yTup K yInt)).mono e.z k_545
    refine st_seq (st_fld (x := x_words) (τ := (yTup K (yP2 K yStr yInt))) P hself zself List.not_mem_nil (.inl List.mem_cons_self) rfl (ev_tuple_of (fun _ _ _ h => h) (ev_li (ev_fz (en_cast (en_map (fun x => x) (ei_list (ev_var (τ := (yList (yP2 K yStr yInt))) rfl h_words)) (fun x_551 v_552 Z' H' zz hh rx_553 => by
          exact ⟨_, tgt_name, (wpe_s wpe_z (by decide)), (ev_tuple_id (fun _ _ _ h => h) it_p2 (ev_var (τ := (yP2 K yStr yInt)) rfl rx_553))⟩)) (List.map_id' _))))) T.cl_Query T.n_Query_words (Nat.lt_of_le_of_lt (putF_le (putF_le (Nat.le_refl 0))) (by decide)) (fun v_554 Z1 H1 e P1 k_555 hself1 zself1 => ?_))
    refine st_nx ?_
    replace P := P1
    replace hself := hself1
    replace zself := zself1
    replace k_545 := ((yTup K yInt)).mono e.z k_545
    refine st_seq (st_fld (x := x_text) (τ := yStr) P hself zself List.not_mem_nil (.inl List.mem_cons_self) rfl (ev_var (τ := yStr) rfl h_text) T.cl_Query T.n_Query_text (Nat.lt_of_le_of_lt (putF_le (putF_le (putF_le (Nat.le_refl 0)))) (by decide)) (fun v_556 Z1 H1 e P1 k_557 hself1 zself1 => ?_))
    refine st_nx ?_
    replace P := P1
    replace hself := hself1
    replace zself := zself1
    replace k_545 := ((yTup K yInt)).mono e.z k_545
    replace k_555 := ((yTup K (yP2 K yStr yInt))).mono e.z k_555
    refine st_fld (x := x_most) (τ := yInt) P hself zself List.not_mem_nil (.inl List.mem_cons_self) rfl (ev_var (τ := yInt) rfl h_most) T.cl_Query T.n_Query_most (Nat.lt_of_le_of_lt (putF_le (putF_le (putF_le (putF_le (Nat.le_refl 0))))) (by decide)) (fun v_558 Z1 H1 e P1 k_559 hself1 zself1 => ?_)
    replace P := P1
    replace hself := hself1
    replace zself := zself1
    replace k_545 := ((yTup K yInt)).mono e.z k_545
    replace k_555 := ((yTup K (yP2 K yStr yInt))).mono e.z k_555
    subst hF
    exact q _ _ _ P.st hself ⟨p, dx, v_544, v_546, v_554, v_556, v_558, rfl, upd_same, ((yTup K yInt)).mono (same_upd zself) k_545, k_547, ((yTup K (yP2 K yStr yInt))).mono (same_upd zself) k_555, k_557, k_559⟩
theorem is_Query___init__ (T : Txt w K mg) {μ : Type} {M : Mu μ} {s : μ} {E : XK} {x_vector : (List Int)} {x_near : Int} {x_words : (List (Str × Int))} {x_text : Str} {x_most : Int} : InitS M T.c_Query (sp_Query___init__ T) E (rac (ty (yList yInt) x_vector) (rac (ty yInt x_near) (rac (ty (yList (yP2 K yStr yInt)) x_words) (rac (ty yStr x_text) (rac (ty yInt x_most) ra0))))) s (ty (y_Query T) (F_Query___init__ x_vector x_near x_words x_text x_most)) s := by
  rintro Z H vs x dx sz m ⟨v_vector, _, rfl, h_vector, ⟨v_near, _, rfl, h_near, ⟨v_words, _, rfl, h_words, ⟨v_text, _, rfl, h_text, ⟨v_most, _, rfl, h_most, rfl⟩⟩⟩⟩⟩ hx zx nx Q q
  exact ⟨x, dx, Z, v_vector, v_near, v_words, v_text, v_most, x_vector, x_near, x_words, x_text, x_most, rfl, sz, hx, zx, h_vector, h_near, h_words, h_text, h_most, fun Z2 H2 o st ho hr => q Z2 H2 o (st.weak fun a h => by rw [List.mem_singleton] at h; rw [h]; exact .inl List.mem_cons_self) (Mu.away st nx m) ho hr⟩
def sp_Record___init__ (T : Txt w K mg) : Sp := fun vs H Q _ => ∃ (p dx : Addr) (Z0 : Hp) (v_name : V) (v_vector : V) (v_fields : V) (v_words : V) (x_name : Str) (x_vector : (List Int)) (x_fields : (List (Str × Val))) (x_words : (List (Str × Int))), vs = [.ref p, v_name, v_vector, v_fields, v_words] ∧ (Same Z0 H) ∧ (H p = some (.ins T.c_Record dx [])) ∧ (Z0 p = none) ∧ ((yStr).r Z0 v_name x_name) ∧ (((yList yInt)).r Z0 v_vector x_vector) ∧ (((yList (yP2 K yStr (y_Val T)))).r Z0 v_fields x_fields) ∧ (((yList (yP2 K yStr yInt))).r Z0 v_words x_words) ∧ ∀ Z' H' o, Step [p] Z0 H Z' H' → H' p = some o → (y_Record T).r (upd Z' p o) (.ref p) (F_Record___init__ x_name x_vector x_fields x_words) → Q .non H'
set_option maxHeartbeats 4000000 in
theorem ok_Record___init__ (T : Txt w K mg) : FnOk P w K mg base CX0 1 T.f_Record___init__ T.d_Record___init__ ["self", "name", "vector", "fields", "words"] (sp_Record___init__ T) := by
  refine T.F_Record___init__.ok sc_Record___init__ (fun vs H Q E h => ?_) (fun cdv A outer s H vs Q E hr h => ?_)
  · obtain ⟨p, dx, Z0, v_name, v_vector, v_fields, v_words, x_name, x_vector, x_fields, x_words, rfl, _⟩ := h
    rfl
  · obtain ⟨p, dx, Z0, v_name, v_vector, v_fields, v_words, x_name, x_vector, x_fields, x_words, rfl, sz, hself, zself, h_name, h_vector, h_fields, h_words, q⟩ := h
    refine ⟨_, PSs.nox (pss_cons (ps_fld (pv 0) (pv 1) rfl) 
      (pss_cons (ps_fld (pv 0) (pe_callTy call_tuple_of (by rfl) T.m_tuple (by decide +kernel) (pa_cons (pv 2) pa_nil)) rfl) 
      (pss_cons (ps_fld (pv 0) (pe_callTy call_tuple_of (by rfl) T.m_tuple (by decide +kernel) (pa_cons (pe_lc (own := [("pair", 5)]) (g := gName 5) rfl sc_Record___init__.nd (pi_list (pv 3)) (blkOk_by (own := [("pair", 5)]) (N := ["self", "name", "vector", "fields", "words", "pair"]) (sc := defScope s_Record___init__) (by decide +kernel)) (fun _ _ _ _ _ => (pg_name (i := 5) sc_Record___init__.nd rfl (Or.inl rfl))) (fun _ _ _ _ _ => pts_nil) (fun _ _ _ _ _ => (pe_callTy (r := rTupleB K) (by exact call_tuple_of) (by rfl) T.m_tuple (by decide +kernel) (pa_cons (pv 5) pa_nil)))) pa_nil)) rfl) 
      (pss_one (ps_fld (pv 0) (pe_callTy call_tuple_of (by rfl) T.m_tuple (by decide +kernel) (pa_cons (pe_lc (own := [("pair", 5)]) (g := gName 5) rfl sc_Record___init__.nd (pi_list (pv 4)) (blkOk_by (own := [("pair", 5)]) (N := ["self", "name", "vector", "fields", "words", "pair"]) (sc := defScope s_Record___init__) (by decide +kernel)) (fun _ _ _ _ _ => (pg_name (i := 5) sc_Record___init__.nd rfl (Or.inl rfl))) (fun _ _ _ _ _ => pts_nil) (fun _ _ _ _ _ => (pe_callTy (r := rTupleB K) (by exact call_tuple_of) (by rfl) T.m_tuple (by decide +kernel) (pa_cons (pv 5) pa_nil)))) pa_nil)) rfl))))), ?_⟩
    have P : Pt [p] Z0 H muN Z0 H () := ⟨Step.refl sz, trivial, fun _ h => (nomatch h)⟩
    generalize hF : F_Record___init__ x_name x_vector x_fields x_words = y at q
    unfold F_Record___init__ at hF
    refine st_seq (st_fld (x := x_name) (τ := yStr) P hself zself List.not_mem_nil (.inl List.mem_cons_self) rfl (ev_var (τ := yStr) rfl h_name) T.cl_Record T.n_Record_name (Nat.lt_of_le_of_lt (Nat.le_refl 0) (by decide)) (fun v_560 Z1 H1 e P1 k_561 hself1 zself1 => ?_))
    refine st_nx ?_
    replace P := P1
    replace hself := hself1
    replace zself := zself1
    replace h_vector := ((yList yInt)).mono e.z h_vector
    replace h_fields := ((yList (yP2 K yStr (y_Val T)))).mono e.z h_fields
    replace h_words := ((yList (yP2 K yStr yInt))).mono e.z h_words
    refine st_seq (st_fld (x := x_vector) (τ := (yTup K yInt)) P hself zself List.not_mem_nil (.inl List.mem_cons_self) rfl (ev_tuple_of (fun _ _ _ h => h) (ev_li (ev_var (τ := (yList yInt)) rfl h_vector))) T.cl_Record T.n_Record_vector (Nat.lt_of_le_of_lt (putF_le (Nat.le_refl 0)) (by decide)) (fun v_562 Z1 H1 e P1 k_563 hself1 zself1 => ?_))
    refine st_nx ?_
    replace P := P1
    replace hself := hself1
    replace zself := zself1
    replace h_fields := ((yList (yP2 K yStr (y_Val T)))).mono e.z h_fields
    replace h_words := ((yList (yP2 K yStr yInt))).mono e.z h_words
    refine st_seq (st_fld (x := x_fields) (τ := (yTup K (yP2 K yStr (y_Val T)))) P hself zself List.not_mem_nil (.inl List.mem_cons_self) rfl (ev_tuple_of (fun _ _ _ h => h) (ev_li (ev_fz (en_cast (en_map (fun x => x) (ei_list (ev_var (τ := (yList (yP2 K yStr (y_Val T)))) rfl h_fields)) (fun x_567 v_568 Z' H' zz hh rx_569 => by
          exact ⟨_, tgt_name, (wpe_s wpe_z (by decide)), (ev_tuple_id (fun _ _ _ h => h) it_p2 (ev_var (τ := (yP2 K yStr (y_Val T))) rfl rx_569))⟩)) (List.map_id' _))))) T.cl_Record T.n_Record_fields (Nat.lt_of_le_of_lt (putF_le (putF_le (Nat.le_refl 0))) (by decide)) (fun v_570 Z1 H1 e P1 k_571 hself1 zself1 => ?_))
    refine st_nx ?_
    replace P := P1
    replace hself := hself1
    replace zself := zself1
    replace h_words := ((yList (yP2 K yStr yInt))).mono e.z h_words
    replace k_563 := ((yTup K yInt)).mono e.z k_563
    refine st_fld (x := x_words) (τ := (yTup K (yP2 K yStr yInt))) P hself zself List.not_mem_nil (.inl List.mem_cons_self) rfl (ev_tuple_of (fun _ _ _ h => h) (ev_li (ev_fz (en_cast (en_map (fun x => x) (ei_list (ev_var (τ := (yList (yP2 K yStr yInt))) rfl h_words)) (fun x_575 v_576 Z' H' zz hh rx_577 => by
          exact ⟨_, tgt_name, (wpe_s wpe_z (by decide)), (ev_tuple_id (fun _ _ _ h => h) it_p2 (ev_var (τ := (yP2 K yStr yInt)) rfl rx_577))⟩)) (List.map_id' _))))) T.cl_Record T.n_Record_words (Nat.lt_of_le_of_lt (putF_le (putF_le (putF_le (Nat.le_refl 0)))) (by decide)) (fun v_578 Z1 H1 e P1 k_579 hself1 zself1 => ?_)
    replace P := P1
    replace hself := hself1
    replace zself := zself1
    replace k_563 := ((yTup K yInt)).mono e.z k_563
    replace k_571 := ((yTup K (yP2 K yStr (y_Val T)))).mono e.z k_571
    subst hF
    exact q _ _ _ P.st hself ⟨p, dx, v_560, v_562, v_570, v_578, rfl, upd_same, k_561, ((yTup K yInt)).mono (same_upd zself) k_563, ((yTup K (yP2 K yStr (y_Val T)))).mono (same_upd zself) k_571, ((yTup K (yP2 K yStr yInt))).mono (same_upd zself) k_579⟩
theorem is_Record___init__ (T : Txt w K mg) {μ : Type} {M : Mu μ} {s : μ} {E : XK} {x_name : Str} {x_vector : (List Int)} {x_fields : (List (Str × Val))} {x_words : (List (Str × Int))} : InitS M T.c_Record (sp_Record___init__ T) E (rac (ty yStr x_name) (rac (ty (yList yInt) x_vector) (rac (ty (yList (yP2 K yStr (y_Val T))) x_fields) (rac (ty (yList (yP2 K yStr yInt)) x_words) ra0)))) s (ty (y_Record T) (F_Record___init__ x_name x_vector x_fields x_words)) s := by
  rintro Z H vs x dx sz m ⟨v_name, _, rfl, h_name, ⟨v_vector, _, rfl, h_vector, ⟨v_fields, _, rfl, h_fields, ⟨v_words, _, rfl, h_words, rfl⟩⟩⟩⟩ hx zx nx Q q
  exact ⟨x, dx, Z, v_name, v_vector, v_fields, v_words, x_name, x_vector, x_fields, x_words, rfl, sz, hx, zx, h_name, h_vector, h_fields, h_words, fun Z2 H2 o st ho hr => q Z2 H2 o (st.weak fun a h => by rw [List.mem_singleton] at h; rw [h]; exact .inl List.mem_cons_self) (Mu.away st nx m) ho hr⟩
def sp_FilterReader_single (T : Txt w K mg) : Sp := fun vs H Q _ => ∃ (p_self : Addr) (Z0 : Hp) (ds : FilterReader) (y : (Every × FilterReader)), vs = [.ref p_self] ∧ (Same Z0 H) ∧ ((mu_FilterReader T p_self).m ds Z0 H) ∧ (F_FilterReader_single ds = some y) ∧ ∀ v Z' H', Step (mu_FilterReader T p_self).fp Z0 H Z' H' → (mu_FilterReader T p_self).m y.2 Z' H' → ((y_Every T)).r Z' v y.1 → Q v H'
set_option maxHeartbeats 4000000 in
theorem ok_FilterReader_single (T : Txt w K mg) : FnOk P w K mg base CX0 4 T.f_FilterReader_single T.d_FilterReader_single ["self"] (sp_FilterReader_single T) := by
  have G_FilterReader_skips : FnOk P w K mg base CX0 3 T.f_FilterReader_skips T.d_FilterReader_skips ["self", "kind", "value"] (sp_FilterReader_skips T) := ok_FilterReader_skips T
  have G_FilterReader_sees : FnOk P w K mg base CX0 2 T.f_FilterReader_sees T.d_FilterReader_sees ["self", "kind", "value"] (sp_FilterReader_sees T) := ok_FilterReader_sees T
  refine T.F_FilterReader_single.ok sc_FilterReader_single (fun vs H Q E h => ?_) (fun cdv A outer s H vs Q E hr h => ?_)
  · obtain ⟨p_self, Z0, ds, y, rfl, _⟩ := h
    rfl
  · obtain ⟨p_self, Z0, ds, y, rfl, sz, hm, hF, q⟩ := h
    refine ⟨_, (pss_cons (ps_if (pt_val (pe_meth (pv 0) T.cl_FilterReader T.me_FilterReader_sees G_FilterReader_sees (hr.mono (by decide)) T.b_FilterReader_sees .nil pass0 (pa_cons pe_str (pa_cons pe_str pa_nil)))) (pss_one ps_dead) pss_nil) 
      (pss_cons (ps_if (pt_val (pe_meth (pv 0) T.cl_FilterReader T.me_FilterReader_sees G_FilterReader_sees (hr.mono (by decide)) T.b_FilterReader_sees .nil pass0 (pa_cons pe_str (pa_cons pe_str pa_nil)))) (pss_one ps_dead) pss_nil) 
      (pss_cons (ps_if (pt_val (pe_meth (pv 0) T.cl_FilterReader T.me_FilterReader_skips G_FilterReader_skips (hr.mono (by decide)) T.b_FilterReader_skips .nil pass0 (pa_cons pe_str (pa_cons pe_str pa_nil)))) (pss_one (ps_ret (pe_bare T.mb_Every (by rfl) T.mc_Every))) pss_nil) 
      (pss_cons (ps_if (pt_val (pe_meth (pv 0) T.cl_FilterReader T.me_FilterReader_skips G_FilterReader_skips (hr.mono (by decide)) T.b_FilterReader_skips .nil pass0 (pa_cons pe_str (pa_cons pe_str pa_nil)))) (pss_one ps_dead) pss_nil) 
      (pss_one ps_dead))))), ?_⟩
    have P := Pt.start (mu_FilterReader T p_self) sz hm
    unfold F_FilterReader_single at hF
    obtain ⟨r_583, h_584, hF⟩ := bind_inv hF
    refine st_seq (st_if P (et_val (ev_mmeth (fun _ _ m => m) (mo_FilterReader T (by decide +kernel)) (cs_FilterReader_sees T h_584) (ev_ref rfl) (eva_cons ev_str (eva_cons ev_str eva_nil)))) (fun b_585 Z1 H1 e P1 => ?_) (fun b_585 Z1 H1 e P1 => ?_))
    · replace P := P1
      have hB := ifT b_585 hF
      replace hF := hB
      clear hB
      cases hF
    · replace P := P1
      have hB := ifF b_585 hF
      replace hF := hB
      clear hB
      refine st_next0 ?_
      obtain ⟨r_586, h_587, hF⟩ := bind_inv hF
      refine st_seq (st_if P (et_val (ev_mmeth (fun _ _ m => m) (mo_FilterReader T (by decide +kernel)) (cs_FilterReader_sees T h_587) (ev_ref rfl) (eva_cons ev_str (eva_cons ev_str eva_nil)))) (fun b_588 Z1 H1 e P1 => ?_) (fun b_588 Z1 H1 e P1 => ?_))
      · replace P := P1
        have hB := ifT b_588 hF
        replace hF := hB
        clear hB
        cases hF
      · replace P := P1
        have hB := ifF b_588 hF
        replace hF := hB
        clear hB
        refine st_next0 ?_
        obtain ⟨r_589, h_590, hF⟩ := bind_inv hF
        refine st_seq (st_if P (et_val (ev_mmeth (fun _ _ m => m) (mo_FilterReader T (by decide +kernel)) (cs_FilterReader_skips T h_590) (ev_ref rfl) (eva_cons ev_str (eva_cons ev_str eva_nil)))) (fun b_591 Z1 H1 e P1 => ?_) (fun b_591 Z1 H1 e P1 => ?_))
        · replace P := P1
          have hB := ifT b_591 hF
          replace hF := hB
          clear hB
          replace hF := Option.some.inj hF
          subst hF
          refine st_ret P (ev_bare (τ := y_Every T) (x := (⟨⟩ : Every)) (fun Z p dx h => ⟨p, dx, rfl, h, rfl⟩)) (fun v Z1 H1 P1 hv => ?_)
          exact q v _ _ P1.st P1.m hv
        · replace P := P1
          have hB := ifF b_591 hF
          replace hF := hB
          clear hB
          refine st_next0 ?_
          obtain ⟨r_592, h_593, hF⟩ := bind_inv hF
          refine st_seq (st_if P (et_val (ev_mmeth (fun _ _ m => m) (mo_FilterReader T (by decide +kernel)) (cs_FilterReader_skips T h_593) (ev_ref rfl) (eva_cons ev_str (eva_cons ev_str eva_nil)))) (fun b_594 Z1 H1 e P1 => ?_) (fun b_594 Z1 H1 e P1 => ?_))
          · replace P := P1
            have hB := ifT b_594 hF
            replace hF := hB
            clear hB
            cases hF
          · replace P := P1
            have hB := ifF b_594 hF
            replace hF := hB
            clear hB
            refine st_next0 ?_
            cases hF
theorem cs_FilterReader_single (T : Txt w K mg) {p_self : Addr} {ds : FilterReader} {E : XK}  {y : Every × FilterReader} (h : F_FilterReader_single ds = some y) : CallS (mu_FilterReader T p_self) (sp_FilterReader_single T) E (rac (isRef p_self) ra0) ds (ty (y_Every T) y.1) y.2 := by
  rintro Z H vs sz m ⟨_, _, rfl, rfl, rfl⟩ Q q
  exact ⟨p_self, Z, ds, y, rfl, sz, m, h, fun v Z2 H2 s2 m2 hv => q v Z2 H2 s2 m2 hv⟩
theorem cu_FilterReader_single (T : Txt w K mg) {p_self : Addr} {ds : FilterReader} {E : XK}  {y : Every × FilterReader} {μ : Type} {M : Mu μ} {s s2 : μ} (hm : ∀ Z H, M.m s Z H → (mu_FilterReader T p_self).m ds Z H) (hf : ∀ a ∈ (mu_FilterReader T p_self).fp, a ∈ M.fp) (hp : ∀ Z H Z' H', M.m s Z H → Step (mu_FilterReader T p_self).fp Z H Z' H' → (mu_FilterReader T p_self).m y.2 Z' H' → M.m s2 Z' H') (h : F_FilterReader_single ds = some y) : CallS M (sp_FilterReader_single T) E (rac (isRef p_self) ra0) s (ty (y_Every T) y.1) s2 := by
  rintro Z H vs sz m ⟨_, _, rfl, rfl, rfl⟩ Q q
  exact ⟨p_self, Z, ds, y, rfl, sz, hm _ _ m, h, fun v Z2 H2 st2 m2 hv => q v Z2 H2 (st2.weak fun a h => .inl (hf a h)) (hp _ _ _ _ m st2 m2) hv⟩
def sp_FilterReader_all_of (T : Txt w K mg) : Sp := fun vs H Q _ => ∃ (p_self : Addr) (Z0 : Hp) (ds : FilterReader) (y : (Every × FilterReader)), vs = [.ref p_self] ∧ (Same Z0 H) ∧ ((mu_FilterReader T p_self).m ds Z0 H) ∧ (F_FilterReader_all_of ds = some y) ∧ ∀ v Z' H', Step (mu_FilterReader T p_self).fp Z0 H Z' H' → (mu_FilterReader T p_self).m y.2 Z' H' → ((y_Every T)).r Z' v y.1 → Q v H'
set_option maxHeartbeats 4000000 in
theorem ok_FilterReader_all_of (T : Txt w K mg) : FnOk P w K mg base CX0 5 T.f_FilterReader_all_of T.d_FilterReader_all_of ["self"] (sp_FilterReader_all_of T) := by
  have G_FilterReader_skips : FnOk P w K mg base CX0 3 T.f_FilterReader_skips T.d_FilterReader_skips ["self", "kind", "value"] (sp_FilterReader_skips T) := ok_FilterReader_skips T
  have G_FilterReader_single : FnOk P w K mg base CX0 4 T.f_FilterReader_single T.d_FilterReader_single ["self"] (sp_FilterReader_single T) := ok_FilterReader_single T
  refine T.F_FilterReader_all_of.ok sc_FilterReader_all_of (fun vs H Q E h => ?_) (fun cdv A outer s H vs Q E hr h => ?_)
  · obtain ⟨p_self, Z0, ds, y, rfl, _⟩ := h
    rfl
  · obtain ⟨p_self, Z0, ds, y, rfl, sz, hm, hF, q⟩ := h
    refine ⟨_, (pss_cons (ps_set (i := 1) sc_FilterReader_all_of.nd rfl (.inl rfl) (pe_meth0 (pv 0) T.cl_FilterReader T.me_FilterReader_single G_FilterReader_single (hr.mono (by decide)) T.b_FilterReader_single .nil pass0)) 
      (pss_cons (ps_while PassesOwn.never (pt_val (pe_meth (pv 0) T.cl_FilterReader T.me_FilterReader_skips G_FilterReader_skips (hr.mono (by decide)) T.b_FilterReader_skips .nil pass0 (pa_cons pe_str (pa_cons pe_str pa_nil)))) (pss_one ps_dead)) 
      (pss_one (ps_ret (pv 1))))), ?_⟩
    have P := Pt.start (mu_FilterReader T p_self) sz hm
    unfold F_FilterReader_all_of at hF
    obtain ⟨r_599, h_600, hF⟩ := bind_inv hF
    refine st_seq (st_set P (ev_mmeth (fun _ _ m => m) (mo_FilterReader T (by decide +kernel)) (cs_FilterReader_single T h_600) (ev_ref rfl) eva_nil) (fun v_601 Z1 H1 e P1 k_602 => ?_))
    refine st_nx ?_
    replace P := P1
    obtain ⟨f_608, hL_617, hF⟩ := bind_inv hF
    refine st_seq (st_while (fun n σ' Z' H' => ∃ w_603, ∃ (v_606 : V), σ' = [some (.ref p_self), some v_606] ∧ Pt (mu_FilterReader T p_self).fp Z0 H (mu_FilterReader T p_self) Z' H' w_603.2 ∧ ((y_Every T)).r Z' v_606 w_603.1 ∧ whileS L_FilterReader_all_of_1 n w_603 = some f_608) (2) P ?_ ?_)
    · exact ⟨(r_599.1, r_599.2), _, rfl, P, k_602, hL_617⟩
    rintro n σ' Z1 H1 ⟨w_603, v_606, rfl, P, k_607, hq_605⟩
    obtain ⟨k, rfl, hq_605⟩ := whileS_cons hq_605
    obtain ⟨u_609, hB_604, hq_605⟩ := bind_inv hq_605
    unfold L_FilterReader_all_of_1 at hB_604
    obtain ⟨r_610, h_611, hB_604⟩ := bind_inv hB_604
    refine ⟨k, _, _, _, rfl, P, (et_val (ev_mmeth (fun _ _ m => m) (mo_FilterReader T (by decide +kernel)) (cs_FilterReader_skips T h_611) (ev_ref rfl) (eva_cons ev_str (eva_cons ev_str eva_nil)))), fun b_612 Z1 H1 e P1 => ?_, fun b_612 Z1 H1 e P1 => ?_⟩
    · replace P := P1
      replace hB_604 := ifT b_612 hB_604
      replace k_607 := ((y_Every T)).mono e.z k_607
      cases hB_604
    · replace P := P1
      replace hB_604 := ifF b_612 hB_604
      replace k_607 := ((y_Every T)).mono e.z k_607
      replace hB_604 := Option.some.inj hB_604
      subst hB_604
      have hz := nxt_brk hq_605
      subst hz
      replace hF := go_inv hF
      obtain ⟨w_613, h_614⟩ : ∃ z, z = (w_603.1, r_610.2) := ⟨_, rfl⟩
      rw [← h_614] at hF
      have h_615 : r_610.2 = w_613.2 := by rw [h_614]
      rw [h_615] at P
      have h_616 : w_603.1 = w_613.1 := by rw [h_614]
      rw [h_616] at k_607
      refine st_nx ?_
      replace hF := Option.some.inj hF
      subst hF
      refine st_ret P (ev_var (τ := (y_Every T)) rfl k_607) (fun v Z1 H1 P1 hv => ?_)
      exact q v _ _ P1.st P1.m hv
theorem cs_FilterReader_all_of (T : Txt w K mg) {p_self : Addr} {ds : FilterReader} {E : XK}  {y : Every × FilterReader} (h : F_FilterReader_all_of ds = some y) : CallS (mu_FilterReader T p_self) (sp_FilterReader_all_of T) E (rac (isRef p_self) ra0) ds (ty (y_Every T) y.1) y.2 := by
  rintro Z H vs sz m ⟨_, _, rfl, rfl, rfl⟩ Q q
  exact ⟨p_self, Z, ds, y, rfl, sz, m, h, fun v Z2 H2 s2 m2 hv => q v Z2 H2 s2 m2 hv⟩
theorem cu_FilterReader_all_of (T : Txt w K mg) {p_self : Addr} {ds : FilterReader} {E : XK}  {y : Every × FilterReader} {μ : Type} {M : Mu μ} {s s2 : μ} (hm : ∀ Z H, M.m s Z H → (mu_FilterReader T p_self).m ds Z H) (hf : ∀ a ∈ (mu_FilterReader T p_self).fp, a ∈ M.fp) (hp : ∀ Z H Z' H', M.m s Z H → Step (mu_FilterReader T p_self).fp Z H Z' H' → (mu_FilterReader T p_self).m y.2 Z' H' → M.m s2 Z' H') (h : F_FilterReader_all_of ds = some y) : CallS M (sp_FilterReader_all_of T) E (rac (isRef p_self) ra0) s (ty (y_Every T) y.1) s2 := by
  rintro Z H vs sz m ⟨_, _, rfl, rfl, rfl⟩ Q q
  exact ⟨p_self, Z, ds, y, rfl, sz, hm _ _ m, h, fun v Z2 H2 st2 m2 hv => q v Z2 H2 (st2.weak fun a h => .inl (hf a h)) (hp _ _ _ _ m st2 m2) hv⟩
def sp_FilterReader_any_of (T : Txt w K mg) : Sp := fun vs H Q _ => ∃ (p_self : Addr) (Z0 : Hp) (ds : FilterReader) (y : (Every × FilterReader)), vs = [.ref p_self] ∧ (Same Z0 H) ∧ ((mu_FilterReader T p_self).m ds Z0 H) ∧ (F_FilterReader_any_of ds = some y) ∧ ∀ v Z' H', Step (mu_FilterReader T p_self).fp Z0 H Z' H' → (mu_FilterReader T p_self).m y.2 Z' H' → ((y_Every T)).r Z' v y.1 → Q v H'
set_option maxHeartbeats 4000000 in
theorem ok_FilterReader_any_of (T : Txt w K mg) : FnOk P w K mg base CX0 6 T.f_FilterReader_any_of T.d_FilterReader_any_of ["self"] (sp_FilterReader_any_of T) := by
  have G_FilterReader_skips : FnOk P w K mg base CX0 3 T.f_FilterReader_skips T.d_FilterReader_skips ["self", "kind", "value"] (sp_FilterReader_skips T) := ok_FilterReader_skips T
  have G_FilterReader_all_of : FnOk P w K mg base CX0 5 T.f_FilterReader_all_of T.d_FilterReader_all_of ["self"] (sp_FilterReader_all_of T) := ok_FilterReader_all_of T
  refine T.F_FilterReader_any_of.ok sc_FilterReader_any_of (fun vs H Q E h => ?_) (fun cdv A outer s H vs Q E hr h => ?_)
  · obtain ⟨p_self, Z0, ds, y, rfl, _⟩ := h
    rfl
  · obtain ⟨p_self, Z0, ds, y, rfl, sz, hm, hF, q⟩ := h
    refine ⟨_, (pss_cons (ps_set (i := 1) sc_FilterReader_any_of.nd rfl (.inl rfl) (pe_meth0 (pv 0) T.cl_FilterReader T.me_FilterReader_all_of G_FilterReader_all_of (hr.mono (by decide)) T.b_FilterReader_all_of .nil pass0)) 
      (pss_cons (ps_while PassesOwn.never (pt_val (pe_meth (pv 0) T.cl_FilterReader T.me_FilterReader_skips G_FilterReader_skips (hr.mono (by decide)) T.b_FilterReader_skips .nil pass0 (pa_cons pe_str (pa_cons pe_str pa_nil)))) (pss_one ps_dead)) 
      (pss_one (ps_ret (pv 1))))), ?_⟩
    have P := Pt.start (mu_FilterReader T p_self) sz hm
    unfold F_FilterReader_any_of at hF
    obtain ⟨r_622, h_623, hF⟩ := bind_inv hF
    refine st_seq (st_set P (ev_mmeth (fun _ _ m => m) (mo_FilterReader T (by decide +kernel)) (cs_FilterReader_all_of T h_623) (ev_ref rfl) eva_nil) (fun v_624 Z1 H1 e P1 k_625 => ?_))
    refine st_nx ?_
    replace P := P1
    obtain ⟨f_631, hL_640, hF⟩ := bind_inv hF
    refine st_seq (st_while (fun n σ' Z' H' => ∃ w_626, ∃ (v_629 : V), σ' = [some (.ref p_self), some v_629] ∧ Pt (mu_FilterReader T p_self).fp Z0 H (mu_FilterReader T p_self) Z' H' w_626.2 ∧ ((y_Every T)).r Z' v_629 w_626.1 ∧ whileS L_FilterReader_any_of_1 n w_626 = some f_631) (2) P ?_ ?_)
    · exact ⟨(r_622.1, r_622.2), _, rfl, P, k_625, hL_640⟩
    rintro n σ' Z1 H1 ⟨w_626, v_629, rfl, P, k_630, hq_628⟩
    obtain ⟨k, rfl, hq_628⟩ := whileS_cons hq_628
    obtain ⟨u_632, hB_627, hq_628⟩ := bind_inv hq_628
    unfold L_FilterReader_any_of_1 at hB_627
    obtain ⟨r_633, h_634, hB_627⟩ := bind_inv hB_627
    refine ⟨k, _, _, _, rfl, P, (et_val (ev_mmeth (fun _ _ m => m) (mo_FilterReader T (by decide +kernel)) (cs_FilterReader_skips T h_634) (ev_ref rfl) (eva_cons ev_str (eva_cons ev_str eva_nil)))), fun b_635 Z1 H1 e P1 => ?_, fun b_635 Z1 H1 e P1 => ?_⟩
    · replace P := P1
      replace hB_627 := ifT b_635 hB_627
      replace k_630 := ((y_Every T)).mono e.z k_630
      cases hB_627
    · replace P := P1
      replace hB_627 := ifF b_635 hB_627
      replace k_630 := ((y_Every T)).mono e.z k_630
      replace hB_627 := Option.some.inj hB_627
      subst hB_627
      have hz := nxt_brk hq_628
      subst hz
      replace hF := go_inv hF
      obtain ⟨w_636, h_637⟩ : ∃ z, z = (w_626.1, r_633.2) := ⟨_, rfl⟩
      rw [← h_637] at hF
      have h_638 : r_633.2 = w_636.2 := by rw [h_637]
      rw [h_638] at P
      have h_639 : w_626.1 = w_636.1 := by rw [h_637]
      rw [h_639] at k_630
      refine st_nx ?_
      replace hF := Option.some.inj hF
      subst hF
      refine st_ret P (ev_var (τ := (y_Every T)) rfl k_630) (fun v Z1 H1 P1 hv => ?_)
      exact q v _ _ P1.st P1.m hv
theorem cs_FilterReader_any_of (T : Txt w K mg) {p_self : Addr} {ds : FilterReader} {E : XK}  {y : Every × FilterReader} (h : F_FilterReader_any_of ds = some y) : CallS (mu_FilterReader T p_self) (sp_FilterReader_any_of T) E (rac (isRef p_self) ra0) ds (ty (y_Every T) y.1) y.2 := by
  rintro Z H vs sz m ⟨_, _, rfl, rfl, rfl⟩ Q q
  exact ⟨p_self, Z, ds, y, rfl, sz, m, h, fun v Z2 H2 s2 m2 hv => q v Z2 H2 s2 m2 hv⟩
theorem cu_FilterReader_any_of (T : Txt w K mg) {p_self : Addr} {ds : FilterReader} {E : XK}  {y : Every × FilterReader} {μ : Type} {M : Mu μ} {s s2 : μ} (hm : ∀ Z H, M.m s Z H → (mu_FilterReader T p_self).m ds Z H) (hf : ∀ a ∈ (mu_FilterReader T p_self).fp, a ∈ M.fp) (hp : ∀ Z H Z' H', M.m s Z H → Step (mu_FilterReader T p_self).fp Z H Z' H' → (mu_FilterReader T p_self).m y.2 Z' H' → M.m s2 Z' H') (h : F_FilterReader_any_of ds = some y) : CallS M (sp_FilterReader_any_of T) E (rac (isRef p_self) ra0) s (ty (y_Every T) y.1) s2 := by
  rintro Z H vs sz m ⟨_, _, rfl, rfl, rfl⟩ Q q
  exact ⟨p_self, Z, ds, y, rfl, sz, hm _ _ m, h, fun v Z2 H2 st2 m2 hv => q v Z2 H2 (st2.weak fun a h => .inl (hf a h)) (hp _ _ _ _ m st2 m2) hv⟩
def sp_FilterReader_whole (T : Txt w K mg) : Sp := fun vs H Q _ => ∃ (p_self : Addr) (Z0 : Hp) (ds : FilterReader) (y : (Every × FilterReader)), vs = [.ref p_self] ∧ (Same Z0 H) ∧ ((mu_FilterReader T p_self).m ds Z0 H) ∧ (F_FilterReader_whole ds = some y) ∧ ∀ v Z' H', Step (mu_FilterReader T p_self).fp Z0 H Z' H' → (mu_FilterReader T p_self).m y.2 Z' H' → ((y_Every T)).r Z' v y.1 → Q v H'
set_option maxHeartbeats 4000000 in
theorem ok_FilterReader_whole (T : Txt w K mg) : FnOk P w K mg base CX0 7 T.f_FilterReader_whole T.d_FilterReader_whole ["self"] (sp_FilterReader_whole T) := by
  have G_FilterReader_any_of : FnOk P w K mg base CX0 6 T.f_FilterReader_any_of T.d_FilterReader_any_of ["self"] (sp_FilterReader_any_of T) := ok_FilterReader_any_of T
  refine T.F_FilterReader_whole.ok sc_FilterReader_whole (fun vs H Q E h => ?_) (fun cdv A outer s H vs Q E hr h => ?_)
  · obtain ⟨p_self, Z0, ds, y, rfl, _⟩ := h
    rfl
  · obtain ⟨p_self, Z0, ds, y, rfl, sz, hm, hF, q⟩ := h
    refine ⟨_, (pss_cons (ps_set (i := 1) sc_FilterReader_whole.nd rfl (.inl rfl) (pe_meth0 (pv 0) T.cl_FilterReader T.me_FilterReader_any_of G_FilterReader_any_of (hr.mono (by decide)) T.b_FilterReader_any_of .nil pass0)) 
      (pss_cons (ps_if (pt_cmpR op_lt (pe_fld (pv 0) rfl) (pe_callB call_len_seq (by rfl) T.m_len PySem.boot_len (pa_cons (pe_fld (pv 0) rfl) pa_nil)) (nomark _)) (pss_one ps_dead) pss_nil) 
      (pss_one (ps_ret (pv 1))))), ?_⟩
    have P := Pt.start (mu_FilterReader T p_self) sz hm
    unfold F_FilterReader_whole at hF
    obtain ⟨r_646, h_647, hF⟩ := bind_inv hF
    refine st_seq (st_set P (ev_mmeth (fun _ _ m => m) (mo_FilterReader T (by decide +kernel)) (cs_FilterReader_any_of T h_647) (ev_ref rfl) eva_nil) (fun v_648 Z1 H1 e P1 k_649 => ?_))
    refine st_nx ?_
    replace P := P1
    refine st_seq (st_if P (et_cmp (ev_lt (ev_mfld (fun _ _ m => m) (mf_FilterReader_at T) T.cl_FilterReader T.n_FilterReader_at rfl) (ev_len (fun _ _ _ h => h) (ev_li (ev_mfld (fun _ _ m => m) (mf_FilterReader_tokens T) T.cl_FilterReader T.n_FilterReader_tokens rfl))))) (fun b_650 Z1 H1 e P1 => ?_) (fun b_650 Z1 H1 e P1 => ?_))
    · replace P := P1
      have hB := ifT b_650 hF
      replace hF := hB
      clear hB
      cases hF
    · replace P := P1
      have hB := ifF b_650 hF
      replace hF := hB
      clear hB
      refine st_next0 ?_
      replace k_649 := ((y_Every T)).mono e.z k_649
      replace hF := Option.some.inj hF
      subst hF
      refine st_ret P (ev_var (τ := (y_Every T)) rfl k_649) (fun v Z1 H1 P1 hv => ?_)
      exact q v _ _ P1.st P1.m hv
theorem cs_FilterReader_whole (T : Txt w K mg) {p_self : Addr} {ds : FilterReader} {E : XK}  {y : Every × FilterReader} (h : F_FilterReader_whole ds = some y) : CallS (mu_FilterReader T p_self) (sp_FilterReader_whole T) E (rac (isRef p_self) ra0) ds (ty (y_Every T) y.1) y.2 := by
  rintro Z H vs sz m ⟨_, _, rfl, rfl, rfl⟩ Q q
  exact ⟨p_self, Z, ds, y, rfl, sz, m, h, fun v Z2 H2 s2 m2 hv => q v Z2 H2 s2 m2 hv⟩
theorem cu_FilterReader_whole (T : Txt w K mg) {p_self : Addr} {ds : FilterReader} {E : XK}  {y : Every × FilterReader} {μ : Type} {M : Mu μ} {s s2 : μ} (hm : ∀ Z H, M.m s Z H → (mu_FilterReader T p_self).m ds Z H) (hf : ∀ a ∈ (mu_FilterReader T p_self).fp, a ∈ M.fp) (hp : ∀ Z H Z' H', M.m s Z H → Step (mu_FilterReader T p_self).fp Z H Z' H' → (mu_FilterReader T p_self).m y.2 Z' H' → M.m s2 Z' H') (h : F_FilterReader_whole ds = some y) : CallS M (sp_FilterReader_whole T) E (rac (isRef p_self) ra0) s (ty (y_Every T) y.1) s2 := by
  rintro Z H vs sz m ⟨_, _, rfl, rfl, rfl⟩ Q q
  exact ⟨p_self, Z, ds, y, rfl, sz, hm _ _ m, h, fun v Z2 H2 st2 m2 hv => q v Z2 H2 (st2.weak fun a h => .inl (hf a h)) (hp _ _ _ _ m st2 m2) hv⟩
def sp_read_filter (T : Txt w K mg) : Sp := fun vs H Q _ => ∃ (Z0 : Hp) (v_schema : V) (v_text : V) (x_schema : Schema) (x_text : Str) (y : Every), vs = [v_schema, v_text] ∧ (Same Z0 H) ∧ (((y_Schema T)).r Z0 v_schema x_schema) ∧ ((yStr).r Z0 v_text x_text) ∧ (F_read_filter x_schema x_text = some y) ∧ ∀ v Z' H', Step [] Z0 H Z' H' → ((y_Every T)).r Z' v y → Q v H'
set_option maxHeartbeats 4000000 in
theorem ok_read_filter (T : Txt w K mg) : FnOk P w K mg base CX0 8 T.f_read_filter T.d_read_filter ["schema", "text"] (sp_read_filter T) := by
  have G_FilterReader_whole : FnOk P w K mg base CX0 7 T.f_FilterReader_whole T.d_FilterReader_whole ["self"] (sp_FilterReader_whole T) := ok_FilterReader_whole T
  have G_FilterReader___init__ : FnOk P w K mg base CX0 6 T.f_FilterReader___init__ T.d_FilterReader___init__ ["self", "schema", "text"] (sp_FilterReader___init__ T) := ok_FilterReader___init__ T
  refine T.F_read_filter.ok sc_read_filter (fun vs H Q E h => ?_) (fun cdv A outer s H vs Q E hr h => ?_)
  · obtain ⟨Z0, v_schema, v_text, x_schema, x_text, y, rfl, _⟩ := h
    rfl
  · obtain ⟨Z0, v_schema, v_text, x_schema, x_text, y, rfl, sz, h_schema, h_text, hF, q⟩ := h
    refine ⟨_, (pss_one (ps_ret (pe_meth0 (pe_make T.mk_FilterReader G_FilterReader___init__ (hr.mono (by decide)) (by rfl) T.mc_FilterReader T.b_FilterReader___init__ .nil pass0 (pa_cons (pv 0) (pa_cons (pv 1) pa_nil))) T.cl_FilterReader T.me_FilterReader_whole G_FilterReader_whole (hr.mono (by decide)) T.b_FilterReader_whole .nil pass0))), ?_⟩
    have P := Pt.start0 sz
    unfold F_read_filter at hF
    obtain ⟨r_655, h_656, hF⟩ := bind_inv hF
    obtain ⟨r_657, h_658, hF⟩ := bind_inv hF
    replace hF := Option.some.inj hF
    subst hF
    refine st_ret P (ev_newmeth (N := fun p => mu_FilterReader T p) (pr := fun p => p) (ev_makeM (im_FilterReader___init__ T h_656) (eva_cons (ev_var (τ := (y_Schema T)) rfl h_schema) (eva_cons (ev_var (τ := yStr) rfl h_text) eva_nil))) (fun _ => mo_FilterReader T (by decide +kernel)) (fun _ => cs_FilterReader_whole T h_658)) (fun v Z1 H1 P1 hv => ?_)
    exact q v _ _ P1.st hv
theorem cs_read_filter (T : Txt w K mg) {μ : Type} {M : Mu μ} {s : μ} {E : XK} {x_schema : Schema} {x_text : Str} {y : Every} (h : F_read_filter x_schema x_text = some y) : CallS M (sp_read_filter T) E (rac (ty (y_Schema T) x_schema) (rac (ty yStr x_text) ra0)) s (ty (y_Every T) y) s := by
  rintro Z H vs sz m ⟨v_schema, _, rfl, h_schema, ⟨v_text, _, rfl, h_text, rfl⟩⟩ Q q
  exact ⟨Z, v_schema, v_text, x_schema, x_text, y, rfl, sz, h_schema, h_text, h, fun v Z2 H2 st hv => q v Z2 H2 st.pure (M.pure st m) hv⟩
def sp_Question___init__ (T : Txt w K mg) : Sp := fun vs H Q E => ∃ (p dx : Addr) (Z0 : Hp) (v_schema : V) (v_query : V) (x_schema : Schema) (x_query : Query) (y : (Res Exc Question)), vs = [.ref p, v_schema, v_query] ∧ (Same Z0 H) ∧ (H p = some (.ins T.c_Question dx [])) ∧ (Z0 p = none) ∧ (((y_Schema T)).r Z0 v_schema x_schema) ∧ (((y_Query T)).r Z0 v_query x_query) ∧ (F_Question___init__ x_schema x_query = some y) ∧ (∀ a, y = .ok a → ∀ Z' H' o, Step [p] Z0 H Z' H' → H' p = some o → (y_Question T).r (upd Z' p o) (.ref p) a → Q .non H') ∧ (∀ c, y = .er c → ∀ Z' H', Step [p] Z0 H Z' H' → E (exv T c) none H')
set_option maxHeartbeats 4000000 in
theorem ok_Question___init__ (T : Txt w K mg) : FnOk P w K mg base (L2.CX P w) 9 T.f_Question___init__ T.d_Question___init__ ["self", "schema", "query"] (sp_Question___init__ T) := by
  have G_read_filter : FnOk P w K mg base CX0 8 T.f_read_filter T.d_read_filter ["schema", "text"] (sp_read_filter T) := ok_read_filter T
  have G_check_query : FnOk P w K mg base (L2.CX P w) 2 T.f_check_query T.d_check_query ["schema", "query"] (sp_check_query T) := ok_check_query T
  refine T.F_Question___init__.okX sc_Question___init__ (fun vs H Q E h => ?_) (fun cdv A outer s H vs Q E hr h => ?_)
  · obtain ⟨p, dx, Z0, v_schema, v_query, x_schema, x_query, y, rfl, _⟩ := h
    rfl
  · obtain ⟨p, dx, Z0, v_schema, v_query, x_schema, x_query, y, rfl, sz, hself, zself, h_schema, h_query, hF, q⟩ := h
    refine ⟨_, (pss_cons (ps_expr (pe_call G_check_query (hr.mono (by decide)) (by rfl) T.g_check_query T.F_check_query.kp T.b_check_query .nil (passes_call (takes_of rfl rfl rfl rfl) (fun _ _ _ _ h => h)) (pa_cons (pv 1) (pa_cons (pv 2) pa_nil)))) 
      (pss_cons (ps_fld (pv 0) (pv 1) rfl) 
      (pss_cons (ps_fld (pv 0) (pv 2) rfl) 
      (pss_one (ps_fld (pv 0) (pe_call G_read_filter (hr.mono (by decide)) (by rfl) T.g_read_filter T.F_read_filter.kp T.b_read_filter .nil pass0 (pa_cons (pv 1) (pa_cons (pe_fld (pv 2) rfl) pa_nil))) rfl))))), ?_⟩
    obtain ⟨q, qx⟩ := q
    have P : Pt [p] Z0 H muN Z0 H () := ⟨Step.refl sz, trivial, fun _ h => (nomatch h)⟩
    unfold F_Question___init__ at hF
    obtain ⟨p_661, h_660, hF⟩ := bind_inv hF
    rcases p_661 with r_659 | e
    rotate_left
    · replace hF := rer_inv hF
      replace hF := Option.some.inj hF
      subst hF
      refine st_seq (st_exprE P (eve_call (cx_check_query T h_660) (eva_cons (ev_var (τ := (y_Schema T)) rfl h_schema) (eva_cons (ev_var (τ := (y_Query T)) rfl h_query) eva_nil))) (fun Z1 H1 e1 P1 => ?_))
      exact qx _ rfl _ _ P1.st
    replace hF := rok_inv hF
    refine st_seq (st_expr P (ev_call (cs_check_query T h_660) (eva_cons (ev_var (τ := (y_Schema T)) rfl h_schema) (eva_cons (ev_var (τ := (y_Query T)) rfl h_query) eva_nil))) (fun Z1 H1 e P1 => ?_))
    refine st_nx ?_
    replace P := P1
    replace h_schema := ((y_Schema T)).mono e.z h_schema
    replace h_query := ((y_Query T)).mono e.z h_query
    replace zself := e.n _ (some_ne hself) zself
    replace hself := e.h _ _ List.not_mem_nil hself
    refine st_seq (st_fld (x := x_schema) (τ := (y_Schema T)) P hself zself List.not_mem_nil (.inl List.mem_cons_self) rfl (ev_var (τ := (y_Schema T)) rfl h_schema) T.cl_Question T.n_Question_schema (Nat.lt_of_le_of_lt (Nat.le_refl 0) (by decide)) (fun v_663 Z1 H1 e P1 k_664 hself1 zself1 => ?_))
    refine st_nx ?_
    replace P := P1
    replace hself := hself1
    replace zself := zself1
    replace h_schema := ((y_Schema T)).mono e.z h_schema
    replace h_query := ((y_Query T)).mono e.z h_query
    refine st_seq (st_fld (x := x_query) (τ := (y_Query T)) P hself zself List.not_mem_nil (.inl List.mem_cons_self) rfl (ev_var (τ := (y_Query T)) rfl h_query) T.cl_Question T.n_Question_query (Nat.lt_of_le_of_lt (putF_le (Nat.le_refl 0)) (by decide)) (fun v_665 Z1 H1 e P1 k_666 hself1 zself1 => ?_))
    refine st_nx ?_
    replace P := P1
    replace hself := hself1
    replace zself := zself1
    replace h_schema := ((y_Schema T)).mono e.z h_schema
    replace h_query := ((y_Query T)).mono e.z h_query
    replace k_664 := ((y_Schema T)).mono e.z k_664
    obtain ⟨r_667, h_668, hF⟩ := bind_inv hF
    refine st_fld (x := r_667) (τ := (y_Every T)) P hself zself List.not_mem_nil (.inl List.mem_cons_self) rfl (ev_call (cs_read_filter T h_668) (eva_cons (ev_var (τ := (y_Schema T)) rfl h_schema) (eva_cons (ev_fld (fo_Query_text T) T.cl_Query T.n_Query_text (ev_var (τ := (y_Query T)) rfl h_query)) eva_nil))) T.cl_Question T.n_Question_condition (Nat.lt_of_le_of_lt (putF_le (putF_le (Nat.le_refl 0))) (by decide)) (fun v_669 Z1 H1 e P1 k_670 hself1 zself1 => ?_)
    replace P := P1
    replace hself := hself1
    replace zself := zself1
    replace k_664 := ((y_Schema T)).mono e.z k_664
    replace k_666 := ((y_Query T)).mono e.z k_666
    replace hF := Option.some.inj hF
    subst hF
    exact q _ rfl _ _ _ P.st hself ⟨p, dx, v_663, v_665, v_669, rfl, upd_same, ((y_Schema T)).mono (same_upd zself) k_664, ((y_Query T)).mono (same_upd zself) k_666, ((y_Every T)).mono (same_upd zself) k_670⟩
theorem is_Question___init__ (T : Txt w K mg) {μ : Type} {M : Mu μ} {s : μ} {E : XK} {x_schema : Schema} {x_query : Query} {y : Question} (h : F_Question___init__ x_schema x_query = some (.ok y)) : InitS M T.c_Question (sp_Question___init__ T) E (rac (ty (y_Schema T) x_schema) (rac (ty (y_Query T) x_query) ra0)) s (ty (y_Question T) y) s := by
  rintro Z H vs x dx sz m ⟨v_schema, _, rfl, h_schema, ⟨v_query, _, rfl, h_query, rfl⟩⟩ hx zx nx Q q
  exact ⟨x, dx, Z, v_schema, v_query, x_schema, x_query, _, rfl, sz, hx, zx, h_schema, h_query, h, fun a e Z2 H2 o st ho hr => by cases e; exact q Z2 H2 o (st.weak fun a h => by rw [List.mem_singleton] at h; rw [h]; exact .inl List.mem_cons_self) (Mu.away st nx m) ho hr, fun _ z => nomatch z⟩
theorem ix_Question___init__ (T : Txt w K mg) {μ : Type} {M : Mu μ} {s : μ} {E : XK} {x_schema : Schema} {x_query : Query} {e : Exc} (h : F_Question___init__ x_schema x_query = some (.er e)) : InitE M T.c_Question (sp_Question___init__ T) E (rac (ty (y_Schema T) x_schema) (rac (ty (y_Query T) x_query) ra0)) s (exv T e) s := by
  rintro Z H vs x dx sz m ⟨v_schema, _, rfl, h_schema, ⟨v_query, _, rfl, h_query, rfl⟩⟩ hx zx nx Q q
  exact ⟨x, dx, Z, v_schema, v_query, x_schema, x_query, _, rfl, sz, hx, zx, h_schema, h_query, h, (fun _ z => nomatch z), fun c e Z2 H2 st => by cases e; exact q Z2 H2 (st.weak fun a h => by rw [List.mem_singleton] at h; rw [h]; exact .inl List.mem_cons_self) (Mu.away st nx m)⟩
def sp_law_name (T : Txt w K mg) : Sp := fun vs H Q _ => ∃ (st sc : Addr) (Z0 : Hp) (ds : DS) (y : (Str × DS)), vs = [.ref st] ∧ (Same Z0 H) ∧ ((muD st sc).m ds Z0 H) ∧ (F_law_name ds = some y) ∧ ∀ v Z' H', Step (muD st sc).fp Z0 H Z' H' → (muD st sc).m y.2 Z' H' → (yStr).r Z' v y.1 → Q v H'
set_option maxHeartbeats 4000000 in
theorem ok_law_name (T : Txt w K mg) : FnOk P w K mg base CX0 3 T.f_law_name T.d_law_name ["state"] (sp_law_name T) := by
  have G_law_next : FnOk P w K mg base CX0 2 T.f_law_next T.d_law_next ["state", "many"] (sp_law_next T) := ok_law_next T
  refine T.F_law_name.ok sc_law_name (fun vs H Q E h => ?_) (fun cdv A outer s H vs Q E hr h => ?_)
  · obtain ⟨st, sc, Z0, ds, y, rfl, _⟩ := h
    rfl
  · obtain ⟨st, sc, Z0, ds, y, rfl, sz, hm, hF, q⟩ := h
    refine ⟨_, (pss_one (ps_ret (pe_ix ix_list (pe_lst (pa_cons pe_str (pa_cons pe_str (pa_cons pe_str (pa_cons pe_str (pa_cons pe_str (pa_cons pe_str pa_nil))))))) (pe_call G_law_next (hr.mono (by decide)) (by rfl) T.g_law_next T.F_law_next.kp T.b_law_next .nil pass0 (pa_cons (pv 0) (pa_cons pe_int pa_nil))) (fun _ _ => rfl)))), ?_⟩
    have P := Pt.start (muD st sc) sz hm
    unfold F_law_name at hF
    obtain ⟨i_673, h_674, hF⟩ := bind_inv hF
    replace hF := Option.some.inj hF
    subst hF
    refine st_ret P (ev_ixL (ev_li (ev_fz (en_listD (eva_conss ev_str (eva_conss ev_str (eva_conss ev_str (eva_conss ev_str (eva_conss ev_str (eva_conss ev_str (eva_nils (τ := yStr)))))))) (by show 6 ≤ sizeLine; decide)))) (ev_call (cs__law_next T (by decide +kernel)) (eva_cons (ev_ref rfl) (eva_cons ev_int eva_nil))) h_674) (fun v Z1 H1 P1 hv => ?_)
    exact q v _ _ P1.st P1.m hv
theorem cs_law_name (T : Txt w K mg) {st sc : Addr} {ds : DS} {E : XK}  {y : Str × DS} (h : F_law_name ds = some y) : CallS (muD st sc) (sp_law_name T) E (rac (isRef st) ra0) ds (ty yStr y.1) y.2 := by
  rintro Z H vs sz m ⟨_, _, rfl, rfl, rfl⟩ Q q
  exact ⟨st, sc, Z, ds, y, rfl, sz, m, h, fun v Z2 H2 s2 m2 hv => q v Z2 H2 s2 m2 hv⟩
theorem cu_law_name (T : Txt w K mg) {st sc : Addr} {ds : DS} {E : XK}  {y : Str × DS} {μ : Type} {M : Mu μ} {s s2 : μ} (hm : ∀ Z H, M.m s Z H → (muD st sc).m ds Z H) (hf : ∀ a ∈ (muD st sc).fp, a ∈ M.fp) (hp : ∀ Z H Z' H', M.m s Z H → Step (muD st sc).fp Z H Z' H' → (muD st sc).m y.2 Z' H' → M.m s2 Z' H') (h : F_law_name ds = some y) : CallS M (sp_law_name T) E (rac (isRef st) ra0) s (ty yStr y.1) s2 := by
  rintro Z H vs sz m ⟨_, _, rfl, rfl, rfl⟩ Q q
  exact ⟨st, sc, Z, ds, y, rfl, sz, hm _ _ m, h, fun v Z2 H2 st2 m2 hv => q v Z2 H2 (st2.weak fun a h => .inl (hf a h)) (hp _ _ _ _ m st2 m2) hv⟩
def sp_law_words (T : Txt w K mg) : Sp := fun vs H Q _ => ∃ (st sc : Addr) (Z0 : Hp) (ds : DS) (y : ((List (Str × Int)) × DS)), vs = [.ref st] ∧ (Same Z0 H) ∧ ((muD st sc).m ds Z0 H) ∧ (F_law_words ds = some y) ∧ ∀ v Z' H', Step (muD st sc).fp Z0 H Z' H' → (muD st sc).m y.2 Z' H' → ((yList (yP2 K yStr yInt))).r Z' v y.1 → Q v H'
set_option maxHeartbeats 4000000 in
theorem ok_law_words (T : Txt w K mg) : FnOk P w K mg base CX0 3 T.f_law_words T.d_law_words ["state"] (sp_law_words T) := by
  have G_law_next : FnOk P w K mg base CX0 2 T.f_law_next T.d_law_next ["state", "many"] (sp_law_next T) := ok_law_next T
  refine T.F_law_words.ok sc_law_words (fun vs H Q E h => ?_) (fun cdv A outer s H vs Q E hr h => ?_)
  · obtain ⟨st, sc, Z0, ds, y, rfl, _⟩ := h
    rfl
  · obtain ⟨st, sc, Z0, ds, y, rfl, sz, hm, hF, q⟩ := h
    refine ⟨_, (pss_cons (ps_set (i := 1) sc_law_words.nd rfl (.inl rfl) (pe_lst pa_nil)) 
      (pss_cons (ps_for PassesOwn.never rfl (pi_list (pe_lst (pa_cons pe_str (pa_cons pe_str (pa_cons pe_str (pa_cons pe_str pa_nil)))))) (pg_name (i := 2) sc_law_words.nd rfl (.inl rfl)) (pss_one (ps_if (pt_cmpR op_eq (pe_call G_law_next (hr.mono (by decide)) (by rfl) T.g_law_next T.F_law_next.kp T.b_law_next .nil pass0 (pa_cons (pv 0) (pa_cons pe_int pa_nil))) pe_int (nomark _)) (pss_one (ps_expr (pe_bm PySem.F.plainAttrs_list PySem.F.slot_list_append PySem.F.type_list_append mt_append (pv 1) (pa_cons (pe_tup (pa_cons (pv 2) (pa_cons (pe_op op_add pe_int (pe_op op_mul (pe_call G_law_next (hr.mono (by decide)) (by rfl) T.g_law_next T.F_law_next.kp T.b_law_next .nil pass0 (pa_cons (pv 0) (pa_cons pe_int pa_nil))) (pe_call G_law_next (hr.mono (by decide)) (by rfl) T.g_law_next T.F_law_next.kp T.b_law_next .nil pass0 (pa_cons (pv 0) (pa_cons pe_int pa_nil))))) pa_nil))) pa_nil)))) pss_nil))) 
      (pss_one (ps_ret (pv 1))))), ?_⟩
    have P := Pt.start (muD st sc) sz hm
    unfold F_law_words at hF
    refine st_seq (st_setN (τ := (yP2 K yStr yInt)) P (en_listD (eva_nils (τ := (yP2 K yStr yInt))) (by show 0 ≤ sizeLine; decide)) (fun p_678 Z1 H1 e P1 fr_680 o_679 => ?_))
    refine st_nx ?_
    replace P := P1
    obtain ⟨f_700, hL_701, hF⟩ := bind_inv hF
    refine st_seq (st_for (τ := yStr) (fun (r_683 : List Str) σ' Z' H' => ∃ w_681, ∃ (y_689 : Option V), σ' = [some (.ref st), some (.ref p_678), y_689] ∧ Pt (muD st sc).fp Z0 H (muD st sc) Z' H' w_681.2 ∧ Own (muD st sc).fp H (muD st sc).fp Z' H' (yP2 K yStr yInt) p_678 w_681.1 ∧ forF L_law_words_1 r_683 w_681 = some f_700) P (ei_list (ev_fz (en_listD (eva_conss ev_str (eva_conss ev_str (eva_conss ev_str (eva_conss ev_str (eva_nils (τ := yStr)))))) (by show 4 ≤ sizeLine; decide)))) ?_ ?_ ?_)
    · rintro Z1 H1 e P1
      replace P := P1
      replace o_679 := o_679.next e
      exact ⟨(([] : List (Str × Int)), ds), _, rfl, P, o_679, hL_701⟩
    · rintro Zb_687 Hb eb x_682 r_683 σ' v_693 Z1 H1 Z2 H2 zs_686 ⟨w_681, y_689, rfl, P, o_688, hq_685⟩ e hx_694
      replace P := P.item e
      replace o_688 := o_688.step e List.not_mem_nil
      replace zs_686 := zs_686.trans e.z
      obtain ⟨u_695, hB_684, hq_685⟩ := bind_inv (forF_cons hq_685)
      unfold L_law_words_1 at hB_684
      refine tgt_name _ P.sub _ ?_
      refine st_if P (et_cmp (ev_eq flat_int (ev_call (cs__law_next T (by decide +kernel)) (eva_cons (ev_ref rfl) (eva_cons ev_int eva_nil))) ev_int)) (fun b_696 Z1 H1 e P1 => ?_) (fun b_696 Z1 H1 e P1 => ?_)
      · replace P := P1
        have hB := ifT b_696 hB_684
        replace hB_684 := hB
        clear hB
        replace o_688 := o_688.next e
        replace zs_686 := zs_686.trans e.z
        obtain ⟨g_697, hB_684⟩ := guard_inv hB_684
        obtain ⟨g_698, hB_684⟩ := guard_inv hB_684
        refine st_append P o_688 rfl (ev_p2 (K := K) (eva_cons (ev_var (τ := yStr) rfl hx_694) (eva_cons (ev_add ev_int (ev_mul (ev_call (cs__law_next T (by decide +kernel)) (eva_cons (ev_ref rfl) (eva_cons ev_int eva_nil))) (ev_call (cs__law_next T (by decide +kernel)) (eva_cons (ev_ref rfl) (eva_cons ev_int eva_nil))) g_697)) eva_nil))) g_698 (fun Z1 H1 e P1 o_699 => ?_)
        replace P := P1
        replace zs_686 := zs_686.trans e.z
        replace hB_684 := Option.some.inj hB_684
        subst hB_684
        exact ⟨_, zs_686, P.sub, ((w_681.1 ++ [(x_682, ((1 : Int) + ((nxV (nxS w_681.2 (2 : Int)) (3 : Int)) * (nxV (nxS (nxS w_681.2 (2 : Int)) (3 : Int)) (20 : Int)))))]), (nxS (nxS (nxS w_681.2 (2 : Int)) (3 : Int)) (20 : Int))), _, rfl, P, o_699, hq_685⟩
      · replace P := P1
        have hB := ifF b_696 hB_684
        replace hB_684 := hB
        clear hB
        refine st_next ?_
        replace o_688 := o_688.next e
        replace zs_686 := zs_686.trans e.z
        replace hB_684 := Option.some.inj hB_684
        subst hB_684
        exact ⟨_, zs_686, P.sub, (w_681.1, (nxS w_681.2 (2 : Int))), _, rfl, P, o_688, hq_685⟩
    rintro σ' Z1 H1 _ _ ⟨w_690, y_689, rfl, P, o_691, hl⟩
    have hz := (forF_nil hl).symm
    subst hz
    refine st_nx ?_
    obtain ⟨Z, P, zf, hf, of⟩ := o_691.fz P
    have k_702 := hf
    clear hf zf of
    replace hF := Option.some.inj hF
    subst hF
    refine st_ret P (ev_var (τ := (yList (yP2 K yStr yInt))) rfl k_702) (fun v Z1 H1 P1 hv => ?_)
    exact q v _ _ P1.st P1.m hv
theorem cs_law_words (T : Txt w K mg) {st sc : Addr} {ds : DS} {E : XK}  {y : (List (Str × Int)) × DS} (h : F_law_words ds = some y) : CallS (muD st sc) (sp_law_words T) E (rac (isRef st) ra0) ds (ty (yList (yP2 K yStr yInt)) y.1) y.2 := by
  rintro Z H vs sz m ⟨_, _, rfl, rfl, rfl⟩ Q q
  exact ⟨st, sc, Z, ds, y, rfl, sz, m, h, fun v Z2 H2 s2 m2 hv => q v Z2 H2 s2 m2 hv⟩
theorem cu_law_words (T : Txt w K mg) {st sc : Addr} {ds : DS} {E : XK}  {y : (List (Str × Int)) × DS} {μ : Type} {M : Mu μ} {s s2 : μ} (hm : ∀ Z H, M.m s Z H → (muD st sc).m ds Z H) (hf : ∀ a ∈ (muD st sc).fp, a ∈ M.fp) (hp : ∀ Z H Z' H', M.m s Z H → Step (muD st sc).fp Z H Z' H' → (muD st sc).m y.2 Z' H' → M.m s2 Z' H') (h : F_law_words ds = some y) : CallS M (sp_law_words T) E (rac (isRef st) ra0) s (ty (yList (yP2 K yStr yInt)) y.1) s2 := by
  rintro Z H vs sz m ⟨_, _, rfl, rfl, rfl⟩ Q q
  exact ⟨st, sc, Z, ds, y, rfl, sz, hm _ _ m, h, fun v Z2 H2 st2 m2 hv => q v Z2 H2 (st2.weak fun a h => .inl (hf a h)) (hp _ _ _ _ m st2 m2) hv⟩
def sp_law_far (T : Txt w K mg) : Sp := fun vs H Q _ => ∃ (Z0 : Hp) (v_measure : V) (v_a : V) (v_b : V) (x_measure : Str) (x_a : (List Int)) (x_b : (List Int)) (y : Int), vs = [v_measure, v_a, v_b] ∧ (Same Z0 H) ∧ ((yStr).r Z0 v_measure x_measure) ∧ (((yList yInt)).r Z0 v_a x_a) ∧ (((yList yInt)).r Z0 v_b x_b) ∧ (F_law_far x_measure x_a x_b = some y) ∧ ∀ v Z' H', Step [] Z0 H Z' H' → (yInt).r Z' v y → Q v H'
set_option maxHeartbeats 4000000 in
theorem ok_law_far (T : Txt w K mg) : FnOk P w K mg base CX0 1 T.f_law_far T.d_law_far ["measure", "a", "b"] (sp_law_far T) := by
  refine T.F_law_far.ok sc_law_far (fun vs H Q E h => ?_) (fun cdv A outer s H vs Q E hr h => ?_)
  · obtain ⟨Z0, v_measure, v_a, v_b, x_measure, x_a, x_b, y, rfl, _⟩ := h
    rfl
  · obtain ⟨Z0, v_measure, v_a, v_b, x_measure, x_a, x_b, y, rfl, sz, h_measure, h_a, h_b, hF, q⟩ := h
    refine ⟨_, (pss_cons (ps_set (i := 3) sc_law_far.nd rfl (.inl rfl) pe_int) 
      (pss_cons (ps_for PassesOwn.never rfl (pi_range1 rfl T.m_range (pa_cons (pe_callB call_len_seq (by rfl) T.m_len PySem.boot_len (pa_cons (pv 1) pa_nil)) pa_nil)) (pg_name (i := 4) sc_law_far.nd rfl (.inl rfl)) (pss_cut (ps_if (pt_cmpR op_eq (pv 0) pe_str (nomark _)) (pss_one (ps_set (i := 3) sc_law_far.nd rfl (.inl rfl) (pe_op op_add (pv 3) (pe_op op_mul (pe_op op_sub (pe_ix ix_list (pv 1) (pv 4) (fun _ _ => rfl)) (pe_ix ix_list (pv 2) (pv 4) (fun _ _ => rfl))) (pe_op op_sub (pe_ix ix_list (pv 1) (pv 4) (fun _ _ => rfl)) (pe_ix ix_list (pv 2) (pv 4) (fun _ _ => rfl))))))) pss_nil) 
      (pss_cut (ps_if (pt_cmpR op_eq (pv 0) pe_str (nomark _)) (pss_one (ps_set (i := 3) sc_law_far.nd rfl (.inl rfl) (pe_op op_sub (pv 3) (pe_op op_mul (pe_ix ix_list (pv 1) (pv 4) (fun _ _ => rfl)) (pe_ix ix_list (pv 2) (pv 4) (fun _ _ => rfl)))))) pss_nil) 
      (pss_one (ps_if (PW.pt (pw_and (pt_cmpR op_eq (pv 0) pe_str (nomark _)) (pw_and1 (pt_cmpR op_ne (pe_ix ix_list (pv 1) (pv 4) (fun _ _ => rfl)) (pe_ix ix_list (pv 2) (pv 4) (fun _ _ => rfl)) (nomark _))))) (pss_one (ps_set (i := 3) sc_law_far.nd rfl (.inl rfl) (pe_op op_add (pv 3) pe_int))) pss_nil))))) 
      (pss_one (ps_ret (pv 3))))), ?_⟩
    have P := Pt.start0 sz
    unfold F_law_far at hF
    refine st_seq (st_set P ev_int (fun v_705 Z1 H1 e P1 k_706 => ?_))
    refine st_nx ?_
    replace P := P1
    replace h_a := ((yList yInt)).mono e.z h_a
    replace h_b := ((yList yInt)).mono e.z h_b
    obtain ⟨g_707, hF⟩ := guard_inv hF
    obtain ⟨f_777, hL_778, hF⟩ := bind_inv hF
    refine st_seq (st_for (τ := yInt) (fun (r_710 : List Int) σ' Z' H' => ∃ w_708, ∃ (v_717 : V) (y_719 : Option V), σ' = [some v_measure, some v_a, some v_b, some v_717, y_719] ∧ Pt [] Z0 H muN Z' H' () ∧ ((yList yInt)).r Z' v_a x_a ∧ ((yList yInt)).r Z' v_b x_b ∧ (yInt).r Z' v_717 w_708 ∧ forF (L_law_far_1 x_measure x_a x_b) r_710 w_708 = some f_777) P (ei_rng1 (ev_len (fun _ _ _ h => h) (ev_li (ev_var (τ := (yList yInt)) rfl h_a))) g_707) ?_ ?_ ?_)
    · rintro Z1 H1 e P1
      replace P := P1
      replace h_a := ((yList yInt)).mono e.z h_a
      replace h_b := ((yList yInt)).mono e.z h_b
      exact ⟨(0 : Int), _, _, rfl, P, h_a, h_b, k_706, hL_778⟩
    · rintro Zb_714 Hb eb x_709 r_710 σ' v_727 Z1 H1 Z2 H2 zs_713 ⟨w_708, v_717, y_719, rfl, P, k_715, k_716, k_718, hq_712⟩ e hx_728
      replace P := P.item e
      replace k_715 := ((yList yInt)).mono e.z k_715
      replace k_716 := ((yList yInt)).mono e.z k_716
      replace zs_713 := zs_713.trans e.z
      obtain ⟨u_729, hB_711, hq_712⟩ := bind_inv (forF_cons hq_712)
      unfold L_law_far_1 at hB_711
      refine tgt_name _ P.sub _ ?_
      obtain ⟨w_732, hB_731, hB_711⟩ := bind_inv hB_711
      refine ⟨fun σ' H' => ∃ Z', ∃ (v_735 : V), σ' = [some v_measure, some v_a, some v_b, some v_735, some v_727] ∧ Pt [] Z0 H muN Z' H' () ∧ Same Zb_714 Z' ∧ ((yList yInt)).r Z' v_a x_a ∧ ((yList yInt)).r Z' v_b x_b ∧ (yInt).r Z' v_735 w_732, ?_, ?_⟩
      · refine st_if P (et_cmp (ev_eq flat_str (ev_var (τ := yStr) rfl h_measure) ev_str)) (fun b_730 Z1 H1 e P1 => ?_) (fun b_730 Z1 H1 e P1 => ?_)
        · replace P := P1
          replace hB_731 := ifT b_730 hB_731
          replace k_715 := ((yList yInt)).mono e.z k_715
          replace k_716 := ((yList yInt)).mono e.z k_716
          replace zs_713 := zs_713.trans e.z
          obtain ⟨i_738, h_739, hB_731⟩ := bind_inv hB_731
          obtain ⟨i_740, h_741, hB_731⟩ := bind_inv hB_731
          obtain ⟨i_742, h_743, hB_731⟩ := bind_inv hB_731
          obtain ⟨i_744, h_745, hB_731⟩ := bind_inv hB_731
          obtain ⟨g_746, hB_731⟩ := guard_inv hB_731
          obtain ⟨x_total_747, h_748, hB_731⟩ := bind_inv hB_731
          replace h_748 := Option.some.inj h_748
          refine st_set P (ev_cast (ev_add (ev_var (τ := yInt) rfl k_718) (ev_mul (ev_sub (ev_ixL (ev_li (ev_var (τ := (yList yInt)) rfl k_715)) (ev_var (τ := yInt) rfl hx_728) h_739) (ev_ixL (ev_li (ev_var (τ := (yList yInt)) rfl k_716)) (ev_var (τ := yInt) rfl hx_728) h_741)) (ev_sub (ev_ixL (ev_li (ev_var (τ := (yList yInt)) rfl k_715)) (ev_var (τ := yInt) rfl hx_728) h_743) (ev_ixL (ev_li (ev_var (τ := (yList yInt)) rfl k_716)) (ev_var (τ := yInt) rfl hx_728) h_745)) g_746)) h_748) (fun v_749 Z1 H1 e P1 k_750 => ?_)
          replace P := P1
          replace k_715 := ((yList yInt)).mono e.z k_715
          replace k_716 := ((yList yInt)).mono e.z k_716
          replace zs_713 := zs_713.trans e.z
          replace hB_731 := Option.some.inj hB_731
          subst hB_731
          exact ⟨_, _, rfl, P, zs_713, k_715, k_716, k_750⟩
        · replace P := P1
          replace hB_731 := ifF b_730 hB_731
          replace k_715 := ((yList yInt)).mono e.z k_715
          replace k_716 := ((yList yInt)).mono e.z k_716
          replace zs_713 := zs_713.trans e.z
          replace hB_731 := Option.some.inj hB_731
          subst hB_731
          exact ⟨_, _, rfl, P, zs_713, k_715, k_716, k_718⟩
      rintro σ' H' ⟨Z1, v_735, rfl, P, zs_737, k_733, k_734, k_736⟩
      obtain ⟨w_753, hB_752, hB_711⟩ := bind_inv hB_711
      refine ⟨fun σ' H' => ∃ Z', ∃ (v_756 : V), σ' = [some v_measure, some v_a, some v_b, some v_756, some v_727] ∧ Pt [] Z0 H muN Z' H' () ∧ Same Zb_714 Z' ∧ ((yList yInt)).r Z' v_a x_a ∧ ((yList yInt)).r Z' v_b x_b ∧ (yInt).r Z' v_756 w_753, ?_, ?_⟩
      · refine st_if P (et_cmp (ev_eq flat_str (ev_var (τ := yStr) rfl h_measure) ev_str)) (fun b_751 Z1 H1 e P1 => ?_) (fun b_751 Z1 H1 e P1 => ?_)
        · replace P := P1
          replace hB_752 := ifT b_751 hB_752
          replace k_733 := ((yList yInt)).mono e.z k_733
          replace k_734 := ((yList yInt)).mono e.z k_734
          replace zs_737 := zs_737.trans e.z
          obtain ⟨i_759, h_760, hB_752⟩ := bind_inv hB_752
          obtain ⟨i_761, h_762, hB_752⟩ := bind_inv hB_752
          obtain ⟨g_763, hB_752⟩ := guard_inv hB_752
          obtain ⟨x_total_764, h_765, hB_752⟩ := bind_inv hB_752
          replace h_765 := Option.some.inj h_765
          refine st_set P (ev_cast (ev_sub (ev_var (τ := yInt) rfl k_736) (ev_mul (ev_ixL (ev_li (ev_var (τ := (yList yInt)) rfl k_733)) (ev_var (τ := yInt) rfl hx_728) h_760) (ev_ixL (ev_li (ev_var (τ := (yList yInt)) rfl k_734)) (ev_var (τ := yInt) rfl hx_728) h_762) g_763)) h_765) (fun v_766 Z1 H1 e P1 k_767 => ?_)
          replace P := P1
          replace k_733 := ((yList yInt)).mono e.z k_733
          replace k_734 := ((yList yInt)).mono e.z k_734
          replace zs_737 := zs_737.trans e.z
          replace hB_752 := Option.some.inj hB_752
          subst hB_752
          exact ⟨_, _, rfl, P, zs_737, k_733, k_734, k_767⟩
        · replace P := P1
          replace hB_752 := ifF b_751 hB_752
          replace k_733 := ((yList yInt)).mono e.z k_733
          replace k_734 := ((yList yInt)).mono e.z k_734
          replace zs_737 := zs_737.trans e.z
          replace hB_752 := Option.some.inj hB_752
          subst hB_752
          exact ⟨_, _, rfl, P, zs_737, k_733, k_734, k_736⟩
      rintro σ' H' ⟨Z1, v_756, rfl, P, zs_758, k_754, k_755, k_757⟩
      obtain ⟨b_773, h_772, hB_711⟩ := bind_inv hB_711
      refine st_if P (et_andO (et_cmp (ev_eq flat_str (ev_var (τ := yStr) rfl h_measure) ev_str)) (fun _ y hy => by
            obtain ⟨i_768, h_769, hy⟩ := bind_inv hy
            obtain ⟨i_770, h_771, hy⟩ := bind_inv hy
            have hy := Option.some.inj hy
            subst hy
            exact (et_cmp (ev_ne flat_int (ev_ixL (ev_li (ev_var (τ := (yList yInt)) rfl k_754)) (ev_var (τ := yInt) rfl hx_728) h_769) (ev_ixL (ev_li (ev_var (τ := (yList yInt)) rfl k_755)) (ev_var (τ := yInt) rfl hx_728) h_771)))) h_772) (fun b_774 Z1 H1 e P1 => ?_) (fun b_774 Z1 H1 e P1 => ?_)
      · replace P := P1
        have hB := ifT b_774 hB_711
        replace hB_711 := hB
        clear hB
        replace k_754 := ((yList yInt)).mono e.z k_754
        replace k_755 := ((yList yInt)).mono e.z k_755
        replace zs_758 := zs_758.trans e.z
        refine st_set P (ev_add (ev_var (τ := yInt) rfl k_757) ev_int) (fun v_775 Z1 H1 e P1 k_776 => ?_)
        replace P := P1
        replace k_754 := ((yList yInt)).mono e.z k_754
        replace k_755 := ((yList yInt)).mono e.z k_755
        replace zs_758 := zs_758.trans e.z
        replace hB_711 := Option.some.inj hB_711
        subst hB_711
        exact ⟨_, zs_758, P.sub, (w_753 + (1 : Int)), _, _, rfl, P, k_754, k_755, k_776, hq_712⟩
      · replace P := P1
        have hB := ifF b_774 hB_711
        replace hB_711 := hB
        clear hB
        refine st_next ?_
        replace k_754 := ((yList yInt)).mono e.z k_754
        replace k_755 := ((yList yInt)).mono e.z k_755
        replace zs_758 := zs_758.trans e.z
        replace hB_711 := Option.some.inj hB_711
        subst hB_711
        exact ⟨_, zs_758, P.sub, w_753, _, _, rfl, P, k_754, k_755, k_757, hq_712⟩
    rintro σ' Z1 H1 _ _ ⟨w_720, v_724, y_719, rfl, P, k_715, k_716, k_725, hl⟩
    have hz := (forF_nil hl).symm
    subst hz
    refine st_nx ?_
    replace hF := Option.some.inj hF
    subst hF
    refine st_ret P (ev_var (τ := yInt) rfl k_725) (fun v Z1 H1 P1 hv => ?_)
    exact q v _ _ P1.st hv
theorem cs_law_far (T : Txt w K mg) {μ : Type} {M : Mu μ} {s : μ} {E : XK} {x_measure : Str} {x_a : (List Int)} {x_b : (List Int)} {y : Int} (h : F_law_far x_measure x_a x_b = some y) : CallS M (sp_law_far T) E (rac (ty yStr x_measure) (rac (ty (yList yInt) x_a) (rac (ty (yList yInt) x_b) ra0))) s (ty yInt y) s := by
  rintro Z H vs sz m ⟨v_measure, _, rfl, h_measure, ⟨v_a, _, rfl, h_a, ⟨v_b, _, rfl, h_b, rfl⟩⟩⟩ Q q
  exact ⟨Z, v_measure, v_a, v_b, x_measure, x_a, x_b, y, rfl, sz, h_measure, h_a, h_b, h, fun v Z2 H2 st hv => q v Z2 H2 st.pure (M.pure st m) hv⟩
def sp_law_cost (T : Txt w K mg) : Sp := fun vs H Q _ => ∃ (Z0 : Hp) (v_measure : V) (v_query : V) (v_vector : V) (v_words : V) (x_measure : Str) (x_query : ((List Int) × Int × (List (Str × Int)))) (x_vector : (List Int)) (x_words : (List (Str × Int))) (y : Int), vs = [v_measure, v_query, v_vector, v_words] ∧ (Same Z0 H) ∧ ((yStr).r Z0 v_measure x_measure) ∧ (((yP3 K (yList yInt) yInt (yList (yP2 K yStr yInt)))).r Z0 v_query x_query) ∧ (((yList yInt)).r Z0 v_vector x_vector) ∧ (((yList (yP2 K yStr yInt))).r Z0 v_words x_words) ∧ (F_law_cost x_measure x_query x_vector x_words = some y) ∧ ∀ v Z' H', Step [] Z0 H Z' H' → (yInt).r Z' v y → Q v H'
set_option maxHeartbeats 4000000 in
theorem ok_law_cost (T : Txt w K mg) : FnOk P w K mg base CX0 2 T.f_law_cost T.d_law_cost ["measure", "query", "vector", "words"] (sp_law_cost T) := by
  have G_law_far : FnOk P w K mg base CX0 1 T.f_law_far T.d_law_far ["measure", "a", "b"] (sp_law_far T) := ok_law_far T
  refine T.F_law_cost.ok sc_law_cost (fun vs H Q E h => ?_) (fun cdv A outer s H vs Q E hr h => ?_)
  · obtain ⟨Z0, v_measure, v_query, v_vector, v_words, x_measure, x_query, x_vector, x_words, y, rfl, _⟩ := h
    rfl
  · obtain ⟨Z0, v_measure, v_query, v_vector, v_words, x_measure, x_query, x_vector, x_words, y, rfl, sz, h_measure, h_query, h_vector, h_words, hF, q⟩ := h
    refine ⟨_, (pss_cons (ps_set (i := 4) sc_law_cost.nd rfl (.inl rfl) (pe_op op_mul (pe_ix ix_tup (pv 1) pe_int (fun _ _ => rfl)) (pe_call G_law_far (hr.mono (by decide)) (by rfl) T.g_law_far T.F_law_far.kp T.b_law_far .nil pass0 (pa_cons (pv 0) (pa_cons (pe_ix ix_tup (pv 1) pe_int (fun _ _ => rfl)) (pa_cons (pv 2) pa_nil)))))) 
      (pss_cons (ps_for PassesOwn.never rfl (pi_list (pe_ix ix_tup (pv 1) pe_int (fun _ _ => rfl))) (pg_tup rfl (pgs_cons (pg_name (i := 5) sc_law_cost.nd rfl (.inr rfl)) (pgs_cons (pg_name (i := 6) sc_law_cost.nd rfl (.inl rfl)) pgs_nil))) (pss_cons (ps_setLc (i := 7) (own := [("other", 8), ("count", 9)]) (g := gTup K 2 (gCons (gName 8) (gCons (gName 9) gNil))) rfl sc_law_cost.nd rfl rfl (sw_true rfl rfl rfl (by decide +kernel)) (pi_list (pv 3)) (blkOk_by (own := [("other", 8), ("count", 9)]) (N := ["measure", "query", "vector", "words", "total", "word", "weight", "counts", "other", "count"]) (sc := defScope s_law_cost) (by decide +kernel)) (fun _ _ _ _ _ => (by exact (pg_tup rfl (pgs_cons (pg_name (i := 8) sc_law_cost.nd rfl (Or.inl rfl)) (pgs_cons (pg_name (i := 9) sc_law_cost.nd rfl (Or.inl rfl)) pgs_nil))))) (fun _ _ _ _ _ => (by exact pts_one (pt_cmpR op_eq (pv 8) (pv 5) (nomark _)))) (fun _ _ _ _ _ => (pv 9))) 
      (pss_one (ps_if (pt_cmpR op_gt (pe_callB call_len_seq (by rfl) T.m_len PySem.boot_len (pa_cons (pv 7) pa_nil)) pe_int (nomark _)) (pss_one (ps_set (i := 4) sc_law_cost.nd rfl (.inl rfl) (pe_op op_sub (pv 4) (pe_op op_mul (pv 6) (pe_callB (call_min2 rfl) (by rfl) T.m_min (by decide +kernel) (pa_cons pe_int (pa_cons (pe_ix ix_list (pv 7) pe_int (fun _ _ => rfl)) pa_nil))))))) pss_nil)))) 
      (pss_one (ps_ret (pv 4))))), ?_⟩
    have P := Pt.start0 sz
    unfold F_law_cost at hF
    refine st_norm (by dsimp only [List.set, L2.start, List.map, List.length, List.replicate, List.cons_append, List.nil_append, Nat.reduceSub, Nat.reduceAdd]) ?_
    obtain ⟨r_784, h_785, hF⟩ := bind_inv hF
    obtain ⟨g_786, hF⟩ := guard_inv hF
    refine st_seq (st_set P (ev_mul (ev_cast (ev_part po3_1 (ev_var (τ := (yP3 K (yList yInt) yInt (yList (yP2 K yStr yInt)))) rfl h_query) ev_int) rfl) (ev_call (cs_law_far T h_785) (eva_cons (ev_var (τ := yStr) rfl h_measure) (eva_cons (ev_cast (ev_part po3_0 (ev_var (τ := (yP3 K (yList yInt) yInt (yList (yP2 K yStr yInt)))) rfl h_query) ev_int) rfl) (eva_cons (ev_var (τ := (yList yInt)) rfl h_vector) eva_nil)))) g_786) (fun v_787 Z1 H1 e P1 k_788 => ?_))
    refine st_nx ?_
    replace P := P1
    replace h_query := ((yP3 K (yList yInt) yInt (yList (yP2 K yStr yInt)))).mono e.z h_query
    replace h_words := ((yList (yP2 K yStr yInt))).mono e.z h_words
    refine st_norm (by dsimp only [List.set, L2.start, List.map, List.length, List.replicate, List.cons_append, List.nil_append, Nat.reduceSub, Nat.reduceAdd]) ?_
    obtain ⟨f_847, hL_848, hF⟩ := bind_inv hF
    refine st_seq (st_for (τ := (yP2 K yStr yInt)) (fun (r_791 : List (Str × Int)) σ' Z' H' => ∃ w_789, ∃ (y_796 : Option V) (y_797 : Option V) (y_798 : Option V) (v_800 : V) (y_802 : Option V) (y_803 : Option V) (y_804 : Option V) (y_805 : Option V) (y_806 : Option V), σ' = [y_796, y_797, y_798, some v_words, some v_800, y_802, y_803, y_804, y_805, y_806] ∧ Pt [] Z0 H muN Z' H' () ∧ ((yList (yP2 K yStr yInt))).r Z' v_words x_words ∧ (yInt).r Z' v_800 w_789 ∧ forF (L_law_cost_1 x_words) r_791 w_789 = some f_847) P (ei_list (ev_cast (ev_part po3_2 (ev_var (τ := (yP3 K (yList yInt) yInt (yList (yP2 K yStr yInt)))) rfl h_query) ev_int) rfl)) ?_ ?_ ?_)
    · rintro Z1 H1 e P1
      replace P := P1
      replace h_query := ((yP3 K (yList yInt) yInt (yList (yP2 K yStr yInt)))).mono e.z h_query
      replace h_words := ((yList (yP2 K yStr yInt))).mono e.z h_words
      exact ⟨(x_query.2.1 * r_784), _, _, _, _, _, _, _, _, _, rfl, P, h_words, k_788, hL_848⟩
    · rintro Zb_795 Hb eb x_790 r_791 σ' v_819 Z1 H1 Z2 H2 zs_794 ⟨w_789, y_796, y_797, y_798, v_800, y_802, y_803, y_804, y_805, y_806, rfl, P, k_799, k_801, hq_793⟩ e hx_820
      replace P := P.item e
      replace k_799 := ((yList (yP2 K yStr yInt))).mono e.z k_799
      replace zs_794 := zs_794.trans e.z
      obtain ⟨u_821, hB_792, hq_793⟩ := bind_inv (forF_cons hq_793)
      unfold L_law_cost_1 at hB_792
      obtain ⟨v_822, v_823, k_824, k_825, tg_826⟩ := tgt_p2 hx_820
      refine (tg_826 tgt_name tgt_name) _ P.sub _ ?_
      refine st_norm (by dsimp only [List.set, L2.start, List.map, List.length, List.replicate, List.cons_append, List.nil_append, Nat.reduceSub, Nat.reduceAdd]) ?_
      obtain ⟨x_counts_835, h_836, hB_792⟩ := bind_inv hB_792
      replace h_836 := Option.some.inj h_836
      refine st_seq (st_set P (ev_cast (ev_fz (en_fil (υ := yInt) (fun (x_827 : (Str × Int)) => (decide (x_827.1 = x_790.1))) (fun (x_827 : (Str × Int)) => x_827.2) (ei_list (ev_var (τ := (yList (yP2 K yStr yInt))) rfl k_799)) (fun x_827 v_828 Z' H' zz hh rx_829 => by
            obtain ⟨v_830, v_831, k_832, k_833, tg_834⟩ := tgt_p2 rx_829
            exact ⟨_, (tg_834 tgt_name tgt_name), (wpe_s (wpe_s wpe_z (by decide)) (by decide)), (et_cmp (ev_eq flat_str (ev_var (τ := yStr) rfl k_832) (ev_var (τ := yStr) rfl k_824))), (ev_var (τ := yInt) rfl k_833)⟩))) h_836) (fun v_837 Z1 H1 e P1 k_838 => ?_))
      refine st_nx ?_
      replace P := P1
      replace k_799 := ((yList (yP2 K yStr yInt))).mono e.z k_799
      replace zs_794 := zs_794.trans e.z
      refine st_norm (by dsimp only [List.set, L2.start, List.map, List.length, List.replicate, List.cons_append, List.nil_append, Nat.reduceSub, Nat.reduceAdd]) ?_
      refine st_if P (et_cmp (ev_gt (ev_len (fun _ _ _ h => h) (ev_li (ev_var (τ := (yList yInt)) rfl k_838))) ev_int)) (fun b_839 Z1 H1 e P1 => ?_) (fun b_839 Z1 H1 e P1 => ?_)
      · replace P := P1
        have hB := ifT b_839 hB_792
        replace hB_792 := hB
        clear hB
        replace k_799 := ((yList (yP2 K yStr yInt))).mono e.z k_799
        replace k_838 := ((yList yInt)).mono e.z k_838
        replace zs_794 := zs_794.trans e.z
        refine st_norm (by dsimp only [List.set, L2.start, List.map, List.length, List.replicate, List.cons_append, List.nil_append, Nat.reduceSub, Nat.reduceAdd]) ?_
        obtain ⟨i_840, h_841, hB_792⟩ := bind_inv hB_792
        obtain ⟨g_842, hB_792⟩ := guard_inv hB_792
        obtain ⟨x_total_843, h_844, hB_792⟩ := bind_inv hB_792
        replace h_844 := Option.some.inj h_844
        refine st_set P (ev_cast (ev_sub (ev_var (τ := yInt) rfl k_801) (ev_mul (ev_var (τ := yInt) rfl k_825) (ev_min2 ev_int (ev_ixL (ev_li (ev_var (τ := (yList yInt)) rfl k_838)) ev_int h_841)) g_842)) h_844) (fun v_845 Z1 H1 e P1 k_846 => ?_)
        replace P := P1
        replace k_799 := ((yList (yP2 K yStr yInt))).mono e.z k_799
        replace zs_794 := zs_794.trans e.z
        replace hB_792 := Option.some.inj hB_792
        subst hB_792
        exact ⟨_, zs_794, P.sub, x_total_843, _, _, _, _, _, _, _, _, _, rfl, P, k_799, k_846, hq_793⟩
      · replace P := P1
        have hB := ifF b_839 hB_792
        replace hB_792 := hB
        clear hB
        refine st_next ?_
        replace k_799 := ((yList (yP2 K yStr yInt))).mono e.z k_799
        replace zs_794 := zs_794.trans e.z
        replace hB_792 := Option.some.inj hB_792
        subst hB_792
        exact ⟨_, zs_794, P.sub, w_789, _, _, _, _, _, _, _, _, _, rfl, P, k_799, k_801, hq_793⟩
    rintro σ' Z1 H1 _ _ ⟨w_807, y_796, y_797, y_798, v_812, y_802, y_803, y_804, y_805, y_806, rfl, P, k_799, k_813, hl⟩
    have hz := (forF_nil hl).symm
    subst hz
    refine st_nx ?_
    refine st_norm (by dsimp only [List.set, L2.start, List.map, List.length, List.replicate, List.cons_append, List.nil_append, Nat.reduceSub, Nat.reduceAdd]) ?_
    replace hF := Option.some.inj hF
    subst hF
    refine st_ret P (ev_var (τ := yInt) rfl k_813) (fun v Z1 H1 P1 hv => ?_)
    exact q v _ _ P1.st hv
theorem cs_law_cost (T : Txt w K mg) {μ : Type} {M : Mu μ} {s : μ} {E : XK} {x_measure : Str} {x_query : ((List Int) × Int × (List (Str × Int)))} {x_vector : (List Int)} {x_words : (List (Str × Int))} {y : Int} (h : F_law_cost x_measure x_query x_vector x_words = some y) : CallS M (sp_law_cost T) E (rac (ty yStr x_measure) (rac (ty (yP3 K (yList yInt) yInt (yList (yP2 K yStr yInt))) x_query) (rac (ty (yList yInt) x_vector) (rac (ty (yList (yP2 K yStr yInt)) x_words) ra0)))) s (ty yInt y) s := by
  rintro Z H vs sz m ⟨v_measure, _, rfl, h_measure, ⟨v_query, _, rfl, h_query, ⟨v_vector, _, rfl, h_vector, ⟨v_words, _, rfl, h_words, rfl⟩⟩⟩⟩ Q q
  exact ⟨Z, v_measure, v_query, v_vector, v_words, x_measure, x_query, x_vector, x_words, y, rfl, sz, h_measure, h_query, h_vector, h_words, h, fun v Z2 H2 st hv => q v Z2 H2 st.pure (M.pure st m) hv⟩
def sp_law_value (T : Txt w K mg) : Sp := fun vs H Q _ => ∃ (st sc : Addr) (Z0 : Hp) (ds : DS) (v_kind : V) (x_kind : Str) (y : (Val × DS)), vs = [.ref st, v_kind] ∧ (Same Z0 H) ∧ ((muD st sc).m ds Z0 H) ∧ ((yStr).r Z0 v_kind x_kind) ∧ (F_law_value ds x_kind = some y) ∧ ∀ v Z' H', Step (muD st sc).fp Z0 H Z' H' → (muD st sc).m y.2 Z' H' → ((y_Val T)).r Z' v y.1 → Q v H'
set_option maxHeartbeats 4000000 in
theorem ok_law_value (T : Txt w K mg) : FnOk P w K mg base CX0 3 T.f_law_value T.d_law_value ["state", "kind"] (sp_law_value T) := by
  have G_law_next : FnOk P w K mg base CX0 2 T.f_law_next T.d_law_next ["state", "many"] (sp_law_next T) := ok_law_next T
  refine T.F_law_value.ok sc_law_value (fun vs H Q E h => ?_) (fun cdv A outer s H vs Q E hr h => ?_)
  · obtain ⟨st, sc, Z0, ds, v_kind, x_kind, y, rfl, _⟩ := h
    rfl
  · obtain ⟨st, sc, Z0, ds, v_kind, x_kind, y, rfl, sz, hm, h_kind, hF, q⟩ := h
    refine ⟨_, (pss_cons (ps_if (pt_cmpR op_eq (pv 1) pe_str (nomark _)) (pss_one (ps_ret (pe_cmpR op_eq (pe_call G_law_next (hr.mono (by decide)) (by rfl) T.g_law_next T.F_law_next.kp T.b_law_next .nil pass0 (pa_cons (pv 0) (pa_cons pe_int pa_nil))) pe_int (nomark _)))) pss_nil) 
      (pss_cons (ps_if (pt_cmpR op_eq (pv 1) pe_str (nomark _)) (pss_one (ps_ret (pe_ix ix_list (pe_lst (pa_cons pe_str (pa_cons pe_str (pa_cons pe_str (pa_cons pe_str (pa_cons pe_str pa_nil)))))) (pe_call G_law_next (hr.mono (by decide)) (by rfl) T.g_law_next T.F_law_next.kp T.b_law_next .nil pass0 (pa_cons (pv 0) (pa_cons pe_int pa_nil))) (fun _ _ => rfl)))) pss_nil) 
      (pss_one (ps_ret (pe_op op_mul (pe_ix ix_list (pe_lst (pa_cons pe_int (pa_cons pe_int (pa_cons (pe_un un_neg pe_int) (pa_cons pe_int (pa_cons (pe_op op_pow pe_int pe_int) pa_nil)))))) (pe_call G_law_next (hr.mono (by decide)) (by rfl) T.g_law_next T.F_law_next.kp T.b_law_next .nil pass0 (pa_cons (pv 0) (pa_cons pe_int pa_nil))) (fun _ _ => rfl)) (pe_op op_add pe_int (pe_call G_law_next (hr.mono (by decide)) (by rfl) T.g_law_next T.F_law_next.kp T.b_law_next .nil pass0 (pa_cons (pv 0) (pa_cons pe_int pa_nil))))))))), ?_⟩
    have P := Pt.start (muD st sc) sz hm
    unfold F_law_value at hF
    refine st_seq (st_if P (et_cmp (ev_eq flat_str (ev_var (τ := yStr) rfl h_kind) ev_str)) (fun b_853 Z1 H1 e P1 => ?_) (fun b_853 Z1 H1 e P1 => ?_))
    · replace P := P1
      have hB := ifT b_853 hF
      replace hF := hB
      clear hB
      replace hF := Option.some.inj hF
      subst hF
      refine st_ret P (ij_Val_b T (ev_eq flat_int (ev_call (cs__law_next T (by decide +kernel)) (eva_cons (ev_ref rfl) (eva_cons ev_int eva_nil))) ev_int)) (fun v Z1 H1 P1 hv => ?_)
      exact q v _ _ P1.st P1.m hv
    · replace P := P1
      have hB := ifF b_853 hF
      replace hF := hB
      clear hB
      refine st_next0 ?_
      refine st_seq (st_if P (et_cmp (ev_eq flat_str (ev_var (τ := yStr) rfl h_kind) ev_str)) (fun b_854 Z1 H1 e P1 => ?_) (fun b_854 Z1 H1 e P1 => ?_))
      · replace P := P1
        have hB := ifT b_854 hF
        replace hF := hB
        clear hB
        obtain ⟨i_855, h_856, hF⟩ := bind_inv hF
        replace hF := Option.some.inj hF
        subst hF
        refine st_ret P (ev_ixL (ev_li (ev_fz (en_listD (eva_conss (ij_Val_s T ev_str) (eva_conss (ij_Val_s T ev_str) (eva_conss (ij_Val_s T ev_str) (eva_conss (ij_Val_s T ev_str) (eva_conss (ij_Val_s T ev_str) (eva_nils (τ := (y_Val T)))))))) (by show 5 ≤ sizeLine; decide)))) (ev_call (cs__law_next T (by decide +kernel)) (eva_cons (ev_ref rfl) (eva_cons ev_int eva_nil))) h_856) (fun v Z1 H1 P1 hv => ?_)
        exact q v _ _ P1.st P1.m hv
      · replace P := P1
        have hB := ifF b_854 hF
        replace hF := hB
        clear hB
        refine st_next0 ?_
        obtain ⟨i_857, h_858, hF⟩ := bind_inv hF
        obtain ⟨g_859, hF⟩ := guard_inv hF
        replace hF := Option.some.inj hF
        subst hF
        refine st_ret P (ij_Val_i T (ev_mul (ev_ixL (ev_li (ev_fz (en_listD (eva_conss ev_int (eva_conss ev_int (eva_conss (ev_neg ev_int) (eva_conss ev_int (eva_conss (ev_pow ev_int ev_int (by decide)) (eva_nils (τ := yInt))))))) (by show 5 ≤ sizeLine; decide)))) (ev_call (cs__law_next T (by decide +kernel)) (eva_cons (ev_ref rfl) (eva_cons ev_int eva_nil))) h_858) (ev_add ev_int (ev_call (cs__law_next T (by decide +kernel)) (eva_cons (ev_ref rfl) (eva_cons ev_int eva_nil)))) g_859)) (fun v Z1 H1 P1 hv => ?_)
        exact q v _ _ P1.st P1.m hv
theorem cs_law_value (T : Txt w K mg) {st sc : Addr} {ds : DS} {E : XK} {x_kind : Str} {y : Val × DS} (h : F_law_value ds x_kind = some y) : CallS (muD st sc) (sp_law_value T) E (rac (isRef st) (rac (ty yStr x_kind) ra0)) ds (ty (y_Val T) y.1) y.2 := by
  rintro Z H vs sz m ⟨_, _, rfl, rfl, ⟨v_kind, _, rfl, h_kind, rfl⟩⟩ Q q
  exact ⟨st, sc, Z, ds, v_kind, x_kind, y, rfl, sz, m, h_kind, h, fun v Z2 H2 s2 m2 hv => q v Z2 H2 s2 m2 hv⟩
theorem cu_law_value (T : Txt w K mg) {st sc : Addr} {ds : DS} {E : XK} {x_kind : Str} {y : Val × DS} {μ : Type} {M : Mu μ} {s s2 : μ} (hm : ∀ Z H, M.m s Z H → (muD st sc).m ds Z H) (hf : ∀ a ∈ (muD st sc).fp, a ∈ M.fp) (hp : ∀ Z H Z' H', M.m s Z H → Step (muD st sc).fp Z H Z' H' → (muD st sc).m y.2 Z' H' → M.m s2 Z' H') (h : F_law_value ds x_kind = some y) : CallS M (sp_law_value T) E (rac (isRef st) (rac (ty yStr x_kind) ra0)) s (ty (y_Val T) y.1) s2 := by
  rintro Z H vs sz m ⟨_, _, rfl, rfl, ⟨v_kind, _, rfl, h_kind, rfl⟩⟩ Q q
  exact ⟨st, sc, Z, ds, v_kind, x_kind, y, rfl, sz, hm _ _ m, h_kind, h, fun v Z2 H2 st2 m2 hv => q v Z2 H2 (st2.weak fun a h => .inl (hf a h)) (hp _ _ _ _ m st2 m2) hv⟩
def sp_law_pairs (T : Txt w K mg) : Sp := fun vs H Q _ => ∃ (st sc : Addr) (Z0 : Hp) (ds : DS) (v_fields : V) (x_fields : (List (Str × Str))) (y : ((List (Str × Val)) × DS)), vs = [.ref st, v_fields] ∧ (Same Z0 H) ∧ ((muD st sc).m ds Z0 H) ∧ (((yList (yP2 K yStr yStr))).r Z0 v_fields x_fields) ∧ (F_law_pairs ds x_fields = some y) ∧ ∀ v Z' H', Step (muD st sc).fp Z0 H Z' H' → (muD st sc).m y.2 Z' H' → ((yList (yP2 K yStr (y_Val T)))).r Z' v y.1 → Q v H'
set_option maxHeartbeats 4000000 in
theorem ok_law_pairs (T : Txt w K mg) : FnOk P w K mg base CX0 4 T.f_law_pairs T.d_law_pairs ["state", "fields"] (sp_law_pairs T) := by
  have G_law_next : FnOk P w K mg base CX0 2 T.f_law_next T.d_law_next ["state", "many"] (sp_law_next T) := ok_law_next T
  have G_law_value : FnOk P w K mg base CX0 3 T.f_law_value T.d_law_value ["state", "kind"] (sp_law_value T) := ok_law_value T
  refine T.F_law_pairs.ok sc_law_pairs (fun vs H Q E h => ?_) (fun cdv A outer s H vs Q E hr h => ?_)
  · obtain ⟨st, sc, Z0, ds, v_fields, x_fields, y, rfl, _⟩ := h
    rfl
  · obtain ⟨st, sc, Z0, ds, v_fields, x_fields, y, rfl, sz, hm, h_fields, hF, q⟩ := h
    refine ⟨_, (pss_cons (ps_set (i := 2) sc_law_pairs.nd rfl (.inl rfl) (pe_lst pa_nil)) 
      (pss_cons (ps_for PassesOwn.never rfl (pi_list (pv 1)) (pg_tup rfl (pgs_cons (pg_name (i := 3) sc_law_pairs.nd rfl (.inl rfl)) (pgs_cons (pg_name (i := 4) sc_law_pairs.nd rfl (.inl rfl)) pgs_nil))) (pss_one (ps_if (pt_cmpR op_gt (pe_call G_law_next (hr.mono (by decide)) (by rfl) T.g_law_next T.F_law_next.kp T.b_law_next .nil pass0 (pa_cons (pv 0) (pa_cons pe_int pa_nil))) pe_int (nomark _)) (pss_one (ps_expr (pe_bm PySem.F.plainAttrs_list PySem.F.slot_list_append PySem.F.type_list_append mt_append (pv 2) (pa_cons (pe_tup (pa_cons (pv 3) (pa_cons (pe_call G_law_value (hr.mono (by decide)) (by rfl) T.g_law_value T.F_law_value.kp T.b_law_value .nil pass0 (pa_cons (pv 0) (pa_cons (pv 4) pa_nil))) pa_nil))) pa_nil)))) pss_nil))) 
      (pss_one (ps_ret (pv 2))))), ?_⟩
    have P := Pt.start (muD st sc) sz hm
    unfold F_law_pairs at hF
    refine st_seq (st_setN (τ := (yP2 K yStr (y_Val T))) P (en_listD (eva_nils (τ := (yP2 K yStr (y_Val T)))) (by show 0 ≤ sizeLine; decide)) (fun p_863 Z1 H1 e P1 fr_865 o_864 => ?_))
    refine st_nx ?_
    replace P := P1
    replace h_fields := ((yList (yP2 K yStr yStr))).mono e.z h_fields
    obtain ⟨f_895, hL_896, hF⟩ := bind_inv hF
    refine st_seq (st_for (τ := (yP2 K yStr yStr)) (fun (r_868 : List (Str × Str)) σ' Z' H' => ∃ w_866, ∃ (y_873 : Option V) (y_875 : Option V) (y_876 : Option V), σ' = [some (.ref st), y_873, some (.ref p_863), y_875, y_876] ∧ Pt (muD st sc).fp Z0 H (muD st sc) Z' H' w_866.2 ∧ Own (muD st sc).fp H (muD st sc).fp Z' H' (yP2 K yStr (y_Val T)) p_863 w_866.1 ∧ forF L_law_pairs_1 r_868 w_866 = some f_895) P (ei_list (ev_var (τ := (yList (yP2 K yStr yStr))) rfl h_fields)) ?_ ?_ ?_)
    · rintro Z1 H1 e P1
      replace P := P1
      replace h_fields := ((yList (yP2 K yStr yStr))).mono e.z h_fields
      replace o_864 := o_864.next e
      exact ⟨(([] : List (Str × Val)), ds), _, _, _, rfl, P, o_864, hL_896⟩
    · rintro Zb_872 Hb eb x_867 r_868 σ' v_882 Z1 H1 Z2 H2 zs_871 ⟨w_866, y_873, y_875, y_876, rfl, P, o_874, hq_870⟩ e hx_883
      replace P := P.item e
      replace o_874 := o_874.step e List.not_mem_nil
      replace zs_871 := zs_871.trans e.z
      obtain ⟨u_884, hB_869, hq_870⟩ := bind_inv (forF_cons hq_870)
      unfold L_law_pairs_1 at hB_869
      obtain ⟨v_885, v_886, k_887, k_888, tg_889⟩ := tgt_p2 hx_883
      refine (tg_889 tgt_name tgt_name) _ P.sub _ ?_
      refine st_if P (et_cmp (ev_gt (ev_call (cs__law_next T (by decide +kernel)) (eva_cons (ev_ref rfl) (eva_cons ev_int eva_nil))) ev_int)) (fun b_890 Z1 H1 e P1 => ?_) (fun b_890 Z1 H1 e P1 => ?_)
      · replace P := P1
        have hB := ifT b_890 hB_869
        replace hB_869 := hB
        clear hB
        replace o_874 := o_874.next e
        replace zs_871 := zs_871.trans e.z
        obtain ⟨r_891, h_892, hB_869⟩ := bind_inv hB_869
        obtain ⟨g_893, hB_869⟩ := guard_inv hB_869
        refine st_append P o_874 rfl (ev_p2 (K := K) (eva_cons (ev_var (τ := yStr) rfl k_887) (eva_cons (ev_call (cs_law_value T h_892) (eva_cons (ev_ref rfl) (eva_cons (ev_var (τ := yStr) rfl k_888) eva_nil))) eva_nil))) g_893 (fun Z1 H1 e P1 o_894 => ?_)
        replace P := P1
        replace zs_871 := zs_871.trans e.z
        replace hB_869 := Option.some.inj hB_869
        subst hB_869
        exact ⟨_, zs_871, P.sub, ((w_866.1 ++ [(x_867.1, r_891.1)]), r_891.2), _, _, _, rfl, P, o_894, hq_870⟩
      · replace P := P1
        have hB := ifF b_890 hB_869
        replace hB_869 := hB
        clear hB
        refine st_next ?_
        replace o_874 := o_874.next e
        replace zs_871 := zs_871.trans e.z
        replace hB_869 := Option.some.inj hB_869
        subst hB_869
        exact ⟨_, zs_871, P.sub, (w_866.1, (nxS w_866.2 (3 : Int))), _, _, _, rfl, P, o_874, hq_870⟩
    rintro σ' Z1 H1 _ _ ⟨w_877, y_873, y_875, y_876, rfl, P, o_879, hl⟩
    have hz := (forF_nil hl).symm
    subst hz
    refine st_nx ?_
    obtain ⟨Z, P, zf, hf, of⟩ := o_879.fz P
    have k_897 := hf
    clear hf zf of
    replace hF := Option.some.inj hF
    subst hF
    refine st_ret P (ev_var (τ := (yList (yP2 K yStr (y_Val T)))) rfl k_897) (fun v Z1 H1 P1 hv => ?_)
    exact q v _ _ P1.st P1.m hv
theorem cs_law_pairs (T : Txt w K mg) {st sc : Addr} {ds : DS} {E : XK} {x_fields : (List (Str × Str))} {y : (List (Str × Val)) × DS} (h : F_law_pairs ds x_fields = some y) : CallS (muD st sc) (sp_law_pairs T) E (rac (isRef st) (rac (ty (yList (yP2 K yStr yStr)) x_fields) ra0)) ds (ty (yList (yP2 K yStr (y_Val T))) y.1) y.2 := by
  rintro Z H vs sz m ⟨_, _, rfl, rfl, ⟨v_fields, _, rfl, h_fields, rfl⟩⟩ Q q
  exact ⟨st, sc, Z, ds, v_fields, x_fields, y, rfl, sz, m, h_fields, h, fun v Z2 H2 s2 m2 hv => q v Z2 H2 s2 m2 hv⟩
theorem cu_law_pairs (T : Txt w K mg) {st sc : Addr} {ds : DS} {E : XK} {x_fields : (List (Str × Str))} {y : (List (Str × Val)) × DS} {μ : Type} {M : Mu μ} {s s2 : μ} (hm : ∀ Z H, M.m s Z H → (muD st sc).m ds Z H) (hf : ∀ a ∈ (muD st sc).fp, a ∈ M.fp) (hp : ∀ Z H Z' H', M.m s Z H → Step (muD st sc).fp Z H Z' H' → (muD st sc).m y.2 Z' H' → M.m s2 Z' H') (h : F_law_pairs ds x_fields = some y) : CallS M (sp_law_pairs T) E (rac (isRef st) (rac (ty (yList (yP2 K yStr yStr)) x_fields) ra0)) s (ty (yList (yP2 K yStr (y_Val T))) y.1) s2 := by
  rintro Z H vs sz m ⟨_, _, rfl, rfl, ⟨v_fields, _, rfl, h_fields, rfl⟩⟩ Q q
  exact ⟨st, sc, Z, ds, v_fields, x_fields, y, rfl, sz, hm _ _ m, h_fields, h, fun v Z2 H2 st2 m2 hv => q v Z2 H2 (st2.weak fun a h => .inl (hf a h)) (hp _ _ _ _ m st2 m2) hv⟩
def sp_Question_rank (T : Txt w K mg) : Sp := fun vs H Q _ => ∃ (Z0 : Hp) (v_self : V) (v_record : V) (x_self : Question) (x_record : Record) (y : Rank), vs = [v_self, v_record] ∧ (Same Z0 H) ∧ (((y_Question T)).r Z0 v_self x_self) ∧ (((y_Record T)).r Z0 v_record x_record) ∧ (F_Question_rank x_self x_record = some y) ∧ ∀ v Z' H', Step [] Z0 H Z' H' → ((y_Rank T)).r Z' v y → Q v H'
set_option maxHeartbeats 4000000 in
theorem ok_Question_rank (T : Txt w K mg) : FnOk P w K mg base CX0 4 T.f_Question_rank T.d_Question_rank ["self", "record"] (sp_Question_rank T) := by
  have G_Question_cost : FnOk P w K mg base CX0 3 T.f_Question_cost T.d_Question_cost ["self", "record"] (sp_Question_cost T) := ok_Question_cost T
  have G_Rank___init__ : FnOk P w K mg base CX0 1 T.f_Rank___init__ T.d_Rank___init__ ["self", "cost", "name"] (sp_Rank___init__ T) := ok_Rank___init__ T
  refine T.F_Question_rank.ok sc_Question_rank (fun vs H Q E h => ?_) (fun cdv A outer s H vs Q E hr h => ?_)
  · obtain ⟨Z0, v_self, v_record, x_self, x_record, y, rfl, _⟩ := h
    rfl
  · obtain ⟨Z0, v_self, v_record, x_self, x_record, y, rfl, sz, h_self, h_record, hF, q⟩ := h
    refine ⟨_, (pss_one (ps_ret (pe_make T.mk_Rank G_Rank___init__ (hr.mono (by decide)) (by rfl) T.mc_Rank T.b_Rank___init__ .nil pass0 (pa_cons (pe_meth (pv 0) T.cl_Question T.me_Question_cost G_Question_cost (hr.mono (by decide)) T.b_Question_cost .nil pass0 (pa_cons (pv 1) pa_nil)) (pa_cons (pe_fld (pv 1) rfl) pa_nil))))), ?_⟩
    have P := Pt.start0 sz
    unfold F_Question_rank at hF
    obtain ⟨r_900, h_901, hF⟩ := bind_inv hF
    replace hF := Option.some.inj hF
    subst hF
    refine st_ret P (ev_make (is_Rank___init__ T) (eva_cons (ev_meth (oo_Question T (by decide +kernel)) (cs_Question_cost T h_901) (ev_var (τ := (y_Question T)) rfl h_self) (eva_cons (ev_var (τ := (y_Record T)) rfl h_record) eva_nil)) (eva_cons (ev_fld (fo_Record_name T) T.cl_Record T.n_Record_name (ev_var (τ := (y_Record T)) rfl h_record)) eva_nil))) (fun v Z1 H1 P1 hv => ?_)
    exact q v _ _ P1.st hv
theorem cs_Question_rank (T : Txt w K mg) {μ : Type} {M : Mu μ} {s : μ} {E : XK} {x_self : Question} {x_record : Record} {y : Rank} (h : F_Question_rank x_self x_record = some y) : CallS M (sp_Question_rank T) E (rac (ty (y_Question T) x_self) (rac (ty (y_Record T) x_record) ra0)) s (ty (y_Rank T) y) s := by
  rintro Z H vs sz m ⟨v_self, _, rfl, h_self, ⟨v_record, _, rfl, h_record, rfl⟩⟩ Q q
  exact ⟨Z, v_self, v_record, x_self, x_record, y, rfl, sz, h_self, h_record, h, fun v Z2 H2 st hv => q v Z2 H2 st.pure (M.pure st m) hv⟩
def sp_Rank___eq__ (T : Txt w K mg) : Sp := fun vs H Q _ => ∃ (Z0 : Hp) (v_self : V) (v_other : V) (x_self : Rank) (x_other : Rank), vs = [v_self, v_other] ∧ (Same Z0 H) ∧ (((y_Rank T)).r Z0 v_self x_self) ∧ (((y_Rank T)).r Z0 v_other x_other) ∧ ∀ v Z' H', Step [] Z0 H Z' H' → (yBool).r Z' v (F_Rank___eq__ x_self x_other) → Q v H'
set_option maxHeartbeats 4000000 in
theorem ok_Rank___eq__ (T : Txt w K mg) : FnOk P w K mg base CX0 1 T.f_Rank___eq__ T.d_Rank___eq__ ["self", "other"] (sp_Rank___eq__ T) := by
  refine T.F_Rank___eq__.ok sc_Rank___eq__ (fun vs H Q E h => ?_) (fun cdv A outer s H vs Q E hr h => ?_)
  · obtain ⟨Z0, v_self, v_other, x_self, x_other, rfl, _⟩ := h
    rfl
  · obtain ⟨Z0, v_self, v_other, x_self, x_other, rfl, sz, h_self, h_other, q⟩ := h
    refine ⟨_, (pss_one (ps_ret (pe_and (pe_callB call_isi (by rfl) T.m_isinstance (by decide +kernel) (pa_cons (pv 1) (pa_cons (pe_glob (v := .ref T.c_Rank) rfl T.mc_Rank rfl) pa_nil))) (pe_and (pe_cmpR op_eq (pe_fld (pv 0) rfl) (pe_fld (pv 1) rfl) (nomark _)) (pe_one (pe_cmpR op_eq (pe_fld (pv 0) rfl) (pe_fld (pv 1) rfl) (nomark _))))))), ?_⟩
    have P := Pt.start0 sz
    generalize hF : F_Rank___eq__ x_self x_other = y at q
    unfold F_Rank___eq__ at hF
    subst hF
    refine st_ret P (ev_and0 (ev_isi (b := true) (fun _ _ _ h => h) (ev_var (τ := (y_Rank T)) rfl h_other) (tx_Rank T) (.own _) T.kit_Rank_Rank) (ev_and0 (ev_eq flat_int (ev_fld (fo_Rank_cost T) T.cl_Rank T.n_Rank_cost (ev_var (τ := (y_Rank T)) rfl h_self)) (ev_fld (fo_Rank_cost T) T.cl_Rank T.n_Rank_cost (ev_var (τ := (y_Rank T)) rfl h_other))) (ev_eq flat_str (ev_fld (fo_Rank_name T) T.cl_Rank T.n_Rank_name (ev_var (τ := (y_Rank T)) rfl h_self)) (ev_fld (fo_Rank_name T) T.cl_Rank T.n_Rank_name (ev_var (τ := (y_Rank T)) rfl h_other))))) (fun v Z1 H1 P1 hv => ?_)
    exact q v _ _ P1.st hv
theorem cs_Rank___eq__ (T : Txt w K mg) {μ : Type} {M : Mu μ} {s : μ} {E : XK} {x_self : Rank} {x_other : Rank} : CallS M (sp_Rank___eq__ T) E (rac (ty (y_Rank T) x_self) (rac (ty (y_Rank T) x_other) ra0)) s (ty yBool (F_Rank___eq__ x_self x_other)) s := by
  rintro Z H vs sz m ⟨v_self, _, rfl, h_self, ⟨v_other, _, rfl, h_other, rfl⟩⟩ Q q
  exact ⟨Z, v_self, v_other, x_self, x_other, rfl, sz, h_self, h_other, fun v Z2 H2 st hv => q v Z2 H2 st.pure (M.pure st m) hv⟩
def sp_law (K : PySem.W.Frag) : Sp := fun vs H Q _ => ∃ (a : Addr) (ns : List Int), vs = [.ref a] ∧ (SqL K H a (ns.map V.int)) ∧ (ns.length ≤ 63) ∧ ∀ H', Q (.bl true) H'
set_option maxHeartbeats 8000000 in
theorem ok_law (T : Txt w K mg) : FnOk P w K mg base CX0 11 T.f_law T.d_law ["script"] (sp_law K) := by
  have G_Rank___eq__ : FnOk P w K mg base CX0 1 T.f_Rank___eq__ T.d_Rank___eq__ ["self", "other"] (sp_Rank___eq__ T) := ok_Rank___eq__ T
  have G_Question_rank : FnOk P w K mg base CX0 4 T.f_Question_rank T.d_Question_rank ["self", "record"] (sp_Question_rank T) := ok_Question_rank T
  have G_Rank___init__ : FnOk P w K mg base CX0 1 T.f_Rank___init__ T.d_Rank___init__ ["self", "cost", "name"] (sp_Rank___init__ T) := ok_Rank___init__ T
  have G_Question_cost : FnOk P w K mg base CX0 3 T.f_Question_cost T.d_Question_cost ["self", "record"] (sp_Question_cost T) := ok_Question_cost T
  have G_law_cost : FnOk P w K mg base CX0 2 T.f_law_cost T.d_law_cost ["measure", "query", "vector", "words"] (sp_law_cost T) := ok_law_cost T
  have G_Record___init__ : FnOk P w K mg base CX0 1 T.f_Record___init__ T.d_Record___init__ ["self", "name", "vector", "fields", "words"] (sp_Record___init__ T) := ok_Record___init__ T
  have G_law_pairs : FnOk P w K mg base CX0 4 T.f_law_pairs T.d_law_pairs ["state", "fields"] (sp_law_pairs T) := ok_law_pairs T
  have G_law_words : FnOk P w K mg base CX0 3 T.f_law_words T.d_law_words ["state"] (sp_law_words T) := ok_law_words T
  have G_law_name : FnOk P w K mg base CX0 3 T.f_law_name T.d_law_name ["state"] (sp_law_name T) := ok_law_name T
  have G_law_number : FnOk P w K mg base CX0 3 T.f_law_number T.d_law_number ["state", "width"] (sp_law_number T) := ok_law_number T
  have G_Query___init__ : FnOk P w K mg base CX0 1 T.f_Query___init__ T.d_Query___init__ ["self", "vector", "near", "words", "text", "most"] (sp_Query___init__ T) := ok_Query___init__ T
  have G_Question___init__ : FnOk P w K mg base (L2.CX P w) 9 T.f_Question___init__ T.d_Question___init__ ["self", "schema", "query"] (sp_Question___init__ T) := ok_Question___init__ T
  have G_law_query : FnOk P w K mg base CX0 4 T.f_law_query T.d_law_query ["state", "drawn"] (sp_law_query T) := ok_law_query T
  have G_Schema___init__ : FnOk P w K mg base (L2.CX P w) 4 T.f_Schema___init__ T.d_Schema___init__ ["self", "size", "width", "measure", "fields"] (sp_Schema___init__ T) := ok_Schema___init__ T
  have G_law_schema : FnOk P w K mg base CX0 4 T.f_law_schema T.d_law_schema ["state"] (sp_law_schema T) := ok_law_schema T
  refine T.F_law.ok sc_law (fun vs H Q E h => ?_) (fun cdv A outer s H vs Q E hr h => ?_)
  · obtain ⟨a, ns, rfl, _⟩ := h
    rfl
  · obtain ⟨a, ns, rfl, hA, hlen, q⟩ := h
    refine ⟨_, (pss_cons (ps_set (i := 1) sc_law.nd rfl (.inr rfl) (pe_lst (pa_cons (pe_callTy call_list_of (by rfl) T.m_list (by decide +kernel) (pa_cons (pv 0) pa_nil)) (pa_cons pe_int (pa_cons pe_int pa_nil))))) 
      (pss_cons (ps_set (i := 2) sc_law.nd rfl (.inr rfl) (pe_call G_law_schema (hr.mono (by decide)) (by rfl) T.g_law_schema T.F_law_schema.kp T.b_law_schema .nil pass0 (pa_cons (pv 1) pa_nil))) 
      (pss_cons (ps_set (i := 3) sc_law.nd rfl (.inl rfl) (pe_makeK T.mk_Schema G_Schema___init__ (hr.mono (by decide)) (by rfl) T.mc_Schema T.kb_Schema___init__ passL (pa_cons (pe_ix ix_tup (pv 2) pe_int (fun _ _ => rfl)) pa_nil) (pk_cons (pe_ix ix_tup (pv 2) pe_int (fun _ _ => rfl)) (pk_cons (pe_ix ix_tup (pv 2) pe_int (fun _ _ => rfl)) (pk_cons (pe_ix ix_tup (pv 2) pe_int (fun _ _ => rfl)) pk_nil))))) 
      (pss_cons (ps_set (i := 4) sc_law.nd rfl (.inl rfl) (pe_call G_law_query (hr.mono (by decide)) (by rfl) T.g_law_query T.F_law_query.kp T.b_law_query .nil pass0 (pa_cons (pv 1) (pa_cons (pv 2) pa_nil)))) 
      (pss_cons (ps_set (i := 5) sc_law.nd rfl (.inl rfl) (pe_make T.mk_Question G_Question___init__ (hr.mono (by decide)) (by rfl) T.mc_Question T.b_Question___init__ .nil passL (pa_cons (pv 3) (pa_cons (pe_makeK T.mk_Query G_Query___init__ (hr.mono (by decide)) (by rfl) T.mc_Query T.kb_Query___init___k0 pass0 (pa_cons (pe_ix ix_tup (pv 4) pe_int (fun _ _ => rfl)) pa_nil) (pk_cons (pe_ix ix_tup (pv 4) pe_int (fun _ _ => rfl)) (pk_cons (pe_ix ix_tup (pv 4) pe_int (fun _ _ => rfl)) (pk_cons pe_int pk_nil)))) pa_nil)))) 
      (pss_cons (ps_for PassesOwn.never rfl (pi_range1 rfl T.m_range (pa_cons pe_int pa_nil)) (pg_name (i := 6) sc_law.nd rfl (.inl rfl)) (pss_cons (ps_setLc (i := 7) (own := [("k", 8)]) (g := gName 8) rfl sc_law.nd rfl rfl (sw_true rfl rfl rfl (by decide +kernel)) (pi_range1 rfl T.m_range (pa_cons (pe_ix ix_tup (pv 2) pe_int (fun _ _ => rfl)) pa_nil)) (blkOk_by (own := [("k", 8)]) (N := ["script", "state", "drawn", "schema", "query", "question", "turn", "vector", "k", "name", "words", "record", "due", "actual"]) (sc := defScope s_law) (by decide +kernel)) (fun _ _ _ _ _ => (pg_name (i := 8) sc_law.nd rfl (Or.inl rfl))) (fun _ _ _ _ _ => pts_nil) (fun _ _ _ _ _ => (pe_call G_law_number (hr.mono (by decide)) (by rfl) T.g_law_number T.F_law_number.kp T.b_law_number .nil pass0 (pa_cons (pv 1) (pa_cons (pe_ix (r := rIxT K) (by exact ix_tup) (pv 2) pe_int (fun _ _ => rfl)) pa_nil))))) 
      (pss_cons (ps_set (i := 9) sc_law.nd rfl (.inl rfl) (pe_call G_law_name (hr.mono (by decide)) (by rfl) T.g_law_name T.F_law_name.kp T.b_law_name .nil pass0 (pa_cons (pv 1) pa_nil))) 
      (pss_cons (ps_set (i := 10) sc_law.nd rfl (.inl rfl) (pe_call G_law_words (hr.mono (by decide)) (by rfl) T.g_law_words T.F_law_words.kp T.b_law_words .nil pass0 (pa_cons (pv 1) pa_nil))) 
      (pss_cons (ps_set (i := 11) sc_law.nd rfl (.inl rfl) (pe_makeK T.mk_Record G_Record___init__ (hr.mono (by decide)) (by rfl) T.mc_Record T.kb_Record___init__ pass0 (pa_cons (pv 9) (pa_cons (pv 7) pa_nil)) (pk_cons (pe_call G_law_pairs (hr.mono (by decide)) (by rfl) T.g_law_pairs T.F_law_pairs.kp T.b_law_pairs .nil pass0 (pa_cons (pv 1) (pa_cons (pe_ix ix_tup (pv 2) pe_int (fun _ _ => rfl)) pa_nil))) (pk_cons (pv 10) pk_nil)))) 
      (pss_cons (ps_set (i := 12) sc_law.nd rfl (.inl rfl) (pe_call G_law_cost (hr.mono (by decide)) (by rfl) T.g_law_cost T.F_law_cost.kp T.b_law_cost .nil pass0 (pa_cons (pe_ix ix_tup (pv 2) pe_int (fun _ _ => rfl)) (pa_cons (pv 4) (pa_cons (pv 7) (pa_cons (pv 10) pa_nil)))))) 
      (pss_cons (ps_set (i := 13) sc_law.nd rfl (.inl rfl) (pe_meth (pv 5) T.cl_Question T.me_Question_cost G_Question_cost (hr.mono (by decide)) T.b_Question_cost .nil pass0 (pa_cons (pv 11) pa_nil))) 
      (pss_cons (ps_if (PW.pt (pw_or (pt_not (pt_val (pe_callB call_isi (by rfl) T.m_isinstance (by decide +kernel) (pa_cons (pv 13) (pa_cons (pe_bltn (v := .ty "int") (u := .type "int") (by rfl) T.m_int (by decide +kernel) rfl) pa_nil))))) (pw_or (pt_val (pe_callB call_isi (by rfl) T.m_isinstance (by decide +kernel) (pa_cons (pv 13) (pa_cons (pe_bltn (v := .ty "bool") (u := .type "bool") (by rfl) T.m_bool (by decide +kernel) rfl) pa_nil)))) (pw_or1 (pt_cmpR op_ne (pv 13) (pv 12) (nomark _)))))) (pss_one (ps_ret pe_bl)) pss_nil) 
      (pss_one (ps_if (pt_not (pt_cmpR (TPN.op_ownE T.me_Rank___eq__ G_Rank___eq__ (hr.mono (by decide)) T.b_Rank___eq__ pass0) (pe_meth (pv 5) T.cl_Question T.me_Question_rank G_Question_rank (hr.mono (by decide)) T.b_Question_rank .nil pass0 (pa_cons (pv 11) pa_nil)) (pe_make T.mk_Rank G_Rank___init__ (hr.mono (by decide)) (by rfl) T.mc_Rank T.b_Rank___init__ .nil pass0 (pa_cons (pv 12) (pa_cons (pv 9) pa_nil))) (nomark _))) (pss_one (ps_ret pe_bl)) pss_nil)))))))))) 
      (pss_one (ps_ret pe_bl)))))))), ?_⟩
    have hF := law_true ns hlen
    unfold F_law at hF
    refine st_norm (by dsimp only [List.set, L2.start, List.map, List.length, List.replicate, List.cons_append, List.nil_append, Nat.reduceSub, Nat.reduceAdd]) ?_
    refine st_seq ?_
    refine st_draws hA hlen (fun st sc Z0 Z1 H1 P => ?_)
    refine st_nx ?_
    refine st_norm (by dsimp only [List.set, L2.start, List.map, List.length, List.replicate, List.cons_append, List.nil_append, Nat.reduceSub, Nat.reduceAdd]) ?_
    obtain ⟨r_902, h_903, hF⟩ := bind_inv hF
    refine st_seq (st_set P (ev_call (cs_law_schema T h_903) (eva_cons (ev_ref rfl) eva_nil)) (fun v_904 Z1 H1 e P1 k_905 => ?_))
    refine st_nx ?_
    replace P := P1
    refine st_norm (by dsimp only [List.set, L2.start, List.map, List.length, List.replicate, List.cons_append, List.nil_append, Nat.reduceSub, Nat.reduceAdd]) ?_
    obtain ⟨r_906, h_907, hF⟩ := bind_inv hF
    refine st_seq (st_set P (ev_makeK (is_Schema___init__ T (val_inv h_907)) (eva_cons (ev_cast (ev_part po4_0 (ev_var (τ := (yP4 K yInt yStr yStr (yList (yP2 K yStr yStr)))) rfl k_905) ev_int) rfl) eva_nil) (eva_cons (ev_cast (ev_part po4_1 (ev_var (τ := (yP4 K yInt yStr yStr (yList (yP2 K yStr yStr)))) rfl k_905) ev_int) rfl) (eva_cons (ev_cast (ev_part po4_2 (ev_var (τ := (yP4 K yInt yStr yStr (yList (yP2 K yStr yStr)))) rfl k_905) ev_int) rfl) (eva_cons (ev_cast (ev_part po4_3 (ev_var (τ := (yP4 K yInt yStr yStr (yList (yP2 K yStr yStr)))) rfl k_905) ev_int) rfl) eva_nil))) (fun Z H vs zs x hv hz => by
          obtain ⟨v0, _, rfl, hv0, rfl⟩ := hv
          obtain ⟨w0, _, rfl, hw0, ⟨w1, _, rfl, hw1, ⟨w2, _, rfl, hw2, rfl⟩⟩⟩ := hz
          exact ⟨rfl, rfl, _, rfl, ⟨v0, _, rfl, hv0, ⟨w0, _, rfl, hw0, ⟨w1, _, rfl, hw1, ⟨w2, _, rfl, hw2, rfl⟩⟩⟩⟩⟩)) (fun v_908 Z1 H1 e P1 k_909 => ?_))
    refine st_nx ?_
    replace P := P1
    replace k_905 := ((yP4 K yInt yStr yStr (yList (yP2 K yStr yStr)))).mono e.z k_905
    refine st_norm (by dsimp only [List.set, L2.start, List.map, List.length, List.replicate, List.cons_append, List.nil_append, Nat.reduceSub, Nat.reduceAdd]) ?_
    obtain ⟨r_910, h_911, hF⟩ := bind_inv hF
    refine st_seq (st_set P (ev_call (cs_law_query T h_911) (eva_cons (ev_ref rfl) (eva_cons (ev_var (τ := (yP4 K yInt yStr yStr (yList (yP2 K yStr yStr)))) rfl k_905) eva_nil))) (fun v_912 Z1 H1 e P1 k_913 => ?_))
    refine st_nx ?_
    replace P := P1
    replace k_905 := ((yP4 K yInt yStr yStr (yList (yP2 K yStr yStr)))).mono e.z k_905
    replace k_909 := ((y_Schema T)).mono e.z k_909
    refine st_norm (by dsimp only [List.set, L2.start, List.map, List.length, List.replicate, List.cons_append, List.nil_append, Nat.reduceSub, Nat.reduceAdd]) ?_
    obtain ⟨r_914, h_915, hF⟩ := bind_inv hF
    refine st_seq (st_set P (ev_make (is_Question___init__ T (val_inv h_915)) (eva_cons (ev_var (τ := (y_Schema T)) rfl k_909) (eva_cons (ev_makeK (is_Query___init__ T) (eva_cons (ev_cast (ev_part po3_0 (ev_var (τ := (yP3 K (yList yInt) yInt (yList (yP2 K yStr yInt)))) rfl k_913) ev_int) rfl) eva_nil) (eva_cons (ev_cast (ev_part po3_1 (ev_var (τ := (yP3 K (yList yInt) yInt (yList (yP2 K yStr yInt)))) rfl k_913) ev_int) rfl) (eva_cons (ev_cast (ev_part po3_2 (ev_var (τ := (yP3 K (yList yInt) yInt (yList (yP2 K yStr yInt)))) rfl k_913) ev_int) rfl) (eva_cons ev_int eva_nil))) (fun Z H vs zs x hv hz => by
          obtain ⟨v0, _, rfl, hv0, rfl⟩ := hv
          obtain ⟨w0, _, rfl, hw0, ⟨w1, _, rfl, hw1, ⟨w2, _, rfl, hw2, rfl⟩⟩⟩ := hz
          exact ⟨rfl, rfl, _, rfl, ⟨v0, _, rfl, hv0, ⟨w0, _, rfl, hw0, ⟨w1, _, rfl, hw1, ⟨_, _, rfl, ⟨rfl, by decide +kernel⟩, ⟨w2, _, rfl, hw2, rfl⟩⟩⟩⟩⟩⟩)) eva_nil))) (fun v_916 Z1 H1 e P1 k_917 => ?_))
    refine st_nx ?_
    replace P := P1
    replace k_905 := ((yP4 K yInt yStr yStr (yList (yP2 K yStr yStr)))).mono e.z k_905
    replace k_913 := ((yP3 K (yList yInt) yInt (yList (yP2 K yStr yInt)))).mono e.z k_913
    refine st_norm (by dsimp only [List.set, L2.start, List.map, List.length, List.replicate, List.cons_append, List.nil_append, Nat.reduceSub, Nat.reduceAdd]) ?_
    obtain ⟨f_992, hL_993, hF⟩ := bind_inv hF
    refine st_seq (st_for (τ := yInt) (fun (r_920 : List Int) σ' Z' H' => ∃ w_918, ∃ (y_925 : Option V) (y_927 : Option V) (y_930 : Option V) (y_931 : Option V) (y_932 : Option V) (y_933 : Option V) (y_934 : Option V) (y_935 : Option V) (y_936 : Option V) (y_937 : Option V), σ' = [y_925, some (.ref st), some v_904, y_927, some v_912, some v_916, y_930, y_931, y_932, y_933, y_934, y_935, y_936, y_937] ∧ Pt [] Z0 H (muD st sc) Z' H' w_918 ∧ ((yP4 K yInt yStr yStr (yList (yP2 K yStr yStr)))).r Z' v_904 r_902.1 ∧ ((yP3 K (yList yInt) yInt (yList (yP2 K yStr yInt)))).r Z' v_912 r_910.1 ∧ ((y_Question T)).r Z' v_916 r_914 ∧ forS (L_law_1 r_902 r_910 r_914) r_920 w_918 = some f_992) P (ei_rng1 ev_int (by decide)) ?_ ?_ ?_)
    · rintro Z1 H1 e P1
      replace P := P1
      replace k_905 := ((yP4 K yInt yStr yStr (yList (yP2 K yStr yStr)))).mono e.z k_905
      replace k_913 := ((yP3 K (yList yInt) yInt (yList (yP2 K yStr yInt)))).mono e.z k_913
      replace k_917 := ((y_Question T)).mono e.z k_917
      exact ⟨r_910.2, _, _, _, _, _, _, _, _, _, _, rfl, P, k_905, k_913, k_917, hL_993⟩
    · rintro Zb_924 Hb eb x_919 r_920 σ' v_952 Z1 H1 Z2 H2 zs_923 ⟨w_918, y_925, y_927, y_930, y_931, y_932, y_933, y_934, y_935, y_936, y_937, rfl, P, k_926, k_928, k_929, hq_922⟩ e hx_953
      replace P := P.item e
      replace k_926 := ((yP4 K yInt yStr yStr (yList (yP2 K yStr yStr)))).mono e.z k_926
      replace k_928 := ((yP3 K (yList yInt) yInt (yList (yP2 K yStr yInt)))).mono e.z k_928
      replace k_929 := ((y_Question T)).mono e.z k_929
      replace zs_923 := zs_923.trans e.z
      obtain ⟨u_954, hB_921, hq_922⟩ := bind_inv (forS_cons hq_922)
      unfold L_law_1 at hB_921
      refine tgt_name _ P.sub _ ?_
      refine st_norm (by dsimp only [List.set, L2.start, List.map, List.length, List.replicate, List.cons_append, List.nil_append, Nat.reduceSub, Nat.reduceAdd]) ?_
      obtain ⟨g_955, hB_921⟩ := guard_inv hB_921
      obtain ⟨l_962, h_963, hB_921⟩ := bind_inv hB_921
      refine st_seq (st_set P (ev_fz (en_mapS (υ := yInt) (fun (x_956 : Int) (s_957 : DS) => ((F_law_number s_957 r_902.1.2.1).bind fun r_960 =>
      some (r_960.1, r_960.2) : Option (Int × DS))) (ei_rng1 (ev_cast (ev_part po4_0 (ev_var (τ := (yP4 K yInt yStr yStr (yList (yP2 K yStr yStr)))) rfl k_926) ev_int) rfl) g_955) (fun x_956 v_958 Z' H' s_957 p zz hh rx_959 hp => by
            replace k_926 := ((yP4 K yInt yStr yStr (yList (yP2 K yStr yStr)))).mono zz k_926
            have hy := hp
            obtain ⟨r_960, h_961, hy⟩ := bind_inv hy
            have hy := Option.some.inj hy
            subst hy
            exact ⟨_, tgt_name, (wpe_s wpe_z (by decide)), (ev_call (cs_law_number T h_961) (eva_cons (ev_ref rfl) (eva_cons (ev_cast (ev_part po4_1 (ev_var (τ := (yP4 K yInt yStr yStr (yList (yP2 K yStr yStr)))) rfl k_926) ev_int) rfl) eva_nil)))⟩) h_963)) (fun v_964 Z1 H1 e P1 k_965 => ?_))
      refine st_nx ?_
      replace P := P1
      replace k_926 := ((yP4 K yInt yStr yStr (yList (yP2 K yStr yStr)))).mono e.z k_926
      replace k_928 := ((yP3 K (yList yInt) yInt (yList (yP2 K yStr yInt)))).mono e.z k_928
      replace k_929 := ((y_Question T)).mono e.z k_929
      replace zs_923 := zs_923.trans e.z
      refine st_norm (by dsimp only [List.set, L2.start, List.map, List.length, List.replicate, List.cons_append, List.nil_append, Nat.reduceSub, Nat.reduceAdd]) ?_
      obtain ⟨r_966, h_967, hB_921⟩ := bind_inv hB_921
      refine st_seq (st_set P (ev_call (cs_law_name T h_967) (eva_cons (ev_ref rfl) eva_nil)) (fun v_968 Z1 H1 e P1 k_969 => ?_))
      refine st_nx ?_
      replace P := P1
      replace k_926 := ((yP4 K yInt yStr yStr (yList (yP2 K yStr yStr)))).mono e.z k_926
      replace k_928 := ((yP3 K (yList yInt) yInt (yList (yP2 K yStr yInt)))).mono e.z k_928
      replace k_929 := ((y_Question T)).mono e.z k_929
      replace k_965 := ((yList yInt)).mono e.z k_965
      replace zs_923 := zs_923.trans e.z
      refine st_norm (by dsimp only [List.set, L2.start, List.map, List.length, List.replicate, List.cons_append, List.nil_append, Nat.reduceSub, Nat.reduceAdd]) ?_
      obtain ⟨r_970, h_971, hB_921⟩ := bind_inv hB_921
      refine st_seq (st_set P (ev_call (cs_law_words T h_971) (eva_cons (ev_ref rfl) eva_nil)) (fun v_972 Z1 H1 e P1 k_973 => ?_))
      refine st_nx ?_
      replace P := P1
      replace k_926 := ((yP4 K yInt yStr yStr (yList (yP2 K yStr yStr)))).mono e.z k_926
      replace k_928 := ((yP3 K (yList yInt) yInt (yList (yP2 K yStr yInt)))).mono e.z k_928
      replace k_929 := ((y_Question T)).mono e.z k_929
      replace k_965 := ((yList yInt)).mono e.z k_965
      replace zs_923 := zs_923.trans e.z
      refine st_norm (by dsimp only [List.set, L2.start, List.map, List.length, List.replicate, List.cons_append, List.nil_append, Nat.reduceSub, Nat.reduceAdd]) ?_
      obtain ⟨r_974, h_975, hB_921⟩ := bind_inv hB_921
      obtain ⟨x_record_976, h_977, hB_921⟩ := bind_inv hB_921
      replace h_977 := Option.some.inj h_977
      refine st_seq (st_set P (ev_cast (ev_makeK (is_Record___init__ T) (eva_cons (ev_var (τ := yStr) rfl k_969) (eva_cons (ev_var (τ := (yList yInt)) rfl k_965) eva_nil)) (eva_cons (ev_call (cs_law_pairs T h_975) (eva_cons (ev_ref rfl) (eva_cons (ev_cast (ev_part po4_3 (ev_var (τ := (yP4 K yInt yStr yStr (yList (yP2 K yStr yStr)))) rfl k_926) ev_int) rfl) eva_nil))) (eva_cons (ev_var (τ := (yList (yP2 K yStr yInt))) rfl k_973) eva_nil)) (fun Z H vs zs x hv hz => by
            obtain ⟨v0, _, rfl, hv0, ⟨v1, _, rfl, hv1, rfl⟩⟩ := hv
            obtain ⟨w0, _, rfl, hw0, ⟨w1, _, rfl, hw1, rfl⟩⟩ := hz
            exact ⟨rfl, rfl, _, rfl, ⟨v0, _, rfl, hv0, ⟨v1, _, rfl, hv1, ⟨w0, _, rfl, hw0, ⟨w1, _, rfl, hw1, rfl⟩⟩⟩⟩⟩)) h_977) (fun v_978 Z1 H1 e P1 k_979 => ?_))
      refine st_nx ?_
      replace P := P1
      replace k_926 := ((yP4 K yInt yStr yStr (yList (yP2 K yStr yStr)))).mono e.z k_926
      replace k_928 := ((yP3 K (yList yInt) yInt (yList (yP2 K yStr yInt)))).mono e.z k_928
      replace k_929 := ((y_Question T)).mono e.z k_929
      replace k_965 := ((yList yInt)).mono e.z k_965
      replace k_973 := ((yList (yP2 K yStr yInt))).mono e.z k_973
      replace zs_923 := zs_923.trans e.z
      refine st_norm (by dsimp only [List.set, L2.start, List.map, List.length, List.replicate, List.cons_append, List.nil_append, Nat.reduceSub, Nat.reduceAdd]) ?_
      obtain ⟨r_980, h_981, hB_921⟩ := bind_inv hB_921
      refine st_seq (st_set P (ev_call (cs_law_cost T h_981) (eva_cons (ev_cast (ev_part po4_2 (ev_var (τ := (yP4 K yInt yStr yStr (yList (yP2 K yStr yStr)))) rfl k_926) ev_int) rfl) (eva_cons (ev_var (τ := (yP3 K (yList yInt) yInt (yList (yP2 K yStr yInt)))) rfl k_928) (eva_cons (ev_var (τ := (yList yInt)) rfl k_965) (eva_cons (ev_var (τ := (yList (yP2 K yStr yInt))) rfl k_973) eva_nil))))) (fun v_982 Z1 H1 e P1 k_983 => ?_))
      refine st_nx ?_
      replace P := P1
      replace k_926 := ((yP4 K yInt yStr yStr (yList (yP2 K yStr yStr)))).mono e.z k_926
      replace k_928 := ((yP3 K (yList yInt) yInt (yList (yP2 K yStr yInt)))).mono e.z k_928
      replace k_929 := ((y_Question T)).mono e.z k_929
      replace k_979 := ((y_Record T)).mono e.z k_979
      replace zs_923 := zs_923.trans e.z
      refine st_norm (by dsimp only [List.set, L2.start, List.map, List.length, List.replicate, List.cons_append, List.nil_append, Nat.reduceSub, Nat.reduceAdd]) ?_
      obtain ⟨r_984, h_985, hB_921⟩ := bind_inv hB_921
      refine st_seq (st_set P (ev_meth (oo_Question T (by decide +kernel)) (cs_Question_cost T h_985) (ev_var (τ := (y_Question T)) rfl k_929) (eva_cons (ev_var (τ := (y_Record T)) rfl k_979) eva_nil)) (fun v_986 Z1 H1 e P1 k_987 => ?_))
      refine st_nx ?_
      replace P := P1
      replace k_926 := ((yP4 K yInt yStr yStr (yList (yP2 K yStr yStr)))).mono e.z k_926
      replace k_928 := ((yP3 K (yList yInt) yInt (yList (yP2 K yStr yInt)))).mono e.z k_928
      replace k_929 := ((y_Question T)).mono e.z k_929
      replace k_979 := ((y_Record T)).mono e.z k_979
      replace zs_923 := zs_923.trans e.z
      refine st_norm (by dsimp only [List.set, L2.start, List.map, List.length, List.replicate, List.cons_append, List.nil_append, Nat.reduceSub, Nat.reduceAdd]) ?_
      refine st_seq (st_if P (et_or0 (et_not (et_val (ev_isi (b := true) (fun _ _ _ h => h) (ev_var (τ := yInt) rfl k_987) tx_int (.ty _) (kit_ty (by decide +kernel))))) (et_or0 (et_val (ev_isi (b := false) (fun _ _ _ h => h) (ev_var (τ := yInt) rfl k_987) tx_int (.ty _) (kit_ty (by decide +kernel)))) (et_cmp (ev_ne flat_int (ev_var (τ := yInt) rfl k_987) (ev_var (τ := yInt) rfl k_983))))) (fun b_988 Z1 H1 e P1 => ?_) (fun b_988 Z1 H1 e P1 => ?_))
      · replace P := P1
        have hB := ifT b_988 hB_921
        replace hB_921 := hB
        clear hB
        replace zs_923 := zs_923.trans e.z
        refine st_norm (by dsimp only [List.set, L2.start, List.map, List.length, List.replicate, List.cons_append, List.nil_append, Nat.reduceSub, Nat.reduceAdd]) ?_
        replace hB_921 := Option.some.inj hB_921
        subst hB_921
        have hz := nxt_ret hq_922
        subst hz
        have hz := ret_inv hF
        have hb := Option.some.inj hz
        refine st_ret P ev_bl (fun v Z H P hv => ?_)
        have hv2 : v = V.bl _ := hv
        rw [hb] at hv2
        rw [hv2]
        exact q _
      · replace P := P1
        have hB := ifF b_988 hB_921
        replace hB_921 := hB
        clear hB
        refine st_next0 ?_
        replace k_926 := ((yP4 K yInt yStr yStr (yList (yP2 K yStr yStr)))).mono e.z k_926
        replace k_928 := ((yP3 K (yList yInt) yInt (yList (yP2 K yStr yInt)))).mono e.z k_928
        replace k_929 := ((y_Question T)).mono e.z k_929
        replace k_979 := ((y_Record T)).mono e.z k_979
        replace zs_923 := zs_923.trans e.z
        refine st_norm (by dsimp only [List.set, L2.start, List.map, List.length, List.replicate, List.cons_append, List.nil_append, Nat.reduceSub, Nat.reduceAdd]) ?_
        obtain ⟨r_989, h_990, hB_921⟩ := bind_inv hB_921
        refine st_if P (et_not (et_cmp (ev_cast (ev_ownE (neg := false) (ins_Rank T) (tx_Rank T) TPN.nf_self (cs_Rank___eq__ T) (ev_meth (oo_Question T (by decide +kernel)) (cs_Question_rank T h_990) (ev_var (τ := (y_Question T)) rfl k_929) (eva_cons (ev_var (τ := (y_Record T)) rfl k_979) eva_nil)) (ev_make (is_Rank___init__ T) (eva_cons (ev_var (τ := yInt) rfl k_983) (eva_cons (ev_var (τ := yStr) rfl k_969) eva_nil)))) bneF))) (fun b_991 Z1 H1 e P1 => ?_) (fun b_991 Z1 H1 e P1 => ?_)
        · replace P := P1
          have hB := ifT b_991 hB_921
          replace hB_921 := hB
          clear hB
          replace zs_923 := zs_923.trans e.z
          refine st_norm (by dsimp only [List.set, L2.start, List.map, List.length, List.replicate, List.cons_append, List.nil_append, Nat.reduceSub, Nat.reduceAdd]) ?_
          replace hB_921 := Option.some.inj hB_921
          subst hB_921
          have hz := nxt_ret hq_922
          subst hz
          have hz := ret_inv hF
          have hb := Option.some.inj hz
          refine st_ret P ev_bl (fun v Z H P hv => ?_)
          have hv2 : v = V.bl _ := hv
          rw [hb] at hv2
          rw [hv2]
          exact q _
        · replace P := P1
          have hB := ifF b_991 hB_921
          replace hB_921 := hB
          clear hB
          refine st_next ?_
          replace k_926 := ((yP4 K yInt yStr yStr (yList (yP2 K yStr yStr)))).mono e.z k_926
          replace k_928 := ((yP3 K (yList yInt) yInt (yList (yP2 K yStr yInt)))).mono e.z k_928
          replace k_929 := ((y_Question T)).mono e.z k_929
          replace zs_923 := zs_923.trans e.z
          replace hB_921 := Option.some.inj hB_921
          subst hB_921
          exact ⟨_, zs_923, P.sub, r_974.2, _, _, _, _, _, _, _, _, _, _, rfl, P, k_926, k_928, k_929, (nxt_go hq_922)⟩
    rintro σ' Z1 H1 _ _ ⟨w_938, y_925, y_927, y_930, y_931, y_932, y_933, y_934, y_935, y_936, y_937, rfl, P, k_926, k_928, k_929, hl⟩
    have hz := forS_nil hl
    subst hz
    replace hF := go_inv hF
    refine st_nx ?_
    refine st_norm (by dsimp only [List.set, L2.start, List.map, List.length, List.replicate, List.cons_append, List.nil_append, Nat.reduceSub, Nat.reduceAdd]) ?_
    have hb := Option.some.inj hF
    refine st_ret P ev_bl (fun v Z H P hv => ?_)
    have hv2 : v = V.bl _ := hv
    rw [hb] at hv2
    rw [hv2]
    exact q _
end
set_option maxRecDepth 100000 in
set_option maxHeartbeats 0 in
theorem all_mk {l : PySem.W.OpenLaw} {w : World} {K : PySem.W.Frag} {h : Heap} {mg : Str → Option Value} {fa f0 f1 f2 f3 f4 f5 f6 f7 f8 f9 f10 f11 f12 f13 f14 f15 f16 f17 f18 f19 f20 f21 f22 f23 f24 f25 f26 f27 f28 f29 f30 f31 f32 f33 f34 f35 f36 f37 f38 f39 f40 f41 f42 f43 f44 f45 : Addr} (X : K.In h) (G : h.Ns mainGlobals mg) (hfa : mg "law" = some (.ref fa))
    {od0 an0 od1 an1 od2 an2 od3 an3 od4 an4 od5 an5 od6 an6 od7 an7 od8 an8 od9 an9 od10 an10 od11 an11 od12 an12 od13 an13 od14 an14 od15 an15 od16 an16 od17 an17 od18 an18 od19 an19 od20 an20 od21 an21 od22 an22 od23 an23 od24 an24 od25 an25 od26 an26 od27 an27 od28 an28 od29 an29 od30 an30 od31 an31 od32 an32 od33 an33 od34 an34 od35 an35 od36 an36 od37 an37 od38 an38 od39 an39 od40 an40 od41 an41 od42 an42 od43 an43 od44 an44 od45 an45 : Option Addr} {sl0 sl1 sl2 sl3 sl4 sl5 sl6 sl7 sl8 sl9 sl10 sl11 sl12 sl13 sl14 sl15 sl16 sl17 sl18 sl19 sl20 sl21 sl22 sl23 sl24 sl25 sl26 sl27 sl28 sl29 sl30 sl31 sl32 sl33 sl34 sl35 sl36 sl37 sl38 sl39 sl40 sl41 sl42 sl43 sl44 sl45 : Array (Option Value)} {oc0 kV0 dc0 pm0 cd0 ct0 oc1 kV1 dc1 pm1 cd1 ct1 oc2 kV2 dc2 pm2 cd2 ct2 oc3 kV3 dc3 pm3 cd3 ct3 oc4 kV4 dc4 pm4 cd4 ct4 oc5 kV5 dc5 pm5 cd5 ct5 oc6 kV6 dc6 pm6 cd6 ct6 oc7 kV7 dc7 pm7 cd7 ct7 oc8 kV8 dc8 pm8 cd8 ct8 oc9 dc9 pm9 cd9 ct9 oc10 kV10 dc10 pm10 cd10 ct10 oc11 kV11 dc11 pm11 cd11 ct11 oc12 kV12 dc12 pm12 cd12 ct12 oc13 kV13 dc13 pm13 cd13 ct13 oc14 kV14 dc14 pm14 cd14 ct14 oc15 kV15 dc15 pm15 cd15 ct15 oc16 kV16 dc16 pm16 cd16 ct16 oc17 kV17 dc17 pm17 cd17 ct17 oc18 kV18 dc18 pm18 cd18 ct18 oc19 kV19 dc19 pm19 cd19 ct19 oc20 kV20 dc20 pm20 cd20 ct20 oc21 kV21 dc21 pm21 cd21 ct21 oc22 kV22 dc22 pm22 cd22 ct22 oc23 kV23 dc23 pm23 cd23 ct23 oc24 kV24 dc24 pm24 cd24 ct24 oc25 kV25 dc25 pm25 cd25 ct25 oc26 kV26 dc26 pm26 cd26 ct26 oc27 kV27 dc27 pm27 cd27 ct27 oc28 kV28 dc28 pm28 cd28 ct28 oc29 dc29 pm29 cd29 ct29 oc30 dc30 pm30 cd30 ct30 oc31 kV31 dc31 pm31 cd31 ct31 oc32 kV32 dc32 pm32 cd32 ct32 oc33 kV33 dc33 pm33 cd33 ct33 oc34 kV34 dc34 pm34 cd34 ct34 oc35 kV35 dc35 pm35 cd35 ct35 oc36 kV36 dc36 pm36 cd36 ct36 oc37 kV37 dc37 pm37 cd37 ct37 oc38 kV38 dc38 pm38 cd38 ct38 oc39 kV39 dc39 pm39 cd39 ct39 oc40 kV40 dc40 pm40 cd40 ct40 oc41 kV41 dc41 pm41 cd41 ct41 oc42 kV42 dc42 pm42 cd42 ct42 oc43 kV43 dc43 pm43 cd43 ct43 oc44 kV44 dc44 pm44 cd44 ct44 oc45 kV45 dc45 pm45 cd45 ct45 : Value}
    {C_Schema C_Query C_Record C_Token C_Every C_FilterReader C_Question C_Rank : Addr}
    (a0 : PySem.W.nsIn K mainGlobals "_law_row" = some (some (.ref f0))) (l0 : K.lookup f0 = some ⟨oc0, od0, .func (PySem.W.fnOf "_law_row" "_law_row" (defArgs s_law_row) (defBody s_law_row) (defScope s_law_row) .none kV0 dc0 pm0 an0 cd0 ct0), sl0⟩) (c0 : PySem.W.codeIn K cd0 "_law_row" = true) (k0 : PySem.W.keepIn K (.ref f0) = true)
    (a1 : PySem.W.nsIn K mainGlobals "_law_next" = some (some (.ref f1))) (l1 : K.lookup f1 = some ⟨oc1, od1, .func (PySem.W.fnOf "_law_next" "_law_next" (defArgs s_law_next) (defBody s_law_next) (defScope s_law_next) .none kV1 dc1 pm1 an1 cd1 ct1), sl1⟩) (c1 : PySem.W.codeIn K cd1 "_law_next" = true) (k1 : PySem.W.keepIn K (.ref f1) = true)
    (a2 : PySem.W.nsIn K mainGlobals "_law_fields" = some (some (.ref f2))) (l2 : K.lookup f2 = some ⟨oc2, od2, .func (PySem.W.fnOf "_law_fields" "_law_fields" (defArgs s_law_fields) (defBody s_law_fields) (defScope s_law_fields) .none kV2 dc2 pm2 an2 cd2 ct2), sl2⟩) (c2 : PySem.W.codeIn K cd2 "_law_fields" = true) (k2 : PySem.W.keepIn K (.ref f2) = true)
    (a3 : PySem.W.nsIn K mainGlobals "_law_schema" = some (some (.ref f3))) (l3 : K.lookup f3 = some ⟨oc3, od3, .func (PySem.W.fnOf "_law_schema" "_law_schema" (defArgs s_law_schema) (defBody s_law_schema) (defScope s_law_schema) .none kV3 dc3 pm3 an3 cd3 ct3), sl3⟩) (c3 : PySem.W.codeIn K cd3 "_law_schema" = true) (k3 : PySem.W.keepIn K (.ref f3) = true)
    (a4 : PySem.W.nsIn K mainGlobals "check_vectors" = some (some (.ref f4))) (l4 : K.lookup f4 = some ⟨oc4, od4, .func (PySem.W.fnOf "check_vectors" "check_vectors" (defArgs s_check_vectors) (defBody s_check_vectors) (defScope s_check_vectors) .none kV4 dc4 pm4 an4 cd4 ct4), sl4⟩) (c4 : PySem.W.codeIn K cd4 "check_vectors" = true) (k4 : PySem.W.keepIn K (.ref f4) = true)
    (a5 : PySem.W.nsIn K mainGlobals "is_letter" = some (some (.ref f5))) (l5 : K.lookup f5 = some ⟨oc5, od5, .func (PySem.W.fnOf "is_letter" "is_letter" (defArgs s_is_letter) (defBody s_is_letter) (defScope s_is_letter) .none kV5 dc5 pm5 an5 cd5 ct5), sl5⟩) (c5 : PySem.W.codeIn K cd5 "is_letter" = true) (k5 : PySem.W.keepIn K (.ref f5) = true)
    (a6 : PySem.W.nsIn K mainGlobals "is_digit" = some (some (.ref f6))) (l6 : K.lookup f6 = some ⟨oc6, od6, .func (PySem.W.fnOf "is_digit" "is_digit" (defArgs s_is_digit) (defBody s_is_digit) (defScope s_is_digit) .none kV6 dc6 pm6 an6 cd6 ct6), sl6⟩) (c6 : PySem.W.codeIn K cd6 "is_digit" = true) (k6 : PySem.W.keepIn K (.ref f6) = true)
    (a7 : PySem.W.nsIn K mainGlobals "is_word" = some (some (.ref f7))) (l7 : K.lookup f7 = some ⟨oc7, od7, .func (PySem.W.fnOf "is_word" "is_word" (defArgs s_is_word) (defBody s_is_word) (defScope s_is_word) .none kV7 dc7 pm7 an7 cd7 ct7), sl7⟩) (c7 : PySem.W.codeIn K cd7 "is_word" = true) (k7 : PySem.W.keepIn K (.ref f7) = true)
    (a8 : PySem.W.nsIn K mainGlobals "check_fields" = some (some (.ref f8))) (l8 : K.lookup f8 = some ⟨oc8, od8, .func (PySem.W.fnOf "check_fields" "check_fields" (defArgs s_check_fields) (defBody s_check_fields) (defScope s_check_fields) .none kV8 dc8 pm8 an8 cd8 ct8), sl8⟩) (c8 : PySem.W.codeIn K cd8 "check_fields" = true) (k8 : PySem.W.keepIn K (.ref f8) = true)
    {DK9 : Addr} (l9 : K.lookup f9 = some ⟨oc9, od9, .func (PySem.W.fnOf "__init__" "Schema.__init__" (defArgs s_Schema___init__) (defBody s_Schema___init__) (defScope s_Schema___init__) .none (.ref DK9) dc9 pm9 an9 cd9 ct9), sl9⟩) (c9 : PySem.W.codeIn K cd9 "Schema.__init__" = true) (k9 : PySem.W.keepIn K (.ref f9) = true)
    {tq9_width : Tok} (n9_width : PySem.W.nsIn K DK9 "width" = some (some (.str "small" tq9_width)))
    {tq9_measure : Tok} (n9_measure : PySem.W.nsIn K DK9 "measure" = some (some (.str "square" tq9_measure)))
    {E9_fields : Addr} {eo9_fields : Option Addr} {en9_fields : Nat} {es9_fields : Array (Option Value)} (n9_fields : PySem.W.nsIn K DK9 "fields" = some (some (.ref E9_fields))) (t9_fields : K.lookup E9_fields = some ⟨.type "tuple", eo9_fields, .seq #[] en9_fields, es9_fields⟩)
    (a10 : PySem.W.nsIn K mainGlobals "_law_number" = some (some (.ref f10))) (l10 : K.lookup f10 = some ⟨oc10, od10, .func (PySem.W.fnOf "_law_number" "_law_number" (defArgs s_law_number) (defBody s_law_number) (defScope s_law_number) .none kV10 dc10 pm10 an10 cd10 ct10), sl10⟩) (c10 : PySem.W.codeIn K cd10 "_law_number" = true) (k10 : PySem.W.keepIn K (.ref f10) = true)
    (a11 : PySem.W.nsIn K mainGlobals "_law_query" = some (some (.ref f11))) (l11 : K.lookup f11 = some ⟨oc11, od11, .func (PySem.W.fnOf "_law_query" "_law_query" (defArgs s_law_query) (defBody s_law_query) (defScope s_law_query) .none kV11 dc11 pm11 an11 cd11 ct11), sl11⟩) (c11 : PySem.W.codeIn K cd11 "_law_query" = true) (k11 : PySem.W.keepIn K (.ref f11) = true)
    (a12 : PySem.W.nsIn K mainGlobals "are_within" = some (some (.ref f12))) (l12 : K.lookup f12 = some ⟨oc12, od12, .func (PySem.W.fnOf "are_within" "are_within" (defArgs s_are_within) (defBody s_are_within) (defScope s_are_within) .none kV12 dc12 pm12 an12 cd12 ct12), sl12⟩) (c12 : PySem.W.codeIn K cd12 "are_within" = true) (k12 : PySem.W.keepIn K (.ref f12) = true)
    (a13 : PySem.W.nsIn K mainGlobals "check_query" = some (some (.ref f13))) (l13 : K.lookup f13 = some ⟨oc13, od13, .func (PySem.W.fnOf "check_query" "check_query" (defArgs s_check_query) (defBody s_check_query) (defScope s_check_query) .none kV13 dc13 pm13 an13 cd13 ct13), sl13⟩) (c13 : PySem.W.codeIn K cd13 "check_query" = true) (k13 : PySem.W.keepIn K (.ref f13) = true)
    (l14 : K.lookup f14 = some ⟨oc14, od14, .func (PySem.W.fnOf "is_at" "FilterReader.is_at" (defArgs s_FilterReader_is_at) (defBody s_FilterReader_is_at) (defScope s_FilterReader_is_at) .none kV14 dc14 pm14 an14 cd14 ct14), sl14⟩) (c14 : PySem.W.codeIn K cd14 "FilterReader.is_at" = true) (k14 : PySem.W.keepIn K (.ref f14) = true)
    (l15 : K.lookup f15 = some ⟨oc15, od15, .func (PySem.W.fnOf "sees" "FilterReader.sees" (defArgs s_FilterReader_sees) (defBody s_FilterReader_sees) (defScope s_FilterReader_sees) .none kV15 dc15 pm15 an15 cd15 ct15), sl15⟩) (c15 : PySem.W.codeIn K cd15 "FilterReader.sees" = true) (k15 : PySem.W.keepIn K (.ref f15) = true)
    (l16 : K.lookup f16 = some ⟨oc16, od16, .func (PySem.W.fnOf "skips" "FilterReader.skips" (defArgs s_FilterReader_skips) (defBody s_FilterReader_skips) (defScope s_FilterReader_skips) .none kV16 dc16 pm16 an16 cd16 ct16), sl16⟩) (c16 : PySem.W.codeIn K cd16 "FilterReader.skips" = true) (k16 : PySem.W.keepIn K (.ref f16) = true)
    (a17 : PySem.W.nsIn K mainGlobals "differing" = some (some (.ref f17))) (l17 : K.lookup f17 = some ⟨oc17, od17, .func (PySem.W.fnOf "differing" "differing" (defArgs s_differing) (defBody s_differing) (defScope s_differing) .none kV17 dc17 pm17 an17 cd17 ct17), sl17⟩) (c17 : PySem.W.codeIn K cd17 "differing" = true) (k17 : PySem.W.keepIn K (.ref f17) = true)
    (a18 : PySem.W.nsIn K mainGlobals "distance" = some (some (.ref f18))) (l18 : K.lookup f18 = some ⟨oc18, od18, .func (PySem.W.fnOf "distance" "distance" (defArgs s_distance) (defBody s_distance) (defScope s_distance) .none kV18 dc18 pm18 an18 cd18 ct18), sl18⟩) (c18 : PySem.W.codeIn K cd18 "distance" = true) (k18 : PySem.W.keepIn K (.ref f18) = true)
    (a19 : PySem.W.nsIn K mainGlobals "inner" = some (some (.ref f19))) (l19 : K.lookup f19 = some ⟨oc19, od19, .func (PySem.W.fnOf "inner" "inner" (defArgs s_inner) (defBody s_inner) (defScope s_inner) .none kV19 dc19 pm19 an19 cd19 ct19), sl19⟩) (c19 : PySem.W.codeIn K cd19 "inner" = true) (k19 : PySem.W.keepIn K (.ref f19) = true)
    (l20 : K.lookup f20 = some ⟨oc20, od20, .func (PySem.W.fnOf "far" "Schema.far" (defArgs s_Schema_far) (defBody s_Schema_far) (defScope s_Schema_far) .none kV20 dc20 pm20 an20 cd20 ct20), sl20⟩) (c20 : PySem.W.codeIn K cd20 "Schema.far" = true) (k20 : PySem.W.keepIn K (.ref f20) = true)
    (l21 : K.lookup f21 = some ⟨oc21, od21, .func (PySem.W.fnOf "count_of" "Record.count_of" (defArgs s_Record_count_of) (defBody s_Record_count_of) (defScope s_Record_count_of) .none kV21 dc21 pm21 an21 cd21 ct21), sl21⟩) (c21 : PySem.W.codeIn K cd21 "Record.count_of" = true) (k21 : PySem.W.keepIn K (.ref f21) = true)
    (l22 : K.lookup f22 = some ⟨oc22, od22, .func (PySem.W.fnOf "cost" "Question.cost" (defArgs s_Question_cost) (defBody s_Question_cost) (defScope s_Question_cost) .none kV22 dc22 pm22 an22 cd22 ct22), sl22⟩) (c22 : PySem.W.codeIn K cd22 "Question.cost" = true) (k22 : PySem.W.keepIn K (.ref f22) = true)
    (l23 : K.lookup f23 = some ⟨oc23, od23, .func (PySem.W.fnOf "__init__" "Rank.__init__" (defArgs s_Rank___init__) (defBody s_Rank___init__) (defScope s_Rank___init__) .none kV23 dc23 pm23 an23 cd23 ct23), sl23⟩) (c23 : PySem.W.codeIn K cd23 "Rank.__init__" = true) (k23 : PySem.W.keepIn K (.ref f23) = true)
    (l24 : K.lookup f24 = some ⟨oc24, od24, .func (PySem.W.fnOf "__init__" "Token.__init__" (defArgs s_Token___init__) (defBody s_Token___init__) (defScope s_Token___init__) .none kV24 dc24 pm24 an24 cd24 ct24), sl24⟩) (c24 : PySem.W.codeIn K cd24 "Token.__init__" = true) (k24 : PySem.W.keepIn K (.ref f24) = true)
    (a25 : PySem.W.nsIn K mainGlobals "word_at" = some (some (.ref f25))) (l25 : K.lookup f25 = some ⟨oc25, od25, .func (PySem.W.fnOf "word_at" "word_at" (defArgs s_word_at) (defBody s_word_at) (defScope s_word_at) .none kV25 dc25 pm25 an25 cd25 ct25), sl25⟩) (c25 : PySem.W.codeIn K cd25 "word_at" = true) (k25 : PySem.W.keepIn K (.ref f25) = true)
    (a26 : PySem.W.nsIn K mainGlobals "token_at" = some (some (.ref f26))) (l26 : K.lookup f26 = some ⟨oc26, od26, .func (PySem.W.fnOf "token_at" "token_at" (defArgs s_token_at) (defBody s_token_at) (defScope s_token_at) .none kV26 dc26 pm26 an26 cd26 ct26), sl26⟩) (c26 : PySem.W.codeIn K cd26 "token_at" = true) (k26 : PySem.W.keepIn K (.ref f26) = true)
    (a27 : PySem.W.nsIn K mainGlobals "read_tokens" = some (some (.ref f27))) (l27 : K.lookup f27 = some ⟨oc27, od27, .func (PySem.W.fnOf "read_tokens" "read_tokens" (defArgs s_read_tokens) (defBody s_read_tokens) (defScope s_read_tokens) .none kV27 dc27 pm27 an27 cd27 ct27), sl27⟩) (c27 : PySem.W.codeIn K cd27 "read_tokens" = true) (k27 : PySem.W.keepIn K (.ref f27) = true)
    (l28 : K.lookup f28 = some ⟨oc28, od28, .func (PySem.W.fnOf "__init__" "FilterReader.__init__" (defArgs s_FilterReader___init__) (defBody s_FilterReader___init__) (defScope s_FilterReader___init__) .none kV28 dc28 pm28 an28 cd28 ct28), sl28⟩) (c28 : PySem.W.codeIn K cd28 "FilterReader.__init__" = true) (k28 : PySem.W.keepIn K (.ref f28) = true)
    {DK29 : Addr} (l29 : K.lookup f29 = some ⟨oc29, od29, .func (PySem.W.fnOf "__init__" "Query.__init__" (defArgs s_Query___init__) (defBody s_Query___init__) (defScope s_Query___init__) .none (.ref DK29) dc29 pm29 an29 cd29 ct29), sl29⟩) (c29 : PySem.W.codeIn K cd29 "Query.__init__" = true) (k29 : PySem.W.keepIn K (.ref f29) = true)
    {tq29_near : Tok} (n29_near : PySem.W.nsIn K DK29 "near" = some (some (.int (1) tq29_near)))
    {E29_words : Addr} {eo29_words : Option Addr} {en29_words : Nat} {es29_words : Array (Option Value)} (n29_words : PySem.W.nsIn K DK29 "words" = some (some (.ref E29_words))) (t29_words : K.lookup E29_words = some ⟨.type "tuple", eo29_words, .seq #[] en29_words, es29_words⟩)
    {tq29_text : Tok} (n29_text : PySem.W.nsIn K DK29 "text" = some (some (.str "every" tq29_text)))
    {tq29_most : Tok} (n29_most : PySem.W.nsIn K DK29 "most" = some (some (.int (1) tq29_most)))
    {DK30 : Addr} (l30 : K.lookup f30 = some ⟨oc30, od30, .func (PySem.W.fnOf "__init__" "Record.__init__" (defArgs s_Record___init__) (defBody s_Record___init__) (defScope s_Record___init__) .none (.ref DK30) dc30 pm30 an30 cd30 ct30), sl30⟩) (c30 : PySem.W.codeIn K cd30 "Record.__init__" = true) (k30 : PySem.W.keepIn K (.ref f30) = true)
    {E30_fields : Addr} {eo30_fields : Option Addr} {en30_fields : Nat} {es30_fields : Array (Option Value)} (n30_fields : PySem.W.nsIn K DK30 "fields" = some (some (.ref E30_fields))) (t30_fields : K.lookup E30_fields = some ⟨.type "tuple", eo30_fields, .seq #[] en30_fields, es30_fields⟩)
    {E30_words : Addr} {eo30_words : Option Addr} {en30_words : Nat} {es30_words : Array (Option Value)} (n30_words : PySem.W.nsIn K DK30 "words" = some (some (.ref E30_words))) (t30_words : K.lookup E30_words = some ⟨.type "tuple", eo30_words, .seq #[] en30_words, es30_words⟩)
    (l31 : K.lookup f31 = some ⟨oc31, od31, .func (PySem.W.fnOf "single" "FilterReader.single" (defArgs s_FilterReader_single) (defBody s_FilterReader_single) (defScope s_FilterReader_single) .none kV31 dc31 pm31 an31 cd31 ct31), sl31⟩) (c31 : PySem.W.codeIn K cd31 "FilterReader.single" = true) (k31 : PySem.W.keepIn K (.ref f31) = true)
    (l32 : K.lookup f32 = some ⟨oc32, od32, .func (PySem.W.fnOf "all_of" "FilterReader.all_of" (defArgs s_FilterReader_all_of) (defBody s_FilterReader_all_of) (defScope s_FilterReader_all_of) .none kV32 dc32 pm32 an32 cd32 ct32), sl32⟩) (c32 : PySem.W.codeIn K cd32 "FilterReader.all_of" = true) (k32 : PySem.W.keepIn K (.ref f32) = true)
    (l33 : K.lookup f33 = some ⟨oc33, od33, .func (PySem.W.fnOf "any_of" "FilterReader.any_of" (defArgs s_FilterReader_any_of) (defBody s_FilterReader_any_of) (defScope s_FilterReader_any_of) .none kV33 dc33 pm33 an33 cd33 ct33), sl33⟩) (c33 : PySem.W.codeIn K cd33 "FilterReader.any_of" = true) (k33 : PySem.W.keepIn K (.ref f33) = true)
    (l34 : K.lookup f34 = some ⟨oc34, od34, .func (PySem.W.fnOf "whole" "FilterReader.whole" (defArgs s_FilterReader_whole) (defBody s_FilterReader_whole) (defScope s_FilterReader_whole) .none kV34 dc34 pm34 an34 cd34 ct34), sl34⟩) (c34 : PySem.W.codeIn K cd34 "FilterReader.whole" = true) (k34 : PySem.W.keepIn K (.ref f34) = true)
    (a35 : PySem.W.nsIn K mainGlobals "read_filter" = some (some (.ref f35))) (l35 : K.lookup f35 = some ⟨oc35, od35, .func (PySem.W.fnOf "read_filter" "read_filter" (defArgs s_read_filter) (defBody s_read_filter) (defScope s_read_filter) .none kV35 dc35 pm35 an35 cd35 ct35), sl35⟩) (c35 : PySem.W.codeIn K cd35 "read_filter" = true) (k35 : PySem.W.keepIn K (.ref f35) = true)
    (l36 : K.lookup f36 = some ⟨oc36, od36, .func (PySem.W.fnOf "__init__" "Question.__init__" (defArgs s_Question___init__) (defBody s_Question___init__) (defScope s_Question___init__) .none kV36 dc36 pm36 an36 cd36 ct36), sl36⟩) (c36 : PySem.W.codeIn K cd36 "Question.__init__" = true) (k36 : PySem.W.keepIn K (.ref f36) = true)
    (a37 : PySem.W.nsIn K mainGlobals "_law_name" = some (some (.ref f37))) (l37 : K.lookup f37 = some ⟨oc37, od37, .func (PySem.W.fnOf "_law_name" "_law_name" (defArgs s_law_name) (defBody s_law_name) (defScope s_law_name) .none kV37 dc37 pm37 an37 cd37 ct37), sl37⟩) (c37 : PySem.W.codeIn K cd37 "_law_name" = true) (k37 : PySem.W.keepIn K (.ref f37) = true)
    (a38 : PySem.W.nsIn K mainGlobals "_law_words" = some (some (.ref f38))) (l38 : K.lookup f38 = some ⟨oc38, od38, .func (PySem.W.fnOf "_law_words" "_law_words" (defArgs s_law_words) (defBody s_law_words) (defScope s_law_words) .none kV38 dc38 pm38 an38 cd38 ct38), sl38⟩) (c38 : PySem.W.codeIn K cd38 "_law_words" = true) (k38 : PySem.W.keepIn K (.ref f38) = true)
    (a39 : PySem.W.nsIn K mainGlobals "_law_far" = some (some (.ref f39))) (l39 : K.lookup f39 = some ⟨oc39, od39, .func (PySem.W.fnOf "_law_far" "_law_far" (defArgs s_law_far) (defBody s_law_far) (defScope s_law_far) .none kV39 dc39 pm39 an39 cd39 ct39), sl39⟩) (c39 : PySem.W.codeIn K cd39 "_law_far" = true) (k39 : PySem.W.keepIn K (.ref f39) = true)
    (a40 : PySem.W.nsIn K mainGlobals "_law_cost" = some (some (.ref f40))) (l40 : K.lookup f40 = some ⟨oc40, od40, .func (PySem.W.fnOf "_law_cost" "_law_cost" (defArgs s_law_cost) (defBody s_law_cost) (defScope s_law_cost) .none kV40 dc40 pm40 an40 cd40 ct40), sl40⟩) (c40 : PySem.W.codeIn K cd40 "_law_cost" = true) (k40 : PySem.W.keepIn K (.ref f40) = true)
    (a41 : PySem.W.nsIn K mainGlobals "_law_value" = some (some (.ref f41))) (l41 : K.lookup f41 = some ⟨oc41, od41, .func (PySem.W.fnOf "_law_value" "_law_value" (defArgs s_law_value) (defBody s_law_value) (defScope s_law_value) .none kV41 dc41 pm41 an41 cd41 ct41), sl41⟩) (c41 : PySem.W.codeIn K cd41 "_law_value" = true) (k41 : PySem.W.keepIn K (.ref f41) = true)
    (a42 : PySem.W.nsIn K mainGlobals "_law_pairs" = some (some (.ref f42))) (l42 : K.lookup f42 = some ⟨oc42, od42, .func (PySem.W.fnOf "_law_pairs" "_law_pairs" (defArgs s_law_pairs) (defBody s_law_pairs) (defScope s_law_pairs) .none kV42 dc42 pm42 an42 cd42 ct42), sl42⟩) (c42 : PySem.W.codeIn K cd42 "_law_pairs" = true) (k42 : PySem.W.keepIn K (.ref f42) = true)
    (l43 : K.lookup f43 = some ⟨oc43, od43, .func (PySem.W.fnOf "rank" "Question.rank" (defArgs s_Question_rank) (defBody s_Question_rank) (defScope s_Question_rank) .none kV43 dc43 pm43 an43 cd43 ct43), sl43⟩) (c43 : PySem.W.codeIn K cd43 "Question.rank" = true) (k43 : PySem.W.keepIn K (.ref f43) = true)
    (l44 : K.lookup f44 = some ⟨oc44, od44, .func (PySem.W.fnOf "__eq__" "Rank.__eq__" (defArgs s_Rank___eq__) (defBody s_Rank___eq__) (defScope s_Rank___eq__) .none kV44 dc44 pm44 an44 cd44 ct44), sl44⟩) (c44 : PySem.W.codeIn K cd44 "Rank.__eq__" = true) (k44 : PySem.W.keepIn K (.ref f44) = true)
    (a45 : PySem.W.nsIn K mainGlobals "law" = some (some (.ref f45))) (l45 : K.lookup f45 = some ⟨oc45, od45, .func (PySem.W.fnOf "law" "law" (defArgs s_law) (defBody s_law) (defScope s_law) .none kV45 dc45 pm45 an45 cd45 ct45), sl45⟩) (c45 : PySem.W.codeIn K cd45 "law" = true) (k45 : PySem.W.keepIn K (.ref f45) = true)
    (aC_Schema : PySem.W.nsIn K mainGlobals "Schema" = some (some (.ref C_Schema)))
    (pg_Schema : PySem.W.plainGet K C_Schema Str.empty = true)
    (hd_Schema : PySem.W.hasDictIn K C_Schema = true)
    (po_Schema : PySem.W.plainOver K C_Schema = true)
    (sa_Schema : PySem.W.findIn K (.ref C_Schema) "__setattr__" = some (some (.builtin "object.__setattr__")))
    (n_Schema_size : PySem.W.findIn K (.ref C_Schema) "size" = some none)
    (n_Schema_width : PySem.W.findIn K (.ref C_Schema) "width" = some none)
    (n_Schema_measure : PySem.W.findIn K (.ref C_Schema) "measure" = some none)
    (n_Schema_fields : PySem.W.findIn K (.ref C_Schema) "fields" = some none)
    (mk_Schema : PySem.W.makesIn K C_Schema = true)
    (in_Schema : PySem.W.findIn K (.ref C_Schema) "__init__" = some (some (.ref f9)))
    (if_Schema : PySem.W.isFn K (.ref f9) = true)
    (kc_Schema : PySem.W.keepIn K (.ref C_Schema) = true)
    (fm_Schema_far : PySem.W.findIn K (.ref C_Schema) "far" = some (some (.ref f20)))
    (im_Schema_far : PySem.W.isFn K (.ref f20) = true)
    (aC_Query : PySem.W.nsIn K mainGlobals "Query" = some (some (.ref C_Query)))
    (pg_Query : PySem.W.plainGet K C_Query Str.empty = true)
    (hd_Query : PySem.W.hasDictIn K C_Query = true)
    (po_Query : PySem.W.plainOver K C_Query = true)
    (sa_Query : PySem.W.findIn K (.ref C_Query) "__setattr__" = some (some (.builtin "object.__setattr__")))
    (n_Query_vector : PySem.W.findIn K (.ref C_Query) "vector" = some none)
    (n_Query_near : PySem.W.findIn K (.ref C_Query) "near" = some none)
    (n_Query_words : PySem.W.findIn K (.ref C_Query) "words" = some none)
    (n_Query_text : PySem.W.findIn K (.ref C_Query) "text" = some none)
    (n_Query_most : PySem.W.findIn K (.ref C_Query) "most" = some none)
    (mk_Query : PySem.W.makesIn K C_Query = true)
    (in_Query : PySem.W.findIn K (.ref C_Query) "__init__" = some (some (.ref f29)))
    (if_Query : PySem.W.isFn K (.ref f29) = true)
    (kc_Query : PySem.W.keepIn K (.ref C_Query) = true)
    (aC_Record : PySem.W.nsIn K mainGlobals "Record" = some (some (.ref C_Record)))
    (pg_Record : PySem.W.plainGet K C_Record Str.empty = true)
    (hd_Record : PySem.W.hasDictIn K C_Record = true)
    (po_Record : PySem.W.plainOver K C_Record = true)
    (sa_Record : PySem.W.findIn K (.ref C_Record) "__setattr__" = some (some (.builtin "object.__setattr__")))
    (n_Record_name : PySem.W.findIn K (.ref C_Record) "name" = some none)
    (n_Record_vector : PySem.W.findIn K (.ref C_Record) "vector" = some none)
    (n_Record_fields : PySem.W.findIn K (.ref C_Record) "fields" = some none)
    (n_Record_words : PySem.W.findIn K (.ref C_Record) "words" = some none)
    (mk_Record : PySem.W.makesIn K C_Record = true)
    (in_Record : PySem.W.findIn K (.ref C_Record) "__init__" = some (some (.ref f30)))
    (if_Record : PySem.W.isFn K (.ref f30) = true)
    (kc_Record : PySem.W.keepIn K (.ref C_Record) = true)
    (fm_Record_count_of : PySem.W.findIn K (.ref C_Record) "count_of" = some (some (.ref f21)))
    (im_Record_count_of : PySem.W.isFn K (.ref f21) = true)
    (aC_Token : PySem.W.nsIn K mainGlobals "Token" = some (some (.ref C_Token)))
    (pg_Token : PySem.W.plainGet K C_Token Str.empty = true)
    (hd_Token : PySem.W.hasDictIn K C_Token = true)
    (po_Token : PySem.W.plainOver K C_Token = true)
    (sa_Token : PySem.W.findIn K (.ref C_Token) "__setattr__" = some (some (.builtin "object.__setattr__")))
    (n_Token_kind : PySem.W.findIn K (.ref C_Token) "kind" = some none)
    (n_Token_value : PySem.W.findIn K (.ref C_Token) "value" = some none)
    (n_Token_place : PySem.W.findIn K (.ref C_Token) "place" = some none)
    (mk_Token : PySem.W.makesIn K C_Token = true)
    (in_Token : PySem.W.findIn K (.ref C_Token) "__init__" = some (some (.ref f24)))
    (if_Token : PySem.W.isFn K (.ref f24) = true)
    (kc_Token : PySem.W.keepIn K (.ref C_Token) = true)
    (aC_Every : PySem.W.nsIn K mainGlobals "Every" = some (some (.ref C_Every)))
    (pg_Every : PySem.W.plainGet K C_Every Str.empty = true)
    (hd_Every : PySem.W.hasDictIn K C_Every = true)
    (po_Every : PySem.W.plainOver K C_Every = true)
    (sa_Every : PySem.W.findIn K (.ref C_Every) "__setattr__" = some (some (.builtin "object.__setattr__")))
    (mk_Every : PySem.W.makesIn K C_Every = true)
    (in_Every : PySem.W.findIn K (.ref C_Every) "__init__" = some (some (.builtin "object.__init__")))
    (kc_Every : PySem.W.keepIn K (.ref C_Every) = true)
    (aC_FilterReader : PySem.W.nsIn K mainGlobals "FilterReader" = some (some (.ref C_FilterReader)))
    (pg_FilterReader : PySem.W.plainGet K C_FilterReader Str.empty = true)
    (hd_FilterReader : PySem.W.hasDictIn K C_FilterReader = true)
    (po_FilterReader : PySem.W.plainOver K C_FilterReader = true)
    (sa_FilterReader : PySem.W.findIn K (.ref C_FilterReader) "__setattr__" = some (some (.builtin "object.__setattr__")))
    (n_FilterReader_schema : PySem.W.findIn K (.ref C_FilterReader) "schema" = some none)
    (n_FilterReader_tokens : PySem.W.findIn K (.ref C_FilterReader) "tokens" = some none)
    (n_FilterReader_length : PySem.W.findIn K (.ref C_FilterReader) "length" = some none)
    (n_FilterReader_at : PySem.W.findIn K (.ref C_FilterReader) "at" = some none)
    (n_FilterReader_deep : PySem.W.findIn K (.ref C_FilterReader) "deep" = some none)
    (mk_FilterReader : PySem.W.makesIn K C_FilterReader = true)
    (in_FilterReader : PySem.W.findIn K (.ref C_FilterReader) "__init__" = some (some (.ref f28)))
    (if_FilterReader : PySem.W.isFn K (.ref f28) = true)
    (kc_FilterReader : PySem.W.keepIn K (.ref C_FilterReader) = true)
    (fm_FilterReader_is_at : PySem.W.findIn K (.ref C_FilterReader) "is_at" = some (some (.ref f14)))
    (im_FilterReader_is_at : PySem.W.isFn K (.ref f14) = true)
    (fm_FilterReader_sees : PySem.W.findIn K (.ref C_FilterReader) "sees" = some (some (.ref f15)))
    (im_FilterReader_sees : PySem.W.isFn K (.ref f15) = true)
    (fm_FilterReader_skips : PySem.W.findIn K (.ref C_FilterReader) "skips" = some (some (.ref f16)))
    (im_FilterReader_skips : PySem.W.isFn K (.ref f16) = true)
    (fm_FilterReader_single : PySem.W.findIn K (.ref C_FilterReader) "single" = some (some (.ref f31)))
    (im_FilterReader_single : PySem.W.isFn K (.ref f31) = true)
    (fm_FilterReader_all_of : PySem.W.findIn K (.ref C_FilterReader) "all_of" = some (some (.ref f32)))
    (im_FilterReader_all_of : PySem.W.isFn K (.ref f32) = true)
    (fm_FilterReader_any_of : PySem.W.findIn K (.ref C_FilterReader) "any_of" = some (some (.ref f33)))
    (im_FilterReader_any_of : PySem.W.isFn K (.ref f33) = true)
    (fm_FilterReader_whole : PySem.W.findIn K (.ref C_FilterReader) "whole" = some (some (.ref f34)))
    (im_FilterReader_whole : PySem.W.isFn K (.ref f34) = true)
    (aC_Question : PySem.W.nsIn K mainGlobals "Question" = some (some (.ref C_Question)))
    (pg_Question : PySem.W.plainGet K C_Question Str.empty = true)
    (hd_Question : PySem.W.hasDictIn K C_Question = true)
    (po_Question : PySem.W.plainOver K C_Question = true)
    (sa_Question : PySem.W.findIn K (.ref C_Question) "__setattr__" = some (some (.builtin "object.__setattr__")))
    (n_Question_schema : PySem.W.findIn K (.ref C_Question) "schema" = some none)
    (n_Question_query : PySem.W.findIn K (.ref C_Question) "query" = some none)
    (n_Question_condition : PySem.W.findIn K (.ref C_Question) "condition" = some none)
    (mk_Question : PySem.W.makesIn K C_Question = true)
    (in_Question : PySem.W.findIn K (.ref C_Question) "__init__" = some (some (.ref f36)))
    (if_Question : PySem.W.isFn K (.ref f36) = true)
    (kc_Question : PySem.W.keepIn K (.ref C_Question) = true)
    (fm_Question_cost : PySem.W.findIn K (.ref C_Question) "cost" = some (some (.ref f22)))
    (im_Question_cost : PySem.W.isFn K (.ref f22) = true)
    (fm_Question_rank : PySem.W.findIn K (.ref C_Question) "rank" = some (some (.ref f43)))
    (im_Question_rank : PySem.W.isFn K (.ref f43) = true)
    (aC_Rank : PySem.W.nsIn K mainGlobals "Rank" = some (some (.ref C_Rank)))
    (pg_Rank : PySem.W.plainGet K C_Rank Str.empty = true)
    (hd_Rank : PySem.W.hasDictIn K C_Rank = true)
    (po_Rank : PySem.W.plainOver K C_Rank = true)
    (sa_Rank : PySem.W.findIn K (.ref C_Rank) "__setattr__" = some (some (.builtin "object.__setattr__")))
    (n_Rank_cost : PySem.W.findIn K (.ref C_Rank) "cost" = some none)
    (n_Rank_name : PySem.W.findIn K (.ref C_Rank) "name" = some none)
    (mk_Rank : PySem.W.makesIn K C_Rank = true)
    (in_Rank : PySem.W.findIn K (.ref C_Rank) "__init__" = some (some (.ref f23)))
    (if_Rank : PySem.W.isFn K (.ref f23) = true)
    (kc_Rank : PySem.W.keepIn K (.ref C_Rank) = true)
    (fm_Rank___eq__ : PySem.W.findIn K (.ref C_Rank) "__eq__" = some (some (.ref f44)))
    (im_Rank___eq__ : PySem.W.isFn K (.ref f44) = true)
    (ha_Rank : PySem.W.findIn K (.ref C_Rank) "__class__" = some (some (.builtin "object.__class__")))
    (hm_Rank : PySem.W.mroIn K C_Rank (.type "object") = some true)
    {C_InvalidQuery : Addr}
    (aX_InvalidQuery : PySem.W.nsIn K mainGlobals "InvalidQuery" = some (some (.ref C_InvalidQuery)))
    (kx_InvalidQuery : PySem.W.keepIn K (.ref C_InvalidQuery) = true)
    (ex_InvalidQuery : PySem.W.excIn K C_InvalidQuery [.type "ValueError", .type "Exception", .type "BaseException", .type "object"] "ValueError.__new__" = true)
    (bx_InvalidQuery : PySem.W.subIn K (.ref C_InvalidQuery) (.type "BaseException") = some true)
    (tx_InvalidQuery : PySem.W.typeIn K (.ref C_InvalidQuery) = some (.type "type"))
    (ix_InvalidQuery : PySem.W.isClsIn K C_InvalidQuery = true)
    {C_InvalidSchema : Addr}
    (aX_InvalidSchema : PySem.W.nsIn K mainGlobals "InvalidSchema" = some (some (.ref C_InvalidSchema)))
    (kx_InvalidSchema : PySem.W.keepIn K (.ref C_InvalidSchema) = true)
    (ex_InvalidSchema : PySem.W.excIn K C_InvalidSchema [.type "ValueError", .type "Exception", .type "BaseException", .type "object"] "ValueError.__new__" = true)
    (bx_InvalidSchema : PySem.W.subIn K (.ref C_InvalidSchema) (.type "BaseException") = some true)
    (tx_InvalidSchema : PySem.W.typeIn K (.ref C_InvalidSchema) = some (.type "type"))
    (ix_InvalidSchema : PySem.W.isClsIn K C_InvalidSchema = true)
    (hn0 : PySem.W.specialIn K (.builtin "object.__class__") "__get__" = some (some (.builtin "getset_descriptor.__get__")))
    (ht0 : PySem.W.takesIn K (.builtin "object.__class__") = some true)
    {A_KINDS : Addr} {to_KINDS : Option Addr} {ti_KINDS : Array Value} {tn_KINDS : Nat} {ts_KINDS : Array (Option Value)} (z_KINDS : PySem.W.nsIn K mainGlobals "KINDS" = some (some (.ref A_KINDS))) (zl_KINDS : K.lookup A_KINDS = some ⟨.type "tuple", to_KINDS, .seq ti_KINDS tn_KINDS, ts_KINDS⟩) (zv_KINDS : Vals [.str "integer", .str "text", .str "flag"] ti_KINDS.toList) (zn_KINDS : ti_KINDS.size ≤ sizeLine)
    {A_MEASURES : Addr} {to_MEASURES : Option Addr} {ti_MEASURES : Array Value} {tn_MEASURES : Nat} {ts_MEASURES : Array (Option Value)} (z_MEASURES : PySem.W.nsIn K mainGlobals "MEASURES" = some (some (.ref A_MEASURES))) (zl_MEASURES : K.lookup A_MEASURES = some ⟨.type "tuple", to_MEASURES, .seq ti_MEASURES tn_MEASURES, ts_MEASURES⟩) (zv_MEASURES : Vals [.str "square", .str "dot", .str "bits"] ti_MEASURES.toList) (zn_MEASURES : ti_MEASURES.size ≤ sizeLine)
    {tk_MOST_COUNT : Tok} (z_MOST_COUNT : PySem.W.nsIn K mainGlobals "MOST_COUNT" = some (some (.int 15 tk_MOST_COUNT)))
    {A_RESERVED : Addr} {to_RESERVED : Option Addr} {ti_RESERVED : Array Value} {tn_RESERVED : Nat} {ts_RESERVED : Array (Option Value)} (z_RESERVED : PySem.W.nsIn K mainGlobals "RESERVED" = some (some (.ref A_RESERVED))) (zl_RESERVED : K.lookup A_RESERVED = some ⟨.type "tuple", to_RESERVED, .seq ti_RESERVED tn_RESERVED, ts_RESERVED⟩) (zv_RESERVED : Vals [.str "every", .str "has", .str "in", .str "and", .str "or", .str "not", .str "true", .str "false"] ti_RESERVED.toList) (zn_RESERVED : ti_RESERVED.size ≤ sizeLine)
    {A_WIDTHS : Addr} {de_WIDTHS : Array DictEntry} {dn_WIDTHS : Nat} (z_WIDTHS : PySem.W.nsIn K mainGlobals "WIDTHS" = some (some (.ref A_WIDTHS))) (zl_WIDTHS : K.lookup A_WIDTHS = some ⟨.type "dict", none, .dict de_WIDTHS dn_WIDTHS, #[]⟩) (zk_WIDTHS : PySem.W.KeysLit w.params de_WIDTHS.toList) (zs_WIDTHS : (A_WIDTHS == sysModules) = false)
    {A_WIDTHS_bit : Addr} {to_WIDTHS_bit : Option Addr} {ti_WIDTHS_bit : Array Value} {tn_WIDTHS_bit : Nat} {ts_WIDTHS_bit : Array (Option Value)} (z_WIDTHS_bit : PySem.W.nsIn K A_WIDTHS "bit" = some (some (.ref A_WIDTHS_bit))) (zl_WIDTHS_bit : K.lookup A_WIDTHS_bit = some ⟨.type "tuple", to_WIDTHS_bit, .seq ti_WIDTHS_bit tn_WIDTHS_bit, ts_WIDTHS_bit⟩) (zv_WIDTHS_bit : Vals [.int (0), .int (1)] ti_WIDTHS_bit.toList) (zn_WIDTHS_bit : ti_WIDTHS_bit.size ≤ sizeLine)
    {A_WIDTHS_small : Addr} {to_WIDTHS_small : Option Addr} {ti_WIDTHS_small : Array Value} {tn_WIDTHS_small : Nat} {ts_WIDTHS_small : Array (Option Value)} (z_WIDTHS_small : PySem.W.nsIn K A_WIDTHS "small" = some (some (.ref A_WIDTHS_small))) (zl_WIDTHS_small : K.lookup A_WIDTHS_small = some ⟨.type "tuple", to_WIDTHS_small, .seq ti_WIDTHS_small tn_WIDTHS_small, ts_WIDTHS_small⟩) (zv_WIDTHS_small : Vals [.int (-128), .int (127)] ti_WIDTHS_small.toList) (zn_WIDTHS_small : ti_WIDTHS_small.size ≤ sizeLine)
    {A_WIDTHS_wide : Addr} {to_WIDTHS_wide : Option Addr} {ti_WIDTHS_wide : Array Value} {tn_WIDTHS_wide : Nat} {ts_WIDTHS_wide : Array (Option Value)} (z_WIDTHS_wide : PySem.W.nsIn K A_WIDTHS "wide" = some (some (.ref A_WIDTHS_wide))) (zl_WIDTHS_wide : K.lookup A_WIDTHS_wide = some ⟨.type "tuple", to_WIDTHS_wide, .seq ti_WIDTHS_wide tn_WIDTHS_wide, ts_WIDTHS_wide⟩) (zv_WIDTHS_wide : Vals [.int (-32768), .int (32767)] ti_WIDTHS_wide.toList) (zn_WIDTHS_wide : ti_WIDTHS_wide.size ≤ sizeLine)
    (z_all : PySem.W.nsIn K mainGlobals "all" = some none)
    (z_any : PySem.W.nsIn K mainGlobals "any" = some none)
    (z_bool : PySem.W.nsIn K mainGlobals "bool" = some none)
    (z_int : PySem.W.nsIn K mainGlobals "int" = some none)
    (z_isinstance : PySem.W.nsIn K mainGlobals "isinstance" = some none)
    (z_len : PySem.W.nsIn K mainGlobals "len" = some none)
    (z_list : PySem.W.nsIn K mainGlobals "list" = some none)
    (z_max : PySem.W.nsIn K mainGlobals "max" = some none)
    (z_min : PySem.W.nsIn K mainGlobals "min" = some none)
    (z_range : PySem.W.nsIn K mainGlobals "range" = some none)
    (z_set : PySem.W.nsIn K mainGlobals "set" = some none)
    (z_sum : PySem.W.nsIn K mainGlobals "sum" = some none)
    (z_tuple : PySem.W.nsIn K mainGlobals "tuple" = some none)
    (z_zip : PySem.W.nsIn K mainGlobals "zip" = some none)
    : ∃ fd : FuncData, (∀ (s : Shared) (v : Value), BindsTo s fd ⟨[v], []⟩ [("script", v)]) ∧ ∀ base : Heap, K.In base → base.Ns mainGlobals mg → FnOk l.prog w K mg base CX0 11 fa fd ["script"] (sp_law K) := by
  have e := hfa.symm.trans (PySem.W.mg_of X G a45)
  cases e
  have F0 := fun_mk (st := s_law_row) l0 c0 k0
  have b0 := F0.binds (ps := ["script", "k"]) fun _ _ _ _ _ _ us hl => match us, hl with | [_, _], _ => rfl
  have F1 := fun_mk (st := s_law_next) l1 c1 k1
  have b1 := F1.binds (ps := ["state", "many"]) fun _ _ _ _ _ _ us hl => match us, hl with | [_, _], _ => rfl
  have F2 := fun_mk (st := s_law_fields) l2 c2 k2
  have b2 := F2.binds (ps := ["state"]) fun _ _ _ _ _ _ us hl => match us, hl with | [_], _ => rfl
  have F3 := fun_mk (st := s_law_schema) l3 c3 k3
  have b3 := F3.binds (ps := ["state"]) fun _ _ _ _ _ _ us hl => match us, hl with | [_], _ => rfl
  have F4 := fun_mk (st := s_check_vectors) l4 c4 k4
  have b4 := F4.binds (ps := ["size", "width", "measure"]) fun _ _ _ _ _ _ us hl => match us, hl with | [_, _, _], _ => rfl
  have F5 := fun_mk (st := s_is_letter) l5 c5 k5
  have b5 := F5.binds (ps := ["char"]) fun _ _ _ _ _ _ us hl => match us, hl with | [_], _ => rfl
  have F6 := fun_mk (st := s_is_digit) l6 c6 k6
  have b6 := F6.binds (ps := ["char"]) fun _ _ _ _ _ _ us hl => match us, hl with | [_], _ => rfl
  have F7 := fun_mk (st := s_is_word) l7 c7 k7
  have b7 := F7.binds (ps := ["text"]) fun _ _ _ _ _ _ us hl => match us, hl with | [_], _ => rfl
  have F8 := fun_mk (st := s_check_fields) l8 c8 k8
  have b8 := F8.binds (ps := ["fields"]) fun _ _ _ _ _ _ us hl => match us, hl with | [_], _ => rfl
  have F9 : FunD K "__init__" "Schema.__init__" (defArgs s_Schema___init__) (defBody s_Schema___init__) (defScope s_Schema___init__) [] [("width", .str "small"), ("measure", .str "square"), ("fields", .ref E9_fields)] f9 _ := ⟨⟨_, _, _, _, _, _, _, _, _, _, rfl, l9, c9, .inl ⟨rfl, rfl⟩, .inr ⟨DK9, rfl, fun q hq => by
    simp only [List.mem_cons, List.not_mem_nil, or_false] at hq
    rcases hq with rfl | rfl | rfl
    · exact ⟨_, n9_width, ⟨_, rfl⟩⟩
    · exact ⟨_, n9_measure, ⟨_, rfl⟩⟩
    · exact ⟨_, n9_fields, rfl⟩⟩⟩, k9⟩
  obtain ⟨mv9, kb9⟩ := F9.kbinds0 (ps := ["self", "size", "width", "measure", "fields"]) 2 ["width", "measure", "fields"] [] (fun us mv ws => us ++ ws) (by intro h; cases h) (fun q h => by cases h) (fun r1 _ r3 => r1.append r3) (fun D doc pm an cdv ct us mv ws l1 l2 l3 => match us, mv, ws, l1, l2, l3 with | [_, _], [], [_, _, _], _, _, _ => rfl)
  obtain ⟨ds9, v9, b9⟩ := F9.binds0 (ps := ["self", "size", "width", "measure", "fields"]) 2 (by intro h; cases h) rfl (fun D doc pm an cdv ct us ks l1 l2 => match us, ks, l1, l2 with | [_, _], [_, _, _], _, _ => ⟨_, _, _, _, _, _, rfl, rfl, ⟨_, _, _, _, _, _, rfl, rfl, ⟨_, _, _, _, _, _, rfl, rfl, rfl⟩⟩⟩)
  have F10 := fun_mk (st := s_law_number) l10 c10 k10
  have b10 := F10.binds (ps := ["state", "width"]) fun _ _ _ _ _ _ us hl => match us, hl with | [_, _], _ => rfl
  have F11 := fun_mk (st := s_law_query) l11 c11 k11
  have b11 := F11.binds (ps := ["state", "drawn"]) fun _ _ _ _ _ _ us hl => match us, hl with | [_, _], _ => rfl
  have F12 := fun_mk (st := s_are_within) l12 c12 k12
  have b12 := F12.binds (ps := ["vector", "width"]) fun _ _ _ _ _ _ us hl => match us, hl with | [_, _], _ => rfl
  have F13 := fun_mk (st := s_check_query) l13 c13 k13
  have b13 := F13.binds (ps := ["schema", "query"]) fun _ _ _ _ _ _ us hl => match us, hl with | [_, _], _ => rfl
  have F14 := fun_mk (st := s_FilterReader_is_at) l14 c14 k14
  have b14 := F14.binds (ps := ["self", "kind"]) fun _ _ _ _ _ _ us hl => match us, hl with | [_, _], _ => rfl
  have F15 := fun_mk (st := s_FilterReader_sees) l15 c15 k15
  have b15 := F15.binds (ps := ["self", "kind", "value"]) fun _ _ _ _ _ _ us hl => match us, hl with | [_, _, _], _ => rfl
  have F16 := fun_mk (st := s_FilterReader_skips) l16 c16 k16
  have b16 := F16.binds (ps := ["self", "kind", "value"]) fun _ _ _ _ _ _ us hl => match us, hl with | [_, _, _], _ => rfl
  have F17 := fun_mk (st := s_differing) l17 c17 k17
  have b17 := F17.binds (ps := ["a", "b"]) fun _ _ _ _ _ _ us hl => match us, hl with | [_, _], _ => rfl
  have F18 := fun_mk (st := s_distance) l18 c18 k18
  have b18 := F18.binds (ps := ["a", "b"]) fun _ _ _ _ _ _ us hl => match us, hl with | [_, _], _ => rfl
  have F19 := fun_mk (st := s_inner) l19 c19 k19
  have b19 := F19.binds (ps := ["a", "b"]) fun _ _ _ _ _ _ us hl => match us, hl with | [_, _], _ => rfl
  have F20 := fun_mk (st := s_Schema_far) l20 c20 k20
  have b20 := F20.binds (ps := ["self", "a", "b"]) fun _ _ _ _ _ _ us hl => match us, hl with | [_, _, _], _ => rfl
  have F21 := fun_mk (st := s_Record_count_of) l21 c21 k21
  have b21 := F21.binds (ps := ["self", "word"]) fun _ _ _ _ _ _ us hl => match us, hl with | [_, _], _ => rfl
  have F22 := fun_mk (st := s_Question_cost) l22 c22 k22
  have b22 := F22.binds (ps := ["self", "record"]) fun _ _ _ _ _ _ us hl => match us, hl with | [_, _], _ => rfl
  have F23 := fun_mk (st := s_Rank___init__) l23 c23 k23
  have b23 := F23.binds (ps := ["self", "cost", "name"]) fun _ _ _ _ _ _ us hl => match us, hl with | [_, _, _], _ => rfl
  have F24 := fun_mk (st := s_Token___init__) l24 c24 k24
  have b24 := F24.binds (ps := ["self", "kind", "value", "place"]) fun _ _ _ _ _ _ us hl => match us, hl with | [_, _, _, _], _ => rfl
  have F25 := fun_mk (st := s_word_at) l25 c25 k25
  have b25 := F25.binds (ps := ["text", "start"]) fun _ _ _ _ _ _ us hl => match us, hl with | [_, _], _ => rfl
  have F26 := fun_mk (st := s_token_at) l26 c26 k26
  have b26 := F26.binds (ps := ["text", "start"]) fun _ _ _ _ _ _ us hl => match us, hl with | [_, _], _ => rfl
  have F27 := fun_mk (st := s_read_tokens) l27 c27 k27
  have b27 := F27.binds (ps := ["text"]) fun _ _ _ _ _ _ us hl => match us, hl with | [_], _ => rfl
  have F28 := fun_mk (st := s_FilterReader___init__) l28 c28 k28
  have b28 := F28.binds (ps := ["self", "schema", "text"]) fun _ _ _ _ _ _ us hl => match us, hl with | [_, _, _], _ => rfl
  have F29 : FunD K "__init__" "Query.__init__" (defArgs s_Query___init__) (defBody s_Query___init__) (defScope s_Query___init__) [] [("near", .int (1)), ("words", .ref E29_words), ("text", .str "every"), ("most", .int (1))] f29 _ := ⟨⟨_, _, _, _, _, _, _, _, _, _, rfl, l29, c29, .inl ⟨rfl, rfl⟩, .inr ⟨DK29, rfl, fun q hq => by
    simp only [List.mem_cons, List.not_mem_nil, or_false] at hq
    rcases hq with rfl | rfl | rfl | rfl
    · exact ⟨_, n29_near, ⟨_, rfl⟩⟩
    · exact ⟨_, n29_words, rfl⟩
    · exact ⟨_, n29_text, ⟨_, rfl⟩⟩
    · exact ⟨_, n29_most, ⟨_, rfl⟩⟩⟩⟩, k29⟩
  obtain ⟨mv29, kb29⟩ := F29.kbinds0 (ps := ["self", "vector", "near", "words", "text", "most"]) 2 ["near", "words", "text", "most"] [] (fun us mv ws => us ++ ws) (by intro h; cases h) (fun q h => by cases h) (fun r1 _ r3 => r1.append r3) (fun D doc pm an cdv ct us mv ws l1 l2 l3 => match us, mv, ws, l1, l2, l3 with | [_, _], [], [_, _, _, _], _, _, _ => rfl)
  obtain ⟨mv_Query___init___k0, kb_Query___init___k0⟩ := F29.kbinds0 (ps := ["self", "vector", "near", "words", "text", "most"]) 2 ["near", "words", "most"] [("text", .str "every")] (fun us mv ws => us ++ ((ws.drop 0).take 1 ++ ((ws.drop 1).take 1 ++ ((mv.drop 0).take 1 ++ ((ws.drop 2).take 1))))) (by intro h; cases h) (fun q h => by
    simp only [List.mem_cons, List.not_mem_nil, or_false] at h ⊢
    subst h; simp) (fun r1 r2 r3 => r1.append (((r3.drop 0).take 1).append (((r3.drop 1).take 1).append (((r2.drop 0).take 1).append ((r3.drop 2).take 1))))) (fun D doc pm an cdv ct us mv ws l1 l2 l3 => match us, mv, ws, l1, l2, l3 with | [_, _], [_], [_, _, _], _, _, _ => ⟨_, _, _, _, _, _, rfl, rfl, rfl⟩)
  obtain ⟨ds29, v29, b29⟩ := F29.binds0 (ps := ["self", "vector", "near", "words", "text", "most"]) 2 (by intro h; cases h) rfl (fun D doc pm an cdv ct us ks l1 l2 => match us, ks, l1, l2 with | [_, _], [_, _, _, _], _, _ => ⟨_, _, _, _, _, _, rfl, rfl, ⟨_, _, _, _, _, _, rfl, rfl, ⟨_, _, _, _, _, _, rfl, rfl, ⟨_, _, _, _, _, _, rfl, rfl, rfl⟩⟩⟩⟩)
  have F30 : FunD K "__init__" "Record.__init__" (defArgs s_Record___init__) (defBody s_Record___init__) (defScope s_Record___init__) [] [("fields", .ref E30_fields), ("words", .ref E30_words)] f30 _ := ⟨⟨_, _, _, _, _, _, _, _, _, _, rfl, l30, c30, .inl ⟨rfl, rfl⟩, .inr ⟨DK30, rfl, fun q hq => by
    simp only [List.mem_cons, List.not_mem_nil, or_false] at hq
    rcases hq with rfl | rfl
    · exact ⟨_, n30_fields, rfl⟩
    · exact ⟨_, n30_words, rfl⟩⟩⟩, k30⟩
  obtain ⟨mv30, kb30⟩ := F30.kbinds0 (ps := ["self", "name", "vector", "fields", "words"]) 3 ["fields", "words"] [] (fun us mv ws => us ++ ws) (by intro h; cases h) (fun q h => by cases h) (fun r1 _ r3 => r1.append r3) (fun D doc pm an cdv ct us mv ws l1 l2 l3 => match us, mv, ws, l1, l2, l3 with | [_, _, _], [], [_, _], _, _, _ => rfl)
  obtain ⟨ds30, v30, b30⟩ := F30.binds0 (ps := ["self", "name", "vector", "fields", "words"]) 3 (by intro h; cases h) rfl (fun D doc pm an cdv ct us ks l1 l2 => match us, ks, l1, l2 with | [_, _, _], [_, _], _, _ => ⟨_, _, _, _, _, _, rfl, rfl, ⟨_, _, _, _, _, _, rfl, rfl, rfl⟩⟩)
  have F31 := fun_mk (st := s_FilterReader_single) l31 c31 k31
  have b31 := F31.binds (ps := ["self"]) fun _ _ _ _ _ _ us hl => match us, hl with | [_], _ => rfl
  have F32 := fun_mk (st := s_FilterReader_all_of) l32 c32 k32
  have b32 := F32.binds (ps := ["self"]) fun _ _ _ _ _ _ us hl => match us, hl with | [_], _ => rfl
  have F33 := fun_mk (st := s_FilterReader_any_of) l33 c33 k33
  have b33 := F33.binds (ps := ["self"]) fun _ _ _ _ _ _ us hl => match us, hl with | [_], _ => rfl
  have F34 := fun_mk (st := s_FilterReader_whole) l34 c34 k34
  have b34 := F34.binds (ps := ["self"]) fun _ _ _ _ _ _ us hl => match us, hl with | [_], _ => rfl
  have F35 := fun_mk (st := s_read_filter) l35 c35 k35
  have b35 := F35.binds (ps := ["schema", "text"]) fun _ _ _ _ _ _ us hl => match us, hl with | [_, _], _ => rfl
  have F36 := fun_mk (st := s_Question___init__) l36 c36 k36
  have b36 := F36.binds (ps := ["self", "schema", "query"]) fun _ _ _ _ _ _ us hl => match us, hl with | [_, _, _], _ => rfl
  have F37 := fun_mk (st := s_law_name) l37 c37 k37
  have b37 := F37.binds (ps := ["state"]) fun _ _ _ _ _ _ us hl => match us, hl with | [_], _ => rfl
  have F38 := fun_mk (st := s_law_words) l38 c38 k38
  have b38 := F38.binds (ps := ["state"]) fun _ _ _ _ _ _ us hl => match us, hl with | [_], _ => rfl
  have F39 := fun_mk (st := s_law_far) l39 c39 k39
  have b39 := F39.binds (ps := ["measure", "a", "b"]) fun _ _ _ _ _ _ us hl => match us, hl with | [_, _, _], _ => rfl
  have F40 := fun_mk (st := s_law_cost) l40 c40 k40
  have b40 := F40.binds (ps := ["measure", "query", "vector", "words"]) fun _ _ _ _ _ _ us hl => match us, hl with | [_, _, _, _], _ => rfl
  have F41 := fun_mk (st := s_law_value) l41 c41 k41
  have b41 := F41.binds (ps := ["state", "kind"]) fun _ _ _ _ _ _ us hl => match us, hl with | [_, _], _ => rfl
  have F42 := fun_mk (st := s_law_pairs) l42 c42 k42
  have b42 := F42.binds (ps := ["state", "fields"]) fun _ _ _ _ _ _ us hl => match us, hl with | [_, _], _ => rfl
  have F43 := fun_mk (st := s_Question_rank) l43 c43 k43
  have b43 := F43.binds (ps := ["self", "record"]) fun _ _ _ _ _ _ us hl => match us, hl with | [_, _], _ => rfl
  have F44 := fun_mk (st := s_Rank___eq__) l44 c44 k44
  have b44 := F44.binds (ps := ["self", "other"]) fun _ _ _ _ _ _ us hl => match us, hl with | [_, _], _ => rfl
  have F45 := fun_mk (st := s_law) l45 c45 k45
  have b45 := F45.binds (ps := ["script"]) fun _ _ _ _ _ _ us hl => match us, hl with | [_], _ => rfl
  let T : Txt w K mg := ⟨_, _, F0, b0, PySem.W.mg_of X G a0,
    _, _, F1, b1, PySem.W.mg_of X G a1,
    _, _, F2, b2, PySem.W.mg_of X G a2,
    _, _, F3, b3, PySem.W.mg_of X G a3,
    _, _, F4, b4, PySem.W.mg_of X G a4,
    _, _, F5, b5, PySem.W.mg_of X G a5,
    _, _, F6, b6, PySem.W.mg_of X G a6,
    _, _, F7, b7, PySem.W.mg_of X G a7,
    _, _, F8, b8, PySem.W.mg_of X G a8,
    _, _, _, fun H => .inr ⟨_, _, _, t9_fields, rfl, rfl, by decide, .nil⟩, F9, kb9, _, v9, b9,
    _, _, F10, b10, PySem.W.mg_of X G a10,
    _, _, F11, b11, PySem.W.mg_of X G a11,
    _, _, F12, b12, PySem.W.mg_of X G a12,
    _, _, F13, b13, PySem.W.mg_of X G a13,
    _, _, F14, b14,
    _, _, F15, b15,
    _, _, F16, b16,
    _, _, F17, b17, PySem.W.mg_of X G a17,
    _, _, F18, b18, PySem.W.mg_of X G a18,
    _, _, F19, b19, PySem.W.mg_of X G a19,
    _, _, F20, b20,
    _, _, F21, b21,
    _, _, F22, b22,
    _, _, F23, b23,
    _, _, F24, b24,
    _, _, F25, b25, PySem.W.mg_of X G a25,
    _, _, F26, b26, PySem.W.mg_of X G a26,
    _, _, F27, b27, PySem.W.mg_of X G a27,
    _, _, F28, b28,
    _, _, _, fun H => .inr ⟨_, _, _, t29_words, rfl, rfl, by decide, .nil⟩, F29, kb29, _, kb_Query___init___k0, _, v29, b29,
    _, _, _, fun H => .inr ⟨_, _, _, t30_fields, rfl, rfl, by decide, .nil⟩, _, fun H => .inr ⟨_, _, _, t30_words, rfl, rfl, by decide, .nil⟩, F30, kb30, _, v30, b30,
    _, _, F31, b31,
    _, _, F32, b32,
    _, _, F33, b33,
    _, _, F34, b34,
    _, _, F35, b35, PySem.W.mg_of X G a35,
    _, _, F36, b36,
    _, _, F37, b37, PySem.W.mg_of X G a37,
    _, _, F38, b38, PySem.W.mg_of X G a38,
    _, _, F39, b39, PySem.W.mg_of X G a39,
    _, _, F40, b40, PySem.W.mg_of X G a40,
    _, _, F41, b41, PySem.W.mg_of X G a41,
    _, _, F42, b42, PySem.W.mg_of X G a42,
    _, _, F43, b43,
    _, _, F44, b44,
    _, _, F45, b45, PySem.W.mg_of X G a45,
    _, PySem.W.mg_of X G aX_InvalidQuery, kx_InvalidQuery, ex_InvalidQuery, bx_InvalidQuery, tx_InvalidQuery,
    _, PySem.W.mg_of X G aX_InvalidSchema, kx_InvalidSchema, ex_InvalidSchema, bx_InvalidSchema, tx_InvalidSchema,
    _, ⟨pg_Schema, hd_Schema, po_Schema, sa_Schema⟩, PySem.W.mg_of X G aC_Schema, n_Schema_size, n_Schema_width, n_Schema_measure, n_Schema_fields, ⟨mk_Schema, in_Schema, if_Schema, kc_Schema⟩, ⟨fm_Schema_far, im_Schema_far, k20⟩,
    _, ⟨pg_Query, hd_Query, po_Query, sa_Query⟩, PySem.W.mg_of X G aC_Query, n_Query_vector, n_Query_near, n_Query_words, n_Query_text, n_Query_most, ⟨mk_Query, in_Query, if_Query, kc_Query⟩,
    _, ⟨pg_Record, hd_Record, po_Record, sa_Record⟩, PySem.W.mg_of X G aC_Record, n_Record_name, n_Record_vector, n_Record_fields, n_Record_words, ⟨mk_Record, in_Record, if_Record, kc_Record⟩, ⟨fm_Record_count_of, im_Record_count_of, k21⟩,
    _, ⟨pg_Token, hd_Token, po_Token, sa_Token⟩, PySem.W.mg_of X G aC_Token, n_Token_kind, n_Token_value, n_Token_place, ⟨mk_Token, in_Token, if_Token, kc_Token⟩,
    _, ⟨pg_Every, hd_Every, po_Every, sa_Every⟩, PySem.W.mg_of X G aC_Every, ⟨mk_Every, in_Every, kc_Every⟩,
    _, ⟨pg_FilterReader, hd_FilterReader, po_FilterReader, sa_FilterReader⟩, PySem.W.mg_of X G aC_FilterReader, n_FilterReader_schema, n_FilterReader_tokens, n_FilterReader_length, n_FilterReader_at, n_FilterReader_deep, ⟨mk_FilterReader, in_FilterReader, if_FilterReader, kc_FilterReader⟩, ⟨fm_FilterReader_is_at, im_FilterReader_is_at, k14⟩, ⟨fm_FilterReader_sees, im_FilterReader_sees, k15⟩, ⟨fm_FilterReader_skips, im_FilterReader_skips, k16⟩, ⟨fm_FilterReader_single, im_FilterReader_single, k31⟩, ⟨fm_FilterReader_all_of, im_FilterReader_all_of, k32⟩, ⟨fm_FilterReader_any_of, im_FilterReader_any_of, k33⟩, ⟨fm_FilterReader_whole, im_FilterReader_whole, k34⟩,
    _, ⟨pg_Question, hd_Question, po_Question, sa_Question⟩, PySem.W.mg_of X G aC_Question, n_Question_schema, n_Question_query, n_Question_condition, ⟨mk_Question, in_Question, if_Question, kc_Question⟩, ⟨fm_Question_cost, im_Question_cost, k22⟩, ⟨fm_Question_rank, im_Question_rank, k43⟩,
    _, ⟨pg_Rank, hd_Rank, po_Rank, sa_Rank⟩, PySem.W.mg_of X G aC_Rank, n_Rank_cost, n_Rank_name, ⟨mk_Rank, in_Rank, if_Rank, kc_Rank⟩, ⟨fm_Rank___eq__, im_Rank___eq__, k44⟩, ha_Rank, hm_Rank,
    kit_self,
    hn0,
    ht0,
    _, PySem.W.mg_of X G z_KINDS, fun H => .inr ⟨_, _, _, zl_KINDS, rfl, rfl, zn_KINDS, zv_KINDS⟩,
    _, PySem.W.mg_of X G z_MEASURES, fun H => .inr ⟨_, _, _, zl_MEASURES, rfl, rfl, zn_MEASURES, zv_MEASURES⟩,
    ⟨_, PySem.W.mg_of X G z_MOST_COUNT⟩,
    _, PySem.W.mg_of X G z_RESERVED, fun H => .inr ⟨_, _, _, zl_RESERVED, rfl, rfl, zn_RESERVED, zv_RESERVED⟩,
    _, PySem.W.mg_of X G z_WIDTHS, _, _, ⟨zl_WIDTHS, zk_WIDTHS, zs_WIDTHS⟩, _, z_WIDTHS_bit, fun H => .inr ⟨_, _, _, zl_WIDTHS_bit, rfl, rfl, zn_WIDTHS_bit, zv_WIDTHS_bit⟩, _, z_WIDTHS_small, fun H => .inr ⟨_, _, _, zl_WIDTHS_small, rfl, rfl, zn_WIDTHS_small, zv_WIDTHS_small⟩, _, z_WIDTHS_wide, fun H => .inr ⟨_, _, _, zl_WIDTHS_wide, rfl, rfl, zn_WIDTHS_wide, zv_WIDTHS_wide⟩,
    PySem.W.mg_none_of X G z_all,
    PySem.W.mg_none_of X G z_any,
    PySem.W.mg_none_of X G z_bool,
    PySem.W.mg_none_of X G z_int,
    PySem.W.mg_none_of X G z_isinstance,
    PySem.W.mg_none_of X G z_len,
    PySem.W.mg_none_of X G z_list,
    PySem.W.mg_none_of X G z_max,
    PySem.W.mg_none_of X G z_min,
    PySem.W.mg_none_of X G z_range,
    PySem.W.mg_none_of X G z_set,
    PySem.W.mg_none_of X G z_sum,
    PySem.W.mg_none_of X G z_tuple,
    PySem.W.mg_none_of X G z_zip⟩
  exact ⟨_, fun s v => .of_eq rfl, fun base _ _ => ok_law T⟩
end K15
open PySem PySem.W PyProof.Rows
set_option maxRecDepth 100000 in
set_option maxHeartbeats 0 in
theorem PySem.Challenge.cw_surenear_k15_costs_holds : PySem.Challenge.rw_surenear_k15_costs.Holds := by
  refine K15H.headT.2.down ?_
  dsimp only [K15H.headT]
  k_fill
  refine L2.walk_of (l := PySem.Challenge.rw_surenear_k15_costs) (n := 63) (k := 11) (x := "script") (CX := fun _ => L2.CX0) (sp := fun w => K15.sp_law _) rfl (by decide) rfl ⟨rfl, by decide, by decide⟩ (fun w h Y => PySem.W.kIn_of Y) ?F (fun _ _ a ns hl _ hS => ⟨a, ns, rfl, hS, hl, fun _ => rfl⟩) (fun _ _ _ _ _ h => h)
  case F =>
    intro w mg fa h KX G hmg
    refine' K15.all_mk KX G hmg (a0 := ?a0) (l0 := ?l0) (c0 := ?c0) (k0 := ?k0) (a1 := ?a1) (l1 := ?l1) (c1 := ?c1) (k1 := ?k1) (a2 := ?a2) (l2 := ?l2) (c2 := ?c2) (k2 := ?k2) (a3 := ?a3) (l3 := ?l3) (c3 := ?c3) (k3 := ?k3) (a4 := ?a4) (l4 := ?l4) (c4 := ?c4) (k4 := ?k4) (a5 := ?a5) (l5 := ?l5) (c5 := ?c5) (k5 := ?k5) (a6 := ?a6) (l6 := ?l6) (c6 := ?c6) (k6 := ?k6) (a7 := ?a7) (l7 := ?l7) (c7 := ?c7) (k7 := ?k7) (a8 := ?a8) (l8 := ?l8) (c8 := ?c8) (k8 := ?k8) (a10 := ?a10) (l10 := ?l10) (c10 := ?c10) (k10 := ?k10) (a11 := ?a11) (l11 := ?l11) (c11 := ?c11) (k11 := ?k11) (a12 := ?a12) (l12 := ?l12) (c12 := ?c12) (k12 := ?k12) (a13 := ?a13) (l13 := ?l13) (c13 := ?c13) (k13 := ?k13) (a17 := ?a17) (l17 := ?l17) (c17 := ?c17) (k17 := ?k17) (a18 := ?a18) (l18 := ?l18) (c18 := ?c18) (k18 := ?k18) (a19 := ?a19) (l19 := ?l19) (c19 := ?c19) (k19 := ?k19) (a25 := ?a25) (l25 := ?l25) (c25 := ?c25) (k25 := ?k25) (a26 := ?a26) (l26 := ?l26) (c26 := ?c26) (k26 := ?k26) (a27 := ?a27) (l27 := ?l27) (c27 := ?c27) (k27 := ?k27) (a35 := ?a35) (l35 := ?l35) (c35 := ?c35) (k35 := ?k35) (a37 := ?a37) (l37 := ?l37) (c37 := ?c37) (k37 := ?k37) (a38 := ?a38) (l38 := ?l38) (c38 := ?c38) (k38 := ?k38) (a39 := ?a39) (l39 := ?l39) (c39 := ?c39) (k39 := ?k39) (a40 := ?a40) (l40 := ?l40) (c40 := ?c40) (k40 := ?k40) (a41 := ?a41) (l41 := ?l41) (c41 := ?c41) (k41 := ?k41) (a42 := ?a42) (l42 := ?l42) (c42 := ?c42) (k42 := ?k42) (a45 := ?a45) (l45 := ?l45) (c45 := ?c45) (k45 := ?k45) (aC_Schema := ?aC_Schema) (pg_Schema := ?pg_Schema) (hd_Schema := ?hd_Schema) (po_Schema := ?po_Schema) (sa_Schema := ?sa_Schema) (n_Schema_size := ?n_Schema_size) (n_Schema_width := ?n_Schema_width) (n_Schema_measure := ?n_Schema_measure) (n_Schema_fields := ?n_Schema_fields) (mk_Schema := ?mk_Schema) (in_Schema := ?in_Schema) (if_Schema := ?if_Schema) (kc_Schema := ?kc_Schema) (fm_Schema_far := ?fm_Schema_far) (im_Schema_far := ?im_Schema_far) (aC_Query := ?aC_Query) (pg_Query := ?pg_Query) (hd_Query := ?hd_Query) (po_Query := ?po_Query) (sa_Query := ?sa_Query) (n_Query_vector := ?n_Query_vector) (n_Query_near := ?n_Query_near) (n_Query_words := ?n_Query_words) (n_Query_text := ?n_Query_text) (n_Query_most := ?n_Query_most) (mk_Query := ?mk_Query) (in_Query := ?in_Query) (if_Query := ?if_Query) (kc_Query := ?kc_Query) (aC_Record := ?aC_Record) (pg_Record := ?pg_Record) (hd_Record := ?hd_Record) (po_Record := ?po_Record) (sa_Record := ?sa_Record) (n_Record_name := ?n_Record_name) (n_Record_vector := ?n_Record_vector) (n_Record_fields := ?n_Record_fields) (n_Record_words := ?n_Record_words) (mk_Record := ?mk_Record) (in_Record := ?in_Record) (if_Record := ?if_Record) (kc_Record := ?kc_Record) (fm_Record_count_of := ?fm_Record_count_of) (im_Record_count_of := ?im_Record_count_of) (aC_Token := ?aC_Token) (pg_Token := ?pg_Token) (hd_Token := ?hd_Token) (po_Token := ?po_Token) (sa_Token := ?sa_Token) (n_Token_kind := ?n_Token_kind) (n_Token_value := ?n_Token_value) (n_Token_place := ?n_Token_place) (mk_Token := ?mk_Token) (in_Token := ?in_Token) (if_Token := ?if_Token) (kc_Token := ?kc_Token) (aC_Every := ?aC_Every) (pg_Every := ?pg_Every) (hd_Every := ?hd_Every) (po_Every := ?po_Every) (sa_Every := ?sa_Every) (mk_Every := ?mk_Every) (in_Every := ?in_Every) (kc_Every := ?kc_Every) (aC_FilterReader := ?aC_FilterReader) (pg_FilterReader := ?pg_FilterReader) (hd_FilterReader := ?hd_FilterReader) (po_FilterReader := ?po_FilterReader) (sa_FilterReader := ?sa_FilterReader) (n_FilterReader_schema := ?n_FilterReader_schema) (n_FilterReader_tokens := ?n_FilterReader_tokens) (n_FilterReader_length := ?n_FilterReader_length) (n_FilterReader_at := ?n_FilterReader_at) (n_FilterReader_deep := ?n_FilterReader_deep) (mk_FilterReader := ?mk_FilterReader) (in_FilterReader := ?in_FilterReader) (if_FilterReader := ?if_FilterReader) (kc_FilterReader := ?kc_FilterReader) (fm_FilterReader_is_at := ?fm_FilterReader_is_at) (im_FilterReader_is_at := ?im_FilterReader_is_at) (fm_FilterReader_sees := ?fm_FilterReader_sees) (im_FilterReader_sees := ?im_FilterReader_sees) (fm_FilterReader_skips := ?fm_FilterReader_skips) (im_FilterReader_skips := ?im_FilterReader_skips) (fm_FilterReader_single := ?fm_FilterReader_single) (im_FilterReader_single := ?im_FilterReader_single) (fm_FilterReader_all_of := ?fm_FilterReader_all_of) (im_FilterReader_all_of := ?im_FilterReader_all_of) (fm_FilterReader_any_of := ?fm_FilterReader_any_of) (im_FilterReader_any_of := ?im_FilterReader_any_of) (fm_FilterReader_whole := ?fm_FilterReader_whole) (im_FilterReader_whole := ?im_FilterReader_whole) (aC_Question := ?aC_Question) (pg_Question := ?pg_Question) (hd_Question := ?hd_Question) (po_Question := ?po_Question) (sa_Question := ?sa_Question) (n_Question_schema := ?n_Question_schema) (n_Question_query := ?n_Question_query) (n_Question_condition := ?n_Question_condition) (mk_Question := ?mk_Question) (in_Question := ?in_Question) (if_Question := ?if_Question) (kc_Question := ?kc_Question) (fm_Question_cost := ?fm_Question_cost) (im_Question_cost := ?im_Question_cost) (fm_Question_rank := ?fm_Question_rank) (im_Question_rank := ?im_Question_rank) (aC_Rank := ?aC_Rank) (pg_Rank := ?pg_Rank) (hd_Rank := ?hd_Rank) (po_Rank := ?po_Rank) (sa_Rank := ?sa_Rank) (n_Rank_cost := ?n_Rank_cost) (n_Rank_name := ?n_Rank_name) (mk_Rank := ?mk_Rank) (in_Rank := ?in_Rank) (if_Rank := ?if_Rank) (kc_Rank := ?kc_Rank) (fm_Rank___eq__ := ?fm_Rank___eq__) (im_Rank___eq__ := ?im_Rank___eq__) (ha_Rank := ?ha_Rank) (hm_Rank := ?hm_Rank) (aX_InvalidQuery := ?aX_InvalidQuery) (kx_InvalidQuery := ?kx_InvalidQuery) (bx_InvalidQuery := ?bx_InvalidQuery) (tx_InvalidQuery := ?tx_InvalidQuery) (ix_InvalidQuery := ?ix_InvalidQuery) (aX_InvalidSchema := ?aX_InvalidSchema) (kx_InvalidSchema := ?kx_InvalidSchema) (bx_InvalidSchema := ?bx_InvalidSchema) (tx_InvalidSchema := ?tx_InvalidSchema) (ix_InvalidSchema := ?ix_InvalidSchema) (hn0 := ?hn0) (ht0 := ?ht0) (l9 := ?l9) (n9_width := ?n9_width) (n9_measure := ?n9_measure) (n9_fields := ?n9_fields) (t9_fields := ?t9_fields) (c9 := ?c9) (k9 := ?k9) (l14 := ?l14) (c14 := ?c14) (k14 := ?k14) (l15 := ?l15) (c15 := ?c15) (k15 := ?k15) (l16 := ?l16) (c16 := ?c16) (k16 := ?k16) (l20 := ?l20) (c20 := ?c20) (k20 := ?k20) (l21 := ?l21) (c21 := ?c21) (k21 := ?k21) (l22 := ?l22) (c22 := ?c22) (k22 := ?k22) (l23 := ?l23) (c23 := ?c23) (k23 := ?k23) (l24 := ?l24) (c24 := ?c24) (k24 := ?k24) (l28 := ?l28) (c28 := ?c28) (k28 := ?k28) (l29 := ?l29) (n29_near := ?n29_near) (n29_words := ?n29_words) (t29_words := ?t29_words) (n29_text := ?n29_text) (n29_most := ?n29_most) (c29 := ?c29) (k29 := ?k29) (l30 := ?l30) (n30_fields := ?n30_fields) (t30_fields := ?t30_fields) (n30_words := ?n30_words) (t30_words := ?t30_words) (c30 := ?c30) (k30 := ?k30) (l31 := ?l31) (c31 := ?c31) (k31 := ?k31) (l32 := ?l32) (c32 := ?c32) (k32 := ?k32) (l33 := ?l33) (c33 := ?c33) (k33 := ?k33) (l34 := ?l34) (c34 := ?c34) (k34 := ?k34) (l36 := ?l36) (c36 := ?c36) (k36 := ?k36) (l43 := ?l43) (c43 := ?c43) (k43 := ?k43) (l44 := ?l44) (c44 := ?c44) (k44 := ?k44) (z_KINDS := ?z_KINDS) (zl_KINDS := ?zl_KINDS) (z_MEASURES := ?z_MEASURES) (zl_MEASURES := ?zl_MEASURES) (z_MOST_COUNT := ?z_MOST_COUNT) (z_RESERVED := ?z_RESERVED) (zl_RESERVED := ?zl_RESERVED) (z_WIDTHS := ?z_WIDTHS) (zl_WIDTHS := ?zl_WIDTHS) (z_WIDTHS_bit := ?z_WIDTHS_bit) (zl_WIDTHS_bit := ?zl_WIDTHS_bit) (z_WIDTHS_small := ?z_WIDTHS_small) (zl_WIDTHS_small := ?zl_WIDTHS_small) (z_WIDTHS_wide := ?z_WIDTHS_wide) (zl_WIDTHS_wide := ?zl_WIDTHS_wide) (z_all := ?z_all) (z_any := ?z_any) (z_bool := ?z_bool) (z_int := ?z_int) (z_isinstance := ?z_isinstance) (z_len := ?z_len) (z_list := ?z_list) (z_max := ?z_max) (z_min := ?z_min) (z_range := ?z_range) (z_set := ?z_set) (z_sum := ?z_sum) (z_tuple := ?z_tuple) (z_zip := ?z_zip) (ex_InvalidQuery := ?ex_InvalidQuery) (ex_InvalidSchema := ?ex_InvalidSchema) (zv_KINDS := ?zv_KINDS) (zn_KINDS := ?zn_KINDS) (zv_MEASURES := ?zv_MEASURES) (zn_MEASURES := ?zn_MEASURES) (zv_RESERVED := ?zv_RESERVED) (zn_RESERVED := ?zn_RESERVED) (zk_WIDTHS := ?zk_WIDTHS) (zs_WIDTHS := ?zs_WIDTHS) (zv_WIDTHS_bit := ?zv_WIDTHS_bit) (zn_WIDTHS_bit := ?zn_WIDTHS_bit) (zv_WIDTHS_small := ?zv_WIDTHS_small) (zn_WIDTHS_small := ?zn_WIDTHS_small) (zv_WIDTHS_wide := ?zv_WIDTHS_wide) (zn_WIDTHS_wide := ?zn_WIDTHS_wide)
    (case a0 => k_is); (case l0 => k_is); (case c0 => k_is); (case k0 => k_is); (case a1 => k_is); (case l1 => k_is); (case c1 => k_is); (case k1 => k_is); (case a2 => k_is); (case l2 => k_is); (case c2 => k_is); (case k2 => k_is); (case a3 => k_is); (case l3 => k_is); (case c3 => k_is); (case k3 => k_is); (case a4 => k_is); (case l4 => k_is); (case c4 => k_is); (case k4 => k_is); (case a5 => k_is); (case l5 => k_is); (case c5 => k_is); (case k5 => k_is); (case a6 => k_is); (case l6 => k_is); (case c6 => k_is); (case k6 => k_is); (case a7 => k_is); (case l7 => k_is); (case c7 => k_is); (case k7 => k_is); (case a8 => k_is); (case l8 => k_is); (case c8 => k_is); (case k8 => k_is); (case a10 => k_is); (case l10 => k_is); (case c10 => k_is); (case k10 => k_is); (case a11 => k_is); (case l11 => k_is); (case c11 => k_is); (case k11 => k_is); (case a12 => k_is); (case l12 => k_is); (case c12 => k_is); (case k12 => k_is); (case a13 => k_is); (case l13 => k_is); (case c13 => k_is); (case k13 => k_is); (case a17 => k_is); (case l17 => k_is); (case c17 => k_is); (case k17 => k_is); (case a18 => k_is); (case l18 => k_is); (case c18 => k_is); (case k18 => k_is); (case a19 => k_is); (case l19 => k_is); (case c19 => k_is); (case k19 => k_is); (case a25 => k_is); (case l25 => k_is); (case c25 => k_is); (case k25 => k_is); (case a26 => k_is); (case l26 => k_is); (case c26 => k_is); (case k26 => k_is); (case a27 => k_is); (case l27 => k_is); (case c27 => k_is); (case k27 => k_is); (case a35 => k_is); (case l35 => k_is); (case c35 => k_is); (case k35 => k_is); (case a37 => k_is); (case l37 => k_is); (case c37 => k_is); (case k37 => k_is); (case a38 => k_is); (case l38 => k_is); (case c38 => k_is); (case k38 => k_is); (case a39 => k_is); (case l39 => k_is); (case c39 => k_is); (case k39 => k_is); (case a40 => k_is); (case l40 => k_is); (case c40 => k_is); (case k40 => k_is); (case a41 => k_is); (case l41 => k_is); (case c41 => k_is); (case k41 => k_is); (case a42 => k_is); (case l42 => k_is); (case c42 => k_is); (case k42 => k_is); (case a45 => k_is); (case l45 => k_is); (case c45 => k_is); (case k45 => k_is); (case aC_Schema => k_is); (case pg_Schema => k_is); (case hd_Schema => k_is); (case po_Schema => k_is); (case sa_Schema => k_is); (case n_Schema_size => k_is); (case n_Schema_width => k_is); (case n_Schema_measure => k_is); (case n_Schema_fields => k_is); (case mk_Schema => k_is); (case in_Schema => k_is); (case if_Schema => k_is); (case kc_Schema => k_is); (case fm_Schema_far => k_is); (case im_Schema_far => k_is); (case aC_Query => k_is); (case pg_Query => k_is); (case hd_Query => k_is); (case po_Query => k_is); (case sa_Query => k_is); (case n_Query_vector => k_is); (case n_Query_near => k_is); (case n_Query_words => k_is); (case n_Query_text => k_is); (case n_Query_most => k_is); (case mk_Query => k_is); (case in_Query => k_is); (case if_Query => k_is); (case kc_Query => k_is); (case aC_Record => k_is); (case pg_Record => k_is); (case hd_Record => k_is); (case po_Record => k_is); (case sa_Record => k_is); (case n_Record_name => k_is); (case n_Record_vector => k_is); (case n_Record_fields => k_is); (case n_Record_words => k_is); (case mk_Record => k_is); (case in_Record => k_is); (case if_Record => k_is); (case kc_Record => k_is); (case fm_Record_count_of => k_is); (case im_Record_count_of => k_is); (case aC_Token => k_is); (case pg_Token => k_is); (case hd_Token => k_is); (case po_Token => k_is); (case sa_Token => k_is); (case n_Token_kind => k_is); (case n_Token_value => k_is); (case n_Token_place => k_is); (case mk_Token => k_is); (case in_Token => k_is); (case if_Token => k_is); (case kc_Token => k_is); (case aC_Every => k_is); (case pg_Every => k_is); (case hd_Every => k_is); (case po_Every => k_is); (case sa_Every => k_is); (case mk_Every => k_is); (case in_Every => k_is); (case kc_Every => k_is); (case aC_FilterReader => k_is); (case pg_FilterReader => k_is); (case hd_FilterReader => k_is); (case po_FilterReader => k_is); (case sa_FilterReader => k_is); (case n_FilterReader_schema => k_is); (case n_FilterReader_tokens => k_is); (case n_FilterReader_length => k_is); (case n_FilterReader_at => k_is); (case n_FilterReader_deep => k_is); (case mk_FilterReader => k_is); (case in_FilterReader => k_is); (case if_FilterReader => k_is); (case kc_FilterReader => k_is); (case fm_FilterReader_is_at => k_is); (case im_FilterReader_is_at => k_is); (case fm_FilterReader_sees => k_is); (case im_FilterReader_sees => k_is); (case fm_FilterReader_skips => k_is); (case im_FilterReader_skips => k_is); (case fm_FilterReader_single => k_is); (case im_FilterReader_single => k_is); (case fm_FilterReader_all_of => k_is); (case im_FilterReader_all_of => k_is); (case fm_FilterReader_any_of => k_is); (case im_FilterReader_any_of => k_is); (case fm_FilterReader_whole => k_is); (case im_FilterReader_whole => k_is); (case aC_Question => k_is); (case pg_Question => k_is); (case hd_Question => k_is); (case po_Question => k_is); (case sa_Question => k_is); (case n_Question_schema => k_is); (case n_Question_query => k_is); (case n_Question_condition => k_is); (case mk_Question => k_is); (case in_Question => k_is); (case if_Question => k_is); (case kc_Question => k_is); (case fm_Question_cost => k_is); (case im_Question_cost => k_is); (case fm_Question_rank => k_is); (case im_Question_rank => k_is); (case aC_Rank => k_is); (case pg_Rank => k_is); (case hd_Rank => k_is); (case po_Rank => k_is); (case sa_Rank => k_is); (case n_Rank_cost => k_is); (case n_Rank_name => k_is); (case mk_Rank => k_is); (case in_Rank => k_is); (case if_Rank => k_is); (case kc_Rank => k_is); (case fm_Rank___eq__ => k_is); (case im_Rank___eq__ => k_is); (case ha_Rank => k_is); (case hm_Rank => k_is); (case aX_InvalidQuery => k_is); (case kx_InvalidQuery => k_is); (case bx_InvalidQuery => k_is); (case tx_InvalidQuery => k_is); (case ix_InvalidQuery => k_is); (case aX_InvalidSchema => k_is); (case kx_InvalidSchema => k_is); (case bx_InvalidSchema => k_is); (case tx_InvalidSchema => k_is); (case ix_InvalidSchema => k_is); (case hn0 => k_is); (case ht0 => k_is); (case l9 => k_is); (case n9_width => k_is); (case n9_measure => k_is); (case n9_fields => k_is); (case t9_fields => k_is); (case c9 => k_is); (case k9 => k_is); (case l14 => k_is); (case c14 => k_is); (case k14 => k_is); (case l15 => k_is); (case c15 => k_is); (case k15 => k_is); (case l16 => k_is); (case c16 => k_is); (case k16 => k_is); (case l20 => k_is); (case c20 => k_is); (case k20 => k_is); (case l21 => k_is); (case c21 => k_is); (case k21 => k_is); (case l22 => k_is); (case c22 => k_is); (case k22 => k_is); (case l23 => k_is); (case c23 => k_is); (case k23 => k_is); (case l24 => k_is); (case c24 => k_is); (case k24 => k_is); (case l28 => k_is); (case c28 => k_is); (case k28 => k_is); (case l29 => k_is); (case n29_near => k_is); (case n29_words => k_is); (case t29_words => k_is); (case n29_text => k_is); (case n29_most => k_is); (case c29 => k_is); (case k29 => k_is); (case l30 => k_is); (case n30_fields => k_is); (case t30_fields => k_is); (case n30_words => k_is); (case t30_words => k_is); (case c30 => k_is); (case k30 => k_is); (case l31 => k_is); (case c31 => k_is); (case k31 => k_is); (case l32 => k_is); (case c32 => k_is); (case k32 => k_is); (case l33 => k_is); (case c33 => k_is); (case k33 => k_is); (case l34 => k_is); (case c34 => k_is); (case k34 => k_is); (case l36 => k_is); (case c36 => k_is); (case k36 => k_is); (case l43 => k_is); (case c43 => k_is); (case k43 => k_is); (case l44 => k_is); (case c44 => k_is); (case k44 => k_is); (case z_KINDS => k_is); (case zl_KINDS => k_is); (case z_MEASURES => k_is); (case zl_MEASURES => k_is); (case z_MOST_COUNT => k_is); (case z_RESERVED => k_is); (case zl_RESERVED => k_is); (case z_WIDTHS => k_is); (case zl_WIDTHS => k_is); (case z_WIDTHS_bit => k_is); (case zl_WIDTHS_bit => k_is); (case z_WIDTHS_small => k_is); (case zl_WIDTHS_small => k_is); (case z_WIDTHS_wide => k_is); (case zl_WIDTHS_wide => k_is); (case z_all => k_is); (case z_any => k_is); (case z_bool => k_is); (case z_int => k_is); (case z_isinstance => k_is); (case z_len => k_is); (case z_list => k_is); (case z_max => k_is); (case z_min => k_is); (case z_range => k_is); (case z_set => k_is); (case z_sum => k_is); (case z_tuple => k_is); (case z_zip => k_is)
    (case zv_KINDS => exact .cons ⟨_, rfl⟩ (.cons ⟨_, rfl⟩ (.cons ⟨_, rfl⟩ .nil))); (case zn_KINDS => decide); (case zv_MEASURES => exact .cons ⟨_, rfl⟩ (.cons ⟨_, rfl⟩ (.cons ⟨_, rfl⟩ .nil))); (case zn_MEASURES => decide); (case zv_RESERVED => exact .cons ⟨_, rfl⟩ (.cons ⟨_, rfl⟩ (.cons ⟨_, rfl⟩ (.cons ⟨_, rfl⟩ (.cons ⟨_, rfl⟩ (.cons ⟨_, rfl⟩ (.cons ⟨_, rfl⟩ (.cons ⟨_, rfl⟩ .nil)))))))); (case zn_RESERVED => decide); (case zk_WIDTHS => exact ⟨⟨_, _, rfl, rfl⟩, ⟨⟨_, _, rfl, rfl⟩, ⟨⟨_, _, rfl, rfl⟩, trivial⟩⟩⟩); (case zs_WIDTHS => first | rfl | decide); (case zv_WIDTHS_bit => exact .cons ⟨_, rfl⟩ (.cons ⟨_, rfl⟩ .nil)); (case zn_WIDTHS_bit => decide); (case zv_WIDTHS_small => exact .cons ⟨_, rfl⟩ (.cons ⟨_, rfl⟩ .nil)); (case zn_WIDTHS_small => decide); (case zv_WIDTHS_wide => exact .cons ⟨_, rfl⟩ (.cons ⟨_, rfl⟩ .nil)); (case zn_WIDTHS_wide => decide)
    (case ex_InvalidQuery => k_exc); (case ex_InvalidSchema => k_exc)
