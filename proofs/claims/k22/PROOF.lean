import PyProof.Rows.All
import Wide.All
import OpenK.AllK
import Wide.FinOn
import HandS.ForMost
import HandS.Codes
import HandS.Wide
import HandS.IsInst
import HandS.Walk
import HandS.Text
import HandS.MakeKwOnly
import HandS.Zip
import HandS.Property
import HandS.Conv
import KE.KEqSeq
import KE.LtData
import KE.OsRunLaw
import PySem.Challenge.RW_surenear_k22_outcomes_of_one_fact
set_option Elab.async false
set_option linter.all false
set_option maxRecDepth 100000
namespace K22
open PySem PySem.Spec PyProof.Rows L2
open C8 (tCut pss_cut)
/-! the text by places -/
def topS (i : Nat) : Stmt := PySem.Challenge.pw_surenear_k22_outcomes_of_one_fact.main.body.getD i (.Pass ⟨0, 0, 0, 0⟩)
abbrev s_law_row : Stmt := (topS 49)
abbrev s_law_next : Stmt := (topS 50)
abbrev s_kind_of_value : Stmt := (topS 2)
abbrev s_satisfies : Stmt := (topS 6)
abbrev s_law_compares : Stmt := (topS 53)
abbrev s_same_value : Stmt := (topS 3)
abbrev s_is_among : Stmt := (topS 5)
abbrev s_is_from : Stmt := (topS 28)
abbrev s_outcomes_of_lack : Stmt := (topS 29)
abbrev s_range_outcomes : Stmt := (topS 30)
abbrev s_value_passes : Stmt := (topS 31)
abbrev s_Range_outcomes : Stmt := (inClass (topS 23) 2)
abbrev s_Values_outcomes : Stmt := (inClass (topS 24) 2)
abbrev s_Has___init__ : Stmt := (inClass (topS 12) 0)
abbrev s_Compare___init__ : Stmt := (inClass (topS 13) 0)
abbrev s_OneOf___init__ : Stmt := (inClass (topS 14) 0)
abbrev s_Range___init__ : Stmt := (inClass (topS 23) 0)
abbrev s_Values___init__ : Stmt := (inClass (topS 24) 0)
abbrev s_law_made : Stmt := (topS 51)
abbrev s_law_built : Stmt := (topS 52)
abbrev s_law_worth_passes : Stmt := (topS 54)
abbrev s_law_outcomes : Stmt := (topS 55)
abbrev s_law_field_fact : Stmt := (topS 56)
abbrev s_law_leaf : Stmt := (topS 57)
abbrev s_law : Stmt := (topS 58)
theorem sc_law_row : FnScope ["script", "k", "cell", "a", "b", "c"] ["script", "k"] (defScope s_law_row) := ⟨rfl, rfl, rfl, by decide +kernel, rfl, by decide +kernel, by decide +kernel⟩
theorem sc_law_next : FnScope ["state", "many", "drawn"] ["state", "many"] (defScope s_law_next) := ⟨rfl, rfl, rfl, by decide +kernel, rfl, by decide +kernel, by decide +kernel⟩
theorem sc_kind_of_value : FnScope ["worth"] ["worth"] (defScope s_kind_of_value) := ⟨rfl, rfl, rfl, by decide +kernel, rfl, by decide +kernel, by decide +kernel⟩
theorem sc_satisfies : FnScope ["worth", "sign", "other"] ["worth", "sign", "other"] (defScope s_satisfies) := ⟨rfl, rfl, rfl, by decide +kernel, rfl, by decide +kernel, by decide +kernel⟩
theorem sc_law_compares : FnScope ["sign", "a", "b"] ["sign", "a", "b"] (defScope s_law_compares) := ⟨rfl, rfl, rfl, by decide +kernel, rfl, by decide +kernel, by decide +kernel⟩
theorem sc_same_value : FnScope ["one", "other"] ["one", "other"] (defScope s_same_value) := ⟨rfl, rfl, rfl, by decide +kernel, rfl, by decide +kernel, by decide +kernel⟩
theorem sc_is_among : FnScope ["worth", "choices", "choice"] ["worth", "choices"] (defScope s_is_among) := ⟨rfl, rfl, rfl, by decide +kernel, rfl, by decide +kernel, by decide +kernel⟩
theorem sc_is_from : FnScope ["low", "high", "worth"] ["low", "high", "worth"] (defScope s_is_from) := ⟨rfl, rfl, rfl, by decide +kernel, rfl, by decide +kernel, by decide +kernel⟩
theorem sc_outcomes_of_lack : FnScope ["lack"] ["lack"] (defScope s_outcomes_of_lack) := ⟨rfl, rfl, rfl, by decide +kernel, rfl, by decide +kernel, by decide +kernel⟩
theorem sc_range_outcomes : FnScope ["low", "high", "sign", "value", "can_equal", "can_differ"] ["low", "high", "sign", "value"] (defScope s_range_outcomes) := ⟨rfl, rfl, rfl, by decide +kernel, rfl, by decide +kernel, by decide +kernel⟩
theorem sc_value_passes : FnScope ["worth", "condition"] ["worth", "condition"] (defScope s_value_passes) := ⟨rfl, rfl, rfl, by decide +kernel, rfl, by decide +kernel, by decide +kernel⟩
theorem sc_Range_outcomes : FnScope ["self", "condition", "can_pass", "worth", "can_fail"] ["self", "condition"] (defScope s_Range_outcomes) := ⟨rfl, rfl, rfl, by decide +kernel, rfl, by decide +kernel, by decide +kernel⟩
theorem sc_Values_outcomes : FnScope ["self", "condition", "passed", "worth"] ["self", "condition"] (defScope s_Values_outcomes) := ⟨rfl, rfl, rfl, by decide +kernel, rfl, by decide +kernel, by decide +kernel⟩
theorem sc_Has___init__ : FnScope ["self", "field"] ["self", "field"] (defScope s_Has___init__) := ⟨rfl, rfl, rfl, by decide +kernel, rfl, by decide +kernel, by decide +kernel⟩
theorem sc_Compare___init__ : FnScope ["self", "field", "sign", "value"] ["self", "field", "sign", "value"] (defScope s_Compare___init__) := ⟨rfl, rfl, rfl, by decide +kernel, rfl, by decide +kernel, by decide +kernel⟩
theorem sc_OneOf___init__ : FnScope ["self", "field", "choices"] ["self", "field", "choices"] (defScope s_OneOf___init__) := ⟨rfl, rfl, rfl, by decide +kernel, rfl, by decide +kernel, by decide +kernel⟩
theorem sc_Range___init__ : FnScope ["self", "field", "low", "high", "lack"] ["self", "field", "low", "high", "lack"] (defScope s_Range___init__) := ⟨rfl, rfl, rfl, by decide +kernel, rfl, by decide +kernel, by decide +kernel⟩
theorem sc_Values___init__ : FnScope ["self", "field", "choices", "lack"] ["self", "field", "choices", "lack"] (defScope s_Values___init__) := ⟨rfl, rfl, rfl, by decide +kernel, rfl, by decide +kernel, by decide +kernel⟩
theorem sc_law_made : FnScope ["fact", "start", "centre", "radius"] ["fact"] (defScope s_law_made) := ⟨rfl, rfl, rfl, by decide +kernel, rfl, by decide +kernel, by decide +kernel⟩
theorem sc_law_built : FnScope ["tree"] ["tree"] (defScope s_law_built) := ⟨rfl, rfl, rfl, by decide +kernel, rfl, by decide +kernel, by decide +kernel⟩
theorem sc_law_worth_passes : FnScope ["tree", "worth"] ["tree", "worth"] (defScope s_law_worth_passes) := ⟨rfl, rfl, rfl, by decide +kernel, rfl, by decide +kernel, by decide +kernel⟩
theorem sc_law_outcomes : FnScope ["fact", "tree", "lack", "worths", "passing", "worth", "failing", "fails"] ["fact", "tree"] (defScope s_law_outcomes) := ⟨rfl, rfl, rfl, by decide +kernel, rfl, by decide +kernel, by decide +kernel⟩
theorem sc_law_field_fact : FnScope ["state", "lack", "low"] ["state"] (defScope s_law_field_fact) := ⟨rfl, rfl, rfl, by decide +kernel, rfl, by decide +kernel, by decide +kernel⟩
theorem sc_law_leaf : FnScope ["state", "kind", "name", "worths", "k"] ["state"] (defScope s_law_leaf) := ⟨rfl, rfl, rfl, by decide +kernel, rfl, by decide +kernel, by decide +kernel⟩
theorem sc_law : FnScope ["script", "state", "turn", "fact", "tree", "actual", "due"] ["script"] (defScope s_law) := ⟨rfl, rfl, rfl, by decide +kernel, rfl, by decide +kernel, by decide +kernel⟩
/-! the mathematics -/

/-- the state of the draws stands at st -/
def StAt (H : Hp) (st sc : Addr) : Prop := ∃ (ns : List Int) (k x : Int), H st = some (.lst [.ref sc, .int k, .int x]) ∧ H sc = some (.lst (ns.map V.int)) ∧ 0 ≤ k ∧ 0 ≤ x ∧ ns.length ≤ 63
/-- all but st is as it was -/
def Oth (st : Addr) (H H' : Hp) : Prop := ∀ b, b ≠ st → H' b = H b
theorem Oth.refl (st : Addr) (H : Hp) : Oth st H H := fun _ _ => rfl
theorem Oth.trans {st : Addr} {H H1 H2 : Hp} (a : Oth st H H1) (b : Oth st H1 H2) : Oth st H H2 := fun c h => (b c h).trans (a c h)
theorem qT {Q : VK} {H : Hp} {c : Prop} [Decidable c] (h : c) (q : Q (.bl true) H) : Q (.bl (decide c)) H := by
  rw [decide_eq_true h]
  exact q
theorem qF {Q : VK} {H : Hp} {c : Prop} [Decidable c] (h : ¬ c) (q : Q (.bl false) H) : Q (.bl (decide c)) H := by
  rw [decide_eq_false h]
  exact q
theorem ixN_nat {n j : Nat} (h : j < n) : ixN n (j : Int) = some j := by
  unfold ixN
  rw [if_pos (by omega), if_pos (by omega)]
  simp
theorem item_map {ns : List Int} {k : Int} (h0 : 0 ≤ k) (h1 : k < ns.length) : ∃ c, atI (ns.map V.int) k = some (.int c) := by
  have hj : k.toNat < ns.length := by omega
  refine ⟨ns[k.toNat], at_of (j := k.toNat) (by omega) ?_⟩
  rw [List.getElem?_map, List.getElem?_eq_getElem hj]
  rfl

/-- what was tracked is so still, but for what stands at st -/
def Fr (st : Addr) (H H' : Hp) : Prop := ∀ b o, H b = some o → b ≠ st → H' b = some o
theorem Fr.refl (st : Addr) (H : Hp) : Fr st H H := fun _ _ h _ => h
theorem Fr.trans {st : Addr} {H H1 H2 : Hp} (a : Fr st H H1) (b : Fr st H1 H2) : Fr st H H2 := fun c o h n => b c o (a c o h n) n
theorem Oth.fr {st : Addr} {H H' : Hp} (h : Oth st H H') : Fr st H H' := fun b _ e n => (h b n).trans e
theorem Fr.new {st : Addr} {H : Hp} {p : Addr} {o : HO} (h : H p = none) : Fr st H (upd H p o) := fun b u e _ => by
  rw [upd_ne (ne_of_none e h)]
  exact e
theorem Fr.set {st : Addr} {H H' : Hp} {p : Addr} {o : HO} (f : Fr st H H') (h : H p = none) : Fr st H (upd H' p o) := fun b u e n => by
  rw [upd_ne (ne_of_none e h)]
  exact f b u e n
theorem Fr.lst {st : Addr} {H H' : Hp} (f : Fr st H H') {b : Addr} {o : HO} (e : H b = some o) (n : b ≠ st) : H' b = some o := f b o e n
/-- a list of integers is not the state -/
theorem st_ne {H : Hp} {st b sc : Addr} (hS : StAt H st sc) {xs : List Int} (h : H b = some (.lst (xs.map V.int))) : b ≠ st := fun e => by
  obtain ⟨ns, k, x, h1, _⟩ := hS
  rw [e, h1] at h
  have z := HO.lst.inj (Option.some.inj h)
  cases xs with
  | nil => cases z
  | cons y r => cases (List.cons.inj z).1
theorem st_new {H : Hp} {st b sc : Addr} (hS : StAt H st sc) (h : H b = none) : b ≠ st := fun e => by
  obtain ⟨ns, k, x, h1, _⟩ := hS
  rw [e, h1] at h
  cases h
/-- the state's own list of the script stands apart from all that is new -/
theorem StAt.new {H : Hp} {st p sc : Addr} {o : HO} (hS : StAt H st sc) (hn : H p = none) : StAt (upd H p o) st sc := by
  obtain ⟨ns, k, x, h1, h2, k0, x0, hl⟩ := hS
  exact ⟨ns, k, x, by rw [upd_ne (ne_of_none h1 hn)]; exact h1, by rw [upd_ne (ne_of_none h2 hn)]; exact h2, k0, x0, hl⟩
theorem StAt.set {H H' : Hp} {st p sc : Addr} {o : HO} (hS' : StAt H' st sc) (hS : StAt H st sc) (hn : H p = none) : StAt (upd H' p o) st sc := by
  obtain ⟨ns, k, x, h1, h2, k0, x0, hl⟩ := hS
  obtain ⟨ns', k', x', h1', h2', k0', x0', hl'⟩ := hS'
  exact ⟨ns', k', x', by rw [upd_ne (ne_of_none h1 hn)]; exact h1', by rw [upd_ne (ne_of_none h2 hn)]; exact h2', k0', x0', hl'⟩
def Bd (n : Int) (xs : List Int) : Prop := ∀ z ∈ xs, -n ≤ z ∧ z ≤ n
theorem Bd.at {n : Int} {xs : List Int} (h : Bd n xs) {i : Nat} {z : Int} (e : xs[i]? = some z) : -n ≤ z ∧ z ≤ n := h z (List.mem_of_getElem? e)
def dist : List Int → List Int → Int
  | x :: xs, y :: ys => (x - y) * (x - y) + dist xs ys
  | _, _ => 0
theorem sq_nn (x : Int) : 0 ≤ x * x := by
  rcases Int.le_total 0 x with h | h
  · exact Int.mul_nonneg h h
  · have := Int.mul_nonneg (Int.neg_nonneg_of_nonpos h) (Int.neg_nonneg_of_nonpos h)
    rwa [Int.neg_mul_neg] at this
theorem dist_nn : ∀ xs ys : List Int, 0 ≤ dist xs ys
  | [], _ => by unfold dist; exact Int.le_refl 0
  | _ :: _, [] => by unfold dist; exact Int.le_refl 0
  | x :: xs, y :: ys => by
    unfold dist
    have := dist_nn xs ys
    have := sq_nn (x - y)
    omega
theorem dist_take : ∀ {xs ys : List Int} {i : Nat} {x y : Int}, xs[i]? = some x → ys[i]? = some y → dist (xs.take (i + 1)) (ys.take (i + 1)) = dist (xs.take i) (ys.take i) + (x - y) * (x - y)
  | [], _, _, _, _, h, _ => by simp at h
  | _ :: _, [], _, _, _, _, h => by simp at h
  | a :: r, b :: t, 0, x, y, h, h2 => by
    have e1 : a = x := Option.some.inj h
    have e2 : b = y := Option.some.inj h2
    subst e1 e2
    simp [dist]
  | a :: r, b :: t, i + 1, x, y, h, h2 => by
    have ih := dist_take (xs := r) (ys := t) (i := i) (x := x) (y := y) h h2
    show (a - b) * (a - b) + dist (r.take (i + 1)) (t.take (i + 1)) = (a - b) * (a - b) + dist (r.take i) (t.take i) + (x - y) * (x - y)
    rw [ih]
    omega
theorem sq_le {x n : Int} (h1 : -n ≤ x) (h2 : x ≤ n) : x * x ≤ n * n := by
  have a : 0 ≤ n - x := by omega
  have b : 0 ≤ n + x := by omega
  have c := Int.mul_nonneg a b
  have e : (n - x) * (n + x) = n * n - x * x := by grind
  omega
theorem dist_le {n : Int} : ∀ {xs ys : List Int}, Bd n xs → Bd n ys → dist xs ys ≤ xs.length * (4 * (n * n))
  | [], _, _, _ => by simp [dist]
  | x :: xs, [], _, _ => by
    unfold dist
    exact Int.mul_nonneg (Int.natCast_nonneg _) (Int.mul_nonneg (by decide) (sq_nn n))
  | x :: xs, y :: ys, hx, hy => by
    have ih := dist_le (n := n) (xs := xs) (ys := ys) (fun z h => hx z (List.mem_cons_of_mem _ h)) (fun z h => hy z (List.mem_cons_of_mem _ h))
    have h1 := hx x (List.mem_cons_self)
    have h2 := hy y (List.mem_cons_self)
    have h3 : (x - y) * (x - y) ≤ (2 * n) * (2 * n) := sq_le (by omega) (by omega)
    have e : (2 * n) * (2 * n) = 4 * (n * n) := by grind
    unfold dist
    rw [List.length_cons]
    have e2 : ((xs.length + 1 : Nat) : Int) * (4 * (n * n)) = xs.length * (4 * (n * n)) + 4 * (n * n) := by grind
    omega
theorem get_map {xs : List Int} {i : Nat} {y : V} (h : (xs.map V.int)[i]? = some y) : ∃ z, y = V.int z ∧ xs[i]? = some z := by
  rw [List.getElem?_map] at h
  cases e : xs[i]? with
  | none =>
    rw [e] at h
    cases h
  | some z =>
    rw [e] at h
    exact ⟨z, (Option.some.inj h).symm, rfl⟩
theorem map_get {xs : List Int} {i : Nat} {z : Int} (h : xs[i]? = some z) : (xs.map V.int)[i]? = some (V.int z) := by
  rw [List.getElem?_map, h]
  rfl
theorem len_le {n : Nat} (h : n ≤ 1000) : n < sizeLine := small1000 h

/-- at p stands a list of n integers, none beyond s -/
def IsPt (H : Hp) (p : Addr) (n s : Int) (zs : List Int) : Prop := H p = some (.lst (zs.map V.int)) ∧ (zs.length : Int) = n ∧ Bd s zs
theorem IsPt.fr {H H' : Hp} {p st sc : Addr} {n s : Int} {zs : List Int} (h : IsPt H p n s zs) (hS : StAt H st sc) (f : Fr st H H') : IsPt H' p n s zs := ⟨f _ _ h.1 (st_ne hS h.1), h.2.1, h.2.2⟩
theorem IsPt.wide {H : Hp} {p : Addr} {n s t : Int} {zs : List Int} (h : IsPt H p n s zs) (e : s ≤ t) : IsPt H p n t zs := ⟨h.1, h.2.1, fun z hz => by have := h.2.2 z hz; omega⟩
theorem IsPt.get {H : Hp} {p : Addr} {n s : Int} {zs : List Int} (h : IsPt H p n s zs) {i : Nat} (hi : (i : Int) < n) : ∃ z, zs[i]? = some z ∧ -s ≤ z ∧ z ≤ s := by
  have hl : i < zs.length := by have := h.2.1; omega
  exact ⟨zs[i], List.getElem?_eq_getElem hl, h.2.2.at (List.getElem?_eq_getElem hl)⟩
theorem dist_small {H : Hp} {p r : Addr} {n : Int} {xs ys : List Int} (h1 : IsPt H p n 30000 xs) (h2 : IsPt H r n 30000 ys) (hn : n ≤ 5) : 0 ≤ dist xs ys ∧ dist xs ys < 100000000000 := by
  refine ⟨dist_nn _ _, ?_⟩
  have a := dist_le h1.2.2 h2.2.2
  have b := h1.2.1
  have e : (30000 : Int) * 30000 = 900000000 := by decide
  rw [e] at a
  have : (xs.length : Int) * (4 * 900000000) ≤ 5 * (4 * 900000000) := by omega
  omega
theorem pick4 {a b c d k : Int} (h0 : 0 ≤ k) (h1 : k < 4) : ∃ v, atI [V.int a, V.int b, V.int c, V.int d] k = some (.int v) ∧ (v = a ∨ v = b ∨ v = c ∨ v = d) := by
  have : k = 0 ∨ k = 1 ∨ k = 2 ∨ k = 3 := by omega
  rcases this with rfl | rfl | rfl | rfl
  · exact ⟨a, at_of (j := 0) rfl rfl, .inl rfl⟩
  · exact ⟨b, at_of (j := 1) rfl rfl, .inr (.inl rfl)⟩
  · exact ⟨c, at_of (j := 2) rfl rfl, .inr (.inr (.inl rfl))⟩
  · exact ⟨d, at_of (j := 3) rfl rfl, .inr (.inr (.inr rfl))⟩
theorem st_made {H : Hp} {sc st : Addr} {ns : List Int} (h1 : H sc = none) (h2 : upd H sc (.lst (ns.map V.int)) st = none) (hl : ns.length ≤ 63) : StAt (upd (upd H sc (.lst (ns.map V.int))) st (.lst [.ref sc, .int 0, .int 0])) st sc := by
  have ne : sc ≠ st := fun e => by
    rw [← e, upd_same] at h2
    cases h2
  exact ⟨ns, 0, 0, upd_same, by rw [upd_ne ne, upd_same], by decide, by decide, hl⟩

theorem same_fr {st : Addr} {H H' : Hp} (h : Same H H') : Fr st H H' := fun b o e _ => h b o e
theorem same_new {H : Hp} {p : Addr} {o : HO} (h : H p = none) : Same H (upd H p o) := fun b u e => by
  rw [upd_ne (ne_of_none e h)]
  exact e
theorem same_set {H H' : Hp} {p : Addr} {o : HO} (f : Same H H') (h : H p = none) : Same H (upd H' p o) := fun b u e => by
  rw [upd_ne (ne_of_none e h)]
  exact f b u e
theorem StAt.same {H H' : Hp} {st sc : Addr} (hS : StAt H st sc) (f : Same H H') : StAt H' st sc := by
  obtain ⟨ns, k, x, h1, h2, k0, x0, hl⟩ := hS
  exact ⟨ns, k, x, f _ _ h1, f _ _ h2, k0, x0, hl⟩
/-- the terms of a sum over two lists -/
def ter (f : Int → Int → Int) (xs ys : List Int) : List Int := List.zipWith f xs ys
theorem ter_get {f : Int → Int → Int} {xs ys : List Int} {i : Nat} {x y : Int} (hx : xs[i]? = some x) (hy : ys[i]? = some y) : (ter f xs ys)[i]? = some (f x y) := by
  unfold ter
  rw [List.getElem?_zipWith, hx, hy]
theorem ter_len {f : Int → Int → Int} {xs ys : List Int} (h : xs.length = ys.length) : (ter f xs ys).length = xs.length := by
  unfold ter
  rw [List.length_zipWith]
  omega
def fMul (x y : Int) : Int := x * y
def fSq (x y : Int) : Int := (x - y) * (x - y)
def fNe (x y : Int) : Int := if x = y then 0 else 1

mutual
/-- v is the datum d, all of whose objects stand away from N -/
inductive Dt (N : List Addr) (H : Hp) : V → PyData → Prop
  | non : Dt N H .non .none
  | bl (b : Bool) : Dt N H (.bl b) (.bool b)
  | int (i : Int) : Dt N H (.int i) (.int i)
  | str (x : Str) : Dt N H (.str x) (.str x)
  | lst {a : Addr} {xs : List V} {ds : List PyData} : a ∉ N → H a = some (.lst xs) → Dts N H xs ds → Dt N H (.ref a) (.list ds)
  | tup {a : Addr} {xs : List V} {ds : List PyData} : a ∉ N → H a = some (.tup xs) → Dts N H xs ds → Dt N H (.ref a) (.tuple ds)
inductive Dts (N : List Addr) (H : Hp) : List V → List PyData → Prop
  | nil : Dts N H [] []
  | cons {v : V} {vs : List V} {d : PyData} {ds : List PyData} : Dt N H v d → Dts N H vs ds → Dts N H (v :: vs) (d :: ds)
end
mutual
theorem Dt.mono {N M : List Addr} {H H' : Hp} (f : ∀ a o, a ∉ N → H a = some o → a ∉ M ∧ H' a = some o) : ∀ {v : V} {d : PyData}, Dt N H v d → Dt M H' v d
  | _, _, .non => .non
  | _, _, .bl b => .bl b
  | _, _, .int i => .int i
  | _, _, .str x => .str x
  | _, _, .lst n h t => .lst (f _ _ n h).1 (f _ _ n h).2 (Dts.mono f t)
  | _, _, .tup n h t => .tup (f _ _ n h).1 (f _ _ n h).2 (Dts.mono f t)
theorem Dts.mono {N M : List Addr} {H H' : Hp} (f : ∀ a o, a ∉ N → H a = some o → a ∉ M ∧ H' a = some o) : ∀ {vs : List V} {ds : List PyData}, Dts N H vs ds → Dts M H' vs ds
  | _, _, .nil => .nil
  | _, _, .cons x t => .cons (Dt.mono f x) (Dts.mono f t)
end
mutual
theorem Dt.dp {K : PySem.W.Frag} {N : List Addr} {H : Hp} : ∀ {v : V} {d : PyData}, Dt N H v d → Dp K H v d
  | _, _, .non => .non
  | _, _, .bl b => .bl b
  | _, _, .int i => .int i
  | _, _, .str x => .str x
  | _, _, .lst _ h t => .lst (SqL.of h) (Dts.dp t)
  | _, _, .tup _ h t => .tup (SqT.of h) (Dts.dp t)
theorem Dts.dp {K : PySem.W.Frag} {N : List Addr} {H : Hp} : ∀ {vs : List V} {ds : List PyData}, Dts N H vs ds → DpAll K H vs ds
  | _, _, .nil => .nil
  | _, _, .cons x t => .cons (Dt.dp x) (Dts.dp t)
end
theorem Dt.same {N : List Addr} {H H' : Hp} {v : V} {d : PyData} (f : Same H H') (h : Dt N H v d) : Dt N H' v d := h.mono fun a o n e => ⟨n, f a o e⟩
theorem Dts.same {N : List Addr} {H H' : Hp} {v : List V} {d : List PyData} (f : Same H H') (h : Dts N H v d) : Dts N H' v d := h.mono fun a o n e => ⟨n, f a o e⟩
theorem Dt.fr {N : List Addr} {H H' : Hp} {st : Addr} {v : V} {d : PyData} (f : Fr st H H') (m : st ∈ N) (h : Dt N H v d) : Dt N H' v d := h.mono fun a o n e => ⟨n, f a o e fun z => by rw [z] at n; exact n m⟩
theorem Dts.fr {N : List Addr} {H H' : Hp} {st : Addr} {v : List V} {d : List PyData} (f : Fr st H H') (m : st ∈ N) (h : Dts N H v d) : Dts N H' v d := h.mono fun a o n e => ⟨n, f a o e fun z => by rw [z] at n; exact n m⟩
theorem Dt.upd {N : List Addr} {H : Hp} {p : Addr} {o : HO} {v : V} {d : PyData} (m : p ∈ N) (h : Dt N H v d) : Dt N (upd H p o) v d := h.mono fun a u n e => ⟨n, by rw [upd_ne fun z => by rw [z] at n; exact n m]; exact e⟩
theorem Dts.upd {N : List Addr} {H : Hp} {p : Addr} {o : HO} {v : List V} {d : List PyData} (m : p ∈ N) (h : Dts N H v d) : Dts N (upd H p o) v d := h.mono fun a u n e => ⟨n, by rw [upd_ne fun z => by rw [z] at n; exact n m]; exact e⟩
theorem Dt.new {N : List Addr} {H : Hp} {p : Addr} {o : HO} {v : V} {d : PyData} (m : H p = none) (h : Dt N H v d) : Dt N (L2.upd H p o) v d := h.same (same_new m)
theorem Dts.new {N : List Addr} {H : Hp} {p : Addr} {o : HO} {v : List V} {d : List PyData} (m : H p = none) (h : Dts N H v d) : Dts N (L2.upd H p o) v d := h.same (same_new m)
theorem Dt.away {N : List Addr} {H : Hp} {p : Addr} {v : V} {d : PyData} (m : H p = none) (h : Dt N H v d) : Dt (p :: N) H v d := h.mono fun a o n e => ⟨fun z => by
  rcases List.mem_cons.mp z with y | y
  · rw [y, m] at e; cases e
  · exact n y, e⟩
theorem Dts.away {N : List Addr} {H : Hp} {p : Addr} {v : List V} {d : List PyData} (m : H p = none) (h : Dts N H v d) : Dts (p :: N) H v d := h.mono fun a o n e => ⟨fun z => by
  rcases List.mem_cons.mp z with y | y
  · rw [y, m] at e; cases e
  · exact n y, e⟩
theorem Dt.weak {N : List Addr} {H : Hp} {p : Addr} {v : V} {d : PyData} (h : Dt (p :: N) H v d) : Dt N H v d := h.mono fun a o n e => ⟨fun z => n (List.mem_cons_of_mem _ z), e⟩
theorem Dts.weak {N : List Addr} {H : Hp} {p : Addr} {v : List V} {d : List PyData} (h : Dts (p :: N) H v d) : Dts N H v d := h.mono fun a o n e => ⟨fun z => n (List.mem_cons_of_mem _ z), e⟩
theorem Dts.length {N : List Addr} {H : Hp} : ∀ {vs : List V} {ds : List PyData}, Dts N H vs ds → vs.length = ds.length
  | _, _, .nil => rfl
  | _, _, .cons _ t => congrArg Nat.succ t.length
theorem Dts.get {N : List Addr} {H : Hp} : ∀ {vs : List V} {ds : List PyData} {i : Nat} {v : V}, Dts N H vs ds → vs[i]? = some v → ∃ d, ds[i]? = some d ∧ Dt N H v d
  | _, _, _, _, .nil, h => by simp at h
  | _, _, 0, _, .cons x _, h => by
    have e := Option.some.inj h
    subst e
    exact ⟨_, rfl, x⟩
  | _, _, i + 1, _, .cons _ t, h => t.get (i := i) h
theorem Dts.at {N : List Addr} {H : Hp} : ∀ {vs : List V} {ds : List PyData} {i : Nat} {d : PyData}, Dts N H vs ds → ds[i]? = some d → ∃ v, vs[i]? = some v ∧ Dt N H v d
  | _, _, _, _, .nil, h => by simp at h
  | _, _, 0, _, .cons x _, h => by
    have e := Option.some.inj h
    subst e
    exact ⟨_, rfl, x⟩
  | _, _, i + 1, _, .cons _ t, h => t.at (i := i) h
theorem Dts.app {N : List Addr} {H : Hp} : ∀ {vs ws : List V} {ds es : List PyData}, Dts N H vs ds → Dts N H ws es → Dts N H (vs ++ ws) (ds ++ es)
  | _, _, _, _, .nil, h => h
  | _, _, _, _, .cons x t, h => .cons x (t.app h)
theorem Dts.snoc {N : List Addr} {H : Hp} {vs : List V} {ds : List PyData} {v : V} {d : PyData} (h : Dts N H vs ds) (x : Dt N H v d) : Dts N H (vs ++ [v]) (ds ++ [d]) := h.app (.cons x .nil)
theorem Dts.ints {N : List Addr} {H : Hp} : ∀ xs : List Int, Dts N H (xs.map V.int) (xs.map PyData.int)
  | [] => .nil
  | x :: r => .cons (.int x) (Dts.ints r)
theorem Dt.isL {N : List Addr} {H : Hp} {v : V} {ds : List PyData} (h : Dt N H v (.list ds)) : ∃ p vs, v = .ref p ∧ p ∉ N ∧ H p = some (.lst vs) ∧ Dts N H vs ds := by
  cases h with
  | lst n e t => exact ⟨_, _, rfl, n, e, t⟩
theorem Dt.isT {N : List Addr} {H : Hp} {v : V} {ds : List PyData} (h : Dt N H v (.tuple ds)) : ∃ p vs, v = .ref p ∧ p ∉ N ∧ H p = some (.tup vs) ∧ Dts N H vs ds := by
  cases h with
  | tup n e t => exact ⟨_, _, rfl, n, e, t⟩
theorem Dt.isS {N : List Addr} {H : Hp} {v : V} {x : Str} (h : Dt N H v (.str x)) : v = .str x := by cases h; rfl
theorem Dt.isI {N : List Addr} {H : Hp} {v : V} {x : Int} (h : Dt N H v (.int x)) : v = .int x := by cases h; rfl
theorem Dts.two {N : List Addr} {H : Hp} {vs : List V} {d e : PyData} (h : Dts N H vs [d, e]) : ∃ v w, vs = [v, w] ∧ Dt N H v d ∧ Dt N H w e := by
  cases h with
  | cons x t => cases t with
    | cons y t => cases t; exact ⟨_, _, rfl, x, y⟩
theorem Dts.three {N : List Addr} {H : Hp} {vs : List V} {d e f : PyData} (h : Dts N H vs [d, e, f]) : ∃ v w x, vs = [v, w, x] ∧ Dt N H v d ∧ Dt N H w e ∧ Dt N H x f := by
  cases h with
  | cons x t => cases t with
    | cons y t => cases t with
      | cons z t => cases t; exact ⟨_, _, _, rfl, x, y, z⟩
theorem Dts.isInts {N : List Addr} {H : Hp} : ∀ {xs : List Int} {vs : List V}, Dts N H vs (xs.map PyData.int) → vs = xs.map V.int
  | [], _, .nil => rfl
  | x :: r, _, .cons h t => by
    rw [h.isI, Dts.isInts t]
    rfl
/-- a pair of a text and something -/
theorem Dt.isP {N : List Addr} {H : Hp} {v : V} {x : Str} {d : PyData} (h : Dt N H v (.tuple [.str x, d])) : ∃ p w, v = .ref p ∧ p ∉ N ∧ H p = some (.tup [.str x, w]) ∧ Dt N H w d := by
  obtain ⟨p, vs, e, n, hp, t⟩ := h.isT
  obtain ⟨v', w, e2, h1, h2⟩ := t.two
  rw [h1.isS] at e2
  subst e2
  exact ⟨p, w, e, n, hp, h2⟩
theorem Dt.nilN {N : List Addr} {H : Hp} {v : V} {d : PyData} (h : Dt N H v d) : Dt [] H v d := h.mono fun a o _ e => ⟨(fun z => by cases z), e⟩
theorem Dts.nilN {N : List Addr} {H : Hp} {v : List V} {d : List PyData} (h : Dts N H v d) : Dts [] H v d := h.mono fun a o _ e => ⟨(fun z => by cases z), e⟩
/-- a list under work at D holds these data; its parts stand away from D and N -/
def Bl (N : List Addr) (D : Addr) (H : Hp) (ds : List PyData) : Prop := ∃ vs, H D = some (.lst vs) ∧ Dts (D :: N) H vs ds
theorem Bl.nil {N : List Addr} {D : Addr} {H : Hp} : Bl N D (upd H D (.lst [])) [] := ⟨[], upd_same, .nil⟩
theorem Bl.fr {N : List Addr} {D st : Addr} {H H' : Hp} {ds : List PyData} (h : Bl N D H ds) (n : D ≠ st) (m : st ∈ N) (f : Fr st H H') : Bl N D H' ds := by
  obtain ⟨vs, e, t⟩ := h
  exact ⟨vs, f _ _ e n, t.fr f (List.mem_cons_of_mem _ m)⟩
theorem Bl.same {N : List Addr} {D : Addr} {H H' : Hp} {ds : List PyData} (h : Bl N D H ds) (f : Same H H') : Bl N D H' ds := by
  obtain ⟨vs, e, t⟩ := h
  exact ⟨vs, f _ _ e, t.same f⟩
theorem Bl.push {N : List Addr} {D : Addr} {H : Hp} {ds : List PyData} {vs : List V} {v : V} {d : PyData} (e : H D = some (.lst vs)) (t : Dts (D :: N) H vs ds) (x : Dt (D :: N) H v d) : Bl N D (upd H D (.lst (vs ++ [v]))) (ds ++ [d]) :=
  ⟨_, upd_same, (t.snoc x).upd (List.mem_cons_self ..)⟩
theorem Bl.done {N : List Addr} {D : Addr} {H : Hp} {ds : List PyData} (h : Bl N D H ds) (n : D ∉ N) : Dt N H (.ref D) (.list ds) := by
  obtain ⟨vs, e, t⟩ := h
  exact .lst n e t.weak
theorem not_in1 {a b : Addr} (h : a ≠ b) : a ∉ [b] := fun z => h (List.mem_singleton.mp z)
theorem not_in2 {a b c : Addr} (h : a ≠ b) (g : a ≠ c) : a ∉ [b, c] := fun z => by
  rcases List.mem_cons.mp z with y | y
  · exact h y
  · exact g (List.mem_singleton.mp y)
theorem in1 {a : Addr} : a ∈ [a] := List.mem_cons_self ..
theorem in2 {a b : Addr} : b ∈ [a, b] := List.mem_cons_of_mem _ (List.mem_cons_self ..)
/-- the list at D grows by what was new -/
theorem fr_app {st : Addr} {H0 H : Hp} {D : Addr} {o : HO} (f : Fr st H0 H) (h : H0 D = none) : Fr st H0 (upd H D o) := f.set h

theorem pickS {xs : List Str} {d : Int} (h0 : 0 ≤ d) (h1 : d < xs.length) : ∃ z, atI (xs.map V.str) d = some (.str z) ∧ z ∈ xs := by
  have hj : d.toNat < xs.length := by omega
  refine ⟨xs[d.toNat], at_of (j := d.toNat) (by omega) ?_, List.getElem_mem hj⟩
  rw [List.getElem?_map, List.getElem?_eq_getElem hj]
  rfl
def WIDE3 : List Str := ["bit", "small", "wide"]
def MEAS3 : List Str := ["square", "dot", "bits"]
def KIND3 : List Str := ["integer", "text", "flag"]
def NAME4 : List Str := ["a", "b", "note", "_x"]
def fdD (f : Str × Str) : PyData := .tuple [.str f.1, .str f.2]
structure FieldsOk (fs : List (Str × Str)) : Prop where
  len : fs.length ≤ 3
  names : fs.map (·.1) = NAME4.take fs.length
  kinds : ∀ f ∈ fs, f.2 ∈ KIND3
theorem FieldsOk.snoc {fs : List (Str × Str)} {n k : Str} (h1 : fs.length < 3) (h2 : fs.map (·.1) = NAME4.take fs.length) (h3 : ∀ f ∈ fs, f.2 ∈ KIND3) (hn : NAME4[fs.length]? = some n) (hk : k ∈ KIND3) : FieldsOk (fs ++ [(n, k)]) := by
  refine ⟨by simp; omega, ?_, fun f hf => ?_⟩
  · rw [List.map_append, h2, List.length_append, List.length_singleton, List.take_add_one, hn]
    rfl
  · rcases List.mem_append.mp hf with h | h
    · exact h3 f h
    · rw [List.mem_singleton] at h
      subst h
      exact hk
theorem wide3 {w : Str} (h : w ∈ WIDE3) : ∃ (j : Nat) (lo hi : Int), [V.str "bit", V.str "small", V.str "wide"][j]? = some (.str w) ∧ eqV (.str w) (.str w) = true ∧ (∀ (m : Nat) (z' : V), m < j → [V.str "bit", V.str "small", V.str "wide"][m]? = some z' → eqV z' (.str w) = false)
    ∧ [V.int 0, V.int (-128), V.int (-32768)][j]? = some (.int lo) ∧ [V.int 1, V.int 127, V.int 32767][j]? = some (.int hi) ∧ -32768 ≤ lo ∧ lo ≤ 0 ∧ 1 ≤ hi ∧ hi ≤ 32767 := by
  unfold WIDE3 at h
  simp only [List.mem_cons, List.not_mem_nil, or_false] at h
  rcases h with rfl | rfl | rfl
  · exact ⟨0, _, _, rfl, by decide +kernel, fun m z' hm _ => absurd hm (Nat.not_lt_zero _), rfl, rfl, by decide, by decide, by decide, by decide⟩
  · refine ⟨1, _, _, rfl, by decide +kernel, fun m z' hm e => ?_, rfl, rfl, by decide, by decide, by decide, by decide⟩
    have : m = 0 := by omega
    subst this
    cases Option.some.inj e
    decide +kernel
  · refine ⟨2, _, _, rfl, by decide +kernel, fun m z' hm e => ?_, rfl, rfl, by decide, by decide, by decide, by decide⟩
    have : m = 0 ∨ m = 1 := by omega
    rcases this with rfl | rfl
    · cases Option.some.inj e
      decide +kernel
    · cases Option.some.inj e
      decide +kernel
/-- values of a field -/
def prD (p : Str × PyData) : PyData := .tuple [.str p.1, p.2]
def IsVal (d : PyData) : Prop := (∃ i, d = .int i) ∨ (∃ z, d = .str z ∧ PyData.strOk z = true ∧ z.length ≤ 8) ∨ ∃ b, d = .bool b
structure PairsOk (ps : List (Str × PyData)) : Prop where
  len : ps.length ≤ 8
  names : ∀ p ∈ ps, PyData.strOk p.1 = true ∧ p.1.length ≤ 8
  vals : ∀ p ∈ ps, IsVal p.2
def wdD (w : Str × Int) : PyData := .tuple [.str w.1, .int w.2]
structure WordsOk (ws : List (Str × Int)) : Prop where
  len : ws.length ≤ 8
  words : ∀ w ∈ ws, PyData.strOk w.1 = true ∧ w.1.length ≤ 8

theorem kit_self {K : PySem.W.Frag} {C : Addr} : PySem.W.kitOne K (.ref C) (.ref C) = some true := by
  unfold PySem.W.kitOne
  rw [if_pos (by simp)]
theorem kit_sub {K : PySem.W.Frag} {t : Value} {C : Addr} {v : Bool} (h1 : PySem.W.isClsIn K C = true) (h2 : PySem.W.typeIn K (.ref C) = some (.type "type")) (h3 : PySem.W.subIn K t (.ref C) = some v) (h4 : (t == .ref C) = false) : PySem.W.kitOne K t (.ref C) = some v := by
  unfold PySem.W.kitOne
  rw [h4, if_neg Bool.false_ne_true]
  unfold PySem.W.kitCls
  have h1' : (PySem.W.clsIn K C).isSome = true := h1
  simp only [h1', h2, Bool.true_and]
  simp [h3]
theorem kit_subN {K : PySem.W.Frag} {t : Value} {C : Addr} (h1 : PySem.W.isClsIn K C = true) (h2 : PySem.W.typeIn K (.ref C) = some (.type "type")) (h3 : PySem.W.subIn K t (.ref C) = some false) (h4 : PySem.W.subIn K (.ref C) (.ref C) = some true) : PySem.W.kitOne K t (.ref C) = some false := by
  refine kit_sub h1 h2 h3 ?_
  cases e : (t == .ref C) with
  | false => rfl
  | true =>
    have e' : t = .ref C := beq_iff_eq.mp e
    rw [e', h4] at h3
    cases h3
theorem nf_self {K : PySem.W.Frag} {C : Addr} : PySem.W.notFirst K C (.ref C) = true := by simp [PySem.W.notFirst]
theorem nf_sub {K : PySem.W.Frag} {C : Addr} {t : Value} (h : PySem.W.subIn K t (.ref C) = some false) : PySem.W.notFirst K C t = true := by simp [PySem.W.notFirst, h]
/-- x == y, x an instance of a class with an own ==, y anything -/
def rOwnEq (K : PySem.W.Frag) (C : Addr) (sp : Sp) (E : XK) : R2 := fun x y H Q => ∃ a dx fs t, x = .ref a ∧ H a = some (.ins C dx fs) ∧ TyX K H y t ∧ PySem.W.notFirst K C t = true ∧ sp [x, y] H (fun z H' => ∃ b, z = .bl b ∧ Q z H') E
theorem op_ownEq {X : Cx} {CX : CXT} {C f : Addr} {fd : FuncData} {ps : List Str} {sp : Sp} {n : Nat} {E : XK} (M : Meth X.K C "__eq__" f) (F : FnOk X.prog X.w X.K X.mg X.base CX n f fd ps sp) (hr : Room n X.A)
    (hb : Binds X.K fd ps []) (hx : Passes CX X E) : OpR X (compareOp .Eq) (rOwnEq X.K C sp E) := by
  intro pins s σ H x y v u Q I rx ry h
  obtain ⟨a, dx, fs, t, rfl, ha, ty, hn, q⟩ := h
  cases (show v = Value.ref a from rx)
  obtain ⟨mA, J, _⟩ := ins_get I.hok ha
  obtain ⟨od, J, _⟩ := J.look
  obtain ⟨P, Z, p, _⟩ := kit_of I ry ty
  obtain ⟨m, hF⟩ := I.fr
  show wpAny (model X.prog X.w) X.A (richCompare .Eq (.ref a) u) _ _ _
  refine PySem.W.cmp_K (op := .Eq) (tb := t) hr.units0 hF I.ok.mod.kin J (Z.ty _ _ I.kIn p) hn M.at_ M.fn ?_
  refine wpAny_mono (run_fn (Q := fun z H' => ∃ b, z = .bl b ∧ Q z H') (us := [.ref a, u]) (vs := [.ref a, y]) F hr hb .nil hx I (.cons rfl (.cons ry .nil)) (by simpa using q)) (fun w s' z => ?_) fun _ _ x => x
  obtain ⟨z', H', I', rz, b, ez, qz⟩ := z
  subst ez
  cases (show w = Value.bool b from rz)
  exact ⟨.bl b, H', I', rfl, qz⟩

theorem pi_tupB {X : Cx} {K : PySem.W.Frag} (hK : X.K = K) {tg l : Expr} {tl : TE} (hl : PE X l tl) : PI X tg l (iTup K tl) := by
  subst hK
  exact pi_tup hl
theorem pi_listB {X : Cx} {K : PySem.W.Frag} (hK : X.K = K) {tg l : Expr} {tl : TE} (hl : PE X l tl) : PI X tg l (iList K tl) := by
  subst hK
  exact pi_list hl
def rLenB (K : PySem.W.Frag) : List V → Hp → VK → Prop := fun xs H Q => ∃ p ys, xs = [.ref p] ∧ (SqL K H p ys ∨ SqT K H p ys) ∧ Q (.int ys.length) H
def rListB (K : PySem.W.Frag) : List V → Hp → VK → Prop := fun xs H Q => ∃ p ys, xs = [.ref p] ∧ (SqL K H p ys ∨ SqT K H p ys) ∧ ∀ l, H l = none → Q (.ref l) (upd H l (.lst ys))
def rTupleB (K : PySem.W.Frag) : List V → Hp → VK → Prop := fun xs H Q => ∃ p ys, xs = [.ref p] ∧ ((SqL K H p ys ∧ ∀ l, H l = none → Q (.ref l) (upd H l (.tup ys))) ∨ (SqT K H p ys ∧ Q (.ref p) H))

theorem _root_.L2.Room.un60 {k : Nat} {A : Around} (r : Room k A) : A.units + 60 < cLine := by have := r.un; omega
/-- x < y of data alike: ints, texts, tuples and lists of these -/
def rLtA (K : PySem.W.Frag) : R2 := fun x y H Q => ∃ d e, Dp K H x d ∧ Dp K H y e ∧ PySem.W.alike d e = true ∧ d ≠ .none ∧ min d.depth e.depth ≤ 60 ∧ Q (.bl (PySem.W.dataLt d e)) H

theorem op_ltA {X : Cx} (hu : X.A.units + 60 < cLine) : OpR X (compareOp .Lt) (rLtA X.K) := by
  intro pins s σ H x y v u Q I rx ry h
  obtain ⟨d, e, hd, he, ha, hn, hdp, q⟩ := h
  obtain ⟨as, r1⟩ := Dp.reads I d x v hd rx
  obtain ⟨bs, r2⟩ := Dp.reads I e y u he ry
  show wpAny (model X.prog X.w) X.A (richCompare .Lt v u) _ _ _
  exact PySem.W.rcLt_alike d e X.A s v u as bs r1 r2 ha hn (by omega) X.prog X.w _ _ ⟨.bl _, H, I, rfl, q⟩
theorem pe_fldB {X : Cx} {K : PySem.W.Frag} (hK : X.K = K) {e : Expr} {f : Str} {pos : Pos} {ta : TE} (he : PE X e ta) (hb : attributeBase e f X.env (eval e X.env) = eval e X.env) : PE X (.Attribute e f pos) (tFld K ta f) := by
  subst hK
  exact pe_fld he hb

theorem ps_dead {X : Cx} {s : Stmt} : PS X s (fun _ _ _ => False) := ⟨fun _ _ _ _ _ _ h => h.elim⟩

/-- values of the same kind -/
def SameK (x y : V) : Prop := (∃ i j : Int, x = .int i ∧ y = .int j) ∨ (∃ i j : Str, x = .str i ∧ y = .str j) ∨ (∃ i j : Bool, x = .bl i ∧ y = .bl j)
def ltV : V → V → Bool
  | .int a, .int b => decide (a < b)
  | .str a, .str b => decide (a.cps.toList < b.cps.toList)
  | .bl a, .bl b => decide (b2i a < b2i b)
  | _, _ => false
def cmpV (s : Str) (x y : V) : Bool := if s = "=" then decide (x = y) else if s = "!=" then decide (¬ x = y) else if s = "<" then ltV x y else if s = "<=" then !ltV y x else if s = ">" then ltV y x else !ltV x y
theorem SameK.scal {x y : V} (h : SameK x y) : L2.scal x y = true := by
  rcases h with ⟨i, j, rfl, rfl⟩ | ⟨i, j, rfl, rfl⟩ | ⟨i, j, rfl, rfl⟩ <;> rfl
theorem SameK.symm {x y : V} (h : SameK x y) : SameK y x := by
  rcases h with ⟨i, j, rfl, rfl⟩ | ⟨i, j, rfl, rfl⟩ | ⟨i, j, rfl, rfl⟩
  · exact .inl ⟨_, _, rfl, rfl⟩
  · exact .inr (.inl ⟨_, _, rfl, rfl⟩)
  · exact .inr (.inr ⟨_, _, rfl, rfl⟩)
def rCmpV (f : V → V → Bool) : R2 := fun x y H Q => SameK x y ∧ Q (.bl (f x y)) H
section
variable {X : Cx}
theorem op_ltV : OpR X (compareOp .Lt) (rCmpV ltV) := by
  intro pins s σ H x y v u Q I rx ry h
  obtain ⟨⟨i, j, rfl, rfl⟩ | ⟨i, j, rfl, rfl⟩ | ⟨i, j, rfl, rfl⟩, q⟩ := h
  · obtain ⟨t, rfl⟩ := rx
    obtain ⟨t', rfl⟩ := ry
    exact lt_int (fin_bl I q rfl)
  · obtain ⟨t, rfl⟩ := rx
    obtain ⟨t', rfl⟩ := ry
    exact lt_str (fin_bl I q rfl)
  · cases rx
    cases ry
    exact lt_bool (fin_bl I q rfl)
theorem op_gtV : OpR X (compareOp .Gt) (rCmpV fun x y => ltV y x) := by
  intro pins s σ H x y v u Q I rx ry h
  obtain ⟨⟨i, j, rfl, rfl⟩ | ⟨i, j, rfl, rfl⟩ | ⟨i, j, rfl, rfl⟩, q⟩ := h
  · obtain ⟨t, rfl⟩ := rx
    obtain ⟨t', rfl⟩ := ry
    exact gt_int (fin_bl I q rfl)
  · obtain ⟨t, rfl⟩ := rx
    obtain ⟨t', rfl⟩ := ry
    exact PySem.P.gt_str (fin_bl I q rfl)
  · cases rx
    cases ry
    exact gt_bool (fin_bl I q rfl)
theorem nlt {a b : Int} : (decide (a ≤ b)) = !decide (b < a) := by
  by_cases h : a ≤ b
  · rw [decide_eq_true h, decide_eq_false (by omega)]; rfl
  · rw [decide_eq_false h, decide_eq_true (by omega)]; rfl
theorem op_leV : OpR X (compareOp .LtE) (rCmpV fun x y => !ltV y x) := by
  intro pins s σ H x y v u Q I rx ry h
  obtain ⟨⟨i, j, rfl, rfl⟩ | ⟨i, j, rfl, rfl⟩ | ⟨i, j, rfl, rfl⟩, q⟩ := h
  · obtain ⟨t, rfl⟩ := rx
    obtain ⟨t', rfl⟩ := ry
    exact le_int (fin_bl I q nlt.symm)
  · exact op_le_str pins s σ H _ _ v u Q I rx ry ⟨_, _, rfl, rfl, q⟩
  · cases rx
    cases ry
    exact le_bool (fin_bl I q nlt.symm)
theorem op_geV : OpR X (compareOp .GtE) (rCmpV fun x y => !ltV x y) := by
  intro pins s σ H x y v u Q I rx ry h
  obtain ⟨⟨i, j, rfl, rfl⟩ | ⟨i, j, rfl, rfl⟩ | ⟨i, j, rfl, rfl⟩, q⟩ := h
  · obtain ⟨t, rfl⟩ := rx
    obtain ⟨t', rfl⟩ := ry
    exact ge_int (fin_bl I q nlt.symm)
  · obtain ⟨t, rfl⟩ := rx
    obtain ⟨t', rfl⟩ := ry
    exact PySem.P.ge_str (fin_bl I q rfl)
  · cases rx
    cases ry
    exact ge_bool (fin_bl I q nlt.symm)
end
/-- the kind of a value -/
def IsW (v : V) : Prop := (∃ i : Int, v = .int i) ∨ (∃ s : Str, v = .str s) ∨ (∃ b : Bool, v = .bl b)
def kindS : V → Str
  | .bl _ => "flag"
  | .int _ => "integer"
  | _ => "text"
theorem SameK.w {x y : V} (h : SameK x y) : IsW x := by
  rcases h with ⟨i, j, rfl, rfl⟩ | ⟨i, j, rfl, rfl⟩ | ⟨i, j, rfl, rfl⟩
  · exact .inl ⟨_, rfl⟩
  · exact .inr (.inl ⟨_, rfl⟩)
  · exact .inr (.inr ⟨_, rfl⟩)
theorem SameK.kind {x y : V} (h : SameK x y) : kindS x = kindS y := by
  rcases h with ⟨i, j, rfl, rfl⟩ | ⟨i, j, rfl, rfl⟩ | ⟨i, j, rfl, rfl⟩ <;> rfl

def neS (k z : Str) : Bool := !decide (V.str k = V.str z)
def inR (lo hi v : Int) : Bool := decide (lo ≤ v) && decide (v ≤ hi)
def rngP (s : Str) (lo hi v : Int) : Bool := if s = "=" then inR lo hi v else if s = "!=" then !(decide (lo = v) && decide (v = hi)) else if s = "<" then decide (lo < v) else if s = "<=" then decide (lo ≤ v) else if s = ">" then decide (v < hi) else decide (v ≤ hi)
def rngF (s : Str) (lo hi v : Int) : Bool := if s = "=" then !(decide (lo = v) && decide (v = hi)) else if s = "!=" then inR lo hi v else if s = "<" then decide (v ≤ hi) else if s = "<=" then decide (v < hi) else if s = ">" then decide (lo ≤ v) else decide (lo < v)
/-- a fact about a field: of integers; of texts or flags -/
inductive FF where
  | range (lo hi : Int) (k : Str)
  | values (f : Str) (ws : List V) (k : Str)
/-- a condition on a field -/
inductive LT where
  | has (f : Str)
  | oneof (f : Str) (ws : List V)
  | cmp (f s : Str) (v : V)
def FF.field : FF → Str
  | .range _ _ _ => "n"
  | .values f _ _ => f
def FF.lack : FF → Str
  | .range _ _ k => k
  | .values _ _ k => k
def LT.field : LT → Str
  | .has f => f
  | .oneof f _ => f
  | .cmp f _ _ => f
def intV : V → Int
  | .int i => i
  | _ => 0
/-- what the code answers -/
def passW (t : LT) (w : V) : Bool := match t with
  | .has _ => true
  | .oneof _ ws => ws.any fun z => decide (w = z)
  | .cmp _ s v => cmpV s w v
def outP : FF → LT → Bool
  | .range _ _ k, .has _ => neS k "all"
  | .range lo hi k, .oneof _ ws => if k = "all" then neS k "all" else ws.any fun w => inR lo hi (intV w)
  | .range lo hi k, .cmp _ s v => if k = "all" then neS k "all" else rngP s lo hi (intV v)
  | .values _ _ k, .has _ => neS k "all"
  | .values _ ws k, t => if k = "all" then neS k "all" else (ws.map (passW t)).any fun b => decide (b = true)
def outF : FF → LT → Bool
  | .range _ _ k, .has _ => neS k "nobody"
  | .range _ _ k, .oneof _ _ => if k = "all" then neS k "nobody" else true
  | .range lo hi k, .cmp _ s v => if k = "all" then neS k "nobody" else rngF s lo hi (intV v) || decide (V.str k = V.str "some")
  | .values _ _ k, .has _ => neS k "nobody"
  | .values _ ws k, t => if k = "all" then neS k "nobody" else ((ws.map (passW t)).any fun b => decide (b = false)) || decide (V.str k = V.str "some")
/-- the values of the condition are of the fact's kind -/
def KindOk (f : FF) (t : LT) : Prop := t.field = f.field → match f, t with
  | _, .has _ => True
  | .range _ _ _, .oneof _ ws => ∀ w ∈ ws, ∃ i : Int, w = .int i
  | .range _ _ _, .cmp _ _ v => ∃ i : Int, v = .int i
  | .values _ us _, .oneof _ ws => ∀ u ∈ us, ∀ w ∈ ws, SameK u w
  | .values _ us _, .cmp _ _ v => ∀ u ∈ us, SameK u v

def LtOk : LT → Prop
  | .oneof _ ws => ws.length ≤ 1000
  | _ => True
def FfOk : FF → Prop
  | .values _ ws _ => ws.length ≤ 1000
  | _ => True

def FD (H : Hp) (st t : Addr) : FF → Prop
  | .range lo hi k => H t = some (.tup [.str "range", .str "n", .int lo, .int hi, .str k])
  | .values f ws k => ∃ l, l ≠ st ∧ H t = some (.tup [.str "values", .str f, .ref l, .str k]) ∧ H l = some (.lst ws)
def TD (H : Hp) (st t : Addr) : LT → Prop
  | .has f => H t = some (.tup [.str "has", .str f])
  | .oneof f ws => ∃ l, l ≠ st ∧ H t = some (.tup [.str "in", .str f, .ref l]) ∧ H l = some (.lst ws)
  | .cmp f s v => H t = some (.tup [.str "compare", .str f, .str s, v])
theorem FD.fr {H H' : Hp} {st t : Addr} {f : FF} (h : FD H st t f) (n : t ≠ st) (s : Fr st H H') : FD H' st t f := by
  cases f with
  | range lo hi k => exact s _ _ h n
  | values f ws k => obtain ⟨l, nl, a, b⟩ := h; exact ⟨l, nl, s _ _ a n, s _ _ b nl⟩
theorem FD.same {H H' : Hp} {st t : Addr} {f : FF} (h : FD H st t f) (s : Same H H') : FD H' st t f := by
  cases f with
  | range lo hi k => exact s _ _ h
  | values f ws k => obtain ⟨l, nl, a, b⟩ := h; exact ⟨l, nl, s _ _ a, s _ _ b⟩
theorem TD.same {H H' : Hp} {st t : Addr} {f : LT} (h : TD H st t f) (s : Same H H') : TD H' st t f := by
  cases f with
  | has f => exact s _ _ h
  | oneof f ws => obtain ⟨l, nl, a, b⟩ := h; exact ⟨l, nl, s _ _ a, s _ _ b⟩
  | cmp f s' v => exact s _ _ h
theorem TD.fr {H H' : Hp} {st t : Addr} {f : LT} (h : TD H st t f) (n : t ≠ st) (s : Fr st H H') : TD H' st t f := by
  cases f with
  | has f => exact s _ _ h n
  | oneof f ws => obtain ⟨l, nl, a, b⟩ := h; exact ⟨l, nl, s _ _ a n, s _ _ b nl⟩
  | cmp f s' v => exact s _ _ h n
theorem same_mk {H : Hp} {x dx C : Addr} (nx : H x = none) (ndx : H dx = none) : Same H (upd (upd H dx (.own x)) x (.ins C dx [])) := fun b o hb => by
  rw [upd_ne (ne_of_none hb nx), upd_ne (ne_of_none hb ndx)]
  exact hb
theorem _root_.L2.Same.trans' {H H1 H2 : Hp} {x : Addr} (s : Same H H1) (fr : ∀ b o, H1 b = some o → b ≠ x → H2 b = some o) (nx : H x = none) : Same H H2 := fun b o hb => fr b o (s b o hb) (ne_of_none hb nx)
theorem SameK.flat {x y : V} (h : SameK x y) : flatV x = true := by
  rcases h with ⟨i, j, rfl, rfl⟩ | ⟨i, j, rfl, rfl⟩ | ⟨i, j, rfl, rfl⟩ <;> rfl
theorem SameK.eqV {x y : V} (h : SameK x y) : L2.eqV y x = decide (x = y) := by
  rcases h with ⟨i, j, rfl, rfl⟩ | ⟨i, j, rfl, rfl⟩ | ⟨i, j, rfl, rfl⟩
  · show (j == i) = _
    by_cases e : i = j
    · subst e; simp
    · rw [decide_eq_false (fun z => e (V.int.inj z))]; simp; omega
  · show (j == i) = _
    by_cases e : i = j
    · subst e; simp
    · rw [decide_eq_false (fun z => e (V.str.inj z))]; simp; exact fun z => e z.symm
  · show (j == i) = _
    cases i <;> cases j <;> rfl
theorem inV_same {x : V} {ws : List V} (h : ∀ w ∈ ws, SameK x w) : inV x ws = ws.any fun z => decide (x = z) := by
  induction ws with
  | nil => rfl
  | cons w r ih =>
    unfold inV
    rw [List.any_cons, List.any_cons, (h w (.head _)).eqV]
    exact congrArg _ (ih fun z hz => h z (.tail _ hz))
def worthsF : FF → List V
  | .range lo hi _ => rgV lo (hi + 1)
  | .values _ ws _ => ws
def isR : FF → Bool
  | .range _ _ _ => true
  | _ => false
def isIn : LT → Bool
  | .oneof _ _ => true
  | _ => false
def isHas : LT → Bool
  | .has _ => true
  | _ => false
def cntZ (l : List V) (p : V → Bool) : Bool := decide ((0 : Int) < (((l.filter p).length : Nat) : Int))
def dueP (f : FF) (t : LT) : Bool := if f.lack = "all" then false else if isHas t = true then true else cntZ (worthsF f) (passW t)
def dueF (f : FF) (t : LT) : Bool := if f.lack = "all" then true else if isHas t = true then decide (V.str f.lack = V.str "some") else cntZ (worthsF f) (fun w => !passW t w) || (decide (V.str f.lack = V.str "some") || (isR f && isIn t))
theorem dueP_all {f : FF} {t : LT} (c : f.lack = "all") : dueP f t = false := by unfold dueP; rw [if_pos c]
theorem dueF_all {f : FF} {t : LT} (c : f.lack = "all") : dueF f t = true := by unfold dueF; rw [if_pos c]
theorem dueP_has {f : FF} {g : Str} (c : ¬ f.lack = "all") : dueP f (.has g) = true := by unfold dueP; rw [if_neg c]; rfl
theorem dueF_has {f : FF} {g : Str} (c : ¬ f.lack = "all") : dueF f (.has g) = decide (V.str f.lack = V.str "some") := by unfold dueF; rw [if_neg c]; rfl
theorem dueP_of {f : FF} {t : LT} (c : ¬ f.lack = "all") (h : isHas t = false) : dueP f t = cntZ (worthsF f) (passW t) := by unfold dueP; rw [if_neg c, h]; rfl
theorem dueF_of {f : FF} {t : LT} (c : ¬ f.lack = "all") (h : isHas t = false) : dueF f t = (cntZ (worthsF f) (fun w => !passW t w) || (decide (V.str f.lack = V.str "some") || (isR f && isIn t))) := by unfold dueF; rw [if_neg c, h]; rfl
/-- a value and a condition are of one kind -/
def PassOk (t : LT) (w : V) : Prop := match t with
  | .has _ => False
  | .oneof _ ws => ∀ z ∈ ws, SameK w z
  | .cmp _ _ v => SameK w v
def FfWf (f : FF) : Prop := (f.lack = "nobody" ∨ f.lack = "some" ∨ f.lack = "all") ∧ match f with
  | .range lo hi _ => -4 ≤ lo ∧ lo ≤ 4 ∧ lo ≤ hi ∧ hi ≤ 8
  | .values f ws _ => ws.length ≤ 8 ∧ ((f = "t" ∧ ∀ w ∈ ws, ∃ s : Str, w = .str s) ∨ (f = "f" ∧ ∀ w ∈ ws, ∃ b : Bool, w = .bl b))

/-- a value of the kind of a field -/
def OfK (f : Str) (w : V) : Prop := (f = "n" ∧ ∃ i : Int, w = .int i) ∨ (f = "t" ∧ ∃ s : Str, w = .str s) ∨ (f = "f" ∧ ∃ b : Bool, w = .bl b)
def LtWf : LT → Prop
  | .has _ => True
  | .oneof f ws => ws.length ≤ 8 ∧ ∀ w ∈ ws, OfK f w
  | .cmp f _ v => OfK f v
theorem OfK.same {f : Str} {x y : V} (h : OfK f x) (g : OfK f y) : SameK x y := by
  rcases h with ⟨rfl, i, rfl⟩ | ⟨rfl, i, rfl⟩ | ⟨rfl, i, rfl⟩ <;> rcases g with ⟨e, j, rfl⟩ | ⟨e, j, rfl⟩ | ⟨e, j, rfl⟩ <;>
    first | exact .inl ⟨_, _, rfl, rfl⟩ | exact .inr (.inl ⟨_, _, rfl, rfl⟩) | exact .inr (.inr ⟨_, _, rfl, rfl⟩) | exact absurd e (by decide +kernel)
theorem FfWf.of {f : FF} (h : FfWf f) : ∀ w ∈ worthsF f, OfK f.field w := by
  cases f with
  | range lo hi k =>
    intro w hw
    obtain ⟨i, _, rfl⟩ := List.mem_map.mp hw
    exact .inl ⟨rfl, _, rfl⟩
  | values f ws k =>
    intro w hw
    rcases h.2.2 with ⟨e, h⟩ | ⟨e, h⟩
    · exact .inr (.inl ⟨e, h w hw⟩)
    · exact .inr (.inr ⟨e, h w hw⟩)
theorem kind_int {w : V} (h : OfK "n" w) : ∃ i : Int, w = .int i := by
  rcases h with ⟨_, h⟩ | ⟨e, _⟩ | ⟨e, _⟩
  · exact h
  · exact absurd e (by decide +kernel)
  · exact absurd e (by decide +kernel)
theorem kindOk_of {f : FF} {t : LT} (h : FfWf f) (g : LtWf t) : KindOk f t := by
  intro e
  cases f with
  | range lo hi k =>
    cases t with
    | has f => exact True.intro
    | oneof f ws => exact fun w hw => kind_int (by have := g.2 w hw; rw [show f = "n" from e] at this; exact this)
    | cmp f s v => exact kind_int (by have := (show OfK f v from g); rw [show f = "n" from e] at this; exact this)
  | values u us k =>
    cases t with
    | has f => exact True.intro
    | oneof f ws => exact fun x hx w hw => (h.of x hx).same (by have := g.2 w hw; rw [show f = u from e] at this; exact this)
    | cmp f s v => exact fun x hx => (h.of x hx).same (by have := (show OfK f v from g); rw [show f = u from e] at this; exact this)
theorem passOk_of {f : FF} {t : LT} (h : FfWf f) (g : LtWf t) (e : t.field = f.field) (nh : isHas t = false) : ∀ w ∈ worthsF f, PassOk t w := by
  intro w hw
  have o := h.of w hw
  rw [← e] at o
  cases t with
  | has f => cases nh
  | oneof f ws => exact fun z hz => o.same (g.2 z hz)
  | cmp f s v => exact o.same g
theorem ltOk_of {t : LT} (g : LtWf t) : LtOk t := by
  cases t with
  | has f => exact True.intro
  | oneof f ws => exact Nat.le_trans g.1 (by decide)
  | cmp f s v => exact True.intro
theorem cnt_any (l : List V) (p : V → Bool) : cntZ l p = l.any p := by
  unfold cntZ
  induction l with
  | nil => rfl
  | cons w r ih =>
    rw [List.any_cons, ← ih, List.filter_cons]
    cases h : p w with
    | true =>
      rw [if_pos rfl, List.length_cons, Bool.true_or]
      exact decide_eq_true (by omega)
    | false => rw [if_neg Bool.false_ne_true, Bool.false_or]
theorem rg_any {lo hi : Int} {p : V → Bool} : (rgV lo (hi + 1)).any p = true ↔ ∃ v : Int, lo ≤ v ∧ v ≤ hi ∧ p (.int v) = true := by
  unfold rgV
  rw [List.any_eq_true]
  constructor
  · rintro ⟨x, hx, px⟩
    obtain ⟨i, hi', rfl⟩ := List.mem_map.mp hx
    rw [List.mem_range] at hi'
    exact ⟨_, by omega, by omega, px⟩
  · rintro ⟨v, h1, h2, pv⟩
    refine ⟨.int v, List.mem_map.mpr ⟨(v - lo).toNat, by rw [List.mem_range]; omega, ?_⟩, pv⟩
    congr 1
    omega
theorem beq_of {a b : Bool} (h : a = true ↔ b = true) : a = b := by
  cases a <;> cases b <;> first | rfl | (exact absurd (h.mp rfl) Bool.false_ne_true) | (exact absurd (h.mpr rfl) Bool.false_ne_true)
theorem rngP_any {lo hi v : Int} {s : Str} (h : lo ≤ hi) : rngP s lo hi v = (rgV lo (hi + 1)).any (cmpV s · (.int v)) := by
  refine beq_of (Iff.trans ?_ rg_any.symm)
  unfold rngP cmpV inR ltV
  split
  · simp only [Bool.and_eq_true, decide_eq_true_eq, V.int.injEq]
    exact ⟨fun g => ⟨v, g.1, g.2, rfl⟩, fun ⟨x, g1, g2, g3⟩ => by subst g3; exact ⟨g1, g2⟩⟩
  split
  · simp only [Bool.not_eq_true', Bool.and_eq_false_iff, decide_eq_false_iff_not, decide_eq_true_eq, V.int.injEq]
    constructor
    · intro g
      by_cases c : lo = v
      · exact ⟨hi, h, Int.le_refl _, by omega⟩
      · exact ⟨lo, Int.le_refl _, h, c⟩
    · rintro ⟨x, g1, g2, g3⟩
      omega
  split
  · simp only [decide_eq_true_eq]
    exact ⟨fun g => ⟨lo, Int.le_refl _, h, g⟩, fun ⟨x, g1, g2, g3⟩ => by omega⟩
  split
  · simp only [decide_eq_true_eq, Bool.not_eq_true', decide_eq_false_iff_not]
    exact ⟨fun g => ⟨lo, Int.le_refl _, h, by omega⟩, fun ⟨x, g1, g2, g3⟩ => by omega⟩
  split
  · simp only [decide_eq_true_eq]
    exact ⟨fun g => ⟨hi, h, Int.le_refl _, g⟩, fun ⟨x, g1, g2, g3⟩ => by omega⟩
  · simp only [decide_eq_true_eq, Bool.not_eq_true', decide_eq_false_iff_not]
    exact ⟨fun g => ⟨hi, h, Int.le_refl _, by omega⟩, fun ⟨x, g1, g2, g3⟩ => by omega⟩
theorem rngF_any {lo hi v : Int} {s : Str} (h : lo ≤ hi) : rngF s lo hi v = (rgV lo (hi + 1)).any (fun w => !cmpV s w (.int v)) := by
  refine beq_of (Iff.trans ?_ rg_any.symm)
  unfold rngF cmpV inR ltV
  split
  · simp only [Bool.not_eq_true', Bool.and_eq_false_iff, decide_eq_false_iff_not, decide_eq_true_eq, V.int.injEq]
    constructor
    · intro g
      by_cases c : lo = v
      · exact ⟨hi, h, Int.le_refl _, by omega⟩
      · exact ⟨lo, Int.le_refl _, h, c⟩
    · rintro ⟨x, g1, g2, g3⟩
      omega
  split
  · simp only [Bool.not_eq_true', Bool.and_eq_true, decide_eq_true_eq, decide_eq_false_iff_not, V.int.injEq]
    exact ⟨fun g => ⟨v, g.1, g.2, fun z => z rfl⟩, fun ⟨x, g1, g2, g3⟩ => by omega⟩
  split
  · simp only [decide_eq_true_eq, Bool.not_eq_true', decide_eq_false_iff_not]
    exact ⟨fun g => ⟨hi, h, Int.le_refl _, by omega⟩, fun ⟨x, g1, g2, g3⟩ => by omega⟩
  split
  · simp only [decide_eq_true_eq, Bool.not_not]
    exact ⟨fun g => ⟨hi, h, Int.le_refl _, g⟩, fun ⟨x, g1, g2, g3⟩ => by omega⟩
  split
  · simp only [decide_eq_true_eq, Bool.not_eq_true', decide_eq_false_iff_not]
    exact ⟨fun g => ⟨lo, Int.le_refl _, h, by omega⟩, fun ⟨x, g1, g2, g3⟩ => by omega⟩
  · simp only [decide_eq_true_eq, Bool.not_not]
    exact ⟨fun g => ⟨lo, Int.le_refl _, h, g⟩, fun ⟨x, g1, g2, g3⟩ => by omega⟩
theorem any_map_t {ws : List V} {p : V → Bool} : ((ws.map p).any fun b => decide (b = true)) = ws.any p := by
  rw [List.any_map]
  congr 1
  funext w
  show decide (p w = true) = p w
  cases p w <;> rfl
theorem any_map_f {ws : List V} {p : V → Bool} : ((ws.map p).any fun b => decide (b = false)) = ws.any fun w => !p w := by
  rw [List.any_map]
  congr 1
  funext w
  show decide (p w = false) = !p w
  cases p w <;> rfl
theorem neS_of {k z : Str} (h : ¬ k = z) : neS k z = true := by
  unfold neS
  rw [decide_eq_false (fun e => h (V.str.inj e))]
  rfl
theorem neS_eq {k z : Str} (h : k = z) : neS k z = false := by
  unfold neS
  rw [decide_eq_true (congrArg V.str h)]
  rfl
theorem lack_some {k : Str} (h : k = "nobody" ∨ k = "some" ∨ k = "all") (c : ¬ k = "all") : neS k "nobody" = decide (V.str k = V.str "some") := by
  rcases h with rfl | rfl | rfl
  · rw [neS_eq rfl]
    exact (decide_eq_false (by decide +kernel)).symm
  · rw [neS_of (by decide +kernel)]
    exact (decide_eq_true rfl).symm
  · exact absurd rfl c
theorem out_all {f : FF} {t : LT} (c : f.lack = "all") : outP f t = dueP f t ∧ outF f t = dueF f t := by
  have a1 : neS "all" "all" = false := neS_eq rfl
  have a2 : neS "all" "nobody" = true := neS_of (by decide +kernel)
  rw [dueP_all c, dueF_all c]
  cases f with
  | range lo hi k =>
    have c' : k = "all" := c
    subst c'
    cases t <;> simp only [outP, outF, if_pos, a1, a2, and_self]
  | values u us k =>
    have c' : k = "all" := c
    subst c'
    cases t <;> simp only [outP, outF, if_pos, a1, a2, and_self]
theorem out_due {f : FF} {t : LT} (h : FfWf f) (g : LtWf t) (e : t.field = f.field) : outP f t = dueP f t ∧ outF f t = dueF f t := by
  by_cases c : f.lack = "all"
  · exact out_all c
  have kk := kindOk_of h g e
  cases f with
  | range lo hi k =>
    have c' : ¬ k = "all" := c
    have ls := lack_some h.1 c
    have le := h.2.2.2.1
    cases t with
    | has f =>
      rw [dueP_has c, dueF_has c]
      exact ⟨neS_of c', ls⟩
    | oneof f ws =>
      rw [dueP_of c rfl, dueF_of c rfl, cnt_any, cnt_any]
      simp only [outP, outF, if_neg c']
      refine ⟨beq_of (Iff.trans ?_ rg_any.symm), ?_⟩
      · have kk' : ∀ w ∈ ws, ∃ i : Int, w = .int i := kk
        rw [List.any_eq_true]
        constructor
        · rintro ⟨w, hw, pw⟩
          obtain ⟨i, rfl⟩ := kk' w hw
          have pw' : (decide (lo ≤ i) && decide (i ≤ hi)) = true := pw
          rw [Bool.and_eq_true, decide_eq_true_eq, decide_eq_true_eq] at pw'
          exact ⟨i, pw'.1, pw'.2, List.any_eq_true.mpr ⟨_, hw, decide_eq_true rfl⟩⟩
        · rintro ⟨v, g1, g2, pv⟩
          obtain ⟨z, hz, ez⟩ := List.any_eq_true.mp (show (ws.any fun z => decide (V.int v = z)) = true from pv)
          have ez' := of_decide_eq_true ez
          subst ez'
          exact ⟨_, hz, by show (decide (lo ≤ v) && decide (v ≤ hi)) = true; rw [decide_eq_true g1, decide_eq_true g2]; rfl⟩
      · show true = (_ || (_ || (true && true)))
        simp
    | cmp f s v =>
      obtain ⟨i, rfl⟩ : ∃ i : Int, v = .int i := kk
      rw [dueP_of c rfl, dueF_of c rfl, cnt_any, cnt_any]
      simp only [outP, outF, if_neg c']
      refine ⟨rngP_any le, ?_⟩
      show (rngF s lo hi i || _) = (((rgV lo (hi + 1)).any fun w => !cmpV s w (.int i)) || (_ || (true && false)))
      rw [rngF_any le, Bool.and_false, Bool.or_false]
      rfl
  | values u us k =>
    have c' : ¬ k = "all" := c
    have ls := lack_some h.1 c
    cases t with
    | has f =>
      rw [dueP_has c, dueF_has c]
      exact ⟨neS_of c', ls⟩
    | oneof f ws =>
      rw [dueP_of c rfl, dueF_of c rfl, cnt_any, cnt_any]
      simp only [outP, outF, if_neg c', any_map_t, any_map_f]
      refine ⟨rfl, ?_⟩
      show _ = (_ || (_ || (false && true)))
      rw [Bool.false_and, Bool.or_false]
      rfl
    | cmp f s v =>
      rw [dueP_of c rfl, dueF_of c rfl, cnt_any, cnt_any]
      simp only [outP, outF, if_neg c', any_map_t, any_map_f]
      refine ⟨rfl, ?_⟩
      show _ = (_ || (_ || (false && false)))
      rw [Bool.false_and, Bool.or_false]
      rfl
theorem mem_cutV {xs : List V} {a b : Option Int} {w : V} (h : w ∈ cutV xs a b) : w ∈ xs := List.mem_of_mem_drop (List.mem_of_mem_take h)
theorem names3 {z : Str} (h : z ∈ (["n", "n", "t", "f"] : List Str)) : ∃ j : Nat, [V.str "n", V.str "t", V.str "f"][j]? = some (.str z) ∧ eqV (.str z) (.str z) = true ∧ (∀ (m : Nat) (z' : V), m < j → [V.str "n", V.str "t", V.str "f"][m]? = some z' → eqV z' (.str z) = false) ∧ ((j = 0 ∧ z = "n") ∨ (j = 1 ∧ z = "t") ∨ (j = 2 ∧ z = "f")) := by
  have h' : z = "n" ∨ z = "t" ∨ z = "f" := by
    simp only [List.mem_cons, List.not_mem_nil, or_false] at h
    rcases h with h | h | h | h
    · exact .inl h
    · exact .inl h
    · exact .inr (.inl h)
    · exact .inr (.inr h)
  rcases h' with rfl | rfl | rfl
  · exact ⟨0, rfl, by decide +kernel, fun m z' hm _ => absurd hm (Nat.not_lt_zero _), .inl ⟨rfl, rfl⟩⟩
  · refine ⟨1, rfl, by decide +kernel, fun m z' hm e => ?_, .inr (.inl ⟨rfl, rfl⟩)⟩
    have : m = 0 := by omega
    subst this
    cases Option.some.inj e
    decide +kernel
  · refine ⟨2, rfl, by decide +kernel, fun m z' hm e => ?_, .inr (.inr ⟨rfl, rfl⟩)⟩
    have : m = 0 ∨ m = 1 := by omega
    rcases this with rfl | rfl
    · cases Option.some.inj e
      decide +kernel
    · cases Option.some.inj e
      decide +kernel
theorem pickV {xs : List V} {d : Int} (h0 : 0 ≤ d) (h1 : d < xs.length) : ∃ z, atI xs d = some z ∧ z ∈ xs := by
  have hj : d.toNat < xs.length := by omega
  exact ⟨xs[d.toNat], at_of (j := d.toNat) (by omega) (List.getElem?_eq_getElem hj), List.getElem_mem hj⟩
def flD (a b : Bool) : PyData := .tuple [.bool a, .bool b]
theorem dp_fl {K : PySem.W.Frag} {H : Hp} {t : Addr} {a b : Bool} (h : H t = some (.tup [.bl a, .bl b])) : Dp K H (.ref t) (flD a b) := .tup (SqT.of h) (.cons (.bl a) (.cons (.bl b) .nil))
theorem shaped_fl (a b : Bool) : SeqAt.shaped (flD a b) = true := by
  simp [flD, SeqAt.shaped, PyData.canLay0, PyData.canLayAll0, PyData.depth, PyData.depthAll]
theorem eqv_fl (a b : Bool) : PyData.eqv (flD a b) (flD a b) = true := SeqAt.eqv_refl _ (SeqAt.canLay_of_shaped (shaped_fl a b))

theorem pe_or2 {X : Cx} {e : Expr} {t u : TE} (h : PE X e t) (g : PE X e u) : PE X e (fun σ H Q => t σ H Q ∨ u σ H Q) := ⟨fun pins s σ H Q I q => by
  rcases q with q | q
  · exact h.run pins s σ H Q I q
  · exact g.run pins s σ H Q I q⟩

def ff_Has (v0 : V) : List (Str × V) := putF "field" v0 []
theorem lk_Has_field {v0 : V} : (ff_Has v0).lookup ("field" : Str) = some v0 := by
  unfold ff_Has
  rw [lookup_putF, if_pos rfl]
theorem no_Has {v0 : V} {m : Str} (h0 : ¬ m = "field" := by decide +kernel) : (ff_Has v0).lookup m = none := by
  unfold ff_Has
  rw [lookup_putF, if_neg h0]
  rfl
def ff_OneOf (v0 v1 : V) : List (Str × V) := putF "choices" v1 (putF "field" v0 [])
theorem lk_OneOf_field {v0 v1 : V} : (ff_OneOf v0 v1).lookup ("field" : Str) = some v0 := by
  unfold ff_OneOf
  rw [lookup_putF, if_neg (by decide +kernel), lookup_putF, if_pos rfl]
theorem lk_OneOf_choices {v0 v1 : V} : (ff_OneOf v0 v1).lookup ("choices" : Str) = some v1 := by
  unfold ff_OneOf
  rw [lookup_putF, if_pos rfl]
theorem no_OneOf {v0 v1 : V} {m : Str} (h0 : ¬ m = "field" := by decide +kernel) (h1 : ¬ m = "choices" := by decide +kernel) : (ff_OneOf v0 v1).lookup m = none := by
  unfold ff_OneOf
  rw [lookup_putF, if_neg h1, lookup_putF, if_neg h0]
  rfl
def ff_Compare (v0 v1 v2 : V) : List (Str × V) := putF "value" v2 (putF "sign" v1 (putF "field" v0 []))
theorem lk_Compare_field {v0 v1 v2 : V} : (ff_Compare v0 v1 v2).lookup ("field" : Str) = some v0 := by
  unfold ff_Compare
  rw [lookup_putF, if_neg (by decide +kernel), lookup_putF, if_neg (by decide +kernel), lookup_putF, if_pos rfl]
theorem lk_Compare_sign {v0 v1 v2 : V} : (ff_Compare v0 v1 v2).lookup ("sign" : Str) = some v1 := by
  unfold ff_Compare
  rw [lookup_putF, if_neg (by decide +kernel), lookup_putF, if_pos rfl]
theorem lk_Compare_value {v0 v1 v2 : V} : (ff_Compare v0 v1 v2).lookup ("value" : Str) = some v2 := by
  unfold ff_Compare
  rw [lookup_putF, if_pos rfl]
theorem no_Compare {v0 v1 v2 : V} {m : Str} (h0 : ¬ m = "field" := by decide +kernel) (h1 : ¬ m = "sign" := by decide +kernel) (h2 : ¬ m = "value" := by decide +kernel) : (ff_Compare v0 v1 v2).lookup m = none := by
  unfold ff_Compare
  rw [lookup_putF, if_neg h2, lookup_putF, if_neg h1, lookup_putF, if_neg h0]
  rfl
def ff_Range (v0 v1 v2 v3 : V) : List (Str × V) := putF "lack" v3 (putF "high" v2 (putF "low" v1 (putF "field" v0 [])))
theorem lk_Range_field {v0 v1 v2 v3 : V} : (ff_Range v0 v1 v2 v3).lookup ("field" : Str) = some v0 := by
  unfold ff_Range
  rw [lookup_putF, if_neg (by decide +kernel), lookup_putF, if_neg (by decide +kernel), lookup_putF, if_neg (by decide +kernel), lookup_putF, if_pos rfl]
theorem lk_Range_low {v0 v1 v2 v3 : V} : (ff_Range v0 v1 v2 v3).lookup ("low" : Str) = some v1 := by
  unfold ff_Range
  rw [lookup_putF, if_neg (by decide +kernel), lookup_putF, if_neg (by decide +kernel), lookup_putF, if_pos rfl]
theorem lk_Range_high {v0 v1 v2 v3 : V} : (ff_Range v0 v1 v2 v3).lookup ("high" : Str) = some v2 := by
  unfold ff_Range
  rw [lookup_putF, if_neg (by decide +kernel), lookup_putF, if_pos rfl]
theorem lk_Range_lack {v0 v1 v2 v3 : V} : (ff_Range v0 v1 v2 v3).lookup ("lack" : Str) = some v3 := by
  unfold ff_Range
  rw [lookup_putF, if_pos rfl]
theorem no_Range {v0 v1 v2 v3 : V} {m : Str} (h0 : ¬ m = "field" := by decide +kernel) (h1 : ¬ m = "low" := by decide +kernel) (h2 : ¬ m = "high" := by decide +kernel) (h3 : ¬ m = "lack" := by decide +kernel) : (ff_Range v0 v1 v2 v3).lookup m = none := by
  unfold ff_Range
  rw [lookup_putF, if_neg h3, lookup_putF, if_neg h2, lookup_putF, if_neg h1, lookup_putF, if_neg h0]
  rfl
def ff_Values (v0 v1 v2 : V) : List (Str × V) := putF "lack" v2 (putF "choices" v1 (putF "field" v0 []))
theorem lk_Values_field {v0 v1 v2 : V} : (ff_Values v0 v1 v2).lookup ("field" : Str) = some v0 := by
  unfold ff_Values
  rw [lookup_putF, if_neg (by decide +kernel), lookup_putF, if_neg (by decide +kernel), lookup_putF, if_pos rfl]
theorem lk_Values_choices {v0 v1 v2 : V} : (ff_Values v0 v1 v2).lookup ("choices" : Str) = some v1 := by
  unfold ff_Values
  rw [lookup_putF, if_neg (by decide +kernel), lookup_putF, if_pos rfl]
theorem lk_Values_lack {v0 v1 v2 : V} : (ff_Values v0 v1 v2).lookup ("lack" : Str) = some v2 := by
  unfold ff_Values
  rw [lookup_putF, if_pos rfl]
theorem no_Values {v0 v1 v2 : V} {m : Str} (h0 : ¬ m = "field" := by decide +kernel) (h1 : ¬ m = "choices" := by decide +kernel) (h2 : ¬ m = "lack" := by decide +kernel) : (ff_Values v0 v1 v2).lookup m = none := by
  unfold ff_Values
  rw [lookup_putF, if_neg h2, lookup_putF, if_neg h1, lookup_putF, if_neg h0]
  rfl
theorem putF_le {f : Str} {v : V} {fs : List (Str × V)} {n : Nat} (h : fs.length ≤ n) : (putF f v fs).length ≤ n + 1 := by
  induction fs generalizing n with
  | nil => show 1 ≤ n + 1; omega
  | cons x r ih =>
    obtain ⟨g, y⟩ := x
    show (if g = f then (g, v) :: r else (g, y) :: putF f v r).length ≤ n + 1
    rw [List.length_cons] at h
    by_cases e : g = f
    · rw [if_pos e, List.length_cons]; omega
    · rw [if_neg e, List.length_cons]
      have := ih (n := r.length) (Nat.le_refl _)
      omega
/-! what the top has made -/
set_option maxHeartbeats 0 in
structure Txt (K : PySem.W.Frag) (mg : Str → Option Value) where
  f_law_row : Addr
  d_law_row : FuncData
  F_law_row : Fun K "_law_row" "_law_row" s_law_row f_law_row d_law_row
  b_law_row : Binds K d_law_row ["script", "k"] []
  g_law_row : mg "_law_row" = some (.ref f_law_row)
  f_law_next : Addr
  d_law_next : FuncData
  F_law_next : Fun K "_law_next" "_law_next" s_law_next f_law_next d_law_next
  b_law_next : Binds K d_law_next ["state", "many"] []
  g_law_next : mg "_law_next" = some (.ref f_law_next)
  f_kind_of_value : Addr
  d_kind_of_value : FuncData
  F_kind_of_value : Fun K "kind_of_value" "kind_of_value" s_kind_of_value f_kind_of_value d_kind_of_value
  b_kind_of_value : Binds K d_kind_of_value ["worth"] []
  g_kind_of_value : mg "kind_of_value" = some (.ref f_kind_of_value)
  f_satisfies : Addr
  d_satisfies : FuncData
  F_satisfies : Fun K "satisfies" "satisfies" s_satisfies f_satisfies d_satisfies
  b_satisfies : Binds K d_satisfies ["worth", "sign", "other"] []
  g_satisfies : mg "satisfies" = some (.ref f_satisfies)
  f_law_compares : Addr
  d_law_compares : FuncData
  F_law_compares : Fun K "_law_compares" "_law_compares" s_law_compares f_law_compares d_law_compares
  b_law_compares : Binds K d_law_compares ["sign", "a", "b"] []
  g_law_compares : mg "_law_compares" = some (.ref f_law_compares)
  f_same_value : Addr
  d_same_value : FuncData
  F_same_value : Fun K "same_value" "same_value" s_same_value f_same_value d_same_value
  b_same_value : Binds K d_same_value ["one", "other"] []
  g_same_value : mg "same_value" = some (.ref f_same_value)
  f_is_among : Addr
  d_is_among : FuncData
  F_is_among : Fun K "is_among" "is_among" s_is_among f_is_among d_is_among
  b_is_among : Binds K d_is_among ["worth", "choices"] []
  g_is_among : mg "is_among" = some (.ref f_is_among)
  f_is_from : Addr
  d_is_from : FuncData
  F_is_from : Fun K "is_from" "is_from" s_is_from f_is_from d_is_from
  b_is_from : Binds K d_is_from ["low", "high", "worth"] []
  g_is_from : mg "is_from" = some (.ref f_is_from)
  f_outcomes_of_lack : Addr
  d_outcomes_of_lack : FuncData
  F_outcomes_of_lack : Fun K "outcomes_of_lack" "outcomes_of_lack" s_outcomes_of_lack f_outcomes_of_lack d_outcomes_of_lack
  b_outcomes_of_lack : Binds K d_outcomes_of_lack ["lack"] []
  g_outcomes_of_lack : mg "outcomes_of_lack" = some (.ref f_outcomes_of_lack)
  f_range_outcomes : Addr
  d_range_outcomes : FuncData
  F_range_outcomes : Fun K "range_outcomes" "range_outcomes" s_range_outcomes f_range_outcomes d_range_outcomes
  b_range_outcomes : Binds K d_range_outcomes ["low", "high", "sign", "value"] []
  g_range_outcomes : mg "range_outcomes" = some (.ref f_range_outcomes)
  f_value_passes : Addr
  d_value_passes : FuncData
  F_value_passes : Fun K "value_passes" "value_passes" s_value_passes f_value_passes d_value_passes
  b_value_passes : Binds K d_value_passes ["worth", "condition"] []
  g_value_passes : mg "value_passes" = some (.ref f_value_passes)
  f_Range_outcomes : Addr
  d_Range_outcomes : FuncData
  F_Range_outcomes : Fun K "outcomes" "Range.outcomes" s_Range_outcomes f_Range_outcomes d_Range_outcomes
  b_Range_outcomes : Binds K d_Range_outcomes ["self", "condition"] []
  f_Values_outcomes : Addr
  d_Values_outcomes : FuncData
  F_Values_outcomes : Fun K "outcomes" "Values.outcomes" s_Values_outcomes f_Values_outcomes d_Values_outcomes
  b_Values_outcomes : Binds K d_Values_outcomes ["self", "condition"] []
  f_Has___init__ : Addr
  d_Has___init__ : FuncData
  F_Has___init__ : Fun K "__init__" "Has.__init__" s_Has___init__ f_Has___init__ d_Has___init__
  b_Has___init__ : Binds K d_Has___init__ ["self", "field"] []
  f_Compare___init__ : Addr
  d_Compare___init__ : FuncData
  F_Compare___init__ : Fun K "__init__" "Compare.__init__" s_Compare___init__ f_Compare___init__ d_Compare___init__
  b_Compare___init__ : Binds K d_Compare___init__ ["self", "field", "sign", "value"] []
  f_OneOf___init__ : Addr
  d_OneOf___init__ : FuncData
  F_OneOf___init__ : Fun K "__init__" "OneOf.__init__" s_OneOf___init__ f_OneOf___init__ d_OneOf___init__
  b_OneOf___init__ : Binds K d_OneOf___init__ ["self", "field", "choices"] []
  f_Range___init__ : Addr
  d_Range___init__ : FuncData
  F_Range___init__ : FunD K "__init__" "Range.__init__" (defArgs s_Range___init__) (defBody s_Range___init__) (defScope s_Range___init__) [] [("lack", .str "nobody")] f_Range___init__ d_Range___init__
  kb_Range___init__ : KBn K d_Range___init__ ["self", "field", "low", "high", "lack"] 4 ["lack"] (fun us ws => us ++ ws) (fun vs zs => vs ++ zs)
  ds_Range___init__ : List Value
  v_Range___init__ : Vals [.str "nobody"] ds_Range___init__
  b_Range___init__ : Binds K d_Range___init__ ["self", "field", "low", "high", "lack"] ds_Range___init__
  f_Values___init__ : Addr
  d_Values___init__ : FuncData
  F_Values___init__ : FunD K "__init__" "Values.__init__" (defArgs s_Values___init__) (defBody s_Values___init__) (defScope s_Values___init__) [] [("lack", .str "nobody")] f_Values___init__ d_Values___init__
  kb_Values___init__ : KBn K d_Values___init__ ["self", "field", "choices", "lack"] 3 ["lack"] (fun us ws => us ++ ws) (fun vs zs => vs ++ zs)
  ds_Values___init__ : List Value
  v_Values___init__ : Vals [.str "nobody"] ds_Values___init__
  b_Values___init__ : Binds K d_Values___init__ ["self", "field", "choices", "lack"] ds_Values___init__
  f_law_made : Addr
  d_law_made : FuncData
  F_law_made : Fun K "_law_made" "_law_made" s_law_made f_law_made d_law_made
  b_law_made : Binds K d_law_made ["fact"] []
  g_law_made : mg "_law_made" = some (.ref f_law_made)
  f_law_built : Addr
  d_law_built : FuncData
  F_law_built : Fun K "_law_built" "_law_built" s_law_built f_law_built d_law_built
  b_law_built : Binds K d_law_built ["tree"] []
  g_law_built : mg "_law_built" = some (.ref f_law_built)
  f_law_worth_passes : Addr
  d_law_worth_passes : FuncData
  F_law_worth_passes : Fun K "_law_worth_passes" "_law_worth_passes" s_law_worth_passes f_law_worth_passes d_law_worth_passes
  b_law_worth_passes : Binds K d_law_worth_passes ["tree", "worth"] []
  g_law_worth_passes : mg "_law_worth_passes" = some (.ref f_law_worth_passes)
  f_law_outcomes : Addr
  d_law_outcomes : FuncData
  F_law_outcomes : Fun K "_law_outcomes" "_law_outcomes" s_law_outcomes f_law_outcomes d_law_outcomes
  b_law_outcomes : Binds K d_law_outcomes ["fact", "tree"] []
  g_law_outcomes : mg "_law_outcomes" = some (.ref f_law_outcomes)
  f_law_field_fact : Addr
  d_law_field_fact : FuncData
  F_law_field_fact : Fun K "_law_field_fact" "_law_field_fact" s_law_field_fact f_law_field_fact d_law_field_fact
  b_law_field_fact : Binds K d_law_field_fact ["state"] []
  g_law_field_fact : mg "_law_field_fact" = some (.ref f_law_field_fact)
  f_law_leaf : Addr
  d_law_leaf : FuncData
  F_law_leaf : Fun K "_law_leaf" "_law_leaf" s_law_leaf f_law_leaf d_law_leaf
  b_law_leaf : Binds K d_law_leaf ["state"] []
  g_law_leaf : mg "_law_leaf" = some (.ref f_law_leaf)
  f_law : Addr
  d_law : FuncData
  F_law : Fun K "law" "law" s_law f_law d_law
  b_law : Binds K d_law ["script"] []
  g_law : mg "law" = some (.ref f_law)
  c_Has : Addr
  cl_Has : Cls K c_Has
  mc_Has : mg "Has" = some (.ref c_Has)
  n_Has_field : NoAttr K c_Has "field"
  mk_Has : Mk K c_Has f_Has___init__
  ha_Has : PySem.W.findIn K (.ref c_Has) "__class__" = some (some (.builtin "object.__class__"))
  hm_Has : PySem.W.mroIn K c_Has (.type "object") = some true
  c_OneOf : Addr
  cl_OneOf : Cls K c_OneOf
  mc_OneOf : mg "OneOf" = some (.ref c_OneOf)
  n_OneOf_field : NoAttr K c_OneOf "field"
  n_OneOf_choices : NoAttr K c_OneOf "choices"
  mk_OneOf : Mk K c_OneOf f_OneOf___init__
  ha_OneOf : PySem.W.findIn K (.ref c_OneOf) "__class__" = some (some (.builtin "object.__class__"))
  hm_OneOf : PySem.W.mroIn K c_OneOf (.type "object") = some true
  c_Compare : Addr
  cl_Compare : Cls K c_Compare
  mc_Compare : mg "Compare" = some (.ref c_Compare)
  n_Compare_field : NoAttr K c_Compare "field"
  n_Compare_sign : NoAttr K c_Compare "sign"
  n_Compare_value : NoAttr K c_Compare "value"
  mk_Compare : Mk K c_Compare f_Compare___init__
  ha_Compare : PySem.W.findIn K (.ref c_Compare) "__class__" = some (some (.builtin "object.__class__"))
  hm_Compare : PySem.W.mroIn K c_Compare (.type "object") = some true
  c_Range : Addr
  cl_Range : Cls K c_Range
  mc_Range : mg "Range" = some (.ref c_Range)
  n_Range_field : NoAttr K c_Range "field"
  n_Range_low : NoAttr K c_Range "low"
  n_Range_high : NoAttr K c_Range "high"
  n_Range_lack : NoAttr K c_Range "lack"
  mk_Range : Mk K c_Range f_Range___init__
  me_Range_outcomes : Meth K c_Range "outcomes" f_Range_outcomes
  c_Values : Addr
  cl_Values : Cls K c_Values
  mc_Values : mg "Values" = some (.ref c_Values)
  n_Values_field : NoAttr K c_Values "field"
  n_Values_choices : NoAttr K c_Values "choices"
  n_Values_lack : NoAttr K c_Values "lack"
  mk_Values : Mk K c_Values f_Values___init__
  me_Values_outcomes : Meth K c_Values "outcomes" f_Values_outcomes
  kit_Has_Has : PySem.W.kitOne K (.ref c_Has) (.ref c_Has) = some true
  kit_OneOf_Has : PySem.W.kitOne K (.ref c_OneOf) (.ref c_Has) = some false
  kit_Compare_Has : PySem.W.kitOne K (.ref c_Compare) (.ref c_Has) = some false
  kit_OneOf_OneOf : PySem.W.kitOne K (.ref c_OneOf) (.ref c_OneOf) = some true
  kit_Compare_OneOf : PySem.W.kitOne K (.ref c_Compare) (.ref c_OneOf) = some false
  hn0 : PySem.W.specialIn K (.builtin "object.__class__") "__get__" = some (some (.builtin "getset_descriptor.__get__"))
  ht0 : PySem.W.takesIn K (.builtin "object.__class__") = some true
  m_any : mg "any" = none
  m_bool : mg "bool" = none
  m_int : mg "int" = none
  m_isinstance : mg "isinstance" = none
  m_len : mg "len" = none
  m_list : mg "list" = none
  m_range : mg "range" = none
  m_tuple : mg "tuple" = none
section
variable {P : Program} {w : World} {K : PySem.W.Frag} {mg : Str → Option Value} {base : Heap}

def FfAt (T : Txt K mg) (H : Hp) (p : Addr) : FF → Prop
  | .range lo hi k => ∃ dx, H p = some (.ins T.c_Range dx (ff_Range (.str "n") (.int lo) (.int hi) (.str k)))
  | .values f ws k => ∃ dx t, H p = some (.ins T.c_Values dx (ff_Values (.str f) (.ref t) (.str k))) ∧ H t = some (.tup ws)
def CAt (T : Txt K mg) (H : Hp) (p : Addr) : LT → Prop
  | .has f => ∃ dx, H p = some (.ins T.c_Has dx (ff_Has (.str f)))
  | .oneof f ws => ∃ dx t, H p = some (.ins T.c_OneOf dx (ff_OneOf (.str f) (.ref t))) ∧ H t = some (.tup ws)
  | .cmp f s v => ∃ dx, H p = some (.ins T.c_Compare dx (ff_Compare (.str f) (.str s) v))
theorem FfAt.same {T : Txt K mg} {H H' : Hp} {p : Addr} {f : FF} (h : FfAt T H p f) (s : Same H H') : FfAt T H' p f := by
  cases f with
  | range lo hi k => obtain ⟨dx, h⟩ := h; exact ⟨dx, s _ _ h⟩
  | values f ws k => obtain ⟨dx, t, h, g⟩ := h; exact ⟨dx, t, s _ _ h, s _ _ g⟩
theorem CAt.same {T : Txt K mg} {H H' : Hp} {p : Addr} {f : LT} (h : CAt T H p f) (s : Same H H') : CAt T H' p f := by
  cases f with
  | has f => obtain ⟨dx, h⟩ := h; exact ⟨dx, s _ _ h⟩
  | oneof f ws => obtain ⟨dx, t, h, g⟩ := h; exact ⟨dx, t, s _ _ h, s _ _ g⟩
  | cmp f s' v => obtain ⟨dx, h⟩ := h; exact ⟨dx, s _ _ h⟩
theorem any_id {α : Type} {ws : List α} {p : α → Bool} : (ws.map p).any id = ws.any p := by
  induction ws with
  | nil => rfl
  | cons w r ih => simp [List.any_cons]

theorem orB {a b : Bool} : (if a = true then true else b) = (a || b) := by cases a <;> rfl

theorem inV_bl {b : Bool} {bs : List Bool} : inV (.bl b) (bs.map V.bl) = (bs.any fun z => decide (z = b)) := by
  induction bs with
  | nil => rfl
  | cons x r ih =>
    rw [List.map_cons, List.any_cons, ← ih]
    unfold inV
    rw [List.any_cons]
    cases x <;> cases b <;> rfl

def sp_law_row (T : Txt K mg) : Sp := fun vs H Q _ => ∃ (sc : Addr) (ns : List Int) (k : Int), vs = [.ref sc, .int k] ∧ (H sc = some (.lst (ns.map V.int))) ∧ (0 ≤ k) ∧ ∀ c : Int, 0 ≤ c → Q (.int c) H
set_option maxHeartbeats 4000000 in
theorem ok_law_row (T : Txt K mg) : FnOk P w K mg base CX0 1 T.f_law_row T.d_law_row ["script", "k"] (sp_law_row T) := by
  refine T.F_law_row.ok sc_law_row (fun vs H Q E h => ?_) (fun cdv A outer s H vs Q E hr h => ?_)
  · obtain ⟨sc, ns, k, rfl, _⟩ := h
    rfl
  · obtain ⟨sc, ns, k, rfl, hS, hk, q⟩ := h
    refine ⟨_, (pss_cons (ps_set (i := 2) sc_law_row.nd rfl (.inl rfl) pe_int) 
      (pss_cut (ps_if (pt_cmpR op_lt (pv 1) (pe_callB call_len_seq (by rfl) T.m_len PySem.boot_len (pa_cons (pv 0) pa_nil)) (nomark _)) (pss_one (ps_set (i := 2) sc_law_row.nd rfl (.inl rfl) (pe_ix ix_list (pv 0) (pv 1) (fun _ _ => rfl)))) pss_nil) 
      (pss_cut (ps_if (pt_cmpR op_lt (pv 2) pe_int (nomark _)) (pss_one (ps_set (i := 2) sc_law_row.nd rfl (.inl rfl) (pe_op op_sub (pe_op op_mul (pe_un un_neg pe_int) (pv 2)) pe_int))) pss_nil) 
      (pss_cut (ps_if (pt_cmpR op_lt (pv 2) (pe_op op_pow pe_int pe_int) (nomark _)) (pss_cons (ps_set (i := 3) sc_law_row.nd rfl (.inl rfl) (pe_op op_mod (pe_callTy call_int1 (by rfl) T.m_int (by decide +kernel) (pa_cons (pe_op op_add (pe_op op_add (pe_op op_mul (pv 2) pe_int) (pe_op op_mul (pv 1) pe_int)) pe_int) pa_nil)) pe_int)) 
      (pss_cons (ps_set (i := 4) sc_law_row.nd rfl (.inl rfl) (pe_op op_mod (pe_callTy call_int1 (by rfl) T.m_int (by decide +kernel) (pa_cons (pe_op op_add (pe_op op_add (pe_op op_add (pe_op op_mul (pv 3) pe_int) (pe_op op_mul (pv 2) pe_int)) (pv 1)) pe_int) pa_nil)) pe_int)) 
      (pss_cons (ps_set (i := 5) sc_law_row.nd rfl (.inl rfl) (pe_op op_mod (pe_callTy call_int1 (by rfl) T.m_int (by decide +kernel) (pa_cons (pe_op op_add (pe_op op_add (pe_op op_mul (pv 4) pe_int) (pe_op op_mul (pv 3) (pv 4))) pe_int) pa_nil)) pe_int)) 
      (pss_one (ps_set (i := 2) sc_law_row.nd rfl (.inl rfl) (pe_op op_add (pe_op op_add (pv 3) (pe_op op_mul (pv 4) pe_int)) (pe_op op_mul (pv 5) (pe_op op_pow pe_int pe_int)))))))) pss_nil) 
      (pss_one (ps_ret (pv 2))))))), ?_⟩
    -- if k < len(script): cell = script[k]
    refine ⟨fun σ' H' => H' = H ∧ ∃ c : Int, σ' = [some (.ref sc), some (.int k), some (.int c), none, none, none], ?_, ?_⟩
    · refine ⟨_, rfl, _, rfl, sc, _, rfl, .inl (SqL.of hS), _, _, rfl, rfl, _, rfl, ite2 (fun e => ?_) (fun e => ?_)⟩
      · have hl : k < ((ns.map V.int).length : Int) := of_decide_eq_true e
        rw [List.length_map] at hl
        obtain ⟨c, hc⟩ := item_map hk hl
        exact ⟨_, rfl, _, rfl, sc, _, k, _, rfl, rfl, SqL.of hS, hc, rfl, c, rfl⟩
      · exact ⟨rfl, 0, rfl⟩
    rintro σ' H' ⟨rfl, c, rfl⟩
    -- if cell < 0: cell = -2 * cell - 1
    refine ⟨fun σ' H2 => H2 = H' ∧ ∃ c : Int, 0 ≤ c ∧ σ' = [some (.ref sc), some (.int k), some (.int c), none, none, none], ?_, ?_⟩
    · refine ⟨_, rfl, _, _, rfl, rfl, _, rfl, ite2 (fun e => ?_) (fun e => ?_)⟩
      · have hc : c < 0 := of_decide_eq_true e
        refine ⟨2, rfl, _, rfl, _, _, rfl, rfl, .inl ⟨by decide, by decide⟩, _, _, rfl, rfl, rfl, _, ?_, rfl⟩
        omega
      · have hc : ¬ c < 0 := fun h => e (decide_eq_true h)
        exact ⟨rfl, c, by omega, rfl⟩
    rintro σ' H2 ⟨rfl, c, hc, rfl⟩
    -- if cell < 10 ** 9: ..
    refine ⟨fun σ' H' => H' = H2 ∧ ∃ (c : Int) (x y z : Option V), 0 ≤ c ∧ σ' = [some (.ref sc), some (.int k), some (.int c), x, y, z], ?_, ?_⟩
    · refine ⟨_, rfl, _, _, rfl, rfl, ⟨by decide, by decide, by decide⟩, _, _, rfl, rfl, _, rfl, ite2 (fun e => ?_) (fun e => ?_)⟩
      · have h9 : c < 10 ^ 9 := of_decide_eq_true e
        refine ⟨_, rfl, _, _, rfl, rfl, .inr ⟨by decide, by decide⟩, _, rfl, _, _, rfl, rfl, .inr ⟨by decide, by decide⟩, _, _, rfl, rfl, _, _, rfl, rfl, .inl ⟨_, rfl, ?_⟩⟩
        refine ⟨_, _, rfl, rfl, (by decide : (0 : Int) < 2147483647), ?_⟩
        dsimp only
        generalize ha : (c * 48271 + k * 69621 + 11) % 2147483647 = a
        have a0 : 0 ≤ a := by rw [← ha]; exact Int.emod_nonneg _ (by decide)
        have a1 : a < 2147483647 := by rw [← ha]; exact Int.emod_lt_of_pos _ (by decide)
        refine ⟨_, rfl, _, _, rfl, rfl, .inr ⟨by decide, by decide⟩, _, rfl, _, _, rfl, rfl, .inr ⟨by decide, by decide⟩, _, _, rfl, rfl, _, rfl, _, _, rfl, rfl, _, _, rfl, rfl, .inl ⟨_, rfl, ?_⟩⟩
        refine ⟨_, _, rfl, rfl, (by decide : (0 : Int) < 2147483629), ?_⟩
        dsimp only
        generalize hb : (a * 16807 + c * 7 + k + 5) % 2147483629 = b
        have b0 : 0 ≤ b := by rw [← hb]; exact Int.emod_nonneg _ (by decide)
        have b1 : b < 2147483629 := by rw [← hb]; exact Int.emod_lt_of_pos _ (by decide)
        refine ⟨_, rfl, _, _, rfl, rfl, .inr ⟨by decide, by decide⟩, _, rfl, _, rfl, _, _, rfl, rfl, .inl ⟨by omega, by omega⟩, _, _, rfl, rfl, _, _, rfl, rfl, .inl ⟨_, rfl, ?_⟩⟩
        refine ⟨_, _, rfl, rfl, (by decide : (0 : Int) < 2147483587), ?_⟩
        dsimp only
        generalize hd : (b * 39373 + a * b + 3) % 2147483587 = d
        have d0 : 0 ≤ d := by rw [← hd]; exact Int.emod_nonneg _ (by decide)
        refine ⟨_, rfl, _, rfl, _, _, rfl, rfl, .inr ⟨by decide, by decide⟩, _, _, rfl, rfl, _, rfl, _, _, rfl, rfl, ⟨by decide, by decide, by decide⟩, _, _, rfl, rfl, .inr ⟨by decide, by decide⟩, _, _, rfl, rfl, rfl, _, _, _, _, ?_, rfl⟩
        have e2 : (2147483647 : Int) ^ (2 : Int).toNat = 4611686014132420609 := by decide
        rw [e2]
        omega
      · exact ⟨rfl, c, _, _, _, hc, rfl⟩
    rintro σ' H' ⟨rfl, c, x, y, z, hc, rfl⟩
    exact ⟨_, rfl, q c hc⟩
def sp_law_next (T : Txt K mg) : Sp := fun vs H Q _ => ∃ (st sc : Addr) (m : Int), vs = [.ref st, .int m] ∧ (StAt H st sc) ∧ (0 < m) ∧ (m.natAbs < 2 ^ 200) ∧ ∀ (d : Int) (H' : Hp), 0 ≤ d → d < m → StAt H' st sc → Oth st H H' → Q (.int d) H'
set_option maxHeartbeats 4000000 in
theorem ok_law_next (T : Txt K mg) : FnOk P w K mg base CX0 2 T.f_law_next T.d_law_next ["state", "many"] (sp_law_next T) := by
  have G_law_row : FnOk P w K mg base CX0 1 T.f_law_row T.d_law_row ["script", "k"] (sp_law_row T) := ok_law_row T
  refine T.F_law_next.ok sc_law_next (fun vs H Q E h => ?_) (fun cdv A outer s H vs Q E hr h => ?_)
  · obtain ⟨st, sc, m, rfl, _⟩ := h
    rfl
  · obtain ⟨st, sc, m, rfl, hS, m0, m1, q⟩ := h
    refine ⟨_, (pss_cut (ps_if (pt_cmpR op_lt (pe_ix ix_list (pv 0) pe_int (fun _ _ => rfl)) (pv 1) (nomark _)) (pss_cons (ps_asg (pe_call G_law_row (hr.mono (by decide)) (by rfl) T.g_law_row T.F_law_row.kp T.b_law_row .nil pass0 (pa_cons (pe_ix ix_list (pv 0) pe_int (fun _ _ => rfl)) (pa_cons (pe_ix ix_list (pv 0) pe_int (fun _ _ => rfl)) pa_nil))) (pg_sub (pv 0) pe_int set_list)) 
      (pss_one (ps_asg (pe_op op_add (pe_ix ix_list (pv 0) pe_int (fun _ _ => rfl)) pe_int) (pg_sub (pv 0) pe_int set_list)))) pss_nil) 
      (pss_cons (ps_set (i := 2) sc_law_next.nd rfl (.inl rfl) (pe_op op_mod (pe_callTy call_int1 (by rfl) T.m_int (by decide +kernel) (pa_cons (pe_ix ix_list (pv 0) pe_int (fun _ _ => rfl)) pa_nil)) (pv 1))) 
      (pss_cons (ps_asg (pe_op op_fdivW (pe_ix ix_list (pv 0) pe_int (fun _ _ => rfl)) (pv 1)) (pg_sub (pv 0) pe_int set_list)) 
      (pss_one (ps_ret (pv 2)))))), ?_⟩
    -- if state[2] < many: ..
    refine ⟨fun σ' H' => Oth st H H' ∧ StAt H' st sc ∧ σ' = [some (.ref st), some (.int m), none], ?_, ?_⟩
    · obtain ⟨ns, k, x, h1, h2, k0, x0, hn⟩ := id hS
      have hne : sc ≠ st := fun e => by
        rw [e, h1] at h2
        have z := HO.lst.inj (Option.some.inj h2)
        cases ns with
        | nil => cases z
        | cons y r =>
          have z2 := (List.cons.inj z).1
          cases z2
      refine ⟨_, rfl, st, _, _, _, rfl, rfl, SqL.of h1, at_of (j := 2) rfl rfl, _, rfl, _, _, rfl, rfl, _, rfl, ite2 (fun e => ?_) (fun e => ?_)⟩
      · refine ⟨_, rfl, st, _, _, _, rfl, rfl, SqL.of h1, at_of (j := 0) rfl rfl, _, rfl, st, _, _, _, rfl, rfl, SqL.of h1, at_of (j := 1) rfl rfl, sc, ns, k, rfl, h2, k0, fun c c0 => ?_⟩
        refine ⟨_, rfl, st, _, _, 2, rfl, rfl, h1, rfl, ?_⟩
        refine ⟨_, rfl, st, _, _, _, rfl, rfl, SqL.of upd_same, at_of (j := 1) rfl rfl, _, _, rfl, rfl, _, rfl, st, _, _, 1, rfl, rfl, upd_same, rfl, ?_⟩
        refine ⟨fun b hb => ?_, ⟨ns, k + 1, c, upd_same, ?_, by omega, c0, hn⟩, rfl⟩
        · rw [upd_ne hb, upd_ne hb]
        · rw [upd_ne hne, upd_ne hne]
          exact h2
      · exact ⟨Oth.refl _ _, hS, rfl⟩
    rintro σ' H' ⟨hO, ⟨ns, k, x, h1, h2, k0, x0, hn⟩, rfl⟩
    have hne : sc ≠ st := fun e => by
      rw [e, h1] at h2
      have z := HO.lst.inj (Option.some.inj h2)
      cases ns with
      | nil => cases z
      | cons y r =>
        have z2 := (List.cons.inj z).1
        cases z2
    -- drawn = int(state[2]) % many
    refine ⟨_, rfl, st, _, _, _, rfl, rfl, SqL.of h1, at_of (j := 2) rfl rfl, .inl ⟨_, rfl, ?_⟩⟩
    refine ⟨_, rfl, _, _, rfl, rfl, m0, ?_⟩
    -- state[2] = state[2] // many
    refine ⟨_, rfl, st, _, _, _, rfl, rfl, SqL.of h1, at_of (j := 2) rfl rfl, _, rfl, _, _, rfl, rfl, wide_div m0 m1 (by decide) (by decide), ?_⟩
    refine ⟨_, rfl, st, _, _, 2, rfl, rfl, h1, rfl, ?_⟩
    refine ⟨_, rfl, q _ _ (Int.emod_nonneg _ (by omega)) (Int.emod_lt_of_pos _ m0) ⟨ns, k, x / m, upd_same, ?_, k0, Int.ediv_nonneg x0 (by omega), hn⟩ (hO.trans fun b hb => upd_ne hb)⟩
    rw [upd_ne hne]
    exact h2
def sp_kind_of_value (T : Txt K mg) : Sp := fun vs H Q _ => ∃ (v : V), vs = [v] ∧ (IsW v) ∧ Q (.str (kindS v)) H
set_option maxHeartbeats 4000000 in
theorem ok_kind_of_value (T : Txt K mg) : FnOk P w K mg base CX0 1 T.f_kind_of_value T.d_kind_of_value ["worth"] (sp_kind_of_value T) := by
  refine T.F_kind_of_value.ok sc_kind_of_value (fun vs H Q E h => ?_) (fun cdv A outer s H vs Q E hr h => ?_)
  · obtain ⟨v, rfl, _⟩ := h
    rfl
  · obtain ⟨v, rfl, hv, q⟩ := h
    refine ⟨_, (pss_cons (ps_if (pt_val (pe_callB call_isi (by rfl) T.m_isinstance (by decide +kernel) (pa_cons (pv 0) (pa_cons (pe_bltn (v := .ty "bool") (u := .type "bool") (by rfl) T.m_bool (by decide +kernel) rfl) pa_nil)))) (pss_one (ps_ret pe_str)) pss_nil) 
      (pss_cons (ps_if (pt_val (pe_callB call_isi (by rfl) T.m_isinstance (by decide +kernel) (pa_cons (pv 0) (pa_cons (pe_bltn (v := .ty "int") (u := .type "int") (by rfl) T.m_int (by decide +kernel) rfl) pa_nil)))) (pss_one (ps_ret pe_str)) pss_nil) 
      (pss_one (ps_ret pe_str)))), ?_⟩
    rcases hv with ⟨i, rfl⟩ | ⟨s, rfl⟩ | ⟨b, rfl⟩
    · refine ⟨_, rfl, _, _, _, _, false, rfl, .ty _, .base (.int i), kit_ty (by decide +kernel), false, rfl, iteF ?_⟩
      exact ⟨_, rfl, _, _, _, _, true, rfl, .ty _, .base (.int i), kit_ty (by decide +kernel), true, rfl, iteT q⟩
    · refine ⟨_, rfl, _, _, _, _, false, rfl, .ty _, .base (.str s), kit_ty (by decide +kernel), false, rfl, iteF ?_⟩
      exact ⟨_, rfl, _, _, _, _, false, rfl, .ty _, .base (.str s), kit_ty (by decide +kernel), false, rfl, iteF q⟩
    · exact ⟨_, rfl, _, _, _, _, true, rfl, .ty _, .base (.bl b), kit_ty (by decide +kernel), true, rfl, iteT q⟩
def sp_satisfies (T : Txt K mg) : Sp := fun vs H Q _ => ∃ (x y : V) (s : Str), vs = [x, .str s, y] ∧ (SameK x y) ∧ Q (.bl (cmpV s x y)) H
set_option maxHeartbeats 4000000 in
theorem ok_satisfies (T : Txt K mg) : FnOk P w K mg base CX0 2 T.f_satisfies T.d_satisfies ["worth", "sign", "other"] (sp_satisfies T) := by
  have G_kind_of_value : FnOk P w K mg base CX0 1 T.f_kind_of_value T.d_kind_of_value ["worth"] (sp_kind_of_value T) := ok_kind_of_value T
  refine T.F_satisfies.ok sc_satisfies (fun vs H Q E h => ?_) (fun cdv A outer s H vs Q E hr h => ?_)
  · obtain ⟨x, y, s, rfl, _⟩ := h
    rfl
  · obtain ⟨x, y, s, rfl, hk, q⟩ := h
    refine ⟨_, (pss_cons (ps_if (pt_cmpR op_ne (pe_call G_kind_of_value (hr.mono (by decide)) (by rfl) T.g_kind_of_value T.F_kind_of_value.kp T.b_kind_of_value .nil pass0 (pa_cons (pv 0) pa_nil)) (pe_call G_kind_of_value (hr.mono (by decide)) (by rfl) T.g_kind_of_value T.F_kind_of_value.kp T.b_kind_of_value .nil pass0 (pa_cons (pv 2) pa_nil)) (nomark _)) (pss_one (ps_ret (pe_cmpR op_eq (pv 1) pe_str (nomark _)))) pss_nil) 
      (pss_cons (ps_if (pt_cmpR op_eq (pv 1) pe_str (nomark _)) (pss_one (ps_ret (pe_cmpR op_eq (pv 0) (pv 2) (nomark _)))) pss_nil) 
      (pss_cons (ps_if (pt_cmpR op_eq (pv 1) pe_str (nomark _)) (pss_one (ps_ret (pe_cmpR op_ne (pv 0) (pv 2) (nomark _)))) pss_nil) 
      (pss_cons (ps_if (pt_cmpR op_eq (pv 1) pe_str (nomark _)) (pss_one (ps_ret (pe_cmpR op_ltV (pv 0) (pv 2) (nomark _)))) pss_nil) 
      (pss_cons (ps_if (pt_cmpR op_eq (pv 1) pe_str (nomark _)) (pss_one (ps_ret (pe_cmpR op_leV (pv 0) (pv 2) (nomark _)))) pss_nil) 
      (pss_cons (ps_if (pt_cmpR op_eq (pv 1) pe_str (nomark _)) (pss_one (ps_ret (pe_cmpR op_gtV (pv 0) (pv 2) (nomark _)))) pss_nil) 
      (pss_one (ps_ret (pe_cmpR op_geV (pv 0) (pv 2) (nomark _)))))))))), ?_⟩
    refine ⟨_, rfl, x, rfl, hk.w, _, rfl, y, rfl, hk.symm.w, rfl, _, rfl, ?_⟩
    rw [hk.kind, decide_eq_true rfl]
    refine iteF ?_

    have q' := q
    unfold cmpV at q'
    refine ⟨_, rfl, rfl, _, rfl, ite2 (fun e => ?_) (fun e => ?_)⟩
    · have c : s = "=" := V.str.inj (of_decide_eq_true e)
      rw [if_pos c] at q'
      exact ⟨_, rfl, _, rfl, hk.scal, q'⟩
    rw [if_neg (fun z => e (decide_eq_true (congrArg V.str z)))] at q'
    clear e
    refine ⟨_, rfl, rfl, _, rfl, ite2 (fun e => ?_) (fun e => ?_)⟩
    · have c : s = "!=" := V.str.inj (of_decide_eq_true e)
      rw [if_pos c] at q'
      refine ⟨_, rfl, _, rfl, hk.scal, ?_⟩
      rw [show (!decide (x = y)) = decide (¬ x = y) by by_cases h : x = y <;> simp [h]]
      exact q'
    rw [if_neg (fun z => e (decide_eq_true (congrArg V.str z)))] at q'
    clear e

    refine ⟨_, rfl, rfl, _, rfl, ite2 (fun e => ?_) (fun e => ?_)⟩
    · have c : s = "<" := V.str.inj (of_decide_eq_true e)
      rw [if_pos c] at q'
      exact ⟨_, rfl, _, rfl, hk, q'⟩
    rw [if_neg (fun z => e (decide_eq_true (congrArg V.str z)))] at q'
    clear e

    refine ⟨_, rfl, rfl, _, rfl, ite2 (fun e => ?_) (fun e => ?_)⟩
    · have c : s = "<=" := V.str.inj (of_decide_eq_true e)
      rw [if_pos c] at q'
      exact ⟨_, rfl, _, rfl, hk, q'⟩
    rw [if_neg (fun z => e (decide_eq_true (congrArg V.str z)))] at q'
    clear e

    refine ⟨_, rfl, rfl, _, rfl, ite2 (fun e => ?_) (fun e => ?_)⟩
    · have c : s = ">" := V.str.inj (of_decide_eq_true e)
      rw [if_pos c] at q'
      exact ⟨_, rfl, _, rfl, hk, q'⟩
    rw [if_neg (fun z => e (decide_eq_true (congrArg V.str z)))] at q'
    clear e
    exact ⟨_, rfl, _, rfl, hk, q'⟩
def sp_law_compares (T : Txt K mg) : Sp := fun vs H Q _ => ∃ (x y : V) (s : Str), vs = [.str s, x, y] ∧ (SameK x y) ∧ Q (.bl (cmpV s x y)) H
set_option maxHeartbeats 4000000 in
theorem ok_law_compares (T : Txt K mg) : FnOk P w K mg base CX0 1 T.f_law_compares T.d_law_compares ["sign", "a", "b"] (sp_law_compares T) := by
  refine T.F_law_compares.ok sc_law_compares (fun vs H Q E h => ?_) (fun cdv A outer s H vs Q E hr h => ?_)
  · obtain ⟨x, y, s, rfl, _⟩ := h
    rfl
  · obtain ⟨x, y, s, rfl, hk, q⟩ := h
    refine ⟨_, (pss_cons (ps_if (pt_cmpR op_eq (pv 0) pe_str (nomark _)) (pss_one (ps_ret (pe_cmpR op_eq (pv 1) (pv 2) (nomark _)))) pss_nil) 
      (pss_cons (ps_if (pt_cmpR op_eq (pv 0) pe_str (nomark _)) (pss_one (ps_ret (pe_cmpR op_ne (pv 1) (pv 2) (nomark _)))) pss_nil) 
      (pss_cons (ps_if (pt_cmpR op_eq (pv 0) pe_str (nomark _)) (pss_one (ps_ret (pe_cmpR op_ltV (pv 1) (pv 2) (nomark _)))) pss_nil) 
      (pss_cons (ps_if (pt_cmpR op_eq (pv 0) pe_str (nomark _)) (pss_one (ps_ret (pe_cmpR op_leV (pv 1) (pv 2) (nomark _)))) pss_nil) 
      (pss_cons (ps_if (pt_cmpR op_eq (pv 0) pe_str (nomark _)) (pss_one (ps_ret (pe_cmpR op_ltV (pv 2) (pv 1) (nomark _)))) pss_nil) 
      (pss_one (ps_ret (pe_cmpR op_leV (pv 2) (pv 1) (nomark _))))))))), ?_⟩
    have q' := q
    unfold cmpV at q'
    refine ⟨_, rfl, rfl, _, rfl, ite2 (fun e => ?_) (fun e => ?_)⟩
    · have c : s = "=" := V.str.inj (of_decide_eq_true e)
      rw [if_pos c] at q'
      exact ⟨_, rfl, _, rfl, hk.scal, q'⟩
    rw [if_neg (fun z => e (decide_eq_true (congrArg V.str z)))] at q'
    clear e
    refine ⟨_, rfl, rfl, _, rfl, ite2 (fun e => ?_) (fun e => ?_)⟩
    · have c : s = "!=" := V.str.inj (of_decide_eq_true e)
      rw [if_pos c] at q'
      refine ⟨_, rfl, _, rfl, hk.scal, ?_⟩
      rw [show (!decide (x = y)) = decide (¬ x = y) by by_cases h : x = y <;> simp [h]]
      exact q'
    rw [if_neg (fun z => e (decide_eq_true (congrArg V.str z)))] at q'
    clear e

    refine ⟨_, rfl, rfl, _, rfl, ite2 (fun e => ?_) (fun e => ?_)⟩
    · have c : s = "<" := V.str.inj (of_decide_eq_true e)
      rw [if_pos c] at q'
      exact ⟨_, rfl, _, rfl, hk, q'⟩
    rw [if_neg (fun z => e (decide_eq_true (congrArg V.str z)))] at q'
    clear e

    refine ⟨_, rfl, rfl, _, rfl, ite2 (fun e => ?_) (fun e => ?_)⟩
    · have c : s = "<=" := V.str.inj (of_decide_eq_true e)
      rw [if_pos c] at q'
      exact ⟨_, rfl, _, rfl, hk, q'⟩
    rw [if_neg (fun z => e (decide_eq_true (congrArg V.str z)))] at q'
    clear e

    refine ⟨_, rfl, rfl, _, rfl, ite2 (fun e => ?_) (fun e => ?_)⟩
    · have c : s = ">" := V.str.inj (of_decide_eq_true e)
      rw [if_pos c] at q'
      exact ⟨_, rfl, _, rfl, hk.symm, q'⟩
    rw [if_neg (fun z => e (decide_eq_true (congrArg V.str z)))] at q'
    clear e
    exact ⟨_, rfl, _, rfl, hk.symm, q'⟩
def sp_same_value (T : Txt K mg) : Sp := fun vs H Q _ => ∃ (x y : V), vs = [x, y] ∧ (SameK x y) ∧ Q (.bl (decide (x = y))) H
set_option maxHeartbeats 4000000 in
theorem ok_same_value (T : Txt K mg) : FnOk P w K mg base CX0 2 T.f_same_value T.d_same_value ["one", "other"] (sp_same_value T) := by
  have G_kind_of_value : FnOk P w K mg base CX0 1 T.f_kind_of_value T.d_kind_of_value ["worth"] (sp_kind_of_value T) := ok_kind_of_value T
  refine T.F_same_value.ok sc_same_value (fun vs H Q E h => ?_) (fun cdv A outer s H vs Q E hr h => ?_)
  · obtain ⟨x, y, rfl, _⟩ := h
    rfl
  · obtain ⟨x, y, rfl, hk, q⟩ := h
    refine ⟨_, (pss_one (ps_ret (pe_and (pe_cmpR op_eq (pe_call G_kind_of_value (hr.mono (by decide)) (by rfl) T.g_kind_of_value T.F_kind_of_value.kp T.b_kind_of_value .nil pass0 (pa_cons (pv 0) pa_nil)) (pe_call G_kind_of_value (hr.mono (by decide)) (by rfl) T.g_kind_of_value T.F_kind_of_value.kp T.b_kind_of_value .nil pass0 (pa_cons (pv 1) pa_nil)) (nomark _)) (pe_one (pe_cmpR op_eq (pv 0) (pv 1) (nomark _)))))), ?_⟩
    refine ⟨_, rfl, x, rfl, hk.w, _, rfl, y, rfl, hk.symm.w, rfl, _, rfl, ?_⟩
    rw [hk.kind, decide_eq_true rfl]
    exact iteT ⟨_, rfl, _, rfl, hk.scal, q⟩
def sp_is_among (T : Txt K mg) : Sp := fun vs H Q _ => ∃ (x : V) (c : Addr) (ws : List V), vs = [x, .ref c] ∧ (H c = some (.tup ws)) ∧ (∀ w ∈ ws, SameK x w) ∧ (ws.length ≤ 1000) ∧ ∀ H', Same H H' → Q (.bl (ws.any fun z => decide (x = z))) H'
set_option maxHeartbeats 4000000 in
theorem ok_is_among (T : Txt K mg) : FnOk P w K mg base CX0 3 T.f_is_among T.d_is_among ["worth", "choices"] (sp_is_among T) := by
  have G_same_value : FnOk P w K mg base CX0 2 T.f_same_value T.d_same_value ["one", "other"] (sp_same_value T) := ok_same_value T
  refine T.F_is_among.ok sc_is_among (fun vs H Q E h => ?_) (fun cdv A outer s H vs Q E hr h => ?_)
  · obtain ⟨x, c, ws, rfl, _⟩ := h
    rfl
  · obtain ⟨x, c, ws, rfl, hc, hk, hl, q⟩ := h
    refine ⟨_, (pss_one (ps_ret (pe_callB (cr_any rfl) (by rfl) T.m_any (by decide +kernel) (pa_cons (pe_lc (own := [("choice", 2)]) (g := gName 2) rfl sc_is_among.nd (pi_tup (pv 1)) (blkOk_by (own := [("choice", 2)]) (N := ["worth", "choices", "choice"]) (sc := defScope s_is_among) (by decide +kernel)) (fun _ _ _ _ _ => (pg_name (i := 2) sc_is_among.nd rfl (Or.inl rfl))) (fun _ _ _ _ _ => pts_nil) (fun _ _ _ _ _ => (pe_call G_same_value (hr.mono (by decide)) (by rfl) T.g_same_value T.F_same_value.kp T.b_same_value .nil pass0 (pa_cons (pv 0) (pa_cons (pv 2) pa_nil))))) pa_nil)))), ?_⟩
    refine ⟨_, rfl, c, rfl, ⟨_, SqT.of hc⟩, fun D hD => ?_⟩

    refine lc_tup (K := K) (a := c) (xs := ws) (fun i H' => Same H H' ∧ H' D = some (.lst (((ws.take i).map (fun z => decide (x = z))).map V.bl))) ⟨same_new hD, upd_same⟩ (fun i H' _ h => SqT.of (h.1 _ _ hc)) ?_ ?_
    · rintro i v H1 hj ⟨sm, hD1⟩
      have mv := List.mem_of_getElem? hj
      have lt := (List.getElem?_eq_some_iff.mp hj).1
      refine ⟨rfl, _, rfl, _, rfl, x, v, rfl, hk v mv, ?_⟩
      refine ⟨_, hD1, ?_, same_set sm hD, ?_⟩
      · rw [List.length_map, List.length_map, List.length_take]
        exact len_le (by omega)
      · rw [upd_same, List.take_add_one, hj, List.map_append, List.map_append]
        rfl
    rintro H1 ⟨sm, hD1⟩
    rw [List.take_length] at hD1

    refine ⟨D, _, rfl, SqL.of hD1, ?_⟩
    rw [any_id]
    exact q H1 sm
def sp_is_from (T : Txt K mg) : Sp := fun vs H Q _ => ∃ (lo hi v : Int), vs = [.int lo, .int hi, .int v] ∧ Q (.bl (inR lo hi v)) H
set_option maxHeartbeats 4000000 in
theorem ok_is_from (T : Txt K mg) : FnOk P w K mg base CX0 2 T.f_is_from T.d_is_from ["low", "high", "worth"] (sp_is_from T) := by
  have G_kind_of_value : FnOk P w K mg base CX0 1 T.f_kind_of_value T.d_kind_of_value ["worth"] (sp_kind_of_value T) := ok_kind_of_value T
  refine T.F_is_from.ok sc_is_from (fun vs H Q E h => ?_) (fun cdv A outer s H vs Q E hr h => ?_)
  · obtain ⟨lo, hi, v, rfl, _⟩ := h
    rfl
  · obtain ⟨lo, hi, v, rfl, q⟩ := h
    refine ⟨_, (pss_one (ps_ret (pe_and (pe_cmpR op_eq (pe_call G_kind_of_value (hr.mono (by decide)) (by rfl) T.g_kind_of_value T.F_kind_of_value.kp T.b_kind_of_value .nil pass0 (pa_cons (pv 2) pa_nil)) pe_str (nomark _)) (pe_one (pe_chain op_le op_le (pv 0) (pv 2) (pv 1)))))), ?_⟩
    unfold inR at q
    refine ⟨_, rfl, .int v, rfl, .inl ⟨_, rfl⟩, rfl, _, rfl, iteT ?_⟩
    refine ⟨_, rfl, _, rfl, _, _, rfl, rfl, _, rfl, ?_⟩
    by_cases c : lo ≤ v
    · rw [decide_eq_true c] at q ⊢
      exact iteT ⟨_, rfl, _, _, rfl, rfl, q⟩
    · rw [decide_eq_false c] at q ⊢
      exact iteF q
def sp_outcomes_of_lack (T : Txt K mg) : Sp := fun vs H Q _ => ∃ (k : Str), vs = [.str k] ∧ ∀ t, H t = none → Q (.ref t) (upd H t (.tup [.bl (neS k "all"), .bl (neS k "nobody")]))
set_option maxHeartbeats 4000000 in
theorem ok_outcomes_of_lack (T : Txt K mg) : FnOk P w K mg base CX0 1 T.f_outcomes_of_lack T.d_outcomes_of_lack ["lack"] (sp_outcomes_of_lack T) := by
  refine T.F_outcomes_of_lack.ok sc_outcomes_of_lack (fun vs H Q E h => ?_) (fun cdv A outer s H vs Q E hr h => ?_)
  · obtain ⟨k, rfl, _⟩ := h
    rfl
  · obtain ⟨k, rfl, q⟩ := h
    refine ⟨_, (pss_one (ps_ret (pe_tup (pa_cons (pe_cmpR op_ne (pv 0) pe_str (nomark _)) (pa_cons (pe_cmpR op_ne (pv 0) pe_str (nomark _)) pa_nil))))), ?_⟩
    exact ⟨_, rfl, rfl, _, rfl, rfl, (by show 2 ≤ sizeLine; decide), q⟩
def sp_range_outcomes (T : Txt K mg) : Sp := fun vs H Q _ => ∃ (lo hi v : Int) (s : Str), vs = [.int lo, .int hi, .str s, .int v] ∧ ∀ t, H t = none → Q (.ref t) (upd H t (.tup [.bl (rngP s lo hi v), .bl (rngF s lo hi v)]))
set_option maxHeartbeats 4000000 in
theorem ok_range_outcomes (T : Txt K mg) : FnOk P w K mg base CX0 2 T.f_range_outcomes T.d_range_outcomes ["low", "high", "sign", "value"] (sp_range_outcomes T) := by
  have G_kind_of_value : FnOk P w K mg base CX0 1 T.f_kind_of_value T.d_kind_of_value ["worth"] (sp_kind_of_value T) := ok_kind_of_value T
  refine T.F_range_outcomes.ok sc_range_outcomes (fun vs H Q E h => ?_) (fun cdv A outer s H vs Q E hr h => ?_)
  · obtain ⟨lo, hi, v, s, rfl, _⟩ := h
    rfl
  · obtain ⟨lo, hi, v, s, rfl, q⟩ := h
    refine ⟨_, (pss_cons (ps_if (pt_cmpR op_ne (pe_call G_kind_of_value (hr.mono (by decide)) (by rfl) T.g_kind_of_value T.F_kind_of_value.kp T.b_kind_of_value .nil pass0 (pa_cons (pv 3) pa_nil)) pe_str (nomark _)) (pss_one (ps_ret (pe_tup (pa_cons pe_bl (pa_cons pe_bl pa_nil))))) pss_nil) 
      (pss_cut (ps_set (i := 4) sc_range_outcomes.nd rfl (.inl rfl) (pe_chain op_le op_le (pv 0) (pv 3) (pv 1))) 
      (pss_cut (ps_set (i := 5) sc_range_outcomes.nd rfl (.inl rfl) (pe_not (pe_chain op_eq op_eq (pv 0) (pv 3) (pv 1)))) 
      (pss_cons (ps_if (pt_cmpR op_eq (pv 2) pe_str (nomark _)) (pss_one (ps_ret (pe_tup (pa_cons (pv 4) (pa_cons (pv 5) pa_nil))))) pss_nil) 
      (pss_cons (ps_if (pt_cmpR op_eq (pv 2) pe_str (nomark _)) (pss_one (ps_ret (pe_tup (pa_cons (pv 5) (pa_cons (pv 4) pa_nil))))) pss_nil) 
      (pss_cons (ps_if (pt_cmpR op_eq (pv 2) pe_str (nomark _)) (pss_one (ps_ret (pe_tup (pa_cons (pe_cmpR op_lt (pv 0) (pv 3) (nomark _)) (pa_cons (pe_cmpR op_le (pv 3) (pv 1) (nomark _)) pa_nil))))) pss_nil) 
      (pss_cons (ps_if (pt_cmpR op_eq (pv 2) pe_str (nomark _)) (pss_one (ps_ret (pe_tup (pa_cons (pe_cmpR op_le (pv 0) (pv 3) (nomark _)) (pa_cons (pe_cmpR op_lt (pv 3) (pv 1) (nomark _)) pa_nil))))) pss_nil) 
      (pss_cons (ps_if (pt_cmpR op_eq (pv 2) pe_str (nomark _)) (pss_one (ps_ret (pe_tup (pa_cons (pe_cmpR op_lt (pv 3) (pv 1) (nomark _)) (pa_cons (pe_cmpR op_le (pv 0) (pv 3) (nomark _)) pa_nil))))) pss_nil) 
      (pss_one (ps_ret (pe_tup (pa_cons (pe_cmpR op_le (pv 3) (pv 1) (nomark _)) (pa_cons (pe_cmpR op_lt (pv 0) (pv 3) (nomark _)) pa_nil))))))))))))), ?_⟩
    unfold rngP rngF at q
    refine ⟨_, rfl, .int v, rfl, .inl ⟨_, rfl⟩, rfl, _, rfl, iteF ?_⟩
    refine ⟨fun σ H' => H' = H ∧ ∃ (y5 : Option V), σ = [some (.int lo), some (.int hi), some (.str s), some (.int v), some (.bl (inR lo hi v)), y5], ?_, ?_⟩
    · refine ⟨_, rfl, _, rfl, _, _, rfl, rfl, _, rfl, ?_⟩
      unfold inR
      by_cases c : lo ≤ v
      · rw [decide_eq_true c]
        exact iteT ⟨_, rfl, _, _, rfl, rfl, rfl, _, rfl⟩
      · rw [decide_eq_false c]
        exact iteF ⟨rfl, _, rfl⟩
    rintro σ H' ⟨rfl, y5, rfl⟩
    refine ⟨fun σ H2 => H2 = H' ∧ σ = [some (.int lo), some (.int hi), some (.str s), some (.int v), some (.bl (inR lo hi v)), some (.bl (!(decide (lo = v) && decide (v = hi))))], ?_, ?_⟩
    · refine ⟨_, rfl, _, rfl, rfl, _, rfl, ?_⟩
      by_cases c : lo = v
      · rw [decide_eq_true c, decide_eq_true (congrArg V.int c)]
        refine iteT ⟨_, rfl, rfl, _, rfl, ?_⟩
        rw [show decide (V.int v = V.int hi) = decide (v = hi) by by_cases h : v = hi <;> simp [h]]
        exact ⟨rfl, rfl⟩
      · rw [decide_eq_false c, decide_eq_false (fun z => c (V.int.inj z))]
        exact iteF ⟨_, rfl, rfl, rfl⟩
    rintro σ H2 ⟨rfl, rfl⟩

    refine ⟨_, rfl, rfl, _, rfl, ite2 (fun e => ?_) (fun e => ?_)⟩
    · have c : s = "=" := V.str.inj (of_decide_eq_true e)
      rw [if_pos c, if_pos c] at q
      exact ⟨_, rfl, _, rfl, (by show 2 ≤ sizeLine; decide), q⟩
    rw [if_neg (fun z => e (decide_eq_true (congrArg V.str z))), if_neg (fun z => e (decide_eq_true (congrArg V.str z)))] at q
    clear e

    refine ⟨_, rfl, rfl, _, rfl, ite2 (fun e => ?_) (fun e => ?_)⟩
    · have c : s = "!=" := V.str.inj (of_decide_eq_true e)
      rw [if_pos c, if_pos c] at q
      exact ⟨_, rfl, _, rfl, (by show 2 ≤ sizeLine; decide), q⟩
    rw [if_neg (fun z => e (decide_eq_true (congrArg V.str z))), if_neg (fun z => e (decide_eq_true (congrArg V.str z)))] at q
    clear e

    refine ⟨_, rfl, rfl, _, rfl, ite2 (fun e => ?_) (fun e => ?_)⟩
    · have c : s = "<" := V.str.inj (of_decide_eq_true e)
      rw [if_pos c, if_pos c] at q
      exact ⟨_, rfl, _, rfl, _, _, rfl, rfl, _, rfl, _, rfl, _, _, rfl, rfl, (by show 2 ≤ sizeLine; decide), q⟩
    rw [if_neg (fun z => e (decide_eq_true (congrArg V.str z))), if_neg (fun z => e (decide_eq_true (congrArg V.str z)))] at q
    clear e

    refine ⟨_, rfl, rfl, _, rfl, ite2 (fun e => ?_) (fun e => ?_)⟩
    · have c : s = "<=" := V.str.inj (of_decide_eq_true e)
      rw [if_pos c, if_pos c] at q
      exact ⟨_, rfl, _, rfl, _, _, rfl, rfl, _, rfl, _, rfl, _, _, rfl, rfl, (by show 2 ≤ sizeLine; decide), q⟩
    rw [if_neg (fun z => e (decide_eq_true (congrArg V.str z))), if_neg (fun z => e (decide_eq_true (congrArg V.str z)))] at q
    clear e

    refine ⟨_, rfl, rfl, _, rfl, ite2 (fun e => ?_) (fun e => ?_)⟩
    · have c : s = ">" := V.str.inj (of_decide_eq_true e)
      rw [if_pos c, if_pos c] at q
      exact ⟨_, rfl, _, rfl, _, _, rfl, rfl, _, rfl, _, rfl, _, _, rfl, rfl, (by show 2 ≤ sizeLine; decide), q⟩
    rw [if_neg (fun z => e (decide_eq_true (congrArg V.str z))), if_neg (fun z => e (decide_eq_true (congrArg V.str z)))] at q
    clear e
    exact ⟨_, rfl, _, rfl, _, _, rfl, rfl, _, rfl, _, rfl, _, _, rfl, rfl, (by show 2 ≤ sizeLine; decide), q⟩
def sp_value_passes (T : Txt K mg) : Sp := fun vs H Q _ => ∃ (x : V) (c : Addr) (t : LT), vs = [x, .ref c] ∧ (CAt T H c t) ∧ (∀ f, t ≠ .has f) ∧ (LtOk t) ∧ (∀ f ws, t = .oneof f ws → ∀ w ∈ ws, SameK x w) ∧ (∀ f s v, t = .cmp f s v → SameK x v) ∧ ∀ H', Same H H' → Q (.bl (passW t x)) H'
set_option maxHeartbeats 4000000 in
theorem ok_value_passes (T : Txt K mg) : FnOk P w K mg base CX0 4 T.f_value_passes T.d_value_passes ["worth", "condition"] (sp_value_passes T) := by
  have G_satisfies : FnOk P w K mg base CX0 2 T.f_satisfies T.d_satisfies ["worth", "sign", "other"] (sp_satisfies T) := ok_satisfies T
  have G_is_among : FnOk P w K mg base CX0 3 T.f_is_among T.d_is_among ["worth", "choices"] (sp_is_among T) := ok_is_among T
  refine T.F_value_passes.ok sc_value_passes (fun vs H Q E h => ?_) (fun cdv A outer s H vs Q E hr h => ?_)
  · obtain ⟨x, c, t, rfl, _⟩ := h
    rfl
  · obtain ⟨x, c, t, rfl, hc, nh, hl, h1, h2, q⟩ := h
    refine ⟨_, (pss_cons (ps_if (pt_val (pe_callB call_isi (by rfl) T.m_isinstance (by decide +kernel) (pa_cons (pv 1) (pa_cons (pe_glob (v := .ref T.c_OneOf) rfl T.mc_OneOf rfl) pa_nil)))) (pss_one (ps_ret (pe_call G_is_among (hr.mono (by decide)) (by rfl) T.g_is_among T.F_is_among.kp T.b_is_among .nil pass0 (pa_cons (pv 0) (pa_cons (pe_fld (pv 1) rfl) pa_nil))))) pss_nil) 
      (pss_one (ps_ret (pe_call G_satisfies (hr.mono (by decide)) (by rfl) T.g_satisfies T.F_satisfies.kp T.b_satisfies .nil pass0 (pa_cons (pv 0) (pa_cons (pe_fld (pv 1) rfl) (pa_cons (pe_fld (pv 1) rfl) pa_nil))))))), ?_⟩
    cases t with
    | has f => exact absurd rfl (nh f)
    | oneof f ws =>
      obtain ⟨dx, l, c1, c2⟩ := hc
      refine ⟨_, rfl, _, _, _, _, true, rfl, .own _, .base (.ins c1 T.cl_OneOf T.ha_OneOf T.hn0 T.ht0 T.hm_OneOf), T.kit_OneOf_OneOf, true, rfl, iteT ?_⟩
      exact ⟨_, rfl, _, rfl, _, _, _, _, _, rfl, c1, T.cl_OneOf, T.n_OneOf_choices, lk_OneOf_choices, x, l, ws, rfl, c2, h1 f ws rfl, hl, q⟩
    | cmp f s v =>
      obtain ⟨dx, c1⟩ := hc
      refine ⟨_, rfl, _, _, _, _, false, rfl, .own _, .base (.ins c1 T.cl_Compare T.ha_Compare T.hn0 T.ht0 T.hm_Compare), T.kit_Compare_OneOf, false, rfl, iteF ?_⟩
      exact ⟨_, rfl, _, rfl, _, _, _, _, _, rfl, c1, T.cl_Compare, T.n_Compare_sign, lk_Compare_sign, _, rfl, _, _, _, _, _, rfl, c1, T.cl_Compare, T.n_Compare_value, lk_Compare_value, x, v, s, rfl, h2 f s v rfl, q H (Same.refl _)⟩
def sp_Range_outcomes (T : Txt K mg) : Sp := fun vs H Q _ => ∃ (p c : Addr) (lo hi : Int) (k : Str) (t : LT), vs = [.ref p, .ref c] ∧ (FfAt T H p (.range lo hi k)) ∧ (CAt T H c t) ∧ (KindOk (.range lo hi k) t) ∧ (LtOk t) ∧ (¬ t.field = "n" → Q .non H) ∧ (t.field = "n" → ∀ r H', Same H H' → H' r = some (.tup [.bl (outP (.range lo hi k) t), .bl (outF (.range lo hi k) t)]) → Q (.ref r) H')
set_option maxHeartbeats 8000000 in
theorem ok_Range_outcomes (T : Txt K mg) : FnOk P w K mg base CX0 3 T.f_Range_outcomes T.d_Range_outcomes ["self", "condition"] (sp_Range_outcomes T) := by
  have G_is_from : FnOk P w K mg base CX0 2 T.f_is_from T.d_is_from ["low", "high", "worth"] (sp_is_from T) := ok_is_from T
  have G_range_outcomes : FnOk P w K mg base CX0 2 T.f_range_outcomes T.d_range_outcomes ["low", "high", "sign", "value"] (sp_range_outcomes T) := ok_range_outcomes T
  have G_outcomes_of_lack : FnOk P w K mg base CX0 1 T.f_outcomes_of_lack T.d_outcomes_of_lack ["lack"] (sp_outcomes_of_lack T) := ok_outcomes_of_lack T
  refine T.F_Range_outcomes.ok sc_Range_outcomes (fun vs H Q E h => ?_) (fun cdv A outer s H vs Q E hr h => ?_)
  · obtain ⟨p, c, lo, hi, k, t, rfl, _⟩ := h
    rfl
  · obtain ⟨p, c, lo, hi, k, t, rfl, hp, hc, hk, hl, q⟩ := h
    refine ⟨_, (pss_cons (ps_if (pt_cmpR op_ne (pe_fld (pv 1) rfl) (pe_fld (pv 0) rfl) (nomark _)) (pss_one (ps_ret pe_non)) pss_nil) 
      (pss_cons (ps_if (PW.pt (pw_or (pt_cmpR op_eq (pe_fld (pv 0) rfl) pe_str (nomark _)) (pw_or1 (pt_val (pe_callB call_isi (by rfl) T.m_isinstance (by decide +kernel) (pa_cons (pv 1) (pa_cons (pe_glob (v := .ref T.c_Has) rfl T.mc_Has rfl) pa_nil))))))) (pss_one (ps_ret (pe_call G_outcomes_of_lack (hr.mono (by decide)) (by rfl) T.g_outcomes_of_lack T.F_outcomes_of_lack.kp T.b_outcomes_of_lack .nil pass0 (pa_cons (pe_fld (pv 0) rfl) pa_nil)))) pss_nil) 
      (pss_cut (ps_if (pt_val (pe_callB call_isi (by rfl) T.m_isinstance (by decide +kernel) (pa_cons (pv 1) (pa_cons (pe_glob (v := .ref T.c_OneOf) rfl T.mc_OneOf rfl) pa_nil)))) (pss_cons (ps_set (i := 2) sc_Range_outcomes.nd rfl (.inl rfl) (pe_callB (cr_any rfl) (by rfl) T.m_any (by decide +kernel) (pa_cons (pe_lc (own := [("worth", 3)]) (g := gName 3) rfl sc_Range_outcomes.nd (pi_tup (pe_fld (pv 1) rfl)) (blkOk_by (own := [("worth", 3)]) (N := ["self", "condition", "can_pass", "worth", "can_fail"]) (sc := defScope s_Range_outcomes) (by decide +kernel)) (fun _ _ _ _ _ => (pg_name (i := 3) sc_Range_outcomes.nd rfl (Or.inl rfl))) (fun _ _ _ _ _ => pts_nil) (fun _ _ _ _ _ => (pe_call G_is_from (hr.mono (by decide)) (by rfl) T.g_is_from T.F_is_from.kp T.b_is_from .nil pass0 (pa_cons (pe_fldB (K := K) rfl (by exact (pv 0)) rfl) (pa_cons (pe_fldB (K := K) rfl (by exact (pv 0)) rfl) (pa_cons (pv 3) pa_nil)))))) pa_nil))) 
      (pss_one (ps_set (i := 4) sc_Range_outcomes.nd rfl (.inl rfl) pe_bl))) (pss_one (ps_asg (pe_call G_range_outcomes (hr.mono (by decide)) (by rfl) T.g_range_outcomes T.F_range_outcomes.kp T.b_range_outcomes .nil pass0 (pa_cons (pe_fld (pv 0) rfl) (pa_cons (pe_fld (pv 0) rfl) (pa_cons (pe_fld (pv 1) rfl) (pa_cons (pe_fld (pv 1) rfl) pa_nil))))) (pg_tup rfl (pgs_cons (pg_name (i := 2) sc_Range_outcomes.nd rfl (.inl rfl)) (pgs_cons (pg_name (i := 4) sc_Range_outcomes.nd rfl (.inl rfl)) pgs_nil)))))) 
      (pss_one (ps_ret (pe_tup (pa_cons (pv 2) (pa_cons (pe_or (pv 4) (pe_one (pe_cmpR op_eq (pe_fld (pv 0) rfl) pe_str (nomark _)))) pa_nil)))))))), ?_⟩
    obtain ⟨dx, g1⟩ := id hp
    cases t with
    | has f =>
      obtain ⟨dc, c1⟩ := id hc
      refine ⟨_, rfl, _, _, _, _, _, rfl, c1, T.cl_Has, T.n_Has_field, lk_Has_field, _, rfl, _, _, _, _, _, rfl, g1, T.cl_Range, T.n_Range_field, lk_Range_field, rfl, _, rfl, ?_⟩
      by_cases e : f = "n"
      rotate_left
      · rw [decide_eq_false (fun z => e (V.str.inj z))]
        exact iteT (q.1 e)
      have q2 := q.2 e
      clear q
      rw [decide_eq_true (congrArg V.str e)]
      refine iteF ?_
      refine ⟨_, rfl, _, _, _, _, _, rfl, g1, T.cl_Range, T.n_Range_lack, lk_Range_lack, rfl, _, rfl, ite2 (fun e2 => ?_) (fun e2 => ?_)⟩
      · have c : k = "all" := V.str.inj (of_decide_eq_true e2)
        refine ⟨_, rfl, _, _, _, _, _, rfl, g1, T.cl_Range, T.n_Range_lack, lk_Range_lack, k, rfl, fun r nr => q2 r _ (same_new nr) ?_⟩
        rw [upd_same]
        first | rfl | (simp only [outP, outF, if_pos c])
      have ck : ¬ k = "all" := fun z => e2 (decide_eq_true (congrArg V.str z))
      refine ⟨_, rfl, _, _, _, _, true, rfl, .own _, .base (.ins c1 T.cl_Has T.ha_Has T.hn0 T.ht0 T.hm_Has), T.kit_Has_Has, true, rfl, iteT ?_⟩
      refine ⟨_, rfl, _, _, _, _, _, rfl, g1, T.cl_Range, T.n_Range_lack, lk_Range_lack, k, rfl, fun r nr => q2 r _ (same_new nr) ?_⟩
      rw [upd_same]
      rfl
    | oneof f ws =>
      obtain ⟨dc, l, c1, c2⟩ := id hc
      refine ⟨_, rfl, _, _, _, _, _, rfl, c1, T.cl_OneOf, T.n_OneOf_field, lk_OneOf_field, _, rfl, _, _, _, _, _, rfl, g1, T.cl_Range, T.n_Range_field, lk_Range_field, rfl, _, rfl, ?_⟩
      by_cases e : f = "n"
      rotate_left
      · rw [decide_eq_false (fun z => e (V.str.inj z))]
        exact iteT (q.1 e)
      have q2 := q.2 e
      clear q
      rw [decide_eq_true (congrArg V.str e)]
      refine iteF ?_
      refine ⟨_, rfl, _, _, _, _, _, rfl, g1, T.cl_Range, T.n_Range_lack, lk_Range_lack, rfl, _, rfl, ite2 (fun e2 => ?_) (fun e2 => ?_)⟩
      · have c : k = "all" := V.str.inj (of_decide_eq_true e2)
        refine ⟨_, rfl, _, _, _, _, _, rfl, g1, T.cl_Range, T.n_Range_lack, lk_Range_lack, k, rfl, fun r nr => q2 r _ (same_new nr) ?_⟩
        rw [upd_same]
        first | rfl | (simp only [outP, outF, if_pos c])
      have ck : ¬ k = "all" := fun z => e2 (decide_eq_true (congrArg V.str z))
      refine ⟨_, rfl, _, _, _, _, false, rfl, .own _, .base (.ins c1 T.cl_OneOf T.ha_OneOf T.hn0 T.ht0 T.hm_OneOf), T.kit_OneOf_Has, false, rfl, iteF ?_⟩
      simp only [outP, outF, if_neg ck] at q2
      have hl2 : ws.length ≤ 1000 := hl
      refine ⟨fun σ H' => Same H H' ∧ ∃ a b : Bool, a = (ws.any fun w => inR lo hi (intV w)) ∧ b = true ∧ ∃ (y3 : Option V), σ = [some (.ref p), some (.ref c), some (.bl a), y3, some (.bl b)], ?_, ?_⟩

      · refine ⟨_, rfl, _, _, _, _, true, rfl, .own _, .base (.ins c1 T.cl_OneOf T.ha_OneOf T.hn0 T.ht0 T.hm_OneOf), T.kit_OneOf_OneOf, true, rfl, iteT ?_⟩
        refine ⟨_, rfl, _, _, _, _, _, rfl, c1, T.cl_OneOf, T.n_OneOf_choices, lk_OneOf_choices, l, rfl, ⟨_, SqT.of c2⟩, fun D hD => ?_⟩
        refine lc_tup (K := K) (a := l) (xs := ws) (fun i H' => Same H H' ∧ H' D = some (.lst (((ws.take i).map (fun w => inR lo hi (intV w))).map V.bl))) ⟨same_new hD, upd_same⟩ (fun i H' _ h => SqT.of (h.1 _ _ c2)) ?_ ?_
        · rintro i v H1 hj ⟨sm, hD1⟩
          have mv := List.mem_of_getElem? hj
          have lt := (List.getElem?_eq_some_iff.mp hj).1
          obtain ⟨i', rfl⟩ := hk e v mv
          have g1' := sm _ _ g1
          refine ⟨rfl, _, rfl, _, _, _, _, _, rfl, g1', T.cl_Range, T.n_Range_low, lk_Range_low, _, rfl, _, _, _, _, _, rfl, g1', T.cl_Range, T.n_Range_high, lk_Range_high, _, rfl, lo, hi, i', rfl, ?_⟩
          refine ⟨_, hD1, ?_, same_set sm hD, ?_⟩
          · rw [List.length_map, List.length_map, List.length_take]
            exact len_le (by omega)
          · rw [upd_same, List.take_add_one, hj, List.map_append, List.map_append]
            rfl
        rintro H1 ⟨sm, hD1⟩
        rw [List.take_length] at hD1

        refine ⟨D, _, rfl, SqL.of hD1, ?_⟩
        rw [any_id]
        exact ⟨sm, _, _, rfl, rfl, _, rfl⟩

      rintro σ H1 ⟨s1, a, b, ea, eb, y3, rfl⟩
      have g1' := s1 _ _ g1
      have fin : ∀ z, z = (b || decide (V.str k = V.str "some")) → ∀ r, H1 r = none → Q (.ref r) (upd H1 r (.tup [.bl a, .bl z])) := fun z hz r nr => by
        refine q2 r _ (s1.trans (same_new nr)) ?_
        rw [upd_same, hz, ea, eb]
        rfl
      refine ⟨_, rfl, _, rfl, _, rfl, ?_⟩
      cases b with
      | true => exact iteT ⟨(by show 2 ≤ sizeLine; decide), fin true rfl⟩
      | false => exact iteF ⟨_, rfl, _, _, _, _, _, rfl, g1', T.cl_Range, T.n_Range_lack, lk_Range_lack, rfl, (by show 2 ≤ sizeLine; decide), fin _ rfl⟩
    | cmp f s v =>
      obtain ⟨dc, c1⟩ := id hc
      refine ⟨_, rfl, _, _, _, _, _, rfl, c1, T.cl_Compare, T.n_Compare_field, lk_Compare_field, _, rfl, _, _, _, _, _, rfl, g1, T.cl_Range, T.n_Range_field, lk_Range_field, rfl, _, rfl, ?_⟩
      by_cases e : f = "n"
      rotate_left
      · rw [decide_eq_false (fun z => e (V.str.inj z))]
        exact iteT (q.1 e)
      have q2 := q.2 e
      clear q
      rw [decide_eq_true (congrArg V.str e)]
      refine iteF ?_
      refine ⟨_, rfl, _, _, _, _, _, rfl, g1, T.cl_Range, T.n_Range_lack, lk_Range_lack, rfl, _, rfl, ite2 (fun e2 => ?_) (fun e2 => ?_)⟩
      · have c : k = "all" := V.str.inj (of_decide_eq_true e2)
        refine ⟨_, rfl, _, _, _, _, _, rfl, g1, T.cl_Range, T.n_Range_lack, lk_Range_lack, k, rfl, fun r nr => q2 r _ (same_new nr) ?_⟩
        rw [upd_same]
        first | rfl | (simp only [outP, outF, if_pos c])
      have ck : ¬ k = "all" := fun z => e2 (decide_eq_true (congrArg V.str z))
      refine ⟨_, rfl, _, _, _, _, false, rfl, .own _, .base (.ins c1 T.cl_Compare T.ha_Compare T.hn0 T.ht0 T.hm_Compare), T.kit_Compare_Has, false, rfl, iteF ?_⟩
      simp only [outP, outF, if_neg ck] at q2
      refine ⟨fun σ H' => Same H H' ∧ ∃ a b : Bool, a = rngP s lo hi (intV v) ∧ b = rngF s lo hi (intV v) ∧ ∃ (y3 : Option V), σ = [some (.ref p), some (.ref c), some (.bl a), y3, some (.bl b)], ?_, ?_⟩

      · refine ⟨_, rfl, _, _, _, _, false, rfl, .own _, .base (.ins c1 T.cl_Compare T.ha_Compare T.hn0 T.ht0 T.hm_Compare), T.kit_Compare_OneOf, false, rfl, iteF ?_⟩
        obtain ⟨i', rfl⟩ := hk e
        exact ⟨_, rfl, _, _, _, _, _, rfl, g1, T.cl_Range, T.n_Range_low, lk_Range_low, _, rfl, _, _, _, _, _, rfl, g1, T.cl_Range, T.n_Range_high, lk_Range_high, _, rfl, _, _, _, _, _, rfl, c1, T.cl_Compare, T.n_Compare_sign, lk_Compare_sign, _, rfl, _, _, _, _, _, rfl, c1, T.cl_Compare, T.n_Compare_value, lk_Compare_value, lo, hi, i', s, rfl, fun tt nt => ⟨tt, _, rfl, .inl (.inl upd_same), rfl, _, _, rfl, _, _, rfl, rfl, same_new nt, _, _, rfl, rfl, _, rfl⟩⟩

      rintro σ H1 ⟨s1, a, b, ea, eb, y3, rfl⟩
      have g1' := s1 _ _ g1
      have fin : ∀ z, z = (b || decide (V.str k = V.str "some")) → ∀ r, H1 r = none → Q (.ref r) (upd H1 r (.tup [.bl a, .bl z])) := fun z hz r nr => by
        refine q2 r _ (s1.trans (same_new nr)) ?_
        rw [upd_same, hz, ea, eb]
      refine ⟨_, rfl, _, rfl, _, rfl, ?_⟩
      cases b with
      | true => exact iteT ⟨(by show 2 ≤ sizeLine; decide), fin true rfl⟩
      | false => exact iteF ⟨_, rfl, _, _, _, _, _, rfl, g1', T.cl_Range, T.n_Range_lack, lk_Range_lack, rfl, (by show 2 ≤ sizeLine; decide), fin _ rfl⟩
def sp_Values_outcomes (T : Txt K mg) : Sp := fun vs H Q _ => ∃ (p c : Addr) (u : Str) (us : List V) (k : Str) (t : LT), vs = [.ref p, .ref c] ∧ (FfAt T H p (.values u us k)) ∧ (CAt T H c t) ∧ (KindOk (.values u us k) t) ∧ (LtOk t) ∧ (us.length ≤ 1000) ∧ (¬ t.field = u → Q .non H) ∧ (t.field = u → ∀ r H', Same H H' → H' r = some (.tup [.bl (outP (.values u us k) t), .bl (outF (.values u us k) t)]) → Q (.ref r) H')
set_option maxHeartbeats 8000000 in
theorem ok_Values_outcomes (T : Txt K mg) : FnOk P w K mg base CX0 5 T.f_Values_outcomes T.d_Values_outcomes ["self", "condition"] (sp_Values_outcomes T) := by
  have G_value_passes : FnOk P w K mg base CX0 4 T.f_value_passes T.d_value_passes ["worth", "condition"] (sp_value_passes T) := ok_value_passes T
  have G_outcomes_of_lack : FnOk P w K mg base CX0 1 T.f_outcomes_of_lack T.d_outcomes_of_lack ["lack"] (sp_outcomes_of_lack T) := ok_outcomes_of_lack T
  refine T.F_Values_outcomes.ok sc_Values_outcomes (fun vs H Q E h => ?_) (fun cdv A outer s H vs Q E hr h => ?_)
  · obtain ⟨p, c, u, us, k, t, rfl, _⟩ := h
    rfl
  · obtain ⟨p, c, u, us, k, t, rfl, hp, hc, hk, hl, h8, q⟩ := h
    refine ⟨_, (pss_cons (ps_if (pt_cmpR op_ne (pe_fld (pv 1) rfl) (pe_fld (pv 0) rfl) (nomark _)) (pss_one (ps_ret pe_non)) pss_nil) 
      (pss_cons (ps_if (PW.pt (pw_or (pt_cmpR op_eq (pe_fld (pv 0) rfl) pe_str (nomark _)) (pw_or1 (pt_val (pe_callB call_isi (by rfl) T.m_isinstance (by decide +kernel) (pa_cons (pv 1) (pa_cons (pe_glob (v := .ref T.c_Has) rfl T.mc_Has rfl) pa_nil))))))) (pss_one (ps_ret (pe_call G_outcomes_of_lack (hr.mono (by decide)) (by rfl) T.g_outcomes_of_lack T.F_outcomes_of_lack.kp T.b_outcomes_of_lack .nil pass0 (pa_cons (pe_fld (pv 0) rfl) pa_nil)))) pss_nil) 
      (pss_cons (ps_setLc (i := 2) (own := [("worth", 3)]) (g := gName 3) rfl sc_Values_outcomes.nd rfl rfl (sw_true rfl rfl rfl (by decide +kernel)) (pi_tup (pe_fld (pv 0) rfl)) (blkOk_by (own := [("worth", 3)]) (N := ["self", "condition", "passed", "worth"]) (sc := defScope s_Values_outcomes) (by decide +kernel)) (fun _ _ _ _ _ => (pg_name (i := 3) sc_Values_outcomes.nd rfl (Or.inl rfl))) (fun _ _ _ _ _ => pts_nil) (fun _ _ _ _ _ => (pe_call G_value_passes (hr.mono (by decide)) (by rfl) T.g_value_passes T.F_value_passes.kp T.b_value_passes .nil pass0 (pa_cons (pv 3) (pa_cons (pv 1) pa_nil))))) 
      (pss_one (ps_ret (pe_tup (pa_cons (pe_cmpR op_in_seq pe_bl (pv 2) rfl) (pa_cons (pe_or (pe_cmpR op_in_seq pe_bl (pv 2) rfl) (pe_one (pe_cmpR op_eq (pe_fld (pv 0) rfl) pe_str (nomark _)))) pa_nil)))))))), ?_⟩
    obtain ⟨dx, tw, g1, g2⟩ := id hp
    cases t with
    | has f =>
      obtain ⟨dc, c1⟩ := id hc
      refine ⟨_, rfl, _, _, _, _, _, rfl, c1, T.cl_Has, T.n_Has_field, lk_Has_field, _, rfl, _, _, _, _, _, rfl, g1, T.cl_Values, T.n_Values_field, lk_Values_field, rfl, _, rfl, ?_⟩
      by_cases e : f = u
      rotate_left
      · rw [decide_eq_false (fun z => e (V.str.inj z))]
        exact iteT (q.1 e)
      have q2 := q.2 e
      clear q
      rw [decide_eq_true (congrArg V.str e)]
      refine iteF ?_
      refine ⟨_, rfl, _, _, _, _, _, rfl, g1, T.cl_Values, T.n_Values_lack, lk_Values_lack, rfl, _, rfl, ite2 (fun e2 => ?_) (fun e2 => ?_)⟩
      · have c : k = "all" := V.str.inj (of_decide_eq_true e2)
        refine ⟨_, rfl, _, _, _, _, _, rfl, g1, T.cl_Values, T.n_Values_lack, lk_Values_lack, k, rfl, fun r nr => q2 r _ (same_new nr) ?_⟩
        rw [upd_same]
        first | rfl | (simp only [outP, outF, if_pos c])
      have ck : ¬ k = "all" := fun z => e2 (decide_eq_true (congrArg V.str z))
      refine ⟨_, rfl, _, _, _, _, true, rfl, .own _, .base (.ins c1 T.cl_Has T.ha_Has T.hn0 T.ht0 T.hm_Has), T.kit_Has_Has, true, rfl, iteT ?_⟩
      refine ⟨_, rfl, _, _, _, _, _, rfl, g1, T.cl_Values, T.n_Values_lack, lk_Values_lack, k, rfl, fun r nr => q2 r _ (same_new nr) ?_⟩
      rw [upd_same]
      rfl
    | oneof f ws =>
      obtain ⟨dc, l, c1, c2⟩ := id hc
      refine ⟨_, rfl, _, _, _, _, _, rfl, c1, T.cl_OneOf, T.n_OneOf_field, lk_OneOf_field, _, rfl, _, _, _, _, _, rfl, g1, T.cl_Values, T.n_Values_field, lk_Values_field, rfl, _, rfl, ?_⟩
      by_cases e : f = u
      rotate_left
      · rw [decide_eq_false (fun z => e (V.str.inj z))]
        exact iteT (q.1 e)
      have q2 := q.2 e
      clear q
      rw [decide_eq_true (congrArg V.str e)]
      refine iteF ?_
      refine ⟨_, rfl, _, _, _, _, _, rfl, g1, T.cl_Values, T.n_Values_lack, lk_Values_lack, rfl, _, rfl, ite2 (fun e2 => ?_) (fun e2 => ?_)⟩
      · have c : k = "all" := V.str.inj (of_decide_eq_true e2)
        refine ⟨_, rfl, _, _, _, _, _, rfl, g1, T.cl_Values, T.n_Values_lack, lk_Values_lack, k, rfl, fun r nr => q2 r _ (same_new nr) ?_⟩
        rw [upd_same]
        first | rfl | (simp only [outP, outF, if_pos c])
      have ck : ¬ k = "all" := fun z => e2 (decide_eq_true (congrArg V.str z))
      refine ⟨_, rfl, _, _, _, _, false, rfl, .own _, .base (.ins c1 T.cl_OneOf T.ha_OneOf T.hn0 T.ht0 T.hm_OneOf), T.kit_OneOf_Has, false, rfl, iteF ?_⟩
      simp only [outP, outF, if_neg ck] at q2

      refine ⟨_, rfl, _, _, _, _, _, rfl, g1, T.cl_Values, T.n_Values_choices, lk_Values_choices, tw, rfl, ⟨_, SqT.of g2⟩, fun D hD => ?_⟩

      refine lc_tup (K := K) (a := tw) (xs := us) (fun i H' => Same H H' ∧ H' D = some (.lst (((us.take i).map (passW (.oneof f ws))).map V.bl))) ⟨same_new hD, upd_same⟩ (fun i H' _ h => SqT.of (h.1 _ _ g2)) ?_ ?_
      · rintro i v H1 hj ⟨sm, hD1⟩
        have mv := List.mem_of_getElem? hj
        have lt := (List.getElem?_eq_some_iff.mp hj).1
        refine ⟨rfl, _, rfl, _, rfl, v, c, (.oneof f ws), rfl, hc.same sm, (fun f z => nomatch z), hl, (fun f2 ws2 z => by cases z; exact hk e v mv), (fun f2 s2 v2 z => nomatch z), fun H2 s2 => ?_⟩
        refine ⟨_, s2 _ _ hD1, ?_, same_set (sm.trans s2) hD, ?_⟩
        · rw [List.length_map, List.length_map, List.length_take]
          exact len_le (by omega)
        · rw [upd_same, List.take_add_one, hj, List.map_append, List.map_append]
          rfl
      rintro H1 ⟨sm, hD1⟩
      rw [List.take_length] at hD1
      have g1' := sm _ _ g1
      have fl : ((us.map (passW (.oneof f ws))).map V.bl).all flatV = true := by simp [flatV]
      have iv : ∀ b : Bool, inV (.bl b) ((us.map (passW (.oneof f ws))).map V.bl) = ((us.map (passW (.oneof f ws))).any fun z => decide (z = b)) := fun b => inV_bl
      refine ⟨_, rfl, D, _, rfl, .inl (SqL.of hD1), rfl, fl, _, rfl, D, _, rfl, .inl (SqL.of hD1), rfl, fl, _, rfl, ?_⟩
      have e1 := iv true
      have e2 := iv false
      have fin : ∀ z, z = (inV (.bl false) ((us.map (passW (.oneof f ws))).map V.bl) || decide (V.str k = V.str "some")) → ∀ r, H1 r = none → Q (.ref r) (upd H1 r (.tup [.bl (inV (.bl true) ((us.map (passW (.oneof f ws))).map V.bl)), .bl z])) := fun z hz r nr => by
        refine q2 r _ (sm.trans (same_new nr)) ?_
        rw [upd_same, hz, e1, e2]
      cases eb : inV (.bl false) ((us.map (passW (.oneof f ws))).map V.bl) with
      | true =>
        rw [eb] at fin
        exact iteT ⟨(by show 2 ≤ sizeLine; decide), fin true rfl⟩
      | false =>
        rw [eb] at fin
        exact iteF ⟨_, rfl, _, _, _, _, _, rfl, g1', T.cl_Values, T.n_Values_lack, lk_Values_lack, rfl, (by show 2 ≤ sizeLine; decide), fin _ rfl⟩
    | cmp f s vv =>
      obtain ⟨dc, c1⟩ := id hc
      refine ⟨_, rfl, _, _, _, _, _, rfl, c1, T.cl_Compare, T.n_Compare_field, lk_Compare_field, _, rfl, _, _, _, _, _, rfl, g1, T.cl_Values, T.n_Values_field, lk_Values_field, rfl, _, rfl, ?_⟩
      by_cases e : f = u
      rotate_left
      · rw [decide_eq_false (fun z => e (V.str.inj z))]
        exact iteT (q.1 e)
      have q2 := q.2 e
      clear q
      rw [decide_eq_true (congrArg V.str e)]
      refine iteF ?_
      refine ⟨_, rfl, _, _, _, _, _, rfl, g1, T.cl_Values, T.n_Values_lack, lk_Values_lack, rfl, _, rfl, ite2 (fun e2 => ?_) (fun e2 => ?_)⟩
      · have c : k = "all" := V.str.inj (of_decide_eq_true e2)
        refine ⟨_, rfl, _, _, _, _, _, rfl, g1, T.cl_Values, T.n_Values_lack, lk_Values_lack, k, rfl, fun r nr => q2 r _ (same_new nr) ?_⟩
        rw [upd_same]
        first | rfl | (simp only [outP, outF, if_pos c])
      have ck : ¬ k = "all" := fun z => e2 (decide_eq_true (congrArg V.str z))
      refine ⟨_, rfl, _, _, _, _, false, rfl, .own _, .base (.ins c1 T.cl_Compare T.ha_Compare T.hn0 T.ht0 T.hm_Compare), T.kit_Compare_Has, false, rfl, iteF ?_⟩
      simp only [outP, outF, if_neg ck] at q2

      refine ⟨_, rfl, _, _, _, _, _, rfl, g1, T.cl_Values, T.n_Values_choices, lk_Values_choices, tw, rfl, ⟨_, SqT.of g2⟩, fun D hD => ?_⟩

      refine lc_tup (K := K) (a := tw) (xs := us) (fun i H' => Same H H' ∧ H' D = some (.lst (((us.take i).map (passW (.cmp f s vv))).map V.bl))) ⟨same_new hD, upd_same⟩ (fun i H' _ h => SqT.of (h.1 _ _ g2)) ?_ ?_
      · rintro i v H1 hj ⟨sm, hD1⟩
        have mv := List.mem_of_getElem? hj
        have lt := (List.getElem?_eq_some_iff.mp hj).1
        refine ⟨rfl, _, rfl, _, rfl, v, c, (.cmp f s vv), rfl, hc.same sm, (fun f z => nomatch z), hl, (fun f2 ws2 z => nomatch z), (fun f2 s2 v2 z => by cases z; exact hk e v mv), fun H2 s2 => ?_⟩
        refine ⟨_, s2 _ _ hD1, ?_, same_set (sm.trans s2) hD, ?_⟩
        · rw [List.length_map, List.length_map, List.length_take]
          exact len_le (by omega)
        · rw [upd_same, List.take_add_one, hj, List.map_append, List.map_append]
          rfl
      rintro H1 ⟨sm, hD1⟩
      rw [List.take_length] at hD1
      have g1' := sm _ _ g1
      have fl : ((us.map (passW (.cmp f s vv))).map V.bl).all flatV = true := by simp [flatV]
      have iv : ∀ b : Bool, inV (.bl b) ((us.map (passW (.cmp f s vv))).map V.bl) = ((us.map (passW (.cmp f s vv))).any fun z => decide (z = b)) := fun b => inV_bl
      refine ⟨_, rfl, D, _, rfl, .inl (SqL.of hD1), rfl, fl, _, rfl, D, _, rfl, .inl (SqL.of hD1), rfl, fl, _, rfl, ?_⟩
      have e1 := iv true
      have e2 := iv false
      have fin : ∀ z, z = (inV (.bl false) ((us.map (passW (.cmp f s vv))).map V.bl) || decide (V.str k = V.str "some")) → ∀ r, H1 r = none → Q (.ref r) (upd H1 r (.tup [.bl (inV (.bl true) ((us.map (passW (.cmp f s vv))).map V.bl)), .bl z])) := fun z hz r nr => by
        refine q2 r _ (sm.trans (same_new nr)) ?_
        rw [upd_same, hz, e1, e2]
      cases eb : inV (.bl false) ((us.map (passW (.cmp f s vv))).map V.bl) with
      | true =>
        rw [eb] at fin
        exact iteT ⟨(by show 2 ≤ sizeLine; decide), fin true rfl⟩
      | false =>
        rw [eb] at fin
        exact iteF ⟨_, rfl, _, _, _, _, _, rfl, g1', T.cl_Values, T.n_Values_lack, lk_Values_lack, rfl, (by show 2 ≤ sizeLine; decide), fin _ rfl⟩
def sp_Has___init__ (T : Txt K mg) : Sp := fun vs H Q _ => ∃ (p dx : Addr) (v_field : V), vs = [.ref p, v_field] ∧ (H p = some (.ins T.c_Has dx [])) ∧ ∀ H', H' p = some (.ins T.c_Has dx (ff_Has v_field)) → (∀ b o, H b = some o → b ≠ p → H' b = some o) → Q .non H'
set_option maxHeartbeats 4000000 in
theorem ok_Has___init__ (T : Txt K mg) : FnOk P w K mg base CX0 1 T.f_Has___init__ T.d_Has___init__ ["self", "field"] (sp_Has___init__ T) := by
  refine T.F_Has___init__.ok sc_Has___init__ (fun vs H Q E h => ?_) (fun cdv A outer s H vs Q E hr h => ?_)
  · obtain ⟨p, dx, v_field, rfl, _⟩ := h
    rfl
  · obtain ⟨p, dx, v_field, rfl, hp, q⟩ := h
    refine ⟨_, (pss_one (ps_fld (pv 0) (pv 1) rfl)), ?_⟩
    have fr0 : ∀ b o, H b = some o → b ≠ p → H b = some o := fun b o e _ => e
    have hp0 := hp
    refine ⟨_, rfl, _, rfl, p, T.c_Has, dx, _, rfl, hp0, T.cl_Has, T.n_Has_field, Nat.lt_of_le_of_lt (Nat.le_refl 0) (by decide), ?_⟩
    have fr1 : ∀ b o, H b = some o → b ≠ p → (upd H p (.ins T.c_Has dx (putF "field" v_field []))) b = some o := fun b o e n => by rw [upd_ne n]; exact fr0 b o e n
    have hp1 : (upd H p (.ins T.c_Has dx (putF "field" v_field []))) p = some (.ins T.c_Has dx (putF "field" v_field [])) := upd_same
    generalize upd H p (.ins T.c_Has dx (putF "field" v_field [])) = H1 at fr1 hp1 ⊢
    exact q H1  hp1  fr1
def sp_Compare___init__ (T : Txt K mg) : Sp := fun vs H Q _ => ∃ (p dx : Addr) (v_field : V) (v_sign : V) (v_value : V), vs = [.ref p, v_field, v_sign, v_value] ∧ (H p = some (.ins T.c_Compare dx [])) ∧ ∀ H', H' p = some (.ins T.c_Compare dx (ff_Compare v_field v_sign v_value)) → (∀ b o, H b = some o → b ≠ p → H' b = some o) → Q .non H'
set_option maxHeartbeats 4000000 in
theorem ok_Compare___init__ (T : Txt K mg) : FnOk P w K mg base CX0 1 T.f_Compare___init__ T.d_Compare___init__ ["self", "field", "sign", "value"] (sp_Compare___init__ T) := by
  refine T.F_Compare___init__.ok sc_Compare___init__ (fun vs H Q E h => ?_) (fun cdv A outer s H vs Q E hr h => ?_)
  · obtain ⟨p, dx, v_field, v_sign, v_value, rfl, _⟩ := h
    rfl
  · obtain ⟨p, dx, v_field, v_sign, v_value, rfl, hp, q⟩ := h
    refine ⟨_, (pss_cons (ps_fld (pv 0) (pv 1) rfl) 
      (pss_cons (ps_fld (pv 0) (pv 2) rfl) 
      (pss_one (ps_fld (pv 0) (pv 3) rfl)))), ?_⟩
    have fr0 : ∀ b o, H b = some o → b ≠ p → H b = some o := fun b o e _ => e
    have hp0 := hp
    refine ⟨_, rfl, _, rfl, p, T.c_Compare, dx, _, rfl, hp0, T.cl_Compare, T.n_Compare_field, Nat.lt_of_le_of_lt (Nat.le_refl 0) (by decide), ?_⟩
    have fr1 : ∀ b o, H b = some o → b ≠ p → (upd H p (.ins T.c_Compare dx (putF "field" v_field []))) b = some o := fun b o e n => by rw [upd_ne n]; exact fr0 b o e n
    have hp1 : (upd H p (.ins T.c_Compare dx (putF "field" v_field []))) p = some (.ins T.c_Compare dx (putF "field" v_field [])) := upd_same
    generalize upd H p (.ins T.c_Compare dx (putF "field" v_field [])) = H1 at fr1 hp1 ⊢
    refine ⟨_, rfl, _, rfl, p, T.c_Compare, dx, _, rfl, hp1, T.cl_Compare, T.n_Compare_sign, Nat.lt_of_le_of_lt (putF_le (Nat.le_refl 0)) (by decide), ?_⟩
    have fr2 : ∀ b o, H b = some o → b ≠ p → (upd H1 p (.ins T.c_Compare dx (putF "sign" v_sign (putF "field" v_field [])))) b = some o := fun b o e n => by rw [upd_ne n]; exact fr1 b o e n
    have hp2 : (upd H1 p (.ins T.c_Compare dx (putF "sign" v_sign (putF "field" v_field [])))) p = some (.ins T.c_Compare dx (putF "sign" v_sign (putF "field" v_field []))) := upd_same
    generalize upd H1 p (.ins T.c_Compare dx (putF "sign" v_sign (putF "field" v_field []))) = H2 at fr2 hp2 ⊢
    refine ⟨_, rfl, _, rfl, p, T.c_Compare, dx, _, rfl, hp2, T.cl_Compare, T.n_Compare_value, Nat.lt_of_le_of_lt (putF_le (putF_le (Nat.le_refl 0))) (by decide), ?_⟩
    have fr3 : ∀ b o, H b = some o → b ≠ p → (upd H2 p (.ins T.c_Compare dx (putF "value" v_value (putF "sign" v_sign (putF "field" v_field []))))) b = some o := fun b o e n => by rw [upd_ne n]; exact fr2 b o e n
    have hp3 : (upd H2 p (.ins T.c_Compare dx (putF "value" v_value (putF "sign" v_sign (putF "field" v_field []))))) p = some (.ins T.c_Compare dx (putF "value" v_value (putF "sign" v_sign (putF "field" v_field [])))) := upd_same
    generalize upd H2 p (.ins T.c_Compare dx (putF "value" v_value (putF "sign" v_sign (putF "field" v_field [])))) = H3 at fr3 hp3 ⊢
    exact q H3  hp3  fr3
def sp_OneOf___init__ (T : Txt K mg) : Sp := fun vs H Q _ => ∃ (p dx : Addr) (v_field : V) (l_choices : Addr) (x_choices : List V), vs = [.ref p, v_field, .ref l_choices] ∧ (H p = some (.ins T.c_OneOf dx [])) ∧ (H l_choices = some (.lst x_choices)) ∧ ∀ t_choices H', H t_choices = none → H' p = some (.ins T.c_OneOf dx (ff_OneOf v_field (.ref t_choices))) → H' t_choices = some (.tup x_choices) → (∀ b o, H b = some o → b ≠ p → H' b = some o) → Q .non H'
set_option maxHeartbeats 4000000 in
theorem ok_OneOf___init__ (T : Txt K mg) : FnOk P w K mg base CX0 1 T.f_OneOf___init__ T.d_OneOf___init__ ["self", "field", "choices"] (sp_OneOf___init__ T) := by
  refine T.F_OneOf___init__.ok sc_OneOf___init__ (fun vs H Q E h => ?_) (fun cdv A outer s H vs Q E hr h => ?_)
  · obtain ⟨p, dx, v_field, l_choices, x_choices, rfl, _⟩ := h
    rfl
  · obtain ⟨p, dx, v_field, l_choices, x_choices, rfl, hp, h_choices, q⟩ := h
    refine ⟨_, (pss_cons (ps_fld (pv 0) (pv 1) rfl) 
      (pss_one (ps_fld (pv 0) (pe_callTy call_tuple_of (by rfl) T.m_tuple (by decide +kernel) (pa_cons (pv 2) pa_nil)) rfl))), ?_⟩
    have fr0 : ∀ b o, H b = some o → b ≠ p → H b = some o := fun b o e _ => e
    have hp0 := hp
    refine ⟨_, rfl, _, rfl, p, T.c_OneOf, dx, _, rfl, hp0, T.cl_OneOf, T.n_OneOf_field, Nat.lt_of_le_of_lt (Nat.le_refl 0) (by decide), ?_⟩
    have fr1 : ∀ b o, H b = some o → b ≠ p → (upd H p (.ins T.c_OneOf dx (putF "field" v_field []))) b = some o := fun b o e n => by rw [upd_ne n]; exact fr0 b o e n
    have hp1 : (upd H p (.ins T.c_OneOf dx (putF "field" v_field []))) p = some (.ins T.c_OneOf dx (putF "field" v_field [])) := upd_same
    generalize upd H p (.ins T.c_OneOf dx (putF "field" v_field [])) = H1 at fr1 hp1 ⊢
    have nl_choices : l_choices ≠ p := fun e => by rw [e, hp] at h_choices; cases h_choices
    refine ⟨_, rfl, l_choices, x_choices, rfl, .inl ⟨SqL.of (fr1 _ _ h_choices nl_choices), fun t_choices nt_choices => ?_⟩⟩
    have np_choices : t_choices ≠ p := fun e => by rw [e, hp1] at nt_choices; cases nt_choices
    have nH_choices : H t_choices = none := by
      cases e : H t_choices with
      | none => rfl
      | some o => rw [fr1 _ _ e np_choices] at nt_choices; cases nt_choices
    refine ⟨_, rfl, p, T.c_OneOf, dx, _, rfl, (by rw [upd_ne np_choices.symm]; exact hp1), T.cl_OneOf, T.n_OneOf_choices, Nat.lt_of_le_of_lt (putF_le (Nat.le_refl 0)) (by decide), ?_⟩
    have fr2 : ∀ b o, H b = some o → b ≠ p → (upd (upd H1 t_choices (.tup x_choices)) p (.ins T.c_OneOf dx (putF "choices" (.ref t_choices) (putF "field" v_field [])))) b = some o := fun b o e n => by rw [upd_ne n, upd_ne (ne_of_none (fr1 b o e n) nt_choices)]; exact fr1 b o e n
    have d2_choices : (upd (upd H1 t_choices (.tup x_choices)) p (.ins T.c_OneOf dx (putF "choices" (.ref t_choices) (putF "field" v_field [])))) t_choices = some (.tup x_choices) := by rw [upd_ne np_choices]; exact upd_same
    have hp2 : (upd (upd H1 t_choices (.tup x_choices)) p (.ins T.c_OneOf dx (putF "choices" (.ref t_choices) (putF "field" v_field [])))) p = some (.ins T.c_OneOf dx (putF "choices" (.ref t_choices) (putF "field" v_field []))) := upd_same
    generalize upd (upd H1 t_choices (.tup x_choices)) p (.ins T.c_OneOf dx (putF "choices" (.ref t_choices) (putF "field" v_field []))) = H2 at fr2 hp2 d2_choices ⊢
    exact q t_choices H2 nH_choices hp2 d2_choices fr2
def sp_Range___init__ (T : Txt K mg) : Sp := fun vs H Q _ => ∃ (p dx : Addr) (v_field : V) (v_low : V) (v_high : V) (v_lack : V), vs = [.ref p, v_field, v_low, v_high, v_lack] ∧ (H p = some (.ins T.c_Range dx [])) ∧ ∀ H', H' p = some (.ins T.c_Range dx (ff_Range v_field v_low v_high v_lack)) → (∀ b o, H b = some o → b ≠ p → H' b = some o) → Q .non H'
set_option maxHeartbeats 4000000 in
theorem ok_Range___init__ (T : Txt K mg) : FnOk P w K mg base CX0 1 T.f_Range___init__ T.d_Range___init__ ["self", "field", "low", "high", "lack"] (sp_Range___init__ T) := by
  refine T.F_Range___init__.ok sc_Range___init__ (fun vs H Q E h => ?_) (fun cdv A outer s H vs Q E hr h => ?_)
  · obtain ⟨p, dx, v_field, v_low, v_high, v_lack, rfl, _⟩ := h
    rfl
  · obtain ⟨p, dx, v_field, v_low, v_high, v_lack, rfl, hp, q⟩ := h
    refine ⟨_, PSs.nox (pss_cons (ps_fld (pv 0) (pv 1) rfl) 
      (pss_cons (ps_fld (pv 0) (pv 2) rfl) 
      (pss_cons (ps_fld (pv 0) (pv 3) rfl) 
      (pss_one (ps_fld (pv 0) (pv 4) rfl))))), ?_⟩
    have fr0 : ∀ b o, H b = some o → b ≠ p → H b = some o := fun b o e _ => e
    have hp0 := hp
    refine ⟨_, rfl, _, rfl, p, T.c_Range, dx, _, rfl, hp0, T.cl_Range, T.n_Range_field, Nat.lt_of_le_of_lt (Nat.le_refl 0) (by decide), ?_⟩
    have fr1 : ∀ b o, H b = some o → b ≠ p → (upd H p (.ins T.c_Range dx (putF "field" v_field []))) b = some o := fun b o e n => by rw [upd_ne n]; exact fr0 b o e n
    have hp1 : (upd H p (.ins T.c_Range dx (putF "field" v_field []))) p = some (.ins T.c_Range dx (putF "field" v_field [])) := upd_same
    generalize upd H p (.ins T.c_Range dx (putF "field" v_field [])) = H1 at fr1 hp1 ⊢
    refine ⟨_, rfl, _, rfl, p, T.c_Range, dx, _, rfl, hp1, T.cl_Range, T.n_Range_low, Nat.lt_of_le_of_lt (putF_le (Nat.le_refl 0)) (by decide), ?_⟩
    have fr2 : ∀ b o, H b = some o → b ≠ p → (upd H1 p (.ins T.c_Range dx (putF "low" v_low (putF "field" v_field [])))) b = some o := fun b o e n => by rw [upd_ne n]; exact fr1 b o e n
    have hp2 : (upd H1 p (.ins T.c_Range dx (putF "low" v_low (putF "field" v_field [])))) p = some (.ins T.c_Range dx (putF "low" v_low (putF "field" v_field []))) := upd_same
    generalize upd H1 p (.ins T.c_Range dx (putF "low" v_low (putF "field" v_field []))) = H2 at fr2 hp2 ⊢
    refine ⟨_, rfl, _, rfl, p, T.c_Range, dx, _, rfl, hp2, T.cl_Range, T.n_Range_high, Nat.lt_of_le_of_lt (putF_le (putF_le (Nat.le_refl 0))) (by decide), ?_⟩
    have fr3 : ∀ b o, H b = some o → b ≠ p → (upd H2 p (.ins T.c_Range dx (putF "high" v_high (putF "low" v_low (putF "field" v_field []))))) b = some o := fun b o e n => by rw [upd_ne n]; exact fr2 b o e n
    have hp3 : (upd H2 p (.ins T.c_Range dx (putF "high" v_high (putF "low" v_low (putF "field" v_field []))))) p = some (.ins T.c_Range dx (putF "high" v_high (putF "low" v_low (putF "field" v_field [])))) := upd_same
    generalize upd H2 p (.ins T.c_Range dx (putF "high" v_high (putF "low" v_low (putF "field" v_field [])))) = H3 at fr3 hp3 ⊢
    refine ⟨_, rfl, _, rfl, p, T.c_Range, dx, _, rfl, hp3, T.cl_Range, T.n_Range_lack, Nat.lt_of_le_of_lt (putF_le (putF_le (putF_le (Nat.le_refl 0)))) (by decide), ?_⟩
    have fr4 : ∀ b o, H b = some o → b ≠ p → (upd H3 p (.ins T.c_Range dx (putF "lack" v_lack (putF "high" v_high (putF "low" v_low (putF "field" v_field [])))))) b = some o := fun b o e n => by rw [upd_ne n]; exact fr3 b o e n
    have hp4 : (upd H3 p (.ins T.c_Range dx (putF "lack" v_lack (putF "high" v_high (putF "low" v_low (putF "field" v_field [])))))) p = some (.ins T.c_Range dx (putF "lack" v_lack (putF "high" v_high (putF "low" v_low (putF "field" v_field []))))) := upd_same
    generalize upd H3 p (.ins T.c_Range dx (putF "lack" v_lack (putF "high" v_high (putF "low" v_low (putF "field" v_field []))))) = H4 at fr4 hp4 ⊢
    exact q H4  hp4  fr4
def sp_Values___init__ (T : Txt K mg) : Sp := fun vs H Q _ => ∃ (p dx : Addr) (v_field : V) (l_choices : Addr) (x_choices : List V) (v_lack : V), vs = [.ref p, v_field, .ref l_choices, v_lack] ∧ (H p = some (.ins T.c_Values dx [])) ∧ (H l_choices = some (.lst x_choices)) ∧ ∀ t_choices H', H t_choices = none → H' p = some (.ins T.c_Values dx (ff_Values v_field (.ref t_choices) v_lack)) → H' t_choices = some (.tup x_choices) → (∀ b o, H b = some o → b ≠ p → H' b = some o) → Q .non H'
set_option maxHeartbeats 4000000 in
theorem ok_Values___init__ (T : Txt K mg) : FnOk P w K mg base CX0 1 T.f_Values___init__ T.d_Values___init__ ["self", "field", "choices", "lack"] (sp_Values___init__ T) := by
  refine T.F_Values___init__.ok sc_Values___init__ (fun vs H Q E h => ?_) (fun cdv A outer s H vs Q E hr h => ?_)
  · obtain ⟨p, dx, v_field, l_choices, x_choices, v_lack, rfl, _⟩ := h
    rfl
  · obtain ⟨p, dx, v_field, l_choices, x_choices, v_lack, rfl, hp, h_choices, q⟩ := h
    refine ⟨_, PSs.nox (pss_cons (ps_fld (pv 0) (pv 1) rfl) 
      (pss_cons (ps_fld (pv 0) (pe_callTy call_tuple_of (by rfl) T.m_tuple (by decide +kernel) (pa_cons (pv 2) pa_nil)) rfl) 
      (pss_one (ps_fld (pv 0) (pv 3) rfl)))), ?_⟩
    have fr0 : ∀ b o, H b = some o → b ≠ p → H b = some o := fun b o e _ => e
    have hp0 := hp
    refine ⟨_, rfl, _, rfl, p, T.c_Values, dx, _, rfl, hp0, T.cl_Values, T.n_Values_field, Nat.lt_of_le_of_lt (Nat.le_refl 0) (by decide), ?_⟩
    have fr1 : ∀ b o, H b = some o → b ≠ p → (upd H p (.ins T.c_Values dx (putF "field" v_field []))) b = some o := fun b o e n => by rw [upd_ne n]; exact fr0 b o e n
    have hp1 : (upd H p (.ins T.c_Values dx (putF "field" v_field []))) p = some (.ins T.c_Values dx (putF "field" v_field [])) := upd_same
    generalize upd H p (.ins T.c_Values dx (putF "field" v_field [])) = H1 at fr1 hp1 ⊢
    have nl_choices : l_choices ≠ p := fun e => by rw [e, hp] at h_choices; cases h_choices
    refine ⟨_, rfl, l_choices, x_choices, rfl, .inl ⟨SqL.of (fr1 _ _ h_choices nl_choices), fun t_choices nt_choices => ?_⟩⟩
    have np_choices : t_choices ≠ p := fun e => by rw [e, hp1] at nt_choices; cases nt_choices
    have nH_choices : H t_choices = none := by
      cases e : H t_choices with
      | none => rfl
      | some o => rw [fr1 _ _ e np_choices] at nt_choices; cases nt_choices
    refine ⟨_, rfl, p, T.c_Values, dx, _, rfl, (by rw [upd_ne np_choices.symm]; exact hp1), T.cl_Values, T.n_Values_choices, Nat.lt_of_le_of_lt (putF_le (Nat.le_refl 0)) (by decide), ?_⟩
    have fr2 : ∀ b o, H b = some o → b ≠ p → (upd (upd H1 t_choices (.tup x_choices)) p (.ins T.c_Values dx (putF "choices" (.ref t_choices) (putF "field" v_field [])))) b = some o := fun b o e n => by rw [upd_ne n, upd_ne (ne_of_none (fr1 b o e n) nt_choices)]; exact fr1 b o e n
    have d2_choices : (upd (upd H1 t_choices (.tup x_choices)) p (.ins T.c_Values dx (putF "choices" (.ref t_choices) (putF "field" v_field [])))) t_choices = some (.tup x_choices) := by rw [upd_ne np_choices]; exact upd_same
    have hp2 : (upd (upd H1 t_choices (.tup x_choices)) p (.ins T.c_Values dx (putF "choices" (.ref t_choices) (putF "field" v_field [])))) p = some (.ins T.c_Values dx (putF "choices" (.ref t_choices) (putF "field" v_field []))) := upd_same
    generalize upd (upd H1 t_choices (.tup x_choices)) p (.ins T.c_Values dx (putF "choices" (.ref t_choices) (putF "field" v_field []))) = H2 at fr2 hp2 d2_choices ⊢
    refine ⟨_, rfl, _, rfl, p, T.c_Values, dx, _, rfl, hp2, T.cl_Values, T.n_Values_lack, Nat.lt_of_le_of_lt (putF_le (putF_le (Nat.le_refl 0))) (by decide), ?_⟩
    have fr3 : ∀ b o, H b = some o → b ≠ p → (upd H2 p (.ins T.c_Values dx (putF "lack" v_lack (putF "choices" (.ref t_choices) (putF "field" v_field []))))) b = some o := fun b o e n => by rw [upd_ne n]; exact fr2 b o e n
    have d3_choices : (upd H2 p (.ins T.c_Values dx (putF "lack" v_lack (putF "choices" (.ref t_choices) (putF "field" v_field []))))) t_choices = some (.tup x_choices) := by rw [upd_ne np_choices]; exact d2_choices
    have hp3 : (upd H2 p (.ins T.c_Values dx (putF "lack" v_lack (putF "choices" (.ref t_choices) (putF "field" v_field []))))) p = some (.ins T.c_Values dx (putF "lack" v_lack (putF "choices" (.ref t_choices) (putF "field" v_field [])))) := upd_same
    generalize upd H2 p (.ins T.c_Values dx (putF "lack" v_lack (putF "choices" (.ref t_choices) (putF "field" v_field [])))) = H3 at fr3 hp3 d3_choices ⊢
    exact q t_choices H3 nH_choices hp3 d3_choices fr3
def sp_law_made (T : Txt K mg) : Sp := fun vs H Q _ => ∃ (st t : Addr) (f : FF), vs = [.ref t] ∧ (FD H st t f) ∧ ∀ (r : Addr) (H' : Hp), Same H H' → FfAt T H' r f → Q (.ref r) H'
set_option maxHeartbeats 8000000 in
theorem ok_law_made (T : Txt K mg) : FnOk P w K mg base CX0 3 T.f_law_made T.d_law_made ["fact"] (sp_law_made T) := by
  have G_Values___init__ : FnOk P w K mg base CX0 1 T.f_Values___init__ T.d_Values___init__ ["self", "field", "choices", "lack"] (sp_Values___init__ T) := ok_Values___init__ T
  have G_Range___init__ : FnOk P w K mg base CX0 1 T.f_Range___init__ T.d_Range___init__ ["self", "field", "low", "high", "lack"] (sp_Range___init__ T) := ok_Range___init__ T
  refine T.F_law_made.ok sc_law_made (fun vs H Q E h => ?_) (fun cdv A outer s H vs Q E hr h => ?_)
  · obtain ⟨st, t, f, rfl, _⟩ := h
    rfl
  · obtain ⟨st, t, f, rfl, hf, q⟩ := h
    refine ⟨_, (pss_cons (ps_if (pt_cmpR op_eq (pe_ix ix_tup (pv 0) pe_int (fun _ _ => rfl)) pe_str (nomark _)) (pss_one ps_dead) pss_nil) 
      (pss_cons (ps_if (pt_cmpR op_eq (pe_ix ix_tup (pv 0) pe_int (fun _ _ => rfl)) pe_str (nomark _)) (pss_one ps_dead) pss_nil) 
      (pss_cons (ps_if (pt_cmpR op_eq (pe_ix ix_tup (pv 0) pe_int (fun _ _ => rfl)) pe_str (nomark _)) (pss_one ps_dead) pss_nil) 
      (pss_cons (ps_if (pt_cmpR op_eq (pe_ix ix_tup (pv 0) pe_int (fun _ _ => rfl)) pe_str (nomark _)) (pss_one ps_dead) pss_nil) 
      (pss_cons (ps_if (pt_cmpR op_eq (pe_ix ix_tup (pv 0) pe_int (fun _ _ => rfl)) pe_str (nomark _)) (pss_one ps_dead) pss_nil) 
      (pss_cons (ps_if (pt_cmpR op_eq (pe_ix ix_tup (pv 0) pe_int (fun _ _ => rfl)) pe_str (nomark _)) (pss_one (ps_ret (pe_makeK T.mk_Range G_Range___init__ (hr.mono (by decide)) (by rfl) T.mc_Range T.kb_Range___init__ pass0 (pa_cons (pe_ix ix_tup (pv 0) pe_int (fun _ _ => rfl)) (pa_cons (pe_ix ix_tup (pv 0) pe_int (fun _ _ => rfl)) (pa_cons (pe_ix ix_tup (pv 0) pe_int (fun _ _ => rfl)) pa_nil))) (pk_cons (pe_ix ix_tup (pv 0) pe_int (fun _ _ => rfl)) pk_nil)))) pss_nil) 
      (pss_cons (ps_if (pt_cmpR op_eq (pe_ix ix_tup (pv 0) pe_int (fun _ _ => rfl)) pe_str (nomark _)) (pss_one (ps_ret (pe_makeK T.mk_Values G_Values___init__ (hr.mono (by decide)) (by rfl) T.mc_Values T.kb_Values___init__ pass0 (pa_cons (pe_ix ix_tup (pv 0) pe_int (fun _ _ => rfl)) (pa_cons (pe_callTy call_list_of (by rfl) T.m_list (by decide +kernel) (pa_cons (pe_ix ix_tup (pv 0) pe_int (fun _ _ => rfl)) pa_nil)) pa_nil)) (pk_cons (pe_ix ix_tup (pv 0) pe_int (fun _ _ => rfl)) pk_nil)))) pss_nil) 
      (pss_cons ps_dead 
      (pss_one ps_dead))))))))), ?_⟩
    cases f with
    | range lo hi k =>
      have hp : H t = some (.tup [.str "range", .str "n", .int lo, .int hi, .str k]) := hf
      refine ⟨_, rfl, _, _, _, _, rfl, rfl, SqT.of hp, at_of (j := 0) rfl rfl, rfl, _, rfl, ite2 (fun e => absurd (of_decide_eq_true e) (by decide +kernel)) (fun _ => ?_)⟩
      refine ⟨_, rfl, _, _, _, _, rfl, rfl, SqT.of hp, at_of (j := 0) rfl rfl, rfl, _, rfl, ite2 (fun e => absurd (of_decide_eq_true e) (by decide +kernel)) (fun _ => ?_)⟩
      refine ⟨_, rfl, _, _, _, _, rfl, rfl, SqT.of hp, at_of (j := 0) rfl rfl, rfl, _, rfl, ite2 (fun e => absurd (of_decide_eq_true e) (by decide +kernel)) (fun _ => ?_)⟩
      refine ⟨_, rfl, _, _, _, _, rfl, rfl, SqT.of hp, at_of (j := 0) rfl rfl, rfl, _, rfl, ite2 (fun e => absurd (of_decide_eq_true e) (by decide +kernel)) (fun _ => ?_)⟩
      refine ⟨_, rfl, _, _, _, _, rfl, rfl, SqT.of hp, at_of (j := 0) rfl rfl, rfl, _, rfl, ite2 (fun e => absurd (of_decide_eq_true e) (by decide +kernel)) (fun _ => ?_)⟩
      refine ⟨_, rfl, _, _, _, _, rfl, rfl, SqT.of hp, at_of (j := 0) rfl rfl, rfl, _, rfl, ite2 (fun _ => ?_) (fun e => absurd (decide_eq_true rfl) e)⟩

      refine ⟨_, rfl, _, _, _, _, rfl, rfl, SqT.of hp, at_of (j := 1) rfl rfl, _, rfl, _, _, _, _, rfl, rfl, SqT.of hp, at_of (j := 2) rfl rfl, _, rfl, _, _, _, _, rfl, rfl, SqT.of hp, at_of (j := 3) rfl rfl, _, rfl, _, _, _, _, rfl, rfl, SqT.of hp, at_of (j := 4) rfl rfl, rfl, rfl, fun x dx nx ndx ndn => ?_⟩
      refine ⟨x, dx, _, _, _, _, rfl, upd_same, fun H3 hx fr => ⟨rfl, ?_⟩⟩
      exact q x H3 ((same_mk (C := T.c_Range) nx ndx).trans' fr nx) ⟨dx, hx⟩

    | values f ws k =>
      obtain ⟨l, nl, hp, gl⟩ := hf
      refine ⟨_, rfl, _, _, _, _, rfl, rfl, SqT.of hp, at_of (j := 0) rfl rfl, rfl, _, rfl, ite2 (fun e => absurd (of_decide_eq_true e) (by decide +kernel)) (fun _ => ?_)⟩
      refine ⟨_, rfl, _, _, _, _, rfl, rfl, SqT.of hp, at_of (j := 0) rfl rfl, rfl, _, rfl, ite2 (fun e => absurd (of_decide_eq_true e) (by decide +kernel)) (fun _ => ?_)⟩
      refine ⟨_, rfl, _, _, _, _, rfl, rfl, SqT.of hp, at_of (j := 0) rfl rfl, rfl, _, rfl, ite2 (fun e => absurd (of_decide_eq_true e) (by decide +kernel)) (fun _ => ?_)⟩
      refine ⟨_, rfl, _, _, _, _, rfl, rfl, SqT.of hp, at_of (j := 0) rfl rfl, rfl, _, rfl, ite2 (fun e => absurd (of_decide_eq_true e) (by decide +kernel)) (fun _ => ?_)⟩
      refine ⟨_, rfl, _, _, _, _, rfl, rfl, SqT.of hp, at_of (j := 0) rfl rfl, rfl, _, rfl, ite2 (fun e => absurd (of_decide_eq_true e) (by decide +kernel)) (fun _ => ?_)⟩
      refine ⟨_, rfl, _, _, _, _, rfl, rfl, SqT.of hp, at_of (j := 0) rfl rfl, rfl, _, rfl, ite2 (fun e => absurd (of_decide_eq_true e) (by decide +kernel)) (fun _ => ?_)⟩
      refine ⟨_, rfl, _, _, _, _, rfl, rfl, SqT.of hp, at_of (j := 0) rfl rfl, rfl, _, rfl, ite2 (fun _ => ?_) (fun e => absurd (decide_eq_true rfl) e)⟩

      refine ⟨_, rfl, _, _, _, _, rfl, rfl, SqT.of hp, at_of (j := 1) rfl rfl, _, rfl, _, _, _, _, rfl, rfl, SqT.of hp, at_of (j := 2) rfl rfl, l, _, rfl, .inl (SqL.of gl), fun l1 hl1 => ?_⟩
      have s1 := same_new (o := .lst ws) hl1
      have hp1 := s1 _ _ hp
      have d1 : (upd H l1 (.lst ws)) l1 = some (.lst ws) := upd_same
      generalize upd H l1 (.lst ws) = H1 at s1 hp1 d1 ⊢
      refine ⟨_, rfl, _, _, _, _, rfl, rfl, SqT.of hp1, at_of (j := 3) rfl rfl, rfl, rfl, fun x dx nx ndx ndn => ?_⟩
      refine ⟨x, dx, _, l1, _, _, rfl, upd_same, same_mk nx ndx _ _ d1, fun t1 H3 k1 hx h1 fr => ⟨rfl, ?_⟩⟩
      exact q x H3 (s1.trans ((same_mk (C := T.c_Values) nx ndx).trans' fr nx)) ⟨dx, t1, hx, h1⟩
def sp_law_built (T : Txt K mg) : Sp := fun vs H Q _ => ∃ (st t : Addr) (u : LT), vs = [.ref t] ∧ (TD H st t u) ∧ ∀ (r : Addr) (H' : Hp), Same H H' → CAt T H' r u → Q (.ref r) H'
set_option maxHeartbeats 8000000 in
theorem ok_law_built (T : Txt K mg) : FnOk P w K mg base CX0 3 T.f_law_built T.d_law_built ["tree"] (sp_law_built T) := by
  have G_OneOf___init__ : FnOk P w K mg base CX0 1 T.f_OneOf___init__ T.d_OneOf___init__ ["self", "field", "choices"] (sp_OneOf___init__ T) := ok_OneOf___init__ T
  have G_Compare___init__ : FnOk P w K mg base CX0 1 T.f_Compare___init__ T.d_Compare___init__ ["self", "field", "sign", "value"] (sp_Compare___init__ T) := ok_Compare___init__ T
  have G_Has___init__ : FnOk P w K mg base CX0 1 T.f_Has___init__ T.d_Has___init__ ["self", "field"] (sp_Has___init__ T) := ok_Has___init__ T
  refine T.F_law_built.ok sc_law_built (fun vs H Q E h => ?_) (fun cdv A outer s H vs Q E hr h => ?_)
  · obtain ⟨st, t, u, rfl, _⟩ := h
    rfl
  · obtain ⟨st, t, u, rfl, hu, q⟩ := h
    refine ⟨_, (pss_cons (ps_if (pt_cmpR op_eq (pe_ix ix_tup (pv 0) pe_int (fun _ _ => rfl)) pe_str (nomark _)) (pss_one ps_dead) pss_nil) 
      (pss_cons (ps_if (pt_cmpR op_eq (pe_ix ix_tup (pv 0) pe_int (fun _ _ => rfl)) pe_str (nomark _)) (pss_one (ps_ret (pe_make T.mk_Has G_Has___init__ (hr.mono (by decide)) (by rfl) T.mc_Has T.b_Has___init__ .nil pass0 (pa_cons (pe_ix ix_tup (pv 0) pe_int (fun _ _ => rfl)) pa_nil)))) pss_nil) 
      (pss_cons (ps_if (pt_cmpR op_eq (pe_ix ix_tup (pv 0) pe_int (fun _ _ => rfl)) pe_str (nomark _)) (pss_one (ps_ret (pe_make T.mk_Compare G_Compare___init__ (hr.mono (by decide)) (by rfl) T.mc_Compare T.b_Compare___init__ .nil pass0 (pa_cons (pe_ix ix_tup (pv 0) pe_int (fun _ _ => rfl)) (pa_cons (pe_ix ix_tup (pv 0) pe_int (fun _ _ => rfl)) (pa_cons (pe_ix ix_tup (pv 0) pe_int (fun _ _ => rfl)) pa_nil)))))) pss_nil) 
      (pss_cons (ps_if (pt_cmpR op_eq (pe_ix ix_tup (pv 0) pe_int (fun _ _ => rfl)) pe_str (nomark _)) (pss_one (ps_ret (pe_make T.mk_OneOf G_OneOf___init__ (hr.mono (by decide)) (by rfl) T.mc_OneOf T.b_OneOf___init__ .nil pass0 (pa_cons (pe_ix ix_tup (pv 0) pe_int (fun _ _ => rfl)) (pa_cons (pe_callTy call_list_of (by rfl) T.m_list (by decide +kernel) (pa_cons (pe_ix ix_tup (pv 0) pe_int (fun _ _ => rfl)) pa_nil)) pa_nil))))) pss_nil) 
      (pss_cons ps_dead 
      (pss_cons ps_dead 
      (pss_one ps_dead))))))), ?_⟩
    cases u with
    | has f =>
      have hp : H t = some (.tup [.str "has", .str f]) := hu
      refine ⟨_, rfl, _, _, _, _, rfl, rfl, SqT.of hp, at_of (j := 0) rfl rfl, rfl, _, rfl, ite2 (fun e => absurd (of_decide_eq_true e) (by decide +kernel)) (fun _ => ?_)⟩
      refine ⟨_, rfl, _, _, _, _, rfl, rfl, SqT.of hp, at_of (j := 0) rfl rfl, rfl, _, rfl, ite2 (fun _ => ?_) (fun e => absurd (decide_eq_true rfl) e)⟩

      refine ⟨_, rfl, _, _, _, _, rfl, rfl, SqT.of hp, at_of (j := 1) rfl rfl, fun x dx nx ndx ndn => ⟨x, dx, _, rfl, upd_same, fun H3 hx fr => ⟨rfl, ?_⟩⟩⟩
      exact q x H3 ((same_mk (C := T.c_Has) nx ndx).trans' fr nx) ⟨dx, hx⟩

    | oneof f ws =>
      obtain ⟨l, nl, hp, gl⟩ := hu
      refine ⟨_, rfl, _, _, _, _, rfl, rfl, SqT.of hp, at_of (j := 0) rfl rfl, rfl, _, rfl, ite2 (fun e => absurd (of_decide_eq_true e) (by decide +kernel)) (fun _ => ?_)⟩
      refine ⟨_, rfl, _, _, _, _, rfl, rfl, SqT.of hp, at_of (j := 0) rfl rfl, rfl, _, rfl, ite2 (fun e => absurd (of_decide_eq_true e) (by decide +kernel)) (fun _ => ?_)⟩
      refine ⟨_, rfl, _, _, _, _, rfl, rfl, SqT.of hp, at_of (j := 0) rfl rfl, rfl, _, rfl, ite2 (fun e => absurd (of_decide_eq_true e) (by decide +kernel)) (fun _ => ?_)⟩
      refine ⟨_, rfl, _, _, _, _, rfl, rfl, SqT.of hp, at_of (j := 0) rfl rfl, rfl, _, rfl, ite2 (fun _ => ?_) (fun e => absurd (decide_eq_true rfl) e)⟩

      refine ⟨_, rfl, _, _, _, _, rfl, rfl, SqT.of hp, at_of (j := 1) rfl rfl, _, rfl, _, _, _, _, rfl, rfl, SqT.of hp, at_of (j := 2) rfl rfl, l, _, rfl, .inl (SqL.of gl), fun l1 hl1 => ?_⟩
      have s1 := same_new (o := .lst ws) hl1
      have d1 : (upd H l1 (.lst ws)) l1 = some (.lst ws) := upd_same
      generalize upd H l1 (.lst ws) = H1 at s1 d1 ⊢
      intro x dx nx ndx ndn
      refine ⟨x, dx, _, l1, _, rfl, upd_same, same_mk nx ndx _ _ d1, fun t1 H3 k1 hx h1 fr => ⟨rfl, ?_⟩⟩
      exact q x H3 (s1.trans ((same_mk (C := T.c_OneOf) nx ndx).trans' fr nx)) ⟨dx, t1, hx, h1⟩

    | cmp f s v =>
      have hp : H t = some (.tup [.str "compare", .str f, .str s, v]) := hu
      refine ⟨_, rfl, _, _, _, _, rfl, rfl, SqT.of hp, at_of (j := 0) rfl rfl, rfl, _, rfl, ite2 (fun e => absurd (of_decide_eq_true e) (by decide +kernel)) (fun _ => ?_)⟩
      refine ⟨_, rfl, _, _, _, _, rfl, rfl, SqT.of hp, at_of (j := 0) rfl rfl, rfl, _, rfl, ite2 (fun e => absurd (of_decide_eq_true e) (by decide +kernel)) (fun _ => ?_)⟩
      refine ⟨_, rfl, _, _, _, _, rfl, rfl, SqT.of hp, at_of (j := 0) rfl rfl, rfl, _, rfl, ite2 (fun _ => ?_) (fun e => absurd (decide_eq_true rfl) e)⟩

      refine ⟨_, rfl, _, _, _, _, rfl, rfl, SqT.of hp, at_of (j := 1) rfl rfl, _, rfl, _, _, _, _, rfl, rfl, SqT.of hp, at_of (j := 2) rfl rfl, _, rfl, _, _, _, _, rfl, rfl, SqT.of hp, at_of (j := 3) rfl rfl, fun x dx nx ndx ndn => ⟨x, dx, _, _, _, rfl, upd_same, fun H3 hx fr => ⟨rfl, ?_⟩⟩⟩
      exact q x H3 ((same_mk (C := T.c_Compare) nx ndx).trans' fr nx) ⟨dx, hx⟩
def sp_law_worth_passes (T : Txt K mg) : Sp := fun vs H Q _ => ∃ (st t : Addr) (u : LT) (w : V), vs = [.ref t, w] ∧ (TD H st t u) ∧ (PassOk u w) ∧ (flatV w = true) ∧ Q (.bl (passW u w)) H
set_option maxHeartbeats 4000000 in
theorem ok_law_worth_passes (T : Txt K mg) : FnOk P w K mg base CX0 2 T.f_law_worth_passes T.d_law_worth_passes ["tree", "worth"] (sp_law_worth_passes T) := by
  have G_law_compares : FnOk P w K mg base CX0 1 T.f_law_compares T.d_law_compares ["sign", "a", "b"] (sp_law_compares T) := ok_law_compares T
  refine T.F_law_worth_passes.ok sc_law_worth_passes (fun vs H Q E h => ?_) (fun cdv A outer s H vs Q E hr h => ?_)
  · obtain ⟨st, t, u, w, rfl, _⟩ := h
    rfl
  · obtain ⟨st, t, u, w, rfl, hu, hk, fw, q⟩ := h
    refine ⟨_, (pss_cons (ps_if (pt_cmpR op_eq (pe_ix ix_tup (pv 0) pe_int (fun _ _ => rfl)) pe_str (nomark _)) (pss_one (ps_ret (pe_cmpR op_in_seq (pv 1) (pe_ix ix_tup (pv 0) pe_int (fun _ _ => rfl)) rfl))) pss_nil) 
      (pss_one (ps_ret (pe_call G_law_compares (hr.mono (by decide)) (by rfl) T.g_law_compares T.F_law_compares.kp T.b_law_compares .nil pass0 (pa_cons (pe_ix ix_tup (pv 0) pe_int (fun _ _ => rfl)) (pa_cons (pv 1) (pa_cons (pe_ix ix_tup (pv 0) pe_int (fun _ _ => rfl)) pa_nil))))))), ?_⟩
    cases u with
    | has f => exact absurd hk id
    | oneof f ws =>
      obtain ⟨l, nl, hp, gl⟩ := hu
      have hk' : ∀ z ∈ ws, SameK w z := hk
      refine ⟨_, rfl, _, _, _, _, rfl, rfl, SqT.of hp, at_of (j := 0) rfl rfl, rfl, _, rfl, ite2 (fun _ => ?_) (fun e => absurd (decide_eq_true rfl) e)⟩

      refine ⟨_, rfl, _, rfl, _, _, _, _, rfl, rfl, SqT.of hp, at_of (j := 2) rfl rfl, l, _, rfl, .inl (SqL.of gl), fw, List.all_eq_true.mpr fun z hz => (hk' z hz).symm.flat, ?_⟩
      show Q (.bl (inV w ws)) H
      rw [inV_same hk']
      exact q

    | cmp f s v =>
      have hp : H t = some (.tup [.str "compare", .str f, .str s, v]) := hu
      refine ⟨_, rfl, _, _, _, _, rfl, rfl, SqT.of hp, at_of (j := 0) rfl rfl, rfl, _, rfl, ite2 (fun e => absurd (of_decide_eq_true e) (by decide +kernel)) (fun _ => ?_)⟩

      exact ⟨_, rfl, _, _, _, _, rfl, rfl, SqT.of hp, at_of (j := 2) rfl rfl, _, rfl, _, rfl, _, _, _, _, rfl, rfl, SqT.of hp, at_of (j := 3) rfl rfl, w, v, s, rfl, hk, q⟩
def sp_law_outcomes (T : Txt K mg) : Sp := fun vs H Q _ => ∃ (st t u : Addr) (ff : FF) (uu : LT), vs = [.ref t, .ref u] ∧ (FD H st t ff) ∧ (TD H st u uu) ∧ (FfWf ff) ∧ (uu.field = ff.field → isHas uu = false → ∀ w ∈ worthsF ff, PassOk uu w) ∧ (¬ uu.field = ff.field → Q .non H) ∧ (uu.field = ff.field → ∀ r H', Same H H' → H' r = some (.tup [.bl (dueP ff uu), .bl (dueF ff uu)]) → Q (.ref r) H')
set_option maxHeartbeats 16000000 in
theorem ok_law_outcomes (T : Txt K mg) : FnOk P w K mg base CX0 3 T.f_law_outcomes T.d_law_outcomes ["fact", "tree"] (sp_law_outcomes T) := by
  have G_law_worth_passes : FnOk P w K mg base CX0 2 T.f_law_worth_passes T.d_law_worth_passes ["tree", "worth"] (sp_law_worth_passes T) := ok_law_worth_passes T
  refine T.F_law_outcomes.ok sc_law_outcomes (fun vs H Q E h => ?_) (fun cdv A outer s H vs Q E hr h => ?_)
  · obtain ⟨st, t, u, ff, uu, rfl, _⟩ := h
    rfl
  · obtain ⟨st, t, u, ff, uu, rfl, hf, hu, wf, po, q⟩ := h
    refine ⟨_, (pss_cons (ps_if (pt_cmpR op_ne (pe_ix ix_tup (pv 1) pe_int (fun _ _ => rfl)) (pe_ix ix_tup (pv 0) pe_int (fun _ _ => rfl)) (nomark _)) (pss_one (ps_ret pe_non)) pss_nil) 
      (pss_cons (ps_set (i := 2) sc_law_outcomes.nd rfl (.inl rfl) (pe_ix ix_tup (pv 0) (pe_op op_sub (pe_callB call_len_seq (by rfl) T.m_len PySem.boot_len (pa_cons (pv 0) pa_nil)) pe_int) (fun _ _ => rfl))) 
      (pss_cons (ps_if (pt_cmpR op_eq (pv 2) pe_str (nomark _)) (pss_one (ps_ret (pe_tup (pa_cons pe_bl (pa_cons pe_bl pa_nil))))) pss_nil) 
      (pss_cons (ps_if (pt_cmpR op_eq (pe_ix ix_tup (pv 1) pe_int (fun _ _ => rfl)) pe_str (nomark _)) (pss_one (ps_ret (pe_tup (pa_cons pe_bl (pa_cons (pe_cmpR op_eq (pv 2) pe_str (nomark _)) pa_nil))))) pss_nil) 
      (pss_cons (ps_set (i := 3) sc_law_outcomes.nd rfl (.inl rfl) (pe_ix ix_tup (pv 0) pe_int (fun _ _ => rfl))) 
      (pss_cut (ps_if (pt_cmpR op_eq (pe_ix ix_tup (pv 0) pe_int (fun _ _ => rfl)) pe_str (nomark _)) (pss_one (ps_set (i := 3) sc_law_outcomes.nd rfl (.inl rfl) (pe_listRg rfl (by rfl) T.m_list (prg_2 (by rfl) T.m_range (pe_ix ix_tup (pv 0) pe_int (fun _ _ => rfl)) (pe_op op_add (pe_ix ix_tup (pv 0) pe_int (fun _ _ => rfl)) pe_int))))) pss_nil) 
      (pss_cons (ps_setLc (i := 4) (own := [("worth", 5)]) (g := gName 5) rfl sc_law_outcomes.nd rfl rfl (sw_true rfl rfl rfl (by decide +kernel)) (pi_list (pv 3)) (blkOk_by (own := [("worth", 5)]) (N := ["fact", "tree", "lack", "worths", "passing", "worth", "failing", "fails"]) (sc := defScope s_law_outcomes) (by decide +kernel)) (fun _ _ _ _ _ => (pg_name (i := 5) sc_law_outcomes.nd rfl (Or.inl rfl))) (fun _ _ _ _ _ => (by exact pts_one (pt_val (pe_call G_law_worth_passes (hr.mono (by decide)) (by rfl) T.g_law_worth_passes T.F_law_worth_passes.kp T.b_law_worth_passes .nil pass0 (pa_cons (pv 1) (pa_cons (pv 5) pa_nil)))))) (fun _ _ _ _ _ => (pv 5))) 
      (pss_cons (ps_setLc (i := 6) (own := [("worth", 5)]) (g := gName 5) rfl sc_law_outcomes.nd rfl rfl (sw_true rfl rfl rfl (by decide +kernel)) (pi_list (pv 3)) (blkOk_by (own := [("worth", 5)]) (N := ["fact", "tree", "lack", "worths", "passing", "worth", "failing", "fails"]) (sc := defScope s_law_outcomes) (by decide +kernel)) (fun _ _ _ _ _ => (pg_name (i := 5) sc_law_outcomes.nd rfl (Or.inl rfl))) (fun _ _ _ _ _ => (by exact pts_one (pt_not (pt_val (pe_call G_law_worth_passes (hr.mono (by decide)) (by rfl) T.g_law_worth_passes T.F_law_worth_passes.kp T.b_law_worth_passes .nil pass0 (pa_cons (pv 1) (pa_cons (pv 5) pa_nil))))))) (fun _ _ _ _ _ => (pv 5))) 
      (pss_cut (ps_set (i := 7) sc_law_outcomes.nd rfl (.inl rfl) (pe_or (pe_cmpR op_gt (pe_callB call_len_seq (by rfl) T.m_len PySem.boot_len (pa_cons (pv 6) pa_nil)) pe_int (nomark _)) (pe_or (pe_cmpR op_eq (pv 2) pe_str (nomark _)) (pe_one (pe_and (pe_cmpR op_eq (pe_ix ix_tup (pv 0) pe_int (fun _ _ => rfl)) pe_str (nomark _)) (pe_one (pe_cmpR op_eq (pe_ix ix_tup (pv 1) pe_int (fun _ _ => rfl)) pe_str (nomark _)))))))) 
      (pss_one (ps_ret (pe_tup (pa_cons (pe_cmpR op_gt (pe_callB call_len_seq (by rfl) T.m_len PySem.boot_len (pa_cons (pv 4) pa_nil)) pe_int (nomark _)) (pa_cons (pv 7) pa_nil)))))))))))))), ?_⟩
    cases ff with
    | range lo hi k =>
      have hp1 : H t = some (.tup [.str "range", .str "n", .int lo, .int hi, .str k]) := hf
      cases uu with
      | has g =>
        have hp2 : H u = some (.tup [.str "has", .str g]) := hu
        refine ⟨_, rfl, _, _, _, _, rfl, rfl, SqT.of hp2, at_of (j := 1) rfl rfl, _, rfl, _, _, _, _, rfl, rfl, SqT.of hp1, at_of (j := 1) rfl rfl, rfl, _, rfl, ?_⟩
        by_cases e : g = "n"
        rotate_left
        · rw [decide_eq_false (fun z => e (V.str.inj z))]
          exact iteT (q.1 e)
        have q2 := q.2 e
        rw [decide_eq_true (congrArg V.str e)]
        refine iteF ?_
        refine ⟨_, rfl, _, rfl, _, _, rfl, .inr (SqT.of hp1), _, _, rfl, rfl, _, _, _, _, rfl, rfl, SqT.of hp1, at_of (j := 4) rfl rfl, ?_⟩
        refine ⟨_, rfl, rfl, _, rfl, ite2 (fun e2 => ?_) (fun e2 => ?_)⟩
        · have c : k = "all" := V.str.inj (of_decide_eq_true e2)
          refine ⟨(by show 2 ≤ sizeLine; decide), fun r nr => q2 r _ (same_new nr) ?_⟩
          rw [upd_same, dueP_all (f := (FF.range lo hi k)) c, dueF_all (f := (FF.range lo hi k)) c]
        have ck : ¬ k = "all" := fun z => e2 (decide_eq_true (congrArg V.str z))
        refine ⟨_, rfl, _, _, _, _, rfl, rfl, SqT.of hp2, at_of (j := 0) rfl rfl, rfl, _, rfl, ite2 (fun _ => ?_) (fun e => absurd (decide_eq_true rfl) e)⟩

        refine ⟨_, rfl, rfl, (by show 2 ≤ sizeLine; decide), fun r nr => q2 r _ (same_new nr) ?_⟩
        rw [upd_same, dueP_has (f := (FF.range lo hi k)) ck, dueF_has (f := (FF.range lo hi k)) ck]
        rfl
      | oneof g zs =>
        obtain ⟨l2, nl2, hp2, gl2⟩ := id hu
        refine ⟨_, rfl, _, _, _, _, rfl, rfl, SqT.of hp2, at_of (j := 1) rfl rfl, _, rfl, _, _, _, _, rfl, rfl, SqT.of hp1, at_of (j := 1) rfl rfl, rfl, _, rfl, ?_⟩
        by_cases e : g = "n"
        rotate_left
        · rw [decide_eq_false (fun z => e (V.str.inj z))]
          exact iteT (q.1 e)
        have q2 := q.2 e
        rw [decide_eq_true (congrArg V.str e)]
        refine iteF ?_
        refine ⟨_, rfl, _, rfl, _, _, rfl, .inr (SqT.of hp1), _, _, rfl, rfl, _, _, _, _, rfl, rfl, SqT.of hp1, at_of (j := 4) rfl rfl, ?_⟩
        refine ⟨_, rfl, rfl, _, rfl, ite2 (fun e2 => ?_) (fun e2 => ?_)⟩
        · have c : k = "all" := V.str.inj (of_decide_eq_true e2)
          refine ⟨(by show 2 ≤ sizeLine; decide), fun r nr => q2 r _ (same_new nr) ?_⟩
          rw [upd_same, dueP_all (f := (FF.range lo hi k)) c, dueF_all (f := (FF.range lo hi k)) c]
        have ck : ¬ k = "all" := fun z => e2 (decide_eq_true (congrArg V.str z))
        refine ⟨_, rfl, _, _, _, _, rfl, rfl, SqT.of hp2, at_of (j := 0) rfl rfl, rfl, _, rfl, ite2 (fun e => absurd (of_decide_eq_true e) (by decide +kernel)) (fun _ => ?_)⟩

        have fl : ∀ w ∈ worthsF (FF.range lo hi k), flatV w = true := fun w hw => by obtain ⟨i, _, rfl⟩ := List.mem_map.mp hw; rfl
        refine ⟨_, rfl, _, _, _, _, rfl, rfl, SqT.of hp1, at_of (j := 2) rfl rfl, ?_⟩
        have po := po e rfl
        refine ⟨fun σ H' => Same H H' ∧ ∃ w : Addr, H' w = some (.lst (worthsF (FF.range lo hi k))) ∧ ∃ (y4 y5 y6 y7 : Option V), σ = [some (.ref t), some (.ref u), some (.str k), some (.ref w), y4, y5, y6, y7], ?_, ?_⟩
        · refine ⟨_, rfl, _, _, _, _, rfl, rfl, SqT.of hp1, at_of (j := 0) rfl rfl, rfl, _, rfl, ite2 (fun _ => ?_) (fun e => absurd (decide_eq_true rfl) e)⟩
          exact ⟨_, rfl, _, _, _, _, rfl, rfl, SqT.of hp1, at_of (j := 2) rfl rfl, _, rfl, _, _, _, _, rfl, rfl, SqT.of hp1, at_of (j := 3) rfl rfl, _, _, rfl, rfl, _, _, rfl, rfl, (by have := wf.2; unfold RgOk; omega), fun w nw => ⟨same_new nw, w, upd_same, _, _, _, _, rfl⟩⟩
        rintro σ H1 ⟨s1, w, hw, y4, y5, y6, y7, rfl⟩
        have ln : (worthsF (FF.range lo hi k)).length ≤ 1000 := by
          show (rgV lo (hi + 1)).length ≤ 1000
          rw [rgV_length]
          have := wf.2
          omega
        have hu1 := hu.same s1
        refine ⟨_, rfl, w, rfl, ⟨_, SqL.of hw⟩, fun D hD => ?_⟩
        refine lc_list (K := K) (a := w) (xs := worthsF (FF.range lo hi k)) (fun i H' => Same H1 H' ∧ H' D = some (.lst (((worthsF (FF.range lo hi k)).take i).filter (passW (LT.oneof g zs))))) ⟨same_new hD, upd_same⟩ (fun i H' _ h => SqL.of (h.1 _ _ hw)) ?_ ?_
        · rintro i v H2 hj ⟨sm, hD2⟩
          have mv := List.mem_of_getElem? hj
          refine ⟨rfl, _, rfl, _, rfl, st, u, (LT.oneof g zs), v, rfl, hu1.same sm, po v mv, fl v mv, _, rfl, ?_⟩
          have sn : ((worthsF (FF.range lo hi k)).take (i + 1)).filter (passW (LT.oneof g zs)) = ((worthsF (FF.range lo hi k)).take i).filter (passW (LT.oneof g zs)) ++ (if passW (LT.oneof g zs) v = true then [v] else []) := by
            rw [List.take_add_one, hj, List.filter_append]
            cases h : passW (LT.oneof g zs) v <;> simp [h]
          have len : (((worthsF (FF.range lo hi k)).take i).filter (passW (LT.oneof g zs))).length < sizeLine := by
            have := List.length_filter_le (passW (LT.oneof g zs)) ((worthsF (FF.range lo hi k)).take i)
            rw [List.length_take] at this
            exact len_le (by omega)
          rw [sn]
          cases e : passW (LT.oneof g zs) v with
          | true => exact iteT ⟨_, rfl, _, hD2, len, same_set sm hD, by rw [upd_same]; rfl⟩
          | false => exact iteF ⟨sm, by rw [hD2]; simp⟩
        rintro H2 ⟨s2, hD2⟩
        rw [List.take_length] at hD2
        have hu2 := hu1.same s2
        have hw2 := s2 _ _ hw
        refine ⟨_, rfl, w, rfl, ⟨_, SqL.of hw2⟩, fun G hG => ?_⟩
        refine lc_list (K := K) (a := w) (xs := worthsF (FF.range lo hi k)) (fun i H' => Same H2 H' ∧ H' G = some (.lst (((worthsF (FF.range lo hi k)).take i).filter (fun z => !passW (LT.oneof g zs) z)))) ⟨same_new hG, upd_same⟩ (fun i H' _ h => SqL.of (h.1 _ _ hw2)) ?_ ?_
        · rintro i v H3 hj ⟨sm, hG3⟩
          have mv := List.mem_of_getElem? hj
          refine ⟨rfl, _, rfl, _, rfl, st, u, (LT.oneof g zs), v, rfl, hu2.same sm, po v mv, fl v mv, _, rfl, ?_⟩
          have sn : ((worthsF (FF.range lo hi k)).take (i + 1)).filter (fun z => !passW (LT.oneof g zs) z) = ((worthsF (FF.range lo hi k)).take i).filter (fun z => !passW (LT.oneof g zs) z) ++ (if passW (LT.oneof g zs) v = true then [] else [v]) := by
            rw [List.take_add_one, hj, List.filter_append]
            cases h : passW (LT.oneof g zs) v <;> simp [h]
          have len : (((worthsF (FF.range lo hi k)).take i).filter (fun z => !passW (LT.oneof g zs) z)).length < sizeLine := by
            have := List.length_filter_le (fun z => !passW (LT.oneof g zs) z) ((worthsF (FF.range lo hi k)).take i)
            rw [List.length_take] at this
            exact len_le (by omega)
          rw [sn]
          cases e : passW (LT.oneof g zs) v with
          | true => exact iteF ⟨sm, by rw [hG3]; simp⟩
          | false => exact iteT ⟨_, rfl, _, hG3, len, same_set sm hG, by rw [upd_same]; rfl⟩
        rintro H3 ⟨s3, hG3⟩
        rw [List.take_length] at hG3
        have hD3 := s3 _ _ hD2
        have h1' := s3 _ _ (s2 _ _ (s1 _ _ hp1))
        have h2' := s3 _ _ (s2 _ _ (s1 _ _ hp2))
        have hu3 := hu2.same s3
        refine ⟨fun σ H' => H' = H3 ∧ ∃ z : Bool, z = (cntZ (worthsF (FF.range lo hi k)) (fun z => !passW (LT.oneof g zs) z) || (decide (V.str k = V.str "some") || (isR (FF.range lo hi k) && isIn (LT.oneof g zs)))) ∧ ∃ (y5 : Option V), σ = [some (.ref t), some (.ref u), some (.str k), some (.ref w), some (.ref D), y5, some (.ref G), some (.bl z)], ?_, ?_⟩
        · refine ⟨_, rfl, G, _, rfl, .inl (SqL.of hG3), _, _, rfl, rfl, _, rfl, ?_⟩
          show _
          unfold cntZ
          by_cases c : (0 : Int) < ((((worthsF (FF.range lo hi k)).filter (fun z => !passW (LT.oneof g zs) z)).length : Nat) : Int)
          · rw [decide_eq_true c]
            exact iteT ⟨rfl, true, rfl, _, rfl⟩
          rw [decide_eq_false c]
          refine iteF ⟨_, rfl, rfl, _, rfl, ?_⟩
          by_cases c2 : V.str k = V.str "some"
          · rw [decide_eq_true c2]
            exact iteT ⟨rfl, true, rfl, _, rfl⟩
          rw [decide_eq_false c2]
          refine iteF ?_
          refine ⟨_, rfl, _, _, _, _, rfl, rfl, SqT.of h1', at_of (j := 0) rfl rfl, rfl, true, congrArg V.bl (decide_eq_true rfl), iteT ⟨_, rfl, _, _, _, _, rfl, rfl, SqT.of h2', at_of (j := 0) rfl rfl, rfl, rfl, _, ?_, _, rfl⟩⟩
          exact (decide_eq_true rfl)
        rintro σ H4 ⟨rfl, z, hz, y5, rfl⟩
        refine ⟨_, rfl, D, _, rfl, .inl (SqL.of hD3), _, _, rfl, rfl, _, rfl, (by show 2 ≤ sizeLine; decide), fun r nr => q2 r _ (((s1.trans s2).trans s3).trans (same_new nr)) ?_⟩
        rw [upd_same, hz, dueP_of (f := (FF.range lo hi k)) ck rfl, dueF_of (f := (FF.range lo hi k)) ck rfl]
        rfl
      | cmp g s vv =>
        have hp2 : H u = some (.tup [.str "compare", .str g, .str s, vv]) := hu
        refine ⟨_, rfl, _, _, _, _, rfl, rfl, SqT.of hp2, at_of (j := 1) rfl rfl, _, rfl, _, _, _, _, rfl, rfl, SqT.of hp1, at_of (j := 1) rfl rfl, rfl, _, rfl, ?_⟩
        by_cases e : g = "n"
        rotate_left
        · rw [decide_eq_false (fun z => e (V.str.inj z))]
          exact iteT (q.1 e)
        have q2 := q.2 e
        rw [decide_eq_true (congrArg V.str e)]
        refine iteF ?_
        refine ⟨_, rfl, _, rfl, _, _, rfl, .inr (SqT.of hp1), _, _, rfl, rfl, _, _, _, _, rfl, rfl, SqT.of hp1, at_of (j := 4) rfl rfl, ?_⟩
        refine ⟨_, rfl, rfl, _, rfl, ite2 (fun e2 => ?_) (fun e2 => ?_)⟩
        · have c : k = "all" := V.str.inj (of_decide_eq_true e2)
          refine ⟨(by show 2 ≤ sizeLine; decide), fun r nr => q2 r _ (same_new nr) ?_⟩
          rw [upd_same, dueP_all (f := (FF.range lo hi k)) c, dueF_all (f := (FF.range lo hi k)) c]
        have ck : ¬ k = "all" := fun z => e2 (decide_eq_true (congrArg V.str z))
        refine ⟨_, rfl, _, _, _, _, rfl, rfl, SqT.of hp2, at_of (j := 0) rfl rfl, rfl, _, rfl, ite2 (fun e => absurd (of_decide_eq_true e) (by decide +kernel)) (fun _ => ?_)⟩

        have fl : ∀ w ∈ worthsF (FF.range lo hi k), flatV w = true := fun w hw => by obtain ⟨i, _, rfl⟩ := List.mem_map.mp hw; rfl
        refine ⟨_, rfl, _, _, _, _, rfl, rfl, SqT.of hp1, at_of (j := 2) rfl rfl, ?_⟩
        have po := po e rfl
        refine ⟨fun σ H' => Same H H' ∧ ∃ w : Addr, H' w = some (.lst (worthsF (FF.range lo hi k))) ∧ ∃ (y4 y5 y6 y7 : Option V), σ = [some (.ref t), some (.ref u), some (.str k), some (.ref w), y4, y5, y6, y7], ?_, ?_⟩
        · refine ⟨_, rfl, _, _, _, _, rfl, rfl, SqT.of hp1, at_of (j := 0) rfl rfl, rfl, _, rfl, ite2 (fun _ => ?_) (fun e => absurd (decide_eq_true rfl) e)⟩
          exact ⟨_, rfl, _, _, _, _, rfl, rfl, SqT.of hp1, at_of (j := 2) rfl rfl, _, rfl, _, _, _, _, rfl, rfl, SqT.of hp1, at_of (j := 3) rfl rfl, _, _, rfl, rfl, _, _, rfl, rfl, (by have := wf.2; unfold RgOk; omega), fun w nw => ⟨same_new nw, w, upd_same, _, _, _, _, rfl⟩⟩
        rintro σ H1 ⟨s1, w, hw, y4, y5, y6, y7, rfl⟩
        have ln : (worthsF (FF.range lo hi k)).length ≤ 1000 := by
          show (rgV lo (hi + 1)).length ≤ 1000
          rw [rgV_length]
          have := wf.2
          omega
        have hu1 := hu.same s1
        refine ⟨_, rfl, w, rfl, ⟨_, SqL.of hw⟩, fun D hD => ?_⟩
        refine lc_list (K := K) (a := w) (xs := worthsF (FF.range lo hi k)) (fun i H' => Same H1 H' ∧ H' D = some (.lst (((worthsF (FF.range lo hi k)).take i).filter (passW (LT.cmp g s vv))))) ⟨same_new hD, upd_same⟩ (fun i H' _ h => SqL.of (h.1 _ _ hw)) ?_ ?_
        · rintro i v H2 hj ⟨sm, hD2⟩
          have mv := List.mem_of_getElem? hj
          refine ⟨rfl, _, rfl, _, rfl, st, u, (LT.cmp g s vv), v, rfl, hu1.same sm, po v mv, fl v mv, _, rfl, ?_⟩
          have sn : ((worthsF (FF.range lo hi k)).take (i + 1)).filter (passW (LT.cmp g s vv)) = ((worthsF (FF.range lo hi k)).take i).filter (passW (LT.cmp g s vv)) ++ (if passW (LT.cmp g s vv) v = true then [v] else []) := by
            rw [List.take_add_one, hj, List.filter_append]
            cases h : passW (LT.cmp g s vv) v <;> simp [h]
          have len : (((worthsF (FF.range lo hi k)).take i).filter (passW (LT.cmp g s vv))).length < sizeLine := by
            have := List.length_filter_le (passW (LT.cmp g s vv)) ((worthsF (FF.range lo hi k)).take i)
            rw [List.length_take] at this
            exact len_le (by omega)
          rw [sn]
          cases e : passW (LT.cmp g s vv) v with
          | true => exact iteT ⟨_, rfl, _, hD2, len, same_set sm hD, by rw [upd_same]; rfl⟩
          | false => exact iteF ⟨sm, by rw [hD2]; simp⟩
        rintro H2 ⟨s2, hD2⟩
        rw [List.take_length] at hD2
        have hu2 := hu1.same s2
        have hw2 := s2 _ _ hw
        refine ⟨_, rfl, w, rfl, ⟨_, SqL.of hw2⟩, fun G hG => ?_⟩
        refine lc_list (K := K) (a := w) (xs := worthsF (FF.range lo hi k)) (fun i H' => Same H2 H' ∧ H' G = some (.lst (((worthsF (FF.range lo hi k)).take i).filter (fun z => !passW (LT.cmp g s vv) z)))) ⟨same_new hG, upd_same⟩ (fun i H' _ h => SqL.of (h.1 _ _ hw2)) ?_ ?_
        · rintro i v H3 hj ⟨sm, hG3⟩
          have mv := List.mem_of_getElem? hj
          refine ⟨rfl, _, rfl, _, rfl, st, u, (LT.cmp g s vv), v, rfl, hu2.same sm, po v mv, fl v mv, _, rfl, ?_⟩
          have sn : ((worthsF (FF.range lo hi k)).take (i + 1)).filter (fun z => !passW (LT.cmp g s vv) z) = ((worthsF (FF.range lo hi k)).take i).filter (fun z => !passW (LT.cmp g s vv) z) ++ (if passW (LT.cmp g s vv) v = true then [] else [v]) := by
            rw [List.take_add_one, hj, List.filter_append]
            cases h : passW (LT.cmp g s vv) v <;> simp [h]
          have len : (((worthsF (FF.range lo hi k)).take i).filter (fun z => !passW (LT.cmp g s vv) z)).length < sizeLine := by
            have := List.length_filter_le (fun z => !passW (LT.cmp g s vv) z) ((worthsF (FF.range lo hi k)).take i)
            rw [List.length_take] at this
            exact len_le (by omega)
          rw [sn]
          cases e : passW (LT.cmp g s vv) v with
          | true => exact iteF ⟨sm, by rw [hG3]; simp⟩
          | false => exact iteT ⟨_, rfl, _, hG3, len, same_set sm hG, by rw [upd_same]; rfl⟩
        rintro H3 ⟨s3, hG3⟩
        rw [List.take_length] at hG3
        have hD3 := s3 _ _ hD2
        have h1' := s3 _ _ (s2 _ _ (s1 _ _ hp1))
        have h2' := s3 _ _ (s2 _ _ (s1 _ _ hp2))
        have hu3 := hu2.same s3
        refine ⟨fun σ H' => H' = H3 ∧ ∃ z : Bool, z = (cntZ (worthsF (FF.range lo hi k)) (fun z => !passW (LT.cmp g s vv) z) || (decide (V.str k = V.str "some") || (isR (FF.range lo hi k) && isIn (LT.cmp g s vv)))) ∧ ∃ (y5 : Option V), σ = [some (.ref t), some (.ref u), some (.str k), some (.ref w), some (.ref D), y5, some (.ref G), some (.bl z)], ?_, ?_⟩
        · refine ⟨_, rfl, G, _, rfl, .inl (SqL.of hG3), _, _, rfl, rfl, _, rfl, ?_⟩
          show _
          unfold cntZ
          by_cases c : (0 : Int) < ((((worthsF (FF.range lo hi k)).filter (fun z => !passW (LT.cmp g s vv) z)).length : Nat) : Int)
          · rw [decide_eq_true c]
            exact iteT ⟨rfl, true, rfl, _, rfl⟩
          rw [decide_eq_false c]
          refine iteF ⟨_, rfl, rfl, _, rfl, ?_⟩
          by_cases c2 : V.str k = V.str "some"
          · rw [decide_eq_true c2]
            exact iteT ⟨rfl, true, rfl, _, rfl⟩
          rw [decide_eq_false c2]
          refine iteF ?_
          refine ⟨_, rfl, _, _, _, _, rfl, rfl, SqT.of h1', at_of (j := 0) rfl rfl, rfl, true, congrArg V.bl (decide_eq_true rfl), iteT ⟨_, rfl, _, _, _, _, rfl, rfl, SqT.of h2', at_of (j := 0) rfl rfl, rfl, rfl, _, ?_, _, rfl⟩⟩
          exact (decide_eq_false (by decide +kernel))
        rintro σ H4 ⟨rfl, z, hz, y5, rfl⟩
        refine ⟨_, rfl, D, _, rfl, .inl (SqL.of hD3), _, _, rfl, rfl, _, rfl, (by show 2 ≤ sizeLine; decide), fun r nr => q2 r _ (((s1.trans s2).trans s3).trans (same_new nr)) ?_⟩
        rw [upd_same, hz, dueP_of (f := (FF.range lo hi k)) ck rfl, dueF_of (f := (FF.range lo hi k)) ck rfl]
        rfl
    | values f us k =>
      obtain ⟨l, nl, hp1, gl⟩ := id hf
      cases uu with
      | has g =>
        have hp2 : H u = some (.tup [.str "has", .str g]) := hu
        refine ⟨_, rfl, _, _, _, _, rfl, rfl, SqT.of hp2, at_of (j := 1) rfl rfl, _, rfl, _, _, _, _, rfl, rfl, SqT.of hp1, at_of (j := 1) rfl rfl, rfl, _, rfl, ?_⟩
        by_cases e : g = f
        rotate_left
        · rw [decide_eq_false (fun z => e (V.str.inj z))]
          exact iteT (q.1 e)
        have q2 := q.2 e
        rw [decide_eq_true (congrArg V.str e)]
        refine iteF ?_
        refine ⟨_, rfl, _, rfl, _, _, rfl, .inr (SqT.of hp1), _, _, rfl, rfl, _, _, _, _, rfl, rfl, SqT.of hp1, at_of (j := 3) rfl rfl, ?_⟩
        refine ⟨_, rfl, rfl, _, rfl, ite2 (fun e2 => ?_) (fun e2 => ?_)⟩
        · have c : k = "all" := V.str.inj (of_decide_eq_true e2)
          refine ⟨(by show 2 ≤ sizeLine; decide), fun r nr => q2 r _ (same_new nr) ?_⟩
          rw [upd_same, dueP_all (f := (FF.values f us k)) c, dueF_all (f := (FF.values f us k)) c]
        have ck : ¬ k = "all" := fun z => e2 (decide_eq_true (congrArg V.str z))
        refine ⟨_, rfl, _, _, _, _, rfl, rfl, SqT.of hp2, at_of (j := 0) rfl rfl, rfl, _, rfl, ite2 (fun _ => ?_) (fun e => absurd (decide_eq_true rfl) e)⟩

        refine ⟨_, rfl, rfl, (by show 2 ≤ sizeLine; decide), fun r nr => q2 r _ (same_new nr) ?_⟩
        rw [upd_same, dueP_has (f := (FF.values f us k)) ck, dueF_has (f := (FF.values f us k)) ck]
        rfl
      | oneof g zs =>
        obtain ⟨l2, nl2, hp2, gl2⟩ := id hu
        refine ⟨_, rfl, _, _, _, _, rfl, rfl, SqT.of hp2, at_of (j := 1) rfl rfl, _, rfl, _, _, _, _, rfl, rfl, SqT.of hp1, at_of (j := 1) rfl rfl, rfl, _, rfl, ?_⟩
        by_cases e : g = f
        rotate_left
        · rw [decide_eq_false (fun z => e (V.str.inj z))]
          exact iteT (q.1 e)
        have q2 := q.2 e
        rw [decide_eq_true (congrArg V.str e)]
        refine iteF ?_
        refine ⟨_, rfl, _, rfl, _, _, rfl, .inr (SqT.of hp1), _, _, rfl, rfl, _, _, _, _, rfl, rfl, SqT.of hp1, at_of (j := 3) rfl rfl, ?_⟩
        refine ⟨_, rfl, rfl, _, rfl, ite2 (fun e2 => ?_) (fun e2 => ?_)⟩
        · have c : k = "all" := V.str.inj (of_decide_eq_true e2)
          refine ⟨(by show 2 ≤ sizeLine; decide), fun r nr => q2 r _ (same_new nr) ?_⟩
          rw [upd_same, dueP_all (f := (FF.values f us k)) c, dueF_all (f := (FF.values f us k)) c]
        have ck : ¬ k = "all" := fun z => e2 (decide_eq_true (congrArg V.str z))
        refine ⟨_, rfl, _, _, _, _, rfl, rfl, SqT.of hp2, at_of (j := 0) rfl rfl, rfl, _, rfl, ite2 (fun e => absurd (of_decide_eq_true e) (by decide +kernel)) (fun _ => ?_)⟩

        have fl : ∀ w ∈ worthsF (FF.values f us k), flatV w = true := fun w hw => by
          rcases wf.2.2 with ⟨_, h⟩ | ⟨_, h⟩
          · obtain ⟨x, rfl⟩ := h w hw; rfl
          · obtain ⟨x, rfl⟩ := h w hw; rfl
        refine ⟨_, rfl, _, _, _, _, rfl, rfl, SqT.of hp1, at_of (j := 2) rfl rfl, ?_⟩
        have po := po e rfl
        refine ⟨fun σ H' => Same H H' ∧ ∃ w : Addr, H' w = some (.lst (worthsF (FF.values f us k))) ∧ ∃ (y4 y5 y6 y7 : Option V), σ = [some (.ref t), some (.ref u), some (.str k), some (.ref w), y4, y5, y6, y7], ?_, ?_⟩
        · refine ⟨_, rfl, _, _, _, _, rfl, rfl, SqT.of hp1, at_of (j := 0) rfl rfl, rfl, _, rfl, ite2 (fun e => absurd (of_decide_eq_true e) (by decide +kernel)) (fun _ => ?_)⟩
          exact ⟨Same.refl _, l, gl, _, _, _, _, rfl⟩
        rintro σ H1 ⟨s1, w, hw, y4, y5, y6, y7, rfl⟩
        have ln : (worthsF (FF.values f us k)).length ≤ 1000 := by
          have := wf.2.1
          show us.length ≤ 1000
          omega
        have hu1 := hu.same s1
        refine ⟨_, rfl, w, rfl, ⟨_, SqL.of hw⟩, fun D hD => ?_⟩
        refine lc_list (K := K) (a := w) (xs := worthsF (FF.values f us k)) (fun i H' => Same H1 H' ∧ H' D = some (.lst (((worthsF (FF.values f us k)).take i).filter (passW (LT.oneof g zs))))) ⟨same_new hD, upd_same⟩ (fun i H' _ h => SqL.of (h.1 _ _ hw)) ?_ ?_
        · rintro i v H2 hj ⟨sm, hD2⟩
          have mv := List.mem_of_getElem? hj
          refine ⟨rfl, _, rfl, _, rfl, st, u, (LT.oneof g zs), v, rfl, hu1.same sm, po v mv, fl v mv, _, rfl, ?_⟩
          have sn : ((worthsF (FF.values f us k)).take (i + 1)).filter (passW (LT.oneof g zs)) = ((worthsF (FF.values f us k)).take i).filter (passW (LT.oneof g zs)) ++ (if passW (LT.oneof g zs) v = true then [v] else []) := by
            rw [List.take_add_one, hj, List.filter_append]
            cases h : passW (LT.oneof g zs) v <;> simp [h]
          have len : (((worthsF (FF.values f us k)).take i).filter (passW (LT.oneof g zs))).length < sizeLine := by
            have := List.length_filter_le (passW (LT.oneof g zs)) ((worthsF (FF.values f us k)).take i)
            rw [List.length_take] at this
            exact len_le (by omega)
          rw [sn]
          cases e : passW (LT.oneof g zs) v with
          | true => exact iteT ⟨_, rfl, _, hD2, len, same_set sm hD, by rw [upd_same]; rfl⟩
          | false => exact iteF ⟨sm, by rw [hD2]; simp⟩
        rintro H2 ⟨s2, hD2⟩
        rw [List.take_length] at hD2
        have hu2 := hu1.same s2
        have hw2 := s2 _ _ hw
        refine ⟨_, rfl, w, rfl, ⟨_, SqL.of hw2⟩, fun G hG => ?_⟩
        refine lc_list (K := K) (a := w) (xs := worthsF (FF.values f us k)) (fun i H' => Same H2 H' ∧ H' G = some (.lst (((worthsF (FF.values f us k)).take i).filter (fun z => !passW (LT.oneof g zs) z)))) ⟨same_new hG, upd_same⟩ (fun i H' _ h => SqL.of (h.1 _ _ hw2)) ?_ ?_
        · rintro i v H3 hj ⟨sm, hG3⟩
          have mv := List.mem_of_getElem? hj
          refine ⟨rfl, _, rfl, _, rfl, st, u, (LT.oneof g zs), v, rfl, hu2.same sm, po v mv, fl v mv, _, rfl, ?_⟩
          have sn : ((worthsF (FF.values f us k)).take (i + 1)).filter (fun z => !passW (LT.oneof g zs) z) = ((worthsF (FF.values f us k)).take i).filter (fun z => !passW (LT.oneof g zs) z) ++ (if passW (LT.oneof g zs) v = true then [] else [v]) := by
            rw [List.take_add_one, hj, List.filter_append]
            cases h : passW (LT.oneof g zs) v <;> simp [h]
          have len : (((worthsF (FF.values f us k)).take i).filter (fun z => !passW (LT.oneof g zs) z)).length < sizeLine := by
            have := List.length_filter_le (fun z => !passW (LT.oneof g zs) z) ((worthsF (FF.values f us k)).take i)
            rw [List.length_take] at this
            exact len_le (by omega)
          rw [sn]
          cases e : passW (LT.oneof g zs) v with
          | true => exact iteF ⟨sm, by rw [hG3]; simp⟩
          | false => exact iteT ⟨_, rfl, _, hG3, len, same_set sm hG, by rw [upd_same]; rfl⟩
        rintro H3 ⟨s3, hG3⟩
        rw [List.take_length] at hG3
        have hD3 := s3 _ _ hD2
        have h1' := s3 _ _ (s2 _ _ (s1 _ _ hp1))
        have h2' := s3 _ _ (s2 _ _ (s1 _ _ hp2))
        have hu3 := hu2.same s3
        refine ⟨fun σ H' => H' = H3 ∧ ∃ z : Bool, z = (cntZ (worthsF (FF.values f us k)) (fun z => !passW (LT.oneof g zs) z) || (decide (V.str k = V.str "some") || (isR (FF.values f us k) && isIn (LT.oneof g zs)))) ∧ ∃ (y5 : Option V), σ = [some (.ref t), some (.ref u), some (.str k), some (.ref w), some (.ref D), y5, some (.ref G), some (.bl z)], ?_, ?_⟩
        · refine ⟨_, rfl, G, _, rfl, .inl (SqL.of hG3), _, _, rfl, rfl, _, rfl, ?_⟩
          show _
          unfold cntZ
          by_cases c : (0 : Int) < ((((worthsF (FF.values f us k)).filter (fun z => !passW (LT.oneof g zs) z)).length : Nat) : Int)
          · rw [decide_eq_true c]
            exact iteT ⟨rfl, true, rfl, _, rfl⟩
          rw [decide_eq_false c]
          refine iteF ⟨_, rfl, rfl, _, rfl, ?_⟩
          by_cases c2 : V.str k = V.str "some"
          · rw [decide_eq_true c2]
            exact iteT ⟨rfl, true, rfl, _, rfl⟩
          rw [decide_eq_false c2]
          refine iteF ?_
          refine ⟨_, rfl, _, _, _, _, rfl, rfl, SqT.of h1', at_of (j := 0) rfl rfl, rfl, false, congrArg V.bl (decide_eq_false (by decide +kernel)), iteF ⟨rfl, _, ?_, _, rfl⟩⟩
          first | rfl | exact decide_eq_false (by decide +kernel)
        rintro σ H4 ⟨rfl, z, hz, y5, rfl⟩
        refine ⟨_, rfl, D, _, rfl, .inl (SqL.of hD3), _, _, rfl, rfl, _, rfl, (by show 2 ≤ sizeLine; decide), fun r nr => q2 r _ (((s1.trans s2).trans s3).trans (same_new nr)) ?_⟩
        rw [upd_same, hz, dueP_of (f := (FF.values f us k)) ck rfl, dueF_of (f := (FF.values f us k)) ck rfl]
        rfl
      | cmp g s vv =>
        have hp2 : H u = some (.tup [.str "compare", .str g, .str s, vv]) := hu
        refine ⟨_, rfl, _, _, _, _, rfl, rfl, SqT.of hp2, at_of (j := 1) rfl rfl, _, rfl, _, _, _, _, rfl, rfl, SqT.of hp1, at_of (j := 1) rfl rfl, rfl, _, rfl, ?_⟩
        by_cases e : g = f
        rotate_left
        · rw [decide_eq_false (fun z => e (V.str.inj z))]
          exact iteT (q.1 e)
        have q2 := q.2 e
        rw [decide_eq_true (congrArg V.str e)]
        refine iteF ?_
        refine ⟨_, rfl, _, rfl, _, _, rfl, .inr (SqT.of hp1), _, _, rfl, rfl, _, _, _, _, rfl, rfl, SqT.of hp1, at_of (j := 3) rfl rfl, ?_⟩
        refine ⟨_, rfl, rfl, _, rfl, ite2 (fun e2 => ?_) (fun e2 => ?_)⟩
        · have c : k = "all" := V.str.inj (of_decide_eq_true e2)
          refine ⟨(by show 2 ≤ sizeLine; decide), fun r nr => q2 r _ (same_new nr) ?_⟩
          rw [upd_same, dueP_all (f := (FF.values f us k)) c, dueF_all (f := (FF.values f us k)) c]
        have ck : ¬ k = "all" := fun z => e2 (decide_eq_true (congrArg V.str z))
        refine ⟨_, rfl, _, _, _, _, rfl, rfl, SqT.of hp2, at_of (j := 0) rfl rfl, rfl, _, rfl, ite2 (fun e => absurd (of_decide_eq_true e) (by decide +kernel)) (fun _ => ?_)⟩

        have fl : ∀ w ∈ worthsF (FF.values f us k), flatV w = true := fun w hw => by
          rcases wf.2.2 with ⟨_, h⟩ | ⟨_, h⟩
          · obtain ⟨x, rfl⟩ := h w hw; rfl
          · obtain ⟨x, rfl⟩ := h w hw; rfl
        refine ⟨_, rfl, _, _, _, _, rfl, rfl, SqT.of hp1, at_of (j := 2) rfl rfl, ?_⟩
        have po := po e rfl
        refine ⟨fun σ H' => Same H H' ∧ ∃ w : Addr, H' w = some (.lst (worthsF (FF.values f us k))) ∧ ∃ (y4 y5 y6 y7 : Option V), σ = [some (.ref t), some (.ref u), some (.str k), some (.ref w), y4, y5, y6, y7], ?_, ?_⟩
        · refine ⟨_, rfl, _, _, _, _, rfl, rfl, SqT.of hp1, at_of (j := 0) rfl rfl, rfl, _, rfl, ite2 (fun e => absurd (of_decide_eq_true e) (by decide +kernel)) (fun _ => ?_)⟩
          exact ⟨Same.refl _, l, gl, _, _, _, _, rfl⟩
        rintro σ H1 ⟨s1, w, hw, y4, y5, y6, y7, rfl⟩
        have ln : (worthsF (FF.values f us k)).length ≤ 1000 := by
          have := wf.2.1
          show us.length ≤ 1000
          omega
        have hu1 := hu.same s1
        refine ⟨_, rfl, w, rfl, ⟨_, SqL.of hw⟩, fun D hD => ?_⟩
        refine lc_list (K := K) (a := w) (xs := worthsF (FF.values f us k)) (fun i H' => Same H1 H' ∧ H' D = some (.lst (((worthsF (FF.values f us k)).take i).filter (passW (LT.cmp g s vv))))) ⟨same_new hD, upd_same⟩ (fun i H' _ h => SqL.of (h.1 _ _ hw)) ?_ ?_
        · rintro i v H2 hj ⟨sm, hD2⟩
          have mv := List.mem_of_getElem? hj
          refine ⟨rfl, _, rfl, _, rfl, st, u, (LT.cmp g s vv), v, rfl, hu1.same sm, po v mv, fl v mv, _, rfl, ?_⟩
          have sn : ((worthsF (FF.values f us k)).take (i + 1)).filter (passW (LT.cmp g s vv)) = ((worthsF (FF.values f us k)).take i).filter (passW (LT.cmp g s vv)) ++ (if passW (LT.cmp g s vv) v = true then [v] else []) := by
            rw [List.take_add_one, hj, List.filter_append]
            cases h : passW (LT.cmp g s vv) v <;> simp [h]
          have len : (((worthsF (FF.values f us k)).take i).filter (passW (LT.cmp g s vv))).length < sizeLine := by
            have := List.length_filter_le (passW (LT.cmp g s vv)) ((worthsF (FF.values f us k)).take i)
            rw [List.length_take] at this
            exact len_le (by omega)
          rw [sn]
          cases e : passW (LT.cmp g s vv) v with
          | true => exact iteT ⟨_, rfl, _, hD2, len, same_set sm hD, by rw [upd_same]; rfl⟩
          | false => exact iteF ⟨sm, by rw [hD2]; simp⟩
        rintro H2 ⟨s2, hD2⟩
        rw [List.take_length] at hD2
        have hu2 := hu1.same s2
        have hw2 := s2 _ _ hw
        refine ⟨_, rfl, w, rfl, ⟨_, SqL.of hw2⟩, fun G hG => ?_⟩
        refine lc_list (K := K) (a := w) (xs := worthsF (FF.values f us k)) (fun i H' => Same H2 H' ∧ H' G = some (.lst (((worthsF (FF.values f us k)).take i).filter (fun z => !passW (LT.cmp g s vv) z)))) ⟨same_new hG, upd_same⟩ (fun i H' _ h => SqL.of (h.1 _ _ hw2)) ?_ ?_
        · rintro i v H3 hj ⟨sm, hG3⟩
          have mv := List.mem_of_getElem? hj
          refine ⟨rfl, _, rfl, _, rfl, st, u, (LT.cmp g s vv), v, rfl, hu2.same sm, po v mv, fl v mv, _, rfl, ?_⟩
          have sn : ((worthsF (FF.values f us k)).take (i + 1)).filter (fun z => !passW (LT.cmp g s vv) z) = ((worthsF (FF.values f us k)).take i).filter (fun z => !passW (LT.cmp g s vv) z) ++ (if passW (LT.cmp g s vv) v = true then [] else [v]) := by
            rw [List.take_add_one, hj, List.filter_append]
            cases h : passW (LT.cmp g s vv) v <;> simp [h]
          have len : (((worthsF (FF.values f us k)).take i).filter (fun z => !passW (LT.cmp g s vv) z)).length < sizeLine := by
            have := List.length_filter_le (fun z => !passW (LT.cmp g s vv) z) ((worthsF (FF.values f us k)).take i)
            rw [List.length_take] at this
            exact len_le (by omega)
          rw [sn]
          cases e : passW (LT.cmp g s vv) v with
          | true => exact iteF ⟨sm, by rw [hG3]; simp⟩
          | false => exact iteT ⟨_, rfl, _, hG3, len, same_set sm hG, by rw [upd_same]; rfl⟩
        rintro H3 ⟨s3, hG3⟩
        rw [List.take_length] at hG3
        have hD3 := s3 _ _ hD2
        have h1' := s3 _ _ (s2 _ _ (s1 _ _ hp1))
        have h2' := s3 _ _ (s2 _ _ (s1 _ _ hp2))
        have hu3 := hu2.same s3
        refine ⟨fun σ H' => H' = H3 ∧ ∃ z : Bool, z = (cntZ (worthsF (FF.values f us k)) (fun z => !passW (LT.cmp g s vv) z) || (decide (V.str k = V.str "some") || (isR (FF.values f us k) && isIn (LT.cmp g s vv)))) ∧ ∃ (y5 : Option V), σ = [some (.ref t), some (.ref u), some (.str k), some (.ref w), some (.ref D), y5, some (.ref G), some (.bl z)], ?_, ?_⟩
        · refine ⟨_, rfl, G, _, rfl, .inl (SqL.of hG3), _, _, rfl, rfl, _, rfl, ?_⟩
          show _
          unfold cntZ
          by_cases c : (0 : Int) < ((((worthsF (FF.values f us k)).filter (fun z => !passW (LT.cmp g s vv) z)).length : Nat) : Int)
          · rw [decide_eq_true c]
            exact iteT ⟨rfl, true, rfl, _, rfl⟩
          rw [decide_eq_false c]
          refine iteF ⟨_, rfl, rfl, _, rfl, ?_⟩
          by_cases c2 : V.str k = V.str "some"
          · rw [decide_eq_true c2]
            exact iteT ⟨rfl, true, rfl, _, rfl⟩
          rw [decide_eq_false c2]
          refine iteF ?_
          refine ⟨_, rfl, _, _, _, _, rfl, rfl, SqT.of h1', at_of (j := 0) rfl rfl, rfl, false, congrArg V.bl (decide_eq_false (by decide +kernel)), iteF ⟨rfl, _, ?_, _, rfl⟩⟩
          first | rfl | exact decide_eq_false (by decide +kernel)
        rintro σ H4 ⟨rfl, z, hz, y5, rfl⟩
        refine ⟨_, rfl, D, _, rfl, .inl (SqL.of hD3), _, _, rfl, rfl, _, rfl, (by show 2 ≤ sizeLine; decide), fun r nr => q2 r _ (((s1.trans s2).trans s3).trans (same_new nr)) ?_⟩
        rw [upd_same, hz, dueP_of (f := (FF.values f us k)) ck rfl, dueF_of (f := (FF.values f us k)) ck rfl]
        rfl
def sp_law_field_fact (T : Txt K mg) : Sp := fun vs H Q _ => ∃ (st sc : Addr), vs = [.ref st] ∧ (StAt H st sc) ∧ ∀ (t : Addr) (f : FF) (H' : Hp), FfWf f → t ≠ st → FD H' st t f → StAt H' st sc → Fr st H H' → Q (.ref t) H'
set_option maxHeartbeats 8000000 in
theorem ok_law_field_fact (T : Txt K mg) : FnOk P w K mg base CX0 3 T.f_law_field_fact T.d_law_field_fact ["state"] (sp_law_field_fact T) := by
  have G_law_next : FnOk P w K mg base CX0 2 T.f_law_next T.d_law_next ["state", "many"] (sp_law_next T) := ok_law_next T
  refine T.F_law_field_fact.ok sc_law_field_fact (fun vs H Q E h => ?_) (fun cdv A outer s H vs Q E hr h => ?_)
  · obtain ⟨st, sc, rfl, _⟩ := h
    rfl
  · obtain ⟨st, sc, rfl, hS, q⟩ := h
    refine ⟨_, (pss_cons (ps_set (i := 1) sc_law_field_fact.nd rfl (.inl rfl) (pe_ix ix_list (pe_lst (pa_cons pe_str (pa_cons pe_str (pa_cons pe_str pa_nil)))) (pe_call G_law_next (hr.mono (by decide)) (by rfl) T.g_law_next T.F_law_next.kp T.b_law_next .nil pass0 (pa_cons (pv 0) (pa_cons pe_int pa_nil))) (fun _ _ => rfl))) 
      (pss_cons (ps_if (pt_cmpR op_eq (pe_call G_law_next (hr.mono (by decide)) (by rfl) T.g_law_next T.F_law_next.kp T.b_law_next .nil pass0 (pa_cons (pv 0) (pa_cons pe_int pa_nil))) pe_int (nomark _)) (pss_cons (ps_set (i := 2) sc_law_field_fact.nd rfl (.inl rfl) (pe_op op_sub (pe_call G_law_next (hr.mono (by decide)) (by rfl) T.g_law_next T.F_law_next.kp T.b_law_next .nil pass0 (pa_cons (pv 0) (pa_cons pe_int pa_nil))) pe_int)) 
      (pss_one (ps_ret (pe_tup (pa_cons pe_str (pa_cons pe_str (pa_cons (pv 2) (pa_cons (pe_op op_add (pv 2) (pe_call G_law_next (hr.mono (by decide)) (by rfl) T.g_law_next T.F_law_next.kp T.b_law_next .nil pass0 (pa_cons (pv 0) (pa_cons pe_int pa_nil)))) (pa_cons (pv 1) pa_nil))))))))) pss_nil) 
      (pss_cons (ps_if (pt_cmpR op_eq (pe_call G_law_next (hr.mono (by decide)) (by rfl) T.g_law_next T.F_law_next.kp T.b_law_next .nil pass0 (pa_cons (pv 0) (pa_cons pe_int pa_nil))) pe_int (nomark _)) (pss_one (ps_ret (pe_tup (pa_cons pe_str (pa_cons pe_str (pa_cons (pe_slice sl_list (pe_lst (pa_cons pe_str (pa_cons pe_str (pa_cons pe_str (pa_cons pe_str pa_nil))))) po_none (po_some (pe_call G_law_next (hr.mono (by decide)) (by rfl) T.g_law_next T.F_law_next.kp T.b_law_next .nil pass0 (pa_cons (pv 0) (pa_cons pe_int pa_nil))))) (pa_cons (pv 1) pa_nil))))))) pss_nil) 
      (pss_one (ps_ret (pe_tup (pa_cons pe_str (pa_cons pe_str (pa_cons (pe_slice sl_list (pe_lst (pa_cons pe_bl (pa_cons pe_bl pa_nil))) po_none (po_some (pe_op op_add pe_int (pe_call G_law_next (hr.mono (by decide)) (by rfl) T.g_law_next T.F_law_next.kp T.b_law_next .nil pass0 (pa_cons (pv 0) (pa_cons pe_int pa_nil)))))) (pa_cons (pv 1) pa_nil)))))))))), ?_⟩
    refine ⟨(by show 3 ≤ sizeLine; decide), fun l1 hl1 => ⟨_, rfl, st, sc, 3, rfl, hS.new hl1, by decide, by decide +kernel, fun k H1 k0 k1 hS1 o1 => ?_⟩⟩
    obtain ⟨kk, hk, k3⟩ := pickS (xs := ["nobody", "some", "all"]) k0 k1
    have lk : kk = "nobody" ∨ kk = "some" ∨ kk = "all" := by simpa using k3
    have f1 := (same_fr (st := st) (same_new (o := .lst [V.str "nobody", V.str "some", V.str "all"]) hl1)).trans o1.fr
    refine ⟨l1, _, k, _, rfl, rfl, SqL.of ((o1 l1 (st_new hS hl1)).trans upd_same), hk, ?_⟩
    refine ⟨_, rfl, st, sc, 2, rfl, hS1, by decide, by decide +kernel, fun d H2 d0 d1 hS2 o2 => ⟨rfl, _, rfl, ite2 (fun _ => ?_) (fun _ => ?_)⟩⟩
    · refine ⟨_, rfl, st, sc, 9, rfl, hS2, by decide, by decide +kernel, fun a H3 a0 a1 hS3 o3 => ⟨_, _, rfl, rfl, ?_⟩⟩
      refine ⟨_, rfl, _, rfl, _, rfl, st, sc, 5, rfl, hS3, by decide, by decide +kernel, fun b H4 b0 b1 hS4 o4 => ⟨_, _, rfl, rfl, _, rfl, (by show 5 ≤ sizeLine; decide), fun t ht => ?_⟩⟩
      exact q t (.range (a - 4) (a - 4 + b) kk) _ ⟨lk, by omega, by omega, by omega, by omega⟩ (st_new hS4 ht) upd_same (hS4.new ht) ((f1.trans o2.fr).trans ((o3.fr.trans o4.fr).trans (Fr.new ht)))
    refine ⟨_, rfl, st, sc, 2, rfl, hS2, by decide, by decide +kernel, fun a H3 a0 a1 hS3 o3 => ⟨rfl, _, rfl, ite2 (fun _ => ?_) (fun _ => ?_)⟩⟩
    · refine ⟨(by show 4 ≤ sizeLine; decide), fun l2 hl2 => ⟨_, rfl, st, sc, 5, rfl, hS3.new hl2, by decide, by decide +kernel, fun b H4 b0 b1 hS4 o4 => ?_⟩⟩
      have g2 := (o4 l2 (st_new hS3 hl2)).trans (upd_same (o := .lst [V.str "red", V.str "blue", V.str "ash", V.str ""]) (a := l2) (H := H3))
      refine ⟨_, rfl, l2, _, rfl, SqL.of g2, fun D hD => ⟨_, rfl, (by show 4 ≤ sizeLine; decide), fun t ht => ?_⟩⟩
      have nD : D ≠ st := st_new hS4 hD
      have s5 := same_new (o := .tup [.str "values", .str "t", .ref D, .str kk]) ht
      refine q t (.values "t" (cutV [V.str "red", V.str "blue", V.str "ash", V.str ""] none (some b)) kk) _ ⟨lk, ?_, .inl ⟨rfl, fun w hw => ?_⟩⟩ (st_new (hS4.new hD) ht) ⟨D, nD, upd_same, s5 _ _ upd_same⟩ ((hS4.new hD).new ht) (((f1.trans o2.fr).trans o3.fr).trans (((same_fr (st := st) (same_new (o := .lst [V.str "red", V.str "blue", V.str "ash", V.str ""]) hl2)).trans o4.fr).trans ((Fr.new hD).trans (Fr.new ht))))
      · exact Nat.le_trans (cutV_length _ _ _) (by decide)
      · have := mem_cutV hw
        simp only [List.mem_cons, List.not_mem_nil, or_false] at this
        rcases this with h | h | h | h <;> exact ⟨_, h⟩
    · refine ⟨(by show 2 ≤ sizeLine; decide), fun l2 hl2 => ⟨_, rfl, st, sc, 2, rfl, hS3.new hl2, by decide, by decide +kernel, fun b H4 b0 b1 hS4 o4 => ⟨_, _, rfl, rfl, ?_⟩⟩⟩
      have g2 := (o4 l2 (st_new hS3 hl2)).trans (upd_same (o := .lst [V.bl true, V.bl false]) (a := l2) (H := H3))
      refine ⟨_, rfl, l2, _, rfl, SqL.of g2, fun D hD => ⟨_, rfl, (by show 4 ≤ sizeLine; decide), fun t ht => ?_⟩⟩
      have nD : D ≠ st := st_new hS4 hD
      have s5 := same_new (o := .tup [.str "values", .str "f", .ref D, .str kk]) ht
      refine q t (.values "f" (cutV [V.bl true, V.bl false] none (some (1 + b))) kk) _ ⟨lk, ?_, .inr ⟨rfl, fun w hw => ?_⟩⟩ (st_new (hS4.new hD) ht) ⟨D, nD, upd_same, s5 _ _ upd_same⟩ ((hS4.new hD).new ht) (((f1.trans o2.fr).trans o3.fr).trans (((same_fr (st := st) (same_new (o := .lst [V.bl true, V.bl false]) hl2)).trans o4.fr).trans ((Fr.new hD).trans (Fr.new ht))))
      · exact Nat.le_trans (cutV_length _ _ _) (by decide)
      · have := mem_cutV hw
        simp only [List.mem_cons, List.not_mem_nil, or_false] at this
        rcases this with h | h <;> exact ⟨_, h⟩
def sp_law_leaf (T : Txt K mg) : Sp := fun vs H Q _ => ∃ (st sc : Addr), vs = [.ref st] ∧ (StAt H st sc) ∧ ∀ (t : Addr) (u : LT) (H' : Hp), LtWf u → t ≠ st → TD H' st t u → StAt H' st sc → Fr st H H' → Q (.ref t) H'
set_option maxHeartbeats 8000000 in
theorem ok_law_leaf (T : Txt K mg) : FnOk P w K mg base CX0 3 T.f_law_leaf T.d_law_leaf ["state"] (sp_law_leaf T) := by
  have G_law_next : FnOk P w K mg base CX0 2 T.f_law_next T.d_law_next ["state", "many"] (sp_law_next T) := ok_law_next T
  refine T.F_law_leaf.ok sc_law_leaf (fun vs H Q E h => ?_) (fun cdv A outer s H vs Q E hr h => ?_)
  · obtain ⟨st, sc, rfl, _⟩ := h
    rfl
  · obtain ⟨st, sc, rfl, hS, q⟩ := h
    refine ⟨_, (pss_cons (ps_set (i := 1) sc_law_leaf.nd rfl (.inl rfl) (pe_call G_law_next (hr.mono (by decide)) (by rfl) T.g_law_next T.F_law_next.kp T.b_law_next .nil pass0 (pa_cons (pv 0) (pa_cons pe_int pa_nil)))) 
      (pss_cons (ps_set (i := 2) sc_law_leaf.nd rfl (.inl rfl) (pe_ix ix_list (pe_lst (pa_cons pe_str (pa_cons pe_str (pa_cons pe_str (pa_cons pe_str pa_nil))))) (pe_call G_law_next (hr.mono (by decide)) (by rfl) T.g_law_next T.F_law_next.kp T.b_law_next .nil pass0 (pa_cons (pv 0) (pa_cons pe_int pa_nil))) (fun _ _ => rfl))) 
      (pss_cons (ps_set (i := 3) sc_law_leaf.nd rfl (.inr rfl) (pe_ix ix_list (pe_lst (pa_cons (pe_lst (pa_cons (pe_un un_neg pe_int) (pa_cons (pe_un un_neg pe_int) (pa_cons pe_int (pa_cons pe_int (pa_cons pe_int (pa_cons pe_int pa_nil))))))) (pa_cons (pe_lst (pa_cons pe_str (pa_cons pe_str (pa_cons pe_str (pa_cons pe_str pa_nil))))) (pa_cons (pe_lst (pa_cons pe_bl (pa_cons pe_bl pa_nil))) pa_nil)))) (pe_bm PySem.F.plainAttrs_list PySem.F.slot_list_index PySem.F.type_list_index mt_index (pe_lst (pa_cons pe_str (pa_cons pe_str (pa_cons pe_str pa_nil)))) (pa_cons (pv 2) pa_nil)) (fun _ _ => rfl))) 
      (pss_cons (ps_if (pt_cmpR op_eq (pv 1) pe_int (nomark _)) (pss_one (ps_ret (pe_tup (pa_cons pe_str (pa_cons (pv 2) pa_nil))))) pss_nil) 
      (pss_cons (ps_if (pt_cmpR op_eq (pv 1) pe_int (nomark _)) (pss_one (ps_ret (pe_tup (pa_cons pe_str (pa_cons (pv 2) (pa_cons (pe_lc (own := [("k", 4)]) (g := gName 4) rfl sc_law_leaf.nd (pi_range1 rfl T.m_range (pa_cons (pe_op op_add pe_int (pe_call G_law_next (hr.mono (by decide)) (by rfl) T.g_law_next T.F_law_next.kp T.b_law_next .nil pass0 (pa_cons (pv 0) (pa_cons pe_int pa_nil)))) pa_nil)) (blkOk_by (own := [("k", 4)]) (N := ["state", "kind", "name", "worths", "k"]) (sc := defScope s_law_leaf) (by decide +kernel)) (fun _ _ _ _ _ => (pg_name (i := 4) sc_law_leaf.nd rfl (Or.inl rfl))) (fun _ _ _ _ _ => pts_nil) (fun _ _ _ _ _ => (pe_ix (r := rIxL K) (by exact ix_list) (pv 3) (pe_call G_law_next (hr.mono (by decide)) (by rfl) T.g_law_next T.F_law_next.kp T.b_law_next .nil pass0 (pa_cons (pv 0) (pa_cons (pe_callB (r := rLenB K) (by exact call_len_seq) (by rfl) T.m_len PySem.boot_len (pa_cons (pv 3) pa_nil)) pa_nil))) (fun _ _ => rfl)))) pa_nil)))))) pss_nil) 
      (pss_one (ps_ret (pe_tup (pa_cons pe_str (pa_cons (pv 2) (pa_cons (pe_ix ix_list (pe_lst (pa_cons pe_str (pa_cons pe_str (pa_cons pe_str (pa_cons pe_str (pa_cons pe_str (pa_cons pe_str pa_nil))))))) (pe_call G_law_next (hr.mono (by decide)) (by rfl) T.g_law_next T.F_law_next.kp T.b_law_next .nil pass0 (pa_cons (pv 0) (pa_cons pe_int pa_nil))) (fun _ _ => rfl)) (pa_cons (pe_ix ix_list (pv 3) (pe_call G_law_next (hr.mono (by decide)) (by rfl) T.g_law_next T.F_law_next.kp T.b_law_next .nil pass0 (pa_cons (pv 0) (pa_cons (pe_callB call_len_seq (by rfl) T.m_len PySem.boot_len (pa_cons (pv 3) pa_nil)) pa_nil))) (fun _ _ => rfl)) pa_nil)))))))))))), ?_⟩
    refine ⟨_, rfl, st, sc, 4, rfl, hS, by decide, by decide +kernel, fun kd H1 kd0 kd1 hS1 o1 => ?_⟩
    refine ⟨(by show 4 ≤ sizeLine; decide), fun l1 hl1 => ⟨_, rfl, st, sc, 4, rfl, hS1.new hl1, by decide, by decide +kernel, fun k H2 k0 k1 hS2 o2 => ?_⟩⟩
    obtain ⟨z, hz, z4⟩ := pickS (xs := ["n", "n", "t", "f"]) k0 k1
    obtain ⟨j, ej, ev, ne, cz⟩ := names3 z4
    have f2 := o1.fr.trans ((same_fr (st := st) (same_new (o := .lst [V.str "n", V.str "n", V.str "t", V.str "f"]) hl1)).trans o2.fr)
    refine ⟨l1, _, k, _, rfl, rfl, SqL.of ((o2 l1 (st_new hS1 hl1)).trans upd_same), hz, ?_⟩
    -- the values
    refine ⟨_, rfl, _, rfl, (by show 6 ≤ sizeLine; decide), fun la na => ?_⟩
    dsimp only
    have sa := same_new (o := .lst [V.int (-5), V.int (-1), V.int 0, V.int 2, V.int 5, V.int 9]) na
    have ga : (upd H2 la (.lst [V.int (-5), V.int (-1), V.int 0, V.int 2, V.int 5, V.int 9])) la = some (.lst [V.int (-5), V.int (-1), V.int 0, V.int 2, V.int 5, V.int 9]) := upd_same
    have hSa := hS2.new (o := .lst [V.int (-5), V.int (-1), V.int 0, V.int 2, V.int 5, V.int 9]) na
    generalize upd H2 la (.lst [V.int (-5), V.int (-1), V.int 0, V.int 2, V.int 5, V.int 9]) = Ha at sa ga hSa ⊢
    refine ⟨(by show 4 ≤ sizeLine; decide), fun lb nb => ?_⟩
    have sb := same_new (o := .lst [V.str "", V.str "red", V.str "ash", V.str "zz"]) nb
    have gb : (upd Ha lb (.lst [V.str "", V.str "red", V.str "ash", V.str "zz"])) lb = some (.lst [V.str "", V.str "red", V.str "ash", V.str "zz"]) := upd_same
    have hSb := hSa.new (o := .lst [V.str "", V.str "red", V.str "ash", V.str "zz"]) nb
    generalize upd Ha lb (.lst [V.str "", V.str "red", V.str "ash", V.str "zz"]) = Hb at sb gb hSb ⊢
    refine ⟨(by show 2 ≤ sizeLine; decide), fun lc nc => ?_⟩
    have sc' := same_new (o := .lst [V.bl true, V.bl false]) nc
    have gc : (upd Hb lc (.lst [V.bl true, V.bl false])) lc = some (.lst [V.bl true, V.bl false]) := upd_same
    have hSc := hSb.new (o := .lst [V.bl true, V.bl false]) nc
    generalize upd Hb lc (.lst [V.bl true, V.bl false]) = Hc at sc' gc hSc ⊢
    refine ⟨(by show 3 ≤ sizeLine; decide), fun lo no => ?_⟩
    have so := same_new (o := .lst [.ref la, .ref lb, .ref lc]) no
    have go : (upd Hc lo (.lst [.ref la, .ref lb, .ref lc])) lo = some (.lst [.ref la, .ref lb, .ref lc]) := upd_same
    have hSo := hSc.new (o := .lst [.ref la, .ref lb, .ref lc]) no
    generalize upd Hc lo (.lst [.ref la, .ref lb, .ref lc]) = Ho at so go hSo ⊢
    refine ⟨(by show 3 ≤ sizeLine; decide), fun li ni => ?_⟩
    have si := same_new (o := .lst [V.str "n", V.str "t", V.str "f"]) ni
    have gi : (upd Ho li (.lst [V.str "n", V.str "t", V.str "f"])) li = some (.lst [V.str "n", V.str "t", V.str "f"]) := upd_same
    have hSi := hSo.new (o := .lst [V.str "n", V.str "t", V.str "f"]) ni
    generalize upd Ho li (.lst [V.str "n", V.str "t", V.str "f"]) = Hi at si gi hSi ⊢
    have f3 := f2.trans (same_fr (st := st) ((sa.trans sb).trans ((sc'.trans so).trans si)))
    refine ⟨.inl ⟨rfl, _, SqL.of gi⟩, _, rfl, li, _, _, j, _, rfl, rfl, SqL.of gi, rfl, by decide +kernel, ej, ev, ne, ?_⟩
    obtain ⟨w, ws, ew, hw, w1, w8, ok, nw⟩ : ∃ (w : Addr) (ws : List V), [V.ref la, V.ref lb, V.ref lc][j]? = some (.ref w) ∧ Hi w = some (.lst ws) ∧ 1 ≤ ws.length ∧ ws.length ≤ 6 ∧ (∀ x ∈ ws, OfK z x) ∧ w ≠ st := by
      rcases cz with ⟨rfl, rfl⟩ | ⟨rfl, rfl⟩ | ⟨rfl, rfl⟩
      · refine ⟨la, _, rfl, si _ _ (so _ _ (sc' _ _ (sb _ _ ga))), by decide, by decide, fun x hx => .inl ⟨rfl, ?_⟩, st_new hS2 na⟩
        simp only [List.mem_cons, List.not_mem_nil, or_false] at hx
        rcases hx with h | h | h | h | h | h <;> exact ⟨_, h⟩
      · refine ⟨lb, _, rfl, si _ _ (so _ _ (sc' _ _ gb)), by decide, by decide, fun x hx => .inr (.inl ⟨rfl, ?_⟩), st_new hSa nb⟩
        simp only [List.mem_cons, List.not_mem_nil, or_false] at hx
        rcases hx with h | h | h | h <;> exact ⟨_, h⟩
      · refine ⟨lc, _, rfl, si _ _ (so _ _ gc), by decide, by decide, fun x hx => .inr (.inr ⟨rfl, ?_⟩), st_new hSb nc⟩
        simp only [List.mem_cons, List.not_mem_nil, or_false] at hx
        rcases hx with h | h <;> exact ⟨_, h⟩
    refine ⟨lo, _, (j : Int), _, rfl, rfl, SqL.of (si _ _ go), at_of rfl ew, ?_⟩
    clear ga gb gc go gi sa sb sc' so si hSa hSb hSc hSo na nb nc no ni
    refine ⟨_, rfl, rfl, _, rfl, ite2 (fun _ => ?_) (fun _ => ?_)⟩
    · refine ⟨_, rfl, (by show 2 ≤ sizeLine; decide), fun t ht => ?_⟩
      exact q t (.has z) _ True.intro (st_new hSi ht) upd_same (hSi.new ht) (f3.trans (Fr.new ht))
    refine ⟨_, rfl, rfl, _, rfl, ite2 (fun _ => ?_) (fun _ => ?_)⟩
    · refine ⟨_, rfl, _, rfl, st, sc, 3, rfl, hSi, by decide, by decide +kernel, fun m H4 m0 m1 hS4 o4 => ⟨_, _, rfl, rfl, 1 + m, rfl, by omega, by omega, fun D hD => ?_⟩⟩
      have nD : D ≠ st := st_new hS4 hD
      have hw4 := (o4 w nw).trans hw
      refine lc_range (lo := 0) (n := (1 + m).toNat) (fun i H' => StAt H' st sc ∧ Fr st H4 H' ∧ ∃ zs : List V, zs.length = i ∧ (∀ x ∈ zs, OfK z x) ∧ H' D = some (.lst zs)) ⟨hS4.new hD, Fr.new hD, [], rfl, fun _ h => (nomatch h), upd_same⟩ ?_ ?_
      · rintro i H5 hi ⟨hS5, f5, zs, lz, oz, hD5⟩
        have hw5 := f5 _ _ hw4 nw
        refine ⟨rfl, _, rfl, _, rfl, _, rfl, w, _, rfl, .inl (SqL.of hw5), st, sc, (ws.length : Int), rfl, hS5, by omega, by omega, fun d H6 d0 d1 hS6 o6 => ?_⟩
        obtain ⟨x, hx, mx⟩ := pickV (xs := ws) d0 d1
        refine ⟨w, _, d, _, rfl, rfl, SqL.of ((o6 w nw).trans hw5), hx, zs, (o6 D nD).trans hD5, len_le (by omega), hS6.set hS4 hD, (f5.trans o6.fr).set hD, zs ++ [x], by simp [lz], fun y hy => ?_, upd_same⟩
        rcases List.mem_append.mp hy with h | h
        · exact oz y h
        · rw [List.mem_singleton.mp h]; exact ok x mx
      · rintro H5 ⟨hS5, f5, zs, lz, oz, hD5⟩
        refine ⟨(by show 3 ≤ sizeLine; decide), fun t ht => ?_⟩
        have s7 := same_new (o := .tup [.str "in", .str z, .ref D]) ht
        exact q t (.oneof z zs) _ ⟨by omega, oz⟩ (st_new hS5 ht) ⟨D, nD, upd_same, s7 _ _ hD5⟩ (hS5.new ht) ((f3.trans o4.fr).trans (f5.trans (Fr.new ht)))
    · refine ⟨_, rfl, (by show 6 ≤ sizeLine; decide), fun l3 hl3 => ⟨_, rfl, st, sc, 6, rfl, hSi.new hl3, by decide, by decide +kernel, fun g H4 g0 g1 hS4 o4 => ?_⟩⟩
      obtain ⟨sg, hs, s6⟩ := pickS (xs := ["=", "!=", "<", "<=", ">", ">="]) g0 g1
      refine ⟨l3, _, g, _, rfl, rfl, SqL.of ((o4 l3 (st_new hSi hl3)).trans upd_same), hs, ?_⟩
      have hw4 := (o4 w nw).trans (same_new (o := .lst [V.str "=", V.str "!=", V.str "<", V.str "<=", V.str ">", V.str ">="]) hl3 _ _ hw)
      refine ⟨_, rfl, _, rfl, _, rfl, w, _, rfl, .inl (SqL.of hw4), st, sc, (ws.length : Int), rfl, hS4, by omega, by omega, fun d H6 d0 d1 hS6 o6 => ?_⟩
      obtain ⟨x, hx, mx⟩ := pickV (xs := ws) d0 d1
      refine ⟨w, _, d, _, rfl, rfl, SqL.of ((o6 w nw).trans hw4), hx, (by show 4 ≤ sizeLine; decide), fun t ht => ?_⟩
      exact q t (.cmp z sg x) _ (ok x mx) (st_new hS6 ht) upd_same (hS6.new ht) (f3.trans (((same_fr (st := st) (same_new (o := .lst [V.str "=", V.str "!=", V.str "<", V.str "<=", V.str ">", V.str ">="]) hl3)).trans o4.fr).trans (o6.fr.trans (Fr.new ht))))
def sp_law (K : PySem.W.Frag) : Sp := fun vs H Q _ => ∃ (a : Addr) (ns : List Int), vs = [.ref a] ∧ (SqL K H a (ns.map V.int)) ∧ (ns.length ≤ 63) ∧ ∀ H', Q (.bl true) H'
set_option maxHeartbeats 16000000 in
theorem ok_law (T : Txt K mg) : FnOk P w K mg base CX0 6 T.f_law T.d_law ["script"] (sp_law K) := by
  have G_law_outcomes : FnOk P w K mg base CX0 3 T.f_law_outcomes T.d_law_outcomes ["fact", "tree"] (sp_law_outcomes T) := ok_law_outcomes T
  have G_Range_outcomes : FnOk P w K mg base CX0 3 T.f_Range_outcomes T.d_Range_outcomes ["self", "condition"] (sp_Range_outcomes T) := ok_Range_outcomes T
  have G_law_made : FnOk P w K mg base CX0 3 T.f_law_made T.d_law_made ["fact"] (sp_law_made T) := ok_law_made T
  have G_law_built : FnOk P w K mg base CX0 3 T.f_law_built T.d_law_built ["tree"] (sp_law_built T) := ok_law_built T
  have G_Values_outcomes : FnOk P w K mg base CX0 5 T.f_Values_outcomes T.d_Values_outcomes ["self", "condition"] (sp_Values_outcomes T) := ok_Values_outcomes T
  have G_law_next : FnOk P w K mg base CX0 2 T.f_law_next T.d_law_next ["state", "many"] (sp_law_next T) := ok_law_next T
  have G_law_leaf : FnOk P w K mg base CX0 3 T.f_law_leaf T.d_law_leaf ["state"] (sp_law_leaf T) := ok_law_leaf T
  have G_law_field_fact : FnOk P w K mg base CX0 3 T.f_law_field_fact T.d_law_field_fact ["state"] (sp_law_field_fact T) := ok_law_field_fact T
  refine T.F_law.ok sc_law (fun vs H Q E h => ?_) (fun cdv A outer s H vs Q E hr h => ?_)
  · obtain ⟨a, ns, rfl, _⟩ := h
    rfl
  · obtain ⟨a, ns, rfl, hA, hlen, q⟩ := h
    refine ⟨_, (pss_cons (ps_set (i := 1) sc_law.nd rfl (.inl rfl) (pe_lst (pa_cons (pe_callTy call_list_of (by rfl) T.m_list (by decide +kernel) (pa_cons (pv 0) pa_nil)) (pa_cons pe_int (pa_cons pe_int pa_nil))))) 
      (pss_cons (ps_for PassesOwn.never rfl (pi_range1 rfl T.m_range (pa_cons pe_int pa_nil)) (pg_name (i := 2) sc_law.nd rfl (.inl rfl)) (pss_cons (ps_set (i := 3) sc_law.nd rfl (.inl rfl) (pe_call G_law_field_fact (hr.mono (by decide)) (by rfl) T.g_law_field_fact T.F_law_field_fact.kp T.b_law_field_fact .nil pass0 (pa_cons (pv 1) pa_nil))) 
      (pss_cons (ps_set (i := 4) sc_law.nd rfl (.inl rfl) (pe_call G_law_leaf (hr.mono (by decide)) (by rfl) T.g_law_leaf T.F_law_leaf.kp T.b_law_leaf .nil pass0 (pa_cons (pv 1) pa_nil))) 
      (pss_cut (ps_if (PW.pt (pw_and (pt_cmpR op_gt (pe_call G_law_next (hr.mono (by decide)) (by rfl) T.g_law_next T.F_law_next.kp T.b_law_next .nil pass0 (pa_cons (pv 1) (pa_cons pe_int pa_nil))) pe_int (nomark _)) (pw_and1 (pt_cmpR op_ne (pe_ix ix_tup (pv 4) pe_int (fun _ _ => rfl)) (pe_ix ix_tup (pv 3) pe_int (fun _ _ => rfl)) (nomark _))))) (pss_one (ps_set (i := 4) sc_law.nd rfl (.inl rfl) (pe_tup (pa_cons pe_str (pa_cons (pe_ix ix_tup (pv 3) pe_int (fun _ _ => rfl)) pa_nil))))) pss_nil) 
      (pss_cut (ps_set (i := 5) sc_law.nd rfl (.inl rfl) (pe_or2 (pe_meth (pe_call G_law_made (hr.mono (by decide)) (by rfl) T.g_law_made T.F_law_made.kp T.b_law_made .nil pass0 (pa_cons (pv 3) pa_nil)) T.cl_Range T.me_Range_outcomes G_Range_outcomes (hr.mono (by decide)) T.b_Range_outcomes .nil pass0 (pa_cons (pe_call G_law_built (hr.mono (by decide)) (by rfl) T.g_law_built T.F_law_built.kp T.b_law_built .nil pass0 (pa_cons (pv 4) pa_nil)) pa_nil)) (pe_meth (pe_call G_law_made (hr.mono (by decide)) (by rfl) T.g_law_made T.F_law_made.kp T.b_law_made .nil pass0 (pa_cons (pv 3) pa_nil)) T.cl_Values T.me_Values_outcomes G_Values_outcomes (hr.mono (by decide)) T.b_Values_outcomes .nil pass0 (pa_cons (pe_call G_law_built (hr.mono (by decide)) (by rfl) T.g_law_built T.F_law_built.kp T.b_law_built .nil pass0 (pa_cons (pv 4) pa_nil)) pa_nil)))) 
      (pss_cons (ps_set (i := 6) sc_law.nd rfl (.inl rfl) (pe_call G_law_outcomes (hr.mono (by decide)) (by rfl) T.g_law_outcomes T.F_law_outcomes.kp T.b_law_outcomes .nil pass0 (pa_cons (pv 3) (pa_cons (pv 4) pa_nil)))) 
      (pss_one (ps_if (pt_cmpR op_isN (pv 6) pe_non (nomark _)) (pss_one (ps_if (pt_cmpR op_notN (pv 5) pe_non (nomark _)) (pss_one (ps_ret pe_bl)) pss_nil)) (pss_cons (ps_if (PW.pt (pw_or (pt_not (pt_val (pe_callB call_isi (by rfl) T.m_isinstance (by decide +kernel) (pa_cons (pv 5) (pa_cons (pe_bltn (v := .ty "tuple") (u := .type "tuple") (by rfl) T.m_tuple (by decide +kernel) rfl) pa_nil))))) (pw_or1 (pt_cmpR (op_neD hr.units) (pv 5) (pv 6) (nomark _))))) (pss_one (ps_ret pe_bl)) pss_nil) 
      (pss_one (ps_if (PW.pt (pw_or (pt_not (pt_val (pe_callB call_isi (by rfl) T.m_isinstance (by decide +kernel) (pa_cons (pe_ix ix_tup (pv 5) pe_int (fun _ _ => rfl)) (pa_cons (pe_bltn (v := .ty "bool") (u := .type "bool") (by rfl) T.m_bool (by decide +kernel) rfl) pa_nil))))) (pw_or1 (pt_not (pt_val (pe_callB call_isi (by rfl) T.m_isinstance (by decide +kernel) (pa_cons (pe_ix ix_tup (pv 5) pe_int (fun _ _ => rfl)) (pa_cons (pe_bltn (v := .ty "bool") (u := .type "bool") (by rfl) T.m_bool (by decide +kernel) rfl) pa_nil)))))))) (pss_one (ps_ret pe_bl)) pss_nil))))))))))) 
      (pss_one (ps_ret pe_bl)))), ?_⟩
    refine ⟨_, rfl, a, _, rfl, .inl hA, fun sc hsc => ⟨(by show 3 ≤ sizeLine; decide), fun st hst => ?_⟩⟩
    have hS0 := st_made hsc hst hlen
    generalize upd (upd H sc (.lst (ns.map V.int))) st (.lst [.ref sc, .int 0, .int 0]) = H0 at hS0
    refine ⟨8, rfl, by decide, by decide, for_range (lo := 0) (n := 8) (fun i σ H' => StAt H' st sc ∧ ∃ (y2 y3 y4 y5 y6 : Option V), σ = [some (.ref a), some (.ref st), y2, y3, y4, y5, y6]) ⟨hS0, none, none, none, none, none, rfl⟩ ?_ ?_⟩
    rotate_left
    · rintro σ H' ⟨_, y2, y3, y4, y5, y6, rfl⟩
      exact q H'
    rintro i σ Hi hi ⟨hSi, y2, y3, y4, y5, y6, rfl⟩
    refine ⟨_, rfl, st, sc, rfl, hSi, fun t ff H1 wf nt hf1 hS1 f1 => ?_⟩
    refine ⟨_, rfl, st, sc, rfl, hS1, fun u0 uu0 H2 wu0 nu0 hu0 hS2 f2 => ?_⟩
    have hf2 := hf1.fr nt f2
    -- the tree
    refine ⟨fun σ H' => StAt H' st sc ∧ FD H' st t ff ∧ ∃ (u : Addr) (uu : LT), LtWf uu ∧ TD H' st u uu ∧ ∃ (y2 y5 y6 : Option V), σ = [some (.ref a), some (.ref st), y2, some (.ref t), some (.ref u), y5, y6], ?_, ?_⟩
    · refine ⟨_, rfl, st, sc, 3, rfl, hS2, by decide, by decide +kernel, fun g H3 g0 g1 hS3 o3 => ⟨_, _, rfl, rfl, _, rfl, ?_⟩⟩
      have hf3 := hf2.fr nt o3.fr
      have hu3 := hu0.fr nu0 o3.fr
      refine ite2 (fun _ => ?_) (fun _ => ⟨hS3, hf3, u0, uu0, wu0, hu3, _, _, _, rfl⟩)
      have tw : ∃ d ds, H3 u0 = some (.tup (d :: .str uu0.field :: ds)) := by
        cases uu0 with
        | has f => exact ⟨_, _, hu3⟩
        | oneof f ws => obtain ⟨l, _, h, _⟩ := hu3; exact ⟨_, _, h⟩
        | cmp f s v => exact ⟨_, _, hu3⟩
      have tf : ∃ d ds, H3 t = some (.tup (d :: .str ff.field :: ds)) := by
        cases ff with
        | range lo hi k => exact ⟨_, _, hf3⟩
        | values f ws k => obtain ⟨l, _, h, _⟩ := hf3; exact ⟨_, _, h⟩
      obtain ⟨d1, ds1, g1⟩ := tw
      obtain ⟨d2, ds2, g2⟩ := tf
      refine ⟨_, rfl, _, _, _, _, rfl, rfl, SqT.of g1, at_of (j := 1) rfl rfl, _, rfl, _, _, _, _, rfl, rfl, SqT.of g2, at_of (j := 1) rfl rfl, rfl, _, rfl, ite2 (fun _ => ?_) (fun _ => ⟨hS3, hf3, u0, uu0, wu0, hu3, _, _, _, rfl⟩)⟩
      refine ⟨_, rfl, _, _, _, _, rfl, rfl, SqT.of g2, at_of (j := 1) rfl rfl, (by show 2 ≤ sizeLine; decide), fun t2 ht2 => ?_⟩
      have s4 := same_new (o := .tup [.str "has", .str ff.field]) ht2
      exact ⟨hS3.new ht2, hf3.same s4, t2, .has ff.field, True.intro, upd_same, _, _, _, rfl⟩
    rintro σ H3 ⟨hS3, hf, u, uu, wu, hu, y2, y5, y6, rfl⟩
    -- the code's answer
    refine ⟨fun σ H' => Same H3 H' ∧ ∃ av : V, ((¬ uu.field = ff.field ∧ av = .non) ∨ (uu.field = ff.field ∧ ∃ r, av = .ref r ∧ H' r = some (.tup [.bl (outP ff uu), .bl (outF ff uu)]))) ∧ ∃ (y2 y6 : Option V), σ = [some (.ref a), some (.ref st), y2, some (.ref t), some (.ref u), some (av), y6], ?_, ?_⟩
    · cases ff with
      | range lo hi k =>
        have kk := kindOk_of wf wu
        refine .inl ⟨_, rfl, st, t, (FF.range lo hi k), rfl, hf, fun r H8 s8 hF => ?_⟩
        obtain ⟨dx, h1⟩ := id hF
        refine ⟨r, dx, _, rfl, h1, no_Range, _, rfl, st, u, uu, rfl, hu.same s8, fun r2 H9 s2 hC => ⟨r, r2, lo, hi, k, uu, rfl, hF.same s2, hC, kk, ltOk_of wu, ⟨fun ne => ⟨s8.trans s2, .non, .inl ⟨ne, rfl⟩, _, _, rfl⟩, fun e r3 H10 s3 h3 => ⟨s8.trans (s2.trans s3), .ref r3, .inr ⟨e, r3, rfl, h3⟩, _, _, rfl⟩⟩⟩⟩
      | values f us k =>
        have kk := kindOk_of wf wu
        refine .inr ⟨_, rfl, st, t, (FF.values f us k), rfl, hf, fun r H8 s8 hF => ?_⟩
        obtain ⟨dx, tw, h1, h2⟩ := id hF
        refine ⟨r, dx, _, rfl, h1, no_Values, _, rfl, st, u, uu, rfl, hu.same s8, fun r2 H9 s2 hC => ⟨r, r2, f, us, k, uu, rfl, hF.same s2, hC, kk, ltOk_of wu, Nat.le_trans wf.2.1 (by decide), ⟨fun ne => ⟨s8.trans s2, .non, .inl ⟨ne, rfl⟩, _, _, rfl⟩, fun e r3 H10 s3 h3 => ⟨s8.trans (s2.trans s3), .ref r3, .inr ⟨e, r3, rfl, h3⟩, _, _, rfl⟩⟩⟩⟩

    rintro σ H4 ⟨s4, av, ha, y2, y6, rfl⟩
    refine ⟨_, rfl, _, rfl, st, t, u, ff, uu, rfl, hf.same s4, hu.same s4, wf, passOk_of wf wu, ⟨fun ne => ?_, fun e r H5 s5 hr => ?_⟩⟩
    · rcases ha with ⟨_, rfl⟩ | ⟨e, _⟩
      · refine ⟨_, rfl, rfl, _, rfl, ?_⟩
        rw [decide_eq_true rfl]
        refine iteT ⟨_, rfl, rfl, _, rfl, ?_⟩
        exact iteNS rfl ⟨hS3.same s4, _, _, _, _, _, rfl⟩
      · exact absurd e ne
    · rcases ha with ⟨ne, _⟩ | ⟨_, r1, rfl, h1⟩
      · exact absurd e ne
      obtain ⟨x1, x2⟩ := out_due wf wu e
      rw [x1, x2] at h1
      have h1' := s5 _ _ h1
      refine ⟨_, rfl, rfl, _, rfl, ?_⟩
      rw [decide_eq_false (fun h => nomatch h)]
      refine iteF ?_
      refine ⟨_, rfl, _, _, _, _, true, rfl, .ty _, .base (.tup h1'), kit_ty (by decide +kernel), true, rfl, iteF ?_⟩
      refine ⟨_, rfl, _, rfl, _, _, dp_fl h1', dp_fl hr, shaped_fl _ _, shaped_fl _ _, _, rfl, ?_⟩
      rw [eqv_fl]
      refine iteF ?_
      refine ⟨_, rfl, _, _, _, _, rfl, rfl, SqT.of h1', at_of (j := 0) rfl rfl, _, _, _, _, true, rfl, .ty _, .base (.bl _), kit_ty (by decide +kernel), true, rfl, iteF ?_⟩
      refine ⟨_, rfl, _, _, _, _, rfl, rfl, SqT.of h1', at_of (j := 1) rfl rfl, _, _, _, _, true, rfl, .ty _, .base (.bl _), kit_ty (by decide +kernel), true, rfl, iteF ?_⟩
      exact ⟨(hS3.same s4).same s5, _, _, _, _, _, rfl⟩
end
set_option maxRecDepth 100000 in
set_option maxHeartbeats 0 in
theorem all_mk {l : PySem.W.OpenLaw} {w : World} {K : PySem.W.Frag} {h : Heap} {mg : Str → Option Value} {fa f0 f1 f2 f3 f4 f5 f6 f7 f8 f9 f10 f11 f12 f13 f14 f15 f16 f17 f18 f19 f20 f21 f22 f23 f24 : Addr} (X : K.In h) (G : h.Ns mainGlobals mg) (hfa : mg "law" = some (.ref fa))
    {od0 an0 od1 an1 od2 an2 od3 an3 od4 an4 od5 an5 od6 an6 od7 an7 od8 an8 od9 an9 od10 an10 od11 an11 od12 an12 od13 an13 od14 an14 od15 an15 od16 an16 od17 an17 od18 an18 od19 an19 od20 an20 od21 an21 od22 an22 od23 an23 od24 an24 : Option Addr} {sl0 sl1 sl2 sl3 sl4 sl5 sl6 sl7 sl8 sl9 sl10 sl11 sl12 sl13 sl14 sl15 sl16 sl17 sl18 sl19 sl20 sl21 sl22 sl23 sl24 : Array (Option Value)} {oc0 kV0 dc0 pm0 cd0 ct0 oc1 kV1 dc1 pm1 cd1 ct1 oc2 kV2 dc2 pm2 cd2 ct2 oc3 kV3 dc3 pm3 cd3 ct3 oc4 kV4 dc4 pm4 cd4 ct4 oc5 kV5 dc5 pm5 cd5 ct5 oc6 kV6 dc6 pm6 cd6 ct6 oc7 kV7 dc7 pm7 cd7 ct7 oc8 kV8 dc8 pm8 cd8 ct8 oc9 kV9 dc9 pm9 cd9 ct9 oc10 kV10 dc10 pm10 cd10 ct10 oc11 kV11 dc11 pm11 cd11 ct11 oc12 kV12 dc12 pm12 cd12 ct12 oc13 kV13 dc13 pm13 cd13 ct13 oc14 kV14 dc14 pm14 cd14 ct14 oc15 kV15 dc15 pm15 cd15 ct15 oc16 dc16 pm16 cd16 ct16 oc17 dc17 pm17 cd17 ct17 oc18 kV18 dc18 pm18 cd18 ct18 oc19 kV19 dc19 pm19 cd19 ct19 oc20 kV20 dc20 pm20 cd20 ct20 oc21 kV21 dc21 pm21 cd21 ct21 oc22 kV22 dc22 pm22 cd22 ct22 oc23 kV23 dc23 pm23 cd23 ct23 oc24 kV24 dc24 pm24 cd24 ct24 : Value}
    {C_Has C_OneOf C_Compare C_Range C_Values : Addr}
    (a0 : PySem.W.nsIn K mainGlobals "_law_row" = some (some (.ref f0))) (l0 : K.lookup f0 = some ⟨oc0, od0, .func (PySem.W.fnOf "_law_row" "_law_row" (defArgs s_law_row) (defBody s_law_row) (defScope s_law_row) .none kV0 dc0 pm0 an0 cd0 ct0), sl0⟩) (c0 : PySem.W.codeIn K cd0 "_law_row" = true) (k0 : PySem.W.keepIn K (.ref f0) = true)
    (a1 : PySem.W.nsIn K mainGlobals "_law_next" = some (some (.ref f1))) (l1 : K.lookup f1 = some ⟨oc1, od1, .func (PySem.W.fnOf "_law_next" "_law_next" (defArgs s_law_next) (defBody s_law_next) (defScope s_law_next) .none kV1 dc1 pm1 an1 cd1 ct1), sl1⟩) (c1 : PySem.W.codeIn K cd1 "_law_next" = true) (k1 : PySem.W.keepIn K (.ref f1) = true)
    (a2 : PySem.W.nsIn K mainGlobals "kind_of_value" = some (some (.ref f2))) (l2 : K.lookup f2 = some ⟨oc2, od2, .func (PySem.W.fnOf "kind_of_value" "kind_of_value" (defArgs s_kind_of_value) (defBody s_kind_of_value) (defScope s_kind_of_value) .none kV2 dc2 pm2 an2 cd2 ct2), sl2⟩) (c2 : PySem.W.codeIn K cd2 "kind_of_value" = true) (k2 : PySem.W.keepIn K (.ref f2) = true)
    (a3 : PySem.W.nsIn K mainGlobals "satisfies" = some (some (.ref f3))) (l3 : K.lookup f3 = some ⟨oc3, od3, .func (PySem.W.fnOf "satisfies" "satisfies" (defArgs s_satisfies) (defBody s_satisfies) (defScope s_satisfies) .none kV3 dc3 pm3 an3 cd3 ct3), sl3⟩) (c3 : PySem.W.codeIn K cd3 "satisfies" = true) (k3 : PySem.W.keepIn K (.ref f3) = true)
    (a4 : PySem.W.nsIn K mainGlobals "_law_compares" = some (some (.ref f4))) (l4 : K.lookup f4 = some ⟨oc4, od4, .func (PySem.W.fnOf "_law_compares" "_law_compares" (defArgs s_law_compares) (defBody s_law_compares) (defScope s_law_compares) .none kV4 dc4 pm4 an4 cd4 ct4), sl4⟩) (c4 : PySem.W.codeIn K cd4 "_law_compares" = true) (k4 : PySem.W.keepIn K (.ref f4) = true)
    (a5 : PySem.W.nsIn K mainGlobals "same_value" = some (some (.ref f5))) (l5 : K.lookup f5 = some ⟨oc5, od5, .func (PySem.W.fnOf "same_value" "same_value" (defArgs s_same_value) (defBody s_same_value) (defScope s_same_value) .none kV5 dc5 pm5 an5 cd5 ct5), sl5⟩) (c5 : PySem.W.codeIn K cd5 "same_value" = true) (k5 : PySem.W.keepIn K (.ref f5) = true)
    (a6 : PySem.W.nsIn K mainGlobals "is_among" = some (some (.ref f6))) (l6 : K.lookup f6 = some ⟨oc6, od6, .func (PySem.W.fnOf "is_among" "is_among" (defArgs s_is_among) (defBody s_is_among) (defScope s_is_among) .none kV6 dc6 pm6 an6 cd6 ct6), sl6⟩) (c6 : PySem.W.codeIn K cd6 "is_among" = true) (k6 : PySem.W.keepIn K (.ref f6) = true)
    (a7 : PySem.W.nsIn K mainGlobals "is_from" = some (some (.ref f7))) (l7 : K.lookup f7 = some ⟨oc7, od7, .func (PySem.W.fnOf "is_from" "is_from" (defArgs s_is_from) (defBody s_is_from) (defScope s_is_from) .none kV7 dc7 pm7 an7 cd7 ct7), sl7⟩) (c7 : PySem.W.codeIn K cd7 "is_from" = true) (k7 : PySem.W.keepIn K (.ref f7) = true)
    (a8 : PySem.W.nsIn K mainGlobals "outcomes_of_lack" = some (some (.ref f8))) (l8 : K.lookup f8 = some ⟨oc8, od8, .func (PySem.W.fnOf "outcomes_of_lack" "outcomes_of_lack" (defArgs s_outcomes_of_lack) (defBody s_outcomes_of_lack) (defScope s_outcomes_of_lack) .none kV8 dc8 pm8 an8 cd8 ct8), sl8⟩) (c8 : PySem.W.codeIn K cd8 "outcomes_of_lack" = true) (k8 : PySem.W.keepIn K (.ref f8) = true)
    (a9 : PySem.W.nsIn K mainGlobals "range_outcomes" = some (some (.ref f9))) (l9 : K.lookup f9 = some ⟨oc9, od9, .func (PySem.W.fnOf "range_outcomes" "range_outcomes" (defArgs s_range_outcomes) (defBody s_range_outcomes) (defScope s_range_outcomes) .none kV9 dc9 pm9 an9 cd9 ct9), sl9⟩) (c9 : PySem.W.codeIn K cd9 "range_outcomes" = true) (k9 : PySem.W.keepIn K (.ref f9) = true)
    (a10 : PySem.W.nsIn K mainGlobals "value_passes" = some (some (.ref f10))) (l10 : K.lookup f10 = some ⟨oc10, od10, .func (PySem.W.fnOf "value_passes" "value_passes" (defArgs s_value_passes) (defBody s_value_passes) (defScope s_value_passes) .none kV10 dc10 pm10 an10 cd10 ct10), sl10⟩) (c10 : PySem.W.codeIn K cd10 "value_passes" = true) (k10 : PySem.W.keepIn K (.ref f10) = true)
    (l11 : K.lookup f11 = some ⟨oc11, od11, .func (PySem.W.fnOf "outcomes" "Range.outcomes" (defArgs s_Range_outcomes) (defBody s_Range_outcomes) (defScope s_Range_outcomes) .none kV11 dc11 pm11 an11 cd11 ct11), sl11⟩) (c11 : PySem.W.codeIn K cd11 "Range.outcomes" = true) (k11 : PySem.W.keepIn K (.ref f11) = true)
    (l12 : K.lookup f12 = some ⟨oc12, od12, .func (PySem.W.fnOf "outcomes" "Values.outcomes" (defArgs s_Values_outcomes) (defBody s_Values_outcomes) (defScope s_Values_outcomes) .none kV12 dc12 pm12 an12 cd12 ct12), sl12⟩) (c12 : PySem.W.codeIn K cd12 "Values.outcomes" = true) (k12 : PySem.W.keepIn K (.ref f12) = true)
    (l13 : K.lookup f13 = some ⟨oc13, od13, .func (PySem.W.fnOf "__init__" "Has.__init__" (defArgs s_Has___init__) (defBody s_Has___init__) (defScope s_Has___init__) .none kV13 dc13 pm13 an13 cd13 ct13), sl13⟩) (c13 : PySem.W.codeIn K cd13 "Has.__init__" = true) (k13 : PySem.W.keepIn K (.ref f13) = true)
    (l14 : K.lookup f14 = some ⟨oc14, od14, .func (PySem.W.fnOf "__init__" "Compare.__init__" (defArgs s_Compare___init__) (defBody s_Compare___init__) (defScope s_Compare___init__) .none kV14 dc14 pm14 an14 cd14 ct14), sl14⟩) (c14 : PySem.W.codeIn K cd14 "Compare.__init__" = true) (k14 : PySem.W.keepIn K (.ref f14) = true)
    (l15 : K.lookup f15 = some ⟨oc15, od15, .func (PySem.W.fnOf "__init__" "OneOf.__init__" (defArgs s_OneOf___init__) (defBody s_OneOf___init__) (defScope s_OneOf___init__) .none kV15 dc15 pm15 an15 cd15 ct15), sl15⟩) (c15 : PySem.W.codeIn K cd15 "OneOf.__init__" = true) (k15 : PySem.W.keepIn K (.ref f15) = true)
    {DK16 : Addr} (l16 : K.lookup f16 = some ⟨oc16, od16, .func (PySem.W.fnOf "__init__" "Range.__init__" (defArgs s_Range___init__) (defBody s_Range___init__) (defScope s_Range___init__) .none (.ref DK16) dc16 pm16 an16 cd16 ct16), sl16⟩) (c16 : PySem.W.codeIn K cd16 "Range.__init__" = true) (k16 : PySem.W.keepIn K (.ref f16) = true)
    {tq16_lack : Tok} (n16_lack : PySem.W.nsIn K DK16 "lack" = some (some (.str "nobody" tq16_lack)))
    {DK17 : Addr} (l17 : K.lookup f17 = some ⟨oc17, od17, .func (PySem.W.fnOf "__init__" "Values.__init__" (defArgs s_Values___init__) (defBody s_Values___init__) (defScope s_Values___init__) .none (.ref DK17) dc17 pm17 an17 cd17 ct17), sl17⟩) (c17 : PySem.W.codeIn K cd17 "Values.__init__" = true) (k17 : PySem.W.keepIn K (.ref f17) = true)
    {tq17_lack : Tok} (n17_lack : PySem.W.nsIn K DK17 "lack" = some (some (.str "nobody" tq17_lack)))
    (a18 : PySem.W.nsIn K mainGlobals "_law_made" = some (some (.ref f18))) (l18 : K.lookup f18 = some ⟨oc18, od18, .func (PySem.W.fnOf "_law_made" "_law_made" (defArgs s_law_made) (defBody s_law_made) (defScope s_law_made) .none kV18 dc18 pm18 an18 cd18 ct18), sl18⟩) (c18 : PySem.W.codeIn K cd18 "_law_made" = true) (k18 : PySem.W.keepIn K (.ref f18) = true)
    (a19 : PySem.W.nsIn K mainGlobals "_law_built" = some (some (.ref f19))) (l19 : K.lookup f19 = some ⟨oc19, od19, .func (PySem.W.fnOf "_law_built" "_law_built" (defArgs s_law_built) (defBody s_law_built) (defScope s_law_built) .none kV19 dc19 pm19 an19 cd19 ct19), sl19⟩) (c19 : PySem.W.codeIn K cd19 "_law_built" = true) (k19 : PySem.W.keepIn K (.ref f19) = true)
    (a20 : PySem.W.nsIn K mainGlobals "_law_worth_passes" = some (some (.ref f20))) (l20 : K.lookup f20 = some ⟨oc20, od20, .func (PySem.W.fnOf "_law_worth_passes" "_law_worth_passes" (defArgs s_law_worth_passes) (defBody s_law_worth_passes) (defScope s_law_worth_passes) .none kV20 dc20 pm20 an20 cd20 ct20), sl20⟩) (c20 : PySem.W.codeIn K cd20 "_law_worth_passes" = true) (k20 : PySem.W.keepIn K (.ref f20) = true)
    (a21 : PySem.W.nsIn K mainGlobals "_law_outcomes" = some (some (.ref f21))) (l21 : K.lookup f21 = some ⟨oc21, od21, .func (PySem.W.fnOf "_law_outcomes" "_law_outcomes" (defArgs s_law_outcomes) (defBody s_law_outcomes) (defScope s_law_outcomes) .none kV21 dc21 pm21 an21 cd21 ct21), sl21⟩) (c21 : PySem.W.codeIn K cd21 "_law_outcomes" = true) (k21 : PySem.W.keepIn K (.ref f21) = true)
    (a22 : PySem.W.nsIn K mainGlobals "_law_field_fact" = some (some (.ref f22))) (l22 : K.lookup f22 = some ⟨oc22, od22, .func (PySem.W.fnOf "_law_field_fact" "_law_field_fact" (defArgs s_law_field_fact) (defBody s_law_field_fact) (defScope s_law_field_fact) .none kV22 dc22 pm22 an22 cd22 ct22), sl22⟩) (c22 : PySem.W.codeIn K cd22 "_law_field_fact" = true) (k22 : PySem.W.keepIn K (.ref f22) = true)
    (a23 : PySem.W.nsIn K mainGlobals "_law_leaf" = some (some (.ref f23))) (l23 : K.lookup f23 = some ⟨oc23, od23, .func (PySem.W.fnOf "_law_leaf" "_law_leaf" (defArgs s_law_leaf) (defBody s_law_leaf) (defScope s_law_leaf) .none kV23 dc23 pm23 an23 cd23 ct23), sl23⟩) (c23 : PySem.W.codeIn K cd23 "_law_leaf" = true) (k23 : PySem.W.keepIn K (.ref f23) = true)
    (a24 : PySem.W.nsIn K mainGlobals "law" = some (some (.ref f24))) (l24 : K.lookup f24 = some ⟨oc24, od24, .func (PySem.W.fnOf "law" "law" (defArgs s_law) (defBody s_law) (defScope s_law) .none kV24 dc24 pm24 an24 cd24 ct24), sl24⟩) (c24 : PySem.W.codeIn K cd24 "law" = true) (k24 : PySem.W.keepIn K (.ref f24) = true)
    (aC_Has : PySem.W.nsIn K mainGlobals "Has" = some (some (.ref C_Has)))
    (pg_Has : PySem.W.plainGet K C_Has Str.empty = true)
    (hd_Has : PySem.W.hasDictIn K C_Has = true)
    (po_Has : PySem.W.plainOver K C_Has = true)
    (sa_Has : PySem.W.findIn K (.ref C_Has) "__setattr__" = some (some (.builtin "object.__setattr__")))
    (n_Has_field : PySem.W.findIn K (.ref C_Has) "field" = some none)
    (mk_Has : PySem.W.makesIn K C_Has = true)
    (in_Has : PySem.W.findIn K (.ref C_Has) "__init__" = some (some (.ref f13)))
    (if_Has : PySem.W.isFn K (.ref f13) = true)
    (kc_Has : PySem.W.keepIn K (.ref C_Has) = true)
    (ha_Has : PySem.W.findIn K (.ref C_Has) "__class__" = some (some (.builtin "object.__class__")))
    (hm_Has : PySem.W.mroIn K C_Has (.type "object") = some true)
    (aC_OneOf : PySem.W.nsIn K mainGlobals "OneOf" = some (some (.ref C_OneOf)))
    (pg_OneOf : PySem.W.plainGet K C_OneOf Str.empty = true)
    (hd_OneOf : PySem.W.hasDictIn K C_OneOf = true)
    (po_OneOf : PySem.W.plainOver K C_OneOf = true)
    (sa_OneOf : PySem.W.findIn K (.ref C_OneOf) "__setattr__" = some (some (.builtin "object.__setattr__")))
    (n_OneOf_field : PySem.W.findIn K (.ref C_OneOf) "field" = some none)
    (n_OneOf_choices : PySem.W.findIn K (.ref C_OneOf) "choices" = some none)
    (mk_OneOf : PySem.W.makesIn K C_OneOf = true)
    (in_OneOf : PySem.W.findIn K (.ref C_OneOf) "__init__" = some (some (.ref f15)))
    (if_OneOf : PySem.W.isFn K (.ref f15) = true)
    (kc_OneOf : PySem.W.keepIn K (.ref C_OneOf) = true)
    (ha_OneOf : PySem.W.findIn K (.ref C_OneOf) "__class__" = some (some (.builtin "object.__class__")))
    (hm_OneOf : PySem.W.mroIn K C_OneOf (.type "object") = some true)
    (aC_Compare : PySem.W.nsIn K mainGlobals "Compare" = some (some (.ref C_Compare)))
    (pg_Compare : PySem.W.plainGet K C_Compare Str.empty = true)
    (hd_Compare : PySem.W.hasDictIn K C_Compare = true)
    (po_Compare : PySem.W.plainOver K C_Compare = true)
    (sa_Compare : PySem.W.findIn K (.ref C_Compare) "__setattr__" = some (some (.builtin "object.__setattr__")))
    (n_Compare_field : PySem.W.findIn K (.ref C_Compare) "field" = some none)
    (n_Compare_sign : PySem.W.findIn K (.ref C_Compare) "sign" = some none)
    (n_Compare_value : PySem.W.findIn K (.ref C_Compare) "value" = some none)
    (mk_Compare : PySem.W.makesIn K C_Compare = true)
    (in_Compare : PySem.W.findIn K (.ref C_Compare) "__init__" = some (some (.ref f14)))
    (if_Compare : PySem.W.isFn K (.ref f14) = true)
    (kc_Compare : PySem.W.keepIn K (.ref C_Compare) = true)
    (ha_Compare : PySem.W.findIn K (.ref C_Compare) "__class__" = some (some (.builtin "object.__class__")))
    (hm_Compare : PySem.W.mroIn K C_Compare (.type "object") = some true)
    (aC_Range : PySem.W.nsIn K mainGlobals "Range" = some (some (.ref C_Range)))
    (pg_Range : PySem.W.plainGet K C_Range Str.empty = true)
    (hd_Range : PySem.W.hasDictIn K C_Range = true)
    (po_Range : PySem.W.plainOver K C_Range = true)
    (sa_Range : PySem.W.findIn K (.ref C_Range) "__setattr__" = some (some (.builtin "object.__setattr__")))
    (n_Range_field : PySem.W.findIn K (.ref C_Range) "field" = some none)
    (n_Range_low : PySem.W.findIn K (.ref C_Range) "low" = some none)
    (n_Range_high : PySem.W.findIn K (.ref C_Range) "high" = some none)
    (n_Range_lack : PySem.W.findIn K (.ref C_Range) "lack" = some none)
    (mk_Range : PySem.W.makesIn K C_Range = true)
    (in_Range : PySem.W.findIn K (.ref C_Range) "__init__" = some (some (.ref f16)))
    (if_Range : PySem.W.isFn K (.ref f16) = true)
    (kc_Range : PySem.W.keepIn K (.ref C_Range) = true)
    (fm_Range_outcomes : PySem.W.findIn K (.ref C_Range) "outcomes" = some (some (.ref f11)))
    (im_Range_outcomes : PySem.W.isFn K (.ref f11) = true)
    (aC_Values : PySem.W.nsIn K mainGlobals "Values" = some (some (.ref C_Values)))
    (pg_Values : PySem.W.plainGet K C_Values Str.empty = true)
    (hd_Values : PySem.W.hasDictIn K C_Values = true)
    (po_Values : PySem.W.plainOver K C_Values = true)
    (sa_Values : PySem.W.findIn K (.ref C_Values) "__setattr__" = some (some (.builtin "object.__setattr__")))
    (n_Values_field : PySem.W.findIn K (.ref C_Values) "field" = some none)
    (n_Values_choices : PySem.W.findIn K (.ref C_Values) "choices" = some none)
    (n_Values_lack : PySem.W.findIn K (.ref C_Values) "lack" = some none)
    (mk_Values : PySem.W.makesIn K C_Values = true)
    (in_Values : PySem.W.findIn K (.ref C_Values) "__init__" = some (some (.ref f17)))
    (if_Values : PySem.W.isFn K (.ref f17) = true)
    (kc_Values : PySem.W.keepIn K (.ref C_Values) = true)
    (fm_Values_outcomes : PySem.W.findIn K (.ref C_Values) "outcomes" = some (some (.ref f12)))
    (im_Values_outcomes : PySem.W.isFn K (.ref f12) = true)
    (ic_Has : PySem.W.isClsIn K C_Has = true)
    (ty_Has : PySem.W.typeIn K (.ref C_Has) = some (.type "type"))
    (ic_OneOf : PySem.W.isClsIn K C_OneOf = true)
    (ty_OneOf : PySem.W.typeIn K (.ref C_OneOf) = some (.type "type"))
    (ss_Has : PySem.W.subIn K (.ref C_Has) (.ref C_Has) = some true)
    (sb_OneOf_Has : PySem.W.subIn K (.ref C_OneOf) (.ref C_Has) = some false)
    (sb_Compare_Has : PySem.W.subIn K (.ref C_Compare) (.ref C_Has) = some false)
    (ss_OneOf : PySem.W.subIn K (.ref C_OneOf) (.ref C_OneOf) = some true)
    (sb_Compare_OneOf : PySem.W.subIn K (.ref C_Compare) (.ref C_OneOf) = some false)
    (hn0 : PySem.W.specialIn K (.builtin "object.__class__") "__get__" = some (some (.builtin "getset_descriptor.__get__")))
    (ht0 : PySem.W.takesIn K (.builtin "object.__class__") = some true)
    (z_any : PySem.W.nsIn K mainGlobals "any" = some none)
    (z_bool : PySem.W.nsIn K mainGlobals "bool" = some none)
    (z_int : PySem.W.nsIn K mainGlobals "int" = some none)
    (z_isinstance : PySem.W.nsIn K mainGlobals "isinstance" = some none)
    (z_len : PySem.W.nsIn K mainGlobals "len" = some none)
    (z_list : PySem.W.nsIn K mainGlobals "list" = some none)
    (z_range : PySem.W.nsIn K mainGlobals "range" = some none)
    (z_tuple : PySem.W.nsIn K mainGlobals "tuple" = some none)
    : ∃ fd : FuncData, (∀ (s : Shared) (v : Value), BindsTo s fd ⟨[v], []⟩ [("script", v)]) ∧ ∀ base : Heap, K.In base → base.Ns mainGlobals mg → FnOk l.prog w K mg base CX0 6 fa fd ["script"] (sp_law K) := by
  have e := hfa.symm.trans (PySem.W.mg_of X G a24)
  cases e
  have F0 := fun_mk (st := s_law_row) l0 c0 k0
  have b0 := F0.binds (ps := ["script", "k"]) fun _ _ _ _ _ _ us hl => match us, hl with | [_, _], _ => rfl
  have F1 := fun_mk (st := s_law_next) l1 c1 k1
  have b1 := F1.binds (ps := ["state", "many"]) fun _ _ _ _ _ _ us hl => match us, hl with | [_, _], _ => rfl
  have F2 := fun_mk (st := s_kind_of_value) l2 c2 k2
  have b2 := F2.binds (ps := ["worth"]) fun _ _ _ _ _ _ us hl => match us, hl with | [_], _ => rfl
  have F3 := fun_mk (st := s_satisfies) l3 c3 k3
  have b3 := F3.binds (ps := ["worth", "sign", "other"]) fun _ _ _ _ _ _ us hl => match us, hl with | [_, _, _], _ => rfl
  have F4 := fun_mk (st := s_law_compares) l4 c4 k4
  have b4 := F4.binds (ps := ["sign", "a", "b"]) fun _ _ _ _ _ _ us hl => match us, hl with | [_, _, _], _ => rfl
  have F5 := fun_mk (st := s_same_value) l5 c5 k5
  have b5 := F5.binds (ps := ["one", "other"]) fun _ _ _ _ _ _ us hl => match us, hl with | [_, _], _ => rfl
  have F6 := fun_mk (st := s_is_among) l6 c6 k6
  have b6 := F6.binds (ps := ["worth", "choices"]) fun _ _ _ _ _ _ us hl => match us, hl with | [_, _], _ => rfl
  have F7 := fun_mk (st := s_is_from) l7 c7 k7
  have b7 := F7.binds (ps := ["low", "high", "worth"]) fun _ _ _ _ _ _ us hl => match us, hl with | [_, _, _], _ => rfl
  have F8 := fun_mk (st := s_outcomes_of_lack) l8 c8 k8
  have b8 := F8.binds (ps := ["lack"]) fun _ _ _ _ _ _ us hl => match us, hl with | [_], _ => rfl
  have F9 := fun_mk (st := s_range_outcomes) l9 c9 k9
  have b9 := F9.binds (ps := ["low", "high", "sign", "value"]) fun _ _ _ _ _ _ us hl => match us, hl with | [_, _, _, _], _ => rfl
  have F10 := fun_mk (st := s_value_passes) l10 c10 k10
  have b10 := F10.binds (ps := ["worth", "condition"]) fun _ _ _ _ _ _ us hl => match us, hl with | [_, _], _ => rfl
  have F11 := fun_mk (st := s_Range_outcomes) l11 c11 k11
  have b11 := F11.binds (ps := ["self", "condition"]) fun _ _ _ _ _ _ us hl => match us, hl with | [_, _], _ => rfl
  have F12 := fun_mk (st := s_Values_outcomes) l12 c12 k12
  have b12 := F12.binds (ps := ["self", "condition"]) fun _ _ _ _ _ _ us hl => match us, hl with | [_, _], _ => rfl
  have F13 := fun_mk (st := s_Has___init__) l13 c13 k13
  have b13 := F13.binds (ps := ["self", "field"]) fun _ _ _ _ _ _ us hl => match us, hl with | [_, _], _ => rfl
  have F14 := fun_mk (st := s_Compare___init__) l14 c14 k14
  have b14 := F14.binds (ps := ["self", "field", "sign", "value"]) fun _ _ _ _ _ _ us hl => match us, hl with | [_, _, _, _], _ => rfl
  have F15 := fun_mk (st := s_OneOf___init__) l15 c15 k15
  have b15 := F15.binds (ps := ["self", "field", "choices"]) fun _ _ _ _ _ _ us hl => match us, hl with | [_, _, _], _ => rfl
  have F16 : FunD K "__init__" "Range.__init__" (defArgs s_Range___init__) (defBody s_Range___init__) (defScope s_Range___init__) [] [("lack", .str "nobody")] f16 _ := ⟨⟨_, _, _, _, _, _, _, _, _, _, rfl, l16, c16, .inl ⟨rfl, rfl⟩, .inr ⟨DK16, rfl, fun q hq => by
    simp only [List.mem_cons, List.not_mem_nil, or_false] at hq
    rcases hq with rfl
    · exact ⟨_, n16_lack, ⟨_, rfl⟩⟩⟩⟩, k16⟩
  obtain ⟨mv16, kb16⟩ := F16.kbinds0 (ps := ["self", "field", "low", "high", "lack"]) 4 ["lack"] [] (fun us mv ws => us ++ ws) (by intro h; cases h) (fun q h => by cases h) (fun r1 _ r3 => r1.append r3) (fun D doc pm an cdv ct us mv ws l1 l2 l3 => match us, mv, ws, l1, l2, l3 with | [_, _, _, _], [], [_], _, _, _ => rfl)
  obtain ⟨ds16, v16, b16⟩ := F16.binds0 (ps := ["self", "field", "low", "high", "lack"]) 4 (by intro h; cases h) rfl (fun D doc pm an cdv ct us ks l1 l2 => match us, ks, l1, l2 with | [_, _, _, _], [_], _, _ => ⟨_, _, _, _, _, _, rfl, rfl, rfl⟩)
  have F17 : FunD K "__init__" "Values.__init__" (defArgs s_Values___init__) (defBody s_Values___init__) (defScope s_Values___init__) [] [("lack", .str "nobody")] f17 _ := ⟨⟨_, _, _, _, _, _, _, _, _, _, rfl, l17, c17, .inl ⟨rfl, rfl⟩, .inr ⟨DK17, rfl, fun q hq => by
    simp only [List.mem_cons, List.not_mem_nil, or_false] at hq
    rcases hq with rfl
    · exact ⟨_, n17_lack, ⟨_, rfl⟩⟩⟩⟩, k17⟩
  obtain ⟨mv17, kb17⟩ := F17.kbinds0 (ps := ["self", "field", "choices", "lack"]) 3 ["lack"] [] (fun us mv ws => us ++ ws) (by intro h; cases h) (fun q h => by cases h) (fun r1 _ r3 => r1.append r3) (fun D doc pm an cdv ct us mv ws l1 l2 l3 => match us, mv, ws, l1, l2, l3 with | [_, _, _], [], [_], _, _, _ => rfl)
  obtain ⟨ds17, v17, b17⟩ := F17.binds0 (ps := ["self", "field", "choices", "lack"]) 3 (by intro h; cases h) rfl (fun D doc pm an cdv ct us ks l1 l2 => match us, ks, l1, l2 with | [_, _, _], [_], _, _ => ⟨_, _, _, _, _, _, rfl, rfl, rfl⟩)
  have F18 := fun_mk (st := s_law_made) l18 c18 k18
  have b18 := F18.binds (ps := ["fact"]) fun _ _ _ _ _ _ us hl => match us, hl with | [_], _ => rfl
  have F19 := fun_mk (st := s_law_built) l19 c19 k19
  have b19 := F19.binds (ps := ["tree"]) fun _ _ _ _ _ _ us hl => match us, hl with | [_], _ => rfl
  have F20 := fun_mk (st := s_law_worth_passes) l20 c20 k20
  have b20 := F20.binds (ps := ["tree", "worth"]) fun _ _ _ _ _ _ us hl => match us, hl with | [_, _], _ => rfl
  have F21 := fun_mk (st := s_law_outcomes) l21 c21 k21
  have b21 := F21.binds (ps := ["fact", "tree"]) fun _ _ _ _ _ _ us hl => match us, hl with | [_, _], _ => rfl
  have F22 := fun_mk (st := s_law_field_fact) l22 c22 k22
  have b22 := F22.binds (ps := ["state"]) fun _ _ _ _ _ _ us hl => match us, hl with | [_], _ => rfl
  have F23 := fun_mk (st := s_law_leaf) l23 c23 k23
  have b23 := F23.binds (ps := ["state"]) fun _ _ _ _ _ _ us hl => match us, hl with | [_], _ => rfl
  have F24 := fun_mk (st := s_law) l24 c24 k24
  have b24 := F24.binds (ps := ["script"]) fun _ _ _ _ _ _ us hl => match us, hl with | [_], _ => rfl
  let T : Txt K mg := ⟨_, _, F0, b0, PySem.W.mg_of X G a0,
    _, _, F1, b1, PySem.W.mg_of X G a1,
    _, _, F2, b2, PySem.W.mg_of X G a2,
    _, _, F3, b3, PySem.W.mg_of X G a3,
    _, _, F4, b4, PySem.W.mg_of X G a4,
    _, _, F5, b5, PySem.W.mg_of X G a5,
    _, _, F6, b6, PySem.W.mg_of X G a6,
    _, _, F7, b7, PySem.W.mg_of X G a7,
    _, _, F8, b8, PySem.W.mg_of X G a8,
    _, _, F9, b9, PySem.W.mg_of X G a9,
    _, _, F10, b10, PySem.W.mg_of X G a10,
    _, _, F11, b11,
    _, _, F12, b12,
    _, _, F13, b13,
    _, _, F14, b14,
    _, _, F15, b15,
    _, _, F16, kb16, _, v16, b16,
    _, _, F17, kb17, _, v17, b17,
    _, _, F18, b18, PySem.W.mg_of X G a18,
    _, _, F19, b19, PySem.W.mg_of X G a19,
    _, _, F20, b20, PySem.W.mg_of X G a20,
    _, _, F21, b21, PySem.W.mg_of X G a21,
    _, _, F22, b22, PySem.W.mg_of X G a22,
    _, _, F23, b23, PySem.W.mg_of X G a23,
    _, _, F24, b24, PySem.W.mg_of X G a24,
    _, ⟨pg_Has, hd_Has, po_Has, sa_Has⟩, PySem.W.mg_of X G aC_Has, n_Has_field, ⟨mk_Has, in_Has, if_Has, kc_Has⟩, ha_Has, hm_Has,
    _, ⟨pg_OneOf, hd_OneOf, po_OneOf, sa_OneOf⟩, PySem.W.mg_of X G aC_OneOf, n_OneOf_field, n_OneOf_choices, ⟨mk_OneOf, in_OneOf, if_OneOf, kc_OneOf⟩, ha_OneOf, hm_OneOf,
    _, ⟨pg_Compare, hd_Compare, po_Compare, sa_Compare⟩, PySem.W.mg_of X G aC_Compare, n_Compare_field, n_Compare_sign, n_Compare_value, ⟨mk_Compare, in_Compare, if_Compare, kc_Compare⟩, ha_Compare, hm_Compare,
    _, ⟨pg_Range, hd_Range, po_Range, sa_Range⟩, PySem.W.mg_of X G aC_Range, n_Range_field, n_Range_low, n_Range_high, n_Range_lack, ⟨mk_Range, in_Range, if_Range, kc_Range⟩, ⟨fm_Range_outcomes, im_Range_outcomes, k11⟩,
    _, ⟨pg_Values, hd_Values, po_Values, sa_Values⟩, PySem.W.mg_of X G aC_Values, n_Values_field, n_Values_choices, n_Values_lack, ⟨mk_Values, in_Values, if_Values, kc_Values⟩, ⟨fm_Values_outcomes, im_Values_outcomes, k12⟩,
    kit_self,
    kit_subN ic_Has ty_Has sb_OneOf_Has ss_Has,
    kit_subN ic_Has ty_Has sb_Compare_Has ss_Has,
    kit_self,
    kit_subN ic_OneOf ty_OneOf sb_Compare_OneOf ss_OneOf,
    hn0,
    ht0,
    PySem.W.mg_none_of X G z_any,
    PySem.W.mg_none_of X G z_bool,
    PySem.W.mg_none_of X G z_int,
    PySem.W.mg_none_of X G z_isinstance,
    PySem.W.mg_none_of X G z_len,
    PySem.W.mg_none_of X G z_list,
    PySem.W.mg_none_of X G z_range,
    PySem.W.mg_none_of X G z_tuple⟩
  exact ⟨_, fun s v => .of_eq rfl, fun base _ _ => ok_law T⟩
end K22
open PySem PySem.W PyProof.Rows
set_option maxRecDepth 100000 in
set_option maxHeartbeats 0 in
theorem PySem.Challenge.cw_surenear_k22_outcomes_of_one_fact_holds : PySem.Challenge.rw_surenear_k22_outcomes_of_one_fact.Holds := by
  w_on; o_law; k_headL; (case hw => w_witness2)
  k_fill
  refine L2.walk_of (l := PySem.Challenge.rw_surenear_k22_outcomes_of_one_fact) (n := 63) (k := 6) (x := "script") (CX := fun _ => L2.CX0) (sp := fun w => K22.sp_law _) rfl (by decide) rfl ⟨rfl, by decide, by decide⟩ (fun w h Y => PySem.W.kIn_of Y) ?F (fun _ _ a ns hl _ hS => ⟨a, ns, rfl, hS, hl, fun _ => rfl⟩) (fun _ _ _ _ _ h => h)
  case F =>
    intro w mg fa h KX G hmg
    refine' K22.all_mk KX G hmg (a0 := ?a0) (l0 := ?l0) (c0 := ?c0) (k0 := ?k0) (a1 := ?a1) (l1 := ?l1) (c1 := ?c1) (k1 := ?k1) (a2 := ?a2) (l2 := ?l2) (c2 := ?c2) (k2 := ?k2) (a3 := ?a3) (l3 := ?l3) (c3 := ?c3) (k3 := ?k3) (a4 := ?a4) (l4 := ?l4) (c4 := ?c4) (k4 := ?k4) (a5 := ?a5) (l5 := ?l5) (c5 := ?c5) (k5 := ?k5) (a6 := ?a6) (l6 := ?l6) (c6 := ?c6) (k6 := ?k6) (a7 := ?a7) (l7 := ?l7) (c7 := ?c7) (k7 := ?k7) (a8 := ?a8) (l8 := ?l8) (c8 := ?c8) (k8 := ?k8) (a9 := ?a9) (l9 := ?l9) (c9 := ?c9) (k9 := ?k9) (a10 := ?a10) (l10 := ?l10) (c10 := ?c10) (k10 := ?k10) (a18 := ?a18) (l18 := ?l18) (c18 := ?c18) (k18 := ?k18) (a19 := ?a19) (l19 := ?l19) (c19 := ?c19) (k19 := ?k19) (a20 := ?a20) (l20 := ?l20) (c20 := ?c20) (k20 := ?k20) (a21 := ?a21) (l21 := ?l21) (c21 := ?c21) (k21 := ?k21) (a22 := ?a22) (l22 := ?l22) (c22 := ?c22) (k22 := ?k22) (a23 := ?a23) (l23 := ?l23) (c23 := ?c23) (k23 := ?k23) (a24 := ?a24) (l24 := ?l24) (c24 := ?c24) (k24 := ?k24) (aC_Has := ?aC_Has) (pg_Has := ?pg_Has) (hd_Has := ?hd_Has) (po_Has := ?po_Has) (sa_Has := ?sa_Has) (n_Has_field := ?n_Has_field) (mk_Has := ?mk_Has) (in_Has := ?in_Has) (if_Has := ?if_Has) (kc_Has := ?kc_Has) (ha_Has := ?ha_Has) (hm_Has := ?hm_Has) (aC_OneOf := ?aC_OneOf) (pg_OneOf := ?pg_OneOf) (hd_OneOf := ?hd_OneOf) (po_OneOf := ?po_OneOf) (sa_OneOf := ?sa_OneOf) (n_OneOf_field := ?n_OneOf_field) (n_OneOf_choices := ?n_OneOf_choices) (mk_OneOf := ?mk_OneOf) (in_OneOf := ?in_OneOf) (if_OneOf := ?if_OneOf) (kc_OneOf := ?kc_OneOf) (ha_OneOf := ?ha_OneOf) (hm_OneOf := ?hm_OneOf) (aC_Compare := ?aC_Compare) (pg_Compare := ?pg_Compare) (hd_Compare := ?hd_Compare) (po_Compare := ?po_Compare) (sa_Compare := ?sa_Compare) (n_Compare_field := ?n_Compare_field) (n_Compare_sign := ?n_Compare_sign) (n_Compare_value := ?n_Compare_value) (mk_Compare := ?mk_Compare) (in_Compare := ?in_Compare) (if_Compare := ?if_Compare) (kc_Compare := ?kc_Compare) (ha_Compare := ?ha_Compare) (hm_Compare := ?hm_Compare) (aC_Range := ?aC_Range) (pg_Range := ?pg_Range) (hd_Range := ?hd_Range) (po_Range := ?po_Range) (sa_Range := ?sa_Range) (n_Range_field := ?n_Range_field) (n_Range_low := ?n_Range_low) (n_Range_high := ?n_Range_high) (n_Range_lack := ?n_Range_lack) (mk_Range := ?mk_Range) (in_Range := ?in_Range) (if_Range := ?if_Range) (kc_Range := ?kc_Range) (fm_Range_outcomes := ?fm_Range_outcomes) (im_Range_outcomes := ?im_Range_outcomes) (aC_Values := ?aC_Values) (pg_Values := ?pg_Values) (hd_Values := ?hd_Values) (po_Values := ?po_Values) (sa_Values := ?sa_Values) (n_Values_field := ?n_Values_field) (n_Values_choices := ?n_Values_choices) (n_Values_lack := ?n_Values_lack) (mk_Values := ?mk_Values) (in_Values := ?in_Values) (if_Values := ?if_Values) (kc_Values := ?kc_Values) (fm_Values_outcomes := ?fm_Values_outcomes) (im_Values_outcomes := ?im_Values_outcomes) (ic_Has := ?ic_Has) (ty_Has := ?ty_Has) (ic_OneOf := ?ic_OneOf) (ty_OneOf := ?ty_OneOf) (ss_Has := ?ss_Has) (sb_OneOf_Has := ?sb_OneOf_Has) (sb_Compare_Has := ?sb_Compare_Has) (ss_OneOf := ?ss_OneOf) (sb_Compare_OneOf := ?sb_Compare_OneOf) (hn0 := ?hn0) (ht0 := ?ht0) (l11 := ?l11) (c11 := ?c11) (k11 := ?k11) (l12 := ?l12) (c12 := ?c12) (k12 := ?k12) (l13 := ?l13) (c13 := ?c13) (k13 := ?k13) (l14 := ?l14) (c14 := ?c14) (k14 := ?k14) (l15 := ?l15) (c15 := ?c15) (k15 := ?k15) (l16 := ?l16) (n16_lack := ?n16_lack) (c16 := ?c16) (k16 := ?k16) (l17 := ?l17) (n17_lack := ?n17_lack) (c17 := ?c17) (k17 := ?k17) (z_any := ?z_any) (z_bool := ?z_bool) (z_int := ?z_int) (z_isinstance := ?z_isinstance) (z_len := ?z_len) (z_list := ?z_list) (z_range := ?z_range) (z_tuple := ?z_tuple)
    (case a0 => k_is); (case l0 => k_is); (case c0 => k_is); (case k0 => k_is); (case a1 => k_is); (case l1 => k_is); (case c1 => k_is); (case k1 => k_is); (case a2 => k_is); (case l2 => k_is); (case c2 => k_is); (case k2 => k_is); (case a3 => k_is); (case l3 => k_is); (case c3 => k_is); (case k3 => k_is); (case a4 => k_is); (case l4 => k_is); (case c4 => k_is); (case k4 => k_is); (case a5 => k_is); (case l5 => k_is); (case c5 => k_is); (case k5 => k_is); (case a6 => k_is); (case l6 => k_is); (case c6 => k_is); (case k6 => k_is); (case a7 => k_is); (case l7 => k_is); (case c7 => k_is); (case k7 => k_is); (case a8 => k_is); (case l8 => k_is); (case c8 => k_is); (case k8 => k_is); (case a9 => k_is); (case l9 => k_is); (case c9 => k_is); (case k9 => k_is); (case a10 => k_is); (case l10 => k_is); (case c10 => k_is); (case k10 => k_is); (case a18 => k_is); (case l18 => k_is); (case c18 => k_is); (case k18 => k_is); (case a19 => k_is); (case l19 => k_is); (case c19 => k_is); (case k19 => k_is); (case a20 => k_is); (case l20 => k_is); (case c20 => k_is); (case k20 => k_is); (case a21 => k_is); (case l21 => k_is); (case c21 => k_is); (case k21 => k_is); (case a22 => k_is); (case l22 => k_is); (case c22 => k_is); (case k22 => k_is); (case a23 => k_is); (case l23 => k_is); (case c23 => k_is); (case k23 => k_is); (case a24 => k_is); (case l24 => k_is); (case c24 => k_is); (case k24 => k_is); (case aC_Has => k_is); (case pg_Has => k_is); (case hd_Has => k_is); (case po_Has => k_is); (case sa_Has => k_is); (case n_Has_field => k_is); (case mk_Has => k_is); (case in_Has => k_is); (case if_Has => k_is); (case kc_Has => k_is); (case ha_Has => k_is); (case hm_Has => k_is); (case aC_OneOf => k_is); (case pg_OneOf => k_is); (case hd_OneOf => k_is); (case po_OneOf => k_is); (case sa_OneOf => k_is); (case n_OneOf_field => k_is); (case n_OneOf_choices => k_is); (case mk_OneOf => k_is); (case in_OneOf => k_is); (case if_OneOf => k_is); (case kc_OneOf => k_is); (case ha_OneOf => k_is); (case hm_OneOf => k_is); (case aC_Compare => k_is); (case pg_Compare => k_is); (case hd_Compare => k_is); (case po_Compare => k_is); (case sa_Compare => k_is); (case n_Compare_field => k_is); (case n_Compare_sign => k_is); (case n_Compare_value => k_is); (case mk_Compare => k_is); (case in_Compare => k_is); (case if_Compare => k_is); (case kc_Compare => k_is); (case ha_Compare => k_is); (case hm_Compare => k_is); (case aC_Range => k_is); (case pg_Range => k_is); (case hd_Range => k_is); (case po_Range => k_is); (case sa_Range => k_is); (case n_Range_field => k_is); (case n_Range_low => k_is); (case n_Range_high => k_is); (case n_Range_lack => k_is); (case mk_Range => k_is); (case in_Range => k_is); (case if_Range => k_is); (case kc_Range => k_is); (case fm_Range_outcomes => k_is); (case im_Range_outcomes => k_is); (case aC_Values => k_is); (case pg_Values => k_is); (case hd_Values => k_is); (case po_Values => k_is); (case sa_Values => k_is); (case n_Values_field => k_is); (case n_Values_choices => k_is); (case n_Values_lack => k_is); (case mk_Values => k_is); (case in_Values => k_is); (case if_Values => k_is); (case kc_Values => k_is); (case fm_Values_outcomes => k_is); (case im_Values_outcomes => k_is); (case ic_Has => k_is); (case ty_Has => k_is); (case ic_OneOf => k_is); (case ty_OneOf => k_is); (case ss_Has => k_is); (case sb_OneOf_Has => k_is); (case sb_Compare_Has => k_is); (case ss_OneOf => k_is); (case sb_Compare_OneOf => k_is); (case hn0 => k_is); (case ht0 => k_is); (case l11 => k_is); (case c11 => k_is); (case k11 => k_is); (case l12 => k_is); (case c12 => k_is); (case k12 => k_is); (case l13 => k_is); (case c13 => k_is); (case k13 => k_is); (case l14 => k_is); (case c14 => k_is); (case k14 => k_is); (case l15 => k_is); (case c15 => k_is); (case k15 => k_is); (case l16 => k_is); (case n16_lack => k_is); (case c16 => k_is); (case k16 => k_is); (case l17 => k_is); (case n17_lack => k_is); (case c17 => k_is); (case k17 => k_is); (case z_any => k_is); (case z_bool => k_is); (case z_int => k_is); (case z_isinstance => k_is); (case z_len => k_is); (case z_list => k_is); (case z_range => k_is); (case z_tuple => k_is)
