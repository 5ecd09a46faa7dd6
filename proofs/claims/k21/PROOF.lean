import PyProof.Rows.All
import Wide.All
import OpenK.AllK
import Wide.FinOn
import HandS.ForMost
import HandS.Codes
import HandS.Wide
import HandS.IsInst
import HandS.Walk
import HandS.Property
import HandS.Zip
import KE.KEqSeq
import KE.LtData
import HandS.TupAny
import HandS.MakeKwOnly
import KE.KMathG
import Flt.RightSqrt
import HandS.Gcd
import PySem.Challenge.RW_surenear_k21_bounds_of_vectors_are_safe
set_option Elab.async false
set_option linter.all false
set_option maxRecDepth 100000
namespace K21
open PySem PySem.Spec PyProof.Rows L2
open C8 (tCut pss_cut)
/-! the text by places -/
def topS (i : Nat) : Stmt := PySem.Challenge.pw_surenear_k21_bounds_of_vectors_are_safe.main.body.getD i (.Pass ⟨0, 0, 0, 0⟩)
abbrev s_law_row : Stmt := (topS 44)
abbrev s_law_next : Stmt := (topS 45)
abbrev s_root : Stmt := (topS 3)
abbrev s_gap : Stmt := (topS 8)
abbrev s_inner : Stmt := (topS 4)
abbrev s_distance : Stmt := (topS 5)
abbrev s_differing : Stmt := (topS 6)
abbrev s_norm : Stmt := (topS 7)
abbrev s_Part___init__ : Stmt := (inClass (topS 13) 0)
abbrev s_Parts___init__ : Stmt := (inClass (topS 14) 0)
abbrev s_Cell___init__ : Stmt := (inClass (topS 15) 0)
abbrev s_Box___init__ : Stmt := (inClass (topS 16) 0)
abbrev s_Norms___init__ : Stmt := (inClass (topS 17) 0)
abbrev s_Differ___init__ : Stmt := (inClass (topS 18) 0)
abbrev s_Part_after : Stmt := (inClass (topS 13) 1)
abbrev s_have_size : Stmt := (topS 19)
abbrev s_numbers_at : Stmt := (topS 20)
abbrev s_ends_within : Stmt := (topS 21)
abbrev s_Fact_least_distance : Stmt := (inClass (topS 11) 1)
abbrev s_all_end_within : Stmt := (topS 22)
abbrev s_are_apart : Stmt := (topS 24)
abbrev s_Parts_least_distance : Stmt := (inClass (topS 14) 2)
abbrev s_split : Stmt := (topS 9)
abbrev s_Cell_least_distance : Stmt := (inClass (topS 15) 2)
abbrev s_number_outside : Stmt := (topS 27)
abbrev s_Box_least_distance : Stmt := (inClass (topS 16) 2)
abbrev s_Norms_least_distance : Stmt := (inClass (topS 17) 2)
abbrev s_Fact_least_differing : Stmt := (inClass (topS 11) 2)
abbrev s_Differ_least_differing : Stmt := (inClass (topS 18) 2)
abbrev s_Fact_most_product : Stmt := (inClass (topS 11) 3)
abbrev s_make_up : Stmt := (topS 25)
abbrev s_most_product_of : Stmt := (topS 26)
abbrev s_Parts_most_product : Stmt := (inClass (topS 14) 3)
abbrev s_Box_most_product : Stmt := (inClass (topS 16) 3)
abbrev s_Norms_most_product : Stmt := (inClass (topS 17) 3)
abbrev s_is_near : Stmt := (topS 23)
abbrev s_Parts_holds : Stmt := (inClass (topS 14) 1)
abbrev s_Cell_holds : Stmt := (inClass (topS 15) 1)
abbrev s_Box_holds : Stmt := (inClass (topS 16) 1)
abbrev s_Norms_holds : Stmt := (inClass (topS 17) 1)
abbrev s_Differ_holds : Stmt := (inClass (topS 18) 1)
abbrev s_Record___init__ : Stmt := (inClass (topS 41) 0)
abbrev s_law_vector : Stmt := (topS 46)
abbrev s_law_inner : Stmt := (topS 48)
abbrev s_law_made : Stmt := (topS 50)
abbrev s_law_distance : Stmt := (topS 47)
abbrev s_law_differing : Stmt := (topS 49)
abbrev s_law_true_parts : Stmt := (topS 51)
abbrev s_law_bits : Stmt := (topS 53)
abbrev s_law_true_fact : Stmt := (topS 52)
abbrev s_law : Stmt := (topS 54)
theorem sc_law_row : FnScope ["script", "k", "cell", "a", "b", "c"] ["script", "k"] (defScope s_law_row) := ⟨rfl, rfl, rfl, by decide +kernel, rfl, by decide +kernel, by decide +kernel⟩
theorem sc_law_next : FnScope ["state", "many", "drawn"] ["state", "many"] (defScope s_law_next) := ⟨rfl, rfl, rfl, by decide +kernel, rfl, by decide +kernel, by decide +kernel⟩
theorem sc_root : FnScope ["number"] ["number"] (defScope s_root) := ⟨rfl, rfl, rfl, by decide +kernel, rfl, by decide +kernel, by decide +kernel⟩
theorem sc_gap : FnScope ["far", "near"] ["far", "near"] (defScope s_gap) := ⟨rfl, rfl, rfl, by decide +kernel, rfl, by decide +kernel, by decide +kernel⟩
theorem sc_inner : FnScope ["a", "b", "x", "y"] ["a", "b"] (defScope s_inner) := ⟨rfl, rfl, rfl, by decide +kernel, rfl, by decide +kernel, by decide +kernel⟩
theorem sc_distance : FnScope ["a", "b", "x", "y"] ["a", "b"] (defScope s_distance) := ⟨rfl, rfl, rfl, by decide +kernel, rfl, by decide +kernel, by decide +kernel⟩
theorem sc_differing : FnScope ["a", "b", "x", "y"] ["a", "b"] (defScope s_differing) := ⟨rfl, rfl, rfl, by decide +kernel, rfl, by decide +kernel, by decide +kernel⟩
theorem sc_norm : FnScope ["a"] ["a"] (defScope s_norm) := ⟨rfl, rfl, rfl, by decide +kernel, rfl, by decide +kernel, by decide +kernel⟩
theorem sc_Part___init__ : FnScope ["self", "start", "centre", "radius"] ["self", "start", "centre", "radius"] (defScope s_Part___init__) := ⟨rfl, rfl, rfl, by decide +kernel, rfl, by decide +kernel, by decide +kernel⟩
theorem sc_Parts___init__ : FnScope ["self", "parts"] ["self", "parts"] (defScope s_Parts___init__) := ⟨rfl, rfl, rfl, by decide +kernel, rfl, by decide +kernel, by decide +kernel⟩
theorem sc_Cell___init__ : FnScope ["self", "near", "rival"] ["self", "near", "rival"] (defScope s_Cell___init__) := ⟨rfl, rfl, rfl, by decide +kernel, rfl, by decide +kernel, by decide +kernel⟩
theorem sc_Box___init__ : FnScope ["self", "low", "high"] ["self", "low", "high"] (defScope s_Box___init__) := ⟨rfl, rfl, rfl, by decide +kernel, rfl, by decide +kernel, by decide +kernel⟩
theorem sc_Norms___init__ : FnScope ["self", "low", "high"] ["self", "low", "high"] (defScope s_Norms___init__) := ⟨rfl, rfl, rfl, by decide +kernel, rfl, by decide +kernel, by decide +kernel⟩
theorem sc_Differ___init__ : FnScope ["self", "centre", "most"] ["self", "centre", "most"] (defScope s_Differ___init__) := ⟨rfl, rfl, rfl, by decide +kernel, rfl, by decide +kernel, by decide +kernel⟩
theorem sc_Part_after : FnScope ["self"] ["self"] (defScope s_Part_after) := ⟨rfl, rfl, rfl, by decide +kernel, rfl, by decide +kernel, by decide +kernel⟩
theorem sc_have_size : FnScope ["one", "other", "size"] ["one", "other", "size"] (defScope s_have_size) := ⟨rfl, rfl, rfl, by decide +kernel, rfl, by decide +kernel, by decide +kernel⟩
theorem sc_numbers_at : FnScope ["part", "vector"] ["part", "vector"] (defScope s_numbers_at) := ⟨rfl, rfl, rfl, by decide +kernel, rfl, by decide +kernel, by decide +kernel⟩
theorem sc_ends_within : FnScope ["part", "vector"] ["part", "vector"] (defScope s_ends_within) := ⟨rfl, rfl, rfl, by decide +kernel, rfl, by decide +kernel, by decide +kernel⟩
theorem sc_Fact_least_distance : FnScope ["self", "q"] ["self", "q"] (defScope s_Fact_least_distance) := ⟨rfl, rfl, rfl, by decide +kernel, rfl, by decide +kernel, by decide +kernel⟩
theorem sc_all_end_within : FnScope ["parts", "vector", "part"] ["parts", "vector"] (defScope s_all_end_within) := ⟨rfl, rfl, rfl, by decide +kernel, rfl, by decide +kernel, by decide +kernel⟩
theorem sc_are_apart : FnScope ["parts", "end", "part"] ["parts"] (defScope s_are_apart) := ⟨rfl, rfl, rfl, by decide +kernel, rfl, by decide +kernel, by decide +kernel⟩
theorem sc_Parts_least_distance : FnScope ["self", "q", "part"] ["self", "q"] (defScope s_Parts_least_distance) := ⟨rfl, rfl, rfl, by decide +kernel, rfl, by decide +kernel, by decide +kernel⟩
theorem sc_split : FnScope ["d", "e", "f"] ["d", "e", "f"] (defScope s_split) := ⟨rfl, rfl, rfl, by decide +kernel, rfl, by decide +kernel, by decide +kernel⟩
theorem sc_Cell_least_distance : FnScope ["self", "q"] ["self", "q"] (defScope s_Cell_least_distance) := ⟨rfl, rfl, rfl, by decide +kernel, rfl, by decide +kernel, by decide +kernel⟩
theorem sc_number_outside : FnScope ["low", "number", "high"] ["low", "number", "high"] (defScope s_number_outside) := ⟨rfl, rfl, rfl, by decide +kernel, rfl, by decide +kernel, by decide +kernel⟩
theorem sc_Box_least_distance : FnScope ["self", "q", "outside", "low", "number", "high"] ["self", "q"] (defScope s_Box_least_distance) := ⟨rfl, rfl, rfl, by decide +kernel, rfl, by decide +kernel, by decide +kernel⟩
theorem sc_Norms_least_distance : FnScope ["self", "q", "length"] ["self", "q"] (defScope s_Norms_least_distance) := ⟨rfl, rfl, rfl, by decide +kernel, rfl, by decide +kernel, by decide +kernel⟩
theorem sc_Fact_least_differing : FnScope ["self", "q"] ["self", "q"] (defScope s_Fact_least_differing) := ⟨rfl, rfl, rfl, by decide +kernel, rfl, by decide +kernel, by decide +kernel⟩
theorem sc_Differ_least_differing : FnScope ["self", "q"] ["self", "q"] (defScope s_Differ_least_differing) := ⟨rfl, rfl, rfl, by decide +kernel, rfl, by decide +kernel, by decide +kernel⟩
theorem sc_Fact_most_product : FnScope ["self", "q"] ["self", "q"] (defScope s_Fact_most_product) := ⟨rfl, rfl, rfl, by decide +kernel, rfl, by decide +kernel, by decide +kernel⟩
theorem sc_make_up : FnScope ["parts", "size", "end", "part"] ["parts", "size"] (defScope s_make_up) := ⟨rfl, rfl, rfl, by decide +kernel, rfl, by decide +kernel, by decide +kernel⟩
theorem sc_most_product_of : FnScope ["part", "numbers"] ["part", "numbers"] (defScope s_most_product_of) := ⟨rfl, rfl, rfl, by decide +kernel, rfl, by decide +kernel, by decide +kernel⟩
theorem sc_Parts_most_product : FnScope ["self", "q", "part"] ["self", "q"] (defScope s_Parts_most_product) := ⟨rfl, rfl, rfl, by decide +kernel, rfl, by decide +kernel, by decide +kernel⟩
theorem sc_Box_most_product : FnScope ["self", "q", "low", "number", "high"] ["self", "q"] (defScope s_Box_most_product) := ⟨rfl, rfl, rfl, by decide +kernel, rfl, by decide +kernel, by decide +kernel⟩
theorem sc_Norms_most_product : FnScope ["self", "q"] ["self", "q"] (defScope s_Norms_most_product) := ⟨rfl, rfl, rfl, by decide +kernel, rfl, by decide +kernel, by decide +kernel⟩
theorem sc_is_near : FnScope ["part", "vector"] ["part", "vector"] (defScope s_is_near) := ⟨rfl, rfl, rfl, by decide +kernel, rfl, by decide +kernel, by decide +kernel⟩
theorem sc_Parts_holds : FnScope ["self", "record", "part"] ["self", "record"] (defScope s_Parts_holds) := ⟨rfl, rfl, rfl, by decide +kernel, rfl, by decide +kernel, by decide +kernel⟩
theorem sc_Cell_holds : FnScope ["self", "record", "vector"] ["self", "record"] (defScope s_Cell_holds) := ⟨rfl, rfl, rfl, by decide +kernel, rfl, by decide +kernel, by decide +kernel⟩
theorem sc_Box_holds : FnScope ["self", "record", "vector", "low", "number", "high"] ["self", "record"] (defScope s_Box_holds) := ⟨rfl, rfl, rfl, by decide +kernel, rfl, by decide +kernel, by decide +kernel⟩
theorem sc_Norms_holds : FnScope ["self", "record"] ["self", "record"] (defScope s_Norms_holds) := ⟨rfl, rfl, rfl, by decide +kernel, rfl, by decide +kernel, by decide +kernel⟩
theorem sc_Differ_holds : FnScope ["self", "record", "vector"] ["self", "record"] (defScope s_Differ_holds) := ⟨rfl, rfl, rfl, by decide +kernel, rfl, by decide +kernel, by decide +kernel⟩
theorem sc_Record___init__ : FnScope ["self", "name", "vector", "fields", "words", "pair"] ["self", "name", "vector", "fields", "words"] (defScope s_Record___init__) := ⟨rfl, rfl, rfl, by decide +kernel, rfl, by decide +kernel, by decide +kernel⟩
theorem sc_law_vector : FnScope ["state", "size", "spread", "k"] ["state", "size"] (defScope s_law_vector) := ⟨rfl, rfl, rfl, by decide +kernel, rfl, by decide +kernel, by decide +kernel⟩
theorem sc_law_inner : FnScope ["a", "b", "total", "k"] ["a", "b"] (defScope s_law_inner) := ⟨rfl, rfl, rfl, by decide +kernel, rfl, by decide +kernel, by decide +kernel⟩
theorem sc_law_made : FnScope ["fact", "start", "centre", "radius"] ["fact"] (defScope s_law_made) := ⟨rfl, rfl, rfl, by decide +kernel, rfl, by decide +kernel, by decide +kernel⟩
theorem sc_law_distance : FnScope ["a", "b", "total", "k"] ["a", "b"] (defScope s_law_distance) := ⟨rfl, rfl, rfl, by decide +kernel, rfl, by decide +kernel, by decide +kernel⟩
theorem sc_law_differing : FnScope ["a", "b", "k"] ["a", "b"] (defScope s_law_differing) := ⟨rfl, rfl, rfl, by decide +kernel, rfl, by decide +kernel, by decide +kernel⟩
theorem sc_law_true_parts : FnScope ["state", "vector", "others", "parts", "place", "k", "long", "centre", "number", "radius", "other"] ["state", "vector", "others"] (defScope s_law_true_parts) := ⟨rfl, rfl, rfl, by decide +kernel, rfl, by decide +kernel, by decide +kernel⟩
theorem sc_law_bits : FnScope ["vector", "number"] ["vector"] (defScope s_law_bits) := ⟨rfl, rfl, rfl, by decide +kernel, rfl, by decide +kernel, by decide +kernel⟩
theorem sc_law_true_fact : FnScope ["state", "vectors", "kind", "first", "near", "number", "rival", "vector", "low", "k", "high", "squares", "centre"] ["state", "vectors"] (defScope s_law_true_fact) := ⟨rfl, rfl, rfl, by decide +kernel, rfl, by decide +kernel, by decide +kernel⟩
theorem sc_law : FnScope ["script", "state", "turn", "size", "bits", "vectors", "k", "q", "number", "vector", "made", "product"] ["script"] (defScope s_law) := ⟨rfl, rfl, rfl, by decide +kernel, rfl, by decide +kernel, by decide +kernel⟩
/-! the mathematics -/

/-- the state of the draws stands at st -/
def StAt (H : Hp) (st sc : Addr) : Prop := ∃ (ns : List Int) (k x : Int), H st = some (.lst [.ref sc, .int k, .int x]) ∧ H sc = some (.lst (ns.map V.int)) ∧ 0 ≤ k ∧ 0 ≤ x ∧ ns.length ≤ 63
/-- all but st is as it was -/
def Oth (st : Addr) (H H' : Hp) : Prop := ∀ b, b ≠ st → H' b = H b
theorem Oth.refl (st : Addr) (H : Hp) : Oth st H H := fun _ _ => rfl
theorem Oth.trans {st : Addr} {H H1 H2 : Hp} (a : Oth st H H1) (b : Oth st H1 H2) : Oth st H H2 := fun c h => (b c h).trans (a c h)
theorem qT {Q : VK} {H : Hp} {c : Prop} [Decidable c] (h : c) (q : Q (.bl true) H) : Q (.bl (decide c)) H := by
  rw [decide_eq_true h]
  exact q
theorem qF {Q : VK} {H : Hp} {c : Prop} [Decidable c] (h : ¬ c) (q : Q (.bl false) H) : Q (.bl (decide c)) H := by
  rw [decide_eq_false h]
  exact q
theorem ixN_nat {n j : Nat} (h : j < n) : ixN n (j : Int) = some j := by
  unfold ixN
  rw [if_pos (by omega), if_pos (by omega)]
  simp
theorem item_map {ns : List Int} {k : Int} (h0 : 0 ≤ k) (h1 : k < ns.length) : ∃ c, atI (ns.map V.int) k = some (.int c) := by
  have hj : k.toNat < ns.length := by omega
  refine ⟨ns[k.toNat], at_of (j := k.toNat) (by omega) ?_⟩
  rw [List.getElem?_map, List.getElem?_eq_getElem hj]
  rfl

/-- what was tracked is so still, but for what stands at st -/
def Fr (st : Addr) (H H' : Hp) : Prop := ∀ b o, H b = some o → b ≠ st → H' b = some o
theorem Fr.refl (st : Addr) (H : Hp) : Fr st H H := fun _ _ h _ => h
theorem Fr.trans {st : Addr} {H H1 H2 : Hp} (a : Fr st H H1) (b : Fr st H1 H2) : Fr st H H2 := fun c o h n => b c o (a c o h n) n
theorem Oth.fr {st : Addr} {H H' : Hp} (h : Oth st H H') : Fr st H H' := fun b _ e n => (h b n).trans e
theorem Fr.new {st : Addr} {H : Hp} {p : Addr} {o : HO} (h : H p = none) : Fr st H (upd H p o) := fun b u e _ => by
  rw [upd_ne (ne_of_none e h)]
  exact e
theorem Fr.set {st : Addr} {H H' : Hp} {p : Addr} {o : HO} (f : Fr st H H') (h : H p = none) : Fr st H (upd H' p o) := fun b u e n => by
  rw [upd_ne (ne_of_none e h)]
  exact f b u e n
theorem Fr.lst {st : Addr} {H H' : Hp} (f : Fr st H H') {b : Addr} {o : HO} (e : H b = some o) (n : b ≠ st) : H' b = some o := f b o e n
/-- a list of integers is not the state -/
theorem st_ne {H : Hp} {st b sc : Addr} (hS : StAt H st sc) {xs : List Int} (h : H b = some (.lst (xs.map V.int))) : b ≠ st := fun e => by
  obtain ⟨ns, k, x, h1, _⟩ := hS
  rw [e, h1] at h
  have z := HO.lst.inj (Option.some.inj h)
  cases xs with
  | nil => cases z
  | cons y r => cases (List.cons.inj z).1
theorem st_new {H : Hp} {st b sc : Addr} (hS : StAt H st sc) (h : H b = none) : b ≠ st := fun e => by
  obtain ⟨ns, k, x, h1, _⟩ := hS
  rw [e, h1] at h
  cases h
/-- the state's own list of the script stands apart from all that is new -/
theorem StAt.new {H : Hp} {st p sc : Addr} {o : HO} (hS : StAt H st sc) (hn : H p = none) : StAt (upd H p o) st sc := by
  obtain ⟨ns, k, x, h1, h2, k0, x0, hl⟩ := hS
  exact ⟨ns, k, x, by rw [upd_ne (ne_of_none h1 hn)]; exact h1, by rw [upd_ne (ne_of_none h2 hn)]; exact h2, k0, x0, hl⟩
theorem StAt.set {H H' : Hp} {st p sc : Addr} {o : HO} (hS' : StAt H' st sc) (hS : StAt H st sc) (hn : H p = none) : StAt (upd H' p o) st sc := by
  obtain ⟨ns, k, x, h1, h2, k0, x0, hl⟩ := hS
  obtain ⟨ns', k', x', h1', h2', k0', x0', hl'⟩ := hS'
  exact ⟨ns', k', x', by rw [upd_ne (ne_of_none h1 hn)]; exact h1', by rw [upd_ne (ne_of_none h2 hn)]; exact h2', k0', x0', hl'⟩
def Bd (n : Int) (xs : List Int) : Prop := ∀ z ∈ xs, -n ≤ z ∧ z ≤ n
theorem Bd.at {n : Int} {xs : List Int} (h : Bd n xs) {i : Nat} {z : Int} (e : xs[i]? = some z) : -n ≤ z ∧ z ≤ n := h z (List.mem_of_getElem? e)
def dist : List Int → List Int → Int
  | x :: xs, y :: ys => (x - y) * (x - y) + dist xs ys
  | _, _ => 0
theorem sq_nn (x : Int) : 0 ≤ x * x := by
  rcases Int.le_total 0 x with h | h
  · exact Int.mul_nonneg h h
  · have := Int.mul_nonneg (Int.neg_nonneg_of_nonpos h) (Int.neg_nonneg_of_nonpos h)
    rwa [Int.neg_mul_neg] at this
theorem dist_nn : ∀ xs ys : List Int, 0 ≤ dist xs ys
  | [], _ => by unfold dist; exact Int.le_refl 0
  | _ :: _, [] => by unfold dist; exact Int.le_refl 0
  | x :: xs, y :: ys => by
    unfold dist
    have := dist_nn xs ys
    have := sq_nn (x - y)
    omega
theorem dist_take : ∀ {xs ys : List Int} {i : Nat} {x y : Int}, xs[i]? = some x → ys[i]? = some y → dist (xs.take (i + 1)) (ys.take (i + 1)) = dist (xs.take i) (ys.take i) + (x - y) * (x - y)
  | [], _, _, _, _, h, _ => by simp at h
  | _ :: _, [], _, _, _, _, h => by simp at h
  | a :: r, b :: t, 0, x, y, h, h2 => by
    have e1 : a = x := Option.some.inj h
    have e2 : b = y := Option.some.inj h2
    subst e1 e2
    simp [dist]
  | a :: r, b :: t, i + 1, x, y, h, h2 => by
    have ih := dist_take (xs := r) (ys := t) (i := i) (x := x) (y := y) h h2
    show (a - b) * (a - b) + dist (r.take (i + 1)) (t.take (i + 1)) = (a - b) * (a - b) + dist (r.take i) (t.take i) + (x - y) * (x - y)
    rw [ih]
    omega
theorem sq_le {x n : Int} (h1 : -n ≤ x) (h2 : x ≤ n) : x * x ≤ n * n := by
  have a : 0 ≤ n - x := by omega
  have b : 0 ≤ n + x := by omega
  have c := Int.mul_nonneg a b
  have e : (n - x) * (n + x) = n * n - x * x := by grind
  omega
theorem dist_le {n : Int} : ∀ {xs ys : List Int}, Bd n xs → Bd n ys → dist xs ys ≤ xs.length * (4 * (n * n))
  | [], _, _, _ => by simp [dist]
  | x :: xs, [], _, _ => by
    unfold dist
    exact Int.mul_nonneg (Int.natCast_nonneg _) (Int.mul_nonneg (by decide) (sq_nn n))
  | x :: xs, y :: ys, hx, hy => by
    have ih := dist_le (n := n) (xs := xs) (ys := ys) (fun z h => hx z (List.mem_cons_of_mem _ h)) (fun z h => hy z (List.mem_cons_of_mem _ h))
    have h1 := hx x (List.mem_cons_self)
    have h2 := hy y (List.mem_cons_self)
    have h3 : (x - y) * (x - y) ≤ (2 * n) * (2 * n) := sq_le (by omega) (by omega)
    have e : (2 * n) * (2 * n) = 4 * (n * n) := by grind
    unfold dist
    rw [List.length_cons]
    have e2 : ((xs.length + 1 : Nat) : Int) * (4 * (n * n)) = xs.length * (4 * (n * n)) + 4 * (n * n) := by grind
    omega
theorem get_map {xs : List Int} {i : Nat} {y : V} (h : (xs.map V.int)[i]? = some y) : ∃ z, y = V.int z ∧ xs[i]? = some z := by
  rw [List.getElem?_map] at h
  cases e : xs[i]? with
  | none =>
    rw [e] at h
    cases h
  | some z =>
    rw [e] at h
    exact ⟨z, (Option.some.inj h).symm, rfl⟩
theorem map_get {xs : List Int} {i : Nat} {z : Int} (h : xs[i]? = some z) : (xs.map V.int)[i]? = some (V.int z) := by
  rw [List.getElem?_map, h]
  rfl
theorem len_le {n : Nat} (h : n ≤ 1000) : n < sizeLine := small1000 h

/-- at p stands a list of n integers, none beyond s -/
def IsPt (H : Hp) (p : Addr) (n s : Int) (zs : List Int) : Prop := H p = some (.lst (zs.map V.int)) ∧ (zs.length : Int) = n ∧ Bd s zs
theorem IsPt.fr {H H' : Hp} {p st sc : Addr} {n s : Int} {zs : List Int} (h : IsPt H p n s zs) (hS : StAt H st sc) (f : Fr st H H') : IsPt H' p n s zs := ⟨f _ _ h.1 (st_ne hS h.1), h.2.1, h.2.2⟩
theorem IsPt.wide {H : Hp} {p : Addr} {n s t : Int} {zs : List Int} (h : IsPt H p n s zs) (e : s ≤ t) : IsPt H p n t zs := ⟨h.1, h.2.1, fun z hz => by have := h.2.2 z hz; omega⟩
theorem IsPt.get {H : Hp} {p : Addr} {n s : Int} {zs : List Int} (h : IsPt H p n s zs) {i : Nat} (hi : (i : Int) < n) : ∃ z, zs[i]? = some z ∧ -s ≤ z ∧ z ≤ s := by
  have hl : i < zs.length := by have := h.2.1; omega
  exact ⟨zs[i], List.getElem?_eq_getElem hl, h.2.2.at (List.getElem?_eq_getElem hl)⟩
theorem dist_small {H : Hp} {p r : Addr} {n : Int} {xs ys : List Int} (h1 : IsPt H p n 30000 xs) (h2 : IsPt H r n 30000 ys) (hn : n ≤ 5) : 0 ≤ dist xs ys ∧ dist xs ys < 100000000000 := by
  refine ⟨dist_nn _ _, ?_⟩
  have a := dist_le h1.2.2 h2.2.2
  have b := h1.2.1
  have e : (30000 : Int) * 30000 = 900000000 := by decide
  rw [e] at a
  have : (xs.length : Int) * (4 * 900000000) ≤ 5 * (4 * 900000000) := by omega
  omega
theorem pick4 {a b c d k : Int} (h0 : 0 ≤ k) (h1 : k < 4) : ∃ v, atI [V.int a, V.int b, V.int c, V.int d] k = some (.int v) ∧ (v = a ∨ v = b ∨ v = c ∨ v = d) := by
  have : k = 0 ∨ k = 1 ∨ k = 2 ∨ k = 3 := by omega
  rcases this with rfl | rfl | rfl | rfl
  · exact ⟨a, at_of (j := 0) rfl rfl, .inl rfl⟩
  · exact ⟨b, at_of (j := 1) rfl rfl, .inr (.inl rfl)⟩
  · exact ⟨c, at_of (j := 2) rfl rfl, .inr (.inr (.inl rfl))⟩
  · exact ⟨d, at_of (j := 3) rfl rfl, .inr (.inr (.inr rfl))⟩
theorem st_made {H : Hp} {sc st : Addr} {ns : List Int} (h1 : H sc = none) (h2 : upd H sc (.lst (ns.map V.int)) st = none) (hl : ns.length ≤ 63) : StAt (upd (upd H sc (.lst (ns.map V.int))) st (.lst [.ref sc, .int 0, .int 0])) st sc := by
  have ne : sc ≠ st := fun e => by
    rw [← e, upd_same] at h2
    cases h2
  exact ⟨ns, 0, 0, upd_same, by rw [upd_ne ne, upd_same], by decide, by decide, hl⟩

theorem same_fr {st : Addr} {H H' : Hp} (h : Same H H') : Fr st H H' := fun b o e _ => h b o e
theorem same_new {H : Hp} {p : Addr} {o : HO} (h : H p = none) : Same H (upd H p o) := fun b u e => by
  rw [upd_ne (ne_of_none e h)]
  exact e
theorem same_set {H H' : Hp} {p : Addr} {o : HO} (f : Same H H') (h : H p = none) : Same H (upd H' p o) := fun b u e => by
  rw [upd_ne (ne_of_none e h)]
  exact f b u e
theorem StAt.same {H H' : Hp} {st sc : Addr} (hS : StAt H st sc) (f : Same H H') : StAt H' st sc := by
  obtain ⟨ns, k, x, h1, h2, k0, x0, hl⟩ := hS
  exact ⟨ns, k, x, f _ _ h1, f _ _ h2, k0, x0, hl⟩
/-- the terms of a sum over two lists -/
def ter (f : Int → Int → Int) (xs ys : List Int) : List Int := List.zipWith f xs ys
theorem ter_get {f : Int → Int → Int} {xs ys : List Int} {i : Nat} {x y : Int} (hx : xs[i]? = some x) (hy : ys[i]? = some y) : (ter f xs ys)[i]? = some (f x y) := by
  unfold ter
  rw [List.getElem?_zipWith, hx, hy]
theorem ter_len {f : Int → Int → Int} {xs ys : List Int} (h : xs.length = ys.length) : (ter f xs ys).length = xs.length := by
  unfold ter
  rw [List.length_zipWith]
  omega
def fMul (x y : Int) : Int := x * y
def fSq (x y : Int) : Int := (x - y) * (x - y)
def fNe (x y : Int) : Int := if x = y then 0 else 1

mutual
/-- v is the datum d, all of whose objects stand away from N -/
inductive Dt (N : List Addr) (H : Hp) : V → PyData → Prop
  | non : Dt N H .non .none
  | bl (b : Bool) : Dt N H (.bl b) (.bool b)
  | int (i : Int) : Dt N H (.int i) (.int i)
  | str (x : Str) : Dt N H (.str x) (.str x)
  | lst {a : Addr} {xs : List V} {ds : List PyData} : a ∉ N → H a = some (.lst xs) → Dts N H xs ds → Dt N H (.ref a) (.list ds)
  | tup {a : Addr} {xs : List V} {ds : List PyData} : a ∉ N → H a = some (.tup xs) → Dts N H xs ds → Dt N H (.ref a) (.tuple ds)
inductive Dts (N : List Addr) (H : Hp) : List V → List PyData → Prop
  | nil : Dts N H [] []
  | cons {v : V} {vs : List V} {d : PyData} {ds : List PyData} : Dt N H v d → Dts N H vs ds → Dts N H (v :: vs) (d :: ds)
end
mutual
theorem Dt.mono {N M : List Addr} {H H' : Hp} (f : ∀ a o, a ∉ N → H a = some o → a ∉ M ∧ H' a = some o) : ∀ {v : V} {d : PyData}, Dt N H v d → Dt M H' v d
  | _, _, .non => .non
  | _, _, .bl b => .bl b
  | _, _, .int i => .int i
  | _, _, .str x => .str x
  | _, _, .lst n h t => .lst (f _ _ n h).1 (f _ _ n h).2 (Dts.mono f t)
  | _, _, .tup n h t => .tup (f _ _ n h).1 (f _ _ n h).2 (Dts.mono f t)
theorem Dts.mono {N M : List Addr} {H H' : Hp} (f : ∀ a o, a ∉ N → H a = some o → a ∉ M ∧ H' a = some o) : ∀ {vs : List V} {ds : List PyData}, Dts N H vs ds → Dts M H' vs ds
  | _, _, .nil => .nil
  | _, _, .cons x t => .cons (Dt.mono f x) (Dts.mono f t)
end
mutual
theorem Dt.dp {K : PySem.W.Frag} {N : List Addr} {H : Hp} : ∀ {v : V} {d : PyData}, Dt N H v d → Dp K H v d
  | _, _, .non => .non
  | _, _, .bl b => .bl b
  | _, _, .int i => .int i
  | _, _, .str x => .str x
  | _, _, .lst _ h t => .lst (SqL.of h) (Dts.dp t)
  | _, _, .tup _ h t => .tup (SqT.of h) (Dts.dp t)
theorem Dts.dp {K : PySem.W.Frag} {N : List Addr} {H : Hp} : ∀ {vs : List V} {ds : List PyData}, Dts N H vs ds → DpAll K H vs ds
  | _, _, .nil => .nil
  | _, _, .cons x t => .cons (Dt.dp x) (Dts.dp t)
end
theorem Dt.same {N : List Addr} {H H' : Hp} {v : V} {d : PyData} (f : Same H H') (h : Dt N H v d) : Dt N H' v d := h.mono fun a o n e => ⟨n, f a o e⟩
theorem Dts.same {N : List Addr} {H H' : Hp} {v : List V} {d : List PyData} (f : Same H H') (h : Dts N H v d) : Dts N H' v d := h.mono fun a o n e => ⟨n, f a o e⟩
theorem Dt.fr {N : List Addr} {H H' : Hp} {st : Addr} {v : V} {d : PyData} (f : Fr st H H') (m : st ∈ N) (h : Dt N H v d) : Dt N H' v d := h.mono fun a o n e => ⟨n, f a o e fun z => by rw [z] at n; exact n m⟩
theorem Dts.fr {N : List Addr} {H H' : Hp} {st : Addr} {v : List V} {d : List PyData} (f : Fr st H H') (m : st ∈ N) (h : Dts N H v d) : Dts N H' v d := h.mono fun a o n e => ⟨n, f a o e fun z => by rw [z] at n; exact n m⟩
theorem Dt.upd {N : List Addr} {H : Hp} {p : Addr} {o : HO} {v : V} {d : PyData} (m : p ∈ N) (h : Dt N H v d) : Dt N (upd H p o) v d := h.mono fun a u n e => ⟨n, by rw [upd_ne fun z => by rw [z] at n; exact n m]; exact e⟩
theorem Dts.upd {N : List Addr} {H : Hp} {p : Addr} {o : HO} {v : List V} {d : List PyData} (m : p ∈ N) (h : Dts N H v d) : Dts N (upd H p o) v d := h.mono fun a u n e => ⟨n, by rw [upd_ne fun z => by rw [z] at n; exact n m]; exact e⟩
theorem Dt.new {N : List Addr} {H : Hp} {p : Addr} {o : HO} {v : V} {d : PyData} (m : H p = none) (h : Dt N H v d) : Dt N (L2.upd H p o) v d := h.same (same_new m)
theorem Dts.new {N : List Addr} {H : Hp} {p : Addr} {o : HO} {v : List V} {d : List PyData} (m : H p = none) (h : Dts N H v d) : Dts N (L2.upd H p o) v d := h.same (same_new m)
theorem Dt.away {N : List Addr} {H : Hp} {p : Addr} {v : V} {d : PyData} (m : H p = none) (h : Dt N H v d) : Dt (p :: N) H v d := h.mono fun a o n e => ⟨fun z => by
  rcases List.mem_cons.mp z with y | y
  · rw [y, m] at e; cases e
  · exact n y, e⟩
theorem Dts.away {N : List Addr} {H : Hp} {p : Addr} {v : List V} {d : List PyData} (m : H p = none) (h : Dts N H v d) : Dts (p :: N) H v d := h.mono fun a o n e => ⟨fun z => by
  rcases List.mem_cons.mp z with y | y
  · rw [y, m] at e; cases e
  · exact n y, e⟩
theorem Dt.weak {N : List Addr} {H : Hp} {p : Addr} {v : V} {d : PyData} (h : Dt (p :: N) H v d) : Dt N H v d := h.mono fun a o n e => ⟨fun z => n (List.mem_cons_of_mem _ z), e⟩
theorem Dts.weak {N : List Addr} {H : Hp} {p : Addr} {v : List V} {d : List PyData} (h : Dts (p :: N) H v d) : Dts N H v d := h.mono fun a o n e => ⟨fun z => n (List.mem_cons_of_mem _ z), e⟩
theorem Dts.length {N : List Addr} {H : Hp} : ∀ {vs : List V} {ds : List PyData}, Dts N H vs ds → vs.length = ds.length
  | _, _, .nil => rfl
  | _, _, .cons _ t => congrArg Nat.succ t.length
theorem Dts.get {N : List Addr} {H : Hp} : ∀ {vs : List V} {ds : List PyData} {i : Nat} {v : V}, Dts N H vs ds → vs[i]? = some v → ∃ d, ds[i]? = some d ∧ Dt N H v d
  | _, _, _, _, .nil, h => by simp at h
  | _, _, 0, _, .cons x _, h => by
    have e := Option.some.inj h
    subst e
    exact ⟨_, rfl, x⟩
  | _, _, i + 1, _, .cons _ t, h => t.get (i := i) h
theorem Dts.at {N : List Addr} {H : Hp} : ∀ {vs : List V} {ds : List PyData} {i : Nat} {d : PyData}, Dts N H vs ds → ds[i]? = some d → ∃ v, vs[i]? = some v ∧ Dt N H v d
  | _, _, _, _, .nil, h => by simp at h
  | _, _, 0, _, .cons x _, h => by
    have e := Option.some.inj h
    subst e
    exact ⟨_, rfl, x⟩
  | _, _, i + 1, _, .cons _ t, h => t.at (i := i) h
theorem Dts.app {N : List Addr} {H : Hp} : ∀ {vs ws : List V} {ds es : List PyData}, Dts N H vs ds → Dts N H ws es → Dts N H (vs ++ ws) (ds ++ es)
  | _, _, _, _, .nil, h => h
  | _, _, _, _, .cons x t, h => .cons x (t.app h)
theorem Dts.snoc {N : List Addr} {H : Hp} {vs : List V} {ds : List PyData} {v : V} {d : PyData} (h : Dts N H vs ds) (x : Dt N H v d) : Dts N H (vs ++ [v]) (ds ++ [d]) := h.app (.cons x .nil)
theorem Dts.ints {N : List Addr} {H : Hp} : ∀ xs : List Int, Dts N H (xs.map V.int) (xs.map PyData.int)
  | [] => .nil
  | x :: r => .cons (.int x) (Dts.ints r)
theorem Dt.isL {N : List Addr} {H : Hp} {v : V} {ds : List PyData} (h : Dt N H v (.list ds)) : ∃ p vs, v = .ref p ∧ p ∉ N ∧ H p = some (.lst vs) ∧ Dts N H vs ds := by
  cases h with
  | lst n e t => exact ⟨_, _, rfl, n, e, t⟩
theorem Dt.isT {N : List Addr} {H : Hp} {v : V} {ds : List PyData} (h : Dt N H v (.tuple ds)) : ∃ p vs, v = .ref p ∧ p ∉ N ∧ H p = some (.tup vs) ∧ Dts N H vs ds := by
  cases h with
  | tup n e t => exact ⟨_, _, rfl, n, e, t⟩
theorem Dt.isS {N : List Addr} {H : Hp} {v : V} {x : Str} (h : Dt N H v (.str x)) : v = .str x := by cases h; rfl
theorem Dt.isI {N : List Addr} {H : Hp} {v : V} {x : Int} (h : Dt N H v (.int x)) : v = .int x := by cases h; rfl
theorem Dts.two {N : List Addr} {H : Hp} {vs : List V} {d e : PyData} (h : Dts N H vs [d, e]) : ∃ v w, vs = [v, w] ∧ Dt N H v d ∧ Dt N H w e := by
  cases h with
  | cons x t => cases t with
    | cons y t => cases t; exact ⟨_, _, rfl, x, y⟩
theorem Dts.three {N : List Addr} {H : Hp} {vs : List V} {d e f : PyData} (h : Dts N H vs [d, e, f]) : ∃ v w x, vs = [v, w, x] ∧ Dt N H v d ∧ Dt N H w e ∧ Dt N H x f := by
  cases h with
  | cons x t => cases t with
    | cons y t => cases t with
      | cons z t => cases t; exact ⟨_, _, _, rfl, x, y, z⟩
theorem Dts.isInts {N : List Addr} {H : Hp} : ∀ {xs : List Int} {vs : List V}, Dts N H vs (xs.map PyData.int) → vs = xs.map V.int
  | [], _, .nil => rfl
  | x :: r, _, .cons h t => by
    rw [h.isI, Dts.isInts t]
    rfl
/-- a pair of a text and something -/
theorem Dt.isP {N : List Addr} {H : Hp} {v : V} {x : Str} {d : PyData} (h : Dt N H v (.tuple [.str x, d])) : ∃ p w, v = .ref p ∧ p ∉ N ∧ H p = some (.tup [.str x, w]) ∧ Dt N H w d := by
  obtain ⟨p, vs, e, n, hp, t⟩ := h.isT
  obtain ⟨v', w, e2, h1, h2⟩ := t.two
  rw [h1.isS] at e2
  subst e2
  exact ⟨p, w, e, n, hp, h2⟩
theorem Dt.nilN {N : List Addr} {H : Hp} {v : V} {d : PyData} (h : Dt N H v d) : Dt [] H v d := h.mono fun a o _ e => ⟨(fun z => by cases z), e⟩
theorem Dts.nilN {N : List Addr} {H : Hp} {v : List V} {d : List PyData} (h : Dts N H v d) : Dts [] H v d := h.mono fun a o _ e => ⟨(fun z => by cases z), e⟩
/-- a list under work at D holds these data; its parts stand away from D and N -/
def Bl (N : List Addr) (D : Addr) (H : Hp) (ds : List PyData) : Prop := ∃ vs, H D = some (.lst vs) ∧ Dts (D :: N) H vs ds
theorem Bl.nil {N : List Addr} {D : Addr} {H : Hp} : Bl N D (upd H D (.lst [])) [] := ⟨[], upd_same, .nil⟩
theorem Bl.fr {N : List Addr} {D st : Addr} {H H' : Hp} {ds : List PyData} (h : Bl N D H ds) (n : D ≠ st) (m : st ∈ N) (f : Fr st H H') : Bl N D H' ds := by
  obtain ⟨vs, e, t⟩ := h
  exact ⟨vs, f _ _ e n, t.fr f (List.mem_cons_of_mem _ m)⟩
theorem Bl.same {N : List Addr} {D : Addr} {H H' : Hp} {ds : List PyData} (h : Bl N D H ds) (f : Same H H') : Bl N D H' ds := by
  obtain ⟨vs, e, t⟩ := h
  exact ⟨vs, f _ _ e, t.same f⟩
theorem Bl.push {N : List Addr} {D : Addr} {H : Hp} {ds : List PyData} {vs : List V} {v : V} {d : PyData} (e : H D = some (.lst vs)) (t : Dts (D :: N) H vs ds) (x : Dt (D :: N) H v d) : Bl N D (upd H D (.lst (vs ++ [v]))) (ds ++ [d]) :=
  ⟨_, upd_same, (t.snoc x).upd (List.mem_cons_self ..)⟩
theorem Bl.done {N : List Addr} {D : Addr} {H : Hp} {ds : List PyData} (h : Bl N D H ds) (n : D ∉ N) : Dt N H (.ref D) (.list ds) := by
  obtain ⟨vs, e, t⟩ := h
  exact .lst n e t.weak
theorem not_in1 {a b : Addr} (h : a ≠ b) : a ∉ [b] := fun z => h (List.mem_singleton.mp z)
theorem not_in2 {a b c : Addr} (h : a ≠ b) (g : a ≠ c) : a ∉ [b, c] := fun z => by
  rcases List.mem_cons.mp z with y | y
  · exact h y
  · exact g (List.mem_singleton.mp y)
theorem in1 {a : Addr} : a ∈ [a] := List.mem_cons_self ..
theorem in2 {a b : Addr} : b ∈ [a, b] := List.mem_cons_of_mem _ (List.mem_cons_self ..)
/-- the list at D grows by what was new -/
theorem fr_app {st : Addr} {H0 H : Hp} {D : Addr} {o : HO} (f : Fr st H0 H) (h : H0 D = none) : Fr st H0 (upd H D o) := f.set h

theorem pickS {xs : List Str} {d : Int} (h0 : 0 ≤ d) (h1 : d < xs.length) : ∃ z, atI (xs.map V.str) d = some (.str z) ∧ z ∈ xs := by
  have hj : d.toNat < xs.length := by omega
  refine ⟨xs[d.toNat], at_of (j := d.toNat) (by omega) ?_, List.getElem_mem hj⟩
  rw [List.getElem?_map, List.getElem?_eq_getElem hj]
  rfl
def WIDE3 : List Str := ["bit", "small", "wide"]
def MEAS3 : List Str := ["square", "dot", "bits"]
def KIND3 : List Str := ["integer", "text", "flag"]
def NAME4 : List Str := ["a", "b", "note", "_x"]
def fdD (f : Str × Str) : PyData := .tuple [.str f.1, .str f.2]
structure FieldsOk (fs : List (Str × Str)) : Prop where
  len : fs.length ≤ 3
  names : fs.map (·.1) = NAME4.take fs.length
  kinds : ∀ f ∈ fs, f.2 ∈ KIND3
theorem FieldsOk.snoc {fs : List (Str × Str)} {n k : Str} (h1 : fs.length < 3) (h2 : fs.map (·.1) = NAME4.take fs.length) (h3 : ∀ f ∈ fs, f.2 ∈ KIND3) (hn : NAME4[fs.length]? = some n) (hk : k ∈ KIND3) : FieldsOk (fs ++ [(n, k)]) := by
  refine ⟨by simp; omega, ?_, fun f hf => ?_⟩
  · rw [List.map_append, h2, List.length_append, List.length_singleton, List.take_add_one, hn]
    rfl
  · rcases List.mem_append.mp hf with h | h
    · exact h3 f h
    · rw [List.mem_singleton] at h
      subst h
      exact hk
theorem wide3 {w : Str} (h : w ∈ WIDE3) : ∃ (j : Nat) (lo hi : Int), [V.str "bit", V.str "small", V.str "wide"][j]? = some (.str w) ∧ eqV (.str w) (.str w) = true ∧ (∀ (m : Nat) (z' : V), m < j → [V.str "bit", V.str "small", V.str "wide"][m]? = some z' → eqV z' (.str w) = false)
    ∧ [V.int 0, V.int (-128), V.int (-32768)][j]? = some (.int lo) ∧ [V.int 1, V.int 127, V.int 32767][j]? = some (.int hi) ∧ -32768 ≤ lo ∧ lo ≤ 0 ∧ 1 ≤ hi ∧ hi ≤ 32767 := by
  unfold WIDE3 at h
  simp only [List.mem_cons, List.not_mem_nil, or_false] at h
  rcases h with rfl | rfl | rfl
  · exact ⟨0, _, _, rfl, by decide +kernel, fun m z' hm _ => absurd hm (Nat.not_lt_zero _), rfl, rfl, by decide, by decide, by decide, by decide⟩
  · refine ⟨1, _, _, rfl, by decide +kernel, fun m z' hm e => ?_, rfl, rfl, by decide, by decide, by decide, by decide⟩
    have : m = 0 := by omega
    subst this
    cases Option.some.inj e
    decide +kernel
  · refine ⟨2, _, _, rfl, by decide +kernel, fun m z' hm e => ?_, rfl, rfl, by decide, by decide, by decide, by decide⟩
    have : m = 0 ∨ m = 1 := by omega
    rcases this with rfl | rfl
    · cases Option.some.inj e
      decide +kernel
    · cases Option.some.inj e
      decide +kernel
/-- values of a field -/
def prD (p : Str × PyData) : PyData := .tuple [.str p.1, p.2]
def IsVal (d : PyData) : Prop := (∃ i, d = .int i) ∨ (∃ z, d = .str z ∧ PyData.strOk z = true ∧ z.length ≤ 8) ∨ ∃ b, d = .bool b
structure PairsOk (ps : List (Str × PyData)) : Prop where
  len : ps.length ≤ 8
  names : ∀ p ∈ ps, PyData.strOk p.1 = true ∧ p.1.length ≤ 8
  vals : ∀ p ∈ ps, IsVal p.2
def wdD (w : Str × Int) : PyData := .tuple [.str w.1, .int w.2]
structure WordsOk (ws : List (Str × Int)) : Prop where
  len : ws.length ≤ 8
  words : ∀ w ∈ ws, PyData.strOk w.1 = true ∧ w.1.length ≤ 8

theorem pi_tupB {X : Cx} {K : PySem.W.Frag} (hK : X.K = K) {tg l : Expr} {tl : TE} (hl : PE X l tl) : PI X tg l (iTup K tl) := by
  subst hK
  exact pi_tup hl
theorem pi_listB {X : Cx} {K : PySem.W.Frag} (hK : X.K = K) {tg l : Expr} {tl : TE} (hl : PE X l tl) : PI X tg l (iList K tl) := by
  subst hK
  exact pi_list hl
def rLenB (K : PySem.W.Frag) : List V → Hp → VK → Prop := fun xs H Q => ∃ p ys, xs = [.ref p] ∧ (SqL K H p ys ∨ SqT K H p ys) ∧ Q (.int ys.length) H
def rListB (K : PySem.W.Frag) : List V → Hp → VK → Prop := fun xs H Q => ∃ p ys, xs = [.ref p] ∧ (SqL K H p ys ∨ SqT K H p ys) ∧ ∀ l, H l = none → Q (.ref l) (upd H l (.lst ys))
def rTupleB (K : PySem.W.Frag) : List V → Hp → VK → Prop := fun xs H Q => ∃ p ys, xs = [.ref p] ∧ ((SqL K H p ys ∧ ∀ l, H l = none → Q (.ref l) (upd H l (.tup ys))) ∨ (SqT K H p ys ∧ Q (.ref p) H))

theorem _root_.L2.Room.un60 {k : Nat} {A : Around} (r : Room k A) : A.units + 60 < cLine := by have := r.un; omega
/-- x < y of data alike: ints, texts, tuples and lists of these -/
def rLtA (K : PySem.W.Frag) : R2 := fun x y H Q => ∃ d e, Dp K H x d ∧ Dp K H y e ∧ PySem.W.alike d e = true ∧ d ≠ .none ∧ min d.depth e.depth ≤ 60 ∧ Q (.bl (PySem.W.dataLt d e)) H

theorem op_ltA {X : Cx} (hu : X.A.units + 60 < cLine) : OpR X (compareOp .Lt) (rLtA X.K) := by
  intro pins s σ H x y v u Q I rx ry h
  obtain ⟨d, e, hd, he, ha, hn, hdp, q⟩ := h
  obtain ⟨as, r1⟩ := Dp.reads I d x v hd rx
  obtain ⟨bs, r2⟩ := Dp.reads I e y u he ry
  show wpAny (model X.prog X.w) X.A (richCompare .Lt v u) _ _ _
  exact PySem.W.rcLt_alike d e X.A s v u as bs r1 r2 ha hn (by omega) X.prog X.w _ _ ⟨.bl _, H, I, rfl, q⟩
theorem pe_fldB {X : Cx} {K : PySem.W.Frag} (hK : X.K = K) {e : Expr} {f : Str} {pos : Pos} {ta : TE} (he : PE X e ta) (hb : attributeBase e f X.env (eval e X.env) = eval e X.env) : PE X (.Attribute e f pos) (tFld K ta f) := by
  subst hK
  exact pe_fld he hb

def rootZ (n : Int) : Int := ((Float64.isqrt n.toNat : Nat) : Int)
theorem rootZ_spec {n : Int} (h : 0 ≤ n) : 0 ≤ rootZ n ∧ rootZ n * rootZ n ≤ n ∧ n < (rootZ n + 1) * (rootZ n + 1) := by
  obtain ⟨a, b⟩ := PySem.Float64.isqrt_spec n.toNat
  unfold rootZ
  generalize Float64.isqrt n.toNat = r at *
  have e : ((n.toNat : Nat) : Int) = n := by omega
  have a' : ((r * r : Nat) : Int) ≤ ((n.toNat : Nat) : Int) := by exact_mod_cast a
  have b' : ((n.toNat : Nat) : Int) < (((r + 1) * (r + 1) : Nat) : Int) := by exact_mod_cast b
  rw [e] at a' b'
  refine ⟨Int.natCast_nonneg _, ?_, ?_⟩
  · simpa using a'
  · simpa using b'
theorem root_le {n m r : Int} (h0 : 0 ≤ r) (h1 : n < (r + 1) * (r + 1)) (hm : m * m ≤ n) : m ≤ r := by
  rcases Int.lt_or_le r m with l | l
  · exfalso
    have a : 0 ≤ (m - (r + 1)) * (m + (r + 1)) := Int.mul_nonneg (by omega) (by omega)
    have e : (m - (r + 1)) * (m + (r + 1)) = m * m - (r + 1) * (r + 1) := by grind
    omega
  · exact l
theorem root_eq {n r s : Int} (r0 : 0 ≤ r) (r1 : r * r ≤ n) (r2 : n < (r + 1) * (r + 1)) (s0 : 0 ≤ s) (s1 : s * s ≤ n) (s2 : n < (s + 1) * (s + 1)) : r = s := by
  have a := root_le s0 s2 r1
  have b := root_le r0 r2 s1
  omega
def gapZ (far near : Int) : Int := if near ≥ far then 0 else far + near - rootZ (4 * far * near)
/-- isqrt of an integer below 2 ^ 600 -/
def rIsqrt : List V → Hp → VK → Prop := fun vs H Q => ∃ a : Int, vs = [.int a] ∧ 0 ≤ a ∧ a.natAbs < 2 ^ 600 ∧ Q (.int (rootZ a)) H
theorem cr_isqrt {X : Cx} : CallR X (.builtin "math.isqrt") rIsqrt := by
  intro pins s σ H vs us Q I r h
  obtain ⟨a, rfl, h0, h1, q⟩ := h
  cases r with
  | cons r rr =>
    cases rr
    obtain ⟨t, rfl⟩ := r
    have hl : a.toNat.log2 ≤ 600 := PySem.W.mg_log (Nat.lt_of_le_of_lt (by omega : a.toNat ≤ a.natAbs) (Nat.lt_of_lt_of_le h1 (Nat.pow_le_pow_right (by decide) (by decide : 600 ≤ 601))))
    exact call_function_meets PySem.W.MGF.kind_isqrt PySem.W.MGF.plain_isqrt PySem.W.MGF.entry_isqrt (PySem.W.MGF.args_isqrt _) (PySem.W.mg_run_isqrt a t (by omega) (by omega) (by omega)).meets ⟨.int _, H, I.tok _, ⟨_, rfl⟩, q⟩

namespace ZN
open PySem PySem.Spec PyProof.Rows L2
open PySem.Sem (wp)
/-- what is walked: an address, and whether a tuple stands there -/
structure Src where
  a : Addr
  t : Bool
def SIt (h : Heap) (it : Addr) (x : Src) (k : Nat) : Prop := match x.t with
  | true => h.IsTupleIter it x.a k
  | false => h.IsListIter it x.a k
def SSq (h : Heap) (x : Src) (r : Array Value) : Prop := match x.t with
  | true => h.IsTuple x.a r
  | false => h.IsList x.a r
theorem SIt.at {h h' : Heap} {it : Addr} {x : Src} {k : Nat} (g : SIt h it x k) (e : ∀ o, h.get? it = some o → h'.get? it = some o) : SIt h' it x k := by
  obtain ⟨a, t⟩ := x
  cases t
  · exact Heap.IsListIter.at g e
  · exact Heap.IsTupleIter.at g e
theorem SSq.at {h h' : Heap} {x : Src} {r : Array Value} (g : SSq h x r) (e : ∀ o, h.get? x.a = some o → h'.get? x.a = some o) : SSq h' x r := by
  obtain ⟨a, t⟩ := x
  cases t
  · exact Heap.IsList.at g e
  · exact Heap.IsTuple.at g e
theorem SIt.obj {h : Heap} {it : Addr} {x : Src} {k : Nat} (g : SIt h it x k) : ∃ o, h.get? it = some o ∧ ∀ v, o.data ≠ .cell v := by
  obtain ⟨a, t⟩ := x
  cases t
  · obtain ⟨o, e, _, d⟩ := g
    exact ⟨o, e, fun v q => by rw [d] at q; cases q⟩
  · obtain ⟨o, e, _, d⟩ := g
    exact ⟨o, e, fun v q => by rw [d] at q; cases q⟩
section
variable {prog : Program} {w : World} {A : Around} {E : Value → Shared → Prop} {s : Shared}
theorem nextOf_item {it : Addr} {x : Src} {k : Nat} {r : Array Value} {v : Value} {Q : Value → Shared → Prop} (hit : SIt s.heap it x k) (hl : SSq s.heap x r) (hx : r[k]? = some v)
    (hQ : ∀ h', SIt h' it x (k + 1) → Heap.SameBut it s.heap h' → Q v { s with heap := h' }) : wpAny (model prog w) A (Builtin.SmallTypes.nextOf (.ref it)) Q E s := by
  obtain ⟨a, t⟩ := x
  cases t
  · exact wpAny_nextOf_list_item hit hl hx hQ
  · exact RZ.nextOf_tuple_item hit hl hx hQ
theorem nextOf_end {it : Addr} {x : Src} {k : Nat} {r : Array Value} {Q : Value → Shared → Prop} (hh : A.handled = none) (hit : SIt s.heap it x k) (hl : SSq s.heap x r) (hx : r[k]? = none)
    (hE : ∀ h' e, Heap.ExtBut it s.heap h' → (∃ o, h'.get? e = some o ∧ o.cls = .type "StopIteration") → E (.ref e) { s with heap := h' }) : wpAny (model prog w) A (Builtin.SmallTypes.nextOf (.ref it)) Q E s := by
  obtain ⟨a, t⟩ := x
  cases t
  · exact wpAny_nextOf_list_end hh hit hl hx hE
  · exact RZ.nextOf_tuple_end hh hit hl hx hE
theorem pyIter_src {x : Src} {r : Array Value} {Q : Value → Shared → Prop} (hl : SSq s.heap x r)
    (hQ : Q (.ref s.heap.objs.size) { s with heap := s.heap.push { cls := .type (if x.t then "tuple_iterator" else "list_iterator"), data := .fields #[.ref x.a, .int 0 0] } }) :
    wpAny (model prog w) A (pyIter (.ref x.a)) Q E s := by
  obtain ⟨a, t⟩ := x
  cases t
  · exact wpAny_pyIter_list hl hQ
  · exact wpAny_pyIter_tuple hl hQ
theorem forIn_by {α β : Type} {r0 : β} {Q : β → Shared → Prop} : ∀ {l : List α} {f : α → β → Sem (ForInStep β)} (I : Nat → Shared → Prop) {s : Shared}, I 0 s →
    (∀ j x s, l[j]? = some x → I j s → wpAny (model prog w) A (f x r0) (fun r s' => r = .yield r0 ∧ I (j + 1) s') E s) → (∀ s, I l.length s → Q r0 s) → wpAny (model prog w) A (forIn l r0 f) Q E s
  | [], f, I, s, h0, _, hd => by
    rw [List.forIn_nil]
    exact wpAny_pure (hd s h0)
  | y :: r, f, I, s, h0, hs, hd => by
    rw [List.forIn_cons]
    refine wpAny_bind (wpAny_mono (hs 0 y s rfl h0) (fun z s' q => ?_) fun _ _ e => e)
    obtain ⟨rfl, q⟩ := q
    exact forIn_by (l := r) (fun j => I (j + 1)) q (fun j x s hx => hs (j + 1) x s hx) hd
theorem updateSeq_at {T : Addr} {ys : Array Value} {x : Value} {k : Nat} {Q : Unit → Shared → Prop} (hT : s.heap.get? T = some { cls := .type "tuple", data := .seq ys }) (hz : ys.size ≤ sizeLine)
    (h : ∀ h', h'.get? T = some { cls := .type "tuple", data := .seq (ys.setIfInBounds k x) } → Heap.SameBut T s.heap h' → Q () { s with heap := h' }) :
    wpAny (model prog w) A (updateSeq T (·.setIfInBounds k x)) Q E s := by
  refine wpAny_updateSeq hT rfl (h _ ?_ (Heap.SameBut.update ..)) hz (by simp; omega)
  rw [Heap.get?_update_self _ hT rfl]
  simp [Obj.mapSeq]
structure Apart (z TI TO : Addr) (is : List Addr) (srcs : List Src) : Prop where
  TIz : TI ≠ z
  TOz : TO ≠ z
  TITO : TI ≠ TO
  zi : z ∉ is
  TIi : TI ∉ is
  TOi : TO ∉ is
  nd : is.Nodup
  sz : ∀ x ∈ srcs, x.a ≠ z
  sTO : ∀ x ∈ srcs, x.a ≠ TO
  si : ∀ x ∈ srcs, x.a ∉ is
theorem nd_inj {α : Type} {is : List α} {i j : Nat} {a : α} (h : is.Nodup) (e1 : is[i]? = some a) (e2 : is[j]? = some a) : i = j := by
  obtain ⟨l1, g1⟩ := List.getElem?_eq_some_iff.mp e1
  obtain ⟨l2, g2⟩ := List.getElem?_eq_some_iff.mp e2
  rcases Nat.lt_trichotomy i j with g | g | g
  · exact absurd (g1.trans g2.symm) (List.pairwise_iff_getElem.mp h i j l1 l2 g)
  · exact g
  · exact absurd (g2.trans g1.symm) (List.pairwise_iff_getElem.mp h j i l2 l1 g)
def refs (is : List Addr) : Array Value := (is.map Value.ref).toArray
theorem next {z TI TO : Addr} {is : List Addr} {srcs : List Src} {k : Nat} {row : Nat → Array Value} {Q : Fin → Shared → Prop} (hh : A.handled = none) (D : Apart z TI TO is srcs) (hlen : is.length = srcs.length) (hne : is ≠ []) (hsm : is.length ≤ 1000)
    (hz : IsZip s.heap z TI TO .none) (hTI : s.heap.get? TI = some { cls := .type "tuple", data := .seq (refs is) }) (hTO : ∃ ys : Array Value, ys.size = is.length ∧ s.heap.get? TO = some { cls := .type "tuple", data := .seq ys })
    (hit : ∀ (j : Nat) (i : Addr) (x : Src), is[j]? = some i → srcs[j]? = some x → SIt s.heap i x k) (hsq : ∀ (j : Nat) (x : Src), srcs[j]? = some x → SSq s.heap x (row j))
    (hQ : (∀ j, j < is.length → (row j)[k]? ≠ none) → ∀ h' (ys : Array Value), IsZip h' z TI TO (rawInt s.heap.objs.size) → ys.size = is.length → (∀ j, j < is.length → ys[j]? = (row j)[k]?) → h'.get? TO = some { cls := .type "tuple", data := .seq ys } →
      (∀ (j : Nat) (i : Addr) (x : Src), is[j]? = some i → srcs[j]? = some x → SIt h' i x (k + 1)) → h'.get? s.heap.objs.size = some { cls := .type "tuple", data := .seq ys } → h'.objs.size = s.heap.objs.size + 1 →
      (∀ c o, c ≠ z → c ≠ TO → c ∉ is → s.heap.get? c = some o → h'.get? c = some o) → Q (.done (.ret (.ref s.heap.objs.size))) { s with heap := h' })
    (hE : (∃ j, j < is.length ∧ (row j)[k]? = none) → ∀ h' e, (∀ c o, c ≠ z → c ≠ TO → c ∉ is → s.heap.get? c = some o → h'.get? c = some o) → (∃ o, h'.get? e = some o ∧ o.cls = .type "StopIteration") → E (.ref e) { s with heap := h' }) :
    wpAny (model prog w) A (Builtin.«zip.__next__» ⟨[.ref z], []⟩) Q E s := by
  show wpAny _ _ (field (.ref z) 2 >>= _) _ _ _
  refine wpAny_bind (wpAny_field hz rfl (x := .bool false) rfl ?_)
  show wpAny _ _ (field (.ref z) 3 >>= _) _ _ _
  refine wpAny_bind (wpAny_field hz rfl (x := .ref TI) rfl ?_)
  refine wpAny_bind (wpAny_seqItems hTI rfl ?_)
  have hem : (refs is).isEmpty = false := by
    cases is with
    | nil => exact absurd rfl hne
    | cons i r => rfl
  simp only [hem, Bool.false_eq_true, if_false]
  show wpAny _ _ (Builtin.SmallTypes.ownedTupleIsFree (.ref z) >>= _) _ _ _
  refine wpAny_bind ?_
  unfold Builtin.SmallTypes.ownedTupleIsFree
  refine wpAny_bind (wpAny_field hz rfl (x := .none) rfl (wpAny_pure ?_))
  simp only [if_true]
  refine wpAny_bind (wpAny_rule ?_)
  refine wpAny_bind (wpAny_field hz rfl (x := .ref TO) rfl ?_)
  refine wpAny_bind (wpAny_setField_rec hz (by simp) fun h₁ hz₁ hs₁ => ?_)
  replace hz₁ : IsZip h₁ z TI TO .ellipsis := hz₁
  refine wpAny_bind ?_
  refine forIn_by (fun j s' => ∃ h', s' = { s with heap := h' } ∧ IsZip h' z TI TO .ellipsis ∧ (∃ ys : Array Value, ys.size = is.length ∧ h'.get? TO = some { cls := .type "tuple", data := .seq ys } ∧ ∀ i, i < j → i < is.length → ys[i]? = (row i)[k]?) ∧
    (∀ (i : Nat) (a : Addr) (x : Src), is[i]? = some a → srcs[i]? = some x → SIt h' a x (if i < j then k + 1 else k)) ∧ h'.objs.size = s.heap.objs.size ∧ (∀ i, i < j → i < is.length → (row i)[k]? ≠ none) ∧
    ∀ c o, c ≠ z → c ≠ TO → c ∉ is → s.heap.get? c = some o → h'.get? c = some o) ?_ ?_ ?_
  · obtain ⟨ys, y1, y2⟩ := hTO
    refine ⟨h₁, rfl, hz₁, ⟨ys, y1, hs₁.extBut _ _ D.TOz y2, fun i hi => absurd hi (Nat.not_lt_zero i)⟩, fun i a x e1 e2 => ?_, hs₁.1, fun i hi => absurd hi (Nat.not_lt_zero i), fun c o c1 _ _ e => hs₁.extBut _ _ c1 e⟩
    rw [if_neg (Nat.not_lt_zero i)]
    have ne : a ≠ z := fun q => D.zi (q ▸ List.mem_of_getElem? e1)
    exact (hit i a x e1 e2).at fun o q => hs₁.extBut _ _ ne q
  · rintro j ⟨v, n⟩ s' hj ⟨h', rfl, hz', ⟨ys, y1, y2, y3⟩, it', hsz, had, hk⟩
    rw [List.getElem?_zipIdx] at hj
    have hj' : ∃ a, is[j]? = some a ∧ v = .ref a ∧ n = j := by
      unfold refs at hj
      rw [List.toList_toArray, List.getElem?_map] at hj
      cases ea : is[j]? with
      | none => rw [ea] at hj; cases hj
      | some a =>
        rw [ea] at hj
        have := Option.some.inj hj
        have e1 := (Prod.mk.inj this).1
        have e2 := (Prod.mk.inj this).2
        exact ⟨a, rfl, e1.symm, by omega⟩
    obtain ⟨a, ea, rfl, rfl⟩ := hj'
    have jl : n < is.length := (List.getElem?_eq_some_iff.mp ea).1
    obtain ⟨x, ex⟩ : ∃ x, srcs[n]? = some x := ⟨srcs[n]'(by omega), List.getElem?_eq_getElem _⟩
    have ma := List.mem_of_getElem? ea
    have mx := List.mem_of_getElem? ex
    have az : a ≠ z := fun q => D.zi (q ▸ ma)
    have aTO : a ≠ TO := fun q => D.TOi (q ▸ ma)
    have hI := it' n a x ea ex
    rw [if_neg (Nat.lt_irrefl n)] at hI
    have hS : SSq h' x (row n) := (hsq n x ex).at fun o q => hk _ o (D.sz x mx) (D.sTO x mx) (D.si x mx) q
    refine wpAny_bind (wpAny_onRaise ?_)
    show wpAny _ _ (Builtin.SmallTypes.nextOf (.ref a) >>= _) _ _ _
    cases hx : (row n)[k]? with
    | none =>
      refine wpAny_bind (nextOf_end hh hI hS hx fun h₂ e hs₂ he => ?_)
      obtain ⟨oe, hoe, hce⟩ := he
      have hz₂ : IsZip h₂ z TI TO .ellipsis := hs₂ _ _ az.symm hz'
      have hez : e ≠ z := fun x => by subst x; rw [hz₂] at hoe; cases hoe; simp at hce
      refine wpAny_setField_rec hz₂ (by simp) fun h₃ _ hs₃ => hE ⟨n, jl, hx⟩ h₃ e (fun c o c1 c2 c3 q => hs₃.extBut _ _ c1 (hs₂ _ _ (fun q' => c3 (q' ▸ ma)) (hk c o c1 c2 c3 q))) ⟨oe, hs₃.extBut _ _ hez hoe, hce⟩
    | some u =>
      refine wpAny_bind (nextOf_item hI hS hx fun h₂ h1₂ hs₂ => wpAny_pure ?_)
      have hTO₂ : h₂.get? TO = some { cls := .type "tuple", data := .seq ys } := hs₂.extBut _ _ aTO.symm y2
      refine wpAny_bind (wpAny_seqItems hTO₂ rfl ?_)
      refine wpAny_bind (updateSeq_at hTO₂ (by rw [y1]; exact Nat.le_trans hsm (by decide)) fun h₃ hTO₃ hs₃ => ?_)
      refine wpAny_bind (wpAny_letGo (wpAny_pure ⟨rfl, h₃, rfl, hs₃.extBut _ _ D.TOz.symm (hs₂.extBut _ _ az.symm hz'), ⟨_, by simp [y1], hTO₃, fun i hi il => ?_⟩, fun i b x' e1 e2 => ?_, by rw [hs₃.1, hs₂.1, hsz], fun i hi il => ?_, fun c o c1 c2 c3 q => ?_⟩))
      · rcases Nat.lt_or_ge i n with g | g
        · rw [Array.getElem?_setIfInBounds_ne (by omega)]
          exact y3 i g il
        · have e : i = n := by omega
          subst e
          rw [Array.getElem?_setIfInBounds_self_of_lt (by omega), hx]
      · rcases Nat.lt_trichotomy i n with g | g | g
        · rw [if_pos (by omega)]
          have hb := it' i b x' e1 e2
          rw [if_pos g] at hb
          have ne : b ≠ a := fun q => by
            have := nd_inj D.nd e1 (q ▸ ea)
            omega
          have nT : b ≠ TO := fun q => D.TOi (q ▸ List.mem_of_getElem? e1)
          exact (hb.at fun o q => hs₂.extBut _ _ ne q).at fun o q => hs₃.extBut _ _ nT q
        · subst g
          rw [ea] at e1
          rw [ex] at e2
          cases e1
          cases e2
          rw [if_pos (by omega)]
          exact h1₂.at fun o q => hs₃.extBut _ _ aTO q
        · rw [if_neg (by omega)]
          have hb := it' i b x' e1 e2
          rw [if_neg (by omega)] at hb
          have ne : b ≠ a := fun q => by
            have := nd_inj D.nd e1 (q ▸ ea)
            omega
          have nT : b ≠ TO := fun q => D.TOi (q ▸ List.mem_of_getElem? e1)
          exact (hb.at fun o q => hs₂.extBut _ _ ne q).at fun o q => hs₃.extBut _ _ nT q
      · rcases Nat.lt_or_ge i n with g | g
        · exact had i g il
        · have e : i = n := by omega
          subst e
          rw [hx]
          exact fun q => nomatch q
      · exact hs₃.extBut _ _ c2 (hs₂.extBut _ _ (fun q' => c3 (q' ▸ ma)) (hk c o c1 c2 c3 q))
  · rintro s' ⟨h', rfl, hz', ⟨ys, y1, y2, y3⟩, it', hsz, had, hk⟩
    have ll : (refs is).toList.zipIdx.length = is.length := by simp [refs]
    rw [ll] at y3 it' had
    refine wpAny_bind (wpAny_seqItems y2 rfl ?_)
    refine wpAny_bind (wpAny_newTuple ?_ (by simp [y1]; exact Nat.le_trans hsm (by decide)))
    show wpAny _ _ (Builtin.SmallTypes.ownedTupleHandOut (.ref z) (.ref h'.objs.size) >>= _) _ _ _
    refine wpAny_bind ?_
    unfold Builtin.SmallTypes.ownedTupleHandOut
    have hzlt : z < h'.objs.size := Heap.lt_size hz'
    have hz₆ : IsZip (h'.push { cls := .type "tuple", data := .seq ys }) z TI TO .ellipsis := Heap.get?_push_of_some _ hz'
    refine wpAny_bind (wpAny_setField_rec hz₆ (by simp) fun h₇ hz₇ hs₇ => ?_)
    replace hz₇ : IsZip h₇ z TI TO (rawInt h'.objs.size) := hz₇
    refine wpAny_setField_rec hz₇ (by simp) fun h₈ hz₈ hs₈ => ?_
    replace hz₈ : IsZip h₈ z TI TO (rawInt h'.objs.size) := hz₈
    have up : ∀ c o, c ≠ z → h'.get? c = some o → h₈.get? c = some o := fun c o c1 e => hs₈.extBut _ _ c1 (hs₇.extBut _ _ c1 (Heap.get?_push_of_some _ e))
    have hT₈ : h₈.get? h'.objs.size = some { cls := .type "tuple", data := .seq ys } := hs₈.extBut _ _ (Nat.ne_of_gt hzlt) (hs₇.extBut _ _ (Nat.ne_of_gt hzlt) (Heap.get?_push_size _ rfl))
    have hz8 : h₈.objs.size = h'.objs.size + 1 := by rw [hs₈.1, hs₇.1, Heap.size_push]
    rw [hsz] at hz₈ hT₈ hz8
    refine wpAny_pure ?_
    show Q (.done (.ret (.ref h'.objs.size))) _
    rw [hsz]
    refine hQ (fun j hj => had j hj hj) h₈ ys hz₈ y1 (fun j hj => y3 j hj hj) (up _ _ D.TOz y2) (fun i a x e1 e2 => ?_) hT₈ hz8 fun c o c1 c2 c3 e => up c o c1 (hk c o c1 c2 c3 e)
    have hb := it' i a x e1 e2
    rw [if_pos (List.getElem?_eq_some_iff.mp e1).1] at hb
    exact hb.at fun o e => up _ o (fun q => D.zi (q ▸ List.mem_of_getElem? e1)) e
theorem pyNext_item {z TI TO : Addr} {is : List Addr} {srcs : List Src} {k : Nat} {row : Nat → Array Value} {Q : Option Value → Shared → Prop} (hh : A.handled = none) (D : Apart z TI TO is srcs) (hlen : is.length = srcs.length) (hne : is ≠ []) (hsm : is.length ≤ 1000)
    (hz : IsZip s.heap z TI TO .none) (hTI : s.heap.get? TI = some { cls := .type "tuple", data := .seq (refs is) }) (hTO : ∃ ys : Array Value, ys.size = is.length ∧ s.heap.get? TO = some { cls := .type "tuple", data := .seq ys })
    (hit : ∀ (j : Nat) (i : Addr) (x : Src), is[j]? = some i → srcs[j]? = some x → SIt s.heap i x k) (hsq : ∀ (j : Nat) (x : Src), srcs[j]? = some x → SSq s.heap x (row j)) (hall : ∀ j, j < is.length → (row j)[k]? ≠ none)
    (hQ : ∀ h' (ys : Array Value), IsZip h' z TI TO (rawInt s.heap.objs.size) → ys.size = is.length → (∀ j, j < is.length → ys[j]? = (row j)[k]?) → h'.get? TO = some { cls := .type "tuple", data := .seq ys } →
      (∀ (j : Nat) (i : Addr) (x : Src), is[j]? = some i → srcs[j]? = some x → SIt h' i x (k + 1)) → h'.get? s.heap.objs.size = some { cls := .type "tuple", data := .seq ys } → h'.objs.size = s.heap.objs.size + 1 →
      (∀ c o, c ≠ z → c ≠ TO → c ∉ is → s.heap.get? c = some o → h'.get? c = some o) → Q (some (.ref s.heap.objs.size)) { s with heap := h' }) :
    wpAny (model prog w) A (pyNext (.ref z)) Q E s := by
  have hT : s.TypeIs (.ref z) "zip" := ⟨_, hz, rfl⟩
  unfold pyNext
  refine wpAny_bind (wpAny_attempt (wpAny_callSpecial?_slot (name := Str.ofString "__next__") hT F.slot_zip_next
    (wpAny_call_entry F.slot_zip_next hT F.entry_zip_next
      (next (A := A.in1) hh D hlen hne hsm hz hTI hTO hit hsq (fun _ h' ys a1 a2 a3 a4 a5 a6 a7 a8 => ⟨_, rfl, wpAny_pure (hQ h' ys a1 a2 a3 a4 a5 a6 a7 a8)⟩) (fun g => ?_)) (F.args_zip_next_1 _))))
  obtain ⟨j, jl, e⟩ := g
  exact absurd e (hall j jl)
theorem pyNext_end {z TI TO : Addr} {is : List Addr} {srcs : List Src} {k : Nat} {row : Nat → Array Value} {Q : Option Value → Shared → Prop} (hh : A.handled = none) (D : Apart z TI TO is srcs) (hlen : is.length = srcs.length) (hne : is ≠ []) (hsm : is.length ≤ 1000)
    (hz : IsZip s.heap z TI TO .none) (hTI : s.heap.get? TI = some { cls := .type "tuple", data := .seq (refs is) }) (hTO : ∃ ys : Array Value, ys.size = is.length ∧ s.heap.get? TO = some { cls := .type "tuple", data := .seq ys })
    (hit : ∀ (j : Nat) (i : Addr) (x : Src), is[j]? = some i → srcs[j]? = some x → SIt s.heap i x k) (hsq : ∀ (j : Nat) (x : Src), srcs[j]? = some x → SSq s.heap x (row j)) (hend : ∃ j, j < is.length ∧ (row j)[k]? = none)
    (hQ : ∀ h', (∀ c o, c ≠ z → c ≠ TO → c ∉ is → s.heap.get? c = some o → h'.get? c = some o) → Q none { s with heap := h' }) : wpAny (model prog w) A (pyNext (.ref z)) Q E s := by
  have hT : s.TypeIs (.ref z) "zip" := ⟨_, hz, rfl⟩
  unfold pyNext
  refine wpAny_bind (wpAny_attempt (wpAny_callSpecial?_slot (name := Str.ofString "__next__") hT F.slot_zip_next
    (wpAny_call_entry F.slot_zip_next hT F.entry_zip_next (next (A := A.in1) hh D hlen hne hsm hz hTI hTO hit hsq (fun g => ?_) (fun _ h' e hk he => ?_)) (F.args_zip_next_1 _))))
  · obtain ⟨j, jl, e⟩ := hend
    exact absurd e (g j jl)
  · obtain ⟨o, ho, hc⟩ := he
    refine wpAny_bind (wpAny_isInstance (T := "StopIteration") (b := true) ⟨o, ho, hc⟩ isSubtype_stop ?_)
    exact wpAny_pure (hQ _ hk)
end
def SqX (K : PySem.W.Frag) (H : Hp) (x : Src) (xs : List V) : Prop := match x.t with
  | true => SqT K H x.a xs
  | false => SqL K H x.a xs
theorem sq_get {X : Cx} {pins : List (Addr × Obj)} {σ : L2.St} {H : Hp} {s : Shared} (I : Inv X pins σ H s) {x : Src} {xs : List V} (q : SqX X.K H x xs) : ∃ its : List Value, Vals xs its ∧ SSq s.heap x its.toArray := by
  obtain ⟨a, t⟩ := x
  cases t
  · obtain ⟨its, rv, p, _⟩ := I.list q
    exact ⟨its, rv, p.isList⟩
  · obtain ⟨its, rv, p, _⟩ := I.tuple q
    exact ⟨its, rv, p⟩
theorem sq_inj {X : Cx} {pins : List (Addr × Obj)} {σ : L2.St} {H : Hp} {s : Shared} (I : Inv X pins σ H s) {x : Src} {xs ys : List V} (q : SqX X.K H x xs) (r : SqX X.K H x ys) : xs = ys := by
  obtain ⟨a, t⟩ := x
  cases t
  · exact I.list_inj q r
  · exact I.tuple_inj q r
/-- things as they stand at each turn, the items in a new tuple -/
def ItN (K : PySem.W.Frag) (srcs : List Src) : It :=
  ⟨fun i H => ∀ (j : Nat) (x : Src), srcs[j]? = some x → ∃ xs v, SqX K H x xs ∧ xs[i]? = some v,
    fun i H v H' => ∃ T vs, v = .ref T ∧ H T = none ∧ H' = upd H T (.tup vs) ∧ vs.length = srcs.length ∧ ∀ (j : Nat) (x : Src) (xs : List V), srcs[j]? = some x → SqX K H x xs → ∃ y, xs[i]? = some y ∧ vs[j]? = some y,
    fun i H => (∀ (j : Nat) (x : Src), srcs[j]? = some x → ∃ xs, SqX K H x xs) ∧ ∃ (j : Nat) (x : Src) (xs : List V), srcs[j]? = some x ∧ SqX K H x xs ∧ xs.length ≤ i⟩
theorem vals_of : ∀ {us : List Value} {P : Nat → V → Prop}, (∀ j u, us[j]? = some u → ∃ v, RelV v u ∧ P j v) → ∃ vs, Vals vs us ∧ ∀ j v, vs[j]? = some v → P j v
  | [], _, _ => ⟨[], .nil, fun j v h => by simp at h⟩
  | u :: r, P, h => by
    obtain ⟨v, r1, p1⟩ := h 0 u rfl
    obtain ⟨vs, r2, p2⟩ := vals_of (us := r) (P := fun j => P (j + 1)) fun j u e => h (j + 1) u e
    refine ⟨v :: vs, .cons r1 r2, fun j w e => ?_⟩
    cases j with
    | zero =>
      have := Option.some.inj e
      subst this
      exact p1
    | succ j => exact p2 j w e
theorem rows {X : Cx} {pins : List (Addr × Obj)} {σ : L2.St} {H : Hp} {s : Shared} (I : Inv X pins σ H s) {srcs : List Src} (h : ∀ (j : Nat) (x : Src), srcs[j]? = some x → ∃ xs, SqX X.K H x xs) :
    ∃ row : Nat → List Value, ∀ (j : Nat) (x : Src), srcs[j]? = some x → ∃ xs, SqX X.K H x xs ∧ Vals xs (row j) ∧ SSq s.heap x (row j).toArray := by
  refine Classical.axiomOfChoice (r := fun (j : Nat) (r : List Value) => ∀ x : Src, srcs[j]? = some x → ∃ xs, SqX X.K H x xs ∧ Vals xs r ∧ SSq s.heap x r.toArray) fun j => ?_
  cases e : srcs[j]? with
  | none => exact ⟨[], fun x h => nomatch h⟩
  | some x =>
    obtain ⟨xs, q⟩ := h j x e
    obtain ⟨its, rv, p⟩ := sq_get I q
    exact ⟨its, fun y hy => by cases hy; exact ⟨xs, q, rv, p⟩⟩
theorem turnN {P : Program} {w : World} {K : PySem.W.Frag} {elts : List Expr} {kk : Nat} {tpos : Pos} {z TI TO : Addr} {is : List Addr} {srcs : List Src} (D : Apart z TI TO is srcs) (hlen : is.length = srcs.length) (hne : is ≠ []) (hsm : is.length ≤ 1000) :
    Turn P w K (.Tuple elts kk tpos) (ItN K srcs) (z :: TI :: TO :: is) z (fun i h => IsZip h z TI TO .none ∧ h.get? TI = some { cls := .type "tuple", data := .seq (refs is) } ∧ (∃ ys : Array Value, ys.size = is.length ∧ h.get? TO = some { cls := .type "tuple", data := .seq ys }) ∧
      ∀ (j : Nat) (b : Addr) (x : Src), is[j]? = some b → srcs[j]? = some x → SIt h b x i) where
  mem := List.mem_cons_self ..
  obj := fun i h st c hc => by
    obtain ⟨hz, hTI, ⟨ys, _, hTO⟩, hi⟩ := st
    rcases List.mem_cons.mp hc with q | hc
    · rw [q]; exact ⟨_, hz, fun v q => nomatch q⟩
    rcases List.mem_cons.mp hc with q | hc
    · rw [q]; exact ⟨_, hTI, fun v q => nomatch q⟩
    rcases List.mem_cons.mp hc with q | hc
    · rw [q]; exact ⟨_, hTO, fun v q => nomatch q⟩
    obtain ⟨j, ej⟩ := List.mem_iff_getElem?.mp hc
    have jl := (List.getElem?_eq_some_iff.mp ej).1
    exact (hi j c _ ej (List.getElem?_eq_getElem (by omega))).obj
  keep := fun i h h' st k => by
    obtain ⟨hz, hTI, ⟨ys, y1, hTO⟩, hi⟩ := st
    exact ⟨k z (by simp) _ hz, k TI (by simp) _ hTI, ⟨ys, y1, k TO (by simp) _ hTO⟩, fun j b x e1 e2 => (hi j b x e1 e2).at fun o q => k b (by simp [List.mem_of_getElem? e1]) o q⟩
  item := by
    intro X hP hw hK hc i pins s σ H E I hf st hg
    subst hP hw hK
    obtain ⟨hz, hTI, hTO, hi⟩ := st
    obtain ⟨row, hrow⟩ := rows I (srcs := srcs) fun j x e => by obtain ⟨xs, v, q, _⟩ := hg j x e; exact ⟨xs, q⟩
    have hzl : z < s.heap.objs.size := Heap.lt_size hz
    have src : ∀ j, j < is.length → ∃ x, srcs[j]? = some x := fun j hj => ⟨srcs[j]'(by omega), List.getElem?_eq_getElem _⟩
    refine pyNext_item (row := fun j => (row j).toArray) (I.ok.hd hc) D hlen hne hsm hz hTI hTO hi (fun j x e => by obtain ⟨xs, _, _, p⟩ := hrow j x e; exact p) (fun j hj => ?_) fun h' ys z' y1 y2 TO' hi' hT hsz hk => ?_
    · obtain ⟨x, ex⟩ := src j hj
      obtain ⟨xs, q, rv, _⟩ := hrow j x ex
      obtain ⟨xs', v, q', hv⟩ := hg j x ex
      rw [sq_inj I q' q] at hv
      obtain ⟨u, hu, _⟩ := rv.get hv
      rw [List.getElem?_toArray, hu]
      exact fun q => nomatch q
    refine ⟨_, rfl, wpAny_letOwnedTupleGo_zip (s := { s with heap := h' }) z' fun h'' z'' sb => ?_⟩
    have hT2 : h''.get? s.heap.objs.size = some { cls := .type "tuple", data := .seq ys } := (sb.2 _ (Nat.ne_of_gt hzl)).trans hT
    obtain ⟨vs, rvs, pvs⟩ := vals_of (us := ys.toList) (P := fun j v => ∀ (x : Src) (xs : List V), srcs[j]? = some x → SqX X.K H x xs → xs[i]? = some v) fun j u e => by
      have jl : j < is.length := by
        have := (List.getElem?_eq_some_iff.mp e).1
        simp at this
        omega
      obtain ⟨x, ex⟩ := src j jl
      obtain ⟨xs, q, rv, _⟩ := hrow j x ex
      obtain ⟨xs', v, q', hv⟩ := hg j x ex
      rw [sq_inj I q' q] at hv
      obtain ⟨u', hu, ru⟩ := rv.get hv
      have e2 := y2 j jl
      rw [← Array.getElem?_toList, e] at e2
      have e3 : u = u' := by
        have : (row j).toArray[i]? = some u' := by rw [List.getElem?_toArray]; exact hu
        rw [this] at e2
        exact Option.some.inj e2
      subst e3
      refine ⟨v, ru, fun x' ys' ex' q'' => ?_⟩
      rw [ex] at ex'
      cases ex'
      rw [sq_inj I q'' q]
      exact hv
    have lvs : vs.length = srcs.length := by
      have := rvs.length
      simp at this
      omega
    have new : ObjOk X.prog X.w (upd H s.heap.objs.size (.tup vs)) h'' s.heap.objs.size (.tup vs) :=
      ⟨by rw [lvs, ← hlen]; exact Nat.le_trans hsm (by decide), ys.toList, rvs, ⟨_, hT2, rfl, 0, by simp⟩⟩
    have I1 : Inv X pins σ (upd H s.heap.objs.size (.tup vs)) { s with heap := h'' } :=
      I.turnedNew (t' := s.toks) (ch := z :: TI :: TO :: is) (fun c o hb q => (sb.2 c (fun q' => hb (by simp [q']))).trans (hk c o (fun q' => hb (by simp [q'])) (fun q' => hb (by simp [q'])) (fun q' => hb (by simp [q'])) q)) hf (Nat.le_refl _) new
    refine ⟨.ref s.heap.objs.size, _, I1, rfl, ⟨_, vs, rfl, I.hok.fresh (Nat.le_refl _), rfl, lvs, fun j x xs ex q => ?_⟩, ⟨z'', ?_, ⟨ys, y1, ?_⟩, fun j b x e1 e2 => ?_⟩, fun c hcm => ?_⟩
    · have jl : j < vs.length := by rw [lvs]; exact (List.getElem?_eq_some_iff.mp ex).1
      exact ⟨vs[j], pvs j _ (List.getElem?_eq_getElem jl) x xs ex q, List.getElem?_eq_getElem jl⟩
    · exact (sb.2 _ D.TIz).trans (hk _ _ D.TIz D.TITO D.TIi hTI)
    · exact (sb.2 _ D.TOz).trans TO'
    · exact (hi' j b x e1 e2).at fun o q => (sb.2 _ (fun q' => D.zi (q' ▸ List.mem_of_getElem? e1))).trans q
    · have hlt : c < s.heap.objs.size := by
        rcases List.mem_cons.mp hcm with q | hcm
        · rw [q]; exact hzl
        rcases List.mem_cons.mp hcm with q | hcm
        · rw [q]; exact Heap.lt_size hTI
        rcases List.mem_cons.mp hcm with q | hcm
        · obtain ⟨_, _, e⟩ := hTO; rw [q]; exact Heap.lt_size e
        obtain ⟨j, ej⟩ := List.mem_iff_getElem?.mp hcm
        have jl := (List.getElem?_eq_some_iff.mp ej).1
        obtain ⟨o, e, _⟩ := (hi j c _ ej (List.getElem?_eq_getElem (by omega))).obj
        exact Heap.lt_size e
      rw [upd_ne (Nat.ne_of_lt hlt)]
      exact (hf c hcm).1
  done := by
    intro X hP hw hK hc i pins s σ H E I hf st hg
    subst hP hw hK
    obtain ⟨hz, hTI, hTO, hi⟩ := st
    obtain ⟨hall, j, x, xs, ex, q, hl⟩ := hg
    obtain ⟨row, hrow⟩ := rows I (srcs := srcs) hall
    refine pyNext_end (row := fun j => (row j).toArray) (I.ok.hd hc) D hlen hne hsm hz hTI hTO hi (fun j x e => by obtain ⟨xs, _, _, p⟩ := hrow j x e; exact p) ⟨j, by rw [hlen]; exact (List.getElem?_eq_some_iff.mp ex).1, ?_⟩ fun h' hk => ⟨rfl, I.turnedL (t' := s.toks) (ch := z :: TI :: TO :: is) (fun c o hb q =>
      hk c o (fun q' => hb (by simp [q'])) (fun q' => hb (by simp [q'])) (fun q' => hb (by simp [q'])) q) hf⟩
    obtain ⟨xs', q', rv, _⟩ := hrow j x ex
    rw [sq_inj I q q'] at hl
    have := rv.length
    rw [List.getElem?_toArray]
    exact List.getElem?_eq_none (by omega)
  self := fun A i s Q E st h => wpAny_pyIter_zip st.1 h
abbrev itObj (x : Src) : Obj := { cls := .type (if x.t then "tuple_iterator" else "list_iterator"), data := .fields #[.ref x.a, .int 0 0] }
theorem itObj_at {h : Heap} {i : Addr} {x : Src} (e : h.get? i = some (itObj x)) : SIt h i x 0 := by
  obtain ⟨a, t⟩ := x
  cases t
  · exact ⟨_, e, rfl, rfl⟩
  · exact ⟨_, e, rfl, rfl⟩
theorem SSq.push {h : Heap} {x : Src} {r : Array Value} (g : SSq h x r) (o : Obj) : SSq (h.push o) x r := g.at fun _ e => Heap.get?_push_of_some _ e
theorem SSq.lt {h : Heap} {x : Src} {r : Array Value} (g : SSq h x r) : x.a < h.objs.size := by
  obtain ⟨a, t⟩ := x
  cases t
  · obtain ⟨_, e, _⟩ := g
    exact Heap.lt_size e
  · obtain ⟨_, e, _⟩ := g
    exact Heap.lt_size e
abbrev tupO (vs : Array Value) : Obj := { cls := .type "tuple", data := .seq vs }
abbrev zipO (TI TO : Addr) : Obj := { cls := .type "zip", data := .fields #[.none, .bool false, .bool false, .ref TI, .ref TO] }
abbrev h3a (h : Heap) (x y z : Src) : Heap := ((h.push (itObj x)).push (itObj y)).push (itObj z)
abbrev h3b (h : Heap) (x y z : Src) : Heap := (h3a h x y z).push (tupO #[.ref h.objs.size, .ref (h.push (itObj x)).objs.size, .ref ((h.push (itObj x)).push (itObj y)).objs.size])
abbrev h3c (h : Heap) (x y z : Src) : Heap := (h3b h x y z).push (tupO #[.none, .none, .none])
abbrev h3d (h : Heap) (x y z : Src) : Heap := (h3c h x y z).push (zipO (h3a h x y z).objs.size (h3b h x y z).objs.size)
set_option maxHeartbeats 4000000 in
theorem meets_new3 (x y z : Src) (r1 r2 r3 : Array Value) :
    Meets (Builtin.«zip.__new__» ⟨[.type "zip", .ref x.a, .ref y.a, .ref z.a], []⟩) (fun _ R s => SSq s.heap x r1 ∧ SSq s.heap y r2 ∧ SSq s.heap z r3 ∧
      R (.ok (.ret (.ref (h3c s.heap x y z).objs.size))) { s with heap := h3d s.heap x y z }) :=
  .of_wp fun prog w A R s h => by
    obtain ⟨hp, g, d, tk, os⟩ := s; obtain ⟨hl1, hl2, hl3, h⟩ := h
    have hsub := sub_zip
    have hL1 : SSq (Shared.heap ⟨hp, g, d, tk, os⟩) x r1 := hl1
    have hL2 : SSq (Shared.heap ⟨hp.push (itObj x), g, d, tk, os⟩) y r2 := hl2.push _
    have hL3 : SSq (Shared.heap ⟨(hp.push (itObj x)).push (itObj y), g, d, tk, os⟩) z r3 := (hl3.push _).push _
    wp_walk using pyIter_src hL1, pyIter_src hL2, pyIter_src hL3
    exact ⟨_, rfl, h⟩
theorem typeCall_zip_3 (a b c : Value) : checkTypeCall "zip" ⟨[a, b, c], []⟩ = pure () := by kernel_rfl
theorem newCall_zip_3 (a b c : Value) : checkBuiltinCall "zip.__new__" ⟨[.type "zip", a, b, c], []⟩ = pure () := by kernel_rfl
theorem args_object_init_4 (a b c d : Value) : argsOk "object.__init__" ⟨[a, b, c, d], []⟩ := by
  unfold argsOk; rw [signature?_of (id := "object.__init__") (n := ['_', '_', 't', 'i', 'n', 'i', '_', '_']) (o := ['t', 'c', 'e', 'j', 'b', 'o']) (by kernel_rfl) F.owner_object]; kernel_rfl
theorem apart3 (n : Nat) {x y z : Src} (h1 : x.a < n) (h2 : y.a < n) (h3 : z.a < n) : Apart (n + 5) (n + 3) (n + 4) [n, n + 1, n + 2] [x, y, z] where
  TIz := by show (n + 3 : Nat) ≠ n + 5; omega
  TOz := by show (n + 4 : Nat) ≠ n + 5; omega
  TITO := by show (n + 3 : Nat) ≠ n + 4; omega
  zi := by simp
  TIi := by simp
  TOi := by simp
  nd := by simp
  sz := by
    intro s hs
    simp at hs
    rcases hs with rfl | rfl | rfl
    · exact Nat.ne_of_lt (Nat.lt_of_lt_of_le h1 (Nat.le_add_right _ _))
    · exact Nat.ne_of_lt (Nat.lt_of_lt_of_le h2 (Nat.le_add_right _ _))
    · exact Nat.ne_of_lt (Nat.lt_of_lt_of_le h3 (Nat.le_add_right _ _))
  sTO := by
    intro s hs
    simp at hs
    rcases hs with rfl | rfl | rfl
    · exact Nat.ne_of_lt (Nat.lt_of_lt_of_le h1 (Nat.le_add_right _ _))
    · exact Nat.ne_of_lt (Nat.lt_of_lt_of_le h2 (Nat.le_add_right _ _))
    · exact Nat.ne_of_lt (Nat.lt_of_lt_of_le h3 (Nat.le_add_right _ _))
  si := by
    have no : ∀ {a : Addr}, a < n → a ∉ ([n, n + 1, n + 2] : List Addr) := fun {a} h q => by
      rcases List.mem_cons.mp q with q | q
      · exact Nat.ne_of_lt h q
      rcases List.mem_cons.mp q with q | q
      · exact Nat.ne_of_lt (Nat.lt_of_lt_of_le h (Nat.le_add_right _ _)) q
      · exact Nat.ne_of_lt (Nat.lt_of_lt_of_le h (Nat.le_add_right _ _)) (List.mem_singleton.mp q)
    intro s hs
    simp at hs
    rcases hs with rfl | rfl | rfl
    · exact no h1
    · exact no h2
    · exact no h3
theorem call3 {prog : Program} {w : World} {A : Around} {E : Value → Shared → Prop} {s : Shared} {x y z : Src} {r1 r2 r3 : Array Value} {Q : Value → Shared → Prop} (hl1 : SSq s.heap x r1) (hl2 : SSq s.heap y r2) (hl3 : SSq s.heap z r3)
    (h : ∀ h', IsZip h' (s.heap.objs.size + 5) (s.heap.objs.size + 3) (s.heap.objs.size + 4) .none → h'.get? (s.heap.objs.size + 3) = some (tupO (refs [s.heap.objs.size, s.heap.objs.size + 1, s.heap.objs.size + 2])) → h'.get? (s.heap.objs.size + 4) = some (tupO #[.none, .none, .none]) →
      SIt h' s.heap.objs.size x 0 → SIt h' (s.heap.objs.size + 1) y 0 → SIt h' (s.heap.objs.size + 2) z 0 → (∀ c o, s.heap.get? c = some o → h'.get? c = some o) → Q (.ref (s.heap.objs.size + 5)) { s with heap := h' }) :
    wpAny (model prog w) A (call (.type "zip") [.ref x.a, .ref y.a, .ref z.a]) Q E s := by
  refine callType_new F.called_zip (by decide) (typeCall_zip_3 _ _ _) (newCall_zip_3 _ _ _) (fun obj => args_object_init_4 obj _ _ _) F.entry_zip_new (meets_new3 x y z r1 r2 r3) ⟨hl1, hl2, hl3, ?_⟩
  have z1 : (s.heap.push (itObj x)).objs.size = s.heap.objs.size + 1 := Heap.size_push ..
  have z2 : ((s.heap.push (itObj x)).push (itObj y)).objs.size = s.heap.objs.size + 2 := by rw [Heap.size_push, z1]
  have z3 : (h3a s.heap x y z).objs.size = s.heap.objs.size + 3 := by rw [Heap.size_push, z2]
  have z4 : (h3b s.heap x y z).objs.size = s.heap.objs.size + 4 := by rw [Heap.size_push, z3]
  have z5 : (h3c s.heap x y z).objs.size = s.heap.objs.size + 5 := by rw [Heap.size_push, z4]
  have g6 : (h3d s.heap x y z).get? (h3c s.heap x y z).objs.size = some _ := Heap.get?_push_size _ rfl
  have g5 : (h3d s.heap x y z).get? (h3b s.heap x y z).objs.size = some _ := Heap.get?_push_of_some _ (Heap.get?_push_size _ rfl)
  have g4 : (h3d s.heap x y z).get? (h3a s.heap x y z).objs.size = some _ := Heap.get?_push_of_some _ (Heap.get?_push_of_some _ (Heap.get?_push_size _ rfl))
  have g3 : (h3d s.heap x y z).get? ((s.heap.push (itObj x)).push (itObj y)).objs.size = some (itObj z) := Heap.get?_push_of_some _ (Heap.get?_push_of_some _ (Heap.get?_push_of_some _ (Heap.get?_push_size _ rfl)))
  have g2 : (h3d s.heap x y z).get? (s.heap.push (itObj x)).objs.size = some (itObj y) := Heap.get?_push_of_some _ (Heap.get?_push_of_some _ (Heap.get?_push_of_some _ (Heap.get?_push_of_some _ (Heap.get?_push_size _ rfl))))
  have g1 : (h3d s.heap x y z).get? s.heap.objs.size = some (itObj x) := Heap.get?_push_of_some _ (Heap.get?_push_of_some _ (Heap.get?_push_of_some _ (Heap.get?_push_of_some _ (Heap.get?_push_of_some _ (Heap.get?_push_size _ rfl)))))
  show _ ∧ _
  rw [z3, z4, z5] at g6
  rw [z1, z2, z3] at g4
  rw [z4] at g5
  rw [z2] at g3
  rw [z1] at g2
  rw [z5]
  exact ⟨⟨_, g6, rfl⟩, h _ g6 g4 g5 (itObj_at g1) (itObj_at g2) (itObj_at g3) fun c o x =>
    Heap.get?_push_of_some _ (Heap.get?_push_of_some _ (Heap.get?_push_of_some _ (Heap.get?_push_of_some _ (Heap.get?_push_of_some _ (Heap.get?_push_of_some _ x)))))⟩
def iZip3 (K : PySem.W.Frag) (ta : TA) : TI := fun σ H R => ta σ H fun vs H1 => ∃ (x y z : Src) (xs ys zs : List V), vs = [.ref x.a, .ref y.a, .ref z.a] ∧ SqX K H1 x xs ∧ SqX K H1 y ys ∧ SqX K H1 z zs ∧ R (ItN K [x, y, z]) H1
theorem pi_zip3 {X : Cx} {e e2 e3 : Expr} {ta : TA} {p pos tpos : Pos} {elts : List Expr} {kk : Nat} (hg : Gl X "zip") (hm : X.mg "zip" = none) (ha : PA X [e, e2, e3] ta)
    (hs : starEach [e, e2, e3] X.env = (false, eval e X.env) :: starEach [e2, e3] X.env := by rfl) (hpl : (backTo pos (starEach [e2, e3] X.env)).any (·.1) = false := by rfl) :
    PI X (.Tuple elts kk tpos) (.Call (.Name "zip" p) [e, e2, e3] [] pos) (iZip3 X.K ta) := by
  refine ⟨fun pins s σ H R I h => ?_⟩
  refine Call_ (ld_blt I hg hm PyProof.Rows.boot_zip (PyProof.Rows.callWith_type1 (thn (ha.run pos pins s σ H _ I h) fun us s1 ⟨vs, H1, I1, r1, q1⟩ => ?_) hs hpl))
  obtain ⟨x, y, z, xs, ys, zs, ex, qx, qy, qz, q⟩ := q1
  subst ex
  cases r1 with
  | cons r rr =>
    cases rr with
    | cons r' rr =>
      cases rr with
      | cons r'' rr =>
        cases rr
        cases r
        cases r'
        cases r''
        obtain ⟨its, _, p1⟩ := sq_get I1 qx
        obtain ⟨its2, _, p2⟩ := sq_get I1 qy
        obtain ⟨its3, _, p3⟩ := sq_get I1 qz
        refine call3 p1 p2 p3 fun h' hz hTI hTO i1 i2 i3 hk => wpAny_pyIter_zip hz ?_
        have I2 : Inv X pins σ H1 { s1 with heap := h' } := I1.kept (t' := s1.toks) hk
        refine ⟨s1.heap.objs.size + 5, [s1.heap.objs.size + 5, s1.heap.objs.size + 3, s1.heap.objs.size + 4, s1.heap.objs.size, s1.heap.objs.size + 1, s1.heap.objs.size + 2], _, _, H1, rfl, I2,
          turnN (apart3 s1.heap.objs.size p1.lt p2.lt p3.lt) rfl (fun q => nomatch q) (by show 3 ≤ 1000; decide), ⟨hz, hTI, ⟨_, rfl, hTO⟩, fun j b u e1 e2 => ?_⟩, fun c hcm => ?_, q⟩
        · match j, e1, e2 with
          | 0, e1, e2 => cases e1; cases e2; exact i1
          | 1, e1, e2 => cases e1; cases e2; exact i2
          | 2, e1, e2 => cases e1; cases e2; exact i3
          | n + 3, e1, _ => cases e1
        · have hle : s1.heap.objs.size ≤ c := by
            simp only [List.mem_cons, List.not_mem_nil, or_false] at hcm
            rcases hcm with z | z | z | z | z | z <;> rw [z] <;> first | exact Nat.le_refl _ | exact Nat.le_add_right _ _
          exact I1.fpOk hle (I1.hok.fresh hle)
def Y3 (xs ys zs : List V) : Nat → Hp → V → Hp → Prop := fun i H v H' => ∃ T x y z, v = .ref T ∧ H T = none ∧ H' = upd H T (.tup [x, y, z]) ∧ xs[i]? = some x ∧ ys[i]? = some y ∧ zs[i]? = some z
theorem walk3 {K : PySem.W.Frag} {x y z : Src} {xs ys zs : List V} (h1 : ys.length = xs.length) (h2 : zs.length = xs.length) : Walk (ItN K [x, y, z]) xs.length (fun H => SqX K H x xs ∧ SqX K H y ys ∧ SqX K H z zs) (Y3 xs ys zs) where
  goes := fun i H hi g j u e => by
    match j, e with
    | 0, e => cases e; exact ⟨xs, _, g.1, List.getElem?_eq_getElem hi⟩
    | 1, e => cases e; exact ⟨ys, _, g.2.1, List.getElem?_eq_getElem (by omega)⟩
    | 2, e => cases e; exact ⟨zs, _, g.2.2, List.getElem?_eq_getElem (by omega)⟩
    | n + 3, e => cases e
  stops := fun H g => by
    refine ⟨fun j u e => ?_, 0, x, xs, rfl, g.1, Nat.le_refl _⟩
    match j, e with
    | 0, e => cases e; exact ⟨xs, g.1⟩
    | 1, e => cases e; exact ⟨ys, g.2.1⟩
    | 2, e => cases e; exact ⟨zs, g.2.2⟩
    | n + 3, e => cases e
  yields := fun i H v H' hi g q => by
    obtain ⟨T, vs, rfl, nT, rfl, lv, hv⟩ := q
    obtain ⟨a, a1, a2⟩ := hv 0 x xs rfl g.1
    obtain ⟨b, b1, b2⟩ := hv 1 y ys rfl g.2.1
    obtain ⟨c, c1, c2⟩ := hv 2 z zs rfl g.2.2
    refine ⟨T, a, b, c, rfl, nT, ?_, a1, b1, c1⟩
    match vs, lv with
    | [u, v, w], _ =>
      cases a2
      cases b2
      cases c2
      rfl
abbrev h2a (h : Heap) (x y : Src) : Heap := (h.push (itObj x)).push (itObj y)
abbrev h2b (h : Heap) (x y : Src) : Heap := (h2a h x y).push (tupO #[.ref h.objs.size, .ref (h.push (itObj x)).objs.size])
abbrev h2c (h : Heap) (x y : Src) : Heap := (h2b h x y).push (tupO #[.none, .none])
abbrev h2d (h : Heap) (x y : Src) : Heap := (h2c h x y).push (zipO (h2a h x y).objs.size (h2b h x y).objs.size)
set_option maxHeartbeats 4000000 in
theorem meets_new2 (x y : Src) (r1 r2 : Array Value) :
    Meets (Builtin.«zip.__new__» ⟨[.type "zip", .ref x.a, .ref y.a], []⟩) (fun _ R s => SSq s.heap x r1 ∧ SSq s.heap y r2 ∧
      R (.ok (.ret (.ref (h2c s.heap x y).objs.size))) { s with heap := h2d s.heap x y }) :=
  .of_wp fun prog w A R s h => by
    obtain ⟨hp, g, d, tk, os⟩ := s; obtain ⟨hl1, hl2, h⟩ := h
    have hsub := sub_zip
    have hL1 : SSq (Shared.heap ⟨hp, g, d, tk, os⟩) x r1 := hl1
    have hL2 : SSq (Shared.heap ⟨hp.push (itObj x), g, d, tk, os⟩) y r2 := hl2.push _
    wp_walk using pyIter_src hL1, pyIter_src hL2
    exact ⟨_, rfl, h⟩
theorem apart2 (n : Nat) {x y : Src} (h1 : x.a < n) (h2 : y.a < n) : Apart (n + 4) (n + 2) (n + 3) [n, n + 1] [x, y] where
  TIz := by show (n + 2 : Nat) ≠ n + 4; omega
  TOz := by show (n + 3 : Nat) ≠ n + 4; omega
  TITO := by show (n + 2 : Nat) ≠ n + 3; omega
  zi := by simp
  TIi := by simp
  TOi := by simp
  nd := by simp
  sz := by
    intro s hs
    simp at hs
    rcases hs with rfl | rfl
    · exact Nat.ne_of_lt (Nat.lt_of_lt_of_le h1 (Nat.le_add_right _ _))
    · exact Nat.ne_of_lt (Nat.lt_of_lt_of_le h2 (Nat.le_add_right _ _))
  sTO := by
    intro s hs
    simp at hs
    rcases hs with rfl | rfl
    · exact Nat.ne_of_lt (Nat.lt_of_lt_of_le h1 (Nat.le_add_right _ _))
    · exact Nat.ne_of_lt (Nat.lt_of_lt_of_le h2 (Nat.le_add_right _ _))
  si := by
    have no : ∀ {a : Addr}, a < n → a ∉ ([n, n + 1] : List Addr) := fun {a} h q => by
      rcases List.mem_cons.mp q with q | q
      · exact Nat.ne_of_lt h q
      · exact Nat.ne_of_lt (Nat.lt_of_lt_of_le h (Nat.le_add_right _ _)) (List.mem_singleton.mp q)
    intro s hs
    simp at hs
    rcases hs with rfl | rfl
    · exact no h1
    · exact no h2
theorem call2 {prog : Program} {w : World} {A : Around} {E : Value → Shared → Prop} {s : Shared} {x y : Src} {r1 r2 : Array Value} {Q : Value → Shared → Prop} (hl1 : SSq s.heap x r1) (hl2 : SSq s.heap y r2)
    (h : ∀ h', IsZip h' (s.heap.objs.size + 4) (s.heap.objs.size + 2) (s.heap.objs.size + 3) .none → h'.get? (s.heap.objs.size + 2) = some (tupO (refs [s.heap.objs.size, s.heap.objs.size + 1])) → h'.get? (s.heap.objs.size + 3) = some (tupO #[.none, .none]) →
      SIt h' s.heap.objs.size x 0 → SIt h' (s.heap.objs.size + 1) y 0 → (∀ c o, s.heap.get? c = some o → h'.get? c = some o) → Q (.ref (s.heap.objs.size + 4)) { s with heap := h' }) :
    wpAny (model prog w) A (call (.type "zip") [.ref x.a, .ref y.a]) Q E s := by
  refine callType_new F.called_zip (by decide) (F.typeCall_zip_2 _ _) (F.newCall_zip_2 _ _) (fun obj => F.args_object_init_3 obj _ _) F.entry_zip_new (meets_new2 x y r1 r2) ⟨hl1, hl2, ?_⟩
  have z1 : (s.heap.push (itObj x)).objs.size = s.heap.objs.size + 1 := Heap.size_push ..
  have z3 : (h2a s.heap x y).objs.size = s.heap.objs.size + 2 := by rw [Heap.size_push, z1]
  have z4 : (h2b s.heap x y).objs.size = s.heap.objs.size + 3 := by rw [Heap.size_push, z3]
  have z5 : (h2c s.heap x y).objs.size = s.heap.objs.size + 4 := by rw [Heap.size_push, z4]
  have g6 : (h2d s.heap x y).get? (h2c s.heap x y).objs.size = some _ := Heap.get?_push_size _ rfl
  have g5 : (h2d s.heap x y).get? (h2b s.heap x y).objs.size = some _ := Heap.get?_push_of_some _ (Heap.get?_push_size _ rfl)
  have g4 : (h2d s.heap x y).get? (h2a s.heap x y).objs.size = some _ := Heap.get?_push_of_some _ (Heap.get?_push_of_some _ (Heap.get?_push_size _ rfl))
  have g2 : (h2d s.heap x y).get? (s.heap.push (itObj x)).objs.size = some (itObj y) := Heap.get?_push_of_some _ (Heap.get?_push_of_some _ (Heap.get?_push_of_some _ (Heap.get?_push_size _ rfl)))
  have g1 : (h2d s.heap x y).get? s.heap.objs.size = some (itObj x) := Heap.get?_push_of_some _ (Heap.get?_push_of_some _ (Heap.get?_push_of_some _ (Heap.get?_push_of_some _ (Heap.get?_push_size _ rfl))))
  show _ ∧ _
  rw [z3, z4, z5] at g6
  rw [z1, z3] at g4
  rw [z4] at g5
  rw [z1] at g2
  rw [z5]
  exact ⟨⟨_, g6, rfl⟩, h _ g6 g4 g5 (itObj_at g1) (itObj_at g2) fun c o x =>
    Heap.get?_push_of_some _ (Heap.get?_push_of_some _ (Heap.get?_push_of_some _ (Heap.get?_push_of_some _ (Heap.get?_push_of_some _ x))))⟩
def iZip2 (K : PySem.W.Frag) (ta : TA) : TI := fun σ H R => ta σ H fun vs H1 => ∃ (x y : Src) (xs ys : List V), vs = [.ref x.a, .ref y.a] ∧ SqX K H1 x xs ∧ SqX K H1 y ys ∧ R (ItN K [x, y]) H1
theorem pi_zip2 {X : Cx} {e e2 : Expr} {ta : TA} {p pos tpos : Pos} {elts : List Expr} {kk : Nat} (hg : Gl X "zip") (hm : X.mg "zip" = none) (ha : PA X [e, e2] ta)
    (hs : starEach [e, e2] X.env = (false, eval e X.env) :: starEach [e2] X.env := by rfl) (hpl : (backTo pos (starEach [e2] X.env)).any (·.1) = false := by rfl) :
    PI X (.Tuple elts kk tpos) (.Call (.Name "zip" p) [e, e2] [] pos) (iZip2 X.K ta) := by
  refine ⟨fun pins s σ H R I h => ?_⟩
  refine Call_ (ld_blt I hg hm PyProof.Rows.boot_zip (PyProof.Rows.callWith_type1 (thn (ha.run pos pins s σ H _ I h) fun us s1 ⟨vs, H1, I1, r1, q1⟩ => ?_) hs hpl))
  obtain ⟨x, y, xs, ys, ex, qx, qy, q⟩ := q1
  subst ex
  cases r1 with
  | cons r rr =>
    cases rr with
    | cons r' rr =>
      cases rr
      cases r
      cases r'
      obtain ⟨its, _, p1⟩ := sq_get I1 qx
      obtain ⟨its2, _, p2⟩ := sq_get I1 qy
      refine call2 p1 p2 fun h' hz hTI hTO i1 i2 hk => wpAny_pyIter_zip hz ?_
      have I2 : Inv X pins σ H1 { s1 with heap := h' } := I1.kept (t' := s1.toks) hk
      refine ⟨s1.heap.objs.size + 4, [s1.heap.objs.size + 4, s1.heap.objs.size + 2, s1.heap.objs.size + 3, s1.heap.objs.size, s1.heap.objs.size + 1], _, _, H1, rfl, I2,
        turnN (apart2 s1.heap.objs.size p1.lt p2.lt) rfl (fun q => nomatch q) (by show 2 ≤ 1000; decide), ⟨hz, hTI, ⟨_, rfl, hTO⟩, fun j b u e1 e2 => ?_⟩, fun c hcm => ?_, q⟩
      · match j, e1, e2 with
        | 0, e1, e2 => cases e1; cases e2; exact i1
        | 1, e1, e2 => cases e1; cases e2; exact i2
        | n + 2, e1, _ => cases e1
      · have hle : s1.heap.objs.size ≤ c := by
          simp only [List.mem_cons, List.not_mem_nil, or_false] at hcm
          rcases hcm with z | z | z | z | z <;> rw [z] <;> first | exact Nat.le_refl _ | exact Nat.le_add_right _ _
        exact I1.fpOk hle (I1.hok.fresh hle)
theorem walk2 {K : PySem.W.Frag} {x y : Src} {xs ys : List V} (h1 : ys.length = xs.length) : Walk (ItN K [x, y]) xs.length (fun H => SqX K H x xs ∧ SqX K H y ys) (YPair (fun i => xs[i]?) (fun i => ys[i]?)) where
  goes := fun i H hi g j u e => by
    match j, e with
    | 0, e => cases e; exact ⟨xs, _, g.1, List.getElem?_eq_getElem hi⟩
    | 1, e => cases e; exact ⟨ys, _, g.2, List.getElem?_eq_getElem (by omega)⟩
    | n + 2, e => cases e
  stops := fun H g => by
    refine ⟨fun j u e => ?_, 0, x, xs, rfl, g.1, Nat.le_refl _⟩
    match j, e with
    | 0, e => cases e; exact ⟨xs, g.1⟩
    | 1, e => cases e; exact ⟨ys, g.2⟩
    | n + 2, e => cases e
  yields := fun i H v H' hi g q => by
    obtain ⟨T, vs, rfl, nT, rfl, lv, hv⟩ := q
    obtain ⟨a, a1, a2⟩ := hv 0 x xs rfl g.1
    obtain ⟨b, b1, b2⟩ := hv 1 y ys rfl g.2
    refine ⟨T, a, b, rfl, nT, ?_, a1, b1⟩
    match vs, lv with
    | [u, v], _ =>
      cases a2
      cases b2
      rfl
end ZN

theorem sqx_same {K : PySem.W.Frag} {H H' : Hp} {x : ZN.Src} {xs : List V} (f : Same H H') (h : ZN.SqX K H x xs) : ZN.SqX K H' x xs := by
  obtain ⟨a, t⟩ := x
  cases t
  · exact f.seq h
  · rcases h with (h | ⟨o, h⟩) | h
    · exact .inl (.inl (f _ _ h))
    · exact .inl (.inr ⟨o, f _ _ h⟩)
    · exact .inr h
def sL (a : Addr) : ZN.Src := ⟨a, false⟩
def sT (a : Addr) : ZN.Src := ⟨a, true⟩
theorem sqx_l {K : PySem.W.Frag} {H : Hp} {a : Addr} {xs : List V} (h : H a = some (.lst xs)) : ZN.SqX K H (sL a) xs := SqL.of h
theorem sqx_t {K : PySem.W.Frag} {H : Hp} {a : Addr} {xs : List V} (h : H a = some (.tup xs)) : ZN.SqX K H (sT a) xs := SqT.of h

/-- a fact about vectors, as it is told -/
inductive VF
  | parts (ps : List (Int × List Int × Int))
  | cell (a b : List Int)
  | box (a b : List Int)
  | norms (a b : Int)
  | differ (c : List Int) (m : Int)
abbrev Pt := Int × List Int × Int
def intsD (xs : List Int) : PyData := .list (xs.map PyData.int)
def ptD (p : Pt) : PyData := .tuple [.int p.1, intsD p.2.1, .int p.2.2]
def vfD : VF → PyData
  | .parts ps => .tuple [.str "parts", .list (ps.map ptD)]
  | .cell a b => .tuple [.str "cell", intsD a, intsD b]
  | .box a b => .tuple [.str "box", intsD a, intsD b]
  | .norms a b => .tuple [.str "norms", .int a, .int b]
  | .differ c m => .tuple [.str "differ", intsD c, .int m]
def VecOk (xs : List Int) : Prop := xs.length ≤ 12 ∧ Bd 100000 xs
def PtOk (p : Pt) : Prop := -1000 ≤ p.1 ∧ p.1 ≤ 1000 ∧ VecOk p.2.1 ∧ 0 ≤ p.2.2 ∧ p.2.2 ≤ 1000000000
def VFOk : VF → Prop
  | .parts ps => ps.length ≤ 8 ∧ ∀ p ∈ ps, PtOk p
  | .cell a b => VecOk a ∧ VecOk b
  | .box a b => VecOk a ∧ VecOk b
  | .norms a b => -1000000000 ≤ a ∧ a ≤ 1000000000 ∧ -1000000000 ≤ b ∧ b ≤ 1000000000
  | .differ c m => VecOk c ∧ -100000 ≤ m ∧ m ≤ 100000
theorem pe_or2 {X : Cx} {e : Expr} {t u : TE} (h : PE X e t) (g : PE X e u) : PE X e (fun σ H Q => t σ H Q ∨ u σ H Q) := ⟨fun pins s σ H Q I q => by
  rcases q with q | q
  · exact h.run pins s σ H Q I q
  · exact g.run pins s σ H Q I q⟩
/-- a part of a list -/
def cutI (xs : List Int) (i n : Nat) : List Int := (xs.drop i).take n
theorem sIx_nat {n d : Nat} {i : Nat} (h : i ≤ n) : HT.sIx n d (some (i : Int)) = i := by
  unfold HT.sIx
  simp only
  split <;> omega
theorem cutV_ints {xs : List Int} {i j : Int} (h0 : 0 ≤ i) (h1 : i ≤ j) (h2 : j ≤ xs.length) : cutV (xs.map V.int) (some i) (some j) = (cutI xs i.toNat (j.toNat - i.toNat)).map V.int := by
  have e1 : i = ((i.toNat : Nat) : Int) := by omega
  have e2 : j = ((j.toNat : Nat) : Int) := by omega
  unfold cutV cutI
  rw [e1, e2, sIx_nat (by rw [List.length_map]; omega), sIx_nat (by rw [List.length_map]; omega)]
  simp only [Int.toNat_natCast]
  rw [List.map_take, List.map_drop]
theorem cutI_len {xs : List Int} {i n : Nat} (h : i + n ≤ xs.length) : (cutI xs i n).length = n := by
  unfold cutI
  rw [List.length_take, List.length_drop]
  omega
theorem cutI_bd {b : Int} {xs : List Int} {i n : Nat} (h : Bd b xs) : Bd b (cutI xs i n) := fun z hz => h z (List.mem_of_mem_drop (List.mem_of_mem_take hz))
theorem ter_bd {f : Int → Int → Int} {c : Int} : ∀ {xs ys : List Int}, (∀ x ∈ xs, ∀ y ∈ ys, -c ≤ f x y ∧ f x y ≤ c) → 0 ≤ c → -(xs.length * c) ≤ (ter f xs ys).sum ∧ (ter f xs ys).sum ≤ xs.length * c
  | [], _, _, h0 => by simp [ter]
  | x :: xs, [], h, h0 => by
    have : 0 ≤ ((x :: xs).length : Int) * c := Int.mul_nonneg (Int.natCast_nonneg _) h0
    simp only [ter, List.zipWith_nil_right, List.sum_nil]
    omega
  | x :: xs, y :: ys, h, h0 => by
    have h1 := h x (List.mem_cons_self ..) y (List.mem_cons_self ..)
    have h2 := ter_bd (f := f) (c := c) (xs := xs) (ys := ys) (fun a ha b hb => h a (List.mem_cons_of_mem _ ha) b (List.mem_cons_of_mem _ hb)) h0
    have e : (ter f (x :: xs) (y :: ys)).sum = f x y + (ter f xs ys).sum := by simp [ter]
    rw [e, List.length_cons]
    have e2 : ((xs.length + 1 : Nat) : Int) * c = xs.length * c + c := by grind
    omega
theorem mul_bd {x y b : Int} (h1 : -b ≤ x) (h2 : x ≤ b) (h3 : -b ≤ y) (h4 : y ≤ b) : -(b * b) ≤ x * y ∧ x * y ≤ b * b := by
  have a := Int.mul_nonneg (show 0 ≤ b - x by omega) (show 0 ≤ b + y by omega)
  have c := Int.mul_nonneg (show 0 ≤ b + x by omega) (show 0 ≤ b - y by omega)
  have d := Int.mul_nonneg (show 0 ≤ b - x by omega) (show 0 ≤ b - y by omega)
  have e := Int.mul_nonneg (show 0 ≤ b + x by omega) (show 0 ≤ b + y by omega)
  have e1 : (b - x) * (b + y) = b * b + b * y - x * b - x * y := by grind
  have e2 : (b + x) * (b - y) = b * b - b * y + x * b - x * y := by grind
  have e3 : (b - x) * (b - y) = b * b - b * y - x * b + x * y := by grind
  have e4 : (b + x) * (b + y) = b * b + b * y + x * b + x * y := by grind
  omega
theorem inner_bd {xs ys : List Int} (h1 : VecOk xs) (h2 : VecOk ys) : -120000000000 ≤ (ter fMul xs ys).sum ∧ (ter fMul xs ys).sum ≤ 120000000000 := by
  have b := ter_bd (f := fMul) (c := 10000000000) (xs := xs) (ys := ys) (fun x hx y hy => by
    have := mul_bd (h1.2 x hx).1 (h1.2 x hx).2 (h2.2 y hy).1 (h2.2 y hy).2
    unfold fMul
    omega) (by decide)
  have l := h1.1
  omega
theorem ter_sq_nn : ∀ xs : List Int, 0 ≤ (ter fMul xs xs).sum
  | [] => by simp [ter]
  | x :: xs => by
    have e : (ter fMul (x :: xs) (x :: xs)).sum = x * x + (ter fMul xs xs).sum := by simp [ter, fMul]
    have := ter_sq_nn xs
    have := sq_nn x
    omega
theorem VecOk.cut {xs : List Int} (h : VecOk xs) (i n : Nat) : VecOk (cutI xs i n) := by
  refine ⟨?_, cutI_bd h.2⟩
  have := h.1
  unfold cutI
  rw [List.length_take, List.length_drop]
  omega
theorem Bd.wide {n m : Int} {xs : List Int} (h : Bd n xs) (e : n ≤ m) : Bd m xs := fun z hz => by have := h z hz; omega
def optV : Option Int → V
  | none => .non
  | some i => .int i

theorem ref_get {rs : List Addr} {i : Nat} {y : V} (h : (rs.map V.ref)[i]? = some y) : ∃ r, y = V.ref r ∧ rs[i]? = some r := by
  rw [List.getElem?_map] at h
  cases e : rs[i]? with
  | none =>
    rw [e] at h
    cases h
  | some z =>
    rw [e] at h
    exact ⟨z, (Option.some.inj h).symm, rfl⟩
theorem get_ref {rs : List Addr} {i : Nat} {r : Addr} (h : rs[i]? = some r) : (rs.map V.ref)[i]? = some (V.ref r) := by
  rw [List.getElem?_map, h]
  rfl

def mkUp : List Pt → Int → Int → Bool
  | [], e, n => decide (e = n)
  | p :: r, e, n => if p.1 = e then mkUp r (p.1 + p.2.1.length) n else false
theorem mkUp_cons {p : Pt} {r : List Pt} {e n : Int} : mkUp (p :: r) e n = if p.1 = e then mkUp r (p.1 + p.2.1.length) n else false := rfl
def prod1 (q : List Int) (p : Pt) : Int := (ter fMul p.2.1 (cutI q p.1.toNat p.2.1.length)).sum + rootZ ((ter fMul (cutI q p.1.toNat p.2.1.length) (cutI q p.1.toNat p.2.1.length)).sum * p.2.2)
def prodP (ps : List Pt) (q : List Int) : Option Int := if mkUp ps 0 q.length = true then some ((ps.map (prod1 q)).sum) else none
def ter3 (f : Int → Int → Int → Int) : List Int → List Int → List Int → List Int
  | x :: xs, y :: ys, z :: zs => f x y z :: ter3 f xs ys zs
  | _, _, _ => []
theorem ter3_get {f : Int → Int → Int → Int} : ∀ {xs ys zs : List Int} {i : Nat} {x y z : Int}, xs[i]? = some x → ys[i]? = some y → zs[i]? = some z → (ter3 f xs ys zs)[i]? = some (f x y z)
  | [], _, _, _, _, _, _, h, _, _ => by simp at h
  | _ :: _, [], _, _, _, _, _, _, h, _ => by simp at h
  | _ :: _, _ :: _, [], _, _, _, _, _, _, h => by simp at h
  | a :: r, b :: t, c :: u, 0, x, y, z, h, h2, h3 => by
    cases Option.some.inj h
    cases Option.some.inj h2
    cases Option.some.inj h3
    rfl
  | a :: r, b :: t, c :: u, i + 1, x, y, z, h, h2, h3 => ter3_get (xs := r) (ys := t) (zs := u) (i := i) h h2 h3
theorem ter3_len {f : Int → Int → Int → Int} : ∀ {xs ys zs : List Int}, ys.length = xs.length → zs.length = xs.length → (ter3 f xs ys zs).length = xs.length
  | [], [], [], _, _ => rfl
  | x :: xs, y :: ys, z :: zs, h, g => by
    have := ter3_len (f := f) (xs := xs) (ys := ys) (zs := zs) (by simpa using h) (by simpa using g)
    simp [ter3, this]
  | [], _ :: _, _, h, _ => by simp at h
  | [], [], _ :: _, _, h => by simp at h
  | _ :: _, [], _, h, _ => by simp at h
  | _ :: _, _ :: _, [], _, h => by simp at h
def max2 (i j : Int) : Int := if j > i then j else i
def fBox (l x h : Int) : Int := max2 (l * x) (h * x)
def prodB (a b q : List Int) : Option Int := if a.length = q.length ∧ b.length = q.length then some ((ter3 fBox a q b).sum) else none
def prodZ (q : List Int) : VF → Option Int
  | .parts ps => prodP ps q
  | .box a b => prodB a b q
  | .norms _ b => some (rootZ ((ter fMul q q).sum * b))
  | _ => none
theorem mkUp_ends : ∀ {ps : List Pt} {e n : Int} {i : Nat} {p : Pt}, mkUp ps e n = true → 0 ≤ e → ps[i]? = some p → 0 ≤ p.1 ∧ p.1 + p.2.1.length ≤ n
  | [], _, _, _, _, _, _, h => by simp at h
  | a :: r, e, n, i, p, h, h0, hp => by
    unfold mkUp at h
    by_cases c : a.1 = e
    · rw [if_pos c] at h
      have end_ : ∀ {ps : List Pt} {e n : Int}, mkUp ps e n = true → e ≤ n := by
        intro ps
        induction ps with
        | nil =>
          intro e n h
          have : e = n := of_decide_eq_true h
          omega
        | cons a r ih =>
          intro e n h
          unfold mkUp at h
          by_cases c : a.1 = e
          · rw [if_pos c] at h
            have := ih h
            omega
          · rw [if_neg c] at h
            cases h
      cases i with
      | zero =>
        cases Option.some.inj hp
        have := end_ h
        omega
      | succ i => exact mkUp_ends (ps := r) h (by omega) hp
    · rw [if_neg c] at h
      cases h

theorem dp_ints {K : PySem.W.Frag} {H : Hp} : ∀ xs : List Int, DpAll K H (xs.map V.int) (xs.map PyData.int)
  | [] => .nil
  | x :: r => .cons (.int x) (dp_ints r)
theorem eqv_ints (xs : List Int) : PyData.eqv (.list (xs.map PyData.int)) (.list (xs.map PyData.int)) = true := SeqAt.eqv_refl _ (SeqAt.canLay_of_shaped (PySem.W.ke_shaped_ints xs))
theorem dpl {K : PySem.W.Frag} {H : Hp} {p : Addr} {xs : List Int} (h : H p = some (.lst (xs.map V.int))) : Dp K H (.ref p) (.list (xs.map PyData.int)) := .lst (SqL.of h) (dp_ints _)
theorem pickI {xs : List Int} {d : Int} (h0 : 0 ≤ d) (h1 : d < xs.length) : ∃ z, atI (xs.map V.int) d = some (.int z) ∧ z ∈ xs := by
  have hj : d.toNat < xs.length := by omega
  refine ⟨xs[d.toNat], at_of (j := d.toNat) (by omega) ?_, List.getElem_mem hj⟩
  rw [List.getElem?_map, List.getElem?_eq_getElem hj]
  rfl
theorem dtL {N : List Addr} {H : Hp} {p : Addr} {xs : List Int} (n : p ∉ N) (h : H p = some (.lst (xs.map V.int))) : Dt N H (.ref p) (intsD xs) := .lst n h (Dts.ints xs)
theorem not_in3 {a b c d : Addr} (h : a ≠ b) (g : a ≠ c) (f : a ≠ d) : a ∉ [b, c, d] := fun z => by
  rcases List.mem_cons.mp z with y | y
  · exact h y
  · exact not_in2 g f y
theorem sne {a b : Str} (h : ¬ a = b) : ¬ V.str a = V.str b := fun e => h (V.str.inj e)
theorem Dt.isInts {N : List Addr} {H : Hp} {v : V} {xs : List Int} (h : Dt N H v (intsD xs)) : ∃ p, v = .ref p ∧ p ∉ N ∧ H p = some (.lst (xs.map V.int)) := by
  obtain ⟨p, vs, e, n, g, t⟩ := h.isL
  rw [t.isInts] at g
  exact ⟨p, e, n, g⟩
theorem VecOk.of {xs : List Int} {b : Int} (l : xs.length ≤ 12) (h : Bd b xs) (hb : b ≤ 100000) : VecOk xs := ⟨l, h.wide hb⟩
theorem Dt.isPt {N : List Addr} {H : Hp} {v : V} {p : Pt} (h : Dt N H v (ptD p)) : ∃ t c, v = .ref t ∧ t ∉ N ∧ H t = some (.tup [.int p.1, .ref c, .int p.2.2]) ∧ c ∉ N ∧ H c = some (.lst (p.2.1.map V.int)) := by
  obtain ⟨t, vs, e, n, g, w⟩ := h.isT
  obtain ⟨a, b, c, e2, h1, h2, h3⟩ := w.three
  rw [h1.isI, h3.isI] at e2
  obtain ⟨pc, e3, nc, gc⟩ := h2.isInts
  rw [e3] at e2
  subst e2
  exact ⟨t, pc, e, n, g, nc, gc⟩

theorem ps_dead {X : Cx} {s : Stmt} : PS X s (fun _ _ _ => False) := ⟨fun _ _ _ _ _ _ h => h.elim⟩

theorem wide_add {i j : Int} {a : Nat} (hi : i.natAbs < 2 ^ a) (hj : j.natAbs < 2 ^ a) : (i + j).natAbs < 2 ^ (a + 1) := by
  rw [Nat.pow_succ]
  omega
theorem wide_up {i : Int} {a b : Nat} (hi : i.natAbs < 2 ^ a) (h : a ≤ b) : i.natAbs < 2 ^ b := Nat.lt_of_lt_of_le hi (Nat.pow_le_pow_right (by decide) h)
/-- 2 ^ k as an integer -/
def two (k : Nat) : Int := ((2 ^ k : Nat) : Int)
theorem two_succ (k : Nat) : two (k + 1) = two k * 2 := by
  unfold two
  rw [Nat.pow_succ]
  exact_mod_cast rfl
theorem two_pos (k : Nat) : 0 < two k := by
  unfold two
  exact_mod_cast Nat.pos_of_ne_zero (by simp)
theorem two_abs (k : Nat) : (two k).natAbs < 2 ^ (k + 1) := by
  unfold two
  rw [Int.natAbs_natCast, Nat.pow_succ]
  have := Nat.pos_of_ne_zero (show 2 ^ k ≠ 0 by simp)
  omega
theorem two_sq (a b : Nat) : two a * two b = two (a + b) := by
  unfold two
  rw [Nat.pow_add]
  exact_mod_cast rfl
theorem lt_two {i : Int} {a : Nat} (h0 : 0 ≤ i) (h : i.natAbs < 2 ^ a) : i < two a := by
  unfold two
  have : i = ((i.natAbs : Nat) : Int) := by omega
  rw [this]
  exact_mod_cast h
theorem two_le {a b : Nat} (h : a ≤ b) : two a ≤ two b := by
  unfold two
  exact_mod_cast Nat.pow_le_pow_right (by decide) h
theorem abs_le_of {i j : Int} {a : Nat} (h0 : 0 ≤ i) (h1 : i ≤ j) (hj : j.natAbs < 2 ^ a) : i.natAbs < 2 ^ a := Nat.lt_of_le_of_lt (by omega) hj

def splitZ (d e f : Int) : Int := if e ≥ d ∨ f = 0 then 0 else -((-((d - e) * (d - e))) / (4 * f))
/-- a quotient rounded up, in two ways -/
theorem ceil_two {n m : Int} (hm : 0 < m) : -((-n) / m) = if n / m * m < n then n / m + 1 else n / m := by
  have a := Int.mul_ediv_add_emod n m
  have b0 := Int.emod_nonneg n (show m ≠ 0 by omega)
  have b1 := Int.emod_lt_of_pos n hm
  have c := Int.mul_ediv_add_emod (-n) m
  have d0 := Int.emod_nonneg (-n) (show m ≠ 0 by omega)
  have d1 := Int.emod_lt_of_pos (-n) hm
  generalize n / m = x at *
  generalize n % m = r at *
  generalize (-n) / m = y at *
  generalize (-n) % m = t at *
  have e : m * (x + y) + (r + t) = 0 := by grind
  have e2 : m * x = x * m := Int.mul_comm _ _
  by_cases h : x * m < n
  · rw [if_pos h]
    have hr : 0 < r := by omega
    have k1 : x + y < 0 := by
      rcases Int.lt_or_le (x + y) 0 with g | g
      · exact g
      · have := Int.mul_nonneg (Int.le_of_lt hm) g
        omega
    have k2 : ¬ x + y < -1 := fun g => by
      have : 0 ≤ m * (-2 - (x + y)) := Int.mul_nonneg (Int.le_of_lt hm) (by omega)
      have e3 : m * (-2 - (x + y)) = -2 * m - m * (x + y) := by grind
      omega
    omega
  · rw [if_neg h]
    have hr : r = 0 := by omega
    subst hr
    have k1 : ¬ 0 < x + y := fun g => by
      have : 0 ≤ m * (x + y - 1) := Int.mul_nonneg (Int.le_of_lt hm) (by omega)
      have e3 : m * (x + y - 1) = m * (x + y) - m := by grind
      omega
    have k2 : ¬ x + y < 0 := fun g => by
      have : 0 ≤ m * (-1 - (x + y)) := Int.mul_nonneg (Int.le_of_lt hm) (by omega)
      have e3 : m * (-1 - (x + y)) = -m - m * (x + y) := by grind
      omega
    omega
theorem ceil_le {n m g : Int} (hm : 0 < m) (h : n ≤ m * g) : -((-n) / m) ≤ g := by
  have c := Int.mul_ediv_add_emod (-n) m
  have d0 := Int.emod_nonneg (-n) (show m ≠ 0 by omega)
  have d1 := Int.emod_lt_of_pos (-n) hm
  generalize (-n) / m = y at *
  generalize (-n) % m = t at *
  have k : ¬ g < -y := fun k => by
    have : 0 ≤ m * (-y - g - 1) := Int.mul_nonneg (Int.le_of_lt hm) (by omega)
    have e3 : m * (-y - g - 1) = -(m * y) - m * g - m := by grind
    omega
  omega
/-- the sum of (b - a)(q - p) -/
def dotd : List Int → List Int → List Int → List Int → Int
  | a :: as, b :: bs, p :: ps, q :: qs => (b - a) * (q - p) + dotd as bs ps qs
  | _, _, _, _ => 0
theorem dotd_quad (t r : Int) : ∀ as bs ps qs : List Int, as.length = bs.length → as.length = ps.length → as.length = qs.length → 0 ≤ t * t * dist as bs - 2 * t * r * dotd as bs ps qs + r * r * dist ps qs
  | [], [], [], [], _, _, _ => by simp [dist, dotd]
  | a :: as, b :: bs, p :: ps, q :: qs, h1, h2, h3 => by
    have ih := dotd_quad t r as bs ps qs (by simpa using h1) (by simpa using h2) (by simpa using h3)
    have h := sq_nn (t * (b - a) - r * (q - p))
    unfold dist dotd
    grind
  | [], _ :: _, _, _, h, _, _ => by simp at h
  | [], [], _ :: _, _, _, h, _ => by simp at h
  | [], [], [], _ :: _, _, _, h => by simp at h
  | _ :: _, [], _, _, h, _, _ => by simp at h
  | _ :: _, _ :: _, [], _, _, h, _ => by simp at h
  | _ :: _, _ :: _, _ :: _, [], _, _, h => by simp at h
theorem cauchy {as bs ps qs : List Int} (h1 : as.length = bs.length) (h2 : as.length = ps.length) (h3 : as.length = qs.length) : dotd as bs ps qs * dotd as bs ps qs ≤ dist as bs * dist ps qs := by
  have f := fun t r => dotd_quad t r as bs ps qs h1 h2 h3
  have hF := dist_nn as bs
  have hG := dist_nn ps qs
  generalize dist as bs = F at *
  generalize dist ps qs = G at *
  generalize dotd as bs ps qs = S at *
  by_cases g : G = 0
  · subst g
    by_cases s : S = 0
    · subst s
      omega
    · exfalso
      have k := f 1 ((F + 1) * S)
      have s1 : 1 ≤ S * S := by
        have := sq_nn S
        have : S * S ≠ 0 := fun e => s (by simpa using Int.mul_eq_zero.mp e)
        omega
      have k2 : 0 ≤ F - 2 * (F + 1) * (S * S) := by grind
      have k3 : 0 ≤ (F + 1) * (S * S - 1) := Int.mul_nonneg (by omega) (by omega)
      have k4 : (F + 1) * (S * S - 1) = (F + 1) * (S * S) - F - 1 := by grind
      have k5 : 2 * (F + 1) * (S * S) = 2 * ((F + 1) * (S * S)) := by grind
      omega
  · have k := f G S
    have k2 : G * G * F - 2 * G * S * S + S * S * G = G * (F * G - S * S) := by grind
    rw [k2] at k
    rcases Int.lt_or_le (F * G) (S * S) with l | l
    · exfalso
      have : 0 ≤ (G - 1) * (S * S - F * G - 1) := Int.mul_nonneg (by omega) (by omega)
      have e : G * (F * G - S * S) = -((G - 1) * (S * S - F * G - 1)) - (S * S - F * G - 1) - G := by grind
      omega
    · exact l
theorem dist_diff : ∀ as bs ps qs : List Int, as.length = bs.length → as.length = ps.length → as.length = qs.length → dist qs as - dist qs bs = 2 * dotd as bs ps qs + (dist ps as - dist ps bs)
  | [], [], [], [], _, _, _ => by simp [dist, dotd]
  | a :: as, b :: bs, p :: ps, q :: qs, h1, h2, h3 => by
    have ih := dist_diff as bs ps qs (by simpa using h1) (by simpa using h2) (by simpa using h3)
    unfold dist dotd
    grind
  | [], _ :: _, _, _, h, _, _ => by simp at h
  | [], [], _ :: _, _, _, h, _ => by simp at h
  | [], [], [], _ :: _, _, _, h => by simp at h
  | _ :: _, [], _, _, h, _, _ => by simp at h
  | _ :: _, _ :: _, [], _, _, h, _ => by simp at h
  | _ :: _, _ :: _, _ :: _, [], _, _, h => by simp at h
/-- the split is a bound of the distance -/
theorem split_safe {as bs ps qs : List Int} (h1 : as.length = bs.length) (h2 : as.length = ps.length) (h3 : as.length = qs.length) (hp : dist ps as ≤ dist ps bs) :
    splitZ (dist qs as) (dist qs bs) (dist as bs) ≤ dist ps qs := by
  unfold splitZ
  by_cases c : dist qs bs ≥ dist qs as ∨ dist as bs = 0
  · rw [if_pos c]
    exact dist_nn _ _
  · rw [if_neg c]
    have c1 : dist qs bs < dist qs as := by omega
    have c2 : 0 < dist as bs := by have := dist_nn as bs; omega
    have e := dist_diff as bs ps qs h1 h2 h3
    have k := cauchy h1 h2 h3
    refine ceil_le (by omega) ?_
    have x2 : 0 < dist qs as - dist qs bs := by omega
    have x1 : 0 ≤ 2 * dotd as bs ps qs - (dist qs as - dist qs bs) := by omega
    generalize dist as bs = F at *
    generalize dist ps qs = G at *
    generalize dotd as bs ps qs = S at *
    generalize dist qs as - dist qs bs = x at *
    have x3 := Int.mul_nonneg x1 (show 0 ≤ 2 * S + x by omega)
    have x4 : (2 * S - x) * (2 * S + x) = 4 * (S * S) - x * x := by grind
    have x5 : 4 * F * G = 4 * (F * G) := by grind
    omega

theorem dist_ter : ∀ xs ys : List Int, dist xs ys = (ter fSq xs ys).sum
  | [], _ => by simp [dist, ter]
  | x :: xs, [] => by simp [dist, ter]
  | x :: xs, y :: ys => by
    have ih := dist_ter xs ys
    have e : (ter fSq (x :: xs) (y :: ys)).sum = (x - y) * (x - y) + (ter fSq xs ys).sum := by simp [ter, fSq]
    rw [e]
    unfold dist
    omega
theorem ne_comm' : ∀ xs ys : List Int, (ter fNe xs ys).sum = (ter fNe ys xs).sum
  | [], [] => rfl
  | [], _ :: _ => by simp [ter]
  | _ :: _, [] => by simp [ter]
  | x :: xs, y :: ys => by
    have ih := ne_comm' xs ys
    have e : fNe x y = fNe y x := by
      unfold fNe
      by_cases c : x = y
      · rw [if_pos c, if_pos c.symm]
      · rw [if_neg c, if_neg (fun h => c h.symm)]
    show (fNe x y :: ter fNe xs ys).sum = (fNe y x :: ter fNe ys xs).sum
    rw [List.sum_cons, List.sum_cons, ih, e]
theorem sq_bd {xs ys : List Int} (h1 : VecOk xs) (h2 : VecOk ys) : 0 ≤ (ter fSq xs ys).sum ∧ (ter fSq xs ys).sum ≤ 480000000000 := by
  have b := ter_bd (f := fSq) (c := 40000000000) (xs := xs) (ys := ys) (fun x hx y hy => by
    have a1 := h1.2 x hx
    have a2 := h2.2 y hy
    have := mul_bd (x := x - y) (y := x - y) (b := 200000) (by omega) (by omega) (by omega) (by omega)
    unfold fSq
    omega) (by decide)
  have l := h1.1
  have n := dist_nn xs ys
  rw [dist_ter] at n
  omega
def apartF : List Pt → Int → Bool
  | [], _ => true
  | p :: r, e => if p.1 < e then false else apartF r (p.1 + p.2.1.length)
theorem apartF_cons {p : Pt} {r : List Pt} {e : Int} : apartF (p :: r) e = if p.1 < e then false else apartF r (p.1 + p.2.1.length) := rfl
def endF (n : Int) (p : Pt) : Bool := decide (0 ≤ p.1) && decide (p.1 + p.2.1.length ≤ n)
theorem endF_of {n : Int} {p : Pt} (h : endF n p = true) : 0 ≤ p.1 ∧ p.1 + p.2.1.length ≤ n := by
  unfold endF at h
  rw [Bool.and_eq_true, decide_eq_true_iff, decide_eq_true_iff] at h
  exact h
theorem endF_false {n : Int} {p : Pt} (h : ¬ (0 ≤ p.1 ∧ p.1 + p.2.1.length ≤ n)) : endF n p = false := by
  cases e : endF n p with
  | false => rfl
  | true => exact absurd (endF_of e) h
def gap1 (q : List Int) (p : Pt) : Int := gapZ (ter fSq p.2.1 (cutI q p.1.toNat p.2.1.length)).sum p.2.2
def leastP (ps : List Pt) (q : List Int) : Int := if ps.all (endF q.length) = true ∧ apartF ps 0 = true then (ps.map (gap1 q)).sum else 0
def outF (lo x hi : Int) : Int := if x < lo then lo - x else max2 0 (x - hi)
def leastB (a b q : List Int) : Int := if a.length = q.length ∧ b.length = q.length then (ter fMul (ter3 outF a q b) (ter3 outF a q b)).sum else 0
def leastC (a b q : List Int) : Int := if a.length = q.length ∧ b.length = q.length then splitZ (ter fSq q a).sum (ter fSq q b).sum (ter fSq a b).sum else 0
def leastN (a b : Int) (q : List Int) : Int := if b < (ter fMul q q).sum then gapZ (ter fMul q q).sum b else if (ter fMul q q).sum < a then gapZ a (ter fMul q q).sum else 0
def leastZ (q : List Int) : VF → Int
  | .parts ps => leastP ps q
  | .cell a b => leastC a b q
  | .box a b => leastB a b q
  | .norms a b => leastN a b q
  | .differ _ _ => 0
def diffD (c : List Int) (m : Int) (q : List Int) : Int := if c.length = q.length then max2 0 ((ter fNe q c).sum - m) else 0
def diffZ (q : List Int) : VF → Int
  | .differ c m => diffD c m q
  | .parts ps => leastP ps q
  | .cell a b => leastC a b q
  | .box a b => leastB a b q
  | .norms a b => leastN a b q
def NormOk (f : VF) : Prop := ∀ a b, f = .norms a b → 0 ≤ b

theorem out_bd : ∀ {a xs b : List Int}, Bd 100000 a → Bd 100000 xs → Bd 100000 b → Bd 1000000000000 (ter3 outF a xs b)
  | [], _, _, _, _, _ => fun z hz => by cases hz
  | _ :: _, [], _, _, _, _ => fun z hz => by cases hz
  | _ :: _, _ :: _, [], _, _, _ => fun z hz => by cases hz
  | x :: a, y :: xs, z :: b, h1, h2, h3 => fun w hw => by
    have a1 := h1 x (List.mem_cons_self ..)
    have a2 := h2 y (List.mem_cons_self ..)
    have a3 := h3 z (List.mem_cons_self ..)
    rcases List.mem_cons.mp hw with e | e
    · rw [e]
      unfold outF max2
      split
      · omega
      · split <;> omega
    · exact out_bd (fun v hv => h1 v (List.mem_cons_of_mem _ hv)) (fun v hv => h2 v (List.mem_cons_of_mem _ hv)) (fun v hv => h3 v (List.mem_cons_of_mem _ hv)) w e

theorem dist_comm : ∀ xs ys : List Int, dist xs ys = dist ys xs
  | [], [] => rfl
  | [], _ :: _ => by simp [dist]
  | _ :: _, [] => by simp [dist]
  | x :: xs, y :: ys => by
    have ih := dist_comm xs ys
    have e : (x - y) * (x - y) = (y - x) * (y - x) := by grind
    unfold dist
    omega
theorem dist_three : ∀ as bs cs : List Int, as.length = bs.length → as.length = cs.length → dist as cs = dist as bs + dist bs cs - 2 * dotd as bs cs bs
  | [], [], [], _, _ => by simp [dist, dotd]
  | a :: as, b :: bs, c :: cs, h1, h2 => by
    have ih := dist_three as bs cs (by simpa using h1) (by simpa using h2)
    unfold dist dotd
    grind
  | [], _ :: _, _, h, _ => by simp at h
  | [], [], _ :: _, _, h => by simp at h
  | _ :: _, [], _, h, _ => by simp at h
  | _ :: _, _ :: _, [], _, h => by simp at h
theorem gap_nn {far near : Int} (f0 : 0 ≤ far) (n0 : 0 ≤ near) : 0 ≤ gapZ far near := by
  unfold gapZ
  by_cases c : near ≥ far
  · rw [if_pos c]
    exact Int.le_refl 0
  · rw [if_neg c]
    have p : 0 ≤ 4 * far * near := Int.mul_nonneg (by omega) n0
    obtain ⟨r0, r1, r2⟩ := rootZ_spec p
    generalize rootZ (4 * far * near) = r at *
    rcases Int.lt_or_le (far + near) r with l | l
    · exfalso
      have a : 0 ≤ (r - (far + near) - 1) * (r + (far + near)) := Int.mul_nonneg (by omega) (by omega)
      have b := sq_nn (far - near)
      have e : (r - (far + near) - 1) * (r + (far + near)) = r * r - (far - near) * (far - near) - 4 * far * near - r - (far + near) := by grind
      omega
    · omega
/-- step A: the far distance shrinks -/
theorem step_far {t d far N : Int} (t0 : 0 ≤ t - d) (d0 : 0 ≤ d) (N0 : 0 ≤ N) (Nf : N ≤ far) (h : t * t ≤ 4 * (far + d) * N) : (t - d) * (t - d) ≤ 4 * far * N := by
  by_cases c : 4 * N - 2 * t + d ≤ 0
  · have a : 0 ≤ d * (2 * t - 4 * N - d) := Int.mul_nonneg d0 (by omega)
    have e : d * (2 * t - 4 * N - d) = 2 * t * d - 4 * d * N - d * d := by grind
    have e2 : (t - d) * (t - d) = t * t - 2 * t * d + d * d := by grind
    have e3 : 4 * (far + d) * N = 4 * far * N + 4 * d * N := by grind
    omega
  · have a : (t - d) * (t - d) ≤ (2 * N) * (2 * N) := sq_le (by omega) (by omega)
    have b : 0 ≤ 4 * N * (far - N) := Int.mul_nonneg (by omega) (by omega)
    have e : 4 * N * (far - N) = 4 * far * N - 2 * N * (2 * N) := by grind
    omega
/-- step B: the near distance grows -/
theorem step_near {m v far N : Int} (N0 : 0 ≤ N) (v0 : 0 ≤ v) (h1 : N + v ≤ far) (h : 0 ≤ m → m * m ≤ 4 * far * N) (mv : 0 ≤ m + v) : (m + v) * (m + v) ≤ 4 * far * (N + v) := by
  have b : 0 ≤ 4 * far * N := Int.mul_nonneg (by omega) N0
  by_cases c : 0 ≤ m
  · have k := h c
    have m1 : m ≤ far + N := by
      rcases Int.lt_or_le (far + N) m with l | l
      · exfalso
        have a : 0 ≤ (m - (far + N) - 1) * (m + (far + N)) := Int.mul_nonneg (by omega) (by omega)
        have s := sq_nn (far - N)
        have e : (m - (far + N) - 1) * (m + (far + N)) = m * m - (far - N) * (far - N) - 4 * far * N - m - (far + N) := by grind
        omega
      · exact l
    have a : 0 ≤ v * (4 * far - 2 * m - v) := Int.mul_nonneg v0 (by omega)
    have e : v * (4 * far - 2 * m - v) = 4 * far * v - 2 * m * v - v * v := by grind
    have e2 : (m + v) * (m + v) = m * m + 2 * m * v + v * v := by grind
    have e3 : 4 * far * (N + v) = 4 * far * N + 4 * far * v := by grind
    omega
  · have a : (m + v) * (m + v) ≤ v * v := sq_le (by omega) (by omega)
    have s : 0 ≤ v * (4 * far - v) := Int.mul_nonneg v0 (by omega)
    have e : v * (4 * far - v) = 4 * far * v - v * v := by grind
    have e3 : 4 * far * (N + v) = 4 * far * N + 4 * far * v := by grind
    omega
theorem gap_safe {as bs cs : List Int} {far near : Int} (h1 : as.length = bs.length) (h2 : as.length = cs.length) (hf : far ≤ dist as bs) (hn : dist bs cs ≤ near) (f0 : 0 ≤ far) :
    gapZ far near ≤ dist as cs := by
  unfold gapZ
  by_cases c : near ≥ far
  · rw [if_pos c]
    exact dist_nn _ _
  · rw [if_neg c]
    have N0 := dist_nn bs cs
    have p : 0 ≤ 4 * far * near := Int.mul_nonneg (by omega) (by omega)
    obtain ⟨r0, r1, r2⟩ := rootZ_spec p
    have e := dist_three as bs cs h1 h2
    have k := cauchy (as := as) (bs := bs) (ps := cs) (qs := bs) h1 h2 h1
    rw [dist_comm cs bs] at k
    generalize dist as cs = D at *
    generalize dist as bs = F at *
    generalize dist bs cs = N at *
    generalize dotd as bs cs bs = S at *
    generalize rootZ (4 * far * near) = r at *
    have kk : 2 * S * (2 * S) ≤ 4 * (far + (F - far)) * N := by
      have e1 : 2 * S * (2 * S) = 4 * (S * S) := by grind
      have e2 : 4 * (far + (F - far)) * N = 4 * (F * N) := by grind
      omega
    by_cases mm : 0 ≤ 2 * S - (F - far) + (near - N)
    · have g := step_near (m := 2 * S - (F - far)) (v := near - N) (far := far) (N := N) N0 (by omega) (by omega) (fun z => step_far z (by omega) N0 (by omega) kk) mm
      rw [show N + (near - N) = near by omega] at g
      have := root_le r0 r2 g
      omega
    · omega

def nearB (v : List Int) (p : Pt) : Bool := endF v.length p && decide ((ter fSq p.2.1 (cutI v p.1.toNat p.2.1.length)).sum ≤ p.2.2)
def inB3 : List Int → List Int → List Int → Bool
  | l :: ls, x :: xs, h :: hs => (decide (l ≤ x) && decide (x ≤ h)) && inB3 ls xs hs
  | _, _, _ => true
def holdsB (v : List Int) : VF → Bool
  | .parts ps => ps.all (nearB v)
  | .cell a b => decide (a.length = v.length ∧ b.length = v.length) && decide ((ter fSq v a).sum ≤ (ter fSq v b).sum)
  | .box a b => decide (a.length = v.length ∧ b.length = v.length) && inB3 a v b
  | .norms a b => decide (a ≤ (ter fMul v v).sum) && decide ((ter fMul v v).sum ≤ b)
  | .differ c m => decide (c.length = v.length) && decide ((ter fNe c v).sum ≤ m)
theorem dist_split : ∀ (l : Nat) (xs ys : List Int), dist xs ys = dist (xs.take l) (ys.take l) + dist (xs.drop l) (ys.drop l)
  | 0, xs, ys => by simp [dist]
  | l + 1, [], ys => by simp [dist]
  | l + 1, x :: xs, [] => by simp [dist]
  | l + 1, x :: xs, y :: ys => by
    have ih := dist_split l xs ys
    simp only [List.take_succ_cons, List.drop_succ_cons]
    have e1 : dist (x :: xs) (y :: ys) = (x - y) * (x - y) + dist xs ys := by rw [dist]
    have e2 : dist (x :: xs.take l) (y :: ys.take l) = (x - y) * (x - y) + dist (xs.take l) (ys.take l) := by rw [dist]
    omega
theorem dist_drop {xs ys : List Int} {e s : Nat} (h : e ≤ s) : dist (xs.drop s) (ys.drop s) ≤ dist (xs.drop e) (ys.drop e) := by
  have := dist_split (s - e) (xs.drop e) (ys.drop e)
  rw [List.drop_drop, List.drop_drop, show e + (s - e) = s by omega] at this
  have := dist_nn ((xs.drop e).take (s - e)) ((ys.drop e).take (s - e))
  omega
theorem gap1_le {q v : List Int} {p : Pt} (hl : q.length = v.length) (h : nearB v p = true) : gap1 q p ≤ dist ((q.drop p.1.toNat).take p.2.1.length) ((v.drop p.1.toNat).take p.2.1.length) := by
  unfold nearB at h
  rw [Bool.and_eq_true] at h
  obtain ⟨e0, e1⟩ := endF_of h.1
  have d := of_decide_eq_true h.2
  unfold gap1
  rw [← dist_ter] at d ⊢
  have l1 : (cutI q p.1.toNat p.2.1.length).length = p.2.1.length := cutI_len (by omega)
  have l2 : (cutI v p.1.toNat p.2.1.length).length = p.2.1.length := cutI_len (by omega)
  have := gap_safe (as := cutI q p.1.toNat p.2.1.length) (bs := p.2.1) (cs := cutI v p.1.toNat p.2.1.length) (far := dist p.2.1 (cutI q p.1.toNat p.2.1.length)) (near := p.2.2) l1 (by rw [l1, l2]) (by rw [dist_comm]; exact Int.le_refl _) d (dist_nn _ _)
  exact this
theorem parts_safe {q v : List Int} (hl : q.length = v.length) : ∀ (ps : List Pt) (e : Int), 0 ≤ e → apartF ps e = true → (∀ p ∈ ps, nearB v p = true) → (ps.map (gap1 q)).sum ≤ dist (q.drop e.toNat) (v.drop e.toNat)
  | [], e, _, _, _ => dist_nn _ _
  | p :: r, e, e0, ha, hn => by
    rw [apartF_cons] at ha
    by_cases c : p.1 < e
    · rw [if_pos c] at ha
      cases ha
    rw [if_neg c] at ha
    have g := gap1_le hl (hn p (List.mem_cons_self ..))
    have ih := parts_safe hl r (p.1 + p.2.1.length) (by omega) ha (fun x hx => hn x (List.mem_cons_of_mem _ hx))
    have s := dist_split p.2.1.length (q.drop p.1.toNat) (v.drop p.1.toNat)
    rw [List.drop_drop, List.drop_drop, show p.1.toNat + p.2.1.length = (p.1 + (p.2.1.length : Int)).toNat by omega] at s
    have d := dist_drop (xs := q) (ys := v) (show e.toNat ≤ p.1.toNat by omega)
    rw [List.map_cons, List.sum_cons]
    omega
theorem box_safe : ∀ (a q b v : List Int), a.length = q.length → b.length = q.length → v.length = q.length → inB3 a v b = true → (ter fMul (ter3 outF a q b) (ter3 outF a q b)).sum ≤ dist q v
  | [], [], [], [], _, _, _, _ => by simp [ter3, ter, dist]
  | l :: a, x :: q, h :: b, y :: v, h1, h2, h3, hi => by
    have hi' : ((decide (l ≤ y) && decide (y ≤ h)) && inB3 a v b) = true := hi
    rw [Bool.and_eq_true, Bool.and_eq_true] at hi'
    obtain ⟨⟨i1, i2⟩, i3⟩ := hi'
    have i1 := of_decide_eq_true i1
    have i2 := of_decide_eq_true i2
    have ih := box_safe a q b v (by simpa using h1) (by simpa using h2) (by simpa using h3) i3
    have e : (ter fMul (ter3 outF (l :: a) (x :: q) (h :: b)) (ter3 outF (l :: a) (x :: q) (h :: b))).sum = outF l x h * outF l x h + (ter fMul (ter3 outF a q b) (ter3 outF a q b)).sum := by simp [ter3, ter, fMul]
    have d : dist (x :: q) (y :: v) = (x - y) * (x - y) + dist q v := by rw [dist]
    have k : outF l x h * outF l x h ≤ (x - y) * (x - y) := by
      unfold outF max2
      split
      · have : (l - x) * (l - x) ≤ (y - x) * (y - x) := sq_le (by omega) (by omega)
        have e : (y - x) * (y - x) = (x - y) * (x - y) := by grind
        omega
      · split
        · exact sq_le (by omega) (by omega)
        · have := sq_nn (x - y)
          omega
    omega
  | [], _ :: _, _, _, h, _, _, _ => by simp at h
  | _ :: _, [], _, _, h, _, _, _ => by simp at h
  | [], [], _ :: _, _, _, h, _, _ => by simp at h
  | _ :: _, _ :: _, [], _, _, h, _, _ => by simp at h
  | [], [], [], _ :: _, _, _, h, _ => by simp at h
  | _ :: _, _ :: _, _ :: _, [], _, _, h, _ => by simp at h
def zer (n : Nat) : List Int := List.replicate n 0
theorem dist_zer : ∀ xs : List Int, dist xs (zer xs.length) = (ter fMul xs xs).sum
  | [] => rfl
  | x :: xs => by
    have ih := dist_zer xs
    have e : (ter fMul (x :: xs) (x :: xs)).sum = x * x + (ter fMul xs xs).sum := by simp [ter, fMul]
    have d : dist (x :: xs) (zer (x :: xs).length) = (x - 0) * (x - 0) + dist xs (zer xs.length) := by
      show dist (x :: xs) (0 :: zer xs.length) = _
      rw [dist]
    rw [d, e, ih]
    simp
theorem zer_len (n : Nat) : (zer n).length = n := by simp [zer]
theorem least_safe {f : VF} {q v : List Int} (hl : q.length = v.length) (h : holdsB v f = true) : leastZ q f ≤ (ter fSq q v).sum := by
  rw [← dist_ter]
  cases f with
  | parts ps =>
    show leastP ps q ≤ _
    unfold leastP
    split
    · rename_i c
      have := parts_safe hl ps 0 (Int.le_refl 0) c.2 (fun p hp => List.all_eq_true.mp h p hp)
      simpa using this
    · exact dist_nn _ _
  | cell a b =>
    show leastC a b q ≤ _
    unfold leastC
    have h' : (decide (a.length = v.length ∧ b.length = v.length) && decide ((ter fSq v a).sum ≤ (ter fSq v b).sum)) = true := h
    rw [Bool.and_eq_true] at h'
    have c := of_decide_eq_true h'.1
    have d := of_decide_eq_true h'.2
    rw [← dist_ter, ← dist_ter] at d
    rw [if_pos ⟨by omega, by omega⟩, ← dist_ter, ← dist_ter, ← dist_ter, dist_comm q v]
    exact split_safe (as := a) (bs := b) (ps := v) (qs := q) (by omega) (by omega) (by omega) d
  | box a b =>
    show leastB a b q ≤ _
    unfold leastB
    have h' : (decide (a.length = v.length ∧ b.length = v.length) && inB3 a v b) = true := h
    rw [Bool.and_eq_true] at h'
    have c := of_decide_eq_true h'.1
    rw [if_pos ⟨by omega, by omega⟩]
    exact box_safe a q b v (by omega) (by omega) (by omega) h'.2
  | norms a b =>
    show leastN a b q ≤ _
    unfold leastN
    have h' : (decide (a ≤ (ter fMul v v).sum) && decide ((ter fMul v v).sum ≤ b)) = true := h
    rw [Bool.and_eq_true] at h'
    have c1 := of_decide_eq_true h'.1
    have c2 := of_decide_eq_true h'.2
    have z1 := dist_zer q
    have z2 := dist_zer v
    have n0 := ter_sq_nn q
    split
    · have g := gap_safe (as := q) (bs := zer q.length) (cs := v) (far := (ter fMul q q).sum) (near := b) (zer_len _).symm hl (by omega) (by rw [dist_comm, hl]; omega) n0
      exact g
    · split
      · rename_i c3
        have g := gap_safe (as := v) (bs := zer v.length) (cs := q) (far := a) (near := (ter fMul q q).sum) (zer_len _).symm hl.symm (by omega) (by rw [dist_comm, ← hl]; omega) (by omega)
        rw [dist_comm]
        exact g
      · exact dist_nn _ _
  | differ c m => exact dist_nn _ _
theorem ne_nn : ∀ xs ys : List Int, 0 ≤ (ter fNe xs ys).sum
  | [], _ => by simp [ter]
  | _ :: _, [] => by simp [ter]
  | x :: xs, y :: ys => by
    have ih := ne_nn xs ys
    have e : (ter fNe (x :: xs) (y :: ys)).sum = fNe x y + (ter fNe xs ys).sum := by simp [ter]
    have : 0 ≤ fNe x y := by unfold fNe; split <;> omega
    omega
theorem ne_tri : ∀ xs ys zs : List Int, xs.length = ys.length → xs.length = zs.length → (ter fNe xs zs).sum ≤ (ter fNe xs ys).sum + (ter fNe ys zs).sum
  | [], [], [], _, _ => by simp [ter]
  | x :: xs, y :: ys, z :: zs, h1, h2 => by
    have ih := ne_tri xs ys zs (by simpa using h1) (by simpa using h2)
    have e1 : (ter fNe (x :: xs) (z :: zs)).sum = fNe x z + (ter fNe xs zs).sum := by simp [ter]
    have e2 : (ter fNe (x :: xs) (y :: ys)).sum = fNe x y + (ter fNe xs ys).sum := by simp [ter]
    have e3 : (ter fNe (y :: ys) (z :: zs)).sum = fNe y z + (ter fNe ys zs).sum := by simp [ter]
    have : fNe x z ≤ fNe x y + fNe y z := by
      unfold fNe
      by_cases a : x = y
      · subst a
        rw [if_pos rfl]
        omega
      · rw [if_neg a]
        split <;> split <;> omega
    omega
  | [], _ :: _, _, h, _ => by simp at h
  | _ :: _, [], _, h, _ => by simp at h
  | [], [], _ :: _, _, h => by simp at h
  | _ :: _, _ :: _, [], _, h => by simp at h
def Bits (xs : List Int) : Prop := ∀ x ∈ xs, x = 0 ∨ x = 1
theorem bits_ne : ∀ {xs ys : List Int}, Bits xs → Bits ys → (ter fSq xs ys).sum = (ter fNe xs ys).sum
  | [], _, _, _ => by simp [ter]
  | _ :: _, [], _, _ => by simp [ter]
  | x :: xs, y :: ys, h1, h2 => by
    have ih := bits_ne (xs := xs) (ys := ys) (fun z hz => h1 z (List.mem_cons_of_mem _ hz)) (fun z hz => h2 z (List.mem_cons_of_mem _ hz))
    have e1 : (ter fSq (x :: xs) (y :: ys)).sum = fSq x y + (ter fSq xs ys).sum := by simp [ter]
    have e2 : (ter fNe (x :: xs) (y :: ys)).sum = fNe x y + (ter fNe xs ys).sum := by simp [ter]
    have a := h1 x (List.mem_cons_self ..)
    have b := h2 y (List.mem_cons_self ..)
    have : fSq x y = fNe x y := by
      rcases a with rfl | rfl <;> rcases b with rfl | rfl <;> decide
    omega
theorem diff_safe {f : VF} {q v : List Int} (hl : q.length = v.length) (h : holdsB v f = true) (b1 : Bits q) (b2 : Bits v) : diffZ q f ≤ (ter fNe q v).sum := by
  have other : ∀ g, leastZ q g = diffZ q g → holdsB v g = true → diffZ q g ≤ (ter fNe q v).sum := fun g e hg => by
    rw [← e, ← bits_ne b1 b2]
    exact least_safe hl hg
  cases f with
  | differ c m =>
    show diffD c m q ≤ _
    unfold diffD
    have h' : (decide (c.length = v.length) && decide ((ter fNe c v).sum ≤ m)) = true := h
    rw [Bool.and_eq_true] at h'
    have c1 := of_decide_eq_true h'.1
    have c2 := of_decide_eq_true h'.2
    have t := ne_tri q v c hl (by omega)
    rw [ne_comm' v c] at t
    have n := ne_nn q v
    rw [if_pos (by omega)]
    unfold max2
    split <;> omega
  | parts ps => exact other _ rfl h
  | cell a b => exact other _ rfl h
  | box a b => exact other _ rfl h
  | norms a b => exact other _ rfl h
theorem inner_split : ∀ (l : Nat) (xs ys : List Int), (ter fMul xs ys).sum = (ter fMul (xs.take l) (ys.take l)).sum + (ter fMul (xs.drop l) (ys.drop l)).sum
  | 0, xs, ys => by simp [ter]
  | l + 1, [], ys => by simp [ter]
  | l + 1, x :: xs, [] => by simp [ter]
  | l + 1, x :: xs, y :: ys => by
    have ih := inner_split l xs ys
    have e1 : (ter fMul (x :: xs) (y :: ys)).sum = fMul x y + (ter fMul xs ys).sum := by simp [ter]
    have e2 : (ter fMul (x :: xs.take l) (y :: ys.take l)).sum = fMul x y + (ter fMul (xs.take l) (ys.take l)).sum := by simp [ter]
    simp only [List.take_succ_cons, List.drop_succ_cons]
    omega
theorem dotd_in : ∀ c v q : List Int, c.length = q.length → v.length = q.length → dotd c v (zer q.length) q = (ter fMul q v).sum - (ter fMul c q).sum
  | [], [], [], _, _ => by simp [dotd, ter]
  | x :: c, y :: v, z :: q, h1, h2 => by
    have ih := dotd_in c v q (by simpa using h1) (by simpa using h2)
    have e1 : (ter fMul (z :: q) (y :: v)).sum = z * y + (ter fMul q v).sum := by simp [ter, fMul]
    have e2 : (ter fMul (x :: c) (z :: q)).sum = x * z + (ter fMul c q).sum := by simp [ter, fMul]
    have e3 : dotd (x :: c) (y :: v) (zer (z :: q).length) (z :: q) = (y - x) * (z - 0) + dotd c v (zer q.length) q := by
      show dotd (x :: c) (y :: v) (0 :: zer q.length) (z :: q) = _
      rw [dotd]
    rw [e1, e2, e3, ih]
    grind
  | [], _ :: _, [], _, h => by simp at h
  | [], _, _ :: _, h, _ => by simp at h
  | _ :: _, _, [], h, _ => by simp at h
  | _ :: _, [], _ :: _, _, h => by simp at h
theorem inner_root {c v q : List Int} {r : Int} (h1 : c.length = q.length) (h2 : v.length = q.length) (h : dist c v ≤ r) : (ter fMul q v).sum ≤ (ter fMul c q).sum + rootZ ((ter fMul q q).sum * r) := by
  have k := cauchy (as := c) (bs := v) (ps := zer q.length) (qs := q) (by omega) (by rw [zer_len]; exact h1) h1
  have z : dist (zer q.length) q = (ter fMul q q).sum := by rw [dist_comm]; exact dist_zer q
  rw [z, dotd_in c v q h1 h2] at k
  have n0 := ter_sq_nn q
  have d0 := dist_nn c v
  have m0 := Int.mul_nonneg n0 (show 0 ≤ r by omega)
  obtain ⟨r0, r1, r2⟩ := rootZ_spec m0
  have m1 : 0 ≤ (r - dist c v) * (ter fMul q q).sum := Int.mul_nonneg (by omega) n0
  have m2 : (r - dist c v) * (ter fMul q q).sum = (ter fMul q q).sum * r - dist c v * (ter fMul q q).sum := by grind
  have := root_le r0 r2 (m := (ter fMul q v).sum - (ter fMul c q).sum) (by omega)
  omega
theorem prod_parts {q v : List Int} (hl : q.length = v.length) : ∀ (ps : List Pt) (e : Int), 0 ≤ e → mkUp ps e q.length = true → (∀ p ∈ ps, nearB v p = true) → (ter fMul (q.drop e.toNat) (v.drop e.toNat)).sum ≤ (ps.map (prod1 q)).sum
  | [], e, e0, h, _ => by
    have h' : e = q.length := of_decide_eq_true h
    rw [show e.toNat = q.length by omega, List.drop_length]
    simp [ter]
  | p :: r, e, e0, h, hn => by
    rw [mkUp_cons] at h
    by_cases c : p.1 = e
    rotate_left
    · rw [if_neg c] at h
      cases h
    rw [if_pos c] at h
    have ih := prod_parts hl r (p.1 + p.2.1.length) (by omega) h (fun x hx => hn x (List.mem_cons_of_mem _ hx))
    have hp := hn p (List.mem_cons_self ..)
    unfold nearB at hp
    rw [Bool.and_eq_true] at hp
    obtain ⟨e1, e2⟩ := endF_of hp.1
    have d := of_decide_eq_true hp.2
    rw [← dist_ter] at d
    have l1 : (cutI q p.1.toNat p.2.1.length).length = p.2.1.length := cutI_len (by omega)
    have l2 : (cutI v p.1.toNat p.2.1.length).length = p.2.1.length := cutI_len (by omega)
    have k := inner_root (c := p.2.1) (v := cutI v p.1.toNat p.2.1.length) (q := cutI q p.1.toNat p.2.1.length) (r := p.2.2) l1.symm (by omega) d
    have s := inner_split p.2.1.length (q.drop e.toNat) (v.drop e.toNat)
    rw [List.drop_drop, List.drop_drop, ← c, show p.1.toNat + p.2.1.length = (p.1 + (p.2.1.length : Int)).toNat by omega] at s
    rw [← c, List.map_cons, List.sum_cons]
    have u : prod1 q p = (ter fMul p.2.1 (cutI q p.1.toNat p.2.1.length)).sum + rootZ ((ter fMul (cutI q p.1.toNat p.2.1.length) (cutI q p.1.toNat p.2.1.length)).sum * p.2.2) := rfl
    have u2 : (ter fMul ((q.drop p.1.toNat).take p.2.1.length) ((v.drop p.1.toNat).take p.2.1.length)).sum = (ter fMul (cutI q p.1.toNat p.2.1.length) (cutI v p.1.toNat p.2.1.length)).sum := rfl
    omega
theorem prod_box : ∀ (a q b v : List Int), a.length = q.length → b.length = q.length → v.length = q.length → inB3 a v b = true → (ter fMul q v).sum ≤ (ter3 fBox a q b).sum
  | [], [], [], [], _, _, _, _ => by simp [ter3, ter]
  | l :: a, x :: q, h :: b, y :: v, h1, h2, h3, hi => by
    have hi' : ((decide (l ≤ y) && decide (y ≤ h)) && inB3 a v b) = true := hi
    rw [Bool.and_eq_true, Bool.and_eq_true] at hi'
    obtain ⟨⟨i1, i2⟩, i3⟩ := hi'
    have i1 := of_decide_eq_true i1
    have i2 := of_decide_eq_true i2
    have ih := prod_box a q b v (by simpa using h1) (by simpa using h2) (by simpa using h3) i3
    have e : (ter3 fBox (l :: a) (x :: q) (h :: b)).sum = fBox l x h + (ter3 fBox a q b).sum := by simp [ter3]
    have d : (ter fMul (x :: q) (y :: v)).sum = x * y + (ter fMul q v).sum := by simp [ter, fMul]
    have k : x * y ≤ fBox l x h := by
      have p1 : 0 ≤ x → x * y ≤ h * x := fun x0 => by
        have := Int.mul_nonneg x0 (show 0 ≤ h - y by omega)
        have e : x * (h - y) = h * x - x * y := by grind
        omega
      have p2 : x ≤ 0 → x * y ≤ l * x := fun x0 => by
        have := Int.mul_nonneg (show 0 ≤ -x by omega) (show 0 ≤ y - l by omega)
        have e : -x * (y - l) = l * x - x * y := by grind
        omega
      unfold fBox max2
      rcases Int.le_total 0 x with g | g
      · have := p1 g
        split <;> omega
      · have := p2 g
        split <;> omega
    omega
  | [], _ :: _, _, _, h, _, _, _ => by simp at h
  | _ :: _, [], _, _, h, _, _, _ => by simp at h
  | [], [], _ :: _, _, _, h, _, _ => by simp at h
  | _ :: _, _ :: _, [], _, _, h, _, _ => by simp at h
  | [], [], [], _ :: _, _, _, h, _ => by simp at h
  | _ :: _, _ :: _, _ :: _, [], _, _, h, _ => by simp at h
theorem ter_zer : ∀ xs : List Int, (ter fMul (zer xs.length) xs).sum = 0
  | [] => rfl
  | x :: xs => by
    have ih := ter_zer xs
    have e : (ter fMul (zer (x :: xs).length) (x :: xs)).sum = 0 * x + (ter fMul (zer xs.length) xs).sum := by
      show (ter fMul (0 :: zer xs.length) (x :: xs)).sum = _
      simp [ter, fMul]
    rw [e, ih]
    simp
theorem prod_safe {f : VF} {q v : List Int} {z : Int} (hl : q.length = v.length) (h : holdsB v f = true) (hz : prodZ q f = some z) : (ter fMul q v).sum ≤ z := by
  cases f with
  | parts ps =>
    have hz' : prodP ps q = some z := hz
    unfold prodP at hz'
    by_cases c : mkUp ps 0 q.length = true
    · rw [if_pos c] at hz'
      cases hz'
      have := prod_parts hl ps 0 (Int.le_refl 0) c (fun p hp => List.all_eq_true.mp h p hp)
      simpa using this
    · rw [if_neg c] at hz'
      cases hz'
  | cell a b => cases hz
  | box a b =>
    have hz' : prodB a b q = some z := hz
    unfold prodB at hz'
    have h' : (decide (a.length = v.length ∧ b.length = v.length) && inB3 a v b) = true := h
    rw [Bool.and_eq_true] at h'
    have c := of_decide_eq_true h'.1
    rw [if_pos ⟨by omega, by omega⟩] at hz'
    cases hz'
    exact prod_box a q b v (by omega) (by omega) (by omega) h'.2
  | norms a b =>
    cases hz
    have h' : (decide (a ≤ (ter fMul v v).sum) && decide ((ter fMul v v).sum ≤ b)) = true := h
    rw [Bool.and_eq_true] at h'
    have c2 := of_decide_eq_true h'.2
    have k := inner_root (c := zer q.length) (v := v) (q := q) (r := b) (zer_len _) hl.symm (by rw [dist_comm, hl, dist_zer]; exact c2)
    rw [ter_zer] at k
    omega
  | differ c m => cases hz

def sq : Bool → List V → HO
  | true, xs => .tup xs
  | false, xs => .lst xs
theorem sq_len {K : PySem.W.Frag} {H : Hp} {l : Addr} {k : Bool} {xs : List V} (h : H l = some (sq k xs)) : SqL K H l xs ∨ SqT K H l xs := by
  cases k
  · exact .inl (SqL.of h)
  · exact .inr (SqT.of h)
theorem sqx_k {K : PySem.W.Frag} {H : Hp} {l : Addr} {k : Bool} {xs : List V} (h : H l = some (sq k xs)) : ZN.SqX K H ⟨l, k⟩ xs := by
  cases k
  · exact SqL.of h
  · exact SqT.of h
theorem cut_whole {xs : List Int} {i j : Int} (h0 : 0 ≤ i) (h1 : i ≤ j) (h2 : j ≤ xs.length) (w : HT.sIx (xs.map V.int).length 0 (some i) = 0 ∧ HT.sIx (xs.map V.int).length (xs.map V.int).length (some j) = (xs.map V.int).length) : cutI xs i.toNat (j.toNat - i.toNat) = xs := by
  have e1 : i = ((i.toNat : Nat) : Int) := by omega
  have e2 : j = ((j.toNat : Nat) : Int) := by omega
  rw [e1, e2, sIx_nat (by rw [List.length_map]; omega), sIx_nat (by rw [List.length_map]; omega), List.length_map] at w
  unfold cutI
  rw [w.1, w.2]
  simp

theorem cut1 (xs : List V) : cutV xs (some 1) none = xs.drop 1 := by
  unfold cutV
  have e1 : HT.sIx xs.length 0 (some 1) = min 1 xs.length := by
    unfold HT.sIx
    simp only
    split <;> omega
  have e2 : HT.sIx xs.length xs.length none = xs.length := rfl
  rw [e1, e2]
  rcases Nat.lt_or_ge xs.length 1 with h | h
  · rw [Nat.min_eq_right (by omega), List.drop_eq_nil_of_le (Nat.le_refl _), List.drop_eq_nil_of_le (by omega)]
    simp
  · rw [Nat.min_eq_left h, List.take_of_length_le]
    rw [List.length_drop]
    omega
theorem dts_get {N : List Addr} {H : Hp} {us : List V} {vss : List (List Int)} {i : Nat} {y : V} (t : Dts N H us (vss.map intsD)) (h : us[i]? = some y) : ∃ a v, y = .ref a ∧ a ∉ N ∧ H a = some (.lst (v.map V.int)) ∧ vss[i]? = some v := by
  obtain ⟨d, ed, xd⟩ := t.get h
  rw [List.getElem?_map] at ed
  cases ev : vss[i]? with
  | none => rw [ev] at ed; cases ed
  | some v =>
    rw [ev] at ed
    cases Option.some.inj ed
    obtain ⟨p, e, n, g⟩ := xd.isInts
    exact ⟨p, v, e, n, g, rfl⟩
theorem dist_bd {xs ys : List Int} (h1 : VecOk xs) (h2 : VecOk ys) : 0 ≤ dist xs ys ∧ dist xs ys ≤ 480000000000 := by
  rw [dist_ter]
  exact sq_bd h1 h2
theorem sq_small {xs ys : List Int} (l : xs.length ≤ 4) (h1 : Bd 1000 xs) (h2 : Bd 1000 ys) : 0 ≤ dist xs ys ∧ dist xs ys ≤ 16000000 := by
  have a := dist_le h1 h2
  have b := dist_nn xs ys
  have e : (4 : Int) * (1000 * 1000) = 4000000 := by decide
  rw [e] at a
  omega
theorem inn_small {xs : List Int} (l : xs.length ≤ 4) (h1 : Bd 1000 xs) : 0 ≤ (ter fMul xs xs).sum ∧ (ter fMul xs xs).sum ≤ 16000000 := by
  have b := ter_bd (f := fMul) (c := 1000000) (xs := xs) (ys := xs) (fun x hx y hy => by
    have := mul_bd (h1 x hx).1 (h1 x hx).2 (h1 y hy).1 (h1 y hy).2
    unfold fMul
    omega) (by decide)
  have := ter_sq_nn xs
  omega

theorem inB3_of : ∀ {a v b : List Int}, (∀ (j : Nat) (l x h : Int), a[j]? = some l → v[j]? = some x → b[j]? = some h → l ≤ x ∧ x ≤ h) → inB3 a v b = true
  | [], _, _, _ => rfl
  | _ :: _, [], _, _ => rfl
  | _ :: _, _ :: _, [], _ => rfl
  | l :: a, x :: v, h :: b, k => by
    have k0 := k 0 l x h rfl rfl rfl
    have ih := inB3_of (a := a) (v := v) (b := b) fun j l x h e1 e2 e3 => k (j + 1) l x h e1 e2 e3
    show ((decide (l ≤ x) && decide (x ≤ h)) && inB3 a v b) = true
    rw [decide_eq_true k0.1, decide_eq_true k0.2, ih]
    rfl

def ff_Part (v0 v1 v2 : V) : List (Str × V) := putF "radius" v2 (putF "centre" v1 (putF "start" v0 []))
theorem lk_Part_start {v0 v1 v2 : V} : (ff_Part v0 v1 v2).lookup ("start" : Str) = some v0 := by
  unfold ff_Part
  rw [lookup_putF, if_neg (by decide +kernel), lookup_putF, if_neg (by decide +kernel), lookup_putF, if_pos rfl]
theorem lk_Part_centre {v0 v1 v2 : V} : (ff_Part v0 v1 v2).lookup ("centre" : Str) = some v1 := by
  unfold ff_Part
  rw [lookup_putF, if_neg (by decide +kernel), lookup_putF, if_pos rfl]
theorem lk_Part_radius {v0 v1 v2 : V} : (ff_Part v0 v1 v2).lookup ("radius" : Str) = some v2 := by
  unfold ff_Part
  rw [lookup_putF, if_pos rfl]
theorem no_Part {v0 v1 v2 : V} {m : Str} (h0 : ¬ m = "start" := by decide +kernel) (h1 : ¬ m = "centre" := by decide +kernel) (h2 : ¬ m = "radius" := by decide +kernel) : (ff_Part v0 v1 v2).lookup m = none := by
  unfold ff_Part
  rw [lookup_putF, if_neg h2, lookup_putF, if_neg h1, lookup_putF, if_neg h0]
  rfl
def ff_Parts (v0 : V) : List (Str × V) := putF "parts" v0 []
theorem lk_Parts_parts {v0 : V} : (ff_Parts v0).lookup ("parts" : Str) = some v0 := by
  unfold ff_Parts
  rw [lookup_putF, if_pos rfl]
theorem no_Parts {v0 : V} {m : Str} (h0 : ¬ m = "parts" := by decide +kernel) : (ff_Parts v0).lookup m = none := by
  unfold ff_Parts
  rw [lookup_putF, if_neg h0]
  rfl
def ff_Cell (v0 v1 : V) : List (Str × V) := putF "rival" v1 (putF "near" v0 [])
theorem lk_Cell_near {v0 v1 : V} : (ff_Cell v0 v1).lookup ("near" : Str) = some v0 := by
  unfold ff_Cell
  rw [lookup_putF, if_neg (by decide +kernel), lookup_putF, if_pos rfl]
theorem lk_Cell_rival {v0 v1 : V} : (ff_Cell v0 v1).lookup ("rival" : Str) = some v1 := by
  unfold ff_Cell
  rw [lookup_putF, if_pos rfl]
theorem no_Cell {v0 v1 : V} {m : Str} (h0 : ¬ m = "near" := by decide +kernel) (h1 : ¬ m = "rival" := by decide +kernel) : (ff_Cell v0 v1).lookup m = none := by
  unfold ff_Cell
  rw [lookup_putF, if_neg h1, lookup_putF, if_neg h0]
  rfl
def ff_Box (v0 v1 : V) : List (Str × V) := putF "high" v1 (putF "low" v0 [])
theorem lk_Box_low {v0 v1 : V} : (ff_Box v0 v1).lookup ("low" : Str) = some v0 := by
  unfold ff_Box
  rw [lookup_putF, if_neg (by decide +kernel), lookup_putF, if_pos rfl]
theorem lk_Box_high {v0 v1 : V} : (ff_Box v0 v1).lookup ("high" : Str) = some v1 := by
  unfold ff_Box
  rw [lookup_putF, if_pos rfl]
theorem no_Box {v0 v1 : V} {m : Str} (h0 : ¬ m = "low" := by decide +kernel) (h1 : ¬ m = "high" := by decide +kernel) : (ff_Box v0 v1).lookup m = none := by
  unfold ff_Box
  rw [lookup_putF, if_neg h1, lookup_putF, if_neg h0]
  rfl
def ff_Norms (v0 v1 : V) : List (Str × V) := putF "high" v1 (putF "low" v0 [])
theorem lk_Norms_low {v0 v1 : V} : (ff_Norms v0 v1).lookup ("low" : Str) = some v0 := by
  unfold ff_Norms
  rw [lookup_putF, if_neg (by decide +kernel), lookup_putF, if_pos rfl]
theorem lk_Norms_high {v0 v1 : V} : (ff_Norms v0 v1).lookup ("high" : Str) = some v1 := by
  unfold ff_Norms
  rw [lookup_putF, if_pos rfl]
theorem no_Norms {v0 v1 : V} {m : Str} (h0 : ¬ m = "low" := by decide +kernel) (h1 : ¬ m = "high" := by decide +kernel) : (ff_Norms v0 v1).lookup m = none := by
  unfold ff_Norms
  rw [lookup_putF, if_neg h1, lookup_putF, if_neg h0]
  rfl
def ff_Differ (v0 v1 : V) : List (Str × V) := putF "most" v1 (putF "centre" v0 [])
theorem lk_Differ_centre {v0 v1 : V} : (ff_Differ v0 v1).lookup ("centre" : Str) = some v0 := by
  unfold ff_Differ
  rw [lookup_putF, if_neg (by decide +kernel), lookup_putF, if_pos rfl]
theorem lk_Differ_most {v0 v1 : V} : (ff_Differ v0 v1).lookup ("most" : Str) = some v1 := by
  unfold ff_Differ
  rw [lookup_putF, if_pos rfl]
theorem no_Differ {v0 v1 : V} {m : Str} (h0 : ¬ m = "centre" := by decide +kernel) (h1 : ¬ m = "most" := by decide +kernel) : (ff_Differ v0 v1).lookup m = none := by
  unfold ff_Differ
  rw [lookup_putF, if_neg h1, lookup_putF, if_neg h0]
  rfl
def ff_Record (v0 v1 v2 v3 : V) : List (Str × V) := putF "words" v3 (putF "fields" v2 (putF "vector" v1 (putF "name" v0 [])))
theorem lk_Record_name {v0 v1 v2 v3 : V} : (ff_Record v0 v1 v2 v3).lookup ("name" : Str) = some v0 := by
  unfold ff_Record
  rw [lookup_putF, if_neg (by decide +kernel), lookup_putF, if_neg (by decide +kernel), lookup_putF, if_neg (by decide +kernel), lookup_putF, if_pos rfl]
theorem lk_Record_vector {v0 v1 v2 v3 : V} : (ff_Record v0 v1 v2 v3).lookup ("vector" : Str) = some v1 := by
  unfold ff_Record
  rw [lookup_putF, if_neg (by decide +kernel), lookup_putF, if_neg (by decide +kernel), lookup_putF, if_pos rfl]
theorem lk_Record_fields {v0 v1 v2 v3 : V} : (ff_Record v0 v1 v2 v3).lookup ("fields" : Str) = some v2 := by
  unfold ff_Record
  rw [lookup_putF, if_neg (by decide +kernel), lookup_putF, if_pos rfl]
theorem lk_Record_words {v0 v1 v2 v3 : V} : (ff_Record v0 v1 v2 v3).lookup ("words" : Str) = some v3 := by
  unfold ff_Record
  rw [lookup_putF, if_pos rfl]
theorem no_Record {v0 v1 v2 v3 : V} {m : Str} (h0 : ¬ m = "name" := by decide +kernel) (h1 : ¬ m = "vector" := by decide +kernel) (h2 : ¬ m = "fields" := by decide +kernel) (h3 : ¬ m = "words" := by decide +kernel) : (ff_Record v0 v1 v2 v3).lookup m = none := by
  unfold ff_Record
  rw [lookup_putF, if_neg h3, lookup_putF, if_neg h2, lookup_putF, if_neg h1, lookup_putF, if_neg h0]
  rfl
theorem putF_le {f : Str} {v : V} {fs : List (Str × V)} {n : Nat} (h : fs.length ≤ n) : (putF f v fs).length ≤ n + 1 := by
  induction fs generalizing n with
  | nil => show 1 ≤ n + 1; omega
  | cons x r ih =>
    obtain ⟨g, y⟩ := x
    show (if g = f then (g, v) :: r else (g, y) :: putF f v r).length ≤ n + 1
    rw [List.length_cons] at h
    by_cases e : g = f
    · rw [if_pos e, List.length_cons]; omega
    · rw [if_neg e, List.length_cons]
      have := ih (n := r.length) (Nat.le_refl _)
      omega
/-! what the top has made -/
set_option maxHeartbeats 0 in
structure Txt (K : PySem.W.Frag) (mg : Str → Option Value) where
  f_law_row : Addr
  d_law_row : FuncData
  F_law_row : Fun K "_law_row" "_law_row" s_law_row f_law_row d_law_row
  b_law_row : Binds K d_law_row ["script", "k"] []
  g_law_row : mg "_law_row" = some (.ref f_law_row)
  f_law_next : Addr
  d_law_next : FuncData
  F_law_next : Fun K "_law_next" "_law_next" s_law_next f_law_next d_law_next
  b_law_next : Binds K d_law_next ["state", "many"] []
  g_law_next : mg "_law_next" = some (.ref f_law_next)
  f_root : Addr
  d_root : FuncData
  F_root : Fun K "root" "root" s_root f_root d_root
  b_root : Binds K d_root ["number"] []
  g_root : mg "root" = some (.ref f_root)
  f_gap : Addr
  d_gap : FuncData
  F_gap : Fun K "gap" "gap" s_gap f_gap d_gap
  b_gap : Binds K d_gap ["far", "near"] []
  g_gap : mg "gap" = some (.ref f_gap)
  f_inner : Addr
  d_inner : FuncData
  F_inner : Fun K "inner" "inner" s_inner f_inner d_inner
  b_inner : Binds K d_inner ["a", "b"] []
  g_inner : mg "inner" = some (.ref f_inner)
  f_distance : Addr
  d_distance : FuncData
  F_distance : Fun K "distance" "distance" s_distance f_distance d_distance
  b_distance : Binds K d_distance ["a", "b"] []
  g_distance : mg "distance" = some (.ref f_distance)
  f_differing : Addr
  d_differing : FuncData
  F_differing : Fun K "differing" "differing" s_differing f_differing d_differing
  b_differing : Binds K d_differing ["a", "b"] []
  g_differing : mg "differing" = some (.ref f_differing)
  f_norm : Addr
  d_norm : FuncData
  F_norm : Fun K "norm" "norm" s_norm f_norm d_norm
  b_norm : Binds K d_norm ["a"] []
  g_norm : mg "norm" = some (.ref f_norm)
  f_Part___init__ : Addr
  d_Part___init__ : FuncData
  F_Part___init__ : Fun K "__init__" "Part.__init__" s_Part___init__ f_Part___init__ d_Part___init__
  b_Part___init__ : Binds K d_Part___init__ ["self", "start", "centre", "radius"] []
  f_Parts___init__ : Addr
  d_Parts___init__ : FuncData
  F_Parts___init__ : Fun K "__init__" "Parts.__init__" s_Parts___init__ f_Parts___init__ d_Parts___init__
  b_Parts___init__ : Binds K d_Parts___init__ ["self", "parts"] []
  f_Cell___init__ : Addr
  d_Cell___init__ : FuncData
  F_Cell___init__ : Fun K "__init__" "Cell.__init__" s_Cell___init__ f_Cell___init__ d_Cell___init__
  b_Cell___init__ : Binds K d_Cell___init__ ["self", "near", "rival"] []
  f_Box___init__ : Addr
  d_Box___init__ : FuncData
  F_Box___init__ : Fun K "__init__" "Box.__init__" s_Box___init__ f_Box___init__ d_Box___init__
  b_Box___init__ : Binds K d_Box___init__ ["self", "low", "high"] []
  f_Norms___init__ : Addr
  d_Norms___init__ : FuncData
  F_Norms___init__ : Fun K "__init__" "Norms.__init__" s_Norms___init__ f_Norms___init__ d_Norms___init__
  b_Norms___init__ : Binds K d_Norms___init__ ["self", "low", "high"] []
  f_Differ___init__ : Addr
  d_Differ___init__ : FuncData
  F_Differ___init__ : Fun K "__init__" "Differ.__init__" s_Differ___init__ f_Differ___init__ d_Differ___init__
  b_Differ___init__ : Binds K d_Differ___init__ ["self", "centre", "most"] []
  f_Part_after : Addr
  d_Part_after : FuncData
  F_Part_after : Fun K "after" "Part.after" s_Part_after f_Part_after d_Part_after
  b_Part_after : Binds K d_Part_after ["self"] []
  f_have_size : Addr
  d_have_size : FuncData
  F_have_size : Fun K "have_size" "have_size" s_have_size f_have_size d_have_size
  b_have_size : Binds K d_have_size ["one", "other", "size"] []
  g_have_size : mg "have_size" = some (.ref f_have_size)
  f_numbers_at : Addr
  d_numbers_at : FuncData
  F_numbers_at : Fun K "numbers_at" "numbers_at" s_numbers_at f_numbers_at d_numbers_at
  b_numbers_at : Binds K d_numbers_at ["part", "vector"] []
  g_numbers_at : mg "numbers_at" = some (.ref f_numbers_at)
  f_ends_within : Addr
  d_ends_within : FuncData
  F_ends_within : Fun K "ends_within" "ends_within" s_ends_within f_ends_within d_ends_within
  b_ends_within : Binds K d_ends_within ["part", "vector"] []
  g_ends_within : mg "ends_within" = some (.ref f_ends_within)
  f_Fact_least_distance : Addr
  d_Fact_least_distance : FuncData
  F_Fact_least_distance : Fun K "least_distance" "Fact.least_distance" s_Fact_least_distance f_Fact_least_distance d_Fact_least_distance
  b_Fact_least_distance : Binds K d_Fact_least_distance ["self", "q"] []
  f_all_end_within : Addr
  d_all_end_within : FuncData
  F_all_end_within : Fun K "all_end_within" "all_end_within" s_all_end_within f_all_end_within d_all_end_within
  b_all_end_within : Binds K d_all_end_within ["parts", "vector"] []
  g_all_end_within : mg "all_end_within" = some (.ref f_all_end_within)
  f_are_apart : Addr
  d_are_apart : FuncData
  F_are_apart : Fun K "are_apart" "are_apart" s_are_apart f_are_apart d_are_apart
  b_are_apart : Binds K d_are_apart ["parts"] []
  g_are_apart : mg "are_apart" = some (.ref f_are_apart)
  f_Parts_least_distance : Addr
  d_Parts_least_distance : FuncData
  F_Parts_least_distance : Fun K "least_distance" "Parts.least_distance" s_Parts_least_distance f_Parts_least_distance d_Parts_least_distance
  b_Parts_least_distance : Binds K d_Parts_least_distance ["self", "q"] []
  f_split : Addr
  d_split : FuncData
  F_split : Fun K "split" "split" s_split f_split d_split
  b_split : Binds K d_split ["d", "e", "f"] []
  g_split : mg "split" = some (.ref f_split)
  f_Cell_least_distance : Addr
  d_Cell_least_distance : FuncData
  F_Cell_least_distance : Fun K "least_distance" "Cell.least_distance" s_Cell_least_distance f_Cell_least_distance d_Cell_least_distance
  b_Cell_least_distance : Binds K d_Cell_least_distance ["self", "q"] []
  f_number_outside : Addr
  d_number_outside : FuncData
  F_number_outside : Fun K "number_outside" "number_outside" s_number_outside f_number_outside d_number_outside
  b_number_outside : Binds K d_number_outside ["low", "number", "high"] []
  g_number_outside : mg "number_outside" = some (.ref f_number_outside)
  f_Box_least_distance : Addr
  d_Box_least_distance : FuncData
  F_Box_least_distance : Fun K "least_distance" "Box.least_distance" s_Box_least_distance f_Box_least_distance d_Box_least_distance
  b_Box_least_distance : Binds K d_Box_least_distance ["self", "q"] []
  f_Norms_least_distance : Addr
  d_Norms_least_distance : FuncData
  F_Norms_least_distance : Fun K "least_distance" "Norms.least_distance" s_Norms_least_distance f_Norms_least_distance d_Norms_least_distance
  b_Norms_least_distance : Binds K d_Norms_least_distance ["self", "q"] []
  f_Fact_least_differing : Addr
  d_Fact_least_differing : FuncData
  F_Fact_least_differing : Fun K "least_differing" "Fact.least_differing" s_Fact_least_differing f_Fact_least_differing d_Fact_least_differing
  b_Fact_least_differing : Binds K d_Fact_least_differing ["self", "q"] []
  f_Differ_least_differing : Addr
  d_Differ_least_differing : FuncData
  F_Differ_least_differing : Fun K "least_differing" "Differ.least_differing" s_Differ_least_differing f_Differ_least_differing d_Differ_least_differing
  b_Differ_least_differing : Binds K d_Differ_least_differing ["self", "q"] []
  f_Fact_most_product : Addr
  d_Fact_most_product : FuncData
  F_Fact_most_product : Fun K "most_product" "Fact.most_product" s_Fact_most_product f_Fact_most_product d_Fact_most_product
  b_Fact_most_product : Binds K d_Fact_most_product ["self", "q"] []
  f_make_up : Addr
  d_make_up : FuncData
  F_make_up : Fun K "make_up" "make_up" s_make_up f_make_up d_make_up
  b_make_up : Binds K d_make_up ["parts", "size"] []
  g_make_up : mg "make_up" = some (.ref f_make_up)
  f_most_product_of : Addr
  d_most_product_of : FuncData
  F_most_product_of : Fun K "most_product_of" "most_product_of" s_most_product_of f_most_product_of d_most_product_of
  b_most_product_of : Binds K d_most_product_of ["part", "numbers"] []
  g_most_product_of : mg "most_product_of" = some (.ref f_most_product_of)
  f_Parts_most_product : Addr
  d_Parts_most_product : FuncData
  F_Parts_most_product : Fun K "most_product" "Parts.most_product" s_Parts_most_product f_Parts_most_product d_Parts_most_product
  b_Parts_most_product : Binds K d_Parts_most_product ["self", "q"] []
  f_Box_most_product : Addr
  d_Box_most_product : FuncData
  F_Box_most_product : Fun K "most_product" "Box.most_product" s_Box_most_product f_Box_most_product d_Box_most_product
  b_Box_most_product : Binds K d_Box_most_product ["self", "q"] []
  f_Norms_most_product : Addr
  d_Norms_most_product : FuncData
  F_Norms_most_product : Fun K "most_product" "Norms.most_product" s_Norms_most_product f_Norms_most_product d_Norms_most_product
  b_Norms_most_product : Binds K d_Norms_most_product ["self", "q"] []
  f_is_near : Addr
  d_is_near : FuncData
  F_is_near : Fun K "is_near" "is_near" s_is_near f_is_near d_is_near
  b_is_near : Binds K d_is_near ["part", "vector"] []
  g_is_near : mg "is_near" = some (.ref f_is_near)
  f_Parts_holds : Addr
  d_Parts_holds : FuncData
  F_Parts_holds : Fun K "holds" "Parts.holds" s_Parts_holds f_Parts_holds d_Parts_holds
  b_Parts_holds : Binds K d_Parts_holds ["self", "record"] []
  f_Cell_holds : Addr
  d_Cell_holds : FuncData
  F_Cell_holds : Fun K "holds" "Cell.holds" s_Cell_holds f_Cell_holds d_Cell_holds
  b_Cell_holds : Binds K d_Cell_holds ["self", "record"] []
  f_Box_holds : Addr
  d_Box_holds : FuncData
  F_Box_holds : Fun K "holds" "Box.holds" s_Box_holds f_Box_holds d_Box_holds
  b_Box_holds : Binds K d_Box_holds ["self", "record"] []
  f_Norms_holds : Addr
  d_Norms_holds : FuncData
  F_Norms_holds : Fun K "holds" "Norms.holds" s_Norms_holds f_Norms_holds d_Norms_holds
  b_Norms_holds : Binds K d_Norms_holds ["self", "record"] []
  f_Differ_holds : Addr
  d_Differ_holds : FuncData
  F_Differ_holds : Fun K "holds" "Differ.holds" s_Differ_holds f_Differ_holds d_Differ_holds
  b_Differ_holds : Binds K d_Differ_holds ["self", "record"] []
  f_Record___init__ : Addr
  d_Record___init__ : FuncData
  e_Record___init___fields : Addr
  et_Record___init___fields : ∀ H, SqT K H e_Record___init___fields []
  e_Record___init___words : Addr
  et_Record___init___words : ∀ H, SqT K H e_Record___init___words []
  F_Record___init__ : FunD K "__init__" "Record.__init__" (defArgs s_Record___init__) (defBody s_Record___init__) (defScope s_Record___init__) [] [("fields", .ref e_Record___init___fields), ("words", .ref e_Record___init___words)] f_Record___init__ d_Record___init__
  kb_Record___init__ : KBn K d_Record___init__ ["self", "name", "vector", "fields", "words"] 3 ["fields", "words"] (fun us ws => us ++ ws) (fun vs zs => vs ++ zs)
  ds_Record___init__ : List Value
  v_Record___init__ : Vals [.ref e_Record___init___fields, .ref e_Record___init___words] ds_Record___init__
  b_Record___init__ : Binds K d_Record___init__ ["self", "name", "vector", "fields", "words"] ds_Record___init__
  f_law_vector : Addr
  d_law_vector : FuncData
  F_law_vector : Fun K "_law_vector" "_law_vector" s_law_vector f_law_vector d_law_vector
  b_law_vector : Binds K d_law_vector ["state", "size"] []
  g_law_vector : mg "_law_vector" = some (.ref f_law_vector)
  f_law_inner : Addr
  d_law_inner : FuncData
  F_law_inner : Fun K "_law_inner" "_law_inner" s_law_inner f_law_inner d_law_inner
  b_law_inner : Binds K d_law_inner ["a", "b"] []
  g_law_inner : mg "_law_inner" = some (.ref f_law_inner)
  f_law_made : Addr
  d_law_made : FuncData
  F_law_made : Fun K "_law_made" "_law_made" s_law_made f_law_made d_law_made
  b_law_made : Binds K d_law_made ["fact"] []
  g_law_made : mg "_law_made" = some (.ref f_law_made)
  f_law_distance : Addr
  d_law_distance : FuncData
  F_law_distance : Fun K "_law_distance" "_law_distance" s_law_distance f_law_distance d_law_distance
  b_law_distance : Binds K d_law_distance ["a", "b"] []
  g_law_distance : mg "_law_distance" = some (.ref f_law_distance)
  f_law_differing : Addr
  d_law_differing : FuncData
  F_law_differing : Fun K "_law_differing" "_law_differing" s_law_differing f_law_differing d_law_differing
  b_law_differing : Binds K d_law_differing ["a", "b"] []
  g_law_differing : mg "_law_differing" = some (.ref f_law_differing)
  f_law_true_parts : Addr
  d_law_true_parts : FuncData
  F_law_true_parts : Fun K "_law_true_parts" "_law_true_parts" s_law_true_parts f_law_true_parts d_law_true_parts
  b_law_true_parts : Binds K d_law_true_parts ["state", "vector", "others"] []
  g_law_true_parts : mg "_law_true_parts" = some (.ref f_law_true_parts)
  f_law_bits : Addr
  d_law_bits : FuncData
  F_law_bits : Fun K "_law_bits" "_law_bits" s_law_bits f_law_bits d_law_bits
  b_law_bits : Binds K d_law_bits ["vector"] []
  g_law_bits : mg "_law_bits" = some (.ref f_law_bits)
  f_law_true_fact : Addr
  d_law_true_fact : FuncData
  F_law_true_fact : Fun K "_law_true_fact" "_law_true_fact" s_law_true_fact f_law_true_fact d_law_true_fact
  b_law_true_fact : Binds K d_law_true_fact ["state", "vectors"] []
  g_law_true_fact : mg "_law_true_fact" = some (.ref f_law_true_fact)
  f_law : Addr
  d_law : FuncData
  F_law : Fun K "law" "law" s_law f_law d_law
  b_law : Binds K d_law ["script"] []
  g_law : mg "law" = some (.ref f_law)
  c_Part : Addr
  cl_Part : Cls K c_Part
  mc_Part : mg "Part" = some (.ref c_Part)
  n_Part_start : NoAttr K c_Part "start"
  n_Part_centre : NoAttr K c_Part "centre"
  n_Part_radius : NoAttr K c_Part "radius"
  mk_Part : Mk K c_Part f_Part___init__
  pa_Part_after : Addr
  pr_Part_after : PropOf K c_Part "after" pa_Part_after f_Part_after
  c_Parts : Addr
  cl_Parts : Cls K c_Parts
  mc_Parts : mg "Parts" = some (.ref c_Parts)
  n_Parts_parts : NoAttr K c_Parts "parts"
  mk_Parts : Mk K c_Parts f_Parts___init__
  me_Parts_holds : Meth K c_Parts "holds" f_Parts_holds
  me_Parts_least_distance : Meth K c_Parts "least_distance" f_Parts_least_distance
  me_Parts_least_differing : Meth K c_Parts "least_differing" f_Fact_least_differing
  me_Parts_most_product : Meth K c_Parts "most_product" f_Parts_most_product
  c_Cell : Addr
  cl_Cell : Cls K c_Cell
  mc_Cell : mg "Cell" = some (.ref c_Cell)
  n_Cell_near : NoAttr K c_Cell "near"
  n_Cell_rival : NoAttr K c_Cell "rival"
  mk_Cell : Mk K c_Cell f_Cell___init__
  me_Cell_holds : Meth K c_Cell "holds" f_Cell_holds
  me_Cell_least_distance : Meth K c_Cell "least_distance" f_Cell_least_distance
  me_Cell_least_differing : Meth K c_Cell "least_differing" f_Fact_least_differing
  me_Cell_most_product : Meth K c_Cell "most_product" f_Fact_most_product
  c_Box : Addr
  cl_Box : Cls K c_Box
  mc_Box : mg "Box" = some (.ref c_Box)
  n_Box_low : NoAttr K c_Box "low"
  n_Box_high : NoAttr K c_Box "high"
  mk_Box : Mk K c_Box f_Box___init__
  me_Box_holds : Meth K c_Box "holds" f_Box_holds
  me_Box_least_distance : Meth K c_Box "least_distance" f_Box_least_distance
  me_Box_least_differing : Meth K c_Box "least_differing" f_Fact_least_differing
  me_Box_most_product : Meth K c_Box "most_product" f_Box_most_product
  c_Norms : Addr
  cl_Norms : Cls K c_Norms
  mc_Norms : mg "Norms" = some (.ref c_Norms)
  n_Norms_low : NoAttr K c_Norms "low"
  n_Norms_high : NoAttr K c_Norms "high"
  mk_Norms : Mk K c_Norms f_Norms___init__
  me_Norms_holds : Meth K c_Norms "holds" f_Norms_holds
  me_Norms_least_distance : Meth K c_Norms "least_distance" f_Norms_least_distance
  me_Norms_least_differing : Meth K c_Norms "least_differing" f_Fact_least_differing
  me_Norms_most_product : Meth K c_Norms "most_product" f_Norms_most_product
  c_Differ : Addr
  cl_Differ : Cls K c_Differ
  mc_Differ : mg "Differ" = some (.ref c_Differ)
  n_Differ_centre : NoAttr K c_Differ "centre"
  n_Differ_most : NoAttr K c_Differ "most"
  mk_Differ : Mk K c_Differ f_Differ___init__
  me_Differ_holds : Meth K c_Differ "holds" f_Differ_holds
  me_Differ_least_distance : Meth K c_Differ "least_distance" f_Fact_least_distance
  me_Differ_least_differing : Meth K c_Differ "least_differing" f_Differ_least_differing
  me_Differ_most_product : Meth K c_Differ "most_product" f_Fact_most_product
  c_Record : Addr
  cl_Record : Cls K c_Record
  mc_Record : mg "Record" = some (.ref c_Record)
  n_Record_name : NoAttr K c_Record "name"
  n_Record_vector : NoAttr K c_Record "vector"
  n_Record_fields : NoAttr K c_Record "fields"
  n_Record_words : NoAttr K c_Record "words"
  mk_Record : Mk K c_Record f_Record___init__
  m_all : mg "all" = none
  m_int : mg "int" = none
  m_isqrt : mg "isqrt" = some (.builtin "math.isqrt")
  m_len : mg "len" = none
  m_list : mg "list" = none
  m_max : mg "max" = none
  m_min : mg "min" = none
  m_range : mg "range" = none
  m_sum : mg "sum" = none
  m_tuple : mg "tuple" = none
  m_zip : mg "zip" = none
section
variable {P : Program} {w : World} {K : PySem.W.Frag} {mg : Str → Option Value} {base : Heap}

/-- all but instances is as it was -/
def Keep (H H' : Hp) : Prop := ∀ b o, H b = some o → (∀ C dx fs, o ≠ .ins C dx fs) → H' b = some o
theorem Keep.trans {H H1 H2 : Hp} (f : Keep H H1) (g : Keep H1 H2) : Keep H H2 := fun b o e n => g b o (f b o e n) n
theorem Keep.same {H H' : Hp} (f : Same H H') : Keep H H' := fun b o e _ => f b o e
theorem Keep.ins {H : Hp} {p C dx : Addr} {fs : List (Str × V)} {o : HO} (h : H p = some (.ins C dx fs)) : Keep H (upd H p o) := fun b u e n => by
  rw [upd_ne]
  · exact e
  · intro z
    rw [z, h] at e
    cases e
    exact n _ _ _ rfl
theorem Keep.seq {K : PySem.W.Frag} {H H' : Hp} {q : Addr} {xs : List V} (f : Keep H H') (h : SqL K H q xs) : SqL K H' q xs := by
  rcases h with (h | ⟨o, h⟩) | h
  · exact .inl (.inl (f _ _ h fun _ _ _ z => by cases z))
  · exact .inl (.inr ⟨o, f _ _ h fun _ _ _ z => by cases z⟩)
  · exact .inr h
theorem Keep.seqT {K : PySem.W.Frag} {H H' : Hp} {q : Addr} {xs : List V} (f : Keep H H') (h : SqT K H q xs) : SqT K H' q xs := by
  rcases h with (h | ⟨o, h⟩) | h
  · exact .inl (.inl (f _ _ h fun _ _ _ z => by cases z))
  · exact .inl (.inr ⟨o, f _ _ h fun _ _ _ z => by cases z⟩)
  · exact .inr h
theorem _root_.L2.Same.seqT {K : PySem.W.Frag} {H H' : Hp} {q : Addr} {xs : List V} (f : Same H H') (h : SqT K H q xs) : SqT K H' q xs := (Keep.same f).seqT h
mutual
theorem Dt.keep {N : List Addr} {H H' : Hp} (f : Keep H H') : ∀ {v : V} {d : PyData}, Dt N H v d → Dt N H' v d
  | _, _, .non => .non
  | _, _, .bl b => .bl b
  | _, _, .int i => .int i
  | _, _, .str x => .str x
  | _, _, .lst n h t => .lst n (f _ _ h fun _ _ _ z => by cases z) (Dts.keep f t)
  | _, _, .tup n h t => .tup n (f _ _ h fun _ _ _ z => by cases z) (Dts.keep f t)
theorem Dts.keep {N : List Addr} {H H' : Hp} (f : Keep H H') : ∀ {vs : List V} {ds : List PyData}, Dts N H vs ds → Dts N H' vs ds
  | _, _, .nil => .nil
  | _, _, .cons x t => .cons (Dt.keep f x) (Dts.keep f t)
end
theorem Dts.refT {α : Type} {N : List Addr} {H : Hp} {f : α → PyData} (hf : ∀ a, ∃ es, f a = .tuple es) {l : List α} {vs : List V} {i : Nat} {v : V} (t : Dts N H vs (l.map f)) (h : vs[i]? = some v) : ∃ p ws, v = .ref p ∧ H p = some (.tup ws) := by
  obtain ⟨d, e, x⟩ := t.get h
  rw [List.getElem?_map] at e
  cases el : l[i]? with
  | none =>
    rw [el] at e
    cases e
  | some a =>
    rw [el] at e
    have e2 := Option.some.inj e
    obtain ⟨es, g⟩ := hf a
    rw [← e2, g] at x
    obtain ⟨p, ws, e3, _, e4, _⟩ := x.isT
    exact ⟨p, ws, e3, e4⟩

def codesZ (z : Str) : List Int := z.cps.toList.map fun (n : Nat) => (n : Int)
def strPart (z : Str) : List Int := (z.length : Int) :: codesZ z
theorem codesZ_len (z : Str) : (codesZ z).length = z.length := by simp [codesZ, Str.length]
theorem strPart_len (z : Str) : (strPart z).length = z.length + 1 := by simp [strPart, codesZ_len]
def valPart : PyData → List Int
  | .int i => [0, i]
  | .str z => 1 :: strPart z
  | .bool b => [2, if b then 1 else 0]
  | _ => []
theorem valPart_len {d : PyData} (h : IsVal d) : (valPart d).length ≤ 10 := by
  rcases h with ⟨i, rfl⟩ | ⟨z, rfl, _, l⟩ | ⟨b, rfl⟩
  · show 2 ≤ 10
    decide
  · show (strPart z).length + 1 ≤ 10
    rw [strPart_len]
    omega
  · show 2 ≤ 10
    decide
def prRow (p : Str × PyData) : List Int := strPart p.1 ++ valPart p.2
def wdRow (w : Str × Int) : List Int := strPart w.1 ++ [w.2]
theorem prRow_len {p : Str × PyData} (h : IsVal p.2) (g : p.1.length ≤ 8) : (prRow p).length ≤ 19 := by
  unfold prRow
  rw [List.length_append, strPart_len]
  have := valPart_len h
  omega
theorem wdRow_len {w : Str × Int} (g : w.1.length ≤ 8) : (wdRow w).length ≤ 10 := by
  unfold wdRow
  rw [List.length_append, strPart_len]
  simp
  omega
theorem flat_len {α : Type} {f : α → List Int} {c : Nat} : ∀ {l : List α}, (∀ x ∈ l, (f x).length ≤ c) → (l.flatMap f).length ≤ l.length * c
  | [], _ => by simp
  | x :: r, h => by
    have h1 := h x (List.mem_cons_self ..)
    have h2 := flat_len (l := r) fun y hy => h y (List.mem_cons_of_mem _ hy)
    rw [List.flatMap_cons, List.length_append, List.length_cons, Nat.succ_mul]
    omega
theorem flat_take {α : Type} {f : α → List Int} {l : List α} {i : Nat} {x : α} (h : l[i]? = some x) : (l.take (i + 1)).flatMap f = (l.take i).flatMap f ++ f x := by
  rw [List.take_add_one, h, List.flatMap_append]
  simp
def row0 (n : Int) (z : Str) (vec : List Int) (k : Nat) : List Int := [n] ++ strPart z ++ [(vec.length : Int)] ++ vec ++ [(k : Int)]
def row1 (n : Int) (z : Str) (vec : List Int) (ps : List (Str × PyData)) : List Int := row0 n z vec ps.length ++ ps.flatMap prRow
def rowZ (n : Int) (z : Str) (vec : List Int) (ps : List (Str × PyData)) (ws : List (Str × Int)) : List Int := row1 n z vec ps ++ [(ws.length : Int)] ++ ws.flatMap wdRow
/-- a record stands at r -/
def RecAt (N : List Addr) (C : Addr) (H : Hp) (r : Addr) (z : Str) (vec : List Int) (ps : List (Str × PyData)) (ws : List (Str × Int)) : Prop := r ∉ N ∧ ∃ dx tv tf tw, H r = some (.ins C dx (ff_Record (.str z) (.ref tv) (.ref tf) (.ref tw))) ∧
  tv ∉ N ∧ H tv = some (.tup (vec.map V.int)) ∧ Dt N H (.ref tf) (.tuple (ps.map prD)) ∧ Dt N H (.ref tw) (.tuple (ws.map wdD))
theorem RecAt.mono {N M : List Addr} {C : Addr} {H H' : Hp} {r : Addr} {z : Str} {vec : List Int} {ps : List (Str × PyData)} {ws : List (Str × Int)} (R : RecAt N C H r z vec ps ws) (f : ∀ a o, a ∉ N → H a = some o → a ∉ M ∧ H' a = some o) : RecAt M C H' r z vec ps ws := by
  obtain ⟨n, dx, tv, tf, tw, h1, n2, h2, h3, h4⟩ := R
  exact ⟨(f _ _ n h1).1, dx, tv, tf, tw, (f _ _ n h1).2, (f _ _ n2 h2).1, (f _ _ n2 h2).2, h3.mono f, h4.mono f⟩
theorem RecAt.same {N : List Addr} {C : Addr} {H H' : Hp} {r : Addr} {z : Str} {vec : List Int} {ps : List (Str × PyData)} {ws : List (Str × Int)} (R : RecAt N C H r z vec ps ws) (f : Same H H') : RecAt N C H' r z vec ps ws := R.mono fun a o n e => ⟨n, f a o e⟩
theorem RecAt.fr {N : List Addr} {C : Addr} {H H' : Hp} {st r : Addr} {z : Str} {vec : List Int} {ps : List (Str × PyData)} {ws : List (Str × Int)} (R : RecAt N C H r z vec ps ws) (f : Fr st H H') (m : st ∈ N) : RecAt N C H' r z vec ps ws := R.mono fun a o n e => ⟨n, f a o e fun z => by rw [z] at n; exact n m⟩
theorem RecAt.nil {N : List Addr} {C : Addr} {H : Hp} {r : Addr} {z : Str} {vec : List Int} {ps : List (Str × PyData)} {ws : List (Str × Int)} (R : RecAt N C H r z vec ps ws) : RecAt [] C H r z vec ps ws := R.mono fun a o n e => ⟨(fun z => by cases z), e⟩
theorem RecAt.away {N : List Addr} {C : Addr} {H : Hp} {k r : Addr} {z : Str} {vec : List Int} {ps : List (Str × PyData)} {ws : List (Str × Int)} (R : RecAt N C H r z vec ps ws) (h : H k = none) : RecAt (k :: N) C H r z vec ps ws := R.mono fun a o n e => ⟨fun z => by
  rcases List.mem_cons.mp z with y | y
  · rw [y, h] at e; cases e
  · exact n y, e⟩
theorem RecAt.upd {N : List Addr} {C : Addr} {H : Hp} {k r : Addr} {o : HO} {z : Str} {vec : List Int} {ps : List (Str × PyData)} {ws : List (Str × Int)} (R : RecAt N C H r z vec ps ws) (m : k ∈ N) : RecAt N C (L2.upd H k o) r z vec ps ws := R.mono fun a u n e => ⟨n, by rw [upd_ne fun z => by rw [z] at n; exact n m]; exact e⟩
theorem IsVal.any {d : PyData} (g : IsVal d) {N M : List Addr} {H : Hp} {v : V} (h : Dt N H v d) : Dt M H v d := by
  rcases g with ⟨i, rfl⟩ | ⟨z, rfl, _⟩ | ⟨b, rfl⟩
  · rw [h.isI]; exact .int i
  · rw [h.isS]; exact .str z
  · cases h; exact .bl b
theorem offL {α : Type} {st : Addr} {H : Hp} {xs : List V} {f : α → Str × PyData} (hs : H st = some (.lst xs)) : ∀ {l : List α} {vs : List V}, (∀ a ∈ l, IsVal (f a).2) → Dts [] H vs (l.map fun a => .tuple [.str (f a).1, (f a).2]) → Dts [st] H vs (l.map fun a => .tuple [.str (f a).1, (f a).2])
  | [], _, _, .nil => .nil
  | a :: r, _, g, .cons x t => by
    obtain ⟨p, w, rfl, _, e, y⟩ := x.isP
    refine .cons (.tup (not_in1 fun z => ?_) e (.cons (.str _) (.cons ((g a (List.mem_cons_self ..)).any y) .nil))) (offL hs (fun b hb => g b (List.mem_cons_of_mem _ hb)) t)
    rw [z, hs] at e
    cases e
theorem RecAt.off {st : Addr} {C : Addr} {H : Hp} {xs : List V} {r : Addr} {z : Str} {vec : List Int} {ps : List (Str × PyData)} {ws : List (Str × Int)} (R : RecAt [] C H r z vec ps ws) (hs : H st = some (.lst xs)) (g : ∀ p ∈ ps, IsVal p.2) : RecAt [st] C H r z vec ps ws := by
  obtain ⟨n, dx, tv, tf, tw, h1, n2, h2, h3, h4⟩ := R
  obtain ⟨p3, v3, e3, _, g3, t3⟩ := h3.isT
  obtain ⟨p4, v4, e4, _, g4, t4⟩ := h4.isT
  cases e3
  cases e4
  refine ⟨not_in1 fun z => ?_, dx, tv, tf, tw, h1, not_in1 fun z => ?_, h2, .tup (not_in1 fun z => ?_) g3 (offL (f := id) hs g t3), .tup (not_in1 fun z => ?_) g4 (offL (f := fun w : Str × Int => (w.1, .int w.2)) hs (fun a _ => .inl ⟨_, rfl⟩) t4)⟩
  · rw [z, hs] at h1; cases h1
  · rw [z, hs] at h2; cases h2
  · rw [z, hs] at g3; cases g3
  · rw [z, hs] at g4; cases g4
/-- flat values -/
theorem val_cases {N : List Addr} {H : Hp} {v : V} {d : PyData} (h : Dt N H v d) (g : IsVal d) : (∃ i, v = .int i ∧ d = .int i) ∨ (∃ z, v = .str z ∧ d = .str z ∧ z.length ≤ 8 ∧ PyData.strOk z = true) ∨ ∃ b, v = .bl b ∧ d = .bool b := by
  rcases g with ⟨i, rfl⟩ | ⟨z, rfl, k, l⟩ | ⟨b, rfl⟩
  · exact .inl ⟨i, h.isI, rfl⟩
  · exact .inr (.inl ⟨z, h.isS, rfl, l, k⟩)
  · cases h
    exact .inr (.inr ⟨b, rfl, rfl⟩)

/-- a part stands at a -/
def PtAt (C : Addr) (H : Hp) (a : Addr) (p : Pt) : Prop := ∃ dx tc, H a = some (.ins C dx (ff_Part (.int p.1) (.ref tc) (.int p.2.2))) ∧ H tc = some (.tup (p.2.1.map V.int))
def PtsAt (C : Addr) (H : Hp) (as : List Addr) (ps : List Pt) : Prop := as.length = ps.length ∧ ∀ (i : Nat) (a : Addr) (p : Pt), as[i]? = some a → ps[i]? = some p → PtAt C H a p
theorem PtAt.same {C : Addr} {H H' : Hp} {a : Addr} {p : Pt} (h : PtAt C H a p) (f : Same H H') : PtAt C H' a p := by
  obtain ⟨dx, tc, h1, h2⟩ := h
  exact ⟨dx, tc, f _ _ h1, f _ _ h2⟩
theorem PtsAt.same {C : Addr} {H H' : Hp} {as : List Addr} {ps : List Pt} (h : PtsAt C H as ps) (f : Same H H') : PtsAt C H' as ps := ⟨h.1, fun i a p e1 e2 => (h.2 i a p e1 e2).same f⟩
theorem snoc_get {α : Type} {l : List α} {x y : α} {j : Nat} (h : (l ++ [x])[j]? = some y) : l[j]? = some y ∨ (j = l.length ∧ y = x) := by
  rcases Nat.lt_or_ge j l.length with g | g
  · rw [List.getElem?_append_left g] at h
    exact .inl h
  · rw [List.getElem?_append_right g] at h
    have e0 : j - l.length = 0 := by
      rcases Nat.eq_zero_or_pos (j - l.length) with k | k
      · exact k
      · rw [List.getElem?_eq_none (by simp; omega)] at h
        cases h
    rw [e0] at h
    exact .inr ⟨by omega, (Option.some.inj h).symm⟩
theorem PtsAt.snoc {C : Addr} {H : Hp} {as : List Addr} {ps : List Pt} {a : Addr} {p : Pt} (h : PtsAt C H as ps) (g : PtAt C H a p) : PtsAt C H (as ++ [a]) (ps ++ [p]) := by
  refine ⟨by simp [h.1], fun i b q e1 e2 => ?_⟩
  rcases snoc_get e1 with e1 | ⟨e1, rfl⟩
  · rcases snoc_get e2 with e2 | ⟨e2, rfl⟩
    · exact h.2 i b q e1 e2
    · have := (List.getElem?_eq_some_iff.mp e1).1
      have := h.1
      omega
  · rcases snoc_get e2 with e2 | ⟨e2, rfl⟩
    · have := (List.getElem?_eq_some_iff.mp e2).1
      have := h.1
      omega
    · exact g
/-- the fact stands at r -/
def FAt (T : Txt K mg) (H : Hp) (r : Addr) : VF → Prop
  | .parts ps => ∃ dx t as, H r = some (.ins T.c_Parts dx (ff_Parts (.ref t))) ∧ H t = some (.tup (as.map V.ref)) ∧ PtsAt T.c_Part H as ps
  | .cell a b => ∃ dx t u, H r = some (.ins T.c_Cell dx (ff_Cell (.ref t) (.ref u))) ∧ H t = some (.tup (a.map V.int)) ∧ H u = some (.tup (b.map V.int))
  | .box a b => ∃ dx t u, H r = some (.ins T.c_Box dx (ff_Box (.ref t) (.ref u))) ∧ H t = some (.tup (a.map V.int)) ∧ H u = some (.tup (b.map V.int))
  | .norms a b => ∃ dx, H r = some (.ins T.c_Norms dx (ff_Norms (.int a) (.int b)))
  | .differ c m => ∃ dx t, H r = some (.ins T.c_Differ dx (ff_Differ (.ref t) (.int m))) ∧ H t = some (.tup (c.map V.int))

theorem FAt.same {T : Txt K mg} {H H' : Hp} {r : Addr} {f : VF} (h : FAt T H r f) (s : Same H H') : FAt T H' r f := by
  cases f with
  | parts ps => obtain ⟨dx, t, as, h1, h2, h3⟩ := h; exact ⟨dx, t, as, s _ _ h1, s _ _ h2, h3.same s⟩
  | cell a b => obtain ⟨dx, t, u, h1, h2, h3⟩ := h; exact ⟨dx, t, u, s _ _ h1, s _ _ h2, s _ _ h3⟩
  | box a b => obtain ⟨dx, t, u, h1, h2, h3⟩ := h; exact ⟨dx, t, u, s _ _ h1, s _ _ h2, s _ _ h3⟩
  | norms a b => obtain ⟨dx, h1⟩ := h; exact ⟨dx, s _ _ h1⟩
  | differ c m => obtain ⟨dx, t, h1, h2⟩ := h; exact ⟨dx, t, s _ _ h1, s _ _ h2⟩
theorem same_mk {H : Hp} {x dx C : Addr} (nx : H x = none) (ndx : H dx = none) : Same H (upd (upd H dx (.own x)) x (.ins C dx [])) := fun b o hb => by
  rw [upd_ne (ne_of_none hb nx), upd_ne (ne_of_none hb ndx)]
  exact hb
theorem _root_.L2.Same.trans' {H H1 H2 : Hp} {x : Addr} (s : Same H H1) (fr : ∀ b o, H1 b = some o → b ≠ x → H2 b = some o) (nx : H x = none) : Same H H2 := fun b o hb => fr b o (s b o hb) (ne_of_none hb nx)
theorem PtsAt.at {C : Addr} {H : Hp} {D : Addr} {xs ys : List V} {as : List Addr} {ps : List Pt} (h : PtsAt C H as ps) (hD : H D = some (.lst xs)) : PtsAt C (upd H D (.lst ys)) as ps := ⟨h.1, fun i a p e1 e2 => by
  obtain ⟨dx, tc, h1, h2⟩ := h.2 i a p e1 e2
  exact ⟨dx, tc, by rw [upd_ne (fun z => by rw [z, hD] at h1; cases h1)]; exact h1, by rw [upd_ne (fun z => by rw [z, hD] at h2; cases h2)]; exact h2⟩⟩

def RecV (T : Txt K mg) (H : Hp) (r : Addr) (xs : List Int) : Prop := ∃ dx z tv tf tw, H r = some (.ins T.c_Record dx (ff_Record z (.ref tv) tf tw)) ∧ H tv = some (.tup (xs.map V.int))

def sp_law_row (T : Txt K mg) : Sp := fun vs H Q _ => ∃ (sc : Addr) (ns : List Int) (k : Int), vs = [.ref sc, .int k] ∧ (H sc = some (.lst (ns.map V.int))) ∧ (0 ≤ k) ∧ ∀ c : Int, 0 ≤ c → Q (.int c) H
set_option maxHeartbeats 4000000 in
theorem ok_law_row (T : Txt K mg) : FnOk P w K mg base CX0 1 T.f_law_row T.d_law_row ["script", "k"] (sp_law_row T) := by
  refine T.F_law_row.ok sc_law_row (fun vs H Q E h => ?_) (fun cdv A outer s H vs Q E hr h => ?_)
  · obtain ⟨sc, ns, k, rfl, _⟩ := h
    rfl
  · obtain ⟨sc, ns, k, rfl, hS, hk, q⟩ := h
    refine ⟨_, (pss_cons (ps_set (i := 2) sc_law_row.nd rfl (.inl rfl) pe_int) 
      (pss_cut (ps_if (pt_cmpR op_lt (pv 1) (pe_callB call_len_seq (by rfl) T.m_len PySem.boot_len (pa_cons (pv 0) pa_nil)) (nomark _)) (pss_one (ps_set (i := 2) sc_law_row.nd rfl (.inl rfl) (pe_ix ix_list (pv 0) (pv 1) (fun _ _ => rfl)))) pss_nil) 
      (pss_cut (ps_if (pt_cmpR op_lt (pv 2) pe_int (nomark _)) (pss_one (ps_set (i := 2) sc_law_row.nd rfl (.inl rfl) (pe_op op_sub (pe_op op_mul (pe_un un_neg pe_int) (pv 2)) pe_int))) pss_nil) 
      (pss_cut (ps_if (pt_cmpR op_lt (pv 2) (pe_op op_pow pe_int pe_int) (nomark _)) (pss_cons (ps_set (i := 3) sc_law_row.nd rfl (.inl rfl) (pe_op op_mod (pe_callTy call_int1 (by rfl) T.m_int (by decide +kernel) (pa_cons (pe_op op_add (pe_op op_add (pe_op op_mul (pv 2) pe_int) (pe_op op_mul (pv 1) pe_int)) pe_int) pa_nil)) pe_int)) 
      (pss_cons (ps_set (i := 4) sc_law_row.nd rfl (.inl rfl) (pe_op op_mod (pe_callTy call_int1 (by rfl) T.m_int (by decide +kernel) (pa_cons (pe_op op_add (pe_op op_add (pe_op op_add (pe_op op_mul (pv 3) pe_int) (pe_op op_mul (pv 2) pe_int)) (pv 1)) pe_int) pa_nil)) pe_int)) 
      (pss_cons (ps_set (i := 5) sc_law_row.nd rfl (.inl rfl) (pe_op op_mod (pe_callTy call_int1 (by rfl) T.m_int (by decide +kernel) (pa_cons (pe_op op_add (pe_op op_add (pe_op op_mul (pv 4) pe_int) (pe_op op_mul (pv 3) (pv 4))) pe_int) pa_nil)) pe_int)) 
      (pss_one (ps_set (i := 2) sc_law_row.nd rfl (.inl rfl) (pe_op op_add (pe_op op_add (pv 3) (pe_op op_mul (pv 4) pe_int)) (pe_op op_mul (pv 5) (pe_op op_pow pe_int pe_int)))))))) pss_nil) 
      (pss_one (ps_ret (pv 2))))))), ?_⟩
    -- if k < len(script): cell = script[k]
    refine ⟨fun σ' H' => H' = H ∧ ∃ c : Int, σ' = [some (.ref sc), some (.int k), some (.int c), none, none, none], ?_, ?_⟩
    · refine ⟨_, rfl, _, rfl, sc, _, rfl, .inl (SqL.of hS), _, _, rfl, rfl, _, rfl, ite2 (fun e => ?_) (fun e => ?_)⟩
      · have hl : k < ((ns.map V.int).length : Int) := of_decide_eq_true e
        rw [List.length_map] at hl
        obtain ⟨c, hc⟩ := item_map hk hl
        exact ⟨_, rfl, _, rfl, sc, _, k, _, rfl, rfl, SqL.of hS, hc, rfl, c, rfl⟩
      · exact ⟨rfl, 0, rfl⟩
    rintro σ' H' ⟨rfl, c, rfl⟩
    -- if cell < 0: cell = -2 * cell - 1
    refine ⟨fun σ' H2 => H2 = H' ∧ ∃ c : Int, 0 ≤ c ∧ σ' = [some (.ref sc), some (.int k), some (.int c), none, none, none], ?_, ?_⟩
    · refine ⟨_, rfl, _, _, rfl, rfl, _, rfl, ite2 (fun e => ?_) (fun e => ?_)⟩
      · have hc : c < 0 := of_decide_eq_true e
        refine ⟨2, rfl, _, rfl, _, _, rfl, rfl, .inl ⟨by decide, by decide⟩, _, _, rfl, rfl, rfl, _, ?_, rfl⟩
        omega
      · have hc : ¬ c < 0 := fun h => e (decide_eq_true h)
        exact ⟨rfl, c, by omega, rfl⟩
    rintro σ' H2 ⟨rfl, c, hc, rfl⟩
    -- if cell < 10 ** 9: ..
    refine ⟨fun σ' H' => H' = H2 ∧ ∃ (c : Int) (x y z : Option V), 0 ≤ c ∧ σ' = [some (.ref sc), some (.int k), some (.int c), x, y, z], ?_, ?_⟩
    · refine ⟨_, rfl, _, _, rfl, rfl, ⟨by decide, by decide, by decide⟩, _, _, rfl, rfl, _, rfl, ite2 (fun e => ?_) (fun e => ?_)⟩
      · have h9 : c < 10 ^ 9 := of_decide_eq_true e
        refine ⟨_, rfl, _, _, rfl, rfl, .inr ⟨by decide, by decide⟩, _, rfl, _, _, rfl, rfl, .inr ⟨by decide, by decide⟩, _, _, rfl, rfl, _, _, rfl, rfl, .inl ⟨_, rfl, ?_⟩⟩
        refine ⟨_, _, rfl, rfl, (by decide : (0 : Int) < 2147483647), ?_⟩
        dsimp only
        generalize ha : (c * 48271 + k * 69621 + 11) % 2147483647 = a
        have a0 : 0 ≤ a := by rw [← ha]; exact Int.emod_nonneg _ (by decide)
        have a1 : a < 2147483647 := by rw [← ha]; exact Int.emod_lt_of_pos _ (by decide)
        refine ⟨_, rfl, _, _, rfl, rfl, .inr ⟨by decide, by decide⟩, _, rfl, _, _, rfl, rfl, .inr ⟨by decide, by decide⟩, _, _, rfl, rfl, _, rfl, _, _, rfl, rfl, _, _, rfl, rfl, .inl ⟨_, rfl, ?_⟩⟩
        refine ⟨_, _, rfl, rfl, (by decide : (0 : Int) < 2147483629), ?_⟩
        dsimp only
        generalize hb : (a * 16807 + c * 7 + k + 5) % 2147483629 = b
        have b0 : 0 ≤ b := by rw [← hb]; exact Int.emod_nonneg _ (by decide)
        have b1 : b < 2147483629 := by rw [← hb]; exact Int.emod_lt_of_pos _ (by decide)
        refine ⟨_, rfl, _, _, rfl, rfl, .inr ⟨by decide, by decide⟩, _, rfl, _, rfl, _, _, rfl, rfl, .inl ⟨by omega, by omega⟩, _, _, rfl, rfl, _, _, rfl, rfl, .inl ⟨_, rfl, ?_⟩⟩
        refine ⟨_, _, rfl, rfl, (by decide : (0 : Int) < 2147483587), ?_⟩
        dsimp only
        generalize hd : (b * 39373 + a * b + 3) % 2147483587 = d
        have d0 : 0 ≤ d := by rw [← hd]; exact Int.emod_nonneg _ (by decide)
        refine ⟨_, rfl, _, rfl, _, _, rfl, rfl, .inr ⟨by decide, by decide⟩, _, _, rfl, rfl, _, rfl, _, _, rfl, rfl, ⟨by decide, by decide, by decide⟩, _, _, rfl, rfl, .inr ⟨by decide, by decide⟩, _, _, rfl, rfl, rfl, _, _, _, _, ?_, rfl⟩
        have e2 : (2147483647 : Int) ^ (2 : Int).toNat = 4611686014132420609 := by decide
        rw [e2]
        omega
      · exact ⟨rfl, c, _, _, _, hc, rfl⟩
    rintro σ' H' ⟨rfl, c, x, y, z, hc, rfl⟩
    exact ⟨_, rfl, q c hc⟩
def sp_law_next (T : Txt K mg) : Sp := fun vs H Q _ => ∃ (st sc : Addr) (m : Int), vs = [.ref st, .int m] ∧ (StAt H st sc) ∧ (0 < m) ∧ (m.natAbs < 2 ^ 200) ∧ ∀ (d : Int) (H' : Hp), 0 ≤ d → d < m → StAt H' st sc → Oth st H H' → Q (.int d) H'
set_option maxHeartbeats 4000000 in
theorem ok_law_next (T : Txt K mg) : FnOk P w K mg base CX0 2 T.f_law_next T.d_law_next ["state", "many"] (sp_law_next T) := by
  have G_law_row : FnOk P w K mg base CX0 1 T.f_law_row T.d_law_row ["script", "k"] (sp_law_row T) := ok_law_row T
  refine T.F_law_next.ok sc_law_next (fun vs H Q E h => ?_) (fun cdv A outer s H vs Q E hr h => ?_)
  · obtain ⟨st, sc, m, rfl, _⟩ := h
    rfl
  · obtain ⟨st, sc, m, rfl, hS, m0, m1, q⟩ := h
    refine ⟨_, (pss_cut (ps_if (pt_cmpR op_lt (pe_ix ix_list (pv 0) pe_int (fun _ _ => rfl)) (pv 1) (nomark _)) (pss_cons (ps_asg (pe_call G_law_row (hr.mono (by decide)) (by rfl) T.g_law_row T.F_law_row.kp T.b_law_row .nil pass0 (pa_cons (pe_ix ix_list (pv 0) pe_int (fun _ _ => rfl)) (pa_cons (pe_ix ix_list (pv 0) pe_int (fun _ _ => rfl)) pa_nil))) (pg_sub (pv 0) pe_int set_list)) 
      (pss_one (ps_asg (pe_op op_add (pe_ix ix_list (pv 0) pe_int (fun _ _ => rfl)) pe_int) (pg_sub (pv 0) pe_int set_list)))) pss_nil) 
      (pss_cons (ps_set (i := 2) sc_law_next.nd rfl (.inl rfl) (pe_op op_mod (pe_callTy call_int1 (by rfl) T.m_int (by decide +kernel) (pa_cons (pe_ix ix_list (pv 0) pe_int (fun _ _ => rfl)) pa_nil)) (pv 1))) 
      (pss_cons (ps_asg (pe_op op_fdivW (pe_ix ix_list (pv 0) pe_int (fun _ _ => rfl)) (pv 1)) (pg_sub (pv 0) pe_int set_list)) 
      (pss_one (ps_ret (pv 2)))))), ?_⟩
    -- if state[2] < many: ..
    refine ⟨fun σ' H' => Oth st H H' ∧ StAt H' st sc ∧ σ' = [some (.ref st), some (.int m), none], ?_, ?_⟩
    · obtain ⟨ns, k, x, h1, h2, k0, x0, hn⟩ := id hS
      have hne : sc ≠ st := fun e => by
        rw [e, h1] at h2
        have z := HO.lst.inj (Option.some.inj h2)
        cases ns with
        | nil => cases z
        | cons y r =>
          have z2 := (List.cons.inj z).1
          cases z2
      refine ⟨_, rfl, st, _, _, _, rfl, rfl, SqL.of h1, at_of (j := 2) rfl rfl, _, rfl, _, _, rfl, rfl, _, rfl, ite2 (fun e => ?_) (fun e => ?_)⟩
      · refine ⟨_, rfl, st, _, _, _, rfl, rfl, SqL.of h1, at_of (j := 0) rfl rfl, _, rfl, st, _, _, _, rfl, rfl, SqL.of h1, at_of (j := 1) rfl rfl, sc, ns, k, rfl, h2, k0, fun c c0 => ?_⟩
        refine ⟨_, rfl, st, _, _, 2, rfl, rfl, h1, rfl, ?_⟩
        refine ⟨_, rfl, st, _, _, _, rfl, rfl, SqL.of upd_same, at_of (j := 1) rfl rfl, _, _, rfl, rfl, _, rfl, st, _, _, 1, rfl, rfl, upd_same, rfl, ?_⟩
        refine ⟨fun b hb => ?_, ⟨ns, k + 1, c, upd_same, ?_, by omega, c0, hn⟩, rfl⟩
        · rw [upd_ne hb, upd_ne hb]
        · rw [upd_ne hne, upd_ne hne]
          exact h2
      · exact ⟨Oth.refl _ _, hS, rfl⟩
    rintro σ' H' ⟨hO, ⟨ns, k, x, h1, h2, k0, x0, hn⟩, rfl⟩
    have hne : sc ≠ st := fun e => by
      rw [e, h1] at h2
      have z := HO.lst.inj (Option.some.inj h2)
      cases ns with
      | nil => cases z
      | cons y r =>
        have z2 := (List.cons.inj z).1
        cases z2
    -- drawn = int(state[2]) % many
    refine ⟨_, rfl, st, _, _, _, rfl, rfl, SqL.of h1, at_of (j := 2) rfl rfl, .inl ⟨_, rfl, ?_⟩⟩
    refine ⟨_, rfl, _, _, rfl, rfl, m0, ?_⟩
    -- state[2] = state[2] // many
    refine ⟨_, rfl, st, _, _, _, rfl, rfl, SqL.of h1, at_of (j := 2) rfl rfl, _, rfl, _, _, rfl, rfl, wide_div m0 m1 (by decide) (by decide), ?_⟩
    refine ⟨_, rfl, st, _, _, 2, rfl, rfl, h1, rfl, ?_⟩
    refine ⟨_, rfl, q _ _ (Int.emod_nonneg _ (by omega)) (Int.emod_lt_of_pos _ m0) ⟨ns, k, x / m, upd_same, ?_, k0, Int.ediv_nonneg x0 (by omega), hn⟩ (hO.trans fun b hb => upd_ne hb)⟩
    rw [upd_ne hne]
    exact h2
def sp_root (T : Txt K mg) : Sp := fun vs H Q _ => ∃ (n : Int), vs = [.int n] ∧ (n.natAbs < 2 ^ 600) ∧ Q (.int (rootZ n)) H
set_option maxHeartbeats 4000000 in
theorem ok_root (T : Txt K mg) : FnOk P w K mg base CX0 1 T.f_root T.d_root ["number"] (sp_root T) := by
  refine T.F_root.ok sc_root (fun vs H Q E h => ?_) (fun cdv A outer s H vs Q E hr h => ?_)
  · obtain ⟨n, rfl, _⟩ := h
    rfl
  · obtain ⟨n, rfl, h1, q⟩ := h
    refine ⟨_, (pss_cons (ps_if (pt_cmpR op_lt (pv 0) pe_int (nomark _)) (pss_one (ps_ret pe_int)) pss_nil) 
      (pss_one (ps_ret (pe_callBfun cr_isqrt (by rfl) T.m_isqrt (pa_cons (pv 0) pa_nil))))), ?_⟩
    refine ⟨_, rfl, _, _, rfl, rfl, _, rfl, ite2 (fun e => ?_) (fun e => ?_)⟩
    · have c : n < 0 := of_decide_eq_true e
      have z : rootZ n = 0 := by
        unfold rootZ
        rw [show n.toNat = 0 by omega]
        decide +kernel
      rw [z] at q
      exact q
    · have c : ¬ n < 0 := fun z => e (decide_eq_true z)
      exact ⟨_, rfl, n, rfl, by omega, h1, q⟩
def sp_gap (T : Txt K mg) : Sp := fun vs H Q _ => ∃ (far near : Int), vs = [.int far, .int near] ∧ (0 ≤ far) ∧ (far.natAbs < 2 ^ 280) ∧ (0 ≤ near) ∧ (near.natAbs < 2 ^ 280) ∧ Q (.int (gapZ far near)) H
set_option maxHeartbeats 4000000 in
theorem ok_gap (T : Txt K mg) : FnOk P w K mg base CX0 2 T.f_gap T.d_gap ["far", "near"] (sp_gap T) := by
  have G_root : FnOk P w K mg base CX0 1 T.f_root T.d_root ["number"] (sp_root T) := ok_root T
  refine T.F_gap.ok sc_gap (fun vs H Q E h => ?_) (fun cdv A outer s H vs Q E hr h => ?_)
  · obtain ⟨far, near, rfl, _⟩ := h
    rfl
  · obtain ⟨far, near, rfl, f0, f1, n0, n1, q⟩ := h
    refine ⟨_, (pss_cons (ps_if (pt_cmpR op_ge (pv 1) (pv 0) (nomark _)) (pss_one (ps_ret pe_int)) pss_nil) 
      (pss_one (ps_ret (pe_op op_sub (pe_op op_add (pv 0) (pv 1)) (pe_call G_root (hr.mono (by decide)) (by rfl) T.g_root T.F_root.kp T.b_root .nil pass0 (pa_cons (pe_op op_mulW (pe_op op_mul pe_int (pv 0)) (pv 1)) pa_nil)))))), ?_⟩
    refine ⟨_, rfl, _, rfl, _, _, rfl, rfl, _, rfl, ite2 (fun e => ?_) (fun e => ?_)⟩
    · have c : far ≤ near := of_decide_eq_true e
      have z : gapZ far near = 0 := by unfold gapZ; rw [if_pos c]
      rw [z] at q
      exact q
    · have c : ¬ far ≤ near := fun z => e (decide_eq_true z)
      have z : gapZ far near = far + near - rootZ (4 * far * near) := by unfold gapZ; rw [if_neg c]
      rw [z] at q
      have w4 : (4 : Int).natAbs < 2 ^ 3 := by decide
      have w5 : (4 * far).natAbs < 2 ^ (3 + 280) := wide_lt w4 f1
      refine ⟨_, rfl, _, rfl, _, _, rfl, rfl, _, rfl, _, _, rfl, rfl, .inl ⟨by decide, by decide⟩, _, rfl, _, _, rfl, rfl, wide_mul w5 n1 (by decide) (by decide) (by decide), _, rfl, ?_, _, _, rfl, rfl, q⟩
      exact Nat.lt_of_lt_of_le (wide_lt w5 n1) (Nat.pow_le_pow_right (by decide) (by decide))
def sp_inner (T : Txt K mg) : Sp := fun vs H Q _ => ∃ (xa xb : ZN.Src) (xs ys : List Int), vs = [.ref xa.a, .ref xb.a] ∧ (ZN.SqX K H xa (xs.map V.int)) ∧ (ZN.SqX K H xb (ys.map V.int)) ∧ (xs.length = ys.length) ∧ (xs.length ≤ 1000) ∧ (Bd 1000000000000 xs) ∧ (Bd 1000000000000 ys) ∧ ∀ H', Same H H' → Q (.int (ter fMul xs ys).sum) H'
set_option maxHeartbeats 4000000 in
theorem ok_inner (T : Txt K mg) : FnOk P w K mg base CX0 1 T.f_inner T.d_inner ["a", "b"] (sp_inner T) := by
  refine T.F_inner.ok sc_inner (fun vs H Q E h => ?_) (fun cdv A outer s H vs Q E hr h => ?_)
  · obtain ⟨xa, xb, xs, ys, rfl, _⟩ := h
    rfl
  · obtain ⟨xa, xb, xs, ys, rfl, ha, hb, hl, h1, bx, by_, q⟩ := h
    refine ⟨_, (pss_one (ps_ret (pe_callB (cr_sum rfl) (by rfl) T.m_sum (by decide +kernel) (pa_cons (pe_lc (own := [("x", 2), ("y", 3)]) (g := gTup K 2 (gCons (gName 2) (gCons (gName 3) gNil))) rfl sc_inner.nd (ZN.pi_zip2 (by rfl) T.m_zip (pa_cons (pv 0) (pa_cons (pv 1) pa_nil))) (blkOk_by (own := [("x", 2), ("y", 3)]) (N := ["a", "b", "x", "y"]) (sc := defScope s_inner) (by decide +kernel)) (fun _ _ _ _ _ => (by exact (pg_tup rfl (pgs_cons (pg_name (i := 2) sc_inner.nd rfl (Or.inl rfl)) (pgs_cons (pg_name (i := 3) sc_inner.nd rfl (Or.inl rfl)) pgs_nil))))) (fun _ _ _ _ _ => pts_nil) (fun _ _ _ _ _ => (pe_op op_mul (pv 2) (pv 3)))) pa_nil)))), ?_⟩
    refine ⟨_, rfl, _, rfl, xa, xb, xs.map V.int, ys.map V.int, rfl, ha, hb, fun D hD => ?_⟩
    refine lc_it (ZN.walk2 (K := K) (x := xa) (y := xb) (xs := xs.map V.int) (ys := ys.map V.int) (by rw [List.length_map, List.length_map, hl])) (fun i H' => Same H H' ∧ H' D = some (.lst (((ter fMul xs ys).take i).map V.int))) ⟨same_new hD, by rw [upd_same]; rfl⟩ (fun i H' _ h => ⟨sqx_same h.1 ha, sqx_same h.1 hb⟩) ?_ ?_
    · rintro i v H1 H2 hi ⟨sm, hD1⟩ ⟨T, x1, x2, rfl, nT, rfl, g1, g2⟩
      obtain ⟨x, rfl, hx⟩ := get_map g1
      obtain ⟨y, rfl, hy⟩ := get_map g2
      have bX := bx.at hx
      have bY := by_.at hy
      have nDT : D ≠ T := ne_of_none hD1 nT
      refine ⟨T, [.int x, .int y], rfl, .inl (.inl upd_same), rfl, _, _, rfl, _, _, rfl, rfl, rfl, ?_⟩
      refine ⟨_, rfl, _, rfl, _, _, rfl, rfl, .inl ⟨by omega, by omega⟩, _, by rw [upd_ne nDT]; exact hD1, ?_, ?_⟩
      · rw [List.length_map, List.length_take, ter_len hl]
        exact len_le (by omega)
      · refine ⟨same_set (sm.trans (same_new nT)) hD, ?_⟩
        rw [upd_same, List.take_add_one, ter_get hx hy, List.map_append]
        rfl
    · rintro H1 ⟨sm, hD1⟩
      rw [List.length_map, ← ter_len (f := fMul) hl, List.take_of_length_le (Nat.le_refl _)] at hD1
      exact ⟨D, _, rfl, SqL.of hD1, q H1 sm⟩
def sp_distance (T : Txt K mg) : Sp := fun vs H Q _ => ∃ (xa xb : ZN.Src) (xs ys : List Int), vs = [.ref xa.a, .ref xb.a] ∧ (ZN.SqX K H xa (xs.map V.int)) ∧ (ZN.SqX K H xb (ys.map V.int)) ∧ (xs.length = ys.length) ∧ (xs.length ≤ 1000) ∧ (Bd 1000000000000 xs) ∧ (Bd 1000000000000 ys) ∧ ∀ H', Same H H' → Q (.int (ter fSq xs ys).sum) H'
set_option maxHeartbeats 4000000 in
theorem ok_distance (T : Txt K mg) : FnOk P w K mg base CX0 1 T.f_distance T.d_distance ["a", "b"] (sp_distance T) := by
  refine T.F_distance.ok sc_distance (fun vs H Q E h => ?_) (fun cdv A outer s H vs Q E hr h => ?_)
  · obtain ⟨xa, xb, xs, ys, rfl, _⟩ := h
    rfl
  · obtain ⟨xa, xb, xs, ys, rfl, ha, hb, hl, h1, bx, by_, q⟩ := h
    refine ⟨_, (pss_one (ps_ret (pe_callB (cr_sum rfl) (by rfl) T.m_sum (by decide +kernel) (pa_cons (pe_lc (own := [("x", 2), ("y", 3)]) (g := gTup K 2 (gCons (gName 2) (gCons (gName 3) gNil))) rfl sc_distance.nd (ZN.pi_zip2 (by rfl) T.m_zip (pa_cons (pv 0) (pa_cons (pv 1) pa_nil))) (blkOk_by (own := [("x", 2), ("y", 3)]) (N := ["a", "b", "x", "y"]) (sc := defScope s_distance) (by decide +kernel)) (fun _ _ _ _ _ => (by exact (pg_tup rfl (pgs_cons (pg_name (i := 2) sc_distance.nd rfl (Or.inl rfl)) (pgs_cons (pg_name (i := 3) sc_distance.nd rfl (Or.inl rfl)) pgs_nil))))) (fun _ _ _ _ _ => pts_nil) (fun _ _ _ _ _ => (pe_op op_mul (pe_op op_sub (pv 2) (pv 3)) (pe_op op_sub (pv 2) (pv 3))))) pa_nil)))), ?_⟩
    refine ⟨_, rfl, _, rfl, xa, xb, xs.map V.int, ys.map V.int, rfl, ha, hb, fun D hD => ?_⟩
    refine lc_it (ZN.walk2 (K := K) (x := xa) (y := xb) (xs := xs.map V.int) (ys := ys.map V.int) (by rw [List.length_map, List.length_map, hl])) (fun i H' => Same H H' ∧ H' D = some (.lst (((ter fSq xs ys).take i).map V.int))) ⟨same_new hD, by rw [upd_same]; rfl⟩ (fun i H' _ h => ⟨sqx_same h.1 ha, sqx_same h.1 hb⟩) ?_ ?_
    · rintro i v H1 H2 hi ⟨sm, hD1⟩ ⟨T, x1, x2, rfl, nT, rfl, g1, g2⟩
      obtain ⟨x, rfl, hx⟩ := get_map g1
      obtain ⟨y, rfl, hy⟩ := get_map g2
      have bX := bx.at hx
      have bY := by_.at hy
      have nDT : D ≠ T := ne_of_none hD1 nT
      refine ⟨T, [.int x, .int y], rfl, .inl (.inl upd_same), rfl, _, _, rfl, _, _, rfl, rfl, rfl, ?_⟩
      refine ⟨_, rfl, _, rfl, _, _, rfl, rfl, _, rfl, _, rfl, _, _, rfl, rfl, _, _, rfl, rfl, .inl ⟨by omega, by omega⟩, _, by rw [upd_ne nDT]; exact hD1, ?_, ?_⟩
      · rw [List.length_map, List.length_take, ter_len hl]
        exact len_le (by omega)
      · refine ⟨same_set (sm.trans (same_new nT)) hD, ?_⟩
        rw [upd_same, List.take_add_one, ter_get hx hy, List.map_append]
        rfl
    · rintro H1 ⟨sm, hD1⟩
      rw [List.length_map, ← ter_len (f := fSq) hl, List.take_of_length_le (Nat.le_refl _)] at hD1
      exact ⟨D, _, rfl, SqL.of hD1, q H1 sm⟩
def sp_differing (T : Txt K mg) : Sp := fun vs H Q _ => ∃ (xa xb : ZN.Src) (xs ys : List Int), vs = [.ref xa.a, .ref xb.a] ∧ (ZN.SqX K H xa (xs.map V.int)) ∧ (ZN.SqX K H xb (ys.map V.int)) ∧ (xs.length = ys.length) ∧ (xs.length ≤ 1000) ∧ (Bd 1000000000000 xs) ∧ (Bd 1000000000000 ys) ∧ ∀ H', Same H H' → Q (.int (ter fNe xs ys).sum) H'
set_option maxHeartbeats 4000000 in
theorem ok_differing (T : Txt K mg) : FnOk P w K mg base CX0 1 T.f_differing T.d_differing ["a", "b"] (sp_differing T) := by
  refine T.F_differing.ok sc_differing (fun vs H Q E h => ?_) (fun cdv A outer s H vs Q E hr h => ?_)
  · obtain ⟨xa, xb, xs, ys, rfl, _⟩ := h
    rfl
  · obtain ⟨xa, xb, xs, ys, rfl, ha, hb, hl, h1, bx, by_, q⟩ := h
    refine ⟨_, (pss_one (ps_ret (pe_callB call_len_seq (by rfl) T.m_len PySem.boot_len (pa_cons (pe_lc (own := [("x", 2), ("y", 3)]) (g := gTup K 2 (gCons (gName 2) (gCons (gName 3) gNil))) rfl sc_differing.nd (ZN.pi_zip2 (by rfl) T.m_zip (pa_cons (pv 0) (pa_cons (pv 1) pa_nil))) (blkOk_by (own := [("x", 2), ("y", 3)]) (N := ["a", "b", "x", "y"]) (sc := defScope s_differing) (by decide +kernel)) (fun _ _ _ _ _ => (by exact (pg_tup rfl (pgs_cons (pg_name (i := 2) sc_differing.nd rfl (Or.inl rfl)) (pgs_cons (pg_name (i := 3) sc_differing.nd rfl (Or.inl rfl)) pgs_nil))))) (fun _ _ _ _ _ => (by exact pts_one (pt_cmpR op_ne (pv 2) (pv 3) (nomark _)))) (fun _ _ _ _ _ => pe_bl)) pa_nil)))), ?_⟩
    refine ⟨_, rfl, _, rfl, xa, xb, xs.map V.int, ys.map V.int, rfl, ha, hb, fun D hD => ?_⟩
    refine lc_it (ZN.walk2 (K := K) (x := xa) (y := xb) (xs := xs.map V.int) (ys := ys.map V.int) (by rw [List.length_map, List.length_map, hl])) (fun i H' => Same H H' ∧ ∃ acc : List V, H' D = some (.lst acc) ∧ acc.length ≤ i ∧ (acc.length : Int) = ((ter fNe xs ys).take i).sum) ⟨same_new hD, [], upd_same, Nat.le_refl 0, rfl⟩ (fun i H' _ h => ⟨sqx_same h.1 ha, sqx_same h.1 hb⟩) ?_ ?_
    · rintro i v H1 H2 hi ⟨sm, acc, hD1, l1, l2⟩ ⟨T, x1, x2, rfl, nT, rfl, g1, g2⟩
      obtain ⟨x, rfl, hx⟩ := get_map g1
      obtain ⟨y, rfl, hy⟩ := get_map g2
      have nDT : D ≠ T := ne_of_none hD1 nT
      rw [List.length_map] at hi
      have st := sum_take (ter_get (f := fNe) hx hy)
      refine ⟨T, [.int x, .int y], rfl, .inl (.inl upd_same), rfl, _, _, rfl, _, _, rfl, rfl, rfl, ?_⟩
      refine ⟨_, rfl, _, rfl, rfl, _, rfl, ?_⟩
      by_cases e : x = y
      · have z : fNe x y = 0 := by unfold fNe; rw [if_pos e]
        rw [decide_eq_true (congrArg V.int e)]
        refine iteF ?_
        exact ⟨sm.trans (same_new nT), acc, by rw [upd_ne nDT]; exact hD1, by omega, by omega⟩
      · have z : fNe x y = 1 := by unfold fNe; rw [if_neg e]
        rw [decide_eq_false (fun h => e (V.int.inj h))]
        refine iteT ?_
        refine ⟨acc, by rw [upd_ne nDT]; exact hD1, len_le (by omega), same_set (sm.trans (same_new nT)) hD, acc ++ [.bl true], upd_same, by simp; omega, by simp; omega⟩
    · rintro H1 ⟨sm, acc, hD1, l1, l2⟩
      rw [List.length_map, ← ter_len (f := fNe) hl, List.take_of_length_le (Nat.le_refl _)] at l2
      refine ⟨D, acc, rfl, .inl (SqL.of hD1), ?_⟩
      rw [l2]
      exact q H1 sm
def sp_norm (T : Txt K mg) : Sp := fun vs H Q _ => ∃ (xa : ZN.Src) (xs : List Int), vs = [.ref xa.a] ∧ (ZN.SqX K H xa (xs.map V.int)) ∧ (xs.length ≤ 1000) ∧ (Bd 1000000000000 xs) ∧ ∀ H', Same H H' → Q (.int (ter fMul xs xs).sum) H'
set_option maxHeartbeats 4000000 in
theorem ok_norm (T : Txt K mg) : FnOk P w K mg base CX0 2 T.f_norm T.d_norm ["a"] (sp_norm T) := by
  have G_inner : FnOk P w K mg base CX0 1 T.f_inner T.d_inner ["a", "b"] (sp_inner T) := ok_inner T
  refine T.F_norm.ok sc_norm (fun vs H Q E h => ?_) (fun cdv A outer s H vs Q E hr h => ?_)
  · obtain ⟨xa, xs, rfl, _⟩ := h
    rfl
  · obtain ⟨xa, xs, rfl, ha, h1, bx, q⟩ := h
    refine ⟨_, (pss_one (ps_ret (pe_call G_inner (hr.mono (by decide)) (by rfl) T.g_inner T.F_inner.kp T.b_inner .nil pass0 (pa_cons (pv 0) (pa_cons (pv 0) pa_nil))))), ?_⟩
    exact ⟨_, rfl, _, rfl, xa, xa, xs, xs, rfl, ha, ha, rfl, h1, bx, bx, q⟩
def sp_Part___init__ (T : Txt K mg) : Sp := fun vs H Q _ => ∃ (p dx : Addr) (v_start : V) (l_centre : Addr) (x_centre : List V) (v_radius : V), vs = [.ref p, v_start, .ref l_centre, v_radius] ∧ (H p = some (.ins T.c_Part dx [])) ∧ (H l_centre = some (.lst x_centre)) ∧ ∀ t_centre H', H t_centre = none → H' p = some (.ins T.c_Part dx (ff_Part v_start (.ref t_centre) v_radius)) → H' t_centre = some (.tup x_centre) → (∀ b o, H b = some o → b ≠ p → H' b = some o) → Q .non H'
set_option maxHeartbeats 4000000 in
theorem ok_Part___init__ (T : Txt K mg) : FnOk P w K mg base CX0 1 T.f_Part___init__ T.d_Part___init__ ["self", "start", "centre", "radius"] (sp_Part___init__ T) := by
  refine T.F_Part___init__.ok sc_Part___init__ (fun vs H Q E h => ?_) (fun cdv A outer s H vs Q E hr h => ?_)
  · obtain ⟨p, dx, v_start, l_centre, x_centre, v_radius, rfl, _⟩ := h
    rfl
  · obtain ⟨p, dx, v_start, l_centre, x_centre, v_radius, rfl, hp, h_centre, q⟩ := h
    refine ⟨_, (pss_cons (ps_fld (pv 0) (pv 1) rfl) 
      (pss_cons (ps_fld (pv 0) (pe_callTy call_tuple_of (by rfl) T.m_tuple (by decide +kernel) (pa_cons (pv 2) pa_nil)) rfl) 
      (pss_one (ps_fld (pv 0) (pv 3) rfl)))), ?_⟩
    have fr0 : ∀ b o, H b = some o → b ≠ p → H b = some o := fun b o e _ => e
    have hp0 := hp
    refine ⟨_, rfl, _, rfl, p, T.c_Part, dx, _, rfl, hp0, T.cl_Part, T.n_Part_start, Nat.lt_of_le_of_lt (Nat.le_refl 0) (by decide), ?_⟩
    have fr1 : ∀ b o, H b = some o → b ≠ p → (upd H p (.ins T.c_Part dx (putF "start" v_start []))) b = some o := fun b o e n => by rw [upd_ne n]; exact fr0 b o e n
    have hp1 : (upd H p (.ins T.c_Part dx (putF "start" v_start []))) p = some (.ins T.c_Part dx (putF "start" v_start [])) := upd_same
    generalize upd H p (.ins T.c_Part dx (putF "start" v_start [])) = H1 at fr1 hp1 ⊢
    have nl_centre : l_centre ≠ p := fun e => by rw [e, hp] at h_centre; cases h_centre
    refine ⟨_, rfl, l_centre, x_centre, rfl, .inl ⟨SqL.of (fr1 _ _ h_centre nl_centre), fun t_centre nt_centre => ?_⟩⟩
    have np_centre : t_centre ≠ p := fun e => by rw [e, hp1] at nt_centre; cases nt_centre
    have nH_centre : H t_centre = none := by
      cases e : H t_centre with
      | none => rfl
      | some o => rw [fr1 _ _ e np_centre] at nt_centre; cases nt_centre
    refine ⟨_, rfl, p, T.c_Part, dx, _, rfl, (by rw [upd_ne np_centre.symm]; exact hp1), T.cl_Part, T.n_Part_centre, Nat.lt_of_le_of_lt (putF_le (Nat.le_refl 0)) (by decide), ?_⟩
    have fr2 : ∀ b o, H b = some o → b ≠ p → (upd (upd H1 t_centre (.tup x_centre)) p (.ins T.c_Part dx (putF "centre" (.ref t_centre) (putF "start" v_start [])))) b = some o := fun b o e n => by rw [upd_ne n, upd_ne (ne_of_none (fr1 b o e n) nt_centre)]; exact fr1 b o e n
    have d2_centre : (upd (upd H1 t_centre (.tup x_centre)) p (.ins T.c_Part dx (putF "centre" (.ref t_centre) (putF "start" v_start [])))) t_centre = some (.tup x_centre) := by rw [upd_ne np_centre]; exact upd_same
    have hp2 : (upd (upd H1 t_centre (.tup x_centre)) p (.ins T.c_Part dx (putF "centre" (.ref t_centre) (putF "start" v_start [])))) p = some (.ins T.c_Part dx (putF "centre" (.ref t_centre) (putF "start" v_start []))) := upd_same
    generalize upd (upd H1 t_centre (.tup x_centre)) p (.ins T.c_Part dx (putF "centre" (.ref t_centre) (putF "start" v_start []))) = H2 at fr2 hp2 d2_centre ⊢
    refine ⟨_, rfl, _, rfl, p, T.c_Part, dx, _, rfl, hp2, T.cl_Part, T.n_Part_radius, Nat.lt_of_le_of_lt (putF_le (putF_le (Nat.le_refl 0))) (by decide), ?_⟩
    have fr3 : ∀ b o, H b = some o → b ≠ p → (upd H2 p (.ins T.c_Part dx (putF "radius" v_radius (putF "centre" (.ref t_centre) (putF "start" v_start []))))) b = some o := fun b o e n => by rw [upd_ne n]; exact fr2 b o e n
    have d3_centre : (upd H2 p (.ins T.c_Part dx (putF "radius" v_radius (putF "centre" (.ref t_centre) (putF "start" v_start []))))) t_centre = some (.tup x_centre) := by rw [upd_ne np_centre]; exact d2_centre
    have hp3 : (upd H2 p (.ins T.c_Part dx (putF "radius" v_radius (putF "centre" (.ref t_centre) (putF "start" v_start []))))) p = some (.ins T.c_Part dx (putF "radius" v_radius (putF "centre" (.ref t_centre) (putF "start" v_start [])))) := upd_same
    generalize upd H2 p (.ins T.c_Part dx (putF "radius" v_radius (putF "centre" (.ref t_centre) (putF "start" v_start [])))) = H3 at fr3 hp3 d3_centre ⊢
    exact q t_centre H3 nH_centre hp3 d3_centre fr3
def sp_Parts___init__ (T : Txt K mg) : Sp := fun vs H Q _ => ∃ (p dx : Addr) (l_parts : Addr) (x_parts : List V), vs = [.ref p, .ref l_parts] ∧ (H p = some (.ins T.c_Parts dx [])) ∧ (H l_parts = some (.lst x_parts)) ∧ ∀ t_parts H', H t_parts = none → H' p = some (.ins T.c_Parts dx (ff_Parts (.ref t_parts))) → H' t_parts = some (.tup x_parts) → (∀ b o, H b = some o → b ≠ p → H' b = some o) → Q .non H'
set_option maxHeartbeats 4000000 in
theorem ok_Parts___init__ (T : Txt K mg) : FnOk P w K mg base CX0 1 T.f_Parts___init__ T.d_Parts___init__ ["self", "parts"] (sp_Parts___init__ T) := by
  refine T.F_Parts___init__.ok sc_Parts___init__ (fun vs H Q E h => ?_) (fun cdv A outer s H vs Q E hr h => ?_)
  · obtain ⟨p, dx, l_parts, x_parts, rfl, _⟩ := h
    rfl
  · obtain ⟨p, dx, l_parts, x_parts, rfl, hp, h_parts, q⟩ := h
    refine ⟨_, (pss_one (ps_fld (pv 0) (pe_callTy call_tuple_of (by rfl) T.m_tuple (by decide +kernel) (pa_cons (pv 1) pa_nil)) rfl)), ?_⟩
    have fr0 : ∀ b o, H b = some o → b ≠ p → H b = some o := fun b o e _ => e
    have hp0 := hp
    have nl_parts : l_parts ≠ p := fun e => by rw [e, hp] at h_parts; cases h_parts
    refine ⟨_, rfl, l_parts, x_parts, rfl, .inl ⟨SqL.of (fr0 _ _ h_parts nl_parts), fun t_parts nt_parts => ?_⟩⟩
    have np_parts : t_parts ≠ p := fun e => by rw [e, hp0] at nt_parts; cases nt_parts
    have nH_parts : H t_parts = none := by
      cases e : H t_parts with
      | none => rfl
      | some o => rw [fr0 _ _ e np_parts] at nt_parts; cases nt_parts
    refine ⟨_, rfl, p, T.c_Parts, dx, _, rfl, (by rw [upd_ne np_parts.symm]; exact hp0), T.cl_Parts, T.n_Parts_parts, Nat.lt_of_le_of_lt (Nat.le_refl 0) (by decide), ?_⟩
    have fr1 : ∀ b o, H b = some o → b ≠ p → (upd (upd H t_parts (.tup x_parts)) p (.ins T.c_Parts dx (putF "parts" (.ref t_parts) []))) b = some o := fun b o e n => by rw [upd_ne n, upd_ne (ne_of_none (fr0 b o e n) nt_parts)]; exact fr0 b o e n
    have d1_parts : (upd (upd H t_parts (.tup x_parts)) p (.ins T.c_Parts dx (putF "parts" (.ref t_parts) []))) t_parts = some (.tup x_parts) := by rw [upd_ne np_parts]; exact upd_same
    have hp1 : (upd (upd H t_parts (.tup x_parts)) p (.ins T.c_Parts dx (putF "parts" (.ref t_parts) []))) p = some (.ins T.c_Parts dx (putF "parts" (.ref t_parts) [])) := upd_same
    generalize upd (upd H t_parts (.tup x_parts)) p (.ins T.c_Parts dx (putF "parts" (.ref t_parts) [])) = H1 at fr1 hp1 d1_parts ⊢
    exact q t_parts H1 nH_parts hp1 d1_parts fr1
def sp_Cell___init__ (T : Txt K mg) : Sp := fun vs H Q _ => ∃ (p dx : Addr) (l_near : Addr) (x_near : List V) (l_rival : Addr) (x_rival : List V), vs = [.ref p, .ref l_near, .ref l_rival] ∧ (H p = some (.ins T.c_Cell dx [])) ∧ (H l_near = some (.lst x_near)) ∧ (H l_rival = some (.lst x_rival)) ∧ ∀ t_near t_rival H', H t_near = none → H t_rival = none → H' p = some (.ins T.c_Cell dx (ff_Cell (.ref t_near) (.ref t_rival))) → H' t_near = some (.tup x_near) → H' t_rival = some (.tup x_rival) → (∀ b o, H b = some o → b ≠ p → H' b = some o) → Q .non H'
set_option maxHeartbeats 4000000 in
theorem ok_Cell___init__ (T : Txt K mg) : FnOk P w K mg base CX0 1 T.f_Cell___init__ T.d_Cell___init__ ["self", "near", "rival"] (sp_Cell___init__ T) := by
  refine T.F_Cell___init__.ok sc_Cell___init__ (fun vs H Q E h => ?_) (fun cdv A outer s H vs Q E hr h => ?_)
  · obtain ⟨p, dx, l_near, x_near, l_rival, x_rival, rfl, _⟩ := h
    rfl
  · obtain ⟨p, dx, l_near, x_near, l_rival, x_rival, rfl, hp, h_near, h_rival, q⟩ := h
    refine ⟨_, (pss_cons (ps_fld (pv 0) (pe_callTy call_tuple_of (by rfl) T.m_tuple (by decide +kernel) (pa_cons (pv 1) pa_nil)) rfl) 
      (pss_one (ps_fld (pv 0) (pe_callTy call_tuple_of (by rfl) T.m_tuple (by decide +kernel) (pa_cons (pv 2) pa_nil)) rfl))), ?_⟩
    have fr0 : ∀ b o, H b = some o → b ≠ p → H b = some o := fun b o e _ => e
    have hp0 := hp
    have nl_near : l_near ≠ p := fun e => by rw [e, hp] at h_near; cases h_near
    refine ⟨_, rfl, l_near, x_near, rfl, .inl ⟨SqL.of (fr0 _ _ h_near nl_near), fun t_near nt_near => ?_⟩⟩
    have np_near : t_near ≠ p := fun e => by rw [e, hp0] at nt_near; cases nt_near
    have nH_near : H t_near = none := by
      cases e : H t_near with
      | none => rfl
      | some o => rw [fr0 _ _ e np_near] at nt_near; cases nt_near
    refine ⟨_, rfl, p, T.c_Cell, dx, _, rfl, (by rw [upd_ne np_near.symm]; exact hp0), T.cl_Cell, T.n_Cell_near, Nat.lt_of_le_of_lt (Nat.le_refl 0) (by decide), ?_⟩
    have fr1 : ∀ b o, H b = some o → b ≠ p → (upd (upd H t_near (.tup x_near)) p (.ins T.c_Cell dx (putF "near" (.ref t_near) []))) b = some o := fun b o e n => by rw [upd_ne n, upd_ne (ne_of_none (fr0 b o e n) nt_near)]; exact fr0 b o e n
    have d1_near : (upd (upd H t_near (.tup x_near)) p (.ins T.c_Cell dx (putF "near" (.ref t_near) []))) t_near = some (.tup x_near) := by rw [upd_ne np_near]; exact upd_same
    have hp1 : (upd (upd H t_near (.tup x_near)) p (.ins T.c_Cell dx (putF "near" (.ref t_near) []))) p = some (.ins T.c_Cell dx (putF "near" (.ref t_near) [])) := upd_same
    generalize upd (upd H t_near (.tup x_near)) p (.ins T.c_Cell dx (putF "near" (.ref t_near) [])) = H1 at fr1 hp1 d1_near ⊢
    have nl_rival : l_rival ≠ p := fun e => by rw [e, hp] at h_rival; cases h_rival
    refine ⟨_, rfl, l_rival, x_rival, rfl, .inl ⟨SqL.of (fr1 _ _ h_rival nl_rival), fun t_rival nt_rival => ?_⟩⟩
    have np_rival : t_rival ≠ p := fun e => by rw [e, hp1] at nt_rival; cases nt_rival
    have nH_rival : H t_rival = none := by
      cases e : H t_rival with
      | none => rfl
      | some o => rw [fr1 _ _ e np_rival] at nt_rival; cases nt_rival
    refine ⟨_, rfl, p, T.c_Cell, dx, _, rfl, (by rw [upd_ne np_rival.symm]; exact hp1), T.cl_Cell, T.n_Cell_rival, Nat.lt_of_le_of_lt (putF_le (Nat.le_refl 0)) (by decide), ?_⟩
    have fr2 : ∀ b o, H b = some o → b ≠ p → (upd (upd H1 t_rival (.tup x_rival)) p (.ins T.c_Cell dx (putF "rival" (.ref t_rival) (putF "near" (.ref t_near) [])))) b = some o := fun b o e n => by rw [upd_ne n, upd_ne (ne_of_none (fr1 b o e n) nt_rival)]; exact fr1 b o e n
    have d2_near : (upd (upd H1 t_rival (.tup x_rival)) p (.ins T.c_Cell dx (putF "rival" (.ref t_rival) (putF "near" (.ref t_near) [])))) t_near = some (.tup x_near) := by rw [upd_ne np_near, upd_ne (ne_of_none d1_near nt_rival)]; exact d1_near
    have d2_rival : (upd (upd H1 t_rival (.tup x_rival)) p (.ins T.c_Cell dx (putF "rival" (.ref t_rival) (putF "near" (.ref t_near) [])))) t_rival = some (.tup x_rival) := by rw [upd_ne np_rival]; exact upd_same
    have hp2 : (upd (upd H1 t_rival (.tup x_rival)) p (.ins T.c_Cell dx (putF "rival" (.ref t_rival) (putF "near" (.ref t_near) [])))) p = some (.ins T.c_Cell dx (putF "rival" (.ref t_rival) (putF "near" (.ref t_near) []))) := upd_same
    generalize upd (upd H1 t_rival (.tup x_rival)) p (.ins T.c_Cell dx (putF "rival" (.ref t_rival) (putF "near" (.ref t_near) []))) = H2 at fr2 hp2 d2_near d2_rival ⊢
    exact q t_near t_rival H2 nH_near nH_rival hp2 d2_near d2_rival fr2
def sp_Box___init__ (T : Txt K mg) : Sp := fun vs H Q _ => ∃ (p dx : Addr) (l_low : Addr) (x_low : List V) (l_high : Addr) (x_high : List V), vs = [.ref p, .ref l_low, .ref l_high] ∧ (H p = some (.ins T.c_Box dx [])) ∧ (H l_low = some (.lst x_low)) ∧ (H l_high = some (.lst x_high)) ∧ ∀ t_low t_high H', H t_low = none → H t_high = none → H' p = some (.ins T.c_Box dx (ff_Box (.ref t_low) (.ref t_high))) → H' t_low = some (.tup x_low) → H' t_high = some (.tup x_high) → (∀ b o, H b = some o → b ≠ p → H' b = some o) → Q .non H'
set_option maxHeartbeats 4000000 in
theorem ok_Box___init__ (T : Txt K mg) : FnOk P w K mg base CX0 1 T.f_Box___init__ T.d_Box___init__ ["self", "low", "high"] (sp_Box___init__ T) := by
  refine T.F_Box___init__.ok sc_Box___init__ (fun vs H Q E h => ?_) (fun cdv A outer s H vs Q E hr h => ?_)
  · obtain ⟨p, dx, l_low, x_low, l_high, x_high, rfl, _⟩ := h
    rfl
  · obtain ⟨p, dx, l_low, x_low, l_high, x_high, rfl, hp, h_low, h_high, q⟩ := h
    refine ⟨_, (pss_cons (ps_fld (pv 0) (pe_callTy call_tuple_of (by rfl) T.m_tuple (by decide +kernel) (pa_cons (pv 1) pa_nil)) rfl) 
      (pss_one (ps_fld (pv 0) (pe_callTy call_tuple_of (by rfl) T.m_tuple (by decide +kernel) (pa_cons (pv 2) pa_nil)) rfl))), ?_⟩
    have fr0 : ∀ b o, H b = some o → b ≠ p → H b = some o := fun b o e _ => e
    have hp0 := hp
    have nl_low : l_low ≠ p := fun e => by rw [e, hp] at h_low; cases h_low
    refine ⟨_, rfl, l_low, x_low, rfl, .inl ⟨SqL.of (fr0 _ _ h_low nl_low), fun t_low nt_low => ?_⟩⟩
    have np_low : t_low ≠ p := fun e => by rw [e, hp0] at nt_low; cases nt_low
    have nH_low : H t_low = none := by
      cases e : H t_low with
      | none => rfl
      | some o => rw [fr0 _ _ e np_low] at nt_low; cases nt_low
    refine ⟨_, rfl, p, T.c_Box, dx, _, rfl, (by rw [upd_ne np_low.symm]; exact hp0), T.cl_Box, T.n_Box_low, Nat.lt_of_le_of_lt (Nat.le_refl 0) (by decide), ?_⟩
    have fr1 : ∀ b o, H b = some o → b ≠ p → (upd (upd H t_low (.tup x_low)) p (.ins T.c_Box dx (putF "low" (.ref t_low) []))) b = some o := fun b o e n => by rw [upd_ne n, upd_ne (ne_of_none (fr0 b o e n) nt_low)]; exact fr0 b o e n
    have d1_low : (upd (upd H t_low (.tup x_low)) p (.ins T.c_Box dx (putF "low" (.ref t_low) []))) t_low = some (.tup x_low) := by rw [upd_ne np_low]; exact upd_same
    have hp1 : (upd (upd H t_low (.tup x_low)) p (.ins T.c_Box dx (putF "low" (.ref t_low) []))) p = some (.ins T.c_Box dx (putF "low" (.ref t_low) [])) := upd_same
    generalize upd (upd H t_low (.tup x_low)) p (.ins T.c_Box dx (putF "low" (.ref t_low) [])) = H1 at fr1 hp1 d1_low ⊢
    have nl_high : l_high ≠ p := fun e => by rw [e, hp] at h_high; cases h_high
    refine ⟨_, rfl, l_high, x_high, rfl, .inl ⟨SqL.of (fr1 _ _ h_high nl_high), fun t_high nt_high => ?_⟩⟩
    have np_high : t_high ≠ p := fun e => by rw [e, hp1] at nt_high; cases nt_high
    have nH_high : H t_high = none := by
      cases e : H t_high with
      | none => rfl
      | some o => rw [fr1 _ _ e np_high] at nt_high; cases nt_high
    refine ⟨_, rfl, p, T.c_Box, dx, _, rfl, (by rw [upd_ne np_high.symm]; exact hp1), T.cl_Box, T.n_Box_high, Nat.lt_of_le_of_lt (putF_le (Nat.le_refl 0)) (by decide), ?_⟩
    have fr2 : ∀ b o, H b = some o → b ≠ p → (upd (upd H1 t_high (.tup x_high)) p (.ins T.c_Box dx (putF "high" (.ref t_high) (putF "low" (.ref t_low) [])))) b = some o := fun b o e n => by rw [upd_ne n, upd_ne (ne_of_none (fr1 b o e n) nt_high)]; exact fr1 b o e n
    have d2_low : (upd (upd H1 t_high (.tup x_high)) p (.ins T.c_Box dx (putF "high" (.ref t_high) (putF "low" (.ref t_low) [])))) t_low = some (.tup x_low) := by rw [upd_ne np_low, upd_ne (ne_of_none d1_low nt_high)]; exact d1_low
    have d2_high : (upd (upd H1 t_high (.tup x_high)) p (.ins T.c_Box dx (putF "high" (.ref t_high) (putF "low" (.ref t_low) [])))) t_high = some (.tup x_high) := by rw [upd_ne np_high]; exact upd_same
    have hp2 : (upd (upd H1 t_high (.tup x_high)) p (.ins T.c_Box dx (putF "high" (.ref t_high) (putF "low" (.ref t_low) [])))) p = some (.ins T.c_Box dx (putF "high" (.ref t_high) (putF "low" (.ref t_low) []))) := upd_same
    generalize upd (upd H1 t_high (.tup x_high)) p (.ins T.c_Box dx (putF "high" (.ref t_high) (putF "low" (.ref t_low) []))) = H2 at fr2 hp2 d2_low d2_high ⊢
    exact q t_low t_high H2 nH_low nH_high hp2 d2_low d2_high fr2
def sp_Norms___init__ (T : Txt K mg) : Sp := fun vs H Q _ => ∃ (p dx : Addr) (v_low : V) (v_high : V), vs = [.ref p, v_low, v_high] ∧ (H p = some (.ins T.c_Norms dx [])) ∧ ∀ H', H' p = some (.ins T.c_Norms dx (ff_Norms v_low v_high)) → (∀ b o, H b = some o → b ≠ p → H' b = some o) → Q .non H'
set_option maxHeartbeats 4000000 in
theorem ok_Norms___init__ (T : Txt K mg) : FnOk P w K mg base CX0 1 T.f_Norms___init__ T.d_Norms___init__ ["self", "low", "high"] (sp_Norms___init__ T) := by
  refine T.F_Norms___init__.ok sc_Norms___init__ (fun vs H Q E h => ?_) (fun cdv A outer s H vs Q E hr h => ?_)
  · obtain ⟨p, dx, v_low, v_high, rfl, _⟩ := h
    rfl
  · obtain ⟨p, dx, v_low, v_high, rfl, hp, q⟩ := h
    refine ⟨_, (pss_cons (ps_fld (pv 0) (pv 1) rfl) 
      (pss_one (ps_fld (pv 0) (pv 2) rfl))), ?_⟩
    have fr0 : ∀ b o, H b = some o → b ≠ p → H b = some o := fun b o e _ => e
    have hp0 := hp
    refine ⟨_, rfl, _, rfl, p, T.c_Norms, dx, _, rfl, hp0, T.cl_Norms, T.n_Norms_low, Nat.lt_of_le_of_lt (Nat.le_refl 0) (by decide), ?_⟩
    have fr1 : ∀ b o, H b = some o → b ≠ p → (upd H p (.ins T.c_Norms dx (putF "low" v_low []))) b = some o := fun b o e n => by rw [upd_ne n]; exact fr0 b o e n
    have hp1 : (upd H p (.ins T.c_Norms dx (putF "low" v_low []))) p = some (.ins T.c_Norms dx (putF "low" v_low [])) := upd_same
    generalize upd H p (.ins T.c_Norms dx (putF "low" v_low [])) = H1 at fr1 hp1 ⊢
    refine ⟨_, rfl, _, rfl, p, T.c_Norms, dx, _, rfl, hp1, T.cl_Norms, T.n_Norms_high, Nat.lt_of_le_of_lt (putF_le (Nat.le_refl 0)) (by decide), ?_⟩
    have fr2 : ∀ b o, H b = some o → b ≠ p → (upd H1 p (.ins T.c_Norms dx (putF "high" v_high (putF "low" v_low [])))) b = some o := fun b o e n => by rw [upd_ne n]; exact fr1 b o e n
    have hp2 : (upd H1 p (.ins T.c_Norms dx (putF "high" v_high (putF "low" v_low [])))) p = some (.ins T.c_Norms dx (putF "high" v_high (putF "low" v_low []))) := upd_same
    generalize upd H1 p (.ins T.c_Norms dx (putF "high" v_high (putF "low" v_low []))) = H2 at fr2 hp2 ⊢
    exact q H2  hp2  fr2
def sp_Differ___init__ (T : Txt K mg) : Sp := fun vs H Q _ => ∃ (p dx : Addr) (l_centre : Addr) (x_centre : List V) (v_most : V), vs = [.ref p, .ref l_centre, v_most] ∧ (H p = some (.ins T.c_Differ dx [])) ∧ (H l_centre = some (.lst x_centre)) ∧ ∀ t_centre H', H t_centre = none → H' p = some (.ins T.c_Differ dx (ff_Differ (.ref t_centre) v_most)) → H' t_centre = some (.tup x_centre) → (∀ b o, H b = some o → b ≠ p → H' b = some o) → Q .non H'
set_option maxHeartbeats 4000000 in
theorem ok_Differ___init__ (T : Txt K mg) : FnOk P w K mg base CX0 1 T.f_Differ___init__ T.d_Differ___init__ ["self", "centre", "most"] (sp_Differ___init__ T) := by
  refine T.F_Differ___init__.ok sc_Differ___init__ (fun vs H Q E h => ?_) (fun cdv A outer s H vs Q E hr h => ?_)
  · obtain ⟨p, dx, l_centre, x_centre, v_most, rfl, _⟩ := h
    rfl
  · obtain ⟨p, dx, l_centre, x_centre, v_most, rfl, hp, h_centre, q⟩ := h
    refine ⟨_, (pss_cons (ps_fld (pv 0) (pe_callTy call_tuple_of (by rfl) T.m_tuple (by decide +kernel) (pa_cons (pv 1) pa_nil)) rfl) 
      (pss_one (ps_fld (pv 0) (pv 2) rfl))), ?_⟩
    have fr0 : ∀ b o, H b = some o → b ≠ p → H b = some o := fun b o e _ => e
    have hp0 := hp
    have nl_centre : l_centre ≠ p := fun e => by rw [e, hp] at h_centre; cases h_centre
    refine ⟨_, rfl, l_centre, x_centre, rfl, .inl ⟨SqL.of (fr0 _ _ h_centre nl_centre), fun t_centre nt_centre => ?_⟩⟩
    have np_centre : t_centre ≠ p := fun e => by rw [e, hp0] at nt_centre; cases nt_centre
    have nH_centre : H t_centre = none := by
      cases e : H t_centre with
      | none => rfl
      | some o => rw [fr0 _ _ e np_centre] at nt_centre; cases nt_centre
    refine ⟨_, rfl, p, T.c_Differ, dx, _, rfl, (by rw [upd_ne np_centre.symm]; exact hp0), T.cl_Differ, T.n_Differ_centre, Nat.lt_of_le_of_lt (Nat.le_refl 0) (by decide), ?_⟩
    have fr1 : ∀ b o, H b = some o → b ≠ p → (upd (upd H t_centre (.tup x_centre)) p (.ins T.c_Differ dx (putF "centre" (.ref t_centre) []))) b = some o := fun b o e n => by rw [upd_ne n, upd_ne (ne_of_none (fr0 b o e n) nt_centre)]; exact fr0 b o e n
    have d1_centre : (upd (upd H t_centre (.tup x_centre)) p (.ins T.c_Differ dx (putF "centre" (.ref t_centre) []))) t_centre = some (.tup x_centre) := by rw [upd_ne np_centre]; exact upd_same
    have hp1 : (upd (upd H t_centre (.tup x_centre)) p (.ins T.c_Differ dx (putF "centre" (.ref t_centre) []))) p = some (.ins T.c_Differ dx (putF "centre" (.ref t_centre) [])) := upd_same
    generalize upd (upd H t_centre (.tup x_centre)) p (.ins T.c_Differ dx (putF "centre" (.ref t_centre) [])) = H1 at fr1 hp1 d1_centre ⊢
    refine ⟨_, rfl, _, rfl, p, T.c_Differ, dx, _, rfl, hp1, T.cl_Differ, T.n_Differ_most, Nat.lt_of_le_of_lt (putF_le (Nat.le_refl 0)) (by decide), ?_⟩
    have fr2 : ∀ b o, H b = some o → b ≠ p → (upd H1 p (.ins T.c_Differ dx (putF "most" v_most (putF "centre" (.ref t_centre) [])))) b = some o := fun b o e n => by rw [upd_ne n]; exact fr1 b o e n
    have d2_centre : (upd H1 p (.ins T.c_Differ dx (putF "most" v_most (putF "centre" (.ref t_centre) [])))) t_centre = some (.tup x_centre) := by rw [upd_ne np_centre]; exact d1_centre
    have hp2 : (upd H1 p (.ins T.c_Differ dx (putF "most" v_most (putF "centre" (.ref t_centre) [])))) p = some (.ins T.c_Differ dx (putF "most" v_most (putF "centre" (.ref t_centre) []))) := upd_same
    generalize upd H1 p (.ins T.c_Differ dx (putF "most" v_most (putF "centre" (.ref t_centre) []))) = H2 at fr2 hp2 d2_centre ⊢
    exact q t_centre H2 nH_centre hp2 d2_centre fr2
def sp_Part_after (T : Txt K mg) : Sp := fun vs H Q _ => ∃ (p : Addr) (a : Pt), vs = [.ref p] ∧ (PtAt T.c_Part H p a) ∧ Q (.int (a.1 + a.2.1.length)) H
set_option maxHeartbeats 4000000 in
theorem ok_Part_after (T : Txt K mg) : FnOk P w K mg base CX0 1 T.f_Part_after T.d_Part_after ["self"] (sp_Part_after T) := by
  refine T.F_Part_after.ok sc_Part_after (fun vs H Q E h => ?_) (fun cdv A outer s H vs Q E hr h => ?_)
  · obtain ⟨p, a, rfl, _⟩ := h
    rfl
  · obtain ⟨p, a, rfl, hp, q⟩ := h
    refine ⟨_, (pss_one (ps_ret (pe_op op_add (pe_fld (pv 0) rfl) (pe_callB call_len_seq (by rfl) T.m_len PySem.boot_len (pa_cons (pe_fld (pv 0) rfl) pa_nil))))), ?_⟩
    obtain ⟨dx, tc, h1, h2⟩ := hp
    refine ⟨_, rfl, _, _, _, _, _, rfl, h1, T.cl_Part, T.n_Part_start, lk_Part_start, _, rfl, _, _, _, _, _, rfl, h1, T.cl_Part, T.n_Part_centre, lk_Part_centre, _, _, rfl, .inr (SqT.of h2), _, _, rfl, rfl, ?_⟩
    rw [List.length_map]
    exact q
def sp_have_size (T : Txt K mg) : Sp := fun vs H Q _ => ∃ (t u : Addr) (a b : List Int) (n : Int), vs = [.ref t, .ref u, .int n] ∧ (H t = some (.tup (a.map V.int))) ∧ (H u = some (.tup (b.map V.int))) ∧ Q (.bl (decide ((a.length : Int) = n) && decide ((b.length : Int) = n))) H
set_option maxHeartbeats 4000000 in
theorem ok_have_size (T : Txt K mg) : FnOk P w K mg base CX0 1 T.f_have_size T.d_have_size ["one", "other", "size"] (sp_have_size T) := by
  refine T.F_have_size.ok sc_have_size (fun vs H Q E h => ?_) (fun cdv A outer s H vs Q E hr h => ?_)
  · obtain ⟨t, u, a, b, n, rfl, _⟩ := h
    rfl
  · obtain ⟨t, u, a, b, n, rfl, h1, h2, q⟩ := h
    refine ⟨_, (pss_one (ps_ret (pe_and (pe_cmpR op_eq (pe_callB call_len_seq (by rfl) T.m_len PySem.boot_len (pa_cons (pv 0) pa_nil)) (pv 2) (nomark _)) (pe_one (pe_cmpR op_eq (pe_callB call_len_seq (by rfl) T.m_len PySem.boot_len (pa_cons (pv 1) pa_nil)) (pv 2) (nomark _)))))), ?_⟩
    refine ⟨_, rfl, _, _, rfl, .inr (SqT.of h1), _, rfl, rfl, _, rfl, ?_⟩
    rw [List.length_map]
    by_cases c : (a.length : Int) = n
    · rw [decide_eq_true (congrArg V.int c)]
      refine iteT ⟨_, rfl, _, _, rfl, .inr (SqT.of h2), _, rfl, rfl, ?_⟩
      rw [List.length_map]
      rw [decide_eq_true c, Bool.true_and] at q
      have e : decide (V.int (b.length : Int) = V.int n) = decide ((b.length : Int) = n) := decide_eq_decide.mpr ⟨V.int.inj, congrArg V.int⟩
      rw [e]
      exact q
    · rw [decide_eq_false (fun h => c (V.int.inj h))]
      rw [decide_eq_false c, Bool.false_and] at q
      exact iteF q
def sp_numbers_at (T : Txt K mg) : Sp := fun vs H Q _ => ∃ (p l : Addr) (a : Pt) (xs : List Int) (k : Bool), vs = [.ref p, .ref l] ∧ (PtAt T.c_Part H p a) ∧ (H l = some (sq k (xs.map V.int))) ∧ (0 ≤ a.1) ∧ (a.1 + a.2.1.length ≤ xs.length) ∧ ∀ D H', Same H H' → (k = false → H D = none) → H' D = some (sq k ((cutI xs a.1.toNat a.2.1.length).map V.int)) → Q (.ref D) H'
set_option maxHeartbeats 4000000 in
theorem ok_numbers_at (T : Txt K mg) : FnOk P w K mg base CX0 3 T.f_numbers_at T.d_numbers_at ["part", "vector"] (sp_numbers_at T) := by
  have G_Part_after : FnOk P w K mg base CX0 1 T.f_Part_after T.d_Part_after ["self"] (sp_Part_after T) := ok_Part_after T
  refine T.F_numbers_at.ok sc_numbers_at (fun vs H Q E h => ?_) (fun cdv A outer s H vs Q E hr h => ?_)
  · obtain ⟨p, l, a, xs, k, rfl, _⟩ := h
    rfl
  · obtain ⟨p, l, a, xs, k, rfl, hp, hl, h0, h1, q⟩ := h
    refine ⟨_, (pss_one (ps_ret (pe_slice (SlR.or sl_list sl_tupA) (pv 1) (po_some (pe_fld (pv 0) rfl)) (po_some (pe_prop (pv 0) T.cl_Part T.pr_Part_after G_Part_after (hr.mono (by decide)) T.b_Part_after .nil pass0 rfl))))), ?_⟩
    obtain ⟨dx, tc, g1, g2⟩ := id hp
    have e : (a.1 + (a.2.1.length : Int)).toNat - a.1.toNat = a.2.1.length := by omega
    refine ⟨_, rfl, _, rfl, _, _, _, _, _, rfl, g1, T.cl_Part, T.n_Part_start, lk_Part_start, _, rfl, _, rfl, p, dx, _, rfl, g1, p, a, rfl, hp, _, rfl, ?_⟩
    cases k with
    | false =>
      refine .inl ⟨l, _, rfl, SqL.of hl, fun D nD => ?_⟩
      rw [cutV_ints h0 (by omega) h1, e]
      exact q D _ (same_new nD) (fun _ => nD) upd_same
    | true =>
      refine .inr ⟨l, _, rfl, SqT.of hl, fun w => ?_, fun _ D nD => ?_⟩
      · have c := cut_whole h0 (by omega) h1 w
        rw [e] at c
        refine q l H (Same.refl _) (fun z => nomatch z) ?_
        rw [c]
        exact hl
      · rw [cutV_ints h0 (by omega) h1, e]
        exact q D _ (same_new nD) (fun z => nomatch z) upd_same
def sp_ends_within (T : Txt K mg) : Sp := fun vs H Q _ => ∃ (p l : Addr) (a : Pt) (xs : List Int) (k : Bool), vs = [.ref p, .ref l] ∧ (PtAt T.c_Part H p a) ∧ (H l = some (sq k (xs.map V.int))) ∧ Q (.bl (endF xs.length a)) H
set_option maxHeartbeats 4000000 in
theorem ok_ends_within (T : Txt K mg) : FnOk P w K mg base CX0 3 T.f_ends_within T.d_ends_within ["part", "vector"] (sp_ends_within T) := by
  have G_Part_after : FnOk P w K mg base CX0 1 T.f_Part_after T.d_Part_after ["self"] (sp_Part_after T) := ok_Part_after T
  refine T.F_ends_within.ok sc_ends_within (fun vs H Q E h => ?_) (fun cdv A outer s H vs Q E hr h => ?_)
  · obtain ⟨p, l, a, xs, k, rfl, _⟩ := h
    rfl
  · obtain ⟨p, l, a, xs, k, rfl, hp, hl, q⟩ := h
    refine ⟨_, (pss_one (ps_ret (pe_and (pe_cmpR op_ge (pe_fld (pv 0) rfl) pe_int (nomark _)) (pe_one (pe_cmpR op_le (pe_prop (pv 0) T.cl_Part T.pr_Part_after G_Part_after (hr.mono (by decide)) T.b_Part_after .nil pass0 rfl) (pe_callB call_len_seq (by rfl) T.m_len PySem.boot_len (pa_cons (pv 1) pa_nil)) (nomark _)))))), ?_⟩
    obtain ⟨dx, tc, g1, g2⟩ := id hp
    refine ⟨_, rfl, _, _, _, _, _, rfl, g1, T.cl_Part, T.n_Part_start, lk_Part_start, _, _, rfl, rfl, _, rfl, ?_⟩
    unfold endF at q
    by_cases c : 0 ≤ a.1
    · rw [decide_eq_true c, Bool.true_and] at q
      rw [decide_eq_true c]
      refine iteT ⟨_, rfl, p, dx, _, rfl, g1, p, a, rfl, hp, _, rfl, _, _, rfl, sq_len hl, _, _, rfl, rfl, ?_⟩
      rw [List.length_map]
      exact q
    · rw [decide_eq_false c, Bool.false_and] at q
      rw [decide_eq_false c]
      exact iteF q
def sp_Fact_least_distance (T : Txt K mg) : Sp := fun vs H Q _ => ∃ (x q : V), vs = [x, q] ∧ Q (.int 0) H
set_option maxHeartbeats 4000000 in
theorem ok_Fact_least_distance (T : Txt K mg) : FnOk P w K mg base CX0 1 T.f_Fact_least_distance T.d_Fact_least_distance ["self", "q"] (sp_Fact_least_distance T) := by
  refine T.F_Fact_least_distance.ok sc_Fact_least_distance (fun vs H Q E h => ?_) (fun cdv A outer s H vs Q E hr h => ?_)
  · obtain ⟨x, q, rfl, _⟩ := h
    rfl
  · obtain ⟨x, q, rfl, q⟩ := h
    refine ⟨_, (pss_one (ps_ret pe_int)), ?_⟩
    exact q
def sp_all_end_within (T : Txt K mg) : Sp := fun vs H Q _ => ∃ (t l : Addr) (as : List Addr) (ps : List Pt) (xs : List Int), vs = [.ref t, .ref l] ∧ (H t = some (.tup (as.map V.ref))) ∧ (PtsAt T.c_Part H as ps) ∧ (H l = some (.lst (xs.map V.int))) ∧ (ps.length ≤ 1000) ∧ ∀ H', Same H H' → Q (.bl (ps.all (endF xs.length))) H'
set_option maxHeartbeats 4000000 in
theorem ok_all_end_within (T : Txt K mg) : FnOk P w K mg base CX0 4 T.f_all_end_within T.d_all_end_within ["parts", "vector"] (sp_all_end_within T) := by
  have G_ends_within : FnOk P w K mg base CX0 3 T.f_ends_within T.d_ends_within ["part", "vector"] (sp_ends_within T) := ok_ends_within T
  refine T.F_all_end_within.ok sc_all_end_within (fun vs H Q E h => ?_) (fun cdv A outer s H vs Q E hr h => ?_)
  · obtain ⟨t, l, as, ps, xs, rfl, _⟩ := h
    rfl
  · obtain ⟨t, l, as, ps, xs, rfl, ht, hp, hl, l8, q⟩ := h
    refine ⟨_, (pss_one (ps_ret (pe_callB (cr_all rfl) (by rfl) T.m_all (by decide +kernel) (pa_cons (pe_lc (own := [("part", 2)]) (g := gName 2) rfl sc_all_end_within.nd (pi_tup (pv 0)) (blkOk_by (own := [("part", 2)]) (N := ["parts", "vector", "part"]) (sc := defScope s_all_end_within) (by decide +kernel)) (fun _ _ _ _ _ => (pg_name (i := 2) sc_all_end_within.nd rfl (Or.inl rfl))) (fun _ _ _ _ _ => pts_nil) (fun _ _ _ _ _ => (pe_call G_ends_within (hr.mono (by decide)) (by rfl) T.g_ends_within T.F_ends_within.kp T.b_ends_within .nil pass0 (pa_cons (pv 2) (pa_cons (pv 1) pa_nil))))) pa_nil)))), ?_⟩
    refine ⟨_, rfl, t, rfl, ⟨_, SqT.of ht⟩, fun D hD => ?_⟩
    refine lc_tup (K := K) (a := t) (xs := as.map V.ref) (fun i H' => Same H H' ∧ H' D = some (.lst (((ps.take i).map (endF xs.length)).map V.bl))) ⟨same_new hD, upd_same⟩ (fun i H' _ h => SqT.of (h.1 _ _ ht)) ?_ ?_
    · rintro i v H1 hi ⟨sm, hD1⟩
      obtain ⟨a, rfl, ha⟩ := ref_get hi
      obtain ⟨p, ep⟩ : ∃ p, ps[i]? = some p := ⟨ps[i]'(by have := (List.getElem?_eq_some_iff.mp ha).1; have := hp.1; omega), List.getElem?_eq_getElem _⟩
      refine ⟨rfl, _, rfl, _, rfl, a, l, p, xs, false, rfl, (hp.2 i a p ha ep).same sm, sm _ _ hl, _, hD1, ?_, same_set sm hD, ?_⟩
      · rw [List.length_map, List.length_map, List.length_take]
        exact len_le (by omega)
      · rw [upd_same, List.take_add_one, ep, List.map_append, List.map_append]
        rfl
    · rintro H1 ⟨sm, hD1⟩
      rw [List.length_map, hp.1, List.take_length] at hD1
      refine ⟨D, _, rfl, SqL.of hD1, ?_⟩
      rw [List.all_map]
      exact q H1 sm
def sp_are_apart (T : Txt K mg) : Sp := fun vs H Q _ => ∃ (t : Addr) (as : List Addr) (ps : List Pt), vs = [.ref t] ∧ (H t = some (.tup (as.map V.ref))) ∧ (PtsAt T.c_Part H as ps) ∧ Q (.bl (apartF ps 0)) H
set_option maxHeartbeats 4000000 in
theorem ok_are_apart (T : Txt K mg) : FnOk P w K mg base CX0 3 T.f_are_apart T.d_are_apart ["parts"] (sp_are_apart T) := by
  have G_Part_after : FnOk P w K mg base CX0 1 T.f_Part_after T.d_Part_after ["self"] (sp_Part_after T) := ok_Part_after T
  refine T.F_are_apart.ok sc_are_apart (fun vs H Q E h => ?_) (fun cdv A outer s H vs Q E hr h => ?_)
  · obtain ⟨t, as, ps, rfl, _⟩ := h
    rfl
  · obtain ⟨t, as, ps, rfl, ht, hp, q⟩ := h
    refine ⟨_, (pss_cons (ps_set (i := 1) sc_are_apart.nd rfl (.inl rfl) pe_int) 
      (pss_cons (ps_for PassesOwn.never rfl (pi_tup (pv 0)) (pg_name (i := 2) sc_are_apart.nd rfl (.inl rfl)) (pss_cons (ps_if (pt_cmpR op_lt (pe_fld (pv 2) rfl) (pv 1) (nomark _)) (pss_one (ps_ret pe_bl)) pss_nil) 
      (pss_one (ps_set (i := 1) sc_are_apart.nd rfl (.inl rfl) (pe_prop (pv 2) T.cl_Part T.pr_Part_after G_Part_after (hr.mono (by decide)) T.b_Part_after .nil pass0 rfl))))) 
      (pss_one (ps_ret pe_bl)))), ?_⟩
    refine ⟨_, rfl, t, rfl, ⟨_, SqT.of ht⟩, ?_⟩
    refine for_tup (K := K) (a := t) (xs := as.map V.ref) (fun i σ H' => H' = H ∧ ∃ e : Int, apartF ps 0 = apartF (ps.drop i) e ∧ ∃ (y2 : Option V), σ = [some (.ref t), some (.int e), y2]) ⟨rfl, 0, by simp, none, rfl⟩ (fun i σ H' _ h => by rw [h.1]; exact SqT.of ht) ?_ ?_
    · rintro i v σ H' hi ⟨rfl, e, he, y2, rfl⟩
      obtain ⟨a, rfl, ha⟩ := ref_get hi
      obtain ⟨p, ep⟩ : ∃ p, ps[i]? = some p := ⟨ps[i]'(by have := (List.getElem?_eq_some_iff.mp ha).1; have := hp.1; omega), List.getElem?_eq_getElem _⟩
      have hP := hp.2 i a p ha ep
      obtain ⟨dx, tc, g1, g2⟩ := id hP
      have ed : ps.drop i = p :: ps.drop (i + 1) := by
        have := (List.getElem?_eq_some_iff.mp ep).1
        rw [List.drop_eq_getElem_cons this, (List.getElem?_eq_some_iff.mp ep).2]
      rw [ed, apartF_cons] at he
      refine ⟨_, rfl, _, _, _, _, _, rfl, g1, T.cl_Part, T.n_Part_start, lk_Part_start, _, rfl, _, _, rfl, rfl, _, rfl, ?_⟩
      by_cases c : p.1 < e
      · rw [if_pos c] at he
        rw [decide_eq_true c]
        rw [he] at q
        exact iteT q
      · rw [if_neg c] at he
        rw [decide_eq_false c]
        exact iteF ⟨_, rfl, a, dx, _, rfl, g1, a, p, rfl, hP, rfl, _, he, _, rfl⟩
    · rintro σ H' ⟨rfl, e, he, y2, rfl⟩
      rw [List.length_map, hp.1, List.drop_length] at he
      rw [he] at q
      exact q
def sp_Parts_least_distance (T : Txt K mg) : Sp := fun vs H Q _ => ∃ (p l : Addr) (ps : List Pt) (xs : List Int), vs = [.ref p, .ref l] ∧ (FAt T H p (.parts ps)) ∧ (VFOk (.parts ps)) ∧ (H l = some (.lst (xs.map V.int))) ∧ (VecOk xs) ∧ ∀ H', Same H H' → Q (.int (leastP ps xs)) H'
set_option maxHeartbeats 8000000 in
theorem ok_Parts_least_distance (T : Txt K mg) : FnOk P w K mg base CX0 5 T.f_Parts_least_distance T.d_Parts_least_distance ["self", "q"] (sp_Parts_least_distance T) := by
  have G_numbers_at : FnOk P w K mg base CX0 3 T.f_numbers_at T.d_numbers_at ["part", "vector"] (sp_numbers_at T) := ok_numbers_at T
  have G_distance : FnOk P w K mg base CX0 1 T.f_distance T.d_distance ["a", "b"] (sp_distance T) := ok_distance T
  have G_gap : FnOk P w K mg base CX0 2 T.f_gap T.d_gap ["far", "near"] (sp_gap T) := ok_gap T
  have G_are_apart : FnOk P w K mg base CX0 3 T.f_are_apart T.d_are_apart ["parts"] (sp_are_apart T) := ok_are_apart T
  have G_all_end_within : FnOk P w K mg base CX0 4 T.f_all_end_within T.d_all_end_within ["parts", "vector"] (sp_all_end_within T) := ok_all_end_within T
  refine T.F_Parts_least_distance.ok sc_Parts_least_distance (fun vs H Q E h => ?_) (fun cdv A outer s H vs Q E hr h => ?_)
  · obtain ⟨p, l, ps, xs, rfl, _⟩ := h
    rfl
  · obtain ⟨p, l, ps, xs, rfl, hp, ok, hl, vk, q⟩ := h
    refine ⟨_, (pss_cons (ps_if (PW.pt (pw_or (pt_not (pt_truth (pe_call G_all_end_within (hr.mono (by decide)) (by rfl) T.g_all_end_within T.F_all_end_within.kp T.b_all_end_within .nil pass0 (pa_cons (pe_fld (pv 0) rfl) (pa_cons (pv 1) pa_nil))) (by intro _; rfl))) (pw_or1 (pt_not (pt_truth (pe_call G_are_apart (hr.mono (by decide)) (by rfl) T.g_are_apart T.F_are_apart.kp T.b_are_apart .nil pass0 (pa_cons (pe_fld (pv 0) rfl) pa_nil)) (by intro _; rfl)))))) (pss_one (ps_ret pe_int)) pss_nil) 
      (pss_one (ps_ret (pe_callB (cr_sum rfl) (by rfl) T.m_sum (by decide +kernel) (pa_cons (pe_lc (own := [("part", 2)]) (g := gName 2) rfl sc_Parts_least_distance.nd (pi_tup (pe_fld (pv 0) rfl)) (blkOk_by (own := [("part", 2)]) (N := ["self", "q", "part"]) (sc := defScope s_Parts_least_distance) (by decide +kernel)) (fun _ _ _ _ _ => (pg_name (i := 2) sc_Parts_least_distance.nd rfl (Or.inl rfl))) (fun _ _ _ _ _ => pts_nil) (fun _ _ _ _ _ => (pe_call G_gap (hr.mono (by decide)) (by rfl) T.g_gap T.F_gap.kp T.b_gap .nil pass0 (pa_cons (pe_call G_distance (hr.mono (by decide)) (by rfl) T.g_distance T.F_distance.kp T.b_distance .nil pass0 (pa_cons (pe_fldB (K := K) rfl (by exact (pv 2)) rfl) (pa_cons (pe_call G_numbers_at (hr.mono (by decide)) (by rfl) T.g_numbers_at T.F_numbers_at.kp T.b_numbers_at .nil pass0 (pa_cons (pv 2) (pa_cons (pv 1) pa_nil))) pa_nil))) (pa_cons (pe_fldB (K := K) rfl (by exact (pv 2)) rfl) pa_nil))))) pa_nil))))), ?_⟩
    obtain ⟨dx, t, as, g1, g2, g3⟩ := id hp
    have l8 := ok.1
    have lv := vk.1
    refine ⟨_, rfl, _, _, _, _, _, rfl, g1, T.cl_Parts, T.n_Parts_parts, lk_Parts_parts, _, rfl, t, l, as, ps, xs, rfl, g2, g3, hl, by omega, fun H1 s1 => ⟨_, rfl, ?_⟩⟩
    unfold leastP at q
    cases e1 : ps.all (endF xs.length) with
    | false =>
      rw [e1, if_neg (fun h => Bool.false_ne_true h.1)] at q
      exact iteT (q H1 s1)
    | true =>
      rw [e1] at q
      refine iteF ⟨_, rfl, _, _, _, _, _, rfl, (s1 _ _ g1), T.cl_Parts, T.n_Parts_parts, lk_Parts_parts, t, as, ps, rfl, s1 _ _ g2, g3.same s1, _, rfl, ?_⟩
      cases e2 : apartF ps 0 with
      | false =>
        rw [e2, if_neg (fun h => Bool.false_ne_true h.2)] at q
        exact iteT (q H1 s1)
      | true =>
        rw [e2, if_pos ⟨rfl, rfl⟩] at q
        refine iteF ⟨_, rfl, _, _, _, _, _, rfl, (s1 _ _ g1), T.cl_Parts, T.n_Parts_parts, lk_Parts_parts, t, rfl, ⟨_, SqT.of (s1 _ _ g2)⟩, fun D hD => ?_⟩
        refine lc_tup (K := K) (a := t) (xs := as.map V.ref) (fun i H' => Same H1 H' ∧ H' D = some (.lst (((ps.take i).map (gap1 xs)).map V.int))) ⟨same_new hD, by rw [upd_same]; rfl⟩ (fun i H' _ h => SqT.of (h.1 _ _ (s1 _ _ g2))) ?_ ?_
        · rintro i v H2 hi ⟨sm, hD1⟩
          obtain ⟨a, rfl, ha⟩ := ref_get hi
          obtain ⟨p, ep⟩ : ∃ p, ps[i]? = some p := ⟨ps[i]'(by have := (List.getElem?_eq_some_iff.mp ha).1; have := g3.1; omega), List.getElem?_eq_getElem _⟩
          have hP := (g3.2 i a p ha ep).same (s1.trans sm)
          obtain ⟨dy, tc, k1, k2⟩ := id hP
          have en := endF_of (List.all_eq_true.mp e1 p (List.mem_of_getElem? ep))
          have pk := ok.2 p (List.mem_of_getElem? ep)
          have hl2 := sm _ _ (s1 _ _ hl)
          refine ⟨rfl, _, rfl, _, _, _, _, _, rfl, k1, T.cl_Part, T.n_Part_centre, lk_Part_centre, _, rfl, _, rfl, a, l, p, xs, false, rfl, hP, hl2, en.1, en.2, fun C H3 s3 nC hC => ?_⟩
          have lc : (cutI xs p.1.toNat p.2.1.length).length = p.2.1.length := cutI_len (by omega)
          have vc := vk.cut p.1.toNat p.2.1.length
          have lc2 := pk.2.2.1.1
          refine ⟨sT tc, sL C, p.2.1, _, rfl, sqx_t (s3 _ _ k2), sqx_l hC, lc.symm, by omega, pk.2.2.1.2.wide (by decide), vc.2.wide (by decide), fun H4 s4 => ?_⟩
          have b := sq_bd pk.2.2.1 vc
          have b1 := pk.2.2.2
          refine ⟨_, rfl, _, _, _, _, _, rfl, (s4 _ _ (s3 _ _ k1)), T.cl_Part, T.n_Part_radius, lk_Part_radius, _, _, rfl, b.1, by omega, b1.1, by omega, ?_⟩
          have sm4 := sm.trans (s3.trans s4)
          refine ⟨_, s4 _ _ (s3 _ _ hD1), ?_, same_set sm4 hD, ?_⟩
          · rw [List.length_map, List.length_map, List.length_take]
            exact len_le (by omega)
          · rw [upd_same, List.take_add_one, ep, List.map_append, List.map_append]
            rfl
        · rintro H2 ⟨sm, hD1⟩
          rw [List.length_map, g3.1, List.take_length] at hD1
          exact ⟨D, _, rfl, SqL.of hD1, q H2 (s1.trans sm)⟩
def sp_split (T : Txt K mg) : Sp := fun vs H Q _ => ∃ (d e f : Int), vs = [.int d, .int e, .int f] ∧ (0 ≤ d) ∧ (d < 1000000000000) ∧ (0 ≤ e) ∧ (0 ≤ f) ∧ (f < 1000000000000) ∧ Q (.int (splitZ d e f)) H
set_option maxHeartbeats 4000000 in
theorem ok_split (T : Txt K mg) : FnOk P w K mg base CX0 1 T.f_split T.d_split ["d", "e", "f"] (sp_split T) := by
  refine T.F_split.ok sc_split (fun vs H Q E h => ?_) (fun cdv A outer s H vs Q E hr h => ?_)
  · obtain ⟨d, e, f, rfl, _⟩ := h
    rfl
  · obtain ⟨d, e, f, rfl, d0, d1, e0, f0, f1, q⟩ := h
    refine ⟨_, (pss_cons (ps_if (PW.pt (pw_or (pt_cmpR op_ge (pv 1) (pv 0) (nomark _)) (pw_or1 (pt_cmpR op_eq (pv 2) pe_int (nomark _))))) (pss_one (ps_ret pe_int)) pss_nil) 
      (pss_one (ps_ret (pe_un un_neg (pe_op op_fdivW (pe_un un_neg (pe_op op_mul (pe_op op_sub (pv 0) (pv 1)) (pe_op op_sub (pv 0) (pv 1)))) (pe_op op_mul pe_int (pv 2))))))), ?_⟩
    have main : ¬ (e ≥ d ∨ f = 0) → splitZ d e f = -((-((d - e) * (d - e))) / (4 * f)) := fun c => by unfold splitZ; rw [if_neg c]
    have zero : (e ≥ d ∨ f = 0) → splitZ d e f = 0 := fun c => by unfold splitZ; rw [if_pos c]
    refine ⟨_, rfl, _, rfl, _, _, rfl, rfl, _, rfl, ?_⟩
    by_cases c1 : d ≤ e
    · rw [decide_eq_true c1]
      refine iteT ?_
      show Q (.int 0) H
      rw [← zero (.inl c1)]
      exact q
    · rw [decide_eq_false c1]
      refine iteF ?_
      refine ⟨_, rfl, rfl, _, rfl, ?_⟩
      by_cases c2 : f = 0
      · rw [decide_eq_true (congrArg V.int c2)]
        refine iteT ?_
        show Q (.int 0) H
        rw [← zero (.inr c2)]
        exact q
      · rw [decide_eq_false (fun z => c2 (V.int.inj z))]
        refine iteF ?_
        refine ⟨_, rfl, _, rfl, _, _, rfl, rfl, _, rfl, _, rfl, _, _, rfl, rfl, _, _, rfl, rfl, .inl ⟨by omega, by omega⟩, _, rfl, _, rfl, _, _, rfl, rfl, .inl ⟨by decide, by decide⟩, _, _, rfl, rfl, ?_, _, rfl, ?_⟩
        · exact wide_div (b := 64) (by omega) (by omega) (by decide) (by decide)
        · have g := main (fun z => z.elim (fun z => c1 z) c2)
          rw [g] at q
          exact q
def sp_Cell_least_distance (T : Txt K mg) : Sp := fun vs H Q _ => ∃ (p l : Addr) (a b : List Int) (xs : List Int), vs = [.ref p, .ref l] ∧ (FAt T H p (.cell a b)) ∧ (VFOk (.cell a b)) ∧ (H l = some (.lst (xs.map V.int))) ∧ (VecOk xs) ∧ ∀ H', Same H H' → Q (.int (leastC a b xs)) H'
set_option maxHeartbeats 4000000 in
theorem ok_Cell_least_distance (T : Txt K mg) : FnOk P w K mg base CX0 2 T.f_Cell_least_distance T.d_Cell_least_distance ["self", "q"] (sp_Cell_least_distance T) := by
  have G_distance : FnOk P w K mg base CX0 1 T.f_distance T.d_distance ["a", "b"] (sp_distance T) := ok_distance T
  have G_split : FnOk P w K mg base CX0 1 T.f_split T.d_split ["d", "e", "f"] (sp_split T) := ok_split T
  have G_have_size : FnOk P w K mg base CX0 1 T.f_have_size T.d_have_size ["one", "other", "size"] (sp_have_size T) := ok_have_size T
  refine T.F_Cell_least_distance.ok sc_Cell_least_distance (fun vs H Q E h => ?_) (fun cdv A outer s H vs Q E hr h => ?_)
  · obtain ⟨p, l, a, b, xs, rfl, _⟩ := h
    rfl
  · obtain ⟨p, l, a, b, xs, rfl, hp, ok, hl, vk, q⟩ := h
    refine ⟨_, (pss_cons (ps_if (pt_not (pt_truth (pe_call G_have_size (hr.mono (by decide)) (by rfl) T.g_have_size T.F_have_size.kp T.b_have_size .nil pass0 (pa_cons (pe_fld (pv 0) rfl) (pa_cons (pe_fld (pv 0) rfl) (pa_cons (pe_callB call_len_seq (by rfl) T.m_len PySem.boot_len (pa_cons (pv 1) pa_nil)) pa_nil)))) (by intro _; rfl))) (pss_one (ps_ret pe_int)) pss_nil) 
      (pss_one (ps_ret (pe_call G_split (hr.mono (by decide)) (by rfl) T.g_split T.F_split.kp T.b_split .nil pass0 (pa_cons (pe_call G_distance (hr.mono (by decide)) (by rfl) T.g_distance T.F_distance.kp T.b_distance .nil pass0 (pa_cons (pv 1) (pa_cons (pe_fld (pv 0) rfl) pa_nil))) (pa_cons (pe_call G_distance (hr.mono (by decide)) (by rfl) T.g_distance T.F_distance.kp T.b_distance .nil pass0 (pa_cons (pv 1) (pa_cons (pe_fld (pv 0) rfl) pa_nil))) (pa_cons (pe_call G_distance (hr.mono (by decide)) (by rfl) T.g_distance T.F_distance.kp T.b_distance .nil pass0 (pa_cons (pe_fld (pv 0) rfl) (pa_cons (pe_fld (pv 0) rfl) pa_nil))) pa_nil))))))), ?_⟩
    obtain ⟨dx, t, u, g1, g2, g3⟩ := id hp
    have lv := vk.1
    refine ⟨_, rfl, _, _, _, _, _, rfl, g1, T.cl_Cell, T.n_Cell_near, lk_Cell_near, _, rfl, _, _, _, _, _, rfl, g1, T.cl_Cell, T.n_Cell_rival, lk_Cell_rival, _, rfl, _, _, rfl, .inl (SqL.of hl), t, u, a, b, _, rfl, g2, g3, _, rfl, ?_⟩
    rw [List.length_map]
    unfold leastC at q

    by_cases c : a.length = xs.length ∧ b.length = xs.length
    rotate_left
    · rw [if_neg c] at q
      have e : (decide ((a.length : Int) = (xs.length : Int)) && decide ((b.length : Int) = (xs.length : Int))) = false := by
        rw [Bool.and_eq_false_iff, decide_eq_false_iff_not, decide_eq_false_iff_not]
        omega
      rw [e]
      exact iteT (q H (Same.refl _))
    rw [if_pos c] at q
    obtain ⟨c1, c2⟩ := c
    have e : (decide ((a.length : Int) = (xs.length : Int)) && decide ((b.length : Int) = (xs.length : Int))) = true := by
      rw [Bool.and_eq_true, decide_eq_true_iff, decide_eq_true_iff]
      omega
    rw [e]

    refine iteF ⟨_, rfl, _, rfl, _, _, _, _, _, rfl, g1, T.cl_Cell, T.n_Cell_near, lk_Cell_near, sL l, sT t, _, _, rfl, sqx_l hl, sqx_t g2, by omega, by omega, vk.2.wide (by decide), ok.1.2.wide (by decide), fun H1 s1 => ?_⟩
    refine ⟨_, rfl, _, rfl, _, _, _, _, _, rfl, (s1 _ _ g1), T.cl_Cell, T.n_Cell_rival, lk_Cell_rival, sL l, sT u, _, _, rfl, sqx_l (s1 _ _ hl), sqx_t (s1 _ _ g3), by omega, by omega, vk.2.wide (by decide), ok.2.2.wide (by decide), fun H2 s2 => ?_⟩
    have s12 := s1.trans s2
    refine ⟨_, rfl, _, _, _, _, _, rfl, (s12 _ _ g1), T.cl_Cell, T.n_Cell_near, lk_Cell_near, _, rfl, _, _, _, _, _, rfl, (s12 _ _ g1), T.cl_Cell, T.n_Cell_rival, lk_Cell_rival, sT t, sT u, _, _, rfl, sqx_t (s12 _ _ g2), sqx_t (s12 _ _ g3), by omega, by omega, ok.1.2.wide (by decide), ok.2.2.wide (by decide), fun H3 s3 => ?_⟩
    have b1 := sq_bd vk ok.1
    have b2 := sq_bd vk ok.2
    have b3 := sq_bd ok.1 ok.2
    exact ⟨_, _, _, rfl, b1.1, by omega, b2.1, b3.1, by omega, q H3 (s12.trans s3)⟩
def sp_number_outside (T : Txt K mg) : Sp := fun vs H Q _ => ∃ (lo x hi : Int), vs = [.int lo, .int x, .int hi] ∧ Q (.int (outF lo x hi)) H
set_option maxHeartbeats 4000000 in
theorem ok_number_outside (T : Txt K mg) : FnOk P w K mg base CX0 1 T.f_number_outside T.d_number_outside ["low", "number", "high"] (sp_number_outside T) := by
  refine T.F_number_outside.ok sc_number_outside (fun vs H Q E h => ?_) (fun cdv A outer s H vs Q E hr h => ?_)
  · obtain ⟨lo, x, hi, rfl, _⟩ := h
    rfl
  · obtain ⟨lo, x, hi, rfl, q⟩ := h
    refine ⟨_, (pss_cons (ps_if (pt_cmpR op_lt (pv 1) (pv 0) (nomark _)) (pss_one (ps_ret (pe_op op_sub (pv 0) (pv 1)))) pss_nil) 
      (pss_one (ps_ret (pe_callB (call_max2 rfl) (by rfl) T.m_max (by decide +kernel) (pa_cons pe_int (pa_cons (pe_op op_sub (pv 1) (pv 2)) pa_nil)))))), ?_⟩
    refine ⟨_, rfl, _, rfl, _, _, rfl, rfl, _, rfl, ?_⟩
    unfold outF at q
    by_cases c : x < lo
    · rw [if_pos c] at q
      rw [decide_eq_true c]
      exact iteT ⟨_, rfl, _, rfl, _, _, rfl, rfl, q⟩
    · rw [if_neg c] at q
      rw [decide_eq_false c]
      exact iteF ⟨_, rfl, _, rfl, _, _, rfl, rfl, _, _, rfl, q⟩
def sp_Box_least_distance (T : Txt K mg) : Sp := fun vs H Q _ => ∃ (p l : Addr) (a b : List Int) (xs : List Int), vs = [.ref p, .ref l] ∧ (FAt T H p (.box a b)) ∧ (VFOk (.box a b)) ∧ (H l = some (.lst (xs.map V.int))) ∧ (VecOk xs) ∧ ∀ H', Same H H' → Q (.int (leastB a b xs)) H'
set_option maxHeartbeats 4000000 in
theorem ok_Box_least_distance (T : Txt K mg) : FnOk P w K mg base CX0 3 T.f_Box_least_distance T.d_Box_least_distance ["self", "q"] (sp_Box_least_distance T) := by
  have G_norm : FnOk P w K mg base CX0 2 T.f_norm T.d_norm ["a"] (sp_norm T) := ok_norm T
  have G_number_outside : FnOk P w K mg base CX0 1 T.f_number_outside T.d_number_outside ["low", "number", "high"] (sp_number_outside T) := ok_number_outside T
  have G_have_size : FnOk P w K mg base CX0 1 T.f_have_size T.d_have_size ["one", "other", "size"] (sp_have_size T) := ok_have_size T
  refine T.F_Box_least_distance.ok sc_Box_least_distance (fun vs H Q E h => ?_) (fun cdv A outer s H vs Q E hr h => ?_)
  · obtain ⟨p, l, a, b, xs, rfl, _⟩ := h
    rfl
  · obtain ⟨p, l, a, b, xs, rfl, hp, ok, hl, vk, q⟩ := h
    refine ⟨_, (pss_cons (ps_if (pt_not (pt_truth (pe_call G_have_size (hr.mono (by decide)) (by rfl) T.g_have_size T.F_have_size.kp T.b_have_size .nil pass0 (pa_cons (pe_fld (pv 0) rfl) (pa_cons (pe_fld (pv 0) rfl) (pa_cons (pe_callB call_len_seq (by rfl) T.m_len PySem.boot_len (pa_cons (pv 1) pa_nil)) pa_nil)))) (by intro _; rfl))) (pss_one (ps_ret pe_int)) pss_nil) 
      (pss_cons (ps_setLc (i := 2) (own := [("low", 3), ("number", 4), ("high", 5)]) (g := gTup K 3 (gCons (gName 3) (gCons (gName 4) (gCons (gName 5) gNil)))) rfl sc_Box_least_distance.nd rfl rfl (sw_true rfl rfl rfl (by decide +kernel)) (ZN.pi_zip3 (by rfl) T.m_zip (pa_cons (pe_fld (pv 0) rfl) (pa_cons (pv 1) (pa_cons (pe_fld (pv 0) rfl) pa_nil)))) (blkOk_by (own := [("low", 3), ("number", 4), ("high", 5)]) (N := ["self", "q", "outside", "low", "number", "high"]) (sc := defScope s_Box_least_distance) (by decide +kernel)) (fun _ _ _ _ _ => (by exact (pg_tup rfl (pgs_cons (pg_name (i := 3) sc_Box_least_distance.nd rfl (Or.inl rfl)) (pgs_cons (pg_name (i := 4) sc_Box_least_distance.nd rfl (Or.inl rfl)) (pgs_cons (pg_name (i := 5) sc_Box_least_distance.nd rfl (Or.inl rfl)) pgs_nil)))))) (fun _ _ _ _ _ => pts_nil) (fun _ _ _ _ _ => (pe_call G_number_outside (hr.mono (by decide)) (by rfl) T.g_number_outside T.F_number_outside.kp T.b_number_outside .nil pass0 (pa_cons (pv 3) (pa_cons (pv 4) (pa_cons (pv 5) pa_nil)))))) 
      (pss_one (ps_ret (pe_call G_norm (hr.mono (by decide)) (by rfl) T.g_norm T.F_norm.kp T.b_norm .nil pass0 (pa_cons (pv 2) pa_nil)))))), ?_⟩
    obtain ⟨dx, t, u, g1, g2, g3⟩ := id hp
    have lv := vk.1
    refine ⟨_, rfl, _, _, _, _, _, rfl, g1, T.cl_Box, T.n_Box_low, lk_Box_low, _, rfl, _, _, _, _, _, rfl, g1, T.cl_Box, T.n_Box_high, lk_Box_high, _, rfl, _, _, rfl, .inl (SqL.of hl), t, u, a, b, _, rfl, g2, g3, _, rfl, ?_⟩
    rw [List.length_map]
    unfold leastB at q

    by_cases c : a.length = xs.length ∧ b.length = xs.length
    rotate_left
    · rw [if_neg c] at q
      have e : (decide ((a.length : Int) = (xs.length : Int)) && decide ((b.length : Int) = (xs.length : Int))) = false := by
        rw [Bool.and_eq_false_iff, decide_eq_false_iff_not, decide_eq_false_iff_not]
        omega
      rw [e]
      exact iteT (q H (Same.refl _))
    rw [if_pos c] at q
    obtain ⟨c1, c2⟩ := c
    have e : (decide ((a.length : Int) = (xs.length : Int)) && decide ((b.length : Int) = (xs.length : Int))) = true := by
      rw [Bool.and_eq_true, decide_eq_true_iff, decide_eq_true_iff]
      omega
    rw [e]

    refine iteF ⟨_, rfl, _, _, _, _, _, rfl, g1, T.cl_Box, T.n_Box_low, lk_Box_low, _, rfl, _, rfl, _, _, _, _, _, rfl, g1, T.cl_Box, T.n_Box_high, lk_Box_high, sT t, sL l, sT u, _, _, _, rfl, sqx_t g2, sqx_l hl, sqx_t g3, fun D hD => ?_⟩
    have ln3 := ter3_len (f := outF) (xs := a) (ys := xs) (zs := b) (by omega) (by omega)
    refine lc_it (ZN.walk3 (K := K) (x := sT t) (y := sL l) (z := sT u) (xs := a.map V.int) (ys := xs.map V.int) (zs := b.map V.int) (by simp [c1]) (by simp [c1, c2])) (fun i H' => Same H H' ∧ H' D = some (.lst (((ter3 outF a xs b).take i).map V.int))) ⟨same_new hD, by rw [upd_same]; rfl⟩
      (fun i H' _ h => ⟨sqx_t (h.1 _ _ g2), sqx_l (h.1 _ _ hl), sqx_t (h.1 _ _ g3)⟩) ?_ ?_
    · rintro i v H1 H2 hi ⟨sm, hD1⟩ ⟨P, x1, x2, x3, rfl, nP, rfl, e1, e2, e3⟩
      obtain ⟨lo, rfl, hlo⟩ := get_map e1
      obtain ⟨x, rfl, hx⟩ := get_map e2
      obtain ⟨hi', rfl, hhi⟩ := get_map e3
      rw [List.length_map] at hi
      have nDP : D ≠ P := ne_of_none hD1 nP
      refine ⟨P, _, rfl, .inl (.inl upd_same), rfl, _, _, rfl, _, _, rfl, _, _, rfl, rfl, rfl, ?_⟩
      refine ⟨_, rfl, _, rfl, _, rfl, lo, x, hi', rfl, ?_⟩
      refine ⟨_, by rw [upd_ne nDP]; exact hD1, ?_, same_set (sm.trans (same_new nP)) hD, ?_⟩
      · rw [List.length_map, List.length_take]
        exact len_le (by omega)
      · rw [upd_same, List.take_add_one, ter3_get hlo hx hhi, List.map_append]
        rfl
    · rintro H1 ⟨sm, hD1⟩
      rw [List.length_map, ← ln3, List.take_length] at hD1
      refine ⟨_, rfl, sL D, _, rfl, sqx_l hD1, by omega, out_bd ok.1.2 vk.2 ok.2.2, fun H2 s2 => q H2 (sm.trans s2)⟩
def sp_Norms_least_distance (T : Txt K mg) : Sp := fun vs H Q _ => ∃ (p l : Addr) (a b : Int) (xs : List Int), vs = [.ref p, .ref l] ∧ (FAt T H p (.norms a b)) ∧ (VFOk (.norms a b)) ∧ (H l = some (.lst (xs.map V.int))) ∧ (VecOk xs) ∧ (0 ≤ b) ∧ ∀ H', Same H H' → Q (.int (leastN a b xs)) H'
set_option maxHeartbeats 4000000 in
theorem ok_Norms_least_distance (T : Txt K mg) : FnOk P w K mg base CX0 3 T.f_Norms_least_distance T.d_Norms_least_distance ["self", "q"] (sp_Norms_least_distance T) := by
  have G_gap : FnOk P w K mg base CX0 2 T.f_gap T.d_gap ["far", "near"] (sp_gap T) := ok_gap T
  have G_norm : FnOk P w K mg base CX0 2 T.f_norm T.d_norm ["a"] (sp_norm T) := ok_norm T
  refine T.F_Norms_least_distance.ok sc_Norms_least_distance (fun vs H Q E h => ?_) (fun cdv A outer s H vs Q E hr h => ?_)
  · obtain ⟨p, l, a, b, xs, rfl, _⟩ := h
    rfl
  · obtain ⟨p, l, a, b, xs, rfl, hp, ok, hl, vk, nok, q⟩ := h
    refine ⟨_, (pss_cons (ps_set (i := 2) sc_Norms_least_distance.nd rfl (.inl rfl) (pe_call G_norm (hr.mono (by decide)) (by rfl) T.g_norm T.F_norm.kp T.b_norm .nil pass0 (pa_cons (pv 1) pa_nil))) 
      (pss_cons (ps_if (pt_cmpR op_lt (pe_fld (pv 0) rfl) (pv 2) (nomark _)) (pss_one (ps_ret (pe_call G_gap (hr.mono (by decide)) (by rfl) T.g_gap T.F_gap.kp T.b_gap .nil pass0 (pa_cons (pv 2) (pa_cons (pe_fld (pv 0) rfl) pa_nil))))) pss_nil) 
      (pss_cons (ps_if (pt_cmpR op_lt (pv 2) (pe_fld (pv 0) rfl) (nomark _)) (pss_one (ps_ret (pe_call G_gap (hr.mono (by decide)) (by rfl) T.g_gap T.F_gap.kp T.b_gap .nil pass0 (pa_cons (pe_fld (pv 0) rfl) (pa_cons (pv 2) pa_nil))))) pss_nil) 
      (pss_one (ps_ret pe_int))))), ?_⟩
    obtain ⟨dx, g1⟩ := id hp
    obtain ⟨a1, a2, b1, b2⟩ := ok
    refine ⟨_, rfl, sL l, xs, rfl, sqx_l hl, Nat.le_trans vk.1 (by decide), vk.2.wide (by decide), fun H1 s1 => ?_⟩
    have bb := inner_bd vk vk
    have b0 := ter_sq_nn xs
    unfold leastN at q
    generalize (ter fMul xs xs).sum = L at q bb b0 ⊢
    refine ⟨_, rfl, _, _, _, _, _, rfl, (s1 _ _ g1), T.cl_Norms, T.n_Norms_high, lk_Norms_high, _, rfl, _, _, rfl, rfl, _, rfl, ?_⟩
    by_cases c : b < L
    · rw [if_pos c] at q
      rw [decide_eq_true c]
      exact iteT ⟨_, rfl, _, rfl, _, _, _, _, _, rfl, (s1 _ _ g1), T.cl_Norms, T.n_Norms_high, lk_Norms_high, _, _, rfl, b0, by omega, nok, by omega, q H1 s1⟩
    rw [if_neg c] at q
    rw [decide_eq_false c]
    refine iteF ⟨_, rfl, _, rfl, _, _, _, _, _, rfl, (s1 _ _ g1), T.cl_Norms, T.n_Norms_low, lk_Norms_low, _, _, rfl, rfl, _, rfl, ?_⟩
    by_cases c2 : L < a
    · rw [if_pos c2] at q
      rw [decide_eq_true c2]
      exact iteT ⟨_, rfl, _, _, _, _, _, rfl, (s1 _ _ g1), T.cl_Norms, T.n_Norms_low, lk_Norms_low, _, rfl, _, _, rfl, by omega, by omega, b0, by omega, q H1 s1⟩
    · rw [if_neg c2] at q
      rw [decide_eq_false c2]
      exact iteF (q H1 s1)
def sp_Fact_least_differing (T : Txt K mg) : Sp := fun vs H Q _ => ∃ (p l : Addr) (f : VF) (xs : List Int), vs = [.ref p, .ref l] ∧ (FAt T H p f) ∧ (VFOk f) ∧ (∀ c m, f ≠ .differ c m) ∧ (NormOk f) ∧ (H l = some (.lst (xs.map V.int))) ∧ (VecOk xs) ∧ ∀ H', Same H H' → Q (.int (leastZ xs f)) H'
set_option maxHeartbeats 4000000 in
theorem ok_Fact_least_differing (T : Txt K mg) : FnOk P w K mg base CX0 6 T.f_Fact_least_differing T.d_Fact_least_differing ["self", "q"] (sp_Fact_least_differing T) := by
  have G_Parts_least_distance : FnOk P w K mg base CX0 5 T.f_Parts_least_distance T.d_Parts_least_distance ["self", "q"] (sp_Parts_least_distance T) := ok_Parts_least_distance T
  have G_Cell_least_distance : FnOk P w K mg base CX0 2 T.f_Cell_least_distance T.d_Cell_least_distance ["self", "q"] (sp_Cell_least_distance T) := ok_Cell_least_distance T
  have G_Box_least_distance : FnOk P w K mg base CX0 3 T.f_Box_least_distance T.d_Box_least_distance ["self", "q"] (sp_Box_least_distance T) := ok_Box_least_distance T
  have G_Norms_least_distance : FnOk P w K mg base CX0 3 T.f_Norms_least_distance T.d_Norms_least_distance ["self", "q"] (sp_Norms_least_distance T) := ok_Norms_least_distance T
  refine T.F_Fact_least_differing.ok sc_Fact_least_differing (fun vs H Q E h => ?_) (fun cdv A outer s H vs Q E hr h => ?_)
  · obtain ⟨p, l, f, xs, rfl, _⟩ := h
    rfl
  · obtain ⟨p, l, f, xs, rfl, hp, ok, nd, nok, hl, vk, q⟩ := h
    refine ⟨_, (pss_one (ps_ret (pe_or2 (pe_meth (pv 0) T.cl_Parts T.me_Parts_least_distance G_Parts_least_distance (hr.mono (by decide)) T.b_Parts_least_distance .nil pass0 (pa_cons (pv 1) pa_nil)) (pe_or2 (pe_meth (pv 0) T.cl_Cell T.me_Cell_least_distance G_Cell_least_distance (hr.mono (by decide)) T.b_Cell_least_distance .nil pass0 (pa_cons (pv 1) pa_nil)) (pe_or2 (pe_meth (pv 0) T.cl_Box T.me_Box_least_distance G_Box_least_distance (hr.mono (by decide)) T.b_Box_least_distance .nil pass0 (pa_cons (pv 1) pa_nil)) (pe_meth (pv 0) T.cl_Norms T.me_Norms_least_distance G_Norms_least_distance (hr.mono (by decide)) T.b_Norms_least_distance .nil pass0 (pa_cons (pv 1) pa_nil))))))), ?_⟩
    cases f with
    | parts ps =>
      obtain ⟨dx, t, as, g1, g2, g3⟩ := id hp
      exact .inl (⟨_, rfl, p, dx, _, rfl, g1, no_Parts, _, rfl, p, l, ps, xs, rfl, hp, ok, hl, vk, q⟩)
    | cell a b =>
      obtain ⟨dx, t, u, g1, g2, g3⟩ := id hp
      exact .inr (.inl (⟨_, rfl, p, dx, _, rfl, g1, no_Cell, _, rfl, p, l, a, b, xs, rfl, hp, ok, hl, vk, q⟩))
    | box a b =>
      obtain ⟨dx, t, u, g1, g2, g3⟩ := id hp
      exact .inr (.inr (.inl (⟨_, rfl, p, dx, _, rfl, g1, no_Box, _, rfl, p, l, a, b, xs, rfl, hp, ok, hl, vk, q⟩)))
    | norms a b =>
      obtain ⟨dx, g1⟩ := id hp
      exact .inr (.inr (.inr (⟨_, rfl, p, dx, _, rfl, g1, no_Norms, _, rfl, p, l, a, b, xs, rfl, hp, ok, hl, vk, nok a b rfl, q⟩)))
    | differ c m => exact absurd rfl (nd c m)
def sp_Differ_least_differing (T : Txt K mg) : Sp := fun vs H Q _ => ∃ (p l : Addr) (c : List Int) (m : Int) (xs : List Int), vs = [.ref p, .ref l] ∧ (FAt T H p (.differ c m)) ∧ (VFOk (.differ c m)) ∧ (H l = some (.lst (xs.map V.int))) ∧ (VecOk xs) ∧ ∀ H', Same H H' → Q (.int (diffD c m xs)) H'
set_option maxHeartbeats 4000000 in
theorem ok_Differ_least_differing (T : Txt K mg) : FnOk P w K mg base CX0 2 T.f_Differ_least_differing T.d_Differ_least_differing ["self", "q"] (sp_Differ_least_differing T) := by
  have G_differing : FnOk P w K mg base CX0 1 T.f_differing T.d_differing ["a", "b"] (sp_differing T) := ok_differing T
  refine T.F_Differ_least_differing.ok sc_Differ_least_differing (fun vs H Q E h => ?_) (fun cdv A outer s H vs Q E hr h => ?_)
  · obtain ⟨p, l, c, m, xs, rfl, _⟩ := h
    rfl
  · obtain ⟨p, l, c, m, xs, rfl, hp, ok, hl, vk, q⟩ := h
    refine ⟨_, (pss_cons (ps_if (pt_cmpR op_ne (pe_callB call_len_seq (by rfl) T.m_len PySem.boot_len (pa_cons (pe_fld (pv 0) rfl) pa_nil)) (pe_callB call_len_seq (by rfl) T.m_len PySem.boot_len (pa_cons (pv 1) pa_nil)) (nomark _)) (pss_one (ps_ret pe_int)) pss_nil) 
      (pss_one (ps_ret (pe_callB (call_max2 rfl) (by rfl) T.m_max (by decide +kernel) (pa_cons pe_int (pa_cons (pe_op op_sub (pe_call G_differing (hr.mono (by decide)) (by rfl) T.g_differing T.F_differing.kp T.b_differing .nil pass0 (pa_cons (pv 1) (pa_cons (pe_fld (pv 0) rfl) pa_nil))) (pe_fld (pv 0) rfl)) pa_nil)))))), ?_⟩
    obtain ⟨dx, t, g1, g2⟩ := id hp
    have lv := vk.1
    unfold diffD at q
    refine ⟨_, rfl, _, _, _, _, _, rfl, g1, T.cl_Differ, T.n_Differ_centre, lk_Differ_centre, _, _, rfl, .inr (SqT.of g2), _, rfl, _, _, rfl, .inl (SqL.of hl), rfl, _, rfl, ?_⟩
    rw [List.length_map, List.length_map]
    by_cases e : c.length = xs.length
    rotate_left
    · rw [if_neg e] at q
      rw [decide_eq_false (fun h => e (by have := V.int.inj h; omega))]
      exact iteT (q H (Same.refl _))
    rw [if_pos e] at q
    rw [decide_eq_true (congrArg V.int (by omega : (c.length : Int) = xs.length))]
    refine iteF ⟨_, rfl, _, rfl, _, _, _, _, _, rfl, g1, T.cl_Differ, T.n_Differ_centre, lk_Differ_centre, sL l, sT t, _, _, rfl, sqx_l hl, sqx_t g2, by omega, by omega, vk.2.wide (by decide), ok.1.2.wide (by decide), fun H1 s1 => ?_⟩
    exact ⟨_, rfl, _, _, _, _, _, rfl, (s1 _ _ g1), T.cl_Differ, T.n_Differ_most, lk_Differ_most, _, _, rfl, rfl, _, _, rfl, q H1 s1⟩
def sp_Fact_most_product (T : Txt K mg) : Sp := fun vs H Q _ => ∃ (x q : V), vs = [x, q] ∧ Q .non H
set_option maxHeartbeats 4000000 in
theorem ok_Fact_most_product (T : Txt K mg) : FnOk P w K mg base CX0 1 T.f_Fact_most_product T.d_Fact_most_product ["self", "q"] (sp_Fact_most_product T) := by
  refine T.F_Fact_most_product.ok sc_Fact_most_product (fun vs H Q E h => ?_) (fun cdv A outer s H vs Q E hr h => ?_)
  · obtain ⟨x, q, rfl, _⟩ := h
    rfl
  · obtain ⟨x, q, rfl, q⟩ := h
    refine ⟨_, (pss_one (ps_ret pe_non)), ?_⟩
    exact q
def sp_make_up (T : Txt K mg) : Sp := fun vs H Q _ => ∃ (t : Addr) (as : List Addr) (ps : List Pt) (n : Int), vs = [.ref t, .int n] ∧ (H t = some (.tup (as.map V.ref))) ∧ (PtsAt T.c_Part H as ps) ∧ Q (.bl (mkUp ps 0 n)) H
set_option maxHeartbeats 4000000 in
theorem ok_make_up (T : Txt K mg) : FnOk P w K mg base CX0 3 T.f_make_up T.d_make_up ["parts", "size"] (sp_make_up T) := by
  have G_Part_after : FnOk P w K mg base CX0 1 T.f_Part_after T.d_Part_after ["self"] (sp_Part_after T) := ok_Part_after T
  refine T.F_make_up.ok sc_make_up (fun vs H Q E h => ?_) (fun cdv A outer s H vs Q E hr h => ?_)
  · obtain ⟨t, as, ps, n, rfl, _⟩ := h
    rfl
  · obtain ⟨t, as, ps, n, rfl, ht, hp, q⟩ := h
    refine ⟨_, (pss_cons (ps_set (i := 2) sc_make_up.nd rfl (.inl rfl) pe_int) 
      (pss_cons (ps_for PassesOwn.never rfl (pi_tup (pv 0)) (pg_name (i := 3) sc_make_up.nd rfl (.inl rfl)) (pss_cons (ps_if (pt_cmpR op_ne (pe_fld (pv 3) rfl) (pv 2) (nomark _)) (pss_one (ps_ret pe_bl)) pss_nil) 
      (pss_one (ps_set (i := 2) sc_make_up.nd rfl (.inl rfl) (pe_prop (pv 3) T.cl_Part T.pr_Part_after G_Part_after (hr.mono (by decide)) T.b_Part_after .nil pass0 rfl))))) 
      (pss_one (ps_ret (pe_cmpR op_eq (pv 2) (pv 1) (nomark _)))))), ?_⟩
    refine ⟨_, rfl, t, rfl, ⟨_, SqT.of ht⟩, ?_⟩
    refine for_tup (K := K) (a := t) (xs := as.map V.ref) (fun i σ H' => H' = H ∧ ∃ e : Int, mkUp ps 0 n = mkUp (ps.drop i) e n ∧ ∃ (y3 : Option V), σ = [some (.ref t), some (.int n), some (.int e), y3]) ⟨rfl, 0, by simp, none, rfl⟩ (fun i σ H' _ h => by rw [h.1]; exact SqT.of ht) ?_ ?_
    · rintro i v σ H' hi ⟨rfl, e, he, y3, rfl⟩
      obtain ⟨a, rfl, ha⟩ := ref_get hi
      obtain ⟨p, ep⟩ : ∃ p, ps[i]? = some p := ⟨ps[i]'(by have := (List.getElem?_eq_some_iff.mp ha).1; have := hp.1; omega), List.getElem?_eq_getElem _⟩
      have hP := hp.2 i a p ha ep
      obtain ⟨dx, tc, g1, g2⟩ := id hP
      have ed : ps.drop i = p :: ps.drop (i + 1) := by
        have := (List.getElem?_eq_some_iff.mp ep).1
        rw [List.drop_eq_getElem_cons this, (List.getElem?_eq_some_iff.mp ep).2]
      rw [ed, mkUp_cons] at he
      refine ⟨_, rfl, _, _, _, _, _, rfl, g1, T.cl_Part, T.n_Part_start, lk_Part_start, _, rfl, rfl, _, rfl, ?_⟩
      by_cases c : p.1 = e
      · rw [if_pos c] at he
        rw [decide_eq_true (congrArg V.int c)]
        refine iteF ⟨_, rfl, a, dx, _, rfl, g1, a, p, rfl, hP, rfl, _, he, _, rfl⟩
      · rw [if_neg c] at he
        rw [decide_eq_false (fun h => c (V.int.inj h))]
        rw [he] at q
        exact iteT q
    · rintro σ H' ⟨rfl, e, he, y3, rfl⟩
      rw [List.length_map, hp.1, List.drop_length] at he
      refine ⟨_, rfl, _, rfl, rfl, ?_⟩
      have e2 : decide (V.int e = V.int n) = decide (e = n) := decide_eq_decide.mpr ⟨V.int.inj, congrArg V.int⟩
      rw [e2]
      rw [he] at q
      exact q
def sp_most_product_of (T : Txt K mg) : Sp := fun vs H Q _ => ∃ (p l : Addr) (a : Pt) (xs : List Int), vs = [.ref p, .ref l] ∧ (PtAt T.c_Part H p a) ∧ (H l = some (.lst (xs.map V.int))) ∧ (xs.length = a.2.1.length) ∧ (PtOk a) ∧ (VecOk xs) ∧ ∀ H', Same H H' → Q (.int ((ter fMul a.2.1 xs).sum + rootZ ((ter fMul xs xs).sum * a.2.2))) H'
set_option maxHeartbeats 4000000 in
theorem ok_most_product_of (T : Txt K mg) : FnOk P w K mg base CX0 3 T.f_most_product_of T.d_most_product_of ["part", "numbers"] (sp_most_product_of T) := by
  have G_inner : FnOk P w K mg base CX0 1 T.f_inner T.d_inner ["a", "b"] (sp_inner T) := ok_inner T
  have G_norm : FnOk P w K mg base CX0 2 T.f_norm T.d_norm ["a"] (sp_norm T) := ok_norm T
  have G_root : FnOk P w K mg base CX0 1 T.f_root T.d_root ["number"] (sp_root T) := ok_root T
  refine T.F_most_product_of.ok sc_most_product_of (fun vs H Q E h => ?_) (fun cdv A outer s H vs Q E hr h => ?_)
  · obtain ⟨p, l, a, xs, rfl, _⟩ := h
    rfl
  · obtain ⟨p, l, a, xs, rfl, hp, hl, hn, ok, vk, q⟩ := h
    refine ⟨_, (pss_one (ps_ret (pe_op op_add (pe_call G_inner (hr.mono (by decide)) (by rfl) T.g_inner T.F_inner.kp T.b_inner .nil pass0 (pa_cons (pe_fld (pv 0) rfl) (pa_cons (pv 1) pa_nil))) (pe_call G_root (hr.mono (by decide)) (by rfl) T.g_root T.F_root.kp T.b_root .nil pass0 (pa_cons (pe_op op_mul (pe_call G_norm (hr.mono (by decide)) (by rfl) T.g_norm T.F_norm.kp T.b_norm .nil pass0 (pa_cons (pv 1) pa_nil)) (pe_fld (pv 0) rfl)) pa_nil))))), ?_⟩
    obtain ⟨dx, tc, g1, g2⟩ := id hp
    obtain ⟨k1, k2, k3, k4, k5⟩ := ok
    refine ⟨_, rfl, _, _, _, _, _, rfl, g1, T.cl_Part, T.n_Part_centre, lk_Part_centre, _, rfl, sT tc, sL l, a.2.1, xs, rfl, sqx_t g2, sqx_l hl, hn.symm, Nat.le_trans k3.1 (by decide), k3.2.wide (by decide), vk.2.wide (by decide), fun H1 s1 => ?_⟩
    refine ⟨_, rfl, sL l, xs, rfl, sqx_l (s1 _ _ hl), Nat.le_trans vk.1 (by decide), vk.2.wide (by decide), fun H2 s2 => ?_⟩
    have b := inner_bd vk vk
    have b0 := ter_sq_nn xs
    have m0 := Int.mul_nonneg b0 k4
    have m1 : (ter fMul xs xs).sum * a.2.2 ≤ 120000000000 * 1000000000 := Int.mul_le_mul b.2 k5 k4 (by decide)
    refine ⟨_, rfl, _, _, _, _, _, rfl, (s2 _ _ (s1 _ _ g1)), T.cl_Part, T.n_Part_radius, lk_Part_radius, _, _, rfl, rfl, .inl ⟨by omega, by omega⟩, _, rfl, by omega, _, _, rfl, rfl, ?_⟩
    exact q H2 (s1.trans s2)
def sp_Parts_most_product (T : Txt K mg) : Sp := fun vs H Q _ => ∃ (p l : Addr) (ps : List Pt) (xs : List Int), vs = [.ref p, .ref l] ∧ (FAt T H p (.parts ps)) ∧ (H l = some (.lst (xs.map V.int))) ∧ (VFOk (.parts ps)) ∧ (VecOk xs) ∧ ∀ H', Same H H' → Q (optV (prodP ps xs)) H'
set_option maxHeartbeats 4000000 in
theorem ok_Parts_most_product (T : Txt K mg) : FnOk P w K mg base CX0 4 T.f_Parts_most_product T.d_Parts_most_product ["self", "q"] (sp_Parts_most_product T) := by
  have G_numbers_at : FnOk P w K mg base CX0 3 T.f_numbers_at T.d_numbers_at ["part", "vector"] (sp_numbers_at T) := ok_numbers_at T
  have G_most_product_of : FnOk P w K mg base CX0 3 T.f_most_product_of T.d_most_product_of ["part", "numbers"] (sp_most_product_of T) := ok_most_product_of T
  have G_make_up : FnOk P w K mg base CX0 3 T.f_make_up T.d_make_up ["parts", "size"] (sp_make_up T) := ok_make_up T
  refine T.F_Parts_most_product.ok sc_Parts_most_product (fun vs H Q E h => ?_) (fun cdv A outer s H vs Q E hr h => ?_)
  · obtain ⟨p, l, ps, xs, rfl, _⟩ := h
    rfl
  · obtain ⟨p, l, ps, xs, rfl, hp, hl, ok, vk, q⟩ := h
    refine ⟨_, (pss_cons (ps_if (pt_not (pt_truth (pe_call G_make_up (hr.mono (by decide)) (by rfl) T.g_make_up T.F_make_up.kp T.b_make_up .nil pass0 (pa_cons (pe_fld (pv 0) rfl) (pa_cons (pe_callB call_len_seq (by rfl) T.m_len PySem.boot_len (pa_cons (pv 1) pa_nil)) pa_nil))) (by intro _; rfl))) (pss_one (ps_ret pe_non)) pss_nil) 
      (pss_one (ps_ret (pe_callB (cr_sum rfl) (by rfl) T.m_sum (by decide +kernel) (pa_cons (pe_lc (own := [("part", 2)]) (g := gName 2) rfl sc_Parts_most_product.nd (pi_tup (pe_fld (pv 0) rfl)) (blkOk_by (own := [("part", 2)]) (N := ["self", "q", "part"]) (sc := defScope s_Parts_most_product) (by decide +kernel)) (fun _ _ _ _ _ => (pg_name (i := 2) sc_Parts_most_product.nd rfl (Or.inl rfl))) (fun _ _ _ _ _ => pts_nil) (fun _ _ _ _ _ => (pe_call G_most_product_of (hr.mono (by decide)) (by rfl) T.g_most_product_of T.F_most_product_of.kp T.b_most_product_of .nil pass0 (pa_cons (pv 2) (pa_cons (pe_call G_numbers_at (hr.mono (by decide)) (by rfl) T.g_numbers_at T.F_numbers_at.kp T.b_numbers_at .nil pass0 (pa_cons (pv 2) (pa_cons (pv 1) pa_nil))) pa_nil))))) pa_nil))))), ?_⟩
    obtain ⟨dx, t, as, g1, g2, g3⟩ := id hp
    refine ⟨_, rfl, _, _, _, _, _, rfl, g1, T.cl_Parts, T.n_Parts_parts, lk_Parts_parts, _, rfl, _, _, rfl, .inl (SqL.of hl), t, as, ps, _, rfl, g2, g3, _, rfl, ?_⟩
    rw [List.length_map]
    unfold prodP at q
    cases e : mkUp ps 0 (xs.length : Int) with
    | false =>
      rw [e, if_neg Bool.false_ne_true] at q
      exact iteT (q H (Same.refl _))
    | true =>
      rw [e, if_pos rfl] at q
      refine iteF ⟨_, rfl, _, _, _, _, _, rfl, g1, T.cl_Parts, T.n_Parts_parts, lk_Parts_parts, t, rfl, ⟨_, SqT.of g2⟩, fun D hD => ?_⟩
      refine lc_tup (K := K) (a := t) (xs := as.map V.ref) (fun i H' => Same H H' ∧ H' D = some (.lst (((ps.take i).map (prod1 xs)).map V.int))) ⟨same_new hD, by rw [upd_same]; rfl⟩ (fun i H' _ h => SqT.of (h.1 _ _ g2)) ?_ ?_
      · rintro i v H1 hi ⟨sm, hD1⟩
        obtain ⟨a, rfl, ha⟩ := ref_get hi
        obtain ⟨p, ep⟩ : ∃ p, ps[i]? = some p := ⟨ps[i]'(by have := (List.getElem?_eq_some_iff.mp ha).1; have := g3.1; omega), List.getElem?_eq_getElem _⟩
        have hP := (g3.2 i a p ha ep).same sm
        have en := mkUp_ends e (Int.le_refl 0) ep
        have l8 := ok.1
        refine ⟨rfl, _, rfl, _, rfl, _, rfl, a, l, p, xs, false, rfl, hP, sm _ _ hl, en.1, en.2, fun C H2 s2 nC hC => ?_⟩
        have lc : (cutI xs p.1.toNat p.2.1.length).length = p.2.1.length := cutI_len (by omega)
        refine ⟨a, C, p, _, rfl, hP.same s2, hC, lc, ok.2 p (List.mem_of_getElem? ep), vk.cut _ _, fun H3 s3 => ?_⟩
        have sm3 := sm.trans (s2.trans s3)
        refine ⟨_, s3 _ _ (s2 _ _ hD1), ?_, same_set sm3 hD, ?_⟩
        · rw [List.length_map, List.length_map, List.length_take]
          exact len_le (by omega)
        · rw [upd_same, List.take_add_one, ep, List.map_append, List.map_append]
          rfl
      · rintro H1 ⟨sm, hD1⟩
        rw [List.length_map, g3.1, List.take_length] at hD1
        exact ⟨D, _, rfl, SqL.of hD1, q H1 sm⟩
def sp_Box_most_product (T : Txt K mg) : Sp := fun vs H Q _ => ∃ (p l : Addr) (a b : List Int) (xs : List Int), vs = [.ref p, .ref l] ∧ (FAt T H p (.box a b)) ∧ (H l = some (.lst (xs.map V.int))) ∧ (VFOk (.box a b)) ∧ (VecOk xs) ∧ ∀ H', Same H H' → Q (optV (prodB a b xs)) H'
set_option maxHeartbeats 4000000 in
theorem ok_Box_most_product (T : Txt K mg) : FnOk P w K mg base CX0 2 T.f_Box_most_product T.d_Box_most_product ["self", "q"] (sp_Box_most_product T) := by
  have G_have_size : FnOk P w K mg base CX0 1 T.f_have_size T.d_have_size ["one", "other", "size"] (sp_have_size T) := ok_have_size T
  refine T.F_Box_most_product.ok sc_Box_most_product (fun vs H Q E h => ?_) (fun cdv A outer s H vs Q E hr h => ?_)
  · obtain ⟨p, l, a, b, xs, rfl, _⟩ := h
    rfl
  · obtain ⟨p, l, a, b, xs, rfl, hp, hl, ok, vk, q⟩ := h
    refine ⟨_, (pss_cons (ps_if (pt_not (pt_truth (pe_call G_have_size (hr.mono (by decide)) (by rfl) T.g_have_size T.F_have_size.kp T.b_have_size .nil pass0 (pa_cons (pe_fld (pv 0) rfl) (pa_cons (pe_fld (pv 0) rfl) (pa_cons (pe_callB call_len_seq (by rfl) T.m_len PySem.boot_len (pa_cons (pv 1) pa_nil)) pa_nil)))) (by intro _; rfl))) (pss_one (ps_ret pe_non)) pss_nil) 
      (pss_one (ps_ret (pe_callB (cr_sum rfl) (by rfl) T.m_sum (by decide +kernel) (pa_cons (pe_lc (own := [("low", 2), ("number", 3), ("high", 4)]) (g := gTup K 3 (gCons (gName 2) (gCons (gName 3) (gCons (gName 4) gNil)))) rfl sc_Box_most_product.nd (ZN.pi_zip3 (by rfl) T.m_zip (pa_cons (pe_fld (pv 0) rfl) (pa_cons (pv 1) (pa_cons (pe_fld (pv 0) rfl) pa_nil)))) (blkOk_by (own := [("low", 2), ("number", 3), ("high", 4)]) (N := ["self", "q", "low", "number", "high"]) (sc := defScope s_Box_most_product) (by decide +kernel)) (fun _ _ _ _ _ => (by exact (pg_tup rfl (pgs_cons (pg_name (i := 2) sc_Box_most_product.nd rfl (Or.inl rfl)) (pgs_cons (pg_name (i := 3) sc_Box_most_product.nd rfl (Or.inl rfl)) (pgs_cons (pg_name (i := 4) sc_Box_most_product.nd rfl (Or.inl rfl)) pgs_nil)))))) (fun _ _ _ _ _ => pts_nil) (fun _ _ _ _ _ => (pe_callB (call_max2 rfl) (by rfl) T.m_max (by decide +kernel) (pa_cons (pe_op op_mul (pv 2) (pv 3)) (pa_cons (pe_op op_mul (pv 4) (pv 3)) pa_nil))))) pa_nil))))), ?_⟩
    obtain ⟨dx, t, u, g1, g2, g3⟩ := id hp
    refine ⟨_, rfl, _, _, _, _, _, rfl, g1, T.cl_Box, T.n_Box_low, lk_Box_low, _, rfl, _, _, _, _, _, rfl, g1, T.cl_Box, T.n_Box_high, lk_Box_high, _, rfl, _, _, rfl, .inl (SqL.of hl), t, u, a, b, _, rfl, g2, g3, _, rfl, ?_⟩
    rw [List.length_map]
    unfold prodB at q
    by_cases c : a.length = xs.length ∧ b.length = xs.length
    rotate_left
    · rw [if_neg c] at q
      have e : (decide ((a.length : Int) = (xs.length : Int)) && decide ((b.length : Int) = (xs.length : Int))) = false := by
        rw [Bool.and_eq_false_iff, decide_eq_false_iff_not, decide_eq_false_iff_not]
        omega
      rw [e]
      exact iteT (q H (Same.refl _))
    rw [if_pos c] at q
    obtain ⟨c1, c2⟩ := c
    have e : (decide ((a.length : Int) = (xs.length : Int)) && decide ((b.length : Int) = (xs.length : Int))) = true := by
      rw [Bool.and_eq_true, decide_eq_true_iff, decide_eq_true_iff]
      omega
    rw [e]
    refine iteF ⟨_, rfl, _, _, _, _, _, rfl, g1, T.cl_Box, T.n_Box_low, lk_Box_low, _, rfl, _, rfl, _, _, _, _, _, rfl, g1, T.cl_Box, T.n_Box_high, lk_Box_high, sT t, sL l, sT u, _, _, _, rfl, sqx_t g2, sqx_l hl, sqx_t g3, fun D hD => ?_⟩
    refine lc_it (ZN.walk3 (K := K) (x := sT t) (y := sL l) (z := sT u) (xs := a.map V.int) (ys := xs.map V.int) (zs := b.map V.int) (by simp [c1]) (by simp [c1, c2])) (fun i H' => Same H H' ∧ H' D = some (.lst (((ter3 fBox a xs b).take i).map V.int))) ⟨same_new hD, by rw [upd_same]; rfl⟩
      (fun i H' _ h => ⟨sqx_t (h.1 _ _ g2), sqx_l (h.1 _ _ hl), sqx_t (h.1 _ _ g3)⟩) ?_ ?_
    · rintro i v H1 H2 hi ⟨sm, hD1⟩ ⟨P, x1, x2, x3, rfl, nP, rfl, e1, e2, e3⟩
      obtain ⟨lo, rfl, hlo⟩ := get_map e1
      obtain ⟨x, rfl, hx⟩ := get_map e2
      obtain ⟨hi', rfl, hhi⟩ := get_map e3
      have bl := ok.1.2.at hlo
      have bh := ok.2.2.at hhi
      have bx := vk.2.at hx
      have lv := vk.1
      rw [List.length_map] at hi
      have nDP : D ≠ P := ne_of_none hD1 nP
      refine ⟨P, _, rfl, .inl (.inl upd_same), rfl, _, _, rfl, _, _, rfl, _, _, rfl, rfl, rfl, ?_⟩
      refine ⟨_, rfl, _, rfl, _, _, rfl, rfl, .inl ⟨by omega, by omega⟩, _, rfl, _, rfl, _, _, rfl, rfl, .inl ⟨by omega, by omega⟩, _, _, rfl, ?_⟩
      refine ⟨_, by rw [upd_ne nDP]; exact hD1, ?_, same_set (sm.trans (same_new nP)) hD, ?_⟩
      · rw [List.length_map, List.length_take]
        exact len_le (by omega)
      · rw [upd_same, List.take_add_one, ter3_get hlo hx hhi, List.map_append]
        rfl
    · rintro H1 ⟨sm, hD1⟩
      rw [List.length_map, ← ter3_len (f := fBox) (xs := a) (ys := xs) (zs := b) (by omega) (by omega), List.take_length] at hD1
      exact ⟨D, _, rfl, SqL.of hD1, q H1 sm⟩
def sp_Norms_most_product (T : Txt K mg) : Sp := fun vs H Q _ => ∃ (p l : Addr) (a b : Int) (xs : List Int), vs = [.ref p, .ref l] ∧ (FAt T H p (.norms a b)) ∧ (H l = some (.lst (xs.map V.int))) ∧ (VFOk (.norms a b)) ∧ (VecOk xs) ∧ ∀ H', Same H H' → Q (.int (rootZ ((ter fMul xs xs).sum * b))) H'
set_option maxHeartbeats 4000000 in
theorem ok_Norms_most_product (T : Txt K mg) : FnOk P w K mg base CX0 3 T.f_Norms_most_product T.d_Norms_most_product ["self", "q"] (sp_Norms_most_product T) := by
  have G_norm : FnOk P w K mg base CX0 2 T.f_norm T.d_norm ["a"] (sp_norm T) := ok_norm T
  have G_root : FnOk P w K mg base CX0 1 T.f_root T.d_root ["number"] (sp_root T) := ok_root T
  refine T.F_Norms_most_product.ok sc_Norms_most_product (fun vs H Q E h => ?_) (fun cdv A outer s H vs Q E hr h => ?_)
  · obtain ⟨p, l, a, b, xs, rfl, _⟩ := h
    rfl
  · obtain ⟨p, l, a, b, xs, rfl, hp, hl, ok, vk, q⟩ := h
    refine ⟨_, (pss_one (ps_ret (pe_call G_root (hr.mono (by decide)) (by rfl) T.g_root T.F_root.kp T.b_root .nil pass0 (pa_cons (pe_op op_mul (pe_call G_norm (hr.mono (by decide)) (by rfl) T.g_norm T.F_norm.kp T.b_norm .nil pass0 (pa_cons (pv 1) pa_nil)) (pe_fld (pv 0) rfl)) pa_nil)))), ?_⟩
    obtain ⟨dx, g1⟩ := id hp
    obtain ⟨_, _, b1, b2⟩ := ok
    refine ⟨_, rfl, sL l, xs, rfl, sqx_l hl, Nat.le_trans vk.1 (by decide), vk.2.wide (by decide), fun H1 s1 => ?_⟩
    have bb := inner_bd vk vk
    have m := mul_bd (x := (ter fMul xs xs).sum) (y := b) (b := 120000000000) (by omega) (by omega) (by omega) (by omega)
    refine ⟨_, rfl, _, _, _, _, _, rfl, (s1 _ _ g1), T.cl_Norms, T.n_Norms_high, lk_Norms_high, _, _, rfl, rfl, .inl ⟨by omega, by omega⟩, _, rfl, by omega, q H1 s1⟩
def sp_is_near (T : Txt K mg) : Sp := fun vs H Q _ => ∃ (p l : Addr) (a : Pt) (xs : List Int) (k : Bool), vs = [.ref p, .ref l] ∧ (PtAt T.c_Part H p a) ∧ (H l = some (sq k (xs.map V.int))) ∧ (PtOk a) ∧ (VecOk xs) ∧ ∀ H', Same H H' → Q (.bl (nearB xs a)) H'
set_option maxHeartbeats 4000000 in
theorem ok_is_near (T : Txt K mg) : FnOk P w K mg base CX0 4 T.f_is_near T.d_is_near ["part", "vector"] (sp_is_near T) := by
  have G_numbers_at : FnOk P w K mg base CX0 3 T.f_numbers_at T.d_numbers_at ["part", "vector"] (sp_numbers_at T) := ok_numbers_at T
  have G_distance : FnOk P w K mg base CX0 1 T.f_distance T.d_distance ["a", "b"] (sp_distance T) := ok_distance T
  have G_ends_within : FnOk P w K mg base CX0 3 T.f_ends_within T.d_ends_within ["part", "vector"] (sp_ends_within T) := ok_ends_within T
  refine T.F_is_near.ok sc_is_near (fun vs H Q E h => ?_) (fun cdv A outer s H vs Q E hr h => ?_)
  · obtain ⟨p, l, a, xs, k, rfl, _⟩ := h
    rfl
  · obtain ⟨p, l, a, xs, k, rfl, hp, hl, ok, vk, q⟩ := h
    refine ⟨_, (pss_one (ps_ret (pe_and (pe_call G_ends_within (hr.mono (by decide)) (by rfl) T.g_ends_within T.F_ends_within.kp T.b_ends_within .nil pass0 (pa_cons (pv 0) (pa_cons (pv 1) pa_nil))) (pe_one (pe_cmpR op_le (pe_call G_distance (hr.mono (by decide)) (by rfl) T.g_distance T.F_distance.kp T.b_distance .nil pass0 (pa_cons (pe_fld (pv 0) rfl) (pa_cons (pe_call G_numbers_at (hr.mono (by decide)) (by rfl) T.g_numbers_at T.F_numbers_at.kp T.b_numbers_at .nil pass0 (pa_cons (pv 0) (pa_cons (pv 1) pa_nil))) pa_nil))) (pe_fld (pv 0) rfl) (nomark _)))))), ?_⟩
    obtain ⟨dx, tc, g1, g2⟩ := id hp
    refine ⟨_, rfl, _, rfl, p, l, a, xs, k, rfl, hp, hl, _, rfl, ?_⟩
    unfold nearB at q
    cases e : endF xs.length a with
    | false =>
      rw [e, Bool.false_and] at q
      exact iteF (q H (Same.refl _))
    | true =>
      rw [e, Bool.true_and] at q
      have en := endF_of e
      refine iteT ⟨_, rfl, _, _, _, _, _, rfl, g1, T.cl_Part, T.n_Part_centre, lk_Part_centre, _, rfl, _, rfl, p, l, a, xs, k, rfl, hp, hl, en.1, en.2, fun C H2 s2 _ hC => ?_⟩
      have lc : (cutI xs a.1.toNat a.2.1.length).length = a.2.1.length := cutI_len (by omega)
      have vc := vk.cut a.1.toNat a.2.1.length
      have l12 := ok.2.2.1.1
      refine ⟨sT tc, ⟨C, k⟩, a.2.1, _, rfl, sqx_t (s2 _ _ g2), sqx_k hC, lc.symm, by omega, ok.2.2.1.2.wide (by decide), vc.2.wide (by decide), fun H3 s3 => ?_⟩
      exact ⟨_, rfl, _, _, _, _, _, rfl, (s3 _ _ (s2 _ _ g1)), T.cl_Part, T.n_Part_radius, lk_Part_radius, _, _, rfl, rfl, q H3 (s2.trans s3)⟩
def sp_Parts_holds (T : Txt K mg) : Sp := fun vs H Q _ => ∃ (p r : Addr) (ps : List Pt) (xs : List Int), vs = [.ref p, .ref r] ∧ (FAt T H p (.parts ps)) ∧ (VFOk (.parts ps)) ∧ (RecV T H r xs) ∧ (VecOk xs) ∧ ∀ H', Same H H' → Q (.bl (holdsB xs (.parts ps))) H'
set_option maxHeartbeats 4000000 in
theorem ok_Parts_holds (T : Txt K mg) : FnOk P w K mg base CX0 5 T.f_Parts_holds T.d_Parts_holds ["self", "record"] (sp_Parts_holds T) := by
  have G_is_near : FnOk P w K mg base CX0 4 T.f_is_near T.d_is_near ["part", "vector"] (sp_is_near T) := ok_is_near T
  refine T.F_Parts_holds.ok sc_Parts_holds (fun vs H Q E h => ?_) (fun cdv A outer s H vs Q E hr h => ?_)
  · obtain ⟨p, r, ps, xs, rfl, _⟩ := h
    rfl
  · obtain ⟨p, r, ps, xs, rfl, hp, ok, hrc, vk, q⟩ := h
    refine ⟨_, (pss_one (ps_ret (pe_callB (cr_all rfl) (by rfl) T.m_all (by decide +kernel) (pa_cons (pe_lc (own := [("part", 2)]) (g := gName 2) rfl sc_Parts_holds.nd (pi_tup (pe_fld (pv 0) rfl)) (blkOk_by (own := [("part", 2)]) (N := ["self", "record", "part"]) (sc := defScope s_Parts_holds) (by decide +kernel)) (fun _ _ _ _ _ => (pg_name (i := 2) sc_Parts_holds.nd rfl (Or.inl rfl))) (fun _ _ _ _ _ => pts_nil) (fun _ _ _ _ _ => (pe_call G_is_near (hr.mono (by decide)) (by rfl) T.g_is_near T.F_is_near.kp T.b_is_near .nil pass0 (pa_cons (pv 2) (pa_cons (pe_fldB (K := K) rfl (by exact (pv 1)) rfl) pa_nil))))) pa_nil)))), ?_⟩
    obtain ⟨dx, t, as, g1, g2, g3⟩ := id hp
    obtain ⟨dy, z, tv, tf, tw, r1, r2⟩ := id hrc
    have l8 := ok.1
    refine ⟨_, rfl, _, _, _, _, _, rfl, g1, T.cl_Parts, T.n_Parts_parts, lk_Parts_parts, t, rfl, ⟨_, SqT.of g2⟩, fun D hD => ?_⟩
    refine lc_tup (K := K) (a := t) (xs := as.map V.ref) (fun i H' => Same H H' ∧ H' D = some (.lst (((ps.take i).map (nearB xs)).map V.bl))) ⟨same_new hD, by rw [upd_same]; rfl⟩ (fun i H' _ h => SqT.of (h.1 _ _ g2)) ?_ ?_
    · rintro i v H1 hi ⟨sm, hD1⟩
      obtain ⟨a, rfl, ha⟩ := ref_get hi
      obtain ⟨p, ep⟩ : ∃ p, ps[i]? = some p := ⟨ps[i]'(by have := (List.getElem?_eq_some_iff.mp ha).1; have := g3.1; omega), List.getElem?_eq_getElem _⟩
      have hP := (g3.2 i a p ha ep).same sm
      refine ⟨rfl, _, rfl, _, rfl, _, _, _, _, _, rfl, (sm _ _ r1), T.cl_Record, T.n_Record_vector, lk_Record_vector, a, tv, p, xs, true, rfl, hP, sm _ _ r2, ok.2 p (List.mem_of_getElem? ep), vk, fun H2 s2 => ?_⟩
      refine ⟨_, s2 _ _ hD1, ?_, same_set (sm.trans s2) hD, ?_⟩
      · rw [List.length_map, List.length_map, List.length_take]
        exact len_le (by omega)
      · rw [upd_same, List.take_add_one, ep, List.map_append, List.map_append]
        rfl
    · rintro H1 ⟨sm, hD1⟩
      rw [List.length_map, g3.1, List.take_length] at hD1
      refine ⟨D, _, rfl, SqL.of hD1, ?_⟩
      rw [List.all_map]
      exact q H1 sm
def sp_Cell_holds (T : Txt K mg) : Sp := fun vs H Q _ => ∃ (p r : Addr) (a b : List Int) (xs : List Int), vs = [.ref p, .ref r] ∧ (FAt T H p (.cell a b)) ∧ (VFOk (.cell a b)) ∧ (RecV T H r xs) ∧ (VecOk xs) ∧ ∀ H', Same H H' → Q (.bl (holdsB xs (.cell a b))) H'
set_option maxHeartbeats 4000000 in
theorem ok_Cell_holds (T : Txt K mg) : FnOk P w K mg base CX0 2 T.f_Cell_holds T.d_Cell_holds ["self", "record"] (sp_Cell_holds T) := by
  have G_distance : FnOk P w K mg base CX0 1 T.f_distance T.d_distance ["a", "b"] (sp_distance T) := ok_distance T
  have G_have_size : FnOk P w K mg base CX0 1 T.f_have_size T.d_have_size ["one", "other", "size"] (sp_have_size T) := ok_have_size T
  refine T.F_Cell_holds.ok sc_Cell_holds (fun vs H Q E h => ?_) (fun cdv A outer s H vs Q E hr h => ?_)
  · obtain ⟨p, r, a, b, xs, rfl, _⟩ := h
    rfl
  · obtain ⟨p, r, a, b, xs, rfl, hp, ok, hrc, vk, q⟩ := h
    refine ⟨_, (pss_cons (ps_set (i := 2) sc_Cell_holds.nd rfl (.inl rfl) (pe_fld (pv 1) rfl)) 
      (pss_cons (ps_if (pt_not (pt_truth (pe_call G_have_size (hr.mono (by decide)) (by rfl) T.g_have_size T.F_have_size.kp T.b_have_size .nil pass0 (pa_cons (pe_fld (pv 0) rfl) (pa_cons (pe_fld (pv 0) rfl) (pa_cons (pe_callB call_len_seq (by rfl) T.m_len PySem.boot_len (pa_cons (pv 2) pa_nil)) pa_nil)))) (by intro _; rfl))) (pss_one (ps_ret pe_bl)) pss_nil) 
      (pss_one (ps_ret (pe_cmpR op_le (pe_call G_distance (hr.mono (by decide)) (by rfl) T.g_distance T.F_distance.kp T.b_distance .nil pass0 (pa_cons (pv 2) (pa_cons (pe_fld (pv 0) rfl) pa_nil))) (pe_call G_distance (hr.mono (by decide)) (by rfl) T.g_distance T.F_distance.kp T.b_distance .nil pass0 (pa_cons (pv 2) (pa_cons (pe_fld (pv 0) rfl) pa_nil))) (nomark _)))))), ?_⟩
    obtain ⟨dx, t, u, g1, g2, g3⟩ := id hp
    obtain ⟨dy, z, tv, tf, tw, r1, r2⟩ := id hrc
    have lv := vk.1
    refine ⟨_, rfl, _, _, _, _, _, rfl, r1, T.cl_Record, T.n_Record_vector, lk_Record_vector, ?_⟩
    refine ⟨_, rfl, _, _, _, _, _, rfl, g1, T.cl_Cell, T.n_Cell_near, lk_Cell_near, _, rfl, _, _, _, _, _, rfl, g1, T.cl_Cell, T.n_Cell_rival, lk_Cell_rival, _, rfl, _, _, rfl, .inr (SqT.of r2), t, u, a, b, _, rfl, g2, g3, _, rfl, ?_⟩
    rw [List.length_map]

    by_cases c : a.length = xs.length ∧ b.length = xs.length
    rotate_left
    · have e : (decide ((a.length : Int) = (xs.length : Int)) && decide ((b.length : Int) = (xs.length : Int))) = false := by
        rw [Bool.and_eq_false_iff, decide_eq_false_iff_not, decide_eq_false_iff_not]
        omega
      have q' : Q (.bl (decide (a.length = xs.length ∧ b.length = xs.length) && decide ((ter fSq xs a).sum ≤ (ter fSq xs b).sum))) H := q H (Same.refl _)
      rw [decide_eq_false c, Bool.false_and] at q'
      rw [e]
      exact iteT q'
    have e : (decide ((a.length : Int) = (xs.length : Int)) && decide ((b.length : Int) = (xs.length : Int))) = true := by
      rw [Bool.and_eq_true, decide_eq_true_iff, decide_eq_true_iff]
      omega
    rw [e]
    replace q : ∀ H', Same H H' → Q (.bl (decide (a.length = xs.length ∧ b.length = xs.length) && decide ((ter fSq xs a).sum ≤ (ter fSq xs b).sum))) H' := q
    rw [decide_eq_true c, Bool.true_and] at q
    obtain ⟨c1, c2⟩ := c

    refine iteF ⟨_, rfl, _, rfl, _, _, _, _, _, rfl, g1, T.cl_Cell, T.n_Cell_near, lk_Cell_near, sT tv, sT t, _, _, rfl, sqx_t r2, sqx_t g2, by omega, by omega, vk.2.wide (by decide), ok.1.2.wide (by decide), fun H1 s1 => ?_⟩
    refine ⟨_, rfl, _, rfl, _, _, _, _, _, rfl, (s1 _ _ g1), T.cl_Cell, T.n_Cell_rival, lk_Cell_rival, sT tv, sT u, _, _, rfl, sqx_t (s1 _ _ r2), sqx_t (s1 _ _ g3), by omega, by omega, vk.2.wide (by decide), ok.2.2.wide (by decide), fun H2 s2 => ?_⟩
    exact ⟨_, _, rfl, rfl, q H2 (s1.trans s2)⟩
def sp_Box_holds (T : Txt K mg) : Sp := fun vs H Q _ => ∃ (p r : Addr) (a b : List Int) (xs : List Int), vs = [.ref p, .ref r] ∧ (FAt T H p (.box a b)) ∧ (VFOk (.box a b)) ∧ (RecV T H r xs) ∧ (VecOk xs) ∧ ∀ H', Same H H' → Q (.bl (holdsB xs (.box a b))) H'
set_option maxHeartbeats 4000000 in
theorem ok_Box_holds (T : Txt K mg) : FnOk P w K mg base CX0 2 T.f_Box_holds T.d_Box_holds ["self", "record"] (sp_Box_holds T) := by
  have G_have_size : FnOk P w K mg base CX0 1 T.f_have_size T.d_have_size ["one", "other", "size"] (sp_have_size T) := ok_have_size T
  refine T.F_Box_holds.ok sc_Box_holds (fun vs H Q E h => ?_) (fun cdv A outer s H vs Q E hr h => ?_)
  · obtain ⟨p, r, a, b, xs, rfl, _⟩ := h
    rfl
  · obtain ⟨p, r, a, b, xs, rfl, hp, ok, hrc, vk, q⟩ := h
    refine ⟨_, (pss_cons (ps_set (i := 2) sc_Box_holds.nd rfl (.inl rfl) (pe_fld (pv 1) rfl)) 
      (pss_cons (ps_if (pt_not (pt_truth (pe_call G_have_size (hr.mono (by decide)) (by rfl) T.g_have_size T.F_have_size.kp T.b_have_size .nil pass0 (pa_cons (pe_fld (pv 0) rfl) (pa_cons (pe_fld (pv 0) rfl) (pa_cons (pe_callB call_len_seq (by rfl) T.m_len PySem.boot_len (pa_cons (pv 2) pa_nil)) pa_nil)))) (by intro _; rfl))) (pss_one (ps_ret pe_bl)) pss_nil) 
      (pss_one (ps_ret (pe_callB (cr_all rfl) (by rfl) T.m_all (by decide +kernel) (pa_cons (pe_lc (own := [("low", 3), ("number", 4), ("high", 5)]) (g := gTup K 3 (gCons (gName 3) (gCons (gName 4) (gCons (gName 5) gNil)))) rfl sc_Box_holds.nd (ZN.pi_zip3 (by rfl) T.m_zip (pa_cons (pe_fld (pv 0) rfl) (pa_cons (pv 2) (pa_cons (pe_fld (pv 0) rfl) pa_nil)))) (blkOk_by (own := [("low", 3), ("number", 4), ("high", 5)]) (N := ["self", "record", "vector", "low", "number", "high"]) (sc := defScope s_Box_holds) (by decide +kernel)) (fun _ _ _ _ _ => (by exact (pg_tup rfl (pgs_cons (pg_name (i := 3) sc_Box_holds.nd rfl (Or.inl rfl)) (pgs_cons (pg_name (i := 4) sc_Box_holds.nd rfl (Or.inl rfl)) (pgs_cons (pg_name (i := 5) sc_Box_holds.nd rfl (Or.inl rfl)) pgs_nil)))))) (fun _ _ _ _ _ => pts_nil) (fun _ _ _ _ _ => (pe_chain op_le op_le (pv 3) (pv 4) (pv 5)))) pa_nil)))))), ?_⟩
    obtain ⟨dx, t, u, g1, g2, g3⟩ := id hp
    obtain ⟨dy, z, tv, tf, tw, r1, r2⟩ := id hrc
    have lv := vk.1
    refine ⟨_, rfl, _, _, _, _, _, rfl, r1, T.cl_Record, T.n_Record_vector, lk_Record_vector, ?_⟩
    refine ⟨_, rfl, _, _, _, _, _, rfl, g1, T.cl_Box, T.n_Box_low, lk_Box_low, _, rfl, _, _, _, _, _, rfl, g1, T.cl_Box, T.n_Box_high, lk_Box_high, _, rfl, _, _, rfl, .inr (SqT.of r2), t, u, a, b, _, rfl, g2, g3, _, rfl, ?_⟩
    rw [List.length_map]

    by_cases c : a.length = xs.length ∧ b.length = xs.length
    rotate_left
    · have e : (decide ((a.length : Int) = (xs.length : Int)) && decide ((b.length : Int) = (xs.length : Int))) = false := by
        rw [Bool.and_eq_false_iff, decide_eq_false_iff_not, decide_eq_false_iff_not]
        omega
      have q' : Q (.bl (decide (a.length = xs.length ∧ b.length = xs.length) && inB3 a xs b)) H := q H (Same.refl _)
      rw [decide_eq_false c, Bool.false_and] at q'
      rw [e]
      exact iteT q'
    have e : (decide ((a.length : Int) = (xs.length : Int)) && decide ((b.length : Int) = (xs.length : Int))) = true := by
      rw [Bool.and_eq_true, decide_eq_true_iff, decide_eq_true_iff]
      omega
    rw [e]
    replace q : ∀ H', Same H H' → Q (.bl (decide (a.length = xs.length ∧ b.length = xs.length) && inB3 a xs b)) H' := q
    rw [decide_eq_true c, Bool.true_and] at q
    obtain ⟨c1, c2⟩ := c

    refine iteF ⟨_, rfl, _, _, _, _, _, rfl, g1, T.cl_Box, T.n_Box_low, lk_Box_low, _, rfl, _, rfl, _, _, _, _, _, rfl, g1, T.cl_Box, T.n_Box_high, lk_Box_high, sT t, sT tv, sT u, _, _, _, rfl, sqx_t g2, sqx_t r2, sqx_t g3, fun D hD => ?_⟩
    refine lc_it (ZN.walk3 (K := K) (x := sT t) (y := sT tv) (z := sT u) (xs := a.map V.int) (ys := xs.map V.int) (zs := b.map V.int) (by simp [c1]) (by simp [c1, c2])) (fun i H' => Same H H' ∧ ∃ bs : List Bool, bs.length = i ∧ H' D = some (.lst (bs.map V.bl)) ∧ inB3 a xs b = (bs.all id && inB3 (a.drop i) (xs.drop i) (b.drop i))) ⟨same_new hD, [], rfl, upd_same, rfl⟩
      (fun i H' _ h => ⟨sqx_t (h.1 _ _ g2), sqx_t (h.1 _ _ r2), sqx_t (h.1 _ _ g3)⟩) ?_ ?_
    · rintro i v H1 H2 hi ⟨sm, bs, lb, hD1, eb⟩ ⟨P, x1, x2, x3, rfl, nP, rfl, e1, e2, e3⟩
      obtain ⟨lo, rfl, hlo⟩ := get_map e1
      obtain ⟨x, rfl, hx⟩ := get_map e2
      obtain ⟨hi', rfl, hhi⟩ := get_map e3
      rw [List.length_map] at hi
      have nDP : D ≠ P := ne_of_none hD1 nP
      have dc : ∀ {l : List Int} {y : Int}, l[i]? = some y → l.drop i = y :: l.drop (i + 1) := fun {l y} h => by
        have := (List.getElem?_eq_some_iff.mp h).1
        rw [List.drop_eq_getElem_cons this, (List.getElem?_eq_some_iff.mp h).2]
      rw [dc hlo, dc hx, dc hhi] at eb
      have eb' : inB3 a xs b = (bs.all id && ((decide (lo ≤ x) && decide (x ≤ hi')) && inB3 (a.drop (i + 1)) (xs.drop (i + 1)) (b.drop (i + 1)))) := eb
      have last : ∀ z, (decide (lo ≤ x) && decide (x ≤ hi')) = z → ∃ acc, (upd H1 P (.tup [V.int lo, V.int x, V.int hi'])) D = some (.lst acc) ∧ acc.length < sizeLine ∧ Same H (upd (upd H1 P (.tup [V.int lo, V.int x, V.int hi'])) D (.lst (acc ++ [V.bl z]))) ∧ ∃ bs : List Bool, bs.length = i + 1 ∧ (upd (upd H1 P (.tup [V.int lo, V.int x, V.int hi'])) D (.lst (acc ++ [V.bl z]))) D = some (.lst (bs.map V.bl)) ∧ inB3 a xs b = (bs.all id && inB3 (a.drop (i + 1)) (xs.drop (i + 1)) (b.drop (i + 1))) := fun z hz => by
        refine ⟨_, by rw [upd_ne nDP]; exact hD1, ?_, same_set (sm.trans (same_new nP)) hD, bs ++ [z], by simp [lb], by rw [upd_same, List.map_append]; rfl, ?_⟩
        · rw [List.length_map, lb]
          exact len_le (by omega)
        · rw [eb', hz, List.all_append]
          simp [Bool.and_assoc]
      refine ⟨P, _, rfl, .inl (.inl upd_same), rfl, _, _, rfl, _, _, rfl, _, _, rfl, rfl, rfl, ?_⟩
      refine ⟨_, rfl, _, rfl, _, _, rfl, rfl, _, rfl, ?_⟩
      by_cases c : lo ≤ x
      · rw [decide_eq_true c]
        exact iteT ⟨_, rfl, _, _, rfl, rfl, last _ (by rw [decide_eq_true c]; rfl)⟩
      · rw [decide_eq_false c]
        exact iteF (last false (by rw [decide_eq_false c]; rfl))
    · rintro H1 ⟨sm, bs, lb, hD1, eb⟩
      rw [List.length_map, List.drop_length] at eb
      have z : inB3 ([] : List Int) (xs.drop a.length) (b.drop a.length) = true := rfl
      rw [z, Bool.and_true] at eb
      refine ⟨D, bs, rfl, SqL.of hD1, ?_⟩
      rw [← eb]
      exact q H1 sm
def sp_Norms_holds (T : Txt K mg) : Sp := fun vs H Q _ => ∃ (p r : Addr) (a b : Int) (xs : List Int), vs = [.ref p, .ref r] ∧ (FAt T H p (.norms a b)) ∧ (VFOk (.norms a b)) ∧ (RecV T H r xs) ∧ (VecOk xs) ∧ ∀ H', Same H H' → Q (.bl (holdsB xs (.norms a b))) H'
set_option maxHeartbeats 4000000 in
theorem ok_Norms_holds (T : Txt K mg) : FnOk P w K mg base CX0 3 T.f_Norms_holds T.d_Norms_holds ["self", "record"] (sp_Norms_holds T) := by
  have G_norm : FnOk P w K mg base CX0 2 T.f_norm T.d_norm ["a"] (sp_norm T) := ok_norm T
  refine T.F_Norms_holds.ok sc_Norms_holds (fun vs H Q E h => ?_) (fun cdv A outer s H vs Q E hr h => ?_)
  · obtain ⟨p, r, a, b, xs, rfl, _⟩ := h
    rfl
  · obtain ⟨p, r, a, b, xs, rfl, hp, ok, hrc, vk, q⟩ := h
    refine ⟨_, (pss_one (ps_ret (pe_chain op_le op_le (pe_fld (pv 0) rfl) (pe_call G_norm (hr.mono (by decide)) (by rfl) T.g_norm T.F_norm.kp T.b_norm .nil pass0 (pa_cons (pe_fld (pv 1) rfl) pa_nil)) (pe_fld (pv 0) rfl)))), ?_⟩
    obtain ⟨dx, g1⟩ := id hp
    obtain ⟨dy, z, tv, tf, tw, r1, r2⟩ := id hrc
    replace q : ∀ H', Same H H' → Q (.bl (decide (a ≤ (ter fMul xs xs).sum) && decide ((ter fMul xs xs).sum ≤ b))) H' := q
    refine ⟨_, rfl, _, _, _, _, _, rfl, g1, T.cl_Norms, T.n_Norms_low, lk_Norms_low, _, rfl, _, _, _, _, _, rfl, r1, T.cl_Record, T.n_Record_vector, lk_Record_vector, sT tv, xs, rfl, sqx_t r2, Nat.le_trans vk.1 (by decide), vk.2.wide (by decide), fun H1 s1 => ?_⟩
    refine ⟨_, _, rfl, rfl, _, rfl, ?_⟩
    by_cases c : a ≤ (ter fMul xs xs).sum
    · rw [decide_eq_true c, Bool.true_and] at q
      rw [decide_eq_true c]
      exact iteT ⟨_, rfl, _, _, _, _, _, rfl, (s1 _ _ g1), T.cl_Norms, T.n_Norms_high, lk_Norms_high, _, _, rfl, rfl, q H1 s1⟩
    · rw [decide_eq_false c, Bool.false_and] at q
      rw [decide_eq_false c]
      exact iteF (q H1 s1)
def sp_Differ_holds (T : Txt K mg) : Sp := fun vs H Q _ => ∃ (p r : Addr) (c : List Int) (m : Int) (xs : List Int), vs = [.ref p, .ref r] ∧ (FAt T H p (.differ c m)) ∧ (VFOk (.differ c m)) ∧ (RecV T H r xs) ∧ (VecOk xs) ∧ ∀ H', Same H H' → Q (.bl (holdsB xs (.differ c m))) H'
set_option maxHeartbeats 4000000 in
theorem ok_Differ_holds (T : Txt K mg) : FnOk P w K mg base CX0 2 T.f_Differ_holds T.d_Differ_holds ["self", "record"] (sp_Differ_holds T) := by
  have G_differing : FnOk P w K mg base CX0 1 T.f_differing T.d_differing ["a", "b"] (sp_differing T) := ok_differing T
  refine T.F_Differ_holds.ok sc_Differ_holds (fun vs H Q E h => ?_) (fun cdv A outer s H vs Q E hr h => ?_)
  · obtain ⟨p, r, c, m, xs, rfl, _⟩ := h
    rfl
  · obtain ⟨p, r, c, m, xs, rfl, hp, ok, hrc, vk, q⟩ := h
    refine ⟨_, (pss_cons (ps_set (i := 2) sc_Differ_holds.nd rfl (.inl rfl) (pe_fld (pv 1) rfl)) 
      (pss_one (ps_ret (pe_and (pe_cmpR op_eq (pe_callB call_len_seq (by rfl) T.m_len PySem.boot_len (pa_cons (pe_fld (pv 0) rfl) pa_nil)) (pe_callB call_len_seq (by rfl) T.m_len PySem.boot_len (pa_cons (pv 2) pa_nil)) (nomark _)) (pe_one (pe_cmpR op_le (pe_call G_differing (hr.mono (by decide)) (by rfl) T.g_differing T.F_differing.kp T.b_differing .nil pass0 (pa_cons (pe_fld (pv 0) rfl) (pa_cons (pv 2) pa_nil))) (pe_fld (pv 0) rfl) (nomark _))))))), ?_⟩
    obtain ⟨dx, t, g1, g2⟩ := id hp
    obtain ⟨dy, z, tv, tf, tw, r1, r2⟩ := id hrc
    have lv := vk.1
    replace q : ∀ H', Same H H' → Q (.bl (decide (c.length = xs.length) && decide ((ter fNe c xs).sum ≤ m))) H' := q
    refine ⟨_, rfl, _, _, _, _, _, rfl, r1, T.cl_Record, T.n_Record_vector, lk_Record_vector, _, rfl, _, _, _, _, _, rfl, g1, T.cl_Differ, T.n_Differ_centre, lk_Differ_centre, _, _, rfl, .inr (SqT.of g2), _, rfl, _, _, rfl, .inr (SqT.of r2), rfl, _, rfl, ?_⟩
    rw [List.length_map, List.length_map]
    by_cases e : c.length = xs.length
    · rw [decide_eq_true e, Bool.true_and] at q
      rw [decide_eq_true (congrArg V.int (by omega : (c.length : Int) = xs.length))]
      refine iteT ⟨_, rfl, _, _, _, _, _, rfl, g1, T.cl_Differ, T.n_Differ_centre, lk_Differ_centre, _, rfl, sT t, sT tv, _, _, rfl, sqx_t g2, sqx_t r2, e, by omega, ok.1.2.wide (by decide), vk.2.wide (by decide), fun H1 s1 => ?_⟩
      exact ⟨_, rfl, _, _, _, _, _, rfl, (s1 _ _ g1), T.cl_Differ, T.n_Differ_most, lk_Differ_most, _, _, rfl, rfl, q H1 s1⟩
    · rw [decide_eq_false e, Bool.false_and] at q
      rw [decide_eq_false (fun h => e (by have := V.int.inj h; omega))]
      exact iteF (q H (Same.refl _))
def sp_Record___init__ (T : Txt K mg) : Sp := fun vs H Q _ => ∃ (p dx pn pf pw : Addr) (z : Str) (vec : List Int) (fv wv : List V) (ps : List (Str × PyData)) (ws : List (Str × Int)), vs = [.ref p, .str z, .ref pn, .ref pf, .ref pw] ∧ (H p = some (.ins T.c_Record dx [])) ∧ (SqL K H pn (vec.map V.int)) ∧ (SqT K H pf fv) ∧ (Dts [] H fv (ps.map prD)) ∧ (SqT K H pw wv) ∧ (Dts [] H wv (ws.map wdD)) ∧ (fv.length ≤ 1000) ∧ (wv.length ≤ 1000) ∧ ∀ H', RecAt [] T.c_Record H' p z vec ps ws → (∀ b o, H b = some o → b ≠ p → H' b = some o) → Q .non H'
set_option maxHeartbeats 4000000 in
theorem ok_Record___init__ (T : Txt K mg) : FnOk P w K mg base CX0 1 T.f_Record___init__ T.d_Record___init__ ["self", "name", "vector", "fields", "words"] (sp_Record___init__ T) := by
  refine T.F_Record___init__.ok sc_Record___init__ (fun vs H Q E h => ?_) (fun cdv A outer s H vs Q E hr h => ?_)
  · obtain ⟨p, dx, pn, pf, pw, z, vec, fv, wv, ps, ws, rfl, _⟩ := h
    rfl
  · obtain ⟨p, dx, pn, pf, pw, z, vec, fv, wv, ps, ws, rfl, hp, hv, hf, tf, hw, tw, lf, lw, q⟩ := h
    refine ⟨_, PSs.nox (pss_cons (ps_fld (pv 0) (pv 1) rfl) 
      (pss_cons (ps_fld (pv 0) (pe_callTy call_tuple_of (by rfl) T.m_tuple (by decide +kernel) (pa_cons (pv 2) pa_nil)) rfl) 
      (pss_cons (ps_fld (pv 0) (pe_callTy call_tuple_of (by rfl) T.m_tuple (by decide +kernel) (pa_cons (pe_lc (own := [("pair", 5)]) (g := gName 5) rfl sc_Record___init__.nd (pi_tup (pv 3)) (blkOk_by (own := [("pair", 5)]) (N := ["self", "name", "vector", "fields", "words", "pair"]) (sc := defScope s_Record___init__) (by decide +kernel)) (fun _ _ _ _ _ => (pg_name (i := 5) sc_Record___init__.nd rfl (Or.inl rfl))) (fun _ _ _ _ _ => pts_nil) (fun _ _ _ _ _ => (pe_callTy (r := rTupleB K) (by exact call_tuple_of) (by rfl) T.m_tuple (by decide +kernel) (pa_cons (pv 5) pa_nil)))) pa_nil)) rfl) 
      (pss_one (ps_fld (pv 0) (pe_callTy call_tuple_of (by rfl) T.m_tuple (by decide +kernel) (pa_cons (pe_lc (own := [("pair", 5)]) (g := gName 5) rfl sc_Record___init__.nd (pi_tup (pv 4)) (blkOk_by (own := [("pair", 5)]) (N := ["self", "name", "vector", "fields", "words", "pair"]) (sc := defScope s_Record___init__) (by decide +kernel)) (fun _ _ _ _ _ => (pg_name (i := 5) sc_Record___init__.nd rfl (Or.inl rfl))) (fun _ _ _ _ _ => pts_nil) (fun _ _ _ _ _ => (pe_callTy (r := rTupleB K) (by exact call_tuple_of) (by rfl) T.m_tuple (by decide +kernel) (pa_cons (pv 5) pa_nil)))) pa_nil)) rfl))))), ?_⟩
    have g0 : ∀ {o : HO}, (upd H p o) p = some o := upd_same
    refine ⟨_, rfl, _, rfl, p, T.c_Record, dx, _, rfl, hp, T.cl_Record, T.n_Record_name, Nat.lt_of_le_of_lt (Nat.le_refl 0) (by decide), ?_⟩
    have k1 : Keep H (upd H p (.ins T.c_Record dx (putF "name" (.str z) []))) := Keep.ins hp
    refine ⟨_, rfl, pn, _, rfl, .inl ⟨k1.seq hv, fun tv nv => ?_⟩⟩
    have s2 := same_new (o := .tup (vec.map V.int)) nv
    refine ⟨_, rfl, p, T.c_Record, dx, _, rfl, s2 _ _ upd_same, T.cl_Record, T.n_Record_vector, Nat.lt_of_le_of_lt (putF_le (Nat.le_refl 0)) (by decide), ?_⟩
    have npv : tv ≠ p := fun e => by rw [e, upd_same] at nv; cases nv
    have k2 := k1.trans ((Keep.same s2).trans (Keep.ins (o := .ins T.c_Record dx (putF "vector" (.ref tv) (putF "name" (.str z) []))) (s2 _ _ upd_same)))
    have f2 : ∀ b o, H b = some o → b ≠ p → (upd (upd (upd H p (.ins T.c_Record dx (putF "name" (.str z) []))) tv (.tup (vec.map V.int))) p (.ins T.c_Record dx (putF "vector" (.ref tv) (putF "name" (.str z) [])))) b = some o := fun b o e n => by
      rw [upd_ne n]
      refine s2 _ _ ?_
      rw [upd_ne n]
      exact e
    have v2 : (upd (upd (upd H p (.ins T.c_Record dx (putF "name" (.str z) []))) tv (.tup (vec.map V.int))) p (.ins T.c_Record dx (putF "vector" (.ref tv) (putF "name" (.str z) [])))) tv = some (.tup (vec.map V.int)) := by
      rw [upd_ne npv]
      exact upd_same
    have p2 : (upd (upd (upd H p (.ins T.c_Record dx (putF "name" (.str z) []))) tv (.tup (vec.map V.int))) p (.ins T.c_Record dx (putF "vector" (.ref tv) (putF "name" (.str z) [])))) p = some (.ins T.c_Record dx (putF "vector" (.ref tv) (putF "name" (.str z) []))) := upd_same
    generalize upd (upd (upd H p (.ins T.c_Record dx (putF "name" (.str z) []))) tv (.tup (vec.map V.int))) p (.ins T.c_Record dx (putF "vector" (.ref tv) (putF "name" (.str z) []))) = H3 at k2 f2 v2 p2 ⊢
    have tf3 := tf.keep k2
    have hf3 := k2.seqT hf

    refine ⟨_, rfl, pf, rfl, ⟨_, hf3⟩, fun D hD => ?_⟩
    refine lc_tup (K := K) (a := pf) (xs := fv) (fun i H' => Same H3 H' ∧ H' D = some (.lst (fv.take i))) ⟨same_new hD, by rw [upd_same]; rfl⟩ (fun i H' _ h => h.1.seqT hf3) ?_ ?_
    · rintro i v H2 hi ⟨sm, hD1⟩
      obtain ⟨t, ws, rfl, et⟩ := Dts.refT (fun a => ⟨_, rfl⟩) tf3 hi
      refine ⟨rfl, _, rfl, t, ws, rfl, .inr ⟨SqT.of (sm _ _ et), _, hD1, ?_, same_set sm hD, ?_⟩⟩
      · rw [List.length_take]
        exact len_le (by omega)
      · rw [upd_same, List.take_add_one, hi]
        rfl
    rintro H3' ⟨sm, hD1⟩
    rw [List.take_length] at hD1
    refine ⟨D, _, rfl, .inl ⟨SqL.of hD1, fun tf0 nf => ?_⟩⟩
    have sf := sm.trans (same_new (o := .tup fv) nf)
    refine ⟨_, rfl, p, T.c_Record, dx, _, rfl, sf _ _ p2, T.cl_Record, T.n_Record_fields, Nat.lt_of_le_of_lt (putF_le (putF_le (Nat.le_refl 0))) (by decide), ?_⟩

    have k4 := k2.trans ((Keep.same sf).trans (Keep.ins (o := .ins T.c_Record dx (putF "fields" (.ref tf0) (putF "vector" (.ref tv) (putF "name" (.str z) [])))) (sf _ _ p2)))

    have nfp : tf0 ≠ p := fun e => by
      have := sm _ _ p2
      rw [← e, nf] at this
      cases this
    have f4 : ∀ b o, H3 b = some o → b ≠ p → (upd (upd H3' tf0 (.tup fv)) p (.ins T.c_Record dx (putF "fields" (.ref tf0) (putF "vector" (.ref tv) (putF "name" (.str z) []))))) b = some o := fun b o e n => by
      rw [upd_ne n]
      exact sf _ _ e
    have x4 : (upd (upd H3' tf0 (.tup fv)) p (.ins T.c_Record dx (putF "fields" (.ref tf0) (putF "vector" (.ref tv) (putF "name" (.str z) []))))) tf0 = some (.tup fv) := by
      rw [upd_ne nfp]
      exact upd_same
    have p4 : (upd (upd H3' tf0 (.tup fv)) p (.ins T.c_Record dx (putF "fields" (.ref tf0) (putF "vector" (.ref tv) (putF "name" (.str z) []))))) p = some (.ins T.c_Record dx (putF "fields" (.ref tf0) (putF "vector" (.ref tv) (putF "name" (.str z) [])))) := upd_same
    generalize upd (upd H3' tf0 (.tup fv)) p (.ins T.c_Record dx (putF "fields" (.ref tf0) (putF "vector" (.ref tv) (putF "name" (.str z) [])))) = H5 at k4 f4 x4 p4 ⊢
    have tw5 := tw.keep k4
    have hw5 := k4.seqT hw
    clear sm hD1

    refine ⟨_, rfl, pw, rfl, ⟨_, hw5⟩, fun D hD => ?_⟩
    refine lc_tup (K := K) (a := pw) (xs := wv) (fun i H' => Same H5 H' ∧ H' D = some (.lst (wv.take i))) ⟨same_new hD, by rw [upd_same]; rfl⟩ (fun i H' _ h => h.1.seqT hw5) ?_ ?_
    · rintro i v H2 hi ⟨sm, hD1⟩
      obtain ⟨t, ws, rfl, et⟩ := Dts.refT (fun a => ⟨_, rfl⟩) tw5 hi
      refine ⟨rfl, _, rfl, t, ws, rfl, .inr ⟨SqT.of (sm _ _ et), _, hD1, ?_, same_set sm hD, ?_⟩⟩
      · rw [List.length_take]
        exact len_le (by omega)
      · rw [upd_same, List.take_add_one, hi]
        rfl
    rintro H5' ⟨sm, hD1⟩
    rw [List.take_length] at hD1
    refine ⟨D, _, rfl, .inl ⟨SqL.of hD1, fun tw0 nw => ?_⟩⟩
    have sw := sm.trans (same_new (o := .tup wv) nw)
    refine ⟨_, rfl, p, T.c_Record, dx, _, rfl, sw _ _ p4, T.cl_Record, T.n_Record_words, Nat.lt_of_le_of_lt (putF_le (putF_le (putF_le (Nat.le_refl 0)))) (by decide), ?_⟩

    have nwp : tw0 ≠ p := fun e => by
      have := sm _ _ p4
      rw [← e, nw] at this
      cases this
    have f6 : ∀ b o, H5 b = some o → b ≠ p → (upd (upd H5' tw0 (.tup wv)) p (.ins T.c_Record dx (ff_Record (.str z) (.ref tv) (.ref tf0) (.ref tw0)))) b = some o := fun b o e n => by
      rw [upd_ne n]
      exact sw _ _ e
    refine q _ ⟨(fun z => by cases z), dx, tv, tf0, tw0, upd_same, (fun z => by cases z), f6 _ _ (f4 _ _ v2 npv) npv, ?_, ?_⟩ (fun b o e n => f6 b o (f4 b o (f2 b o e n) n) n)
    · refine .tup (fun z => by cases z) (f6 _ _ x4 nfp) (tf.keep (k4.trans ((Keep.same sw).trans (Keep.ins (sw _ _ p4)))))
    · refine .tup (fun z => by cases z) (by rw [upd_ne nwp]; exact upd_same) (tw.keep (k4.trans ((Keep.same sw).trans (Keep.ins (sw _ _ p4)))))
def sp_law_vector (T : Txt K mg) : Sp := fun vs H Q _ => ∃ (st sc : Addr) (n : Int), vs = [.ref st, .int n] ∧ (StAt H st sc) ∧ (-1000 ≤ n) ∧ (n ≤ 1000) ∧ ∀ (p : Addr) (zs : List Int) (H' : Hp), zs.length = n.toNat → Bd 300 zs → H p = none → H' p = some (.lst (zs.map V.int)) → StAt H' st sc → Fr st H H' → Q (.ref p) H'
set_option maxHeartbeats 4000000 in
theorem ok_law_vector (T : Txt K mg) : FnOk P w K mg base CX0 3 T.f_law_vector T.d_law_vector ["state", "size"] (sp_law_vector T) := by
  have G_law_next : FnOk P w K mg base CX0 2 T.f_law_next T.d_law_next ["state", "many"] (sp_law_next T) := ok_law_next T
  refine T.F_law_vector.ok sc_law_vector (fun vs H Q E h => ?_) (fun cdv A outer s H vs Q E hr h => ?_)
  · obtain ⟨st, sc, n, rfl, _⟩ := h
    rfl
  · obtain ⟨st, sc, n, rfl, hS, n0, n1, q⟩ := h
    refine ⟨_, (pss_cons (ps_set (i := 2) sc_law_vector.nd rfl (.inr rfl) (pe_ix ix_list (pe_lst (pa_cons pe_int (pa_cons pe_int (pa_cons pe_int pa_nil)))) (pe_call G_law_next (hr.mono (by decide)) (by rfl) T.g_law_next T.F_law_next.kp T.b_law_next .nil pass0 (pa_cons (pv 0) (pa_cons pe_int pa_nil))) (fun _ _ => rfl))) 
      (pss_one (ps_ret (pe_lc (own := [("k", 3)]) (g := gName 3) rfl sc_law_vector.nd (pi_range1 rfl T.m_range (pa_cons (pv 1) pa_nil)) (blkOk_by (own := [("k", 3)]) (N := ["state", "size", "spread", "k"]) (sc := defScope s_law_vector) (by decide +kernel)) (fun _ _ _ _ _ => (pg_name (i := 3) sc_law_vector.nd rfl (Or.inl rfl))) (fun _ _ _ _ _ => pts_nil) (fun _ _ _ _ _ => (pe_op op_sub (pe_call G_law_next (hr.mono (by decide)) (by rfl) T.g_law_next T.F_law_next.kp T.b_law_next .nil pass0 (pa_cons (pv 0) (pa_cons (pe_op op_add (pe_op op_mul pe_int (pv 2)) pe_int) pa_nil))) (pv 2))))))), ?_⟩
    refine ⟨(by show 3 ≤ sizeLine; decide), fun l1 hl1 => ⟨_, rfl, st, sc, 3, rfl, hS.new hl1, by decide, by decide +kernel, fun k H1 k0 k1 hS1 o1 => ?_⟩⟩
    obtain ⟨s, hs, s3⟩ := pickI (xs := [2, 6, 300]) k0 k1
    have s0 : 0 ≤ s ∧ s ≤ 300 := by
      simp at s3
      omega
    have f1 := (same_fr (st := st) (same_new (o := .lst [V.int 2, V.int 6, V.int 300]) hl1)).trans o1.fr
    refine ⟨l1, _, k, _, rfl, rfl, SqL.of ((o1 l1 (st_new hS hl1)).trans upd_same), hs, ?_⟩
    refine ⟨_, rfl, n, rfl, by omega, by omega, fun D hD => ?_⟩
    have nD : D ≠ st := st_new hS1 hD
    have hD0 : H D = none := by
      cases e : H D with
      | none => rfl
      | some o =>
        rw [f1 _ _ e nD] at hD
        cases hD
    refine lc_range (lo := 0) (n := n.toNat) (fun i H' => Fr st H1 H' ∧ StAt H' st sc ∧ ∃ zs : List Int, zs.length = i ∧ Bd s zs ∧ H' D = some (.lst (zs.map V.int))) ⟨Fr.new hD, hS1.new hD, [], rfl, fun _ h => (nomatch h), upd_same⟩ ?_ ?_
    · rintro i H2 hi ⟨f2, hS2, zs, hz, hb, h1⟩
      refine ⟨rfl, ?_⟩
      refine ⟨_, rfl, _, rfl, _, _, rfl, rfl, .inl ⟨by decide, by decide⟩, _, _, rfl, rfl, st, sc, 2 * s + 1, rfl, hS2, by omega, ?_, fun d H3 d0 d1 hS3 o3 => ?_⟩
      · exact wide_le (j := 1000) (by omega) (by omega) (by decide +kernel)
      · have h2 : H3 D = some (.lst (zs.map V.int)) := (o3 D nD).trans h1
        refine ⟨_, rfl, _, _, rfl, rfl, _, h2, ?_, ?_⟩
        · rw [List.length_map, hz]
          exact len_le (by omega)
        · refine ⟨(f2.trans o3.fr).set hD, hS3.set hS1 hD, zs ++ [d - s], by simp [hz], ?_, ?_⟩
          · intro z hz
            rcases List.mem_append.mp hz with h | h
            · exact hb z h
            · rw [List.mem_singleton] at h
              omega
          · rw [upd_same, List.map_append]
            rfl
    · rintro H2 ⟨f2, hS2, zs, hz, hb, h1⟩
      exact q D zs H2 hz (hb.wide (by omega)) hD0 h1 hS2 (f1.trans f2)
def sp_law_inner (T : Txt K mg) : Sp := fun vs H Q _ => ∃ (a b : Addr) (xs ys : List Int), vs = [.ref a, .ref b] ∧ (H a = some (.lst (xs.map V.int))) ∧ (H b = some (.lst (ys.map V.int))) ∧ (ys.length = xs.length) ∧ (VecOk xs) ∧ Q (.int (ter fMul xs ys).sum) H
set_option maxHeartbeats 4000000 in
theorem ok_law_inner (T : Txt K mg) : FnOk P w K mg base CX0 1 T.f_law_inner T.d_law_inner ["a", "b"] (sp_law_inner T) := by
  refine T.F_law_inner.ok sc_law_inner (fun vs H Q E h => ?_) (fun cdv A outer s H vs Q E hr h => ?_)
  · obtain ⟨a, b, xs, ys, rfl, _⟩ := h
    rfl
  · obtain ⟨a, b, xs, ys, rfl, ha, hb, hl, vx, q⟩ := h
    refine ⟨_, (pss_cons (ps_set (i := 2) sc_law_inner.nd rfl (.inl rfl) pe_int) 
      (pss_cons (ps_for PassesOwn.never rfl (pi_range1 rfl T.m_range (pa_cons (pe_callB call_len_seq (by rfl) T.m_len PySem.boot_len (pa_cons (pv 0) pa_nil)) pa_nil)) (pg_name (i := 3) sc_law_inner.nd rfl (.inl rfl)) (pss_one (ps_set (i := 2) sc_law_inner.nd rfl (.inl rfl) (pe_op op_add (pv 2) (pe_op op_mul (pe_ix ix_list (pv 0) (pv 3) (fun _ _ => rfl)) (pe_ix ix_list (pv 1) (pv 3) (fun _ _ => rfl))))))) 
      (pss_one (ps_ret (pv 2))))), ?_⟩
    have lx := vx.1
    refine ⟨_, rfl, a, _, rfl, .inl (SqL.of ha), xs.length, by rw [List.length_map], by omega, by omega, ?_⟩
    refine for_range (lo := 0) (n := xs.length) (fun i σ H' => H' = H ∧ ∃ y, σ = [some (.ref a), some (.ref b), some (.int ((ter fMul xs ys).take i).sum), y]) ⟨rfl, none, rfl⟩ ?_ ?_
    · rintro i σ H' hi ⟨rfl, y, rfl⟩
      obtain ⟨x, hx⟩ : ∃ x, xs[i]? = some x := ⟨xs[i], List.getElem?_eq_getElem hi⟩
      obtain ⟨z, hz⟩ : ∃ z, ys[i]? = some z := ⟨ys[i]'(by omega), List.getElem?_eq_getElem (by omega)⟩
      have b1 := vx.2.at hx
      have e0 : (0 : Int) + (i : Int) = (i : Int) := by omega
      refine ⟨_, rfl, _, rfl, _, rfl, a, _, _, _, rfl, rfl, SqL.of ha, at_of e0 (map_get hx), _, rfl, _, rfl, b, _, _, _, rfl, rfl, SqL.of hb, at_of e0 (map_get hz), _, _, rfl, rfl, .inl ⟨by omega, by omega⟩, _, _, rfl, rfl, rfl, some (V.int ((0 : Int) + (i : Int))), ?_⟩
      rw [sum_take (ter_get (f := fMul) hx hz)]
      rfl
    · rintro σ H' ⟨rfl, y, rfl⟩
      rw [← ter_len (f := fMul) hl.symm, List.take_length]
      exact ⟨_, rfl, q⟩
def sp_law_made (T : Txt K mg) : Sp := fun vs H Q _ => ∃ (N : List Addr) (t : Addr) (f : VF), vs = [.ref t] ∧ (Dt N H (.ref t) (vfD f)) ∧ (VFOk f) ∧ ∀ (r : Addr) (H' : Hp), Same H H' → FAt T H' r f → Q (.ref r) H'
set_option maxHeartbeats 8000000 in
theorem ok_law_made (T : Txt K mg) : FnOk P w K mg base CX0 3 T.f_law_made T.d_law_made ["fact"] (sp_law_made T) := by
  have G_Differ___init__ : FnOk P w K mg base CX0 1 T.f_Differ___init__ T.d_Differ___init__ ["self", "centre", "most"] (sp_Differ___init__ T) := ok_Differ___init__ T
  have G_Norms___init__ : FnOk P w K mg base CX0 1 T.f_Norms___init__ T.d_Norms___init__ ["self", "low", "high"] (sp_Norms___init__ T) := ok_Norms___init__ T
  have G_Box___init__ : FnOk P w K mg base CX0 1 T.f_Box___init__ T.d_Box___init__ ["self", "low", "high"] (sp_Box___init__ T) := ok_Box___init__ T
  have G_Cell___init__ : FnOk P w K mg base CX0 1 T.f_Cell___init__ T.d_Cell___init__ ["self", "near", "rival"] (sp_Cell___init__ T) := ok_Cell___init__ T
  have G_Part___init__ : FnOk P w K mg base CX0 1 T.f_Part___init__ T.d_Part___init__ ["self", "start", "centre", "radius"] (sp_Part___init__ T) := ok_Part___init__ T
  have G_Parts___init__ : FnOk P w K mg base CX0 1 T.f_Parts___init__ T.d_Parts___init__ ["self", "parts"] (sp_Parts___init__ T) := ok_Parts___init__ T
  refine T.F_law_made.ok sc_law_made (fun vs H Q E h => ?_) (fun cdv A outer s H vs Q E hr h => ?_)
  · obtain ⟨N, t, f, rfl, _⟩ := h
    rfl
  · obtain ⟨N, t, f, rfl, hf, ok, q⟩ := h
    refine ⟨_, (pss_cons (ps_if (pt_cmpR op_eq (pe_ix ix_tup (pv 0) pe_int (fun _ _ => rfl)) pe_str (nomark _)) (pss_one (ps_ret (pe_make T.mk_Parts G_Parts___init__ (hr.mono (by decide)) (by rfl) T.mc_Parts T.b_Parts___init__ .nil pass0 (pa_cons (pe_lc (own := [("start", 1), ("centre", 2), ("radius", 3)]) (g := gTup K 3 (gCons (gName 1) (gCons (gName 2) (gCons (gName 3) gNil)))) rfl sc_law_made.nd (pi_list (pe_ix ix_tup (pv 0) pe_int (fun _ _ => rfl))) (blkOk_by (own := [("start", 1), ("centre", 2), ("radius", 3)]) (N := ["fact", "start", "centre", "radius"]) (sc := defScope s_law_made) (by decide +kernel)) (fun _ _ _ _ _ => (by exact (pg_tup rfl (pgs_cons (pg_name (i := 1) sc_law_made.nd rfl (Or.inl rfl)) (pgs_cons (pg_name (i := 2) sc_law_made.nd rfl (Or.inl rfl)) (pgs_cons (pg_name (i := 3) sc_law_made.nd rfl (Or.inl rfl)) pgs_nil)))))) (fun _ _ _ _ _ => pts_nil) (fun _ _ _ _ _ => (pe_make T.mk_Part G_Part___init__ (hr.mono (by decide)) (by rfl) T.mc_Part T.b_Part___init__ .nil pass0 (pa_cons (pv 1) (pa_cons (pe_callTy (r := rListB K) (by exact call_list_of) (by rfl) T.m_list (by decide +kernel) (pa_cons (pv 2) pa_nil)) (pa_cons (pv 3) pa_nil)))))) pa_nil)))) pss_nil) 
      (pss_cons (ps_if (pt_cmpR op_eq (pe_ix ix_tup (pv 0) pe_int (fun _ _ => rfl)) pe_str (nomark _)) (pss_one (ps_ret (pe_make T.mk_Cell G_Cell___init__ (hr.mono (by decide)) (by rfl) T.mc_Cell T.b_Cell___init__ .nil pass0 (pa_cons (pe_callTy call_list_of (by rfl) T.m_list (by decide +kernel) (pa_cons (pe_ix ix_tup (pv 0) pe_int (fun _ _ => rfl)) pa_nil)) (pa_cons (pe_callTy call_list_of (by rfl) T.m_list (by decide +kernel) (pa_cons (pe_ix ix_tup (pv 0) pe_int (fun _ _ => rfl)) pa_nil)) pa_nil))))) pss_nil) 
      (pss_cons (ps_if (pt_cmpR op_eq (pe_ix ix_tup (pv 0) pe_int (fun _ _ => rfl)) pe_str (nomark _)) (pss_one (ps_ret (pe_make T.mk_Box G_Box___init__ (hr.mono (by decide)) (by rfl) T.mc_Box T.b_Box___init__ .nil pass0 (pa_cons (pe_callTy call_list_of (by rfl) T.m_list (by decide +kernel) (pa_cons (pe_ix ix_tup (pv 0) pe_int (fun _ _ => rfl)) pa_nil)) (pa_cons (pe_callTy call_list_of (by rfl) T.m_list (by decide +kernel) (pa_cons (pe_ix ix_tup (pv 0) pe_int (fun _ _ => rfl)) pa_nil)) pa_nil))))) pss_nil) 
      (pss_cons (ps_if (pt_cmpR op_eq (pe_ix ix_tup (pv 0) pe_int (fun _ _ => rfl)) pe_str (nomark _)) (pss_one (ps_ret (pe_make T.mk_Norms G_Norms___init__ (hr.mono (by decide)) (by rfl) T.mc_Norms T.b_Norms___init__ .nil pass0 (pa_cons (pe_ix ix_tup (pv 0) pe_int (fun _ _ => rfl)) (pa_cons (pe_ix ix_tup (pv 0) pe_int (fun _ _ => rfl)) pa_nil))))) pss_nil) 
      (pss_cons (ps_if (pt_cmpR op_eq (pe_ix ix_tup (pv 0) pe_int (fun _ _ => rfl)) pe_str (nomark _)) (pss_one (ps_ret (pe_make T.mk_Differ G_Differ___init__ (hr.mono (by decide)) (by rfl) T.mc_Differ T.b_Differ___init__ .nil pass0 (pa_cons (pe_callTy call_list_of (by rfl) T.m_list (by decide +kernel) (pa_cons (pe_ix ix_tup (pv 0) pe_int (fun _ _ => rfl)) pa_nil)) (pa_cons (pe_ix ix_tup (pv 0) pe_int (fun _ _ => rfl)) pa_nil))))) pss_nil) 
      (pss_cons ps_dead 
      (pss_cons ps_dead 
      (pss_cons ps_dead 
      (pss_one ps_dead))))))))), ?_⟩
    cases f with
    | parts ps =>
      obtain ⟨t', vs, e, _, hp, w⟩ := hf.isT
      cases e
      obtain ⟨v1, v2, e, w1, w2⟩ := w.two
      rw [w1.isS] at e
      subst e
      obtain ⟨l, us, rfl, _, gl, wl⟩ := w2.isL
      have lu := wl.length
      rw [List.length_map] at lu
      have l8 := ok.1
      refine ⟨_, rfl, _, _, _, _, rfl, rfl, SqT.of hp, at_of (j := 0) rfl rfl, rfl, _, rfl, ite2 (fun _ => ?_) (fun e => absurd (decide_eq_true rfl) e)⟩

      refine ⟨_, rfl, _, _, _, _, rfl, rfl, SqT.of hp, at_of (j := 1) rfl rfl, l, rfl, ⟨_, SqL.of gl⟩, fun D hD => ?_⟩
      refine lc_list (K := K) (a := l) (xs := us) (fun i H' => Same H H' ∧ ∃ as : List Addr, H' D = some (.lst (as.map V.ref)) ∧ PtsAt T.c_Part H' as (ps.take i)) ⟨same_new hD, [], upd_same, rfl, fun i a p e => by simp at e⟩ (fun i H' _ h => SqL.of (h.1 _ _ gl)) ?_ ?_
      · rintro i v H1 hi ⟨sm, as, hD1, hA⟩
        obtain ⟨d, ed, xd⟩ := wl.get hi
        rw [List.getElem?_map] at ed
        cases ep : ps[i]? with
        | none => rw [ep] at ed; cases ed
        | some p =>
          rw [ep] at ed
          cases Option.some.inj ed
          obtain ⟨tp, c, rfl, _, g1, _, g2⟩ := xd.isPt
          have il := (List.getElem?_eq_some_iff.mp ep).1
          refine ⟨tp, _, rfl, .inl (.inl (sm _ _ g1)), rfl, _, _, rfl, _, _, rfl, _, _, rfl, rfl, rfl, ?_⟩
          refine ⟨_, rfl, _, rfl, c, _, rfl, .inl (SqL.of (sm _ _ g2)), fun l2 hl2 => ⟨_, rfl, fun x dx nx ndx ndn => ?_⟩⟩
          have s2 := sm.trans (same_new (o := .lst (p.2.1.map V.int)) hl2)
          have d2 : (upd H1 l2 (.lst (p.2.1.map V.int))) l2 = some (.lst (p.2.1.map V.int)) := upd_same
          have hD2 := same_new (o := .lst (p.2.1.map V.int)) hl2 _ _ hD1
          have hA2 := hA.same (same_new (o := .lst (p.2.1.map V.int)) hl2)
          generalize upd H1 l2 (.lst (p.2.1.map V.int)) = H2 at s2 d2 hD2 hA2 nx ndx ⊢
          refine ⟨x, dx, _, l2, _, _, rfl, upd_same, same_mk nx ndx _ _ d2, fun tc H3 k1 hx h1 fr => ⟨rfl, ?_⟩⟩
          have s3 := (same_mk (C := T.c_Part) nx ndx).trans' fr nx
          have hD3 := s3 _ _ hD2
          have hA3 : PtsAt T.c_Part H3 (as ++ [x]) (ps.take (i + 1)) := by
            rw [List.take_add_one, ep]
            exact (hA2.same s3).snoc ⟨dx, tc, hx, h1⟩
          have la := hA.1
          rw [List.length_take] at la
          refine ⟨_, hD3, ?_, same_set (s2.trans s3) hD, as ++ [x], by rw [upd_same, List.map_append]; rfl, hA3.at hD3⟩
          rw [List.length_map]
          exact len_le (by omega)
      · rintro H1 ⟨sm, as, hD1, hA⟩
        rw [lu, List.take_length] at hA
        intro x dx nx ndx ndn
        refine ⟨x, dx, D, _, rfl, upd_same, same_mk nx ndx _ _ hD1, fun tp H3 k1 hx h1 fr => ⟨rfl, ?_⟩⟩
        have s3 := (same_mk (C := T.c_Parts) nx ndx).trans' fr nx
        exact q x H3 (sm.trans s3) ⟨dx, tp, as, hx, h1, hA.same s3⟩
    | cell a b =>
      obtain ⟨t', vs, e, _, hp, w⟩ := hf.isT
      cases e
      obtain ⟨v1, v2, v3, e, w1, w2, w3⟩ := w.three
      rw [w1.isS] at e
      subst e
      obtain ⟨pa, rfl, _, ga⟩ := w2.isInts
      obtain ⟨pb, rfl, _, gb⟩ := w3.isInts
      refine ⟨_, rfl, _, _, _, _, rfl, rfl, SqT.of hp, at_of (j := 0) rfl rfl, rfl, _, rfl, ite2 (fun e => absurd (of_decide_eq_true e) (by decide +kernel)) (fun _ => ?_)⟩
      refine ⟨_, rfl, _, _, _, _, rfl, rfl, SqT.of hp, at_of (j := 0) rfl rfl, rfl, _, rfl, ite2 (fun _ => ?_) (fun e => absurd (decide_eq_true rfl) e)⟩

      refine ⟨_, rfl, _, _, _, _, rfl, rfl, SqT.of hp, at_of (j := 1) rfl rfl, pa, _, rfl, .inl (SqL.of ga), fun l1 hl1 => ?_⟩
      have s1 := same_new (o := .lst (a.map V.int)) hl1
      have hp1 := s1 _ _ hp
      have d1 : (upd H l1 (.lst (a.map V.int))) l1 = some (.lst (a.map V.int)) := upd_same
      have g1 := s1 _ _ gb
      generalize upd H l1 (.lst (a.map V.int)) = H1 at s1 hp1 d1 g1 ⊢
      refine ⟨_, rfl, _, _, _, _, rfl, rfl, SqT.of hp1, at_of (j := 2) rfl rfl, pb, _, rfl, .inl (SqL.of g1), fun l2 hl2 => ?_⟩
      have s2 := same_new (o := .lst (b.map V.int)) hl2
      have d2 := s2 _ _ d1
      have d3 : (upd H1 l2 (.lst (b.map V.int))) l2 = some (.lst (b.map V.int)) := upd_same
      generalize upd H1 l2 (.lst (b.map V.int)) = H2 at s2 d2 d3 ⊢
      intro x dx nx ndx ndn
      refine ⟨x, dx, l1, _, l2, _, rfl, upd_same, same_mk nx ndx _ _ d2, same_mk nx ndx _ _ d3, fun t1 t2 H3 k1 k2 hx h1 h2 fr => ⟨rfl, ?_⟩⟩
      exact q x H3 ((s1.trans s2).trans ((same_mk nx ndx).trans' fr nx)) ⟨dx, t1, t2, hx, h1, h2⟩

    | box a b =>
      obtain ⟨t', vs, e, _, hp, w⟩ := hf.isT
      cases e
      obtain ⟨v1, v2, v3, e, w1, w2, w3⟩ := w.three
      rw [w1.isS] at e
      subst e
      obtain ⟨pa, rfl, _, ga⟩ := w2.isInts
      obtain ⟨pb, rfl, _, gb⟩ := w3.isInts
      refine ⟨_, rfl, _, _, _, _, rfl, rfl, SqT.of hp, at_of (j := 0) rfl rfl, rfl, _, rfl, ite2 (fun e => absurd (of_decide_eq_true e) (by decide +kernel)) (fun _ => ?_)⟩
      refine ⟨_, rfl, _, _, _, _, rfl, rfl, SqT.of hp, at_of (j := 0) rfl rfl, rfl, _, rfl, ite2 (fun e => absurd (of_decide_eq_true e) (by decide +kernel)) (fun _ => ?_)⟩
      refine ⟨_, rfl, _, _, _, _, rfl, rfl, SqT.of hp, at_of (j := 0) rfl rfl, rfl, _, rfl, ite2 (fun _ => ?_) (fun e => absurd (decide_eq_true rfl) e)⟩

      refine ⟨_, rfl, _, _, _, _, rfl, rfl, SqT.of hp, at_of (j := 1) rfl rfl, pa, _, rfl, .inl (SqL.of ga), fun l1 hl1 => ?_⟩
      have s1 := same_new (o := .lst (a.map V.int)) hl1
      have hp1 := s1 _ _ hp
      have d1 : (upd H l1 (.lst (a.map V.int))) l1 = some (.lst (a.map V.int)) := upd_same
      have g1 := s1 _ _ gb
      generalize upd H l1 (.lst (a.map V.int)) = H1 at s1 hp1 d1 g1 ⊢
      refine ⟨_, rfl, _, _, _, _, rfl, rfl, SqT.of hp1, at_of (j := 2) rfl rfl, pb, _, rfl, .inl (SqL.of g1), fun l2 hl2 => ?_⟩
      have s2 := same_new (o := .lst (b.map V.int)) hl2
      have d2 := s2 _ _ d1
      have d3 : (upd H1 l2 (.lst (b.map V.int))) l2 = some (.lst (b.map V.int)) := upd_same
      generalize upd H1 l2 (.lst (b.map V.int)) = H2 at s2 d2 d3 ⊢
      intro x dx nx ndx ndn
      refine ⟨x, dx, l1, _, l2, _, rfl, upd_same, same_mk nx ndx _ _ d2, same_mk nx ndx _ _ d3, fun t1 t2 H3 k1 k2 hx h1 h2 fr => ⟨rfl, ?_⟩⟩
      exact q x H3 ((s1.trans s2).trans ((same_mk nx ndx).trans' fr nx)) ⟨dx, t1, t2, hx, h1, h2⟩

    | norms a b =>
      obtain ⟨t', vs, e, _, hp, w⟩ := hf.isT
      cases e
      obtain ⟨v1, v2, v3, e, w1, w2, w3⟩ := w.three
      rw [w1.isS, w2.isI, w3.isI] at e
      subst e
      refine ⟨_, rfl, _, _, _, _, rfl, rfl, SqT.of hp, at_of (j := 0) rfl rfl, rfl, _, rfl, ite2 (fun e => absurd (of_decide_eq_true e) (by decide +kernel)) (fun _ => ?_)⟩
      refine ⟨_, rfl, _, _, _, _, rfl, rfl, SqT.of hp, at_of (j := 0) rfl rfl, rfl, _, rfl, ite2 (fun e => absurd (of_decide_eq_true e) (by decide +kernel)) (fun _ => ?_)⟩
      refine ⟨_, rfl, _, _, _, _, rfl, rfl, SqT.of hp, at_of (j := 0) rfl rfl, rfl, _, rfl, ite2 (fun e => absurd (of_decide_eq_true e) (by decide +kernel)) (fun _ => ?_)⟩
      refine ⟨_, rfl, _, _, _, _, rfl, rfl, SqT.of hp, at_of (j := 0) rfl rfl, rfl, _, rfl, ite2 (fun _ => ?_) (fun e => absurd (decide_eq_true rfl) e)⟩

      refine ⟨_, rfl, _, _, _, _, rfl, rfl, SqT.of hp, at_of (j := 1) rfl rfl, _, rfl, _, _, _, _, rfl, rfl, SqT.of hp, at_of (j := 2) rfl rfl, fun x dx nx ndx ndn => ?_⟩
      refine ⟨x, dx, _, _, rfl, upd_same, fun H3 hx fr => ⟨rfl, ?_⟩⟩
      exact q x H3 ((same_mk (C := T.c_Norms) nx ndx).trans' fr nx) ⟨dx, hx⟩
    | differ c m =>
      obtain ⟨t', vs, e, _, hp, w⟩ := hf.isT
      cases e
      obtain ⟨v1, v2, v3, e, w1, w2, w3⟩ := w.three
      rw [w1.isS, w3.isI] at e
      subst e
      obtain ⟨pa, rfl, _, ga⟩ := w2.isInts
      refine ⟨_, rfl, _, _, _, _, rfl, rfl, SqT.of hp, at_of (j := 0) rfl rfl, rfl, _, rfl, ite2 (fun e => absurd (of_decide_eq_true e) (by decide +kernel)) (fun _ => ?_)⟩
      refine ⟨_, rfl, _, _, _, _, rfl, rfl, SqT.of hp, at_of (j := 0) rfl rfl, rfl, _, rfl, ite2 (fun e => absurd (of_decide_eq_true e) (by decide +kernel)) (fun _ => ?_)⟩
      refine ⟨_, rfl, _, _, _, _, rfl, rfl, SqT.of hp, at_of (j := 0) rfl rfl, rfl, _, rfl, ite2 (fun e => absurd (of_decide_eq_true e) (by decide +kernel)) (fun _ => ?_)⟩
      refine ⟨_, rfl, _, _, _, _, rfl, rfl, SqT.of hp, at_of (j := 0) rfl rfl, rfl, _, rfl, ite2 (fun e => absurd (of_decide_eq_true e) (by decide +kernel)) (fun _ => ?_)⟩
      refine ⟨_, rfl, _, _, _, _, rfl, rfl, SqT.of hp, at_of (j := 0) rfl rfl, rfl, _, rfl, ite2 (fun _ => ?_) (fun e => absurd (decide_eq_true rfl) e)⟩

      refine ⟨_, rfl, _, _, _, _, rfl, rfl, SqT.of hp, at_of (j := 1) rfl rfl, pa, _, rfl, .inl (SqL.of ga), fun l1 hl1 => ?_⟩
      have s1 := same_new (o := .lst (c.map V.int)) hl1
      have hp1 := s1 _ _ hp
      have d1 : (upd H l1 (.lst (c.map V.int))) l1 = some (.lst (c.map V.int)) := upd_same
      generalize upd H l1 (.lst (c.map V.int)) = H1 at s1 hp1 d1 ⊢
      refine ⟨_, rfl, _, _, _, _, rfl, rfl, SqT.of hp1, at_of (j := 2) rfl rfl, fun x dx nx ndx ndn => ?_⟩
      refine ⟨x, dx, l1, _, _, rfl, upd_same, same_mk nx ndx _ _ d1, fun t1 H3 k1 hx h1 fr => ⟨rfl, ?_⟩⟩
      exact q x H3 (s1.trans ((same_mk (C := T.c_Differ) nx ndx).trans' fr nx)) ⟨dx, t1, hx, h1⟩
def sp_law_distance (T : Txt K mg) : Sp := fun vs H Q _ => ∃ (a b : Addr) (xs ys : List Int), vs = [.ref a, .ref b] ∧ (H a = some (.lst (xs.map V.int))) ∧ (H b = some (.lst (ys.map V.int))) ∧ (xs.length = ys.length) ∧ (xs.length ≤ 1000) ∧ (Bd 1000000000000 xs) ∧ (Bd 1000000000000 ys) ∧ Q (.int (dist xs ys)) H
set_option maxHeartbeats 4000000 in
theorem ok_law_distance (T : Txt K mg) : FnOk P w K mg base CX0 1 T.f_law_distance T.d_law_distance ["a", "b"] (sp_law_distance T) := by
  refine T.F_law_distance.ok sc_law_distance (fun vs H Q E h => ?_) (fun cdv A outer s H vs Q E hr h => ?_)
  · obtain ⟨a, b, xs, ys, rfl, _⟩ := h
    rfl
  · obtain ⟨a, b, xs, ys, rfl, ha, hb, hl, h1, bx, by_, q⟩ := h
    refine ⟨_, (pss_cons (ps_set (i := 2) sc_law_distance.nd rfl (.inl rfl) pe_int) 
      (pss_cons (ps_for PassesOwn.never rfl (pi_range1 rfl T.m_range (pa_cons (pe_callB call_len_seq (by rfl) T.m_len PySem.boot_len (pa_cons (pv 0) pa_nil)) pa_nil)) (pg_name (i := 3) sc_law_distance.nd rfl (.inl rfl)) (pss_one (ps_set (i := 2) sc_law_distance.nd rfl (.inl rfl) (pe_op op_add (pv 2) (pe_op op_mul (pe_op op_sub (pe_ix ix_list (pv 0) (pv 3) (fun _ _ => rfl)) (pe_ix ix_list (pv 1) (pv 3) (fun _ _ => rfl))) (pe_op op_sub (pe_ix ix_list (pv 0) (pv 3) (fun _ _ => rfl)) (pe_ix ix_list (pv 1) (pv 3) (fun _ _ => rfl)))))))) 
      (pss_one (ps_ret (pv 2))))), ?_⟩
    refine ⟨_, rfl, a, _, rfl, .inl (SqL.of ha), xs.length, by rw [List.length_map], by omega, by omega, ?_⟩
    refine for_range (lo := 0) (n := xs.length) (fun i σ H' => H' = H ∧ ∃ y, σ = [some (.ref a), some (.ref b), some (.int (dist (xs.take i) (ys.take i))), y]) ⟨rfl, none, by simp [dist]; rfl⟩ ?_ ?_
    · rintro i σ H' hi ⟨rfl, y, rfl⟩
      obtain ⟨x, hx⟩ : ∃ x, xs[i]? = some x := ⟨xs[i], List.getElem?_eq_getElem hi⟩
      obtain ⟨z, hz⟩ : ∃ z, ys[i]? = some z := ⟨ys[i]'(by omega), List.getElem?_eq_getElem (by omega)⟩
      have b1 := bx.at hx
      have b2 := by_.at hz
      have e0 : (0 : Int) + (i : Int) = (i : Int) := by omega
      refine ⟨_, rfl, _, rfl, _, rfl, a, _, _, _, rfl, rfl, SqL.of ha, at_of e0 (map_get hx), _, rfl, _, rfl, b, _, _, _, rfl, rfl, SqL.of hb, at_of e0 (map_get hz), _, _, rfl, rfl, ?_⟩
      refine ⟨_, rfl, _, rfl, a, _, _, _, rfl, rfl, SqL.of ha, at_of e0 (map_get hx), _, rfl, _, rfl, b, _, _, _, rfl, rfl, SqL.of hb, at_of e0 (map_get hz), _, _, rfl, rfl, _, _, rfl, rfl, .inl ⟨by omega, by omega⟩, _, _, rfl, rfl, rfl, some (V.int ((0 : Int) + (i : Int))), ?_⟩
      rw [dist_take hx hz]
      rfl
    · rintro σ H' ⟨rfl, y, rfl⟩
      rw [List.take_of_length_le (Nat.le_refl _), List.take_of_length_le (by omega)]
      exact ⟨_, rfl, q⟩
def sp_law_differing (T : Txt K mg) : Sp := fun vs H Q _ => ∃ (a b : Addr) (xs ys : List Int), vs = [.ref a, .ref b] ∧ (H a = some (.lst (xs.map V.int))) ∧ (H b = some (.lst (ys.map V.int))) ∧ (xs.length = ys.length) ∧ (xs.length ≤ 1000) ∧ ∀ H', Same H H' → Q (.int (ter fNe xs ys).sum) H'
set_option maxHeartbeats 4000000 in
theorem ok_law_differing (T : Txt K mg) : FnOk P w K mg base CX0 1 T.f_law_differing T.d_law_differing ["a", "b"] (sp_law_differing T) := by
  refine T.F_law_differing.ok sc_law_differing (fun vs H Q E h => ?_) (fun cdv A outer s H vs Q E hr h => ?_)
  · obtain ⟨a, b, xs, ys, rfl, _⟩ := h
    rfl
  · obtain ⟨a, b, xs, ys, rfl, ha, hb, hl, h1, q⟩ := h
    refine ⟨_, (pss_one (ps_ret (pe_callB call_len_seq (by rfl) T.m_len PySem.boot_len (pa_cons (pe_lc (own := [("k", 2)]) (g := gName 2) rfl sc_law_differing.nd (pi_range1 rfl T.m_range (pa_cons (pe_callB call_len_seq (by rfl) T.m_len PySem.boot_len (pa_cons (pv 0) pa_nil)) pa_nil)) (blkOk_by (own := [("k", 2)]) (N := ["a", "b", "k"]) (sc := defScope s_law_differing) (by decide +kernel)) (fun _ _ _ _ _ => (pg_name (i := 2) sc_law_differing.nd rfl (Or.inl rfl))) (fun _ _ _ _ _ => (by exact pts_one (pt_cmpR op_ne (pe_ix (r := rIxL K) (by exact ix_list) (pv 0) (pv 2) (fun _ _ => rfl)) (pe_ix (r := rIxL K) (by exact ix_list) (pv 1) (pv 2) (fun _ _ => rfl)) (nomark _)))) (fun _ _ _ _ _ => (pv 2))) pa_nil)))), ?_⟩
    refine ⟨_, rfl, a, _, rfl, .inl (SqL.of ha), xs.length, by rw [List.length_map], by omega, by omega, fun D hD => ?_⟩
    refine lc_range (lo := 0) (n := xs.length) (fun i H' => Same H H' ∧ ∃ acc : List V, H' D = some (.lst acc) ∧ acc.length ≤ i ∧ (acc.length : Int) = ((ter fNe xs ys).take i).sum) ⟨same_new hD, [], upd_same, Nat.le_refl 0, rfl⟩ ?_ ?_
    · rintro i H1 hi ⟨sm, acc, hD1, l1, l2⟩
      have e0 : (0 : Int) + (i : Int) = (i : Int) := by omega
      obtain ⟨x, hx⟩ : ∃ x, xs[i]? = some x := ⟨xs[i], List.getElem?_eq_getElem hi⟩
      obtain ⟨y, hy⟩ : ∃ y, ys[i]? = some y := ⟨ys[i]'(by omega), List.getElem?_eq_getElem (by omega)⟩
      have st := sum_take (ter_get (f := fNe) hx hy)
      refine ⟨rfl, _, rfl, _, rfl, a, _, _, _, rfl, rfl, SqL.of (sm _ _ ha), at_of e0 (map_get hx), _, rfl, _, rfl, b, _, _, _, rfl, rfl, SqL.of (sm _ _ hb), at_of e0 (map_get hy), rfl, _, rfl, ?_⟩
      by_cases e : x = y
      · have z : fNe x y = 0 := by unfold fNe; rw [if_pos e]
        rw [decide_eq_true (congrArg V.int e)]
        exact iteF ⟨sm, acc, hD1, by omega, by omega⟩
      · have z : fNe x y = 1 := by unfold fNe; rw [if_neg e]
        rw [decide_eq_false (fun h => e (V.int.inj h))]
        exact iteT ⟨_, rfl, acc, hD1, len_le (by omega), same_set sm hD, _, upd_same, by simp; omega, by simp; omega⟩
    · rintro H1 ⟨sm, acc, hD1, l1, l2⟩
      rw [← ter_len (f := fNe) hl, List.take_length] at l2
      refine ⟨D, acc, rfl, .inl (SqL.of hD1), ?_⟩
      rw [l2]
      exact q H1 sm
def sp_law_true_parts (T : Txt K mg) : Sp := fun vs H Q _ => ∃ (st sc lv lo : Addr) (xs : List Int) (us : List V) (oss : List (List Int)), vs = [.ref st, .ref lv, .ref lo] ∧ (StAt H st sc) ∧ (H lv = some (.lst (xs.map V.int))) ∧ (lv ≠ st) ∧ (H lo = some (.lst us)) ∧ (lo ≠ st) ∧ (Dts [st] H us (oss.map intsD)) ∧ (1 ≤ xs.length) ∧ (xs.length ≤ 4) ∧ (∀ o ∈ oss, o.length = xs.length) ∧ (Bd 300 xs) ∧ (∀ o ∈ oss, Bd 300 o) ∧ (oss.length ≤ 2) ∧ ∀ (t : Addr) (ps : List Pt) (H' : Hp), VFOk (.parts ps) → (∀ v ∈ xs :: oss, holdsB v (.parts ps) = true) → Dt [st] H' (.ref t) (vfD (.parts ps)) → StAt H' st sc → Fr st H H' → Q (.ref t) H'
set_option maxHeartbeats 16000000 in
theorem ok_law_true_parts (T : Txt K mg) : FnOk P w K mg base CX0 3 T.f_law_true_parts T.d_law_true_parts ["state", "vector", "others"] (sp_law_true_parts T) := by
  have G_law_next : FnOk P w K mg base CX0 2 T.f_law_next T.d_law_next ["state", "many"] (sp_law_next T) := ok_law_next T
  have G_law_distance : FnOk P w K mg base CX0 1 T.f_law_distance T.d_law_distance ["a", "b"] (sp_law_distance T) := ok_law_distance T
  refine T.F_law_true_parts.ok sc_law_true_parts (fun vs H Q E h => ?_) (fun cdv A outer s H vs Q E hr h => ?_)
  · obtain ⟨st, sc, lv, lo, xs, us, oss, rfl, _⟩ := h
    rfl
  · obtain ⟨st, sc, lv, lo, xs, us, oss, rfl, hS, hv, nlv, ho, nlo, tu, l1, l4, ll, bx, bo, lo2, q⟩ := h
    refine ⟨_, (pss_cons (ps_set (i := 3) sc_law_true_parts.nd rfl (.inl rfl) (pe_lst pa_nil)) 
      (pss_cons (ps_set (i := 4) sc_law_true_parts.nd rfl (.inl rfl) pe_int) 
      (pss_cons (ps_for PassesOwn.never rfl (pi_range1 rfl T.m_range (pa_cons pe_int pa_nil)) (pg_name (i := 5) sc_law_true_parts.nd rfl (.inl rfl)) (pss_cons (ps_set (i := 6) sc_law_true_parts.nd rfl (.inl rfl) (pe_callB (call_min2 rfl) (by rfl) T.m_min (by decide +kernel) (pa_cons (pe_op op_sub (pe_callB call_len_seq (by rfl) T.m_len PySem.boot_len (pa_cons (pv 1) pa_nil)) (pv 4)) (pa_cons (pe_call G_law_next (hr.mono (by decide)) (by rfl) T.g_law_next T.F_law_next.kp T.b_law_next .nil pass0 (pa_cons (pv 0) (pa_cons pe_int pa_nil))) pa_nil)))) 
      (pss_cut (ps_if (pt_cmpR op_eq (pv 5) pe_int (nomark _)) (pss_one (ps_set (i := 6) sc_law_true_parts.nd rfl (.inl rfl) (pe_op op_sub (pe_callB call_len_seq (by rfl) T.m_len PySem.boot_len (pa_cons (pv 1) pa_nil)) (pv 4)))) pss_nil) 
      (pss_cons (ps_setLc (i := 7) (own := [("number", 8)]) (g := gName 8) rfl sc_law_true_parts.nd rfl rfl (sw_true rfl rfl rfl (by decide +kernel)) (pi_list (pe_slice sl_list (pv 1) (po_some (pv 4)) (po_some (pe_op op_add (pv 4) (pv 6))))) (blkOk_by (own := [("number", 8)]) (N := ["state", "vector", "others", "parts", "place", "k", "long", "centre", "number", "radius", "other"]) (sc := defScope s_law_true_parts) (by decide +kernel)) (fun _ _ _ _ _ => (pg_name (i := 8) sc_law_true_parts.nd rfl (Or.inl rfl))) (fun _ _ _ _ _ => pts_nil) (fun _ _ _ _ _ => (pe_op op_sub (pe_op op_add (pv 8) (pe_call G_law_next (hr.mono (by decide)) (by rfl) T.g_law_next T.F_law_next.kp T.b_law_next .nil pass0 (pa_cons (pv 0) (pa_cons pe_int pa_nil)))) pe_int))) 
      (pss_cons (ps_set (i := 9) sc_law_true_parts.nd rfl (.inl rfl) pe_int) 
      (pss_cons (ps_for PassesOwn.never rfl (pi_list (pe_op op_cat (pe_lst (pa_cons (pv 1) pa_nil)) (pv 2))) (pg_name (i := 10) sc_law_true_parts.nd rfl (.inl rfl)) (pss_one (ps_set (i := 9) sc_law_true_parts.nd rfl (.inl rfl) (pe_callB (call_max2 rfl) (by rfl) T.m_max (by decide +kernel) (pa_cons (pv 9) (pa_cons (pe_call G_law_distance (hr.mono (by decide)) (by rfl) T.g_law_distance T.F_law_distance.kp T.b_law_distance .nil pass0 (pa_cons (pv 7) (pa_cons (pe_slice sl_list (pv 10) (po_some (pv 4)) (po_some (pe_op op_add (pv 4) (pv 6)))) pa_nil))) pa_nil)))))) 
      (pss_cons (ps_expr (pe_bm PySem.F.plainAttrs_list PySem.F.slot_list_append PySem.F.type_list_append mt_append (pv 3) (pa_cons (pe_tup (pa_cons (pv 4) (pa_cons (pv 7) (pa_cons (pe_op op_add (pv 9) (pe_call G_law_next (hr.mono (by decide)) (by rfl) T.g_law_next T.F_law_next.kp T.b_law_next .nil pass0 (pa_cons (pv 0) (pa_cons pe_int pa_nil)))) pa_nil)))) pa_nil))) 
      (pss_cons (ps_set (i := 4) sc_law_true_parts.nd rfl (.inl rfl) (pe_op op_add (pe_op op_add (pv 4) (pv 6)) (pe_ix ix_list (pe_lst (pa_cons pe_int (pa_cons pe_int (pa_cons pe_int (pa_cons pe_int pa_nil))))) (pe_call G_law_next (hr.mono (by decide)) (by rfl) T.g_law_next T.F_law_next.kp T.b_law_next .nil pass0 (pa_cons (pv 0) (pa_cons pe_int pa_nil))) (fun _ _ => rfl)))) 
      (pss_one (ps_if (pt_cmpR op_gt (pv 4) (pe_callB call_len_seq (by rfl) T.m_len PySem.boot_len (pa_cons (pv 1) pa_nil)) (nomark _)) (pss_one (ps_set (i := 4) sc_law_true_parts.nd rfl (.inl rfl) (pe_callB call_len_seq (by rfl) T.m_len PySem.boot_len (pa_cons (pv 1) pa_nil)))) pss_nil)))))))))) 
      (pss_one (ps_ret (pe_tup (pa_cons pe_str (pa_cons (pv 3) pa_nil)))))))), ?_⟩
    have lu := tu.length
    rw [List.length_map] at lu
    refine ⟨Nat.zero_le _, fun D hD => ?_⟩
    have nD : D ≠ st := st_new hS hD
    refine ⟨3, rfl, by decide, by decide, for_range (lo := 0) (n := 3) (fun i σ H' => StAt H' st sc ∧ Fr st H H' ∧ ∃ (ps : List Pt) (pl : Int), ps.length = i ∧ (∀ p ∈ ps, PtOk p) ∧ Bl [st] D H' (ps.map ptD) ∧ 0 ≤ pl ∧ pl ≤ xs.length ∧ (∀ v ∈ xs :: oss, ∀ p ∈ ps, nearB v p = true) ∧ ∃ (y5 y6 y7 y8 y9 y10 : Option V), σ = [some (.ref st), some (.ref lv), some (.ref lo), some (.ref D), some (.int pl), y5, y6, y7, y8, y9, y10])
      ⟨hS.new hD, Fr.new hD, [], 0, rfl, fun _ h => (nomatch h), Bl.nil, by decide, by omega, fun _ _ _ h => (nomatch h), none, none, none, none, none, none, rfl⟩ ?_ ?_⟩
    rotate_left
    · rintro σ H' ⟨hS5, f5, ps, pl, lp, ok, B5, q0, q1, nr, y5, y6, y7, y8, y9, y10, rfl⟩
      refine ⟨_, rfl, (by show 2 ≤ sizeLine; decide), fun t ht => ?_⟩
      exact q t ps _ ⟨by omega, ok⟩ (fun v hv => List.all_eq_true.mpr fun p hp => nr v hv p hp) (.tup (not_in1 (st_new hS5 ht)) upd_same (.cons (.str _) (.cons ((B5.done (not_in1 nD)).new ht) .nil))) (hS5.new ht) (f5.trans (Fr.new ht))
    rintro i σ H1 hi ⟨hS1, f1, ps, pl, lp, ok, B1, p0, p1, nr, y5, y6, y7, y8, y9, y10, rfl⟩
    have hv1 := f1 _ _ hv nlv
    -- long
    refine ⟨_, rfl, _, _, rfl, .inl (SqL.of hv1), _, rfl, _, _, rfl, rfl, _, rfl, st, sc, 3, rfl, hS1, by decide, by decide +kernel, fun g H2 g0 g1 hS2 o2 => ⟨_, _, rfl, ?_⟩⟩
    have f2 := f1.trans o2.fr
    have hv2 := f2 _ _ hv nlv
    have B2 := B1.fr nD in1 o2.fr
    refine ⟨fun σ H' => H' = H2 ∧ ∃ lg : Int, 0 ≤ lg ∧ lg ≤ xs.length - pl ∧ ∃ (y5 y7 y8 y9 y10 : Option V), σ = [some (.ref st), some (.ref lv), some (.ref lo), some (.ref D), some (.int pl), y5, some (.int lg), y7, y8, y9, y10], ?_, ?_⟩
    · refine ⟨_, rfl, rfl, _, rfl, ite2 (fun _ => ?_) (fun _ => ?_)⟩
      · refine ⟨_, rfl, _, _, rfl, .inl (SqL.of hv2), _, rfl, _, _, rfl, rfl, rfl, (xs.length : Int) - pl, by omega, Int.le_refl _, ?_⟩
        rw [List.length_map]
        exact ⟨_, _, _, _, _, rfl⟩
      · rw [List.length_map]
        refine ⟨rfl, _, ?_, ?_, _, _, _, _, _, rfl⟩
        · split <;> omega
        · split <;> omega
    rintro σ' H4 ⟨rfl, lg, g0, g1, y5, y7, y8, y9, y10, rfl⟩
    -- centre
    refine ⟨_, rfl, _, rfl, _, rfl, _, rfl, _, rfl, _, _, rfl, rfl, _, rfl, lv, _, rfl, SqL.of hv2, fun C nC => ?_⟩
    rw [cutV_ints p0 (by omega) (by omega), show (pl + lg).toNat - pl.toNat = lg.toNat by omega]
    have sC := same_new (o := .lst ((cutI xs pl.toNat lg.toNat).map V.int)) nC
    have dC : (upd H4 C (.lst ((cutI xs pl.toNat lg.toNat).map V.int))) C = some (.lst ((cutI xs pl.toNat lg.toNat).map V.int)) := upd_same
    have hS5 := hS2.new (o := .lst ((cutI xs pl.toNat lg.toNat).map V.int)) nC
    have nCs : C ≠ st := st_new hS2 nC
    have f5 := f2.trans (same_fr (st := st) sC)
    have B5 := B2.same sC
    generalize upd H4 C (.lst ((cutI xs pl.toNat lg.toNat).map V.int)) = H5 at sC dC hS5 f5 B5 ⊢
    have lc : (cutI xs pl.toNat lg.toNat).length = lg.toNat := cutI_len (by omega)
    refine ⟨C, rfl, ⟨_, SqL.of dC⟩, fun c hc => ?_⟩
    have ncs : c ≠ st := st_new hS5 hc
    refine lc_list (K := K) (a := C) (xs := (cutI xs pl.toNat lg.toNat).map V.int) (fun j H' => StAt H' st sc ∧ Fr st H5 H' ∧ ∃ zs : List Int, zs.length = j ∧ Bd 310 zs ∧ H' c = some (.lst (zs.map V.int))) ⟨hS5.new hc, Fr.new hc, [], rfl, fun _ h => (nomatch h), upd_same⟩ (fun j H' _ h => SqL.of (h.2.1 _ _ dC nCs)) ?_ ?_
    · rintro j v H6 hj ⟨hS6, f6, zs, lz, bz, hc6⟩
      obtain ⟨x, rfl, hx⟩ := get_map hj
      have bX := (cutI_bd bx).at hx
      have jl := (List.getElem?_eq_some_iff.mp hx).1
      refine ⟨rfl, _, rfl, _, rfl, st, sc, 7, rfl, hS6, by decide, by decide +kernel, fun d H7 d0 d1 hS7 o7 => ⟨_, _, rfl, rfl, _, _, rfl, rfl, _, (o7 c ncs).trans hc6, ?_, ?_⟩⟩
      · rw [List.length_map, lz]
        exact len_le (by omega)
      · refine ⟨hS7.set hS5 hc, (f6.trans o7.fr).set hc, zs ++ [x + d - 3], by simp [lz], fun z hz => ?_, by rw [upd_same, List.map_append]; rfl⟩
        rcases List.mem_append.mp hz with h | h
        · exact bz z h
        · rw [List.mem_singleton] at h
          omega
    rintro H6 ⟨hS6, f6, zs, lz, bz, hc6⟩
    rw [List.length_map, lc] at lz
    have f6' := f5.trans f6
    have hv6 := f6' _ _ hv nlv
    have ho6 := f6' _ _ ho nlo
    have tu6 : Dts [st] H6 us (oss.map intsD) := tu.fr f6' in1
    have B6 := B5.fr nD in1 f6
    have vz : VecOk zs := .of (by omega) bz (by decide)
    -- radius = 0; for other in [vector] + others
    refine ⟨_, rfl, (by show 1 ≤ sizeLine; decide), fun l8 hl8 => ?_⟩
    have s8 := same_new (o := .lst [V.ref lv]) hl8
    refine ⟨_, rfl, l8, lo, _, _, rfl, rfl, upd_same, s8 _ _ ho6, ?_, fun l9 hl9 => ?_⟩
    · show 1 + us.length ≤ sizeLine
      exact Nat.le_trans (show 1 + us.length ≤ 1000 by omega) (by decide)
    have s9 := s8.trans (same_new (o := .lst ([V.ref lv] ++ us)) hl9)
    have d9 : (upd (upd H6 l8 (.lst [V.ref lv])) l9 (.lst ([V.ref lv] ++ us))) l9 = some (.lst ([V.ref lv] ++ us)) := upd_same
    generalize upd (upd H6 l8 (.lst [V.ref lv])) l9 (.lst ([V.ref lv] ++ us)) = H9 at s9 d9 ⊢
    have hS9 := hS6.same s9
    have items : ∀ (j : Nat) (y : V), ([V.ref lv] ++ us)[j]? = some y → ∃ (b : Addr) (v : List Int), y = .ref b ∧ H9 b = some (.lst (v.map V.int)) ∧ (xs :: oss)[j]? = some v := fun j y e => by
      cases j with
      | zero =>
        cases Option.some.inj e
        exact ⟨lv, xs, rfl, s9 _ _ hv6, rfl⟩
      | succ j =>
        have e' : us[j]? = some y := e
        obtain ⟨b, v, e1, _, e2, e3⟩ := dts_get tu6 e'
        exact ⟨b, v, e1, s9 _ _ e2, e3⟩
    have lenv : ∀ v ∈ xs :: oss, v.length = xs.length := fun v hv => by
      rcases List.mem_cons.mp hv with e | e
      · rw [e]
      · exact ll v e
    have bdv : ∀ v ∈ xs :: oss, Bd 300 v := fun v hv => by
      rcases List.mem_cons.mp hv with e | e
      · rw [e]; exact bx
      · exact bo v e
    refine ⟨l9, rfl, ⟨_, SqL.of d9⟩, for_list (K := K) (a := l9) (xs := [V.ref lv] ++ us) (fun j σ H' => Same H9 H' ∧ ∃ rad : Int, 0 ≤ rad ∧ rad ≤ 16000000 ∧ (∀ (m : Nat) (v : List Int), m < j → (xs :: oss)[m]? = some v → dist zs (cutI v pl.toNat lg.toNat) ≤ rad) ∧ ∃ (y5 y8 y10 : Option V), σ = [some (.ref st), some (.ref lv), some (.ref lo), some (.ref D), some (.int pl), y5, some (.int lg), some (.ref c), y8, some (.int rad), y10]) ⟨Same.refl _, 0, by decide, by decide, fun m v h => absurd h (Nat.not_lt_zero m), _, _, _, rfl⟩ (fun j σ H' _ h => SqL.of (h.1 _ _ d9)) ?_ ?_⟩
    · rintro j y σ Ha hj ⟨sa, rad, r0, r1, hr, y5, y8, y10, rfl⟩
      obtain ⟨b, v, rfl, hb, ev⟩ := items j y hj
      have hba := sa _ _ hb
      have lv' := lenv v (List.mem_of_getElem? ev)
      have bv := bdv v (List.mem_of_getElem? ev)
      have hca := sa _ _ (s9 _ _ hc6)
      refine ⟨_, rfl, _, rfl, _, rfl, _, rfl, _, rfl, _, rfl, _, rfl, _, _, rfl, rfl, _, rfl, b, _, rfl, SqL.of hba, fun E hE => ?_⟩
      rw [cutV_ints p0 (by omega) (by omega), show (pl + lg).toNat - pl.toNat = lg.toNat by omega]
      have le : (cutI v pl.toNat lg.toNat).length = lg.toNat := cutI_len (by omega)
      have sE := same_new (o := .lst ((cutI v pl.toNat lg.toNat).map V.int)) hE
      refine ⟨c, E, _, _, rfl, sE _ _ hca, upd_same, by omega, by omega, bz.wide (by decide), (cutI_bd bv).wide (by decide), ?_⟩
      have sm := sq_small (xs := zs) (ys := cutI v pl.toNat lg.toNat) (by omega) (bz.wide (by decide)) ((cutI_bd bv).wide (by decide))
      refine ⟨_, _, rfl, sa.trans sE, _, ?_, ?_, fun m w hm ew => ?_, _, _, _, rfl⟩
      · split <;> omega
      · split <;> omega
      · rcases Nat.lt_or_ge m j with g | g
        · have := hr m w g ew
          split <;> omega
        · have : m = j := by omega
          subst this
          rw [ev] at ew
          cases ew
          split <;> omega
    rintro σ Ha ⟨sa, rad, r0, r1, hr, y5, y8, y10, rfl⟩
    have hSa := hS9.same sa
    have Ba := (B6.same s9).same sa
    have hca := sa _ _ (s9 _ _ hc6)
    have fa := (f6'.trans (same_fr (st := st) s9)).trans (same_fr (st := st) sa)
    obtain ⟨vsa, dHa, ta⟩ := id Ba
    -- parts.append(..)
    refine ⟨_, rfl, .inl ⟨rfl, _, SqL.of dHa⟩, _, rfl, _, rfl, _, rfl, _, rfl, st, sc, 3, rfl, hSa, by decide, by decide +kernel, fun d Hb d0 d1 hSb ob => ⟨_, _, rfl, rfl, (by show 3 ≤ sizeLine; decide), fun t ht => ?_⟩⟩
    have Bb := Ba.fr nD in1 ob.fr
    obtain ⟨vs7, d7, t7⟩ := Bb
    have hc7 := (ob c ncs).trans hca
    have nDc : c ≠ D := (fun z => by
      rw [z, d7] at hc7
      have e7 := HO.lst.inj (Option.some.inj hc7)
      have hcD : H5 D = none := by rw [← z]; exact hc
      obtain ⟨w5, d5, _⟩ := B5
      rw [hcD] at d5
      cases d5)
    have s10 := same_new (o := .tup [V.int pl, V.ref c, V.int (rad + d)]) ht
    have l7 := t7.length
    rw [List.length_map] at l7
    have ntD : t ≠ D := (ne_of_none d7 ht).symm
    have nts : t ≠ st := st_new hSb ht
    have x8 : Dt [D, st] (upd Hb t (.tup [V.int pl, V.ref c, V.int (rad + d)])) (.ref t) (ptD (pl, zs, rad + d)) := .tup (not_in2 ntD nts) upd_same (.cons (.int _) (.cons (dtL (not_in2 nDc ncs) (s10 _ _ hc7)) (.cons (.int _) .nil)))
    have pk : PtOk (pl, zs, rad + d) := ⟨by show -1000 ≤ pl; omega, by show pl ≤ 1000; omega, vz, by show 0 ≤ rad + d; omega, by show rad + d ≤ 1000000000; omega⟩
    have B9 : Bl [st] D (upd (upd Hb t (.tup [V.int pl, V.ref c, V.int (rad + d)])) D (.lst (vs7 ++ [.ref t]))) ((ps ++ [(pl, zs, rad + d)]).map ptD) := by
      rw [List.map_append]
      exact Bl.push (s10 _ _ d7) (t7.same s10) x8
    have hSc : StAt (upd (upd Hb t (.tup [V.int pl, V.ref c, V.int (rad + d)])) D (.lst (vs7 ++ [.ref t]))) st sc := (hSb.new ht).set hS hD
    have fc : Fr st H (upd (upd Hb t (.tup [V.int pl, V.ref c, V.int (rad + d)])) D (.lst (vs7 ++ [.ref t]))) := ((fa.trans ob.fr).trans (same_fr s10)).set hD
    refine ⟨D, _, _, rfl, rfl, s10 _ _ d7, len_le (by omega), ?_⟩
    generalize upd (upd Hb t (.tup [V.int pl, V.ref c, V.int (rad + d)])) D (.lst (vs7 ++ [.ref t])) = Hc at B9 hSc fc ⊢
    have ok' : ∀ p ∈ ps ++ [(pl, zs, rad + d)], PtOk p := fun p hp => by
      rcases List.mem_append.mp hp with h | h
      · exact ok p h
      · rw [List.mem_singleton.mp h]
        exact pk
    have nr' : ∀ v ∈ xs :: oss, ∀ p ∈ ps ++ [(pl, zs, rad + d)], nearB v p = true := fun v hv p hp => by
      rcases List.mem_append.mp hp with h | h
      · exact nr v hv p h
      · rw [List.mem_singleton.mp h]
        obtain ⟨m, em⟩ := List.mem_iff_getElem?.mp hv
        have hd := hr m v (by have := (List.getElem?_eq_some_iff.mp em).1; simp at this ⊢; omega) em
        have lw := lenv v hv
        unfold nearB endF
        rw [Bool.and_eq_true, Bool.and_eq_true, decide_eq_true_iff, decide_eq_true_iff, decide_eq_true_iff]
        refine ⟨⟨p0, by show pl + (zs.length : Int) ≤ v.length; omega⟩, ?_⟩
        show (ter fSq zs (cutI v pl.toNat zs.length)).sum ≤ rad + d
        rw [lz, ← dist_ter]
        omega
    -- place
    refine ⟨_, rfl, _, rfl, _, _, rfl, rfl, (by show 4 ≤ sizeLine; decide), fun l hl => ⟨_, rfl, st, sc, 4, rfl, hSc.new hl, by decide, by decide +kernel, fun k Hd k0 k1 hSd od => ?_⟩⟩
    obtain ⟨s, hs, s3⟩ := pickI (xs := [0, 0, 0, 1]) k0 k1
    have s4 : 0 ≤ s ∧ s ≤ 1 := by
      simp at s3
      omega
    have fd := fc.trans ((same_fr (st := st) (same_new (o := .lst [V.int 0, V.int 0, V.int 0, V.int 1]) hl)).trans od.fr)
    have Bd' := (B9.same (same_new (o := .lst [V.int 0, V.int 0, V.int 0, V.int 1]) hl)).fr nD in1 od.fr
    have hvd := fd _ _ hv nlv
    refine ⟨l, _, k, _, rfl, rfl, SqL.of ((od l (st_new hSc hl)).trans upd_same), hs, _, _, rfl, rfl, ?_⟩
    refine ⟨_, rfl, _, rfl, _, _, rfl, .inl (SqL.of hvd), _, _, rfl, rfl, _, rfl, ?_⟩
    rw [List.length_map]
    refine ite2 (fun e => ?_) (fun e => ?_)
    · refine ⟨_, rfl, _, _, rfl, .inl (SqL.of hvd), ?_⟩
      rw [List.length_map]
      exact ⟨hSd, fd, _, _, by simp [lp], ok', Bd', by omega, Int.le_refl _, nr', _, _, _, _, _, _, rfl⟩
    · have c2 : ¬ (xs.length : Int) < pl + lg + s := fun z => e (decide_eq_true z)
      exact ⟨hSd, fd, _, _, by simp [lp], ok', Bd', by omega, by omega, nr', _, _, _, _, _, _, rfl⟩
def sp_law_bits (T : Txt K mg) : Sp := fun vs H Q _ => ∃ (l : Addr) (xs : List Int), vs = [.ref l] ∧ (H l = some (.lst (xs.map V.int))) ∧ (xs.length ≤ 1000) ∧ ∀ (D : Addr) (ys : List Int) (H' : Hp), ys.length = xs.length → Bits ys → H D = none → H' D = some (.lst (ys.map V.int)) → Same H H' → Q (.ref D) H'
set_option maxHeartbeats 4000000 in
theorem ok_law_bits (T : Txt K mg) : FnOk P w K mg base CX0 1 T.f_law_bits T.d_law_bits ["vector"] (sp_law_bits T) := by
  refine T.F_law_bits.ok sc_law_bits (fun vs H Q E h => ?_) (fun cdv A outer s H vs Q E hr h => ?_)
  · obtain ⟨l, xs, rfl, _⟩ := h
    rfl
  · obtain ⟨l, xs, rfl, hl, l1, q⟩ := h
    refine ⟨_, (pss_one (ps_ret (pe_lc (own := [("number", 1)]) (g := gName 1) rfl sc_law_bits.nd (pi_list (pv 0)) (blkOk_by (own := [("number", 1)]) (N := ["vector", "number"]) (sc := defScope s_law_bits) (by decide +kernel)) (fun _ _ _ _ _ => (pg_name (i := 1) sc_law_bits.nd rfl (Or.inl rfl))) (fun _ _ _ _ _ => pts_nil) (fun _ _ _ _ _ => (pe_op op_mod (pe_callTy call_int1 (by rfl) T.m_int (by decide +kernel) (pa_cons (pv 1) pa_nil)) pe_int))))), ?_⟩
    refine ⟨_, rfl, l, rfl, ⟨_, SqL.of hl⟩, fun D hD => ?_⟩
    refine lc_list (K := K) (a := l) (xs := xs.map V.int) (fun i H' => Same H H' ∧ ∃ ys : List Int, ys.length = i ∧ Bits ys ∧ H' D = some (.lst (ys.map V.int))) ⟨same_new hD, [], rfl, fun _ h => (nomatch h), upd_same⟩ (fun i H' _ h => SqL.of (h.1 _ _ hl)) ?_ ?_
    · rintro i v H1 hi ⟨sm, ys, ly, by_, hD1⟩
      obtain ⟨x, rfl, hx⟩ := get_map hi
      have il := (List.getElem?_eq_some_iff.mp hx).1
      refine ⟨rfl, _, rfl, .inl ⟨_, rfl, _, _, rfl, rfl, (by show (0 : Int) < 2; decide), _, hD1, ?_, same_set sm hD, ys ++ [x % 2], by simp [ly], fun z hz => ?_, ?_⟩⟩
      · rw [List.length_map, ly]
        exact len_le (by omega)
      · rcases List.mem_append.mp hz with h | h
        · exact by_ z h
        · rw [List.mem_singleton] at h
          omega
      · rw [upd_same, List.map_append]
        rfl
    · rintro H1 ⟨sm, ys, ly, by_, hD1⟩
      rw [List.length_map] at ly
      exact q D ys H1 ly by_ hD hD1 sm
def sp_law_true_fact (T : Txt K mg) : Sp := fun vs H Q _ => ∃ (st sc lv : Addr) (us : List V) (vss : List (List Int)) (n : Nat), vs = [.ref st, .ref lv] ∧ (StAt H st sc) ∧ (H lv = some (.lst us)) ∧ (lv ≠ st) ∧ (Dts [st] H us (vss.map intsD)) ∧ (1 ≤ vss.length) ∧ (vss.length ≤ 2) ∧ (1 ≤ n) ∧ (n ≤ 4) ∧ (∀ v ∈ vss, v.length = n) ∧ (∀ v ∈ vss, Bd 300 v) ∧ ∀ (t : Addr) (f : VF) (H' : Hp), VFOk f → NormOk f → (∀ v ∈ vss, holdsB v f = true) → Dt [st] H' (.ref t) (vfD f) → StAt H' st sc → Fr st H H' → Q (.ref t) H'
set_option maxHeartbeats 16000000 in
theorem ok_law_true_fact (T : Txt K mg) : FnOk P w K mg base CX0 4 T.f_law_true_fact T.d_law_true_fact ["state", "vectors"] (sp_law_true_fact T) := by
  have G_law_differing : FnOk P w K mg base CX0 1 T.f_law_differing T.d_law_differing ["a", "b"] (sp_law_differing T) := ok_law_differing T
  have G_law_next : FnOk P w K mg base CX0 2 T.f_law_next T.d_law_next ["state", "many"] (sp_law_next T) := ok_law_next T
  have G_law_inner : FnOk P w K mg base CX0 1 T.f_law_inner T.d_law_inner ["a", "b"] (sp_law_inner T) := ok_law_inner T
  have G_law_distance : FnOk P w K mg base CX0 1 T.f_law_distance T.d_law_distance ["a", "b"] (sp_law_distance T) := ok_law_distance T
  have G_law_vector : FnOk P w K mg base CX0 3 T.f_law_vector T.d_law_vector ["state", "size"] (sp_law_vector T) := ok_law_vector T
  have G_law_true_parts : FnOk P w K mg base CX0 3 T.f_law_true_parts T.d_law_true_parts ["state", "vector", "others"] (sp_law_true_parts T) := ok_law_true_parts T
  refine T.F_law_true_fact.ok sc_law_true_fact (fun vs H Q E h => ?_) (fun cdv A outer s H vs Q E hr h => ?_)
  · obtain ⟨st, sc, lv, us, vss, n, rfl, _⟩ := h
    rfl
  · obtain ⟨st, sc, lv, us, vss, n, rfl, hS, hl, nlv, tu, v1, v2, n1, n4, ln, bd, q⟩ := h
    refine ⟨_, (pss_cons (ps_set (i := 2) sc_law_true_fact.nd rfl (.inl rfl) (pe_call G_law_next (hr.mono (by decide)) (by rfl) T.g_law_next T.F_law_next.kp T.b_law_next .nil pass0 (pa_cons (pv 0) (pa_cons pe_int pa_nil)))) 
      (pss_cons (ps_set (i := 3) sc_law_true_fact.nd rfl (.inl rfl) (pe_ix ix_list (pv 1) pe_int (fun _ _ => rfl))) 
      (pss_cons (ps_if (pt_cmpR op_eq (pv 2) pe_int (nomark _)) (pss_one (ps_ret (pe_call G_law_true_parts (hr.mono (by decide)) (by rfl) T.g_law_true_parts T.F_law_true_parts.kp T.b_law_true_parts .nil pass0 (pa_cons (pv 0) (pa_cons (pv 3) (pa_cons (pe_slice sl_list (pv 1) (po_some pe_int) po_none) pa_nil)))))) pss_nil) 
      (pss_cons (ps_if (pt_cmpR op_eq (pv 2) pe_int (nomark _)) (pss_cons (ps_setLc (i := 4) (own := [("number", 5)]) (g := gName 5) rfl sc_law_true_fact.nd rfl rfl (sw_true rfl rfl rfl (by decide +kernel)) (pi_list (pv 3)) (blkOk_by (own := [("number", 5)]) (N := ["state", "vectors", "kind", "first", "near", "number", "rival", "vector", "low", "k", "high", "squares", "centre"]) (sc := defScope s_law_true_fact) (by decide +kernel)) (fun _ _ _ _ _ => (pg_name (i := 5) sc_law_true_fact.nd rfl (Or.inl rfl))) (fun _ _ _ _ _ => pts_nil) (fun _ _ _ _ _ => (pe_op op_sub (pe_op op_add (pv 5) (pe_call G_law_next (hr.mono (by decide)) (by rfl) T.g_law_next T.F_law_next.kp T.b_law_next .nil pass0 (pa_cons (pv 0) (pa_cons pe_int pa_nil)))) pe_int))) 
      (pss_cons (ps_set (i := 6) sc_law_true_fact.nd rfl (.inl rfl) (pe_call G_law_vector (hr.mono (by decide)) (by rfl) T.g_law_vector T.F_law_vector.kp T.b_law_vector .nil pass0 (pa_cons (pv 0) (pa_cons (pe_callB call_len_seq (by rfl) T.m_len PySem.boot_len (pa_cons (pv 3) pa_nil)) pa_nil)))) 
      (pss_cons (ps_for PassesOwn.never rfl (pi_list (pv 1)) (pg_name (i := 7) sc_law_true_fact.nd rfl (.inl rfl)) (pss_one (ps_if (pt_cmpR op_gt (pe_call G_law_distance (hr.mono (by decide)) (by rfl) T.g_law_distance T.F_law_distance.kp T.b_law_distance .nil pass0 (pa_cons (pv 7) (pa_cons (pv 4) pa_nil))) (pe_call G_law_distance (hr.mono (by decide)) (by rfl) T.g_law_distance T.F_law_distance.kp T.b_law_distance .nil pass0 (pa_cons (pv 7) (pa_cons (pv 6) pa_nil))) (nomark _)) (pss_one (ps_ret (pe_tup (pa_cons pe_str (pa_cons (pv 4) (pa_cons (pe_callTy call_list_of (by rfl) T.m_list (by decide +kernel) (pa_cons (pv 4) pa_nil)) pa_nil)))))) pss_nil))) 
      (pss_one (ps_ret (pe_tup (pa_cons pe_str (pa_cons (pv 4) (pa_cons (pv 6) pa_nil))))))))) pss_nil) 
      (pss_cons (ps_if (pt_cmpR op_eq (pv 2) pe_int (nomark _)) (pss_cons (ps_setLc (i := 8) (own := [("k", 9)]) (g := gName 9) rfl sc_law_true_fact.nd rfl rfl (sw_true rfl rfl rfl (by decide +kernel)) (pi_range1 rfl T.m_range (pa_cons (pe_callB call_len_seq (by rfl) T.m_len PySem.boot_len (pa_cons (pv 3) pa_nil)) pa_nil)) (blkOk_by (own := [("k", 9)]) (N := ["state", "vectors", "kind", "first", "near", "number", "rival", "vector", "low", "k", "high", "squares", "centre"]) (sc := defScope s_law_true_fact) (by decide +kernel)) (fun _ _ _ _ _ => (pg_name (i := 9) sc_law_true_fact.nd rfl (Or.inr rfl))) (fun _ _ _ _ _ => pts_nil) (fun _ _ _ _ _ => (pe_op op_sub (pe_callB (r := rMin K) (by exact (cr_min rfl)) (by rfl) T.m_min (by decide +kernel) (pa_cons (pe_lc (own := [("vector", 7)]) (g := gName 7) rfl sc_law_true_fact.nd (pi_listB (K := K) rfl (pv 1)) (blkOk_by (own := [("vector", 7)]) (N := ["state", "vectors", "kind", "first", "near", "number", "rival", "vector", "low", "k", "high", "squares", "centre"]) (sc := (relS { kind := PySem.ScopeKind.function, names := [ (PySem.Str.ofString ".0", PySem.NameKind.local), (PySem.Str.ofString "k", PySem.NameKind.cell), (PySem.Str.ofString "min", PySem.NameKind.globalImplicit), (PySem.Str.ofString "_law_next", PySem.NameKind.globalImplicit), (PySem.Str.ofString "state", PySem.NameKind.free), (PySem.Str.ofString "vectors", PySem.NameKind.free)], isGenerator := false, isCoroutine := false, more := [] : PySem.Scope } (defScope s_law_true_fact))) (by decide +kernel)) (fun _ _ _ _ _ => (pg_name (i := 7) sc_law_true_fact.nd rfl (Or.inl rfl))) (fun _ _ _ _ _ => pts_nil) (fun _ _ _ _ _ => (pe_ix (r := rIxL K) (by exact ix_list) (pv 7) (pv 9) (fun _ _ => rfl)))) pa_nil)) (pe_call G_law_next (hr.mono (by decide)) (by rfl) T.g_law_next T.F_law_next.kp T.b_law_next .nil pass0 (pa_cons (pv 0) (pa_cons pe_int pa_nil)))))) 
      (pss_cons (ps_setLc (i := 10) (own := [("k", 9)]) (g := gName 9) rfl sc_law_true_fact.nd rfl rfl (sw_true rfl rfl rfl (by decide +kernel)) (pi_range1 rfl T.m_range (pa_cons (pe_callB call_len_seq (by rfl) T.m_len PySem.boot_len (pa_cons (pv 3) pa_nil)) pa_nil)) (blkOk_by (own := [("k", 9)]) (N := ["state", "vectors", "kind", "first", "near", "number", "rival", "vector", "low", "k", "high", "squares", "centre"]) (sc := defScope s_law_true_fact) (by decide +kernel)) (fun _ _ _ _ _ => (pg_name (i := 9) sc_law_true_fact.nd rfl (Or.inr rfl))) (fun _ _ _ _ _ => pts_nil) (fun _ _ _ _ _ => (pe_op op_add (pe_callB (r := rMax K) (by exact (cr_max rfl)) (by rfl) T.m_max (by decide +kernel) (pa_cons (pe_lc (own := [("vector", 7)]) (g := gName 7) rfl sc_law_true_fact.nd (pi_listB (K := K) rfl (pv 1)) (blkOk_by (own := [("vector", 7)]) (N := ["state", "vectors", "kind", "first", "near", "number", "rival", "vector", "low", "k", "high", "squares", "centre"]) (sc := (relS { kind := PySem.ScopeKind.function, names := [ (PySem.Str.ofString ".0", PySem.NameKind.local), (PySem.Str.ofString "k", PySem.NameKind.cell), (PySem.Str.ofString "max", PySem.NameKind.globalImplicit), (PySem.Str.ofString "_law_next", PySem.NameKind.globalImplicit), (PySem.Str.ofString "state", PySem.NameKind.free), (PySem.Str.ofString "vectors", PySem.NameKind.free)], isGenerator := false, isCoroutine := false, more := [] : PySem.Scope } (defScope s_law_true_fact))) (by decide +kernel)) (fun _ _ _ _ _ => (pg_name (i := 7) sc_law_true_fact.nd rfl (Or.inl rfl))) (fun _ _ _ _ _ => pts_nil) (fun _ _ _ _ _ => (pe_ix (r := rIxL K) (by exact ix_list) (pv 7) (pv 9) (fun _ _ => rfl)))) pa_nil)) (pe_call G_law_next (hr.mono (by decide)) (by rfl) T.g_law_next T.F_law_next.kp T.b_law_next .nil pass0 (pa_cons (pv 0) (pa_cons pe_int pa_nil)))))) 
      (pss_one (ps_ret (pe_tup (pa_cons pe_str (pa_cons (pv 8) (pa_cons (pv 10) pa_nil)))))))) pss_nil) 
      (pss_cons (ps_if (pt_cmpR op_eq (pv 2) pe_int (nomark _)) (pss_cons (ps_setLc (i := 11) (own := [("vector", 7)]) (g := gName 7) rfl sc_law_true_fact.nd rfl rfl (sw_true rfl rfl rfl (by decide +kernel)) (pi_list (pv 1)) (blkOk_by (own := [("vector", 7)]) (N := ["state", "vectors", "kind", "first", "near", "number", "rival", "vector", "low", "k", "high", "squares", "centre"]) (sc := defScope s_law_true_fact) (by decide +kernel)) (fun _ _ _ _ _ => (pg_name (i := 7) sc_law_true_fact.nd rfl (Or.inl rfl))) (fun _ _ _ _ _ => pts_nil) (fun _ _ _ _ _ => (pe_call G_law_inner (hr.mono (by decide)) (by rfl) T.g_law_inner T.F_law_inner.kp T.b_law_inner .nil pass0 (pa_cons (pv 7) (pa_cons (pv 7) pa_nil))))) 
      (pss_one (ps_ret (pe_tup (pa_cons pe_str (pa_cons (pe_callB (call_max2 rfl) (by rfl) T.m_max (by decide +kernel) (pa_cons pe_int (pa_cons (pe_op op_sub (pe_callB (cr_min rfl) (by rfl) T.m_min (by decide +kernel) (pa_cons (pv 11) pa_nil)) (pe_call G_law_next (hr.mono (by decide)) (by rfl) T.g_law_next T.F_law_next.kp T.b_law_next .nil pass0 (pa_cons (pv 0) (pa_cons pe_int pa_nil)))) pa_nil))) (pa_cons (pe_op op_add (pe_callB (cr_max rfl) (by rfl) T.m_max (by decide +kernel) (pa_cons (pv 11) pa_nil)) (pe_call G_law_next (hr.mono (by decide)) (by rfl) T.g_law_next T.F_law_next.kp T.b_law_next .nil pass0 (pa_cons (pv 0) (pa_cons pe_int pa_nil)))) pa_nil))))))) pss_nil) 
      (pss_cons (ps_set (i := 12) sc_law_true_fact.nd rfl (.inr rfl) (pe_lc (own := [("number", 5)]) (g := gName 5) rfl sc_law_true_fact.nd (pi_list (pv 3)) (blkOk_by (own := [("number", 5)]) (N := ["state", "vectors", "kind", "first", "near", "number", "rival", "vector", "low", "k", "high", "squares", "centre"]) (sc := defScope s_law_true_fact) (by decide +kernel)) (fun _ _ _ _ _ => (pg_name (i := 5) sc_law_true_fact.nd rfl (Or.inl rfl))) (fun _ _ _ _ _ => pts_nil) (fun _ _ _ _ _ => (pe_op op_add (pv 5) (pe_ix (r := rIxL K) (by exact ix_list) (pe_lst (pa_cons pe_int (pa_cons pe_int (pa_cons pe_int pa_nil)))) (pe_call G_law_next (hr.mono (by decide)) (by rfl) T.g_law_next T.F_law_next.kp T.b_law_next .nil pass0 (pa_cons (pv 0) (pa_cons pe_int pa_nil))) (fun _ _ => rfl)))))) 
      (pss_one (ps_ret (pe_tup (pa_cons pe_str (pa_cons (pv 12) (pa_cons (pe_op op_add (pe_callB (cr_max rfl) (by rfl) T.m_max (by decide +kernel) (pa_cons (pe_lc (own := [("vector", 7)]) (g := gName 7) rfl sc_law_true_fact.nd (pi_list (pv 1)) (blkOk_by (own := [("vector", 7)]) (N := ["state", "vectors", "kind", "first", "near", "number", "rival", "vector", "low", "k", "high", "squares", "centre"]) (sc := defScope s_law_true_fact) (by decide +kernel)) (fun _ _ _ _ _ => (pg_name (i := 7) sc_law_true_fact.nd rfl (Or.inl rfl))) (fun _ _ _ _ _ => pts_nil) (fun _ _ _ _ _ => (pe_call G_law_differing (hr.mono (by decide)) (by rfl) T.g_law_differing T.F_law_differing.kp T.b_law_differing .nil pass0 (pa_cons (pv 12) (pa_cons (pv 7) pa_nil))))) pa_nil)) (pe_call G_law_next (hr.mono (by decide)) (by rfl) T.g_law_next T.F_law_next.kp T.b_law_next .nil pass0 (pa_cons (pv 0) (pa_cons pe_int pa_nil)))) pa_nil))))))))))))), ?_⟩
    have lu := tu.length
    rw [List.length_map] at lu
    refine ⟨_, rfl, st, sc, 5, rfl, hS, by decide, by decide +kernel, fun kd H1 kd0 kd1 hS1 o1 => ?_⟩
    have f1 := o1.fr
    have hl1 := f1 _ _ hl nlv
    have tu1 : Dts [st] H1 us (vss.map intsD) := tu.fr f1 in1
    obtain ⟨u0, hu0⟩ : ∃ u, us[0]? = some u := ⟨us[0]'(by omega), List.getElem?_eq_getElem _⟩
    obtain ⟨pf, first, rfl, npf', hpf, ef⟩ := dts_get tu1 hu0
    have npf : pf ≠ st := fun z => npf' (by rw [z]; exact in1)
    have mf := List.mem_of_getElem? ef
    have lf := ln first mf
    have bf := bd first mf
    refine ⟨_, rfl, _, _, _, _, rfl, rfl, SqL.of hl1, at_of (j := 0) rfl hu0, ?_⟩
    refine ⟨_, rfl, rfl, _, rfl, ite2 (fun _ => ?_) (fun _ => ?_)⟩
    · -- parts
      refine ⟨_, rfl, _, rfl, _, rfl, _, rfl, lv, _, rfl, SqL.of hl1, fun lo hlo => ?_⟩
      rw [cut1]
      have s2 := same_new (o := .lst (us.drop 1)) hlo
      have tud : Dts [st] H1 (us.drop 1) ((vss.drop 1).map intsD) := by
        match us, vss, tu1 with
        | u :: us, v :: vss, .cons _ t => exact t
        | [], [], _ => exact .nil
      refine ⟨st, sc, pf, lo, first, us.drop 1, vss.drop 1, rfl, hS1.new hlo, s2 _ _ hpf, npf, upd_same, st_new hS1 hlo, tud.same s2, by omega, by omega, fun o ho => ?_, bf, fun o ho => bd o (List.mem_of_mem_drop ho), by rw [List.length_drop]; omega, fun t ps H3 ok hold dt hS3 f3 => ?_⟩
      · rw [ln o (List.mem_of_mem_drop ho), lf]
      · refine q t (.parts ps) H3 ok (fun a b e => by cases e) (fun v hv => hold v ?_) dt hS3 ((f1.trans (same_fr s2)).trans f3)
        match vss, ef, hv with
        | w :: r, e, hv =>
          cases Option.some.inj e
          exact hv
    refine ⟨_, rfl, rfl, _, rfl, ite2 (fun _ => ?_) (fun _ => ?_)⟩
    · -- cell
      refine ⟨_, rfl, pf, rfl, ⟨_, SqL.of hpf⟩, fun c hc => ?_⟩
      have ncs : c ≠ st := st_new hS1 hc
      refine lc_list (K := K) (a := pf) (xs := first.map V.int) (fun j H' => StAt H' st sc ∧ Fr st H1 H' ∧ ∃ zs : List Int, zs.length = j ∧ Bd 310 zs ∧ H' c = some (.lst (zs.map V.int))) ⟨hS1.new hc, Fr.new hc, [], rfl, fun _ h => (nomatch h), upd_same⟩ (fun j H' _ h => SqL.of (h.2.1 _ _ hpf npf)) ?_ ?_
      · rintro j v H6 hj ⟨hS6, f6, zs, lz, bz, hc6⟩
        obtain ⟨x, rfl, hx⟩ := get_map hj
        have bX := bf.at hx
        have jl := (List.getElem?_eq_some_iff.mp hx).1
        refine ⟨rfl, _, rfl, _, rfl, st, sc, 5, rfl, hS6, by decide, by decide +kernel, fun d H7 d0 d1 hS7 o7 => ⟨_, _, rfl, rfl, _, _, rfl, rfl, _, (o7 c ncs).trans hc6, ?_, ?_⟩⟩
        · rw [List.length_map, lz]
          exact len_le (by omega)
        · refine ⟨hS7.set hS1 hc, (f6.trans o7.fr).set hc, zs ++ [x + d - 2], by simp [lz], fun z hz => ?_, by rw [upd_same, List.map_append]; rfl⟩
          rcases List.mem_append.mp hz with h | h
          · exact bz z h
          · rw [List.mem_singleton] at h
            omega
      rintro H6 ⟨hS6, f6, zs, lz, bz, hc6⟩
      rw [List.length_map] at lz
      have hpf6 := f6 _ _ hpf npf
      refine ⟨_, rfl, _, rfl, _, _, rfl, .inl (SqL.of hpf6), st, sc, (first.length : Int), by rw [List.length_map]; rfl, hS6, by omega, by omega, fun r ys H7 ly by_ nr hr hS7 f7 => ?_⟩
      have nrs : r ≠ st := st_new hS6 nr
      have hc7 := f7 _ _ hc6 ncs
      have f17 := f6.trans f7
      have hl7 := f17 _ _ hl1 nlv
      have tu7 : Dts [st] H7 us (vss.map intsD) := tu1.fr f17 in1
      have vz : VecOk zs := .of (by omega) bz (by decide)
      have vy : VecOk ys := .of (by omega) by_ (by decide)
      refine ⟨_, rfl, lv, rfl, ⟨_, SqL.of hl7⟩, for_list (K := K) (a := lv) (xs := us) (fun j σ H' => H' = H7 ∧ (∀ (m : Nat) (v : List Int), m < j → vss[m]? = some v → dist v zs ≤ dist v ys) ∧ ∃ (y5 y7 y8 y9 y10 y11 y12 : Option V), σ = [some (.ref st), some (.ref lv), some (.int kd), some (.ref pf), some (.ref c), y5, some (.ref r), y7, y8, y9, y10, y11, y12]) ⟨rfl, fun m v h => absurd h (Nat.not_lt_zero m), _, _, _, _, _, _, _, rfl⟩ (fun j σ H' _ h => by rw [h.1]; exact SqL.of hl7) ?_ ?_⟩
      · rintro j y σ H' hj ⟨rfl, hd, y5, y7, y8, y9, y10, y11, y12, rfl⟩
        obtain ⟨b, v, rfl, _, hb, ev⟩ := dts_get tu7 hj
        have mv := List.mem_of_getElem? ev
        have lv' := ln v mv
        have bv := bd v mv
        refine ⟨_, rfl, _, rfl, b, c, _, _, rfl, hb, hc7, by omega, by omega, bv.wide (by decide), bz.wide (by decide), ?_⟩
        refine ⟨_, rfl, _, rfl, b, r, _, _, rfl, hb, hr, by omega, by omega, bv.wide (by decide), by_.wide (by decide), ?_⟩
        refine ⟨_, _, rfl, rfl, _, rfl, ite2 (fun e => ?_) (fun e => ?_)⟩
        · refine ⟨_, rfl, _, rfl, c, _, rfl, .inl (SqL.of hc7), fun l2 hl2 => ⟨(by show 3 ≤ sizeLine; decide), fun t ht => ?_⟩⟩
          have s8 := same_new (o := .lst (zs.map V.int)) hl2
          have s9 := same_new (o := .tup [.str "cell", .ref c, .ref l2]) ht
          refine q t (.cell zs zs) _ ⟨vz, vz⟩ (fun a b e => by cases e) (fun w hw => ?_) (.tup (not_in1 (st_new (hS7.new hl2) ht)) upd_same (.cons (.str _) (.cons (dtL (not_in1 ncs) (s9 _ _ (s8 _ _ hc7))) (.cons (dtL (not_in1 (st_new hS7 hl2)) (s9 _ _ upd_same)) .nil)))) ((hS7.new hl2).new ht) ((f1.trans f17).trans (same_fr (s8.trans s9)))
          show (decide (zs.length = w.length ∧ zs.length = w.length) && decide ((ter fSq w zs).sum ≤ (ter fSq w zs).sum)) = true
          have := ln w hw
          rw [decide_eq_true (by omega : zs.length = w.length ∧ zs.length = w.length), decide_eq_true (Int.le_refl _)]
          rfl
        · have c2 : ¬ dist v ys < dist v zs := fun z => e (decide_eq_true z)
          refine ⟨rfl, fun m w hm ew => ?_, _, _, _, _, _, _, _, rfl⟩
          rcases Nat.lt_or_ge m j with g | g
          · exact hd m w g ew
          · have : m = j := by omega
            subst this
            rw [ev] at ew
            cases ew
            omega
      rintro σ H' ⟨rfl, hd, y5, y7, y8, y9, y10, y11, y12, rfl⟩
      refine ⟨_, rfl, _, rfl, (by show 3 ≤ sizeLine; decide), fun t ht => ?_⟩
      have s9 := same_new (o := .tup [.str "cell", .ref c, .ref r]) ht
      refine q t (.cell zs ys) _ ⟨vz, vy⟩ (fun a b e => by cases e) (fun w hw => ?_) (.tup (not_in1 (st_new hS7 ht)) upd_same (.cons (.str _) (.cons (dtL (not_in1 ncs) (s9 _ _ hc7)) (.cons (dtL (not_in1 nrs) (s9 _ _ hr)) .nil)))) (hS7.new ht) ((f1.trans f17).trans (same_fr s9))
      show (decide (zs.length = w.length ∧ ys.length = w.length) && decide ((ter fSq w zs).sum ≤ (ter fSq w ys).sum)) = true
      have := ln w hw
      obtain ⟨m, em⟩ := List.mem_iff_getElem?.mp hw
      have k := hd m w (by have := (List.getElem?_eq_some_iff.mp em).1; omega) em
      rw [dist_ter, dist_ter] at k
      rw [decide_eq_true (by omega : zs.length = w.length ∧ ys.length = w.length), decide_eq_true k]
      rfl
    refine ⟨_, rfl, rfl, _, rfl, ite2 (fun _ => ?_) (fun _ => ?_)⟩
    · -- box
      -- low = [min([vector[k] for vector in vectors]) .. for k in range(len(first))]
      refine ⟨_, rfl, _, _, rfl, .inl (SqL.of hpf), first.length, by rw [List.length_map], by omega, by omega, fun D1 hD1 => ?_⟩
      have nD1 : D1 ≠ st := st_new hS1 hD1
      refine lc_range (lo := 0) (n := first.length) (fun i H' => StAt H' st sc ∧ Fr st H1 H' ∧ ∃ zs : List Int, zs.length = i ∧ Bd 310 zs ∧ H' D1 = some (.lst (zs.map V.int)) ∧ ∀ (j : Nat) (z : Int), zs[j]? = some z → ∀ v ∈ vss, ∀ x, v[j]? = some x → z ≤ x) ⟨hS1.new hD1, Fr.new hD1, [], rfl, fun _ h => (nomatch h), upd_same, fun j z h => by simp at h⟩ ?_ ?_
      · rintro i Ha hi ⟨hSa, fa, zs, lz, bz, hDa, rel⟩
        have e0 : (0 : Int) + (i : Int) = (i : Int) := by omega
        have hla := fa _ _ hl1 nlv
        have tua : Dts [st] Ha us (vss.map intsD) := tu1.fr fa in1
        refine ⟨rfl, _, rfl, lv, rfl, ⟨_, SqL.of hla⟩, fun E hE => ?_⟩
        have nE : E ≠ st := st_new hSa hE
        refine lc_list (K := K) (a := lv) (xs := us) (fun j H' => Same Ha H' ∧ ∃ ws : List Int, ws.length = j ∧ H' E = some (.lst (ws.map V.int)) ∧ ∀ (m : Nat) (v : List Int), m < j → vss[m]? = some v → ∃ x, v[i]? = some x ∧ ws[m]? = some x) ⟨same_new hE, [], rfl, upd_same, fun m v h => absurd h (Nat.not_lt_zero m)⟩ (fun j H' _ h => SqL.of (h.1 _ _ hla)) ?_ ?_
        · rintro j y Hb hj ⟨sb, ws, lw, hEb, hw⟩
          obtain ⟨b, v, rfl, _, hb, ev⟩ := dts_get tua hj
          have lv' := ln v (List.mem_of_getElem? ev)
          obtain ⟨x, hx⟩ : ∃ x, v[i]? = some x := ⟨v[i]'(by omega), List.getElem?_eq_getElem _⟩
          have jl := (List.getElem?_eq_some_iff.mp ev).1
          refine ⟨rfl, _, rfl, _, rfl, b, _, _, _, rfl, rfl, SqL.of (sb _ _ hb), at_of e0 (map_get hx), _, hEb, ?_, same_set sb hE, ws ++ [x], by simp [lw], by rw [upd_same, List.map_append]; rfl, fun m w hm ew => ?_⟩
          · rw [List.length_map, lw]
            exact len_le (by omega)
          · rcases Nat.lt_or_ge m j with g | g
            · obtain ⟨x', e1, e2⟩ := hw m w g ew
              exact ⟨x', e1, by rw [List.getElem?_append_left (by omega)]; exact e2⟩
            · have : m = j := by omega
              subst this
              rw [ev] at ew
              cases ew
              exact ⟨x, hx, by rw [← lw]; simp⟩
        rintro Hb ⟨sb, ws, lw, hEb, hw⟩
        have lus := tua.length
        rw [List.length_map] at lus
        refine ⟨E, ws, rfl, SqL.of hEb, by omega, fun mn hmn hle => ?_⟩
        have hDb := sb _ _ hDa
        have hSb := hSa.same sb
        obtain ⟨m0, em0⟩ := List.mem_iff_getElem?.mp hmn
        have m0l : m0 < us.length := by
          have := (List.getElem?_eq_some_iff.mp em0).1
          omega
        obtain ⟨v0, ev0⟩ : ∃ v, vss[m0]? = some v := ⟨vss[m0]'(by omega), List.getElem?_eq_getElem _⟩
        obtain ⟨x0, ex0, ex1⟩ := hw m0 v0 m0l ev0
        rw [em0] at ex1
        cases ex1
        have bmn := (bd v0 (List.mem_of_getElem? ev0)).at ex0
        refine ⟨_, rfl, st, sc, 2, rfl, hSb, by decide, by decide +kernel, fun d Hc d0 d1 hSc oc => ⟨_, _, rfl, rfl, _, (oc D1 nD1).trans hDb, ?_, ?_⟩⟩
        · rw [List.length_map, lz]
          exact len_le (by omega)
        · refine ⟨hSc.set hS1 hD1, ((fa.trans (same_fr sb)).trans oc.fr).set hD1, zs ++ [mn - d], by simp [lz], fun z hz => ?_, by rw [upd_same, List.map_append]; rfl, fun j z ez v hv x ex => ?_⟩
          · rcases List.mem_append.mp hz with h | h
            · exact bz z h
            · rw [List.mem_singleton] at h
              omega
          · rcases Nat.lt_or_ge j zs.length with g | g
            · rw [List.getElem?_append_left g] at ez
              exact rel j z ez v hv x ex
            · rw [List.getElem?_append_right g] at ez
              have e1 : j - zs.length = 0 := by
                rcases Nat.eq_zero_or_pos (j - zs.length) with k | k
                · exact k
                · rw [List.getElem?_eq_none (by simp; omega)] at ez
                  cases ez
              rw [e1] at ez
              have ez' : mn - d = z := Option.some.inj ez
              have ej : j = i := by omega
              subst ej
              obtain ⟨m, em⟩ := List.mem_iff_getElem?.mp hv
              obtain ⟨x', e2, e3⟩ := hw m v (by have := (List.getElem?_eq_some_iff.mp em).1; omega) em
              rw [ex] at e2
              cases e2
              have := hle x (List.mem_of_getElem? e3)
              omega
      rintro H2 ⟨hS2, f2, los, llo, blo, hD1, rlo⟩

      have hpf2 := f2 _ _ hpf npf
      have hl2 := f2 _ _ hl1 nlv
      have tu2 : Dts [st] H2 us (vss.map intsD) := tu1.fr f2 in1

      -- high = [max([vector[k] for vector in vectors]) .. for k in range(len(first))]
      refine ⟨_, rfl, _, _, rfl, .inl (SqL.of hpf2), first.length, by rw [List.length_map], by omega, by omega, fun D2 hD2 => ?_⟩
      have nD2 : D2 ≠ st := st_new hS2 hD2
      refine lc_range (lo := 0) (n := first.length) (fun i H' => StAt H' st sc ∧ Fr st H2 H' ∧ ∃ zs : List Int, zs.length = i ∧ Bd 310 zs ∧ H' D2 = some (.lst (zs.map V.int)) ∧ ∀ (j : Nat) (z : Int), zs[j]? = some z → ∀ v ∈ vss, ∀ x, v[j]? = some x → x ≤ z) ⟨hS2.new hD2, Fr.new hD2, [], rfl, fun _ h => (nomatch h), upd_same, fun j z h => by simp at h⟩ ?_ ?_
      · rintro i Ha hi ⟨hSa, fa, zs, lz, bz, hDa, rel⟩
        have e0 : (0 : Int) + (i : Int) = (i : Int) := by omega
        have hla := fa _ _ hl2 nlv
        have tua : Dts [st] Ha us (vss.map intsD) := tu2.fr fa in1
        refine ⟨rfl, _, rfl, lv, rfl, ⟨_, SqL.of hla⟩, fun E hE => ?_⟩
        have nE : E ≠ st := st_new hSa hE
        refine lc_list (K := K) (a := lv) (xs := us) (fun j H' => Same Ha H' ∧ ∃ ws : List Int, ws.length = j ∧ H' E = some (.lst (ws.map V.int)) ∧ ∀ (m : Nat) (v : List Int), m < j → vss[m]? = some v → ∃ x, v[i]? = some x ∧ ws[m]? = some x) ⟨same_new hE, [], rfl, upd_same, fun m v h => absurd h (Nat.not_lt_zero m)⟩ (fun j H' _ h => SqL.of (h.1 _ _ hla)) ?_ ?_
        · rintro j y Hb hj ⟨sb, ws, lw, hEb, hw⟩
          obtain ⟨b, v, rfl, _, hb, ev⟩ := dts_get tua hj
          have lv' := ln v (List.mem_of_getElem? ev)
          obtain ⟨x, hx⟩ : ∃ x, v[i]? = some x := ⟨v[i]'(by omega), List.getElem?_eq_getElem _⟩
          have jl := (List.getElem?_eq_some_iff.mp ev).1
          refine ⟨rfl, _, rfl, _, rfl, b, _, _, _, rfl, rfl, SqL.of (sb _ _ hb), at_of e0 (map_get hx), _, hEb, ?_, same_set sb hE, ws ++ [x], by simp [lw], by rw [upd_same, List.map_append]; rfl, fun m w hm ew => ?_⟩
          · rw [List.length_map, lw]
            exact len_le (by omega)
          · rcases Nat.lt_or_ge m j with g | g
            · obtain ⟨x', e1, e2⟩ := hw m w g ew
              exact ⟨x', e1, by rw [List.getElem?_append_left (by omega)]; exact e2⟩
            · have : m = j := by omega
              subst this
              rw [ev] at ew
              cases ew
              exact ⟨x, hx, by rw [← lw]; simp⟩
        rintro Hb ⟨sb, ws, lw, hEb, hw⟩
        have lus := tua.length
        rw [List.length_map] at lus
        refine ⟨E, ws, rfl, SqL.of hEb, by omega, fun mn hmn hle => ?_⟩
        have hDb := sb _ _ hDa
        have hSb := hSa.same sb
        obtain ⟨m0, em0⟩ := List.mem_iff_getElem?.mp hmn
        have m0l : m0 < us.length := by
          have := (List.getElem?_eq_some_iff.mp em0).1
          omega
        obtain ⟨v0, ev0⟩ : ∃ v, vss[m0]? = some v := ⟨vss[m0]'(by omega), List.getElem?_eq_getElem _⟩
        obtain ⟨x0, ex0, ex1⟩ := hw m0 v0 m0l ev0
        rw [em0] at ex1
        cases ex1
        have bmn := (bd v0 (List.mem_of_getElem? ev0)).at ex0
        refine ⟨_, rfl, st, sc, 2, rfl, hSb, by decide, by decide +kernel, fun d Hc d0 d1 hSc oc => ⟨_, _, rfl, rfl, _, (oc D2 nD2).trans hDb, ?_, ?_⟩⟩
        · rw [List.length_map, lz]
          exact len_le (by omega)
        · refine ⟨hSc.set hS2 hD2, ((fa.trans (same_fr sb)).trans oc.fr).set hD2, zs ++ [mn + d], by simp [lz], fun z hz => ?_, by rw [upd_same, List.map_append]; rfl, fun j z ez v hv x ex => ?_⟩
          · rcases List.mem_append.mp hz with h | h
            · exact bz z h
            · rw [List.mem_singleton] at h
              omega
          · rcases Nat.lt_or_ge j zs.length with g | g
            · rw [List.getElem?_append_left g] at ez
              exact rel j z ez v hv x ex
            · rw [List.getElem?_append_right g] at ez
              have e1 : j - zs.length = 0 := by
                rcases Nat.eq_zero_or_pos (j - zs.length) with k | k
                · exact k
                · rw [List.getElem?_eq_none (by simp; omega)] at ez
                  cases ez
              rw [e1] at ez
              have ez' : mn + d = z := Option.some.inj ez
              have ej : j = i := by omega
              subst ej
              obtain ⟨m, em⟩ := List.mem_iff_getElem?.mp hv
              obtain ⟨x', e2, e3⟩ := hw m v (by have := (List.getElem?_eq_some_iff.mp em).1; omega) em
              rw [ex] at e2
              cases e2
              have := hle x (List.mem_of_getElem? e3)
              omega
      rintro H3 ⟨hS3, f3, his, lhi, bhi, hD2, rhi⟩

      have nD1 : D1 ≠ st := nD1
      have hD13 := f3 _ _ hD1 nD1
      refine ⟨_, rfl, _, rfl, (by show 3 ≤ sizeLine; decide), fun t ht => ?_⟩
      have s9 := same_new (o := .tup [.str "box", .ref D1, .ref D2]) ht
      refine q t (.box los his) _ ⟨.of (by omega) blo (by decide), .of (by omega) bhi (by decide)⟩ (fun a b e => by cases e) (fun w hw => ?_) (.tup (not_in1 (st_new hS3 ht)) upd_same (.cons (.str _) (.cons (dtL (not_in1 nD1) (s9 _ _ hD13)) (.cons (dtL (not_in1 nD2) (s9 _ _ hD2)) .nil)))) (hS3.new ht) (((f1.trans f2).trans f3).trans (same_fr s9))
      show (decide (los.length = w.length ∧ his.length = w.length) && inB3 los w his) = true
      have lw := ln w hw
      rw [decide_eq_true (by omega : los.length = w.length ∧ his.length = w.length), Bool.true_and]
      exact inB3_of (fun j l x h e1 e2 e3 => ⟨rlo j l e1 w hw x e2, rhi j h e3 w hw x e2⟩)

    refine ⟨_, rfl, rfl, _, rfl, ite2 (fun _ => ?_) (fun _ => ?_)⟩
    · -- norms
      refine ⟨_, rfl, lv, rfl, ⟨_, SqL.of hl1⟩, fun D hD => ?_⟩
      refine lc_list (K := K) (a := lv) (xs := us) (fun j H' => Same H1 H' ∧ H' D = some (.lst (((vss.take j).map (fun v => (ter fMul v v).sum)).map V.int))) ⟨same_new hD, upd_same⟩ (fun j H' _ h => SqL.of (h.1 _ _ hl1)) ?_ ?_
      · rintro j y Hb hj ⟨sb, hDb⟩
        obtain ⟨b, v, rfl, _, hb, ev⟩ := dts_get tu1 hj
        have mv := List.mem_of_getElem? ev
        refine ⟨rfl, _, rfl, _, rfl, b, b, v, v, rfl, sb _ _ hb, sb _ _ hb, rfl, .of (by have := ln v mv; omega) (bd v mv) (by decide), _, hDb, ?_, same_set sb hD, ?_⟩
        · rw [List.length_map, List.length_map, List.length_take]
          exact len_le (by omega)
        · rw [upd_same, List.take_add_one, ev, List.map_append, List.map_append]
          rfl
      rintro H2 ⟨s2, hD2⟩
      rw [lu, List.take_length] at hD2
      have hS2 := hS1.same s2
      have nD : D ≠ st := st_new hS1 hD
      have sqs : ∀ x ∈ vss.map (fun v => (ter fMul v v).sum), 0 ≤ x ∧ x ≤ 16000000 := fun x hx => by
        obtain ⟨v, hv, rfl⟩ := List.mem_map.mp hx
        exact inn_small (by have := ln v hv; omega) ((bd v hv).wide (by decide))
      refine ⟨_, rfl, D, _, rfl, SqL.of hD2, by rw [List.length_map]; omega, fun mn hmn hle => ?_⟩
      have bmn := sqs mn hmn
      refine ⟨_, rfl, st, sc, 3, rfl, hS2, by decide, by decide +kernel, fun d H3 d0 d1 hS3 o3 => ⟨_, _, rfl, rfl, _, _, rfl, ?_⟩⟩
      have hD3 := (o3 D nD).trans hD2
      refine ⟨_, rfl, D, _, rfl, SqL.of hD3, by rw [List.length_map]; omega, fun mx hmx hge => ?_⟩
      have bmx := sqs mx hmx
      refine ⟨_, rfl, st, sc, 3, rfl, hS3, by decide, by decide +kernel, fun e H4 e0 e1 hS4 o4 => ⟨_, _, rfl, rfl, (by show 3 ≤ sizeLine; decide), fun t ht => ?_⟩⟩
      refine q t (.norms (max2 0 (mn - d)) (mx + e)) _ ⟨by unfold max2; split <;> omega, by unfold max2; split <;> omega, by omega, by omega⟩ (fun a b z => by cases z; omega) (fun w hw => ?_) (.tup (not_in1 (st_new hS4 ht)) upd_same (.cons (.str _) (.cons (.int _) (.cons (.int _) .nil)))) (hS4.new ht) (((f1.trans (same_fr s2)).trans (o3.fr.trans o4.fr)).trans (Fr.new ht))
      have m1 : (ter fMul w w).sum ∈ vss.map (fun v => (ter fMul v v).sum) := List.mem_map.mpr ⟨w, hw, rfl⟩
      have k1 := hle _ m1
      have k2 := hge _ m1
      have k3 := sqs _ m1
      show (decide (max2 0 (mn - d) ≤ (ter fMul w w).sum) && decide ((ter fMul w w).sum ≤ mx + e)) = true
      rw [decide_eq_true (by unfold max2; split <;> omega), decide_eq_true (by omega)]
      rfl
    -- differ
    refine ⟨_, rfl, pf, rfl, ⟨_, SqL.of hpf⟩, fun c hc => ?_⟩
    have ncs : c ≠ st := st_new hS1 hc
    refine lc_list (K := K) (a := pf) (xs := first.map V.int) (fun j H' => StAt H' st sc ∧ Fr st H1 H' ∧ ∃ zs : List Int, zs.length = j ∧ Bd 310 zs ∧ H' c = some (.lst (zs.map V.int))) ⟨hS1.new hc, Fr.new hc, [], rfl, fun _ h => (nomatch h), upd_same⟩ (fun j H' _ h => SqL.of (h.2.1 _ _ hpf npf)) ?_ ?_
    · rintro j v H6 hj ⟨hS6, f6, zs, lz, bz, hc6⟩
      obtain ⟨x, rfl, hx⟩ := get_map hj
      have bX := bf.at hx
      have jl := (List.getElem?_eq_some_iff.mp hx).1
      refine ⟨rfl, _, rfl, (by show 3 ≤ sizeLine; decide), fun l hl => ⟨_, rfl, st, sc, 3, rfl, hS6.new hl, by decide, by decide +kernel, fun k H7 k0 k1 hS7 o7 => ?_⟩⟩
      obtain ⟨s, hs, s3⟩ := pickI (xs := [0, 0, 1]) k0 k1
      have s4 : 0 ≤ s ∧ s ≤ 1 := by
        simp at s3
        omega
      have hc7 := (o7 c ncs).trans (same_new (o := .lst [V.int 0, V.int 0, V.int 1]) hl _ _ hc6)
      refine ⟨l, _, k, _, rfl, rfl, SqL.of ((o7 l (st_new hS6 hl)).trans upd_same), hs, _, _, rfl, rfl, _, hc7, ?_, ?_⟩
      · rw [List.length_map, lz]
        exact len_le (by omega)
      · refine ⟨hS7.set hS1 hc, ((f6.trans (same_fr (same_new hl))).trans o7.fr).set hc, zs ++ [x + s], by simp [lz], fun z hz => ?_, by rw [upd_same, List.map_append]; rfl⟩
        rcases List.mem_append.mp hz with h | h
        · exact bz z h
        · rw [List.mem_singleton] at h
          omega
    rintro H6 ⟨hS6, f6, zs, lz, bz, hc6⟩
    rw [List.length_map] at lz
    have hl6 := f6 _ _ hl1 nlv
    have tu6 : Dts [st] H6 us (vss.map intsD) := tu1.fr f6 in1
    refine ⟨_, rfl, _, rfl, lv, rfl, ⟨_, SqL.of hl6⟩, fun D hD => ?_⟩
    have nD : D ≠ st := st_new hS6 hD
    refine lc_list (K := K) (a := lv) (xs := us) (fun j H' => Same H6 H' ∧ H' D = some (.lst (((vss.take j).map (fun v => (ter fNe zs v).sum)).map V.int))) ⟨same_new hD, upd_same⟩ (fun j H' _ h => SqL.of (h.1 _ _ hl6)) ?_ ?_
    · rintro j y Hb hj ⟨sb, hDb⟩
      obtain ⟨b, v, rfl, _, hb, ev⟩ := dts_get tu6 hj
      have mv := List.mem_of_getElem? ev
      have lv' := ln v mv
      refine ⟨rfl, _, rfl, _, rfl, c, b, zs, v, rfl, sb _ _ hc6, sb _ _ hb, by omega, by omega, fun Hc sc' => ?_⟩
      refine ⟨_, sc' _ _ hDb, ?_, same_set (sb.trans sc') hD, ?_⟩
      · rw [List.length_map, List.length_map, List.length_take]
        exact len_le (by omega)
      · rw [upd_same, List.take_add_one, ev, List.map_append, List.map_append]
        rfl
    rintro H2 ⟨s2, hD2⟩
    rw [lu, List.take_length] at hD2
    have hS2 := hS6.same s2
    have sqs : ∀ x ∈ vss.map (fun v => (ter fNe zs v).sum), 0 ≤ x ∧ x ≤ 100 := fun x hx => by
      obtain ⟨v, hv, rfl⟩ := List.mem_map.mp hx
      have b := ter_bd (f := fNe) (c := 1) (xs := zs) (ys := v) (fun x _ y _ => by unfold fNe; split <;> omega) (by decide)
      have := ne_nn zs v
      have := ln v hv
      omega
    refine ⟨D, _, rfl, SqL.of hD2, by rw [List.length_map]; omega, fun mx hmx hge => ?_⟩
    have bmx := sqs mx hmx
    refine ⟨_, rfl, st, sc, 2, rfl, hS2, by decide, by decide +kernel, fun e H4 e0 e1 hS4 o4 => ⟨_, _, rfl, rfl, (by show 3 ≤ sizeLine; decide), fun t ht => ?_⟩⟩
    have s9 := same_new (o := .tup [.str "differ", .ref c, .int (mx + e)]) ht
    refine q t (.differ zs (mx + e)) _ ⟨.of (by omega) bz (by decide), by omega, by omega⟩ (fun a b z => by cases z) (fun w hw => ?_) (.tup (not_in1 (st_new hS4 ht)) upd_same (.cons (.str _) (.cons (dtL (not_in1 ncs) (s9 _ _ ((o4 c ncs).trans (s2 _ _ hc6)))) (.cons (.int _) .nil)))) (hS4.new ht) (((f1.trans f6).trans (same_fr s2)).trans (o4.fr.trans (Fr.new ht)))
    have m1 : (ter fNe zs w).sum ∈ vss.map (fun v => (ter fNe zs v).sum) := List.mem_map.mpr ⟨w, hw, rfl⟩
    have k2 := hge _ m1
    have := ln w hw
    show (decide (zs.length = w.length) && decide ((ter fNe zs w).sum ≤ mx + e)) = true
    rw [decide_eq_true (by omega), decide_eq_true (by omega)]
    rfl
def sp_law (K : PySem.W.Frag) : Sp := fun vs H Q _ => ∃ (a : Addr) (ns : List Int), vs = [.ref a] ∧ (SqL K H a (ns.map V.int)) ∧ (ns.length ≤ 63) ∧ ∀ H', Q (.bl true) H'
set_option maxHeartbeats 32000000 in
theorem ok_law (T : Txt K mg) : FnOk P w K mg base CX0 7 T.f_law T.d_law ["script"] (sp_law K) := by
  have G_law_inner : FnOk P w K mg base CX0 1 T.f_law_inner T.d_law_inner ["a", "b"] (sp_law_inner T) := ok_law_inner T
  have G_Parts_most_product : FnOk P w K mg base CX0 4 T.f_Parts_most_product T.d_Parts_most_product ["self", "q"] (sp_Parts_most_product T) := ok_Parts_most_product T
  have G_Fact_most_product : FnOk P w K mg base CX0 1 T.f_Fact_most_product T.d_Fact_most_product ["self", "q"] (sp_Fact_most_product T) := ok_Fact_most_product T
  have G_Box_most_product : FnOk P w K mg base CX0 2 T.f_Box_most_product T.d_Box_most_product ["self", "q"] (sp_Box_most_product T) := ok_Box_most_product T
  have G_Norms_most_product : FnOk P w K mg base CX0 3 T.f_Norms_most_product T.d_Norms_most_product ["self", "q"] (sp_Norms_most_product T) := ok_Norms_most_product T
  have G_Fact_least_differing : FnOk P w K mg base CX0 6 T.f_Fact_least_differing T.d_Fact_least_differing ["self", "q"] (sp_Fact_least_differing T) := ok_Fact_least_differing T
  have G_Differ_least_differing : FnOk P w K mg base CX0 2 T.f_Differ_least_differing T.d_Differ_least_differing ["self", "q"] (sp_Differ_least_differing T) := ok_Differ_least_differing T
  have G_law_differing : FnOk P w K mg base CX0 1 T.f_law_differing T.d_law_differing ["a", "b"] (sp_law_differing T) := ok_law_differing T
  have G_Parts_least_distance : FnOk P w K mg base CX0 5 T.f_Parts_least_distance T.d_Parts_least_distance ["self", "q"] (sp_Parts_least_distance T) := ok_Parts_least_distance T
  have G_Cell_least_distance : FnOk P w K mg base CX0 2 T.f_Cell_least_distance T.d_Cell_least_distance ["self", "q"] (sp_Cell_least_distance T) := ok_Cell_least_distance T
  have G_Box_least_distance : FnOk P w K mg base CX0 3 T.f_Box_least_distance T.d_Box_least_distance ["self", "q"] (sp_Box_least_distance T) := ok_Box_least_distance T
  have G_Norms_least_distance : FnOk P w K mg base CX0 3 T.f_Norms_least_distance T.d_Norms_least_distance ["self", "q"] (sp_Norms_least_distance T) := ok_Norms_least_distance T
  have G_Fact_least_distance : FnOk P w K mg base CX0 1 T.f_Fact_least_distance T.d_Fact_least_distance ["self", "q"] (sp_Fact_least_distance T) := ok_Fact_least_distance T
  have G_law_distance : FnOk P w K mg base CX0 1 T.f_law_distance T.d_law_distance ["a", "b"] (sp_law_distance T) := ok_law_distance T
  have G_Parts_holds : FnOk P w K mg base CX0 5 T.f_Parts_holds T.d_Parts_holds ["self", "record"] (sp_Parts_holds T) := ok_Parts_holds T
  have G_Record___init__ : FnOk P w K mg base CX0 1 T.f_Record___init__ T.d_Record___init__ ["self", "name", "vector", "fields", "words"] (sp_Record___init__ T) := ok_Record___init__ T
  have G_Cell_holds : FnOk P w K mg base CX0 2 T.f_Cell_holds T.d_Cell_holds ["self", "record"] (sp_Cell_holds T) := ok_Cell_holds T
  have G_Box_holds : FnOk P w K mg base CX0 2 T.f_Box_holds T.d_Box_holds ["self", "record"] (sp_Box_holds T) := ok_Box_holds T
  have G_Norms_holds : FnOk P w K mg base CX0 3 T.f_Norms_holds T.d_Norms_holds ["self", "record"] (sp_Norms_holds T) := ok_Norms_holds T
  have G_Differ_holds : FnOk P w K mg base CX0 2 T.f_Differ_holds T.d_Differ_holds ["self", "record"] (sp_Differ_holds T) := ok_Differ_holds T
  have G_law_true_fact : FnOk P w K mg base CX0 4 T.f_law_true_fact T.d_law_true_fact ["state", "vectors"] (sp_law_true_fact T) := ok_law_true_fact T
  have G_law_made : FnOk P w K mg base CX0 3 T.f_law_made T.d_law_made ["fact"] (sp_law_made T) := ok_law_made T
  have G_law_bits : FnOk P w K mg base CX0 1 T.f_law_bits T.d_law_bits ["vector"] (sp_law_bits T) := ok_law_bits T
  have G_law_next : FnOk P w K mg base CX0 2 T.f_law_next T.d_law_next ["state", "many"] (sp_law_next T) := ok_law_next T
  have G_law_vector : FnOk P w K mg base CX0 3 T.f_law_vector T.d_law_vector ["state", "size"] (sp_law_vector T) := ok_law_vector T
  refine T.F_law.ok sc_law (fun vs H Q E h => ?_) (fun cdv A outer s H vs Q E hr h => ?_)
  · obtain ⟨a, ns, rfl, _⟩ := h
    rfl
  · obtain ⟨a, ns, rfl, hA, hlen, q⟩ := h
    refine ⟨_, (pss_cons (ps_set (i := 1) sc_law.nd rfl (.inr rfl) (pe_lst (pa_cons (pe_callTy call_list_of (by rfl) T.m_list (by decide +kernel) (pa_cons (pv 0) pa_nil)) (pa_cons pe_int (pa_cons pe_int pa_nil))))) 
      (pss_cons (ps_for PassesOwn.never rfl (pi_range1 rfl T.m_range (pa_cons pe_int pa_nil)) (pg_name (i := 2) sc_law.nd rfl (.inl rfl)) (pss_cons (ps_set (i := 3) sc_law.nd rfl (.inr rfl) (pe_op op_add pe_int (pe_call G_law_next (hr.mono (by decide)) (by rfl) T.g_law_next T.F_law_next.kp T.b_law_next .nil pass0 (pa_cons (pv 1) (pa_cons pe_int pa_nil))))) 
      (pss_cons (ps_set (i := 4) sc_law.nd rfl (.inl rfl) (pe_cmpR op_eq (pe_call G_law_next (hr.mono (by decide)) (by rfl) T.g_law_next T.F_law_next.kp T.b_law_next .nil pass0 (pa_cons (pv 1) (pa_cons pe_int pa_nil))) pe_int (nomark _))) 
      (pss_cons (ps_setLc (i := 5) (own := [("k", 6)]) (g := gName 6) rfl sc_law.nd rfl rfl (sw_true rfl rfl rfl (by decide +kernel)) (pi_range1 rfl T.m_range (pa_cons (pe_op op_add pe_int (pe_call G_law_next (hr.mono (by decide)) (by rfl) T.g_law_next T.F_law_next.kp T.b_law_next .nil pass0 (pa_cons (pv 1) (pa_cons pe_int pa_nil)))) pa_nil)) (blkOk_by (own := [("k", 6)]) (N := ["script", "state", "turn", "size", "bits", "vectors", "k", "q", "number", "vector", "made", "product"]) (sc := defScope s_law) (by decide +kernel)) (fun _ _ _ _ _ => (pg_name (i := 6) sc_law.nd rfl (Or.inl rfl))) (fun _ _ _ _ _ => pts_nil) (fun _ _ _ _ _ => (pe_call G_law_vector (hr.mono (by decide)) (by rfl) T.g_law_vector T.F_law_vector.kp T.b_law_vector .nil pass0 (pa_cons (pv 1) (pa_cons (pv 3) pa_nil))))) 
      (pss_cons (ps_setLc (i := 7) (own := [("number", 8)]) (g := gName 8) rfl sc_law.nd rfl rfl (sw_true rfl rfl rfl (by decide +kernel)) (pi_list (pe_ix ix_list (pv 5) pe_int (fun _ _ => rfl))) (blkOk_by (own := [("number", 8)]) (N := ["script", "state", "turn", "size", "bits", "vectors", "k", "q", "number", "vector", "made", "product"]) (sc := defScope s_law) (by decide +kernel)) (fun _ _ _ _ _ => (pg_name (i := 8) sc_law.nd rfl (Or.inl rfl))) (fun _ _ _ _ _ => pts_nil) (fun _ _ _ _ _ => (pe_op op_sub (pe_op op_add (pv 8) (pe_call G_law_next (hr.mono (by decide)) (by rfl) T.g_law_next T.F_law_next.kp T.b_law_next .nil pass0 (pa_cons (pv 1) (pa_cons pe_int pa_nil)))) pe_int))) 
      (pss_cut (ps_if (pt_cmpR op_eq (pe_call G_law_next (hr.mono (by decide)) (by rfl) T.g_law_next T.F_law_next.kp T.b_law_next .nil pass0 (pa_cons (pv 1) (pa_cons pe_int pa_nil))) pe_int (nomark _)) (pss_one (ps_set (i := 7) sc_law.nd rfl (.inl rfl) (pe_call G_law_vector (hr.mono (by decide)) (by rfl) T.g_law_vector T.F_law_vector.kp T.b_law_vector .nil pass0 (pa_cons (pv 1) (pa_cons (pv 3) pa_nil))))) pss_nil) 
      (pss_cut (ps_if (pt_val (pv 4)) (pss_cons (ps_setLc (i := 5) (own := [("vector", 9)]) (g := gName 9) rfl sc_law.nd rfl rfl (sw_true rfl rfl rfl (by decide +kernel)) (pi_list (pv 5)) (blkOk_by (own := [("vector", 9)]) (N := ["script", "state", "turn", "size", "bits", "vectors", "k", "q", "number", "vector", "made", "product"]) (sc := defScope s_law) (by decide +kernel)) (fun _ _ _ _ _ => (pg_name (i := 9) sc_law.nd rfl (Or.inl rfl))) (fun _ _ _ _ _ => pts_nil) (fun _ _ _ _ _ => (pe_call G_law_bits (hr.mono (by decide)) (by rfl) T.g_law_bits T.F_law_bits.kp T.b_law_bits .nil pass0 (pa_cons (pv 9) pa_nil)))) 
      (pss_one (ps_set (i := 7) sc_law.nd rfl (.inl rfl) (pe_call G_law_bits (hr.mono (by decide)) (by rfl) T.g_law_bits T.F_law_bits.kp T.b_law_bits .nil pass0 (pa_cons (pv 7) pa_nil))))) pss_nil) 
      (pss_cons (ps_set (i := 10) sc_law.nd rfl (.inl rfl) (pe_call G_law_made (hr.mono (by decide)) (by rfl) T.g_law_made T.F_law_made.kp T.b_law_made .nil pass0 (pa_cons (pe_call G_law_true_fact (hr.mono (by decide)) (by rfl) T.g_law_true_fact T.F_law_true_fact.kp T.b_law_true_fact .nil pass0 (pa_cons (pv 1) (pa_cons (pv 5) pa_nil))) pa_nil))) 
      (pss_one (ps_for PassesOwn.never rfl (pi_list (pv 5)) (pg_name (i := 9) sc_law.nd rfl (.inl rfl)) (pss_cut (ps_if (pt_not (pt_truth (pe_or2 (pe_meth (pv 10) T.cl_Parts T.me_Parts_holds G_Parts_holds (hr.mono (by decide)) T.b_Parts_holds .nil pass0 (pa_cons (pe_make T.mk_Record G_Record___init__ (hr.mono (by decide)) (by rfl) T.mc_Record T.b_Record___init__ T.v_Record___init__ pass0 (pa_cons pe_str (pa_cons (pe_callTy call_list_of (by rfl) T.m_list (by decide +kernel) (pa_cons (pv 9) pa_nil)) pa_nil))) pa_nil)) (pe_or2 (pe_meth (pv 10) T.cl_Cell T.me_Cell_holds G_Cell_holds (hr.mono (by decide)) T.b_Cell_holds .nil pass0 (pa_cons (pe_make T.mk_Record G_Record___init__ (hr.mono (by decide)) (by rfl) T.mc_Record T.b_Record___init__ T.v_Record___init__ pass0 (pa_cons pe_str (pa_cons (pe_callTy call_list_of (by rfl) T.m_list (by decide +kernel) (pa_cons (pv 9) pa_nil)) pa_nil))) pa_nil)) (pe_or2 (pe_meth (pv 10) T.cl_Box T.me_Box_holds G_Box_holds (hr.mono (by decide)) T.b_Box_holds .nil pass0 (pa_cons (pe_make T.mk_Record G_Record___init__ (hr.mono (by decide)) (by rfl) T.mc_Record T.b_Record___init__ T.v_Record___init__ pass0 (pa_cons pe_str (pa_cons (pe_callTy call_list_of (by rfl) T.m_list (by decide +kernel) (pa_cons (pv 9) pa_nil)) pa_nil))) pa_nil)) (pe_or2 (pe_meth (pv 10) T.cl_Norms T.me_Norms_holds G_Norms_holds (hr.mono (by decide)) T.b_Norms_holds .nil pass0 (pa_cons (pe_make T.mk_Record G_Record___init__ (hr.mono (by decide)) (by rfl) T.mc_Record T.b_Record___init__ T.v_Record___init__ pass0 (pa_cons pe_str (pa_cons (pe_callTy call_list_of (by rfl) T.m_list (by decide +kernel) (pa_cons (pv 9) pa_nil)) pa_nil))) pa_nil)) (pe_meth (pv 10) T.cl_Differ T.me_Differ_holds G_Differ_holds (hr.mono (by decide)) T.b_Differ_holds .nil pass0 (pa_cons (pe_make T.mk_Record G_Record___init__ (hr.mono (by decide)) (by rfl) T.mc_Record T.b_Record___init__ T.v_Record___init__ pass0 (pa_cons pe_str (pa_cons (pe_callTy call_list_of (by rfl) T.m_list (by decide +kernel) (pa_cons (pv 9) pa_nil)) pa_nil))) pa_nil)))))) (by intro _; rfl))) (pss_one (ps_ret pe_bl)) pss_nil) 
      (pss_cut (ps_if (pt_cmpR op_gt (pe_or2 (pe_meth (pv 10) T.cl_Parts T.me_Parts_least_distance G_Parts_least_distance (hr.mono (by decide)) T.b_Parts_least_distance .nil pass0 (pa_cons (pe_callTy call_list_of (by rfl) T.m_list (by decide +kernel) (pa_cons (pv 7) pa_nil)) pa_nil)) (pe_or2 (pe_meth (pv 10) T.cl_Cell T.me_Cell_least_distance G_Cell_least_distance (hr.mono (by decide)) T.b_Cell_least_distance .nil pass0 (pa_cons (pe_callTy call_list_of (by rfl) T.m_list (by decide +kernel) (pa_cons (pv 7) pa_nil)) pa_nil)) (pe_or2 (pe_meth (pv 10) T.cl_Box T.me_Box_least_distance G_Box_least_distance (hr.mono (by decide)) T.b_Box_least_distance .nil pass0 (pa_cons (pe_callTy call_list_of (by rfl) T.m_list (by decide +kernel) (pa_cons (pv 7) pa_nil)) pa_nil)) (pe_or2 (pe_meth (pv 10) T.cl_Norms T.me_Norms_least_distance G_Norms_least_distance (hr.mono (by decide)) T.b_Norms_least_distance .nil pass0 (pa_cons (pe_callTy call_list_of (by rfl) T.m_list (by decide +kernel) (pa_cons (pv 7) pa_nil)) pa_nil)) (pe_meth (pv 10) T.cl_Differ T.me_Differ_least_distance G_Fact_least_distance (hr.mono (by decide)) T.b_Fact_least_distance .nil pass0 (pa_cons (pe_callTy call_list_of (by rfl) T.m_list (by decide +kernel) (pa_cons (pv 7) pa_nil)) pa_nil)))))) (pe_call G_law_distance (hr.mono (by decide)) (by rfl) T.g_law_distance T.F_law_distance.kp T.b_law_distance .nil pass0 (pa_cons (pv 7) (pa_cons (pv 9) pa_nil))) (nomark _)) (pss_one (ps_ret pe_bl)) pss_nil) 
      (pss_cut (ps_if (PW.pt (pw_and (pt_val (pv 4)) (pw_and1 (pt_cmpR op_gt (pe_or2 (pe_meth (pv 10) T.cl_Parts T.me_Parts_least_differing G_Fact_least_differing (hr.mono (by decide)) T.b_Fact_least_differing .nil pass0 (pa_cons (pe_callTy call_list_of (by rfl) T.m_list (by decide +kernel) (pa_cons (pv 7) pa_nil)) pa_nil)) (pe_or2 (pe_meth (pv 10) T.cl_Cell T.me_Cell_least_differing G_Fact_least_differing (hr.mono (by decide)) T.b_Fact_least_differing .nil pass0 (pa_cons (pe_callTy call_list_of (by rfl) T.m_list (by decide +kernel) (pa_cons (pv 7) pa_nil)) pa_nil)) (pe_or2 (pe_meth (pv 10) T.cl_Box T.me_Box_least_differing G_Fact_least_differing (hr.mono (by decide)) T.b_Fact_least_differing .nil pass0 (pa_cons (pe_callTy call_list_of (by rfl) T.m_list (by decide +kernel) (pa_cons (pv 7) pa_nil)) pa_nil)) (pe_or2 (pe_meth (pv 10) T.cl_Norms T.me_Norms_least_differing G_Fact_least_differing (hr.mono (by decide)) T.b_Fact_least_differing .nil pass0 (pa_cons (pe_callTy call_list_of (by rfl) T.m_list (by decide +kernel) (pa_cons (pv 7) pa_nil)) pa_nil)) (pe_meth (pv 10) T.cl_Differ T.me_Differ_least_differing G_Differ_least_differing (hr.mono (by decide)) T.b_Differ_least_differing .nil pass0 (pa_cons (pe_callTy call_list_of (by rfl) T.m_list (by decide +kernel) (pa_cons (pv 7) pa_nil)) pa_nil)))))) (pe_call G_law_differing (hr.mono (by decide)) (by rfl) T.g_law_differing T.F_law_differing.kp T.b_law_differing .nil pass0 (pa_cons (pv 7) (pa_cons (pv 9) pa_nil))) (nomark _))))) (pss_one (ps_ret pe_bl)) pss_nil) 
      (pss_cut (ps_set (i := 11) sc_law.nd rfl (.inl rfl) (pe_or2 (pe_meth (pv 10) T.cl_Parts T.me_Parts_most_product G_Parts_most_product (hr.mono (by decide)) T.b_Parts_most_product .nil pass0 (pa_cons (pe_callTy call_list_of (by rfl) T.m_list (by decide +kernel) (pa_cons (pv 7) pa_nil)) pa_nil)) (pe_or2 (pe_meth (pv 10) T.cl_Cell T.me_Cell_most_product G_Fact_most_product (hr.mono (by decide)) T.b_Fact_most_product .nil pass0 (pa_cons (pe_callTy call_list_of (by rfl) T.m_list (by decide +kernel) (pa_cons (pv 7) pa_nil)) pa_nil)) (pe_or2 (pe_meth (pv 10) T.cl_Box T.me_Box_most_product G_Box_most_product (hr.mono (by decide)) T.b_Box_most_product .nil pass0 (pa_cons (pe_callTy call_list_of (by rfl) T.m_list (by decide +kernel) (pa_cons (pv 7) pa_nil)) pa_nil)) (pe_or2 (pe_meth (pv 10) T.cl_Norms T.me_Norms_most_product G_Norms_most_product (hr.mono (by decide)) T.b_Norms_most_product .nil pass0 (pa_cons (pe_callTy call_list_of (by rfl) T.m_list (by decide +kernel) (pa_cons (pv 7) pa_nil)) pa_nil)) (pe_meth (pv 10) T.cl_Differ T.me_Differ_most_product G_Fact_most_product (hr.mono (by decide)) T.b_Fact_most_product .nil pass0 (pa_cons (pe_callTy call_list_of (by rfl) T.m_list (by decide +kernel) (pa_cons (pv 7) pa_nil)) pa_nil))))))) 
      (pss_one (ps_if (PW.pt (pw_and (pt_cmpR op_notN (pv 11) pe_non (nomark _)) (pw_and1 (pt_cmpR op_lt (pv 11) (pe_call G_law_inner (hr.mono (by decide)) (by rfl) T.g_law_inner T.F_law_inner.kp T.b_law_inner .nil pass0 (pa_cons (pv 7) (pa_cons (pv 9) pa_nil))) (nomark _))))) (pss_one (ps_ret pe_bl)) pss_nil)))))))))))))))) 
      (pss_one (ps_ret pe_bl)))), ?_⟩
    refine ⟨_, rfl, a, _, rfl, .inl hA, fun sc hsc => ⟨(by show 3 ≤ sizeLine; decide), fun st hst => ?_⟩⟩
    have hS0 := st_made hsc hst hlen
    generalize upd (upd H sc (.lst (ns.map V.int))) st (.lst [.ref sc, .int 0, .int 0]) = H0 at hS0
    refine ⟨5, rfl, by decide, by decide, for_range (lo := 0) (n := 5) (fun i σ H' => StAt H' st sc ∧ ∃ (y2 y3 y4 y5 y6 y7 y8 y9 y10 y11 : Option V), σ = [some (.ref a), some (.ref st), y2, y3, y4, y5, y6, y7, y8, y9, y10, y11]) ⟨hS0, none, none, none, none, none, none, none, none, none, none, rfl⟩ ?_ ?_⟩
    rotate_left
    · rintro σ H' ⟨_, y2, y3, y4, y5, y6, y7, y8, y9, y10, y11, rfl⟩
      exact q H'
    rintro i σ Hi hi ⟨hSi, y2, y3, y4, y5, y6, y7, y8, y9, y10, y11, rfl⟩
    refine ⟨_, rfl, st, sc, 4, rfl, hSi, by decide, by decide +kernel, fun d H1 d0 d1 hS1 o1 => ⟨_, _, rfl, rfl, ?_⟩⟩
    obtain ⟨n, hn⟩ : ∃ n : Nat, (n : Int) = 1 + d := ⟨(1 + d).toNat, by omega⟩
    dsimp only
    rw [← hn]
    refine ⟨_, rfl, st, sc, 3, rfl, hS1, by decide, by decide +kernel, fun e H2 e0 e1 hS2 o2 => ⟨rfl, ?_⟩⟩
    -- vectors
    refine ⟨_, rfl, st, sc, 2, rfl, hS2, by decide, by decide +kernel, fun m H3 m0 m1 hS3 o3 => ⟨_, _, rfl, rfl, 1 + m, rfl, by omega, by omega, fun D hD => ?_⟩⟩
    have nD : D ≠ st := st_new hS3 hD
    refine lc_range (lo := 0) (n := (1 + m).toNat) (fun i H' => StAt H' st sc ∧ Fr st H3 H' ∧ ∃ vss : List (List Int), vss.length = i ∧ (∀ v ∈ vss, v.length = n) ∧ (∀ v ∈ vss, Bd 300 v) ∧ Bl [st] D H' (vss.map intsD)) ⟨hS3.new hD, Fr.new hD, [], rfl, fun _ h => (nomatch h), fun _ h => (nomatch h), Bl.nil⟩ ?_ ?_
    · rintro i H4 hi ⟨hS4, f4, vss, lvs, ln, bd, B4⟩
      refine ⟨rfl, _, rfl, _, rfl, st, sc, (n : Int), rfl, hS4, by omega, by omega, fun p zs H5 lz bz np hp hS5 f5 => ?_⟩
      obtain ⟨ws, dw, tw⟩ := B4.fr nD in1 f5
      have lw := tw.length
      rw [List.length_map] at lw
      have npD : p ≠ D := (fun z => by
        obtain ⟨w4, d4, _⟩ := B4
        rw [← z, np] at d4
        cases d4)
      have nps : p ≠ st := st_new hS4 np
      refine ⟨_, dw, len_le (by omega), hS5.set hS3 hD, (f4.trans f5).set hD, vss ++ [zs], by simp [lvs], fun v hv => ?_, fun v hv => ?_, ?_⟩
      · rcases List.mem_append.mp hv with h | h
        · exact ln v h
        · rw [List.mem_singleton.mp h]; omega
      · rcases List.mem_append.mp hv with h | h
        · exact bd v h
        · rw [List.mem_singleton.mp h]; exact bz
      · rw [List.map_append]
        exact Bl.push dw tw (dtL (not_in2 npD nps) hp)
    rintro H4 ⟨hS4, f4, vss, lvs, ln, bd, B4⟩
    obtain ⟨us, hl4, tu4'⟩ := id B4
    have tu4 : Dts [st] H4 us (vss.map intsD) := tu4'.weak
    clear tu4' B4
    have lu := tu4.length
    rw [List.length_map] at lu
    obtain ⟨u0, hu0⟩ : ∃ u, us[0]? = some u := ⟨us[0]'(by omega), List.getElem?_eq_getElem _⟩
    obtain ⟨pf, first, rfl, npf', hpf, ef⟩ := dts_get tu4 hu0
    have npf : pf ≠ st := fun z => npf' (by rw [z]; exact in1)
    have mf := List.mem_of_getElem? ef
    have lf := ln first mf
    have bf := bd first mf
    -- q
    refine ⟨_, rfl, _, _, _, _, rfl, rfl, SqL.of hl4, at_of (j := 0) rfl hu0, pf, rfl, ⟨_, SqL.of hpf⟩, fun c hc => ?_⟩
    have ncs : c ≠ st := st_new hS4 hc
    refine lc_list (K := K) (a := pf) (xs := first.map V.int) (fun j H' => StAt H' st sc ∧ Fr st H4 H' ∧ ∃ zs : List Int, zs.length = j ∧ Bd 310 zs ∧ H' c = some (.lst (zs.map V.int))) ⟨hS4.new hc, Fr.new hc, [], rfl, fun _ h => (nomatch h), upd_same⟩ (fun j H' _ h => SqL.of (h.2.1 _ _ hpf npf)) ?_ ?_
    · rintro j v H6 hj ⟨hS6, f6, zs, lz, bz, hc6⟩
      obtain ⟨x, rfl, hx⟩ := get_map hj
      have bX := bf.at hx
      have jl := (List.getElem?_eq_some_iff.mp hx).1
      refine ⟨rfl, _, rfl, _, rfl, st, sc, 9, rfl, hS6, by decide, by decide +kernel, fun d H7 d0 d1 hS7 o7 => ⟨_, _, rfl, rfl, _, _, rfl, rfl, _, (o7 c ncs).trans hc6, ?_, ?_⟩⟩
      · rw [List.length_map, lz]
        exact len_le (by omega)
      · refine ⟨hS7.set hS4 hc, (f6.trans o7.fr).set hc, zs ++ [x + d - 4], by simp [lz], fun z hz => ?_, by rw [upd_same, List.map_append]; rfl⟩
        rcases List.mem_append.mp hz with h | h
        · exact bz z h
        · rw [List.mem_singleton] at h
          omega
    rintro H5 ⟨hS5, f5, qs, lqs, bqs, hc5⟩
    rw [List.length_map] at lqs
    have hl5 := f5 _ _ hl4 nD
    have tu5 : Dts [st] H5 us (vss.map intsD) := tu4.fr f5 in1
    have lvn : 1 ≤ vss.length ∧ vss.length ≤ 2 := by omega
    -- if _law_next(state, 2) == 0: q = ..
    refine ⟨fun σ H' => StAt H' st sc ∧ H' D = some (.lst us) ∧ Dts [st] H' us (vss.map intsD) ∧ ∃ (lq : Addr) (qs : List Int), lq ≠ st ∧ H' lq = some (.lst (qs.map V.int)) ∧ qs.length = n ∧ Bd 310 qs ∧ ∃ (y2 y6 y8 y9 y10 y11 : Option V), σ = [some (.ref a), some (.ref st), y2, some (.int (n : Int)), some (.bl (decide (V.int e = V.int 0))), some (.ref D), y6, some (.ref lq), y8, y9, y10, y11], ?_, ?_⟩
    · refine ⟨_, rfl, st, sc, 2, rfl, hS5, by decide, by decide +kernel, fun k H6 k0 k1 hS6 o6 => ⟨rfl, _, rfl, ite2 (fun _ => ?_) (fun _ => ?_)⟩⟩
      · refine ⟨_, rfl, _, rfl, st, sc, (n : Int), rfl, hS6, by omega, by omega, fun p zs H7 lz bz np hp hS7 f7 => ?_⟩
        exact ⟨hS7, f7 _ _ ((o6 D nD).trans hl5) nD, (tu5.fr o6.fr in1).fr f7 in1, p, zs, st_new hS6 np, hp, by omega, bz.wide (by decide), _, _, _, _, _, _, rfl⟩
      · exact ⟨hS6, (o6 D nD).trans hl5, tu5.fr o6.fr in1, c, qs, ncs, (o6 c ncs).trans hc5, by omega, bqs, _, _, _, _, _, _, rfl⟩
    rintro σ' H6 ⟨hS6, hl6, tu6, lq, qs, nlq, hq6, lqs, bq, y2, y6, y8, y9, y10, y11, rfl⟩
    clear hS5 f5 hc5 hl5 tu5
    -- if bits: ..
    refine ⟨fun σ H' => StAt H' st sc ∧ ∃ (lv lq : Addr) (us : List V) (vss : List (List Int)) (qs : List Int) (bb : Bool), lv ≠ st ∧ lq ≠ st ∧ H' lv = some (.lst us) ∧ Dts [st] H' us (vss.map intsD) ∧ 1 ≤ vss.length ∧ vss.length ≤ 2 ∧ (∀ v ∈ vss, v.length = n) ∧ (∀ v ∈ vss, Bd 300 v) ∧ H' lq = some (.lst (qs.map V.int)) ∧ qs.length = n ∧ Bd 310 qs ∧ (bb = true → Bits qs ∧ ∀ v ∈ vss, Bits v) ∧ ∃ (y2 y3 y6 y8 y9 y10 y11 : Option V), σ = [some (.ref a), some (.ref st), y2, y3, some (.bl bb), some (.ref lv), y6, some (.ref lq), y8, y9, y10, y11], ?_, ?_⟩
    · refine ⟨_, rfl, _, rfl, ?_⟩
      generalize decide (V.int e = V.int 0) = bb
      cases bb with
      | false => exact iteF ⟨hS6, D, lq, us, vss, qs, false, nD, nlq, hl6, tu6, lvn.1, lvn.2, ln, bd, hq6, lqs, bq, fun h => (nomatch h), _, _, _, _, _, _, _, rfl⟩
      | true =>
        refine iteT ⟨_, rfl, D, rfl, ⟨_, SqL.of hl6⟩, fun E hE => ?_⟩
        have nE : E ≠ st := st_new hS6 hE
        refine lc_list (K := K) (a := D) (xs := us) (fun j H' => Same H6 H' ∧ ∃ wss : List (List Int), wss.length = j ∧ (∀ v ∈ wss, v.length = n) ∧ (∀ v ∈ wss, Bits v) ∧ Bl [st] E H' (wss.map intsD)) ⟨same_new hE, [], rfl, fun _ h => (nomatch h), fun _ h => (nomatch h), Bl.nil⟩ (fun j H' _ h => SqL.of (h.1 _ _ hl6)) ?_ ?_
        · rintro j y H7 hj ⟨s7, wss, lw, lnw, bw, B7⟩
          obtain ⟨b, v, rfl, _, hb, ev⟩ := dts_get tu6 hj
          have mv := List.mem_of_getElem? ev
          have lv' := ln v mv
          refine ⟨rfl, _, rfl, b, v, rfl, s7 _ _ hb, by omega, fun G ys H8 ly by_ nG hG s8 => ?_⟩
          obtain ⟨w8, d8, t8⟩ := B7.same s8
          have l8 := t8.length
          rw [List.length_map] at l8
          have jl := (List.getElem?_eq_some_iff.mp hj).1
          have nGE : G ≠ E := (fun z => by
            obtain ⟨w7, d7, _⟩ := B7
            rw [← z, nG] at d7
            cases d7)
          have nGs : G ≠ st := st_new (hS6.same s7) nG
          refine ⟨_, d8, len_le (by omega), same_set (s7.trans s8) hE, wss ++ [ys], by simp [lw], fun v hv => ?_, fun v hv => ?_, ?_⟩
          · rcases List.mem_append.mp hv with h | h
            · exact lnw v h
            · rw [List.mem_singleton.mp h]; omega
          · rcases List.mem_append.mp hv with h | h
            · exact bw v h
            · rw [List.mem_singleton.mp h]; exact by_
          · rw [List.map_append]
            exact Bl.push d8 t8 (dtL (not_in2 nGE nGs) hG)
        rintro H7 ⟨s7, wss, lw, lnw, bw, B7⟩
        obtain ⟨w7, d7, t7'⟩ := B7
        have t7 : Dts [st] H7 w7 (wss.map intsD) := t7'.weak
        refine ⟨_, rfl, lq, qs, rfl, s7 _ _ hq6, by omega, fun G ys H8 ly by_ nG hG s8 => ?_⟩
        have bits_bd : ∀ {xs : List Int} {b : Int}, Bits xs → 1 ≤ b → Bd b xs := fun h h1 z hz => by
          rcases h z hz with e | e <;> omega
        exact ⟨(hS6.same s7).same s8, E, G, w7, wss, ys, true, nE, st_new (hS6.same s7) nG, s8 _ _ d7, t7.same s8, by omega, by omega, lnw, fun v hv => bits_bd (bw v hv) (by decide), hG, by omega, bits_bd by_ (by decide), fun _ => ⟨by_, bw⟩, _, _, _, _, _, _, _, rfl⟩
    rintro σ' H7 ⟨hS7, lv, lq, us, vss, qs, bb, nlv, nlq, hl7, tu7, v1, v2, ln, bd, hq7, lqs, bq, hbits, y2, y3, y6, y8, y9, y10, y11, rfl⟩
    refine ⟨_, rfl, _, rfl, st, sc, lv, us, vss, n, rfl, hS7, hl7, nlv, tu7, v1, v2, by omega, by omega, ln, bd, fun t f H8 ok nok hold dt hS8 f8 => ?_⟩
    refine ⟨[st], t, f, rfl, dt, ok, fun r H9 s9 hF => ?_⟩
    have hS9 := hS8.same s9
    have hl9 := s9 _ _ (f8 _ _ hl7 nlv)
    have hq9 := s9 _ _ (f8 _ _ hq7 nlq)
    have tu9 : Dts [st] H9 us (vss.map intsD) := (tu7.fr f8 in1).same s9
    have vq : VecOk qs := .of (by omega) bq (by decide)
    clear hS0 hS1 hS2 hS3 hS4 hS6 hS7 hS8 o1 o2 o3 f4 hl4 tu4 hl6 tu6 hq6 hl7 tu7 hq7 dt s9 f8 hpf
    cases f with
    | parts ps =>
      obtain ⟨dx, tt, as, h1, h2, h3⟩ := id hF

      refine ⟨_, rfl, lv, rfl, ⟨_, SqL.of hl9⟩, for_list (K := K) (a := lv) (xs := us) (fun j σ H' => Same H9 H' ∧ ∃ (y2 y3 y6 y8 y9 y11 : Option V), σ = [some (.ref a), some (.ref st), y2, y3, some (.bl bb), some (.ref lv), y6, some (.ref lq), y8, y9, some (.ref r), y11]) ⟨Same.refl _, _, _, _, _, _, _, rfl⟩ (fun j σ H' _ h => SqL.of (h.1 _ _ hl9)) ?_ ?_⟩
      rotate_left
      · rintro σ H' ⟨s10, y2, y3, y6, y8, y9, y11, rfl⟩
        exact ⟨hS9.same s10, _, _, _, _, _, _, _, _, _, _, rfl⟩
      rintro j y σ Ha hj ⟨sa, y2, y3, y6, y8, y9, y11, rfl⟩
      obtain ⟨b, v, rfl, _, hb9, ev⟩ := dts_get tu9 hj
      have mv := List.mem_of_getElem? ev
      have lv' := ln v mv
      have bv := bd v mv
      have vv : VecOk v := .of (by omega) bv (by decide)
      have hold' := hold v mv
      have hb := sa _ _ hb9
      -- holds
      refine ⟨fun σ H' => Same H9 H' ∧ ∃ (y2 y3 y6 y8 y11 : Option V), σ = [some (.ref a), some (.ref st), y2, y3, some (.bl bb), some (.ref lv), y6, some (.ref lq), y8, some (.ref b), some (.ref r), y11], ?_, ?_⟩
      · have h1a := sa _ _ h1
        have hFa := hF.same sa
        refine .inl (⟨_, rfl, r, dx, _, rfl, h1a, no_Parts, _, rfl, b, _, rfl, .inl (SqL.of hb), fun l2 hl2 x dx2 nx ndx ndn => ?_⟩)
        have s2 := same_new (o := .lst (v.map V.int)) hl2
        have d2 : (upd Ha l2 (.lst (v.map V.int))) l2 = some (.lst (v.map V.int)) := upd_same
        have hF2 := hFa.same s2
        generalize upd Ha l2 (.lst (v.map V.int)) = Hb at s2 d2 hF2 nx ndx ⊢
        refine ⟨x, dx2, l2, _, _, "r", v, [], [], [], [], rfl, upd_same, SqL.of (same_mk nx ndx _ _ d2), T.et_Record___init___fields _, .nil, T.et_Record___init___words _, .nil, by decide, by decide, fun Hc hR fr => ⟨rfl, ?_⟩⟩
        have s3 := (same_mk (C := T.c_Record) nx ndx).trans' fr nx
        obtain ⟨_, dy, tv, tf, tw, hr1, _, hr2, _, _⟩ := hR
        refine ⟨r, x, ps, v, rfl, hF2.same s3, ok, ⟨dy, _, tv, _, _, hr1, hr2⟩, vv, fun Hd s4 => ⟨_, rfl, ?_⟩⟩
        rw [hold']
        exact iteF ⟨sa.trans (s2.trans (s3.trans s4)), _, _, _, _, _, rfl⟩
      rintro σ1 Hb1 ⟨sb, y2, y3, y6, y8, y11, rfl⟩
      clear hb
      -- least distance
      refine ⟨fun σ H' => Same H9 H' ∧ ∃ (y2 y3 y6 y8 y11 : Option V), σ = [some (.ref a), some (.ref st), y2, y3, some (.bl bb), some (.ref lv), y6, some (.ref lq), y8, some (.ref b), some (.ref r), y11], ?_, ?_⟩
      · have h1a := sb _ _ h1
        have hqa := sb _ _ hq9
        have hba := sb _ _ hb9
        refine .inl (⟨_, rfl, r, dx, _, rfl, h1a, no_Parts, _, rfl, lq, _, rfl, .inl (SqL.of hqa), fun g hg => ⟨r, g, ps, qs, rfl, (hF.same sb).same (same_new hg), ok, upd_same, vq, fun H2 s2 => ?_⟩⟩)
        have s3 := (same_new (o := .lst (qs.map V.int)) hg).trans s2
        refine ⟨_, rfl, _, rfl, lq, b, _, _, rfl, s3 _ _ hqa, s3 _ _ hba, by omega, by omega, bq.wide (by decide), bv.wide (by decide), ?_⟩
        have sf := least_safe (f := .parts ps) (q := qs) (v := v) (by omega) hold'
        rw [← dist_ter] at sf
        refine ⟨_, _, rfl, rfl, _, rfl, ite2 (fun e => absurd (show dist qs v < leastZ qs (.parts ps) from of_decide_eq_true e) (by omega)) (fun _ => ?_)⟩
        exact ⟨sb.trans s3, _, _, _, _, _, rfl⟩
      rintro σ2 Hb2 ⟨sc2, y2, y3, y6, y8, y11, rfl⟩
      -- least differing
      refine ⟨fun σ H' => Same H9 H' ∧ ∃ (y2 y3 y6 y8 y11 : Option V), σ = [some (.ref a), some (.ref st), y2, y3, some (.bl bb), some (.ref lv), y6, some (.ref lq), y8, some (.ref b), some (.ref r), y11], ?_, ?_⟩
      · refine ⟨_, rfl, bb, rfl, ?_⟩
        cases bb with
        | false => exact iteF ⟨sc2, _, _, _, _, _, rfl⟩
        | true =>
          obtain ⟨bq1, bv1⟩ := hbits rfl
          have h1a := sc2 _ _ h1
          have hqa := sc2 _ _ hq9
          have hba := sc2 _ _ hb9
          refine iteT (.inl (⟨_, rfl, r, dx, _, rfl, h1a, no_Parts, _, rfl, lq, _, rfl, .inl (SqL.of hqa), fun g hg => ⟨r, g, .parts ps, qs, rfl, (hF.same sc2).same (same_new hg), ok, (by intro c m z; cases z), nok, upd_same, vq, fun H2 s2 => ?_⟩⟩))
          have s3 := (same_new (o := .lst (qs.map V.int)) hg).trans s2
          refine ⟨_, rfl, _, rfl, lq, b, _, _, rfl, s3 _ _ hqa, s3 _ _ hba, by omega, by omega, fun He s4 => ?_⟩
          have sf := diff_safe (f := .parts ps) (q := qs) (v := v) (by omega) hold' bq1 (bv1 v mv)
          refine ⟨_, _, rfl, rfl, _, rfl, ite2 (fun e => absurd (show (ter fNe qs v).sum < diffZ qs (.parts ps) from of_decide_eq_true e) (by omega)) (fun _ => ?_)⟩
          exact ⟨sc2.trans (s3.trans s4), _, _, _, _, _, rfl⟩
      rintro σ3 Hb3 ⟨sd, y2, y3, y6, y8, y11, rfl⟩
      -- most product
      refine ⟨fun σ H' => Same H9 H' ∧ ∃ (y2 y3 y6 y8 : Option V), σ = [some (.ref a), some (.ref st), y2, y3, some (.bl bb), some (.ref lv), y6, some (.ref lq), y8, some (.ref b), some (.ref r), some (optV (prodZ qs (.parts ps)))], ?_, ?_⟩
      · have h1a := sd _ _ h1
        have hqa := sd _ _ hq9
        refine .inl (⟨_, rfl, r, dx, _, rfl, h1a, no_Parts, _, rfl, lq, _, rfl, .inl (SqL.of hqa), fun g hg => ⟨r, g, ps, qs, rfl, (hF.same sd).same (same_new hg), upd_same, ok, vq, fun H2 s2 => ⟨sd.trans ((same_new hg).trans s2), _, _, _, _, rfl⟩⟩⟩)
      rintro σ4 Hb4 ⟨se, y2, y3, y6, y8, rfl⟩
      refine ⟨_, rfl, rfl, _, rfl, ?_⟩
      have sf : ∀ z, prodZ qs (.parts ps) = some z → (ter fMul qs v).sum ≤ z := fun z hz => prod_safe (by omega) hold' hz
      generalize prodZ qs (.parts ps) = z at sf
      cases z with
      | none => exact iteNS rfl ⟨se, _, _, _, _, _, _, rfl⟩
      | some z =>
        have nn : ¬ (optV (some z) = .non) := fun h => nomatch h
        rw [decide_eq_false nn]
        have k := sf z rfl
        refine iteT ⟨_, rfl, _, rfl, _, rfl, lq, b, _, _, rfl, se _ _ hq9, se _ _ hb9, by omega, vq, ?_⟩
        refine ⟨_, _, rfl, rfl, _, rfl, ite2 (fun e => absurd (show z < (ter fMul qs v).sum from of_decide_eq_true e) (by omega)) (fun _ => ?_)⟩
        exact ⟨se, _, _, _, _, _, _, rfl⟩
    | cell u v0 =>
      obtain ⟨dx, t1, t2, h1, h2, h3⟩ := id hF

      refine ⟨_, rfl, lv, rfl, ⟨_, SqL.of hl9⟩, for_list (K := K) (a := lv) (xs := us) (fun j σ H' => Same H9 H' ∧ ∃ (y2 y3 y6 y8 y9 y11 : Option V), σ = [some (.ref a), some (.ref st), y2, y3, some (.bl bb), some (.ref lv), y6, some (.ref lq), y8, y9, some (.ref r), y11]) ⟨Same.refl _, _, _, _, _, _, _, rfl⟩ (fun j σ H' _ h => SqL.of (h.1 _ _ hl9)) ?_ ?_⟩
      rotate_left
      · rintro σ H' ⟨s10, y2, y3, y6, y8, y9, y11, rfl⟩
        exact ⟨hS9.same s10, _, _, _, _, _, _, _, _, _, _, rfl⟩
      rintro j y σ Ha hj ⟨sa, y2, y3, y6, y8, y9, y11, rfl⟩
      obtain ⟨b, v, rfl, _, hb9, ev⟩ := dts_get tu9 hj
      have mv := List.mem_of_getElem? ev
      have lv' := ln v mv
      have bv := bd v mv
      have vv : VecOk v := .of (by omega) bv (by decide)
      have hold' := hold v mv
      have hb := sa _ _ hb9
      -- holds
      refine ⟨fun σ H' => Same H9 H' ∧ ∃ (y2 y3 y6 y8 y11 : Option V), σ = [some (.ref a), some (.ref st), y2, y3, some (.bl bb), some (.ref lv), y6, some (.ref lq), y8, some (.ref b), some (.ref r), y11], ?_, ?_⟩
      · have h1a := sa _ _ h1
        have hFa := hF.same sa
        refine .inr (.inl (⟨_, rfl, r, dx, _, rfl, h1a, no_Cell, _, rfl, b, _, rfl, .inl (SqL.of hb), fun l2 hl2 x dx2 nx ndx ndn => ?_⟩))
        have s2 := same_new (o := .lst (v.map V.int)) hl2
        have d2 : (upd Ha l2 (.lst (v.map V.int))) l2 = some (.lst (v.map V.int)) := upd_same
        have hF2 := hFa.same s2
        generalize upd Ha l2 (.lst (v.map V.int)) = Hb at s2 d2 hF2 nx ndx ⊢
        refine ⟨x, dx2, l2, _, _, "r", v, [], [], [], [], rfl, upd_same, SqL.of (same_mk nx ndx _ _ d2), T.et_Record___init___fields _, .nil, T.et_Record___init___words _, .nil, by decide, by decide, fun Hc hR fr => ⟨rfl, ?_⟩⟩
        have s3 := (same_mk (C := T.c_Record) nx ndx).trans' fr nx
        obtain ⟨_, dy, tv, tf, tw, hr1, _, hr2, _, _⟩ := hR
        refine ⟨r, x, u, v0, v, rfl, hF2.same s3, ok, ⟨dy, _, tv, _, _, hr1, hr2⟩, vv, fun Hd s4 => ⟨_, rfl, ?_⟩⟩
        rw [hold']
        exact iteF ⟨sa.trans (s2.trans (s3.trans s4)), _, _, _, _, _, rfl⟩
      rintro σ1 Hb1 ⟨sb, y2, y3, y6, y8, y11, rfl⟩
      clear hb
      -- least distance
      refine ⟨fun σ H' => Same H9 H' ∧ ∃ (y2 y3 y6 y8 y11 : Option V), σ = [some (.ref a), some (.ref st), y2, y3, some (.bl bb), some (.ref lv), y6, some (.ref lq), y8, some (.ref b), some (.ref r), y11], ?_, ?_⟩
      · have h1a := sb _ _ h1
        have hqa := sb _ _ hq9
        have hba := sb _ _ hb9
        refine .inr (.inl (⟨_, rfl, r, dx, _, rfl, h1a, no_Cell, _, rfl, lq, _, rfl, .inl (SqL.of hqa), fun g hg => ⟨r, g, u, v0, qs, rfl, (hF.same sb).same (same_new hg), ok, upd_same, vq, fun H2 s2 => ?_⟩⟩))
        have s3 := (same_new (o := .lst (qs.map V.int)) hg).trans s2
        refine ⟨_, rfl, _, rfl, lq, b, _, _, rfl, s3 _ _ hqa, s3 _ _ hba, by omega, by omega, bq.wide (by decide), bv.wide (by decide), ?_⟩
        have sf := least_safe (f := .cell u v0) (q := qs) (v := v) (by omega) hold'
        rw [← dist_ter] at sf
        refine ⟨_, _, rfl, rfl, _, rfl, ite2 (fun e => absurd (show dist qs v < leastZ qs (.cell u v0) from of_decide_eq_true e) (by omega)) (fun _ => ?_)⟩
        exact ⟨sb.trans s3, _, _, _, _, _, rfl⟩
      rintro σ2 Hb2 ⟨sc2, y2, y3, y6, y8, y11, rfl⟩
      -- least differing
      refine ⟨fun σ H' => Same H9 H' ∧ ∃ (y2 y3 y6 y8 y11 : Option V), σ = [some (.ref a), some (.ref st), y2, y3, some (.bl bb), some (.ref lv), y6, some (.ref lq), y8, some (.ref b), some (.ref r), y11], ?_, ?_⟩
      · refine ⟨_, rfl, bb, rfl, ?_⟩
        cases bb with
        | false => exact iteF ⟨sc2, _, _, _, _, _, rfl⟩
        | true =>
          obtain ⟨bq1, bv1⟩ := hbits rfl
          have h1a := sc2 _ _ h1
          have hqa := sc2 _ _ hq9
          have hba := sc2 _ _ hb9
          refine iteT (.inr (.inl (⟨_, rfl, r, dx, _, rfl, h1a, no_Cell, _, rfl, lq, _, rfl, .inl (SqL.of hqa), fun g hg => ⟨r, g, .cell u v0, qs, rfl, (hF.same sc2).same (same_new hg), ok, (by intro c m z; cases z), nok, upd_same, vq, fun H2 s2 => ?_⟩⟩)))
          have s3 := (same_new (o := .lst (qs.map V.int)) hg).trans s2
          refine ⟨_, rfl, _, rfl, lq, b, _, _, rfl, s3 _ _ hqa, s3 _ _ hba, by omega, by omega, fun He s4 => ?_⟩
          have sf := diff_safe (f := .cell u v0) (q := qs) (v := v) (by omega) hold' bq1 (bv1 v mv)
          refine ⟨_, _, rfl, rfl, _, rfl, ite2 (fun e => absurd (show (ter fNe qs v).sum < diffZ qs (.cell u v0) from of_decide_eq_true e) (by omega)) (fun _ => ?_)⟩
          exact ⟨sc2.trans (s3.trans s4), _, _, _, _, _, rfl⟩
      rintro σ3 Hb3 ⟨sd, y2, y3, y6, y8, y11, rfl⟩
      -- most product
      refine ⟨fun σ H' => Same H9 H' ∧ ∃ (y2 y3 y6 y8 : Option V), σ = [some (.ref a), some (.ref st), y2, y3, some (.bl bb), some (.ref lv), y6, some (.ref lq), y8, some (.ref b), some (.ref r), some (optV (prodZ qs (.cell u v0)))], ?_, ?_⟩
      · have h1a := sd _ _ h1
        have hqa := sd _ _ hq9
        refine .inr (.inl (⟨_, rfl, r, dx, _, rfl, h1a, no_Cell, _, rfl, lq, _, rfl, .inl (SqL.of hqa), fun g hg => ⟨.ref r, .ref g, rfl, sd.trans (same_new hg), _, _, _, _, rfl⟩⟩))
      rintro σ4 Hb4 ⟨se, y2, y3, y6, y8, rfl⟩
      refine ⟨_, rfl, rfl, _, rfl, ?_⟩
      have sf : ∀ z, prodZ qs (.cell u v0) = some z → (ter fMul qs v).sum ≤ z := fun z hz => prod_safe (by omega) hold' hz
      generalize prodZ qs (.cell u v0) = z at sf
      cases z with
      | none => exact iteNS rfl ⟨se, _, _, _, _, _, _, rfl⟩
      | some z =>
        have nn : ¬ (optV (some z) = .non) := fun h => nomatch h
        rw [decide_eq_false nn]
        have k := sf z rfl
        refine iteT ⟨_, rfl, _, rfl, _, rfl, lq, b, _, _, rfl, se _ _ hq9, se _ _ hb9, by omega, vq, ?_⟩
        refine ⟨_, _, rfl, rfl, _, rfl, ite2 (fun e => absurd (show z < (ter fMul qs v).sum from of_decide_eq_true e) (by omega)) (fun _ => ?_)⟩
        exact ⟨se, _, _, _, _, _, _, rfl⟩
    | box u v0 =>
      obtain ⟨dx, t1, t2, h1, h2, h3⟩ := id hF

      refine ⟨_, rfl, lv, rfl, ⟨_, SqL.of hl9⟩, for_list (K := K) (a := lv) (xs := us) (fun j σ H' => Same H9 H' ∧ ∃ (y2 y3 y6 y8 y9 y11 : Option V), σ = [some (.ref a), some (.ref st), y2, y3, some (.bl bb), some (.ref lv), y6, some (.ref lq), y8, y9, some (.ref r), y11]) ⟨Same.refl _, _, _, _, _, _, _, rfl⟩ (fun j σ H' _ h => SqL.of (h.1 _ _ hl9)) ?_ ?_⟩
      rotate_left
      · rintro σ H' ⟨s10, y2, y3, y6, y8, y9, y11, rfl⟩
        exact ⟨hS9.same s10, _, _, _, _, _, _, _, _, _, _, rfl⟩
      rintro j y σ Ha hj ⟨sa, y2, y3, y6, y8, y9, y11, rfl⟩
      obtain ⟨b, v, rfl, _, hb9, ev⟩ := dts_get tu9 hj
      have mv := List.mem_of_getElem? ev
      have lv' := ln v mv
      have bv := bd v mv
      have vv : VecOk v := .of (by omega) bv (by decide)
      have hold' := hold v mv
      have hb := sa _ _ hb9
      -- holds
      refine ⟨fun σ H' => Same H9 H' ∧ ∃ (y2 y3 y6 y8 y11 : Option V), σ = [some (.ref a), some (.ref st), y2, y3, some (.bl bb), some (.ref lv), y6, some (.ref lq), y8, some (.ref b), some (.ref r), y11], ?_, ?_⟩
      · have h1a := sa _ _ h1
        have hFa := hF.same sa
        refine .inr (.inr (.inl (⟨_, rfl, r, dx, _, rfl, h1a, no_Box, _, rfl, b, _, rfl, .inl (SqL.of hb), fun l2 hl2 x dx2 nx ndx ndn => ?_⟩)))
        have s2 := same_new (o := .lst (v.map V.int)) hl2
        have d2 : (upd Ha l2 (.lst (v.map V.int))) l2 = some (.lst (v.map V.int)) := upd_same
        have hF2 := hFa.same s2
        generalize upd Ha l2 (.lst (v.map V.int)) = Hb at s2 d2 hF2 nx ndx ⊢
        refine ⟨x, dx2, l2, _, _, "r", v, [], [], [], [], rfl, upd_same, SqL.of (same_mk nx ndx _ _ d2), T.et_Record___init___fields _, .nil, T.et_Record___init___words _, .nil, by decide, by decide, fun Hc hR fr => ⟨rfl, ?_⟩⟩
        have s3 := (same_mk (C := T.c_Record) nx ndx).trans' fr nx
        obtain ⟨_, dy, tv, tf, tw, hr1, _, hr2, _, _⟩ := hR
        refine ⟨r, x, u, v0, v, rfl, hF2.same s3, ok, ⟨dy, _, tv, _, _, hr1, hr2⟩, vv, fun Hd s4 => ⟨_, rfl, ?_⟩⟩
        rw [hold']
        exact iteF ⟨sa.trans (s2.trans (s3.trans s4)), _, _, _, _, _, rfl⟩
      rintro σ1 Hb1 ⟨sb, y2, y3, y6, y8, y11, rfl⟩
      clear hb
      -- least distance
      refine ⟨fun σ H' => Same H9 H' ∧ ∃ (y2 y3 y6 y8 y11 : Option V), σ = [some (.ref a), some (.ref st), y2, y3, some (.bl bb), some (.ref lv), y6, some (.ref lq), y8, some (.ref b), some (.ref r), y11], ?_, ?_⟩
      · have h1a := sb _ _ h1
        have hqa := sb _ _ hq9
        have hba := sb _ _ hb9
        refine .inr (.inr (.inl (⟨_, rfl, r, dx, _, rfl, h1a, no_Box, _, rfl, lq, _, rfl, .inl (SqL.of hqa), fun g hg => ⟨r, g, u, v0, qs, rfl, (hF.same sb).same (same_new hg), ok, upd_same, vq, fun H2 s2 => ?_⟩⟩)))
        have s3 := (same_new (o := .lst (qs.map V.int)) hg).trans s2
        refine ⟨_, rfl, _, rfl, lq, b, _, _, rfl, s3 _ _ hqa, s3 _ _ hba, by omega, by omega, bq.wide (by decide), bv.wide (by decide), ?_⟩
        have sf := least_safe (f := .box u v0) (q := qs) (v := v) (by omega) hold'
        rw [← dist_ter] at sf
        refine ⟨_, _, rfl, rfl, _, rfl, ite2 (fun e => absurd (show dist qs v < leastZ qs (.box u v0) from of_decide_eq_true e) (by omega)) (fun _ => ?_)⟩
        exact ⟨sb.trans s3, _, _, _, _, _, rfl⟩
      rintro σ2 Hb2 ⟨sc2, y2, y3, y6, y8, y11, rfl⟩
      -- least differing
      refine ⟨fun σ H' => Same H9 H' ∧ ∃ (y2 y3 y6 y8 y11 : Option V), σ = [some (.ref a), some (.ref st), y2, y3, some (.bl bb), some (.ref lv), y6, some (.ref lq), y8, some (.ref b), some (.ref r), y11], ?_, ?_⟩
      · refine ⟨_, rfl, bb, rfl, ?_⟩
        cases bb with
        | false => exact iteF ⟨sc2, _, _, _, _, _, rfl⟩
        | true =>
          obtain ⟨bq1, bv1⟩ := hbits rfl
          have h1a := sc2 _ _ h1
          have hqa := sc2 _ _ hq9
          have hba := sc2 _ _ hb9
          refine iteT (.inr (.inr (.inl (⟨_, rfl, r, dx, _, rfl, h1a, no_Box, _, rfl, lq, _, rfl, .inl (SqL.of hqa), fun g hg => ⟨r, g, .box u v0, qs, rfl, (hF.same sc2).same (same_new hg), ok, (by intro c m z; cases z), nok, upd_same, vq, fun H2 s2 => ?_⟩⟩))))
          have s3 := (same_new (o := .lst (qs.map V.int)) hg).trans s2
          refine ⟨_, rfl, _, rfl, lq, b, _, _, rfl, s3 _ _ hqa, s3 _ _ hba, by omega, by omega, fun He s4 => ?_⟩
          have sf := diff_safe (f := .box u v0) (q := qs) (v := v) (by omega) hold' bq1 (bv1 v mv)
          refine ⟨_, _, rfl, rfl, _, rfl, ite2 (fun e => absurd (show (ter fNe qs v).sum < diffZ qs (.box u v0) from of_decide_eq_true e) (by omega)) (fun _ => ?_)⟩
          exact ⟨sc2.trans (s3.trans s4), _, _, _, _, _, rfl⟩
      rintro σ3 Hb3 ⟨sd, y2, y3, y6, y8, y11, rfl⟩
      -- most product
      refine ⟨fun σ H' => Same H9 H' ∧ ∃ (y2 y3 y6 y8 : Option V), σ = [some (.ref a), some (.ref st), y2, y3, some (.bl bb), some (.ref lv), y6, some (.ref lq), y8, some (.ref b), some (.ref r), some (optV (prodZ qs (.box u v0)))], ?_, ?_⟩
      · have h1a := sd _ _ h1
        have hqa := sd _ _ hq9
        refine .inr (.inr (.inl (⟨_, rfl, r, dx, _, rfl, h1a, no_Box, _, rfl, lq, _, rfl, .inl (SqL.of hqa), fun g hg => ⟨r, g, u, v0, qs, rfl, (hF.same sd).same (same_new hg), upd_same, ok, vq, fun H2 s2 => ⟨sd.trans ((same_new hg).trans s2), _, _, _, _, rfl⟩⟩⟩)))
      rintro σ4 Hb4 ⟨se, y2, y3, y6, y8, rfl⟩
      refine ⟨_, rfl, rfl, _, rfl, ?_⟩
      have sf : ∀ z, prodZ qs (.box u v0) = some z → (ter fMul qs v).sum ≤ z := fun z hz => prod_safe (by omega) hold' hz
      generalize prodZ qs (.box u v0) = z at sf
      cases z with
      | none => exact iteNS rfl ⟨se, _, _, _, _, _, _, rfl⟩
      | some z =>
        have nn : ¬ (optV (some z) = .non) := fun h => nomatch h
        rw [decide_eq_false nn]
        have k := sf z rfl
        refine iteT ⟨_, rfl, _, rfl, _, rfl, lq, b, _, _, rfl, se _ _ hq9, se _ _ hb9, by omega, vq, ?_⟩
        refine ⟨_, _, rfl, rfl, _, rfl, ite2 (fun e => absurd (show z < (ter fMul qs v).sum from of_decide_eq_true e) (by omega)) (fun _ => ?_)⟩
        exact ⟨se, _, _, _, _, _, _, rfl⟩
    | norms u v0 =>
      obtain ⟨dx, h1⟩ := id hF

      refine ⟨_, rfl, lv, rfl, ⟨_, SqL.of hl9⟩, for_list (K := K) (a := lv) (xs := us) (fun j σ H' => Same H9 H' ∧ ∃ (y2 y3 y6 y8 y9 y11 : Option V), σ = [some (.ref a), some (.ref st), y2, y3, some (.bl bb), some (.ref lv), y6, some (.ref lq), y8, y9, some (.ref r), y11]) ⟨Same.refl _, _, _, _, _, _, _, rfl⟩ (fun j σ H' _ h => SqL.of (h.1 _ _ hl9)) ?_ ?_⟩
      rotate_left
      · rintro σ H' ⟨s10, y2, y3, y6, y8, y9, y11, rfl⟩
        exact ⟨hS9.same s10, _, _, _, _, _, _, _, _, _, _, rfl⟩
      rintro j y σ Ha hj ⟨sa, y2, y3, y6, y8, y9, y11, rfl⟩
      obtain ⟨b, v, rfl, _, hb9, ev⟩ := dts_get tu9 hj
      have mv := List.mem_of_getElem? ev
      have lv' := ln v mv
      have bv := bd v mv
      have vv : VecOk v := .of (by omega) bv (by decide)
      have hold' := hold v mv
      have hb := sa _ _ hb9
      -- holds
      refine ⟨fun σ H' => Same H9 H' ∧ ∃ (y2 y3 y6 y8 y11 : Option V), σ = [some (.ref a), some (.ref st), y2, y3, some (.bl bb), some (.ref lv), y6, some (.ref lq), y8, some (.ref b), some (.ref r), y11], ?_, ?_⟩
      · have h1a := sa _ _ h1
        have hFa := hF.same sa
        refine .inr (.inr (.inr (.inl (⟨_, rfl, r, dx, _, rfl, h1a, no_Norms, _, rfl, b, _, rfl, .inl (SqL.of hb), fun l2 hl2 x dx2 nx ndx ndn => ?_⟩))))
        have s2 := same_new (o := .lst (v.map V.int)) hl2
        have d2 : (upd Ha l2 (.lst (v.map V.int))) l2 = some (.lst (v.map V.int)) := upd_same
        have hF2 := hFa.same s2
        generalize upd Ha l2 (.lst (v.map V.int)) = Hb at s2 d2 hF2 nx ndx ⊢
        refine ⟨x, dx2, l2, _, _, "r", v, [], [], [], [], rfl, upd_same, SqL.of (same_mk nx ndx _ _ d2), T.et_Record___init___fields _, .nil, T.et_Record___init___words _, .nil, by decide, by decide, fun Hc hR fr => ⟨rfl, ?_⟩⟩
        have s3 := (same_mk (C := T.c_Record) nx ndx).trans' fr nx
        obtain ⟨_, dy, tv, tf, tw, hr1, _, hr2, _, _⟩ := hR
        refine ⟨r, x, u, v0, v, rfl, hF2.same s3, ok, ⟨dy, _, tv, _, _, hr1, hr2⟩, vv, fun Hd s4 => ⟨_, rfl, ?_⟩⟩
        rw [hold']
        exact iteF ⟨sa.trans (s2.trans (s3.trans s4)), _, _, _, _, _, rfl⟩
      rintro σ1 Hb1 ⟨sb, y2, y3, y6, y8, y11, rfl⟩
      clear hb
      -- least distance
      refine ⟨fun σ H' => Same H9 H' ∧ ∃ (y2 y3 y6 y8 y11 : Option V), σ = [some (.ref a), some (.ref st), y2, y3, some (.bl bb), some (.ref lv), y6, some (.ref lq), y8, some (.ref b), some (.ref r), y11], ?_, ?_⟩
      · have h1a := sb _ _ h1
        have hqa := sb _ _ hq9
        have hba := sb _ _ hb9
        refine .inr (.inr (.inr (.inl (⟨_, rfl, r, dx, _, rfl, h1a, no_Norms, _, rfl, lq, _, rfl, .inl (SqL.of hqa), fun g hg => ⟨r, g, u, v0, qs, rfl, (hF.same sb).same (same_new hg), ok, upd_same, vq, nok u v0 rfl, fun H2 s2 => ?_⟩⟩))))
        have s3 := (same_new (o := .lst (qs.map V.int)) hg).trans s2
        refine ⟨_, rfl, _, rfl, lq, b, _, _, rfl, s3 _ _ hqa, s3 _ _ hba, by omega, by omega, bq.wide (by decide), bv.wide (by decide), ?_⟩
        have sf := least_safe (f := .norms u v0) (q := qs) (v := v) (by omega) hold'
        rw [← dist_ter] at sf
        refine ⟨_, _, rfl, rfl, _, rfl, ite2 (fun e => absurd (show dist qs v < leastZ qs (.norms u v0) from of_decide_eq_true e) (by omega)) (fun _ => ?_)⟩
        exact ⟨sb.trans s3, _, _, _, _, _, rfl⟩
      rintro σ2 Hb2 ⟨sc2, y2, y3, y6, y8, y11, rfl⟩
      -- least differing
      refine ⟨fun σ H' => Same H9 H' ∧ ∃ (y2 y3 y6 y8 y11 : Option V), σ = [some (.ref a), some (.ref st), y2, y3, some (.bl bb), some (.ref lv), y6, some (.ref lq), y8, some (.ref b), some (.ref r), y11], ?_, ?_⟩
      · refine ⟨_, rfl, bb, rfl, ?_⟩
        cases bb with
        | false => exact iteF ⟨sc2, _, _, _, _, _, rfl⟩
        | true =>
          obtain ⟨bq1, bv1⟩ := hbits rfl
          have h1a := sc2 _ _ h1
          have hqa := sc2 _ _ hq9
          have hba := sc2 _ _ hb9
          refine iteT (.inr (.inr (.inr (.inl (⟨_, rfl, r, dx, _, rfl, h1a, no_Norms, _, rfl, lq, _, rfl, .inl (SqL.of hqa), fun g hg => ⟨r, g, .norms u v0, qs, rfl, (hF.same sc2).same (same_new hg), ok, (by intro c m z; cases z), nok, upd_same, vq, fun H2 s2 => ?_⟩⟩)))))
          have s3 := (same_new (o := .lst (qs.map V.int)) hg).trans s2
          refine ⟨_, rfl, _, rfl, lq, b, _, _, rfl, s3 _ _ hqa, s3 _ _ hba, by omega, by omega, fun He s4 => ?_⟩
          have sf := diff_safe (f := .norms u v0) (q := qs) (v := v) (by omega) hold' bq1 (bv1 v mv)
          refine ⟨_, _, rfl, rfl, _, rfl, ite2 (fun e => absurd (show (ter fNe qs v).sum < diffZ qs (.norms u v0) from of_decide_eq_true e) (by omega)) (fun _ => ?_)⟩
          exact ⟨sc2.trans (s3.trans s4), _, _, _, _, _, rfl⟩
      rintro σ3 Hb3 ⟨sd, y2, y3, y6, y8, y11, rfl⟩
      -- most product
      refine ⟨fun σ H' => Same H9 H' ∧ ∃ (y2 y3 y6 y8 : Option V), σ = [some (.ref a), some (.ref st), y2, y3, some (.bl bb), some (.ref lv), y6, some (.ref lq), y8, some (.ref b), some (.ref r), some (optV (prodZ qs (.norms u v0)))], ?_, ?_⟩
      · have h1a := sd _ _ h1
        have hqa := sd _ _ hq9
        refine .inr (.inr (.inr (.inl (⟨_, rfl, r, dx, _, rfl, h1a, no_Norms, _, rfl, lq, _, rfl, .inl (SqL.of hqa), fun g hg => ⟨r, g, u, v0, qs, rfl, (hF.same sd).same (same_new hg), upd_same, ok, vq, fun H2 s2 => ⟨sd.trans ((same_new hg).trans s2), _, _, _, _, rfl⟩⟩⟩))))
      rintro σ4 Hb4 ⟨se, y2, y3, y6, y8, rfl⟩
      refine ⟨_, rfl, rfl, _, rfl, ?_⟩
      have sf : ∀ z, prodZ qs (.norms u v0) = some z → (ter fMul qs v).sum ≤ z := fun z hz => prod_safe (by omega) hold' hz
      generalize prodZ qs (.norms u v0) = z at sf
      cases z with
      | none => exact iteNS rfl ⟨se, _, _, _, _, _, _, rfl⟩
      | some z =>
        have nn : ¬ (optV (some z) = .non) := fun h => nomatch h
        rw [decide_eq_false nn]
        have k := sf z rfl
        refine iteT ⟨_, rfl, _, rfl, _, rfl, lq, b, _, _, rfl, se _ _ hq9, se _ _ hb9, by omega, vq, ?_⟩
        refine ⟨_, _, rfl, rfl, _, rfl, ite2 (fun e => absurd (show z < (ter fMul qs v).sum from of_decide_eq_true e) (by omega)) (fun _ => ?_)⟩
        exact ⟨se, _, _, _, _, _, _, rfl⟩
    | differ u v0 =>
      obtain ⟨dx, t1, h1, h2⟩ := id hF

      refine ⟨_, rfl, lv, rfl, ⟨_, SqL.of hl9⟩, for_list (K := K) (a := lv) (xs := us) (fun j σ H' => Same H9 H' ∧ ∃ (y2 y3 y6 y8 y9 y11 : Option V), σ = [some (.ref a), some (.ref st), y2, y3, some (.bl bb), some (.ref lv), y6, some (.ref lq), y8, y9, some (.ref r), y11]) ⟨Same.refl _, _, _, _, _, _, _, rfl⟩ (fun j σ H' _ h => SqL.of (h.1 _ _ hl9)) ?_ ?_⟩
      rotate_left
      · rintro σ H' ⟨s10, y2, y3, y6, y8, y9, y11, rfl⟩
        exact ⟨hS9.same s10, _, _, _, _, _, _, _, _, _, _, rfl⟩
      rintro j y σ Ha hj ⟨sa, y2, y3, y6, y8, y9, y11, rfl⟩
      obtain ⟨b, v, rfl, _, hb9, ev⟩ := dts_get tu9 hj
      have mv := List.mem_of_getElem? ev
      have lv' := ln v mv
      have bv := bd v mv
      have vv : VecOk v := .of (by omega) bv (by decide)
      have hold' := hold v mv
      have hb := sa _ _ hb9
      -- holds
      refine ⟨fun σ H' => Same H9 H' ∧ ∃ (y2 y3 y6 y8 y11 : Option V), σ = [some (.ref a), some (.ref st), y2, y3, some (.bl bb), some (.ref lv), y6, some (.ref lq), y8, some (.ref b), some (.ref r), y11], ?_, ?_⟩
      · have h1a := sa _ _ h1
        have hFa := hF.same sa
        refine .inr (.inr (.inr (.inr (⟨_, rfl, r, dx, _, rfl, h1a, no_Differ, _, rfl, b, _, rfl, .inl (SqL.of hb), fun l2 hl2 x dx2 nx ndx ndn => ?_⟩))))
        have s2 := same_new (o := .lst (v.map V.int)) hl2
        have d2 : (upd Ha l2 (.lst (v.map V.int))) l2 = some (.lst (v.map V.int)) := upd_same
        have hF2 := hFa.same s2
        generalize upd Ha l2 (.lst (v.map V.int)) = Hb at s2 d2 hF2 nx ndx ⊢
        refine ⟨x, dx2, l2, _, _, "r", v, [], [], [], [], rfl, upd_same, SqL.of (same_mk nx ndx _ _ d2), T.et_Record___init___fields _, .nil, T.et_Record___init___words _, .nil, by decide, by decide, fun Hc hR fr => ⟨rfl, ?_⟩⟩
        have s3 := (same_mk (C := T.c_Record) nx ndx).trans' fr nx
        obtain ⟨_, dy, tv, tf, tw, hr1, _, hr2, _, _⟩ := hR
        refine ⟨r, x, u, v0, v, rfl, hF2.same s3, ok, ⟨dy, _, tv, _, _, hr1, hr2⟩, vv, fun Hd s4 => ⟨_, rfl, ?_⟩⟩
        rw [hold']
        exact iteF ⟨sa.trans (s2.trans (s3.trans s4)), _, _, _, _, _, rfl⟩
      rintro σ1 Hb1 ⟨sb, y2, y3, y6, y8, y11, rfl⟩
      clear hb
      -- least distance
      refine ⟨fun σ H' => Same H9 H' ∧ ∃ (y2 y3 y6 y8 y11 : Option V), σ = [some (.ref a), some (.ref st), y2, y3, some (.bl bb), some (.ref lv), y6, some (.ref lq), y8, some (.ref b), some (.ref r), y11], ?_, ?_⟩
      · have h1a := sb _ _ h1
        have hqa := sb _ _ hq9
        have hba := sb _ _ hb9
        refine .inr (.inr (.inr (.inr (⟨_, rfl, r, dx, _, rfl, h1a, no_Differ, _, rfl, lq, _, rfl, .inl (SqL.of hqa), fun g hg => ?_⟩))))
        refine ⟨.ref r, .ref g, rfl, ?_⟩
        have s2 : Same (upd Hb1 g (.lst (qs.map V.int))) (upd Hb1 g (.lst (qs.map V.int))) := Same.refl _

        have s3 := (same_new (o := .lst (qs.map V.int)) hg).trans s2
        refine ⟨_, rfl, _, rfl, lq, b, _, _, rfl, s3 _ _ hqa, s3 _ _ hba, by omega, by omega, bq.wide (by decide), bv.wide (by decide), ?_⟩
        have sf := least_safe (f := .differ u v0) (q := qs) (v := v) (by omega) hold'
        rw [← dist_ter] at sf
        refine ⟨_, _, rfl, rfl, _, rfl, ite2 (fun e => absurd (show dist qs v < leastZ qs (.differ u v0) from of_decide_eq_true e) (by omega)) (fun _ => ?_)⟩
        exact ⟨sb.trans s3, _, _, _, _, _, rfl⟩
      rintro σ2 Hb2 ⟨sc2, y2, y3, y6, y8, y11, rfl⟩
      -- least differing
      refine ⟨fun σ H' => Same H9 H' ∧ ∃ (y2 y3 y6 y8 y11 : Option V), σ = [some (.ref a), some (.ref st), y2, y3, some (.bl bb), some (.ref lv), y6, some (.ref lq), y8, some (.ref b), some (.ref r), y11], ?_, ?_⟩
      · refine ⟨_, rfl, bb, rfl, ?_⟩
        cases bb with
        | false => exact iteF ⟨sc2, _, _, _, _, _, rfl⟩
        | true =>
          obtain ⟨bq1, bv1⟩ := hbits rfl
          have h1a := sc2 _ _ h1
          have hqa := sc2 _ _ hq9
          have hba := sc2 _ _ hb9
          refine iteT (.inr (.inr (.inr (.inr (⟨_, rfl, r, dx, _, rfl, h1a, no_Differ, _, rfl, lq, _, rfl, .inl (SqL.of hqa), fun g hg => ⟨r, g, u, v0, qs, rfl, (hF.same sc2).same (same_new hg), ok, upd_same, vq, fun H2 s2 => ?_⟩⟩)))))
          have s3 := (same_new (o := .lst (qs.map V.int)) hg).trans s2
          refine ⟨_, rfl, _, rfl, lq, b, _, _, rfl, s3 _ _ hqa, s3 _ _ hba, by omega, by omega, fun He s4 => ?_⟩
          have sf := diff_safe (f := .differ u v0) (q := qs) (v := v) (by omega) hold' bq1 (bv1 v mv)
          refine ⟨_, _, rfl, rfl, _, rfl, ite2 (fun e => absurd (show (ter fNe qs v).sum < diffZ qs (.differ u v0) from of_decide_eq_true e) (by omega)) (fun _ => ?_)⟩
          exact ⟨sc2.trans (s3.trans s4), _, _, _, _, _, rfl⟩
      rintro σ3 Hb3 ⟨sd, y2, y3, y6, y8, y11, rfl⟩
      -- most product
      refine ⟨fun σ H' => Same H9 H' ∧ ∃ (y2 y3 y6 y8 : Option V), σ = [some (.ref a), some (.ref st), y2, y3, some (.bl bb), some (.ref lv), y6, some (.ref lq), y8, some (.ref b), some (.ref r), some (optV (prodZ qs (.differ u v0)))], ?_, ?_⟩
      · have h1a := sd _ _ h1
        have hqa := sd _ _ hq9
        refine .inr (.inr (.inr (.inr (⟨_, rfl, r, dx, _, rfl, h1a, no_Differ, _, rfl, lq, _, rfl, .inl (SqL.of hqa), fun g hg => ⟨.ref r, .ref g, rfl, sd.trans (same_new hg), _, _, _, _, rfl⟩⟩))))
      rintro σ4 Hb4 ⟨se, y2, y3, y6, y8, rfl⟩
      refine ⟨_, rfl, rfl, _, rfl, ?_⟩
      have sf : ∀ z, prodZ qs (.differ u v0) = some z → (ter fMul qs v).sum ≤ z := fun z hz => prod_safe (by omega) hold' hz
      generalize prodZ qs (.differ u v0) = z at sf
      cases z with
      | none => exact iteNS rfl ⟨se, _, _, _, _, _, _, rfl⟩
      | some z =>
        have nn : ¬ (optV (some z) = .non) := fun h => nomatch h
        rw [decide_eq_false nn]
        have k := sf z rfl
        refine iteT ⟨_, rfl, _, rfl, _, rfl, lq, b, _, _, rfl, se _ _ hq9, se _ _ hb9, by omega, vq, ?_⟩
        refine ⟨_, _, rfl, rfl, _, rfl, ite2 (fun e => absurd (show z < (ter fMul qs v).sum from of_decide_eq_true e) (by omega)) (fun _ => ?_)⟩
        exact ⟨se, _, _, _, _, _, _, rfl⟩
end
set_option maxRecDepth 100000 in
set_option maxHeartbeats 0 in
theorem all_mk {l : PySem.W.OpenLaw} {w : World} {K : PySem.W.Frag} {h : Heap} {mg : Str → Option Value} {fa f0 f1 f2 f3 f4 f5 f6 f7 f8 f9 f10 f11 f12 f13 f14 f15 f16 f17 f18 f19 f20 f21 f22 f23 f24 f25 f26 f27 f28 f29 f30 f31 f32 f33 f34 f35 f36 f37 f38 f39 f40 f41 f42 f43 f44 f45 f46 f47 f48 f49 f50 : Addr} (X : K.In h) (G : h.Ns mainGlobals mg) (hfa : mg "law" = some (.ref fa))
    {od0 an0 od1 an1 od2 an2 od3 an3 od4 an4 od5 an5 od6 an6 od7 an7 od8 an8 od9 an9 od10 an10 od11 an11 od12 an12 od13 an13 od14 an14 od15 an15 od16 an16 od17 an17 od18 an18 od19 an19 od20 an20 od21 an21 od22 an22 od23 an23 od24 an24 od25 an25 od26 an26 od27 an27 od28 an28 od29 an29 od30 an30 od31 an31 od32 an32 od33 an33 od34 an34 od35 an35 od36 an36 od37 an37 od38 an38 od39 an39 od40 an40 od41 an41 od42 an42 od43 an43 od44 an44 od45 an45 od46 an46 od47 an47 od48 an48 od49 an49 od50 an50 : Option Addr} {sl0 sl1 sl2 sl3 sl4 sl5 sl6 sl7 sl8 sl9 sl10 sl11 sl12 sl13 sl14 sl15 sl16 sl17 sl18 sl19 sl20 sl21 sl22 sl23 sl24 sl25 sl26 sl27 sl28 sl29 sl30 sl31 sl32 sl33 sl34 sl35 sl36 sl37 sl38 sl39 sl40 sl41 sl42 sl43 sl44 sl45 sl46 sl47 sl48 sl49 sl50 : Array (Option Value)} {oc0 kV0 dc0 pm0 cd0 ct0 oc1 kV1 dc1 pm1 cd1 ct1 oc2 kV2 dc2 pm2 cd2 ct2 oc3 kV3 dc3 pm3 cd3 ct3 oc4 kV4 dc4 pm4 cd4 ct4 oc5 kV5 dc5 pm5 cd5 ct5 oc6 kV6 dc6 pm6 cd6 ct6 oc7 kV7 dc7 pm7 cd7 ct7 oc8 kV8 dc8 pm8 cd8 ct8 oc9 kV9 dc9 pm9 cd9 ct9 oc10 kV10 dc10 pm10 cd10 ct10 oc11 kV11 dc11 pm11 cd11 ct11 oc12 kV12 dc12 pm12 cd12 ct12 oc13 kV13 dc13 pm13 cd13 ct13 oc14 kV14 dc14 pm14 cd14 ct14 oc15 kV15 dc15 pm15 cd15 ct15 oc16 kV16 dc16 pm16 cd16 ct16 oc17 kV17 dc17 pm17 cd17 ct17 oc18 kV18 dc18 pm18 cd18 ct18 oc19 kV19 dc19 pm19 cd19 ct19 oc20 kV20 dc20 pm20 cd20 ct20 oc21 kV21 dc21 pm21 cd21 ct21 oc22 kV22 dc22 pm22 cd22 ct22 oc23 kV23 dc23 pm23 cd23 ct23 oc24 kV24 dc24 pm24 cd24 ct24 oc25 kV25 dc25 pm25 cd25 ct25 oc26 kV26 dc26 pm26 cd26 ct26 oc27 kV27 dc27 pm27 cd27 ct27 oc28 kV28 dc28 pm28 cd28 ct28 oc29 kV29 dc29 pm29 cd29 ct29 oc30 kV30 dc30 pm30 cd30 ct30 oc31 kV31 dc31 pm31 cd31 ct31 oc32 kV32 dc32 pm32 cd32 ct32 oc33 kV33 dc33 pm33 cd33 ct33 oc34 kV34 dc34 pm34 cd34 ct34 oc35 kV35 dc35 pm35 cd35 ct35 oc36 kV36 dc36 pm36 cd36 ct36 oc37 kV37 dc37 pm37 cd37 ct37 oc38 kV38 dc38 pm38 cd38 ct38 oc39 kV39 dc39 pm39 cd39 ct39 oc40 kV40 dc40 pm40 cd40 ct40 oc41 dc41 pm41 cd41 ct41 oc42 kV42 dc42 pm42 cd42 ct42 oc43 kV43 dc43 pm43 cd43 ct43 oc44 kV44 dc44 pm44 cd44 ct44 oc45 kV45 dc45 pm45 cd45 ct45 oc46 kV46 dc46 pm46 cd46 ct46 oc47 kV47 dc47 pm47 cd47 ct47 oc48 kV48 dc48 pm48 cd48 ct48 oc49 kV49 dc49 pm49 cd49 ct49 oc50 kV50 dc50 pm50 cd50 ct50 : Value}
    {C_Part C_Parts C_Cell C_Box C_Norms C_Differ C_Record : Addr}
    {p_Part_after : Addr} {rest_Part_after : List Value}
    (a0 : PySem.W.nsIn K mainGlobals "_law_row" = some (some (.ref f0))) (l0 : K.lookup f0 = some ⟨oc0, od0, .func (PySem.W.fnOf "_law_row" "_law_row" (defArgs s_law_row) (defBody s_law_row) (defScope s_law_row) .none kV0 dc0 pm0 an0 cd0 ct0), sl0⟩) (c0 : PySem.W.codeIn K cd0 "_law_row" = true) (k0 : PySem.W.keepIn K (.ref f0) = true)
    (a1 : PySem.W.nsIn K mainGlobals "_law_next" = some (some (.ref f1))) (l1 : K.lookup f1 = some ⟨oc1, od1, .func (PySem.W.fnOf "_law_next" "_law_next" (defArgs s_law_next) (defBody s_law_next) (defScope s_law_next) .none kV1 dc1 pm1 an1 cd1 ct1), sl1⟩) (c1 : PySem.W.codeIn K cd1 "_law_next" = true) (k1 : PySem.W.keepIn K (.ref f1) = true)
    (a2 : PySem.W.nsIn K mainGlobals "root" = some (some (.ref f2))) (l2 : K.lookup f2 = some ⟨oc2, od2, .func (PySem.W.fnOf "root" "root" (defArgs s_root) (defBody s_root) (defScope s_root) .none kV2 dc2 pm2 an2 cd2 ct2), sl2⟩) (c2 : PySem.W.codeIn K cd2 "root" = true) (k2 : PySem.W.keepIn K (.ref f2) = true)
    (a3 : PySem.W.nsIn K mainGlobals "gap" = some (some (.ref f3))) (l3 : K.lookup f3 = some ⟨oc3, od3, .func (PySem.W.fnOf "gap" "gap" (defArgs s_gap) (defBody s_gap) (defScope s_gap) .none kV3 dc3 pm3 an3 cd3 ct3), sl3⟩) (c3 : PySem.W.codeIn K cd3 "gap" = true) (k3 : PySem.W.keepIn K (.ref f3) = true)
    (a4 : PySem.W.nsIn K mainGlobals "inner" = some (some (.ref f4))) (l4 : K.lookup f4 = some ⟨oc4, od4, .func (PySem.W.fnOf "inner" "inner" (defArgs s_inner) (defBody s_inner) (defScope s_inner) .none kV4 dc4 pm4 an4 cd4 ct4), sl4⟩) (c4 : PySem.W.codeIn K cd4 "inner" = true) (k4 : PySem.W.keepIn K (.ref f4) = true)
    (a5 : PySem.W.nsIn K mainGlobals "distance" = some (some (.ref f5))) (l5 : K.lookup f5 = some ⟨oc5, od5, .func (PySem.W.fnOf "distance" "distance" (defArgs s_distance) (defBody s_distance) (defScope s_distance) .none kV5 dc5 pm5 an5 cd5 ct5), sl5⟩) (c5 : PySem.W.codeIn K cd5 "distance" = true) (k5 : PySem.W.keepIn K (.ref f5) = true)
    (a6 : PySem.W.nsIn K mainGlobals "differing" = some (some (.ref f6))) (l6 : K.lookup f6 = some ⟨oc6, od6, .func (PySem.W.fnOf "differing" "differing" (defArgs s_differing) (defBody s_differing) (defScope s_differing) .none kV6 dc6 pm6 an6 cd6 ct6), sl6⟩) (c6 : PySem.W.codeIn K cd6 "differing" = true) (k6 : PySem.W.keepIn K (.ref f6) = true)
    (a7 : PySem.W.nsIn K mainGlobals "norm" = some (some (.ref f7))) (l7 : K.lookup f7 = some ⟨oc7, od7, .func (PySem.W.fnOf "norm" "norm" (defArgs s_norm) (defBody s_norm) (defScope s_norm) .none kV7 dc7 pm7 an7 cd7 ct7), sl7⟩) (c7 : PySem.W.codeIn K cd7 "norm" = true) (k7 : PySem.W.keepIn K (.ref f7) = true)
    (l8 : K.lookup f8 = some ⟨oc8, od8, .func (PySem.W.fnOf "__init__" "Part.__init__" (defArgs s_Part___init__) (defBody s_Part___init__) (defScope s_Part___init__) .none kV8 dc8 pm8 an8 cd8 ct8), sl8⟩) (c8 : PySem.W.codeIn K cd8 "Part.__init__" = true) (k8 : PySem.W.keepIn K (.ref f8) = true)
    (l9 : K.lookup f9 = some ⟨oc9, od9, .func (PySem.W.fnOf "__init__" "Parts.__init__" (defArgs s_Parts___init__) (defBody s_Parts___init__) (defScope s_Parts___init__) .none kV9 dc9 pm9 an9 cd9 ct9), sl9⟩) (c9 : PySem.W.codeIn K cd9 "Parts.__init__" = true) (k9 : PySem.W.keepIn K (.ref f9) = true)
    (l10 : K.lookup f10 = some ⟨oc10, od10, .func (PySem.W.fnOf "__init__" "Cell.__init__" (defArgs s_Cell___init__) (defBody s_Cell___init__) (defScope s_Cell___init__) .none kV10 dc10 pm10 an10 cd10 ct10), sl10⟩) (c10 : PySem.W.codeIn K cd10 "Cell.__init__" = true) (k10 : PySem.W.keepIn K (.ref f10) = true)
    (l11 : K.lookup f11 = some ⟨oc11, od11, .func (PySem.W.fnOf "__init__" "Box.__init__" (defArgs s_Box___init__) (defBody s_Box___init__) (defScope s_Box___init__) .none kV11 dc11 pm11 an11 cd11 ct11), sl11⟩) (c11 : PySem.W.codeIn K cd11 "Box.__init__" = true) (k11 : PySem.W.keepIn K (.ref f11) = true)
    (l12 : K.lookup f12 = some ⟨oc12, od12, .func (PySem.W.fnOf "__init__" "Norms.__init__" (defArgs s_Norms___init__) (defBody s_Norms___init__) (defScope s_Norms___init__) .none kV12 dc12 pm12 an12 cd12 ct12), sl12⟩) (c12 : PySem.W.codeIn K cd12 "Norms.__init__" = true) (k12 : PySem.W.keepIn K (.ref f12) = true)
    (l13 : K.lookup f13 = some ⟨oc13, od13, .func (PySem.W.fnOf "__init__" "Differ.__init__" (defArgs s_Differ___init__) (defBody s_Differ___init__) (defScope s_Differ___init__) .none kV13 dc13 pm13 an13 cd13 ct13), sl13⟩) (c13 : PySem.W.codeIn K cd13 "Differ.__init__" = true) (k13 : PySem.W.keepIn K (.ref f13) = true)
    (l14 : K.lookup f14 = some ⟨oc14, od14, .func (PySem.W.fnOf "after" "Part.after" (defArgs s_Part_after) (defBody s_Part_after) (defScope s_Part_after) .none kV14 dc14 pm14 an14 cd14 ct14), sl14⟩) (c14 : PySem.W.codeIn K cd14 "Part.after" = true) (k14 : PySem.W.keepIn K (.ref f14) = true)
    (a15 : PySem.W.nsIn K mainGlobals "have_size" = some (some (.ref f15))) (l15 : K.lookup f15 = some ⟨oc15, od15, .func (PySem.W.fnOf "have_size" "have_size" (defArgs s_have_size) (defBody s_have_size) (defScope s_have_size) .none kV15 dc15 pm15 an15 cd15 ct15), sl15⟩) (c15 : PySem.W.codeIn K cd15 "have_size" = true) (k15 : PySem.W.keepIn K (.ref f15) = true)
    (a16 : PySem.W.nsIn K mainGlobals "numbers_at" = some (some (.ref f16))) (l16 : K.lookup f16 = some ⟨oc16, od16, .func (PySem.W.fnOf "numbers_at" "numbers_at" (defArgs s_numbers_at) (defBody s_numbers_at) (defScope s_numbers_at) .none kV16 dc16 pm16 an16 cd16 ct16), sl16⟩) (c16 : PySem.W.codeIn K cd16 "numbers_at" = true) (k16 : PySem.W.keepIn K (.ref f16) = true)
    (a17 : PySem.W.nsIn K mainGlobals "ends_within" = some (some (.ref f17))) (l17 : K.lookup f17 = some ⟨oc17, od17, .func (PySem.W.fnOf "ends_within" "ends_within" (defArgs s_ends_within) (defBody s_ends_within) (defScope s_ends_within) .none kV17 dc17 pm17 an17 cd17 ct17), sl17⟩) (c17 : PySem.W.codeIn K cd17 "ends_within" = true) (k17 : PySem.W.keepIn K (.ref f17) = true)
    (l18 : K.lookup f18 = some ⟨oc18, od18, .func (PySem.W.fnOf "least_distance" "Fact.least_distance" (defArgs s_Fact_least_distance) (defBody s_Fact_least_distance) (defScope s_Fact_least_distance) .none kV18 dc18 pm18 an18 cd18 ct18), sl18⟩) (c18 : PySem.W.codeIn K cd18 "Fact.least_distance" = true) (k18 : PySem.W.keepIn K (.ref f18) = true)
    (a19 : PySem.W.nsIn K mainGlobals "all_end_within" = some (some (.ref f19))) (l19 : K.lookup f19 = some ⟨oc19, od19, .func (PySem.W.fnOf "all_end_within" "all_end_within" (defArgs s_all_end_within) (defBody s_all_end_within) (defScope s_all_end_within) .none kV19 dc19 pm19 an19 cd19 ct19), sl19⟩) (c19 : PySem.W.codeIn K cd19 "all_end_within" = true) (k19 : PySem.W.keepIn K (.ref f19) = true)
    (a20 : PySem.W.nsIn K mainGlobals "are_apart" = some (some (.ref f20))) (l20 : K.lookup f20 = some ⟨oc20, od20, .func (PySem.W.fnOf "are_apart" "are_apart" (defArgs s_are_apart) (defBody s_are_apart) (defScope s_are_apart) .none kV20 dc20 pm20 an20 cd20 ct20), sl20⟩) (c20 : PySem.W.codeIn K cd20 "are_apart" = true) (k20 : PySem.W.keepIn K (.ref f20) = true)
    (l21 : K.lookup f21 = some ⟨oc21, od21, .func (PySem.W.fnOf "least_distance" "Parts.least_distance" (defArgs s_Parts_least_distance) (defBody s_Parts_least_distance) (defScope s_Parts_least_distance) .none kV21 dc21 pm21 an21 cd21 ct21), sl21⟩) (c21 : PySem.W.codeIn K cd21 "Parts.least_distance" = true) (k21 : PySem.W.keepIn K (.ref f21) = true)
    (a22 : PySem.W.nsIn K mainGlobals "split" = some (some (.ref f22))) (l22 : K.lookup f22 = some ⟨oc22, od22, .func (PySem.W.fnOf "split" "split" (defArgs s_split) (defBody s_split) (defScope s_split) .none kV22 dc22 pm22 an22 cd22 ct22), sl22⟩) (c22 : PySem.W.codeIn K cd22 "split" = true) (k22 : PySem.W.keepIn K (.ref f22) = true)
    (l23 : K.lookup f23 = some ⟨oc23, od23, .func (PySem.W.fnOf "least_distance" "Cell.least_distance" (defArgs s_Cell_least_distance) (defBody s_Cell_least_distance) (defScope s_Cell_least_distance) .none kV23 dc23 pm23 an23 cd23 ct23), sl23⟩) (c23 : PySem.W.codeIn K cd23 "Cell.least_distance" = true) (k23 : PySem.W.keepIn K (.ref f23) = true)
    (a24 : PySem.W.nsIn K mainGlobals "number_outside" = some (some (.ref f24))) (l24 : K.lookup f24 = some ⟨oc24, od24, .func (PySem.W.fnOf "number_outside" "number_outside" (defArgs s_number_outside) (defBody s_number_outside) (defScope s_number_outside) .none kV24 dc24 pm24 an24 cd24 ct24), sl24⟩) (c24 : PySem.W.codeIn K cd24 "number_outside" = true) (k24 : PySem.W.keepIn K (.ref f24) = true)
    (l25 : K.lookup f25 = some ⟨oc25, od25, .func (PySem.W.fnOf "least_distance" "Box.least_distance" (defArgs s_Box_least_distance) (defBody s_Box_least_distance) (defScope s_Box_least_distance) .none kV25 dc25 pm25 an25 cd25 ct25), sl25⟩) (c25 : PySem.W.codeIn K cd25 "Box.least_distance" = true) (k25 : PySem.W.keepIn K (.ref f25) = true)
    (l26 : K.lookup f26 = some ⟨oc26, od26, .func (PySem.W.fnOf "least_distance" "Norms.least_distance" (defArgs s_Norms_least_distance) (defBody s_Norms_least_distance) (defScope s_Norms_least_distance) .none kV26 dc26 pm26 an26 cd26 ct26), sl26⟩) (c26 : PySem.W.codeIn K cd26 "Norms.least_distance" = true) (k26 : PySem.W.keepIn K (.ref f26) = true)
    (l27 : K.lookup f27 = some ⟨oc27, od27, .func (PySem.W.fnOf "least_differing" "Fact.least_differing" (defArgs s_Fact_least_differing) (defBody s_Fact_least_differing) (defScope s_Fact_least_differing) .none kV27 dc27 pm27 an27 cd27 ct27), sl27⟩) (c27 : PySem.W.codeIn K cd27 "Fact.least_differing" = true) (k27 : PySem.W.keepIn K (.ref f27) = true)
    (l28 : K.lookup f28 = some ⟨oc28, od28, .func (PySem.W.fnOf "least_differing" "Differ.least_differing" (defArgs s_Differ_least_differing) (defBody s_Differ_least_differing) (defScope s_Differ_least_differing) .none kV28 dc28 pm28 an28 cd28 ct28), sl28⟩) (c28 : PySem.W.codeIn K cd28 "Differ.least_differing" = true) (k28 : PySem.W.keepIn K (.ref f28) = true)
    (l29 : K.lookup f29 = some ⟨oc29, od29, .func (PySem.W.fnOf "most_product" "Fact.most_product" (defArgs s_Fact_most_product) (defBody s_Fact_most_product) (defScope s_Fact_most_product) .none kV29 dc29 pm29 an29 cd29 ct29), sl29⟩) (c29 : PySem.W.codeIn K cd29 "Fact.most_product" = true) (k29 : PySem.W.keepIn K (.ref f29) = true)
    (a30 : PySem.W.nsIn K mainGlobals "make_up" = some (some (.ref f30))) (l30 : K.lookup f30 = some ⟨oc30, od30, .func (PySem.W.fnOf "make_up" "make_up" (defArgs s_make_up) (defBody s_make_up) (defScope s_make_up) .none kV30 dc30 pm30 an30 cd30 ct30), sl30⟩) (c30 : PySem.W.codeIn K cd30 "make_up" = true) (k30 : PySem.W.keepIn K (.ref f30) = true)
    (a31 : PySem.W.nsIn K mainGlobals "most_product_of" = some (some (.ref f31))) (l31 : K.lookup f31 = some ⟨oc31, od31, .func (PySem.W.fnOf "most_product_of" "most_product_of" (defArgs s_most_product_of) (defBody s_most_product_of) (defScope s_most_product_of) .none kV31 dc31 pm31 an31 cd31 ct31), sl31⟩) (c31 : PySem.W.codeIn K cd31 "most_product_of" = true) (k31 : PySem.W.keepIn K (.ref f31) = true)
    (l32 : K.lookup f32 = some ⟨oc32, od32, .func (PySem.W.fnOf "most_product" "Parts.most_product" (defArgs s_Parts_most_product) (defBody s_Parts_most_product) (defScope s_Parts_most_product) .none kV32 dc32 pm32 an32 cd32 ct32), sl32⟩) (c32 : PySem.W.codeIn K cd32 "Parts.most_product" = true) (k32 : PySem.W.keepIn K (.ref f32) = true)
    (l33 : K.lookup f33 = some ⟨oc33, od33, .func (PySem.W.fnOf "most_product" "Box.most_product" (defArgs s_Box_most_product) (defBody s_Box_most_product) (defScope s_Box_most_product) .none kV33 dc33 pm33 an33 cd33 ct33), sl33⟩) (c33 : PySem.W.codeIn K cd33 "Box.most_product" = true) (k33 : PySem.W.keepIn K (.ref f33) = true)
    (l34 : K.lookup f34 = some ⟨oc34, od34, .func (PySem.W.fnOf "most_product" "Norms.most_product" (defArgs s_Norms_most_product) (defBody s_Norms_most_product) (defScope s_Norms_most_product) .none kV34 dc34 pm34 an34 cd34 ct34), sl34⟩) (c34 : PySem.W.codeIn K cd34 "Norms.most_product" = true) (k34 : PySem.W.keepIn K (.ref f34) = true)
    (a35 : PySem.W.nsIn K mainGlobals "is_near" = some (some (.ref f35))) (l35 : K.lookup f35 = some ⟨oc35, od35, .func (PySem.W.fnOf "is_near" "is_near" (defArgs s_is_near) (defBody s_is_near) (defScope s_is_near) .none kV35 dc35 pm35 an35 cd35 ct35), sl35⟩) (c35 : PySem.W.codeIn K cd35 "is_near" = true) (k35 : PySem.W.keepIn K (.ref f35) = true)
    (l36 : K.lookup f36 = some ⟨oc36, od36, .func (PySem.W.fnOf "holds" "Parts.holds" (defArgs s_Parts_holds) (defBody s_Parts_holds) (defScope s_Parts_holds) .none kV36 dc36 pm36 an36 cd36 ct36), sl36⟩) (c36 : PySem.W.codeIn K cd36 "Parts.holds" = true) (k36 : PySem.W.keepIn K (.ref f36) = true)
    (l37 : K.lookup f37 = some ⟨oc37, od37, .func (PySem.W.fnOf "holds" "Cell.holds" (defArgs s_Cell_holds) (defBody s_Cell_holds) (defScope s_Cell_holds) .none kV37 dc37 pm37 an37 cd37 ct37), sl37⟩) (c37 : PySem.W.codeIn K cd37 "Cell.holds" = true) (k37 : PySem.W.keepIn K (.ref f37) = true)
    (l38 : K.lookup f38 = some ⟨oc38, od38, .func (PySem.W.fnOf "holds" "Box.holds" (defArgs s_Box_holds) (defBody s_Box_holds) (defScope s_Box_holds) .none kV38 dc38 pm38 an38 cd38 ct38), sl38⟩) (c38 : PySem.W.codeIn K cd38 "Box.holds" = true) (k38 : PySem.W.keepIn K (.ref f38) = true)
    (l39 : K.lookup f39 = some ⟨oc39, od39, .func (PySem.W.fnOf "holds" "Norms.holds" (defArgs s_Norms_holds) (defBody s_Norms_holds) (defScope s_Norms_holds) .none kV39 dc39 pm39 an39 cd39 ct39), sl39⟩) (c39 : PySem.W.codeIn K cd39 "Norms.holds" = true) (k39 : PySem.W.keepIn K (.ref f39) = true)
    (l40 : K.lookup f40 = some ⟨oc40, od40, .func (PySem.W.fnOf "holds" "Differ.holds" (defArgs s_Differ_holds) (defBody s_Differ_holds) (defScope s_Differ_holds) .none kV40 dc40 pm40 an40 cd40 ct40), sl40⟩) (c40 : PySem.W.codeIn K cd40 "Differ.holds" = true) (k40 : PySem.W.keepIn K (.ref f40) = true)
    {DK41 : Addr} (l41 : K.lookup f41 = some ⟨oc41, od41, .func (PySem.W.fnOf "__init__" "Record.__init__" (defArgs s_Record___init__) (defBody s_Record___init__) (defScope s_Record___init__) .none (.ref DK41) dc41 pm41 an41 cd41 ct41), sl41⟩) (c41 : PySem.W.codeIn K cd41 "Record.__init__" = true) (k41 : PySem.W.keepIn K (.ref f41) = true)
    {E41_fields : Addr} {eo41_fields : Option Addr} {en41_fields : Nat} {es41_fields : Array (Option Value)} (n41_fields : PySem.W.nsIn K DK41 "fields" = some (some (.ref E41_fields))) (t41_fields : K.lookup E41_fields = some ⟨.type "tuple", eo41_fields, .seq #[] en41_fields, es41_fields⟩)
    {E41_words : Addr} {eo41_words : Option Addr} {en41_words : Nat} {es41_words : Array (Option Value)} (n41_words : PySem.W.nsIn K DK41 "words" = some (some (.ref E41_words))) (t41_words : K.lookup E41_words = some ⟨.type "tuple", eo41_words, .seq #[] en41_words, es41_words⟩)
    (a42 : PySem.W.nsIn K mainGlobals "_law_vector" = some (some (.ref f42))) (l42 : K.lookup f42 = some ⟨oc42, od42, .func (PySem.W.fnOf "_law_vector" "_law_vector" (defArgs s_law_vector) (defBody s_law_vector) (defScope s_law_vector) .none kV42 dc42 pm42 an42 cd42 ct42), sl42⟩) (c42 : PySem.W.codeIn K cd42 "_law_vector" = true) (k42 : PySem.W.keepIn K (.ref f42) = true)
    (a43 : PySem.W.nsIn K mainGlobals "_law_inner" = some (some (.ref f43))) (l43 : K.lookup f43 = some ⟨oc43, od43, .func (PySem.W.fnOf "_law_inner" "_law_inner" (defArgs s_law_inner) (defBody s_law_inner) (defScope s_law_inner) .none kV43 dc43 pm43 an43 cd43 ct43), sl43⟩) (c43 : PySem.W.codeIn K cd43 "_law_inner" = true) (k43 : PySem.W.keepIn K (.ref f43) = true)
    (a44 : PySem.W.nsIn K mainGlobals "_law_made" = some (some (.ref f44))) (l44 : K.lookup f44 = some ⟨oc44, od44, .func (PySem.W.fnOf "_law_made" "_law_made" (defArgs s_law_made) (defBody s_law_made) (defScope s_law_made) .none kV44 dc44 pm44 an44 cd44 ct44), sl44⟩) (c44 : PySem.W.codeIn K cd44 "_law_made" = true) (k44 : PySem.W.keepIn K (.ref f44) = true)
    (a45 : PySem.W.nsIn K mainGlobals "_law_distance" = some (some (.ref f45))) (l45 : K.lookup f45 = some ⟨oc45, od45, .func (PySem.W.fnOf "_law_distance" "_law_distance" (defArgs s_law_distance) (defBody s_law_distance) (defScope s_law_distance) .none kV45 dc45 pm45 an45 cd45 ct45), sl45⟩) (c45 : PySem.W.codeIn K cd45 "_law_distance" = true) (k45 : PySem.W.keepIn K (.ref f45) = true)
    (a46 : PySem.W.nsIn K mainGlobals "_law_differing" = some (some (.ref f46))) (l46 : K.lookup f46 = some ⟨oc46, od46, .func (PySem.W.fnOf "_law_differing" "_law_differing" (defArgs s_law_differing) (defBody s_law_differing) (defScope s_law_differing) .none kV46 dc46 pm46 an46 cd46 ct46), sl46⟩) (c46 : PySem.W.codeIn K cd46 "_law_differing" = true) (k46 : PySem.W.keepIn K (.ref f46) = true)
    (a47 : PySem.W.nsIn K mainGlobals "_law_true_parts" = some (some (.ref f47))) (l47 : K.lookup f47 = some ⟨oc47, od47, .func (PySem.W.fnOf "_law_true_parts" "_law_true_parts" (defArgs s_law_true_parts) (defBody s_law_true_parts) (defScope s_law_true_parts) .none kV47 dc47 pm47 an47 cd47 ct47), sl47⟩) (c47 : PySem.W.codeIn K cd47 "_law_true_parts" = true) (k47 : PySem.W.keepIn K (.ref f47) = true)
    (a48 : PySem.W.nsIn K mainGlobals "_law_bits" = some (some (.ref f48))) (l48 : K.lookup f48 = some ⟨oc48, od48, .func (PySem.W.fnOf "_law_bits" "_law_bits" (defArgs s_law_bits) (defBody s_law_bits) (defScope s_law_bits) .none kV48 dc48 pm48 an48 cd48 ct48), sl48⟩) (c48 : PySem.W.codeIn K cd48 "_law_bits" = true) (k48 : PySem.W.keepIn K (.ref f48) = true)
    (a49 : PySem.W.nsIn K mainGlobals "_law_true_fact" = some (some (.ref f49))) (l49 : K.lookup f49 = some ⟨oc49, od49, .func (PySem.W.fnOf "_law_true_fact" "_law_true_fact" (defArgs s_law_true_fact) (defBody s_law_true_fact) (defScope s_law_true_fact) .none kV49 dc49 pm49 an49 cd49 ct49), sl49⟩) (c49 : PySem.W.codeIn K cd49 "_law_true_fact" = true) (k49 : PySem.W.keepIn K (.ref f49) = true)
    (a50 : PySem.W.nsIn K mainGlobals "law" = some (some (.ref f50))) (l50 : K.lookup f50 = some ⟨oc50, od50, .func (PySem.W.fnOf "law" "law" (defArgs s_law) (defBody s_law) (defScope s_law) .none kV50 dc50 pm50 an50 cd50 ct50), sl50⟩) (c50 : PySem.W.codeIn K cd50 "law" = true) (k50 : PySem.W.keepIn K (.ref f50) = true)
    (aC_Part : PySem.W.nsIn K mainGlobals "Part" = some (some (.ref C_Part)))
    (pg_Part : PySem.W.plainGet K C_Part Str.empty = true)
    (hd_Part : PySem.W.hasDictIn K C_Part = true)
    (po_Part : PySem.W.plainOver K C_Part = true)
    (sa_Part : PySem.W.findIn K (.ref C_Part) "__setattr__" = some (some (.builtin "object.__setattr__")))
    (n_Part_start : PySem.W.findIn K (.ref C_Part) "start" = some none)
    (n_Part_centre : PySem.W.findIn K (.ref C_Part) "centre" = some none)
    (n_Part_radius : PySem.W.findIn K (.ref C_Part) "radius" = some none)
    (mk_Part : PySem.W.makesIn K C_Part = true)
    (in_Part : PySem.W.findIn K (.ref C_Part) "__init__" = some (some (.ref f8)))
    (if_Part : PySem.W.isFn K (.ref f8) = true)
    (kc_Part : PySem.W.keepIn K (.ref C_Part) = true)
    (fp_Part_after : PySem.W.findIn K (.ref C_Part) "after" = some (some (.ref p_Part_after)))
    (gp_Part_after : PySem.W.specialIn K (.ref p_Part_after) "__get__" = some (some (.builtin "property.__get__")))
    (tp_Part_after : PySem.W.takesIn K (.ref p_Part_after) = some true)
    (rp_Part_after : PySem.W.recIn K p_Part_after "property" = some (.ref f14 :: rest_Part_after))
    (aC_Parts : PySem.W.nsIn K mainGlobals "Parts" = some (some (.ref C_Parts)))
    (pg_Parts : PySem.W.plainGet K C_Parts Str.empty = true)
    (hd_Parts : PySem.W.hasDictIn K C_Parts = true)
    (po_Parts : PySem.W.plainOver K C_Parts = true)
    (sa_Parts : PySem.W.findIn K (.ref C_Parts) "__setattr__" = some (some (.builtin "object.__setattr__")))
    (n_Parts_parts : PySem.W.findIn K (.ref C_Parts) "parts" = some none)
    (mk_Parts : PySem.W.makesIn K C_Parts = true)
    (in_Parts : PySem.W.findIn K (.ref C_Parts) "__init__" = some (some (.ref f9)))
    (if_Parts : PySem.W.isFn K (.ref f9) = true)
    (kc_Parts : PySem.W.keepIn K (.ref C_Parts) = true)
    (fm_Parts_holds : PySem.W.findIn K (.ref C_Parts) "holds" = some (some (.ref f36)))
    (im_Parts_holds : PySem.W.isFn K (.ref f36) = true)
    (fm_Parts_least_distance : PySem.W.findIn K (.ref C_Parts) "least_distance" = some (some (.ref f21)))
    (im_Parts_least_distance : PySem.W.isFn K (.ref f21) = true)
    (fm_Parts_least_differing : PySem.W.findIn K (.ref C_Parts) "least_differing" = some (some (.ref f27)))
    (im_Parts_least_differing : PySem.W.isFn K (.ref f27) = true)
    (fm_Parts_most_product : PySem.W.findIn K (.ref C_Parts) "most_product" = some (some (.ref f32)))
    (im_Parts_most_product : PySem.W.isFn K (.ref f32) = true)
    (aC_Cell : PySem.W.nsIn K mainGlobals "Cell" = some (some (.ref C_Cell)))
    (pg_Cell : PySem.W.plainGet K C_Cell Str.empty = true)
    (hd_Cell : PySem.W.hasDictIn K C_Cell = true)
    (po_Cell : PySem.W.plainOver K C_Cell = true)
    (sa_Cell : PySem.W.findIn K (.ref C_Cell) "__setattr__" = some (some (.builtin "object.__setattr__")))
    (n_Cell_near : PySem.W.findIn K (.ref C_Cell) "near" = some none)
    (n_Cell_rival : PySem.W.findIn K (.ref C_Cell) "rival" = some none)
    (mk_Cell : PySem.W.makesIn K C_Cell = true)
    (in_Cell : PySem.W.findIn K (.ref C_Cell) "__init__" = some (some (.ref f10)))
    (if_Cell : PySem.W.isFn K (.ref f10) = true)
    (kc_Cell : PySem.W.keepIn K (.ref C_Cell) = true)
    (fm_Cell_holds : PySem.W.findIn K (.ref C_Cell) "holds" = some (some (.ref f37)))
    (im_Cell_holds : PySem.W.isFn K (.ref f37) = true)
    (fm_Cell_least_distance : PySem.W.findIn K (.ref C_Cell) "least_distance" = some (some (.ref f23)))
    (im_Cell_least_distance : PySem.W.isFn K (.ref f23) = true)
    (fm_Cell_least_differing : PySem.W.findIn K (.ref C_Cell) "least_differing" = some (some (.ref f27)))
    (im_Cell_least_differing : PySem.W.isFn K (.ref f27) = true)
    (fm_Cell_most_product : PySem.W.findIn K (.ref C_Cell) "most_product" = some (some (.ref f29)))
    (im_Cell_most_product : PySem.W.isFn K (.ref f29) = true)
    (aC_Box : PySem.W.nsIn K mainGlobals "Box" = some (some (.ref C_Box)))
    (pg_Box : PySem.W.plainGet K C_Box Str.empty = true)
    (hd_Box : PySem.W.hasDictIn K C_Box = true)
    (po_Box : PySem.W.plainOver K C_Box = true)
    (sa_Box : PySem.W.findIn K (.ref C_Box) "__setattr__" = some (some (.builtin "object.__setattr__")))
    (n_Box_low : PySem.W.findIn K (.ref C_Box) "low" = some none)
    (n_Box_high : PySem.W.findIn K (.ref C_Box) "high" = some none)
    (mk_Box : PySem.W.makesIn K C_Box = true)
    (in_Box : PySem.W.findIn K (.ref C_Box) "__init__" = some (some (.ref f11)))
    (if_Box : PySem.W.isFn K (.ref f11) = true)
    (kc_Box : PySem.W.keepIn K (.ref C_Box) = true)
    (fm_Box_holds : PySem.W.findIn K (.ref C_Box) "holds" = some (some (.ref f38)))
    (im_Box_holds : PySem.W.isFn K (.ref f38) = true)
    (fm_Box_least_distance : PySem.W.findIn K (.ref C_Box) "least_distance" = some (some (.ref f25)))
    (im_Box_least_distance : PySem.W.isFn K (.ref f25) = true)
    (fm_Box_least_differing : PySem.W.findIn K (.ref C_Box) "least_differing" = some (some (.ref f27)))
    (im_Box_least_differing : PySem.W.isFn K (.ref f27) = true)
    (fm_Box_most_product : PySem.W.findIn K (.ref C_Box) "most_product" = some (some (.ref f33)))
    (im_Box_most_product : PySem.W.isFn K (.ref f33) = true)
    (aC_Norms : PySem.W.nsIn K mainGlobals "Norms" = some (some (.ref C_Norms)))
    (pg_Norms : PySem.W.plainGet K C_Norms Str.empty = true)
    (hd_Norms : PySem.W.hasDictIn K C_Norms = true)
    (po_Norms : PySem.W.plainOver K C_Norms = true)
    (sa_Norms : PySem.W.findIn K (.ref C_Norms) "__setattr__" = some (some (.builtin "object.__setattr__")))
    (n_Norms_low : PySem.W.findIn K (.ref C_Norms) "low" = some none)
    (n_Norms_high : PySem.W.findIn K (.ref C_Norms) "high" = some none)
    (mk_Norms : PySem.W.makesIn K C_Norms = true)
    (in_Norms : PySem.W.findIn K (.ref C_Norms) "__init__" = some (some (.ref f12)))
    (if_Norms : PySem.W.isFn K (.ref f12) = true)
    (kc_Norms : PySem.W.keepIn K (.ref C_Norms) = true)
    (fm_Norms_holds : PySem.W.findIn K (.ref C_Norms) "holds" = some (some (.ref f39)))
    (im_Norms_holds : PySem.W.isFn K (.ref f39) = true)
    (fm_Norms_least_distance : PySem.W.findIn K (.ref C_Norms) "least_distance" = some (some (.ref f26)))
    (im_Norms_least_distance : PySem.W.isFn K (.ref f26) = true)
    (fm_Norms_least_differing : PySem.W.findIn K (.ref C_Norms) "least_differing" = some (some (.ref f27)))
    (im_Norms_least_differing : PySem.W.isFn K (.ref f27) = true)
    (fm_Norms_most_product : PySem.W.findIn K (.ref C_Norms) "most_product" = some (some (.ref f34)))
    (im_Norms_most_product : PySem.W.isFn K (.ref f34) = true)
    (aC_Differ : PySem.W.nsIn K mainGlobals "Differ" = some (some (.ref C_Differ)))
    (pg_Differ : PySem.W.plainGet K C_Differ Str.empty = true)
    (hd_Differ : PySem.W.hasDictIn K C_Differ = true)
    (po_Differ : PySem.W.plainOver K C_Differ = true)
    (sa_Differ : PySem.W.findIn K (.ref C_Differ) "__setattr__" = some (some (.builtin "object.__setattr__")))
    (n_Differ_centre : PySem.W.findIn K (.ref C_Differ) "centre" = some none)
    (n_Differ_most : PySem.W.findIn K (.ref C_Differ) "most" = some none)
    (mk_Differ : PySem.W.makesIn K C_Differ = true)
    (in_Differ : PySem.W.findIn K (.ref C_Differ) "__init__" = some (some (.ref f13)))
    (if_Differ : PySem.W.isFn K (.ref f13) = true)
    (kc_Differ : PySem.W.keepIn K (.ref C_Differ) = true)
    (fm_Differ_holds : PySem.W.findIn K (.ref C_Differ) "holds" = some (some (.ref f40)))
    (im_Differ_holds : PySem.W.isFn K (.ref f40) = true)
    (fm_Differ_least_distance : PySem.W.findIn K (.ref C_Differ) "least_distance" = some (some (.ref f18)))
    (im_Differ_least_distance : PySem.W.isFn K (.ref f18) = true)
    (fm_Differ_least_differing : PySem.W.findIn K (.ref C_Differ) "least_differing" = some (some (.ref f28)))
    (im_Differ_least_differing : PySem.W.isFn K (.ref f28) = true)
    (fm_Differ_most_product : PySem.W.findIn K (.ref C_Differ) "most_product" = some (some (.ref f29)))
    (im_Differ_most_product : PySem.W.isFn K (.ref f29) = true)
    (aC_Record : PySem.W.nsIn K mainGlobals "Record" = some (some (.ref C_Record)))
    (pg_Record : PySem.W.plainGet K C_Record Str.empty = true)
    (hd_Record : PySem.W.hasDictIn K C_Record = true)
    (po_Record : PySem.W.plainOver K C_Record = true)
    (sa_Record : PySem.W.findIn K (.ref C_Record) "__setattr__" = some (some (.builtin "object.__setattr__")))
    (n_Record_name : PySem.W.findIn K (.ref C_Record) "name" = some none)
    (n_Record_vector : PySem.W.findIn K (.ref C_Record) "vector" = some none)
    (n_Record_fields : PySem.W.findIn K (.ref C_Record) "fields" = some none)
    (n_Record_words : PySem.W.findIn K (.ref C_Record) "words" = some none)
    (mk_Record : PySem.W.makesIn K C_Record = true)
    (in_Record : PySem.W.findIn K (.ref C_Record) "__init__" = some (some (.ref f41)))
    (if_Record : PySem.W.isFn K (.ref f41) = true)
    (kc_Record : PySem.W.keepIn K (.ref C_Record) = true)
    (z_all : PySem.W.nsIn K mainGlobals "all" = some none)
    (z_int : PySem.W.nsIn K mainGlobals "int" = some none)
    (z_isqrt : PySem.W.nsIn K mainGlobals "isqrt" = some (some (.builtin "math.isqrt")))
    (z_len : PySem.W.nsIn K mainGlobals "len" = some none)
    (z_list : PySem.W.nsIn K mainGlobals "list" = some none)
    (z_max : PySem.W.nsIn K mainGlobals "max" = some none)
    (z_min : PySem.W.nsIn K mainGlobals "min" = some none)
    (z_range : PySem.W.nsIn K mainGlobals "range" = some none)
    (z_sum : PySem.W.nsIn K mainGlobals "sum" = some none)
    (z_tuple : PySem.W.nsIn K mainGlobals "tuple" = some none)
    (z_zip : PySem.W.nsIn K mainGlobals "zip" = some none)
    : ∃ fd : FuncData, (∀ (s : Shared) (v : Value), BindsTo s fd ⟨[v], []⟩ [("script", v)]) ∧ ∀ base : Heap, K.In base → base.Ns mainGlobals mg → FnOk l.prog w K mg base CX0 7 fa fd ["script"] (sp_law K) := by
  have e := hfa.symm.trans (PySem.W.mg_of X G a50)
  cases e
  have F0 := fun_mk (st := s_law_row) l0 c0 k0
  have b0 := F0.binds (ps := ["script", "k"]) fun _ _ _ _ _ _ us hl => match us, hl with | [_, _], _ => rfl
  have F1 := fun_mk (st := s_law_next) l1 c1 k1
  have b1 := F1.binds (ps := ["state", "many"]) fun _ _ _ _ _ _ us hl => match us, hl with | [_, _], _ => rfl
  have F2 := fun_mk (st := s_root) l2 c2 k2
  have b2 := F2.binds (ps := ["number"]) fun _ _ _ _ _ _ us hl => match us, hl with | [_], _ => rfl
  have F3 := fun_mk (st := s_gap) l3 c3 k3
  have b3 := F3.binds (ps := ["far", "near"]) fun _ _ _ _ _ _ us hl => match us, hl with | [_, _], _ => rfl
  have F4 := fun_mk (st := s_inner) l4 c4 k4
  have b4 := F4.binds (ps := ["a", "b"]) fun _ _ _ _ _ _ us hl => match us, hl with | [_, _], _ => rfl
  have F5 := fun_mk (st := s_distance) l5 c5 k5
  have b5 := F5.binds (ps := ["a", "b"]) fun _ _ _ _ _ _ us hl => match us, hl with | [_, _], _ => rfl
  have F6 := fun_mk (st := s_differing) l6 c6 k6
  have b6 := F6.binds (ps := ["a", "b"]) fun _ _ _ _ _ _ us hl => match us, hl with | [_, _], _ => rfl
  have F7 := fun_mk (st := s_norm) l7 c7 k7
  have b7 := F7.binds (ps := ["a"]) fun _ _ _ _ _ _ us hl => match us, hl with | [_], _ => rfl
  have F8 := fun_mk (st := s_Part___init__) l8 c8 k8
  have b8 := F8.binds (ps := ["self", "start", "centre", "radius"]) fun _ _ _ _ _ _ us hl => match us, hl with | [_, _, _, _], _ => rfl
  have F9 := fun_mk (st := s_Parts___init__) l9 c9 k9
  have b9 := F9.binds (ps := ["self", "parts"]) fun _ _ _ _ _ _ us hl => match us, hl with | [_, _], _ => rfl
  have F10 := fun_mk (st := s_Cell___init__) l10 c10 k10
  have b10 := F10.binds (ps := ["self", "near", "rival"]) fun _ _ _ _ _ _ us hl => match us, hl with | [_, _, _], _ => rfl
  have F11 := fun_mk (st := s_Box___init__) l11 c11 k11
  have b11 := F11.binds (ps := ["self", "low", "high"]) fun _ _ _ _ _ _ us hl => match us, hl with | [_, _, _], _ => rfl
  have F12 := fun_mk (st := s_Norms___init__) l12 c12 k12
  have b12 := F12.binds (ps := ["self", "low", "high"]) fun _ _ _ _ _ _ us hl => match us, hl with | [_, _, _], _ => rfl
  have F13 := fun_mk (st := s_Differ___init__) l13 c13 k13
  have b13 := F13.binds (ps := ["self", "centre", "most"]) fun _ _ _ _ _ _ us hl => match us, hl with | [_, _, _], _ => rfl
  have F14 := fun_mk (st := s_Part_after) l14 c14 k14
  have b14 := F14.binds (ps := ["self"]) fun _ _ _ _ _ _ us hl => match us, hl with | [_], _ => rfl
  have F15 := fun_mk (st := s_have_size) l15 c15 k15
  have b15 := F15.binds (ps := ["one", "other", "size"]) fun _ _ _ _ _ _ us hl => match us, hl with | [_, _, _], _ => rfl
  have F16 := fun_mk (st := s_numbers_at) l16 c16 k16
  have b16 := F16.binds (ps := ["part", "vector"]) fun _ _ _ _ _ _ us hl => match us, hl with | [_, _], _ => rfl
  have F17 := fun_mk (st := s_ends_within) l17 c17 k17
  have b17 := F17.binds (ps := ["part", "vector"]) fun _ _ _ _ _ _ us hl => match us, hl with | [_, _], _ => rfl
  have F18 := fun_mk (st := s_Fact_least_distance) l18 c18 k18
  have b18 := F18.binds (ps := ["self", "q"]) fun _ _ _ _ _ _ us hl => match us, hl with | [_, _], _ => rfl
  have F19 := fun_mk (st := s_all_end_within) l19 c19 k19
  have b19 := F19.binds (ps := ["parts", "vector"]) fun _ _ _ _ _ _ us hl => match us, hl with | [_, _], _ => rfl
  have F20 := fun_mk (st := s_are_apart) l20 c20 k20
  have b20 := F20.binds (ps := ["parts"]) fun _ _ _ _ _ _ us hl => match us, hl with | [_], _ => rfl
  have F21 := fun_mk (st := s_Parts_least_distance) l21 c21 k21
  have b21 := F21.binds (ps := ["self", "q"]) fun _ _ _ _ _ _ us hl => match us, hl with | [_, _], _ => rfl
  have F22 := fun_mk (st := s_split) l22 c22 k22
  have b22 := F22.binds (ps := ["d", "e", "f"]) fun _ _ _ _ _ _ us hl => match us, hl with | [_, _, _], _ => rfl
  have F23 := fun_mk (st := s_Cell_least_distance) l23 c23 k23
  have b23 := F23.binds (ps := ["self", "q"]) fun _ _ _ _ _ _ us hl => match us, hl with | [_, _], _ => rfl
  have F24 := fun_mk (st := s_number_outside) l24 c24 k24
  have b24 := F24.binds (ps := ["low", "number", "high"]) fun _ _ _ _ _ _ us hl => match us, hl with | [_, _, _], _ => rfl
  have F25 := fun_mk (st := s_Box_least_distance) l25 c25 k25
  have b25 := F25.binds (ps := ["self", "q"]) fun _ _ _ _ _ _ us hl => match us, hl with | [_, _], _ => rfl
  have F26 := fun_mk (st := s_Norms_least_distance) l26 c26 k26
  have b26 := F26.binds (ps := ["self", "q"]) fun _ _ _ _ _ _ us hl => match us, hl with | [_, _], _ => rfl
  have F27 := fun_mk (st := s_Fact_least_differing) l27 c27 k27
  have b27 := F27.binds (ps := ["self", "q"]) fun _ _ _ _ _ _ us hl => match us, hl with | [_, _], _ => rfl
  have F28 := fun_mk (st := s_Differ_least_differing) l28 c28 k28
  have b28 := F28.binds (ps := ["self", "q"]) fun _ _ _ _ _ _ us hl => match us, hl with | [_, _], _ => rfl
  have F29 := fun_mk (st := s_Fact_most_product) l29 c29 k29
  have b29 := F29.binds (ps := ["self", "q"]) fun _ _ _ _ _ _ us hl => match us, hl with | [_, _], _ => rfl
  have F30 := fun_mk (st := s_make_up) l30 c30 k30
  have b30 := F30.binds (ps := ["parts", "size"]) fun _ _ _ _ _ _ us hl => match us, hl with | [_, _], _ => rfl
  have F31 := fun_mk (st := s_most_product_of) l31 c31 k31
  have b31 := F31.binds (ps := ["part", "numbers"]) fun _ _ _ _ _ _ us hl => match us, hl with | [_, _], _ => rfl
  have F32 := fun_mk (st := s_Parts_most_product) l32 c32 k32
  have b32 := F32.binds (ps := ["self", "q"]) fun _ _ _ _ _ _ us hl => match us, hl with | [_, _], _ => rfl
  have F33 := fun_mk (st := s_Box_most_product) l33 c33 k33
  have b33 := F33.binds (ps := ["self", "q"]) fun _ _ _ _ _ _ us hl => match us, hl with | [_, _], _ => rfl
  have F34 := fun_mk (st := s_Norms_most_product) l34 c34 k34
  have b34 := F34.binds (ps := ["self", "q"]) fun _ _ _ _ _ _ us hl => match us, hl with | [_, _], _ => rfl
  have F35 := fun_mk (st := s_is_near) l35 c35 k35
  have b35 := F35.binds (ps := ["part", "vector"]) fun _ _ _ _ _ _ us hl => match us, hl with | [_, _], _ => rfl
  have F36 := fun_mk (st := s_Parts_holds) l36 c36 k36
  have b36 := F36.binds (ps := ["self", "record"]) fun _ _ _ _ _ _ us hl => match us, hl with | [_, _], _ => rfl
  have F37 := fun_mk (st := s_Cell_holds) l37 c37 k37
  have b37 := F37.binds (ps := ["self", "record"]) fun _ _ _ _ _ _ us hl => match us, hl with | [_, _], _ => rfl
  have F38 := fun_mk (st := s_Box_holds) l38 c38 k38
  have b38 := F38.binds (ps := ["self", "record"]) fun _ _ _ _ _ _ us hl => match us, hl with | [_, _], _ => rfl
  have F39 := fun_mk (st := s_Norms_holds) l39 c39 k39
  have b39 := F39.binds (ps := ["self", "record"]) fun _ _ _ _ _ _ us hl => match us, hl with | [_, _], _ => rfl
  have F40 := fun_mk (st := s_Differ_holds) l40 c40 k40
  have b40 := F40.binds (ps := ["self", "record"]) fun _ _ _ _ _ _ us hl => match us, hl with | [_, _], _ => rfl
  have F41 : FunD K "__init__" "Record.__init__" (defArgs s_Record___init__) (defBody s_Record___init__) (defScope s_Record___init__) [] [("fields", .ref E41_fields), ("words", .ref E41_words)] f41 _ := ⟨⟨_, _, _, _, _, _, _, _, _, _, rfl, l41, c41, .inl ⟨rfl, rfl⟩, .inr ⟨DK41, rfl, fun q hq => by
    simp only [List.mem_cons, List.not_mem_nil, or_false] at hq
    rcases hq with rfl | rfl
    · exact ⟨_, n41_fields, rfl⟩
    · exact ⟨_, n41_words, rfl⟩⟩⟩, k41⟩
  obtain ⟨mv41, kb41⟩ := F41.kbinds0 (ps := ["self", "name", "vector", "fields", "words"]) 3 ["fields", "words"] [] (fun us mv ws => us ++ ws) (by intro h; cases h) (fun q h => by cases h) (fun r1 _ r3 => r1.append r3) (fun D doc pm an cdv ct us mv ws l1 l2 l3 => match us, mv, ws, l1, l2, l3 with | [_, _, _], [], [_, _], _, _, _ => rfl)
  obtain ⟨ds41, v41, b41⟩ := F41.binds0 (ps := ["self", "name", "vector", "fields", "words"]) 3 (by intro h; cases h) rfl (fun D doc pm an cdv ct us ks l1 l2 => match us, ks, l1, l2 with | [_, _, _], [_, _], _, _ => ⟨_, _, _, _, _, _, rfl, rfl, ⟨_, _, _, _, _, _, rfl, rfl, rfl⟩⟩)
  have F42 := fun_mk (st := s_law_vector) l42 c42 k42
  have b42 := F42.binds (ps := ["state", "size"]) fun _ _ _ _ _ _ us hl => match us, hl with | [_, _], _ => rfl
  have F43 := fun_mk (st := s_law_inner) l43 c43 k43
  have b43 := F43.binds (ps := ["a", "b"]) fun _ _ _ _ _ _ us hl => match us, hl with | [_, _], _ => rfl
  have F44 := fun_mk (st := s_law_made) l44 c44 k44
  have b44 := F44.binds (ps := ["fact"]) fun _ _ _ _ _ _ us hl => match us, hl with | [_], _ => rfl
  have F45 := fun_mk (st := s_law_distance) l45 c45 k45
  have b45 := F45.binds (ps := ["a", "b"]) fun _ _ _ _ _ _ us hl => match us, hl with | [_, _], _ => rfl
  have F46 := fun_mk (st := s_law_differing) l46 c46 k46
  have b46 := F46.binds (ps := ["a", "b"]) fun _ _ _ _ _ _ us hl => match us, hl with | [_, _], _ => rfl
  have F47 := fun_mk (st := s_law_true_parts) l47 c47 k47
  have b47 := F47.binds (ps := ["state", "vector", "others"]) fun _ _ _ _ _ _ us hl => match us, hl with | [_, _, _], _ => rfl
  have F48 := fun_mk (st := s_law_bits) l48 c48 k48
  have b48 := F48.binds (ps := ["vector"]) fun _ _ _ _ _ _ us hl => match us, hl with | [_], _ => rfl
  have F49 := fun_mk (st := s_law_true_fact) l49 c49 k49
  have b49 := F49.binds (ps := ["state", "vectors"]) fun _ _ _ _ _ _ us hl => match us, hl with | [_, _], _ => rfl
  have F50 := fun_mk (st := s_law) l50 c50 k50
  have b50 := F50.binds (ps := ["script"]) fun _ _ _ _ _ _ us hl => match us, hl with | [_], _ => rfl
  let T : Txt K mg := ⟨_, _, F0, b0, PySem.W.mg_of X G a0,
    _, _, F1, b1, PySem.W.mg_of X G a1,
    _, _, F2, b2, PySem.W.mg_of X G a2,
    _, _, F3, b3, PySem.W.mg_of X G a3,
    _, _, F4, b4, PySem.W.mg_of X G a4,
    _, _, F5, b5, PySem.W.mg_of X G a5,
    _, _, F6, b6, PySem.W.mg_of X G a6,
    _, _, F7, b7, PySem.W.mg_of X G a7,
    _, _, F8, b8,
    _, _, F9, b9,
    _, _, F10, b10,
    _, _, F11, b11,
    _, _, F12, b12,
    _, _, F13, b13,
    _, _, F14, b14,
    _, _, F15, b15, PySem.W.mg_of X G a15,
    _, _, F16, b16, PySem.W.mg_of X G a16,
    _, _, F17, b17, PySem.W.mg_of X G a17,
    _, _, F18, b18,
    _, _, F19, b19, PySem.W.mg_of X G a19,
    _, _, F20, b20, PySem.W.mg_of X G a20,
    _, _, F21, b21,
    _, _, F22, b22, PySem.W.mg_of X G a22,
    _, _, F23, b23,
    _, _, F24, b24, PySem.W.mg_of X G a24,
    _, _, F25, b25,
    _, _, F26, b26,
    _, _, F27, b27,
    _, _, F28, b28,
    _, _, F29, b29,
    _, _, F30, b30, PySem.W.mg_of X G a30,
    _, _, F31, b31, PySem.W.mg_of X G a31,
    _, _, F32, b32,
    _, _, F33, b33,
    _, _, F34, b34,
    _, _, F35, b35, PySem.W.mg_of X G a35,
    _, _, F36, b36,
    _, _, F37, b37,
    _, _, F38, b38,
    _, _, F39, b39,
    _, _, F40, b40,
    _, _, _, fun H => .inr ⟨_, _, _, t41_fields, rfl, rfl, by decide, .nil⟩, _, fun H => .inr ⟨_, _, _, t41_words, rfl, rfl, by decide, .nil⟩, F41, kb41, _, v41, b41,
    _, _, F42, b42, PySem.W.mg_of X G a42,
    _, _, F43, b43, PySem.W.mg_of X G a43,
    _, _, F44, b44, PySem.W.mg_of X G a44,
    _, _, F45, b45, PySem.W.mg_of X G a45,
    _, _, F46, b46, PySem.W.mg_of X G a46,
    _, _, F47, b47, PySem.W.mg_of X G a47,
    _, _, F48, b48, PySem.W.mg_of X G a48,
    _, _, F49, b49, PySem.W.mg_of X G a49,
    _, _, F50, b50, PySem.W.mg_of X G a50,
    _, ⟨pg_Part, hd_Part, po_Part, sa_Part⟩, PySem.W.mg_of X G aC_Part, n_Part_start, n_Part_centre, n_Part_radius, ⟨mk_Part, in_Part, if_Part, kc_Part⟩, _, ⟨fp_Part_after, gp_Part_after, tp_Part_after, ⟨_, rp_Part_after⟩⟩,
    _, ⟨pg_Parts, hd_Parts, po_Parts, sa_Parts⟩, PySem.W.mg_of X G aC_Parts, n_Parts_parts, ⟨mk_Parts, in_Parts, if_Parts, kc_Parts⟩, ⟨fm_Parts_holds, im_Parts_holds, k36⟩, ⟨fm_Parts_least_distance, im_Parts_least_distance, k21⟩, ⟨fm_Parts_least_differing, im_Parts_least_differing, k27⟩, ⟨fm_Parts_most_product, im_Parts_most_product, k32⟩,
    _, ⟨pg_Cell, hd_Cell, po_Cell, sa_Cell⟩, PySem.W.mg_of X G aC_Cell, n_Cell_near, n_Cell_rival, ⟨mk_Cell, in_Cell, if_Cell, kc_Cell⟩, ⟨fm_Cell_holds, im_Cell_holds, k37⟩, ⟨fm_Cell_least_distance, im_Cell_least_distance, k23⟩, ⟨fm_Cell_least_differing, im_Cell_least_differing, k27⟩, ⟨fm_Cell_most_product, im_Cell_most_product, k29⟩,
    _, ⟨pg_Box, hd_Box, po_Box, sa_Box⟩, PySem.W.mg_of X G aC_Box, n_Box_low, n_Box_high, ⟨mk_Box, in_Box, if_Box, kc_Box⟩, ⟨fm_Box_holds, im_Box_holds, k38⟩, ⟨fm_Box_least_distance, im_Box_least_distance, k25⟩, ⟨fm_Box_least_differing, im_Box_least_differing, k27⟩, ⟨fm_Box_most_product, im_Box_most_product, k33⟩,
    _, ⟨pg_Norms, hd_Norms, po_Norms, sa_Norms⟩, PySem.W.mg_of X G aC_Norms, n_Norms_low, n_Norms_high, ⟨mk_Norms, in_Norms, if_Norms, kc_Norms⟩, ⟨fm_Norms_holds, im_Norms_holds, k39⟩, ⟨fm_Norms_least_distance, im_Norms_least_distance, k26⟩, ⟨fm_Norms_least_differing, im_Norms_least_differing, k27⟩, ⟨fm_Norms_most_product, im_Norms_most_product, k34⟩,
    _, ⟨pg_Differ, hd_Differ, po_Differ, sa_Differ⟩, PySem.W.mg_of X G aC_Differ, n_Differ_centre, n_Differ_most, ⟨mk_Differ, in_Differ, if_Differ, kc_Differ⟩, ⟨fm_Differ_holds, im_Differ_holds, k40⟩, ⟨fm_Differ_least_distance, im_Differ_least_distance, k18⟩, ⟨fm_Differ_least_differing, im_Differ_least_differing, k28⟩, ⟨fm_Differ_most_product, im_Differ_most_product, k29⟩,
    _, ⟨pg_Record, hd_Record, po_Record, sa_Record⟩, PySem.W.mg_of X G aC_Record, n_Record_name, n_Record_vector, n_Record_fields, n_Record_words, ⟨mk_Record, in_Record, if_Record, kc_Record⟩,
    PySem.W.mg_none_of X G z_all,
    PySem.W.mg_none_of X G z_int,
    PySem.W.mg_of X G z_isqrt,
    PySem.W.mg_none_of X G z_len,
    PySem.W.mg_none_of X G z_list,
    PySem.W.mg_none_of X G z_max,
    PySem.W.mg_none_of X G z_min,
    PySem.W.mg_none_of X G z_range,
    PySem.W.mg_none_of X G z_sum,
    PySem.W.mg_none_of X G z_tuple,
    PySem.W.mg_none_of X G z_zip⟩
  exact ⟨_, fun s v => .of_eq rfl, fun base _ _ => ok_law T⟩
end K21
open PySem PySem.W PyProof.Rows
set_option maxRecDepth 100000 in
set_option maxHeartbeats 0 in
theorem PySem.Challenge.cw_surenear_k21_bounds_of_vectors_are_safe_holds : PySem.Challenge.rw_surenear_k21_bounds_of_vectors_are_safe.Holds := by
  w_on; o_law; k_head; (case hw => w_witness2)
  k_fill
  refine L2.walk_of (l := PySem.Challenge.rw_surenear_k21_bounds_of_vectors_are_safe) (n := 63) (k := 7) (x := "script") (CX := fun _ => L2.CX0) (sp := fun w => K21.sp_law _) rfl (by decide) rfl ⟨rfl, by decide, by decide⟩ (fun w h Y => PySem.W.kIn_of Y) ?F (fun _ _ a ns hl _ hS => ⟨a, ns, rfl, hS, hl, fun _ => rfl⟩) (fun _ _ _ _ _ h => h)
  case F =>
    intro w mg fa h KX G hmg
    refine' K21.all_mk KX G hmg (a0 := ?a0) (l0 := ?l0) (c0 := ?c0) (k0 := ?k0) (a1 := ?a1) (l1 := ?l1) (c1 := ?c1) (k1 := ?k1) (a2 := ?a2) (l2 := ?l2) (c2 := ?c2) (k2 := ?k2) (a3 := ?a3) (l3 := ?l3) (c3 := ?c3) (k3 := ?k3) (a4 := ?a4) (l4 := ?l4) (c4 := ?c4) (k4 := ?k4) (a5 := ?a5) (l5 := ?l5) (c5 := ?c5) (k5 := ?k5) (a6 := ?a6) (l6 := ?l6) (c6 := ?c6) (k6 := ?k6) (a7 := ?a7) (l7 := ?l7) (c7 := ?c7) (k7 := ?k7) (a15 := ?a15) (l15 := ?l15) (c15 := ?c15) (k15 := ?k15) (a16 := ?a16) (l16 := ?l16) (c16 := ?c16) (k16 := ?k16) (a17 := ?a17) (l17 := ?l17) (c17 := ?c17) (k17 := ?k17) (a19 := ?a19) (l19 := ?l19) (c19 := ?c19) (k19 := ?k19) (a20 := ?a20) (l20 := ?l20) (c20 := ?c20) (k20 := ?k20) (a22 := ?a22) (l22 := ?l22) (c22 := ?c22) (k22 := ?k22) (a24 := ?a24) (l24 := ?l24) (c24 := ?c24) (k24 := ?k24) (a30 := ?a30) (l30 := ?l30) (c30 := ?c30) (k30 := ?k30) (a31 := ?a31) (l31 := ?l31) (c31 := ?c31) (k31 := ?k31) (a35 := ?a35) (l35 := ?l35) (c35 := ?c35) (k35 := ?k35) (a42 := ?a42) (l42 := ?l42) (c42 := ?c42) (k42 := ?k42) (a43 := ?a43) (l43 := ?l43) (c43 := ?c43) (k43 := ?k43) (a44 := ?a44) (l44 := ?l44) (c44 := ?c44) (k44 := ?k44) (a45 := ?a45) (l45 := ?l45) (c45 := ?c45) (k45 := ?k45) (a46 := ?a46) (l46 := ?l46) (c46 := ?c46) (k46 := ?k46) (a47 := ?a47) (l47 := ?l47) (c47 := ?c47) (k47 := ?k47) (a48 := ?a48) (l48 := ?l48) (c48 := ?c48) (k48 := ?k48) (a49 := ?a49) (l49 := ?l49) (c49 := ?c49) (k49 := ?k49) (a50 := ?a50) (l50 := ?l50) (c50 := ?c50) (k50 := ?k50) (aC_Part := ?aC_Part) (pg_Part := ?pg_Part) (hd_Part := ?hd_Part) (po_Part := ?po_Part) (sa_Part := ?sa_Part) (n_Part_start := ?n_Part_start) (n_Part_centre := ?n_Part_centre) (n_Part_radius := ?n_Part_radius) (mk_Part := ?mk_Part) (in_Part := ?in_Part) (if_Part := ?if_Part) (kc_Part := ?kc_Part) (fp_Part_after := ?fp_Part_after) (gp_Part_after := ?gp_Part_after) (tp_Part_after := ?tp_Part_after) (rp_Part_after := ?rp_Part_after) (aC_Parts := ?aC_Parts) (pg_Parts := ?pg_Parts) (hd_Parts := ?hd_Parts) (po_Parts := ?po_Parts) (sa_Parts := ?sa_Parts) (n_Parts_parts := ?n_Parts_parts) (mk_Parts := ?mk_Parts) (in_Parts := ?in_Parts) (if_Parts := ?if_Parts) (kc_Parts := ?kc_Parts) (fm_Parts_holds := ?fm_Parts_holds) (im_Parts_holds := ?im_Parts_holds) (fm_Parts_least_distance := ?fm_Parts_least_distance) (im_Parts_least_distance := ?im_Parts_least_distance) (fm_Parts_least_differing := ?fm_Parts_least_differing) (im_Parts_least_differing := ?im_Parts_least_differing) (fm_Parts_most_product := ?fm_Parts_most_product) (im_Parts_most_product := ?im_Parts_most_product) (aC_Cell := ?aC_Cell) (pg_Cell := ?pg_Cell) (hd_Cell := ?hd_Cell) (po_Cell := ?po_Cell) (sa_Cell := ?sa_Cell) (n_Cell_near := ?n_Cell_near) (n_Cell_rival := ?n_Cell_rival) (mk_Cell := ?mk_Cell) (in_Cell := ?in_Cell) (if_Cell := ?if_Cell) (kc_Cell := ?kc_Cell) (fm_Cell_holds := ?fm_Cell_holds) (im_Cell_holds := ?im_Cell_holds) (fm_Cell_least_distance := ?fm_Cell_least_distance) (im_Cell_least_distance := ?im_Cell_least_distance) (fm_Cell_least_differing := ?fm_Cell_least_differing) (im_Cell_least_differing := ?im_Cell_least_differing) (fm_Cell_most_product := ?fm_Cell_most_product) (im_Cell_most_product := ?im_Cell_most_product) (aC_Box := ?aC_Box) (pg_Box := ?pg_Box) (hd_Box := ?hd_Box) (po_Box := ?po_Box) (sa_Box := ?sa_Box) (n_Box_low := ?n_Box_low) (n_Box_high := ?n_Box_high) (mk_Box := ?mk_Box) (in_Box := ?in_Box) (if_Box := ?if_Box) (kc_Box := ?kc_Box) (fm_Box_holds := ?fm_Box_holds) (im_Box_holds := ?im_Box_holds) (fm_Box_least_distance := ?fm_Box_least_distance) (im_Box_least_distance := ?im_Box_least_distance) (fm_Box_least_differing := ?fm_Box_least_differing) (im_Box_least_differing := ?im_Box_least_differing) (fm_Box_most_product := ?fm_Box_most_product) (im_Box_most_product := ?im_Box_most_product) (aC_Norms := ?aC_Norms) (pg_Norms := ?pg_Norms) (hd_Norms := ?hd_Norms) (po_Norms := ?po_Norms) (sa_Norms := ?sa_Norms) (n_Norms_low := ?n_Norms_low) (n_Norms_high := ?n_Norms_high) (mk_Norms := ?mk_Norms) (in_Norms := ?in_Norms) (if_Norms := ?if_Norms) (kc_Norms := ?kc_Norms) (fm_Norms_holds := ?fm_Norms_holds) (im_Norms_holds := ?im_Norms_holds) (fm_Norms_least_distance := ?fm_Norms_least_distance) (im_Norms_least_distance := ?im_Norms_least_distance) (fm_Norms_least_differing := ?fm_Norms_least_differing) (im_Norms_least_differing := ?im_Norms_least_differing) (fm_Norms_most_product := ?fm_Norms_most_product) (im_Norms_most_product := ?im_Norms_most_product) (aC_Differ := ?aC_Differ) (pg_Differ := ?pg_Differ) (hd_Differ := ?hd_Differ) (po_Differ := ?po_Differ) (sa_Differ := ?sa_Differ) (n_Differ_centre := ?n_Differ_centre) (n_Differ_most := ?n_Differ_most) (mk_Differ := ?mk_Differ) (in_Differ := ?in_Differ) (if_Differ := ?if_Differ) (kc_Differ := ?kc_Differ) (fm_Differ_holds := ?fm_Differ_holds) (im_Differ_holds := ?im_Differ_holds) (fm_Differ_least_distance := ?fm_Differ_least_distance) (im_Differ_least_distance := ?im_Differ_least_distance) (fm_Differ_least_differing := ?fm_Differ_least_differing) (im_Differ_least_differing := ?im_Differ_least_differing) (fm_Differ_most_product := ?fm_Differ_most_product) (im_Differ_most_product := ?im_Differ_most_product) (aC_Record := ?aC_Record) (pg_Record := ?pg_Record) (hd_Record := ?hd_Record) (po_Record := ?po_Record) (sa_Record := ?sa_Record) (n_Record_name := ?n_Record_name) (n_Record_vector := ?n_Record_vector) (n_Record_fields := ?n_Record_fields) (n_Record_words := ?n_Record_words) (mk_Record := ?mk_Record) (in_Record := ?in_Record) (if_Record := ?if_Record) (kc_Record := ?kc_Record) (l8 := ?l8) (c8 := ?c8) (k8 := ?k8) (l9 := ?l9) (c9 := ?c9) (k9 := ?k9) (l10 := ?l10) (c10 := ?c10) (k10 := ?k10) (l11 := ?l11) (c11 := ?c11) (k11 := ?k11) (l12 := ?l12) (c12 := ?c12) (k12 := ?k12) (l13 := ?l13) (c13 := ?c13) (k13 := ?k13) (l14 := ?l14) (c14 := ?c14) (k14 := ?k14) (l18 := ?l18) (c18 := ?c18) (k18 := ?k18) (l21 := ?l21) (c21 := ?c21) (k21 := ?k21) (l23 := ?l23) (c23 := ?c23) (k23 := ?k23) (l25 := ?l25) (c25 := ?c25) (k25 := ?k25) (l26 := ?l26) (c26 := ?c26) (k26 := ?k26) (l27 := ?l27) (c27 := ?c27) (k27 := ?k27) (l28 := ?l28) (c28 := ?c28) (k28 := ?k28) (l29 := ?l29) (c29 := ?c29) (k29 := ?k29) (l32 := ?l32) (c32 := ?c32) (k32 := ?k32) (l33 := ?l33) (c33 := ?c33) (k33 := ?k33) (l34 := ?l34) (c34 := ?c34) (k34 := ?k34) (l36 := ?l36) (c36 := ?c36) (k36 := ?k36) (l37 := ?l37) (c37 := ?c37) (k37 := ?k37) (l38 := ?l38) (c38 := ?c38) (k38 := ?k38) (l39 := ?l39) (c39 := ?c39) (k39 := ?k39) (l40 := ?l40) (c40 := ?c40) (k40 := ?k40) (l41 := ?l41) (n41_fields := ?n41_fields) (t41_fields := ?t41_fields) (n41_words := ?n41_words) (t41_words := ?t41_words) (c41 := ?c41) (k41 := ?k41) (z_all := ?z_all) (z_int := ?z_int) (z_isqrt := ?z_isqrt) (z_len := ?z_len) (z_list := ?z_list) (z_max := ?z_max) (z_min := ?z_min) (z_range := ?z_range) (z_sum := ?z_sum) (z_tuple := ?z_tuple) (z_zip := ?z_zip)
    (case a0 => k_is); (case l0 => k_is); (case c0 => k_is); (case k0 => k_is); (case a1 => k_is); (case l1 => k_is); (case c1 => k_is); (case k1 => k_is); (case a2 => k_is); (case l2 => k_is); (case c2 => k_is); (case k2 => k_is); (case a3 => k_is); (case l3 => k_is); (case c3 => k_is); (case k3 => k_is); (case a4 => k_is); (case l4 => k_is); (case c4 => k_is); (case k4 => k_is); (case a5 => k_is); (case l5 => k_is); (case c5 => k_is); (case k5 => k_is); (case a6 => k_is); (case l6 => k_is); (case c6 => k_is); (case k6 => k_is); (case a7 => k_is); (case l7 => k_is); (case c7 => k_is); (case k7 => k_is); (case a15 => k_is); (case l15 => k_is); (case c15 => k_is); (case k15 => k_is); (case a16 => k_is); (case l16 => k_is); (case c16 => k_is); (case k16 => k_is); (case a17 => k_is); (case l17 => k_is); (case c17 => k_is); (case k17 => k_is); (case a19 => k_is); (case l19 => k_is); (case c19 => k_is); (case k19 => k_is); (case a20 => k_is); (case l20 => k_is); (case c20 => k_is); (case k20 => k_is); (case a22 => k_is); (case l22 => k_is); (case c22 => k_is); (case k22 => k_is); (case a24 => k_is); (case l24 => k_is); (case c24 => k_is); (case k24 => k_is); (case a30 => k_is); (case l30 => k_is); (case c30 => k_is); (case k30 => k_is); (case a31 => k_is); (case l31 => k_is); (case c31 => k_is); (case k31 => k_is); (case a35 => k_is); (case l35 => k_is); (case c35 => k_is); (case k35 => k_is); (case a42 => k_is); (case l42 => k_is); (case c42 => k_is); (case k42 => k_is); (case a43 => k_is); (case l43 => k_is); (case c43 => k_is); (case k43 => k_is); (case a44 => k_is); (case l44 => k_is); (case c44 => k_is); (case k44 => k_is); (case a45 => k_is); (case l45 => k_is); (case c45 => k_is); (case k45 => k_is); (case a46 => k_is); (case l46 => k_is); (case c46 => k_is); (case k46 => k_is); (case a47 => k_is); (case l47 => k_is); (case c47 => k_is); (case k47 => k_is); (case a48 => k_is); (case l48 => k_is); (case c48 => k_is); (case k48 => k_is); (case a49 => k_is); (case l49 => k_is); (case c49 => k_is); (case k49 => k_is); (case a50 => k_is); (case l50 => k_is); (case c50 => k_is); (case k50 => k_is); (case aC_Part => k_is); (case pg_Part => k_is); (case hd_Part => k_is); (case po_Part => k_is); (case sa_Part => k_is); (case n_Part_start => k_is); (case n_Part_centre => k_is); (case n_Part_radius => k_is); (case mk_Part => k_is); (case in_Part => k_is); (case if_Part => k_is); (case kc_Part => k_is); (case fp_Part_after => k_is); (case gp_Part_after => k_is); (case tp_Part_after => k_is); (case rp_Part_after => k_is); (case aC_Parts => k_is); (case pg_Parts => k_is); (case hd_Parts => k_is); (case po_Parts => k_is); (case sa_Parts => k_is); (case n_Parts_parts => k_is); (case mk_Parts => k_is); (case in_Parts => k_is); (case if_Parts => k_is); (case kc_Parts => k_is); (case fm_Parts_holds => k_is); (case im_Parts_holds => k_is); (case fm_Parts_least_distance => k_is); (case im_Parts_least_distance => k_is); (case fm_Parts_least_differing => k_is); (case im_Parts_least_differing => k_is); (case fm_Parts_most_product => k_is); (case im_Parts_most_product => k_is); (case aC_Cell => k_is); (case pg_Cell => k_is); (case hd_Cell => k_is); (case po_Cell => k_is); (case sa_Cell => k_is); (case n_Cell_near => k_is); (case n_Cell_rival => k_is); (case mk_Cell => k_is); (case in_Cell => k_is); (case if_Cell => k_is); (case kc_Cell => k_is); (case fm_Cell_holds => k_is); (case im_Cell_holds => k_is); (case fm_Cell_least_distance => k_is); (case im_Cell_least_distance => k_is); (case fm_Cell_least_differing => k_is); (case im_Cell_least_differing => k_is); (case fm_Cell_most_product => k_is); (case im_Cell_most_product => k_is); (case aC_Box => k_is); (case pg_Box => k_is); (case hd_Box => k_is); (case po_Box => k_is); (case sa_Box => k_is); (case n_Box_low => k_is); (case n_Box_high => k_is); (case mk_Box => k_is); (case in_Box => k_is); (case if_Box => k_is); (case kc_Box => k_is); (case fm_Box_holds => k_is); (case im_Box_holds => k_is); (case fm_Box_least_distance => k_is); (case im_Box_least_distance => k_is); (case fm_Box_least_differing => k_is); (case im_Box_least_differing => k_is); (case fm_Box_most_product => k_is); (case im_Box_most_product => k_is); (case aC_Norms => k_is); (case pg_Norms => k_is); (case hd_Norms => k_is); (case po_Norms => k_is); (case sa_Norms => k_is); (case n_Norms_low => k_is); (case n_Norms_high => k_is); (case mk_Norms => k_is); (case in_Norms => k_is); (case if_Norms => k_is); (case kc_Norms => k_is); (case fm_Norms_holds => k_is); (case im_Norms_holds => k_is); (case fm_Norms_least_distance => k_is); (case im_Norms_least_distance => k_is); (case fm_Norms_least_differing => k_is); (case im_Norms_least_differing => k_is); (case fm_Norms_most_product => k_is); (case im_Norms_most_product => k_is); (case aC_Differ => k_is); (case pg_Differ => k_is); (case hd_Differ => k_is); (case po_Differ => k_is); (case sa_Differ => k_is); (case n_Differ_centre => k_is); (case n_Differ_most => k_is); (case mk_Differ => k_is); (case in_Differ => k_is); (case if_Differ => k_is); (case kc_Differ => k_is); (case fm_Differ_holds => k_is); (case im_Differ_holds => k_is); (case fm_Differ_least_distance => k_is); (case im_Differ_least_distance => k_is); (case fm_Differ_least_differing => k_is); (case im_Differ_least_differing => k_is); (case fm_Differ_most_product => k_is); (case im_Differ_most_product => k_is); (case aC_Record => k_is); (case pg_Record => k_is); (case hd_Record => k_is); (case po_Record => k_is); (case sa_Record => k_is); (case n_Record_name => k_is); (case n_Record_vector => k_is); (case n_Record_fields => k_is); (case n_Record_words => k_is); (case mk_Record => k_is); (case in_Record => k_is); (case if_Record => k_is); (case kc_Record => k_is); (case l8 => k_is); (case c8 => k_is); (case k8 => k_is); (case l9 => k_is); (case c9 => k_is); (case k9 => k_is); (case l10 => k_is); (case c10 => k_is); (case k10 => k_is); (case l11 => k_is); (case c11 => k_is); (case k11 => k_is); (case l12 => k_is); (case c12 => k_is); (case k12 => k_is); (case l13 => k_is); (case c13 => k_is); (case k13 => k_is); (case l14 => k_is); (case c14 => k_is); (case k14 => k_is); (case l18 => k_is); (case c18 => k_is); (case k18 => k_is); (case l21 => k_is); (case c21 => k_is); (case k21 => k_is); (case l23 => k_is); (case c23 => k_is); (case k23 => k_is); (case l25 => k_is); (case c25 => k_is); (case k25 => k_is); (case l26 => k_is); (case c26 => k_is); (case k26 => k_is); (case l27 => k_is); (case c27 => k_is); (case k27 => k_is); (case l28 => k_is); (case c28 => k_is); (case k28 => k_is); (case l29 => k_is); (case c29 => k_is); (case k29 => k_is); (case l32 => k_is); (case c32 => k_is); (case k32 => k_is); (case l33 => k_is); (case c33 => k_is); (case k33 => k_is); (case l34 => k_is); (case c34 => k_is); (case k34 => k_is); (case l36 => k_is); (case c36 => k_is); (case k36 => k_is); (case l37 => k_is); (case c37 => k_is); (case k37 => k_is); (case l38 => k_is); (case c38 => k_is); (case k38 => k_is); (case l39 => k_is); (case c39 => k_is); (case k39 => k_is); (case l40 => k_is); (case c40 => k_is); (case k40 => k_is); (case l41 => k_is); (case n41_fields => k_is); (case t41_fields => k_is); (case n41_words => k_is); (case t41_words => k_is); (case c41 => k_is); (case k41 => k_is); (case z_all => k_is); (case z_int => k_is); (case z_isqrt => k_is); (case z_len => k_is); (case z_list => k_is); (case z_max => k_is); (case z_min => k_is); (case z_range => k_is); (case z_sum => k_is); (case z_tuple => k_is); (case z_zip => k_is)
