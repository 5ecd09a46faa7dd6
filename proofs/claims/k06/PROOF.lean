import PyProof.Rows.All
import Wide.All
import OpenK.AllK
import Wide.FinOn
import HandS.ForMost
import HandS.Codes
import HandS.Wide
import HandS.IsInst
import HandS.Walk
import HandS.Zip
import HandS.MakeKwOnly
import HandS.ForExc
import HandS.TryMany
import HandS.Strs
import HandS.More
import HandS.Property
import OpenK.KMeth
import KE.KEqSeq
import PySem.Challenge.RW_surenear_k06_records_of_a_schema
set_option Elab.async false
set_option linter.all false
set_option maxRecDepth 100000
namespace K06
open PySem PySem.Spec PyProof.Rows L2
open C8 (tCut pss_cut)
theorem exm_any {K : PySem.W.Frag} {a b : Value} {v : Bool} (h1 : PySem.W.subIn K b (.type "BaseException") = some true) (h2 : ∀ c, b = .ref c → PySem.W.isClsIn K c = true) (h3 : PySem.W.typeIn K b = some (.type "type")) (h4 : PySem.W.subIn K a b = some v) (h5 : ∃ c, b = .ref c) : PySem.W.exmOne K a b = some v := by
  obtain ⟨c, rfl⟩ := h5
  have g := h2 c rfl
  have e1 : (PySem.W.subIn K (.ref c) (.type "BaseException") == some true) = true := by rw [h1]; rfl
  have e2 : ((PySem.W.clsIn K c).isSome && PySem.W.typeIn K (.ref c) == some (.type "type")) = true := by
    have g' : (PySem.W.clsIn K c).isSome = true := g
    rw [g', h3]; rfl
  unfold PySem.W.exmOne PySem.W.kitCls
  simp only [e1, e2, h4, if_true]
/-! the text by places -/
def topS (i : Nat) : Stmt := PySem.Challenge.pw_surenear_k06_records_of_a_schema.main.body.getD i (.Pass ⟨0, 0, 0, 0⟩)
abbrev s_law_row : Stmt := (topS 26)
abbrev s_law_next : Stmt := (topS 27)
abbrev s_law_fields : Stmt := (topS 28)
abbrev s_law_schema : Stmt := (topS 29)
abbrev s_law_number : Stmt := (topS 30)
abbrev s_law_value : Stmt := (topS 31)
abbrev s_law_pairs : Stmt := (topS 32)
abbrev s_law_words : Stmt := (topS 33)
abbrev s_law_name : Stmt := (topS 34)
abbrev s_kind_of_value : Stmt := (topS 6)
abbrev s_Record___init__ : Stmt := (inClass (topS 23) 0)
abbrev s_is_letter : Stmt := (topS 2)
abbrev s_is_digit : Stmt := (topS 3)
abbrev s_is_word : Stmt := (topS 4)
abbrev s_check_vectors : Stmt := (topS 17)
abbrev s_check_fields : Stmt := (topS 18)
abbrev s_Schema___init__ : Stmt := (inClass (topS 16) 0)
abbrev s_are_within : Stmt := (topS 19)
abbrev s_are_words : Stmt := (topS 21)
abbrev s_are_fields_of : Stmt := (topS 20)
abbrev s_Schema___contains__ : Stmt := (inClass (topS 16) 5)
abbrev s_Schema_check : Stmt := (inClass (topS 16) 6)
abbrev s_Record_value : Stmt := (inClass (topS 23) 1)
abbrev s_Record_count_of : Stmt := (inClass (topS 23) 2)
abbrev s_law_kind : Stmt := (topS 35)
abbrev s_law_refused : Stmt := (topS 38)
abbrev s_law_fits : Stmt := (topS 36)
abbrev s_law_change : Stmt := (topS 37)
abbrev s_law_tells : Stmt := (topS 39)
abbrev s_law : Stmt := (topS 40)
theorem sc_law_row : FnScope ["script", "k", "cell", "a", "b", "c"] ["script", "k"] (defScope s_law_row) := ⟨rfl, rfl, rfl, by decide +kernel, rfl, by decide +kernel, by decide +kernel⟩
theorem sc_law_next : FnScope ["state", "many", "drawn"] ["state", "many"] (defScope s_law_next) := ⟨rfl, rfl, rfl, by decide +kernel, rfl, by decide +kernel, by decide +kernel⟩
theorem sc_law_fields : FnScope ["state", "fields", "k", "name"] ["state"] (defScope s_law_fields) := ⟨rfl, rfl, rfl, by decide +kernel, rfl, by decide +kernel, by decide +kernel⟩
theorem sc_law_schema : FnScope ["state", "width", "measure"] ["state"] (defScope s_law_schema) := ⟨rfl, rfl, rfl, by decide +kernel, rfl, by decide +kernel, by decide +kernel⟩
theorem sc_law_number : FnScope ["state", "width", "low", "high", "spread"] ["state", "width"] (defScope s_law_number) := ⟨rfl, rfl, rfl, by decide +kernel, rfl, by decide +kernel, by decide +kernel⟩
theorem sc_law_value : FnScope ["state", "kind"] ["state", "kind"] (defScope s_law_value) := ⟨rfl, rfl, rfl, by decide +kernel, rfl, by decide +kernel, by decide +kernel⟩
theorem sc_law_pairs : FnScope ["state", "fields", "pairs", "name", "kind"] ["state", "fields"] (defScope s_law_pairs) := ⟨rfl, rfl, rfl, by decide +kernel, rfl, by decide +kernel, by decide +kernel⟩
theorem sc_law_words : FnScope ["state", "words", "word"] ["state"] (defScope s_law_words) := ⟨rfl, rfl, rfl, by decide +kernel, rfl, by decide +kernel, by decide +kernel⟩
theorem sc_law_name : FnScope ["state"] ["state"] (defScope s_law_name) := ⟨rfl, rfl, rfl, by decide +kernel, rfl, by decide +kernel, by decide +kernel⟩
theorem sc_kind_of_value : FnScope ["worth"] ["worth"] (defScope s_kind_of_value) := ⟨rfl, rfl, rfl, by decide +kernel, rfl, by decide +kernel, by decide +kernel⟩
theorem sc_Record___init__ : FnScope ["self", "name", "vector", "fields", "words", "pair"] ["self", "name", "vector", "fields", "words"] (defScope s_Record___init__) := ⟨rfl, rfl, rfl, by decide +kernel, rfl, by decide +kernel, by decide +kernel⟩
theorem sc_is_letter : FnScope ["char"] ["char"] (defScope s_is_letter) := ⟨rfl, rfl, rfl, by decide +kernel, rfl, by decide +kernel, by decide +kernel⟩
theorem sc_is_digit : FnScope ["char"] ["char"] (defScope s_is_digit) := ⟨rfl, rfl, rfl, by decide +kernel, rfl, by decide +kernel, by decide +kernel⟩
theorem sc_is_word : FnScope ["text", "char"] ["text"] (defScope s_is_word) := ⟨rfl, rfl, rfl, by decide +kernel, rfl, by decide +kernel, by decide +kernel⟩
theorem sc_check_vectors : FnScope ["size", "width", "measure"] ["size", "width", "measure"] (defScope s_check_vectors) := ⟨rfl, rfl, rfl, by decide +kernel, rfl, by decide +kernel, by decide +kernel⟩
theorem sc_check_fields : FnScope ["fields", "name", "kind", "_"] ["fields"] (defScope s_check_fields) := ⟨rfl, rfl, rfl, by decide +kernel, rfl, by decide +kernel, by decide +kernel⟩
theorem sc_Schema___init__ : FnScope ["self", "size", "width", "measure", "fields", "pair"] ["self", "size", "width", "measure", "fields"] (defScope s_Schema___init__) := ⟨rfl, rfl, rfl, by decide +kernel, rfl, by decide +kernel, by decide +kernel⟩
theorem sc_are_within : FnScope ["vector", "width", "low", "high", "number"] ["vector", "width"] (defScope s_are_within) := ⟨rfl, rfl, rfl, by decide +kernel, rfl, by decide +kernel, by decide +kernel⟩
theorem sc_are_words : FnScope ["words", "last", "word", "count"] ["words"] (defScope s_are_words) := ⟨rfl, rfl, rfl, by decide +kernel, rfl, by decide +kernel, by decide +kernel⟩
theorem sc_are_fields_of : FnScope ["fields", "known", "place", "name", "worth"] ["fields", "known"] (defScope s_are_fields_of) := ⟨rfl, rfl, rfl, by decide +kernel, rfl, by decide +kernel, by decide +kernel⟩
theorem sc_Schema___contains__ : FnScope ["self", "record"] ["self", "record"] (defScope s_Schema___contains__) := ⟨rfl, rfl, rfl, by decide +kernel, rfl, by decide +kernel, by decide +kernel⟩
theorem sc_Schema_check : FnScope ["self", "record"] ["self", "record"] (defScope s_Schema_check) := ⟨rfl, rfl, rfl, by decide +kernel, rfl, by decide +kernel, by decide +kernel⟩
theorem sc_Record_value : FnScope ["self", "name", "known", "worth"] ["self", "name"] (defScope s_Record_value) := ⟨rfl, rfl, rfl, by decide +kernel, rfl, by decide +kernel, by decide +kernel⟩
theorem sc_Record_count_of : FnScope ["self", "word", "known", "count"] ["self", "word"] (defScope s_Record_count_of) := ⟨rfl, rfl, rfl, by decide +kernel, rfl, by decide +kernel, by decide +kernel⟩
theorem sc_law_kind : FnScope ["worth"] ["worth"] (defScope s_law_kind) := ⟨rfl, rfl, rfl, by decide +kernel, rfl, by decide +kernel, by decide +kernel⟩
theorem sc_law_refused : FnScope ["schema", "record"] ["schema", "record"] (defScope s_law_refused) := ⟨rfl, rfl, rfl, by decide +kernel, rfl, by decide +kernel, by decide +kernel⟩
theorem sc_law_fits : FnScope ["drawn", "name", "vector", "pairs", "words", "size", "width", "measure", "fields", "place", "number", "names", "field", "kind", "last", "worth", "before", "word", "count"] ["drawn", "name", "vector", "pairs", "words"] (defScope s_law_fits) := ⟨rfl, rfl, rfl, by decide +kernel, rfl, by decide +kernel, by decide +kernel⟩
theorem sc_law_change : FnScope ["state", "drawn", "thing", "name", "vector", "pairs", "words", "kind", "place", "field", "worth", "k"] ["state", "drawn", "thing"] (defScope s_law_change) := ⟨rfl, rfl, rfl, by decide +kernel, rfl, by decide +kernel, by decide +kernel⟩
theorem sc_law_tells : FnScope ["record", "thing", "name", "vector", "pairs", "words", "field", "due", "other", "worth", "actual", "word", "counts", "count"] ["record", "thing"] (defScope s_law_tells) := ⟨rfl, rfl, rfl, by decide +kernel, rfl, by decide +kernel, by decide +kernel⟩
theorem sc_law : FnScope ["script", "state", "drawn", "schema", "turn", "vector", "k", "thing", "record", "due"] ["script"] (defScope s_law) := ⟨rfl, rfl, rfl, by decide +kernel, rfl, by decide +kernel, by decide +kernel⟩
/-! the mathematics -/

/-- the state of the draws stands at st -/
def StAt (H : Hp) (st sc : Addr) : Prop := ∃ (ns : List Int) (k x : Int), H st = some (.lst [.ref sc, .int k, .int x]) ∧ H sc = some (.lst (ns.map V.int)) ∧ 0 ≤ k ∧ 0 ≤ x ∧ ns.length ≤ 63
/-- all but st is as it was -/
def Oth (st : Addr) (H H' : Hp) : Prop := ∀ b, b ≠ st → H' b = H b
theorem Oth.refl (st : Addr) (H : Hp) : Oth st H H := fun _ _ => rfl
theorem Oth.trans {st : Addr} {H H1 H2 : Hp} (a : Oth st H H1) (b : Oth st H1 H2) : Oth st H H2 := fun c h => (b c h).trans (a c h)
theorem qT {Q : VK} {H : Hp} {c : Prop} [Decidable c] (h : c) (q : Q (.bl true) H) : Q (.bl (decide c)) H := by
  rw [decide_eq_true h]
  exact q
theorem qF {Q : VK} {H : Hp} {c : Prop} [Decidable c] (h : ¬ c) (q : Q (.bl false) H) : Q (.bl (decide c)) H := by
  rw [decide_eq_false h]
  exact q
theorem ixN_nat {n j : Nat} (h : j < n) : ixN n (j : Int) = some j := by
  unfold ixN
  rw [if_pos (by omega), if_pos (by omega)]
  simp
theorem item_map {ns : List Int} {k : Int} (h0 : 0 ≤ k) (h1 : k < ns.length) : ∃ c, atI (ns.map V.int) k = some (.int c) := by
  have hj : k.toNat < ns.length := by omega
  refine ⟨ns[k.toNat], at_of (j := k.toNat) (by omega) ?_⟩
  rw [List.getElem?_map, List.getElem?_eq_getElem hj]
  rfl

/-- what was tracked is so still, but for what stands at st -/
def Fr (st : Addr) (H H' : Hp) : Prop := ∀ b o, H b = some o → b ≠ st → H' b = some o
theorem Fr.refl (st : Addr) (H : Hp) : Fr st H H := fun _ _ h _ => h
theorem Fr.trans {st : Addr} {H H1 H2 : Hp} (a : Fr st H H1) (b : Fr st H1 H2) : Fr st H H2 := fun c o h n => b c o (a c o h n) n
theorem Oth.fr {st : Addr} {H H' : Hp} (h : Oth st H H') : Fr st H H' := fun b _ e n => (h b n).trans e
theorem Fr.new {st : Addr} {H : Hp} {p : Addr} {o : HO} (h : H p = none) : Fr st H (upd H p o) := fun b u e _ => by
  rw [upd_ne (ne_of_none e h)]
  exact e
theorem Fr.set {st : Addr} {H H' : Hp} {p : Addr} {o : HO} (f : Fr st H H') (h : H p = none) : Fr st H (upd H' p o) := fun b u e n => by
  rw [upd_ne (ne_of_none e h)]
  exact f b u e n
theorem Fr.lst {st : Addr} {H H' : Hp} (f : Fr st H H') {b : Addr} {o : HO} (e : H b = some o) (n : b ≠ st) : H' b = some o := f b o e n
/-- a list of integers is not the state -/
theorem st_ne {H : Hp} {st b sc : Addr} (hS : StAt H st sc) {xs : List Int} (h : H b = some (.lst (xs.map V.int))) : b ≠ st := fun e => by
  obtain ⟨ns, k, x, h1, _⟩ := hS
  rw [e, h1] at h
  have z := HO.lst.inj (Option.some.inj h)
  cases xs with
  | nil => cases z
  | cons y r => cases (List.cons.inj z).1
theorem st_new {H : Hp} {st b sc : Addr} (hS : StAt H st sc) (h : H b = none) : b ≠ st := fun e => by
  obtain ⟨ns, k, x, h1, _⟩ := hS
  rw [e, h1] at h
  cases h
/-- the state's own list of the script stands apart from all that is new -/
theorem StAt.new {H : Hp} {st p sc : Addr} {o : HO} (hS : StAt H st sc) (hn : H p = none) : StAt (upd H p o) st sc := by
  obtain ⟨ns, k, x, h1, h2, k0, x0, hl⟩ := hS
  exact ⟨ns, k, x, by rw [upd_ne (ne_of_none h1 hn)]; exact h1, by rw [upd_ne (ne_of_none h2 hn)]; exact h2, k0, x0, hl⟩
theorem StAt.set {H H' : Hp} {st p sc : Addr} {o : HO} (hS' : StAt H' st sc) (hS : StAt H st sc) (hn : H p = none) : StAt (upd H' p o) st sc := by
  obtain ⟨ns, k, x, h1, h2, k0, x0, hl⟩ := hS
  obtain ⟨ns', k', x', h1', h2', k0', x0', hl'⟩ := hS'
  exact ⟨ns', k', x', by rw [upd_ne (ne_of_none h1 hn)]; exact h1', by rw [upd_ne (ne_of_none h2 hn)]; exact h2', k0', x0', hl'⟩
def Bd (n : Int) (xs : List Int) : Prop := ∀ z ∈ xs, -n ≤ z ∧ z ≤ n
theorem Bd.at {n : Int} {xs : List Int} (h : Bd n xs) {i : Nat} {z : Int} (e : xs[i]? = some z) : -n ≤ z ∧ z ≤ n := h z (List.mem_of_getElem? e)
def dist : List Int → List Int → Int
  | x :: xs, y :: ys => (x - y) * (x - y) + dist xs ys
  | _, _ => 0
theorem sq_nn (x : Int) : 0 ≤ x * x := by
  rcases Int.le_total 0 x with h | h
  · exact Int.mul_nonneg h h
  · have := Int.mul_nonneg (Int.neg_nonneg_of_nonpos h) (Int.neg_nonneg_of_nonpos h)
    rwa [Int.neg_mul_neg] at this
theorem dist_nn : ∀ xs ys : List Int, 0 ≤ dist xs ys
  | [], _ => by unfold dist; exact Int.le_refl 0
  | _ :: _, [] => by unfold dist; exact Int.le_refl 0
  | x :: xs, y :: ys => by
    unfold dist
    have := dist_nn xs ys
    have := sq_nn (x - y)
    omega
theorem dist_take : ∀ {xs ys : List Int} {i : Nat} {x y : Int}, xs[i]? = some x → ys[i]? = some y → dist (xs.take (i + 1)) (ys.take (i + 1)) = dist (xs.take i) (ys.take i) + (x - y) * (x - y)
  | [], _, _, _, _, h, _ => by simp at h
  | _ :: _, [], _, _, _, _, h => by simp at h
  | a :: r, b :: t, 0, x, y, h, h2 => by
    have e1 : a = x := Option.some.inj h
    have e2 : b = y := Option.some.inj h2
    subst e1 e2
    simp [dist]
  | a :: r, b :: t, i + 1, x, y, h, h2 => by
    have ih := dist_take (xs := r) (ys := t) (i := i) (x := x) (y := y) h h2
    show (a - b) * (a - b) + dist (r.take (i + 1)) (t.take (i + 1)) = (a - b) * (a - b) + dist (r.take i) (t.take i) + (x - y) * (x - y)
    rw [ih]
    omega
theorem sq_le {x n : Int} (h1 : -n ≤ x) (h2 : x ≤ n) : x * x ≤ n * n := by
  have a : 0 ≤ n - x := by omega
  have b : 0 ≤ n + x := by omega
  have c := Int.mul_nonneg a b
  have e : (n - x) * (n + x) = n * n - x * x := by grind
  omega
theorem dist_le {n : Int} : ∀ {xs ys : List Int}, Bd n xs → Bd n ys → dist xs ys ≤ xs.length * (4 * (n * n))
  | [], _, _, _ => by simp [dist]
  | x :: xs, [], _, _ => by
    unfold dist
    exact Int.mul_nonneg (Int.natCast_nonneg _) (Int.mul_nonneg (by decide) (sq_nn n))
  | x :: xs, y :: ys, hx, hy => by
    have ih := dist_le (n := n) (xs := xs) (ys := ys) (fun z h => hx z (List.mem_cons_of_mem _ h)) (fun z h => hy z (List.mem_cons_of_mem _ h))
    have h1 := hx x (List.mem_cons_self)
    have h2 := hy y (List.mem_cons_self)
    have h3 : (x - y) * (x - y) ≤ (2 * n) * (2 * n) := sq_le (by omega) (by omega)
    have e : (2 * n) * (2 * n) = 4 * (n * n) := by grind
    unfold dist
    rw [List.length_cons]
    have e2 : ((xs.length + 1 : Nat) : Int) * (4 * (n * n)) = xs.length * (4 * (n * n)) + 4 * (n * n) := by grind
    omega
theorem get_map {xs : List Int} {i : Nat} {y : V} (h : (xs.map V.int)[i]? = some y) : ∃ z, y = V.int z ∧ xs[i]? = some z := by
  rw [List.getElem?_map] at h
  cases e : xs[i]? with
  | none =>
    rw [e] at h
    cases h
  | some z =>
    rw [e] at h
    exact ⟨z, (Option.some.inj h).symm, rfl⟩
theorem map_get {xs : List Int} {i : Nat} {z : Int} (h : xs[i]? = some z) : (xs.map V.int)[i]? = some (V.int z) := by
  rw [List.getElem?_map, h]
  rfl
theorem len_le {n : Nat} (h : n ≤ 1000) : n < sizeLine := small1000 h

/-- at p stands a list of n integers, none beyond s -/
def IsPt (H : Hp) (p : Addr) (n s : Int) (zs : List Int) : Prop := H p = some (.lst (zs.map V.int)) ∧ (zs.length : Int) = n ∧ Bd s zs
theorem IsPt.fr {H H' : Hp} {p st sc : Addr} {n s : Int} {zs : List Int} (h : IsPt H p n s zs) (hS : StAt H st sc) (f : Fr st H H') : IsPt H' p n s zs := ⟨f _ _ h.1 (st_ne hS h.1), h.2.1, h.2.2⟩
theorem IsPt.wide {H : Hp} {p : Addr} {n s t : Int} {zs : List Int} (h : IsPt H p n s zs) (e : s ≤ t) : IsPt H p n t zs := ⟨h.1, h.2.1, fun z hz => by have := h.2.2 z hz; omega⟩
theorem IsPt.get {H : Hp} {p : Addr} {n s : Int} {zs : List Int} (h : IsPt H p n s zs) {i : Nat} (hi : (i : Int) < n) : ∃ z, zs[i]? = some z ∧ -s ≤ z ∧ z ≤ s := by
  have hl : i < zs.length := by have := h.2.1; omega
  exact ⟨zs[i], List.getElem?_eq_getElem hl, h.2.2.at (List.getElem?_eq_getElem hl)⟩
theorem dist_small {H : Hp} {p r : Addr} {n : Int} {xs ys : List Int} (h1 : IsPt H p n 30000 xs) (h2 : IsPt H r n 30000 ys) (hn : n ≤ 5) : 0 ≤ dist xs ys ∧ dist xs ys < 100000000000 := by
  refine ⟨dist_nn _ _, ?_⟩
  have a := dist_le h1.2.2 h2.2.2
  have b := h1.2.1
  have e : (30000 : Int) * 30000 = 900000000 := by decide
  rw [e] at a
  have : (xs.length : Int) * (4 * 900000000) ≤ 5 * (4 * 900000000) := by omega
  omega
theorem pick4 {a b c d k : Int} (h0 : 0 ≤ k) (h1 : k < 4) : ∃ v, atI [V.int a, V.int b, V.int c, V.int d] k = some (.int v) ∧ (v = a ∨ v = b ∨ v = c ∨ v = d) := by
  have : k = 0 ∨ k = 1 ∨ k = 2 ∨ k = 3 := by omega
  rcases this with rfl | rfl | rfl | rfl
  · exact ⟨a, at_of (j := 0) rfl rfl, .inl rfl⟩
  · exact ⟨b, at_of (j := 1) rfl rfl, .inr (.inl rfl)⟩
  · exact ⟨c, at_of (j := 2) rfl rfl, .inr (.inr (.inl rfl))⟩
  · exact ⟨d, at_of (j := 3) rfl rfl, .inr (.inr (.inr rfl))⟩
theorem st_made {H : Hp} {sc st : Addr} {ns : List Int} (h1 : H sc = none) (h2 : upd H sc (.lst (ns.map V.int)) st = none) (hl : ns.length ≤ 63) : StAt (upd (upd H sc (.lst (ns.map V.int))) st (.lst [.ref sc, .int 0, .int 0])) st sc := by
  have ne : sc ≠ st := fun e => by
    rw [← e, upd_same] at h2
    cases h2
  exact ⟨ns, 0, 0, upd_same, by rw [upd_ne ne, upd_same], by decide, by decide, hl⟩

theorem same_fr {st : Addr} {H H' : Hp} (h : Same H H') : Fr st H H' := fun b o e _ => h b o e
theorem same_new {H : Hp} {p : Addr} {o : HO} (h : H p = none) : Same H (upd H p o) := fun b u e => by
  rw [upd_ne (ne_of_none e h)]
  exact e
theorem same_set {H H' : Hp} {p : Addr} {o : HO} (f : Same H H') (h : H p = none) : Same H (upd H' p o) := fun b u e => by
  rw [upd_ne (ne_of_none e h)]
  exact f b u e
theorem StAt.same {H H' : Hp} {st sc : Addr} (hS : StAt H st sc) (f : Same H H') : StAt H' st sc := by
  obtain ⟨ns, k, x, h1, h2, k0, x0, hl⟩ := hS
  exact ⟨ns, k, x, f _ _ h1, f _ _ h2, k0, x0, hl⟩
/-- the terms of a sum over two lists -/
def ter (f : Int → Int → Int) (xs ys : List Int) : List Int := List.zipWith f xs ys
theorem ter_get {f : Int → Int → Int} {xs ys : List Int} {i : Nat} {x y : Int} (hx : xs[i]? = some x) (hy : ys[i]? = some y) : (ter f xs ys)[i]? = some (f x y) := by
  unfold ter
  rw [List.getElem?_zipWith, hx, hy]
theorem ter_len {f : Int → Int → Int} {xs ys : List Int} (h : xs.length = ys.length) : (ter f xs ys).length = xs.length := by
  unfold ter
  rw [List.length_zipWith]
  omega
def fMul (x y : Int) : Int := x * y
def fSq (x y : Int) : Int := (x - y) * (x - y)
def fNe (x y : Int) : Int := if x = y then 0 else 1

mutual
/-- v is the datum d, all of whose objects stand away from N -/
inductive Dt (N : List Addr) (H : Hp) : V → PyData → Prop
  | non : Dt N H .non .none
  | bl (b : Bool) : Dt N H (.bl b) (.bool b)
  | int (i : Int) : Dt N H (.int i) (.int i)
  | str (x : Str) : Dt N H (.str x) (.str x)
  | lst {a : Addr} {xs : List V} {ds : List PyData} : a ∉ N → H a = some (.lst xs) → Dts N H xs ds → Dt N H (.ref a) (.list ds)
  | tup {a : Addr} {xs : List V} {ds : List PyData} : a ∉ N → H a = some (.tup xs) → Dts N H xs ds → Dt N H (.ref a) (.tuple ds)
inductive Dts (N : List Addr) (H : Hp) : List V → List PyData → Prop
  | nil : Dts N H [] []
  | cons {v : V} {vs : List V} {d : PyData} {ds : List PyData} : Dt N H v d → Dts N H vs ds → Dts N H (v :: vs) (d :: ds)
end
mutual
theorem Dt.mono {N M : List Addr} {H H' : Hp} (f : ∀ a o, a ∉ N → H a = some o → a ∉ M ∧ H' a = some o) : ∀ {v : V} {d : PyData}, Dt N H v d → Dt M H' v d
  | _, _, .non => .non
  | _, _, .bl b => .bl b
  | _, _, .int i => .int i
  | _, _, .str x => .str x
  | _, _, .lst n h t => .lst (f _ _ n h).1 (f _ _ n h).2 (Dts.mono f t)
  | _, _, .tup n h t => .tup (f _ _ n h).1 (f _ _ n h).2 (Dts.mono f t)
theorem Dts.mono {N M : List Addr} {H H' : Hp} (f : ∀ a o, a ∉ N → H a = some o → a ∉ M ∧ H' a = some o) : ∀ {vs : List V} {ds : List PyData}, Dts N H vs ds → Dts M H' vs ds
  | _, _, .nil => .nil
  | _, _, .cons x t => .cons (Dt.mono f x) (Dts.mono f t)
end
mutual
theorem Dt.dp {K : PySem.W.Frag} {N : List Addr} {H : Hp} : ∀ {v : V} {d : PyData}, Dt N H v d → Dp K H v d
  | _, _, .non => .non
  | _, _, .bl b => .bl b
  | _, _, .int i => .int i
  | _, _, .str x => .str x
  | _, _, .lst _ h t => .lst (SqL.of h) (Dts.dp t)
  | _, _, .tup _ h t => .tup (SqT.of h) (Dts.dp t)
theorem Dts.dp {K : PySem.W.Frag} {N : List Addr} {H : Hp} : ∀ {vs : List V} {ds : List PyData}, Dts N H vs ds → DpAll K H vs ds
  | _, _, .nil => .nil
  | _, _, .cons x t => .cons (Dt.dp x) (Dts.dp t)
end
theorem Dt.same {N : List Addr} {H H' : Hp} {v : V} {d : PyData} (f : Same H H') (h : Dt N H v d) : Dt N H' v d := h.mono fun a o n e => ⟨n, f a o e⟩
theorem Dts.same {N : List Addr} {H H' : Hp} {v : List V} {d : List PyData} (f : Same H H') (h : Dts N H v d) : Dts N H' v d := h.mono fun a o n e => ⟨n, f a o e⟩
theorem Dt.fr {N : List Addr} {H H' : Hp} {st : Addr} {v : V} {d : PyData} (f : Fr st H H') (m : st ∈ N) (h : Dt N H v d) : Dt N H' v d := h.mono fun a o n e => ⟨n, f a o e fun z => by rw [z] at n; exact n m⟩
theorem Dts.fr {N : List Addr} {H H' : Hp} {st : Addr} {v : List V} {d : List PyData} (f : Fr st H H') (m : st ∈ N) (h : Dts N H v d) : Dts N H' v d := h.mono fun a o n e => ⟨n, f a o e fun z => by rw [z] at n; exact n m⟩
theorem Dt.upd {N : List Addr} {H : Hp} {p : Addr} {o : HO} {v : V} {d : PyData} (m : p ∈ N) (h : Dt N H v d) : Dt N (upd H p o) v d := h.mono fun a u n e => ⟨n, by rw [upd_ne fun z => by rw [z] at n; exact n m]; exact e⟩
theorem Dts.upd {N : List Addr} {H : Hp} {p : Addr} {o : HO} {v : List V} {d : List PyData} (m : p ∈ N) (h : Dts N H v d) : Dts N (upd H p o) v d := h.mono fun a u n e => ⟨n, by rw [upd_ne fun z => by rw [z] at n; exact n m]; exact e⟩
theorem Dt.new {N : List Addr} {H : Hp} {p : Addr} {o : HO} {v : V} {d : PyData} (m : H p = none) (h : Dt N H v d) : Dt N (L2.upd H p o) v d := h.same (same_new m)
theorem Dts.new {N : List Addr} {H : Hp} {p : Addr} {o : HO} {v : List V} {d : List PyData} (m : H p = none) (h : Dts N H v d) : Dts N (L2.upd H p o) v d := h.same (same_new m)
theorem Dt.away {N : List Addr} {H : Hp} {p : Addr} {v : V} {d : PyData} (m : H p = none) (h : Dt N H v d) : Dt (p :: N) H v d := h.mono fun a o n e => ⟨fun z => by
  rcases List.mem_cons.mp z with y | y
  · rw [y, m] at e; cases e
  · exact n y, e⟩
theorem Dts.away {N : List Addr} {H : Hp} {p : Addr} {v : List V} {d : List PyData} (m : H p = none) (h : Dts N H v d) : Dts (p :: N) H v d := h.mono fun a o n e => ⟨fun z => by
  rcases List.mem_cons.mp z with y | y
  · rw [y, m] at e; cases e
  · exact n y, e⟩
theorem Dt.weak {N : List Addr} {H : Hp} {p : Addr} {v : V} {d : PyData} (h : Dt (p :: N) H v d) : Dt N H v d := h.mono fun a o n e => ⟨fun z => n (List.mem_cons_of_mem _ z), e⟩
theorem Dts.weak {N : List Addr} {H : Hp} {p : Addr} {v : List V} {d : List PyData} (h : Dts (p :: N) H v d) : Dts N H v d := h.mono fun a o n e => ⟨fun z => n (List.mem_cons_of_mem _ z), e⟩
theorem Dts.length {N : List Addr} {H : Hp} : ∀ {vs : List V} {ds : List PyData}, Dts N H vs ds → vs.length = ds.length
  | _, _, .nil => rfl
  | _, _, .cons _ t => congrArg Nat.succ t.length
theorem Dts.get {N : List Addr} {H : Hp} : ∀ {vs : List V} {ds : List PyData} {i : Nat} {v : V}, Dts N H vs ds → vs[i]? = some v → ∃ d, ds[i]? = some d ∧ Dt N H v d
  | _, _, _, _, .nil, h => by simp at h
  | _, _, 0, _, .cons x _, h => by
    have e := Option.some.inj h
    subst e
    exact ⟨_, rfl, x⟩
  | _, _, i + 1, _, .cons _ t, h => t.get (i := i) h
theorem Dts.at {N : List Addr} {H : Hp} : ∀ {vs : List V} {ds : List PyData} {i : Nat} {d : PyData}, Dts N H vs ds → ds[i]? = some d → ∃ v, vs[i]? = some v ∧ Dt N H v d
  | _, _, _, _, .nil, h => by simp at h
  | _, _, 0, _, .cons x _, h => by
    have e := Option.some.inj h
    subst e
    exact ⟨_, rfl, x⟩
  | _, _, i + 1, _, .cons _ t, h => t.at (i := i) h
theorem Dts.app {N : List Addr} {H : Hp} : ∀ {vs ws : List V} {ds es : List PyData}, Dts N H vs ds → Dts N H ws es → Dts N H (vs ++ ws) (ds ++ es)
  | _, _, _, _, .nil, h => h
  | _, _, _, _, .cons x t, h => .cons x (t.app h)
theorem Dts.snoc {N : List Addr} {H : Hp} {vs : List V} {ds : List PyData} {v : V} {d : PyData} (h : Dts N H vs ds) (x : Dt N H v d) : Dts N H (vs ++ [v]) (ds ++ [d]) := h.app (.cons x .nil)
theorem Dts.ints {N : List Addr} {H : Hp} : ∀ xs : List Int, Dts N H (xs.map V.int) (xs.map PyData.int)
  | [] => .nil
  | x :: r => .cons (.int x) (Dts.ints r)
theorem Dt.isL {N : List Addr} {H : Hp} {v : V} {ds : List PyData} (h : Dt N H v (.list ds)) : ∃ p vs, v = .ref p ∧ p ∉ N ∧ H p = some (.lst vs) ∧ Dts N H vs ds := by
  cases h with
  | lst n e t => exact ⟨_, _, rfl, n, e, t⟩
theorem Dt.isT {N : List Addr} {H : Hp} {v : V} {ds : List PyData} (h : Dt N H v (.tuple ds)) : ∃ p vs, v = .ref p ∧ p ∉ N ∧ H p = some (.tup vs) ∧ Dts N H vs ds := by
  cases h with
  | tup n e t => exact ⟨_, _, rfl, n, e, t⟩
theorem Dt.isS {N : List Addr} {H : Hp} {v : V} {x : Str} (h : Dt N H v (.str x)) : v = .str x := by cases h; rfl
theorem Dt.isI {N : List Addr} {H : Hp} {v : V} {x : Int} (h : Dt N H v (.int x)) : v = .int x := by cases h; rfl
theorem Dts.two {N : List Addr} {H : Hp} {vs : List V} {d e : PyData} (h : Dts N H vs [d, e]) : ∃ v w, vs = [v, w] ∧ Dt N H v d ∧ Dt N H w e := by
  cases h with
  | cons x t => cases t with
    | cons y t => cases t; exact ⟨_, _, rfl, x, y⟩
theorem Dts.three {N : List Addr} {H : Hp} {vs : List V} {d e f : PyData} (h : Dts N H vs [d, e, f]) : ∃ v w x, vs = [v, w, x] ∧ Dt N H v d ∧ Dt N H w e ∧ Dt N H x f := by
  cases h with
  | cons x t => cases t with
    | cons y t => cases t with
      | cons z t => cases t; exact ⟨_, _, _, rfl, x, y, z⟩
theorem Dts.isInts {N : List Addr} {H : Hp} : ∀ {xs : List Int} {vs : List V}, Dts N H vs (xs.map PyData.int) → vs = xs.map V.int
  | [], _, .nil => rfl
  | x :: r, _, .cons h t => by
    rw [h.isI, Dts.isInts t]
    rfl
/-- a pair of a text and something -/
theorem Dt.isP {N : List Addr} {H : Hp} {v : V} {x : Str} {d : PyData} (h : Dt N H v (.tuple [.str x, d])) : ∃ p w, v = .ref p ∧ p ∉ N ∧ H p = some (.tup [.str x, w]) ∧ Dt N H w d := by
  obtain ⟨p, vs, e, n, hp, t⟩ := h.isT
  obtain ⟨v', w, e2, h1, h2⟩ := t.two
  rw [h1.isS] at e2
  subst e2
  exact ⟨p, w, e, n, hp, h2⟩
theorem Dt.nilN {N : List Addr} {H : Hp} {v : V} {d : PyData} (h : Dt N H v d) : Dt [] H v d := h.mono fun a o _ e => ⟨(fun z => by cases z), e⟩
theorem Dts.nilN {N : List Addr} {H : Hp} {v : List V} {d : List PyData} (h : Dts N H v d) : Dts [] H v d := h.mono fun a o _ e => ⟨(fun z => by cases z), e⟩
/-- a list under work at D holds these data; its parts stand away from D and N -/
def Bl (N : List Addr) (D : Addr) (H : Hp) (ds : List PyData) : Prop := ∃ vs, H D = some (.lst vs) ∧ Dts (D :: N) H vs ds
theorem Bl.nil {N : List Addr} {D : Addr} {H : Hp} : Bl N D (upd H D (.lst [])) [] := ⟨[], upd_same, .nil⟩
theorem Bl.fr {N : List Addr} {D st : Addr} {H H' : Hp} {ds : List PyData} (h : Bl N D H ds) (n : D ≠ st) (m : st ∈ N) (f : Fr st H H') : Bl N D H' ds := by
  obtain ⟨vs, e, t⟩ := h
  exact ⟨vs, f _ _ e n, t.fr f (List.mem_cons_of_mem _ m)⟩
theorem Bl.same {N : List Addr} {D : Addr} {H H' : Hp} {ds : List PyData} (h : Bl N D H ds) (f : Same H H') : Bl N D H' ds := by
  obtain ⟨vs, e, t⟩ := h
  exact ⟨vs, f _ _ e, t.same f⟩
theorem Bl.push {N : List Addr} {D : Addr} {H : Hp} {ds : List PyData} {vs : List V} {v : V} {d : PyData} (e : H D = some (.lst vs)) (t : Dts (D :: N) H vs ds) (x : Dt (D :: N) H v d) : Bl N D (upd H D (.lst (vs ++ [v]))) (ds ++ [d]) :=
  ⟨_, upd_same, (t.snoc x).upd (List.mem_cons_self ..)⟩
theorem Bl.done {N : List Addr} {D : Addr} {H : Hp} {ds : List PyData} (h : Bl N D H ds) (n : D ∉ N) : Dt N H (.ref D) (.list ds) := by
  obtain ⟨vs, e, t⟩ := h
  exact .lst n e t.weak
theorem not_in1 {a b : Addr} (h : a ≠ b) : a ∉ [b] := fun z => h (List.mem_singleton.mp z)
theorem not_in2 {a b c : Addr} (h : a ≠ b) (g : a ≠ c) : a ∉ [b, c] := fun z => by
  rcases List.mem_cons.mp z with y | y
  · exact h y
  · exact g (List.mem_singleton.mp y)
theorem in1 {a : Addr} : a ∈ [a] := List.mem_cons_self ..
theorem in2 {a b : Addr} : b ∈ [a, b] := List.mem_cons_of_mem _ (List.mem_cons_self ..)
/-- the list at D grows by what was new -/
theorem fr_app {st : Addr} {H0 H : Hp} {D : Addr} {o : HO} (f : Fr st H0 H) (h : H0 D = none) : Fr st H0 (upd H D o) := f.set h

theorem pickS {xs : List Str} {d : Int} (h0 : 0 ≤ d) (h1 : d < xs.length) : ∃ z, atI (xs.map V.str) d = some (.str z) ∧ z ∈ xs := by
  have hj : d.toNat < xs.length := by omega
  refine ⟨xs[d.toNat], at_of (j := d.toNat) (by omega) ?_, List.getElem_mem hj⟩
  rw [List.getElem?_map, List.getElem?_eq_getElem hj]
  rfl
def WIDE3 : List Str := ["bit", "small", "wide"]
def MEAS3 : List Str := ["square", "dot", "bits"]
def KIND3 : List Str := ["integer", "text", "flag"]
def NAME4 : List Str := ["a", "b", "note", "_x"]
def fdD (f : Str × Str) : PyData := .tuple [.str f.1, .str f.2]
structure FieldsOk (fs : List (Str × Str)) : Prop where
  len : fs.length ≤ 3
  names : fs.map (·.1) = NAME4.take fs.length
  kinds : ∀ f ∈ fs, f.2 ∈ KIND3
theorem FieldsOk.snoc {fs : List (Str × Str)} {n k : Str} (h1 : fs.length < 3) (h2 : fs.map (·.1) = NAME4.take fs.length) (h3 : ∀ f ∈ fs, f.2 ∈ KIND3) (hn : NAME4[fs.length]? = some n) (hk : k ∈ KIND3) : FieldsOk (fs ++ [(n, k)]) := by
  refine ⟨by simp; omega, ?_, fun f hf => ?_⟩
  · rw [List.map_append, h2, List.length_append, List.length_singleton, List.take_add_one, hn]
    rfl
  · rcases List.mem_append.mp hf with h | h
    · exact h3 f h
    · rw [List.mem_singleton] at h
      subst h
      exact hk
theorem wide3 {w : Str} (h : w ∈ WIDE3) : ∃ (j : Nat) (lo hi : Int), [V.str "bit", V.str "small", V.str "wide"][j]? = some (.str w) ∧ eqV (.str w) (.str w) = true ∧ (∀ (m : Nat) (z' : V), m < j → [V.str "bit", V.str "small", V.str "wide"][m]? = some z' → eqV z' (.str w) = false)
    ∧ [V.int 0, V.int (-128), V.int (-32768)][j]? = some (.int lo) ∧ [V.int 1, V.int 127, V.int 32767][j]? = some (.int hi) ∧ -32768 ≤ lo ∧ lo ≤ 0 ∧ 1 ≤ hi ∧ hi ≤ 32767 := by
  unfold WIDE3 at h
  simp only [List.mem_cons, List.not_mem_nil, or_false] at h
  rcases h with rfl | rfl | rfl
  · exact ⟨0, _, _, rfl, by decide +kernel, fun m z' hm _ => absurd hm (Nat.not_lt_zero _), rfl, rfl, by decide, by decide, by decide, by decide⟩
  · refine ⟨1, _, _, rfl, by decide +kernel, fun m z' hm e => ?_, rfl, rfl, by decide, by decide, by decide, by decide⟩
    have : m = 0 := by omega
    subst this
    cases Option.some.inj e
    decide +kernel
  · refine ⟨2, _, _, rfl, by decide +kernel, fun m z' hm e => ?_, rfl, rfl, by decide, by decide, by decide, by decide⟩
    have : m = 0 ∨ m = 1 := by omega
    rcases this with rfl | rfl
    · cases Option.some.inj e
      decide +kernel
    · cases Option.some.inj e
      decide +kernel
/-- values of a field -/
def prD (p : Str × PyData) : PyData := .tuple [.str p.1, p.2]
def IsVal (d : PyData) : Prop := (∃ i, d = .int i) ∨ (∃ z, d = .str z ∧ PyData.strOk z = true ∧ z.length ≤ 8) ∨ ∃ b, d = .bool b
structure PairsOk (ps : List (Str × PyData)) : Prop where
  len : ps.length ≤ 8
  names : ∀ p ∈ ps, PyData.strOk p.1 = true ∧ p.1.length ≤ 8
  vals : ∀ p ∈ ps, IsVal p.2
def wdD (w : Str × Int) : PyData := .tuple [.str w.1, .int w.2]
structure WordsOk (ws : List (Str × Int)) : Prop where
  len : ws.length ≤ 8
  words : ∀ w ∈ ws, PyData.strOk w.1 = true ∧ w.1.length ≤ 8

theorem kit_self {K : PySem.W.Frag} {C : Addr} : PySem.W.kitOne K (.ref C) (.ref C) = some true := by
  unfold PySem.W.kitOne
  rw [if_pos (by simp)]
theorem kit_sub {K : PySem.W.Frag} {t : Value} {C : Addr} {v : Bool} (h1 : PySem.W.isClsIn K C = true) (h2 : PySem.W.typeIn K (.ref C) = some (.type "type")) (h3 : PySem.W.subIn K t (.ref C) = some v) (h4 : (t == .ref C) = false) : PySem.W.kitOne K t (.ref C) = some v := by
  unfold PySem.W.kitOne
  rw [h4, if_neg Bool.false_ne_true]
  unfold PySem.W.kitCls
  have h1' : (PySem.W.clsIn K C).isSome = true := h1
  simp only [h1', h2, Bool.true_and]
  simp [h3]
theorem nf_self {K : PySem.W.Frag} {C : Addr} : PySem.W.notFirst K C (.ref C) = true := by simp [PySem.W.notFirst]
theorem nf_sub {K : PySem.W.Frag} {C : Addr} {t : Value} (h : PySem.W.subIn K t (.ref C) = some false) : PySem.W.notFirst K C t = true := by simp [PySem.W.notFirst, h]
/-- x == y, x an instance of a class with an own ==, y anything -/
def rOwnEq (K : PySem.W.Frag) (C : Addr) (sp : Sp) (E : XK) : R2 := fun x y H Q => ∃ a dx fs t, x = .ref a ∧ H a = some (.ins C dx fs) ∧ TyX K H y t ∧ PySem.W.notFirst K C t = true ∧ sp [x, y] H (fun z H' => ∃ b, z = .bl b ∧ Q z H') E
theorem op_ownEq {X : Cx} {CX : CXT} {C f : Addr} {fd : FuncData} {ps : List Str} {sp : Sp} {n : Nat} {E : XK} (M : Meth X.K C "__eq__" f) (F : FnOk X.prog X.w X.K X.mg X.base CX n f fd ps sp) (hr : Room n X.A)
    (hb : Binds X.K fd ps []) (hx : Passes CX X E) : OpR X (compareOp .Eq) (rOwnEq X.K C sp E) := by
  intro pins s σ H x y v u Q I rx ry h
  obtain ⟨a, dx, fs, t, rfl, ha, ty, hn, q⟩ := h
  cases (show v = Value.ref a from rx)
  obtain ⟨mA, J, _⟩ := ins_get I.hok ha
  obtain ⟨od, J, _⟩ := J.look
  obtain ⟨P, Z, p, _⟩ := kit_of I ry ty
  obtain ⟨m, hF⟩ := I.fr
  show wpAny (model X.prog X.w) X.A (richCompare .Eq (.ref a) u) _ _ _
  refine PySem.W.cmp_K (op := .Eq) (tb := t) hr.units0 hF I.ok.mod.kin J (Z.ty _ _ I.kIn p) hn M.at_ M.fn ?_
  refine wpAny_mono (run_fn (Q := fun z H' => ∃ b, z = .bl b ∧ Q z H') (us := [.ref a, u]) (vs := [.ref a, y]) F hr hb .nil hx I (.cons rfl (.cons ry .nil)) (by simpa using q)) (fun w s' z => ?_) fun _ _ x => x
  obtain ⟨z', H', I', rz, b, ez, qz⟩ := z
  subst ez
  cases (show w = Value.bool b from rz)
  exact ⟨.bl b, H', I', rfl, qz⟩

theorem pi_tupB {X : Cx} {K : PySem.W.Frag} (hK : X.K = K) {tg l : Expr} {tl : TE} (hl : PE X l tl) : PI X tg l (iTup K tl) := by
  subst hK
  exact pi_tup hl
theorem pi_listB {X : Cx} {K : PySem.W.Frag} (hK : X.K = K) {tg l : Expr} {tl : TE} (hl : PE X l tl) : PI X tg l (iList K tl) := by
  subst hK
  exact pi_list hl
def rLenB (K : PySem.W.Frag) : List V → Hp → VK → Prop := fun xs H Q => ∃ p ys, xs = [.ref p] ∧ (SqL K H p ys ∨ SqT K H p ys) ∧ Q (.int ys.length) H
def rListB (K : PySem.W.Frag) : List V → Hp → VK → Prop := fun xs H Q => ∃ p ys, xs = [.ref p] ∧ (SqL K H p ys ∨ SqT K H p ys) ∧ ∀ l, H l = none → Q (.ref l) (upd H l (.lst ys))
def rTupleB (K : PySem.W.Frag) : List V → Hp → VK → Prop := fun xs H Q => ∃ p ys, xs = [.ref p] ∧ ((SqL K H p ys ∧ ∀ l, H l = none → Q (.ref l) (upd H l (.tup ys))) ∨ (SqT K H p ys ∧ Q (.ref p) H))

def addS (l : List Str) (v : Str) : List Str := if l.any (· == v) then l else l ++ [v]
def uS (xs : List Str) : List Str := xs.foldl addS []
theorem addS_any (l : List Str) (v k : Str) : (addS l v).any (· == k) = (l.any (· == k) || decide (k = v)) := by
  unfold addS
  by_cases g : l.any (· == v) = true
  · rw [if_pos g]
    by_cases e : k = v
    · subst e
      rw [g]
      rfl
    · rw [decide_eq_false e, Bool.or_false]
  · rw [if_neg g, List.any_append]
    congr 1
    by_cases e : k = v
    · subst e
      simp
    · rw [decide_eq_false e]
      simpa using fun z : v = k => e z.symm
theorem addS_len (l : List Str) (v : Str) : (addS l v).length = if l.any (· == v) then l.length else l.length + 1 := by
  unfold addS
  by_cases g : l.any (· == v) = true
  · rw [if_pos g, if_pos g]
  · rw [if_neg g, if_neg g, List.length_append]
    rfl
theorem uS_succ {xs : List Str} {i : Nat} {v : Str} (h : xs[i]? = some v) : uS (xs.take (i + 1)) = addS (uS (xs.take i)) v := by
  unfold uS
  rw [List.take_add_one, h, List.foldl_append]
  rfl
theorem uS_fold : ∀ (xs acc : List Str), (xs.foldl addS acc).length ≤ acc.length + xs.length ∧ ((xs.foldl addS acc).length = acc.length + xs.length ↔ (∀ x ∈ xs, x ∉ acc) ∧ xs.Nodup)
  | [], acc => ⟨Nat.le_refl _, fun _ => ⟨fun x h => (nomatch h), List.nodup_nil⟩, fun _ => rfl⟩
  | x :: r, acc => by
    have ih := uS_fold r (addS acc x)
    show (r.foldl addS (addS acc x)).length ≤ _ ∧ ((r.foldl addS (addS acc x)).length = _ ↔ _)
    rw [List.length_cons]
    by_cases g : x ∈ acc
    · have e : addS acc x = acc := by
        unfold addS
        have z : (acc.any (· == x)) = true := List.any_eq_true.mpr ⟨x, g, beq_self_eq_true x⟩
        rw [if_pos z]
      rw [e] at ih ⊢
      refine ⟨by omega, fun h => by omega, fun h => absurd g (h.1 x (List.mem_cons_self ..))⟩
    · have e : addS acc x = acc ++ [x] := by
        unfold addS
        rw [if_neg]
        intro h
        obtain ⟨y, h1, h2⟩ := List.any_eq_true.mp h
        rw [eq_of_beq h2] at h1
        exact g h1
      rw [e] at ih ⊢
      rw [List.length_append, List.length_singleton] at ih
      refine ⟨by omega, fun h => ?_, fun h => ?_⟩
      · obtain ⟨a, b⟩ := ih.2.mp (by omega)
        refine ⟨fun y hy => ?_, List.nodup_cons.mpr ⟨fun hx => a x hx (List.mem_append_right _ (List.mem_singleton.mpr rfl)), b⟩⟩
        rcases List.mem_cons.mp hy with z | z
        · rw [z]; exact g
        · exact fun w => a y z (List.mem_append_left _ w)
      · have b := List.nodup_cons.mp h.2
        have := ih.2.mpr ⟨fun y hy w => ?_, b.2⟩
        · omega
        · rcases List.mem_append.mp w with z | z
          · exact h.1 y (List.mem_cons_of_mem _ hy) z
          · rw [List.mem_singleton.mp z] at hy
            exact b.1 hy
theorem uS_le (xs : List Str) : (uS xs).length ≤ xs.length := by
  have := (uS_fold xs []).1
  rw [List.length_nil, Nat.zero_add] at this
  exact this
theorem uS_nodup (xs : List Str) : (uS xs).length = xs.length ↔ xs.Nodup := by
  have := (uS_fold xs []).2
  unfold uS
  simp only [List.length_nil, Nat.zero_add] at this
  rw [this]
  exact ⟨fun h => h.2, fun h => ⟨fun x _ z => (nomatch z), h⟩⟩
section
variable {prog : Program} {w : World} {A : Around} {E : Value → Shared → Prop} {s : Shared}
/-- the set's own loop: the items enter one by one -/
theorem enter_texts {R : Result → Shared → Prop} {it : Addr} {own wr : List Addr} {G : Array GenState → Array GenState → Prop} {m : Nat} {P : Nat → Value → Prop} {St : Nat → Shared → Prop} (W : WalksS prog w A.in1 it own wr G m P St) (Z : Addr) (zo : Z ∉ own)
    (xs : List Str) (lx : xs.length = m) (room : m + 1 < scanBound) (isT : ∀ j v, P j v → ∃ t, v = .str (xs.getD j Str.empty) t) (left j : Nat) (t : Shared) (hj : m - j = left) (jm : j ≤ m) (at_ : St j t)
    (held : t.heap.SetOf (PySem.strKind prog w) Z (fun c => (uS (xs.take j)).any (· == c)) (uS (xs.take j)).length)
    (fin : ∀ u, Moved (Z :: wr) G t u → u.heap.SetOf (PySem.strKind prog w) Z (fun c => (uS (xs.take m)).any (· == c)) (uS (xs.take m)).length → R (.ok (.ret .none)) u) :
    codeAny (model prog w) A (.builtin "set.update.loop" ⟨[.ref Z, .ref it], []⟩) R t := by
  have zw : Z ∉ wr := fun b => zo (W.sub _ b)
  have inw : ∀ b ∈ wr, b ∈ Z :: wr := fun b g => List.mem_cons_of_mem _ g
  induction left generalizing j t with
  | zero =>
    obtain rfl : j = m := by omega
    refine codeAny_builtin (PyProof.Rows.F.entry_set_update_loop) ?_
    rw [Around.under_plainId (PyProof.Rows.F.plain_set_update_loop) _]
    show wpAny _ A.in1 (pyNext (.ref it) >>= _) _ _ t
    refine wpAny_bind (W.done t _ _ at_ fun u mv => ?_)
    show wpAny _ A.in1 (ret Value.none) _ _ u
    refine wpAny_pure (fin u (mv.mono inw) ?_)
    obtain ⟨ob, es, ep, tb, g, more⟩ := held
    exact ⟨ob, es, ep, tb, mv.heap Z _ zw g, more⟩
  | succ left ih =>
    have lt : j < m := by omega
    refine codeAny_builtin (PyProof.Rows.F.entry_set_update_loop) ?_
    rw [Around.under_plainId (PyProof.Rows.F.plain_set_update_loop) _]
    show wpAny _ A.in1 (pyNext (.ref it) >>= _) _ _ t
    refine wpAny_bind (W.item j t _ _ lt at_ fun v u pv at2 mv => ?_)
    obtain ⟨tk, rfl⟩ := isT j v pv
    have held2 : u.heap.SetOf (PySem.strKind prog w) Z (fun c => (uS (xs.take j)).any (· == c)) (uS (xs.take j)).length := by
      obtain ⟨ob, es, ep, tb, g, more⟩ := held
      exact ⟨ob, es, ep, tb, mv.heap Z _ zw g, more⟩
    show wpAny _ A.in1 (holding [Value.str (xs.getD j Str.empty) tk] (setAdd Z (.str (xs.getD j Str.empty) tk)) >>= _) _ _ u
    refine wpAny_bind (wpAny_holding ?_)
    unfold setAdd
    refine wpAny_holding (wpAny_bind ((PySem.strKind prog w).pyHash (k := xs.getD j Str.empty) (strKind_is _ _ _ _) ?_))
    have few : (uS (xs.take j)).length + 1 < scanBound := by
      have a := uS_le (xs.take j)
      have b : (xs.take j).length ≤ m := by rw [List.length_take]; omega
      omega
    refine wpAny_setAddHashed_of (knd := PySem.strKind prog w) (s := { u with toks := u.toks + 1 }) (strKind_is _ _ _ _) rfl held2 few fun h2 but held3 => ?_
    have gx : xs[j]? = some (xs.getD j Str.empty) := by
      rw [List.getD_eq_getElem?_getD, List.getElem?_eq_getElem (by omega)]
      rfl
    have held4 : h2.SetOf (PySem.strKind prog w) Z (fun c => (uS (xs.take (j + 1))).any (· == c)) (uS (xs.take (j + 1))).length := by
      rw [uS_succ gx]
      exact PyProof.Rows.SetOf_congr held3 (fun c => (addS_any _ _ c).symm) (addS_len _ _).symm
    refine wpAny_pure ⟨plainId_quiet (PyProof.Rows.F.plain_set_update_loop) _, ih (j + 1) _ (by omega) lt (W.frame _ u _ _ at2 (Nat.le_succ _) fun b g ob e => ?_) held4 fun u2 mv2 held5 => ?_⟩
    · rw [but.2 b (fun y : b = Z => zo (by rw [← y]; exact g))]
      exact e
    · refine fin u2 (Moved.trans W.gtrans ((mv.mono inw).then_heap (Nat.le_succ _) fun b ob g e => ?_) mv2) held5
      rw [but.2 b (fun y : b = Z => g (by rw [y]; exact List.mem_cons_self))]
      exact e
set_option maxHeartbeats 6400000 in
theorem made_of_texts {l : Addr} {its : Array Value} {xs : List Str} {Q : Value → Shared → Prop} (calm : A.handled = none) (gl : s.heap.IsList l its) (are : PyProof.Rows.StrsAre its.toList xs) (room : xs.length + 1 < scanBound)
    (q : ∀ (h2 : Heap) (tk : Nat), h2.SetOf (PySem.strKind prog w) s.heap.objs.size (fun c => (uS xs).any (· == c)) (uS xs).length → (∀ b ob, b < s.heap.objs.size → s.heap.get? b = some ob → h2.get? b = some ob) → Q (.ref s.heap.objs.size) { s with heap := h2, toks := tk }) :
    wpAny (model prog w) A (call (.type "set") [.ref l]) Q E s := by
  have k1 := PySem.F.called_set.made
  have k2 := PySem.F.called_set.sub
  obtain ⟨cc, tl, k3⟩ := PySem.F.called_set.mro
  refine wpAny_call (codeAny_of_tree ?_)
  show wpAny _ _ (callAny (.type "set") _) _ _ _
  refine wpAny_pure ⟨Code.quiet_builtin _ (by decide +kernel), codeAny_builtin (PySem.F.entry_type_call) ?_⟩
  rw [Around.under_plain (weight_type_call_type "set" [.ref l] []) (rfl)]
  have k4 := PySem.F.called_set.notType
  have k5 := PySem.F.called_set.canCreate
  have k6 := PySem.F.typeCall_set_1 (.ref l)
  repeat (any_goals (first | assumption | (wp_step)))
  refine codeAny_mono (code_set_new_1 (.ref l) (E := E) (Q₁ := fun o u => ∃ b : Bool, o = .ref s.heap.objs.size ∧ u = { s with heap := s.heap.push { cls := .type "set", dict := none, data := .set #[] 0 (.fresh 0 0 b) } }) fun b => ⟨b, rfl, rfl⟩) fun r u ru => ?_
  cases r with
  | error e => exact ru
  | ok f1 =>
    cases f1 with
    | ret o =>
      obtain ⟨b, rfl, rfl⟩ := ru
      have gS : (s.heap.push { cls := .type "set", dict := none, data := .set #[] 0 (.fresh 0 0 b) }).get? s.heap.objs.size = some { cls := .type "set", dict := none, data := .set #[] 0 (.fresh 0 0 b) } := Heap.get?_push_size _ (rfl)
      have tS : Shared.TypeIs { s with heap := s.heap.push { cls := .type "set", dict := none, data := .set #[] 0 (.fresh 0 0 b) } } (.ref s.heap.objs.size) "set" := ⟨_, gS, (rfl)⟩
      have k7 := PySem.F.called_set.init.lookup
      have k8 := PySem.F.called_set.init.bind (.ref s.heap.objs.size)
      repeat (any_goals (first | assumption | (wp_step)))
      refine codeAny_mono (codeAny_call_builtin (R := wants (fun o u => o = .none ∧ ∃ h2 tk, u = { s with heap := h2, toks := tk } ∧ h2.SetOf (PySem.strKind prog w) s.heap.objs.size (fun c => (uS xs).any (· == c)) (uS xs).length ∧
          (∀ a ob, a < s.heap.objs.size → s.heap.get? a = some ob → h2.get? a = some ob)) E) (PySem.F.called_set.init.plain) (PySem.F.entry_set_init) (check_set_init_1 tS ?_)) fun r2 u2 ru2 => ?_
      · obtain ⟨⟨c1, d1, e1, f1⟩, ol, ec, nl, ed⟩ := gl
        simp only at ec ed
        subst ec ed
        have ol2 : (s.heap.push { cls := .type "set", dict := none, data := .set #[] 0 (.fresh 0 0 b) }).get? l = some ⟨.type "list", d1, .seq its nl, f1⟩ := Heap.get?_push_of_some _ (ol)
        have k9 := PySem.F.sub_list_set
        have ka := PySem.F.sub_list_frozenset
        have kb : (Value.type "list" == Value.type "dict") = false := by (decide)
        have il : (s.heap.push { cls := .type "set", dict := none, data := .set #[] 0 (.fresh 0 0 b) }).IsList l its := ⟨_, ol2, rfl, nl, (rfl)⟩
        unfold Builtin.«set.__init__» Builtin.Frozenset.updateFrom noKeywords
        generalize ePI : pyIter = PI
        wp_walk
        subst ePI
        refine wpAny_pyIter_list il (wpAny_bind (wpAny_runValue ?_))
        have ll : l < s.heap.objs.size := Heap.lt_size ol
        have calm3 : A.in1.in1.in1.handled = none := by (simp [calm])
        have ne1 : l ≠ (s.heap.push { cls := .type "set", dict := none, data := .set #[] 0 (.fresh 0 0 b) }).objs.size := by
          rw [Heap.size_push]
          exact Nat.ne_of_lt (Nat.lt_succ_of_lt ll)
        have nin : s.heap.objs.size ∉ [(s.heap.push { cls := .type "set", dict := none, data := .set #[] 0 (.fresh 0 0 b) }).objs.size, l] := by
          rw [Heap.size_push]
          intro z
          rcases List.mem_cons.mp z with y | y
          · exact absurd y (Nat.ne_of_lt (Nat.lt_succ_self _))
          · exact absurd (List.mem_singleton.mp y) (Nat.ne_of_gt ll)
        have lx : xs.length = its.size := by rw [← StrsAre.len_eq are, Array.length_toList]
        have isT : ∀ (j : Nat) (v : Value), its[j]? = some v → ∃ t, v = .str (xs.getD j Str.empty) t := fun j v gv => SS.strs_at are j v (by rw [Array.getElem?_toList]; exact (gv))
        refine enter_texts ((Walks.list calm3 _ l ne1 its).toS) s.heap.objs.size nin xs lx (by rw [← lx]; exact room) isT (its.size - 0) 0 _ (by omega) (Nat.zero_le _) ⟨⟨_, Heap.get?_push_size _ rfl, rfl, rfl⟩, (il.push _)⟩ ?start ?stop
        case start =>
          have g0 : ((s.heap.push { cls := .type "set", dict := none, data := .set #[] 0 (.fresh 0 0 b) }).push { cls := .type "list_iterator", data := .fields #[.ref l, .int 0 0] }).get? s.heap.objs.size = some { cls := .type "set", dict := none, data := .set #[] 0 (.fresh 0 0 b) } := Heap.get?_push_of_some _ (gS)
          exact PyProof.Rows.SetOf_congr ((PyProof.Rows.setObjOf_fresh (knd := PySem.strKind prog w) b).setOf g0 (by unfold scanBound; omega)) (fun _ => by rw [List.take_zero]; rfl) (by rw [List.take_zero]; rfl)
        case stop =>
          intro u mv held
          obtain ⟨h2, g2, d2, t2, o2⟩ := u
          obtain rfl : g2 = s.gens := mv.gens
          obtain rfl : d2 = s.drawn := mv.drawn
          obtain rfl : o2 = s.os := mv.os
          rw [← lx, List.take_length] at held
          show wpAny _ _ _ _ _ _
          refine wpAny_pure ?_
          show wpAny _ _ (ret Value.none) _ _ _
          refine wpAny_pure ⟨rfl, h2, t2, rfl, held, fun a ob la e => ?_⟩
          refine mv.heap a ob (fun z => ?_) (Heap.get?_push_of_some _ (Heap.get?_push_of_some _ (e)))
          rw [Heap.size_push] at z
          rcases List.mem_cons.mp z with y | y
          · exact absurd y (Nat.ne_of_lt la)
          · exact absurd (List.mem_singleton.mp y) (Nat.ne_of_lt (Nat.lt_succ_of_lt la))
      · cases r2 with
        | error e => exact ru2
        | ok f2 =>
          cases f2 with
          | ret o =>
            obtain ⟨rfl, h2, t2, rfl, held, more⟩ := ru2
            repeat (any_goals (first | assumption | (wp_step)))
            exact q _ _ held (more)
          | _ => exact (ru2.elim)
    | _ => exact (ru.elim)
end
/-- len(set(xs)), xs a list of texts -/
def tLenSetT (K : PySem.W.Frag) (ta : TE) : TE := fun σ H Q => ta σ H fun x H1 => ∃ l, ∃ xs : List Str, x = .ref l ∧ SqL K H1 l (xs.map V.str) ∧ xs.length ≤ 1000 ∧ Q (.int (uS xs).length) H1
theorem pe_lenSetT {X : Cx} {a : Expr} {ta : TE} {p p2 q pos : Pos} (hc : X.calm = true) (hg : Gl X "len") (hm : X.mg "len" = none) (hg2 : Gl X "set") (hm2 : X.mg "set" = none) (ha : PE X a ta)
    (na : starEach [a] X.env = (false, eval a X.env) :: starEach [] X.env := by rfl) : PE X (.Call (.Name "len" p) [.Call (.Name "set" p2) [a] [] q] [] pos) (tLenSetT X.K ta) := by
  refine ⟨fun pins s σ H Q I g => Call_ (ld_blt I hg hm boot_len (PyProof.Rows.callWith_builtin1 (PyProof.Rows.args_cons ?_ rfl) rfl rfl))⟩
  refine Call_ (ld_blt I hg2 hm2 boot_set (PyProof.Rows.callWith_type1 (PyProof.Rows.args_cons (thn (ha.run pins s σ H _ I g) fun v s1 ⟨x, H1, I1, r1, q1⟩ => PyProof.Rows.args_nil ?_) na) na rfl))
  obtain ⟨l, xs, rfl, gl, few, q1⟩ := q1
  cases r1
  obtain ⟨its, r, pl, _⟩ := I1.list gl
  refine made_of_texts (I1.ok.hd hc) pl.isList (by simpa using L2.strsAre_of r) (by unfold scanBound; omega) fun h2 tk held more => PyProof.Rows.args_nil ?_
  obtain ⟨ob, es, ep, tb, g1, g2, g3, _, _, _, g4, g5⟩ := held
  have I2 : Inv X pins σ H1 { s1 with heap := h2, toks := tk } := I1.kept fun b o e => more b o (Heap.lt_size e) e
  have small := uS_le xs
  exact call_len_set g1 g2 g3 g4 (by rw [g5]; omega) ⟨.int (uS xs).length, H1, I2.tok _, ⟨_, by rw [g5]⟩, q1⟩

/-- x in y, x not in y, y an instance of a class with its own test -/
def rOwnIn (K : PySem.W.Frag) (C : Addr) (neg : Bool) (sp : Sp) (E : XK) : R2 := fun x y H Q => ∃ a dx fs, y = .ref a ∧ H a = some (.ins C dx fs) ∧ sp [y, x] H (fun z H' => ∃ b, z = .bl b ∧ Q (.bl (if neg then !b else b)) H') E
section
variable {X : Cx} {CX : CXT} {C f : Addr} {fd : FuncData} {ps : List Str} {sp : Sp} {n : Nat} {E : XK}
theorem op_ownIn (M : Meth X.K C "__contains__" f) (F : FnOk X.prog X.w X.K X.mg X.base CX n f fd ps sp) (hr : Room n X.A) (hb : Binds X.K fd ps []) (hx : Passes CX X E) : OpR X (compareOp .In) (rOwnIn X.K C false sp E) := by
  intro pins s σ H x y v u Q I rx ry g
  obtain ⟨a, dx, fs, rfl, ga, q⟩ := g
  cases (show u = Value.ref a from ry)
  obtain ⟨mA, J, _⟩ := ins_get I.hok ga
  obtain ⟨od, J, _⟩ := J.look
  obtain ⟨m, hF⟩ := I.fr
  refine PySem.W.in_K hF I.ok.mod.kin J M.at_ M.fn (wpAny_mono (run_fn (Q := fun z H' => ∃ b, z = .bl b ∧ Q (.bl b) H') (us := [.ref a, v]) (vs := [.ref a, x]) F hr hb .nil hx I (.cons rfl (.cons rx .nil)) (by simpa using q)) (fun w s' z => ?_) fun _ _ e => e)
  obtain ⟨z', H', I', rz, b, ez, qz⟩ := z
  subst ez
  cases (show w = Value.bool b from rz)
  exact wpAny_truthy_bool ⟨.bl b, H', I', rfl, qz⟩
theorem op_ownNotIn (M : Meth X.K C "__contains__" f) (F : FnOk X.prog X.w X.K X.mg X.base CX n f fd ps sp) (hr : Room n X.A) (hb : Binds X.K fd ps []) (hx : Passes CX X E) : OpR X (compareOp .NotIn) (rOwnIn X.K C true sp E) := by
  intro pins s σ H x y v u Q I rx ry g
  obtain ⟨a, dx, fs, rfl, ga, q⟩ := g
  cases (show u = Value.ref a from ry)
  obtain ⟨mA, J, _⟩ := ins_get I.hok ga
  obtain ⟨od, J, _⟩ := J.look
  obtain ⟨m, hF⟩ := I.fr
  refine PySem.W.notIn_K hF I.ok.mod.kin J M.at_ M.fn (wpAny_mono (run_fn (Q := fun z H' => ∃ b, z = .bl b ∧ Q (.bl (!b)) H') (us := [.ref a, v]) (vs := [.ref a, x]) F hr hb .nil hx I (.cons rfl (.cons rx .nil)) (by simpa using q)) (fun w s' z => ?_) fun _ _ e => e)
  obtain ⟨z', H', I', rz, b, ez, qz⟩ := z
  subst ez
  cases (show w = Value.bool b from rz)
  exact wpAny_truthy_bool ⟨.bl (!b), H', I', rfl, qz⟩
end

def isLet (c : Nat) : Bool := (!decide (c < 97) && !decide (122 < c)) || (!decide (c < 65) && !decide (90 < c)) || decide (c = 95)
def isDig (c : Nat) : Bool := !decide (c < 48) && !decide (57 < c)
def wordL : List Nat → Bool
  | [] => false
  | c :: r => isLet c && (c :: r).all fun x => isLet x || isDig x
def isWordS (z : Str) : Bool := wordL z.cps.toList
def RESV : List Str := ["every", "has", "in", "and", "or", "not", "true", "false"]
def fGood (f : Str × Str) : Prop := isWordS f.1 = true ∧ f.1 ∉ RESV ∧ f.2 ∈ KIND3
def fieldsGood (fs : List (Str × Str)) : Prop := (∀ f ∈ fs, fGood f) ∧ (fs.map (·.1)).Nodup
def vecGood (n : Int) (w m : Str) : Prop := 1 ≤ n ∧ w ∈ WIDE3 ∧ m ∈ MEAS3 ∧ ¬ (m = "bits" ∧ w ≠ "bit")
theorem inV_strs (z : Str) : ∀ xs : List Str, inV (.str z) (xs.map V.str) = decide (z ∈ xs)
  | [] => by simp [inV]
  | x :: r => by
    have ih := inV_strs z r
    unfold inV at ih ⊢
    rw [List.map_cons, List.any_cons, ih]
    by_cases e : z = x
    · subst e
      simp [eqV]
    · have : (x == z) = false := by simpa using fun h : x = z => e h.symm
      simp [eqV, this, e]
theorem flat_strsV (ys : List Str) : (ys.map V.str).all flatV = true := by
  rw [List.all_map]
  exact List.all_eq_true.mpr fun _ _ => rfl
theorem lt1 (a b : Nat) : decide (([a] : List Nat) < [b]) = decide (a < b) := by
  apply decide_eq_decide.mpr
  constructor
  · intro h
    rcases List.cons_lt_cons_iff.mp h with g | ⟨_, g⟩
    · exact g
    · exact absurd g (List.lt_irrefl _)
  · exact fun h => List.cons_lt_cons_iff.mpr (.inl h)
theorem le_lo (c a : Nat) {z : Str} (hz : z.cps.toList = [a]) : (!decide ((⟨#[c]⟩ : Str).cps.toList < z.cps.toList)) = !decide (c < a) := by
  rw [hz]
  exact congrArg not (lt1 c a)
theorem le_hi (c a : Nat) {z : Str} (hz : z.cps.toList = [a]) : (!decide (z.cps.toList < (⟨#[c]⟩ : Str).cps.toList)) = !decide (a < c) := by
  rw [hz]
  exact congrArg not (lt1 a c)
theorem one_cps (c : Nat) : (⟨#[c]⟩ : Str).cps.toList = [c] := rfl
theorem one_eq (c d : Nat) : decide (V.str (⟨#[c]⟩ : Str) = V.str (⟨#[d]⟩ : Str)) = decide (c = d) := by
  apply decide_eq_decide.mpr
  constructor
  · intro h
    have := V.str.inj h
    simpa using this
  · intro h
    rw [h]
theorem names_nodup {fs : List (Str × Str)} (ok : FieldsOk fs) : fieldsGood fs := by
  refine ⟨fun f hf => ⟨?_, ?_, ok.kinds f hf⟩, ?_⟩
  · have h : f.1 ∈ NAME4 := by
      have h1 : f.1 ∈ fs.map (·.1) := List.mem_map_of_mem hf
      rw [ok.names] at h1
      exact List.mem_of_mem_take h1
    generalize f.1 = z at h
    clear hf
    revert h z
    decide +kernel
  · have h : f.1 ∈ NAME4 := by
      have h1 : f.1 ∈ fs.map (·.1) := List.mem_map_of_mem hf
      rw [ok.names] at h1
      exact List.mem_of_mem_take h1
    generalize f.1 = z at h
    clear hf
    revert h z
    decide +kernel
  · rw [ok.names]
    have : NAME4.Nodup := by decide +kernel
    exact this.sublist (List.take_sublist _ _)
theorem ps_dead {X : Cx} {s : Stmt} : PS X s (fun _ _ _ => False) := ⟨fun _ _ _ _ _ _ h => h.elim⟩

theorem st_lst {H : Hp} {st sc : Addr} (hS : StAt H st sc) : ∃ xs, H st = some (.lst xs) := by
  obtain ⟨ns, k, x, h, _⟩ := hS
  exact ⟨_, h⟩
def loW (w : Str) : Int := if w = "bit" then 0 else if w = "small" then -128 else -32768
def hiW (w : Str) : Int := if w = "bit" then 1 else if w = "small" then 127 else 32767
theorem wide3b {w : Str} (h : w ∈ WIDE3) : ∃ (j : Nat), j < 3 ∧ [V.str "bit", V.str "small", V.str "wide"][j]? = some (.str w) ∧ eqV (.str w) (.str w) = true ∧ (∀ (m : Nat) (z' : V), m < j → [V.str "bit", V.str "small", V.str "wide"][m]? = some z' → eqV z' (.str w) = false)
    ∧ [V.int 0, V.int (-128), V.int (-32768)][j]? = some (.int (loW w)) ∧ [V.int 1, V.int 127, V.int 32767][j]? = some (.int (hiW w)) ∧ -32768 ≤ loW w ∧ loW w ≤ 0 ∧ 1 ≤ hiW w ∧ hiW w ≤ 32767 := by
  obtain ⟨j, lo, hi, g1, g2, g3, g4, g5, b1, b2, b3, b4⟩ := wide3 h
  have n1 : ¬ ("small" : Str) = "bit" := by decide +kernel
  have n2 : ¬ ("wide" : Str) = "bit" := by decide +kernel
  have n3 : ¬ ("wide" : Str) = "small" := by decide +kernel
  have l3 : j < 3 := (List.getElem?_eq_some_iff.mp g1).1
  have e : lo = loW w ∧ hi = hiW w := by
    unfold loW hiW
    have j3 : j = 0 ∨ j = 1 ∨ j = 2 := by omega
    rcases j3 with rfl | rfl | rfl
    · have e := V.str.inj (Option.some.inj g1)
      subst e
      exact ⟨(V.int.inj (Option.some.inj g4)).symm.trans (if_pos rfl).symm, (V.int.inj (Option.some.inj g5)).symm.trans (if_pos rfl).symm⟩
    · have e := V.str.inj (Option.some.inj g1)
      subst e
      rw [if_neg n1, if_neg n1, if_pos rfl, if_pos rfl]
      exact ⟨(V.int.inj (Option.some.inj g4)).symm, (V.int.inj (Option.some.inj g5)).symm⟩
    · have e := V.str.inj (Option.some.inj g1)
      subst e
      rw [if_neg n2, if_neg n2, if_neg n3, if_neg n3]
      exact ⟨(V.int.inj (Option.some.inj g4)).symm, (V.int.inj (Option.some.inj g5)).symm⟩
  obtain ⟨rfl, rfl⟩ := e
  exact ⟨j, l3, g1, g2, g3, g4, g5, b1, b2, b3, b4⟩
def inW (w : Str) (x : Int) : Bool := decide (loW w ≤ x) && decide (x ≤ hiW w)
def kindP : PyData → Str
  | .bool _ => "flag"
  | .int _ => "integer"
  | _ => "text"
def fitF : List (Str × PyData) → List (Str × Str) → Bool
  | [], _ => true
  | p :: r, fs => match fs.dropWhile (fun f => decide (¬ f.1 = p.1)) with
    | [] => false
    | f :: t => decide (f.2 = kindP p.2) && fitF r t
def wordsF : Str → List (Str × Int) → Bool
  | _, [] => true
  | last, w :: r => decide (last.cps.toList < w.1.cps.toList) && !decide (w.2 < 1) && wordsF w.1 r
def fitsB (n : Int) (w : Str) (fs : List (Str × Str)) (z : Str) (vec : List Int) (ps : List (Str × PyData)) (ws : List (Str × Int)) : Bool :=
  !decide (z = "") && (decide ((vec.length : Int) = n) && (vec.all (inW w) && (fitF ps fs && wordsF "" ws)))
theorem dropW_none {z : Str} : ∀ {l : List (Str × Str)}, (∀ f ∈ l, ¬ f.1 = z) → l.dropWhile (fun f => decide (¬ f.1 = z)) = []
  | [], _ => rfl
  | f :: r, h => by
    rw [List.dropWhile_cons, if_pos (decide_eq_true (h f (List.mem_cons_self ..)))]
    exact dropW_none fun g hg => h g (List.mem_cons_of_mem _ hg)
theorem dropW_at {z : Str} : ∀ {l : List (Str × Str)} {j : Nat} {f : Str × Str}, l[j]? = some f → f.1 = z → (∀ (i : Nat) (g : Str × Str), i < j → l[i]? = some g → ¬ g.1 = z) → l.dropWhile (fun f => decide (¬ f.1 = z)) = f :: l.drop (j + 1)
  | [], _, _, h, _, _ => by simp at h
  | g :: r, 0, f, h, e, _ => by
    have e2 := Option.some.inj h
    subst e2
    rw [List.dropWhile_cons, if_neg (by simpa using e)]
    rfl
  | g :: r, j + 1, f, h, e, a => by
    rw [List.dropWhile_cons, if_pos (decide_eq_true (a 0 g (Nat.succ_pos _) rfl))]
    exact dropW_at (l := r) (j := j) h e fun i g' hi hg => a (i + 1) g' (Nat.succ_lt_succ hi) hg
theorem layI : ∀ xs : List Int, PyData.canLayAll0 (xs.map PyData.int) = true ∧ PyData.depthAll (xs.map PyData.int) ≤ 1
  | [] => by simp [PyData.canLayAll0, PyData.depthAll]
  | x :: r => by
    have ih := layI r
    simp [PyData.canLayAll0, PyData.depthAll, PyData.canLay0, PyData.depth, ih.1]
    have := ih.2
    omega
theorem shapedI (xs : List Int) : SeqAt.shaped (.tuple (xs.map PyData.int)) = true := by
  obtain ⟨a, b⟩ := layI xs
  simp [SeqAt.shaped, PyData.canLay0, PyData.depth, a]
  omega
theorem eqvAI : ∀ xs : List Int, PyData.eqvAll (xs.map PyData.int) (xs.map PyData.int) = true
  | [] => by simp [PyData.eqvAll]
  | x :: r => by
    have ih := eqvAI r
    simp [PyData.eqvAll, PyData.eqv, ih]
theorem eqvI (xs : List Int) : PyData.eqv (.tuple (xs.map PyData.int)) (.tuple (xs.map PyData.int)) = true := eqvAI xs
theorem layW : ∀ {ws : List (Str × Int)}, (∀ w ∈ ws, PyData.strOk w.1 = true) → PyData.canLayAll0 (ws.map wdD) = true ∧ PyData.depthAll (ws.map wdD) ≤ 2
  | [], _ => by simp [PyData.canLayAll0, PyData.depthAll]
  | f :: r, h => by
    have ih := layW (ws := r) fun g hg => h g (List.mem_cons_of_mem _ hg)
    have h1 := h f (List.mem_cons_self ..)
    simp [PyData.canLayAll0, PyData.depthAll, wdD, PyData.canLay0, PyData.depth, h1, ih.1]
    have := ih.2
    omega
theorem shapedW {ws : List (Str × Int)} (h : ∀ w ∈ ws, PyData.strOk w.1 = true) : SeqAt.shaped (.tuple (ws.map wdD)) = true := by
  obtain ⟨a, b⟩ := layW h
  simp [SeqAt.shaped, PyData.canLay0, PyData.depth, a]
  omega
theorem eqvAW : ∀ ws : List (Str × Int), PyData.eqvAll (ws.map wdD) (ws.map wdD) = true
  | [] => by simp [PyData.eqvAll]
  | x :: r => by
    have ih := eqvAW r
    simp [PyData.eqvAll, PyData.eqv, wdD, ih]
theorem eqvW (ws : List (Str × Int)) : PyData.eqv (.tuple (ws.map wdD)) (.tuple (ws.map wdD)) = true := eqvAW ws
theorem idxS {z : Str} : ∀ {xs : List Str}, z ∈ xs → ∃ j, j < xs.length ∧ xs[j]? = some z ∧ (∀ (m : Nat) (y : Str), m < j → xs[m]? = some y → ¬ y = z)
  | [], h => by cases h
  | x :: r, h => by
    by_cases e : x = z
    · exact ⟨0, Nat.succ_pos _, by rw [e]; rfl, fun m y hm => absurd hm (Nat.not_lt_zero _)⟩
    · obtain ⟨j, h1, h2, h3⟩ := idxS (xs := r) ((List.mem_cons.mp h).resolve_left fun h => e h.symm)
      refine ⟨j + 1, Nat.succ_lt_succ h1, h2, fun m y hm hy => ?_⟩
      cases m with
      | zero =>
        have := Option.some.inj hy
        rw [← this]
        exact e
      | succ m => exact h3 m y (Nat.lt_of_succ_lt_succ hm) hy
theorem eqV_ne {a b : Str} (h : ¬ a = b) : eqV (.str a) (.str b) = false := by
  have : (a == b) = false := by simpa using h
  simp [eqV, this]
theorem eqV_same (a : Str) : eqV (.str a) (.str a) = true := by simp [eqV]
theorem idxV {z : Str} {xs : List Str} {j : Nat} (h : ∀ (m : Nat) (y : Str), m < j → xs[m]? = some y → ¬ y = z) : ∀ (m : Nat) (z' : V), m < j → (xs.map V.str)[m]? = some z' → eqV z' (.str z) = false := fun m z' hm hz => by
  rw [List.getElem?_map] at hz
  cases e : xs[m]? with
  | none =>
    rw [e] at hz
    cases hz
  | some y =>
    rw [e] at hz
    have := Option.some.inj hz
    rw [← this]
    exact eqV_ne (h m y hm e)
theorem fit_no {p : Str × PyData} {r : List (Str × PyData)} {l : List (Str × Str)} (h : ∀ f ∈ l, ¬ f.1 = p.1) : fitF (p :: r) l = false := by
  show (match l.dropWhile (fun g => decide (¬ g.1 = p.1)) with | [] => false | g :: t => decide (g.2 = kindP p.2) && fitF r t) = false
  rw [dropW_none h]
theorem fit_at {p : Str × PyData} {r : List (Str × PyData)} {fs : List (Str × Str)} {k j : Nat} {f : Str × Str} (hk : k ≤ j) (h : fs[j]? = some f) (e : f.1 = p.1) (a : ∀ (i : Nat) (g : Str × Str), i < j → fs[i]? = some g → ¬ g.1 = p.1) : fitF (p :: r) (fs.drop k) = (decide (f.2 = kindP p.2) && fitF r (fs.drop (j + 1))) := by
  show (match (fs.drop k).dropWhile (fun g => decide (¬ g.1 = p.1)) with | [] => false | g :: t => decide (g.2 = kindP p.2) && fitF r t) = _
  have h1 : (fs.drop k)[j - k]? = some f := by rw [List.getElem?_drop, show k + (j - k) = j by omega]; exact h
  rw [dropW_at h1 e fun i g hi hg => a (k + i) g (by omega) (by rw [List.getElem?_drop] at hg; exact hg), List.drop_drop, show k + (j - k + 1) = j + 1 by omega]
theorem get_mapS {xs : List Str} {i : Nat} {v : V} (h : (xs.map V.str)[i]? = some v) : ∃ z, v = .str z ∧ z ∈ xs := by
  rw [List.getElem?_map] at h
  cases e : xs[i]? with
  | none =>
    rw [e] at h
    cases h
  | some z =>
    rw [e] at h
    exact ⟨z, (Option.some.inj h).symm, List.mem_of_getElem? e⟩
theorem drop_cons {α : Type} {l : List α} {i : Nat} {x : α} (h : l[i]? = some x) : l.drop i = x :: l.drop (i + 1) := by
  have hi := (List.getElem?_eq_some_iff.mp h).1
  have e : l[i] = x := (List.getElem?_eq_some_iff.mp h).2
  rw [← e, List.getElem_cons_drop]
/-- pairs and words of any such length -/
structure PB (b : Nat) (ps : List (Str × PyData)) : Prop where
  len : ps.length ≤ b
  names : ∀ p ∈ ps, PyData.strOk p.1 = true ∧ p.1.length ≤ 8
  vals : ∀ p ∈ ps, IsVal p.2
structure WB (b : Nat) (ws : List (Str × Int)) : Prop where
  len : ws.length ≤ b
  words : ∀ w ∈ ws, PyData.strOk w.1 = true ∧ w.1.length ≤ 8
/-- the first one of that name -/
def firstC (ws : List (Str × Int)) (z : Str) : Int := match ws.find? (fun p => decide (p.1 = z)) with
  | some p => p.2
  | none => 0
def valV : PyData → V
  | .int i => .int i
  | .str z => .str z
  | .bool b => .bl b
  | _ => .non
def firstW (ps : List (Str × PyData)) (z : Str) : V := match ps.find? (fun p => decide (p.1 = z)) with
  | some p => valV p.2
  | none => .non
theorem firstW_cons (f : Str × PyData) (r : List (Str × PyData)) (z : Str) : firstW (f :: r) z = if f.1 = z then valV f.2 else firstW r z := by
  unfold firstW
  by_cases e : f.1 = z
  · rw [if_pos e, List.find?_cons_of_pos (by simpa using e)]
  · rw [if_neg e, List.find?_cons_of_neg (by simpa using e)]
theorem firstW_cases {z : Str} : ∀ {ps : List (Str × PyData)}, (∀ p ∈ ps, IsVal p.2) → firstW ps z = .non ∨ (∃ i, firstW ps z = .int i) ∨ (∃ y, firstW ps z = .str y) ∨ (∃ b, firstW ps z = .bl b)
  | [], _ => .inl rfl
  | f :: r, iv => by
    rw [firstW_cons]
    by_cases e : f.1 = z
    · rw [if_pos e]
      rcases iv f (List.mem_cons_self ..) with ⟨j, h⟩ | ⟨y, h, _⟩ | ⟨b, h⟩
      · exact .inr (.inl ⟨j, by rw [h]; rfl⟩)
      · exact .inr (.inr (.inl ⟨y, by rw [h]; rfl⟩))
      · exact .inr (.inr (.inr ⟨b, by rw [h]; rfl⟩))
    · rw [if_neg e]
      exact firstW_cases fun p hp => iv p (List.mem_cons_of_mem _ hp)
theorem valV_ne {d : PyData} (h : IsVal d) : ¬ valV d = .non := by
  rcases h with ⟨j, rfl⟩ | ⟨z, rfl, _⟩ | ⟨b, rfl⟩ <;> exact fun h => by cases h
theorem firstW_take {z : Str} : ∀ {ps : List (Str × PyData)} {i : Nat} {f : Str × PyData}, ps[i]? = some f → (∀ p ∈ ps, IsVal p.2) → (f.1 = z → firstW (ps.take i) z = .non → firstW (ps.take (i + 1)) z = valV f.2) ∧ (¬ (f.1 = z ∧ firstW (ps.take i) z = .non) → firstW (ps.take (i + 1)) z = firstW (ps.take i) z)
  | [], _, _, h, _ => by simp at h
  | g :: r, 0, f, h, _ => by
    have e := Option.some.inj h
    subst e
    have e1 : firstW ((g :: r).take 1) z = if g.1 = z then valV g.2 else .non := firstW_cons g [] z
    refine ⟨fun h1 _ => by rw [e1, if_pos h1], fun h1 => ?_⟩
    rw [e1, if_neg fun h2 => h1 ⟨h2, rfl⟩]
    rfl
  | g :: r, i + 1, f, h, iv => by
    obtain ⟨h1, h2⟩ := firstW_take (z := z) (ps := r) (i := i) h fun p hp => iv p (List.mem_cons_of_mem _ hp)
    rw [List.take_succ_cons, List.take_succ_cons, firstW_cons, firstW_cons]
    by_cases e : g.1 = z
    · rw [if_pos e, if_pos e]
      exact ⟨fun _ h3 => absurd h3 (valV_ne (iv g (List.mem_cons_self ..))), fun _ => rfl⟩
    · rw [if_neg e, if_neg e]
      exact ⟨h1, h2⟩
theorem headC {z : Str} : ∀ ws : List (Str × Int), ((((ws.filter fun p => decide (p.1 = z)).map (·.2)).map V.int) ++ [V.int 0])[0]? = some (.int (firstC ws z))
  | [] => rfl
  | f :: r => by
    unfold firstC
    by_cases e : f.1 = z
    · rw [List.filter_cons_of_pos (by simpa using e), List.find?_cons_of_pos (by simpa using e)]
      rfl
    · rw [List.filter_cons_of_neg (by simpa using e), List.find?_cons_of_neg (by simpa using e)]
      exact headC r
theorem valV_of {N : List Addr} {H : Hp} {v : V} {d : PyData} (x : Dt N H v d) (i : IsVal d) : v = valV d := by
  rcases i with ⟨j, rfl⟩ | ⟨z, rfl, _⟩ | ⟨b, rfl⟩
  · exact x.isI
  · exact x.isS
  · cases x
    rfl

theorem lenLe {n : Nat} (h : n ≤ 2000) : n ≤ sizeLine := Nat.le_trans h (by decide)
theorem cut1 (xs : List V) : cutV xs (some 1) none = xs.drop 1 := by
  have e : HT.sIx xs.length 0 (some ((1 : Nat) : Int)) = min 1 xs.length := HT.sIx_nat _ _ _
  have e1 : HT.sIx xs.length 0 (some 1) = min 1 xs.length := e
  unfold cutV
  rw [e1, HT.sIx_none]
  cases xs with
  | nil => rfl
  | cons x r =>
    rw [show min 1 (x :: r).length = 1 by rw [List.length_cons]; omega]
    exact List.take_of_length_le (by simp)
theorem cutN (xs : List V) : cutV xs none (some 1) = xs.take 1 := by
  have e : HT.sIx xs.length xs.length (some ((1 : Nat) : Int)) = min 1 xs.length := HT.sIx_nat _ _ _
  have e1 : HT.sIx xs.length xs.length (some 1) = min 1 xs.length := e
  unfold cutV
  rw [e1, HT.sIx_none, Nat.sub_zero, List.drop_zero]
  cases xs with
  | nil => rfl
  | cons x r => rw [show min 1 (x :: r).length = 1 by rw [List.length_cons]; omega]
theorem Dts.take1 {N : List Addr} {H : Hp} : ∀ {vs : List V} {ds : List PyData}, Dts N H vs ds → Dts N H (vs.take 1) (ds.take 1)
  | _, _, .nil => .nil
  | _, _, .cons x t => .cons x .nil
/-- what a thing holds -/
structure Good (st : Addr) (H : Hp) (b : Nat) (av pp pw : Addr) (vec : List Int) (ps : List (Str × PyData)) (ws : List (Str × Int)) : Prop where
  nav : av ≠ st
  hav : H av = some (.lst (vec.map V.int))
  dps : Dt [st] H (.ref pp) (.list (ps.map prD))
  dws : Dt [st] H (.ref pw) (.list (ws.map wdD))
  lv : vec.length ≤ b
  lp : ps.length ≤ b
  lw : ws.length ≤ b
  iv : ∀ p ∈ ps, IsVal p.2
  ok : ∀ w ∈ ws, PyData.strOk w.1 = true
theorem Good.fr {st av pp pw : Addr} {H H' : Hp} {b : Nat} {vec : List Int} {ps : List (Str × PyData)} {ws : List (Str × Int)} (g : Good st H b av pp pw vec ps ws) (f : Fr st H H') : Good st H' b av pp pw vec ps ws :=
  ⟨g.nav, f _ _ g.hav g.nav, g.dps.fr f in1, g.dws.fr f in1, g.lv, g.lp, g.lw, g.iv, g.ok⟩
theorem Good.up {st av pp pw : Addr} {H : Hp} {b c : Nat} {vec : List Int} {ps : List (Str × PyData)} {ws : List (Str × Int)} (g : Good st H b av pp pw vec ps ws) (h : b ≤ c) : Good st H c av pp pw vec ps ws :=
  ⟨g.nav, g.hav, g.dps, g.dws, Nat.le_trans g.lv h, Nat.le_trans g.lp h, Nat.le_trans g.lw h, g.iv, g.ok⟩
theorem Good.setV {st av pp pw p : Addr} {H H2 : Hp} {b c : Nat} {vec vec' : List Int} {ps : List (Str × PyData)} {ws : List (Str × Int)} (g : Good st H b av pp pw vec ps ws) (f : Fr st H H2) (hc : b ≤ c) (n : p ≠ st) (h : H2 p = some (.lst (vec'.map V.int))) (l : vec'.length ≤ c) : Good st H2 c p pp pw vec' ps ws := by
  have g2 := (g.fr f).up hc
  exact ⟨n, h, g2.dps, g2.dws, l, g2.lp, g2.lw, g2.iv, g2.ok⟩
theorem Good.setP {st av pp pw p : Addr} {H H2 : Hp} {b c : Nat} {vec : List Int} {ps ps' : List (Str × PyData)} {ws : List (Str × Int)} {vs : List V} (g : Good st H b av pp pw vec ps ws) (f : Fr st H H2) (hc : b ≤ c) (n : p ≠ st) (h : H2 p = some (.lst vs)) (d : Dts [st] H2 vs (ps'.map prD)) (l : ps'.length ≤ c) (iv : ∀ p ∈ ps', IsVal p.2) : Good st H2 c av p pw vec ps' ws := by
  have g2 := (g.fr f).up hc
  exact ⟨g2.nav, g2.hav, .lst (not_in1 n) h d, g2.dws, g2.lv, l, g2.lw, iv, g2.ok⟩
theorem Good.setW {st av pp pw p : Addr} {H H2 : Hp} {b c : Nat} {vec : List Int} {ps : List (Str × PyData)} {ws ws' : List (Str × Int)} {vs : List V} (g : Good st H b av pp pw vec ps ws) (f : Fr st H H2) (hc : b ≤ c) (n : p ≠ st) (h : H2 p = some (.lst vs)) (d : Dts [st] H2 vs (ws'.map wdD)) (l : ws'.length ≤ c) (ok : ∀ w ∈ ws', PyData.strOk w.1 = true) : Good st H2 c av pp p vec ps ws' := by
  have g2 := (g.fr f).up hc
  exact ⟨g2.nav, g2.hav, g2.dps, .lst (not_in1 n) h d, g2.lv, g2.lp, l, g2.iv, ok⟩
def ChW (t th st sc : Addr) (k j : Int) (H : Hp) (b : Nat) (σ : L2.St) (H' : Hp) : Prop :=
  Fr st H H' ∧ StAt H' st sc ∧ ∃ (z : Str) (av pp pw : Addr) (vec : List Int) (ps : List (Str × PyData)) (ws : List (Str × Int)) (y9 y10 y11 : Option V), Good st H' b av pp pw vec ps ws ∧ σ = [some (.ref st), some (.ref t), some (.ref th), some (.str z), some (.ref av), some (.ref pp), some (.ref pw), some (.int k), some (.int j), y9, y10, y11]

theorem Dts.rev {N : List Addr} {H : Hp} : ∀ {vs : List V} {ds : List PyData}, Dts N H vs ds → Dts N H vs.reverse ds.reverse
  | _, _, .nil => .nil
  | _, _, .cons x t => by
    rw [List.reverse_cons, List.reverse_cons]
    exact t.rev.snoc x

def ff_Schema (v0 v1 v2 v3 : V) : List (Str × V) := putF "fields" v3 (putF "measure" v2 (putF "width" v1 (putF "size" v0 [])))
theorem lk_Schema_size {v0 v1 v2 v3 : V} : (ff_Schema v0 v1 v2 v3).lookup ("size" : Str) = some v0 := by
  unfold ff_Schema
  rw [lookup_putF, if_neg (by decide +kernel), lookup_putF, if_neg (by decide +kernel), lookup_putF, if_neg (by decide +kernel), lookup_putF, if_pos rfl]
theorem lk_Schema_width {v0 v1 v2 v3 : V} : (ff_Schema v0 v1 v2 v3).lookup ("width" : Str) = some v1 := by
  unfold ff_Schema
  rw [lookup_putF, if_neg (by decide +kernel), lookup_putF, if_neg (by decide +kernel), lookup_putF, if_pos rfl]
theorem lk_Schema_measure {v0 v1 v2 v3 : V} : (ff_Schema v0 v1 v2 v3).lookup ("measure" : Str) = some v2 := by
  unfold ff_Schema
  rw [lookup_putF, if_neg (by decide +kernel), lookup_putF, if_pos rfl]
theorem lk_Schema_fields {v0 v1 v2 v3 : V} : (ff_Schema v0 v1 v2 v3).lookup ("fields" : Str) = some v3 := by
  unfold ff_Schema
  rw [lookup_putF, if_pos rfl]
theorem no_Schema {v0 v1 v2 v3 : V} {m : Str} (h0 : ¬ m = "size" := by decide +kernel) (h1 : ¬ m = "width" := by decide +kernel) (h2 : ¬ m = "measure" := by decide +kernel) (h3 : ¬ m = "fields" := by decide +kernel) : (ff_Schema v0 v1 v2 v3).lookup m = none := by
  unfold ff_Schema
  rw [lookup_putF, if_neg h3, lookup_putF, if_neg h2, lookup_putF, if_neg h1, lookup_putF, if_neg h0]
  rfl
def ff_Record (v0 v1 v2 v3 : V) : List (Str × V) := putF "words" v3 (putF "fields" v2 (putF "vector" v1 (putF "name" v0 [])))
theorem lk_Record_name {v0 v1 v2 v3 : V} : (ff_Record v0 v1 v2 v3).lookup ("name" : Str) = some v0 := by
  unfold ff_Record
  rw [lookup_putF, if_neg (by decide +kernel), lookup_putF, if_neg (by decide +kernel), lookup_putF, if_neg (by decide +kernel), lookup_putF, if_pos rfl]
theorem lk_Record_vector {v0 v1 v2 v3 : V} : (ff_Record v0 v1 v2 v3).lookup ("vector" : Str) = some v1 := by
  unfold ff_Record
  rw [lookup_putF, if_neg (by decide +kernel), lookup_putF, if_neg (by decide +kernel), lookup_putF, if_pos rfl]
theorem lk_Record_fields {v0 v1 v2 v3 : V} : (ff_Record v0 v1 v2 v3).lookup ("fields" : Str) = some v2 := by
  unfold ff_Record
  rw [lookup_putF, if_neg (by decide +kernel), lookup_putF, if_pos rfl]
theorem lk_Record_words {v0 v1 v2 v3 : V} : (ff_Record v0 v1 v2 v3).lookup ("words" : Str) = some v3 := by
  unfold ff_Record
  rw [lookup_putF, if_pos rfl]
theorem no_Record {v0 v1 v2 v3 : V} {m : Str} (h0 : ¬ m = "name" := by decide +kernel) (h1 : ¬ m = "vector" := by decide +kernel) (h2 : ¬ m = "fields" := by decide +kernel) (h3 : ¬ m = "words" := by decide +kernel) : (ff_Record v0 v1 v2 v3).lookup m = none := by
  unfold ff_Record
  rw [lookup_putF, if_neg h3, lookup_putF, if_neg h2, lookup_putF, if_neg h1, lookup_putF, if_neg h0]
  rfl
theorem putF_le {f : Str} {v : V} {fs : List (Str × V)} {n : Nat} (h : fs.length ≤ n) : (putF f v fs).length ≤ n + 1 := by
  induction fs generalizing n with
  | nil => show 1 ≤ n + 1; omega
  | cons x r ih =>
    obtain ⟨g, y⟩ := x
    show (if g = f then (g, v) :: r else (g, y) :: putF f v r).length ≤ n + 1
    rw [List.length_cons] at h
    by_cases e : g = f
    · rw [if_pos e, List.length_cons]; omega
    · rw [if_neg e, List.length_cons]
      have := ih (n := r.length) (Nat.le_refl _)
      omega
/-! what the top has made -/
structure Txt (w : World) (K : PySem.W.Frag) (mg : Str → Option Value) where
  f_law_row : Addr
  d_law_row : FuncData
  F_law_row : Fun K "_law_row" "_law_row" s_law_row f_law_row d_law_row
  b_law_row : Binds K d_law_row ["script", "k"] []
  g_law_row : mg "_law_row" = some (.ref f_law_row)
  f_law_next : Addr
  d_law_next : FuncData
  F_law_next : Fun K "_law_next" "_law_next" s_law_next f_law_next d_law_next
  b_law_next : Binds K d_law_next ["state", "many"] []
  g_law_next : mg "_law_next" = some (.ref f_law_next)
  f_law_fields : Addr
  d_law_fields : FuncData
  F_law_fields : Fun K "_law_fields" "_law_fields" s_law_fields f_law_fields d_law_fields
  b_law_fields : Binds K d_law_fields ["state"] []
  g_law_fields : mg "_law_fields" = some (.ref f_law_fields)
  f_law_schema : Addr
  d_law_schema : FuncData
  F_law_schema : Fun K "_law_schema" "_law_schema" s_law_schema f_law_schema d_law_schema
  b_law_schema : Binds K d_law_schema ["state"] []
  g_law_schema : mg "_law_schema" = some (.ref f_law_schema)
  f_law_number : Addr
  d_law_number : FuncData
  F_law_number : Fun K "_law_number" "_law_number" s_law_number f_law_number d_law_number
  b_law_number : Binds K d_law_number ["state", "width"] []
  g_law_number : mg "_law_number" = some (.ref f_law_number)
  f_law_value : Addr
  d_law_value : FuncData
  F_law_value : Fun K "_law_value" "_law_value" s_law_value f_law_value d_law_value
  b_law_value : Binds K d_law_value ["state", "kind"] []
  g_law_value : mg "_law_value" = some (.ref f_law_value)
  f_law_pairs : Addr
  d_law_pairs : FuncData
  F_law_pairs : Fun K "_law_pairs" "_law_pairs" s_law_pairs f_law_pairs d_law_pairs
  b_law_pairs : Binds K d_law_pairs ["state", "fields"] []
  g_law_pairs : mg "_law_pairs" = some (.ref f_law_pairs)
  f_law_words : Addr
  d_law_words : FuncData
  F_law_words : Fun K "_law_words" "_law_words" s_law_words f_law_words d_law_words
  b_law_words : Binds K d_law_words ["state"] []
  g_law_words : mg "_law_words" = some (.ref f_law_words)
  f_law_name : Addr
  d_law_name : FuncData
  F_law_name : Fun K "_law_name" "_law_name" s_law_name f_law_name d_law_name
  b_law_name : Binds K d_law_name ["state"] []
  g_law_name : mg "_law_name" = some (.ref f_law_name)
  f_kind_of_value : Addr
  d_kind_of_value : FuncData
  F_kind_of_value : Fun K "kind_of_value" "kind_of_value" s_kind_of_value f_kind_of_value d_kind_of_value
  b_kind_of_value : Binds K d_kind_of_value ["worth"] []
  g_kind_of_value : mg "kind_of_value" = some (.ref f_kind_of_value)
  f_Record___init__ : Addr
  d_Record___init__ : FuncData
  e_Record___init___fields : Addr
  et_Record___init___fields : ∀ H, SqT K H e_Record___init___fields []
  e_Record___init___words : Addr
  et_Record___init___words : ∀ H, SqT K H e_Record___init___words []
  F_Record___init__ : FunD K "__init__" "Record.__init__" (defArgs s_Record___init__) (defBody s_Record___init__) (defScope s_Record___init__) [] [("fields", .ref e_Record___init___fields), ("words", .ref e_Record___init___words)] f_Record___init__ d_Record___init__
  kb_Record___init__ : KBn K d_Record___init__ ["self", "name", "vector", "fields", "words"] 3 ["fields", "words"] (fun us ws => us ++ ws) (fun vs zs => vs ++ zs)
  ds_Record___init__ : List Value
  v_Record___init__ : Vals [.ref e_Record___init___fields, .ref e_Record___init___words] ds_Record___init__
  b_Record___init__ : Binds K d_Record___init__ ["self", "name", "vector", "fields", "words"] ds_Record___init__
  f_is_letter : Addr
  d_is_letter : FuncData
  F_is_letter : Fun K "is_letter" "is_letter" s_is_letter f_is_letter d_is_letter
  b_is_letter : Binds K d_is_letter ["char"] []
  g_is_letter : mg "is_letter" = some (.ref f_is_letter)
  f_is_digit : Addr
  d_is_digit : FuncData
  F_is_digit : Fun K "is_digit" "is_digit" s_is_digit f_is_digit d_is_digit
  b_is_digit : Binds K d_is_digit ["char"] []
  g_is_digit : mg "is_digit" = some (.ref f_is_digit)
  f_is_word : Addr
  d_is_word : FuncData
  F_is_word : Fun K "is_word" "is_word" s_is_word f_is_word d_is_word
  b_is_word : Binds K d_is_word ["text"] []
  g_is_word : mg "is_word" = some (.ref f_is_word)
  f_check_vectors : Addr
  d_check_vectors : FuncData
  F_check_vectors : Fun K "check_vectors" "check_vectors" s_check_vectors f_check_vectors d_check_vectors
  b_check_vectors : Binds K d_check_vectors ["size", "width", "measure"] []
  g_check_vectors : mg "check_vectors" = some (.ref f_check_vectors)
  f_check_fields : Addr
  d_check_fields : FuncData
  F_check_fields : Fun K "check_fields" "check_fields" s_check_fields f_check_fields d_check_fields
  b_check_fields : Binds K d_check_fields ["fields"] []
  g_check_fields : mg "check_fields" = some (.ref f_check_fields)
  f_Schema___init__ : Addr
  d_Schema___init__ : FuncData
  e_Schema___init___fields : Addr
  et_Schema___init___fields : ∀ H, SqT K H e_Schema___init___fields []
  F_Schema___init__ : FunD K "__init__" "Schema.__init__" (defArgs s_Schema___init__) (defBody s_Schema___init__) (defScope s_Schema___init__) [] [("width", .str "small"), ("measure", .str "square"), ("fields", .ref e_Schema___init___fields)] f_Schema___init__ d_Schema___init__
  kb_Schema___init__ : KBn K d_Schema___init__ ["self", "size", "width", "measure", "fields"] 2 ["width", "measure", "fields"] (fun us ws => us ++ ws) (fun vs zs => vs ++ zs)
  ds_Schema___init__ : List Value
  v_Schema___init__ : Vals [.str "small", .str "square", .ref e_Schema___init___fields] ds_Schema___init__
  b_Schema___init__ : Binds K d_Schema___init__ ["self", "size", "width", "measure", "fields"] ds_Schema___init__
  f_are_within : Addr
  d_are_within : FuncData
  F_are_within : Fun K "are_within" "are_within" s_are_within f_are_within d_are_within
  b_are_within : Binds K d_are_within ["vector", "width"] []
  g_are_within : mg "are_within" = some (.ref f_are_within)
  f_are_words : Addr
  d_are_words : FuncData
  F_are_words : Fun K "are_words" "are_words" s_are_words f_are_words d_are_words
  b_are_words : Binds K d_are_words ["words"] []
  g_are_words : mg "are_words" = some (.ref f_are_words)
  f_are_fields_of : Addr
  d_are_fields_of : FuncData
  F_are_fields_of : Fun K "are_fields_of" "are_fields_of" s_are_fields_of f_are_fields_of d_are_fields_of
  b_are_fields_of : Binds K d_are_fields_of ["fields", "known"] []
  g_are_fields_of : mg "are_fields_of" = some (.ref f_are_fields_of)
  f_Schema___contains__ : Addr
  d_Schema___contains__ : FuncData
  F_Schema___contains__ : Fun K "__contains__" "Schema.__contains__" s_Schema___contains__ f_Schema___contains__ d_Schema___contains__
  b_Schema___contains__ : Binds K d_Schema___contains__ ["self", "record"] []
  f_Schema_check : Addr
  d_Schema_check : FuncData
  F_Schema_check : Fun K "check" "Schema.check" s_Schema_check f_Schema_check d_Schema_check
  b_Schema_check : Binds K d_Schema_check ["self", "record"] []
  f_Record_value : Addr
  d_Record_value : FuncData
  F_Record_value : Fun K "value" "Record.value" s_Record_value f_Record_value d_Record_value
  b_Record_value : Binds K d_Record_value ["self", "name"] []
  f_Record_count_of : Addr
  d_Record_count_of : FuncData
  F_Record_count_of : Fun K "count_of" "Record.count_of" s_Record_count_of f_Record_count_of d_Record_count_of
  b_Record_count_of : Binds K d_Record_count_of ["self", "word"] []
  f_law_kind : Addr
  d_law_kind : FuncData
  F_law_kind : Fun K "_law_kind" "_law_kind" s_law_kind f_law_kind d_law_kind
  b_law_kind : Binds K d_law_kind ["worth"] []
  g_law_kind : mg "_law_kind" = some (.ref f_law_kind)
  f_law_refused : Addr
  d_law_refused : FuncData
  F_law_refused : Fun K "_law_refused" "_law_refused" s_law_refused f_law_refused d_law_refused
  b_law_refused : Binds K d_law_refused ["schema", "record"] []
  g_law_refused : mg "_law_refused" = some (.ref f_law_refused)
  f_law_fits : Addr
  d_law_fits : FuncData
  F_law_fits : Fun K "_law_fits" "_law_fits" s_law_fits f_law_fits d_law_fits
  b_law_fits : Binds K d_law_fits ["drawn", "name", "vector", "pairs", "words"] []
  g_law_fits : mg "_law_fits" = some (.ref f_law_fits)
  f_law_change : Addr
  d_law_change : FuncData
  F_law_change : Fun K "_law_change" "_law_change" s_law_change f_law_change d_law_change
  b_law_change : Binds K d_law_change ["state", "drawn", "thing"] []
  g_law_change : mg "_law_change" = some (.ref f_law_change)
  f_law_tells : Addr
  d_law_tells : FuncData
  F_law_tells : Fun K "_law_tells" "_law_tells" s_law_tells f_law_tells d_law_tells
  b_law_tells : Binds K d_law_tells ["record", "thing"] []
  g_law_tells : mg "_law_tells" = some (.ref f_law_tells)
  f_law : Addr
  d_law : FuncData
  F_law : Fun K "law" "law" s_law f_law d_law
  b_law : Binds K d_law ["script"] []
  g_law : mg "law" = some (.ref f_law)
  c_InvalidRecord : Addr
  mc_InvalidRecord : mg "InvalidRecord" = some (.ref c_InvalidRecord)
  kp_InvalidRecord : PySem.W.keepIn K (.ref c_InvalidRecord) = true
  x_InvalidRecord : PySem.W.excIn K c_InvalidRecord [.type "ValueError", .type "Exception", .type "BaseException", .type "object"] "ValueError.__new__" = true
  xb_InvalidRecord : PySem.W.subIn K (.ref c_InvalidRecord) (.type "BaseException") = some true
  xt_InvalidRecord : PySem.W.typeIn K (.ref c_InvalidRecord) = some (.type "type")
  c_InvalidSchema : Addr
  mc_InvalidSchema : mg "InvalidSchema" = some (.ref c_InvalidSchema)
  kp_InvalidSchema : PySem.W.keepIn K (.ref c_InvalidSchema) = true
  x_InvalidSchema : PySem.W.excIn K c_InvalidSchema [.type "ValueError", .type "Exception", .type "BaseException", .type "object"] "ValueError.__new__" = true
  xb_InvalidSchema : PySem.W.subIn K (.ref c_InvalidSchema) (.type "BaseException") = some true
  xt_InvalidSchema : PySem.W.typeIn K (.ref c_InvalidSchema) = some (.type "type")
  c_SurenearError : Addr
  mc_SurenearError : mg "SurenearError" = some (.ref c_SurenearError)
  kp_SurenearError : PySem.W.keepIn K (.ref c_SurenearError) = true
  x_SurenearError : PySem.W.excIn K c_SurenearError [.type "ValueError", .type "Exception", .type "BaseException", .type "object"] "ValueError.__new__" = true
  xb_SurenearError : PySem.W.subIn K (.ref c_SurenearError) (.type "BaseException") = some true
  xt_SurenearError : PySem.W.typeIn K (.ref c_SurenearError) = some (.type "type")
  xm_InvalidRecord_InvalidRecord : PySem.W.exmOne K (.ref c_InvalidRecord) (.ref c_InvalidRecord) = some true
  c_Schema : Addr
  cl_Schema : Cls K c_Schema
  mc_Schema : mg "Schema" = some (.ref c_Schema)
  n_Schema_size : NoAttr K c_Schema "size"
  n_Schema_width : NoAttr K c_Schema "width"
  n_Schema_measure : NoAttr K c_Schema "measure"
  n_Schema_fields : NoAttr K c_Schema "fields"
  mk_Schema : Mk K c_Schema f_Schema___init__
  me_Schema___contains__ : Meth K c_Schema "__contains__" f_Schema___contains__
  me_Schema_check : Meth K c_Schema "check" f_Schema_check
  c_Record : Addr
  cl_Record : Cls K c_Record
  mc_Record : mg "Record" = some (.ref c_Record)
  n_Record_name : NoAttr K c_Record "name"
  n_Record_vector : NoAttr K c_Record "vector"
  n_Record_fields : NoAttr K c_Record "fields"
  n_Record_words : NoAttr K c_Record "words"
  mk_Record : Mk K c_Record f_Record___init__
  me_Record_value : Meth K c_Record "value" f_Record_value
  me_Record_count_of : Meth K c_Record "count_of" f_Record_count_of
  a_KINDS : Addr
  m_KINDS : mg "KINDS" = some (.ref a_KINDS)
  sq_KINDS : ∀ H, SqT K H a_KINDS [.str "integer", .str "text", .str "flag"]
  a_MEASURES : Addr
  m_MEASURES : mg "MEASURES" = some (.ref a_MEASURES)
  sq_MEASURES : ∀ H, SqT K H a_MEASURES [.str "square", .str "dot", .str "bits"]
  a_RESERVED : Addr
  m_RESERVED : mg "RESERVED" = some (.ref a_RESERVED)
  sq_RESERVED : ∀ H, SqT K H a_RESERVED [.str "every", .str "has", .str "in", .str "and", .str "or", .str "not", .str "true", .str "false"]
  a_WIDTHS : Addr
  m_WIDTHS : mg "WIDTHS" = some (.ref a_WIDTHS)
  es_WIDTHS : Array DictEntry
  en_WIDTHS : Nat
  kd_WIDTHS : KDict K w a_WIDTHS es_WIDTHS en_WIDTHS
  av_WIDTHS_bit : Addr
  ns_WIDTHS_bit : PySem.W.nsIn K a_WIDTHS "bit" = some (some (.ref av_WIDTHS_bit))
  sv_WIDTHS_bit : ∀ H, SqT K H av_WIDTHS_bit [.int (0), .int (1)]
  av_WIDTHS_small : Addr
  ns_WIDTHS_small : PySem.W.nsIn K a_WIDTHS "small" = some (some (.ref av_WIDTHS_small))
  sv_WIDTHS_small : ∀ H, SqT K H av_WIDTHS_small [.int (-128), .int (127)]
  av_WIDTHS_wide : Addr
  ns_WIDTHS_wide : PySem.W.nsIn K a_WIDTHS "wide" = some (some (.ref av_WIDTHS_wide))
  sv_WIDTHS_wide : ∀ H, SqT K H av_WIDTHS_wide [.int (-32768), .int (32767)]
  ns_WIDTHS_huge : PySem.W.nsIn K a_WIDTHS "huge" = some none
  m_all : mg "all" = none
  m_bool : mg "bool" = none
  m_int : mg "int" = none
  m_isinstance : mg "isinstance" = none
  m_len : mg "len" = none
  m_list : mg "list" = none
  m_max : mg "max" = none
  m_min : mg "min" = none
  m_range : mg "range" = none
  m_set : mg "set" = none
  m_str : mg "str" = none
  m_tuple : mg "tuple" = none
section
variable {P : Program} {w : World} {K : PySem.W.Frag} {mg : Str → Option Value} {base : Heap}

/-- all but instances is as it was -/
def Keep (H H' : Hp) : Prop := ∀ b o, H b = some o → (∀ C dx fs, o ≠ .ins C dx fs) → H' b = some o
theorem Keep.trans {H H1 H2 : Hp} (f : Keep H H1) (g : Keep H1 H2) : Keep H H2 := fun b o e n => g b o (f b o e n) n
theorem Keep.same {H H' : Hp} (f : Same H H') : Keep H H' := fun b o e _ => f b o e
theorem Keep.ins {H : Hp} {p C dx : Addr} {fs : List (Str × V)} {o : HO} (h : H p = some (.ins C dx fs)) : Keep H (upd H p o) := fun b u e n => by
  rw [upd_ne]
  · exact e
  · intro z
    rw [z, h] at e
    cases e
    exact n _ _ _ rfl
theorem Keep.seq {K : PySem.W.Frag} {H H' : Hp} {q : Addr} {xs : List V} (f : Keep H H') (h : SqL K H q xs) : SqL K H' q xs := by
  rcases h with (h | ⟨o, h⟩) | h
  · exact .inl (.inl (f _ _ h fun _ _ _ z => by cases z))
  · exact .inl (.inr ⟨o, f _ _ h fun _ _ _ z => by cases z⟩)
  · exact .inr h
theorem Keep.seqT {K : PySem.W.Frag} {H H' : Hp} {q : Addr} {xs : List V} (f : Keep H H') (h : SqT K H q xs) : SqT K H' q xs := by
  rcases h with (h | ⟨o, h⟩) | h
  · exact .inl (.inl (f _ _ h fun _ _ _ z => by cases z))
  · exact .inl (.inr ⟨o, f _ _ h fun _ _ _ z => by cases z⟩)
  · exact .inr h
theorem _root_.L2.Same.seqT {K : PySem.W.Frag} {H H' : Hp} {q : Addr} {xs : List V} (f : Same H H') (h : SqT K H q xs) : SqT K H' q xs := (Keep.same f).seqT h
mutual
theorem Dt.keep {N : List Addr} {H H' : Hp} (f : Keep H H') : ∀ {v : V} {d : PyData}, Dt N H v d → Dt N H' v d
  | _, _, .non => .non
  | _, _, .bl b => .bl b
  | _, _, .int i => .int i
  | _, _, .str x => .str x
  | _, _, .lst n h t => .lst n (f _ _ h fun _ _ _ z => by cases z) (Dts.keep f t)
  | _, _, .tup n h t => .tup n (f _ _ h fun _ _ _ z => by cases z) (Dts.keep f t)
theorem Dts.keep {N : List Addr} {H H' : Hp} (f : Keep H H') : ∀ {vs : List V} {ds : List PyData}, Dts N H vs ds → Dts N H' vs ds
  | _, _, .nil => .nil
  | _, _, .cons x t => .cons (Dt.keep f x) (Dts.keep f t)
end
theorem Dts.refT {α : Type} {N : List Addr} {H : Hp} {f : α → PyData} (hf : ∀ a, ∃ es, f a = .tuple es) {l : List α} {vs : List V} {i : Nat} {v : V} (t : Dts N H vs (l.map f)) (h : vs[i]? = some v) : ∃ p ws, v = .ref p ∧ H p = some (.tup ws) := by
  obtain ⟨d, e, x⟩ := t.get h
  rw [List.getElem?_map] at e
  cases el : l[i]? with
  | none =>
    rw [el] at e
    cases e
  | some a =>
    rw [el] at e
    have e2 := Option.some.inj e
    obtain ⟨es, g⟩ := hf a
    rw [← e2, g] at x
    obtain ⟨p, ws, e3, _, e4, _⟩ := x.isT
    exact ⟨p, ws, e3, e4⟩

def codesZ (z : Str) : List Int := z.cps.toList.map fun (n : Nat) => (n : Int)
def strPart (z : Str) : List Int := (z.length : Int) :: codesZ z
theorem codesZ_len (z : Str) : (codesZ z).length = z.length := by simp [codesZ, Str.length]
theorem strPart_len (z : Str) : (strPart z).length = z.length + 1 := by simp [strPart, codesZ_len]
def valPart : PyData → List Int
  | .int i => [0, i]
  | .str z => 1 :: strPart z
  | .bool b => [2, if b then 1 else 0]
  | _ => []
theorem valPart_len {d : PyData} (h : IsVal d) : (valPart d).length ≤ 10 := by
  rcases h with ⟨i, rfl⟩ | ⟨z, rfl, _, l⟩ | ⟨b, rfl⟩
  · show 2 ≤ 10
    decide
  · show (strPart z).length + 1 ≤ 10
    rw [strPart_len]
    omega
  · show 2 ≤ 10
    decide
def prRow (p : Str × PyData) : List Int := strPart p.1 ++ valPart p.2
def wdRow (w : Str × Int) : List Int := strPart w.1 ++ [w.2]
theorem prRow_len {p : Str × PyData} (h : IsVal p.2) (g : p.1.length ≤ 8) : (prRow p).length ≤ 19 := by
  unfold prRow
  rw [List.length_append, strPart_len]
  have := valPart_len h
  omega
theorem wdRow_len {w : Str × Int} (g : w.1.length ≤ 8) : (wdRow w).length ≤ 10 := by
  unfold wdRow
  rw [List.length_append, strPart_len]
  simp
  omega
theorem flat_len {α : Type} {f : α → List Int} {c : Nat} : ∀ {l : List α}, (∀ x ∈ l, (f x).length ≤ c) → (l.flatMap f).length ≤ l.length * c
  | [], _ => by simp
  | x :: r, h => by
    have h1 := h x (List.mem_cons_self ..)
    have h2 := flat_len (l := r) fun y hy => h y (List.mem_cons_of_mem _ hy)
    rw [List.flatMap_cons, List.length_append, List.length_cons, Nat.succ_mul]
    omega
theorem flat_take {α : Type} {f : α → List Int} {l : List α} {i : Nat} {x : α} (h : l[i]? = some x) : (l.take (i + 1)).flatMap f = (l.take i).flatMap f ++ f x := by
  rw [List.take_add_one, h, List.flatMap_append]
  simp
def row0 (n : Int) (z : Str) (vec : List Int) (k : Nat) : List Int := [n] ++ strPart z ++ [(vec.length : Int)] ++ vec ++ [(k : Int)]
def row1 (n : Int) (z : Str) (vec : List Int) (ps : List (Str × PyData)) : List Int := row0 n z vec ps.length ++ ps.flatMap prRow
def rowZ (n : Int) (z : Str) (vec : List Int) (ps : List (Str × PyData)) (ws : List (Str × Int)) : List Int := row1 n z vec ps ++ [(ws.length : Int)] ++ ws.flatMap wdRow
/-- a record stands at r -/
def RecAt (N : List Addr) (C : Addr) (H : Hp) (r : Addr) (z : Str) (vec : List Int) (ps : List (Str × PyData)) (ws : List (Str × Int)) : Prop := r ∉ N ∧ ∃ dx tv tf tw, H r = some (.ins C dx (ff_Record (.str z) (.ref tv) (.ref tf) (.ref tw))) ∧
  tv ∉ N ∧ H tv = some (.tup (vec.map V.int)) ∧ Dt N H (.ref tf) (.tuple (ps.map prD)) ∧ Dt N H (.ref tw) (.tuple (ws.map wdD))
theorem RecAt.mono {N M : List Addr} {C : Addr} {H H' : Hp} {r : Addr} {z : Str} {vec : List Int} {ps : List (Str × PyData)} {ws : List (Str × Int)} (R : RecAt N C H r z vec ps ws) (f : ∀ a o, a ∉ N → H a = some o → a ∉ M ∧ H' a = some o) : RecAt M C H' r z vec ps ws := by
  obtain ⟨n, dx, tv, tf, tw, h1, n2, h2, h3, h4⟩ := R
  exact ⟨(f _ _ n h1).1, dx, tv, tf, tw, (f _ _ n h1).2, (f _ _ n2 h2).1, (f _ _ n2 h2).2, h3.mono f, h4.mono f⟩
theorem RecAt.same {N : List Addr} {C : Addr} {H H' : Hp} {r : Addr} {z : Str} {vec : List Int} {ps : List (Str × PyData)} {ws : List (Str × Int)} (R : RecAt N C H r z vec ps ws) (f : Same H H') : RecAt N C H' r z vec ps ws := R.mono fun a o n e => ⟨n, f a o e⟩
theorem RecAt.fr {N : List Addr} {C : Addr} {H H' : Hp} {st r : Addr} {z : Str} {vec : List Int} {ps : List (Str × PyData)} {ws : List (Str × Int)} (R : RecAt N C H r z vec ps ws) (f : Fr st H H') (m : st ∈ N) : RecAt N C H' r z vec ps ws := R.mono fun a o n e => ⟨n, f a o e fun z => by rw [z] at n; exact n m⟩
theorem RecAt.nil {N : List Addr} {C : Addr} {H : Hp} {r : Addr} {z : Str} {vec : List Int} {ps : List (Str × PyData)} {ws : List (Str × Int)} (R : RecAt N C H r z vec ps ws) : RecAt [] C H r z vec ps ws := R.mono fun a o n e => ⟨(fun z => by cases z), e⟩
theorem RecAt.away {N : List Addr} {C : Addr} {H : Hp} {k r : Addr} {z : Str} {vec : List Int} {ps : List (Str × PyData)} {ws : List (Str × Int)} (R : RecAt N C H r z vec ps ws) (h : H k = none) : RecAt (k :: N) C H r z vec ps ws := R.mono fun a o n e => ⟨fun z => by
  rcases List.mem_cons.mp z with y | y
  · rw [y, h] at e; cases e
  · exact n y, e⟩
theorem RecAt.upd {N : List Addr} {C : Addr} {H : Hp} {k r : Addr} {o : HO} {z : Str} {vec : List Int} {ps : List (Str × PyData)} {ws : List (Str × Int)} (R : RecAt N C H r z vec ps ws) (m : k ∈ N) : RecAt N C (L2.upd H k o) r z vec ps ws := R.mono fun a u n e => ⟨n, by rw [upd_ne fun z => by rw [z] at n; exact n m]; exact e⟩
theorem IsVal.any {d : PyData} (g : IsVal d) {N M : List Addr} {H : Hp} {v : V} (h : Dt N H v d) : Dt M H v d := by
  rcases g with ⟨i, rfl⟩ | ⟨z, rfl, _⟩ | ⟨b, rfl⟩
  · rw [h.isI]; exact .int i
  · rw [h.isS]; exact .str z
  · cases h; exact .bl b
theorem offL {α : Type} {st : Addr} {H : Hp} {xs : List V} {f : α → Str × PyData} (hs : H st = some (.lst xs)) : ∀ {l : List α} {vs : List V}, (∀ a ∈ l, IsVal (f a).2) → Dts [] H vs (l.map fun a => .tuple [.str (f a).1, (f a).2]) → Dts [st] H vs (l.map fun a => .tuple [.str (f a).1, (f a).2])
  | [], _, _, .nil => .nil
  | a :: r, _, g, .cons x t => by
    obtain ⟨p, w, rfl, _, e, y⟩ := x.isP
    refine .cons (.tup (not_in1 fun z => ?_) e (.cons (.str _) (.cons ((g a (List.mem_cons_self ..)).any y) .nil))) (offL hs (fun b hb => g b (List.mem_cons_of_mem _ hb)) t)
    rw [z, hs] at e
    cases e
theorem RecAt.off {st : Addr} {C : Addr} {H : Hp} {xs : List V} {r : Addr} {z : Str} {vec : List Int} {ps : List (Str × PyData)} {ws : List (Str × Int)} (R : RecAt [] C H r z vec ps ws) (hs : H st = some (.lst xs)) (g : ∀ p ∈ ps, IsVal p.2) : RecAt [st] C H r z vec ps ws := by
  obtain ⟨n, dx, tv, tf, tw, h1, n2, h2, h3, h4⟩ := R
  obtain ⟨p3, v3, e3, _, g3, t3⟩ := h3.isT
  obtain ⟨p4, v4, e4, _, g4, t4⟩ := h4.isT
  cases e3
  cases e4
  refine ⟨not_in1 fun z => ?_, dx, tv, tf, tw, h1, not_in1 fun z => ?_, h2, .tup (not_in1 fun z => ?_) g3 (offL (f := id) hs g t3), .tup (not_in1 fun z => ?_) g4 (offL (f := fun w : Str × Int => (w.1, .int w.2)) hs (fun a _ => .inl ⟨_, rfl⟩) t4)⟩
  · rw [z, hs] at h1; cases h1
  · rw [z, hs] at h2; cases h2
  · rw [z, hs] at g3; cases g3
  · rw [z, hs] at g4; cases g4
/-- flat values -/
theorem val_cases {N : List Addr} {H : Hp} {v : V} {d : PyData} (h : Dt N H v d) (g : IsVal d) : (∃ i, v = .int i ∧ d = .int i) ∨ (∃ z, v = .str z ∧ d = .str z ∧ z.length ≤ 8 ∧ PyData.strOk z = true) ∨ ∃ b, v = .bl b ∧ d = .bool b := by
  rcases g with ⟨i, rfl⟩ | ⟨z, rfl, k, l⟩ | ⟨b, rfl⟩
  · exact .inl ⟨i, h.isI, rfl⟩
  · exact .inr (.inl ⟨z, h.isS, rfl, l, k⟩)
  · cases h
    exact .inr (.inr ⟨b, rfl, rfl⟩)

/-- a schema stands at r -/
def SchAt (N : List Addr) (C : Addr) (H : Hp) (r : Addr) (n : Int) (w m : Str) (fs : List (Str × Str)) : Prop := r ∉ N ∧ ∃ dx tf, H r = some (.ins C dx (ff_Schema (.int n) (.str w) (.str m) (.ref tf))) ∧ Dt N H (.ref tf) (.tuple (fs.map fdD))
theorem SchAt.mono {N M : List Addr} {C : Addr} {H H' : Hp} {r : Addr} {n : Int} {w m : Str} {fs : List (Str × Str)} (R : SchAt N C H r n w m fs) (f : ∀ a o, a ∉ N → H a = some o → a ∉ M ∧ H' a = some o) : SchAt M C H' r n w m fs := by
  obtain ⟨k, dx, tf, h1, h2⟩ := R
  exact ⟨(f _ _ k h1).1, dx, tf, (f _ _ k h1).2, h2.mono f⟩
theorem SchAt.same {N : List Addr} {C : Addr} {H H' : Hp} {r : Addr} {n : Int} {w m : Str} {fs : List (Str × Str)} (R : SchAt N C H r n w m fs) (f : Same H H') : SchAt N C H' r n w m fs := R.mono fun a o n e => ⟨n, f a o e⟩
theorem SchAt.fr {N : List Addr} {C : Addr} {H H' : Hp} {st r : Addr} {n : Int} {w m : Str} {fs : List (Str × Str)} (R : SchAt N C H r n w m fs) (f : Fr st H H') (i : st ∈ N) : SchAt N C H' r n w m fs := R.mono fun a o n e => ⟨n, f a o e fun z => by rw [z] at n; exact n i⟩
theorem SchAt.away {N : List Addr} {C : Addr} {H : Hp} {k r : Addr} {n : Int} {w m : Str} {fs : List (Str × Str)} (R : SchAt N C H r n w m fs) (h : H k = none) : SchAt (k :: N) C H r n w m fs := R.mono fun a o n e => ⟨fun z => by
  rcases List.mem_cons.mp z with y | y
  · rw [y, h] at e; cases e
  · exact n y, e⟩
theorem SchAt.upd {N : List Addr} {C : Addr} {H : Hp} {k r : Addr} {o : HO} {n : Int} {w m : Str} {fs : List (Str × Str)} (R : SchAt N C H r n w m fs) (i : k ∈ N) : SchAt N C (L2.upd H k o) r n w m fs := R.mono fun a u n e => ⟨n, by rw [upd_ne fun z => by rw [z] at n; exact n i]; exact e⟩
theorem SchAt.nil {N : List Addr} {C : Addr} {H : Hp} {r : Addr} {n : Int} {w m : Str} {fs : List (Str × Str)} (R : SchAt N C H r n w m fs) : SchAt [] C H r n w m fs := R.mono fun a o n e => ⟨(fun z => by cases z), e⟩
theorem offF {st : Addr} {H : Hp} {xs : List V} (hs : H st = some (.lst xs)) : ∀ {fs : List (Str × Str)} {vs : List V}, Dts [] H vs (fs.map fdD) → Dts [st] H vs (fs.map fdD)
  | [], _, .nil => .nil
  | a :: r, _, .cons x t => by
    obtain ⟨p, w, rfl, _, e, y⟩ := x.isP
    rw [y.isS] at e
    refine .cons (.tup (not_in1 fun z => ?_) e (.cons (.str _) (.cons (.str _) .nil))) (offF hs t)
    rw [z, hs] at e
    cases e
theorem SchAt.off {st : Addr} {C : Addr} {H : Hp} {xs : List V} {r : Addr} {n : Int} {w m : Str} {fs : List (Str × Str)} (R : SchAt [] C H r n w m fs) (hs : H st = some (.lst xs)) : SchAt [st] C H r n w m fs := by
  obtain ⟨k, dx, tf, h1, h2⟩ := R
  obtain ⟨p3, v3, e3, _, g3, t3⟩ := h2.isT
  cases e3
  refine ⟨not_in1 fun z => ?_, dx, tf, h1, .tup (not_in1 fun z => ?_) g3 (offF hs t3)⟩
  · rw [z, hs] at h1; cases h1
  · rw [z, hs] at g3; cases g3

def sp_law_row (T : Txt w K mg) : Sp := fun vs H Q _ => ∃ (sc : Addr) (ns : List Int) (k : Int), vs = [.ref sc, .int k] ∧ (H sc = some (.lst (ns.map V.int))) ∧ (0 ≤ k) ∧ ∀ c : Int, 0 ≤ c → Q (.int c) H
set_option maxHeartbeats 4000000 in
theorem ok_law_row (T : Txt w K mg) : FnOk P w K mg base CX0 1 T.f_law_row T.d_law_row ["script", "k"] (sp_law_row T) := by
  refine T.F_law_row.ok sc_law_row (fun vs H Q E h => ?_) (fun cdv A outer s H vs Q E hr h => ?_)
  · obtain ⟨sc, ns, k, rfl, _⟩ := h
    rfl
  · obtain ⟨sc, ns, k, rfl, hS, hk, q⟩ := h
    refine ⟨_, (pss_cons (ps_set (i := 2) sc_law_row.nd rfl (.inl rfl) pe_int) 
      (pss_cut (ps_if (pt_cmpR op_lt (pv 1) (pe_callB call_len_seq (by rfl) T.m_len PySem.boot_len (pa_cons (pv 0) pa_nil)) (nomark _)) (pss_one (ps_set (i := 2) sc_law_row.nd rfl (.inl rfl) (pe_ix ix_list (pv 0) (pv 1) (fun _ _ => rfl)))) pss_nil) 
      (pss_cut (ps_if (pt_cmpR op_lt (pv 2) pe_int (nomark _)) (pss_one (ps_set (i := 2) sc_law_row.nd rfl (.inl rfl) (pe_op op_sub (pe_op op_mul (pe_un un_neg pe_int) (pv 2)) pe_int))) pss_nil) 
      (pss_cut (ps_if (pt_cmpR op_lt (pv 2) (pe_op op_pow pe_int pe_int) (nomark _)) (pss_cons (ps_set (i := 3) sc_law_row.nd rfl (.inl rfl) (pe_op op_mod (pe_callTy call_int1 (by rfl) T.m_int (by decide +kernel) (pa_cons (pe_op op_add (pe_op op_add (pe_op op_mul (pv 2) pe_int) (pe_op op_mul (pv 1) pe_int)) pe_int) pa_nil)) pe_int)) 
      (pss_cons (ps_set (i := 4) sc_law_row.nd rfl (.inl rfl) (pe_op op_mod (pe_callTy call_int1 (by rfl) T.m_int (by decide +kernel) (pa_cons (pe_op op_add (pe_op op_add (pe_op op_add (pe_op op_mul (pv 3) pe_int) (pe_op op_mul (pv 2) pe_int)) (pv 1)) pe_int) pa_nil)) pe_int)) 
      (pss_cons (ps_set (i := 5) sc_law_row.nd rfl (.inl rfl) (pe_op op_mod (pe_callTy call_int1 (by rfl) T.m_int (by decide +kernel) (pa_cons (pe_op op_add (pe_op op_add (pe_op op_mul (pv 4) pe_int) (pe_op op_mul (pv 3) (pv 4))) pe_int) pa_nil)) pe_int)) 
      (pss_one (ps_set (i := 2) sc_law_row.nd rfl (.inl rfl) (pe_op op_add (pe_op op_add (pv 3) (pe_op op_mul (pv 4) pe_int)) (pe_op op_mul (pv 5) (pe_op op_pow pe_int pe_int)))))))) pss_nil) 
      (pss_one (ps_ret (pv 2))))))), ?_⟩
    -- if k < len(script): cell = script[k]
    refine ⟨fun σ' H' => H' = H ∧ ∃ c : Int, σ' = [some (.ref sc), some (.int k), some (.int c), none, none, none], ?_, ?_⟩
    · refine ⟨_, rfl, _, rfl, sc, _, rfl, .inl (SqL.of hS), _, _, rfl, rfl, _, rfl, ite2 (fun e => ?_) (fun e => ?_)⟩
      · have hl : k < ((ns.map V.int).length : Int) := of_decide_eq_true e
        rw [List.length_map] at hl
        obtain ⟨c, hc⟩ := item_map hk hl
        exact ⟨_, rfl, _, rfl, sc, _, k, _, rfl, rfl, SqL.of hS, hc, rfl, c, rfl⟩
      · exact ⟨rfl, 0, rfl⟩
    rintro σ' H' ⟨rfl, c, rfl⟩
    -- if cell < 0: cell = -2 * cell - 1
    refine ⟨fun σ' H2 => H2 = H' ∧ ∃ c : Int, 0 ≤ c ∧ σ' = [some (.ref sc), some (.int k), some (.int c), none, none, none], ?_, ?_⟩
    · refine ⟨_, rfl, _, _, rfl, rfl, _, rfl, ite2 (fun e => ?_) (fun e => ?_)⟩
      · have hc : c < 0 := of_decide_eq_true e
        refine ⟨2, rfl, _, rfl, _, _, rfl, rfl, .inl ⟨by decide, by decide⟩, _, _, rfl, rfl, rfl, _, ?_, rfl⟩
        omega
      · have hc : ¬ c < 0 := fun h => e (decide_eq_true h)
        exact ⟨rfl, c, by omega, rfl⟩
    rintro σ' H2 ⟨rfl, c, hc, rfl⟩
    -- if cell < 10 ** 9: ..
    refine ⟨fun σ' H' => H' = H2 ∧ ∃ (c : Int) (x y z : Option V), 0 ≤ c ∧ σ' = [some (.ref sc), some (.int k), some (.int c), x, y, z], ?_, ?_⟩
    · refine ⟨_, rfl, _, _, rfl, rfl, ⟨by decide, by decide, by decide⟩, _, _, rfl, rfl, _, rfl, ite2 (fun e => ?_) (fun e => ?_)⟩
      · have h9 : c < 10 ^ 9 := of_decide_eq_true e
        refine ⟨_, rfl, _, _, rfl, rfl, .inr ⟨by decide, by decide⟩, _, rfl, _, _, rfl, rfl, .inr ⟨by decide, by decide⟩, _, _, rfl, rfl, _, _, rfl, rfl, .inl ⟨_, rfl, ?_⟩⟩
        refine ⟨_, _, rfl, rfl, (by decide : (0 : Int) < 2147483647), ?_⟩
        dsimp only
        generalize ha : (c * 48271 + k * 69621 + 11) % 2147483647 = a
        have a0 : 0 ≤ a := by rw [← ha]; exact Int.emod_nonneg _ (by decide)
        have a1 : a < 2147483647 := by rw [← ha]; exact Int.emod_lt_of_pos _ (by decide)
        refine ⟨_, rfl, _, _, rfl, rfl, .inr ⟨by decide, by decide⟩, _, rfl, _, _, rfl, rfl, .inr ⟨by decide, by decide⟩, _, _, rfl, rfl, _, rfl, _, _, rfl, rfl, _, _, rfl, rfl, .inl ⟨_, rfl, ?_⟩⟩
        refine ⟨_, _, rfl, rfl, (by decide : (0 : Int) < 2147483629), ?_⟩
        dsimp only
        generalize hb : (a * 16807 + c * 7 + k + 5) % 2147483629 = b
        have b0 : 0 ≤ b := by rw [← hb]; exact Int.emod_nonneg _ (by decide)
        have b1 : b < 2147483629 := by rw [← hb]; exact Int.emod_lt_of_pos _ (by decide)
        refine ⟨_, rfl, _, _, rfl, rfl, .inr ⟨by decide, by decide⟩, _, rfl, _, rfl, _, _, rfl, rfl, .inl ⟨by omega, by omega⟩, _, _, rfl, rfl, _, _, rfl, rfl, .inl ⟨_, rfl, ?_⟩⟩
        refine ⟨_, _, rfl, rfl, (by decide : (0 : Int) < 2147483587), ?_⟩
        dsimp only
        generalize hd : (b * 39373 + a * b + 3) % 2147483587 = d
        have d0 : 0 ≤ d := by rw [← hd]; exact Int.emod_nonneg _ (by decide)
        refine ⟨_, rfl, _, rfl, _, _, rfl, rfl, .inr ⟨by decide, by decide⟩, _, _, rfl, rfl, _, rfl, _, _, rfl, rfl, ⟨by decide, by decide, by decide⟩, _, _, rfl, rfl, .inr ⟨by decide, by decide⟩, _, _, rfl, rfl, rfl, _, _, _, _, ?_, rfl⟩
        have e2 : (2147483647 : Int) ^ (2 : Int).toNat = 4611686014132420609 := by decide
        rw [e2]
        omega
      · exact ⟨rfl, c, _, _, _, hc, rfl⟩
    rintro σ' H' ⟨rfl, c, x, y, z, hc, rfl⟩
    exact ⟨_, rfl, q c hc⟩
def sp_law_next (T : Txt w K mg) : Sp := fun vs H Q _ => ∃ (st sc : Addr) (m : Int), vs = [.ref st, .int m] ∧ (StAt H st sc) ∧ (0 < m) ∧ (m.natAbs < 2 ^ 200) ∧ ∀ (d : Int) (H' : Hp), 0 ≤ d → d < m → StAt H' st sc → Oth st H H' → Q (.int d) H'
set_option maxHeartbeats 4000000 in
theorem ok_law_next (T : Txt w K mg) : FnOk P w K mg base CX0 2 T.f_law_next T.d_law_next ["state", "many"] (sp_law_next T) := by
  have G_law_row : FnOk P w K mg base CX0 1 T.f_law_row T.d_law_row ["script", "k"] (sp_law_row T) := ok_law_row T
  refine T.F_law_next.ok sc_law_next (fun vs H Q E h => ?_) (fun cdv A outer s H vs Q E hr h => ?_)
  · obtain ⟨st, sc, m, rfl, _⟩ := h
    rfl
  · obtain ⟨st, sc, m, rfl, hS, m0, m1, q⟩ := h
    refine ⟨_, (pss_cut (ps_if (pt_cmpR op_lt (pe_ix ix_list (pv 0) pe_int (fun _ _ => rfl)) (pv 1) (nomark _)) (pss_cons (ps_asg (pe_call G_law_row (hr.mono (by decide)) (by rfl) T.g_law_row T.F_law_row.kp T.b_law_row .nil pass0 (pa_cons (pe_ix ix_list (pv 0) pe_int (fun _ _ => rfl)) (pa_cons (pe_ix ix_list (pv 0) pe_int (fun _ _ => rfl)) pa_nil))) (pg_sub (pv 0) pe_int set_list)) 
      (pss_one (ps_asg (pe_op op_add (pe_ix ix_list (pv 0) pe_int (fun _ _ => rfl)) pe_int) (pg_sub (pv 0) pe_int set_list)))) pss_nil) 
      (pss_cons (ps_set (i := 2) sc_law_next.nd rfl (.inl rfl) (pe_op op_mod (pe_callTy call_int1 (by rfl) T.m_int (by decide +kernel) (pa_cons (pe_ix ix_list (pv 0) pe_int (fun _ _ => rfl)) pa_nil)) (pv 1))) 
      (pss_cons (ps_asg (pe_op op_fdivW (pe_ix ix_list (pv 0) pe_int (fun _ _ => rfl)) (pv 1)) (pg_sub (pv 0) pe_int set_list)) 
      (pss_one (ps_ret (pv 2)))))), ?_⟩
    -- if state[2] < many: ..
    refine ⟨fun σ' H' => Oth st H H' ∧ StAt H' st sc ∧ σ' = [some (.ref st), some (.int m), none], ?_, ?_⟩
    · obtain ⟨ns, k, x, h1, h2, k0, x0, hn⟩ := id hS
      have hne : sc ≠ st := fun e => by
        rw [e, h1] at h2
        have z := HO.lst.inj (Option.some.inj h2)
        cases ns with
        | nil => cases z
        | cons y r =>
          have z2 := (List.cons.inj z).1
          cases z2
      refine ⟨_, rfl, st, _, _, _, rfl, rfl, SqL.of h1, at_of (j := 2) rfl rfl, _, rfl, _, _, rfl, rfl, _, rfl, ite2 (fun e => ?_) (fun e => ?_)⟩
      · refine ⟨_, rfl, st, _, _, _, rfl, rfl, SqL.of h1, at_of (j := 0) rfl rfl, _, rfl, st, _, _, _, rfl, rfl, SqL.of h1, at_of (j := 1) rfl rfl, sc, ns, k, rfl, h2, k0, fun c c0 => ?_⟩
        refine ⟨_, rfl, st, _, _, 2, rfl, rfl, h1, rfl, ?_⟩
        refine ⟨_, rfl, st, _, _, _, rfl, rfl, SqL.of upd_same, at_of (j := 1) rfl rfl, _, _, rfl, rfl, _, rfl, st, _, _, 1, rfl, rfl, upd_same, rfl, ?_⟩
        refine ⟨fun b hb => ?_, ⟨ns, k + 1, c, upd_same, ?_, by omega, c0, hn⟩, rfl⟩
        · rw [upd_ne hb, upd_ne hb]
        · rw [upd_ne hne, upd_ne hne]
          exact h2
      · exact ⟨Oth.refl _ _, hS, rfl⟩
    rintro σ' H' ⟨hO, ⟨ns, k, x, h1, h2, k0, x0, hn⟩, rfl⟩
    have hne : sc ≠ st := fun e => by
      rw [e, h1] at h2
      have z := HO.lst.inj (Option.some.inj h2)
      cases ns with
      | nil => cases z
      | cons y r =>
        have z2 := (List.cons.inj z).1
        cases z2
    -- drawn = int(state[2]) % many
    refine ⟨_, rfl, st, _, _, _, rfl, rfl, SqL.of h1, at_of (j := 2) rfl rfl, .inl ⟨_, rfl, ?_⟩⟩
    refine ⟨_, rfl, _, _, rfl, rfl, m0, ?_⟩
    -- state[2] = state[2] // many
    refine ⟨_, rfl, st, _, _, _, rfl, rfl, SqL.of h1, at_of (j := 2) rfl rfl, _, rfl, _, _, rfl, rfl, wide_div m0 m1 (by decide) (by decide), ?_⟩
    refine ⟨_, rfl, st, _, _, 2, rfl, rfl, h1, rfl, ?_⟩
    refine ⟨_, rfl, q _ _ (Int.emod_nonneg _ (by omega)) (Int.emod_lt_of_pos _ m0) ⟨ns, k, x / m, upd_same, ?_, k0, Int.ediv_nonneg x0 (by omega), hn⟩ (hO.trans fun b hb => upd_ne hb)⟩
    rw [upd_ne hne]
    exact h2
def sp_law_fields (T : Txt w K mg) : Sp := fun vs H Q _ => ∃ (st sc : Addr), vs = [.ref st] ∧ (StAt H st sc) ∧ ∀ (p : Addr) (fs : List (Str × Str)) (H' : Hp), FieldsOk fs → H p = none → Dt [st] H' (.ref p) (.list (fs.map fdD)) → StAt H' st sc → Fr st H H' → Q (.ref p) H'
set_option maxHeartbeats 4000000 in
theorem ok_law_fields (T : Txt w K mg) : FnOk P w K mg base CX0 3 T.f_law_fields T.d_law_fields ["state"] (sp_law_fields T) := by
  have G_law_next : FnOk P w K mg base CX0 2 T.f_law_next T.d_law_next ["state", "many"] (sp_law_next T) := ok_law_next T
  refine T.F_law_fields.ok sc_law_fields (fun vs H Q E h => ?_) (fun cdv A outer s H vs Q E hr h => ?_)
  · obtain ⟨st, sc, rfl, _⟩ := h
    rfl
  · obtain ⟨st, sc, rfl, hS, q⟩ := h
    refine ⟨_, (pss_cons (ps_set (i := 1) sc_law_fields.nd rfl (.inl rfl) (pe_lst pa_nil)) 
      (pss_cons (ps_for PassesOwn.never rfl (pi_range1 rfl T.m_range (pa_cons (pe_call G_law_next (hr.mono (by decide)) (by rfl) T.g_law_next T.F_law_next.kp T.b_law_next .nil pass0 (pa_cons (pv 0) (pa_cons pe_int pa_nil))) pa_nil)) (pg_name (i := 2) sc_law_fields.nd rfl (.inl rfl)) (pss_cons (ps_set (i := 3) sc_law_fields.nd rfl (.inl rfl) (pe_ix ix_list (pe_lst (pa_cons pe_str (pa_cons pe_str (pa_cons pe_str (pa_cons pe_str pa_nil))))) (pv 2) (fun _ _ => rfl))) 
      (pss_one (ps_expr (pe_bm PySem.F.plainAttrs_list PySem.F.slot_list_append PySem.F.type_list_append mt_append (pv 1) (pa_cons (pe_tup (pa_cons (pv 3) (pa_cons (pe_ix ix_list (pe_lst (pa_cons pe_str (pa_cons pe_str (pa_cons pe_str pa_nil)))) (pe_call G_law_next (hr.mono (by decide)) (by rfl) T.g_law_next T.F_law_next.kp T.b_law_next .nil pass0 (pa_cons (pv 0) (pa_cons pe_int pa_nil))) (fun _ _ => rfl)) pa_nil))) pa_nil)))))) 
      (pss_one (ps_ret (pv 1))))), ?_⟩
    refine ⟨Nat.zero_le _, fun D hD => ?_⟩
    have nD : D ≠ st := st_new hS hD
    refine ⟨_, rfl, st, sc, 4, rfl, hS.new hD, by decide, by decide +kernel, fun n H1 n0 n1 hS1 o1 => ?_⟩
    have B1 : Bl [st] D H1 [] := (Bl.nil (N := [st]) (H := H)).fr nD in1 o1.fr
    refine ⟨n, rfl, by omega, by omega, for_range (lo := 0) (n := n.toNat) (fun i σ H' => Fr st H H' ∧ StAt H' st sc ∧ ∃ (fs : List (Str × Str)) (x2 x3 : Option V), fs.length = i ∧ FieldsOk fs ∧ Bl [st] D H' (fs.map fdD) ∧ σ = [some (.ref st), some (.ref D), x2, x3]) ⟨(Fr.new hD).trans o1.fr, hS1, [], none, none, rfl, ⟨by decide, rfl, fun f hf => nomatch hf⟩, B1, rfl⟩ ?_ ?_⟩
    · rintro i σ H2 hi ⟨f2, hS2, fs, x2, x3, hl, ok, B2, rfl⟩
      have e0 : (0 : Int) + (i : Int) = (i : Int) := by omega
      obtain ⟨nm, hnm, hnm2⟩ : ∃ nm, [V.str "a", V.str "b", V.str "note", V.str "_x"][i]? = some (.str nm) ∧ NAME4[i]? = some nm := by
        have : i = 0 ∨ i = 1 ∨ i = 2 := by omega
        rcases this with rfl | rfl | rfl
        · exact ⟨_, rfl, rfl⟩
        · exact ⟨_, rfl, rfl⟩
        · exact ⟨_, rfl, rfl⟩
      refine ⟨(by show 4 ≤ sizeLine; decide), fun l1 hl1 => ⟨_, rfl, l1, _, _, _, rfl, rfl, SqL.of upd_same, at_of e0 hnm, ?_⟩⟩
      have B3 := B2.same (same_new (o := .lst [V.str "a", V.str "b", V.str "note", V.str "_x"]) hl1)
      have f3 := f2.trans (same_fr (st := st) (same_new (o := .lst [V.str "a", V.str "b", V.str "note", V.str "_x"]) hl1))
      have hS3 := hS2.new (o := .lst [V.str "a", V.str "b", V.str "note", V.str "_x"]) hl1
      generalize upd H2 l1 (.lst [V.str "a", V.str "b", V.str "note", V.str "_x"]) = H3 at B3 f3 hS3 ⊢
      obtain ⟨vs3, d3, t3⟩ := id B3
      refine ⟨_, rfl, .inl ⟨rfl, _, SqL.of d3⟩, _, rfl, (by show 3 ≤ sizeLine; decide), fun l2 hl2 => ⟨_, rfl, st, sc, 3, rfl, hS3.new hl2, by decide, by decide +kernel, fun k H4 k0 k1 hS4 o4 => ?_⟩⟩
      obtain ⟨kd, hkd, kd3⟩ := pickS (xs := KIND3) k0 k1
      have B4 := (B3.same (same_new (o := .lst [V.str "integer", V.str "text", V.str "flag"]) hl2)).fr nD in1 o4.fr
      have f4 := f3.trans ((same_fr (st := st) (same_new (o := .lst [V.str "integer", V.str "text", V.str "flag"]) hl2)).trans o4.fr)
      refine ⟨l2, _, k, _, rfl, rfl, SqL.of ((o4 l2 (st_new hS3 hl2)).trans upd_same), hkd, (by show 2 ≤ sizeLine; decide), fun t ht => ?_⟩
      have B5 := B4.same (same_new (o := .tup [.str nm, .str kd]) ht)
      have f5 := f4.trans (same_fr (st := st) (same_new (o := .tup [.str nm, .str kd]) ht))
      have hS5 := hS4.new (o := .tup [.str nm, .str kd]) ht
      obtain ⟨vs4, d4, _⟩ := id B4
      have x5 : Dt [D, st] (upd H4 t (.tup [.str nm, .str kd])) (.ref t) (fdD (nm, kd)) := .tup (not_in2 (ne_of_none d4 ht).symm (st_new hS4 ht)) upd_same (.cons (.str _) (.cons (.str _) .nil))
      generalize upd H4 t (.tup [.str nm, .str kd]) = H5 at B5 f5 hS5 x5 ⊢
      obtain ⟨vs5, d5, t5⟩ := B5
      have l5 := t5.length
      rw [List.length_map] at l5
      refine ⟨D, _, _, rfl, rfl, d5, len_le (by omega), f5.set hD, hS5.set hS hD, fs ++ [(nm, kd)], _, _, by simp [hl], FieldsOk.snoc (by omega) ok.names ok.kinds (by rw [hl]; exact hnm2) kd3, ?_, rfl⟩
      rw [List.map_append]
      exact Bl.push d5 t5 x5
    · rintro σ H2 ⟨f2, hS2, fs, x2, x3, hl, ok, B2, rfl⟩
      exact ⟨_, rfl, q D fs H2 ok hD (B2.done (not_in1 nD)) hS2 f2⟩
def sp_law_schema (T : Txt w K mg) : Sp := fun vs H Q _ => ∃ (st sc : Addr), vs = [.ref st] ∧ (StAt H st sc) ∧ ∀ (t pf : Addr) (n : Int) (w m : Str) (fs : List (Str × Str)) (H' : Hp), 1 ≤ n → n ≤ 4 → w ∈ WIDE3 → m ∈ MEAS3 → (m = "bits" → w = "bit") → FieldsOk fs → t ≠ st → H t = none → H' t = some (.tup [.int n, .str w, .str m, .ref pf]) → Dt [st] H' (.ref pf) (.list (fs.map fdD)) → StAt H' st sc → Fr st H H' → Q (.ref t) H'
set_option maxHeartbeats 4000000 in
theorem ok_law_schema (T : Txt w K mg) : FnOk P w K mg base CX0 4 T.f_law_schema T.d_law_schema ["state"] (sp_law_schema T) := by
  have G_law_fields : FnOk P w K mg base CX0 3 T.f_law_fields T.d_law_fields ["state"] (sp_law_fields T) := ok_law_fields T
  have G_law_next : FnOk P w K mg base CX0 2 T.f_law_next T.d_law_next ["state", "many"] (sp_law_next T) := ok_law_next T
  refine T.F_law_schema.ok sc_law_schema (fun vs H Q E h => ?_) (fun cdv A outer s H vs Q E hr h => ?_)
  · obtain ⟨st, sc, rfl, _⟩ := h
    rfl
  · obtain ⟨st, sc, rfl, hS, q⟩ := h
    refine ⟨_, (pss_cons (ps_set (i := 1) sc_law_schema.nd rfl (.inl rfl) (pe_ix ix_list (pe_lst (pa_cons pe_str (pa_cons pe_str (pa_cons pe_str pa_nil)))) (pe_call G_law_next (hr.mono (by decide)) (by rfl) T.g_law_next T.F_law_next.kp T.b_law_next .nil pass0 (pa_cons (pv 0) (pa_cons pe_int pa_nil))) (fun _ _ => rfl))) 
      (pss_cons (ps_set (i := 2) sc_law_schema.nd rfl (.inl rfl) (pe_ix ix_list (pe_lst (pa_cons pe_str (pa_cons pe_str (pa_cons pe_str pa_nil)))) (pe_call G_law_next (hr.mono (by decide)) (by rfl) T.g_law_next T.F_law_next.kp T.b_law_next .nil pass0 (pa_cons (pv 0) (pa_cons pe_int pa_nil))) (fun _ _ => rfl))) 
      (pss_cut (ps_if (pt_cmpR op_eq (pv 2) pe_str (nomark _)) (pss_one (ps_set (i := 1) sc_law_schema.nd rfl (.inl rfl) pe_str)) pss_nil) 
      (pss_one (ps_ret (pe_tup (pa_cons (pe_op op_add pe_int (pe_call G_law_next (hr.mono (by decide)) (by rfl) T.g_law_next T.F_law_next.kp T.b_law_next .nil pass0 (pa_cons (pv 0) (pa_cons pe_int pa_nil)))) (pa_cons (pv 1) (pa_cons (pv 2) (pa_cons (pe_call G_law_fields (hr.mono (by decide)) (by rfl) T.g_law_fields T.F_law_fields.kp T.b_law_fields .nil pass0 (pa_cons (pv 0) pa_nil)) pa_nil)))))))))), ?_⟩
    refine ⟨(by show 3 ≤ sizeLine; decide), fun l1 hl1 => ⟨_, rfl, st, sc, 3, rfl, hS.new hl1, by decide, by decide +kernel, fun k H1 k0 k1 hS1 o1 => ?_⟩⟩
    obtain ⟨w, hw, w3⟩ := pickS (xs := WIDE3) k0 k1
    have f1 := (same_fr (st := st) (same_new (o := .lst [V.str "bit", V.str "small", V.str "wide"]) hl1)).trans o1.fr
    refine ⟨l1, _, k, _, rfl, rfl, SqL.of ((o1 l1 (st_new hS hl1)).trans upd_same), hw, ?_⟩
    refine ⟨(by show 3 ≤ sizeLine; decide), fun l2 hl2 => ⟨_, rfl, st, sc, 3, rfl, hS1.new hl2, by decide, by decide +kernel, fun j H2 j0 j1 hS2 o2 => ?_⟩⟩
    obtain ⟨m, hm, m3⟩ := pickS (xs := MEAS3) j0 j1
    have f2 := f1.trans ((same_fr (st := st) (same_new (o := .lst [V.str "square", V.str "dot", V.str "bits"]) hl2)).trans o2.fr)
    refine ⟨l2, _, j, _, rfl, rfl, SqL.of ((o2 l2 (st_new hS1 hl2)).trans upd_same), hm, ?_⟩
    refine ⟨fun σ' H' => H' = H2 ∧ ∃ w' : Str, w' ∈ WIDE3 ∧ (m = "bits" → w' = "bit") ∧ σ' = [some (.ref st), some (.str w'), some (.str m)], ?_, ?_⟩
    · refine ⟨_, rfl, rfl, _, rfl, ite2 (fun _ => ?_) (fun e => ?_)⟩
      · exact ⟨rfl, "bit", by decide +kernel, fun _ => rfl, rfl⟩
      · exact ⟨rfl, w, w3, fun h => absurd (decide_eq_true (congrArg V.str h)) e, rfl⟩
    rintro σ' H' ⟨rfl, w', w3', hb, rfl⟩
    refine ⟨_, rfl, st, sc, 4, rfl, hS2, by decide, by decide +kernel, fun n H3 n0 n1 hS3 o3 => ?_⟩
    refine ⟨_, _, rfl, rfl, _, rfl, _, rfl, _, rfl, st, sc, rfl, hS3, fun p fs H4 ok hp x4 hS4 f4 => ⟨(by show 4 ≤ sizeLine; decide), fun t ht => ?_⟩⟩
    have f5 := (f2.trans o3.fr).trans (f4.trans (same_fr (st := st) (same_new (o := .tup [.int (1 + n), .str w', .str m, .ref p]) ht)))
    have nt : H t = none := by
      cases e : H t with
      | none => rfl
      | some o =>
        have := f5 t o e (st_new hS4 ht)
        have g := ((f2.trans o3.fr).trans f4) t o e (st_new hS4 ht)
        rw [ht] at g
        cases g
    exact q t p (1 + n) w' m fs _ (by omega) (by omega) w3' m3 hb ok (st_new hS4 ht) nt upd_same (x4.new ht) (hS4.new ht) f5
def sp_law_number (T : Txt w K mg) : Sp := fun vs H Q _ => ∃ (st sc : Addr) (w : Str), vs = [.ref st, .str w] ∧ (StAt H st sc) ∧ (w ∈ WIDE3) ∧ ∀ (v : Int) (H' : Hp), -32768 ≤ v → v ≤ 32767 → StAt H' st sc → Fr st H H' → Q (.int v) H'
set_option maxHeartbeats 4000000 in
theorem ok_law_number (T : Txt w K mg) : FnOk P w K mg base CX0 3 T.f_law_number T.d_law_number ["state", "width"] (sp_law_number T) := by
  have G_law_next : FnOk P w K mg base CX0 2 T.f_law_next T.d_law_next ["state", "many"] (sp_law_next T) := ok_law_next T
  refine T.F_law_number.ok sc_law_number (fun vs H Q E h => ?_) (fun cdv A outer s H vs Q E hr h => ?_)
  · obtain ⟨st, sc, w, rfl, _⟩ := h
    rfl
  · obtain ⟨st, sc, w, rfl, hS, hw, q⟩ := h
    refine ⟨_, (pss_cons (ps_set (i := 2) sc_law_number.nd rfl (.inl rfl) (pe_ix ix_list (pe_lst (pa_cons pe_int (pa_cons (pe_un un_neg pe_int) (pa_cons (pe_un un_neg pe_int) pa_nil)))) (pe_bm PySem.F.plainAttrs_list PySem.F.slot_list_index PySem.F.type_list_index mt_index (pe_lst (pa_cons pe_str (pa_cons pe_str (pa_cons pe_str pa_nil)))) (pa_cons (pv 1) pa_nil)) (fun _ _ => rfl))) 
      (pss_cons (ps_set (i := 3) sc_law_number.nd rfl (.inl rfl) (pe_ix ix_list (pe_lst (pa_cons pe_int (pa_cons pe_int (pa_cons pe_int pa_nil)))) (pe_bm PySem.F.plainAttrs_list PySem.F.slot_list_index PySem.F.type_list_index mt_index (pe_lst (pa_cons pe_str (pa_cons pe_str (pa_cons pe_str pa_nil)))) (pa_cons (pv 1) pa_nil)) (fun _ _ => rfl))) 
      (pss_cons (ps_if (pt_cmpR op_eq (pe_call G_law_next (hr.mono (by decide)) (by rfl) T.g_law_next T.F_law_next.kp T.b_law_next .nil pass0 (pa_cons (pv 0) (pa_cons pe_int pa_nil))) pe_int (nomark _)) (pss_one (ps_ret (pe_ix ix_list (pe_lst (pa_cons (pv 2) (pa_cons (pv 3) pa_nil))) (pe_call G_law_next (hr.mono (by decide)) (by rfl) T.g_law_next T.F_law_next.kp T.b_law_next .nil pass0 (pa_cons (pv 0) (pa_cons pe_int pa_nil))) (fun _ _ => rfl)))) pss_nil) 
      (pss_cons (ps_set (i := 4) sc_law_number.nd rfl (.inl rfl) (pe_ix ix_list (pe_lst (pa_cons pe_int (pa_cons pe_int (pa_cons (pe_op op_sub (pv 3) (pv 2)) pa_nil)))) (pe_call G_law_next (hr.mono (by decide)) (by rfl) T.g_law_next T.F_law_next.kp T.b_law_next .nil pass0 (pa_cons (pv 0) (pa_cons pe_int pa_nil))) (fun _ _ => rfl))) 
      (pss_one (ps_ret (pe_ifExp (pt_cmpR op_eq (pe_call G_law_next (hr.mono (by decide)) (by rfl) T.g_law_next T.F_law_next.kp T.b_law_next .nil pass0 (pa_cons (pv 0) (pa_cons pe_int pa_nil))) pe_int (nomark _)) (pe_callB (call_min2 rfl) (by rfl) T.m_min (by decide +kernel) (pa_cons (pv 3) (pa_cons (pe_op op_add (pe_callB (call_max2 rfl) (by rfl) T.m_max (by decide +kernel) (pa_cons (pv 2) (pa_cons pe_int pa_nil))) (pe_call G_law_next (hr.mono (by decide)) (by rfl) T.g_law_next T.F_law_next.kp T.b_law_next .nil pass0 (pa_cons (pv 0) (pa_cons (pe_op op_add (pv 4) pe_int) pa_nil)))) pa_nil))) (pe_callB (call_max2 rfl) (by rfl) T.m_max (by decide +kernel) (pa_cons (pv 2) (pa_cons (pe_un un_neg (pe_call G_law_next (hr.mono (by decide)) (by rfl) T.g_law_next T.F_law_next.kp T.b_law_next .nil pass0 (pa_cons (pv 0) (pa_cons (pe_op op_add (pv 4) pe_int) pa_nil)))) pa_nil)))))))))), ?_⟩
    obtain ⟨j, lo, hi, g1, g2, g3, g4, g5, lo1, lo2, hi1, hi2⟩ := wide3 hw
    -- low
    refine ⟨_, rfl, _, rfl, (by show 3 ≤ sizeLine; decide), fun a1 ha1 => ⟨(by show 3 ≤ sizeLine; decide), fun a2 ha2 => ⟨.inl ⟨rfl, _, SqL.of upd_same⟩, _, rfl, a2, _, _, j, _, rfl, rfl, SqL.of upd_same, rfl, by decide +kernel, g1, g2, g3, a1, _, _, _, rfl, rfl, SqL.of ((same_new ha2) _ _ upd_same), at_of rfl g4, ?_⟩⟩⟩
    have s1 := (same_new (o := .lst [V.int 0, V.int (-128), V.int (-32768)]) ha1).trans (same_new (o := .lst [V.str "bit", V.str "small", V.str "wide"]) ha2)
    generalize upd (upd H a1 (.lst [V.int 0, V.int (-128), V.int (-32768)])) a2 (.lst [V.str "bit", V.str "small", V.str "wide"]) = H1 at s1 ⊢
    -- high
    refine ⟨(by show 3 ≤ sizeLine; decide), fun a1 ha1 => ⟨(by show 3 ≤ sizeLine; decide), fun a2 ha2 => ⟨.inl ⟨rfl, _, SqL.of upd_same⟩, _, rfl, a2, _, _, j, _, rfl, rfl, SqL.of upd_same, rfl, by decide +kernel, g1, g2, g3, a1, _, _, _, rfl, rfl, SqL.of ((same_new ha2) _ _ upd_same), at_of rfl g5, ?_⟩⟩⟩
    replace s1 := s1.trans ((same_new (o := .lst [V.int 1, V.int 127, V.int 32767]) ha1).trans (same_new (o := .lst [V.str "bit", V.str "small", V.str "wide"]) ha2))
    generalize upd (upd H1 a1 (.lst [V.int 1, V.int 127, V.int 32767])) a2 (.lst [V.str "bit", V.str "small", V.str "wide"]) = H2 at s1 ⊢
    have hS2 := hS.same s1
    have f2 : Fr st H H2 := same_fr s1
    -- if _law_next(state, 5) == 0
    refine ⟨_, rfl, st, sc, 5, rfl, hS2, by decide, by decide +kernel, fun d H3 d0 d1 hS3 o3 => ⟨rfl, _, rfl, ite2 (fun _ => ?_) (fun _ => ?_)⟩⟩
    · refine ⟨_, rfl, _, rfl, (by show 2 ≤ sizeLine; decide), fun l hl => ⟨_, rfl, st, sc, 2, rfl, hS3.new hl, by decide, by decide +kernel, fun e H4 e0 e1 hS4 o4 => ?_⟩⟩
      have f4 := (f2.trans o3.fr).trans ((same_fr (st := st) (same_new (o := .lst [V.int lo, V.int hi]) hl)).trans o4.fr)
      have hl4 := (o4 l (st_new hS3 hl)).trans upd_same
      have : e = 0 ∨ e = 1 := by omega
      rcases this with rfl | rfl
      · exact ⟨l, _, 0, _, rfl, rfl, SqL.of hl4, at_of (j := 0) rfl rfl, q lo H4 (by omega) (by omega) hS4 f4⟩
      · exact ⟨l, _, 1, _, rfl, rfl, SqL.of hl4, at_of (j := 1) rfl rfl, q hi H4 (by omega) (by omega) hS4 f4⟩
    -- spread
    refine ⟨_, rfl, _, rfl, _, _, rfl, rfl, (by show 3 ≤ sizeLine; decide), fun l hl => ⟨_, rfl, st, sc, 3, rfl, hS3.new hl, by decide, by decide +kernel, fun e H4 e0 e1 hS4 o4 => ?_⟩⟩
    have f4 := (f2.trans o3.fr).trans ((same_fr (st := st) (same_new (o := .lst [V.int 1, V.int 5, V.int (hi - lo)]) hl)).trans o4.fr)
    have hl4 := (o4 l (st_new hS3 hl)).trans upd_same
    obtain ⟨sp, hsp, sp0, sp1⟩ : ∃ sp : Int, atI [V.int 1, V.int 5, V.int (hi - lo)] e = some (.int sp) ∧ 1 ≤ sp ∧ sp ≤ 65535 := by
      have : e = 0 ∨ e = 1 ∨ e = 2 := by omega
      rcases this with rfl | rfl | rfl
      · exact ⟨1, at_of (j := 0) rfl rfl, by decide, by decide⟩
      · exact ⟨5, at_of (j := 1) rfl rfl, by decide, by decide⟩
      · exact ⟨hi - lo, at_of (j := 2) rfl rfl, by omega, by omega⟩
    refine ⟨l, _, e, _, rfl, rfl, SqL.of hl4, hsp, ?_⟩
    have small : (sp + 1).natAbs < 2 ^ 200 := wide_le (j := 65536) (by omega) (by omega) (by decide +kernel)
    -- the last line
    refine ⟨_, rfl, st, sc, 2, rfl, hS4, by decide, by decide +kernel, fun u H5 u0 u1 hS5 o5 => ⟨rfl, _, rfl, ite2 (fun _ => ?_) (fun _ => ?_)⟩⟩
    · refine ⟨_, rfl, _, rfl, _, _, rfl, _, rfl, _, rfl, _, _, rfl, rfl, st, sc, _, rfl, hS5, by omega, small, fun v H6 v0 v1 hS6 o6 => ?_⟩
      refine ⟨_, _, rfl, rfl, _, _, rfl, ?_⟩
      refine q _ H6 ?_ ?_ hS6 (f4.trans (o5.fr.trans o6.fr))
      · split <;> (try split) <;> omega
      · split <;> (try split) <;> omega
    · refine ⟨_, rfl, _, rfl, _, rfl, _, _, rfl, rfl, st, sc, _, rfl, hS5, by omega, small, fun v H6 v0 v1 hS6 o6 => ⟨_, rfl, _, _, rfl, ?_⟩⟩
      refine q _ H6 ?_ ?_ hS6 (f4.trans (o5.fr.trans o6.fr))
      · split <;> omega
      · split <;> omega
def sp_law_value (T : Txt w K mg) : Sp := fun vs H Q _ => ∃ (st sc : Addr) (k : Str), vs = [.ref st, .str k] ∧ (StAt H st sc) ∧ ∀ (v : V) (d : PyData) (H' : Hp), IsVal d → (∀ N H2, Dt N H2 v d) → StAt H' st sc → Fr st H H' → Q v H'
set_option maxHeartbeats 4000000 in
theorem ok_law_value (T : Txt w K mg) : FnOk P w K mg base CX0 3 T.f_law_value T.d_law_value ["state", "kind"] (sp_law_value T) := by
  have G_law_next : FnOk P w K mg base CX0 2 T.f_law_next T.d_law_next ["state", "many"] (sp_law_next T) := ok_law_next T
  refine T.F_law_value.ok sc_law_value (fun vs H Q E h => ?_) (fun cdv A outer s H vs Q E hr h => ?_)
  · obtain ⟨st, sc, k, rfl, _⟩ := h
    rfl
  · obtain ⟨st, sc, k, rfl, hS, q⟩ := h
    refine ⟨_, (pss_cons (ps_if (pt_cmpR op_eq (pv 1) pe_str (nomark _)) (pss_one (ps_ret (pe_cmpR op_eq (pe_call G_law_next (hr.mono (by decide)) (by rfl) T.g_law_next T.F_law_next.kp T.b_law_next .nil pass0 (pa_cons (pv 0) (pa_cons pe_int pa_nil))) pe_int (nomark _)))) pss_nil) 
      (pss_cons (ps_if (pt_cmpR op_eq (pv 1) pe_str (nomark _)) (pss_one (ps_ret (pe_ix ix_list (pe_lst (pa_cons pe_str (pa_cons pe_str (pa_cons pe_str (pa_cons pe_str (pa_cons pe_str pa_nil)))))) (pe_call G_law_next (hr.mono (by decide)) (by rfl) T.g_law_next T.F_law_next.kp T.b_law_next .nil pass0 (pa_cons (pv 0) (pa_cons pe_int pa_nil))) (fun _ _ => rfl)))) pss_nil) 
      (pss_one (ps_ret (pe_op op_mul (pe_ix ix_list (pe_lst (pa_cons pe_int (pa_cons pe_int (pa_cons (pe_un un_neg pe_int) (pa_cons pe_int (pa_cons (pe_op op_pow pe_int pe_int) pa_nil)))))) (pe_call G_law_next (hr.mono (by decide)) (by rfl) T.g_law_next T.F_law_next.kp T.b_law_next .nil pass0 (pa_cons (pv 0) (pa_cons pe_int pa_nil))) (fun _ _ => rfl)) (pe_op op_add pe_int (pe_call G_law_next (hr.mono (by decide)) (by rfl) T.g_law_next T.F_law_next.kp T.b_law_next .nil pass0 (pa_cons (pv 0) (pa_cons pe_int pa_nil))))))))), ?_⟩
    refine ⟨_, rfl, rfl, _, rfl, ite2 (fun _ => ?_) (fun _ => ?_)⟩
    · refine ⟨_, rfl, st, sc, 2, rfl, hS, by decide, by decide +kernel, fun d H1 d0 d1 hS1 o1 => ⟨rfl, ?_⟩⟩
      exact q _ _ H1 (.inr (.inr ⟨_, rfl⟩)) (fun _ _ => .bl _) hS1 o1.fr
    refine ⟨_, rfl, rfl, _, rfl, ite2 (fun _ => ?_) (fun _ => ?_)⟩
    · refine ⟨(by show 5 ≤ sizeLine; decide), fun l hl => ⟨_, rfl, st, sc, 5, rfl, hS.new hl, by decide, by decide +kernel, fun d H1 d0 d1 hS1 o1 => ?_⟩⟩
      obtain ⟨z, hz, hm⟩ := pickS (xs := ["", "red", "blue", "x y", "a\\b"]) d0 d1
      have ok : PyData.strOk z = true ∧ z.length ≤ 8 := by
        clear hz q
        revert hm z
        decide +kernel
      refine ⟨l, _, d, _, rfl, rfl, SqL.of ((o1 l (st_new hS hl)).trans upd_same), hz, ?_⟩
      exact q _ _ H1 (.inr (.inl ⟨z, rfl, ok.1, ok.2⟩)) (fun _ _ => .str _) hS1 ((same_fr (same_new hl)).trans o1.fr)
    · refine ⟨_, rfl, _, _, rfl, rfl, ⟨by decide, by decide, by decide⟩, (by show 5 ≤ sizeLine; decide), fun l hl => ⟨_, rfl, st, sc, 5, rfl, hS.new hl, by decide, by decide +kernel, fun d H1 d0 d1 hS1 o1 => ?_⟩⟩
      obtain ⟨i, hi⟩ : ∃ i : Int, atI [V.int 0, V.int 1, V.int (-1), V.int 7, V.int (10 ^ (12 : Int).toNat)] d = some (.int i) := by
        have : d = 0 ∨ d = 1 ∨ d = 2 ∨ d = 3 ∨ d = 4 := by omega
        rcases this with rfl | rfl | rfl | rfl | rfl
        · exact ⟨_, at_of (j := 0) rfl rfl⟩
        · exact ⟨_, at_of (j := 1) rfl rfl⟩
        · exact ⟨_, at_of (j := 2) rfl rfl⟩
        · exact ⟨_, at_of (j := 3) rfl rfl⟩
        · exact ⟨_, at_of (j := 4) rfl rfl⟩
      refine ⟨l, _, d, _, rfl, rfl, SqL.of ((o1 l (st_new hS hl)).trans upd_same), hi, _, rfl, st, sc, 2, rfl, hS1, by decide, by decide +kernel, fun e H2 e0 e1 hS2 o2 => ?_⟩
      refine ⟨_, _, rfl, rfl, _, _, rfl, rfl, .inr ⟨by omega, by omega⟩, ?_⟩
      exact q _ _ H2 (.inl ⟨_, rfl⟩) (fun _ _ => .int _) hS2 ((same_fr (same_new hl)).trans (o1.fr.trans o2.fr))
def sp_law_pairs (T : Txt w K mg) : Sp := fun vs H Q _ => ∃ (st sc pf : Addr) (fs : List (Str × Str)), vs = [.ref st, .ref pf] ∧ (StAt H st sc) ∧ (Dt [st] H (.ref pf) (.list (fs.map fdD))) ∧ (FieldsOk fs) ∧ ∀ (p : Addr) (ps : List (Str × PyData)) (H' : Hp), PairsOk ps → H p = none → Dt [st] H' (.ref p) (.list (ps.map prD)) → StAt H' st sc → Fr st H H' → Q (.ref p) H'
set_option maxHeartbeats 4000000 in
theorem ok_law_pairs (T : Txt w K mg) : FnOk P w K mg base CX0 4 T.f_law_pairs T.d_law_pairs ["state", "fields"] (sp_law_pairs T) := by
  have G_law_next : FnOk P w K mg base CX0 2 T.f_law_next T.d_law_next ["state", "many"] (sp_law_next T) := ok_law_next T
  have G_law_value : FnOk P w K mg base CX0 3 T.f_law_value T.d_law_value ["state", "kind"] (sp_law_value T) := ok_law_value T
  refine T.F_law_pairs.ok sc_law_pairs (fun vs H Q E h => ?_) (fun cdv A outer s H vs Q E hr h => ?_)
  · obtain ⟨st, sc, pf, fs, rfl, _⟩ := h
    rfl
  · obtain ⟨st, sc, pf, fs, rfl, hS, hf, ok, q⟩ := h
    refine ⟨_, (pss_cons (ps_set (i := 2) sc_law_pairs.nd rfl (.inl rfl) (pe_lst pa_nil)) 
      (pss_cons (ps_for PassesOwn.never rfl (pi_list (pv 1)) (pg_tup rfl (pgs_cons (pg_name (i := 3) sc_law_pairs.nd rfl (.inl rfl)) (pgs_cons (pg_name (i := 4) sc_law_pairs.nd rfl (.inl rfl)) pgs_nil))) (pss_one (ps_if (pt_cmpR op_gt (pe_call G_law_next (hr.mono (by decide)) (by rfl) T.g_law_next T.F_law_next.kp T.b_law_next .nil pass0 (pa_cons (pv 0) (pa_cons pe_int pa_nil))) pe_int (nomark _)) (pss_one (ps_expr (pe_bm PySem.F.plainAttrs_list PySem.F.slot_list_append PySem.F.type_list_append mt_append (pv 2) (pa_cons (pe_tup (pa_cons (pv 3) (pa_cons (pe_call G_law_value (hr.mono (by decide)) (by rfl) T.g_law_value T.F_law_value.kp T.b_law_value .nil pass0 (pa_cons (pv 0) (pa_cons (pv 4) pa_nil))) pa_nil))) pa_nil)))) pss_nil))) 
      (pss_one (ps_ret (pv 2))))), ?_⟩
    refine ⟨Nat.zero_le _, fun D hD => ?_⟩
    have nD : D ≠ st := st_new hS hD
    have hf1 := (hf.away hD).upd (o := .lst []) (List.mem_cons_self ..)
    obtain ⟨pf', vf, ev, npf, epf, tf⟩ := hf1.isL
    cases ev
    have lf := tf.length
    rw [List.length_map] at lf
    refine ⟨_, rfl, pf, rfl, ⟨_, SqL.of epf⟩, ?_⟩
    refine for_list (K := K) (a := pf) (xs := vf) (fun i σ H' => Fr st H H' ∧ StAt H' st sc ∧ H' pf = some (.lst vf) ∧ Dts [D, st] H' vf (fs.map fdD) ∧ ∃ (ps : List (Str × PyData)) (x3 x4 : Option V), ps.length ≤ i ∧ PairsOk ps ∧ Bl [st] D H' (ps.map prD) ∧ σ = [some (.ref st), some (.ref pf), some (.ref D), x3, x4]) ⟨Fr.new hD, hS.new hD, epf, tf, [], none, none, Nat.le_refl _, ⟨by decide, fun f hf => (nomatch hf), fun f hf => (nomatch hf)⟩, Bl.nil, rfl⟩ (fun i σ H' _ h => SqL.of h.2.2.1) ?_ ?_
    · rintro i y σ H2 hy ⟨f2, hS2, e2, t2, ps, x3, x4, hl, pok, B2, rfl⟩
      obtain ⟨d, hd, xd⟩ := t2.get hy
      rw [List.getElem?_map] at hd
      cases ef : fs[i]? with
      | none =>
        rw [ef] at hd
        cases hd
      | some f =>
        rw [ef] at hd
        have := Option.some.inj hd
        subst this
        obtain ⟨t, w, rfl, nt, et, xw⟩ := xd.isP
        rw [xw.isS] at et
        have il : i < fs.length := (List.getElem?_eq_some_iff.mp ef).1
        have l3 := ok.len
        refine ⟨t, _, rfl, SqT.of et, rfl, _, _, rfl, _, _, rfl, rfl, ?_⟩
        refine ⟨_, rfl, st, sc, 3, rfl, hS2, by decide, by decide +kernel, fun k H3 k0 k1 hS3 o3 => ⟨_, _, rfl, rfl, _, rfl, ite2 (fun _ => ?_) (fun _ => ?_)⟩⟩
        · have B3 := B2.fr nD in1 o3.fr
          have f3 := f2.trans o3.fr
          obtain ⟨vs3, d3, _⟩ := id B3
          refine ⟨_, rfl, .inl ⟨rfl, _, SqL.of d3⟩, _, rfl, _, rfl, _, rfl, st, sc, f.2, rfl, hS3, fun v dd H4 iv xv hS4 f4 => ⟨(by show 2 ≤ sizeLine; decide), fun t' ht' => ?_⟩⟩
          have B4 := B3.fr nD in1 f4
          have nmem : f.1 ∈ NAME4 := by
            have h1 : f.1 ∈ fs.map (·.1) := List.mem_map_of_mem (List.mem_of_getElem? ef)
            rw [ok.names] at h1
            exact List.mem_of_mem_take h1
          have nmok : PyData.strOk f.1 = true ∧ f.1.length ≤ 8 := by
            generalize f.1 = z at nmem
            revert nmem z
            decide +kernel
          have s5 := same_new (o := .tup [.str f.1, v]) ht'
          have B5 := B4.same s5
          obtain ⟨vs4, d4, _⟩ := id B4
          have x5 : Dt [D, st] (upd H4 t' (.tup [.str f.1, v])) (.ref t') (prD (f.1, dd)) := .tup (not_in2 (ne_of_none d4 ht').symm (st_new hS4 ht')) upd_same (.cons (.str _) (.cons (xv _ _) .nil))
          have f5 := (f3.trans f4).trans (same_fr (st := st) s5)
          have hS5 := hS4.new (o := .tup [.str f.1, v]) ht'
          have e5 := s5 _ _ (f4 _ _ (o3.fr _ _ e2 (fun z => npf (z ▸ in2))) (fun z => npf (z ▸ in2)))
          have t5 := ((t2.fr o3.fr in2).fr f4 in2).same s5
          generalize upd H4 t' (.tup [.str f.1, v]) = H5 at B5 x5 f5 hS5 e5 t5 ⊢
          obtain ⟨vs5, d5, u5⟩ := B5
          have l5 := u5.length
          rw [List.length_map] at l5
          have npD : pf ≠ D := fun z => npf (z ▸ List.mem_cons_self ..)
          refine ⟨D, _, _, rfl, rfl, d5, len_le (by omega), f5.set hD, hS5.set hS hD, by rw [upd_ne npD]; exact e5, t5.upd (List.mem_cons_self ..), ps ++ [(f.1, dd)], _, _, by simp; omega, ?_, ?_, rfl⟩
          · refine ⟨by simp; omega, fun p hp => ?_, fun p hp => ?_⟩
            · rcases List.mem_append.mp hp with h | h
              · exact pok.names p h
              · rw [List.mem_singleton] at h
                subst h
                exact nmok
            · rcases List.mem_append.mp hp with h | h
              · exact pok.vals p h
              · rw [List.mem_singleton] at h
                subst h
                exact iv
          · rw [List.map_append]
            exact Bl.push d5 u5 x5
        · exact ⟨f2.trans o3.fr, hS3, o3.fr _ _ e2 (fun z => npf (z ▸ in2)), t2.fr o3.fr in2, ps, _, _, by omega, pok, B2.fr nD in1 o3.fr, rfl⟩
    · rintro σ H2 ⟨f2, hS2, e2, t2, ps, x3, x4, hl, pok, B2, rfl⟩
      exact ⟨_, rfl, q D ps H2 pok hD (B2.done (not_in1 nD)) hS2 f2⟩
def sp_law_words (T : Txt w K mg) : Sp := fun vs H Q _ => ∃ (st sc : Addr), vs = [.ref st] ∧ (StAt H st sc) ∧ ∀ (p : Addr) (ws : List (Str × Int)) (H' : Hp), WordsOk ws → H p = none → Dt [st] H' (.ref p) (.list (ws.map wdD)) → StAt H' st sc → Fr st H H' → Q (.ref p) H'
set_option maxHeartbeats 4000000 in
theorem ok_law_words (T : Txt w K mg) : FnOk P w K mg base CX0 3 T.f_law_words T.d_law_words ["state"] (sp_law_words T) := by
  have G_law_next : FnOk P w K mg base CX0 2 T.f_law_next T.d_law_next ["state", "many"] (sp_law_next T) := ok_law_next T
  refine T.F_law_words.ok sc_law_words (fun vs H Q E h => ?_) (fun cdv A outer s H vs Q E hr h => ?_)
  · obtain ⟨st, sc, rfl, _⟩ := h
    rfl
  · obtain ⟨st, sc, rfl, hS, q⟩ := h
    refine ⟨_, (pss_cons (ps_set (i := 1) sc_law_words.nd rfl (.inl rfl) (pe_lst pa_nil)) 
      (pss_cons (ps_for PassesOwn.never rfl (pi_list (pe_lst (pa_cons pe_str (pa_cons pe_str (pa_cons pe_str (pa_cons pe_str pa_nil)))))) (pg_name (i := 2) sc_law_words.nd rfl (.inl rfl)) (pss_one (ps_if (pt_cmpR op_eq (pe_call G_law_next (hr.mono (by decide)) (by rfl) T.g_law_next T.F_law_next.kp T.b_law_next .nil pass0 (pa_cons (pv 0) (pa_cons pe_int pa_nil))) pe_int (nomark _)) (pss_one (ps_expr (pe_bm PySem.F.plainAttrs_list PySem.F.slot_list_append PySem.F.type_list_append mt_append (pv 1) (pa_cons (pe_tup (pa_cons (pv 2) (pa_cons (pe_op op_add pe_int (pe_op op_mul (pe_call G_law_next (hr.mono (by decide)) (by rfl) T.g_law_next T.F_law_next.kp T.b_law_next .nil pass0 (pa_cons (pv 0) (pa_cons pe_int pa_nil))) (pe_call G_law_next (hr.mono (by decide)) (by rfl) T.g_law_next T.F_law_next.kp T.b_law_next .nil pass0 (pa_cons (pv 0) (pa_cons pe_int pa_nil))))) pa_nil))) pa_nil)))) pss_nil))) 
      (pss_one (ps_ret (pv 1))))), ?_⟩
    refine ⟨Nat.zero_le _, fun D hD => ?_⟩
    have nD : D ≠ st := st_new hS hD
    refine ⟨(by show 4 ≤ sizeLine; decide), fun l hl => ⟨l, rfl, ⟨_, SqL.of upd_same⟩, ?_⟩⟩
    have hSl := (hS.new (o := .lst []) hD).new (o := .lst [V.str "ant", V.str "bee", V.str "cow", V.str "dog"]) hl
    have nDl : D ≠ l := ne_of_none upd_same hl
    have nl : l ≠ st := st_new (hS.new (o := .lst []) hD) hl
    refine for_list (K := K) (a := l) (xs := (["ant", "bee", "cow", "dog"] : List Str).map V.str) (fun i σ H' => Fr st H H' ∧ StAt H' st sc ∧ H' l = some (.lst ((["ant", "bee", "cow", "dog"] : List Str).map V.str)) ∧ ∃ (ws : List (Str × Int)) (x2 : Option V), ws.length ≤ i ∧ WordsOk ws ∧ Bl [st] D H' (ws.map wdD) ∧ σ = [some (.ref st), some (.ref D), x2]) ⟨(Fr.new hD).trans (Fr.new hl), hSl, upd_same, [], none, Nat.le_refl _, ⟨by decide, fun f hf => (nomatch hf)⟩, Bl.nil.same (same_new hl), rfl⟩ (fun i σ H' _ h => SqL.of h.2.2.1) ?_ ?_
    · rintro i y σ H2 hy ⟨f2, hS2, e2, ws, x2, hn, wok, B2, rfl⟩
      rw [List.getElem?_map] at hy
      cases ez : (["ant", "bee", "cow", "dog"] : List Str)[i]? with
      | none =>
        rw [ez] at hy
        cases hy
      | some z =>
        rw [ez] at hy
        have := Option.some.inj hy
        subst this
        have zmem := List.mem_of_getElem? ez
        have i4 : i < 4 := (List.getElem?_eq_some_iff.mp ez).1
        have zok : PyData.strOk z = true ∧ z.length ≤ 8 := by
          clear ez hy
          revert zmem z
          decide +kernel
        refine ⟨_, rfl, st, sc, 2, rfl, hS2, by decide, by decide +kernel, fun k H3 k0 k1 hS3 o3 => ⟨rfl, _, rfl, ite2 (fun _ => ?_) (fun _ => ?_)⟩⟩
        · have B3 := B2.fr nD in1 o3.fr
          have f3 := f2.trans o3.fr
          obtain ⟨vs3, d3, _⟩ := id B3
          refine ⟨_, rfl, .inl ⟨rfl, _, SqL.of d3⟩, _, rfl, _, rfl, st, sc, 3, rfl, hS3, by decide, by decide +kernel, fun g H4 g0 g1 hS4 o4 => ⟨_, rfl, st, sc, 20, rfl, hS4, by decide, by decide +kernel, fun h H5 h0 h1 hS5 o5 => ?_⟩⟩
          refine ⟨_, _, rfl, rfl, .inl ⟨by omega, by omega⟩, _, _, rfl, rfl, (by show 2 ≤ sizeLine; decide), fun t' ht' => ?_⟩
          have B5 := (B3.fr nD in1 o4.fr).fr nD in1 o5.fr
          have s6 := same_new (o := .tup [.str z, .int (1 + g * h)]) ht'
          have B6 := B5.same s6
          obtain ⟨vs5, d5, _⟩ := id B5
          have x6 : Dt [D, st] (upd H5 t' (.tup [.str z, .int (1 + g * h)])) (.ref t') (wdD (z, 1 + g * h)) := .tup (not_in2 (ne_of_none d5 ht').symm (st_new hS5 ht')) upd_same (.cons (.str _) (.cons (.int _) .nil))
          have f6 := (f3.trans (o4.fr.trans o5.fr)).trans (same_fr (st := st) s6)
          have hS6 := hS5.new (o := .tup [.str z, .int (1 + g * h)]) ht'
          have e6 := s6 _ _ (o5.fr _ _ (o4.fr _ _ (o3.fr _ _ e2 nl) nl) nl)
          generalize upd H5 t' (.tup [.str z, .int (1 + g * h)]) = H6 at B6 x6 f6 hS6 e6 ⊢
          obtain ⟨vs6, d6, u6⟩ := B6
          have l6 := u6.length
          rw [List.length_map] at l6
          refine ⟨D, _, _, rfl, rfl, d6, len_le (by omega), f6.set hD, hS6.set hS hD, by rw [upd_ne nDl.symm]; exact e6, ws ++ [(z, 1 + g * h)], _, by simp; omega, ?_, ?_, rfl⟩
          · refine ⟨by simp; omega, fun p hp => ?_⟩
            rcases List.mem_append.mp hp with h | h
            · exact wok.words p h
            · rw [List.mem_singleton] at h
              subst h
              exact zok
          · rw [List.map_append]
            exact Bl.push d6 u6 x6
        · exact ⟨f2.trans o3.fr, hS3, o3.fr _ _ e2 nl, ws, _, by omega, wok, B2.fr nD in1 o3.fr, rfl⟩
    · rintro σ H2 ⟨f2, hS2, e2, ws, x2, hn, wok, B2, rfl⟩
      exact ⟨_, rfl, q D ws H2 wok hD (B2.done (not_in1 nD)) hS2 f2⟩
def sp_law_name (T : Txt w K mg) : Sp := fun vs H Q _ => ∃ (st sc : Addr), vs = [.ref st] ∧ (StAt H st sc) ∧ ∀ (z : Str) (H' : Hp), PyData.strOk z = true → z.length ≤ 8 → StAt H' st sc → Fr st H H' → Q (.str z) H'
set_option maxHeartbeats 4000000 in
theorem ok_law_name (T : Txt w K mg) : FnOk P w K mg base CX0 3 T.f_law_name T.d_law_name ["state"] (sp_law_name T) := by
  have G_law_next : FnOk P w K mg base CX0 2 T.f_law_next T.d_law_next ["state", "many"] (sp_law_next T) := ok_law_next T
  refine T.F_law_name.ok sc_law_name (fun vs H Q E h => ?_) (fun cdv A outer s H vs Q E hr h => ?_)
  · obtain ⟨st, sc, rfl, _⟩ := h
    rfl
  · obtain ⟨st, sc, rfl, hS, q⟩ := h
    refine ⟨_, (pss_one (ps_ret (pe_ix ix_list (pe_lst (pa_cons pe_str (pa_cons pe_str (pa_cons pe_str (pa_cons pe_str (pa_cons pe_str (pa_cons pe_str pa_nil))))))) (pe_call G_law_next (hr.mono (by decide)) (by rfl) T.g_law_next T.F_law_next.kp T.b_law_next .nil pass0 (pa_cons (pv 0) (pa_cons pe_int pa_nil))) (fun _ _ => rfl)))), ?_⟩
    refine ⟨(by show 6 ≤ sizeLine; decide), fun l hl => ⟨_, rfl, st, sc, 6, rfl, hS.new hl, by decide, by decide +kernel, fun d H1 d0 d1 hS1 o1 => ?_⟩⟩
    obtain ⟨z, hz, hm⟩ := pickS (xs := ["a", "b", "ba", "c", "k9", "z z"]) d0 d1
    have ok : PyData.strOk z = true ∧ z.length ≤ 8 := by
      clear hz
      revert hm z
      decide +kernel
    refine ⟨l, _, d, _, rfl, rfl, SqL.of ((o1 l (st_new hS hl)).trans upd_same), hz, ?_⟩
    exact q z H1 ok.1 ok.2 hS1 ((same_fr (same_new hl)).trans o1.fr)
def sp_kind_of_value (T : Txt w K mg) : Sp := fun vs H Q _ => ∃ (v : V), vs = [v] ∧ ((∃ i, v = .int i ∧ Q (.str "integer") H) ∨ (∃ z, v = .str z ∧ Q (.str "text") H) ∨ (∃ b, v = .bl b ∧ Q (.str "flag") H))
set_option maxHeartbeats 4000000 in
theorem ok_kind_of_value (T : Txt w K mg) : FnOk P w K mg base CX0 1 T.f_kind_of_value T.d_kind_of_value ["worth"] (sp_kind_of_value T) := by
  refine T.F_kind_of_value.ok sc_kind_of_value (fun vs H Q E h => ?_) (fun cdv A outer s H vs Q E hr h => ?_)
  · obtain ⟨v, rfl, _⟩ := h
    rfl
  · obtain ⟨v, rfl, q⟩ := h
    refine ⟨_, (pss_cons (ps_if (pt_val (pe_callB call_isi (by rfl) T.m_isinstance (by decide +kernel) (pa_cons (pv 0) (pa_cons (pe_bltn (v := .ty "bool") (u := .type "bool") (by rfl) T.m_bool (by decide +kernel) rfl) pa_nil)))) (pss_one (ps_ret pe_str)) pss_nil) 
      (pss_cons (ps_if (pt_val (pe_callB call_isi (by rfl) T.m_isinstance (by decide +kernel) (pa_cons (pv 0) (pa_cons (pe_bltn (v := .ty "int") (u := .type "int") (by rfl) T.m_int (by decide +kernel) rfl) pa_nil)))) (pss_one (ps_ret pe_str)) pss_nil) 
      (pss_one (ps_ret pe_str)))), ?_⟩
    rcases q with ⟨i, rfl, q⟩ | ⟨z, rfl, q⟩ | ⟨b, rfl, q⟩
    · refine ⟨_, rfl, _, _, _, _, false, rfl, .ty _, .base (.int _), kit_ty (by decide +kernel), false, rfl, iteF ?_⟩
      exact ⟨_, rfl, _, _, _, _, true, rfl, .ty _, .base (.int _), kit_ty (by decide +kernel), true, rfl, iteT q⟩
    · refine ⟨_, rfl, _, _, _, _, false, rfl, .ty _, .base (.str _), kit_ty (by decide +kernel), false, rfl, iteF ?_⟩
      exact ⟨_, rfl, _, _, _, _, false, rfl, .ty _, .base (.str _), kit_ty (by decide +kernel), false, rfl, iteF q⟩
    · exact ⟨_, rfl, _, _, _, _, true, rfl, .ty _, .base (.bl _), kit_ty (by decide +kernel), true, rfl, iteT q⟩
def sp_Record___init__ (T : Txt w K mg) : Sp := fun vs H Q _ => ∃ (p dx pn pf pw : Addr) (z : Str) (vec : List Int) (fv wv : List V) (ps : List (Str × PyData)) (ws : List (Str × Int)), vs = [.ref p, .str z, .ref pn, .ref pf, .ref pw] ∧ (H p = some (.ins T.c_Record dx [])) ∧ (SqL K H pn (vec.map V.int)) ∧ (SqL K H pf fv) ∧ (Dts [] H fv (ps.map prD)) ∧ (SqL K H pw wv) ∧ (Dts [] H wv (ws.map wdD)) ∧ (fv.length ≤ 1000) ∧ (wv.length ≤ 1000) ∧ ∀ H', RecAt [] T.c_Record H' p z vec ps ws → (∀ b o, H b = some o → b ≠ p → H' b = some o) → Q .non H'
set_option maxHeartbeats 4000000 in
theorem ok_Record___init__ (T : Txt w K mg) : FnOk P w K mg base CX0 1 T.f_Record___init__ T.d_Record___init__ ["self", "name", "vector", "fields", "words"] (sp_Record___init__ T) := by
  refine T.F_Record___init__.ok sc_Record___init__ (fun vs H Q E h => ?_) (fun cdv A outer s H vs Q E hr h => ?_)
  · obtain ⟨p, dx, pn, pf, pw, z, vec, fv, wv, ps, ws, rfl, _⟩ := h
    rfl
  · obtain ⟨p, dx, pn, pf, pw, z, vec, fv, wv, ps, ws, rfl, hp, hv, hf, tf, hw, tw, lf, lw, q⟩ := h
    refine ⟨_, PSs.nox (pss_cons (ps_fld (pv 0) (pv 1) rfl) 
      (pss_cons (ps_fld (pv 0) (pe_callTy call_tuple_of (by rfl) T.m_tuple (by decide +kernel) (pa_cons (pv 2) pa_nil)) rfl) 
      (pss_cons (ps_fld (pv 0) (pe_callTy call_tuple_of (by rfl) T.m_tuple (by decide +kernel) (pa_cons (pe_lc (own := [("pair", 5)]) (g := gName 5) rfl sc_Record___init__.nd (pi_list (pv 3)) (blkOk_by (own := [("pair", 5)]) (N := ["self", "name", "vector", "fields", "words", "pair"]) (sc := defScope s_Record___init__) (by decide +kernel)) (fun _ _ _ _ _ => (pg_name (i := 5) sc_Record___init__.nd rfl (Or.inl rfl))) (fun _ _ _ _ _ => pts_nil) (fun _ _ _ _ _ => (pe_callTy (r := rTupleB K) (by exact call_tuple_of) (by rfl) T.m_tuple (by decide +kernel) (pa_cons (pv 5) pa_nil)))) pa_nil)) rfl) 
      (pss_one (ps_fld (pv 0) (pe_callTy call_tuple_of (by rfl) T.m_tuple (by decide +kernel) (pa_cons (pe_lc (own := [("pair", 5)]) (g := gName 5) rfl sc_Record___init__.nd (pi_list (pv 4)) (blkOk_by (own := [("pair", 5)]) (N := ["self", "name", "vector", "fields", "words", "pair"]) (sc := defScope s_Record___init__) (by decide +kernel)) (fun _ _ _ _ _ => (pg_name (i := 5) sc_Record___init__.nd rfl (Or.inl rfl))) (fun _ _ _ _ _ => pts_nil) (fun _ _ _ _ _ => (pe_callTy (r := rTupleB K) (by exact call_tuple_of) (by rfl) T.m_tuple (by decide +kernel) (pa_cons (pv 5) pa_nil)))) pa_nil)) rfl))))), ?_⟩
    have g0 : ∀ {o : HO}, (upd H p o) p = some o := upd_same
    refine ⟨_, rfl, _, rfl, p, T.c_Record, dx, _, rfl, hp, T.cl_Record, T.n_Record_name, Nat.lt_of_le_of_lt (Nat.le_refl 0) (by decide), ?_⟩
    have k1 : Keep H (upd H p (.ins T.c_Record dx (putF "name" (.str z) []))) := Keep.ins hp
    refine ⟨_, rfl, pn, _, rfl, .inl ⟨k1.seq hv, fun tv nv => ?_⟩⟩
    have s2 := same_new (o := .tup (vec.map V.int)) nv
    refine ⟨_, rfl, p, T.c_Record, dx, _, rfl, s2 _ _ upd_same, T.cl_Record, T.n_Record_vector, Nat.lt_of_le_of_lt (putF_le (Nat.le_refl 0)) (by decide), ?_⟩
    have npv : tv ≠ p := fun e => by rw [e, upd_same] at nv; cases nv
    have k2 := k1.trans ((Keep.same s2).trans (Keep.ins (o := .ins T.c_Record dx (putF "vector" (.ref tv) (putF "name" (.str z) []))) (s2 _ _ upd_same)))
    have f2 : ∀ b o, H b = some o → b ≠ p → (upd (upd (upd H p (.ins T.c_Record dx (putF "name" (.str z) []))) tv (.tup (vec.map V.int))) p (.ins T.c_Record dx (putF "vector" (.ref tv) (putF "name" (.str z) [])))) b = some o := fun b o e n => by
      rw [upd_ne n]
      refine s2 _ _ ?_
      rw [upd_ne n]
      exact e
    have v2 : (upd (upd (upd H p (.ins T.c_Record dx (putF "name" (.str z) []))) tv (.tup (vec.map V.int))) p (.ins T.c_Record dx (putF "vector" (.ref tv) (putF "name" (.str z) [])))) tv = some (.tup (vec.map V.int)) := by
      rw [upd_ne npv]
      exact upd_same
    have p2 : (upd (upd (upd H p (.ins T.c_Record dx (putF "name" (.str z) []))) tv (.tup (vec.map V.int))) p (.ins T.c_Record dx (putF "vector" (.ref tv) (putF "name" (.str z) [])))) p = some (.ins T.c_Record dx (putF "vector" (.ref tv) (putF "name" (.str z) []))) := upd_same
    generalize upd (upd (upd H p (.ins T.c_Record dx (putF "name" (.str z) []))) tv (.tup (vec.map V.int))) p (.ins T.c_Record dx (putF "vector" (.ref tv) (putF "name" (.str z) []))) = H3 at k2 f2 v2 p2 ⊢
    have tf3 := tf.keep k2
    have hf3 := k2.seq hf

    refine ⟨_, rfl, pf, rfl, ⟨_, hf3⟩, fun D hD => ?_⟩
    refine lc_list (K := K) (a := pf) (xs := fv) (fun i H' => Same H3 H' ∧ H' D = some (.lst (fv.take i))) ⟨same_new hD, by rw [upd_same]; rfl⟩ (fun i H' _ h => h.1.seq hf3) ?_ ?_
    · rintro i v H2 hi ⟨sm, hD1⟩
      obtain ⟨t, ws, rfl, et⟩ := Dts.refT (fun a => ⟨_, rfl⟩) tf3 hi
      refine ⟨rfl, _, rfl, t, ws, rfl, .inr ⟨SqT.of (sm _ _ et), _, hD1, ?_, same_set sm hD, ?_⟩⟩
      · rw [List.length_take]
        exact len_le (by omega)
      · rw [upd_same, List.take_add_one, hi]
        rfl
    rintro H3' ⟨sm, hD1⟩
    rw [List.take_length] at hD1
    refine ⟨D, _, rfl, .inl ⟨SqL.of hD1, fun tf0 nf => ?_⟩⟩
    have sf := sm.trans (same_new (o := .tup fv) nf)
    refine ⟨_, rfl, p, T.c_Record, dx, _, rfl, sf _ _ p2, T.cl_Record, T.n_Record_fields, Nat.lt_of_le_of_lt (putF_le (putF_le (Nat.le_refl 0))) (by decide), ?_⟩

    have k4 := k2.trans ((Keep.same sf).trans (Keep.ins (o := .ins T.c_Record dx (putF "fields" (.ref tf0) (putF "vector" (.ref tv) (putF "name" (.str z) [])))) (sf _ _ p2)))

    have nfp : tf0 ≠ p := fun e => by
      have := sm _ _ p2
      rw [← e, nf] at this
      cases this
    have f4 : ∀ b o, H3 b = some o → b ≠ p → (upd (upd H3' tf0 (.tup fv)) p (.ins T.c_Record dx (putF "fields" (.ref tf0) (putF "vector" (.ref tv) (putF "name" (.str z) []))))) b = some o := fun b o e n => by
      rw [upd_ne n]
      exact sf _ _ e
    have x4 : (upd (upd H3' tf0 (.tup fv)) p (.ins T.c_Record dx (putF "fields" (.ref tf0) (putF "vector" (.ref tv) (putF "name" (.str z) []))))) tf0 = some (.tup fv) := by
      rw [upd_ne nfp]
      exact upd_same
    have p4 : (upd (upd H3' tf0 (.tup fv)) p (.ins T.c_Record dx (putF "fields" (.ref tf0) (putF "vector" (.ref tv) (putF "name" (.str z) []))))) p = some (.ins T.c_Record dx (putF "fields" (.ref tf0) (putF "vector" (.ref tv) (putF "name" (.str z) [])))) := upd_same
    generalize upd (upd H3' tf0 (.tup fv)) p (.ins T.c_Record dx (putF "fields" (.ref tf0) (putF "vector" (.ref tv) (putF "name" (.str z) [])))) = H5 at k4 f4 x4 p4 ⊢
    have tw5 := tw.keep k4
    have hw5 := k4.seq hw
    clear sm hD1

    refine ⟨_, rfl, pw, rfl, ⟨_, hw5⟩, fun D hD => ?_⟩
    refine lc_list (K := K) (a := pw) (xs := wv) (fun i H' => Same H5 H' ∧ H' D = some (.lst (wv.take i))) ⟨same_new hD, by rw [upd_same]; rfl⟩ (fun i H' _ h => h.1.seq hw5) ?_ ?_
    · rintro i v H2 hi ⟨sm, hD1⟩
      obtain ⟨t, ws, rfl, et⟩ := Dts.refT (fun a => ⟨_, rfl⟩) tw5 hi
      refine ⟨rfl, _, rfl, t, ws, rfl, .inr ⟨SqT.of (sm _ _ et), _, hD1, ?_, same_set sm hD, ?_⟩⟩
      · rw [List.length_take]
        exact len_le (by omega)
      · rw [upd_same, List.take_add_one, hi]
        rfl
    rintro H5' ⟨sm, hD1⟩
    rw [List.take_length] at hD1
    refine ⟨D, _, rfl, .inl ⟨SqL.of hD1, fun tw0 nw => ?_⟩⟩
    have sw := sm.trans (same_new (o := .tup wv) nw)
    refine ⟨_, rfl, p, T.c_Record, dx, _, rfl, sw _ _ p4, T.cl_Record, T.n_Record_words, Nat.lt_of_le_of_lt (putF_le (putF_le (putF_le (Nat.le_refl 0)))) (by decide), ?_⟩

    have nwp : tw0 ≠ p := fun e => by
      have := sm _ _ p4
      rw [← e, nw] at this
      cases this
    have f6 : ∀ b o, H5 b = some o → b ≠ p → (upd (upd H5' tw0 (.tup wv)) p (.ins T.c_Record dx (ff_Record (.str z) (.ref tv) (.ref tf0) (.ref tw0)))) b = some o := fun b o e n => by
      rw [upd_ne n]
      exact sw _ _ e
    refine q _ ⟨(fun z => by cases z), dx, tv, tf0, tw0, upd_same, (fun z => by cases z), f6 _ _ (f4 _ _ v2 npv) npv, ?_, ?_⟩ (fun b o e n => f6 b o (f4 b o (f2 b o e n) n) n)
    · refine .tup (fun z => by cases z) (f6 _ _ x4 nfp) (tf.keep (k4.trans ((Keep.same sw).trans (Keep.ins (sw _ _ p4)))))
    · refine .tup (fun z => by cases z) (by rw [upd_ne nwp]; exact upd_same) (tw.keep (k4.trans ((Keep.same sw).trans (Keep.ins (sw _ _ p4)))))
def sp_is_letter (T : Txt w K mg) : Sp := fun vs H Q _ => ∃ (c : Nat), vs = [.str ⟨#[c]⟩] ∧ Q (.bl (isLet c)) H
set_option maxHeartbeats 4000000 in
theorem ok_is_letter (T : Txt w K mg) : FnOk P w K mg base CX0 1 T.f_is_letter T.d_is_letter ["char"] (sp_is_letter T) := by
  refine T.F_is_letter.ok sc_is_letter (fun vs H Q E h => ?_) (fun cdv A outer s H vs Q E hr h => ?_)
  · obtain ⟨c, rfl, _⟩ := h
    rfl
  · obtain ⟨c, rfl, q⟩ := h
    refine ⟨_, (pss_one (ps_ret (pe_or (pe_chain op_le_str op_le_str pe_str (pv 0) pe_str) (pe_or (pe_chain op_le_str op_le_str pe_str (pv 0) pe_str) (pe_one (pe_cmpR op_eq (pv 0) pe_str (nomark _))))))), ?_⟩
    have fin : ∀ b, b = isLet c → Q (.bl b) H := fun b e => by rw [e]; exact q
    refine ⟨_, rfl, _, _, rfl, rfl, _, congrArg V.bl (le_lo c 97 rfl), ?_⟩
    by_cases h1 : c < 97
    · rw [decide_eq_true h1]
      refine iteF ⟨false, rfl, iteF ?_⟩
      refine ⟨_, rfl, _, _, rfl, rfl, _, congrArg V.bl (le_lo c 65 rfl), ?_⟩
      by_cases h3 : c < 65
      · rw [decide_eq_true h3]
        refine iteF ⟨false, rfl, iteF ?_⟩
        have e := fin (decide (c = 95)) (by unfold isLet; simp_all)
        rw [← one_eq c 95] at e
        exact ⟨_, rfl, rfl, e⟩
      · rw [decide_eq_false h3]
        refine iteT ⟨_, _, rfl, rfl, _, congrArg V.bl (le_hi c 90 rfl), ?_⟩
        by_cases h4 : 90 < c
        · rw [decide_eq_true h4]
          refine iteF ?_
          have e := fin (decide (c = 95)) (by unfold isLet; simp_all)
          rw [← one_eq c 95] at e
          exact ⟨_, rfl, rfl, e⟩
        · rw [decide_eq_false h4]
          exact iteT (fin true (by unfold isLet; simp_all))
    · rw [decide_eq_false h1]
      refine iteT ⟨_, _, rfl, rfl, _, congrArg V.bl (le_hi c 122 rfl), ?_⟩
      by_cases h2 : 122 < c
      · rw [decide_eq_true h2]
        refine iteF ?_
        refine ⟨_, rfl, _, _, rfl, rfl, _, congrArg V.bl (le_lo c 65 rfl), ?_⟩
        by_cases h3 : c < 65
        · rw [decide_eq_true h3]
          refine iteF ⟨false, rfl, iteF ?_⟩
          have e := fin (decide (c = 95)) (by unfold isLet; simp_all)
          rw [← one_eq c 95] at e
          exact ⟨_, rfl, rfl, e⟩
        · rw [decide_eq_false h3]
          refine iteT ⟨_, _, rfl, rfl, _, congrArg V.bl (le_hi c 90 rfl), ?_⟩
          by_cases h4 : 90 < c
          · rw [decide_eq_true h4]
            refine iteF ?_
            have e := fin (decide (c = 95)) (by unfold isLet; simp_all)
            rw [← one_eq c 95] at e
            exact ⟨_, rfl, rfl, e⟩
          · rw [decide_eq_false h4]
            exact iteT (fin true (by unfold isLet; simp_all))
      · rw [decide_eq_false h2]
        exact iteT (fin true (by unfold isLet; simp_all))
def sp_is_digit (T : Txt w K mg) : Sp := fun vs H Q _ => ∃ (c : Nat), vs = [.str ⟨#[c]⟩] ∧ Q (.bl (isDig c)) H
set_option maxHeartbeats 4000000 in
theorem ok_is_digit (T : Txt w K mg) : FnOk P w K mg base CX0 1 T.f_is_digit T.d_is_digit ["char"] (sp_is_digit T) := by
  refine T.F_is_digit.ok sc_is_digit (fun vs H Q E h => ?_) (fun cdv A outer s H vs Q E hr h => ?_)
  · obtain ⟨c, rfl, _⟩ := h
    rfl
  · obtain ⟨c, rfl, q⟩ := h
    refine ⟨_, (pss_one (ps_ret (pe_chain op_le_str op_le_str pe_str (pv 0) pe_str))), ?_⟩
    have fin : ∀ b, b = isDig c → Q (.bl b) H := fun b e => by rw [e]; exact q
    refine ⟨_, rfl, _, _, rfl, rfl, _, congrArg V.bl (le_lo c 48 rfl), ?_⟩
    by_cases h1 : c < 48
    · rw [decide_eq_true h1]
      exact iteF (fin false (by unfold isDig; simp_all))
    · rw [decide_eq_false h1]
      refine iteT ⟨_, _, rfl, rfl, ?_⟩
      have e := fin (!decide (57 < c)) (by unfold isDig; simp_all)
      rw [← le_hi c 57 (z := "9") rfl] at e
      exact e
def sp_is_word (T : Txt w K mg) : Sp := fun vs H Q _ => ∃ (z : Str), vs = [.str z] ∧ (z.length ≤ 1000) ∧ ∀ H', Same H H' → Q (.bl (isWordS z)) H'
set_option maxHeartbeats 4000000 in
theorem ok_is_word (T : Txt w K mg) : FnOk P w K mg base CX0 2 T.f_is_word T.d_is_word ["text"] (sp_is_word T) := by
  have G_is_digit : FnOk P w K mg base CX0 1 T.f_is_digit T.d_is_digit ["char"] (sp_is_digit T) := ok_is_digit T
  have G_is_letter : FnOk P w K mg base CX0 1 T.f_is_letter T.d_is_letter ["char"] (sp_is_letter T) := ok_is_letter T
  refine T.F_is_word.ok sc_is_word (fun vs H Q E h => ?_) (fun cdv A outer s H vs Q E hr h => ?_)
  · obtain ⟨z, rfl, _⟩ := h
    rfl
  · obtain ⟨z, rfl, hz, q⟩ := h
    refine ⟨_, (pss_cons (ps_if (PW.pt (pw_or (pt_cmpR op_eq (pv 0) pe_str (nomark _)) (pw_or1 (pt_not (pt_val (pe_call G_is_letter (hr.mono (by decide)) (by rfl) T.g_is_letter T.F_is_letter.kp T.b_is_letter .nil pass0 (pa_cons (pe_ix ix_str (pv 0) pe_int (fun _ _ => rfl)) pa_nil))))))) (pss_one (ps_ret pe_bl)) pss_nil) 
      (pss_one (ps_ret (pe_callB (cr_all rfl) (by rfl) T.m_all (by decide +kernel) (pa_cons (pe_lc (own := [("char", 1)]) (g := gName 1) rfl sc_is_word.nd (pi_str (pv 0)) (blkOk_by (own := [("char", 1)]) (N := ["text", "char"]) (sc := defScope s_is_word) (by decide +kernel)) (fun _ _ _ _ _ => (pg_name (i := 1) sc_is_word.nd rfl (Or.inl rfl))) (fun _ _ _ _ _ => pts_nil) (fun _ _ _ _ _ => (pe_or (pe_call G_is_letter (hr.mono (by decide)) (by rfl) T.g_is_letter T.F_is_letter.kp T.b_is_letter .nil pass0 (pa_cons (pv 1) pa_nil)) (pe_one (pe_call G_is_digit (hr.mono (by decide)) (by rfl) T.g_is_digit T.F_is_digit.kp T.b_is_digit .nil pass0 (pa_cons (pv 1) pa_nil)))))) pa_nil))))), ?_⟩
    have ez : z.cps.toList.length = z.length := by simp [Str.length]
    cases el : z.cps.toList with
    | nil =>
      have e : z = "" := by
        have : z.cps = #[] := by simpa using el
        cases z
        simp_all
        rfl
      have f := q H (Same.refl _)
      have g : isWordS z = false := by unfold isWordS; rw [el]; rfl
      rw [g] at f
      exact ⟨_, rfl, rfl, _, rfl, ite2 (fun _ => f) (fun no => absurd (decide_eq_true (congrArg V.str e)) no)⟩
    | cons c r =>
      have e : ¬ z = "" := fun h => by
        rw [h] at el
        cases el
      have w : isWordS z = (isLet c && (c :: r).all fun x => isLet x || isDig x) := by unfold isWordS; rw [el]; rfl
      refine ⟨_, rfl, rfl, _, rfl, ite2 (fun yes => absurd (V.str.inj (of_decide_eq_true yes)) e) (fun _ => ?_)⟩
      refine ⟨_, rfl, _, _, c, rfl, rfl, Nat.le_trans hz (by decide), by rw [el]; exact (show atI (c :: r) ((0 : Nat) : Int) = some c from atI_nat rfl), c, rfl, ?_⟩
      cases hc : isLet c with
      | false =>
        rw [hc, Bool.false_and] at w
        have f := q H (Same.refl _)
        rw [w] at f
        exact ⟨false, rfl, iteT f⟩
      | true =>
        rw [hc, Bool.true_and] at w
        refine ⟨true, rfl, iteF ?_⟩
        refine ⟨_, rfl, z, rfl, fun D hD => ?_⟩
        refine lc_it walk_str (fun i H' => Same H H' ∧ H' D = some (.lst (((z.cps.toList.take i).map fun x => isLet x || isDig x).map V.bl))) ⟨same_new hD, upd_same⟩ (fun i H' _ h => trivial) ?_ ?_
        · rintro i v H1 H2 hi ⟨sm, hD1⟩ ⟨rfl, d, hd, rfl⟩
          have hd' : z.cps.toList[i]? = some d := by rw [Array.getElem?_toList]; exact hd
          have last : ∀ b, (isLet d || isDig d) = b → ∃ acc, H2 D = some (.lst acc) ∧ acc.length < sizeLine ∧ Same H (upd H2 D (.lst (acc ++ [V.bl b]))) ∧ (upd H2 D (.lst (acc ++ [V.bl b]))) D = some (.lst (((z.cps.toList.take (i + 1)).map fun x => isLet x || isDig x).map V.bl)) := fun b hb => by
            refine ⟨_, hD1, ?_, same_set sm hD, ?_⟩
            · rw [List.length_map, List.length_map, List.length_take]
              exact len_le (by omega)
            · rw [upd_same, List.take_add_one, hd', ← hb]
              simp
          refine ⟨rfl, _, rfl, d, rfl, isLet d, rfl, ?_⟩
          cases hl : isLet d with
          | true => exact iteT (last true (by rw [hl]; rfl))
          | false => exact iteF ⟨_, rfl, d, rfl, last (isDig d) (by rw [hl]; rfl)⟩
        · rintro H1 ⟨sm, hD1⟩
          rw [show z.cps.size = z.cps.toList.length by simp, List.take_length] at hD1
          refine ⟨D, _, rfl, SqL.of hD1, ?_⟩
          have f := q H1 sm
          rw [w, ← el] at f
          rw [List.all_map]
          exact f
def sp_check_vectors (T : Txt w K mg) : Sp := fun vs H Q E => ∃ (n : Int) (w m : Str), vs = [.int n, .str w, .str m] ∧ (w ∈ WIDE3 ∨ w = "huge") ∧ (vecGood n w m → Q .non H) ∧ (¬ vecGood n w m → E (.ref T.c_InvalidSchema) none H)
set_option maxHeartbeats 4000000 in
theorem ok_check_vectors (T : Txt w K mg) : FnOk P w K mg base (L2.CX P w) 1 T.f_check_vectors T.d_check_vectors ["size", "width", "measure"] (sp_check_vectors T) := by
  refine T.F_check_vectors.okX sc_check_vectors (fun vs H Q E h => ?_) (fun cdv A outer s H vs Q E hr h => ?_)
  · obtain ⟨n, w, m, rfl, _⟩ := h
    rfl
  · obtain ⟨n, w, m, rfl, hw, q⟩ := h
    refine ⟨_, (pss_cons (ps_if (pt_cmpR op_lt (pv 0) pe_int (nomark _)) (pss_one (ps_raise rfl (takes_of rfl rfl rfl rfl) (pmk_own PySem.F.excBase_ValueError T.x_InvalidSchema T.mc_InvalidSchema T.kp_InvalidSchema (raises_own T.xb_InvalidSchema T.xt_InvalidSchema) rfl))) pss_nil) 
      (pss_cons (ps_if (pt_cmpR (op_notIn_kd T.kd_WIDTHS) (pv 1) (pe_glob (v := .ref T.a_WIDTHS) rfl T.m_WIDTHS rfl) rfl) (pss_one (ps_raise rfl (takes_of rfl rfl rfl rfl) (pmk_own PySem.F.excBase_ValueError T.x_InvalidSchema T.mc_InvalidSchema T.kp_InvalidSchema (raises_own T.xb_InvalidSchema T.xt_InvalidSchema) rfl))) pss_nil) 
      (pss_cons (ps_if (pt_cmpR op_notIn_seq (pv 2) (pe_glob (v := .ref T.a_MEASURES) rfl T.m_MEASURES rfl) rfl) (pss_one (ps_raise rfl (takes_of rfl rfl rfl rfl) (pmk_own PySem.F.excBase_ValueError T.x_InvalidSchema T.mc_InvalidSchema T.kp_InvalidSchema (raises_own T.xb_InvalidSchema T.xt_InvalidSchema) rfl))) pss_nil) 
      (pss_one (ps_if (PW.pt (pw_and (pt_cmpR op_eq (pv 2) pe_str (nomark _)) (pw_and1 (pt_cmpR op_ne (pv 1) pe_str (nomark _))))) (pss_one (ps_raise rfl (takes_of rfl rfl rfl rfl) (pmk_own PySem.F.excBase_ValueError T.x_InvalidSchema T.mc_InvalidSchema T.kp_InvalidSchema (raises_own T.xb_InvalidSchema T.xt_InvalidSchema) rfl))) pss_nil))))), ?_⟩
    obtain ⟨q1, q2⟩ := q
    refine ⟨_, rfl, _, _, rfl, rfl, _, rfl, ite2 (fun e => ?_) (fun e => ?_)⟩
    · have c : n < 1 := of_decide_eq_true e
      exact q2 fun g => by have := g.1; omega
    have n1 : ¬ n < 1 := fun h => e (decide_eq_true h)
    have after : w ∈ WIDE3 → (∃ r, PySem.W.nsIn K T.a_WIDTHS w = some (some r)) := fun h => by
      unfold WIDE3 at h
      simp only [List.mem_cons, List.not_mem_nil, or_false] at h
      rcases h with rfl | rfl | rfl
      · exact ⟨_, T.ns_WIDTHS_bit⟩
      · exact ⟨_, T.ns_WIDTHS_small⟩
      · exact ⟨_, T.ns_WIDTHS_wide⟩
    rcases hw with hw | rfl
    rotate_left
    · refine ⟨_, rfl, _, none, rfl, rfl, T.ns_WIDTHS_huge, true, rfl, iteT ?_⟩
      exact q2 fun g => absurd g.2.1 (by decide +kernel)
    obtain ⟨r, hr_⟩ := after hw
    refine ⟨_, rfl, _, some r, rfl, rfl, hr_, false, rfl, iteF ?_⟩
    refine ⟨_, rfl, T.a_MEASURES, (MEAS3.map V.str), rfl, .inr (T.sq_MEASURES _), rfl, flat_strsV _, ?_⟩
    show ∃ k, V.bl (!inV (.str m) (MEAS3.map V.str)) = .bl k ∧ _
    rw [inV_strs]
    refine ⟨_, rfl, ite2 (fun e2 => ?_) (fun e2 => ?_)⟩
    · have c : m ∉ MEAS3 := by simpa using e2
      exact q2 fun g => c g.2.2.1
    have hm : m ∈ MEAS3 := by simpa using e2
    refine ⟨_, rfl, rfl, _, rfl, ite2 (fun e3 => ?_) (fun e3 => ?_)⟩
    · have c : m = "bits" := V.str.inj (of_decide_eq_true e3)
      refine ⟨_, rfl, rfl, _, rfl, ?_⟩
      by_cases hwb : w = "bit"
      · rw [decide_eq_true (congrArg V.str hwb)]
        exact iteF (q1 ⟨by omega, hw, hm, fun z => z.2 hwb⟩)
      · rw [decide_eq_false (fun z => hwb (V.str.inj z))]
        exact iteT (q2 fun g => g.2.2.2 ⟨c, hwb⟩)
    · have c : ¬ m = "bits" := fun z => e3 (decide_eq_true (congrArg V.str z))
      exact q1 ⟨by omega, hw, hm, fun z => c z.1⟩
def sp_check_fields (T : Txt w K mg) : Sp := fun vs H Q E => ∃ (tf : Addr) (fs : List (Str × Str)), vs = [.ref tf] ∧ (Dt [] H (.ref tf) (.tuple (fs.map fdD))) ∧ (fs.length ≤ 1000) ∧ (∀ f ∈ fs, f.1.length ≤ 1000) ∧ (fieldsGood fs → ∀ H', Same H H' → Q .non H') ∧ (¬ fieldsGood fs → ∀ H', Same H H' → E (.ref T.c_InvalidSchema) none H')
set_option maxHeartbeats 8000000 in
theorem ok_check_fields (T : Txt w K mg) : FnOk P w K mg base (L2.CX P w) 3 T.f_check_fields T.d_check_fields ["fields"] (sp_check_fields T) := by
  have G_is_word : FnOk P w K mg base CX0 2 T.f_is_word T.d_is_word ["text"] (sp_is_word T) := ok_is_word T
  refine T.F_check_fields.okX sc_check_fields (fun vs H Q E h => ?_) (fun cdv A outer s H vs Q E hr h => ?_)
  · obtain ⟨tf, fs, rfl, _⟩ := h
    rfl
  · obtain ⟨tf, fs, rfl, xf, lf, ln, q⟩ := h
    refine ⟨_, (pss_cons (ps_for (passes_of rfl) rfl (pi_tup (pv 0)) (pg_tup rfl (pgs_cons (pg_name (i := 1) sc_check_fields.nd rfl (.inl rfl)) (pgs_cons (pg_name (i := 2) sc_check_fields.nd rfl (.inl rfl)) pgs_nil))) (pss_cons (ps_if (PW.pt (pw_or (pt_not (pt_val (pe_call G_is_word (hr.mono (by decide)) (by rfl) T.g_is_word T.F_is_word.kp T.b_is_word .nil pass0 (pa_cons (pv 1) pa_nil)))) (pw_or1 (pt_cmpR op_in_seq (pv 1) (pe_glob (v := .ref T.a_RESERVED) rfl T.m_RESERVED rfl) rfl)))) (pss_one (ps_raise rfl (takes_of rfl rfl rfl rfl) (pmk_own PySem.F.excBase_ValueError T.x_InvalidSchema T.mc_InvalidSchema T.kp_InvalidSchema (raises_own T.xb_InvalidSchema T.xt_InvalidSchema) rfl))) pss_nil) 
      (pss_one (ps_if (pt_cmpR op_notIn_seq (pv 2) (pe_glob (v := .ref T.a_KINDS) rfl T.m_KINDS rfl) rfl) (pss_one (ps_raise rfl (takes_of rfl rfl rfl rfl) (pmk_own PySem.F.excBase_ValueError T.x_InvalidSchema T.mc_InvalidSchema T.kp_InvalidSchema (raises_own T.xb_InvalidSchema T.xt_InvalidSchema) rfl))) pss_nil)))) 
      (pss_one (ps_if (pt_cmpR op_lt (pe_lenSetT rfl (by rfl) T.m_len (by rfl) T.m_set (pe_lc (own := [("name", 1), ("_", 3)]) (g := gTup K 2 (gCons (gName 1) (gCons (gName 3) gNil))) rfl sc_check_fields.nd (pi_tup (pv 0)) (blkOk_by (own := [("name", 1), ("_", 3)]) (N := ["fields", "name", "kind", "_"]) (sc := defScope s_check_fields) (by decide +kernel)) (fun _ _ _ _ _ => (by exact (pg_tup rfl (pgs_cons (pg_name (i := 1) sc_check_fields.nd rfl (Or.inl rfl)) (pgs_cons (pg_name (i := 3) sc_check_fields.nd rfl (Or.inl rfl)) pgs_nil))))) (fun _ _ _ _ _ => pts_nil) (fun _ _ _ _ _ => (pv 1)))) (pe_callB call_len_seq (by rfl) T.m_len PySem.boot_len (pa_cons (pv 0) pa_nil)) (nomark _)) (pss_one (ps_raise rfl (takes_of rfl rfl rfl rfl) (pmk_own PySem.F.excBase_ValueError T.x_InvalidSchema T.mc_InvalidSchema T.kp_InvalidSchema (raises_own T.xb_InvalidSchema T.xt_InvalidSchema) rfl))) pss_nil))), ?_⟩
    obtain ⟨q1, q2⟩ := q
    obtain ⟨tf', vf, ef, _, gf, tt⟩ := xf.isT
    cases ef
    have lv := tt.length
    rw [List.length_map] at lv
    refine ⟨_, rfl, tf, rfl, ⟨_, SqT.of gf⟩, ?_⟩
    refine for_tup (K := K) (a := tf) (xs := vf) (fun i σ H' => Same H H' ∧ (∀ f ∈ fs.take i, fGood f) ∧ ∃ x1 x2, σ = [some (.ref tf), x1, x2, none]) ⟨Same.refl _, fun f h => by simp at h, none, none, rfl⟩ (fun i σ H' _ h => SqT.of (h.1 _ _ gf)) ?_ ?_
    · rintro i v σ H1 hi ⟨s1, good, x1, x2, rfl⟩
      obtain ⟨d, ed, xd⟩ := tt.get hi
      rw [List.getElem?_map] at ed
      cases ep : fs[i]? with
      | none =>
        rw [ep] at ed
        cases ed
      | some f =>
        rw [ep] at ed
        have := Option.some.inj ed
        subst this
        obtain ⟨t, w, rfl, _, et, xw⟩ := xd.isP
        rw [xw.isS] at et
        have mf := List.mem_of_getElem? ep
        refine ⟨t, _, rfl, SqT.of (s1 _ _ et), rfl, _, _, rfl, _, _, rfl, rfl, ?_⟩
        refine ⟨_, rfl, f.1, rfl, ln f mf, fun H2 s2 => ⟨isWordS f.1, rfl, ?_⟩⟩
        have s12 := s1.trans s2
        cases hw : isWordS f.1 with
        | false => exact iteT (q2 (fun g => by have := (g.1 f mf).1; rw [hw] at this; cases this) H2 s12)
        | true =>
          refine iteF ⟨_, rfl, T.a_RESERVED, (RESV.map V.str), rfl, .inr (T.sq_RESERVED _), rfl, flat_strsV _, ?_⟩
          show ∃ k, V.bl (inV (.str f.1) (RESV.map V.str)) = .bl k ∧ _
          rw [inV_strs]
          refine ⟨_, rfl, ite2 (fun e2 => ?_) (fun e2 => ?_)⟩
          · exact q2 (fun g => (g.1 f mf).2.1 (of_decide_eq_true e2)) H2 s12
          have hr2 : f.1 ∉ RESV := fun z => e2 (decide_eq_true z)
          refine ⟨_, rfl, T.a_KINDS, (KIND3.map V.str), rfl, .inr (T.sq_KINDS _), rfl, flat_strsV _, ?_⟩
          show ∃ k, V.bl (!inV (.str f.2) (KIND3.map V.str)) = .bl k ∧ _
          rw [inV_strs]
          refine ⟨_, rfl, ite2 (fun e3 => ?_) (fun e3 => ?_)⟩
          · have c : f.2 ∉ KIND3 := by simpa using e3
            exact q2 (fun g => c (g.1 f mf).2.2) H2 s12
          · have c : f.2 ∈ KIND3 := by simpa using e3
            refine ⟨s12, fun g hg => ?_, _, _, rfl⟩
            rw [List.take_add_one, ep] at hg
            rcases List.mem_append.mp hg with h | h
            · exact good g h
            · simp at h
              subst h
              exact ⟨hw, hr2, c⟩
    rintro σ H1 ⟨s1, good, x1, x2, rfl⟩
    rw [lv, List.take_length] at good
    refine ⟨_, rfl, tf, rfl, ⟨_, SqT.of (s1 _ _ gf)⟩, fun D hD => ?_⟩
    refine lc_tup (K := K) (a := tf) (xs := vf) (fun i H' => Same H1 H' ∧ H' D = some (.lst (((fs.take i).map (·.1)).map V.str))) ⟨same_new hD, upd_same⟩ (fun i H' _ h => SqT.of (h.1 _ _ (s1 _ _ gf))) ?_ ?_
    · rintro i v H2 hi ⟨sm, hD1⟩
      obtain ⟨d, ed, xd⟩ := tt.get hi
      rw [List.getElem?_map] at ed
      cases ep : fs[i]? with
      | none =>
        rw [ep] at ed
        cases ed
      | some f =>
        rw [ep] at ed
        have := Option.some.inj ed
        subst this
        obtain ⟨t, w, rfl, _, et, xw⟩ := xd.isP
        refine ⟨t, _, rfl, SqT.of (sm _ _ (s1 _ _ et)), rfl, _, _, rfl, _, _, rfl, rfl, rfl, _, rfl, _, hD1, ?_, same_set sm hD, ?_⟩
        · rw [List.length_map, List.length_map, List.length_take]
          exact len_le (by omega)
        · rw [upd_same, List.take_add_one, ep]
          simp
    rintro H2 ⟨sm, hD1⟩
    rw [lv, List.take_length] at hD1
    refine ⟨D, fs.map (·.1), rfl, SqL.of hD1, by rw [List.length_map]; exact lf, _, rfl, tf, _, rfl, .inr (SqT.of (sm _ _ (s1 _ _ gf))), _, _, rfl, rfl, _, rfl, ite2 (fun e => ?_) (fun e => ?_)⟩
    · have c : (((uS (fs.map (·.1))).length : Nat) : Int) < ((vf.length : Nat) : Int) := of_decide_eq_true e
      refine q2 (fun g => ?_) H2 (s1.trans sm)
      have := (uS_nodup _).mpr g.2
      rw [List.length_map] at this
      omega
    · have c : ¬ (((uS (fs.map (·.1))).length : Nat) : Int) < ((vf.length : Nat) : Int) := fun h => e (decide_eq_true h)
      refine q1 ⟨good, (uS_nodup _).mp ?_⟩ H2 (s1.trans sm)
      have := uS_le (fs.map (·.1))
      rw [List.length_map] at this ⊢
      omega
def sp_Schema___init__ (T : Txt w K mg) : Sp := fun vs H Q E => ∃ (p dx pf : Addr) (n : Int) (w m : Str) (fv : List V) (fs : List (Str × Str)), vs = [.ref p, .int n, .str w, .str m, .ref pf] ∧ (H p = some (.ins T.c_Schema dx [])) ∧ (SqL K H pf fv) ∧ (Dts [] H fv (fs.map fdD)) ∧ (fv.length ≤ 1000) ∧ (∀ f ∈ fs, f.1.length ≤ 1000) ∧ (w ∈ WIDE3 ∨ w = "huge") ∧ ((vecGood n w m ∧ fieldsGood fs) → ∀ H', SchAt [] T.c_Schema H' p n w m fs → (∀ b o, H b = some o → b ≠ p → H' b = some o) → Q .non H') ∧ (¬ (vecGood n w m ∧ fieldsGood fs) → ∀ H', (∀ b o, H b = some o → b ≠ p → H' b = some o) → E (.ref T.c_InvalidSchema) none H')
set_option maxHeartbeats 8000000 in
theorem ok_Schema___init__ (T : Txt w K mg) : FnOk P w K mg base (L2.CX P w) 4 T.f_Schema___init__ T.d_Schema___init__ ["self", "size", "width", "measure", "fields"] (sp_Schema___init__ T) := by
  have G_check_fields : FnOk P w K mg base (L2.CX P w) 3 T.f_check_fields T.d_check_fields ["fields"] (sp_check_fields T) := ok_check_fields T
  have G_check_vectors : FnOk P w K mg base (L2.CX P w) 1 T.f_check_vectors T.d_check_vectors ["size", "width", "measure"] (sp_check_vectors T) := ok_check_vectors T
  refine T.F_Schema___init__.ok sc_Schema___init__ (fun vs H Q E h => ?_) (fun cdv A outer s H vs Q E hr h => ?_)
  · obtain ⟨p, dx, pf, n, w, m, fv, fs, rfl, _⟩ := h
    rfl
  · obtain ⟨p, dx, pf, n, w, m, fv, fs, rfl, hp, hf, tf, lf, ln, hw, q⟩ := h
    refine ⟨_, (pss_cons (ps_fld (pv 0) (pv 1) rfl) 
      (pss_cons (ps_fld (pv 0) (pv 2) rfl) 
      (pss_cons (ps_fld (pv 0) (pv 3) rfl) 
      (pss_cons (ps_fld (pv 0) (pe_callTy call_tuple_of (by rfl) T.m_tuple (by decide +kernel) (pa_cons (pe_lc (own := [("pair", 5)]) (g := gName 5) rfl sc_Schema___init__.nd (pi_list (pv 4)) (blkOk_by (own := [("pair", 5)]) (N := ["self", "size", "width", "measure", "fields", "pair"]) (sc := defScope s_Schema___init__) (by decide +kernel)) (fun _ _ _ _ _ => (pg_name (i := 5) sc_Schema___init__.nd rfl (Or.inl rfl))) (fun _ _ _ _ _ => pts_nil) (fun _ _ _ _ _ => (pe_callTy (r := rTupleB K) (by exact call_tuple_of) (by rfl) T.m_tuple (by decide +kernel) (pa_cons (pv 5) pa_nil)))) pa_nil)) rfl) 
      (pss_cons (ps_expr (pe_call G_check_vectors (hr.mono (by decide)) (by rfl) T.g_check_vectors T.F_check_vectors.kp T.b_check_vectors .nil (passes_call (takes_of rfl rfl rfl rfl) (fun _ _ _ _ h => h)) (pa_cons (pv 1) (pa_cons (pv 2) (pa_cons (pv 3) pa_nil))))) 
      (pss_one (ps_expr (pe_call G_check_fields (hr.mono (by decide)) (by rfl) T.g_check_fields T.F_check_fields.kp T.b_check_fields .nil (passes_call (takes_of rfl rfl rfl rfl) (fun _ _ _ _ h => h)) (pa_cons (pe_fld (pv 0) rfl) pa_nil))))))))), ?_⟩
    obtain ⟨q1, q2⟩ := q
    have lfs : fs.length ≤ 1000 := by
      have := tf.length
      rw [List.length_map] at this
      omega
    refine ⟨_, rfl, _, rfl, p, T.c_Schema, dx, _, rfl, hp, T.cl_Schema, T.n_Schema_size, Nat.lt_of_le_of_lt (Nat.le_refl 0) (by decide), ?_⟩
    refine ⟨_, rfl, _, rfl, p, T.c_Schema, dx, _, rfl, upd_same, T.cl_Schema, T.n_Schema_width, Nat.lt_of_le_of_lt (putF_le (Nat.le_refl 0)) (by decide), ?_⟩
    refine ⟨_, rfl, _, rfl, p, T.c_Schema, dx, _, rfl, upd_same, T.cl_Schema, T.n_Schema_measure, Nat.lt_of_le_of_lt (putF_le (putF_le (Nat.le_refl 0))) (by decide), ?_⟩
    have k3 : Keep H (upd (upd (upd H p (.ins T.c_Schema dx (putF "size" (.int n) []))) p (.ins T.c_Schema dx (putF "width" (.str w) (putF "size" (.int n) [])))) p (.ins T.c_Schema dx (putF "measure" (.str m) (putF "width" (.str w) (putF "size" (.int n) []))))) := ((Keep.ins hp).trans (Keep.ins upd_same)).trans (Keep.ins upd_same)
    have f3 : ∀ b o, H b = some o → b ≠ p → (upd (upd (upd H p (.ins T.c_Schema dx (putF "size" (.int n) []))) p (.ins T.c_Schema dx (putF "width" (.str w) (putF "size" (.int n) [])))) p (.ins T.c_Schema dx (putF "measure" (.str m) (putF "width" (.str w) (putF "size" (.int n) []))))) b = some o := fun b o e n => by
      rw [upd_ne n, upd_ne n, upd_ne n]
      exact e
    have p3 : (upd (upd (upd H p (.ins T.c_Schema dx (putF "size" (.int n) []))) p (.ins T.c_Schema dx (putF "width" (.str w) (putF "size" (.int n) [])))) p (.ins T.c_Schema dx (putF "measure" (.str m) (putF "width" (.str w) (putF "size" (.int n) []))))) p = some (.ins T.c_Schema dx (putF "measure" (.str m) (putF "width" (.str w) (putF "size" (.int n) [])))) := upd_same
    generalize upd (upd (upd H p (.ins T.c_Schema dx (putF "size" (.int n) []))) p (.ins T.c_Schema dx (putF "width" (.str w) (putF "size" (.int n) [])))) p (.ins T.c_Schema dx (putF "measure" (.str m) (putF "width" (.str w) (putF "size" (.int n) [])))) = H3 at k3 f3 p3 ⊢
    have tf3 := tf.keep k3
    have hf3 := k3.seq hf
    refine ⟨_, rfl, pf, rfl, ⟨_, hf3⟩, fun D hD => ?_⟩
    refine lc_list (K := K) (a := pf) (xs := fv) (fun i H' => Same H3 H' ∧ H' D = some (.lst (fv.take i))) ⟨same_new hD, by rw [upd_same]; rfl⟩ (fun i H' _ h => h.1.seq hf3) ?_ ?_
    · rintro i v H2 hi ⟨sm, hD1⟩
      obtain ⟨t, ws, rfl, et⟩ := Dts.refT (fun a => ⟨_, rfl⟩) tf3 hi
      refine ⟨rfl, _, rfl, t, ws, rfl, .inr ⟨SqT.of (sm _ _ et), _, hD1, ?_, same_set sm hD, ?_⟩⟩
      · rw [List.length_take]
        exact len_le (by omega)
      · rw [upd_same, List.take_add_one, hi]
        rfl
    rintro H4 ⟨sm, hD1⟩
    rw [List.take_length] at hD1
    refine ⟨D, _, rfl, .inl ⟨SqL.of hD1, fun t0 nt => ?_⟩⟩
    have s4 := sm.trans (same_new (o := .tup fv) nt)
    refine ⟨_, rfl, p, T.c_Schema, dx, _, rfl, s4 _ _ p3, T.cl_Schema, T.n_Schema_fields, Nat.lt_of_le_of_lt (putF_le (putF_le (putF_le (Nat.le_refl 0)))) (by decide), ?_⟩
    have ntp : t0 ≠ p := fun e => by
      have := sm _ _ p3
      rw [← e, nt] at this
      cases this
    have k4 := k3.trans ((Keep.same s4).trans (Keep.ins (o := .ins T.c_Schema dx (ff_Schema (.int n) (.str w) (.str m) (.ref t0))) (s4 _ _ p3)))
    have f4 : ∀ b o, H b = some o → b ≠ p → (upd (upd H4 t0 (.tup fv)) p (.ins T.c_Schema dx (ff_Schema (.int n) (.str w) (.str m) (.ref t0)))) b = some o := fun b o e n => by
      rw [upd_ne n]
      exact s4 _ _ (f3 _ _ e n)
    have x4 : (upd (upd H4 t0 (.tup fv)) p (.ins T.c_Schema dx (ff_Schema (.int n) (.str w) (.str m) (.ref t0)))) t0 = some (.tup fv) := by
      rw [upd_ne ntp]
      exact upd_same
    have p4 : (upd (upd H4 t0 (.tup fv)) p (.ins T.c_Schema dx (ff_Schema (.int n) (.str w) (.str m) (.ref t0)))) p = some (.ins T.c_Schema dx (ff_Schema (.int n) (.str w) (.str m) (.ref t0))) := upd_same
    show _
    generalize hH5 : upd (upd H4 t0 (.tup fv)) p (.ins T.c_Schema dx (ff_Schema (.int n) (.str w) (.str m) (.ref t0))) = H5 at k4 f4 x4 p4
    have hH5' : upd (upd H4 t0 (.tup fv)) p (.ins T.c_Schema dx (putF "fields" (.ref t0) (putF "measure" (.str m) (putF "width" (.str w) (putF "size" (.int n) []))))) = H5 := hH5
    rw [hH5']
    have xt : Dt [] H5 (.ref t0) (.tuple (fs.map fdD)) := .tup (fun z => by cases z) x4 (tf.keep k4)
    have S5 : SchAt [] T.c_Schema H5 p n w m fs := ⟨(fun z => by cases z), dx, t0, p4, xt⟩
    refine ⟨_, rfl, _, rfl, _, rfl, n, w, m, rfl, hw, fun g => ?_, fun g => q2 (fun z => g z.1) H5 f4⟩
    refine ⟨_, rfl, p, T.c_Schema, dx, _, _, rfl, p4, T.cl_Schema, T.n_Schema_fields, lk_Schema_fields, t0, fs, rfl, xt, lfs, ln, fun g2 H6 s6 => ?_, fun g2 H6 s6 => ?_⟩
    · exact q1 ⟨g, g2⟩ H6 (S5.same s6) fun b o e n => s6 _ _ (f4 b o e n)
    · exact q2 (fun z => g2 z.2) H6 fun b o e n => s6 _ _ (f4 b o e n)
def sp_are_within (T : Txt w K mg) : Sp := fun vs H Q _ => ∃ (tv : Addr) (vec : List Int) (w : Str), vs = [.ref tv, .str w] ∧ (H tv = some (.tup (vec.map V.int))) ∧ (w ∈ WIDE3) ∧ (vec.length ≤ 1000) ∧ ∀ H', Same H H' → Q (.bl (vec.all (inW w))) H'
set_option maxHeartbeats 4000000 in
theorem ok_are_within (T : Txt w K mg) : FnOk P w K mg base CX0 1 T.f_are_within T.d_are_within ["vector", "width"] (sp_are_within T) := by
  refine T.F_are_within.ok sc_are_within (fun vs H Q E h => ?_) (fun cdv A outer s H vs Q E hr h => ?_)
  · obtain ⟨tv, vec, w, rfl, _⟩ := h
    rfl
  · obtain ⟨tv, vec, w, rfl, hv, hw, lv, q⟩ := h
    refine ⟨_, (pss_cons (ps_asg (pe_ix ix_kdict (pe_glob (v := .ref T.a_WIDTHS) rfl T.m_WIDTHS rfl) (pv 1) (fun _ _ => rfl)) (pg_tup rfl (pgs_cons (pg_name (i := 2) sc_are_within.nd rfl (.inr rfl)) (pgs_cons (pg_name (i := 3) sc_are_within.nd rfl (.inr rfl)) pgs_nil)))) 
      (pss_one (ps_ret (pe_callB (cr_all rfl) (by rfl) T.m_all (by decide +kernel) (pa_cons (pe_lc (own := [("number", 4)]) (g := gName 4) rfl sc_are_within.nd (pi_tup (pv 0)) (blkOk_by (own := [("number", 4)]) (N := ["vector", "width", "low", "high", "number"]) (sc := defScope s_are_within) (by decide +kernel)) (fun _ _ _ _ _ => (pg_name (i := 4) sc_are_within.nd rfl (Or.inl rfl))) (fun _ _ _ _ _ => pts_nil) (fun _ _ _ _ _ => (pe_chain op_le op_le (pv 2) (pv 4) (pv 3)))) pa_nil))))), ?_⟩
    obtain ⟨av, hav, sav⟩ : ∃ av : Addr, PySem.W.nsIn K T.a_WIDTHS w = some (some (.ref av)) ∧ ∀ H, SqT K H av [.int (loW w), .int (hiW w)] := by
      have n1 : ¬ ("small" : Str) = "bit" := by decide +kernel
      have n2 : ¬ ("wide" : Str) = "bit" := by decide +kernel
      have n3 : ¬ ("wide" : Str) = "small" := by decide +kernel
      have hw' : w = "bit" ∨ w = "small" ∨ w = "wide" := by
        unfold WIDE3 at hw
        simpa using hw
      unfold loW hiW
      rcases hw' with rfl | rfl | rfl
      · rw [if_pos rfl, if_pos rfl]
        exact ⟨_, T.ns_WIDTHS_bit, T.sv_WIDTHS_bit⟩
      · rw [if_neg n1, if_neg n1, if_pos rfl, if_pos rfl]
        exact ⟨_, T.ns_WIDTHS_small, T.sv_WIDTHS_small⟩
      · rw [if_neg n2, if_neg n2, if_neg n3, if_neg n3]
        exact ⟨_, T.ns_WIDTHS_wide, T.sv_WIDTHS_wide⟩
    refine ⟨_, rfl, T.a_WIDTHS, _, .ref av, rfl, rfl, ⟨_, _, _, T.kd_WIDTHS.at_, T.kd_WIDTHS.lit, hav, rfl⟩, av, _, rfl, sav _, rfl, _, _, rfl, _, _, rfl, rfl, ?_⟩
    refine ⟨_, rfl, tv, rfl, ⟨_, SqT.of hv⟩, fun D hD => ?_⟩
    refine lc_tup (K := K) (a := tv) (xs := vec.map V.int) (fun i H' => Same H H' ∧ H' D = some (.lst (((vec.take i).map (inW w)).map V.bl))) ⟨same_new hD, upd_same⟩ (fun i H' _ h => SqT.of (h.1 _ _ hv)) ?_ ?_
    · rintro i v H1 hi ⟨sm, hD1⟩
      obtain ⟨x, rfl, hx⟩ := get_map hi
      have last : ∀ b, inW w x = b → ∃ acc, H1 D = some (.lst acc) ∧ acc.length < sizeLine ∧ Same H (upd H1 D (.lst (acc ++ [V.bl b]))) ∧ (upd H1 D (.lst (acc ++ [V.bl b]))) D = some (.lst (((vec.take (i + 1)).map (inW w)).map V.bl)) := fun b hb => by
        refine ⟨_, hD1, ?_, same_set sm hD, ?_⟩
        · rw [List.length_map, List.length_map, List.length_take]
          exact len_le (by omega)
        · rw [upd_same, List.take_add_one, hx, ← hb]
          simp
      refine ⟨rfl, _, rfl, _, rfl, _, _, rfl, rfl, _, rfl, ?_⟩
      by_cases c : loW w ≤ x
      · rw [decide_eq_true c]
        exact iteT ⟨_, rfl, _, _, rfl, rfl, last _ (by unfold inW; rw [decide_eq_true c]; rfl)⟩
      · rw [decide_eq_false c]
        exact iteF (last false (by unfold inW; rw [decide_eq_false c]; rfl))
    · rintro H1 ⟨sm, hD1⟩
      rw [List.length_map, List.take_length] at hD1
      refine ⟨D, _, rfl, SqL.of hD1, ?_⟩
      rw [List.all_map]
      exact q H1 sm
def sp_are_words (T : Txt w K mg) : Sp := fun vs H Q _ => ∃ (tw : Addr) (ws : List (Str × Int)), vs = [.ref tw] ∧ (Dt [] H (.ref tw) (.tuple (ws.map wdD))) ∧ Q (.bl (wordsF "" ws)) H
set_option maxHeartbeats 4000000 in
theorem ok_are_words (T : Txt w K mg) : FnOk P w K mg base CX0 1 T.f_are_words T.d_are_words ["words"] (sp_are_words T) := by
  refine T.F_are_words.ok sc_are_words (fun vs H Q E h => ?_) (fun cdv A outer s H vs Q E hr h => ?_)
  · obtain ⟨tw, ws, rfl, _⟩ := h
    rfl
  · obtain ⟨tw, ws, rfl, xw, q⟩ := h
    refine ⟨_, (pss_cons (ps_set (i := 1) sc_are_words.nd rfl (.inl rfl) pe_str) 
      (pss_cons (ps_for PassesOwn.never rfl (pi_tup (pv 0)) (pg_tup rfl (pgs_cons (pg_name (i := 2) sc_are_words.nd rfl (.inl rfl)) (pgs_cons (pg_name (i := 3) sc_are_words.nd rfl (.inl rfl)) pgs_nil))) (pss_cons (ps_if (PW.pt (pw_or (pt_cmpR op_le_str (pv 2) (pv 1) (nomark _)) (pw_or1 (pt_cmpR op_lt (pv 3) pe_int (nomark _))))) (pss_one (ps_ret pe_bl)) pss_nil) 
      (pss_one (ps_set (i := 1) sc_are_words.nd rfl (.inl rfl) (pv 2))))) 
      (pss_one (ps_ret pe_bl)))), ?_⟩
    obtain ⟨tw', vw, ew, _, gw, tt⟩ := xw.isT
    cases ew
    have lw := tt.length
    rw [List.length_map] at lw
    refine ⟨_, rfl, tw, rfl, ⟨_, SqT.of gw⟩, ?_⟩
    refine for_tup (K := K) (a := tw) (xs := vw) (fun i σ H' => H' = H ∧ ∃ last y2 y3, wordsF "" ws = wordsF last (ws.drop i) ∧ σ = [some (.ref tw), some (.str last), y2, y3]) ⟨rfl, "", none, none, rfl, rfl⟩ (fun i σ H' _ h => by rw [h.1]; exact SqT.of gw) ?_ ?_
    · rintro i v σ H' hi ⟨rfl, last, y2, y3, ew, rfl⟩
      obtain ⟨d, ed, xd⟩ := tt.get hi
      rw [List.getElem?_map] at ed
      cases ep : ws[i]? with
      | none =>
        rw [ep] at ed
        cases ed
      | some p =>
        rw [ep] at ed
        have := Option.some.inj ed
        subst this
        obtain ⟨t, u, rfl, _, et, xu⟩ := xd.isP
        rw [xu.isI] at et
        rw [drop_cons ep] at ew
        have ew' : wordsF "" ws = (decide (last.cps.toList < p.1.cps.toList) && !decide (p.2 < 1) && wordsF p.1 (ws.drop (i + 1))) := ew
        refine ⟨t, _, rfl, SqT.of et, rfl, _, _, rfl, _, _, rfl, rfl, ?_⟩
        refine ⟨_, rfl, _, rfl, _, _, rfl, rfl, _, rfl, ?_⟩
        by_cases c : last.cps.toList < p.1.cps.toList
        · rw [decide_eq_true c] at ew' ⊢
          refine iteF ⟨_, rfl, _, _, rfl, rfl, _, rfl, ?_⟩
          by_cases c2 : p.2 < 1
          · rw [decide_eq_true c2] at ew' ⊢
            refine iteT ?_
            rw [ew'] at q
            exact q
          · rw [decide_eq_false c2] at ew' ⊢
            refine iteF ⟨_, rfl, rfl, p.1, some (.str p.1), some (.int p.2), ?_, rfl⟩
            simpa using ew'
        · rw [decide_eq_false c] at ew' ⊢
          refine iteT ?_
          rw [ew'] at q
          exact q
    · rintro σ H' ⟨rfl, last, y2, y3, ew, rfl⟩
      rw [lw, List.drop_length] at ew
      have : wordsF "" ws = true := ew
      rw [this] at q
      exact q
def sp_are_fields_of (T : Txt w K mg) : Sp := fun vs H Q _ => ∃ (tp tf : Addr) (ps : List (Str × PyData)) (fs : List (Str × Str)), vs = [.ref tp, .ref tf] ∧ (Dt [] H (.ref tp) (.tuple (ps.map prD))) ∧ (Dt [] H (.ref tf) (.tuple (fs.map fdD))) ∧ (∀ p ∈ ps, IsVal p.2) ∧ Q (.bl (fitF ps fs)) H
set_option maxHeartbeats 8000000 in
theorem ok_are_fields_of (T : Txt w K mg) : FnOk P w K mg base CX0 2 T.f_are_fields_of T.d_are_fields_of ["fields", "known"] (sp_are_fields_of T) := by
  have G_kind_of_value : FnOk P w K mg base CX0 1 T.f_kind_of_value T.d_kind_of_value ["worth"] (sp_kind_of_value T) := ok_kind_of_value T
  refine T.F_are_fields_of.ok sc_are_fields_of (fun vs H Q E h => ?_) (fun cdv A outer s H vs Q E hr h => ?_)
  · obtain ⟨tp, tf, ps, fs, rfl, _⟩ := h
    rfl
  · obtain ⟨tp, tf, ps, fs, rfl, xp, xf, iv, q⟩ := h
    refine ⟨_, (pss_cons (ps_set (i := 2) sc_are_fields_of.nd rfl (.inl rfl) pe_int) 
      (pss_cons (ps_for PassesOwn.never rfl (pi_tup (pv 0)) (pg_tup rfl (pgs_cons (pg_name (i := 3) sc_are_fields_of.nd rfl (.inl rfl)) (pgs_cons (pg_name (i := 4) sc_are_fields_of.nd rfl (.inl rfl)) pgs_nil))) (pss_cons (ps_while PassesOwn.never (PW.pt (pw_and (pt_cmpR op_lt (pv 2) (pe_callB call_len_seq (by rfl) T.m_len PySem.boot_len (pa_cons (pv 1) pa_nil)) (nomark _)) (pw_and1 (pt_cmpR op_ne (pe_ix ix_tup (pe_ix ix_tup (pv 1) (pv 2) (fun _ _ => rfl)) pe_int (fun _ _ => rfl)) (pv 3) (nomark _))))) (pss_one (ps_aug (i := 2) sc_are_fields_of.nd rfl (.inl rfl) pe_int ip_add))) 
      (pss_cons (ps_if (PW.pt (pw_or (pt_cmpR op_eq (pv 2) (pe_callB call_len_seq (by rfl) T.m_len PySem.boot_len (pa_cons (pv 1) pa_nil)) (nomark _)) (pw_or1 (pt_cmpR op_ne (pe_ix ix_tup (pe_ix ix_tup (pv 1) (pv 2) (fun _ _ => rfl)) pe_int (fun _ _ => rfl)) (pe_call G_kind_of_value (hr.mono (by decide)) (by rfl) T.g_kind_of_value T.F_kind_of_value.kp T.b_kind_of_value .nil pass0 (pa_cons (pv 4) pa_nil)) (nomark _))))) (pss_one (ps_ret pe_bl)) pss_nil) 
      (pss_one (ps_aug (i := 2) sc_are_fields_of.nd rfl (.inl rfl) pe_int ip_add))))) 
      (pss_one (ps_ret pe_bl)))), ?_⟩
    obtain ⟨tp', vp, ep0, _, gp, tt⟩ := xp.isT
    cases ep0
    obtain ⟨tf', vf, ef0, _, gf, tg⟩ := xf.isT
    cases ef0
    have lp := tt.length
    have lf := tg.length
    rw [List.length_map] at lp lf
    refine ⟨_, rfl, tp, rfl, ⟨_, SqT.of gp⟩, ?_⟩
    refine for_tup (K := K) (a := tp) (xs := vp) (fun i σ H' => H' = H ∧ ∃ (k : Nat) (y3 y4 : Option V), k ≤ fs.length ∧ fitF ps fs = fitF (ps.drop i) (fs.drop k) ∧ σ = [some (.ref tp), some (.ref tf), some (.int (k : Nat)), y3, y4]) ⟨rfl, 0, none, none, Nat.zero_le _, rfl, rfl⟩ (fun i σ H' _ h => by rw [h.1]; exact SqT.of gp) ?_ ?_
    rotate_left
    · rintro σ H' ⟨rfl, k, y3, y4, _, ew, rfl⟩
      rw [lp, List.drop_length] at ew
      have : fitF ps fs = true := ew
      rw [this] at q
      exact q
    rintro i v σ H' hi ⟨rfl, k, y3, y4, lk, ew, rfl⟩
    obtain ⟨d, ed, xd⟩ := tt.get hi
    rw [List.getElem?_map] at ed
    cases ep : ps[i]? with
    | none =>
      rw [ep] at ed
      cases ed
    | some p =>
      rw [ep] at ed
      have := Option.some.inj ed
      subst this
      obtain ⟨t, u, rfl, _, et, xu⟩ := xd.isP
      rw [drop_cons ep] at ew
      refine ⟨t, _, rfl, SqT.of et, rfl, _, _, rfl, _, _, rfl, rfl, ?_⟩
      -- the field's data, by its place
      have fld : ∀ {j : Nat} {f : Str × Str}, fs[j]? = some f → ∃ tj : Addr, vf[j]? = some (.ref tj) ∧ H' tj = some (.tup [.str f.1, .str f.2]) := fun {j f} hj => by
        obtain ⟨vj, e1, e2⟩ := tg.at (i := j) (d := fdD f) (by rw [List.getElem?_map, hj]; rfl)
        obtain ⟨tj, w', rfl, _, e3, x3⟩ := e2.isP
        rw [x3.isS] at e3
        exact ⟨tj, e1, e3⟩
      obtain ⟨W, hW⟩ : ∃ W : Nat → L2.St → Hp → Prop, W = fun m σ H2 => H2 = H' ∧ ∃ (k : Nat), m = fs.length - k ∧ k ≤ fs.length ∧ fitF ps fs = fitF (p :: ps.drop (i + 1)) (fs.drop k) ∧ σ = [some (.ref tp), some (.ref tf), some (.int (k : Nat)), some (.str p.1), some u] := ⟨_, rfl⟩
      refine ⟨W, ⟨_, by rw [hW]; exact ⟨rfl, k, rfl, lk, ew, rfl⟩⟩, ?_⟩
      intro m0 σ H2 hw0
      rw [hW] at hw0
      obtain ⟨rfl, k, rfl, lk, ew, rfl⟩ := hw0
      refine ⟨_, rfl, _, rfl, tf, _, rfl, .inr (SqT.of gf), _, _, rfl, rfl, _, rfl, ?_⟩
      rw [lf]
      by_cases c : k < fs.length
      · have cc : ((k : Nat) : Int) < (fs.length : Int) := by omega
        rw [decide_eq_true cc]
        obtain ⟨f, hf⟩ : ∃ f, fs[k]? = some f := ⟨_, List.getElem?_eq_getElem c⟩
        obtain ⟨tj, v1, v2⟩ := fld hf
        rw [drop_cons hf] at ew
        refine iteT ⟨_, rfl, _, rfl, tf, _, _, _, rfl, rfl, SqT.of gf, at_of (j := k) rfl v1, tj, _, _, _, rfl, rfl, SqT.of v2, at_of (j := 0) rfl rfl, _, rfl, rfl, _, rfl, ?_⟩
        by_cases e : f.1 = p.1
        · rw [decide_eq_true (congrArg V.str e)]
          refine iteF ?_
          have e2 : fitF ps fs = (decide (f.2 = kindP p.2) && fitF (ps.drop (i + 1)) (fs.drop (k + 1))) := by
            rw [ew]
            show (match (f :: fs.drop (k + 1)).dropWhile (fun g => decide (¬ g.1 = p.1)) with | [] => false | g :: t => decide (g.2 = kindP p.2) && fitF (ps.drop (i + 1)) t) = _
            rw [List.dropWhile_cons, if_neg (by simpa using e)]
          refine ⟨_, rfl, _, rfl, tf, _, rfl, .inr (SqT.of gf), rfl, _, rfl, ite2 (fun e3 => ?_) (fun _ => ?_)⟩
          · have := V.int.inj (of_decide_eq_true e3)
            rw [lf] at this
            omega
          have kd : kindP p.2 = "integer" ∧ (∃ j, u = .int j) ∨ kindP p.2 = "text" ∧ (∃ z, u = .str z) ∨ kindP p.2 = "flag" ∧ (∃ b, u = .bl b) := by
            rcases val_cases xu (iv p (List.mem_of_getElem? ep)) with ⟨j, h1, h2⟩ | ⟨z, h1, h2, _⟩ | ⟨b, h1, h2⟩
            · exact .inl ⟨by rw [h2]; rfl, j, h1⟩
            · exact .inr (.inl ⟨by rw [h2]; rfl, z, h1⟩)
            · exact .inr (.inr ⟨by rw [h2]; rfl, b, h1⟩)
          refine ⟨_, rfl, _, rfl, tf, _, _, _, rfl, rfl, SqT.of gf, at_of (j := k) rfl v1, tj, _, _, _, rfl, rfl, SqT.of v2, at_of (j := 1) rfl rfl, _, rfl, _, rfl, ?_⟩
          rcases kd with ⟨hk, j, rfl⟩ | ⟨hk, j, rfl⟩ | ⟨hk, j, rfl⟩
          · refine .inl ⟨j, rfl, rfl, _, rfl, ?_⟩
            rw [hk] at e2
            by_cases z : f.2 = "integer"
            · rw [decide_eq_true (congrArg V.str z)]
              rw [decide_eq_true z, Bool.true_and] at e2
              exact iteF ⟨_, rfl, _, _, rfl, rfl, rfl, k + 1, _, _, by omega, e2, rfl⟩
            · rw [decide_eq_false (fun h => z (V.str.inj h))]
              rw [decide_eq_false z, Bool.false_and] at e2
              rw [e2] at q
              exact iteT q
          · refine .inr (.inl ⟨j, rfl, rfl, _, rfl, ?_⟩)
            rw [hk] at e2
            by_cases z : f.2 = "text"
            · rw [decide_eq_true (congrArg V.str z)]
              rw [decide_eq_true z, Bool.true_and] at e2
              exact iteF ⟨_, rfl, _, _, rfl, rfl, rfl, k + 1, _, _, by omega, e2, rfl⟩
            · rw [decide_eq_false (fun h => z (V.str.inj h))]
              rw [decide_eq_false z, Bool.false_and] at e2
              rw [e2] at q
              exact iteT q
          · refine .inr (.inr ⟨j, rfl, rfl, _, rfl, ?_⟩)
            rw [hk] at e2
            by_cases z : f.2 = "flag"
            · rw [decide_eq_true (congrArg V.str z)]
              rw [decide_eq_true z, Bool.true_and] at e2
              exact iteF ⟨_, rfl, _, _, rfl, rfl, rfl, k + 1, _, _, by omega, e2, rfl⟩
            · rw [decide_eq_false (fun h => z (V.str.inj h))]
              rw [decide_eq_false z, Bool.false_and] at e2
              rw [e2] at q
              exact iteT q
        · rw [decide_eq_false (fun h => e (V.str.inj h))]
          have e2 : fitF ps fs = fitF (p :: ps.drop (i + 1)) (fs.drop (k + 1)) := by
            rw [ew]
            show (match (f :: fs.drop (k + 1)).dropWhile (fun g => decide (¬ g.1 = p.1)) with | [] => false | g :: t => decide (g.2 = kindP p.2) && fitF (ps.drop (i + 1)) t) = _
            rw [List.dropWhile_cons, if_pos (decide_eq_true e)]
            rfl
          refine iteT ⟨fun σ' H3 => ∃ m', m' < fs.length - k ∧ W m' σ' H3, fun σ' H3 h => h, _, rfl, _, _, rfl, rfl, fs.length - (k + 1), by omega, ?_⟩
          rw [hW]
          exact ⟨rfl, k + 1, rfl, by omega, e2, rfl⟩
      · have cc : ¬ ((k : Nat) : Int) < (fs.length : Int) := by omega
        rw [decide_eq_false cc]
        refine iteF ?_
        have kl : k = fs.length := by omega
        have e2 : fitF ps fs = false := by
          rw [ew, kl, List.drop_length]
          rfl
        rw [e2] at q
        refine ⟨_, rfl, _, rfl, tf, _, rfl, .inr (SqT.of gf), rfl, _, rfl, ite2 (fun _ => q) (fun e3 => absurd (decide_eq_true ?_) e3)⟩
        rw [lf, kl]
def sp_Schema___contains__ (T : Txt w K mg) : Sp := fun vs H Q _ => ∃ (p r : Addr) (n : Int) (w m : Str) (fs : List (Str × Str)) (z : Str) (vec : List Int) (ps : List (Str × PyData)) (ws : List (Str × Int)), vs = [.ref p, .ref r] ∧ (SchAt [] T.c_Schema H p n w m fs) ∧ (RecAt [] T.c_Record H r z vec ps ws) ∧ (w ∈ WIDE3) ∧ (vec.length ≤ 1000) ∧ (∀ p ∈ ps, IsVal p.2) ∧ ∀ H', Same H H' → Q (.bl (fitsB n w fs z vec ps ws)) H'
set_option maxHeartbeats 4000000 in
theorem ok_Schema___contains__ (T : Txt w K mg) : FnOk P w K mg base CX0 3 T.f_Schema___contains__ T.d_Schema___contains__ ["self", "record"] (sp_Schema___contains__ T) := by
  have G_are_words : FnOk P w K mg base CX0 1 T.f_are_words T.d_are_words ["words"] (sp_are_words T) := ok_are_words T
  have G_are_fields_of : FnOk P w K mg base CX0 2 T.f_are_fields_of T.d_are_fields_of ["fields", "known"] (sp_are_fields_of T) := ok_are_fields_of T
  have G_are_within : FnOk P w K mg base CX0 1 T.f_are_within T.d_are_within ["vector", "width"] (sp_are_within T) := ok_are_within T
  refine T.F_Schema___contains__.ok sc_Schema___contains__ (fun vs H Q E h => ?_) (fun cdv A outer s H vs Q E hr h => ?_)
  · obtain ⟨p, r, n, w, m, fs, z, vec, ps, ws, rfl, _⟩ := h
    rfl
  · obtain ⟨p, r, n, w, m, fs, z, vec, ps, ws, rfl, hS, hR, hw, lv, iv, q⟩ := h
    refine ⟨_, (pss_one (ps_ret (pe_and (pe_cmpR op_ne (pe_fld (pv 1) rfl) pe_str (nomark _)) (pe_and (pe_cmpR op_eq (pe_callB call_len_seq (by rfl) T.m_len PySem.boot_len (pa_cons (pe_fld (pv 1) rfl) pa_nil)) (pe_fld (pv 0) rfl) (nomark _)) (pe_and (pe_call G_are_within (hr.mono (by decide)) (by rfl) T.g_are_within T.F_are_within.kp T.b_are_within .nil pass0 (pa_cons (pe_fld (pv 1) rfl) (pa_cons (pe_fld (pv 0) rfl) pa_nil))) (pe_and (pe_call G_are_fields_of (hr.mono (by decide)) (by rfl) T.g_are_fields_of T.F_are_fields_of.kp T.b_are_fields_of .nil pass0 (pa_cons (pe_fld (pv 1) rfl) (pa_cons (pe_fld (pv 0) rfl) pa_nil))) (pe_one (pe_call G_are_words (hr.mono (by decide)) (by rfl) T.g_are_words T.F_are_words.kp T.b_are_words .nil pass0 (pa_cons (pe_fld (pv 1) rfl) pa_nil))))))))), ?_⟩
    obtain ⟨_, dx, tf, hx, xf⟩ := id hS
    obtain ⟨_, dr, tv, tp, tw, hr_, _, hv, xp, xw⟩ := id hR
    unfold fitsB at q
    refine ⟨_, rfl, r, T.c_Record, dr, _, _, rfl, hr_, T.cl_Record, T.n_Record_name, lk_Record_name, rfl, ?_⟩
    by_cases e1 : z = ""
    · rw [decide_eq_true (congrArg V.str e1)]
      rw [decide_eq_true e1] at q
      exact ⟨false, rfl, iteF (q H (Same.refl _))⟩
    rw [decide_eq_false (fun h => e1 (V.str.inj h))]
    rw [decide_eq_false e1, Bool.not_false, Bool.true_and] at q
    refine ⟨true, rfl, iteT ⟨_, rfl, r, T.c_Record, dr, _, _, rfl, hr_, T.cl_Record, T.n_Record_vector, lk_Record_vector, tv, _, rfl, .inr (SqT.of hv), _, rfl, p, T.c_Schema, dx, _, _, rfl, hx, T.cl_Schema, T.n_Schema_size, lk_Schema_size, rfl, ?_⟩⟩
    rw [List.length_map]
    by_cases e2 : (vec.length : Int) = n
    · rw [decide_eq_true (congrArg V.int e2)]
      rw [decide_eq_true e2, Bool.true_and] at q
      refine ⟨true, rfl, iteT ⟨_, rfl, r, T.c_Record, dr, _, _, rfl, hr_, T.cl_Record, T.n_Record_vector, lk_Record_vector, _, rfl, p, T.c_Schema, dx, _, _, rfl, hx, T.cl_Schema, T.n_Schema_width, lk_Schema_width, tv, vec, w, rfl, hv, hw, lv, fun H1 s1 => ⟨_, rfl, ?_⟩⟩⟩
      cases e3 : vec.all (inW w) with
      | false =>
        rw [e3] at q
        exact iteF (q H1 s1)
      | true =>
        rw [e3, Bool.true_and] at q
        refine iteT ⟨_, rfl, r, T.c_Record, dr, _, _, rfl, (s1 _ _ hr_), T.cl_Record, T.n_Record_fields, lk_Record_fields, _, rfl, p, T.c_Schema, dx, _, _, rfl, (s1 _ _ hx), T.cl_Schema, T.n_Schema_fields, lk_Schema_fields, tp, tf, ps, fs, rfl, xp.same s1, xf.same s1, iv, ⟨_, rfl, ?_⟩⟩
        cases e4 : fitF ps fs with
        | false =>
          rw [e4] at q
          exact iteF (q H1 s1)
        | true =>
          rw [e4, Bool.true_and] at q
          exact iteT ⟨_, rfl, r, T.c_Record, dr, _, _, rfl, (s1 _ _ hr_), T.cl_Record, T.n_Record_words, lk_Record_words, tw, ws, rfl, xw.same s1, q H1 s1⟩
    · rw [decide_eq_false (fun h => e2 (V.int.inj h))]
      rw [decide_eq_false e2, Bool.false_and] at q
      exact ⟨false, rfl, iteF (q H (Same.refl _))⟩
def sp_Schema_check (T : Txt w K mg) : Sp := fun vs H Q E => ∃ (p r : Addr) (n : Int) (w m : Str) (fs : List (Str × Str)) (z : Str) (vec : List Int) (ps : List (Str × PyData)) (ws : List (Str × Int)), vs = [.ref p, .ref r] ∧ (SchAt [] T.c_Schema H p n w m fs) ∧ (RecAt [] T.c_Record H r z vec ps ws) ∧ (w ∈ WIDE3) ∧ (vec.length ≤ 1000) ∧ (∀ p ∈ ps, IsVal p.2) ∧ (fitsB n w fs z vec ps ws = true → ∀ H', Same H H' → Q .non H') ∧ (fitsB n w fs z vec ps ws = false → ∀ H', Same H H' → E (.ref T.c_InvalidRecord) none H')
set_option maxHeartbeats 4000000 in
theorem ok_Schema_check (T : Txt w K mg) : FnOk P w K mg base (L2.CX P w) 4 T.f_Schema_check T.d_Schema_check ["self", "record"] (sp_Schema_check T) := by
  have G_Schema___contains__ : FnOk P w K mg base CX0 3 T.f_Schema___contains__ T.d_Schema___contains__ ["self", "record"] (sp_Schema___contains__ T) := ok_Schema___contains__ T
  refine T.F_Schema_check.okX sc_Schema_check (fun vs H Q E h => ?_) (fun cdv A outer s H vs Q E hr h => ?_)
  · obtain ⟨p, r, n, w, m, fs, z, vec, ps, ws, rfl, _⟩ := h
    rfl
  · obtain ⟨p, r, n, w, m, fs, z, vec, ps, ws, rfl, hS, hR, hw, lv, iv, q⟩ := h
    refine ⟨_, (pss_one (ps_if (pt_cmpR (op_ownNotIn T.me_Schema___contains__ G_Schema___contains__ (hr.mono (by decide)) T.b_Schema___contains__ pass0) (pv 1) (pv 0) rfl) (pss_one (ps_raise rfl (takes_of rfl rfl rfl rfl) (pmk_own PySem.F.excBase_ValueError T.x_InvalidRecord T.mc_InvalidRecord T.kp_InvalidRecord (raises_own T.xb_InvalidRecord T.xt_InvalidRecord) rfl))) pss_nil)), ?_⟩
    obtain ⟨q1, q2⟩ := q
    obtain ⟨_, dx, tf, hx, xf⟩ := id hS
    refine ⟨_, rfl, _, rfl, p, dx, _, rfl, hx, p, r, n, w, m, fs, z, vec, ps, ws, rfl, hS, hR, hw, lv, iv, fun H1 s1 => ⟨_, rfl, ?_⟩⟩
    cases e : fitsB n w fs z vec ps ws with
    | true => exact ⟨_, rfl, iteF (q1 e H1 s1)⟩
    | false => exact ⟨_, rfl, iteT (q2 e H1 s1)⟩
def sp_Record_value (T : Txt w K mg) : Sp := fun vs H Q _ => ∃ (r : Addr) (z : Str) (vec : List Int) (ps : List (Str × PyData)) (ws : List (Str × Int)) (y : Str), vs = [.ref r, .str y] ∧ (RecAt [] T.c_Record H r z vec ps ws) ∧ (∀ p ∈ ps, IsVal p.2) ∧ Q (firstW ps y) H
set_option maxHeartbeats 4000000 in
theorem ok_Record_value (T : Txt w K mg) : FnOk P w K mg base CX0 1 T.f_Record_value T.d_Record_value ["self", "name"] (sp_Record_value T) := by
  refine T.F_Record_value.ok sc_Record_value (fun vs H Q E h => ?_) (fun cdv A outer s H vs Q E hr h => ?_)
  · obtain ⟨r, z, vec, ps, ws, y, rfl, _⟩ := h
    rfl
  · obtain ⟨r, z, vec, ps, ws, y, rfl, hR, iv, q⟩ := h
    refine ⟨_, (pss_cons (ps_for PassesOwn.never rfl (pi_tup (pe_fld (pv 0) rfl)) (pg_tup rfl (pgs_cons (pg_name (i := 2) sc_Record_value.nd rfl (.inl rfl)) (pgs_cons (pg_name (i := 3) sc_Record_value.nd rfl (.inl rfl)) pgs_nil))) (pss_one (ps_if (pt_cmpR op_eq (pv 2) (pv 1) (nomark _)) (pss_one (ps_ret (pv 3))) pss_nil))) 
      (pss_one (ps_ret pe_non))), ?_⟩
    obtain ⟨_, dr, tv, tp, tw, hr_, _, hv, xp, xw⟩ := id hR
    obtain ⟨tp', vp, ep0, _, gp, tt⟩ := xp.isT
    cases ep0
    have lp := tt.length
    rw [List.length_map] at lp
    refine ⟨_, rfl, r, T.c_Record, dr, _, _, rfl, hr_, T.cl_Record, T.n_Record_fields, lk_Record_fields, tp, rfl, ⟨_, SqT.of gp⟩, ?_⟩
    refine for_tup (K := K) (a := tp) (xs := vp) (fun i σ H' => H' = H ∧ firstW ps y = firstW (ps.drop i) y ∧ ∃ y2 y3, σ = [some (.ref r), some (.str y), y2, y3]) ⟨rfl, rfl, none, none, rfl⟩ (fun i σ H' _ h => by rw [h.1]; exact SqT.of gp) ?_ ?_
    · rintro i v σ H' hi ⟨rfl, ek, y2, y3, rfl⟩
      obtain ⟨d, ed, xd⟩ := tt.get hi
      rw [List.getElem?_map] at ed
      cases ep : ps[i]? with
      | none =>
        rw [ep] at ed
        cases ed
      | some f =>
        rw [ep] at ed
        have := Option.some.inj ed
        subst this
        obtain ⟨t, u, rfl, _, et, xu⟩ := xd.isP
        have uv : u = valV f.2 := valV_of xu (iv f (List.mem_of_getElem? ep))
        rw [drop_cons ep] at ek
        refine ⟨t, _, rfl, SqT.of et, rfl, _, _, rfl, _, _, rfl, rfl, ?_⟩
        refine ⟨_, rfl, _, rfl, rfl, _, rfl, ite2 (fun e => ?_) (fun e => ?_)⟩
        · have c : f.1 = y := V.str.inj (of_decide_eq_true e)
          have : firstW ps y = valV f.2 := by
            rw [ek]
            unfold firstW
            rw [List.find?_cons_of_pos (by simpa using c)]
          rw [this, ← uv] at q
          exact ⟨_, rfl, q⟩
        · have c : ¬ f.1 = y := fun h => e (decide_eq_true (congrArg V.str h))
          refine ⟨rfl, ?_, _, _, rfl⟩
          rw [ek]
          unfold firstW
          rw [List.find?_cons_of_neg (by simpa using c)]
    · rintro σ H' ⟨rfl, ek, y2, y3, rfl⟩
      rw [lp, List.drop_length] at ek
      have : firstW ps y = .non := ek
      rw [this] at q
      exact q
def sp_Record_count_of (T : Txt w K mg) : Sp := fun vs H Q _ => ∃ (r : Addr) (z : Str) (vec : List Int) (ps : List (Str × PyData)) (ws : List (Str × Int)) (y : Str), vs = [.ref r, .str y] ∧ (RecAt [] T.c_Record H r z vec ps ws) ∧ Q (.int (firstC ws y)) H
set_option maxHeartbeats 4000000 in
theorem ok_Record_count_of (T : Txt w K mg) : FnOk P w K mg base CX0 1 T.f_Record_count_of T.d_Record_count_of ["self", "word"] (sp_Record_count_of T) := by
  refine T.F_Record_count_of.ok sc_Record_count_of (fun vs H Q E h => ?_) (fun cdv A outer s H vs Q E hr h => ?_)
  · obtain ⟨r, z, vec, ps, ws, y, rfl, _⟩ := h
    rfl
  · obtain ⟨r, z, vec, ps, ws, y, rfl, hR, q⟩ := h
    refine ⟨_, (pss_cons (ps_for PassesOwn.never rfl (pi_tup (pe_fld (pv 0) rfl)) (pg_tup rfl (pgs_cons (pg_name (i := 2) sc_Record_count_of.nd rfl (.inl rfl)) (pgs_cons (pg_name (i := 3) sc_Record_count_of.nd rfl (.inl rfl)) pgs_nil))) (pss_one (ps_if (pt_cmpR op_eq (pv 2) (pv 1) (nomark _)) (pss_one (ps_ret (pv 3))) pss_nil))) 
      (pss_one (ps_ret pe_int))), ?_⟩
    obtain ⟨_, dr, tv, tp, tw, hr_, _, hv, xp, xw⟩ := id hR
    obtain ⟨tw', vw, ew0, _, gw, tt⟩ := xw.isT
    cases ew0
    have lw := tt.length
    rw [List.length_map] at lw
    refine ⟨_, rfl, r, T.c_Record, dr, _, _, rfl, hr_, T.cl_Record, T.n_Record_words, lk_Record_words, tw, rfl, ⟨_, SqT.of gw⟩, ?_⟩
    refine for_tup (K := K) (a := tw) (xs := vw) (fun i σ H' => H' = H ∧ firstC ws y = firstC (ws.drop i) y ∧ ∃ y2 y3, σ = [some (.ref r), some (.str y), y2, y3]) ⟨rfl, rfl, none, none, rfl⟩ (fun i σ H' _ h => by rw [h.1]; exact SqT.of gw) ?_ ?_
    · rintro i v σ H' hi ⟨rfl, ek, y2, y3, rfl⟩
      obtain ⟨d, ed, xd⟩ := tt.get hi
      rw [List.getElem?_map] at ed
      cases ep : ws[i]? with
      | none =>
        rw [ep] at ed
        cases ed
      | some f =>
        rw [ep] at ed
        have := Option.some.inj ed
        subst this
        obtain ⟨t, u, rfl, _, et, xu⟩ := xd.isP
        rw [xu.isI] at et
        rw [drop_cons ep] at ek
        refine ⟨t, _, rfl, SqT.of et, rfl, _, _, rfl, _, _, rfl, rfl, ?_⟩
        refine ⟨_, rfl, _, rfl, rfl, _, rfl, ite2 (fun e => ?_) (fun e => ?_)⟩
        · have c : f.1 = y := V.str.inj (of_decide_eq_true e)
          have : firstC ws y = f.2 := by
            rw [ek]
            unfold firstC
            rw [List.find?_cons_of_pos (by simpa using c)]
          rw [this] at q
          exact ⟨_, rfl, q⟩
        · have c : ¬ f.1 = y := fun h => e (decide_eq_true (congrArg V.str h))
          refine ⟨rfl, ?_, _, _, rfl⟩
          rw [ek]
          unfold firstC
          rw [List.find?_cons_of_neg (by simpa using c)]
    · rintro σ H' ⟨rfl, ek, y2, y3, rfl⟩
      rw [lw, List.drop_length] at ek
      have : firstC ws y = 0 := ek
      rw [this] at q
      exact q
def sp_law_kind (T : Txt w K mg) : Sp := fun vs H Q _ => ∃ (v : V), vs = [v] ∧ ((∃ i, v = .int i ∧ Q (.str "integer") H) ∨ (∃ z, v = .str z ∧ Q (.str "text") H) ∨ (∃ b, v = .bl b ∧ Q (.str "flag") H))
set_option maxHeartbeats 4000000 in
theorem ok_law_kind (T : Txt w K mg) : FnOk P w K mg base CX0 1 T.f_law_kind T.d_law_kind ["worth"] (sp_law_kind T) := by
  refine T.F_law_kind.ok sc_law_kind (fun vs H Q E h => ?_) (fun cdv A outer s H vs Q E hr h => ?_)
  · obtain ⟨v, rfl, _⟩ := h
    rfl
  · obtain ⟨v, rfl, q⟩ := h
    refine ⟨_, (pss_cons (ps_if (pt_val (pe_callB call_isi (by rfl) T.m_isinstance (by decide +kernel) (pa_cons (pv 0) (pa_cons (pe_bltn (v := .ty "bool") (u := .type "bool") (by rfl) T.m_bool (by decide +kernel) rfl) pa_nil)))) (pss_one (ps_ret pe_str)) pss_nil) 
      (pss_cons (ps_if (pt_val (pe_callB call_isi (by rfl) T.m_isinstance (by decide +kernel) (pa_cons (pv 0) (pa_cons (pe_bltn (v := .ty "str") (u := .type "str") (by rfl) T.m_str (by decide +kernel) rfl) pa_nil)))) (pss_one (ps_ret pe_str)) pss_nil) 
      (pss_one (ps_ret pe_str)))), ?_⟩
    rcases q with ⟨i, rfl, q⟩ | ⟨z, rfl, q⟩ | ⟨b, rfl, q⟩
    · refine ⟨_, rfl, _, _, _, _, false, rfl, .ty _, .base (.int _), kit_ty (by decide +kernel), false, rfl, iteF ?_⟩
      exact ⟨_, rfl, _, _, _, _, false, rfl, .ty _, .base (.int _), kit_ty (by decide +kernel), false, rfl, iteF q⟩
    · refine ⟨_, rfl, _, _, _, _, false, rfl, .ty _, .base (.str _), kit_ty (by decide +kernel), false, rfl, iteF ?_⟩
      exact ⟨_, rfl, _, _, _, _, true, rfl, .ty _, .base (.str _), kit_ty (by decide +kernel), true, rfl, iteT q⟩
    · exact ⟨_, rfl, _, _, _, _, true, rfl, .ty _, .base (.bl _), kit_ty (by decide +kernel), true, rfl, iteT q⟩
def sp_law_refused (T : Txt w K mg) : Sp := fun vs H Q _ => ∃ (p r : Addr) (n : Int) (w m : Str) (fs : List (Str × Str)) (z : Str) (vec : List Int) (ps : List (Str × PyData)) (ws : List (Str × Int)), vs = [.ref p, .ref r] ∧ (SchAt [] T.c_Schema H p n w m fs) ∧ (RecAt [] T.c_Record H r z vec ps ws) ∧ (w ∈ WIDE3) ∧ (vec.length ≤ 1000) ∧ (∀ p ∈ ps, IsVal p.2) ∧ ∀ H', Same H H' → Q (.bl (!fitsB n w fs z vec ps ws)) H'
set_option maxHeartbeats 4000000 in
theorem ok_law_refused (T : Txt w K mg) : FnOk P w K mg base CX0 5 T.f_law_refused T.d_law_refused ["schema", "record"] (sp_law_refused T) := by
  have G_Schema_check : FnOk P w K mg base (L2.CX P w) 4 T.f_Schema_check T.d_Schema_check ["self", "record"] (sp_Schema_check T) := ok_Schema_check T
  refine T.F_law_refused.ok sc_law_refused (fun vs H Q E h => ?_) (fun cdv A outer s H vs Q E hr h => ?_)
  · obtain ⟨p, r, n, w, m, fs, z, vec, ps, ws, rfl, _⟩ := h
    rfl
  · obtain ⟨p, r, n, w, m, fs, z, vec, ps, ws, rfl, hS, hR, hw, lv, iv, q⟩ := h
    refine ⟨_, (pss_one (ps_try_many (Wout := fun _ _ _ _ => False) rfl rfl takes0 (fun W pn xe tk po => (by exact (pss_cons (ps_if (pt_cmpR op_isN (pe_meth (pv 0) T.cl_Schema T.me_Schema_check G_Schema_check (hr.mono (by decide)) T.b_Schema_check .nil (passes_call (E := fun cls d H => ∀ σ, W cls d σ H) tk (fun _ _ σ _ h => h σ)) (pa_cons (pv 1) pa_nil)) pe_non (nomark _)) (pss_one (ps_ret pe_bl)) pss_nil) 
      (pss_one (ps_ret pe_non))))) (.cons ⟨rfl, by decide, .inl T.mc_InvalidRecord⟩ (fun a oe cls d pn _ _ => (pss_one (ps_ret pe_bl))) (.cons ⟨rfl, by decide, .inl T.mc_SurenearError⟩ (fun a oe cls d pn _ _ => (pss_one (ps_ret pe_non))) .nil)))), ?_⟩
    obtain ⟨_, dx, tf, hx, xf⟩ := id hS
    refine ⟨_, rfl, p, dx, _, rfl, hx, no_Schema, _, rfl, p, r, n, w, m, fs, z, vec, ps, ws, rfl, hS, hR, hw, lv, iv, fun e H1 s1 => ?_, fun e H1 s1 => ?_⟩
    · rw [e] at q
      exact ⟨rfl, _, rfl, iteT (q H1 s1)⟩
    · rw [e] at q
      intro σ
      exact ⟨true, T.xm_InvalidRecord_InvalidRecord, fun _ a ha => q H1 s1, fun z => by cases z⟩
def sp_law_fits (T : Txt w K mg) : Sp := fun vs H Q _ => ∃ (t pf av pp pw : Addr) (n : Int) (w m : Str) (fs : List (Str × Str)) (z : Str) (vec : List Int) (ps : List (Str × PyData)) (ws : List (Str × Int)), vs = [.ref t, .str z, .ref av, .ref pp, .ref pw] ∧ (H t = some (.tup [.int n, .str w, .str m, .ref pf])) ∧ (w ∈ WIDE3) ∧ (FieldsOk fs) ∧ (Dt [] H (.ref pf) (.list (fs.map fdD))) ∧ (H av = some (.lst (vec.map V.int))) ∧ (Dt [] H (.ref pp) (.list (ps.map prD))) ∧ (Dt [] H (.ref pw) (.list (ws.map wdD))) ∧ (vec.length ≤ 1000) ∧ (ps.length ≤ 1000) ∧ (ws.length ≤ 1000) ∧ (∀ p ∈ ps, IsVal p.2) ∧ ∀ H', Same H H' → Q (.bl (fitsB n w fs z vec ps ws)) H'
set_option maxHeartbeats 8000000 in
theorem ok_law_fits (T : Txt w K mg) : FnOk P w K mg base CX0 2 T.f_law_fits T.d_law_fits ["drawn", "name", "vector", "pairs", "words"] (sp_law_fits T) := by
  have G_law_kind : FnOk P w K mg base CX0 1 T.f_law_kind T.d_law_kind ["worth"] (sp_law_kind T) := ok_law_kind T
  refine T.F_law_fits.ok sc_law_fits (fun vs H Q E h => ?_) (fun cdv A outer s H vs Q E hr h => ?_)
  · obtain ⟨t, pf, av, pp, pw, n, w, m, fs, z, vec, ps, ws, rfl, _⟩ := h
    rfl
  · obtain ⟨t, pf, av, pp, pw, n, w, m, fs, z, vec, ps, ws, rfl, ht, hw, ok, xf, hv, xp, xw, lv, lp, lw, iv, q⟩ := h
    refine ⟨_, (pss_cons (ps_asg (pv 0) (pg_tup rfl (pgs_cons (pg_name (i := 5) sc_law_fits.nd rfl (.inl rfl)) (pgs_cons (pg_name (i := 6) sc_law_fits.nd rfl (.inl rfl)) (pgs_cons (pg_name (i := 7) sc_law_fits.nd rfl (.inl rfl)) (pgs_cons (pg_name (i := 8) sc_law_fits.nd rfl (.inl rfl)) pgs_nil)))))) 
      (pss_cons (ps_set (i := 9) sc_law_fits.nd rfl (.inl rfl) (pe_bm PySem.F.plainAttrs_list PySem.F.slot_list_index PySem.F.type_list_index mt_index (pe_lst (pa_cons pe_str (pa_cons pe_str (pa_cons pe_str pa_nil)))) (pa_cons (pv 6) pa_nil))) 
      (pss_cons (ps_if (PW.pt (pw_or (pt_cmpR op_eq (pv 1) pe_str (nomark _)) (pw_or1 (pt_cmpR op_ne (pe_callB call_len_seq (by rfl) T.m_len PySem.boot_len (pa_cons (pv 2) pa_nil)) (pv 5) (nomark _))))) (pss_one (ps_ret pe_bl)) pss_nil) 
      (pss_cons (ps_for PassesOwn.never rfl (pi_list (pv 2)) (pg_name (i := 10) sc_law_fits.nd rfl (.inl rfl)) (pss_one (ps_if (PW.pt (pw_or (pt_cmpR op_lt (pv 10) (pe_ix ix_list (pe_lst (pa_cons pe_int (pa_cons (pe_un un_neg pe_int) (pa_cons (pe_un un_neg pe_int) pa_nil)))) (pv 9) (fun _ _ => rfl)) (nomark _)) (pw_or1 (pt_cmpR op_gt (pv 10) (pe_ix ix_list (pe_lst (pa_cons pe_int (pa_cons pe_int (pa_cons pe_int pa_nil)))) (pv 9) (fun _ _ => rfl)) (nomark _))))) (pss_one (ps_ret pe_bl)) pss_nil))) 
      (pss_cons (ps_setLc (i := 11) (own := [("field", 12), ("kind", 13)]) (g := gTup K 2 (gCons (gName 12) (gCons (gName 13) gNil))) rfl sc_law_fits.nd rfl rfl (sw_true rfl rfl rfl (by decide +kernel)) (pi_list (pv 8)) (blkOk_by (own := [("field", 12), ("kind", 13)]) (N := ["drawn", "name", "vector", "pairs", "words", "size", "width", "measure", "fields", "place", "number", "names", "field", "kind", "last", "worth", "before", "word", "count"]) (sc := defScope s_law_fits) (by decide +kernel)) (fun _ _ _ _ _ => (by exact (pg_tup rfl (pgs_cons (pg_name (i := 12) sc_law_fits.nd rfl (Or.inl rfl)) (pgs_cons (pg_name (i := 13) sc_law_fits.nd rfl (Or.inl rfl)) pgs_nil))))) (fun _ _ _ _ _ => pts_nil) (fun _ _ _ _ _ => (pv 12))) 
      (pss_cons (ps_set (i := 14) sc_law_fits.nd rfl (.inl rfl) (pe_un un_neg pe_int)) 
      (pss_cons (ps_for PassesOwn.never rfl (pi_list (pv 3)) (pg_tup rfl (pgs_cons (pg_name (i := 12) sc_law_fits.nd rfl (.inl rfl)) (pgs_cons (pg_name (i := 15) sc_law_fits.nd rfl (.inl rfl)) pgs_nil))) (pss_cons (ps_if (PW.pt (pw_or (pt_cmpR op_notIn_seq (pv 12) (pv 11) rfl) (pw_or (pt_cmpR op_le (pe_bm PySem.F.plainAttrs_list PySem.F.slot_list_index PySem.F.type_list_index mt_index (pv 11) (pa_cons (pv 12) pa_nil)) (pv 14) (nomark _)) (pw_or1 (pt_cmpR op_ne (pe_ix ix_tup (pe_ix ix_list (pv 8) (pe_bm PySem.F.plainAttrs_list PySem.F.slot_list_index PySem.F.type_list_index mt_index (pv 11) (pa_cons (pv 12) pa_nil)) (fun _ _ => rfl)) pe_int (fun _ _ => rfl)) (pe_call G_law_kind (hr.mono (by decide)) (by rfl) T.g_law_kind T.F_law_kind.kp T.b_law_kind .nil pass0 (pa_cons (pv 15) pa_nil)) (nomark _)))))) (pss_one (ps_ret pe_bl)) pss_nil) 
      (pss_one (ps_set (i := 14) sc_law_fits.nd rfl (.inl rfl) (pe_bm PySem.F.plainAttrs_list PySem.F.slot_list_index PySem.F.type_list_index mt_index (pv 11) (pa_cons (pv 12) pa_nil)))))) 
      (pss_cons (ps_set (i := 16) sc_law_fits.nd rfl (.inl rfl) pe_str) 
      (pss_cons (ps_for PassesOwn.never rfl (pi_list (pv 4)) (pg_tup rfl (pgs_cons (pg_name (i := 17) sc_law_fits.nd rfl (.inl rfl)) (pgs_cons (pg_name (i := 18) sc_law_fits.nd rfl (.inl rfl)) pgs_nil))) (pss_cons (ps_if (PW.pt (pw_or (pt_cmpR op_le_str (pv 17) (pv 16) (nomark _)) (pw_or1 (pt_cmpR op_lt (pv 18) pe_int (nomark _))))) (pss_one (ps_ret pe_bl)) pss_nil) 
      (pss_one (ps_set (i := 16) sc_law_fits.nd rfl (.inl rfl) (pv 17))))) 
      (pss_one (ps_ret pe_bl))))))))))), ?_⟩
    obtain ⟨pp', vp, ep0, _, gp, tp⟩ := xp.isL
    cases ep0
    obtain ⟨pw', vw, ew0, _, gw, tw⟩ := xw.isL
    cases ew0
    have lp2 := tp.length
    have lw2 := tw.length
    rw [List.length_map] at lp2 lw2

    obtain ⟨pf', vf, ef0, _, gf, tf⟩ := xf.isL
    cases ef0
    have lf2 := tf.length
    rw [List.length_map] at lf2
    have lok := ok.len
    have nod := (names_nodup ok).2
    have qF : fitsB n w fs z vec ps ws = false → ∀ H', Same H H' → Q (.bl false) H' := fun e => by rw [e] at q; exact q
    obtain ⟨j, _, g1, g2, g3, g4, g5, _⟩ := wide3b hw
    refine ⟨_, rfl, t, _, rfl, SqT.of ht, rfl, _, _, rfl, _, _, rfl, _, _, rfl, _, _, rfl, rfl, ?_⟩
    refine ⟨(by show 3 ≤ sizeLine; decide), fun a2 ha2 => ⟨.inl ⟨rfl, _, SqL.of upd_same⟩, _, rfl, a2, _, _, j, _, rfl, rfl, SqL.of upd_same, rfl, by decide +kernel, g1, g2, g3, ?_⟩⟩
    have s1 := same_new (o := .lst [V.str "bit", V.str "small", V.str "wide"]) ha2
    generalize upd H a2 (.lst [V.str "bit", V.str "small", V.str "wide"]) = H1 at s1 ⊢
    -- if name == '' or len(vector) != size
    refine ⟨_, rfl, rfl, _, rfl, ite2 (fun e => ?_) (fun e => ?_)⟩
    · have c : z = "" := V.str.inj (of_decide_eq_true e)
      exact qF (by unfold fitsB; rw [decide_eq_true c]; rfl) H1 s1
    have nz : ¬ z = "" := fun h => e (decide_eq_true (congrArg V.str h))
    refine ⟨_, rfl, av, _, rfl, .inl (SqL.of (s1 _ _ hv)), _, rfl, rfl, _, rfl, ?_⟩
    rw [List.length_map]
    by_cases el : (vec.length : Int) = n
    rotate_left
    · rw [decide_eq_false (fun h => el (V.int.inj h))]
      exact iteT (qF (by unfold fitsB; rw [decide_eq_false el, Bool.false_and, Bool.and_false]) H1 s1)
    rw [decide_eq_true (congrArg V.int el)]
    refine iteF ?_
    -- for number in vector
    refine ⟨_, rfl, av, rfl, ⟨_, SqL.of (s1 _ _ hv)⟩, ?_⟩
    refine for_list (K := K) (a := av) (xs := vec.map V.int) (fun i σ H' => Same H H' ∧ (vec.take i).all (inW w) = true ∧ ∃ (y10 y11 y12 y13 y14 y15 y16 y17 y18 : Option V), σ = [some (.ref t), some (.str z), some (.ref av), some (.ref pp), some (.ref pw), some (.int n), some (.str w), some (.str m), some (.ref pf), some (.int (j : Nat)), y10, y11, y12, y13, y14, y15, y16, y17, y18]) ⟨s1, rfl, none, none, none, none, none, none, none, none, none, rfl⟩ (fun i σ H' _ h => SqL.of (h.1 _ _ hv)) ?_ ?_
    · rintro i v σ H2 hi ⟨s2, al, y10, y11, y12, y13, y14, y15, y16, y17, y18, rfl⟩
      obtain ⟨x, rfl, hx⟩ := get_map hi
      refine ⟨_, rfl, _, rfl, _, rfl, (by show 3 ≤ sizeLine; decide), fun l hl => ⟨_, rfl, l, _, _, _, rfl, rfl, SqL.of upd_same, at_of rfl g4, _, _, rfl, rfl, _, rfl, ?_⟩⟩
      have s3 := s2.trans (same_new (o := .lst [V.int 0, V.int (-128), V.int (-32768)]) hl)
      generalize upd H2 l (.lst [V.int 0, V.int (-128), V.int (-32768)]) = H3 at s3 ⊢
      have bad : inW w x = false → vec.all (inW w) = false := fun h => by
        rw [List.all_eq_false]
        exact ⟨x, List.mem_of_getElem? hx, by rw [h]; decide⟩
      have badF : inW w x = false → fitsB n w fs z vec ps ws = false := fun h => by
        unfold fitsB
        rw [bad h, Bool.false_and, Bool.and_false, Bool.and_false]
      by_cases c1 : x < loW w
      · rw [decide_eq_true c1]
        exact iteT (qF (badF (by unfold inW; rw [decide_eq_false (by omega), Bool.false_and])) H3 s3)
      · rw [decide_eq_false c1]
        refine iteF ⟨_, rfl, (by show 3 ≤ sizeLine; decide), fun l2 hl2 => ⟨_, rfl, l2, _, _, _, rfl, rfl, SqL.of upd_same, at_of rfl g5, _, _, rfl, rfl, _, rfl, ?_⟩⟩
        have s4 := s3.trans (same_new (o := .lst [V.int 1, V.int 127, V.int 32767]) hl2)
        generalize upd H3 l2 (.lst [V.int 1, V.int 127, V.int 32767]) = H4 at s4 ⊢
        by_cases c2 : x > hiW w
        · rw [decide_eq_true c2]
          exact iteT (qF (badF (by unfold inW; rw [decide_eq_false (show ¬ x ≤ hiW w by omega), Bool.and_false])) H4 s4)
        · rw [decide_eq_false c2]
          refine iteF ⟨s4, ?_, _, _, _, _, _, _, _, _, _, rfl⟩
          rw [List.take_add_one, hx, List.all_append, al]
          have : inW w x = true := by unfold inW; rw [decide_eq_true (by omega), decide_eq_true (by omega)]; rfl
          simp [this]
    rintro σ H2 ⟨s2, al, y10, y11, y12, y13, y14, y15, y16, y17, y18, rfl⟩
    rw [List.length_map, List.take_length] at al
    have fin : fitsB n w fs z vec ps ws = (fitF ps fs && wordsF "" ws) := by
      unfold fitsB
      rw [decide_eq_false nz, decide_eq_true el, al]
      rfl
    -- names
    refine ⟨_, rfl, pf, rfl, ⟨_, SqL.of (s2 _ _ gf)⟩, fun D hD => ?_⟩
    refine lc_list (K := K) (a := pf) (xs := vf) (fun i H' => Same H2 H' ∧ H' D = some (.lst (((fs.take i).map (·.1)).map V.str))) ⟨same_new hD, upd_same⟩ (fun i H' _ h => SqL.of (h.1 _ _ (s2 _ _ gf))) ?_ ?_
    · rintro i v H3 hi ⟨sm, hD1⟩
      obtain ⟨d, ed, xd⟩ := tf.get hi
      rw [List.getElem?_map] at ed
      cases ep : fs[i]? with
      | none =>
        rw [ep] at ed
        cases ed
      | some f =>
        rw [ep] at ed
        have := Option.some.inj ed
        subst this
        obtain ⟨t, u, rfl, _, et, xu⟩ := xd.isP
        refine ⟨t, _, rfl, SqT.of (sm _ _ (s2 _ _ et)), rfl, _, _, rfl, _, _, rfl, rfl, rfl, _, rfl, _, hD1, ?_, same_set sm hD, ?_⟩
        · rw [List.length_map, List.length_map, List.length_take]
          exact len_le (by omega)
        · rw [upd_same, List.take_add_one, ep]
          simp
    rintro H3 ⟨sm, hD1⟩
    rw [lf2, List.take_length] at hD1
    have s3 := s2.trans sm
    clear sm
    -- last = -1
    refine ⟨_, rfl, ?_⟩
    refine ⟨_, rfl, pp, rfl, ⟨_, SqL.of (s3 _ _ gp)⟩, ?_⟩
    refine for_list (K := K) (a := pp) (xs := vp) (fun i σ H' => H' = H3 ∧ ∃ k : Nat, k ≤ fs.length ∧ fitF ps fs = fitF (ps.drop i) (fs.drop k) ∧ ∃ (y10 y12 y13 y15 y16 y17 y18 : Option V), σ = [some (.ref t), some (.str z), some (.ref av), some (.ref pp), some (.ref pw), some (.int n), some (.str w), some (.str m), some (.ref pf), some (.int (j : Nat)), y10, some (.ref D), y12, y13, some (.int ((k : Nat) - 1)), y15, y16, y17, y18]) ⟨rfl, 0, Nat.zero_le _, rfl, _, _, _, _, _, _, _, rfl⟩ (fun i σ H' _ h => by rw [h.1]; exact SqL.of (s3 _ _ gp)) ?_ ?_
    · rintro i v σ H' hi ⟨rfl, k, lk, ew, y10, y12, y13, y15, y16, y17, y18, rfl⟩
      obtain ⟨d, ed, xd⟩ := tp.get hi
      rw [List.getElem?_map] at ed
      cases ep : ps[i]? with
      | none =>
        rw [ep] at ed
        cases ed
      | some p =>
        rw [ep] at ed
        have := Option.some.inj ed
        subst this
        obtain ⟨t0, u, rfl, _, et, xu⟩ := xd.isP
        rw [drop_cons ep] at ew
        have bad : fitF (p :: ps.drop (i + 1)) (fs.drop k) = false → Q (.bl false) H' := fun h => qF (by rw [fin, ew, h]; rfl) H' s3
        refine ⟨t0, _, rfl, SqT.of (s3 _ _ et), rfl, _, _, rfl, _, _, rfl, rfl, ?_⟩
        refine ⟨_, rfl, _, rfl, D, (fs.map (·.1)).map V.str, rfl, .inl (SqL.of hD1), rfl, flat_strsV _, ?_⟩
        show ∃ k, V.bl (!inV (.str p.1) ((fs.map (·.1)).map V.str)) = .bl k ∧ _
        rw [inV_strs]
        refine ⟨_, rfl, ite2 (fun e2 => ?_) (fun e2 => ?_)⟩
        · have c : p.1 ∉ fs.map (·.1) := by simpa using e2
          exact bad (fit_no fun f hf h => c (by rw [← h]; exact List.mem_map_of_mem (List.mem_of_mem_drop hf)))
        have c : p.1 ∈ fs.map (·.1) := by simpa using e2
        obtain ⟨j2, lj, hj, fj⟩ := idxS c
        have i1 : ((fs.map (·.1)).map V.str)[j2]? = some (.str p.1) := by rw [List.getElem?_map, hj]; rfl
        have i2 := eqV_same p.1
        have i3 := idxV fj
        obtain ⟨f, hf, ef⟩ : ∃ f, fs[j2]? = some f ∧ f.1 = p.1 := by
          rw [List.getElem?_map] at hj
          cases e : fs[j2]? with
          | none =>
            rw [e] at hj
            cases hj
          | some f =>
            rw [e] at hj
            exact ⟨f, rfl, Option.some.inj hj⟩
        have fst' : ∀ (i : Nat) (g : Str × Str), i < j2 → fs[i]? = some g → ¬ g.1 = p.1 := fun i g hi hg => fj i g.1 hi (by rw [List.getElem?_map, hg]; rfl)
        refine ⟨_, rfl, .inl ⟨rfl, _, SqL.of hD1⟩, _, rfl, D, _, _, j2, _, rfl, rfl, SqL.of hD1, rfl, flat_strsV _, i1, i2, i3, _, rfl, _, _, rfl, rfl, _, rfl, ite2 (fun e3 => ?_) (fun e3 => ?_)⟩
        · have c3 : ((j2 : Nat) : Int) ≤ ((k : Nat) : Int) - 1 := of_decide_eq_true e3
          refine bad (fit_no fun g hg h => ?_)
          obtain ⟨m2, hm2⟩ := List.mem_iff_getElem?.mp hg
          rw [List.getElem?_drop] at hm2
          have h5 : (fs.map (·.1))[k + m2]? = (fs.map (·.1))[j2]? := by rw [hj, List.getElem?_map, hm2, ← h]; rfl
          have := (List.getElem?_inj lj nod).mp h5.symm
          omega
        have c3 : ¬ ((j2 : Nat) : Int) ≤ ((k : Nat) : Int) - 1 := fun h => e3 (decide_eq_true h)
        have kj : k ≤ j2 := by omega
        have step := fit_at (r := ps.drop (i + 1)) kj hf ef fst'
        rw [step] at bad
        rw [step] at ew
        obtain ⟨vj, n1, n2⟩ := tf.at (i := j2) (d := fdD f) (by rw [List.getElem?_map, hf]; rfl)
        obtain ⟨tj, u3, rfl, _, e4, x4⟩ := n2.isP
        rw [x4.isS] at e4
        have lj2 : j2 < fs.length := by simpa using lj
        have kd : kindP p.2 = "integer" ∧ (∃ j, u = .int j) ∨ kindP p.2 = "text" ∧ (∃ z, u = .str z) ∨ kindP p.2 = "flag" ∧ (∃ b, u = .bl b) := by
          rcases val_cases xu (iv p (List.mem_of_getElem? ep)) with ⟨j, h1, h2⟩ | ⟨z, h1, h2, _⟩ | ⟨b, h1, h2⟩
          · exact .inl ⟨by rw [h2]; rfl, j, h1⟩
          · exact .inr (.inl ⟨by rw [h2]; rfl, z, h1⟩)
          · exact .inr (.inr ⟨by rw [h2]; rfl, b, h1⟩)
        have nxt : ((j2 : Nat) : Int) = (((j2 + 1 : Nat) : Int) - 1) := by omega
        refine ⟨_, rfl, _, rfl, .inl ⟨rfl, _, SqL.of hD1⟩, _, rfl, D, _, _, j2, _, rfl, rfl, SqL.of hD1, rfl, flat_strsV _, i1, i2, i3, pf, _, _, _, rfl, rfl, SqL.of (s3 _ _ gf), at_of (j := j2) rfl n1, tj, _, _, _, rfl, rfl, SqT.of (s3 _ _ e4), at_of (j := 1) rfl rfl, _, rfl, _, rfl, ?_⟩
        rcases kd with ⟨hk, j, rfl⟩ | ⟨hk, j, rfl⟩ | ⟨hk, j, rfl⟩
        · refine .inl ⟨j, rfl, rfl, _, rfl, ?_⟩
          rw [hk] at bad ew
          by_cases z5 : f.2 = "integer"
          · rw [decide_eq_true (congrArg V.str z5)]
            rw [decide_eq_true z5, Bool.true_and] at ew
            refine iteF ⟨_, rfl, .inl ⟨rfl, _, SqL.of hD1⟩, _, rfl, D, _, _, j2, _, rfl, rfl, SqL.of hD1, rfl, flat_strsV _, i1, i2, i3, rfl, j2 + 1, by omega, ew, ?_⟩
            rw [← nxt]
            exact ⟨_, _, _, _, _, _, _, rfl⟩
          · rw [decide_eq_false (fun h => z5 (V.str.inj h))]
            rw [decide_eq_false z5, Bool.false_and] at bad
            exact iteT (bad rfl)
        · refine .inr (.inl ⟨j, rfl, rfl, _, rfl, ?_⟩)
          rw [hk] at bad ew
          by_cases z5 : f.2 = "text"
          · rw [decide_eq_true (congrArg V.str z5)]
            rw [decide_eq_true z5, Bool.true_and] at ew
            refine iteF ⟨_, rfl, .inl ⟨rfl, _, SqL.of hD1⟩, _, rfl, D, _, _, j2, _, rfl, rfl, SqL.of hD1, rfl, flat_strsV _, i1, i2, i3, rfl, j2 + 1, by omega, ew, ?_⟩
            rw [← nxt]
            exact ⟨_, _, _, _, _, _, _, rfl⟩
          · rw [decide_eq_false (fun h => z5 (V.str.inj h))]
            rw [decide_eq_false z5, Bool.false_and] at bad
            exact iteT (bad rfl)
        · refine .inr (.inr ⟨j, rfl, rfl, _, rfl, ?_⟩)
          rw [hk] at bad ew
          by_cases z5 : f.2 = "flag"
          · rw [decide_eq_true (congrArg V.str z5)]
            rw [decide_eq_true z5, Bool.true_and] at ew
            refine iteF ⟨_, rfl, .inl ⟨rfl, _, SqL.of hD1⟩, _, rfl, D, _, _, j2, _, rfl, rfl, SqL.of hD1, rfl, flat_strsV _, i1, i2, i3, rfl, j2 + 1, by omega, ew, ?_⟩
            rw [← nxt]
            exact ⟨_, _, _, _, _, _, _, rfl⟩
          · rw [decide_eq_false (fun h => z5 (V.str.inj h))]
            rw [decide_eq_false z5, Bool.false_and] at bad
            exact iteT (bad rfl)
    rintro σ H' ⟨rfl, k, lk, ew, y10, y12, y13, y15, y16, y17, y18, rfl⟩
    rw [lp2, List.drop_length] at ew
    have fin2 : fitsB n w fs z vec ps ws = wordsF "" ws := by
      rw [fin, ew]
      rfl
    -- words
    refine ⟨_, rfl, pw, rfl, ⟨_, SqL.of (s3 _ _ gw)⟩, ?_⟩
    refine for_list (K := K) (a := pw) (xs := vw) (fun i σ H2 => H2 = H' ∧ ∃ last : Str, wordsF "" ws = wordsF last (ws.drop i) ∧ ∃ (y5 y6 y7 y8 y9 y10 y11 y12 y13 y14 y15 y17 y18 : Option V), σ = [some (.ref t), some (.str z), some (.ref av), some (.ref pp), some (.ref pw), y5, y6, y7, y8, y9, y10, y11, y12, y13, y14, y15, some (.str last), y17, y18]) ⟨rfl, "", rfl, _, _, _, _, _, _, _, _, _, _, _, _, _, rfl⟩ (fun i σ H' _ h => by rw [h.1]; exact SqL.of (s3 _ _ gw)) ?_ ?_
    · rintro i v σ H2 hi ⟨rfl, last, ew, y5, y6, y7, y8, y9, y10, y11, y12, y13, y14, y15, y17, y18, rfl⟩
      obtain ⟨d, ed, xd⟩ := tw.get hi
      rw [List.getElem?_map] at ed
      cases ep : ws[i]? with
      | none =>
        rw [ep] at ed
        cases ed
      | some p =>
        rw [ep] at ed
        have := Option.some.inj ed
        subst this
        obtain ⟨t, u, rfl, _, et, xu⟩ := xd.isP
        rw [xu.isI] at et
        rw [drop_cons ep] at ew
        have ew' : wordsF "" ws = (decide (last.cps.toList < p.1.cps.toList) && !decide (p.2 < 1) && wordsF p.1 (ws.drop (i + 1))) := ew
        refine ⟨t, _, rfl, SqT.of (s3 _ _ et), rfl, _, _, rfl, _, _, rfl, rfl, ?_⟩
        refine ⟨_, rfl, _, rfl, _, _, rfl, rfl, _, rfl, ?_⟩
        by_cases c : last.cps.toList < p.1.cps.toList
        · rw [decide_eq_true c] at ew' ⊢
          refine iteF ⟨_, rfl, _, _, rfl, rfl, _, rfl, ?_⟩
          by_cases c2 : p.2 < 1
          · rw [decide_eq_true c2] at ew' ⊢
            exact iteT (qF (by rw [fin2, ew']; rfl) _ s3)
          · rw [decide_eq_false c2] at ew' ⊢
            refine iteF ⟨_, rfl, rfl, p.1, ?_, _, _, _, _, _, _, _, _, _, _, _, _, _, rfl⟩
            simpa using ew'
        · rw [decide_eq_false c] at ew' ⊢
          exact iteT (qF (by rw [fin2, ew']; rfl) _ s3)
    · rintro σ H2 ⟨rfl, last, ew, y5, y6, y7, y8, y9, y10, y11, y12, y13, y14, y15, y17, y18, rfl⟩
      rw [lw2, List.drop_length] at ew
      have f := q H2 s3
      rw [fin2, ew] at f
      exact f
def sp_law_change (T : Txt w K mg) : Sp := fun vs H Q _ => ∃ (st sc t th av pp pw : Addr) (n : Int) (w m : Str) (pf : Addr) (z : Str) (vec : List Int) (ps : List (Str × PyData)) (ws : List (Str × Int)), vs = [.ref st, .ref t, .ref th] ∧ (StAt H st sc) ∧ (H t = some (.tup [.int n, .str w, .str m, .ref pf])) ∧ (t ≠ st) ∧ (w ∈ WIDE3) ∧ (H th = some (.tup [.str z, .ref av, .ref pp, .ref pw])) ∧ (Good st H 10 av pp pw vec ps ws) ∧ ∀ (t2 av2 pp2 pw2 : Addr) (z2 : Str) (vec2 : List Int) (ps2 : List (Str × PyData)) (ws2 : List (Str × Int)) (H' : Hp), t2 ≠ st → H' t2 = some (.tup [.str z2, .ref av2, .ref pp2, .ref pw2]) → Good st H' 22 av2 pp2 pw2 vec2 ps2 ws2 → StAt H' st sc → Fr st H H' → Q (.ref t2) H'
set_option maxHeartbeats 16000000 in
theorem ok_law_change (T : Txt w K mg) : FnOk P w K mg base CX0 3 T.f_law_change T.d_law_change ["state", "drawn", "thing"] (sp_law_change T) := by
  have G_law_next : FnOk P w K mg base CX0 2 T.f_law_next T.d_law_next ["state", "many"] (sp_law_next T) := ok_law_next T
  refine T.F_law_change.ok sc_law_change (fun vs H Q E h => ?_) (fun cdv A outer s H vs Q E hr h => ?_)
  · obtain ⟨st, sc, t, th, av, pp, pw, n, w, m, pf, z, vec, ps, ws, rfl, _⟩ := h
    rfl
  · obtain ⟨st, sc, t, th, av, pp, pw, n, w, m, pf, z, vec, ps, ws, rfl, hS, ht, nt, hw, hth, G, q⟩ := h
    refine ⟨_, (pss_cons (ps_asg (pv 2) (pg_tup rfl (pgs_cons (pg_name (i := 3) sc_law_change.nd rfl (.inl rfl)) (pgs_cons (pg_name (i := 4) sc_law_change.nd rfl (.inl rfl)) (pgs_cons (pg_name (i := 5) sc_law_change.nd rfl (.inr rfl)) (pgs_cons (pg_name (i := 6) sc_law_change.nd rfl (.inl rfl)) pgs_nil)))))) 
      (pss_cons (ps_set (i := 7) sc_law_change.nd rfl (.inl rfl) (pe_call G_law_next (hr.mono (by decide)) (by rfl) T.g_law_next T.F_law_next.kp T.b_law_next .nil pass0 (pa_cons (pv 0) (pa_cons pe_int pa_nil)))) 
      (pss_cons (ps_set (i := 8) sc_law_change.nd rfl (.inl rfl) (pe_bm PySem.F.plainAttrs_list PySem.F.slot_list_index PySem.F.type_list_index mt_index (pe_lst (pa_cons pe_str (pa_cons pe_str (pa_cons pe_str pa_nil)))) (pa_cons (pe_ix ix_tup (pv 1) pe_int (fun _ _ => rfl)) pa_nil))) 
      (pss_cut (ps_if (pt_cmpR op_eq (pv 7) pe_int (nomark _)) (pss_one (ps_set (i := 3) sc_law_change.nd rfl (.inl rfl) pe_str)) pss_nil) 
      (pss_cut (ps_if (pt_cmpR op_eq (pv 7) pe_int (nomark _)) (pss_one (ps_set (i := 4) sc_law_change.nd rfl (.inl rfl) (pe_op op_cat (pv 4) (pe_lst (pa_cons pe_int pa_nil))))) pss_nil) 
      (pss_cut (ps_if (pt_cmpR op_eq (pv 7) pe_int (nomark _)) (pss_one (ps_set (i := 4) sc_law_change.nd rfl (.inl rfl) (pe_slice sl_list (pv 4) (po_some pe_int) po_none))) pss_nil) 
      (pss_cut (ps_if (pt_cmpR op_eq (pv 7) pe_int (nomark _)) (pss_one (ps_set (i := 4) sc_law_change.nd rfl (.inl rfl) (pe_op op_cat (pe_slice sl_list (pv 4) (po_some pe_int) po_none) (pe_lst (pa_cons (pe_ix ix_list (pe_lst (pa_cons pe_int (pa_cons pe_int (pa_cons pe_int pa_nil)))) (pv 8) (fun _ _ => rfl)) pa_nil))))) pss_nil) 
      (pss_cut (ps_if (pt_cmpR op_eq (pv 7) pe_int (nomark _)) (pss_one (ps_set (i := 4) sc_law_change.nd rfl (.inl rfl) (pe_op op_cat (pe_lst (pa_cons (pe_ix ix_list (pe_lst (pa_cons (pe_un un_neg pe_int) (pa_cons (pe_un un_neg pe_int) (pa_cons (pe_un un_neg pe_int) pa_nil)))) (pv 8) (fun _ _ => rfl)) pa_nil)) (pe_slice sl_list (pv 4) (po_some pe_int) po_none)))) pss_nil) 
      (pss_cut (ps_if (pt_cmpR op_eq (pv 7) pe_int (nomark _)) (pss_one (ps_set (i := 5) sc_law_change.nd rfl (.inr rfl) (pe_op op_cat (pv 5) (pe_lst (pa_cons (pe_tup (pa_cons pe_str (pa_cons pe_int pa_nil))) pa_nil))))) pss_nil) 
      (pss_cut (ps_if (pt_cmpR op_eq (pv 7) pe_int (nomark _)) (pss_one (ps_set (i := 5) sc_law_change.nd rfl (.inr rfl) (pe_op op_cat (pv 5) (pe_slice sl_list (pv 5) po_none (po_some pe_int))))) pss_nil) 
      (pss_cut (ps_if (pt_cmpR op_eq (pv 7) pe_int (nomark _)) (pss_one (ps_set (i := 5) sc_law_change.nd rfl (.inr rfl) (pe_lc (own := [("field", 9), ("worth", 10)]) (g := gTup K 2 (gCons (gName 9) (gCons (gName 10) gNil))) rfl sc_law_change.nd (pi_list (pv 5)) (blkOk_by (own := [("field", 9), ("worth", 10)]) (N := ["state", "drawn", "thing", "name", "vector", "pairs", "words", "kind", "place", "field", "worth", "k"]) (sc := defScope s_law_change) (by decide +kernel)) (fun _ _ _ _ _ => (by exact (pg_tup rfl (pgs_cons (pg_name (i := 9) sc_law_change.nd rfl (Or.inl rfl)) (pgs_cons (pg_name (i := 10) sc_law_change.nd rfl (Or.inl rfl)) pgs_nil))))) (fun _ _ _ _ _ => pts_nil) (fun _ _ _ _ _ => (pe_tup (pa_cons (pv 9) (pa_cons (pe_ix (r := rIxL K) (by exact ix_list) (pe_lst (pa_cons pe_bl (pa_cons pe_str (pa_cons pe_int pa_nil)))) (pe_call G_law_next (hr.mono (by decide)) (by rfl) T.g_law_next T.F_law_next.kp T.b_law_next .nil pass0 (pa_cons (pv 0) (pa_cons pe_int pa_nil))) (fun _ _ => rfl)) pa_nil))))))) pss_nil) 
      (pss_cut (ps_if (pt_cmpR op_eq (pv 7) pe_int (nomark _)) (pss_one (ps_set (i := 6) sc_law_change.nd rfl (.inl rfl) (pe_op op_cat (pv 6) (pe_slice sl_list (pv 6) po_none (po_some pe_int))))) pss_nil) 
      (pss_cut (ps_if (pt_cmpR op_eq (pv 7) pe_int (nomark _)) (pss_one (ps_set (i := 6) sc_law_change.nd rfl (.inl rfl) (pe_op op_cat (pe_lst (pa_cons (pe_tup (pa_cons pe_str (pa_cons pe_int pa_nil))) pa_nil)) (pv 6)))) pss_nil) 
      (pss_cut (ps_if (pt_cmpR op_eq (pv 7) pe_int (nomark _)) (pss_one (ps_set (i := 6) sc_law_change.nd rfl (.inl rfl) (pe_op op_cat (pv 6) (pe_lst (pa_cons (pe_tup (pa_cons pe_str (pa_cons (pe_call G_law_next (hr.mono (by decide)) (by rfl) T.g_law_next T.F_law_next.kp T.b_law_next .nil pass0 (pa_cons (pv 0) (pa_cons pe_int pa_nil))) pa_nil))) pa_nil))))) pss_nil) 
      (pss_cut (ps_if (pt_cmpR op_eq (pv 7) pe_int (nomark _)) (pss_one (ps_set (i := 5) sc_law_change.nd rfl (.inr rfl) (pe_lc (own := [("k", 11)]) (g := gName 11) rfl sc_law_change.nd (pi_range1 rfl T.m_range (pa_cons (pe_callB call_len_seq (by rfl) T.m_len PySem.boot_len (pa_cons (pv 5) pa_nil)) pa_nil)) (blkOk_by (own := [("k", 11)]) (N := ["state", "drawn", "thing", "name", "vector", "pairs", "words", "kind", "place", "field", "worth", "k"]) (sc := defScope s_law_change) (by decide +kernel)) (fun _ _ _ _ _ => (pg_name (i := 11) sc_law_change.nd rfl (Or.inl rfl))) (fun _ _ _ _ _ => pts_nil) (fun _ _ _ _ _ => (pe_ix (r := rIxL K) (by exact ix_list) (pv 5) (pe_op op_sub (pe_op op_sub (pe_callB (r := rLenB K) (by exact call_len_seq) (by rfl) T.m_len PySem.boot_len (pa_cons (pv 5) pa_nil)) pe_int) (pv 11)) (fun _ _ => rfl)))))) pss_nil) 
      (pss_one (ps_ret (pe_tup (pa_cons (pv 3) (pa_cons (pv 4) (pa_cons (pv 5) (pa_cons (pv 6) pa_nil)))))))))))))))))))))), ?_⟩
    obtain ⟨j, j3', g1, g2, g3, _⟩ := wide3b hw
    have j3 : j = 0 ∨ j = 1 ∨ j = 2 := by omega
    refine ⟨_, rfl, th, _, rfl, SqT.of hth, rfl, _, _, rfl, _, _, rfl, _, _, rfl, _, _, rfl, rfl, ?_⟩
    refine ⟨_, rfl, st, sc, 12, rfl, hS, by decide, by decide +kernel, fun d H1 d0 d1 hS1 o1 => ?_⟩
    refine ⟨(by show 3 ≤ sizeLine; decide), fun a2 ha2 => ⟨.inl ⟨rfl, _, SqL.of upd_same⟩, _, rfl, t, _, _, _, rfl, rfl, SqT.of (same_new ha2 _ _ (o1.fr _ _ ht nt)), at_of (j := 1) rfl rfl, a2, _, _, j, _, rfl, rfl, SqL.of upd_same, rfl, by decide +kernel, g1, g2, g3, ?_⟩⟩
    have s1 := same_new (o := .lst [V.str "bit", V.str "small", V.str "wide"]) ha2
    have f := o1.fr.trans (same_fr (st := st) s1)
    have hSc := hS1.same s1
    have G1 := G.fr f
    clear g1 g2 g3 s1 o1 hS1
    generalize upd H1 a2 (.lst [V.str "bit", V.str "small", V.str "wide"]) = Hc at f hSc G1 ⊢
    clear ha2
    refine ⟨ChW t th st sc d (j : Nat) H 11, ?_, ?_⟩
    · have hS := hSc
      have G := G1
      clear q
      refine ⟨_, rfl, rfl, _, rfl, ite2 (fun _ => ?_) (fun _ => ?_)⟩
      · exact ⟨f, hS, "", _, _, _, _, _, _, _, _, _, G.up (by omega), rfl⟩
      · exact ⟨f, hS, z, _, _, _, _, _, _, _, _, _, G.up (by omega), rfl⟩
    clear f
    rintro σ0 Hc ⟨f, hSc, z, av, pp, pw, vec, ps, ws, y9, y10, y11, G1, rfl⟩
    refine ⟨ChW t th st sc d (j : Nat) H 12, ?_, ?_⟩
    · have hS := hSc
      have G := G1
      clear q
      refine ⟨_, rfl, rfl, _, rfl, ite2 (fun _ => ?_) (fun _ => ?_)⟩
      · have bv := G.lv
        refine ⟨_, rfl, (by show 1 ≤ sizeLine; decide), fun l hl => ⟨av, l, _, _, rfl, rfl, same_new hl _ _ G.hav, upd_same, lenLe (by simp; omega), fun p hp => ?_⟩⟩
        have sm := (same_new (o := .lst [V.int 0]) hl).trans (same_new (o := .lst (vec.map V.int ++ [V.int 0])) hp)
        exact ⟨f.trans (same_fr sm), hS.same sm, z, _, _, _, _, _, _, _, _, _, G.setV (vec' := vec ++ [0]) (same_fr sm) (by omega) (st_new (hS.new hl) hp) (by rw [upd_same, List.map_append]; rfl) (by simp; omega), rfl⟩
      · exact ⟨f, hS, z, _, _, _, _, _, _, _, _, _, G.up (by omega), rfl⟩
    clear f
    rintro σ1 Hc ⟨f, hSc, z, av, pp, pw, vec, ps, ws, y9, y10, y11, G1, rfl⟩
    refine ⟨ChW t th st sc d (j : Nat) H 13, ?_, ?_⟩
    · have hS := hSc
      have G := G1
      clear q
      refine ⟨_, rfl, rfl, _, rfl, ite2 (fun _ => ?_) (fun _ => ?_)⟩
      · have bv := G.lv
        refine ⟨_, rfl, _, rfl, av, _, rfl, SqL.of G.hav, fun p hp => ?_⟩
        rw [cut1]
        have sm := same_new (o := .lst ((vec.map V.int).drop 1)) hp
        exact ⟨f.trans (same_fr sm), hS.same sm, z, _, _, _, _, _, _, _, _, _, G.setV (vec' := vec.drop 1) (same_fr sm) (by omega) (st_new hS hp) (by rw [upd_same, List.map_drop]) (by simp; omega), rfl⟩
      · exact ⟨f, hS, z, _, _, _, _, _, _, _, _, _, G.up (by omega), rfl⟩
    clear f
    rintro σ2 Hc ⟨f, hSc, z, av, pp, pw, vec, ps, ws, y9, y10, y11, G1, rfl⟩
    refine ⟨ChW t th st sc d (j : Nat) H 14, ?_, ?_⟩
    · have hS := hSc
      have G := G1
      clear q
      refine ⟨_, rfl, rfl, _, rfl, ite2 (fun _ => ?_) (fun _ => ?_)⟩
      · have bv := G.lv
        refine ⟨_, rfl, _, rfl, av, _, rfl, SqL.of G.hav, fun p1 hp1 => ?_⟩
        rw [cut1]
        have s1 := same_new (o := .lst ((vec.map V.int).drop 1)) hp1
        have h1 : (upd Hc p1 (.lst ((vec.map V.int).drop 1))) p1 = some (.lst ((vec.map V.int).drop 1)) := upd_same
        generalize upd Hc p1 (.lst ((vec.map V.int).drop 1)) = Hd at s1 h1 ⊢
        obtain ⟨x, gx⟩ : ∃ x : Int, [V.int 2, V.int 128, V.int 32768][j]? = some (.int x) := by
          rcases j3 with rfl | rfl | rfl <;> exact ⟨_, rfl⟩
        refine ⟨(by show 3 ≤ sizeLine; decide), fun l hl => ⟨_, rfl, l, _, _, _, rfl, rfl, SqL.of upd_same, at_of rfl gx, (by show 1 ≤ sizeLine; decide), fun l2 hl2 => ⟨p1, l2, _, _, rfl, rfl, same_new hl2 _ _ (same_new hl _ _ h1), upd_same, lenLe (by simp; omega), fun p hp => ?_⟩⟩⟩
        have sm := s1.trans ((same_new (o := .lst [V.int 2, V.int 128, V.int 32768]) hl).trans ((same_new (o := .lst [V.int x]) hl2).trans (same_new (o := .lst ((vec.map V.int).drop 1 ++ [V.int x])) hp)))
        exact ⟨f.trans (same_fr sm), hS.same sm, z, _, _, _, _, _, _, _, _, _, G.setV (vec' := vec.drop 1 ++ [x]) (same_fr sm) (by omega) (st_new (((hS.same s1).new hl).new hl2) hp) (by rw [upd_same, List.map_append, List.map_drop]; rfl) (by simp; omega), rfl⟩
      · exact ⟨f, hS, z, _, _, _, _, _, _, _, _, _, G.up (by omega), rfl⟩
    clear f
    rintro σ3 Hc ⟨f, hSc, z, av, pp, pw, vec, ps, ws, y9, y10, y11, G1, rfl⟩
    refine ⟨ChW t th st sc d (j : Nat) H 15, ?_, ?_⟩
    · have hS := hSc
      have G := G1
      clear q
      refine ⟨_, rfl, rfl, _, rfl, ite2 (fun _ => ?_) (fun _ => ?_)⟩
      · have bv := G.lv
        obtain ⟨x, gx⟩ : ∃ x : Int, [V.int (-1), V.int (-129), V.int (-32769)][j]? = some (.int x) := by
          rcases j3 with rfl | rfl | rfl <;> exact ⟨_, rfl⟩
        refine ⟨_, rfl, _, rfl, _, rfl, (by show 3 ≤ sizeLine; decide), fun l hl => ⟨_, rfl, l, _, _, _, rfl, rfl, SqL.of upd_same, at_of rfl gx, (by show 1 ≤ sizeLine; decide), fun l2 hl2 => ⟨_, rfl, _, rfl, av, _, rfl, SqL.of (same_new hl2 _ _ (same_new hl _ _ G.hav)), fun p1 hp1 => ?_⟩⟩⟩
        rw [cut1]
        have s1 := (same_new (o := .lst [V.int (-1), V.int (-129), V.int (-32769)]) hl).trans ((same_new (o := .lst [V.int x]) hl2).trans (same_new (o := .lst ((vec.map V.int).drop 1)) hp1))
        refine ⟨l2, p1, _, _, rfl, rfl, same_new hp1 _ _ upd_same, upd_same, lenLe (by simp; omega), fun p hp => ?_⟩
        have sm := s1.trans (same_new (o := .lst ([V.int x] ++ (vec.map V.int).drop 1)) hp)
        exact ⟨f.trans (same_fr sm), hS.same sm, z, _, _, _, _, _, _, _, _, _, G.setV (vec' := [x] ++ vec.drop 1) (same_fr sm) (by omega) (st_new (hS.same s1) hp) (by rw [upd_same, List.map_append, List.map_drop]; rfl) (by simp; omega), rfl⟩
      · exact ⟨f, hS, z, _, _, _, _, _, _, _, _, _, G.up (by omega), rfl⟩
    clear f
    rintro σ4 Hc ⟨f, hSc, z, av, pp, pw, vec, ps, ws, y9, y10, y11, G1, rfl⟩
    refine ⟨ChW t th st sc d (j : Nat) H 16, ?_, ?_⟩
    · have hS := hSc
      have G := G1
      clear q
      refine ⟨_, rfl, rfl, _, rfl, ite2 (fun _ => ?_) (fun _ => ?_)⟩
      · obtain ⟨pp0, vp, ep0, npp, gp, tp⟩ := G.dps.isL
        cases ep0
        have lp := tp.length
        rw [List.length_map] at lp
        have bp := G.lp
        refine ⟨_, rfl, (by show 2 ≤ sizeLine; decide), fun t5 ht5 => ⟨(by show 1 ≤ sizeLine; decide), fun l hl => ⟨pp, l, _, _, rfl, rfl, same_new hl _ _ (same_new ht5 _ _ gp), upd_same, lenLe (by simp; omega), fun p hp => ?_⟩⟩⟩
        have s2 := (same_new (o := .lst [V.ref t5]) hl).trans (same_new (o := .lst (vp ++ [V.ref t5])) hp)
        have sm := (same_new (o := .tup [V.str "zz", V.int 1]) ht5).trans s2
        have x5 : Dt [st] (upd (upd (upd Hc t5 (.tup [V.str "zz", V.int 1])) l (.lst [V.ref t5])) p (.lst (vp ++ [V.ref t5]))) (.ref t5) (prD ("zz", .int 1)) := .tup (not_in1 (st_new hS ht5)) (s2 _ _ upd_same) (.cons (.str _) (.cons (.int _) .nil))
        exact ⟨f.trans (same_fr sm), hS.same sm, z, _, _, _, _, _, _, _, _, _, G.setP (ps' := ps ++ [(("zz" : Str), PyData.int 1)]) (same_fr sm) (by omega) (st_new ((hS.new ht5).new hl) hp) upd_same (by rw [List.map_append]; exact (tp.same sm).snoc x5) (by simp; omega) (fun q hq => by
          rcases List.mem_append.mp hq with h | h
          · exact G.iv q h
          · rw [List.mem_singleton] at h
            subst h
            exact .inl ⟨1, rfl⟩), rfl⟩
      · exact ⟨f, hS, z, _, _, _, _, _, _, _, _, _, G.up (by omega), rfl⟩
    clear f
    rintro σ5 Hc ⟨f, hSc, z, av, pp, pw, vec, ps, ws, y9, y10, y11, G1, rfl⟩
    refine ⟨ChW t th st sc d (j : Nat) H 17, ?_, ?_⟩
    · have hS := hSc
      have G := G1
      clear q
      refine ⟨_, rfl, rfl, _, rfl, ite2 (fun _ => ?_) (fun _ => ?_)⟩
      · obtain ⟨pp0, vp, ep0, npp, gp, tp⟩ := G.dps.isL
        cases ep0
        have lp := tp.length
        rw [List.length_map] at lp
        have bp := G.lp
        refine ⟨_, rfl, _, rfl, _, rfl, pp, _, rfl, SqL.of gp, fun p1 hp1 => ?_⟩
        rw [cutN]
        refine ⟨pp, p1, _, _, rfl, rfl, same_new hp1 _ _ gp, upd_same, lenLe (by simp; omega), fun p hp => ?_⟩
        have sm := (same_new (o := .lst (vp.take 1)) hp1).trans (same_new (o := .lst (vp ++ vp.take 1)) hp)
        exact ⟨f.trans (same_fr sm), hS.same sm, z, _, _, _, _, _, _, _, _, _, G.setP (ps' := ps ++ ps.take 1) (same_fr sm) (by omega) (st_new (hS.new hp1) hp) upd_same (by rw [List.map_append, List.map_take]; exact (tp.same sm).app (tp.same sm).take1) (by rw [List.length_append, List.length_take]; omega) (fun q hq => by
          rcases List.mem_append.mp hq with h | h
          · exact G.iv q h
          · exact G.iv q (List.mem_of_mem_take h)), rfl⟩
      · exact ⟨f, hS, z, _, _, _, _, _, _, _, _, _, G.up (by omega), rfl⟩
    clear f
    rintro σ6 Hc ⟨f, hSc, z, av, pp, pw, vec, ps, ws, y9, y10, y11, G1, rfl⟩
    refine ⟨ChW t th st sc d (j : Nat) H 18, ?_, ?_⟩
    · have hS := hSc
      have G := G1
      clear q
      refine ⟨_, rfl, rfl, _, rfl, ite2 (fun _ => ?_) (fun _ => ?_)⟩
      · obtain ⟨pp0, vp, ep0, npp, gp, tp⟩ := G.dps.isL
        cases ep0
        have lp := tp.length
        rw [List.length_map] at lp
        have bp := G.lp
        refine ⟨_, rfl, pp, rfl, ⟨_, SqL.of gp⟩, fun D hD => ?_⟩
        have nD : D ≠ st := st_new hS hD
        have nppD : pp ≠ D := (ne_of_none gp hD)
        refine lc_list (K := K) (a := pp) (xs := vp) (fun i H' => Fr st Hc H' ∧ StAt H' st sc ∧ ∃ ps2 : List (Str × PyData), ps2.length = i ∧ Bl [st] D H' (ps2.map prD) ∧ ∀ q ∈ ps2, IsVal q.2) ⟨Fr.new hD, hS.new hD, [], rfl, Bl.nil, fun q hq => nomatch hq⟩ (fun i H' _ h => SqL.of (h.1 _ _ gp (fun z => npp (z ▸ in1)))) ?_ ?_
        · rintro i v H2 hi ⟨f2, hS2, ps2, l2, B2, iv2⟩
          obtain ⟨d, ed, xd⟩ := (tp.fr f2 in1).get hi
          rw [List.getElem?_map] at ed
          cases ep : ps[i]? with
          | none =>
            rw [ep] at ed
            cases ed
          | some pr =>
            rw [ep] at ed
            have := Option.some.inj ed
            subst this
            have i1 : i < ps.length := (List.getElem?_eq_some_iff.mp ep).1
            obtain ⟨t0, u, rfl, _, et, xu⟩ := xd.isP
            refine ⟨t0, _, rfl, SqT.of et, rfl, _, _, rfl, _, _, rfl, rfl, rfl, ?_⟩
            refine ⟨_, rfl, (by show 3 ≤ sizeLine; decide), fun l hl => ⟨_, rfl, st, sc, 3, rfl, (hS2.new hl), by decide, by decide +kernel, fun e H3 e0 e1 hS3 o3 => ?_⟩⟩
            obtain ⟨vl, dd, gl, xl, il⟩ : ∃ (vl : V) (dd : PyData), atI [V.bl true, V.str "t", V.int 3] e = some vl ∧ (∀ N H, Dt N H vl dd) ∧ IsVal dd := by
              have : e = 0 ∨ e = 1 ∨ e = 2 := by omega
              rcases this with rfl | rfl | rfl
              · exact ⟨_, _, at_of (j := 0) rfl rfl, fun _ _ => .bl true, .inr (.inr ⟨_, rfl⟩)⟩
              · exact ⟨_, _, at_of (j := 1) rfl rfl, fun _ _ => .str "t", .inr (.inl ⟨_, rfl, by decide +kernel, by decide +kernel⟩)⟩
              · exact ⟨_, _, at_of (j := 2) rfl rfl, fun _ _ => .int 3, .inl ⟨_, rfl⟩⟩
            have s2 := same_new (o := .lst [V.bl true, V.str "t", V.int 3]) hl
            have B3 := (B2.same s2).fr nD in1 o3.fr
            have f3 := f2.trans ((same_fr s2).trans o3.fr)
            refine ⟨l, _, e, vl, rfl, rfl, SqL.of ((o3 l (st_new hS2 hl)).trans upd_same), gl, (by show 2 ≤ sizeLine; decide), fun t' ht' => ?_⟩
            have s5 := same_new (o := .tup [.str pr.1, vl]) ht'
            have B5 := B3.same s5
            obtain ⟨vs4, d4, _⟩ := id B3
            have x5 : Dt [D, st] (upd H3 t' (.tup [.str pr.1, vl])) (.ref t') (prD (pr.1, dd)) := .tup (not_in2 (ne_of_none d4 ht').symm (st_new hS3 ht')) upd_same (.cons (.str _) (.cons (xl _ _) .nil))
            have f5 := f3.trans (same_fr (st := st) s5)
            have hS5 := hS3.same s5
            generalize upd H3 t' (.tup [.str pr.1, vl]) = H5 at B5 x5 f5 hS5 ⊢
            obtain ⟨vs5, d5, u5⟩ := B5
            have l5 := u5.length
            rw [List.length_map] at l5
            refine ⟨_, d5, len_le (by omega), f5.set hD, hS5.set hS hD, ps2 ++ [(pr.1, dd)], by simp [l2], ?_, fun q hq => ?_⟩
            · rw [List.map_append]
              exact Bl.push d5 u5 x5
            · rcases List.mem_append.mp hq with h | h
              · exact iv2 q h
              · rw [List.mem_singleton] at h
                subst h
                exact il
        · rintro H2 ⟨f2, hS2, ps2, l2, B2, iv2⟩
          obtain ⟨vs2, d2, u2⟩ := B2
          exact ⟨f.trans f2, hS2, z, _, _, _, _, _, _, _, _, _, G.setP f2 (by omega) nD d2 u2.weak (by omega) iv2, rfl⟩
      · exact ⟨f, hS, z, _, _, _, _, _, _, _, _, _, G.up (by omega), rfl⟩
    clear f
    rintro σ7 Hc ⟨f, hSc, z, av, pp, pw, vec, ps, ws, y9, y10, y11, G1, rfl⟩
    refine ⟨ChW t th st sc d (j : Nat) H 19, ?_, ?_⟩
    · have hS := hSc
      have G := G1
      clear q
      refine ⟨_, rfl, rfl, _, rfl, ite2 (fun _ => ?_) (fun _ => ?_)⟩
      · obtain ⟨pw0, vw, ew0, npw, gw, tw⟩ := G.dws.isL
        cases ew0
        have lw := tw.length
        rw [List.length_map] at lw
        have bw := G.lw
        refine ⟨_, rfl, _, rfl, _, rfl, pw, _, rfl, SqL.of gw, fun p1 hp1 => ?_⟩
        rw [cutN]
        refine ⟨pw, p1, _, _, rfl, rfl, same_new hp1 _ _ gw, upd_same, lenLe (by simp; omega), fun p hp => ?_⟩
        have sm := (same_new (o := .lst (vw.take 1)) hp1).trans (same_new (o := .lst (vw ++ vw.take 1)) hp)
        exact ⟨f.trans (same_fr sm), hS.same sm, z, _, _, _, _, _, _, _, _, _, G.setW (ws' := ws ++ ws.take 1) (same_fr sm) (by omega) (st_new (hS.new hp1) hp) upd_same (by rw [List.map_append, List.map_take]; exact (tw.same sm).app (tw.same sm).take1) (by rw [List.length_append, List.length_take]; omega) (fun q hq => by
          rcases List.mem_append.mp hq with h | h
          · exact G.ok q h
          · exact G.ok q (List.mem_of_mem_take h)), rfl⟩
      · exact ⟨f, hS, z, _, _, _, _, _, _, _, _, _, G.up (by omega), rfl⟩
    clear f
    rintro σ8 Hc ⟨f, hSc, z, av, pp, pw, vec, ps, ws, y9, y10, y11, G1, rfl⟩
    refine ⟨ChW t th st sc d (j : Nat) H 20, ?_, ?_⟩
    · have hS := hSc
      have G := G1
      clear q
      refine ⟨_, rfl, rfl, _, rfl, ite2 (fun _ => ?_) (fun _ => ?_)⟩
      · obtain ⟨pw0, vw, ew0, npw, gw, tw⟩ := G.dws.isL
        cases ew0
        have lw := tw.length
        rw [List.length_map] at lw
        have bw := G.lw
        refine ⟨(by show 2 ≤ sizeLine; decide), fun t5 ht5 => ⟨(by show 1 ≤ sizeLine; decide), fun l hl => ⟨_, rfl, l, pw, _, _, rfl, rfl, upd_same, same_new hl _ _ (same_new ht5 _ _ gw), lenLe (by simp; omega), fun p hp => ?_⟩⟩⟩
        have s2 := (same_new (o := .lst [V.ref t5]) hl).trans (same_new (o := .lst ([V.ref t5] ++ vw)) hp)
        have sm := (same_new (o := .tup [V.str "", V.int 1]) ht5).trans s2
        have x5 : Dt [st] (upd (upd (upd Hc t5 (.tup [V.str "", V.int 1])) l (.lst [V.ref t5])) p (.lst ([V.ref t5] ++ vw))) (.ref t5) (wdD ("", 1)) := .tup (not_in1 (st_new hS ht5)) (s2 _ _ upd_same) (.cons (.str _) (.cons (.int _) .nil))
        exact ⟨f.trans (same_fr sm), hS.same sm, z, _, _, _, _, _, _, _, _, _, G.setW (ws' := ("", 1) :: ws) (same_fr sm) (by omega) (st_new ((hS.new ht5).new hl) hp) upd_same (.cons x5 (tw.same sm)) (by rw [List.length_cons]; omega) (fun q hq => by
          rcases List.mem_cons.mp hq with h | h
          · rw [h]
            decide +kernel
          · exact G.ok q h), rfl⟩
      · exact ⟨f, hS, z, _, _, _, _, _, _, _, _, _, G.up (by omega), rfl⟩
    clear f
    rintro σ9 Hc ⟨f, hSc, z, av, pp, pw, vec, ps, ws, y9, y10, y11, G1, rfl⟩
    refine ⟨ChW t th st sc d (j : Nat) H 21, ?_, ?_⟩
    · have hS := hSc
      have G := G1
      clear q
      refine ⟨_, rfl, rfl, _, rfl, ite2 (fun _ => ?_) (fun _ => ?_)⟩
      · obtain ⟨pw0, vw, ew0, npw, gw, tw⟩ := G.dws.isL
        cases ew0
        have lw := tw.length
        rw [List.length_map] at lw
        have bw := G.lw
        refine ⟨_, rfl, _, rfl, st, sc, 2, rfl, hS, by decide, by decide +kernel, fun e H3 e0 e1 hS3 o3 => ⟨(by show 2 ≤ sizeLine; decide), fun t5 ht5 => ⟨(by show 1 ≤ sizeLine; decide), fun l hl => ⟨pw, l, _, _, rfl, rfl, same_new hl _ _ (same_new ht5 _ _ (o3.fr _ _ gw (fun z => npw (z ▸ in1)))), upd_same, lenLe (by simp; omega), fun p hp => ?_⟩⟩⟩⟩
        have s2 := (same_new (o := .lst [V.ref t5]) hl).trans (same_new (o := .lst (vw ++ [V.ref t5])) hp)
        have s3 := (same_new (o := .tup [V.str "zebra", V.int e]) ht5).trans s2
        have sm := o3.fr.trans (same_fr (st := st) s3)
        have x5 : Dt [st] (upd (upd (upd H3 t5 (.tup [V.str "zebra", V.int e])) l (.lst [V.ref t5])) p (.lst (vw ++ [V.ref t5]))) (.ref t5) (wdD ("zebra", e)) := .tup (not_in1 (st_new hS3 ht5)) (s2 _ _ upd_same) (.cons (.str _) (.cons (.int _) .nil))
        exact ⟨f.trans sm, hS3.same s3, z, _, _, _, _, _, _, _, _, _, G.setW (ws' := ws ++ [(("zebra" : Str), e)]) sm (by omega) (st_new ((hS3.new ht5).new hl) hp) upd_same (by rw [List.map_append]; exact (tw.fr sm in1).snoc x5) (by simp; omega) (fun q hq => by
          rcases List.mem_append.mp hq with h | h
          · exact G.ok q h
          · rw [List.mem_singleton] at h
            subst h
            show PyData.strOk "zebra" = true
            decide +kernel), rfl⟩
      · exact ⟨f, hS, z, _, _, _, _, _, _, _, _, _, G.up (by omega), rfl⟩
    clear f
    rintro σ10 Hc ⟨f, hSc, z, av, pp, pw, vec, ps, ws, y9, y10, y11, G1, rfl⟩
    refine ⟨ChW t th st sc d (j : Nat) H 22, ?_, ?_⟩
    · have hS := hSc
      have G := G1
      clear q
      refine ⟨_, rfl, rfl, _, rfl, ite2 (fun _ => ?_) (fun _ => ?_)⟩
      · obtain ⟨pp0, vp, ep0, npp, gp, tp⟩ := G.dps.isL
        cases ep0
        have lp := tp.length
        rw [List.length_map] at lp
        have bp := G.lp
        refine ⟨_, rfl, pp, _, rfl, .inl (SqL.of gp), (vp.length : Int), rfl, by omega, by omega, fun D hD => ?_⟩
        have nD : D ≠ st := st_new hS hD
        refine lc_range (lo := 0) (n := ((vp.length : Int)).toNat) (fun i H' => Same Hc H' ∧ H' D = some (.lst (vp.reverse.take i))) ⟨same_new hD, upd_same⟩ ?_ ?_
        · rintro i H2 hi ⟨sm, hD1⟩
          have i1 : i < vp.length := by omega
          have gr : vp.reverse[i]? = some vp[vp.length - 1 - i] := by
            rw [List.getElem?_reverse i1, List.getElem?_eq_getElem]
          refine ⟨rfl, _, rfl, _, rfl, pp, _, rfl, .inl (SqL.of (sm _ _ gp)), _, _, rfl, rfl, _, rfl, _, _, rfl, rfl, pp, _, _, _, rfl, rfl, SqL.of (sm _ _ gp), at_of (j := vp.length - 1 - i) (by omega) (List.getElem?_eq_getElem (by omega)), _, hD1, ?_, same_set sm hD, ?_⟩
          · rw [List.length_take, List.length_reverse]
            exact len_le (by omega)
          · rw [upd_same, List.take_add_one, gr]
            rfl
        rintro H2 ⟨sm, hD1⟩
        rw [show ((vp.length : Int)).toNat = vp.reverse.length by rw [List.length_reverse]; omega, List.take_length] at hD1
        exact ⟨f.trans (same_fr sm), hS.same sm, z, _, _, _, _, _, _, _, _, _, G.setP (ps' := ps.reverse) (same_fr sm) (by omega) nD hD1 (by rw [List.map_reverse]; exact (tp.same sm).rev) (by rw [List.length_reverse]; omega) (fun q hq => G.iv q (List.mem_reverse.mp hq)), rfl⟩
      · exact ⟨f, hS, z, _, _, _, _, _, _, _, _, _, G.up (by omega), rfl⟩
    clear f
    rintro σ11 Hc ⟨f, hSc, z, av, pp, pw, vec, ps, ws, y9, y10, y11, G1, rfl⟩

    refine ⟨_, rfl, _, rfl, _, rfl, _, rfl, (by show 4 ≤ sizeLine; decide), fun t2 ht2 => ?_⟩
    have s1 := same_new (o := .tup [V.str z, .ref av, .ref pp, .ref pw]) ht2
    exact q t2 av pp pw z vec ps ws _ (st_new hSc ht2) upd_same (G1.fr (same_fr s1)) (hSc.same s1) (f.trans (same_fr s1))
def sp_law_tells (T : Txt w K mg) : Sp := fun vs H Q _ => ∃ (r t av pp pw : Addr) (z : Str) (vec : List Int) (ps : List (Str × PyData)) (ws : List (Str × Int)), vs = [.ref r, .ref t] ∧ (RecAt [] T.c_Record H r z vec ps ws) ∧ (H t = some (.tup [.str z, .ref av, .ref pp, .ref pw])) ∧ (H av = some (.lst (vec.map V.int))) ∧ (Dt [] H (.ref pp) (.list (ps.map prD))) ∧ (Dt [] H (.ref pw) (.list (ws.map wdD))) ∧ (vec.length ≤ 1000) ∧ (ps.length ≤ 1000) ∧ (ws.length ≤ 1000) ∧ (∀ p ∈ ps, IsVal p.2) ∧ (∀ w ∈ ws, PyData.strOk w.1 = true) ∧ ∀ H', Same H H' → Q (.bl true) H'
set_option maxHeartbeats 8000000 in
theorem ok_law_tells (T : Txt w K mg) : FnOk P w K mg base CX0 2 T.f_law_tells T.d_law_tells ["record", "thing"] (sp_law_tells T) := by
  have G_Record_count_of : FnOk P w K mg base CX0 1 T.f_Record_count_of T.d_Record_count_of ["self", "word"] (sp_Record_count_of T) := ok_Record_count_of T
  have G_Record_value : FnOk P w K mg base CX0 1 T.f_Record_value T.d_Record_value ["self", "name"] (sp_Record_value T) := ok_Record_value T
  refine T.F_law_tells.ok sc_law_tells (fun vs H Q E h => ?_) (fun cdv A outer s H vs Q E hr h => ?_)
  · obtain ⟨r, t, av, pp, pw, z, vec, ps, ws, rfl, _⟩ := h
    rfl
  · obtain ⟨r, t, av, pp, pw, z, vec, ps, ws, rfl, hR, ht, hv, xp, xw, lv, lp, lw, iv, okw, q⟩ := h
    refine ⟨_, (pss_cons (ps_asg (pv 1) (pg_tup rfl (pgs_cons (pg_name (i := 2) sc_law_tells.nd rfl (.inl rfl)) (pgs_cons (pg_name (i := 3) sc_law_tells.nd rfl (.inl rfl)) (pgs_cons (pg_name (i := 4) sc_law_tells.nd rfl (.inl rfl)) (pgs_cons (pg_name (i := 5) sc_law_tells.nd rfl (.inl rfl)) pgs_nil)))))) 
      (pss_cons (ps_if (PW.pt (pw_or (pt_cmpR op_ne (pe_fld (pv 0) rfl) (pv 2) (nomark _)) (pw_or (pt_cmpR (op_neD hr.units) (pe_fld (pv 0) rfl) (pe_callTy call_tuple_of (by rfl) T.m_tuple (by decide +kernel) (pa_cons (pv 3) pa_nil)) (nomark _)) (pw_or1 (pt_cmpR (op_neD hr.units) (pe_fld (pv 0) rfl) (pe_callTy call_tuple_of (by rfl) T.m_tuple (by decide +kernel) (pa_cons (pv 5) pa_nil)) (nomark _)))))) (pss_one (ps_ret pe_bl)) pss_nil) 
      (pss_cons (ps_for PassesOwn.never rfl (pi_list (pe_lst (pa_cons pe_str (pa_cons pe_str (pa_cons pe_str (pa_cons pe_str (pa_cons pe_str pa_nil))))))) (pg_name (i := 6) sc_law_tells.nd rfl (.inl rfl)) (pss_cons (ps_set (i := 7) sc_law_tells.nd rfl (.inl rfl) pe_non) 
      (pss_cons (ps_for PassesOwn.never rfl (pi_list (pv 4)) (pg_tup rfl (pgs_cons (pg_name (i := 8) sc_law_tells.nd rfl (.inl rfl)) (pgs_cons (pg_name (i := 9) sc_law_tells.nd rfl (.inl rfl)) pgs_nil))) (pss_one (ps_if (PW.pt (pw_and (pt_cmpR op_eq (pv 8) (pv 6) (nomark _)) (pw_and1 (pt_cmpR op_isN (pv 7) pe_non (nomark _))))) (pss_one (ps_set (i := 7) sc_law_tells.nd rfl (.inl rfl) (pv 9))) pss_nil))) 
      (pss_cons (ps_set (i := 10) sc_law_tells.nd rfl (.inl rfl) (pe_meth (pv 0) T.cl_Record T.me_Record_value G_Record_value (hr.mono (by decide)) T.b_Record_value .nil pass0 (pa_cons (pv 6) pa_nil))) 
      (pss_one (ps_if (PW.pt (pw_or (pt_cmpR op_ne (pv 10) (pv 7) (nomark _)) (pw_or1 (pt_cmpR op_ne (pe_callB call_isi (by rfl) T.m_isinstance (by decide +kernel) (pa_cons (pv 10) (pa_cons (pe_bltn (v := .ty "bool") (u := .type "bool") (by rfl) T.m_bool (by decide +kernel) rfl) pa_nil))) (pe_callB call_isi (by rfl) T.m_isinstance (by decide +kernel) (pa_cons (pv 7) (pa_cons (pe_bltn (v := .ty "bool") (u := .type "bool") (by rfl) T.m_bool (by decide +kernel) rfl) pa_nil))) (nomark _))))) (pss_one (ps_ret pe_bl)) pss_nil)))))) 
      (pss_cons (ps_for PassesOwn.never rfl (pi_list (pe_lst (pa_cons pe_str (pa_cons pe_str (pa_cons pe_str (pa_cons pe_str pa_nil)))))) (pg_name (i := 11) sc_law_tells.nd rfl (.inr rfl)) (pss_cons (ps_setLc (i := 12) (own := [("other", 8), ("count", 13)]) (g := gTup K 2 (gCons (gName 8) (gCons (gName 13) gNil))) rfl sc_law_tells.nd rfl rfl (sw_true rfl rfl rfl (by decide +kernel)) (pi_list (pv 5)) (blkOk_by (own := [("other", 8), ("count", 13)]) (N := ["record", "thing", "name", "vector", "pairs", "words", "field", "due", "other", "worth", "actual", "word", "counts", "count"]) (sc := defScope s_law_tells) (by decide +kernel)) (fun _ _ _ _ _ => (by exact (pg_tup rfl (pgs_cons (pg_name (i := 8) sc_law_tells.nd rfl (Or.inl rfl)) (pgs_cons (pg_name (i := 13) sc_law_tells.nd rfl (Or.inl rfl)) pgs_nil))))) (fun _ _ _ _ _ => (by exact pts_one (pt_cmpR op_eq (pv 8) (pv 11) (nomark _)))) (fun _ _ _ _ _ => (pv 13))) 
      (pss_one (ps_if (pt_cmpR op_ne (pe_meth (pv 0) T.cl_Record T.me_Record_count_of G_Record_count_of (hr.mono (by decide)) T.b_Record_count_of .nil pass0 (pa_cons (pv 11) pa_nil)) (pe_ix ix_list (pe_op op_cat (pv 12) (pe_lst (pa_cons pe_int pa_nil))) pe_int (fun _ _ => rfl)) (nomark _)) (pss_one (ps_ret pe_bl)) pss_nil)))) 
      (pss_one (ps_ret pe_bl)))))), ?_⟩
    obtain ⟨pp', vp, ep0, _, gp, tp⟩ := xp.isL
    cases ep0
    obtain ⟨pw', vw, ew0, _, gw, tw⟩ := xw.isL
    cases ew0
    have lp2 := tp.length
    have lw2 := tw.length
    rw [List.length_map] at lp2 lw2

    obtain ⟨_, dr, tv, tp_, tw_, hr_, _, hv_, xp_, xw_⟩ := id hR
    refine ⟨_, rfl, t, _, rfl, SqT.of ht, rfl, _, _, rfl, _, _, rfl, _, _, rfl, _, _, rfl, rfl, ?_⟩
    refine ⟨_, rfl, r, T.c_Record, dr, _, _, rfl, hr_, T.cl_Record, T.n_Record_name, lk_Record_name, _, rfl, rfl, _, rfl, iteNS rfl ?_⟩
    refine ⟨_, rfl, r, T.c_Record, dr, _, _, rfl, hr_, T.cl_Record, T.n_Record_vector, lk_Record_vector, _, rfl, av, _, rfl, .inl ⟨SqL.of hv, fun t2 ht2 => ?_⟩⟩
    have s1 := same_new (o := .tup (vec.map V.int)) ht2
    refine ⟨_, _, .tup (SqT.of (s1 _ _ hv_)) (Dts.dp (N := []) (Dts.ints vec)), .tup (SqT.of upd_same) (Dts.dp (N := []) (Dts.ints vec)), shapedI _, shapedI _, _, rfl, ?_⟩
    rw [eqvI]
    refine iteF ?_
    generalize upd H t2 (.tup (vec.map V.int)) = H1 at s1 ⊢
    refine ⟨_, rfl, r, T.c_Record, dr, _, _, rfl, (s1 _ _ hr_), T.cl_Record, T.n_Record_words, lk_Record_words, _, rfl, pw, _, rfl, .inl ⟨SqL.of (s1 _ _ gw), fun t3 ht3 => ?_⟩⟩
    have s2 := s1.trans (same_new (o := .tup vw) ht3)
    refine ⟨_, _, Dt.dp (xw_.same s2), .tup (SqT.of upd_same) (Dts.dp (tw.same s2)), shapedW okw, shapedW okw, _, rfl, ?_⟩
    rw [eqvW]
    refine iteF ?_
    generalize upd H1 t3 (.tup vw) = H2 at s2 ⊢
    have R2 := hR.same s2
    -- for field in [..]
    refine ⟨(by show 5 ≤ sizeLine; decide), fun l hl => ⟨l, rfl, ⟨_, SqL.of upd_same⟩, ?_⟩⟩
    have s3 := s2.trans (same_new (o := .lst ((["a", "b", "note", "_x", "zz"] : List Str).map V.str)) hl)
    have gl : (upd H2 l (.lst ((["a", "b", "note", "_x", "zz"] : List Str).map V.str))) l = some (.lst ((["a", "b", "note", "_x", "zz"] : List Str).map V.str)) := upd_same
    refine for_list (K := K) (a := l) (xs := (["a", "b", "note", "_x", "zz"] : List Str).map V.str) (fun i σ H' => Same H H' ∧ H' l = some (.lst ((["a", "b", "note", "_x", "zz"] : List Str).map V.str)) ∧ ∃ (y6 y7 y8 y9 y10 y11 y12 y13 : Option V), σ = [some (.ref r), some (.ref t), some (.str z), some (.ref av), some (.ref pp), some (.ref pw), y6, y7, y8, y9, y10, y11, y12, y13]) ⟨s3, gl, _, _, _, _, _, _, _, _, rfl⟩ (fun i σ H' _ h => SqL.of h.2.1) ?_ ?_
    · rintro i v σ H3 hi ⟨s3, gl, y6, y7, y8, y9, y10, y11, y12, y13, rfl⟩
      obtain ⟨fl, rfl, _⟩ := get_mapS hi
      refine ⟨_, rfl, pp, rfl, ⟨_, SqL.of (s3 _ _ gp)⟩, ?_⟩
      refine for_list (K := K) (a := pp) (xs := vp) (fun i2 σ H' => H' = H3 ∧ ∃ (y8 y9 y10 y11 y12 y13 : Option V), σ = [some (.ref r), some (.ref t), some (.str z), some (.ref av), some (.ref pp), some (.ref pw), some (.str fl), some (firstW (ps.take i2) fl), y8, y9, y10, y11, y12, y13]) ⟨rfl, _, _, _, _, _, _, rfl⟩ (fun i σ H' _ h => by rw [h.1]; exact SqL.of (s3 _ _ gp)) ?_ ?_
      · rintro i2 v σ H' hi2 ⟨rfl, y8, y9, y10, y11, y12, y13, rfl⟩
        obtain ⟨d, ed, xd⟩ := tp.get hi2
        rw [List.getElem?_map] at ed
        cases ep : ps[i2]? with
        | none =>
          rw [ep] at ed
          cases ed
        | some p =>
          rw [ep] at ed
          have := Option.some.inj ed
          subst this
          obtain ⟨t0, u, rfl, _, et, xu⟩ := xd.isP
          have uv : u = valV p.2 := valV_of xu (iv p (List.mem_of_getElem? ep))
          obtain ⟨k1, k2⟩ := firstW_take (z := fl) ep iv
          refine ⟨t0, _, rfl, SqT.of (s3 _ _ et), rfl, _, _, rfl, _, _, rfl, rfl, ?_⟩
          refine ⟨_, rfl, _, rfl, rfl, _, rfl, ite2 (fun e => ?_) (fun e => ?_)⟩
          · have c : p.1 = fl := V.str.inj (of_decide_eq_true e)
            refine ⟨_, rfl, rfl, _, rfl, ite2 (fun e2 => ?_) (fun e2 => ?_)⟩
            · refine ⟨_, rfl, rfl, ?_⟩
              rw [k1 c (of_decide_eq_true e2), ← uv]
              exact ⟨_, _, _, _, _, _, rfl⟩
            · refine ⟨rfl, ?_⟩
              rw [k2 fun g => e2 (decide_eq_true g.2)]
              exact ⟨_, _, _, _, _, _, rfl⟩
          · refine ⟨rfl, ?_⟩
            rw [k2 fun g => e (decide_eq_true (congrArg V.str g.1))]
            exact ⟨_, _, _, _, _, _, rfl⟩
      rintro σ H' ⟨rfl, y8, y9, y10, y11, y12, y13, rfl⟩
      rw [lp2, List.take_length]
      refine ⟨_, rfl, r, dr, _, rfl, s3 _ _ hr_, no_Record, _, rfl, r, z, vec, ps, ws, fl, rfl, hR.same s3, iv, ?_⟩
      have back : Same H H' ∧ H' l = some (.lst ((["a", "b", "note", "_x", "zz"] : List Str).map V.str)) := ⟨s3, gl⟩
      rcases firstW_cases (z := fl) iv with e | ⟨j, e⟩ | ⟨j, e⟩ | ⟨j, e⟩
      · rw [e]
        refine ⟨_, rfl, _, rfl, rfl, _, rfl, iteNS rfl ?_⟩
        exact ⟨_, rfl, _, _, _, _, false, rfl, .ty _, .base .non, kit_ty (by decide +kernel), _, rfl, _, _, _, _, false, rfl, .ty _, .base .non, kit_ty (by decide +kernel), rfl, _, rfl, iteNS rfl ⟨back.1, back.2, _, _, _, _, _, _, _, _, rfl⟩⟩
      · rw [e]
        refine ⟨_, rfl, _, rfl, rfl, _, rfl, iteNS rfl ?_⟩
        exact ⟨_, rfl, _, _, _, _, false, rfl, .ty _, .base (.int _), kit_ty (by decide +kernel), _, rfl, _, _, _, _, false, rfl, .ty _, .base (.int _), kit_ty (by decide +kernel), rfl, _, rfl, iteNS rfl ⟨back.1, back.2, _, _, _, _, _, _, _, _, rfl⟩⟩
      · rw [e]
        refine ⟨_, rfl, _, rfl, rfl, _, rfl, iteNS rfl ?_⟩
        exact ⟨_, rfl, _, _, _, _, false, rfl, .ty _, .base (.str _), kit_ty (by decide +kernel), _, rfl, _, _, _, _, false, rfl, .ty _, .base (.str _), kit_ty (by decide +kernel), rfl, _, rfl, iteNS rfl ⟨back.1, back.2, _, _, _, _, _, _, _, _, rfl⟩⟩
      · rw [e]
        refine ⟨_, rfl, _, rfl, rfl, _, rfl, iteNS rfl ?_⟩
        exact ⟨_, rfl, _, _, _, _, true, rfl, .ty _, .base (.bl _), kit_ty (by decide +kernel), _, rfl, _, _, _, _, true, rfl, .ty _, .base (.bl _), kit_ty (by decide +kernel), rfl, _, rfl, iteNS rfl ⟨back.1, back.2, _, _, _, _, _, _, _, _, rfl⟩⟩
    rintro σ H3 ⟨s3, _, y6, y7, y8, y9, y10, y11, y12, y13, rfl⟩
    -- for word in [..]
    refine ⟨(by show 4 ≤ sizeLine; decide), fun l2 hl2 => ⟨l2, rfl, ⟨_, SqL.of upd_same⟩, ?_⟩⟩
    replace s3 := s3.trans (same_new (o := .lst ((["ant", "cow", "zebra", "x"] : List Str).map V.str)) hl2)
    have gl2 : (upd H3 l2 (.lst ((["ant", "cow", "zebra", "x"] : List Str).map V.str))) l2 = some (.lst ((["ant", "cow", "zebra", "x"] : List Str).map V.str)) := upd_same
    refine for_list (K := K) (a := l2) (xs := (["ant", "cow", "zebra", "x"] : List Str).map V.str) (fun i σ H' => Same H H' ∧ H' l2 = some (.lst ((["ant", "cow", "zebra", "x"] : List Str).map V.str)) ∧ ∃ (y6 y7 y8 y9 y10 y11 y12 y13 : Option V), σ = [some (.ref r), some (.ref t), some (.str z), some (.ref av), some (.ref pp), some (.ref pw), y6, y7, y8, y9, y10, y11, y12, y13]) ⟨s3, gl2, _, _, _, _, _, _, _, _, rfl⟩ (fun i σ H' _ h => SqL.of h.2.1) ?_ ?_
    rotate_left
    · rintro σ H' ⟨s5, _, y6, y7, y8, y9, y10, y11, y12, y13, rfl⟩
      exact q H' s5
    clear s3 gl2 hl2
    rintro i v σ H3 hi ⟨s3, gl2, y6, y7, y8, y9, y10, y11, y12, y13, rfl⟩
    obtain ⟨wd, rfl, _⟩ := get_mapS hi
    refine ⟨_, rfl, pw, rfl, ⟨_, SqL.of (s3 _ _ gw)⟩, fun D hD => ?_⟩
    refine lc_list (K := K) (a := pw) (xs := vw) (fun i2 H' => Same H3 H' ∧ H' D = some (.lst ((((ws.take i2).filter fun p => decide (p.1 = wd)).map (·.2)).map V.int))) ⟨same_new hD, upd_same⟩ (fun i2 H' _ h => SqL.of ((s3.trans h.1) _ _ gw)) ?_ ?_
    · rintro i2 v H4 hi2 ⟨sm, hD1⟩
      obtain ⟨d, ed, xd⟩ := tw.get hi2
      rw [List.getElem?_map] at ed
      cases ep : ws[i2]? with
      | none =>
        rw [ep] at ed
        cases ed
      | some p =>
        rw [ep] at ed
        have := Option.some.inj ed
        subst this
        obtain ⟨t0, u, rfl, _, et, xu⟩ := xd.isP
        rw [xu.isI] at et
        have i5 := (List.getElem?_eq_some_iff.mp ep).1
        refine ⟨t0, _, rfl, SqT.of ((s3.trans sm) _ _ et), rfl, _, _, rfl, _, _, rfl, rfl, ?_⟩
        refine ⟨rfl, _, rfl, _, rfl, rfl, _, rfl, ite2 (fun e => ?_) (fun e => ?_)⟩
        · have c : p.1 = wd := V.str.inj (of_decide_eq_true e)
          refine ⟨_, rfl, _, hD1, ?_, same_set sm hD, ?_⟩
          · rw [List.length_map, List.length_map]
            exact len_le (Nat.le_trans (List.length_filter_le _ _) (by rw [List.length_take]; omega))
          · rw [upd_same, List.take_add_one, ep, List.filter_append]
            show some (HO.lst _) = some (HO.lst (List.map V.int (List.map (·.2) (List.filter (fun p => decide (p.1 = wd)) (ws.take i2) ++ List.filter (fun p => decide (p.1 = wd)) [p]))))
            rw [List.filter_cons_of_pos (by simpa using c)]
            simp
        · have c : ¬ p.1 = wd := fun h => e (decide_eq_true (congrArg V.str h))
          refine ⟨sm, ?_⟩
          rw [hD1, List.take_add_one, ep, List.filter_append]
          show _ = some (HO.lst (List.map V.int (List.map (·.2) (List.filter (fun p => decide (p.1 = wd)) (ws.take i2) ++ List.filter (fun p => decide (p.1 = wd)) [p]))))
          rw [List.filter_cons_of_neg (by simpa using c)]
          simp
    rintro H4 ⟨sm, hD1⟩
    rw [lw2, List.take_length] at hD1
    have s4 := s3.trans sm
    refine ⟨_, rfl, r, dr, _, rfl, s4 _ _ hr_, no_Record, _, rfl, r, z, vec, ps, ws, wd, rfl, hR.same s4, ?_⟩
    have lfl : (((ws.filter fun p => decide (p.1 = wd)).map (·.2)).map V.int).length ≤ 1000 := by
      rw [List.length_map, List.length_map]
      exact Nat.le_trans (List.length_filter_le _ _) lw
    refine ⟨_, rfl, (by show 1 ≤ sizeLine; decide), fun l3 hl3 => ⟨D, l3, _, _, rfl, rfl, same_new hl3 _ _ hD1, upd_same, lenLe (by simp; simp at lfl; omega), fun p5 hp5 => ⟨p5, _, 0, _, rfl, rfl, SqL.of upd_same, at_of (j := 0) rfl (headC ws), rfl, _, rfl, iteNS rfl ?_⟩⟩⟩
    have s6 := sm.trans ((same_new (o := .lst [V.int 0]) hl3).trans (same_new (o := .lst ((((ws.filter fun p => decide (p.1 = wd)).map (·.2)).map V.int) ++ [V.int 0])) hp5))
    exact ⟨s3.trans s6, s6 _ _ gl2, _, _, _, _, _, _, _, _, rfl⟩
def sp_law (K : PySem.W.Frag) : Sp := fun vs H Q _ => ∃ (a : Addr) (ns : List Int), vs = [.ref a] ∧ (SqL K H a (ns.map V.int)) ∧ (ns.length ≤ 63) ∧ ∀ H', Q (.bl true) H'
set_option maxHeartbeats 8000000 in
theorem ok_law (T : Txt w K mg) : FnOk P w K mg base CX0 6 T.f_law T.d_law ["script"] (sp_law K) := by
  have G_law_tells : FnOk P w K mg base CX0 2 T.f_law_tells T.d_law_tells ["record", "thing"] (sp_law_tells T) := ok_law_tells T
  have G_law_refused : FnOk P w K mg base CX0 5 T.f_law_refused T.d_law_refused ["schema", "record"] (sp_law_refused T) := ok_law_refused T
  have G_Schema___contains__ : FnOk P w K mg base CX0 3 T.f_Schema___contains__ T.d_Schema___contains__ ["self", "record"] (sp_Schema___contains__ T) := ok_Schema___contains__ T
  have G_law_fits : FnOk P w K mg base CX0 2 T.f_law_fits T.d_law_fits ["drawn", "name", "vector", "pairs", "words"] (sp_law_fits T) := ok_law_fits T
  have G_Record___init__ : FnOk P w K mg base CX0 1 T.f_Record___init__ T.d_Record___init__ ["self", "name", "vector", "fields", "words"] (sp_Record___init__ T) := ok_Record___init__ T
  have G_law_next : FnOk P w K mg base CX0 2 T.f_law_next T.d_law_next ["state", "many"] (sp_law_next T) := ok_law_next T
  have G_law_change : FnOk P w K mg base CX0 3 T.f_law_change T.d_law_change ["state", "drawn", "thing"] (sp_law_change T) := ok_law_change T
  have G_law_words : FnOk P w K mg base CX0 3 T.f_law_words T.d_law_words ["state"] (sp_law_words T) := ok_law_words T
  have G_law_pairs : FnOk P w K mg base CX0 4 T.f_law_pairs T.d_law_pairs ["state", "fields"] (sp_law_pairs T) := ok_law_pairs T
  have G_law_name : FnOk P w K mg base CX0 3 T.f_law_name T.d_law_name ["state"] (sp_law_name T) := ok_law_name T
  have G_law_number : FnOk P w K mg base CX0 3 T.f_law_number T.d_law_number ["state", "width"] (sp_law_number T) := ok_law_number T
  have G_Schema___init__ : FnOk P w K mg base (L2.CX P w) 4 T.f_Schema___init__ T.d_Schema___init__ ["self", "size", "width", "measure", "fields"] (sp_Schema___init__ T) := ok_Schema___init__ T
  have G_law_schema : FnOk P w K mg base CX0 4 T.f_law_schema T.d_law_schema ["state"] (sp_law_schema T) := ok_law_schema T
  refine T.F_law.ok sc_law (fun vs H Q E h => ?_) (fun cdv A outer s H vs Q E hr h => ?_)
  · obtain ⟨a, ns, rfl, _⟩ := h
    rfl
  · obtain ⟨a, ns, rfl, hA, hlen, q⟩ := h
    refine ⟨_, (pss_cons (ps_set (i := 1) sc_law.nd rfl (.inr rfl) (pe_lst (pa_cons (pe_callTy call_list_of (by rfl) T.m_list (by decide +kernel) (pa_cons (pv 0) pa_nil)) (pa_cons pe_int (pa_cons pe_int pa_nil))))) 
      (pss_cons (ps_set (i := 2) sc_law.nd rfl (.inr rfl) (pe_call G_law_schema (hr.mono (by decide)) (by rfl) T.g_law_schema T.F_law_schema.kp T.b_law_schema .nil pass0 (pa_cons (pv 1) pa_nil))) 
      (pss_cons (ps_set (i := 3) sc_law.nd rfl (.inl rfl) (pe_makeK T.mk_Schema G_Schema___init__ (hr.mono (by decide)) (by rfl) T.mc_Schema T.kb_Schema___init__ passL (pa_cons (pe_ix ix_tup (pv 2) pe_int (fun _ _ => rfl)) pa_nil) (pk_cons (pe_ix ix_tup (pv 2) pe_int (fun _ _ => rfl)) (pk_cons (pe_ix ix_tup (pv 2) pe_int (fun _ _ => rfl)) (pk_cons (pe_ix ix_tup (pv 2) pe_int (fun _ _ => rfl)) pk_nil))))) 
      (pss_cons (ps_for PassesOwn.never rfl (pi_range1 rfl T.m_range (pa_cons pe_int pa_nil)) (pg_name (i := 4) sc_law.nd rfl (.inl rfl)) (pss_cons (ps_setLc (i := 5) (own := [("k", 6)]) (g := gName 6) rfl sc_law.nd rfl rfl (sw_true rfl rfl rfl (by decide +kernel)) (pi_range1 rfl T.m_range (pa_cons (pe_ix ix_tup (pv 2) pe_int (fun _ _ => rfl)) pa_nil)) (blkOk_by (own := [("k", 6)]) (N := ["script", "state", "drawn", "schema", "turn", "vector", "k", "thing", "record", "due"]) (sc := defScope s_law) (by decide +kernel)) (fun _ _ _ _ _ => (pg_name (i := 6) sc_law.nd rfl (Or.inl rfl))) (fun _ _ _ _ _ => pts_nil) (fun _ _ _ _ _ => (pe_call G_law_number (hr.mono (by decide)) (by rfl) T.g_law_number T.F_law_number.kp T.b_law_number .nil pass0 (pa_cons (pv 1) (pa_cons (pe_ix (r := rIxT K) (by exact ix_tup) (pv 2) pe_int (fun _ _ => rfl)) pa_nil))))) 
      (pss_cons (ps_set (i := 7) sc_law.nd rfl (.inl rfl) (pe_tup (pa_cons (pe_call G_law_name (hr.mono (by decide)) (by rfl) T.g_law_name T.F_law_name.kp T.b_law_name .nil pass0 (pa_cons (pv 1) pa_nil)) (pa_cons (pv 5) (pa_cons (pe_call G_law_pairs (hr.mono (by decide)) (by rfl) T.g_law_pairs T.F_law_pairs.kp T.b_law_pairs .nil pass0 (pa_cons (pv 1) (pa_cons (pe_ix ix_tup (pv 2) pe_int (fun _ _ => rfl)) pa_nil))) (pa_cons (pe_call G_law_words (hr.mono (by decide)) (by rfl) T.g_law_words T.F_law_words.kp T.b_law_words .nil pass0 (pa_cons (pv 1) pa_nil)) pa_nil)))))) 
      (pss_cut (ps_if (pt_cmpR op_gt (pe_call G_law_next (hr.mono (by decide)) (by rfl) T.g_law_next T.F_law_next.kp T.b_law_next .nil pass0 (pa_cons (pv 1) (pa_cons pe_int pa_nil))) pe_int (nomark _)) (pss_one (ps_set (i := 7) sc_law.nd rfl (.inl rfl) (pe_call G_law_change (hr.mono (by decide)) (by rfl) T.g_law_change T.F_law_change.kp T.b_law_change .nil pass0 (pa_cons (pv 1) (pa_cons (pv 2) (pa_cons (pv 7) pa_nil)))))) pss_nil) 
      (pss_cons (ps_set (i := 8) sc_law.nd rfl (.inl rfl) (pe_makeK T.mk_Record G_Record___init__ (hr.mono (by decide)) (by rfl) T.mc_Record T.kb_Record___init__ pass0 (pa_cons (pe_ix ix_tup (pv 7) pe_int (fun _ _ => rfl)) (pa_cons (pe_callTy call_list_of (by rfl) T.m_list (by decide +kernel) (pa_cons (pe_ix ix_tup (pv 7) pe_int (fun _ _ => rfl)) pa_nil)) pa_nil)) (pk_cons (pe_callTy call_list_of (by rfl) T.m_list (by decide +kernel) (pa_cons (pe_ix ix_tup (pv 7) pe_int (fun _ _ => rfl)) pa_nil)) (pk_cons (pe_callTy call_list_of (by rfl) T.m_list (by decide +kernel) (pa_cons (pe_ix ix_tup (pv 7) pe_int (fun _ _ => rfl)) pa_nil)) pk_nil)))) 
      (pss_cons (ps_set (i := 9) sc_law.nd rfl (.inl rfl) (pe_call G_law_fits (hr.mono (by decide)) (by rfl) T.g_law_fits T.F_law_fits.kp T.b_law_fits .nil pass0 (pa_cons (pv 2) (pa_cons (pe_ix ix_tup (pv 7) pe_int (fun _ _ => rfl)) (pa_cons (pe_ix ix_tup (pv 7) pe_int (fun _ _ => rfl)) (pa_cons (pe_ix ix_tup (pv 7) pe_int (fun _ _ => rfl)) (pa_cons (pe_ix ix_tup (pv 7) pe_int (fun _ _ => rfl)) pa_nil))))))) 
      (pss_cons (ps_if (PW.pt (pw_or (pt_cmpR op_ne (pe_cmpR (op_ownIn T.me_Schema___contains__ G_Schema___contains__ (hr.mono (by decide)) T.b_Schema___contains__ pass0) (pv 8) (pv 3) rfl) (pv 9) (nomark _)) (pw_or1 (pt_cmpR op_ne (pe_call G_law_refused (hr.mono (by decide)) (by rfl) T.g_law_refused T.F_law_refused.kp T.b_law_refused .nil pass0 (pa_cons (pv 3) (pa_cons (pv 8) pa_nil))) (pe_not (pv 9)) (nomark _))))) (pss_one (ps_ret pe_bl)) pss_nil) 
      (pss_one (ps_if (pt_not (pt_truth (pe_call G_law_tells (hr.mono (by decide)) (by rfl) T.g_law_tells T.F_law_tells.kp T.b_law_tells .nil pass0 (pa_cons (pv 8) (pa_cons (pv 7) pa_nil))) (by intro _; rfl))) (pss_one (ps_ret pe_bl)) pss_nil))))))))) 
      (pss_one (ps_ret pe_bl)))))), ?_⟩
    refine ⟨_, rfl, a, _, rfl, .inl hA, fun sc hsc => ⟨(by show 3 ≤ sizeLine; decide), fun st hst => ?_⟩⟩
    have hSi := st_made hsc hst hlen
    generalize upd (upd H sc (.lst (ns.map V.int))) st (.lst [.ref sc, .int 0, .int 0]) = Hi at hSi
    -- drawn
    refine ⟨_, rfl, st, sc, rfl, hSi, fun t pf n w m fs H1 n1 n4 w3 m3 hb ok nt tn ht xf hS1 f1 => ?_⟩
    clear f1 hSi
    -- schema
    obtain ⟨pf', vf, ef, _, gf, tf⟩ := xf.isL
    cases ef
    have lf := tf.length
    rw [List.length_map] at lf
    have lok := ok.len
    have good : vecGood n w m ∧ fieldsGood fs := ⟨⟨n1, w3, m3, fun z => z.2 (hb z.1)⟩, names_nodup ok⟩
    have ln : ∀ f ∈ fs, f.1.length ≤ 1000 := fun f hf => by
      have h1 : f.1 ∈ fs.map (·.1) := List.mem_map_of_mem hf
      rw [ok.names] at h1
      have h : f.1 ∈ NAME4 := List.mem_of_mem_take h1
      generalize f.1 = z at h
      clear hf h1
      revert h z
      decide +kernel
    refine ⟨_, rfl, t, _, _, _, rfl, rfl, SqT.of ht, at_of (j := 0) rfl rfl, _, rfl, t, _, _, _, rfl, rfl, SqT.of ht, at_of (j := 1) rfl rfl, _, rfl, t, _, _, _, rfl, rfl, SqT.of ht, at_of (j := 2) rfl rfl, _, rfl, t, _, _, _, rfl, rfl, SqT.of ht, at_of (j := 3) rfl rfl, rfl, rfl, fun x dx nx ndx nex => ?_⟩
    have smx : Same H1 (upd (upd H1 dx (.own x)) x (.ins T.c_Schema dx [])) := fun b o hb => by
      rw [upd_ne (ne_of_none hb nx), upd_ne (ne_of_none hb ndx)]
      exact hb
    refine ⟨x, dx, pf, n, w, m, vf, fs, rfl, upd_same, SqL.of (smx _ _ gf), tf.nilN.same smx, by omega, ln, .inl w3, fun _ H2 S2 f2 => ⟨rfl, ?_⟩, fun g => absurd good g⟩
    have sm2 : Same H1 H2 := fun b o hb => f2 b o (smx b o hb) (ne_of_none hb nx)
    have hS2 := hS1.same sm2
    obtain ⟨xs2, hs2⟩ := st_lst hS2
    replace S2 := S2.off hs2
    have ht2 := sm2 _ _ ht
    have xf2 := xf.same sm2
    clear smx f2 gf tf xf hs2 sm2 hS1 ht
    -- the turns
    refine ⟨4, rfl, by decide, by decide, for_range (lo := 0) (n := 4) (fun i σ H' => StAt H' st sc ∧ SchAt [st] T.c_Schema H' x n w m fs ∧ H' t = some (.tup [.int n, .str w, .str m, .ref pf]) ∧ Dt [st] H' (.ref pf) (.list (fs.map fdD)) ∧ ∃ (y4 y5 y6 y7 y8 y9 : Option V), σ = [some (.ref a), some (.ref st), some (.ref t), some (.ref x), y4, y5, y6, y7, y8, y9]) ⟨hS2, S2, ht2, xf2, none, none, none, none, none, none, rfl⟩ ?_ ?_⟩
    rotate_left
    · rintro σ H' ⟨_, _, _, _, y4, y5, y6, y7, y8, y9, rfl⟩
      exact q H'
    clear S2 ht2 xf2 hS2 nx ndx nex
    rintro i σ H1 hi ⟨hS1, S1, ht, xf, y4, y5, y6, y7, y8, y9, rfl⟩
    -- vector
    refine ⟨_, rfl, t, _, _, _, rfl, rfl, SqT.of ht, at_of (j := 0) rfl rfl, n, rfl, by omega, by omega, fun D hD => ?_⟩
    have nD : D ≠ st := st_new hS1 hD
    refine lc_range (lo := 0) (n := n.toNat) (fun i H' => Fr st H1 H' ∧ StAt H' st sc ∧ ∃ zs : List Int, zs.length = i ∧ H' D = some (.lst (zs.map V.int))) ⟨Fr.new hD, hS1.new hD, [], rfl, upd_same⟩ ?_ ?_
    · rintro i H2 hi ⟨f2, hS2, zs, hz, h2⟩
      refine ⟨rfl, _, rfl, _, rfl, t, _, _, _, rfl, rfl, SqT.of (f2 _ _ ht nt), at_of (j := 1) rfl rfl, st, sc, w, rfl, hS2, w3, fun v H3 v0 v1 hS3 f3 => ?_⟩
      refine ⟨_, f3 _ _ h2 nD, ?_, (f2.trans f3).set hD, hS3.set hS1 hD, zs ++ [v], by simp [hz], by rw [upd_same, List.map_append]; rfl⟩
      rw [List.length_map, hz]
      exact len_le (by omega)
    rintro H2 ⟨f2, hS2, zs, hz, h2⟩
    have ht2 := f2 _ _ ht nt
    have xf2 := xf.fr f2 in1
    -- thing
    refine ⟨_, rfl, st, sc, rfl, hS2, fun z0 H3 zok z8 hS3 f3 => ?_⟩
    refine ⟨_, rfl, _, rfl, _, rfl, t, _, _, _, rfl, rfl, SqT.of (f3 _ _ ht2 nt), at_of (j := 3) rfl rfl, st, sc, pf, fs, rfl, hS3, xf2.fr f3 in1, ok, fun pp0 ps0 H4 pok npp xp hS4 f4 => ?_⟩
    refine ⟨_, rfl, st, sc, rfl, hS4, fun pw0 ws0 H5 wok npw xw hS5 f5 => ⟨(by show 4 ≤ sizeLine; decide), fun th0 hth0 => ?_⟩⟩
    have s6 := same_new (o := .tup [V.str z0, .ref D, .ref pp0, .ref pw0]) hth0
    have nth0 := st_new hS5 hth0
    have f6 := f5.trans (same_fr (st := st) s6)
    have lp8 := pok.len
    have lw8 := wok.len
    have G0 : Good st (upd H5 th0 (.tup [V.str z0, .ref D, .ref pp0, .ref pw0])) 10 D pp0 pw0 zs ps0 ws0 := ⟨nD, f6 _ _ (f4 _ _ (f3 _ _ h2 nD) nD) nD, xp.fr f6 in1, xw.same s6, by omega, by omega, by omega, pok.vals, fun w hw => (wok.words w hw).1⟩
    have hS6 := hS5.same s6
    have hth : (upd H5 th0 (.tup [V.str z0, .ref D, .ref pp0, .ref pw0])) th0 = some (.tup [V.str z0, .ref D, .ref pp0, .ref pw0]) := upd_same
    have f7 := f2.trans (f3.trans (f4.trans f6))
    clear f2 f3 f4 f5 f6 s6 xp xw h2 ht2 xf2 hth0 hS2 hS3 hS4 hS5
    generalize upd H5 th0 (.tup [V.str z0, .ref D, .ref pp0, .ref pw0]) = H6 at G0 hS6 hth f7 ⊢
    refine ⟨fun σ H' => StAt H' st sc ∧ Fr st H1 H' ∧ ∃ (th av pp pw : Addr) (z : Str) (vec : List Int) (ps : List (Str × PyData)) (ws : List (Str × Int)), H' th = some (.tup [V.str z, .ref av, .ref pp, .ref pw]) ∧ Good st H' 22 av pp pw vec ps ws ∧ ∃ (y6 y8 y9 : Option V), σ = [some (.ref a), some (.ref st), some (.ref t), some (.ref x), some (.int (0 + (i : Int))), some (.ref D), y6, some (.ref th), y8, y9], ?_, ?_⟩
    · refine ⟨_, rfl, st, sc, 3, rfl, hS6, by decide, by decide +kernel, fun e H7 e0 e1 hS7 o7 => ⟨_, _, rfl, rfl, _, rfl, ite2 (fun _ => ?_) (fun _ => ?_)⟩⟩
      · refine ⟨_, rfl, _, rfl, _, rfl, st, sc, t, th0, D, pp0, pw0, n, w, m, pf, z0, zs, ps0, ws0, rfl, hS7, o7.fr _ _ (f7 _ _ ht nt) nt, nt, w3, o7.fr _ _ hth nth0, G0.fr o7.fr, fun th av pp pw z vec ps ws H8 nth hth G hS8 f8 => ?_⟩
        exact ⟨hS8, f7.trans (o7.fr.trans f8), th, av, pp, pw, z, vec, ps, ws, hth, G, _, _, _, rfl⟩
      · exact ⟨hS7, f7.trans o7.fr, th0, D, pp0, pw0, z0, zs, ps0, ws0, o7.fr _ _ hth nth0, (G0.fr o7.fr).up (by decide), _, _, _, rfl⟩
    clear f7 G0 hS6 hth
    rintro σ H7 ⟨hS7, f7, th, av, pp, pw, z, vec, ps, ws, hth, G, y6, y8, y9, rfl⟩
    have ht7 := f7 _ _ ht nt
    have xf7 := xf.fr f7 in1
    have S7 := S1.fr f7 in1
    obtain ⟨pp', vp, ep, _, gp, tp⟩ := G.dps.isL
    cases ep
    obtain ⟨pw', vw, ew, _, gw, tw⟩ := G.dws.isL
    cases ew
    have lp := tp.length
    have lw := tw.length
    rw [List.length_map] at lp lw
    have g7 := G.hav
    have lp2 := G.lp
    have lw2 := G.lw
    have lv2 := G.lv
    have xp7 := G.dps.nilN
    have xw7 := G.dws.nilN
    -- record
    refine ⟨_, rfl, th, _, _, _, rfl, rfl, SqT.of hth, at_of (j := 0) rfl rfl, _, rfl, th, _, _, _, rfl, rfl, SqT.of hth, at_of (j := 1) rfl rfl, av, _, rfl, .inl (SqL.of g7), fun v2 hv2 => ?_⟩
    have s8 := same_new (o := .lst (vec.map V.int)) hv2
    have hv8 : (upd H7 v2 (.lst (vec.map V.int))) v2 = some (.lst (vec.map V.int)) := upd_same
    generalize upd H7 v2 (.lst (vec.map V.int)) = H8 at s8 hv8 ⊢
    refine ⟨_, rfl, th, _, _, _, rfl, rfl, SqT.of (s8 _ _ hth), at_of (j := 2) rfl rfl, pp, _, rfl, .inl (SqL.of (s8 _ _ gp)), fun p2 hp2 => ?_⟩
    have s9 := s8.trans (same_new (o := .lst vp) hp2)
    have hp9 : (upd H8 p2 (.lst vp)) p2 = some (.lst vp) := upd_same
    have hv9 := same_new (o := .lst vp) hp2 _ _ hv8
    generalize upd H8 p2 (.lst vp) = H9 at s9 hp9 hv9 ⊢
    refine ⟨_, rfl, th, _, _, _, rfl, rfl, SqT.of (s9 _ _ hth), at_of (j := 3) rfl rfl, pw, _, rfl, .inl (SqL.of (s9 _ _ gw)), fun w2 hw2 => ?_⟩
    have sa := s9.trans (same_new (o := .lst vw) hw2)
    have hwa : (upd H9 w2 (.lst vw)) w2 = some (.lst vw) := upd_same
    have hpa := same_new (o := .lst vw) hw2 _ _ hp9
    have hva := same_new (o := .lst vw) hw2 _ _ hv9
    generalize upd H9 w2 (.lst vw) = Ha at sa hpa hva hwa ⊢
    refine ⟨rfl, rfl, fun r dr nr ndr ner => ?_⟩
    have smx : Same Ha (upd (upd Ha dr (.own r)) r (.ins T.c_Record dr [])) := fun b o hb => by
      rw [upd_ne (ne_of_none hb nr), upd_ne (ne_of_none hb ndr)]
      exact hb
    refine ⟨r, dr, v2, p2, w2, z, vec, _, _, ps, ws, rfl, upd_same, SqL.of (smx _ _ hva), SqL.of (smx _ _ hpa), (tp.nilN.same sa).same smx, SqL.of (smx _ _ hwa), (tw.nilN.same sa).same smx, by omega, by omega, fun Hb Rb fb => ⟨rfl, ?_⟩⟩
    have smb : Same Ha Hb := fun b o hb => fb b o (smx b o hb) (ne_of_none hb nr)
    replace sa := sa.trans smb
    clear smx fb smb hva hpa hwa s8 s9 hv8 hp9 hv9
    have l1 : vec.length ≤ 1000 := by omega
    have l2 : ps.length ≤ 1000 := by omega
    have l3 : ws.length ≤ 1000 := by omega
    -- due
    refine ⟨_, rfl, _, rfl, th, _, _, _, rfl, rfl, SqT.of (sa _ _ hth), at_of (j := 0) rfl rfl, _, rfl, th, _, _, _, rfl, rfl, SqT.of (sa _ _ hth), at_of (j := 1) rfl rfl, _, rfl, th, _, _, _, rfl, rfl, SqT.of (sa _ _ hth), at_of (j := 2) rfl rfl, _, rfl, th, _, _, _, rfl, rfl, SqT.of (sa _ _ hth), at_of (j := 3) rfl rfl, ?_⟩
    refine ⟨t, pf, av, pp, pw, n, w, m, fs, z, vec, ps, ws, rfl, sa _ _ ht7, w3, ok, xf7.nilN.same sa, sa _ _ g7, xp7.same sa, xw7.same sa, l1, l2, l3, G.iv, fun Hc sc2 => ?_⟩
    have sb := sa.trans sc2
    replace Rb := Rb.same sc2
    obtain ⟨_, dx3, tf3, hx3, _⟩ := id S7
    refine ⟨_, rfl, _, rfl, x, _, _, rfl, sb _ _ hx3, x, r, n, w, m, fs, z, vec, ps, ws, rfl, S7.nil.same sb, Rb, w3, l1, G.iv, fun Hd sd => ⟨_, rfl, _, rfl, rfl, _, rfl, iteNS rfl ?_⟩⟩
    replace sb := sb.trans sd
    replace Rb := Rb.same sd
    refine ⟨_, rfl, _, rfl, x, r, n, w, m, fs, z, vec, ps, ws, rfl, S7.nil.same sb, Rb, w3, l1, G.iv, fun He se => ⟨_, rfl, _, rfl, rfl, _, rfl, iteNS rfl ?_⟩⟩
    replace sb := sb.trans se
    replace Rb := Rb.same se
    refine ⟨_, rfl, _, rfl, r, th, av, pp, pw, z, vec, ps, ws, rfl, Rb, sb _ _ hth, sb _ _ g7, xp7.same sb, xw7.same sb, l1, l2, l3, G.iv, G.ok, fun Hf sf => ⟨true, rfl, iteF ?_⟩⟩
    replace sb := sb.trans sf
    exact ⟨hS7.same sb, S7.same sb, sb _ _ ht7, xf7.same sb, _, _, _, _, _, _, rfl⟩
end
set_option maxRecDepth 100000 in
set_option maxHeartbeats 0 in
theorem all_mk {l : PySem.W.OpenLaw} {w : World} {K : PySem.W.Frag} {h : Heap} {mg : Str → Option Value} {fa f0 f1 f2 f3 f4 f5 f6 f7 f8 f9 f10 f11 f12 f13 f14 f15 f16 f17 f18 f19 f20 f21 f22 f23 f24 f25 f26 f27 f28 f29 : Addr} (X : K.In h) (G : h.Ns mainGlobals mg) (hfa : mg "law" = some (.ref fa))
    {od0 an0 od1 an1 od2 an2 od3 an3 od4 an4 od5 an5 od6 an6 od7 an7 od8 an8 od9 an9 od10 an10 od11 an11 od12 an12 od13 an13 od14 an14 od15 an15 od16 an16 od17 an17 od18 an18 od19 an19 od20 an20 od21 an21 od22 an22 od23 an23 od24 an24 od25 an25 od26 an26 od27 an27 od28 an28 od29 an29 : Option Addr} {sl0 sl1 sl2 sl3 sl4 sl5 sl6 sl7 sl8 sl9 sl10 sl11 sl12 sl13 sl14 sl15 sl16 sl17 sl18 sl19 sl20 sl21 sl22 sl23 sl24 sl25 sl26 sl27 sl28 sl29 : Array (Option Value)} {oc0 kV0 dc0 pm0 cd0 ct0 oc1 kV1 dc1 pm1 cd1 ct1 oc2 kV2 dc2 pm2 cd2 ct2 oc3 kV3 dc3 pm3 cd3 ct3 oc4 kV4 dc4 pm4 cd4 ct4 oc5 kV5 dc5 pm5 cd5 ct5 oc6 kV6 dc6 pm6 cd6 ct6 oc7 kV7 dc7 pm7 cd7 ct7 oc8 kV8 dc8 pm8 cd8 ct8 oc9 kV9 dc9 pm9 cd9 ct9 oc10 dc10 pm10 cd10 ct10 oc11 kV11 dc11 pm11 cd11 ct11 oc12 kV12 dc12 pm12 cd12 ct12 oc13 kV13 dc13 pm13 cd13 ct13 oc14 kV14 dc14 pm14 cd14 ct14 oc15 kV15 dc15 pm15 cd15 ct15 oc16 dc16 pm16 cd16 ct16 oc17 kV17 dc17 pm17 cd17 ct17 oc18 kV18 dc18 pm18 cd18 ct18 oc19 kV19 dc19 pm19 cd19 ct19 oc20 kV20 dc20 pm20 cd20 ct20 oc21 kV21 dc21 pm21 cd21 ct21 oc22 kV22 dc22 pm22 cd22 ct22 oc23 kV23 dc23 pm23 cd23 ct23 oc24 kV24 dc24 pm24 cd24 ct24 oc25 kV25 dc25 pm25 cd25 ct25 oc26 kV26 dc26 pm26 cd26 ct26 oc27 kV27 dc27 pm27 cd27 ct27 oc28 kV28 dc28 pm28 cd28 ct28 oc29 kV29 dc29 pm29 cd29 ct29 : Value}
    {C_Schema C_Record : Addr}
    (a0 : PySem.W.nsIn K mainGlobals "_law_row" = some (some (.ref f0))) (l0 : K.lookup f0 = some ⟨oc0, od0, .func (PySem.W.fnOf "_law_row" "_law_row" (defArgs s_law_row) (defBody s_law_row) (defScope s_law_row) .none kV0 dc0 pm0 an0 cd0 ct0), sl0⟩) (c0 : PySem.W.codeIn K cd0 "_law_row" = true) (k0 : PySem.W.keepIn K (.ref f0) = true)
    (a1 : PySem.W.nsIn K mainGlobals "_law_next" = some (some (.ref f1))) (l1 : K.lookup f1 = some ⟨oc1, od1, .func (PySem.W.fnOf "_law_next" "_law_next" (defArgs s_law_next) (defBody s_law_next) (defScope s_law_next) .none kV1 dc1 pm1 an1 cd1 ct1), sl1⟩) (c1 : PySem.W.codeIn K cd1 "_law_next" = true) (k1 : PySem.W.keepIn K (.ref f1) = true)
    (a2 : PySem.W.nsIn K mainGlobals "_law_fields" = some (some (.ref f2))) (l2 : K.lookup f2 = some ⟨oc2, od2, .func (PySem.W.fnOf "_law_fields" "_law_fields" (defArgs s_law_fields) (defBody s_law_fields) (defScope s_law_fields) .none kV2 dc2 pm2 an2 cd2 ct2), sl2⟩) (c2 : PySem.W.codeIn K cd2 "_law_fields" = true) (k2 : PySem.W.keepIn K (.ref f2) = true)
    (a3 : PySem.W.nsIn K mainGlobals "_law_schema" = some (some (.ref f3))) (l3 : K.lookup f3 = some ⟨oc3, od3, .func (PySem.W.fnOf "_law_schema" "_law_schema" (defArgs s_law_schema) (defBody s_law_schema) (defScope s_law_schema) .none kV3 dc3 pm3 an3 cd3 ct3), sl3⟩) (c3 : PySem.W.codeIn K cd3 "_law_schema" = true) (k3 : PySem.W.keepIn K (.ref f3) = true)
    (a4 : PySem.W.nsIn K mainGlobals "_law_number" = some (some (.ref f4))) (l4 : K.lookup f4 = some ⟨oc4, od4, .func (PySem.W.fnOf "_law_number" "_law_number" (defArgs s_law_number) (defBody s_law_number) (defScope s_law_number) .none kV4 dc4 pm4 an4 cd4 ct4), sl4⟩) (c4 : PySem.W.codeIn K cd4 "_law_number" = true) (k4 : PySem.W.keepIn K (.ref f4) = true)
    (a5 : PySem.W.nsIn K mainGlobals "_law_value" = some (some (.ref f5))) (l5 : K.lookup f5 = some ⟨oc5, od5, .func (PySem.W.fnOf "_law_value" "_law_value" (defArgs s_law_value) (defBody s_law_value) (defScope s_law_value) .none kV5 dc5 pm5 an5 cd5 ct5), sl5⟩) (c5 : PySem.W.codeIn K cd5 "_law_value" = true) (k5 : PySem.W.keepIn K (.ref f5) = true)
    (a6 : PySem.W.nsIn K mainGlobals "_law_pairs" = some (some (.ref f6))) (l6 : K.lookup f6 = some ⟨oc6, od6, .func (PySem.W.fnOf "_law_pairs" "_law_pairs" (defArgs s_law_pairs) (defBody s_law_pairs) (defScope s_law_pairs) .none kV6 dc6 pm6 an6 cd6 ct6), sl6⟩) (c6 : PySem.W.codeIn K cd6 "_law_pairs" = true) (k6 : PySem.W.keepIn K (.ref f6) = true)
    (a7 : PySem.W.nsIn K mainGlobals "_law_words" = some (some (.ref f7))) (l7 : K.lookup f7 = some ⟨oc7, od7, .func (PySem.W.fnOf "_law_words" "_law_words" (defArgs s_law_words) (defBody s_law_words) (defScope s_law_words) .none kV7 dc7 pm7 an7 cd7 ct7), sl7⟩) (c7 : PySem.W.codeIn K cd7 "_law_words" = true) (k7 : PySem.W.keepIn K (.ref f7) = true)
    (a8 : PySem.W.nsIn K mainGlobals "_law_name" = some (some (.ref f8))) (l8 : K.lookup f8 = some ⟨oc8, od8, .func (PySem.W.fnOf "_law_name" "_law_name" (defArgs s_law_name) (defBody s_law_name) (defScope s_law_name) .none kV8 dc8 pm8 an8 cd8 ct8), sl8⟩) (c8 : PySem.W.codeIn K cd8 "_law_name" = true) (k8 : PySem.W.keepIn K (.ref f8) = true)
    (a9 : PySem.W.nsIn K mainGlobals "kind_of_value" = some (some (.ref f9))) (l9 : K.lookup f9 = some ⟨oc9, od9, .func (PySem.W.fnOf "kind_of_value" "kind_of_value" (defArgs s_kind_of_value) (defBody s_kind_of_value) (defScope s_kind_of_value) .none kV9 dc9 pm9 an9 cd9 ct9), sl9⟩) (c9 : PySem.W.codeIn K cd9 "kind_of_value" = true) (k9 : PySem.W.keepIn K (.ref f9) = true)
    {DK10 : Addr} (l10 : K.lookup f10 = some ⟨oc10, od10, .func (PySem.W.fnOf "__init__" "Record.__init__" (defArgs s_Record___init__) (defBody s_Record___init__) (defScope s_Record___init__) .none (.ref DK10) dc10 pm10 an10 cd10 ct10), sl10⟩) (c10 : PySem.W.codeIn K cd10 "Record.__init__" = true) (k10 : PySem.W.keepIn K (.ref f10) = true)
    {E10_fields : Addr} {eo10_fields : Option Addr} {en10_fields : Nat} {es10_fields : Array (Option Value)} (n10_fields : PySem.W.nsIn K DK10 "fields" = some (some (.ref E10_fields))) (t10_fields : K.lookup E10_fields = some ⟨.type "tuple", eo10_fields, .seq #[] en10_fields, es10_fields⟩)
    {E10_words : Addr} {eo10_words : Option Addr} {en10_words : Nat} {es10_words : Array (Option Value)} (n10_words : PySem.W.nsIn K DK10 "words" = some (some (.ref E10_words))) (t10_words : K.lookup E10_words = some ⟨.type "tuple", eo10_words, .seq #[] en10_words, es10_words⟩)
    (a11 : PySem.W.nsIn K mainGlobals "is_letter" = some (some (.ref f11))) (l11 : K.lookup f11 = some ⟨oc11, od11, .func (PySem.W.fnOf "is_letter" "is_letter" (defArgs s_is_letter) (defBody s_is_letter) (defScope s_is_letter) .none kV11 dc11 pm11 an11 cd11 ct11), sl11⟩) (c11 : PySem.W.codeIn K cd11 "is_letter" = true) (k11 : PySem.W.keepIn K (.ref f11) = true)
    (a12 : PySem.W.nsIn K mainGlobals "is_digit" = some (some (.ref f12))) (l12 : K.lookup f12 = some ⟨oc12, od12, .func (PySem.W.fnOf "is_digit" "is_digit" (defArgs s_is_digit) (defBody s_is_digit) (defScope s_is_digit) .none kV12 dc12 pm12 an12 cd12 ct12), sl12⟩) (c12 : PySem.W.codeIn K cd12 "is_digit" = true) (k12 : PySem.W.keepIn K (.ref f12) = true)
    (a13 : PySem.W.nsIn K mainGlobals "is_word" = some (some (.ref f13))) (l13 : K.lookup f13 = some ⟨oc13, od13, .func (PySem.W.fnOf "is_word" "is_word" (defArgs s_is_word) (defBody s_is_word) (defScope s_is_word) .none kV13 dc13 pm13 an13 cd13 ct13), sl13⟩) (c13 : PySem.W.codeIn K cd13 "is_word" = true) (k13 : PySem.W.keepIn K (.ref f13) = true)
    (a14 : PySem.W.nsIn K mainGlobals "check_vectors" = some (some (.ref f14))) (l14 : K.lookup f14 = some ⟨oc14, od14, .func (PySem.W.fnOf "check_vectors" "check_vectors" (defArgs s_check_vectors) (defBody s_check_vectors) (defScope s_check_vectors) .none kV14 dc14 pm14 an14 cd14 ct14), sl14⟩) (c14 : PySem.W.codeIn K cd14 "check_vectors" = true) (k14 : PySem.W.keepIn K (.ref f14) = true)
    (a15 : PySem.W.nsIn K mainGlobals "check_fields" = some (some (.ref f15))) (l15 : K.lookup f15 = some ⟨oc15, od15, .func (PySem.W.fnOf "check_fields" "check_fields" (defArgs s_check_fields) (defBody s_check_fields) (defScope s_check_fields) .none kV15 dc15 pm15 an15 cd15 ct15), sl15⟩) (c15 : PySem.W.codeIn K cd15 "check_fields" = true) (k15 : PySem.W.keepIn K (.ref f15) = true)
    {DK16 : Addr} (l16 : K.lookup f16 = some ⟨oc16, od16, .func (PySem.W.fnOf "__init__" "Schema.__init__" (defArgs s_Schema___init__) (defBody s_Schema___init__) (defScope s_Schema___init__) .none (.ref DK16) dc16 pm16 an16 cd16 ct16), sl16⟩) (c16 : PySem.W.codeIn K cd16 "Schema.__init__" = true) (k16 : PySem.W.keepIn K (.ref f16) = true)
    {tq16_width : Tok} (n16_width : PySem.W.nsIn K DK16 "width" = some (some (.str "small" tq16_width)))
    {tq16_measure : Tok} (n16_measure : PySem.W.nsIn K DK16 "measure" = some (some (.str "square" tq16_measure)))
    {E16_fields : Addr} {eo16_fields : Option Addr} {en16_fields : Nat} {es16_fields : Array (Option Value)} (n16_fields : PySem.W.nsIn K DK16 "fields" = some (some (.ref E16_fields))) (t16_fields : K.lookup E16_fields = some ⟨.type "tuple", eo16_fields, .seq #[] en16_fields, es16_fields⟩)
    (a17 : PySem.W.nsIn K mainGlobals "are_within" = some (some (.ref f17))) (l17 : K.lookup f17 = some ⟨oc17, od17, .func (PySem.W.fnOf "are_within" "are_within" (defArgs s_are_within) (defBody s_are_within) (defScope s_are_within) .none kV17 dc17 pm17 an17 cd17 ct17), sl17⟩) (c17 : PySem.W.codeIn K cd17 "are_within" = true) (k17 : PySem.W.keepIn K (.ref f17) = true)
    (a18 : PySem.W.nsIn K mainGlobals "are_words" = some (some (.ref f18))) (l18 : K.lookup f18 = some ⟨oc18, od18, .func (PySem.W.fnOf "are_words" "are_words" (defArgs s_are_words) (defBody s_are_words) (defScope s_are_words) .none kV18 dc18 pm18 an18 cd18 ct18), sl18⟩) (c18 : PySem.W.codeIn K cd18 "are_words" = true) (k18 : PySem.W.keepIn K (.ref f18) = true)
    (a19 : PySem.W.nsIn K mainGlobals "are_fields_of" = some (some (.ref f19))) (l19 : K.lookup f19 = some ⟨oc19, od19, .func (PySem.W.fnOf "are_fields_of" "are_fields_of" (defArgs s_are_fields_of) (defBody s_are_fields_of) (defScope s_are_fields_of) .none kV19 dc19 pm19 an19 cd19 ct19), sl19⟩) (c19 : PySem.W.codeIn K cd19 "are_fields_of" = true) (k19 : PySem.W.keepIn K (.ref f19) = true)
    (l20 : K.lookup f20 = some ⟨oc20, od20, .func (PySem.W.fnOf "__contains__" "Schema.__contains__" (defArgs s_Schema___contains__) (defBody s_Schema___contains__) (defScope s_Schema___contains__) .none kV20 dc20 pm20 an20 cd20 ct20), sl20⟩) (c20 : PySem.W.codeIn K cd20 "Schema.__contains__" = true) (k20 : PySem.W.keepIn K (.ref f20) = true)
    (l21 : K.lookup f21 = some ⟨oc21, od21, .func (PySem.W.fnOf "check" "Schema.check" (defArgs s_Schema_check) (defBody s_Schema_check) (defScope s_Schema_check) .none kV21 dc21 pm21 an21 cd21 ct21), sl21⟩) (c21 : PySem.W.codeIn K cd21 "Schema.check" = true) (k21 : PySem.W.keepIn K (.ref f21) = true)
    (l22 : K.lookup f22 = some ⟨oc22, od22, .func (PySem.W.fnOf "value" "Record.value" (defArgs s_Record_value) (defBody s_Record_value) (defScope s_Record_value) .none kV22 dc22 pm22 an22 cd22 ct22), sl22⟩) (c22 : PySem.W.codeIn K cd22 "Record.value" = true) (k22 : PySem.W.keepIn K (.ref f22) = true)
    (l23 : K.lookup f23 = some ⟨oc23, od23, .func (PySem.W.fnOf "count_of" "Record.count_of" (defArgs s_Record_count_of) (defBody s_Record_count_of) (defScope s_Record_count_of) .none kV23 dc23 pm23 an23 cd23 ct23), sl23⟩) (c23 : PySem.W.codeIn K cd23 "Record.count_of" = true) (k23 : PySem.W.keepIn K (.ref f23) = true)
    (a24 : PySem.W.nsIn K mainGlobals "_law_kind" = some (some (.ref f24))) (l24 : K.lookup f24 = some ⟨oc24, od24, .func (PySem.W.fnOf "_law_kind" "_law_kind" (defArgs s_law_kind) (defBody s_law_kind) (defScope s_law_kind) .none kV24 dc24 pm24 an24 cd24 ct24), sl24⟩) (c24 : PySem.W.codeIn K cd24 "_law_kind" = true) (k24 : PySem.W.keepIn K (.ref f24) = true)
    (a25 : PySem.W.nsIn K mainGlobals "_law_refused" = some (some (.ref f25))) (l25 : K.lookup f25 = some ⟨oc25, od25, .func (PySem.W.fnOf "_law_refused" "_law_refused" (defArgs s_law_refused) (defBody s_law_refused) (defScope s_law_refused) .none kV25 dc25 pm25 an25 cd25 ct25), sl25⟩) (c25 : PySem.W.codeIn K cd25 "_law_refused" = true) (k25 : PySem.W.keepIn K (.ref f25) = true)
    (a26 : PySem.W.nsIn K mainGlobals "_law_fits" = some (some (.ref f26))) (l26 : K.lookup f26 = some ⟨oc26, od26, .func (PySem.W.fnOf "_law_fits" "_law_fits" (defArgs s_law_fits) (defBody s_law_fits) (defScope s_law_fits) .none kV26 dc26 pm26 an26 cd26 ct26), sl26⟩) (c26 : PySem.W.codeIn K cd26 "_law_fits" = true) (k26 : PySem.W.keepIn K (.ref f26) = true)
    (a27 : PySem.W.nsIn K mainGlobals "_law_change" = some (some (.ref f27))) (l27 : K.lookup f27 = some ⟨oc27, od27, .func (PySem.W.fnOf "_law_change" "_law_change" (defArgs s_law_change) (defBody s_law_change) (defScope s_law_change) .none kV27 dc27 pm27 an27 cd27 ct27), sl27⟩) (c27 : PySem.W.codeIn K cd27 "_law_change" = true) (k27 : PySem.W.keepIn K (.ref f27) = true)
    (a28 : PySem.W.nsIn K mainGlobals "_law_tells" = some (some (.ref f28))) (l28 : K.lookup f28 = some ⟨oc28, od28, .func (PySem.W.fnOf "_law_tells" "_law_tells" (defArgs s_law_tells) (defBody s_law_tells) (defScope s_law_tells) .none kV28 dc28 pm28 an28 cd28 ct28), sl28⟩) (c28 : PySem.W.codeIn K cd28 "_law_tells" = true) (k28 : PySem.W.keepIn K (.ref f28) = true)
    (a29 : PySem.W.nsIn K mainGlobals "law" = some (some (.ref f29))) (l29 : K.lookup f29 = some ⟨oc29, od29, .func (PySem.W.fnOf "law" "law" (defArgs s_law) (defBody s_law) (defScope s_law) .none kV29 dc29 pm29 an29 cd29 ct29), sl29⟩) (c29 : PySem.W.codeIn K cd29 "law" = true) (k29 : PySem.W.keepIn K (.ref f29) = true)
    (aC_Schema : PySem.W.nsIn K mainGlobals "Schema" = some (some (.ref C_Schema)))
    (pg_Schema : PySem.W.plainGet K C_Schema Str.empty = true)
    (hd_Schema : PySem.W.hasDictIn K C_Schema = true)
    (po_Schema : PySem.W.plainOver K C_Schema = true)
    (sa_Schema : PySem.W.findIn K (.ref C_Schema) "__setattr__" = some (some (.builtin "object.__setattr__")))
    (n_Schema_size : PySem.W.findIn K (.ref C_Schema) "size" = some none)
    (n_Schema_width : PySem.W.findIn K (.ref C_Schema) "width" = some none)
    (n_Schema_measure : PySem.W.findIn K (.ref C_Schema) "measure" = some none)
    (n_Schema_fields : PySem.W.findIn K (.ref C_Schema) "fields" = some none)
    (mk_Schema : PySem.W.makesIn K C_Schema = true)
    (in_Schema : PySem.W.findIn K (.ref C_Schema) "__init__" = some (some (.ref f16)))
    (if_Schema : PySem.W.isFn K (.ref f16) = true)
    (kc_Schema : PySem.W.keepIn K (.ref C_Schema) = true)
    (fm_Schema___contains__ : PySem.W.findIn K (.ref C_Schema) "__contains__" = some (some (.ref f20)))
    (im_Schema___contains__ : PySem.W.isFn K (.ref f20) = true)
    (fm_Schema_check : PySem.W.findIn K (.ref C_Schema) "check" = some (some (.ref f21)))
    (im_Schema_check : PySem.W.isFn K (.ref f21) = true)
    (aC_Record : PySem.W.nsIn K mainGlobals "Record" = some (some (.ref C_Record)))
    (pg_Record : PySem.W.plainGet K C_Record Str.empty = true)
    (hd_Record : PySem.W.hasDictIn K C_Record = true)
    (po_Record : PySem.W.plainOver K C_Record = true)
    (sa_Record : PySem.W.findIn K (.ref C_Record) "__setattr__" = some (some (.builtin "object.__setattr__")))
    (n_Record_name : PySem.W.findIn K (.ref C_Record) "name" = some none)
    (n_Record_vector : PySem.W.findIn K (.ref C_Record) "vector" = some none)
    (n_Record_fields : PySem.W.findIn K (.ref C_Record) "fields" = some none)
    (n_Record_words : PySem.W.findIn K (.ref C_Record) "words" = some none)
    (mk_Record : PySem.W.makesIn K C_Record = true)
    (in_Record : PySem.W.findIn K (.ref C_Record) "__init__" = some (some (.ref f10)))
    (if_Record : PySem.W.isFn K (.ref f10) = true)
    (kc_Record : PySem.W.keepIn K (.ref C_Record) = true)
    (fm_Record_value : PySem.W.findIn K (.ref C_Record) "value" = some (some (.ref f22)))
    (im_Record_value : PySem.W.isFn K (.ref f22) = true)
    (fm_Record_count_of : PySem.W.findIn K (.ref C_Record) "count_of" = some (some (.ref f23)))
    (im_Record_count_of : PySem.W.isFn K (.ref f23) = true)
    {C_InvalidRecord : Addr}
    (aX_InvalidRecord : PySem.W.nsIn K mainGlobals "InvalidRecord" = some (some (.ref C_InvalidRecord)))
    (kx_InvalidRecord : PySem.W.keepIn K (.ref C_InvalidRecord) = true)
    (ex_InvalidRecord : PySem.W.excIn K C_InvalidRecord [.type "ValueError", .type "Exception", .type "BaseException", .type "object"] "ValueError.__new__" = true)
    (bx_InvalidRecord : PySem.W.subIn K (.ref C_InvalidRecord) (.type "BaseException") = some true)
    (tx_InvalidRecord : PySem.W.typeIn K (.ref C_InvalidRecord) = some (.type "type"))
    (ix_InvalidRecord : PySem.W.isClsIn K C_InvalidRecord = true)
    {C_InvalidSchema : Addr}
    (aX_InvalidSchema : PySem.W.nsIn K mainGlobals "InvalidSchema" = some (some (.ref C_InvalidSchema)))
    (kx_InvalidSchema : PySem.W.keepIn K (.ref C_InvalidSchema) = true)
    (ex_InvalidSchema : PySem.W.excIn K C_InvalidSchema [.type "ValueError", .type "Exception", .type "BaseException", .type "object"] "ValueError.__new__" = true)
    (bx_InvalidSchema : PySem.W.subIn K (.ref C_InvalidSchema) (.type "BaseException") = some true)
    (tx_InvalidSchema : PySem.W.typeIn K (.ref C_InvalidSchema) = some (.type "type"))
    (ix_InvalidSchema : PySem.W.isClsIn K C_InvalidSchema = true)
    {C_SurenearError : Addr}
    (aX_SurenearError : PySem.W.nsIn K mainGlobals "SurenearError" = some (some (.ref C_SurenearError)))
    (kx_SurenearError : PySem.W.keepIn K (.ref C_SurenearError) = true)
    (ex_SurenearError : PySem.W.excIn K C_SurenearError [.type "ValueError", .type "Exception", .type "BaseException", .type "object"] "ValueError.__new__" = true)
    (bx_SurenearError : PySem.W.subIn K (.ref C_SurenearError) (.type "BaseException") = some true)
    (tx_SurenearError : PySem.W.typeIn K (.ref C_SurenearError) = some (.type "type"))
    (ix_SurenearError : PySem.W.isClsIn K C_SurenearError = true)
    (sx_InvalidRecord_InvalidRecord : PySem.W.subIn K (.ref C_InvalidRecord) (.ref C_InvalidRecord) = some true)
    {A_KINDS : Addr} {to_KINDS : Option Addr} {ti_KINDS : Array Value} {tn_KINDS : Nat} {ts_KINDS : Array (Option Value)} (z_KINDS : PySem.W.nsIn K mainGlobals "KINDS" = some (some (.ref A_KINDS))) (zl_KINDS : K.lookup A_KINDS = some ⟨.type "tuple", to_KINDS, .seq ti_KINDS tn_KINDS, ts_KINDS⟩) (zv_KINDS : Vals [.str "integer", .str "text", .str "flag"] ti_KINDS.toList) (zn_KINDS : ti_KINDS.size ≤ sizeLine)
    {A_MEASURES : Addr} {to_MEASURES : Option Addr} {ti_MEASURES : Array Value} {tn_MEASURES : Nat} {ts_MEASURES : Array (Option Value)} (z_MEASURES : PySem.W.nsIn K mainGlobals "MEASURES" = some (some (.ref A_MEASURES))) (zl_MEASURES : K.lookup A_MEASURES = some ⟨.type "tuple", to_MEASURES, .seq ti_MEASURES tn_MEASURES, ts_MEASURES⟩) (zv_MEASURES : Vals [.str "square", .str "dot", .str "bits"] ti_MEASURES.toList) (zn_MEASURES : ti_MEASURES.size ≤ sizeLine)
    {A_RESERVED : Addr} {to_RESERVED : Option Addr} {ti_RESERVED : Array Value} {tn_RESERVED : Nat} {ts_RESERVED : Array (Option Value)} (z_RESERVED : PySem.W.nsIn K mainGlobals "RESERVED" = some (some (.ref A_RESERVED))) (zl_RESERVED : K.lookup A_RESERVED = some ⟨.type "tuple", to_RESERVED, .seq ti_RESERVED tn_RESERVED, ts_RESERVED⟩) (zv_RESERVED : Vals [.str "every", .str "has", .str "in", .str "and", .str "or", .str "not", .str "true", .str "false"] ti_RESERVED.toList) (zn_RESERVED : ti_RESERVED.size ≤ sizeLine)
    {A_WIDTHS : Addr} {de_WIDTHS : Array DictEntry} {dn_WIDTHS : Nat} (z_WIDTHS : PySem.W.nsIn K mainGlobals "WIDTHS" = some (some (.ref A_WIDTHS))) (zl_WIDTHS : K.lookup A_WIDTHS = some ⟨.type "dict", none, .dict de_WIDTHS dn_WIDTHS, #[]⟩) (zk_WIDTHS : PySem.W.KeysLit w.params de_WIDTHS.toList) (zs_WIDTHS : (A_WIDTHS == sysModules) = false)
    {A_WIDTHS_bit : Addr} {to_WIDTHS_bit : Option Addr} {ti_WIDTHS_bit : Array Value} {tn_WIDTHS_bit : Nat} {ts_WIDTHS_bit : Array (Option Value)} (z_WIDTHS_bit : PySem.W.nsIn K A_WIDTHS "bit" = some (some (.ref A_WIDTHS_bit))) (zl_WIDTHS_bit : K.lookup A_WIDTHS_bit = some ⟨.type "tuple", to_WIDTHS_bit, .seq ti_WIDTHS_bit tn_WIDTHS_bit, ts_WIDTHS_bit⟩) (zv_WIDTHS_bit : Vals [.int (0), .int (1)] ti_WIDTHS_bit.toList) (zn_WIDTHS_bit : ti_WIDTHS_bit.size ≤ sizeLine)
    {A_WIDTHS_small : Addr} {to_WIDTHS_small : Option Addr} {ti_WIDTHS_small : Array Value} {tn_WIDTHS_small : Nat} {ts_WIDTHS_small : Array (Option Value)} (z_WIDTHS_small : PySem.W.nsIn K A_WIDTHS "small" = some (some (.ref A_WIDTHS_small))) (zl_WIDTHS_small : K.lookup A_WIDTHS_small = some ⟨.type "tuple", to_WIDTHS_small, .seq ti_WIDTHS_small tn_WIDTHS_small, ts_WIDTHS_small⟩) (zv_WIDTHS_small : Vals [.int (-128), .int (127)] ti_WIDTHS_small.toList) (zn_WIDTHS_small : ti_WIDTHS_small.size ≤ sizeLine)
    {A_WIDTHS_wide : Addr} {to_WIDTHS_wide : Option Addr} {ti_WIDTHS_wide : Array Value} {tn_WIDTHS_wide : Nat} {ts_WIDTHS_wide : Array (Option Value)} (z_WIDTHS_wide : PySem.W.nsIn K A_WIDTHS "wide" = some (some (.ref A_WIDTHS_wide))) (zl_WIDTHS_wide : K.lookup A_WIDTHS_wide = some ⟨.type "tuple", to_WIDTHS_wide, .seq ti_WIDTHS_wide tn_WIDTHS_wide, ts_WIDTHS_wide⟩) (zv_WIDTHS_wide : Vals [.int (-32768), .int (32767)] ti_WIDTHS_wide.toList) (zn_WIDTHS_wide : ti_WIDTHS_wide.size ≤ sizeLine)
    (z_WIDTHS_huge : PySem.W.nsIn K A_WIDTHS "huge" = some none)
    (z_all : PySem.W.nsIn K mainGlobals "all" = some none)
    (z_bool : PySem.W.nsIn K mainGlobals "bool" = some none)
    (z_int : PySem.W.nsIn K mainGlobals "int" = some none)
    (z_isinstance : PySem.W.nsIn K mainGlobals "isinstance" = some none)
    (z_len : PySem.W.nsIn K mainGlobals "len" = some none)
    (z_list : PySem.W.nsIn K mainGlobals "list" = some none)
    (z_max : PySem.W.nsIn K mainGlobals "max" = some none)
    (z_min : PySem.W.nsIn K mainGlobals "min" = some none)
    (z_range : PySem.W.nsIn K mainGlobals "range" = some none)
    (z_set : PySem.W.nsIn K mainGlobals "set" = some none)
    (z_str : PySem.W.nsIn K mainGlobals "str" = some none)
    (z_tuple : PySem.W.nsIn K mainGlobals "tuple" = some none)
    : ∃ fd : FuncData, (∀ (s : Shared) (v : Value), BindsTo s fd ⟨[v], []⟩ [("script", v)]) ∧ ∀ base : Heap, K.In base → base.Ns mainGlobals mg → FnOk l.prog w K mg base CX0 6 fa fd ["script"] (sp_law K) := by
  have e := hfa.symm.trans (PySem.W.mg_of X G a29)
  cases e
  have F0 := fun_mk (st := s_law_row) l0 c0 k0
  have b0 := F0.binds (ps := ["script", "k"]) fun _ _ _ _ _ _ us hl => match us, hl with | [_, _], _ => rfl
  have F1 := fun_mk (st := s_law_next) l1 c1 k1
  have b1 := F1.binds (ps := ["state", "many"]) fun _ _ _ _ _ _ us hl => match us, hl with | [_, _], _ => rfl
  have F2 := fun_mk (st := s_law_fields) l2 c2 k2
  have b2 := F2.binds (ps := ["state"]) fun _ _ _ _ _ _ us hl => match us, hl with | [_], _ => rfl
  have F3 := fun_mk (st := s_law_schema) l3 c3 k3
  have b3 := F3.binds (ps := ["state"]) fun _ _ _ _ _ _ us hl => match us, hl with | [_], _ => rfl
  have F4 := fun_mk (st := s_law_number) l4 c4 k4
  have b4 := F4.binds (ps := ["state", "width"]) fun _ _ _ _ _ _ us hl => match us, hl with | [_, _], _ => rfl
  have F5 := fun_mk (st := s_law_value) l5 c5 k5
  have b5 := F5.binds (ps := ["state", "kind"]) fun _ _ _ _ _ _ us hl => match us, hl with | [_, _], _ => rfl
  have F6 := fun_mk (st := s_law_pairs) l6 c6 k6
  have b6 := F6.binds (ps := ["state", "fields"]) fun _ _ _ _ _ _ us hl => match us, hl with | [_, _], _ => rfl
  have F7 := fun_mk (st := s_law_words) l7 c7 k7
  have b7 := F7.binds (ps := ["state"]) fun _ _ _ _ _ _ us hl => match us, hl with | [_], _ => rfl
  have F8 := fun_mk (st := s_law_name) l8 c8 k8
  have b8 := F8.binds (ps := ["state"]) fun _ _ _ _ _ _ us hl => match us, hl with | [_], _ => rfl
  have F9 := fun_mk (st := s_kind_of_value) l9 c9 k9
  have b9 := F9.binds (ps := ["worth"]) fun _ _ _ _ _ _ us hl => match us, hl with | [_], _ => rfl
  have F10 : FunD K "__init__" "Record.__init__" (defArgs s_Record___init__) (defBody s_Record___init__) (defScope s_Record___init__) [] [("fields", .ref E10_fields), ("words", .ref E10_words)] f10 _ := ⟨⟨_, _, _, _, _, _, _, _, _, _, rfl, l10, c10, .inl ⟨rfl, rfl⟩, .inr ⟨DK10, rfl, fun q hq => by
    simp only [List.mem_cons, List.not_mem_nil, or_false] at hq
    rcases hq with rfl | rfl
    · exact ⟨_, n10_fields, rfl⟩
    · exact ⟨_, n10_words, rfl⟩⟩⟩, k10⟩
  obtain ⟨mv10, kb10⟩ := F10.kbinds0 (ps := ["self", "name", "vector", "fields", "words"]) 3 ["fields", "words"] [] (fun us mv ws => us ++ ws) (by intro h; cases h) (fun q h => by cases h) (fun r1 _ r3 => r1.append r3) (fun D doc pm an cdv ct us mv ws l1 l2 l3 => match us, mv, ws, l1, l2, l3 with | [_, _, _], [], [_, _], _, _, _ => rfl)
  obtain ⟨ds10, v10, b10⟩ := F10.binds0 (ps := ["self", "name", "vector", "fields", "words"]) 3 (by intro h; cases h) rfl (fun D doc pm an cdv ct us ks l1 l2 => match us, ks, l1, l2 with | [_, _, _], [_, _], _, _ => ⟨_, _, _, _, _, _, rfl, rfl, ⟨_, _, _, _, _, _, rfl, rfl, rfl⟩⟩)
  have F11 := fun_mk (st := s_is_letter) l11 c11 k11
  have b11 := F11.binds (ps := ["char"]) fun _ _ _ _ _ _ us hl => match us, hl with | [_], _ => rfl
  have F12 := fun_mk (st := s_is_digit) l12 c12 k12
  have b12 := F12.binds (ps := ["char"]) fun _ _ _ _ _ _ us hl => match us, hl with | [_], _ => rfl
  have F13 := fun_mk (st := s_is_word) l13 c13 k13
  have b13 := F13.binds (ps := ["text"]) fun _ _ _ _ _ _ us hl => match us, hl with | [_], _ => rfl
  have F14 := fun_mk (st := s_check_vectors) l14 c14 k14
  have b14 := F14.binds (ps := ["size", "width", "measure"]) fun _ _ _ _ _ _ us hl => match us, hl with | [_, _, _], _ => rfl
  have F15 := fun_mk (st := s_check_fields) l15 c15 k15
  have b15 := F15.binds (ps := ["fields"]) fun _ _ _ _ _ _ us hl => match us, hl with | [_], _ => rfl
  have F16 : FunD K "__init__" "Schema.__init__" (defArgs s_Schema___init__) (defBody s_Schema___init__) (defScope s_Schema___init__) [] [("width", .str "small"), ("measure", .str "square"), ("fields", .ref E16_fields)] f16 _ := ⟨⟨_, _, _, _, _, _, _, _, _, _, rfl, l16, c16, .inl ⟨rfl, rfl⟩, .inr ⟨DK16, rfl, fun q hq => by
    simp only [List.mem_cons, List.not_mem_nil, or_false] at hq
    rcases hq with rfl | rfl | rfl
    · exact ⟨_, n16_width, ⟨_, rfl⟩⟩
    · exact ⟨_, n16_measure, ⟨_, rfl⟩⟩
    · exact ⟨_, n16_fields, rfl⟩⟩⟩, k16⟩
  obtain ⟨mv16, kb16⟩ := F16.kbinds0 (ps := ["self", "size", "width", "measure", "fields"]) 2 ["width", "measure", "fields"] [] (fun us mv ws => us ++ ws) (by intro h; cases h) (fun q h => by cases h) (fun r1 _ r3 => r1.append r3) (fun D doc pm an cdv ct us mv ws l1 l2 l3 => match us, mv, ws, l1, l2, l3 with | [_, _], [], [_, _, _], _, _, _ => rfl)
  obtain ⟨ds16, v16, b16⟩ := F16.binds0 (ps := ["self", "size", "width", "measure", "fields"]) 2 (by intro h; cases h) rfl (fun D doc pm an cdv ct us ks l1 l2 => match us, ks, l1, l2 with | [_, _], [_, _, _], _, _ => ⟨_, _, _, _, _, _, rfl, rfl, ⟨_, _, _, _, _, _, rfl, rfl, ⟨_, _, _, _, _, _, rfl, rfl, rfl⟩⟩⟩)
  have F17 := fun_mk (st := s_are_within) l17 c17 k17
  have b17 := F17.binds (ps := ["vector", "width"]) fun _ _ _ _ _ _ us hl => match us, hl with | [_, _], _ => rfl
  have F18 := fun_mk (st := s_are_words) l18 c18 k18
  have b18 := F18.binds (ps := ["words"]) fun _ _ _ _ _ _ us hl => match us, hl with | [_], _ => rfl
  have F19 := fun_mk (st := s_are_fields_of) l19 c19 k19
  have b19 := F19.binds (ps := ["fields", "known"]) fun _ _ _ _ _ _ us hl => match us, hl with | [_, _], _ => rfl
  have F20 := fun_mk (st := s_Schema___contains__) l20 c20 k20
  have b20 := F20.binds (ps := ["self", "record"]) fun _ _ _ _ _ _ us hl => match us, hl with | [_, _], _ => rfl
  have F21 := fun_mk (st := s_Schema_check) l21 c21 k21
  have b21 := F21.binds (ps := ["self", "record"]) fun _ _ _ _ _ _ us hl => match us, hl with | [_, _], _ => rfl
  have F22 := fun_mk (st := s_Record_value) l22 c22 k22
  have b22 := F22.binds (ps := ["self", "name"]) fun _ _ _ _ _ _ us hl => match us, hl with | [_, _], _ => rfl
  have F23 := fun_mk (st := s_Record_count_of) l23 c23 k23
  have b23 := F23.binds (ps := ["self", "word"]) fun _ _ _ _ _ _ us hl => match us, hl with | [_, _], _ => rfl
  have F24 := fun_mk (st := s_law_kind) l24 c24 k24
  have b24 := F24.binds (ps := ["worth"]) fun _ _ _ _ _ _ us hl => match us, hl with | [_], _ => rfl
  have F25 := fun_mk (st := s_law_refused) l25 c25 k25
  have b25 := F25.binds (ps := ["schema", "record"]) fun _ _ _ _ _ _ us hl => match us, hl with | [_, _], _ => rfl
  have F26 := fun_mk (st := s_law_fits) l26 c26 k26
  have b26 := F26.binds (ps := ["drawn", "name", "vector", "pairs", "words"]) fun _ _ _ _ _ _ us hl => match us, hl with | [_, _, _, _, _], _ => rfl
  have F27 := fun_mk (st := s_law_change) l27 c27 k27
  have b27 := F27.binds (ps := ["state", "drawn", "thing"]) fun _ _ _ _ _ _ us hl => match us, hl with | [_, _, _], _ => rfl
  have F28 := fun_mk (st := s_law_tells) l28 c28 k28
  have b28 := F28.binds (ps := ["record", "thing"]) fun _ _ _ _ _ _ us hl => match us, hl with | [_, _], _ => rfl
  have F29 := fun_mk (st := s_law) l29 c29 k29
  have b29 := F29.binds (ps := ["script"]) fun _ _ _ _ _ _ us hl => match us, hl with | [_], _ => rfl
  let T : Txt w K mg := ⟨_, _, F0, b0, PySem.W.mg_of X G a0,
    _, _, F1, b1, PySem.W.mg_of X G a1,
    _, _, F2, b2, PySem.W.mg_of X G a2,
    _, _, F3, b3, PySem.W.mg_of X G a3,
    _, _, F4, b4, PySem.W.mg_of X G a4,
    _, _, F5, b5, PySem.W.mg_of X G a5,
    _, _, F6, b6, PySem.W.mg_of X G a6,
    _, _, F7, b7, PySem.W.mg_of X G a7,
    _, _, F8, b8, PySem.W.mg_of X G a8,
    _, _, F9, b9, PySem.W.mg_of X G a9,
    _, _, _, fun H => .inr ⟨_, _, _, t10_fields, rfl, rfl, by decide, .nil⟩, _, fun H => .inr ⟨_, _, _, t10_words, rfl, rfl, by decide, .nil⟩, F10, kb10, _, v10, b10,
    _, _, F11, b11, PySem.W.mg_of X G a11,
    _, _, F12, b12, PySem.W.mg_of X G a12,
    _, _, F13, b13, PySem.W.mg_of X G a13,
    _, _, F14, b14, PySem.W.mg_of X G a14,
    _, _, F15, b15, PySem.W.mg_of X G a15,
    _, _, _, fun H => .inr ⟨_, _, _, t16_fields, rfl, rfl, by decide, .nil⟩, F16, kb16, _, v16, b16,
    _, _, F17, b17, PySem.W.mg_of X G a17,
    _, _, F18, b18, PySem.W.mg_of X G a18,
    _, _, F19, b19, PySem.W.mg_of X G a19,
    _, _, F20, b20,
    _, _, F21, b21,
    _, _, F22, b22,
    _, _, F23, b23,
    _, _, F24, b24, PySem.W.mg_of X G a24,
    _, _, F25, b25, PySem.W.mg_of X G a25,
    _, _, F26, b26, PySem.W.mg_of X G a26,
    _, _, F27, b27, PySem.W.mg_of X G a27,
    _, _, F28, b28, PySem.W.mg_of X G a28,
    _, _, F29, b29, PySem.W.mg_of X G a29,
    _, PySem.W.mg_of X G aX_InvalidRecord, kx_InvalidRecord, ex_InvalidRecord, bx_InvalidRecord, tx_InvalidRecord,
    _, PySem.W.mg_of X G aX_InvalidSchema, kx_InvalidSchema, ex_InvalidSchema, bx_InvalidSchema, tx_InvalidSchema,
    _, PySem.W.mg_of X G aX_SurenearError, kx_SurenearError, ex_SurenearError, bx_SurenearError, tx_SurenearError,
    exm_any bx_InvalidRecord (fun c e => by cases e; exact ix_InvalidRecord) tx_InvalidRecord sx_InvalidRecord_InvalidRecord ⟨_, rfl⟩,
    _, ⟨pg_Schema, hd_Schema, po_Schema, sa_Schema⟩, PySem.W.mg_of X G aC_Schema, n_Schema_size, n_Schema_width, n_Schema_measure, n_Schema_fields, ⟨mk_Schema, in_Schema, if_Schema, kc_Schema⟩, ⟨fm_Schema___contains__, im_Schema___contains__, k20⟩, ⟨fm_Schema_check, im_Schema_check, k21⟩,
    _, ⟨pg_Record, hd_Record, po_Record, sa_Record⟩, PySem.W.mg_of X G aC_Record, n_Record_name, n_Record_vector, n_Record_fields, n_Record_words, ⟨mk_Record, in_Record, if_Record, kc_Record⟩, ⟨fm_Record_value, im_Record_value, k22⟩, ⟨fm_Record_count_of, im_Record_count_of, k23⟩,
    _, PySem.W.mg_of X G z_KINDS, fun H => .inr ⟨_, _, _, zl_KINDS, rfl, rfl, zn_KINDS, zv_KINDS⟩,
    _, PySem.W.mg_of X G z_MEASURES, fun H => .inr ⟨_, _, _, zl_MEASURES, rfl, rfl, zn_MEASURES, zv_MEASURES⟩,
    _, PySem.W.mg_of X G z_RESERVED, fun H => .inr ⟨_, _, _, zl_RESERVED, rfl, rfl, zn_RESERVED, zv_RESERVED⟩,
    _, PySem.W.mg_of X G z_WIDTHS, _, _, ⟨zl_WIDTHS, zk_WIDTHS, zs_WIDTHS⟩, _, z_WIDTHS_bit, fun H => .inr ⟨_, _, _, zl_WIDTHS_bit, rfl, rfl, zn_WIDTHS_bit, zv_WIDTHS_bit⟩, _, z_WIDTHS_small, fun H => .inr ⟨_, _, _, zl_WIDTHS_small, rfl, rfl, zn_WIDTHS_small, zv_WIDTHS_small⟩, _, z_WIDTHS_wide, fun H => .inr ⟨_, _, _, zl_WIDTHS_wide, rfl, rfl, zn_WIDTHS_wide, zv_WIDTHS_wide⟩, z_WIDTHS_huge,
    PySem.W.mg_none_of X G z_all,
    PySem.W.mg_none_of X G z_bool,
    PySem.W.mg_none_of X G z_int,
    PySem.W.mg_none_of X G z_isinstance,
    PySem.W.mg_none_of X G z_len,
    PySem.W.mg_none_of X G z_list,
    PySem.W.mg_none_of X G z_max,
    PySem.W.mg_none_of X G z_min,
    PySem.W.mg_none_of X G z_range,
    PySem.W.mg_none_of X G z_set,
    PySem.W.mg_none_of X G z_str,
    PySem.W.mg_none_of X G z_tuple⟩
  exact ⟨_, fun s v => .of_eq rfl, fun base _ _ => ok_law T⟩
end K06
open PySem PySem.W PyProof.Rows
set_option maxRecDepth 100000 in
set_option maxHeartbeats 0 in
theorem PySem.Challenge.cw_surenear_k06_records_of_a_schema_holds : PySem.Challenge.rw_surenear_k06_records_of_a_schema.Holds := by
  w_on; o_law; k_head; (case hw => w_witness2)
  k_fill
  refine L2.walk_of (l := PySem.Challenge.rw_surenear_k06_records_of_a_schema) (n := 63) (k := 6) (x := "script") (CX := fun _ => L2.CX0) (sp := fun w => K06.sp_law _) rfl (by decide) rfl ⟨rfl, by decide, by decide⟩ (fun w h Y => PySem.W.kIn_of Y) ?F (fun _ _ a ns hl _ hS => ⟨a, ns, rfl, hS, hl, fun _ => rfl⟩) (fun _ _ _ _ _ h => h)
  case F =>
    intro w mg fa h KX G hmg
    refine' K06.all_mk KX G hmg (a0 := ?a0) (l0 := ?l0) (c0 := ?c0) (k0 := ?k0) (a1 := ?a1) (l1 := ?l1) (c1 := ?c1) (k1 := ?k1) (a2 := ?a2) (l2 := ?l2) (c2 := ?c2) (k2 := ?k2) (a3 := ?a3) (l3 := ?l3) (c3 := ?c3) (k3 := ?k3) (a4 := ?a4) (l4 := ?l4) (c4 := ?c4) (k4 := ?k4) (a5 := ?a5) (l5 := ?l5) (c5 := ?c5) (k5 := ?k5) (a6 := ?a6) (l6 := ?l6) (c6 := ?c6) (k6 := ?k6) (a7 := ?a7) (l7 := ?l7) (c7 := ?c7) (k7 := ?k7) (a8 := ?a8) (l8 := ?l8) (c8 := ?c8) (k8 := ?k8) (a9 := ?a9) (l9 := ?l9) (c9 := ?c9) (k9 := ?k9) (a11 := ?a11) (l11 := ?l11) (c11 := ?c11) (k11 := ?k11) (a12 := ?a12) (l12 := ?l12) (c12 := ?c12) (k12 := ?k12) (a13 := ?a13) (l13 := ?l13) (c13 := ?c13) (k13 := ?k13) (a14 := ?a14) (l14 := ?l14) (c14 := ?c14) (k14 := ?k14) (a15 := ?a15) (l15 := ?l15) (c15 := ?c15) (k15 := ?k15) (a17 := ?a17) (l17 := ?l17) (c17 := ?c17) (k17 := ?k17) (a18 := ?a18) (l18 := ?l18) (c18 := ?c18) (k18 := ?k18) (a19 := ?a19) (l19 := ?l19) (c19 := ?c19) (k19 := ?k19) (a24 := ?a24) (l24 := ?l24) (c24 := ?c24) (k24 := ?k24) (a25 := ?a25) (l25 := ?l25) (c25 := ?c25) (k25 := ?k25) (a26 := ?a26) (l26 := ?l26) (c26 := ?c26) (k26 := ?k26) (a27 := ?a27) (l27 := ?l27) (c27 := ?c27) (k27 := ?k27) (a28 := ?a28) (l28 := ?l28) (c28 := ?c28) (k28 := ?k28) (a29 := ?a29) (l29 := ?l29) (c29 := ?c29) (k29 := ?k29) (aC_Schema := ?aC_Schema) (pg_Schema := ?pg_Schema) (hd_Schema := ?hd_Schema) (po_Schema := ?po_Schema) (sa_Schema := ?sa_Schema) (n_Schema_size := ?n_Schema_size) (n_Schema_width := ?n_Schema_width) (n_Schema_measure := ?n_Schema_measure) (n_Schema_fields := ?n_Schema_fields) (mk_Schema := ?mk_Schema) (in_Schema := ?in_Schema) (if_Schema := ?if_Schema) (kc_Schema := ?kc_Schema) (fm_Schema___contains__ := ?fm_Schema___contains__) (im_Schema___contains__ := ?im_Schema___contains__) (fm_Schema_check := ?fm_Schema_check) (im_Schema_check := ?im_Schema_check) (aC_Record := ?aC_Record) (pg_Record := ?pg_Record) (hd_Record := ?hd_Record) (po_Record := ?po_Record) (sa_Record := ?sa_Record) (n_Record_name := ?n_Record_name) (n_Record_vector := ?n_Record_vector) (n_Record_fields := ?n_Record_fields) (n_Record_words := ?n_Record_words) (mk_Record := ?mk_Record) (in_Record := ?in_Record) (if_Record := ?if_Record) (kc_Record := ?kc_Record) (fm_Record_value := ?fm_Record_value) (im_Record_value := ?im_Record_value) (fm_Record_count_of := ?fm_Record_count_of) (im_Record_count_of := ?im_Record_count_of) (aX_InvalidRecord := ?aX_InvalidRecord) (kx_InvalidRecord := ?kx_InvalidRecord) (bx_InvalidRecord := ?bx_InvalidRecord) (tx_InvalidRecord := ?tx_InvalidRecord) (ix_InvalidRecord := ?ix_InvalidRecord) (aX_InvalidSchema := ?aX_InvalidSchema) (kx_InvalidSchema := ?kx_InvalidSchema) (bx_InvalidSchema := ?bx_InvalidSchema) (tx_InvalidSchema := ?tx_InvalidSchema) (ix_InvalidSchema := ?ix_InvalidSchema) (aX_SurenearError := ?aX_SurenearError) (kx_SurenearError := ?kx_SurenearError) (bx_SurenearError := ?bx_SurenearError) (tx_SurenearError := ?tx_SurenearError) (ix_SurenearError := ?ix_SurenearError) (sx_InvalidRecord_InvalidRecord := ?sx_InvalidRecord_InvalidRecord) (l10 := ?l10) (n10_fields := ?n10_fields) (t10_fields := ?t10_fields) (n10_words := ?n10_words) (t10_words := ?t10_words) (c10 := ?c10) (k10 := ?k10) (l16 := ?l16) (n16_width := ?n16_width) (n16_measure := ?n16_measure) (n16_fields := ?n16_fields) (t16_fields := ?t16_fields) (c16 := ?c16) (k16 := ?k16) (l20 := ?l20) (c20 := ?c20) (k20 := ?k20) (l21 := ?l21) (c21 := ?c21) (k21 := ?k21) (l22 := ?l22) (c22 := ?c22) (k22 := ?k22) (l23 := ?l23) (c23 := ?c23) (k23 := ?k23) (z_KINDS := ?z_KINDS) (zl_KINDS := ?zl_KINDS) (z_MEASURES := ?z_MEASURES) (zl_MEASURES := ?zl_MEASURES) (z_RESERVED := ?z_RESERVED) (zl_RESERVED := ?zl_RESERVED) (z_WIDTHS := ?z_WIDTHS) (zl_WIDTHS := ?zl_WIDTHS) (z_WIDTHS_bit := ?z_WIDTHS_bit) (zl_WIDTHS_bit := ?zl_WIDTHS_bit) (z_WIDTHS_small := ?z_WIDTHS_small) (zl_WIDTHS_small := ?zl_WIDTHS_small) (z_WIDTHS_wide := ?z_WIDTHS_wide) (zl_WIDTHS_wide := ?zl_WIDTHS_wide) (z_WIDTHS_huge := ?z_WIDTHS_huge) (z_all := ?z_all) (z_bool := ?z_bool) (z_int := ?z_int) (z_isinstance := ?z_isinstance) (z_len := ?z_len) (z_list := ?z_list) (z_max := ?z_max) (z_min := ?z_min) (z_range := ?z_range) (z_set := ?z_set) (z_str := ?z_str) (z_tuple := ?z_tuple) (ex_InvalidRecord := ?ex_InvalidRecord) (ex_InvalidSchema := ?ex_InvalidSchema) (ex_SurenearError := ?ex_SurenearError) (zv_KINDS := ?zv_KINDS) (zn_KINDS := ?zn_KINDS) (zv_MEASURES := ?zv_MEASURES) (zn_MEASURES := ?zn_MEASURES) (zv_RESERVED := ?zv_RESERVED) (zn_RESERVED := ?zn_RESERVED) (zk_WIDTHS := ?zk_WIDTHS) (zs_WIDTHS := ?zs_WIDTHS) (zv_WIDTHS_bit := ?zv_WIDTHS_bit) (zn_WIDTHS_bit := ?zn_WIDTHS_bit) (zv_WIDTHS_small := ?zv_WIDTHS_small) (zn_WIDTHS_small := ?zn_WIDTHS_small) (zv_WIDTHS_wide := ?zv_WIDTHS_wide) (zn_WIDTHS_wide := ?zn_WIDTHS_wide)
    (case a0 => k_is); (case l0 => k_is); (case c0 => k_is); (case k0 => k_is); (case a1 => k_is); (case l1 => k_is); (case c1 => k_is); (case k1 => k_is); (case a2 => k_is); (case l2 => k_is); (case c2 => k_is); (case k2 => k_is); (case a3 => k_is); (case l3 => k_is); (case c3 => k_is); (case k3 => k_is); (case a4 => k_is); (case l4 => k_is); (case c4 => k_is); (case k4 => k_is); (case a5 => k_is); (case l5 => k_is); (case c5 => k_is); (case k5 => k_is); (case a6 => k_is); (case l6 => k_is); (case c6 => k_is); (case k6 => k_is); (case a7 => k_is); (case l7 => k_is); (case c7 => k_is); (case k7 => k_is); (case a8 => k_is); (case l8 => k_is); (case c8 => k_is); (case k8 => k_is); (case a9 => k_is); (case l9 => k_is); (case c9 => k_is); (case k9 => k_is); (case a11 => k_is); (case l11 => k_is); (case c11 => k_is); (case k11 => k_is); (case a12 => k_is); (case l12 => k_is); (case c12 => k_is); (case k12 => k_is); (case a13 => k_is); (case l13 => k_is); (case c13 => k_is); (case k13 => k_is); (case a14 => k_is); (case l14 => k_is); (case c14 => k_is); (case k14 => k_is); (case a15 => k_is); (case l15 => k_is); (case c15 => k_is); (case k15 => k_is); (case a17 => k_is); (case l17 => k_is); (case c17 => k_is); (case k17 => k_is); (case a18 => k_is); (case l18 => k_is); (case c18 => k_is); (case k18 => k_is); (case a19 => k_is); (case l19 => k_is); (case c19 => k_is); (case k19 => k_is); (case a24 => k_is); (case l24 => k_is); (case c24 => k_is); (case k24 => k_is); (case a25 => k_is); (case l25 => k_is); (case c25 => k_is); (case k25 => k_is); (case a26 => k_is); (case l26 => k_is); (case c26 => k_is); (case k26 => k_is); (case a27 => k_is); (case l27 => k_is); (case c27 => k_is); (case k27 => k_is); (case a28 => k_is); (case l28 => k_is); (case c28 => k_is); (case k28 => k_is); (case a29 => k_is); (case l29 => k_is); (case c29 => k_is); (case k29 => k_is); (case aC_Schema => k_is); (case pg_Schema => k_is); (case hd_Schema => k_is); (case po_Schema => k_is); (case sa_Schema => k_is); (case n_Schema_size => k_is); (case n_Schema_width => k_is); (case n_Schema_measure => k_is); (case n_Schema_fields => k_is); (case mk_Schema => k_is); (case in_Schema => k_is); (case if_Schema => k_is); (case kc_Schema => k_is); (case fm_Schema___contains__ => k_is); (case im_Schema___contains__ => k_is); (case fm_Schema_check => k_is); (case im_Schema_check => k_is); (case aC_Record => k_is); (case pg_Record => k_is); (case hd_Record => k_is); (case po_Record => k_is); (case sa_Record => k_is); (case n_Record_name => k_is); (case n_Record_vector => k_is); (case n_Record_fields => k_is); (case n_Record_words => k_is); (case mk_Record => k_is); (case in_Record => k_is); (case if_Record => k_is); (case kc_Record => k_is); (case fm_Record_value => k_is); (case im_Record_value => k_is); (case fm_Record_count_of => k_is); (case im_Record_count_of => k_is); (case aX_InvalidRecord => k_is); (case kx_InvalidRecord => k_is); (case bx_InvalidRecord => k_is); (case tx_InvalidRecord => k_is); (case ix_InvalidRecord => k_is); (case aX_InvalidSchema => k_is); (case kx_InvalidSchema => k_is); (case bx_InvalidSchema => k_is); (case tx_InvalidSchema => k_is); (case ix_InvalidSchema => k_is); (case aX_SurenearError => k_is); (case kx_SurenearError => k_is); (case bx_SurenearError => k_is); (case tx_SurenearError => k_is); (case ix_SurenearError => k_is); (case sx_InvalidRecord_InvalidRecord => k_is); (case l10 => k_is); (case n10_fields => k_is); (case t10_fields => k_is); (case n10_words => k_is); (case t10_words => k_is); (case c10 => k_is); (case k10 => k_is); (case l16 => k_is); (case n16_width => k_is); (case n16_measure => k_is); (case n16_fields => k_is); (case t16_fields => k_is); (case c16 => k_is); (case k16 => k_is); (case l20 => k_is); (case c20 => k_is); (case k20 => k_is); (case l21 => k_is); (case c21 => k_is); (case k21 => k_is); (case l22 => k_is); (case c22 => k_is); (case k22 => k_is); (case l23 => k_is); (case c23 => k_is); (case k23 => k_is); (case z_KINDS => k_is); (case zl_KINDS => k_is); (case z_MEASURES => k_is); (case zl_MEASURES => k_is); (case z_RESERVED => k_is); (case zl_RESERVED => k_is); (case z_WIDTHS => k_is); (case zl_WIDTHS => k_is); (case z_WIDTHS_bit => k_is); (case zl_WIDTHS_bit => k_is); (case z_WIDTHS_small => k_is); (case zl_WIDTHS_small => k_is); (case z_WIDTHS_wide => k_is); (case zl_WIDTHS_wide => k_is); (case z_WIDTHS_huge => k_is); (case z_all => k_is); (case z_bool => k_is); (case z_int => k_is); (case z_isinstance => k_is); (case z_len => k_is); (case z_list => k_is); (case z_max => k_is); (case z_min => k_is); (case z_range => k_is); (case z_set => k_is); (case z_str => k_is); (case z_tuple => k_is)
    (case zv_KINDS => exact .cons ⟨_, rfl⟩ (.cons ⟨_, rfl⟩ (.cons ⟨_, rfl⟩ .nil))); (case zn_KINDS => decide); (case zv_MEASURES => exact .cons ⟨_, rfl⟩ (.cons ⟨_, rfl⟩ (.cons ⟨_, rfl⟩ .nil))); (case zn_MEASURES => decide); (case zv_RESERVED => exact .cons ⟨_, rfl⟩ (.cons ⟨_, rfl⟩ (.cons ⟨_, rfl⟩ (.cons ⟨_, rfl⟩ (.cons ⟨_, rfl⟩ (.cons ⟨_, rfl⟩ (.cons ⟨_, rfl⟩ (.cons ⟨_, rfl⟩ .nil)))))))); (case zn_RESERVED => decide); (case zk_WIDTHS => exact ⟨⟨_, _, rfl, rfl⟩, ⟨⟨_, _, rfl, rfl⟩, ⟨⟨_, _, rfl, rfl⟩, trivial⟩⟩⟩); (case zs_WIDTHS => first | rfl | decide); (case zv_WIDTHS_bit => exact .cons ⟨_, rfl⟩ (.cons ⟨_, rfl⟩ .nil)); (case zn_WIDTHS_bit => decide); (case zv_WIDTHS_small => exact .cons ⟨_, rfl⟩ (.cons ⟨_, rfl⟩ .nil)); (case zn_WIDTHS_small => decide); (case zv_WIDTHS_wide => exact .cons ⟨_, rfl⟩ (.cons ⟨_, rfl⟩ .nil)); (case zn_WIDTHS_wide => decide)
    (case ex_InvalidRecord => k_exc); (case ex_InvalidSchema => k_exc); (case ex_SurenearError => k_exc)
