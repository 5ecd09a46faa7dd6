import PyProof.Rows.All
import Wide.All
import OpenK.AllK
import Wide.FinOn
import HandS.ForMost
import HandS.Codes
import HandS.Wide
import HandS.IsInst
import HandS.Walk
import HandS.MakeKwOnly
import HandS.ForExc
import KE.KEqSeq
import PySem.Challenge.RW_surenear_k08_rows_tell_the_record
set_option Elab.async false
set_option linter.all false
set_option maxRecDepth 100000
namespace K08
open PySem PySem.Spec PyProof.Rows L2
open C8 (tCut pss_cut)
/-! the text by places -/
def topS (i : Nat) : Stmt := PySem.Challenge.pw_surenear_k08_rows_tell_the_record.main.body.getD i (.Pass ⟨0, 0, 0, 0⟩)
abbrev s_law_row : Stmt := (topS 11)
abbrev s_law_next : Stmt := (topS 12)
abbrev s_law_fields : Stmt := (topS 13)
abbrev s_law_schema : Stmt := (topS 14)
abbrev s_law_number : Stmt := (topS 15)
abbrev s_law_value : Stmt := (topS 16)
abbrev s_law_pairs : Stmt := (topS 17)
abbrev s_law_words : Stmt := (topS 18)
abbrev s_law_name : Stmt := (topS 19)
abbrev s_kind_of_value : Stmt := (topS 2)
abbrev s_string_part : Stmt := (topS 5)
abbrev s_value_part : Stmt := (topS 6)
abbrev s_Record___init__ : Stmt := (inClass (topS 8) 0)
abbrev s_row_of : Stmt := (topS 4)
abbrev s_law_string : Stmt := (topS 20)
abbrev s_law_codes : Stmt := (topS 21)
abbrev s_law_size : Stmt := (topS 23)
abbrev s_law_reads : Stmt := (topS 22)
abbrev s_law : Stmt := (topS 24)
theorem sc_law_row : FnScope ["script", "k", "cell", "a", "b", "c"] ["script", "k"] (defScope s_law_row) := ⟨rfl, rfl, rfl, by decide +kernel, rfl, by decide +kernel, by decide +kernel⟩
theorem sc_law_next : FnScope ["state", "many", "drawn"] ["state", "many"] (defScope s_law_next) := ⟨rfl, rfl, rfl, by decide +kernel, rfl, by decide +kernel, by decide +kernel⟩
theorem sc_law_fields : FnScope ["state", "fields", "k", "name"] ["state"] (defScope s_law_fields) := ⟨rfl, rfl, rfl, by decide +kernel, rfl, by decide +kernel, by decide +kernel⟩
theorem sc_law_schema : FnScope ["state", "width", "measure"] ["state"] (defScope s_law_schema) := ⟨rfl, rfl, rfl, by decide +kernel, rfl, by decide +kernel, by decide +kernel⟩
theorem sc_law_number : FnScope ["state", "width", "low", "high", "spread"] ["state", "width"] (defScope s_law_number) := ⟨rfl, rfl, rfl, by decide +kernel, rfl, by decide +kernel, by decide +kernel⟩
theorem sc_law_value : FnScope ["state", "kind"] ["state", "kind"] (defScope s_law_value) := ⟨rfl, rfl, rfl, by decide +kernel, rfl, by decide +kernel, by decide +kernel⟩
theorem sc_law_pairs : FnScope ["state", "fields", "pairs", "name", "kind"] ["state", "fields"] (defScope s_law_pairs) := ⟨rfl, rfl, rfl, by decide +kernel, rfl, by decide +kernel, by decide +kernel⟩
theorem sc_law_words : FnScope ["state", "words", "word"] ["state"] (defScope s_law_words) := ⟨rfl, rfl, rfl, by decide +kernel, rfl, by decide +kernel, by decide +kernel⟩
theorem sc_law_name : FnScope ["state"] ["state"] (defScope s_law_name) := ⟨rfl, rfl, rfl, by decide +kernel, rfl, by decide +kernel, by decide +kernel⟩
theorem sc_kind_of_value : FnScope ["worth"] ["worth"] (defScope s_kind_of_value) := ⟨rfl, rfl, rfl, by decide +kernel, rfl, by decide +kernel, by decide +kernel⟩
theorem sc_string_part : FnScope ["text", "char"] ["text"] (defScope s_string_part) := ⟨rfl, rfl, rfl, by decide +kernel, rfl, by decide +kernel, by decide +kernel⟩
theorem sc_value_part : FnScope ["worth", "kind"] ["worth"] (defScope s_value_part) := ⟨rfl, rfl, rfl, by decide +kernel, rfl, by decide +kernel, by decide +kernel⟩
theorem sc_Record___init__ : FnScope ["self", "name", "vector", "fields", "words", "pair"] ["self", "name", "vector", "fields", "words"] (defScope s_Record___init__) := ⟨rfl, rfl, rfl, by decide +kernel, rfl, by decide +kernel, by decide +kernel⟩
theorem sc_row_of : FnScope ["number", "record", "row", "name", "worth", "word", "count"] ["number", "record"] (defScope s_row_of) := ⟨rfl, rfl, rfl, by decide +kernel, rfl, by decide +kernel, by decide +kernel⟩
theorem sc_law_string : FnScope ["row", "at", "text", "k"] ["row", "at"] (defScope s_law_string) := ⟨rfl, rfl, rfl, by decide +kernel, rfl, by decide +kernel, by decide +kernel⟩
theorem sc_law_codes : FnScope ["text", "sign"] ["text"] (defScope s_law_codes) := ⟨rfl, rfl, rfl, by decide +kernel, rfl, by decide +kernel, by decide +kernel⟩
theorem sc_law_size : FnScope ["name", "vector", "pairs", "words", "size", "field", "worth", "word", "count"] ["name", "vector", "pairs", "words"] (defScope s_law_size) := ⟨rfl, rfl, rfl, by decide +kernel, rfl, by decide +kernel, by decide +kernel⟩
theorem sc_law_reads : FnScope ["row", "number", "name", "vector", "pairs", "words", "text", "at", "field", "worth", "stop", "word", "count"] ["row", "number", "name", "vector", "pairs", "words"] (defScope s_law_reads) := ⟨rfl, rfl, rfl, by decide +kernel, rfl, by decide +kernel, by decide +kernel⟩
theorem sc_law : FnScope ["script", "state", "turn", "drawn", "vector", "k", "name", "pairs", "words", "number", "row", "cell"] ["script"] (defScope s_law) := ⟨rfl, rfl, rfl, by decide +kernel, rfl, by decide +kernel, by decide +kernel⟩
/-! the mathematics -/

/-- the state of the draws stands at st -/
def StAt (H : Hp) (st sc : Addr) : Prop := ∃ (ns : List Int) (k x : Int), H st = some (.lst [.ref sc, .int k, .int x]) ∧ H sc = some (.lst (ns.map V.int)) ∧ 0 ≤ k ∧ 0 ≤ x ∧ ns.length ≤ 63
/-- all but st is as it was -/
def Oth (st : Addr) (H H' : Hp) : Prop := ∀ b, b ≠ st → H' b = H b
theorem Oth.refl (st : Addr) (H : Hp) : Oth st H H := fun _ _ => rfl
theorem Oth.trans {st : Addr} {H H1 H2 : Hp} (a : Oth st H H1) (b : Oth st H1 H2) : Oth st H H2 := fun c h => (b c h).trans (a c h)
theorem qT {Q : VK} {H : Hp} {c : Prop} [Decidable c] (h : c) (q : Q (.bl true) H) : Q (.bl (decide c)) H := by
  rw [decide_eq_true h]
  exact q
theorem qF {Q : VK} {H : Hp} {c : Prop} [Decidable c] (h : ¬ c) (q : Q (.bl false) H) : Q (.bl (decide c)) H := by
  rw [decide_eq_false h]
  exact q
theorem ixN_nat {n j : Nat} (h : j < n) : ixN n (j : Int) = some j := by
  unfold ixN
  rw [if_pos (by omega), if_pos (by omega)]
  simp
theorem item_map {ns : List Int} {k : Int} (h0 : 0 ≤ k) (h1 : k < ns.length) : ∃ c, atI (ns.map V.int) k = some (.int c) := by
  have hj : k.toNat < ns.length := by omega
  refine ⟨ns[k.toNat], at_of (j := k.toNat) (by omega) ?_⟩
  rw [List.getElem?_map, List.getElem?_eq_getElem hj]
  rfl

/-- what was tracked is so still, but for what stands at st -/
def Fr (st : Addr) (H H' : Hp) : Prop := ∀ b o, H b = some o → b ≠ st → H' b = some o
theorem Fr.refl (st : Addr) (H : Hp) : Fr st H H := fun _ _ h _ => h
theorem Fr.trans {st : Addr} {H H1 H2 : Hp} (a : Fr st H H1) (b : Fr st H1 H2) : Fr st H H2 := fun c o h n => b c o (a c o h n) n
theorem Oth.fr {st : Addr} {H H' : Hp} (h : Oth st H H') : Fr st H H' := fun b _ e n => (h b n).trans e
theorem Fr.new {st : Addr} {H : Hp} {p : Addr} {o : HO} (h : H p = none) : Fr st H (upd H p o) := fun b u e _ => by
  rw [upd_ne (ne_of_none e h)]
  exact e
theorem Fr.set {st : Addr} {H H' : Hp} {p : Addr} {o : HO} (f : Fr st H H') (h : H p = none) : Fr st H (upd H' p o) := fun b u e n => by
  rw [upd_ne (ne_of_none e h)]
  exact f b u e n
theorem Fr.lst {st : Addr} {H H' : Hp} (f : Fr st H H') {b : Addr} {o : HO} (e : H b = some o) (n : b ≠ st) : H' b = some o := f b o e n
/-- a list of integers is not the state -/
theorem st_ne {H : Hp} {st b sc : Addr} (hS : StAt H st sc) {xs : List Int} (h : H b = some (.lst (xs.map V.int))) : b ≠ st := fun e => by
  obtain ⟨ns, k, x, h1, _⟩ := hS
  rw [e, h1] at h
  have z := HO.lst.inj (Option.some.inj h)
  cases xs with
  | nil => cases z
  | cons y r => cases (List.cons.inj z).1
theorem st_new {H : Hp} {st b sc : Addr} (hS : StAt H st sc) (h : H b = none) : b ≠ st := fun e => by
  obtain ⟨ns, k, x, h1, _⟩ := hS
  rw [e, h1] at h
  cases h
/-- the state's own list of the script stands apart from all that is new -/
theorem StAt.new {H : Hp} {st p sc : Addr} {o : HO} (hS : StAt H st sc) (hn : H p = none) : StAt (upd H p o) st sc := by
  obtain ⟨ns, k, x, h1, h2, k0, x0, hl⟩ := hS
  exact ⟨ns, k, x, by rw [upd_ne (ne_of_none h1 hn)]; exact h1, by rw [upd_ne (ne_of_none h2 hn)]; exact h2, k0, x0, hl⟩
theorem StAt.set {H H' : Hp} {st p sc : Addr} {o : HO} (hS' : StAt H' st sc) (hS : StAt H st sc) (hn : H p = none) : StAt (upd H' p o) st sc := by
  obtain ⟨ns, k, x, h1, h2, k0, x0, hl⟩ := hS
  obtain ⟨ns', k', x', h1', h2', k0', x0', hl'⟩ := hS'
  exact ⟨ns', k', x', by rw [upd_ne (ne_of_none h1 hn)]; exact h1', by rw [upd_ne (ne_of_none h2 hn)]; exact h2', k0', x0', hl'⟩
def Bd (n : Int) (xs : List Int) : Prop := ∀ z ∈ xs, -n ≤ z ∧ z ≤ n
theorem Bd.at {n : Int} {xs : List Int} (h : Bd n xs) {i : Nat} {z : Int} (e : xs[i]? = some z) : -n ≤ z ∧ z ≤ n := h z (List.mem_of_getElem? e)
def dist : List Int → List Int → Int
  | x :: xs, y :: ys => (x - y) * (x - y) + dist xs ys
  | _, _ => 0
theorem sq_nn (x : Int) : 0 ≤ x * x := by
  rcases Int.le_total 0 x with h | h
  · exact Int.mul_nonneg h h
  · have := Int.mul_nonneg (Int.neg_nonneg_of_nonpos h) (Int.neg_nonneg_of_nonpos h)
    rwa [Int.neg_mul_neg] at this
theorem dist_nn : ∀ xs ys : List Int, 0 ≤ dist xs ys
  | [], _ => by unfold dist; exact Int.le_refl 0
  | _ :: _, [] => by unfold dist; exact Int.le_refl 0
  | x :: xs, y :: ys => by
    unfold dist
    have := dist_nn xs ys
    have := sq_nn (x - y)
    omega
theorem dist_take : ∀ {xs ys : List Int} {i : Nat} {x y : Int}, xs[i]? = some x → ys[i]? = some y → dist (xs.take (i + 1)) (ys.take (i + 1)) = dist (xs.take i) (ys.take i) + (x - y) * (x - y)
  | [], _, _, _, _, h, _ => by simp at h
  | _ :: _, [], _, _, _, _, h => by simp at h
  | a :: r, b :: t, 0, x, y, h, h2 => by
    have e1 : a = x := Option.some.inj h
    have e2 : b = y := Option.some.inj h2
    subst e1 e2
    simp [dist]
  | a :: r, b :: t, i + 1, x, y, h, h2 => by
    have ih := dist_take (xs := r) (ys := t) (i := i) (x := x) (y := y) h h2
    show (a - b) * (a - b) + dist (r.take (i + 1)) (t.take (i + 1)) = (a - b) * (a - b) + dist (r.take i) (t.take i) + (x - y) * (x - y)
    rw [ih]
    omega
theorem sq_le {x n : Int} (h1 : -n ≤ x) (h2 : x ≤ n) : x * x ≤ n * n := by
  have a : 0 ≤ n - x := by omega
  have b : 0 ≤ n + x := by omega
  have c := Int.mul_nonneg a b
  have e : (n - x) * (n + x) = n * n - x * x := by grind
  omega
theorem dist_le {n : Int} : ∀ {xs ys : List Int}, Bd n xs → Bd n ys → dist xs ys ≤ xs.length * (4 * (n * n))
  | [], _, _, _ => by simp [dist]
  | x :: xs, [], _, _ => by
    unfold dist
    exact Int.mul_nonneg (Int.natCast_nonneg _) (Int.mul_nonneg (by decide) (sq_nn n))
  | x :: xs, y :: ys, hx, hy => by
    have ih := dist_le (n := n) (xs := xs) (ys := ys) (fun z h => hx z (List.mem_cons_of_mem _ h)) (fun z h => hy z (List.mem_cons_of_mem _ h))
    have h1 := hx x (List.mem_cons_self)
    have h2 := hy y (List.mem_cons_self)
    have h3 : (x - y) * (x - y) ≤ (2 * n) * (2 * n) := sq_le (by omega) (by omega)
    have e : (2 * n) * (2 * n) = 4 * (n * n) := by grind
    unfold dist
    rw [List.length_cons]
    have e2 : ((xs.length + 1 : Nat) : Int) * (4 * (n * n)) = xs.length * (4 * (n * n)) + 4 * (n * n) := by grind
    omega
theorem get_map {xs : List Int} {i : Nat} {y : V} (h : (xs.map V.int)[i]? = some y) : ∃ z, y = V.int z ∧ xs[i]? = some z := by
  rw [List.getElem?_map] at h
  cases e : xs[i]? with
  | none =>
    rw [e] at h
    cases h
  | some z =>
    rw [e] at h
    exact ⟨z, (Option.some.inj h).symm, rfl⟩
theorem map_get {xs : List Int} {i : Nat} {z : Int} (h : xs[i]? = some z) : (xs.map V.int)[i]? = some (V.int z) := by
  rw [List.getElem?_map, h]
  rfl
theorem len_le {n : Nat} (h : n ≤ 1000) : n < sizeLine := small1000 h

/-- at p stands a list of n integers, none beyond s -/
def IsPt (H : Hp) (p : Addr) (n s : Int) (zs : List Int) : Prop := H p = some (.lst (zs.map V.int)) ∧ (zs.length : Int) = n ∧ Bd s zs
theorem IsPt.fr {H H' : Hp} {p st sc : Addr} {n s : Int} {zs : List Int} (h : IsPt H p n s zs) (hS : StAt H st sc) (f : Fr st H H') : IsPt H' p n s zs := ⟨f _ _ h.1 (st_ne hS h.1), h.2.1, h.2.2⟩
theorem IsPt.wide {H : Hp} {p : Addr} {n s t : Int} {zs : List Int} (h : IsPt H p n s zs) (e : s ≤ t) : IsPt H p n t zs := ⟨h.1, h.2.1, fun z hz => by have := h.2.2 z hz; omega⟩
theorem IsPt.get {H : Hp} {p : Addr} {n s : Int} {zs : List Int} (h : IsPt H p n s zs) {i : Nat} (hi : (i : Int) < n) : ∃ z, zs[i]? = some z ∧ -s ≤ z ∧ z ≤ s := by
  have hl : i < zs.length := by have := h.2.1; omega
  exact ⟨zs[i], List.getElem?_eq_getElem hl, h.2.2.at (List.getElem?_eq_getElem hl)⟩
theorem dist_small {H : Hp} {p r : Addr} {n : Int} {xs ys : List Int} (h1 : IsPt H p n 30000 xs) (h2 : IsPt H r n 30000 ys) (hn : n ≤ 5) : 0 ≤ dist xs ys ∧ dist xs ys < 100000000000 := by
  refine ⟨dist_nn _ _, ?_⟩
  have a := dist_le h1.2.2 h2.2.2
  have b := h1.2.1
  have e : (30000 : Int) * 30000 = 900000000 := by decide
  rw [e] at a
  have : (xs.length : Int) * (4 * 900000000) ≤ 5 * (4 * 900000000) := by omega
  omega
theorem pick4 {a b c d k : Int} (h0 : 0 ≤ k) (h1 : k < 4) : ∃ v, atI [V.int a, V.int b, V.int c, V.int d] k = some (.int v) ∧ (v = a ∨ v = b ∨ v = c ∨ v = d) := by
  have : k = 0 ∨ k = 1 ∨ k = 2 ∨ k = 3 := by omega
  rcases this with rfl | rfl | rfl | rfl
  · exact ⟨a, at_of (j := 0) rfl rfl, .inl rfl⟩
  · exact ⟨b, at_of (j := 1) rfl rfl, .inr (.inl rfl)⟩
  · exact ⟨c, at_of (j := 2) rfl rfl, .inr (.inr (.inl rfl))⟩
  · exact ⟨d, at_of (j := 3) rfl rfl, .inr (.inr (.inr rfl))⟩
theorem st_made {H : Hp} {sc st : Addr} {ns : List Int} (h1 : H sc = none) (h2 : upd H sc (.lst (ns.map V.int)) st = none) (hl : ns.length ≤ 63) : StAt (upd (upd H sc (.lst (ns.map V.int))) st (.lst [.ref sc, .int 0, .int 0])) st sc := by
  have ne : sc ≠ st := fun e => by
    rw [← e, upd_same] at h2
    cases h2
  exact ⟨ns, 0, 0, upd_same, by rw [upd_ne ne, upd_same], by decide, by decide, hl⟩

theorem same_fr {st : Addr} {H H' : Hp} (h : Same H H') : Fr st H H' := fun b o e _ => h b o e
theorem same_new {H : Hp} {p : Addr} {o : HO} (h : H p = none) : Same H (upd H p o) := fun b u e => by
  rw [upd_ne (ne_of_none e h)]
  exact e
theorem same_set {H H' : Hp} {p : Addr} {o : HO} (f : Same H H') (h : H p = none) : Same H (upd H' p o) := fun b u e => by
  rw [upd_ne (ne_of_none e h)]
  exact f b u e
theorem StAt.same {H H' : Hp} {st sc : Addr} (hS : StAt H st sc) (f : Same H H') : StAt H' st sc := by
  obtain ⟨ns, k, x, h1, h2, k0, x0, hl⟩ := hS
  exact ⟨ns, k, x, f _ _ h1, f _ _ h2, k0, x0, hl⟩
/-- the terms of a sum over two lists -/
def ter (f : Int → Int → Int) (xs ys : List Int) : List Int := List.zipWith f xs ys
theorem ter_get {f : Int → Int → Int} {xs ys : List Int} {i : Nat} {x y : Int} (hx : xs[i]? = some x) (hy : ys[i]? = some y) : (ter f xs ys)[i]? = some (f x y) := by
  unfold ter
  rw [List.getElem?_zipWith, hx, hy]
theorem ter_len {f : Int → Int → Int} {xs ys : List Int} (h : xs.length = ys.length) : (ter f xs ys).length = xs.length := by
  unfold ter
  rw [List.length_zipWith]
  omega
def fMul (x y : Int) : Int := x * y
def fSq (x y : Int) : Int := (x - y) * (x - y)
def fNe (x y : Int) : Int := if x = y then 0 else 1

mutual
/-- v is the datum d, all of whose objects stand away from N -/
inductive Dt (N : List Addr) (H : Hp) : V → PyData → Prop
  | non : Dt N H .non .none
  | bl (b : Bool) : Dt N H (.bl b) (.bool b)
  | int (i : Int) : Dt N H (.int i) (.int i)
  | str (x : Str) : Dt N H (.str x) (.str x)
  | lst {a : Addr} {xs : List V} {ds : List PyData} : a ∉ N → H a = some (.lst xs) → Dts N H xs ds → Dt N H (.ref a) (.list ds)
  | tup {a : Addr} {xs : List V} {ds : List PyData} : a ∉ N → H a = some (.tup xs) → Dts N H xs ds → Dt N H (.ref a) (.tuple ds)
inductive Dts (N : List Addr) (H : Hp) : List V → List PyData → Prop
  | nil : Dts N H [] []
  | cons {v : V} {vs : List V} {d : PyData} {ds : List PyData} : Dt N H v d → Dts N H vs ds → Dts N H (v :: vs) (d :: ds)
end
mutual
theorem Dt.mono {N M : List Addr} {H H' : Hp} (f : ∀ a o, a ∉ N → H a = some o → a ∉ M ∧ H' a = some o) : ∀ {v : V} {d : PyData}, Dt N H v d → Dt M H' v d
  | _, _, .non => .non
  | _, _, .bl b => .bl b
  | _, _, .int i => .int i
  | _, _, .str x => .str x
  | _, _, .lst n h t => .lst (f _ _ n h).1 (f _ _ n h).2 (Dts.mono f t)
  | _, _, .tup n h t => .tup (f _ _ n h).1 (f _ _ n h).2 (Dts.mono f t)
theorem Dts.mono {N M : List Addr} {H H' : Hp} (f : ∀ a o, a ∉ N → H a = some o → a ∉ M ∧ H' a = some o) : ∀ {vs : List V} {ds : List PyData}, Dts N H vs ds → Dts M H' vs ds
  | _, _, .nil => .nil
  | _, _, .cons x t => .cons (Dt.mono f x) (Dts.mono f t)
end
mutual
theorem Dt.dp {K : PySem.W.Frag} {N : List Addr} {H : Hp} : ∀ {v : V} {d : PyData}, Dt N H v d → Dp K H v d
  | _, _, .non => .non
  | _, _, .bl b => .bl b
  | _, _, .int i => .int i
  | _, _, .str x => .str x
  | _, _, .lst _ h t => .lst (SqL.of h) (Dts.dp t)
  | _, _, .tup _ h t => .tup (SqT.of h) (Dts.dp t)
theorem Dts.dp {K : PySem.W.Frag} {N : List Addr} {H : Hp} : ∀ {vs : List V} {ds : List PyData}, Dts N H vs ds → DpAll K H vs ds
  | _, _, .nil => .nil
  | _, _, .cons x t => .cons (Dt.dp x) (Dts.dp t)
end
theorem Dt.same {N : List Addr} {H H' : Hp} {v : V} {d : PyData} (f : Same H H') (h : Dt N H v d) : Dt N H' v d := h.mono fun a o n e => ⟨n, f a o e⟩
theorem Dts.same {N : List Addr} {H H' : Hp} {v : List V} {d : List PyData} (f : Same H H') (h : Dts N H v d) : Dts N H' v d := h.mono fun a o n e => ⟨n, f a o e⟩
theorem Dt.fr {N : List Addr} {H H' : Hp} {st : Addr} {v : V} {d : PyData} (f : Fr st H H') (m : st ∈ N) (h : Dt N H v d) : Dt N H' v d := h.mono fun a o n e => ⟨n, f a o e fun z => by rw [z] at n; exact n m⟩
theorem Dts.fr {N : List Addr} {H H' : Hp} {st : Addr} {v : List V} {d : List PyData} (f : Fr st H H') (m : st ∈ N) (h : Dts N H v d) : Dts N H' v d := h.mono fun a o n e => ⟨n, f a o e fun z => by rw [z] at n; exact n m⟩
theorem Dt.upd {N : List Addr} {H : Hp} {p : Addr} {o : HO} {v : V} {d : PyData} (m : p ∈ N) (h : Dt N H v d) : Dt N (upd H p o) v d := h.mono fun a u n e => ⟨n, by rw [upd_ne fun z => by rw [z] at n; exact n m]; exact e⟩
theorem Dts.upd {N : List Addr} {H : Hp} {p : Addr} {o : HO} {v : List V} {d : List PyData} (m : p ∈ N) (h : Dts N H v d) : Dts N (upd H p o) v d := h.mono fun a u n e => ⟨n, by rw [upd_ne fun z => by rw [z] at n; exact n m]; exact e⟩
theorem Dt.new {N : List Addr} {H : Hp} {p : Addr} {o : HO} {v : V} {d : PyData} (m : H p = none) (h : Dt N H v d) : Dt N (L2.upd H p o) v d := h.same (same_new m)
theorem Dts.new {N : List Addr} {H : Hp} {p : Addr} {o : HO} {v : List V} {d : List PyData} (m : H p = none) (h : Dts N H v d) : Dts N (L2.upd H p o) v d := h.same (same_new m)
theorem Dt.away {N : List Addr} {H : Hp} {p : Addr} {v : V} {d : PyData} (m : H p = none) (h : Dt N H v d) : Dt (p :: N) H v d := h.mono fun a o n e => ⟨fun z => by
  rcases List.mem_cons.mp z with y | y
  · rw [y, m] at e; cases e
  · exact n y, e⟩
theorem Dts.away {N : List Addr} {H : Hp} {p : Addr} {v : List V} {d : List PyData} (m : H p = none) (h : Dts N H v d) : Dts (p :: N) H v d := h.mono fun a o n e => ⟨fun z => by
  rcases List.mem_cons.mp z with y | y
  · rw [y, m] at e; cases e
  · exact n y, e⟩
theorem Dt.weak {N : List Addr} {H : Hp} {p : Addr} {v : V} {d : PyData} (h : Dt (p :: N) H v d) : Dt N H v d := h.mono fun a o n e => ⟨fun z => n (List.mem_cons_of_mem _ z), e⟩
theorem Dts.weak {N : List Addr} {H : Hp} {p : Addr} {v : List V} {d : List PyData} (h : Dts (p :: N) H v d) : Dts N H v d := h.mono fun a o n e => ⟨fun z => n (List.mem_cons_of_mem _ z), e⟩
theorem Dts.length {N : List Addr} {H : Hp} : ∀ {vs : List V} {ds : List PyData}, Dts N H vs ds → vs.length = ds.length
  | _, _, .nil => rfl
  | _, _, .cons _ t => congrArg Nat.succ t.length
theorem Dts.get {N : List Addr} {H : Hp} : ∀ {vs : List V} {ds : List PyData} {i : Nat} {v : V}, Dts N H vs ds → vs[i]? = some v → ∃ d, ds[i]? = some d ∧ Dt N H v d
  | _, _, _, _, .nil, h => by simp at h
  | _, _, 0, _, .cons x _, h => by
    have e := Option.some.inj h
    subst e
    exact ⟨_, rfl, x⟩
  | _, _, i + 1, _, .cons _ t, h => t.get (i := i) h
theorem Dts.at {N : List Addr} {H : Hp} : ∀ {vs : List V} {ds : List PyData} {i : Nat} {d : PyData}, Dts N H vs ds → ds[i]? = some d → ∃ v, vs[i]? = some v ∧ Dt N H v d
  | _, _, _, _, .nil, h => by simp at h
  | _, _, 0, _, .cons x _, h => by
    have e := Option.some.inj h
    subst e
    exact ⟨_, rfl, x⟩
  | _, _, i + 1, _, .cons _ t, h => t.at (i := i) h
theorem Dts.app {N : List Addr} {H : Hp} : ∀ {vs ws : List V} {ds es : List PyData}, Dts N H vs ds → Dts N H ws es → Dts N H (vs ++ ws) (ds ++ es)
  | _, _, _, _, .nil, h => h
  | _, _, _, _, .cons x t, h => .cons x (t.app h)
theorem Dts.snoc {N : List Addr} {H : Hp} {vs : List V} {ds : List PyData} {v : V} {d : PyData} (h : Dts N H vs ds) (x : Dt N H v d) : Dts N H (vs ++ [v]) (ds ++ [d]) := h.app (.cons x .nil)
theorem Dts.ints {N : List Addr} {H : Hp} : ∀ xs : List Int, Dts N H (xs.map V.int) (xs.map PyData.int)
  | [] => .nil
  | x :: r => .cons (.int x) (Dts.ints r)
theorem Dt.isL {N : List Addr} {H : Hp} {v : V} {ds : List PyData} (h : Dt N H v (.list ds)) : ∃ p vs, v = .ref p ∧ p ∉ N ∧ H p = some (.lst vs) ∧ Dts N H vs ds := by
  cases h with
  | lst n e t => exact ⟨_, _, rfl, n, e, t⟩
theorem Dt.isT {N : List Addr} {H : Hp} {v : V} {ds : List PyData} (h : Dt N H v (.tuple ds)) : ∃ p vs, v = .ref p ∧ p ∉ N ∧ H p = some (.tup vs) ∧ Dts N H vs ds := by
  cases h with
  | tup n e t => exact ⟨_, _, rfl, n, e, t⟩
theorem Dt.isS {N : List Addr} {H : Hp} {v : V} {x : Str} (h : Dt N H v (.str x)) : v = .str x := by cases h; rfl
theorem Dt.isI {N : List Addr} {H : Hp} {v : V} {x : Int} (h : Dt N H v (.int x)) : v = .int x := by cases h; rfl
theorem Dts.two {N : List Addr} {H : Hp} {vs : List V} {d e : PyData} (h : Dts N H vs [d, e]) : ∃ v w, vs = [v, w] ∧ Dt N H v d ∧ Dt N H w e := by
  cases h with
  | cons x t => cases t with
    | cons y t => cases t; exact ⟨_, _, rfl, x, y⟩
theorem Dts.three {N : List Addr} {H : Hp} {vs : List V} {d e f : PyData} (h : Dts N H vs [d, e, f]) : ∃ v w x, vs = [v, w, x] ∧ Dt N H v d ∧ Dt N H w e ∧ Dt N H x f := by
  cases h with
  | cons x t => cases t with
    | cons y t => cases t with
      | cons z t => cases t; exact ⟨_, _, _, rfl, x, y, z⟩
theorem Dts.isInts {N : List Addr} {H : Hp} : ∀ {xs : List Int} {vs : List V}, Dts N H vs (xs.map PyData.int) → vs = xs.map V.int
  | [], _, .nil => rfl
  | x :: r, _, .cons h t => by
    rw [h.isI, Dts.isInts t]
    rfl
/-- a pair of a text and something -/
theorem Dt.isP {N : List Addr} {H : Hp} {v : V} {x : Str} {d : PyData} (h : Dt N H v (.tuple [.str x, d])) : ∃ p w, v = .ref p ∧ p ∉ N ∧ H p = some (.tup [.str x, w]) ∧ Dt N H w d := by
  obtain ⟨p, vs, e, n, hp, t⟩ := h.isT
  obtain ⟨v', w, e2, h1, h2⟩ := t.two
  rw [h1.isS] at e2
  subst e2
  exact ⟨p, w, e, n, hp, h2⟩
/-- a list under work at D holds these data; its parts stand away from D and N -/
def Bl (N : List Addr) (D : Addr) (H : Hp) (ds : List PyData) : Prop := ∃ vs, H D = some (.lst vs) ∧ Dts (D :: N) H vs ds
theorem Bl.nil {N : List Addr} {D : Addr} {H : Hp} : Bl N D (upd H D (.lst [])) [] := ⟨[], upd_same, .nil⟩
theorem Bl.fr {N : List Addr} {D st : Addr} {H H' : Hp} {ds : List PyData} (h : Bl N D H ds) (n : D ≠ st) (m : st ∈ N) (f : Fr st H H') : Bl N D H' ds := by
  obtain ⟨vs, e, t⟩ := h
  exact ⟨vs, f _ _ e n, t.fr f (List.mem_cons_of_mem _ m)⟩
theorem Bl.same {N : List Addr} {D : Addr} {H H' : Hp} {ds : List PyData} (h : Bl N D H ds) (f : Same H H') : Bl N D H' ds := by
  obtain ⟨vs, e, t⟩ := h
  exact ⟨vs, f _ _ e, t.same f⟩
theorem Bl.push {N : List Addr} {D : Addr} {H : Hp} {ds : List PyData} {vs : List V} {v : V} {d : PyData} (e : H D = some (.lst vs)) (t : Dts (D :: N) H vs ds) (x : Dt (D :: N) H v d) : Bl N D (upd H D (.lst (vs ++ [v]))) (ds ++ [d]) :=
  ⟨_, upd_same, (t.snoc x).upd (List.mem_cons_self ..)⟩
theorem Bl.done {N : List Addr} {D : Addr} {H : Hp} {ds : List PyData} (h : Bl N D H ds) (n : D ∉ N) : Dt N H (.ref D) (.list ds) := by
  obtain ⟨vs, e, t⟩ := h
  exact .lst n e t.weak
theorem not_in1 {a b : Addr} (h : a ≠ b) : a ∉ [b] := fun z => h (List.mem_singleton.mp z)
theorem not_in2 {a b c : Addr} (h : a ≠ b) (g : a ≠ c) : a ∉ [b, c] := fun z => by
  rcases List.mem_cons.mp z with y | y
  · exact h y
  · exact g (List.mem_singleton.mp y)
theorem in1 {a : Addr} : a ∈ [a] := List.mem_cons_self ..
theorem in2 {a b : Addr} : b ∈ [a, b] := List.mem_cons_of_mem _ (List.mem_cons_self ..)
/-- the list at D grows by what was new -/
theorem fr_app {st : Addr} {H0 H : Hp} {D : Addr} {o : HO} (f : Fr st H0 H) (h : H0 D = none) : Fr st H0 (upd H D o) := f.set h

theorem pickS {xs : List Str} {d : Int} (h0 : 0 ≤ d) (h1 : d < xs.length) : ∃ z, atI (xs.map V.str) d = some (.str z) ∧ z ∈ xs := by
  have hj : d.toNat < xs.length := by omega
  refine ⟨xs[d.toNat], at_of (j := d.toNat) (by omega) ?_, List.getElem_mem hj⟩
  rw [List.getElem?_map, List.getElem?_eq_getElem hj]
  rfl
def WIDE3 : List Str := ["bit", "small", "wide"]
def MEAS3 : List Str := ["square", "dot", "bits"]
def KIND3 : List Str := ["integer", "text", "flag"]
def NAME4 : List Str := ["a", "b", "note", "_x"]
def fdD (f : Str × Str) : PyData := .tuple [.str f.1, .str f.2]
structure FieldsOk (fs : List (Str × Str)) : Prop where
  len : fs.length ≤ 3
  names : fs.map (·.1) = NAME4.take fs.length
  kinds : ∀ f ∈ fs, f.2 ∈ KIND3
theorem FieldsOk.snoc {fs : List (Str × Str)} {n k : Str} (h1 : fs.length < 3) (h2 : fs.map (·.1) = NAME4.take fs.length) (h3 : ∀ f ∈ fs, f.2 ∈ KIND3) (hn : NAME4[fs.length]? = some n) (hk : k ∈ KIND3) : FieldsOk (fs ++ [(n, k)]) := by
  refine ⟨by simp; omega, ?_, fun f hf => ?_⟩
  · rw [List.map_append, h2, List.length_append, List.length_singleton, List.take_add_one, hn]
    rfl
  · rcases List.mem_append.mp hf with h | h
    · exact h3 f h
    · rw [List.mem_singleton] at h
      subst h
      exact hk
theorem wide3 {w : Str} (h : w ∈ WIDE3) : ∃ (j : Nat) (lo hi : Int), [V.str "bit", V.str "small", V.str "wide"][j]? = some (.str w) ∧ eqV (.str w) (.str w) = true ∧ (∀ (m : Nat) (z' : V), m < j → [V.str "bit", V.str "small", V.str "wide"][m]? = some z' → eqV z' (.str w) = false)
    ∧ [V.int 0, V.int (-128), V.int (-32768)][j]? = some (.int lo) ∧ [V.int 1, V.int 127, V.int 32767][j]? = some (.int hi) ∧ -32768 ≤ lo ∧ lo ≤ 0 ∧ 1 ≤ hi ∧ hi ≤ 32767 := by
  unfold WIDE3 at h
  simp only [List.mem_cons, List.not_mem_nil, or_false] at h
  rcases h with rfl | rfl | rfl
  · exact ⟨0, _, _, rfl, by decide +kernel, fun m z' hm _ => absurd hm (Nat.not_lt_zero _), rfl, rfl, by decide, by decide, by decide, by decide⟩
  · refine ⟨1, _, _, rfl, by decide +kernel, fun m z' hm e => ?_, rfl, rfl, by decide, by decide, by decide, by decide⟩
    have : m = 0 := by omega
    subst this
    cases Option.some.inj e
    decide +kernel
  · refine ⟨2, _, _, rfl, by decide +kernel, fun m z' hm e => ?_, rfl, rfl, by decide, by decide, by decide, by decide⟩
    have : m = 0 ∨ m = 1 := by omega
    rcases this with rfl | rfl
    · cases Option.some.inj e
      decide +kernel
    · cases Option.some.inj e
      decide +kernel
/-- values of a field -/
def prD (p : Str × PyData) : PyData := .tuple [.str p.1, p.2]
def IsVal (d : PyData) : Prop := (∃ i, d = .int i) ∨ (∃ z, d = .str z ∧ PyData.strOk z = true ∧ z.length ≤ 8) ∨ ∃ b, d = .bool b
structure PairsOk (ps : List (Str × PyData)) : Prop where
  len : ps.length ≤ 8
  names : ∀ p ∈ ps, PyData.strOk p.1 = true ∧ p.1.length ≤ 8
  vals : ∀ p ∈ ps, IsVal p.2
def wdD (w : Str × Int) : PyData := .tuple [.str w.1, .int w.2]
structure WordsOk (ws : List (Str × Int)) : Prop where
  len : ws.length ≤ 8
  words : ∀ w ∈ ws, PyData.strOk w.1 = true ∧ w.1.length ≤ 8

theorem pi_tupB {X : Cx} {K : PySem.W.Frag} (hK : X.K = K) {tg l : Expr} {tl : TE} (hl : PE X l tl) : PI X tg l (iTup K tl) := by
  subst hK
  exact pi_tup hl
theorem pi_listB {X : Cx} {K : PySem.W.Frag} (hK : X.K = K) {tg l : Expr} {tl : TE} (hl : PE X l tl) : PI X tg l (iList K tl) := by
  subst hK
  exact pi_list hl
def rLenB (K : PySem.W.Frag) : List V → Hp → VK → Prop := fun xs H Q => ∃ p ys, xs = [.ref p] ∧ (SqL K H p ys ∨ SqT K H p ys) ∧ Q (.int ys.length) H
def rListB (K : PySem.W.Frag) : List V → Hp → VK → Prop := fun xs H Q => ∃ p ys, xs = [.ref p] ∧ (SqL K H p ys ∨ SqT K H p ys) ∧ ∀ l, H l = none → Q (.ref l) (upd H l (.lst ys))
def rTupleB (K : PySem.W.Frag) : List V → Hp → VK → Prop := fun xs H Q => ∃ p ys, xs = [.ref p] ∧ ((SqL K H p ys ∧ ∀ l, H l = none → Q (.ref l) (upd H l (.tup ys))) ∨ (SqT K H p ys ∧ Q (.ref p) H))

/-- a list grows by a tuple's items -/
def rExtT : V → List V → Hp → VK → Prop := fun x vs H Q => ∃ l b xs zs, x = .ref l ∧ vs = [.ref b] ∧ H l = some (.lst xs) ∧ H b = some (.tup zs) ∧ xs.length + zs.length ≤ sizeLine ∧ Q .non (upd H l (.lst (xs ++ zs)))
open PySem.AutoSeq1 in
theorem ext_tup (l b : Addr) (xs ys : Array Value) (n m : Nat) (dd : Option Addr) (sl : Array (Option Value)) (k0 : ¬ (!xs.isEmpty && Builtin.List.listTooLong (xs.size + ys.size)) = true) (k1 : xs.size ≤ sizeLine) (k2 : xs.size + ys.size ≤ sizeLine + 1) :
    Meets (Builtin.«list.extend» ⟨[.ref l, .ref b], []⟩) (fun _ R s => (s.heap.get? b = some ⟨.type "tuple", dd, .seq ys m, sl⟩ ∧ s.heap.get? l = some ⟨.type "list", none, .seq xs n, #[]⟩) ∧
      R (.ok (.ret Value.none)) { s with heap := s.heap.update l (Obj.mapSeq fun z => z ++ ys), toks := s.toks }) :=
  .of_wp fun prog w A R s ⟨⟨gb, gl⟩, q⟩ => by
    obtain ⟨hp, ge, dr, tk, os⟩ := s
    have s1 := PySem.AutoSeq1.idx_int
    have s2 := PySem.AutoSeq1.sub_list_list
    have s3 := PySem.AutoSeq1.sub_tuple_list
    have s4 := PySem.AutoSeq1.sub_tuple_tuple
    have s5 := PySem.AutoSeq1.sub_list_tuple
    have tot : (xs ++ ys).size ≤ sizeLine + 1 := by simpa [Array.size_append] using k2
    wp_walk using (wpAny_updateSeq gl rfl (hz := k1) (_hz' := tot)), wpAny_loadPart' gl, wpAny_loadPart' gb
    exact ⟨_, rfl, q⟩
theorem mt_extendT {X : Cx} : MtM X "list.extend" rExtT := by
  intro pins s σ H x vs v us Q I rx rv g
  obtain ⟨l, b, xs, zs, rfl, rfl, gl, gb, gz, q⟩ := g
  cases rx
  obtain ⟨u, rfl, ru⟩ := rv.one
  cases ru
  obtain ⟨_, its, n, r, _, e⟩ := I.lstM gl
  obtain ⟨_, js, r2, ⟨oc, od, ot, os⟩, e2, e3, m, e4⟩ := I.hok b _ gb
  dsimp only at e3 e4
  subst e3 e4
  have k1 := r.length
  have k2 := r2.length
  have fits : its.toArray.size + js.toArray.size ≤ sizeLine := by
    rw [List.size_toArray, List.size_toArray]
    omega
  have open_ : ¬ (!its.toArray.isEmpty && Builtin.List.listTooLong (its.toArray.size + js.toArray.size)) = true := by
    rw [notLongL fits, Bool.and_false]
    decide
  refine call_meets F.slot_list_extend ⟨_, e, rfl⟩ F.entry_list_extend (F.args_list_extend_2 _ _) (ext_tup l b its.toArray js.toArray n m _ _ open_ (by omega) (by omega)) ⟨⟨e2, e⟩, .non, _, I.lset (its' := its ++ js) gl e (by simp) (r.append r2) (by rw [List.length_append]; omega), rfl, q⟩

theorem st_lst {H : Hp} {st sc : Addr} (hS : StAt H st sc) : ∃ xs, H st = some (.lst xs) := by
  obtain ⟨ns, k, x, h, _⟩ := hS
  exact ⟨_, h⟩
theorem cut_mid (a b c : List V) {i j : Int} (hi : i = (a.length : Int)) (hj : j = ((a.length + b.length : Nat) : Int)) : cutV (a ++ b ++ c) (some i) (some j) = b := by
  subst hi hj
  unfold cutV
  have l1 : a.length ≤ (a ++ b ++ c).length := by simp
  have l2 : a.length + b.length ≤ (a ++ b ++ c).length := by simp
  rw [HT.sIx_nat, HT.sIx_nat, Nat.min_eq_left l1, Nat.min_eq_left l2, List.append_assoc, List.drop_left, show a.length + b.length - a.length = b.length by omega]
  simp
theorem mid_get {a b c : List Int} {j : Nat} {v : Int} (h : b[j]? = some v) : (a ++ b ++ c)[a.length + j]? = some v := by
  have hj := (List.getElem?_eq_some_iff.mp h).1
  rw [List.append_assoc, List.getElem?_append_right (by omega), show a.length + j - a.length = j by omega, List.getElem?_append_left hj]
  exact h
theorem dp_ints {K : PySem.W.Frag} {H : Hp} : ∀ xs : List Int, DpAll K H (xs.map V.int) (xs.map PyData.int)
  | [] => .nil
  | x :: r => .cons (.int x) (dp_ints r)
theorem eqv_ints (xs : List Int) : PyData.eqv (.list (xs.map PyData.int)) (.list (xs.map PyData.int)) = true := SeqAt.eqv_refl _ (SeqAt.canLay_of_shaped (PySem.W.ke_shaped_ints xs))
theorem dpl {K : PySem.W.Frag} {H : Hp} {p : Addr} {xs : List Int} (h : H p = some (.lst (xs.map V.int))) : Dp K H (.ref p) (.list (xs.map PyData.int)) := .lst (SqL.of h) (dp_ints _)

def ff_Record (v0 v1 v2 v3 : V) : List (Str × V) := putF "words" v3 (putF "fields" v2 (putF "vector" v1 (putF "name" v0 [])))
theorem lk_Record_name {v0 v1 v2 v3 : V} : (ff_Record v0 v1 v2 v3).lookup ("name" : Str) = some v0 := by
  unfold ff_Record
  rw [lookup_putF, if_neg (by decide +kernel), lookup_putF, if_neg (by decide +kernel), lookup_putF, if_neg (by decide +kernel), lookup_putF, if_pos rfl]
theorem lk_Record_vector {v0 v1 v2 v3 : V} : (ff_Record v0 v1 v2 v3).lookup ("vector" : Str) = some v1 := by
  unfold ff_Record
  rw [lookup_putF, if_neg (by decide +kernel), lookup_putF, if_neg (by decide +kernel), lookup_putF, if_pos rfl]
theorem lk_Record_fields {v0 v1 v2 v3 : V} : (ff_Record v0 v1 v2 v3).lookup ("fields" : Str) = some v2 := by
  unfold ff_Record
  rw [lookup_putF, if_neg (by decide +kernel), lookup_putF, if_pos rfl]
theorem lk_Record_words {v0 v1 v2 v3 : V} : (ff_Record v0 v1 v2 v3).lookup ("words" : Str) = some v3 := by
  unfold ff_Record
  rw [lookup_putF, if_pos rfl]
theorem no_Record {v0 v1 v2 v3 : V} {m : Str} (h0 : ¬ m = "name" := by decide +kernel) (h1 : ¬ m = "vector" := by decide +kernel) (h2 : ¬ m = "fields" := by decide +kernel) (h3 : ¬ m = "words" := by decide +kernel) : (ff_Record v0 v1 v2 v3).lookup m = none := by
  unfold ff_Record
  rw [lookup_putF, if_neg h3, lookup_putF, if_neg h2, lookup_putF, if_neg h1, lookup_putF, if_neg h0]
  rfl
theorem putF_le {f : Str} {v : V} {fs : List (Str × V)} {n : Nat} (h : fs.length ≤ n) : (putF f v fs).length ≤ n + 1 := by
  induction fs generalizing n with
  | nil => show 1 ≤ n + 1; omega
  | cons x r ih =>
    obtain ⟨g, y⟩ := x
    show (if g = f then (g, v) :: r else (g, y) :: putF f v r).length ≤ n + 1
    rw [List.length_cons] at h
    by_cases e : g = f
    · rw [if_pos e, List.length_cons]; omega
    · rw [if_neg e, List.length_cons]
      have := ih (n := r.length) (Nat.le_refl _)
      omega
/-! what the top has made -/
structure Txt (K : PySem.W.Frag) (mg : Str → Option Value) where
  f_law_row : Addr
  d_law_row : FuncData
  F_law_row : Fun K "_law_row" "_law_row" s_law_row f_law_row d_law_row
  b_law_row : Binds K d_law_row ["script", "k"] []
  g_law_row : mg "_law_row" = some (.ref f_law_row)
  f_law_next : Addr
  d_law_next : FuncData
  F_law_next : Fun K "_law_next" "_law_next" s_law_next f_law_next d_law_next
  b_law_next : Binds K d_law_next ["state", "many"] []
  g_law_next : mg "_law_next" = some (.ref f_law_next)
  f_law_fields : Addr
  d_law_fields : FuncData
  F_law_fields : Fun K "_law_fields" "_law_fields" s_law_fields f_law_fields d_law_fields
  b_law_fields : Binds K d_law_fields ["state"] []
  g_law_fields : mg "_law_fields" = some (.ref f_law_fields)
  f_law_schema : Addr
  d_law_schema : FuncData
  F_law_schema : Fun K "_law_schema" "_law_schema" s_law_schema f_law_schema d_law_schema
  b_law_schema : Binds K d_law_schema ["state"] []
  g_law_schema : mg "_law_schema" = some (.ref f_law_schema)
  f_law_number : Addr
  d_law_number : FuncData
  F_law_number : Fun K "_law_number" "_law_number" s_law_number f_law_number d_law_number
  b_law_number : Binds K d_law_number ["state", "width"] []
  g_law_number : mg "_law_number" = some (.ref f_law_number)
  f_law_value : Addr
  d_law_value : FuncData
  F_law_value : Fun K "_law_value" "_law_value" s_law_value f_law_value d_law_value
  b_law_value : Binds K d_law_value ["state", "kind"] []
  g_law_value : mg "_law_value" = some (.ref f_law_value)
  f_law_pairs : Addr
  d_law_pairs : FuncData
  F_law_pairs : Fun K "_law_pairs" "_law_pairs" s_law_pairs f_law_pairs d_law_pairs
  b_law_pairs : Binds K d_law_pairs ["state", "fields"] []
  g_law_pairs : mg "_law_pairs" = some (.ref f_law_pairs)
  f_law_words : Addr
  d_law_words : FuncData
  F_law_words : Fun K "_law_words" "_law_words" s_law_words f_law_words d_law_words
  b_law_words : Binds K d_law_words ["state"] []
  g_law_words : mg "_law_words" = some (.ref f_law_words)
  f_law_name : Addr
  d_law_name : FuncData
  F_law_name : Fun K "_law_name" "_law_name" s_law_name f_law_name d_law_name
  b_law_name : Binds K d_law_name ["state"] []
  g_law_name : mg "_law_name" = some (.ref f_law_name)
  f_kind_of_value : Addr
  d_kind_of_value : FuncData
  F_kind_of_value : Fun K "kind_of_value" "kind_of_value" s_kind_of_value f_kind_of_value d_kind_of_value
  b_kind_of_value : Binds K d_kind_of_value ["worth"] []
  g_kind_of_value : mg "kind_of_value" = some (.ref f_kind_of_value)
  f_string_part : Addr
  d_string_part : FuncData
  F_string_part : Fun K "string_part" "string_part" s_string_part f_string_part d_string_part
  b_string_part : Binds K d_string_part ["text"] []
  g_string_part : mg "string_part" = some (.ref f_string_part)
  f_value_part : Addr
  d_value_part : FuncData
  F_value_part : Fun K "value_part" "value_part" s_value_part f_value_part d_value_part
  b_value_part : Binds K d_value_part ["worth"] []
  g_value_part : mg "value_part" = some (.ref f_value_part)
  f_Record___init__ : Addr
  d_Record___init__ : FuncData
  e_Record___init___fields : Addr
  et_Record___init___fields : ∀ H, SqT K H e_Record___init___fields []
  e_Record___init___words : Addr
  et_Record___init___words : ∀ H, SqT K H e_Record___init___words []
  F_Record___init__ : FunD K "__init__" "Record.__init__" (defArgs s_Record___init__) (defBody s_Record___init__) (defScope s_Record___init__) [] [("fields", .ref e_Record___init___fields), ("words", .ref e_Record___init___words)] f_Record___init__ d_Record___init__
  kb_Record___init__ : KBn K d_Record___init__ ["self", "name", "vector", "fields", "words"] 3 ["fields", "words"] (fun us ws => us ++ ws) (fun vs zs => vs ++ zs)
  ds_Record___init__ : List Value
  v_Record___init__ : Vals [.ref e_Record___init___fields, .ref e_Record___init___words] ds_Record___init__
  b_Record___init__ : Binds K d_Record___init__ ["self", "name", "vector", "fields", "words"] ds_Record___init__
  f_row_of : Addr
  d_row_of : FuncData
  F_row_of : Fun K "row_of" "row_of" s_row_of f_row_of d_row_of
  b_row_of : Binds K d_row_of ["number", "record"] []
  g_row_of : mg "row_of" = some (.ref f_row_of)
  f_law_string : Addr
  d_law_string : FuncData
  F_law_string : Fun K "_law_string" "_law_string" s_law_string f_law_string d_law_string
  b_law_string : Binds K d_law_string ["row", "at"] []
  g_law_string : mg "_law_string" = some (.ref f_law_string)
  f_law_codes : Addr
  d_law_codes : FuncData
  F_law_codes : Fun K "_law_codes" "_law_codes" s_law_codes f_law_codes d_law_codes
  b_law_codes : Binds K d_law_codes ["text"] []
  g_law_codes : mg "_law_codes" = some (.ref f_law_codes)
  f_law_size : Addr
  d_law_size : FuncData
  F_law_size : Fun K "_law_size" "_law_size" s_law_size f_law_size d_law_size
  b_law_size : Binds K d_law_size ["name", "vector", "pairs", "words"] []
  g_law_size : mg "_law_size" = some (.ref f_law_size)
  f_law_reads : Addr
  d_law_reads : FuncData
  F_law_reads : Fun K "_law_reads" "_law_reads" s_law_reads f_law_reads d_law_reads
  b_law_reads : Binds K d_law_reads ["row", "number", "name", "vector", "pairs", "words"] []
  g_law_reads : mg "_law_reads" = some (.ref f_law_reads)
  f_law : Addr
  d_law : FuncData
  F_law : Fun K "law" "law" s_law f_law d_law
  b_law : Binds K d_law ["script"] []
  g_law : mg "law" = some (.ref f_law)
  c_Record : Addr
  cl_Record : Cls K c_Record
  mc_Record : mg "Record" = some (.ref c_Record)
  n_Record_name : NoAttr K c_Record "name"
  n_Record_vector : NoAttr K c_Record "vector"
  n_Record_fields : NoAttr K c_Record "fields"
  n_Record_words : NoAttr K c_Record "words"
  mk_Record : Mk K c_Record f_Record___init__
  m_bool : mg "bool" = none
  m_int : mg "int" = none
  m_isinstance : mg "isinstance" = none
  m_len : mg "len" = none
  m_list : mg "list" = none
  m_max : mg "max" = none
  m_min : mg "min" = none
  m_ord : mg "ord" = none
  m_range : mg "range" = none
  m_str : mg "str" = none
  m_tuple : mg "tuple" = none
section
variable {P : Program} {w : World} {K : PySem.W.Frag} {mg : Str → Option Value} {base : Heap}

/-- all but instances is as it was -/
def Keep (H H' : Hp) : Prop := ∀ b o, H b = some o → (∀ C dx fs, o ≠ .ins C dx fs) → H' b = some o
theorem Keep.trans {H H1 H2 : Hp} (f : Keep H H1) (g : Keep H1 H2) : Keep H H2 := fun b o e n => g b o (f b o e n) n
theorem Keep.same {H H' : Hp} (f : Same H H') : Keep H H' := fun b o e _ => f b o e
theorem Keep.ins {H : Hp} {p C dx : Addr} {fs : List (Str × V)} {o : HO} (h : H p = some (.ins C dx fs)) : Keep H (upd H p o) := fun b u e n => by
  rw [upd_ne]
  · exact e
  · intro z
    rw [z, h] at e
    cases e
    exact n _ _ _ rfl
theorem Keep.seq {K : PySem.W.Frag} {H H' : Hp} {q : Addr} {xs : List V} (f : Keep H H') (h : SqL K H q xs) : SqL K H' q xs := by
  rcases h with (h | ⟨o, h⟩) | h
  · exact .inl (.inl (f _ _ h fun _ _ _ z => by cases z))
  · exact .inl (.inr ⟨o, f _ _ h fun _ _ _ z => by cases z⟩)
  · exact .inr h
theorem Keep.seqT {K : PySem.W.Frag} {H H' : Hp} {q : Addr} {xs : List V} (f : Keep H H') (h : SqT K H q xs) : SqT K H' q xs := by
  rcases h with (h | ⟨o, h⟩) | h
  · exact .inl (.inl (f _ _ h fun _ _ _ z => by cases z))
  · exact .inl (.inr ⟨o, f _ _ h fun _ _ _ z => by cases z⟩)
  · exact .inr h
theorem _root_.L2.Same.seqT {K : PySem.W.Frag} {H H' : Hp} {q : Addr} {xs : List V} (f : Same H H') (h : SqT K H q xs) : SqT K H' q xs := (Keep.same f).seqT h
mutual
theorem Dt.keep {N : List Addr} {H H' : Hp} (f : Keep H H') : ∀ {v : V} {d : PyData}, Dt N H v d → Dt N H' v d
  | _, _, .non => .non
  | _, _, .bl b => .bl b
  | _, _, .int i => .int i
  | _, _, .str x => .str x
  | _, _, .lst n h t => .lst n (f _ _ h fun _ _ _ z => by cases z) (Dts.keep f t)
  | _, _, .tup n h t => .tup n (f _ _ h fun _ _ _ z => by cases z) (Dts.keep f t)
theorem Dts.keep {N : List Addr} {H H' : Hp} (f : Keep H H') : ∀ {vs : List V} {ds : List PyData}, Dts N H vs ds → Dts N H' vs ds
  | _, _, .nil => .nil
  | _, _, .cons x t => .cons (Dt.keep f x) (Dts.keep f t)
end
theorem Dts.refT {α : Type} {N : List Addr} {H : Hp} {f : α → PyData} (hf : ∀ a, ∃ es, f a = .tuple es) {l : List α} {vs : List V} {i : Nat} {v : V} (t : Dts N H vs (l.map f)) (h : vs[i]? = some v) : ∃ p ws, v = .ref p ∧ H p = some (.tup ws) := by
  obtain ⟨d, e, x⟩ := t.get h
  rw [List.getElem?_map] at e
  cases el : l[i]? with
  | none =>
    rw [el] at e
    cases e
  | some a =>
    rw [el] at e
    have e2 := Option.some.inj e
    obtain ⟨es, g⟩ := hf a
    rw [← e2, g] at x
    obtain ⟨p, ws, e3, _, e4, _⟩ := x.isT
    exact ⟨p, ws, e3, e4⟩

def codesZ (z : Str) : List Int := z.cps.toList.map fun (n : Nat) => (n : Int)
def strPart (z : Str) : List Int := (z.length : Int) :: codesZ z
theorem codesZ_len (z : Str) : (codesZ z).length = z.length := by simp [codesZ, Str.length]
theorem strPart_len (z : Str) : (strPart z).length = z.length + 1 := by simp [strPart, codesZ_len]
def valPart : PyData → List Int
  | .int i => [0, i]
  | .str z => 1 :: strPart z
  | .bool b => [2, if b then 1 else 0]
  | _ => []
theorem valPart_len {d : PyData} (h : IsVal d) : (valPart d).length ≤ 10 := by
  rcases h with ⟨i, rfl⟩ | ⟨z, rfl, _, l⟩ | ⟨b, rfl⟩
  · show 2 ≤ 10
    decide
  · show (strPart z).length + 1 ≤ 10
    rw [strPart_len]
    omega
  · show 2 ≤ 10
    decide
def prRow (p : Str × PyData) : List Int := strPart p.1 ++ valPart p.2
def wdRow (w : Str × Int) : List Int := strPart w.1 ++ [w.2]
theorem prRow_len {p : Str × PyData} (h : IsVal p.2) (g : p.1.length ≤ 8) : (prRow p).length ≤ 19 := by
  unfold prRow
  rw [List.length_append, strPart_len]
  have := valPart_len h
  omega
theorem wdRow_len {w : Str × Int} (g : w.1.length ≤ 8) : (wdRow w).length ≤ 10 := by
  unfold wdRow
  rw [List.length_append, strPart_len]
  simp
  omega
theorem flat_len {α : Type} {f : α → List Int} {c : Nat} : ∀ {l : List α}, (∀ x ∈ l, (f x).length ≤ c) → (l.flatMap f).length ≤ l.length * c
  | [], _ => by simp
  | x :: r, h => by
    have h1 := h x (List.mem_cons_self ..)
    have h2 := flat_len (l := r) fun y hy => h y (List.mem_cons_of_mem _ hy)
    rw [List.flatMap_cons, List.length_append, List.length_cons, Nat.succ_mul]
    omega
theorem flat_take {α : Type} {f : α → List Int} {l : List α} {i : Nat} {x : α} (h : l[i]? = some x) : (l.take (i + 1)).flatMap f = (l.take i).flatMap f ++ f x := by
  rw [List.take_add_one, h, List.flatMap_append]
  simp
def row0 (n : Int) (z : Str) (vec : List Int) (k : Nat) : List Int := [n] ++ strPart z ++ [(vec.length : Int)] ++ vec ++ [(k : Int)]
def row1 (n : Int) (z : Str) (vec : List Int) (ps : List (Str × PyData)) : List Int := row0 n z vec ps.length ++ ps.flatMap prRow
def rowZ (n : Int) (z : Str) (vec : List Int) (ps : List (Str × PyData)) (ws : List (Str × Int)) : List Int := row1 n z vec ps ++ [(ws.length : Int)] ++ ws.flatMap wdRow
/-- a record stands at r -/
def RecAt (N : List Addr) (C : Addr) (H : Hp) (r : Addr) (z : Str) (vec : List Int) (ps : List (Str × PyData)) (ws : List (Str × Int)) : Prop := r ∉ N ∧ ∃ dx tv tf tw, H r = some (.ins C dx (ff_Record (.str z) (.ref tv) (.ref tf) (.ref tw))) ∧
  tv ∉ N ∧ H tv = some (.tup (vec.map V.int)) ∧ Dt N H (.ref tf) (.tuple (ps.map prD)) ∧ Dt N H (.ref tw) (.tuple (ws.map wdD))
theorem RecAt.mono {N M : List Addr} {C : Addr} {H H' : Hp} {r : Addr} {z : Str} {vec : List Int} {ps : List (Str × PyData)} {ws : List (Str × Int)} (R : RecAt N C H r z vec ps ws) (f : ∀ a o, a ∉ N → H a = some o → a ∉ M ∧ H' a = some o) : RecAt M C H' r z vec ps ws := by
  obtain ⟨n, dx, tv, tf, tw, h1, n2, h2, h3, h4⟩ := R
  exact ⟨(f _ _ n h1).1, dx, tv, tf, tw, (f _ _ n h1).2, (f _ _ n2 h2).1, (f _ _ n2 h2).2, h3.mono f, h4.mono f⟩
theorem RecAt.same {N : List Addr} {C : Addr} {H H' : Hp} {r : Addr} {z : Str} {vec : List Int} {ps : List (Str × PyData)} {ws : List (Str × Int)} (R : RecAt N C H r z vec ps ws) (f : Same H H') : RecAt N C H' r z vec ps ws := R.mono fun a o n e => ⟨n, f a o e⟩
theorem RecAt.fr {N : List Addr} {C : Addr} {H H' : Hp} {st r : Addr} {z : Str} {vec : List Int} {ps : List (Str × PyData)} {ws : List (Str × Int)} (R : RecAt N C H r z vec ps ws) (f : Fr st H H') (m : st ∈ N) : RecAt N C H' r z vec ps ws := R.mono fun a o n e => ⟨n, f a o e fun z => by rw [z] at n; exact n m⟩
theorem RecAt.nil {N : List Addr} {C : Addr} {H : Hp} {r : Addr} {z : Str} {vec : List Int} {ps : List (Str × PyData)} {ws : List (Str × Int)} (R : RecAt N C H r z vec ps ws) : RecAt [] C H r z vec ps ws := R.mono fun a o n e => ⟨(fun z => by cases z), e⟩
theorem RecAt.away {N : List Addr} {C : Addr} {H : Hp} {k r : Addr} {z : Str} {vec : List Int} {ps : List (Str × PyData)} {ws : List (Str × Int)} (R : RecAt N C H r z vec ps ws) (h : H k = none) : RecAt (k :: N) C H r z vec ps ws := R.mono fun a o n e => ⟨fun z => by
  rcases List.mem_cons.mp z with y | y
  · rw [y, h] at e; cases e
  · exact n y, e⟩
theorem RecAt.upd {N : List Addr} {C : Addr} {H : Hp} {k r : Addr} {o : HO} {z : Str} {vec : List Int} {ps : List (Str × PyData)} {ws : List (Str × Int)} (R : RecAt N C H r z vec ps ws) (m : k ∈ N) : RecAt N C (L2.upd H k o) r z vec ps ws := R.mono fun a u n e => ⟨n, by rw [upd_ne fun z => by rw [z] at n; exact n m]; exact e⟩
theorem IsVal.any {d : PyData} (g : IsVal d) {N M : List Addr} {H : Hp} {v : V} (h : Dt N H v d) : Dt M H v d := by
  rcases g with ⟨i, rfl⟩ | ⟨z, rfl, _⟩ | ⟨b, rfl⟩
  · rw [h.isI]; exact .int i
  · rw [h.isS]; exact .str z
  · cases h; exact .bl b
theorem offL {α : Type} {st : Addr} {H : Hp} {xs : List V} {f : α → Str × PyData} (hs : H st = some (.lst xs)) : ∀ {l : List α} {vs : List V}, (∀ a ∈ l, IsVal (f a).2) → Dts [] H vs (l.map fun a => .tuple [.str (f a).1, (f a).2]) → Dts [st] H vs (l.map fun a => .tuple [.str (f a).1, (f a).2])
  | [], _, _, .nil => .nil
  | a :: r, _, g, .cons x t => by
    obtain ⟨p, w, rfl, _, e, y⟩ := x.isP
    refine .cons (.tup (not_in1 fun z => ?_) e (.cons (.str _) (.cons ((g a (List.mem_cons_self ..)).any y) .nil))) (offL hs (fun b hb => g b (List.mem_cons_of_mem _ hb)) t)
    rw [z, hs] at e
    cases e
theorem RecAt.off {st : Addr} {C : Addr} {H : Hp} {xs : List V} {r : Addr} {z : Str} {vec : List Int} {ps : List (Str × PyData)} {ws : List (Str × Int)} (R : RecAt [] C H r z vec ps ws) (hs : H st = some (.lst xs)) (g : ∀ p ∈ ps, IsVal p.2) : RecAt [st] C H r z vec ps ws := by
  obtain ⟨n, dx, tv, tf, tw, h1, n2, h2, h3, h4⟩ := R
  obtain ⟨p3, v3, e3, _, g3, t3⟩ := h3.isT
  obtain ⟨p4, v4, e4, _, g4, t4⟩ := h4.isT
  cases e3
  cases e4
  refine ⟨not_in1 fun z => ?_, dx, tv, tf, tw, h1, not_in1 fun z => ?_, h2, .tup (not_in1 fun z => ?_) g3 (offL (f := id) hs g t3), .tup (not_in1 fun z => ?_) g4 (offL (f := fun w : Str × Int => (w.1, .int w.2)) hs (fun a _ => .inl ⟨_, rfl⟩) t4)⟩
  · rw [z, hs] at h1; cases h1
  · rw [z, hs] at h2; cases h2
  · rw [z, hs] at g3; cases g3
  · rw [z, hs] at g4; cases g4
theorem Dt.nilN {N : List Addr} {H : Hp} {v : V} {d : PyData} (h : Dt N H v d) : Dt [] H v d := h.mono fun a o _ e => ⟨(fun z => by cases z), e⟩
theorem Dts.nilN {N : List Addr} {H : Hp} {v : List V} {d : List PyData} (h : Dts N H v d) : Dts [] H v d := h.mono fun a o _ e => ⟨(fun z => by cases z), e⟩
/-- flat values -/
theorem val_cases {N : List Addr} {H : Hp} {v : V} {d : PyData} (h : Dt N H v d) (g : IsVal d) : (∃ i, v = .int i ∧ d = .int i) ∨ (∃ z, v = .str z ∧ d = .str z ∧ z.length ≤ 8 ∧ PyData.strOk z = true) ∨ ∃ b, v = .bl b ∧ d = .bool b := by
  rcases g with ⟨i, rfl⟩ | ⟨z, rfl, k, l⟩ | ⟨b, rfl⟩
  · exact .inl ⟨i, h.isI, rfl⟩
  · exact .inr (.inl ⟨z, h.isS, rfl, l, k⟩)
  · cases h
    exact .inr (.inr ⟨b, rfl, rfl⟩)

def szV : PyData → Int
  | .str z => z.length
  | _ => 0
theorem prRow_size {p : Str × PyData} (h : IsVal p.2) : ((prRow p).length : Int) = 1 + p.1.length + 2 + szV p.2 := by
  obtain ⟨n, d⟩ := p
  unfold prRow
  rw [List.length_append, strPart_len]
  rcases h with ⟨i, rfl⟩ | ⟨z, rfl, _⟩ | ⟨b, rfl⟩
  · show ((n.length + 1 + 2 : Nat) : Int) = 1 + n.length + 2 + 0
    omega
  · show ((n.length + 1 + ((strPart z).length + 1) : Nat) : Int) = 1 + n.length + 2 + z.length
    rw [strPart_len]
    omega
  · show ((n.length + 1 + 2 : Nat) : Int) = 1 + n.length + 2 + 0
    omega
theorem wdRow_size {w : Str × Int} : ((wdRow w).length : Int) = w.1.length + 2 := by
  unfold wdRow
  rw [List.length_append, strPart_len, List.length_singleton]
  omega
theorem flat_take_len {α : Type} {f : α → List Int} {l : List α} {i : Nat} {x : α} (h : l[i]? = some x) : ((l.take (i + 1)).flatMap f).length = ((l.take i).flatMap f).length + (f x).length := by
  rw [flat_take h, List.length_append]
theorem flat_split {α : Type} {f : α → List Int} {l : List α} {i : Nat} {x : α} (h : l[i]? = some x) : l.flatMap f = (l.take i).flatMap f ++ f x ++ (l.drop (i + 1)).flatMap f := by
  have e : l = l.take i ++ x :: l.drop (i + 1) := by
    have hi := (List.getElem?_eq_some_iff.mp h).1
    have e2 : l[i] = x := (List.getElem?_eq_some_iff.mp h).2
    rw [← e2, List.getElem_cons_drop, List.take_append_drop]
  conv => lhs; rw [e]
  rw [List.flatMap_append, List.flatMap_cons, List.append_assoc]

def T3 (ws : List (Str × Int)) : List Int := [(ws.length : Int)] ++ ws.flatMap wdRow
def T2 (ps : List (Str × PyData)) (ws : List (Str × Int)) : List Int := [(ps.length : Int)] ++ ps.flatMap prRow ++ T3 ws
def T1 (vec : List Int) (ps : List (Str × PyData)) (ws : List (Str × Int)) : List Int := [(vec.length : Int)] ++ vec ++ T2 ps ws
theorem rowA (n : Int) (z : Str) (vec : List Int) (ps : List (Str × PyData)) (ws : List (Str × Int)) : rowZ n z vec ps ws = [n] ++ strPart z ++ T1 vec ps ws := by
  unfold rowZ row1 row0 T1 T2 T3
  simp only [List.append_assoc]
theorem rowB (n : Int) (z : Str) (vec : List Int) (ps : List (Str × PyData)) (ws : List (Str × Int)) : rowZ n z vec ps ws = ([n] ++ strPart z) ++ [(vec.length : Int)] ++ (vec ++ T2 ps ws) := by
  unfold rowZ row1 row0 T2 T3
  simp only [List.append_assoc]
theorem rowC (n : Int) (z : Str) (vec : List Int) (ps : List (Str × PyData)) (ws : List (Str × Int)) : rowZ n z vec ps ws = ([n] ++ strPart z ++ [(vec.length : Int)]) ++ vec ++ T2 ps ws := by
  unfold rowZ row1 row0 T2 T3
  simp only [List.append_assoc]
theorem rowD (n : Int) (z : Str) (vec : List Int) (ps : List (Str × PyData)) (ws : List (Str × Int)) : rowZ n z vec ps ws = ([n] ++ strPart z ++ [(vec.length : Int)] ++ vec) ++ [(ps.length : Int)] ++ (ps.flatMap prRow ++ T3 ws) := by
  unfold rowZ row1 row0 T3
  simp only [List.append_assoc]
theorem rowE (n : Int) (z : Str) (vec : List Int) (ps : List (Str × PyData)) (ws : List (Str × Int)) : rowZ n z vec ps ws = row1 n z vec ps ++ [(ws.length : Int)] ++ ws.flatMap wdRow := rfl
theorem rowP {n : Int} {z : Str} {vec : List Int} {ps : List (Str × PyData)} {ws : List (Str × Int)} {i : Nat} {p : Str × PyData} (h : ps[i]? = some p) : rowZ n z vec ps ws = (row0 n z vec ps.length ++ (ps.take i).flatMap prRow) ++ strPart p.1 ++ (valPart p.2 ++ ((ps.drop (i + 1)).flatMap prRow ++ T3 ws)) := by
  unfold rowZ row1 T3
  rw [flat_split h]
  show row0 n z vec ps.length ++ ((ps.take i).flatMap prRow ++ (strPart p.1 ++ valPart p.2) ++ (ps.drop (i + 1)).flatMap prRow) ++ _ ++ _ = _
  simp only [List.append_assoc]
theorem rowW {n : Int} {z : Str} {vec : List Int} {ps : List (Str × PyData)} {ws : List (Str × Int)} {i : Nat} {p : Str × Int} (h : ws[i]? = some p) : rowZ n z vec ps ws = (row1 n z vec ps ++ [(ws.length : Int)] ++ (ws.take i).flatMap wdRow) ++ strPart p.1 ++ ([p.2] ++ (ws.drop (i + 1)).flatMap wdRow) := by
  unfold rowZ
  rw [flat_split h]
  show row1 n z vec ps ++ [(ws.length : Int)] ++ ((ws.take i).flatMap wdRow ++ (strPart p.1 ++ [p.2]) ++ (ws.drop (i + 1)).flatMap wdRow) = _
  simp only [List.append_assoc]
/-- a number in the middle, by its place -/
theorem num_at {row a c : List Int} {x i : Int} (e : row = a ++ [x] ++ c) (hi : i = (a.length : Int)) : atI (row.map V.int) i = some (.int x) := by
  subst e
  exact at_of (j := a.length + 0) (by omega) (map_get (mid_get rfl))

def sp_law_row (T : Txt K mg) : Sp := fun vs H Q _ => ∃ (sc : Addr) (ns : List Int) (k : Int), vs = [.ref sc, .int k] ∧ (H sc = some (.lst (ns.map V.int))) ∧ (0 ≤ k) ∧ ∀ c : Int, 0 ≤ c → Q (.int c) H
set_option maxHeartbeats 4000000 in
theorem ok_law_row (T : Txt K mg) : FnOk P w K mg base CX0 1 T.f_law_row T.d_law_row ["script", "k"] (sp_law_row T) := by
  refine T.F_law_row.ok sc_law_row (fun vs H Q E h => ?_) (fun cdv A outer s H vs Q E hr h => ?_)
  · obtain ⟨sc, ns, k, rfl, _⟩ := h
    rfl
  · obtain ⟨sc, ns, k, rfl, hS, hk, q⟩ := h
    refine ⟨_, (pss_cons (ps_set (i := 2) sc_law_row.nd rfl (.inl rfl) pe_int) 
      (pss_cut (ps_if (pt_cmpR op_lt (pv 1) (pe_callB call_len_seq (by rfl) T.m_len PySem.boot_len (pa_cons (pv 0) pa_nil)) (nomark _)) (pss_one (ps_set (i := 2) sc_law_row.nd rfl (.inl rfl) (pe_ix ix_list (pv 0) (pv 1) (fun _ _ => rfl)))) pss_nil) 
      (pss_cut (ps_if (pt_cmpR op_lt (pv 2) pe_int (nomark _)) (pss_one (ps_set (i := 2) sc_law_row.nd rfl (.inl rfl) (pe_op op_sub (pe_op op_mul (pe_un un_neg pe_int) (pv 2)) pe_int))) pss_nil) 
      (pss_cut (ps_if (pt_cmpR op_lt (pv 2) (pe_op op_pow pe_int pe_int) (nomark _)) (pss_cons (ps_set (i := 3) sc_law_row.nd rfl (.inl rfl) (pe_op op_mod (pe_callTy call_int1 (by rfl) T.m_int (by decide +kernel) (pa_cons (pe_op op_add (pe_op op_add (pe_op op_mul (pv 2) pe_int) (pe_op op_mul (pv 1) pe_int)) pe_int) pa_nil)) pe_int)) 
      (pss_cons (ps_set (i := 4) sc_law_row.nd rfl (.inl rfl) (pe_op op_mod (pe_callTy call_int1 (by rfl) T.m_int (by decide +kernel) (pa_cons (pe_op op_add (pe_op op_add (pe_op op_add (pe_op op_mul (pv 3) pe_int) (pe_op op_mul (pv 2) pe_int)) (pv 1)) pe_int) pa_nil)) pe_int)) 
      (pss_cons (ps_set (i := 5) sc_law_row.nd rfl (.inl rfl) (pe_op op_mod (pe_callTy call_int1 (by rfl) T.m_int (by decide +kernel) (pa_cons (pe_op op_add (pe_op op_add (pe_op op_mul (pv 4) pe_int) (pe_op op_mul (pv 3) (pv 4))) pe_int) pa_nil)) pe_int)) 
      (pss_one (ps_set (i := 2) sc_law_row.nd rfl (.inl rfl) (pe_op op_add (pe_op op_add (pv 3) (pe_op op_mul (pv 4) pe_int)) (pe_op op_mul (pv 5) (pe_op op_pow pe_int pe_int)))))))) pss_nil) 
      (pss_one (ps_ret (pv 2))))))), ?_⟩
    -- if k < len(script): cell = script[k]
    refine ⟨fun σ' H' => H' = H ∧ ∃ c : Int, σ' = [some (.ref sc), some (.int k), some (.int c), none, none, none], ?_, ?_⟩
    · refine ⟨_, rfl, _, rfl, sc, _, rfl, .inl (SqL.of hS), _, _, rfl, rfl, _, rfl, ite2 (fun e => ?_) (fun e => ?_)⟩
      · have hl : k < ((ns.map V.int).length : Int) := of_decide_eq_true e
        rw [List.length_map] at hl
        obtain ⟨c, hc⟩ := item_map hk hl
        exact ⟨_, rfl, _, rfl, sc, _, k, _, rfl, rfl, SqL.of hS, hc, rfl, c, rfl⟩
      · exact ⟨rfl, 0, rfl⟩
    rintro σ' H' ⟨rfl, c, rfl⟩
    -- if cell < 0: cell = -2 * cell - 1
    refine ⟨fun σ' H2 => H2 = H' ∧ ∃ c : Int, 0 ≤ c ∧ σ' = [some (.ref sc), some (.int k), some (.int c), none, none, none], ?_, ?_⟩
    · refine ⟨_, rfl, _, _, rfl, rfl, _, rfl, ite2 (fun e => ?_) (fun e => ?_)⟩
      · have hc : c < 0 := of_decide_eq_true e
        refine ⟨2, rfl, _, rfl, _, _, rfl, rfl, .inl ⟨by decide, by decide⟩, _, _, rfl, rfl, rfl, _, ?_, rfl⟩
        omega
      · have hc : ¬ c < 0 := fun h => e (decide_eq_true h)
        exact ⟨rfl, c, by omega, rfl⟩
    rintro σ' H2 ⟨rfl, c, hc, rfl⟩
    -- if cell < 10 ** 9: ..
    refine ⟨fun σ' H' => H' = H2 ∧ ∃ (c : Int) (x y z : Option V), 0 ≤ c ∧ σ' = [some (.ref sc), some (.int k), some (.int c), x, y, z], ?_, ?_⟩
    · refine ⟨_, rfl, _, _, rfl, rfl, ⟨by decide, by decide, by decide⟩, _, _, rfl, rfl, _, rfl, ite2 (fun e => ?_) (fun e => ?_)⟩
      · have h9 : c < 10 ^ 9 := of_decide_eq_true e
        refine ⟨_, rfl, _, _, rfl, rfl, .inr ⟨by decide, by decide⟩, _, rfl, _, _, rfl, rfl, .inr ⟨by decide, by decide⟩, _, _, rfl, rfl, _, _, rfl, rfl, .inl ⟨_, rfl, ?_⟩⟩
        refine ⟨_, _, rfl, rfl, (by decide : (0 : Int) < 2147483647), ?_⟩
        dsimp only
        generalize ha : (c * 48271 + k * 69621 + 11) % 2147483647 = a
        have a0 : 0 ≤ a := by rw [← ha]; exact Int.emod_nonneg _ (by decide)
        have a1 : a < 2147483647 := by rw [← ha]; exact Int.emod_lt_of_pos _ (by decide)
        refine ⟨_, rfl, _, _, rfl, rfl, .inr ⟨by decide, by decide⟩, _, rfl, _, _, rfl, rfl, .inr ⟨by decide, by decide⟩, _, _, rfl, rfl, _, rfl, _, _, rfl, rfl, _, _, rfl, rfl, .inl ⟨_, rfl, ?_⟩⟩
        refine ⟨_, _, rfl, rfl, (by decide : (0 : Int) < 2147483629), ?_⟩
        dsimp only
        generalize hb : (a * 16807 + c * 7 + k + 5) % 2147483629 = b
        have b0 : 0 ≤ b := by rw [← hb]; exact Int.emod_nonneg _ (by decide)
        have b1 : b < 2147483629 := by rw [← hb]; exact Int.emod_lt_of_pos _ (by decide)
        refine ⟨_, rfl, _, _, rfl, rfl, .inr ⟨by decide, by decide⟩, _, rfl, _, rfl, _, _, rfl, rfl, .inl ⟨by omega, by omega⟩, _, _, rfl, rfl, _, _, rfl, rfl, .inl ⟨_, rfl, ?_⟩⟩
        refine ⟨_, _, rfl, rfl, (by decide : (0 : Int) < 2147483587), ?_⟩
        dsimp only
        generalize hd : (b * 39373 + a * b + 3) % 2147483587 = d
        have d0 : 0 ≤ d := by rw [← hd]; exact Int.emod_nonneg _ (by decide)
        refine ⟨_, rfl, _, rfl, _, _, rfl, rfl, .inr ⟨by decide, by decide⟩, _, _, rfl, rfl, _, rfl, _, _, rfl, rfl, ⟨by decide, by decide, by decide⟩, _, _, rfl, rfl, .inr ⟨by decide, by decide⟩, _, _, rfl, rfl, rfl, _, _, _, _, ?_, rfl⟩
        have e2 : (2147483647 : Int) ^ (2 : Int).toNat = 4611686014132420609 := by decide
        rw [e2]
        omega
      · exact ⟨rfl, c, _, _, _, hc, rfl⟩
    rintro σ' H' ⟨rfl, c, x, y, z, hc, rfl⟩
    exact ⟨_, rfl, q c hc⟩
def sp_law_next (T : Txt K mg) : Sp := fun vs H Q _ => ∃ (st sc : Addr) (m : Int), vs = [.ref st, .int m] ∧ (StAt H st sc) ∧ (0 < m) ∧ (m.natAbs < 2 ^ 200) ∧ ∀ (d : Int) (H' : Hp), 0 ≤ d → d < m → StAt H' st sc → Oth st H H' → Q (.int d) H'
set_option maxHeartbeats 4000000 in
theorem ok_law_next (T : Txt K mg) : FnOk P w K mg base CX0 2 T.f_law_next T.d_law_next ["state", "many"] (sp_law_next T) := by
  have G_law_row : FnOk P w K mg base CX0 1 T.f_law_row T.d_law_row ["script", "k"] (sp_law_row T) := ok_law_row T
  refine T.F_law_next.ok sc_law_next (fun vs H Q E h => ?_) (fun cdv A outer s H vs Q E hr h => ?_)
  · obtain ⟨st, sc, m, rfl, _⟩ := h
    rfl
  · obtain ⟨st, sc, m, rfl, hS, m0, m1, q⟩ := h
    refine ⟨_, (pss_cut (ps_if (pt_cmpR op_lt (pe_ix ix_list (pv 0) pe_int (fun _ _ => rfl)) (pv 1) (nomark _)) (pss_cons (ps_asg (pe_call G_law_row (hr.mono (by decide)) (by rfl) T.g_law_row T.F_law_row.kp T.b_law_row .nil pass0 (pa_cons (pe_ix ix_list (pv 0) pe_int (fun _ _ => rfl)) (pa_cons (pe_ix ix_list (pv 0) pe_int (fun _ _ => rfl)) pa_nil))) (pg_sub (pv 0) pe_int set_list)) 
      (pss_one (ps_asg (pe_op op_add (pe_ix ix_list (pv 0) pe_int (fun _ _ => rfl)) pe_int) (pg_sub (pv 0) pe_int set_list)))) pss_nil) 
      (pss_cons (ps_set (i := 2) sc_law_next.nd rfl (.inl rfl) (pe_op op_mod (pe_callTy call_int1 (by rfl) T.m_int (by decide +kernel) (pa_cons (pe_ix ix_list (pv 0) pe_int (fun _ _ => rfl)) pa_nil)) (pv 1))) 
      (pss_cons (ps_asg (pe_op op_fdivW (pe_ix ix_list (pv 0) pe_int (fun _ _ => rfl)) (pv 1)) (pg_sub (pv 0) pe_int set_list)) 
      (pss_one (ps_ret (pv 2)))))), ?_⟩
    -- if state[2] < many: ..
    refine ⟨fun σ' H' => Oth st H H' ∧ StAt H' st sc ∧ σ' = [some (.ref st), some (.int m), none], ?_, ?_⟩
    · obtain ⟨ns, k, x, h1, h2, k0, x0, hn⟩ := id hS
      have hne : sc ≠ st := fun e => by
        rw [e, h1] at h2
        have z := HO.lst.inj (Option.some.inj h2)
        cases ns with
        | nil => cases z
        | cons y r =>
          have z2 := (List.cons.inj z).1
          cases z2
      refine ⟨_, rfl, st, _, _, _, rfl, rfl, SqL.of h1, at_of (j := 2) rfl rfl, _, rfl, _, _, rfl, rfl, _, rfl, ite2 (fun e => ?_) (fun e => ?_)⟩
      · refine ⟨_, rfl, st, _, _, _, rfl, rfl, SqL.of h1, at_of (j := 0) rfl rfl, _, rfl, st, _, _, _, rfl, rfl, SqL.of h1, at_of (j := 1) rfl rfl, sc, ns, k, rfl, h2, k0, fun c c0 => ?_⟩
        refine ⟨_, rfl, st, _, _, 2, rfl, rfl, h1, rfl, ?_⟩
        refine ⟨_, rfl, st, _, _, _, rfl, rfl, SqL.of upd_same, at_of (j := 1) rfl rfl, _, _, rfl, rfl, _, rfl, st, _, _, 1, rfl, rfl, upd_same, rfl, ?_⟩
        refine ⟨fun b hb => ?_, ⟨ns, k + 1, c, upd_same, ?_, by omega, c0, hn⟩, rfl⟩
        · rw [upd_ne hb, upd_ne hb]
        · rw [upd_ne hne, upd_ne hne]
          exact h2
      · exact ⟨Oth.refl _ _, hS, rfl⟩
    rintro σ' H' ⟨hO, ⟨ns, k, x, h1, h2, k0, x0, hn⟩, rfl⟩
    have hne : sc ≠ st := fun e => by
      rw [e, h1] at h2
      have z := HO.lst.inj (Option.some.inj h2)
      cases ns with
      | nil => cases z
      | cons y r =>
        have z2 := (List.cons.inj z).1
        cases z2
    -- drawn = int(state[2]) % many
    refine ⟨_, rfl, st, _, _, _, rfl, rfl, SqL.of h1, at_of (j := 2) rfl rfl, .inl ⟨_, rfl, ?_⟩⟩
    refine ⟨_, rfl, _, _, rfl, rfl, m0, ?_⟩
    -- state[2] = state[2] // many
    refine ⟨_, rfl, st, _, _, _, rfl, rfl, SqL.of h1, at_of (j := 2) rfl rfl, _, rfl, _, _, rfl, rfl, wide_div m0 m1 (by decide) (by decide), ?_⟩
    refine ⟨_, rfl, st, _, _, 2, rfl, rfl, h1, rfl, ?_⟩
    refine ⟨_, rfl, q _ _ (Int.emod_nonneg _ (by omega)) (Int.emod_lt_of_pos _ m0) ⟨ns, k, x / m, upd_same, ?_, k0, Int.ediv_nonneg x0 (by omega), hn⟩ (hO.trans fun b hb => upd_ne hb)⟩
    rw [upd_ne hne]
    exact h2
def sp_law_fields (T : Txt K mg) : Sp := fun vs H Q _ => ∃ (st sc : Addr), vs = [.ref st] ∧ (StAt H st sc) ∧ ∀ (p : Addr) (fs : List (Str × Str)) (H' : Hp), FieldsOk fs → H p = none → Dt [st] H' (.ref p) (.list (fs.map fdD)) → StAt H' st sc → Fr st H H' → Q (.ref p) H'
set_option maxHeartbeats 4000000 in
theorem ok_law_fields (T : Txt K mg) : FnOk P w K mg base CX0 3 T.f_law_fields T.d_law_fields ["state"] (sp_law_fields T) := by
  have G_law_next : FnOk P w K mg base CX0 2 T.f_law_next T.d_law_next ["state", "many"] (sp_law_next T) := ok_law_next T
  refine T.F_law_fields.ok sc_law_fields (fun vs H Q E h => ?_) (fun cdv A outer s H vs Q E hr h => ?_)
  · obtain ⟨st, sc, rfl, _⟩ := h
    rfl
  · obtain ⟨st, sc, rfl, hS, q⟩ := h
    refine ⟨_, (pss_cons (ps_set (i := 1) sc_law_fields.nd rfl (.inl rfl) (pe_lst pa_nil)) 
      (pss_cons (ps_for PassesOwn.never rfl (pi_range1 rfl T.m_range (pa_cons (pe_call G_law_next (hr.mono (by decide)) (by rfl) T.g_law_next T.F_law_next.kp T.b_law_next .nil pass0 (pa_cons (pv 0) (pa_cons pe_int pa_nil))) pa_nil)) (pg_name (i := 2) sc_law_fields.nd rfl (.inl rfl)) (pss_cons (ps_set (i := 3) sc_law_fields.nd rfl (.inl rfl) (pe_ix ix_list (pe_lst (pa_cons pe_str (pa_cons pe_str (pa_cons pe_str (pa_cons pe_str pa_nil))))) (pv 2) (fun _ _ => rfl))) 
      (pss_one (ps_expr (pe_bm PySem.F.plainAttrs_list PySem.F.slot_list_append PySem.F.type_list_append mt_append (pv 1) (pa_cons (pe_tup (pa_cons (pv 3) (pa_cons (pe_ix ix_list (pe_lst (pa_cons pe_str (pa_cons pe_str (pa_cons pe_str pa_nil)))) (pe_call G_law_next (hr.mono (by decide)) (by rfl) T.g_law_next T.F_law_next.kp T.b_law_next .nil pass0 (pa_cons (pv 0) (pa_cons pe_int pa_nil))) (fun _ _ => rfl)) pa_nil))) pa_nil)))))) 
      (pss_one (ps_ret (pv 1))))), ?_⟩
    refine ⟨Nat.zero_le _, fun D hD => ?_⟩
    have nD : D ≠ st := st_new hS hD
    refine ⟨_, rfl, st, sc, 4, rfl, hS.new hD, by decide, by decide +kernel, fun n H1 n0 n1 hS1 o1 => ?_⟩
    have B1 : Bl [st] D H1 [] := (Bl.nil (N := [st]) (H := H)).fr nD in1 o1.fr
    refine ⟨n, rfl, by omega, by omega, for_range (lo := 0) (n := n.toNat) (fun i σ H' => Fr st H H' ∧ StAt H' st sc ∧ ∃ (fs : List (Str × Str)) (x2 x3 : Option V), fs.length = i ∧ FieldsOk fs ∧ Bl [st] D H' (fs.map fdD) ∧ σ = [some (.ref st), some (.ref D), x2, x3]) ⟨(Fr.new hD).trans o1.fr, hS1, [], none, none, rfl, ⟨by decide, rfl, fun f hf => nomatch hf⟩, B1, rfl⟩ ?_ ?_⟩
    · rintro i σ H2 hi ⟨f2, hS2, fs, x2, x3, hl, ok, B2, rfl⟩
      have e0 : (0 : Int) + (i : Int) = (i : Int) := by omega
      obtain ⟨nm, hnm, hnm2⟩ : ∃ nm, [V.str "a", V.str "b", V.str "note", V.str "_x"][i]? = some (.str nm) ∧ NAME4[i]? = some nm := by
        have : i = 0 ∨ i = 1 ∨ i = 2 := by omega
        rcases this with rfl | rfl | rfl
        · exact ⟨_, rfl, rfl⟩
        · exact ⟨_, rfl, rfl⟩
        · exact ⟨_, rfl, rfl⟩
      refine ⟨(by show 4 ≤ sizeLine; decide), fun l1 hl1 => ⟨_, rfl, l1, _, _, _, rfl, rfl, SqL.of upd_same, at_of e0 hnm, ?_⟩⟩
      have B3 := B2.same (same_new (o := .lst [V.str "a", V.str "b", V.str "note", V.str "_x"]) hl1)
      have f3 := f2.trans (same_fr (st := st) (same_new (o := .lst [V.str "a", V.str "b", V.str "note", V.str "_x"]) hl1))
      have hS3 := hS2.new (o := .lst [V.str "a", V.str "b", V.str "note", V.str "_x"]) hl1
      generalize upd H2 l1 (.lst [V.str "a", V.str "b", V.str "note", V.str "_x"]) = H3 at B3 f3 hS3 ⊢
      obtain ⟨vs3, d3, t3⟩ := id B3
      refine ⟨_, rfl, .inl ⟨rfl, _, SqL.of d3⟩, _, rfl, (by show 3 ≤ sizeLine; decide), fun l2 hl2 => ⟨_, rfl, st, sc, 3, rfl, hS3.new hl2, by decide, by decide +kernel, fun k H4 k0 k1 hS4 o4 => ?_⟩⟩
      obtain ⟨kd, hkd, kd3⟩ := pickS (xs := KIND3) k0 k1
      have B4 := (B3.same (same_new (o := .lst [V.str "integer", V.str "text", V.str "flag"]) hl2)).fr nD in1 o4.fr
      have f4 := f3.trans ((same_fr (st := st) (same_new (o := .lst [V.str "integer", V.str "text", V.str "flag"]) hl2)).trans o4.fr)
      refine ⟨l2, _, k, _, rfl, rfl, SqL.of ((o4 l2 (st_new hS3 hl2)).trans upd_same), hkd, (by show 2 ≤ sizeLine; decide), fun t ht => ?_⟩
      have B5 := B4.same (same_new (o := .tup [.str nm, .str kd]) ht)
      have f5 := f4.trans (same_fr (st := st) (same_new (o := .tup [.str nm, .str kd]) ht))
      have hS5 := hS4.new (o := .tup [.str nm, .str kd]) ht
      obtain ⟨vs4, d4, _⟩ := id B4
      have x5 : Dt [D, st] (upd H4 t (.tup [.str nm, .str kd])) (.ref t) (fdD (nm, kd)) := .tup (not_in2 (ne_of_none d4 ht).symm (st_new hS4 ht)) upd_same (.cons (.str _) (.cons (.str _) .nil))
      generalize upd H4 t (.tup [.str nm, .str kd]) = H5 at B5 f5 hS5 x5 ⊢
      obtain ⟨vs5, d5, t5⟩ := B5
      have l5 := t5.length
      rw [List.length_map] at l5
      refine ⟨D, _, _, rfl, rfl, d5, len_le (by omega), f5.set hD, hS5.set hS hD, fs ++ [(nm, kd)], _, _, by simp [hl], FieldsOk.snoc (by omega) ok.names ok.kinds (by rw [hl]; exact hnm2) kd3, ?_, rfl⟩
      rw [List.map_append]
      exact Bl.push d5 t5 x5
    · rintro σ H2 ⟨f2, hS2, fs, x2, x3, hl, ok, B2, rfl⟩
      exact ⟨_, rfl, q D fs H2 ok hD (B2.done (not_in1 nD)) hS2 f2⟩
def sp_law_schema (T : Txt K mg) : Sp := fun vs H Q _ => ∃ (st sc : Addr), vs = [.ref st] ∧ (StAt H st sc) ∧ ∀ (t pf : Addr) (n : Int) (w m : Str) (fs : List (Str × Str)) (H' : Hp), 1 ≤ n → n ≤ 4 → w ∈ WIDE3 → m ∈ MEAS3 → (m = "bits" → w = "bit") → FieldsOk fs → t ≠ st → H t = none → H' t = some (.tup [.int n, .str w, .str m, .ref pf]) → Dt [st] H' (.ref pf) (.list (fs.map fdD)) → StAt H' st sc → Fr st H H' → Q (.ref t) H'
set_option maxHeartbeats 4000000 in
theorem ok_law_schema (T : Txt K mg) : FnOk P w K mg base CX0 4 T.f_law_schema T.d_law_schema ["state"] (sp_law_schema T) := by
  have G_law_fields : FnOk P w K mg base CX0 3 T.f_law_fields T.d_law_fields ["state"] (sp_law_fields T) := ok_law_fields T
  have G_law_next : FnOk P w K mg base CX0 2 T.f_law_next T.d_law_next ["state", "many"] (sp_law_next T) := ok_law_next T
  refine T.F_law_schema.ok sc_law_schema (fun vs H Q E h => ?_) (fun cdv A outer s H vs Q E hr h => ?_)
  · obtain ⟨st, sc, rfl, _⟩ := h
    rfl
  · obtain ⟨st, sc, rfl, hS, q⟩ := h
    refine ⟨_, (pss_cons (ps_set (i := 1) sc_law_schema.nd rfl (.inl rfl) (pe_ix ix_list (pe_lst (pa_cons pe_str (pa_cons pe_str (pa_cons pe_str pa_nil)))) (pe_call G_law_next (hr.mono (by decide)) (by rfl) T.g_law_next T.F_law_next.kp T.b_law_next .nil pass0 (pa_cons (pv 0) (pa_cons pe_int pa_nil))) (fun _ _ => rfl))) 
      (pss_cons (ps_set (i := 2) sc_law_schema.nd rfl (.inl rfl) (pe_ix ix_list (pe_lst (pa_cons pe_str (pa_cons pe_str (pa_cons pe_str pa_nil)))) (pe_call G_law_next (hr.mono (by decide)) (by rfl) T.g_law_next T.F_law_next.kp T.b_law_next .nil pass0 (pa_cons (pv 0) (pa_cons pe_int pa_nil))) (fun _ _ => rfl))) 
      (pss_cut (ps_if (pt_cmpR op_eq (pv 2) pe_str (nomark _)) (pss_one (ps_set (i := 1) sc_law_schema.nd rfl (.inl rfl) pe_str)) pss_nil) 
      (pss_one (ps_ret (pe_tup (pa_cons (pe_op op_add pe_int (pe_call G_law_next (hr.mono (by decide)) (by rfl) T.g_law_next T.F_law_next.kp T.b_law_next .nil pass0 (pa_cons (pv 0) (pa_cons pe_int pa_nil)))) (pa_cons (pv 1) (pa_cons (pv 2) (pa_cons (pe_call G_law_fields (hr.mono (by decide)) (by rfl) T.g_law_fields T.F_law_fields.kp T.b_law_fields .nil pass0 (pa_cons (pv 0) pa_nil)) pa_nil)))))))))), ?_⟩
    refine ⟨(by show 3 ≤ sizeLine; decide), fun l1 hl1 => ⟨_, rfl, st, sc, 3, rfl, hS.new hl1, by decide, by decide +kernel, fun k H1 k0 k1 hS1 o1 => ?_⟩⟩
    obtain ⟨w, hw, w3⟩ := pickS (xs := WIDE3) k0 k1
    have f1 := (same_fr (st := st) (same_new (o := .lst [V.str "bit", V.str "small", V.str "wide"]) hl1)).trans o1.fr
    refine ⟨l1, _, k, _, rfl, rfl, SqL.of ((o1 l1 (st_new hS hl1)).trans upd_same), hw, ?_⟩
    refine ⟨(by show 3 ≤ sizeLine; decide), fun l2 hl2 => ⟨_, rfl, st, sc, 3, rfl, hS1.new hl2, by decide, by decide +kernel, fun j H2 j0 j1 hS2 o2 => ?_⟩⟩
    obtain ⟨m, hm, m3⟩ := pickS (xs := MEAS3) j0 j1
    have f2 := f1.trans ((same_fr (st := st) (same_new (o := .lst [V.str "square", V.str "dot", V.str "bits"]) hl2)).trans o2.fr)
    refine ⟨l2, _, j, _, rfl, rfl, SqL.of ((o2 l2 (st_new hS1 hl2)).trans upd_same), hm, ?_⟩
    refine ⟨fun σ' H' => H' = H2 ∧ ∃ w' : Str, w' ∈ WIDE3 ∧ (m = "bits" → w' = "bit") ∧ σ' = [some (.ref st), some (.str w'), some (.str m)], ?_, ?_⟩
    · refine ⟨_, rfl, rfl, _, rfl, ite2 (fun _ => ?_) (fun e => ?_)⟩
      · exact ⟨rfl, "bit", by decide +kernel, fun _ => rfl, rfl⟩
      · exact ⟨rfl, w, w3, fun h => absurd (decide_eq_true (congrArg V.str h)) e, rfl⟩
    rintro σ' H' ⟨rfl, w', w3', hb, rfl⟩
    refine ⟨_, rfl, st, sc, 4, rfl, hS2, by decide, by decide +kernel, fun n H3 n0 n1 hS3 o3 => ?_⟩
    refine ⟨_, _, rfl, rfl, _, rfl, _, rfl, _, rfl, st, sc, rfl, hS3, fun p fs H4 ok hp x4 hS4 f4 => ⟨(by show 4 ≤ sizeLine; decide), fun t ht => ?_⟩⟩
    have f5 := (f2.trans o3.fr).trans (f4.trans (same_fr (st := st) (same_new (o := .tup [.int (1 + n), .str w', .str m, .ref p]) ht)))
    have nt : H t = none := by
      cases e : H t with
      | none => rfl
      | some o =>
        have := f5 t o e (st_new hS4 ht)
        have g := ((f2.trans o3.fr).trans f4) t o e (st_new hS4 ht)
        rw [ht] at g
        cases g
    exact q t p (1 + n) w' m fs _ (by omega) (by omega) w3' m3 hb ok (st_new hS4 ht) nt upd_same (x4.new ht) (hS4.new ht) f5
def sp_law_number (T : Txt K mg) : Sp := fun vs H Q _ => ∃ (st sc : Addr) (w : Str), vs = [.ref st, .str w] ∧ (StAt H st sc) ∧ (w ∈ WIDE3) ∧ ∀ (v : Int) (H' : Hp), -32768 ≤ v → v ≤ 32767 → StAt H' st sc → Fr st H H' → Q (.int v) H'
set_option maxHeartbeats 4000000 in
theorem ok_law_number (T : Txt K mg) : FnOk P w K mg base CX0 3 T.f_law_number T.d_law_number ["state", "width"] (sp_law_number T) := by
  have G_law_next : FnOk P w K mg base CX0 2 T.f_law_next T.d_law_next ["state", "many"] (sp_law_next T) := ok_law_next T
  refine T.F_law_number.ok sc_law_number (fun vs H Q E h => ?_) (fun cdv A outer s H vs Q E hr h => ?_)
  · obtain ⟨st, sc, w, rfl, _⟩ := h
    rfl
  · obtain ⟨st, sc, w, rfl, hS, hw, q⟩ := h
    refine ⟨_, (pss_cons (ps_set (i := 2) sc_law_number.nd rfl (.inl rfl) (pe_ix ix_list (pe_lst (pa_cons pe_int (pa_cons (pe_un un_neg pe_int) (pa_cons (pe_un un_neg pe_int) pa_nil)))) (pe_bm PySem.F.plainAttrs_list PySem.F.slot_list_index PySem.F.type_list_index mt_index (pe_lst (pa_cons pe_str (pa_cons pe_str (pa_cons pe_str pa_nil)))) (pa_cons (pv 1) pa_nil)) (fun _ _ => rfl))) 
      (pss_cons (ps_set (i := 3) sc_law_number.nd rfl (.inl rfl) (pe_ix ix_list (pe_lst (pa_cons pe_int (pa_cons pe_int (pa_cons pe_int pa_nil)))) (pe_bm PySem.F.plainAttrs_list PySem.F.slot_list_index PySem.F.type_list_index mt_index (pe_lst (pa_cons pe_str (pa_cons pe_str (pa_cons pe_str pa_nil)))) (pa_cons (pv 1) pa_nil)) (fun _ _ => rfl))) 
      (pss_cons (ps_if (pt_cmpR op_eq (pe_call G_law_next (hr.mono (by decide)) (by rfl) T.g_law_next T.F_law_next.kp T.b_law_next .nil pass0 (pa_cons (pv 0) (pa_cons pe_int pa_nil))) pe_int (nomark _)) (pss_one (ps_ret (pe_ix ix_list (pe_lst (pa_cons (pv 2) (pa_cons (pv 3) pa_nil))) (pe_call G_law_next (hr.mono (by decide)) (by rfl) T.g_law_next T.F_law_next.kp T.b_law_next .nil pass0 (pa_cons (pv 0) (pa_cons pe_int pa_nil))) (fun _ _ => rfl)))) pss_nil) 
      (pss_cons (ps_set (i := 4) sc_law_number.nd rfl (.inl rfl) (pe_ix ix_list (pe_lst (pa_cons pe_int (pa_cons pe_int (pa_cons (pe_op op_sub (pv 3) (pv 2)) pa_nil)))) (pe_call G_law_next (hr.mono (by decide)) (by rfl) T.g_law_next T.F_law_next.kp T.b_law_next .nil pass0 (pa_cons (pv 0) (pa_cons pe_int pa_nil))) (fun _ _ => rfl))) 
      (pss_one (ps_ret (pe_ifExp (pt_cmpR op_eq (pe_call G_law_next (hr.mono (by decide)) (by rfl) T.g_law_next T.F_law_next.kp T.b_law_next .nil pass0 (pa_cons (pv 0) (pa_cons pe_int pa_nil))) pe_int (nomark _)) (pe_callB (call_min2 rfl) (by rfl) T.m_min (by decide +kernel) (pa_cons (pv 3) (pa_cons (pe_op op_add (pe_callB (call_max2 rfl) (by rfl) T.m_max (by decide +kernel) (pa_cons (pv 2) (pa_cons pe_int pa_nil))) (pe_call G_law_next (hr.mono (by decide)) (by rfl) T.g_law_next T.F_law_next.kp T.b_law_next .nil pass0 (pa_cons (pv 0) (pa_cons (pe_op op_add (pv 4) pe_int) pa_nil)))) pa_nil))) (pe_callB (call_max2 rfl) (by rfl) T.m_max (by decide +kernel) (pa_cons (pv 2) (pa_cons (pe_un un_neg (pe_call G_law_next (hr.mono (by decide)) (by rfl) T.g_law_next T.F_law_next.kp T.b_law_next .nil pass0 (pa_cons (pv 0) (pa_cons (pe_op op_add (pv 4) pe_int) pa_nil)))) pa_nil)))))))))), ?_⟩
    obtain ⟨j, lo, hi, g1, g2, g3, g4, g5, lo1, lo2, hi1, hi2⟩ := wide3 hw
    -- low
    refine ⟨_, rfl, _, rfl, (by show 3 ≤ sizeLine; decide), fun a1 ha1 => ⟨(by show 3 ≤ sizeLine; decide), fun a2 ha2 => ⟨.inl ⟨rfl, _, SqL.of upd_same⟩, _, rfl, a2, _, _, j, _, rfl, rfl, SqL.of upd_same, rfl, by decide +kernel, g1, g2, g3, a1, _, _, _, rfl, rfl, SqL.of ((same_new ha2) _ _ upd_same), at_of rfl g4, ?_⟩⟩⟩
    have s1 := (same_new (o := .lst [V.int 0, V.int (-128), V.int (-32768)]) ha1).trans (same_new (o := .lst [V.str "bit", V.str "small", V.str "wide"]) ha2)
    generalize upd (upd H a1 (.lst [V.int 0, V.int (-128), V.int (-32768)])) a2 (.lst [V.str "bit", V.str "small", V.str "wide"]) = H1 at s1 ⊢
    -- high
    refine ⟨(by show 3 ≤ sizeLine; decide), fun a1 ha1 => ⟨(by show 3 ≤ sizeLine; decide), fun a2 ha2 => ⟨.inl ⟨rfl, _, SqL.of upd_same⟩, _, rfl, a2, _, _, j, _, rfl, rfl, SqL.of upd_same, rfl, by decide +kernel, g1, g2, g3, a1, _, _, _, rfl, rfl, SqL.of ((same_new ha2) _ _ upd_same), at_of rfl g5, ?_⟩⟩⟩
    replace s1 := s1.trans ((same_new (o := .lst [V.int 1, V.int 127, V.int 32767]) ha1).trans (same_new (o := .lst [V.str "bit", V.str "small", V.str "wide"]) ha2))
    generalize upd (upd H1 a1 (.lst [V.int 1, V.int 127, V.int 32767])) a2 (.lst [V.str "bit", V.str "small", V.str "wide"]) = H2 at s1 ⊢
    have hS2 := hS.same s1
    have f2 : Fr st H H2 := same_fr s1
    -- if _law_next(state, 5) == 0
    refine ⟨_, rfl, st, sc, 5, rfl, hS2, by decide, by decide +kernel, fun d H3 d0 d1 hS3 o3 => ⟨rfl, _, rfl, ite2 (fun _ => ?_) (fun _ => ?_)⟩⟩
    · refine ⟨_, rfl, _, rfl, (by show 2 ≤ sizeLine; decide), fun l hl => ⟨_, rfl, st, sc, 2, rfl, hS3.new hl, by decide, by decide +kernel, fun e H4 e0 e1 hS4 o4 => ?_⟩⟩
      have f4 := (f2.trans o3.fr).trans ((same_fr (st := st) (same_new (o := .lst [V.int lo, V.int hi]) hl)).trans o4.fr)
      have hl4 := (o4 l (st_new hS3 hl)).trans upd_same
      have : e = 0 ∨ e = 1 := by omega
      rcases this with rfl | rfl
      · exact ⟨l, _, 0, _, rfl, rfl, SqL.of hl4, at_of (j := 0) rfl rfl, q lo H4 (by omega) (by omega) hS4 f4⟩
      · exact ⟨l, _, 1, _, rfl, rfl, SqL.of hl4, at_of (j := 1) rfl rfl, q hi H4 (by omega) (by omega) hS4 f4⟩
    -- spread
    refine ⟨_, rfl, _, rfl, _, _, rfl, rfl, (by show 3 ≤ sizeLine; decide), fun l hl => ⟨_, rfl, st, sc, 3, rfl, hS3.new hl, by decide, by decide +kernel, fun e H4 e0 e1 hS4 o4 => ?_⟩⟩
    have f4 := (f2.trans o3.fr).trans ((same_fr (st := st) (same_new (o := .lst [V.int 1, V.int 5, V.int (hi - lo)]) hl)).trans o4.fr)
    have hl4 := (o4 l (st_new hS3 hl)).trans upd_same
    obtain ⟨sp, hsp, sp0, sp1⟩ : ∃ sp : Int, atI [V.int 1, V.int 5, V.int (hi - lo)] e = some (.int sp) ∧ 1 ≤ sp ∧ sp ≤ 65535 := by
      have : e = 0 ∨ e = 1 ∨ e = 2 := by omega
      rcases this with rfl | rfl | rfl
      · exact ⟨1, at_of (j := 0) rfl rfl, by decide, by decide⟩
      · exact ⟨5, at_of (j := 1) rfl rfl, by decide, by decide⟩
      · exact ⟨hi - lo, at_of (j := 2) rfl rfl, by omega, by omega⟩
    refine ⟨l, _, e, _, rfl, rfl, SqL.of hl4, hsp, ?_⟩
    have small : (sp + 1).natAbs < 2 ^ 200 := wide_le (j := 65536) (by omega) (by omega) (by decide +kernel)
    -- the last line
    refine ⟨_, rfl, st, sc, 2, rfl, hS4, by decide, by decide +kernel, fun u H5 u0 u1 hS5 o5 => ⟨rfl, _, rfl, ite2 (fun _ => ?_) (fun _ => ?_)⟩⟩
    · refine ⟨_, rfl, _, rfl, _, _, rfl, _, rfl, _, rfl, _, _, rfl, rfl, st, sc, _, rfl, hS5, by omega, small, fun v H6 v0 v1 hS6 o6 => ?_⟩
      refine ⟨_, _, rfl, rfl, _, _, rfl, ?_⟩
      refine q _ H6 ?_ ?_ hS6 (f4.trans (o5.fr.trans o6.fr))
      · split <;> (try split) <;> omega
      · split <;> (try split) <;> omega
    · refine ⟨_, rfl, _, rfl, _, rfl, _, _, rfl, rfl, st, sc, _, rfl, hS5, by omega, small, fun v H6 v0 v1 hS6 o6 => ⟨_, rfl, _, _, rfl, ?_⟩⟩
      refine q _ H6 ?_ ?_ hS6 (f4.trans (o5.fr.trans o6.fr))
      · split <;> omega
      · split <;> omega
def sp_law_value (T : Txt K mg) : Sp := fun vs H Q _ => ∃ (st sc : Addr) (k : Str), vs = [.ref st, .str k] ∧ (StAt H st sc) ∧ ∀ (v : V) (d : PyData) (H' : Hp), IsVal d → (∀ N H2, Dt N H2 v d) → StAt H' st sc → Fr st H H' → Q v H'
set_option maxHeartbeats 4000000 in
theorem ok_law_value (T : Txt K mg) : FnOk P w K mg base CX0 3 T.f_law_value T.d_law_value ["state", "kind"] (sp_law_value T) := by
  have G_law_next : FnOk P w K mg base CX0 2 T.f_law_next T.d_law_next ["state", "many"] (sp_law_next T) := ok_law_next T
  refine T.F_law_value.ok sc_law_value (fun vs H Q E h => ?_) (fun cdv A outer s H vs Q E hr h => ?_)
  · obtain ⟨st, sc, k, rfl, _⟩ := h
    rfl
  · obtain ⟨st, sc, k, rfl, hS, q⟩ := h
    refine ⟨_, (pss_cons (ps_if (pt_cmpR op_eq (pv 1) pe_str (nomark _)) (pss_one (ps_ret (pe_cmpR op_eq (pe_call G_law_next (hr.mono (by decide)) (by rfl) T.g_law_next T.F_law_next.kp T.b_law_next .nil pass0 (pa_cons (pv 0) (pa_cons pe_int pa_nil))) pe_int (nomark _)))) pss_nil) 
      (pss_cons (ps_if (pt_cmpR op_eq (pv 1) pe_str (nomark _)) (pss_one (ps_ret (pe_ix ix_list (pe_lst (pa_cons pe_str (pa_cons pe_str (pa_cons pe_str (pa_cons pe_str (pa_cons pe_str pa_nil)))))) (pe_call G_law_next (hr.mono (by decide)) (by rfl) T.g_law_next T.F_law_next.kp T.b_law_next .nil pass0 (pa_cons (pv 0) (pa_cons pe_int pa_nil))) (fun _ _ => rfl)))) pss_nil) 
      (pss_one (ps_ret (pe_op op_mul (pe_ix ix_list (pe_lst (pa_cons pe_int (pa_cons pe_int (pa_cons (pe_un un_neg pe_int) (pa_cons pe_int (pa_cons (pe_op op_pow pe_int pe_int) pa_nil)))))) (pe_call G_law_next (hr.mono (by decide)) (by rfl) T.g_law_next T.F_law_next.kp T.b_law_next .nil pass0 (pa_cons (pv 0) (pa_cons pe_int pa_nil))) (fun _ _ => rfl)) (pe_op op_add pe_int (pe_call G_law_next (hr.mono (by decide)) (by rfl) T.g_law_next T.F_law_next.kp T.b_law_next .nil pass0 (pa_cons (pv 0) (pa_cons pe_int pa_nil))))))))), ?_⟩
    refine ⟨_, rfl, rfl, _, rfl, ite2 (fun _ => ?_) (fun _ => ?_)⟩
    · refine ⟨_, rfl, st, sc, 2, rfl, hS, by decide, by decide +kernel, fun d H1 d0 d1 hS1 o1 => ⟨rfl, ?_⟩⟩
      exact q _ _ H1 (.inr (.inr ⟨_, rfl⟩)) (fun _ _ => .bl _) hS1 o1.fr
    refine ⟨_, rfl, rfl, _, rfl, ite2 (fun _ => ?_) (fun _ => ?_)⟩
    · refine ⟨(by show 5 ≤ sizeLine; decide), fun l hl => ⟨_, rfl, st, sc, 5, rfl, hS.new hl, by decide, by decide +kernel, fun d H1 d0 d1 hS1 o1 => ?_⟩⟩
      obtain ⟨z, hz, hm⟩ := pickS (xs := ["", "red", "blue", "x y", "a\\b"]) d0 d1
      have ok : PyData.strOk z = true ∧ z.length ≤ 8 := by
        clear hz q
        revert hm z
        decide +kernel
      refine ⟨l, _, d, _, rfl, rfl, SqL.of ((o1 l (st_new hS hl)).trans upd_same), hz, ?_⟩
      exact q _ _ H1 (.inr (.inl ⟨z, rfl, ok.1, ok.2⟩)) (fun _ _ => .str _) hS1 ((same_fr (same_new hl)).trans o1.fr)
    · refine ⟨_, rfl, _, _, rfl, rfl, ⟨by decide, by decide, by decide⟩, (by show 5 ≤ sizeLine; decide), fun l hl => ⟨_, rfl, st, sc, 5, rfl, hS.new hl, by decide, by decide +kernel, fun d H1 d0 d1 hS1 o1 => ?_⟩⟩
      obtain ⟨i, hi⟩ : ∃ i : Int, atI [V.int 0, V.int 1, V.int (-1), V.int 7, V.int (10 ^ (12 : Int).toNat)] d = some (.int i) := by
        have : d = 0 ∨ d = 1 ∨ d = 2 ∨ d = 3 ∨ d = 4 := by omega
        rcases this with rfl | rfl | rfl | rfl | rfl
        · exact ⟨_, at_of (j := 0) rfl rfl⟩
        · exact ⟨_, at_of (j := 1) rfl rfl⟩
        · exact ⟨_, at_of (j := 2) rfl rfl⟩
        · exact ⟨_, at_of (j := 3) rfl rfl⟩
        · exact ⟨_, at_of (j := 4) rfl rfl⟩
      refine ⟨l, _, d, _, rfl, rfl, SqL.of ((o1 l (st_new hS hl)).trans upd_same), hi, _, rfl, st, sc, 2, rfl, hS1, by decide, by decide +kernel, fun e H2 e0 e1 hS2 o2 => ?_⟩
      refine ⟨_, _, rfl, rfl, _, _, rfl, rfl, .inr ⟨by omega, by omega⟩, ?_⟩
      exact q _ _ H2 (.inl ⟨_, rfl⟩) (fun _ _ => .int _) hS2 ((same_fr (same_new hl)).trans (o1.fr.trans o2.fr))
def sp_law_pairs (T : Txt K mg) : Sp := fun vs H Q _ => ∃ (st sc pf : Addr) (fs : List (Str × Str)), vs = [.ref st, .ref pf] ∧ (StAt H st sc) ∧ (Dt [st] H (.ref pf) (.list (fs.map fdD))) ∧ (FieldsOk fs) ∧ ∀ (p : Addr) (ps : List (Str × PyData)) (H' : Hp), PairsOk ps → H p = none → Dt [st] H' (.ref p) (.list (ps.map prD)) → StAt H' st sc → Fr st H H' → Q (.ref p) H'
set_option maxHeartbeats 4000000 in
theorem ok_law_pairs (T : Txt K mg) : FnOk P w K mg base CX0 4 T.f_law_pairs T.d_law_pairs ["state", "fields"] (sp_law_pairs T) := by
  have G_law_next : FnOk P w K mg base CX0 2 T.f_law_next T.d_law_next ["state", "many"] (sp_law_next T) := ok_law_next T
  have G_law_value : FnOk P w K mg base CX0 3 T.f_law_value T.d_law_value ["state", "kind"] (sp_law_value T) := ok_law_value T
  refine T.F_law_pairs.ok sc_law_pairs (fun vs H Q E h => ?_) (fun cdv A outer s H vs Q E hr h => ?_)
  · obtain ⟨st, sc, pf, fs, rfl, _⟩ := h
    rfl
  · obtain ⟨st, sc, pf, fs, rfl, hS, hf, ok, q⟩ := h
    refine ⟨_, (pss_cons (ps_set (i := 2) sc_law_pairs.nd rfl (.inl rfl) (pe_lst pa_nil)) 
      (pss_cons (ps_for PassesOwn.never rfl (pi_list (pv 1)) (pg_tup rfl (pgs_cons (pg_name (i := 3) sc_law_pairs.nd rfl (.inl rfl)) (pgs_cons (pg_name (i := 4) sc_law_pairs.nd rfl (.inl rfl)) pgs_nil))) (pss_one (ps_if (pt_cmpR op_gt (pe_call G_law_next (hr.mono (by decide)) (by rfl) T.g_law_next T.F_law_next.kp T.b_law_next .nil pass0 (pa_cons (pv 0) (pa_cons pe_int pa_nil))) pe_int (nomark _)) (pss_one (ps_expr (pe_bm PySem.F.plainAttrs_list PySem.F.slot_list_append PySem.F.type_list_append mt_append (pv 2) (pa_cons (pe_tup (pa_cons (pv 3) (pa_cons (pe_call G_law_value (hr.mono (by decide)) (by rfl) T.g_law_value T.F_law_value.kp T.b_law_value .nil pass0 (pa_cons (pv 0) (pa_cons (pv 4) pa_nil))) pa_nil))) pa_nil)))) pss_nil))) 
      (pss_one (ps_ret (pv 2))))), ?_⟩
    refine ⟨Nat.zero_le _, fun D hD => ?_⟩
    have nD : D ≠ st := st_new hS hD
    have hf1 := (hf.away hD).upd (o := .lst []) (List.mem_cons_self ..)
    obtain ⟨pf', vf, ev, npf, epf, tf⟩ := hf1.isL
    cases ev
    have lf := tf.length
    rw [List.length_map] at lf
    refine ⟨_, rfl, pf, rfl, ⟨_, SqL.of epf⟩, ?_⟩
    refine for_list (K := K) (a := pf) (xs := vf) (fun i σ H' => Fr st H H' ∧ StAt H' st sc ∧ H' pf = some (.lst vf) ∧ Dts [D, st] H' vf (fs.map fdD) ∧ ∃ (ps : List (Str × PyData)) (x3 x4 : Option V), ps.length ≤ i ∧ PairsOk ps ∧ Bl [st] D H' (ps.map prD) ∧ σ = [some (.ref st), some (.ref pf), some (.ref D), x3, x4]) ⟨Fr.new hD, hS.new hD, epf, tf, [], none, none, Nat.le_refl _, ⟨by decide, fun f hf => (nomatch hf), fun f hf => (nomatch hf)⟩, Bl.nil, rfl⟩ (fun i σ H' _ h => SqL.of h.2.2.1) ?_ ?_
    · rintro i y σ H2 hy ⟨f2, hS2, e2, t2, ps, x3, x4, hl, pok, B2, rfl⟩
      obtain ⟨d, hd, xd⟩ := t2.get hy
      rw [List.getElem?_map] at hd
      cases ef : fs[i]? with
      | none =>
        rw [ef] at hd
        cases hd
      | some f =>
        rw [ef] at hd
        have := Option.some.inj hd
        subst this
        obtain ⟨t, w, rfl, nt, et, xw⟩ := xd.isP
        rw [xw.isS] at et
        have il : i < fs.length := (List.getElem?_eq_some_iff.mp ef).1
        have l3 := ok.len
        refine ⟨t, _, rfl, SqT.of et, rfl, _, _, rfl, _, _, rfl, rfl, ?_⟩
        refine ⟨_, rfl, st, sc, 3, rfl, hS2, by decide, by decide +kernel, fun k H3 k0 k1 hS3 o3 => ⟨_, _, rfl, rfl, _, rfl, ite2 (fun _ => ?_) (fun _ => ?_)⟩⟩
        · have B3 := B2.fr nD in1 o3.fr
          have f3 := f2.trans o3.fr
          obtain ⟨vs3, d3, _⟩ := id B3
          refine ⟨_, rfl, .inl ⟨rfl, _, SqL.of d3⟩, _, rfl, _, rfl, _, rfl, st, sc, f.2, rfl, hS3, fun v dd H4 iv xv hS4 f4 => ⟨(by show 2 ≤ sizeLine; decide), fun t' ht' => ?_⟩⟩
          have B4 := B3.fr nD in1 f4
          have nmem : f.1 ∈ NAME4 := by
            have h1 : f.1 ∈ fs.map (·.1) := List.mem_map_of_mem (List.mem_of_getElem? ef)
            rw [ok.names] at h1
            exact List.mem_of_mem_take h1
          have nmok : PyData.strOk f.1 = true ∧ f.1.length ≤ 8 := by
            generalize f.1 = z at nmem
            revert nmem z
            decide +kernel
          have s5 := same_new (o := .tup [.str f.1, v]) ht'
          have B5 := B4.same s5
          obtain ⟨vs4, d4, _⟩ := id B4
          have x5 : Dt [D, st] (upd H4 t' (.tup [.str f.1, v])) (.ref t') (prD (f.1, dd)) := .tup (not_in2 (ne_of_none d4 ht').symm (st_new hS4 ht')) upd_same (.cons (.str _) (.cons (xv _ _) .nil))
          have f5 := (f3.trans f4).trans (same_fr (st := st) s5)
          have hS5 := hS4.new (o := .tup [.str f.1, v]) ht'
          have e5 := s5 _ _ (f4 _ _ (o3.fr _ _ e2 (fun z => npf (z ▸ in2))) (fun z => npf (z ▸ in2)))
          have t5 := ((t2.fr o3.fr in2).fr f4 in2).same s5
          generalize upd H4 t' (.tup [.str f.1, v]) = H5 at B5 x5 f5 hS5 e5 t5 ⊢
          obtain ⟨vs5, d5, u5⟩ := B5
          have l5 := u5.length
          rw [List.length_map] at l5
          have npD : pf ≠ D := fun z => npf (z ▸ List.mem_cons_self ..)
          refine ⟨D, _, _, rfl, rfl, d5, len_le (by omega), f5.set hD, hS5.set hS hD, by rw [upd_ne npD]; exact e5, t5.upd (List.mem_cons_self ..), ps ++ [(f.1, dd)], _, _, by simp; omega, ?_, ?_, rfl⟩
          · refine ⟨by simp; omega, fun p hp => ?_, fun p hp => ?_⟩
            · rcases List.mem_append.mp hp with h | h
              · exact pok.names p h
              · rw [List.mem_singleton] at h
                subst h
                exact nmok
            · rcases List.mem_append.mp hp with h | h
              · exact pok.vals p h
              · rw [List.mem_singleton] at h
                subst h
                exact iv
          · rw [List.map_append]
            exact Bl.push d5 u5 x5
        · exact ⟨f2.trans o3.fr, hS3, o3.fr _ _ e2 (fun z => npf (z ▸ in2)), t2.fr o3.fr in2, ps, _, _, by omega, pok, B2.fr nD in1 o3.fr, rfl⟩
    · rintro σ H2 ⟨f2, hS2, e2, t2, ps, x3, x4, hl, pok, B2, rfl⟩
      exact ⟨_, rfl, q D ps H2 pok hD (B2.done (not_in1 nD)) hS2 f2⟩
def sp_law_words (T : Txt K mg) : Sp := fun vs H Q _ => ∃ (st sc : Addr), vs = [.ref st] ∧ (StAt H st sc) ∧ ∀ (p : Addr) (ws : List (Str × Int)) (H' : Hp), WordsOk ws → H p = none → Dt [st] H' (.ref p) (.list (ws.map wdD)) → StAt H' st sc → Fr st H H' → Q (.ref p) H'
set_option maxHeartbeats 4000000 in
theorem ok_law_words (T : Txt K mg) : FnOk P w K mg base CX0 3 T.f_law_words T.d_law_words ["state"] (sp_law_words T) := by
  have G_law_next : FnOk P w K mg base CX0 2 T.f_law_next T.d_law_next ["state", "many"] (sp_law_next T) := ok_law_next T
  refine T.F_law_words.ok sc_law_words (fun vs H Q E h => ?_) (fun cdv A outer s H vs Q E hr h => ?_)
  · obtain ⟨st, sc, rfl, _⟩ := h
    rfl
  · obtain ⟨st, sc, rfl, hS, q⟩ := h
    refine ⟨_, (pss_cons (ps_set (i := 1) sc_law_words.nd rfl (.inl rfl) (pe_lst pa_nil)) 
      (pss_cons (ps_for PassesOwn.never rfl (pi_list (pe_lst (pa_cons pe_str (pa_cons pe_str (pa_cons pe_str (pa_cons pe_str pa_nil)))))) (pg_name (i := 2) sc_law_words.nd rfl (.inl rfl)) (pss_one (ps_if (pt_cmpR op_eq (pe_call G_law_next (hr.mono (by decide)) (by rfl) T.g_law_next T.F_law_next.kp T.b_law_next .nil pass0 (pa_cons (pv 0) (pa_cons pe_int pa_nil))) pe_int (nomark _)) (pss_one (ps_expr (pe_bm PySem.F.plainAttrs_list PySem.F.slot_list_append PySem.F.type_list_append mt_append (pv 1) (pa_cons (pe_tup (pa_cons (pv 2) (pa_cons (pe_op op_add pe_int (pe_op op_mul (pe_call G_law_next (hr.mono (by decide)) (by rfl) T.g_law_next T.F_law_next.kp T.b_law_next .nil pass0 (pa_cons (pv 0) (pa_cons pe_int pa_nil))) (pe_call G_law_next (hr.mono (by decide)) (by rfl) T.g_law_next T.F_law_next.kp T.b_law_next .nil pass0 (pa_cons (pv 0) (pa_cons pe_int pa_nil))))) pa_nil))) pa_nil)))) pss_nil))) 
      (pss_one (ps_ret (pv 1))))), ?_⟩
    refine ⟨Nat.zero_le _, fun D hD => ?_⟩
    have nD : D ≠ st := st_new hS hD
    refine ⟨(by show 4 ≤ sizeLine; decide), fun l hl => ⟨l, rfl, ⟨_, SqL.of upd_same⟩, ?_⟩⟩
    have hSl := (hS.new (o := .lst []) hD).new (o := .lst [V.str "ant", V.str "bee", V.str "cow", V.str "dog"]) hl
    have nDl : D ≠ l := ne_of_none upd_same hl
    have nl : l ≠ st := st_new (hS.new (o := .lst []) hD) hl
    refine for_list (K := K) (a := l) (xs := (["ant", "bee", "cow", "dog"] : List Str).map V.str) (fun i σ H' => Fr st H H' ∧ StAt H' st sc ∧ H' l = some (.lst ((["ant", "bee", "cow", "dog"] : List Str).map V.str)) ∧ ∃ (ws : List (Str × Int)) (x2 : Option V), ws.length ≤ i ∧ WordsOk ws ∧ Bl [st] D H' (ws.map wdD) ∧ σ = [some (.ref st), some (.ref D), x2]) ⟨(Fr.new hD).trans (Fr.new hl), hSl, upd_same, [], none, Nat.le_refl _, ⟨by decide, fun f hf => (nomatch hf)⟩, Bl.nil.same (same_new hl), rfl⟩ (fun i σ H' _ h => SqL.of h.2.2.1) ?_ ?_
    · rintro i y σ H2 hy ⟨f2, hS2, e2, ws, x2, hn, wok, B2, rfl⟩
      rw [List.getElem?_map] at hy
      cases ez : (["ant", "bee", "cow", "dog"] : List Str)[i]? with
      | none =>
        rw [ez] at hy
        cases hy
      | some z =>
        rw [ez] at hy
        have := Option.some.inj hy
        subst this
        have zmem := List.mem_of_getElem? ez
        have i4 : i < 4 := (List.getElem?_eq_some_iff.mp ez).1
        have zok : PyData.strOk z = true ∧ z.length ≤ 8 := by
          clear ez hy
          revert zmem z
          decide +kernel
        refine ⟨_, rfl, st, sc, 2, rfl, hS2, by decide, by decide +kernel, fun k H3 k0 k1 hS3 o3 => ⟨rfl, _, rfl, ite2 (fun _ => ?_) (fun _ => ?_)⟩⟩
        · have B3 := B2.fr nD in1 o3.fr
          have f3 := f2.trans o3.fr
          obtain ⟨vs3, d3, _⟩ := id B3
          refine ⟨_, rfl, .inl ⟨rfl, _, SqL.of d3⟩, _, rfl, _, rfl, st, sc, 3, rfl, hS3, by decide, by decide +kernel, fun g H4 g0 g1 hS4 o4 => ⟨_, rfl, st, sc, 20, rfl, hS4, by decide, by decide +kernel, fun h H5 h0 h1 hS5 o5 => ?_⟩⟩
          refine ⟨_, _, rfl, rfl, .inl ⟨by omega, by omega⟩, _, _, rfl, rfl, (by show 2 ≤ sizeLine; decide), fun t' ht' => ?_⟩
          have B5 := (B3.fr nD in1 o4.fr).fr nD in1 o5.fr
          have s6 := same_new (o := .tup [.str z, .int (1 + g * h)]) ht'
          have B6 := B5.same s6
          obtain ⟨vs5, d5, _⟩ := id B5
          have x6 : Dt [D, st] (upd H5 t' (.tup [.str z, .int (1 + g * h)])) (.ref t') (wdD (z, 1 + g * h)) := .tup (not_in2 (ne_of_none d5 ht').symm (st_new hS5 ht')) upd_same (.cons (.str _) (.cons (.int _) .nil))
          have f6 := (f3.trans (o4.fr.trans o5.fr)).trans (same_fr (st := st) s6)
          have hS6 := hS5.new (o := .tup [.str z, .int (1 + g * h)]) ht'
          have e6 := s6 _ _ (o5.fr _ _ (o4.fr _ _ (o3.fr _ _ e2 nl) nl) nl)
          generalize upd H5 t' (.tup [.str z, .int (1 + g * h)]) = H6 at B6 x6 f6 hS6 e6 ⊢
          obtain ⟨vs6, d6, u6⟩ := B6
          have l6 := u6.length
          rw [List.length_map] at l6
          refine ⟨D, _, _, rfl, rfl, d6, len_le (by omega), f6.set hD, hS6.set hS hD, by rw [upd_ne nDl.symm]; exact e6, ws ++ [(z, 1 + g * h)], _, by simp; omega, ?_, ?_, rfl⟩
          · refine ⟨by simp; omega, fun p hp => ?_⟩
            rcases List.mem_append.mp hp with h | h
            · exact wok.words p h
            · rw [List.mem_singleton] at h
              subst h
              exact zok
          · rw [List.map_append]
            exact Bl.push d6 u6 x6
        · exact ⟨f2.trans o3.fr, hS3, o3.fr _ _ e2 nl, ws, _, by omega, wok, B2.fr nD in1 o3.fr, rfl⟩
    · rintro σ H2 ⟨f2, hS2, e2, ws, x2, hn, wok, B2, rfl⟩
      exact ⟨_, rfl, q D ws H2 wok hD (B2.done (not_in1 nD)) hS2 f2⟩
def sp_law_name (T : Txt K mg) : Sp := fun vs H Q _ => ∃ (st sc : Addr), vs = [.ref st] ∧ (StAt H st sc) ∧ ∀ (z : Str) (H' : Hp), PyData.strOk z = true → z.length ≤ 8 → StAt H' st sc → Fr st H H' → Q (.str z) H'
set_option maxHeartbeats 4000000 in
theorem ok_law_name (T : Txt K mg) : FnOk P w K mg base CX0 3 T.f_law_name T.d_law_name ["state"] (sp_law_name T) := by
  have G_law_next : FnOk P w K mg base CX0 2 T.f_law_next T.d_law_next ["state", "many"] (sp_law_next T) := ok_law_next T
  refine T.F_law_name.ok sc_law_name (fun vs H Q E h => ?_) (fun cdv A outer s H vs Q E hr h => ?_)
  · obtain ⟨st, sc, rfl, _⟩ := h
    rfl
  · obtain ⟨st, sc, rfl, hS, q⟩ := h
    refine ⟨_, (pss_one (ps_ret (pe_ix ix_list (pe_lst (pa_cons pe_str (pa_cons pe_str (pa_cons pe_str (pa_cons pe_str (pa_cons pe_str (pa_cons pe_str pa_nil))))))) (pe_call G_law_next (hr.mono (by decide)) (by rfl) T.g_law_next T.F_law_next.kp T.b_law_next .nil pass0 (pa_cons (pv 0) (pa_cons pe_int pa_nil))) (fun _ _ => rfl)))), ?_⟩
    refine ⟨(by show 6 ≤ sizeLine; decide), fun l hl => ⟨_, rfl, st, sc, 6, rfl, hS.new hl, by decide, by decide +kernel, fun d H1 d0 d1 hS1 o1 => ?_⟩⟩
    obtain ⟨z, hz, hm⟩ := pickS (xs := ["a", "b", "ba", "c", "k9", "z z"]) d0 d1
    have ok : PyData.strOk z = true ∧ z.length ≤ 8 := by
      clear hz
      revert hm z
      decide +kernel
    refine ⟨l, _, d, _, rfl, rfl, SqL.of ((o1 l (st_new hS hl)).trans upd_same), hz, ?_⟩
    exact q z H1 ok.1 ok.2 hS1 ((same_fr (same_new hl)).trans o1.fr)
def sp_kind_of_value (T : Txt K mg) : Sp := fun vs H Q _ => ∃ (v : V), vs = [v] ∧ ((∃ i, v = .int i ∧ Q (.str "integer") H) ∨ (∃ z, v = .str z ∧ Q (.str "text") H) ∨ (∃ b, v = .bl b ∧ Q (.str "flag") H))
set_option maxHeartbeats 4000000 in
theorem ok_kind_of_value (T : Txt K mg) : FnOk P w K mg base CX0 1 T.f_kind_of_value T.d_kind_of_value ["worth"] (sp_kind_of_value T) := by
  refine T.F_kind_of_value.ok sc_kind_of_value (fun vs H Q E h => ?_) (fun cdv A outer s H vs Q E hr h => ?_)
  · obtain ⟨v, rfl, _⟩ := h
    rfl
  · obtain ⟨v, rfl, q⟩ := h
    refine ⟨_, (pss_cons (ps_if (pt_val (pe_callB call_isi (by rfl) T.m_isinstance (by decide +kernel) (pa_cons (pv 0) (pa_cons (pe_bltn (v := .ty "bool") (u := .type "bool") (by rfl) T.m_bool (by decide +kernel) rfl) pa_nil)))) (pss_one (ps_ret pe_str)) pss_nil) 
      (pss_cons (ps_if (pt_val (pe_callB call_isi (by rfl) T.m_isinstance (by decide +kernel) (pa_cons (pv 0) (pa_cons (pe_bltn (v := .ty "int") (u := .type "int") (by rfl) T.m_int (by decide +kernel) rfl) pa_nil)))) (pss_one (ps_ret pe_str)) pss_nil) 
      (pss_one (ps_ret pe_str)))), ?_⟩
    rcases q with ⟨i, rfl, q⟩ | ⟨z, rfl, q⟩ | ⟨b, rfl, q⟩
    · refine ⟨_, rfl, _, _, _, _, false, rfl, .ty _, .base (.int _), kit_ty (by decide +kernel), false, rfl, iteF ?_⟩
      exact ⟨_, rfl, _, _, _, _, true, rfl, .ty _, .base (.int _), kit_ty (by decide +kernel), true, rfl, iteT q⟩
    · refine ⟨_, rfl, _, _, _, _, false, rfl, .ty _, .base (.str _), kit_ty (by decide +kernel), false, rfl, iteF ?_⟩
      exact ⟨_, rfl, _, _, _, _, false, rfl, .ty _, .base (.str _), kit_ty (by decide +kernel), false, rfl, iteF q⟩
    · exact ⟨_, rfl, _, _, _, _, true, rfl, .ty _, .base (.bl _), kit_ty (by decide +kernel), true, rfl, iteT q⟩
def sp_string_part (T : Txt K mg) : Sp := fun vs H Q _ => ∃ (z : Str), vs = [.str z] ∧ (z.length ≤ 1000) ∧ ∀ p H', Same H H' → H p = none → H' p = some (.lst ((strPart z).map V.int)) → Q (.ref p) H'
set_option maxHeartbeats 4000000 in
theorem ok_string_part (T : Txt K mg) : FnOk P w K mg base CX0 1 T.f_string_part T.d_string_part ["text"] (sp_string_part T) := by
  refine T.F_string_part.ok sc_string_part (fun vs H Q E h => ?_) (fun cdv A outer s H vs Q E hr h => ?_)
  · obtain ⟨z, rfl, _⟩ := h
    rfl
  · obtain ⟨z, rfl, hz, q⟩ := h
    refine ⟨_, (pss_one (ps_ret (pe_op op_cat (pe_lst (pa_cons (pe_callB call_len_str (by rfl) T.m_len PySem.boot_len (pa_cons (pv 0) pa_nil)) pa_nil)) (pe_lc (own := [("char", 1)]) (g := gName 1) rfl sc_string_part.nd (pi_str (pv 0)) (blkOk_by (own := [("char", 1)]) (N := ["text", "char"]) (sc := defScope s_string_part) (by decide +kernel)) (fun _ _ _ _ _ => (pg_name (i := 1) sc_string_part.nd rfl (Or.inl rfl))) (fun _ _ _ _ _ => pts_nil) (fun _ _ _ _ _ => (pe_callB call_ord (by rfl) T.m_ord (by decide +kernel) (pa_cons (pv 1) pa_nil))))))), ?_⟩
    refine ⟨_, rfl, z, rfl, Nat.le_trans hz (by decide), (by show 1 ≤ sizeLine; decide), fun l hl => ?_⟩
    have s1 := same_new (o := .lst [V.int (z.length : Int)]) hl
    refine ⟨_, rfl, z, rfl, fun D hD => ?_⟩
    have s2 := s1.trans (same_new (o := .lst []) hD)
    refine lc_it walk_str (fun i H' => Same (upd H l (.lst [V.int (z.length : Int)])) H' ∧ H' D = some (.lst (((codesZ z).take i).map V.int))) ⟨same_new hD, upd_same⟩ (fun i H' _ h => trivial) ?_ ?_
    · rintro i v H1 H2 hi ⟨sm, hD1⟩ ⟨rfl, c, hc, rfl⟩
      have hc' : (codesZ z)[i]? = some ((c : Nat) : Int) := by
        unfold codesZ
        rw [List.getElem?_map, show z.cps.toList[i]? = some c by rw [Array.getElem?_toList]; exact hc]
        rfl
      refine ⟨rfl, _, rfl, _, rfl, rfl, _, hD1, ?_, ?_⟩
      · rw [List.length_map, List.length_take]
        exact len_le (by rw [codesZ_len]; omega)
      · refine ⟨same_set sm hD, ?_⟩
        rw [upd_same, List.take_add_one, hc', List.map_append]
        rfl
    · rintro H1 ⟨sm, hD1⟩
      rw [show z.cps.size = (codesZ z).length from (codesZ_len z).symm, List.take_length] at hD1
      refine ⟨l, D, _, _, rfl, rfl, sm _ _ upd_same, hD1, ?_, fun p hp => ?_⟩
      · rw [List.length_map, codesZ_len]
        exact Nat.le_trans (show 1 + z.length ≤ 2000 by omega) (by decide)
      · refine q p _ (s1.trans (sm.trans (same_new hp))) ((s1.trans sm).free hp) upd_same
def sp_value_part (T : Txt K mg) : Sp := fun vs H Q _ => ∃ (v : V) (d : PyData), vs = [v] ∧ ((∃ i, v = .int i ∧ d = .int i) ∨ (∃ z, v = .str z ∧ d = .str z ∧ z.length ≤ 8 ∧ PyData.strOk z = true) ∨ ∃ b, v = .bl b ∧ d = .bool b) ∧ ∀ p H', Same H H' → H p = none → H' p = some (.lst ((valPart d).map V.int)) → Q (.ref p) H'
set_option maxHeartbeats 4000000 in
theorem ok_value_part (T : Txt K mg) : FnOk P w K mg base CX0 2 T.f_value_part T.d_value_part ["worth"] (sp_value_part T) := by
  have G_string_part : FnOk P w K mg base CX0 1 T.f_string_part T.d_string_part ["text"] (sp_string_part T) := ok_string_part T
  have G_kind_of_value : FnOk P w K mg base CX0 1 T.f_kind_of_value T.d_kind_of_value ["worth"] (sp_kind_of_value T) := ok_kind_of_value T
  refine T.F_value_part.ok sc_value_part (fun vs H Q E h => ?_) (fun cdv A outer s H vs Q E hr h => ?_)
  · obtain ⟨v, d, rfl, _⟩ := h
    rfl
  · obtain ⟨v, d, rfl, hv, q⟩ := h
    refine ⟨_, (pss_cons (ps_set (i := 1) sc_value_part.nd rfl (.inl rfl) (pe_call G_kind_of_value (hr.mono (by decide)) (by rfl) T.g_kind_of_value T.F_kind_of_value.kp T.b_kind_of_value .nil pass0 (pa_cons (pv 0) pa_nil))) 
      (pss_cons (ps_if (pt_cmpR op_eq (pv 1) pe_str (nomark _)) (pss_one (ps_ret (pe_lst (pa_cons pe_int (pa_cons (pv 0) pa_nil))))) pss_nil) 
      (pss_cons (ps_if (pt_cmpR op_eq (pv 1) pe_str (nomark _)) (pss_one (ps_ret (pe_op op_cat (pe_lst (pa_cons pe_int pa_nil)) (pe_call G_string_part (hr.mono (by decide)) (by rfl) T.g_string_part T.F_string_part.kp T.b_string_part .nil pass0 (pa_cons (pv 0) pa_nil))))) pss_nil) 
      (pss_one (ps_ret (pe_lst (pa_cons pe_int (pa_cons (pe_ifExp (pt_val (pv 0)) pe_int pe_int) pa_nil)))))))), ?_⟩
    rcases hv with ⟨i, rfl, rfl⟩ | ⟨z, rfl, rfl, hz, _⟩ | ⟨b, rfl, rfl⟩
    · refine ⟨_, rfl, _, rfl, .inl ⟨i, rfl, ?_⟩⟩
      refine ⟨_, rfl, rfl, true, rfl, iteT ?_⟩
      exact ⟨_, rfl, (by show 2 ≤ sizeLine; decide), fun p hp => q p _ (same_new hp) hp upd_same⟩
    · refine ⟨_, rfl, _, rfl, .inr (.inl ⟨z, rfl, ?_⟩)⟩
      refine ⟨_, rfl, rfl, false, rfl, iteF ?_⟩
      refine ⟨_, rfl, rfl, true, rfl, iteT ?_⟩
      refine ⟨(by show 1 ≤ sizeLine; decide), fun l hl => ⟨_, rfl, z, rfl, by omega, fun p H1 s1 np hp => ?_⟩⟩
      refine ⟨l, p, _, _, rfl, rfl, s1 _ _ upd_same, hp, ?_, fun p2 hp2 => ?_⟩
      · rw [List.length_map, strPart_len]
        exact Nat.le_trans (show 1 + (z.length + 1) ≤ 2000 by omega) (by decide)
      · exact q p2 _ (((same_new hl).trans s1).trans (same_new hp2)) (((same_new hl).trans s1).free hp2) upd_same
    · refine ⟨_, rfl, _, rfl, .inr (.inr ⟨b, rfl, ?_⟩)⟩
      refine ⟨_, rfl, rfl, false, rfl, iteF ?_⟩
      refine ⟨_, rfl, rfl, false, rfl, iteF ?_⟩
      refine ⟨_, rfl, b, rfl, ?_⟩
      cases b
      · exact iteF ⟨(by show 2 ≤ sizeLine; decide), fun p hp => q p _ (same_new hp) hp upd_same⟩
      · exact iteT ⟨(by show 2 ≤ sizeLine; decide), fun p hp => q p _ (same_new hp) hp upd_same⟩
def sp_Record___init__ (T : Txt K mg) : Sp := fun vs H Q _ => ∃ (p dx pn pf pw : Addr) (z : Str) (vec : List Int) (fv wv : List V) (ps : List (Str × PyData)) (ws : List (Str × Int)), vs = [.ref p, .str z, .ref pn, .ref pf, .ref pw] ∧ (H p = some (.ins T.c_Record dx [])) ∧ (SqL K H pn (vec.map V.int)) ∧ (SqL K H pf fv) ∧ (Dts [] H fv (ps.map prD)) ∧ (SqL K H pw wv) ∧ (Dts [] H wv (ws.map wdD)) ∧ (fv.length ≤ 1000) ∧ (wv.length ≤ 1000) ∧ ∀ H', RecAt [] T.c_Record H' p z vec ps ws → (∀ b o, H b = some o → b ≠ p → H' b = some o) → Q .non H'
set_option maxHeartbeats 4000000 in
theorem ok_Record___init__ (T : Txt K mg) : FnOk P w K mg base CX0 1 T.f_Record___init__ T.d_Record___init__ ["self", "name", "vector", "fields", "words"] (sp_Record___init__ T) := by
  refine T.F_Record___init__.ok sc_Record___init__ (fun vs H Q E h => ?_) (fun cdv A outer s H vs Q E hr h => ?_)
  · obtain ⟨p, dx, pn, pf, pw, z, vec, fv, wv, ps, ws, rfl, _⟩ := h
    rfl
  · obtain ⟨p, dx, pn, pf, pw, z, vec, fv, wv, ps, ws, rfl, hp, hv, hf, tf, hw, tw, lf, lw, q⟩ := h
    refine ⟨_, PSs.nox (pss_cons (ps_fld (pv 0) (pv 1) rfl) 
      (pss_cons (ps_fld (pv 0) (pe_callTy call_tuple_of (by rfl) T.m_tuple (by decide +kernel) (pa_cons (pv 2) pa_nil)) rfl) 
      (pss_cons (ps_fld (pv 0) (pe_callTy call_tuple_of (by rfl) T.m_tuple (by decide +kernel) (pa_cons (pe_lc (own := [("pair", 5)]) (g := gName 5) rfl sc_Record___init__.nd (pi_list (pv 3)) (blkOk_by (own := [("pair", 5)]) (N := ["self", "name", "vector", "fields", "words", "pair"]) (sc := defScope s_Record___init__) (by decide +kernel)) (fun _ _ _ _ _ => (pg_name (i := 5) sc_Record___init__.nd rfl (Or.inl rfl))) (fun _ _ _ _ _ => pts_nil) (fun _ _ _ _ _ => (pe_callTy (r := rTupleB K) (by exact call_tuple_of) (by rfl) T.m_tuple (by decide +kernel) (pa_cons (pv 5) pa_nil)))) pa_nil)) rfl) 
      (pss_one (ps_fld (pv 0) (pe_callTy call_tuple_of (by rfl) T.m_tuple (by decide +kernel) (pa_cons (pe_lc (own := [("pair", 5)]) (g := gName 5) rfl sc_Record___init__.nd (pi_list (pv 4)) (blkOk_by (own := [("pair", 5)]) (N := ["self", "name", "vector", "fields", "words", "pair"]) (sc := defScope s_Record___init__) (by decide +kernel)) (fun _ _ _ _ _ => (pg_name (i := 5) sc_Record___init__.nd rfl (Or.inl rfl))) (fun _ _ _ _ _ => pts_nil) (fun _ _ _ _ _ => (pe_callTy (r := rTupleB K) (by exact call_tuple_of) (by rfl) T.m_tuple (by decide +kernel) (pa_cons (pv 5) pa_nil)))) pa_nil)) rfl))))), ?_⟩
    have g0 : ∀ {o : HO}, (upd H p o) p = some o := upd_same
    refine ⟨_, rfl, _, rfl, p, T.c_Record, dx, _, rfl, hp, T.cl_Record, T.n_Record_name, Nat.lt_of_le_of_lt (Nat.le_refl 0) (by decide), ?_⟩
    have k1 : Keep H (upd H p (.ins T.c_Record dx (putF "name" (.str z) []))) := Keep.ins hp
    refine ⟨_, rfl, pn, _, rfl, .inl ⟨k1.seq hv, fun tv nv => ?_⟩⟩
    have s2 := same_new (o := .tup (vec.map V.int)) nv
    refine ⟨_, rfl, p, T.c_Record, dx, _, rfl, s2 _ _ upd_same, T.cl_Record, T.n_Record_vector, Nat.lt_of_le_of_lt (putF_le (Nat.le_refl 0)) (by decide), ?_⟩
    have npv : tv ≠ p := fun e => by rw [e, upd_same] at nv; cases nv
    have k2 := k1.trans ((Keep.same s2).trans (Keep.ins (o := .ins T.c_Record dx (putF "vector" (.ref tv) (putF "name" (.str z) []))) (s2 _ _ upd_same)))
    have f2 : ∀ b o, H b = some o → b ≠ p → (upd (upd (upd H p (.ins T.c_Record dx (putF "name" (.str z) []))) tv (.tup (vec.map V.int))) p (.ins T.c_Record dx (putF "vector" (.ref tv) (putF "name" (.str z) [])))) b = some o := fun b o e n => by
      rw [upd_ne n]
      refine s2 _ _ ?_
      rw [upd_ne n]
      exact e
    have v2 : (upd (upd (upd H p (.ins T.c_Record dx (putF "name" (.str z) []))) tv (.tup (vec.map V.int))) p (.ins T.c_Record dx (putF "vector" (.ref tv) (putF "name" (.str z) [])))) tv = some (.tup (vec.map V.int)) := by
      rw [upd_ne npv]
      exact upd_same
    have p2 : (upd (upd (upd H p (.ins T.c_Record dx (putF "name" (.str z) []))) tv (.tup (vec.map V.int))) p (.ins T.c_Record dx (putF "vector" (.ref tv) (putF "name" (.str z) [])))) p = some (.ins T.c_Record dx (putF "vector" (.ref tv) (putF "name" (.str z) []))) := upd_same
    generalize upd (upd (upd H p (.ins T.c_Record dx (putF "name" (.str z) []))) tv (.tup (vec.map V.int))) p (.ins T.c_Record dx (putF "vector" (.ref tv) (putF "name" (.str z) []))) = H3 at k2 f2 v2 p2 ⊢
    have tf3 := tf.keep k2
    have hf3 := k2.seq hf

    refine ⟨_, rfl, pf, rfl, ⟨_, hf3⟩, fun D hD => ?_⟩
    refine lc_list (K := K) (a := pf) (xs := fv) (fun i H' => Same H3 H' ∧ H' D = some (.lst (fv.take i))) ⟨same_new hD, by rw [upd_same]; rfl⟩ (fun i H' _ h => h.1.seq hf3) ?_ ?_
    · rintro i v H2 hi ⟨sm, hD1⟩
      obtain ⟨t, ws, rfl, et⟩ := Dts.refT (fun a => ⟨_, rfl⟩) tf3 hi
      refine ⟨rfl, _, rfl, t, ws, rfl, .inr ⟨SqT.of (sm _ _ et), _, hD1, ?_, same_set sm hD, ?_⟩⟩
      · rw [List.length_take]
        exact len_le (by omega)
      · rw [upd_same, List.take_add_one, hi]
        rfl
    rintro H3' ⟨sm, hD1⟩
    rw [List.take_length] at hD1
    refine ⟨D, _, rfl, .inl ⟨SqL.of hD1, fun tf0 nf => ?_⟩⟩
    have sf := sm.trans (same_new (o := .tup fv) nf)
    refine ⟨_, rfl, p, T.c_Record, dx, _, rfl, sf _ _ p2, T.cl_Record, T.n_Record_fields, Nat.lt_of_le_of_lt (putF_le (putF_le (Nat.le_refl 0))) (by decide), ?_⟩

    have k4 := k2.trans ((Keep.same sf).trans (Keep.ins (o := .ins T.c_Record dx (putF "fields" (.ref tf0) (putF "vector" (.ref tv) (putF "name" (.str z) [])))) (sf _ _ p2)))

    have nfp : tf0 ≠ p := fun e => by
      have := sm _ _ p2
      rw [← e, nf] at this
      cases this
    have f4 : ∀ b o, H3 b = some o → b ≠ p → (upd (upd H3' tf0 (.tup fv)) p (.ins T.c_Record dx (putF "fields" (.ref tf0) (putF "vector" (.ref tv) (putF "name" (.str z) []))))) b = some o := fun b o e n => by
      rw [upd_ne n]
      exact sf _ _ e
    have x4 : (upd (upd H3' tf0 (.tup fv)) p (.ins T.c_Record dx (putF "fields" (.ref tf0) (putF "vector" (.ref tv) (putF "name" (.str z) []))))) tf0 = some (.tup fv) := by
      rw [upd_ne nfp]
      exact upd_same
    have p4 : (upd (upd H3' tf0 (.tup fv)) p (.ins T.c_Record dx (putF "fields" (.ref tf0) (putF "vector" (.ref tv) (putF "name" (.str z) []))))) p = some (.ins T.c_Record dx (putF "fields" (.ref tf0) (putF "vector" (.ref tv) (putF "name" (.str z) [])))) := upd_same
    generalize upd (upd H3' tf0 (.tup fv)) p (.ins T.c_Record dx (putF "fields" (.ref tf0) (putF "vector" (.ref tv) (putF "name" (.str z) [])))) = H5 at k4 f4 x4 p4 ⊢
    have tw5 := tw.keep k4
    have hw5 := k4.seq hw
    clear sm hD1

    refine ⟨_, rfl, pw, rfl, ⟨_, hw5⟩, fun D hD => ?_⟩
    refine lc_list (K := K) (a := pw) (xs := wv) (fun i H' => Same H5 H' ∧ H' D = some (.lst (wv.take i))) ⟨same_new hD, by rw [upd_same]; rfl⟩ (fun i H' _ h => h.1.seq hw5) ?_ ?_
    · rintro i v H2 hi ⟨sm, hD1⟩
      obtain ⟨t, ws, rfl, et⟩ := Dts.refT (fun a => ⟨_, rfl⟩) tw5 hi
      refine ⟨rfl, _, rfl, t, ws, rfl, .inr ⟨SqT.of (sm _ _ et), _, hD1, ?_, same_set sm hD, ?_⟩⟩
      · rw [List.length_take]
        exact len_le (by omega)
      · rw [upd_same, List.take_add_one, hi]
        rfl
    rintro H5' ⟨sm, hD1⟩
    rw [List.take_length] at hD1
    refine ⟨D, _, rfl, .inl ⟨SqL.of hD1, fun tw0 nw => ?_⟩⟩
    have sw := sm.trans (same_new (o := .tup wv) nw)
    refine ⟨_, rfl, p, T.c_Record, dx, _, rfl, sw _ _ p4, T.cl_Record, T.n_Record_words, Nat.lt_of_le_of_lt (putF_le (putF_le (putF_le (Nat.le_refl 0)))) (by decide), ?_⟩

    have nwp : tw0 ≠ p := fun e => by
      have := sm _ _ p4
      rw [← e, nw] at this
      cases this
    have f6 : ∀ b o, H5 b = some o → b ≠ p → (upd (upd H5' tw0 (.tup wv)) p (.ins T.c_Record dx (ff_Record (.str z) (.ref tv) (.ref tf0) (.ref tw0)))) b = some o := fun b o e n => by
      rw [upd_ne n]
      exact sw _ _ e
    refine q _ ⟨(fun z => by cases z), dx, tv, tf0, tw0, upd_same, (fun z => by cases z), f6 _ _ (f4 _ _ v2 npv) npv, ?_, ?_⟩ (fun b o e n => f6 b o (f4 b o (f2 b o e n) n) n)
    · refine .tup (fun z => by cases z) (f6 _ _ x4 nfp) (tf.keep (k4.trans ((Keep.same sw).trans (Keep.ins (sw _ _ p4)))))
    · refine .tup (fun z => by cases z) (by rw [upd_ne nwp]; exact upd_same) (tw.keep (k4.trans ((Keep.same sw).trans (Keep.ins (sw _ _ p4)))))
def sp_row_of (T : Txt K mg) : Sp := fun vs H Q _ => ∃ (n : Int) (r : Addr) (z : Str) (vec : List Int) (ps : List (Str × PyData)) (ws : List (Str × Int)), vs = [.int n, .ref r] ∧ (RecAt [] T.c_Record H r z vec ps ws) ∧ (z.length ≤ 8) ∧ (vec.length ≤ 100) ∧ (PairsOk ps) ∧ (WordsOk ws) ∧ ∀ p H', Same H H' → H p = none → H' p = some (.lst ((rowZ n z vec ps ws).map V.int)) → Q (.ref p) H'
set_option maxHeartbeats 8000000 in
theorem ok_row_of (T : Txt K mg) : FnOk P w K mg base CX0 3 T.f_row_of T.d_row_of ["number", "record"] (sp_row_of T) := by
  have G_string_part : FnOk P w K mg base CX0 1 T.f_string_part T.d_string_part ["text"] (sp_string_part T) := ok_string_part T
  have G_value_part : FnOk P w K mg base CX0 2 T.f_value_part T.d_value_part ["worth"] (sp_value_part T) := ok_value_part T
  refine T.F_row_of.ok sc_row_of (fun vs H Q E h => ?_) (fun cdv A outer s H vs Q E hr h => ?_)
  · obtain ⟨n, r, z, vec, ps, ws, rfl, _⟩ := h
    rfl
  · obtain ⟨n, r, z, vec, ps, ws, rfl, hR, lz, lv, pok, wok, q⟩ := h
    refine ⟨_, (pss_cons (ps_set (i := 2) sc_row_of.nd rfl (.inl rfl) (pe_lst (pa_cons (pv 0) pa_nil))) 
      (pss_cons (ps_expr (pe_bm PySem.F.plainAttrs_list PySem.F.slot_list_extend PySem.F.type_list_extend mt_extend (pv 2) (pa_cons (pe_call G_string_part (hr.mono (by decide)) (by rfl) T.g_string_part T.F_string_part.kp T.b_string_part .nil pass0 (pa_cons (pe_fld (pv 1) rfl) pa_nil)) pa_nil))) 
      (pss_cons (ps_expr (pe_bm PySem.F.plainAttrs_list PySem.F.slot_list_append PySem.F.type_list_append mt_append (pv 2) (pa_cons (pe_callB call_len_seq (by rfl) T.m_len PySem.boot_len (pa_cons (pe_fld (pv 1) rfl) pa_nil)) pa_nil))) 
      (pss_cons (ps_expr (pe_bm PySem.F.plainAttrs_list PySem.F.slot_list_extend PySem.F.type_list_extend mt_extendT (pv 2) (pa_cons (pe_fld (pv 1) rfl) pa_nil))) 
      (pss_cons (ps_expr (pe_bm PySem.F.plainAttrs_list PySem.F.slot_list_append PySem.F.type_list_append mt_append (pv 2) (pa_cons (pe_callB call_len_seq (by rfl) T.m_len PySem.boot_len (pa_cons (pe_fld (pv 1) rfl) pa_nil)) pa_nil))) 
      (pss_cons (ps_for PassesOwn.never rfl (pi_tup (pe_fld (pv 1) rfl)) (pg_tup rfl (pgs_cons (pg_name (i := 3) sc_row_of.nd rfl (.inl rfl)) (pgs_cons (pg_name (i := 4) sc_row_of.nd rfl (.inl rfl)) pgs_nil))) (pss_cons (ps_expr (pe_bm PySem.F.plainAttrs_list PySem.F.slot_list_extend PySem.F.type_list_extend mt_extend (pv 2) (pa_cons (pe_call G_string_part (hr.mono (by decide)) (by rfl) T.g_string_part T.F_string_part.kp T.b_string_part .nil pass0 (pa_cons (pv 3) pa_nil)) pa_nil))) 
      (pss_one (ps_expr (pe_bm PySem.F.plainAttrs_list PySem.F.slot_list_extend PySem.F.type_list_extend mt_extend (pv 2) (pa_cons (pe_call G_value_part (hr.mono (by decide)) (by rfl) T.g_value_part T.F_value_part.kp T.b_value_part .nil pass0 (pa_cons (pv 4) pa_nil)) pa_nil)))))) 
      (pss_cons (ps_expr (pe_bm PySem.F.plainAttrs_list PySem.F.slot_list_append PySem.F.type_list_append mt_append (pv 2) (pa_cons (pe_callB call_len_seq (by rfl) T.m_len PySem.boot_len (pa_cons (pe_fld (pv 1) rfl) pa_nil)) pa_nil))) 
      (pss_cons (ps_for PassesOwn.never rfl (pi_tup (pe_fld (pv 1) rfl)) (pg_tup rfl (pgs_cons (pg_name (i := 5) sc_row_of.nd rfl (.inl rfl)) (pgs_cons (pg_name (i := 6) sc_row_of.nd rfl (.inl rfl)) pgs_nil))) (pss_cons (ps_expr (pe_bm PySem.F.plainAttrs_list PySem.F.slot_list_extend PySem.F.type_list_extend mt_extend (pv 2) (pa_cons (pe_call G_string_part (hr.mono (by decide)) (by rfl) T.g_string_part T.F_string_part.kp T.b_string_part .nil pass0 (pa_cons (pv 5) pa_nil)) pa_nil))) 
      (pss_one (ps_expr (pe_bm PySem.F.plainAttrs_list PySem.F.slot_list_append PySem.F.type_list_append mt_append (pv 2) (pa_cons (pv 6) pa_nil)))))) 
      (pss_one (ps_ret (pv 2))))))))))), ?_⟩
    obtain ⟨_, dx, tv, tf, tw, hr, _, hv, hf, hw⟩ := id hR
    obtain ⟨tf', vf, ef, _, gf, xf⟩ := hf.isT
    cases ef
    obtain ⟨tw', vw, ew, _, gw, xw⟩ := hw.isT
    cases ew
    have lf := xf.length
    have lw := xw.length
    rw [List.length_map] at lf lw
    have lp8 := pok.len
    have lw8 := wok.len
    refine ⟨_, rfl, (by show 1 ≤ sizeLine; decide), fun R nR => ?_⟩
    have ap : ∀ {cur : List Int} {xs : List V} {ys : List Int}, xs = cur.map V.int → xs ++ ys.map V.int = (cur ++ ys).map V.int := fun {cur xs ys} e => by rw [e, List.map_append]
    have s0 : Same H (upd H R (.lst [V.int n])) := same_new nR
    have h0 : (upd H R (.lst [V.int n])) R = some (.lst (([n] : List Int).map V.int)) := upd_same
    generalize upd H R (.lst [V.int n]) = H0 at s0 h0 ⊢
    -- row.extend(string_part(record.name))
    refine ⟨_, rfl, .inl ⟨rfl, _, SqL.of h0⟩, _, rfl, r, T.c_Record, dx, _, _, rfl, (s0 _ _ hr), T.cl_Record, T.n_Record_name, lk_Record_name, z, rfl, by omega, fun p H1 s1 np hp => ⟨R, p, _, _, rfl, rfl, s1 _ _ h0, hp, ?_, ?_⟩⟩
    · rw [List.length_map, List.length_map, strPart_len]
      exact Nat.le_trans (show 1 + (z.length + 1) ≤ 1000 by omega) (by decide)
    replace s1 := same_set (o := .lst ((([n] : List Int).map V.int) ++ (strPart z).map V.int)) (s0.trans s1) nR
    have h1 : (upd H1 R (.lst ((([n] : List Int).map V.int) ++ (strPart z).map V.int))) R = some (.lst (([n] ++ strPart z).map V.int)) := by rw [upd_same, List.map_append]
    generalize upd H1 R (.lst ((([n] : List Int).map V.int) ++ (strPart z).map V.int)) = H2 at s1 h1 ⊢
    -- row.append(len(record.vector))
    refine ⟨_, rfl, .inl ⟨rfl, _, SqL.of h1⟩, _, rfl, r, T.c_Record, dx, _, _, rfl, (s1 _ _ hr), T.cl_Record, T.n_Record_vector, lk_Record_vector, tv, _, rfl, .inr (SqT.of (s1 _ _ hv)), R, _, _, rfl, rfl, h1, ?_, ?_⟩
    · rw [List.length_map, List.length_append, strPart_len]
      exact len_le (by simp; omega)
    rw [List.length_map]
    have s2 := same_set (o := .lst (([n] ++ strPart z).map V.int ++ [V.int (vec.length : Int)])) s1 nR
    have h2 : (upd H2 R (.lst (([n] ++ strPart z).map V.int ++ [V.int (vec.length : Int)]))) R = some (.lst (([n] ++ strPart z ++ [(vec.length : Int)]).map V.int)) := by rw [upd_same, List.map_append (l₂ := [(vec.length : Int)])]; rfl
    generalize upd H2 R (.lst (([n] ++ strPart z).map V.int ++ [V.int (vec.length : Int)])) = H3 at s2 h2 ⊢
    -- row.extend(record.vector)
    refine ⟨_, rfl, .inl ⟨rfl, _, SqL.of h2⟩, _, rfl, r, T.c_Record, dx, _, _, rfl, (s2 _ _ hr), T.cl_Record, T.n_Record_vector, lk_Record_vector, R, tv, _, _, rfl, rfl, h2, s2 _ _ hv, ?_, ?_⟩
    · rw [List.length_map, List.length_map, List.length_append, List.length_append, strPart_len]
      exact Nat.le_trans (show _ ≤ 1000 by simp; omega) (by decide)
    rw [← List.map_append]
    have s3 := same_set (o := .lst (([n] ++ strPart z ++ [(vec.length : Int)] ++ vec).map V.int)) s2 nR
    have h3 : (upd H3 R (.lst (([n] ++ strPart z ++ [(vec.length : Int)] ++ vec).map V.int))) R = some (.lst (([n] ++ strPart z ++ [(vec.length : Int)] ++ vec).map V.int)) := upd_same
    generalize upd H3 R (.lst (([n] ++ strPart z ++ [(vec.length : Int)] ++ vec).map V.int)) = H4 at s3 h3 ⊢
    -- row.append(len(record.fields))
    refine ⟨_, rfl, .inl ⟨rfl, _, SqL.of h3⟩, _, rfl, r, T.c_Record, dx, _, _, rfl, (s3 _ _ hr), T.cl_Record, T.n_Record_fields, lk_Record_fields, tf, _, rfl, .inr (SqT.of (s3 _ _ gf)), R, _, _, rfl, rfl, h3, ?_, ?_⟩
    · rw [List.length_map, List.length_append, List.length_append, List.length_append, strPart_len]
      exact len_le (by simp; omega)
    rw [lf]
    have s4 := same_set (o := .lst (([n] ++ strPart z ++ [(vec.length : Int)] ++ vec).map V.int ++ [V.int (ps.length : Int)])) s3 nR
    have h4 : (upd H4 R (.lst (([n] ++ strPart z ++ [(vec.length : Int)] ++ vec).map V.int ++ [V.int (ps.length : Int)]))) R = some (.lst ((row0 n z vec ps.length).map V.int)) := by unfold row0; rw [upd_same, List.map_append (l₂ := [(ps.length : Int)])]; rfl
    generalize upd H4 R (.lst (([n] ++ strPart z ++ [(vec.length : Int)] ++ vec).map V.int ++ [V.int (ps.length : Int)])) = H5 at s4 h4 ⊢
    have l0 : (row0 n z vec ps.length).length ≤ 120 := by
      unfold row0
      simp only [List.length_append, List.length_singleton, strPart_len]
      omega
    have lq : ∀ i, ((ps.take i).flatMap prRow).length ≤ 152 := fun i => by
      have h := flat_len (f := prRow) (c := 19) (l := ps.take i) fun x hx => prRow_len (pok.vals x (List.mem_of_mem_take hx)) (pok.names x (List.mem_of_mem_take hx)).2
      have : (ps.take i).length ≤ 8 := by rw [List.length_take]; omega
      omega
    have lqw : ∀ i, ((ws.take i).flatMap wdRow).length ≤ 80 := fun i => by
      have h := flat_len (f := wdRow) (c := 10) (l := ws.take i) fun x hx => wdRow_len (wok.words x (List.mem_of_mem_take hx)).2
      have : (ws.take i).length ≤ 8 := by rw [List.length_take]; omega
      omega
    -- for name, worth in record.fields
    refine ⟨_, rfl, r, T.c_Record, dx, _, _, rfl, (s4 _ _ hr), T.cl_Record, T.n_Record_fields, lk_Record_fields, tf, rfl, ⟨_, SqT.of (s4 _ _ gf)⟩, ?_⟩
    refine for_tup (K := K) (a := tf) (xs := vf) (fun i σ H' => Same H H' ∧ H' R = some (.lst ((row0 n z vec ps.length ++ (ps.take i).flatMap prRow).map V.int)) ∧ ∃ x3 x4, σ = [some (.int n), some (.ref r), some (.ref R), x3, x4, none, none]) ⟨s4, by rw [List.take_zero, List.flatMap_nil, List.append_nil]; exact h4, _, _, rfl⟩ (fun i σ H' _ h => SqT.of (h.1 _ _ gf)) ?_ ?_
    · rintro i v σ H6 hi ⟨s6, h6, x3, x4, rfl⟩
      obtain ⟨d, ed, xd⟩ := xf.get hi
      rw [List.getElem?_map] at ed
      cases ep : ps[i]? with
      | none =>
        rw [ep] at ed
        cases ed
      | some p =>
        rw [ep] at ed
        have := Option.some.inj ed
        subst this
        obtain ⟨t, w, rfl, _, et, xw'⟩ := xd.isP
        have mp := List.mem_of_getElem? ep
        have n8 := (pok.names p mp).2
        refine ⟨t, _, rfl, SqT.of (s6 _ _ et), rfl, _, _, rfl, _, _, rfl, rfl, ?_⟩
        refine ⟨_, rfl, .inl ⟨rfl, _, SqL.of h6⟩, _, rfl, p.1, rfl, by omega, fun q1 H7 s7 nq hq => ⟨R, q1, _, _, rfl, rfl, s7 _ _ h6, hq, ?_, ?_⟩⟩
        · rw [List.length_map, List.length_map, List.length_append, strPart_len]
          have := lq i
          exact Nat.le_trans (show _ ≤ 1000 by omega) (by decide)
        rw [← List.map_append]
        have s8 := same_set (o := .lst ((row0 n z vec ps.length ++ (ps.take i).flatMap prRow ++ strPart p.1).map V.int)) (s6.trans s7) nR
        have h8 : (upd H7 R (.lst ((row0 n z vec ps.length ++ (ps.take i).flatMap prRow ++ strPart p.1).map V.int))) R = some (.lst ((row0 n z vec ps.length ++ (ps.take i).flatMap prRow ++ strPart p.1).map V.int)) := upd_same
        generalize upd H7 R (.lst ((row0 n z vec ps.length ++ (ps.take i).flatMap prRow ++ strPart p.1).map V.int)) = H8 at s8 h8 ⊢
        refine ⟨_, rfl, .inl ⟨rfl, _, SqL.of h8⟩, _, rfl, w, p.2, rfl, val_cases xw' (pok.vals p mp), fun q2 H9 s9 nq2 hq2 => ⟨R, q2, _, _, rfl, rfl, s9 _ _ h8, hq2, ?_, ?_⟩⟩
        · rw [List.length_map, List.length_map, List.length_append, List.length_append, strPart_len]
          have := lq i
          have := valPart_len (pok.vals p mp)
          exact Nat.le_trans (show _ ≤ 1000 by omega) (by decide)
        rw [← List.map_append]
        refine ⟨same_set (s8.trans s9) nR, ?_, _, _, rfl⟩
        rw [upd_same, flat_take ep]
        unfold prRow
        simp only [List.append_assoc]
    rintro σ H6 ⟨s6, h6, x3, x4, rfl⟩
    rw [lf, List.take_length] at h6
    -- row.append(len(record.words))
    refine ⟨_, rfl, .inl ⟨rfl, _, SqL.of h6⟩, _, rfl, r, T.c_Record, dx, _, _, rfl, (s6 _ _ hr), T.cl_Record, T.n_Record_words, lk_Record_words, tw, _, rfl, .inr (SqT.of (s6 _ _ gw)), R, _, _, rfl, rfl, h6, ?_, ?_⟩
    · rw [List.length_map, List.length_append]
      have := lq ps.length
      rw [List.take_length] at this
      exact len_le (by omega)
    rw [lw]
    have s7 := same_set (o := .lst ((row0 n z vec ps.length ++ ps.flatMap prRow).map V.int ++ [V.int (ws.length : Int)])) s6 nR
    have h7 : (upd H6 R (.lst ((row0 n z vec ps.length ++ ps.flatMap prRow).map V.int ++ [V.int (ws.length : Int)]))) R = some (.lst ((row1 n z vec ps ++ [(ws.length : Int)]).map V.int)) := by unfold row1; rw [upd_same, List.map_append (l₂ := [(ws.length : Int)])]; rfl
    generalize upd H6 R (.lst ((row0 n z vec ps.length ++ ps.flatMap prRow).map V.int ++ [V.int (ws.length : Int)])) = H7 at s7 h7 ⊢
    have l1 : (row1 n z vec ps ++ [(ws.length : Int)]).length ≤ 300 := by
      unfold row1
      have := lq ps.length
      rw [List.take_length] at this
      simp only [List.length_append, List.length_singleton]
      omega
    -- for word, count in record.words
    refine ⟨_, rfl, r, T.c_Record, dx, _, _, rfl, (s7 _ _ hr), T.cl_Record, T.n_Record_words, lk_Record_words, tw, rfl, ⟨_, SqT.of (s7 _ _ gw)⟩, ?_⟩
    refine for_tup (K := K) (a := tw) (xs := vw) (fun i σ H' => Same H H' ∧ H' R = some (.lst ((row1 n z vec ps ++ [(ws.length : Int)] ++ (ws.take i).flatMap wdRow).map V.int)) ∧ ∃ x5 x6, σ = [some (.int n), some (.ref r), some (.ref R), x3, x4, x5, x6]) ⟨s7, by rw [List.take_zero, List.flatMap_nil, List.append_nil]; exact h7, _, _, rfl⟩ (fun i σ H' _ h => SqT.of (h.1 _ _ gw)) ?_ ?_
    · rintro i v σ H8 hi ⟨s8, h8, x5, x6, rfl⟩
      obtain ⟨d, ed, xd⟩ := xw.get hi
      rw [List.getElem?_map] at ed
      cases ep : ws[i]? with
      | none =>
        rw [ep] at ed
        cases ed
      | some p =>
        rw [ep] at ed
        have := Option.some.inj ed
        subst this
        obtain ⟨t, w, rfl, _, et, xw'⟩ := xd.isP
        rw [xw'.isI] at et
        have n8 := (wok.words p (List.mem_of_getElem? ep)).2
        have := lqw i
        refine ⟨t, _, rfl, SqT.of (s8 _ _ et), rfl, _, _, rfl, _, _, rfl, rfl, ?_⟩
        refine ⟨_, rfl, .inl ⟨rfl, _, SqL.of h8⟩, _, rfl, p.1, rfl, by omega, fun q1 H9 s9 nq hq => ⟨R, q1, _, _, rfl, rfl, s9 _ _ h8, hq, ?_, ?_⟩⟩
        · rw [List.length_map, List.length_map, List.length_append, strPart_len]
          exact Nat.le_trans (show _ ≤ 1000 by omega) (by decide)
        rw [← List.map_append]
        have sa := same_set (o := .lst ((row1 n z vec ps ++ [(ws.length : Int)] ++ (ws.take i).flatMap wdRow ++ strPart p.1).map V.int)) (s8.trans s9) nR
        have ha : (upd H9 R (.lst ((row1 n z vec ps ++ [(ws.length : Int)] ++ (ws.take i).flatMap wdRow ++ strPart p.1).map V.int))) R = some (.lst ((row1 n z vec ps ++ [(ws.length : Int)] ++ (ws.take i).flatMap wdRow ++ strPart p.1).map V.int)) := upd_same
        generalize upd H9 R (.lst ((row1 n z vec ps ++ [(ws.length : Int)] ++ (ws.take i).flatMap wdRow ++ strPart p.1).map V.int)) = Ha at sa ha ⊢
        refine ⟨_, rfl, .inl ⟨rfl, _, SqL.of ha⟩, _, rfl, R, _, _, rfl, rfl, ha, ?_, same_set sa nR, ?_, _, _, rfl⟩
        · rw [List.length_map, List.length_append, List.length_append, strPart_len]
          exact len_le (by omega)
        · rw [upd_same, flat_take ep]
          unfold wdRow
          simp only [List.map_append, List.append_assoc]
          rfl
    rintro σ H8 ⟨s8, h8, x5, x6, rfl⟩
    rw [lw, List.take_length] at h8
    refine ⟨_, rfl, q R H8 s8 nR h8⟩
def sp_law_string (T : Txt K mg) : Sp := fun vs H Q _ => ∃ (a : Addr) (pre post : List Int) (z : Str) (i : Int), vs = [.ref a, .int i] ∧ (H a = some (.lst ((pre ++ strPart z ++ post).map V.int))) ∧ (i = (pre.length : Int)) ∧ (z.length ≤ 100) ∧ ∀ t p H', Same H H' → H' p = some (.lst ((codesZ z).map V.int)) → H' t = some (.tup [.ref p, .int ((pre ++ strPart z).length : Nat)]) → Q (.ref t) H'
set_option maxHeartbeats 4000000 in
theorem ok_law_string (T : Txt K mg) : FnOk P w K mg base CX0 1 T.f_law_string T.d_law_string ["row", "at"] (sp_law_string T) := by
  refine T.F_law_string.ok sc_law_string (fun vs H Q E h => ?_) (fun cdv A outer s H vs Q E hr h => ?_)
  · obtain ⟨a, pre, post, z, i, rfl, _⟩ := h
    rfl
  · obtain ⟨a, pre, post, z, i, rfl, ha, hi, lz, q⟩ := h
    refine ⟨_, (pss_cons (ps_setLc (i := 2) (own := [("k", 3)]) (g := gName 3) rfl sc_law_string.nd rfl rfl (sw_true rfl rfl rfl (by decide +kernel)) (pi_range1 rfl T.m_range (pa_cons (pe_ix ix_list (pv 0) (pv 1) (fun _ _ => rfl)) pa_nil)) (blkOk_by (own := [("k", 3)]) (N := ["row", "at", "text", "k"]) (sc := defScope s_law_string) (by decide +kernel)) (fun _ _ _ _ _ => (pg_name (i := 3) sc_law_string.nd rfl (Or.inl rfl))) (fun _ _ _ _ _ => pts_nil) (fun _ _ _ _ _ => (pe_ix (r := rIxL K) (by exact ix_list) (pv 0) (pe_op op_add (pe_op op_add (pv 1) pe_int) (pv 3)) (fun _ _ => rfl)))) 
      (pss_one (ps_ret (pe_tup (pa_cons (pv 2) (pa_cons (pe_op op_add (pe_op op_add (pv 1) pe_int) (pe_ix ix_list (pv 0) (pv 1) (fun _ _ => rfl))) pa_nil)))))), ?_⟩
    have g0 : atI ((pre ++ strPart z ++ post).map V.int) i = some (.int (z.length : Int)) := at_of (j := pre.length + 0) (by omega) (map_get (mid_get rfl))
    refine ⟨_, rfl, _, rfl, a, _, _, _, rfl, rfl, SqL.of ha, g0, (z.length : Int), rfl, by omega, by omega, fun D hD => ?_⟩
    refine lc_range (lo := 0) (n := ((z.length : Int)).toNat) (fun k H' => Same H H' ∧ H' D = some (.lst (((codesZ z).take k).map V.int))) ⟨same_new hD, upd_same⟩ ?_ ?_
    · rintro k H1 hk ⟨sm, hD1⟩
      obtain ⟨c, hc⟩ : ∃ c, (codesZ z)[k]? = some c := ⟨_, List.getElem?_eq_getElem (by rw [codesZ_len]; omega)⟩
      have g1 : atI ((pre ++ strPart z ++ post).map V.int) (i + 1 + (0 + (k : Int))) = some (.int c) := at_of (j := pre.length + (k + 1)) (by omega) (map_get (mid_get hc))
      refine ⟨rfl, _, rfl, _, rfl, _, _, rfl, rfl, _, rfl, _, _, rfl, rfl, a, _, _, _, rfl, rfl, SqL.of (sm _ _ ha), g1, _, hD1, ?_, same_set sm hD, ?_⟩
      · rw [List.length_map, List.length_take]
        exact len_le (by rw [codesZ_len]; omega)
      · rw [upd_same, List.take_add_one, hc, List.map_append]
        rfl
    rintro H1 ⟨sm, hD1⟩
    rw [show ((z.length : Int)).toNat = (codesZ z).length by rw [codesZ_len]; omega, List.take_length] at hD1
    refine ⟨_, rfl, _, rfl, _, _, rfl, rfl, _, rfl, _, rfl, a, _, _, _, rfl, rfl, SqL.of (sm _ _ ha), g0, _, _, rfl, rfl, (by show 2 ≤ sizeLine; decide), fun t ht => ?_⟩
    refine q t D _ (sm.trans (same_new ht)) (same_new ht _ _ hD1) ?_
    rw [upd_same]
    dsimp only
    have : i + 1 + (z.length : Int) = (((pre ++ strPart z).length : Nat) : Int) := by rw [List.length_append, strPart_len]; omega
    rw [this]
def sp_law_codes (T : Txt K mg) : Sp := fun vs H Q _ => ∃ (z : Str), vs = [.str z] ∧ (z.length ≤ 1000) ∧ ∀ p H', Same H H' → H' p = some (.lst ((codesZ z).map V.int)) → Q (.ref p) H'
set_option maxHeartbeats 4000000 in
theorem ok_law_codes (T : Txt K mg) : FnOk P w K mg base CX0 1 T.f_law_codes T.d_law_codes ["text"] (sp_law_codes T) := by
  refine T.F_law_codes.ok sc_law_codes (fun vs H Q E h => ?_) (fun cdv A outer s H vs Q E hr h => ?_)
  · obtain ⟨z, rfl, _⟩ := h
    rfl
  · obtain ⟨z, rfl, hz, q⟩ := h
    refine ⟨_, (pss_one (ps_ret (pe_lc (own := [("sign", 1)]) (g := gName 1) rfl sc_law_codes.nd (pi_str (pv 0)) (blkOk_by (own := [("sign", 1)]) (N := ["text", "sign"]) (sc := defScope s_law_codes) (by decide +kernel)) (fun _ _ _ _ _ => (pg_name (i := 1) sc_law_codes.nd rfl (Or.inl rfl))) (fun _ _ _ _ _ => pts_nil) (fun _ _ _ _ _ => (pe_callB call_ord (by rfl) T.m_ord (by decide +kernel) (pa_cons (pv 1) pa_nil)))))), ?_⟩
    refine ⟨_, rfl, z, rfl, fun D hD => ?_⟩
    refine lc_it walk_str (fun i H' => Same H H' ∧ H' D = some (.lst (((codesZ z).take i).map V.int))) ⟨same_new hD, upd_same⟩ (fun i H' _ h => trivial) ?_ ?_
    · rintro i v H1 H2 hi ⟨sm, hD1⟩ ⟨rfl, c, hc, rfl⟩
      have hc' : (codesZ z)[i]? = some ((c : Nat) : Int) := by
        unfold codesZ
        rw [List.getElem?_map, show z.cps.toList[i]? = some c by rw [Array.getElem?_toList]; exact hc]
        rfl
      refine ⟨rfl, _, rfl, _, rfl, rfl, _, hD1, ?_, ?_⟩
      · rw [List.length_map, List.length_take]
        exact len_le (by rw [codesZ_len]; omega)
      · refine ⟨same_set sm hD, ?_⟩
        rw [upd_same, List.take_add_one, hc', List.map_append]
        rfl
    · rintro H1 ⟨sm, hD1⟩
      rw [show z.cps.size = (codesZ z).length from (codesZ_len z).symm, List.take_length] at hD1
      exact q D H1 sm hD1
def sp_law_size (T : Txt K mg) : Sp := fun vs H Q _ => ∃ (z : Str) (pvc pp pw : Addr) (vec : List Int) (ps : List (Str × PyData)) (ws : List (Str × Int)) (n : Int), vs = [.str z, .ref pvc, .ref pp, .ref pw] ∧ (H pvc = some (.lst (vec.map V.int))) ∧ (Dt [] H (.ref pp) (.list (ps.map prD))) ∧ (Dt [] H (.ref pw) (.list (ws.map wdD))) ∧ (z.length ≤ 8) ∧ (vec.length ≤ 100) ∧ (PairsOk ps) ∧ (WordsOk ws) ∧ Q (.int ((rowZ n z vec ps ws).length : Nat)) H
set_option maxHeartbeats 4000000 in
theorem ok_law_size (T : Txt K mg) : FnOk P w K mg base CX0 1 T.f_law_size T.d_law_size ["name", "vector", "pairs", "words"] (sp_law_size T) := by
  refine T.F_law_size.ok sc_law_size (fun vs H Q E h => ?_) (fun cdv A outer s H vs Q E hr h => ?_)
  · obtain ⟨z, pvc, pp, pw, vec, ps, ws, n, rfl, _⟩ := h
    rfl
  · obtain ⟨z, pvc, pp, pw, vec, ps, ws, n, rfl, hv, xp, xw, lz, lv, pok, wok, q⟩ := h
    refine ⟨_, (pss_cons (ps_set (i := 4) sc_law_size.nd rfl (.inl rfl) (pe_op op_add (pe_op op_add pe_int (pe_callB call_len_str (by rfl) T.m_len PySem.boot_len (pa_cons (pv 0) pa_nil))) (pe_callB call_len_seq (by rfl) T.m_len PySem.boot_len (pa_cons (pv 1) pa_nil)))) 
      (pss_cons (ps_for PassesOwn.never rfl (pi_list (pv 2)) (pg_tup rfl (pgs_cons (pg_name (i := 5) sc_law_size.nd rfl (.inl rfl)) (pgs_cons (pg_name (i := 6) sc_law_size.nd rfl (.inl rfl)) pgs_nil))) (pss_cons (ps_set (i := 4) sc_law_size.nd rfl (.inl rfl) (pe_op op_add (pe_op op_add (pe_op op_add (pv 4) pe_int) (pe_callB call_len_str (by rfl) T.m_len PySem.boot_len (pa_cons (pv 5) pa_nil))) pe_int)) 
      (pss_one (ps_if (pt_val (pe_callB call_isi (by rfl) T.m_isinstance (by decide +kernel) (pa_cons (pv 6) (pa_cons (pe_bltn (v := .ty "str") (u := .type "str") (by rfl) T.m_str (by decide +kernel) rfl) pa_nil)))) (pss_one (ps_set (i := 4) sc_law_size.nd rfl (.inl rfl) (pe_op op_add (pv 4) (pe_callB call_len_str (by rfl) T.m_len PySem.boot_len (pa_cons (pv 6) pa_nil))))) pss_nil)))) 
      (pss_cons (ps_for PassesOwn.never rfl (pi_list (pv 3)) (pg_tup rfl (pgs_cons (pg_name (i := 7) sc_law_size.nd rfl (.inl rfl)) (pgs_cons (pg_name (i := 8) sc_law_size.nd rfl (.inl rfl)) pgs_nil))) (pss_one (ps_set (i := 4) sc_law_size.nd rfl (.inl rfl) (pe_op op_add (pe_op op_add (pv 4) (pe_callB call_len_str (by rfl) T.m_len PySem.boot_len (pa_cons (pv 7) pa_nil))) pe_int)))) 
      (pss_one (ps_ret (pv 4)))))), ?_⟩
    obtain ⟨pp', vp, ep, _, gp, tp⟩ := xp.isL
    cases ep
    obtain ⟨pw', vw, ew, _, gw, tw⟩ := xw.isL
    cases ew
    have lp := tp.length
    have lw := tw.length
    rw [List.length_map] at lp lw
    refine ⟨_, rfl, z, rfl, Nat.le_trans lz (by decide), _, _, rfl, rfl, _, rfl, _, _, rfl, .inl (SqL.of hv), _, _, rfl, rfl, ?_⟩
    rw [List.length_map]
    refine ⟨_, rfl, pp, rfl, ⟨_, SqL.of gp⟩, ?_⟩
    refine for_list (K := K) (a := pp) (xs := vp) (fun i σ H' => H' = H ∧ ∃ y5 y6 y7 y8, σ = [some (.str z), some (.ref pvc), some (.ref pp), some (.ref pw), some (.int (5 + (z.length : Int) + (vec.length : Int) + ((ps.take i).flatMap prRow).length)), y5, y6, y7, y8]) ⟨rfl, _, _, _, _, by rw [List.take_zero]; simp; rfl⟩ (fun i σ H' _ h => by rw [h.1]; exact SqL.of gp) ?_ ?_
    · rintro i v σ H' hi ⟨rfl, y5, y6, y7, y8, rfl⟩
      obtain ⟨d, ed0, xd⟩ := tp.get hi
      rw [List.getElem?_map] at ed0
      cases epi : ps[i]? with
      | none =>
        rw [epi] at ed0
        cases ed0
      | some p =>
        rw [epi] at ed0
        have := Option.some.inj ed0
        subst this
        obtain ⟨t, w, rfl, _, et, xw'⟩ := xd.isP
        have mp := List.mem_of_getElem? epi
        have n8 := (pok.names p mp).2
        have hs := prRow_size (pok.vals p mp)
        have hl := flat_take_len (f := prRow) epi
        refine ⟨t, _, rfl, SqT.of et, rfl, _, _, rfl, _, _, rfl, rfl, ?_⟩
        refine ⟨_, rfl, _, _, rfl, rfl, _, rfl, p.1, rfl, Nat.le_trans n8 (by decide), _, _, rfl, rfl, _, _, rfl, rfl, ?_⟩
        rcases val_cases xw' (pok.vals p mp) with ⟨k, rfl, ed⟩ | ⟨zz, rfl, ed, l8, _⟩ | ⟨b, rfl, ed⟩
        · refine ⟨_, rfl, _, _, _, _, false, rfl, .ty _, .base (.int _), kit_ty (by decide +kernel), false, rfl, iteF ⟨rfl, some (.str p.1), some (.int k), y7, y8, ?_⟩⟩
          rw [ed] at hs
          have hs' : ((prRow p).length : Int) = 1 + p.1.length + 2 + 0 := hs
          rw [hl, show 5 + (z.length : Int) + (vec.length : Int) + ((((ps.take i).flatMap prRow).length + (prRow p).length : Nat) : Int) = 5 + (z.length : Int) + (vec.length : Int) + ((ps.take i).flatMap prRow).length + 1 + p.1.length + 2 by omega]
          rfl
        · refine ⟨_, rfl, _, _, _, _, true, rfl, .ty _, .base (.str _), kit_ty (by decide +kernel), true, rfl, iteT ⟨_, rfl, _, rfl, zz, rfl, Nat.le_trans l8 (by decide), _, _, rfl, rfl, rfl, some (.str p.1), some (.str zz), y7, y8, ?_⟩⟩
          rw [ed] at hs
          have hs' : ((prRow p).length : Int) = 1 + p.1.length + 2 + zz.length := hs
          rw [hl, show 5 + (z.length : Int) + (vec.length : Int) + ((((ps.take i).flatMap prRow).length + (prRow p).length : Nat) : Int) = 5 + (z.length : Int) + (vec.length : Int) + ((ps.take i).flatMap prRow).length + 1 + p.1.length + 2 + zz.length by omega]
          rfl
        · refine ⟨_, rfl, _, _, _, _, false, rfl, .ty _, .base (.bl _), kit_ty (by decide +kernel), false, rfl, iteF ⟨rfl, some (.str p.1), some (.bl b), y7, y8, ?_⟩⟩
          rw [ed] at hs
          have hs' : ((prRow p).length : Int) = 1 + p.1.length + 2 + 0 := hs
          rw [hl, show 5 + (z.length : Int) + (vec.length : Int) + ((((ps.take i).flatMap prRow).length + (prRow p).length : Nat) : Int) = 5 + (z.length : Int) + (vec.length : Int) + ((ps.take i).flatMap prRow).length + 1 + p.1.length + 2 by omega]
          rfl
    rintro σ H' ⟨rfl, y5, y6, y7, y8, rfl⟩
    rw [lp, List.take_length]
    refine ⟨_, rfl, pw, rfl, ⟨_, SqL.of gw⟩, ?_⟩
    refine for_list (K := K) (a := pw) (xs := vw) (fun i σ H2 => H2 = H' ∧ ∃ y7 y8, σ = [some (.str z), some (.ref pvc), some (.ref pp), some (.ref pw), some (.int (5 + (z.length : Int) + (vec.length : Int) + (ps.flatMap prRow).length + ((ws.take i).flatMap wdRow).length)), y5, y6, y7, y8]) ⟨rfl, y7, y8, by simp⟩ (fun i σ H2 _ h => by rw [h.1]; exact SqL.of gw) ?_ ?_
    · rintro i v σ H2 hi ⟨rfl, y7, y8, rfl⟩
      obtain ⟨d, ed0, xd⟩ := tw.get hi
      rw [List.getElem?_map] at ed0
      cases epi : ws[i]? with
      | none =>
        rw [epi] at ed0
        cases ed0
      | some p =>
        rw [epi] at ed0
        have := Option.some.inj ed0
        subst this
        obtain ⟨t, w, rfl, _, et, xw'⟩ := xd.isP
        have n8 := (wok.words p (List.mem_of_getElem? epi)).2
        have hs := wdRow_size (w := p)
        have hl := flat_take_len (f := wdRow) epi
        refine ⟨t, _, rfl, SqT.of et, rfl, _, _, rfl, _, _, rfl, rfl, ?_⟩
        refine ⟨_, rfl, _, rfl, p.1, rfl, Nat.le_trans n8 (by decide), _, _, rfl, rfl, _, _, rfl, rfl, rfl, some (.str p.1), some w, ?_⟩
        rw [hl, show 5 + (z.length : Int) + (vec.length : Int) + (ps.flatMap prRow).length + ((((ws.take i).flatMap wdRow).length + (wdRow p).length : Nat) : Int) = 5 + (z.length : Int) + (vec.length : Int) + (ps.flatMap prRow).length + ((ws.take i).flatMap wdRow).length + ((p.1.length : Int) + 2) by omega]
        rfl
    rintro σ H2 ⟨rfl, y7, y8, rfl⟩
    rw [lw, List.take_length]
    refine ⟨_, rfl, ?_⟩
    have e : (((rowZ n z vec ps ws).length : Nat) : Int) = 5 + (z.length : Int) + (vec.length : Int) + (ps.flatMap prRow).length + (ws.flatMap wdRow).length := by
      unfold rowZ row1 row0
      simp only [List.length_append, List.length_singleton, strPart_len]
      omega
    rw [← e]
    exact q
def sp_law_reads (T : Txt K mg) : Sp := fun vs H Q _ => ∃ (a pvc pp pw : Addr) (z : Str) (vec : List Int) (ps : List (Str × PyData)) (ws : List (Str × Int)) (n : Int), vs = [.ref a, .int n, .str z, .ref pvc, .ref pp, .ref pw] ∧ (H a = some (.lst ((rowZ n z vec ps ws).map V.int))) ∧ (H pvc = some (.lst (vec.map V.int))) ∧ (Dt [] H (.ref pp) (.list (ps.map prD))) ∧ (Dt [] H (.ref pw) (.list (ws.map wdD))) ∧ (z.length ≤ 8) ∧ (vec.length ≤ 100) ∧ (PairsOk ps) ∧ (WordsOk ws) ∧ ∀ H', Same H H' → Q (.bl true) H'
set_option maxHeartbeats 8000000 in
theorem ok_law_reads (T : Txt K mg) : FnOk P w K mg base CX0 2 T.f_law_reads T.d_law_reads ["row", "number", "name", "vector", "pairs", "words"] (sp_law_reads T) := by
  have G_law_codes : FnOk P w K mg base CX0 1 T.f_law_codes T.d_law_codes ["text"] (sp_law_codes T) := ok_law_codes T
  have G_law_string : FnOk P w K mg base CX0 1 T.f_law_string T.d_law_string ["row", "at"] (sp_law_string T) := ok_law_string T
  refine T.F_law_reads.ok sc_law_reads (fun vs H Q E h => ?_) (fun cdv A outer s H vs Q E hr h => ?_)
  · obtain ⟨a, pvc, pp, pw, z, vec, ps, ws, n, rfl, _⟩ := h
    rfl
  · obtain ⟨a, pvc, pp, pw, z, vec, ps, ws, n, rfl, ha, hv, xp, xw, lz, lv, pok, wok, q⟩ := h
    refine ⟨_, (pss_cons (ps_if (pt_cmpR op_ne (pe_ix ix_list (pv 0) pe_int (fun _ _ => rfl)) (pv 1) (nomark _)) (pss_one (ps_ret pe_bl)) pss_nil) 
      (pss_cons (ps_asg (pe_call G_law_string (hr.mono (by decide)) (by rfl) T.g_law_string T.F_law_string.kp T.b_law_string .nil pass0 (pa_cons (pv 0) (pa_cons pe_int pa_nil))) (pg_tup rfl (pgs_cons (pg_name (i := 6) sc_law_reads.nd rfl (.inl rfl)) (pgs_cons (pg_name (i := 7) sc_law_reads.nd rfl (.inl rfl)) pgs_nil)))) 
      (pss_cons (ps_if (PW.pt (pw_or (pt_cmpR (op_neD hr.units) (pv 6) (pe_call G_law_codes (hr.mono (by decide)) (by rfl) T.g_law_codes T.F_law_codes.kp T.b_law_codes .nil pass0 (pa_cons (pv 2) pa_nil)) (nomark _)) (pw_or (pt_cmpR op_ne (pe_ix ix_list (pv 0) (pv 7) (fun _ _ => rfl)) (pe_callB call_len_seq (by rfl) T.m_len PySem.boot_len (pa_cons (pv 3) pa_nil)) (nomark _)) (pw_or1 (pt_cmpR (op_neD hr.units) (pe_slice sl_list (pv 0) (po_some (pe_op op_add (pv 7) pe_int)) (po_some (pe_op op_add (pe_op op_add (pv 7) pe_int) (pe_callB call_len_seq (by rfl) T.m_len PySem.boot_len (pa_cons (pv 3) pa_nil))))) (pv 3) (nomark _)))))) (pss_one (ps_ret pe_bl)) pss_nil) 
      (pss_cons (ps_set (i := 7) sc_law_reads.nd rfl (.inl rfl) (pe_op op_add (pe_op op_add (pv 7) pe_int) (pe_callB call_len_seq (by rfl) T.m_len PySem.boot_len (pa_cons (pv 3) pa_nil)))) 
      (pss_cons (ps_if (pt_cmpR op_ne (pe_ix ix_list (pv 0) (pv 7) (fun _ _ => rfl)) (pe_callB call_len_seq (by rfl) T.m_len PySem.boot_len (pa_cons (pv 4) pa_nil)) (nomark _)) (pss_one (ps_ret pe_bl)) pss_nil) 
      (pss_cons (ps_set (i := 7) sc_law_reads.nd rfl (.inl rfl) (pe_op op_add (pv 7) pe_int)) 
      (pss_cons (ps_for PassesOwn.never rfl (pi_list (pv 4)) (pg_tup rfl (pgs_cons (pg_name (i := 8) sc_law_reads.nd rfl (.inl rfl)) (pgs_cons (pg_name (i := 9) sc_law_reads.nd rfl (.inl rfl)) pgs_nil))) (pss_cons (ps_asg (pe_call G_law_string (hr.mono (by decide)) (by rfl) T.g_law_string T.F_law_string.kp T.b_law_string .nil pass0 (pa_cons (pv 0) (pa_cons (pv 7) pa_nil))) (pg_tup rfl (pgs_cons (pg_name (i := 6) sc_law_reads.nd rfl (.inl rfl)) (pgs_cons (pg_name (i := 7) sc_law_reads.nd rfl (.inl rfl)) pgs_nil)))) 
      (pss_cons (ps_if (pt_cmpR (op_neD hr.units) (pv 6) (pe_call G_law_codes (hr.mono (by decide)) (by rfl) T.g_law_codes T.F_law_codes.kp T.b_law_codes .nil pass0 (pa_cons (pv 8) pa_nil)) (nomark _)) (pss_one (ps_ret pe_bl)) pss_nil) 
      (pss_one (ps_if (pt_val (pe_callB call_isi (by rfl) T.m_isinstance (by decide +kernel) (pa_cons (pv 9) (pa_cons (pe_bltn (v := .ty "str") (u := .type "str") (by rfl) T.m_str (by decide +kernel) rfl) pa_nil)))) (pss_cons (ps_asg (pe_call G_law_string (hr.mono (by decide)) (by rfl) T.g_law_string T.F_law_string.kp T.b_law_string .nil pass0 (pa_cons (pv 0) (pa_cons (pe_op op_add (pv 7) pe_int) pa_nil))) (pg_tup rfl (pgs_cons (pg_name (i := 6) sc_law_reads.nd rfl (.inl rfl)) (pgs_cons (pg_name (i := 10) sc_law_reads.nd rfl (.inl rfl)) pgs_nil)))) 
      (pss_cons (ps_if (PW.pt (pw_or (pt_cmpR op_ne (pe_ix ix_list (pv 0) (pv 7) (fun _ _ => rfl)) pe_int (nomark _)) (pw_or1 (pt_cmpR (op_neD hr.units) (pv 6) (pe_call G_law_codes (hr.mono (by decide)) (by rfl) T.g_law_codes T.F_law_codes.kp T.b_law_codes .nil pass0 (pa_cons (pv 9) pa_nil)) (nomark _))))) (pss_one (ps_ret pe_bl)) pss_nil) 
      (pss_one (ps_set (i := 7) sc_law_reads.nd rfl (.inl rfl) (pv 10))))) (pss_cons (ps_if (PW.pt (pw_or (pt_cmpR op_ne (pe_ix ix_list (pv 0) (pv 7) (fun _ _ => rfl)) (pe_ix ix_list (pe_lst (pa_cons pe_int (pa_cons pe_int pa_nil))) (pe_callTy call_int1 (by rfl) T.m_int (by decide +kernel) (pa_cons (pe_callB call_isi (by rfl) T.m_isinstance (by decide +kernel) (pa_cons (pv 9) (pa_cons (pe_bltn (v := .ty "bool") (u := .type "bool") (by rfl) T.m_bool (by decide +kernel) rfl) pa_nil))) pa_nil)) (fun _ _ => rfl)) (nomark _)) (pw_or1 (pt_cmpR op_ne (pe_ix ix_list (pv 0) (pe_op op_add (pv 7) pe_int) (fun _ _ => rfl)) (pe_callTy call_int1 (by rfl) T.m_int (by decide +kernel) (pa_cons (pv 9) pa_nil)) (nomark _))))) (pss_one (ps_ret pe_bl)) pss_nil) 
      (pss_one (ps_set (i := 7) sc_law_reads.nd rfl (.inl rfl) (pe_op op_add (pv 7) pe_int))))))))) 
      (pss_cons (ps_if (pt_cmpR op_ne (pe_ix ix_list (pv 0) (pv 7) (fun _ _ => rfl)) (pe_callB call_len_seq (by rfl) T.m_len PySem.boot_len (pa_cons (pv 5) pa_nil)) (nomark _)) (pss_one (ps_ret pe_bl)) pss_nil) 
      (pss_cons (ps_set (i := 7) sc_law_reads.nd rfl (.inl rfl) (pe_op op_add (pv 7) pe_int)) 
      (pss_cons (ps_for PassesOwn.never rfl (pi_list (pv 5)) (pg_tup rfl (pgs_cons (pg_name (i := 11) sc_law_reads.nd rfl (.inl rfl)) (pgs_cons (pg_name (i := 12) sc_law_reads.nd rfl (.inl rfl)) pgs_nil))) (pss_cons (ps_asg (pe_call G_law_string (hr.mono (by decide)) (by rfl) T.g_law_string T.F_law_string.kp T.b_law_string .nil pass0 (pa_cons (pv 0) (pa_cons (pv 7) pa_nil))) (pg_tup rfl (pgs_cons (pg_name (i := 6) sc_law_reads.nd rfl (.inl rfl)) (pgs_cons (pg_name (i := 7) sc_law_reads.nd rfl (.inl rfl)) pgs_nil)))) 
      (pss_cons (ps_if (PW.pt (pw_or (pt_cmpR (op_neD hr.units) (pv 6) (pe_call G_law_codes (hr.mono (by decide)) (by rfl) T.g_law_codes T.F_law_codes.kp T.b_law_codes .nil pass0 (pa_cons (pv 11) pa_nil)) (nomark _)) (pw_or1 (pt_cmpR op_ne (pe_ix ix_list (pv 0) (pv 7) (fun _ _ => rfl)) (pv 12) (nomark _))))) (pss_one (ps_ret pe_bl)) pss_nil) 
      (pss_one (ps_set (i := 7) sc_law_reads.nd rfl (.inl rfl) (pe_op op_add (pv 7) pe_int)))))) 
      (pss_one (ps_ret (pe_cmpR op_eq (pv 7) (pe_callB call_len_seq (by rfl) T.m_len PySem.boot_len (pa_cons (pv 0) pa_nil)) (nomark _)))))))))))))), ?_⟩
    obtain ⟨pp', vp, ep, _, gp, tp⟩ := xp.isL
    cases ep
    obtain ⟨pw', vw, ew, _, gw, tw⟩ := xw.isL
    cases ew
    have lp := tp.length
    have lw := tw.length
    rw [List.length_map] at lp lw
    generalize hrow : rowZ n z vec ps ws = row at ha
    have e0 : row = [] ++ [n] ++ (strPart z ++ T1 vec ps ws) := by rw [← hrow, rowA]; simp only [List.append_assoc, List.nil_append]
    refine ⟨_, rfl, a, _, _, _, rfl, rfl, SqL.of ha, num_at e0 rfl, _, rfl, rfl, _, rfl, iteNS rfl ?_⟩
    -- text, at = _law_string(row, 1)
    refine ⟨_, rfl, a, [n], T1 vec ps ws, z, 1, rfl, by rw [← rowA, hrow]; exact ha, rfl, by omega, fun t p H1 s1 hp ht => ⟨t, _, rfl, SqT.of ht, rfl, _, _, rfl, _, _, rfl, rfl, ?_⟩⟩
    have a1 := s1 _ _ ha
    -- if text != ..
    refine ⟨_, rfl, _, rfl, z, rfl, by omega, fun p2 H2 s2 hp2 => ⟨_, _, dpl (s2 _ _ hp), dpl hp2, PySem.W.ke_shaped_ints _, PySem.W.ke_shaped_ints _, _, rfl, ?_⟩⟩
    rw [eqv_ints]
    refine iteF ?_
    have s3 := s1.trans s2
    have a2 := s3 _ _ ha
    have v2 := s3 _ _ hv
    refine ⟨_, rfl, _, rfl, a, _, _, _, rfl, rfl, SqL.of a2, num_at (hrow.symm.trans (rowB n z vec ps ws)) rfl, _, rfl, pvc, _, rfl, .inl (SqL.of v2), rfl, _, rfl, iteNS (by rw [List.length_map]) ?_⟩
    have hcut : cutV (row.map V.int) (some ((([n] ++ strPart z).length : Nat) + 1 : Int)) (some ((([n] ++ strPart z).length : Nat) + 1 + ((vec.map V.int).length : Nat) : Int)) = vec.map V.int := by
      rw [← hrow, rowC, List.map_append, List.map_append]
      exact cut_mid _ _ _ (by simp only [List.length_map, List.length_append, List.length_singleton]; omega) (by simp only [List.length_map, List.length_append, List.length_singleton]; omega)
    refine ⟨_, rfl, _, rfl, _, _, rfl, rfl, _, rfl, _, rfl, _, _, rfl, rfl, _, rfl, pvc, _, rfl, .inl (SqL.of v2), _, _, rfl, rfl, _, rfl, a, _, rfl, SqL.of a2, fun p3 hp3 => ?_⟩
    have s4 := s3.trans (same_new (o := .lst (cutV (row.map V.int) (some ((([n] ++ strPart z).length : Nat) + 1 : Int)) (some ((([n] ++ strPart z).length : Nat) + 1 + ((vec.map V.int).length : Nat) : Int)))) hp3)
    have h3 : (upd H2 p3 (.lst (cutV (row.map V.int) (some ((([n] ++ strPart z).length : Nat) + 1 : Int)) (some ((([n] ++ strPart z).length : Nat) + 1 + ((vec.map V.int).length : Nat) : Int))))) p3 = some (.lst (vec.map V.int)) := by rw [upd_same, hcut]
    generalize hH3 : upd H2 p3 (.lst (cutV (row.map V.int) (some ((([n] ++ strPart z).length : Nat) + 1 : Int)) (some ((([n] ++ strPart z).length : Nat) + 1 + ((vec.map V.int).length : Nat) : Int)))) = H3 at s4 h3
    have a4 := s4 _ _ ha
    have v4 := s4 _ _ hv
    have gp4 := s4 _ _ gp
    refine ⟨_, rfl, _, _, dpl h3, dpl v4, PySem.W.ke_shaped_ints _, PySem.W.ke_shaped_ints _, _, rfl, ?_⟩
    rw [eqv_ints]
    refine iteF ?_
    -- at = at + 1 + len(vector)
    refine ⟨_, rfl, _, _, rfl, rfl, _, rfl, pvc, _, rfl, .inl (SqL.of v4), _, _, rfl, rfl, ?_⟩
    -- if row[at] != len(pairs)
    refine ⟨_, rfl, _, rfl, a, _, _, _, rfl, rfl, SqL.of a4, num_at (hrow.symm.trans (rowD n z vec ps ws)) (by simp only [List.length_map, List.length_append, List.length_singleton]; omega), _, rfl, pp, _, rfl, .inl (SqL.of gp4), rfl, _, rfl, iteNS (by rw [lp]) ?_⟩
    -- at = at + 1
    refine ⟨_, rfl, _, _, rfl, rfl, ?_⟩
    -- for field, worth in pairs
    refine ⟨_, rfl, pp, rfl, ⟨_, SqL.of gp4⟩, ?_⟩
    refine for_list (K := K) (a := pp) (xs := vp) (fun i σ H' => Same H H' ∧ ∃ y6 y8 y9 y10, σ = [some (.ref a), some (.int n), some (.str z), some (.ref pvc), some (.ref pp), some (.ref pw), y6, some (.int ((row0 n z vec ps.length ++ (ps.take i).flatMap prRow).length : Nat)), y8, y9, y10, none, none]) ⟨s4, some (.ref p), none, none, none, ?_⟩ (fun i σ H' h g => SqL.of (g.1 _ _ gp)) ?_ ?_
    · rw [List.take_zero, List.flatMap_nil, List.append_nil]
      have : (((row0 n z vec ps.length).length : Nat) : Int) = (([n] ++ strPart z).length : Nat) + 1 + ((vec.map V.int).length : Nat) + 1 := by
        unfold row0
        simp only [List.length_map, List.length_append, List.length_singleton]
        omega
      rw [this]
      rfl
    · rintro i v σ H5 hi ⟨s5, y6, y8, y9, y10, rfl⟩
      obtain ⟨d, ed0, xd⟩ := tp.get hi
      rw [List.getElem?_map] at ed0
      cases epi : ps[i]? with
      | none =>
        rw [epi] at ed0
        cases ed0
      | some pr =>
        rw [epi] at ed0
        have := Option.some.inj ed0
        subst this
        obtain ⟨t0, w, rfl, _, et, xw'⟩ := xd.isP
        have mp := List.mem_of_getElem? epi
        have n8 := (pok.names pr mp).2
        have a5 := s5 _ _ ha
        have rp := rowP (n := n) (z := z) (vec := vec) (ws := ws) epi
        rw [hrow] at rp
        have nxt : (((row0 n z vec ps.length ++ (ps.take (i + 1)).flatMap prRow).length : Nat) : Int) = ((row0 n z vec ps.length ++ (ps.take i).flatMap prRow ++ strPart pr.1).length : Nat) + ((valPart pr.2).length : Nat) := by
          rw [flat_take epi]
          unfold prRow
          simp only [List.length_append]
          omega
        generalize row0 n z vec ps.length ++ (ps.take i).flatMap prRow = R at rp nxt ⊢
        generalize (ps.drop (i + 1)).flatMap prRow ++ T3 ws = C at rp
        refine ⟨t0, _, rfl, SqT.of (s5 _ _ et), rfl, _, _, rfl, _, _, rfl, rfl, ?_⟩
        refine ⟨_, rfl, _, rfl, a, R, valPart pr.2 ++ C, pr.1, _, rfl, by rw [← rp]; exact a5, rfl, by omega, fun t1 q1 H6 s6 hq ht1 => ⟨t1, _, rfl, SqT.of ht1, rfl, _, _, rfl, _, _, rfl, rfl, ?_⟩⟩
        refine ⟨_, rfl, _, rfl, pr.1, rfl, by omega, fun q2 H7 s7 hq2 => ⟨_, _, dpl (s7 _ _ hq), dpl hq2, PySem.W.ke_shaped_ints _, PySem.W.ke_shaped_ints _, _, rfl, ?_⟩⟩
        rw [eqv_ints]
        refine iteF ?_
        have s8 := s5.trans (s6.trans s7)
        have a8 := s8 _ _ ha
        rcases val_cases xw' (pok.vals pr mp) with ⟨k, rfl, ed⟩ | ⟨zz, rfl, ed, l8, _⟩ | ⟨b, rfl, ed⟩
        · rw [ed] at rp nxt
          have E1 : row = (R ++ strPart pr.1) ++ [0] ++ ([k] ++ C) := by rw [rp]; simp [valPart]
          have E2 : row = (R ++ strPart pr.1 ++ [0]) ++ [k] ++ C := by rw [rp]; simp [valPart]
          refine ⟨_, rfl, _, _, _, _, false, rfl, .ty _, .base (.int _), kit_ty (by decide +kernel), false, rfl, iteF ?_⟩
          refine ⟨_, rfl, _, rfl, a, _, _, _, rfl, rfl, SqL.of a8, num_at E1 rfl, (by show 2 ≤ sizeLine; decide), fun l hl => ⟨_, rfl, _, _, _, _, false, rfl, .ty _, .base (.int _), kit_ty (by decide +kernel), .inr ⟨false, rfl, l, _, _, _, rfl, rfl, SqL.of upd_same, at_of (j := 0) rfl rfl, rfl, _, rfl, iteNS rfl ?_⟩⟩⟩
          have s9 := s8.trans (same_new (o := .lst [V.int 0, V.int 2]) hl)
          refine ⟨_, rfl, _, rfl, _, _, rfl, rfl, a, _, _, _, rfl, rfl, SqL.of (s9 _ _ ha), num_at E2 (by simp only [List.length_append, List.length_singleton]; omega), _, rfl, .inl ⟨k, rfl, rfl, _, rfl, iteNS rfl ?_⟩⟩
          refine ⟨_, rfl, _, _, rfl, rfl, s9, some (.ref q1), some (.str pr.1), some (.int k), y10, ?_⟩
          rw [nxt]
          rfl
        · rw [ed] at rp nxt
          have E1 : row = (R ++ strPart pr.1) ++ [1] ++ (strPart zz ++ C) := by rw [rp]; simp [valPart]
          have E2 : row = (R ++ strPart pr.1 ++ [1]) ++ strPart zz ++ C := by rw [rp]; simp [valPart]
          refine ⟨_, rfl, _, _, _, _, true, rfl, .ty _, .base (.str _), kit_ty (by decide +kernel), true, rfl, iteT ?_⟩
          refine ⟨_, rfl, _, rfl, _, _, rfl, rfl, a, R ++ strPart pr.1 ++ [1], C, zz, _, rfl, by rw [← E2]; exact a8, by simp only [List.length_append, List.length_singleton]; omega, by omega, fun t3 q3 H8 s9 hq3 ht3 => ⟨t3, _, rfl, SqT.of ht3, rfl, _, _, rfl, _, _, rfl, rfl, ?_⟩⟩
          have sa := s8.trans s9
          refine ⟨_, rfl, _, rfl, a, _, _, _, rfl, rfl, SqL.of (sa _ _ ha), num_at E1 rfl, rfl, _, rfl, iteNS rfl ?_⟩
          refine ⟨_, rfl, _, rfl, zz, rfl, by omega, fun q4 H9 sb hq4 => ⟨_, _, dpl (sb _ _ hq3), dpl hq4, PySem.W.ke_shaped_ints _, PySem.W.ke_shaped_ints _, _, rfl, ?_⟩⟩
          rw [eqv_ints]
          refine iteF ?_
          refine ⟨_, rfl, sa.trans sb, some (.ref q3), some (.str pr.1), some (.str zz), some (.int ((R ++ strPart pr.1 ++ [1] ++ strPart zz).length : Nat)), ?_⟩
          have : (((R ++ strPart pr.1).length : Nat) : Int) + ((valPart (.str zz)).length : Nat) = ((R ++ strPart pr.1 ++ [1] ++ strPart zz).length : Nat) := by
            show (((R ++ strPart pr.1).length : Nat) : Int) + (((strPart zz).length + 1 : Nat) : Int) = _
            simp only [List.length_append, List.length_singleton]
            omega
          rw [nxt, this]
          rfl
        · rw [ed] at rp nxt
          have E1 : row = (R ++ strPart pr.1) ++ [2] ++ ([if b then 1 else 0] ++ C) := by rw [rp]; simp [valPart]
          have E2 : row = (R ++ strPart pr.1 ++ [2]) ++ [if b then 1 else 0] ++ C := by rw [rp]; simp [valPart]
          refine ⟨_, rfl, _, _, _, _, false, rfl, .ty _, .base (.bl _), kit_ty (by decide +kernel), false, rfl, iteF ?_⟩
          refine ⟨_, rfl, _, rfl, a, _, _, _, rfl, rfl, SqL.of a8, num_at E1 rfl, (by show 2 ≤ sizeLine; decide), fun l hl => ⟨_, rfl, _, _, _, _, true, rfl, .ty _, .base (.bl _), kit_ty (by decide +kernel), .inr ⟨true, rfl, l, _, _, _, rfl, rfl, SqL.of upd_same, at_of (j := 1) rfl rfl, rfl, _, rfl, iteNS rfl ?_⟩⟩⟩
          have s9 := s8.trans (same_new (o := .lst [V.int 0, V.int 2]) hl)
          refine ⟨_, rfl, _, rfl, _, _, rfl, rfl, a, _, _, _, rfl, rfl, SqL.of (s9 _ _ ha), num_at E2 (by simp only [List.length_append, List.length_singleton]; omega), _, rfl, .inr ⟨b, rfl, rfl, _, rfl, iteNS rfl ?_⟩⟩
          refine ⟨_, rfl, _, _, rfl, rfl, s9, some (.ref q1), some (.str pr.1), some (.bl b), y10, ?_⟩
          rw [nxt]
          rfl
    rintro σ H5 ⟨s5, y6, y8, y9, y10, rfl⟩
    rw [lp, List.take_length]
    have a5 := s5 _ _ ha
    have gw5 := s5 _ _ gw
    -- if row[at] != len(words)
    refine ⟨_, rfl, _, rfl, a, _, _, _, rfl, rfl, SqL.of a5, num_at (hrow.symm.trans (rowE n z vec ps ws)) rfl, _, rfl, pw, _, rfl, .inl (SqL.of gw5), rfl, _, rfl, iteNS (by rw [lw]) ?_⟩
    refine ⟨_, rfl, _, _, rfl, rfl, ?_⟩
    refine ⟨_, rfl, pw, rfl, ⟨_, SqL.of gw5⟩, ?_⟩
    refine for_list (K := K) (a := pw) (xs := vw) (fun i σ H' => Same H H' ∧ ∃ y6 y11 y12, σ = [some (.ref a), some (.int n), some (.str z), some (.ref pvc), some (.ref pp), some (.ref pw), y6, some (.int ((row1 n z vec ps ++ [(ws.length : Int)] ++ (ws.take i).flatMap wdRow).length : Nat)), y8, y9, y10, y11, y12]) ⟨s5, y6, none, none, ?_⟩ (fun i σ H' h g => SqL.of (g.1 _ _ gw)) ?_ ?_
    · rw [List.take_zero, List.flatMap_nil, List.append_nil]
      have : (((row1 n z vec ps ++ [(ws.length : Int)]).length : Nat) : Int) = ((row0 n z vec ps.length ++ ps.flatMap prRow).length : Nat) + 1 := by
        unfold row1
        simp only [List.length_append, List.length_singleton]
        omega
      rw [this]
      rfl
    · rintro i v σ H6 hi ⟨s6, y6, y11, y12, rfl⟩
      obtain ⟨d, ed0, xd⟩ := tw.get hi
      rw [List.getElem?_map] at ed0
      cases epi : ws[i]? with
      | none =>
        rw [epi] at ed0
        cases ed0
      | some pr =>
        rw [epi] at ed0
        have := Option.some.inj ed0
        subst this
        obtain ⟨t0, w, rfl, _, et, xw'⟩ := xd.isP
        rw [xw'.isI] at et
        have n8 := (wok.words pr (List.mem_of_getElem? epi)).2
        have rp := rowW (n := n) (z := z) (vec := vec) (ps := ps) epi
        rw [hrow] at rp
        have nxt : (((row1 n z vec ps ++ [(ws.length : Int)] ++ (ws.take (i + 1)).flatMap wdRow).length : Nat) : Int) = ((row1 n z vec ps ++ [(ws.length : Int)] ++ (ws.take i).flatMap wdRow ++ strPart pr.1).length : Nat) + 1 := by
          rw [flat_take epi]
          unfold wdRow
          simp only [List.length_append, List.length_singleton]
          omega
        generalize row1 n z vec ps ++ [(ws.length : Int)] ++ (ws.take i).flatMap wdRow = R at rp nxt ⊢
        generalize (ws.drop (i + 1)).flatMap wdRow = C at rp
        have a6 := s6 _ _ ha
        refine ⟨t0, _, rfl, SqT.of (s6 _ _ et), rfl, _, _, rfl, _, _, rfl, rfl, ?_⟩
        refine ⟨_, rfl, _, rfl, a, R, [pr.2] ++ C, pr.1, _, rfl, by rw [← rp]; exact a6, rfl, by omega, fun t1 q1 H7 s7 hq ht1 => ⟨t1, _, rfl, SqT.of ht1, rfl, _, _, rfl, _, _, rfl, rfl, ?_⟩⟩
        refine ⟨_, rfl, _, rfl, pr.1, rfl, by omega, fun q2 H8 s8 hq2 => ⟨_, _, dpl (s8 _ _ hq), dpl hq2, PySem.W.ke_shaped_ints _, PySem.W.ke_shaped_ints _, _, rfl, ?_⟩⟩
        rw [eqv_ints]
        refine iteF ?_
        have s9 := s6.trans (s7.trans s8)
        have E1 : row = (R ++ strPart pr.1) ++ [pr.2] ++ C := by rw [rp]; simp
        refine ⟨_, rfl, _, rfl, a, _, _, _, rfl, rfl, SqL.of (s9 _ _ ha), num_at E1 rfl, _, rfl, rfl, _, rfl, iteNS rfl ?_⟩
        refine ⟨_, rfl, _, _, rfl, rfl, s9, some (.ref q1), some (.str pr.1), some (.int pr.2), ?_⟩
        rw [nxt]
        rfl
    rintro σ H6 ⟨s6, y6, y11, y12, rfl⟩
    rw [lw, List.take_length]
    refine ⟨_, rfl, _, rfl, a, _, rfl, .inl (SqL.of (s6 _ _ ha)), rfl, ?_⟩
    have fin : decide (V.int (((row1 n z vec ps ++ [(ws.length : Int)] ++ ws.flatMap wdRow).length : Nat) : Int) = V.int (((row.map V.int).length : Nat) : Int)) = true := decide_eq_true (by rw [List.length_map, ← hrow]; rfl)
    rw [fin]
    exact q _ s6
def sp_law (K : PySem.W.Frag) : Sp := fun vs H Q _ => ∃ (a : Addr) (ns : List Int), vs = [.ref a] ∧ (SqL K H a (ns.map V.int)) ∧ (ns.length ≤ 63) ∧ ∀ H', Q (.bl true) H'
set_option maxHeartbeats 8000000 in
theorem ok_law (T : Txt K mg) : FnOk P w K mg base CX0 5 T.f_law T.d_law ["script"] (sp_law K) := by
  have G_law_reads : FnOk P w K mg base CX0 2 T.f_law_reads T.d_law_reads ["row", "number", "name", "vector", "pairs", "words"] (sp_law_reads T) := ok_law_reads T
  have G_law_size : FnOk P w K mg base CX0 1 T.f_law_size T.d_law_size ["name", "vector", "pairs", "words"] (sp_law_size T) := ok_law_size T
  have G_Record___init__ : FnOk P w K mg base CX0 1 T.f_Record___init__ T.d_Record___init__ ["self", "name", "vector", "fields", "words"] (sp_Record___init__ T) := ok_Record___init__ T
  have G_row_of : FnOk P w K mg base CX0 3 T.f_row_of T.d_row_of ["number", "record"] (sp_row_of T) := ok_row_of T
  have G_law_next : FnOk P w K mg base CX0 2 T.f_law_next T.d_law_next ["state", "many"] (sp_law_next T) := ok_law_next T
  have G_law_words : FnOk P w K mg base CX0 3 T.f_law_words T.d_law_words ["state"] (sp_law_words T) := ok_law_words T
  have G_law_pairs : FnOk P w K mg base CX0 4 T.f_law_pairs T.d_law_pairs ["state", "fields"] (sp_law_pairs T) := ok_law_pairs T
  have G_law_name : FnOk P w K mg base CX0 3 T.f_law_name T.d_law_name ["state"] (sp_law_name T) := ok_law_name T
  have G_law_number : FnOk P w K mg base CX0 3 T.f_law_number T.d_law_number ["state", "width"] (sp_law_number T) := ok_law_number T
  have G_law_schema : FnOk P w K mg base CX0 4 T.f_law_schema T.d_law_schema ["state"] (sp_law_schema T) := ok_law_schema T
  refine T.F_law.ok sc_law (fun vs H Q E h => ?_) (fun cdv A outer s H vs Q E hr h => ?_)
  · obtain ⟨a, ns, rfl, _⟩ := h
    rfl
  · obtain ⟨a, ns, rfl, hA, hlen, q⟩ := h
    refine ⟨_, (pss_cons (ps_set (i := 1) sc_law.nd rfl (.inr rfl) (pe_lst (pa_cons (pe_callTy call_list_of (by rfl) T.m_list (by decide +kernel) (pa_cons (pv 0) pa_nil)) (pa_cons pe_int (pa_cons pe_int pa_nil))))) 
      (pss_cons (ps_for PassesOwn.never rfl (pi_range1 rfl T.m_range (pa_cons pe_int pa_nil)) (pg_name (i := 2) sc_law.nd rfl (.inl rfl)) (pss_cons (ps_set (i := 3) sc_law.nd rfl (.inr rfl) (pe_call G_law_schema (hr.mono (by decide)) (by rfl) T.g_law_schema T.F_law_schema.kp T.b_law_schema .nil pass0 (pa_cons (pv 1) pa_nil))) 
      (pss_cons (ps_setLc (i := 4) (own := [("k", 5)]) (g := gName 5) rfl sc_law.nd rfl rfl (sw_true rfl rfl rfl (by decide +kernel)) (pi_range1 rfl T.m_range (pa_cons (pe_ix ix_tup (pv 3) pe_int (fun _ _ => rfl)) pa_nil)) (blkOk_by (own := [("k", 5)]) (N := ["script", "state", "turn", "drawn", "vector", "k", "name", "pairs", "words", "number", "row", "cell"]) (sc := defScope s_law) (by decide +kernel)) (fun _ _ _ _ _ => (pg_name (i := 5) sc_law.nd rfl (Or.inl rfl))) (fun _ _ _ _ _ => pts_nil) (fun _ _ _ _ _ => (pe_call G_law_number (hr.mono (by decide)) (by rfl) T.g_law_number T.F_law_number.kp T.b_law_number .nil pass0 (pa_cons (pv 1) (pa_cons (pe_ix (r := rIxT K) (by exact ix_tup) (pv 3) pe_int (fun _ _ => rfl)) pa_nil))))) 
      (pss_cons (ps_set (i := 6) sc_law.nd rfl (.inl rfl) (pe_call G_law_name (hr.mono (by decide)) (by rfl) T.g_law_name T.F_law_name.kp T.b_law_name .nil pass0 (pa_cons (pv 1) pa_nil))) 
      (pss_cons (ps_set (i := 7) sc_law.nd rfl (.inl rfl) (pe_call G_law_pairs (hr.mono (by decide)) (by rfl) T.g_law_pairs T.F_law_pairs.kp T.b_law_pairs .nil pass0 (pa_cons (pv 1) (pa_cons (pe_ix ix_tup (pv 3) pe_int (fun _ _ => rfl)) pa_nil)))) 
      (pss_cons (ps_set (i := 8) sc_law.nd rfl (.inl rfl) (pe_call G_law_words (hr.mono (by decide)) (by rfl) T.g_law_words T.F_law_words.kp T.b_law_words .nil pass0 (pa_cons (pv 1) pa_nil))) 
      (pss_cons (ps_set (i := 9) sc_law.nd rfl (.inl rfl) (pe_call G_law_next (hr.mono (by decide)) (by rfl) T.g_law_next T.F_law_next.kp T.b_law_next .nil pass0 (pa_cons (pv 1) (pa_cons pe_int pa_nil)))) 
      (pss_cut (ps_if (pt_cmpR op_eq (pe_call G_law_next (hr.mono (by decide)) (by rfl) T.g_law_next T.F_law_next.kp T.b_law_next .nil pass0 (pa_cons (pv 1) (pa_cons pe_int pa_nil))) pe_int (nomark _)) (pss_one (ps_set (i := 9) sc_law.nd rfl (.inl rfl) (pe_call G_law_next (hr.mono (by decide)) (by rfl) T.g_law_next T.F_law_next.kp T.b_law_next .nil pass0 (pa_cons (pv 1) (pa_cons (pe_op op_pow pe_int pe_int) pa_nil))))) pss_nil) 
      (pss_cons (ps_set (i := 10) sc_law.nd rfl (.inl rfl) (pe_call G_row_of (hr.mono (by decide)) (by rfl) T.g_row_of T.F_row_of.kp T.b_row_of .nil pass0 (pa_cons (pv 9) (pa_cons (pe_makeK T.mk_Record G_Record___init__ (hr.mono (by decide)) (by rfl) T.mc_Record T.kb_Record___init__ pass0 (pa_cons (pv 6) (pa_cons (pe_callTy call_list_of (by rfl) T.m_list (by decide +kernel) (pa_cons (pv 4) pa_nil)) pa_nil)) (pk_cons (pe_callTy call_list_of (by rfl) T.m_list (by decide +kernel) (pa_cons (pv 7) pa_nil)) (pk_cons (pe_callTy call_list_of (by rfl) T.m_list (by decide +kernel) (pa_cons (pv 8) pa_nil)) pk_nil))) pa_nil)))) 
      (pss_cons (ps_if (PW.pt (pw_or (pt_not (pt_val (pe_callB call_isi (by rfl) T.m_isinstance (by decide +kernel) (pa_cons (pv 10) (pa_cons (pe_bltn (v := .ty "list") (u := .type "list") (by rfl) T.m_list (by decide +kernel) rfl) pa_nil))))) (pw_or1 (pt_cmpR op_ne (pe_callB call_len_seq (by rfl) T.m_len PySem.boot_len (pa_cons (pv 10) pa_nil)) (pe_call G_law_size (hr.mono (by decide)) (by rfl) T.g_law_size T.F_law_size.kp T.b_law_size .nil pass0 (pa_cons (pv 6) (pa_cons (pv 4) (pa_cons (pv 7) (pa_cons (pv 8) pa_nil))))) (nomark _))))) (pss_one (ps_ret pe_bl)) pss_nil) 
      (pss_cons (ps_for PassesOwn.never rfl (pi_list (pv 10)) (pg_name (i := 11) sc_law.nd rfl (.inl rfl)) (pss_one (ps_if (PW.pt (pw_or (pt_not (pt_val (pe_callB call_isi (by rfl) T.m_isinstance (by decide +kernel) (pa_cons (pv 11) (pa_cons (pe_bltn (v := .ty "int") (u := .type "int") (by rfl) T.m_int (by decide +kernel) rfl) pa_nil))))) (pw_or1 (pt_val (pe_callB call_isi (by rfl) T.m_isinstance (by decide +kernel) (pa_cons (pv 11) (pa_cons (pe_bltn (v := .ty "bool") (u := .type "bool") (by rfl) T.m_bool (by decide +kernel) rfl) pa_nil))))))) (pss_one (ps_ret pe_bl)) pss_nil))) 
      (pss_one (ps_if (pt_not (pt_truth (pe_call G_law_reads (hr.mono (by decide)) (by rfl) T.g_law_reads T.F_law_reads.kp T.b_law_reads .nil pass0 (pa_cons (pv 10) (pa_cons (pv 9) (pa_cons (pv 6) (pa_cons (pv 4) (pa_cons (pv 7) (pa_cons (pv 8) pa_nil))))))) (by intro _; rfl))) (pss_one (ps_ret pe_bl)) pss_nil))))))))))))) 
      (pss_one (ps_ret pe_bl)))), ?_⟩
    refine ⟨_, rfl, a, _, rfl, .inl hA, fun sc hsc => ⟨(by show 3 ≤ sizeLine; decide), fun st hst => ?_⟩⟩
    have hS0 := st_made hsc hst hlen
    generalize upd (upd H sc (.lst (ns.map V.int))) st (.lst [.ref sc, .int 0, .int 0]) = H0 at hS0
    refine ⟨4, rfl, by decide, by decide, for_range (lo := 0) (n := 4) (fun i σ H' => StAt H' st sc ∧ ∃ (y2 y3 y4 y5 y6 y7 y8 y9 y10 y11 : Option V), σ = [some (.ref a), some (.ref st), y2, y3, y4, y5, y6, y7, y8, y9, y10, y11]) ⟨hS0, none, none, none, none, none, none, none, none, none, none, rfl⟩ ?_ ?_⟩
    rotate_left
    · rintro σ H' ⟨_, y2, y3, y4, y5, y6, y7, y8, y9, y10, y11, rfl⟩
      exact q H'
    rintro i σ Hi hi ⟨hSi, y2, y3, y4, y5, y6, y7, y8, y9, y10, y11, rfl⟩
    -- drawn
    refine ⟨_, rfl, st, sc, rfl, hSi, fun t pf n w m fs H1 n1 n4 w3 m3 hb ok nt tn ht xf hS1 f1 => ?_⟩
    -- vector
    refine ⟨_, rfl, t, _, _, _, rfl, rfl, SqT.of ht, at_of (j := 0) rfl rfl, n, rfl, by omega, by omega, fun D hD => ?_⟩
    have nD : D ≠ st := st_new hS1 hD
    refine lc_range (lo := 0) (n := n.toNat) (fun i H' => Fr st H1 H' ∧ StAt H' st sc ∧ ∃ zs : List Int, zs.length = i ∧ H' D = some (.lst (zs.map V.int))) ⟨Fr.new hD, hS1.new hD, [], rfl, upd_same⟩ ?_ ?_
    · rintro i H2 hi ⟨f2, hS2, zs, hz, h2⟩
      refine ⟨rfl, _, rfl, _, rfl, t, _, _, _, rfl, rfl, SqT.of (f2 _ _ ht nt), at_of (j := 1) rfl rfl, st, sc, w, rfl, hS2, w3, fun v H3 v0 v1 hS3 f3 => ?_⟩
      refine ⟨_, f3 _ _ h2 nD, ?_, (f2.trans f3).set hD, hS3.set hS1 hD, zs ++ [v], by simp [hz], by rw [upd_same, List.map_append]; rfl⟩
      rw [List.length_map, hz]
      exact len_le (by omega)
    rintro H2 ⟨f2, hS2, zs, hz, h2⟩
    have ht2 := f2 _ _ ht nt
    have xf2 := xf.fr f2 in1
    -- name, pairs, words, number
    refine ⟨_, rfl, st, sc, rfl, hS2, fun z H3 zok z8 hS3 f3 => ?_⟩
    refine ⟨_, rfl, _, rfl, t, _, _, _, rfl, rfl, SqT.of (f3 _ _ ht2 nt), at_of (j := 3) rfl rfl, st, sc, pf, fs, rfl, hS3, xf2.fr f3 in1, ok, fun pp ps H4 pok npp xp hS4 f4 => ?_⟩
    refine ⟨_, rfl, st, sc, rfl, hS4, fun pw ws H5 wok npw xw hS5 f5 => ?_⟩
    refine ⟨_, rfl, st, sc, 10, rfl, hS5, by decide, by decide +kernel, fun nu0 H6 _ _ hS6 o6 => ?_⟩
    have g6 := o6.fr _ _ (f5 _ _ (f4 _ _ (f3 _ _ h2 nD) nD) nD) nD
    have xp6 := (xp.fr f5 in1).fr o6.fr in1
    have xw6 := xw.fr o6.fr in1
    refine ⟨fun σ H' => StAt H' st sc ∧ Fr st H6 H' ∧ ∃ nu : Int, ∃ (y5 y10 y11 : Option V), σ = [some (.ref a), some (.ref st), some (.int (0 + (i : Int))), some (.ref t), some (.ref D), y5, some (.str z), some (.ref pp), some (.ref pw), some (.int nu), y10, y11], ?_, ?_⟩
    · refine ⟨_, rfl, st, sc, 2, rfl, hS6, by decide, by decide +kernel, fun e H7 _ _ hS7 o7 => ⟨rfl, _, rfl, ite2 (fun _ => ?_) (fun _ => ?_)⟩⟩
      · refine ⟨_, rfl, _, _, rfl, rfl, ⟨by decide, by decide, by decide⟩, st, sc, _, rfl, hS7, by decide +kernel, by decide +kernel, fun nu H8 _ _ hS8 o8 => ?_⟩
        exact ⟨hS8, o7.fr.trans o8.fr, nu, _, _, _, rfl⟩
      · exact ⟨hS7, o7.fr, nu0, _, _, _, rfl⟩
    rintro σ H7 ⟨hS7, f7, nu, y5, y10, y11, rfl⟩
    have g7 := f7 _ _ g6 nD
    have xp7 := xp6.fr f7 in1
    have xw7 := xw6.fr f7 in1
    obtain ⟨pp', vp, ep, npp', gp, tp⟩ := xp7.isL
    cases ep
    obtain ⟨pw', vw, ew, _, gw, tw⟩ := xw7.isL
    cases ew
    have lp := tp.length
    have lw := tw.length
    rw [List.length_map] at lp lw
    have lp8 := pok.len
    have lw8 := wok.len
    have lz4 : zs.length ≤ 100 := by omega
    -- row
    refine ⟨_, rfl, _, rfl, _, rfl, D, _, rfl, .inl (SqL.of g7), fun v2 hv2 => ?_⟩
    have s8 := same_new (o := .lst (zs.map V.int)) hv2
    have hv8 : (upd H7 v2 (.lst (zs.map V.int))) v2 = some (.lst (zs.map V.int)) := upd_same
    generalize upd H7 v2 (.lst (zs.map V.int)) = H8 at s8 hv8 ⊢
    refine ⟨_, rfl, pp, _, rfl, .inl (SqL.of (s8 _ _ gp)), fun p2 hp2 => ?_⟩
    have s9 := s8.trans (same_new (o := .lst vp) hp2)
    have hp9 : (upd H8 p2 (.lst vp)) p2 = some (.lst vp) := upd_same
    have hv9 := same_new (o := .lst vp) hp2 _ _ hv8
    generalize upd H8 p2 (.lst vp) = H9 at s9 hp9 hv9 ⊢
    refine ⟨_, rfl, pw, _, rfl, .inl (SqL.of (s9 _ _ gw)), fun w2 hw2 => ?_⟩
    have sa := s9.trans (same_new (o := .lst vw) hw2)
    have hwa : (upd H9 w2 (.lst vw)) w2 = some (.lst vw) := upd_same
    have hpa := same_new (o := .lst vw) hw2 _ _ hp9
    have hva := same_new (o := .lst vw) hw2 _ _ hv9
    generalize upd H9 w2 (.lst vw) = Ha at sa hpa hva hwa ⊢
    refine ⟨rfl, rfl, fun x dx nx ndx nex => ?_⟩
    have smx : Same Ha (upd (upd Ha dx (.own x)) x (.ins T.c_Record dx [])) := fun b o hb => by
      rw [upd_ne (ne_of_none hb nx), upd_ne (ne_of_none hb ndx)]
      exact hb
    refine ⟨x, dx, v2, p2, w2, z, zs, _, _, ps, ws, rfl, upd_same, SqL.of (smx _ _ hva), SqL.of (smx _ _ hpa), (tp.nilN.same sa).same smx, SqL.of (smx _ _ hwa), (tw.nilN.same sa).same smx, by omega, by omega, fun Hb Rb fb => ⟨rfl, ?_⟩⟩
    have smb : Same Ha Hb := fun b o hb => fb b o (smx b o hb) (ne_of_none hb nx)
    replace sa := sa.trans smb
    clear smx fb smb hva hpa hwa s8 s9 hv8 hp9 hv9
    refine ⟨nu, x, z, zs, ps, ws, rfl, Rb, z8, lz4, pok, wok, fun rw_ Hc sc' nr hr_ => ?_⟩
    replace sa := sa.trans sc'
    -- if not isinstance(row, list) or len(row) != _law_size(..)
    refine ⟨_, rfl, _, _, _, _, true, rfl, .ty _, .base (.lst hr_), kit_ty (by decide +kernel), true, rfl, iteF ?_⟩
    refine ⟨_, rfl, rw_, _, rfl, .inl (SqL.of hr_), _, rfl, _, rfl, _, rfl, _, rfl, z, D, pp, pw, zs, ps, ws, nu, rfl, sa _ _ g7, xp7.nilN.same sa, xw7.nilN.same sa, z8, lz4, pok, wok, rfl, _, rfl, iteNS (by rw [List.length_map]) ?_⟩
    -- for cell in row
    refine ⟨_, rfl, rw_, rfl, ⟨_, SqL.of hr_⟩, ?_⟩
    refine for_list (K := K) (a := rw_) (xs := (rowZ nu z zs ps ws).map V.int) (fun j σ H' => H' = Hc ∧ ∃ x11, σ = [some (.ref a), some (.ref st), some (.int (0 + (i : Int))), some (.ref t), some (.ref D), y5, some (.str z), some (.ref pp), some (.ref pw), some (.int nu), some (.ref rw_), x11]) ⟨rfl, y11, rfl⟩ (fun j σ H' _ h => by rw [h.1]; exact SqL.of hr_) ?_ ?_
    · rintro j v σ H' hj ⟨rfl, x11, rfl⟩
      obtain ⟨c, rfl, hc⟩ := get_map hj
      refine ⟨_, rfl, _, _, _, _, true, rfl, .ty _, .base (.int _), kit_ty (by decide +kernel), true, rfl, iteF ?_⟩
      exact ⟨_, rfl, _, _, _, _, false, rfl, .ty _, .base (.int _), kit_ty (by decide +kernel), false, rfl, iteF ⟨rfl, _, rfl⟩⟩
    rintro σ H' ⟨rfl, x11, rfl⟩
    -- if not _law_reads(..)
    refine ⟨_, rfl, _, rfl, _, rfl, _, rfl, _, rfl, _, rfl, rw_, D, pp, pw, z, zs, ps, ws, nu, rfl, hr_, sa _ _ g7, xp7.nilN.same sa, xw7.nilN.same sa, z8, lz4, pok, wok, fun Hd sd => ⟨true, rfl, iteF ⟨(hS7.same sa).same sd, _, _, _, _, _, _, _, _, _, _, rfl⟩⟩⟩
end
theorem all_mk {l : PySem.W.OpenLaw} {w : World} {K : PySem.W.Frag} {h : Heap} {mg : Str → Option Value} {fa f0 f1 f2 f3 f4 f5 f6 f7 f8 f9 f10 f11 f12 f13 f14 f15 f16 f17 f18 : Addr} (X : K.In h) (G : h.Ns mainGlobals mg) (hfa : mg "law" = some (.ref fa))
    {od0 an0 od1 an1 od2 an2 od3 an3 od4 an4 od5 an5 od6 an6 od7 an7 od8 an8 od9 an9 od10 an10 od11 an11 od12 an12 od13 an13 od14 an14 od15 an15 od16 an16 od17 an17 od18 an18 : Option Addr} {sl0 sl1 sl2 sl3 sl4 sl5 sl6 sl7 sl8 sl9 sl10 sl11 sl12 sl13 sl14 sl15 sl16 sl17 sl18 : Array (Option Value)} {oc0 kV0 dc0 pm0 cd0 ct0 oc1 kV1 dc1 pm1 cd1 ct1 oc2 kV2 dc2 pm2 cd2 ct2 oc3 kV3 dc3 pm3 cd3 ct3 oc4 kV4 dc4 pm4 cd4 ct4 oc5 kV5 dc5 pm5 cd5 ct5 oc6 kV6 dc6 pm6 cd6 ct6 oc7 kV7 dc7 pm7 cd7 ct7 oc8 kV8 dc8 pm8 cd8 ct8 oc9 kV9 dc9 pm9 cd9 ct9 oc10 kV10 dc10 pm10 cd10 ct10 oc11 kV11 dc11 pm11 cd11 ct11 oc12 dc12 pm12 cd12 ct12 oc13 kV13 dc13 pm13 cd13 ct13 oc14 kV14 dc14 pm14 cd14 ct14 oc15 kV15 dc15 pm15 cd15 ct15 oc16 kV16 dc16 pm16 cd16 ct16 oc17 kV17 dc17 pm17 cd17 ct17 oc18 kV18 dc18 pm18 cd18 ct18 : Value}
    {C_Record : Addr}
    (a0 : PySem.W.nsIn K mainGlobals "_law_row" = some (some (.ref f0))) (l0 : K.lookup f0 = some ⟨oc0, od0, .func (PySem.W.fnOf "_law_row" "_law_row" (defArgs s_law_row) (defBody s_law_row) (defScope s_law_row) .none kV0 dc0 pm0 an0 cd0 ct0), sl0⟩) (c0 : PySem.W.codeIn K cd0 "_law_row" = true) (k0 : PySem.W.keepIn K (.ref f0) = true)
    (a1 : PySem.W.nsIn K mainGlobals "_law_next" = some (some (.ref f1))) (l1 : K.lookup f1 = some ⟨oc1, od1, .func (PySem.W.fnOf "_law_next" "_law_next" (defArgs s_law_next) (defBody s_law_next) (defScope s_law_next) .none kV1 dc1 pm1 an1 cd1 ct1), sl1⟩) (c1 : PySem.W.codeIn K cd1 "_law_next" = true) (k1 : PySem.W.keepIn K (.ref f1) = true)
    (a2 : PySem.W.nsIn K mainGlobals "_law_fields" = some (some (.ref f2))) (l2 : K.lookup f2 = some ⟨oc2, od2, .func (PySem.W.fnOf "_law_fields" "_law_fields" (defArgs s_law_fields) (defBody s_law_fields) (defScope s_law_fields) .none kV2 dc2 pm2 an2 cd2 ct2), sl2⟩) (c2 : PySem.W.codeIn K cd2 "_law_fields" = true) (k2 : PySem.W.keepIn K (.ref f2) = true)
    (a3 : PySem.W.nsIn K mainGlobals "_law_schema" = some (some (.ref f3))) (l3 : K.lookup f3 = some ⟨oc3, od3, .func (PySem.W.fnOf "_law_schema" "_law_schema" (defArgs s_law_schema) (defBody s_law_schema) (defScope s_law_schema) .none kV3 dc3 pm3 an3 cd3 ct3), sl3⟩) (c3 : PySem.W.codeIn K cd3 "_law_schema" = true) (k3 : PySem.W.keepIn K (.ref f3) = true)
    (a4 : PySem.W.nsIn K mainGlobals "_law_number" = some (some (.ref f4))) (l4 : K.lookup f4 = some ⟨oc4, od4, .func (PySem.W.fnOf "_law_number" "_law_number" (defArgs s_law_number) (defBody s_law_number) (defScope s_law_number) .none kV4 dc4 pm4 an4 cd4 ct4), sl4⟩) (c4 : PySem.W.codeIn K cd4 "_law_number" = true) (k4 : PySem.W.keepIn K (.ref f4) = true)
    (a5 : PySem.W.nsIn K mainGlobals "_law_value" = some (some (.ref f5))) (l5 : K.lookup f5 = some ⟨oc5, od5, .func (PySem.W.fnOf "_law_value" "_law_value" (defArgs s_law_value) (defBody s_law_value) (defScope s_law_value) .none kV5 dc5 pm5 an5 cd5 ct5), sl5⟩) (c5 : PySem.W.codeIn K cd5 "_law_value" = true) (k5 : PySem.W.keepIn K (.ref f5) = true)
    (a6 : PySem.W.nsIn K mainGlobals "_law_pairs" = some (some (.ref f6))) (l6 : K.lookup f6 = some ⟨oc6, od6, .func (PySem.W.fnOf "_law_pairs" "_law_pairs" (defArgs s_law_pairs) (defBody s_law_pairs) (defScope s_law_pairs) .none kV6 dc6 pm6 an6 cd6 ct6), sl6⟩) (c6 : PySem.W.codeIn K cd6 "_law_pairs" = true) (k6 : PySem.W.keepIn K (.ref f6) = true)
    (a7 : PySem.W.nsIn K mainGlobals "_law_words" = some (some (.ref f7))) (l7 : K.lookup f7 = some ⟨oc7, od7, .func (PySem.W.fnOf "_law_words" "_law_words" (defArgs s_law_words) (defBody s_law_words) (defScope s_law_words) .none kV7 dc7 pm7 an7 cd7 ct7), sl7⟩) (c7 : PySem.W.codeIn K cd7 "_law_words" = true) (k7 : PySem.W.keepIn K (.ref f7) = true)
    (a8 : PySem.W.nsIn K mainGlobals "_law_name" = some (some (.ref f8))) (l8 : K.lookup f8 = some ⟨oc8, od8, .func (PySem.W.fnOf "_law_name" "_law_name" (defArgs s_law_name) (defBody s_law_name) (defScope s_law_name) .none kV8 dc8 pm8 an8 cd8 ct8), sl8⟩) (c8 : PySem.W.codeIn K cd8 "_law_name" = true) (k8 : PySem.W.keepIn K (.ref f8) = true)
    (a9 : PySem.W.nsIn K mainGlobals "kind_of_value" = some (some (.ref f9))) (l9 : K.lookup f9 = some ⟨oc9, od9, .func (PySem.W.fnOf "kind_of_value" "kind_of_value" (defArgs s_kind_of_value) (defBody s_kind_of_value) (defScope s_kind_of_value) .none kV9 dc9 pm9 an9 cd9 ct9), sl9⟩) (c9 : PySem.W.codeIn K cd9 "kind_of_value" = true) (k9 : PySem.W.keepIn K (.ref f9) = true)
    (a10 : PySem.W.nsIn K mainGlobals "string_part" = some (some (.ref f10))) (l10 : K.lookup f10 = some ⟨oc10, od10, .func (PySem.W.fnOf "string_part" "string_part" (defArgs s_string_part) (defBody s_string_part) (defScope s_string_part) .none kV10 dc10 pm10 an10 cd10 ct10), sl10⟩) (c10 : PySem.W.codeIn K cd10 "string_part" = true) (k10 : PySem.W.keepIn K (.ref f10) = true)
    (a11 : PySem.W.nsIn K mainGlobals "value_part" = some (some (.ref f11))) (l11 : K.lookup f11 = some ⟨oc11, od11, .func (PySem.W.fnOf "value_part" "value_part" (defArgs s_value_part) (defBody s_value_part) (defScope s_value_part) .none kV11 dc11 pm11 an11 cd11 ct11), sl11⟩) (c11 : PySem.W.codeIn K cd11 "value_part" = true) (k11 : PySem.W.keepIn K (.ref f11) = true)
    {DK12 : Addr} (l12 : K.lookup f12 = some ⟨oc12, od12, .func (PySem.W.fnOf "__init__" "Record.__init__" (defArgs s_Record___init__) (defBody s_Record___init__) (defScope s_Record___init__) .none (.ref DK12) dc12 pm12 an12 cd12 ct12), sl12⟩) (c12 : PySem.W.codeIn K cd12 "Record.__init__" = true) (k12 : PySem.W.keepIn K (.ref f12) = true)
    {E12_fields : Addr} {eo12_fields : Option Addr} {en12_fields : Nat} {es12_fields : Array (Option Value)} (n12_fields : PySem.W.nsIn K DK12 "fields" = some (some (.ref E12_fields))) (t12_fields : K.lookup E12_fields = some ⟨.type "tuple", eo12_fields, .seq #[] en12_fields, es12_fields⟩)
    {E12_words : Addr} {eo12_words : Option Addr} {en12_words : Nat} {es12_words : Array (Option Value)} (n12_words : PySem.W.nsIn K DK12 "words" = some (some (.ref E12_words))) (t12_words : K.lookup E12_words = some ⟨.type "tuple", eo12_words, .seq #[] en12_words, es12_words⟩)
    (a13 : PySem.W.nsIn K mainGlobals "row_of" = some (some (.ref f13))) (l13 : K.lookup f13 = some ⟨oc13, od13, .func (PySem.W.fnOf "row_of" "row_of" (defArgs s_row_of) (defBody s_row_of) (defScope s_row_of) .none kV13 dc13 pm13 an13 cd13 ct13), sl13⟩) (c13 : PySem.W.codeIn K cd13 "row_of" = true) (k13 : PySem.W.keepIn K (.ref f13) = true)
    (a14 : PySem.W.nsIn K mainGlobals "_law_string" = some (some (.ref f14))) (l14 : K.lookup f14 = some ⟨oc14, od14, .func (PySem.W.fnOf "_law_string" "_law_string" (defArgs s_law_string) (defBody s_law_string) (defScope s_law_string) .none kV14 dc14 pm14 an14 cd14 ct14), sl14⟩) (c14 : PySem.W.codeIn K cd14 "_law_string" = true) (k14 : PySem.W.keepIn K (.ref f14) = true)
    (a15 : PySem.W.nsIn K mainGlobals "_law_codes" = some (some (.ref f15))) (l15 : K.lookup f15 = some ⟨oc15, od15, .func (PySem.W.fnOf "_law_codes" "_law_codes" (defArgs s_law_codes) (defBody s_law_codes) (defScope s_law_codes) .none kV15 dc15 pm15 an15 cd15 ct15), sl15⟩) (c15 : PySem.W.codeIn K cd15 "_law_codes" = true) (k15 : PySem.W.keepIn K (.ref f15) = true)
    (a16 : PySem.W.nsIn K mainGlobals "_law_size" = some (some (.ref f16))) (l16 : K.lookup f16 = some ⟨oc16, od16, .func (PySem.W.fnOf "_law_size" "_law_size" (defArgs s_law_size) (defBody s_law_size) (defScope s_law_size) .none kV16 dc16 pm16 an16 cd16 ct16), sl16⟩) (c16 : PySem.W.codeIn K cd16 "_law_size" = true) (k16 : PySem.W.keepIn K (.ref f16) = true)
    (a17 : PySem.W.nsIn K mainGlobals "_law_reads" = some (some (.ref f17))) (l17 : K.lookup f17 = some ⟨oc17, od17, .func (PySem.W.fnOf "_law_reads" "_law_reads" (defArgs s_law_reads) (defBody s_law_reads) (defScope s_law_reads) .none kV17 dc17 pm17 an17 cd17 ct17), sl17⟩) (c17 : PySem.W.codeIn K cd17 "_law_reads" = true) (k17 : PySem.W.keepIn K (.ref f17) = true)
    (a18 : PySem.W.nsIn K mainGlobals "law" = some (some (.ref f18))) (l18 : K.lookup f18 = some ⟨oc18, od18, .func (PySem.W.fnOf "law" "law" (defArgs s_law) (defBody s_law) (defScope s_law) .none kV18 dc18 pm18 an18 cd18 ct18), sl18⟩) (c18 : PySem.W.codeIn K cd18 "law" = true) (k18 : PySem.W.keepIn K (.ref f18) = true)
    (aC_Record : PySem.W.nsIn K mainGlobals "Record" = some (some (.ref C_Record)))
    (pg_Record : PySem.W.plainGet K C_Record Str.empty = true)
    (hd_Record : PySem.W.hasDictIn K C_Record = true)
    (po_Record : PySem.W.plainOver K C_Record = true)
    (sa_Record : PySem.W.findIn K (.ref C_Record) "__setattr__" = some (some (.builtin "object.__setattr__")))
    (n_Record_name : PySem.W.findIn K (.ref C_Record) "name" = some none)
    (n_Record_vector : PySem.W.findIn K (.ref C_Record) "vector" = some none)
    (n_Record_fields : PySem.W.findIn K (.ref C_Record) "fields" = some none)
    (n_Record_words : PySem.W.findIn K (.ref C_Record) "words" = some none)
    (mk_Record : PySem.W.makesIn K C_Record = true)
    (in_Record : PySem.W.findIn K (.ref C_Record) "__init__" = some (some (.ref f12)))
    (if_Record : PySem.W.isFn K (.ref f12) = true)
    (kc_Record : PySem.W.keepIn K (.ref C_Record) = true)
    (z_bool : PySem.W.nsIn K mainGlobals "bool" = some none)
    (z_int : PySem.W.nsIn K mainGlobals "int" = some none)
    (z_isinstance : PySem.W.nsIn K mainGlobals "isinstance" = some none)
    (z_len : PySem.W.nsIn K mainGlobals "len" = some none)
    (z_list : PySem.W.nsIn K mainGlobals "list" = some none)
    (z_max : PySem.W.nsIn K mainGlobals "max" = some none)
    (z_min : PySem.W.nsIn K mainGlobals "min" = some none)
    (z_ord : PySem.W.nsIn K mainGlobals "ord" = some none)
    (z_range : PySem.W.nsIn K mainGlobals "range" = some none)
    (z_str : PySem.W.nsIn K mainGlobals "str" = some none)
    (z_tuple : PySem.W.nsIn K mainGlobals "tuple" = some none)
    : ∃ fd : FuncData, (∀ (s : Shared) (v : Value), BindsTo s fd ⟨[v], []⟩ [("script", v)]) ∧ ∀ base : Heap, K.In base → base.Ns mainGlobals mg → FnOk l.prog w K mg base CX0 5 fa fd ["script"] (sp_law K) := by
  have e := hfa.symm.trans (PySem.W.mg_of X G a18)
  cases e
  have F0 := fun_mk (st := s_law_row) l0 c0 k0
  have b0 := F0.binds (ps := ["script", "k"]) fun _ _ _ _ _ _ us hl => match us, hl with | [_, _], _ => rfl
  have F1 := fun_mk (st := s_law_next) l1 c1 k1
  have b1 := F1.binds (ps := ["state", "many"]) fun _ _ _ _ _ _ us hl => match us, hl with | [_, _], _ => rfl
  have F2 := fun_mk (st := s_law_fields) l2 c2 k2
  have b2 := F2.binds (ps := ["state"]) fun _ _ _ _ _ _ us hl => match us, hl with | [_], _ => rfl
  have F3 := fun_mk (st := s_law_schema) l3 c3 k3
  have b3 := F3.binds (ps := ["state"]) fun _ _ _ _ _ _ us hl => match us, hl with | [_], _ => rfl
  have F4 := fun_mk (st := s_law_number) l4 c4 k4
  have b4 := F4.binds (ps := ["state", "width"]) fun _ _ _ _ _ _ us hl => match us, hl with | [_, _], _ => rfl
  have F5 := fun_mk (st := s_law_value) l5 c5 k5
  have b5 := F5.binds (ps := ["state", "kind"]) fun _ _ _ _ _ _ us hl => match us, hl with | [_, _], _ => rfl
  have F6 := fun_mk (st := s_law_pairs) l6 c6 k6
  have b6 := F6.binds (ps := ["state", "fields"]) fun _ _ _ _ _ _ us hl => match us, hl with | [_, _], _ => rfl
  have F7 := fun_mk (st := s_law_words) l7 c7 k7
  have b7 := F7.binds (ps := ["state"]) fun _ _ _ _ _ _ us hl => match us, hl with | [_], _ => rfl
  have F8 := fun_mk (st := s_law_name) l8 c8 k8
  have b8 := F8.binds (ps := ["state"]) fun _ _ _ _ _ _ us hl => match us, hl with | [_], _ => rfl
  have F9 := fun_mk (st := s_kind_of_value) l9 c9 k9
  have b9 := F9.binds (ps := ["worth"]) fun _ _ _ _ _ _ us hl => match us, hl with | [_], _ => rfl
  have F10 := fun_mk (st := s_string_part) l10 c10 k10
  have b10 := F10.binds (ps := ["text"]) fun _ _ _ _ _ _ us hl => match us, hl with | [_], _ => rfl
  have F11 := fun_mk (st := s_value_part) l11 c11 k11
  have b11 := F11.binds (ps := ["worth"]) fun _ _ _ _ _ _ us hl => match us, hl with | [_], _ => rfl
  have F12 : FunD K "__init__" "Record.__init__" (defArgs s_Record___init__) (defBody s_Record___init__) (defScope s_Record___init__) [] [("fields", .ref E12_fields), ("words", .ref E12_words)] f12 _ := ⟨⟨_, _, _, _, _, _, _, _, _, _, rfl, l12, c12, .inl ⟨rfl, rfl⟩, .inr ⟨DK12, rfl, fun q hq => by
    simp only [List.mem_cons, List.not_mem_nil, or_false] at hq
    rcases hq with rfl | rfl
    · exact ⟨_, n12_fields, rfl⟩
    · exact ⟨_, n12_words, rfl⟩⟩⟩, k12⟩
  obtain ⟨mv12, kb12⟩ := F12.kbinds0 (ps := ["self", "name", "vector", "fields", "words"]) 3 ["fields", "words"] [] (fun us mv ws => us ++ ws) (by intro h; cases h) (fun q h => by cases h) (fun r1 _ r3 => r1.append r3) (fun D doc pm an cdv ct us mv ws l1 l2 l3 => match us, mv, ws, l1, l2, l3 with | [_, _, _], [], [_, _], _, _, _ => rfl)
  obtain ⟨ds12, v12, b12⟩ := F12.binds0 (ps := ["self", "name", "vector", "fields", "words"]) 3 (by intro h; cases h) rfl (fun D doc pm an cdv ct us ks l1 l2 => match us, ks, l1, l2 with | [_, _, _], [_, _], _, _ => ⟨_, _, _, _, _, _, rfl, rfl, ⟨_, _, _, _, _, _, rfl, rfl, rfl⟩⟩)
  have F13 := fun_mk (st := s_row_of) l13 c13 k13
  have b13 := F13.binds (ps := ["number", "record"]) fun _ _ _ _ _ _ us hl => match us, hl with | [_, _], _ => rfl
  have F14 := fun_mk (st := s_law_string) l14 c14 k14
  have b14 := F14.binds (ps := ["row", "at"]) fun _ _ _ _ _ _ us hl => match us, hl with | [_, _], _ => rfl
  have F15 := fun_mk (st := s_law_codes) l15 c15 k15
  have b15 := F15.binds (ps := ["text"]) fun _ _ _ _ _ _ us hl => match us, hl with | [_], _ => rfl
  have F16 := fun_mk (st := s_law_size) l16 c16 k16
  have b16 := F16.binds (ps := ["name", "vector", "pairs", "words"]) fun _ _ _ _ _ _ us hl => match us, hl with | [_, _, _, _], _ => rfl
  have F17 := fun_mk (st := s_law_reads) l17 c17 k17
  have b17 := F17.binds (ps := ["row", "number", "name", "vector", "pairs", "words"]) fun _ _ _ _ _ _ us hl => match us, hl with | [_, _, _, _, _, _], _ => rfl
  have F18 := fun_mk (st := s_law) l18 c18 k18
  have b18 := F18.binds (ps := ["script"]) fun _ _ _ _ _ _ us hl => match us, hl with | [_], _ => rfl
  let T : Txt K mg := ⟨_, _, F0, b0, PySem.W.mg_of X G a0,
    _, _, F1, b1, PySem.W.mg_of X G a1,
    _, _, F2, b2, PySem.W.mg_of X G a2,
    _, _, F3, b3, PySem.W.mg_of X G a3,
    _, _, F4, b4, PySem.W.mg_of X G a4,
    _, _, F5, b5, PySem.W.mg_of X G a5,
    _, _, F6, b6, PySem.W.mg_of X G a6,
    _, _, F7, b7, PySem.W.mg_of X G a7,
    _, _, F8, b8, PySem.W.mg_of X G a8,
    _, _, F9, b9, PySem.W.mg_of X G a9,
    _, _, F10, b10, PySem.W.mg_of X G a10,
    _, _, F11, b11, PySem.W.mg_of X G a11,
    _, _, _, fun H => .inr ⟨_, _, _, t12_fields, rfl, rfl, by decide, .nil⟩, _, fun H => .inr ⟨_, _, _, t12_words, rfl, rfl, by decide, .nil⟩, F12, kb12, _, v12, b12,
    _, _, F13, b13, PySem.W.mg_of X G a13,
    _, _, F14, b14, PySem.W.mg_of X G a14,
    _, _, F15, b15, PySem.W.mg_of X G a15,
    _, _, F16, b16, PySem.W.mg_of X G a16,
    _, _, F17, b17, PySem.W.mg_of X G a17,
    _, _, F18, b18, PySem.W.mg_of X G a18,
    _, ⟨pg_Record, hd_Record, po_Record, sa_Record⟩, PySem.W.mg_of X G aC_Record, n_Record_name, n_Record_vector, n_Record_fields, n_Record_words, ⟨mk_Record, in_Record, if_Record, kc_Record⟩,
    PySem.W.mg_none_of X G z_bool,
    PySem.W.mg_none_of X G z_int,
    PySem.W.mg_none_of X G z_isinstance,
    PySem.W.mg_none_of X G z_len,
    PySem.W.mg_none_of X G z_list,
    PySem.W.mg_none_of X G z_max,
    PySem.W.mg_none_of X G z_min,
    PySem.W.mg_none_of X G z_ord,
    PySem.W.mg_none_of X G z_range,
    PySem.W.mg_none_of X G z_str,
    PySem.W.mg_none_of X G z_tuple⟩
  exact ⟨_, fun s v => .of_eq rfl, fun base _ _ => ok_law T⟩
end K08
open PySem PySem.W PyProof.Rows
set_option maxRecDepth 100000 in
set_option maxHeartbeats 0 in
theorem PySem.Challenge.cw_surenear_k08_rows_tell_the_record_holds : PySem.Challenge.rw_surenear_k08_rows_tell_the_record.Holds := by
  w_on; o_law; k_head; (case hw => w_witness2)
  k_fill
  refine L2.walk_of (l := PySem.Challenge.rw_surenear_k08_rows_tell_the_record) (n := 63) (k := 5) (x := "script") (CX := fun _ => L2.CX0) (sp := fun w => K08.sp_law _) rfl (by decide) rfl ⟨rfl, by decide, by decide⟩ (fun w h Y => PySem.W.kIn_of Y) ?F (fun _ _ a ns hl _ hS => ⟨a, ns, rfl, hS, hl, fun _ => rfl⟩) (fun _ _ _ _ _ h => h)
  case F =>
    intro w mg fa h KX G hmg
    refine' K08.all_mk KX G hmg (a0 := ?a0) (l0 := ?l0) (c0 := ?c0) (k0 := ?k0) (a1 := ?a1) (l1 := ?l1) (c1 := ?c1) (k1 := ?k1) (a2 := ?a2) (l2 := ?l2) (c2 := ?c2) (k2 := ?k2) (a3 := ?a3) (l3 := ?l3) (c3 := ?c3) (k3 := ?k3) (a4 := ?a4) (l4 := ?l4) (c4 := ?c4) (k4 := ?k4) (a5 := ?a5) (l5 := ?l5) (c5 := ?c5) (k5 := ?k5) (a6 := ?a6) (l6 := ?l6) (c6 := ?c6) (k6 := ?k6) (a7 := ?a7) (l7 := ?l7) (c7 := ?c7) (k7 := ?k7) (a8 := ?a8) (l8 := ?l8) (c8 := ?c8) (k8 := ?k8) (a9 := ?a9) (l9 := ?l9) (c9 := ?c9) (k9 := ?k9) (a10 := ?a10) (l10 := ?l10) (c10 := ?c10) (k10 := ?k10) (a11 := ?a11) (l11 := ?l11) (c11 := ?c11) (k11 := ?k11) (a13 := ?a13) (l13 := ?l13) (c13 := ?c13) (k13 := ?k13) (a14 := ?a14) (l14 := ?l14) (c14 := ?c14) (k14 := ?k14) (a15 := ?a15) (l15 := ?l15) (c15 := ?c15) (k15 := ?k15) (a16 := ?a16) (l16 := ?l16) (c16 := ?c16) (k16 := ?k16) (a17 := ?a17) (l17 := ?l17) (c17 := ?c17) (k17 := ?k17) (a18 := ?a18) (l18 := ?l18) (c18 := ?c18) (k18 := ?k18) (aC_Record := ?aC_Record) (pg_Record := ?pg_Record) (hd_Record := ?hd_Record) (po_Record := ?po_Record) (sa_Record := ?sa_Record) (n_Record_name := ?n_Record_name) (n_Record_vector := ?n_Record_vector) (n_Record_fields := ?n_Record_fields) (n_Record_words := ?n_Record_words) (mk_Record := ?mk_Record) (in_Record := ?in_Record) (if_Record := ?if_Record) (kc_Record := ?kc_Record) (l12 := ?l12) (n12_fields := ?n12_fields) (t12_fields := ?t12_fields) (n12_words := ?n12_words) (t12_words := ?t12_words) (c12 := ?c12) (k12 := ?k12) (z_bool := ?z_bool) (z_int := ?z_int) (z_isinstance := ?z_isinstance) (z_len := ?z_len) (z_list := ?z_list) (z_max := ?z_max) (z_min := ?z_min) (z_ord := ?z_ord) (z_range := ?z_range) (z_str := ?z_str) (z_tuple := ?z_tuple)
    (case a0 => k_is); (case l0 => k_is); (case c0 => k_is); (case k0 => k_is); (case a1 => k_is); (case l1 => k_is); (case c1 => k_is); (case k1 => k_is); (case a2 => k_is); (case l2 => k_is); (case c2 => k_is); (case k2 => k_is); (case a3 => k_is); (case l3 => k_is); (case c3 => k_is); (case k3 => k_is); (case a4 => k_is); (case l4 => k_is); (case c4 => k_is); (case k4 => k_is); (case a5 => k_is); (case l5 => k_is); (case c5 => k_is); (case k5 => k_is); (case a6 => k_is); (case l6 => k_is); (case c6 => k_is); (case k6 => k_is); (case a7 => k_is); (case l7 => k_is); (case c7 => k_is); (case k7 => k_is); (case a8 => k_is); (case l8 => k_is); (case c8 => k_is); (case k8 => k_is); (case a9 => k_is); (case l9 => k_is); (case c9 => k_is); (case k9 => k_is); (case a10 => k_is); (case l10 => k_is); (case c10 => k_is); (case k10 => k_is); (case a11 => k_is); (case l11 => k_is); (case c11 => k_is); (case k11 => k_is); (case a13 => k_is); (case l13 => k_is); (case c13 => k_is); (case k13 => k_is); (case a14 => k_is); (case l14 => k_is); (case c14 => k_is); (case k14 => k_is); (case a15 => k_is); (case l15 => k_is); (case c15 => k_is); (case k15 => k_is); (case a16 => k_is); (case l16 => k_is); (case c16 => k_is); (case k16 => k_is); (case a17 => k_is); (case l17 => k_is); (case c17 => k_is); (case k17 => k_is); (case a18 => k_is); (case l18 => k_is); (case c18 => k_is); (case k18 => k_is); (case aC_Record => k_is); (case pg_Record => k_is); (case hd_Record => k_is); (case po_Record => k_is); (case sa_Record => k_is); (case n_Record_name => k_is); (case n_Record_vector => k_is); (case n_Record_fields => k_is); (case n_Record_words => k_is); (case mk_Record => k_is); (case in_Record => k_is); (case if_Record => k_is); (case kc_Record => k_is); (case l12 => k_is); (case n12_fields => k_is); (case t12_fields => k_is); (case n12_words => k_is); (case t12_words => k_is); (case c12 => k_is); (case k12 => k_is); (case z_bool => k_is); (case z_int => k_is); (case z_isinstance => k_is); (case z_len => k_is); (case z_list => k_is); (case z_max => k_is); (case z_min => k_is); (case z_ord => k_is); (case z_range => k_is); (case z_str => k_is); (case z_tuple => k_is)
