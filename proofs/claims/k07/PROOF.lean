import PyProof.Rows.All
import Wide.All
import OpenK.AllK
import Wide.FinOn
import HandS.ForMost
import HandS.Codes
import HandS.Wide
import HandS.IsInst
import HandS.Walk
import HandS.Zip
import HandS.MakeKwOnly
import HandS.ForExc
import HandS.TryMany
import HandS.Strs
import HandS.More
import PySem.Challenge.RW_surenear_k07_measures
set_option Elab.async false
set_option linter.all false
set_option maxRecDepth 100000
namespace K07
open PySem PySem.Spec PyProof.Rows L2
open C8 (tCut pss_cut)
/-! the text by places -/
def topS (i : Nat) : Stmt := PySem.Challenge.pw_surenear_k07_measures.main.body.getD i (.Pass ⟨0, 0, 0, 0⟩)
abbrev s_law_row : Stmt := (topS 26)
abbrev s_law_next : Stmt := (topS 27)
abbrev s_law_fields : Stmt := (topS 28)
abbrev s_law_schema : Stmt := (topS 29)
abbrev s_law_number : Stmt := (topS 30)
abbrev s_inner : Stmt := (topS 6)
abbrev s_distance : Stmt := (topS 7)
abbrev s_differing : Stmt := (topS 8)
abbrev s_is_letter : Stmt := (topS 2)
abbrev s_is_digit : Stmt := (topS 3)
abbrev s_is_word : Stmt := (topS 4)
abbrev s_check_vectors : Stmt := (topS 20)
abbrev s_check_fields : Stmt := (topS 21)
abbrev s_Schema___init__ : Stmt := (inClass (topS 19) 0)
abbrev s_Schema_far : Stmt := (inClass (topS 19) 4)
abbrev s_law : Stmt := (topS 31)
theorem sc_law_row : FnScope ["script", "k", "cell", "a", "b", "c"] ["script", "k"] (defScope s_law_row) := ⟨rfl, rfl, rfl, by decide +kernel, rfl, by decide +kernel, by decide +kernel⟩
theorem sc_law_next : FnScope ["state", "many", "drawn"] ["state", "many"] (defScope s_law_next) := ⟨rfl, rfl, rfl, by decide +kernel, rfl, by decide +kernel, by decide +kernel⟩
theorem sc_law_fields : FnScope ["state", "fields", "k", "name"] ["state"] (defScope s_law_fields) := ⟨rfl, rfl, rfl, by decide +kernel, rfl, by decide +kernel, by decide +kernel⟩
theorem sc_law_schema : FnScope ["state", "width", "measure"] ["state"] (defScope s_law_schema) := ⟨rfl, rfl, rfl, by decide +kernel, rfl, by decide +kernel, by decide +kernel⟩
theorem sc_law_number : FnScope ["state", "width", "low", "high", "spread"] ["state", "width"] (defScope s_law_number) := ⟨rfl, rfl, rfl, by decide +kernel, rfl, by decide +kernel, by decide +kernel⟩
theorem sc_inner : FnScope ["a", "b", "x", "y"] ["a", "b"] (defScope s_inner) := ⟨rfl, rfl, rfl, by decide +kernel, rfl, by decide +kernel, by decide +kernel⟩
theorem sc_distance : FnScope ["a", "b", "x", "y"] ["a", "b"] (defScope s_distance) := ⟨rfl, rfl, rfl, by decide +kernel, rfl, by decide +kernel, by decide +kernel⟩
theorem sc_differing : FnScope ["a", "b", "x", "y"] ["a", "b"] (defScope s_differing) := ⟨rfl, rfl, rfl, by decide +kernel, rfl, by decide +kernel, by decide +kernel⟩
theorem sc_is_letter : FnScope ["char"] ["char"] (defScope s_is_letter) := ⟨rfl, rfl, rfl, by decide +kernel, rfl, by decide +kernel, by decide +kernel⟩
theorem sc_is_digit : FnScope ["char"] ["char"] (defScope s_is_digit) := ⟨rfl, rfl, rfl, by decide +kernel, rfl, by decide +kernel, by decide +kernel⟩
theorem sc_is_word : FnScope ["text", "char"] ["text"] (defScope s_is_word) := ⟨rfl, rfl, rfl, by decide +kernel, rfl, by decide +kernel, by decide +kernel⟩
theorem sc_check_vectors : FnScope ["size", "width", "measure"] ["size", "width", "measure"] (defScope s_check_vectors) := ⟨rfl, rfl, rfl, by decide +kernel, rfl, by decide +kernel, by decide +kernel⟩
theorem sc_check_fields : FnScope ["fields", "name", "kind", "_"] ["fields"] (defScope s_check_fields) := ⟨rfl, rfl, rfl, by decide +kernel, rfl, by decide +kernel, by decide +kernel⟩
theorem sc_Schema___init__ : FnScope ["self", "size", "width", "measure", "fields", "pair"] ["self", "size", "width", "measure", "fields"] (defScope s_Schema___init__) := ⟨rfl, rfl, rfl, by decide +kernel, rfl, by decide +kernel, by decide +kernel⟩
theorem sc_Schema_far : FnScope ["self", "a", "b"] ["self", "a", "b"] (defScope s_Schema_far) := ⟨rfl, rfl, rfl, by decide +kernel, rfl, by decide +kernel, by decide +kernel⟩
theorem sc_law : FnScope ["script", "state", "turn", "drawn", "schema", "a", "k", "b", "due", "actual"] ["script"] (defScope s_law) := ⟨rfl, rfl, rfl, by decide +kernel, rfl, by decide +kernel, by decide +kernel⟩
/-! the mathematics -/

/-- the state of the draws stands at st -/
def StAt (H : Hp) (st sc : Addr) : Prop := ∃ (ns : List Int) (k x : Int), H st = some (.lst [.ref sc, .int k, .int x]) ∧ H sc = some (.lst (ns.map V.int)) ∧ 0 ≤ k ∧ 0 ≤ x ∧ ns.length ≤ 63
/-- all but st is as it was -/
def Oth (st : Addr) (H H' : Hp) : Prop := ∀ b, b ≠ st → H' b = H b
theorem Oth.refl (st : Addr) (H : Hp) : Oth st H H := fun _ _ => rfl
theorem Oth.trans {st : Addr} {H H1 H2 : Hp} (a : Oth st H H1) (b : Oth st H1 H2) : Oth st H H2 := fun c h => (b c h).trans (a c h)
theorem qT {Q : VK} {H : Hp} {c : Prop} [Decidable c] (h : c) (q : Q (.bl true) H) : Q (.bl (decide c)) H := by
  rw [decide_eq_true h]
  exact q
theorem qF {Q : VK} {H : Hp} {c : Prop} [Decidable c] (h : ¬ c) (q : Q (.bl false) H) : Q (.bl (decide c)) H := by
  rw [decide_eq_false h]
  exact q
theorem ixN_nat {n j : Nat} (h : j < n) : ixN n (j : Int) = some j := by
  unfold ixN
  rw [if_pos (by omega), if_pos (by omega)]
  simp
theorem item_map {ns : List Int} {k : Int} (h0 : 0 ≤ k) (h1 : k < ns.length) : ∃ c, atI (ns.map V.int) k = some (.int c) := by
  have hj : k.toNat < ns.length := by omega
  refine ⟨ns[k.toNat], at_of (j := k.toNat) (by omega) ?_⟩
  rw [List.getElem?_map, List.getElem?_eq_getElem hj]
  rfl

/-- what was tracked is so still, but for what stands at st -/
def Fr (st : Addr) (H H' : Hp) : Prop := ∀ b o, H b = some o → b ≠ st → H' b = some o
theorem Fr.refl (st : Addr) (H : Hp) : Fr st H H := fun _ _ h _ => h
theorem Fr.trans {st : Addr} {H H1 H2 : Hp} (a : Fr st H H1) (b : Fr st H1 H2) : Fr st H H2 := fun c o h n => b c o (a c o h n) n
theorem Oth.fr {st : Addr} {H H' : Hp} (h : Oth st H H') : Fr st H H' := fun b _ e n => (h b n).trans e
theorem Fr.new {st : Addr} {H : Hp} {p : Addr} {o : HO} (h : H p = none) : Fr st H (upd H p o) := fun b u e _ => by
  rw [upd_ne (ne_of_none e h)]
  exact e
theorem Fr.set {st : Addr} {H H' : Hp} {p : Addr} {o : HO} (f : Fr st H H') (h : H p = none) : Fr st H (upd H' p o) := fun b u e n => by
  rw [upd_ne (ne_of_none e h)]
  exact f b u e n
theorem Fr.lst {st : Addr} {H H' : Hp} (f : Fr st H H') {b : Addr} {o : HO} (e : H b = some o) (n : b ≠ st) : H' b = some o := f b o e n
/-- a list of integers is not the state -/
theorem st_ne {H : Hp} {st b sc : Addr} (hS : StAt H st sc) {xs : List Int} (h : H b = some (.lst (xs.map V.int))) : b ≠ st := fun e => by
  obtain ⟨ns, k, x, h1, _⟩ := hS
  rw [e, h1] at h
  have z := HO.lst.inj (Option.some.inj h)
  cases xs with
  | nil => cases z
  | cons y r => cases (List.cons.inj z).1
theorem st_new {H : Hp} {st b sc : Addr} (hS : StAt H st sc) (h : H b = none) : b ≠ st := fun e => by
  obtain ⟨ns, k, x, h1, _⟩ := hS
  rw [e, h1] at h
  cases h
/-- the state's own list of the script stands apart from all that is new -/
theorem StAt.new {H : Hp} {st p sc : Addr} {o : HO} (hS : StAt H st sc) (hn : H p = none) : StAt (upd H p o) st sc := by
  obtain ⟨ns, k, x, h1, h2, k0, x0, hl⟩ := hS
  exact ⟨ns, k, x, by rw [upd_ne (ne_of_none h1 hn)]; exact h1, by rw [upd_ne (ne_of_none h2 hn)]; exact h2, k0, x0, hl⟩
theorem StAt.set {H H' : Hp} {st p sc : Addr} {o : HO} (hS' : StAt H' st sc) (hS : StAt H st sc) (hn : H p = none) : StAt (upd H' p o) st sc := by
  obtain ⟨ns, k, x, h1, h2, k0, x0, hl⟩ := hS
  obtain ⟨ns', k', x', h1', h2', k0', x0', hl'⟩ := hS'
  exact ⟨ns', k', x', by rw [upd_ne (ne_of_none h1 hn)]; exact h1', by rw [upd_ne (ne_of_none h2 hn)]; exact h2', k0', x0', hl'⟩
def Bd (n : Int) (xs : List Int) : Prop := ∀ z ∈ xs, -n ≤ z ∧ z ≤ n
theorem Bd.at {n : Int} {xs : List Int} (h : Bd n xs) {i : Nat} {z : Int} (e : xs[i]? = some z) : -n ≤ z ∧ z ≤ n := h z (List.mem_of_getElem? e)
def dist : List Int → List Int → Int
  | x :: xs, y :: ys => (x - y) * (x - y) + dist xs ys
  | _, _ => 0
theorem sq_nn (x : Int) : 0 ≤ x * x := by
  rcases Int.le_total 0 x with h | h
  · exact Int.mul_nonneg h h
  · have := Int.mul_nonneg (Int.neg_nonneg_of_nonpos h) (Int.neg_nonneg_of_nonpos h)
    rwa [Int.neg_mul_neg] at this
theorem dist_nn : ∀ xs ys : List Int, 0 ≤ dist xs ys
  | [], _ => by unfold dist; exact Int.le_refl 0
  | _ :: _, [] => by unfold dist; exact Int.le_refl 0
  | x :: xs, y :: ys => by
    unfold dist
    have := dist_nn xs ys
    have := sq_nn (x - y)
    omega
theorem dist_take : ∀ {xs ys : List Int} {i : Nat} {x y : Int}, xs[i]? = some x → ys[i]? = some y → dist (xs.take (i + 1)) (ys.take (i + 1)) = dist (xs.take i) (ys.take i) + (x - y) * (x - y)
  | [], _, _, _, _, h, _ => by simp at h
  | _ :: _, [], _, _, _, _, h => by simp at h
  | a :: r, b :: t, 0, x, y, h, h2 => by
    have e1 : a = x := Option.some.inj h
    have e2 : b = y := Option.some.inj h2
    subst e1 e2
    simp [dist]
  | a :: r, b :: t, i + 1, x, y, h, h2 => by
    have ih := dist_take (xs := r) (ys := t) (i := i) (x := x) (y := y) h h2
    show (a - b) * (a - b) + dist (r.take (i + 1)) (t.take (i + 1)) = (a - b) * (a - b) + dist (r.take i) (t.take i) + (x - y) * (x - y)
    rw [ih]
    omega
theorem sq_le {x n : Int} (h1 : -n ≤ x) (h2 : x ≤ n) : x * x ≤ n * n := by
  have a : 0 ≤ n - x := by omega
  have b : 0 ≤ n + x := by omega
  have c := Int.mul_nonneg a b
  have e : (n - x) * (n + x) = n * n - x * x := by grind
  omega
theorem dist_le {n : Int} : ∀ {xs ys : List Int}, Bd n xs → Bd n ys → dist xs ys ≤ xs.length * (4 * (n * n))
  | [], _, _, _ => by simp [dist]
  | x :: xs, [], _, _ => by
    unfold dist
    exact Int.mul_nonneg (Int.natCast_nonneg _) (Int.mul_nonneg (by decide) (sq_nn n))
  | x :: xs, y :: ys, hx, hy => by
    have ih := dist_le (n := n) (xs := xs) (ys := ys) (fun z h => hx z (List.mem_cons_of_mem _ h)) (fun z h => hy z (List.mem_cons_of_mem _ h))
    have h1 := hx x (List.mem_cons_self)
    have h2 := hy y (List.mem_cons_self)
    have h3 : (x - y) * (x - y) ≤ (2 * n) * (2 * n) := sq_le (by omega) (by omega)
    have e : (2 * n) * (2 * n) = 4 * (n * n) := by grind
    unfold dist
    rw [List.length_cons]
    have e2 : ((xs.length + 1 : Nat) : Int) * (4 * (n * n)) = xs.length * (4 * (n * n)) + 4 * (n * n) := by grind
    omega
theorem get_map {xs : List Int} {i : Nat} {y : V} (h : (xs.map V.int)[i]? = some y) : ∃ z, y = V.int z ∧ xs[i]? = some z := by
  rw [List.getElem?_map] at h
  cases e : xs[i]? with
  | none =>
    rw [e] at h
    cases h
  | some z =>
    rw [e] at h
    exact ⟨z, (Option.some.inj h).symm, rfl⟩
theorem map_get {xs : List Int} {i : Nat} {z : Int} (h : xs[i]? = some z) : (xs.map V.int)[i]? = some (V.int z) := by
  rw [List.getElem?_map, h]
  rfl
theorem len_le {n : Nat} (h : n ≤ 1000) : n < sizeLine := small1000 h

/-- at p stands a list of n integers, none beyond s -/
def IsPt (H : Hp) (p : Addr) (n s : Int) (zs : List Int) : Prop := H p = some (.lst (zs.map V.int)) ∧ (zs.length : Int) = n ∧ Bd s zs
theorem IsPt.fr {H H' : Hp} {p st sc : Addr} {n s : Int} {zs : List Int} (h : IsPt H p n s zs) (hS : StAt H st sc) (f : Fr st H H') : IsPt H' p n s zs := ⟨f _ _ h.1 (st_ne hS h.1), h.2.1, h.2.2⟩
theorem IsPt.wide {H : Hp} {p : Addr} {n s t : Int} {zs : List Int} (h : IsPt H p n s zs) (e : s ≤ t) : IsPt H p n t zs := ⟨h.1, h.2.1, fun z hz => by have := h.2.2 z hz; omega⟩
theorem IsPt.get {H : Hp} {p : Addr} {n s : Int} {zs : List Int} (h : IsPt H p n s zs) {i : Nat} (hi : (i : Int) < n) : ∃ z, zs[i]? = some z ∧ -s ≤ z ∧ z ≤ s := by
  have hl : i < zs.length := by have := h.2.1; omega
  exact ⟨zs[i], List.getElem?_eq_getElem hl, h.2.2.at (List.getElem?_eq_getElem hl)⟩
theorem dist_small {H : Hp} {p r : Addr} {n : Int} {xs ys : List Int} (h1 : IsPt H p n 30000 xs) (h2 : IsPt H r n 30000 ys) (hn : n ≤ 5) : 0 ≤ dist xs ys ∧ dist xs ys < 100000000000 := by
  refine ⟨dist_nn _ _, ?_⟩
  have a := dist_le h1.2.2 h2.2.2
  have b := h1.2.1
  have e : (30000 : Int) * 30000 = 900000000 := by decide
  rw [e] at a
  have : (xs.length : Int) * (4 * 900000000) ≤ 5 * (4 * 900000000) := by omega
  omega
theorem pick4 {a b c d k : Int} (h0 : 0 ≤ k) (h1 : k < 4) : ∃ v, atI [V.int a, V.int b, V.int c, V.int d] k = some (.int v) ∧ (v = a ∨ v = b ∨ v = c ∨ v = d) := by
  have : k = 0 ∨ k = 1 ∨ k = 2 ∨ k = 3 := by omega
  rcases this with rfl | rfl | rfl | rfl
  · exact ⟨a, at_of (j := 0) rfl rfl, .inl rfl⟩
  · exact ⟨b, at_of (j := 1) rfl rfl, .inr (.inl rfl)⟩
  · exact ⟨c, at_of (j := 2) rfl rfl, .inr (.inr (.inl rfl))⟩
  · exact ⟨d, at_of (j := 3) rfl rfl, .inr (.inr (.inr rfl))⟩
theorem st_made {H : Hp} {sc st : Addr} {ns : List Int} (h1 : H sc = none) (h2 : upd H sc (.lst (ns.map V.int)) st = none) (hl : ns.length ≤ 63) : StAt (upd (upd H sc (.lst (ns.map V.int))) st (.lst [.ref sc, .int 0, .int 0])) st sc := by
  have ne : sc ≠ st := fun e => by
    rw [← e, upd_same] at h2
    cases h2
  exact ⟨ns, 0, 0, upd_same, by rw [upd_ne ne, upd_same], by decide, by decide, hl⟩

theorem same_fr {st : Addr} {H H' : Hp} (h : Same H H') : Fr st H H' := fun b o e _ => h b o e
theorem same_new {H : Hp} {p : Addr} {o : HO} (h : H p = none) : Same H (upd H p o) := fun b u e => by
  rw [upd_ne (ne_of_none e h)]
  exact e
theorem same_set {H H' : Hp} {p : Addr} {o : HO} (f : Same H H') (h : H p = none) : Same H (upd H' p o) := fun b u e => by
  rw [upd_ne (ne_of_none e h)]
  exact f b u e
theorem StAt.same {H H' : Hp} {st sc : Addr} (hS : StAt H st sc) (f : Same H H') : StAt H' st sc := by
  obtain ⟨ns, k, x, h1, h2, k0, x0, hl⟩ := hS
  exact ⟨ns, k, x, f _ _ h1, f _ _ h2, k0, x0, hl⟩
/-- the terms of a sum over two lists -/
def ter (f : Int → Int → Int) (xs ys : List Int) : List Int := List.zipWith f xs ys
theorem ter_get {f : Int → Int → Int} {xs ys : List Int} {i : Nat} {x y : Int} (hx : xs[i]? = some x) (hy : ys[i]? = some y) : (ter f xs ys)[i]? = some (f x y) := by
  unfold ter
  rw [List.getElem?_zipWith, hx, hy]
theorem ter_len {f : Int → Int → Int} {xs ys : List Int} (h : xs.length = ys.length) : (ter f xs ys).length = xs.length := by
  unfold ter
  rw [List.length_zipWith]
  omega
def fMul (x y : Int) : Int := x * y
def fSq (x y : Int) : Int := (x - y) * (x - y)
def fNe (x y : Int) : Int := if x = y then 0 else 1

theorem walk_zipT {K : PySem.W.Frag} {a b : Addr} {xs ys : List V} : Walk (RZ.ItzT K a b) (min xs.length ys.length) (fun H => SqT K H a xs ∧ SqT K H b ys) (YPair (fun j => xs[j]?) (fun j => ys[j]?)) where
  goes := fun j H hj g => ⟨xs, ys, xs[j]'(by omega), ys[j]'(by omega), g.1, g.2, List.getElem?_eq_getElem _, List.getElem?_eq_getElem _⟩
  stops := fun H g => ⟨xs, ys, g.1, g.2, by omega⟩
  yields := fun j H v H' _ g ⟨T, x, y, e1, e2, e3, e4, e5⟩ => ⟨T, x, y, e1, e2, e3, e4 xs g.1, e5 ys g.2⟩

mutual
/-- v is the datum d, all of whose objects stand away from N -/
inductive Dt (N : List Addr) (H : Hp) : V → PyData → Prop
  | non : Dt N H .non .none
  | bl (b : Bool) : Dt N H (.bl b) (.bool b)
  | int (i : Int) : Dt N H (.int i) (.int i)
  | str (x : Str) : Dt N H (.str x) (.str x)
  | lst {a : Addr} {xs : List V} {ds : List PyData} : a ∉ N → H a = some (.lst xs) → Dts N H xs ds → Dt N H (.ref a) (.list ds)
  | tup {a : Addr} {xs : List V} {ds : List PyData} : a ∉ N → H a = some (.tup xs) → Dts N H xs ds → Dt N H (.ref a) (.tuple ds)
inductive Dts (N : List Addr) (H : Hp) : List V → List PyData → Prop
  | nil : Dts N H [] []
  | cons {v : V} {vs : List V} {d : PyData} {ds : List PyData} : Dt N H v d → Dts N H vs ds → Dts N H (v :: vs) (d :: ds)
end
mutual
theorem Dt.mono {N M : List Addr} {H H' : Hp} (f : ∀ a o, a ∉ N → H a = some o → a ∉ M ∧ H' a = some o) : ∀ {v : V} {d : PyData}, Dt N H v d → Dt M H' v d
  | _, _, .non => .non
  | _, _, .bl b => .bl b
  | _, _, .int i => .int i
  | _, _, .str x => .str x
  | _, _, .lst n h t => .lst (f _ _ n h).1 (f _ _ n h).2 (Dts.mono f t)
  | _, _, .tup n h t => .tup (f _ _ n h).1 (f _ _ n h).2 (Dts.mono f t)
theorem Dts.mono {N M : List Addr} {H H' : Hp} (f : ∀ a o, a ∉ N → H a = some o → a ∉ M ∧ H' a = some o) : ∀ {vs : List V} {ds : List PyData}, Dts N H vs ds → Dts M H' vs ds
  | _, _, .nil => .nil
  | _, _, .cons x t => .cons (Dt.mono f x) (Dts.mono f t)
end
mutual
theorem Dt.dp {K : PySem.W.Frag} {N : List Addr} {H : Hp} : ∀ {v : V} {d : PyData}, Dt N H v d → Dp K H v d
  | _, _, .non => .non
  | _, _, .bl b => .bl b
  | _, _, .int i => .int i
  | _, _, .str x => .str x
  | _, _, .lst _ h t => .lst (SqL.of h) (Dts.dp t)
  | _, _, .tup _ h t => .tup (SqT.of h) (Dts.dp t)
theorem Dts.dp {K : PySem.W.Frag} {N : List Addr} {H : Hp} : ∀ {vs : List V} {ds : List PyData}, Dts N H vs ds → DpAll K H vs ds
  | _, _, .nil => .nil
  | _, _, .cons x t => .cons (Dt.dp x) (Dts.dp t)
end
theorem Dt.same {N : List Addr} {H H' : Hp} {v : V} {d : PyData} (f : Same H H') (h : Dt N H v d) : Dt N H' v d := h.mono fun a o n e => ⟨n, f a o e⟩
theorem Dts.same {N : List Addr} {H H' : Hp} {v : List V} {d : List PyData} (f : Same H H') (h : Dts N H v d) : Dts N H' v d := h.mono fun a o n e => ⟨n, f a o e⟩
theorem Dt.fr {N : List Addr} {H H' : Hp} {st : Addr} {v : V} {d : PyData} (f : Fr st H H') (m : st ∈ N) (h : Dt N H v d) : Dt N H' v d := h.mono fun a o n e => ⟨n, f a o e fun z => by rw [z] at n; exact n m⟩
theorem Dts.fr {N : List Addr} {H H' : Hp} {st : Addr} {v : List V} {d : List PyData} (f : Fr st H H') (m : st ∈ N) (h : Dts N H v d) : Dts N H' v d := h.mono fun a o n e => ⟨n, f a o e fun z => by rw [z] at n; exact n m⟩
theorem Dt.upd {N : List Addr} {H : Hp} {p : Addr} {o : HO} {v : V} {d : PyData} (m : p ∈ N) (h : Dt N H v d) : Dt N (upd H p o) v d := h.mono fun a u n e => ⟨n, by rw [upd_ne fun z => by rw [z] at n; exact n m]; exact e⟩
theorem Dts.upd {N : List Addr} {H : Hp} {p : Addr} {o : HO} {v : List V} {d : List PyData} (m : p ∈ N) (h : Dts N H v d) : Dts N (upd H p o) v d := h.mono fun a u n e => ⟨n, by rw [upd_ne fun z => by rw [z] at n; exact n m]; exact e⟩
theorem Dt.new {N : List Addr} {H : Hp} {p : Addr} {o : HO} {v : V} {d : PyData} (m : H p = none) (h : Dt N H v d) : Dt N (L2.upd H p o) v d := h.same (same_new m)
theorem Dts.new {N : List Addr} {H : Hp} {p : Addr} {o : HO} {v : List V} {d : List PyData} (m : H p = none) (h : Dts N H v d) : Dts N (L2.upd H p o) v d := h.same (same_new m)
theorem Dt.away {N : List Addr} {H : Hp} {p : Addr} {v : V} {d : PyData} (m : H p = none) (h : Dt N H v d) : Dt (p :: N) H v d := h.mono fun a o n e => ⟨fun z => by
  rcases List.mem_cons.mp z with y | y
  · rw [y, m] at e; cases e
  · exact n y, e⟩
theorem Dts.away {N : List Addr} {H : Hp} {p : Addr} {v : List V} {d : List PyData} (m : H p = none) (h : Dts N H v d) : Dts (p :: N) H v d := h.mono fun a o n e => ⟨fun z => by
  rcases List.mem_cons.mp z with y | y
  · rw [y, m] at e; cases e
  · exact n y, e⟩
theorem Dt.weak {N : List Addr} {H : Hp} {p : Addr} {v : V} {d : PyData} (h : Dt (p :: N) H v d) : Dt N H v d := h.mono fun a o n e => ⟨fun z => n (List.mem_cons_of_mem _ z), e⟩
theorem Dts.weak {N : List Addr} {H : Hp} {p : Addr} {v : List V} {d : List PyData} (h : Dts (p :: N) H v d) : Dts N H v d := h.mono fun a o n e => ⟨fun z => n (List.mem_cons_of_mem _ z), e⟩
theorem Dts.length {N : List Addr} {H : Hp} : ∀ {vs : List V} {ds : List PyData}, Dts N H vs ds → vs.length = ds.length
  | _, _, .nil => rfl
  | _, _, .cons _ t => congrArg Nat.succ t.length
theorem Dts.get {N : List Addr} {H : Hp} : ∀ {vs : List V} {ds : List PyData} {i : Nat} {v : V}, Dts N H vs ds → vs[i]? = some v → ∃ d, ds[i]? = some d ∧ Dt N H v d
  | _, _, _, _, .nil, h => by simp at h
  | _, _, 0, _, .cons x _, h => by
    have e := Option.some.inj h
    subst e
    exact ⟨_, rfl, x⟩
  | _, _, i + 1, _, .cons _ t, h => t.get (i := i) h
theorem Dts.at {N : List Addr} {H : Hp} : ∀ {vs : List V} {ds : List PyData} {i : Nat} {d : PyData}, Dts N H vs ds → ds[i]? = some d → ∃ v, vs[i]? = some v ∧ Dt N H v d
  | _, _, _, _, .nil, h => by simp at h
  | _, _, 0, _, .cons x _, h => by
    have e := Option.some.inj h
    subst e
    exact ⟨_, rfl, x⟩
  | _, _, i + 1, _, .cons _ t, h => t.at (i := i) h
theorem Dts.app {N : List Addr} {H : Hp} : ∀ {vs ws : List V} {ds es : List PyData}, Dts N H vs ds → Dts N H ws es → Dts N H (vs ++ ws) (ds ++ es)
  | _, _, _, _, .nil, h => h
  | _, _, _, _, .cons x t, h => .cons x (t.app h)
theorem Dts.snoc {N : List Addr} {H : Hp} {vs : List V} {ds : List PyData} {v : V} {d : PyData} (h : Dts N H vs ds) (x : Dt N H v d) : Dts N H (vs ++ [v]) (ds ++ [d]) := h.app (.cons x .nil)
theorem Dts.ints {N : List Addr} {H : Hp} : ∀ xs : List Int, Dts N H (xs.map V.int) (xs.map PyData.int)
  | [] => .nil
  | x :: r => .cons (.int x) (Dts.ints r)
theorem Dt.isL {N : List Addr} {H : Hp} {v : V} {ds : List PyData} (h : Dt N H v (.list ds)) : ∃ p vs, v = .ref p ∧ p ∉ N ∧ H p = some (.lst vs) ∧ Dts N H vs ds := by
  cases h with
  | lst n e t => exact ⟨_, _, rfl, n, e, t⟩
theorem Dt.isT {N : List Addr} {H : Hp} {v : V} {ds : List PyData} (h : Dt N H v (.tuple ds)) : ∃ p vs, v = .ref p ∧ p ∉ N ∧ H p = some (.tup vs) ∧ Dts N H vs ds := by
  cases h with
  | tup n e t => exact ⟨_, _, rfl, n, e, t⟩
theorem Dt.isS {N : List Addr} {H : Hp} {v : V} {x : Str} (h : Dt N H v (.str x)) : v = .str x := by cases h; rfl
theorem Dt.isI {N : List Addr} {H : Hp} {v : V} {x : Int} (h : Dt N H v (.int x)) : v = .int x := by cases h; rfl
theorem Dts.two {N : List Addr} {H : Hp} {vs : List V} {d e : PyData} (h : Dts N H vs [d, e]) : ∃ v w, vs = [v, w] ∧ Dt N H v d ∧ Dt N H w e := by
  cases h with
  | cons x t => cases t with
    | cons y t => cases t; exact ⟨_, _, rfl, x, y⟩
theorem Dts.three {N : List Addr} {H : Hp} {vs : List V} {d e f : PyData} (h : Dts N H vs [d, e, f]) : ∃ v w x, vs = [v, w, x] ∧ Dt N H v d ∧ Dt N H w e ∧ Dt N H x f := by
  cases h with
  | cons x t => cases t with
    | cons y t => cases t with
      | cons z t => cases t; exact ⟨_, _, _, rfl, x, y, z⟩
theorem Dts.isInts {N : List Addr} {H : Hp} : ∀ {xs : List Int} {vs : List V}, Dts N H vs (xs.map PyData.int) → vs = xs.map V.int
  | [], _, .nil => rfl
  | x :: r, _, .cons h t => by
    rw [h.isI, Dts.isInts t]
    rfl
/-- a pair of a text and something -/
theorem Dt.isP {N : List Addr} {H : Hp} {v : V} {x : Str} {d : PyData} (h : Dt N H v (.tuple [.str x, d])) : ∃ p w, v = .ref p ∧ p ∉ N ∧ H p = some (.tup [.str x, w]) ∧ Dt N H w d := by
  obtain ⟨p, vs, e, n, hp, t⟩ := h.isT
  obtain ⟨v', w, e2, h1, h2⟩ := t.two
  rw [h1.isS] at e2
  subst e2
  exact ⟨p, w, e, n, hp, h2⟩
theorem Dt.nilN {N : List Addr} {H : Hp} {v : V} {d : PyData} (h : Dt N H v d) : Dt [] H v d := h.mono fun a o _ e => ⟨(fun z => by cases z), e⟩
theorem Dts.nilN {N : List Addr} {H : Hp} {v : List V} {d : List PyData} (h : Dts N H v d) : Dts [] H v d := h.mono fun a o _ e => ⟨(fun z => by cases z), e⟩
/-- a list under work at D holds these data; its parts stand away from D and N -/
def Bl (N : List Addr) (D : Addr) (H : Hp) (ds : List PyData) : Prop := ∃ vs, H D = some (.lst vs) ∧ Dts (D :: N) H vs ds
theorem Bl.nil {N : List Addr} {D : Addr} {H : Hp} : Bl N D (upd H D (.lst [])) [] := ⟨[], upd_same, .nil⟩
theorem Bl.fr {N : List Addr} {D st : Addr} {H H' : Hp} {ds : List PyData} (h : Bl N D H ds) (n : D ≠ st) (m : st ∈ N) (f : Fr st H H') : Bl N D H' ds := by
  obtain ⟨vs, e, t⟩ := h
  exact ⟨vs, f _ _ e n, t.fr f (List.mem_cons_of_mem _ m)⟩
theorem Bl.same {N : List Addr} {D : Addr} {H H' : Hp} {ds : List PyData} (h : Bl N D H ds) (f : Same H H') : Bl N D H' ds := by
  obtain ⟨vs, e, t⟩ := h
  exact ⟨vs, f _ _ e, t.same f⟩
theorem Bl.push {N : List Addr} {D : Addr} {H : Hp} {ds : List PyData} {vs : List V} {v : V} {d : PyData} (e : H D = some (.lst vs)) (t : Dts (D :: N) H vs ds) (x : Dt (D :: N) H v d) : Bl N D (upd H D (.lst (vs ++ [v]))) (ds ++ [d]) :=
  ⟨_, upd_same, (t.snoc x).upd (List.mem_cons_self ..)⟩
theorem Bl.done {N : List Addr} {D : Addr} {H : Hp} {ds : List PyData} (h : Bl N D H ds) (n : D ∉ N) : Dt N H (.ref D) (.list ds) := by
  obtain ⟨vs, e, t⟩ := h
  exact .lst n e t.weak
theorem not_in1 {a b : Addr} (h : a ≠ b) : a ∉ [b] := fun z => h (List.mem_singleton.mp z)
theorem not_in2 {a b c : Addr} (h : a ≠ b) (g : a ≠ c) : a ∉ [b, c] := fun z => by
  rcases List.mem_cons.mp z with y | y
  · exact h y
  · exact g (List.mem_singleton.mp y)
theorem in1 {a : Addr} : a ∈ [a] := List.mem_cons_self ..
theorem in2 {a b : Addr} : b ∈ [a, b] := List.mem_cons_of_mem _ (List.mem_cons_self ..)
/-- the list at D grows by what was new -/
theorem fr_app {st : Addr} {H0 H : Hp} {D : Addr} {o : HO} (f : Fr st H0 H) (h : H0 D = none) : Fr st H0 (upd H D o) := f.set h

theorem pickS {xs : List Str} {d : Int} (h0 : 0 ≤ d) (h1 : d < xs.length) : ∃ z, atI (xs.map V.str) d = some (.str z) ∧ z ∈ xs := by
  have hj : d.toNat < xs.length := by omega
  refine ⟨xs[d.toNat], at_of (j := d.toNat) (by omega) ?_, List.getElem_mem hj⟩
  rw [List.getElem?_map, List.getElem?_eq_getElem hj]
  rfl
def WIDE3 : List Str := ["bit", "small", "wide"]
def MEAS3 : List Str := ["square", "dot", "bits"]
def KIND3 : List Str := ["integer", "text", "flag"]
def NAME4 : List Str := ["a", "b", "note", "_x"]
def fdD (f : Str × Str) : PyData := .tuple [.str f.1, .str f.2]
structure FieldsOk (fs : List (Str × Str)) : Prop where
  len : fs.length ≤ 3
  names : fs.map (·.1) = NAME4.take fs.length
  kinds : ∀ f ∈ fs, f.2 ∈ KIND3
theorem FieldsOk.snoc {fs : List (Str × Str)} {n k : Str} (h1 : fs.length < 3) (h2 : fs.map (·.1) = NAME4.take fs.length) (h3 : ∀ f ∈ fs, f.2 ∈ KIND3) (hn : NAME4[fs.length]? = some n) (hk : k ∈ KIND3) : FieldsOk (fs ++ [(n, k)]) := by
  refine ⟨by simp; omega, ?_, fun f hf => ?_⟩
  · rw [List.map_append, h2, List.length_append, List.length_singleton, List.take_add_one, hn]
    rfl
  · rcases List.mem_append.mp hf with h | h
    · exact h3 f h
    · rw [List.mem_singleton] at h
      subst h
      exact hk
theorem wide3 {w : Str} (h : w ∈ WIDE3) : ∃ (j : Nat) (lo hi : Int), [V.str "bit", V.str "small", V.str "wide"][j]? = some (.str w) ∧ eqV (.str w) (.str w) = true ∧ (∀ (m : Nat) (z' : V), m < j → [V.str "bit", V.str "small", V.str "wide"][m]? = some z' → eqV z' (.str w) = false)
    ∧ [V.int 0, V.int (-128), V.int (-32768)][j]? = some (.int lo) ∧ [V.int 1, V.int 127, V.int 32767][j]? = some (.int hi) ∧ -32768 ≤ lo ∧ lo ≤ 0 ∧ 1 ≤ hi ∧ hi ≤ 32767 := by
  unfold WIDE3 at h
  simp only [List.mem_cons, List.not_mem_nil, or_false] at h
  rcases h with rfl | rfl | rfl
  · exact ⟨0, _, _, rfl, by decide +kernel, fun m z' hm _ => absurd hm (Nat.not_lt_zero _), rfl, rfl, by decide, by decide, by decide, by decide⟩
  · refine ⟨1, _, _, rfl, by decide +kernel, fun m z' hm e => ?_, rfl, rfl, by decide, by decide, by decide, by decide⟩
    have : m = 0 := by omega
    subst this
    cases Option.some.inj e
    decide +kernel
  · refine ⟨2, _, _, rfl, by decide +kernel, fun m z' hm e => ?_, rfl, rfl, by decide, by decide, by decide, by decide⟩
    have : m = 0 ∨ m = 1 := by omega
    rcases this with rfl | rfl
    · cases Option.some.inj e
      decide +kernel
    · cases Option.some.inj e
      decide +kernel
/-- values of a field -/
def prD (p : Str × PyData) : PyData := .tuple [.str p.1, p.2]
def IsVal (d : PyData) : Prop := (∃ i, d = .int i) ∨ (∃ z, d = .str z ∧ PyData.strOk z = true ∧ z.length ≤ 8) ∨ ∃ b, d = .bool b
structure PairsOk (ps : List (Str × PyData)) : Prop where
  len : ps.length ≤ 8
  names : ∀ p ∈ ps, PyData.strOk p.1 = true ∧ p.1.length ≤ 8
  vals : ∀ p ∈ ps, IsVal p.2
def wdD (w : Str × Int) : PyData := .tuple [.str w.1, .int w.2]
structure WordsOk (ws : List (Str × Int)) : Prop where
  len : ws.length ≤ 8
  words : ∀ w ∈ ws, PyData.strOk w.1 = true ∧ w.1.length ≤ 8

theorem pi_tupB {X : Cx} {K : PySem.W.Frag} (hK : X.K = K) {tg l : Expr} {tl : TE} (hl : PE X l tl) : PI X tg l (iTup K tl) := by
  subst hK
  exact pi_tup hl
theorem pi_listB {X : Cx} {K : PySem.W.Frag} (hK : X.K = K) {tg l : Expr} {tl : TE} (hl : PE X l tl) : PI X tg l (iList K tl) := by
  subst hK
  exact pi_list hl
def rLenB (K : PySem.W.Frag) : List V → Hp → VK → Prop := fun xs H Q => ∃ p ys, xs = [.ref p] ∧ (SqL K H p ys ∨ SqT K H p ys) ∧ Q (.int ys.length) H
def rListB (K : PySem.W.Frag) : List V → Hp → VK → Prop := fun xs H Q => ∃ p ys, xs = [.ref p] ∧ (SqL K H p ys ∨ SqT K H p ys) ∧ ∀ l, H l = none → Q (.ref l) (upd H l (.lst ys))
def rTupleB (K : PySem.W.Frag) : List V → Hp → VK → Prop := fun xs H Q => ∃ p ys, xs = [.ref p] ∧ ((SqL K H p ys ∧ ∀ l, H l = none → Q (.ref l) (upd H l (.tup ys))) ∨ (SqT K H p ys ∧ Q (.ref p) H))

def addS (l : List Str) (v : Str) : List Str := if l.any (· == v) then l else l ++ [v]
def uS (xs : List Str) : List Str := xs.foldl addS []
theorem addS_any (l : List Str) (v k : Str) : (addS l v).any (· == k) = (l.any (· == k) || decide (k = v)) := by
  unfold addS
  by_cases g : l.any (· == v) = true
  · rw [if_pos g]
    by_cases e : k = v
    · subst e
      rw [g]
      rfl
    · rw [decide_eq_false e, Bool.or_false]
  · rw [if_neg g, List.any_append]
    congr 1
    by_cases e : k = v
    · subst e
      simp
    · rw [decide_eq_false e]
      simpa using fun z : v = k => e z.symm
theorem addS_len (l : List Str) (v : Str) : (addS l v).length = if l.any (· == v) then l.length else l.length + 1 := by
  unfold addS
  by_cases g : l.any (· == v) = true
  · rw [if_pos g, if_pos g]
  · rw [if_neg g, if_neg g, List.length_append]
    rfl
theorem uS_succ {xs : List Str} {i : Nat} {v : Str} (h : xs[i]? = some v) : uS (xs.take (i + 1)) = addS (uS (xs.take i)) v := by
  unfold uS
  rw [List.take_add_one, h, List.foldl_append]
  rfl
theorem uS_fold : ∀ (xs acc : List Str), (xs.foldl addS acc).length ≤ acc.length + xs.length ∧ ((xs.foldl addS acc).length = acc.length + xs.length ↔ (∀ x ∈ xs, x ∉ acc) ∧ xs.Nodup)
  | [], acc => ⟨Nat.le_refl _, fun _ => ⟨fun x h => (nomatch h), List.nodup_nil⟩, fun _ => rfl⟩
  | x :: r, acc => by
    have ih := uS_fold r (addS acc x)
    show (r.foldl addS (addS acc x)).length ≤ _ ∧ ((r.foldl addS (addS acc x)).length = _ ↔ _)
    rw [List.length_cons]
    by_cases g : x ∈ acc
    · have e : addS acc x = acc := by
        unfold addS
        have z : (acc.any (· == x)) = true := List.any_eq_true.mpr ⟨x, g, beq_self_eq_true x⟩
        rw [if_pos z]
      rw [e] at ih ⊢
      refine ⟨by omega, fun h => by omega, fun h => absurd g (h.1 x (List.mem_cons_self ..))⟩
    · have e : addS acc x = acc ++ [x] := by
        unfold addS
        rw [if_neg]
        intro h
        obtain ⟨y, h1, h2⟩ := List.any_eq_true.mp h
        rw [eq_of_beq h2] at h1
        exact g h1
      rw [e] at ih ⊢
      rw [List.length_append, List.length_singleton] at ih
      refine ⟨by omega, fun h => ?_, fun h => ?_⟩
      · obtain ⟨a, b⟩ := ih.2.mp (by omega)
        refine ⟨fun y hy => ?_, List.nodup_cons.mpr ⟨fun hx => a x hx (List.mem_append_right _ (List.mem_singleton.mpr rfl)), b⟩⟩
        rcases List.mem_cons.mp hy with z | z
        · rw [z]; exact g
        · exact fun w => a y z (List.mem_append_left _ w)
      · have b := List.nodup_cons.mp h.2
        have := ih.2.mpr ⟨fun y hy w => ?_, b.2⟩
        · omega
        · rcases List.mem_append.mp w with z | z
          · exact h.1 y (List.mem_cons_of_mem _ hy) z
          · rw [List.mem_singleton.mp z] at hy
            exact b.1 hy
theorem uS_le (xs : List Str) : (uS xs).length ≤ xs.length := by
  have := (uS_fold xs []).1
  rw [List.length_nil, Nat.zero_add] at this
  exact this
theorem uS_nodup (xs : List Str) : (uS xs).length = xs.length ↔ xs.Nodup := by
  have := (uS_fold xs []).2
  unfold uS
  simp only [List.length_nil, Nat.zero_add] at this
  rw [this]
  exact ⟨fun h => h.2, fun h => ⟨fun x _ z => (nomatch z), h⟩⟩
section
variable {prog : Program} {w : World} {A : Around} {E : Value → Shared → Prop} {s : Shared}
/-- the set's own loop: the items enter one by one -/
theorem enter_texts {R : Result → Shared → Prop} {it : Addr} {own wr : List Addr} {G : Array GenState → Array GenState → Prop} {m : Nat} {P : Nat → Value → Prop} {St : Nat → Shared → Prop} (W : WalksS prog w A.in1 it own wr G m P St) (Z : Addr) (zo : Z ∉ own)
    (xs : List Str) (lx : xs.length = m) (room : m + 1 < scanBound) (isT : ∀ j v, P j v → ∃ t, v = .str (xs.getD j Str.empty) t) (left j : Nat) (t : Shared) (hj : m - j = left) (jm : j ≤ m) (at_ : St j t)
    (held : t.heap.SetOf (PySem.strKind prog w) Z (fun c => (uS (xs.take j)).any (· == c)) (uS (xs.take j)).length)
    (fin : ∀ u, Moved (Z :: wr) G t u → u.heap.SetOf (PySem.strKind prog w) Z (fun c => (uS (xs.take m)).any (· == c)) (uS (xs.take m)).length → R (.ok (.ret .none)) u) :
    codeAny (model prog w) A (.builtin "set.update.loop" ⟨[.ref Z, .ref it], []⟩) R t := by
  have zw : Z ∉ wr := fun b => zo (W.sub _ b)
  have inw : ∀ b ∈ wr, b ∈ Z :: wr := fun b g => List.mem_cons_of_mem _ g
  induction left generalizing j t with
  | zero =>
    obtain rfl : j = m := by omega
    refine codeAny_builtin (PyProof.Rows.F.entry_set_update_loop) ?_
    rw [Around.under_plainId (PyProof.Rows.F.plain_set_update_loop) _]
    show wpAny _ A.in1 (pyNext (.ref it) >>= _) _ _ t
    refine wpAny_bind (W.done t _ _ at_ fun u mv => ?_)
    show wpAny _ A.in1 (ret Value.none) _ _ u
    refine wpAny_pure (fin u (mv.mono inw) ?_)
    obtain ⟨ob, es, ep, tb, g, more⟩ := held
    exact ⟨ob, es, ep, tb, mv.heap Z _ zw g, more⟩
  | succ left ih =>
    have lt : j < m := by omega
    refine codeAny_builtin (PyProof.Rows.F.entry_set_update_loop) ?_
    rw [Around.under_plainId (PyProof.Rows.F.plain_set_update_loop) _]
    show wpAny _ A.in1 (pyNext (.ref it) >>= _) _ _ t
    refine wpAny_bind (W.item j t _ _ lt at_ fun v u pv at2 mv => ?_)
    obtain ⟨tk, rfl⟩ := isT j v pv
    have held2 : u.heap.SetOf (PySem.strKind prog w) Z (fun c => (uS (xs.take j)).any (· == c)) (uS (xs.take j)).length := by
      obtain ⟨ob, es, ep, tb, g, more⟩ := held
      exact ⟨ob, es, ep, tb, mv.heap Z _ zw g, more⟩
    show wpAny _ A.in1 (holding [Value.str (xs.getD j Str.empty) tk] (setAdd Z (.str (xs.getD j Str.empty) tk)) >>= _) _ _ u
    refine wpAny_bind (wpAny_holding ?_)
    unfold setAdd
    refine wpAny_holding (wpAny_bind ((PySem.strKind prog w).pyHash (k := xs.getD j Str.empty) (strKind_is _ _ _ _) ?_))
    have few : (uS (xs.take j)).length + 1 < scanBound := by
      have a := uS_le (xs.take j)
      have b : (xs.take j).length ≤ m := by rw [List.length_take]; omega
      omega
    refine wpAny_setAddHashed_of (knd := PySem.strKind prog w) (s := { u with toks := u.toks + 1 }) (strKind_is _ _ _ _) rfl held2 few fun h2 but held3 => ?_
    have gx : xs[j]? = some (xs.getD j Str.empty) := by
      rw [List.getD_eq_getElem?_getD, List.getElem?_eq_getElem (by omega)]
      rfl
    have held4 : h2.SetOf (PySem.strKind prog w) Z (fun c => (uS (xs.take (j + 1))).any (· == c)) (uS (xs.take (j + 1))).length := by
      rw [uS_succ gx]
      exact PyProof.Rows.SetOf_congr held3 (fun c => (addS_any _ _ c).symm) (addS_len _ _).symm
    refine wpAny_pure ⟨plainId_quiet (PyProof.Rows.F.plain_set_update_loop) _, ih (j + 1) _ (by omega) lt (W.frame _ u _ _ at2 (Nat.le_succ _) fun b g ob e => ?_) held4 fun u2 mv2 held5 => ?_⟩
    · rw [but.2 b (fun y : b = Z => zo (by rw [← y]; exact g))]
      exact e
    · refine fin u2 (Moved.trans W.gtrans ((mv.mono inw).then_heap (Nat.le_succ _) fun b ob g e => ?_) mv2) held5
      rw [but.2 b (fun y : b = Z => g (by rw [y]; exact List.mem_cons_self))]
      exact e
set_option maxHeartbeats 6400000 in
theorem made_of_texts {l : Addr} {its : Array Value} {xs : List Str} {Q : Value → Shared → Prop} (calm : A.handled = none) (gl : s.heap.IsList l its) (are : PyProof.Rows.StrsAre its.toList xs) (room : xs.length + 1 < scanBound)
    (q : ∀ (h2 : Heap) (tk : Nat), h2.SetOf (PySem.strKind prog w) s.heap.objs.size (fun c => (uS xs).any (· == c)) (uS xs).length → (∀ b ob, b < s.heap.objs.size → s.heap.get? b = some ob → h2.get? b = some ob) → Q (.ref s.heap.objs.size) { s with heap := h2, toks := tk }) :
    wpAny (model prog w) A (call (.type "set") [.ref l]) Q E s := by
  have k1 := PySem.F.called_set.made
  have k2 := PySem.F.called_set.sub
  obtain ⟨cc, tl, k3⟩ := PySem.F.called_set.mro
  refine wpAny_call (codeAny_of_tree ?_)
  show wpAny _ _ (callAny (.type "set") _) _ _ _
  refine wpAny_pure ⟨Code.quiet_builtin _ (by decide +kernel), codeAny_builtin (PySem.F.entry_type_call) ?_⟩
  rw [Around.under_plain (weight_type_call_type "set" [.ref l] []) (rfl)]
  have k4 := PySem.F.called_set.notType
  have k5 := PySem.F.called_set.canCreate
  have k6 := PySem.F.typeCall_set_1 (.ref l)
  repeat (any_goals (first | assumption | (wp_step)))
  refine codeAny_mono (code_set_new_1 (.ref l) (E := E) (Q₁ := fun o u => ∃ b : Bool, o = .ref s.heap.objs.size ∧ u = { s with heap := s.heap.push { cls := .type "set", dict := none, data := .set #[] 0 (.fresh 0 0 b) } }) fun b => ⟨b, rfl, rfl⟩) fun r u ru => ?_
  cases r with
  | error e => exact ru
  | ok f1 =>
    cases f1 with
    | ret o =>
      obtain ⟨b, rfl, rfl⟩ := ru
      have gS : (s.heap.push { cls := .type "set", dict := none, data := .set #[] 0 (.fresh 0 0 b) }).get? s.heap.objs.size = some { cls := .type "set", dict := none, data := .set #[] 0 (.fresh 0 0 b) } := Heap.get?_push_size _ (rfl)
      have tS : Shared.TypeIs { s with heap := s.heap.push { cls := .type "set", dict := none, data := .set #[] 0 (.fresh 0 0 b) } } (.ref s.heap.objs.size) "set" := ⟨_, gS, (rfl)⟩
      have k7 := PySem.F.called_set.init.lookup
      have k8 := PySem.F.called_set.init.bind (.ref s.heap.objs.size)
      repeat (any_goals (first | assumption | (wp_step)))
      refine codeAny_mono (codeAny_call_builtin (R := wants (fun o u => o = .none ∧ ∃ h2 tk, u = { s with heap := h2, toks := tk } ∧ h2.SetOf (PySem.strKind prog w) s.heap.objs.size (fun c => (uS xs).any (· == c)) (uS xs).length ∧
          (∀ a ob, a < s.heap.objs.size → s.heap.get? a = some ob → h2.get? a = some ob)) E) (PySem.F.called_set.init.plain) (PySem.F.entry_set_init) (check_set_init_1 tS ?_)) fun r2 u2 ru2 => ?_
      · obtain ⟨⟨c1, d1, e1, f1⟩, ol, ec, nl, ed⟩ := gl
        simp only at ec ed
        subst ec ed
        have ol2 : (s.heap.push { cls := .type "set", dict := none, data := .set #[] 0 (.fresh 0 0 b) }).get? l = some ⟨.type "list", d1, .seq its nl, f1⟩ := Heap.get?_push_of_some _ (ol)
        have k9 := PySem.F.sub_list_set
        have ka := PySem.F.sub_list_frozenset
        have kb : (Value.type "list" == Value.type "dict") = false := by (decide)
        have il : (s.heap.push { cls := .type "set", dict := none, data := .set #[] 0 (.fresh 0 0 b) }).IsList l its := ⟨_, ol2, rfl, nl, (rfl)⟩
        unfold Builtin.«set.__init__» Builtin.Frozenset.updateFrom noKeywords
        generalize ePI : pyIter = PI
        wp_walk
        subst ePI
        refine wpAny_pyIter_list il (wpAny_bind (wpAny_runValue ?_))
        have ll : l < s.heap.objs.size := Heap.lt_size ol
        have calm3 : A.in1.in1.in1.handled = none := by (simp [calm])
        have ne1 : l ≠ (s.heap.push { cls := .type "set", dict := none, data := .set #[] 0 (.fresh 0 0 b) }).objs.size := by
          rw [Heap.size_push]
          exact Nat.ne_of_lt (Nat.lt_succ_of_lt ll)
        have nin : s.heap.objs.size ∉ [(s.heap.push { cls := .type "set", dict := none, data := .set #[] 0 (.fresh 0 0 b) }).objs.size, l] := by
          rw [Heap.size_push]
          intro z
          rcases List.mem_cons.mp z with y | y
          · exact absurd y (Nat.ne_of_lt (Nat.lt_succ_self _))
          · exact absurd (List.mem_singleton.mp y) (Nat.ne_of_gt ll)
        have lx : xs.length = its.size := by rw [← StrsAre.len_eq are, Array.length_toList]
        have isT : ∀ (j : Nat) (v : Value), its[j]? = some v → ∃ t, v = .str (xs.getD j Str.empty) t := fun j v gv => SS.strs_at are j v (by rw [Array.getElem?_toList]; exact (gv))
        refine enter_texts ((Walks.list calm3 _ l ne1 its).toS) s.heap.objs.size nin xs lx (by rw [← lx]; exact room) isT (its.size - 0) 0 _ (by omega) (Nat.zero_le _) ⟨⟨_, Heap.get?_push_size _ rfl, rfl, rfl⟩, (il.push _)⟩ ?start ?stop
        case start =>
          have g0 : ((s.heap.push { cls := .type "set", dict := none, data := .set #[] 0 (.fresh 0 0 b) }).push { cls := .type "list_iterator", data := .fields #[.ref l, .int 0 0] }).get? s.heap.objs.size = some { cls := .type "set", dict := none, data := .set #[] 0 (.fresh 0 0 b) } := Heap.get?_push_of_some _ (gS)
          exact PyProof.Rows.SetOf_congr ((PyProof.Rows.setObjOf_fresh (knd := PySem.strKind prog w) b).setOf g0 (by unfold scanBound; omega)) (fun _ => by rw [List.take_zero]; rfl) (by rw [List.take_zero]; rfl)
        case stop =>
          intro u mv held
          obtain ⟨h2, g2, d2, t2, o2⟩ := u
          obtain rfl : g2 = s.gens := mv.gens
          obtain rfl : d2 = s.drawn := mv.drawn
          obtain rfl : o2 = s.os := mv.os
          rw [← lx, List.take_length] at held
          show wpAny _ _ _ _ _ _
          refine wpAny_pure ?_
          show wpAny _ _ (ret Value.none) _ _ _
          refine wpAny_pure ⟨rfl, h2, t2, rfl, held, fun a ob la e => ?_⟩
          refine mv.heap a ob (fun z => ?_) (Heap.get?_push_of_some _ (Heap.get?_push_of_some _ (e)))
          rw [Heap.size_push] at z
          rcases List.mem_cons.mp z with y | y
          · exact absurd y (Nat.ne_of_lt la)
          · exact absurd (List.mem_singleton.mp y) (Nat.ne_of_lt (Nat.lt_succ_of_lt la))
      · cases r2 with
        | error e => exact ru2
        | ok f2 =>
          cases f2 with
          | ret o =>
            obtain ⟨rfl, h2, t2, rfl, held, more⟩ := ru2
            repeat (any_goals (first | assumption | (wp_step)))
            exact q _ _ held (more)
          | _ => exact (ru2.elim)
    | _ => exact (ru.elim)
end
/-- len(set(xs)), xs a list of texts -/
def tLenSetT (K : PySem.W.Frag) (ta : TE) : TE := fun σ H Q => ta σ H fun x H1 => ∃ l, ∃ xs : List Str, x = .ref l ∧ SqL K H1 l (xs.map V.str) ∧ xs.length ≤ 1000 ∧ Q (.int (uS xs).length) H1
theorem pe_lenSetT {X : Cx} {a : Expr} {ta : TE} {p p2 q pos : Pos} (hc : X.calm = true) (hg : Gl X "len") (hm : X.mg "len" = none) (hg2 : Gl X "set") (hm2 : X.mg "set" = none) (ha : PE X a ta)
    (na : starEach [a] X.env = (false, eval a X.env) :: starEach [] X.env := by rfl) : PE X (.Call (.Name "len" p) [.Call (.Name "set" p2) [a] [] q] [] pos) (tLenSetT X.K ta) := by
  refine ⟨fun pins s σ H Q I g => Call_ (ld_blt I hg hm boot_len (PyProof.Rows.callWith_builtin1 (PyProof.Rows.args_cons ?_ rfl) rfl rfl))⟩
  refine Call_ (ld_blt I hg2 hm2 boot_set (PyProof.Rows.callWith_type1 (PyProof.Rows.args_cons (thn (ha.run pins s σ H _ I g) fun v s1 ⟨x, H1, I1, r1, q1⟩ => PyProof.Rows.args_nil ?_) na) na rfl))
  obtain ⟨l, xs, rfl, gl, few, q1⟩ := q1
  cases r1
  obtain ⟨its, r, pl, _⟩ := I1.list gl
  refine made_of_texts (I1.ok.hd hc) pl.isList (by simpa using L2.strsAre_of r) (by unfold scanBound; omega) fun h2 tk held more => PyProof.Rows.args_nil ?_
  obtain ⟨ob, es, ep, tb, g1, g2, g3, _, _, _, g4, g5⟩ := held
  have I2 : Inv X pins σ H1 { s1 with heap := h2, toks := tk } := I1.kept fun b o e => more b o (Heap.lt_size e) e
  have small := uS_le xs
  exact call_len_set g1 g2 g3 g4 (by rw [g5]; omega) ⟨.int (uS xs).length, H1, I2.tok _, ⟨_, by rw [g5]⟩, q1⟩

def isLet (c : Nat) : Bool := (!decide (c < 97) && !decide (122 < c)) || (!decide (c < 65) && !decide (90 < c)) || decide (c = 95)
def isDig (c : Nat) : Bool := !decide (c < 48) && !decide (57 < c)
def wordL : List Nat → Bool
  | [] => false
  | c :: r => isLet c && (c :: r).all fun x => isLet x || isDig x
def isWordS (z : Str) : Bool := wordL z.cps.toList
def RESV : List Str := ["every", "has", "in", "and", "or", "not", "true", "false"]
def fGood (f : Str × Str) : Prop := isWordS f.1 = true ∧ f.1 ∉ RESV ∧ f.2 ∈ KIND3
def fieldsGood (fs : List (Str × Str)) : Prop := (∀ f ∈ fs, fGood f) ∧ (fs.map (·.1)).Nodup
def vecGood (n : Int) (w m : Str) : Prop := 1 ≤ n ∧ w ∈ WIDE3 ∧ m ∈ MEAS3 ∧ ¬ (m = "bits" ∧ w ≠ "bit")
theorem inV_strs (z : Str) : ∀ xs : List Str, inV (.str z) (xs.map V.str) = decide (z ∈ xs)
  | [] => by simp [inV]
  | x :: r => by
    have ih := inV_strs z r
    unfold inV at ih ⊢
    rw [List.map_cons, List.any_cons, ih]
    by_cases e : z = x
    · subst e
      simp [eqV]
    · have : (x == z) = false := by simpa using fun h : x = z => e h.symm
      simp [eqV, this, e]
theorem flat_strsV (ys : List Str) : (ys.map V.str).all flatV = true := by
  rw [List.all_map]
  exact List.all_eq_true.mpr fun _ _ => rfl
theorem lt1 (a b : Nat) : decide (([a] : List Nat) < [b]) = decide (a < b) := by
  apply decide_eq_decide.mpr
  constructor
  · intro h
    rcases List.cons_lt_cons_iff.mp h with g | ⟨_, g⟩
    · exact g
    · exact absurd g (List.lt_irrefl _)
  · exact fun h => List.cons_lt_cons_iff.mpr (.inl h)
theorem le_lo (c a : Nat) {z : Str} (hz : z.cps.toList = [a]) : (!decide ((⟨#[c]⟩ : Str).cps.toList < z.cps.toList)) = !decide (c < a) := by
  rw [hz]
  exact congrArg not (lt1 c a)
theorem le_hi (c a : Nat) {z : Str} (hz : z.cps.toList = [a]) : (!decide (z.cps.toList < (⟨#[c]⟩ : Str).cps.toList)) = !decide (a < c) := by
  rw [hz]
  exact congrArg not (lt1 a c)
theorem one_cps (c : Nat) : (⟨#[c]⟩ : Str).cps.toList = [c] := rfl
theorem one_eq (c d : Nat) : decide (V.str (⟨#[c]⟩ : Str) = V.str (⟨#[d]⟩ : Str)) = decide (c = d) := by
  apply decide_eq_decide.mpr
  constructor
  · intro h
    have := V.str.inj h
    simpa using this
  · intro h
    rw [h]
theorem names_nodup {fs : List (Str × Str)} (ok : FieldsOk fs) : fieldsGood fs := by
  refine ⟨fun f hf => ⟨?_, ?_, ok.kinds f hf⟩, ?_⟩
  · have h : f.1 ∈ NAME4 := by
      have h1 : f.1 ∈ fs.map (·.1) := List.mem_map_of_mem hf
      rw [ok.names] at h1
      exact List.mem_of_mem_take h1
    generalize f.1 = z at h
    clear hf
    revert h z
    decide +kernel
  · have h : f.1 ∈ NAME4 := by
      have h1 : f.1 ∈ fs.map (·.1) := List.mem_map_of_mem hf
      rw [ok.names] at h1
      exact List.mem_of_mem_take h1
    generalize f.1 = z at h
    clear hf
    revert h z
    decide +kernel
  · rw [ok.names]
    have : NAME4.Nodup := by decide +kernel
    exact this.sublist (List.take_sublist _ _)
theorem ps_dead {X : Cx} {s : Stmt} : PS X s (fun _ _ _ => False) := ⟨fun _ _ _ _ _ _ h => h.elim⟩

theorem st_lst {H : Hp} {st sc : Addr} (hS : StAt H st sc) : ∃ xs, H st = some (.lst xs) := by
  obtain ⟨ns, k, x, h, _⟩ := hS
  exact ⟨_, h⟩
def fNeg (x y : Int) : Int := -(x * y)
def farF (m : Str) : Int → Int → Int := if m = "square" then fSq else if m = "dot" then fNeg else fNe
theorem neg_sum : ∀ xs ys : List Int, -(ter fMul xs ys).sum = (ter fNeg xs ys).sum
  | [], _ => by simp [ter]
  | _ :: _, [] => by simp [ter]
  | x :: r, y :: t => by
    have ih := neg_sum r t
    unfold ter at ih ⊢
    simp only [List.zipWith_cons_cons, List.sum_cons]
    unfold fMul fNeg at *
    omega
def c1 (m : Str) (x y : Int) : Int := if m = "square" then fSq x y else 0
def c2 (m : Str) (x y : Int) : Int := if m = "dot" then fNeg x y else 0
def c3 (m : Str) (x y : Int) : Int := if m = "bits" ∧ ¬ x = y then 1 else 0
theorem c123 {m : Str} (h : m ∈ MEAS3) (x y : Int) : c1 m x y + c2 m x y + c3 m x y = farF m x y := by
  unfold MEAS3 at h
  simp only [List.mem_cons, List.not_mem_nil, or_false] at h
  have e1 : ¬ ("square" : Str) = "dot" := by decide +kernel
  have e2 : ¬ ("square" : Str) = "bits" := by decide +kernel
  have e3 : ¬ ("dot" : Str) = "square" := by decide +kernel
  have e4 : ¬ ("dot" : Str) = "bits" := by decide +kernel
  have e5 : ¬ ("bits" : Str) = "square" := by decide +kernel
  have e6 : ¬ ("bits" : Str) = "dot" := by decide +kernel
  rcases h with rfl | rfl | rfl
  · simp [c1, c2, c3, farF, e1, e2]
  · simp [c1, c2, c3, farF, e3, e4]
  · by_cases e : x = y
    · simp [c1, c2, c3, farF, fNe, e5, e6, e]
    · simp [c1, c2, c3, farF, fNe, e5, e6, e]

def ff_Schema (v0 v1 v2 v3 : V) : List (Str × V) := putF "fields" v3 (putF "measure" v2 (putF "width" v1 (putF "size" v0 [])))
theorem lk_Schema_size {v0 v1 v2 v3 : V} : (ff_Schema v0 v1 v2 v3).lookup ("size" : Str) = some v0 := by
  unfold ff_Schema
  rw [lookup_putF, if_neg (by decide +kernel), lookup_putF, if_neg (by decide +kernel), lookup_putF, if_neg (by decide +kernel), lookup_putF, if_pos rfl]
theorem lk_Schema_width {v0 v1 v2 v3 : V} : (ff_Schema v0 v1 v2 v3).lookup ("width" : Str) = some v1 := by
  unfold ff_Schema
  rw [lookup_putF, if_neg (by decide +kernel), lookup_putF, if_neg (by decide +kernel), lookup_putF, if_pos rfl]
theorem lk_Schema_measure {v0 v1 v2 v3 : V} : (ff_Schema v0 v1 v2 v3).lookup ("measure" : Str) = some v2 := by
  unfold ff_Schema
  rw [lookup_putF, if_neg (by decide +kernel), lookup_putF, if_pos rfl]
theorem lk_Schema_fields {v0 v1 v2 v3 : V} : (ff_Schema v0 v1 v2 v3).lookup ("fields" : Str) = some v3 := by
  unfold ff_Schema
  rw [lookup_putF, if_pos rfl]
theorem no_Schema {v0 v1 v2 v3 : V} {m : Str} (h0 : ¬ m = "size" := by decide +kernel) (h1 : ¬ m = "width" := by decide +kernel) (h2 : ¬ m = "measure" := by decide +kernel) (h3 : ¬ m = "fields" := by decide +kernel) : (ff_Schema v0 v1 v2 v3).lookup m = none := by
  unfold ff_Schema
  rw [lookup_putF, if_neg h3, lookup_putF, if_neg h2, lookup_putF, if_neg h1, lookup_putF, if_neg h0]
  rfl
theorem putF_le {f : Str} {v : V} {fs : List (Str × V)} {n : Nat} (h : fs.length ≤ n) : (putF f v fs).length ≤ n + 1 := by
  induction fs generalizing n with
  | nil => show 1 ≤ n + 1; omega
  | cons x r ih =>
    obtain ⟨g, y⟩ := x
    show (if g = f then (g, v) :: r else (g, y) :: putF f v r).length ≤ n + 1
    rw [List.length_cons] at h
    by_cases e : g = f
    · rw [if_pos e, List.length_cons]; omega
    · rw [if_neg e, List.length_cons]
      have := ih (n := r.length) (Nat.le_refl _)
      omega
/-! what the top has made -/
structure Txt (w : World) (K : PySem.W.Frag) (mg : Str → Option Value) where
  f_law_row : Addr
  d_law_row : FuncData
  F_law_row : Fun K "_law_row" "_law_row" s_law_row f_law_row d_law_row
  b_law_row : Binds K d_law_row ["script", "k"] []
  g_law_row : mg "_law_row" = some (.ref f_law_row)
  f_law_next : Addr
  d_law_next : FuncData
  F_law_next : Fun K "_law_next" "_law_next" s_law_next f_law_next d_law_next
  b_law_next : Binds K d_law_next ["state", "many"] []
  g_law_next : mg "_law_next" = some (.ref f_law_next)
  f_law_fields : Addr
  d_law_fields : FuncData
  F_law_fields : Fun K "_law_fields" "_law_fields" s_law_fields f_law_fields d_law_fields
  b_law_fields : Binds K d_law_fields ["state"] []
  g_law_fields : mg "_law_fields" = some (.ref f_law_fields)
  f_law_schema : Addr
  d_law_schema : FuncData
  F_law_schema : Fun K "_law_schema" "_law_schema" s_law_schema f_law_schema d_law_schema
  b_law_schema : Binds K d_law_schema ["state"] []
  g_law_schema : mg "_law_schema" = some (.ref f_law_schema)
  f_law_number : Addr
  d_law_number : FuncData
  F_law_number : Fun K "_law_number" "_law_number" s_law_number f_law_number d_law_number
  b_law_number : Binds K d_law_number ["state", "width"] []
  g_law_number : mg "_law_number" = some (.ref f_law_number)
  f_inner : Addr
  d_inner : FuncData
  F_inner : Fun K "inner" "inner" s_inner f_inner d_inner
  b_inner : Binds K d_inner ["a", "b"] []
  g_inner : mg "inner" = some (.ref f_inner)
  f_distance : Addr
  d_distance : FuncData
  F_distance : Fun K "distance" "distance" s_distance f_distance d_distance
  b_distance : Binds K d_distance ["a", "b"] []
  g_distance : mg "distance" = some (.ref f_distance)
  f_differing : Addr
  d_differing : FuncData
  F_differing : Fun K "differing" "differing" s_differing f_differing d_differing
  b_differing : Binds K d_differing ["a", "b"] []
  g_differing : mg "differing" = some (.ref f_differing)
  f_is_letter : Addr
  d_is_letter : FuncData
  F_is_letter : Fun K "is_letter" "is_letter" s_is_letter f_is_letter d_is_letter
  b_is_letter : Binds K d_is_letter ["char"] []
  g_is_letter : mg "is_letter" = some (.ref f_is_letter)
  f_is_digit : Addr
  d_is_digit : FuncData
  F_is_digit : Fun K "is_digit" "is_digit" s_is_digit f_is_digit d_is_digit
  b_is_digit : Binds K d_is_digit ["char"] []
  g_is_digit : mg "is_digit" = some (.ref f_is_digit)
  f_is_word : Addr
  d_is_word : FuncData
  F_is_word : Fun K "is_word" "is_word" s_is_word f_is_word d_is_word
  b_is_word : Binds K d_is_word ["text"] []
  g_is_word : mg "is_word" = some (.ref f_is_word)
  f_check_vectors : Addr
  d_check_vectors : FuncData
  F_check_vectors : Fun K "check_vectors" "check_vectors" s_check_vectors f_check_vectors d_check_vectors
  b_check_vectors : Binds K d_check_vectors ["size", "width", "measure"] []
  g_check_vectors : mg "check_vectors" = some (.ref f_check_vectors)
  f_check_fields : Addr
  d_check_fields : FuncData
  F_check_fields : Fun K "check_fields" "check_fields" s_check_fields f_check_fields d_check_fields
  b_check_fields : Binds K d_check_fields ["fields"] []
  g_check_fields : mg "check_fields" = some (.ref f_check_fields)
  f_Schema___init__ : Addr
  d_Schema___init__ : FuncData
  e_Schema___init___fields : Addr
  et_Schema___init___fields : ∀ H, SqT K H e_Schema___init___fields []
  F_Schema___init__ : FunD K "__init__" "Schema.__init__" (defArgs s_Schema___init__) (defBody s_Schema___init__) (defScope s_Schema___init__) [] [("width", .str "small"), ("measure", .str "square"), ("fields", .ref e_Schema___init___fields)] f_Schema___init__ d_Schema___init__
  kb_Schema___init__ : KBn K d_Schema___init__ ["self", "size", "width", "measure", "fields"] 2 ["width", "measure", "fields"] (fun us ws => us ++ ws) (fun vs zs => vs ++ zs)
  ds_Schema___init__ : List Value
  v_Schema___init__ : Vals [.str "small", .str "square", .ref e_Schema___init___fields] ds_Schema___init__
  b_Schema___init__ : Binds K d_Schema___init__ ["self", "size", "width", "measure", "fields"] ds_Schema___init__
  f_Schema_far : Addr
  d_Schema_far : FuncData
  F_Schema_far : Fun K "far" "Schema.far" s_Schema_far f_Schema_far d_Schema_far
  b_Schema_far : Binds K d_Schema_far ["self", "a", "b"] []
  f_law : Addr
  d_law : FuncData
  F_law : Fun K "law" "law" s_law f_law d_law
  b_law : Binds K d_law ["script"] []
  g_law : mg "law" = some (.ref f_law)
  c_InvalidSchema : Addr
  mc_InvalidSchema : mg "InvalidSchema" = some (.ref c_InvalidSchema)
  kp_InvalidSchema : PySem.W.keepIn K (.ref c_InvalidSchema) = true
  x_InvalidSchema : PySem.W.excIn K c_InvalidSchema [.type "ValueError", .type "Exception", .type "BaseException", .type "object"] "ValueError.__new__" = true
  xb_InvalidSchema : PySem.W.subIn K (.ref c_InvalidSchema) (.type "BaseException") = some true
  xt_InvalidSchema : PySem.W.typeIn K (.ref c_InvalidSchema) = some (.type "type")
  c_Schema : Addr
  cl_Schema : Cls K c_Schema
  mc_Schema : mg "Schema" = some (.ref c_Schema)
  n_Schema_size : NoAttr K c_Schema "size"
  n_Schema_width : NoAttr K c_Schema "width"
  n_Schema_measure : NoAttr K c_Schema "measure"
  n_Schema_fields : NoAttr K c_Schema "fields"
  mk_Schema : Mk K c_Schema f_Schema___init__
  me_Schema_far : Meth K c_Schema "far" f_Schema_far
  a_KINDS : Addr
  m_KINDS : mg "KINDS" = some (.ref a_KINDS)
  sq_KINDS : ∀ H, SqT K H a_KINDS [.str "integer", .str "text", .str "flag"]
  a_MEASURES : Addr
  m_MEASURES : mg "MEASURES" = some (.ref a_MEASURES)
  sq_MEASURES : ∀ H, SqT K H a_MEASURES [.str "square", .str "dot", .str "bits"]
  a_RESERVED : Addr
  m_RESERVED : mg "RESERVED" = some (.ref a_RESERVED)
  sq_RESERVED : ∀ H, SqT K H a_RESERVED [.str "every", .str "has", .str "in", .str "and", .str "or", .str "not", .str "true", .str "false"]
  a_WIDTHS : Addr
  m_WIDTHS : mg "WIDTHS" = some (.ref a_WIDTHS)
  es_WIDTHS : Array DictEntry
  en_WIDTHS : Nat
  kd_WIDTHS : KDict K w a_WIDTHS es_WIDTHS en_WIDTHS
  av_WIDTHS_bit : Addr
  ns_WIDTHS_bit : PySem.W.nsIn K a_WIDTHS "bit" = some (some (.ref av_WIDTHS_bit))
  sv_WIDTHS_bit : ∀ H, SqT K H av_WIDTHS_bit [.int (0), .int (1)]
  av_WIDTHS_small : Addr
  ns_WIDTHS_small : PySem.W.nsIn K a_WIDTHS "small" = some (some (.ref av_WIDTHS_small))
  sv_WIDTHS_small : ∀ H, SqT K H av_WIDTHS_small [.int (-128), .int (127)]
  av_WIDTHS_wide : Addr
  ns_WIDTHS_wide : PySem.W.nsIn K a_WIDTHS "wide" = some (some (.ref av_WIDTHS_wide))
  sv_WIDTHS_wide : ∀ H, SqT K H av_WIDTHS_wide [.int (-32768), .int (32767)]
  ns_WIDTHS_huge : PySem.W.nsIn K a_WIDTHS "huge" = some none
  m_all : mg "all" = none
  m_bool : mg "bool" = none
  m_int : mg "int" = none
  m_isinstance : mg "isinstance" = none
  m_len : mg "len" = none
  m_list : mg "list" = none
  m_max : mg "max" = none
  m_min : mg "min" = none
  m_range : mg "range" = none
  m_set : mg "set" = none
  m_sum : mg "sum" = none
  m_tuple : mg "tuple" = none
  m_zip : mg "zip" = none
section
variable {P : Program} {w : World} {K : PySem.W.Frag} {mg : Str → Option Value} {base : Heap}

/-- all but instances is as it was -/
def Keep (H H' : Hp) : Prop := ∀ b o, H b = some o → (∀ C dx fs, o ≠ .ins C dx fs) → H' b = some o
theorem Keep.trans {H H1 H2 : Hp} (f : Keep H H1) (g : Keep H1 H2) : Keep H H2 := fun b o e n => g b o (f b o e n) n
theorem Keep.same {H H' : Hp} (f : Same H H') : Keep H H' := fun b o e _ => f b o e
theorem Keep.ins {H : Hp} {p C dx : Addr} {fs : List (Str × V)} {o : HO} (h : H p = some (.ins C dx fs)) : Keep H (upd H p o) := fun b u e n => by
  rw [upd_ne]
  · exact e
  · intro z
    rw [z, h] at e
    cases e
    exact n _ _ _ rfl
theorem Keep.seq {K : PySem.W.Frag} {H H' : Hp} {q : Addr} {xs : List V} (f : Keep H H') (h : SqL K H q xs) : SqL K H' q xs := by
  rcases h with (h | ⟨o, h⟩) | h
  · exact .inl (.inl (f _ _ h fun _ _ _ z => by cases z))
  · exact .inl (.inr ⟨o, f _ _ h fun _ _ _ z => by cases z⟩)
  · exact .inr h
theorem Keep.seqT {K : PySem.W.Frag} {H H' : Hp} {q : Addr} {xs : List V} (f : Keep H H') (h : SqT K H q xs) : SqT K H' q xs := by
  rcases h with (h | ⟨o, h⟩) | h
  · exact .inl (.inl (f _ _ h fun _ _ _ z => by cases z))
  · exact .inl (.inr ⟨o, f _ _ h fun _ _ _ z => by cases z⟩)
  · exact .inr h
theorem _root_.L2.Same.seqT {K : PySem.W.Frag} {H H' : Hp} {q : Addr} {xs : List V} (f : Same H H') (h : SqT K H q xs) : SqT K H' q xs := (Keep.same f).seqT h
mutual
theorem Dt.keep {N : List Addr} {H H' : Hp} (f : Keep H H') : ∀ {v : V} {d : PyData}, Dt N H v d → Dt N H' v d
  | _, _, .non => .non
  | _, _, .bl b => .bl b
  | _, _, .int i => .int i
  | _, _, .str x => .str x
  | _, _, .lst n h t => .lst n (f _ _ h fun _ _ _ z => by cases z) (Dts.keep f t)
  | _, _, .tup n h t => .tup n (f _ _ h fun _ _ _ z => by cases z) (Dts.keep f t)
theorem Dts.keep {N : List Addr} {H H' : Hp} (f : Keep H H') : ∀ {vs : List V} {ds : List PyData}, Dts N H vs ds → Dts N H' vs ds
  | _, _, .nil => .nil
  | _, _, .cons x t => .cons (Dt.keep f x) (Dts.keep f t)
end
theorem Dts.refT {α : Type} {N : List Addr} {H : Hp} {f : α → PyData} (hf : ∀ a, ∃ es, f a = .tuple es) {l : List α} {vs : List V} {i : Nat} {v : V} (t : Dts N H vs (l.map f)) (h : vs[i]? = some v) : ∃ p ws, v = .ref p ∧ H p = some (.tup ws) := by
  obtain ⟨d, e, x⟩ := t.get h
  rw [List.getElem?_map] at e
  cases el : l[i]? with
  | none =>
    rw [el] at e
    cases e
  | some a =>
    rw [el] at e
    have e2 := Option.some.inj e
    obtain ⟨es, g⟩ := hf a
    rw [← e2, g] at x
    obtain ⟨p, ws, e3, _, e4, _⟩ := x.isT
    exact ⟨p, ws, e3, e4⟩

/-- a schema stands at r -/
def SchAt (N : List Addr) (C : Addr) (H : Hp) (r : Addr) (n : Int) (w m : Str) (fs : List (Str × Str)) : Prop := r ∉ N ∧ ∃ dx tf, H r = some (.ins C dx (ff_Schema (.int n) (.str w) (.str m) (.ref tf))) ∧ Dt N H (.ref tf) (.tuple (fs.map fdD))
theorem SchAt.mono {N M : List Addr} {C : Addr} {H H' : Hp} {r : Addr} {n : Int} {w m : Str} {fs : List (Str × Str)} (R : SchAt N C H r n w m fs) (f : ∀ a o, a ∉ N → H a = some o → a ∉ M ∧ H' a = some o) : SchAt M C H' r n w m fs := by
  obtain ⟨k, dx, tf, h1, h2⟩ := R
  exact ⟨(f _ _ k h1).1, dx, tf, (f _ _ k h1).2, h2.mono f⟩
theorem SchAt.same {N : List Addr} {C : Addr} {H H' : Hp} {r : Addr} {n : Int} {w m : Str} {fs : List (Str × Str)} (R : SchAt N C H r n w m fs) (f : Same H H') : SchAt N C H' r n w m fs := R.mono fun a o n e => ⟨n, f a o e⟩
theorem SchAt.fr {N : List Addr} {C : Addr} {H H' : Hp} {st r : Addr} {n : Int} {w m : Str} {fs : List (Str × Str)} (R : SchAt N C H r n w m fs) (f : Fr st H H') (i : st ∈ N) : SchAt N C H' r n w m fs := R.mono fun a o n e => ⟨n, f a o e fun z => by rw [z] at n; exact n i⟩
theorem SchAt.away {N : List Addr} {C : Addr} {H : Hp} {k r : Addr} {n : Int} {w m : Str} {fs : List (Str × Str)} (R : SchAt N C H r n w m fs) (h : H k = none) : SchAt (k :: N) C H r n w m fs := R.mono fun a o n e => ⟨fun z => by
  rcases List.mem_cons.mp z with y | y
  · rw [y, h] at e; cases e
  · exact n y, e⟩
theorem SchAt.upd {N : List Addr} {C : Addr} {H : Hp} {k r : Addr} {o : HO} {n : Int} {w m : Str} {fs : List (Str × Str)} (R : SchAt N C H r n w m fs) (i : k ∈ N) : SchAt N C (L2.upd H k o) r n w m fs := R.mono fun a u n e => ⟨n, by rw [upd_ne fun z => by rw [z] at n; exact n i]; exact e⟩
theorem SchAt.nil {N : List Addr} {C : Addr} {H : Hp} {r : Addr} {n : Int} {w m : Str} {fs : List (Str × Str)} (R : SchAt N C H r n w m fs) : SchAt [] C H r n w m fs := R.mono fun a o n e => ⟨(fun z => by cases z), e⟩
theorem offF {st : Addr} {H : Hp} {xs : List V} (hs : H st = some (.lst xs)) : ∀ {fs : List (Str × Str)} {vs : List V}, Dts [] H vs (fs.map fdD) → Dts [st] H vs (fs.map fdD)
  | [], _, .nil => .nil
  | a :: r, _, .cons x t => by
    obtain ⟨p, w, rfl, _, e, y⟩ := x.isP
    rw [y.isS] at e
    refine .cons (.tup (not_in1 fun z => ?_) e (.cons (.str _) (.cons (.str _) .nil))) (offF hs t)
    rw [z, hs] at e
    cases e
theorem SchAt.off {st : Addr} {C : Addr} {H : Hp} {xs : List V} {r : Addr} {n : Int} {w m : Str} {fs : List (Str × Str)} (R : SchAt [] C H r n w m fs) (hs : H st = some (.lst xs)) : SchAt [st] C H r n w m fs := by
  obtain ⟨k, dx, tf, h1, h2⟩ := R
  obtain ⟨p3, v3, e3, _, g3, t3⟩ := h2.isT
  cases e3
  refine ⟨not_in1 fun z => ?_, dx, tf, h1, .tup (not_in1 fun z => ?_) g3 (offF hs t3)⟩
  · rw [z, hs] at h1; cases h1
  · rw [z, hs] at g3; cases g3

def sp_law_row (T : Txt w K mg) : Sp := fun vs H Q _ => ∃ (sc : Addr) (ns : List Int) (k : Int), vs = [.ref sc, .int k] ∧ (H sc = some (.lst (ns.map V.int))) ∧ (0 ≤ k) ∧ ∀ c : Int, 0 ≤ c → Q (.int c) H
set_option maxHeartbeats 4000000 in
theorem ok_law_row (T : Txt w K mg) : FnOk P w K mg base CX0 1 T.f_law_row T.d_law_row ["script", "k"] (sp_law_row T) := by
  refine T.F_law_row.ok sc_law_row (fun vs H Q E h => ?_) (fun cdv A outer s H vs Q E hr h => ?_)
  · obtain ⟨sc, ns, k, rfl, _⟩ := h
    rfl
  · obtain ⟨sc, ns, k, rfl, hS, hk, q⟩ := h
    refine ⟨_, (pss_cons (ps_set (i := 2) sc_law_row.nd rfl (.inl rfl) pe_int) 
      (pss_cut (ps_if (pt_cmpR op_lt (pv 1) (pe_callB call_len_seq (by rfl) T.m_len PySem.boot_len (pa_cons (pv 0) pa_nil)) (nomark _)) (pss_one (ps_set (i := 2) sc_law_row.nd rfl (.inl rfl) (pe_ix ix_list (pv 0) (pv 1) (fun _ _ => rfl)))) pss_nil) 
      (pss_cut (ps_if (pt_cmpR op_lt (pv 2) pe_int (nomark _)) (pss_one (ps_set (i := 2) sc_law_row.nd rfl (.inl rfl) (pe_op op_sub (pe_op op_mul (pe_un un_neg pe_int) (pv 2)) pe_int))) pss_nil) 
      (pss_cut (ps_if (pt_cmpR op_lt (pv 2) (pe_op op_pow pe_int pe_int) (nomark _)) (pss_cons (ps_set (i := 3) sc_law_row.nd rfl (.inl rfl) (pe_op op_mod (pe_callTy call_int1 (by rfl) T.m_int (by decide +kernel) (pa_cons (pe_op op_add (pe_op op_add (pe_op op_mul (pv 2) pe_int) (pe_op op_mul (pv 1) pe_int)) pe_int) pa_nil)) pe_int)) 
      (pss_cons (ps_set (i := 4) sc_law_row.nd rfl (.inl rfl) (pe_op op_mod (pe_callTy call_int1 (by rfl) T.m_int (by decide +kernel) (pa_cons (pe_op op_add (pe_op op_add (pe_op op_add (pe_op op_mul (pv 3) pe_int) (pe_op op_mul (pv 2) pe_int)) (pv 1)) pe_int) pa_nil)) pe_int)) 
      (pss_cons (ps_set (i := 5) sc_law_row.nd rfl (.inl rfl) (pe_op op_mod (pe_callTy call_int1 (by rfl) T.m_int (by decide +kernel) (pa_cons (pe_op op_add (pe_op op_add (pe_op op_mul (pv 4) pe_int) (pe_op op_mul (pv 3) (pv 4))) pe_int) pa_nil)) pe_int)) 
      (pss_one (ps_set (i := 2) sc_law_row.nd rfl (.inl rfl) (pe_op op_add (pe_op op_add (pv 3) (pe_op op_mul (pv 4) pe_int)) (pe_op op_mul (pv 5) (pe_op op_pow pe_int pe_int)))))))) pss_nil) 
      (pss_one (ps_ret (pv 2))))))), ?_⟩
    -- if k < len(script): cell = script[k]
    refine ⟨fun σ' H' => H' = H ∧ ∃ c : Int, σ' = [some (.ref sc), some (.int k), some (.int c), none, none, none], ?_, ?_⟩
    · refine ⟨_, rfl, _, rfl, sc, _, rfl, .inl (SqL.of hS), _, _, rfl, rfl, _, rfl, ite2 (fun e => ?_) (fun e => ?_)⟩
      · have hl : k < ((ns.map V.int).length : Int) := of_decide_eq_true e
        rw [List.length_map] at hl
        obtain ⟨c, hc⟩ := item_map hk hl
        exact ⟨_, rfl, _, rfl, sc, _, k, _, rfl, rfl, SqL.of hS, hc, rfl, c, rfl⟩
      · exact ⟨rfl, 0, rfl⟩
    rintro σ' H' ⟨rfl, c, rfl⟩
    -- if cell < 0: cell = -2 * cell - 1
    refine ⟨fun σ' H2 => H2 = H' ∧ ∃ c : Int, 0 ≤ c ∧ σ' = [some (.ref sc), some (.int k), some (.int c), none, none, none], ?_, ?_⟩
    · refine ⟨_, rfl, _, _, rfl, rfl, _, rfl, ite2 (fun e => ?_) (fun e => ?_)⟩
      · have hc : c < 0 := of_decide_eq_true e
        refine ⟨2, rfl, _, rfl, _, _, rfl, rfl, .inl ⟨by decide, by decide⟩, _, _, rfl, rfl, rfl, _, ?_, rfl⟩
        omega
      · have hc : ¬ c < 0 := fun h => e (decide_eq_true h)
        exact ⟨rfl, c, by omega, rfl⟩
    rintro σ' H2 ⟨rfl, c, hc, rfl⟩
    -- if cell < 10 ** 9: ..
    refine ⟨fun σ' H' => H' = H2 ∧ ∃ (c : Int) (x y z : Option V), 0 ≤ c ∧ σ' = [some (.ref sc), some (.int k), some (.int c), x, y, z], ?_, ?_⟩
    · refine ⟨_, rfl, _, _, rfl, rfl, ⟨by decide, by decide, by decide⟩, _, _, rfl, rfl, _, rfl, ite2 (fun e => ?_) (fun e => ?_)⟩
      · have h9 : c < 10 ^ 9 := of_decide_eq_true e
        refine ⟨_, rfl, _, _, rfl, rfl, .inr ⟨by decide, by decide⟩, _, rfl, _, _, rfl, rfl, .inr ⟨by decide, by decide⟩, _, _, rfl, rfl, _, _, rfl, rfl, .inl ⟨_, rfl, ?_⟩⟩
        refine ⟨_, _, rfl, rfl, (by decide : (0 : Int) < 2147483647), ?_⟩
        dsimp only
        generalize ha : (c * 48271 + k * 69621 + 11) % 2147483647 = a
        have a0 : 0 ≤ a := by rw [← ha]; exact Int.emod_nonneg _ (by decide)
        have a1 : a < 2147483647 := by rw [← ha]; exact Int.emod_lt_of_pos _ (by decide)
        refine ⟨_, rfl, _, _, rfl, rfl, .inr ⟨by decide, by decide⟩, _, rfl, _, _, rfl, rfl, .inr ⟨by decide, by decide⟩, _, _, rfl, rfl, _, rfl, _, _, rfl, rfl, _, _, rfl, rfl, .inl ⟨_, rfl, ?_⟩⟩
        refine ⟨_, _, rfl, rfl, (by decide : (0 : Int) < 2147483629), ?_⟩
        dsimp only
        generalize hb : (a * 16807 + c * 7 + k + 5) % 2147483629 = b
        have b0 : 0 ≤ b := by rw [← hb]; exact Int.emod_nonneg _ (by decide)
        have b1 : b < 2147483629 := by rw [← hb]; exact Int.emod_lt_of_pos _ (by decide)
        refine ⟨_, rfl, _, _, rfl, rfl, .inr ⟨by decide, by decide⟩, _, rfl, _, rfl, _, _, rfl, rfl, .inl ⟨by omega, by omega⟩, _, _, rfl, rfl, _, _, rfl, rfl, .inl ⟨_, rfl, ?_⟩⟩
        refine ⟨_, _, rfl, rfl, (by decide : (0 : Int) < 2147483587), ?_⟩
        dsimp only
        generalize hd : (b * 39373 + a * b + 3) % 2147483587 = d
        have d0 : 0 ≤ d := by rw [← hd]; exact Int.emod_nonneg _ (by decide)
        refine ⟨_, rfl, _, rfl, _, _, rfl, rfl, .inr ⟨by decide, by decide⟩, _, _, rfl, rfl, _, rfl, _, _, rfl, rfl, ⟨by decide, by decide, by decide⟩, _, _, rfl, rfl, .inr ⟨by decide, by decide⟩, _, _, rfl, rfl, rfl, _, _, _, _, ?_, rfl⟩
        have e2 : (2147483647 : Int) ^ (2 : Int).toNat = 4611686014132420609 := by decide
        rw [e2]
        omega
      · exact ⟨rfl, c, _, _, _, hc, rfl⟩
    rintro σ' H' ⟨rfl, c, x, y, z, hc, rfl⟩
    exact ⟨_, rfl, q c hc⟩
def sp_law_next (T : Txt w K mg) : Sp := fun vs H Q _ => ∃ (st sc : Addr) (m : Int), vs = [.ref st, .int m] ∧ (StAt H st sc) ∧ (0 < m) ∧ (m.natAbs < 2 ^ 200) ∧ ∀ (d : Int) (H' : Hp), 0 ≤ d → d < m → StAt H' st sc → Oth st H H' → Q (.int d) H'
set_option maxHeartbeats 4000000 in
theorem ok_law_next (T : Txt w K mg) : FnOk P w K mg base CX0 2 T.f_law_next T.d_law_next ["state", "many"] (sp_law_next T) := by
  have G_law_row : FnOk P w K mg base CX0 1 T.f_law_row T.d_law_row ["script", "k"] (sp_law_row T) := ok_law_row T
  refine T.F_law_next.ok sc_law_next (fun vs H Q E h => ?_) (fun cdv A outer s H vs Q E hr h => ?_)
  · obtain ⟨st, sc, m, rfl, _⟩ := h
    rfl
  · obtain ⟨st, sc, m, rfl, hS, m0, m1, q⟩ := h
    refine ⟨_, (pss_cut (ps_if (pt_cmpR op_lt (pe_ix ix_list (pv 0) pe_int (fun _ _ => rfl)) (pv 1) (nomark _)) (pss_cons (ps_asg (pe_call G_law_row (hr.mono (by decide)) (by rfl) T.g_law_row T.F_law_row.kp T.b_law_row .nil pass0 (pa_cons (pe_ix ix_list (pv 0) pe_int (fun _ _ => rfl)) (pa_cons (pe_ix ix_list (pv 0) pe_int (fun _ _ => rfl)) pa_nil))) (pg_sub (pv 0) pe_int set_list)) 
      (pss_one (ps_asg (pe_op op_add (pe_ix ix_list (pv 0) pe_int (fun _ _ => rfl)) pe_int) (pg_sub (pv 0) pe_int set_list)))) pss_nil) 
      (pss_cons (ps_set (i := 2) sc_law_next.nd rfl (.inl rfl) (pe_op op_mod (pe_callTy call_int1 (by rfl) T.m_int (by decide +kernel) (pa_cons (pe_ix ix_list (pv 0) pe_int (fun _ _ => rfl)) pa_nil)) (pv 1))) 
      (pss_cons (ps_asg (pe_op op_fdivW (pe_ix ix_list (pv 0) pe_int (fun _ _ => rfl)) (pv 1)) (pg_sub (pv 0) pe_int set_list)) 
      (pss_one (ps_ret (pv 2)))))), ?_⟩
    -- if state[2] < many: ..
    refine ⟨fun σ' H' => Oth st H H' ∧ StAt H' st sc ∧ σ' = [some (.ref st), some (.int m), none], ?_, ?_⟩
    · obtain ⟨ns, k, x, h1, h2, k0, x0, hn⟩ := id hS
      have hne : sc ≠ st := fun e => by
        rw [e, h1] at h2
        have z := HO.lst.inj (Option.some.inj h2)
        cases ns with
        | nil => cases z
        | cons y r =>
          have z2 := (List.cons.inj z).1
          cases z2
      refine ⟨_, rfl, st, _, _, _, rfl, rfl, SqL.of h1, at_of (j := 2) rfl rfl, _, rfl, _, _, rfl, rfl, _, rfl, ite2 (fun e => ?_) (fun e => ?_)⟩
      · refine ⟨_, rfl, st, _, _, _, rfl, rfl, SqL.of h1, at_of (j := 0) rfl rfl, _, rfl, st, _, _, _, rfl, rfl, SqL.of h1, at_of (j := 1) rfl rfl, sc, ns, k, rfl, h2, k0, fun c c0 => ?_⟩
        refine ⟨_, rfl, st, _, _, 2, rfl, rfl, h1, rfl, ?_⟩
        refine ⟨_, rfl, st, _, _, _, rfl, rfl, SqL.of upd_same, at_of (j := 1) rfl rfl, _, _, rfl, rfl, _, rfl, st, _, _, 1, rfl, rfl, upd_same, rfl, ?_⟩
        refine ⟨fun b hb => ?_, ⟨ns, k + 1, c, upd_same, ?_, by omega, c0, hn⟩, rfl⟩
        · rw [upd_ne hb, upd_ne hb]
        · rw [upd_ne hne, upd_ne hne]
          exact h2
      · exact ⟨Oth.refl _ _, hS, rfl⟩
    rintro σ' H' ⟨hO, ⟨ns, k, x, h1, h2, k0, x0, hn⟩, rfl⟩
    have hne : sc ≠ st := fun e => by
      rw [e, h1] at h2
      have z := HO.lst.inj (Option.some.inj h2)
      cases ns with
      | nil => cases z
      | cons y r =>
        have z2 := (List.cons.inj z).1
        cases z2
    -- drawn = int(state[2]) % many
    refine ⟨_, rfl, st, _, _, _, rfl, rfl, SqL.of h1, at_of (j := 2) rfl rfl, .inl ⟨_, rfl, ?_⟩⟩
    refine ⟨_, rfl, _, _, rfl, rfl, m0, ?_⟩
    -- state[2] = state[2] // many
    refine ⟨_, rfl, st, _, _, _, rfl, rfl, SqL.of h1, at_of (j := 2) rfl rfl, _, rfl, _, _, rfl, rfl, wide_div m0 m1 (by decide) (by decide), ?_⟩
    refine ⟨_, rfl, st, _, _, 2, rfl, rfl, h1, rfl, ?_⟩
    refine ⟨_, rfl, q _ _ (Int.emod_nonneg _ (by omega)) (Int.emod_lt_of_pos _ m0) ⟨ns, k, x / m, upd_same, ?_, k0, Int.ediv_nonneg x0 (by omega), hn⟩ (hO.trans fun b hb => upd_ne hb)⟩
    rw [upd_ne hne]
    exact h2
def sp_law_fields (T : Txt w K mg) : Sp := fun vs H Q _ => ∃ (st sc : Addr), vs = [.ref st] ∧ (StAt H st sc) ∧ ∀ (p : Addr) (fs : List (Str × Str)) (H' : Hp), FieldsOk fs → H p = none → Dt [st] H' (.ref p) (.list (fs.map fdD)) → StAt H' st sc → Fr st H H' → Q (.ref p) H'
set_option maxHeartbeats 4000000 in
theorem ok_law_fields (T : Txt w K mg) : FnOk P w K mg base CX0 3 T.f_law_fields T.d_law_fields ["state"] (sp_law_fields T) := by
  have G_law_next : FnOk P w K mg base CX0 2 T.f_law_next T.d_law_next ["state", "many"] (sp_law_next T) := ok_law_next T
  refine T.F_law_fields.ok sc_law_fields (fun vs H Q E h => ?_) (fun cdv A outer s H vs Q E hr h => ?_)
  · obtain ⟨st, sc, rfl, _⟩ := h
    rfl
  · obtain ⟨st, sc, rfl, hS, q⟩ := h
    refine ⟨_, (pss_cons (ps_set (i := 1) sc_law_fields.nd rfl (.inl rfl) (pe_lst pa_nil)) 
      (pss_cons (ps_for PassesOwn.never rfl (pi_range1 rfl T.m_range (pa_cons (pe_call G_law_next (hr.mono (by decide)) (by rfl) T.g_law_next T.F_law_next.kp T.b_law_next .nil pass0 (pa_cons (pv 0) (pa_cons pe_int pa_nil))) pa_nil)) (pg_name (i := 2) sc_law_fields.nd rfl (.inl rfl)) (pss_cons (ps_set (i := 3) sc_law_fields.nd rfl (.inl rfl) (pe_ix ix_list (pe_lst (pa_cons pe_str (pa_cons pe_str (pa_cons pe_str (pa_cons pe_str pa_nil))))) (pv 2) (fun _ _ => rfl))) 
      (pss_one (ps_expr (pe_bm PySem.F.plainAttrs_list PySem.F.slot_list_append PySem.F.type_list_append mt_append (pv 1) (pa_cons (pe_tup (pa_cons (pv 3) (pa_cons (pe_ix ix_list (pe_lst (pa_cons pe_str (pa_cons pe_str (pa_cons pe_str pa_nil)))) (pe_call G_law_next (hr.mono (by decide)) (by rfl) T.g_law_next T.F_law_next.kp T.b_law_next .nil pass0 (pa_cons (pv 0) (pa_cons pe_int pa_nil))) (fun _ _ => rfl)) pa_nil))) pa_nil)))))) 
      (pss_one (ps_ret (pv 1))))), ?_⟩
    refine ⟨Nat.zero_le _, fun D hD => ?_⟩
    have nD : D ≠ st := st_new hS hD
    refine ⟨_, rfl, st, sc, 4, rfl, hS.new hD, by decide, by decide +kernel, fun n H1 n0 n1 hS1 o1 => ?_⟩
    have B1 : Bl [st] D H1 [] := (Bl.nil (N := [st]) (H := H)).fr nD in1 o1.fr
    refine ⟨n, rfl, by omega, by omega, for_range (lo := 0) (n := n.toNat) (fun i σ H' => Fr st H H' ∧ StAt H' st sc ∧ ∃ (fs : List (Str × Str)) (x2 x3 : Option V), fs.length = i ∧ FieldsOk fs ∧ Bl [st] D H' (fs.map fdD) ∧ σ = [some (.ref st), some (.ref D), x2, x3]) ⟨(Fr.new hD).trans o1.fr, hS1, [], none, none, rfl, ⟨by decide, rfl, fun f hf => nomatch hf⟩, B1, rfl⟩ ?_ ?_⟩
    · rintro i σ H2 hi ⟨f2, hS2, fs, x2, x3, hl, ok, B2, rfl⟩
      have e0 : (0 : Int) + (i : Int) = (i : Int) := by omega
      obtain ⟨nm, hnm, hnm2⟩ : ∃ nm, [V.str "a", V.str "b", V.str "note", V.str "_x"][i]? = some (.str nm) ∧ NAME4[i]? = some nm := by
        have : i = 0 ∨ i = 1 ∨ i = 2 := by omega
        rcases this with rfl | rfl | rfl
        · exact ⟨_, rfl, rfl⟩
        · exact ⟨_, rfl, rfl⟩
        · exact ⟨_, rfl, rfl⟩
      refine ⟨(by show 4 ≤ sizeLine; decide), fun l1 hl1 => ⟨_, rfl, l1, _, _, _, rfl, rfl, SqL.of upd_same, at_of e0 hnm, ?_⟩⟩
      have B3 := B2.same (same_new (o := .lst [V.str "a", V.str "b", V.str "note", V.str "_x"]) hl1)
      have f3 := f2.trans (same_fr (st := st) (same_new (o := .lst [V.str "a", V.str "b", V.str "note", V.str "_x"]) hl1))
      have hS3 := hS2.new (o := .lst [V.str "a", V.str "b", V.str "note", V.str "_x"]) hl1
      generalize upd H2 l1 (.lst [V.str "a", V.str "b", V.str "note", V.str "_x"]) = H3 at B3 f3 hS3 ⊢
      obtain ⟨vs3, d3, t3⟩ := id B3
      refine ⟨_, rfl, .inl ⟨rfl, _, SqL.of d3⟩, _, rfl, (by show 3 ≤ sizeLine; decide), fun l2 hl2 => ⟨_, rfl, st, sc, 3, rfl, hS3.new hl2, by decide, by decide +kernel, fun k H4 k0 k1 hS4 o4 => ?_⟩⟩
      obtain ⟨kd, hkd, kd3⟩ := pickS (xs := KIND3) k0 k1
      have B4 := (B3.same (same_new (o := .lst [V.str "integer", V.str "text", V.str "flag"]) hl2)).fr nD in1 o4.fr
      have f4 := f3.trans ((same_fr (st := st) (same_new (o := .lst [V.str "integer", V.str "text", V.str "flag"]) hl2)).trans o4.fr)
      refine ⟨l2, _, k, _, rfl, rfl, SqL.of ((o4 l2 (st_new hS3 hl2)).trans upd_same), hkd, (by show 2 ≤ sizeLine; decide), fun t ht => ?_⟩
      have B5 := B4.same (same_new (o := .tup [.str nm, .str kd]) ht)
      have f5 := f4.trans (same_fr (st := st) (same_new (o := .tup [.str nm, .str kd]) ht))
      have hS5 := hS4.new (o := .tup [.str nm, .str kd]) ht
      obtain ⟨vs4, d4, _⟩ := id B4
      have x5 : Dt [D, st] (upd H4 t (.tup [.str nm, .str kd])) (.ref t) (fdD (nm, kd)) := .tup (not_in2 (ne_of_none d4 ht).symm (st_new hS4 ht)) upd_same (.cons (.str _) (.cons (.str _) .nil))
      generalize upd H4 t (.tup [.str nm, .str kd]) = H5 at B5 f5 hS5 x5 ⊢
      obtain ⟨vs5, d5, t5⟩ := B5
      have l5 := t5.length
      rw [List.length_map] at l5
      refine ⟨D, _, _, rfl, rfl, d5, len_le (by omega), f5.set hD, hS5.set hS hD, fs ++ [(nm, kd)], _, _, by simp [hl], FieldsOk.snoc (by omega) ok.names ok.kinds (by rw [hl]; exact hnm2) kd3, ?_, rfl⟩
      rw [List.map_append]
      exact Bl.push d5 t5 x5
    · rintro σ H2 ⟨f2, hS2, fs, x2, x3, hl, ok, B2, rfl⟩
      exact ⟨_, rfl, q D fs H2 ok hD (B2.done (not_in1 nD)) hS2 f2⟩
def sp_law_schema (T : Txt w K mg) : Sp := fun vs H Q _ => ∃ (st sc : Addr), vs = [.ref st] ∧ (StAt H st sc) ∧ ∀ (t pf : Addr) (n : Int) (w m : Str) (fs : List (Str × Str)) (H' : Hp), 1 ≤ n → n ≤ 4 → w ∈ WIDE3 → m ∈ MEAS3 → (m = "bits" → w = "bit") → FieldsOk fs → t ≠ st → H t = none → H' t = some (.tup [.int n, .str w, .str m, .ref pf]) → Dt [st] H' (.ref pf) (.list (fs.map fdD)) → StAt H' st sc → Fr st H H' → Q (.ref t) H'
set_option maxHeartbeats 4000000 in
theorem ok_law_schema (T : Txt w K mg) : FnOk P w K mg base CX0 4 T.f_law_schema T.d_law_schema ["state"] (sp_law_schema T) := by
  have G_law_fields : FnOk P w K mg base CX0 3 T.f_law_fields T.d_law_fields ["state"] (sp_law_fields T) := ok_law_fields T
  have G_law_next : FnOk P w K mg base CX0 2 T.f_law_next T.d_law_next ["state", "many"] (sp_law_next T) := ok_law_next T
  refine T.F_law_schema.ok sc_law_schema (fun vs H Q E h => ?_) (fun cdv A outer s H vs Q E hr h => ?_)
  · obtain ⟨st, sc, rfl, _⟩ := h
    rfl
  · obtain ⟨st, sc, rfl, hS, q⟩ := h
    refine ⟨_, (pss_cons (ps_set (i := 1) sc_law_schema.nd rfl (.inl rfl) (pe_ix ix_list (pe_lst (pa_cons pe_str (pa_cons pe_str (pa_cons pe_str pa_nil)))) (pe_call G_law_next (hr.mono (by decide)) (by rfl) T.g_law_next T.F_law_next.kp T.b_law_next .nil pass0 (pa_cons (pv 0) (pa_cons pe_int pa_nil))) (fun _ _ => rfl))) 
      (pss_cons (ps_set (i := 2) sc_law_schema.nd rfl (.inl rfl) (pe_ix ix_list (pe_lst (pa_cons pe_str (pa_cons pe_str (pa_cons pe_str pa_nil)))) (pe_call G_law_next (hr.mono (by decide)) (by rfl) T.g_law_next T.F_law_next.kp T.b_law_next .nil pass0 (pa_cons (pv 0) (pa_cons pe_int pa_nil))) (fun _ _ => rfl))) 
      (pss_cut (ps_if (pt_cmpR op_eq (pv 2) pe_str (nomark _)) (pss_one (ps_set (i := 1) sc_law_schema.nd rfl (.inl rfl) pe_str)) pss_nil) 
      (pss_one (ps_ret (pe_tup (pa_cons (pe_op op_add pe_int (pe_call G_law_next (hr.mono (by decide)) (by rfl) T.g_law_next T.F_law_next.kp T.b_law_next .nil pass0 (pa_cons (pv 0) (pa_cons pe_int pa_nil)))) (pa_cons (pv 1) (pa_cons (pv 2) (pa_cons (pe_call G_law_fields (hr.mono (by decide)) (by rfl) T.g_law_fields T.F_law_fields.kp T.b_law_fields .nil pass0 (pa_cons (pv 0) pa_nil)) pa_nil)))))))))), ?_⟩
    refine ⟨(by show 3 ≤ sizeLine; decide), fun l1 hl1 => ⟨_, rfl, st, sc, 3, rfl, hS.new hl1, by decide, by decide +kernel, fun k H1 k0 k1 hS1 o1 => ?_⟩⟩
    obtain ⟨w, hw, w3⟩ := pickS (xs := WIDE3) k0 k1
    have f1 := (same_fr (st := st) (same_new (o := .lst [V.str "bit", V.str "small", V.str "wide"]) hl1)).trans o1.fr
    refine ⟨l1, _, k, _, rfl, rfl, SqL.of ((o1 l1 (st_new hS hl1)).trans upd_same), hw, ?_⟩
    refine ⟨(by show 3 ≤ sizeLine; decide), fun l2 hl2 => ⟨_, rfl, st, sc, 3, rfl, hS1.new hl2, by decide, by decide +kernel, fun j H2 j0 j1 hS2 o2 => ?_⟩⟩
    obtain ⟨m, hm, m3⟩ := pickS (xs := MEAS3) j0 j1
    have f2 := f1.trans ((same_fr (st := st) (same_new (o := .lst [V.str "square", V.str "dot", V.str "bits"]) hl2)).trans o2.fr)
    refine ⟨l2, _, j, _, rfl, rfl, SqL.of ((o2 l2 (st_new hS1 hl2)).trans upd_same), hm, ?_⟩
    refine ⟨fun σ' H' => H' = H2 ∧ ∃ w' : Str, w' ∈ WIDE3 ∧ (m = "bits" → w' = "bit") ∧ σ' = [some (.ref st), some (.str w'), some (.str m)], ?_, ?_⟩
    · refine ⟨_, rfl, rfl, _, rfl, ite2 (fun _ => ?_) (fun e => ?_)⟩
      · exact ⟨rfl, "bit", by decide +kernel, fun _ => rfl, rfl⟩
      · exact ⟨rfl, w, w3, fun h => absurd (decide_eq_true (congrArg V.str h)) e, rfl⟩
    rintro σ' H' ⟨rfl, w', w3', hb, rfl⟩
    refine ⟨_, rfl, st, sc, 4, rfl, hS2, by decide, by decide +kernel, fun n H3 n0 n1 hS3 o3 => ?_⟩
    refine ⟨_, _, rfl, rfl, _, rfl, _, rfl, _, rfl, st, sc, rfl, hS3, fun p fs H4 ok hp x4 hS4 f4 => ⟨(by show 4 ≤ sizeLine; decide), fun t ht => ?_⟩⟩
    have f5 := (f2.trans o3.fr).trans (f4.trans (same_fr (st := st) (same_new (o := .tup [.int (1 + n), .str w', .str m, .ref p]) ht)))
    have nt : H t = none := by
      cases e : H t with
      | none => rfl
      | some o =>
        have := f5 t o e (st_new hS4 ht)
        have g := ((f2.trans o3.fr).trans f4) t o e (st_new hS4 ht)
        rw [ht] at g
        cases g
    exact q t p (1 + n) w' m fs _ (by omega) (by omega) w3' m3 hb ok (st_new hS4 ht) nt upd_same (x4.new ht) (hS4.new ht) f5
def sp_law_number (T : Txt w K mg) : Sp := fun vs H Q _ => ∃ (st sc : Addr) (w : Str), vs = [.ref st, .str w] ∧ (StAt H st sc) ∧ (w ∈ WIDE3) ∧ ∀ (v : Int) (H' : Hp), -32768 ≤ v → v ≤ 32767 → StAt H' st sc → Fr st H H' → Q (.int v) H'
set_option maxHeartbeats 4000000 in
theorem ok_law_number (T : Txt w K mg) : FnOk P w K mg base CX0 3 T.f_law_number T.d_law_number ["state", "width"] (sp_law_number T) := by
  have G_law_next : FnOk P w K mg base CX0 2 T.f_law_next T.d_law_next ["state", "many"] (sp_law_next T) := ok_law_next T
  refine T.F_law_number.ok sc_law_number (fun vs H Q E h => ?_) (fun cdv A outer s H vs Q E hr h => ?_)
  · obtain ⟨st, sc, w, rfl, _⟩ := h
    rfl
  · obtain ⟨st, sc, w, rfl, hS, hw, q⟩ := h
    refine ⟨_, (pss_cons (ps_set (i := 2) sc_law_number.nd rfl (.inl rfl) (pe_ix ix_list (pe_lst (pa_cons pe_int (pa_cons (pe_un un_neg pe_int) (pa_cons (pe_un un_neg pe_int) pa_nil)))) (pe_bm PySem.F.plainAttrs_list PySem.F.slot_list_index PySem.F.type_list_index mt_index (pe_lst (pa_cons pe_str (pa_cons pe_str (pa_cons pe_str pa_nil)))) (pa_cons (pv 1) pa_nil)) (fun _ _ => rfl))) 
      (pss_cons (ps_set (i := 3) sc_law_number.nd rfl (.inl rfl) (pe_ix ix_list (pe_lst (pa_cons pe_int (pa_cons pe_int (pa_cons pe_int pa_nil)))) (pe_bm PySem.F.plainAttrs_list PySem.F.slot_list_index PySem.F.type_list_index mt_index (pe_lst (pa_cons pe_str (pa_cons pe_str (pa_cons pe_str pa_nil)))) (pa_cons (pv 1) pa_nil)) (fun _ _ => rfl))) 
      (pss_cons (ps_if (pt_cmpR op_eq (pe_call G_law_next (hr.mono (by decide)) (by rfl) T.g_law_next T.F_law_next.kp T.b_law_next .nil pass0 (pa_cons (pv 0) (pa_cons pe_int pa_nil))) pe_int (nomark _)) (pss_one (ps_ret (pe_ix ix_list (pe_lst (pa_cons (pv 2) (pa_cons (pv 3) pa_nil))) (pe_call G_law_next (hr.mono (by decide)) (by rfl) T.g_law_next T.F_law_next.kp T.b_law_next .nil pass0 (pa_cons (pv 0) (pa_cons pe_int pa_nil))) (fun _ _ => rfl)))) pss_nil) 
      (pss_cons (ps_set (i := 4) sc_law_number.nd rfl (.inl rfl) (pe_ix ix_list (pe_lst (pa_cons pe_int (pa_cons pe_int (pa_cons (pe_op op_sub (pv 3) (pv 2)) pa_nil)))) (pe_call G_law_next (hr.mono (by decide)) (by rfl) T.g_law_next T.F_law_next.kp T.b_law_next .nil pass0 (pa_cons (pv 0) (pa_cons pe_int pa_nil))) (fun _ _ => rfl))) 
      (pss_one (ps_ret (pe_ifExp (pt_cmpR op_eq (pe_call G_law_next (hr.mono (by decide)) (by rfl) T.g_law_next T.F_law_next.kp T.b_law_next .nil pass0 (pa_cons (pv 0) (pa_cons pe_int pa_nil))) pe_int (nomark _)) (pe_callB (call_min2 rfl) (by rfl) T.m_min (by decide +kernel) (pa_cons (pv 3) (pa_cons (pe_op op_add (pe_callB (call_max2 rfl) (by rfl) T.m_max (by decide +kernel) (pa_cons (pv 2) (pa_cons pe_int pa_nil))) (pe_call G_law_next (hr.mono (by decide)) (by rfl) T.g_law_next T.F_law_next.kp T.b_law_next .nil pass0 (pa_cons (pv 0) (pa_cons (pe_op op_add (pv 4) pe_int) pa_nil)))) pa_nil))) (pe_callB (call_max2 rfl) (by rfl) T.m_max (by decide +kernel) (pa_cons (pv 2) (pa_cons (pe_un un_neg (pe_call G_law_next (hr.mono (by decide)) (by rfl) T.g_law_next T.F_law_next.kp T.b_law_next .nil pass0 (pa_cons (pv 0) (pa_cons (pe_op op_add (pv 4) pe_int) pa_nil)))) pa_nil)))))))))), ?_⟩
    obtain ⟨j, lo, hi, g1, g2, g3, g4, g5, lo1, lo2, hi1, hi2⟩ := wide3 hw
    -- low
    refine ⟨_, rfl, _, rfl, (by show 3 ≤ sizeLine; decide), fun a1 ha1 => ⟨(by show 3 ≤ sizeLine; decide), fun a2 ha2 => ⟨.inl ⟨rfl, _, SqL.of upd_same⟩, _, rfl, a2, _, _, j, _, rfl, rfl, SqL.of upd_same, rfl, by decide +kernel, g1, g2, g3, a1, _, _, _, rfl, rfl, SqL.of ((same_new ha2) _ _ upd_same), at_of rfl g4, ?_⟩⟩⟩
    have s1 := (same_new (o := .lst [V.int 0, V.int (-128), V.int (-32768)]) ha1).trans (same_new (o := .lst [V.str "bit", V.str "small", V.str "wide"]) ha2)
    generalize upd (upd H a1 (.lst [V.int 0, V.int (-128), V.int (-32768)])) a2 (.lst [V.str "bit", V.str "small", V.str "wide"]) = H1 at s1 ⊢
    -- high
    refine ⟨(by show 3 ≤ sizeLine; decide), fun a1 ha1 => ⟨(by show 3 ≤ sizeLine; decide), fun a2 ha2 => ⟨.inl ⟨rfl, _, SqL.of upd_same⟩, _, rfl, a2, _, _, j, _, rfl, rfl, SqL.of upd_same, rfl, by decide +kernel, g1, g2, g3, a1, _, _, _, rfl, rfl, SqL.of ((same_new ha2) _ _ upd_same), at_of rfl g5, ?_⟩⟩⟩
    replace s1 := s1.trans ((same_new (o := .lst [V.int 1, V.int 127, V.int 32767]) ha1).trans (same_new (o := .lst [V.str "bit", V.str "small", V.str "wide"]) ha2))
    generalize upd (upd H1 a1 (.lst [V.int 1, V.int 127, V.int 32767])) a2 (.lst [V.str "bit", V.str "small", V.str "wide"]) = H2 at s1 ⊢
    have hS2 := hS.same s1
    have f2 : Fr st H H2 := same_fr s1
    -- if _law_next(state, 5) == 0
    refine ⟨_, rfl, st, sc, 5, rfl, hS2, by decide, by decide +kernel, fun d H3 d0 d1 hS3 o3 => ⟨rfl, _, rfl, ite2 (fun _ => ?_) (fun _ => ?_)⟩⟩
    · refine ⟨_, rfl, _, rfl, (by show 2 ≤ sizeLine; decide), fun l hl => ⟨_, rfl, st, sc, 2, rfl, hS3.new hl, by decide, by decide +kernel, fun e H4 e0 e1 hS4 o4 => ?_⟩⟩
      have f4 := (f2.trans o3.fr).trans ((same_fr (st := st) (same_new (o := .lst [V.int lo, V.int hi]) hl)).trans o4.fr)
      have hl4 := (o4 l (st_new hS3 hl)).trans upd_same
      have : e = 0 ∨ e = 1 := by omega
      rcases this with rfl | rfl
      · exact ⟨l, _, 0, _, rfl, rfl, SqL.of hl4, at_of (j := 0) rfl rfl, q lo H4 (by omega) (by omega) hS4 f4⟩
      · exact ⟨l, _, 1, _, rfl, rfl, SqL.of hl4, at_of (j := 1) rfl rfl, q hi H4 (by omega) (by omega) hS4 f4⟩
    -- spread
    refine ⟨_, rfl, _, rfl, _, _, rfl, rfl, (by show 3 ≤ sizeLine; decide), fun l hl => ⟨_, rfl, st, sc, 3, rfl, hS3.new hl, by decide, by decide +kernel, fun e H4 e0 e1 hS4 o4 => ?_⟩⟩
    have f4 := (f2.trans o3.fr).trans ((same_fr (st := st) (same_new (o := .lst [V.int 1, V.int 5, V.int (hi - lo)]) hl)).trans o4.fr)
    have hl4 := (o4 l (st_new hS3 hl)).trans upd_same
    obtain ⟨sp, hsp, sp0, sp1⟩ : ∃ sp : Int, atI [V.int 1, V.int 5, V.int (hi - lo)] e = some (.int sp) ∧ 1 ≤ sp ∧ sp ≤ 65535 := by
      have : e = 0 ∨ e = 1 ∨ e = 2 := by omega
      rcases this with rfl | rfl | rfl
      · exact ⟨1, at_of (j := 0) rfl rfl, by decide, by decide⟩
      · exact ⟨5, at_of (j := 1) rfl rfl, by decide, by decide⟩
      · exact ⟨hi - lo, at_of (j := 2) rfl rfl, by omega, by omega⟩
    refine ⟨l, _, e, _, rfl, rfl, SqL.of hl4, hsp, ?_⟩
    have small : (sp + 1).natAbs < 2 ^ 200 := wide_le (j := 65536) (by omega) (by omega) (by decide +kernel)
    -- the last line
    refine ⟨_, rfl, st, sc, 2, rfl, hS4, by decide, by decide +kernel, fun u H5 u0 u1 hS5 o5 => ⟨rfl, _, rfl, ite2 (fun _ => ?_) (fun _ => ?_)⟩⟩
    · refine ⟨_, rfl, _, rfl, _, _, rfl, _, rfl, _, rfl, _, _, rfl, rfl, st, sc, _, rfl, hS5, by omega, small, fun v H6 v0 v1 hS6 o6 => ?_⟩
      refine ⟨_, _, rfl, rfl, _, _, rfl, ?_⟩
      refine q _ H6 ?_ ?_ hS6 (f4.trans (o5.fr.trans o6.fr))
      · split <;> (try split) <;> omega
      · split <;> (try split) <;> omega
    · refine ⟨_, rfl, _, rfl, _, rfl, _, _, rfl, rfl, st, sc, _, rfl, hS5, by omega, small, fun v H6 v0 v1 hS6 o6 => ⟨_, rfl, _, _, rfl, ?_⟩⟩
      refine q _ H6 ?_ ?_ hS6 (f4.trans (o5.fr.trans o6.fr))
      · split <;> omega
      · split <;> omega
def sp_inner (T : Txt w K mg) : Sp := fun vs H Q _ => ∃ (a b : Addr) (xs ys : List Int), vs = [.ref a, .ref b] ∧ (SqT K H a (xs.map V.int)) ∧ (SqT K H b (ys.map V.int)) ∧ (xs.length = ys.length) ∧ (xs.length ≤ 1000) ∧ (Bd 1000000000000 xs) ∧ (Bd 1000000000000 ys) ∧ ∀ H', Same H H' → Q (.int (ter fMul xs ys).sum) H'
set_option maxHeartbeats 4000000 in
theorem ok_inner (T : Txt w K mg) : FnOk P w K mg base CX0 1 T.f_inner T.d_inner ["a", "b"] (sp_inner T) := by
  refine T.F_inner.ok sc_inner (fun vs H Q E h => ?_) (fun cdv A outer s H vs Q E hr h => ?_)
  · obtain ⟨a, b, xs, ys, rfl, _⟩ := h
    rfl
  · obtain ⟨a, b, xs, ys, rfl, ha, hb, hl, h1, bx, by_, q⟩ := h
    refine ⟨_, (pss_one (ps_ret (pe_callB (cr_sum rfl) (by rfl) T.m_sum (by decide +kernel) (pa_cons (pe_lc (own := [("x", 2), ("y", 3)]) (g := gTup K 2 (gCons (gName 2) (gCons (gName 3) gNil))) rfl sc_inner.nd (RZ.pi_zipA (by rfl) T.m_zip (pa_cons (pv 0) (pa_cons (pv 1) pa_nil))) (blkOk_by (own := [("x", 2), ("y", 3)]) (N := ["a", "b", "x", "y"]) (sc := defScope s_inner) (by decide +kernel)) (fun _ _ _ _ _ => (by exact (pg_tup rfl (pgs_cons (pg_name (i := 2) sc_inner.nd rfl (Or.inl rfl)) (pgs_cons (pg_name (i := 3) sc_inner.nd rfl (Or.inl rfl)) pgs_nil))))) (fun _ _ _ _ _ => pts_nil) (fun _ _ _ _ _ => (pe_op op_mul (pv 2) (pv 3)))) pa_nil)))), ?_⟩
    refine ⟨_, rfl, _, rfl, a, b, xs.map V.int, ys.map V.int, rfl, .inr ⟨ha, hb, fun D hD => ?_⟩⟩
    refine lc_it (walk_zipT (K := K) (a := a) (b := b) (xs := xs.map V.int) (ys := ys.map V.int)) (fun i H' => Same H H' ∧ H' D = some (.lst (((ter fMul xs ys).take i).map V.int))) ⟨same_new hD, by rw [upd_same]; rfl⟩ (fun i H' _ h => ⟨h.1.seqT ha, h.1.seqT hb⟩) ?_ ?_
    · rintro i v H1 H2 hi ⟨sm, hD1⟩ ⟨T, x1, x2, rfl, nT, rfl, g1, g2⟩
      obtain ⟨x, rfl, hx⟩ := get_map g1
      obtain ⟨y, rfl, hy⟩ := get_map g2
      have bX := bx.at hx
      have bY := by_.at hy
      have nDT : D ≠ T := ne_of_none hD1 nT
      refine ⟨T, [.int x, .int y], rfl, .inl (.inl upd_same), rfl, _, _, rfl, _, _, rfl, rfl, rfl, ?_⟩
      refine ⟨_, rfl, _, rfl, _, _, rfl, rfl, .inl ⟨by omega, by omega⟩, _, by rw [upd_ne nDT]; exact hD1, ?_, ?_⟩
      · rw [List.length_map, List.length_take, ter_len hl]
        exact len_le (by omega)
      · refine ⟨same_set (sm.trans (same_new nT)) hD, ?_⟩
        rw [upd_same, List.take_add_one, ter_get hx hy, List.map_append]
        rfl
    · rintro H1 ⟨sm, hD1⟩
      rw [List.length_map, List.length_map, ← hl, Nat.min_self, ← ter_len (f := fMul) hl, List.take_of_length_le (Nat.le_refl _)] at hD1
      exact ⟨D, _, rfl, SqL.of hD1, q H1 sm⟩
def sp_distance (T : Txt w K mg) : Sp := fun vs H Q _ => ∃ (a b : Addr) (xs ys : List Int), vs = [.ref a, .ref b] ∧ (SqT K H a (xs.map V.int)) ∧ (SqT K H b (ys.map V.int)) ∧ (xs.length = ys.length) ∧ (xs.length ≤ 1000) ∧ (Bd 1000000000000 xs) ∧ (Bd 1000000000000 ys) ∧ ∀ H', Same H H' → Q (.int (ter fSq xs ys).sum) H'
set_option maxHeartbeats 4000000 in
theorem ok_distance (T : Txt w K mg) : FnOk P w K mg base CX0 1 T.f_distance T.d_distance ["a", "b"] (sp_distance T) := by
  refine T.F_distance.ok sc_distance (fun vs H Q E h => ?_) (fun cdv A outer s H vs Q E hr h => ?_)
  · obtain ⟨a, b, xs, ys, rfl, _⟩ := h
    rfl
  · obtain ⟨a, b, xs, ys, rfl, ha, hb, hl, h1, bx, by_, q⟩ := h
    refine ⟨_, (pss_one (ps_ret (pe_callB (cr_sum rfl) (by rfl) T.m_sum (by decide +kernel) (pa_cons (pe_lc (own := [("x", 2), ("y", 3)]) (g := gTup K 2 (gCons (gName 2) (gCons (gName 3) gNil))) rfl sc_distance.nd (RZ.pi_zipA (by rfl) T.m_zip (pa_cons (pv 0) (pa_cons (pv 1) pa_nil))) (blkOk_by (own := [("x", 2), ("y", 3)]) (N := ["a", "b", "x", "y"]) (sc := defScope s_distance) (by decide +kernel)) (fun _ _ _ _ _ => (by exact (pg_tup rfl (pgs_cons (pg_name (i := 2) sc_distance.nd rfl (Or.inl rfl)) (pgs_cons (pg_name (i := 3) sc_distance.nd rfl (Or.inl rfl)) pgs_nil))))) (fun _ _ _ _ _ => pts_nil) (fun _ _ _ _ _ => (pe_op op_mul (pe_op op_sub (pv 2) (pv 3)) (pe_op op_sub (pv 2) (pv 3))))) pa_nil)))), ?_⟩
    refine ⟨_, rfl, _, rfl, a, b, xs.map V.int, ys.map V.int, rfl, .inr ⟨ha, hb, fun D hD => ?_⟩⟩
    refine lc_it (walk_zipT (K := K) (a := a) (b := b) (xs := xs.map V.int) (ys := ys.map V.int)) (fun i H' => Same H H' ∧ H' D = some (.lst (((ter fSq xs ys).take i).map V.int))) ⟨same_new hD, by rw [upd_same]; rfl⟩ (fun i H' _ h => ⟨h.1.seqT ha, h.1.seqT hb⟩) ?_ ?_
    · rintro i v H1 H2 hi ⟨sm, hD1⟩ ⟨T, x1, x2, rfl, nT, rfl, g1, g2⟩
      obtain ⟨x, rfl, hx⟩ := get_map g1
      obtain ⟨y, rfl, hy⟩ := get_map g2
      have bX := bx.at hx
      have bY := by_.at hy
      have nDT : D ≠ T := ne_of_none hD1 nT
      refine ⟨T, [.int x, .int y], rfl, .inl (.inl upd_same), rfl, _, _, rfl, _, _, rfl, rfl, rfl, ?_⟩
      refine ⟨_, rfl, _, rfl, _, _, rfl, rfl, _, rfl, _, rfl, _, _, rfl, rfl, _, _, rfl, rfl, .inl ⟨by omega, by omega⟩, _, by rw [upd_ne nDT]; exact hD1, ?_, ?_⟩
      · rw [List.length_map, List.length_take, ter_len hl]
        exact len_le (by omega)
      · refine ⟨same_set (sm.trans (same_new nT)) hD, ?_⟩
        rw [upd_same, List.take_add_one, ter_get hx hy, List.map_append]
        rfl
    · rintro H1 ⟨sm, hD1⟩
      rw [List.length_map, List.length_map, ← hl, Nat.min_self, ← ter_len (f := fSq) hl, List.take_of_length_le (Nat.le_refl _)] at hD1
      exact ⟨D, _, rfl, SqL.of hD1, q H1 sm⟩
def sp_differing (T : Txt w K mg) : Sp := fun vs H Q _ => ∃ (a b : Addr) (xs ys : List Int), vs = [.ref a, .ref b] ∧ (SqT K H a (xs.map V.int)) ∧ (SqT K H b (ys.map V.int)) ∧ (xs.length = ys.length) ∧ (xs.length ≤ 1000) ∧ (Bd 1000000000000 xs) ∧ (Bd 1000000000000 ys) ∧ ∀ H', Same H H' → Q (.int (ter fNe xs ys).sum) H'
set_option maxHeartbeats 4000000 in
theorem ok_differing (T : Txt w K mg) : FnOk P w K mg base CX0 1 T.f_differing T.d_differing ["a", "b"] (sp_differing T) := by
  refine T.F_differing.ok sc_differing (fun vs H Q E h => ?_) (fun cdv A outer s H vs Q E hr h => ?_)
  · obtain ⟨a, b, xs, ys, rfl, _⟩ := h
    rfl
  · obtain ⟨a, b, xs, ys, rfl, ha, hb, hl, h1, bx, by_, q⟩ := h
    refine ⟨_, (pss_one (ps_ret (pe_callB call_len_seq (by rfl) T.m_len PySem.boot_len (pa_cons (pe_lc (own := [("x", 2), ("y", 3)]) (g := gTup K 2 (gCons (gName 2) (gCons (gName 3) gNil))) rfl sc_differing.nd (RZ.pi_zipA (by rfl) T.m_zip (pa_cons (pv 0) (pa_cons (pv 1) pa_nil))) (blkOk_by (own := [("x", 2), ("y", 3)]) (N := ["a", "b", "x", "y"]) (sc := defScope s_differing) (by decide +kernel)) (fun _ _ _ _ _ => (by exact (pg_tup rfl (pgs_cons (pg_name (i := 2) sc_differing.nd rfl (Or.inl rfl)) (pgs_cons (pg_name (i := 3) sc_differing.nd rfl (Or.inl rfl)) pgs_nil))))) (fun _ _ _ _ _ => (by exact pts_one (pt_cmpR op_ne (pv 2) (pv 3) (nomark _)))) (fun _ _ _ _ _ => pe_bl)) pa_nil)))), ?_⟩
    refine ⟨_, rfl, _, rfl, a, b, xs.map V.int, ys.map V.int, rfl, .inr ⟨ha, hb, fun D hD => ?_⟩⟩
    refine lc_it (walk_zipT (K := K) (a := a) (b := b) (xs := xs.map V.int) (ys := ys.map V.int)) (fun i H' => Same H H' ∧ ∃ acc : List V, H' D = some (.lst acc) ∧ acc.length ≤ i ∧ (acc.length : Int) = ((ter fNe xs ys).take i).sum) ⟨same_new hD, [], upd_same, Nat.le_refl 0, rfl⟩ (fun i H' _ h => ⟨h.1.seqT ha, h.1.seqT hb⟩) ?_ ?_
    · rintro i v H1 H2 hi ⟨sm, acc, hD1, l1, l2⟩ ⟨T, x1, x2, rfl, nT, rfl, g1, g2⟩
      obtain ⟨x, rfl, hx⟩ := get_map g1
      obtain ⟨y, rfl, hy⟩ := get_map g2
      have nDT : D ≠ T := ne_of_none hD1 nT
      rw [List.length_map, List.length_map, ← hl, Nat.min_self] at hi
      have st := sum_take (ter_get (f := fNe) hx hy)
      refine ⟨T, [.int x, .int y], rfl, .inl (.inl upd_same), rfl, _, _, rfl, _, _, rfl, rfl, rfl, ?_⟩
      refine ⟨_, rfl, _, rfl, rfl, _, rfl, ?_⟩
      by_cases e : x = y
      · have z : fNe x y = 0 := by unfold fNe; rw [if_pos e]
        rw [decide_eq_true (congrArg V.int e)]
        refine iteF ?_
        exact ⟨sm.trans (same_new nT), acc, by rw [upd_ne nDT]; exact hD1, by omega, by omega⟩
      · have z : fNe x y = 1 := by unfold fNe; rw [if_neg e]
        rw [decide_eq_false (fun h => e (V.int.inj h))]
        refine iteT ?_
        refine ⟨acc, by rw [upd_ne nDT]; exact hD1, len_le (by omega), same_set (sm.trans (same_new nT)) hD, acc ++ [.bl true], upd_same, by simp; omega, by simp; omega⟩
    · rintro H1 ⟨sm, acc, hD1, l1, l2⟩
      rw [List.length_map, List.length_map, ← hl, Nat.min_self, ← ter_len (f := fNe) hl, List.take_of_length_le (Nat.le_refl _)] at l2
      refine ⟨D, acc, rfl, .inl (SqL.of hD1), ?_⟩
      rw [l2]
      exact q H1 sm
def sp_is_letter (T : Txt w K mg) : Sp := fun vs H Q _ => ∃ (c : Nat), vs = [.str ⟨#[c]⟩] ∧ Q (.bl (isLet c)) H
set_option maxHeartbeats 4000000 in
theorem ok_is_letter (T : Txt w K mg) : FnOk P w K mg base CX0 1 T.f_is_letter T.d_is_letter ["char"] (sp_is_letter T) := by
  refine T.F_is_letter.ok sc_is_letter (fun vs H Q E h => ?_) (fun cdv A outer s H vs Q E hr h => ?_)
  · obtain ⟨c, rfl, _⟩ := h
    rfl
  · obtain ⟨c, rfl, q⟩ := h
    refine ⟨_, (pss_one (ps_ret (pe_or (pe_chain op_le_str op_le_str pe_str (pv 0) pe_str) (pe_or (pe_chain op_le_str op_le_str pe_str (pv 0) pe_str) (pe_one (pe_cmpR op_eq (pv 0) pe_str (nomark _))))))), ?_⟩
    have fin : ∀ b, b = isLet c → Q (.bl b) H := fun b e => by rw [e]; exact q
    refine ⟨_, rfl, _, _, rfl, rfl, _, congrArg V.bl (le_lo c 97 rfl), ?_⟩
    by_cases h1 : c < 97
    · rw [decide_eq_true h1]
      refine iteF ⟨false, rfl, iteF ?_⟩
      refine ⟨_, rfl, _, _, rfl, rfl, _, congrArg V.bl (le_lo c 65 rfl), ?_⟩
      by_cases h3 : c < 65
      · rw [decide_eq_true h3]
        refine iteF ⟨false, rfl, iteF ?_⟩
        have e := fin (decide (c = 95)) (by unfold isLet; simp_all)
        rw [← one_eq c 95] at e
        exact ⟨_, rfl, rfl, e⟩
      · rw [decide_eq_false h3]
        refine iteT ⟨_, _, rfl, rfl, _, congrArg V.bl (le_hi c 90 rfl), ?_⟩
        by_cases h4 : 90 < c
        · rw [decide_eq_true h4]
          refine iteF ?_
          have e := fin (decide (c = 95)) (by unfold isLet; simp_all)
          rw [← one_eq c 95] at e
          exact ⟨_, rfl, rfl, e⟩
        · rw [decide_eq_false h4]
          exact iteT (fin true (by unfold isLet; simp_all))
    · rw [decide_eq_false h1]
      refine iteT ⟨_, _, rfl, rfl, _, congrArg V.bl (le_hi c 122 rfl), ?_⟩
      by_cases h2 : 122 < c
      · rw [decide_eq_true h2]
        refine iteF ?_
        refine ⟨_, rfl, _, _, rfl, rfl, _, congrArg V.bl (le_lo c 65 rfl), ?_⟩
        by_cases h3 : c < 65
        · rw [decide_eq_true h3]
          refine iteF ⟨false, rfl, iteF ?_⟩
          have e := fin (decide (c = 95)) (by unfold isLet; simp_all)
          rw [← one_eq c 95] at e
          exact ⟨_, rfl, rfl, e⟩
        · rw [decide_eq_false h3]
          refine iteT ⟨_, _, rfl, rfl, _, congrArg V.bl (le_hi c 90 rfl), ?_⟩
          by_cases h4 : 90 < c
          · rw [decide_eq_true h4]
            refine iteF ?_
            have e := fin (decide (c = 95)) (by unfold isLet; simp_all)
            rw [← one_eq c 95] at e
            exact ⟨_, rfl, rfl, e⟩
          · rw [decide_eq_false h4]
            exact iteT (fin true (by unfold isLet; simp_all))
      · rw [decide_eq_false h2]
        exact iteT (fin true (by unfold isLet; simp_all))
def sp_is_digit (T : Txt w K mg) : Sp := fun vs H Q _ => ∃ (c : Nat), vs = [.str ⟨#[c]⟩] ∧ Q (.bl (isDig c)) H
set_option maxHeartbeats 4000000 in
theorem ok_is_digit (T : Txt w K mg) : FnOk P w K mg base CX0 1 T.f_is_digit T.d_is_digit ["char"] (sp_is_digit T) := by
  refine T.F_is_digit.ok sc_is_digit (fun vs H Q E h => ?_) (fun cdv A outer s H vs Q E hr h => ?_)
  · obtain ⟨c, rfl, _⟩ := h
    rfl
  · obtain ⟨c, rfl, q⟩ := h
    refine ⟨_, (pss_one (ps_ret (pe_chain op_le_str op_le_str pe_str (pv 0) pe_str))), ?_⟩
    have fin : ∀ b, b = isDig c → Q (.bl b) H := fun b e => by rw [e]; exact q
    refine ⟨_, rfl, _, _, rfl, rfl, _, congrArg V.bl (le_lo c 48 rfl), ?_⟩
    by_cases h1 : c < 48
    · rw [decide_eq_true h1]
      exact iteF (fin false (by unfold isDig; simp_all))
    · rw [decide_eq_false h1]
      refine iteT ⟨_, _, rfl, rfl, ?_⟩
      have e := fin (!decide (57 < c)) (by unfold isDig; simp_all)
      rw [← le_hi c 57 (z := "9") rfl] at e
      exact e
def sp_is_word (T : Txt w K mg) : Sp := fun vs H Q _ => ∃ (z : Str), vs = [.str z] ∧ (z.length ≤ 1000) ∧ ∀ H', Same H H' → Q (.bl (isWordS z)) H'
set_option maxHeartbeats 4000000 in
theorem ok_is_word (T : Txt w K mg) : FnOk P w K mg base CX0 2 T.f_is_word T.d_is_word ["text"] (sp_is_word T) := by
  have G_is_digit : FnOk P w K mg base CX0 1 T.f_is_digit T.d_is_digit ["char"] (sp_is_digit T) := ok_is_digit T
  have G_is_letter : FnOk P w K mg base CX0 1 T.f_is_letter T.d_is_letter ["char"] (sp_is_letter T) := ok_is_letter T
  refine T.F_is_word.ok sc_is_word (fun vs H Q E h => ?_) (fun cdv A outer s H vs Q E hr h => ?_)
  · obtain ⟨z, rfl, _⟩ := h
    rfl
  · obtain ⟨z, rfl, hz, q⟩ := h
    refine ⟨_, (pss_cons (ps_if (PW.pt (pw_or (pt_cmpR op_eq (pv 0) pe_str (nomark _)) (pw_or1 (pt_not (pt_val (pe_call G_is_letter (hr.mono (by decide)) (by rfl) T.g_is_letter T.F_is_letter.kp T.b_is_letter .nil pass0 (pa_cons (pe_ix ix_str (pv 0) pe_int (fun _ _ => rfl)) pa_nil))))))) (pss_one (ps_ret pe_bl)) pss_nil) 
      (pss_one (ps_ret (pe_callB (cr_all rfl) (by rfl) T.m_all (by decide +kernel) (pa_cons (pe_lc (own := [("char", 1)]) (g := gName 1) rfl sc_is_word.nd (pi_str (pv 0)) (blkOk_by (own := [("char", 1)]) (N := ["text", "char"]) (sc := defScope s_is_word) (by decide +kernel)) (fun _ _ _ _ _ => (pg_name (i := 1) sc_is_word.nd rfl (Or.inl rfl))) (fun _ _ _ _ _ => pts_nil) (fun _ _ _ _ _ => (pe_or (pe_call G_is_letter (hr.mono (by decide)) (by rfl) T.g_is_letter T.F_is_letter.kp T.b_is_letter .nil pass0 (pa_cons (pv 1) pa_nil)) (pe_one (pe_call G_is_digit (hr.mono (by decide)) (by rfl) T.g_is_digit T.F_is_digit.kp T.b_is_digit .nil pass0 (pa_cons (pv 1) pa_nil)))))) pa_nil))))), ?_⟩
    have ez : z.cps.toList.length = z.length := by simp [Str.length]
    cases el : z.cps.toList with
    | nil =>
      have e : z = "" := by
        have : z.cps = #[] := by simpa using el
        cases z
        simp_all
        rfl
      have f := q H (Same.refl _)
      have g : isWordS z = false := by unfold isWordS; rw [el]; rfl
      rw [g] at f
      exact ⟨_, rfl, rfl, _, rfl, ite2 (fun _ => f) (fun no => absurd (decide_eq_true (congrArg V.str e)) no)⟩
    | cons c r =>
      have e : ¬ z = "" := fun h => by
        rw [h] at el
        cases el
      have w : isWordS z = (isLet c && (c :: r).all fun x => isLet x || isDig x) := by unfold isWordS; rw [el]; rfl
      refine ⟨_, rfl, rfl, _, rfl, ite2 (fun yes => absurd (V.str.inj (of_decide_eq_true yes)) e) (fun _ => ?_)⟩
      refine ⟨_, rfl, _, _, c, rfl, rfl, Nat.le_trans hz (by decide), by rw [el]; exact (show atI (c :: r) ((0 : Nat) : Int) = some c from atI_nat rfl), c, rfl, ?_⟩
      cases hc : isLet c with
      | false =>
        rw [hc, Bool.false_and] at w
        have f := q H (Same.refl _)
        rw [w] at f
        exact ⟨false, rfl, iteT f⟩
      | true =>
        rw [hc, Bool.true_and] at w
        refine ⟨true, rfl, iteF ?_⟩
        refine ⟨_, rfl, z, rfl, fun D hD => ?_⟩
        refine lc_it walk_str (fun i H' => Same H H' ∧ H' D = some (.lst (((z.cps.toList.take i).map fun x => isLet x || isDig x).map V.bl))) ⟨same_new hD, upd_same⟩ (fun i H' _ h => trivial) ?_ ?_
        · rintro i v H1 H2 hi ⟨sm, hD1⟩ ⟨rfl, d, hd, rfl⟩
          have hd' : z.cps.toList[i]? = some d := by rw [Array.getElem?_toList]; exact hd
          have last : ∀ b, (isLet d || isDig d) = b → ∃ acc, H2 D = some (.lst acc) ∧ acc.length < sizeLine ∧ Same H (upd H2 D (.lst (acc ++ [V.bl b]))) ∧ (upd H2 D (.lst (acc ++ [V.bl b]))) D = some (.lst (((z.cps.toList.take (i + 1)).map fun x => isLet x || isDig x).map V.bl)) := fun b hb => by
            refine ⟨_, hD1, ?_, same_set sm hD, ?_⟩
            · rw [List.length_map, List.length_map, List.length_take]
              exact len_le (by omega)
            · rw [upd_same, List.take_add_one, hd', ← hb]
              simp
          refine ⟨rfl, _, rfl, d, rfl, isLet d, rfl, ?_⟩
          cases hl : isLet d with
          | true => exact iteT (last true (by rw [hl]; rfl))
          | false => exact iteF ⟨_, rfl, d, rfl, last (isDig d) (by rw [hl]; rfl)⟩
        · rintro H1 ⟨sm, hD1⟩
          rw [show z.cps.size = z.cps.toList.length by simp, List.take_length] at hD1
          refine ⟨D, _, rfl, SqL.of hD1, ?_⟩
          have f := q H1 sm
          rw [w, ← el] at f
          rw [List.all_map]
          exact f
def sp_check_vectors (T : Txt w K mg) : Sp := fun vs H Q E => ∃ (n : Int) (w m : Str), vs = [.int n, .str w, .str m] ∧ (w ∈ WIDE3 ∨ w = "huge") ∧ (vecGood n w m → Q .non H) ∧ (¬ vecGood n w m → E (.ref T.c_InvalidSchema) none H)
set_option maxHeartbeats 4000000 in
theorem ok_check_vectors (T : Txt w K mg) : FnOk P w K mg base (L2.CX P w) 1 T.f_check_vectors T.d_check_vectors ["size", "width", "measure"] (sp_check_vectors T) := by
  refine T.F_check_vectors.okX sc_check_vectors (fun vs H Q E h => ?_) (fun cdv A outer s H vs Q E hr h => ?_)
  · obtain ⟨n, w, m, rfl, _⟩ := h
    rfl
  · obtain ⟨n, w, m, rfl, hw, q⟩ := h
    refine ⟨_, (pss_cons (ps_if (pt_cmpR op_lt (pv 0) pe_int (nomark _)) (pss_one (ps_raise rfl (takes_of rfl rfl rfl rfl) (pmk_own PySem.F.excBase_ValueError T.x_InvalidSchema T.mc_InvalidSchema T.kp_InvalidSchema (raises_own T.xb_InvalidSchema T.xt_InvalidSchema) rfl))) pss_nil) 
      (pss_cons (ps_if (pt_cmpR (op_notIn_kd T.kd_WIDTHS) (pv 1) (pe_glob (v := .ref T.a_WIDTHS) rfl T.m_WIDTHS rfl) rfl) (pss_one (ps_raise rfl (takes_of rfl rfl rfl rfl) (pmk_own PySem.F.excBase_ValueError T.x_InvalidSchema T.mc_InvalidSchema T.kp_InvalidSchema (raises_own T.xb_InvalidSchema T.xt_InvalidSchema) rfl))) pss_nil) 
      (pss_cons (ps_if (pt_cmpR op_notIn_seq (pv 2) (pe_glob (v := .ref T.a_MEASURES) rfl T.m_MEASURES rfl) rfl) (pss_one (ps_raise rfl (takes_of rfl rfl rfl rfl) (pmk_own PySem.F.excBase_ValueError T.x_InvalidSchema T.mc_InvalidSchema T.kp_InvalidSchema (raises_own T.xb_InvalidSchema T.xt_InvalidSchema) rfl))) pss_nil) 
      (pss_one (ps_if (PW.pt (pw_and (pt_cmpR op_eq (pv 2) pe_str (nomark _)) (pw_and1 (pt_cmpR op_ne (pv 1) pe_str (nomark _))))) (pss_one (ps_raise rfl (takes_of rfl rfl rfl rfl) (pmk_own PySem.F.excBase_ValueError T.x_InvalidSchema T.mc_InvalidSchema T.kp_InvalidSchema (raises_own T.xb_InvalidSchema T.xt_InvalidSchema) rfl))) pss_nil))))), ?_⟩
    obtain ⟨q1, q2⟩ := q
    refine ⟨_, rfl, _, _, rfl, rfl, _, rfl, ite2 (fun e => ?_) (fun e => ?_)⟩
    · have c : n < 1 := of_decide_eq_true e
      exact q2 fun g => by have := g.1; omega
    have n1 : ¬ n < 1 := fun h => e (decide_eq_true h)
    have after : w ∈ WIDE3 → (∃ r, PySem.W.nsIn K T.a_WIDTHS w = some (some r)) := fun h => by
      unfold WIDE3 at h
      simp only [List.mem_cons, List.not_mem_nil, or_false] at h
      rcases h with rfl | rfl | rfl
      · exact ⟨_, T.ns_WIDTHS_bit⟩
      · exact ⟨_, T.ns_WIDTHS_small⟩
      · exact ⟨_, T.ns_WIDTHS_wide⟩
    rcases hw with hw | rfl
    rotate_left
    · refine ⟨_, rfl, _, none, rfl, rfl, T.ns_WIDTHS_huge, true, rfl, iteT ?_⟩
      exact q2 fun g => absurd g.2.1 (by decide +kernel)
    obtain ⟨r, hr_⟩ := after hw
    refine ⟨_, rfl, _, some r, rfl, rfl, hr_, false, rfl, iteF ?_⟩
    refine ⟨_, rfl, T.a_MEASURES, (MEAS3.map V.str), rfl, .inr (T.sq_MEASURES _), rfl, flat_strsV _, ?_⟩
    show ∃ k, V.bl (!inV (.str m) (MEAS3.map V.str)) = .bl k ∧ _
    rw [inV_strs]
    refine ⟨_, rfl, ite2 (fun e2 => ?_) (fun e2 => ?_)⟩
    · have c : m ∉ MEAS3 := by simpa using e2
      exact q2 fun g => c g.2.2.1
    have hm : m ∈ MEAS3 := by simpa using e2
    refine ⟨_, rfl, rfl, _, rfl, ite2 (fun e3 => ?_) (fun e3 => ?_)⟩
    · have c : m = "bits" := V.str.inj (of_decide_eq_true e3)
      refine ⟨_, rfl, rfl, _, rfl, ?_⟩
      by_cases hwb : w = "bit"
      · rw [decide_eq_true (congrArg V.str hwb)]
        exact iteF (q1 ⟨by omega, hw, hm, fun z => z.2 hwb⟩)
      · rw [decide_eq_false (fun z => hwb (V.str.inj z))]
        exact iteT (q2 fun g => g.2.2.2 ⟨c, hwb⟩)
    · have c : ¬ m = "bits" := fun z => e3 (decide_eq_true (congrArg V.str z))
      exact q1 ⟨by omega, hw, hm, fun z => c z.1⟩
def sp_check_fields (T : Txt w K mg) : Sp := fun vs H Q E => ∃ (tf : Addr) (fs : List (Str × Str)), vs = [.ref tf] ∧ (Dt [] H (.ref tf) (.tuple (fs.map fdD))) ∧ (fs.length ≤ 1000) ∧ (∀ f ∈ fs, f.1.length ≤ 1000) ∧ (fieldsGood fs → ∀ H', Same H H' → Q .non H') ∧ (¬ fieldsGood fs → ∀ H', Same H H' → E (.ref T.c_InvalidSchema) none H')
set_option maxHeartbeats 8000000 in
theorem ok_check_fields (T : Txt w K mg) : FnOk P w K mg base (L2.CX P w) 3 T.f_check_fields T.d_check_fields ["fields"] (sp_check_fields T) := by
  have G_is_word : FnOk P w K mg base CX0 2 T.f_is_word T.d_is_word ["text"] (sp_is_word T) := ok_is_word T
  refine T.F_check_fields.okX sc_check_fields (fun vs H Q E h => ?_) (fun cdv A outer s H vs Q E hr h => ?_)
  · obtain ⟨tf, fs, rfl, _⟩ := h
    rfl
  · obtain ⟨tf, fs, rfl, xf, lf, ln, q⟩ := h
    refine ⟨_, (pss_cons (ps_for (passes_of rfl) rfl (pi_tup (pv 0)) (pg_tup rfl (pgs_cons (pg_name (i := 1) sc_check_fields.nd rfl (.inl rfl)) (pgs_cons (pg_name (i := 2) sc_check_fields.nd rfl (.inl rfl)) pgs_nil))) (pss_cons (ps_if (PW.pt (pw_or (pt_not (pt_val (pe_call G_is_word (hr.mono (by decide)) (by rfl) T.g_is_word T.F_is_word.kp T.b_is_word .nil pass0 (pa_cons (pv 1) pa_nil)))) (pw_or1 (pt_cmpR op_in_seq (pv 1) (pe_glob (v := .ref T.a_RESERVED) rfl T.m_RESERVED rfl) rfl)))) (pss_one (ps_raise rfl (takes_of rfl rfl rfl rfl) (pmk_own PySem.F.excBase_ValueError T.x_InvalidSchema T.mc_InvalidSchema T.kp_InvalidSchema (raises_own T.xb_InvalidSchema T.xt_InvalidSchema) rfl))) pss_nil) 
      (pss_one (ps_if (pt_cmpR op_notIn_seq (pv 2) (pe_glob (v := .ref T.a_KINDS) rfl T.m_KINDS rfl) rfl) (pss_one (ps_raise rfl (takes_of rfl rfl rfl rfl) (pmk_own PySem.F.excBase_ValueError T.x_InvalidSchema T.mc_InvalidSchema T.kp_InvalidSchema (raises_own T.xb_InvalidSchema T.xt_InvalidSchema) rfl))) pss_nil)))) 
      (pss_one (ps_if (pt_cmpR op_lt (pe_lenSetT rfl (by rfl) T.m_len (by rfl) T.m_set (pe_lc (own := [("name", 1), ("_", 3)]) (g := gTup K 2 (gCons (gName 1) (gCons (gName 3) gNil))) rfl sc_check_fields.nd (pi_tup (pv 0)) (blkOk_by (own := [("name", 1), ("_", 3)]) (N := ["fields", "name", "kind", "_"]) (sc := defScope s_check_fields) (by decide +kernel)) (fun _ _ _ _ _ => (by exact (pg_tup rfl (pgs_cons (pg_name (i := 1) sc_check_fields.nd rfl (Or.inl rfl)) (pgs_cons (pg_name (i := 3) sc_check_fields.nd rfl (Or.inl rfl)) pgs_nil))))) (fun _ _ _ _ _ => pts_nil) (fun _ _ _ _ _ => (pv 1)))) (pe_callB call_len_seq (by rfl) T.m_len PySem.boot_len (pa_cons (pv 0) pa_nil)) (nomark _)) (pss_one (ps_raise rfl (takes_of rfl rfl rfl rfl) (pmk_own PySem.F.excBase_ValueError T.x_InvalidSchema T.mc_InvalidSchema T.kp_InvalidSchema (raises_own T.xb_InvalidSchema T.xt_InvalidSchema) rfl))) pss_nil))), ?_⟩
    obtain ⟨q1, q2⟩ := q
    obtain ⟨tf', vf, ef, _, gf, tt⟩ := xf.isT
    cases ef
    have lv := tt.length
    rw [List.length_map] at lv
    refine ⟨_, rfl, tf, rfl, ⟨_, SqT.of gf⟩, ?_⟩
    refine for_tup (K := K) (a := tf) (xs := vf) (fun i σ H' => Same H H' ∧ (∀ f ∈ fs.take i, fGood f) ∧ ∃ x1 x2, σ = [some (.ref tf), x1, x2, none]) ⟨Same.refl _, fun f h => by simp at h, none, none, rfl⟩ (fun i σ H' _ h => SqT.of (h.1 _ _ gf)) ?_ ?_
    · rintro i v σ H1 hi ⟨s1, good, x1, x2, rfl⟩
      obtain ⟨d, ed, xd⟩ := tt.get hi
      rw [List.getElem?_map] at ed
      cases ep : fs[i]? with
      | none =>
        rw [ep] at ed
        cases ed
      | some f =>
        rw [ep] at ed
        have := Option.some.inj ed
        subst this
        obtain ⟨t, w, rfl, _, et, xw⟩ := xd.isP
        rw [xw.isS] at et
        have mf := List.mem_of_getElem? ep
        refine ⟨t, _, rfl, SqT.of (s1 _ _ et), rfl, _, _, rfl, _, _, rfl, rfl, ?_⟩
        refine ⟨_, rfl, f.1, rfl, ln f mf, fun H2 s2 => ⟨isWordS f.1, rfl, ?_⟩⟩
        have s12 := s1.trans s2
        cases hw : isWordS f.1 with
        | false => exact iteT (q2 (fun g => by have := (g.1 f mf).1; rw [hw] at this; cases this) H2 s12)
        | true =>
          refine iteF ⟨_, rfl, T.a_RESERVED, (RESV.map V.str), rfl, .inr (T.sq_RESERVED _), rfl, flat_strsV _, ?_⟩
          show ∃ k, V.bl (inV (.str f.1) (RESV.map V.str)) = .bl k ∧ _
          rw [inV_strs]
          refine ⟨_, rfl, ite2 (fun e2 => ?_) (fun e2 => ?_)⟩
          · exact q2 (fun g => (g.1 f mf).2.1 (of_decide_eq_true e2)) H2 s12
          have hr2 : f.1 ∉ RESV := fun z => e2 (decide_eq_true z)
          refine ⟨_, rfl, T.a_KINDS, (KIND3.map V.str), rfl, .inr (T.sq_KINDS _), rfl, flat_strsV _, ?_⟩
          show ∃ k, V.bl (!inV (.str f.2) (KIND3.map V.str)) = .bl k ∧ _
          rw [inV_strs]
          refine ⟨_, rfl, ite2 (fun e3 => ?_) (fun e3 => ?_)⟩
          · have c : f.2 ∉ KIND3 := by simpa using e3
            exact q2 (fun g => c (g.1 f mf).2.2) H2 s12
          · have c : f.2 ∈ KIND3 := by simpa using e3
            refine ⟨s12, fun g hg => ?_, _, _, rfl⟩
            rw [List.take_add_one, ep] at hg
            rcases List.mem_append.mp hg with h | h
            · exact good g h
            · simp at h
              subst h
              exact ⟨hw, hr2, c⟩
    rintro σ H1 ⟨s1, good, x1, x2, rfl⟩
    rw [lv, List.take_length] at good
    refine ⟨_, rfl, tf, rfl, ⟨_, SqT.of (s1 _ _ gf)⟩, fun D hD => ?_⟩
    refine lc_tup (K := K) (a := tf) (xs := vf) (fun i H' => Same H1 H' ∧ H' D = some (.lst (((fs.take i).map (·.1)).map V.str))) ⟨same_new hD, upd_same⟩ (fun i H' _ h => SqT.of (h.1 _ _ (s1 _ _ gf))) ?_ ?_
    · rintro i v H2 hi ⟨sm, hD1⟩
      obtain ⟨d, ed, xd⟩ := tt.get hi
      rw [List.getElem?_map] at ed
      cases ep : fs[i]? with
      | none =>
        rw [ep] at ed
        cases ed
      | some f =>
        rw [ep] at ed
        have := Option.some.inj ed
        subst this
        obtain ⟨t, w, rfl, _, et, xw⟩ := xd.isP
        refine ⟨t, _, rfl, SqT.of (sm _ _ (s1 _ _ et)), rfl, _, _, rfl, _, _, rfl, rfl, rfl, _, rfl, _, hD1, ?_, same_set sm hD, ?_⟩
        · rw [List.length_map, List.length_map, List.length_take]
          exact len_le (by omega)
        · rw [upd_same, List.take_add_one, ep]
          simp
    rintro H2 ⟨sm, hD1⟩
    rw [lv, List.take_length] at hD1
    refine ⟨D, fs.map (·.1), rfl, SqL.of hD1, by rw [List.length_map]; exact lf, _, rfl, tf, _, rfl, .inr (SqT.of (sm _ _ (s1 _ _ gf))), _, _, rfl, rfl, _, rfl, ite2 (fun e => ?_) (fun e => ?_)⟩
    · have c : (((uS (fs.map (·.1))).length : Nat) : Int) < ((vf.length : Nat) : Int) := of_decide_eq_true e
      refine q2 (fun g => ?_) H2 (s1.trans sm)
      have := (uS_nodup _).mpr g.2
      rw [List.length_map] at this
      omega
    · have c : ¬ (((uS (fs.map (·.1))).length : Nat) : Int) < ((vf.length : Nat) : Int) := fun h => e (decide_eq_true h)
      refine q1 ⟨good, (uS_nodup _).mp ?_⟩ H2 (s1.trans sm)
      have := uS_le (fs.map (·.1))
      rw [List.length_map] at this ⊢
      omega
def sp_Schema___init__ (T : Txt w K mg) : Sp := fun vs H Q E => ∃ (p dx pf : Addr) (n : Int) (w m : Str) (fv : List V) (fs : List (Str × Str)), vs = [.ref p, .int n, .str w, .str m, .ref pf] ∧ (H p = some (.ins T.c_Schema dx [])) ∧ (SqL K H pf fv) ∧ (Dts [] H fv (fs.map fdD)) ∧ (fv.length ≤ 1000) ∧ (∀ f ∈ fs, f.1.length ≤ 1000) ∧ (w ∈ WIDE3 ∨ w = "huge") ∧ ((vecGood n w m ∧ fieldsGood fs) → ∀ H', SchAt [] T.c_Schema H' p n w m fs → (∀ b o, H b = some o → b ≠ p → H' b = some o) → Q .non H') ∧ (¬ (vecGood n w m ∧ fieldsGood fs) → ∀ H', (∀ b o, H b = some o → b ≠ p → H' b = some o) → E (.ref T.c_InvalidSchema) none H')
set_option maxHeartbeats 8000000 in
theorem ok_Schema___init__ (T : Txt w K mg) : FnOk P w K mg base (L2.CX P w) 4 T.f_Schema___init__ T.d_Schema___init__ ["self", "size", "width", "measure", "fields"] (sp_Schema___init__ T) := by
  have G_check_fields : FnOk P w K mg base (L2.CX P w) 3 T.f_check_fields T.d_check_fields ["fields"] (sp_check_fields T) := ok_check_fields T
  have G_check_vectors : FnOk P w K mg base (L2.CX P w) 1 T.f_check_vectors T.d_check_vectors ["size", "width", "measure"] (sp_check_vectors T) := ok_check_vectors T
  refine T.F_Schema___init__.ok sc_Schema___init__ (fun vs H Q E h => ?_) (fun cdv A outer s H vs Q E hr h => ?_)
  · obtain ⟨p, dx, pf, n, w, m, fv, fs, rfl, _⟩ := h
    rfl
  · obtain ⟨p, dx, pf, n, w, m, fv, fs, rfl, hp, hf, tf, lf, ln, hw, q⟩ := h
    refine ⟨_, (pss_cons (ps_fld (pv 0) (pv 1) rfl) 
      (pss_cons (ps_fld (pv 0) (pv 2) rfl) 
      (pss_cons (ps_fld (pv 0) (pv 3) rfl) 
      (pss_cons (ps_fld (pv 0) (pe_callTy call_tuple_of (by rfl) T.m_tuple (by decide +kernel) (pa_cons (pe_lc (own := [("pair", 5)]) (g := gName 5) rfl sc_Schema___init__.nd (pi_list (pv 4)) (blkOk_by (own := [("pair", 5)]) (N := ["self", "size", "width", "measure", "fields", "pair"]) (sc := defScope s_Schema___init__) (by decide +kernel)) (fun _ _ _ _ _ => (pg_name (i := 5) sc_Schema___init__.nd rfl (Or.inl rfl))) (fun _ _ _ _ _ => pts_nil) (fun _ _ _ _ _ => (pe_callTy (r := rTupleB K) (by exact call_tuple_of) (by rfl) T.m_tuple (by decide +kernel) (pa_cons (pv 5) pa_nil)))) pa_nil)) rfl) 
      (pss_cons (ps_expr (pe_call G_check_vectors (hr.mono (by decide)) (by rfl) T.g_check_vectors T.F_check_vectors.kp T.b_check_vectors .nil (passes_call (takes_of rfl rfl rfl rfl) (fun _ _ _ _ h => h)) (pa_cons (pv 1) (pa_cons (pv 2) (pa_cons (pv 3) pa_nil))))) 
      (pss_one (ps_expr (pe_call G_check_fields (hr.mono (by decide)) (by rfl) T.g_check_fields T.F_check_fields.kp T.b_check_fields .nil (passes_call (takes_of rfl rfl rfl rfl) (fun _ _ _ _ h => h)) (pa_cons (pe_fld (pv 0) rfl) pa_nil))))))))), ?_⟩
    obtain ⟨q1, q2⟩ := q
    have lfs : fs.length ≤ 1000 := by
      have := tf.length
      rw [List.length_map] at this
      omega
    refine ⟨_, rfl, _, rfl, p, T.c_Schema, dx, _, rfl, hp, T.cl_Schema, T.n_Schema_size, Nat.lt_of_le_of_lt (Nat.le_refl 0) (by decide), ?_⟩
    refine ⟨_, rfl, _, rfl, p, T.c_Schema, dx, _, rfl, upd_same, T.cl_Schema, T.n_Schema_width, Nat.lt_of_le_of_lt (putF_le (Nat.le_refl 0)) (by decide), ?_⟩
    refine ⟨_, rfl, _, rfl, p, T.c_Schema, dx, _, rfl, upd_same, T.cl_Schema, T.n_Schema_measure, Nat.lt_of_le_of_lt (putF_le (putF_le (Nat.le_refl 0))) (by decide), ?_⟩
    have k3 : Keep H (upd (upd (upd H p (.ins T.c_Schema dx (putF "size" (.int n) []))) p (.ins T.c_Schema dx (putF "width" (.str w) (putF "size" (.int n) [])))) p (.ins T.c_Schema dx (putF "measure" (.str m) (putF "width" (.str w) (putF "size" (.int n) []))))) := ((Keep.ins hp).trans (Keep.ins upd_same)).trans (Keep.ins upd_same)
    have f3 : ∀ b o, H b = some o → b ≠ p → (upd (upd (upd H p (.ins T.c_Schema dx (putF "size" (.int n) []))) p (.ins T.c_Schema dx (putF "width" (.str w) (putF "size" (.int n) [])))) p (.ins T.c_Schema dx (putF "measure" (.str m) (putF "width" (.str w) (putF "size" (.int n) []))))) b = some o := fun b o e n => by
      rw [upd_ne n, upd_ne n, upd_ne n]
      exact e
    have p3 : (upd (upd (upd H p (.ins T.c_Schema dx (putF "size" (.int n) []))) p (.ins T.c_Schema dx (putF "width" (.str w) (putF "size" (.int n) [])))) p (.ins T.c_Schema dx (putF "measure" (.str m) (putF "width" (.str w) (putF "size" (.int n) []))))) p = some (.ins T.c_Schema dx (putF "measure" (.str m) (putF "width" (.str w) (putF "size" (.int n) [])))) := upd_same
    generalize upd (upd (upd H p (.ins T.c_Schema dx (putF "size" (.int n) []))) p (.ins T.c_Schema dx (putF "width" (.str w) (putF "size" (.int n) [])))) p (.ins T.c_Schema dx (putF "measure" (.str m) (putF "width" (.str w) (putF "size" (.int n) [])))) = H3 at k3 f3 p3 ⊢
    have tf3 := tf.keep k3
    have hf3 := k3.seq hf
    refine ⟨_, rfl, pf, rfl, ⟨_, hf3⟩, fun D hD => ?_⟩
    refine lc_list (K := K) (a := pf) (xs := fv) (fun i H' => Same H3 H' ∧ H' D = some (.lst (fv.take i))) ⟨same_new hD, by rw [upd_same]; rfl⟩ (fun i H' _ h => h.1.seq hf3) ?_ ?_
    · rintro i v H2 hi ⟨sm, hD1⟩
      obtain ⟨t, ws, rfl, et⟩ := Dts.refT (fun a => ⟨_, rfl⟩) tf3 hi
      refine ⟨rfl, _, rfl, t, ws, rfl, .inr ⟨SqT.of (sm _ _ et), _, hD1, ?_, same_set sm hD, ?_⟩⟩
      · rw [List.length_take]
        exact len_le (by omega)
      · rw [upd_same, List.take_add_one, hi]
        rfl
    rintro H4 ⟨sm, hD1⟩
    rw [List.take_length] at hD1
    refine ⟨D, _, rfl, .inl ⟨SqL.of hD1, fun t0 nt => ?_⟩⟩
    have s4 := sm.trans (same_new (o := .tup fv) nt)
    refine ⟨_, rfl, p, T.c_Schema, dx, _, rfl, s4 _ _ p3, T.cl_Schema, T.n_Schema_fields, Nat.lt_of_le_of_lt (putF_le (putF_le (putF_le (Nat.le_refl 0)))) (by decide), ?_⟩
    have ntp : t0 ≠ p := fun e => by
      have := sm _ _ p3
      rw [← e, nt] at this
      cases this
    have k4 := k3.trans ((Keep.same s4).trans (Keep.ins (o := .ins T.c_Schema dx (ff_Schema (.int n) (.str w) (.str m) (.ref t0))) (s4 _ _ p3)))
    have f4 : ∀ b o, H b = some o → b ≠ p → (upd (upd H4 t0 (.tup fv)) p (.ins T.c_Schema dx (ff_Schema (.int n) (.str w) (.str m) (.ref t0)))) b = some o := fun b o e n => by
      rw [upd_ne n]
      exact s4 _ _ (f3 _ _ e n)
    have x4 : (upd (upd H4 t0 (.tup fv)) p (.ins T.c_Schema dx (ff_Schema (.int n) (.str w) (.str m) (.ref t0)))) t0 = some (.tup fv) := by
      rw [upd_ne ntp]
      exact upd_same
    have p4 : (upd (upd H4 t0 (.tup fv)) p (.ins T.c_Schema dx (ff_Schema (.int n) (.str w) (.str m) (.ref t0)))) p = some (.ins T.c_Schema dx (ff_Schema (.int n) (.str w) (.str m) (.ref t0))) := upd_same
    show _
    generalize hH5 : upd (upd H4 t0 (.tup fv)) p (.ins T.c_Schema dx (ff_Schema (.int n) (.str w) (.str m) (.ref t0))) = H5 at k4 f4 x4 p4
    have hH5' : upd (upd H4 t0 (.tup fv)) p (.ins T.c_Schema dx (putF "fields" (.ref t0) (putF "measure" (.str m) (putF "width" (.str w) (putF "size" (.int n) []))))) = H5 := hH5
    rw [hH5']
    have xt : Dt [] H5 (.ref t0) (.tuple (fs.map fdD)) := .tup (fun z => by cases z) x4 (tf.keep k4)
    have S5 : SchAt [] T.c_Schema H5 p n w m fs := ⟨(fun z => by cases z), dx, t0, p4, xt⟩
    refine ⟨_, rfl, _, rfl, _, rfl, n, w, m, rfl, hw, fun g => ?_, fun g => q2 (fun z => g z.1) H5 f4⟩
    refine ⟨_, rfl, p, T.c_Schema, dx, _, _, rfl, p4, T.cl_Schema, T.n_Schema_fields, lk_Schema_fields, t0, fs, rfl, xt, lfs, ln, fun g2 H6 s6 => ?_, fun g2 H6 s6 => ?_⟩
    · exact q1 ⟨g, g2⟩ H6 (S5.same s6) fun b o e n => s6 _ _ (f4 b o e n)
    · exact q2 (fun z => g2 z.2) H6 fun b o e n => s6 _ _ (f4 b o e n)
def sp_Schema_far (T : Txt w K mg) : Sp := fun vs H Q _ => ∃ (p a b : Addr) (n : Int) (w m : Str) (fs : List (Str × Str)) (xs ys : List Int), vs = [.ref p, .ref a, .ref b] ∧ (SchAt [] T.c_Schema H p n w m fs) ∧ (m ∈ MEAS3) ∧ (SqT K H a (xs.map V.int)) ∧ (SqT K H b (ys.map V.int)) ∧ (xs.length = ys.length) ∧ (xs.length ≤ 1000) ∧ (Bd 1000000000000 xs) ∧ (Bd 1000000000000 ys) ∧ ∀ H', Same H H' → Q (.int (ter (farF m) xs ys).sum) H'
set_option maxHeartbeats 4000000 in
theorem ok_Schema_far (T : Txt w K mg) : FnOk P w K mg base CX0 2 T.f_Schema_far T.d_Schema_far ["self", "a", "b"] (sp_Schema_far T) := by
  have G_differing : FnOk P w K mg base CX0 1 T.f_differing T.d_differing ["a", "b"] (sp_differing T) := ok_differing T
  have G_inner : FnOk P w K mg base CX0 1 T.f_inner T.d_inner ["a", "b"] (sp_inner T) := ok_inner T
  have G_distance : FnOk P w K mg base CX0 1 T.f_distance T.d_distance ["a", "b"] (sp_distance T) := ok_distance T
  refine T.F_Schema_far.ok sc_Schema_far (fun vs H Q E h => ?_) (fun cdv A outer s H vs Q E hr h => ?_)
  · obtain ⟨p, a, b, n, w, m, fs, xs, ys, rfl, _⟩ := h
    rfl
  · obtain ⟨p, a, b, n, w, m, fs, xs, ys, rfl, hS, hm, ha, hb, hl, h1, bx, by_, q⟩ := h
    refine ⟨_, (pss_cons (ps_if (pt_cmpR op_eq (pe_fld (pv 0) rfl) pe_str (nomark _)) (pss_one (ps_ret (pe_call G_distance (hr.mono (by decide)) (by rfl) T.g_distance T.F_distance.kp T.b_distance .nil pass0 (pa_cons (pv 1) (pa_cons (pv 2) pa_nil))))) pss_nil) 
      (pss_cons (ps_if (pt_cmpR op_eq (pe_fld (pv 0) rfl) pe_str (nomark _)) (pss_one (ps_ret (pe_un un_neg (pe_call G_inner (hr.mono (by decide)) (by rfl) T.g_inner T.F_inner.kp T.b_inner .nil pass0 (pa_cons (pv 1) (pa_cons (pv 2) pa_nil)))))) pss_nil) 
      (pss_one (ps_ret (pe_call G_differing (hr.mono (by decide)) (by rfl) T.g_differing T.F_differing.kp T.b_differing .nil pass0 (pa_cons (pv 1) (pa_cons (pv 2) pa_nil))))))), ?_⟩
    obtain ⟨_, dx, tf, hp, _⟩ := hS
    refine ⟨_, rfl, p, T.c_Schema, dx, _, _, rfl, hp, T.cl_Schema, T.n_Schema_measure, lk_Schema_measure, rfl, _, rfl, ite2 (fun e => ?_) (fun e => ?_)⟩
    · have c : m = "square" := V.str.inj (of_decide_eq_true e)
      have f : farF m = fSq := by unfold farF; rw [if_pos c]
      rw [f] at q
      exact ⟨_, rfl, _, rfl, a, b, xs, ys, rfl, ha, hb, hl, h1, bx, by_, q⟩
    have n1 : ¬ m = "square" := fun h => e (decide_eq_true (congrArg V.str h))
    refine ⟨_, rfl, p, T.c_Schema, dx, _, _, rfl, hp, T.cl_Schema, T.n_Schema_measure, lk_Schema_measure, rfl, _, rfl, ite2 (fun e => ?_) (fun e => ?_)⟩
    · have c : m = "dot" := V.str.inj (of_decide_eq_true e)
      have f : farF m = fNeg := by unfold farF; rw [if_neg n1, if_pos c]
      rw [f] at q
      refine ⟨_, rfl, _, rfl, a, b, xs, ys, rfl, ha, hb, hl, h1, bx, by_, fun H' s => ⟨_, rfl, ?_⟩⟩
      show Q (V.int (-(ter fMul xs ys).sum)) H'
      rw [neg_sum]
      exact q H' s
    have n2 : ¬ m = "dot" := fun h => e (decide_eq_true (congrArg V.str h))
    have f : farF m = fNe := by unfold farF; rw [if_neg n1, if_neg n2]
    rw [f] at q
    exact ⟨_, rfl, _, rfl, a, b, xs, ys, rfl, ha, hb, hl, h1, bx, by_, q⟩
def sp_law (K : PySem.W.Frag) : Sp := fun vs H Q _ => ∃ (a : Addr) (ns : List Int), vs = [.ref a] ∧ (SqL K H a (ns.map V.int)) ∧ (ns.length ≤ 63) ∧ ∀ H', Q (.bl true) H'
set_option maxHeartbeats 8000000 in
theorem ok_law (T : Txt w K mg) : FnOk P w K mg base CX0 6 T.f_law T.d_law ["script"] (sp_law K) := by
  have G_Schema_far : FnOk P w K mg base CX0 2 T.f_Schema_far T.d_Schema_far ["self", "a", "b"] (sp_Schema_far T) := ok_Schema_far T
  have G_law_next : FnOk P w K mg base CX0 2 T.f_law_next T.d_law_next ["state", "many"] (sp_law_next T) := ok_law_next T
  have G_law_number : FnOk P w K mg base CX0 3 T.f_law_number T.d_law_number ["state", "width"] (sp_law_number T) := ok_law_number T
  have G_Schema___init__ : FnOk P w K mg base (L2.CX P w) 4 T.f_Schema___init__ T.d_Schema___init__ ["self", "size", "width", "measure", "fields"] (sp_Schema___init__ T) := ok_Schema___init__ T
  have G_law_schema : FnOk P w K mg base CX0 4 T.f_law_schema T.d_law_schema ["state"] (sp_law_schema T) := ok_law_schema T
  refine T.F_law.ok sc_law (fun vs H Q E h => ?_) (fun cdv A outer s H vs Q E hr h => ?_)
  · obtain ⟨a, ns, rfl, _⟩ := h
    rfl
  · obtain ⟨a, ns, rfl, hA, hlen, q⟩ := h
    refine ⟨_, (pss_cons (ps_set (i := 1) sc_law.nd rfl (.inr rfl) (pe_lst (pa_cons (pe_callTy call_list_of (by rfl) T.m_list (by decide +kernel) (pa_cons (pv 0) pa_nil)) (pa_cons pe_int (pa_cons pe_int pa_nil))))) 
      (pss_cons (ps_for PassesOwn.never rfl (pi_range1 rfl T.m_range (pa_cons pe_int pa_nil)) (pg_name (i := 2) sc_law.nd rfl (.inl rfl)) (pss_cons (ps_set (i := 3) sc_law.nd rfl (.inr rfl) (pe_call G_law_schema (hr.mono (by decide)) (by rfl) T.g_law_schema T.F_law_schema.kp T.b_law_schema .nil pass0 (pa_cons (pv 1) pa_nil))) 
      (pss_cons (ps_set (i := 4) sc_law.nd rfl (.inl rfl) (pe_makeK T.mk_Schema G_Schema___init__ (hr.mono (by decide)) (by rfl) T.mc_Schema T.kb_Schema___init__ passL (pa_cons (pe_ix ix_tup (pv 3) pe_int (fun _ _ => rfl)) pa_nil) (pk_cons (pe_ix ix_tup (pv 3) pe_int (fun _ _ => rfl)) (pk_cons (pe_ix ix_tup (pv 3) pe_int (fun _ _ => rfl)) (pk_cons (pe_ix ix_tup (pv 3) pe_int (fun _ _ => rfl)) pk_nil))))) 
      (pss_cons (ps_setLc (i := 5) (own := [("k", 6)]) (g := gName 6) rfl sc_law.nd rfl rfl (sw_true rfl rfl rfl (by decide +kernel)) (pi_range1 rfl T.m_range (pa_cons (pe_ix ix_tup (pv 3) pe_int (fun _ _ => rfl)) pa_nil)) (blkOk_by (own := [("k", 6)]) (N := ["script", "state", "turn", "drawn", "schema", "a", "k", "b", "due", "actual"]) (sc := defScope s_law) (by decide +kernel)) (fun _ _ _ _ _ => (pg_name (i := 6) sc_law.nd rfl (Or.inl rfl))) (fun _ _ _ _ _ => pts_nil) (fun _ _ _ _ _ => (pe_call G_law_number (hr.mono (by decide)) (by rfl) T.g_law_number T.F_law_number.kp T.b_law_number .nil pass0 (pa_cons (pv 1) (pa_cons (pe_ix (r := rIxT K) (by exact ix_tup) (pv 3) pe_int (fun _ _ => rfl)) pa_nil))))) 
      (pss_cons (ps_setLc (i := 7) (own := [("k", 6)]) (g := gName 6) rfl sc_law.nd rfl rfl (sw_true rfl rfl rfl (by decide +kernel)) (pi_range1 rfl T.m_range (pa_cons (pe_ix ix_tup (pv 3) pe_int (fun _ _ => rfl)) pa_nil)) (blkOk_by (own := [("k", 6)]) (N := ["script", "state", "turn", "drawn", "schema", "a", "k", "b", "due", "actual"]) (sc := defScope s_law) (by decide +kernel)) (fun _ _ _ _ _ => (pg_name (i := 6) sc_law.nd rfl (Or.inl rfl))) (fun _ _ _ _ _ => pts_nil) (fun _ _ _ _ _ => (pe_call G_law_number (hr.mono (by decide)) (by rfl) T.g_law_number T.F_law_number.kp T.b_law_number .nil pass0 (pa_cons (pv 1) (pa_cons (pe_ix (r := rIxT K) (by exact ix_tup) (pv 3) pe_int (fun _ _ => rfl)) pa_nil))))) 
      (pss_cons (ps_for PassesOwn.never rfl (pi_range1 rfl T.m_range (pa_cons (pe_ix ix_tup (pv 3) pe_int (fun _ _ => rfl)) pa_nil)) (pg_name (i := 6) sc_law.nd rfl (.inl rfl)) (pss_one (ps_if (pt_cmpR op_eq (pe_call G_law_next (hr.mono (by decide)) (by rfl) T.g_law_next T.F_law_next.kp T.b_law_next .nil pass0 (pa_cons (pv 1) (pa_cons pe_int pa_nil))) pe_int (nomark _)) (pss_one (ps_asg (pe_ix ix_list (pv 5) (pv 6) (fun _ _ => rfl)) (pg_sub (pv 7) (pv 6) set_list))) pss_nil))) 
      (pss_cons (ps_set (i := 8) sc_law.nd rfl (.inl rfl) pe_int) 
      (pss_cons (ps_for PassesOwn.never rfl (pi_range1 rfl T.m_range (pa_cons (pe_ix ix_tup (pv 3) pe_int (fun _ _ => rfl)) pa_nil)) (pg_name (i := 6) sc_law.nd rfl (.inl rfl)) (pss_cut (ps_if (pt_cmpR op_eq (pe_ix ix_tup (pv 3) pe_int (fun _ _ => rfl)) pe_str (nomark _)) (pss_one (ps_set (i := 8) sc_law.nd rfl (.inl rfl) (pe_op op_add (pv 8) (pe_op op_mul (pe_op op_sub (pe_ix ix_list (pv 5) (pv 6) (fun _ _ => rfl)) (pe_ix ix_list (pv 7) (pv 6) (fun _ _ => rfl))) (pe_op op_sub (pe_ix ix_list (pv 5) (pv 6) (fun _ _ => rfl)) (pe_ix ix_list (pv 7) (pv 6) (fun _ _ => rfl))))))) pss_nil) 
      (pss_cut (ps_if (pt_cmpR op_eq (pe_ix ix_tup (pv 3) pe_int (fun _ _ => rfl)) pe_str (nomark _)) (pss_one (ps_set (i := 8) sc_law.nd rfl (.inl rfl) (pe_op op_sub (pv 8) (pe_op op_mul (pe_ix ix_list (pv 5) (pv 6) (fun _ _ => rfl)) (pe_ix ix_list (pv 7) (pv 6) (fun _ _ => rfl)))))) pss_nil) 
      (pss_one (ps_if (PW.pt (pw_and (pt_cmpR op_eq (pe_ix ix_tup (pv 3) pe_int (fun _ _ => rfl)) pe_str (nomark _)) (pw_and1 (pt_cmpR op_ne (pe_ix ix_list (pv 5) (pv 6) (fun _ _ => rfl)) (pe_ix ix_list (pv 7) (pv 6) (fun _ _ => rfl)) (nomark _))))) (pss_one (ps_set (i := 8) sc_law.nd rfl (.inl rfl) (pe_op op_add (pv 8) pe_int))) pss_nil))))) 
      (pss_cons (ps_set (i := 9) sc_law.nd rfl (.inl rfl) (pe_meth (pv 4) T.cl_Schema T.me_Schema_far G_Schema_far (hr.mono (by decide)) T.b_Schema_far .nil pass0 (pa_cons (pe_callTy call_tuple_of (by rfl) T.m_tuple (by decide +kernel) (pa_cons (pv 5) pa_nil)) (pa_cons (pe_callTy call_tuple_of (by rfl) T.m_tuple (by decide +kernel) (pa_cons (pv 7) pa_nil)) pa_nil)))) 
      (pss_one (ps_if (PW.pt (pw_or (pt_not (pt_val (pe_callB call_isi (by rfl) T.m_isinstance (by decide +kernel) (pa_cons (pv 9) (pa_cons (pe_bltn (v := .ty "int") (u := .type "int") (by rfl) T.m_int (by decide +kernel) rfl) pa_nil))))) (pw_or (pt_val (pe_callB call_isi (by rfl) T.m_isinstance (by decide +kernel) (pa_cons (pv 9) (pa_cons (pe_bltn (v := .ty "bool") (u := .type "bool") (by rfl) T.m_bool (by decide +kernel) rfl) pa_nil)))) (pw_or1 (pt_cmpR op_ne (pv 9) (pv 8) (nomark _)))))) (pss_one (ps_ret pe_bl)) pss_nil))))))))))) 
      (pss_one (ps_ret pe_bl)))), ?_⟩
    refine ⟨_, rfl, a, _, rfl, .inl hA, fun sc hsc => ⟨(by show 3 ≤ sizeLine; decide), fun st hst => ?_⟩⟩
    have hS0 := st_made hsc hst hlen
    generalize upd (upd H sc (.lst (ns.map V.int))) st (.lst [.ref sc, .int 0, .int 0]) = H0 at hS0
    refine ⟨4, rfl, by decide, by decide, for_range (lo := 0) (n := 4) (fun i σ H' => StAt H' st sc ∧ ∃ (y2 y3 y4 y5 y6 y7 y8 y9 : Option V), σ = [some (.ref a), some (.ref st), y2, y3, y4, y5, y6, y7, y8, y9]) ⟨hS0, none, none, none, none, none, none, none, none, rfl⟩ ?_ ?_⟩
    rotate_left
    · rintro σ H' ⟨_, y2, y3, y4, y5, y6, y7, y8, y9, rfl⟩
      exact q H'
    rintro i σ Hi hi ⟨hSi, y2, y3, y4, y5, y6, y7, y8, y9, rfl⟩
    -- drawn
    refine ⟨_, rfl, st, sc, rfl, hSi, fun t pf n w m fs H1 n1 n4 w3 m3 hb ok nt tn ht xf hS1 f1 => ?_⟩
    -- schema
    obtain ⟨pf', vf, ef, _, gf, tf⟩ := xf.isL
    cases ef
    have lf := tf.length
    rw [List.length_map] at lf
    have lok := ok.len
    have good : vecGood n w m ∧ fieldsGood fs := ⟨⟨n1, w3, m3, fun z => z.2 (hb z.1)⟩, names_nodup ok⟩
    have ln : ∀ f ∈ fs, f.1.length ≤ 1000 := fun f hf => by
      have h1 : f.1 ∈ fs.map (·.1) := List.mem_map_of_mem hf
      rw [ok.names] at h1
      have h : f.1 ∈ NAME4 := List.mem_of_mem_take h1
      generalize f.1 = z at h
      clear hf h1
      revert h z
      decide +kernel
    refine ⟨_, rfl, t, _, _, _, rfl, rfl, SqT.of ht, at_of (j := 0) rfl rfl, _, rfl, t, _, _, _, rfl, rfl, SqT.of ht, at_of (j := 1) rfl rfl, _, rfl, t, _, _, _, rfl, rfl, SqT.of ht, at_of (j := 2) rfl rfl, _, rfl, t, _, _, _, rfl, rfl, SqT.of ht, at_of (j := 3) rfl rfl, rfl, rfl, fun x dx nx ndx nex => ?_⟩
    have smx : Same H1 (upd (upd H1 dx (.own x)) x (.ins T.c_Schema dx [])) := fun b o hb => by
      rw [upd_ne (ne_of_none hb nx), upd_ne (ne_of_none hb ndx)]
      exact hb
    refine ⟨x, dx, pf, n, w, m, vf, fs, rfl, upd_same, SqL.of (smx _ _ gf), tf.nilN.same smx, by omega, ln, .inl w3, fun _ H2 S2 f2 => ⟨rfl, ?_⟩, fun g => absurd good g⟩
    have sm2 : Same H1 H2 := fun b o hb => f2 b o (smx b o hb) (ne_of_none hb nx)
    have hS_H2 := hS1.same sm2
    obtain ⟨xs2, hs2⟩ := st_lst hS_H2
    replace S2 := S2.off hs2
    have ht_H2 := sm2 _ _ ht
    clear smx f2 gf tf xf hs2
    -- a

    refine ⟨_, rfl, t, _, _, _, rfl, rfl, SqT.of ht_H2, at_of (j := 0) rfl rfl, n, rfl, by omega, by omega, fun D hD => ?_⟩
    have nD : D ≠ st := st_new hS_H2 hD
    refine lc_range (lo := 0) (n := n.toNat) (fun i H' => Fr st H2 H' ∧ StAt H' st sc ∧ ∃ zs : List Int, zs.length = i ∧ Bd 32768 zs ∧ H' D = some (.lst (zs.map V.int))) ⟨Fr.new hD, hS_H2.new hD, [], rfl, (fun _ h => (nomatch h)), upd_same⟩ ?_ ?_
    · rintro i H2 hi ⟨f2, hS2, zs, hz, bz, h2⟩
      refine ⟨rfl, _, rfl, _, rfl, t, _, _, _, rfl, rfl, SqT.of (f2 _ _ ht_H2 nt), at_of (j := 1) rfl rfl, st, sc, w, rfl, hS2, w3, fun v H3 v0 v1 hS3 f3 => ?_⟩
      refine ⟨_, f3 _ _ h2 nD, ?_, (f2.trans f3).set hD, hS3.set hS_H2 hD, zs ++ [v], by simp [hz], ?_, by rw [upd_same, List.map_append]; rfl⟩
      · rw [List.length_map, hz]
        exact len_le (by omega)
      · intro z hz
        rcases List.mem_append.mp hz with h | h
        · exact bz z h
        · rw [List.mem_singleton] at h
          omega

    rintro H3 ⟨f3, hS_H3, za, la, ba, ha⟩
    have ht_H3 := f3 _ _ ht_H2 nt
    have S3 := S2.fr f3 in1
    generalize hDa : D = pa at ha nD hD
    clear hDa
    -- b

    refine ⟨_, rfl, t, _, _, _, rfl, rfl, SqT.of ht_H3, at_of (j := 0) rfl rfl, n, rfl, by omega, by omega, fun D2 hB => ?_⟩
    have nB : D2 ≠ st := st_new hS_H3 hB
    refine lc_range (lo := 0) (n := n.toNat) (fun i H' => Fr st H3 H' ∧ StAt H' st sc ∧ ∃ zs : List Int, zs.length = i ∧ Bd 32768 zs ∧ H' D2 = some (.lst (zs.map V.int))) ⟨Fr.new hB, hS_H3.new hB, [], rfl, (fun _ h => (nomatch h)), upd_same⟩ ?_ ?_
    · rintro i H2 hi ⟨f2, hS2, zs, hz, bz, h2⟩
      refine ⟨rfl, _, rfl, _, rfl, t, _, _, _, rfl, rfl, SqT.of (f2 _ _ ht_H3 nt), at_of (j := 1) rfl rfl, st, sc, w, rfl, hS2, w3, fun v H3 v0 v1 hS3 f3 => ?_⟩
      refine ⟨_, f3 _ _ h2 nB, ?_, (f2.trans f3).set hB, hS3.set hS_H3 hB, zs ++ [v], by simp [hz], ?_, by rw [upd_same, List.map_append]; rfl⟩
      · rw [List.length_map, hz]
        exact len_le (by omega)
      · intro z hz
        rcases List.mem_append.mp hz with h | h
        · exact bz z h
        · rw [List.mem_singleton] at h
          omega

    rintro H4 ⟨f4, hS4, zb, lb, bb, hb4⟩
    have ht4 := f4 _ _ ht_H3 nt
    have ha4 := f4 _ _ ha nD
    have S4 := (S3.away hB).mono (M := [D2, st]) (H' := H4) fun b o nb eb => ⟨nb, f4 b o eb fun z => nb (by rw [z]; exact in2)⟩
    have npb : pa ≠ D2 := ne_of_none ha hB
    have ntb : t ≠ D2 := ne_of_none ht_H3 hB
    have nst : st ≠ D2 := Ne.symm nB
    have nsc : sc ≠ D2 := by
      obtain ⟨_, _, _, _, gg, _⟩ := hS_H3
      exact ne_of_none gg hB
    -- b[k] = a[k] at some places
    refine ⟨_, rfl, t, _, _, _, rfl, rfl, SqT.of ht4, at_of (j := 0) rfl rfl, n, rfl, by omega, by omega, ?_⟩
    refine for_range (lo := 0) (n := n.toNat) (fun j σ H' => StAt H' st sc ∧ SchAt [D2, st] T.c_Schema H' x n w m fs ∧ H' t = some (.tup [.int n, .str w, .str m, .ref pf]) ∧ H' pa = some (.lst (za.map V.int)) ∧ (∃ zc : List Int, zc.length = n.toNat ∧ Bd 32768 zc ∧ H' D2 = some (.lst (zc.map V.int))) ∧ ∃ (y6 y8 y9 : Option V), σ = [some (.ref a), some (.ref st), some (.int (0 + (i : Int))), some (.ref t), some (.ref x), some (.ref pa), y6, some (.ref D2), y8, y9]) ⟨hS4, S4, ht4, ha4, ⟨zb, lb, bb, hb4⟩, _, _, _, rfl⟩ ?_ ?_
    · rintro j σ H5 hj ⟨hS5, S5, ht5, ha5, ⟨zc, lc, bc, hc5⟩, y6, y8, y9, rfl⟩
      have e0 : (0 : Int) + (j : Int) = (j : Int) := by omega
      refine ⟨_, rfl, st, sc, 3, rfl, hS5, by decide, by decide +kernel, fun d H6 d0 d1 hS6 o6 => ⟨rfl, _, rfl, ite2 (fun _ => ?_) (fun _ => ?_)⟩⟩
      · have ha6 := (o6 pa nD).trans ha5
        have hc6 := (o6 D2 nB).trans hc5
        obtain ⟨v, hv⟩ : ∃ v, za[j]? = some v := ⟨_, List.getElem?_eq_getElem (by omega)⟩
        have bv := ba.at hv
        have ixn : ixN (zc.map V.int).length (0 + (j : Int)) = some j := by
          rw [e0, List.length_map]
          exact ixN_nat (by omega)
        refine ⟨_, rfl, _, rfl, pa, _, _, _, rfl, rfl, SqL.of ha6, at_of e0 (map_get hv), _, rfl, _, rfl, D2, _, _, j, rfl, rfl, hc6, ixn, ?_, ?_, ?_, ?_, ⟨zc.set j v, by rw [List.length_set]; exact lc, ?_, by rw [upd_same, List.map_set]⟩, _, _, _, rfl⟩
        · obtain ⟨ns', k', x', g1, g2, g3⟩ := hS6
          exact ⟨ns', k', x', by rw [upd_ne nst]; exact g1, by rw [upd_ne nsc]; exact g2, g3⟩
        · exact (S5.fr o6.fr in2).upd (List.mem_cons_self ..)
        · rw [upd_ne ntb]
          exact (o6 t nt).trans ht5
        · rw [upd_ne npb]
          exact ha6
        · intro y hy
          rcases List.mem_or_eq_of_mem_set hy with h | h
          · exact bc y h
          · omega
      · exact ⟨hS6, S5.fr o6.fr in2, (o6 t nt).trans ht5, (o6 pa nD).trans ha5, ⟨zc, lc, bc, (o6 D2 nB).trans hc5⟩, _, _, _, rfl⟩
    rintro σ H5 ⟨hS5, S5, ht5, ha5, ⟨zc, lc, bc, hc5⟩, y6, y8, y9, rfl⟩
    -- due
    refine ⟨_, rfl, t, _, _, _, rfl, rfl, SqT.of ht5, at_of (j := 0) rfl rfl, n, rfl, by omega, by omega, ?_⟩
    refine for_range (lo := 0) (n := n.toNat) (fun j σ H' => H' = H5 ∧ ∃ y6, σ = [some (.ref a), some (.ref st), some (.int (0 + (i : Int))), some (.ref t), some (.ref x), some (.ref pa), y6, some (.ref D2), some (.int ((ter (farF m) za zc).take j).sum), y9]) ⟨rfl, y6, by simp⟩ ?_ ?_
    · rintro j σ H' hj ⟨rfl, y6, rfl⟩
      have e0 : (0 : Int) + (j : Int) = (j : Int) := by omega
      obtain ⟨u, hu⟩ : ∃ v, za[j]? = some v := ⟨_, List.getElem?_eq_getElem (by omega)⟩
      obtain ⟨v, hv⟩ : ∃ v, zc[j]? = some v := ⟨_, List.getElem?_eq_getElem (by omega)⟩
      have bu := ba.at hu
      have bv := bc.at hv
      have su := sum_take (ter_get (f := farF m) hu hv)
      rw [← c123 m3] at su
      generalize ((ter (farF m) za zc).take j).sum = S at su ⊢
      have GA : ∀ {R : Prop}, R → R := id
      -- if drawn[2] == 'square'
      refine ⟨fun σ H2 => H2 = H' ∧ ∃ y6, y6 = some (V.int (0 + (j : Int))) ∧ σ = [some (.ref a), some (.ref st), some (.int (0 + (i : Int))), some (.ref t), some (.ref x), some (.ref pa), y6, some (.ref D2), some (.int (S + c1 m u v)), y9], ?_, ?_⟩
      · refine ⟨_, rfl, t, _, _, _, rfl, rfl, SqT.of ht5, at_of (j := 2) rfl rfl, rfl, _, rfl, ite2 (fun e => ?_) (fun e => ?_)⟩
        · have c : m = "square" := V.str.inj (of_decide_eq_true e)
          refine ⟨_, rfl, _, rfl, _, rfl, pa, _, _, _, rfl, rfl, SqL.of ha5, at_of e0 (map_get hu), _, rfl, _, rfl, D2, _, _, _, rfl, rfl, SqL.of hc5, at_of e0 (map_get hv), _, _, rfl, rfl, ?_⟩
          refine ⟨_, rfl, _, rfl, pa, _, _, _, rfl, rfl, SqL.of ha5, at_of e0 (map_get hu), _, rfl, _, rfl, D2, _, _, _, rfl, rfl, SqL.of hc5, at_of e0 (map_get hv), _, _, rfl, rfl, _, _, rfl, rfl, .inl ⟨by omega, by omega⟩, _, _, rfl, rfl, rfl, _, rfl, ?_⟩
          unfold c1
          rw [if_pos c]
          rfl
        · have c : ¬ m = "square" := fun z => e (decide_eq_true (congrArg V.str z))
          refine ⟨rfl, _, rfl, ?_⟩
          unfold c1
          rw [if_neg c, Int.add_zero]
          rfl
      rintro σ H2 ⟨rfl, y6, rfl, rfl⟩
      -- if drawn[2] == 'dot'
      refine ⟨fun σ H3 => H3 = H2 ∧ ∃ y6, y6 = some (V.int (0 + (j : Int))) ∧ σ = [some (.ref a), some (.ref st), some (.int (0 + (i : Int))), some (.ref t), some (.ref x), some (.ref pa), y6, some (.ref D2), some (.int (S + c1 m u v + c2 m u v)), y9], ?_, ?_⟩
      · refine ⟨_, rfl, t, _, _, _, rfl, rfl, SqT.of ht5, at_of (j := 2) rfl rfl, rfl, _, rfl, ite2 (fun e => ?_) (fun e => ?_)⟩
        · have c : m = "dot" := V.str.inj (of_decide_eq_true e)
          refine ⟨_, rfl, _, rfl, _, rfl, pa, _, _, _, rfl, rfl, SqL.of ha5, at_of e0 (map_get hu), _, rfl, _, rfl, D2, _, _, _, rfl, rfl, SqL.of hc5, at_of e0 (map_get hv), _, _, rfl, rfl, .inl ⟨by omega, by omega⟩, _, _, rfl, rfl, rfl, _, rfl, ?_⟩
          have z : S + c1 m u v + c2 m u v = S + c1 m u v - u * v := by
            unfold c2 fNeg
            rw [if_pos c]
            omega
          rw [z]
          rfl
        · have c : ¬ m = "dot" := fun z => e (decide_eq_true (congrArg V.str z))
          refine ⟨rfl, _, rfl, ?_⟩
          unfold c2
          rw [if_neg c, Int.add_zero]
      rintro σ H3 ⟨rfl, y6, rfl, rfl⟩
      -- if drawn[2] == 'bits' and a[k] != b[k]
      have last : S + c1 m u v + c2 m u v + c3 m u v = ((ter (farF m) za zc).take (j + 1)).sum := by omega
      refine ⟨_, rfl, t, _, _, _, rfl, rfl, SqT.of ht5, at_of (j := 2) rfl rfl, rfl, _, rfl, ite2 (fun e => ?_) (fun e => ?_)⟩
      · have c : m = "bits" := V.str.inj (of_decide_eq_true e)
        refine ⟨_, rfl, _, rfl, pa, _, _, _, rfl, rfl, SqL.of ha5, at_of e0 (map_get hu), _, rfl, _, rfl, D2, _, _, _, rfl, rfl, SqL.of hc5, at_of e0 (map_get hv), rfl, _, rfl, ?_⟩
        by_cases e2 : u = v
        · rw [decide_eq_true (congrArg V.int e2)]
          refine iteF ⟨rfl, some (V.int (0 + (j : Int))), ?_⟩
          rw [← last]
          unfold c3
          rw [if_neg (fun z => z.2 e2), Int.add_zero]
        · rw [decide_eq_false (fun z => e2 (V.int.inj z))]
          refine iteT ⟨_, rfl, _, _, rfl, rfl, rfl, some (V.int (0 + (j : Int))), ?_⟩
          rw [← last]
          unfold c3
          rw [if_pos ⟨c, e2⟩]
          rfl
      · have c : ¬ m = "bits" := fun z => e (decide_eq_true (congrArg V.str z))
        refine ⟨rfl, some (V.int (0 + (j : Int))), ?_⟩
        rw [← last]
        unfold c3
        rw [if_neg (fun z => c z.1), Int.add_zero]
    rintro σ H' ⟨rfl, y6, rfl⟩
    have tl : (ter (farF m) za zc).length ≤ n.toNat := by rw [ter_len (by omega)]; omega
    rw [List.take_of_length_le tl]
    have wa : Bd 1000000000000 za := fun z hz => by have := ba z hz; omega
    have wc : Bd 1000000000000 zc := fun z hz => by have := bc z hz; omega
    -- actual
    have S6 := S5.nil
    obtain ⟨_, dx2, tf2, hx2, _⟩ := id S6
    refine ⟨_, rfl, x, dx2, _, rfl, hx2, no_Schema, _, rfl, pa, _, rfl, .inl ⟨SqL.of ha5, fun t1 ht1 => ?_⟩⟩
    have s6 := same_new (o := .tup (za.map V.int)) ht1
    refine ⟨_, rfl, D2, _, rfl, .inl ⟨SqL.of (s6 _ _ hc5), fun t2 ht2 => ?_⟩⟩
    have s7 := same_new (o := .tup (zc.map V.int)) ht2
    refine ⟨x, t1, t2, n, w, m, fs, za, zc, rfl, (S6.same s6).same s7, m3, SqT.of (s7 _ _ upd_same), SqT.of upd_same, by omega, by omega, wa, wc, fun H8 s8 => ?_⟩
    refine ⟨_, rfl, _, _, _, _, true, rfl, .ty _, .base (.int _), kit_ty (by decide +kernel), true, rfl, iteF ?_⟩
    refine ⟨_, rfl, _, _, _, _, false, rfl, .ty _, .base (.int _), kit_ty (by decide +kernel), false, rfl, iteF ?_⟩
    refine ⟨_, rfl, _, rfl, rfl, _, rfl, iteNS rfl ?_⟩
    exact ⟨hS5.same (s6.trans (s7.trans s8)), _, _, _, _, _, _, _, _, rfl⟩
end
theorem all_mk {l : PySem.W.OpenLaw} {w : World} {K : PySem.W.Frag} {h : Heap} {mg : Str → Option Value} {fa f0 f1 f2 f3 f4 f5 f6 f7 f8 f9 f10 f11 f12 f13 f14 f15 : Addr} (X : K.In h) (G : h.Ns mainGlobals mg) (hfa : mg "law" = some (.ref fa))
    {od0 an0 od1 an1 od2 an2 od3 an3 od4 an4 od5 an5 od6 an6 od7 an7 od8 an8 od9 an9 od10 an10 od11 an11 od12 an12 od13 an13 od14 an14 od15 an15 : Option Addr} {sl0 sl1 sl2 sl3 sl4 sl5 sl6 sl7 sl8 sl9 sl10 sl11 sl12 sl13 sl14 sl15 : Array (Option Value)} {oc0 kV0 dc0 pm0 cd0 ct0 oc1 kV1 dc1 pm1 cd1 ct1 oc2 kV2 dc2 pm2 cd2 ct2 oc3 kV3 dc3 pm3 cd3 ct3 oc4 kV4 dc4 pm4 cd4 ct4 oc5 kV5 dc5 pm5 cd5 ct5 oc6 kV6 dc6 pm6 cd6 ct6 oc7 kV7 dc7 pm7 cd7 ct7 oc8 kV8 dc8 pm8 cd8 ct8 oc9 kV9 dc9 pm9 cd9 ct9 oc10 kV10 dc10 pm10 cd10 ct10 oc11 kV11 dc11 pm11 cd11 ct11 oc12 kV12 dc12 pm12 cd12 ct12 oc13 dc13 pm13 cd13 ct13 oc14 kV14 dc14 pm14 cd14 ct14 oc15 kV15 dc15 pm15 cd15 ct15 : Value}
    {C_Schema : Addr}
    (a0 : PySem.W.nsIn K mainGlobals "_law_row" = some (some (.ref f0))) (l0 : K.lookup f0 = some ⟨oc0, od0, .func (PySem.W.fnOf "_law_row" "_law_row" (defArgs s_law_row) (defBody s_law_row) (defScope s_law_row) .none kV0 dc0 pm0 an0 cd0 ct0), sl0⟩) (c0 : PySem.W.codeIn K cd0 "_law_row" = true) (k0 : PySem.W.keepIn K (.ref f0) = true)
    (a1 : PySem.W.nsIn K mainGlobals "_law_next" = some (some (.ref f1))) (l1 : K.lookup f1 = some ⟨oc1, od1, .func (PySem.W.fnOf "_law_next" "_law_next" (defArgs s_law_next) (defBody s_law_next) (defScope s_law_next) .none kV1 dc1 pm1 an1 cd1 ct1), sl1⟩) (c1 : PySem.W.codeIn K cd1 "_law_next" = true) (k1 : PySem.W.keepIn K (.ref f1) = true)
    (a2 : PySem.W.nsIn K mainGlobals "_law_fields" = some (some (.ref f2))) (l2 : K.lookup f2 = some ⟨oc2, od2, .func (PySem.W.fnOf "_law_fields" "_law_fields" (defArgs s_law_fields) (defBody s_law_fields) (defScope s_law_fields) .none kV2 dc2 pm2 an2 cd2 ct2), sl2⟩) (c2 : PySem.W.codeIn K cd2 "_law_fields" = true) (k2 : PySem.W.keepIn K (.ref f2) = true)
    (a3 : PySem.W.nsIn K mainGlobals "_law_schema" = some (some (.ref f3))) (l3 : K.lookup f3 = some ⟨oc3, od3, .func (PySem.W.fnOf "_law_schema" "_law_schema" (defArgs s_law_schema) (defBody s_law_schema) (defScope s_law_schema) .none kV3 dc3 pm3 an3 cd3 ct3), sl3⟩) (c3 : PySem.W.codeIn K cd3 "_law_schema" = true) (k3 : PySem.W.keepIn K (.ref f3) = true)
    (a4 : PySem.W.nsIn K mainGlobals "_law_number" = some (some (.ref f4))) (l4 : K.lookup f4 = some ⟨oc4, od4, .func (PySem.W.fnOf "_law_number" "_law_number" (defArgs s_law_number) (defBody s_law_number) (defScope s_law_number) .none kV4 dc4 pm4 an4 cd4 ct4), sl4⟩) (c4 : PySem.W.codeIn K cd4 "_law_number" = true) (k4 : PySem.W.keepIn K (.ref f4) = true)
    (a5 : PySem.W.nsIn K mainGlobals "inner" = some (some (.ref f5))) (l5 : K.lookup f5 = some ⟨oc5, od5, .func (PySem.W.fnOf "inner" "inner" (defArgs s_inner) (defBody s_inner) (defScope s_inner) .none kV5 dc5 pm5 an5 cd5 ct5), sl5⟩) (c5 : PySem.W.codeIn K cd5 "inner" = true) (k5 : PySem.W.keepIn K (.ref f5) = true)
    (a6 : PySem.W.nsIn K mainGlobals "distance" = some (some (.ref f6))) (l6 : K.lookup f6 = some ⟨oc6, od6, .func (PySem.W.fnOf "distance" "distance" (defArgs s_distance) (defBody s_distance) (defScope s_distance) .none kV6 dc6 pm6 an6 cd6 ct6), sl6⟩) (c6 : PySem.W.codeIn K cd6 "distance" = true) (k6 : PySem.W.keepIn K (.ref f6) = true)
    (a7 : PySem.W.nsIn K mainGlobals "differing" = some (some (.ref f7))) (l7 : K.lookup f7 = some ⟨oc7, od7, .func (PySem.W.fnOf "differing" "differing" (defArgs s_differing) (defBody s_differing) (defScope s_differing) .none kV7 dc7 pm7 an7 cd7 ct7), sl7⟩) (c7 : PySem.W.codeIn K cd7 "differing" = true) (k7 : PySem.W.keepIn K (.ref f7) = true)
    (a8 : PySem.W.nsIn K mainGlobals "is_letter" = some (some (.ref f8))) (l8 : K.lookup f8 = some ⟨oc8, od8, .func (PySem.W.fnOf "is_letter" "is_letter" (defArgs s_is_letter) (defBody s_is_letter) (defScope s_is_letter) .none kV8 dc8 pm8 an8 cd8 ct8), sl8⟩) (c8 : PySem.W.codeIn K cd8 "is_letter" = true) (k8 : PySem.W.keepIn K (.ref f8) = true)
    (a9 : PySem.W.nsIn K mainGlobals "is_digit" = some (some (.ref f9))) (l9 : K.lookup f9 = some ⟨oc9, od9, .func (PySem.W.fnOf "is_digit" "is_digit" (defArgs s_is_digit) (defBody s_is_digit) (defScope s_is_digit) .none kV9 dc9 pm9 an9 cd9 ct9), sl9⟩) (c9 : PySem.W.codeIn K cd9 "is_digit" = true) (k9 : PySem.W.keepIn K (.ref f9) = true)
    (a10 : PySem.W.nsIn K mainGlobals "is_word" = some (some (.ref f10))) (l10 : K.lookup f10 = some ⟨oc10, od10, .func (PySem.W.fnOf "is_word" "is_word" (defArgs s_is_word) (defBody s_is_word) (defScope s_is_word) .none kV10 dc10 pm10 an10 cd10 ct10), sl10⟩) (c10 : PySem.W.codeIn K cd10 "is_word" = true) (k10 : PySem.W.keepIn K (.ref f10) = true)
    (a11 : PySem.W.nsIn K mainGlobals "check_vectors" = some (some (.ref f11))) (l11 : K.lookup f11 = some ⟨oc11, od11, .func (PySem.W.fnOf "check_vectors" "check_vectors" (defArgs s_check_vectors) (defBody s_check_vectors) (defScope s_check_vectors) .none kV11 dc11 pm11 an11 cd11 ct11), sl11⟩) (c11 : PySem.W.codeIn K cd11 "check_vectors" = true) (k11 : PySem.W.keepIn K (.ref f11) = true)
    (a12 : PySem.W.nsIn K mainGlobals "check_fields" = some (some (.ref f12))) (l12 : K.lookup f12 = some ⟨oc12, od12, .func (PySem.W.fnOf "check_fields" "check_fields" (defArgs s_check_fields) (defBody s_check_fields) (defScope s_check_fields) .none kV12 dc12 pm12 an12 cd12 ct12), sl12⟩) (c12 : PySem.W.codeIn K cd12 "check_fields" = true) (k12 : PySem.W.keepIn K (.ref f12) = true)
    {DK13 : Addr} (l13 : K.lookup f13 = some ⟨oc13, od13, .func (PySem.W.fnOf "__init__" "Schema.__init__" (defArgs s_Schema___init__) (defBody s_Schema___init__) (defScope s_Schema___init__) .none (.ref DK13) dc13 pm13 an13 cd13 ct13), sl13⟩) (c13 : PySem.W.codeIn K cd13 "Schema.__init__" = true) (k13 : PySem.W.keepIn K (.ref f13) = true)
    {tq13_width : Tok} (n13_width : PySem.W.nsIn K DK13 "width" = some (some (.str "small" tq13_width)))
    {tq13_measure : Tok} (n13_measure : PySem.W.nsIn K DK13 "measure" = some (some (.str "square" tq13_measure)))
    {E13_fields : Addr} {eo13_fields : Option Addr} {en13_fields : Nat} {es13_fields : Array (Option Value)} (n13_fields : PySem.W.nsIn K DK13 "fields" = some (some (.ref E13_fields))) (t13_fields : K.lookup E13_fields = some ⟨.type "tuple", eo13_fields, .seq #[] en13_fields, es13_fields⟩)
    (l14 : K.lookup f14 = some ⟨oc14, od14, .func (PySem.W.fnOf "far" "Schema.far" (defArgs s_Schema_far) (defBody s_Schema_far) (defScope s_Schema_far) .none kV14 dc14 pm14 an14 cd14 ct14), sl14⟩) (c14 : PySem.W.codeIn K cd14 "Schema.far" = true) (k14 : PySem.W.keepIn K (.ref f14) = true)
    (a15 : PySem.W.nsIn K mainGlobals "law" = some (some (.ref f15))) (l15 : K.lookup f15 = some ⟨oc15, od15, .func (PySem.W.fnOf "law" "law" (defArgs s_law) (defBody s_law) (defScope s_law) .none kV15 dc15 pm15 an15 cd15 ct15), sl15⟩) (c15 : PySem.W.codeIn K cd15 "law" = true) (k15 : PySem.W.keepIn K (.ref f15) = true)
    (aC_Schema : PySem.W.nsIn K mainGlobals "Schema" = some (some (.ref C_Schema)))
    (pg_Schema : PySem.W.plainGet K C_Schema Str.empty = true)
    (hd_Schema : PySem.W.hasDictIn K C_Schema = true)
    (po_Schema : PySem.W.plainOver K C_Schema = true)
    (sa_Schema : PySem.W.findIn K (.ref C_Schema) "__setattr__" = some (some (.builtin "object.__setattr__")))
    (n_Schema_size : PySem.W.findIn K (.ref C_Schema) "size" = some none)
    (n_Schema_width : PySem.W.findIn K (.ref C_Schema) "width" = some none)
    (n_Schema_measure : PySem.W.findIn K (.ref C_Schema) "measure" = some none)
    (n_Schema_fields : PySem.W.findIn K (.ref C_Schema) "fields" = some none)
    (mk_Schema : PySem.W.makesIn K C_Schema = true)
    (in_Schema : PySem.W.findIn K (.ref C_Schema) "__init__" = some (some (.ref f13)))
    (if_Schema : PySem.W.isFn K (.ref f13) = true)
    (kc_Schema : PySem.W.keepIn K (.ref C_Schema) = true)
    (fm_Schema_far : PySem.W.findIn K (.ref C_Schema) "far" = some (some (.ref f14)))
    (im_Schema_far : PySem.W.isFn K (.ref f14) = true)
    {C_InvalidSchema : Addr}
    (aX_InvalidSchema : PySem.W.nsIn K mainGlobals "InvalidSchema" = some (some (.ref C_InvalidSchema)))
    (kx_InvalidSchema : PySem.W.keepIn K (.ref C_InvalidSchema) = true)
    (ex_InvalidSchema : PySem.W.excIn K C_InvalidSchema [.type "ValueError", .type "Exception", .type "BaseException", .type "object"] "ValueError.__new__" = true)
    (bx_InvalidSchema : PySem.W.subIn K (.ref C_InvalidSchema) (.type "BaseException") = some true)
    (tx_InvalidSchema : PySem.W.typeIn K (.ref C_InvalidSchema) = some (.type "type"))
    (ix_InvalidSchema : PySem.W.isClsIn K C_InvalidSchema = true)
    {A_KINDS : Addr} {to_KINDS : Option Addr} {ti_KINDS : Array Value} {tn_KINDS : Nat} {ts_KINDS : Array (Option Value)} (z_KINDS : PySem.W.nsIn K mainGlobals "KINDS" = some (some (.ref A_KINDS))) (zl_KINDS : K.lookup A_KINDS = some ⟨.type "tuple", to_KINDS, .seq ti_KINDS tn_KINDS, ts_KINDS⟩) (zv_KINDS : Vals [.str "integer", .str "text", .str "flag"] ti_KINDS.toList) (zn_KINDS : ti_KINDS.size ≤ sizeLine)
    {A_MEASURES : Addr} {to_MEASURES : Option Addr} {ti_MEASURES : Array Value} {tn_MEASURES : Nat} {ts_MEASURES : Array (Option Value)} (z_MEASURES : PySem.W.nsIn K mainGlobals "MEASURES" = some (some (.ref A_MEASURES))) (zl_MEASURES : K.lookup A_MEASURES = some ⟨.type "tuple", to_MEASURES, .seq ti_MEASURES tn_MEASURES, ts_MEASURES⟩) (zv_MEASURES : Vals [.str "square", .str "dot", .str "bits"] ti_MEASURES.toList) (zn_MEASURES : ti_MEASURES.size ≤ sizeLine)
    {A_RESERVED : Addr} {to_RESERVED : Option Addr} {ti_RESERVED : Array Value} {tn_RESERVED : Nat} {ts_RESERVED : Array (Option Value)} (z_RESERVED : PySem.W.nsIn K mainGlobals "RESERVED" = some (some (.ref A_RESERVED))) (zl_RESERVED : K.lookup A_RESERVED = some ⟨.type "tuple", to_RESERVED, .seq ti_RESERVED tn_RESERVED, ts_RESERVED⟩) (zv_RESERVED : Vals [.str "every", .str "has", .str "in", .str "and", .str "or", .str "not", .str "true", .str "false"] ti_RESERVED.toList) (zn_RESERVED : ti_RESERVED.size ≤ sizeLine)
    {A_WIDTHS : Addr} {de_WIDTHS : Array DictEntry} {dn_WIDTHS : Nat} (z_WIDTHS : PySem.W.nsIn K mainGlobals "WIDTHS" = some (some (.ref A_WIDTHS))) (zl_WIDTHS : K.lookup A_WIDTHS = some ⟨.type "dict", none, .dict de_WIDTHS dn_WIDTHS, #[]⟩) (zk_WIDTHS : PySem.W.KeysLit w.params de_WIDTHS.toList) (zs_WIDTHS : (A_WIDTHS == sysModules) = false)
    {A_WIDTHS_bit : Addr} {to_WIDTHS_bit : Option Addr} {ti_WIDTHS_bit : Array Value} {tn_WIDTHS_bit : Nat} {ts_WIDTHS_bit : Array (Option Value)} (z_WIDTHS_bit : PySem.W.nsIn K A_WIDTHS "bit" = some (some (.ref A_WIDTHS_bit))) (zl_WIDTHS_bit : K.lookup A_WIDTHS_bit = some ⟨.type "tuple", to_WIDTHS_bit, .seq ti_WIDTHS_bit tn_WIDTHS_bit, ts_WIDTHS_bit⟩) (zv_WIDTHS_bit : Vals [.int (0), .int (1)] ti_WIDTHS_bit.toList) (zn_WIDTHS_bit : ti_WIDTHS_bit.size ≤ sizeLine)
    {A_WIDTHS_small : Addr} {to_WIDTHS_small : Option Addr} {ti_WIDTHS_small : Array Value} {tn_WIDTHS_small : Nat} {ts_WIDTHS_small : Array (Option Value)} (z_WIDTHS_small : PySem.W.nsIn K A_WIDTHS "small" = some (some (.ref A_WIDTHS_small))) (zl_WIDTHS_small : K.lookup A_WIDTHS_small = some ⟨.type "tuple", to_WIDTHS_small, .seq ti_WIDTHS_small tn_WIDTHS_small, ts_WIDTHS_small⟩) (zv_WIDTHS_small : Vals [.int (-128), .int (127)] ti_WIDTHS_small.toList) (zn_WIDTHS_small : ti_WIDTHS_small.size ≤ sizeLine)
    {A_WIDTHS_wide : Addr} {to_WIDTHS_wide : Option Addr} {ti_WIDTHS_wide : Array Value} {tn_WIDTHS_wide : Nat} {ts_WIDTHS_wide : Array (Option Value)} (z_WIDTHS_wide : PySem.W.nsIn K A_WIDTHS "wide" = some (some (.ref A_WIDTHS_wide))) (zl_WIDTHS_wide : K.lookup A_WIDTHS_wide = some ⟨.type "tuple", to_WIDTHS_wide, .seq ti_WIDTHS_wide tn_WIDTHS_wide, ts_WIDTHS_wide⟩) (zv_WIDTHS_wide : Vals [.int (-32768), .int (32767)] ti_WIDTHS_wide.toList) (zn_WIDTHS_wide : ti_WIDTHS_wide.size ≤ sizeLine)
    (z_WIDTHS_huge : PySem.W.nsIn K A_WIDTHS "huge" = some none)
    (z_all : PySem.W.nsIn K mainGlobals "all" = some none)
    (z_bool : PySem.W.nsIn K mainGlobals "bool" = some none)
    (z_int : PySem.W.nsIn K mainGlobals "int" = some none)
    (z_isinstance : PySem.W.nsIn K mainGlobals "isinstance" = some none)
    (z_len : PySem.W.nsIn K mainGlobals "len" = some none)
    (z_list : PySem.W.nsIn K mainGlobals "list" = some none)
    (z_max : PySem.W.nsIn K mainGlobals "max" = some none)
    (z_min : PySem.W.nsIn K mainGlobals "min" = some none)
    (z_range : PySem.W.nsIn K mainGlobals "range" = some none)
    (z_set : PySem.W.nsIn K mainGlobals "set" = some none)
    (z_sum : PySem.W.nsIn K mainGlobals "sum" = some none)
    (z_tuple : PySem.W.nsIn K mainGlobals "tuple" = some none)
    (z_zip : PySem.W.nsIn K mainGlobals "zip" = some none)
    : ∃ fd : FuncData, (∀ (s : Shared) (v : Value), BindsTo s fd ⟨[v], []⟩ [("script", v)]) ∧ ∀ base : Heap, K.In base → base.Ns mainGlobals mg → FnOk l.prog w K mg base CX0 6 fa fd ["script"] (sp_law K) := by
  have e := hfa.symm.trans (PySem.W.mg_of X G a15)
  cases e
  have F0 := fun_mk (st := s_law_row) l0 c0 k0
  have b0 := F0.binds (ps := ["script", "k"]) fun _ _ _ _ _ _ us hl => match us, hl with | [_, _], _ => rfl
  have F1 := fun_mk (st := s_law_next) l1 c1 k1
  have b1 := F1.binds (ps := ["state", "many"]) fun _ _ _ _ _ _ us hl => match us, hl with | [_, _], _ => rfl
  have F2 := fun_mk (st := s_law_fields) l2 c2 k2
  have b2 := F2.binds (ps := ["state"]) fun _ _ _ _ _ _ us hl => match us, hl with | [_], _ => rfl
  have F3 := fun_mk (st := s_law_schema) l3 c3 k3
  have b3 := F3.binds (ps := ["state"]) fun _ _ _ _ _ _ us hl => match us, hl with | [_], _ => rfl
  have F4 := fun_mk (st := s_law_number) l4 c4 k4
  have b4 := F4.binds (ps := ["state", "width"]) fun _ _ _ _ _ _ us hl => match us, hl with | [_, _], _ => rfl
  have F5 := fun_mk (st := s_inner) l5 c5 k5
  have b5 := F5.binds (ps := ["a", "b"]) fun _ _ _ _ _ _ us hl => match us, hl with | [_, _], _ => rfl
  have F6 := fun_mk (st := s_distance) l6 c6 k6
  have b6 := F6.binds (ps := ["a", "b"]) fun _ _ _ _ _ _ us hl => match us, hl with | [_, _], _ => rfl
  have F7 := fun_mk (st := s_differing) l7 c7 k7
  have b7 := F7.binds (ps := ["a", "b"]) fun _ _ _ _ _ _ us hl => match us, hl with | [_, _], _ => rfl
  have F8 := fun_mk (st := s_is_letter) l8 c8 k8
  have b8 := F8.binds (ps := ["char"]) fun _ _ _ _ _ _ us hl => match us, hl with | [_], _ => rfl
  have F9 := fun_mk (st := s_is_digit) l9 c9 k9
  have b9 := F9.binds (ps := ["char"]) fun _ _ _ _ _ _ us hl => match us, hl with | [_], _ => rfl
  have F10 := fun_mk (st := s_is_word) l10 c10 k10
  have b10 := F10.binds (ps := ["text"]) fun _ _ _ _ _ _ us hl => match us, hl with | [_], _ => rfl
  have F11 := fun_mk (st := s_check_vectors) l11 c11 k11
  have b11 := F11.binds (ps := ["size", "width", "measure"]) fun _ _ _ _ _ _ us hl => match us, hl with | [_, _, _], _ => rfl
  have F12 := fun_mk (st := s_check_fields) l12 c12 k12
  have b12 := F12.binds (ps := ["fields"]) fun _ _ _ _ _ _ us hl => match us, hl with | [_], _ => rfl
  have F13 : FunD K "__init__" "Schema.__init__" (defArgs s_Schema___init__) (defBody s_Schema___init__) (defScope s_Schema___init__) [] [("width", .str "small"), ("measure", .str "square"), ("fields", .ref E13_fields)] f13 _ := ⟨⟨_, _, _, _, _, _, _, _, _, _, rfl, l13, c13, .inl ⟨rfl, rfl⟩, .inr ⟨DK13, rfl, fun q hq => by
    simp only [List.mem_cons, List.not_mem_nil, or_false] at hq
    rcases hq with rfl | rfl | rfl
    · exact ⟨_, n13_width, ⟨_, rfl⟩⟩
    · exact ⟨_, n13_measure, ⟨_, rfl⟩⟩
    · exact ⟨_, n13_fields, rfl⟩⟩⟩, k13⟩
  obtain ⟨mv13, kb13⟩ := F13.kbinds0 (ps := ["self", "size", "width", "measure", "fields"]) 2 ["width", "measure", "fields"] [] (fun us mv ws => us ++ ws) (by intro h; cases h) (fun q h => by cases h) (fun r1 _ r3 => r1.append r3) (fun D doc pm an cdv ct us mv ws l1 l2 l3 => match us, mv, ws, l1, l2, l3 with | [_, _], [], [_, _, _], _, _, _ => rfl)
  obtain ⟨ds13, v13, b13⟩ := F13.binds0 (ps := ["self", "size", "width", "measure", "fields"]) 2 (by intro h; cases h) rfl (fun D doc pm an cdv ct us ks l1 l2 => match us, ks, l1, l2 with | [_, _], [_, _, _], _, _ => ⟨_, _, _, _, _, _, rfl, rfl, ⟨_, _, _, _, _, _, rfl, rfl, ⟨_, _, _, _, _, _, rfl, rfl, rfl⟩⟩⟩)
  have F14 := fun_mk (st := s_Schema_far) l14 c14 k14
  have b14 := F14.binds (ps := ["self", "a", "b"]) fun _ _ _ _ _ _ us hl => match us, hl with | [_, _, _], _ => rfl
  have F15 := fun_mk (st := s_law) l15 c15 k15
  have b15 := F15.binds (ps := ["script"]) fun _ _ _ _ _ _ us hl => match us, hl with | [_], _ => rfl
  let T : Txt w K mg := ⟨_, _, F0, b0, PySem.W.mg_of X G a0,
    _, _, F1, b1, PySem.W.mg_of X G a1,
    _, _, F2, b2, PySem.W.mg_of X G a2,
    _, _, F3, b3, PySem.W.mg_of X G a3,
    _, _, F4, b4, PySem.W.mg_of X G a4,
    _, _, F5, b5, PySem.W.mg_of X G a5,
    _, _, F6, b6, PySem.W.mg_of X G a6,
    _, _, F7, b7, PySem.W.mg_of X G a7,
    _, _, F8, b8, PySem.W.mg_of X G a8,
    _, _, F9, b9, PySem.W.mg_of X G a9,
    _, _, F10, b10, PySem.W.mg_of X G a10,
    _, _, F11, b11, PySem.W.mg_of X G a11,
    _, _, F12, b12, PySem.W.mg_of X G a12,
    _, _, _, fun H => .inr ⟨_, _, _, t13_fields, rfl, rfl, by decide, .nil⟩, F13, kb13, _, v13, b13,
    _, _, F14, b14,
    _, _, F15, b15, PySem.W.mg_of X G a15,
    _, PySem.W.mg_of X G aX_InvalidSchema, kx_InvalidSchema, ex_InvalidSchema, bx_InvalidSchema, tx_InvalidSchema,
    _, ⟨pg_Schema, hd_Schema, po_Schema, sa_Schema⟩, PySem.W.mg_of X G aC_Schema, n_Schema_size, n_Schema_width, n_Schema_measure, n_Schema_fields, ⟨mk_Schema, in_Schema, if_Schema, kc_Schema⟩, ⟨fm_Schema_far, im_Schema_far, k14⟩,
    _, PySem.W.mg_of X G z_KINDS, fun H => .inr ⟨_, _, _, zl_KINDS, rfl, rfl, zn_KINDS, zv_KINDS⟩,
    _, PySem.W.mg_of X G z_MEASURES, fun H => .inr ⟨_, _, _, zl_MEASURES, rfl, rfl, zn_MEASURES, zv_MEASURES⟩,
    _, PySem.W.mg_of X G z_RESERVED, fun H => .inr ⟨_, _, _, zl_RESERVED, rfl, rfl, zn_RESERVED, zv_RESERVED⟩,
    _, PySem.W.mg_of X G z_WIDTHS, _, _, ⟨zl_WIDTHS, zk_WIDTHS, zs_WIDTHS⟩, _, z_WIDTHS_bit, fun H => .inr ⟨_, _, _, zl_WIDTHS_bit, rfl, rfl, zn_WIDTHS_bit, zv_WIDTHS_bit⟩, _, z_WIDTHS_small, fun H => .inr ⟨_, _, _, zl_WIDTHS_small, rfl, rfl, zn_WIDTHS_small, zv_WIDTHS_small⟩, _, z_WIDTHS_wide, fun H => .inr ⟨_, _, _, zl_WIDTHS_wide, rfl, rfl, zn_WIDTHS_wide, zv_WIDTHS_wide⟩, z_WIDTHS_huge,
    PySem.W.mg_none_of X G z_all,
    PySem.W.mg_none_of X G z_bool,
    PySem.W.mg_none_of X G z_int,
    PySem.W.mg_none_of X G z_isinstance,
    PySem.W.mg_none_of X G z_len,
    PySem.W.mg_none_of X G z_list,
    PySem.W.mg_none_of X G z_max,
    PySem.W.mg_none_of X G z_min,
    PySem.W.mg_none_of X G z_range,
    PySem.W.mg_none_of X G z_set,
    PySem.W.mg_none_of X G z_sum,
    PySem.W.mg_none_of X G z_tuple,
    PySem.W.mg_none_of X G z_zip⟩
  exact ⟨_, fun s v => .of_eq rfl, fun base _ _ => ok_law T⟩
end K07
open PySem PySem.W PyProof.Rows
set_option maxRecDepth 100000 in
set_option maxHeartbeats 0 in
theorem PySem.Challenge.cw_surenear_k07_measures_holds : PySem.Challenge.rw_surenear_k07_measures.Holds := by
  w_on; o_law; k_head; (case hw => w_witness2)
  k_fill
  refine L2.walk_of (l := PySem.Challenge.rw_surenear_k07_measures) (n := 63) (k := 6) (x := "script") (CX := fun _ => L2.CX0) (sp := fun w => K07.sp_law _) rfl (by decide) rfl ⟨rfl, by decide, by decide⟩ (fun w h Y => PySem.W.kIn_of Y) ?F (fun _ _ a ns hl _ hS => ⟨a, ns, rfl, hS, hl, fun _ => rfl⟩) (fun _ _ _ _ _ h => h)
  case F =>
    intro w mg fa h KX G hmg
    refine' K07.all_mk KX G hmg (a0 := ?a0) (l0 := ?l0) (c0 := ?c0) (k0 := ?k0) (a1 := ?a1) (l1 := ?l1) (c1 := ?c1) (k1 := ?k1) (a2 := ?a2) (l2 := ?l2) (c2 := ?c2) (k2 := ?k2) (a3 := ?a3) (l3 := ?l3) (c3 := ?c3) (k3 := ?k3) (a4 := ?a4) (l4 := ?l4) (c4 := ?c4) (k4 := ?k4) (a5 := ?a5) (l5 := ?l5) (c5 := ?c5) (k5 := ?k5) (a6 := ?a6) (l6 := ?l6) (c6 := ?c6) (k6 := ?k6) (a7 := ?a7) (l7 := ?l7) (c7 := ?c7) (k7 := ?k7) (a8 := ?a8) (l8 := ?l8) (c8 := ?c8) (k8 := ?k8) (a9 := ?a9) (l9 := ?l9) (c9 := ?c9) (k9 := ?k9) (a10 := ?a10) (l10 := ?l10) (c10 := ?c10) (k10 := ?k10) (a11 := ?a11) (l11 := ?l11) (c11 := ?c11) (k11 := ?k11) (a12 := ?a12) (l12 := ?l12) (c12 := ?c12) (k12 := ?k12) (a15 := ?a15) (l15 := ?l15) (c15 := ?c15) (k15 := ?k15) (aC_Schema := ?aC_Schema) (pg_Schema := ?pg_Schema) (hd_Schema := ?hd_Schema) (po_Schema := ?po_Schema) (sa_Schema := ?sa_Schema) (n_Schema_size := ?n_Schema_size) (n_Schema_width := ?n_Schema_width) (n_Schema_measure := ?n_Schema_measure) (n_Schema_fields := ?n_Schema_fields) (mk_Schema := ?mk_Schema) (in_Schema := ?in_Schema) (if_Schema := ?if_Schema) (kc_Schema := ?kc_Schema) (fm_Schema_far := ?fm_Schema_far) (im_Schema_far := ?im_Schema_far) (aX_InvalidSchema := ?aX_InvalidSchema) (kx_InvalidSchema := ?kx_InvalidSchema) (bx_InvalidSchema := ?bx_InvalidSchema) (tx_InvalidSchema := ?tx_InvalidSchema) (ix_InvalidSchema := ?ix_InvalidSchema) (l13 := ?l13) (n13_width := ?n13_width) (n13_measure := ?n13_measure) (n13_fields := ?n13_fields) (t13_fields := ?t13_fields) (c13 := ?c13) (k13 := ?k13) (l14 := ?l14) (c14 := ?c14) (k14 := ?k14) (z_KINDS := ?z_KINDS) (zl_KINDS := ?zl_KINDS) (z_MEASURES := ?z_MEASURES) (zl_MEASURES := ?zl_MEASURES) (z_RESERVED := ?z_RESERVED) (zl_RESERVED := ?zl_RESERVED) (z_WIDTHS := ?z_WIDTHS) (zl_WIDTHS := ?zl_WIDTHS) (z_WIDTHS_bit := ?z_WIDTHS_bit) (zl_WIDTHS_bit := ?zl_WIDTHS_bit) (z_WIDTHS_small := ?z_WIDTHS_small) (zl_WIDTHS_small := ?zl_WIDTHS_small) (z_WIDTHS_wide := ?z_WIDTHS_wide) (zl_WIDTHS_wide := ?zl_WIDTHS_wide) (z_WIDTHS_huge := ?z_WIDTHS_huge) (z_all := ?z_all) (z_bool := ?z_bool) (z_int := ?z_int) (z_isinstance := ?z_isinstance) (z_len := ?z_len) (z_list := ?z_list) (z_max := ?z_max) (z_min := ?z_min) (z_range := ?z_range) (z_set := ?z_set) (z_sum := ?z_sum) (z_tuple := ?z_tuple) (z_zip := ?z_zip) (ex_InvalidSchema := ?ex_InvalidSchema) (zv_KINDS := ?zv_KINDS) (zn_KINDS := ?zn_KINDS) (zv_MEASURES := ?zv_MEASURES) (zn_MEASURES := ?zn_MEASURES) (zv_RESERVED := ?zv_RESERVED) (zn_RESERVED := ?zn_RESERVED) (zk_WIDTHS := ?zk_WIDTHS) (zs_WIDTHS := ?zs_WIDTHS) (zv_WIDTHS_bit := ?zv_WIDTHS_bit) (zn_WIDTHS_bit := ?zn_WIDTHS_bit) (zv_WIDTHS_small := ?zv_WIDTHS_small) (zn_WIDTHS_small := ?zn_WIDTHS_small) (zv_WIDTHS_wide := ?zv_WIDTHS_wide) (zn_WIDTHS_wide := ?zn_WIDTHS_wide)
    (case a0 => k_is); (case l0 => k_is); (case c0 => k_is); (case k0 => k_is); (case a1 => k_is); (case l1 => k_is); (case c1 => k_is); (case k1 => k_is); (case a2 => k_is); (case l2 => k_is); (case c2 => k_is); (case k2 => k_is); (case a3 => k_is); (case l3 => k_is); (case c3 => k_is); (case k3 => k_is); (case a4 => k_is); (case l4 => k_is); (case c4 => k_is); (case k4 => k_is); (case a5 => k_is); (case l5 => k_is); (case c5 => k_is); (case k5 => k_is); (case a6 => k_is); (case l6 => k_is); (case c6 => k_is); (case k6 => k_is); (case a7 => k_is); (case l7 => k_is); (case c7 => k_is); (case k7 => k_is); (case a8 => k_is); (case l8 => k_is); (case c8 => k_is); (case k8 => k_is); (case a9 => k_is); (case l9 => k_is); (case c9 => k_is); (case k9 => k_is); (case a10 => k_is); (case l10 => k_is); (case c10 => k_is); (case k10 => k_is); (case a11 => k_is); (case l11 => k_is); (case c11 => k_is); (case k11 => k_is); (case a12 => k_is); (case l12 => k_is); (case c12 => k_is); (case k12 => k_is); (case a15 => k_is); (case l15 => k_is); (case c15 => k_is); (case k15 => k_is); (case aC_Schema => k_is); (case pg_Schema => k_is); (case hd_Schema => k_is); (case po_Schema => k_is); (case sa_Schema => k_is); (case n_Schema_size => k_is); (case n_Schema_width => k_is); (case n_Schema_measure => k_is); (case n_Schema_fields => k_is); (case mk_Schema => k_is); (case in_Schema => k_is); (case if_Schema => k_is); (case kc_Schema => k_is); (case fm_Schema_far => k_is); (case im_Schema_far => k_is); (case aX_InvalidSchema => k_is); (case kx_InvalidSchema => k_is); (case bx_InvalidSchema => k_is); (case tx_InvalidSchema => k_is); (case ix_InvalidSchema => k_is); (case l13 => k_is); (case n13_width => k_is); (case n13_measure => k_is); (case n13_fields => k_is); (case t13_fields => k_is); (case c13 => k_is); (case k13 => k_is); (case l14 => k_is); (case c14 => k_is); (case k14 => k_is); (case z_KINDS => k_is); (case zl_KINDS => k_is); (case z_MEASURES => k_is); (case zl_MEASURES => k_is); (case z_RESERVED => k_is); (case zl_RESERVED => k_is); (case z_WIDTHS => k_is); (case zl_WIDTHS => k_is); (case z_WIDTHS_bit => k_is); (case zl_WIDTHS_bit => k_is); (case z_WIDTHS_small => k_is); (case zl_WIDTHS_small => k_is); (case z_WIDTHS_wide => k_is); (case zl_WIDTHS_wide => k_is); (case z_WIDTHS_huge => k_is); (case z_all => k_is); (case z_bool => k_is); (case z_int => k_is); (case z_isinstance => k_is); (case z_len => k_is); (case z_list => k_is); (case z_max => k_is); (case z_min => k_is); (case z_range => k_is); (case z_set => k_is); (case z_sum => k_is); (case z_tuple => k_is); (case z_zip => k_is)
    (case zv_KINDS => exact .cons ⟨_, rfl⟩ (.cons ⟨_, rfl⟩ (.cons ⟨_, rfl⟩ .nil))); (case zn_KINDS => decide); (case zv_MEASURES => exact .cons ⟨_, rfl⟩ (.cons ⟨_, rfl⟩ (.cons ⟨_, rfl⟩ .nil))); (case zn_MEASURES => decide); (case zv_RESERVED => exact .cons ⟨_, rfl⟩ (.cons ⟨_, rfl⟩ (.cons ⟨_, rfl⟩ (.cons ⟨_, rfl⟩ (.cons ⟨_, rfl⟩ (.cons ⟨_, rfl⟩ (.cons ⟨_, rfl⟩ (.cons ⟨_, rfl⟩ .nil)))))))); (case zn_RESERVED => decide); (case zk_WIDTHS => exact ⟨⟨_, _, rfl, rfl⟩, ⟨⟨_, _, rfl, rfl⟩, ⟨⟨_, _, rfl, rfl⟩, trivial⟩⟩⟩); (case zs_WIDTHS => first | rfl | decide); (case zv_WIDTHS_bit => exact .cons ⟨_, rfl⟩ (.cons ⟨_, rfl⟩ .nil)); (case zn_WIDTHS_bit => decide); (case zv_WIDTHS_small => exact .cons ⟨_, rfl⟩ (.cons ⟨_, rfl⟩ .nil)); (case zn_WIDTHS_small => decide); (case zv_WIDTHS_wide => exact .cons ⟨_, rfl⟩ (.cons ⟨_, rfl⟩ .nil)); (case zn_WIDTHS_wide => decide)
    (case ex_InvalidSchema => k_exc)
