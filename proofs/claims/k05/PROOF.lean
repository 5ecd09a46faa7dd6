import PyProof.Rows.All
import Wide.All
import OpenK.AllK
import Wide.FinOn
import HandS.ForMost
import HandS.Codes
import HandS.Wide
import HandS.IsInst
import HandS.Walk
import HandS.Zip
import HandS.MakeKwOnly
import HandS.ForExc
import HandS.TryMany
import HandS.Strs
import HandS.More
import HandS.SetFor
import HandS.Property
import KE.KEqSeq
import PySem.Challenge.RW_surenear_k05_schemas
set_option Elab.async false
set_option linter.all false
set_option maxRecDepth 100000
namespace K05
open PySem PySem.Spec PyProof.Rows L2
open C8 (tCut pss_cut)
theorem exm_any {K : PySem.W.Frag} {a b : Value} {v : Bool} (h1 : PySem.W.subIn K b (.type "BaseException") = some true) (h2 : ∀ c, b = .ref c → PySem.W.isClsIn K c = true) (h3 : PySem.W.typeIn K b = some (.type "type")) (h4 : PySem.W.subIn K a b = some v) (h5 : ∃ c, b = .ref c) : PySem.W.exmOne K a b = some v := by
  obtain ⟨c, rfl⟩ := h5
  have g := h2 c rfl
  have e1 : (PySem.W.subIn K (.ref c) (.type "BaseException") == some true) = true := by rw [h1]; rfl
  have e2 : ((PySem.W.clsIn K c).isSome && PySem.W.typeIn K (.ref c) == some (.type "type")) = true := by
    have g' : (PySem.W.clsIn K c).isSome = true := g
    rw [g', h3]; rfl
  unfold PySem.W.exmOne PySem.W.kitCls
  simp only [e1, e2, h4, if_true]
/-! the text by places -/
def topS (i : Nat) : Stmt := PySem.Challenge.pw_surenear_k05_schemas.main.body.getD i (.Pass ⟨0, 0, 0, 0⟩)
abbrev s_law_row : Stmt := (topS 22)
abbrev s_law_next : Stmt := (topS 23)
abbrev s_is_letter : Stmt := (topS 2)
abbrev s_is_digit : Stmt := (topS 3)
abbrev s_is_word : Stmt := (topS 4)
abbrev s_check_vectors : Stmt := (topS 16)
abbrev s_check_fields : Stmt := (topS 17)
abbrev s_Schema___init__ : Stmt := (inClass (topS 15) 0)
abbrev s_law_good_name : Stmt := (topS 24)
abbrev s_law_draw : Stmt := (topS 25)
abbrev s_law_valid : Stmt := (topS 26)
abbrev s_law_made : Stmt := (topS 27)
abbrev s_Schema_least : Stmt := (inClass (topS 15) 1)
abbrev s_Schema_greatest : Stmt := (inClass (topS 15) 2)
abbrev s_Schema_kind_of : Stmt := (inClass (topS 15) 3)
abbrev s_Schema___eq__ : Stmt := (inClass (topS 15) 7)
abbrev s_law_tells : Stmt := (topS 28)
abbrev s_law : Stmt := (topS 29)
theorem sc_law_row : FnScope ["script", "k", "cell", "a", "b", "c"] ["script", "k"] (defScope s_law_row) := ⟨rfl, rfl, rfl, by decide +kernel, rfl, by decide +kernel, by decide +kernel⟩
theorem sc_law_next : FnScope ["state", "many", "drawn"] ["state", "many"] (defScope s_law_next) := ⟨rfl, rfl, rfl, by decide +kernel, rfl, by decide +kernel, by decide +kernel⟩
theorem sc_is_letter : FnScope ["char"] ["char"] (defScope s_is_letter) := ⟨rfl, rfl, rfl, by decide +kernel, rfl, by decide +kernel, by decide +kernel⟩
theorem sc_is_digit : FnScope ["char"] ["char"] (defScope s_is_digit) := ⟨rfl, rfl, rfl, by decide +kernel, rfl, by decide +kernel, by decide +kernel⟩
theorem sc_is_word : FnScope ["text", "char"] ["text"] (defScope s_is_word) := ⟨rfl, rfl, rfl, by decide +kernel, rfl, by decide +kernel, by decide +kernel⟩
theorem sc_check_vectors : FnScope ["size", "width", "measure"] ["size", "width", "measure"] (defScope s_check_vectors) := ⟨rfl, rfl, rfl, by decide +kernel, rfl, by decide +kernel, by decide +kernel⟩
theorem sc_check_fields : FnScope ["fields", "name", "kind", "_"] ["fields"] (defScope s_check_fields) := ⟨rfl, rfl, rfl, by decide +kernel, rfl, by decide +kernel, by decide +kernel⟩
theorem sc_Schema___init__ : FnScope ["self", "size", "width", "measure", "fields", "pair"] ["self", "size", "width", "measure", "fields"] (defScope s_Schema___init__) := ⟨rfl, rfl, rfl, by decide +kernel, rfl, by decide +kernel, by decide +kernel⟩
theorem sc_law_good_name : FnScope ["name", "k", "letter", "digit"] ["name"] (defScope s_law_good_name) := ⟨rfl, rfl, rfl, by decide +kernel, rfl, by decide +kernel, by decide +kernel⟩
theorem sc_law_draw : FnScope ["state", "names", "kinds", "fields", "k", "name", "kind", "size", "width", "measure"] ["state"] (defScope s_law_draw) := ⟨rfl, rfl, rfl, by decide +kernel, rfl, by decide +kernel, by decide +kernel⟩
theorem sc_law_valid : FnScope ["size", "width", "measure", "fields", "names", "pair", "name", "kind"] ["size", "width", "measure", "fields"] (defScope s_law_valid) := ⟨rfl, rfl, rfl, by decide +kernel, rfl, by decide +kernel, by decide +kernel⟩
theorem sc_law_made : FnScope ["drawn"] ["drawn"] (defScope s_law_made) := ⟨rfl, rfl, rfl, by decide +kernel, rfl, by decide +kernel, by decide +kernel⟩
theorem sc_Schema_least : FnScope ["self"] ["self"] (defScope s_Schema_least) := ⟨rfl, rfl, rfl, by decide +kernel, rfl, by decide +kernel, by decide +kernel⟩
theorem sc_Schema_greatest : FnScope ["self"] ["self"] (defScope s_Schema_greatest) := ⟨rfl, rfl, rfl, by decide +kernel, rfl, by decide +kernel, by decide +kernel⟩
theorem sc_Schema_kind_of : FnScope ["self", "name", "known", "kind"] ["self", "name"] (defScope s_Schema_kind_of) := ⟨rfl, rfl, rfl, by decide +kernel, rfl, by decide +kernel, by decide +kernel⟩
theorem sc_Schema___eq__ : FnScope ["self", "other"] ["self", "other"] (defScope s_Schema___eq__) := ⟨rfl, rfl, rfl, by decide +kernel, rfl, by decide +kernel, by decide +kernel⟩
theorem sc_law_tells : FnScope ["schema", "drawn", "size", "width", "measure", "fields", "place", "name", "due", "other", "kind"] ["schema", "drawn"] (defScope s_law_tells) := ⟨rfl, rfl, rfl, by decide +kernel, rfl, by decide +kernel, by decide +kernel⟩
theorem sc_law : FnScope ["script", "state", "made", "turn", "drawn", "schema", "one", "first", "two", "second"] ["script"] (defScope s_law) := ⟨rfl, rfl, rfl, by decide +kernel, rfl, by decide +kernel, by decide +kernel⟩
/-! the mathematics -/

/-- the state of the draws stands at st -/
def StAt (H : Hp) (st sc : Addr) : Prop := ∃ (ns : List Int) (k x : Int), H st = some (.lst [.ref sc, .int k, .int x]) ∧ H sc = some (.lst (ns.map V.int)) ∧ 0 ≤ k ∧ 0 ≤ x ∧ ns.length ≤ 63
/-- all but st is as it was -/
def Oth (st : Addr) (H H' : Hp) : Prop := ∀ b, b ≠ st → H' b = H b
theorem Oth.refl (st : Addr) (H : Hp) : Oth st H H := fun _ _ => rfl
theorem Oth.trans {st : Addr} {H H1 H2 : Hp} (a : Oth st H H1) (b : Oth st H1 H2) : Oth st H H2 := fun c h => (b c h).trans (a c h)
theorem qT {Q : VK} {H : Hp} {c : Prop} [Decidable c] (h : c) (q : Q (.bl true) H) : Q (.bl (decide c)) H := by
  rw [decide_eq_true h]
  exact q
theorem qF {Q : VK} {H : Hp} {c : Prop} [Decidable c] (h : ¬ c) (q : Q (.bl false) H) : Q (.bl (decide c)) H := by
  rw [decide_eq_false h]
  exact q
theorem ixN_nat {n j : Nat} (h : j < n) : ixN n (j : Int) = some j := by
  unfold ixN
  rw [if_pos (by omega), if_pos (by omega)]
  simp
theorem item_map {ns : List Int} {k : Int} (h0 : 0 ≤ k) (h1 : k < ns.length) : ∃ c, atI (ns.map V.int) k = some (.int c) := by
  have hj : k.toNat < ns.length := by omega
  refine ⟨ns[k.toNat], at_of (j := k.toNat) (by omega) ?_⟩
  rw [List.getElem?_map, List.getElem?_eq_getElem hj]
  rfl

/-- what was tracked is so still, but for what stands at st -/
def Fr (st : Addr) (H H' : Hp) : Prop := ∀ b o, H b = some o → b ≠ st → H' b = some o
theorem Fr.refl (st : Addr) (H : Hp) : Fr st H H := fun _ _ h _ => h
theorem Fr.trans {st : Addr} {H H1 H2 : Hp} (a : Fr st H H1) (b : Fr st H1 H2) : Fr st H H2 := fun c o h n => b c o (a c o h n) n
theorem Oth.fr {st : Addr} {H H' : Hp} (h : Oth st H H') : Fr st H H' := fun b _ e n => (h b n).trans e
theorem Fr.new {st : Addr} {H : Hp} {p : Addr} {o : HO} (h : H p = none) : Fr st H (upd H p o) := fun b u e _ => by
  rw [upd_ne (ne_of_none e h)]
  exact e
theorem Fr.set {st : Addr} {H H' : Hp} {p : Addr} {o : HO} (f : Fr st H H') (h : H p = none) : Fr st H (upd H' p o) := fun b u e n => by
  rw [upd_ne (ne_of_none e h)]
  exact f b u e n
theorem Fr.lst {st : Addr} {H H' : Hp} (f : Fr st H H') {b : Addr} {o : HO} (e : H b = some o) (n : b ≠ st) : H' b = some o := f b o e n
/-- a list of integers is not the state -/
theorem st_ne {H : Hp} {st b sc : Addr} (hS : StAt H st sc) {xs : List Int} (h : H b = some (.lst (xs.map V.int))) : b ≠ st := fun e => by
  obtain ⟨ns, k, x, h1, _⟩ := hS
  rw [e, h1] at h
  have z := HO.lst.inj (Option.some.inj h)
  cases xs with
  | nil => cases z
  | cons y r => cases (List.cons.inj z).1
theorem st_new {H : Hp} {st b sc : Addr} (hS : StAt H st sc) (h : H b = none) : b ≠ st := fun e => by
  obtain ⟨ns, k, x, h1, _⟩ := hS
  rw [e, h1] at h
  cases h
/-- the state's own list of the script stands apart from all that is new -/
theorem StAt.new {H : Hp} {st p sc : Addr} {o : HO} (hS : StAt H st sc) (hn : H p = none) : StAt (upd H p o) st sc := by
  obtain ⟨ns, k, x, h1, h2, k0, x0, hl⟩ := hS
  exact ⟨ns, k, x, by rw [upd_ne (ne_of_none h1 hn)]; exact h1, by rw [upd_ne (ne_of_none h2 hn)]; exact h2, k0, x0, hl⟩
theorem StAt.set {H H' : Hp} {st p sc : Addr} {o : HO} (hS' : StAt H' st sc) (hS : StAt H st sc) (hn : H p = none) : StAt (upd H' p o) st sc := by
  obtain ⟨ns, k, x, h1, h2, k0, x0, hl⟩ := hS
  obtain ⟨ns', k', x', h1', h2', k0', x0', hl'⟩ := hS'
  exact ⟨ns', k', x', by rw [upd_ne (ne_of_none h1 hn)]; exact h1', by rw [upd_ne (ne_of_none h2 hn)]; exact h2', k0', x0', hl'⟩
def Bd (n : Int) (xs : List Int) : Prop := ∀ z ∈ xs, -n ≤ z ∧ z ≤ n
theorem Bd.at {n : Int} {xs : List Int} (h : Bd n xs) {i : Nat} {z : Int} (e : xs[i]? = some z) : -n ≤ z ∧ z ≤ n := h z (List.mem_of_getElem? e)
def dist : List Int → List Int → Int
  | x :: xs, y :: ys => (x - y) * (x - y) + dist xs ys
  | _, _ => 0
theorem sq_nn (x : Int) : 0 ≤ x * x := by
  rcases Int.le_total 0 x with h | h
  · exact Int.mul_nonneg h h
  · have := Int.mul_nonneg (Int.neg_nonneg_of_nonpos h) (Int.neg_nonneg_of_nonpos h)
    rwa [Int.neg_mul_neg] at this
theorem dist_nn : ∀ xs ys : List Int, 0 ≤ dist xs ys
  | [], _ => by unfold dist; exact Int.le_refl 0
  | _ :: _, [] => by unfold dist; exact Int.le_refl 0
  | x :: xs, y :: ys => by
    unfold dist
    have := dist_nn xs ys
    have := sq_nn (x - y)
    omega
theorem dist_take : ∀ {xs ys : List Int} {i : Nat} {x y : Int}, xs[i]? = some x → ys[i]? = some y → dist (xs.take (i + 1)) (ys.take (i + 1)) = dist (xs.take i) (ys.take i) + (x - y) * (x - y)
  | [], _, _, _, _, h, _ => by simp at h
  | _ :: _, [], _, _, _, _, h => by simp at h
  | a :: r, b :: t, 0, x, y, h, h2 => by
    have e1 : a = x := Option.some.inj h
    have e2 : b = y := Option.some.inj h2
    subst e1 e2
    simp [dist]
  | a :: r, b :: t, i + 1, x, y, h, h2 => by
    have ih := dist_take (xs := r) (ys := t) (i := i) (x := x) (y := y) h h2
    show (a - b) * (a - b) + dist (r.take (i + 1)) (t.take (i + 1)) = (a - b) * (a - b) + dist (r.take i) (t.take i) + (x - y) * (x - y)
    rw [ih]
    omega
theorem sq_le {x n : Int} (h1 : -n ≤ x) (h2 : x ≤ n) : x * x ≤ n * n := by
  have a : 0 ≤ n - x := by omega
  have b : 0 ≤ n + x := by omega
  have c := Int.mul_nonneg a b
  have e : (n - x) * (n + x) = n * n - x * x := by grind
  omega
theorem dist_le {n : Int} : ∀ {xs ys : List Int}, Bd n xs → Bd n ys → dist xs ys ≤ xs.length * (4 * (n * n))
  | [], _, _, _ => by simp [dist]
  | x :: xs, [], _, _ => by
    unfold dist
    exact Int.mul_nonneg (Int.natCast_nonneg _) (Int.mul_nonneg (by decide) (sq_nn n))
  | x :: xs, y :: ys, hx, hy => by
    have ih := dist_le (n := n) (xs := xs) (ys := ys) (fun z h => hx z (List.mem_cons_of_mem _ h)) (fun z h => hy z (List.mem_cons_of_mem _ h))
    have h1 := hx x (List.mem_cons_self)
    have h2 := hy y (List.mem_cons_self)
    have h3 : (x - y) * (x - y) ≤ (2 * n) * (2 * n) := sq_le (by omega) (by omega)
    have e : (2 * n) * (2 * n) = 4 * (n * n) := by grind
    unfold dist
    rw [List.length_cons]
    have e2 : ((xs.length + 1 : Nat) : Int) * (4 * (n * n)) = xs.length * (4 * (n * n)) + 4 * (n * n) := by grind
    omega
theorem get_map {xs : List Int} {i : Nat} {y : V} (h : (xs.map V.int)[i]? = some y) : ∃ z, y = V.int z ∧ xs[i]? = some z := by
  rw [List.getElem?_map] at h
  cases e : xs[i]? with
  | none =>
    rw [e] at h
    cases h
  | some z =>
    rw [e] at h
    exact ⟨z, (Option.some.inj h).symm, rfl⟩
theorem map_get {xs : List Int} {i : Nat} {z : Int} (h : xs[i]? = some z) : (xs.map V.int)[i]? = some (V.int z) := by
  rw [List.getElem?_map, h]
  rfl
theorem len_le {n : Nat} (h : n ≤ 1000) : n < sizeLine := small1000 h

/-- at p stands a list of n integers, none beyond s -/
def IsPt (H : Hp) (p : Addr) (n s : Int) (zs : List Int) : Prop := H p = some (.lst (zs.map V.int)) ∧ (zs.length : Int) = n ∧ Bd s zs
theorem IsPt.fr {H H' : Hp} {p st sc : Addr} {n s : Int} {zs : List Int} (h : IsPt H p n s zs) (hS : StAt H st sc) (f : Fr st H H') : IsPt H' p n s zs := ⟨f _ _ h.1 (st_ne hS h.1), h.2.1, h.2.2⟩
theorem IsPt.wide {H : Hp} {p : Addr} {n s t : Int} {zs : List Int} (h : IsPt H p n s zs) (e : s ≤ t) : IsPt H p n t zs := ⟨h.1, h.2.1, fun z hz => by have := h.2.2 z hz; omega⟩
theorem IsPt.get {H : Hp} {p : Addr} {n s : Int} {zs : List Int} (h : IsPt H p n s zs) {i : Nat} (hi : (i : Int) < n) : ∃ z, zs[i]? = some z ∧ -s ≤ z ∧ z ≤ s := by
  have hl : i < zs.length := by have := h.2.1; omega
  exact ⟨zs[i], List.getElem?_eq_getElem hl, h.2.2.at (List.getElem?_eq_getElem hl)⟩
theorem dist_small {H : Hp} {p r : Addr} {n : Int} {xs ys : List Int} (h1 : IsPt H p n 30000 xs) (h2 : IsPt H r n 30000 ys) (hn : n ≤ 5) : 0 ≤ dist xs ys ∧ dist xs ys < 100000000000 := by
  refine ⟨dist_nn _ _, ?_⟩
  have a := dist_le h1.2.2 h2.2.2
  have b := h1.2.1
  have e : (30000 : Int) * 30000 = 900000000 := by decide
  rw [e] at a
  have : (xs.length : Int) * (4 * 900000000) ≤ 5 * (4 * 900000000) := by omega
  omega
theorem pick4 {a b c d k : Int} (h0 : 0 ≤ k) (h1 : k < 4) : ∃ v, atI [V.int a, V.int b, V.int c, V.int d] k = some (.int v) ∧ (v = a ∨ v = b ∨ v = c ∨ v = d) := by
  have : k = 0 ∨ k = 1 ∨ k = 2 ∨ k = 3 := by omega
  rcases this with rfl | rfl | rfl | rfl
  · exact ⟨a, at_of (j := 0) rfl rfl, .inl rfl⟩
  · exact ⟨b, at_of (j := 1) rfl rfl, .inr (.inl rfl)⟩
  · exact ⟨c, at_of (j := 2) rfl rfl, .inr (.inr (.inl rfl))⟩
  · exact ⟨d, at_of (j := 3) rfl rfl, .inr (.inr (.inr rfl))⟩
theorem st_made {H : Hp} {sc st : Addr} {ns : List Int} (h1 : H sc = none) (h2 : upd H sc (.lst (ns.map V.int)) st = none) (hl : ns.length ≤ 63) : StAt (upd (upd H sc (.lst (ns.map V.int))) st (.lst [.ref sc, .int 0, .int 0])) st sc := by
  have ne : sc ≠ st := fun e => by
    rw [← e, upd_same] at h2
    cases h2
  exact ⟨ns, 0, 0, upd_same, by rw [upd_ne ne, upd_same], by decide, by decide, hl⟩

theorem same_fr {st : Addr} {H H' : Hp} (h : Same H H') : Fr st H H' := fun b o e _ => h b o e
theorem same_new {H : Hp} {p : Addr} {o : HO} (h : H p = none) : Same H (upd H p o) := fun b u e => by
  rw [upd_ne (ne_of_none e h)]
  exact e
theorem same_set {H H' : Hp} {p : Addr} {o : HO} (f : Same H H') (h : H p = none) : Same H (upd H' p o) := fun b u e => by
  rw [upd_ne (ne_of_none e h)]
  exact f b u e
theorem StAt.same {H H' : Hp} {st sc : Addr} (hS : StAt H st sc) (f : Same H H') : StAt H' st sc := by
  obtain ⟨ns, k, x, h1, h2, k0, x0, hl⟩ := hS
  exact ⟨ns, k, x, f _ _ h1, f _ _ h2, k0, x0, hl⟩
/-- the terms of a sum over two lists -/
def ter (f : Int → Int → Int) (xs ys : List Int) : List Int := List.zipWith f xs ys
theorem ter_get {f : Int → Int → Int} {xs ys : List Int} {i : Nat} {x y : Int} (hx : xs[i]? = some x) (hy : ys[i]? = some y) : (ter f xs ys)[i]? = some (f x y) := by
  unfold ter
  rw [List.getElem?_zipWith, hx, hy]
theorem ter_len {f : Int → Int → Int} {xs ys : List Int} (h : xs.length = ys.length) : (ter f xs ys).length = xs.length := by
  unfold ter
  rw [List.length_zipWith]
  omega
def fMul (x y : Int) : Int := x * y
def fSq (x y : Int) : Int := (x - y) * (x - y)
def fNe (x y : Int) : Int := if x = y then 0 else 1

mutual
/-- v is the datum d, all of whose objects stand away from N -/
inductive Dt (N : List Addr) (H : Hp) : V → PyData → Prop
  | non : Dt N H .non .none
  | bl (b : Bool) : Dt N H (.bl b) (.bool b)
  | int (i : Int) : Dt N H (.int i) (.int i)
  | str (x : Str) : Dt N H (.str x) (.str x)
  | lst {a : Addr} {xs : List V} {ds : List PyData} : a ∉ N → H a = some (.lst xs) → Dts N H xs ds → Dt N H (.ref a) (.list ds)
  | tup {a : Addr} {xs : List V} {ds : List PyData} : a ∉ N → H a = some (.tup xs) → Dts N H xs ds → Dt N H (.ref a) (.tuple ds)
inductive Dts (N : List Addr) (H : Hp) : List V → List PyData → Prop
  | nil : Dts N H [] []
  | cons {v : V} {vs : List V} {d : PyData} {ds : List PyData} : Dt N H v d → Dts N H vs ds → Dts N H (v :: vs) (d :: ds)
end
mutual
theorem Dt.mono {N M : List Addr} {H H' : Hp} (f : ∀ a o, a ∉ N → H a = some o → a ∉ M ∧ H' a = some o) : ∀ {v : V} {d : PyData}, Dt N H v d → Dt M H' v d
  | _, _, .non => .non
  | _, _, .bl b => .bl b
  | _, _, .int i => .int i
  | _, _, .str x => .str x
  | _, _, .lst n h t => .lst (f _ _ n h).1 (f _ _ n h).2 (Dts.mono f t)
  | _, _, .tup n h t => .tup (f _ _ n h).1 (f _ _ n h).2 (Dts.mono f t)
theorem Dts.mono {N M : List Addr} {H H' : Hp} (f : ∀ a o, a ∉ N → H a = some o → a ∉ M ∧ H' a = some o) : ∀ {vs : List V} {ds : List PyData}, Dts N H vs ds → Dts M H' vs ds
  | _, _, .nil => .nil
  | _, _, .cons x t => .cons (Dt.mono f x) (Dts.mono f t)
end
mutual
theorem Dt.dp {K : PySem.W.Frag} {N : List Addr} {H : Hp} : ∀ {v : V} {d : PyData}, Dt N H v d → Dp K H v d
  | _, _, .non => .non
  | _, _, .bl b => .bl b
  | _, _, .int i => .int i
  | _, _, .str x => .str x
  | _, _, .lst _ h t => .lst (SqL.of h) (Dts.dp t)
  | _, _, .tup _ h t => .tup (SqT.of h) (Dts.dp t)
theorem Dts.dp {K : PySem.W.Frag} {N : List Addr} {H : Hp} : ∀ {vs : List V} {ds : List PyData}, Dts N H vs ds → DpAll K H vs ds
  | _, _, .nil => .nil
  | _, _, .cons x t => .cons (Dt.dp x) (Dts.dp t)
end
theorem Dt.same {N : List Addr} {H H' : Hp} {v : V} {d : PyData} (f : Same H H') (h : Dt N H v d) : Dt N H' v d := h.mono fun a o n e => ⟨n, f a o e⟩
theorem Dts.same {N : List Addr} {H H' : Hp} {v : List V} {d : List PyData} (f : Same H H') (h : Dts N H v d) : Dts N H' v d := h.mono fun a o n e => ⟨n, f a o e⟩
theorem Dt.fr {N : List Addr} {H H' : Hp} {st : Addr} {v : V} {d : PyData} (f : Fr st H H') (m : st ∈ N) (h : Dt N H v d) : Dt N H' v d := h.mono fun a o n e => ⟨n, f a o e fun z => by rw [z] at n; exact n m⟩
theorem Dts.fr {N : List Addr} {H H' : Hp} {st : Addr} {v : List V} {d : List PyData} (f : Fr st H H') (m : st ∈ N) (h : Dts N H v d) : Dts N H' v d := h.mono fun a o n e => ⟨n, f a o e fun z => by rw [z] at n; exact n m⟩
theorem Dt.upd {N : List Addr} {H : Hp} {p : Addr} {o : HO} {v : V} {d : PyData} (m : p ∈ N) (h : Dt N H v d) : Dt N (upd H p o) v d := h.mono fun a u n e => ⟨n, by rw [upd_ne fun z => by rw [z] at n; exact n m]; exact e⟩
theorem Dts.upd {N : List Addr} {H : Hp} {p : Addr} {o : HO} {v : List V} {d : List PyData} (m : p ∈ N) (h : Dts N H v d) : Dts N (upd H p o) v d := h.mono fun a u n e => ⟨n, by rw [upd_ne fun z => by rw [z] at n; exact n m]; exact e⟩
theorem Dt.new {N : List Addr} {H : Hp} {p : Addr} {o : HO} {v : V} {d : PyData} (m : H p = none) (h : Dt N H v d) : Dt N (L2.upd H p o) v d := h.same (same_new m)
theorem Dts.new {N : List Addr} {H : Hp} {p : Addr} {o : HO} {v : List V} {d : List PyData} (m : H p = none) (h : Dts N H v d) : Dts N (L2.upd H p o) v d := h.same (same_new m)
theorem Dt.away {N : List Addr} {H : Hp} {p : Addr} {v : V} {d : PyData} (m : H p = none) (h : Dt N H v d) : Dt (p :: N) H v d := h.mono fun a o n e => ⟨fun z => by
  rcases List.mem_cons.mp z with y | y
  · rw [y, m] at e; cases e
  · exact n y, e⟩
theorem Dts.away {N : List Addr} {H : Hp} {p : Addr} {v : List V} {d : List PyData} (m : H p = none) (h : Dts N H v d) : Dts (p :: N) H v d := h.mono fun a o n e => ⟨fun z => by
  rcases List.mem_cons.mp z with y | y
  · rw [y, m] at e; cases e
  · exact n y, e⟩
theorem Dt.weak {N : List Addr} {H : Hp} {p : Addr} {v : V} {d : PyData} (h : Dt (p :: N) H v d) : Dt N H v d := h.mono fun a o n e => ⟨fun z => n (List.mem_cons_of_mem _ z), e⟩
theorem Dts.weak {N : List Addr} {H : Hp} {p : Addr} {v : List V} {d : List PyData} (h : Dts (p :: N) H v d) : Dts N H v d := h.mono fun a o n e => ⟨fun z => n (List.mem_cons_of_mem _ z), e⟩
theorem Dts.length {N : List Addr} {H : Hp} : ∀ {vs : List V} {ds : List PyData}, Dts N H vs ds → vs.length = ds.length
  | _, _, .nil => rfl
  | _, _, .cons _ t => congrArg Nat.succ t.length
theorem Dts.get {N : List Addr} {H : Hp} : ∀ {vs : List V} {ds : List PyData} {i : Nat} {v : V}, Dts N H vs ds → vs[i]? = some v → ∃ d, ds[i]? = some d ∧ Dt N H v d
  | _, _, _, _, .nil, h => by simp at h
  | _, _, 0, _, .cons x _, h => by
    have e := Option.some.inj h
    subst e
    exact ⟨_, rfl, x⟩
  | _, _, i + 1, _, .cons _ t, h => t.get (i := i) h
theorem Dts.at {N : List Addr} {H : Hp} : ∀ {vs : List V} {ds : List PyData} {i : Nat} {d : PyData}, Dts N H vs ds → ds[i]? = some d → ∃ v, vs[i]? = some v ∧ Dt N H v d
  | _, _, _, _, .nil, h => by simp at h
  | _, _, 0, _, .cons x _, h => by
    have e := Option.some.inj h
    subst e
    exact ⟨_, rfl, x⟩
  | _, _, i + 1, _, .cons _ t, h => t.at (i := i) h
theorem Dts.app {N : List Addr} {H : Hp} : ∀ {vs ws : List V} {ds es : List PyData}, Dts N H vs ds → Dts N H ws es → Dts N H (vs ++ ws) (ds ++ es)
  | _, _, _, _, .nil, h => h
  | _, _, _, _, .cons x t, h => .cons x (t.app h)
theorem Dts.snoc {N : List Addr} {H : Hp} {vs : List V} {ds : List PyData} {v : V} {d : PyData} (h : Dts N H vs ds) (x : Dt N H v d) : Dts N H (vs ++ [v]) (ds ++ [d]) := h.app (.cons x .nil)
theorem Dts.ints {N : List Addr} {H : Hp} : ∀ xs : List Int, Dts N H (xs.map V.int) (xs.map PyData.int)
  | [] => .nil
  | x :: r => .cons (.int x) (Dts.ints r)
theorem Dt.isL {N : List Addr} {H : Hp} {v : V} {ds : List PyData} (h : Dt N H v (.list ds)) : ∃ p vs, v = .ref p ∧ p ∉ N ∧ H p = some (.lst vs) ∧ Dts N H vs ds := by
  cases h with
  | lst n e t => exact ⟨_, _, rfl, n, e, t⟩
theorem Dt.isT {N : List Addr} {H : Hp} {v : V} {ds : List PyData} (h : Dt N H v (.tuple ds)) : ∃ p vs, v = .ref p ∧ p ∉ N ∧ H p = some (.tup vs) ∧ Dts N H vs ds := by
  cases h with
  | tup n e t => exact ⟨_, _, rfl, n, e, t⟩
theorem Dt.isS {N : List Addr} {H : Hp} {v : V} {x : Str} (h : Dt N H v (.str x)) : v = .str x := by cases h; rfl
theorem Dt.isI {N : List Addr} {H : Hp} {v : V} {x : Int} (h : Dt N H v (.int x)) : v = .int x := by cases h; rfl
theorem Dts.two {N : List Addr} {H : Hp} {vs : List V} {d e : PyData} (h : Dts N H vs [d, e]) : ∃ v w, vs = [v, w] ∧ Dt N H v d ∧ Dt N H w e := by
  cases h with
  | cons x t => cases t with
    | cons y t => cases t; exact ⟨_, _, rfl, x, y⟩
theorem Dts.three {N : List Addr} {H : Hp} {vs : List V} {d e f : PyData} (h : Dts N H vs [d, e, f]) : ∃ v w x, vs = [v, w, x] ∧ Dt N H v d ∧ Dt N H w e ∧ Dt N H x f := by
  cases h with
  | cons x t => cases t with
    | cons y t => cases t with
      | cons z t => cases t; exact ⟨_, _, _, rfl, x, y, z⟩
theorem Dts.isInts {N : List Addr} {H : Hp} : ∀ {xs : List Int} {vs : List V}, Dts N H vs (xs.map PyData.int) → vs = xs.map V.int
  | [], _, .nil => rfl
  | x :: r, _, .cons h t => by
    rw [h.isI, Dts.isInts t]
    rfl
/-- a pair of a text and something -/
theorem Dt.isP {N : List Addr} {H : Hp} {v : V} {x : Str} {d : PyData} (h : Dt N H v (.tuple [.str x, d])) : ∃ p w, v = .ref p ∧ p ∉ N ∧ H p = some (.tup [.str x, w]) ∧ Dt N H w d := by
  obtain ⟨p, vs, e, n, hp, t⟩ := h.isT
  obtain ⟨v', w, e2, h1, h2⟩ := t.two
  rw [h1.isS] at e2
  subst e2
  exact ⟨p, w, e, n, hp, h2⟩
theorem Dt.nilN {N : List Addr} {H : Hp} {v : V} {d : PyData} (h : Dt N H v d) : Dt [] H v d := h.mono fun a o _ e => ⟨(fun z => by cases z), e⟩
theorem Dts.nilN {N : List Addr} {H : Hp} {v : List V} {d : List PyData} (h : Dts N H v d) : Dts [] H v d := h.mono fun a o _ e => ⟨(fun z => by cases z), e⟩
/-- a list under work at D holds these data; its parts stand away from D and N -/
def Bl (N : List Addr) (D : Addr) (H : Hp) (ds : List PyData) : Prop := ∃ vs, H D = some (.lst vs) ∧ Dts (D :: N) H vs ds
theorem Bl.nil {N : List Addr} {D : Addr} {H : Hp} : Bl N D (upd H D (.lst [])) [] := ⟨[], upd_same, .nil⟩
theorem Bl.fr {N : List Addr} {D st : Addr} {H H' : Hp} {ds : List PyData} (h : Bl N D H ds) (n : D ≠ st) (m : st ∈ N) (f : Fr st H H') : Bl N D H' ds := by
  obtain ⟨vs, e, t⟩ := h
  exact ⟨vs, f _ _ e n, t.fr f (List.mem_cons_of_mem _ m)⟩
theorem Bl.same {N : List Addr} {D : Addr} {H H' : Hp} {ds : List PyData} (h : Bl N D H ds) (f : Same H H') : Bl N D H' ds := by
  obtain ⟨vs, e, t⟩ := h
  exact ⟨vs, f _ _ e, t.same f⟩
theorem Bl.push {N : List Addr} {D : Addr} {H : Hp} {ds : List PyData} {vs : List V} {v : V} {d : PyData} (e : H D = some (.lst vs)) (t : Dts (D :: N) H vs ds) (x : Dt (D :: N) H v d) : Bl N D (upd H D (.lst (vs ++ [v]))) (ds ++ [d]) :=
  ⟨_, upd_same, (t.snoc x).upd (List.mem_cons_self ..)⟩
theorem Bl.done {N : List Addr} {D : Addr} {H : Hp} {ds : List PyData} (h : Bl N D H ds) (n : D ∉ N) : Dt N H (.ref D) (.list ds) := by
  obtain ⟨vs, e, t⟩ := h
  exact .lst n e t.weak
theorem not_in1 {a b : Addr} (h : a ≠ b) : a ∉ [b] := fun z => h (List.mem_singleton.mp z)
theorem not_in2 {a b c : Addr} (h : a ≠ b) (g : a ≠ c) : a ∉ [b, c] := fun z => by
  rcases List.mem_cons.mp z with y | y
  · exact h y
  · exact g (List.mem_singleton.mp y)
theorem in1 {a : Addr} : a ∈ [a] := List.mem_cons_self ..
theorem in2 {a b : Addr} : b ∈ [a, b] := List.mem_cons_of_mem _ (List.mem_cons_self ..)
/-- the list at D grows by what was new -/
theorem fr_app {st : Addr} {H0 H : Hp} {D : Addr} {o : HO} (f : Fr st H0 H) (h : H0 D = none) : Fr st H0 (upd H D o) := f.set h

theorem pickS {xs : List Str} {d : Int} (h0 : 0 ≤ d) (h1 : d < xs.length) : ∃ z, atI (xs.map V.str) d = some (.str z) ∧ z ∈ xs := by
  have hj : d.toNat < xs.length := by omega
  refine ⟨xs[d.toNat], at_of (j := d.toNat) (by omega) ?_, List.getElem_mem hj⟩
  rw [List.getElem?_map, List.getElem?_eq_getElem hj]
  rfl
def WIDE3 : List Str := ["bit", "small", "wide"]
def MEAS3 : List Str := ["square", "dot", "bits"]
def KIND3 : List Str := ["integer", "text", "flag"]
def NAME4 : List Str := ["a", "b", "note", "_x"]
def fdD (f : Str × Str) : PyData := .tuple [.str f.1, .str f.2]
structure FieldsOk (fs : List (Str × Str)) : Prop where
  len : fs.length ≤ 3
  names : fs.map (·.1) = NAME4.take fs.length
  kinds : ∀ f ∈ fs, f.2 ∈ KIND3
theorem FieldsOk.snoc {fs : List (Str × Str)} {n k : Str} (h1 : fs.length < 3) (h2 : fs.map (·.1) = NAME4.take fs.length) (h3 : ∀ f ∈ fs, f.2 ∈ KIND3) (hn : NAME4[fs.length]? = some n) (hk : k ∈ KIND3) : FieldsOk (fs ++ [(n, k)]) := by
  refine ⟨by simp; omega, ?_, fun f hf => ?_⟩
  · rw [List.map_append, h2, List.length_append, List.length_singleton, List.take_add_one, hn]
    rfl
  · rcases List.mem_append.mp hf with h | h
    · exact h3 f h
    · rw [List.mem_singleton] at h
      subst h
      exact hk
theorem wide3 {w : Str} (h : w ∈ WIDE3) : ∃ (j : Nat) (lo hi : Int), [V.str "bit", V.str "small", V.str "wide"][j]? = some (.str w) ∧ eqV (.str w) (.str w) = true ∧ (∀ (m : Nat) (z' : V), m < j → [V.str "bit", V.str "small", V.str "wide"][m]? = some z' → eqV z' (.str w) = false)
    ∧ [V.int 0, V.int (-128), V.int (-32768)][j]? = some (.int lo) ∧ [V.int 1, V.int 127, V.int 32767][j]? = some (.int hi) ∧ -32768 ≤ lo ∧ lo ≤ 0 ∧ 1 ≤ hi ∧ hi ≤ 32767 := by
  unfold WIDE3 at h
  simp only [List.mem_cons, List.not_mem_nil, or_false] at h
  rcases h with rfl | rfl | rfl
  · exact ⟨0, _, _, rfl, by decide +kernel, fun m z' hm _ => absurd hm (Nat.not_lt_zero _), rfl, rfl, by decide, by decide, by decide, by decide⟩
  · refine ⟨1, _, _, rfl, by decide +kernel, fun m z' hm e => ?_, rfl, rfl, by decide, by decide, by decide, by decide⟩
    have : m = 0 := by omega
    subst this
    cases Option.some.inj e
    decide +kernel
  · refine ⟨2, _, _, rfl, by decide +kernel, fun m z' hm e => ?_, rfl, rfl, by decide, by decide, by decide, by decide⟩
    have : m = 0 ∨ m = 1 := by omega
    rcases this with rfl | rfl
    · cases Option.some.inj e
      decide +kernel
    · cases Option.some.inj e
      decide +kernel
/-- values of a field -/
def prD (p : Str × PyData) : PyData := .tuple [.str p.1, p.2]
def IsVal (d : PyData) : Prop := (∃ i, d = .int i) ∨ (∃ z, d = .str z ∧ PyData.strOk z = true ∧ z.length ≤ 8) ∨ ∃ b, d = .bool b
structure PairsOk (ps : List (Str × PyData)) : Prop where
  len : ps.length ≤ 8
  names : ∀ p ∈ ps, PyData.strOk p.1 = true ∧ p.1.length ≤ 8
  vals : ∀ p ∈ ps, IsVal p.2
def wdD (w : Str × Int) : PyData := .tuple [.str w.1, .int w.2]
structure WordsOk (ws : List (Str × Int)) : Prop where
  len : ws.length ≤ 8
  words : ∀ w ∈ ws, PyData.strOk w.1 = true ∧ w.1.length ≤ 8

theorem kit_self {K : PySem.W.Frag} {C : Addr} : PySem.W.kitOne K (.ref C) (.ref C) = some true := by
  unfold PySem.W.kitOne
  rw [if_pos (by simp)]
theorem kit_sub {K : PySem.W.Frag} {t : Value} {C : Addr} {v : Bool} (h1 : PySem.W.isClsIn K C = true) (h2 : PySem.W.typeIn K (.ref C) = some (.type "type")) (h3 : PySem.W.subIn K t (.ref C) = some v) (h4 : (t == .ref C) = false) : PySem.W.kitOne K t (.ref C) = some v := by
  unfold PySem.W.kitOne
  rw [h4, if_neg Bool.false_ne_true]
  unfold PySem.W.kitCls
  have h1' : (PySem.W.clsIn K C).isSome = true := h1
  simp only [h1', h2, Bool.true_and]
  simp [h3]
theorem nf_self {K : PySem.W.Frag} {C : Addr} : PySem.W.notFirst K C (.ref C) = true := by simp [PySem.W.notFirst]
theorem nf_sub {K : PySem.W.Frag} {C : Addr} {t : Value} (h : PySem.W.subIn K t (.ref C) = some false) : PySem.W.notFirst K C t = true := by simp [PySem.W.notFirst, h]
/-- x == y, x an instance of a class with an own ==, y anything -/
def rOwnEq (K : PySem.W.Frag) (C : Addr) (sp : Sp) (E : XK) : R2 := fun x y H Q => ∃ a dx fs t, x = .ref a ∧ H a = some (.ins C dx fs) ∧ TyX K H y t ∧ PySem.W.notFirst K C t = true ∧ sp [x, y] H (fun z H' => ∃ b, z = .bl b ∧ Q z H') E
theorem op_ownEq {X : Cx} {CX : CXT} {C f : Addr} {fd : FuncData} {ps : List Str} {sp : Sp} {n : Nat} {E : XK} (M : Meth X.K C "__eq__" f) (F : FnOk X.prog X.w X.K X.mg X.base CX n f fd ps sp) (hr : Room n X.A)
    (hb : Binds X.K fd ps []) (hx : Passes CX X E) : OpR X (compareOp .Eq) (rOwnEq X.K C sp E) := by
  intro pins s σ H x y v u Q I rx ry h
  obtain ⟨a, dx, fs, t, rfl, ha, ty, hn, q⟩ := h
  cases (show v = Value.ref a from rx)
  obtain ⟨mA, J, _⟩ := ins_get I.hok ha
  obtain ⟨od, J, _⟩ := J.look
  obtain ⟨P, Z, p, _⟩ := kit_of I ry ty
  obtain ⟨m, hF⟩ := I.fr
  show wpAny (model X.prog X.w) X.A (richCompare .Eq (.ref a) u) _ _ _
  refine PySem.W.cmp_K (op := .Eq) (tb := t) hr.units0 hF I.ok.mod.kin J (Z.ty _ _ I.kIn p) hn M.at_ M.fn ?_
  refine wpAny_mono (run_fn (Q := fun z H' => ∃ b, z = .bl b ∧ Q z H') (us := [.ref a, u]) (vs := [.ref a, y]) F hr hb .nil hx I (.cons rfl (.cons ry .nil)) (by simpa using q)) (fun w s' z => ?_) fun _ _ x => x
  obtain ⟨z', H', I', rz, b, ez, qz⟩ := z
  subst ez
  cases (show w = Value.bool b from rz)
  exact ⟨.bl b, H', I', rfl, qz⟩

theorem pi_tupB {X : Cx} {K : PySem.W.Frag} (hK : X.K = K) {tg l : Expr} {tl : TE} (hl : PE X l tl) : PI X tg l (iTup K tl) := by
  subst hK
  exact pi_tup hl
theorem pi_listB {X : Cx} {K : PySem.W.Frag} (hK : X.K = K) {tg l : Expr} {tl : TE} (hl : PE X l tl) : PI X tg l (iList K tl) := by
  subst hK
  exact pi_list hl
def rLenB (K : PySem.W.Frag) : List V → Hp → VK → Prop := fun xs H Q => ∃ p ys, xs = [.ref p] ∧ (SqL K H p ys ∨ SqT K H p ys) ∧ Q (.int ys.length) H
def rListB (K : PySem.W.Frag) : List V → Hp → VK → Prop := fun xs H Q => ∃ p ys, xs = [.ref p] ∧ (SqL K H p ys ∨ SqT K H p ys) ∧ ∀ l, H l = none → Q (.ref l) (upd H l (.lst ys))
def rTupleB (K : PySem.W.Frag) : List V → Hp → VK → Prop := fun xs H Q => ∃ p ys, xs = [.ref p] ∧ ((SqL K H p ys ∧ ∀ l, H l = none → Q (.ref l) (upd H l (.tup ys))) ∨ (SqT K H p ys ∧ Q (.ref p) H))

def addS (l : List Str) (v : Str) : List Str := if l.any (· == v) then l else l ++ [v]
def uS (xs : List Str) : List Str := xs.foldl addS []
theorem addS_any (l : List Str) (v k : Str) : (addS l v).any (· == k) = (l.any (· == k) || decide (k = v)) := by
  unfold addS
  by_cases g : l.any (· == v) = true
  · rw [if_pos g]
    by_cases e : k = v
    · subst e
      rw [g]
      rfl
    · rw [decide_eq_false e, Bool.or_false]
  · rw [if_neg g, List.any_append]
    congr 1
    by_cases e : k = v
    · subst e
      simp
    · rw [decide_eq_false e]
      simpa using fun z : v = k => e z.symm
theorem addS_len (l : List Str) (v : Str) : (addS l v).length = if l.any (· == v) then l.length else l.length + 1 := by
  unfold addS
  by_cases g : l.any (· == v) = true
  · rw [if_pos g, if_pos g]
  · rw [if_neg g, if_neg g, List.length_append]
    rfl
theorem uS_succ {xs : List Str} {i : Nat} {v : Str} (h : xs[i]? = some v) : uS (xs.take (i + 1)) = addS (uS (xs.take i)) v := by
  unfold uS
  rw [List.take_add_one, h, List.foldl_append]
  rfl
theorem uS_fold : ∀ (xs acc : List Str), (xs.foldl addS acc).length ≤ acc.length + xs.length ∧ ((xs.foldl addS acc).length = acc.length + xs.length ↔ (∀ x ∈ xs, x ∉ acc) ∧ xs.Nodup)
  | [], acc => ⟨Nat.le_refl _, fun _ => ⟨fun x h => (nomatch h), List.nodup_nil⟩, fun _ => rfl⟩
  | x :: r, acc => by
    have ih := uS_fold r (addS acc x)
    show (r.foldl addS (addS acc x)).length ≤ _ ∧ ((r.foldl addS (addS acc x)).length = _ ↔ _)
    rw [List.length_cons]
    by_cases g : x ∈ acc
    · have e : addS acc x = acc := by
        unfold addS
        have z : (acc.any (· == x)) = true := List.any_eq_true.mpr ⟨x, g, beq_self_eq_true x⟩
        rw [if_pos z]
      rw [e] at ih ⊢
      refine ⟨by omega, fun h => by omega, fun h => absurd g (h.1 x (List.mem_cons_self ..))⟩
    · have e : addS acc x = acc ++ [x] := by
        unfold addS
        rw [if_neg]
        intro h
        obtain ⟨y, h1, h2⟩ := List.any_eq_true.mp h
        rw [eq_of_beq h2] at h1
        exact g h1
      rw [e] at ih ⊢
      rw [List.length_append, List.length_singleton] at ih
      refine ⟨by omega, fun h => ?_, fun h => ?_⟩
      · obtain ⟨a, b⟩ := ih.2.mp (by omega)
        refine ⟨fun y hy => ?_, List.nodup_cons.mpr ⟨fun hx => a x hx (List.mem_append_right _ (List.mem_singleton.mpr rfl)), b⟩⟩
        rcases List.mem_cons.mp hy with z | z
        · rw [z]; exact g
        · exact fun w => a y z (List.mem_append_left _ w)
      · have b := List.nodup_cons.mp h.2
        have := ih.2.mpr ⟨fun y hy w => ?_, b.2⟩
        · omega
        · rcases List.mem_append.mp w with z | z
          · exact h.1 y (List.mem_cons_of_mem _ hy) z
          · rw [List.mem_singleton.mp z] at hy
            exact b.1 hy
theorem uS_le (xs : List Str) : (uS xs).length ≤ xs.length := by
  have := (uS_fold xs []).1
  rw [List.length_nil, Nat.zero_add] at this
  exact this
theorem uS_nodup (xs : List Str) : (uS xs).length = xs.length ↔ xs.Nodup := by
  have := (uS_fold xs []).2
  unfold uS
  simp only [List.length_nil, Nat.zero_add] at this
  rw [this]
  exact ⟨fun h => h.2, fun h => ⟨fun x _ z => (nomatch z), h⟩⟩
section
variable {prog : Program} {w : World} {A : Around} {E : Value → Shared → Prop} {s : Shared}
/-- the set's own loop: the items enter one by one -/
theorem enter_texts {R : Result → Shared → Prop} {it : Addr} {own wr : List Addr} {G : Array GenState → Array GenState → Prop} {m : Nat} {P : Nat → Value → Prop} {St : Nat → Shared → Prop} (W : WalksS prog w A.in1 it own wr G m P St) (Z : Addr) (zo : Z ∉ own)
    (xs : List Str) (lx : xs.length = m) (room : m + 1 < scanBound) (isT : ∀ j v, P j v → ∃ t, v = .str (xs.getD j Str.empty) t) (left j : Nat) (t : Shared) (hj : m - j = left) (jm : j ≤ m) (at_ : St j t)
    (held : t.heap.SetOf (PySem.strKind prog w) Z (fun c => (uS (xs.take j)).any (· == c)) (uS (xs.take j)).length)
    (fin : ∀ u, Moved (Z :: wr) G t u → u.heap.SetOf (PySem.strKind prog w) Z (fun c => (uS (xs.take m)).any (· == c)) (uS (xs.take m)).length → R (.ok (.ret .none)) u) :
    codeAny (model prog w) A (.builtin "set.update.loop" ⟨[.ref Z, .ref it], []⟩) R t := by
  have zw : Z ∉ wr := fun b => zo (W.sub _ b)
  have inw : ∀ b ∈ wr, b ∈ Z :: wr := fun b g => List.mem_cons_of_mem _ g
  induction left generalizing j t with
  | zero =>
    obtain rfl : j = m := by omega
    refine codeAny_builtin (PyProof.Rows.F.entry_set_update_loop) ?_
    rw [Around.under_plainId (PyProof.Rows.F.plain_set_update_loop) _]
    show wpAny _ A.in1 (pyNext (.ref it) >>= _) _ _ t
    refine wpAny_bind (W.done t _ _ at_ fun u mv => ?_)
    show wpAny _ A.in1 (ret Value.none) _ _ u
    refine wpAny_pure (fin u (mv.mono inw) ?_)
    obtain ⟨ob, es, ep, tb, g, more⟩ := held
    exact ⟨ob, es, ep, tb, mv.heap Z _ zw g, more⟩
  | succ left ih =>
    have lt : j < m := by omega
    refine codeAny_builtin (PyProof.Rows.F.entry_set_update_loop) ?_
    rw [Around.under_plainId (PyProof.Rows.F.plain_set_update_loop) _]
    show wpAny _ A.in1 (pyNext (.ref it) >>= _) _ _ t
    refine wpAny_bind (W.item j t _ _ lt at_ fun v u pv at2 mv => ?_)
    obtain ⟨tk, rfl⟩ := isT j v pv
    have held2 : u.heap.SetOf (PySem.strKind prog w) Z (fun c => (uS (xs.take j)).any (· == c)) (uS (xs.take j)).length := by
      obtain ⟨ob, es, ep, tb, g, more⟩ := held
      exact ⟨ob, es, ep, tb, mv.heap Z _ zw g, more⟩
    show wpAny _ A.in1 (holding [Value.str (xs.getD j Str.empty) tk] (setAdd Z (.str (xs.getD j Str.empty) tk)) >>= _) _ _ u
    refine wpAny_bind (wpAny_holding ?_)
    unfold setAdd
    refine wpAny_holding (wpAny_bind ((PySem.strKind prog w).pyHash (k := xs.getD j Str.empty) (strKind_is _ _ _ _) ?_))
    have few : (uS (xs.take j)).length + 1 < scanBound := by
      have a := uS_le (xs.take j)
      have b : (xs.take j).length ≤ m := by rw [List.length_take]; omega
      omega
    refine wpAny_setAddHashed_of (knd := PySem.strKind prog w) (s := { u with toks := u.toks + 1 }) (strKind_is _ _ _ _) rfl held2 few fun h2 but held3 => ?_
    have gx : xs[j]? = some (xs.getD j Str.empty) := by
      rw [List.getD_eq_getElem?_getD, List.getElem?_eq_getElem (by omega)]
      rfl
    have held4 : h2.SetOf (PySem.strKind prog w) Z (fun c => (uS (xs.take (j + 1))).any (· == c)) (uS (xs.take (j + 1))).length := by
      rw [uS_succ gx]
      exact PyProof.Rows.SetOf_congr held3 (fun c => (addS_any _ _ c).symm) (addS_len _ _).symm
    refine wpAny_pure ⟨plainId_quiet (PyProof.Rows.F.plain_set_update_loop) _, ih (j + 1) _ (by omega) lt (W.frame _ u _ _ at2 (Nat.le_succ _) fun b g ob e => ?_) held4 fun u2 mv2 held5 => ?_⟩
    · rw [but.2 b (fun y : b = Z => zo (by rw [← y]; exact g))]
      exact e
    · refine fin u2 (Moved.trans W.gtrans ((mv.mono inw).then_heap (Nat.le_succ _) fun b ob g e => ?_) mv2) held5
      rw [but.2 b (fun y : b = Z => g (by rw [y]; exact List.mem_cons_self))]
      exact e
set_option maxHeartbeats 6400000 in
theorem made_of_texts {l : Addr} {its : Array Value} {xs : List Str} {Q : Value → Shared → Prop} (calm : A.handled = none) (gl : s.heap.IsList l its) (are : PyProof.Rows.StrsAre its.toList xs) (room : xs.length + 1 < scanBound)
    (q : ∀ (h2 : Heap) (tk : Nat), h2.SetOf (PySem.strKind prog w) s.heap.objs.size (fun c => (uS xs).any (· == c)) (uS xs).length → (∀ b ob, b < s.heap.objs.size → s.heap.get? b = some ob → h2.get? b = some ob) → Q (.ref s.heap.objs.size) { s with heap := h2, toks := tk }) :
    wpAny (model prog w) A (call (.type "set") [.ref l]) Q E s := by
  have k1 := PySem.F.called_set.made
  have k2 := PySem.F.called_set.sub
  obtain ⟨cc, tl, k3⟩ := PySem.F.called_set.mro
  refine wpAny_call (codeAny_of_tree ?_)
  show wpAny _ _ (callAny (.type "set") _) _ _ _
  refine wpAny_pure ⟨Code.quiet_builtin _ (by decide +kernel), codeAny_builtin (PySem.F.entry_type_call) ?_⟩
  rw [Around.under_plain (weight_type_call_type "set" [.ref l] []) (rfl)]
  have k4 := PySem.F.called_set.notType
  have k5 := PySem.F.called_set.canCreate
  have k6 := PySem.F.typeCall_set_1 (.ref l)
  repeat (any_goals (first | assumption | (wp_step)))
  refine codeAny_mono (code_set_new_1 (.ref l) (E := E) (Q₁ := fun o u => ∃ b : Bool, o = .ref s.heap.objs.size ∧ u = { s with heap := s.heap.push { cls := .type "set", dict := none, data := .set #[] 0 (.fresh 0 0 b) } }) fun b => ⟨b, rfl, rfl⟩) fun r u ru => ?_
  cases r with
  | error e => exact ru
  | ok f1 =>
    cases f1 with
    | ret o =>
      obtain ⟨b, rfl, rfl⟩ := ru
      have gS : (s.heap.push { cls := .type "set", dict := none, data := .set #[] 0 (.fresh 0 0 b) }).get? s.heap.objs.size = some { cls := .type "set", dict := none, data := .set #[] 0 (.fresh 0 0 b) } := Heap.get?_push_size _ (rfl)
      have tS : Shared.TypeIs { s with heap := s.heap.push { cls := .type "set", dict := none, data := .set #[] 0 (.fresh 0 0 b) } } (.ref s.heap.objs.size) "set" := ⟨_, gS, (rfl)⟩
      have k7 := PySem.F.called_set.init.lookup
      have k8 := PySem.F.called_set.init.bind (.ref s.heap.objs.size)
      repeat (any_goals (first | assumption | (wp_step)))
      refine codeAny_mono (codeAny_call_builtin (R := wants (fun o u => o = .none ∧ ∃ h2 tk, u = { s with heap := h2, toks := tk } ∧ h2.SetOf (PySem.strKind prog w) s.heap.objs.size (fun c => (uS xs).any (· == c)) (uS xs).length ∧
          (∀ a ob, a < s.heap.objs.size → s.heap.get? a = some ob → h2.get? a = some ob)) E) (PySem.F.called_set.init.plain) (PySem.F.entry_set_init) (check_set_init_1 tS ?_)) fun r2 u2 ru2 => ?_
      · obtain ⟨⟨c1, d1, e1, f1⟩, ol, ec, nl, ed⟩ := gl
        simp only at ec ed
        subst ec ed
        have ol2 : (s.heap.push { cls := .type "set", dict := none, data := .set #[] 0 (.fresh 0 0 b) }).get? l = some ⟨.type "list", d1, .seq its nl, f1⟩ := Heap.get?_push_of_some _ (ol)
        have k9 := PySem.F.sub_list_set
        have ka := PySem.F.sub_list_frozenset
        have kb : (Value.type "list" == Value.type "dict") = false := by (decide)
        have il : (s.heap.push { cls := .type "set", dict := none, data := .set #[] 0 (.fresh 0 0 b) }).IsList l its := ⟨_, ol2, rfl, nl, (rfl)⟩
        unfold Builtin.«set.__init__» Builtin.Frozenset.updateFrom noKeywords
        generalize ePI : pyIter = PI
        wp_walk
        subst ePI
        refine wpAny_pyIter_list il (wpAny_bind (wpAny_runValue ?_))
        have ll : l < s.heap.objs.size := Heap.lt_size ol
        have calm3 : A.in1.in1.in1.handled = none := by (simp [calm])
        have ne1 : l ≠ (s.heap.push { cls := .type "set", dict := none, data := .set #[] 0 (.fresh 0 0 b) }).objs.size := by
          rw [Heap.size_push]
          exact Nat.ne_of_lt (Nat.lt_succ_of_lt ll)
        have nin : s.heap.objs.size ∉ [(s.heap.push { cls := .type "set", dict := none, data := .set #[] 0 (.fresh 0 0 b) }).objs.size, l] := by
          rw [Heap.size_push]
          intro z
          rcases List.mem_cons.mp z with y | y
          · exact absurd y (Nat.ne_of_lt (Nat.lt_succ_self _))
          · exact absurd (List.mem_singleton.mp y) (Nat.ne_of_gt ll)
        have lx : xs.length = its.size := by rw [← StrsAre.len_eq are, Array.length_toList]
        have isT : ∀ (j : Nat) (v : Value), its[j]? = some v → ∃ t, v = .str (xs.getD j Str.empty) t := fun j v gv => SS.strs_at are j v (by rw [Array.getElem?_toList]; exact (gv))
        refine enter_texts ((Walks.list calm3 _ l ne1 its).toS) s.heap.objs.size nin xs lx (by rw [← lx]; exact room) isT (its.size - 0) 0 _ (by omega) (Nat.zero_le _) ⟨⟨_, Heap.get?_push_size _ rfl, rfl, rfl⟩, (il.push _)⟩ ?start ?stop
        case start =>
          have g0 : ((s.heap.push { cls := .type "set", dict := none, data := .set #[] 0 (.fresh 0 0 b) }).push { cls := .type "list_iterator", data := .fields #[.ref l, .int 0 0] }).get? s.heap.objs.size = some { cls := .type "set", dict := none, data := .set #[] 0 (.fresh 0 0 b) } := Heap.get?_push_of_some _ (gS)
          exact PyProof.Rows.SetOf_congr ((PyProof.Rows.setObjOf_fresh (knd := PySem.strKind prog w) b).setOf g0 (by unfold scanBound; omega)) (fun _ => by rw [List.take_zero]; rfl) (by rw [List.take_zero]; rfl)
        case stop =>
          intro u mv held
          obtain ⟨h2, g2, d2, t2, o2⟩ := u
          obtain rfl : g2 = s.gens := mv.gens
          obtain rfl : d2 = s.drawn := mv.drawn
          obtain rfl : o2 = s.os := mv.os
          rw [← lx, List.take_length] at held
          show wpAny _ _ _ _ _ _
          refine wpAny_pure ?_
          show wpAny _ _ (ret Value.none) _ _ _
          refine wpAny_pure ⟨rfl, h2, t2, rfl, held, fun a ob la e => ?_⟩
          refine mv.heap a ob (fun z => ?_) (Heap.get?_push_of_some _ (Heap.get?_push_of_some _ (e)))
          rw [Heap.size_push] at z
          rcases List.mem_cons.mp z with y | y
          · exact absurd y (Nat.ne_of_lt la)
          · exact absurd (List.mem_singleton.mp y) (Nat.ne_of_lt (Nat.lt_succ_of_lt la))
      · cases r2 with
        | error e => exact ru2
        | ok f2 =>
          cases f2 with
          | ret o =>
            obtain ⟨rfl, h2, t2, rfl, held, more⟩ := ru2
            repeat (any_goals (first | assumption | (wp_step)))
            exact q _ _ held (more)
          | _ => exact (ru2.elim)
    | _ => exact (ru.elim)
end
/-- len(set(xs)), xs a list of texts -/
def tLenSetT (K : PySem.W.Frag) (ta : TE) : TE := fun σ H Q => ta σ H fun x H1 => ∃ l, ∃ xs : List Str, x = .ref l ∧ SqL K H1 l (xs.map V.str) ∧ xs.length ≤ 1000 ∧ Q (.int (uS xs).length) H1
theorem pe_lenSetT {X : Cx} {a : Expr} {ta : TE} {p p2 q pos : Pos} (hc : X.calm = true) (hg : Gl X "len") (hm : X.mg "len" = none) (hg2 : Gl X "set") (hm2 : X.mg "set" = none) (ha : PE X a ta)
    (na : starEach [a] X.env = (false, eval a X.env) :: starEach [] X.env := by rfl) : PE X (.Call (.Name "len" p) [.Call (.Name "set" p2) [a] [] q] [] pos) (tLenSetT X.K ta) := by
  refine ⟨fun pins s σ H Q I g => Call_ (ld_blt I hg hm boot_len (PyProof.Rows.callWith_builtin1 (PyProof.Rows.args_cons ?_ rfl) rfl rfl))⟩
  refine Call_ (ld_blt I hg2 hm2 boot_set (PyProof.Rows.callWith_type1 (PyProof.Rows.args_cons (thn (ha.run pins s σ H _ I g) fun v s1 ⟨x, H1, I1, r1, q1⟩ => PyProof.Rows.args_nil ?_) na) na rfl))
  obtain ⟨l, xs, rfl, gl, few, q1⟩ := q1
  cases r1
  obtain ⟨its, r, pl, _⟩ := I1.list gl
  refine made_of_texts (I1.ok.hd hc) pl.isList (by simpa using L2.strsAre_of r) (by unfold scanBound; omega) fun h2 tk held more => PyProof.Rows.args_nil ?_
  obtain ⟨ob, es, ep, tb, g1, g2, g3, _, _, _, g4, g5⟩ := held
  have I2 : Inv X pins σ H1 { s1 with heap := h2, toks := tk } := I1.kept fun b o e => more b o (Heap.lt_size e) e
  have small := uS_le xs
  exact call_len_set g1 g2 g3 g4 (by rw [g5]; omega) ⟨.int (uS xs).length, H1, I2.tok _, ⟨_, by rw [g5]⟩, q1⟩

/-- how often a text stands in a list of texts -/
def rCntT (K : PySem.W.Frag) : V → List V → Hp → VK → Prop := fun x xs H Q => ∃ (p : Addr) (zs : List Str) (k : Str), x = .ref p ∧ xs = [.str k] ∧ SqL K H p (zs.map V.str) ∧ Q (.int (zs.count k : Nat)) H
def isT (k : Str) : Value → Bool
  | .str z _ => z == k
  | _ => false
theorem cnt_isT {k : Str} : ∀ {zs : List Str} {us : List Value}, Vals (zs.map V.str) us → us.countP (isT k) = zs.count k
  | [], _, .nil => rfl
  | z :: r, _, .cons h t => by
    obtain ⟨tk, rfl⟩ := h
    have ih := cnt_isT (k := k) t
    rw [List.countP_cons, List.count_cons, ih]
    rfl
theorem mt_countT {X : Cx} : MtR X "list.count" (rCntT X.K) := by
  intro pins s σ H x xs v us Q I rx rxs g
  obtain ⟨p, zs, k, rfl, rfl, gs, q⟩ := g
  cases rx
  obtain ⟨u, rfl, ru⟩ := rxs.one
  obtain ⟨t, rfl⟩ := ru
  obtain ⟨its, rv, ⟨⟨c1, d1, e1, f1⟩, n, ho, hc, hd1, hd⟩, few⟩ := I.list gs
  simp only at hc hd
  subst hc hd
  refine call_meets PySem.F.slot_list_count ⟨_, ho, (rfl)⟩ PySem.F.entry_list_count (PySem.F.args_list_count_2 _ _) (SeqAt.list_countAt p its.toArray n d1 f1 (.str k t) (isT k)) ⟨ho, fun y hy => ?_, .int (zs.count k : Nat), H, I.tok _, ⟨s.toks, ?_⟩, q⟩
  · obtain ⟨j, hj⟩ := List.mem_iff_getElem?.mp (show y ∈ its by simpa using hy)
    have lj : j < zs.length := by
      have := rv.length
      rw [List.length_map] at this
      have := (List.getElem?_eq_some_iff.mp hj).1
      omega
    have gz : (zs.map V.str)[j]? = some (V.str zs[j]) := by rw [List.getElem?_map, List.getElem?_eq_getElem lj]; rfl
    obtain ⟨y2, h2, r2⟩ := rv.get gz
    rw [hj] at h2
    cases Option.some.inj h2
    obtain ⟨t2, rfl⟩ := r2
    exact eqAt_V (y := .str zs[j]) (x := .str k) ⟨t2, rfl⟩ ⟨t, rfl⟩ rfl rfl
  · show Value.int ((its.toArray.toList.countP (isT k) : Nat) : Int) s.toks = Value.int ((zs.count k : Nat) : Int) s.toks
    rw [cnt_isT rv]

def isLet (c : Nat) : Bool := (!decide (c < 97) && !decide (122 < c)) || (!decide (c < 65) && !decide (90 < c)) || decide (c = 95)
def isDig (c : Nat) : Bool := !decide (c < 48) && !decide (57 < c)
def wordL : List Nat → Bool
  | [] => false
  | c :: r => isLet c && (c :: r).all fun x => isLet x || isDig x
def isWordS (z : Str) : Bool := wordL z.cps.toList
def RESV : List Str := ["every", "has", "in", "and", "or", "not", "true", "false"]
def fGood (f : Str × Str) : Prop := isWordS f.1 = true ∧ f.1 ∉ RESV ∧ f.2 ∈ KIND3
def fieldsGood (fs : List (Str × Str)) : Prop := (∀ f ∈ fs, fGood f) ∧ (fs.map (·.1)).Nodup
def vecGood (n : Int) (w m : Str) : Prop := 1 ≤ n ∧ w ∈ WIDE3 ∧ m ∈ MEAS3 ∧ ¬ (m = "bits" ∧ w ≠ "bit")
theorem inV_strs (z : Str) : ∀ xs : List Str, inV (.str z) (xs.map V.str) = decide (z ∈ xs)
  | [] => by simp [inV]
  | x :: r => by
    have ih := inV_strs z r
    unfold inV at ih ⊢
    rw [List.map_cons, List.any_cons, ih]
    by_cases e : z = x
    · subst e
      simp [eqV]
    · have : (x == z) = false := by simpa using fun h : x = z => e h.symm
      simp [eqV, this, e]
theorem flat_strsV (ys : List Str) : (ys.map V.str).all flatV = true := by
  rw [List.all_map]
  exact List.all_eq_true.mpr fun _ _ => rfl
theorem lt1 (a b : Nat) : decide (([a] : List Nat) < [b]) = decide (a < b) := by
  apply decide_eq_decide.mpr
  constructor
  · intro h
    rcases List.cons_lt_cons_iff.mp h with g | ⟨_, g⟩
    · exact g
    · exact absurd g (List.lt_irrefl _)
  · exact fun h => List.cons_lt_cons_iff.mpr (.inl h)
theorem le_lo (c a : Nat) {z : Str} (hz : z.cps.toList = [a]) : (!decide ((⟨#[c]⟩ : Str).cps.toList < z.cps.toList)) = !decide (c < a) := by
  rw [hz]
  exact congrArg not (lt1 c a)
theorem le_hi (c a : Nat) {z : Str} (hz : z.cps.toList = [a]) : (!decide (z.cps.toList < (⟨#[c]⟩ : Str).cps.toList)) = !decide (a < c) := by
  rw [hz]
  exact congrArg not (lt1 a c)
theorem one_cps (c : Nat) : (⟨#[c]⟩ : Str).cps.toList = [c] := rfl
theorem one_eq (c d : Nat) : decide (V.str (⟨#[c]⟩ : Str) = V.str (⟨#[d]⟩ : Str)) = decide (c = d) := by
  apply decide_eq_decide.mpr
  constructor
  · intro h
    have := V.str.inj h
    simpa using this
  · intro h
    rw [h]
theorem names_nodup {fs : List (Str × Str)} (ok : FieldsOk fs) : fieldsGood fs := by
  refine ⟨fun f hf => ⟨?_, ?_, ok.kinds f hf⟩, ?_⟩
  · have h : f.1 ∈ NAME4 := by
      have h1 : f.1 ∈ fs.map (·.1) := List.mem_map_of_mem hf
      rw [ok.names] at h1
      exact List.mem_of_mem_take h1
    generalize f.1 = z at h
    clear hf
    revert h z
    decide +kernel
  · have h : f.1 ∈ NAME4 := by
      have h1 : f.1 ∈ fs.map (·.1) := List.mem_map_of_mem hf
      rw [ok.names] at h1
      exact List.mem_of_mem_take h1
    generalize f.1 = z at h
    clear hf
    revert h z
    decide +kernel
  · rw [ok.names]
    have : NAME4.Nodup := by decide +kernel
    exact this.sublist (List.take_sublist _ _)
theorem ps_dead {X : Cx} {s : Stmt} : PS X s (fun _ _ _ => False) := ⟨fun _ _ _ _ _ _ h => h.elim⟩

theorem st_lst {H : Hp} {st sc : Addr} (hS : StAt H st sc) : ∃ xs, H st = some (.lst xs) := by
  obtain ⟨ns, k, x, h, _⟩ := hS
  exact ⟨_, h⟩
def NAME16 : List Str := ["a", "b", "A9_", "_", "", "9a", "has", "every", "in", "and", "or", "not", "true", "false", "a b", "truex"]
def KIND4 : List Str := ["integer", "text", "flag", "number"]
def WIDE4 : List Str := ["bit", "small", "wide", "huge"]
def MEAS4 : List Str := ["square", "dot", "bits", "cube"]
structure FOk (fs : List (Str × Str)) : Prop where
  len : fs.length ≤ 4
  names : ∀ f ∈ fs, f.1 ∈ NAME16
  kinds : ∀ f ∈ fs, f.2 ∈ KIND4
theorem name16 {z : Str} (h : z ∈ NAME16) : PyData.strOk z = true ∧ z.length ≤ 8 := by
  revert h z
  decide +kernel
theorem kind4 {z : Str} (h : z ∈ KIND4) : PyData.strOk z = true ∧ z.length ≤ 8 := by
  revert h z
  decide +kernel
theorem wide4 {z : Str} (h : z ∈ WIDE4) : PyData.strOk z = true ∧ (z ∈ WIDE3 ∨ z = "huge") := by
  revert h z
  decide +kernel
theorem meas4 {z : Str} (h : z ∈ MEAS4) : PyData.strOk z = true := by
  revert h z
  decide +kernel
theorem eqv_fd : ∀ fs gs : List (Str × Str), PyData.eqvAll (fs.map fdD) (gs.map fdD) = decide (fs = gs)
  | [], [] => by simp [PyData.eqvAll]
  | [], _ :: _ => by simp [PyData.eqvAll]
  | _ :: _, [] => by simp [PyData.eqvAll]
  | (a, b) :: r, (c, d) :: t => by
    have ih := eqv_fd r t
    rw [List.map_cons, List.map_cons]
    unfold PyData.eqvAll
    rw [ih]
    have e : PyData.eqv (fdD (a, b)) (fdD (c, d)) = decide ((a, b) = (c, d)) := by
      simp [fdD, PyData.eqv, PyData.eqvAll, Prod.ext_iff]
      rfl
    rw [e]
    simp
theorem lay_fd : ∀ {fs : List (Str × Str)}, (∀ f ∈ fs, PyData.strOk f.1 = true ∧ PyData.strOk f.2 = true) → PyData.canLayAll0 (fs.map fdD) = true ∧ PyData.depthAll (fs.map fdD) ≤ 2
  | [], _ => by simp [PyData.canLayAll0, PyData.depthAll]
  | f :: r, h => by
    have ih := lay_fd (fs := r) fun g hg => h g (List.mem_cons_of_mem _ hg)
    have h1 := h f (List.mem_cons_self ..)
    simp [PyData.canLayAll0, PyData.depthAll, fdD, PyData.canLay0, PyData.depth, h1.1, h1.2, ih.1]
    have := ih.2
    omega
theorem FOk.lay {fs : List (Str × Str)} (ok : FOk fs) : PyData.canLayAll0 (fs.map fdD) = true ∧ PyData.depthAll (fs.map fdD) ≤ 2 := lay_fd fun f hf => ⟨(name16 (ok.names f hf)).1, (kind4 (ok.kinds f hf)).1⟩
theorem shapedT {fs : List (Str × Str)} (ok : FOk fs) : SeqAt.shaped (.tuple (fs.map fdD)) = true := by
  obtain ⟨a, b⟩ := ok.lay
  simp [SeqAt.shaped, PyData.canLay0, PyData.depth, a]
  omega
def drD (n : Int) (w m : Str) (fs : List (Str × Str)) : PyData := .tuple [.int n, .str w, .str m, .list (fs.map fdD)]
theorem shapedD {n : Int} {w m : Str} {fs : List (Str × Str)} (ok : FOk fs) (hw : w ∈ WIDE4) (hm : m ∈ MEAS4) : SeqAt.shaped (drD n w m fs) = true := by
  obtain ⟨a, b⟩ := ok.lay
  simp [drD, SeqAt.shaped, PyData.canLay0, PyData.canLayAll0, PyData.depth, PyData.depthAll, a, (wide4 hw).1, meas4 hm]
  omega
theorem eqv_dr (n n2 : Int) (w m w2 m2 : Str) (fs gs : List (Str × Str)) : PyData.eqv (drD n w m fs) (drD n2 w2 m2 gs) = (decide (n = n2) && decide (w = w2) && decide (m = m2) && decide (fs = gs)) := by
  have e := eqv_fd fs gs
  simp only [drD, PyData.eqv, PyData.eqvAll, e, Bool.and_true]
  rw [show (n == n2) = decide (n = n2) from rfl, show (w == w2) = decide (w = w2) from rfl, show (m == m2) = decide (m = m2) from rfl]
  simp [Bool.and_assoc]
/-- the kind of a field, or None -/
def kindV (fs : List (Str × Str)) (z : Str) : V := match fs.find? (fun f => decide (f.1 = z)) with
  | some f => .str f.2
  | none => .non
/-- the last one of that name -/
def lastV : List (Str × Str) → Str → V → V
  | [], _, d => d
  | f :: r, z, d => lastV r z (if f.1 = z then .str f.2 else d)
theorem lastV_no {z : Str} : ∀ {fs : List (Str × Str)} {d : V}, z ∉ fs.map (·.1) → lastV fs z d = d
  | [], _, _ => rfl
  | f :: r, d, h => by
    have h1 : ¬ f.1 = z := fun e => h (by rw [List.map_cons, e]; exact List.mem_cons_self ..)
    have h2 : z ∉ r.map (·.1) := fun e => h (by rw [List.map_cons]; exact List.mem_cons_of_mem _ e)
    show lastV r z (if f.1 = z then _ else d) = d
    rw [if_neg h1, lastV_no h2]
theorem last_first {z : Str} : ∀ {fs : List (Str × Str)}, (fs.map (·.1)).Nodup → lastV fs z .non = kindV fs z
  | [], _ => rfl
  | f :: r, h => by
    have h' := List.nodup_cons.mp (show (f.1 :: r.map (·.1)).Nodup from h)
    show lastV r z (if f.1 = z then .str f.2 else .non) = kindV (f :: r) z
    unfold kindV
    by_cases e : f.1 = z
    · rw [if_pos e, List.find?_cons_of_pos (by simpa using e)]
      exact lastV_no (by rw [← e]; exact h'.1)
    · rw [if_neg e, List.find?_cons_of_neg (by simpa using e)]
      exact last_first h'.2
theorem lastV_take {z : Str} : ∀ {fs : List (Str × Str)} {i : Nat} {f : Str × Str} {d : V}, fs[i]? = some f → lastV (fs.take (i + 1)) z d = if f.1 = z then .str f.2 else lastV (fs.take i) z d
  | [], _, _, _, h => by simp at h
  | g :: r, 0, f, d, h => by
    have e := Option.some.inj h
    subst e
    rfl
  | g :: r, i + 1, f, d, h => by
    show lastV (r.take (i + 1)) z _ = if f.1 = z then _ else lastV (r.take i) z _
    exact lastV_take (fs := r) (i := i) h
/-- by the law's own walk -/
def okC (j : Nat) (c : Nat) : Bool := isLet c || (decide (j ≠ 0) && isDig c)
theorem word_ok {z : Str} (h : ¬ z = "") : isWordS z = true ↔ ∀ (j c : Nat), z.cps.toList[j]? = some c → okC j c = true := by
  unfold isWordS
  cases el : z.cps.toList with
  | nil =>
    exfalso
    obtain ⟨cps⟩ := z
    have g : cps = #[] := by simpa using el
    subst g
    exact h rfl
  | cons c r =>
    constructor
    · intro g j d hd
      have g' : (isLet c && (c :: r).all fun x => isLet x || isDig x) = true := g
      rw [Bool.and_eq_true] at g'
      unfold okC
      cases j with
      | zero =>
        have := Option.some.inj hd
        subst this
        rw [g'.1]
        rfl
      | succ j =>
        have := List.all_eq_true.mp g'.2 d (List.mem_of_getElem? hd)
        simpa using this
    · intro g
      show (isLet c && (c :: r).all fun x => isLet x || isDig x) = true
      have g0 := g 0 c rfl
      unfold okC at g0
      simp at g0
      rw [g0, Bool.true_and]
      refine List.all_eq_true.mpr fun x hx => ?_
      obtain ⟨j, hj⟩ := List.mem_iff_getElem?.mp hx
      have := g j x hj
      unfold okC at this
      cases hl : isLet x with
      | true => rfl
      | false =>
        rw [hl, Bool.false_or, Bool.and_eq_true] at this
        rw [this.2]
        rfl

def ff_Schema (v0 v1 v2 v3 : V) : List (Str × V) := putF "fields" v3 (putF "measure" v2 (putF "width" v1 (putF "size" v0 [])))
theorem lk_Schema_size {v0 v1 v2 v3 : V} : (ff_Schema v0 v1 v2 v3).lookup ("size" : Str) = some v0 := by
  unfold ff_Schema
  rw [lookup_putF, if_neg (by decide +kernel), lookup_putF, if_neg (by decide +kernel), lookup_putF, if_neg (by decide +kernel), lookup_putF, if_pos rfl]
theorem lk_Schema_width {v0 v1 v2 v3 : V} : (ff_Schema v0 v1 v2 v3).lookup ("width" : Str) = some v1 := by
  unfold ff_Schema
  rw [lookup_putF, if_neg (by decide +kernel), lookup_putF, if_neg (by decide +kernel), lookup_putF, if_pos rfl]
theorem lk_Schema_measure {v0 v1 v2 v3 : V} : (ff_Schema v0 v1 v2 v3).lookup ("measure" : Str) = some v2 := by
  unfold ff_Schema
  rw [lookup_putF, if_neg (by decide +kernel), lookup_putF, if_pos rfl]
theorem lk_Schema_fields {v0 v1 v2 v3 : V} : (ff_Schema v0 v1 v2 v3).lookup ("fields" : Str) = some v3 := by
  unfold ff_Schema
  rw [lookup_putF, if_pos rfl]
theorem no_Schema {v0 v1 v2 v3 : V} {m : Str} (h0 : ¬ m = "size" := by decide +kernel) (h1 : ¬ m = "width" := by decide +kernel) (h2 : ¬ m = "measure" := by decide +kernel) (h3 : ¬ m = "fields" := by decide +kernel) : (ff_Schema v0 v1 v2 v3).lookup m = none := by
  unfold ff_Schema
  rw [lookup_putF, if_neg h3, lookup_putF, if_neg h2, lookup_putF, if_neg h1, lookup_putF, if_neg h0]
  rfl
theorem putF_le {f : Str} {v : V} {fs : List (Str × V)} {n : Nat} (h : fs.length ≤ n) : (putF f v fs).length ≤ n + 1 := by
  induction fs generalizing n with
  | nil => show 1 ≤ n + 1; omega
  | cons x r ih =>
    obtain ⟨g, y⟩ := x
    show (if g = f then (g, v) :: r else (g, y) :: putF f v r).length ≤ n + 1
    rw [List.length_cons] at h
    by_cases e : g = f
    · rw [if_pos e, List.length_cons]; omega
    · rw [if_neg e, List.length_cons]
      have := ih (n := r.length) (Nat.le_refl _)
      omega
/-! what the top has made -/
structure Txt (w : World) (K : PySem.W.Frag) (mg : Str → Option Value) where
  f_law_row : Addr
  d_law_row : FuncData
  F_law_row : Fun K "_law_row" "_law_row" s_law_row f_law_row d_law_row
  b_law_row : Binds K d_law_row ["script", "k"] []
  g_law_row : mg "_law_row" = some (.ref f_law_row)
  f_law_next : Addr
  d_law_next : FuncData
  F_law_next : Fun K "_law_next" "_law_next" s_law_next f_law_next d_law_next
  b_law_next : Binds K d_law_next ["state", "many"] []
  g_law_next : mg "_law_next" = some (.ref f_law_next)
  f_is_letter : Addr
  d_is_letter : FuncData
  F_is_letter : Fun K "is_letter" "is_letter" s_is_letter f_is_letter d_is_letter
  b_is_letter : Binds K d_is_letter ["char"] []
  g_is_letter : mg "is_letter" = some (.ref f_is_letter)
  f_is_digit : Addr
  d_is_digit : FuncData
  F_is_digit : Fun K "is_digit" "is_digit" s_is_digit f_is_digit d_is_digit
  b_is_digit : Binds K d_is_digit ["char"] []
  g_is_digit : mg "is_digit" = some (.ref f_is_digit)
  f_is_word : Addr
  d_is_word : FuncData
  F_is_word : Fun K "is_word" "is_word" s_is_word f_is_word d_is_word
  b_is_word : Binds K d_is_word ["text"] []
  g_is_word : mg "is_word" = some (.ref f_is_word)
  f_check_vectors : Addr
  d_check_vectors : FuncData
  F_check_vectors : Fun K "check_vectors" "check_vectors" s_check_vectors f_check_vectors d_check_vectors
  b_check_vectors : Binds K d_check_vectors ["size", "width", "measure"] []
  g_check_vectors : mg "check_vectors" = some (.ref f_check_vectors)
  f_check_fields : Addr
  d_check_fields : FuncData
  F_check_fields : Fun K "check_fields" "check_fields" s_check_fields f_check_fields d_check_fields
  b_check_fields : Binds K d_check_fields ["fields"] []
  g_check_fields : mg "check_fields" = some (.ref f_check_fields)
  f_Schema___init__ : Addr
  d_Schema___init__ : FuncData
  e_Schema___init___fields : Addr
  et_Schema___init___fields : ∀ H, SqT K H e_Schema___init___fields []
  F_Schema___init__ : FunD K "__init__" "Schema.__init__" (defArgs s_Schema___init__) (defBody s_Schema___init__) (defScope s_Schema___init__) [] [("width", .str "small"), ("measure", .str "square"), ("fields", .ref e_Schema___init___fields)] f_Schema___init__ d_Schema___init__
  kb_Schema___init__ : KBn K d_Schema___init__ ["self", "size", "width", "measure", "fields"] 2 ["width", "measure", "fields"] (fun us ws => us ++ ws) (fun vs zs => vs ++ zs)
  ds_Schema___init__ : List Value
  v_Schema___init__ : Vals [.str "small", .str "square", .ref e_Schema___init___fields] ds_Schema___init__
  b_Schema___init__ : Binds K d_Schema___init__ ["self", "size", "width", "measure", "fields"] ds_Schema___init__
  f_law_good_name : Addr
  d_law_good_name : FuncData
  F_law_good_name : Fun K "_law_good_name" "_law_good_name" s_law_good_name f_law_good_name d_law_good_name
  b_law_good_name : Binds K d_law_good_name ["name"] []
  g_law_good_name : mg "_law_good_name" = some (.ref f_law_good_name)
  f_law_draw : Addr
  d_law_draw : FuncData
  F_law_draw : Fun K "_law_draw" "_law_draw" s_law_draw f_law_draw d_law_draw
  b_law_draw : Binds K d_law_draw ["state"] []
  g_law_draw : mg "_law_draw" = some (.ref f_law_draw)
  f_law_valid : Addr
  d_law_valid : FuncData
  F_law_valid : Fun K "_law_valid" "_law_valid" s_law_valid f_law_valid d_law_valid
  b_law_valid : Binds K d_law_valid ["size", "width", "measure", "fields"] []
  g_law_valid : mg "_law_valid" = some (.ref f_law_valid)
  f_law_made : Addr
  d_law_made : FuncData
  F_law_made : Fun K "_law_made" "_law_made" s_law_made f_law_made d_law_made
  b_law_made : Binds K d_law_made ["drawn"] []
  g_law_made : mg "_law_made" = some (.ref f_law_made)
  f_Schema_least : Addr
  d_Schema_least : FuncData
  F_Schema_least : Fun K "least" "Schema.least" s_Schema_least f_Schema_least d_Schema_least
  b_Schema_least : Binds K d_Schema_least ["self"] []
  f_Schema_greatest : Addr
  d_Schema_greatest : FuncData
  F_Schema_greatest : Fun K "greatest" "Schema.greatest" s_Schema_greatest f_Schema_greatest d_Schema_greatest
  b_Schema_greatest : Binds K d_Schema_greatest ["self"] []
  f_Schema_kind_of : Addr
  d_Schema_kind_of : FuncData
  F_Schema_kind_of : Fun K "kind_of" "Schema.kind_of" s_Schema_kind_of f_Schema_kind_of d_Schema_kind_of
  b_Schema_kind_of : Binds K d_Schema_kind_of ["self", "name"] []
  f_Schema___eq__ : Addr
  d_Schema___eq__ : FuncData
  F_Schema___eq__ : Fun K "__eq__" "Schema.__eq__" s_Schema___eq__ f_Schema___eq__ d_Schema___eq__
  b_Schema___eq__ : Binds K d_Schema___eq__ ["self", "other"] []
  f_law_tells : Addr
  d_law_tells : FuncData
  F_law_tells : Fun K "_law_tells" "_law_tells" s_law_tells f_law_tells d_law_tells
  b_law_tells : Binds K d_law_tells ["schema", "drawn"] []
  g_law_tells : mg "_law_tells" = some (.ref f_law_tells)
  f_law : Addr
  d_law : FuncData
  F_law : Fun K "law" "law" s_law f_law d_law
  b_law : Binds K d_law ["script"] []
  g_law : mg "law" = some (.ref f_law)
  c_InvalidSchema : Addr
  mc_InvalidSchema : mg "InvalidSchema" = some (.ref c_InvalidSchema)
  kp_InvalidSchema : PySem.W.keepIn K (.ref c_InvalidSchema) = true
  x_InvalidSchema : PySem.W.excIn K c_InvalidSchema [.type "ValueError", .type "Exception", .type "BaseException", .type "object"] "ValueError.__new__" = true
  xb_InvalidSchema : PySem.W.subIn K (.ref c_InvalidSchema) (.type "BaseException") = some true
  xt_InvalidSchema : PySem.W.typeIn K (.ref c_InvalidSchema) = some (.type "type")
  c_SurenearError : Addr
  mc_SurenearError : mg "SurenearError" = some (.ref c_SurenearError)
  kp_SurenearError : PySem.W.keepIn K (.ref c_SurenearError) = true
  x_SurenearError : PySem.W.excIn K c_SurenearError [.type "ValueError", .type "Exception", .type "BaseException", .type "object"] "ValueError.__new__" = true
  xb_SurenearError : PySem.W.subIn K (.ref c_SurenearError) (.type "BaseException") = some true
  xt_SurenearError : PySem.W.typeIn K (.ref c_SurenearError) = some (.type "type")
  xm_InvalidSchema_InvalidSchema : PySem.W.exmOne K (.ref c_InvalidSchema) (.ref c_InvalidSchema) = some true
  c_Schema : Addr
  cl_Schema : Cls K c_Schema
  mc_Schema : mg "Schema" = some (.ref c_Schema)
  n_Schema_size : NoAttr K c_Schema "size"
  n_Schema_width : NoAttr K c_Schema "width"
  n_Schema_measure : NoAttr K c_Schema "measure"
  n_Schema_fields : NoAttr K c_Schema "fields"
  mk_Schema : Mk K c_Schema f_Schema___init__
  me_Schema_kind_of : Meth K c_Schema "kind_of" f_Schema_kind_of
  me_Schema___eq__ : Meth K c_Schema "__eq__" f_Schema___eq__
  pa_Schema_least : Addr
  pr_Schema_least : PropOf K c_Schema "least" pa_Schema_least f_Schema_least
  pa_Schema_greatest : Addr
  pr_Schema_greatest : PropOf K c_Schema "greatest" pa_Schema_greatest f_Schema_greatest
  ha_Schema : PySem.W.findIn K (.ref c_Schema) "__class__" = some (some (.builtin "object.__class__"))
  hm_Schema : PySem.W.mroIn K c_Schema (.type "object") = some true
  kit_Schema_Schema : PySem.W.kitOne K (.ref c_Schema) (.ref c_Schema) = some true
  kit_tuple_Schema : PySem.W.kitOne K (.type "tuple") (.ref c_Schema) = some false
  nf_Schema_Schema : PySem.W.notFirst K c_Schema (.ref c_Schema) = true
  nf_Schema_tuple : PySem.W.notFirst K c_Schema (.type "tuple") = true
  hn0 : PySem.W.specialIn K (.builtin "object.__class__") "__get__" = some (some (.builtin "getset_descriptor.__get__"))
  ht0 : PySem.W.takesIn K (.builtin "object.__class__") = some true
  a_KINDS : Addr
  m_KINDS : mg "KINDS" = some (.ref a_KINDS)
  sq_KINDS : ∀ H, SqT K H a_KINDS [.str "integer", .str "text", .str "flag"]
  a_MEASURES : Addr
  m_MEASURES : mg "MEASURES" = some (.ref a_MEASURES)
  sq_MEASURES : ∀ H, SqT K H a_MEASURES [.str "square", .str "dot", .str "bits"]
  a_RESERVED : Addr
  m_RESERVED : mg "RESERVED" = some (.ref a_RESERVED)
  sq_RESERVED : ∀ H, SqT K H a_RESERVED [.str "every", .str "has", .str "in", .str "and", .str "or", .str "not", .str "true", .str "false"]
  a_WIDTHS : Addr
  m_WIDTHS : mg "WIDTHS" = some (.ref a_WIDTHS)
  es_WIDTHS : Array DictEntry
  en_WIDTHS : Nat
  kd_WIDTHS : KDict K w a_WIDTHS es_WIDTHS en_WIDTHS
  av_WIDTHS_bit : Addr
  ns_WIDTHS_bit : PySem.W.nsIn K a_WIDTHS "bit" = some (some (.ref av_WIDTHS_bit))
  sv_WIDTHS_bit : ∀ H, SqT K H av_WIDTHS_bit [.int (0), .int (1)]
  av_WIDTHS_small : Addr
  ns_WIDTHS_small : PySem.W.nsIn K a_WIDTHS "small" = some (some (.ref av_WIDTHS_small))
  sv_WIDTHS_small : ∀ H, SqT K H av_WIDTHS_small [.int (-128), .int (127)]
  av_WIDTHS_wide : Addr
  ns_WIDTHS_wide : PySem.W.nsIn K a_WIDTHS "wide" = some (some (.ref av_WIDTHS_wide))
  sv_WIDTHS_wide : ∀ H, SqT K H av_WIDTHS_wide [.int (-32768), .int (32767)]
  ns_WIDTHS_huge : PySem.W.nsIn K a_WIDTHS "huge" = some none
  m_all : mg "all" = none
  m_int : mg "int" = none
  m_isinstance : mg "isinstance" = none
  m_len : mg "len" = none
  m_list : mg "list" = none
  m_range : mg "range" = none
  m_set : mg "set" = none
  m_tuple : mg "tuple" = none
section
variable {P : Program} {w : World} {K : PySem.W.Frag} {mg : Str → Option Value} {base : Heap}

/-- all but instances is as it was -/
def Keep (H H' : Hp) : Prop := ∀ b o, H b = some o → (∀ C dx fs, o ≠ .ins C dx fs) → H' b = some o
theorem Keep.trans {H H1 H2 : Hp} (f : Keep H H1) (g : Keep H1 H2) : Keep H H2 := fun b o e n => g b o (f b o e n) n
theorem Keep.same {H H' : Hp} (f : Same H H') : Keep H H' := fun b o e _ => f b o e
theorem Keep.ins {H : Hp} {p C dx : Addr} {fs : List (Str × V)} {o : HO} (h : H p = some (.ins C dx fs)) : Keep H (upd H p o) := fun b u e n => by
  rw [upd_ne]
  · exact e
  · intro z
    rw [z, h] at e
    cases e
    exact n _ _ _ rfl
theorem Keep.seq {K : PySem.W.Frag} {H H' : Hp} {q : Addr} {xs : List V} (f : Keep H H') (h : SqL K H q xs) : SqL K H' q xs := by
  rcases h with (h | ⟨o, h⟩) | h
  · exact .inl (.inl (f _ _ h fun _ _ _ z => by cases z))
  · exact .inl (.inr ⟨o, f _ _ h fun _ _ _ z => by cases z⟩)
  · exact .inr h
theorem Keep.seqT {K : PySem.W.Frag} {H H' : Hp} {q : Addr} {xs : List V} (f : Keep H H') (h : SqT K H q xs) : SqT K H' q xs := by
  rcases h with (h | ⟨o, h⟩) | h
  · exact .inl (.inl (f _ _ h fun _ _ _ z => by cases z))
  · exact .inl (.inr ⟨o, f _ _ h fun _ _ _ z => by cases z⟩)
  · exact .inr h
theorem _root_.L2.Same.seqT {K : PySem.W.Frag} {H H' : Hp} {q : Addr} {xs : List V} (f : Same H H') (h : SqT K H q xs) : SqT K H' q xs := (Keep.same f).seqT h
mutual
theorem Dt.keep {N : List Addr} {H H' : Hp} (f : Keep H H') : ∀ {v : V} {d : PyData}, Dt N H v d → Dt N H' v d
  | _, _, .non => .non
  | _, _, .bl b => .bl b
  | _, _, .int i => .int i
  | _, _, .str x => .str x
  | _, _, .lst n h t => .lst n (f _ _ h fun _ _ _ z => by cases z) (Dts.keep f t)
  | _, _, .tup n h t => .tup n (f _ _ h fun _ _ _ z => by cases z) (Dts.keep f t)
theorem Dts.keep {N : List Addr} {H H' : Hp} (f : Keep H H') : ∀ {vs : List V} {ds : List PyData}, Dts N H vs ds → Dts N H' vs ds
  | _, _, .nil => .nil
  | _, _, .cons x t => .cons (Dt.keep f x) (Dts.keep f t)
end
theorem Dts.refT {α : Type} {N : List Addr} {H : Hp} {f : α → PyData} (hf : ∀ a, ∃ es, f a = .tuple es) {l : List α} {vs : List V} {i : Nat} {v : V} (t : Dts N H vs (l.map f)) (h : vs[i]? = some v) : ∃ p ws, v = .ref p ∧ H p = some (.tup ws) := by
  obtain ⟨d, e, x⟩ := t.get h
  rw [List.getElem?_map] at e
  cases el : l[i]? with
  | none =>
    rw [el] at e
    cases e
  | some a =>
    rw [el] at e
    have e2 := Option.some.inj e
    obtain ⟨es, g⟩ := hf a
    rw [← e2, g] at x
    obtain ⟨p, ws, e3, _, e4, _⟩ := x.isT
    exact ⟨p, ws, e3, e4⟩

/-- a schema stands at r -/
def SchAt (N : List Addr) (C : Addr) (H : Hp) (r : Addr) (n : Int) (w m : Str) (fs : List (Str × Str)) : Prop := r ∉ N ∧ ∃ dx tf, H r = some (.ins C dx (ff_Schema (.int n) (.str w) (.str m) (.ref tf))) ∧ Dt N H (.ref tf) (.tuple (fs.map fdD))
theorem SchAt.mono {N M : List Addr} {C : Addr} {H H' : Hp} {r : Addr} {n : Int} {w m : Str} {fs : List (Str × Str)} (R : SchAt N C H r n w m fs) (f : ∀ a o, a ∉ N → H a = some o → a ∉ M ∧ H' a = some o) : SchAt M C H' r n w m fs := by
  obtain ⟨k, dx, tf, h1, h2⟩ := R
  exact ⟨(f _ _ k h1).1, dx, tf, (f _ _ k h1).2, h2.mono f⟩
theorem SchAt.same {N : List Addr} {C : Addr} {H H' : Hp} {r : Addr} {n : Int} {w m : Str} {fs : List (Str × Str)} (R : SchAt N C H r n w m fs) (f : Same H H') : SchAt N C H' r n w m fs := R.mono fun a o n e => ⟨n, f a o e⟩
theorem SchAt.fr {N : List Addr} {C : Addr} {H H' : Hp} {st r : Addr} {n : Int} {w m : Str} {fs : List (Str × Str)} (R : SchAt N C H r n w m fs) (f : Fr st H H') (i : st ∈ N) : SchAt N C H' r n w m fs := R.mono fun a o n e => ⟨n, f a o e fun z => by rw [z] at n; exact n i⟩
theorem SchAt.away {N : List Addr} {C : Addr} {H : Hp} {k r : Addr} {n : Int} {w m : Str} {fs : List (Str × Str)} (R : SchAt N C H r n w m fs) (h : H k = none) : SchAt (k :: N) C H r n w m fs := R.mono fun a o n e => ⟨fun z => by
  rcases List.mem_cons.mp z with y | y
  · rw [y, h] at e; cases e
  · exact n y, e⟩
theorem SchAt.upd {N : List Addr} {C : Addr} {H : Hp} {k r : Addr} {o : HO} {n : Int} {w m : Str} {fs : List (Str × Str)} (R : SchAt N C H r n w m fs) (i : k ∈ N) : SchAt N C (L2.upd H k o) r n w m fs := R.mono fun a u n e => ⟨n, by rw [upd_ne fun z => by rw [z] at n; exact n i]; exact e⟩
theorem SchAt.nil {N : List Addr} {C : Addr} {H : Hp} {r : Addr} {n : Int} {w m : Str} {fs : List (Str × Str)} (R : SchAt N C H r n w m fs) : SchAt [] C H r n w m fs := R.mono fun a o n e => ⟨(fun z => by cases z), e⟩
theorem offF {st : Addr} {H : Hp} {xs : List V} (hs : H st = some (.lst xs)) : ∀ {fs : List (Str × Str)} {vs : List V}, Dts [] H vs (fs.map fdD) → Dts [st] H vs (fs.map fdD)
  | [], _, .nil => .nil
  | a :: r, _, .cons x t => by
    obtain ⟨p, w, rfl, _, e, y⟩ := x.isP
    rw [y.isS] at e
    refine .cons (.tup (not_in1 fun z => ?_) e (.cons (.str _) (.cons (.str _) .nil))) (offF hs t)
    rw [z, hs] at e
    cases e
theorem SchAt.off {st : Addr} {C : Addr} {H : Hp} {xs : List V} {r : Addr} {n : Int} {w m : Str} {fs : List (Str × Str)} (R : SchAt [] C H r n w m fs) (hs : H st = some (.lst xs)) : SchAt [st] C H r n w m fs := by
  obtain ⟨k, dx, tf, h1, h2⟩ := R
  obtain ⟨p3, v3, e3, _, g3, t3⟩ := h2.isT
  cases e3
  refine ⟨not_in1 fun z => ?_, dx, tf, h1, .tup (not_in1 fun z => ?_) g3 (offF hs t3)⟩
  · rw [z, hs] at h1; cases h1
  · rw [z, hs] at g3; cases g3

structure Md where
  x : Addr
  t : Addr
  pf : Addr
  n : Int
  w : Str
  m : Str
  fs : List (Str × Str)
def MdAt (N : List Addr) (C : Addr) (H : Hp) (d : Md) : Prop := SchAt N C H d.x d.n d.w d.m d.fs ∧ d.t ∉ N ∧ H d.t = some (.tup [.int d.n, .str d.w, .str d.m, .ref d.pf]) ∧ Dt N H (.ref d.pf) (.list (d.fs.map fdD)) ∧ FOk d.fs ∧ d.w ∈ WIDE4 ∧ d.m ∈ MEAS4
theorem MdAt.mono {N : List Addr} {C : Addr} {H H' : Hp} {d : Md} (R : MdAt N C H d) (f : ∀ a o, a ∉ N → H a = some o → H' a = some o) : MdAt N C H' d := by
  obtain ⟨h1, n, h2, h3, h4⟩ := R
  exact ⟨h1.mono fun a o n e => ⟨n, f a o n e⟩, n, f _ _ n h2, h3.mono fun a o n e => ⟨n, f a o n e⟩, h4⟩
theorem offFN {N : List Addr} {H : Hp} (hs : ∀ a ∈ N, ∃ xs, H a = some (.lst xs)) : ∀ {fs : List (Str × Str)} {vs : List V}, Dts [] H vs (fs.map fdD) → Dts N H vs (fs.map fdD)
  | [], _, .nil => .nil
  | a :: r, _, .cons x t => by
    obtain ⟨p, w, rfl, _, e, y⟩ := x.isP
    rw [y.isS] at e
    refine .cons (.tup (fun z => ?_) e (.cons (.str _) (.cons (.str _) .nil))) (offFN hs t)
    obtain ⟨xs, g⟩ := hs p z
    rw [g] at e
    cases e
theorem SchAt.offN {N : List Addr} {C : Addr} {H : Hp} {r : Addr} {n : Int} {w m : Str} {fs : List (Str × Str)} (R : SchAt [] C H r n w m fs) (hs : ∀ a ∈ N, ∃ xs, H a = some (.lst xs)) : SchAt N C H r n w m fs := by
  obtain ⟨k, dx, tf, h1, h2⟩ := R
  obtain ⟨p3, v3, e3, _, g3, t3⟩ := h2.isT
  cases e3
  refine ⟨fun z => ?_, dx, tf, h1, .tup (fun z => ?_) g3 (offFN hs t3)⟩
  · obtain ⟨xs, g⟩ := hs _ z
    rw [g] at h1
    cases h1
  · obtain ⟨xs, g⟩ := hs _ z
    rw [g] at g3
    cases g3
/-- the list of what was made stands at pm -/
def AllAt (N : List Addr) (C : Addr) (H : Hp) (ps : List Addr) (ds : List Md) : Prop := ps.length = ds.length ∧ ∀ (j : Nat) (p : Addr), ps[j]? = some p → ∃ d, ds[j]? = some d ∧ p ∉ N ∧ H p = some (.tup [.ref d.x, .ref d.t]) ∧ MdAt N C H d
theorem AllAt.mono {N : List Addr} {C : Addr} {H H' : Hp} {ps : List Addr} {ds : List Md} (A : AllAt N C H ps ds) (f : ∀ a o, a ∉ N → H a = some o → H' a = some o) : AllAt N C H' ps ds :=
  ⟨A.1, fun j p e => by
    obtain ⟨d, e1, n, e2, e3⟩ := A.2 j p e
    exact ⟨d, e1, n, f _ _ n e2, e3.mono f⟩⟩
theorem AllAt.push {N : List Addr} {C : Addr} {H : Hp} {ps : List Addr} {ds : List Md} {p : Addr} {d : Md} (A : AllAt N C H ps ds) (n : p ∉ N) (e : H p = some (.tup [.ref d.x, .ref d.t])) (M : MdAt N C H d) : AllAt N C H (ps ++ [p]) (ds ++ [d]) := by
  refine ⟨by simp [A.1], fun j p' g => ?_⟩
  rcases Nat.lt_or_ge j ps.length with h | h
  · rw [List.getElem?_append_left h] at g
    obtain ⟨d', e1, r⟩ := A.2 j p' g
    exact ⟨d', by rw [List.getElem?_append_left (by have := A.1; omega)]; exact e1, r⟩
  · rw [List.getElem?_append_right h] at g
    have e0 : j - ps.length = 0 := by
      rcases Nat.eq_zero_or_pos (j - ps.length) with k | k
      · exact k
      · rw [List.getElem?_eq_none (by simp; omega)] at g
        cases g
    rw [e0] at g
    cases Option.some.inj g
    refine ⟨d, ?_, n, e, M⟩
    rw [List.getElem?_append_right (by have := A.1; omega), show j - ds.length = 0 by have := A.1; omega]
    rfl
theorem AllAt.at {N : List Addr} {C : Addr} {H : Hp} {ps : List Addr} {ds : List Md} (A : AllAt N C H ps ds) {j : Nat} {v : V} (h : (ps.map V.ref)[j]? = some v) : ∃ p d, v = .ref p ∧ H p = some (.tup [.ref d.x, .ref d.t]) ∧ MdAt N C H d := by
  rw [List.getElem?_map] at h
  cases e : ps[j]? with
  | none =>
    rw [e] at h
    cases h
  | some p =>
    rw [e] at h
    obtain ⟨d, _, _, e2, e3⟩ := A.2 j p e
    exact ⟨p, d, (Option.some.inj h).symm, e2, e3⟩

def sp_law_row (T : Txt w K mg) : Sp := fun vs H Q _ => ∃ (sc : Addr) (ns : List Int) (k : Int), vs = [.ref sc, .int k] ∧ (H sc = some (.lst (ns.map V.int))) ∧ (0 ≤ k) ∧ ∀ c : Int, 0 ≤ c → Q (.int c) H
set_option maxHeartbeats 4000000 in
theorem ok_law_row (T : Txt w K mg) : FnOk P w K mg base CX0 1 T.f_law_row T.d_law_row ["script", "k"] (sp_law_row T) := by
  refine T.F_law_row.ok sc_law_row (fun vs H Q E h => ?_) (fun cdv A outer s H vs Q E hr h => ?_)
  · obtain ⟨sc, ns, k, rfl, _⟩ := h
    rfl
  · obtain ⟨sc, ns, k, rfl, hS, hk, q⟩ := h
    refine ⟨_, (pss_cons (ps_set (i := 2) sc_law_row.nd rfl (.inl rfl) pe_int) 
      (pss_cut (ps_if (pt_cmpR op_lt (pv 1) (pe_callB call_len_seq (by rfl) T.m_len PySem.boot_len (pa_cons (pv 0) pa_nil)) (nomark _)) (pss_one (ps_set (i := 2) sc_law_row.nd rfl (.inl rfl) (pe_ix ix_list (pv 0) (pv 1) (fun _ _ => rfl)))) pss_nil) 
      (pss_cut (ps_if (pt_cmpR op_lt (pv 2) pe_int (nomark _)) (pss_one (ps_set (i := 2) sc_law_row.nd rfl (.inl rfl) (pe_op op_sub (pe_op op_mul (pe_un un_neg pe_int) (pv 2)) pe_int))) pss_nil) 
      (pss_cut (ps_if (pt_cmpR op_lt (pv 2) (pe_op op_pow pe_int pe_int) (nomark _)) (pss_cons (ps_set (i := 3) sc_law_row.nd rfl (.inl rfl) (pe_op op_mod (pe_callTy call_int1 (by rfl) T.m_int (by decide +kernel) (pa_cons (pe_op op_add (pe_op op_add (pe_op op_mul (pv 2) pe_int) (pe_op op_mul (pv 1) pe_int)) pe_int) pa_nil)) pe_int)) 
      (pss_cons (ps_set (i := 4) sc_law_row.nd rfl (.inl rfl) (pe_op op_mod (pe_callTy call_int1 (by rfl) T.m_int (by decide +kernel) (pa_cons (pe_op op_add (pe_op op_add (pe_op op_add (pe_op op_mul (pv 3) pe_int) (pe_op op_mul (pv 2) pe_int)) (pv 1)) pe_int) pa_nil)) pe_int)) 
      (pss_cons (ps_set (i := 5) sc_law_row.nd rfl (.inl rfl) (pe_op op_mod (pe_callTy call_int1 (by rfl) T.m_int (by decide +kernel) (pa_cons (pe_op op_add (pe_op op_add (pe_op op_mul (pv 4) pe_int) (pe_op op_mul (pv 3) (pv 4))) pe_int) pa_nil)) pe_int)) 
      (pss_one (ps_set (i := 2) sc_law_row.nd rfl (.inl rfl) (pe_op op_add (pe_op op_add (pv 3) (pe_op op_mul (pv 4) pe_int)) (pe_op op_mul (pv 5) (pe_op op_pow pe_int pe_int)))))))) pss_nil) 
      (pss_one (ps_ret (pv 2))))))), ?_⟩
    -- if k < len(script): cell = script[k]
    refine ⟨fun σ' H' => H' = H ∧ ∃ c : Int, σ' = [some (.ref sc), some (.int k), some (.int c), none, none, none], ?_, ?_⟩
    · refine ⟨_, rfl, _, rfl, sc, _, rfl, .inl (SqL.of hS), _, _, rfl, rfl, _, rfl, ite2 (fun e => ?_) (fun e => ?_)⟩
      · have hl : k < ((ns.map V.int).length : Int) := of_decide_eq_true e
        rw [List.length_map] at hl
        obtain ⟨c, hc⟩ := item_map hk hl
        exact ⟨_, rfl, _, rfl, sc, _, k, _, rfl, rfl, SqL.of hS, hc, rfl, c, rfl⟩
      · exact ⟨rfl, 0, rfl⟩
    rintro σ' H' ⟨rfl, c, rfl⟩
    -- if cell < 0: cell = -2 * cell - 1
    refine ⟨fun σ' H2 => H2 = H' ∧ ∃ c : Int, 0 ≤ c ∧ σ' = [some (.ref sc), some (.int k), some (.int c), none, none, none], ?_, ?_⟩
    · refine ⟨_, rfl, _, _, rfl, rfl, _, rfl, ite2 (fun e => ?_) (fun e => ?_)⟩
      · have hc : c < 0 := of_decide_eq_true e
        refine ⟨2, rfl, _, rfl, _, _, rfl, rfl, .inl ⟨by decide, by decide⟩, _, _, rfl, rfl, rfl, _, ?_, rfl⟩
        omega
      · have hc : ¬ c < 0 := fun h => e (decide_eq_true h)
        exact ⟨rfl, c, by omega, rfl⟩
    rintro σ' H2 ⟨rfl, c, hc, rfl⟩
    -- if cell < 10 ** 9: ..
    refine ⟨fun σ' H' => H' = H2 ∧ ∃ (c : Int) (x y z : Option V), 0 ≤ c ∧ σ' = [some (.ref sc), some (.int k), some (.int c), x, y, z], ?_, ?_⟩
    · refine ⟨_, rfl, _, _, rfl, rfl, ⟨by decide, by decide, by decide⟩, _, _, rfl, rfl, _, rfl, ite2 (fun e => ?_) (fun e => ?_)⟩
      · have h9 : c < 10 ^ 9 := of_decide_eq_true e
        refine ⟨_, rfl, _, _, rfl, rfl, .inr ⟨by decide, by decide⟩, _, rfl, _, _, rfl, rfl, .inr ⟨by decide, by decide⟩, _, _, rfl, rfl, _, _, rfl, rfl, .inl ⟨_, rfl, ?_⟩⟩
        refine ⟨_, _, rfl, rfl, (by decide : (0 : Int) < 2147483647), ?_⟩
        dsimp only
        generalize ha : (c * 48271 + k * 69621 + 11) % 2147483647 = a
        have a0 : 0 ≤ a := by rw [← ha]; exact Int.emod_nonneg _ (by decide)
        have a1 : a < 2147483647 := by rw [← ha]; exact Int.emod_lt_of_pos _ (by decide)
        refine ⟨_, rfl, _, _, rfl, rfl, .inr ⟨by decide, by decide⟩, _, rfl, _, _, rfl, rfl, .inr ⟨by decide, by decide⟩, _, _, rfl, rfl, _, rfl, _, _, rfl, rfl, _, _, rfl, rfl, .inl ⟨_, rfl, ?_⟩⟩
        refine ⟨_, _, rfl, rfl, (by decide : (0 : Int) < 2147483629), ?_⟩
        dsimp only
        generalize hb : (a * 16807 + c * 7 + k + 5) % 2147483629 = b
        have b0 : 0 ≤ b := by rw [← hb]; exact Int.emod_nonneg _ (by decide)
        have b1 : b < 2147483629 := by rw [← hb]; exact Int.emod_lt_of_pos _ (by decide)
        refine ⟨_, rfl, _, _, rfl, rfl, .inr ⟨by decide, by decide⟩, _, rfl, _, rfl, _, _, rfl, rfl, .inl ⟨by omega, by omega⟩, _, _, rfl, rfl, _, _, rfl, rfl, .inl ⟨_, rfl, ?_⟩⟩
        refine ⟨_, _, rfl, rfl, (by decide : (0 : Int) < 2147483587), ?_⟩
        dsimp only
        generalize hd : (b * 39373 + a * b + 3) % 2147483587 = d
        have d0 : 0 ≤ d := by rw [← hd]; exact Int.emod_nonneg _ (by decide)
        refine ⟨_, rfl, _, rfl, _, _, rfl, rfl, .inr ⟨by decide, by decide⟩, _, _, rfl, rfl, _, rfl, _, _, rfl, rfl, ⟨by decide, by decide, by decide⟩, _, _, rfl, rfl, .inr ⟨by decide, by decide⟩, _, _, rfl, rfl, rfl, _, _, _, _, ?_, rfl⟩
        have e2 : (2147483647 : Int) ^ (2 : Int).toNat = 4611686014132420609 := by decide
        rw [e2]
        omega
      · exact ⟨rfl, c, _, _, _, hc, rfl⟩
    rintro σ' H' ⟨rfl, c, x, y, z, hc, rfl⟩
    exact ⟨_, rfl, q c hc⟩
def sp_law_next (T : Txt w K mg) : Sp := fun vs H Q _ => ∃ (st sc : Addr) (m : Int), vs = [.ref st, .int m] ∧ (StAt H st sc) ∧ (0 < m) ∧ (m.natAbs < 2 ^ 200) ∧ ∀ (d : Int) (H' : Hp), 0 ≤ d → d < m → StAt H' st sc → Oth st H H' → Q (.int d) H'
set_option maxHeartbeats 4000000 in
theorem ok_law_next (T : Txt w K mg) : FnOk P w K mg base CX0 2 T.f_law_next T.d_law_next ["state", "many"] (sp_law_next T) := by
  have G_law_row : FnOk P w K mg base CX0 1 T.f_law_row T.d_law_row ["script", "k"] (sp_law_row T) := ok_law_row T
  refine T.F_law_next.ok sc_law_next (fun vs H Q E h => ?_) (fun cdv A outer s H vs Q E hr h => ?_)
  · obtain ⟨st, sc, m, rfl, _⟩ := h
    rfl
  · obtain ⟨st, sc, m, rfl, hS, m0, m1, q⟩ := h
    refine ⟨_, (pss_cut (ps_if (pt_cmpR op_lt (pe_ix ix_list (pv 0) pe_int (fun _ _ => rfl)) (pv 1) (nomark _)) (pss_cons (ps_asg (pe_call G_law_row (hr.mono (by decide)) (by rfl) T.g_law_row T.F_law_row.kp T.b_law_row .nil pass0 (pa_cons (pe_ix ix_list (pv 0) pe_int (fun _ _ => rfl)) (pa_cons (pe_ix ix_list (pv 0) pe_int (fun _ _ => rfl)) pa_nil))) (pg_sub (pv 0) pe_int set_list)) 
      (pss_one (ps_asg (pe_op op_add (pe_ix ix_list (pv 0) pe_int (fun _ _ => rfl)) pe_int) (pg_sub (pv 0) pe_int set_list)))) pss_nil) 
      (pss_cons (ps_set (i := 2) sc_law_next.nd rfl (.inl rfl) (pe_op op_mod (pe_callTy call_int1 (by rfl) T.m_int (by decide +kernel) (pa_cons (pe_ix ix_list (pv 0) pe_int (fun _ _ => rfl)) pa_nil)) (pv 1))) 
      (pss_cons (ps_asg (pe_op op_fdivW (pe_ix ix_list (pv 0) pe_int (fun _ _ => rfl)) (pv 1)) (pg_sub (pv 0) pe_int set_list)) 
      (pss_one (ps_ret (pv 2)))))), ?_⟩
    -- if state[2] < many: ..
    refine ⟨fun σ' H' => Oth st H H' ∧ StAt H' st sc ∧ σ' = [some (.ref st), some (.int m), none], ?_, ?_⟩
    · obtain ⟨ns, k, x, h1, h2, k0, x0, hn⟩ := id hS
      have hne : sc ≠ st := fun e => by
        rw [e, h1] at h2
        have z := HO.lst.inj (Option.some.inj h2)
        cases ns with
        | nil => cases z
        | cons y r =>
          have z2 := (List.cons.inj z).1
          cases z2
      refine ⟨_, rfl, st, _, _, _, rfl, rfl, SqL.of h1, at_of (j := 2) rfl rfl, _, rfl, _, _, rfl, rfl, _, rfl, ite2 (fun e => ?_) (fun e => ?_)⟩
      · refine ⟨_, rfl, st, _, _, _, rfl, rfl, SqL.of h1, at_of (j := 0) rfl rfl, _, rfl, st, _, _, _, rfl, rfl, SqL.of h1, at_of (j := 1) rfl rfl, sc, ns, k, rfl, h2, k0, fun c c0 => ?_⟩
        refine ⟨_, rfl, st, _, _, 2, rfl, rfl, h1, rfl, ?_⟩
        refine ⟨_, rfl, st, _, _, _, rfl, rfl, SqL.of upd_same, at_of (j := 1) rfl rfl, _, _, rfl, rfl, _, rfl, st, _, _, 1, rfl, rfl, upd_same, rfl, ?_⟩
        refine ⟨fun b hb => ?_, ⟨ns, k + 1, c, upd_same, ?_, by omega, c0, hn⟩, rfl⟩
        · rw [upd_ne hb, upd_ne hb]
        · rw [upd_ne hne, upd_ne hne]
          exact h2
      · exact ⟨Oth.refl _ _, hS, rfl⟩
    rintro σ' H' ⟨hO, ⟨ns, k, x, h1, h2, k0, x0, hn⟩, rfl⟩
    have hne : sc ≠ st := fun e => by
      rw [e, h1] at h2
      have z := HO.lst.inj (Option.some.inj h2)
      cases ns with
      | nil => cases z
      | cons y r =>
        have z2 := (List.cons.inj z).1
        cases z2
    -- drawn = int(state[2]) % many
    refine ⟨_, rfl, st, _, _, _, rfl, rfl, SqL.of h1, at_of (j := 2) rfl rfl, .inl ⟨_, rfl, ?_⟩⟩
    refine ⟨_, rfl, _, _, rfl, rfl, m0, ?_⟩
    -- state[2] = state[2] // many
    refine ⟨_, rfl, st, _, _, _, rfl, rfl, SqL.of h1, at_of (j := 2) rfl rfl, _, rfl, _, _, rfl, rfl, wide_div m0 m1 (by decide) (by decide), ?_⟩
    refine ⟨_, rfl, st, _, _, 2, rfl, rfl, h1, rfl, ?_⟩
    refine ⟨_, rfl, q _ _ (Int.emod_nonneg _ (by omega)) (Int.emod_lt_of_pos _ m0) ⟨ns, k, x / m, upd_same, ?_, k0, Int.ediv_nonneg x0 (by omega), hn⟩ (hO.trans fun b hb => upd_ne hb)⟩
    rw [upd_ne hne]
    exact h2
def sp_is_letter (T : Txt w K mg) : Sp := fun vs H Q _ => ∃ (c : Nat), vs = [.str ⟨#[c]⟩] ∧ Q (.bl (isLet c)) H
set_option maxHeartbeats 4000000 in
theorem ok_is_letter (T : Txt w K mg) : FnOk P w K mg base CX0 1 T.f_is_letter T.d_is_letter ["char"] (sp_is_letter T) := by
  refine T.F_is_letter.ok sc_is_letter (fun vs H Q E h => ?_) (fun cdv A outer s H vs Q E hr h => ?_)
  · obtain ⟨c, rfl, _⟩ := h
    rfl
  · obtain ⟨c, rfl, q⟩ := h
    refine ⟨_, (pss_one (ps_ret (pe_or (pe_chain op_le_str op_le_str pe_str (pv 0) pe_str) (pe_or (pe_chain op_le_str op_le_str pe_str (pv 0) pe_str) (pe_one (pe_cmpR op_eq (pv 0) pe_str (nomark _))))))), ?_⟩
    have fin : ∀ b, b = isLet c → Q (.bl b) H := fun b e => by rw [e]; exact q
    refine ⟨_, rfl, _, _, rfl, rfl, _, congrArg V.bl (le_lo c 97 rfl), ?_⟩
    by_cases h1 : c < 97
    · rw [decide_eq_true h1]
      refine iteF ⟨false, rfl, iteF ?_⟩
      refine ⟨_, rfl, _, _, rfl, rfl, _, congrArg V.bl (le_lo c 65 rfl), ?_⟩
      by_cases h3 : c < 65
      · rw [decide_eq_true h3]
        refine iteF ⟨false, rfl, iteF ?_⟩
        have e := fin (decide (c = 95)) (by unfold isLet; simp_all)
        rw [← one_eq c 95] at e
        exact ⟨_, rfl, rfl, e⟩
      · rw [decide_eq_false h3]
        refine iteT ⟨_, _, rfl, rfl, _, congrArg V.bl (le_hi c 90 rfl), ?_⟩
        by_cases h4 : 90 < c
        · rw [decide_eq_true h4]
          refine iteF ?_
          have e := fin (decide (c = 95)) (by unfold isLet; simp_all)
          rw [← one_eq c 95] at e
          exact ⟨_, rfl, rfl, e⟩
        · rw [decide_eq_false h4]
          exact iteT (fin true (by unfold isLet; simp_all))
    · rw [decide_eq_false h1]
      refine iteT ⟨_, _, rfl, rfl, _, congrArg V.bl (le_hi c 122 rfl), ?_⟩
      by_cases h2 : 122 < c
      · rw [decide_eq_true h2]
        refine iteF ?_
        refine ⟨_, rfl, _, _, rfl, rfl, _, congrArg V.bl (le_lo c 65 rfl), ?_⟩
        by_cases h3 : c < 65
        · rw [decide_eq_true h3]
          refine iteF ⟨false, rfl, iteF ?_⟩
          have e := fin (decide (c = 95)) (by unfold isLet; simp_all)
          rw [← one_eq c 95] at e
          exact ⟨_, rfl, rfl, e⟩
        · rw [decide_eq_false h3]
          refine iteT ⟨_, _, rfl, rfl, _, congrArg V.bl (le_hi c 90 rfl), ?_⟩
          by_cases h4 : 90 < c
          · rw [decide_eq_true h4]
            refine iteF ?_
            have e := fin (decide (c = 95)) (by unfold isLet; simp_all)
            rw [← one_eq c 95] at e
            exact ⟨_, rfl, rfl, e⟩
          · rw [decide_eq_false h4]
            exact iteT (fin true (by unfold isLet; simp_all))
      · rw [decide_eq_false h2]
        exact iteT (fin true (by unfold isLet; simp_all))
def sp_is_digit (T : Txt w K mg) : Sp := fun vs H Q _ => ∃ (c : Nat), vs = [.str ⟨#[c]⟩] ∧ Q (.bl (isDig c)) H
set_option maxHeartbeats 4000000 in
theorem ok_is_digit (T : Txt w K mg) : FnOk P w K mg base CX0 1 T.f_is_digit T.d_is_digit ["char"] (sp_is_digit T) := by
  refine T.F_is_digit.ok sc_is_digit (fun vs H Q E h => ?_) (fun cdv A outer s H vs Q E hr h => ?_)
  · obtain ⟨c, rfl, _⟩ := h
    rfl
  · obtain ⟨c, rfl, q⟩ := h
    refine ⟨_, (pss_one (ps_ret (pe_chain op_le_str op_le_str pe_str (pv 0) pe_str))), ?_⟩
    have fin : ∀ b, b = isDig c → Q (.bl b) H := fun b e => by rw [e]; exact q
    refine ⟨_, rfl, _, _, rfl, rfl, _, congrArg V.bl (le_lo c 48 rfl), ?_⟩
    by_cases h1 : c < 48
    · rw [decide_eq_true h1]
      exact iteF (fin false (by unfold isDig; simp_all))
    · rw [decide_eq_false h1]
      refine iteT ⟨_, _, rfl, rfl, ?_⟩
      have e := fin (!decide (57 < c)) (by unfold isDig; simp_all)
      rw [← le_hi c 57 (z := "9") rfl] at e
      exact e
def sp_is_word (T : Txt w K mg) : Sp := fun vs H Q _ => ∃ (z : Str), vs = [.str z] ∧ (z.length ≤ 1000) ∧ ∀ H', Same H H' → Q (.bl (isWordS z)) H'
set_option maxHeartbeats 4000000 in
theorem ok_is_word (T : Txt w K mg) : FnOk P w K mg base CX0 2 T.f_is_word T.d_is_word ["text"] (sp_is_word T) := by
  have G_is_digit : FnOk P w K mg base CX0 1 T.f_is_digit T.d_is_digit ["char"] (sp_is_digit T) := ok_is_digit T
  have G_is_letter : FnOk P w K mg base CX0 1 T.f_is_letter T.d_is_letter ["char"] (sp_is_letter T) := ok_is_letter T
  refine T.F_is_word.ok sc_is_word (fun vs H Q E h => ?_) (fun cdv A outer s H vs Q E hr h => ?_)
  · obtain ⟨z, rfl, _⟩ := h
    rfl
  · obtain ⟨z, rfl, hz, q⟩ := h
    refine ⟨_, (pss_cons (ps_if (PW.pt (pw_or (pt_cmpR op_eq (pv 0) pe_str (nomark _)) (pw_or1 (pt_not (pt_val (pe_call G_is_letter (hr.mono (by decide)) (by rfl) T.g_is_letter T.F_is_letter.kp T.b_is_letter .nil pass0 (pa_cons (pe_ix ix_str (pv 0) pe_int (fun _ _ => rfl)) pa_nil))))))) (pss_one (ps_ret pe_bl)) pss_nil) 
      (pss_one (ps_ret (pe_callB (cr_all rfl) (by rfl) T.m_all (by decide +kernel) (pa_cons (pe_lc (own := [("char", 1)]) (g := gName 1) rfl sc_is_word.nd (pi_str (pv 0)) (blkOk_by (own := [("char", 1)]) (N := ["text", "char"]) (sc := defScope s_is_word) (by decide +kernel)) (fun _ _ _ _ _ => (pg_name (i := 1) sc_is_word.nd rfl (Or.inl rfl))) (fun _ _ _ _ _ => pts_nil) (fun _ _ _ _ _ => (pe_or (pe_call G_is_letter (hr.mono (by decide)) (by rfl) T.g_is_letter T.F_is_letter.kp T.b_is_letter .nil pass0 (pa_cons (pv 1) pa_nil)) (pe_one (pe_call G_is_digit (hr.mono (by decide)) (by rfl) T.g_is_digit T.F_is_digit.kp T.b_is_digit .nil pass0 (pa_cons (pv 1) pa_nil)))))) pa_nil))))), ?_⟩
    have ez : z.cps.toList.length = z.length := by simp [Str.length]
    cases el : z.cps.toList with
    | nil =>
      have e : z = "" := by
        have : z.cps = #[] := by simpa using el
        cases z
        simp_all
        rfl
      have f := q H (Same.refl _)
      have g : isWordS z = false := by unfold isWordS; rw [el]; rfl
      rw [g] at f
      exact ⟨_, rfl, rfl, _, rfl, ite2 (fun _ => f) (fun no => absurd (decide_eq_true (congrArg V.str e)) no)⟩
    | cons c r =>
      have e : ¬ z = "" := fun h => by
        rw [h] at el
        cases el
      have w : isWordS z = (isLet c && (c :: r).all fun x => isLet x || isDig x) := by unfold isWordS; rw [el]; rfl
      refine ⟨_, rfl, rfl, _, rfl, ite2 (fun yes => absurd (V.str.inj (of_decide_eq_true yes)) e) (fun _ => ?_)⟩
      refine ⟨_, rfl, _, _, c, rfl, rfl, Nat.le_trans hz (by decide), by rw [el]; exact (show atI (c :: r) ((0 : Nat) : Int) = some c from atI_nat rfl), c, rfl, ?_⟩
      cases hc : isLet c with
      | false =>
        rw [hc, Bool.false_and] at w
        have f := q H (Same.refl _)
        rw [w] at f
        exact ⟨false, rfl, iteT f⟩
      | true =>
        rw [hc, Bool.true_and] at w
        refine ⟨true, rfl, iteF ?_⟩
        refine ⟨_, rfl, z, rfl, fun D hD => ?_⟩
        refine lc_it walk_str (fun i H' => Same H H' ∧ H' D = some (.lst (((z.cps.toList.take i).map fun x => isLet x || isDig x).map V.bl))) ⟨same_new hD, upd_same⟩ (fun i H' _ h => trivial) ?_ ?_
        · rintro i v H1 H2 hi ⟨sm, hD1⟩ ⟨rfl, d, hd, rfl⟩
          have hd' : z.cps.toList[i]? = some d := by rw [Array.getElem?_toList]; exact hd
          have last : ∀ b, (isLet d || isDig d) = b → ∃ acc, H2 D = some (.lst acc) ∧ acc.length < sizeLine ∧ Same H (upd H2 D (.lst (acc ++ [V.bl b]))) ∧ (upd H2 D (.lst (acc ++ [V.bl b]))) D = some (.lst (((z.cps.toList.take (i + 1)).map fun x => isLet x || isDig x).map V.bl)) := fun b hb => by
            refine ⟨_, hD1, ?_, same_set sm hD, ?_⟩
            · rw [List.length_map, List.length_map, List.length_take]
              exact len_le (by omega)
            · rw [upd_same, List.take_add_one, hd', ← hb]
              simp
          refine ⟨rfl, _, rfl, d, rfl, isLet d, rfl, ?_⟩
          cases hl : isLet d with
          | true => exact iteT (last true (by rw [hl]; rfl))
          | false => exact iteF ⟨_, rfl, d, rfl, last (isDig d) (by rw [hl]; rfl)⟩
        · rintro H1 ⟨sm, hD1⟩
          rw [show z.cps.size = z.cps.toList.length by simp, List.take_length] at hD1
          refine ⟨D, _, rfl, SqL.of hD1, ?_⟩
          have f := q H1 sm
          rw [w, ← el] at f
          rw [List.all_map]
          exact f
def sp_check_vectors (T : Txt w K mg) : Sp := fun vs H Q E => ∃ (n : Int) (w m : Str), vs = [.int n, .str w, .str m] ∧ (w ∈ WIDE3 ∨ w = "huge") ∧ (vecGood n w m → Q .non H) ∧ (¬ vecGood n w m → E (.ref T.c_InvalidSchema) none H)
set_option maxHeartbeats 4000000 in
theorem ok_check_vectors (T : Txt w K mg) : FnOk P w K mg base (L2.CX P w) 1 T.f_check_vectors T.d_check_vectors ["size", "width", "measure"] (sp_check_vectors T) := by
  refine T.F_check_vectors.okX sc_check_vectors (fun vs H Q E h => ?_) (fun cdv A outer s H vs Q E hr h => ?_)
  · obtain ⟨n, w, m, rfl, _⟩ := h
    rfl
  · obtain ⟨n, w, m, rfl, hw, q⟩ := h
    refine ⟨_, (pss_cons (ps_if (pt_cmpR op_lt (pv 0) pe_int (nomark _)) (pss_one (ps_raise rfl (takes_of rfl rfl rfl rfl) (pmk_own PySem.F.excBase_ValueError T.x_InvalidSchema T.mc_InvalidSchema T.kp_InvalidSchema (raises_own T.xb_InvalidSchema T.xt_InvalidSchema) rfl))) pss_nil) 
      (pss_cons (ps_if (pt_cmpR (op_notIn_kd T.kd_WIDTHS) (pv 1) (pe_glob (v := .ref T.a_WIDTHS) rfl T.m_WIDTHS rfl) rfl) (pss_one (ps_raise rfl (takes_of rfl rfl rfl rfl) (pmk_own PySem.F.excBase_ValueError T.x_InvalidSchema T.mc_InvalidSchema T.kp_InvalidSchema (raises_own T.xb_InvalidSchema T.xt_InvalidSchema) rfl))) pss_nil) 
      (pss_cons (ps_if (pt_cmpR op_notIn_seq (pv 2) (pe_glob (v := .ref T.a_MEASURES) rfl T.m_MEASURES rfl) rfl) (pss_one (ps_raise rfl (takes_of rfl rfl rfl rfl) (pmk_own PySem.F.excBase_ValueError T.x_InvalidSchema T.mc_InvalidSchema T.kp_InvalidSchema (raises_own T.xb_InvalidSchema T.xt_InvalidSchema) rfl))) pss_nil) 
      (pss_one (ps_if (PW.pt (pw_and (pt_cmpR op_eq (pv 2) pe_str (nomark _)) (pw_and1 (pt_cmpR op_ne (pv 1) pe_str (nomark _))))) (pss_one (ps_raise rfl (takes_of rfl rfl rfl rfl) (pmk_own PySem.F.excBase_ValueError T.x_InvalidSchema T.mc_InvalidSchema T.kp_InvalidSchema (raises_own T.xb_InvalidSchema T.xt_InvalidSchema) rfl))) pss_nil))))), ?_⟩
    obtain ⟨q1, q2⟩ := q
    refine ⟨_, rfl, _, _, rfl, rfl, _, rfl, ite2 (fun e => ?_) (fun e => ?_)⟩
    · have c : n < 1 := of_decide_eq_true e
      exact q2 fun g => by have := g.1; omega
    have n1 : ¬ n < 1 := fun h => e (decide_eq_true h)
    have after : w ∈ WIDE3 → (∃ r, PySem.W.nsIn K T.a_WIDTHS w = some (some r)) := fun h => by
      unfold WIDE3 at h
      simp only [List.mem_cons, List.not_mem_nil, or_false] at h
      rcases h with rfl | rfl | rfl
      · exact ⟨_, T.ns_WIDTHS_bit⟩
      · exact ⟨_, T.ns_WIDTHS_small⟩
      · exact ⟨_, T.ns_WIDTHS_wide⟩
    rcases hw with hw | rfl
    rotate_left
    · refine ⟨_, rfl, _, none, rfl, rfl, T.ns_WIDTHS_huge, true, rfl, iteT ?_⟩
      exact q2 fun g => absurd g.2.1 (by decide +kernel)
    obtain ⟨r, hr_⟩ := after hw
    refine ⟨_, rfl, _, some r, rfl, rfl, hr_, false, rfl, iteF ?_⟩
    refine ⟨_, rfl, T.a_MEASURES, (MEAS3.map V.str), rfl, .inr (T.sq_MEASURES _), rfl, flat_strsV _, ?_⟩
    show ∃ k, V.bl (!inV (.str m) (MEAS3.map V.str)) = .bl k ∧ _
    rw [inV_strs]
    refine ⟨_, rfl, ite2 (fun e2 => ?_) (fun e2 => ?_)⟩
    · have c : m ∉ MEAS3 := by simpa using e2
      exact q2 fun g => c g.2.2.1
    have hm : m ∈ MEAS3 := by simpa using e2
    refine ⟨_, rfl, rfl, _, rfl, ite2 (fun e3 => ?_) (fun e3 => ?_)⟩
    · have c : m = "bits" := V.str.inj (of_decide_eq_true e3)
      refine ⟨_, rfl, rfl, _, rfl, ?_⟩
      by_cases hwb : w = "bit"
      · rw [decide_eq_true (congrArg V.str hwb)]
        exact iteF (q1 ⟨by omega, hw, hm, fun z => z.2 hwb⟩)
      · rw [decide_eq_false (fun z => hwb (V.str.inj z))]
        exact iteT (q2 fun g => g.2.2.2 ⟨c, hwb⟩)
    · have c : ¬ m = "bits" := fun z => e3 (decide_eq_true (congrArg V.str z))
      exact q1 ⟨by omega, hw, hm, fun z => c z.1⟩
def sp_check_fields (T : Txt w K mg) : Sp := fun vs H Q E => ∃ (tf : Addr) (fs : List (Str × Str)), vs = [.ref tf] ∧ (Dt [] H (.ref tf) (.tuple (fs.map fdD))) ∧ (fs.length ≤ 1000) ∧ (∀ f ∈ fs, f.1.length ≤ 1000) ∧ (fieldsGood fs → ∀ H', Same H H' → Q .non H') ∧ (¬ fieldsGood fs → ∀ H', Same H H' → E (.ref T.c_InvalidSchema) none H')
set_option maxHeartbeats 8000000 in
theorem ok_check_fields (T : Txt w K mg) : FnOk P w K mg base (L2.CX P w) 3 T.f_check_fields T.d_check_fields ["fields"] (sp_check_fields T) := by
  have G_is_word : FnOk P w K mg base CX0 2 T.f_is_word T.d_is_word ["text"] (sp_is_word T) := ok_is_word T
  refine T.F_check_fields.okX sc_check_fields (fun vs H Q E h => ?_) (fun cdv A outer s H vs Q E hr h => ?_)
  · obtain ⟨tf, fs, rfl, _⟩ := h
    rfl
  · obtain ⟨tf, fs, rfl, xf, lf, ln, q⟩ := h
    refine ⟨_, (pss_cons (ps_for (passes_of rfl) rfl (pi_tup (pv 0)) (pg_tup rfl (pgs_cons (pg_name (i := 1) sc_check_fields.nd rfl (.inl rfl)) (pgs_cons (pg_name (i := 2) sc_check_fields.nd rfl (.inl rfl)) pgs_nil))) (pss_cons (ps_if (PW.pt (pw_or (pt_not (pt_val (pe_call G_is_word (hr.mono (by decide)) (by rfl) T.g_is_word T.F_is_word.kp T.b_is_word .nil pass0 (pa_cons (pv 1) pa_nil)))) (pw_or1 (pt_cmpR op_in_seq (pv 1) (pe_glob (v := .ref T.a_RESERVED) rfl T.m_RESERVED rfl) rfl)))) (pss_one (ps_raise rfl (takes_of rfl rfl rfl rfl) (pmk_own PySem.F.excBase_ValueError T.x_InvalidSchema T.mc_InvalidSchema T.kp_InvalidSchema (raises_own T.xb_InvalidSchema T.xt_InvalidSchema) rfl))) pss_nil) 
      (pss_one (ps_if (pt_cmpR op_notIn_seq (pv 2) (pe_glob (v := .ref T.a_KINDS) rfl T.m_KINDS rfl) rfl) (pss_one (ps_raise rfl (takes_of rfl rfl rfl rfl) (pmk_own PySem.F.excBase_ValueError T.x_InvalidSchema T.mc_InvalidSchema T.kp_InvalidSchema (raises_own T.xb_InvalidSchema T.xt_InvalidSchema) rfl))) pss_nil)))) 
      (pss_one (ps_if (pt_cmpR op_lt (pe_lenSetT rfl (by rfl) T.m_len (by rfl) T.m_set (pe_lc (own := [("name", 1), ("_", 3)]) (g := gTup K 2 (gCons (gName 1) (gCons (gName 3) gNil))) rfl sc_check_fields.nd (pi_tup (pv 0)) (blkOk_by (own := [("name", 1), ("_", 3)]) (N := ["fields", "name", "kind", "_"]) (sc := defScope s_check_fields) (by decide +kernel)) (fun _ _ _ _ _ => (by exact (pg_tup rfl (pgs_cons (pg_name (i := 1) sc_check_fields.nd rfl (Or.inl rfl)) (pgs_cons (pg_name (i := 3) sc_check_fields.nd rfl (Or.inl rfl)) pgs_nil))))) (fun _ _ _ _ _ => pts_nil) (fun _ _ _ _ _ => (pv 1)))) (pe_callB call_len_seq (by rfl) T.m_len PySem.boot_len (pa_cons (pv 0) pa_nil)) (nomark _)) (pss_one (ps_raise rfl (takes_of rfl rfl rfl rfl) (pmk_own PySem.F.excBase_ValueError T.x_InvalidSchema T.mc_InvalidSchema T.kp_InvalidSchema (raises_own T.xb_InvalidSchema T.xt_InvalidSchema) rfl))) pss_nil))), ?_⟩
    obtain ⟨q1, q2⟩ := q
    obtain ⟨tf', vf, ef, _, gf, tt⟩ := xf.isT
    cases ef
    have lv := tt.length
    rw [List.length_map] at lv
    refine ⟨_, rfl, tf, rfl, ⟨_, SqT.of gf⟩, ?_⟩
    refine for_tup (K := K) (a := tf) (xs := vf) (fun i σ H' => Same H H' ∧ (∀ f ∈ fs.take i, fGood f) ∧ ∃ x1 x2, σ = [some (.ref tf), x1, x2, none]) ⟨Same.refl _, fun f h => by simp at h, none, none, rfl⟩ (fun i σ H' _ h => SqT.of (h.1 _ _ gf)) ?_ ?_
    · rintro i v σ H1 hi ⟨s1, good, x1, x2, rfl⟩
      obtain ⟨d, ed, xd⟩ := tt.get hi
      rw [List.getElem?_map] at ed
      cases ep : fs[i]? with
      | none =>
        rw [ep] at ed
        cases ed
      | some f =>
        rw [ep] at ed
        have := Option.some.inj ed
        subst this
        obtain ⟨t, w, rfl, _, et, xw⟩ := xd.isP
        rw [xw.isS] at et
        have mf := List.mem_of_getElem? ep
        refine ⟨t, _, rfl, SqT.of (s1 _ _ et), rfl, _, _, rfl, _, _, rfl, rfl, ?_⟩
        refine ⟨_, rfl, f.1, rfl, ln f mf, fun H2 s2 => ⟨isWordS f.1, rfl, ?_⟩⟩
        have s12 := s1.trans s2
        cases hw : isWordS f.1 with
        | false => exact iteT (q2 (fun g => by have := (g.1 f mf).1; rw [hw] at this; cases this) H2 s12)
        | true =>
          refine iteF ⟨_, rfl, T.a_RESERVED, (RESV.map V.str), rfl, .inr (T.sq_RESERVED _), rfl, flat_strsV _, ?_⟩
          show ∃ k, V.bl (inV (.str f.1) (RESV.map V.str)) = .bl k ∧ _
          rw [inV_strs]
          refine ⟨_, rfl, ite2 (fun e2 => ?_) (fun e2 => ?_)⟩
          · exact q2 (fun g => (g.1 f mf).2.1 (of_decide_eq_true e2)) H2 s12
          have hr2 : f.1 ∉ RESV := fun z => e2 (decide_eq_true z)
          refine ⟨_, rfl, T.a_KINDS, (KIND3.map V.str), rfl, .inr (T.sq_KINDS _), rfl, flat_strsV _, ?_⟩
          show ∃ k, V.bl (!inV (.str f.2) (KIND3.map V.str)) = .bl k ∧ _
          rw [inV_strs]
          refine ⟨_, rfl, ite2 (fun e3 => ?_) (fun e3 => ?_)⟩
          · have c : f.2 ∉ KIND3 := by simpa using e3
            exact q2 (fun g => c (g.1 f mf).2.2) H2 s12
          · have c : f.2 ∈ KIND3 := by simpa using e3
            refine ⟨s12, fun g hg => ?_, _, _, rfl⟩
            rw [List.take_add_one, ep] at hg
            rcases List.mem_append.mp hg with h | h
            · exact good g h
            · simp at h
              subst h
              exact ⟨hw, hr2, c⟩
    rintro σ H1 ⟨s1, good, x1, x2, rfl⟩
    rw [lv, List.take_length] at good
    refine ⟨_, rfl, tf, rfl, ⟨_, SqT.of (s1 _ _ gf)⟩, fun D hD => ?_⟩
    refine lc_tup (K := K) (a := tf) (xs := vf) (fun i H' => Same H1 H' ∧ H' D = some (.lst (((fs.take i).map (·.1)).map V.str))) ⟨same_new hD, upd_same⟩ (fun i H' _ h => SqT.of (h.1 _ _ (s1 _ _ gf))) ?_ ?_
    · rintro i v H2 hi ⟨sm, hD1⟩
      obtain ⟨d, ed, xd⟩ := tt.get hi
      rw [List.getElem?_map] at ed
      cases ep : fs[i]? with
      | none =>
        rw [ep] at ed
        cases ed
      | some f =>
        rw [ep] at ed
        have := Option.some.inj ed
        subst this
        obtain ⟨t, w, rfl, _, et, xw⟩ := xd.isP
        refine ⟨t, _, rfl, SqT.of (sm _ _ (s1 _ _ et)), rfl, _, _, rfl, _, _, rfl, rfl, rfl, _, rfl, _, hD1, ?_, same_set sm hD, ?_⟩
        · rw [List.length_map, List.length_map, List.length_take]
          exact len_le (by omega)
        · rw [upd_same, List.take_add_one, ep]
          simp
    rintro H2 ⟨sm, hD1⟩
    rw [lv, List.take_length] at hD1
    refine ⟨D, fs.map (·.1), rfl, SqL.of hD1, by rw [List.length_map]; exact lf, _, rfl, tf, _, rfl, .inr (SqT.of (sm _ _ (s1 _ _ gf))), _, _, rfl, rfl, _, rfl, ite2 (fun e => ?_) (fun e => ?_)⟩
    · have c : (((uS (fs.map (·.1))).length : Nat) : Int) < ((vf.length : Nat) : Int) := of_decide_eq_true e
      refine q2 (fun g => ?_) H2 (s1.trans sm)
      have := (uS_nodup _).mpr g.2
      rw [List.length_map] at this
      omega
    · have c : ¬ (((uS (fs.map (·.1))).length : Nat) : Int) < ((vf.length : Nat) : Int) := fun h => e (decide_eq_true h)
      refine q1 ⟨good, (uS_nodup _).mp ?_⟩ H2 (s1.trans sm)
      have := uS_le (fs.map (·.1))
      rw [List.length_map] at this ⊢
      omega
def sp_Schema___init__ (T : Txt w K mg) : Sp := fun vs H Q E => ∃ (p dx pf : Addr) (n : Int) (w m : Str) (fv : List V) (fs : List (Str × Str)), vs = [.ref p, .int n, .str w, .str m, .ref pf] ∧ (H p = some (.ins T.c_Schema dx [])) ∧ (SqL K H pf fv) ∧ (Dts [] H fv (fs.map fdD)) ∧ (fv.length ≤ 1000) ∧ (∀ f ∈ fs, f.1.length ≤ 1000) ∧ (w ∈ WIDE3 ∨ w = "huge") ∧ ((vecGood n w m ∧ fieldsGood fs) → ∀ H', SchAt [] T.c_Schema H' p n w m fs → (∀ b o, H b = some o → b ≠ p → H' b = some o) → Q .non H') ∧ (¬ (vecGood n w m ∧ fieldsGood fs) → ∀ H', (∀ b o, H b = some o → b ≠ p → H' b = some o) → E (.ref T.c_InvalidSchema) none H')
set_option maxHeartbeats 8000000 in
theorem ok_Schema___init__ (T : Txt w K mg) : FnOk P w K mg base (L2.CX P w) 4 T.f_Schema___init__ T.d_Schema___init__ ["self", "size", "width", "measure", "fields"] (sp_Schema___init__ T) := by
  have G_check_fields : FnOk P w K mg base (L2.CX P w) 3 T.f_check_fields T.d_check_fields ["fields"] (sp_check_fields T) := ok_check_fields T
  have G_check_vectors : FnOk P w K mg base (L2.CX P w) 1 T.f_check_vectors T.d_check_vectors ["size", "width", "measure"] (sp_check_vectors T) := ok_check_vectors T
  refine T.F_Schema___init__.ok sc_Schema___init__ (fun vs H Q E h => ?_) (fun cdv A outer s H vs Q E hr h => ?_)
  · obtain ⟨p, dx, pf, n, w, m, fv, fs, rfl, _⟩ := h
    rfl
  · obtain ⟨p, dx, pf, n, w, m, fv, fs, rfl, hp, hf, tf, lf, ln, hw, q⟩ := h
    refine ⟨_, (pss_cons (ps_fld (pv 0) (pv 1) rfl) 
      (pss_cons (ps_fld (pv 0) (pv 2) rfl) 
      (pss_cons (ps_fld (pv 0) (pv 3) rfl) 
      (pss_cons (ps_fld (pv 0) (pe_callTy call_tuple_of (by rfl) T.m_tuple (by decide +kernel) (pa_cons (pe_lc (own := [("pair", 5)]) (g := gName 5) rfl sc_Schema___init__.nd (pi_list (pv 4)) (blkOk_by (own := [("pair", 5)]) (N := ["self", "size", "width", "measure", "fields", "pair"]) (sc := defScope s_Schema___init__) (by decide +kernel)) (fun _ _ _ _ _ => (pg_name (i := 5) sc_Schema___init__.nd rfl (Or.inl rfl))) (fun _ _ _ _ _ => pts_nil) (fun _ _ _ _ _ => (pe_callTy (r := rTupleB K) (by exact call_tuple_of) (by rfl) T.m_tuple (by decide +kernel) (pa_cons (pv 5) pa_nil)))) pa_nil)) rfl) 
      (pss_cons (ps_expr (pe_call G_check_vectors (hr.mono (by decide)) (by rfl) T.g_check_vectors T.F_check_vectors.kp T.b_check_vectors .nil (passes_call (takes_of rfl rfl rfl rfl) (fun _ _ _ _ h => h)) (pa_cons (pv 1) (pa_cons (pv 2) (pa_cons (pv 3) pa_nil))))) 
      (pss_one (ps_expr (pe_call G_check_fields (hr.mono (by decide)) (by rfl) T.g_check_fields T.F_check_fields.kp T.b_check_fields .nil (passes_call (takes_of rfl rfl rfl rfl) (fun _ _ _ _ h => h)) (pa_cons (pe_fld (pv 0) rfl) pa_nil))))))))), ?_⟩
    obtain ⟨q1, q2⟩ := q
    have lfs : fs.length ≤ 1000 := by
      have := tf.length
      rw [List.length_map] at this
      omega
    refine ⟨_, rfl, _, rfl, p, T.c_Schema, dx, _, rfl, hp, T.cl_Schema, T.n_Schema_size, Nat.lt_of_le_of_lt (Nat.le_refl 0) (by decide), ?_⟩
    refine ⟨_, rfl, _, rfl, p, T.c_Schema, dx, _, rfl, upd_same, T.cl_Schema, T.n_Schema_width, Nat.lt_of_le_of_lt (putF_le (Nat.le_refl 0)) (by decide), ?_⟩
    refine ⟨_, rfl, _, rfl, p, T.c_Schema, dx, _, rfl, upd_same, T.cl_Schema, T.n_Schema_measure, Nat.lt_of_le_of_lt (putF_le (putF_le (Nat.le_refl 0))) (by decide), ?_⟩
    have k3 : Keep H (upd (upd (upd H p (.ins T.c_Schema dx (putF "size" (.int n) []))) p (.ins T.c_Schema dx (putF "width" (.str w) (putF "size" (.int n) [])))) p (.ins T.c_Schema dx (putF "measure" (.str m) (putF "width" (.str w) (putF "size" (.int n) []))))) := ((Keep.ins hp).trans (Keep.ins upd_same)).trans (Keep.ins upd_same)
    have f3 : ∀ b o, H b = some o → b ≠ p → (upd (upd (upd H p (.ins T.c_Schema dx (putF "size" (.int n) []))) p (.ins T.c_Schema dx (putF "width" (.str w) (putF "size" (.int n) [])))) p (.ins T.c_Schema dx (putF "measure" (.str m) (putF "width" (.str w) (putF "size" (.int n) []))))) b = some o := fun b o e n => by
      rw [upd_ne n, upd_ne n, upd_ne n]
      exact e
    have p3 : (upd (upd (upd H p (.ins T.c_Schema dx (putF "size" (.int n) []))) p (.ins T.c_Schema dx (putF "width" (.str w) (putF "size" (.int n) [])))) p (.ins T.c_Schema dx (putF "measure" (.str m) (putF "width" (.str w) (putF "size" (.int n) []))))) p = some (.ins T.c_Schema dx (putF "measure" (.str m) (putF "width" (.str w) (putF "size" (.int n) [])))) := upd_same
    generalize upd (upd (upd H p (.ins T.c_Schema dx (putF "size" (.int n) []))) p (.ins T.c_Schema dx (putF "width" (.str w) (putF "size" (.int n) [])))) p (.ins T.c_Schema dx (putF "measure" (.str m) (putF "width" (.str w) (putF "size" (.int n) [])))) = H3 at k3 f3 p3 ⊢
    have tf3 := tf.keep k3
    have hf3 := k3.seq hf
    refine ⟨_, rfl, pf, rfl, ⟨_, hf3⟩, fun D hD => ?_⟩
    refine lc_list (K := K) (a := pf) (xs := fv) (fun i H' => Same H3 H' ∧ H' D = some (.lst (fv.take i))) ⟨same_new hD, by rw [upd_same]; rfl⟩ (fun i H' _ h => h.1.seq hf3) ?_ ?_
    · rintro i v H2 hi ⟨sm, hD1⟩
      obtain ⟨t, ws, rfl, et⟩ := Dts.refT (fun a => ⟨_, rfl⟩) tf3 hi
      refine ⟨rfl, _, rfl, t, ws, rfl, .inr ⟨SqT.of (sm _ _ et), _, hD1, ?_, same_set sm hD, ?_⟩⟩
      · rw [List.length_take]
        exact len_le (by omega)
      · rw [upd_same, List.take_add_one, hi]
        rfl
    rintro H4 ⟨sm, hD1⟩
    rw [List.take_length] at hD1
    refine ⟨D, _, rfl, .inl ⟨SqL.of hD1, fun t0 nt => ?_⟩⟩
    have s4 := sm.trans (same_new (o := .tup fv) nt)
    refine ⟨_, rfl, p, T.c_Schema, dx, _, rfl, s4 _ _ p3, T.cl_Schema, T.n_Schema_fields, Nat.lt_of_le_of_lt (putF_le (putF_le (putF_le (Nat.le_refl 0)))) (by decide), ?_⟩
    have ntp : t0 ≠ p := fun e => by
      have := sm _ _ p3
      rw [← e, nt] at this
      cases this
    have k4 := k3.trans ((Keep.same s4).trans (Keep.ins (o := .ins T.c_Schema dx (ff_Schema (.int n) (.str w) (.str m) (.ref t0))) (s4 _ _ p3)))
    have f4 : ∀ b o, H b = some o → b ≠ p → (upd (upd H4 t0 (.tup fv)) p (.ins T.c_Schema dx (ff_Schema (.int n) (.str w) (.str m) (.ref t0)))) b = some o := fun b o e n => by
      rw [upd_ne n]
      exact s4 _ _ (f3 _ _ e n)
    have x4 : (upd (upd H4 t0 (.tup fv)) p (.ins T.c_Schema dx (ff_Schema (.int n) (.str w) (.str m) (.ref t0)))) t0 = some (.tup fv) := by
      rw [upd_ne ntp]
      exact upd_same
    have p4 : (upd (upd H4 t0 (.tup fv)) p (.ins T.c_Schema dx (ff_Schema (.int n) (.str w) (.str m) (.ref t0)))) p = some (.ins T.c_Schema dx (ff_Schema (.int n) (.str w) (.str m) (.ref t0))) := upd_same
    show _
    generalize hH5 : upd (upd H4 t0 (.tup fv)) p (.ins T.c_Schema dx (ff_Schema (.int n) (.str w) (.str m) (.ref t0))) = H5 at k4 f4 x4 p4
    have hH5' : upd (upd H4 t0 (.tup fv)) p (.ins T.c_Schema dx (putF "fields" (.ref t0) (putF "measure" (.str m) (putF "width" (.str w) (putF "size" (.int n) []))))) = H5 := hH5
    rw [hH5']
    have xt : Dt [] H5 (.ref t0) (.tuple (fs.map fdD)) := .tup (fun z => by cases z) x4 (tf.keep k4)
    have S5 : SchAt [] T.c_Schema H5 p n w m fs := ⟨(fun z => by cases z), dx, t0, p4, xt⟩
    refine ⟨_, rfl, _, rfl, _, rfl, n, w, m, rfl, hw, fun g => ?_, fun g => q2 (fun z => g z.1) H5 f4⟩
    refine ⟨_, rfl, p, T.c_Schema, dx, _, _, rfl, p4, T.cl_Schema, T.n_Schema_fields, lk_Schema_fields, t0, fs, rfl, xt, lfs, ln, fun g2 H6 s6 => ?_, fun g2 H6 s6 => ?_⟩
    · exact q1 ⟨g, g2⟩ H6 (S5.same s6) fun b o e n => s6 _ _ (f4 b o e n)
    · exact q2 (fun z => g2 z.2) H6 fun b o e n => s6 _ _ (f4 b o e n)
def sp_law_good_name (T : Txt w K mg) : Sp := fun vs H Q _ => ∃ (z : Str), vs = [.str z] ∧ (z.length ≤ 1000) ∧ ∀ H', Same H H' → Q (.bl (isWordS z && !decide (z ∈ RESV))) H'
set_option maxHeartbeats 8000000 in
theorem ok_law_good_name (T : Txt w K mg) : FnOk P w K mg base CX0 1 T.f_law_good_name T.d_law_good_name ["name"] (sp_law_good_name T) := by
  refine T.F_law_good_name.ok sc_law_good_name (fun vs H Q E h => ?_) (fun cdv A outer s H vs Q E hr h => ?_)
  · obtain ⟨z, rfl, _⟩ := h
    rfl
  · obtain ⟨z, rfl, hz, q⟩ := h
    refine ⟨_, (pss_cons (ps_if (PW.pt (pw_or (pt_cmpR op_eq (pv 0) pe_str (nomark _)) (pw_or1 (pt_cmpR op_in_seq (pv 0) (pe_lst (pa_cons pe_str (pa_cons pe_str (pa_cons pe_str (pa_cons pe_str (pa_cons pe_str (pa_cons pe_str (pa_cons pe_str (pa_cons pe_str pa_nil))))))))) rfl)))) (pss_one (ps_ret pe_bl)) pss_nil) 
      (pss_cons (ps_for PassesOwn.never rfl (pi_range1 rfl T.m_range (pa_cons (pe_callB call_len_str (by rfl) T.m_len PySem.boot_len (pa_cons (pv 0) pa_nil)) pa_nil)) (pg_name (i := 1) sc_law_good_name.nd rfl (.inl rfl)) (pss_cut (ps_set (i := 2) sc_law_good_name.nd rfl (.inl rfl) (pe_or (pe_chain op_le_str op_le_str pe_str (pe_ix ix_str (pv 0) (pv 1) (fun _ _ => rfl)) pe_str) (pe_or (pe_chain op_le_str op_le_str pe_str (pe_ix ix_str (pv 0) (pv 1) (fun _ _ => rfl)) pe_str) (pe_one (pe_cmpR op_eq (pe_ix ix_str (pv 0) (pv 1) (fun _ _ => rfl)) pe_str (nomark _)))))) 
      (pss_cut (ps_set (i := 3) sc_law_good_name.nd rfl (.inl rfl) (pe_chain op_le_str op_le_str pe_str (pe_ix ix_str (pv 0) (pv 1) (fun _ _ => rfl)) pe_str)) 
      (pss_one (ps_if (PW.pt (pw_and (pt_not (pt_val (pv 2))) (pw_and1 (PW.pt (pw_or (pt_cmpR op_eq (pv 1) pe_int (nomark _)) (pw_or1 (pt_not (pt_val (pv 3))))))))) (pss_one (ps_ret pe_bl)) pss_nil))))) 
      (pss_one (ps_ret pe_bl)))), ?_⟩
    have ez : z.cps.toList.length = z.length := by simp [Str.length]
    refine ⟨_, rfl, rfl, _, rfl, ite2 (fun e => ?_) (fun e => ?_)⟩
    · have c : z = "" := V.str.inj (of_decide_eq_true e)
      have f := q H (Same.refl _)
      subst c
      have g : (isWordS "" && !decide (("" : Str) ∈ RESV)) = false := by decide +kernel
      rw [g] at f
      exact f
    have ne : ¬ z = "" := fun h => e (decide_eq_true (congrArg V.str h))
    refine ⟨_, rfl, (by show 8 ≤ sizeLine; decide), fun l hl => ⟨l, RESV.map V.str, rfl, .inl (SqL.of upd_same), rfl, flat_strsV _, ?_⟩⟩
    have s1 := same_new (o := .lst (RESV.map V.str)) hl
    show ∃ k, V.bl (inV (.str z) (RESV.map V.str)) = .bl k ∧ _
    rw [inV_strs]
    refine ⟨_, rfl, ite2 (fun e2 => ?_) (fun e2 => ?_)⟩
    · have f := q _ s1
      rw [show decide (z ∈ RESV) = true from e2, Bool.not_true, Bool.and_false] at f
      exact f
    have nr : ¬ z ∈ RESV := fun h => e2 (decide_eq_true h)
    have f : ∀ b, (b = true ↔ ∀ (j c : Nat), z.cps.toList[j]? = some c → okC j c = true) → Q (.bl b) (upd H l (.lst (RESV.map V.str))) := fun b hb => by
      have f := q _ s1
      rw [decide_eq_false nr, Bool.not_false, Bool.and_true] at f
      have : isWordS z = b := by
        have w := word_ok ne
        cases hw : isWordS z with
        | true => exact (hb.mpr (w.mp hw)).symm
        | false =>
          cases b with
          | false => rfl
          | true =>
            have := w.mpr (hb.mp rfl)
            rw [hw] at this
            cases this
      rw [this] at f
      exact f
    generalize hH1 : upd H l (.lst (RESV.map V.str)) = H1 at f
    have hH1' : upd H l (.lst [V.str "every", V.str "has", V.str "in", V.str "and", V.str "or", V.str "not", V.str "true", V.str "false"]) = H1 := hH1
    rw [hH1']
    refine ⟨_, rfl, z, rfl, Nat.le_trans hz (by decide), z.length, rfl, by omega, by omega, ?_⟩
    refine for_range (lo := 0) (n := z.length) (fun i σ H' => H' = H1 ∧ (∀ (j c : Nat), j < i → z.cps.toList[j]? = some c → okC j c = true) ∧ ∃ y1 y2 y3, σ = [some (.str z), y1, y2, y3]) ⟨rfl, (fun j c h => absurd h (Nat.not_lt_zero _)), none, none, none, rfl⟩ ?_ ?_
    rotate_left
    · rintro σ H' ⟨rfl, good, y1, y2, y3, rfl⟩
      refine f true ⟨fun _ j c hj => good j c ?_ hj, fun _ => rfl⟩
      have := (List.getElem?_eq_some_iff.mp hj).1
      omega
    rintro i σ H' hi ⟨rfl, good, y1, y2, y3, rfl⟩
    obtain ⟨c, hc⟩ : ∃ c, z.cps.toList[i]? = some c := ⟨_, List.getElem?_eq_getElem (by omega)⟩
    have hl8 : z.length ≤ sizeLine := Nat.le_trans hz (by decide)
    have hat : atI z.cps.toList (0 + (i : Int)) = some c := by
      have := atI_nat hc
      rw [show (0 : Int) + (i : Int) = (i : Int) by omega]
      exact this
    refine ⟨fun σ H2 => H2 = H' ∧ σ = [some (.str z), some (.int (0 + (i : Int))), some (.bl (isLet c)), y3], ?_, ?_⟩
    · have fin : ∀ b, b = isLet c → H' = H' ∧ ([some (.str z), some (.int (0 + (i : Int))), y2, y3] : List (Option V)).set 2 (some (.bl b)) = [some (.str z), some (.int (0 + (i : Int))), some (.bl (isLet c)), y3] := fun b e => ⟨rfl, by rw [e]; rfl⟩
      refine ⟨_, rfl, _, rfl, _, _, c, rfl, rfl, hl8, hat, _, _, rfl, rfl, _, congrArg V.bl (le_lo c 97 rfl), ?_⟩
      by_cases h1 : c < 97
      · rw [decide_eq_true h1]
        refine iteF ⟨false, rfl, iteF ?_⟩
        refine ⟨_, rfl, _, rfl, _, _, c, rfl, rfl, hl8, hat, _, _, rfl, rfl, _, congrArg V.bl (le_lo c 65 rfl), ?_⟩
        by_cases h3 : c < 65
        · rw [decide_eq_true h3]
          refine iteF ⟨false, rfl, iteF ?_⟩
          have e := fin (decide (c = 95)) (by unfold isLet; simp_all)
          rw [← one_eq c 95] at e
          exact ⟨_, rfl, _, rfl, _, _, c, rfl, rfl, hl8, hat, rfl, e⟩
        · rw [decide_eq_false h3]
          refine iteT ⟨_, _, rfl, rfl, _, congrArg V.bl (le_hi c 90 rfl), ?_⟩
          by_cases h4 : 90 < c
          · rw [decide_eq_true h4]
            refine iteF ?_
            have e := fin (decide (c = 95)) (by unfold isLet; simp_all)
            rw [← one_eq c 95] at e
            exact ⟨_, rfl, _, rfl, _, _, c, rfl, rfl, hl8, hat, rfl, e⟩
          · rw [decide_eq_false h4]
            exact iteT (fin true (by unfold isLet; simp_all))
      · rw [decide_eq_false h1]
        refine iteT ⟨_, _, rfl, rfl, _, congrArg V.bl (le_hi c 122 rfl), ?_⟩
        by_cases h2 : 122 < c
        · rw [decide_eq_true h2]
          refine iteF ?_
          refine ⟨_, rfl, _, rfl, _, _, c, rfl, rfl, hl8, hat, _, _, rfl, rfl, _, congrArg V.bl (le_lo c 65 rfl), ?_⟩
          by_cases h3 : c < 65
          · rw [decide_eq_true h3]
            refine iteF ⟨false, rfl, iteF ?_⟩
            have e := fin (decide (c = 95)) (by unfold isLet; simp_all)
            rw [← one_eq c 95] at e
            exact ⟨_, rfl, _, rfl, _, _, c, rfl, rfl, hl8, hat, rfl, e⟩
          · rw [decide_eq_false h3]
            refine iteT ⟨_, _, rfl, rfl, _, congrArg V.bl (le_hi c 90 rfl), ?_⟩
            by_cases h4 : 90 < c
            · rw [decide_eq_true h4]
              refine iteF ?_
              have e := fin (decide (c = 95)) (by unfold isLet; simp_all)
              rw [← one_eq c 95] at e
              exact ⟨_, rfl, _, rfl, _, _, c, rfl, rfl, hl8, hat, rfl, e⟩
            · rw [decide_eq_false h4]
              exact iteT (fin true (by unfold isLet; simp_all))
        · rw [decide_eq_false h2]
          exact iteT (fin true (by unfold isLet; simp_all))
    rintro σ H2 ⟨rfl, rfl⟩
    refine ⟨fun σ H3 => H3 = H2 ∧ σ = [some (.str z), some (.int (0 + (i : Int))), some (.bl (isLet c)), some (.bl (isDig c))], ?_, ?_⟩
    · have fin : ∀ b, b = isDig c → H2 = H2 ∧ ([some (.str z), some (.int (0 + (i : Int))), some (.bl (isLet c)), y3] : List (Option V)).set 3 (some (.bl b)) = [some (.str z), some (.int (0 + (i : Int))), some (.bl (isLet c)), some (.bl (isDig c))] := fun b e => ⟨rfl, by rw [e]; rfl⟩
      refine ⟨_, rfl, _, rfl, _, _, c, rfl, rfl, hl8, hat, _, _, rfl, rfl, _, congrArg V.bl (le_lo c 48 rfl), ?_⟩
      by_cases h1 : c < 48
      · rw [decide_eq_true h1]
        exact iteF (fin false (by unfold isDig; simp_all))
      · rw [decide_eq_false h1]
        refine iteT ⟨_, _, rfl, rfl, ?_⟩
        have e := fin (!decide (57 < c)) (by unfold isDig; simp_all)
        rw [← le_hi c 57 (z := "9") rfl] at e
        exact e
    rintro σ H3 ⟨rfl, rfl⟩
    have bad : okC i c = false → Q (.bl false) H3 := fun h => f false ⟨(fun z => by cases z), fun g => by rw [g i c hc] at h; cases h⟩
    have go : okC i c = true → ∀ (j d : Nat), j < i + 1 → z.cps.toList[j]? = some d → okC j d = true := fun h j d hj hd => by
      rcases Nat.lt_or_ge j i with g | g
      · exact good j d g hd
      · have : j = i := by omega
        subst this
        rw [hc] at hd
        cases Option.some.inj hd
        exact h
    cases hlc : isLet c with
    | true =>
      refine ⟨_, rfl, true, rfl, iteF ⟨rfl, go (by unfold okC; rw [hlc]; rfl), _, _, _, rfl⟩⟩
    | false =>
      refine ⟨_, rfl, false, rfl, iteT ⟨_, rfl, rfl, _, rfl, ite2 (fun e => ?_) (fun e => ?_)⟩⟩
      · have : i = 0 := by
          have := V.int.inj (of_decide_eq_true e)
          omega
        exact bad (by unfold okC; rw [hlc, this]; rfl)
      · have i0 : ¬ i = 0 := fun h => e (decide_eq_true (by rw [h]; rfl))
        cases hdc : isDig c with
        | true => exact ⟨_, rfl, true, rfl, iteF ⟨rfl, go (by unfold okC; rw [hlc, hdc, decide_eq_true i0]; rfl), _, _, _, rfl⟩⟩
        | false => exact ⟨_, rfl, false, rfl, iteT (bad (by unfold okC; rw [hlc, hdc, Bool.and_false]; rfl))⟩
def sp_law_draw (T : Txt w K mg) : Sp := fun vs H Q _ => ∃ (st sc : Addr), vs = [.ref st] ∧ (StAt H st sc) ∧ ∀ (t pf : Addr) (n : Int) (w m : Str) (fs : List (Str × Str)) (H' : Hp), FOk fs → w ∈ WIDE4 → m ∈ MEAS4 → t ≠ st → H' t = some (.tup [.int n, .str w, .str m, .ref pf]) → Dt [st] H' (.ref pf) (.list (fs.map fdD)) → StAt H' st sc → H pf = none → H t = none → Fr st H H' → Q (.ref t) H'
set_option maxHeartbeats 8000000 in
theorem ok_law_draw (T : Txt w K mg) : FnOk P w K mg base CX0 3 T.f_law_draw T.d_law_draw ["state"] (sp_law_draw T) := by
  have G_law_next : FnOk P w K mg base CX0 2 T.f_law_next T.d_law_next ["state", "many"] (sp_law_next T) := ok_law_next T
  refine T.F_law_draw.ok sc_law_draw (fun vs H Q E h => ?_) (fun cdv A outer s H vs Q E hr h => ?_)
  · obtain ⟨st, sc, rfl, _⟩ := h
    rfl
  · obtain ⟨st, sc, rfl, hS, q⟩ := h
    refine ⟨_, (pss_cons (ps_set (i := 1) sc_law_draw.nd rfl (.inl rfl) (pe_lst (pa_cons pe_str (pa_cons pe_str (pa_cons pe_str (pa_cons pe_str (pa_cons pe_str (pa_cons pe_str (pa_cons pe_str (pa_cons pe_str (pa_cons pe_str (pa_cons pe_str (pa_cons pe_str (pa_cons pe_str (pa_cons pe_str (pa_cons pe_str (pa_cons pe_str (pa_cons pe_str pa_nil)))))))))))))))))) 
      (pss_cons (ps_set (i := 2) sc_law_draw.nd rfl (.inl rfl) (pe_lst (pa_cons pe_str (pa_cons pe_str (pa_cons pe_str (pa_cons pe_str pa_nil)))))) 
      (pss_cons (ps_set (i := 3) sc_law_draw.nd rfl (.inl rfl) (pe_lst pa_nil)) 
      (pss_cons (ps_for PassesOwn.never rfl (pi_range1 rfl T.m_range (pa_cons (pe_call G_law_next (hr.mono (by decide)) (by rfl) T.g_law_next T.F_law_next.kp T.b_law_next .nil pass0 (pa_cons (pv 0) (pa_cons pe_int pa_nil))) pa_nil)) (pg_name (i := 4) sc_law_draw.nd rfl (.inl rfl)) (pss_cons (ps_set (i := 5) sc_law_draw.nd rfl (.inl rfl) (pe_ix ix_list (pv 1) (pe_call G_law_next (hr.mono (by decide)) (by rfl) T.g_law_next T.F_law_next.kp T.b_law_next .nil pass0 (pa_cons (pv 0) (pa_cons pe_int pa_nil))) (fun _ _ => rfl))) 
      (pss_cut (ps_if (pt_cmpR op_eq (pe_call G_law_next (hr.mono (by decide)) (by rfl) T.g_law_next T.F_law_next.kp T.b_law_next .nil pass0 (pa_cons (pv 0) (pa_cons pe_int pa_nil))) pe_int (nomark _)) (pss_one (ps_set (i := 5) sc_law_draw.nd rfl (.inl rfl) (pe_ix ix_list (pv 1) (pe_call G_law_next (hr.mono (by decide)) (by rfl) T.g_law_next T.F_law_next.kp T.b_law_next .nil pass0 (pa_cons (pv 0) (pa_cons pe_int pa_nil))) (fun _ _ => rfl)))) pss_nil) 
      (pss_cons (ps_set (i := 6) sc_law_draw.nd rfl (.inl rfl) (pe_ix ix_list (pv 2) (pe_call G_law_next (hr.mono (by decide)) (by rfl) T.g_law_next T.F_law_next.kp T.b_law_next .nil pass0 (pa_cons (pv 0) (pa_cons pe_int pa_nil))) (fun _ _ => rfl))) 
      (pss_cut (ps_if (pt_cmpR op_eq (pe_call G_law_next (hr.mono (by decide)) (by rfl) T.g_law_next T.F_law_next.kp T.b_law_next .nil pass0 (pa_cons (pv 0) (pa_cons pe_int pa_nil))) pe_int (nomark _)) (pss_one (ps_set (i := 6) sc_law_draw.nd rfl (.inl rfl) (pe_ix ix_list (pv 2) pe_int (fun _ _ => rfl)))) pss_nil) 
      (pss_one (ps_expr (pe_bm PySem.F.plainAttrs_list PySem.F.slot_list_append PySem.F.type_list_append mt_append (pv 3) (pa_cons (pe_tup (pa_cons (pv 5) (pa_cons (pv 6) pa_nil))) pa_nil))))))))) 
      (pss_cons (ps_set (i := 7) sc_law_draw.nd rfl (.inl rfl) (pe_op op_add pe_int (pe_call G_law_next (hr.mono (by decide)) (by rfl) T.g_law_next T.F_law_next.kp T.b_law_next .nil pass0 (pa_cons (pv 0) (pa_cons pe_int pa_nil))))) 
      (pss_cut (ps_if (pt_cmpR op_eq (pe_call G_law_next (hr.mono (by decide)) (by rfl) T.g_law_next T.F_law_next.kp T.b_law_next .nil pass0 (pa_cons (pv 0) (pa_cons pe_int pa_nil))) pe_int (nomark _)) (pss_one (ps_set (i := 7) sc_law_draw.nd rfl (.inl rfl) (pe_ix ix_list (pe_lst (pa_cons (pe_un un_neg pe_int) (pa_cons pe_int (pa_cons pe_int pa_nil)))) (pe_call G_law_next (hr.mono (by decide)) (by rfl) T.g_law_next T.F_law_next.kp T.b_law_next .nil pass0 (pa_cons (pv 0) (pa_cons pe_int pa_nil))) (fun _ _ => rfl)))) pss_nil) 
      (pss_cons (ps_set (i := 8) sc_law_draw.nd rfl (.inl rfl) (pe_ix ix_list (pe_lst (pa_cons pe_str (pa_cons pe_str (pa_cons pe_str (pa_cons pe_str pa_nil))))) (pe_op op_add (pe_op op_mod (pe_op op_mod (pe_call G_law_next (hr.mono (by decide)) (by rfl) T.g_law_next T.F_law_next.kp T.b_law_next .nil pass0 (pa_cons (pv 0) (pa_cons pe_int pa_nil))) pe_int) pe_int) (pe_op op_fdiv (pe_call G_law_next (hr.mono (by decide)) (by rfl) T.g_law_next T.F_law_next.kp T.b_law_next .nil pass0 (pa_cons (pv 0) (pa_cons pe_int pa_nil))) pe_int)) (fun _ _ => rfl))) 
      (pss_cons (ps_set (i := 9) sc_law_draw.nd rfl (.inl rfl) (pe_ix ix_list (pe_lst (pa_cons pe_str (pa_cons pe_str (pa_cons pe_str (pa_cons pe_str pa_nil))))) (pe_op op_add (pe_op op_mod (pe_call G_law_next (hr.mono (by decide)) (by rfl) T.g_law_next T.F_law_next.kp T.b_law_next .nil pass0 (pa_cons (pv 0) (pa_cons pe_int pa_nil))) pe_int) (pe_op op_fdiv (pe_call G_law_next (hr.mono (by decide)) (by rfl) T.g_law_next T.F_law_next.kp T.b_law_next .nil pass0 (pa_cons (pv 0) (pa_cons pe_int pa_nil))) pe_int)) (fun _ _ => rfl))) 
      (pss_one (ps_ret (pe_tup (pa_cons (pv 7) (pa_cons (pv 8) (pa_cons (pv 9) (pa_cons (pv 3) pa_nil))))))))))))))), ?_⟩
    refine ⟨(by show 16 ≤ sizeLine; decide), fun pn hpn => ?_⟩
    have nn : pn ≠ st := st_new hS hpn
    have hS1 := hS.new (o := .lst (NAME16.map V.str)) hpn
    have hn1 : (upd H pn (.lst (NAME16.map V.str))) pn = some (.lst (NAME16.map V.str)) := upd_same
    have sA := same_new (o := .lst (NAME16.map V.str)) hpn
    generalize hG : upd H pn (.lst (NAME16.map V.str)) = H1 at hS1 hn1 sA
    have hG' : upd H pn (.lst [V.str "a", V.str "b", V.str "A9_", V.str "_", V.str "", V.str "9a", V.str "has", V.str "every", V.str "in", V.str "and", V.str "or", V.str "not", V.str "true", V.str "false", V.str "a b", V.str "truex"]) = H1 := hG
    rw [hG']
    clear hG hG' hpn
    refine ⟨(by show 4 ≤ sizeLine; decide), fun pk hpk => ?_⟩
    have nk : pk ≠ st := st_new hS1 hpk
    have hS2 := hS1.new (o := .lst (KIND4.map V.str)) hpk
    have hk2 : (upd H1 pk (.lst (KIND4.map V.str))) pk = some (.lst (KIND4.map V.str)) := upd_same
    have hn2 := same_new (o := .lst (KIND4.map V.str)) hpk _ _ hn1
    replace sA := sA.trans (same_new (o := .lst (KIND4.map V.str)) hpk)
    generalize hG : upd H1 pk (.lst (KIND4.map V.str)) = H2 at hS2 hk2 hn2 sA
    have hG' : upd H1 pk (.lst [V.str "integer", V.str "text", V.str "flag", V.str "number"]) = H2 := hG
    rw [hG']
    clear hG hG' hpk
    refine ⟨Nat.zero_le _, fun D hD => ?_⟩
    have nD : D ≠ st := st_new hS2 hD
    have nDn : pn ≠ D := ne_of_none hn2 hD
    have nDk : pk ≠ D := ne_of_none hk2 hD
    have s3 := same_new (o := .lst []) hD
    refine ⟨_, rfl, st, sc, 5, rfl, hS2.new hD, by decide, by decide +kernel, fun g H3 g0 g1 hS3 o3 => ?_⟩
    have B3 : Bl [st] D H3 [] := (Bl.nil (N := [st]) (H := H2)).fr nD in1 o3.fr
    refine ⟨g, rfl, by omega, by omega, ?_⟩
    refine for_range (lo := 0) (n := g.toNat) (fun i σ H' => Fr st H2 H' ∧ StAt H' st sc ∧ H' pn = some (.lst (NAME16.map V.str)) ∧ H' pk = some (.lst (KIND4.map V.str)) ∧ ∃ (fs : List (Str × Str)), fs.length = i ∧ FOk fs ∧ Bl [st] D H' (fs.map fdD) ∧ ∃ (y4 y5 y6 y7 y8 y9 : Option V), σ = [some (.ref st), some (.ref pn), some (.ref pk), some (.ref D), y4, y5, y6, y7, y8, y9]) ⟨(Fr.new hD).trans o3.fr, hS3, (o3 pn nn).trans (s3 _ _ hn2), (o3 pk nk).trans (s3 _ _ hk2), [], rfl, ⟨by decide, (fun f hf => nomatch hf), (fun f hf => nomatch hf)⟩, B3, none, none, none, none, none, none, rfl⟩ ?_ ?_
    · rintro i σ H4 hi ⟨f4, hS4, hn4, hk4, fs, hl, ok, B4, y4, y5, y6, y7, y8, y9, rfl⟩
      -- name
      refine ⟨_, rfl, _, rfl, st, sc, 4, rfl, hS4, by decide, by decide +kernel, fun d H5 d0 d1 hS5 o5 => ?_⟩
      obtain ⟨z0, hz0, m0⟩ := pickS (xs := NAME16) d0 (Int.lt_of_lt_of_le d1 (by decide))
      have hn5 := (o5 pn nn).trans hn4
      have hk5 := (o5 pk nk).trans hk4
      refine ⟨pn, _, d, _, rfl, rfl, SqL.of hn5, hz0, ?_⟩
      refine ⟨fun σ H' => Fr st H5 H' ∧ StAt H' st sc ∧ ∃ z, z ∈ NAME16 ∧ ∃ (y6 y7 y8 y9 : Option V), σ = [some (.ref st), some (.ref pn), some (.ref pk), some (.ref D), some (.int (0 + (i : Int))), some (.str z), y6, y7, y8, y9], ?_, ?_⟩
      · refine ⟨_, rfl, st, sc, 6, rfl, hS5, by decide, by decide +kernel, fun e H6 e0 e1 hS6 o6 => ⟨rfl, _, rfl, ite2 (fun _ => ?_) (fun _ => ?_)⟩⟩
        · refine ⟨_, rfl, _, rfl, st, sc, 16, rfl, hS6, by decide, by decide +kernel, fun u H7 u0 u1 hS7 o7 => ?_⟩
          obtain ⟨z1, hz1, m1⟩ := pickS (xs := NAME16) u0 u1
          exact ⟨pn, _, u, _, rfl, rfl, SqL.of ((o7 pn nn).trans ((o6 pn nn).trans hn5)), hz1, o6.fr.trans o7.fr, hS7, z1, m1, _, _, _, _, rfl⟩
        · exact ⟨o6.fr, hS6, z0, m0, _, _, _, _, rfl⟩
      rintro σ H6 ⟨f6, hS6, z, mz, y6, y7, y8, y9, rfl⟩
      have hn6 := f6 _ _ hn5 nn
      have hk6 := f6 _ _ hk5 nk
      -- kind
      refine ⟨_, rfl, _, rfl, st, sc, 3, rfl, hS6, by decide, by decide +kernel, fun e H7 e0 e1 hS7 o7 => ?_⟩
      obtain ⟨k0, hk0, n0⟩ := pickS (xs := KIND4) e0 (Int.lt_of_lt_of_le e1 (by decide))
      have hn7 := (o7 pn nn).trans hn6
      have hk7 := (o7 pk nk).trans hk6
      refine ⟨pk, _, e, _, rfl, rfl, SqL.of hk7, hk0, ?_⟩
      refine ⟨fun σ H' => Fr st H7 H' ∧ StAt H' st sc ∧ ∃ k, k ∈ KIND4 ∧ ∃ (y7 y8 y9 : Option V), σ = [some (.ref st), some (.ref pn), some (.ref pk), some (.ref D), some (.int (0 + (i : Int))), some (.str z), some (.str k), y7, y8, y9], ?_, ?_⟩
      · refine ⟨_, rfl, st, sc, 12, rfl, hS7, by decide, by decide +kernel, fun u H8 u0 u1 hS8 o8 => ⟨rfl, _, rfl, ite2 (fun _ => ?_) (fun _ => ?_)⟩⟩
        · exact ⟨_, rfl, pk, _, _, _, rfl, rfl, SqL.of ((o8 pk nk).trans hk7), at_of (j := 3) rfl rfl, o8.fr, hS8, "number", by decide +kernel, _, _, _, rfl⟩
        · exact ⟨o8.fr, hS8, k0, n0, _, _, _, rfl⟩
      rintro σ H8 ⟨f8, hS8, k, mk, y7, y8, y9, rfl⟩
      -- append
      have fr8 := f4.trans (o5.fr.trans (f6.trans (o7.fr.trans f8)))
      have B8 := ((((B4.fr nD in1 o5.fr).fr nD in1 f6).fr nD in1 o7.fr).fr nD in1 f8)
      obtain ⟨vs8, d8, _⟩ := id B8
      refine ⟨_, rfl, .inl ⟨rfl, _, SqL.of d8⟩, _, rfl, _, rfl, (by show 2 ≤ sizeLine; decide), fun t ht => ?_⟩
      have s9 := same_new (o := .tup [.str z, .str k]) ht
      have B9 := B8.same s9
      have x9 : Dt [D, st] (upd H8 t (.tup [.str z, .str k])) (.ref t) (fdD (z, k)) := .tup (not_in2 (ne_of_none d8 ht).symm (st_new hS8 ht)) upd_same (.cons (.str _) (.cons (.str _) .nil))
      have hS9 := hS8.new (o := .tup [.str z, .str k]) ht
      have fr9 := fr8.trans (same_fr (st := st) s9)
      have hn9 := s9 _ _ (f8 _ _ hn7 nn)
      have hk9 := s9 _ _ (f8 _ _ hk7 nk)
      generalize upd H8 t (.tup [.str z, .str k]) = H9 at s9 B9 x9 hS9 fr9 hn9 hk9 ⊢
      obtain ⟨vs9, d9, t9⟩ := B9
      have l9 := t9.length
      rw [List.length_map] at l9
      refine ⟨D, _, _, rfl, rfl, d9, len_le (by omega), fr9.set hD, hS9.set hS2 hD, by rw [upd_ne nDn]; exact hn9, by rw [upd_ne nDk]; exact hk9, fs ++ [(z, k)], by simp [hl], ⟨by simp; omega, fun f hf => ?_, fun f hf => ?_⟩, ?_, _, _, _, _, _, _, rfl⟩
      · rcases List.mem_append.mp hf with h | h
        · exact ok.names f h
        · rw [List.mem_singleton] at h
          subst h
          exact mz
      · rcases List.mem_append.mp hf with h | h
        · exact ok.kinds f h
        · rw [List.mem_singleton] at h
          subst h
          exact mk
      · rw [List.map_append]
        exact Bl.push d9 t9 x9
    rintro σ H4 ⟨f4, hS4, hn4, hk4, fs, hl, ok, B4, y4, y5, y6, y7, y8, y9, rfl⟩
    have xf := B4.done (not_in1 nD)
    -- size
    refine ⟨_, rfl, st, sc, 4, rfl, hS4, by decide, by decide +kernel, fun n H5 n0 n1 hS5 o5 => ⟨_, _, rfl, rfl, ?_⟩⟩
    have xf5 := xf.fr o5.fr in1
    refine ⟨fun σ H' => Fr st H5 H' ∧ StAt H' st sc ∧ ∃ n : Int, ∃ (y4 y5 y6 y8 y9 : Option V), σ = [some (.ref st), some (.ref pn), some (.ref pk), some (.ref D), y4, y5, y6, some (.int n), y8, y9], ?_, ?_⟩
    · refine ⟨_, rfl, st, sc, 6, rfl, hS5, by decide, by decide +kernel, fun e H6 e0 e1 hS6 o6 => ⟨rfl, _, rfl, ite2 (fun _ => ?_) (fun _ => ?_)⟩⟩
      · refine ⟨_, rfl, (by show 3 ≤ sizeLine; decide), fun l hl => ⟨_, rfl, st, sc, 3, rfl, hS6.new hl, by decide, by decide +kernel, fun u H7 u0 u1 hS7 o7 => ?_⟩⟩
        obtain ⟨v, hv⟩ : ∃ v : Int, atI [V.int (-1), V.int 0, V.int 300] u = some (.int v) := by
          have : u = 0 ∨ u = 1 ∨ u = 2 := by omega
          rcases this with rfl | rfl | rfl
          · exact ⟨_, at_of (j := 0) rfl rfl⟩
          · exact ⟨_, at_of (j := 1) rfl rfl⟩
          · exact ⟨_, at_of (j := 2) rfl rfl⟩
        exact ⟨l, _, u, _, rfl, rfl, SqL.of ((o7 l (st_new hS6 hl)).trans upd_same), hv, o6.fr.trans ((same_fr (same_new hl)).trans o7.fr), hS7, v, _, _, _, _, _, rfl⟩
      · exact ⟨o6.fr, hS6, _, _, _, _, _, _, rfl⟩
    rintro σ H6 ⟨f6, hS6, n', y4, y5, y6, y8, y9, rfl⟩
    have xf6 := xf5.fr f6 in1
    -- width
    refine ⟨(by show 4 ≤ sizeLine; decide), fun l hl => ⟨_, rfl, st, sc, 13, rfl, hS6.new hl, by decide, by decide +kernel, fun u H7 u0 u1 hS7 o7 => ⟨_, _, rfl, rfl, (by show (0 : Int) < 4; decide), _, _, rfl, rfl, (by show (0 : Int) < 3; decide), _, rfl, st, sc, 13, rfl, hS7, by decide, by decide +kernel, fun v H8 v0 v1 hS8 o8 => ⟨_, _, rfl, rfl, ⟨by decide, by decide⟩, _, _, rfl, rfl, ?_⟩⟩⟩⟩
    obtain ⟨w, hw, mw⟩ := pickS (xs := WIDE4) (d := u % 4 % 3 + v / 12) (by omega) (by show _ < (4 : Int); omega)
    have xf8 := ((xf6.new (o := .lst (WIDE4.map V.str)) hl).fr o7.fr in1).fr o8.fr in1
    refine ⟨l, _, _, _, rfl, rfl, SqL.of ((o8 l (st_new hS6 hl)).trans ((o7 l (st_new hS6 hl)).trans upd_same)), hw, ?_⟩
    -- measure
    refine ⟨(by show 4 ≤ sizeLine; decide), fun l2 hl2 => ⟨_, rfl, st, sc, 13, rfl, hS8.new hl2, by decide, by decide +kernel, fun u2 H9 u20 u21 hS9 o9 => ⟨_, _, rfl, rfl, (by show (0 : Int) < 3; decide), _, rfl, st, sc, 13, rfl, hS9, by decide, by decide +kernel, fun v2 Ha v20 v21 hSa oa => ⟨_, _, rfl, rfl, ⟨by decide, by decide⟩, _, _, rfl, rfl, ?_⟩⟩⟩⟩
    obtain ⟨m, hm, mm⟩ := pickS (xs := MEAS4) (d := u2 % 3 + v2 / 12) (by omega) (by show _ < (4 : Int); omega)
    have xfa := ((xf8.new (o := .lst (MEAS4.map V.str)) hl2).fr o9.fr in1).fr oa.fr in1
    refine ⟨l2, _, _, _, rfl, rfl, SqL.of ((oa l2 (st_new hS8 hl2)).trans ((o9 l2 (st_new hS8 hl2)).trans upd_same)), hm, ?_⟩
    refine ⟨_, rfl, _, rfl, _, rfl, _, rfl, (by show 4 ≤ sizeLine; decide), fun t ht => ?_⟩
    have frT : Fr st H Ha := (same_fr sA).trans (f4.trans (o5.fr.trans (f6.trans ((same_fr (st := st) (same_new (o := .lst (WIDE4.map V.str)) hl)).trans (o7.fr.trans (o8.fr.trans ((same_fr (st := st) (same_new (o := .lst (MEAS4.map V.str)) hl2)).trans (o9.fr.trans oa.fr))))))))
    have tN : H t = none := by
      cases e : H t with
      | none => rfl
      | some o =>
        have g := frT t o e (st_new hSa ht)
        rw [ht] at g
        cases g
    exact q t D n' w m fs _ ok mw mm (st_new hSa ht) upd_same (xfa.new ht) (hSa.new ht) (sA.free hD) tN (frT.trans (Fr.new ht))
def sp_law_valid (T : Txt w K mg) : Sp := fun vs H Q _ => ∃ (pf : Addr) (n : Int) (w m : Str) (fs : List (Str × Str)), vs = [.int n, .str w, .str m, .ref pf] ∧ (Dt [] H (.ref pf) (.list (fs.map fdD))) ∧ (FOk fs) ∧ ((vecGood n w m ∧ fieldsGood fs) → ∀ H', Same H H' → Q (.bl true) H') ∧ (¬ (vecGood n w m ∧ fieldsGood fs) → ∀ H', Same H H' → Q (.bl false) H')
set_option maxHeartbeats 8000000 in
theorem ok_law_valid (T : Txt w K mg) : FnOk P w K mg base CX0 2 T.f_law_valid T.d_law_valid ["size", "width", "measure", "fields"] (sp_law_valid T) := by
  have G_law_good_name : FnOk P w K mg base CX0 1 T.f_law_good_name T.d_law_good_name ["name"] (sp_law_good_name T) := ok_law_good_name T
  refine T.F_law_valid.ok sc_law_valid (fun vs H Q E h => ?_) (fun cdv A outer s H vs Q E hr h => ?_)
  · obtain ⟨pf, n, w, m, fs, rfl, _⟩ := h
    rfl
  · obtain ⟨pf, n, w, m, fs, rfl, xf, ok, q⟩ := h
    refine ⟨_, (pss_cons (ps_if (PW.pt (pw_or (pt_cmpR op_lt (pv 0) pe_int (nomark _)) (pw_or (pt_cmpR op_notIn_seq (pv 1) (pe_lst (pa_cons pe_str (pa_cons pe_str (pa_cons pe_str pa_nil)))) rfl) (pw_or1 (pt_cmpR op_notIn_seq (pv 2) (pe_lst (pa_cons pe_str (pa_cons pe_str (pa_cons pe_str pa_nil)))) rfl))))) (pss_one (ps_ret pe_bl)) pss_nil) 
      (pss_cut (ps_if (PW.pt (pw_and (pt_cmpR op_eq (pv 2) pe_str (nomark _)) (pw_and1 (pt_cmpR op_ne (pv 1) pe_str (nomark _))))) (pss_one (ps_ret pe_bl)) pss_nil) 
      (pss_cons (ps_setLc (i := 4) (own := [("pair", 5)]) (g := gName 5) rfl sc_law_valid.nd rfl rfl (sw_true rfl rfl rfl (by decide +kernel)) (pi_list (pv 3)) (blkOk_by (own := [("pair", 5)]) (N := ["size", "width", "measure", "fields", "names", "pair", "name", "kind"]) (sc := defScope s_law_valid) (by decide +kernel)) (fun _ _ _ _ _ => (pg_name (i := 5) sc_law_valid.nd rfl (Or.inl rfl))) (fun _ _ _ _ _ => pts_nil) (fun _ _ _ _ _ => (pe_ix (r := rIxT K) (by exact ix_tup) (pv 5) pe_int (fun _ _ => rfl)))) 
      (pss_cons (ps_for PassesOwn.never rfl (pi_list (pv 3)) (pg_tup rfl (pgs_cons (pg_name (i := 6) sc_law_valid.nd rfl (.inl rfl)) (pgs_cons (pg_name (i := 7) sc_law_valid.nd rfl (.inl rfl)) pgs_nil))) (pss_one (ps_if (PW.pt (pw_or (pt_cmpR op_notIn_seq (pv 7) (pe_lst (pa_cons pe_str (pa_cons pe_str (pa_cons pe_str pa_nil)))) rfl) (pw_or (pt_not (pt_val (pe_call G_law_good_name (hr.mono (by decide)) (by rfl) T.g_law_good_name T.F_law_good_name.kp T.b_law_good_name .nil pass0 (pa_cons (pv 6) pa_nil)))) (pw_or1 (pt_cmpR op_gt (pe_bm PySem.F.plainAttrs_list PySem.F.slot_list_count PySem.F.type_list_count mt_countT (pv 4) (pa_cons (pv 6) pa_nil)) pe_int (nomark _)))))) (pss_one (ps_ret pe_bl)) pss_nil))) 
      (pss_one (ps_ret pe_bl)))))), ?_⟩
    obtain ⟨q1, q2⟩ := q
    obtain ⟨pf', vf, ef, _, gf, tf⟩ := xf.isL
    cases ef
    have lf := tf.length
    rw [List.length_map] at lf
    have lok := ok.len
    -- if size < 1 or width not in .. or measure not in ..
    refine ⟨_, rfl, _, _, rfl, rfl, _, rfl, ite2 (fun e => ?_) (fun e => ?_)⟩
    · have c : n < 1 := of_decide_eq_true e
      exact q2 (fun g => by have := g.1.1; omega) H (Same.refl _)
    have n1 : ¬ n < 1 := fun h => e (decide_eq_true h)
    refine ⟨_, rfl, (by show 3 ≤ sizeLine; decide), fun l1 hl1 => ⟨l1, WIDE3.map V.str, rfl, .inl (SqL.of upd_same), rfl, flat_strsV _, ?_⟩⟩
    have s1 := same_new (o := .lst (WIDE3.map V.str)) hl1
    show ∃ k, V.bl (!inV (.str w) (WIDE3.map V.str)) = .bl k ∧ _
    rw [inV_strs]
    refine ⟨_, rfl, ite2 (fun e2 => ?_) (fun e2 => ?_)⟩
    · have c : w ∉ WIDE3 := by simpa using e2
      exact q2 (fun g => c g.1.2.1) _ s1
    have hw : w ∈ WIDE3 := by simpa using e2
    refine ⟨_, rfl, (by show 3 ≤ sizeLine; decide), fun l2 hl2 => ⟨l2, MEAS3.map V.str, rfl, .inl (SqL.of upd_same), rfl, flat_strsV _, ?_⟩⟩
    have s2 := s1.trans (same_new (o := .lst (MEAS3.map V.str)) hl2)
    show ∃ k, V.bl (!inV (.str m) (MEAS3.map V.str)) = .bl k ∧ _
    rw [inV_strs]
    refine ⟨_, rfl, ite2 (fun e3 => ?_) (fun e3 => ?_)⟩
    · have c : m ∉ MEAS3 := by simpa using e3
      exact q2 (fun g => c g.1.2.2.1) _ s2
    have hm : m ∈ MEAS3 := by simpa using e3
    have g2 := s2 _ _ gf
    have t2 := tf.same s2
    have q1' : ∀ H', Same (upd (upd H l1 (.lst (WIDE3.map V.str))) l2 (.lst (MEAS3.map V.str))) H' → ¬ (m = "bits" ∧ w ≠ "bit") → fieldsGood fs → Q (.bl true) H' := fun H' s h1 h2 => q1 ⟨⟨by omega, hw, hm, h1⟩, h2⟩ H' (s2.trans s)
    have q2' : ∀ H', Same (upd (upd H l1 (.lst (WIDE3.map V.str))) l2 (.lst (MEAS3.map V.str))) H' → ¬ (¬ (m = "bits" ∧ w ≠ "bit") ∧ fieldsGood fs) → Q (.bl false) H' := fun H' s h => q2 (fun g => h ⟨g.1.2.2.2, g.2⟩) H' (s2.trans s)
    generalize hH2 : upd (upd H l1 (.lst (WIDE3.map V.str))) l2 (.lst (MEAS3.map V.str)) = H2 at g2 t2 q1' q2'
    have hH2' : upd (upd H l1 (.lst [V.str "bit", V.str "small", V.str "wide"])) l2 (.lst [V.str "square", V.str "dot", V.str "bits"]) = H2 := hH2
    rw [hH2']
    -- if measure == 'bits' and width != 'bit'
    refine ⟨fun σ H' => H' = H2 ∧ ¬ (m = "bits" ∧ w ≠ "bit") ∧ σ = [some (.int n), some (.str w), some (.str m), some (.ref pf), none, none, none, none], ?_, ?_⟩
    · refine ⟨_, rfl, rfl, _, rfl, ite2 (fun e4 => ?_) (fun e4 => ?_)⟩
      · have c : m = "bits" := V.str.inj (of_decide_eq_true e4)
        refine ⟨_, rfl, rfl, _, rfl, ?_⟩
        by_cases hwb : w = "bit"
        · rw [decide_eq_true (congrArg V.str hwb)]
          exact iteF ⟨rfl, fun z => z.2 hwb, rfl⟩
        · rw [decide_eq_false (fun z => hwb (V.str.inj z))]
          exact iteT (q2' H2 (Same.refl _) fun g => g.1 ⟨c, hwb⟩)
      · have c : ¬ m = "bits" := fun z => e4 (decide_eq_true (congrArg V.str z))
        exact ⟨rfl, fun z => c z.1, rfl⟩
    rintro σ H3 ⟨rfl, nb, rfl⟩
    -- names
    refine ⟨_, rfl, pf, rfl, ⟨_, SqL.of g2⟩, fun D hD => ?_⟩
    refine lc_list (K := K) (a := pf) (xs := vf) (fun i H' => Same H3 H' ∧ H' D = some (.lst (((fs.take i).map (·.1)).map V.str))) ⟨same_new hD, upd_same⟩ (fun i H' _ h => SqL.of (h.1 _ _ g2)) ?_ ?_
    · rintro i v H4 hi ⟨sm, hD1⟩
      obtain ⟨d, ed, xd⟩ := t2.get hi
      rw [List.getElem?_map] at ed
      cases ep : fs[i]? with
      | none =>
        rw [ep] at ed
        cases ed
      | some f =>
        rw [ep] at ed
        have := Option.some.inj ed
        subst this
        obtain ⟨t, u, rfl, _, et, xu⟩ := xd.isP
        refine ⟨rfl, _, rfl, t, _, _, _, rfl, rfl, SqT.of (sm _ _ et), at_of (j := 0) rfl rfl, _, hD1, ?_, same_set sm hD, ?_⟩
        · rw [List.length_map, List.length_map, List.length_take]
          exact len_le (by omega)
        · rw [upd_same, List.take_add_one, ep]
          simp
    rintro H4 ⟨sm, hD1⟩
    rw [lf, List.take_length] at hD1
    -- for name, kind in fields
    refine ⟨_, rfl, pf, rfl, ⟨_, SqL.of (sm _ _ g2)⟩, ?_⟩
    refine for_list (K := K) (a := pf) (xs := vf) (fun i σ H' => Same H4 H' ∧ (∀ f ∈ fs.take i, fGood f ∧ (fs.map (·.1)).count f.1 ≤ 1) ∧ ∃ y5 y6 y7, σ = [some (.int n), some (.str w), some (.str m), some (.ref pf), some (.ref D), y5, y6, y7]) ⟨Same.refl _, fun f h => by simp at h, none, none, none, rfl⟩ (fun i σ H' _ h => SqL.of (h.1 _ _ (sm _ _ g2))) ?_ ?_
    · rintro i v σ H5 hi ⟨s5, good, y5, y6, y7, rfl⟩
      obtain ⟨d, ed, xd⟩ := t2.get hi
      rw [List.getElem?_map] at ed
      cases ep : fs[i]? with
      | none =>
        rw [ep] at ed
        cases ed
      | some f =>
        rw [ep] at ed
        have := Option.some.inj ed
        subst this
        obtain ⟨t, u, rfl, _, et, xu⟩ := xd.isP
        rw [xu.isS] at et
        have mf := List.mem_of_getElem? ep
        have nf := name16 (ok.names f mf)
        refine ⟨t, _, rfl, SqT.of (s5 _ _ (sm _ _ et)), rfl, _, _, rfl, _, _, rfl, rfl, ?_⟩
        refine ⟨_, rfl, (by show 3 ≤ sizeLine; decide), fun l3 hl3 => ⟨l3, KIND3.map V.str, rfl, .inl (SqL.of upd_same), rfl, flat_strsV _, ?_⟩⟩
        have s6 := s5.trans (same_new (o := .lst (KIND3.map V.str)) hl3)
        show ∃ k, V.bl (!inV (.str f.2) (KIND3.map V.str)) = .bl k ∧ _
        rw [inV_strs]
        refine ⟨_, rfl, ite2 (fun e5 => ?_) (fun e5 => ?_)⟩
        · have c : f.2 ∉ KIND3 := by simpa using e5
          exact q2' _ (sm.trans s6) fun g => c (g.2.1 f mf).2.2
        have hk : f.2 ∈ KIND3 := by simpa using e5
        refine ⟨_, rfl, f.1, rfl, by omega, fun H7 s7 => ⟨_, rfl, ?_⟩⟩
        replace s7 := s6.trans s7
        by_cases hg : isWordS f.1 = true ∧ f.1 ∉ RESV
        · rw [hg.1, decide_eq_false hg.2]
          refine iteF ⟨_, rfl, .inl ⟨rfl, _, SqL.of (s7 _ _ hD1)⟩, _, rfl, D, fs.map (·.1), f.1, rfl, rfl, SqL.of (s7 _ _ hD1), _, _, rfl, rfl, _, rfl, ite2 (fun e6 => ?_) (fun e6 => ?_)⟩
          · have c : (((fs.map (·.1)).count f.1 : Nat) : Int) > 1 := of_decide_eq_true e6
            exact q2' _ (sm.trans s7) fun g => by
              have := List.nodup_iff_count.mp g.2.2 f.1
              omega
          · have c : ¬ (((fs.map (·.1)).count f.1 : Nat) : Int) > 1 := fun h => e6 (decide_eq_true h)
            refine ⟨s7, fun g hg' => ?_, _, _, _, rfl⟩
            rw [List.take_add_one, ep] at hg'
            rcases List.mem_append.mp hg' with h | h
            · exact good g h
            · simp at h
              subst h
              exact ⟨⟨hg.1, hg.2, hk⟩, by omega⟩
        · have : (isWordS f.1 && !decide (f.1 ∈ RESV)) = false := by
            cases h1 : isWordS f.1 with
            | false => rfl
            | true =>
              by_cases h2 : f.1 ∈ RESV
              · rw [decide_eq_true h2]
                rfl
              · exact absurd ⟨h1, h2⟩ hg
          rw [this]
          exact iteT (q2' _ (sm.trans s7) fun g => hg ⟨(g.2.1 f mf).1, (g.2.1 f mf).2.1⟩)
    rintro σ H5 ⟨s5, good, y5, y6, y7, rfl⟩
    rw [lf, List.take_length] at good
    refine q1' _ (sm.trans s5) nb ⟨fun f hf => (good f hf).1, List.nodup_iff_count.mpr fun z => ?_⟩
    by_cases hz : z ∈ fs.map (·.1)
    · obtain ⟨f, hf, rfl⟩ := List.mem_map.mp hz
      exact (good f hf).2
    · rw [List.count_eq_zero.mpr hz]
      omega
def sp_law_made (T : Txt w K mg) : Sp := fun vs H Q _ => ∃ (t pf : Addr) (n : Int) (w m : Str) (fs : List (Str × Str)), vs = [.ref t] ∧ (H t = some (.tup [.int n, .str w, .str m, .ref pf])) ∧ (Dt [] H (.ref pf) (.list (fs.map fdD))) ∧ (FOk fs) ∧ (w ∈ WIDE4) ∧ ((vecGood n w m ∧ fieldsGood fs) → ∀ x H', SchAt [] T.c_Schema H' x n w m fs → H x = none → Same H H' → Q (.ref x) H') ∧ (¬ (vecGood n w m ∧ fieldsGood fs) → ∀ H', Same H H' → Q .non H')
set_option maxHeartbeats 4000000 in
theorem ok_law_made (T : Txt w K mg) : FnOk P w K mg base CX0 6 T.f_law_made T.d_law_made ["drawn"] (sp_law_made T) := by
  have G_Schema___init__ : FnOk P w K mg base (L2.CX P w) 4 T.f_Schema___init__ T.d_Schema___init__ ["self", "size", "width", "measure", "fields"] (sp_Schema___init__ T) := ok_Schema___init__ T
  refine T.F_law_made.ok sc_law_made (fun vs H Q E h => ?_) (fun cdv A outer s H vs Q E hr h => ?_)
  · obtain ⟨t, pf, n, w, m, fs, rfl, _⟩ := h
    rfl
  · obtain ⟨t, pf, n, w, m, fs, rfl, ht, xf, ok, mw, q⟩ := h
    refine ⟨_, (pss_one (ps_try_many (Wout := fun _ _ _ _ => False) rfl rfl takes0 (fun W pn xe tk po => (by exact (pss_one (ps_ret (pe_makeK T.mk_Schema G_Schema___init__ (hr.mono (by decide)) (by rfl) T.mc_Schema T.kb_Schema___init__ (passes_call (E := fun cls d H => ∀ σ, W cls d σ H) tk (fun _ _ σ _ h => h σ)) (pa_cons (pe_ix (r := rIxT K) (by exact ix_tup) (pv 0) pe_int (fun _ _ => rfl)) pa_nil) (pk_cons (pe_ix (r := rIxT K) (by exact ix_tup) (pv 0) pe_int (fun _ _ => rfl)) (pk_cons (pe_ix (r := rIxT K) (by exact ix_tup) (pv 0) pe_int (fun _ _ => rfl)) (pk_cons (pe_callTy (r := rListB K) (by exact call_list_of) (by rfl) T.m_list (by decide +kernel) (pa_cons (pe_ix (r := rIxT K) (by exact ix_tup) (pv 0) pe_int (fun _ _ => rfl)) pa_nil)) pk_nil)))))))) (.cons ⟨rfl, by decide, .inl T.mc_InvalidSchema⟩ (fun a oe cls d pn _ _ => (pss_one (ps_ret pe_non))) (.cons ⟨rfl, by decide, .inl T.mc_SurenearError⟩ (fun a oe cls d pn _ _ => (pss_one (ps_ret pe_int))) .nil)))), ?_⟩
    obtain ⟨q1, q2⟩ := q
    obtain ⟨pf', vf, ef, _, gf, tf⟩ := xf.isL
    cases ef
    have lf := tf.length
    rw [List.length_map] at lf
    have lok := ok.len
    refine ⟨_, rfl, t, _, _, _, rfl, rfl, SqT.of ht, at_of (j := 0) rfl rfl, _, rfl, t, _, _, _, rfl, rfl, SqT.of ht, at_of (j := 1) rfl rfl, _, rfl, t, _, _, _, rfl, rfl, SqT.of ht, at_of (j := 2) rfl rfl, _, rfl, t, _, _, _, rfl, rfl, SqT.of ht, at_of (j := 3) rfl rfl, pf, _, rfl, .inl (SqL.of gf), fun l hl => ⟨rfl, rfl, fun x dx nx ndx nex => ?_⟩⟩
    have s1 := same_new (o := .lst vf) hl
    have gl : (upd H l (.lst vf)) l = some (.lst vf) := upd_same
    generalize upd H l (.lst vf) = H1 at s1 gl nx ndx ⊢
    have smx : Same H1 (upd (upd H1 dx (.own x)) x (.ins T.c_Schema dx [])) := fun b o hb => by
      rw [upd_ne (ne_of_none hb nx), upd_ne (ne_of_none hb ndx)]
      exact hb
    refine ⟨x, dx, l, n, w, m, vf, fs, rfl, upd_same, SqL.of (smx _ _ gl), (tf.same s1).same smx, by omega, fun f hf => by have := name16 (ok.names f hf); omega, (wide4 mw).2, fun g H2 S2 f2 => ⟨rfl, ?_⟩, fun g H2 f2 => ?_⟩
    · exact q1 g x H2 S2 (s1.free nx) (s1.trans fun b o hb => f2 b o (smx b o hb) (ne_of_none hb nx))
    · intro σ
      exact ⟨true, T.xm_InvalidSchema_InvalidSchema, fun _ a ha => q2 g H2 (s1.trans fun b o hb => f2 b o (smx b o hb) (ne_of_none hb nx)), fun z => by cases z⟩
def sp_Schema_least (T : Txt w K mg) : Sp := fun vs H Q _ => ∃ (p : Addr) (n : Int) (w m : Str) (fs : List (Str × Str)), vs = [.ref p] ∧ (SchAt [] T.c_Schema H p n w m fs) ∧ (w ∈ WIDE3) ∧ Q (.int (if w = "bit" then 0 else if w = "small" then -128 else -32768)) H
set_option maxHeartbeats 4000000 in
theorem ok_Schema_least (T : Txt w K mg) : FnOk P w K mg base CX0 1 T.f_Schema_least T.d_Schema_least ["self"] (sp_Schema_least T) := by
  refine T.F_Schema_least.ok sc_Schema_least (fun vs H Q E h => ?_) (fun cdv A outer s H vs Q E hr h => ?_)
  · obtain ⟨p, n, w, m, fs, rfl, _⟩ := h
    rfl
  · obtain ⟨p, n, w, m, fs, rfl, hS, hw, q⟩ := h
    refine ⟨_, (pss_one (ps_ret (pe_ix ix_tup (pe_ix ix_kdict (pe_glob (v := .ref T.a_WIDTHS) rfl T.m_WIDTHS rfl) (pe_fld (pv 0) rfl) (fun _ _ => rfl)) pe_int (fun _ _ => rfl)))), ?_⟩
    obtain ⟨_, dx, tf, hp, _⟩ := hS
    have hw' : w = "bit" ∨ w = "small" ∨ w = "wide" := by
      unfold WIDE3 at hw
      simpa using hw
    rcases hw' with rfl | rfl | rfl
    · exact ⟨_, rfl, p, T.c_Schema, dx, _, _, rfl, hp, T.cl_Schema, T.n_Schema_width, lk_Schema_width, T.a_WIDTHS, _, .ref T.av_WIDTHS_bit, rfl, rfl, ⟨_, _, _, T.kd_WIDTHS.at_, T.kd_WIDTHS.lit, T.ns_WIDTHS_bit, rfl⟩, T.av_WIDTHS_bit, _, _, _, rfl, rfl, T.sv_WIDTHS_bit _, at_of (j := 0) rfl rfl, q⟩
    · exact ⟨_, rfl, p, T.c_Schema, dx, _, _, rfl, hp, T.cl_Schema, T.n_Schema_width, lk_Schema_width, T.a_WIDTHS, _, .ref T.av_WIDTHS_small, rfl, rfl, ⟨_, _, _, T.kd_WIDTHS.at_, T.kd_WIDTHS.lit, T.ns_WIDTHS_small, rfl⟩, T.av_WIDTHS_small, _, _, _, rfl, rfl, T.sv_WIDTHS_small _, at_of (j := 0) rfl rfl, q⟩
    · exact ⟨_, rfl, p, T.c_Schema, dx, _, _, rfl, hp, T.cl_Schema, T.n_Schema_width, lk_Schema_width, T.a_WIDTHS, _, .ref T.av_WIDTHS_wide, rfl, rfl, ⟨_, _, _, T.kd_WIDTHS.at_, T.kd_WIDTHS.lit, T.ns_WIDTHS_wide, rfl⟩, T.av_WIDTHS_wide, _, _, _, rfl, rfl, T.sv_WIDTHS_wide _, at_of (j := 0) rfl rfl, q⟩
def sp_Schema_greatest (T : Txt w K mg) : Sp := fun vs H Q _ => ∃ (p : Addr) (n : Int) (w m : Str) (fs : List (Str × Str)), vs = [.ref p] ∧ (SchAt [] T.c_Schema H p n w m fs) ∧ (w ∈ WIDE3) ∧ Q (.int (if w = "bit" then 1 else if w = "small" then 127 else 32767)) H
set_option maxHeartbeats 4000000 in
theorem ok_Schema_greatest (T : Txt w K mg) : FnOk P w K mg base CX0 1 T.f_Schema_greatest T.d_Schema_greatest ["self"] (sp_Schema_greatest T) := by
  refine T.F_Schema_greatest.ok sc_Schema_greatest (fun vs H Q E h => ?_) (fun cdv A outer s H vs Q E hr h => ?_)
  · obtain ⟨p, n, w, m, fs, rfl, _⟩ := h
    rfl
  · obtain ⟨p, n, w, m, fs, rfl, hS, hw, q⟩ := h
    refine ⟨_, (pss_one (ps_ret (pe_ix ix_tup (pe_ix ix_kdict (pe_glob (v := .ref T.a_WIDTHS) rfl T.m_WIDTHS rfl) (pe_fld (pv 0) rfl) (fun _ _ => rfl)) pe_int (fun _ _ => rfl)))), ?_⟩
    obtain ⟨_, dx, tf, hp, _⟩ := hS
    have hw' : w = "bit" ∨ w = "small" ∨ w = "wide" := by
      unfold WIDE3 at hw
      simpa using hw
    rcases hw' with rfl | rfl | rfl
    · exact ⟨_, rfl, p, T.c_Schema, dx, _, _, rfl, hp, T.cl_Schema, T.n_Schema_width, lk_Schema_width, T.a_WIDTHS, _, .ref T.av_WIDTHS_bit, rfl, rfl, ⟨_, _, _, T.kd_WIDTHS.at_, T.kd_WIDTHS.lit, T.ns_WIDTHS_bit, rfl⟩, T.av_WIDTHS_bit, _, _, _, rfl, rfl, T.sv_WIDTHS_bit _, at_of (j := 1) rfl rfl, q⟩
    · exact ⟨_, rfl, p, T.c_Schema, dx, _, _, rfl, hp, T.cl_Schema, T.n_Schema_width, lk_Schema_width, T.a_WIDTHS, _, .ref T.av_WIDTHS_small, rfl, rfl, ⟨_, _, _, T.kd_WIDTHS.at_, T.kd_WIDTHS.lit, T.ns_WIDTHS_small, rfl⟩, T.av_WIDTHS_small, _, _, _, rfl, rfl, T.sv_WIDTHS_small _, at_of (j := 1) rfl rfl, q⟩
    · exact ⟨_, rfl, p, T.c_Schema, dx, _, _, rfl, hp, T.cl_Schema, T.n_Schema_width, lk_Schema_width, T.a_WIDTHS, _, .ref T.av_WIDTHS_wide, rfl, rfl, ⟨_, _, _, T.kd_WIDTHS.at_, T.kd_WIDTHS.lit, T.ns_WIDTHS_wide, rfl⟩, T.av_WIDTHS_wide, _, _, _, rfl, rfl, T.sv_WIDTHS_wide _, at_of (j := 1) rfl rfl, q⟩
def sp_Schema_kind_of (T : Txt w K mg) : Sp := fun vs H Q _ => ∃ (p : Addr) (n : Int) (w m : Str) (fs : List (Str × Str)) (z : Str), vs = [.ref p, .str z] ∧ (SchAt [] T.c_Schema H p n w m fs) ∧ Q (kindV fs z) H
set_option maxHeartbeats 4000000 in
theorem ok_Schema_kind_of (T : Txt w K mg) : FnOk P w K mg base CX0 1 T.f_Schema_kind_of T.d_Schema_kind_of ["self", "name"] (sp_Schema_kind_of T) := by
  refine T.F_Schema_kind_of.ok sc_Schema_kind_of (fun vs H Q E h => ?_) (fun cdv A outer s H vs Q E hr h => ?_)
  · obtain ⟨p, n, w, m, fs, z, rfl, _⟩ := h
    rfl
  · obtain ⟨p, n, w, m, fs, z, rfl, hS, q⟩ := h
    refine ⟨_, (pss_cons (ps_for PassesOwn.never rfl (pi_tup (pe_fld (pv 0) rfl)) (pg_tup rfl (pgs_cons (pg_name (i := 2) sc_Schema_kind_of.nd rfl (.inl rfl)) (pgs_cons (pg_name (i := 3) sc_Schema_kind_of.nd rfl (.inl rfl)) pgs_nil))) (pss_one (ps_if (pt_cmpR op_eq (pv 2) (pv 1) (nomark _)) (pss_one (ps_ret (pv 3))) pss_nil))) 
      (pss_one (ps_ret pe_non))), ?_⟩
    obtain ⟨_, dx, tf, hp, xf⟩ := hS
    obtain ⟨tf', vf, ef, _, gf, tt⟩ := xf.isT
    cases ef
    have lf := tt.length
    rw [List.length_map] at lf
    refine ⟨_, rfl, p, T.c_Schema, dx, _, _, rfl, hp, T.cl_Schema, T.n_Schema_fields, lk_Schema_fields, tf, rfl, ⟨_, SqT.of gf⟩, ?_⟩
    refine for_tup (K := K) (a := tf) (xs := vf) (fun i σ H' => H' = H ∧ kindV fs z = kindV (fs.drop i) z ∧ ∃ y2 y3, σ = [some (.ref p), some (.str z), y2, y3]) ⟨rfl, rfl, none, none, rfl⟩ (fun i σ H' _ h => by rw [h.1]; exact SqT.of gf) ?_ ?_
    · rintro i v σ H' hi ⟨rfl, ek, y2, y3, rfl⟩
      obtain ⟨d, ed, xd⟩ := tt.get hi
      rw [List.getElem?_map] at ed
      cases ep : fs[i]? with
      | none =>
        rw [ep] at ed
        cases ed
      | some f =>
        rw [ep] at ed
        have := Option.some.inj ed
        subst this
        obtain ⟨t, u, rfl, _, et, xu⟩ := xd.isP
        rw [xu.isS] at et
        have dr : fs.drop i = f :: fs.drop (i + 1) := by
          have hi' := (List.getElem?_eq_some_iff.mp ep).1
          have e2 : fs[i] = f := (List.getElem?_eq_some_iff.mp ep).2
          rw [← e2, List.getElem_cons_drop]
        rw [dr] at ek
        refine ⟨t, _, rfl, SqT.of et, rfl, _, _, rfl, _, _, rfl, rfl, ?_⟩
        refine ⟨_, rfl, _, rfl, rfl, _, rfl, ite2 (fun e => ?_) (fun e => ?_)⟩
        · have c : f.1 = z := V.str.inj (of_decide_eq_true e)
          have : kindV fs z = .str f.2 := by
            rw [ek]
            unfold kindV
            rw [List.find?_cons_of_pos (by simpa using c)]
          rw [this] at q
          exact ⟨_, rfl, q⟩
        · have c : ¬ f.1 = z := fun h => e (decide_eq_true (congrArg V.str h))
          refine ⟨rfl, ?_, _, _, rfl⟩
          rw [ek]
          unfold kindV
          rw [List.find?_cons_of_neg (by simpa using c)]
    · rintro σ H' ⟨rfl, ek, y2, y3, rfl⟩
      rw [lf, List.drop_length] at ek
      have : kindV fs z = .non := ek
      rw [this] at q
      exact q
def sp_Schema___eq__ (T : Txt w K mg) : Sp := fun vs H Q _ => ∃ (p : Addr) (n : Int) (w m : Str) (fs : List (Str × Str)) (y : V), vs = [.ref p, y] ∧ (SchAt [] T.c_Schema H p n w m fs) ∧ (FOk fs) ∧ ((∃ (p2 : Addr) (n2 : Int) (w2 m2 : Str) (gs : List (Str × Str)), y = .ref p2 ∧ SchAt [] T.c_Schema H p2 n2 w2 m2 gs ∧ FOk gs ∧ Q (.bl (decide (n = n2) && decide (w = w2) && decide (m = m2) && decide (fs = gs))) H) ∨ (∃ (t : Addr) (xs : List V), y = .ref t ∧ H t = some (.tup xs) ∧ Q (.bl false) H))
set_option maxHeartbeats 4000000 in
theorem ok_Schema___eq__ (T : Txt w K mg) : FnOk P w K mg base CX0 1 T.f_Schema___eq__ T.d_Schema___eq__ ["self", "other"] (sp_Schema___eq__ T) := by
  refine T.F_Schema___eq__.ok sc_Schema___eq__ (fun vs H Q E h => ?_) (fun cdv A outer s H vs Q E hr h => ?_)
  · obtain ⟨p, n, w, m, fs, y, rfl, _⟩ := h
    rfl
  · obtain ⟨p, n, w, m, fs, y, rfl, hS, ok, q⟩ := h
    refine ⟨_, (pss_one (ps_ret (pe_and (pe_callB call_isi (by rfl) T.m_isinstance (by decide +kernel) (pa_cons (pv 1) (pa_cons (pe_glob (v := .ref T.c_Schema) rfl T.mc_Schema rfl) pa_nil))) (pe_and (pe_cmpR op_eq (pe_fld (pv 0) rfl) (pe_fld (pv 1) rfl) (nomark _)) (pe_and (pe_cmpR op_eq (pe_fld (pv 0) rfl) (pe_fld (pv 1) rfl) (nomark _)) (pe_and (pe_cmpR op_eq (pe_fld (pv 0) rfl) (pe_fld (pv 1) rfl) (nomark _)) (pe_one (pe_cmpR (op_eqD hr.units) (pe_fld (pv 0) rfl) (pe_fld (pv 1) rfl) (nomark _))))))))), ?_⟩
    obtain ⟨_, dx, tf, hp, xf⟩ := hS
    rcases q with ⟨p2, n2, w2, m2, gs, rfl, ⟨_, dx2, tf2, hp2, xf2⟩, ok2, q⟩ | ⟨t, xs, rfl, ht, q⟩
    · refine ⟨_, rfl, _, _, _, _, true, rfl, .own _, .base (.ins hp2 T.cl_Schema T.ha_Schema T.hn0 T.ht0 T.hm_Schema), T.kit_Schema_Schema, true, rfl, iteT ?_⟩
      refine ⟨_, rfl, p, T.c_Schema, dx, _, _, rfl, hp, T.cl_Schema, T.n_Schema_size, lk_Schema_size, _, rfl, p2, T.c_Schema, dx2, _, _, rfl, hp2, T.cl_Schema, T.n_Schema_size, lk_Schema_size, rfl, ?_⟩
      by_cases e1 : n = n2
      · rw [decide_eq_true (congrArg V.int e1)]
        refine ⟨true, rfl, iteT ⟨_, rfl, p, T.c_Schema, dx, _, _, rfl, hp, T.cl_Schema, T.n_Schema_width, lk_Schema_width, _, rfl, p2, T.c_Schema, dx2, _, _, rfl, hp2, T.cl_Schema, T.n_Schema_width, lk_Schema_width, rfl, ?_⟩⟩
        by_cases e2 : w = w2
        · rw [decide_eq_true (congrArg V.str e2)]
          refine ⟨true, rfl, iteT ⟨_, rfl, p, T.c_Schema, dx, _, _, rfl, hp, T.cl_Schema, T.n_Schema_measure, lk_Schema_measure, _, rfl, p2, T.c_Schema, dx2, _, _, rfl, hp2, T.cl_Schema, T.n_Schema_measure, lk_Schema_measure, rfl, ?_⟩⟩
          by_cases e3 : m = m2
          · rw [decide_eq_true (congrArg V.str e3)]
            refine ⟨true, rfl, iteT ⟨_, rfl, p, T.c_Schema, dx, _, _, rfl, hp, T.cl_Schema, T.n_Schema_fields, lk_Schema_fields, _, rfl, p2, T.c_Schema, dx2, _, _, rfl, hp2, T.cl_Schema, T.n_Schema_fields, lk_Schema_fields, _, _, Dt.dp xf, Dt.dp xf2, shapedT ok, shapedT ok2, ?_⟩⟩
            rw [decide_eq_true e1, decide_eq_true e2, decide_eq_true e3, Bool.true_and, Bool.true_and, Bool.true_and, ← eqv_fd] at q
            exact q
          · rw [decide_eq_false (fun z => e3 (V.str.inj z))]
            rw [decide_eq_false e3, Bool.and_false, Bool.false_and] at q
            exact ⟨false, rfl, iteF q⟩
        · rw [decide_eq_false (fun z => e2 (V.str.inj z))]
          rw [decide_eq_false e2, Bool.and_false, Bool.false_and, Bool.false_and] at q
          exact ⟨false, rfl, iteF q⟩
      · rw [decide_eq_false (fun z => e1 (V.int.inj z))]
        rw [decide_eq_false e1, Bool.false_and, Bool.false_and, Bool.false_and] at q
        exact ⟨false, rfl, iteF q⟩
    · exact ⟨_, rfl, _, _, _, _, false, rfl, .own _, .base (.tup ht), T.kit_tuple_Schema, false, rfl, iteF q⟩
def sp_law_tells (T : Txt w K mg) : Sp := fun vs H Q _ => ∃ (x t pf : Addr) (n : Int) (w m : Str) (fs : List (Str × Str)), vs = [.ref x, .ref t] ∧ (SchAt [] T.c_Schema H x n w m fs) ∧ (H t = some (.tup [.int n, .str w, .str m, .ref pf])) ∧ (Dt [] H (.ref pf) (.list (fs.map fdD))) ∧ (FOk fs) ∧ (w ∈ WIDE3) ∧ ((fs.map (·.1)).Nodup) ∧ ∀ H', Same H H' → Q (.bl true) H'
set_option maxHeartbeats 8000000 in
theorem ok_law_tells (T : Txt w K mg) : FnOk P w K mg base CX0 3 T.f_law_tells T.d_law_tells ["schema", "drawn"] (sp_law_tells T) := by
  have G_Schema_kind_of : FnOk P w K mg base CX0 1 T.f_Schema_kind_of T.d_Schema_kind_of ["self", "name"] (sp_Schema_kind_of T) := ok_Schema_kind_of T
  have G_Schema_greatest : FnOk P w K mg base CX0 1 T.f_Schema_greatest T.d_Schema_greatest ["self"] (sp_Schema_greatest T) := ok_Schema_greatest T
  have G_Schema_least : FnOk P w K mg base CX0 1 T.f_Schema_least T.d_Schema_least ["self"] (sp_Schema_least T) := ok_Schema_least T
  refine T.F_law_tells.ok sc_law_tells (fun vs H Q E h => ?_) (fun cdv A outer s H vs Q E hr h => ?_)
  · obtain ⟨x, t, pf, n, w, m, fs, rfl, _⟩ := h
    rfl
  · obtain ⟨x, t, pf, n, w, m, fs, rfl, hS, ht, xf, ok, hw, nd, q⟩ := h
    refine ⟨_, (pss_cons (ps_asg (pv 1) (pg_tup rfl (pgs_cons (pg_name (i := 2) sc_law_tells.nd rfl (.inl rfl)) (pgs_cons (pg_name (i := 3) sc_law_tells.nd rfl (.inl rfl)) (pgs_cons (pg_name (i := 4) sc_law_tells.nd rfl (.inl rfl)) (pgs_cons (pg_name (i := 5) sc_law_tells.nd rfl (.inl rfl)) pgs_nil)))))) 
      (pss_cons (ps_if (PW.pt (pw_or (pt_cmpR op_ne (pe_fld (pv 0) rfl) (pv 2) (nomark _)) (pw_or (pt_cmpR op_ne (pe_fld (pv 0) rfl) (pv 3) (nomark _)) (pw_or (pt_cmpR op_ne (pe_fld (pv 0) rfl) (pv 4) (nomark _)) (pw_or1 (pt_cmpR (op_neD hr.units) (pe_fld (pv 0) rfl) (pe_callTy call_tuple_of (by rfl) T.m_tuple (by decide +kernel) (pa_cons (pv 5) pa_nil)) (nomark _))))))) (pss_one (ps_ret pe_bl)) pss_nil) 
      (pss_cons (ps_set (i := 6) sc_law_tells.nd rfl (.inl rfl) (pe_bm PySem.F.plainAttrs_list PySem.F.slot_list_index PySem.F.type_list_index mt_index (pe_lst (pa_cons pe_str (pa_cons pe_str (pa_cons pe_str pa_nil)))) (pa_cons (pv 3) pa_nil))) 
      (pss_cons (ps_if (PW.pt (pw_or (pt_cmpR op_ne (pe_prop (pv 0) T.cl_Schema T.pr_Schema_least G_Schema_least (hr.mono (by decide)) T.b_Schema_least .nil pass0 rfl) (pe_ix ix_list (pe_lst (pa_cons pe_int (pa_cons (pe_un un_neg pe_int) (pa_cons (pe_un un_neg pe_int) pa_nil)))) (pv 6) (fun _ _ => rfl)) (nomark _)) (pw_or1 (pt_cmpR op_ne (pe_prop (pv 0) T.cl_Schema T.pr_Schema_greatest G_Schema_greatest (hr.mono (by decide)) T.b_Schema_greatest .nil pass0 rfl) (pe_ix ix_list (pe_lst (pa_cons pe_int (pa_cons pe_int (pa_cons pe_int pa_nil)))) (pv 6) (fun _ _ => rfl)) (nomark _))))) (pss_one (ps_ret pe_bl)) pss_nil) 
      (pss_cons (ps_for PassesOwn.never rfl (pi_list (pe_lst (pa_cons pe_str (pa_cons pe_str (pa_cons pe_str (pa_cons pe_str (pa_cons pe_str pa_nil))))))) (pg_name (i := 7) sc_law_tells.nd rfl (.inl rfl)) (pss_cons (ps_set (i := 8) sc_law_tells.nd rfl (.inl rfl) pe_non) 
      (pss_cons (ps_for PassesOwn.never rfl (pi_list (pv 5)) (pg_tup rfl (pgs_cons (pg_name (i := 9) sc_law_tells.nd rfl (.inl rfl)) (pgs_cons (pg_name (i := 10) sc_law_tells.nd rfl (.inl rfl)) pgs_nil))) (pss_one (ps_if (pt_cmpR op_eq (pv 9) (pv 7) (nomark _)) (pss_one (ps_set (i := 8) sc_law_tells.nd rfl (.inl rfl) (pv 10))) pss_nil))) 
      (pss_one (ps_if (pt_cmpR op_ne (pe_meth (pv 0) T.cl_Schema T.me_Schema_kind_of G_Schema_kind_of (hr.mono (by decide)) T.b_Schema_kind_of .nil pass0 (pa_cons (pv 7) pa_nil)) (pv 8) (nomark _)) (pss_one (ps_ret pe_bl)) pss_nil))))) 
      (pss_one (ps_ret pe_bl))))))), ?_⟩
    obtain ⟨_, dx, tf, hx, xt⟩ := id hS
    obtain ⟨pf', vf, ef, _, gf, tt⟩ := xf.isL
    cases ef
    have lf := tt.length
    rw [List.length_map] at lf
    refine ⟨_, rfl, t, _, rfl, SqT.of ht, rfl, _, _, rfl, _, _, rfl, _, _, rfl, _, _, rfl, rfl, ?_⟩
    refine ⟨_, rfl, x, T.c_Schema, dx, _, _, rfl, hx, T.cl_Schema, T.n_Schema_size, lk_Schema_size, _, rfl, rfl, _, rfl, iteNS rfl ?_⟩
    refine ⟨_, rfl, x, T.c_Schema, dx, _, _, rfl, hx, T.cl_Schema, T.n_Schema_width, lk_Schema_width, _, rfl, rfl, _, rfl, iteNS rfl ?_⟩
    refine ⟨_, rfl, x, T.c_Schema, dx, _, _, rfl, hx, T.cl_Schema, T.n_Schema_measure, lk_Schema_measure, _, rfl, rfl, _, rfl, iteNS rfl ?_⟩
    refine ⟨_, rfl, x, T.c_Schema, dx, _, _, rfl, hx, T.cl_Schema, T.n_Schema_fields, lk_Schema_fields, _, rfl, pf, _, rfl, .inl ⟨SqL.of gf, fun t2 ht2 => ?_⟩⟩
    have s1 := same_new (o := .tup vf) ht2
    refine ⟨_, _, Dt.dp (xt.same s1), .tup (SqT.of upd_same) (Dts.dp (tt.same s1)), shapedT ok, shapedT ok, _, rfl, ?_⟩
    have ev : PyData.eqv (.tuple (fs.map fdD)) (.tuple (fs.map fdD)) = true := (eqv_fd fs fs).trans (decide_eq_true rfl)
    rw [ev]
    refine iteF ?_
    generalize upd H t2 (.tup vf) = H1 at s1 ⊢
    -- place
    obtain ⟨j, lo, hi, g1, g2, g3, g4, g5, _⟩ := wide3 hw
    refine ⟨(by show 3 ≤ sizeLine; decide), fun a2 ha2 => ⟨.inl ⟨rfl, _, SqL.of upd_same⟩, _, rfl, a2, _, _, j, _, rfl, rfl, SqL.of upd_same, rfl, by decide +kernel, g1, g2, g3, ?_⟩⟩
    have s2 := s1.trans (same_new (o := .lst [V.str "bit", V.str "small", V.str "wide"]) ha2)
    generalize upd H1 a2 (.lst [V.str "bit", V.str "small", V.str "wide"]) = H2 at s2 ⊢
    have lohi : lo = (if w = "bit" then 0 else if w = "small" then -128 else -32768) ∧ hi = (if w = "bit" then 1 else if w = "small" then 127 else 32767) := by
      have hw' : w = "bit" ∨ w = "small" ∨ w = "wide" := by
        unfold WIDE3 at hw
        simpa using hw
      have n1 : ¬ ("small" : Str) = "bit" := by decide +kernel
      have n2 : ¬ ("wide" : Str) = "bit" := by decide +kernel
      have n3 : ¬ ("wide" : Str) = "small" := by decide +kernel
      have j3 : j = 0 ∨ j = 1 ∨ j = 2 := by
        have := (List.getElem?_eq_some_iff.mp g1).1
        have : j < 3 := this
        omega
      have cs : ∀ z : Str, V.str z = V.str w → z = w := fun z e => V.str.inj e
      rcases j3 with rfl | rfl | rfl
      · have e := cs _ (Option.some.inj g1)
        subst e
        exact ⟨(V.int.inj (Option.some.inj g4)).symm.trans (if_pos rfl).symm, (V.int.inj (Option.some.inj g5)).symm.trans (if_pos rfl).symm⟩
      · have e := cs _ (Option.some.inj g1)
        subst e
        rw [if_neg n1, if_neg n1, if_pos rfl, if_pos rfl]
        exact ⟨(V.int.inj (Option.some.inj g4)).symm, (V.int.inj (Option.some.inj g5)).symm⟩
      · have e := cs _ (Option.some.inj g1)
        subst e
        rw [if_neg n2, if_neg n2, if_neg n3, if_neg n3]
        exact ⟨(V.int.inj (Option.some.inj g4)).symm, (V.int.inj (Option.some.inj g5)).symm⟩
    -- if schema.least != .. or schema.greatest != ..
    have S2 := hS.same s2
    have hx2 := s2 _ _ hx
    refine ⟨_, rfl, x, dx, _, rfl, hx2, x, n, w, m, fs, rfl, S2, hw, _, rfl, _, rfl, (by show 3 ≤ sizeLine; decide), fun a3 ha3 => ⟨_, rfl, a3, _, _, _, rfl, rfl, SqL.of upd_same, at_of rfl g4, rfl, _, rfl, iteNS (by rw [lohi.1]) ?_⟩⟩
    have s3 := s2.trans (same_new (o := .lst [V.int 0, V.int (-128), V.int (-32768)]) ha3)
    generalize upd H2 a3 (.lst [V.int 0, V.int (-128), V.int (-32768)]) = H3 at s3 ⊢
    refine ⟨_, rfl, x, dx, _, rfl, s3 _ _ hx, x, n, w, m, fs, rfl, hS.same s3, hw, (by show 3 ≤ sizeLine; decide), fun a4 ha4 => ⟨_, rfl, a4, _, _, _, rfl, rfl, SqL.of upd_same, at_of rfl g5, rfl, _, rfl, iteNS (by rw [lohi.2]) ?_⟩⟩
    have s4 := s3.trans (same_new (o := .lst [V.int 1, V.int 127, V.int 32767]) ha4)
    generalize upd H3 a4 (.lst [V.int 1, V.int 127, V.int 32767]) = H4 at s4 ⊢
    -- for name in [..]
    refine ⟨(by show 5 ≤ sizeLine; decide), fun l5 hl5 => ⟨l5, rfl, ⟨_, SqL.of upd_same⟩, ?_⟩⟩
    have s5 := s4.trans (same_new (o := .lst ((["a", "b", "A9_", "_", "zz"] : List Str).map V.str)) hl5)
    refine for_list (K := K) (a := l5) (xs := (["a", "b", "A9_", "_", "zz"] : List Str).map V.str) (fun i σ H' => Same H H' ∧ H' l5 = some (.lst ((["a", "b", "A9_", "_", "zz"] : List Str).map V.str)) ∧ ∃ (y7 y8 y9 y10 : Option V), σ = [some (.ref x), some (.ref t), some (.int n), some (.str w), some (.str m), some (.ref pf), some (.int (j : Nat)), y7, y8, y9, y10]) ⟨s5, upd_same, none, none, none, none, rfl⟩ (fun i σ H' _ h => SqL.of h.2.1) ?_ ?_
    rotate_left
    · rintro σ H' ⟨s6, _, y7, y8, y9, y10, rfl⟩
      exact q H' s6
    rintro i v σ H5 hi ⟨s6, h5, y7, y8, y9, y10, rfl⟩
    obtain ⟨z, rfl⟩ : ∃ z, v = .str z := by
      rw [List.getElem?_map] at hi
      cases e : (["a", "b", "A9_", "_", "zz"] : List Str)[i]? with
      | none =>
        rw [e] at hi
        cases hi
      | some z =>
        rw [e] at hi
        exact ⟨z, (Option.some.inj hi).symm⟩
    -- due
    refine ⟨_, rfl, pf, rfl, ⟨_, SqL.of (s6 _ _ gf)⟩, ?_⟩
    refine for_list (K := K) (a := pf) (xs := vf) (fun k σ H' => H' = H5 ∧ ∃ d, d = lastV (fs.take k) z .non ∧ ∃ (y9 y10 : Option V), σ = [some (.ref x), some (.ref t), some (.int n), some (.str w), some (.str m), some (.ref pf), some (.int (j : Nat)), some (.str z), some (d), y9, y10]) ⟨rfl, _, rfl, _, _, rfl⟩ (fun k σ H' _ h => by rw [h.1]; exact SqL.of (s6 _ _ gf)) ?_ ?_
    · rintro k v σ H' hk ⟨rfl, d, hd, y9, y10, rfl⟩
      obtain ⟨dd, ed, xd⟩ := tt.get hk
      rw [List.getElem?_map] at ed
      cases ep : fs[k]? with
      | none =>
        rw [ep] at ed
        cases ed
      | some f =>
        rw [ep] at ed
        have := Option.some.inj ed
        subst this
        obtain ⟨t3, u, rfl, _, et, xu⟩ := xd.isP
        rw [xu.isS] at et
        have lt := lastV_take (z := z) (d := .non) ep
        refine ⟨t3, _, rfl, SqT.of (s6 _ _ et), rfl, _, _, rfl, _, _, rfl, rfl, ?_⟩
        refine ⟨_, rfl, _, rfl, rfl, _, rfl, ite2 (fun e => ?_) (fun e => ?_)⟩
        · have c : f.1 = z := V.str.inj (of_decide_eq_true e)
          refine ⟨_, rfl, rfl, .str f.2, ?_, _, _, rfl⟩
          rw [lt, if_pos c]
        · have c : ¬ f.1 = z := fun h => e (decide_eq_true (congrArg V.str h))
          refine ⟨rfl, d, ?_, _, _, rfl⟩
          rw [lt, if_neg c]
          exact hd
    rintro σ H' ⟨rfl, d, hd, y9, y10, rfl⟩
    rw [lf, List.take_length, last_first nd] at hd
    subst hd
    refine ⟨_, rfl, x, dx, _, rfl, s6 _ _ hx, no_Schema, _, rfl, x, n, w, m, fs, z, rfl, hS.same s6, _, rfl, ?_⟩
    refine ⟨by unfold kindV; split <;> rfl, _, rfl, iteNS rfl ⟨s6, h5, _, _, _, _, rfl⟩⟩
def sp_law (K : PySem.W.Frag) : Sp := fun vs H Q _ => ∃ (a : Addr) (ns : List Int), vs = [.ref a] ∧ (SqL K H a (ns.map V.int)) ∧ (ns.length ≤ 63) ∧ ∀ H', Q (.bl true) H'
set_option maxHeartbeats 8000000 in
theorem ok_law (T : Txt w K mg) : FnOk P w K mg base CX0 7 T.f_law T.d_law ["script"] (sp_law K) := by
  have G_Schema___eq__ : FnOk P w K mg base CX0 1 T.f_Schema___eq__ T.d_Schema___eq__ ["self", "other"] (sp_Schema___eq__ T) := ok_Schema___eq__ T
  have G_law_valid : FnOk P w K mg base CX0 2 T.f_law_valid T.d_law_valid ["size", "width", "measure", "fields"] (sp_law_valid T) := ok_law_valid T
  have G_law_tells : FnOk P w K mg base CX0 3 T.f_law_tells T.d_law_tells ["schema", "drawn"] (sp_law_tells T) := ok_law_tells T
  have G_law_made : FnOk P w K mg base CX0 6 T.f_law_made T.d_law_made ["drawn"] (sp_law_made T) := ok_law_made T
  have G_law_draw : FnOk P w K mg base CX0 3 T.f_law_draw T.d_law_draw ["state"] (sp_law_draw T) := ok_law_draw T
  refine T.F_law.ok sc_law (fun vs H Q E h => ?_) (fun cdv A outer s H vs Q E hr h => ?_)
  · obtain ⟨a, ns, rfl, _⟩ := h
    rfl
  · obtain ⟨a, ns, rfl, hA, hlen, q⟩ := h
    refine ⟨_, (pss_cons (ps_set (i := 1) sc_law.nd rfl (.inl rfl) (pe_lst (pa_cons (pe_callTy call_list_of (by rfl) T.m_list (by decide +kernel) (pa_cons (pv 0) pa_nil)) (pa_cons pe_int (pa_cons pe_int pa_nil))))) 
      (pss_cons (ps_set (i := 2) sc_law.nd rfl (.inl rfl) (pe_lst pa_nil)) 
      (pss_cons (ps_for PassesOwn.never rfl (pi_range1 rfl T.m_range (pa_cons pe_int pa_nil)) (pg_name (i := 3) sc_law.nd rfl (.inl rfl)) (pss_cons (ps_set (i := 4) sc_law.nd rfl (.inl rfl) (pe_call G_law_draw (hr.mono (by decide)) (by rfl) T.g_law_draw T.F_law_draw.kp T.b_law_draw .nil pass0 (pa_cons (pv 1) pa_nil))) 
      (pss_cons (ps_set (i := 5) sc_law.nd rfl (.inl rfl) (pe_call G_law_made (hr.mono (by decide)) (by rfl) T.g_law_made T.F_law_made.kp T.b_law_made .nil pass0 (pa_cons (pv 4) pa_nil))) 
      (pss_one (ps_if (pt_not (pt_val (pe_call G_law_valid (hr.mono (by decide)) (by rfl) T.g_law_valid T.F_law_valid.kp T.b_law_valid .nil pass0 (pa_cons (pe_ix ix_tup (pv 4) pe_int (fun _ _ => rfl)) (pa_cons (pe_ix ix_tup (pv 4) pe_int (fun _ _ => rfl)) (pa_cons (pe_ix ix_tup (pv 4) pe_int (fun _ _ => rfl)) (pa_cons (pe_ix ix_tup (pv 4) pe_int (fun _ _ => rfl)) pa_nil))))))) (pss_one (ps_if (pt_cmpR op_notN (pv 5) pe_non (nomark _)) (pss_one (ps_ret pe_bl)) pss_nil)) (pss_cons (ps_if (PW.pt (pw_or (pt_not (pt_val (pe_callB call_isi (by rfl) T.m_isinstance (by decide +kernel) (pa_cons (pv 5) (pa_cons (pe_glob (v := .ref T.c_Schema) rfl T.mc_Schema rfl) pa_nil))))) (pw_or1 (pt_not (pt_val (pe_call G_law_tells (hr.mono (by decide)) (by rfl) T.g_law_tells T.F_law_tells.kp T.b_law_tells .nil pass0 (pa_cons (pv 5) (pa_cons (pv 4) pa_nil)))))))) (pss_one (ps_ret pe_bl)) pss_nil) 
      (pss_one (ps_expr (pe_bm PySem.F.plainAttrs_list PySem.F.slot_list_append PySem.F.type_list_append mt_append (pv 2) (pa_cons (pe_tup (pa_cons (pv 5) (pa_cons (pv 4) pa_nil))) pa_nil)))))))))) 
      (pss_cons (ps_for PassesOwn.never rfl (pi_list (pv 2)) (pg_tup rfl (pgs_cons (pg_name (i := 6) sc_law.nd rfl (.inl rfl)) (pgs_cons (pg_name (i := 7) sc_law.nd rfl (.inl rfl)) pgs_nil))) (pss_one (ps_for PassesOwn.never rfl (pi_list (pv 2)) (pg_tup rfl (pgs_cons (pg_name (i := 8) sc_law.nd rfl (.inl rfl)) (pgs_cons (pg_name (i := 9) sc_law.nd rfl (.inl rfl)) pgs_nil))) (pss_one (ps_if (PW.pt (pw_or (pt_cmpR op_ne (pe_cmpR (op_ownEq T.me_Schema___eq__ G_Schema___eq__ (hr.mono (by decide)) T.b_Schema___eq__ pass0) (pv 6) (pv 8) (nomark _)) (pe_cmpR (op_eqD hr.units) (pv 7) (pv 9) (nomark _)) (nomark _)) (pw_or1 (pt_cmpR (op_ownEq T.me_Schema___eq__ G_Schema___eq__ (hr.mono (by decide)) T.b_Schema___eq__ pass0) (pv 6) (pv 7) (nomark _))))) (pss_one (ps_ret pe_bl)) pss_nil))))) 
      (pss_one (ps_ret pe_bl)))))), ?_⟩
    refine ⟨_, rfl, a, _, rfl, .inl hA, fun sc hsc => ⟨(by show 3 ≤ sizeLine; decide), fun st hst => ?_⟩⟩
    have hS0 := st_made hsc hst hlen
    generalize upd (upd H sc (.lst (ns.map V.int))) st (.lst [.ref sc, .int 0, .int 0]) = H0 at hS0
    refine ⟨Nat.zero_le _, fun pm hpm => ?_⟩
    have npm : pm ≠ st := st_new hS0 hpm
    have nsc : sc ≠ pm := by
      obtain ⟨_, _, _, _, g, _⟩ := hS0
      exact ne_of_none g hpm
    refine ⟨5, rfl, by decide, by decide, ?_⟩
    refine for_range (lo := 0) (n := 5) (fun i σ H' => StAt H' st sc ∧ (∃ ps ds, H' pm = some (.lst (ps.map V.ref)) ∧ ps.length ≤ i ∧ AllAt [pm, st] T.c_Schema H' ps ds) ∧ ∃ (y3 y4 y5 y6 y7 y8 y9 : Option V), σ = [some (.ref a), some (.ref st), some (.ref pm), y3, y4, y5, y6, y7, y8, y9]) ⟨hS0.new hpm, ⟨[], [], upd_same, Nat.le_refl 0, rfl, fun j p e => by simp at e⟩, none, none, none, none, none, none, none, rfl⟩ ?_ ?_
    · rintro i σ H1 hi ⟨hS1, ⟨ps, ds, h1, lps, A1⟩, y3, y4, y5, y6, y7, y8, y9, rfl⟩
      -- drawn
      refine ⟨_, rfl, st, sc, rfl, hS1, fun t pf n w m fs H2 ok mw mm nt ht xf hS2 pfN tN f2 => ?_⟩
      have h2 := f2 _ _ h1 npm
      have A2 := A1.mono fun a o n e => f2 a o e fun z => n (by rw [z]; exact in2)
      have npf : pf ≠ pm := fun z => by rw [z, h1] at pfN; cases pfN
      have ntm : t ≠ pm := fun z => by rw [z, h1] at tN; cases tN
      obtain ⟨pf', vf, ef, npf', gf, tf⟩ := id xf.isL
      cases ef
      have npst : pf ≠ st := fun z => npf' (by rw [z]; exact in1)
      -- schema = _law_made(drawn)
      refine ⟨_, rfl, t, pf, n, w, m, fs, rfl, ht, xf.nilN, ok, mw, fun g x H3 S3 xN s3 => ?_, fun g H3 s3 => ?_⟩
      · -- valid
        have hS3 := hS2.same s3
        have h3 := s3 _ _ h2
        have ht3 := s3 _ _ ht
        have A3 := A2.mono fun a o _ e => s3 a o e
        refine ⟨_, rfl, t, _, _, _, rfl, rfl, SqT.of ht3, at_of (j := 0) rfl rfl, _, rfl, t, _, _, _, rfl, rfl, SqT.of ht3, at_of (j := 1) rfl rfl, _, rfl, t, _, _, _, rfl, rfl, SqT.of ht3, at_of (j := 2) rfl rfl, _, rfl, t, _, _, _, rfl, rfl, SqT.of ht3, at_of (j := 3) rfl rfl, pf, n, w, m, fs, rfl, xf.nilN.same s3, ok, fun _ H4 s4 => ⟨true, rfl, iteF ?_⟩, fun z => absurd g z⟩
        have S4 := S3.same s4
        obtain ⟨_, dx, tf0, hx4, _⟩ := id S4
        refine ⟨_, rfl, _, _, _, _, true, rfl, .own _, .base (.ins hx4 T.cl_Schema T.ha_Schema T.hn0 T.ht0 T.hm_Schema), T.kit_Schema_Schema, true, rfl, iteF ?_⟩
        refine ⟨_, rfl, _, rfl, x, t, pf, n, w, m, fs, rfl, S4, s4 _ _ ht3, (xf.nilN.same s3).same s4, ok, g.1.2.1, g.2.2, fun H5 s5 => ⟨true, rfl, iteF ?_⟩⟩
        have s35 := s3.trans (s4.trans s5)
        have h5 := s35 _ _ h2
        refine ⟨_, rfl, .inl ⟨rfl, _, SqL.of h5⟩, _, rfl, _, rfl, (by show 2 ≤ sizeLine; decide), fun tp htp => ?_⟩
        have s6 := s35.trans (same_new (o := .tup [.ref x, .ref t]) htp)
        have h6 := s6 _ _ h2
        have hS6 := hS2.same s6
        have tp6 : (upd H5 tp (.tup [.ref x, .ref t])) tp = some (.tup [.ref x, .ref t]) := upd_same
        have ntp : tp ∉ [pm, st] := not_in2 (ne_of_none h5 htp).symm (st_new (hS2.same s35) htp)
        have S6 := (S4.same s5).same (same_new (o := .tup [.ref x, .ref t]) htp)
        generalize upd H5 tp (.tup [.ref x, .ref t]) = H6 at s6 h6 hS6 tp6 S6 ⊢
        obtain ⟨xs6, hs6⟩ := st_lst hS6
        have lists : ∀ b ∈ [pm, st], ∃ ys, H6 b = some (.lst ys) := fun b hb => by
          rcases List.mem_cons.mp hb with e | e
          · rw [e]; exact ⟨_, h6⟩
          · rw [List.mem_singleton.mp e]; exact ⟨_, hs6⟩
        have M6 : MdAt [pm, st] T.c_Schema H6 ⟨x, t, pf, n, w, m, fs⟩ := ⟨S6.offN lists, not_in2 ntm nt, s6 _ _ ht, .lst (not_in2 npf npst) (s6 _ _ gf) (offFN lists (tf.nilN.same s6)), ok, mw, mm⟩
        have A6 := (A2.mono fun a o _ e => s6 a o e).push ntp tp6 M6
        refine ⟨pm, _, _, rfl, rfl, h6, ?_, ?_, ⟨ps ++ [tp], _, by rw [upd_same, List.map_append]; rfl, by simp; omega, A6.mono fun a o n e => ?_⟩, _, _, _, _, _, _, _, rfl⟩
        · rw [List.length_map]
          exact len_le (by omega)
        · obtain ⟨ns', k', x', g1, g2, g3⟩ := hS6
          exact ⟨ns', k', x', by rw [upd_ne npm.symm]; exact g1, by rw [upd_ne nsc]; exact g2, g3⟩
        · rw [upd_ne fun z => n (by rw [z]; exact List.mem_cons_self ..)]
          exact e
      · have hS3 := hS2.same s3
        have ht3 := s3 _ _ ht
        refine ⟨_, rfl, t, _, _, _, rfl, rfl, SqT.of ht3, at_of (j := 0) rfl rfl, _, rfl, t, _, _, _, rfl, rfl, SqT.of ht3, at_of (j := 1) rfl rfl, _, rfl, t, _, _, _, rfl, rfl, SqT.of ht3, at_of (j := 2) rfl rfl, _, rfl, t, _, _, _, rfl, rfl, SqT.of ht3, at_of (j := 3) rfl rfl, pf, n, w, m, fs, rfl, xf.nilN.same s3, ok, fun z => absurd z g, fun _ H4 s4 => ⟨false, rfl, iteT ?_⟩⟩
        refine ⟨_, rfl, rfl, _, rfl, iteNS rfl ?_⟩
        exact ⟨hS3.same s4, ⟨ps, ds, s4 _ _ (s3 _ _ h2), by omega, (A2.mono fun a o _ e => s3 a o e).mono fun a o _ e => s4 a o e⟩, _, _, _, _, _, _, _, rfl⟩
    rintro σ H1 ⟨hS1, ⟨ps, ds, h1, lps, A1⟩, y3, y4, y5, y6, y7, y8, y9, rfl⟩
    -- the pairs
    refine ⟨_, rfl, pm, rfl, ⟨_, SqL.of h1⟩, ?_⟩
    refine for_list (K := K) (a := pm) (xs := ps.map V.ref) (fun i σ H' => H' = H1 ∧ ∃ (y3 y4 y5 y6 y7 y8 y9 : Option V), σ = [some (.ref a), some (.ref st), some (.ref pm), y3, y4, y5, y6, y7, y8, y9]) ⟨rfl, _, _, _, _, _, _, _, rfl⟩ (fun i σ H' _ h => by rw [h.1]; exact SqL.of h1) ?_ ?_
    rotate_left
    · rintro σ H' ⟨rfl, y3, y4, y5, y6, y7, y8, y9, rfl⟩
      exact q _
    rintro i v σ H' hi ⟨rfl, y3, y4, y5, y6, y7, y8, y9, rfl⟩
    obtain ⟨p, d, rfl, hp, M⟩ := A1.at hi
    refine ⟨p, _, rfl, SqT.of hp, rfl, _, _, rfl, _, _, rfl, rfl, ?_⟩
    refine ⟨_, rfl, pm, rfl, ⟨_, SqL.of h1⟩, ?_⟩
    refine for_list (K := K) (a := pm) (xs := ps.map V.ref) (fun k σ H2 => H2 = H' ∧ ∃ (y3 y4 y5 y8 y9 : Option V), σ = [some (.ref a), some (.ref st), some (.ref pm), y3, y4, y5, some (.ref d.x), some (.ref d.t), y8, y9]) ⟨rfl, _, _, _, _, _, rfl⟩ (fun k σ H2 _ h => by rw [h.1]; exact SqL.of h1) ?_ ?_
    rotate_left
    · rintro σ H2 ⟨rfl, y3, y4, y5, y8, y9, rfl⟩
      exact ⟨rfl, _, _, _, _, _, _, _, rfl⟩
    rintro k v σ H2 hk ⟨rfl, y3, y4, y5, y8, y9, rfl⟩
    obtain ⟨p2, d2, rfl, hp2, M2⟩ := A1.at hk
    refine ⟨p2, _, rfl, SqT.of hp2, rfl, _, _, rfl, _, _, rfl, rfl, ?_⟩
    obtain ⟨S, _, td, xd, okd, wd, md⟩ := M
    obtain ⟨S2, _, td2, xd2, okd2, wd2, md2⟩ := M2
    have Sn := S.nil
    have S2n := S2.nil
    obtain ⟨_, dx, tf0, hx, _⟩ := id Sn
    obtain ⟨_, dx2, tf2, hx2, _⟩ := id S2n
    have dpD : ∀ {e : Md} {H : Hp} {N : List Addr}, H e.t = some (.tup [.int e.n, .str e.w, .str e.m, .ref e.pf]) → Dt N H (.ref e.pf) (.list (e.fs.map fdD)) → Dp K H (.ref e.t) (drD e.n e.w e.m e.fs) := fun h1 h2 => .tup (SqT.of h1) (.cons (.int _) (.cons (.str _) (.cons (.str _) (.cons h2.dp .nil))))
    refine ⟨_, rfl, _, rfl, d.x, dx, _, _, rfl, hx, .base (.ins hx2 T.cl_Schema T.ha_Schema T.hn0 T.ht0 T.hm_Schema), nf_self, d.x, d.n, d.w, d.m, d.fs, _, rfl, Sn, okd, .inl ⟨d2.x, d2.n, d2.w, d2.m, d2.fs, rfl, S2n, okd2, _, rfl, ?_⟩⟩
    refine ⟨_, rfl, _, rfl, _, _, dpD td xd, dpD td2 xd2, shapedD okd wd md, shapedD okd2 wd2 md2, ?_⟩
    rw [eqv_dr]
    refine ⟨rfl, _, rfl, iteNS rfl ?_⟩
    refine ⟨_, rfl, _, rfl, d.x, dx, _, _, rfl, hx, .base (.tup td), T.nf_Schema_tuple, d.x, d.n, d.w, d.m, d.fs, _, rfl, Sn, okd, .inr ⟨d.t, _, rfl, td, false, rfl, false, rfl, iteF ?_⟩⟩
    exact ⟨rfl, _, _, _, _, _, rfl⟩
end
theorem all_mk {l : PySem.W.OpenLaw} {w : World} {K : PySem.W.Frag} {h : Heap} {mg : Str → Option Value} {fa f0 f1 f2 f3 f4 f5 f6 f7 f8 f9 f10 f11 f12 f13 f14 f15 f16 f17 : Addr} (X : K.In h) (G : h.Ns mainGlobals mg) (hfa : mg "law" = some (.ref fa))
    {od0 an0 od1 an1 od2 an2 od3 an3 od4 an4 od5 an5 od6 an6 od7 an7 od8 an8 od9 an9 od10 an10 od11 an11 od12 an12 od13 an13 od14 an14 od15 an15 od16 an16 od17 an17 : Option Addr} {sl0 sl1 sl2 sl3 sl4 sl5 sl6 sl7 sl8 sl9 sl10 sl11 sl12 sl13 sl14 sl15 sl16 sl17 : Array (Option Value)} {oc0 kV0 dc0 pm0 cd0 ct0 oc1 kV1 dc1 pm1 cd1 ct1 oc2 kV2 dc2 pm2 cd2 ct2 oc3 kV3 dc3 pm3 cd3 ct3 oc4 kV4 dc4 pm4 cd4 ct4 oc5 kV5 dc5 pm5 cd5 ct5 oc6 kV6 dc6 pm6 cd6 ct6 oc7 dc7 pm7 cd7 ct7 oc8 kV8 dc8 pm8 cd8 ct8 oc9 kV9 dc9 pm9 cd9 ct9 oc10 kV10 dc10 pm10 cd10 ct10 oc11 kV11 dc11 pm11 cd11 ct11 oc12 kV12 dc12 pm12 cd12 ct12 oc13 kV13 dc13 pm13 cd13 ct13 oc14 kV14 dc14 pm14 cd14 ct14 oc15 kV15 dc15 pm15 cd15 ct15 oc16 kV16 dc16 pm16 cd16 ct16 oc17 kV17 dc17 pm17 cd17 ct17 : Value}
    {C_Schema : Addr}
    {p_Schema_least p_Schema_greatest : Addr} {rest_Schema_least rest_Schema_greatest : List Value}
    (a0 : PySem.W.nsIn K mainGlobals "_law_row" = some (some (.ref f0))) (l0 : K.lookup f0 = some ⟨oc0, od0, .func (PySem.W.fnOf "_law_row" "_law_row" (defArgs s_law_row) (defBody s_law_row) (defScope s_law_row) .none kV0 dc0 pm0 an0 cd0 ct0), sl0⟩) (c0 : PySem.W.codeIn K cd0 "_law_row" = true) (k0 : PySem.W.keepIn K (.ref f0) = true)
    (a1 : PySem.W.nsIn K mainGlobals "_law_next" = some (some (.ref f1))) (l1 : K.lookup f1 = some ⟨oc1, od1, .func (PySem.W.fnOf "_law_next" "_law_next" (defArgs s_law_next) (defBody s_law_next) (defScope s_law_next) .none kV1 dc1 pm1 an1 cd1 ct1), sl1⟩) (c1 : PySem.W.codeIn K cd1 "_law_next" = true) (k1 : PySem.W.keepIn K (.ref f1) = true)
    (a2 : PySem.W.nsIn K mainGlobals "is_letter" = some (some (.ref f2))) (l2 : K.lookup f2 = some ⟨oc2, od2, .func (PySem.W.fnOf "is_letter" "is_letter" (defArgs s_is_letter) (defBody s_is_letter) (defScope s_is_letter) .none kV2 dc2 pm2 an2 cd2 ct2), sl2⟩) (c2 : PySem.W.codeIn K cd2 "is_letter" = true) (k2 : PySem.W.keepIn K (.ref f2) = true)
    (a3 : PySem.W.nsIn K mainGlobals "is_digit" = some (some (.ref f3))) (l3 : K.lookup f3 = some ⟨oc3, od3, .func (PySem.W.fnOf "is_digit" "is_digit" (defArgs s_is_digit) (defBody s_is_digit) (defScope s_is_digit) .none kV3 dc3 pm3 an3 cd3 ct3), sl3⟩) (c3 : PySem.W.codeIn K cd3 "is_digit" = true) (k3 : PySem.W.keepIn K (.ref f3) = true)
    (a4 : PySem.W.nsIn K mainGlobals "is_word" = some (some (.ref f4))) (l4 : K.lookup f4 = some ⟨oc4, od4, .func (PySem.W.fnOf "is_word" "is_word" (defArgs s_is_word) (defBody s_is_word) (defScope s_is_word) .none kV4 dc4 pm4 an4 cd4 ct4), sl4⟩) (c4 : PySem.W.codeIn K cd4 "is_word" = true) (k4 : PySem.W.keepIn K (.ref f4) = true)
    (a5 : PySem.W.nsIn K mainGlobals "check_vectors" = some (some (.ref f5))) (l5 : K.lookup f5 = some ⟨oc5, od5, .func (PySem.W.fnOf "check_vectors" "check_vectors" (defArgs s_check_vectors) (defBody s_check_vectors) (defScope s_check_vectors) .none kV5 dc5 pm5 an5 cd5 ct5), sl5⟩) (c5 : PySem.W.codeIn K cd5 "check_vectors" = true) (k5 : PySem.W.keepIn K (.ref f5) = true)
    (a6 : PySem.W.nsIn K mainGlobals "check_fields" = some (some (.ref f6))) (l6 : K.lookup f6 = some ⟨oc6, od6, .func (PySem.W.fnOf "check_fields" "check_fields" (defArgs s_check_fields) (defBody s_check_fields) (defScope s_check_fields) .none kV6 dc6 pm6 an6 cd6 ct6), sl6⟩) (c6 : PySem.W.codeIn K cd6 "check_fields" = true) (k6 : PySem.W.keepIn K (.ref f6) = true)
    {DK7 : Addr} (l7 : K.lookup f7 = some ⟨oc7, od7, .func (PySem.W.fnOf "__init__" "Schema.__init__" (defArgs s_Schema___init__) (defBody s_Schema___init__) (defScope s_Schema___init__) .none (.ref DK7) dc7 pm7 an7 cd7 ct7), sl7⟩) (c7 : PySem.W.codeIn K cd7 "Schema.__init__" = true) (k7 : PySem.W.keepIn K (.ref f7) = true)
    {tq7_width : Tok} (n7_width : PySem.W.nsIn K DK7 "width" = some (some (.str "small" tq7_width)))
    {tq7_measure : Tok} (n7_measure : PySem.W.nsIn K DK7 "measure" = some (some (.str "square" tq7_measure)))
    {E7_fields : Addr} {eo7_fields : Option Addr} {en7_fields : Nat} {es7_fields : Array (Option Value)} (n7_fields : PySem.W.nsIn K DK7 "fields" = some (some (.ref E7_fields))) (t7_fields : K.lookup E7_fields = some ⟨.type "tuple", eo7_fields, .seq #[] en7_fields, es7_fields⟩)
    (a8 : PySem.W.nsIn K mainGlobals "_law_good_name" = some (some (.ref f8))) (l8 : K.lookup f8 = some ⟨oc8, od8, .func (PySem.W.fnOf "_law_good_name" "_law_good_name" (defArgs s_law_good_name) (defBody s_law_good_name) (defScope s_law_good_name) .none kV8 dc8 pm8 an8 cd8 ct8), sl8⟩) (c8 : PySem.W.codeIn K cd8 "_law_good_name" = true) (k8 : PySem.W.keepIn K (.ref f8) = true)
    (a9 : PySem.W.nsIn K mainGlobals "_law_draw" = some (some (.ref f9))) (l9 : K.lookup f9 = some ⟨oc9, od9, .func (PySem.W.fnOf "_law_draw" "_law_draw" (defArgs s_law_draw) (defBody s_law_draw) (defScope s_law_draw) .none kV9 dc9 pm9 an9 cd9 ct9), sl9⟩) (c9 : PySem.W.codeIn K cd9 "_law_draw" = true) (k9 : PySem.W.keepIn K (.ref f9) = true)
    (a10 : PySem.W.nsIn K mainGlobals "_law_valid" = some (some (.ref f10))) (l10 : K.lookup f10 = some ⟨oc10, od10, .func (PySem.W.fnOf "_law_valid" "_law_valid" (defArgs s_law_valid) (defBody s_law_valid) (defScope s_law_valid) .none kV10 dc10 pm10 an10 cd10 ct10), sl10⟩) (c10 : PySem.W.codeIn K cd10 "_law_valid" = true) (k10 : PySem.W.keepIn K (.ref f10) = true)
    (a11 : PySem.W.nsIn K mainGlobals "_law_made" = some (some (.ref f11))) (l11 : K.lookup f11 = some ⟨oc11, od11, .func (PySem.W.fnOf "_law_made" "_law_made" (defArgs s_law_made) (defBody s_law_made) (defScope s_law_made) .none kV11 dc11 pm11 an11 cd11 ct11), sl11⟩) (c11 : PySem.W.codeIn K cd11 "_law_made" = true) (k11 : PySem.W.keepIn K (.ref f11) = true)
    (l12 : K.lookup f12 = some ⟨oc12, od12, .func (PySem.W.fnOf "least" "Schema.least" (defArgs s_Schema_least) (defBody s_Schema_least) (defScope s_Schema_least) .none kV12 dc12 pm12 an12 cd12 ct12), sl12⟩) (c12 : PySem.W.codeIn K cd12 "Schema.least" = true) (k12 : PySem.W.keepIn K (.ref f12) = true)
    (l13 : K.lookup f13 = some ⟨oc13, od13, .func (PySem.W.fnOf "greatest" "Schema.greatest" (defArgs s_Schema_greatest) (defBody s_Schema_greatest) (defScope s_Schema_greatest) .none kV13 dc13 pm13 an13 cd13 ct13), sl13⟩) (c13 : PySem.W.codeIn K cd13 "Schema.greatest" = true) (k13 : PySem.W.keepIn K (.ref f13) = true)
    (l14 : K.lookup f14 = some ⟨oc14, od14, .func (PySem.W.fnOf "kind_of" "Schema.kind_of" (defArgs s_Schema_kind_of) (defBody s_Schema_kind_of) (defScope s_Schema_kind_of) .none kV14 dc14 pm14 an14 cd14 ct14), sl14⟩) (c14 : PySem.W.codeIn K cd14 "Schema.kind_of" = true) (k14 : PySem.W.keepIn K (.ref f14) = true)
    (l15 : K.lookup f15 = some ⟨oc15, od15, .func (PySem.W.fnOf "__eq__" "Schema.__eq__" (defArgs s_Schema___eq__) (defBody s_Schema___eq__) (defScope s_Schema___eq__) .none kV15 dc15 pm15 an15 cd15 ct15), sl15⟩) (c15 : PySem.W.codeIn K cd15 "Schema.__eq__" = true) (k15 : PySem.W.keepIn K (.ref f15) = true)
    (a16 : PySem.W.nsIn K mainGlobals "_law_tells" = some (some (.ref f16))) (l16 : K.lookup f16 = some ⟨oc16, od16, .func (PySem.W.fnOf "_law_tells" "_law_tells" (defArgs s_law_tells) (defBody s_law_tells) (defScope s_law_tells) .none kV16 dc16 pm16 an16 cd16 ct16), sl16⟩) (c16 : PySem.W.codeIn K cd16 "_law_tells" = true) (k16 : PySem.W.keepIn K (.ref f16) = true)
    (a17 : PySem.W.nsIn K mainGlobals "law" = some (some (.ref f17))) (l17 : K.lookup f17 = some ⟨oc17, od17, .func (PySem.W.fnOf "law" "law" (defArgs s_law) (defBody s_law) (defScope s_law) .none kV17 dc17 pm17 an17 cd17 ct17), sl17⟩) (c17 : PySem.W.codeIn K cd17 "law" = true) (k17 : PySem.W.keepIn K (.ref f17) = true)
    (aC_Schema : PySem.W.nsIn K mainGlobals "Schema" = some (some (.ref C_Schema)))
    (pg_Schema : PySem.W.plainGet K C_Schema Str.empty = true)
    (hd_Schema : PySem.W.hasDictIn K C_Schema = true)
    (po_Schema : PySem.W.plainOver K C_Schema = true)
    (sa_Schema : PySem.W.findIn K (.ref C_Schema) "__setattr__" = some (some (.builtin "object.__setattr__")))
    (n_Schema_size : PySem.W.findIn K (.ref C_Schema) "size" = some none)
    (n_Schema_width : PySem.W.findIn K (.ref C_Schema) "width" = some none)
    (n_Schema_measure : PySem.W.findIn K (.ref C_Schema) "measure" = some none)
    (n_Schema_fields : PySem.W.findIn K (.ref C_Schema) "fields" = some none)
    (mk_Schema : PySem.W.makesIn K C_Schema = true)
    (in_Schema : PySem.W.findIn K (.ref C_Schema) "__init__" = some (some (.ref f7)))
    (if_Schema : PySem.W.isFn K (.ref f7) = true)
    (kc_Schema : PySem.W.keepIn K (.ref C_Schema) = true)
    (fm_Schema_kind_of : PySem.W.findIn K (.ref C_Schema) "kind_of" = some (some (.ref f14)))
    (im_Schema_kind_of : PySem.W.isFn K (.ref f14) = true)
    (fm_Schema___eq__ : PySem.W.findIn K (.ref C_Schema) "__eq__" = some (some (.ref f15)))
    (im_Schema___eq__ : PySem.W.isFn K (.ref f15) = true)
    (fp_Schema_least : PySem.W.findIn K (.ref C_Schema) "least" = some (some (.ref p_Schema_least)))
    (gp_Schema_least : PySem.W.specialIn K (.ref p_Schema_least) "__get__" = some (some (.builtin "property.__get__")))
    (tp_Schema_least : PySem.W.takesIn K (.ref p_Schema_least) = some true)
    (rp_Schema_least : PySem.W.recIn K p_Schema_least "property" = some (.ref f12 :: rest_Schema_least))
    (fp_Schema_greatest : PySem.W.findIn K (.ref C_Schema) "greatest" = some (some (.ref p_Schema_greatest)))
    (gp_Schema_greatest : PySem.W.specialIn K (.ref p_Schema_greatest) "__get__" = some (some (.builtin "property.__get__")))
    (tp_Schema_greatest : PySem.W.takesIn K (.ref p_Schema_greatest) = some true)
    (rp_Schema_greatest : PySem.W.recIn K p_Schema_greatest "property" = some (.ref f13 :: rest_Schema_greatest))
    (ha_Schema : PySem.W.findIn K (.ref C_Schema) "__class__" = some (some (.builtin "object.__class__")))
    (hm_Schema : PySem.W.mroIn K C_Schema (.type "object") = some true)
    {C_InvalidSchema : Addr}
    (aX_InvalidSchema : PySem.W.nsIn K mainGlobals "InvalidSchema" = some (some (.ref C_InvalidSchema)))
    (kx_InvalidSchema : PySem.W.keepIn K (.ref C_InvalidSchema) = true)
    (ex_InvalidSchema : PySem.W.excIn K C_InvalidSchema [.type "ValueError", .type "Exception", .type "BaseException", .type "object"] "ValueError.__new__" = true)
    (bx_InvalidSchema : PySem.W.subIn K (.ref C_InvalidSchema) (.type "BaseException") = some true)
    (tx_InvalidSchema : PySem.W.typeIn K (.ref C_InvalidSchema) = some (.type "type"))
    (ix_InvalidSchema : PySem.W.isClsIn K C_InvalidSchema = true)
    {C_SurenearError : Addr}
    (aX_SurenearError : PySem.W.nsIn K mainGlobals "SurenearError" = some (some (.ref C_SurenearError)))
    (kx_SurenearError : PySem.W.keepIn K (.ref C_SurenearError) = true)
    (ex_SurenearError : PySem.W.excIn K C_SurenearError [.type "ValueError", .type "Exception", .type "BaseException", .type "object"] "ValueError.__new__" = true)
    (bx_SurenearError : PySem.W.subIn K (.ref C_SurenearError) (.type "BaseException") = some true)
    (tx_SurenearError : PySem.W.typeIn K (.ref C_SurenearError) = some (.type "type"))
    (ix_SurenearError : PySem.W.isClsIn K C_SurenearError = true)
    (sx_InvalidSchema_InvalidSchema : PySem.W.subIn K (.ref C_InvalidSchema) (.ref C_InvalidSchema) = some true)
    (ic_Schema : PySem.W.isClsIn K C_Schema = true)
    (ty_Schema : PySem.W.typeIn K (.ref C_Schema) = some (.type "type"))
    (sb_tuple_Schema : PySem.W.subIn K (.type "tuple") (.ref C_Schema) = some false)
    (nf_Schema_tuple : PySem.W.subIn K (.type "tuple") (.ref C_Schema) = some false)
    (hn0 : PySem.W.specialIn K (.builtin "object.__class__") "__get__" = some (some (.builtin "getset_descriptor.__get__")))
    (ht0 : PySem.W.takesIn K (.builtin "object.__class__") = some true)
    {A_KINDS : Addr} {to_KINDS : Option Addr} {ti_KINDS : Array Value} {tn_KINDS : Nat} {ts_KINDS : Array (Option Value)} (z_KINDS : PySem.W.nsIn K mainGlobals "KINDS" = some (some (.ref A_KINDS))) (zl_KINDS : K.lookup A_KINDS = some ⟨.type "tuple", to_KINDS, .seq ti_KINDS tn_KINDS, ts_KINDS⟩) (zv_KINDS : Vals [.str "integer", .str "text", .str "flag"] ti_KINDS.toList) (zn_KINDS : ti_KINDS.size ≤ sizeLine)
    {A_MEASURES : Addr} {to_MEASURES : Option Addr} {ti_MEASURES : Array Value} {tn_MEASURES : Nat} {ts_MEASURES : Array (Option Value)} (z_MEASURES : PySem.W.nsIn K mainGlobals "MEASURES" = some (some (.ref A_MEASURES))) (zl_MEASURES : K.lookup A_MEASURES = some ⟨.type "tuple", to_MEASURES, .seq ti_MEASURES tn_MEASURES, ts_MEASURES⟩) (zv_MEASURES : Vals [.str "square", .str "dot", .str "bits"] ti_MEASURES.toList) (zn_MEASURES : ti_MEASURES.size ≤ sizeLine)
    {A_RESERVED : Addr} {to_RESERVED : Option Addr} {ti_RESERVED : Array Value} {tn_RESERVED : Nat} {ts_RESERVED : Array (Option Value)} (z_RESERVED : PySem.W.nsIn K mainGlobals "RESERVED" = some (some (.ref A_RESERVED))) (zl_RESERVED : K.lookup A_RESERVED = some ⟨.type "tuple", to_RESERVED, .seq ti_RESERVED tn_RESERVED, ts_RESERVED⟩) (zv_RESERVED : Vals [.str "every", .str "has", .str "in", .str "and", .str "or", .str "not", .str "true", .str "false"] ti_RESERVED.toList) (zn_RESERVED : ti_RESERVED.size ≤ sizeLine)
    {A_WIDTHS : Addr} {de_WIDTHS : Array DictEntry} {dn_WIDTHS : Nat} (z_WIDTHS : PySem.W.nsIn K mainGlobals "WIDTHS" = some (some (.ref A_WIDTHS))) (zl_WIDTHS : K.lookup A_WIDTHS = some ⟨.type "dict", none, .dict de_WIDTHS dn_WIDTHS, #[]⟩) (zk_WIDTHS : PySem.W.KeysLit w.params de_WIDTHS.toList) (zs_WIDTHS : (A_WIDTHS == sysModules) = false)
    {A_WIDTHS_bit : Addr} {to_WIDTHS_bit : Option Addr} {ti_WIDTHS_bit : Array Value} {tn_WIDTHS_bit : Nat} {ts_WIDTHS_bit : Array (Option Value)} (z_WIDTHS_bit : PySem.W.nsIn K A_WIDTHS "bit" = some (some (.ref A_WIDTHS_bit))) (zl_WIDTHS_bit : K.lookup A_WIDTHS_bit = some ⟨.type "tuple", to_WIDTHS_bit, .seq ti_WIDTHS_bit tn_WIDTHS_bit, ts_WIDTHS_bit⟩) (zv_WIDTHS_bit : Vals [.int (0), .int (1)] ti_WIDTHS_bit.toList) (zn_WIDTHS_bit : ti_WIDTHS_bit.size ≤ sizeLine)
    {A_WIDTHS_small : Addr} {to_WIDTHS_small : Option Addr} {ti_WIDTHS_small : Array Value} {tn_WIDTHS_small : Nat} {ts_WIDTHS_small : Array (Option Value)} (z_WIDTHS_small : PySem.W.nsIn K A_WIDTHS "small" = some (some (.ref A_WIDTHS_small))) (zl_WIDTHS_small : K.lookup A_WIDTHS_small = some ⟨.type "tuple", to_WIDTHS_small, .seq ti_WIDTHS_small tn_WIDTHS_small, ts_WIDTHS_small⟩) (zv_WIDTHS_small : Vals [.int (-128), .int (127)] ti_WIDTHS_small.toList) (zn_WIDTHS_small : ti_WIDTHS_small.size ≤ sizeLine)
    {A_WIDTHS_wide : Addr} {to_WIDTHS_wide : Option Addr} {ti_WIDTHS_wide : Array Value} {tn_WIDTHS_wide : Nat} {ts_WIDTHS_wide : Array (Option Value)} (z_WIDTHS_wide : PySem.W.nsIn K A_WIDTHS "wide" = some (some (.ref A_WIDTHS_wide))) (zl_WIDTHS_wide : K.lookup A_WIDTHS_wide = some ⟨.type "tuple", to_WIDTHS_wide, .seq ti_WIDTHS_wide tn_WIDTHS_wide, ts_WIDTHS_wide⟩) (zv_WIDTHS_wide : Vals [.int (-32768), .int (32767)] ti_WIDTHS_wide.toList) (zn_WIDTHS_wide : ti_WIDTHS_wide.size ≤ sizeLine)
    (z_WIDTHS_huge : PySem.W.nsIn K A_WIDTHS "huge" = some none)
    (z_all : PySem.W.nsIn K mainGlobals "all" = some none)
    (z_int : PySem.W.nsIn K mainGlobals "int" = some none)
    (z_isinstance : PySem.W.nsIn K mainGlobals "isinstance" = some none)
    (z_len : PySem.W.nsIn K mainGlobals "len" = some none)
    (z_list : PySem.W.nsIn K mainGlobals "list" = some none)
    (z_range : PySem.W.nsIn K mainGlobals "range" = some none)
    (z_set : PySem.W.nsIn K mainGlobals "set" = some none)
    (z_tuple : PySem.W.nsIn K mainGlobals "tuple" = some none)
    : ∃ fd : FuncData, (∀ (s : Shared) (v : Value), BindsTo s fd ⟨[v], []⟩ [("script", v)]) ∧ ∀ base : Heap, K.In base → base.Ns mainGlobals mg → FnOk l.prog w K mg base CX0 7 fa fd ["script"] (sp_law K) := by
  have e := hfa.symm.trans (PySem.W.mg_of X G a17)
  cases e
  have F0 := fun_mk (st := s_law_row) l0 c0 k0
  have b0 := F0.binds (ps := ["script", "k"]) fun _ _ _ _ _ _ us hl => match us, hl with | [_, _], _ => rfl
  have F1 := fun_mk (st := s_law_next) l1 c1 k1
  have b1 := F1.binds (ps := ["state", "many"]) fun _ _ _ _ _ _ us hl => match us, hl with | [_, _], _ => rfl
  have F2 := fun_mk (st := s_is_letter) l2 c2 k2
  have b2 := F2.binds (ps := ["char"]) fun _ _ _ _ _ _ us hl => match us, hl with | [_], _ => rfl
  have F3 := fun_mk (st := s_is_digit) l3 c3 k3
  have b3 := F3.binds (ps := ["char"]) fun _ _ _ _ _ _ us hl => match us, hl with | [_], _ => rfl
  have F4 := fun_mk (st := s_is_word) l4 c4 k4
  have b4 := F4.binds (ps := ["text"]) fun _ _ _ _ _ _ us hl => match us, hl with | [_], _ => rfl
  have F5 := fun_mk (st := s_check_vectors) l5 c5 k5
  have b5 := F5.binds (ps := ["size", "width", "measure"]) fun _ _ _ _ _ _ us hl => match us, hl with | [_, _, _], _ => rfl
  have F6 := fun_mk (st := s_check_fields) l6 c6 k6
  have b6 := F6.binds (ps := ["fields"]) fun _ _ _ _ _ _ us hl => match us, hl with | [_], _ => rfl
  have F7 : FunD K "__init__" "Schema.__init__" (defArgs s_Schema___init__) (defBody s_Schema___init__) (defScope s_Schema___init__) [] [("width", .str "small"), ("measure", .str "square"), ("fields", .ref E7_fields)] f7 _ := ⟨⟨_, _, _, _, _, _, _, _, _, _, rfl, l7, c7, .inl ⟨rfl, rfl⟩, .inr ⟨DK7, rfl, fun q hq => by
    simp only [List.mem_cons, List.not_mem_nil, or_false] at hq
    rcases hq with rfl | rfl | rfl
    · exact ⟨_, n7_width, ⟨_, rfl⟩⟩
    · exact ⟨_, n7_measure, ⟨_, rfl⟩⟩
    · exact ⟨_, n7_fields, rfl⟩⟩⟩, k7⟩
  obtain ⟨mv7, kb7⟩ := F7.kbinds0 (ps := ["self", "size", "width", "measure", "fields"]) 2 ["width", "measure", "fields"] [] (fun us mv ws => us ++ ws) (by intro h; cases h) (fun q h => by cases h) (fun r1 _ r3 => r1.append r3) (fun D doc pm an cdv ct us mv ws l1 l2 l3 => match us, mv, ws, l1, l2, l3 with | [_, _], [], [_, _, _], _, _, _ => rfl)
  obtain ⟨ds7, v7, b7⟩ := F7.binds0 (ps := ["self", "size", "width", "measure", "fields"]) 2 (by intro h; cases h) rfl (fun D doc pm an cdv ct us ks l1 l2 => match us, ks, l1, l2 with | [_, _], [_, _, _], _, _ => ⟨_, _, _, _, _, _, rfl, rfl, ⟨_, _, _, _, _, _, rfl, rfl, ⟨_, _, _, _, _, _, rfl, rfl, rfl⟩⟩⟩)
  have F8 := fun_mk (st := s_law_good_name) l8 c8 k8
  have b8 := F8.binds (ps := ["name"]) fun _ _ _ _ _ _ us hl => match us, hl with | [_], _ => rfl
  have F9 := fun_mk (st := s_law_draw) l9 c9 k9
  have b9 := F9.binds (ps := ["state"]) fun _ _ _ _ _ _ us hl => match us, hl with | [_], _ => rfl
  have F10 := fun_mk (st := s_law_valid) l10 c10 k10
  have b10 := F10.binds (ps := ["size", "width", "measure", "fields"]) fun _ _ _ _ _ _ us hl => match us, hl with | [_, _, _, _], _ => rfl
  have F11 := fun_mk (st := s_law_made) l11 c11 k11
  have b11 := F11.binds (ps := ["drawn"]) fun _ _ _ _ _ _ us hl => match us, hl with | [_], _ => rfl
  have F12 := fun_mk (st := s_Schema_least) l12 c12 k12
  have b12 := F12.binds (ps := ["self"]) fun _ _ _ _ _ _ us hl => match us, hl with | [_], _ => rfl
  have F13 := fun_mk (st := s_Schema_greatest) l13 c13 k13
  have b13 := F13.binds (ps := ["self"]) fun _ _ _ _ _ _ us hl => match us, hl with | [_], _ => rfl
  have F14 := fun_mk (st := s_Schema_kind_of) l14 c14 k14
  have b14 := F14.binds (ps := ["self", "name"]) fun _ _ _ _ _ _ us hl => match us, hl with | [_, _], _ => rfl
  have F15 := fun_mk (st := s_Schema___eq__) l15 c15 k15
  have b15 := F15.binds (ps := ["self", "other"]) fun _ _ _ _ _ _ us hl => match us, hl with | [_, _], _ => rfl
  have F16 := fun_mk (st := s_law_tells) l16 c16 k16
  have b16 := F16.binds (ps := ["schema", "drawn"]) fun _ _ _ _ _ _ us hl => match us, hl with | [_, _], _ => rfl
  have F17 := fun_mk (st := s_law) l17 c17 k17
  have b17 := F17.binds (ps := ["script"]) fun _ _ _ _ _ _ us hl => match us, hl with | [_], _ => rfl
  let T : Txt w K mg := ⟨_, _, F0, b0, PySem.W.mg_of X G a0,
    _, _, F1, b1, PySem.W.mg_of X G a1,
    _, _, F2, b2, PySem.W.mg_of X G a2,
    _, _, F3, b3, PySem.W.mg_of X G a3,
    _, _, F4, b4, PySem.W.mg_of X G a4,
    _, _, F5, b5, PySem.W.mg_of X G a5,
    _, _, F6, b6, PySem.W.mg_of X G a6,
    _, _, _, fun H => .inr ⟨_, _, _, t7_fields, rfl, rfl, by decide, .nil⟩, F7, kb7, _, v7, b7,
    _, _, F8, b8, PySem.W.mg_of X G a8,
    _, _, F9, b9, PySem.W.mg_of X G a9,
    _, _, F10, b10, PySem.W.mg_of X G a10,
    _, _, F11, b11, PySem.W.mg_of X G a11,
    _, _, F12, b12,
    _, _, F13, b13,
    _, _, F14, b14,
    _, _, F15, b15,
    _, _, F16, b16, PySem.W.mg_of X G a16,
    _, _, F17, b17, PySem.W.mg_of X G a17,
    _, PySem.W.mg_of X G aX_InvalidSchema, kx_InvalidSchema, ex_InvalidSchema, bx_InvalidSchema, tx_InvalidSchema,
    _, PySem.W.mg_of X G aX_SurenearError, kx_SurenearError, ex_SurenearError, bx_SurenearError, tx_SurenearError,
    exm_any bx_InvalidSchema (fun c e => by cases e; exact ix_InvalidSchema) tx_InvalidSchema sx_InvalidSchema_InvalidSchema ⟨_, rfl⟩,
    _, ⟨pg_Schema, hd_Schema, po_Schema, sa_Schema⟩, PySem.W.mg_of X G aC_Schema, n_Schema_size, n_Schema_width, n_Schema_measure, n_Schema_fields, ⟨mk_Schema, in_Schema, if_Schema, kc_Schema⟩, ⟨fm_Schema_kind_of, im_Schema_kind_of, k14⟩, ⟨fm_Schema___eq__, im_Schema___eq__, k15⟩, _, ⟨fp_Schema_least, gp_Schema_least, tp_Schema_least, ⟨_, rp_Schema_least⟩⟩, _, ⟨fp_Schema_greatest, gp_Schema_greatest, tp_Schema_greatest, ⟨_, rp_Schema_greatest⟩⟩, ha_Schema, hm_Schema,
    kit_self,
    kit_sub ic_Schema ty_Schema sb_tuple_Schema (by rfl),
    nf_self,
    nf_sub nf_Schema_tuple,
    hn0,
    ht0,
    _, PySem.W.mg_of X G z_KINDS, fun H => .inr ⟨_, _, _, zl_KINDS, rfl, rfl, zn_KINDS, zv_KINDS⟩,
    _, PySem.W.mg_of X G z_MEASURES, fun H => .inr ⟨_, _, _, zl_MEASURES, rfl, rfl, zn_MEASURES, zv_MEASURES⟩,
    _, PySem.W.mg_of X G z_RESERVED, fun H => .inr ⟨_, _, _, zl_RESERVED, rfl, rfl, zn_RESERVED, zv_RESERVED⟩,
    _, PySem.W.mg_of X G z_WIDTHS, _, _, ⟨zl_WIDTHS, zk_WIDTHS, zs_WIDTHS⟩, _, z_WIDTHS_bit, fun H => .inr ⟨_, _, _, zl_WIDTHS_bit, rfl, rfl, zn_WIDTHS_bit, zv_WIDTHS_bit⟩, _, z_WIDTHS_small, fun H => .inr ⟨_, _, _, zl_WIDTHS_small, rfl, rfl, zn_WIDTHS_small, zv_WIDTHS_small⟩, _, z_WIDTHS_wide, fun H => .inr ⟨_, _, _, zl_WIDTHS_wide, rfl, rfl, zn_WIDTHS_wide, zv_WIDTHS_wide⟩, z_WIDTHS_huge,
    PySem.W.mg_none_of X G z_all,
    PySem.W.mg_none_of X G z_int,
    PySem.W.mg_none_of X G z_isinstance,
    PySem.W.mg_none_of X G z_len,
    PySem.W.mg_none_of X G z_list,
    PySem.W.mg_none_of X G z_range,
    PySem.W.mg_none_of X G z_set,
    PySem.W.mg_none_of X G z_tuple⟩
  exact ⟨_, fun s v => .of_eq rfl, fun base _ _ => ok_law T⟩
end K05
open PySem PySem.W PyProof.Rows
set_option maxRecDepth 100000 in
set_option maxHeartbeats 0 in
theorem PySem.Challenge.cw_surenear_k05_schemas_holds : PySem.Challenge.rw_surenear_k05_schemas.Holds := by
  w_on; o_law; k_head; (case hw => w_witness2)
  k_fill
  refine L2.walk_of (l := PySem.Challenge.rw_surenear_k05_schemas) (n := 63) (k := 7) (x := "script") (CX := fun _ => L2.CX0) (sp := fun w => K05.sp_law _) rfl (by decide) rfl ⟨rfl, by decide, by decide⟩ (fun w h Y => PySem.W.kIn_of Y) ?F (fun _ _ a ns hl _ hS => ⟨a, ns, rfl, hS, hl, fun _ => rfl⟩) (fun _ _ _ _ _ h => h)
  case F =>
    intro w mg fa h KX G hmg
    refine' K05.all_mk KX G hmg (a0 := ?a0) (l0 := ?l0) (c0 := ?c0) (k0 := ?k0) (a1 := ?a1) (l1 := ?l1) (c1 := ?c1) (k1 := ?k1) (a2 := ?a2) (l2 := ?l2) (c2 := ?c2) (k2 := ?k2) (a3 := ?a3) (l3 := ?l3) (c3 := ?c3) (k3 := ?k3) (a4 := ?a4) (l4 := ?l4) (c4 := ?c4) (k4 := ?k4) (a5 := ?a5) (l5 := ?l5) (c5 := ?c5) (k5 := ?k5) (a6 := ?a6) (l6 := ?l6) (c6 := ?c6) (k6 := ?k6) (a8 := ?a8) (l8 := ?l8) (c8 := ?c8) (k8 := ?k8) (a9 := ?a9) (l9 := ?l9) (c9 := ?c9) (k9 := ?k9) (a10 := ?a10) (l10 := ?l10) (c10 := ?c10) (k10 := ?k10) (a11 := ?a11) (l11 := ?l11) (c11 := ?c11) (k11 := ?k11) (a16 := ?a16) (l16 := ?l16) (c16 := ?c16) (k16 := ?k16) (a17 := ?a17) (l17 := ?l17) (c17 := ?c17) (k17 := ?k17) (aC_Schema := ?aC_Schema) (pg_Schema := ?pg_Schema) (hd_Schema := ?hd_Schema) (po_Schema := ?po_Schema) (sa_Schema := ?sa_Schema) (n_Schema_size := ?n_Schema_size) (n_Schema_width := ?n_Schema_width) (n_Schema_measure := ?n_Schema_measure) (n_Schema_fields := ?n_Schema_fields) (mk_Schema := ?mk_Schema) (in_Schema := ?in_Schema) (if_Schema := ?if_Schema) (kc_Schema := ?kc_Schema) (fm_Schema_kind_of := ?fm_Schema_kind_of) (im_Schema_kind_of := ?im_Schema_kind_of) (fm_Schema___eq__ := ?fm_Schema___eq__) (im_Schema___eq__ := ?im_Schema___eq__) (fp_Schema_least := ?fp_Schema_least) (gp_Schema_least := ?gp_Schema_least) (tp_Schema_least := ?tp_Schema_least) (rp_Schema_least := ?rp_Schema_least) (fp_Schema_greatest := ?fp_Schema_greatest) (gp_Schema_greatest := ?gp_Schema_greatest) (tp_Schema_greatest := ?tp_Schema_greatest) (rp_Schema_greatest := ?rp_Schema_greatest) (ha_Schema := ?ha_Schema) (hm_Schema := ?hm_Schema) (aX_InvalidSchema := ?aX_InvalidSchema) (kx_InvalidSchema := ?kx_InvalidSchema) (bx_InvalidSchema := ?bx_InvalidSchema) (tx_InvalidSchema := ?tx_InvalidSchema) (ix_InvalidSchema := ?ix_InvalidSchema) (aX_SurenearError := ?aX_SurenearError) (kx_SurenearError := ?kx_SurenearError) (bx_SurenearError := ?bx_SurenearError) (tx_SurenearError := ?tx_SurenearError) (ix_SurenearError := ?ix_SurenearError) (sx_InvalidSchema_InvalidSchema := ?sx_InvalidSchema_InvalidSchema) (ic_Schema := ?ic_Schema) (ty_Schema := ?ty_Schema) (sb_tuple_Schema := ?sb_tuple_Schema) (nf_Schema_tuple := ?nf_Schema_tuple) (hn0 := ?hn0) (ht0 := ?ht0) (l7 := ?l7) (n7_width := ?n7_width) (n7_measure := ?n7_measure) (n7_fields := ?n7_fields) (t7_fields := ?t7_fields) (c7 := ?c7) (k7 := ?k7) (l12 := ?l12) (c12 := ?c12) (k12 := ?k12) (l13 := ?l13) (c13 := ?c13) (k13 := ?k13) (l14 := ?l14) (c14 := ?c14) (k14 := ?k14) (l15 := ?l15) (c15 := ?c15) (k15 := ?k15) (z_KINDS := ?z_KINDS) (zl_KINDS := ?zl_KINDS) (z_MEASURES := ?z_MEASURES) (zl_MEASURES := ?zl_MEASURES) (z_RESERVED := ?z_RESERVED) (zl_RESERVED := ?zl_RESERVED) (z_WIDTHS := ?z_WIDTHS) (zl_WIDTHS := ?zl_WIDTHS) (z_WIDTHS_bit := ?z_WIDTHS_bit) (zl_WIDTHS_bit := ?zl_WIDTHS_bit) (z_WIDTHS_small := ?z_WIDTHS_small) (zl_WIDTHS_small := ?zl_WIDTHS_small) (z_WIDTHS_wide := ?z_WIDTHS_wide) (zl_WIDTHS_wide := ?zl_WIDTHS_wide) (z_WIDTHS_huge := ?z_WIDTHS_huge) (z_all := ?z_all) (z_int := ?z_int) (z_isinstance := ?z_isinstance) (z_len := ?z_len) (z_list := ?z_list) (z_range := ?z_range) (z_set := ?z_set) (z_tuple := ?z_tuple) (ex_InvalidSchema := ?ex_InvalidSchema) (ex_SurenearError := ?ex_SurenearError) (zv_KINDS := ?zv_KINDS) (zn_KINDS := ?zn_KINDS) (zv_MEASURES := ?zv_MEASURES) (zn_MEASURES := ?zn_MEASURES) (zv_RESERVED := ?zv_RESERVED) (zn_RESERVED := ?zn_RESERVED) (zk_WIDTHS := ?zk_WIDTHS) (zs_WIDTHS := ?zs_WIDTHS) (zv_WIDTHS_bit := ?zv_WIDTHS_bit) (zn_WIDTHS_bit := ?zn_WIDTHS_bit) (zv_WIDTHS_small := ?zv_WIDTHS_small) (zn_WIDTHS_small := ?zn_WIDTHS_small) (zv_WIDTHS_wide := ?zv_WIDTHS_wide) (zn_WIDTHS_wide := ?zn_WIDTHS_wide)
    (case a0 => k_is); (case l0 => k_is); (case c0 => k_is); (case k0 => k_is); (case a1 => k_is); (case l1 => k_is); (case c1 => k_is); (case k1 => k_is); (case a2 => k_is); (case l2 => k_is); (case c2 => k_is); (case k2 => k_is); (case a3 => k_is); (case l3 => k_is); (case c3 => k_is); (case k3 => k_is); (case a4 => k_is); (case l4 => k_is); (case c4 => k_is); (case k4 => k_is); (case a5 => k_is); (case l5 => k_is); (case c5 => k_is); (case k5 => k_is); (case a6 => k_is); (case l6 => k_is); (case c6 => k_is); (case k6 => k_is); (case a8 => k_is); (case l8 => k_is); (case c8 => k_is); (case k8 => k_is); (case a9 => k_is); (case l9 => k_is); (case c9 => k_is); (case k9 => k_is); (case a10 => k_is); (case l10 => k_is); (case c10 => k_is); (case k10 => k_is); (case a11 => k_is); (case l11 => k_is); (case c11 => k_is); (case k11 => k_is); (case a16 => k_is); (case l16 => k_is); (case c16 => k_is); (case k16 => k_is); (case a17 => k_is); (case l17 => k_is); (case c17 => k_is); (case k17 => k_is); (case aC_Schema => k_is); (case pg_Schema => k_is); (case hd_Schema => k_is); (case po_Schema => k_is); (case sa_Schema => k_is); (case n_Schema_size => k_is); (case n_Schema_width => k_is); (case n_Schema_measure => k_is); (case n_Schema_fields => k_is); (case mk_Schema => k_is); (case in_Schema => k_is); (case if_Schema => k_is); (case kc_Schema => k_is); (case fm_Schema_kind_of => k_is); (case im_Schema_kind_of => k_is); (case fm_Schema___eq__ => k_is); (case im_Schema___eq__ => k_is); (case fp_Schema_least => k_is); (case gp_Schema_least => k_is); (case tp_Schema_least => k_is); (case rp_Schema_least => k_is); (case fp_Schema_greatest => k_is); (case gp_Schema_greatest => k_is); (case tp_Schema_greatest => k_is); (case rp_Schema_greatest => k_is); (case ha_Schema => k_is); (case hm_Schema => k_is); (case aX_InvalidSchema => k_is); (case kx_InvalidSchema => k_is); (case bx_InvalidSchema => k_is); (case tx_InvalidSchema => k_is); (case ix_InvalidSchema => k_is); (case aX_SurenearError => k_is); (case kx_SurenearError => k_is); (case bx_SurenearError => k_is); (case tx_SurenearError => k_is); (case ix_SurenearError => k_is); (case sx_InvalidSchema_InvalidSchema => k_is); (case ic_Schema => k_is); (case ty_Schema => k_is); (case sb_tuple_Schema => k_is); (case nf_Schema_tuple => k_is); (case hn0 => k_is); (case ht0 => k_is); (case l7 => k_is); (case n7_width => k_is); (case n7_measure => k_is); (case n7_fields => k_is); (case t7_fields => k_is); (case c7 => k_is); (case k7 => k_is); (case l12 => k_is); (case c12 => k_is); (case k12 => k_is); (case l13 => k_is); (case c13 => k_is); (case k13 => k_is); (case l14 => k_is); (case c14 => k_is); (case k14 => k_is); (case l15 => k_is); (case c15 => k_is); (case k15 => k_is); (case z_KINDS => k_is); (case zl_KINDS => k_is); (case z_MEASURES => k_is); (case zl_MEASURES => k_is); (case z_RESERVED => k_is); (case zl_RESERVED => k_is); (case z_WIDTHS => k_is); (case zl_WIDTHS => k_is); (case z_WIDTHS_bit => k_is); (case zl_WIDTHS_bit => k_is); (case z_WIDTHS_small => k_is); (case zl_WIDTHS_small => k_is); (case z_WIDTHS_wide => k_is); (case zl_WIDTHS_wide => k_is); (case z_WIDTHS_huge => k_is); (case z_all => k_is); (case z_int => k_is); (case z_isinstance => k_is); (case z_len => k_is); (case z_list => k_is); (case z_range => k_is); (case z_set => k_is); (case z_tuple => k_is)
    (case zv_KINDS => exact .cons ⟨_, rfl⟩ (.cons ⟨_, rfl⟩ (.cons ⟨_, rfl⟩ .nil))); (case zn_KINDS => decide); (case zv_MEASURES => exact .cons ⟨_, rfl⟩ (.cons ⟨_, rfl⟩ (.cons ⟨_, rfl⟩ .nil))); (case zn_MEASURES => decide); (case zv_RESERVED => exact .cons ⟨_, rfl⟩ (.cons ⟨_, rfl⟩ (.cons ⟨_, rfl⟩ (.cons ⟨_, rfl⟩ (.cons ⟨_, rfl⟩ (.cons ⟨_, rfl⟩ (.cons ⟨_, rfl⟩ (.cons ⟨_, rfl⟩ .nil)))))))); (case zn_RESERVED => decide); (case zk_WIDTHS => exact ⟨⟨_, _, rfl, rfl⟩, ⟨⟨_, _, rfl, rfl⟩, ⟨⟨_, _, rfl, rfl⟩, trivial⟩⟩⟩); (case zs_WIDTHS => first | rfl | decide); (case zv_WIDTHS_bit => exact .cons ⟨_, rfl⟩ (.cons ⟨_, rfl⟩ .nil)); (case zn_WIDTHS_bit => decide); (case zv_WIDTHS_small => exact .cons ⟨_, rfl⟩ (.cons ⟨_, rfl⟩ .nil)); (case zn_WIDTHS_small => decide); (case zv_WIDTHS_wide => exact .cons ⟨_, rfl⟩ (.cons ⟨_, rfl⟩ .nil)); (case zn_WIDTHS_wide => decide)
    (case ex_InvalidSchema => k_exc); (case ex_SurenearError => k_exc)
