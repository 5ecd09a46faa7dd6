import PyProof.Rows.All
import Wide.All
import OpenK.AllK
import Wide.FinOn
import HandS.ForMost
import HandS.Codes
import HandS.Wide
import HandS.IsInst
import HandS.Walk
import KE.KEqSeq
import PySem.Challenge.RW_surenear_k01_vectors
set_option Elab.async false
set_option linter.all false
set_option maxRecDepth 100000
namespace K01
open PySem PySem.Spec PyProof.Rows L2
open C8 (tCut pss_cut)
/-! the text by places -/
def topS (i : Nat) : Stmt := PySem.Challenge.pw_surenear_k01_vectors.main.body.getD i (.Pass ⟨0, 0, 0, 0⟩)
abbrev s_law_row : Stmt := (topS 6)
abbrev s_law_next : Stmt := (topS 7)
abbrev s_law_is_integer : Stmt := (topS 8)
abbrev s_inner : Stmt := (topS 1)
abbrev s_distance : Stmt := (topS 2)
abbrev s_differing : Stmt := (topS 3)
abbrev s_norm : Stmt := (topS 4)
abbrev s_law_vector : Stmt := (topS 9)
abbrev s_law : Stmt := (topS 10)
theorem sc_law_row : FnScope ["script", "k", "cell", "a", "b", "c"] ["script", "k"] (defScope s_law_row) := ⟨rfl, rfl, rfl, by decide +kernel, rfl, by decide +kernel, by decide +kernel⟩
theorem sc_law_next : FnScope ["state", "many", "drawn"] ["state", "many"] (defScope s_law_next) := ⟨rfl, rfl, rfl, by decide +kernel, rfl, by decide +kernel, by decide +kernel⟩
theorem sc_law_is_integer : FnScope ["actual"] ["actual"] (defScope s_law_is_integer) := ⟨rfl, rfl, rfl, by decide +kernel, rfl, by decide +kernel, by decide +kernel⟩
theorem sc_inner : FnScope ["a", "b", "x", "y"] ["a", "b"] (defScope s_inner) := ⟨rfl, rfl, rfl, by decide +kernel, rfl, by decide +kernel, by decide +kernel⟩
theorem sc_distance : FnScope ["a", "b", "x", "y"] ["a", "b"] (defScope s_distance) := ⟨rfl, rfl, rfl, by decide +kernel, rfl, by decide +kernel, by decide +kernel⟩
theorem sc_differing : FnScope ["a", "b", "x", "y"] ["a", "b"] (defScope s_differing) := ⟨rfl, rfl, rfl, by decide +kernel, rfl, by decide +kernel, by decide +kernel⟩
theorem sc_norm : FnScope ["a"] ["a"] (defScope s_norm) := ⟨rfl, rfl, rfl, by decide +kernel, rfl, by decide +kernel, by decide +kernel⟩
theorem sc_law_vector : FnScope ["state", "size", "vector", "k", "number"] ["state", "size"] (defScope s_law_vector) := ⟨rfl, rfl, rfl, by decide +kernel, rfl, by decide +kernel, by decide +kernel⟩
theorem sc_law : FnScope ["script", "state", "turn", "size", "a", "b", "k", "due", "one", "two", "actual"] ["script"] (defScope s_law) := ⟨rfl, rfl, rfl, by decide +kernel, rfl, by decide +kernel, by decide +kernel⟩
/-! the mathematics -/

/-- the state of the draws stands at st -/
def StAt (H : Hp) (st sc : Addr) : Prop := ∃ (ns : List Int) (k x : Int), H st = some (.lst [.ref sc, .int k, .int x]) ∧ H sc = some (.lst (ns.map V.int)) ∧ 0 ≤ k ∧ 0 ≤ x ∧ ns.length ≤ 63
/-- all but st is as it was -/
def Oth (st : Addr) (H H' : Hp) : Prop := ∀ b, b ≠ st → H' b = H b
theorem Oth.refl (st : Addr) (H : Hp) : Oth st H H := fun _ _ => rfl
theorem Oth.trans {st : Addr} {H H1 H2 : Hp} (a : Oth st H H1) (b : Oth st H1 H2) : Oth st H H2 := fun c h => (b c h).trans (a c h)
theorem qT {Q : VK} {H : Hp} {c : Prop} [Decidable c] (h : c) (q : Q (.bl true) H) : Q (.bl (decide c)) H := by
  rw [decide_eq_true h]
  exact q
theorem qF {Q : VK} {H : Hp} {c : Prop} [Decidable c] (h : ¬ c) (q : Q (.bl false) H) : Q (.bl (decide c)) H := by
  rw [decide_eq_false h]
  exact q
theorem ixN_nat {n j : Nat} (h : j < n) : ixN n (j : Int) = some j := by
  unfold ixN
  rw [if_pos (by omega), if_pos (by omega)]
  simp
theorem item_map {ns : List Int} {k : Int} (h0 : 0 ≤ k) (h1 : k < ns.length) : ∃ c, atI (ns.map V.int) k = some (.int c) := by
  have hj : k.toNat < ns.length := by omega
  refine ⟨ns[k.toNat], at_of (j := k.toNat) (by omega) ?_⟩
  rw [List.getElem?_map, List.getElem?_eq_getElem hj]
  rfl

/-- what was tracked is so still, but for what stands at st -/
def Fr (st : Addr) (H H' : Hp) : Prop := ∀ b o, H b = some o → b ≠ st → H' b = some o
theorem Fr.refl (st : Addr) (H : Hp) : Fr st H H := fun _ _ h _ => h
theorem Fr.trans {st : Addr} {H H1 H2 : Hp} (a : Fr st H H1) (b : Fr st H1 H2) : Fr st H H2 := fun c o h n => b c o (a c o h n) n
theorem Oth.fr {st : Addr} {H H' : Hp} (h : Oth st H H') : Fr st H H' := fun b _ e n => (h b n).trans e
theorem Fr.new {st : Addr} {H : Hp} {p : Addr} {o : HO} (h : H p = none) : Fr st H (upd H p o) := fun b u e _ => by
  rw [upd_ne (ne_of_none e h)]
  exact e
theorem Fr.set {st : Addr} {H H' : Hp} {p : Addr} {o : HO} (f : Fr st H H') (h : H p = none) : Fr st H (upd H' p o) := fun b u e n => by
  rw [upd_ne (ne_of_none e h)]
  exact f b u e n
theorem Fr.lst {st : Addr} {H H' : Hp} (f : Fr st H H') {b : Addr} {o : HO} (e : H b = some o) (n : b ≠ st) : H' b = some o := f b o e n
/-- a list of integers is not the state -/
theorem st_ne {H : Hp} {st b sc : Addr} (hS : StAt H st sc) {xs : List Int} (h : H b = some (.lst (xs.map V.int))) : b ≠ st := fun e => by
  obtain ⟨ns, k, x, h1, _⟩ := hS
  rw [e, h1] at h
  have z := HO.lst.inj (Option.some.inj h)
  cases xs with
  | nil => cases z
  | cons y r => cases (List.cons.inj z).1
theorem st_new {H : Hp} {st b sc : Addr} (hS : StAt H st sc) (h : H b = none) : b ≠ st := fun e => by
  obtain ⟨ns, k, x, h1, _⟩ := hS
  rw [e, h1] at h
  cases h
/-- the state's own list of the script stands apart from all that is new -/
theorem StAt.new {H : Hp} {st p sc : Addr} {o : HO} (hS : StAt H st sc) (hn : H p = none) : StAt (upd H p o) st sc := by
  obtain ⟨ns, k, x, h1, h2, k0, x0, hl⟩ := hS
  exact ⟨ns, k, x, by rw [upd_ne (ne_of_none h1 hn)]; exact h1, by rw [upd_ne (ne_of_none h2 hn)]; exact h2, k0, x0, hl⟩
theorem StAt.set {H H' : Hp} {st p sc : Addr} {o : HO} (hS' : StAt H' st sc) (hS : StAt H st sc) (hn : H p = none) : StAt (upd H' p o) st sc := by
  obtain ⟨ns, k, x, h1, h2, k0, x0, hl⟩ := hS
  obtain ⟨ns', k', x', h1', h2', k0', x0', hl'⟩ := hS'
  exact ⟨ns', k', x', by rw [upd_ne (ne_of_none h1 hn)]; exact h1', by rw [upd_ne (ne_of_none h2 hn)]; exact h2', k0', x0', hl'⟩
def Bd (n : Int) (xs : List Int) : Prop := ∀ z ∈ xs, -n ≤ z ∧ z ≤ n
theorem Bd.at {n : Int} {xs : List Int} (h : Bd n xs) {i : Nat} {z : Int} (e : xs[i]? = some z) : -n ≤ z ∧ z ≤ n := h z (List.mem_of_getElem? e)
def dist : List Int → List Int → Int
  | x :: xs, y :: ys => (x - y) * (x - y) + dist xs ys
  | _, _ => 0
theorem sq_nn (x : Int) : 0 ≤ x * x := by
  rcases Int.le_total 0 x with h | h
  · exact Int.mul_nonneg h h
  · have := Int.mul_nonneg (Int.neg_nonneg_of_nonpos h) (Int.neg_nonneg_of_nonpos h)
    rwa [Int.neg_mul_neg] at this
theorem dist_nn : ∀ xs ys : List Int, 0 ≤ dist xs ys
  | [], _ => by unfold dist; exact Int.le_refl 0
  | _ :: _, [] => by unfold dist; exact Int.le_refl 0
  | x :: xs, y :: ys => by
    unfold dist
    have := dist_nn xs ys
    have := sq_nn (x - y)
    omega
theorem dist_take : ∀ {xs ys : List Int} {i : Nat} {x y : Int}, xs[i]? = some x → ys[i]? = some y → dist (xs.take (i + 1)) (ys.take (i + 1)) = dist (xs.take i) (ys.take i) + (x - y) * (x - y)
  | [], _, _, _, _, h, _ => by simp at h
  | _ :: _, [], _, _, _, _, h => by simp at h
  | a :: r, b :: t, 0, x, y, h, h2 => by
    have e1 : a = x := Option.some.inj h
    have e2 : b = y := Option.some.inj h2
    subst e1 e2
    simp [dist]
  | a :: r, b :: t, i + 1, x, y, h, h2 => by
    have ih := dist_take (xs := r) (ys := t) (i := i) (x := x) (y := y) h h2
    show (a - b) * (a - b) + dist (r.take (i + 1)) (t.take (i + 1)) = (a - b) * (a - b) + dist (r.take i) (t.take i) + (x - y) * (x - y)
    rw [ih]
    omega
theorem sq_le {x n : Int} (h1 : -n ≤ x) (h2 : x ≤ n) : x * x ≤ n * n := by
  have a : 0 ≤ n - x := by omega
  have b : 0 ≤ n + x := by omega
  have c := Int.mul_nonneg a b
  have e : (n - x) * (n + x) = n * n - x * x := by grind
  omega
theorem dist_le {n : Int} : ∀ {xs ys : List Int}, Bd n xs → Bd n ys → dist xs ys ≤ xs.length * (4 * (n * n))
  | [], _, _, _ => by simp [dist]
  | x :: xs, [], _, _ => by
    unfold dist
    exact Int.mul_nonneg (Int.natCast_nonneg _) (Int.mul_nonneg (by decide) (sq_nn n))
  | x :: xs, y :: ys, hx, hy => by
    have ih := dist_le (n := n) (xs := xs) (ys := ys) (fun z h => hx z (List.mem_cons_of_mem _ h)) (fun z h => hy z (List.mem_cons_of_mem _ h))
    have h1 := hx x (List.mem_cons_self)
    have h2 := hy y (List.mem_cons_self)
    have h3 : (x - y) * (x - y) ≤ (2 * n) * (2 * n) := sq_le (by omega) (by omega)
    have e : (2 * n) * (2 * n) = 4 * (n * n) := by grind
    unfold dist
    rw [List.length_cons]
    have e2 : ((xs.length + 1 : Nat) : Int) * (4 * (n * n)) = xs.length * (4 * (n * n)) + 4 * (n * n) := by grind
    omega
theorem get_map {xs : List Int} {i : Nat} {y : V} (h : (xs.map V.int)[i]? = some y) : ∃ z, y = V.int z ∧ xs[i]? = some z := by
  rw [List.getElem?_map] at h
  cases e : xs[i]? with
  | none =>
    rw [e] at h
    cases h
  | some z =>
    rw [e] at h
    exact ⟨z, (Option.some.inj h).symm, rfl⟩
theorem map_get {xs : List Int} {i : Nat} {z : Int} (h : xs[i]? = some z) : (xs.map V.int)[i]? = some (V.int z) := by
  rw [List.getElem?_map, h]
  rfl
theorem len_le {n : Nat} (h : n ≤ 1000) : n < sizeLine := small1000 h

/-- at p stands a list of n integers, none beyond s -/
def IsPt (H : Hp) (p : Addr) (n s : Int) (zs : List Int) : Prop := H p = some (.lst (zs.map V.int)) ∧ (zs.length : Int) = n ∧ Bd s zs
theorem IsPt.fr {H H' : Hp} {p st sc : Addr} {n s : Int} {zs : List Int} (h : IsPt H p n s zs) (hS : StAt H st sc) (f : Fr st H H') : IsPt H' p n s zs := ⟨f _ _ h.1 (st_ne hS h.1), h.2.1, h.2.2⟩
theorem IsPt.wide {H : Hp} {p : Addr} {n s t : Int} {zs : List Int} (h : IsPt H p n s zs) (e : s ≤ t) : IsPt H p n t zs := ⟨h.1, h.2.1, fun z hz => by have := h.2.2 z hz; omega⟩
theorem IsPt.get {H : Hp} {p : Addr} {n s : Int} {zs : List Int} (h : IsPt H p n s zs) {i : Nat} (hi : (i : Int) < n) : ∃ z, zs[i]? = some z ∧ -s ≤ z ∧ z ≤ s := by
  have hl : i < zs.length := by have := h.2.1; omega
  exact ⟨zs[i], List.getElem?_eq_getElem hl, h.2.2.at (List.getElem?_eq_getElem hl)⟩
theorem dist_small {H : Hp} {p r : Addr} {n : Int} {xs ys : List Int} (h1 : IsPt H p n 30000 xs) (h2 : IsPt H r n 30000 ys) (hn : n ≤ 5) : 0 ≤ dist xs ys ∧ dist xs ys < 100000000000 := by
  refine ⟨dist_nn _ _, ?_⟩
  have a := dist_le h1.2.2 h2.2.2
  have b := h1.2.1
  have e : (30000 : Int) * 30000 = 900000000 := by decide
  rw [e] at a
  have : (xs.length : Int) * (4 * 900000000) ≤ 5 * (4 * 900000000) := by omega
  omega
theorem pick4 {a b c d k : Int} (h0 : 0 ≤ k) (h1 : k < 4) : ∃ v, atI [V.int a, V.int b, V.int c, V.int d] k = some (.int v) ∧ (v = a ∨ v = b ∨ v = c ∨ v = d) := by
  have : k = 0 ∨ k = 1 ∨ k = 2 ∨ k = 3 := by omega
  rcases this with rfl | rfl | rfl | rfl
  · exact ⟨a, at_of (j := 0) rfl rfl, .inl rfl⟩
  · exact ⟨b, at_of (j := 1) rfl rfl, .inr (.inl rfl)⟩
  · exact ⟨c, at_of (j := 2) rfl rfl, .inr (.inr (.inl rfl))⟩
  · exact ⟨d, at_of (j := 3) rfl rfl, .inr (.inr (.inr rfl))⟩
theorem st_made {H : Hp} {sc st : Addr} {ns : List Int} (h1 : H sc = none) (h2 : upd H sc (.lst (ns.map V.int)) st = none) (hl : ns.length ≤ 63) : StAt (upd (upd H sc (.lst (ns.map V.int))) st (.lst [.ref sc, .int 0, .int 0])) st sc := by
  have ne : sc ≠ st := fun e => by
    rw [← e, upd_same] at h2
    cases h2
  exact ⟨ns, 0, 0, upd_same, by rw [upd_ne ne, upd_same], by decide, by decide, hl⟩

theorem same_fr {st : Addr} {H H' : Hp} (h : Same H H') : Fr st H H' := fun b o e _ => h b o e
theorem same_new {H : Hp} {p : Addr} {o : HO} (h : H p = none) : Same H (upd H p o) := fun b u e => by
  rw [upd_ne (ne_of_none e h)]
  exact e
theorem same_set {H H' : Hp} {p : Addr} {o : HO} (f : Same H H') (h : H p = none) : Same H (upd H' p o) := fun b u e => by
  rw [upd_ne (ne_of_none e h)]
  exact f b u e
theorem StAt.same {H H' : Hp} {st sc : Addr} (hS : StAt H st sc) (f : Same H H') : StAt H' st sc := by
  obtain ⟨ns, k, x, h1, h2, k0, x0, hl⟩ := hS
  exact ⟨ns, k, x, f _ _ h1, f _ _ h2, k0, x0, hl⟩
/-- the terms of a sum over two lists -/
def ter (f : Int → Int → Int) (xs ys : List Int) : List Int := List.zipWith f xs ys
theorem ter_get {f : Int → Int → Int} {xs ys : List Int} {i : Nat} {x y : Int} (hx : xs[i]? = some x) (hy : ys[i]? = some y) : (ter f xs ys)[i]? = some (f x y) := by
  unfold ter
  rw [List.getElem?_zipWith, hx, hy]
theorem ter_len {f : Int → Int → Int} {xs ys : List Int} (h : xs.length = ys.length) : (ter f xs ys).length = xs.length := by
  unfold ter
  rw [List.length_zipWith]
  omega
def fMul (x y : Int) : Int := x * y
def fSq (x y : Int) : Int := (x - y) * (x - y)
def fNe (x y : Int) : Int := if x = y then 0 else 1

theorem pick7 {a b c d e f g k : Int} (h0 : 0 ≤ k) (h1 : k < 7) : ∃ v, atI [V.int a, V.int b, V.int c, V.int d, V.int e, V.int f, V.int g] k = some (.int v) ∧ (v = a ∨ v = b ∨ v = c ∨ v = d ∨ v = e ∨ v = f ∨ v = g) := by
  have : k = 0 ∨ k = 1 ∨ k = 2 ∨ k = 3 ∨ k = 4 ∨ k = 5 ∨ k = 6 := by omega
  rcases this with rfl | rfl | rfl | rfl | rfl | rfl | rfl
  · exact ⟨a, at_of (j := 0) rfl rfl, .inl rfl⟩
  · exact ⟨b, at_of (j := 1) rfl rfl, .inr (.inl rfl)⟩
  · exact ⟨c, at_of (j := 2) rfl rfl, .inr (.inr (.inl rfl))⟩
  · exact ⟨d, at_of (j := 3) rfl rfl, .inr (.inr (.inr (.inl rfl)))⟩
  · exact ⟨e, at_of (j := 4) rfl rfl, .inr (.inr (.inr (.inr (.inl rfl))))⟩
  · exact ⟨f, at_of (j := 5) rfl rfl, .inr (.inr (.inr (.inr (.inr (.inl rfl)))))⟩
  · exact ⟨g, at_of (j := 6) rfl rfl, .inr (.inr (.inr (.inr (.inr (.inr rfl)))))⟩
theorem dp_ints {K : PySem.W.Frag} {H : Hp} : ∀ xs : List Int, DpAll K H (xs.map V.int) (xs.map PyData.int)
  | [] => .nil
  | x :: r => .cons (.int x) (dp_ints r)
theorem eqv_ints (xs : List Int) : PyData.eqv (.list (xs.map PyData.int)) (.list (xs.map PyData.int)) = true := SeqAt.eqv_refl _ (SeqAt.canLay_of_shaped (PySem.W.ke_shaped_ints xs))

/-! what the top has made -/
structure Txt (K : PySem.W.Frag) (mg : Str → Option Value) where
  f_law_row : Addr
  d_law_row : FuncData
  F_law_row : Fun K "_law_row" "_law_row" s_law_row f_law_row d_law_row
  b_law_row : Binds K d_law_row ["script", "k"] []
  g_law_row : mg "_law_row" = some (.ref f_law_row)
  f_law_next : Addr
  d_law_next : FuncData
  F_law_next : Fun K "_law_next" "_law_next" s_law_next f_law_next d_law_next
  b_law_next : Binds K d_law_next ["state", "many"] []
  g_law_next : mg "_law_next" = some (.ref f_law_next)
  f_law_is_integer : Addr
  d_law_is_integer : FuncData
  F_law_is_integer : Fun K "_law_is_integer" "_law_is_integer" s_law_is_integer f_law_is_integer d_law_is_integer
  b_law_is_integer : Binds K d_law_is_integer ["actual"] []
  g_law_is_integer : mg "_law_is_integer" = some (.ref f_law_is_integer)
  f_inner : Addr
  d_inner : FuncData
  F_inner : Fun K "inner" "inner" s_inner f_inner d_inner
  b_inner : Binds K d_inner ["a", "b"] []
  g_inner : mg "inner" = some (.ref f_inner)
  f_distance : Addr
  d_distance : FuncData
  F_distance : Fun K "distance" "distance" s_distance f_distance d_distance
  b_distance : Binds K d_distance ["a", "b"] []
  g_distance : mg "distance" = some (.ref f_distance)
  f_differing : Addr
  d_differing : FuncData
  F_differing : Fun K "differing" "differing" s_differing f_differing d_differing
  b_differing : Binds K d_differing ["a", "b"] []
  g_differing : mg "differing" = some (.ref f_differing)
  f_norm : Addr
  d_norm : FuncData
  F_norm : Fun K "norm" "norm" s_norm f_norm d_norm
  b_norm : Binds K d_norm ["a"] []
  g_norm : mg "norm" = some (.ref f_norm)
  f_law_vector : Addr
  d_law_vector : FuncData
  F_law_vector : Fun K "_law_vector" "_law_vector" s_law_vector f_law_vector d_law_vector
  b_law_vector : Binds K d_law_vector ["state", "size"] []
  g_law_vector : mg "_law_vector" = some (.ref f_law_vector)
  f_law : Addr
  d_law : FuncData
  F_law : Fun K "law" "law" s_law f_law d_law
  b_law : Binds K d_law ["script"] []
  g_law : mg "law" = some (.ref f_law)
  m_bool : mg "bool" = none
  m_int : mg "int" = none
  m_isinstance : mg "isinstance" = none
  m_len : mg "len" = none
  m_list : mg "list" = none
  m_range : mg "range" = none
  m_sum : mg "sum" = none
  m_zip : mg "zip" = none
section
variable {P : Program} {w : World} {K : PySem.W.Frag} {mg : Str → Option Value} {base : Heap}

def sp_law_row (K : PySem.W.Frag) : Sp := fun vs H Q _ => ∃ (sc : Addr) (ns : List Int) (k : Int), vs = [.ref sc, .int k] ∧ H sc = some (.lst (ns.map V.int)) ∧ 0 ≤ k ∧ ∀ c : Int, 0 ≤ c → Q (.int c) H
set_option maxHeartbeats 4000000 in
theorem ok_law_row (T : Txt K mg) : FnOk P w K mg base CX0 1 T.f_law_row T.d_law_row ["script", "k"] (sp_law_row K) := by
  refine T.F_law_row.ok sc_law_row (fun vs H Q E h => ?_) (fun cdv A outer s H vs Q E hr h => ?_)
  · obtain ⟨sc, ns, k, rfl, _⟩ := h
    rfl
  · obtain ⟨sc, ns, k, rfl, hS, hk, q⟩ := h
    refine ⟨_, (pss_cons (ps_set (i := 2) sc_law_row.nd rfl (.inl rfl) pe_int) 
      (pss_cut (ps_if (pt_cmpR op_lt (pv 1) (pe_callB call_len_seq (by rfl) T.m_len PySem.boot_len (pa_cons (pv 0) pa_nil)) (nomark _)) (pss_one (ps_set (i := 2) sc_law_row.nd rfl (.inl rfl) (pe_ix ix_list (pv 0) (pv 1) (fun _ _ => rfl)))) pss_nil) 
      (pss_cut (ps_if (pt_cmpR op_lt (pv 2) pe_int (nomark _)) (pss_one (ps_set (i := 2) sc_law_row.nd rfl (.inl rfl) (pe_op op_sub (pe_op op_mul (pe_un un_neg pe_int) (pv 2)) pe_int))) pss_nil) 
      (pss_cut (ps_if (pt_cmpR op_lt (pv 2) (pe_op op_pow pe_int pe_int) (nomark _)) (pss_cons (ps_set (i := 3) sc_law_row.nd rfl (.inl rfl) (pe_op op_mod (pe_callTy call_int1 (by rfl) T.m_int (by decide +kernel) (pa_cons (pe_op op_add (pe_op op_add (pe_op op_mul (pv 2) pe_int) (pe_op op_mul (pv 1) pe_int)) pe_int) pa_nil)) pe_int)) 
      (pss_cons (ps_set (i := 4) sc_law_row.nd rfl (.inl rfl) (pe_op op_mod (pe_callTy call_int1 (by rfl) T.m_int (by decide +kernel) (pa_cons (pe_op op_add (pe_op op_add (pe_op op_add (pe_op op_mul (pv 3) pe_int) (pe_op op_mul (pv 2) pe_int)) (pv 1)) pe_int) pa_nil)) pe_int)) 
      (pss_cons (ps_set (i := 5) sc_law_row.nd rfl (.inl rfl) (pe_op op_mod (pe_callTy call_int1 (by rfl) T.m_int (by decide +kernel) (pa_cons (pe_op op_add (pe_op op_add (pe_op op_mul (pv 4) pe_int) (pe_op op_mul (pv 3) (pv 4))) pe_int) pa_nil)) pe_int)) 
      (pss_one (ps_set (i := 2) sc_law_row.nd rfl (.inl rfl) (pe_op op_add (pe_op op_add (pv 3) (pe_op op_mul (pv 4) pe_int)) (pe_op op_mul (pv 5) (pe_op op_pow pe_int pe_int)))))))) pss_nil) 
      (pss_one (ps_ret (pv 2))))))), ?_⟩
    -- if k < len(script): cell = script[k]
    refine ⟨fun σ' H' => H' = H ∧ ∃ c : Int, σ' = [some (.ref sc), some (.int k), some (.int c), none, none, none], ?_, ?_⟩
    · refine ⟨_, rfl, _, rfl, sc, _, rfl, .inl (SqL.of hS), _, _, rfl, rfl, _, rfl, ite2 (fun e => ?_) (fun e => ?_)⟩
      · have hl : k < ((ns.map V.int).length : Int) := of_decide_eq_true e
        rw [List.length_map] at hl
        obtain ⟨c, hc⟩ := item_map hk hl
        exact ⟨_, rfl, _, rfl, sc, _, k, _, rfl, rfl, SqL.of hS, hc, rfl, c, rfl⟩
      · exact ⟨rfl, 0, rfl⟩
    rintro σ' H' ⟨rfl, c, rfl⟩
    -- if cell < 0: cell = -2 * cell - 1
    refine ⟨fun σ' H2 => H2 = H' ∧ ∃ c : Int, 0 ≤ c ∧ σ' = [some (.ref sc), some (.int k), some (.int c), none, none, none], ?_, ?_⟩
    · refine ⟨_, rfl, _, _, rfl, rfl, _, rfl, ite2 (fun e => ?_) (fun e => ?_)⟩
      · have hc : c < 0 := of_decide_eq_true e
        refine ⟨2, rfl, _, rfl, _, _, rfl, rfl, .inl ⟨by decide, by decide⟩, _, _, rfl, rfl, rfl, _, ?_, rfl⟩
        omega
      · have hc : ¬ c < 0 := fun h => e (decide_eq_true h)
        exact ⟨rfl, c, by omega, rfl⟩
    rintro σ' H2 ⟨rfl, c, hc, rfl⟩
    -- if cell < 10 ** 9: ..
    refine ⟨fun σ' H' => H' = H2 ∧ ∃ (c : Int) (x y z : Option V), 0 ≤ c ∧ σ' = [some (.ref sc), some (.int k), some (.int c), x, y, z], ?_, ?_⟩
    · refine ⟨_, rfl, _, _, rfl, rfl, ⟨by decide, by decide, by decide⟩, _, _, rfl, rfl, _, rfl, ite2 (fun e => ?_) (fun e => ?_)⟩
      · have h9 : c < 10 ^ 9 := of_decide_eq_true e
        refine ⟨_, rfl, _, _, rfl, rfl, .inr ⟨by decide, by decide⟩, _, rfl, _, _, rfl, rfl, .inr ⟨by decide, by decide⟩, _, _, rfl, rfl, _, _, rfl, rfl, .inl ⟨_, rfl, ?_⟩⟩
        refine ⟨_, _, rfl, rfl, (by decide : (0 : Int) < 2147483647), ?_⟩
        dsimp only
        generalize ha : (c * 48271 + k * 69621 + 11) % 2147483647 = a
        have a0 : 0 ≤ a := by rw [← ha]; exact Int.emod_nonneg _ (by decide)
        have a1 : a < 2147483647 := by rw [← ha]; exact Int.emod_lt_of_pos _ (by decide)
        refine ⟨_, rfl, _, _, rfl, rfl, .inr ⟨by decide, by decide⟩, _, rfl, _, _, rfl, rfl, .inr ⟨by decide, by decide⟩, _, _, rfl, rfl, _, rfl, _, _, rfl, rfl, _, _, rfl, rfl, .inl ⟨_, rfl, ?_⟩⟩
        refine ⟨_, _, rfl, rfl, (by decide : (0 : Int) < 2147483629), ?_⟩
        dsimp only
        generalize hb : (a * 16807 + c * 7 + k + 5) % 2147483629 = b
        have b0 : 0 ≤ b := by rw [← hb]; exact Int.emod_nonneg _ (by decide)
        have b1 : b < 2147483629 := by rw [← hb]; exact Int.emod_lt_of_pos _ (by decide)
        refine ⟨_, rfl, _, _, rfl, rfl, .inr ⟨by decide, by decide⟩, _, rfl, _, rfl, _, _, rfl, rfl, .inl ⟨by omega, by omega⟩, _, _, rfl, rfl, _, _, rfl, rfl, .inl ⟨_, rfl, ?_⟩⟩
        refine ⟨_, _, rfl, rfl, (by decide : (0 : Int) < 2147483587), ?_⟩
        dsimp only
        generalize hd : (b * 39373 + a * b + 3) % 2147483587 = d
        have d0 : 0 ≤ d := by rw [← hd]; exact Int.emod_nonneg _ (by decide)
        refine ⟨_, rfl, _, rfl, _, _, rfl, rfl, .inr ⟨by decide, by decide⟩, _, _, rfl, rfl, _, rfl, _, _, rfl, rfl, ⟨by decide, by decide, by decide⟩, _, _, rfl, rfl, .inr ⟨by decide, by decide⟩, _, _, rfl, rfl, rfl, _, _, _, _, ?_, rfl⟩
        have e2 : (2147483647 : Int) ^ (2 : Int).toNat = 4611686014132420609 := by decide
        rw [e2]
        omega
      · exact ⟨rfl, c, _, _, _, hc, rfl⟩
    rintro σ' H' ⟨rfl, c, x, y, z, hc, rfl⟩
    exact ⟨_, rfl, q c hc⟩
def sp_law_next (K : PySem.W.Frag) : Sp := fun vs H Q _ => ∃ (st sc : Addr) (m : Int), vs = [.ref st, .int m] ∧ StAt H st sc ∧ 0 < m ∧ m.natAbs < 2 ^ 200 ∧ ∀ (d : Int) (H' : Hp), 0 ≤ d → d < m → StAt H' st sc → Oth st H H' → Q (.int d) H'
set_option maxHeartbeats 4000000 in
theorem ok_law_next (T : Txt K mg) : FnOk P w K mg base CX0 2 T.f_law_next T.d_law_next ["state", "many"] (sp_law_next K) := by
  have G_law_row : FnOk P w K mg base CX0 1 T.f_law_row T.d_law_row ["script", "k"] (sp_law_row K) := ok_law_row T
  refine T.F_law_next.ok sc_law_next (fun vs H Q E h => ?_) (fun cdv A outer s H vs Q E hr h => ?_)
  · obtain ⟨st, sc, m, rfl, _⟩ := h
    rfl
  · obtain ⟨st, sc, m, rfl, hS, m0, m1, q⟩ := h
    refine ⟨_, (pss_cut (ps_if (pt_cmpR op_lt (pe_ix ix_list (pv 0) pe_int (fun _ _ => rfl)) (pv 1) (nomark _)) (pss_cons (ps_asg (pe_call G_law_row (hr.mono (by decide)) (by rfl) T.g_law_row T.F_law_row.kp T.b_law_row .nil pass0 (pa_cons (pe_ix ix_list (pv 0) pe_int (fun _ _ => rfl)) (pa_cons (pe_ix ix_list (pv 0) pe_int (fun _ _ => rfl)) pa_nil))) (pg_sub (pv 0) pe_int set_list)) 
      (pss_one (ps_asg (pe_op op_add (pe_ix ix_list (pv 0) pe_int (fun _ _ => rfl)) pe_int) (pg_sub (pv 0) pe_int set_list)))) pss_nil) 
      (pss_cons (ps_set (i := 2) sc_law_next.nd rfl (.inl rfl) (pe_op op_mod (pe_callTy call_int1 (by rfl) T.m_int (by decide +kernel) (pa_cons (pe_ix ix_list (pv 0) pe_int (fun _ _ => rfl)) pa_nil)) (pv 1))) 
      (pss_cons (ps_asg (pe_op op_fdivW (pe_ix ix_list (pv 0) pe_int (fun _ _ => rfl)) (pv 1)) (pg_sub (pv 0) pe_int set_list)) 
      (pss_one (ps_ret (pv 2)))))), ?_⟩
    -- if state[2] < many: ..
    refine ⟨fun σ' H' => Oth st H H' ∧ StAt H' st sc ∧ σ' = [some (.ref st), some (.int m), none], ?_, ?_⟩
    · obtain ⟨ns, k, x, h1, h2, k0, x0, hn⟩ := id hS
      have hne : sc ≠ st := fun e => by
        rw [e, h1] at h2
        have z := HO.lst.inj (Option.some.inj h2)
        cases ns with
        | nil => cases z
        | cons y r =>
          have z2 := (List.cons.inj z).1
          cases z2
      refine ⟨_, rfl, st, _, _, _, rfl, rfl, SqL.of h1, at_of (j := 2) rfl rfl, _, rfl, _, _, rfl, rfl, _, rfl, ite2 (fun e => ?_) (fun e => ?_)⟩
      · refine ⟨_, rfl, st, _, _, _, rfl, rfl, SqL.of h1, at_of (j := 0) rfl rfl, _, rfl, st, _, _, _, rfl, rfl, SqL.of h1, at_of (j := 1) rfl rfl, sc, ns, k, rfl, h2, k0, fun c c0 => ?_⟩
        refine ⟨_, rfl, st, _, _, 2, rfl, rfl, h1, rfl, ?_⟩
        refine ⟨_, rfl, st, _, _, _, rfl, rfl, SqL.of upd_same, at_of (j := 1) rfl rfl, _, _, rfl, rfl, _, rfl, st, _, _, 1, rfl, rfl, upd_same, rfl, ?_⟩
        refine ⟨fun b hb => ?_, ⟨ns, k + 1, c, upd_same, ?_, by omega, c0, hn⟩, rfl⟩
        · rw [upd_ne hb, upd_ne hb]
        · rw [upd_ne hne, upd_ne hne]
          exact h2
      · exact ⟨Oth.refl _ _, hS, rfl⟩
    rintro σ' H' ⟨hO, ⟨ns, k, x, h1, h2, k0, x0, hn⟩, rfl⟩
    have hne : sc ≠ st := fun e => by
      rw [e, h1] at h2
      have z := HO.lst.inj (Option.some.inj h2)
      cases ns with
      | nil => cases z
      | cons y r =>
        have z2 := (List.cons.inj z).1
        cases z2
    -- drawn = int(state[2]) % many
    refine ⟨_, rfl, st, _, _, _, rfl, rfl, SqL.of h1, at_of (j := 2) rfl rfl, .inl ⟨_, rfl, ?_⟩⟩
    refine ⟨_, rfl, _, _, rfl, rfl, m0, ?_⟩
    -- state[2] = state[2] // many
    refine ⟨_, rfl, st, _, _, _, rfl, rfl, SqL.of h1, at_of (j := 2) rfl rfl, _, rfl, _, _, rfl, rfl, wide_div m0 m1 (by decide) (by decide), ?_⟩
    refine ⟨_, rfl, st, _, _, 2, rfl, rfl, h1, rfl, ?_⟩
    refine ⟨_, rfl, q _ _ (Int.emod_nonneg _ (by omega)) (Int.emod_lt_of_pos _ m0) ⟨ns, k, x / m, upd_same, ?_, k0, Int.ediv_nonneg x0 (by omega), hn⟩ (hO.trans fun b hb => upd_ne hb)⟩
    rw [upd_ne hne]
    exact h2
def sp_law_is_integer (K : PySem.W.Frag) : Sp := fun vs H Q _ => ∃ (i : Int), vs = [.int i] ∧ Q (.bl true) H
set_option maxHeartbeats 4000000 in
theorem ok_law_is_integer (T : Txt K mg) : FnOk P w K mg base CX0 1 T.f_law_is_integer T.d_law_is_integer ["actual"] (sp_law_is_integer K) := by
  refine T.F_law_is_integer.ok sc_law_is_integer (fun vs H Q E h => ?_) (fun cdv A outer s H vs Q E hr h => ?_)
  · obtain ⟨i, rfl, _⟩ := h
    rfl
  · obtain ⟨i, rfl, q⟩ := h
    refine ⟨_, (pss_one (ps_ret (pe_and (pe_callB call_isi (by rfl) T.m_isinstance (by decide +kernel) (pa_cons (pv 0) (pa_cons (pe_bltn (v := .ty "int") (u := .type "int") (by rfl) T.m_int (by decide +kernel) rfl) pa_nil))) (pe_one (pe_not (pe_callB call_isi (by rfl) T.m_isinstance (by decide +kernel) (pa_cons (pv 0) (pa_cons (pe_bltn (v := .ty "bool") (u := .type "bool") (by rfl) T.m_bool (by decide +kernel) rfl) pa_nil)))))))), ?_⟩
    refine ⟨_, rfl, _, _, _, _, true, rfl, .ty _, .base (.int i), kit_ty (by decide +kernel), true, rfl, iteT ?_⟩
    exact ⟨_, rfl, _, _, _, _, false, rfl, .ty _, .base (.int i), kit_ty (by decide +kernel), false, rfl, q⟩
def sp_inner (K : PySem.W.Frag) : Sp := fun vs H Q _ => ∃ (a b : Addr) (xs ys : List Int), vs = [.ref a, .ref b] ∧ SqL K H a (xs.map V.int) ∧ SqL K H b (ys.map V.int) ∧ xs.length = ys.length ∧ xs.length ≤ 1000 ∧ Bd 1000000000000 xs ∧ Bd 1000000000000 ys ∧ ∀ H', Same H H' → Q (.int (ter fMul xs ys).sum) H'
set_option maxHeartbeats 4000000 in
theorem ok_inner (T : Txt K mg) : FnOk P w K mg base CX0 1 T.f_inner T.d_inner ["a", "b"] (sp_inner K) := by
  refine T.F_inner.ok sc_inner (fun vs H Q E h => ?_) (fun cdv A outer s H vs Q E hr h => ?_)
  · obtain ⟨a, b, xs, ys, rfl, _⟩ := h
    rfl
  · obtain ⟨a, b, xs, ys, rfl, ha, hb, hl, h1, bx, by_, q⟩ := h
    refine ⟨_, (pss_one (ps_ret (pe_callB (cr_sum rfl) (by rfl) T.m_sum (by decide +kernel) (pa_cons (pe_lc (own := [("x", 2), ("y", 3)]) (g := gTup K 2 (gCons (gName 2) (gCons (gName 3) gNil))) rfl sc_inner.nd (pi_zip (by rfl) T.m_zip (pa_cons (pv 0) (pa_cons (pv 1) pa_nil))) (blkOk_by (own := [("x", 2), ("y", 3)]) (N := ["a", "b", "x", "y"]) (sc := defScope s_inner) (by decide +kernel)) (fun _ _ _ _ _ => (by exact (pg_tup rfl (pgs_cons (pg_name (i := 2) sc_inner.nd rfl (Or.inl rfl)) (pgs_cons (pg_name (i := 3) sc_inner.nd rfl (Or.inl rfl)) pgs_nil))))) (fun _ _ _ _ _ => pts_nil) (fun _ _ _ _ _ => (pe_op op_mul (pv 2) (pv 3)))) pa_nil)))), ?_⟩
    refine ⟨_, rfl, _, rfl, a, b, xs.map V.int, ys.map V.int, rfl, ha, hb, fun D hD => ?_⟩
    refine lc_it (walk_zip (K := K) (a := a) (b := b) (xs := xs.map V.int) (ys := ys.map V.int) rfl) (fun i H' => Same H H' ∧ H' D = some (.lst (((ter fMul xs ys).take i).map V.int))) ⟨same_new hD, by rw [upd_same]; rfl⟩ (fun i H' _ h => ⟨h.1.seq ha, h.1.seq hb⟩) ?_ ?_
    · rintro i v H1 H2 hi ⟨sm, hD1⟩ ⟨T, x1, x2, rfl, nT, rfl, g1, g2⟩
      obtain ⟨x, rfl, hx⟩ := get_map g1
      obtain ⟨y, rfl, hy⟩ := get_map g2
      have bX := bx.at hx
      have bY := by_.at hy
      have nDT : D ≠ T := ne_of_none hD1 nT
      refine ⟨T, [.int x, .int y], rfl, .inl (.inl upd_same), rfl, _, _, rfl, _, _, rfl, rfl, rfl, ?_⟩
      refine ⟨_, rfl, _, rfl, _, _, rfl, rfl, .inl ⟨by omega, by omega⟩, _, by rw [upd_ne nDT]; exact hD1, ?_, ?_⟩
      · rw [List.length_map, List.length_take, ter_len hl]
        exact len_le (by omega)
      · refine ⟨same_set (sm.trans (same_new nT)) hD, ?_⟩
        rw [upd_same, List.take_add_one, ter_get hx hy, List.map_append]
        rfl
    · rintro H1 ⟨sm, hD1⟩
      rw [List.length_map, List.length_map, ← hl, Nat.min_self, ← ter_len (f := fMul) hl, List.take_of_length_le (Nat.le_refl _)] at hD1
      exact ⟨D, _, rfl, SqL.of hD1, q H1 sm⟩
def sp_distance (K : PySem.W.Frag) : Sp := fun vs H Q _ => ∃ (a b : Addr) (xs ys : List Int), vs = [.ref a, .ref b] ∧ SqL K H a (xs.map V.int) ∧ SqL K H b (ys.map V.int) ∧ xs.length = ys.length ∧ xs.length ≤ 1000 ∧ Bd 1000000000000 xs ∧ Bd 1000000000000 ys ∧ ∀ H', Same H H' → Q (.int (ter fSq xs ys).sum) H'
set_option maxHeartbeats 4000000 in
theorem ok_distance (T : Txt K mg) : FnOk P w K mg base CX0 1 T.f_distance T.d_distance ["a", "b"] (sp_distance K) := by
  refine T.F_distance.ok sc_distance (fun vs H Q E h => ?_) (fun cdv A outer s H vs Q E hr h => ?_)
  · obtain ⟨a, b, xs, ys, rfl, _⟩ := h
    rfl
  · obtain ⟨a, b, xs, ys, rfl, ha, hb, hl, h1, bx, by_, q⟩ := h
    refine ⟨_, (pss_one (ps_ret (pe_callB (cr_sum rfl) (by rfl) T.m_sum (by decide +kernel) (pa_cons (pe_lc (own := [("x", 2), ("y", 3)]) (g := gTup K 2 (gCons (gName 2) (gCons (gName 3) gNil))) rfl sc_distance.nd (pi_zip (by rfl) T.m_zip (pa_cons (pv 0) (pa_cons (pv 1) pa_nil))) (blkOk_by (own := [("x", 2), ("y", 3)]) (N := ["a", "b", "x", "y"]) (sc := defScope s_distance) (by decide +kernel)) (fun _ _ _ _ _ => (by exact (pg_tup rfl (pgs_cons (pg_name (i := 2) sc_distance.nd rfl (Or.inl rfl)) (pgs_cons (pg_name (i := 3) sc_distance.nd rfl (Or.inl rfl)) pgs_nil))))) (fun _ _ _ _ _ => pts_nil) (fun _ _ _ _ _ => (pe_op op_mul (pe_op op_sub (pv 2) (pv 3)) (pe_op op_sub (pv 2) (pv 3))))) pa_nil)))), ?_⟩
    refine ⟨_, rfl, _, rfl, a, b, xs.map V.int, ys.map V.int, rfl, ha, hb, fun D hD => ?_⟩
    refine lc_it (walk_zip (K := K) (a := a) (b := b) (xs := xs.map V.int) (ys := ys.map V.int) rfl) (fun i H' => Same H H' ∧ H' D = some (.lst (((ter fSq xs ys).take i).map V.int))) ⟨same_new hD, by rw [upd_same]; rfl⟩ (fun i H' _ h => ⟨h.1.seq ha, h.1.seq hb⟩) ?_ ?_
    · rintro i v H1 H2 hi ⟨sm, hD1⟩ ⟨T, x1, x2, rfl, nT, rfl, g1, g2⟩
      obtain ⟨x, rfl, hx⟩ := get_map g1
      obtain ⟨y, rfl, hy⟩ := get_map g2
      have bX := bx.at hx
      have bY := by_.at hy
      have nDT : D ≠ T := ne_of_none hD1 nT
      refine ⟨T, [.int x, .int y], rfl, .inl (.inl upd_same), rfl, _, _, rfl, _, _, rfl, rfl, rfl, ?_⟩
      refine ⟨_, rfl, _, rfl, _, _, rfl, rfl, _, rfl, _, rfl, _, _, rfl, rfl, _, _, rfl, rfl, .inl ⟨by omega, by omega⟩, _, by rw [upd_ne nDT]; exact hD1, ?_, ?_⟩
      · rw [List.length_map, List.length_take, ter_len hl]
        exact len_le (by omega)
      · refine ⟨same_set (sm.trans (same_new nT)) hD, ?_⟩
        rw [upd_same, List.take_add_one, ter_get hx hy, List.map_append]
        rfl
    · rintro H1 ⟨sm, hD1⟩
      rw [List.length_map, List.length_map, ← hl, Nat.min_self, ← ter_len (f := fSq) hl, List.take_of_length_le (Nat.le_refl _)] at hD1
      exact ⟨D, _, rfl, SqL.of hD1, q H1 sm⟩
def sp_differing (K : PySem.W.Frag) : Sp := fun vs H Q _ => ∃ (a b : Addr) (xs ys : List Int), vs = [.ref a, .ref b] ∧ SqL K H a (xs.map V.int) ∧ SqL K H b (ys.map V.int) ∧ xs.length = ys.length ∧ xs.length ≤ 1000 ∧ Bd 1000000000000 xs ∧ Bd 1000000000000 ys ∧ ∀ H', Same H H' → Q (.int (ter fNe xs ys).sum) H'
set_option maxHeartbeats 4000000 in
theorem ok_differing (T : Txt K mg) : FnOk P w K mg base CX0 1 T.f_differing T.d_differing ["a", "b"] (sp_differing K) := by
  refine T.F_differing.ok sc_differing (fun vs H Q E h => ?_) (fun cdv A outer s H vs Q E hr h => ?_)
  · obtain ⟨a, b, xs, ys, rfl, _⟩ := h
    rfl
  · obtain ⟨a, b, xs, ys, rfl, ha, hb, hl, h1, bx, by_, q⟩ := h
    refine ⟨_, (pss_one (ps_ret (pe_callB call_len_seq (by rfl) T.m_len PySem.boot_len (pa_cons (pe_lc (own := [("x", 2), ("y", 3)]) (g := gTup K 2 (gCons (gName 2) (gCons (gName 3) gNil))) rfl sc_differing.nd (pi_zip (by rfl) T.m_zip (pa_cons (pv 0) (pa_cons (pv 1) pa_nil))) (blkOk_by (own := [("x", 2), ("y", 3)]) (N := ["a", "b", "x", "y"]) (sc := defScope s_differing) (by decide +kernel)) (fun _ _ _ _ _ => (by exact (pg_tup rfl (pgs_cons (pg_name (i := 2) sc_differing.nd rfl (Or.inl rfl)) (pgs_cons (pg_name (i := 3) sc_differing.nd rfl (Or.inl rfl)) pgs_nil))))) (fun _ _ _ _ _ => (pts_one (pt_cmpR op_ne (pv 2) (pv 3) (nomark _)))) (fun _ _ _ _ _ => pe_bl)) pa_nil)))), ?_⟩
    refine ⟨_, rfl, _, rfl, a, b, xs.map V.int, ys.map V.int, rfl, ha, hb, fun D hD => ?_⟩
    refine lc_it (walk_zip (K := K) (a := a) (b := b) (xs := xs.map V.int) (ys := ys.map V.int) rfl) (fun i H' => Same H H' ∧ ∃ acc : List V, H' D = some (.lst acc) ∧ acc.length ≤ i ∧ (acc.length : Int) = ((ter fNe xs ys).take i).sum) ⟨same_new hD, [], upd_same, Nat.le_refl 0, rfl⟩ (fun i H' _ h => ⟨h.1.seq ha, h.1.seq hb⟩) ?_ ?_
    · rintro i v H1 H2 hi ⟨sm, acc, hD1, l1, l2⟩ ⟨T, x1, x2, rfl, nT, rfl, g1, g2⟩
      obtain ⟨x, rfl, hx⟩ := get_map g1
      obtain ⟨y, rfl, hy⟩ := get_map g2
      have nDT : D ≠ T := ne_of_none hD1 nT
      rw [List.length_map, List.length_map, ← hl, Nat.min_self] at hi
      have st := sum_take (ter_get (f := fNe) hx hy)
      refine ⟨T, [.int x, .int y], rfl, .inl (.inl upd_same), rfl, _, _, rfl, _, _, rfl, rfl, rfl, ?_⟩
      refine ⟨_, rfl, _, rfl, rfl, _, rfl, ?_⟩
      by_cases e : x = y
      · have z : fNe x y = 0 := by unfold fNe; rw [if_pos e]
        rw [decide_eq_true (congrArg V.int e)]
        refine iteF ?_
        exact ⟨sm.trans (same_new nT), acc, by rw [upd_ne nDT]; exact hD1, by omega, by omega⟩
      · have z : fNe x y = 1 := by unfold fNe; rw [if_neg e]
        rw [decide_eq_false (fun h => e (V.int.inj h))]
        refine iteT ?_
        refine ⟨acc, by rw [upd_ne nDT]; exact hD1, len_le (by omega), same_set (sm.trans (same_new nT)) hD, acc ++ [.bl true], upd_same, by simp; omega, by simp; omega⟩
    · rintro H1 ⟨sm, acc, hD1, l1, l2⟩
      rw [List.length_map, List.length_map, ← hl, Nat.min_self, ← ter_len (f := fNe) hl, List.take_of_length_le (Nat.le_refl _)] at l2
      refine ⟨D, acc, rfl, .inl (SqL.of hD1), ?_⟩
      rw [l2]
      exact q H1 sm
def sp_norm (K : PySem.W.Frag) : Sp := fun vs H Q _ => ∃ (a : Addr) (xs : List Int), vs = [.ref a] ∧ SqL K H a (xs.map V.int) ∧ xs.length ≤ 1000 ∧ Bd 1000000000000 xs ∧ ∀ H', Same H H' → Q (.int (ter fMul xs xs).sum) H'
set_option maxHeartbeats 4000000 in
theorem ok_norm (T : Txt K mg) : FnOk P w K mg base CX0 2 T.f_norm T.d_norm ["a"] (sp_norm K) := by
  have G_inner : FnOk P w K mg base CX0 1 T.f_inner T.d_inner ["a", "b"] (sp_inner K) := ok_inner T
  refine T.F_norm.ok sc_norm (fun vs H Q E h => ?_) (fun cdv A outer s H vs Q E hr h => ?_)
  · obtain ⟨a, xs, rfl, _⟩ := h
    rfl
  · obtain ⟨a, xs, rfl, ha, h1, bx, q⟩ := h
    refine ⟨_, (pss_one (ps_ret (pe_call G_inner (hr.mono (by decide)) (by rfl) T.g_inner T.F_inner.kp T.b_inner .nil pass0 (pa_cons (pv 0) (pa_cons (pv 0) pa_nil))))), ?_⟩
    exact ⟨_, rfl, _, rfl, a, a, xs, xs, rfl, ha, ha, rfl, h1, bx, bx, q⟩
def sp_law_vector (K : PySem.W.Frag) : Sp := fun vs H Q _ => ∃ (st sc : Addr) (n : Int), vs = [.ref st, .int n] ∧ StAt H st sc ∧ 0 ≤ n ∧ n ≤ 1000 ∧ ∀ (p : Addr) (zs : List Int) (H' : Hp), (zs.length : Int) = n → Bd 10000000 zs → H p = none → H' p = some (.lst (zs.map V.int)) → StAt H' st sc → Fr st H H' → Q (.ref p) H'
set_option maxHeartbeats 4000000 in
theorem ok_law_vector (T : Txt K mg) : FnOk P w K mg base CX0 3 T.f_law_vector T.d_law_vector ["state", "size"] (sp_law_vector K) := by
  have G_law_next : FnOk P w K mg base CX0 2 T.f_law_next T.d_law_next ["state", "many"] (sp_law_next K) := ok_law_next T
  refine T.F_law_vector.ok sc_law_vector (fun vs H Q E h => ?_) (fun cdv A outer s H vs Q E hr h => ?_)
  · obtain ⟨st, sc, n, rfl, _⟩ := h
    rfl
  · obtain ⟨st, sc, n, rfl, hS, n0, n1, q⟩ := h
    refine ⟨_, (pss_cons (ps_set (i := 2) sc_law_vector.nd rfl (.inl rfl) (pe_lst pa_nil)) 
      (pss_cons (ps_for PassesOwn.never rfl (pi_range1 rfl T.m_range (pa_cons (pv 1) pa_nil)) (pg_name (i := 3) sc_law_vector.nd rfl (.inl rfl)) (pss_cons (ps_set (i := 4) sc_law_vector.nd rfl (.inl rfl) (pe_call G_law_next (hr.mono (by decide)) (by rfl) T.g_law_next T.F_law_next.kp T.b_law_next .nil pass0 (pa_cons (pv 0) (pa_cons (pe_op op_pow pe_int pe_int) pa_nil)))) 
      (pss_cut (ps_if (pt_cmpR op_eq (pe_call G_law_next (hr.mono (by decide)) (by rfl) T.g_law_next T.F_law_next.kp T.b_law_next .nil pass0 (pa_cons (pv 0) (pa_cons pe_int pa_nil))) pe_int (nomark _)) (pss_one (ps_set (i := 4) sc_law_vector.nd rfl (.inl rfl) (pe_un un_neg (pe_op op_fdiv (pv 4) (pe_ix ix_list (pe_lst (pa_cons pe_int (pa_cons pe_int (pa_cons pe_int (pa_cons pe_int (pa_cons pe_int (pa_cons pe_int (pa_cons pe_int pa_nil)))))))) (pe_call G_law_next (hr.mono (by decide)) (by rfl) T.g_law_next T.F_law_next.kp T.b_law_next .nil pass0 (pa_cons (pv 0) (pa_cons pe_int pa_nil))) (fun _ _ => rfl)))))) pss_nil) 
      (pss_one (ps_expr (pe_bm PySem.F.plainAttrs_list PySem.F.slot_list_append PySem.F.type_list_append mt_append (pv 2) (pa_cons (pv 4) pa_nil))))))) 
      (pss_one (ps_ret (pv 2))))), ?_⟩
    refine ⟨Nat.zero_le _, fun D hD => ?_⟩
    have nD : D ≠ st := st_new hS hD
    refine ⟨_, rfl, n, rfl, by omega, by omega, for_range (lo := 0) (n := n.toNat) (fun i σ H' => Fr st H H' ∧ StAt H' st sc ∧ ∃ (zs : List Int) (x3 x4 : Option V), zs.length = i ∧ Bd 10000000 zs ∧ H' D = some (.lst (zs.map V.int)) ∧ σ = [some (.ref st), some (.int n), some (.ref D), x3, x4]) ⟨Fr.new hD, hS.new hD, [], none, none, rfl, fun _ h => (nomatch h), upd_same, rfl⟩ ?_ ?_⟩
    · rintro i σ H1 hi ⟨f1, hS1, zs, x3, x4, hz, hb, h1, rfl⟩
      refine ⟨_, rfl, _, _, rfl, rfl, ⟨by decide, by decide, by decide⟩, st, sc, _, rfl, hS1, by decide +kernel, by decide +kernel, fun u H2 u0 u1 hS2 o2 => ?_⟩
      have u2 : u < 10000000 := u1
      have f2 := f1.trans o2.fr
      have h2 : H2 D = some (.lst (zs.map V.int)) := (o2 D nD).trans h1
      refine ⟨fun σ' H' => Fr st H H' ∧ StAt H' st sc ∧ H' D = some (.lst (zs.map V.int)) ∧ ∃ v : Int, -10000000 ≤ v ∧ v ≤ 10000000 ∧ σ' = [some (.ref st), some (.int n), some (.ref D), some (.int (0 + (i : Int))), some (.int v)], ?_, ?_⟩
      · refine ⟨_, rfl, st, sc, 2, rfl, hS2, by decide, by decide +kernel, fun d H3 _ _ hS3 o3 => ?_⟩
        have f3 := f2.trans o3.fr
        have h3 : H3 D = some (.lst (zs.map V.int)) := (o3 D nD).trans h2
        refine ⟨rfl, _, rfl, ite2 (fun _ => ?_) (fun _ => ?_)⟩
        · refine ⟨_, rfl, by decide, fun l hl => ?_⟩
          have nl : D ≠ l := ne_of_none h3 hl
          refine ⟨_, rfl, st, sc, 7, rfl, hS3.new hl, by decide, by decide +kernel, fun k7 H4 k0 k1 hS4 o4 => ?_⟩
          obtain ⟨w, hw, hwv⟩ := pick7 (a := 1) (b := 10) (c := 100) (d := 1000) (e := 10000) (f := 100000) (g := 10000000) k0 k1
          refine ⟨l, _, k7, _, rfl, rfl, SqL.of ((o4 l (st_new hS3 hl)).trans upd_same), hw, _, _, rfl, rfl, ⟨by omega, by omega⟩, _, rfl, ?_⟩
          have p1 : 0 ≤ u / w := Int.ediv_nonneg u0 (by omega)
          have p2 : u / w ≤ u := Int.ediv_le_self w u0
          refine ⟨(f3.trans (Fr.new hl)).trans o4.fr, hS4, ?_, -(u / w), by omega, by omega, rfl⟩
          rw [o4 D nD, upd_ne nl]
          exact h3
        · exact ⟨f3, hS3, h3, u, by omega, by omega, rfl⟩
      rintro σ' H3 ⟨f3, hS3, h3, v, v0, v1, rfl⟩
      refine ⟨_, rfl, .inl ⟨rfl, _, SqL.of h3⟩, _, rfl, D, _, _, rfl, rfl, h3, ?_, ?_⟩
      · rw [List.length_map, hz]
        exact len_le (by omega)
      refine ⟨f3.set hD, hS3.set hS hD, zs ++ [v], _, _, by simp [hz], ?_, ?_, rfl⟩
      · intro z hz
        rcases List.mem_append.mp hz with h | h
        · exact hb z h
        · rw [List.mem_singleton] at h
          omega
      · rw [upd_same, List.map_append]
        rfl
    · rintro σ H1 ⟨f1, hS1, zs, x3, x4, hz, hb, h1, rfl⟩
      exact ⟨_, rfl, q D zs H1 (by omega) hb hD h1 hS1 f1⟩
def sp_law (K : PySem.W.Frag) : Sp := fun vs H Q _ => ∃ (a : Addr) (ns : List Int), vs = [.ref a] ∧ SqL K H a (ns.map V.int) ∧ ns.length ≤ 63 ∧ ∀ H', Q (.bl true) H'
set_option maxHeartbeats 8000000 in
theorem ok_law (T : Txt K mg) : FnOk P w K mg base CX0 4 T.f_law T.d_law ["script"] (sp_law K) := by
  have G_law_is_integer : FnOk P w K mg base CX0 1 T.f_law_is_integer T.d_law_is_integer ["actual"] (sp_law_is_integer K) := ok_law_is_integer T
  have G_norm : FnOk P w K mg base CX0 2 T.f_norm T.d_norm ["a"] (sp_norm K) := ok_norm T
  have G_differing : FnOk P w K mg base CX0 1 T.f_differing T.d_differing ["a", "b"] (sp_differing K) := ok_differing T
  have G_distance : FnOk P w K mg base CX0 1 T.f_distance T.d_distance ["a", "b"] (sp_distance K) := ok_distance T
  have G_inner : FnOk P w K mg base CX0 1 T.f_inner T.d_inner ["a", "b"] (sp_inner K) := ok_inner T
  have G_law_next : FnOk P w K mg base CX0 2 T.f_law_next T.d_law_next ["state", "many"] (sp_law_next K) := ok_law_next T
  have G_law_vector : FnOk P w K mg base CX0 3 T.f_law_vector T.d_law_vector ["state", "size"] (sp_law_vector K) := ok_law_vector T
  refine T.F_law.ok sc_law (fun vs H Q E h => ?_) (fun cdv A outer s H vs Q E hr h => ?_)
  · obtain ⟨a, ns, rfl, _⟩ := h
    rfl
  · obtain ⟨a, ns, rfl, hA, hlen, q⟩ := h
    refine ⟨_, (pss_cons (ps_set (i := 1) sc_law.nd rfl (.inl rfl) (pe_lst (pa_cons (pe_callTy call_list_of (by rfl) T.m_list (by decide +kernel) (pa_cons (pv 0) pa_nil)) (pa_cons pe_int (pa_cons pe_int pa_nil))))) 
      (pss_cons (ps_for PassesOwn.never rfl (pi_range1 rfl T.m_range (pa_cons pe_int pa_nil)) (pg_name (i := 2) sc_law.nd rfl (.inl rfl)) (pss_cons (ps_set (i := 3) sc_law.nd rfl (.inl rfl) (pe_call G_law_next (hr.mono (by decide)) (by rfl) T.g_law_next T.F_law_next.kp T.b_law_next .nil pass0 (pa_cons (pv 1) (pa_cons pe_int pa_nil)))) 
      (pss_cons (ps_set (i := 4) sc_law.nd rfl (.inl rfl) (pe_call G_law_vector (hr.mono (by decide)) (by rfl) T.g_law_vector T.F_law_vector.kp T.b_law_vector .nil pass0 (pa_cons (pv 1) (pa_cons (pv 3) pa_nil)))) 
      (pss_cons (ps_set (i := 5) sc_law.nd rfl (.inl rfl) (pe_call G_law_vector (hr.mono (by decide)) (by rfl) T.g_law_vector T.F_law_vector.kp T.b_law_vector .nil pass0 (pa_cons (pv 1) (pa_cons (pv 3) pa_nil)))) 
      (pss_cons (ps_for PassesOwn.never rfl (pi_range1 rfl T.m_range (pa_cons (pv 3) pa_nil)) (pg_name (i := 6) sc_law.nd rfl (.inl rfl)) (pss_one (ps_if (pt_cmpR op_eq (pe_call G_law_next (hr.mono (by decide)) (by rfl) T.g_law_next T.F_law_next.kp T.b_law_next .nil pass0 (pa_cons (pv 1) (pa_cons pe_int pa_nil))) pe_int (nomark _)) (pss_one (ps_asg (pe_ix ix_list (pv 4) (pv 6) (fun _ _ => rfl)) (pg_sub (pv 5) (pv 6) set_list))) pss_nil))) 
      (pss_cons (ps_set (i := 7) sc_law.nd rfl (.inl rfl) (pe_lst (pa_cons pe_int (pa_cons pe_int (pa_cons pe_int (pa_cons pe_int pa_nil)))))) 
      (pss_cons (ps_for PassesOwn.never rfl (pi_range1 rfl T.m_range (pa_cons (pv 3) pa_nil)) (pg_name (i := 6) sc_law.nd rfl (.inl rfl)) (pss_cons (ps_asg (pe_op op_add (pe_ix ix_list (pv 7) pe_int (fun _ _ => rfl)) (pe_op op_mul (pe_ix ix_list (pv 4) (pv 6) (fun _ _ => rfl)) (pe_ix ix_list (pv 5) (pv 6) (fun _ _ => rfl)))) (pg_sub (pv 7) pe_int set_list)) 
      (pss_cons (ps_asg (pe_op op_add (pe_ix ix_list (pv 7) pe_int (fun _ _ => rfl)) (pe_op op_mul (pe_op op_sub (pe_ix ix_list (pv 4) (pv 6) (fun _ _ => rfl)) (pe_ix ix_list (pv 5) (pv 6) (fun _ _ => rfl))) (pe_op op_sub (pe_ix ix_list (pv 4) (pv 6) (fun _ _ => rfl)) (pe_ix ix_list (pv 5) (pv 6) (fun _ _ => rfl))))) (pg_sub (pv 7) pe_int set_list)) 
      (pss_cut (ps_if (pt_cmpR op_ne (pe_ix ix_list (pv 4) (pv 6) (fun _ _ => rfl)) (pe_ix ix_list (pv 5) (pv 6) (fun _ _ => rfl)) (nomark _)) (pss_one (ps_asg (pe_op op_add (pe_ix ix_list (pv 7) pe_int (fun _ _ => rfl)) pe_int) (pg_sub (pv 7) pe_int set_list))) pss_nil) 
      (pss_one (ps_asg (pe_op op_add (pe_ix ix_list (pv 7) pe_int (fun _ _ => rfl)) (pe_op op_mul (pe_ix ix_list (pv 4) (pv 6) (fun _ _ => rfl)) (pe_ix ix_list (pv 4) (pv 6) (fun _ _ => rfl)))) (pg_sub (pv 7) pe_int set_list))))))) 
      (pss_cons (ps_set (i := 8) sc_law.nd rfl (.inl rfl) (pe_callTy call_list_of (by rfl) T.m_list (by decide +kernel) (pa_cons (pv 4) pa_nil))) 
      (pss_cons (ps_set (i := 9) sc_law.nd rfl (.inl rfl) (pe_callTy call_list_of (by rfl) T.m_list (by decide +kernel) (pa_cons (pv 5) pa_nil))) 
      (pss_cons (ps_set (i := 10) sc_law.nd rfl (.inl rfl) (pe_lst (pa_cons (pe_call G_inner (hr.mono (by decide)) (by rfl) T.g_inner T.F_inner.kp T.b_inner .nil pass0 (pa_cons (pv 8) (pa_cons (pv 9) pa_nil))) (pa_cons (pe_call G_distance (hr.mono (by decide)) (by rfl) T.g_distance T.F_distance.kp T.b_distance .nil pass0 (pa_cons (pv 8) (pa_cons (pv 9) pa_nil))) (pa_cons (pe_call G_differing (hr.mono (by decide)) (by rfl) T.g_differing T.F_differing.kp T.b_differing .nil pass0 (pa_cons (pv 8) (pa_cons (pv 9) pa_nil))) (pa_cons (pe_call G_norm (hr.mono (by decide)) (by rfl) T.g_norm T.F_norm.kp T.b_norm .nil pass0 (pa_cons (pv 8) pa_nil)) pa_nil)))))) 
      (pss_cons (ps_for PassesOwn.never rfl (pi_range1 rfl T.m_range (pa_cons pe_int pa_nil)) (pg_name (i := 6) sc_law.nd rfl (.inl rfl)) (pss_one (ps_if (PW.pt (pw_or (pt_not (pt_truth (pe_call G_law_is_integer (hr.mono (by decide)) (by rfl) T.g_law_is_integer T.F_law_is_integer.kp T.b_law_is_integer .nil pass0 (pa_cons (pe_ix ix_list (pv 10) (pv 6) (fun _ _ => rfl)) pa_nil)) (by intro _; rfl))) (pw_or1 (pt_cmpR op_ne (pe_ix ix_list (pv 10) (pv 6) (fun _ _ => rfl)) (pe_ix ix_list (pv 7) (pv 6) (fun _ _ => rfl)) (nomark _))))) (pss_one (ps_ret pe_bl)) pss_nil))) 
      (pss_one (ps_if (PW.pt (pw_or (pt_cmpR (op_neD hr.units) (pv 8) (pv 4) (nomark _)) (pw_or1 (pt_cmpR (op_neD hr.units) (pv 9) (pv 5) (nomark _))))) (pss_one (ps_ret pe_bl)) pss_nil))))))))))))) 
      (pss_one (ps_ret pe_bl)))), ?_⟩
    refine ⟨_, rfl, a, _, rfl, .inl hA, fun sc hsc => ⟨(by show 3 ≤ sizeLine; decide), fun st hst => ?_⟩⟩
    have hS0 := st_made hsc hst hlen
    generalize upd (upd H sc (.lst (ns.map V.int))) st (.lst [.ref sc, .int 0, .int 0]) = H0 at hS0
    refine ⟨3, rfl, by decide, by decide, for_range (lo := 0) (n := 3) (fun i σ H' => StAt H' st sc ∧ ∃ x2 x3 x4 x5 x6 x7 x8 x9 x10, σ = [some (.ref a), some (.ref st), x2, x3, x4, x5, x6, x7, x8, x9, x10]) ⟨hS0, none, none, none, none, none, none, none, none, none, rfl⟩ ?_ ?_⟩
    rotate_left
    · rintro σ H' ⟨_, x2, x3, x4, x5, x6, x7, x8, x9, x10, rfl⟩
      exact q H'
    rintro i σ Hi hi ⟨hSi, x2, x3, x4, x5, x6, x7, x8, x9, x10, rfl⟩
    -- size, a, b
    refine ⟨_, rfl, st, sc, 13, rfl, hSi, by decide, by decide +kernel, fun n H1 n0 n1 hS1 _ => ?_⟩
    refine ⟨_, rfl, _, rfl, st, sc, n, rfl, hS1, n0, by omega, fun pa za H2 la ba _ ea hS2 _ => ?_⟩
    have Pa : IsPt H2 pa n 10000000 za := ⟨ea, la, ba⟩
    refine ⟨_, rfl, _, rfl, st, sc, n, rfl, hS2, n0, by omega, fun pb zb H3 lb bb nb eb hS3 f3 => ?_⟩
    have npb : pa ≠ pb := ne_of_none Pa.1 nb
    have stb : st ≠ pb := (st_new hS2 nb).symm
    have scb : sc ≠ pb := by
      obtain ⟨_, _, _, _, g, _⟩ := hS2
      exact ne_of_none g nb
    replace Pa := Pa.fr hS2 f3
    -- b[k] = a[k] at some places
    refine ⟨_, rfl, n, rfl, by omega, by omega, for_range (lo := 0) (n := n.toNat) (fun j σ H' => StAt H' st sc ∧ IsPt H' pa n 10000000 za ∧ ∃ zc x6, IsPt H' pb n 10000000 zc ∧ σ = [some (.ref a), some (.ref st), some (.int (0 + (i : Int))), some (.int n), some (.ref pa), some (.ref pb), x6, x7, x8, x9, x10]) ⟨hS3, Pa, zb, x6, ⟨eb, lb, bb⟩, rfl⟩ ?_ ?_⟩
    · rintro j σ H4 hj ⟨hS4, Pa4, zc, y6, Pc4, rfl⟩
      have e0 : (0 : Int) + (j : Int) = (j : Int) := by omega
      refine ⟨_, rfl, st, sc, 3, rfl, hS4, by decide, by decide +kernel, fun d H5 _ _ hS5 o5 => ?_⟩
      have Pa5 := Pa4.fr hS4 o5.fr
      have Pc5 := Pc4.fr hS4 o5.fr
      refine ⟨rfl, _, rfl, ite2 (fun _ => ?_) (fun _ => ?_)⟩
      · obtain ⟨z, hz, z0, z1⟩ := Pa5.get (i := j) (by omega)
        have lc := Pc5.2.1
        have ixn : ixN (zc.map V.int).length (0 + (j : Int)) = some j := by
          rw [e0, List.length_map]
          exact ixN_nat (by omega)
        refine ⟨_, rfl, _, rfl, pa, _, _, _, rfl, rfl, SqL.of Pa5.1, at_of e0 (map_get hz), _, rfl, _, rfl, pb, _, _, j, rfl, rfl, Pc5.1, ixn, ?_⟩
        refine ⟨?_, ⟨by rw [upd_ne npb]; exact Pa5.1, Pa5.2⟩, zc.set j z, _, ⟨by rw [upd_same, List.map_set], by rw [List.length_set]; exact lc, ?_⟩, rfl⟩
        · obtain ⟨ns', k', x', g1, g2, g3, g4, g5⟩ := hS5
          exact ⟨ns', k', x', by rw [upd_ne stb]; exact g1, by rw [upd_ne scb]; exact g2, g3, g4, g5⟩
        · intro y hy
          rcases List.mem_or_eq_of_mem_set hy with h | h
          · exact Pc5.2.2 y h
          · omega
      · exact ⟨hS5, Pa5, zc, _, Pc5, rfl⟩
    clear Pa eb hS3 f3 bb lb
    rintro σ H4 ⟨hS4, Pa, zc, y6, Pc, rfl⟩
    -- due
    refine ⟨by decide, fun pd hpd => ?_⟩
    have na : pa ≠ pd := ne_of_none Pa.1 hpd
    have nb : pb ≠ pd := ne_of_none Pc.1 hpd
    have hS5 := hS4.new (o := .lst [.int 0, .int 0, .int 0, .int 0]) hpd
    have la := Pa.2.1
    have lc := Pc.2.1
    refine ⟨_, rfl, n, rfl, by omega, by omega, for_range (lo := 0) (n := n.toNat) (fun j σ H' => Same H4 H' ∧ H' pd = some (.lst [.int ((ter fMul za zc).take j).sum, .int ((ter fSq za zc).take j).sum, .int ((ter fNe za zc).take j).sum, .int ((ter fMul za za).take j).sum]) ∧ ∃ x6, σ = [some (.ref a), some (.ref st), some (.int (0 + (i : Int))), some (.int n), some (.ref pa), some (.ref pb), x6, some (.ref pd), x8, x9, x10]) ⟨same_new hpd, upd_same, y6, rfl⟩ ?_ ?_⟩
    · rintro j σ H6 hj ⟨sm, hd, y6, rfl⟩
      have e0 : (0 : Int) + (j : Int) = (j : Int) := by omega
      have ha := sm _ _ Pa.1
      have hc := sm _ _ Pc.1
      obtain ⟨x, hx, x0, x1⟩ := Pa.get (i := j) (by omega)
      obtain ⟨y, hy, y0, y1⟩ := Pc.get (i := j) (by omega)
      have s0 := sum_take (ter_get (f := fMul) hx hy)
      have s1 := sum_take (ter_get (f := fSq) hx hy)
      have s2 := sum_take (ter_get (f := fNe) hx hy)
      have s3 := sum_take (ter_get (f := fMul) hx hx)
      -- due[0]
      refine ⟨_, rfl, pd, _, _, _, rfl, rfl, SqL.of hd, at_of (j := 0) rfl rfl, _, rfl, _, rfl, pa, _, _, _, rfl, rfl, SqL.of ha, at_of e0 (map_get hx), _, rfl, _, rfl, pb, _, _, _, rfl, rfl, SqL.of hc, at_of e0 (map_get hy), _, _, rfl, rfl, .inl ⟨by omega, by omega⟩, _, _, rfl, rfl, ?_⟩
      refine ⟨_, rfl, pd, _, _, 0, rfl, rfl, hd, rfl, ?_⟩
      -- due[1]
      have ha1 : ∀ o, (upd H6 pd o) pa = some (.lst (za.map V.int)) := fun o => by rw [upd_ne na]; exact ha
      have hc1 : ∀ o, (upd H6 pd o) pb = some (.lst (zc.map V.int)) := fun o => by rw [upd_ne nb]; exact hc
      refine ⟨_, rfl, pd, _, _, _, rfl, rfl, SqL.of upd_same, at_of (j := 1) rfl rfl, _, rfl, _, rfl, pa, _, _, _, rfl, rfl, SqL.of (ha1 _), at_of e0 (map_get hx), _, rfl, _, rfl, pb, _, _, _, rfl, rfl, SqL.of (hc1 _), at_of e0 (map_get hy), _, _, rfl, rfl, ?_⟩
      refine ⟨_, rfl, _, rfl, pa, _, _, _, rfl, rfl, SqL.of (ha1 _), at_of e0 (map_get hx), _, rfl, _, rfl, pb, _, _, _, rfl, rfl, SqL.of (hc1 _), at_of e0 (map_get hy), _, _, rfl, rfl, _, _, rfl, rfl, .inl ⟨by omega, by omega⟩, _, _, rfl, rfl, ?_⟩
      refine ⟨_, rfl, pd, _, _, 1, rfl, rfl, upd_same, rfl, ?_⟩
      -- due[2]
      refine ⟨fun σ' H' => Same H4 H' ∧ H' pa = some (.lst (za.map V.int)) ∧ H' pd = some (.lst [.int ((ter fMul za zc).take (j + 1)).sum, .int ((ter fSq za zc).take (j + 1)).sum, .int ((ter fNe za zc).take (j + 1)).sum, .int ((ter fMul za za).take j).sum]) ∧ σ' = [some (.ref a), some (.ref st), some (.int (0 + (i : Int))), some (.int n), some (.ref pa), some (.ref pb), some (.int (0 + (j : Int))), some (.ref pd), x8, x9, x10], ?_, ?_⟩
      · rw [s0, s1, s2]
        refine ⟨_, rfl, _, rfl, pa, _, _, _, rfl, rfl, SqL.of (by rw [upd_ne na]; exact ha1 _), at_of e0 (map_get hx), _, rfl, _, rfl, pb, _, _, _, rfl, rfl, SqL.of (by rw [upd_ne nb]; exact hc1 _), at_of e0 (map_get hy), rfl, _, rfl, ?_⟩
        by_cases e : x = y
        · have z : fNe x y = 0 := by unfold fNe; rw [if_pos e]
          rw [decide_eq_true (congrArg V.int e)]
          refine iteF ?_
          refine ⟨same_set (same_set sm hpd) hpd, by rw [upd_ne na]; exact ha1 _, ?_, rfl⟩
          rw [upd_same, z, Int.add_zero]
          rfl
        · have z : fNe x y = 1 := by unfold fNe; rw [if_neg e]
          rw [decide_eq_false (fun h => e (V.int.inj h))]
          refine iteT ?_
          refine ⟨_, rfl, pd, _, _, _, rfl, rfl, SqL.of upd_same, at_of (j := 2) rfl rfl, _, _, rfl, rfl, _, rfl, pd, _, _, 2, rfl, rfl, upd_same, rfl, ?_⟩
          refine ⟨same_set (same_set (same_set sm hpd) hpd) hpd, by rw [upd_ne na, upd_ne na]; exact ha1 _, ?_, rfl⟩
          rw [upd_same, z]
          rfl
      rintro σ' H7 ⟨sm7, ha7, hd7, rfl⟩
      -- due[3]
      refine ⟨_, rfl, pd, _, _, _, rfl, rfl, SqL.of hd7, at_of (j := 3) rfl rfl, _, rfl, _, rfl, pa, _, _, _, rfl, rfl, SqL.of ha7, at_of e0 (map_get hx), _, rfl, _, rfl, pa, _, _, _, rfl, rfl, SqL.of ha7, at_of e0 (map_get hx), _, _, rfl, rfl, .inl ⟨by omega, by omega⟩, _, _, rfl, rfl, ?_⟩
      refine ⟨_, rfl, pd, _, _, 3, rfl, rfl, hd7, rfl, ?_⟩
      refine ⟨same_set sm7 hpd, ?_, _, rfl⟩
      rw [upd_same, s3]
      rfl
    rintro σ H6 ⟨sm, hd, y6, rfl⟩
    have k0 : (ter fMul za zc).length ≤ n.toNat := by rw [ter_len (by omega)]; omega
    have k1 : (ter fSq za zc).length ≤ n.toNat := by rw [ter_len (by omega)]; omega
    have k2 : (ter fNe za zc).length ≤ n.toNat := by rw [ter_len (by omega)]; omega
    have k3 : (ter fMul za za).length ≤ n.toNat := by rw [ter_len rfl]; omega
    rw [List.take_of_length_le k0, List.take_of_length_le k1, List.take_of_length_le k2, List.take_of_length_le k3] at hd
    clear k0 k1 k2 k3
    have wa := (Pa.wide (t := 1000000000000) (by decide)).2.2
    have wc := (Pc.wide (t := 1000000000000) (by decide)).2.2
    have hS6 := hS4.same sm
    have ha := sm _ _ Pa.1
    have hc := sm _ _ Pc.1
    -- one, two
    refine ⟨_, rfl, pa, _, rfl, .inl (SqL.of ha), fun p1 hp1 => ?_⟩
    have sm1 : Same H6 (upd H6 p1 (.lst (za.map V.int))) := same_new hp1
    refine ⟨_, rfl, pb, _, rfl, .inl (SqL.of (sm1 _ _ hc)), fun p2 hp2 => ?_⟩
    have sm2 : Same (upd H6 p1 (.lst (za.map V.int))) (upd (upd H6 p1 (.lst (za.map V.int))) p2 (.lst (zc.map V.int))) := same_new hp2
    have h1 : (upd (upd H6 p1 (.lst (za.map V.int))) p2 (.lst (zc.map V.int))) p1 = some (.lst (za.map V.int)) := sm2 _ _ upd_same
    have h2 : (upd (upd H6 p1 (.lst (za.map V.int))) p2 (.lst (zc.map V.int))) p2 = some (.lst (zc.map V.int)) := upd_same
    have sm3 := sm1.trans sm2
    generalize upd (upd H6 p1 (.lst (za.map V.int))) p2 (.lst (zc.map V.int)) = H7 at h1 h2 sm2 sm3
    have lL : za.length = zc.length := by omega
    have lM : za.length ≤ 1000 := by omega
    -- actual
    refine ⟨_, rfl, _, rfl, p1, p2, za, zc, rfl, SqL.of h1, SqL.of h2, lL, lM, wa, wc, fun H8 s8 => ?_⟩
    refine ⟨_, rfl, _, rfl, p1, p2, za, zc, rfl, SqL.of (s8 _ _ h1), SqL.of (s8 _ _ h2), lL, lM, wa, wc, fun H9 s9 => ?_⟩
    replace s9 := s8.trans s9
    refine ⟨_, rfl, _, rfl, p1, p2, za, zc, rfl, SqL.of (s9 _ _ h1), SqL.of (s9 _ _ h2), lL, lM, wa, wc, fun H10 s10 => ?_⟩
    replace s10 := s9.trans s10
    refine ⟨_, rfl, p1, za, rfl, SqL.of (s10 _ _ h1), lM, wa, fun H11 s11 => ?_⟩
    replace s11 := s10.trans s11
    refine ⟨(by show 4 ≤ sizeLine; decide), fun pr hpr => ?_⟩
    replace s11 := s11.trans (same_new (o := .lst [.int (ter fMul za zc).sum, .int (ter fSq za zc).sum, .int (ter fNe za zc).sum, .int (ter fMul za za).sum]) hpr)
    have hr0 : (upd H11 pr (.lst [.int (ter fMul za zc).sum, .int (ter fSq za zc).sum, .int (ter fNe za zc).sum, .int (ter fMul za za).sum])) pr = some (.lst [.int (ter fMul za zc).sum, .int (ter fSq za zc).sum, .int (ter fNe za zc).sum, .int (ter fMul za za).sum]) := upd_same
    generalize upd H11 pr (.lst [.int (ter fMul za zc).sum, .int (ter fSq za zc).sum, .int (ter fNe za zc).sum, .int (ter fMul za za).sum]) = H12 at s11 hr0
    have sF := sm3.trans s11
    have hd12 := sF _ _ hd
    clear s8 s9 s10 hpr
    refine ⟨4, rfl, by decide, by decide, for_range (lo := 0) (n := 4) (fun j σ H' => H' = H12 ∧ ∃ x6, σ = [some (.ref a), some (.ref st), some (.int (0 + (i : Int))), some (.int n), some (.ref pa), some (.ref pb), x6, some (.ref pd), some (.ref p1), some (.ref p2), some (.ref pr)]) ⟨rfl, y6, rfl⟩ ?_ ?_⟩
    · rintro j σ H' hj ⟨rfl, y6, rfl⟩
      have e0 : (0 : Int) + (j : Int) = (j : Int) := by omega
      obtain ⟨z, hz⟩ : ∃ z, atI [V.int (ter fMul za zc).sum, V.int (ter fSq za zc).sum, V.int (ter fNe za zc).sum, V.int (ter fMul za za).sum] (0 + (j : Int)) = some (.int z) := by
        rw [e0]
        match j, hj with
        | 0, _ => exact ⟨_, at_of (j := 0) rfl rfl⟩
        | 1, _ => exact ⟨_, at_of (j := 1) rfl rfl⟩
        | 2, _ => exact ⟨_, at_of (j := 2) rfl rfl⟩
        | 3, _ => exact ⟨_, at_of (j := 3) rfl rfl⟩
      refine ⟨_, rfl, _, rfl, pr, _, _, _, rfl, rfl, SqL.of hr0, hz, z, rfl, true, rfl, iteF ?_⟩
      refine ⟨_, rfl, _, rfl, pr, _, _, _, rfl, rfl, SqL.of hr0, hz, _, rfl, _, rfl, pd, _, _, _, rfl, rfl, SqL.of hd12, hz, rfl, _, rfl, ?_⟩
      rw [decide_eq_true rfl]
      exact iteF ⟨rfl, _, rfl⟩
    rintro σ H' ⟨rfl, y6, rfl⟩
    -- if one != a or two != b
    have dp : ∀ {p : Addr} {xs : List Int}, H' p = some (.lst (xs.map V.int)) → Dp K H' (.ref p) (.list (xs.map PyData.int)) := fun h => .lst (SqL.of h) (dp_ints _)
    refine ⟨_, rfl, _, rfl, _, _, dp (s11 _ _ h1), dp (sF _ _ ha), PySem.W.ke_shaped_ints _, PySem.W.ke_shaped_ints _, _, rfl, ?_⟩
    rw [eqv_ints]
    refine iteF ?_
    refine ⟨_, rfl, _, rfl, _, _, dp (s11 _ _ h2), dp (sF _ _ hc), PySem.W.ke_shaped_ints _, PySem.W.ke_shaped_ints _, _, rfl, ?_⟩
    rw [eqv_ints]
    refine iteF ?_
    exact ⟨hS6.same sF, _, _, _, _, _, _, _, _, _, rfl⟩
end
theorem all_mk {l : PySem.W.OpenLaw} {w : World} {K : PySem.W.Frag} {h : Heap} {mg : Str → Option Value} {fa f0 f1 f2 f3 f4 f5 f6 f7 f8 : Addr} (X : K.In h) (G : h.Ns mainGlobals mg) (hfa : mg "law" = some (.ref fa))
    {od0 an0 od1 an1 od2 an2 od3 an3 od4 an4 od5 an5 od6 an6 od7 an7 od8 an8 : Option Addr} {sl0 sl1 sl2 sl3 sl4 sl5 sl6 sl7 sl8 : Array (Option Value)} {oc0 kV0 dc0 pm0 cd0 ct0 oc1 kV1 dc1 pm1 cd1 ct1 oc2 kV2 dc2 pm2 cd2 ct2 oc3 kV3 dc3 pm3 cd3 ct3 oc4 kV4 dc4 pm4 cd4 ct4 oc5 kV5 dc5 pm5 cd5 ct5 oc6 kV6 dc6 pm6 cd6 ct6 oc7 kV7 dc7 pm7 cd7 ct7 oc8 kV8 dc8 pm8 cd8 ct8 : Value}
    (a0 : PySem.W.nsIn K mainGlobals "_law_row" = some (some (.ref f0))) (l0 : K.lookup f0 = some ⟨oc0, od0, .func (PySem.W.fnOf "_law_row" "_law_row" (defArgs s_law_row) (defBody s_law_row) (defScope s_law_row) .none kV0 dc0 pm0 an0 cd0 ct0), sl0⟩) (c0 : PySem.W.codeIn K cd0 "_law_row" = true) (k0 : PySem.W.keepIn K (.ref f0) = true)
    (a1 : PySem.W.nsIn K mainGlobals "_law_next" = some (some (.ref f1))) (l1 : K.lookup f1 = some ⟨oc1, od1, .func (PySem.W.fnOf "_law_next" "_law_next" (defArgs s_law_next) (defBody s_law_next) (defScope s_law_next) .none kV1 dc1 pm1 an1 cd1 ct1), sl1⟩) (c1 : PySem.W.codeIn K cd1 "_law_next" = true) (k1 : PySem.W.keepIn K (.ref f1) = true)
    (a2 : PySem.W.nsIn K mainGlobals "_law_is_integer" = some (some (.ref f2))) (l2 : K.lookup f2 = some ⟨oc2, od2, .func (PySem.W.fnOf "_law_is_integer" "_law_is_integer" (defArgs s_law_is_integer) (defBody s_law_is_integer) (defScope s_law_is_integer) .none kV2 dc2 pm2 an2 cd2 ct2), sl2⟩) (c2 : PySem.W.codeIn K cd2 "_law_is_integer" = true) (k2 : PySem.W.keepIn K (.ref f2) = true)
    (a3 : PySem.W.nsIn K mainGlobals "inner" = some (some (.ref f3))) (l3 : K.lookup f3 = some ⟨oc3, od3, .func (PySem.W.fnOf "inner" "inner" (defArgs s_inner) (defBody s_inner) (defScope s_inner) .none kV3 dc3 pm3 an3 cd3 ct3), sl3⟩) (c3 : PySem.W.codeIn K cd3 "inner" = true) (k3 : PySem.W.keepIn K (.ref f3) = true)
    (a4 : PySem.W.nsIn K mainGlobals "distance" = some (some (.ref f4))) (l4 : K.lookup f4 = some ⟨oc4, od4, .func (PySem.W.fnOf "distance" "distance" (defArgs s_distance) (defBody s_distance) (defScope s_distance) .none kV4 dc4 pm4 an4 cd4 ct4), sl4⟩) (c4 : PySem.W.codeIn K cd4 "distance" = true) (k4 : PySem.W.keepIn K (.ref f4) = true)
    (a5 : PySem.W.nsIn K mainGlobals "differing" = some (some (.ref f5))) (l5 : K.lookup f5 = some ⟨oc5, od5, .func (PySem.W.fnOf "differing" "differing" (defArgs s_differing) (defBody s_differing) (defScope s_differing) .none kV5 dc5 pm5 an5 cd5 ct5), sl5⟩) (c5 : PySem.W.codeIn K cd5 "differing" = true) (k5 : PySem.W.keepIn K (.ref f5) = true)
    (a6 : PySem.W.nsIn K mainGlobals "norm" = some (some (.ref f6))) (l6 : K.lookup f6 = some ⟨oc6, od6, .func (PySem.W.fnOf "norm" "norm" (defArgs s_norm) (defBody s_norm) (defScope s_norm) .none kV6 dc6 pm6 an6 cd6 ct6), sl6⟩) (c6 : PySem.W.codeIn K cd6 "norm" = true) (k6 : PySem.W.keepIn K (.ref f6) = true)
    (a7 : PySem.W.nsIn K mainGlobals "_law_vector" = some (some (.ref f7))) (l7 : K.lookup f7 = some ⟨oc7, od7, .func (PySem.W.fnOf "_law_vector" "_law_vector" (defArgs s_law_vector) (defBody s_law_vector) (defScope s_law_vector) .none kV7 dc7 pm7 an7 cd7 ct7), sl7⟩) (c7 : PySem.W.codeIn K cd7 "_law_vector" = true) (k7 : PySem.W.keepIn K (.ref f7) = true)
    (a8 : PySem.W.nsIn K mainGlobals "law" = some (some (.ref f8))) (l8 : K.lookup f8 = some ⟨oc8, od8, .func (PySem.W.fnOf "law" "law" (defArgs s_law) (defBody s_law) (defScope s_law) .none kV8 dc8 pm8 an8 cd8 ct8), sl8⟩) (c8 : PySem.W.codeIn K cd8 "law" = true) (k8 : PySem.W.keepIn K (.ref f8) = true)
    (z_bool : PySem.W.nsIn K mainGlobals "bool" = some none)
    (z_int : PySem.W.nsIn K mainGlobals "int" = some none)
    (z_isinstance : PySem.W.nsIn K mainGlobals "isinstance" = some none)
    (z_len : PySem.W.nsIn K mainGlobals "len" = some none)
    (z_list : PySem.W.nsIn K mainGlobals "list" = some none)
    (z_range : PySem.W.nsIn K mainGlobals "range" = some none)
    (z_sum : PySem.W.nsIn K mainGlobals "sum" = some none)
    (z_zip : PySem.W.nsIn K mainGlobals "zip" = some none)
    : ∃ fd : FuncData, (∀ (s : Shared) (v : Value), BindsTo s fd ⟨[v], []⟩ [("script", v)]) ∧ ∀ base : Heap, K.In base → base.Ns mainGlobals mg → FnOk l.prog w K mg base CX0 4 fa fd ["script"] (sp_law K) := by
  have e := hfa.symm.trans (PySem.W.mg_of X G a8)
  cases e
  have F0 := fun_mk (st := s_law_row) l0 c0 k0
  have b0 := F0.binds (ps := ["script", "k"]) fun _ _ _ _ _ _ us hl => match us, hl with | [_, _], _ => rfl
  have F1 := fun_mk (st := s_law_next) l1 c1 k1
  have b1 := F1.binds (ps := ["state", "many"]) fun _ _ _ _ _ _ us hl => match us, hl with | [_, _], _ => rfl
  have F2 := fun_mk (st := s_law_is_integer) l2 c2 k2
  have b2 := F2.binds (ps := ["actual"]) fun _ _ _ _ _ _ us hl => match us, hl with | [_], _ => rfl
  have F3 := fun_mk (st := s_inner) l3 c3 k3
  have b3 := F3.binds (ps := ["a", "b"]) fun _ _ _ _ _ _ us hl => match us, hl with | [_, _], _ => rfl
  have F4 := fun_mk (st := s_distance) l4 c4 k4
  have b4 := F4.binds (ps := ["a", "b"]) fun _ _ _ _ _ _ us hl => match us, hl with | [_, _], _ => rfl
  have F5 := fun_mk (st := s_differing) l5 c5 k5
  have b5 := F5.binds (ps := ["a", "b"]) fun _ _ _ _ _ _ us hl => match us, hl with | [_, _], _ => rfl
  have F6 := fun_mk (st := s_norm) l6 c6 k6
  have b6 := F6.binds (ps := ["a"]) fun _ _ _ _ _ _ us hl => match us, hl with | [_], _ => rfl
  have F7 := fun_mk (st := s_law_vector) l7 c7 k7
  have b7 := F7.binds (ps := ["state", "size"]) fun _ _ _ _ _ _ us hl => match us, hl with | [_, _], _ => rfl
  have F8 := fun_mk (st := s_law) l8 c8 k8
  have b8 := F8.binds (ps := ["script"]) fun _ _ _ _ _ _ us hl => match us, hl with | [_], _ => rfl
  let T : Txt K mg := ⟨_, _, F0, b0, PySem.W.mg_of X G a0,
    _, _, F1, b1, PySem.W.mg_of X G a1,
    _, _, F2, b2, PySem.W.mg_of X G a2,
    _, _, F3, b3, PySem.W.mg_of X G a3,
    _, _, F4, b4, PySem.W.mg_of X G a4,
    _, _, F5, b5, PySem.W.mg_of X G a5,
    _, _, F6, b6, PySem.W.mg_of X G a6,
    _, _, F7, b7, PySem.W.mg_of X G a7,
    _, _, F8, b8, PySem.W.mg_of X G a8,
    PySem.W.mg_none_of X G z_bool,
    PySem.W.mg_none_of X G z_int,
    PySem.W.mg_none_of X G z_isinstance,
    PySem.W.mg_none_of X G z_len,
    PySem.W.mg_none_of X G z_list,
    PySem.W.mg_none_of X G z_range,
    PySem.W.mg_none_of X G z_sum,
    PySem.W.mg_none_of X G z_zip⟩
  exact ⟨_, fun s v => .of_eq rfl, fun base _ _ => ok_law T⟩
end K01
open PySem PySem.W PyProof.Rows
set_option maxRecDepth 100000 in
set_option maxHeartbeats 0 in
theorem PySem.Challenge.cw_surenear_k01_vectors_holds : PySem.Challenge.rw_surenear_k01_vectors.Holds := by
  w_on; o_law; k_head; (case hw => w_witness2)
  k_fill
  refine L2.walk_of (l := PySem.Challenge.rw_surenear_k01_vectors) (n := 63) (k := 4) (x := "script") (CX := fun _ => L2.CX0) (sp := fun w => K01.sp_law _) rfl (by decide) rfl ⟨rfl, by decide, by decide⟩ (fun w h Y => PySem.W.kIn_of Y) ?F (fun _ _ a ns hl _ hS => ⟨a, ns, rfl, hS, hl, fun _ => rfl⟩) (fun _ _ _ _ _ h => h)
  case F =>
    intro w mg fa h KX G hmg
    refine' K01.all_mk KX G hmg ?a0 ?l0 ?c0 ?k0 ?a1 ?l1 ?c1 ?k1 ?a2 ?l2 ?c2 ?k2 ?a3 ?l3 ?c3 ?k3 ?a4 ?l4 ?c4 ?k4 ?a5 ?l5 ?c5 ?k5 ?a6 ?l6 ?c6 ?k6 ?a7 ?l7 ?c7 ?k7 ?a8 ?l8 ?c8 ?k8 ?z_bool ?z_int ?z_isinstance ?z_len ?z_list ?z_range ?z_sum ?z_zip
    (case a0 => k_is); (case l0 => k_is); (case c0 => k_is); (case k0 => k_is); (case a1 => k_is); (case l1 => k_is); (case c1 => k_is); (case k1 => k_is); (case a2 => k_is); (case l2 => k_is); (case c2 => k_is); (case k2 => k_is); (case a3 => k_is); (case l3 => k_is); (case c3 => k_is); (case k3 => k_is); (case a4 => k_is); (case l4 => k_is); (case c4 => k_is); (case k4 => k_is); (case a5 => k_is); (case l5 => k_is); (case c5 => k_is); (case k5 => k_is); (case a6 => k_is); (case l6 => k_is); (case c6 => k_is); (case k6 => k_is); (case a7 => k_is); (case l7 => k_is); (case c7 => k_is); (case k7 => k_is); (case a8 => k_is); (case l8 => k_is); (case c8 => k_is); (case k8 => k_is); (case z_bool => k_is); (case z_int => k_is); (case z_isinstance => k_is); (case z_len => k_is); (case z_list => k_is); (case z_range => k_is); (case z_sum => k_is); (case z_zip => k_is)
