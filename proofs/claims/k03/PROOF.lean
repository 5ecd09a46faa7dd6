import PyProof.Rows.All
import Wide.All
import OpenK.AllK
import Wide.FinOn
import HandS.ForMost
import HandS.Codes
import HandS.Wide
import HandS.IsInst
import PySem.Challenge.RW_surenear_k03_splits_of_two_centres
set_option Elab.async false
set_option linter.all false
set_option maxRecDepth 100000
namespace K03
open PySem PySem.Spec PyProof.Rows L2
open C8 (tCut pss_cut)
/-! the text by places -/
def topS (i : Nat) : Stmt := PySem.Challenge.pw_surenear_k03_splits_of_two_centres.main.body.getD i (.Pass ⟨0, 0, 0, 0⟩)
abbrev s_law_row : Stmt := (topS 3)
abbrev s_law_next : Stmt := (topS 4)
abbrev s_law_is_integer : Stmt := (topS 5)
abbrev s_law_point : Stmt := (topS 6)
abbrev s_law_distance : Stmt := (topS 7)
abbrev s_split : Stmt := (topS 1)
abbrev s_law_due : Stmt := (topS 8)
abbrev s_law : Stmt := (topS 9)
theorem sc_law_row : FnScope ["script", "k", "cell", "a", "b", "c"] ["script", "k"] (defScope s_law_row) := ⟨rfl, rfl, rfl, by decide +kernel, rfl, by decide +kernel, by decide +kernel⟩
theorem sc_law_next : FnScope ["state", "many", "drawn"] ["state", "many"] (defScope s_law_next) := ⟨rfl, rfl, rfl, by decide +kernel, rfl, by decide +kernel, by decide +kernel⟩
theorem sc_law_is_integer : FnScope ["actual"] ["actual"] (defScope s_law_is_integer) := ⟨rfl, rfl, rfl, by decide +kernel, rfl, by decide +kernel, by decide +kernel⟩
theorem sc_law_point : FnScope ["state", "size", "spread", "k"] ["state", "size", "spread"] (defScope s_law_point) := ⟨rfl, rfl, rfl, by decide +kernel, rfl, by decide +kernel, by decide +kernel⟩
theorem sc_law_distance : FnScope ["a", "b", "total", "k"] ["a", "b"] (defScope s_law_distance) := ⟨rfl, rfl, rfl, by decide +kernel, rfl, by decide +kernel, by decide +kernel⟩
theorem sc_split : FnScope ["d", "e", "f"] ["d", "e", "f"] (defScope s_split) := ⟨rfl, rfl, rfl, by decide +kernel, rfl, by decide +kernel, by decide +kernel⟩
theorem sc_law_due : FnScope ["d", "e", "f", "due"] ["d", "e", "f"] (defScope s_law_due) := ⟨rfl, rfl, rfl, by decide +kernel, rfl, by decide +kernel, by decide +kernel⟩
theorem sc_law : FnScope ["script", "state", "turn", "size", "spread", "query", "first", "second", "point", "share", "k", "d", "e", "actual"] ["script"] (defScope s_law) := ⟨rfl, rfl, rfl, by decide +kernel, rfl, by decide +kernel, by decide +kernel⟩
/-! the mathematics -/

/-- the state of the draws stands at st -/
def StAt (H : Hp) (st sc : Addr) : Prop := ∃ (ns : List Int) (k x : Int), H st = some (.lst [.ref sc, .int k, .int x]) ∧ H sc = some (.lst (ns.map V.int)) ∧ 0 ≤ k ∧ 0 ≤ x ∧ ns.length ≤ 63
/-- all but st is as it was -/
def Oth (st : Addr) (H H' : Hp) : Prop := ∀ b, b ≠ st → H' b = H b
theorem Oth.refl (st : Addr) (H : Hp) : Oth st H H := fun _ _ => rfl
theorem Oth.trans {st : Addr} {H H1 H2 : Hp} (a : Oth st H H1) (b : Oth st H1 H2) : Oth st H H2 := fun c h => (b c h).trans (a c h)
theorem item_map {ns : List Int} {k : Int} (h0 : 0 ≤ k) (h1 : k < ns.length) : ∃ c, atI (ns.map V.int) k = some (.int c) := by
  have hj : k.toNat < ns.length := by omega
  refine ⟨ns[k.toNat], at_of (j := k.toNat) (by omega) ?_⟩
  rw [List.getElem?_map, List.getElem?_eq_getElem hj]
  rfl

/-- what was tracked is so still, but for what stands at st -/
def Fr (st : Addr) (H H' : Hp) : Prop := ∀ b o, H b = some o → b ≠ st → H' b = some o
theorem Fr.refl (st : Addr) (H : Hp) : Fr st H H := fun _ _ h _ => h
theorem Fr.trans {st : Addr} {H H1 H2 : Hp} (a : Fr st H H1) (b : Fr st H1 H2) : Fr st H H2 := fun c o h n => b c o (a c o h n) n
theorem Oth.fr {st : Addr} {H H' : Hp} (h : Oth st H H') : Fr st H H' := fun b _ e n => (h b n).trans e
theorem Fr.new {st : Addr} {H : Hp} {p : Addr} {o : HO} (h : H p = none) : Fr st H (upd H p o) := fun b u e _ => by
  rw [upd_ne (ne_of_none e h)]
  exact e
theorem Fr.set {st : Addr} {H H' : Hp} {p : Addr} {o : HO} (f : Fr st H H') (h : H p = none) : Fr st H (upd H' p o) := fun b u e n => by
  rw [upd_ne (ne_of_none e h)]
  exact f b u e n
theorem Fr.lst {st : Addr} {H H' : Hp} (f : Fr st H H') {b : Addr} {o : HO} (e : H b = some o) (n : b ≠ st) : H' b = some o := f b o e n
/-- a list of integers is not the state -/
theorem st_ne {H : Hp} {st b sc : Addr} (hS : StAt H st sc) {xs : List Int} (h : H b = some (.lst (xs.map V.int))) : b ≠ st := fun e => by
  obtain ⟨ns, k, x, h1, _⟩ := hS
  rw [e, h1] at h
  have z := HO.lst.inj (Option.some.inj h)
  cases xs with
  | nil => cases z
  | cons y r => cases (List.cons.inj z).1
theorem st_new {H : Hp} {st b sc : Addr} (hS : StAt H st sc) (h : H b = none) : b ≠ st := fun e => by
  obtain ⟨ns, k, x, h1, _⟩ := hS
  rw [e, h1] at h
  cases h
/-- the state's own list of the script stands apart from all that is new -/
theorem StAt.new {H : Hp} {st p sc : Addr} {o : HO} (hS : StAt H st sc) (hn : H p = none) : StAt (upd H p o) st sc := by
  obtain ⟨ns, k, x, h1, h2, k0, x0, hl⟩ := hS
  exact ⟨ns, k, x, by rw [upd_ne (ne_of_none h1 hn)]; exact h1, by rw [upd_ne (ne_of_none h2 hn)]; exact h2, k0, x0, hl⟩
theorem StAt.set {H H' : Hp} {st p sc : Addr} {o : HO} (hS' : StAt H' st sc) (hS : StAt H st sc) (hn : H p = none) : StAt (upd H' p o) st sc := by
  obtain ⟨ns, k, x, h1, h2, k0, x0, hl⟩ := hS
  obtain ⟨ns', k', x', h1', h2', k0', x0', hl'⟩ := hS'
  exact ⟨ns', k', x', by rw [upd_ne (ne_of_none h1 hn)]; exact h1', by rw [upd_ne (ne_of_none h2 hn)]; exact h2', k0', x0', hl'⟩
def Bd (n : Int) (xs : List Int) : Prop := ∀ z ∈ xs, -n ≤ z ∧ z ≤ n
theorem Bd.at {n : Int} {xs : List Int} (h : Bd n xs) {i : Nat} {z : Int} (e : xs[i]? = some z) : -n ≤ z ∧ z ≤ n := h z (List.mem_of_getElem? e)
def dist : List Int → List Int → Int
  | x :: xs, y :: ys => (x - y) * (x - y) + dist xs ys
  | _, _ => 0
theorem sq_nn (x : Int) : 0 ≤ x * x := by
  rcases Int.le_total 0 x with h | h
  · exact Int.mul_nonneg h h
  · have := Int.mul_nonneg (Int.neg_nonneg_of_nonpos h) (Int.neg_nonneg_of_nonpos h)
    rwa [Int.neg_mul_neg] at this
theorem dist_nn : ∀ xs ys : List Int, 0 ≤ dist xs ys
  | [], _ => by unfold dist; exact Int.le_refl 0
  | _ :: _, [] => by unfold dist; exact Int.le_refl 0
  | x :: xs, y :: ys => by
    unfold dist
    have := dist_nn xs ys
    have := sq_nn (x - y)
    omega
theorem dist_take : ∀ {xs ys : List Int} {i : Nat} {x y : Int}, xs[i]? = some x → ys[i]? = some y → dist (xs.take (i + 1)) (ys.take (i + 1)) = dist (xs.take i) (ys.take i) + (x - y) * (x - y)
  | [], _, _, _, _, h, _ => by simp at h
  | _ :: _, [], _, _, _, _, h => by simp at h
  | a :: r, b :: t, 0, x, y, h, h2 => by
    have e1 : a = x := Option.some.inj h
    have e2 : b = y := Option.some.inj h2
    subst e1 e2
    simp [dist]
  | a :: r, b :: t, i + 1, x, y, h, h2 => by
    have ih := dist_take (xs := r) (ys := t) (i := i) (x := x) (y := y) h h2
    show (a - b) * (a - b) + dist (r.take (i + 1)) (t.take (i + 1)) = (a - b) * (a - b) + dist (r.take i) (t.take i) + (x - y) * (x - y)
    rw [ih]
    omega
theorem sq_le {x n : Int} (h1 : -n ≤ x) (h2 : x ≤ n) : x * x ≤ n * n := by
  have a : 0 ≤ n - x := by omega
  have b : 0 ≤ n + x := by omega
  have c := Int.mul_nonneg a b
  have e : (n - x) * (n + x) = n * n - x * x := by grind
  omega
theorem dist_le {n : Int} : ∀ {xs ys : List Int}, Bd n xs → Bd n ys → dist xs ys ≤ xs.length * (4 * (n * n))
  | [], _, _, _ => by simp [dist]
  | x :: xs, [], _, _ => by
    unfold dist
    exact Int.mul_nonneg (Int.natCast_nonneg _) (Int.mul_nonneg (by decide) (sq_nn n))
  | x :: xs, y :: ys, hx, hy => by
    have ih := dist_le (n := n) (xs := xs) (ys := ys) (fun z h => hx z (List.mem_cons_of_mem _ h)) (fun z h => hy z (List.mem_cons_of_mem _ h))
    have h1 := hx x (List.mem_cons_self)
    have h2 := hy y (List.mem_cons_self)
    have h3 : (x - y) * (x - y) ≤ (2 * n) * (2 * n) := sq_le (by omega) (by omega)
    have e : (2 * n) * (2 * n) = 4 * (n * n) := by grind
    unfold dist
    rw [List.length_cons]
    have e2 : ((xs.length + 1 : Nat) : Int) * (4 * (n * n)) = xs.length * (4 * (n * n)) + 4 * (n * n) := by grind
    omega
theorem get_map {xs : List Int} {i : Nat} {y : V} (h : (xs.map V.int)[i]? = some y) : ∃ z, y = V.int z ∧ xs[i]? = some z := by
  rw [List.getElem?_map] at h
  cases e : xs[i]? with
  | none =>
    rw [e] at h
    cases h
  | some z =>
    rw [e] at h
    exact ⟨z, (Option.some.inj h).symm, rfl⟩
theorem map_get {xs : List Int} {i : Nat} {z : Int} (h : xs[i]? = some z) : (xs.map V.int)[i]? = some (V.int z) := by
  rw [List.getElem?_map, h]
  rfl
theorem len_le {n : Nat} (h : n ≤ 1000) : n < sizeLine := small1000 h

/-- at p stands a list of n integers, none beyond s -/
def IsPt (H : Hp) (p : Addr) (n s : Int) (zs : List Int) : Prop := H p = some (.lst (zs.map V.int)) ∧ (zs.length : Int) = n ∧ Bd s zs
theorem IsPt.fr {H H' : Hp} {p st sc : Addr} {n s : Int} {zs : List Int} (h : IsPt H p n s zs) (hS : StAt H st sc) (f : Fr st H H') : IsPt H' p n s zs := ⟨f _ _ h.1 (st_ne hS h.1), h.2.1, h.2.2⟩
theorem IsPt.wide {H : Hp} {p : Addr} {n s t : Int} {zs : List Int} (h : IsPt H p n s zs) (e : s ≤ t) : IsPt H p n t zs := ⟨h.1, h.2.1, fun z hz => by have := h.2.2 z hz; omega⟩
theorem IsPt.get {H : Hp} {p : Addr} {n s : Int} {zs : List Int} (h : IsPt H p n s zs) {i : Nat} (hi : (i : Int) < n) : ∃ z, zs[i]? = some z ∧ -s ≤ z ∧ z ≤ s := by
  have hl : i < zs.length := by have := h.2.1; omega
  exact ⟨zs[i], List.getElem?_eq_getElem hl, h.2.2.at (List.getElem?_eq_getElem hl)⟩
theorem dist_small {H : Hp} {p r : Addr} {n : Int} {xs ys : List Int} (h1 : IsPt H p n 30000 xs) (h2 : IsPt H r n 30000 ys) (hn : n ≤ 5) : 0 ≤ dist xs ys ∧ dist xs ys < 100000000000 := by
  refine ⟨dist_nn _ _, ?_⟩
  have a := dist_le h1.2.2 h2.2.2
  have b := h1.2.1
  have e : (30000 : Int) * 30000 = 900000000 := by decide
  rw [e] at a
  have : (xs.length : Int) * (4 * 900000000) ≤ 5 * (4 * 900000000) := by omega
  omega
theorem pick4 {a b c d k : Int} (h0 : 0 ≤ k) (h1 : k < 4) : ∃ v, atI [V.int a, V.int b, V.int c, V.int d] k = some (.int v) ∧ (v = a ∨ v = b ∨ v = c ∨ v = d) := by
  have : k = 0 ∨ k = 1 ∨ k = 2 ∨ k = 3 := by omega
  rcases this with rfl | rfl | rfl | rfl
  · exact ⟨a, at_of (j := 0) rfl rfl, .inl rfl⟩
  · exact ⟨b, at_of (j := 1) rfl rfl, .inr (.inl rfl)⟩
  · exact ⟨c, at_of (j := 2) rfl rfl, .inr (.inr (.inl rfl))⟩
  · exact ⟨d, at_of (j := 3) rfl rfl, .inr (.inr (.inr rfl))⟩
theorem st_made {H : Hp} {sc st : Addr} {ns : List Int} (h1 : H sc = none) (h2 : upd H sc (.lst (ns.map V.int)) st = none) (hl : ns.length ≤ 63) : StAt (upd (upd H sc (.lst (ns.map V.int))) st (.lst [.ref sc, .int 0, .int 0])) st sc := by
  have ne : sc ≠ st := fun e => by
    rw [← e, upd_same] at h2
    cases h2
  exact ⟨ns, 0, 0, upd_same, by rw [upd_ne ne, upd_same], by decide, by decide, hl⟩

def splitZ (d e f : Int) : Int := if e ≥ d ∨ f = 0 then 0 else -((-((d - e) * (d - e))) / (4 * f))
/-- a quotient rounded up, in two ways -/
theorem ceil_two {n m : Int} (hm : 0 < m) : -((-n) / m) = if n / m * m < n then n / m + 1 else n / m := by
  have a := Int.mul_ediv_add_emod n m
  have b0 := Int.emod_nonneg n (show m ≠ 0 by omega)
  have b1 := Int.emod_lt_of_pos n hm
  have c := Int.mul_ediv_add_emod (-n) m
  have d0 := Int.emod_nonneg (-n) (show m ≠ 0 by omega)
  have d1 := Int.emod_lt_of_pos (-n) hm
  generalize n / m = x at *
  generalize n % m = r at *
  generalize (-n) / m = y at *
  generalize (-n) % m = t at *
  have e : m * (x + y) + (r + t) = 0 := by grind
  have e2 : m * x = x * m := Int.mul_comm _ _
  by_cases h : x * m < n
  · rw [if_pos h]
    have hr : 0 < r := by omega
    have k1 : x + y < 0 := by
      rcases Int.lt_or_le (x + y) 0 with g | g
      · exact g
      · have := Int.mul_nonneg (Int.le_of_lt hm) g
        omega
    have k2 : ¬ x + y < -1 := fun g => by
      have : 0 ≤ m * (-2 - (x + y)) := Int.mul_nonneg (Int.le_of_lt hm) (by omega)
      have e3 : m * (-2 - (x + y)) = -2 * m - m * (x + y) := by grind
      omega
    omega
  · rw [if_neg h]
    have hr : r = 0 := by omega
    subst hr
    have k1 : ¬ 0 < x + y := fun g => by
      have : 0 ≤ m * (x + y - 1) := Int.mul_nonneg (Int.le_of_lt hm) (by omega)
      have e3 : m * (x + y - 1) = m * (x + y) - m := by grind
      omega
    have k2 : ¬ x + y < 0 := fun g => by
      have : 0 ≤ m * (-1 - (x + y)) := Int.mul_nonneg (Int.le_of_lt hm) (by omega)
      have e3 : m * (-1 - (x + y)) = -m - m * (x + y) := by grind
      omega
    omega
theorem ceil_le {n m g : Int} (hm : 0 < m) (h : n ≤ m * g) : -((-n) / m) ≤ g := by
  have c := Int.mul_ediv_add_emod (-n) m
  have d0 := Int.emod_nonneg (-n) (show m ≠ 0 by omega)
  have d1 := Int.emod_lt_of_pos (-n) hm
  generalize (-n) / m = y at *
  generalize (-n) % m = t at *
  have k : ¬ g < -y := fun k => by
    have : 0 ≤ m * (-y - g - 1) := Int.mul_nonneg (Int.le_of_lt hm) (by omega)
    have e3 : m * (-y - g - 1) = -(m * y) - m * g - m := by grind
    omega
  omega
/-- the sum of (b - a)(q - p) -/
def dotd : List Int → List Int → List Int → List Int → Int
  | a :: as, b :: bs, p :: ps, q :: qs => (b - a) * (q - p) + dotd as bs ps qs
  | _, _, _, _ => 0
theorem dotd_quad (t r : Int) : ∀ as bs ps qs : List Int, as.length = bs.length → as.length = ps.length → as.length = qs.length → 0 ≤ t * t * dist as bs - 2 * t * r * dotd as bs ps qs + r * r * dist ps qs
  | [], [], [], [], _, _, _ => by simp [dist, dotd]
  | a :: as, b :: bs, p :: ps, q :: qs, h1, h2, h3 => by
    have ih := dotd_quad t r as bs ps qs (by simpa using h1) (by simpa using h2) (by simpa using h3)
    have h := sq_nn (t * (b - a) - r * (q - p))
    unfold dist dotd
    grind
  | [], _ :: _, _, _, h, _, _ => by simp at h
  | [], [], _ :: _, _, _, h, _ => by simp at h
  | [], [], [], _ :: _, _, _, h => by simp at h
  | _ :: _, [], _, _, h, _, _ => by simp at h
  | _ :: _, _ :: _, [], _, _, h, _ => by simp at h
  | _ :: _, _ :: _, _ :: _, [], _, _, h => by simp at h
theorem cauchy {as bs ps qs : List Int} (h1 : as.length = bs.length) (h2 : as.length = ps.length) (h3 : as.length = qs.length) : dotd as bs ps qs * dotd as bs ps qs ≤ dist as bs * dist ps qs := by
  have f := fun t r => dotd_quad t r as bs ps qs h1 h2 h3
  have hF := dist_nn as bs
  have hG := dist_nn ps qs
  generalize dist as bs = F at *
  generalize dist ps qs = G at *
  generalize dotd as bs ps qs = S at *
  by_cases g : G = 0
  · subst g
    by_cases s : S = 0
    · subst s
      omega
    · exfalso
      have k := f 1 ((F + 1) * S)
      have s1 : 1 ≤ S * S := by
        have := sq_nn S
        have : S * S ≠ 0 := fun e => s (by simpa using Int.mul_eq_zero.mp e)
        omega
      have k2 : 0 ≤ F - 2 * (F + 1) * (S * S) := by grind
      have k3 : 0 ≤ (F + 1) * (S * S - 1) := Int.mul_nonneg (by omega) (by omega)
      have k4 : (F + 1) * (S * S - 1) = (F + 1) * (S * S) - F - 1 := by grind
      have k5 : 2 * (F + 1) * (S * S) = 2 * ((F + 1) * (S * S)) := by grind
      omega
  · have k := f G S
    have k2 : G * G * F - 2 * G * S * S + S * S * G = G * (F * G - S * S) := by grind
    rw [k2] at k
    rcases Int.lt_or_le (F * G) (S * S) with l | l
    · exfalso
      have : 0 ≤ (G - 1) * (S * S - F * G - 1) := Int.mul_nonneg (by omega) (by omega)
      have e : G * (F * G - S * S) = -((G - 1) * (S * S - F * G - 1)) - (S * S - F * G - 1) - G := by grind
      omega
    · exact l
theorem dist_diff : ∀ as bs ps qs : List Int, as.length = bs.length → as.length = ps.length → as.length = qs.length → dist qs as - dist qs bs = 2 * dotd as bs ps qs + (dist ps as - dist ps bs)
  | [], [], [], [], _, _, _ => by simp [dist, dotd]
  | a :: as, b :: bs, p :: ps, q :: qs, h1, h2, h3 => by
    have ih := dist_diff as bs ps qs (by simpa using h1) (by simpa using h2) (by simpa using h3)
    unfold dist dotd
    grind
  | [], _ :: _, _, _, h, _, _ => by simp at h
  | [], [], _ :: _, _, _, h, _ => by simp at h
  | [], [], [], _ :: _, _, _, h => by simp at h
  | _ :: _, [], _, _, h, _, _ => by simp at h
  | _ :: _, _ :: _, [], _, _, h, _ => by simp at h
  | _ :: _, _ :: _, _ :: _, [], _, _, h => by simp at h
/-- the split is a bound of the distance -/
theorem split_safe {as bs ps qs : List Int} (h1 : as.length = bs.length) (h2 : as.length = ps.length) (h3 : as.length = qs.length) (hp : dist ps as ≤ dist ps bs) :
    splitZ (dist qs as) (dist qs bs) (dist as bs) ≤ dist ps qs := by
  unfold splitZ
  by_cases c : dist qs bs ≥ dist qs as ∨ dist as bs = 0
  · rw [if_pos c]
    exact dist_nn _ _
  · rw [if_neg c]
    have c1 : dist qs bs < dist qs as := by omega
    have c2 : 0 < dist as bs := by have := dist_nn as bs; omega
    have e := dist_diff as bs ps qs h1 h2 h3
    have k := cauchy h1 h2 h3
    refine ceil_le (by omega) ?_
    have x2 : 0 < dist qs as - dist qs bs := by omega
    have x1 : 0 ≤ 2 * dotd as bs ps qs - (dist qs as - dist qs bs) := by omega
    generalize dist as bs = F at *
    generalize dist ps qs = G at *
    generalize dotd as bs ps qs = S at *
    generalize dist qs as - dist qs bs = x at *
    have x3 := Int.mul_nonneg x1 (show 0 ≤ 2 * S + x by omega)
    have x4 : (2 * S - x) * (2 * S + x) = 4 * (S * S) - x * x := by grind
    have x5 : 4 * F * G = 4 * (F * G) := by grind
    omega

/-! what the top has made -/
structure Txt (K : PySem.W.Frag) (mg : Str → Option Value) where
  f_law_row : Addr
  d_law_row : FuncData
  F_law_row : Fun K "_law_row" "_law_row" s_law_row f_law_row d_law_row
  b_law_row : Binds K d_law_row ["script", "k"] []
  g_law_row : mg "_law_row" = some (.ref f_law_row)
  f_law_next : Addr
  d_law_next : FuncData
  F_law_next : Fun K "_law_next" "_law_next" s_law_next f_law_next d_law_next
  b_law_next : Binds K d_law_next ["state", "many"] []
  g_law_next : mg "_law_next" = some (.ref f_law_next)
  f_law_is_integer : Addr
  d_law_is_integer : FuncData
  F_law_is_integer : Fun K "_law_is_integer" "_law_is_integer" s_law_is_integer f_law_is_integer d_law_is_integer
  b_law_is_integer : Binds K d_law_is_integer ["actual"] []
  g_law_is_integer : mg "_law_is_integer" = some (.ref f_law_is_integer)
  f_law_point : Addr
  d_law_point : FuncData
  F_law_point : Fun K "_law_point" "_law_point" s_law_point f_law_point d_law_point
  b_law_point : Binds K d_law_point ["state", "size", "spread"] []
  g_law_point : mg "_law_point" = some (.ref f_law_point)
  f_law_distance : Addr
  d_law_distance : FuncData
  F_law_distance : Fun K "_law_distance" "_law_distance" s_law_distance f_law_distance d_law_distance
  b_law_distance : Binds K d_law_distance ["a", "b"] []
  g_law_distance : mg "_law_distance" = some (.ref f_law_distance)
  f_split : Addr
  d_split : FuncData
  F_split : Fun K "split" "split" s_split f_split d_split
  b_split : Binds K d_split ["d", "e", "f"] []
  g_split : mg "split" = some (.ref f_split)
  f_law_due : Addr
  d_law_due : FuncData
  F_law_due : Fun K "_law_due" "_law_due" s_law_due f_law_due d_law_due
  b_law_due : Binds K d_law_due ["d", "e", "f"] []
  g_law_due : mg "_law_due" = some (.ref f_law_due)
  f_law : Addr
  d_law : FuncData
  F_law : Fun K "law" "law" s_law f_law d_law
  b_law : Binds K d_law ["script"] []
  g_law : mg "law" = some (.ref f_law)
  m_bool : mg "bool" = none
  m_int : mg "int" = none
  m_isinstance : mg "isinstance" = none
  m_len : mg "len" = none
  m_list : mg "list" = none
  m_range : mg "range" = none
section
variable {P : Program} {w : World} {K : PySem.W.Frag} {mg : Str → Option Value} {base : Heap}

def sp_law_row (K : PySem.W.Frag) : Sp := fun vs H Q _ => ∃ (sc : Addr) (ns : List Int) (k : Int), vs = [.ref sc, .int k] ∧ H sc = some (.lst (ns.map V.int)) ∧ 0 ≤ k ∧ ∀ c : Int, 0 ≤ c → Q (.int c) H
set_option maxHeartbeats 4000000 in
theorem ok_law_row (T : Txt K mg) : FnOk P w K mg base CX0 1 T.f_law_row T.d_law_row ["script", "k"] (sp_law_row K) := by
  refine T.F_law_row.ok sc_law_row (fun vs H Q E h => ?_) (fun cdv A outer s H vs Q E hr h => ?_)
  · obtain ⟨sc, ns, k, rfl, _⟩ := h
    rfl
  · obtain ⟨sc, ns, k, rfl, hS, hk, q⟩ := h
    refine ⟨_, (pss_cons (ps_set (i := 2) sc_law_row.nd rfl (.inl rfl) pe_int) 
      (pss_cut (ps_if (pt_cmpR op_lt (pv 1) (pe_callB call_len_seq (by rfl) T.m_len PySem.boot_len (pa_cons (pv 0) pa_nil)) (nomark _)) (pss_one (ps_set (i := 2) sc_law_row.nd rfl (.inl rfl) (pe_ix ix_list (pv 0) (pv 1) (fun _ _ => rfl)))) pss_nil) 
      (pss_cut (ps_if (pt_cmpR op_lt (pv 2) pe_int (nomark _)) (pss_one (ps_set (i := 2) sc_law_row.nd rfl (.inl rfl) (pe_op op_sub (pe_op op_mul (pe_un un_neg pe_int) (pv 2)) pe_int))) pss_nil) 
      (pss_cut (ps_if (pt_cmpR op_lt (pv 2) (pe_op op_pow pe_int pe_int) (nomark _)) (pss_cons (ps_set (i := 3) sc_law_row.nd rfl (.inl rfl) (pe_op op_mod (pe_callTy call_int1 (by rfl) T.m_int (by decide +kernel) (pa_cons (pe_op op_add (pe_op op_add (pe_op op_mul (pv 2) pe_int) (pe_op op_mul (pv 1) pe_int)) pe_int) pa_nil)) pe_int)) 
      (pss_cons (ps_set (i := 4) sc_law_row.nd rfl (.inl rfl) (pe_op op_mod (pe_callTy call_int1 (by rfl) T.m_int (by decide +kernel) (pa_cons (pe_op op_add (pe_op op_add (pe_op op_add (pe_op op_mul (pv 3) pe_int) (pe_op op_mul (pv 2) pe_int)) (pv 1)) pe_int) pa_nil)) pe_int)) 
      (pss_cons (ps_set (i := 5) sc_law_row.nd rfl (.inl rfl) (pe_op op_mod (pe_callTy call_int1 (by rfl) T.m_int (by decide +kernel) (pa_cons (pe_op op_add (pe_op op_add (pe_op op_mul (pv 4) pe_int) (pe_op op_mul (pv 3) (pv 4))) pe_int) pa_nil)) pe_int)) 
      (pss_one (ps_set (i := 2) sc_law_row.nd rfl (.inl rfl) (pe_op op_add (pe_op op_add (pv 3) (pe_op op_mul (pv 4) pe_int)) (pe_op op_mul (pv 5) (pe_op op_pow pe_int pe_int)))))))) pss_nil) 
      (pss_one (ps_ret (pv 2))))))), ?_⟩
    -- if k < len(script): cell = script[k]
    refine ⟨fun σ' H' => H' = H ∧ ∃ c : Int, σ' = [some (.ref sc), some (.int k), some (.int c), none, none, none], ?_, ?_⟩
    · refine ⟨_, rfl, _, rfl, sc, _, rfl, .inl (SqL.of hS), _, _, rfl, rfl, _, rfl, ite2 (fun e => ?_) (fun e => ?_)⟩
      · have hl : k < ((ns.map V.int).length : Int) := of_decide_eq_true e
        rw [List.length_map] at hl
        obtain ⟨c, hc⟩ := item_map hk hl
        exact ⟨_, rfl, _, rfl, sc, _, k, _, rfl, rfl, SqL.of hS, hc, rfl, c, rfl⟩
      · exact ⟨rfl, 0, rfl⟩
    rintro σ' H' ⟨rfl, c, rfl⟩
    -- if cell < 0: cell = -2 * cell - 1
    refine ⟨fun σ' H2 => H2 = H' ∧ ∃ c : Int, 0 ≤ c ∧ σ' = [some (.ref sc), some (.int k), some (.int c), none, none, none], ?_, ?_⟩
    · refine ⟨_, rfl, _, _, rfl, rfl, _, rfl, ite2 (fun e => ?_) (fun e => ?_)⟩
      · have hc : c < 0 := of_decide_eq_true e
        refine ⟨2, rfl, _, rfl, _, _, rfl, rfl, .inl ⟨by decide, by decide⟩, _, _, rfl, rfl, rfl, _, ?_, rfl⟩
        omega
      · have hc : ¬ c < 0 := fun h => e (decide_eq_true h)
        exact ⟨rfl, c, by omega, rfl⟩
    rintro σ' H2 ⟨rfl, c, hc, rfl⟩
    -- if cell < 10 ** 9: ..
    refine ⟨fun σ' H' => H' = H2 ∧ ∃ (c : Int) (x y z : Option V), 0 ≤ c ∧ σ' = [some (.ref sc), some (.int k), some (.int c), x, y, z], ?_, ?_⟩
    · refine ⟨_, rfl, _, _, rfl, rfl, ⟨by decide, by decide, by decide⟩, _, _, rfl, rfl, _, rfl, ite2 (fun e => ?_) (fun e => ?_)⟩
      · have h9 : c < 10 ^ 9 := of_decide_eq_true e
        refine ⟨_, rfl, _, _, rfl, rfl, .inr ⟨by decide, by decide⟩, _, rfl, _, _, rfl, rfl, .inr ⟨by decide, by decide⟩, _, _, rfl, rfl, _, _, rfl, rfl, .inl ⟨_, rfl, ?_⟩⟩
        refine ⟨_, _, rfl, rfl, (by decide : (0 : Int) < 2147483647), ?_⟩
        dsimp only
        generalize ha : (c * 48271 + k * 69621 + 11) % 2147483647 = a
        have a0 : 0 ≤ a := by rw [← ha]; exact Int.emod_nonneg _ (by decide)
        have a1 : a < 2147483647 := by rw [← ha]; exact Int.emod_lt_of_pos _ (by decide)
        refine ⟨_, rfl, _, _, rfl, rfl, .inr ⟨by decide, by decide⟩, _, rfl, _, _, rfl, rfl, .inr ⟨by decide, by decide⟩, _, _, rfl, rfl, _, rfl, _, _, rfl, rfl, _, _, rfl, rfl, .inl ⟨_, rfl, ?_⟩⟩
        refine ⟨_, _, rfl, rfl, (by decide : (0 : Int) < 2147483629), ?_⟩
        dsimp only
        generalize hb : (a * 16807 + c * 7 + k + 5) % 2147483629 = b
        have b0 : 0 ≤ b := by rw [← hb]; exact Int.emod_nonneg _ (by decide)
        have b1 : b < 2147483629 := by rw [← hb]; exact Int.emod_lt_of_pos _ (by decide)
        refine ⟨_, rfl, _, _, rfl, rfl, .inr ⟨by decide, by decide⟩, _, rfl, _, rfl, _, _, rfl, rfl, .inl ⟨by omega, by omega⟩, _, _, rfl, rfl, _, _, rfl, rfl, .inl ⟨_, rfl, ?_⟩⟩
        refine ⟨_, _, rfl, rfl, (by decide : (0 : Int) < 2147483587), ?_⟩
        dsimp only
        generalize hd : (b * 39373 + a * b + 3) % 2147483587 = d
        have d0 : 0 ≤ d := by rw [← hd]; exact Int.emod_nonneg _ (by decide)
        refine ⟨_, rfl, _, rfl, _, _, rfl, rfl, .inr ⟨by decide, by decide⟩, _, _, rfl, rfl, _, rfl, _, _, rfl, rfl, ⟨by decide, by decide, by decide⟩, _, _, rfl, rfl, .inr ⟨by decide, by decide⟩, _, _, rfl, rfl, rfl, _, _, _, _, ?_, rfl⟩
        have e2 : (2147483647 : Int) ^ (2 : Int).toNat = 4611686014132420609 := by decide
        rw [e2]
        omega
      · exact ⟨rfl, c, _, _, _, hc, rfl⟩
    rintro σ' H' ⟨rfl, c, x, y, z, hc, rfl⟩
    exact ⟨_, rfl, q c hc⟩
def sp_law_next (K : PySem.W.Frag) : Sp := fun vs H Q _ => ∃ (st sc : Addr) (m : Int), vs = [.ref st, .int m] ∧ StAt H st sc ∧ 0 < m ∧ m.natAbs < 2 ^ 200 ∧ ∀ (d : Int) (H' : Hp), 0 ≤ d → d < m → StAt H' st sc → Oth st H H' → Q (.int d) H'
set_option maxHeartbeats 4000000 in
theorem ok_law_next (T : Txt K mg) : FnOk P w K mg base CX0 2 T.f_law_next T.d_law_next ["state", "many"] (sp_law_next K) := by
  have G_law_row : FnOk P w K mg base CX0 1 T.f_law_row T.d_law_row ["script", "k"] (sp_law_row K) := ok_law_row T
  refine T.F_law_next.ok sc_law_next (fun vs H Q E h => ?_) (fun cdv A outer s H vs Q E hr h => ?_)
  · obtain ⟨st, sc, m, rfl, _⟩ := h
    rfl
  · obtain ⟨st, sc, m, rfl, hS, m0, m1, q⟩ := h
    refine ⟨_, (pss_cut (ps_if (pt_cmpR op_lt (pe_ix ix_list (pv 0) pe_int (fun _ _ => rfl)) (pv 1) (nomark _)) (pss_cons (ps_asg (pe_call G_law_row (hr.mono (by decide)) (by rfl) T.g_law_row T.F_law_row.kp T.b_law_row .nil pass0 (pa_cons (pe_ix ix_list (pv 0) pe_int (fun _ _ => rfl)) (pa_cons (pe_ix ix_list (pv 0) pe_int (fun _ _ => rfl)) pa_nil))) (pg_sub (pv 0) pe_int set_list)) 
      (pss_one (ps_asg (pe_op op_add (pe_ix ix_list (pv 0) pe_int (fun _ _ => rfl)) pe_int) (pg_sub (pv 0) pe_int set_list)))) pss_nil) 
      (pss_cons (ps_set (i := 2) sc_law_next.nd rfl (.inl rfl) (pe_op op_mod (pe_callTy call_int1 (by rfl) T.m_int (by decide +kernel) (pa_cons (pe_ix ix_list (pv 0) pe_int (fun _ _ => rfl)) pa_nil)) (pv 1))) 
      (pss_cons (ps_asg (pe_op op_fdivW (pe_ix ix_list (pv 0) pe_int (fun _ _ => rfl)) (pv 1)) (pg_sub (pv 0) pe_int set_list)) 
      (pss_one (ps_ret (pv 2)))))), ?_⟩
    -- if state[2] < many: ..
    refine ⟨fun σ' H' => Oth st H H' ∧ StAt H' st sc ∧ σ' = [some (.ref st), some (.int m), none], ?_, ?_⟩
    · obtain ⟨ns, k, x, h1, h2, k0, x0, hn⟩ := id hS
      have hne : sc ≠ st := fun e => by
        rw [e, h1] at h2
        have z := HO.lst.inj (Option.some.inj h2)
        cases ns with
        | nil => cases z
        | cons y r =>
          have z2 := (List.cons.inj z).1
          cases z2
      refine ⟨_, rfl, st, _, _, _, rfl, rfl, SqL.of h1, at_of (j := 2) rfl rfl, _, rfl, _, _, rfl, rfl, _, rfl, ite2 (fun e => ?_) (fun e => ?_)⟩
      · refine ⟨_, rfl, st, _, _, _, rfl, rfl, SqL.of h1, at_of (j := 0) rfl rfl, _, rfl, st, _, _, _, rfl, rfl, SqL.of h1, at_of (j := 1) rfl rfl, sc, ns, k, rfl, h2, k0, fun c c0 => ?_⟩
        refine ⟨_, rfl, st, _, _, 2, rfl, rfl, h1, rfl, ?_⟩
        refine ⟨_, rfl, st, _, _, _, rfl, rfl, SqL.of upd_same, at_of (j := 1) rfl rfl, _, _, rfl, rfl, _, rfl, st, _, _, 1, rfl, rfl, upd_same, rfl, ?_⟩
        refine ⟨fun b hb => ?_, ⟨ns, k + 1, c, upd_same, ?_, by omega, c0, hn⟩, rfl⟩
        · rw [upd_ne hb, upd_ne hb]
        · rw [upd_ne hne, upd_ne hne]
          exact h2
      · exact ⟨Oth.refl _ _, hS, rfl⟩
    rintro σ' H' ⟨hO, ⟨ns, k, x, h1, h2, k0, x0, hn⟩, rfl⟩
    have hne : sc ≠ st := fun e => by
      rw [e, h1] at h2
      have z := HO.lst.inj (Option.some.inj h2)
      cases ns with
      | nil => cases z
      | cons y r =>
        have z2 := (List.cons.inj z).1
        cases z2
    -- drawn = int(state[2]) % many
    refine ⟨_, rfl, st, _, _, _, rfl, rfl, SqL.of h1, at_of (j := 2) rfl rfl, .inl ⟨_, rfl, ?_⟩⟩
    refine ⟨_, rfl, _, _, rfl, rfl, m0, ?_⟩
    -- state[2] = state[2] // many
    refine ⟨_, rfl, st, _, _, _, rfl, rfl, SqL.of h1, at_of (j := 2) rfl rfl, _, rfl, _, _, rfl, rfl, wide_div m0 m1 (by decide) (by decide), ?_⟩
    refine ⟨_, rfl, st, _, _, 2, rfl, rfl, h1, rfl, ?_⟩
    refine ⟨_, rfl, q _ _ (Int.emod_nonneg _ (by omega)) (Int.emod_lt_of_pos _ m0) ⟨ns, k, x / m, upd_same, ?_, k0, Int.ediv_nonneg x0 (by omega), hn⟩ (hO.trans fun b hb => upd_ne hb)⟩
    rw [upd_ne hne]
    exact h2
def sp_law_is_integer (K : PySem.W.Frag) : Sp := fun vs H Q _ => ∃ (i : Int), vs = [.int i] ∧ Q (.bl true) H
set_option maxHeartbeats 4000000 in
theorem ok_law_is_integer (T : Txt K mg) : FnOk P w K mg base CX0 1 T.f_law_is_integer T.d_law_is_integer ["actual"] (sp_law_is_integer K) := by
  refine T.F_law_is_integer.ok sc_law_is_integer (fun vs H Q E h => ?_) (fun cdv A outer s H vs Q E hr h => ?_)
  · obtain ⟨i, rfl, _⟩ := h
    rfl
  · obtain ⟨i, rfl, q⟩ := h
    refine ⟨_, (pss_one (ps_ret (pe_and (pe_callB call_isi (by rfl) T.m_isinstance (by decide +kernel) (pa_cons (pv 0) (pa_cons (pe_bltn (v := .ty "int") (u := .type "int") (by rfl) T.m_int (by decide +kernel) rfl) pa_nil))) (pe_one (pe_not (pe_callB call_isi (by rfl) T.m_isinstance (by decide +kernel) (pa_cons (pv 0) (pa_cons (pe_bltn (v := .ty "bool") (u := .type "bool") (by rfl) T.m_bool (by decide +kernel) rfl) pa_nil)))))))), ?_⟩
    refine ⟨_, rfl, _, _, _, _, true, rfl, .ty _, .base (.int i), kit_ty (by decide +kernel), true, rfl, iteT ?_⟩
    exact ⟨_, rfl, _, _, _, _, false, rfl, .ty _, .base (.int i), kit_ty (by decide +kernel), false, rfl, q⟩
def sp_law_point (K : PySem.W.Frag) : Sp := fun vs H Q _ => ∃ (st sc : Addr) (n s : Int), vs = [.ref st, .int n, .int s] ∧ StAt H st sc ∧ 0 ≤ n ∧ n ≤ 1000 ∧ 0 ≤ s ∧ s ≤ 1000000000 ∧ ∀ (p : Addr) (zs : List Int) (H' : Hp), (zs.length : Int) = n → Bd s zs → H p = none → H' p = some (.lst (zs.map V.int)) → StAt H' st sc → Fr st H H' → Q (.ref p) H'
set_option maxHeartbeats 4000000 in
theorem ok_law_point (T : Txt K mg) : FnOk P w K mg base CX0 3 T.f_law_point T.d_law_point ["state", "size", "spread"] (sp_law_point K) := by
  have G_law_next : FnOk P w K mg base CX0 2 T.f_law_next T.d_law_next ["state", "many"] (sp_law_next K) := ok_law_next T
  refine T.F_law_point.ok sc_law_point (fun vs H Q E h => ?_) (fun cdv A outer s H vs Q E hr h => ?_)
  · obtain ⟨st, sc, n, s, rfl, _⟩ := h
    rfl
  · obtain ⟨st, sc, n, s, rfl, hS, n0, n1, s0, s1, q⟩ := h
    refine ⟨_, (pss_one (ps_ret (pe_lc (own := [("k", 3)]) (g := gName 3) rfl sc_law_point.nd (pi_range1 rfl T.m_range (pa_cons (pv 1) pa_nil)) (blkOk_by (own := [("k", 3)]) (N := ["state", "size", "spread", "k"]) (sc := defScope s_law_point) (by decide +kernel)) (fun _ _ _ _ _ => (pg_name (i := 3) sc_law_point.nd rfl (Or.inl rfl))) (fun _ _ _ _ _ => pts_nil) (fun _ _ _ _ _ => (pe_op op_sub (pe_call G_law_next (hr.mono (by decide)) (by rfl) T.g_law_next T.F_law_next.kp T.b_law_next .nil pass0 (pa_cons (pv 0) (pa_cons (pe_op op_add (pe_op op_mul pe_int (pv 2)) pe_int) pa_nil))) (pv 2)))))), ?_⟩
    refine ⟨_, rfl, n, rfl, by omega, by omega, fun D hD => ?_⟩
    have nD : D ≠ st := st_new hS hD
    refine lc_range (lo := 0) (n := n.toNat) (fun i H' => Fr st H H' ∧ StAt H' st sc ∧ ∃ zs : List Int, zs.length = i ∧ Bd s zs ∧ H' D = some (.lst (zs.map V.int))) ⟨Fr.new hD, hS.new hD, [], rfl, fun _ h => (nomatch h), upd_same⟩ ?_ ?_
    · rintro i H1 hi ⟨f1, hS1, zs, hz, hb, h1⟩
      refine ⟨rfl, ?_⟩
      refine ⟨_, rfl, _, rfl, _, _, rfl, rfl, .inl ⟨by decide, by decide⟩, _, _, rfl, rfl, st, sc, 2 * s + 1, rfl, hS1, by omega, ?_, fun d H2 d0 d1 hS2 o2 => ?_⟩
      · exact wide_le (j := 2 * 1000000000 + 1) (by omega) (by omega) (by decide +kernel)
      · have h2 : H2 D = some (.lst (zs.map V.int)) := (o2 D nD).trans h1
        refine ⟨_, rfl, _, _, rfl, rfl, _, h2, ?_, ?_⟩
        · rw [List.length_map, hz]
          exact len_le (by omega)
        · refine ⟨(f1.trans o2.fr).set hD, hS2.set hS hD, zs ++ [d - s], by simp [hz], ?_, ?_⟩
          · intro z hz
            rcases List.mem_append.mp hz with h | h
            · exact hb z h
            · rw [List.mem_singleton] at h
              omega
          · rw [upd_same, List.map_append]
            rfl
    · rintro H1 ⟨f1, hS1, zs, hz, hb, h1⟩
      exact q D zs H1 (by omega) hb hD h1 hS1 f1
def sp_law_distance (K : PySem.W.Frag) : Sp := fun vs H Q _ => ∃ (a b : Addr) (xs ys : List Int), vs = [.ref a, .ref b] ∧ H a = some (.lst (xs.map V.int)) ∧ H b = some (.lst (ys.map V.int)) ∧ xs.length = ys.length ∧ xs.length ≤ 1000 ∧ Bd 1000000000000 xs ∧ Bd 1000000000000 ys ∧ Q (.int (dist xs ys)) H
set_option maxHeartbeats 4000000 in
theorem ok_law_distance (T : Txt K mg) : FnOk P w K mg base CX0 1 T.f_law_distance T.d_law_distance ["a", "b"] (sp_law_distance K) := by
  refine T.F_law_distance.ok sc_law_distance (fun vs H Q E h => ?_) (fun cdv A outer s H vs Q E hr h => ?_)
  · obtain ⟨a, b, xs, ys, rfl, _⟩ := h
    rfl
  · obtain ⟨a, b, xs, ys, rfl, ha, hb, hl, h1, bx, by_, q⟩ := h
    refine ⟨_, (pss_cons (ps_set (i := 2) sc_law_distance.nd rfl (.inl rfl) pe_int) 
      (pss_cons (ps_for PassesOwn.never rfl (pi_range1 rfl T.m_range (pa_cons (pe_callB call_len_seq (by rfl) T.m_len PySem.boot_len (pa_cons (pv 0) pa_nil)) pa_nil)) (pg_name (i := 3) sc_law_distance.nd rfl (.inl rfl)) (pss_one (ps_set (i := 2) sc_law_distance.nd rfl (.inl rfl) (pe_op op_add (pv 2) (pe_op op_mul (pe_op op_sub (pe_ix ix_list (pv 0) (pv 3) (fun _ _ => rfl)) (pe_ix ix_list (pv 1) (pv 3) (fun _ _ => rfl))) (pe_op op_sub (pe_ix ix_list (pv 0) (pv 3) (fun _ _ => rfl)) (pe_ix ix_list (pv 1) (pv 3) (fun _ _ => rfl)))))))) 
      (pss_one (ps_ret (pv 2))))), ?_⟩
    refine ⟨_, rfl, a, _, rfl, .inl (SqL.of ha), xs.length, by rw [List.length_map], by omega, by omega, ?_⟩
    refine for_range (lo := 0) (n := xs.length) (fun i σ H' => H' = H ∧ ∃ y, σ = [some (.ref a), some (.ref b), some (.int (dist (xs.take i) (ys.take i))), y]) ⟨rfl, none, by simp [dist]; rfl⟩ ?_ ?_
    · rintro i σ H' hi ⟨rfl, y, rfl⟩
      obtain ⟨x, hx⟩ : ∃ x, xs[i]? = some x := ⟨xs[i], List.getElem?_eq_getElem hi⟩
      obtain ⟨z, hz⟩ : ∃ z, ys[i]? = some z := ⟨ys[i]'(by omega), List.getElem?_eq_getElem (by omega)⟩
      have b1 := bx.at hx
      have b2 := by_.at hz
      have e0 : (0 : Int) + (i : Int) = (i : Int) := by omega
      refine ⟨_, rfl, _, rfl, _, rfl, a, _, _, _, rfl, rfl, SqL.of ha, at_of e0 (map_get hx), _, rfl, _, rfl, b, _, _, _, rfl, rfl, SqL.of hb, at_of e0 (map_get hz), _, _, rfl, rfl, ?_⟩
      refine ⟨_, rfl, _, rfl, a, _, _, _, rfl, rfl, SqL.of ha, at_of e0 (map_get hx), _, rfl, _, rfl, b, _, _, _, rfl, rfl, SqL.of hb, at_of e0 (map_get hz), _, _, rfl, rfl, _, _, rfl, rfl, .inl ⟨by omega, by omega⟩, _, _, rfl, rfl, rfl, some (V.int ((0 : Int) + (i : Int))), ?_⟩
      rw [dist_take hx hz]
      rfl
    · rintro σ H' ⟨rfl, y, rfl⟩
      rw [List.take_of_length_le (Nat.le_refl _), List.take_of_length_le (by omega)]
      exact ⟨_, rfl, q⟩
def sp_split (K : PySem.W.Frag) : Sp := fun vs H Q _ => ∃ (d e f : Int), vs = [.int d, .int e, .int f] ∧ 0 ≤ d ∧ d < 1000000000000 ∧ 0 ≤ e ∧ 0 ≤ f ∧ f < 1000000000000 ∧ Q (.int (splitZ d e f)) H
set_option maxHeartbeats 4000000 in
theorem ok_split (T : Txt K mg) : FnOk P w K mg base CX0 1 T.f_split T.d_split ["d", "e", "f"] (sp_split K) := by
  refine T.F_split.ok sc_split (fun vs H Q E h => ?_) (fun cdv A outer s H vs Q E hr h => ?_)
  · obtain ⟨d, e, f, rfl, _⟩ := h
    rfl
  · obtain ⟨d, e, f, rfl, d0, d1, e0, f0, f1, q⟩ := h
    refine ⟨_, (pss_cons (ps_if (PW.pt (pw_or (pt_cmpR op_ge (pv 1) (pv 0) (nomark _)) (pw_or1 (pt_cmpR op_eq (pv 2) pe_int (nomark _))))) (pss_one (ps_ret pe_int)) pss_nil) 
      (pss_one (ps_ret (pe_un un_neg (pe_op op_fdivW (pe_un un_neg (pe_op op_mul (pe_op op_sub (pv 0) (pv 1)) (pe_op op_sub (pv 0) (pv 1)))) (pe_op op_mul pe_int (pv 2))))))), ?_⟩
    have main : ¬ (e ≥ d ∨ f = 0) → splitZ d e f = -((-((d - e) * (d - e))) / (4 * f)) := fun c => by unfold splitZ; rw [if_neg c]
    have zero : (e ≥ d ∨ f = 0) → splitZ d e f = 0 := fun c => by unfold splitZ; rw [if_pos c]
    refine ⟨_, rfl, _, rfl, _, _, rfl, rfl, _, rfl, ?_⟩
    by_cases c1 : d ≤ e
    · rw [decide_eq_true c1]
      refine iteT ?_
      show Q (.int 0) H
      rw [← zero (.inl c1)]
      exact q
    · rw [decide_eq_false c1]
      refine iteF ?_
      refine ⟨_, rfl, rfl, _, rfl, ?_⟩
      by_cases c2 : f = 0
      · rw [decide_eq_true (congrArg V.int c2)]
        refine iteT ?_
        show Q (.int 0) H
        rw [← zero (.inr c2)]
        exact q
      · rw [decide_eq_false (fun z => c2 (V.int.inj z))]
        refine iteF ?_
        refine ⟨_, rfl, _, rfl, _, _, rfl, rfl, _, rfl, _, rfl, _, _, rfl, rfl, _, _, rfl, rfl, .inl ⟨by omega, by omega⟩, _, rfl, _, rfl, _, _, rfl, rfl, .inl ⟨by decide, by decide⟩, _, _, rfl, rfl, ?_, _, rfl, ?_⟩
        · exact wide_div (b := 64) (by omega) (by omega) (by decide) (by decide)
        · have g := main (fun z => z.elim (fun z => c1 z) c2)
          rw [g] at q
          exact q
def sp_law_due (K : PySem.W.Frag) : Sp := fun vs H Q _ => ∃ (d e f : Int), vs = [.int d, .int e, .int f] ∧ 0 ≤ d ∧ d < 1000000000000 ∧ 0 ≤ e ∧ 0 ≤ f ∧ f < 1000000000000 ∧ Q (.int (splitZ d e f)) H
set_option maxHeartbeats 4000000 in
theorem ok_law_due (T : Txt K mg) : FnOk P w K mg base CX0 1 T.f_law_due T.d_law_due ["d", "e", "f"] (sp_law_due K) := by
  refine T.F_law_due.ok sc_law_due (fun vs H Q E h => ?_) (fun cdv A outer s H vs Q E hr h => ?_)
  · obtain ⟨d, e, f, rfl, _⟩ := h
    rfl
  · obtain ⟨d, e, f, rfl, d0, d1, e0, f0, f1, q⟩ := h
    refine ⟨_, (pss_cons (ps_if (PW.pt (pw_or (pt_cmpR op_ge (pv 1) (pv 0) (nomark _)) (pw_or1 (pt_cmpR op_eq (pv 2) pe_int (nomark _))))) (pss_one (ps_ret pe_int)) pss_nil) 
      (pss_cons (ps_set (i := 3) sc_law_due.nd rfl (.inl rfl) (pe_op op_fdivW (pe_op op_mul (pe_op op_sub (pv 0) (pv 1)) (pe_op op_sub (pv 0) (pv 1))) (pe_op op_mul pe_int (pv 2)))) 
      (pss_cut (ps_if (pt_cmpR op_lt (pe_op op_mul (pe_op op_mul (pv 3) pe_int) (pv 2)) (pe_op op_mul (pe_op op_sub (pv 0) (pv 1)) (pe_op op_sub (pv 0) (pv 1))) (nomark _)) (pss_one (ps_set (i := 3) sc_law_due.nd rfl (.inl rfl) (pe_op op_add (pv 3) pe_int))) pss_nil) 
      (pss_one (ps_ret (pv 3)))))), ?_⟩
    have main : ¬ (e ≥ d ∨ f = 0) → splitZ d e f = -((-((d - e) * (d - e))) / (4 * f)) := fun c => by unfold splitZ; rw [if_neg c]
    have zero : (e ≥ d ∨ f = 0) → splitZ d e f = 0 := fun c => by unfold splitZ; rw [if_pos c]
    refine ⟨_, rfl, _, rfl, _, _, rfl, rfl, _, rfl, ?_⟩
    by_cases c1 : d ≤ e
    · rw [decide_eq_true c1]
      refine iteT ?_
      show Q (.int 0) H
      rw [← zero (.inl c1)]
      exact q
    · rw [decide_eq_false c1]
      refine iteF ?_
      refine ⟨_, rfl, rfl, _, rfl, ?_⟩
      by_cases c2 : f = 0
      · rw [decide_eq_true (congrArg V.int c2)]
        refine iteT ?_
        show Q (.int 0) H
        rw [← zero (.inr c2)]
        exact q
      · rw [decide_eq_false (fun z => c2 (V.int.inj z))]
        refine iteF ?_
        have f2 : 0 < 4 * f := by omega
        refine ⟨_, rfl, _, rfl, _, _, rfl, rfl, _, rfl, _, rfl, _, _, rfl, rfl, _, _, rfl, rfl, .inl ⟨by omega, by omega⟩, _, rfl, _, _, rfl, rfl, .inl ⟨by decide, by decide⟩, _, _, rfl, rfl, wide_div (b := 64) f2 (by omega) (by decide) (by decide), ?_⟩
        have g := main (fun z => z.elim (fun z => c1 z) c2)
        rw [g, ceil_two f2] at q
        have e4 : (d - e) * (d - e) / (4 * f) * (4 * f) = (d - e) * (d - e) / (4 * f) * 4 * f := by grind
        rw [e4] at q
        refine ⟨fun σ' H' => H' = H ∧ σ' = [some (.int d), some (.int e), some (.int f), some (.int (if (d - e) * (d - e) / (4 * f) * 4 * f < (d - e) * (d - e) then (d - e) * (d - e) / (4 * f) + 1 else (d - e) * (d - e) / (4 * f)))], ?_, ?_⟩
        · refine ⟨_, rfl, _, _, rfl, rfl, .inr ⟨by decide, by decide⟩, _, rfl, _, _, rfl, rfl, .inr ⟨by omega, by omega⟩, _, rfl, _, rfl, _, _, rfl, rfl, _, rfl, _, rfl, _, _, rfl, rfl, _, _, rfl, rfl, .inl ⟨by omega, by omega⟩, _, _, rfl, rfl, _, rfl, ite2 (fun hd => ?_) (fun hd => ?_)⟩
          · have c := of_decide_eq_true hd
            exact ⟨_, rfl, _, _, rfl, rfl, rfl, by rw [if_pos c]; rfl⟩
          · have c := fun z => hd (decide_eq_true z)
            exact ⟨rfl, by rw [if_neg c]; rfl⟩
        · rintro σ' H' ⟨rfl, rfl⟩
          exact ⟨_, rfl, q⟩
def sp_law (K : PySem.W.Frag) : Sp := fun vs H Q _ => ∃ (a : Addr) (ns : List Int), vs = [.ref a] ∧ SqL K H a (ns.map V.int) ∧ ns.length ≤ 63 ∧ ∀ H', Q (.bl true) H'
set_option maxHeartbeats 8000000 in
theorem ok_law (T : Txt K mg) : FnOk P w K mg base CX0 4 T.f_law T.d_law ["script"] (sp_law K) := by
  have G_law_distance : FnOk P w K mg base CX0 1 T.f_law_distance T.d_law_distance ["a", "b"] (sp_law_distance K) := ok_law_distance T
  have G_law_due : FnOk P w K mg base CX0 1 T.f_law_due T.d_law_due ["d", "e", "f"] (sp_law_due K) := ok_law_due T
  have G_law_is_integer : FnOk P w K mg base CX0 1 T.f_law_is_integer T.d_law_is_integer ["actual"] (sp_law_is_integer K) := ok_law_is_integer T
  have G_split : FnOk P w K mg base CX0 1 T.f_split T.d_split ["d", "e", "f"] (sp_split K) := ok_split T
  have G_law_next : FnOk P w K mg base CX0 2 T.f_law_next T.d_law_next ["state", "many"] (sp_law_next K) := ok_law_next T
  have G_law_point : FnOk P w K mg base CX0 3 T.f_law_point T.d_law_point ["state", "size", "spread"] (sp_law_point K) := ok_law_point T
  refine T.F_law.ok sc_law (fun vs H Q E h => ?_) (fun cdv A outer s H vs Q E hr h => ?_)
  · obtain ⟨a, ns, rfl, _⟩ := h
    rfl
  · obtain ⟨a, ns, rfl, hA, hlen, q⟩ := h
    refine ⟨_, (pss_cons (ps_set (i := 1) sc_law.nd rfl (.inl rfl) (pe_lst (pa_cons (pe_callTy call_list_of (by rfl) T.m_list (by decide +kernel) (pa_cons (pv 0) pa_nil)) (pa_cons pe_int (pa_cons pe_int pa_nil))))) 
      (pss_cons (ps_for PassesOwn.never rfl (pi_range1 rfl T.m_range (pa_cons pe_int pa_nil)) (pg_name (i := 2) sc_law.nd rfl (.inl rfl)) (pss_cons (ps_set (i := 3) sc_law.nd rfl (.inl rfl) (pe_op op_add pe_int (pe_call G_law_next (hr.mono (by decide)) (by rfl) T.g_law_next T.F_law_next.kp T.b_law_next .nil pass0 (pa_cons (pv 1) (pa_cons pe_int pa_nil))))) 
      (pss_cons (ps_set (i := 4) sc_law.nd rfl (.inl rfl) (pe_ix ix_list (pe_lst (pa_cons pe_int (pa_cons pe_int (pa_cons pe_int (pa_cons pe_int pa_nil))))) (pe_call G_law_next (hr.mono (by decide)) (by rfl) T.g_law_next T.F_law_next.kp T.b_law_next .nil pass0 (pa_cons (pv 1) (pa_cons pe_int pa_nil))) (fun _ _ => rfl))) 
      (pss_cons (ps_set (i := 5) sc_law.nd rfl (.inr rfl) (pe_call G_law_point (hr.mono (by decide)) (by rfl) T.g_law_point T.F_law_point.kp T.b_law_point .nil pass0 (pa_cons (pv 1) (pa_cons (pv 3) (pa_cons (pv 4) pa_nil))))) 
      (pss_cons (ps_set (i := 6) sc_law.nd rfl (.inr rfl) (pe_call G_law_point (hr.mono (by decide)) (by rfl) T.g_law_point T.F_law_point.kp T.b_law_point .nil pass0 (pa_cons (pv 1) (pa_cons (pv 3) (pa_cons (pv 4) pa_nil))))) 
      (pss_cons (ps_set (i := 7) sc_law.nd rfl (.inl rfl) (pe_call G_law_point (hr.mono (by decide)) (by rfl) T.g_law_point T.F_law_point.kp T.b_law_point .nil pass0 (pa_cons (pv 1) (pa_cons (pv 3) (pa_cons (pv 4) pa_nil))))) 
      (pss_cut (ps_if (pt_cmpR op_eq (pe_call G_law_next (hr.mono (by decide)) (by rfl) T.g_law_next T.F_law_next.kp T.b_law_next .nil pass0 (pa_cons (pv 1) (pa_cons pe_int pa_nil))) pe_int (nomark _)) (pss_one (ps_set (i := 7) sc_law.nd rfl (.inl rfl) (pe_callTy call_list_of (by rfl) T.m_list (by decide +kernel) (pa_cons (pv 6) pa_nil)))) pss_nil) 
      (pss_cons (ps_set (i := 8) sc_law.nd rfl (.inl rfl) (pe_call G_law_point (hr.mono (by decide)) (by rfl) T.g_law_point T.F_law_point.kp T.b_law_point .nil pass0 (pa_cons (pv 1) (pa_cons (pv 3) (pa_cons (pv 4) pa_nil))))) 
      (pss_cut (ps_if (pt_cmpR op_eq (pe_call G_law_next (hr.mono (by decide)) (by rfl) T.g_law_next T.F_law_next.kp T.b_law_next .nil pass0 (pa_cons (pv 1) (pa_cons pe_int pa_nil))) pe_int (nomark _)) (pss_cons (ps_set (i := 9) sc_law.nd rfl (.inr rfl) (pe_call G_law_next (hr.mono (by decide)) (by rfl) T.g_law_next T.F_law_next.kp T.b_law_next .nil pass0 (pa_cons (pv 1) (pa_cons pe_int pa_nil)))) 
      (pss_one (ps_setLc (i := 8) (own := [("k", 10)]) (g := gName 10) rfl sc_law.nd rfl rfl (sw_true rfl rfl rfl (by decide +kernel)) (pi_range1 rfl T.m_range (pa_cons (pv 3) pa_nil)) (blkOk_by (own := [("k", 10)]) (N := ["script", "state", "turn", "size", "spread", "query", "first", "second", "point", "share", "k", "d", "e", "actual"]) (sc := defScope s_law) (by decide +kernel)) (fun _ _ _ _ _ => (pg_name (i := 10) sc_law.nd rfl (Or.inl rfl))) (fun _ _ _ _ _ => pts_nil) (fun _ _ _ _ _ => (pe_op op_fdiv (pe_op op_add (pe_op op_mul (pe_ix (r := rIxL K) (by exact ix_list) (pv 6) (pv 10) (fun _ _ => rfl)) (pv 9)) (pe_op op_mul (pe_ix (r := rIxL K) (by exact ix_list) (pv 5) (pv 10) (fun _ _ => rfl)) (pe_op op_sub pe_int (pv 9)))) pe_int))))) pss_nil) 
      (pss_cons (ps_set (i := 11) sc_law.nd rfl (.inl rfl) (pe_call G_law_distance (hr.mono (by decide)) (by rfl) T.g_law_distance T.F_law_distance.kp T.b_law_distance .nil pass0 (pa_cons (pv 5) (pa_cons (pv 6) pa_nil)))) 
      (pss_cons (ps_set (i := 12) sc_law.nd rfl (.inl rfl) (pe_call G_law_distance (hr.mono (by decide)) (by rfl) T.g_law_distance T.F_law_distance.kp T.b_law_distance .nil pass0 (pa_cons (pv 5) (pa_cons (pv 7) pa_nil)))) 
      (pss_cons (ps_set (i := 13) sc_law.nd rfl (.inl rfl) (pe_call G_split (hr.mono (by decide)) (by rfl) T.g_split T.F_split.kp T.b_split .nil pass0 (pa_cons (pv 11) (pa_cons (pv 12) (pa_cons (pe_call G_law_distance (hr.mono (by decide)) (by rfl) T.g_law_distance T.F_law_distance.kp T.b_law_distance .nil pass0 (pa_cons (pv 6) (pa_cons (pv 7) pa_nil))) pa_nil))))) 
      (pss_cons (ps_if (PW.pt (pw_or (pt_not (pt_truth (pe_call G_law_is_integer (hr.mono (by decide)) (by rfl) T.g_law_is_integer T.F_law_is_integer.kp T.b_law_is_integer .nil pass0 (pa_cons (pv 13) pa_nil)) (by intro _; rfl))) (pw_or1 (pt_cmpR op_ne (pv 13) (pe_call G_law_due (hr.mono (by decide)) (by rfl) T.g_law_due T.F_law_due.kp T.b_law_due .nil pass0 (pa_cons (pv 11) (pa_cons (pv 12) (pa_cons (pe_call G_law_distance (hr.mono (by decide)) (by rfl) T.g_law_distance T.F_law_distance.kp T.b_law_distance .nil pass0 (pa_cons (pv 6) (pa_cons (pv 7) pa_nil))) pa_nil)))) (nomark _))))) (pss_one (ps_ret pe_bl)) pss_nil) 
      (pss_one (ps_if (PW.pt (pw_and (pt_cmpR op_le (pe_call G_law_distance (hr.mono (by decide)) (by rfl) T.g_law_distance T.F_law_distance.kp T.b_law_distance .nil pass0 (pa_cons (pv 8) (pa_cons (pv 6) pa_nil))) (pe_call G_law_distance (hr.mono (by decide)) (by rfl) T.g_law_distance T.F_law_distance.kp T.b_law_distance .nil pass0 (pa_cons (pv 8) (pa_cons (pv 7) pa_nil))) (nomark _)) (pw_and1 (pt_cmpR op_gt (pv 13) (pe_call G_law_distance (hr.mono (by decide)) (by rfl) T.g_law_distance T.F_law_distance.kp T.b_law_distance .nil pass0 (pa_cons (pv 8) (pa_cons (pv 5) pa_nil))) (nomark _))))) (pss_one (ps_ret pe_bl)) pss_nil))))))))))))))) 
      (pss_one (ps_ret pe_bl)))), ?_⟩
    -- state = [list(script), 0, 0]
    refine ⟨_, rfl, a, _, rfl, .inl hA, fun sc hsc => ⟨(by show 3 ≤ sizeLine; decide), fun st hst => ?_⟩⟩
    have hS0 := st_made hsc hst hlen
    generalize upd (upd H sc (.lst (ns.map V.int))) st (.lst [.ref sc, .int 0, .int 0]) = H0 at hS0
    -- for turn in range(6)
    refine ⟨6, rfl, by decide, by decide, for_range (lo := 0) (n := 6) (fun i σ H' => StAt H' st sc ∧ ∃ x2 x3 x4 x5 x6 x7 x8 x9 x10 x11 x12 x13, σ = [some (.ref a), some (.ref st), x2, x3, x4, x5, x6, x7, x8, x9, x10, x11, x12, x13]) ⟨hS0, none, none, none, none, none, none, none, none, none, none, none, none, rfl⟩ ?_ ?_⟩
    rotate_left
    · rintro σ H' ⟨_, x2, x3, x4, x5, x6, x7, x8, x9, x10, x11, x12, x13, rfl⟩
      exact q H'
    rintro i σ Hi hi ⟨hSi, x2, x3, x4, x5, x6, x7, x8, x9, x10, x11, x12, x13, rfl⟩
    -- size = 1 + _law_next(state, 5)
    refine ⟨_, rfl, st, sc, 5, rfl, hSi, by decide, by decide +kernel, fun n H1 n0 n1 hS1 _ => ?_⟩
    refine ⟨_, _, rfl, rfl, ?_⟩
    -- spread = [1, 3, 20, 30000][_law_next(state, 4)]
    refine ⟨by decide, fun l hl => ?_⟩
    refine ⟨_, rfl, st, sc, 4, rfl, hS1.new hl, by decide, by decide +kernel, fun k4 H2 k0 k1 hS2 o2 => ?_⟩
    obtain ⟨s, hs, hsv⟩ := pick4 (a := 1) (b := 3) (c := 20) (d := 30000) k0 k1
    have s0 : 0 ≤ s := by omega
    have s1 : s ≤ 30000 := by omega
    refine ⟨l, _, k4, _, rfl, rfl, SqL.of ((o2 l (st_new hS1 hl)).trans upd_same), hs, ?_⟩
    clear o2 hl hs k0 k1
    -- query, first, second
    refine ⟨_, rfl, _, rfl, _, rfl, st, sc, 1 + n, s, rfl, hS2, by omega, by omega, s0, by omega, fun pq zq H3 lq bq _ eq hS3 _ => ?_⟩
    have Pq : IsPt H3 pq (1 + n) s zq := ⟨eq, lq, bq⟩
    refine ⟨_, rfl, _, rfl, _, rfl, st, sc, 1 + n, s, rfl, hS3, by omega, by omega, s0, by omega, fun pf zf H4 lf bf _ ef hS4 f4 => ?_⟩
    have Pf : IsPt H4 pf (1 + n) s zf := ⟨ef, lf, bf⟩
    replace Pq := Pq.fr hS3 f4
    refine ⟨_, rfl, _, rfl, _, rfl, st, sc, 1 + n, s, rfl, hS4, by omega, by omega, s0, by omega, fun ps zs H5 ls bs _ es hS5 f5 => ?_⟩
    have Ps : IsPt H5 ps (1 + n) s zs := ⟨es, ls, bs⟩
    replace Pq := Pq.fr hS4 f5
    replace Pf := Pf.fr hS4 f5
    clear f4 f5 eq ef es
    -- if _law_next(state, 9) == 0: second = list(first)
    refine ⟨fun σ' H' => ∃ p2 z2, IsPt H' p2 (1 + n) s z2 ∧ IsPt H' pq (1 + n) s zq ∧ IsPt H' pf (1 + n) s zf ∧ StAt H' st sc ∧ σ' = [some (.ref a), some (.ref st), some (.int (0 + (i : Int))), some (.int (1 + n)), some (.int s), some (.ref pq), some (.ref pf), some (.ref p2), x8, x9, x10, x11, x12, x13], ?_, ?_⟩
    · refine ⟨_, rfl, st, sc, 9, rfl, hS5, by decide, by decide +kernel, fun d H6 _ _ hS6 o6 => ?_⟩
      have Pq6 := Pq.fr hS5 o6.fr
      have Pf6 := Pf.fr hS5 o6.fr
      refine ⟨rfl, _, rfl, ite2 (fun _ => ?_) (fun _ => ?_)⟩
      · refine ⟨_, rfl, pf, _, rfl, .inl (SqL.of Pf6.1), fun l hl => ?_⟩
        have f7 : Fr st H6 (upd H6 l (.lst (zf.map V.int))) := Fr.new hl
        exact ⟨l, zf, ⟨upd_same, lf, bf⟩, Pq6.fr hS6 f7, Pf6.fr hS6 f7, hS6.new hl, rfl⟩
      · exact ⟨ps, zs, Ps.fr hS5 o6.fr, Pq6, Pf6, hS6, rfl⟩
    clear Pq Pf Ps hS5 hS4 hS3 hS2 hS1
    rintro σ' H6 ⟨p2, z2, P2, Pq, Pf, hS6, rfl⟩
    -- point
    refine ⟨_, rfl, _, rfl, _, rfl, st, sc, 1 + n, s, rfl, hS6, by omega, by omega, s0, by omega, fun pp zp H7 lp bp _ ep hS7 f7 => ?_⟩
    have Pp : IsPt H7 pp (1 + n) s zp := ⟨ep, lp, bp⟩
    replace Pq := Pq.fr hS6 f7
    replace Pf := Pf.fr hS6 f7
    replace P2 := P2.fr hS6 f7
    clear f7 ep
    refine ⟨fun σ' H' => ∃ p3 z3 y9 y10, IsPt H' p3 (1 + n) 1000000 z3 ∧ IsPt H' p2 (1 + n) s z2 ∧ IsPt H' pq (1 + n) s zq ∧ IsPt H' pf (1 + n) s zf ∧ StAt H' st sc ∧ σ' = [some (.ref a), some (.ref st), some (.int (0 + (i : Int))), some (.int (1 + n)), some (.int s), some (.ref pq), some (.ref pf), some (.ref p2), some (.ref p3), y9, y10, x11, x12, x13], ?_, ?_⟩
    · refine ⟨_, rfl, st, sc, 3, rfl, hS7, by decide, by decide +kernel, fun d H8 _ _ hS8 o8 => ?_⟩
      have Pq8 := Pq.fr hS7 o8.fr
      have Pf8 := Pf.fr hS7 o8.fr
      have P28 := P2.fr hS7 o8.fr
      have Pp8 := Pp.fr hS7 o8.fr
      refine ⟨rfl, _, rfl, ite2 (fun _ => ?_) (fun _ => ?_)⟩
      · -- share = _law_next(state, 5)
        refine ⟨_, rfl, st, sc, 5, rfl, hS8, by decide, by decide +kernel, fun sh H9 h0 h1 hS9 o9 => ?_⟩
        have Pq9 := Pq8.fr hS8 o9.fr
        have Pf9 := Pf8.fr hS8 o9.fr
        have P29 := P28.fr hS8 o9.fr
        refine ⟨_, rfl, 1 + n, rfl, by omega, by omega, fun D hD => ?_⟩
        refine lc_range (lo := 0) (n := (1 + n).toNat) (fun j H' => Fr st H9 H' ∧ StAt H' st sc ∧ ∃ zs : List Int, zs.length = j ∧ Bd 1000000 zs ∧ H' D = some (.lst (zs.map V.int))) ⟨Fr.new hD, hS9.new hD, [], rfl, fun _ h => (nomatch h), upd_same⟩ ?_ ?_
        · rintro j H' hj ⟨fr, hS', zs, hz, hb, h1'⟩
          obtain ⟨u, hu, u0, u1⟩ := (Pf9.fr hS9 fr).get (i := j) (by omega)
          obtain ⟨v, hv, v0, v1⟩ := (Pq9.fr hS9 fr).get (i := j) (by omega)
          have e0 : (0 : Int) + (j : Int) = (j : Int) := by omega
          refine ⟨rfl, ?_⟩
          refine ⟨_, rfl, _, rfl, pf, _, _, _, rfl, rfl, SqL.of (Pf9.fr hS9 fr).1, at_of e0 (map_get hu), _, rfl, _, _, rfl, rfl, .inr ⟨by omega, by omega⟩, _, rfl, _, rfl, pq, _, _, _, rfl, rfl, SqL.of (Pq9.fr hS9 fr).1, at_of e0 (map_get hv), _, rfl, _, _, rfl, rfl, _, _, rfl, rfl, .inr ⟨by omega, by omega⟩, _, _, rfl, rfl, _, _, rfl, rfl, ⟨by decide, by decide⟩, ?_⟩
          refine ⟨_, h1', by rw [List.length_map, hz]; exact len_le (by omega), fr.set hD, hS'.set hS9 hD, zs ++ [(u * sh + v * (4 - sh)) / 4], by simp [hz], ?_, ?_⟩
          · intro z hz
            rcases List.mem_append.mp hz with h | h
            · exact hb z h
            · rw [List.mem_singleton] at h
              have : sh = 0 ∨ sh = 1 ∨ sh = 2 ∨ sh = 3 ∨ sh = 4 := by omega
              rcases this with rfl | rfl | rfl | rfl | rfl <;> omega
          · rw [upd_same, List.map_append]
            rfl
        · rintro H' ⟨fr, hS', zs, hz, hb, h1'⟩
          exact ⟨D, zs, _, _, ⟨h1', by omega, hb⟩, P29.fr hS9 fr, Pq9.fr hS9 fr, Pf9.fr hS9 fr, hS', rfl⟩
      · exact ⟨pp, zp, _, _, Pp8.wide (by omega), P28, Pq8, Pf8, hS8, rfl⟩
    clear Pq Pf P2 Pp hS7 hS6
    rintro σ' H8 ⟨p3, z3, y9, y10, P3, P2, Pq, Pf, hS8, rfl⟩
    replace Pq := Pq.wide s1
    replace Pf := Pf.wide s1
    replace P2 := P2.wide s1
    have n5 : 1 + n ≤ 5 := by omega
    have wq := (Pq.wide (t := 1000000000000) (by decide)).2.2
    have wf := (Pf.wide (t := 1000000000000) (by decide)).2.2
    have w2 := (P2.wide (t := 1000000000000) (by decide)).2.2
    have w3 := (P3.wide (t := 1000000000000) (by decide)).2.2
    have lq := Pq.2.1
    have lf := Pf.2.1
    have l2 := P2.2.1
    have l3 := P3.2.1
    obtain ⟨dqf0, dqf1⟩ := dist_small Pq Pf n5
    obtain ⟨dq20, dq21⟩ := dist_small Pq P2 n5
    obtain ⟨df20, df21⟩ := dist_small Pf P2 n5
    -- d, e
    refine ⟨_, rfl, _, rfl, pq, pf, zq, zf, rfl, Pq.1, Pf.1, by omega, by omega, wq, wf, ?_⟩
    refine ⟨_, rfl, _, rfl, pq, p2, zq, z2, rfl, Pq.1, P2.1, by omega, by omega, wq, w2, ?_⟩
    -- actual = split(d, e, _law_distance(first, second))
    refine ⟨_, rfl, _, rfl, _, rfl, _, rfl, pf, p2, zf, z2, rfl, Pf.1, P2.1, by omega, by omega, wf, w2, _, _, _, rfl, dqf0, by omega, dq20, df20, by omega, ?_⟩
    -- if not _law_is_integer(actual) or actual != _law_due(..)
    refine ⟨_, rfl, _, rfl, true, rfl, iteF ?_⟩
    refine ⟨_, rfl, _, rfl, _, rfl, _, rfl, _, rfl, pf, p2, zf, z2, rfl, Pf.1, P2.1, by omega, by omega, wf, w2, _, _, _, rfl, dqf0, by omega, dq20, df20, by omega, rfl, _, rfl, ?_⟩
    rw [decide_eq_true rfl]
    refine iteF ?_
    -- if _law_distance(point, first) <= .. and actual > ..
    refine ⟨_, rfl, _, rfl, p3, pf, z3, zf, rfl, P3.1, Pf.1, by omega, by omega, w3, wf, _, rfl, _, rfl, p3, p2, z3, z2, rfl, P3.1, P2.1, by omega, by omega, w3, w2, _, _, rfl, rfl, _, rfl, ite2 (fun hd => ?_) (fun hd => ?_)⟩
    · have hp := of_decide_eq_true hd
      have safe := split_safe (as := zf) (bs := z2) (ps := z3) (qs := zq) (by omega) (by omega) (by omega) hp
      refine ⟨_, rfl, _, rfl, _, rfl, p3, pq, z3, zq, rfl, P3.1, Pq.1, by omega, by omega, w3, wq, _, _, rfl, rfl, _, rfl, ?_⟩
      rw [decide_eq_false (fun z => absurd safe (Int.not_le.mpr z))]
      refine iteF ?_
      exact ⟨hS8, _, _, _, _, _, _, _, _, _, _, _, _, rfl⟩
    · exact ⟨hS8, _, _, _, _, _, _, _, _, _, _, _, _, rfl⟩
end
theorem all_mk {l : PySem.W.OpenLaw} {w : World} {K : PySem.W.Frag} {h : Heap} {mg : Str → Option Value} {fa f0 f1 f2 f3 f4 f5 f6 f7 : Addr} (X : K.In h) (G : h.Ns mainGlobals mg) (hfa : mg "law" = some (.ref fa))
    {od0 an0 od1 an1 od2 an2 od3 an3 od4 an4 od5 an5 od6 an6 od7 an7 : Option Addr} {sl0 sl1 sl2 sl3 sl4 sl5 sl6 sl7 : Array (Option Value)} {oc0 kV0 dc0 pm0 cd0 ct0 oc1 kV1 dc1 pm1 cd1 ct1 oc2 kV2 dc2 pm2 cd2 ct2 oc3 kV3 dc3 pm3 cd3 ct3 oc4 kV4 dc4 pm4 cd4 ct4 oc5 kV5 dc5 pm5 cd5 ct5 oc6 kV6 dc6 pm6 cd6 ct6 oc7 kV7 dc7 pm7 cd7 ct7 : Value}
    (a0 : PySem.W.nsIn K mainGlobals "_law_row" = some (some (.ref f0))) (l0 : K.lookup f0 = some ⟨oc0, od0, .func (PySem.W.fnOf "_law_row" "_law_row" (defArgs s_law_row) (defBody s_law_row) (defScope s_law_row) .none kV0 dc0 pm0 an0 cd0 ct0), sl0⟩) (c0 : PySem.W.codeIn K cd0 "_law_row" = true) (k0 : PySem.W.keepIn K (.ref f0) = true)
    (a1 : PySem.W.nsIn K mainGlobals "_law_next" = some (some (.ref f1))) (l1 : K.lookup f1 = some ⟨oc1, od1, .func (PySem.W.fnOf "_law_next" "_law_next" (defArgs s_law_next) (defBody s_law_next) (defScope s_law_next) .none kV1 dc1 pm1 an1 cd1 ct1), sl1⟩) (c1 : PySem.W.codeIn K cd1 "_law_next" = true) (k1 : PySem.W.keepIn K (.ref f1) = true)
    (a2 : PySem.W.nsIn K mainGlobals "_law_is_integer" = some (some (.ref f2))) (l2 : K.lookup f2 = some ⟨oc2, od2, .func (PySem.W.fnOf "_law_is_integer" "_law_is_integer" (defArgs s_law_is_integer) (defBody s_law_is_integer) (defScope s_law_is_integer) .none kV2 dc2 pm2 an2 cd2 ct2), sl2⟩) (c2 : PySem.W.codeIn K cd2 "_law_is_integer" = true) (k2 : PySem.W.keepIn K (.ref f2) = true)
    (a3 : PySem.W.nsIn K mainGlobals "_law_point" = some (some (.ref f3))) (l3 : K.lookup f3 = some ⟨oc3, od3, .func (PySem.W.fnOf "_law_point" "_law_point" (defArgs s_law_point) (defBody s_law_point) (defScope s_law_point) .none kV3 dc3 pm3 an3 cd3 ct3), sl3⟩) (c3 : PySem.W.codeIn K cd3 "_law_point" = true) (k3 : PySem.W.keepIn K (.ref f3) = true)
    (a4 : PySem.W.nsIn K mainGlobals "_law_distance" = some (some (.ref f4))) (l4 : K.lookup f4 = some ⟨oc4, od4, .func (PySem.W.fnOf "_law_distance" "_law_distance" (defArgs s_law_distance) (defBody s_law_distance) (defScope s_law_distance) .none kV4 dc4 pm4 an4 cd4 ct4), sl4⟩) (c4 : PySem.W.codeIn K cd4 "_law_distance" = true) (k4 : PySem.W.keepIn K (.ref f4) = true)
    (a5 : PySem.W.nsIn K mainGlobals "split" = some (some (.ref f5))) (l5 : K.lookup f5 = some ⟨oc5, od5, .func (PySem.W.fnOf "split" "split" (defArgs s_split) (defBody s_split) (defScope s_split) .none kV5 dc5 pm5 an5 cd5 ct5), sl5⟩) (c5 : PySem.W.codeIn K cd5 "split" = true) (k5 : PySem.W.keepIn K (.ref f5) = true)
    (a6 : PySem.W.nsIn K mainGlobals "_law_due" = some (some (.ref f6))) (l6 : K.lookup f6 = some ⟨oc6, od6, .func (PySem.W.fnOf "_law_due" "_law_due" (defArgs s_law_due) (defBody s_law_due) (defScope s_law_due) .none kV6 dc6 pm6 an6 cd6 ct6), sl6⟩) (c6 : PySem.W.codeIn K cd6 "_law_due" = true) (k6 : PySem.W.keepIn K (.ref f6) = true)
    (a7 : PySem.W.nsIn K mainGlobals "law" = some (some (.ref f7))) (l7 : K.lookup f7 = some ⟨oc7, od7, .func (PySem.W.fnOf "law" "law" (defArgs s_law) (defBody s_law) (defScope s_law) .none kV7 dc7 pm7 an7 cd7 ct7), sl7⟩) (c7 : PySem.W.codeIn K cd7 "law" = true) (k7 : PySem.W.keepIn K (.ref f7) = true)
    (z_bool : PySem.W.nsIn K mainGlobals "bool" = some none)
    (z_int : PySem.W.nsIn K mainGlobals "int" = some none)
    (z_isinstance : PySem.W.nsIn K mainGlobals "isinstance" = some none)
    (z_len : PySem.W.nsIn K mainGlobals "len" = some none)
    (z_list : PySem.W.nsIn K mainGlobals "list" = some none)
    (z_range : PySem.W.nsIn K mainGlobals "range" = some none)
    : ∃ fd : FuncData, (∀ (s : Shared) (v : Value), BindsTo s fd ⟨[v], []⟩ [("script", v)]) ∧ ∀ base : Heap, K.In base → base.Ns mainGlobals mg → FnOk l.prog w K mg base CX0 4 fa fd ["script"] (sp_law K) := by
  have e := hfa.symm.trans (PySem.W.mg_of X G a7)
  cases e
  have F0 := fun_mk (st := s_law_row) l0 c0 k0
  have b0 := F0.binds (ps := ["script", "k"]) fun _ _ _ _ _ _ us hl => match us, hl with | [_, _], _ => rfl
  have F1 := fun_mk (st := s_law_next) l1 c1 k1
  have b1 := F1.binds (ps := ["state", "many"]) fun _ _ _ _ _ _ us hl => match us, hl with | [_, _], _ => rfl
  have F2 := fun_mk (st := s_law_is_integer) l2 c2 k2
  have b2 := F2.binds (ps := ["actual"]) fun _ _ _ _ _ _ us hl => match us, hl with | [_], _ => rfl
  have F3 := fun_mk (st := s_law_point) l3 c3 k3
  have b3 := F3.binds (ps := ["state", "size", "spread"]) fun _ _ _ _ _ _ us hl => match us, hl with | [_, _, _], _ => rfl
  have F4 := fun_mk (st := s_law_distance) l4 c4 k4
  have b4 := F4.binds (ps := ["a", "b"]) fun _ _ _ _ _ _ us hl => match us, hl with | [_, _], _ => rfl
  have F5 := fun_mk (st := s_split) l5 c5 k5
  have b5 := F5.binds (ps := ["d", "e", "f"]) fun _ _ _ _ _ _ us hl => match us, hl with | [_, _, _], _ => rfl
  have F6 := fun_mk (st := s_law_due) l6 c6 k6
  have b6 := F6.binds (ps := ["d", "e", "f"]) fun _ _ _ _ _ _ us hl => match us, hl with | [_, _, _], _ => rfl
  have F7 := fun_mk (st := s_law) l7 c7 k7
  have b7 := F7.binds (ps := ["script"]) fun _ _ _ _ _ _ us hl => match us, hl with | [_], _ => rfl
  let T : Txt K mg := ⟨_, _, F0, b0, PySem.W.mg_of X G a0,
    _, _, F1, b1, PySem.W.mg_of X G a1,
    _, _, F2, b2, PySem.W.mg_of X G a2,
    _, _, F3, b3, PySem.W.mg_of X G a3,
    _, _, F4, b4, PySem.W.mg_of X G a4,
    _, _, F5, b5, PySem.W.mg_of X G a5,
    _, _, F6, b6, PySem.W.mg_of X G a6,
    _, _, F7, b7, PySem.W.mg_of X G a7,
    PySem.W.mg_none_of X G z_bool,
    PySem.W.mg_none_of X G z_int,
    PySem.W.mg_none_of X G z_isinstance,
    PySem.W.mg_none_of X G z_len,
    PySem.W.mg_none_of X G z_list,
    PySem.W.mg_none_of X G z_range⟩
  exact ⟨_, fun s v => .of_eq rfl, fun base _ _ => ok_law T⟩
end K03
open PySem PySem.W PyProof.Rows
set_option maxRecDepth 100000 in
set_option maxHeartbeats 0 in
theorem PySem.Challenge.cw_surenear_k03_splits_of_two_centres_holds : PySem.Challenge.rw_surenear_k03_splits_of_two_centres.Holds := by
  w_on; o_law; k_head; (case hw => w_witness2)
  k_fill
  refine L2.walk_of (l := PySem.Challenge.rw_surenear_k03_splits_of_two_centres) (n := 63) (k := 4) (x := "script") (CX := fun _ => L2.CX0) (sp := fun w => K03.sp_law _) rfl (by decide) rfl ⟨rfl, by decide, by decide⟩ (fun w h Y => PySem.W.kIn_of Y) ?F (fun _ _ a ns hl _ hS => ⟨a, ns, rfl, hS, hl, fun _ => rfl⟩) (fun _ _ _ _ _ h => h)
  case F =>
    intro w mg fa h KX G hmg
    refine' K03.all_mk KX G hmg ?a0 ?l0 ?c0 ?k0 ?a1 ?l1 ?c1 ?k1 ?a2 ?l2 ?c2 ?k2 ?a3 ?l3 ?c3 ?k3 ?a4 ?l4 ?c4 ?k4 ?a5 ?l5 ?c5 ?k5 ?a6 ?l6 ?c6 ?k6 ?a7 ?l7 ?c7 ?k7 ?z_bool ?z_int ?z_isinstance ?z_len ?z_list ?z_range
    (case a0 => k_is); (case l0 => k_is); (case c0 => k_is); (case k0 => k_is); (case a1 => k_is); (case l1 => k_is); (case c1 => k_is); (case k1 => k_is); (case a2 => k_is); (case l2 => k_is); (case c2 => k_is); (case k2 => k_is); (case a3 => k_is); (case l3 => k_is); (case c3 => k_is); (case k3 => k_is); (case a4 => k_is); (case l4 => k_is); (case c4 => k_is); (case k4 => k_is); (case a5 => k_is); (case l5 => k_is); (case c5 => k_is); (case k5 => k_is); (case a6 => k_is); (case l6 => k_is); (case c6 => k_is); (case k6 => k_is); (case a7 => k_is); (case l7 => k_is); (case c7 => k_is); (case k7 => k_is); (case z_bool => k_is); (case z_int => k_is); (case z_isinstance => k_is); (case z_len => k_is); (case z_list => k_is); (case z_range => k_is)
