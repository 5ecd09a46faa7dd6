import PyProof.Rows.All
import Wide.All
import OpenK.AllK
import Wide.FinOn
import HandS.ForMost
import HandS.Codes
import HandS.Wide
import HandS.IsInst
import KE.KMathG
import Flt.RightSqrt
import HandS.Gcd
import PySem.Challenge.RW_surenear_k02_gaps_of_three_points
set_option Elab.async false
set_option linter.all false
set_option maxRecDepth 100000
namespace K02
open PySem PySem.Spec PyProof.Rows L2
open C8 (tCut pss_cut)
/-! the text by places -/
def topS (i : Nat) : Stmt := PySem.Challenge.pw_surenear_k02_gaps_of_three_points.main.body.getD i (.Pass ⟨0, 0, 0, 0⟩)
abbrev s_law_row : Stmt := (topS 5)
abbrev s_law_next : Stmt := (topS 6)
abbrev s_law_is_integer : Stmt := (topS 7)
abbrev s_law_point : Stmt := (topS 8)
abbrev s_law_distance : Stmt := (topS 9)
abbrev s_root : Stmt := (topS 2)
abbrev s_gap : Stmt := (topS 3)
abbrev s_law : Stmt := (topS 10)
theorem sc_law_row : FnScope ["script", "k", "cell", "a", "b", "c"] ["script", "k"] (defScope s_law_row) := ⟨rfl, rfl, rfl, by decide +kernel, rfl, by decide +kernel, by decide +kernel⟩
theorem sc_law_next : FnScope ["state", "many", "drawn"] ["state", "many"] (defScope s_law_next) := ⟨rfl, rfl, rfl, by decide +kernel, rfl, by decide +kernel, by decide +kernel⟩
theorem sc_law_is_integer : FnScope ["actual"] ["actual"] (defScope s_law_is_integer) := ⟨rfl, rfl, rfl, by decide +kernel, rfl, by decide +kernel, by decide +kernel⟩
theorem sc_law_point : FnScope ["state", "size", "spread", "k"] ["state", "size", "spread"] (defScope s_law_point) := ⟨rfl, rfl, rfl, by decide +kernel, rfl, by decide +kernel, by decide +kernel⟩
theorem sc_law_distance : FnScope ["a", "b", "total", "k"] ["a", "b"] (defScope s_law_distance) := ⟨rfl, rfl, rfl, by decide +kernel, rfl, by decide +kernel, by decide +kernel⟩
theorem sc_root : FnScope ["number"] ["number"] (defScope s_root) := ⟨rfl, rfl, rfl, by decide +kernel, rfl, by decide +kernel, by decide +kernel⟩
theorem sc_gap : FnScope ["far", "near"] ["far", "near"] (defScope s_gap) := ⟨rfl, rfl, rfl, by decide +kernel, rfl, by decide +kernel, by decide +kernel⟩
theorem sc_law : FnScope ["script", "state", "turn", "size", "spread", "a", "b", "c", "number", "k", "far", "near", "actual"] ["script"] (defScope s_law) := ⟨rfl, rfl, rfl, by decide +kernel, rfl, by decide +kernel, by decide +kernel⟩
/-! the mathematics -/

/-- the state of the draws stands at st -/
def StAt (H : Hp) (st sc : Addr) : Prop := ∃ (ns : List Int) (k x : Int), H st = some (.lst [.ref sc, .int k, .int x]) ∧ H sc = some (.lst (ns.map V.int)) ∧ 0 ≤ k ∧ 0 ≤ x ∧ ns.length ≤ 63
/-- all but st is as it was -/
def Oth (st : Addr) (H H' : Hp) : Prop := ∀ b, b ≠ st → H' b = H b
theorem Oth.refl (st : Addr) (H : Hp) : Oth st H H := fun _ _ => rfl
theorem Oth.trans {st : Addr} {H H1 H2 : Hp} (a : Oth st H H1) (b : Oth st H1 H2) : Oth st H H2 := fun c h => (b c h).trans (a c h)
theorem qT {Q : VK} {H : Hp} {c : Prop} [Decidable c] (h : c) (q : Q (.bl true) H) : Q (.bl (decide c)) H := by
  rw [decide_eq_true h]
  exact q
theorem qF {Q : VK} {H : Hp} {c : Prop} [Decidable c] (h : ¬ c) (q : Q (.bl false) H) : Q (.bl (decide c)) H := by
  rw [decide_eq_false h]
  exact q
theorem ixN_nat {n j : Nat} (h : j < n) : ixN n (j : Int) = some j := by
  unfold ixN
  rw [if_pos (by omega), if_pos (by omega)]
  simp
theorem item_map {ns : List Int} {k : Int} (h0 : 0 ≤ k) (h1 : k < ns.length) : ∃ c, atI (ns.map V.int) k = some (.int c) := by
  have hj : k.toNat < ns.length := by omega
  refine ⟨ns[k.toNat], at_of (j := k.toNat) (by omega) ?_⟩
  rw [List.getElem?_map, List.getElem?_eq_getElem hj]
  rfl

/-- what was tracked is so still, but for what stands at st -/
def Fr (st : Addr) (H H' : Hp) : Prop := ∀ b o, H b = some o → b ≠ st → H' b = some o
theorem Fr.refl (st : Addr) (H : Hp) : Fr st H H := fun _ _ h _ => h
theorem Fr.trans {st : Addr} {H H1 H2 : Hp} (a : Fr st H H1) (b : Fr st H1 H2) : Fr st H H2 := fun c o h n => b c o (a c o h n) n
theorem Oth.fr {st : Addr} {H H' : Hp} (h : Oth st H H') : Fr st H H' := fun b _ e n => (h b n).trans e
theorem Fr.new {st : Addr} {H : Hp} {p : Addr} {o : HO} (h : H p = none) : Fr st H (upd H p o) := fun b u e _ => by
  rw [upd_ne (ne_of_none e h)]
  exact e
theorem Fr.set {st : Addr} {H H' : Hp} {p : Addr} {o : HO} (f : Fr st H H') (h : H p = none) : Fr st H (upd H' p o) := fun b u e n => by
  rw [upd_ne (ne_of_none e h)]
  exact f b u e n
theorem Fr.lst {st : Addr} {H H' : Hp} (f : Fr st H H') {b : Addr} {o : HO} (e : H b = some o) (n : b ≠ st) : H' b = some o := f b o e n
/-- a list of integers is not the state -/
theorem st_ne {H : Hp} {st b sc : Addr} (hS : StAt H st sc) {xs : List Int} (h : H b = some (.lst (xs.map V.int))) : b ≠ st := fun e => by
  obtain ⟨ns, k, x, h1, _⟩ := hS
  rw [e, h1] at h
  have z := HO.lst.inj (Option.some.inj h)
  cases xs with
  | nil => cases z
  | cons y r => cases (List.cons.inj z).1
theorem st_new {H : Hp} {st b sc : Addr} (hS : StAt H st sc) (h : H b = none) : b ≠ st := fun e => by
  obtain ⟨ns, k, x, h1, _⟩ := hS
  rw [e, h1] at h
  cases h
/-- the state's own list of the script stands apart from all that is new -/
theorem StAt.new {H : Hp} {st p sc : Addr} {o : HO} (hS : StAt H st sc) (hn : H p = none) : StAt (upd H p o) st sc := by
  obtain ⟨ns, k, x, h1, h2, k0, x0, hl⟩ := hS
  exact ⟨ns, k, x, by rw [upd_ne (ne_of_none h1 hn)]; exact h1, by rw [upd_ne (ne_of_none h2 hn)]; exact h2, k0, x0, hl⟩
theorem StAt.set {H H' : Hp} {st p sc : Addr} {o : HO} (hS' : StAt H' st sc) (hS : StAt H st sc) (hn : H p = none) : StAt (upd H' p o) st sc := by
  obtain ⟨ns, k, x, h1, h2, k0, x0, hl⟩ := hS
  obtain ⟨ns', k', x', h1', h2', k0', x0', hl'⟩ := hS'
  exact ⟨ns', k', x', by rw [upd_ne (ne_of_none h1 hn)]; exact h1', by rw [upd_ne (ne_of_none h2 hn)]; exact h2', k0', x0', hl'⟩
def Bd (n : Int) (xs : List Int) : Prop := ∀ z ∈ xs, -n ≤ z ∧ z ≤ n
theorem Bd.at {n : Int} {xs : List Int} (h : Bd n xs) {i : Nat} {z : Int} (e : xs[i]? = some z) : -n ≤ z ∧ z ≤ n := h z (List.mem_of_getElem? e)
def dist : List Int → List Int → Int
  | x :: xs, y :: ys => (x - y) * (x - y) + dist xs ys
  | _, _ => 0
theorem sq_nn (x : Int) : 0 ≤ x * x := by
  rcases Int.le_total 0 x with h | h
  · exact Int.mul_nonneg h h
  · have := Int.mul_nonneg (Int.neg_nonneg_of_nonpos h) (Int.neg_nonneg_of_nonpos h)
    rwa [Int.neg_mul_neg] at this
theorem dist_nn : ∀ xs ys : List Int, 0 ≤ dist xs ys
  | [], _ => by unfold dist; exact Int.le_refl 0
  | _ :: _, [] => by unfold dist; exact Int.le_refl 0
  | x :: xs, y :: ys => by
    unfold dist
    have := dist_nn xs ys
    have := sq_nn (x - y)
    omega
theorem dist_take : ∀ {xs ys : List Int} {i : Nat} {x y : Int}, xs[i]? = some x → ys[i]? = some y → dist (xs.take (i + 1)) (ys.take (i + 1)) = dist (xs.take i) (ys.take i) + (x - y) * (x - y)
  | [], _, _, _, _, h, _ => by simp at h
  | _ :: _, [], _, _, _, _, h => by simp at h
  | a :: r, b :: t, 0, x, y, h, h2 => by
    have e1 : a = x := Option.some.inj h
    have e2 : b = y := Option.some.inj h2
    subst e1 e2
    simp [dist]
  | a :: r, b :: t, i + 1, x, y, h, h2 => by
    have ih := dist_take (xs := r) (ys := t) (i := i) (x := x) (y := y) h h2
    show (a - b) * (a - b) + dist (r.take (i + 1)) (t.take (i + 1)) = (a - b) * (a - b) + dist (r.take i) (t.take i) + (x - y) * (x - y)
    rw [ih]
    omega
theorem sq_le {x n : Int} (h1 : -n ≤ x) (h2 : x ≤ n) : x * x ≤ n * n := by
  have a : 0 ≤ n - x := by omega
  have b : 0 ≤ n + x := by omega
  have c := Int.mul_nonneg a b
  have e : (n - x) * (n + x) = n * n - x * x := by grind
  omega
theorem dist_le {n : Int} : ∀ {xs ys : List Int}, Bd n xs → Bd n ys → dist xs ys ≤ xs.length * (4 * (n * n))
  | [], _, _, _ => by simp [dist]
  | x :: xs, [], _, _ => by
    unfold dist
    exact Int.mul_nonneg (Int.natCast_nonneg _) (Int.mul_nonneg (by decide) (sq_nn n))
  | x :: xs, y :: ys, hx, hy => by
    have ih := dist_le (n := n) (xs := xs) (ys := ys) (fun z h => hx z (List.mem_cons_of_mem _ h)) (fun z h => hy z (List.mem_cons_of_mem _ h))
    have h1 := hx x (List.mem_cons_self)
    have h2 := hy y (List.mem_cons_self)
    have h3 : (x - y) * (x - y) ≤ (2 * n) * (2 * n) := sq_le (by omega) (by omega)
    have e : (2 * n) * (2 * n) = 4 * (n * n) := by grind
    unfold dist
    rw [List.length_cons]
    have e2 : ((xs.length + 1 : Nat) : Int) * (4 * (n * n)) = xs.length * (4 * (n * n)) + 4 * (n * n) := by grind
    omega
theorem get_map {xs : List Int} {i : Nat} {y : V} (h : (xs.map V.int)[i]? = some y) : ∃ z, y = V.int z ∧ xs[i]? = some z := by
  rw [List.getElem?_map] at h
  cases e : xs[i]? with
  | none =>
    rw [e] at h
    cases h
  | some z =>
    rw [e] at h
    exact ⟨z, (Option.some.inj h).symm, rfl⟩
theorem map_get {xs : List Int} {i : Nat} {z : Int} (h : xs[i]? = some z) : (xs.map V.int)[i]? = some (V.int z) := by
  rw [List.getElem?_map, h]
  rfl
theorem len_le {n : Nat} (h : n ≤ 1000) : n < sizeLine := small1000 h

/-- at p stands a list of n integers, none beyond s -/
def IsPt (H : Hp) (p : Addr) (n s : Int) (zs : List Int) : Prop := H p = some (.lst (zs.map V.int)) ∧ (zs.length : Int) = n ∧ Bd s zs
theorem IsPt.fr {H H' : Hp} {p st sc : Addr} {n s : Int} {zs : List Int} (h : IsPt H p n s zs) (hS : StAt H st sc) (f : Fr st H H') : IsPt H' p n s zs := ⟨f _ _ h.1 (st_ne hS h.1), h.2.1, h.2.2⟩
theorem IsPt.wide {H : Hp} {p : Addr} {n s t : Int} {zs : List Int} (h : IsPt H p n s zs) (e : s ≤ t) : IsPt H p n t zs := ⟨h.1, h.2.1, fun z hz => by have := h.2.2 z hz; omega⟩
theorem IsPt.get {H : Hp} {p : Addr} {n s : Int} {zs : List Int} (h : IsPt H p n s zs) {i : Nat} (hi : (i : Int) < n) : ∃ z, zs[i]? = some z ∧ -s ≤ z ∧ z ≤ s := by
  have hl : i < zs.length := by have := h.2.1; omega
  exact ⟨zs[i], List.getElem?_eq_getElem hl, h.2.2.at (List.getElem?_eq_getElem hl)⟩
theorem dist_small {H : Hp} {p r : Addr} {n : Int} {xs ys : List Int} (h1 : IsPt H p n 30000 xs) (h2 : IsPt H r n 30000 ys) (hn : n ≤ 5) : 0 ≤ dist xs ys ∧ dist xs ys < 100000000000 := by
  refine ⟨dist_nn _ _, ?_⟩
  have a := dist_le h1.2.2 h2.2.2
  have b := h1.2.1
  have e : (30000 : Int) * 30000 = 900000000 := by decide
  rw [e] at a
  have : (xs.length : Int) * (4 * 900000000) ≤ 5 * (4 * 900000000) := by omega
  omega
theorem pick4 {a b c d k : Int} (h0 : 0 ≤ k) (h1 : k < 4) : ∃ v, atI [V.int a, V.int b, V.int c, V.int d] k = some (.int v) ∧ (v = a ∨ v = b ∨ v = c ∨ v = d) := by
  have : k = 0 ∨ k = 1 ∨ k = 2 ∨ k = 3 := by omega
  rcases this with rfl | rfl | rfl | rfl
  · exact ⟨a, at_of (j := 0) rfl rfl, .inl rfl⟩
  · exact ⟨b, at_of (j := 1) rfl rfl, .inr (.inl rfl)⟩
  · exact ⟨c, at_of (j := 2) rfl rfl, .inr (.inr (.inl rfl))⟩
  · exact ⟨d, at_of (j := 3) rfl rfl, .inr (.inr (.inr rfl))⟩
theorem st_made {H : Hp} {sc st : Addr} {ns : List Int} (h1 : H sc = none) (h2 : upd H sc (.lst (ns.map V.int)) st = none) (hl : ns.length ≤ 63) : StAt (upd (upd H sc (.lst (ns.map V.int))) st (.lst [.ref sc, .int 0, .int 0])) st sc := by
  have ne : sc ≠ st := fun e => by
    rw [← e, upd_same] at h2
    cases h2
  exact ⟨ns, 0, 0, upd_same, by rw [upd_ne ne, upd_same], by decide, by decide, hl⟩

def rootZ (n : Int) : Int := ((Float64.isqrt n.toNat : Nat) : Int)
theorem rootZ_spec {n : Int} (h : 0 ≤ n) : 0 ≤ rootZ n ∧ rootZ n * rootZ n ≤ n ∧ n < (rootZ n + 1) * (rootZ n + 1) := by
  obtain ⟨a, b⟩ := PySem.Float64.isqrt_spec n.toNat
  unfold rootZ
  generalize Float64.isqrt n.toNat = r at *
  have e : ((n.toNat : Nat) : Int) = n := by omega
  have a' : ((r * r : Nat) : Int) ≤ ((n.toNat : Nat) : Int) := by exact_mod_cast a
  have b' : ((n.toNat : Nat) : Int) < (((r + 1) * (r + 1) : Nat) : Int) := by exact_mod_cast b
  rw [e] at a' b'
  refine ⟨Int.natCast_nonneg _, ?_, ?_⟩
  · simpa using a'
  · simpa using b'
theorem root_le {n m r : Int} (h0 : 0 ≤ r) (h1 : n < (r + 1) * (r + 1)) (hm : m * m ≤ n) : m ≤ r := by
  rcases Int.lt_or_le r m with l | l
  · exfalso
    have a : 0 ≤ (m - (r + 1)) * (m + (r + 1)) := Int.mul_nonneg (by omega) (by omega)
    have e : (m - (r + 1)) * (m + (r + 1)) = m * m - (r + 1) * (r + 1) := by grind
    omega
  · exact l
theorem root_eq {n r s : Int} (r0 : 0 ≤ r) (r1 : r * r ≤ n) (r2 : n < (r + 1) * (r + 1)) (s0 : 0 ≤ s) (s1 : s * s ≤ n) (s2 : n < (s + 1) * (s + 1)) : r = s := by
  have a := root_le s0 s2 r1
  have b := root_le r0 r2 s1
  omega
def gapZ (far near : Int) : Int := if near ≥ far then 0 else far + near - rootZ (4 * far * near)
/-- isqrt of an integer below 2 ^ 600 -/
def rIsqrt : List V → Hp → VK → Prop := fun vs H Q => ∃ a : Int, vs = [.int a] ∧ 0 ≤ a ∧ a.natAbs < 2 ^ 600 ∧ Q (.int (rootZ a)) H
theorem cr_isqrt {X : Cx} : CallR X (.builtin "math.isqrt") rIsqrt := by
  intro pins s σ H vs us Q I r h
  obtain ⟨a, rfl, h0, h1, q⟩ := h
  cases r with
  | cons r rr =>
    cases rr
    obtain ⟨t, rfl⟩ := r
    have hl : a.toNat.log2 ≤ 600 := PySem.W.mg_log (Nat.lt_of_le_of_lt (by omega : a.toNat ≤ a.natAbs) (Nat.lt_of_lt_of_le h1 (Nat.pow_le_pow_right (by decide) (by decide : 600 ≤ 601))))
    exact call_function_meets PySem.W.MGF.kind_isqrt PySem.W.MGF.plain_isqrt PySem.W.MGF.entry_isqrt (PySem.W.MGF.args_isqrt _) (PySem.W.mg_run_isqrt a t (by omega) (by omega) (by omega)).meets ⟨.int _, H, I.tok _, ⟨_, rfl⟩, q⟩
/-- the sum of (b - a)(q - p) -/
def dotd : List Int → List Int → List Int → List Int → Int
  | a :: as, b :: bs, p :: ps, q :: qs => (b - a) * (q - p) + dotd as bs ps qs
  | _, _, _, _ => 0
theorem dotd_quad (t r : Int) : ∀ as bs ps qs : List Int, as.length = bs.length → as.length = ps.length → as.length = qs.length → 0 ≤ t * t * dist as bs - 2 * t * r * dotd as bs ps qs + r * r * dist ps qs
  | [], [], [], [], _, _, _ => by simp [dist, dotd]
  | a :: as, b :: bs, p :: ps, q :: qs, h1, h2, h3 => by
    have ih := dotd_quad t r as bs ps qs (by simpa using h1) (by simpa using h2) (by simpa using h3)
    have h := sq_nn (t * (b - a) - r * (q - p))
    unfold dist dotd
    grind
  | [], _ :: _, _, _, h, _, _ => by simp at h
  | [], [], _ :: _, _, _, h, _ => by simp at h
  | [], [], [], _ :: _, _, _, h => by simp at h
  | _ :: _, [], _, _, h, _, _ => by simp at h
  | _ :: _, _ :: _, [], _, _, h, _ => by simp at h
  | _ :: _, _ :: _, _ :: _, [], _, _, h => by simp at h
theorem cauchy {as bs ps qs : List Int} (h1 : as.length = bs.length) (h2 : as.length = ps.length) (h3 : as.length = qs.length) : dotd as bs ps qs * dotd as bs ps qs ≤ dist as bs * dist ps qs := by
  have f := fun t r => dotd_quad t r as bs ps qs h1 h2 h3
  have hF := dist_nn as bs
  have hG := dist_nn ps qs
  generalize dist as bs = F at *
  generalize dist ps qs = G at *
  generalize dotd as bs ps qs = S at *
  by_cases g : G = 0
  · subst g
    by_cases s : S = 0
    · subst s
      omega
    · exfalso
      have k := f 1 ((F + 1) * S)
      have s1 : 1 ≤ S * S := by
        have := sq_nn S
        have : S * S ≠ 0 := fun e => s (by simpa using Int.mul_eq_zero.mp e)
        omega
      have k2 : 0 ≤ F - 2 * (F + 1) * (S * S) := by grind
      have k3 : 0 ≤ (F + 1) * (S * S - 1) := Int.mul_nonneg (by omega) (by omega)
      have k4 : (F + 1) * (S * S - 1) = (F + 1) * (S * S) - F - 1 := by grind
      have k5 : 2 * (F + 1) * (S * S) = 2 * ((F + 1) * (S * S)) := by grind
      omega
  · have k := f G S
    have k2 : G * G * F - 2 * G * S * S + S * S * G = G * (F * G - S * S) := by grind
    rw [k2] at k
    rcases Int.lt_or_le (F * G) (S * S) with l | l
    · exfalso
      have : 0 ≤ (G - 1) * (S * S - F * G - 1) := Int.mul_nonneg (by omega) (by omega)
      have e : G * (F * G - S * S) = -((G - 1) * (S * S - F * G - 1)) - (S * S - F * G - 1) - G := by grind
      omega
    · exact l

theorem dist_comm : ∀ xs ys : List Int, dist xs ys = dist ys xs
  | [], [] => rfl
  | [], _ :: _ => by simp [dist]
  | _ :: _, [] => by simp [dist]
  | x :: xs, y :: ys => by
    have ih := dist_comm xs ys
    have e : (x - y) * (x - y) = (y - x) * (y - x) := by grind
    unfold dist
    omega
theorem dist_three : ∀ as bs cs : List Int, as.length = bs.length → as.length = cs.length → dist as cs = dist as bs + dist bs cs - 2 * dotd as bs cs bs
  | [], [], [], _, _ => by simp [dist, dotd]
  | a :: as, b :: bs, c :: cs, h1, h2 => by
    have ih := dist_three as bs cs (by simpa using h1) (by simpa using h2)
    unfold dist dotd
    grind
  | [], _ :: _, _, h, _ => by simp at h
  | [], [], _ :: _, _, h => by simp at h
  | _ :: _, [], _, h, _ => by simp at h
  | _ :: _, _ :: _, [], _, h => by simp at h
theorem gap_nn {far near : Int} (f0 : 0 ≤ far) (n0 : 0 ≤ near) : 0 ≤ gapZ far near := by
  unfold gapZ
  by_cases c : near ≥ far
  · rw [if_pos c]
    exact Int.le_refl 0
  · rw [if_neg c]
    have p : 0 ≤ 4 * far * near := Int.mul_nonneg (by omega) n0
    obtain ⟨r0, r1, r2⟩ := rootZ_spec p
    generalize rootZ (4 * far * near) = r at *
    rcases Int.lt_or_le (far + near) r with l | l
    · exfalso
      have a : 0 ≤ (r - (far + near) - 1) * (r + (far + near)) := Int.mul_nonneg (by omega) (by omega)
      have b := sq_nn (far - near)
      have e : (r - (far + near) - 1) * (r + (far + near)) = r * r - (far - near) * (far - near) - 4 * far * near - r - (far + near) := by grind
      omega
    · omega
/-- step A: the far distance shrinks -/
theorem step_far {t d far N : Int} (t0 : 0 ≤ t - d) (d0 : 0 ≤ d) (N0 : 0 ≤ N) (Nf : N ≤ far) (h : t * t ≤ 4 * (far + d) * N) : (t - d) * (t - d) ≤ 4 * far * N := by
  by_cases c : 4 * N - 2 * t + d ≤ 0
  · have a : 0 ≤ d * (2 * t - 4 * N - d) := Int.mul_nonneg d0 (by omega)
    have e : d * (2 * t - 4 * N - d) = 2 * t * d - 4 * d * N - d * d := by grind
    have e2 : (t - d) * (t - d) = t * t - 2 * t * d + d * d := by grind
    have e3 : 4 * (far + d) * N = 4 * far * N + 4 * d * N := by grind
    omega
  · have a : (t - d) * (t - d) ≤ (2 * N) * (2 * N) := sq_le (by omega) (by omega)
    have b : 0 ≤ 4 * N * (far - N) := Int.mul_nonneg (by omega) (by omega)
    have e : 4 * N * (far - N) = 4 * far * N - 2 * N * (2 * N) := by grind
    omega
/-- step B: the near distance grows -/
theorem step_near {m v far N : Int} (N0 : 0 ≤ N) (v0 : 0 ≤ v) (h1 : N + v ≤ far) (h : 0 ≤ m → m * m ≤ 4 * far * N) (mv : 0 ≤ m + v) : (m + v) * (m + v) ≤ 4 * far * (N + v) := by
  have b : 0 ≤ 4 * far * N := Int.mul_nonneg (by omega) N0
  by_cases c : 0 ≤ m
  · have k := h c
    have m1 : m ≤ far + N := by
      rcases Int.lt_or_le (far + N) m with l | l
      · exfalso
        have a : 0 ≤ (m - (far + N) - 1) * (m + (far + N)) := Int.mul_nonneg (by omega) (by omega)
        have s := sq_nn (far - N)
        have e : (m - (far + N) - 1) * (m + (far + N)) = m * m - (far - N) * (far - N) - 4 * far * N - m - (far + N) := by grind
        omega
      · exact l
    have a : 0 ≤ v * (4 * far - 2 * m - v) := Int.mul_nonneg v0 (by omega)
    have e : v * (4 * far - 2 * m - v) = 4 * far * v - 2 * m * v - v * v := by grind
    have e2 : (m + v) * (m + v) = m * m + 2 * m * v + v * v := by grind
    have e3 : 4 * far * (N + v) = 4 * far * N + 4 * far * v := by grind
    omega
  · have a : (m + v) * (m + v) ≤ v * v := sq_le (by omega) (by omega)
    have s : 0 ≤ v * (4 * far - v) := Int.mul_nonneg v0 (by omega)
    have e : v * (4 * far - v) = 4 * far * v - v * v := by grind
    have e3 : 4 * far * (N + v) = 4 * far * N + 4 * far * v := by grind
    omega
theorem gap_safe {as bs cs : List Int} {far near : Int} (h1 : as.length = bs.length) (h2 : as.length = cs.length) (hf : far ≤ dist as bs) (hn : dist bs cs ≤ near) (f0 : 0 ≤ far) :
    gapZ far near ≤ dist as cs := by
  unfold gapZ
  by_cases c : near ≥ far
  · rw [if_pos c]
    exact dist_nn _ _
  · rw [if_neg c]
    have N0 := dist_nn bs cs
    have p : 0 ≤ 4 * far * near := Int.mul_nonneg (by omega) (by omega)
    obtain ⟨r0, r1, r2⟩ := rootZ_spec p
    have e := dist_three as bs cs h1 h2
    have k := cauchy (as := as) (bs := bs) (ps := cs) (qs := bs) h1 h2 h1
    rw [dist_comm cs bs] at k
    generalize dist as cs = D at *
    generalize dist as bs = F at *
    generalize dist bs cs = N at *
    generalize dotd as bs cs bs = S at *
    generalize rootZ (4 * far * near) = r at *
    have kk : 2 * S * (2 * S) ≤ 4 * (far + (F - far)) * N := by
      have e1 : 2 * S * (2 * S) = 4 * (S * S) := by grind
      have e2 : 4 * (far + (F - far)) * N = 4 * (F * N) := by grind
      omega
    by_cases mm : 0 ≤ 2 * S - (F - far) + (near - N)
    · have g := step_near (m := 2 * S - (F - far)) (v := near - N) (far := far) (N := N) N0 (by omega) (by omega) (fun z => step_far z (by omega) N0 (by omega) kk) mm
      rw [show N + (near - N) = near by omega] at g
      have := root_le r0 r2 g
      omega
    · omega

/-! what the top has made -/
structure Txt (K : PySem.W.Frag) (mg : Str → Option Value) where
  f_law_row : Addr
  d_law_row : FuncData
  F_law_row : Fun K "_law_row" "_law_row" s_law_row f_law_row d_law_row
  b_law_row : Binds K d_law_row ["script", "k"] []
  g_law_row : mg "_law_row" = some (.ref f_law_row)
  f_law_next : Addr
  d_law_next : FuncData
  F_law_next : Fun K "_law_next" "_law_next" s_law_next f_law_next d_law_next
  b_law_next : Binds K d_law_next ["state", "many"] []
  g_law_next : mg "_law_next" = some (.ref f_law_next)
  f_law_is_integer : Addr
  d_law_is_integer : FuncData
  F_law_is_integer : Fun K "_law_is_integer" "_law_is_integer" s_law_is_integer f_law_is_integer d_law_is_integer
  b_law_is_integer : Binds K d_law_is_integer ["actual"] []
  g_law_is_integer : mg "_law_is_integer" = some (.ref f_law_is_integer)
  f_law_point : Addr
  d_law_point : FuncData
  F_law_point : Fun K "_law_point" "_law_point" s_law_point f_law_point d_law_point
  b_law_point : Binds K d_law_point ["state", "size", "spread"] []
  g_law_point : mg "_law_point" = some (.ref f_law_point)
  f_law_distance : Addr
  d_law_distance : FuncData
  F_law_distance : Fun K "_law_distance" "_law_distance" s_law_distance f_law_distance d_law_distance
  b_law_distance : Binds K d_law_distance ["a", "b"] []
  g_law_distance : mg "_law_distance" = some (.ref f_law_distance)
  f_root : Addr
  d_root : FuncData
  F_root : Fun K "root" "root" s_root f_root d_root
  b_root : Binds K d_root ["number"] []
  g_root : mg "root" = some (.ref f_root)
  f_gap : Addr
  d_gap : FuncData
  F_gap : Fun K "gap" "gap" s_gap f_gap d_gap
  b_gap : Binds K d_gap ["far", "near"] []
  g_gap : mg "gap" = some (.ref f_gap)
  f_law : Addr
  d_law : FuncData
  F_law : Fun K "law" "law" s_law f_law d_law
  b_law : Binds K d_law ["script"] []
  g_law : mg "law" = some (.ref f_law)
  m_bool : mg "bool" = none
  m_int : mg "int" = none
  m_isinstance : mg "isinstance" = none
  m_isqrt : mg "isqrt" = some (.builtin "math.isqrt")
  m_len : mg "len" = none
  m_list : mg "list" = none
  m_range : mg "range" = none
section
variable {P : Program} {w : World} {K : PySem.W.Frag} {mg : Str → Option Value} {base : Heap}

def sp_law_row (K : PySem.W.Frag) : Sp := fun vs H Q _ => ∃ (sc : Addr) (ns : List Int) (k : Int), vs = [.ref sc, .int k] ∧ H sc = some (.lst (ns.map V.int)) ∧ 0 ≤ k ∧ ∀ c : Int, 0 ≤ c → Q (.int c) H
set_option maxHeartbeats 4000000 in
theorem ok_law_row (T : Txt K mg) : FnOk P w K mg base CX0 1 T.f_law_row T.d_law_row ["script", "k"] (sp_law_row K) := by
  refine T.F_law_row.ok sc_law_row (fun vs H Q E h => ?_) (fun cdv A outer s H vs Q E hr h => ?_)
  · obtain ⟨sc, ns, k, rfl, _⟩ := h
    rfl
  · obtain ⟨sc, ns, k, rfl, hS, hk, q⟩ := h
    refine ⟨_, (pss_cons (ps_set (i := 2) sc_law_row.nd rfl (.inl rfl) pe_int) 
      (pss_cut (ps_if (pt_cmpR op_lt (pv 1) (pe_callB call_len_seq (by rfl) T.m_len PySem.boot_len (pa_cons (pv 0) pa_nil)) (nomark _)) (pss_one (ps_set (i := 2) sc_law_row.nd rfl (.inl rfl) (pe_ix ix_list (pv 0) (pv 1) (fun _ _ => rfl)))) pss_nil) 
      (pss_cut (ps_if (pt_cmpR op_lt (pv 2) pe_int (nomark _)) (pss_one (ps_set (i := 2) sc_law_row.nd rfl (.inl rfl) (pe_op op_sub (pe_op op_mul (pe_un un_neg pe_int) (pv 2)) pe_int))) pss_nil) 
      (pss_cut (ps_if (pt_cmpR op_lt (pv 2) (pe_op op_pow pe_int pe_int) (nomark _)) (pss_cons (ps_set (i := 3) sc_law_row.nd rfl (.inl rfl) (pe_op op_mod (pe_callTy call_int1 (by rfl) T.m_int (by decide +kernel) (pa_cons (pe_op op_add (pe_op op_add (pe_op op_mul (pv 2) pe_int) (pe_op op_mul (pv 1) pe_int)) pe_int) pa_nil)) pe_int)) 
      (pss_cons (ps_set (i := 4) sc_law_row.nd rfl (.inl rfl) (pe_op op_mod (pe_callTy call_int1 (by rfl) T.m_int (by decide +kernel) (pa_cons (pe_op op_add (pe_op op_add (pe_op op_add (pe_op op_mul (pv 3) pe_int) (pe_op op_mul (pv 2) pe_int)) (pv 1)) pe_int) pa_nil)) pe_int)) 
      (pss_cons (ps_set (i := 5) sc_law_row.nd rfl (.inl rfl) (pe_op op_mod (pe_callTy call_int1 (by rfl) T.m_int (by decide +kernel) (pa_cons (pe_op op_add (pe_op op_add (pe_op op_mul (pv 4) pe_int) (pe_op op_mul (pv 3) (pv 4))) pe_int) pa_nil)) pe_int)) 
      (pss_one (ps_set (i := 2) sc_law_row.nd rfl (.inl rfl) (pe_op op_add (pe_op op_add (pv 3) (pe_op op_mul (pv 4) pe_int)) (pe_op op_mul (pv 5) (pe_op op_pow pe_int pe_int)))))))) pss_nil) 
      (pss_one (ps_ret (pv 2))))))), ?_⟩
    -- if k < len(script): cell = script[k]
    refine ⟨fun σ' H' => H' = H ∧ ∃ c : Int, σ' = [some (.ref sc), some (.int k), some (.int c), none, none, none], ?_, ?_⟩
    · refine ⟨_, rfl, _, rfl, sc, _, rfl, .inl (SqL.of hS), _, _, rfl, rfl, _, rfl, ite2 (fun e => ?_) (fun e => ?_)⟩
      · have hl : k < ((ns.map V.int).length : Int) := of_decide_eq_true e
        rw [List.length_map] at hl
        obtain ⟨c, hc⟩ := item_map hk hl
        exact ⟨_, rfl, _, rfl, sc, _, k, _, rfl, rfl, SqL.of hS, hc, rfl, c, rfl⟩
      · exact ⟨rfl, 0, rfl⟩
    rintro σ' H' ⟨rfl, c, rfl⟩
    -- if cell < 0: cell = -2 * cell - 1
    refine ⟨fun σ' H2 => H2 = H' ∧ ∃ c : Int, 0 ≤ c ∧ σ' = [some (.ref sc), some (.int k), some (.int c), none, none, none], ?_, ?_⟩
    · refine ⟨_, rfl, _, _, rfl, rfl, _, rfl, ite2 (fun e => ?_) (fun e => ?_)⟩
      · have hc : c < 0 := of_decide_eq_true e
        refine ⟨2, rfl, _, rfl, _, _, rfl, rfl, .inl ⟨by decide, by decide⟩, _, _, rfl, rfl, rfl, _, ?_, rfl⟩
        omega
      · have hc : ¬ c < 0 := fun h => e (decide_eq_true h)
        exact ⟨rfl, c, by omega, rfl⟩
    rintro σ' H2 ⟨rfl, c, hc, rfl⟩
    -- if cell < 10 ** 9: ..
    refine ⟨fun σ' H' => H' = H2 ∧ ∃ (c : Int) (x y z : Option V), 0 ≤ c ∧ σ' = [some (.ref sc), some (.int k), some (.int c), x, y, z], ?_, ?_⟩
    · refine ⟨_, rfl, _, _, rfl, rfl, ⟨by decide, by decide, by decide⟩, _, _, rfl, rfl, _, rfl, ite2 (fun e => ?_) (fun e => ?_)⟩
      · have h9 : c < 10 ^ 9 := of_decide_eq_true e
        refine ⟨_, rfl, _, _, rfl, rfl, .inr ⟨by decide, by decide⟩, _, rfl, _, _, rfl, rfl, .inr ⟨by decide, by decide⟩, _, _, rfl, rfl, _, _, rfl, rfl, .inl ⟨_, rfl, ?_⟩⟩
        refine ⟨_, _, rfl, rfl, (by decide : (0 : Int) < 2147483647), ?_⟩
        dsimp only
        generalize ha : (c * 48271 + k * 69621 + 11) % 2147483647 = a
        have a0 : 0 ≤ a := by rw [← ha]; exact Int.emod_nonneg _ (by decide)
        have a1 : a < 2147483647 := by rw [← ha]; exact Int.emod_lt_of_pos _ (by decide)
        refine ⟨_, rfl, _, _, rfl, rfl, .inr ⟨by decide, by decide⟩, _, rfl, _, _, rfl, rfl, .inr ⟨by decide, by decide⟩, _, _, rfl, rfl, _, rfl, _, _, rfl, rfl, _, _, rfl, rfl, .inl ⟨_, rfl, ?_⟩⟩
        refine ⟨_, _, rfl, rfl, (by decide : (0 : Int) < 2147483629), ?_⟩
        dsimp only
        generalize hb : (a * 16807 + c * 7 + k + 5) % 2147483629 = b
        have b0 : 0 ≤ b := by rw [← hb]; exact Int.emod_nonneg _ (by decide)
        have b1 : b < 2147483629 := by rw [← hb]; exact Int.emod_lt_of_pos _ (by decide)
        refine ⟨_, rfl, _, _, rfl, rfl, .inr ⟨by decide, by decide⟩, _, rfl, _, rfl, _, _, rfl, rfl, .inl ⟨by omega, by omega⟩, _, _, rfl, rfl, _, _, rfl, rfl, .inl ⟨_, rfl, ?_⟩⟩
        refine ⟨_, _, rfl, rfl, (by decide : (0 : Int) < 2147483587), ?_⟩
        dsimp only
        generalize hd : (b * 39373 + a * b + 3) % 2147483587 = d
        have d0 : 0 ≤ d := by rw [← hd]; exact Int.emod_nonneg _ (by decide)
        refine ⟨_, rfl, _, rfl, _, _, rfl, rfl, .inr ⟨by decide, by decide⟩, _, _, rfl, rfl, _, rfl, _, _, rfl, rfl, ⟨by decide, by decide, by decide⟩, _, _, rfl, rfl, .inr ⟨by decide, by decide⟩, _, _, rfl, rfl, rfl, _, _, _, _, ?_, rfl⟩
        have e2 : (2147483647 : Int) ^ (2 : Int).toNat = 4611686014132420609 := by decide
        rw [e2]
        omega
      · exact ⟨rfl, c, _, _, _, hc, rfl⟩
    rintro σ' H' ⟨rfl, c, x, y, z, hc, rfl⟩
    exact ⟨_, rfl, q c hc⟩
def sp_law_next (K : PySem.W.Frag) : Sp := fun vs H Q _ => ∃ (st sc : Addr) (m : Int), vs = [.ref st, .int m] ∧ StAt H st sc ∧ 0 < m ∧ m.natAbs < 2 ^ 200 ∧ ∀ (d : Int) (H' : Hp), 0 ≤ d → d < m → StAt H' st sc → Oth st H H' → Q (.int d) H'
set_option maxHeartbeats 4000000 in
theorem ok_law_next (T : Txt K mg) : FnOk P w K mg base CX0 2 T.f_law_next T.d_law_next ["state", "many"] (sp_law_next K) := by
  have G_law_row : FnOk P w K mg base CX0 1 T.f_law_row T.d_law_row ["script", "k"] (sp_law_row K) := ok_law_row T
  refine T.F_law_next.ok sc_law_next (fun vs H Q E h => ?_) (fun cdv A outer s H vs Q E hr h => ?_)
  · obtain ⟨st, sc, m, rfl, _⟩ := h
    rfl
  · obtain ⟨st, sc, m, rfl, hS, m0, m1, q⟩ := h
    refine ⟨_, (pss_cut (ps_if (pt_cmpR op_lt (pe_ix ix_list (pv 0) pe_int (fun _ _ => rfl)) (pv 1) (nomark _)) (pss_cons (ps_asg (pe_call G_law_row (hr.mono (by decide)) (by rfl) T.g_law_row T.F_law_row.kp T.b_law_row .nil pass0 (pa_cons (pe_ix ix_list (pv 0) pe_int (fun _ _ => rfl)) (pa_cons (pe_ix ix_list (pv 0) pe_int (fun _ _ => rfl)) pa_nil))) (pg_sub (pv 0) pe_int set_list)) 
      (pss_one (ps_asg (pe_op op_add (pe_ix ix_list (pv 0) pe_int (fun _ _ => rfl)) pe_int) (pg_sub (pv 0) pe_int set_list)))) pss_nil) 
      (pss_cons (ps_set (i := 2) sc_law_next.nd rfl (.inl rfl) (pe_op op_mod (pe_callTy call_int1 (by rfl) T.m_int (by decide +kernel) (pa_cons (pe_ix ix_list (pv 0) pe_int (fun _ _ => rfl)) pa_nil)) (pv 1))) 
      (pss_cons (ps_asg (pe_op op_fdivW (pe_ix ix_list (pv 0) pe_int (fun _ _ => rfl)) (pv 1)) (pg_sub (pv 0) pe_int set_list)) 
      (pss_one (ps_ret (pv 2)))))), ?_⟩
    -- if state[2] < many: ..
    refine ⟨fun σ' H' => Oth st H H' ∧ StAt H' st sc ∧ σ' = [some (.ref st), some (.int m), none], ?_, ?_⟩
    · obtain ⟨ns, k, x, h1, h2, k0, x0, hn⟩ := id hS
      have hne : sc ≠ st := fun e => by
        rw [e, h1] at h2
        have z := HO.lst.inj (Option.some.inj h2)
        cases ns with
        | nil => cases z
        | cons y r =>
          have z2 := (List.cons.inj z).1
          cases z2
      refine ⟨_, rfl, st, _, _, _, rfl, rfl, SqL.of h1, at_of (j := 2) rfl rfl, _, rfl, _, _, rfl, rfl, _, rfl, ite2 (fun e => ?_) (fun e => ?_)⟩
      · refine ⟨_, rfl, st, _, _, _, rfl, rfl, SqL.of h1, at_of (j := 0) rfl rfl, _, rfl, st, _, _, _, rfl, rfl, SqL.of h1, at_of (j := 1) rfl rfl, sc, ns, k, rfl, h2, k0, fun c c0 => ?_⟩
        refine ⟨_, rfl, st, _, _, 2, rfl, rfl, h1, rfl, ?_⟩
        refine ⟨_, rfl, st, _, _, _, rfl, rfl, SqL.of upd_same, at_of (j := 1) rfl rfl, _, _, rfl, rfl, _, rfl, st, _, _, 1, rfl, rfl, upd_same, rfl, ?_⟩
        refine ⟨fun b hb => ?_, ⟨ns, k + 1, c, upd_same, ?_, by omega, c0, hn⟩, rfl⟩
        · rw [upd_ne hb, upd_ne hb]
        · rw [upd_ne hne, upd_ne hne]
          exact h2
      · exact ⟨Oth.refl _ _, hS, rfl⟩
    rintro σ' H' ⟨hO, ⟨ns, k, x, h1, h2, k0, x0, hn⟩, rfl⟩
    have hne : sc ≠ st := fun e => by
      rw [e, h1] at h2
      have z := HO.lst.inj (Option.some.inj h2)
      cases ns with
      | nil => cases z
      | cons y r =>
        have z2 := (List.cons.inj z).1
        cases z2
    -- drawn = int(state[2]) % many
    refine ⟨_, rfl, st, _, _, _, rfl, rfl, SqL.of h1, at_of (j := 2) rfl rfl, .inl ⟨_, rfl, ?_⟩⟩
    refine ⟨_, rfl, _, _, rfl, rfl, m0, ?_⟩
    -- state[2] = state[2] // many
    refine ⟨_, rfl, st, _, _, _, rfl, rfl, SqL.of h1, at_of (j := 2) rfl rfl, _, rfl, _, _, rfl, rfl, wide_div m0 m1 (by decide) (by decide), ?_⟩
    refine ⟨_, rfl, st, _, _, 2, rfl, rfl, h1, rfl, ?_⟩
    refine ⟨_, rfl, q _ _ (Int.emod_nonneg _ (by omega)) (Int.emod_lt_of_pos _ m0) ⟨ns, k, x / m, upd_same, ?_, k0, Int.ediv_nonneg x0 (by omega), hn⟩ (hO.trans fun b hb => upd_ne hb)⟩
    rw [upd_ne hne]
    exact h2
def sp_law_is_integer (K : PySem.W.Frag) : Sp := fun vs H Q _ => ∃ (i : Int), vs = [.int i] ∧ Q (.bl true) H
set_option maxHeartbeats 4000000 in
theorem ok_law_is_integer (T : Txt K mg) : FnOk P w K mg base CX0 1 T.f_law_is_integer T.d_law_is_integer ["actual"] (sp_law_is_integer K) := by
  refine T.F_law_is_integer.ok sc_law_is_integer (fun vs H Q E h => ?_) (fun cdv A outer s H vs Q E hr h => ?_)
  · obtain ⟨i, rfl, _⟩ := h
    rfl
  · obtain ⟨i, rfl, q⟩ := h
    refine ⟨_, (pss_one (ps_ret (pe_and (pe_callB call_isi (by rfl) T.m_isinstance (by decide +kernel) (pa_cons (pv 0) (pa_cons (pe_bltn (v := .ty "int") (u := .type "int") (by rfl) T.m_int (by decide +kernel) rfl) pa_nil))) (pe_one (pe_not (pe_callB call_isi (by rfl) T.m_isinstance (by decide +kernel) (pa_cons (pv 0) (pa_cons (pe_bltn (v := .ty "bool") (u := .type "bool") (by rfl) T.m_bool (by decide +kernel) rfl) pa_nil)))))))), ?_⟩
    refine ⟨_, rfl, _, _, _, _, true, rfl, .ty _, .base (.int i), kit_ty (by decide +kernel), true, rfl, iteT ?_⟩
    exact ⟨_, rfl, _, _, _, _, false, rfl, .ty _, .base (.int i), kit_ty (by decide +kernel), false, rfl, q⟩
def sp_law_point (K : PySem.W.Frag) : Sp := fun vs H Q _ => ∃ (st sc : Addr) (n s : Int), vs = [.ref st, .int n, .int s] ∧ StAt H st sc ∧ 0 ≤ n ∧ n ≤ 1000 ∧ 0 ≤ s ∧ s ≤ 1000000000 ∧ ∀ (p : Addr) (zs : List Int) (H' : Hp), (zs.length : Int) = n → Bd s zs → H p = none → H' p = some (.lst (zs.map V.int)) → StAt H' st sc → Fr st H H' → Q (.ref p) H'
set_option maxHeartbeats 4000000 in
theorem ok_law_point (T : Txt K mg) : FnOk P w K mg base CX0 3 T.f_law_point T.d_law_point ["state", "size", "spread"] (sp_law_point K) := by
  have G_law_next : FnOk P w K mg base CX0 2 T.f_law_next T.d_law_next ["state", "many"] (sp_law_next K) := ok_law_next T
  refine T.F_law_point.ok sc_law_point (fun vs H Q E h => ?_) (fun cdv A outer s H vs Q E hr h => ?_)
  · obtain ⟨st, sc, n, s, rfl, _⟩ := h
    rfl
  · obtain ⟨st, sc, n, s, rfl, hS, n0, n1, s0, s1, q⟩ := h
    refine ⟨_, (pss_one (ps_ret (pe_lc (own := [("k", 3)]) (g := gName 3) rfl sc_law_point.nd (pi_range1 rfl T.m_range (pa_cons (pv 1) pa_nil)) (blkOk_by (own := [("k", 3)]) (N := ["state", "size", "spread", "k"]) (sc := defScope s_law_point) (by decide +kernel)) (fun _ _ _ _ _ => (pg_name (i := 3) sc_law_point.nd rfl (Or.inl rfl))) (fun _ _ _ _ _ => pts_nil) (fun _ _ _ _ _ => (pe_op op_sub (pe_call G_law_next (hr.mono (by decide)) (by rfl) T.g_law_next T.F_law_next.kp T.b_law_next .nil pass0 (pa_cons (pv 0) (pa_cons (pe_op op_add (pe_op op_mul pe_int (pv 2)) pe_int) pa_nil))) (pv 2)))))), ?_⟩
    refine ⟨_, rfl, n, rfl, by omega, by omega, fun D hD => ?_⟩
    have nD : D ≠ st := st_new hS hD
    refine lc_range (lo := 0) (n := n.toNat) (fun i H' => Fr st H H' ∧ StAt H' st sc ∧ ∃ zs : List Int, zs.length = i ∧ Bd s zs ∧ H' D = some (.lst (zs.map V.int))) ⟨Fr.new hD, hS.new hD, [], rfl, fun _ h => (nomatch h), upd_same⟩ ?_ ?_
    · rintro i H1 hi ⟨f1, hS1, zs, hz, hb, h1⟩
      refine ⟨rfl, ?_⟩
      refine ⟨_, rfl, _, rfl, _, _, rfl, rfl, .inl ⟨by decide, by decide⟩, _, _, rfl, rfl, st, sc, 2 * s + 1, rfl, hS1, by omega, ?_, fun d H2 d0 d1 hS2 o2 => ?_⟩
      · exact wide_le (j := 2 * 1000000000 + 1) (by omega) (by omega) (by decide +kernel)
      · have h2 : H2 D = some (.lst (zs.map V.int)) := (o2 D nD).trans h1
        refine ⟨_, rfl, _, _, rfl, rfl, _, h2, ?_, ?_⟩
        · rw [List.length_map, hz]
          exact len_le (by omega)
        · refine ⟨(f1.trans o2.fr).set hD, hS2.set hS hD, zs ++ [d - s], by simp [hz], ?_, ?_⟩
          · intro z hz
            rcases List.mem_append.mp hz with h | h
            · exact hb z h
            · rw [List.mem_singleton] at h
              omega
          · rw [upd_same, List.map_append]
            rfl
    · rintro H1 ⟨f1, hS1, zs, hz, hb, h1⟩
      exact q D zs H1 (by omega) hb hD h1 hS1 f1
def sp_law_distance (K : PySem.W.Frag) : Sp := fun vs H Q _ => ∃ (a b : Addr) (xs ys : List Int), vs = [.ref a, .ref b] ∧ H a = some (.lst (xs.map V.int)) ∧ H b = some (.lst (ys.map V.int)) ∧ xs.length = ys.length ∧ xs.length ≤ 1000 ∧ Bd 1000000000000 xs ∧ Bd 1000000000000 ys ∧ Q (.int (dist xs ys)) H
set_option maxHeartbeats 4000000 in
theorem ok_law_distance (T : Txt K mg) : FnOk P w K mg base CX0 1 T.f_law_distance T.d_law_distance ["a", "b"] (sp_law_distance K) := by
  refine T.F_law_distance.ok sc_law_distance (fun vs H Q E h => ?_) (fun cdv A outer s H vs Q E hr h => ?_)
  · obtain ⟨a, b, xs, ys, rfl, _⟩ := h
    rfl
  · obtain ⟨a, b, xs, ys, rfl, ha, hb, hl, h1, bx, by_, q⟩ := h
    refine ⟨_, (pss_cons (ps_set (i := 2) sc_law_distance.nd rfl (.inl rfl) pe_int) 
      (pss_cons (ps_for PassesOwn.never rfl (pi_range1 rfl T.m_range (pa_cons (pe_callB call_len_seq (by rfl) T.m_len PySem.boot_len (pa_cons (pv 0) pa_nil)) pa_nil)) (pg_name (i := 3) sc_law_distance.nd rfl (.inl rfl)) (pss_one (ps_set (i := 2) sc_law_distance.nd rfl (.inl rfl) (pe_op op_add (pv 2) (pe_op op_mul (pe_op op_sub (pe_ix ix_list (pv 0) (pv 3) (fun _ _ => rfl)) (pe_ix ix_list (pv 1) (pv 3) (fun _ _ => rfl))) (pe_op op_sub (pe_ix ix_list (pv 0) (pv 3) (fun _ _ => rfl)) (pe_ix ix_list (pv 1) (pv 3) (fun _ _ => rfl)))))))) 
      (pss_one (ps_ret (pv 2))))), ?_⟩
    refine ⟨_, rfl, a, _, rfl, .inl (SqL.of ha), xs.length, by rw [List.length_map], by omega, by omega, ?_⟩
    refine for_range (lo := 0) (n := xs.length) (fun i σ H' => H' = H ∧ ∃ y, σ = [some (.ref a), some (.ref b), some (.int (dist (xs.take i) (ys.take i))), y]) ⟨rfl, none, by simp [dist]; rfl⟩ ?_ ?_
    · rintro i σ H' hi ⟨rfl, y, rfl⟩
      obtain ⟨x, hx⟩ : ∃ x, xs[i]? = some x := ⟨xs[i], List.getElem?_eq_getElem hi⟩
      obtain ⟨z, hz⟩ : ∃ z, ys[i]? = some z := ⟨ys[i]'(by omega), List.getElem?_eq_getElem (by omega)⟩
      have b1 := bx.at hx
      have b2 := by_.at hz
      have e0 : (0 : Int) + (i : Int) = (i : Int) := by omega
      refine ⟨_, rfl, _, rfl, _, rfl, a, _, _, _, rfl, rfl, SqL.of ha, at_of e0 (map_get hx), _, rfl, _, rfl, b, _, _, _, rfl, rfl, SqL.of hb, at_of e0 (map_get hz), _, _, rfl, rfl, ?_⟩
      refine ⟨_, rfl, _, rfl, a, _, _, _, rfl, rfl, SqL.of ha, at_of e0 (map_get hx), _, rfl, _, rfl, b, _, _, _, rfl, rfl, SqL.of hb, at_of e0 (map_get hz), _, _, rfl, rfl, _, _, rfl, rfl, .inl ⟨by omega, by omega⟩, _, _, rfl, rfl, rfl, some (V.int ((0 : Int) + (i : Int))), ?_⟩
      rw [dist_take hx hz]
      rfl
    · rintro σ H' ⟨rfl, y, rfl⟩
      rw [List.take_of_length_le (Nat.le_refl _), List.take_of_length_le (by omega)]
      exact ⟨_, rfl, q⟩
def sp_root (K : PySem.W.Frag) : Sp := fun vs H Q _ => ∃ (n : Int), vs = [.int n] ∧ n.natAbs < 2 ^ 600 ∧ Q (.int (rootZ n)) H
set_option maxHeartbeats 4000000 in
theorem ok_root (T : Txt K mg) : FnOk P w K mg base CX0 1 T.f_root T.d_root ["number"] (sp_root K) := by
  refine T.F_root.ok sc_root (fun vs H Q E h => ?_) (fun cdv A outer s H vs Q E hr h => ?_)
  · obtain ⟨n, rfl, _⟩ := h
    rfl
  · obtain ⟨n, rfl, h1, q⟩ := h
    refine ⟨_, (pss_cons (ps_if (pt_cmpR op_lt (pv 0) pe_int (nomark _)) (pss_one (ps_ret pe_int)) pss_nil) 
      (pss_one (ps_ret (pe_callBfun cr_isqrt (by rfl) T.m_isqrt (pa_cons (pv 0) pa_nil))))), ?_⟩
    refine ⟨_, rfl, _, _, rfl, rfl, _, rfl, ite2 (fun e => ?_) (fun e => ?_)⟩
    · have c : n < 0 := of_decide_eq_true e
      have z : rootZ n = 0 := by
        unfold rootZ
        rw [show n.toNat = 0 by omega]
        decide +kernel
      rw [z] at q
      exact q
    · have c : ¬ n < 0 := fun z => e (decide_eq_true z)
      exact ⟨_, rfl, n, rfl, by omega, h1, q⟩
def sp_gap (K : PySem.W.Frag) : Sp := fun vs H Q _ => ∃ (far near : Int), vs = [.int far, .int near] ∧ 0 ≤ far ∧ far.natAbs < 2 ^ 280 ∧ 0 ≤ near ∧ near.natAbs < 2 ^ 280 ∧ Q (.int (gapZ far near)) H
set_option maxHeartbeats 4000000 in
theorem ok_gap (T : Txt K mg) : FnOk P w K mg base CX0 2 T.f_gap T.d_gap ["far", "near"] (sp_gap K) := by
  have G_root : FnOk P w K mg base CX0 1 T.f_root T.d_root ["number"] (sp_root K) := ok_root T
  refine T.F_gap.ok sc_gap (fun vs H Q E h => ?_) (fun cdv A outer s H vs Q E hr h => ?_)
  · obtain ⟨far, near, rfl, _⟩ := h
    rfl
  · obtain ⟨far, near, rfl, f0, f1, n0, n1, q⟩ := h
    refine ⟨_, (pss_cons (ps_if (pt_cmpR op_ge (pv 1) (pv 0) (nomark _)) (pss_one (ps_ret pe_int)) pss_nil) 
      (pss_one (ps_ret (pe_op op_sub (pe_op op_add (pv 0) (pv 1)) (pe_call G_root (hr.mono (by decide)) (by rfl) T.g_root T.F_root.kp T.b_root .nil pass0 (pa_cons (pe_op op_mulW (pe_op op_mul pe_int (pv 0)) (pv 1)) pa_nil)))))), ?_⟩
    refine ⟨_, rfl, _, rfl, _, _, rfl, rfl, _, rfl, ite2 (fun e => ?_) (fun e => ?_)⟩
    · have c : far ≤ near := of_decide_eq_true e
      have z : gapZ far near = 0 := by unfold gapZ; rw [if_pos c]
      rw [z] at q
      exact q
    · have c : ¬ far ≤ near := fun z => e (decide_eq_true z)
      have z : gapZ far near = far + near - rootZ (4 * far * near) := by unfold gapZ; rw [if_neg c]
      rw [z] at q
      have w4 : (4 : Int).natAbs < 2 ^ 3 := by decide
      have w5 : (4 * far).natAbs < 2 ^ (3 + 280) := wide_lt w4 f1
      refine ⟨_, rfl, _, rfl, _, _, rfl, rfl, _, rfl, _, _, rfl, rfl, .inl ⟨by decide, by decide⟩, _, rfl, _, _, rfl, rfl, wide_mul w5 n1 (by decide) (by decide) (by decide), _, rfl, ?_, _, _, rfl, rfl, q⟩
      exact Nat.lt_of_lt_of_le (wide_lt w5 n1) (Nat.pow_le_pow_right (by decide) (by decide))
def sp_law (K : PySem.W.Frag) : Sp := fun vs H Q _ => ∃ (a : Addr) (ns : List Int), vs = [.ref a] ∧ SqL K H a (ns.map V.int) ∧ ns.length ≤ 63 ∧ ∀ H', Q (.bl true) H'
set_option maxHeartbeats 8000000 in
theorem ok_law (T : Txt K mg) : FnOk P w K mg base CX0 4 T.f_law T.d_law ["script"] (sp_law K) := by
  have G_law_distance : FnOk P w K mg base CX0 1 T.f_law_distance T.d_law_distance ["a", "b"] (sp_law_distance K) := ok_law_distance T
  have G_law_is_integer : FnOk P w K mg base CX0 1 T.f_law_is_integer T.d_law_is_integer ["actual"] (sp_law_is_integer K) := ok_law_is_integer T
  have G_gap : FnOk P w K mg base CX0 2 T.f_gap T.d_gap ["far", "near"] (sp_gap K) := ok_gap T
  have G_law_next : FnOk P w K mg base CX0 2 T.f_law_next T.d_law_next ["state", "many"] (sp_law_next K) := ok_law_next T
  have G_law_point : FnOk P w K mg base CX0 3 T.f_law_point T.d_law_point ["state", "size", "spread"] (sp_law_point K) := ok_law_point T
  refine T.F_law.ok sc_law (fun vs H Q E h => ?_) (fun cdv A outer s H vs Q E hr h => ?_)
  · obtain ⟨a, ns, rfl, _⟩ := h
    rfl
  · obtain ⟨a, ns, rfl, hA, hlen, q⟩ := h
    refine ⟨_, (pss_cons (ps_set (i := 1) sc_law.nd rfl (.inl rfl) (pe_lst (pa_cons (pe_callTy call_list_of (by rfl) T.m_list (by decide +kernel) (pa_cons (pv 0) pa_nil)) (pa_cons pe_int (pa_cons pe_int pa_nil))))) 
      (pss_cons (ps_for PassesOwn.never rfl (pi_range1 rfl T.m_range (pa_cons pe_int pa_nil)) (pg_name (i := 2) sc_law.nd rfl (.inl rfl)) (pss_cons (ps_set (i := 3) sc_law.nd rfl (.inl rfl) (pe_op op_add pe_int (pe_call G_law_next (hr.mono (by decide)) (by rfl) T.g_law_next T.F_law_next.kp T.b_law_next .nil pass0 (pa_cons (pv 1) (pa_cons pe_int pa_nil))))) 
      (pss_cons (ps_set (i := 4) sc_law.nd rfl (.inl rfl) (pe_ix ix_list (pe_lst (pa_cons pe_int (pa_cons pe_int (pa_cons pe_int (pa_cons pe_int pa_nil))))) (pe_call G_law_next (hr.mono (by decide)) (by rfl) T.g_law_next T.F_law_next.kp T.b_law_next .nil pass0 (pa_cons (pv 1) (pa_cons pe_int pa_nil))) (fun _ _ => rfl))) 
      (pss_cons (ps_set (i := 5) sc_law.nd rfl (.inl rfl) (pe_call G_law_point (hr.mono (by decide)) (by rfl) T.g_law_point T.F_law_point.kp T.b_law_point .nil pass0 (pa_cons (pv 1) (pa_cons (pv 3) (pa_cons (pv 4) pa_nil))))) 
      (pss_cons (ps_set (i := 6) sc_law.nd rfl (.inl rfl) (pe_call G_law_point (hr.mono (by decide)) (by rfl) T.g_law_point T.F_law_point.kp T.b_law_point .nil pass0 (pa_cons (pv 1) (pa_cons (pv 3) (pa_cons (pv 4) pa_nil))))) 
      (pss_cons (ps_setLc (i := 7) (own := [("number", 8)]) (g := gName 8) rfl sc_law.nd rfl rfl (sw_true rfl rfl rfl (by decide +kernel)) (pi_list (pv 6)) (blkOk_by (own := [("number", 8)]) (N := ["script", "state", "turn", "size", "spread", "a", "b", "c", "number", "k", "far", "near", "actual"]) (sc := defScope s_law) (by decide +kernel)) (fun _ _ _ _ _ => (pg_name (i := 8) sc_law.nd rfl (Or.inl rfl))) (fun _ _ _ _ _ => pts_nil) (fun _ _ _ _ _ => (pe_op op_add (pv 8) pe_int))) 
      (pss_cons (ps_for PassesOwn.never rfl (pi_range1 rfl T.m_range (pa_cons (pv 3) pa_nil)) (pg_name (i := 9) sc_law.nd rfl (.inl rfl)) (pss_one (ps_asg (pe_op op_sub (pe_op op_add (pe_ix ix_list (pv 7) (pv 9) (fun _ _ => rfl)) (pe_call G_law_next (hr.mono (by decide)) (by rfl) T.g_law_next T.F_law_next.kp T.b_law_next .nil pass0 (pa_cons (pv 1) (pa_cons (pe_op op_add (pe_op op_mul pe_int (pe_op op_add pe_int (pe_op op_fdiv (pv 4) pe_int))) pe_int) pa_nil)))) (pe_op op_add pe_int (pe_op op_fdiv (pv 4) pe_int))) (pg_sub (pv 7) (pv 9) set_list)))) 
      (pss_cons (ps_set (i := 10) sc_law.nd rfl (.inl rfl) (pe_call G_law_distance (hr.mono (by decide)) (by rfl) T.g_law_distance T.F_law_distance.kp T.b_law_distance .nil pass0 (pa_cons (pv 5) (pa_cons (pv 6) pa_nil)))) 
      (pss_cons (ps_set (i := 11) sc_law.nd rfl (.inl rfl) (pe_call G_law_distance (hr.mono (by decide)) (by rfl) T.g_law_distance T.F_law_distance.kp T.b_law_distance .nil pass0 (pa_cons (pv 6) (pa_cons (pv 7) pa_nil)))) 
      (pss_cut (ps_if (pt_cmpR op_eq (pe_call G_law_next (hr.mono (by decide)) (by rfl) T.g_law_next T.F_law_next.kp T.b_law_next .nil pass0 (pa_cons (pv 1) (pa_cons pe_int pa_nil))) pe_int (nomark _)) (pss_cons (ps_set (i := 10) sc_law.nd rfl (.inl rfl) (pe_call G_law_next (hr.mono (by decide)) (by rfl) T.g_law_next T.F_law_next.kp T.b_law_next .nil pass0 (pa_cons (pv 1) (pa_cons (pe_op op_add (pv 10) pe_int) pa_nil)))) 
      (pss_one (ps_set (i := 11) sc_law.nd rfl (.inl rfl) (pe_op op_add (pv 11) (pe_call G_law_next (hr.mono (by decide)) (by rfl) T.g_law_next T.F_law_next.kp T.b_law_next .nil pass0 (pa_cons (pv 1) (pa_cons pe_int pa_nil))))))) pss_nil) 
      (pss_cons (ps_set (i := 12) sc_law.nd rfl (.inl rfl) (pe_call G_gap (hr.mono (by decide)) (by rfl) T.g_gap T.F_gap.kp T.b_gap .nil pass0 (pa_cons (pv 10) (pa_cons (pv 11) pa_nil)))) 
      (pss_one (ps_if (PW.pt (pw_or (pt_not (pt_truth (pe_call G_law_is_integer (hr.mono (by decide)) (by rfl) T.g_law_is_integer T.F_law_is_integer.kp T.b_law_is_integer .nil pass0 (pa_cons (pv 12) pa_nil)) (by intro _; rfl))) (pw_or (pt_cmpR op_lt (pv 12) pe_int (nomark _)) (pw_or1 (pt_cmpR op_gt (pv 12) (pe_call G_law_distance (hr.mono (by decide)) (by rfl) T.g_law_distance T.F_law_distance.kp T.b_law_distance .nil pass0 (pa_cons (pv 5) (pa_cons (pv 7) pa_nil))) (nomark _)))))) (pss_one (ps_ret pe_bl)) pss_nil))))))))))))) 
      (pss_one (ps_ret pe_bl)))), ?_⟩
    refine ⟨_, rfl, a, _, rfl, .inl hA, fun sc hsc => ⟨(by show 3 ≤ sizeLine; decide), fun st hst => ?_⟩⟩
    have hS0 := st_made hsc hst hlen
    generalize upd (upd H sc (.lst (ns.map V.int))) st (.lst [.ref sc, .int 0, .int 0]) = H0 at hS0
    refine ⟨6, rfl, by decide, by decide, for_range (lo := 0) (n := 6) (fun i σ H' => StAt H' st sc ∧ ∃ x2 x3 x4 x5 x6 x7 x8 x9 x10 x11 x12, σ = [some (.ref a), some (.ref st), x2, x3, x4, x5, x6, x7, x8, x9, x10, x11, x12]) ⟨hS0, none, none, none, none, none, none, none, none, none, none, none, rfl⟩ ?_ ?_⟩
    rotate_left
    · rintro σ H' ⟨_, x2, x3, x4, x5, x6, x7, x8, x9, x10, x11, x12, rfl⟩
      exact q H'
    rintro i σ Hi hi ⟨hSi, x2, x3, x4, x5, x6, x7, x8, x9, x10, x11, x12, rfl⟩
    -- size, spread
    refine ⟨_, rfl, st, sc, 5, rfl, hSi, by decide, by decide +kernel, fun n H1 n0 n1 hS1 _ => ?_⟩
    refine ⟨_, _, rfl, rfl, ?_⟩
    refine ⟨by decide, fun l hl => ?_⟩
    refine ⟨_, rfl, st, sc, 4, rfl, hS1.new hl, by decide, by decide +kernel, fun k4 H2 k0 k1 hS2 o2 => ?_⟩
    obtain ⟨s, hs, hsv⟩ := pick4 (a := 1) (b := 3) (c := 20) (d := 30000) k0 k1
    have s0 : 0 ≤ s := by omega
    have s1 : s ≤ 30000 := by omega
    refine ⟨l, _, k4, _, rfl, rfl, SqL.of ((o2 l (st_new hS1 hl)).trans upd_same), hs, ?_⟩
    clear o2 hl hs k0 k1
    -- a, b
    refine ⟨_, rfl, _, rfl, _, rfl, st, sc, 1 + n, s, rfl, hS2, by omega, by omega, s0, by omega, fun pa za H3 la ba _ ea hS3 _ => ?_⟩
    have Pa : IsPt H3 pa (1 + n) s za := ⟨ea, la, ba⟩
    refine ⟨_, rfl, _, rfl, _, rfl, st, sc, 1 + n, s, rfl, hS3, by omega, by omega, s0, by omega, fun pb zb H4 lb bb _ eb hS4 f4 => ?_⟩
    have Pb : IsPt H4 pb (1 + n) s zb := ⟨eb, lb, bb⟩
    replace Pa := Pa.fr hS3 f4
    clear f4 ea eb
    -- c = [number + 0 for number in b]
    refine ⟨_, rfl, pb, rfl, ⟨_, SqL.of Pb.1⟩, fun pc hpc => ?_⟩
    have nst : pc ≠ st := st_new hS4 hpc
    refine lc_list (K := K) (a := pb) (xs := zb.map V.int) (fun j H' => Fr st H4 H' ∧ StAt H' st sc ∧ H' pc = some (.lst ((zb.take j).map V.int))) ⟨Fr.new hpc, hS4.new hpc, by rw [upd_same]; rfl⟩ (fun j H' _ h => SqL.of (Pb.fr hS4 h.1).1) ?_ ?_
    · rintro j y H' hj ⟨fr, hS', h1'⟩
      obtain ⟨z, rfl, hz⟩ := get_map hj
      refine ⟨rfl, _, rfl, _, _, rfl, rfl, _, h1', ?_, ?_⟩
      · rw [List.length_map, List.length_take]
        exact len_le (by omega)
      · refine ⟨fr.set hpc, hS'.set hS4 hpc, ?_⟩
        rw [upd_same, List.take_add_one, hz, List.map_append]
        show some (HO.lst (_ ++ [V.int (z + 0)])) = _
        rw [Int.add_zero]
        rfl
    rintro H5 ⟨f5, hS5, hc⟩
    rw [List.length_map, List.take_of_length_le (Nat.le_refl _)] at hc
    have npa : pa ≠ pc := ne_of_none Pa.1 hpc
    have npb : pb ≠ pc := ne_of_none Pb.1 hpc
    have nsc : sc ≠ pc := by
      obtain ⟨_, _, _, _, g, _⟩ := hS4
      exact ne_of_none g hpc
    replace Pa := Pa.fr hS4 f5
    replace Pb := Pb.fr hS4 f5
    clear f5
    have sp3 : 0 ≤ s / 3 ∧ s / 3 ≤ 10000 := by omega
    have st3 : st ≠ pc := nst.symm
    -- for k in range(size): c[k] = c[k] + ..
    refine ⟨_, rfl, 1 + n, rfl, by omega, by omega, for_range (lo := 0) (n := (1 + n).toNat) (fun j σ H' => StAt H' st sc ∧ IsPt H' pa (1 + n) s za ∧ IsPt H' pb (1 + n) s zb ∧ ∃ zc x8 x9, (zc.length : Int) = 1 + n ∧ Bd (30000 + 10001 * (j : Int)) zc ∧ H' pc = some (.lst (zc.map V.int)) ∧ σ = [some (.ref a), some (.ref st), some (.int (0 + (i : Int))), some (.int (1 + n)), some (.int s), some (.ref pa), some (.ref pb), some (.ref pc), x8, x9, x10, x11, x12]) ⟨hS5, Pa, Pb, zb, x8, x9, lb, fun z hz => by have := bb z hz; simp; omega, hc, rfl⟩ ?_ ?_⟩
    · rintro j σ H6 hj ⟨hS6, Pa6, Pb6, zc, y8, y9, lc, bc, hc6, rfl⟩
      have e0 : (0 : Int) + (j : Int) = (j : Int) := by omega
      obtain ⟨z, hz⟩ : ∃ z, zc[j]? = some z := ⟨zc[j]'(by omega), List.getElem?_eq_getElem (by omega)⟩
      have bz := bc.at hz
      have hj5 : (j : Int) < 5 := by omega
      refine ⟨_, rfl, _, rfl, pc, _, _, _, rfl, rfl, SqL.of hc6, at_of e0 (map_get hz), _, rfl, _, rfl, _, _, rfl, rfl, ⟨by decide, by decide⟩, _, _, rfl, rfl, _, _, rfl, rfl, .inl ⟨by decide, by decide⟩, _, _, rfl, rfl, st, sc, _, rfl, hS6, by omega, ?_, fun d H7 d0 d1 hS7 o7 => ?_⟩
      · exact wide_le (j := 2 * 1000000000 + 1) (by omega) (by omega) (by decide +kernel)
      have hc7 : H7 pc = some (.lst (zc.map V.int)) := (o7 pc nst).trans hc6
      refine ⟨_, _, rfl, rfl, _, rfl, _, _, rfl, rfl, ⟨by decide, by decide⟩, _, _, rfl, rfl, _, _, rfl, rfl, ?_⟩
      have ixn : ixN (zc.map V.int).length (0 + (j : Int)) = some j := by
        rw [e0, List.length_map]
        exact ixN_nat (by omega)
      refine ⟨_, rfl, _, rfl, pc, _, _, j, rfl, rfl, hc7, ixn, ?_⟩
      have Pa7 := Pa6.fr hS6 o7.fr
      have Pb7 := Pb6.fr hS6 o7.fr
      refine ⟨?_, ⟨by rw [upd_ne npa]; exact Pa7.1, Pa7.2⟩, ⟨by rw [upd_ne npb]; exact Pb7.1, Pb7.2⟩, zc.set j (z + d - (1 + s / 3)), _, _, by rw [List.length_set]; exact lc, ?_, ?_, rfl⟩
      · obtain ⟨ns', k', x', g1, g2, g3, g4, g5⟩ := hS7
        exact ⟨ns', k', x', by rw [upd_ne st3]; exact g1, by rw [upd_ne nsc]; exact g2, g3, g4, g5⟩
      · intro y hy
        rcases List.mem_or_eq_of_mem_set hy with h | h
        · have := bc y h
          omega
        · omega
      · rw [upd_same, List.map_set]
    rintro σ H6 ⟨hS6, Pa6, Pb6, zc, y8, y9, lc, bc, hc6, rfl⟩
    have Pc6 : IsPt H6 pc (1 + n) 1000000 zc := ⟨hc6, lc, fun z hz => by have := bc z hz; omega⟩
    have n5 : 1 + n ≤ 5 := by omega
    replace Pa6 := Pa6.wide s1
    replace Pb6 := Pb6.wide s1
    have wa := (Pa6.wide (t := 1000000000000) (by decide)).2.2
    have wb := (Pb6.wide (t := 1000000000000) (by decide)).2.2
    have wc := (Pc6.wide (t := 1000000000000) (by decide)).2.2
    have la := Pa6.2.1
    have lb := Pb6.2.1
    have fw : ∀ {xs ys : List Int}, xs.length = ys.length → (xs.length : Int) = 1 + n → Bd 1000000 xs → Bd 1000000 ys → 0 ≤ dist xs ys ∧ dist xs ys < 100000000000000 := fun {xs ys} _ l b1 b2 => by
      refine ⟨dist_nn _ _, ?_⟩
      have a := dist_le b1 b2
      have e : (1000000 : Int) * 1000000 = 1000000000000 := by decide
      rw [e] at a
      have : (xs.length : Int) * (4 * 1000000000000) ≤ 5 * (4 * 1000000000000) := by omega
      omega
    obtain ⟨f0, f1⟩ := fw (xs := za) (ys := zb) (by omega) la (Pa6.wide (t := 1000000) (by decide)).2.2 (Pb6.wide (t := 1000000) (by decide)).2.2
    obtain ⟨g0, g1⟩ := fw (xs := zb) (ys := zc) (by omega) lb (Pb6.wide (t := 1000000) (by decide)).2.2 Pc6.2.2
    -- far, near
    refine ⟨_, rfl, _, rfl, pa, pb, za, zb, rfl, Pa6.1, Pb6.1, by omega, by omega, wa, wb, ?_⟩
    refine ⟨_, rfl, _, rfl, pb, pc, zb, zc, rfl, Pb6.1, Pc6.1, by omega, by omega, wb, wc, ?_⟩
    -- if _law_next(state, 2) == 0: ..
    refine ⟨fun σ' H' => StAt H' st sc ∧ IsPt H' pa (1 + n) 30000 za ∧ IsPt H' pb (1 + n) 30000 zb ∧ IsPt H' pc (1 + n) 1000000 zc ∧ ∃ far near : Int, 0 ≤ far ∧ far ≤ dist za zb ∧ dist zb zc ≤ near ∧ near < 1000000000000000 ∧ σ' = [some (.ref a), some (.ref st), some (.int (0 + (i : Int))), some (.int (1 + n)), some (.int s), some (.ref pa), some (.ref pb), some (.ref pc), y8, y9, some (.int far), some (.int near), x12], ?_, ?_⟩
    · refine ⟨_, rfl, st, sc, 2, rfl, hS6, by decide, by decide +kernel, fun d H7 _ _ hS7 o7 => ?_⟩
      have Pa7 := Pa6.fr hS6 o7.fr
      have Pb7 := Pb6.fr hS6 o7.fr
      have Pc7 := Pc6.fr hS6 o7.fr
      refine ⟨rfl, _, rfl, ite2 (fun _ => ?_) (fun _ => ?_)⟩
      · refine ⟨_, rfl, _, rfl, _, _, rfl, rfl, st, sc, _, rfl, hS7, by omega, ?_, fun far H8 h0 h1 hS8 o8 => ?_⟩
        · exact wide_le (j := 100000000000000 + 1) (by omega) (by omega) (by decide +kernel)
        refine ⟨_, rfl, _, rfl, st, sc, 50, rfl, hS8, by decide, by decide +kernel, fun d2 H9 d0 d1 hS9 o9 => ?_⟩
        refine ⟨_, _, rfl, rfl, hS9, (Pa7.fr hS7 o8.fr).fr hS8 o9.fr, (Pb7.fr hS7 o8.fr).fr hS8 o9.fr, (Pc7.fr hS7 o8.fr).fr hS8 o9.fr, far, dist zb zc + d2, h0, by omega, by omega, by omega, rfl⟩
      · exact ⟨hS7, Pa7, Pb7, Pc7, _, _, f0, Int.le_refl _, Int.le_refl _, by omega, rfl⟩
    rintro σ' H7 ⟨hS7, Pa7, Pb7, Pc7, far, near, h0, h1, h2, h3, rfl⟩
    have nn := gap_nn h0 (show 0 ≤ near by omega)
    have safe := gap_safe (as := za) (bs := zb) (cs := zc) (by omega) (by omega) h1 h2 h0
    refine ⟨_, rfl, _, rfl, far, near, rfl, h0, wide_le (j := 100000000000000) h0 (by omega) (by decide +kernel), by omega, wide_le (j := 1000000000000000) (by omega) (by omega) (by decide +kernel), ?_⟩
    -- if not _law_is_integer(actual) or actual < 0 or actual > _law_distance(a, c)
    refine ⟨_, rfl, _, rfl, true, rfl, iteF ?_⟩
    refine ⟨_, rfl, _, _, rfl, rfl, _, rfl, ?_⟩
    rw [decide_eq_false (Int.not_lt.mpr nn)]
    refine iteF ?_
    refine ⟨_, rfl, _, rfl, _, rfl, pa, pc, za, zc, rfl, Pa7.1, Pc7.1, by omega, by omega, wa, wc, _, _, rfl, rfl, _, rfl, ?_⟩
    rw [decide_eq_false (Int.not_lt.mpr safe)]
    refine iteF ?_
    exact ⟨hS7, _, _, _, _, _, _, _, _, _, _, _, rfl⟩
end
theorem all_mk {l : PySem.W.OpenLaw} {w : World} {K : PySem.W.Frag} {h : Heap} {mg : Str → Option Value} {fa f0 f1 f2 f3 f4 f5 f6 f7 : Addr} (X : K.In h) (G : h.Ns mainGlobals mg) (hfa : mg "law" = some (.ref fa))
    {od0 an0 od1 an1 od2 an2 od3 an3 od4 an4 od5 an5 od6 an6 od7 an7 : Option Addr} {sl0 sl1 sl2 sl3 sl4 sl5 sl6 sl7 : Array (Option Value)} {oc0 kV0 dc0 pm0 cd0 ct0 oc1 kV1 dc1 pm1 cd1 ct1 oc2 kV2 dc2 pm2 cd2 ct2 oc3 kV3 dc3 pm3 cd3 ct3 oc4 kV4 dc4 pm4 cd4 ct4 oc5 kV5 dc5 pm5 cd5 ct5 oc6 kV6 dc6 pm6 cd6 ct6 oc7 kV7 dc7 pm7 cd7 ct7 : Value}
    (a0 : PySem.W.nsIn K mainGlobals "_law_row" = some (some (.ref f0))) (l0 : K.lookup f0 = some ⟨oc0, od0, .func (PySem.W.fnOf "_law_row" "_law_row" (defArgs s_law_row) (defBody s_law_row) (defScope s_law_row) .none kV0 dc0 pm0 an0 cd0 ct0), sl0⟩) (c0 : PySem.W.codeIn K cd0 "_law_row" = true) (k0 : PySem.W.keepIn K (.ref f0) = true)
    (a1 : PySem.W.nsIn K mainGlobals "_law_next" = some (some (.ref f1))) (l1 : K.lookup f1 = some ⟨oc1, od1, .func (PySem.W.fnOf "_law_next" "_law_next" (defArgs s_law_next) (defBody s_law_next) (defScope s_law_next) .none kV1 dc1 pm1 an1 cd1 ct1), sl1⟩) (c1 : PySem.W.codeIn K cd1 "_law_next" = true) (k1 : PySem.W.keepIn K (.ref f1) = true)
    (a2 : PySem.W.nsIn K mainGlobals "_law_is_integer" = some (some (.ref f2))) (l2 : K.lookup f2 = some ⟨oc2, od2, .func (PySem.W.fnOf "_law_is_integer" "_law_is_integer" (defArgs s_law_is_integer) (defBody s_law_is_integer) (defScope s_law_is_integer) .none kV2 dc2 pm2 an2 cd2 ct2), sl2⟩) (c2 : PySem.W.codeIn K cd2 "_law_is_integer" = true) (k2 : PySem.W.keepIn K (.ref f2) = true)
    (a3 : PySem.W.nsIn K mainGlobals "_law_point" = some (some (.ref f3))) (l3 : K.lookup f3 = some ⟨oc3, od3, .func (PySem.W.fnOf "_law_point" "_law_point" (defArgs s_law_point) (defBody s_law_point) (defScope s_law_point) .none kV3 dc3 pm3 an3 cd3 ct3), sl3⟩) (c3 : PySem.W.codeIn K cd3 "_law_point" = true) (k3 : PySem.W.keepIn K (.ref f3) = true)
    (a4 : PySem.W.nsIn K mainGlobals "_law_distance" = some (some (.ref f4))) (l4 : K.lookup f4 = some ⟨oc4, od4, .func (PySem.W.fnOf "_law_distance" "_law_distance" (defArgs s_law_distance) (defBody s_law_distance) (defScope s_law_distance) .none kV4 dc4 pm4 an4 cd4 ct4), sl4⟩) (c4 : PySem.W.codeIn K cd4 "_law_distance" = true) (k4 : PySem.W.keepIn K (.ref f4) = true)
    (a5 : PySem.W.nsIn K mainGlobals "root" = some (some (.ref f5))) (l5 : K.lookup f5 = some ⟨oc5, od5, .func (PySem.W.fnOf "root" "root" (defArgs s_root) (defBody s_root) (defScope s_root) .none kV5 dc5 pm5 an5 cd5 ct5), sl5⟩) (c5 : PySem.W.codeIn K cd5 "root" = true) (k5 : PySem.W.keepIn K (.ref f5) = true)
    (a6 : PySem.W.nsIn K mainGlobals "gap" = some (some (.ref f6))) (l6 : K.lookup f6 = some ⟨oc6, od6, .func (PySem.W.fnOf "gap" "gap" (defArgs s_gap) (defBody s_gap) (defScope s_gap) .none kV6 dc6 pm6 an6 cd6 ct6), sl6⟩) (c6 : PySem.W.codeIn K cd6 "gap" = true) (k6 : PySem.W.keepIn K (.ref f6) = true)
    (a7 : PySem.W.nsIn K mainGlobals "law" = some (some (.ref f7))) (l7 : K.lookup f7 = some ⟨oc7, od7, .func (PySem.W.fnOf "law" "law" (defArgs s_law) (defBody s_law) (defScope s_law) .none kV7 dc7 pm7 an7 cd7 ct7), sl7⟩) (c7 : PySem.W.codeIn K cd7 "law" = true) (k7 : PySem.W.keepIn K (.ref f7) = true)
    (z_bool : PySem.W.nsIn K mainGlobals "bool" = some none)
    (z_int : PySem.W.nsIn K mainGlobals "int" = some none)
    (z_isinstance : PySem.W.nsIn K mainGlobals "isinstance" = some none)
    (z_isqrt : PySem.W.nsIn K mainGlobals "isqrt" = some (some (.builtin "math.isqrt")))
    (z_len : PySem.W.nsIn K mainGlobals "len" = some none)
    (z_list : PySem.W.nsIn K mainGlobals "list" = some none)
    (z_range : PySem.W.nsIn K mainGlobals "range" = some none)
    : ∃ fd : FuncData, (∀ (s : Shared) (v : Value), BindsTo s fd ⟨[v], []⟩ [("script", v)]) ∧ ∀ base : Heap, K.In base → base.Ns mainGlobals mg → FnOk l.prog w K mg base CX0 4 fa fd ["script"] (sp_law K) := by
  have e := hfa.symm.trans (PySem.W.mg_of X G a7)
  cases e
  have F0 := fun_mk (st := s_law_row) l0 c0 k0
  have b0 := F0.binds (ps := ["script", "k"]) fun _ _ _ _ _ _ us hl => match us, hl with | [_, _], _ => rfl
  have F1 := fun_mk (st := s_law_next) l1 c1 k1
  have b1 := F1.binds (ps := ["state", "many"]) fun _ _ _ _ _ _ us hl => match us, hl with | [_, _], _ => rfl
  have F2 := fun_mk (st := s_law_is_integer) l2 c2 k2
  have b2 := F2.binds (ps := ["actual"]) fun _ _ _ _ _ _ us hl => match us, hl with | [_], _ => rfl
  have F3 := fun_mk (st := s_law_point) l3 c3 k3
  have b3 := F3.binds (ps := ["state", "size", "spread"]) fun _ _ _ _ _ _ us hl => match us, hl with | [_, _, _], _ => rfl
  have F4 := fun_mk (st := s_law_distance) l4 c4 k4
  have b4 := F4.binds (ps := ["a", "b"]) fun _ _ _ _ _ _ us hl => match us, hl with | [_, _], _ => rfl
  have F5 := fun_mk (st := s_root) l5 c5 k5
  have b5 := F5.binds (ps := ["number"]) fun _ _ _ _ _ _ us hl => match us, hl with | [_], _ => rfl
  have F6 := fun_mk (st := s_gap) l6 c6 k6
  have b6 := F6.binds (ps := ["far", "near"]) fun _ _ _ _ _ _ us hl => match us, hl with | [_, _], _ => rfl
  have F7 := fun_mk (st := s_law) l7 c7 k7
  have b7 := F7.binds (ps := ["script"]) fun _ _ _ _ _ _ us hl => match us, hl with | [_], _ => rfl
  let T : Txt K mg := ⟨_, _, F0, b0, PySem.W.mg_of X G a0,
    _, _, F1, b1, PySem.W.mg_of X G a1,
    _, _, F2, b2, PySem.W.mg_of X G a2,
    _, _, F3, b3, PySem.W.mg_of X G a3,
    _, _, F4, b4, PySem.W.mg_of X G a4,
    _, _, F5, b5, PySem.W.mg_of X G a5,
    _, _, F6, b6, PySem.W.mg_of X G a6,
    _, _, F7, b7, PySem.W.mg_of X G a7,
    PySem.W.mg_none_of X G z_bool,
    PySem.W.mg_none_of X G z_int,
    PySem.W.mg_none_of X G z_isinstance,
    PySem.W.mg_of X G z_isqrt,
    PySem.W.mg_none_of X G z_len,
    PySem.W.mg_none_of X G z_list,
    PySem.W.mg_none_of X G z_range⟩
  exact ⟨_, fun s v => .of_eq rfl, fun base _ _ => ok_law T⟩
end K02
open PySem PySem.W PyProof.Rows
set_option maxRecDepth 100000 in
set_option maxHeartbeats 0 in
theorem PySem.Challenge.cw_surenear_k02_gaps_of_three_points_holds : PySem.Challenge.rw_surenear_k02_gaps_of_three_points.Holds := by
  w_on; o_law; k_head; (case hw => w_witness2)
  k_fill
  refine L2.walk_of (l := PySem.Challenge.rw_surenear_k02_gaps_of_three_points) (n := 63) (k := 4) (x := "script") (CX := fun _ => L2.CX0) (sp := fun w => K02.sp_law _) rfl (by decide) rfl ⟨rfl, by decide, by decide⟩ (fun w h Y => PySem.W.kIn_of Y) ?F (fun _ _ a ns hl _ hS => ⟨a, ns, rfl, hS, hl, fun _ => rfl⟩) (fun _ _ _ _ _ h => h)
  case F =>
    intro w mg fa h KX G hmg
    refine' K02.all_mk KX G hmg ?a0 ?l0 ?c0 ?k0 ?a1 ?l1 ?c1 ?k1 ?a2 ?l2 ?c2 ?k2 ?a3 ?l3 ?c3 ?k3 ?a4 ?l4 ?c4 ?k4 ?a5 ?l5 ?c5 ?k5 ?a6 ?l6 ?c6 ?k6 ?a7 ?l7 ?c7 ?k7 ?z_bool ?z_int ?z_isinstance ?z_isqrt ?z_len ?z_list ?z_range
    (case a0 => k_is); (case l0 => k_is); (case c0 => k_is); (case k0 => k_is); (case a1 => k_is); (case l1 => k_is); (case c1 => k_is); (case k1 => k_is); (case a2 => k_is); (case l2 => k_is); (case c2 => k_is); (case k2 => k_is); (case a3 => k_is); (case l3 => k_is); (case c3 => k_is); (case k3 => k_is); (case a4 => k_is); (case l4 => k_is); (case c4 => k_is); (case k4 => k_is); (case a5 => k_is); (case l5 => k_is); (case c5 => k_is); (case k5 => k_is); (case a6 => k_is); (case l6 => k_is); (case c6 => k_is); (case k6 => k_is); (case a7 => k_is); (case l7 => k_is); (case c7 => k_is); (case k7 => k_is); (case z_bool => k_is); (case z_int => k_is); (case z_isinstance => k_is); (case z_isqrt => k_is); (case z_len => k_is); (case z_list => k_is); (case z_range => k_is)
