import PyProof.Rows.All
import Wide.All
import OpenK.AllK
import Wide.FinOn
import HandS.ForMost
import HandS.Codes
import HandS.Wide
import HandS.IsInst
import HandS.Walk
import HandS.Property
import KE.KEqSeq
import KE.LtData
import PySem.Challenge.RW_surenear_k04_ranks
set_option Elab.async false
set_option linter.all false
set_option maxRecDepth 100000
namespace K04
open PySem PySem.Spec PyProof.Rows L2
open C8 (tCut pss_cut)
/-! the text by places -/
def topS (i : Nat) : Stmt := PySem.Challenge.pw_surenear_k04_ranks.main.body.getD i (.Pass ⟨0, 0, 0, 0⟩)
abbrev s_law_row : Stmt := (topS 3)
abbrev s_law_next : Stmt := (topS 4)
abbrev s_law_text : Stmt := (topS 5)
abbrev s_Rank___init__ : Stmt := (inClass (topS 1) 0)
abbrev s_Rank_pair : Stmt := (inClass (topS 1) 1)
abbrev s_Rank_before : Stmt := (inClass (topS 1) 2)
abbrev s_Rank___eq__ : Stmt := (inClass (topS 1) 3)
abbrev s_law : Stmt := (topS 6)
theorem sc_law_row : FnScope ["script", "k", "cell", "a", "b", "c"] ["script", "k"] (defScope s_law_row) := ⟨rfl, rfl, rfl, by decide +kernel, rfl, by decide +kernel, by decide +kernel⟩
theorem sc_law_next : FnScope ["state", "many", "drawn"] ["state", "many"] (defScope s_law_next) := ⟨rfl, rfl, rfl, by decide +kernel, rfl, by decide +kernel, by decide +kernel⟩
theorem sc_law_text : FnScope ["state", "signs", "text", "k"] ["state"] (defScope s_law_text) := ⟨rfl, rfl, rfl, by decide +kernel, rfl, by decide +kernel, by decide +kernel⟩
theorem sc_Rank___init__ : FnScope ["self", "cost", "name"] ["self", "cost", "name"] (defScope s_Rank___init__) := ⟨rfl, rfl, rfl, by decide +kernel, rfl, by decide +kernel, by decide +kernel⟩
theorem sc_Rank_pair : FnScope ["self"] ["self"] (defScope s_Rank_pair) := ⟨rfl, rfl, rfl, by decide +kernel, rfl, by decide +kernel, by decide +kernel⟩
theorem sc_Rank_before : FnScope ["self", "other"] ["self", "other"] (defScope s_Rank_before) := ⟨rfl, rfl, rfl, by decide +kernel, rfl, by decide +kernel, by decide +kernel⟩
theorem sc_Rank___eq__ : FnScope ["self", "other"] ["self", "other"] (defScope s_Rank___eq__) := ⟨rfl, rfl, rfl, by decide +kernel, rfl, by decide +kernel, by decide +kernel⟩
theorem sc_law : FnScope ["script", "state", "pairs", "k", "cost", "ranks", "pair", "one", "j", "less"] ["script"] (defScope s_law) := ⟨rfl, rfl, rfl, by decide +kernel, rfl, by decide +kernel, by decide +kernel⟩
/-! the mathematics -/

/-- the state of the draws stands at st -/
def StAt (H : Hp) (st sc : Addr) : Prop := ∃ (ns : List Int) (k x : Int), H st = some (.lst [.ref sc, .int k, .int x]) ∧ H sc = some (.lst (ns.map V.int)) ∧ 0 ≤ k ∧ 0 ≤ x ∧ ns.length ≤ 63
/-- all but st is as it was -/
def Oth (st : Addr) (H H' : Hp) : Prop := ∀ b, b ≠ st → H' b = H b
theorem Oth.refl (st : Addr) (H : Hp) : Oth st H H := fun _ _ => rfl
theorem Oth.trans {st : Addr} {H H1 H2 : Hp} (a : Oth st H H1) (b : Oth st H1 H2) : Oth st H H2 := fun c h => (b c h).trans (a c h)
theorem qT {Q : VK} {H : Hp} {c : Prop} [Decidable c] (h : c) (q : Q (.bl true) H) : Q (.bl (decide c)) H := by
  rw [decide_eq_true h]
  exact q
theorem qF {Q : VK} {H : Hp} {c : Prop} [Decidable c] (h : ¬ c) (q : Q (.bl false) H) : Q (.bl (decide c)) H := by
  rw [decide_eq_false h]
  exact q
theorem ixN_nat {n j : Nat} (h : j < n) : ixN n (j : Int) = some j := by
  unfold ixN
  rw [if_pos (by omega), if_pos (by omega)]
  simp
theorem item_map {ns : List Int} {k : Int} (h0 : 0 ≤ k) (h1 : k < ns.length) : ∃ c, atI (ns.map V.int) k = some (.int c) := by
  have hj : k.toNat < ns.length := by omega
  refine ⟨ns[k.toNat], at_of (j := k.toNat) (by omega) ?_⟩
  rw [List.getElem?_map, List.getElem?_eq_getElem hj]
  rfl

/-- what was tracked is so still, but for what stands at st -/
def Fr (st : Addr) (H H' : Hp) : Prop := ∀ b o, H b = some o → b ≠ st → H' b = some o
theorem Fr.refl (st : Addr) (H : Hp) : Fr st H H := fun _ _ h _ => h
theorem Fr.trans {st : Addr} {H H1 H2 : Hp} (a : Fr st H H1) (b : Fr st H1 H2) : Fr st H H2 := fun c o h n => b c o (a c o h n) n
theorem Oth.fr {st : Addr} {H H' : Hp} (h : Oth st H H') : Fr st H H' := fun b _ e n => (h b n).trans e
theorem Fr.new {st : Addr} {H : Hp} {p : Addr} {o : HO} (h : H p = none) : Fr st H (upd H p o) := fun b u e _ => by
  rw [upd_ne (ne_of_none e h)]
  exact e
theorem Fr.set {st : Addr} {H H' : Hp} {p : Addr} {o : HO} (f : Fr st H H') (h : H p = none) : Fr st H (upd H' p o) := fun b u e n => by
  rw [upd_ne (ne_of_none e h)]
  exact f b u e n
theorem Fr.lst {st : Addr} {H H' : Hp} (f : Fr st H H') {b : Addr} {o : HO} (e : H b = some o) (n : b ≠ st) : H' b = some o := f b o e n
/-- a list of integers is not the state -/
theorem st_ne {H : Hp} {st b sc : Addr} (hS : StAt H st sc) {xs : List Int} (h : H b = some (.lst (xs.map V.int))) : b ≠ st := fun e => by
  obtain ⟨ns, k, x, h1, _⟩ := hS
  rw [e, h1] at h
  have z := HO.lst.inj (Option.some.inj h)
  cases xs with
  | nil => cases z
  | cons y r => cases (List.cons.inj z).1
theorem st_new {H : Hp} {st b sc : Addr} (hS : StAt H st sc) (h : H b = none) : b ≠ st := fun e => by
  obtain ⟨ns, k, x, h1, _⟩ := hS
  rw [e, h1] at h
  cases h
/-- the state's own list of the script stands apart from all that is new -/
theorem StAt.new {H : Hp} {st p sc : Addr} {o : HO} (hS : StAt H st sc) (hn : H p = none) : StAt (upd H p o) st sc := by
  obtain ⟨ns, k, x, h1, h2, k0, x0, hl⟩ := hS
  exact ⟨ns, k, x, by rw [upd_ne (ne_of_none h1 hn)]; exact h1, by rw [upd_ne (ne_of_none h2 hn)]; exact h2, k0, x0, hl⟩
theorem StAt.set {H H' : Hp} {st p sc : Addr} {o : HO} (hS' : StAt H' st sc) (hS : StAt H st sc) (hn : H p = none) : StAt (upd H' p o) st sc := by
  obtain ⟨ns, k, x, h1, h2, k0, x0, hl⟩ := hS
  obtain ⟨ns', k', x', h1', h2', k0', x0', hl'⟩ := hS'
  exact ⟨ns', k', x', by rw [upd_ne (ne_of_none h1 hn)]; exact h1', by rw [upd_ne (ne_of_none h2 hn)]; exact h2', k0', x0', hl'⟩
def Bd (n : Int) (xs : List Int) : Prop := ∀ z ∈ xs, -n ≤ z ∧ z ≤ n
theorem Bd.at {n : Int} {xs : List Int} (h : Bd n xs) {i : Nat} {z : Int} (e : xs[i]? = some z) : -n ≤ z ∧ z ≤ n := h z (List.mem_of_getElem? e)
def dist : List Int → List Int → Int
  | x :: xs, y :: ys => (x - y) * (x - y) + dist xs ys
  | _, _ => 0
theorem sq_nn (x : Int) : 0 ≤ x * x := by
  rcases Int.le_total 0 x with h | h
  · exact Int.mul_nonneg h h
  · have := Int.mul_nonneg (Int.neg_nonneg_of_nonpos h) (Int.neg_nonneg_of_nonpos h)
    rwa [Int.neg_mul_neg] at this
theorem dist_nn : ∀ xs ys : List Int, 0 ≤ dist xs ys
  | [], _ => by unfold dist; exact Int.le_refl 0
  | _ :: _, [] => by unfold dist; exact Int.le_refl 0
  | x :: xs, y :: ys => by
    unfold dist
    have := dist_nn xs ys
    have := sq_nn (x - y)
    omega
theorem dist_take : ∀ {xs ys : List Int} {i : Nat} {x y : Int}, xs[i]? = some x → ys[i]? = some y → dist (xs.take (i + 1)) (ys.take (i + 1)) = dist (xs.take i) (ys.take i) + (x - y) * (x - y)
  | [], _, _, _, _, h, _ => by simp at h
  | _ :: _, [], _, _, _, _, h => by simp at h
  | a :: r, b :: t, 0, x, y, h, h2 => by
    have e1 : a = x := Option.some.inj h
    have e2 : b = y := Option.some.inj h2
    subst e1 e2
    simp [dist]
  | a :: r, b :: t, i + 1, x, y, h, h2 => by
    have ih := dist_take (xs := r) (ys := t) (i := i) (x := x) (y := y) h h2
    show (a - b) * (a - b) + dist (r.take (i + 1)) (t.take (i + 1)) = (a - b) * (a - b) + dist (r.take i) (t.take i) + (x - y) * (x - y)
    rw [ih]
    omega
theorem sq_le {x n : Int} (h1 : -n ≤ x) (h2 : x ≤ n) : x * x ≤ n * n := by
  have a : 0 ≤ n - x := by omega
  have b : 0 ≤ n + x := by omega
  have c := Int.mul_nonneg a b
  have e : (n - x) * (n + x) = n * n - x * x := by grind
  omega
theorem dist_le {n : Int} : ∀ {xs ys : List Int}, Bd n xs → Bd n ys → dist xs ys ≤ xs.length * (4 * (n * n))
  | [], _, _, _ => by simp [dist]
  | x :: xs, [], _, _ => by
    unfold dist
    exact Int.mul_nonneg (Int.natCast_nonneg _) (Int.mul_nonneg (by decide) (sq_nn n))
  | x :: xs, y :: ys, hx, hy => by
    have ih := dist_le (n := n) (xs := xs) (ys := ys) (fun z h => hx z (List.mem_cons_of_mem _ h)) (fun z h => hy z (List.mem_cons_of_mem _ h))
    have h1 := hx x (List.mem_cons_self)
    have h2 := hy y (List.mem_cons_self)
    have h3 : (x - y) * (x - y) ≤ (2 * n) * (2 * n) := sq_le (by omega) (by omega)
    have e : (2 * n) * (2 * n) = 4 * (n * n) := by grind
    unfold dist
    rw [List.length_cons]
    have e2 : ((xs.length + 1 : Nat) : Int) * (4 * (n * n)) = xs.length * (4 * (n * n)) + 4 * (n * n) := by grind
    omega
theorem get_map {xs : List Int} {i : Nat} {y : V} (h : (xs.map V.int)[i]? = some y) : ∃ z, y = V.int z ∧ xs[i]? = some z := by
  rw [List.getElem?_map] at h
  cases e : xs[i]? with
  | none =>
    rw [e] at h
    cases h
  | some z =>
    rw [e] at h
    exact ⟨z, (Option.some.inj h).symm, rfl⟩
theorem map_get {xs : List Int} {i : Nat} {z : Int} (h : xs[i]? = some z) : (xs.map V.int)[i]? = some (V.int z) := by
  rw [List.getElem?_map, h]
  rfl
theorem len_le {n : Nat} (h : n ≤ 1000) : n < sizeLine := small1000 h

/-- at p stands a list of n integers, none beyond s -/
def IsPt (H : Hp) (p : Addr) (n s : Int) (zs : List Int) : Prop := H p = some (.lst (zs.map V.int)) ∧ (zs.length : Int) = n ∧ Bd s zs
theorem IsPt.fr {H H' : Hp} {p st sc : Addr} {n s : Int} {zs : List Int} (h : IsPt H p n s zs) (hS : StAt H st sc) (f : Fr st H H') : IsPt H' p n s zs := ⟨f _ _ h.1 (st_ne hS h.1), h.2.1, h.2.2⟩
theorem IsPt.wide {H : Hp} {p : Addr} {n s t : Int} {zs : List Int} (h : IsPt H p n s zs) (e : s ≤ t) : IsPt H p n t zs := ⟨h.1, h.2.1, fun z hz => by have := h.2.2 z hz; omega⟩
theorem IsPt.get {H : Hp} {p : Addr} {n s : Int} {zs : List Int} (h : IsPt H p n s zs) {i : Nat} (hi : (i : Int) < n) : ∃ z, zs[i]? = some z ∧ -s ≤ z ∧ z ≤ s := by
  have hl : i < zs.length := by have := h.2.1; omega
  exact ⟨zs[i], List.getElem?_eq_getElem hl, h.2.2.at (List.getElem?_eq_getElem hl)⟩
theorem dist_small {H : Hp} {p r : Addr} {n : Int} {xs ys : List Int} (h1 : IsPt H p n 30000 xs) (h2 : IsPt H r n 30000 ys) (hn : n ≤ 5) : 0 ≤ dist xs ys ∧ dist xs ys < 100000000000 := by
  refine ⟨dist_nn _ _, ?_⟩
  have a := dist_le h1.2.2 h2.2.2
  have b := h1.2.1
  have e : (30000 : Int) * 30000 = 900000000 := by decide
  rw [e] at a
  have : (xs.length : Int) * (4 * 900000000) ≤ 5 * (4 * 900000000) := by omega
  omega
theorem pick4 {a b c d k : Int} (h0 : 0 ≤ k) (h1 : k < 4) : ∃ v, atI [V.int a, V.int b, V.int c, V.int d] k = some (.int v) ∧ (v = a ∨ v = b ∨ v = c ∨ v = d) := by
  have : k = 0 ∨ k = 1 ∨ k = 2 ∨ k = 3 := by omega
  rcases this with rfl | rfl | rfl | rfl
  · exact ⟨a, at_of (j := 0) rfl rfl, .inl rfl⟩
  · exact ⟨b, at_of (j := 1) rfl rfl, .inr (.inl rfl)⟩
  · exact ⟨c, at_of (j := 2) rfl rfl, .inr (.inr (.inl rfl))⟩
  · exact ⟨d, at_of (j := 3) rfl rfl, .inr (.inr (.inr rfl))⟩
theorem st_made {H : Hp} {sc st : Addr} {ns : List Int} (h1 : H sc = none) (h2 : upd H sc (.lst (ns.map V.int)) st = none) (hl : ns.length ≤ 63) : StAt (upd (upd H sc (.lst (ns.map V.int))) st (.lst [.ref sc, .int 0, .int 0])) st sc := by
  have ne : sc ≠ st := fun e => by
    rw [← e, upd_same] at h2
    cases h2
  exact ⟨ns, 0, 0, upd_same, by rw [upd_ne ne, upd_same], by decide, by decide, hl⟩

theorem same_fr {st : Addr} {H H' : Hp} (h : Same H H') : Fr st H H' := fun b o e _ => h b o e
theorem same_new {H : Hp} {p : Addr} {o : HO} (h : H p = none) : Same H (upd H p o) := fun b u e => by
  rw [upd_ne (ne_of_none e h)]
  exact e
theorem same_set {H H' : Hp} {p : Addr} {o : HO} (f : Same H H') (h : H p = none) : Same H (upd H' p o) := fun b u e => by
  rw [upd_ne (ne_of_none e h)]
  exact f b u e
theorem StAt.same {H H' : Hp} {st sc : Addr} (hS : StAt H st sc) (f : Same H H') : StAt H' st sc := by
  obtain ⟨ns, k, x, h1, h2, k0, x0, hl⟩ := hS
  exact ⟨ns, k, x, f _ _ h1, f _ _ h2, k0, x0, hl⟩
/-- the terms of a sum over two lists -/
def ter (f : Int → Int → Int) (xs ys : List Int) : List Int := List.zipWith f xs ys
theorem ter_get {f : Int → Int → Int} {xs ys : List Int} {i : Nat} {x y : Int} (hx : xs[i]? = some x) (hy : ys[i]? = some y) : (ter f xs ys)[i]? = some (f x y) := by
  unfold ter
  rw [List.getElem?_zipWith, hx, hy]
theorem ter_len {f : Int → Int → Int} {xs ys : List Int} (h : xs.length = ys.length) : (ter f xs ys).length = xs.length := by
  unfold ter
  rw [List.length_zipWith]
  omega
def fMul (x y : Int) : Int := x * y
def fSq (x y : Int) : Int := (x - y) * (x - y)
def fNe (x y : Int) : Int := if x = y then 0 else 1

theorem kit_self {K : PySem.W.Frag} {C : Addr} : PySem.W.kitOne K (.ref C) (.ref C) = some true := by
  unfold PySem.W.kitOne
  rw [if_pos (by simp)]
theorem kit_sub {K : PySem.W.Frag} {t : Value} {C : Addr} {v : Bool} (h1 : PySem.W.isClsIn K C = true) (h2 : PySem.W.typeIn K (.ref C) = some (.type "type")) (h3 : PySem.W.subIn K t (.ref C) = some v) (h4 : (t == .ref C) = false) : PySem.W.kitOne K t (.ref C) = some v := by
  unfold PySem.W.kitOne
  rw [h4, if_neg Bool.false_ne_true]
  unfold PySem.W.kitCls
  have h1' : (PySem.W.clsIn K C).isSome = true := h1
  simp only [h1', h2, Bool.true_and]
  simp [h3]
theorem nf_self {K : PySem.W.Frag} {C : Addr} : PySem.W.notFirst K C (.ref C) = true := by simp [PySem.W.notFirst]
theorem nf_sub {K : PySem.W.Frag} {C : Addr} {t : Value} (h : PySem.W.subIn K t (.ref C) = some false) : PySem.W.notFirst K C t = true := by simp [PySem.W.notFirst, h]
/-- x == y, x an instance of a class with an own ==, y anything -/
def rOwnEq (K : PySem.W.Frag) (C : Addr) (sp : Sp) (E : XK) : R2 := fun x y H Q => ∃ a dx fs t, x = .ref a ∧ H a = some (.ins C dx fs) ∧ TyX K H y t ∧ PySem.W.notFirst K C t = true ∧ sp [x, y] H (fun z H' => ∃ b, z = .bl b ∧ Q z H') E
theorem op_ownEq {X : Cx} {CX : CXT} {C f : Addr} {fd : FuncData} {ps : List Str} {sp : Sp} {n : Nat} {E : XK} (M : Meth X.K C "__eq__" f) (F : FnOk X.prog X.w X.K X.mg X.base CX n f fd ps sp) (hr : Room n X.A)
    (hb : Binds X.K fd ps []) (hx : Passes CX X E) : OpR X (compareOp .Eq) (rOwnEq X.K C sp E) := by
  intro pins s σ H x y v u Q I rx ry h
  obtain ⟨a, dx, fs, t, rfl, ha, ty, hn, q⟩ := h
  cases (show v = Value.ref a from rx)
  obtain ⟨mA, J, _⟩ := ins_get I.hok ha
  obtain ⟨od, J, _⟩ := J.look
  obtain ⟨P, Z, p, _⟩ := kit_of I ry ty
  obtain ⟨m, hF⟩ := I.fr
  show wpAny (model X.prog X.w) X.A (richCompare .Eq (.ref a) u) _ _ _
  refine PySem.W.cmp_K (op := .Eq) (tb := t) hr.units0 hF I.ok.mod.kin J (Z.ty _ _ I.kIn p) hn M.at_ M.fn ?_
  refine wpAny_mono (run_fn (Q := fun z H' => ∃ b, z = .bl b ∧ Q z H') (us := [.ref a, u]) (vs := [.ref a, y]) F hr hb .nil hx I (.cons rfl (.cons ry .nil)) (by simpa using q)) (fun w s' z => ?_) fun _ _ x => x
  obtain ⟨z', H', I', rz, b, ez, qz⟩ := z
  subst ez
  cases (show w = Value.bool b from rz)
  exact ⟨.bl b, H', I', rfl, qz⟩

theorem _root_.L2.Room.un60 {k : Nat} {A : Around} (r : Room k A) : A.units + 60 < cLine := by have := r.un; omega
/-- x < y of data alike: ints, texts, tuples and lists of these -/
def rLtA (K : PySem.W.Frag) : R2 := fun x y H Q => ∃ d e, Dp K H x d ∧ Dp K H y e ∧ PySem.W.alike d e = true ∧ d ≠ .none ∧ min d.depth e.depth ≤ 60 ∧ Q (.bl (PySem.W.dataLt d e)) H

theorem op_ltA {X : Cx} (hu : X.A.units + 60 < cLine) : OpR X (compareOp .Lt) (rLtA X.K) := by
  intro pins s σ H x y v u Q I rx ry h
  obtain ⟨d, e, hd, he, ha, hn, hdp, q⟩ := h
  obtain ⟨as, r1⟩ := Dp.reads I d x v hd rx
  obtain ⟨bs, r2⟩ := Dp.reads I e y u he ry
  show wpAny (model X.prog X.w) X.A (richCompare .Lt v u) _ _ _
  exact PySem.W.rcLt_alike d e X.A s v u as bs r1 r2 ha hn (by omega) X.prog X.w _ _ ⟨.bl _, H, I, rfl, q⟩
theorem pe_fldB {X : Cx} {K : PySem.W.Frag} (hK : X.K = K) {e : Expr} {f : Str} {pos : Pos} {ta : TE} (he : PE X e ta) (hb : attributeBase e f X.env (eval e X.env) = eval e X.env) : PE X (.Attribute e f pos) (tFld K ta f) := by
  subst hK
  exact pe_fld he hb

def ff (c : Int) (z : Str) : List (Str × V) := putF "name" (.str z) (putF "cost" (.int c) [])
theorem ff_cost (c : Int) (z : Str) : (ff c z).lookup ("cost" : Str) = some (.int c) := by
  unfold ff
  rw [lookup_putF, if_neg (by decide +kernel), lookup_putF, if_pos rfl]
theorem ff_name (c : Int) (z : Str) : (ff c z).lookup ("name" : Str) = some (.str z) := by
  unfold ff
  rw [lookup_putF, if_pos rfl]
theorem ff_no (c : Int) (z : Str) {m : Str} (h1 : ¬ m = "cost") (h2 : ¬ m = "name") : (ff c z).lookup m = none := by
  unfold ff
  rw [lookup_putF, if_neg h2, lookup_putF, if_neg h1]
  rfl
/-- ranks in order: by cost, then by name -/
def lessR (c : Int) (z : Str) (c2 : Int) (z2 : Str) : Bool := if c = c2 then decide (z.cps.toList < z2.cps.toList) else decide (c < c2)
def pdata (c : Int) (z : Str) : PyData := .tuple [.int c, .str z]
theorem lt_pair (c : Int) (z : Str) (c2 : Int) (z2 : Str) : PySem.W.dataLt (pdata c z) (pdata c2 z2) = lessR c z c2 z2 := by
  unfold pdata lessR
  rw [PySem.W.dataLt_tuple]
  by_cases e : c = c2
  · rw [if_pos e]
    subst e
    have e2 : PyData.eqv (.int c) (.int c) = true := by simp [PyData.eqv]
    rw [PySem.W.dataLt_all_yes (by simp [PySem.W.alike]) e2]
    by_cases ez : z = z2
    · subst ez
      have e3 : PyData.eqv (.str z) (.str z) = true := by simp [PyData.eqv]
      rw [PySem.W.dataLt_all_yes (by simp [PySem.W.alike]) e3]
      have h1 : ¬ z.cps.toList < z.cps.toList := List.lt_irrefl _
      rw [decide_eq_false h1]
      decide +kernel
    · have e3 : PyData.eqv (.str z) (.str z2) = false := by simp [PyData.eqv, ez]
      rw [PySem.W.dataLt_all_no (by simp [PySem.W.alike]) e3, PySem.W.dataLt_str]
  · rw [if_neg e]
    have e2 : PyData.eqv (.int c) (.int c2) = false := by simp [PyData.eqv, e]
    rw [PySem.W.dataLt_all_no (by simp [PySem.W.alike]) e2, PySem.W.dataLt_int]
theorem eqv_pair (c : Int) (z : Str) (c2 : Int) (z2 : Str) : PyData.eqv (pdata c z) (pdata c2 z2) = (decide (c = c2) && decide (z = z2)) := by
  unfold pdata
  by_cases e : c = c2 <;> by_cases ez : z = z2 <;> simp [PyData.eqv, PyData.eqvAll, e, ez]
theorem shaped_pair (c : Int) {z : Str} (h : PyData.strOk z = true) : SeqAt.shaped (pdata c z) = true := by
  simp [pdata, SeqAt.shaped, PyData.canLay0, PyData.canLayAll0, PyData.depth, PyData.depthAll, h]
theorem depth_pair (c : Int) (z : Str) : (pdata c z).depth ≤ 2 := by
  simp [pdata, PyData.depth, PyData.depthAll]
theorem dp_pair {K : PySem.W.Frag} {H : Hp} {t : Addr} {c : Int} {z : Str} (h : H t = some (.tup [.int c, .str z])) : Dp K H (.ref t) (pdata c z) := .tup (SqT.of h) (.cons (.int c) (.cons (.str z) .nil))
theorem sign_at {z : Str} {d : Int} (h0 : 0 ≤ d) (h1 : d < z.length) (ok : PyData.strOk z = true) : ∃ c, atI z.cps.toList d = some c ∧ c < 0x110000 := by
  have h : d.toNat < z.cps.toList.length := by
    have : z.cps.toList.length = z.length := by simp [Str.length]
    omega
  have e : d = ((d.toNat : Nat) : Int) := by omega
  refine ⟨z.cps.toList[d.toNat], ?_, ?_⟩
  rotate_left
  · unfold PyData.strOk at ok
    have := Array.all_eq_true.mp ok d.toNat (by simpa using h)
    simpa using this
  have g := atI_nat (xs := z.cps.toList) (List.getElem?_eq_getElem h)
  rw [← e] at g
  exact g
/-- the pairs stand at pp: tuples at ts -/
def PsAt (H : Hp) (pp : Addr) (ts : List Addr) (l : List (Int × Str)) : Prop := H pp = some (.lst (ts.map V.ref)) ∧ ts.length = l.length ∧ ∀ (j : Nat) (t : Addr), ts[j]? = some t → ∃ c z, l[j]? = some (c, z) ∧ PyData.strOk z = true ∧ H t = some (.tup [.int c, .str z])
theorem cat_ok {x : Str} {c : Nat} (h : PyData.strOk x = true) (hc : c < 0x110000) : PyData.strOk (x ++ (⟨#[c]⟩ : Str)) = true := by
  unfold PyData.strOk at h ⊢
  show (x.cps ++ #[c]).all _ = true
  rw [Array.all_append, h]
  simp [hc]
theorem st_refs {H : Hp} {st sc b : Addr} (hS : StAt H st sc) {ts : List Addr} (h : H b = some (.lst (ts.map V.ref))) : b ≠ st := fun e => by
  obtain ⟨ns, k, x, h1, _⟩ := hS
  rw [e, h1] at h
  have z := HO.lst.inj (Option.some.inj h)
  cases ts with
  | nil => cases z
  | cons y r =>
    have z2 := (List.cons.inj z).2
    cases r with
    | nil => cases z2
    | cons y r => cases (List.cons.inj z2).1
theorem st_tup {H : Hp} {st sc b : Addr} (hS : StAt H st sc) {xs : List V} (h : H b = some (.tup xs)) : b ≠ st := fun e => by
  obtain ⟨ns, k, x, h1, _⟩ := hS
  rw [e, h1] at h
  cases h
theorem PsAt.fr {H H' : Hp} {st sc pp : Addr} {ts : List Addr} {l : List (Int × Str)} (P : PsAt H pp ts l) (hS : StAt H st sc) (f : Fr st H H') : PsAt H' pp ts l :=
  ⟨f _ _ P.1 (st_refs hS P.1), P.2.1, fun j t h => by
    obtain ⟨c, z, h1, h2, h3⟩ := P.2.2 j t h
    exact ⟨c, z, h1, h2, f _ _ h3 (st_tup hS h3)⟩⟩
theorem PsAt.same {H H' : Hp} {pp : Addr} {ts : List Addr} {l : List (Int × Str)} (P : PsAt H pp ts l) (f : Same H H') : PsAt H' pp ts l :=
  ⟨f _ _ P.1, P.2.1, fun j t h => by
    obtain ⟨c, z, h1, h2, h3⟩ := P.2.2 j t h
    exact ⟨c, z, h1, h2, f _ _ h3⟩⟩
/-- one more of a tuple that stands there -/
theorem PsAt.push {H : Hp} {pp t : Addr} {ts : List Addr} {l : List (Int × Str)} {c : Int} {z : Str} (P : PsAt H pp ts l) (h : H t = some (.tup [.int c, .str z])) (hz : PyData.strOk z = true) :
    PsAt (upd H pp (.lst (ts.map V.ref ++ [V.ref t]))) pp (ts ++ [t]) (l ++ [(c, z)]) := by
  refine ⟨by rw [upd_same, List.map_append]; rfl, by simp [P.2.1], fun j t' h' => ?_⟩
  have ne : ∀ {b : Addr} {xs : List V}, H b = some (.tup xs) → b ≠ pp := fun hb e => by
    rw [e, P.1] at hb
    cases hb
  rcases Nat.lt_or_ge j ts.length with g | g
  · rw [List.getElem?_append_left g] at h'
    obtain ⟨c', z', h1, h2, h3⟩ := P.2.2 j t' h'
    exact ⟨c', z', by rw [List.getElem?_append_left (by have := P.2.1; omega)]; exact h1, h2, by rw [upd_ne (ne h3)]; exact h3⟩
  · rw [List.getElem?_append_right g] at h'
    have e0 : j - ts.length = 0 := by
      rcases Nat.eq_zero_or_pos (j - ts.length) with k | k
      · exact k
      · rw [List.getElem?_eq_none (by simp; omega)] at h'
        cases h'
    rw [e0] at h'
    have et : t = t' := Option.some.inj h'
    subst et
    refine ⟨c, z, ?_, hz, by rw [upd_ne (ne h)]; exact h⟩
    rw [List.getElem?_append_right (by have := P.2.1; omega), show j - l.length = 0 by have := P.2.1; omega]
    rfl
theorem PsAt.get {H : Hp} {pp : Addr} {ts : List Addr} {l : List (Int × Str)} (P : PsAt H pp ts l) {j : Nat} (hj : j < l.length) : ∃ t c z, (ts.map V.ref)[j]? = some (V.ref t) ∧ l[j]? = some (c, z) ∧ PyData.strOk z = true ∧ H t = some (.tup [.int c, .str z]) := by
  have hj' : j < ts.length := by have := P.2.1; omega
  obtain ⟨c, z, h1, h2, h3⟩ := P.2.2 j ts[j] (List.getElem?_eq_getElem hj')
  exact ⟨ts[j], c, z, by rw [List.getElem?_map, List.getElem?_eq_getElem hj']; rfl, h1, h2, h3⟩
/-- ranks of these pairs stand at pr -/
def RsAt (C : Addr) (H : Hp) (pr : Addr) (rs : List Addr) (l : List (Int × Str)) : Prop := H pr = some (.lst (rs.map V.ref)) ∧ rs.length = l.length ∧ ∀ (j : Nat) (r : Addr), rs[j]? = some r → ∃ dx c z, l[j]? = some (c, z) ∧ H r = some (.ins C dx (ff c z))
theorem RsAt.same {C : Addr} {H H' : Hp} {pp : Addr} {ts : List Addr} {l : List (Int × Str)} (P : RsAt C H pp ts l) (f : Same H H') : RsAt C H' pp ts l :=
  ⟨f _ _ P.1, P.2.1, fun j t h => by
    obtain ⟨dx, c, z, h1, h3⟩ := P.2.2 j t h
    exact ⟨dx, c, z, h1, f _ _ h3⟩⟩
theorem RsAt.get {C : Addr} {H : Hp} {pp : Addr} {ts : List Addr} {l : List (Int × Str)} (P : RsAt C H pp ts l) {j : Nat} (hj : j < l.length) : ∃ r dx c z, (ts.map V.ref)[j]? = some (V.ref r) ∧ l[j]? = some (c, z) ∧ H r = some (.ins C dx (ff c z)) := by
  have hj' : j < ts.length := by have := P.2.1; omega
  obtain ⟨dx, c, z, h1, h3⟩ := P.2.2 j ts[j] (List.getElem?_eq_getElem hj')
  exact ⟨ts[j], dx, c, z, by rw [List.getElem?_map, List.getElem?_eq_getElem hj']; rfl, h1, h3⟩
theorem cat_len (x : Str) (c : Nat) : (x ++ (⟨#[c]⟩ : Str)).length = x.length + 1 := by
  show (x.cps ++ #[c]).size = x.cps.size + 1
  simp

/-! what the top has made -/
structure Txt (K : PySem.W.Frag) (mg : Str → Option Value) where
  f_law_row : Addr
  d_law_row : FuncData
  F_law_row : Fun K "_law_row" "_law_row" s_law_row f_law_row d_law_row
  b_law_row : Binds K d_law_row ["script", "k"] []
  g_law_row : mg "_law_row" = some (.ref f_law_row)
  f_law_next : Addr
  d_law_next : FuncData
  F_law_next : Fun K "_law_next" "_law_next" s_law_next f_law_next d_law_next
  b_law_next : Binds K d_law_next ["state", "many"] []
  g_law_next : mg "_law_next" = some (.ref f_law_next)
  f_law_text : Addr
  d_law_text : FuncData
  F_law_text : Fun K "_law_text" "_law_text" s_law_text f_law_text d_law_text
  b_law_text : Binds K d_law_text ["state"] []
  g_law_text : mg "_law_text" = some (.ref f_law_text)
  f_Rank___init__ : Addr
  d_Rank___init__ : FuncData
  F_Rank___init__ : Fun K "__init__" "Rank.__init__" s_Rank___init__ f_Rank___init__ d_Rank___init__
  b_Rank___init__ : Binds K d_Rank___init__ ["self", "cost", "name"] []
  f_Rank_pair : Addr
  d_Rank_pair : FuncData
  F_Rank_pair : Fun K "pair" "Rank.pair" s_Rank_pair f_Rank_pair d_Rank_pair
  b_Rank_pair : Binds K d_Rank_pair ["self"] []
  f_Rank_before : Addr
  d_Rank_before : FuncData
  F_Rank_before : Fun K "before" "Rank.before" s_Rank_before f_Rank_before d_Rank_before
  b_Rank_before : Binds K d_Rank_before ["self", "other"] []
  f_Rank___eq__ : Addr
  d_Rank___eq__ : FuncData
  F_Rank___eq__ : Fun K "__eq__" "Rank.__eq__" s_Rank___eq__ f_Rank___eq__ d_Rank___eq__
  b_Rank___eq__ : Binds K d_Rank___eq__ ["self", "other"] []
  f_law : Addr
  d_law : FuncData
  F_law : Fun K "law" "law" s_law f_law d_law
  b_law : Binds K d_law ["script"] []
  g_law : mg "law" = some (.ref f_law)
  c_Rank : Addr
  cl_Rank : Cls K c_Rank
  mc_Rank : mg "Rank" = some (.ref c_Rank)
  n_Rank_cost : NoAttr K c_Rank "cost"
  n_Rank_name : NoAttr K c_Rank "name"
  mk_Rank : Mk K c_Rank f_Rank___init__
  me_Rank_before : Meth K c_Rank "before" f_Rank_before
  me_Rank___eq__ : Meth K c_Rank "__eq__" f_Rank___eq__
  pa_Rank_pair : Addr
  pr_Rank_pair : PropOf K c_Rank "pair" pa_Rank_pair f_Rank_pair
  ha_Rank : PySem.W.findIn K (.ref c_Rank) "__class__" = some (some (.builtin "object.__class__"))
  hm_Rank : PySem.W.mroIn K c_Rank (.type "object") = some true
  kit_Rank_Rank : PySem.W.kitOne K (.ref c_Rank) (.ref c_Rank) = some true
  kit_tuple_Rank : PySem.W.kitOne K (.type "tuple") (.ref c_Rank) = some false
  nf_Rank_Rank : PySem.W.notFirst K c_Rank (.ref c_Rank) = true
  nf_Rank_tuple : PySem.W.notFirst K c_Rank (.type "tuple") = true
  hn0 : PySem.W.specialIn K (.builtin "object.__class__") "__get__" = some (some (.builtin "getset_descriptor.__get__"))
  ht0 : PySem.W.takesIn K (.builtin "object.__class__") = some true
  m_bool : mg "bool" = none
  m_int : mg "int" = none
  m_isinstance : mg "isinstance" = none
  m_len : mg "len" = none
  m_list : mg "list" = none
  m_range : mg "range" = none
  m_tuple : mg "tuple" = none
section
variable {P : Program} {w : World} {K : PySem.W.Frag} {mg : Str → Option Value} {base : Heap}

def sp_law_row (T : Txt K mg) : Sp := fun vs H Q _ => ∃ (sc : Addr) (ns : List Int) (k : Int), vs = [.ref sc, .int k] ∧ H sc = some (.lst (ns.map V.int)) ∧ 0 ≤ k ∧ ∀ c : Int, 0 ≤ c → Q (.int c) H
set_option maxHeartbeats 4000000 in
theorem ok_law_row (T : Txt K mg) : FnOk P w K mg base CX0 1 T.f_law_row T.d_law_row ["script", "k"] (sp_law_row T) := by
  refine T.F_law_row.ok sc_law_row (fun vs H Q E h => ?_) (fun cdv A outer s H vs Q E hr h => ?_)
  · obtain ⟨sc, ns, k, rfl, _⟩ := h
    rfl
  · obtain ⟨sc, ns, k, rfl, hS, hk, q⟩ := h
    refine ⟨_, (pss_cons (ps_set (i := 2) sc_law_row.nd rfl (.inl rfl) pe_int) 
      (pss_cut (ps_if (pt_cmpR op_lt (pv 1) (pe_callB call_len_seq (by rfl) T.m_len PySem.boot_len (pa_cons (pv 0) pa_nil)) (nomark _)) (pss_one (ps_set (i := 2) sc_law_row.nd rfl (.inl rfl) (pe_ix ix_list (pv 0) (pv 1) (fun _ _ => rfl)))) pss_nil) 
      (pss_cut (ps_if (pt_cmpR op_lt (pv 2) pe_int (nomark _)) (pss_one (ps_set (i := 2) sc_law_row.nd rfl (.inl rfl) (pe_op op_sub (pe_op op_mul (pe_un un_neg pe_int) (pv 2)) pe_int))) pss_nil) 
      (pss_cut (ps_if (pt_cmpR op_lt (pv 2) (pe_op op_pow pe_int pe_int) (nomark _)) (pss_cons (ps_set (i := 3) sc_law_row.nd rfl (.inl rfl) (pe_op op_mod (pe_callTy call_int1 (by rfl) T.m_int (by decide +kernel) (pa_cons (pe_op op_add (pe_op op_add (pe_op op_mul (pv 2) pe_int) (pe_op op_mul (pv 1) pe_int)) pe_int) pa_nil)) pe_int)) 
      (pss_cons (ps_set (i := 4) sc_law_row.nd rfl (.inl rfl) (pe_op op_mod (pe_callTy call_int1 (by rfl) T.m_int (by decide +kernel) (pa_cons (pe_op op_add (pe_op op_add (pe_op op_add (pe_op op_mul (pv 3) pe_int) (pe_op op_mul (pv 2) pe_int)) (pv 1)) pe_int) pa_nil)) pe_int)) 
      (pss_cons (ps_set (i := 5) sc_law_row.nd rfl (.inl rfl) (pe_op op_mod (pe_callTy call_int1 (by rfl) T.m_int (by decide +kernel) (pa_cons (pe_op op_add (pe_op op_add (pe_op op_mul (pv 4) pe_int) (pe_op op_mul (pv 3) (pv 4))) pe_int) pa_nil)) pe_int)) 
      (pss_one (ps_set (i := 2) sc_law_row.nd rfl (.inl rfl) (pe_op op_add (pe_op op_add (pv 3) (pe_op op_mul (pv 4) pe_int)) (pe_op op_mul (pv 5) (pe_op op_pow pe_int pe_int)))))))) pss_nil) 
      (pss_one (ps_ret (pv 2))))))), ?_⟩
    -- if k < len(script): cell = script[k]
    refine ⟨fun σ' H' => H' = H ∧ ∃ c : Int, σ' = [some (.ref sc), some (.int k), some (.int c), none, none, none], ?_, ?_⟩
    · refine ⟨_, rfl, _, rfl, sc, _, rfl, .inl (SqL.of hS), _, _, rfl, rfl, _, rfl, ite2 (fun e => ?_) (fun e => ?_)⟩
      · have hl : k < ((ns.map V.int).length : Int) := of_decide_eq_true e
        rw [List.length_map] at hl
        obtain ⟨c, hc⟩ := item_map hk hl
        exact ⟨_, rfl, _, rfl, sc, _, k, _, rfl, rfl, SqL.of hS, hc, rfl, c, rfl⟩
      · exact ⟨rfl, 0, rfl⟩
    rintro σ' H' ⟨rfl, c, rfl⟩
    -- if cell < 0: cell = -2 * cell - 1
    refine ⟨fun σ' H2 => H2 = H' ∧ ∃ c : Int, 0 ≤ c ∧ σ' = [some (.ref sc), some (.int k), some (.int c), none, none, none], ?_, ?_⟩
    · refine ⟨_, rfl, _, _, rfl, rfl, _, rfl, ite2 (fun e => ?_) (fun e => ?_)⟩
      · have hc : c < 0 := of_decide_eq_true e
        refine ⟨2, rfl, _, rfl, _, _, rfl, rfl, .inl ⟨by decide, by decide⟩, _, _, rfl, rfl, rfl, _, ?_, rfl⟩
        omega
      · have hc : ¬ c < 0 := fun h => e (decide_eq_true h)
        exact ⟨rfl, c, by omega, rfl⟩
    rintro σ' H2 ⟨rfl, c, hc, rfl⟩
    -- if cell < 10 ** 9: ..
    refine ⟨fun σ' H' => H' = H2 ∧ ∃ (c : Int) (x y z : Option V), 0 ≤ c ∧ σ' = [some (.ref sc), some (.int k), some (.int c), x, y, z], ?_, ?_⟩
    · refine ⟨_, rfl, _, _, rfl, rfl, ⟨by decide, by decide, by decide⟩, _, _, rfl, rfl, _, rfl, ite2 (fun e => ?_) (fun e => ?_)⟩
      · have h9 : c < 10 ^ 9 := of_decide_eq_true e
        refine ⟨_, rfl, _, _, rfl, rfl, .inr ⟨by decide, by decide⟩, _, rfl, _, _, rfl, rfl, .inr ⟨by decide, by decide⟩, _, _, rfl, rfl, _, _, rfl, rfl, .inl ⟨_, rfl, ?_⟩⟩
        refine ⟨_, _, rfl, rfl, (by decide : (0 : Int) < 2147483647), ?_⟩
        dsimp only
        generalize ha : (c * 48271 + k * 69621 + 11) % 2147483647 = a
        have a0 : 0 ≤ a := by rw [← ha]; exact Int.emod_nonneg _ (by decide)
        have a1 : a < 2147483647 := by rw [← ha]; exact Int.emod_lt_of_pos _ (by decide)
        refine ⟨_, rfl, _, _, rfl, rfl, .inr ⟨by decide, by decide⟩, _, rfl, _, _, rfl, rfl, .inr ⟨by decide, by decide⟩, _, _, rfl, rfl, _, rfl, _, _, rfl, rfl, _, _, rfl, rfl, .inl ⟨_, rfl, ?_⟩⟩
        refine ⟨_, _, rfl, rfl, (by decide : (0 : Int) < 2147483629), ?_⟩
        dsimp only
        generalize hb : (a * 16807 + c * 7 + k + 5) % 2147483629 = b
        have b0 : 0 ≤ b := by rw [← hb]; exact Int.emod_nonneg _ (by decide)
        have b1 : b < 2147483629 := by rw [← hb]; exact Int.emod_lt_of_pos _ (by decide)
        refine ⟨_, rfl, _, _, rfl, rfl, .inr ⟨by decide, by decide⟩, _, rfl, _, rfl, _, _, rfl, rfl, .inl ⟨by omega, by omega⟩, _, _, rfl, rfl, _, _, rfl, rfl, .inl ⟨_, rfl, ?_⟩⟩
        refine ⟨_, _, rfl, rfl, (by decide : (0 : Int) < 2147483587), ?_⟩
        dsimp only
        generalize hd : (b * 39373 + a * b + 3) % 2147483587 = d
        have d0 : 0 ≤ d := by rw [← hd]; exact Int.emod_nonneg _ (by decide)
        refine ⟨_, rfl, _, rfl, _, _, rfl, rfl, .inr ⟨by decide, by decide⟩, _, _, rfl, rfl, _, rfl, _, _, rfl, rfl, ⟨by decide, by decide, by decide⟩, _, _, rfl, rfl, .inr ⟨by decide, by decide⟩, _, _, rfl, rfl, rfl, _, _, _, _, ?_, rfl⟩
        have e2 : (2147483647 : Int) ^ (2 : Int).toNat = 4611686014132420609 := by decide
        rw [e2]
        omega
      · exact ⟨rfl, c, _, _, _, hc, rfl⟩
    rintro σ' H' ⟨rfl, c, x, y, z, hc, rfl⟩
    exact ⟨_, rfl, q c hc⟩
def sp_law_next (T : Txt K mg) : Sp := fun vs H Q _ => ∃ (st sc : Addr) (m : Int), vs = [.ref st, .int m] ∧ StAt H st sc ∧ 0 < m ∧ m.natAbs < 2 ^ 200 ∧ ∀ (d : Int) (H' : Hp), 0 ≤ d → d < m → StAt H' st sc → Oth st H H' → Q (.int d) H'
set_option maxHeartbeats 4000000 in
theorem ok_law_next (T : Txt K mg) : FnOk P w K mg base CX0 2 T.f_law_next T.d_law_next ["state", "many"] (sp_law_next T) := by
  have G_law_row : FnOk P w K mg base CX0 1 T.f_law_row T.d_law_row ["script", "k"] (sp_law_row T) := ok_law_row T
  refine T.F_law_next.ok sc_law_next (fun vs H Q E h => ?_) (fun cdv A outer s H vs Q E hr h => ?_)
  · obtain ⟨st, sc, m, rfl, _⟩ := h
    rfl
  · obtain ⟨st, sc, m, rfl, hS, m0, m1, q⟩ := h
    refine ⟨_, (pss_cut (ps_if (pt_cmpR op_lt (pe_ix ix_list (pv 0) pe_int (fun _ _ => rfl)) (pv 1) (nomark _)) (pss_cons (ps_asg (pe_call G_law_row (hr.mono (by decide)) (by rfl) T.g_law_row T.F_law_row.kp T.b_law_row .nil pass0 (pa_cons (pe_ix ix_list (pv 0) pe_int (fun _ _ => rfl)) (pa_cons (pe_ix ix_list (pv 0) pe_int (fun _ _ => rfl)) pa_nil))) (pg_sub (pv 0) pe_int set_list)) 
      (pss_one (ps_asg (pe_op op_add (pe_ix ix_list (pv 0) pe_int (fun _ _ => rfl)) pe_int) (pg_sub (pv 0) pe_int set_list)))) pss_nil) 
      (pss_cons (ps_set (i := 2) sc_law_next.nd rfl (.inl rfl) (pe_op op_mod (pe_callTy call_int1 (by rfl) T.m_int (by decide +kernel) (pa_cons (pe_ix ix_list (pv 0) pe_int (fun _ _ => rfl)) pa_nil)) (pv 1))) 
      (pss_cons (ps_asg (pe_op op_fdivW (pe_ix ix_list (pv 0) pe_int (fun _ _ => rfl)) (pv 1)) (pg_sub (pv 0) pe_int set_list)) 
      (pss_one (ps_ret (pv 2)))))), ?_⟩
    -- if state[2] < many: ..
    refine ⟨fun σ' H' => Oth st H H' ∧ StAt H' st sc ∧ σ' = [some (.ref st), some (.int m), none], ?_, ?_⟩
    · obtain ⟨ns, k, x, h1, h2, k0, x0, hn⟩ := id hS
      have hne : sc ≠ st := fun e => by
        rw [e, h1] at h2
        have z := HO.lst.inj (Option.some.inj h2)
        cases ns with
        | nil => cases z
        | cons y r =>
          have z2 := (List.cons.inj z).1
          cases z2
      refine ⟨_, rfl, st, _, _, _, rfl, rfl, SqL.of h1, at_of (j := 2) rfl rfl, _, rfl, _, _, rfl, rfl, _, rfl, ite2 (fun e => ?_) (fun e => ?_)⟩
      · refine ⟨_, rfl, st, _, _, _, rfl, rfl, SqL.of h1, at_of (j := 0) rfl rfl, _, rfl, st, _, _, _, rfl, rfl, SqL.of h1, at_of (j := 1) rfl rfl, sc, ns, k, rfl, h2, k0, fun c c0 => ?_⟩
        refine ⟨_, rfl, st, _, _, 2, rfl, rfl, h1, rfl, ?_⟩
        refine ⟨_, rfl, st, _, _, _, rfl, rfl, SqL.of upd_same, at_of (j := 1) rfl rfl, _, _, rfl, rfl, _, rfl, st, _, _, 1, rfl, rfl, upd_same, rfl, ?_⟩
        refine ⟨fun b hb => ?_, ⟨ns, k + 1, c, upd_same, ?_, by omega, c0, hn⟩, rfl⟩
        · rw [upd_ne hb, upd_ne hb]
        · rw [upd_ne hne, upd_ne hne]
          exact h2
      · exact ⟨Oth.refl _ _, hS, rfl⟩
    rintro σ' H' ⟨hO, ⟨ns, k, x, h1, h2, k0, x0, hn⟩, rfl⟩
    have hne : sc ≠ st := fun e => by
      rw [e, h1] at h2
      have z := HO.lst.inj (Option.some.inj h2)
      cases ns with
      | nil => cases z
      | cons y r =>
        have z2 := (List.cons.inj z).1
        cases z2
    -- drawn = int(state[2]) % many
    refine ⟨_, rfl, st, _, _, _, rfl, rfl, SqL.of h1, at_of (j := 2) rfl rfl, .inl ⟨_, rfl, ?_⟩⟩
    refine ⟨_, rfl, _, _, rfl, rfl, m0, ?_⟩
    -- state[2] = state[2] // many
    refine ⟨_, rfl, st, _, _, _, rfl, rfl, SqL.of h1, at_of (j := 2) rfl rfl, _, rfl, _, _, rfl, rfl, wide_div m0 m1 (by decide) (by decide), ?_⟩
    refine ⟨_, rfl, st, _, _, 2, rfl, rfl, h1, rfl, ?_⟩
    refine ⟨_, rfl, q _ _ (Int.emod_nonneg _ (by omega)) (Int.emod_lt_of_pos _ m0) ⟨ns, k, x / m, upd_same, ?_, k0, Int.ediv_nonneg x0 (by omega), hn⟩ (hO.trans fun b hb => upd_ne hb)⟩
    rw [upd_ne hne]
    exact h2
def sp_law_text (T : Txt K mg) : Sp := fun vs H Q _ => ∃ (st sc : Addr), vs = [.ref st] ∧ StAt H st sc ∧ ∀ (z : Str) (H' : Hp), z.length ≤ 8 → PyData.strOk z = true → StAt H' st sc → Oth st H H' → Q (.str z) H'
set_option maxHeartbeats 4000000 in
theorem ok_law_text (T : Txt K mg) : FnOk P w K mg base CX0 3 T.f_law_text T.d_law_text ["state"] (sp_law_text T) := by
  have G_law_next : FnOk P w K mg base CX0 2 T.f_law_next T.d_law_next ["state", "many"] (sp_law_next T) := ok_law_next T
  refine T.F_law_text.ok sc_law_text (fun vs H Q E h => ?_) (fun cdv A outer s H vs Q E hr h => ?_)
  · obtain ⟨st, sc, rfl, _⟩ := h
    rfl
  · obtain ⟨st, sc, rfl, hS, q⟩ := h
    refine ⟨_, (pss_cons (ps_set (i := 1) sc_law_text.nd rfl (.inl rfl) pe_str) 
      (pss_cons (ps_set (i := 2) sc_law_text.nd rfl (.inl rfl) pe_str) 
      (pss_cons (ps_for PassesOwn.never rfl (pi_range1 rfl T.m_range (pa_cons (pe_op op_add (pe_call G_law_next (hr.mono (by decide)) (by rfl) T.g_law_next T.F_law_next.kp T.b_law_next .nil pass0 (pa_cons (pv 0) (pa_cons pe_int pa_nil))) pe_int) pa_nil)) (pg_name (i := 3) sc_law_text.nd rfl (.inl rfl)) (pss_one (ps_set (i := 2) sc_law_text.nd rfl (.inl rfl) (pe_op op_add_str (pv 2) (pe_ix ix_str (pv 1) (pe_call G_law_next (hr.mono (by decide)) (by rfl) T.g_law_next T.F_law_next.kp T.b_law_next .nil pass0 (pa_cons (pv 0) (pa_cons pe_int pa_nil))) (fun _ _ => rfl)))))) 
      (pss_one (ps_ret (pv 2)))))), ?_⟩
    refine ⟨_, rfl, st, sc, 3, rfl, hS, by decide, by decide +kernel, fun n H1 n0 n1 hS1 o1 => ?_⟩
    refine ⟨_, _, rfl, rfl, n + 1, rfl, by omega, by omega, for_range (lo := 0) (n := (n + 1).toNat) (fun i σ H' => StAt H' st sc ∧ Oth st H H' ∧ ∃ (z : Str) (x3 : Option V), z.length ≤ i ∧ PyData.strOk z = true ∧ σ = [some (.ref st), some (.str "ab_Z9 c!"), some (.str z), x3]) ⟨hS1, o1, _, none, by decide +kernel, by decide +kernel, rfl⟩ ?_ ?_⟩
    · rintro i σ H2 hi ⟨hS2, o2, z, x3, hz, oz, rfl⟩
      refine ⟨_, rfl, _, rfl, _, rfl, st, sc, 8, rfl, hS2, by decide, by decide +kernel, fun d H3 d0 d1 hS3 o3 => ?_⟩
      obtain ⟨c, hc, c1⟩ := sign_at (z := "ab_Z9 c!") d0 (Int.lt_of_lt_of_le d1 (by decide +kernel)) (by decide +kernel)
      refine ⟨_, _, c, rfl, rfl, by decide +kernel, hc, _, _, rfl, rfl, ?_, ?_⟩
      · show z.length + 1 ≤ sizeLine
        exact Nat.le_trans (by omega : z.length + 1 ≤ 1000) (by decide)
      · exact ⟨hS3, o2.trans o3, _, _, by rw [cat_len]; omega, cat_ok oz c1, rfl⟩
    · rintro σ H2 ⟨hS2, o2, z, x3, hz, oz, rfl⟩
      exact ⟨_, rfl, q z H2 (by omega) oz hS2 o2⟩
def sp_Rank___init__ (T : Txt K mg) : Sp := fun vs H Q _ => ∃ (p dx : Addr) (c : Int) (z : Str), vs = [.ref p, .int c, .str z] ∧ H p = some (.ins T.c_Rank dx []) ∧ ∀ H', H' p = some (.ins T.c_Rank dx (ff c z)) → (∀ b, b ≠ p → H' b = H b) → Q .non H'
set_option maxHeartbeats 4000000 in
theorem ok_Rank___init__ (T : Txt K mg) : FnOk P w K mg base CX0 1 T.f_Rank___init__ T.d_Rank___init__ ["self", "cost", "name"] (sp_Rank___init__ T) := by
  refine T.F_Rank___init__.ok sc_Rank___init__ (fun vs H Q E h => ?_) (fun cdv A outer s H vs Q E hr h => ?_)
  · obtain ⟨p, dx, c, z, rfl, _⟩ := h
    rfl
  · obtain ⟨p, dx, c, z, rfl, hp, q⟩ := h
    refine ⟨_, (pss_cons (ps_fld (pv 0) (pv 1) rfl) 
      (pss_one (ps_fld (pv 0) (pv 2) rfl))), ?_⟩
    refine ⟨_, rfl, _, rfl, p, T.c_Rank, dx, [], rfl, hp, T.cl_Rank, T.n_Rank_cost, (by show 0 < 1000; decide), ?_⟩
    refine ⟨_, rfl, _, rfl, p, T.c_Rank, dx, _, rfl, upd_same, T.cl_Rank, T.n_Rank_name, (by show 1 < 1000; decide), ?_⟩
    exact q _ upd_same fun b hb => by rw [upd_ne hb, upd_ne hb]
def sp_Rank_pair (T : Txt K mg) : Sp := fun vs H Q _ => ∃ (p dx : Addr) (c : Int) (z : Str), vs = [.ref p] ∧ H p = some (.ins T.c_Rank dx (ff c z)) ∧ ∀ t, H t = none → Q (.ref t) (upd H t (.tup [.int c, .str z]))
set_option maxHeartbeats 4000000 in
theorem ok_Rank_pair (T : Txt K mg) : FnOk P w K mg base CX0 1 T.f_Rank_pair T.d_Rank_pair ["self"] (sp_Rank_pair T) := by
  refine T.F_Rank_pair.ok sc_Rank_pair (fun vs H Q E h => ?_) (fun cdv A outer s H vs Q E hr h => ?_)
  · obtain ⟨p, dx, c, z, rfl, _⟩ := h
    rfl
  · obtain ⟨p, dx, c, z, rfl, hp, q⟩ := h
    refine ⟨_, (pss_one (ps_ret (pe_tup (pa_cons (pe_fld (pv 0) rfl) (pa_cons (pe_fld (pv 0) rfl) pa_nil))))), ?_⟩
    refine ⟨_, rfl, p, T.c_Rank, dx, _, _, rfl, hp, T.cl_Rank, T.n_Rank_cost, ff_cost c z, _, rfl, p, T.c_Rank, dx, _, _, rfl, hp, T.cl_Rank, T.n_Rank_name, ff_name c z, (by show 2 ≤ sizeLine; decide), q⟩
def sp_Rank_before (T : Txt K mg) : Sp := fun vs H Q _ => ∃ (p dx : Addr) (c : Int) (z : Str) (p2 dx2 : Addr) (c2 : Int) (z2 : Str), vs = [.ref p, .ref p2] ∧ H p = some (.ins T.c_Rank dx (ff c z)) ∧ H p2 = some (.ins T.c_Rank dx2 (ff c2 z2)) ∧ ∀ H', Same H H' → Q (.bl (lessR c z c2 z2)) H'
set_option maxHeartbeats 4000000 in
theorem ok_Rank_before (T : Txt K mg) : FnOk P w K mg base CX0 3 T.f_Rank_before T.d_Rank_before ["self", "other"] (sp_Rank_before T) := by
  have G_Rank_pair : FnOk P w K mg base CX0 1 T.f_Rank_pair T.d_Rank_pair ["self"] (sp_Rank_pair T) := ok_Rank_pair T
  refine T.F_Rank_before.ok sc_Rank_before (fun vs H Q E h => ?_) (fun cdv A outer s H vs Q E hr h => ?_)
  · obtain ⟨p, dx, c, z, p2, dx2, c2, z2, rfl, _⟩ := h
    rfl
  · obtain ⟨p, dx, c, z, p2, dx2, c2, z2, rfl, hp, hp2, q⟩ := h
    refine ⟨_, (pss_one (ps_ret (pe_cmpR (op_ltA hr.un60) (pe_prop (pv 0) T.cl_Rank T.pr_Rank_pair G_Rank_pair (hr.mono (by decide)) T.b_Rank_pair .nil pass0 rfl) (pe_prop (pv 1) T.cl_Rank T.pr_Rank_pair G_Rank_pair (hr.mono (by decide)) T.b_Rank_pair .nil pass0 rfl) (nomark _)))), ?_⟩
    refine ⟨_, rfl, p, dx, _, rfl, hp, p, dx, c, z, rfl, hp, fun t1 h1 => ?_⟩
    have s1 := same_new (o := .tup [.int c, .str z]) h1
    have e1 : (upd H t1 (.tup [.int c, .str z])) t1 = some (.tup [.int c, .str z]) := upd_same
    refine ⟨_, rfl, p2, dx2, _, rfl, s1 _ _ hp2, p2, dx2, c2, z2, rfl, s1 _ _ hp2, fun t2 h2 => ?_⟩
    have s2 := same_new (o := .tup [.int c2, .str z2]) h2
    refine ⟨pdata c z, pdata c2 z2, dp_pair (s2 _ _ e1), dp_pair upd_same, ?_, (fun h => nomatch h), ?_, ?_⟩
    · simp [pdata, PySem.W.alike, PySem.W.alikeAll]
    · have := depth_pair c z
      omega
    · rw [lt_pair]
      exact q _ (s1.trans s2)
def sp_Rank___eq__ (T : Txt K mg) : Sp := fun vs H Q _ => ∃ (p dx : Addr) (c : Int) (z : Str) (y : V), vs = [.ref p, y] ∧ H p = some (.ins T.c_Rank dx (ff c z)) ∧ ((∃ (p2 dx2 : Addr) (c2 : Int) (z2 : Str), y = .ref p2 ∧ H p2 = some (.ins T.c_Rank dx2 (ff c2 z2)) ∧ Q (.bl (decide (c = c2) && decide (z = z2))) H) ∨ (∃ (t : Addr) (xs : List V), y = .ref t ∧ H t = some (.tup xs) ∧ Q (.bl false) H))
set_option maxHeartbeats 4000000 in
theorem ok_Rank___eq__ (T : Txt K mg) : FnOk P w K mg base CX0 1 T.f_Rank___eq__ T.d_Rank___eq__ ["self", "other"] (sp_Rank___eq__ T) := by
  refine T.F_Rank___eq__.ok sc_Rank___eq__ (fun vs H Q E h => ?_) (fun cdv A outer s H vs Q E hr h => ?_)
  · obtain ⟨p, dx, c, z, y, rfl, _⟩ := h
    rfl
  · obtain ⟨p, dx, c, z, y, rfl, hp, q⟩ := h
    refine ⟨_, (pss_one (ps_ret (pe_and (pe_callB call_isi (by rfl) T.m_isinstance (by decide +kernel) (pa_cons (pv 1) (pa_cons (pe_glob (v := .ref T.c_Rank) rfl T.mc_Rank rfl) pa_nil))) (pe_and (pe_cmpR op_eq (pe_fld (pv 0) rfl) (pe_fld (pv 1) rfl) (nomark _)) (pe_one (pe_cmpR op_eq (pe_fld (pv 0) rfl) (pe_fld (pv 1) rfl) (nomark _))))))), ?_⟩
    rcases q with ⟨p2, dx2, c2, z2, rfl, hp2, q⟩ | ⟨t, xs, rfl, ht, q⟩
    · refine ⟨_, rfl, _, _, _, _, true, rfl, .own _, .base (.ins hp2 T.cl_Rank T.ha_Rank T.hn0 T.ht0 T.hm_Rank), T.kit_Rank_Rank, true, rfl, iteT ?_⟩
      refine ⟨_, rfl, p, T.c_Rank, dx, _, _, rfl, hp, T.cl_Rank, T.n_Rank_cost, ff_cost c z, _, rfl, p2, T.c_Rank, dx2, _, _, rfl, hp2, T.cl_Rank, T.n_Rank_cost, ff_cost c2 z2, rfl, _, rfl, ite2 (fun hd => ?_) (fun hd => ?_)⟩
      · have e : c = c2 := V.int.inj (of_decide_eq_true hd)
        refine ⟨_, rfl, p, T.c_Rank, dx, _, _, rfl, hp, T.cl_Rank, T.n_Rank_name, ff_name c z, _, rfl, p2, T.c_Rank, dx2, _, _, rfl, hp2, T.cl_Rank, T.n_Rank_name, ff_name c2 z2, rfl, ?_⟩
        rw [decide_eq_true e, Bool.true_and] at q
        have e2 : decide (V.str z = V.str z2) = decide (z = z2) := decide_eq_decide.mpr ⟨V.str.inj, congrArg V.str⟩
        show Q (.bl (decide (V.str z = V.str z2))) H
        rw [e2]
        exact q
      · have e : ¬ c = c2 := fun h => hd (decide_eq_true (congrArg V.int h))
        rw [decide_eq_false e, Bool.false_and] at q
        exact q
    · exact ⟨_, rfl, _, _, _, _, false, rfl, .own _, .base (.tup ht), T.kit_tuple_Rank, false, rfl, iteF q⟩
def sp_law (K : PySem.W.Frag) : Sp := fun vs H Q _ => ∃ (a : Addr) (ns : List Int), vs = [.ref a] ∧ SqL K H a (ns.map V.int) ∧ ns.length ≤ 63 ∧ ∀ H', Q (.bl true) H'
set_option maxHeartbeats 8000000 in
theorem ok_law (T : Txt K mg) : FnOk P w K mg base CX0 4 T.f_law T.d_law ["script"] (sp_law K) := by
  have G_Rank___eq__ : FnOk P w K mg base CX0 1 T.f_Rank___eq__ T.d_Rank___eq__ ["self", "other"] (sp_Rank___eq__ T) := ok_Rank___eq__ T
  have G_Rank_before : FnOk P w K mg base CX0 3 T.f_Rank_before T.d_Rank_before ["self", "other"] (sp_Rank_before T) := ok_Rank_before T
  have G_Rank_pair : FnOk P w K mg base CX0 1 T.f_Rank_pair T.d_Rank_pair ["self"] (sp_Rank_pair T) := ok_Rank_pair T
  have G_Rank___init__ : FnOk P w K mg base CX0 1 T.f_Rank___init__ T.d_Rank___init__ ["self", "cost", "name"] (sp_Rank___init__ T) := ok_Rank___init__ T
  have G_law_next : FnOk P w K mg base CX0 2 T.f_law_next T.d_law_next ["state", "many"] (sp_law_next T) := ok_law_next T
  have G_law_text : FnOk P w K mg base CX0 3 T.f_law_text T.d_law_text ["state"] (sp_law_text T) := ok_law_text T
  refine T.F_law.ok sc_law (fun vs H Q E h => ?_) (fun cdv A outer s H vs Q E hr h => ?_)
  · obtain ⟨a, ns, rfl, _⟩ := h
    rfl
  · obtain ⟨a, ns, rfl, hA, hlen, q⟩ := h
    refine ⟨_, (pss_cons (ps_set (i := 1) sc_law.nd rfl (.inl rfl) (pe_lst (pa_cons (pe_callTy call_list_of (by rfl) T.m_list (by decide +kernel) (pa_cons (pv 0) pa_nil)) (pa_cons pe_int (pa_cons pe_int pa_nil))))) 
      (pss_cons (ps_set (i := 2) sc_law.nd rfl (.inl rfl) (pe_lst pa_nil)) 
      (pss_cons (ps_for PassesOwn.never rfl (pi_range1 rfl T.m_range (pa_cons (pe_op op_add pe_int (pe_call G_law_next (hr.mono (by decide)) (by rfl) T.g_law_next T.F_law_next.kp T.b_law_next .nil pass0 (pa_cons (pv 1) (pa_cons pe_int pa_nil)))) pa_nil)) (pg_name (i := 3) sc_law.nd rfl (.inl rfl)) (pss_cons (ps_set (i := 4) sc_law.nd rfl (.inl rfl) (pe_op op_sub (pe_call G_law_next (hr.mono (by decide)) (by rfl) T.g_law_next T.F_law_next.kp T.b_law_next .nil pass0 (pa_cons (pv 1) (pa_cons pe_int pa_nil))) pe_int)) 
      (pss_cut (ps_if (pt_cmpR op_eq (pe_call G_law_next (hr.mono (by decide)) (by rfl) T.g_law_next T.F_law_next.kp T.b_law_next .nil pass0 (pa_cons (pv 1) (pa_cons pe_int pa_nil))) pe_int (nomark _)) (pss_one (ps_set (i := 4) sc_law.nd rfl (.inl rfl) (pe_op op_sub (pe_call G_law_next (hr.mono (by decide)) (by rfl) T.g_law_next T.F_law_next.kp T.b_law_next .nil pass0 (pa_cons (pv 1) (pa_cons (pe_op op_pow pe_int pe_int) pa_nil))) (pe_op op_mul pe_int (pe_op op_pow pe_int pe_int))))) pss_nil) 
      (pss_cons (ps_expr (pe_bm PySem.F.plainAttrs_list PySem.F.slot_list_append PySem.F.type_list_append mt_append (pv 2) (pa_cons (pe_tup (pa_cons (pv 4) (pa_cons (pe_call G_law_text (hr.mono (by decide)) (by rfl) T.g_law_text T.F_law_text.kp T.b_law_text .nil pass0 (pa_cons (pv 1) pa_nil)) pa_nil))) pa_nil))) 
      (pss_one (ps_if (pt_cmpR op_eq (pe_call G_law_next (hr.mono (by decide)) (by rfl) T.g_law_next T.F_law_next.kp T.b_law_next .nil pass0 (pa_cons (pv 1) (pa_cons pe_int pa_nil))) pe_int (nomark _)) (pss_one (ps_expr (pe_bm PySem.F.plainAttrs_list PySem.F.slot_list_append PySem.F.type_list_append mt_append (pv 2) (pa_cons (pe_ix ix_list (pv 2) (pe_call G_law_next (hr.mono (by decide)) (by rfl) T.g_law_next T.F_law_next.kp T.b_law_next .nil pass0 (pa_cons (pv 1) (pa_cons (pe_callB call_len_seq (by rfl) T.m_len PySem.boot_len (pa_cons (pv 2) pa_nil)) pa_nil))) (fun _ _ => rfl)) pa_nil)))) pss_nil)))))) 
      (pss_cons (ps_setLc (i := 5) (own := [("pair", 6)]) (g := gName 6) rfl sc_law.nd rfl rfl (sw_true rfl rfl rfl (by decide +kernel)) (pi_list (pv 2)) (blkOk_by (own := [("pair", 6)]) (N := ["script", "state", "pairs", "k", "cost", "ranks", "pair", "one", "j", "less"]) (sc := defScope s_law) (by decide +kernel)) (fun _ _ _ _ _ => (pg_name (i := 6) sc_law.nd rfl (Or.inl rfl))) (fun _ _ _ _ _ => pts_nil) (fun _ _ _ _ _ => (pe_make T.mk_Rank G_Rank___init__ (hr.mono (by decide)) (by rfl) T.mc_Rank T.b_Rank___init__ .nil pass0 (pa_cons (pe_ix (r := rIxT K) (by exact ix_tup) (pv 6) pe_int (fun _ _ => rfl)) (pa_cons (pe_ix (r := rIxT K) (by exact ix_tup) (pv 6) pe_int (fun _ _ => rfl)) pa_nil))))) 
      (pss_cons (ps_for PassesOwn.never rfl (pi_range1 rfl T.m_range (pa_cons (pe_callB call_len_seq (by rfl) T.m_len PySem.boot_len (pa_cons (pv 2) pa_nil)) pa_nil)) (pg_name (i := 3) sc_law.nd rfl (.inl rfl)) (pss_cons (ps_set (i := 7) sc_law.nd rfl (.inl rfl) (pe_ix ix_list (pv 5) (pv 3) (fun _ _ => rfl))) 
      (pss_cons (ps_if (PW.pt (pw_or (pt_cmpR op_ne (pe_fld (pv 7) rfl) (pe_ix ix_tup (pe_ix ix_list (pv 2) (pv 3) (fun _ _ => rfl)) pe_int (fun _ _ => rfl)) (nomark _)) (pw_or (pt_cmpR op_ne (pe_fld (pv 7) rfl) (pe_ix ix_tup (pe_ix ix_list (pv 2) (pv 3) (fun _ _ => rfl)) pe_int (fun _ _ => rfl)) (nomark _)) (pw_or1 (pt_cmpR (op_neD hr.units) (pe_prop (pv 7) T.cl_Rank T.pr_Rank_pair G_Rank_pair (hr.mono (by decide)) T.b_Rank_pair .nil pass0 rfl) (pe_ix ix_list (pv 2) (pv 3) (fun _ _ => rfl)) (nomark _)))))) (pss_one (ps_ret pe_bl)) pss_nil) 
      (pss_cons (ps_if (PW.pt (pw_or (pt_not (pt_val (pe_callB call_isi (by rfl) T.m_isinstance (by decide +kernel) (pa_cons (pe_prop (pv 7) T.cl_Rank T.pr_Rank_pair G_Rank_pair (hr.mono (by decide)) T.b_Rank_pair .nil pass0 rfl) (pa_cons (pe_bltn (v := .ty "tuple") (u := .type "tuple") (by rfl) T.m_tuple (by decide +kernel) rfl) pa_nil))))) (pw_or1 (pt_cmpR (op_ownEq T.me_Rank___eq__ G_Rank___eq__ (hr.mono (by decide)) T.b_Rank___eq__ pass0) (pv 7) (pe_ix ix_list (pv 2) (pv 3) (fun _ _ => rfl)) (nomark _))))) (pss_one (ps_ret pe_bl)) pss_nil) 
      (pss_one (ps_for PassesOwn.never rfl (pi_range1 rfl T.m_range (pa_cons (pe_callB call_len_seq (by rfl) T.m_len PySem.boot_len (pa_cons (pv 2) pa_nil)) pa_nil)) (pg_name (i := 8) sc_law.nd rfl (.inl rfl)) (pss_cons (ps_set (i := 9) sc_law.nd rfl (.inl rfl) (pe_cmpR op_lt (pe_ix ix_tup (pe_ix ix_list (pv 2) (pv 3) (fun _ _ => rfl)) pe_int (fun _ _ => rfl)) (pe_ix ix_tup (pe_ix ix_list (pv 2) (pv 8) (fun _ _ => rfl)) pe_int (fun _ _ => rfl)) (nomark _))) 
      (pss_cut (ps_if (pt_cmpR op_eq (pe_ix ix_tup (pe_ix ix_list (pv 2) (pv 3) (fun _ _ => rfl)) pe_int (fun _ _ => rfl)) (pe_ix ix_tup (pe_ix ix_list (pv 2) (pv 8) (fun _ _ => rfl)) pe_int (fun _ _ => rfl)) (nomark _)) (pss_one (ps_set (i := 9) sc_law.nd rfl (.inl rfl) (pe_cmpR op_lt_str (pe_ix ix_tup (pe_ix ix_list (pv 2) (pv 3) (fun _ _ => rfl)) pe_int (fun _ _ => rfl)) (pe_ix ix_tup (pe_ix ix_list (pv 2) (pv 8) (fun _ _ => rfl)) pe_int (fun _ _ => rfl)) (nomark _)))) pss_nil) 
      (pss_cons (ps_if (PW.pt (pw_or (pt_not (pt_val (pe_callB call_isi (by rfl) T.m_isinstance (by decide +kernel) (pa_cons (pe_meth (pv 7) T.cl_Rank T.me_Rank_before G_Rank_before (hr.mono (by decide)) T.b_Rank_before .nil pass0 (pa_cons (pe_ix ix_list (pv 5) (pv 8) (fun _ _ => rfl)) pa_nil)) (pa_cons (pe_bltn (v := .ty "bool") (u := .type "bool") (by rfl) T.m_bool (by decide +kernel) rfl) pa_nil))))) (pw_or1 (pt_cmpR op_ne (pe_meth (pv 7) T.cl_Rank T.me_Rank_before G_Rank_before (hr.mono (by decide)) T.b_Rank_before .nil pass0 (pa_cons (pe_ix ix_list (pv 5) (pv 8) (fun _ _ => rfl)) pa_nil)) (pv 9) (nomark _))))) (pss_one (ps_ret pe_bl)) pss_nil) 
      (pss_one (ps_if (PW.pt (pw_or (pt_not (pt_val (pe_callB call_isi (by rfl) T.m_isinstance (by decide +kernel) (pa_cons (pe_cmpR (op_ownEq T.me_Rank___eq__ G_Rank___eq__ (hr.mono (by decide)) T.b_Rank___eq__ pass0) (pv 7) (pe_ix ix_list (pv 5) (pv 8) (fun _ _ => rfl)) (nomark _)) (pa_cons (pe_bltn (v := .ty "bool") (u := .type "bool") (by rfl) T.m_bool (by decide +kernel) rfl) pa_nil))))) (pw_or1 (pt_cmpR op_ne (pe_cmpR (op_ownEq T.me_Rank___eq__ G_Rank___eq__ (hr.mono (by decide)) T.b_Rank___eq__ pass0) (pv 7) (pe_ix ix_list (pv 5) (pv 8) (fun _ _ => rfl)) (nomark _)) (pe_cmpR (op_eqD hr.units) (pe_ix ix_list (pv 2) (pv 3) (fun _ _ => rfl)) (pe_ix ix_list (pv 2) (pv 8) (fun _ _ => rfl)) (nomark _)) (nomark _))))) (pss_one (ps_ret pe_bl)) pss_nil))))))))))) 
      (pss_one (ps_ret pe_bl))))))), ?_⟩
    refine ⟨_, rfl, a, _, rfl, .inl hA, fun sc hsc => ⟨(by show 3 ≤ sizeLine; decide), fun st hst => ?_⟩⟩
    have hS0 := st_made hsc hst hlen
    generalize upd (upd H sc (.lst (ns.map V.int))) st (.lst [.ref sc, .int 0, .int 0]) = H0 at hS0
    -- pairs = []
    refine ⟨Nat.zero_le _, fun pp hpp => ?_⟩
    have npp : pp ≠ st := st_new hS0 hpp
    have hS1 := hS0.new (o := .lst []) hpp
    have nsc : sc ≠ pp := by
      obtain ⟨_, _, _, _, g, _⟩ := hS0
      exact ne_of_none g hpp
    refine ⟨_, rfl, st, sc, 9, rfl, hS1, by decide, by decide +kernel, fun n H1 n0 n1 hS2 o2 => ?_⟩
    refine ⟨_, _, rfl, rfl, 2 + n, rfl, by omega, by omega, ?_⟩
    have hp1 : H1 pp = some (.lst []) := (o2 pp npp).trans upd_same
    refine for_range (lo := 0) (n := (2 + n).toNat) (fun i σ H' => StAt H' st sc ∧ ∃ ts l, PsAt H' pp ts l ∧ i ≤ l.length ∧ l.length ≤ 2 * i ∧ ∃ x3 x4, σ = [some (.ref a), some (.ref st), some (.ref pp), x3, x4, none, none, none, none, none]) ⟨hS2, [], [], ⟨hp1, rfl, fun j t h => by simp at h⟩, Nat.le_refl _, Nat.le_refl _, _, _, rfl⟩ ?_ ?_
    · rintro i σ H2 hi ⟨hS3, ts, l, P, l1, l2, x3, x4, rfl⟩
      refine ⟨_, rfl, st, sc, 7, rfl, hS3, by decide, by decide +kernel, fun d H3 d0 d1 hS4 o4 => ?_⟩
      have P3 := P.fr hS3 o4.fr
      refine ⟨_, _, rfl, rfl, ?_⟩
      refine ⟨fun σ' H' => StAt H' st sc ∧ PsAt H' pp ts l ∧ ∃ c : Int, σ' = [some (.ref a), some (.ref st), some (.ref pp), some (.int (0 + (i : Int))), some (.int c), none, none, none, none, none], ?_, ?_⟩
      · refine ⟨_, rfl, st, sc, 4, rfl, hS4, by decide, by decide +kernel, fun e H4 _ _ hS5 o5 => ?_⟩
        have P4 := P3.fr hS4 o5.fr
        refine ⟨rfl, _, rfl, ite2 (fun _ => ?_) (fun _ => ?_)⟩
        · refine ⟨_, rfl, _, _, rfl, rfl, ⟨by decide, by decide, by decide⟩, st, sc, _, rfl, hS5, by decide +kernel, by decide +kernel, fun u H5 _ _ hS6 o6 => ?_⟩
          exact ⟨_, _, rfl, rfl, ⟨by decide, by decide, by decide⟩, _, _, rfl, rfl, .inl ⟨by decide, by decide⟩, _, _, rfl, rfl, hS6, P4.fr hS5 o6.fr, _, rfl⟩
        · exact ⟨hS5, P4, _, rfl⟩
      rintro σ' H4 ⟨hS5, P4, c, rfl⟩
      -- pairs.append((cost, _law_text(state)))
      refine ⟨_, rfl, .inl ⟨rfl, _, SqL.of P4.1⟩, _, rfl, _, rfl, st, sc, rfl, hS5, fun z H5 hz oz hS6 o6 => ⟨(by show 2 ≤ sizeLine; decide), fun t ht => ?_⟩⟩
      have P5 := (P4.fr hS5 o6.fr).same (same_new (o := .tup [.int c, .str z]) ht)
      have hS7 := hS6.new (o := .tup [.int c, .str z]) ht
      have P6 := P5.push (c := c) (z := z) upd_same oz
      have lts := P5.2.1
      refine ⟨pp, _, _, rfl, rfl, P5.1, by rw [List.length_map]; exact len_le (by omega), ?_⟩
      have hS8 : StAt (upd (upd H5 t (.tup [.int c, .str z])) pp (.lst (ts.map V.ref ++ [V.ref t]))) st sc := by
        obtain ⟨ns', k', x', g1, g2, g3, g4, g5⟩ := hS7
        exact ⟨ns', k', x', by rw [upd_ne npp.symm]; exact g1, by rw [upd_ne nsc]; exact g2, g3, g4, g5⟩
      generalize upd (upd H5 t (.tup [.int c, .str z])) pp (.lst (ts.map V.ref ++ [V.ref t])) = H6 at P6 hS8 ⊢
      -- if _law_next(state, 4) == 0: one of them again
      refine ⟨_, rfl, st, sc, 4, rfl, hS8, by decide, by decide +kernel, fun e H7 _ _ hS9 o9 => ?_⟩
      have P7 := P6.fr hS8 o9.fr
      refine ⟨rfl, _, rfl, ite2 (fun _ => ?_) (fun _ => ?_)⟩
      · have ll : (l ++ [(c, z)]).length = l.length + 1 := by simp
        refine ⟨_, rfl, .inl ⟨rfl, _, SqL.of P7.1⟩, _, rfl, _, rfl, _, rfl, pp, _, rfl, .inl (SqL.of P7.1), st, sc, _, rfl, hS9, ?_, ?_, fun d H8 d0 d1 hS10 o10 => ?_⟩
        · rw [List.length_map]
          simp
        · rw [List.length_map]
          refine wide_le (j := 1000) (by omega) ?_ (by decide +kernel)
          simp
          omega
        have P8 := P7.fr hS9 o10.fr
        have lts8 := P8.2.1
        rw [List.length_map] at d1
        obtain ⟨t', c', z', g1, g2, g3, g4⟩ := P8.get (j := d.toNat) (by omega)
        refine ⟨pp, _, d, _, rfl, rfl, SqL.of P8.1, at_of (j := d.toNat) (by omega) g1, pp, _, _, rfl, rfl, P8.1, by rw [List.length_map]; exact len_le (by omega), ?_⟩
        refine ⟨?_, _, _, P8.push g4 g3, by simp; omega, by simp; omega, _, _, rfl⟩
        obtain ⟨ns', k', x', g1, g2, g3, g4, g5⟩ := hS10
        exact ⟨ns', k', x', by rw [upd_ne npp.symm]; exact g1, by rw [upd_ne nsc]; exact g2, g3, g4, g5⟩
      · exact ⟨hS9, _, _, P7, by simp; omega, by simp; omega, _, _, rfl⟩
    rintro σ H2 ⟨hS3, ts, l, P, l1, l2, x3, x4, rfl⟩
    have lm : l.length ≤ 1000 := by omega
    have lts := P.2.1
    clear hS0 hS1 hS2 o2 hp1 npp nsc hS3
    -- ranks = [Rank(pair[0], pair[1]) for pair in pairs]
    refine ⟨_, rfl, pp, rfl, ⟨_, SqL.of P.1⟩, fun pr hpr => ?_⟩
    refine lc_list (K := K) (a := pp) (xs := ts.map V.ref) (fun j H' => Same H2 H' ∧ ∃ rs : List Addr, rs.length = j ∧ H' pr = some (.lst (rs.map V.ref)) ∧ ∀ (i : Nat) (r : Addr), rs[i]? = some r → ∃ dx c z, l[i]? = some (c, z) ∧ H' r = some (.ins T.c_Rank dx (ff c z))) ⟨same_new hpr, [], rfl, upd_same, fun i r h => by simp at h⟩ (fun j H' _ h => SqL.of (h.1 _ _ P.1)) ?_ ?_
    · rintro j y H' hj ⟨sm, rs, lr, h1, hr'⟩
      rw [List.getElem?_map] at hj
      cases et : ts[j]? with
      | none =>
        rw [et] at hj
        cases hj
      | some t =>
        rw [et] at hj
        have ey : V.ref t = y := Option.some.inj hj
        subst ey
        obtain ⟨c, z, g1, g2, g3⟩ := P.2.2 j t et
        have g3' := sm _ _ g3
        have jl : j < l.length := (List.getElem?_eq_some_iff.mp g1).1
        refine ⟨rfl, ?_⟩
        refine ⟨_, rfl, t, _, _, _, rfl, rfl, SqT.of g3', at_of (j := 0) rfl rfl, _, rfl, t, _, _, _, rfl, rfl, SqT.of g3', at_of (j := 1) rfl rfl, fun x dx nx ndx nex => ⟨x, dx, c, z, rfl, upd_same, fun H3 e1 e2 => ⟨rfl, ?_⟩⟩⟩
        have sm3 : Same H' H3 := fun b o hb => by
          rw [e2 b (ne_of_none hb nx), upd_ne (ne_of_none hb nx), upd_ne (ne_of_none hb ndx)]
          exact hb
        refine ⟨_, sm3 _ _ h1, by rw [List.length_map]; exact len_le (by omega), same_set (sm.trans sm3) hpr, rs ++ [x], by simp [lr], by rw [upd_same, List.map_append]; rfl, fun i r h => ?_⟩
        have nr : ∀ {b : Addr} {D dy : Addr} {fs : List (Str × V)}, H3 b = some (.ins D dy fs) → b ≠ pr := fun hb e => by
          rw [e, sm3 _ _ h1] at hb
          cases hb
        rcases Nat.lt_or_ge i rs.length with g | g
        · rw [List.getElem?_append_left g] at h
          obtain ⟨dy, c', z', k1, k2⟩ := hr' i r h
          exact ⟨dy, c', z', k1, by rw [upd_ne (nr (sm3 _ _ k2))]; exact sm3 _ _ k2⟩
        · rw [List.getElem?_append_right g] at h
          have e0 : i - rs.length = 0 := by
            rcases Nat.eq_zero_or_pos (i - rs.length) with k | k
            · exact k
            · rw [List.getElem?_eq_none (by simp; omega)] at h
              cases h
          rw [e0] at h
          have et' : x = r := Option.some.inj h
          subst et'
          exact ⟨dx, c, z, by rw [show i = j by omega]; exact g1, by rw [upd_ne (nr e1)]; exact e1⟩
    rintro H3 ⟨sm, rs, lr, h1, hr'⟩
    rw [List.length_map] at lr
    have R : RsAt T.c_Rank H3 pr rs l := ⟨h1, by omega, hr'⟩
    replace P := P.same sm
    clear sm lr h1 hr' hpr
    -- for k in range(len(pairs))
    refine ⟨_, rfl, pp, _, rfl, .inl (SqL.of P.1), (l.length : Int), by rw [List.length_map, lts], by omega, by omega, ?_⟩
    refine for_range (lo := 0) (n := l.length) (fun k σ H' => Same H3 H' ∧ ∃ x3 x7 x8 x9 x6, σ = [some (.ref a), some (.ref st), some (.ref pp), x3, x4, some (.ref pr), x6, x7, x8, x9]) ⟨Same.refl _, _, _, _, _, _, rfl⟩ ?_ ?_
    rotate_left
    · rintro σ H' ⟨_, x3, x7, x8, x9, x6, rfl⟩
      exact q H'
    rintro k σ H4 hk ⟨s4, x3, x7, x8, x9, x6, rfl⟩
    have P4 := P.same s4
    have R4 := R.same s4
    have e0 : (0 : Int) + (k : Int) = (k : Int) := by omega
    obtain ⟨t, c, z, t1, t2, t3, t4⟩ := P4.get hk
    obtain ⟨r, dx, c', z', r1, r2, r3⟩ := R4.get hk
    rw [t2] at r2
    cases r2
    -- one = ranks[k]
    refine ⟨_, rfl, _, rfl, pr, _, _, _, rfl, rfl, SqL.of R4.1, at_of e0 r1, ?_⟩
    -- if one.cost != .. or one.name != .. or one.pair != ..
    refine ⟨_, rfl, r, T.c_Rank, dx, _, _, rfl, r3, T.cl_Rank, T.n_Rank_cost, ff_cost c z, _, rfl, _, rfl, pp, _, _, _, rfl, rfl, SqL.of P4.1, at_of e0 t1, t, _, _, _, rfl, rfl, SqT.of t4, at_of (j := 0) rfl rfl, rfl, _, rfl, iteNS rfl ?_⟩
    refine ⟨_, rfl, r, T.c_Rank, dx, _, _, rfl, r3, T.cl_Rank, T.n_Rank_name, ff_name c z, _, rfl, _, rfl, pp, _, _, _, rfl, rfl, SqL.of P4.1, at_of e0 t1, t, _, _, _, rfl, rfl, SqT.of t4, at_of (j := 1) rfl rfl, rfl, _, rfl, iteNS rfl ?_⟩
    refine ⟨_, rfl, r, dx, _, rfl, r3, r, dx, c, z, rfl, r3, fun q1 hq1 => ?_⟩
    have s5 := same_new (o := .tup [.int c, .str z]) hq1
    refine ⟨_, rfl, _, rfl, pp, _, _, _, rfl, rfl, SqL.of (s5 _ _ P4.1), at_of e0 t1, pdata c z, pdata c z, dp_pair upd_same, dp_pair (s5 _ _ t4), shaped_pair c t3, shaped_pair c t3, _, rfl, ?_⟩
    rw [eqv_pair, decide_eq_true rfl, decide_eq_true rfl]
    refine iteF ?_
    generalize hH5 : upd H4 q1 (.tup [.int c, .str z]) = H5 at s5
    have P5 := P4.same s5
    have R5 := R4.same s5
    have t5 := s5 _ _ t4
    have r5 := s5 _ _ r3
    -- if not isinstance(one.pair, tuple) or one == pairs[k]
    refine ⟨_, rfl, r, dx, _, rfl, r5, r, dx, c, z, rfl, r5, fun q2 hq2 => ?_⟩
    have s6 := same_new (o := .tup [.int c, .str z]) hq2
    refine ⟨_, _, _, _, true, rfl, .ty _, .base (.tup upd_same), kit_ty (by decide +kernel), true, rfl, iteF ?_⟩
    refine ⟨_, rfl, _, rfl, _, rfl, pp, _, _, _, rfl, rfl, SqL.of (s6 _ _ P5.1), at_of e0 t1, r, dx, _, _, rfl, s6 _ _ r5, .base (.tup (s6 _ _ t5)), T.nf_Rank_tuple, r, dx, c, z, _, rfl, s6 _ _ r5, .inr ⟨t, _, rfl, s6 _ _ t5, false, rfl, false, rfl, iteF ?_⟩⟩
    replace s6 := s5.trans s6
    generalize upd H5 q2 (.tup [.int c, .str z]) = H6 at s6
    clear s5 P5 R5 t5 r5 hH5
    have P6 := P4.same s6
    -- for j in range(len(pairs))
    refine ⟨_, rfl, pp, _, rfl, .inl (SqL.of P6.1), (l.length : Int), by rw [List.length_map, lts], by omega, by omega, ?_⟩
    refine for_range (lo := 0) (n := l.length) (fun j σ H' => Same H4 H' ∧ ∃ x8 x9, σ = [some (.ref a), some (.ref st), some (.ref pp), some (.int (0 + (k : Int))), x4, some (.ref pr), x6, some (.ref r), x8, x9]) ⟨s6, _, _, rfl⟩ ?_ ?_
    rotate_left
    · rintro σ H' ⟨s7, x8, x9, rfl⟩
      exact ⟨s4.trans s7, _, _, _, _, _, rfl⟩
    rintro j σ H7 hj ⟨s7, y8, y9, rfl⟩
    have P7 := P4.same s7
    have R7 := R4.same s7
    have f0 : (0 : Int) + (j : Int) = (j : Int) := by omega
    have t7 := s7 _ _ t4
    have r7 := s7 _ _ r3
    obtain ⟨u, c2, z2, u1, u2, u3, u4⟩ := P7.get hj
    obtain ⟨v, dy, c', z', v1, v2, v3⟩ := R7.get hj
    rw [u2] at v2
    cases v2
    -- less
    refine ⟨_, rfl, _, rfl, pp, _, _, _, rfl, rfl, SqL.of P7.1, at_of e0 t1, t, _, _, _, rfl, rfl, SqT.of t7, at_of (j := 0) rfl rfl, _, rfl, _, rfl, pp, _, _, _, rfl, rfl, SqL.of P7.1, at_of f0 u1, u, _, _, _, rfl, rfl, SqT.of u4, at_of (j := 0) rfl rfl, _, _, rfl, rfl, ?_⟩
    refine ⟨fun σ' H' => H' = H7 ∧ σ' = [some (.ref a), some (.ref st), some (.ref pp), some (.int (0 + (k : Int))), x4, some (.ref pr), x6, some (.ref r), some (.int (0 + (j : Int))), some (.bl (lessR c z c2 z2))], ?_, ?_⟩
    · refine ⟨_, rfl, _, rfl, pp, _, _, _, rfl, rfl, SqL.of P7.1, at_of e0 t1, t, _, _, _, rfl, rfl, SqT.of t7, at_of (j := 0) rfl rfl, _, rfl, _, rfl, pp, _, _, _, rfl, rfl, SqL.of P7.1, at_of f0 u1, u, _, _, _, rfl, rfl, SqT.of u4, at_of (j := 0) rfl rfl, rfl, _, rfl, ite2 (fun hd => ?_) (fun hd => ?_)⟩
      · have e : c = c2 := V.int.inj (of_decide_eq_true hd)
        refine ⟨_, rfl, _, rfl, pp, _, _, _, rfl, rfl, SqL.of P7.1, at_of e0 t1, t, _, _, _, rfl, rfl, SqT.of t7, at_of (j := 1) rfl rfl, _, rfl, _, rfl, pp, _, _, _, rfl, rfl, SqL.of P7.1, at_of f0 u1, u, _, _, _, rfl, rfl, SqT.of u4, at_of (j := 1) rfl rfl, _, _, rfl, rfl, rfl, ?_⟩
        unfold lessR
        rw [if_pos e]
        rfl
      · have e : ¬ c = c2 := fun h => hd (decide_eq_true (congrArg V.int h))
        refine ⟨rfl, ?_⟩
        unfold lessR
        rw [if_neg e]
        rfl
    rintro σ' H8 ⟨rfl, rfl⟩
    -- one.before(ranks[j])
    refine ⟨_, rfl, r, dx, _, rfl, r7, ff_no c z (by decide +kernel) (by decide +kernel), _, rfl, _, rfl, pr, _, _, _, rfl, rfl, SqL.of R7.1, at_of f0 v1, r, dx, c, z, v, dy, c2, z2, rfl, r7, v3, fun H9 s9 => ?_⟩
    refine ⟨_, _, _, _, true, rfl, .ty _, .base (.bl _), kit_ty (by decide +kernel), true, rfl, iteF ?_⟩
    refine ⟨_, rfl, r, dx, _, rfl, s9 _ _ r7, ff_no c z (by decide +kernel) (by decide +kernel), _, rfl, _, rfl, pr, _, _, _, rfl, rfl, SqL.of (s9 _ _ R7.1), at_of f0 v1, r, dx, c, z, v, dy, c2, z2, rfl, s9 _ _ r7, s9 _ _ v3, fun H10 s10 => ?_⟩
    refine ⟨_, rfl, rfl, _, rfl, iteNS rfl ?_⟩
    replace s10 := s9.trans s10
    have r10 := s10 _ _ r7
    have v10 := s10 _ _ v3
    -- one == ranks[j]
    refine ⟨_, rfl, _, rfl, _, rfl, pr, _, _, _, rfl, rfl, SqL.of (s10 _ _ R7.1), at_of f0 v1, r, dx, _, _, rfl, r10, .base (.ins v10 T.cl_Rank T.ha_Rank T.hn0 T.ht0 T.hm_Rank), nf_self, r, dx, c, z, _, rfl, r10, .inl ⟨v, dy, c2, z2, rfl, v10, _, rfl, ?_⟩⟩
    refine ⟨_, _, _, _, true, rfl, .ty _, .base (.bl _), kit_ty (by decide +kernel), true, rfl, iteF ?_⟩
    refine ⟨_, rfl, _, rfl, _, rfl, pr, _, _, _, rfl, rfl, SqL.of (s10 _ _ R7.1), at_of f0 v1, r, dx, _, _, rfl, r10, .base (.ins v10 T.cl_Rank T.ha_Rank T.hn0 T.ht0 T.hm_Rank), nf_self, r, dx, c, z, _, rfl, r10, .inl ⟨v, dy, c2, z2, rfl, v10, _, rfl, ?_⟩⟩
    refine ⟨_, rfl, _, rfl, pp, _, _, _, rfl, rfl, SqL.of (s10 _ _ P7.1), at_of e0 t1, _, rfl, _, rfl, pp, _, _, _, rfl, rfl, SqL.of (s10 _ _ P7.1), at_of f0 u1, pdata c z, pdata c2 z2, dp_pair (s10 _ _ t7), dp_pair (s10 _ _ u4), shaped_pair c t3, shaped_pair c2 u3, rfl, _, rfl, ?_⟩
    rw [eqv_pair]
    refine iteNS rfl ?_
    exact ⟨s7.trans s10, _, _, rfl⟩
end
theorem all_mk {l : PySem.W.OpenLaw} {w : World} {K : PySem.W.Frag} {h : Heap} {mg : Str → Option Value} {fa f0 f1 f2 f3 f4 f5 f6 f7 : Addr} (X : K.In h) (G : h.Ns mainGlobals mg) (hfa : mg "law" = some (.ref fa))
    {od0 an0 od1 an1 od2 an2 od3 an3 od4 an4 od5 an5 od6 an6 od7 an7 : Option Addr} {sl0 sl1 sl2 sl3 sl4 sl5 sl6 sl7 : Array (Option Value)} {oc0 kV0 dc0 pm0 cd0 ct0 oc1 kV1 dc1 pm1 cd1 ct1 oc2 kV2 dc2 pm2 cd2 ct2 oc3 kV3 dc3 pm3 cd3 ct3 oc4 kV4 dc4 pm4 cd4 ct4 oc5 kV5 dc5 pm5 cd5 ct5 oc6 kV6 dc6 pm6 cd6 ct6 oc7 kV7 dc7 pm7 cd7 ct7 : Value}
    {C_Rank : Addr}
    {p_Rank_pair : Addr} {rest_Rank_pair : List Value}
    (a0 : PySem.W.nsIn K mainGlobals "_law_row" = some (some (.ref f0))) (l0 : K.lookup f0 = some ⟨oc0, od0, .func (PySem.W.fnOf "_law_row" "_law_row" (defArgs s_law_row) (defBody s_law_row) (defScope s_law_row) .none kV0 dc0 pm0 an0 cd0 ct0), sl0⟩) (c0 : PySem.W.codeIn K cd0 "_law_row" = true) (k0 : PySem.W.keepIn K (.ref f0) = true)
    (a1 : PySem.W.nsIn K mainGlobals "_law_next" = some (some (.ref f1))) (l1 : K.lookup f1 = some ⟨oc1, od1, .func (PySem.W.fnOf "_law_next" "_law_next" (defArgs s_law_next) (defBody s_law_next) (defScope s_law_next) .none kV1 dc1 pm1 an1 cd1 ct1), sl1⟩) (c1 : PySem.W.codeIn K cd1 "_law_next" = true) (k1 : PySem.W.keepIn K (.ref f1) = true)
    (a2 : PySem.W.nsIn K mainGlobals "_law_text" = some (some (.ref f2))) (l2 : K.lookup f2 = some ⟨oc2, od2, .func (PySem.W.fnOf "_law_text" "_law_text" (defArgs s_law_text) (defBody s_law_text) (defScope s_law_text) .none kV2 dc2 pm2 an2 cd2 ct2), sl2⟩) (c2 : PySem.W.codeIn K cd2 "_law_text" = true) (k2 : PySem.W.keepIn K (.ref f2) = true)
    (l3 : K.lookup f3 = some ⟨oc3, od3, .func (PySem.W.fnOf "__init__" "Rank.__init__" (defArgs s_Rank___init__) (defBody s_Rank___init__) (defScope s_Rank___init__) .none kV3 dc3 pm3 an3 cd3 ct3), sl3⟩) (c3 : PySem.W.codeIn K cd3 "Rank.__init__" = true) (k3 : PySem.W.keepIn K (.ref f3) = true)
    (l4 : K.lookup f4 = some ⟨oc4, od4, .func (PySem.W.fnOf "pair" "Rank.pair" (defArgs s_Rank_pair) (defBody s_Rank_pair) (defScope s_Rank_pair) .none kV4 dc4 pm4 an4 cd4 ct4), sl4⟩) (c4 : PySem.W.codeIn K cd4 "Rank.pair" = true) (k4 : PySem.W.keepIn K (.ref f4) = true)
    (l5 : K.lookup f5 = some ⟨oc5, od5, .func (PySem.W.fnOf "before" "Rank.before" (defArgs s_Rank_before) (defBody s_Rank_before) (defScope s_Rank_before) .none kV5 dc5 pm5 an5 cd5 ct5), sl5⟩) (c5 : PySem.W.codeIn K cd5 "Rank.before" = true) (k5 : PySem.W.keepIn K (.ref f5) = true)
    (l6 : K.lookup f6 = some ⟨oc6, od6, .func (PySem.W.fnOf "__eq__" "Rank.__eq__" (defArgs s_Rank___eq__) (defBody s_Rank___eq__) (defScope s_Rank___eq__) .none kV6 dc6 pm6 an6 cd6 ct6), sl6⟩) (c6 : PySem.W.codeIn K cd6 "Rank.__eq__" = true) (k6 : PySem.W.keepIn K (.ref f6) = true)
    (a7 : PySem.W.nsIn K mainGlobals "law" = some (some (.ref f7))) (l7 : K.lookup f7 = some ⟨oc7, od7, .func (PySem.W.fnOf "law" "law" (defArgs s_law) (defBody s_law) (defScope s_law) .none kV7 dc7 pm7 an7 cd7 ct7), sl7⟩) (c7 : PySem.W.codeIn K cd7 "law" = true) (k7 : PySem.W.keepIn K (.ref f7) = true)
    (aC_Rank : PySem.W.nsIn K mainGlobals "Rank" = some (some (.ref C_Rank)))
    (pg_Rank : PySem.W.plainGet K C_Rank Str.empty = true)
    (hd_Rank : PySem.W.hasDictIn K C_Rank = true)
    (po_Rank : PySem.W.plainOver K C_Rank = true)
    (sa_Rank : PySem.W.findIn K (.ref C_Rank) "__setattr__" = some (some (.builtin "object.__setattr__")))
    (n_Rank_cost : PySem.W.findIn K (.ref C_Rank) "cost" = some none)
    (n_Rank_name : PySem.W.findIn K (.ref C_Rank) "name" = some none)
    (mk_Rank : PySem.W.makesIn K C_Rank = true)
    (in_Rank : PySem.W.findIn K (.ref C_Rank) "__init__" = some (some (.ref f3)))
    (if_Rank : PySem.W.isFn K (.ref f3) = true)
    (kc_Rank : PySem.W.keepIn K (.ref C_Rank) = true)
    (fm_Rank_before : PySem.W.findIn K (.ref C_Rank) "before" = some (some (.ref f5)))
    (im_Rank_before : PySem.W.isFn K (.ref f5) = true)
    (fm_Rank___eq__ : PySem.W.findIn K (.ref C_Rank) "__eq__" = some (some (.ref f6)))
    (im_Rank___eq__ : PySem.W.isFn K (.ref f6) = true)
    (fp_Rank_pair : PySem.W.findIn K (.ref C_Rank) "pair" = some (some (.ref p_Rank_pair)))
    (gp_Rank_pair : PySem.W.specialIn K (.ref p_Rank_pair) "__get__" = some (some (.builtin "property.__get__")))
    (tp_Rank_pair : PySem.W.takesIn K (.ref p_Rank_pair) = some true)
    (rp_Rank_pair : PySem.W.recIn K p_Rank_pair "property" = some (.ref f4 :: rest_Rank_pair))
    (ha_Rank : PySem.W.findIn K (.ref C_Rank) "__class__" = some (some (.builtin "object.__class__")))
    (hm_Rank : PySem.W.mroIn K C_Rank (.type "object") = some true)
    (ic_Rank : PySem.W.isClsIn K C_Rank = true)
    (ty_Rank : PySem.W.typeIn K (.ref C_Rank) = some (.type "type"))
    (sb_tuple_Rank : PySem.W.subIn K (.type "tuple") (.ref C_Rank) = some false)
    (nf_Rank_tuple : PySem.W.subIn K (.type "tuple") (.ref C_Rank) = some false)
    (hn0 : PySem.W.specialIn K (.builtin "object.__class__") "__get__" = some (some (.builtin "getset_descriptor.__get__")))
    (ht0 : PySem.W.takesIn K (.builtin "object.__class__") = some true)
    (z_bool : PySem.W.nsIn K mainGlobals "bool" = some none)
    (z_int : PySem.W.nsIn K mainGlobals "int" = some none)
    (z_isinstance : PySem.W.nsIn K mainGlobals "isinstance" = some none)
    (z_len : PySem.W.nsIn K mainGlobals "len" = some none)
    (z_list : PySem.W.nsIn K mainGlobals "list" = some none)
    (z_range : PySem.W.nsIn K mainGlobals "range" = some none)
    (z_tuple : PySem.W.nsIn K mainGlobals "tuple" = some none)
    : ∃ fd : FuncData, (∀ (s : Shared) (v : Value), BindsTo s fd ⟨[v], []⟩ [("script", v)]) ∧ ∀ base : Heap, K.In base → base.Ns mainGlobals mg → FnOk l.prog w K mg base CX0 4 fa fd ["script"] (sp_law K) := by
  have e := hfa.symm.trans (PySem.W.mg_of X G a7)
  cases e
  have F0 := fun_mk (st := s_law_row) l0 c0 k0
  have b0 := F0.binds (ps := ["script", "k"]) fun _ _ _ _ _ _ us hl => match us, hl with | [_, _], _ => rfl
  have F1 := fun_mk (st := s_law_next) l1 c1 k1
  have b1 := F1.binds (ps := ["state", "many"]) fun _ _ _ _ _ _ us hl => match us, hl with | [_, _], _ => rfl
  have F2 := fun_mk (st := s_law_text) l2 c2 k2
  have b2 := F2.binds (ps := ["state"]) fun _ _ _ _ _ _ us hl => match us, hl with | [_], _ => rfl
  have F3 := fun_mk (st := s_Rank___init__) l3 c3 k3
  have b3 := F3.binds (ps := ["self", "cost", "name"]) fun _ _ _ _ _ _ us hl => match us, hl with | [_, _, _], _ => rfl
  have F4 := fun_mk (st := s_Rank_pair) l4 c4 k4
  have b4 := F4.binds (ps := ["self"]) fun _ _ _ _ _ _ us hl => match us, hl with | [_], _ => rfl
  have F5 := fun_mk (st := s_Rank_before) l5 c5 k5
  have b5 := F5.binds (ps := ["self", "other"]) fun _ _ _ _ _ _ us hl => match us, hl with | [_, _], _ => rfl
  have F6 := fun_mk (st := s_Rank___eq__) l6 c6 k6
  have b6 := F6.binds (ps := ["self", "other"]) fun _ _ _ _ _ _ us hl => match us, hl with | [_, _], _ => rfl
  have F7 := fun_mk (st := s_law) l7 c7 k7
  have b7 := F7.binds (ps := ["script"]) fun _ _ _ _ _ _ us hl => match us, hl with | [_], _ => rfl
  let T : Txt K mg := ⟨_, _, F0, b0, PySem.W.mg_of X G a0,
    _, _, F1, b1, PySem.W.mg_of X G a1,
    _, _, F2, b2, PySem.W.mg_of X G a2,
    _, _, F3, b3,
    _, _, F4, b4,
    _, _, F5, b5,
    _, _, F6, b6,
    _, _, F7, b7, PySem.W.mg_of X G a7,
    _, ⟨pg_Rank, hd_Rank, po_Rank, sa_Rank⟩, PySem.W.mg_of X G aC_Rank, n_Rank_cost, n_Rank_name, ⟨mk_Rank, in_Rank, if_Rank, kc_Rank⟩, ⟨fm_Rank_before, im_Rank_before, k5⟩, ⟨fm_Rank___eq__, im_Rank___eq__, k6⟩, _, ⟨fp_Rank_pair, gp_Rank_pair, tp_Rank_pair, ⟨_, rp_Rank_pair⟩⟩, ha_Rank, hm_Rank,
    kit_self,
    kit_sub ic_Rank ty_Rank sb_tuple_Rank (by rfl),
    nf_self,
    nf_sub nf_Rank_tuple,
    hn0,
    ht0,
    PySem.W.mg_none_of X G z_bool,
    PySem.W.mg_none_of X G z_int,
    PySem.W.mg_none_of X G z_isinstance,
    PySem.W.mg_none_of X G z_len,
    PySem.W.mg_none_of X G z_list,
    PySem.W.mg_none_of X G z_range,
    PySem.W.mg_none_of X G z_tuple⟩
  exact ⟨_, fun s v => .of_eq rfl, fun base _ _ => ok_law T⟩
end K04
open PySem PySem.W PyProof.Rows
set_option maxRecDepth 100000 in
set_option maxHeartbeats 0 in
theorem PySem.Challenge.cw_surenear_k04_ranks_holds : PySem.Challenge.rw_surenear_k04_ranks.Holds := by
  w_on; o_law; k_head; (case hw => w_witness2)
  k_fill
  refine L2.walk_of (l := PySem.Challenge.rw_surenear_k04_ranks) (n := 63) (k := 4) (x := "script") (CX := fun _ => L2.CX0) (sp := fun w => K04.sp_law _) rfl (by decide) rfl ⟨rfl, by decide, by decide⟩ (fun w h Y => PySem.W.kIn_of Y) ?F (fun _ _ a ns hl _ hS => ⟨a, ns, rfl, hS, hl, fun _ => rfl⟩) (fun _ _ _ _ _ h => h)
  case F =>
    intro w mg fa h KX G hmg
    refine' K04.all_mk KX G hmg (a0 := ?a0) (l0 := ?l0) (c0 := ?c0) (k0 := ?k0) (a1 := ?a1) (l1 := ?l1) (c1 := ?c1) (k1 := ?k1) (a2 := ?a2) (l2 := ?l2) (c2 := ?c2) (k2 := ?k2) (a7 := ?a7) (l7 := ?l7) (c7 := ?c7) (k7 := ?k7) (aC_Rank := ?aC_Rank) (pg_Rank := ?pg_Rank) (hd_Rank := ?hd_Rank) (po_Rank := ?po_Rank) (sa_Rank := ?sa_Rank) (n_Rank_cost := ?n_Rank_cost) (n_Rank_name := ?n_Rank_name) (mk_Rank := ?mk_Rank) (in_Rank := ?in_Rank) (if_Rank := ?if_Rank) (kc_Rank := ?kc_Rank) (fm_Rank_before := ?fm_Rank_before) (im_Rank_before := ?im_Rank_before) (fm_Rank___eq__ := ?fm_Rank___eq__) (im_Rank___eq__ := ?im_Rank___eq__) (fp_Rank_pair := ?fp_Rank_pair) (gp_Rank_pair := ?gp_Rank_pair) (tp_Rank_pair := ?tp_Rank_pair) (rp_Rank_pair := ?rp_Rank_pair) (ha_Rank := ?ha_Rank) (hm_Rank := ?hm_Rank) (ic_Rank := ?ic_Rank) (ty_Rank := ?ty_Rank) (sb_tuple_Rank := ?sb_tuple_Rank) (nf_Rank_tuple := ?nf_Rank_tuple) (hn0 := ?hn0) (ht0 := ?ht0) (l3 := ?l3) (c3 := ?c3) (k3 := ?k3) (l4 := ?l4) (c4 := ?c4) (k4 := ?k4) (l5 := ?l5) (c5 := ?c5) (k5 := ?k5) (l6 := ?l6) (c6 := ?c6) (k6 := ?k6) (z_bool := ?z_bool) (z_int := ?z_int) (z_isinstance := ?z_isinstance) (z_len := ?z_len) (z_list := ?z_list) (z_range := ?z_range) (z_tuple := ?z_tuple)
    (case a0 => k_is); (case l0 => k_is); (case c0 => k_is); (case k0 => k_is); (case a1 => k_is); (case l1 => k_is); (case c1 => k_is); (case k1 => k_is); (case a2 => k_is); (case l2 => k_is); (case c2 => k_is); (case k2 => k_is); (case a7 => k_is); (case l7 => k_is); (case c7 => k_is); (case k7 => k_is); (case aC_Rank => k_is); (case pg_Rank => k_is); (case hd_Rank => k_is); (case po_Rank => k_is); (case sa_Rank => k_is); (case n_Rank_cost => k_is); (case n_Rank_name => k_is); (case mk_Rank => k_is); (case in_Rank => k_is); (case if_Rank => k_is); (case kc_Rank => k_is); (case fm_Rank_before => k_is); (case im_Rank_before => k_is); (case fm_Rank___eq__ => k_is); (case im_Rank___eq__ => k_is); (case fp_Rank_pair => k_is); (case gp_Rank_pair => k_is); (case tp_Rank_pair => k_is); (case rp_Rank_pair => k_is); (case ha_Rank => k_is); (case hm_Rank => k_is); (case ic_Rank => k_is); (case ty_Rank => k_is); (case sb_tuple_Rank => k_is); (case nf_Rank_tuple => k_is); (case hn0 => k_is); (case ht0 => k_is); (case l3 => k_is); (case c3 => k_is); (case k3 => k_is); (case l4 => k_is); (case c4 => k_is); (case k4 => k_is); (case l5 => k_is); (case c5 => k_is); (case k5 => k_is); (case l6 => k_is); (case c6 => k_is); (case k6 => k_is); (case z_bool => k_is); (case z_int => k_is); (case z_isinstance => k_is); (case z_len => k_is); (case z_list => k_is); (case z_range => k_is); (case z_tuple => k_is)
