import PyProof.Rows.All
import KE.OsGo
import KE.OsArgs
import PySem.Challenge.RW_meanoffour_s01_qt_four
set_option Elab.async false
set_option maxHeartbeats 4000000
namespace My
def iab (v : Int) : Int := if v < 0 then -v else v
def ib (x : Int) : Nat := if x == 0 then 0 else x.natAbs.log2 + 1
@[irreducible] def expo (b : Int) : Int := b / 8388608 % 256
@[irreducible] def mag (b : Int) : Int := if 0 < expo b then (8388608 + b % 8388608) * 2 ^ (expo b - 1).toNat else b % 8388608
@[irreducible] def value (b : Int) : Int := if 2147483648 ≤ b then -(mag b) else mag b
@[irreducible] def surplus (v : Int) : Int := if (ib (iab v) : Int) - 24 > 0 then (ib (iab v) : Int) - 24 else 0
@[irreducible] def quo (v : Int) : Int := Int.fdiv v (2 ^ (surplus v).toNat)
@[irreducible] def down (v : Int) : Int := quo v * 2 ^ (surplus v).toNat
@[irreducible] def low (a b c d : Int) : Int := Int.fdiv (down (down (a + b) + down (c + d))) 4
@[irreducible] def high (a b c d : Int) : Int := -(low (-a) (-b) (-c) (-d))
@[irreducible] def body (v : Int) : Int := surplus v * 8388608 + Int.fdiv (iab v) (2 ^ (surplus v).toNat)
@[irreducible] def bitsOf (v : Int) : Int := if v < 0 then 2147483648 + body v else body v
@[irreducible] def mean (up a b c d : Int) : Int :=
  if up = 1 then bitsOf (high (value a) (value b) (value c) (value d)) else bitsOf (low (value a) (value b) (value c) (value d))

theorem cast_pow (k : Nat) : ((2 ^ k : Nat) : Int) = (2 : Int) ^ k := by
  induction k with
  | zero => rfl
  | succ n ih => rw [Nat.pow_succ, Int.pow_succ, ← ih]; omega
theorem pow_pos (k : Nat) : (0 : Int) < 2 ^ k := by
  rw [← cast_pow]
  have := Nat.two_pow_pos k
  omega

/-! the surplus -/
theorem ib_eq (v : Int) : ib (iab v) = Kp140.size v.natAbs := by
  unfold ib iab Kp140.size
  have e : (if v < 0 then -v else v).natAbs = v.natAbs := by split <;> omega
  rw [e]
  have h : ((if v < 0 then -v else v) == 0) = decide (v.natAbs = 0) := by
    rw [Bool.eq_iff_iff]
    simp only [beq_iff_eq, decide_eq_true_eq]
    split <;> omega
  rw [h]
  simp only [decide_eq_true_eq]
theorem surplus_nat (v : Int) : (surplus v).toNat = Kp140.size v.natAbs - 24 := by
  unfold surplus
  rw [ib_eq]
  split <;> omega
theorem surplus_nonneg (v : Int) : 0 ≤ surplus v := by
  unfold surplus
  split <;> omega
theorem surplus_eq (v : Int) : surplus v = ((Kp140.size v.natAbs - 24 : Nat) : Int) := by
  have h := surplus_nonneg v
  have e := surplus_nat v
  omega
theorem size_lt (n : Nat) : n < 2 ^ Kp140.size n := by
  unfold Kp140.size
  split
  · next h => subst h; decide
  · exact Nat.lt_log2_self
theorem size_le {n k : Nat} (h : n < 2 ^ k) : Kp140.size n ≤ k := by
  unfold Kp140.size
  split
  · omega
  · next h0 =>
    have := (Nat.log2_lt h0).mpr h
    omega
theorem size_low {n : Nat} (h : n ≠ 0) : 2 ^ (Kp140.size n - 1) ≤ n := by
  unfold Kp140.size
  rw [if_neg h]
  exact Nat.log2_self_le h
/-- the rest's room: |v| < 2^24 * 2^surplus; and 2^surplus ≤ |v| where there is a surplus -/
theorem surplus_room (v : Int) : v.natAbs < 16777216 * 2 ^ (surplus v).toNat := by
  rw [surplus_nat]
  have h := size_lt v.natAbs
  have e : (16777216 : Nat) = 2 ^ 24 := by decide
  rw [e, ← Nat.pow_add]
  exact Nat.lt_of_lt_of_le h (Nat.pow_le_pow_right (by decide) (by omega))
theorem surplus_small (v : Int) : (surplus v).toNat = 0 ∨ 2 ^ (surplus v).toNat ≤ v.natAbs := by
  rw [surplus_nat]
  by_cases h : Kp140.size v.natAbs ≤ 24
  · exact .inl (by omega)
  · refine .inr ?_
    have h0 : v.natAbs ≠ 0 := by
      intro e
      rw [e] at h
      exact h (by decide)
    exact Nat.le_trans (Nat.pow_le_pow_right (by decide) (by omega)) (size_low h0)
theorem pow300 : (2 : Nat) ^ 300 = 2037035976334486086268445688409378161051468393665936250636140449354381299763336706183397376 := by decide +kernel
theorem surplus_le {v : Int} (h1 : -2037035976334486086268445688409378161051468393665936250636140449354381299763336706183397376 < v) (h2 : v < 2037035976334486086268445688409378161051468393665936250636140449354381299763336706183397376) : surplus v ≤ 276 := by
  rw [surplus_eq]
  have : Kp140.size v.natAbs ≤ 300 := size_le (by rw [pow300]; omega)
  omega
theorem quo_eq (v : Int) : quo v = v / 2 ^ (surplus v).toNat := by
  unfold quo
  exact Int.fdiv_eq_ediv_of_nonneg _ (Int.le_of_lt (pow_pos _))
theorem quo_bound (v : Int) : -16777216 ≤ quo v ∧ quo v ≤ 16777216 := by
  rw [quo_eq]
  have h := surplus_room v
  have hp := pow_pos (surplus v).toNat
  have c := cast_pow (surplus v).toNat
  generalize hk : (2 : Int) ^ (surplus v).toNat = p at *
  generalize (2 : Nat) ^ (surplus v).toNat = q at *
  constructor
  · rw [Int.le_ediv_iff_mul_le hp]
    omega
  · have := (Int.ediv_lt_iff_lt_mul (a := v) (b := 16777216) hp).mpr (by omega)
    omega
theorem down_bound (v : Int) : down v ≤ v ∧ (0 ≤ v → 0 ≤ down v) ∧ (v < 0 → 2 * v ≤ down v) := by
  unfold down
  rw [quo_eq]
  have hs := surplus_small v
  have hp := pow_pos (surplus v).toNat
  have c := cast_pow (surplus v).toNat
  rcases hs with h0 | h1
  · rw [h0]
    simp
    omega
  generalize hk : (2 : Int) ^ (surplus v).toNat = p at *
  generalize (2 : Nat) ^ (surplus v).toNat = q at *
  have m := Int.emod_def v p
  have m1 := Int.emod_nonneg v (show p ≠ 0 by omega)
  have m2 := Int.emod_lt_of_pos v hp
  rw [Int.mul_comm (v / p) p]
  refine ⟨by omega, fun h => ?_, fun h => by omega⟩
  exact Int.mul_nonneg (by omega) (Int.ediv_nonneg h (by omega))
theorem expo_bound (b : Int) : 0 ≤ expo b ∧ expo b ≤ 255 := by
  unfold expo
  omega
theorem mag_bound (b : Int) : 0 ≤ mag b ∧ mag b < 1942668892225729070919461906823518906642406839052139521251812409738904285205208498176 := by
  unfold mag
  split
  · have h := expo_bound b
    have hp := pow_pos (expo b - 1).toNat
    refine ⟨Int.mul_nonneg (by omega) (by omega), ?_⟩
    have h1 : (2 : Nat) ^ (expo b - 1).toNat ≤ 2 ^ 254 := Nat.pow_le_pow_right (by decide) (by omega)
    have h2 : (2 : Int) ^ (expo b - 1).toNat ≤ 2 ^ 254 := by
      rw [← cast_pow, ← cast_pow]
      exact Int.ofNat_le.mpr h1
    have h3 : (8388608 + b % 8388608) * 2 ^ (expo b - 1).toNat ≤ 16777216 * 2 ^ (expo b - 1).toNat := Int.mul_le_mul_of_nonneg_right (by omega) (by omega)
    have h4 : (16777216 : Int) * 2 ^ 254 < 1942668892225729070919461906823518906642406839052139521251812409738904285205208498176 := by decide +kernel
    omega
  · omega
theorem value_bound (b : Int) : -1942668892225729070919461906823518906642406839052139521251812409738904285205208498176 < value b ∧ value b < 1942668892225729070919461906823518906642406839052139521251812409738904285205208498176 := by
  have := mag_bound b
  unfold value
  split <;> omega

/-! the spec's own -/
theorem down_eq (v : Int) : down v = Kp140.down v := by
  unfold down quo Kp140.down
  rw [surplus_nat]
theorem low_eq (a b c d : Int) : low a b c d = Kp140.low a b c d := by
  unfold low Kp140.low Kp140.quarterDown
  rw [down_eq, down_eq, down_eq]
theorem high_eq (a b c d : Int) : high a b c d = Kp140.high a b c d := by
  unfold high Kp140.high Kp140.quarterUp Kp140.up Kp140.quarterDown low
  rw [down_eq, down_eq, down_eq, Int.neg_neg]
  have e1 : -a + -b = -(a + b) := by omega
  have e2 : -c + -d = -(c + d) := by omega
  rw [e1, e2]
  have e3 : -(-Kp140.down (-(a + b)) + -Kp140.down (-(c + d))) = Kp140.down (-(a + b)) + Kp140.down (-(c + d)) := by omega
  rw [e3]
theorem bitsOf_eq (v : Int) : bitsOf v = (Kp140.bitsOf v : Int) := by
  unfold bitsOf body Kp140.bitsOf
  rw [surplus_nat, surplus_eq]
  have e : Int.fdiv (iab v) (2 ^ (Kp140.size v.natAbs - 24)) = ((v.natAbs / 2 ^ (Kp140.size v.natAbs - 24) : Nat) : Int) := by
    rw [Int.fdiv_eq_ediv_of_nonneg _ (Int.le_of_lt (pow_pos _)), Int.natCast_ediv, cast_pow]
    have : iab v = (v.natAbs : Int) := by unfold iab; split <;> omega
    rw [this]
  rw [e]
  dsimp only
  split <;> omega
theorem value_eq {b : Int} (h0 : 0 ≤ b) (h1 : b ≤ 4294967295) : value b = Kp140.val b.toNat := by
  unfold value mag Kp140.val
  dsimp only
  have e1 : expo b = ((b.toNat / 8388608 % 256 : Nat) : Int) := by unfold expo; omega
  have e2 : b % 8388608 = ((b.toNat % 8388608 : Nat) : Int) := by omega
  rw [e1, e2]
  generalize hE : b.toNat / 8388608 % 256 = E
  generalize hF : b.toNat % 8388608 = F
  have e3 : ((E : Int) - 1).toNat = E - 1 := by omega
  rw [e3]
  have m : (if (0 : Int) < (E : Int) then (8388608 + (F : Int)) * 2 ^ (E - 1) else (F : Int)) = (if E = 0 then (F : Int) else ((8388608 + F : Nat) : Int) * 2 ^ (E - 1)) := by
    by_cases z : E = 0
    · rw [if_neg (by omega), if_pos z]
    · rw [if_pos (by omega), if_neg z]
      rfl
  rw [m]
  by_cases s : 2147483648 ≤ b
  · rw [if_pos s, if_pos (show b.toNat / 2147483648 % 2 = 1 by omega)]
  · rw [if_neg s, if_neg (show ¬ b.toNat / 2147483648 % 2 = 1 by omega)]
theorem mean_eq {up a b c d : Int} (hu0 : 0 ≤ up) (hu : up ≤ 1) (a0 : 0 ≤ a) (a1 : a ≤ 4294967295) (b0 : 0 ≤ b) (b1 : b ≤ 4294967295) (c0 : 0 ≤ c) (c1 : c ≤ 4294967295) (d0 : 0 ≤ d) (d1 : d ≤ 4294967295) :
    mean up a b c d = (Kp140.one up.toNat a.toNat b.toNat c.toNat d.toNat : Int) := by
  unfold mean Kp140.one
  rw [value_eq a0 a1, value_eq b0 b1, value_eq c0 c1, value_eq d0 d1]
  by_cases u : up = 1
  · rw [if_pos u, if_neg (by omega), bitsOf_eq, high_eq]
  · rw [if_neg u, if_pos (by omega), bitsOf_eq, low_eq]
end My
namespace My
@[irreducible] def allR (row : List Int) : Bool := row.all fun b => decide (expo b ≤ 226)
@[irreducible] def refused (up : Int) (a b c d : List Int) : Bool :=
  if (a.length : Int) < 1 ∨ 4096 < (a.length : Int) ∨ 1 < up then true else !(allR a && allR b && allR c && allR d)
def meanAt (up : Int) (a b c d : List Int) (i : Nat) : Int := mean up (a.getD i 0) (b.getD i 0) (c.getD i 0) (d.getD i 0)
def toldOf (up : Int) (a b c d : List Int) (n : Nat) : List Int := [1, (a.length : Int)] ++ (List.range n).map (meanAt up a b c d)

def Bits (l : List Int) : Prop := ∀ x ∈ l, 0 ≤ x ∧ x ≤ 4294967295
theorem getD_bits {l : List Int} (h : Bits l) (i : Nat) : 0 ≤ l.getD i 0 ∧ l.getD i 0 ≤ 4294967295 := by
  rw [List.getD_eq_getElem?_getD]
  by_cases hi : i < l.length
  · rw [List.getElem?_eq_getElem hi]
    exact h _ (List.getElem_mem hi)
  · rw [List.getElem?_eq_none (by omega)]
    exact ⟨by decide, by decide⟩
theorem nats_getD (l : List Int) (i : Nat) : (Kp140Neutral.nats l).getD i 0 = (l.getD i 0).toNat := by
  unfold Kp140Neutral.nats
  rw [List.getD_eq_getElem?_getD, List.getD_eq_getElem?_getD, List.getElem?_map]
  cases l[i]? <;> rfl
theorem right_eq {x : Int} (h : 0 ≤ x) : Kp140.right x.toNat = decide (expo x ≤ 226) := by
  unfold Kp140.right expo
  rw [Bool.eq_iff_iff]
  simp only [decide_eq_true_eq]
  obtain ⟨n, rfl⟩ := Int.eq_ofNat_of_zero_le h
  rw [Int.toNat_natCast]
  omega
theorem right_all : ∀ {l : List Int}, Bits l → (Kp140Neutral.nats l).all Kp140.right = allR l
  | [], _ => by unfold allR; rfl
  | x :: r, h => by
    have e := right_all (l := r) fun y hy => h y (List.mem_cons_of_mem _ hy)
    have e1 := right_eq (h x List.mem_cons_self).1
    have e2 : allR (x :: r) = (decide (expo x ≤ 226) && allR r) := by
      unfold allR
      rfl
    rw [e2]
    show (Kp140.right x.toNat && (Kp140Neutral.nats r).all Kp140.right) = (decide (expo x ≤ 226) && allR r)
    rw [e, e1]
theorem allRight_eq {a b c d : List Int} (ha : Bits a) (hb : Bits b) (hc : Bits c) (hd : Bits d) :
    Kp140.allRight ⟨Kp140Neutral.nats a, Kp140Neutral.nats b, Kp140Neutral.nats c, Kp140Neutral.nats d⟩ = (allR a && allR b && allR c && allR d) := by
  unfold Kp140.allRight
  simp only [List.all_append, right_all ha, right_all hb, right_all hc, right_all hd]
theorem spec_refused {up : Int} {a b c d : List Int} (hu : 0 ≤ up) (ha : Bits a) (hb : Bits b) (hc : Bits c) (hd : Bits d)
    (h : refused up a b c d = true) : PyKp140.qt_four up a b c d = [0, -22] := by
  show Kp140Neutral.told (Kp140.answer (.four (if 1 ≤ a.length ∧ a.length ≤ Kp140.MOST then some ⟨Kp140Neutral.nats a, Kp140Neutral.nats b, Kp140Neutral.nats c, Kp140Neutral.nats d⟩ else none) a.length up.toNat)) = _
  have hM : Kp140.MOST = 4096 := rfl
  by_cases hn : 1 ≤ a.length ∧ a.length ≤ Kp140.MOST
  · rw [if_pos hn]
    have key : 1 < up.toNat ∨ Kp140.allRight ⟨Kp140Neutral.nats a, Kp140Neutral.nats b, Kp140Neutral.nats c, Kp140Neutral.nats d⟩ = false := by
      unfold refused at h
      split at h
      · exact .inl (by omega)
      · rw [allRight_eq ha hb hc hd]
        refine .inr ?_
        cases q : (allR a && allR b && allR c && allR d)
        · rfl
        · rw [q] at h
          cases h
    show Kp140Neutral.told (if 1 < up.toNat ∨ _ then _ else _) = _
    rw [if_pos key]
    rfl
  · rw [if_neg hn]
    rfl
theorem spec_told {up : Int} {a b c d : List Int} (hu : 0 ≤ up) (ha : Bits a) (hb : Bits b) (hc : Bits c) (hd : Bits d)
    (h : refused up a b c d = false) : PyKp140.qt_four up a b c d = toldOf up a b c d a.length := by
  show Kp140Neutral.told (Kp140.answer (.four (if 1 ≤ a.length ∧ a.length ≤ Kp140.MOST then some ⟨Kp140Neutral.nats a, Kp140Neutral.nats b, Kp140Neutral.nats c, Kp140Neutral.nats d⟩ else none) a.length up.toNat)) = _
  have hM : Kp140.MOST = 4096 := rfl
  unfold refused at h
  split at h
  · cases h
  · next hn =>
    have hR : (allR a && allR b && allR c && allR d) = true := by simpa using h
    rw [if_pos (show 1 ≤ a.length ∧ a.length ≤ Kp140.MOST by omega)]
    show Kp140Neutral.told (if 1 < up.toNat ∨ _ then _ else _) = _
    rw [if_neg (by rw [allRight_eq ha hb hc hd, hR]; simp; omega)]
    unfold toldOf Kp140Neutral.told Kp140Neutral.outs
    dsimp only
    rw [List.length_map, List.length_range, List.map_map]
    refine congrArg ([1, (a.length : Int)] ++ ·) (List.map_congr_left fun i _ => ?_)
    show ((Kp140.one up.toNat ((Kp140Neutral.nats a).getD i 0) ((Kp140Neutral.nats b).getD i 0) ((Kp140Neutral.nats c).getD i 0) ((Kp140Neutral.nats d).getD i 0) : Nat) : Int) = _
    rw [nats_getD, nats_getD, nats_getD, nats_getD]
    have qa := getD_bits ha i
    have qb := getD_bits hb i
    have qc := getD_bits hc i
    have qd := getD_bits hd i
    exact (mean_eq hu (by omega) qa.1 qa.2 qb.1 qb.2 qc.1 qc.2 qd.1 qd.2).symm
theorem asked_lens {up : Int} {a b c d : List Int} (h : PyKp140.qt_four_asked up a b c d = true) : b.length = a.length ∧ c.length = a.length ∧ d.length = a.length := by
  have h' : Kp140Neutral.asked1 [[0, up], a, b, c, d] = true := h
  unfold Kp140Neutral.asked1 at h'
  simp only [Bool.and_eq_true, decide_eq_true_eq] at h'
  exact ⟨h'.2.2.2.2.2.1, h'.2.2.2.2.2.2.1, h'.2.2.2.2.2.2.2⟩
theorem asked_bits {up : Int} {a b c d : List Int} (h : PyKp140.qt_four_asked up a b c d = true) : 0 ≤ up ∧ Bits a ∧ Bits b ∧ Bits c ∧ Bits d := by
  have h' : Kp140Neutral.asked1 [[0, up], a, b, c, d] = true := h
  unfold Kp140Neutral.asked1 at h'
  simp only [Bool.and_eq_true, decide_eq_true_eq, List.all_eq_true, Kp140Neutral.natural] at h'
  obtain ⟨hu, ha, hb, hc, hd, _⟩ := h'
  exact ⟨hu.1, fun x hx => by have := ha x hx; omega, fun x hx => by have := hb x hx; omega, fun x hx => by have := hc x hx; omega, fun x hx => by have := hd x hx; omega⟩
/-! the loop's word -/
structure Told (up : Int) (a b c d pre out : List Int) : Prop where
  eq : out = toldOf up a b c d pre.length
theorem told_start (up : Int) (a b c d : List Int) : Told up a b c d [] [1, (a.length : Int)] := ⟨rfl⟩
theorem told_turn {up : Int} {a b c d pre out : List Int} {k : Int} (T : Told up a b c d pre out) (hk : k = 0 + (pre.length : Int)) :
    Told up a b c d (pre ++ [k]) (out ++ [mean up (a.getD k.toNat 0) (b.getD k.toNat 0) (c.getD k.toNat 0) (d.getD k.toNat 0)]) := by
  refine ⟨?_⟩
  have e : k.toNat = pre.length := by omega
  rw [T.eq, e]
  unfold toldOf
  rw [List.length_append, List.length_singleton, List.range_succ, List.map_append, ← List.append_assoc]
  rfl
theorem told_length {up : Int} {a b c d pre out : List Int} (T : Told up a b c d pre out) : out.length = pre.length + 2 := by
  rw [T.eq]
  unfold toldOf
  simp
end My
namespace My
open PySem PySem.W PySem.Calls PyProof.Rows
theorem said : PySem.Challenge.rw_meanoffour_s01_qt_four.wellSaid = true := by decide +kernel
/-! the request -/
theorem facts {up : Int} {a b c d : List Int}
    (h : PySem.Challenge.rw_meanoffour_s01_qt_four.pre [WData.int up, ofPy (.list (a.map PyData.int)), ofPy (.list (b.map PyData.int)), ofPy (.list (c.map PyData.int)), ofPy (.list (d.map PyData.int))] = true) :
    PyKp140.qt_four_asked up a b c d = true ∧ a.length ≤ 4200 := by
  obtain ⟨v, w, q, e⟩ := os_pre said h
  obtain ⟨u, p, r, s, t, z⟩ := v
  have e1 := os_j_int (List.cons.inj e).1
  have e2 := os_j_ints (List.cons.inj (List.cons.inj e).2).1
  have e3 := os_j_ints (List.cons.inj (List.cons.inj (List.cons.inj e).2).2).1
  have e4 := os_j_ints (List.cons.inj (List.cons.inj (List.cons.inj (List.cons.inj e).2).2).2).1
  have e5 := os_j_ints (List.cons.inj (List.cons.inj (List.cons.inj (List.cons.inj (List.cons.inj e).2).2).2).2).1
  subst e1 e2 e3 e4 e5
  refine ⟨q, ?_⟩
  have w1 := (Bool.and_eq_true_iff.mp (show (_ && _) = true from w)).2
  have w2 := (Bool.and_eq_true_iff.mp (show (_ && _) = true from w1)).1
  have w3 := (Bool.and_eq_true_iff.mp (show (_ && _) = true from w2)).1
  have w4 : Codec.inNat 0 4200 a.length = true := w3
  unfold Codec.inNat at w4
  simp only [Bool.and_eq_true, decide_eq_true_eq] at w4
  exact w4.2
theorem lens {up : Int} {a b c d : List Int}
    (h : PySem.Challenge.rw_meanoffour_s01_qt_four.pre [WData.int up, ofPy (.list (a.map PyData.int)), ofPy (.list (b.map PyData.int)), ofPy (.list (c.map PyData.int)), ofPy (.list (d.map PyData.int))] = true) :
    0 ≤ up ∧ a.length ≤ 4200 ∧ b.length = a.length ∧ c.length = a.length ∧ d.length = a.length :=
  ⟨(asked_bits (facts h).1).1, (facts h).2, asked_lens (facts h).1⟩
/-! the steps -/
theorem mask8 (x : Int) : Builtin.bitAnd x 255 = x % 256 := kbt_mask x 8
theorem mask23 (x : Int) : Builtin.bitAnd x 8388607 = x % 8388608 := kbt_mask x 23
section
variable {prog : Program} {w : World} {A : Around} {E : Value → Shared → Prop} {s : Shared} {x y n v : Int} {t u : Tok} {Q : Value → Shared → Prop}
theorem step_and8 (h : Q (.int (x % 256) s.toks) { s with toks := s.toks + 1 }) : wpAny (model prog w) A (binaryOp .BitAnd (.int x t) (.int 255 u)) Q E s := by
  refine PyProof.Rows.and_int ?_
  rw [mask8]
  exact h
theorem step_and23 (h : Q (.int (x % 8388608) s.toks) { s with toks := s.toks + 1 }) : wpAny (model prog w) A (binaryOp .BitAnd (.int x t) (.int 8388607 u)) Q E s := by
  refine PyProof.Rows.and_int ?_
  rw [mask23]
  exact h
theorem step_shr23 (h : Q (.int (x / 8388608) s.toks) { s with toks := s.toks + 1 }) : wpAny (model prog w) A (binaryOp .RShift (.int x t) (.int 23 u)) Q E s := by
  have e : (2 : Int) ^ (23 : Int).toNat = 8388608 := by decide
  refine PyProof.Rows.rshift_int (by decide) ?_
  rw [e, Int.fdiv_eq_ediv_of_nonneg x (by decide)]
  exact h
theorem step_shr2 (h : Q (.int (Int.fdiv x 4) s.toks) { s with toks := s.toks + 1 }) : wpAny (model prog w) A (binaryOp .RShift (.int x t) (.int 2 u)) Q E s := by
  have e : (2 : Int) ^ (2 : Int).toNat = 4 := by decide
  refine PyProof.Rows.rshift_int (by decide) ?_
  rw [e]
  exact h
theorem step_shrs (h : Q (.int (quo v) s.toks) { s with toks := s.toks + 1 }) : wpAny (model prog w) A (binaryOp .RShift (.int v t) (.int (surplus v) u)) Q E s :=
  PyProof.Rows.rshift_int (surplus_nonneg v) (by unfold quo at h; exact h)
theorem step_shra (h : Q (.int (Int.fdiv (iab v) (2 ^ (surplus v).toNat)) s.toks) { s with toks := s.toks + 1 }) : wpAny (model prog w) A (binaryOp .RShift (.int (if v < 0 then -v else v) t) (.int (surplus v) u)) Q E s :=
  PyProof.Rows.rshift_int (surplus_nonneg v) h
theorem step_shls (hv : surplus v ≤ 1000000) (h : Q (.int (down v) s.toks) { s with toks := s.toks + 1 }) : wpAny (model prog w) A (binaryOp .LShift (.int (quo v) t) (.int (surplus v) u)) Q E s := by
  have q := quo_bound v
  unfold down at h
  exact PyProof.Rows.lshift_int_small (surplus_nonneg v) hv (by omega) h
theorem step_shl23 (h0 : 0 ≤ x) (h1 : x ≤ 1000000) (h : Q (.int (x * 8388608) s.toks) { s with toks := s.toks + 1 }) : wpAny (model prog w) A (binaryOp .LShift (.int x t) (.int 23 u)) Q E s := by
  have e : (2 : Int) ^ (23 : Int).toNat = 8388608 := by decide
  refine PyProof.Rows.lshift_int_small (by decide) (by decide) (by omega) ?_
  rw [e]
  exact h
theorem step_shle (h0 : 0 ≤ n) (h1 : n ≤ 1000000) (hx0 : 0 ≤ x) (hx : x ≤ 100000000) (h : Q (.int (x * 2 ^ n.toNat) s.toks) { s with toks := s.toks + 1 }) : wpAny (model prog w) A (binaryOp .LShift (.int x t) (.int n u)) Q E s :=
  PyProof.Rows.lshift_int_small h0 h1 (by omega) h
end
/-! the facts of the defs -/
theorem fact_surplus (v : Int) : 0 ≤ surplus v ∧ (surplus v ≤ 276 ∨ v ≤ -2037035976334486086268445688409378161051468393665936250636140449354381299763336706183397376 ∨ 2037035976334486086268445688409378161051468393665936250636140449354381299763336706183397376 ≤ v) := by
  refine ⟨surplus_nonneg v, ?_⟩
  by_cases h1 : v ≤ -2037035976334486086268445688409378161051468393665936250636140449354381299763336706183397376
  · exact .inr (.inl h1)
  by_cases h2 : 2037035976334486086268445688409378161051468393665936250636140449354381299763336706183397376 ≤ v
  · exact .inr (.inr h2)
  exact .inl (surplus_le (by omega) (by omega))
theorem fact_down (v : Int) : down v ≤ v ∧ (0 ≤ down v ∨ 2 * v ≤ down v) := by
  have h := down_bound v
  omega
theorem fdiv4 (x : Int) : Int.fdiv x 4 = x / 4 := Int.fdiv_eq_ediv_of_nonneg x (by decide)
theorem fact_low (a b c d : Int) : 4 * low a b c d ≤ a + b + c + d ∧ (-1 ≤ low a b c d ∨ a + b - 1 ≤ low a b c d ∨ c + d - 1 ≤ low a b c d ∨ a + b + c + d - 1 ≤ low a b c d) := by
  unfold low
  rw [fdiv4]
  have e1 := fact_down (a + b)
  have e2 := fact_down (c + d)
  have e3 := fact_down (down (a + b) + down (c + d))
  omega
theorem fact_high (a b c d : Int) : a + b + c + d ≤ 4 * high a b c d ∧ (high a b c d ≤ 1 ∨ high a b c d ≤ a + b + 1 ∨ high a b c d ≤ c + d + 1 ∨ high a b c d ≤ a + b + c + d + 1) := by
  have h := fact_low (-a) (-b) (-c) (-d)
  unfold high
  omega
/-! the ways' ends -/
theorem t_expo {b : Int} : b / 8388608 % 256 = expo b := by
  unfold expo
  rfl
theorem t_surplus {v : Int} : (if ((Builtin.Int.intBits (if v < 0 then -v else v) : Nat) : Int) - 24 > 0 then ((Builtin.Int.intBits (if v < 0 then -v else v) : Nat) : Int) - 24 else 0) = surplus v := by
  unfold surplus
  rfl
theorem t_low {a b c d : Int} : Int.fdiv (down (down (a + b) + down (c + d))) 4 = low a b c d := by
  unfold low
  rfl
theorem t_high {a b c d : Int} : -(low (-a) (-b) (-c) (-d)) = high a b c d := by
  unfold high
  rfl
theorem t_value1 {b : Int} (he : 0 < expo b) (hs : 2147483648 ≤ b) : -((8388608 + b % 8388608) * 2 ^ (expo b - 1).toNat) = value b := by
  unfold value mag
  rw [if_pos hs, if_pos he]
theorem t_value2 {b : Int} (he : 0 < expo b) (hs : ¬ 2147483648 ≤ b) : (8388608 + b % 8388608) * 2 ^ (expo b - 1).toNat = value b := by
  unfold value mag
  rw [if_neg hs, if_pos he]
theorem t_value3 {b : Int} (he : ¬ 0 < expo b) (hs : 2147483648 ≤ b) : -(b % 8388608) = value b := by
  unfold value mag
  rw [if_pos hs, if_neg he]
theorem t_value4 {b : Int} (he : ¬ 0 < expo b) (hs : ¬ 2147483648 ≤ b) : b % 8388608 = value b := by
  unfold value mag
  rw [if_neg hs, if_neg he]
theorem t_bits1 {v : Int} (h : v < 0) : 2147483648 + (surplus v * 8388608 + Int.fdiv (iab v) (2 ^ (surplus v).toNat)) = bitsOf v := by
  unfold bitsOf body
  rw [if_pos h]
theorem t_bits2 {v : Int} (h : ¬ v < 0) : surplus v * 8388608 + Int.fdiv (iab v) (2 ^ (surplus v).toNat) = bitsOf v := by
  unfold bitsOf body
  rw [if_neg h]
theorem t_mean1 {up a b c d : Int} (h : up = 1) : bitsOf (high (value a) (value b) (value c) (value d)) = mean up a b c d := by
  unfold mean
  rw [if_pos h]
theorem t_mean2 {up a b c d : Int} (h : ¬ up = 1) : bitsOf (low (value a) (value b) (value c) (value d)) = mean up a b c d := by
  unfold mean
  rw [if_neg h]
theorem t_right {l : List Int} (h : ∀ b ∈ l, expo b ≤ 226) : true = allR l := by
  unfold allR
  rw [eq_comm, List.all_eq_true]
  intro x hx
  exact decide_eq_true (h x hx)
theorem t_wrong {l : List Int} {x : Int} (hx : x ∈ l) (h : 226 < expo x) : false = allR l := by
  unfold allR
  rw [eq_comm, List.all_eq_false]
  exact ⟨x, hx, by simp; omega⟩
/-! the loop: its word names the lists by the request's premise -/
structure ToldH {up : Int} {a b c d : List Int}
    (_ : PySem.Challenge.rw_meanoffour_s01_qt_four.pre [WData.int up, ofPy (.list (a.map PyData.int)), ofPy (.list (b.map PyData.int)), ofPy (.list (c.map PyData.int)), ofPy (.list (d.map PyData.int))] = true)
    (pre out : List Int) : Prop where
  told : Told up a b c d pre out
section
variable {up : Int} {a b c d : List Int}
  {h : PySem.Challenge.rw_meanoffour_s01_qt_four.pre [WData.int up, ofPy (.list (a.map PyData.int)), ofPy (.list (b.map PyData.int)), ofPy (.list (c.map PyData.int)), ofPy (.list (d.map PyData.int))] = true}
theorem start3 : ([1, (a.length : Int)] : List Int).length = ([] : List Int).length + 2 ∧ ToldH h [] [1, (a.length : Int)] := ⟨rfl, ⟨told_start up a b c d⟩⟩
theorem turn3 {pre out : List Int} {k : Int} (T : ToldH h pre out) (hk : k = 0 + (pre.length : Int)) :
    (out ++ [mean up (a.getD k.toNat 0) (b.getD k.toNat 0) (c.getD k.toNat 0) (d.getD k.toNat 0)]).length = (pre ++ [k]).length + 2 ∧
    ToldH h (pre ++ [k]) (out ++ [mean up (a.getD k.toNat 0) (b.getD k.toNat 0) (c.getD k.toNat 0) (d.getD k.toNat 0)]) := by
  refine ⟨?_, ⟨told_turn T.told hk⟩⟩
  have e := told_length T.told
  simp only [List.length_append, List.length_singleton]
  omega
/-! the two ends -/
theorem end_refused (k : PySem.Challenge.rw_meanoffour_s01_qt_four.pre [WData.int up, ofPy (.list (a.map PyData.int)), ofPy (.list (b.map PyData.int)), ofPy (.list (c.map PyData.int)), ofPy (.list (d.map PyData.int))] = true)
    (hr : refused up a b c d = true) : [0, -22] = PyKp140.qt_four up a b c d := by
  have q := asked_bits (facts k).1
  exact (spec_refused q.1 q.2.1 q.2.2.1 q.2.2.2.1 q.2.2.2.2 hr).symm
theorem end_told {out : List Int} {m : Nat} (T : ToldH h (rangeKs 0 m) out) (hm : m = a.length) (hr : refused up a b c d = false) : out = PyKp140.qt_four up a b c d := by
  have q := asked_bits (facts h).1
  rw [spec_told q.1 q.2.1 q.2.2.1 q.2.2.2.1 q.2.2.2.2 hr, T.told.eq, rangeKs_length, hm]
/-! the answers -/
theorem fin (k : PySem.Challenge.rw_meanoffour_s01_qt_four.pre [WData.int up, ofPy (.list (a.map PyData.int)), ofPy (.list (b.map PyData.int)), ofPy (.list (c.map PyData.int)), ofPy (.list (d.map PyData.int))] = true)
    {out : List Int} (hout : out = PyKp140.qt_four up a b c d) :
    PySem.Challenge.rw_meanoffour_s01_qt_four.post [WData.int up, ofPy (.list (a.map PyData.int)), ofPy (.list (b.map PyData.int)), ofPy (.list (c.map PyData.int)), ofPy (.list (d.map PyData.int))] (WData.list (out.map WData.int)) = true := by
  obtain ⟨v, w, q, e⟩ := os_pre said k
  rw [e]
  refine os_shut said w ?_
  obtain ⟨u, p, r, s, t, z⟩ := v
  have e1 := os_j_int (List.cons.inj e).1
  have e2 := os_j_ints (List.cons.inj (List.cons.inj e).2).1
  have e3 := os_j_ints (List.cons.inj (List.cons.inj (List.cons.inj e).2).2).1
  have e4 := os_j_ints (List.cons.inj (List.cons.inj (List.cons.inj (List.cons.inj e).2).2).2).1
  have e5 := os_j_ints (List.cons.inj (List.cons.inj (List.cons.inj (List.cons.inj (List.cons.inj e).2).2).2).2).1
  subst e1 e2 e3 e4 e5
  show WData.list (out.map WData.int) = WData.list ((PyKp140.qt_four up a b c d).map WData.int)
  rw [hout]
theorem fin_refused (k : PySem.Challenge.rw_meanoffour_s01_qt_four.pre [WData.int up, ofPy (.list (a.map PyData.int)), ofPy (.list (b.map PyData.int)), ofPy (.list (c.map PyData.int)), ofPy (.list (d.map PyData.int))] = true)
    (hr : refused up a b c d = true) :
    PySem.Challenge.rw_meanoffour_s01_qt_four.post [WData.int up, ofPy (.list (a.map PyData.int)), ofPy (.list (b.map PyData.int)), ofPy (.list (c.map PyData.int)), ofPy (.list (d.map PyData.int))] (ofPy (PyData.list [PyData.int 0, PyData.int (-22)])) = true := by
  have e0 : ofPy (PyData.list [PyData.int 0, PyData.int (-22)]) = WData.list (([0, -22] : List Int).map WData.int) := os_list rfl
  rw [e0]
  exact fin k (end_refused k hr)
theorem fin_told {out : List Int} {m : Nat} (T : ToldH h (rangeKs 0 m) out) (hm : m = a.length) (hr : refused up a b c d = false) :
    PySem.Challenge.rw_meanoffour_s01_qt_four.post [WData.int up, ofPy (.list (a.map PyData.int)), ofPy (.list (b.map PyData.int)), ofPy (.list (c.map PyData.int)), ofPy (.list (d.map PyData.int))] (WData.list (ofPys (out.map PyData.int))) = true := by
  rw [os_ofPys_ints]
  exact fin h (end_told T hm hr)
end
end My
open PySem PySem.W PyProof.Rows
local macro_rules | `(tactic| walk_at "binaryOp BitAnd int int") => `(tactic| (k_here; (with_reducible show wpAny _ _ (binaryOp Operator.BitAnd (Value.int _ _) (Value.int 255 _)) _ _ _); k_dflt (refine My.step_and8 ?_)))
local macro_rules | `(tactic| walk_at "binaryOp BitAnd int int") => `(tactic| (k_here; (with_reducible show wpAny _ _ (binaryOp Operator.BitAnd (Value.int _ _) (Value.int 8388607 _)) _ _ _); k_dflt (refine My.step_and23 ?_)))
local macro_rules | `(tactic| walk_at "binaryOp RShift int int") => `(tactic| (k_here; (with_reducible show wpAny _ _ (binaryOp Operator.RShift (Value.int _ _) (Value.int 23 _)) _ _ _); k_dflt (refine My.step_shr23 ?_)))
local macro_rules | `(tactic| walk_at "binaryOp RShift int int") => `(tactic| (k_here; (with_reducible show wpAny _ _ (binaryOp Operator.RShift (Value.int _ _) (Value.int 2 _)) _ _ _); k_dflt (refine My.step_shr2 ?_)))
local macro_rules | `(tactic| walk_at "binaryOp RShift int int") => `(tactic| (k_here; (with_reducible refine My.step_shrs ?_)))
local macro_rules | `(tactic| walk_at "binaryOp RShift int int") => `(tactic| (k_here; (with_reducible refine My.step_shra ?_)))
local macro_rules | `(tactic| walk_at "binaryOp LShift int int") => `(tactic| (k_here; (with_reducible refine' My.step_shle ?k1 ?k2 ?k3 ?k4 ?_); (case k1 => k_dflt omega); (case k2 => k_dflt omega); (case k3 => k_dflt omega); (case k4 => k_dflt omega)))
local macro_rules | `(tactic| walk_at "binaryOp LShift int int") => `(tactic| (k_here; (with_reducible show wpAny _ _ (binaryOp Operator.LShift (Value.int _ _) (Value.int 23 _)) _ _ _); k_dflt (refine' My.step_shl23 ?k1 ?k2 ?_; (case k1 => omega); (case k2 => omega))))
local macro_rules | `(tactic| walk_at "binaryOp LShift int int") => `(tactic| (k_here; (with_reducible refine' My.step_shls ?k1 ?_); (case k1 => k_dflt omega)))
local macro_rules | `(tactic| walk_at "call builtin:list.append") => `(tactic| (k_here; k_dflt (refine' append_K ?q1 ?q2 ?q3 ?_ ?q4; (case q1 => k_asm); (case q2 => k_asm); (case q3 => k_upd); (case q4 => size_fits); k_whole); (intro h' F' N'); try k_sweep))
set_option maxRecDepth 100000 in
set_option maxHeartbeats 8000000 in
theorem PySem.Challenge.cw_meanoffour_s01_qt_four_holds : PySem.Challenge.rw_meanoffour_s01_qt_four.Holds := by
  k_with "call ref" => k_call_by "exponent_of" My.expo
  k_with "fact exponent_of" => exact My.expo_bound
  k_with "call ref" => k_call_by "surplus_bits" My.surplus
  k_with "fact surplus_bits" => exact My.fact_surplus
  k_with "call ref" => k_call_rec "value_of" My.value (fun (_ : Int) => True) (fun (_ : Int) => 1)
  k_with "fact value_of" => exact My.value_bound
  k_with "call ref" => k_call_rec "bits_of" My.bitsOf (fun (v : Int) => -2037035976334486086268445688409378161051468393665936250636140449354381299763336706183397376 < v ∧ v < 2037035976334486086268445688409378161051468393665936250636140449354381299763336706183397376) (fun (_ : Int) => 1)
  k_with "call ref" => k_call_rec "single_not_above" My.down (fun (v : Int) => -2037035976334486086268445688409378161051468393665936250636140449354381299763336706183397376 < v ∧ v < 2037035976334486086268445688409378161051468393665936250636140449354381299763336706183397376) (fun (_ : Int) => 1)
  k_with "fact single_not_above" => exact My.fact_down
  k_with "call ref" => k_call_rec "mean_not_above" My.low (fun (a b c d : Int) => -1942668892225729070919461906823518906642406839052139521251812409738904285205208498176 < a ∧ a < 1942668892225729070919461906823518906642406839052139521251812409738904285205208498176 ∧ -1942668892225729070919461906823518906642406839052139521251812409738904285205208498176 < b ∧ b < 1942668892225729070919461906823518906642406839052139521251812409738904285205208498176 ∧ -1942668892225729070919461906823518906642406839052139521251812409738904285205208498176 < c ∧ c < 1942668892225729070919461906823518906642406839052139521251812409738904285205208498176 ∧ -1942668892225729070919461906823518906642406839052139521251812409738904285205208498176 < d ∧ d < 1942668892225729070919461906823518906642406839052139521251812409738904285205208498176) (fun (_ _ _ _ : Int) => 2)
  k_with "fact mean_not_above" => exact My.fact_low
  k_with "call ref" => k_call_rec "mean_not_below" My.high (fun (a b c d : Int) => -1942668892225729070919461906823518906642406839052139521251812409738904285205208498176 < a ∧ a < 1942668892225729070919461906823518906642406839052139521251812409738904285205208498176 ∧ -1942668892225729070919461906823518906642406839052139521251812409738904285205208498176 < b ∧ b < 1942668892225729070919461906823518906642406839052139521251812409738904285205208498176 ∧ -1942668892225729070919461906823518906642406839052139521251812409738904285205208498176 < c ∧ c < 1942668892225729070919461906823518906642406839052139521251812409738904285205208498176 ∧ -1942668892225729070919461906823518906642406839052139521251812409738904285205208498176 < d ∧ d < 1942668892225729070919461906823518906642406839052139521251812409738904285205208498176) (fun (_ _ _ _ : Int) => 3)
  k_with "fact mean_not_below" => exact My.fact_high
  k_with "call ref" => k_call_rec "mean_bits" My.mean (fun (_ _ _ _ _ : Int) => True) (fun (_ _ _ _ _ : Int) => 4)
  k_with "call ref" => k_call_rec "all_right" My.allR (fun (_ : List Int) => True) (fun (_ : List Int) => 1)
  k_with "call ref" => k_call_rec "is_refused" My.refused (fun (_ : Int) (_ _ _ _ : List Int) => True) (fun (_ : Int) (_ _ _ _ : List Int) => 2)
  k_with "tree" => first
    | exact My.t_expo
    | exact My.t_surplus
    | exact My.t_low
    | exact My.t_high
    | exact My.t_right (by assumption)
    | exact My.t_wrong (by assumption) (by omega)
    | exact My.t_value1 (by omega) (by omega)
    | exact My.t_value2 (by omega) (by omega)
    | exact My.t_value3 (by omega) (by omega)
    | exact My.t_value4 (by omega) (by omega)
    | exact My.t_bits1 (by omega)
    | exact My.t_bits2 (by omega)
    | exact My.t_mean1 (by omega)
    | exact My.t_mean2 (by omega)
    | ((with_reducible show _ = My.refused _ _ _ _ _); unfold My.refused; simp_all)
  k_with "pyIter ref" => (k_of "bits" => k_search (fun pre => ∀ b ∈ pre, My.expo b ≤ 226))
  k_with "state" => first
    | exact My.turn3 (by assumption) (by assumption)
    | exact My.start3
  k_with "pyIter ref" => (k_of "i" => k_state (fun pre out => out.length = pre.length + 2 ∧ My.ToldH (by assumption) pre out) "answer")
  w_on
  k_headS
  case hw => exact ⟨[.int 0, .list [], .list [], .list [], .list []], by decide +kernel, by decide +kernel⟩
  w_strict (k_goS0; (obtain ⟨hL0, hL1, hL2, hL3, hL4⟩ := My.lens (by assumption)); (all_goals try k_fold); k_steps; all_goals sp_left)
  all_goals first
    | exact My.fin_refused (by assumption) (by assumption)
    | exact My.fin_told (by assumption) (by omega) (by assumption)
#print axioms PySem.Challenge.cw_meanoffour_s01_qt_four_holds
