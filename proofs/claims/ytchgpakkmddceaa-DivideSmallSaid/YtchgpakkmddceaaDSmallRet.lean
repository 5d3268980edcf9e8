/- What DivideSmall answers, at all numbers. -/
import Derived.Test.YtchgpakkmddceaaDSmallA
import Derived.Test.YtchgpakkmddceaaDSmallB
import Derived.Test.YtchgpakkmddceaaLawQ
import Derived.Test.YtchgpakkmddceaaPick
namespace Go.Proofs.Ytchgpakkmddceaa
open Go Go.RowKit

theorem ofN_neg (p : Nat) (hp : p ≤ 9223372036854775808) : ofN (-(p : Int)) = wsub 0 p := by
  by_cases h : p = 0
  · subst h; decide
  · rw [wsub_zero p (by unfold W256; omega) h]
    unfold ofN
    rw [if_pos (by omega)]
    omega
theorem negN_nat (p : Nat) (hp : p ≤ 9223372036854775808) : negN p = false := by unfold negN; exact decide_eq_false (by omega)
theorem szN_nat (p : Nat) (hp : p ≤ 9223372036854775808) : szN p = p := szN_pos p (negN_nat p hp)
theorem negN_sub (p : Nat) (hp : p ≤ 9223372036854775808) (h : p ≠ 0) : negN (wsub 0 p) = true := by
  rw [wsub_zero p (by unfold W256; omega) h]
  unfold negN; exact decide_eq_true (by omega)
theorem szN_sub (p : Nat) (hp : p ≤ 9223372036854775808) (h : p ≠ 0) : szN (wsub 0 p) = p := by
  have h1 := negN_sub p hp h
  rw [wsub_zero p (by unfold W256; omega) h] at h1 ⊢
  have := szN_neg _ (by unfold W256; omega) h1
  omega

/-- A number's sign and size. -/
theorem cases_int (a : Int) (h : -9223372036854775808 ≤ a ∧ a ≤ 9223372036854775807) : ∃ p : Nat, p ≤ 9223372036854775808 ∧ ((a = p ∧ negN (ofN a) = false ∧ szN (ofN a) = p) ∨ (a = -(p : Int) ∧ p ≠ 0 ∧ negN (ofN a) = true ∧ szN (ofN a) = p)) := by
  by_cases h0 : 0 ≤ a
  · obtain ⟨p, rfl⟩ := Int.eq_ofNat_of_zero_le h0
    exact ⟨p, by omega, .inl ⟨rfl, by rw [ofN_nat]; exact negN_nat p (by omega), by rw [ofN_nat]; exact szN_nat p (by omega)⟩⟩
  · obtain ⟨p, hp⟩ := Int.eq_ofNat_of_zero_le (show 0 ≤ -a by omega)
    have ha : a = -(p : Int) := by omega
    subst ha
    have hp0 : p ≠ 0 := by omega
    exact ⟨p, by omega, .inr ⟨rfl, hp0, by rw [ofN_neg p (by omega)]; exact negN_sub p (by omega) hp0, by rw [ofN_neg p (by omega)]; exact szN_sub p (by omega) hp0⟩⟩

theorem sg_div (a b : Int) (ha : -9223372036854775808 ≤ a ∧ a ≤ 9223372036854775807) (hb : -9223372036854775808 ≤ b ∧ b ≤ 9223372036854775807) :
    sgN (szN (ofN a) / szN (ofN b)) (negN (ofN a) != negN (ofN b)) = ofN (a.tdiv b) ∧ sgN (szN (ofN a) % szN (ofN b)) (negN (ofN a)) = ofN (a.tmod b) := by
  obtain ⟨p, hp, hA⟩ := cases_int a ha
  obtain ⟨q, hq, hB⟩ := cases_int b hb
  have h1 : p / q ≤ p := Nat.div_le_self p q
  have h2 : p % q ≤ p := Nat.mod_le p q
  have e1 : ((p : Int)).tdiv q = ((p / q : Nat) : Int) := by rw [Int.tdiv_eq_ediv_of_nonneg (by omega)]; rfl
  have e2 : ((p : Int)).tmod q = ((p % q : Nat) : Int) := by rw [Int.tmod_eq_emod_of_nonneg (by omega)]; rfl
  rcases hA with ⟨rfl, na, sa⟩ | ⟨rfl, _, na, sa⟩ <;> rcases hB with ⟨rfl, nb, sb⟩ | ⟨rfl, _, nb, sb⟩ <;> rw [na, nb, sa, sb] <;>
    simp only [Int.neg_tdiv, Int.tdiv_neg, Int.neg_neg, Int.neg_tmod, Int.tmod_neg, e1, e2]
  · exact ⟨(ofN_nat _).symm, (ofN_nat _).symm⟩
  · exact ⟨(ofN_neg _ (by omega)).symm, (ofN_nat _).symm⟩
  · exact ⟨(ofN_neg _ (by omega)).symm, (ofN_neg _ (by omega)).symm⟩
  · exact ⟨(ofN_nat _).symm, (ofN_neg _ (by omega)).symm⟩

theorem bound_div (a b : Int) (c : Int) (h : -c ≤ a ∧ a ≤ c) : (-c ≤ a.tdiv b ∧ a.tdiv b ≤ c) ∧ (-c ≤ a.tmod b ∧ a.tmod b ≤ c) := by
  have h1 : (a.tdiv b).natAbs ≤ a.natAbs := by rw [Int.natAbs_tdiv]; exact Nat.div_le_self _ _
  have h2 : (a.tmod b).natAbs ≤ a.natAbs := by rw [Int.natAbs_tmod]; exact Nat.mod_le _ _
  omega

theorem nb (x : Nat) (h : x ≤ 1099511627776) : 0 ≤ (x : Int) ∧ (x : Int) ≤ 1099511627776 := by omega
theorem divideSmall_ret (m n k : Int) (hm : I64 m) (hn : I64 n) (hk : I64 k) : Ret Try.prog 7 #[.int .i64 m, .int .i64 n, .int .i64 k] (.bool true) := by
  have r1 := pickN_range m 1099511627776 (by omega)
  have r2 := pickN_range n 1048576 (by omega)
  have r3 := pickN_range k 1048576 (by omega)
  have r4 := pickN_range k 6 (by omega)
  have r5 := pickN_range n 1000 (by omega)
  have g1 := pick_ret m hm 1099511627776 (by omega) (by omega)
  have g2 := pick_ret n hn 1048576 (by omega) (by omega)
  have g3 := pick_ret k hk 1048576 (by omega) (by omega)
  have g4 := pick_ret k hk 6 (by omega) (by omega)
  have g5 := pick_ret n hn 1000 (by omega) (by omega)
  obtain ⟨A, eA⟩ := Int.eq_ofNat_of_zero_le r1.1
  obtain ⟨B, eB⟩ := Int.eq_ofNat_of_zero_le r2.1
  obtain ⟨Z, eZ⟩ := Int.eq_ofNat_of_zero_le r3.1
  obtain ⟨K, eK⟩ := Int.eq_ofNat_of_zero_le r4.1
  obtain ⟨Y, eY⟩ := Int.eq_ofNat_of_zero_le r5.1
  rw [eA] at g1 r1
  rw [eB] at g2 r2
  rw [eZ] at g3 r3
  rw [eK] at g4 r4
  rw [eY] at g5 r5
  have hA : A < 1099511627776 := by omega
  have hB : B < 1048576 := by omega
  have hZ : Z < 1048576 := by omega
  have hK : K < 6 := by omega
  have hY : Y < 1000 := by omega
  have O : ∀ k : Nat, k < 2305843009213693952 → Ret Try.prog 27 #[.int .i64 (k : Int)] (wv k) := fun k hk => (refOf_ret k (by unfold I64; omega)).of_eq rfl (by rw [ofN_nat])
  have W : ∀ k : Nat, k < 2305843009213693952 → W256 k := fun k hk => by unfold W256; omega
  have hM : A * (1 + B) < 2305843009213693952 := by
    have : A * (1 + B) ≤ 1099511627775 * 1048576 := Nat.mul_le_mul (by omega) (by omega)
    omega
  have hq2 : A / (1 + B) ≤ A := Nat.div_le_self _ _
  have hr2 : A % (1 + B) ≤ A := Nat.mod_le _ _
  have hs1 : (A + (1 + B)) % (1 + Z) < 1 + Z := Nat.mod_lt _ (by omega)
  have hs2 : A * (1 + B) % (1 + Z) < 1 + Z := Nat.mod_lt _ (by omega)
  have td : ∀ x y : Nat, ((x : Int)).tdiv (y : Int) = ((x / y : Nat) : Int) := fun x y => by rw [Int.tdiv_eq_ediv_of_nonneg (by omega)]; rfl
  have tm : ∀ x y : Nat, ((x : Int)).tmod (y : Int) = ((x % y : Nat) : Int) := fun x y => by rw [Int.tmod_eq_emod_of_nonneg (by omega)]; rfl
  have c1 : (1 : Int) + (B : Int) = ((1 + B : Nat) : Int) := by omega
  have c2 : (1 : Int) + (Z : Int) = ((1 + Z : Nat) : Int) := by omega
  have c3 : (A : Int) + ((1 + B : Nat) : Int) = ((A + (1 + B) : Nat) : Int) := by omega
  have c4 : (A : Int) * ((1 + B : Nat) : Int) = ((A * (1 + B) : Nat) : Int) := by simp
  have yb : ∀ j : Nat, j ≤ 5 → Y ^ j ≤ 1000000000000000 := fun j hj => by
    have h1 : Y ^ j ≤ 1000 ^ j := Nat.pow_le_pow_left (by omega) j
    have h2 : 1000 ^ j ≤ 1000 ^ 5 := Nat.pow_le_pow_right (by omega) hj
    have : (1000 : Nat) ^ 5 = 1000000000000000 := by decide
    omega
  have E5 := exp_ret Y K (W _ (by omega)) (W _ (by omega))
  have hYK := yb K (by omega)
  rw [wmod_of (W _ (by omega))] at E5
  have step : ∀ b : Int, (-9223372036854775808 ≤ b ∧ b ≤ 9223372036854775807) → b ≠ 0 →
      (Ret Try.prog 14 #[wv (ofN ((A : Int) - 549755813888)), wv (ofN b)] (wv (ofN (((A : Int) - 549755813888).tdiv b)))) ∧ (Ret Try.prog 16 #[wv (ofN ((A : Int) - 549755813888)), wv (ofN b)] (wv (ofN (((A : Int) - 549755813888).tmod b)))) := fun b hb hb0 => by
    have hab := sg_div ((A : Int) - 549755813888) b (by omega) hb
    have w1 := ofN_lt ((A : Int) - 549755813888) (by unfold I64; omega)
    have w2 := ofN_lt b hb
    have hz : szN (ofN b) ≠ 0 := fun e => by
      have := (szN_zero _ w2).1 e
      unfold ofN at this
      split at this <;> omega
    exact ⟨(sdiv_ret _ _ w1 w2).of_eq rfl (by rw [hab.1]), (smod_ret _ _ w1 w2).of_eq rfl (by rw [if_neg hz, hab.2])⟩
  have M1 := fun v (hv : W256 v) => mod_ret v (1 + B) hv (W _ (by omega))
  simp only [if_neg (show ¬ 1 + B = 0 by omega)] at M1
  have M2 := addmod_ret A (1 + B) (1 + Z) (W _ (by omega)) (W _ (by omega)) (W _ (by omega))
  have M3 := mulmod_ret A (1 + B) (1 + Z) (W _ (by omega)) (W _ (by omega)) (W _ (by omega))
  rw [if_neg (show ¬ 1 + Z = 0 by omega)] at M2 M3
  have bd := fun b => bound_div ((A : Int) - 549755813888) b 1099511627776 (by omega)
  have o1 := refOf_ret ((A : Int) - 549755813888) (by unfold I64; omega)
  have o6 : Ret Try.prog 27 #[.int .i64 ((1 : Int) + (B : Int))] (wv (1 + B)) := by rw [c1]; exact O _ (by omega)
  have o9 : Ret Try.prog 27 #[.int .i64 ((1 : Int) + (Z : Int))] (wv (1 + Z)) := by rw [c2]; exact O _ (by omega)
  have f1 : (A : Int).tdiv ((1 : Int) + (B : Int)) = ((A / (1 + B) : Nat) : Int) := by rw [c1, td]
  have f2 : (A : Int).tmod ((1 : Int) + (B : Int)) = ((A % (1 + B) : Nat) : Int) := by rw [c1, tm]
  have f3 : ((A : Int) + ((1 : Int) + (B : Int))).tmod ((1 : Int) + (Z : Int)) = (((A + (1 + B)) % (1 + Z) : Nat) : Int) := by rw [c1, c2, c3, tm]
  have f4 : (A : Int) * ((1 : Int) + (B : Int)) = ((A * (1 + B) : Nat) : Int) := by rw [c1, c4]
  have f5 : ((A * (1 + B) : Nat) : Int).tmod ((1 : Int) + (Z : Int)) = ((A * (1 + B) % (1 + Z) : Nat) : Int) := by rw [c2, tm]
  have yP : ∀ j : Nat, j < 5 → ((Y ^ j : Nat) : Int) * (Y : Int) = ((Y ^ (j + 1) : Nat) : Int) := fun j _ => by rw [← Int.natCast_mul, Nat.pow_succ]
  have yB : ∀ j : Nat, j ≤ 5 → 0 ≤ ((Y ^ j : Nat) : Int) ∧ ((Y ^ j : Nat) : Int) ≤ 1000000000000000 := fun j hj => by have := yb j hj; omega
  by_cases h : (B : Int) = 524288
  · have st := step 7 (by omega) (by omega)
    have B1 := bd 7
    exact small_walkA m n k A B Z 7 _ _ _ _ _ ((A * (1 + B) : Nat) : Int) _ Y K (fun j => ((Y ^ j : Nat) : Int)) (lim (ofN ((A : Int) - 549755813888))) (lim (ofN 7)) (lim (ofN (((A : Int) - 549755813888).tdiv 7))) (lim (ofN (((A : Int) - 549755813888).tmod 7))) (lim A) (lim (1 + B)) (lim (A / (1 + B))) (lim (A % (1 + B))) (lim (1 + Z)) (lim ((A + (1 + B)) % (1 + Z))) (lim (A * (1 + B) % (1 + Z))) (lim Y) (lim K) (lim (Y ^ K))
      (by omega) (by omega) (by omega) hK (by omega) ⟨h, rfl⟩ rfl rfl f1 f2 f3 f4 (by omega) f5 ⟨B1.1, B1.2, nb _ (Nat.le_trans hq2 (by omega)), nb _ (Nat.le_trans hr2 (by omega)), nb _ (Nat.le_trans (Nat.le_of_lt hs1) (by omega)), nb _ (Nat.le_trans (Nat.le_of_lt hs2) (by omega))⟩ (by simp) yP yB g1 g2 g3 g4 g5
      o1 (refOf_ret 7 (by unfold I64; omega)) st.1 (refOf_ret (((A : Int) - 549755813888).tdiv 7) (by have h1 := B1.1; unfold I64; omega)) st.2 (refOf_ret (((A : Int) - 549755813888).tmod 7) (by have h1 := B1.2; unfold I64; omega)) (O A (by omega)) o6 (div_ret A (1 + B) (W _ (by omega)) (W _ (by omega))) (O _ (by omega)) (M1 A (W _ (by omega))) (O _ (by omega))
      o9 M2 (O _ (by omega)) M3 (O _ (by omega)) (O Y (by omega)) (O K (by omega)) E5 (O (Y ^ K) (Nat.lt_of_le_of_lt hYK (by decide)))
  · have st := step ((B : Int) - 524288) (by omega) (by omega)
    have B1 := bd ((B : Int) - 524288)
    exact small_walkB m n k A B Z ((B : Int) - 524288) _ _ _ _ _ ((A * (1 + B) : Nat) : Int) _ Y K (fun j => ((Y ^ j : Nat) : Int)) (lim (ofN ((A : Int) - 549755813888))) (lim (ofN ((B : Int) - 524288))) (lim (ofN (((A : Int) - 549755813888).tdiv ((B : Int) - 524288)))) (lim (ofN (((A : Int) - 549755813888).tmod ((B : Int) - 524288)))) (lim A) (lim (1 + B)) (lim (A / (1 + B))) (lim (A % (1 + B))) (lim (1 + Z)) (lim ((A + (1 + B)) % (1 + Z))) (lim (A * (1 + B) % (1 + Z))) (lim Y) (lim K) (lim (Y ^ K))
      (by omega) (by omega) (by omega) hK (by omega) ⟨h, rfl⟩ rfl rfl f1 f2 f3 f4 (by omega) f5 ⟨B1.1, B1.2, nb _ (Nat.le_trans hq2 (by omega)), nb _ (Nat.le_trans hr2 (by omega)), nb _ (Nat.le_trans (Nat.le_of_lt hs1) (by omega)), nb _ (Nat.le_trans (Nat.le_of_lt hs2) (by omega))⟩ (by simp) yP yB g1 g2 g3 g4 g5
      o1 (refOf_ret ((B : Int) - 524288) (by unfold I64; omega)) st.1 (refOf_ret (((A : Int) - 549755813888).tdiv ((B : Int) - 524288)) (by have h1 := B1.1; unfold I64; omega)) st.2 (refOf_ret (((A : Int) - 549755813888).tmod ((B : Int) - 524288)) (by have h1 := B1.2; unfold I64; omega)) (O A (by omega)) o6 (div_ret A (1 + B) (W _ (by omega)) (W _ (by omega))) (O _ (by omega)) (M1 A (W _ (by omega))) (O _ (by omega))
      o9 M2 (O _ (by omega)) M3 (O _ (by omega)) (O Y (by omega)) (O K (by omega)) E5 (O (Y ^ K) (Nat.lt_of_le_of_lt hYK (by decide)))
end Go.Proofs.Ytchgpakkmddceaa
