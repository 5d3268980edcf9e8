/- What DivideTells answers, at all words. -/
import Derived.Test.YtnlcllhjhbaigaaDTells
import Derived.Test.YtnlcllhjhbaigaaRefO
import Derived.Test.YtnlcllhjhbaigaaRefN
import Derived.Test.YtnlcllhjhbaigaaRefX
namespace Go.Proofs.Ytnlcllhjhbaigaa
open Go Go.RowKit

theorem wv_little (k : Nat) (hk : k < 18446744073709551616) : wv k = .agg #[.int .u64 (k : Int), .int .u64 0, .int .u64 0, .int .u64 0] := by
  refine wv_of ⟨?_, ?_, ?_, ?_⟩
  · rw [lim_0, Nat.mod_eq_of_lt hk]
  · rw [lim_1, Nat.div_eq_of_lt hk]; rfl
  · rw [lim_2, Nat.div_eq_of_lt (by omega)]; rfl
  · rw [lim_3, Nat.div_eq_of_lt (by omega)]; rfl
theorem divideTells_ret (a b n : Nat) (ha : W256 a) (hb : W256 b) (hn : W256 n) : Ret Try.prog 3 #[wv a, wv b, wv n] (.bool true) := by
  obtain ⟨e, he, le⟩ : ∃ e : Nat, lim b 0 = (e : Int) ∧ e < 18446744073709551616 := ⟨b % 18446744073709551616, rfl, Nat.mod_lt _ (by decide)⟩
  obtain ⟨g, hg, lg⟩ : ∃ g : Nat, lim b 1 = (g : Int) ∧ g < 18446744073709551616 := ⟨b / 18446744073709551616 % 18446744073709551616, rfl, Nat.mod_lt _ (by decide)⟩
  have h5 : (lim b 1).tmod 5 = ((g % 5 : Nat) : Int) := by
    rw [hg, Int.tmod_eq_emod_of_nonneg (by omega)]
    omega
  have h3 : (lim b 0).tmod 300 = ((e % 300 : Nat) : Int) := by
    rw [he, Int.tmod_eq_emod_of_nonneg (by omega)]
    omega
  have w5 : wv (g % 5) = .agg #[.int .u64 ((g % 5 : Nat) : Int), .int .u64 0, .int .u64 0, .int .u64 0] := wv_little _ (by omega)
  have wS : wv (e % 300) = .agg #[.int .u64 ((e % 300 : Nat) : Int), .int .u64 0, .int .u64 0, .int .u64 0] := wv_little _ (by omega)
  have wE : wv e = .agg #[.int .u64 (lim b 0), .int .u64 0, .int .u64 0, .int .u64 0] := by rw [wv_little e le, he]
  have We : W256 e := by unfold W256; omega
  have W5 : W256 (g % 5) := by unfold W256; omega
  have WS : W256 (e % 300) := by unfold W256; omega
  exact tells_walk (lim a) (lim b) (lim n) (lim (a / b)) (lim (if b = 0 then 0 else a % b)) (lim (sgN (szN a / szN b) (negN a != negN b))) (lim (sgN (if szN b = 0 then 0 else szN a % szN b) (negN a))) (lim (b / n)) (lim (if n = 0 then 0 else b % n)) (lim (sgN (szN b / szN n) (negN b != negN n))) (lim (sgN (if szN n = 0 then 0 else szN b % szN n) (negN b))) (lim (a / e)) (lim (if e = 0 then 0 else a % e)) (lim (sgN (szN a / szN e) (negN a != negN e))) (lim (sgN (if szN e = 0 then 0 else szN a % szN e) (negN a))) (lim (a / (g % 5))) (lim (if (g % 5) = 0 then 0 else a % (g % 5))) (lim (sgN (szN a / szN (g % 5)) (negN a != negN (g % 5)))) (lim (sgN (if szN (g % 5) = 0 then 0 else szN a % szN (g % 5)) (negN a))) (lim (if n = 0 then 0 else (a + b) % n)) (lim (if n = 0 then 0 else (a * b) % n)) (lim (wmod (a ^ b))) (lim (wmod (a ^ (e % 300)))) _ _ h5 h3
    (div_ret a b ha hb)
    (refDiv_ret a b ha hb)
    (mod_ret a b ha hb)
    (refMod_ret a b ha hb)
    (sdiv_ret a b ha hb)
    (refSdiv_ret a b ha hb)
    (smod_ret a b ha hb)
    (refSmod_ret a b ha hb)
    (div_ret b n hb hn)
    (refDiv_ret b n hb hn)
    (mod_ret b n hb hn)
    (refMod_ret b n hb hn)
    (sdiv_ret b n hb hn)
    (refSdiv_ret b n hb hn)
    (smod_ret b n hb hn)
    (refSmod_ret b n hb hn)
    ((div_ret a e ha We).of_eq (by rw [wE]; rfl) rfl)
    ((refDiv_ret a e ha We).of_eq (by rw [wE]; rfl) rfl)
    ((mod_ret a e ha We).of_eq (by rw [wE]; rfl) rfl)
    ((refMod_ret a e ha We).of_eq (by rw [wE]; rfl) rfl)
    ((sdiv_ret a e ha We).of_eq (by rw [wE]; rfl) rfl)
    ((refSdiv_ret a e ha We).of_eq (by rw [wE]; rfl) rfl)
    ((smod_ret a e ha We).of_eq (by rw [wE]; rfl) rfl)
    ((refSmod_ret a e ha We).of_eq (by rw [wE]; rfl) rfl)
    ((div_ret a (g % 5) ha W5).of_eq (by rw [w5]; rfl) rfl)
    ((refDiv_ret a (g % 5) ha W5).of_eq (by rw [w5]; rfl) rfl)
    ((mod_ret a (g % 5) ha W5).of_eq (by rw [w5]; rfl) rfl)
    ((refMod_ret a (g % 5) ha W5).of_eq (by rw [w5]; rfl) rfl)
    ((sdiv_ret a (g % 5) ha W5).of_eq (by rw [w5]; rfl) rfl)
    ((refSdiv_ret a (g % 5) ha W5).of_eq (by rw [w5]; rfl) rfl)
    ((smod_ret a (g % 5) ha W5).of_eq (by rw [w5]; rfl) rfl)
    ((refSmod_ret a (g % 5) ha W5).of_eq (by rw [w5]; rfl) rfl)
    (addmod_ret a b n ha hb hn)
    (refAddmod_ret a b n ha hb hn)
    (mulmod_ret a b n ha hb hn)
    (refMulmod_ret a b n ha hb hn)
    (exp_ret a b ha hb)
    (refExp_ret a b ha hb)
    ((exp_ret a (e % 300) ha WS).of_eq (by rw [wS]; rfl) rfl)
    ((refExp_ret a (e % 300) ha WS).of_eq (by rw [wS]; rfl) rfl)
end Go.Proofs.Ytnlcllhjhbaigaa
