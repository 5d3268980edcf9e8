/- Texts of unlike lengths have unlike pads: the walk. -/
import Derived.Test.YtcjdcalfndicbaaDoorKecQ
namespace Go.Proofs.YtcjdcalfndicbaaDoor
open Go Go.RowKit Go.Shelf
attribute [local go_sem] Oper.semAt_some Grows wide_fn field0

theorem zpad_size (a : Nat) : (padS (zS a)).size = 136 * (a / 136 + 1) := by rw [padS_size, zS_size]
set_option maxRecDepth 100000 in
set_option maxHeartbeats 4000000 in
theorem apart_walk (m n : Int) (a b la lb : Nat) (p q : ByteArray) (ha : a < 700) (hb : b < 700) (hp : p.size = la + 1) (hq : q.size = lb + 1)
    (ea : (136 : Int) * (((a / 136 : Nat) : Int) + 1) = (la : Int) + 1) (eb : (136 : Int) * (((b / 136 : Nat) : Int) + 1) = (lb : Int) + 1) (hal : (a : Int) < (la : Int) + 1)
    (hpq : p = q ↔ a = b) (hL : ∀ h, ((p[la]'h).toNat : Int) = if ((a % 136 : Nat) : Int) = 135 then 129 else 128) (x0 : Int) (hA : ∀ h, ((p[a]'h).toNat : Int) = x0) (hx : bits .and .u8 x0 1 = 1)
    (h1 : Ret Tryd.prog 13 #[.int .i64 m, .int .i64 700] (.int .i64 (a : Int))) (h2 : Ret Tryd.prog 13 #[.int .i64 n, .int .i64 700] (.int .i64 (b : Int)))
    (h3 : Ret Tryd.prog 16 #[.string (zS a)] (.string p)) (h4 : Ret Tryd.prog 16 #[.string (zS b)] (.string q)) :
    RetT Tryd.prog 9 #[.int .i64 m, .int .i64 n] (.bool true) := by
  intro w HT
  have H0 := Lib.hid awake_ret
  have H1 := Lib.hid h1
  have H2 := Lib.hid h2
  have H3 := Lib.hid h3
  have H4 := Lib.hid h4
  clear h1 h2 h3 h4
  have haI : (a : Int) < 700 := by omega
  have hbI : (b : Int) < 700 := by omega
  have hpI : (p.size : Int) = (la : Int) + 1 := by omega
  have hqI : (q.size : Int) = (lb : Int) + 1 := by omega
  have e1 : (a : Int).tdiv 136 = ((a / 136 : Nat) : Int) := by rw [Int.tdiv_eq_ediv_of_nonneg (by omega)]; omega
  have e2 : (b : Int).tdiv 136 = ((b / 136 : Nat) : Int) := by rw [Int.tdiv_eq_ediv_of_nonneg (by omega)]; omega
  have e3 : (a : Int).tmod 136 = ((a % 136 : Nat) : Int) := by rw [Int.tmod_eq_emod_of_nonneg (by omega)]; omega
  have ha6 : ((a / 136 : Nat) : Int) < 6 := by omega
  have hb6 : ((b / 136 : Nat) : Int) < 6 := by omega
  have hla : (la : Int) < 1000 := by omega
  have hlb : (lb : Int) < 1000 := by omega
  generalize ((a / 136 : Nat) : Int) = ad at *
  generalize ((b / 136 : Nat) : Int) = bd at *
  generalize ((a % 136 : Nat) : Int) = am at *
  go_enter Tryd.func9, Tryd.ntmps9
  go_wp2_with fail
  refine (H0.out _ HT).mono ?_
  rintro e w1 ⟨rfl, Q⟩
  go_wp2_with fail
  refine (H1.out _).mono ?_
  rintro e w2 ⟨rfl, q2⟩
  have Q := Q.trans (q2.mono Q.size)
  clear q2
  go_wp2_with fail
  refine (H2.out _).mono ?_
  rintro e w3 ⟨rfl, q3⟩
  have Q := Q.trans (q3.mono Q.size)
  clear q3 H0 H1 H2 HT
  have hm1 := run_mkB w3 a (by omega)
  have hc1 := run_str w3 a (by omega)
  have Q := Q.alloc Q.size (.cells (ubC a fun _ => 0) 5)
  obtain ⟨W1, hW1⟩ : ∃ W1, w3.alloc (.cells (ubC a fun _ => 0) 5) = W1 := ⟨_, rfl⟩
  rw [hW1] at hm1 hc1 Q
  clear hW1
  go_wp2_with fail
  refine (H3.out _).mono ?_
  rintro e w4 ⟨rfl, q4⟩
  have Q := Q.trans (q4.mono Q.size)
  clear q4 hm1 hc1 H3
  have hm1 := run_mkB w4 b (by omega)
  have hc1 := run_str w4 b (by omega)
  have Q := Q.alloc Q.size (.cells (ubC b fun _ => 0) 5)
  obtain ⟨W2, hW2⟩ : ∃ W2, w4.alloc (.cells (ubC b fun _ => 0) 5) = W2 := ⟨_, rfl⟩
  rw [hW2] at hm1 hc1 Q
  clear hW2
  go_wp2_with fail
  refine (H4.out _).mono ?_
  rintro e w5 ⟨rfl, q5⟩
  have Q := Q.trans (q5.mono Q.size)
  clear q5 hm1 hc1 H4
  have HQ := Lib.hid Q
  clear Q
  by_cases hab : a = b
  · subst hab
    obtain rfl : p = q := hpq.2 rfl
    obtain rfl : la = lb := by omega
    by_cases h5 : am = 135
    · rw [if_pos h5] at hL
      go_wp2
      go_ret
      exact ⟨rfl, HQ.out⟩
    · rw [if_neg h5] at hL
      go_wp2
      go_ret
      exact ⟨rfl, HQ.out⟩
  · have hpq' : ¬ p = q := fun h => hab (hpq.1 h)
    have hE : (p.toList == q.toList) = false := by
      rw [beq_eq_false_iff_ne]
      intro h
      exact hpq' (bytes_ext h)
    have hI : ((a : Int) == (b : Int)) = false := by
      rw [beq_eq_false_iff_ne]; omega
    by_cases h5 : am = 135
    · rw [if_pos h5] at hL
      go_wp2
      go_ret
      exact ⟨rfl, HQ.out⟩
    · rw [if_neg h5] at hL
      have h5' : (am == 135) = false := beq_eq_false_iff_ne.2 h5
      go_wp2
      go_ret
      exact ⟨rfl, HQ.out⟩

theorem kApart_ret (m n : Int) (hm : I64 m) (hn : I64 n) : RetT Tryd.prog 9 #[.int .i64 m, .int .i64 n] (.bool true) := by
  have h1 := pick_ret m hm 700 (by omega) (by omega)
  have h2 := pick_ret n hn 700 (by omega) (by omega)
  have r1 := pickN_range m 700 (by omega)
  have r2 := pickN_range n 700 (by omega)
  obtain ⟨a, ea⟩ := Int.eq_ofNat_of_zero_le r1.1
  obtain ⟨b, eb⟩ := Int.eq_ofNat_of_zero_le r2.1
  rw [ea] at h1 r1
  rw [eb] at h2 r2
  have pa := zpad_size a
  have pb := zpad_size b
  have hpm : pmN (zS a) = 135 - a % 136 := by unfold pmN; rw [zS_size]
  refine apart_walk m n a b (136 * (a / 136 + 1) - 1) (136 * (b / 136 + 1) - 1) (padS (zS a)) (padS (zS b)) (by omega) (by omega) (by omega) (by omega) (by omega) (by omega) (by omega) ((pad_eq _ _).trans (zS_eq a b)) (fun h => ?_)
    ((pcN (pmN (zS a)) 0 : Nat) : Int) (fun h => ?_) ?_ h1 h2 (pad_ret _ (by rw [zS_size]; omega)) (pad_ret _ (by rw [zS_size]; omega))
  · have hk : 136 * (a / 136 + 1) - 1 = (zS a).size + (135 - a % 136) := by rw [zS_size]; omega
    have := pad_at (zS a) (135 - a % 136) (by rw [← hk]; exact h)
    simp only [← hk] at this
    rw [this, hpm]
    by_cases h135 : a % 136 = 135
    · rw [h135]; rfl
    · rw [if_neg (show ¬ ((a % 136 : Nat) : Int) = 135 by omega), show pcN (135 - a % 136) (135 - a % 136) = 128 by unfold pcN; rw [if_neg (by omega), if_pos rfl]]
      rfl
  · have hk : a = (zS a).size + 0 := by rw [zS_size]; rfl
    have := pad_at (zS a) 0 (by rw [← hk]; exact h)
    simp only [← hk] at this
    rw [this]
  · unfold pcN
    rw [if_pos rfl]
    split <;> decide
end Go.Proofs.YtcjdcalfndicbaaDoor
