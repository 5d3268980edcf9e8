/- awake. Conditions: none. -/
import Derived.Test.YtcannohmbaaceaaTabT
import Derived.Test.YtcannohmbaaceaaGhost
namespace Go.Proofs.Ytcannohmbaaceaa
open Go Go.RowKit
attribute [local go_sem] Oper.semAt_some Grows wide_fn eq4

theorem of_small (n : Nat) (h : n < 1000) : Ret Try.prog 22 #[.int .i64 (n : Int)] (.agg #[.int .u64 (lim n 0), .int .u64 (lim n 1), .int .u64 (lim n 2), .int .u64 (lim n 3)]) := by
  have h1 := refOf_ret (n : Int) (by unfold I64; omega)
  rw [show ofN (n : Int) = n by unfold ofN; rw [if_neg (by omega)]; omega] at h1
  exact h1
theorem small256 (n : Nat) (h : n < 1000) : W256 n := by unfold W256; omega
theorem DoneP.good {W : World} {out : List Sl} {e : Ending} {W' : World} (h : DoneP W true out e W') (hl : out.length ≤ 1000) : ∃ sv, e = .returned (.tuple #[sv, .int .i64 0]) ∧ RowT W' W.heap.size sv out ∧ Below W.heap.size W W' := by
  rcases h.1 with ⟨_, _, sv, h3, h4⟩ | ⟨_, h2, _⟩ | ⟨h1, _⟩
  · exact ⟨sv, h3, h4, h.2⟩
  · exact absurd hl h2
  · cases h1
theorem DoneP.bad {W : World} {out : List Sl} {e : Ending} {W' : World} (h : DoneP W false out e W') : e = .returned (.tuple #[.slice none 0 0, .int .i64 1]) ∧ Below W.heap.size W W' := by
  rcases h.1 with ⟨h1, _⟩ | ⟨h1, _⟩ | ⟨_, h2⟩
  · cases h1
  · cases h1
  · exact ⟨h2, h.2⟩
theorem right_yes {l : List Sl} (h1 : l.length ≤ 1000) (h2 : Rise l) (h3 : ∀ x ∈ l, x.2 ≠ 0) : rightB' l = true := (rightB_iff' l).2 ⟨h1, h2, h3⟩
theorem r_nil : rightB' [] = true := right_yes (by simp) (by unfold Rise; simp) (by simp)
theorem r_a : rightB' [(5, 7)] = true := right_yes (by simp) (by unfold Rise; simp) (by simp)
theorem r_b : rightB' [(3, 1), (5, 7)] = true := right_yes (by simp) (by unfold Rise; simp) (by simp)
theorem r_c : rightB' [(3, 1)] = true := right_yes (by simp) (by unfold Rise; simp) (by simp)
theorem r_d : rightB' [(5, 0)] = false := by
  rcases h : rightB' [(5, 0)] with _ | _
  · rfl
  · have := ((rightB_iff' _).1 h).2.2 (5, 0) (by simp)
    simp at this
theorem r_e : rightB' [(1, 0)] = false := by
  rcases h : rightB' [(1, 0)] with _ | _
  · rfl
  · have := ((rightB_iff' _).1 h).2.2 (1, 0) (by simp)
    simp at this
theorem m_a : mergeL [] [(5, 7)] = [(5, 7)] := by simp [mergeL, bothL, listF, behindF]
theorem m_b : mergeL [(5, 7)] [(3, 1)] = [(3, 1), (5, 7)] := by simp [mergeL, bothL, listF, behindF]
theorem m_c : mergeL [(3, 1), (5, 7)] [(5, 0)] = [(3, 1)] := by simp [mergeL, bothL, listF, behindF]
theorem d_d : diffL [(3, 1), (5, 7)] [(3, 1)] = [(5, 0)] := by simp [diffL, bothL, listF, unlikeF]
theorem p_d : patchB [(5, 0)] = true := patchB_one _
theorem l_b : look [(3, 1), (5, 7)] 5 = 7 := by simp [look, lk]
theorem wide2 {a b : Nat} (ha : a < 1000) (hb : b < 1000) : ∀ x ∈ [((a, b) : Sl)], W256 x.1 ∧ W256 x.2 := fun x hx => by simp at hx; subst hx; exact ⟨small256 a ha, small256 b hb⟩
theorem wide4 {a b c d : Nat} (ha : a < 1000) (hb : b < 1000) (hc : c < 1000) (hd : d < 1000) : ∀ x ∈ [((a, b) : Sl), (c, d)], W256 x.1 ∧ W256 x.2 := fun x hx => by
  simp at hx
  rcases hx with rfl | rfl
  · exact ⟨small256 a ha, small256 b hb⟩
  · exact ⟨small256 c hc, small256 d hd⟩
theorem slots_flat {W : World} {B : Nat} {l : List Sl} (h : Has W B 31 (flat8 l).toArray) (hw : ∀ x ∈ l, W256 x.1 ∧ W256 x.2) (hn : l.length ≤ 9223372036854775807 := by simp) : SlotsAt W (.slice (some ⟨B, 0, none⟩) l.length l.length) l := by
  refine ⟨some ⟨B, 0, none⟩, l.length, rfl, Nat.le_refl _, hn, hw, fun i x hx => ⟨_, rfl, fun j hj => ?_⟩⟩
  rw [Addr.add_add]
  have ha : (⟨B, 0, none⟩ : Addr).add (i * 8 + j) = ⟨B, i * 8 + j, none⟩ := by unfold Addr.add; split <;> simp_all
  rw [ha]
  exact h.cell _ _ (by simpa using flat8_at l i x j hx hj)
set_option maxRecDepth 100000 in
set_option maxHeartbeats 8000000 in
theorem awake_any (W : World) : Calls Try.prog 6 #[] W fun e w' => e = .returned (.bool true) ∧ Below W.heap.size W w' := by
  have hmx : Try.prog.follows .mixedOrders = true := by kernel_rfl
  have O0 := Lib.hid (of_small 0 (by omega))
  simp only [Int.cast_ofNat_Int] at O0
  have O1 := Lib.hid (of_small 1 (by omega))
  simp only [Int.cast_ofNat_Int] at O1
  have O3 := Lib.hid (of_small 3 (by omega))
  simp only [Int.cast_ofNat_Int] at O3
  have O5 := Lib.hid (of_small 5 (by omega))
  simp only [Int.cast_ofNat_Int] at O5
  have O7 := Lib.hid (of_small 7 (by omega))
  simp only [Int.cast_ofNat_Int] at O7
  go_enter Try.func6, Try.ntmps6
  go_wp2_with fail
  refine (O5.out _).mono ?_
  rintro e w1 ⟨rfl, hb⟩
  have Q := Lib.hid hb
  clear hb
  go_wp2_with fail
  refine (O7.out _).mono ?_
  rintro e w2 ⟨rfl, hb⟩
  have Q' := Lib.hid (Q.out.trans (hb.mono Q.out.size))
  clear Q
  have Q := Q'
  clear Q'
  clear hb
  have hc := put_any w2 (.slice none 0 0) [] (SlotsAt.nil _) 5 7 (small256 5 (by omega)) (small256 7 (by omega))
  rw [r_nil, m_a] at hc
  go_wp2_with fail
  refine hc.mono ?_
  clear hc
  intro e w3 hd
  obtain ⟨sv, rfl, hrow, hq⟩ := hd.good (by simp)
  have hsl := hrow.slots (wide2 (by omega) (by omega))
  obtain ⟨aa, ca, rfl, _⟩ := hsl.shape
  simp only [List.length_cons, List.length_nil, Nat.zero_add, Nat.reduceAdd] at hsl ⊢
  have Q' := Lib.hid (Q.out.trans (hq.mono Q.out.size))
  clear Q
  have Q := Q'
  clear Q'
  clear hq
  have Ra := Lib.hid hsl
  clear hsl hrow hd
  go_wp2_with fail
  refine (O3.out _).mono ?_
  rintro e w4 ⟨rfl, hb⟩
  have Q' := Lib.hid (Q.out.trans (hb.mono Q.out.size))
  clear Q
  have Q := Q'
  clear Q'
  have Ra' := Lib.hid (Ra.out.later hb)
  clear Ra
  have Ra := Ra'
  clear Ra'
  clear hb
  go_wp2_with fail
  refine (O1.out _).mono ?_
  rintro e w5 ⟨rfl, hb⟩
  have Q' := Lib.hid (Q.out.trans (hb.mono Q.out.size))
  clear Q
  have Q := Q'
  clear Q'
  have Ra' := Lib.hid (Ra.out.later hb)
  clear Ra
  have Ra := Ra'
  clear Ra'
  clear hb
  have hc := put_any w5 (.slice aa 1 ca) [(5, 7)] Ra.out 3 1 (small256 3 (by omega)) (small256 1 (by omega))
  rw [r_a, m_b] at hc
  go_wp2_with fail
  refine hc.mono ?_
  clear hc
  intro e w6 hd
  obtain ⟨sv, rfl, hrow, hq⟩ := hd.good (by simp)
  have hsl := hrow.slots (wide4 (by omega) (by omega) (by omega) (by omega))
  obtain ⟨ab, cb, rfl, _⟩ := hsl.shape
  simp only [List.length_cons, List.length_nil, Nat.zero_add, Nat.reduceAdd] at hsl ⊢
  have Q' := Lib.hid (Q.out.trans (hq.mono Q.out.size))
  clear Q
  have Q := Q'
  clear Q'
  have Ra' := Lib.hid (Ra.out.later hq)
  clear Ra
  have Ra := Ra'
  clear Ra'
  clear hq
  have Rb := Lib.hid hsl
  clear hsl hrow hd
  clear Ra
  go_wp2_with fail
  refine (O5.out _).mono ?_
  rintro e w7 ⟨rfl, hb⟩
  have Q' := Lib.hid (Q.out.trans (hb.mono Q.out.size))
  clear Q
  have Q := Q'
  clear Q'
  have Rb' := Lib.hid (Rb.out.later hb)
  clear Rb
  have Rb := Rb'
  clear Rb'
  clear hb
  go_wp2_with fail
  refine (O0.out _).mono ?_
  rintro e w8 ⟨rfl, hb⟩
  have Q' := Lib.hid (Q.out.trans (hb.mono Q.out.size))
  clear Q
  have Q := Q'
  clear Q'
  have Rb' := Lib.hid (Rb.out.later hb)
  clear Rb
  have Rb := Rb'
  clear Rb'
  clear hb
  have hc := put_any w8 (.slice ab 2 cb) [(3, 1), (5, 7)] Rb.out 5 0 (small256 5 (by omega)) (small256 0 (by omega))
  rw [r_b, m_c] at hc
  go_wp2_with fail
  refine hc.mono ?_
  clear hc
  intro e w9 hd
  obtain ⟨sv, rfl, hrow, hq⟩ := hd.good (by simp)
  have hsl := hrow.slots (wide2 (by omega) (by omega))
  obtain ⟨ac, cc, rfl, _⟩ := hsl.shape
  simp only [List.length_cons, List.length_nil, Nat.zero_add, Nat.reduceAdd] at hsl ⊢
  have Q' := Lib.hid (Q.out.trans (hq.mono Q.out.size))
  clear Q
  have Q := Q'
  clear Q'
  have Rb' := Lib.hid (Rb.out.later hq)
  clear Rb
  have Rb := Rb'
  clear Rb'
  clear hq
  have Rc := Lib.hid hsl
  clear hsl hrow hd
  have hc := diff_any w9 (.slice ab 2 cb) (.slice ac 1 cc) [(3, 1), (5, 7)] [(3, 1)] Rb.out Rc.out
  rw [r_b, r_c, Bool.and_true, d_d] at hc
  go_wp2_with fail
  refine hc.mono ?_
  clear hc
  intro e w10 hd
  obtain ⟨sv, rfl, hrow, hq⟩ := hd.good (by simp)
  have hsl := hrow.slots (wide2 (by omega) (by omega))
  obtain ⟨ad, cd, rfl, _⟩ := hsl.shape
  simp only [List.length_cons, List.length_nil, Nat.zero_add, Nat.reduceAdd] at hsl ⊢
  have Q' := Lib.hid (Q.out.trans (hq.mono Q.out.size))
  clear Q
  have Q := Q'
  clear Q'
  have Rb' := Lib.hid (Rb.out.later hq)
  clear Rb
  have Rb := Rb'
  clear Rb'
  have Rc' := Lib.hid (Rc.out.later hq)
  clear Rc
  have Rc := Rc'
  clear Rc'
  clear hq
  have Rd := Lib.hid hsl
  clear hsl hrow hd
  have hc := merge_any w10 (.slice ab 2 cb) (.slice ad 1 cd) [(3, 1), (5, 7)] [(5, 0)] Rb.out Rd.out
  rw [r_b, p_d, Bool.and_true, m_c] at hc
  go_wp2_with fail
  refine hc.mono ?_
  clear hc
  intro e w11 hd
  obtain ⟨sv, rfl, hrow, hq⟩ := hd.good (by simp)
  have hsl := hrow.slots (wide2 (by omega) (by omega))
  obtain ⟨am, cm, rfl, _⟩ := hsl.shape
  simp only [List.length_cons, List.length_nil, Nat.zero_add, Nat.reduceAdd] at hsl ⊢
  have Q' := Lib.hid (Q.out.trans (hq.mono Q.out.size))
  clear Q
  have Q := Q'
  clear Q'
  have Rb' := Lib.hid (Rb.out.later hq)
  clear Rb
  have Rb := Rb'
  clear Rb'
  have Rc' := Lib.hid (Rc.out.later hq)
  clear Rc
  have Rc := Rc'
  clear Rc'
  have Rd' := Lib.hid (Rd.out.later hq)
  clear Rd
  have Rd := Rd'
  clear Rd'
  clear hq
  have Rm := Lib.hid hsl
  clear hsl hrow hd
  go_wp2_with fail
  refine (O1.out _).mono ?_
  rintro e w12 ⟨rfl, hb⟩
  have Q' := Lib.hid (Q.out.trans (hb.mono Q.out.size))
  clear Q
  have Q := Q'
  clear Q'
  have Rb' := Lib.hid (Rb.out.later hb)
  clear Rb
  have Rb := Rb'
  clear Rb'
  have Rc' := Lib.hid (Rc.out.later hb)
  clear Rc
  have Rc := Rc'
  clear Rc'
  have Rd' := Lib.hid (Rd.out.later hb)
  clear Rd
  have Rd := Rd'
  clear Rd'
  have Rm' := Lib.hid (Rm.out.later hb)
  clear Rm
  have Rm := Rm'
  clear Rm'
  clear hb
  have NE := Has.new w12 31 #[.int .u64 (lim 1 0), .int .u64 (lim 1 1), .int .u64 (lim 1 2), .int .u64 (lim 1 3), .int .u64 0, .int .u64 0, .int .u64 0, .int .u64 0]
  have hb := (Below.refl w12.heap.size w12).alloc (Nat.le_refl _) (.cells #[.int .u64 (lim 1 0), .int .u64 (lim 1 1), .int .u64 (lim 1 2), .int .u64 (lim 1 3), .int .u64 0, .int .u64 0, .int .u64 0, .int .u64 0] 31)
  have RE := Lib.hid (show SlotsAt (w12.alloc (.cells #[.int .u64 (lim 1 0), .int .u64 (lim 1 1), .int .u64 (lim 1 2), .int .u64 (lim 1 3), .int .u64 0, .int .u64 0, .int .u64 0, .int .u64 0] 31)) (.slice (some ⟨w12.heap.size, 0, none⟩) 1 1) [(1, 0)] from slots_one (by simp only [lim_zero]; exact NE) (small256 1 (by omega)) (small256 0 (by omega)))
  have Q' := Lib.hid (Q.out.trans (hb.mono Q.out.size))
  clear Q
  have Q := Q'
  clear Q'
  have Rb' := Lib.hid (Rb.out.later hb)
  clear Rb
  have Rb := Rb'
  clear Rb'
  have Rc' := Lib.hid (Rc.out.later hb)
  clear Rc
  have Rc := Rc'
  clear Rc'
  have Rd' := Lib.hid (Rd.out.later hb)
  clear Rd
  have Rd := Rd'
  clear Rd'
  have Rm' := Lib.hid (Rm.out.later hb)
  clear Rm
  have Rm := Rm'
  clear Rm'
  clear hb NE
  go_wp2_with fail
  refine (O5.out _).mono ?_
  rintro e w13 ⟨rfl, hb⟩
  have Q' := Lib.hid (Q.out.trans (hb.mono Q.out.size))
  clear Q
  have Q := Q'
  clear Q'
  have Rb' := Lib.hid (Rb.out.later hb)
  clear Rb
  have Rb := Rb'
  clear Rb'
  have Rc' := Lib.hid (Rc.out.later hb)
  clear Rc
  have Rc := Rc'
  clear Rc'
  have Rd' := Lib.hid (Rd.out.later hb)
  clear Rd
  have Rd := Rd'
  clear Rd'
  have Rm' := Lib.hid (Rm.out.later hb)
  clear Rm
  have Rm := Rm'
  clear Rm'
  have RE' := Lib.hid (RE.out.later hb)
  clear RE
  have RE := RE'
  clear RE'
  clear hb
  go_wp2_with fail
  refine (O7.out _).mono ?_
  rintro e w14 ⟨rfl, hb⟩
  have Q' := Lib.hid (Q.out.trans (hb.mono Q.out.size))
  clear Q
  have Q := Q'
  clear Q'
  have Rb' := Lib.hid (Rb.out.later hb)
  clear Rb
  have Rb := Rb'
  clear Rb'
  have Rc' := Lib.hid (Rc.out.later hb)
  clear Rc
  have Rc := Rc'
  clear Rc'
  have Rd' := Lib.hid (Rd.out.later hb)
  clear Rd
  have Rd := Rd'
  clear Rd'
  have Rm' := Lib.hid (Rm.out.later hb)
  clear Rm
  have Rm := Rm'
  clear Rm'
  have RE' := Lib.hid (RE.out.later hb)
  clear RE
  have RE := RE'
  clear RE'
  clear hb
  have hc := put_any w14 (.slice (some ⟨w12.heap.size, 0, none⟩) 1 1) [(1, 0)] RE.out 5 7 (small256 5 (by omega)) (small256 7 (by omega))
  rw [r_e] at hc
  go_wp2_with fail
  refine hc.mono ?_
  clear hc
  intro e w15 hd
  obtain ⟨rfl, hq⟩ := hd.bad
  have Q' := Lib.hid (Q.out.trans (hq.mono Q.out.size))
  clear Q
  have Q := Q'
  clear Q'
  have Rb' := Lib.hid (Rb.out.later hq)
  clear Rb
  have Rb := Rb'
  clear Rb'
  have Rc' := Lib.hid (Rc.out.later hq)
  clear Rc
  have Rc := Rc'
  clear Rc'
  have Rd' := Lib.hid (Rd.out.later hq)
  clear Rd
  have Rd := Rd'
  clear Rd'
  have Rm' := Lib.hid (Rm.out.later hq)
  clear Rm
  have Rm := Rm'
  clear Rm'
  have RE' := Lib.hid (RE.out.later hq)
  clear RE
  have RE := RE'
  clear RE'
  clear hq
  clear hd
  clear RE
  go_wp2_with fail
  refine (O3.out _).mono ?_
  rintro e w16 ⟨rfl, hb⟩
  have Q' := Lib.hid (Q.out.trans (hb.mono Q.out.size))
  clear Q
  have Q := Q'
  clear Q'
  have Rb' := Lib.hid (Rb.out.later hb)
  clear Rb
  have Rb := Rb'
  clear Rb'
  have Rc' := Lib.hid (Rc.out.later hb)
  clear Rc
  have Rc := Rc'
  clear Rc'
  have Rd' := Lib.hid (Rd.out.later hb)
  clear Rd
  have Rd := Rd'
  clear Rd'
  have Rm' := Lib.hid (Rm.out.later hb)
  clear Rm
  have Rm := Rm'
  clear Rm'
  clear hb
  go_wp2_with fail
  refine (O1.out _).mono ?_
  rintro e w17 ⟨rfl, hb⟩
  have Q' := Lib.hid (Q.out.trans (hb.mono Q.out.size))
  clear Q
  have Q := Q'
  clear Q'
  have Rb' := Lib.hid (Rb.out.later hb)
  clear Rb
  have Rb := Rb'
  clear Rb'
  have Rc' := Lib.hid (Rc.out.later hb)
  clear Rc
  have Rc := Rc'
  clear Rc'
  have Rd' := Lib.hid (Rd.out.later hb)
  clear Rd
  have Rd := Rd'
  clear Rd'
  have Rm' := Lib.hid (Rm.out.later hb)
  clear Rm
  have Rm := Rm'
  clear Rm'
  clear hb
  go_wp2_with fail
  refine (O5.out _).mono ?_
  rintro e w18 ⟨rfl, hb⟩
  have Q' := Lib.hid (Q.out.trans (hb.mono Q.out.size))
  clear Q
  have Q := Q'
  clear Q'
  have Rb' := Lib.hid (Rb.out.later hb)
  clear Rb
  have Rb := Rb'
  clear Rb'
  have Rc' := Lib.hid (Rc.out.later hb)
  clear Rc
  have Rc := Rc'
  clear Rc'
  have Rd' := Lib.hid (Rd.out.later hb)
  clear Rd
  have Rd := Rd'
  clear Rd'
  have Rm' := Lib.hid (Rm.out.later hb)
  clear Rm
  have Rm := Rm'
  clear Rm'
  clear hb
  go_wp2_with fail
  refine (O7.out _).mono ?_
  rintro e w19 ⟨rfl, hb⟩
  have Q' := Lib.hid (Q.out.trans (hb.mono Q.out.size))
  clear Q
  have Q := Q'
  clear Q'
  have Rb' := Lib.hid (Rb.out.later hb)
  clear Rb
  have Rb := Rb'
  clear Rb'
  have Rc' := Lib.hid (Rc.out.later hb)
  clear Rc
  have Rc := Rc'
  clear Rc'
  have Rd' := Lib.hid (Rd.out.later hb)
  clear Rd
  have Rd := Rd'
  clear Rd'
  have Rm' := Lib.hid (Rm.out.later hb)
  clear Rm
  have Rm := Rm'
  clear Rm'
  clear hb
  have NE := Has.new w19 31 #[.int .u64 (lim 3 0), .int .u64 (lim 3 1), .int .u64 (lim 3 2), .int .u64 (lim 3 3), .int .u64 (lim 1 0), .int .u64 (lim 1 1), .int .u64 (lim 1 2), .int .u64 (lim 1 3), .int .u64 (lim 5 0), .int .u64 (lim 5 1), .int .u64 (lim 5 2), .int .u64 (lim 5 3), .int .u64 (lim 7 0), .int .u64 (lim 7 1), .int .u64 (lim 7 2), .int .u64 (lim 7 3)]
  have hq := (Below.refl w19.heap.size w19).alloc (Nat.le_refl _) (.cells #[.int .u64 (lim 3 0), .int .u64 (lim 3 1), .int .u64 (lim 3 2), .int .u64 (lim 3 3), .int .u64 (lim 1 0), .int .u64 (lim 1 1), .int .u64 (lim 1 2), .int .u64 (lim 1 3), .int .u64 (lim 5 0), .int .u64 (lim 5 1), .int .u64 (lim 5 2), .int .u64 (lim 5 3), .int .u64 (lim 7 0), .int .u64 (lim 7 1), .int .u64 (lim 7 2), .int .u64 (lim 7 3)] 31)
  have RX := Lib.hid (show SlotsAt (w19.alloc (.cells #[.int .u64 (lim 3 0), .int .u64 (lim 3 1), .int .u64 (lim 3 2), .int .u64 (lim 3 3), .int .u64 (lim 1 0), .int .u64 (lim 1 1), .int .u64 (lim 1 2), .int .u64 (lim 1 3), .int .u64 (lim 5 0), .int .u64 (lim 5 1), .int .u64 (lim 5 2), .int .u64 (lim 5 3), .int .u64 (lim 7 0), .int .u64 (lim 7 1), .int .u64 (lim 7 2), .int .u64 (lim 7 3)] 31)) (.slice (some ⟨w19.heap.size, 0, none⟩) 2 2) [(3, 1), (5, 7)] from slots_flat (by exact NE) (wide4 (by omega) (by omega) (by omega) (by omega)))
  have Q' := Lib.hid (Q.out.trans (hq.mono Q.out.size))
  clear Q
  have Q := Q'
  clear Q'
  have Rb' := Lib.hid (Rb.out.later hq)
  clear Rb
  have Rb := Rb'
  clear Rb'
  have Rc' := Lib.hid (Rc.out.later hq)
  clear Rc
  have Rc := Rc'
  clear Rc'
  have Rd' := Lib.hid (Rd.out.later hq)
  clear Rd
  have Rd := Rd'
  clear Rd'
  have Rm' := Lib.hid (Rm.out.later hq)
  clear Rm
  have Rm := Rm'
  clear Rm'
  clear hq
  clear NE
  have hc := same_any (w19.alloc (.cells #[.int .u64 (lim 3 0), .int .u64 (lim 3 1), .int .u64 (lim 3 2), .int .u64 (lim 3 3), .int .u64 (lim 1 0), .int .u64 (lim 1 1), .int .u64 (lim 1 2), .int .u64 (lim 1 3), .int .u64 (lim 5 0), .int .u64 (lim 5 1), .int .u64 (lim 5 2), .int .u64 (lim 5 3), .int .u64 (lim 7 0), .int .u64 (lim 7 1), .int .u64 (lim 7 2), .int .u64 (lim 7 3)] 31)) (.slice ab 2 cb) (.slice (some ⟨w19.heap.size, 0, none⟩) 2 2) [(3, 1), (5, 7)] [(3, 1), (5, 7)] Rb.out RX.out
  rw [decide_eq_true rfl] at hc
  go_wp2_with fail
  refine hc.mono ?_
  clear hc
  rintro e w20 ⟨rfl, hq⟩
  have Q' := Lib.hid (Q.out.trans (hq.mono Q.out.size))
  clear Q
  have Q := Q'
  clear Q'
  have Rb' := Lib.hid (Rb.out.later hq)
  clear Rb
  have Rb := Rb'
  clear Rb'
  have Rc' := Lib.hid (Rc.out.later hq)
  clear Rc
  have Rc := Rc'
  clear Rc'
  have Rd' := Lib.hid (Rd.out.later hq)
  clear Rd
  have Rd := Rd'
  clear Rd'
  have Rm' := Lib.hid (Rm.out.later hq)
  clear Rm
  have Rm := Rm'
  clear Rm'
  have RX' := Lib.hid (RX.out.later hq)
  clear RX
  have RX := RX'
  clear RX'
  clear hq
  clear RX
  go_wp2_with fail
  refine (O3.out _).mono ?_
  rintro e w21 ⟨rfl, hb⟩
  have Q' := Lib.hid (Q.out.trans (hb.mono Q.out.size))
  clear Q
  have Q := Q'
  clear Q'
  have Rb' := Lib.hid (Rb.out.later hb)
  clear Rb
  have Rb := Rb'
  clear Rb'
  have Rc' := Lib.hid (Rc.out.later hb)
  clear Rc
  have Rc := Rc'
  clear Rc'
  have Rd' := Lib.hid (Rd.out.later hb)
  clear Rd
  have Rd := Rd'
  clear Rd'
  have Rm' := Lib.hid (Rm.out.later hb)
  clear Rm
  have Rm := Rm'
  clear Rm'
  clear hb
  go_wp2_with fail
  refine (O1.out _).mono ?_
  rintro e w22 ⟨rfl, hb⟩
  have Q' := Lib.hid (Q.out.trans (hb.mono Q.out.size))
  clear Q
  have Q := Q'
  clear Q'
  have Rb' := Lib.hid (Rb.out.later hb)
  clear Rb
  have Rb := Rb'
  clear Rb'
  have Rc' := Lib.hid (Rc.out.later hb)
  clear Rc
  have Rc := Rc'
  clear Rc'
  have Rd' := Lib.hid (Rd.out.later hb)
  clear Rd
  have Rd := Rd'
  clear Rd'
  have Rm' := Lib.hid (Rm.out.later hb)
  clear Rm
  have Rm := Rm'
  clear Rm'
  clear hb
  have NE := Has.new w22 31 #[.int .u64 (lim 3 0), .int .u64 (lim 3 1), .int .u64 (lim 3 2), .int .u64 (lim 3 3), .int .u64 (lim 1 0), .int .u64 (lim 1 1), .int .u64 (lim 1 2), .int .u64 (lim 1 3)]
  have hq := (Below.refl w22.heap.size w22).alloc (Nat.le_refl _) (.cells #[.int .u64 (lim 3 0), .int .u64 (lim 3 1), .int .u64 (lim 3 2), .int .u64 (lim 3 3), .int .u64 (lim 1 0), .int .u64 (lim 1 1), .int .u64 (lim 1 2), .int .u64 (lim 1 3)] 31)
  have RY := Lib.hid (show SlotsAt (w22.alloc (.cells #[.int .u64 (lim 3 0), .int .u64 (lim 3 1), .int .u64 (lim 3 2), .int .u64 (lim 3 3), .int .u64 (lim 1 0), .int .u64 (lim 1 1), .int .u64 (lim 1 2), .int .u64 (lim 1 3)] 31)) (.slice (some ⟨w22.heap.size, 0, none⟩) 1 1) [(3, 1)] from slots_flat (by exact NE) (wide2 (by omega) (by omega)))
  have Q' := Lib.hid (Q.out.trans (hq.mono Q.out.size))
  clear Q
  have Q := Q'
  clear Q'
  have Rb' := Lib.hid (Rb.out.later hq)
  clear Rb
  have Rb := Rb'
  clear Rb'
  have Rc' := Lib.hid (Rc.out.later hq)
  clear Rc
  have Rc := Rc'
  clear Rc'
  have Rd' := Lib.hid (Rd.out.later hq)
  clear Rd
  have Rd := Rd'
  clear Rd'
  have Rm' := Lib.hid (Rm.out.later hq)
  clear Rm
  have Rm := Rm'
  clear Rm'
  clear hq
  clear NE
  have hc := same_any (w22.alloc (.cells #[.int .u64 (lim 3 0), .int .u64 (lim 3 1), .int .u64 (lim 3 2), .int .u64 (lim 3 3), .int .u64 (lim 1 0), .int .u64 (lim 1 1), .int .u64 (lim 1 2), .int .u64 (lim 1 3)] 31)) (.slice ac 1 cc) (.slice (some ⟨w22.heap.size, 0, none⟩) 1 1) [(3, 1)] [(3, 1)] Rc.out RY.out
  rw [decide_eq_true rfl] at hc
  go_wp2_with fail
  refine hc.mono ?_
  clear hc
  rintro e w23 ⟨rfl, hq⟩
  have Q' := Lib.hid (Q.out.trans (hq.mono Q.out.size))
  clear Q
  have Q := Q'
  clear Q'
  have Rb' := Lib.hid (Rb.out.later hq)
  clear Rb
  have Rb := Rb'
  clear Rb'
  have Rc' := Lib.hid (Rc.out.later hq)
  clear Rc
  have Rc := Rc'
  clear Rc'
  have Rd' := Lib.hid (Rd.out.later hq)
  clear Rd
  have Rd := Rd'
  clear Rd'
  have Rm' := Lib.hid (Rm.out.later hq)
  clear Rm
  have Rm := Rm'
  clear Rm'
  have RY' := Lib.hid (RY.out.later hq)
  clear RY
  have RY := RY'
  clear RY'
  clear hq
  clear RY
  go_wp2_with fail
  refine (O5.out _).mono ?_
  rintro e w24 ⟨rfl, hb⟩
  have Q' := Lib.hid (Q.out.trans (hb.mono Q.out.size))
  clear Q
  have Q := Q'
  clear Q'
  have Rb' := Lib.hid (Rb.out.later hb)
  clear Rb
  have Rb := Rb'
  clear Rb'
  have Rc' := Lib.hid (Rc.out.later hb)
  clear Rc
  have Rc := Rc'
  clear Rc'
  have Rd' := Lib.hid (Rd.out.later hb)
  clear Rd
  have Rd := Rd'
  clear Rd'
  have Rm' := Lib.hid (Rm.out.later hb)
  clear Rm
  have Rm := Rm'
  clear Rm'
  clear hb
  have NE := Has.new w24 31 #[.int .u64 (lim 5 0), .int .u64 (lim 5 1), .int .u64 (lim 5 2), .int .u64 (lim 5 3), .int .u64 0, .int .u64 0, .int .u64 0, .int .u64 0]
  have hq := (Below.refl w24.heap.size w24).alloc (Nat.le_refl _) (.cells #[.int .u64 (lim 5 0), .int .u64 (lim 5 1), .int .u64 (lim 5 2), .int .u64 (lim 5 3), .int .u64 0, .int .u64 0, .int .u64 0, .int .u64 0] 31)
  have RZ := Lib.hid (show SlotsAt (w24.alloc (.cells #[.int .u64 (lim 5 0), .int .u64 (lim 5 1), .int .u64 (lim 5 2), .int .u64 (lim 5 3), .int .u64 0, .int .u64 0, .int .u64 0, .int .u64 0] 31)) (.slice (some ⟨w24.heap.size, 0, none⟩) 1 1) [(5, 0)] from slots_one (by simp only [lim_zero]; exact NE) (small256 5 (by omega)) (small256 0 (by omega)))
  have Q' := Lib.hid (Q.out.trans (hq.mono Q.out.size))
  clear Q
  have Q := Q'
  clear Q'
  have Rb' := Lib.hid (Rb.out.later hq)
  clear Rb
  have Rb := Rb'
  clear Rb'
  have Rc' := Lib.hid (Rc.out.later hq)
  clear Rc
  have Rc := Rc'
  clear Rc'
  have Rd' := Lib.hid (Rd.out.later hq)
  clear Rd
  have Rd := Rd'
  clear Rd'
  have Rm' := Lib.hid (Rm.out.later hq)
  clear Rm
  have Rm := Rm'
  clear Rm'
  clear hq
  clear NE
  have hc := same_any (w24.alloc (.cells #[.int .u64 (lim 5 0), .int .u64 (lim 5 1), .int .u64 (lim 5 2), .int .u64 (lim 5 3), .int .u64 0, .int .u64 0, .int .u64 0, .int .u64 0] 31)) (.slice ad 1 cd) (.slice (some ⟨w24.heap.size, 0, none⟩) 1 1) [(5, 0)] [(5, 0)] Rd.out RZ.out
  rw [decide_eq_true rfl] at hc
  go_wp2_with fail
  refine hc.mono ?_
  clear hc
  rintro e w25 ⟨rfl, hq⟩
  have Q' := Lib.hid (Q.out.trans (hq.mono Q.out.size))
  clear Q
  have Q := Q'
  clear Q'
  have Rb' := Lib.hid (Rb.out.later hq)
  clear Rb
  have Rb := Rb'
  clear Rb'
  have Rc' := Lib.hid (Rc.out.later hq)
  clear Rc
  have Rc := Rc'
  clear Rc'
  have Rd' := Lib.hid (Rd.out.later hq)
  clear Rd
  have Rd := Rd'
  clear Rd'
  have Rm' := Lib.hid (Rm.out.later hq)
  clear Rm
  have Rm := Rm'
  clear Rm'
  have RZ' := Lib.hid (RZ.out.later hq)
  clear RZ
  have RZ := RZ'
  clear RZ'
  clear hq
  clear RZ
  have hc := same_any w25 (.slice am 1 cm) (.slice ac 1 cc) [(3, 1)] [(3, 1)] Rm.out Rc.out
  rw [decide_eq_true rfl] at hc
  go_wp2_with fail
  refine hc.mono ?_
  clear hc
  rintro e w26 ⟨rfl, hq⟩
  have Q' := Lib.hid (Q.out.trans (hq.mono Q.out.size))
  clear Q
  have Q := Q'
  clear Q'
  have Rb' := Lib.hid (Rb.out.later hq)
  clear Rb
  have Rb := Rb'
  clear Rb'
  have Rc' := Lib.hid (Rc.out.later hq)
  clear Rc
  have Rc := Rc'
  clear Rc'
  have Rd' := Lib.hid (Rd.out.later hq)
  clear Rd
  have Rd := Rd'
  clear Rd'
  have Rm' := Lib.hid (Rm.out.later hq)
  clear Rm
  have Rm := Rm'
  clear Rm'
  clear hq
  go_wp2_with fail
  refine (O5.out _).mono ?_
  rintro e w27 ⟨rfl, hb⟩
  have Q' := Lib.hid (Q.out.trans (hb.mono Q.out.size))
  clear Q
  have Q := Q'
  clear Q'
  have Rb' := Lib.hid (Rb.out.later hb)
  clear Rb
  have Rb := Rb'
  clear Rb'
  have Rc' := Lib.hid (Rc.out.later hb)
  clear Rc
  have Rc := Rc'
  clear Rc'
  have Rd' := Lib.hid (Rd.out.later hb)
  clear Rd
  have Rd := Rd'
  clear Rd'
  have Rm' := Lib.hid (Rm.out.later hb)
  clear Rm
  have Rm := Rm'
  clear Rm'
  clear hb
  have hc := get_any w27 (.slice ab 2 cb) [(3, 1), (5, 7)] Rb.out 5 (small256 5 (by omega))
  rw [l_b] at hc
  go_wp2_with fail
  refine hc.mono ?_
  clear hc
  rintro e w28 ⟨rfl, hq⟩
  have Q' := Lib.hid (Q.out.trans (hq.mono Q.out.size))
  clear Q
  have Q := Q'
  clear Q'
  have Rb' := Lib.hid (Rb.out.later hq)
  clear Rb
  have Rb := Rb'
  clear Rb'
  have Rc' := Lib.hid (Rc.out.later hq)
  clear Rc
  have Rc := Rc'
  clear Rc'
  have Rd' := Lib.hid (Rd.out.later hq)
  clear Rd
  have Rd := Rd'
  clear Rd'
  have Rm' := Lib.hid (Rm.out.later hq)
  clear Rm
  have Rm := Rm'
  clear Rm'
  clear hq
  unfold wv
  go_wp2_with fail
  refine (O7.out _).mono ?_
  rintro e w29 ⟨rfl, hb⟩
  have Q' := Lib.hid (Q.out.trans (hb.mono Q.out.size))
  clear Q
  have Q := Q'
  clear Q'
  have Rb' := Lib.hid (Rb.out.later hb)
  clear Rb
  have Rb := Rb'
  clear Rb'
  have Rc' := Lib.hid (Rc.out.later hb)
  clear Rc
  have Rc := Rc'
  clear Rc'
  have Rd' := Lib.hid (Rd.out.later hb)
  clear Rd
  have Rd := Rd'
  clear Rd'
  have Rm' := Lib.hid (Rm.out.later hb)
  clear Rm
  have Rm := Rm'
  clear Rm'
  clear hb
  have hc := right_slots w29 (.slice ab 2 cb) [(3, 1), (5, 7)] Rb.out
  rw [r_b] at hc
  go_wp2_with fail
  refine hc.mono ?_
  clear hc
  rintro e w30 ⟨rfl, hq⟩
  have Q' := Lib.hid (Q.out.trans (hq.mono Q.out.size))
  clear Q
  have Q := Q'
  clear Q'
  have Rb' := Lib.hid (Rb.out.later hq)
  clear Rb
  have Rb := Rb'
  clear Rb'
  have Rc' := Lib.hid (Rc.out.later hq)
  clear Rc
  have Rc := Rc'
  clear Rc'
  have Rd' := Lib.hid (Rd.out.later hq)
  clear Rd
  have Rd := Rd'
  clear Rd'
  have Rm' := Lib.hid (Rm.out.later hq)
  clear Rm
  have Rm := Rm'
  clear Rm'
  clear hq
  have hc := patch_any w30 (.slice ad 1 cd) [(5, 0)] Rd.out
  rw [p_d] at hc
  go_wp2_with fail
  refine hc.mono ?_
  clear hc
  rintro e w31 ⟨rfl, hq⟩
  have Q' := Lib.hid (Q.out.trans (hq.mono Q.out.size))
  clear Q
  have Q := Q'
  clear Q'
  have Rb' := Lib.hid (Rb.out.later hq)
  clear Rb
  have Rb := Rb'
  clear Rb'
  have Rc' := Lib.hid (Rc.out.later hq)
  clear Rc
  have Rc := Rc'
  clear Rc'
  have Rd' := Lib.hid (Rd.out.later hq)
  clear Rd
  have Rd := Rd'
  clear Rd'
  have Rm' := Lib.hid (Rm.out.later hq)
  clear Rm
  have Rm := Rm'
  clear Rm'
  clear hq
  have hc := right_slots w31 (.slice ad 1 cd) [(5, 0)] Rd.out
  rw [r_d] at hc
  go_wp2_with fail
  refine hc.mono ?_
  clear hc
  rintro e w32 ⟨rfl, hq⟩
  have Q' := Lib.hid (Q.out.trans (hq.mono Q.out.size))
  clear Q
  have Q := Q'
  clear Q'
  have Rb' := Lib.hid (Rb.out.later hq)
  clear Rb
  have Rb := Rb'
  clear Rb'
  have Rc' := Lib.hid (Rc.out.later hq)
  clear Rc
  have Rc := Rc'
  clear Rc'
  have Rd' := Lib.hid (Rd.out.later hq)
  clear Rd
  have Rd := Rd'
  clear Rd'
  have Rm' := Lib.hid (Rm.out.later hq)
  clear Rm
  have Rm := Rm'
  clear Rm'
  clear hq
  go_wp2_with fail
  go_ret
  exact ⟨rfl, Q.out⟩
end Go.Proofs.Ytcannohmbaaceaa
