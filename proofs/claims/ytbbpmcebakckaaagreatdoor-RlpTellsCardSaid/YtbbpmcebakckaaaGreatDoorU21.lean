import Derived.Test.YtbbpmcebakckaaaGreatDoorU03
import Derived.Test.YtbbpmcebakckaaaGreatDoorU05
import Derived.Test.YtbbpmcebakckaaaGreatDoorU18
/- The laws' helper 'pick'. -/
namespace Go.Proofs.YtbbpmcebakckaaaGreatDoor
open Go Go.RowKit
attribute [local go_sem] Oper.semAt_some Grows wide_fn

/-- What a raw number speaks of, of m things. -/
def pickN (c m : Int) : Int := (if c < 0 then -(c + 1) else c) % m
theorem pickN_range (c m : Int) (hm : 0 < m) : 0 ≤ pickN c m ∧ pickN c m < m := by
  unfold pickN
  exact ⟨Int.emod_nonneg _ (by omega), Int.emod_lt_of_pos _ hm⟩
theorem ofN_nat (n : Nat) : ofN (n : Int) = n := by unfold ofN; rw [if_neg (by omega)]; omega
theorem pick_ret (c : Int) (hc : I64 c) (m : Int) (hm : 0 < m) (hm2 : m ≤ 4611686018427387903) : Ret Tryz.prog 6 #[.int .i64 c, .int .i64 m] (.int .i64 (pickN c m)) := by
  refine Ret.of_same fun w => ?_
  unfold I64 at hc
  unfold pickN
  by_cases h : c < 0
  · rw [if_pos h]
    have h0 : (0 : Int) ≤ -(c + 1) := by omega
    have h1 : -(c + 1) < 9223372036854775808 := by omega
    have q0 := Int.emod_nonneg (-(c + 1)) (show m ≠ 0 by omega)
    have q1 := Int.emod_lt_of_pos (-(c + 1)) hm
    have e := Int.tmod_eq_emod_of_nonneg h0 (b := m)
    go_enter Tryz.func6, Tryz.ntmps6
    go_wp2
    go_ret
    exact ⟨rfl, rfl⟩
  · rw [if_neg h]
    have q0 := Int.emod_nonneg c (show m ≠ 0 by omega)
    have q1 := Int.emod_lt_of_pos c hm
    have e := Int.tmod_eq_emod_of_nonneg (show 0 ≤ c by omega) (b := m)
    go_enter Tryz.func6, Tryz.ntmps6
    go_wp2
    go_ret
    exact ⟨rfl, rfl⟩

end Go.Proofs.YtbbpmcebakckaaaGreatDoor

/- An item's bytes are read back as that item: the model. Conditions: none. -/
namespace Go.Proofs.YtbbpmcebakckaaaGreatDoor

theorem headL_pos (kind n : Nat) : 1 ≤ (headL kind n).length := by
  unfold headL
  split <;> simp
theorem encI_pos (t : It) : 1 ≤ (encI t).length := by
  obtain ⟨l, b, ks⟩ := t
  rw [encI]
  split
  · have := headL_pos 192 (encL ks).length
    simp only [List.length_append]; omega
  · split
    · rename_i h
      unfold bareB at h
      split at h
      · rename_i c hc; simp [hc]
      · cases h
    · have := headL_pos 128 b.data.toList.length
      simp only [List.length_append]; omega
theorem encI_le : ∀ {ks : List It} {k : It}, k ∈ ks → (encI k).length ≤ (encL ks).length
  | x :: ks, k, h => by
    rw [encL, List.length_append]
    rcases List.mem_cons.1 h with rfl | h
    · omega
    · have := encI_le h
      omega
theorem sl_split {s x y : List UInt8} {a : Nat} (hs : a + (x ++ y).length ≤ s.length) (h : sl s a (a + (x ++ y).length) = x ++ y) :
    sl s a (a + x.length) = x ∧ sl s (a + x.length) (a + x.length + y.length) = y := by
  have hl : (x ++ y).length = x.length + y.length := by simp
  have e := sl_append s (a := a) (b := a + x.length) (c := a + (x ++ y).length) (by omega) (by omega)
  rw [h] at e
  have l1 : (sl s a (a + x.length)).length = x.length := by rw [sl_length _ _ _ (by omega)]; omega
  obtain ⟨e1, e2⟩ := List.append_inj e l1
  refine ⟨e1, ?_⟩
  rw [show a + x.length + y.length = a + (x ++ y).length by omega]
  exact e2
theorem byteAt_sl {s : List UInt8} {a n : Nat} {c : UInt8} {r : List UInt8} (hn : 0 < n) (h : sl s a (a + n) = c :: r) : byteAt s a = c.toNat := by
  unfold sl at h
  rw [show a + n - a = n by omega] at h
  unfold byteAt
  have h0 := congrArg (fun l : List UInt8 => l[0]?) h
  simp only [List.getElem?_take, if_pos hn, List.getElem?_drop, Nat.add_zero, List.getElem?_cons_zero] at h0
  rw [List.getD_eq_getElem?_getD, h0]
  rfl
/-- What a head's first byte tells. -/
def toldL (n : Nat) : Nat := if n ≤ 55 then n else 55 + (digs n).length
theorem toldL_le {n : Nat} (h : n < 256 ^ 8) : toldL n ≤ 63 := by
  unfold toldL
  have := digs_length h
  split <;> omega
theorem head_back {s : List UInt8} {kind n a e : Nat} (hk : kind ≤ 192) (hn : n < 256 ^ 8) (he : e ≤ s.length) (hf : a + (headL kind n).length + n ≤ e)
    (h : sl s a (a + (headL kind n).length) = headL kind n) : byteAt s a = kind + toldL n ∧ rdHead s (toldL n) e a = .ok n (a + (headL kind n).length) 0 := by
  have h8 := digs_length hn
  unfold toldL
  by_cases h55 : n ≤ 55
  · have hh : headL kind n = [UInt8.ofNat (kind + n)] := if_pos h55
    rw [hh] at h hf ⊢
    simp only [List.length_cons, List.length_nil, Nat.zero_add] at h hf ⊢
    rw [if_pos h55]
    refine ⟨?_, ?_⟩
    · rw [byteAt_sl (by omega) h]
      simp; omega
    · unfold rdHead
      rw [if_pos h55, if_pos (by omega)]
  · have hh : headL kind n = UInt8.ofNat (kind + 55 + (digs n).length) :: digs n := if_neg h55
    have hd1 : (digs n).length ≠ 0 := fun h0 => by
      have := digs_nil.1 (List.length_eq_zero_iff.1 h0)
      omega
    rw [hh] at h hf ⊢
    rw [if_neg h55]
    have hb := byteAt_sl (by simp) h
    have h2 := sl_split (s := s) (x := [UInt8.ofNat (kind + 55 + (digs n).length)]) (y := digs n) (a := a) (by simp at hf ⊢; omega) h
    simp only [List.length_cons, List.length_nil, Nat.zero_add] at h2 hf ⊢
    have h3 := h2.2
    unfold sl at h3
    rw [show a + 1 + (digs n).length - (a + 1) = (digs n).length by omega] at h3
    refine ⟨?_, ?_⟩
    · rw [hb]
      simp; omega
    · unfold rdHead
      rw [if_neg (by omega), if_neg (by omega), show 55 + (digs n).length - 55 = (digs n).length by omega]
      simp only [h3, val256_digs]
      rw [if_neg ?_, if_pos (by omega)]
      · rw [show a + ((digs n).length + 1) = a + 1 + (digs n).length by omega]
      · rintro (h0 | h0)
        · rcases hd : digs n with _ | ⟨c, r⟩
          · rw [hd] at hd1; exact hd1 rfl
          · have h4 := h2.2
            rw [hd] at h4
            have := byteAt_sl (by simp) h4
            rw [this] at h0
            exact digs_bare n c r hd (UInt8.toNat_inj.1 h0)
        · omega
theorem loop_back {M : Nat} {s : List UInt8} {e : Nat} {rd : Nat → Nat → Rd It} (he : e ≤ s.length) : ∀ (ks acc : List It) (f a m : Nat),
    (∀ k ∈ ks, ∀ b n, b + (encI k).length ≤ e → sl s b (b + (encI k).length) = encI k → n + countI k ≤ M → rd b n = .ok k (b + (encI k).length) (n + countI k)) →
    a + (encL ks).length = e → sl s a (a + (encL ks).length) = encL ks → (encL ks).length ≤ f → m + countL ks ≤ M → rdLoop rd e f a m acc = .ok (acc ++ ks) e (m + countL ks)
  | [], acc, f, a, m, _, ha, _, _, _ => by
    simp only [encL, List.length_nil, Nat.add_zero] at ha
    subst ha
    cases f with
    | zero => simp [rdLoop, countL]
    | succ f => simp [rdLoop, countL]
  | k :: ks, acc, f, a, m, hrd, ha, h, hf, hm => by
    rw [encL] at ha h hf
    rw [countL] at hm ⊢
    have hp := encI_pos k
    have hl : (encI k ++ encL ks).length = (encI k).length + (encL ks).length := by simp
    obtain ⟨f, rfl⟩ : ∃ g, f = g + 1 := ⟨f - 1, by omega⟩
    obtain ⟨h1, h2⟩ := sl_split (by omega) h
    rw [rdLoop, if_pos (by omega), hrd k (by simp) a m (by omega) h1 (by omega)]
    simp only
    rw [loop_back he ks (acc ++ [k]) f _ _ (fun k' hk' => hrd k' (by simp [hk'])) (by omega) h2 (by omega) (by omega), List.append_assoc, List.singleton_append, Nat.add_assoc]
theorem item_back (M : Nat) (s : List UInt8) : ∀ (d : Nat) (t : It), RightI d t → ∀ (e a m : Nat), e ≤ s.length → a + (encI t).length ≤ e → sl s a (a + (encI t).length) = encI t → (encI t).length < 256 ^ 8 → m + countI t ≤ M →
    rdItem M s d e a m = .ok t (a + (encI t).length) (m + countI t)
  | 0, _, h, _, _, _, _, _, _, _, _ => absurd h (by simp [RightI])
  | d + 1, .mk l b ks, hR, e, a, m, he, ha, hs, hn, hm => by
    obtain ⟨hR1, hR2, hR3⟩ := hR
    have hp := encI_pos (.mk l b ks)
    have hc := countI_pos (.mk l b ks)
    rw [rdItem, rdStep, if_neg (by omega), if_neg (by omega)]
    cases l with
    | false =>
      have hk : ks = [] := List.length_eq_zero_iff.1 (hR2 rfl)
      subst hk
      have hc1 : countI (.mk false b []) = 1 := by simp [countI, countL]
      rw [hc1] at hm ⊢
      rcases hb : bareB b.data.toList with _ | _
      · have hE := encI_text b hb
        rw [hE] at hs ha hn ⊢
        have hl : (headL 128 b.data.toList.length ++ b.data.toList).length = (headL 128 b.data.toList.length).length + b.data.toList.length := by simp
        obtain ⟨h1, h2⟩ := sl_split (by omega) hs
        have hlt : b.data.toList.length < 256 ^ 8 := by omega
        obtain ⟨g1, g2⟩ := head_back (s := s) (kind := 128) (n := b.data.toList.length) (a := a) (e := e) (by omega) hlt he (by omega) h1
        have ht := toldL_le hlt
        rw [if_neg (by omega), if_pos (by omega), g1, show 128 + toldL b.data.toList.length - 128 = toldL b.data.toList.length by omega, g2]
        unfold sl at h2
        rw [show a + (headL 128 b.data.toList.length).length + b.data.toList.length - (a + (headL 128 b.data.toList.length).length) = b.data.toList.length by omega] at h2
        simp only [h2, hb]
        rw [hl, Nat.add_assoc]
        rfl
      · have hE := encI_bare b hb
        rw [hE] at hs ha hn ⊢
        unfold bareB at hb
        split at hb
        · rename_i c hcb
          have hcl : c.toNat < 128 := of_decide_eq_true hb
          rw [hcb] at hs ha ⊢
          simp only [List.length_cons, List.length_nil, Nat.zero_add] at hs ha ⊢
          have := byteAt_sl (by omega) hs
          rw [if_pos (by omega)]
          unfold sl at hs
          rw [show a + 1 - a = 1 by omega] at hs
          rw [hs, ← hcb]
        · cases hb
    | true =>
      have hb := hR1 rfl
      simp only [It.bytes] at hb
      subst hb
      have hc1 : countI (.mk true ⟨#[]⟩ ks) = 1 + countL ks := by rw [countI]
      rw [hc1] at hm ⊢
      have hE := encI_list ks
      rw [hE] at hs ha hn ⊢
      have hl : (headL 192 (encL ks).length ++ encL ks).length = (headL 192 (encL ks).length).length + (encL ks).length := by simp
      obtain ⟨h1, h2⟩ := sl_split (by omega) hs
      have hlt : (encL ks).length < 256 ^ 8 := by omega
      obtain ⟨g1, g2⟩ := head_back (s := s) (kind := 192) (n := (encL ks).length) (a := a) (e := e) (by omega) hlt he (by omega) h1
      rw [if_neg (by omega), if_neg (by omega), g1, show 192 + toldL (encL ks).length - 192 = toldL (encL ks).length by omega, g2]
      simp only
      rw [loop_back (M := M) (e := a + (headL 192 (encL ks).length).length + (encL ks).length) (by omega) ks [] _ _ (m + 1) (fun k hk b' n' hb' hs' hm' => item_back M s d k (hR3 k hk) _ b' n' (by omega) hb' hs' (by have := encI_le hk; omega) hm') rfl h2 (by omega) (by omega)]
      simp only [List.nil_append]
      rw [hl, Nat.add_assoc a, Nat.add_assoc m]
/-- A head whose bytes, or whose item's, are cut off. -/
theorem head_cut {s body : List UInt8} {kind n a e : Nat} (hk : kind ≤ 192) (hn : n < 256 ^ 8) (ha : a < e) (he : e < a + (headL kind n).length + n)
    (h : sl s a e = (headL kind n ++ body).take (e - a)) : byteAt s a = kind + toldL n ∧ rdHead s (toldL n) e a = .no 10 a := by
  have h8 := digs_length hn
  have h' : sl s a (a + (e - a)) = (headL kind n ++ body).take (e - a) := by rw [show a + (e - a) = e by omega]; exact h
  unfold toldL
  by_cases h55 : n ≤ 55
  · have hh : headL kind n = [UInt8.ofNat (kind + n)] := if_pos h55
    rw [hh] at h' he
    simp only [List.length_cons, List.length_nil, Nat.zero_add] at he
    rw [if_pos h55]
    obtain ⟨j, hj⟩ : ∃ j, e - a = j + 1 := ⟨e - a - 1, by omega⟩
    rw [hj, List.singleton_append, List.take_succ_cons] at h'
    refine ⟨?_, ?_⟩
    · rw [byteAt_sl (by omega) h']
      simp; omega
    · unfold rdHead
      rw [if_pos h55, if_neg (by omega)]
  · have hh : headL kind n = UInt8.ofNat (kind + 55 + (digs n).length) :: digs n := if_neg h55
    have hd1 : (digs n).length ≠ 0 := fun h0 => by
      have := digs_nil.1 (List.length_eq_zero_iff.1 h0)
      omega
    rw [hh] at h' he
    simp only [List.length_cons] at he
    rw [if_neg h55]
    obtain ⟨j, hj⟩ : ∃ j, e - a = j + 1 := ⟨e - a - 1, by omega⟩
    rw [hj, List.cons_append, List.take_succ_cons] at h'
    refine ⟨?_, ?_⟩
    · rw [byteAt_sl (by omega) h']
      simp; omega
    · unfold rdHead
      rw [if_neg (by omega), show 55 + (digs n).length - 55 = (digs n).length by omega]
      by_cases hc : e < a + 1 + (digs n).length
      · rw [if_pos hc]
      · rw [if_neg hc]
        have h2 : (s.drop (a + 1)).take j = (digs n ++ body).take j := by
          have := congrArg (fun l : List UInt8 => l.drop 1) h'
          unfold sl at this
          simp only [List.drop_succ_cons, List.drop_zero] at this
          rw [show a + (j + 1) - a = j + 1 by omega, List.drop_take, List.drop_drop, show j + 1 - 1 = j by omega] at this
          exact this
        have h3 : (s.drop (a + 1)).take (digs n).length = digs n := by
          have := congrArg (fun l : List UInt8 => l.take (digs n).length) h2
          simp only [List.take_take] at this
          rw [Nat.min_eq_left (by omega), List.take_left] at this
          exact this
        simp only [h3, val256_digs]
        rw [if_neg ?_, if_neg (by omega)]
        rintro (h0 | h0)
        · rcases hd : digs n with _ | ⟨c, r⟩
          · rw [hd] at hd1; exact hd1 rfl
          · have h4 : sl s (a + 1) (a + 1 + (digs n).length) = c :: r := by
              unfold sl
              rw [show a + 1 + (digs n).length - (a + 1) = (digs n).length by omega, h3, hd]
            have := byteAt_sl (by omega) h4
            rw [this] at h0
            exact digs_bare n c r hd (UInt8.toNat_inj.1 h0)
        · omega
theorem item_cut (M : Nat) (s : List UInt8) (d : Nat) (t : It) (hR : RightI (d + 1) t) (e a m : Nat) (he : a ≤ e) (hc : e < a + (encI t).length) (hs : sl s a e = (encI t).take (e - a)) (hn : (encI t).length < 256 ^ 8) (hm : m < M) :
    rdItem M s (d + 1) e a m = .no 10 a := by
  obtain ⟨l, b, ks⟩ := t
  obtain ⟨hR1, hR2, hR3⟩ := hR
  rw [rdItem, rdStep, if_neg (by omega)]
  by_cases ha : e ≤ a
  · rw [if_pos ha]
  · rw [if_neg ha]
    cases l with
    | false =>
      have hk : ks = [] := List.length_eq_zero_iff.1 (hR2 rfl)
      subst hk
      rcases hb : bareB b.data.toList with _ | _
      · have hE := encI_text b hb
        rw [hE] at hs hc hn
        simp only [List.length_append] at hc hn
        have hlt : b.data.toList.length < 256 ^ 8 := by omega
        obtain ⟨g1, g2⟩ := head_cut (s := s) (kind := 128) (n := b.data.toList.length) (a := a) (e := e) (by omega) hlt (by omega) (by omega) hs
        have ht := toldL_le hlt
        rw [if_neg (by omega), if_pos (by omega), g1, show 128 + toldL b.data.toList.length - 128 = toldL b.data.toList.length by omega, g2]
      · have hE := encI_bare b hb
        rw [hE] at hc
        unfold bareB at hb
        split at hb
        · rename_i c hcb
          rw [hcb] at hc
          simp only [List.length_cons, List.length_nil, Nat.zero_add] at hc
          omega
        · cases hb
    | true =>
      have hb := hR1 rfl
      simp only [It.bytes] at hb
      subst hb
      have hE := encI_list ks
      rw [hE] at hs hc hn
      simp only [List.length_append] at hc hn
      have hlt : (encL ks).length < 256 ^ 8 := by omega
      obtain ⟨g1, g2⟩ := head_cut (s := s) (kind := 192) (n := (encL ks).length) (a := a) (e := e) (by omega) hlt (by omega) (by omega) hs
      rw [if_neg (by omega), if_neg (by omega), g1, show 192 + toldL (encL ks).length - 192 = toldL (encL ks).length by omega, g2]
end Go.Proofs.YtbbpmcebakckaaaGreatDoor

/- An item's bytes, more than these, and a beginning of these, as Decode reads them: the model. Conditions: none. -/
namespace Go.Proofs.YtbbpmcebakckaaaGreatDoor
open Go Go.RowKit

theorem size_mkL (l : List UInt8) : (⟨l.toArray⟩ : ByteArray).size = l.length := by simp [ByteArray.size]
theorem decR_list (l : List UInt8) (h : l.length ≤ 1048576) : decR ⟨l.toArray⟩ = topR l.length (rdItem 5000 l 16 l.length 0 0) := by
  unfold decR rdTop rdI
  rw [size_mkL, if_neg (by omega)]
theorem len8 {n : Nat} (h : n ≤ 1048576) : n < 256 ^ 8 := by
  have : (256 : Nat) ^ 8 = 18446744073709551616 := by decide
  omega
theorem dec_more' (t : It) (r : List UInt8) (hok : okI t = true) (hl : (encI t).length + r.length ≤ 1048576) : rdItem 5000 (encI t ++ r) 16 (encI t ++ r).length 0 0 = .ok t (encI t).length (countI t) := by
  obtain ⟨hc, hR⟩ := okI_right hok
  have hn : (encI t).length < 256 ^ 8 := len8 (by omega)
  have hs : sl (encI t ++ r) 0 (0 + (encI t).length) = encI t := by unfold sl; simp
  have := item_back 5000 (encI t ++ r) 16 t hR (encI t ++ r).length 0 0 (Nat.le_refl _) (by simp) hs hn (by omega)
  simpa using this
theorem dec_enc (t : It) (hok : okI t = true) (hl : (encI t).length ≤ 1048576) : decR ⟨(encI t).toArray⟩ = .ok t (encI t).length (countI t) := by
  rw [decR_list _ hl]
  have := dec_more' t [] hok (by simpa using hl)
  rw [List.append_nil] at this
  rw [this]
  unfold topR
  simp
theorem dec_more (t : It) (r : List UInt8) (hok : okI t = true) (hl : (encI t).length + r.length ≤ 1048576) (hr : r ≠ []) : decR ⟨(encI t ++ r).toArray⟩ = .no 12 (encI t).length := by
  rw [decR_list _ (by simpa using hl), dec_more' t r hok hl]
  have hp : 0 < r.length := List.length_pos_iff.2 hr
  unfold topR
  simp only [List.length_append]
  rw [if_pos (by omega)]
theorem dec_cut (t : It) (k : Nat) (hok : okI t = true) (hl : (encI t).length ≤ 1048576) (hk : k < (encI t).length) : decR ⟨((encI t).take k).toArray⟩ = .no 10 0 := by
  obtain ⟨hc, hR⟩ := okI_right hok
  have hkl : ((encI t).take k).length = k := by rw [List.length_take]; omega
  rw [decR_list _ (by omega), hkl]
  have hs : sl ((encI t).take k) 0 k = (encI t).take (k - 0) := by unfold sl; simp [List.take_take]
  rw [item_cut 5000 _ 15 t hR k 0 0 (by omega) (by omega) hs (len8 hl) (by omega)]
  rfl
end Go.Proofs.YtbbpmcebakckaaaGreatDoor
