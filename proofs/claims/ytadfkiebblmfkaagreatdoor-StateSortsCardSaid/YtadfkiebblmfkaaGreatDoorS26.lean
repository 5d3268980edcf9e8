import Derived.Test.YtadfkiebblmfkaaGreatDoorS24
/- What is read is right, and its bytes are those that were read; and what is right is read. Conditions: none. -/
namespace Go.Proofs.YtadfkiebblmfkaaGreatDoor

/-! ### Digits -/
theorem val256_snoc : ∀ (l : List UInt8) (n : Nat) (c : UInt8), val256 n (l ++ [c]) = val256 n l * 256 + c.toNat
  | [], n, c => rfl
  | x :: r, n, c => val256_snoc r _ c
theorem val256_from : ∀ (l : List UInt8) (n : Nat), val256 n l = n * 256 ^ l.length + val256 0 l
  | [], n => by simp [val256]
  | c :: r, n => by
    rw [val256, val256_from r, val256, val256_from r (0 * 256 + c.toNat), List.length_cons, Nat.pow_succ, Nat.add_mul, Nat.mul_comm (256 ^ r.length) 256, ← Nat.mul_assoc, Nat.zero_mul, Nat.zero_add]
    omega
theorem val256_lt : ∀ (l : List UInt8), val256 0 l < 256 ^ l.length
  | [] => by simp [val256]
  | c :: r => by
    have h := val256_lt r
    rw [val256, val256_from, List.length_cons, Nat.pow_succ]
    have hc := c.toNat_lt
    generalize 256 ^ r.length = p at *
    have : (0 * 256 + c.toNat) * p ≤ 255 * p := Nat.mul_le_mul_right _ (by omega)
    omega
theorem digs_zero : digs 0 = [] := by rw [digs]; simp
theorem digs_pos {n : Nat} (h : n ≠ 0) : digs n = digs (n / 256) ++ [UInt8.ofNat (n % 256)] := by rw [digs]; simp [h]
theorem val256_digs (n : Nat) : val256 0 (digs n) = n := by
  induction n using Nat.strongRecOn with
  | ind n ih =>
    by_cases h : n = 0
    · subst h; rw [digs_zero]; rfl
    · rw [digs_pos h, val256_snoc, ih _ (by omega), UInt8.toNat_ofNat']
      omega
/-- A list of digits without a nought ahead. -/
def Bare (l : List UInt8) : Prop := ∀ c r, l = c :: r → c ≠ 0
theorem digs_bare (n : Nat) : Bare (digs n) := by
  induction n using Nat.strongRecOn with
  | ind n ih =>
    by_cases h : n = 0
    · subst h; rw [digs_zero]; intro c r h; cases h
    · rw [digs_pos h]
      intro c r e
      rcases hd : digs (n / 256) with _ | ⟨x, y⟩
      · rw [hd] at e
        have hn : n / 256 = 0 := by
          have := val256_digs (n / 256)
          rw [hd] at this
          exact this.symm
        injection e with e1 _
        rw [← e1]
        intro h0
        have h1 : (UInt8.ofNat (n % 256)).toNat = (0 : UInt8).toNat := by rw [h0]
        rw [UInt8.toNat_ofNat'] at h1
        have : (0 : UInt8).toNat = 0 := rfl
        omega
      · rw [hd] at e
        injection e with e1 _
        rw [← e1]
        exact ih (n / 256) (by omega) x y hd
theorem snoc_cases {α : Type} (l : List α) : l = [] ∨ ∃ r c, l = r ++ [c] := by
  rcases h : l.reverse with _ | ⟨c, r⟩
  · exact .inl (by simpa using h)
  · exact .inr ⟨r.reverse, c, by have := congrArg List.reverse h; simpa using this⟩
theorem val256_pos {l : List UInt8} (h : Bare l) (hl : l ≠ []) : val256 0 l ≠ 0 := by
  rcases l with _ | ⟨c, r⟩
  · exact absurd rfl hl
  · have hc := h c r rfl
    have hp : 0 < 256 ^ r.length := Nat.pow_pos (by decide)
    rw [val256, val256_from]
    intro h0
    have : (0 * 256 + c.toNat) * 256 ^ r.length = 0 := by omega
    rcases Nat.mul_eq_zero.1 this with h1 | h1
    · exact hc (UInt8.toNat_inj.1 (by show c.toNat = 0; omega))
    · omega
theorem digs_val : ∀ (k : Nat) (l : List UInt8), l.length = k → Bare l → digs (val256 0 l) = l := by
  intro k
  induction k with
  | zero => intro l hl _; rw [List.length_eq_zero_iff.1 hl]; exact digs_zero
  | succ k ih =>
    intro l hl hb
    rcases snoc_cases l with rfl | ⟨r, c, rfl⟩
    · simp at hl
    · have hne := val256_pos hb (by simp)
      rw [digs_pos hne, val256_snoc]
      have hc := c.toNat_lt
      rw [show (val256 0 r * 256 + c.toNat) / 256 = val256 0 r by omega, show (val256 0 r * 256 + c.toNat) % 256 = c.toNat by omega, UInt8.ofNat_toNat]
      rw [ih r (by simpa using hl) (fun x y e => hb x (y ++ [c]) (by rw [e]; rfl))]
theorem digs_length {n k : Nat} (h : n < 256 ^ k) : (digs n).length ≤ k := by
  induction k generalizing n with
  | zero =>
    have : n = 0 := by simpa using h
    subst this
    rw [digs_zero]; simp
  | succ k ih =>
    by_cases h0 : n = 0
    · subst h0; rw [digs_zero]; simp
    · rw [digs_pos h0]
      have := ih (n := n / 256) (by rw [Nat.pow_succ] at h; omega)
      simp
      omega
theorem digs_nil {n : Nat} : digs n = [] ↔ n = 0 := by
  constructor
  · intro h
    have := val256_digs n
    rw [h] at this
    exact this.symm
  · rintro rfl; exact digs_zero
theorem digs_ge {n k : Nat} (h : 256 ^ k ≤ n) : k < (digs n).length := by
  rcases Nat.lt_or_ge k (digs n).length with h' | h'
  · exact h'
  · have h1 := val256_lt (digs n)
    rw [val256_digs] at h1
    have h2 : 256 ^ (digs n).length ≤ 256 ^ k := Nat.pow_le_pow_right (by decide) h'
    omega
theorem digs_mono {a b : Nat} (h : a ≤ b) : (digs a).length ≤ (digs b).length := by
  by_cases h0 : a = 0
  · subst h0; rw [digs_zero]; simp
  · obtain ⟨k, hk⟩ : ∃ k, (digs a).length = k + 1 := by
      rcases hd : (digs a).length with _ | k
      · exact absurd (digs_nil.1 (List.length_eq_zero_iff.1 hd)) h0
      · exact ⟨k, rfl⟩
    rw [hk]
    refine digs_ge (Nat.le_trans ?_ h)
    rcases hl : digs a with _ | ⟨c, r⟩
    · rw [hl] at hk; simp at hk
    · have hc := digs_bare a c r hl
      have hv := val256_digs a
      rw [hl] at hk hv
      have hr : r.length = k := by simpa using hk
      rw [val256, val256_from, hr] at hv
      have : 1 ≤ c.toNat := by
        rcases Nat.eq_zero_or_pos c.toNat with h | h
        · exact absurd (UInt8.toNat_inj.1 (by rw [h]; rfl)) hc
        · exact h
      have : 1 * 256 ^ k ≤ (0 * 256 + c.toNat) * 256 ^ k := Nat.mul_le_mul_right _ (by omega)
      omega

/-! ### Pieces of a text -/
def sl (s : List UInt8) (a b : Nat) : List UInt8 := (s.drop a).take (b - a)
theorem sl_length (s : List UInt8) (a b : Nat) (hb : b ≤ s.length) : (sl s a b).length = b - a := by
  unfold sl; rw [List.length_take, List.length_drop]; omega
theorem sl_append (s : List UInt8) {a b c : Nat} (h1 : a ≤ b) (h2 : b ≤ c) : sl s a b ++ sl s b c = sl s a c := by
  unfold sl
  have e1 : c - a = (b - a) + (c - b) := by omega
  rw [e1, List.take_add, List.drop_drop, show a + (b - a) = b by omega]
theorem sl_one (s : List UInt8) {a : Nat} (h : a < s.length) : sl s a (a + 1) = [s[a]] := by
  unfold sl
  rw [show a + 1 - a = 1 by omega, List.drop_eq_getElem_cons h]
  rfl
theorem sl_nil (s : List UInt8) (a : Nat) : sl s a a = [] := by unfold sl; simp
theorem sl_all (s : List UInt8) : sl s 0 s.length = s := by unfold sl; simp
theorem byteAt_lt (s : List UInt8) (a : Nat) : byteAt s a < 256 := UInt8.toNat_lt _
theorem byteAt_get (s : List UInt8) {a : Nat} (h : a < s.length) : byteAt s a = s[a].toNat := by
  unfold byteAt
  rw [List.getD_eq_getElem?_getD, List.getElem?_eq_getElem h]
  rfl
theorem one_byte (s : List UInt8) {a : Nat} (h : a < s.length) : [s[a]] = [UInt8.ofNat (byteAt s a)] := by
  rw [byteAt_get s h, UInt8.ofNat_toNat]

/-- A head that was read: it is the head of what it tells. -/
theorem rdHead_ok {s : List UInt8} {told e a n fr x : Nat} (kind : Nat) (hk : byteAt s a = kind + told) (ht : told ≤ 63) (ha : a < e) (he : e ≤ s.length) (h : rdHead s told e a = .ok n fr x) :
    sl s a fr = headL kind n ∧ a < fr ∧ fr + n ≤ e := by
  unfold rdHead at h
  by_cases h1 : told ≤ 55
  · rw [if_pos h1] at h
    by_cases h2 : a + 1 + told ≤ e
    · rw [if_pos h2] at h
      injection h with e1 e2 e3
      subst e1 e2
      refine ⟨?_, by omega, by omega⟩
      rw [sl_one s (by omega), one_byte s (by omega), headL, if_pos h1, hk]
    · rw [if_neg h2] at h; cases h
  · rw [if_neg h1] at h
    by_cases h2 : e < a + 1 + (told - 55)
    · rw [if_pos h2] at h; cases h
    · rw [if_neg h2] at h
      obtain ⟨dl, hdl⟩ : ∃ dl, told - 55 = dl := ⟨_, rfl⟩
      rw [hdl] at h h2
      have hds : (s.drop (a + 1)).take dl = sl s (a + 1) (a + 1 + dl) := by unfold sl; rw [show a + 1 + dl - (a + 1) = dl by omega]
      simp only [hds] at h
      by_cases h3 : byteAt s (a + 1) = 0 ∨ val256 0 (sl s (a + 1) (a + 1 + dl)) ≤ 55
      · rw [if_pos h3] at h; cases h
      · rw [if_neg h3] at h
        by_cases h4 : a + 1 + dl + val256 0 (sl s (a + 1) (a + 1 + dl)) ≤ e
        · rw [if_pos h4] at h
          injection h with e1 e2 e3
          subst e2
          have hlen := sl_length s (a + 1) (a + 1 + dl) (by omega)
          have hbare : Bare (sl s (a + 1) (a + 1 + dl)) := by
            intro c r hcr hc
            have hh := sl_append s (a := a + 1) (b := a + 1 + 1) (c := a + 1 + dl) (by omega) (by omega)
            rw [sl_one s (by omega), hcr] at hh
            injection hh with hh _
            refine h3 (.inl ?_)
            rw [byteAt_get s (by omega), hh, hc]
            rfl
          have hd := digs_val _ _ rfl hbare
          rw [e1] at hd h3 h4
          refine ⟨?_, by omega, by omega⟩
          rw [← sl_append s (b := a + 1) (by omega) (by omega), sl_one s (by omega), one_byte s (by omega), headL, if_neg (by omega), hd, hlen, hk]
          rw [show kind + told = kind + 55 + (a + 1 + dl - (a + 1)) by omega]
          rfl
        · rw [if_neg h4] at h; cases h
theorem rdHead_no {s : List UInt8} {told e a x p : Nat} (ha : a < e) (h : rdHead s told e a = .no x p) : a ≤ p ∧ p ≤ e ∧ x ≠ 0 := by
  unfold rdHead at h
  by_cases h1 : told ≤ 55
  · rw [if_pos h1] at h
    by_cases h2 : a + 1 + told ≤ e
    · rw [if_pos h2] at h; cases h
    · rw [if_neg h2] at h; injection h with e1 e2; subst e1 e2; exact ⟨by omega, by omega, by omega⟩
  · rw [if_neg h1] at h
    by_cases h2 : e < a + 1 + (told - 55)
    · rw [if_pos h2] at h; injection h with e1 e2; subst e1 e2; exact ⟨by omega, by omega, by omega⟩
    · rw [if_neg h2] at h
      simp only at h
      split at h
      · injection h with e1 e2; subst e1 e2; exact ⟨by omega, by omega, by omega⟩
      · split at h
        · cases h
        · injection h with e1 e2; subst e1 e2; exact ⟨by omega, by omega, by omega⟩

theorem encI_list (ks : List It) : encI (.mk true ⟨#[]⟩ ks) = headL 192 (encL ks).length ++ encL ks := by rw [encI]; simp
theorem encI_bare (b : ByteArray) (h : bareB b.data.toList = true) : encI (.mk false b []) = b.data.toList := by rw [encI]; simp [h]
theorem encI_text (b : ByteArray) (h : bareB b.data.toList = false) : encI (.mk false b []) = headL 128 b.data.toList.length ++ b.data.toList := by rw [encI]; simp [h]

/-- What was read well. -/
def Good (M : Nat) (s : List UInt8) (d e a m : Nat) (t : It) (a' m' : Nat) : Prop :=
  a < a' ∧ a' ≤ e ∧ sl s a a' = encI t ∧ m' = m + countI t ∧ m' ≤ M ∧ RightI d t
def GoodL (M : Nat) (s : List UInt8) (d e a m : Nat) (ts : List It) (a' m' : Nat) : Prop :=
  a ≤ a' ∧ a' ≤ e ∧ sl s a a' = encL ts ∧ m' = m + countL ts ∧ m' ≤ M ∧ ∀ t ∈ ts, RightI d t
theorem GoodL.snoc {M : Nat} {s : List UInt8} {d e a m : Nat} {ts : List It} {b n : Nat} (h : GoodL M s d e a m ts b n) {t : It} {a' m' : Nat} (k : Good M s d e b n t a' m') : GoodL M s d e a m (ts ++ [t]) a' m' := by
  obtain ⟨h1, h2, h3, h4, h5, h6⟩ := h
  obtain ⟨k1, k2, k3, k4, k5, k6⟩ := k
  refine ⟨by omega, k2, ?_, ?_, k5, ?_⟩
  · rw [← sl_append s h1 (Nat.le_of_lt k1), h3, k3, encL_append]; simp [encL]
  · rw [countL_append]; simp [countL]; omega
  · intro x hx
    rcases List.mem_append.1 hx with hx | hx
    · exact h6 x hx
    · simp at hx; subst hx; exact k6
theorem rdLoop_ok {M : Nat} {s : List UInt8} {d e a m : Nat} {rd : Nat → Nat → Rd It} (hrd : ∀ b n t a' m', b < e → rd b n = .ok t a' m' → Good M s d e b n t a' m') :
    ∀ (f b n : Nat) (acc : List It) (ts : List It) (a' m' : Nat), e ≤ b + f → GoodL M s d e a m acc b n → rdLoop rd e f b n acc = .ok ts a' m' → GoodL M s d e a m ts a' m' ∧ a' = e
  | 0, b, n, acc, ts, a', m', hf, hG, h => by
    rw [rdLoop] at h
    injection h with e1 e2 e3
    subst e1 e2 e3
    exact ⟨hG, by have := hG.2.1; omega⟩
  | f + 1, b, n, acc, ts, a', m', hf, hG, h => by
    rw [rdLoop] at h
    by_cases hb : b < e
    · rw [if_pos hb] at h
      rcases hr : rd b n with ⟨t, b', n'⟩ | ⟨x, p⟩
      · rw [hr] at h
        have hg := hrd b n t b' n' hb hr
        exact rdLoop_ok hrd f b' n' _ ts a' m' (by have := hg.1; omega) (hG.snoc hg) h
      · rw [hr] at h; cases h
    · rw [if_neg hb] at h
      injection h with e1 e2 e3
      subst e1 e2 e3
      exact ⟨hG, by have := hG.2.1; omega⟩

theorem no_ok {α : Type} {x p a m : Nat} {t : α} (h : Rd.no x p = Rd.ok t a m) : False := by cases h
theorem ite_split {α : Type} {c : Prop} [Decidable c] {x y z : α} (h : (if c then x else y) = z) : (c ∧ x = z) ∨ (¬ c ∧ y = z) := by
  by_cases hc : c
  · exact .inl ⟨hc, by rwa [if_pos hc] at h⟩
  · exact .inr ⟨hc, by rwa [if_neg hc] at h⟩
theorem full_split {α : Type} {m k : Nat} {x y z : α} (h : (if k ≤ m then x else y) = z) : z = x ∨ (m < k ∧ y = z) := by
  rcases ite_split h with ⟨_, h⟩ | ⟨h1, h⟩
  · exact .inl h.symm
  · exact .inr ⟨by omega, h⟩
set_option maxRecDepth 100000 in
theorem rdItem_ok (M : Nat) (s : List UInt8) : ∀ (d e a m : Nat) (t : It) (a' m' : Nat), e ≤ s.length → rdItem M s d e a m = .ok t a' m' → Good M s d e a m t a' m'
  | 0, e, a, m, t, a', m', he, h => by rw [rdItem] at h; cases h
  | d + 1, e, a, m, t, a', m', he, h => by
    rw [rdItem] at h
    unfold rdStep at h
    rcases full_split h with h | ⟨h1, h⟩
    · exact (no_ok h.symm).elim
    rcases ite_split h with ⟨_, h⟩ | ⟨h2, h⟩
    · exact (no_ok h).elim
    have ha : a < s.length := by omega
    have hc := byteAt_lt s a
    by_cases h3 : byteAt s a < 128
    · rw [if_pos h3] at h
      injection h with e1 e2 e3
      subst e1 e2 e3
      have hsl : (s.drop a).take 1 = [s[a]] := by have := sl_one s ha; unfold sl at this; rwa [show a + 1 - a = 1 by omega] at this
      rw [byteAt_get s ha] at h3
      refine ⟨by omega, by omega, ?_, by simp [countI, countL], by omega, ?_⟩
      · rw [hsl, encI_bare _ (by simp [bareB, h3]), sl_one s ha]
      · exact ⟨by simp [It.list], by simp [It.kids], by simp [It.kids]⟩
    rw [if_neg h3] at h
    by_cases h4 : byteAt s a < 192
    · rw [if_pos h4] at h
      rcases hh : rdHead s (byteAt s a - 128) e a with ⟨n, fr, x⟩ | ⟨x, p⟩
      · rw [hh] at h
        obtain ⟨g1, g2, g3⟩ := rdHead_ok 128 (by omega) (by omega) (by omega) he hh
        have hsl : (s.drop fr).take n = sl s fr (fr + n) := by unfold sl; rw [show fr + n - fr = n by omega]
        simp only [hsl] at h
        rcases hb : bareB (sl s fr (fr + n)) with _ | _
        · rw [hb] at h
          simp only [Bool.false_eq_true, if_false] at h
          injection h with e1 e2 e3
          subst e1 e2 e3
          have hlen := sl_length s fr (fr + n) (by omega)
          refine ⟨by omega, g3, ?_, by simp [countI, countL], by omega, ?_⟩
          · rw [encI_text _ (by exact hb), ← sl_append s (b := fr) (by omega) (by omega), g1]
            simp only [hlen]
            rw [show fr + n - fr = n by omega]
          · exact ⟨by simp [It.list], by simp [It.kids], by simp [It.kids]⟩
        · rw [hb] at h; simp at h
      · rw [hh] at h; cases h
    rw [if_neg h4] at h
    rcases hh : rdHead s (byteAt s a - 192) e a with ⟨n, fr, x⟩ | ⟨x, p⟩
    · rw [hh] at h
      obtain ⟨g1, g2, g3⟩ := rdHead_ok 192 (by omega) (by omega) (by omega) he hh
      simp only at h
      rw [show fr + n - fr = n by omega] at h
      rcases hl : rdLoop (rdItem M s d (fr + n)) (fr + n) n fr (m + 1) [] with ⟨ks, b', n'⟩ | ⟨x, p⟩
      · rw [hl] at h
        simp only at h
        injection h with e1 e2 e3
        subst e1 e2 e3
        obtain ⟨⟨q1, q2, q3, q4, q5, q6⟩, q7⟩ := rdLoop_ok (s := s) (d := d) (e := fr + n) (a := fr) (m := m + 1) (fun b n' t a' m' _ hr => rdItem_ok M s d (fr + n) b n' t a' m' (by omega) hr) n fr (m + 1) [] ks b' n' (by omega)
          ⟨by omega, by omega, by rw [sl_nil]; simp [encL], by simp [countL], by omega, by simp⟩ hl
        subst q7
        have hlen := sl_length s fr (fr + n) (by omega)
        refine ⟨by omega, by omega, ?_, by rw [countI]; omega, q5, ?_⟩
        · rw [encI_list, ← q3, hlen, show fr + n - fr = n by omega, ← g1, sl_append s (by omega) (by omega)]
        · exact ⟨by simp [It.bytes], by simp [It.list], by simpa [It.kids] using q6⟩
      · rw [hl] at h; cases h
    · rw [hh] at h; cases h

theorem rdLoop_no {d e a0 : Nat} {rd : Nat → Nat → Rd It} {P : Nat → Prop} (hno : ∀ b n x p, a0 ≤ b → b < e → rd b n = .no x p → a0 ≤ p ∧ p ≤ e ∧ x ≠ 0) (hok : ∀ b n t a' m', b < e → rd b n = .ok t a' m' → b < a') :
    ∀ (f b n : Nat) (acc : List It) (x p : Nat), a0 ≤ b → rdLoop rd e f b n acc = .no x p → a0 ≤ p ∧ p ≤ e ∧ x ≠ 0
  | 0, b, n, acc, x, p, _, h => by rw [rdLoop] at h; cases h
  | f + 1, b, n, acc, x, p, hb0, h => by
    rw [rdLoop] at h
    by_cases hb : b < e
    · rw [if_pos hb] at h
      rcases hr : rd b n with ⟨t, b', n'⟩ | ⟨x', p'⟩
      · rw [hr] at h
        exact rdLoop_no (d := d) (P := P) hno hok f b' n' _ x p (by have := hok _ _ _ _ _ hb hr; omega) h
      · rw [hr] at h
        injection h with e1 e2
        subst e1 e2
        exact hno _ _ _ _ hb0 hb hr
    · rw [if_neg hb] at h; cases h
set_option maxRecDepth 100000 in
theorem rdItem_no (M : Nat) (s : List UInt8) : ∀ (d e a m x p : Nat), e ≤ s.length → a ≤ e → rdItem M s d e a m = .no x p → a ≤ p ∧ p ≤ e ∧ x ≠ 0
  | 0, e, a, m, x, p, he, hae, h => by rw [rdItem] at h; injection h with e1 e2; subst e1 e2; exact ⟨by omega, by omega, by omega⟩
  | d + 1, e, a, m, x, p, he, hae, h => by
    rw [rdItem] at h
    unfold rdStep at h
    rcases full_split h with h | ⟨h1, h⟩
    · injection h with e1 e2; subst e1 e2; exact ⟨by omega, by omega, by omega⟩
    rcases ite_split h with ⟨_, h⟩ | ⟨h2, h⟩
    · injection h with e1 e2; subst e1 e2; exact ⟨by omega, by omega, by omega⟩
    have hc := byteAt_lt s a
    by_cases h3 : byteAt s a < 128
    · rw [if_pos h3] at h; cases h
    rw [if_neg h3] at h
    by_cases h4 : byteAt s a < 192
    · rw [if_pos h4] at h
      rcases hh : rdHead s (byteAt s a - 128) e a with ⟨n, fr, x'⟩ | ⟨x', p'⟩
      · rw [hh] at h
        simp only at h
        split at h
        · injection h with e1 e2; subst e1 e2; exact ⟨by omega, by omega, by omega⟩
        · cases h
      · rw [hh] at h; injection h with e1 e2; subst e1 e2; exact rdHead_no (by omega) hh
    rw [if_neg h4] at h
    rcases hh : rdHead s (byteAt s a - 192) e a with ⟨n, fr, x'⟩ | ⟨x', p'⟩
    · rw [hh] at h
      obtain ⟨g1, g2, g3⟩ := rdHead_ok 192 (by omega) (by omega) (by omega) he hh
      simp only at h
      rw [show fr + n - fr = n by omega] at h
      rcases hl : rdLoop (rdItem M s d (fr + n)) (fr + n) n fr (m + 1) [] with ⟨ks, b', n'⟩ | ⟨x', p'⟩
      · rw [hl] at h; cases h
      · rw [hl] at h
        injection h with e1 e2
        subst e1 e2
        have := rdLoop_no (d := 0) (P := fun _ => True) (e := fr + n) (a0 := fr) (rd := rdItem M s d (fr + n)) (fun b n' x p hb hbe hr => by
          have := rdItem_no M s d (fr + n) b n' x p (by omega) (by omega) hr
          exact ⟨by omega, this.2.1, this.2.2⟩) (fun b n' t a' m' hb hr => (rdItem_ok M s d (fr + n) b n' t a' m' (by omega) hr).1) n fr (m + 1) [] x' p' (by omega) hl
        exact ⟨by omega, by omega, this.2.2⟩
    · rw [hh] at h; injection h with e1 e2; subst e1 e2; exact rdHead_no (by omega) hh
end Go.Proofs.YtadfkiebblmfkaaGreatDoor
