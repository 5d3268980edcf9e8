import Derived.Test.YtbbpmcebakckaaaGreatDoorU21
import Derived.Test.YtbbpmcebakckaaaGreatDoorU03
import Derived.Test.YtbbpmcebakckaaaGreatDoorU14
import Derived.Test.YtbbpmcebakckaaaGreatDoorU22
import Derived.Test.YtbbpmcebakckaaaGreatDoorU19
import Derived.Test.YtbbpmcebakckaaaGreatDoorU18
import Derived.Laws.MakeOwn
/- How great an item that is made of so many raw numbers may be: the model. Conditions: none. -/
namespace Go.Proofs.YtbbpmcebakckaaaGreatDoor
open Go

/-- An item of n raw numbers, lists d deep. -/
def SmallI (n d : Nat) (t : It) : Prop := RightI (d + 1) t ∧ countI t ≤ 2 ^ n ∧ (encI t).length ≤ 79 * 2 ^ n
/-- Its kids, behind i of the raw numbers. -/
def SmallL (n d i : Nat) (ks : List It) : Prop := (∀ k ∈ ks, RightI d k) ∧ countL ks + 2 ^ (n - i) ≤ 2 ^ n ∧ (encL ks).length + 79 * 2 ^ (n - i) ≤ 79 * 2 ^ n ∧ ks.length ≤ i
theorem SmallL.start (n d : Nat) : SmallL n d 0 [] := ⟨(fun k h => by cases h), by simp [countL], by simp [encL], by simp⟩
theorem SmallL.skip {n d i j : Nat} {ks : List It} (h : SmallL n d i ks) (hij : i ≤ j) : SmallL n d j ks := by
  obtain ⟨h1, h2, h3, h4⟩ := h
  have hp : 2 ^ (n - j) ≤ 2 ^ (n - i) := Nat.pow_le_pow_right (by decide) (by omega)
  exact ⟨h1, by omega, by omega, by omega⟩
theorem SmallL.snoc {n d i : Nat} {ks : List It} (h : SmallL n d i ks) (hi : i < n) {k : It} (h1 : RightI d k) (h2 : countI k ≤ 2 ^ (n - i - 1)) (h3 : (encI k).length ≤ 79 * 2 ^ (n - i - 1)) : SmallL n d (i + 1) (ks ++ [k]) := by
  obtain ⟨g1, g2, g3, g4⟩ := h
  have hp : 2 ^ (n - i) = 2 * 2 ^ (n - i - 1) := by
    rw [show n - i = (n - i - 1) + 1 by omega, Nat.pow_succ]
    simp only [Nat.add_sub_cancel]
    omega
  rw [hp] at g2 g3
  rw [show n - i - 1 = n - (i + 1) by omega] at h2 h3 g2 g3
  refine ⟨fun x hx => ?_, ?_, ?_, by simp; omega⟩
  · rcases List.mem_append.1 hx with hx | hx
    · exact g1 x hx
    · rw [List.mem_singleton.1 hx]; exact h1
  · rw [countL_append, countL, countL]; omega
  · rw [encL_append, List.length_append, encL, encL, List.append_nil]; omega
theorem SmallL.done {n d i : Nat} {ks : List It} (hn : n ≤ 9) (h : SmallL n d i ks) : SmallI n d (.mk true ⟨#[]⟩ ks) := by
  obtain ⟨g1, g2, g3, g4⟩ := h
  have hp : 1 ≤ 2 ^ (n - i) := Nat.one_le_two_pow
  have hN : 2 ^ n ≤ 2 ^ 9 := Nat.pow_le_pow_right (by decide) hn
  have h9 : (headL 192 (encL ks).length).length ≤ 9 := by
    unfold headL
    have h8 : (digs (encL ks).length).length ≤ 8 := digs_length (by
      have : (256 : Nat) ^ 8 = 18446744073709551616 := by decide
      have : (2 : Nat) ^ 9 = 512 := by decide
      omega)
    split <;> simp only [List.length_cons, List.length_nil] <;> omega
  refine ⟨⟨fun _ => rfl, (fun h => by cases h), g1⟩, ?_, ?_⟩
  · rw [countI]; omega
  · rw [encI_list, List.length_append]; omega
theorem small_text {d m : Nat} (b : ByteArray) (hb : b.size ≤ 70) : RightI (d + 1) (.mk false b []) ∧ countI (.mk false b []) ≤ 2 ^ m ∧ (encI (.mk false b [])).length ≤ 79 * 2 ^ m := by
  have hp : 1 ≤ 2 ^ m := Nat.one_le_two_pow
  have hl : b.data.toList.length ≤ 70 := by simpa using hb
  refine ⟨⟨(fun h => by cases h), fun _ => rfl, (fun k h => by cases h)⟩, ?_, ?_⟩
  · simp [countI, countL]; omega
  · rcases hB : bareB b.data.toList with _ | _
    · rw [encI_text b hB, List.length_append]
      have h9 : (headL 128 b.data.toList.length).length ≤ 9 := by
        unfold headL
        have h8 : (digs b.data.toList.length).length ≤ 8 := digs_length (by
          have : (256 : Nat) ^ 8 = 18446744073709551616 := by decide
          omega)
        split <;> simp only [List.length_cons, List.length_nil] <;> omega
      omega
    · rw [encI_bare b hB]; omega
theorem small_nil {d m : Nat} : RightI (d + 1) (.mk true ⟨#[]⟩ []) ∧ countI (.mk true ⟨#[]⟩ []) ≤ 2 ^ m ∧ (encI (.mk true ⟨#[]⟩ [])).length ≤ 79 * 2 ^ m := by
  have hp : 1 ≤ 2 ^ m := Nat.one_le_two_pow
  refine ⟨⟨fun _ => rfl, (fun h => by cases h), (fun k h => by cases h)⟩, ?_, ?_⟩
  · simp [countI, countL]; omega
  · rw [encI_list]
    simp [encL, headL]
    omega
theorem SmallI.more {n n' d d' : Nat} {t : It} (h : SmallI n d t) (hn : n ≤ n') (hd : d + 1 = d') : RightI d' t ∧ countI t ≤ 2 ^ n' ∧ (encI t).length ≤ 79 * 2 ^ n' := by
  have hp : 2 ^ n ≤ 2 ^ n' := Nat.pow_le_pow_right (by decide) hn
  subst hd
  exact ⟨h.1, by have := h.2.1; omega, by have := h.2.2; omega⟩
end Go.Proofs.YtbbpmcebakckaaaGreatDoor

/- Raw numbers, two by two: how they lie in memory. Conditions: none. -/
namespace Go.Proofs.YtbbpmcebakckaaaGreatDoor
open Go Go.RowKit

/-- Pairs of numbers, one behind the other. -/
def RawAt (W : World) (v : Value) (zs : List (Int × Int)) : Prop :=
  ∃ a cap, v = .slice a zs.length cap ∧ zs.length ≤ cap ∧ cap ≤ 9223372036854775807 ∧ ∀ (i : Nat) (p : Int × Int), zs[i]? = some p → I64 p.1 ∧ I64 p.2 ∧ ∃ b, a = some b ∧ W.cell? (b.add (i * 2)) = some (.int .i64 p.1) ∧ W.cell? ((b.add (i * 2)).add 1) = some (.int .i64 p.2)
theorem Addr.add_add (b : Addr) (i j : Nat) : (b.add i).add j = b.add (i + j) := by
  unfold Addr.add
  by_cases hi : i = 0
  · subst hi; simp
  · by_cases hj : j = 0
    · subst hj; simp [hi]
    · simp only [hi, hj, if_false]
      rw [if_neg (by omega)]
      simp [Nat.add_assoc]
theorem RawAt.keep {W X : World} {v : Value} {zs : List (Int × Int)} (h : RawAt W v zs) (hk : ∀ (a : Addr) (u : Value), W.cell? a = some u → X.cell? a = some u) : RawAt X v zs := by
  obtain ⟨a, cap, h1, h2, h3, h4⟩ := h
  refine ⟨a, cap, h1, h2, h3, fun i p hp => ?_⟩
  obtain ⟨g1, g2, b, e, c0, c1⟩ := h4 i p hp
  exact ⟨g1, g2, b, e, hk _ _ c0, hk _ _ c1⟩
theorem cell_lt {W : World} {a : Addr} {u : Value} (h : W.cell? a = some u) : a.block < W.heap.size := by
  unfold World.cell? at h
  rcases Nat.lt_or_ge a.block W.heap.size with h' | h'
  · exact h'
  · rw [Array.getElem?_eq_none h'] at h
    cases h
theorem cell_below {W X : World} (hb : Below W.heap.size W X) (a : Addr) (u : Value) (h : W.cell? a = some u) : X.cell? a = some u := by
  exact (World.cell?_of_block (hb.block _ (cell_lt h))).trans h
theorem RawAt.later {W X : World} {v : Value} {zs : List (Int × Int)} (h : RawAt W v zs) (hb : Below W.heap.size W X) : RawAt X v zs := h.keep (cell_below hb)
/-- The first k of them. -/
theorem RawAt.take {W : World} {a : Option Addr} {n cap : Nat} {zs : List (Int × Int)} (h : RawAt W (.slice a n cap) zs) (k : Nat) (hk : k ≤ n) : RawAt W (.slice a k cap) (zs.take k) := by
  obtain ⟨a', cap', h1, h2, h3, h4⟩ := h
  injection h1 with e1 e2 e3
  subst e1 e3
  refine ⟨a, cap, by rw [List.length_take, Nat.min_eq_left (by omega)], by rw [List.length_take]; omega, h3, fun i p hp => ?_⟩
  rw [List.getElem?_take] at hp
  split at hp
  · exact h4 i p hp
  · cases hp
/-- Those behind the first k. -/
theorem RawAt.drop {W : World} {a : Option Addr} {n cap : Nat} {zs : List (Int × Int)} (h : RawAt W (.slice a n cap) zs) (k : Nat) (hk : k ≤ n) : RawAt W (.slice (if cap = k then a else a.map (·.add (k * 2))) (n - k) (cap - k)) (zs.drop k) := by
  obtain ⟨a', cap', h1, h2, h3, h4⟩ := h
  injection h1 with e1 e2 e3
  subst e1 e3
  refine ⟨_, _, by rw [List.length_drop, e2], by rw [List.length_drop]; omega, by omega, fun i p hp => ?_⟩
  rw [List.getElem?_drop] at hp
  have hlt := (List.getElem?_eq_some_iff.1 hp).1
  obtain ⟨g1, g2, b, e, c0, c1⟩ := h4 (k + i) p hp
  refine ⟨g1, g2, b.add (k * 2), ?_, ?_, ?_⟩
  · rw [if_neg (by omega), e]; rfl
  · rw [Addr.add_add, ← Nat.add_mul]; exact c0
  · rw [Addr.add_add] at c1
    rw [Addr.add_add, Addr.add_add, show k * 2 + (i * 2 + 1) = (k + i) * 2 + 1 by omega]; exact c1
theorem RawAt.len {W : World} {v : Value} {zs : List (Int × Int)} (h : RawAt W v zs) : zs.length ≤ 9223372036854775807 := by
  obtain ⟨a, cap, h1, h2, h3, h4⟩ := h
  omega
end Go.Proofs.YtbbpmcebakckaaaGreatDoor

/- One item more behind the row that a box holds, in whatever order the region's operations come: what is known meanwhile. Conditions: none. -/
namespace Go.Proofs.YtbbpmcebakckaaaGreatDoor
open Go Go.RowKit

/-- A row and one item more, once the append is done. -/
theorem RowK.push {y w' : World} {base : Nat} {sv v' : Value} {ks : List It} {t : It} {u0 u1 u2 : Value} {vs : List (Value × Value × Value)} (hvs : vs.length = ks.length)
    (hks : ∀ (j : Nat) (k : It) (v : Value × Value × Value), ks[j]? = some k → vs[j]? = some v → ItemS y (fun b => base ≤ b ∧ sv.ownBlock ≠ some b) k (.agg #[v.1, v.2.1, v.2.2]))
    (ht : ItemS y (fun b => base ≤ b ∧ sv.ownBlock ≠ some b) t (.agg #[u0, u1, u2])) (ho : w'.ownsRow base 29 3 v' (ks.length + 1) (flat3 vs ++ [u0, u1, u2]))
    (hg : y.grownBy w' sv.ownBlock) (hn : NewBlock y sv v') : RowK w' base v' (ks ++ [t]) := by
  have hk : ∀ {k : It} {v : Value}, ItemS y (fun b => base ≤ b ∧ sv.ownBlock ≠ some b) k v → ItemS w' (fun b => base ≤ b ∧ v'.ownBlock ≠ some b) k v := fun h =>
    h.keep (fun b hb hl => hg.block b hl (fun e => hb.2 e.symm)) (fun b hb hl => ⟨hb.1, fun e => by
      rcases hn with h | h
      · exact hb.2 (h ▸ e)
      · rw [h] at e; injection e with e; omega⟩)
  refine ⟨vs ++ [(u0, u1, u2)], by simp [hvs], ?_, fun j k v hj hv => ?_⟩
  · rw [flat3_append, List.length_append]; exact ho
  · by_cases hjl : j < ks.length
    · rw [List.getElem?_append_left (by omega)] at hj hv
      exact hk (hks j k v hj hv)
    · have hj2 : j = ks.length := by
        have := (List.getElem?_eq_some_iff.1 hj).1
        simp at this
        omega
      subst hj2
      rw [List.getElem?_append_right (by omega)] at hj hv
      simp at hj
      simp [hvs] at hv
      subst hj hv
      exact hk ht

/-- ib: the slice of the new item, ia: the row with it, is: the store. -/
def PushU (W : World) (base Bo : Nat) (sv : Value) (ks : List It) (ib ia is : Nat) (Ok : It → Prop) (f : Nat → Bool) (g : Nat → Value) (y : World) : Prop :=
  TwoB Bo sv W y ∧ (f is = false → Has y Bo 29 #[.bool true, .string ⟨#[]⟩, sv]) ∧ (f ia = false → RowK y base sv ks) ∧
  (f ib = true → f ia = false → ∃ b4 u0 u1 u2 t, g ib = .slice (some ⟨b4, 0, none⟩) 1 1 ∧ Has y b4 29 #[u0, u1, u2] ∧ ItemS y (fun b => base ≤ b ∧ sv.ownBlock ≠ some b) t (.agg #[u0, u1, u2]) ∧ Ok t) ∧
  (f ia = true → ∃ t, Ok t ∧ RowK y base (g ia) (ks ++ [t]) ∧ (g ia).ownBlock ≠ some Bo) ∧ (f is = true → Has y Bo 29 #[.bool true, .string ⟨#[]⟩, g ia])
variable {W : World} {base Bo : Nat} {sv : Value} {ks : List It} {ib ia is : Nat} {Ok : It → Prop} {f : Nat → Bool} {g : Nat → Value} {y : World}
theorem PushU.later (h : PushU W base Bo sv ks ib ia is Ok f g y) {z : World} (hb : Below y.heap.size y z) : PushU W base Bo sv ks ib ia is Ok f g z := by
  obtain ⟨h1, h2, h3, h4, h5, h6⟩ := h
  refine ⟨h1.below hb, fun h => (h2 h).later hb, fun h => (h3 h).later hb, fun h h' => ?_, fun h => ?_, fun h => (h6 h).later hb⟩
  · obtain ⟨b4, u0, u1, u2, t, e1, e2, e3, e4⟩ := h4 h h'
    exact ⟨b4, u0, u1, u2, t, e1, e2.later hb, e3.later hb, e4⟩
  · obtain ⟨t, e1, e2, e3⟩ := h5 h
    exact ⟨t, e1, e2.later hb, e3⟩
theorem PushU.same {f' : Nat → Bool} {g' : Nat → Value} (h : PushU W base Bo sv ks ib ia is Ok f g y) (hb : f ib = f' ib ∧ g ib = g' ib) (ha : f ia = f' ia ∧ g ia = g' ia) (hs : f is = f' is) : PushU W base Bo sv ks ib ia is Ok f' g' y := by
  unfold PushU at h ⊢
  rw [hb.1, hb.2, ha.1, ha.2, hs] at h
  exact h
theorem PushU.start (hB : Has W Bo 29 #[.bool true, .string ⟨#[]⟩, sv]) (hr : RowK W base sv ks) : PushU W base Bo sv ks ib ia is Ok (fun _ => false) g { W with drawn := W.drawn + 1 } := by
  refine ⟨(TwoB.refl _ _ _).below (Below.refl _ _).drew, fun _ => hB, fun _ => hr.later (Below.refl _ _).drew, ?_, ?_, ?_⟩
  · intro h; exact absurd h (by simp)
  · intro h; exact absurd h (by simp)
  · intro h; exact absurd h (by simp)
theorem PushU.start0 (hB : Has W Bo 29 #[.bool true, .string ⟨#[]⟩, sv]) (hr : RowK W base sv ks) : PushU W base Bo sv ks ib ia is Ok (fun _ => false) g W := by
  refine ⟨TwoB.refl _ _ _, fun _ => hB, fun _ => hr, ?_, ?_, ?_⟩
  · intro h; exact absurd h (by simp)
  · intro h; exact absurd h (by simp)
  · intro h; exact absurd h (by simp)
theorem PushU.shape (h : PushU W base Bo sv ks ib ia is Ok f g y) (ha : f ia = true) : ∃ a c, g ia = .slice a (ks.length + 1) c := by
  obtain ⟨t, _, hr, _⟩ := h.2.2.2.2.1 ha
  obtain ⟨a, c, e⟩ := hr.shape
  exact ⟨a, c, by simpa using e⟩
theorem PushU.build (h : PushU W base Bo sv ks ib ia is Ok f g y) (hia : f ia = false) (his : f is = false) (n1 : ia ≠ ib) (n2 : is ≠ ib) {u0 u1 u2 : Value} {t : It}
    (kid : ItemS y (fun b => base ≤ b ∧ sv.ownBlock ≠ some b) t (.agg #[u0, u1, u2])) (ok : Ok t) :
    PushU W base Bo sv ks ib ia is Ok (upd f ib true) (upd g ib (.slice (some ⟨y.heap.size, 0, none⟩) 1 1)) (y.alloc (.cells #[u0, u1, u2] 29)) := by
  have hb := (Below.refl y.heap.size y).alloc (Nat.le_refl _) (.cells #[u0, u1, u2] 29)
  obtain ⟨h1, h2, h3, h4, h5, h6⟩ := h
  have eia : upd f ib true ia = false := (upd_ne f true n1).trans hia
  have eis : upd f ib true is = false := (upd_ne f true n2).trans his
  refine ⟨h1.below hb, fun _ => (h2 his).later hb, fun _ => (h3 hia).later hb, fun _ _ => ⟨y.heap.size, u0, u1, u2, t, upd_self _ _ _, Has.new _ _ _, kid.later hb, ok⟩, fun h => ?_, fun h => ?_⟩
  · rw [eia] at h; cases h
  · rw [eis] at h; cases h
theorem RowK.opened {A : World} (h : RowK A base sv ks) : ∃ vs : List (Value × Value × Value), vs.length = ks.length ∧ A.ownsRow base 29 3 sv ks.length (flat3 vs) ∧ ∀ (j : Nat) (k : It) (v : Value × Value × Value), ks[j]? = some k → vs[j]? = some v → ItemS A (fun b => base ≤ b ∧ sv.ownBlock ≠ some b) k (.agg #[v.1, v.2.1, v.2.2]) := h
theorem ItemS.ones {A : World} {S : Nat → Prop} {t : It} {u0 u1 u2 : Value} (h : ItemS A S t (.agg #[u0, u1, u2])) : ∀ u ∈ [u0, u1, u2], u.oneCell' = true := by
  obtain ⟨a, cap, hv, _⟩ := h.open
  injection hv with hv
  injection hv with hv
  injection hv with e0 hv
  injection hv with e1 hv
  injection hv with e2 hv
  subst e0 e1 e2
  intro u hu
  simp at hu
  rcases hu with rfl | rfl | rfl <;> simp [Value.oneCell']
theorem PushU.append (h : PushU W base Bo sv ks ib ia is Ok f g y) (hb : f ib = true) (ha : f ia = false) (hs : f is = false) (n1 : ib ≠ ia) (n2 : is ≠ ia) (hBo : Bo < base) (hbase : base ≤ y.heap.size) :
    ∃ b4 u0 u1 u2 vs, g ib = .slice (some ⟨b4, 0, none⟩) 1 1 ∧ Has y b4 29 #[u0, u1, u2] ∧ (∀ u ∈ [u0, u1, u2], u.oneCell' = true) ∧ y.ownsRow base 29 3 sv ks.length (flat3 vs) ∧
      ∀ v' w', w'.ownsRow base 29 3 v' (ks.length + 1) (flat3 vs ++ [u0, u1, u2]) → y.grownBy w' sv.ownBlock → NewBlock y sv v' → PushU W base Bo sv ks ib ia is Ok (upd f ia true) (upd g ia v') w' := by
  obtain ⟨h1, h2, h3, h4, h5, h6⟩ := h
  obtain ⟨b4, u0, u1, u2, t, e1, e2, e3, e4⟩ := h4 hb ha
  have hrow := h3 ha
  obtain ⟨vs, hvs, hown, hks⟩ := hrow.opened
  refine ⟨b4, u0, u1, u2, vs, e1, e2, e3.ones, hown, fun v' w' j1 j2 j3 => ?_⟩
  have eis : upd f ia true is = false := (upd_ne f true n2).trans hs
  have hbo : sv.ownBlock ≠ some Bo := fun e => by have := (hrow.block e).1; omega
  refine ⟨h1.row j2 (.inl rfl), fun _ => (j2.block Bo (h2 hs).lt (fun e => hbo e.symm)).trans (h2 hs), fun h => ?_, fun _ h => ?_, fun _ => ⟨t, e4, ?_, ?_⟩, fun h => ?_⟩
  · rw [upd_self] at h; cases h
  · rw [upd_self] at h; cases h
  · rw [upd_self]; exact RowK.push hvs hks e3 j1 j2 j3
  · rw [upd_self]
    rcases j3 with h | h
    · rw [h]; exact hbo
    · rw [h]; intro e; injection e with e; have := (h2 hs).lt; omega
  · rw [eis] at h; cases h
theorem PushU.store (h : PushU W base Bo sv ks ib ia is Ok f g y) (ha : f ia = true) (hs : f is = false) (n1 : ib ≠ is) (n2 : ia ≠ is) (hBo : Bo < base) {v : Value} (hv : g ia = v) (u : Value) : PushU W base Bo sv ks ib ia is Ok (upd f is true) (upd g is u) (y.setCell ⟨Bo, 2, none⟩ v) := by
  subst hv
  obtain ⟨h1, h2, h3, h4, h5, h6⟩ := h
  obtain ⟨t, e1, e2, e3⟩ := h5 ha
  have eia : upd f is true ia = true := (upd_ne f true n2).trans ha
  have gia : upd g is u ia = g ia := upd_ne g u n2
  refine ⟨h1.set (.inl rfl) _, fun h => ?_, fun h => ?_, fun _ h => ?_, fun _ => ⟨t, e1, ?_, by rw [gia]; exact e3⟩, fun _ => ?_⟩
  · rw [upd_self] at h; cases h
  · rw [eia] at h; cases h
  · rw [eia] at h; cases h
  · rw [gia]
    exact e2.keep (fun b o hb ho _ => (Below.heap_setCell y ⟨Bo, 2, none⟩ (g ia) b (by show b ≠ Bo; omega)).trans ho)
  · rw [gia]
    exact (h2 hs).set 2 (g ia)
theorem PushU.done (h : PushU W base Bo sv ks ib ia is Ok f g y) (ha : f ia = true) (hs : f is = true) : TwoB Bo sv W y ∧ Has y Bo 29 #[.bool true, .string ⟨#[]⟩, g ia] ∧ ∃ t, Ok t ∧ RowK y base (g ia) (ks ++ [t]) := by
  obtain ⟨h1, h2, h3, h4, h5, h6⟩ := h
  obtain ⟨t, e1, e2, e3⟩ := h5 ha
  exact ⟨h1, h6 hs, t, e1, e2⟩
end Go.Proofs.YtbbpmcebakckaaaGreatDoor

/- The laws' Item: of raw numbers, an item whose size is in reach, in new memory. Conditions: the raw numbers lie in memory. -/
namespace Go.Proofs.YtbbpmcebakckaaaGreatDoor
open Go Go.RowKit
attribute [local go_sem] Oper.semAt_some Grows wide_fn

/-- What the call comes to. -/
def RawP (w : World) (n deep : Nat) (e : Ending) (W' : World) : Prop := ∃ t v, e = .returned v ∧ ItemS W' (fun b => w.heap.size ≤ b) t v ∧ SmallI n (deep + 1) t ∧ Below w.heap.size w W'
/-- The contract, at a depth. -/
def RawOK (deep : Nat) : Prop := ∀ (v : Value) (zs : List (Int × Int)) (w : World), RawAt w v zs → Calls Tryz.prog 5 #[v, .int .i64 (deep : Int)] w (RawP w (min zs.length 9) deep)

/-- What the loop holds. -/
def RawSt (w : World) (N deep k : Nat) (W : World) : Prop :=
  ∃ sv ks, Has W w.heap.size 29 #[.bool false, .string ⟨#[]⟩, .slice none 0 0] ∧ Has W (w.heap.size + 1) 29 #[.bool true, .string ⟨#[]⟩, sv] ∧ RowK W (w.heap.size + 2) sv ks ∧ SmallL N (deep + 1) k ks ∧ Below w.heap.size w W ∧ w.heap.size + 2 ≤ W.heap.size
/-- An item that may come next. -/
def RawNext (N deep k : Nat) (t : It) : Prop := RightI (deep + 1) t ∧ countI t ≤ 2 ^ (N - k - 1) ∧ (encI t).length ≤ 79 * 2 ^ (N - k - 1)
theorem RawSt.next {w W y : World} {N deep k : Nat} {sv v' : Value} {ks : List It} (h1 : Has W w.heap.size 29 #[.bool false, .string ⟨#[]⟩, .slice none 0 0]) (hr : RowK W (w.heap.size + 2) sv ks) (h4 : SmallL N (deep + 1) k ks) (h5 : Below w.heap.size w W) (h6 : w.heap.size + 2 ≤ W.heap.size) (hk : k < N)
    (T : TwoB (w.heap.size + 1) sv W y) (hx : Has y (w.heap.size + 1) 29 #[.bool true, .string ⟨#[]⟩, v']) {t : It} (ht : RawNext N deep k t) (hv : RowK y (w.heap.size + 2) v' (ks ++ [t])) : RawSt w N deep (k + 1) y := by
  have hb : ∀ b, b < w.heap.size + 1 → sv.ownBlock ≠ some b := fun b hb e => by have := (hr.block e).1; omega
  refine ⟨v', ks ++ [t], (T.2 _ h1.lt (by omega) (hb _ (by omega))).trans h1, hx, hv, h4.snoc hk ht.1 ht.2.1 ht.2.2, ⟨T.1.1.trans h5.os, T.1.2.1.trans h5.tape, T.1.2.2.1.trans h5.output, Nat.le_trans h5.size T.1.2.2.2, fun b hbb => (T.2 b (by omega) (by omega) (hb b (by omega))).trans (h5.block b hbb)⟩, Nat.le_trans h6 T.1.2.2.2⟩
theorem RawSt.later {w W y : World} {N deep k : Nat} (h : RawSt w N deep k W) (hb : Below W.heap.size W y) : RawSt w N deep k y := by
  obtain ⟨sv, ks, h1, h2, h3, h4, h5, h6⟩ := h
  exact ⟨sv, ks, h1.later hb, h2.later hb, h3.later hb, h4, h5.trans (hb.mono h5.size), Nat.le_trans h6 hb.size⟩
theorem RawSt.below {w W : World} {N deep k : Nat} (h : RawSt w N deep k W) : Below w.heap.size w W := by
  obtain ⟨sv, ks, h1, h2, h3, h4, h5, h6⟩ := h
  exact h5
theorem RawSt.skip {w W : World} {N deep k j : Nat} (h : RawSt w N deep k W) (hj : k ≤ j) : RawSt w N deep j W := by
  obtain ⟨sv, ks, h1, h2, h3, h4, h5, h6⟩ := h
  exact ⟨sv, ks, h1, h2, h3, h4.skip hj, h5, h6⟩
theorem countL_len : ∀ (ks : List It), ks.length ≤ countL ks
  | [] => by simp
  | k :: ks => by
    have := countL_len ks
    have : 1 ≤ countI k := by obtain ⟨l, b, q⟩ := k; simp [countI]
    rw [countL, List.length_cons]; omega
theorem RawSt.done {w W : World} {N deep k : Nat} (h : RawSt w N deep k W) (hN : N ≤ 9) : ∃ sa n sc ks, SmallI N (deep + 1) (.mk true ⟨#[]⟩ ks) ∧ ItemS W (fun b => w.heap.size + 2 ≤ b) (.mk true ⟨#[]⟩ ks) (.agg #[.bool true, .string ⟨#[]⟩, .slice sa n sc]) ∧ Has W w.heap.size 29 #[.bool false, .string ⟨#[]⟩, .slice none 0 0] ∧ Has W (w.heap.size + 1) 29 #[.bool true, .string ⟨#[]⟩, .slice sa n sc] ∧ Below w.heap.size w W := by
  obtain ⟨sv, ks, h1, h2, h3, h4, h5, h6⟩ := h
  have hs := h4.done hN
  have hc : ks.length ≤ 1099511627776 := by
    have e := hs.2.1
    have hl := countL_len ks
    have : (2 : Nat) ^ N ≤ 2 ^ 9 := Nat.pow_le_pow_right (by decide) hN
    simp [countI] at e
    omega
  obtain ⟨sa, sc, rfl⟩ := h3.shape
  exact ⟨sa, _, sc, ks, hs, h3.item hc, h1, h2, h5⟩
theorem two_below {w W y : World} {sv : Value} {ks : List It} (hr : RowK W (w.heap.size + 2) sv ks) (h5 : Below w.heap.size w W) (T : TwoB (w.heap.size + 1) sv W y) : Below w.heap.size w y :=
  ⟨T.1.1.trans h5.os, T.1.2.1.trans h5.tape, T.1.2.2.1.trans h5.output, Nat.le_trans h5.size T.1.2.2.2, fun b hbb => (T.2 b (Nat.lt_of_lt_of_le hbb h5.size) (by omega) (fun e => by have := (hr.block e).1; omega)).trans (h5.block b hbb)⟩
theorem leafS {y : World} {S : Nat → Prop} (b : ByteArray) (hb : b.size ≤ 70) : ItemS y S (.mk false b []) (.agg #[.bool false, .string b, .slice none 0 0]) :=
  ItemS.mk' (t := .mk false b []) (a := none) (cap := 0) (by simp [It.kids]) (by show b.size ≤ _; omega) (.inl rfl)
theorem leafL {y : World} {S : Nat → Prop} : ItemS y S (.mk true ⟨#[]⟩ []) (.agg #[.bool true, .string ⟨#[]⟩, .slice none 0 0]) :=
  ItemS.mk' (t := .mk true ⟨#[]⟩ []) (a := none) (cap := 0) (by simp [It.kids]) (by show (0 : Nat) ≤ _; omega) (.inl rfl)
theorem conv_cells (W : World) (g m c : Nat) (hc : c < 256) (h : ∀ i, i < m → W.cell? ⟨g, i, none⟩ = some (.int .u8 (c : Int))) : (convert 49 9 (.slice (some ⟨g, 0, none⟩) m m)).run Tryz.prog W = .ok (.string ⟨(List.replicate m (UInt8.ofNat c)).toArray⟩) W := by
  have e1 : ((UInt8.ofNat c).toNat : Int) = (c : Int) := by simp; omega
  have := run_convert_bytes_arg (P := Tryz.prog) W 49 5 Tryz.underlying49 Tryz.underlying5 g 0 m m ((List.replicate m (UInt8.ofNat c)).map fun b => (b.toNat : Int)) (by simp) (fun i hi => by
    rw [Nat.zero_add, h i hi]
    simp [hi]
    omega) 9 Tryz.underlying9
  rw [strOf_list] at this
  exact this
theorem run_mkZ (W : World) (n : Nat) (hn : n ≤ 1073741824) : ∃ cs : Array Value, (∀ i, i < n → cs[i]? = some (.int .u8 0)) ∧ (Instr.makeSlice 49 (.int .i64 (n : Int)) (.int .i64 (n : Int))).run Tryz.prog W = .ok (.slice (some ⟨W.heap.size, 0, none⟩) n n) (W.alloc (.cells cs 5)) := by
  obtain ⟨i0, hi, hz0, hz1, hz2⟩ := infoB_of
  have h := run_make (P := Tryz.prog) W 49 5 i0 (.int .u8 0) Tryz.underlying49 hi hz0 .i64 .i64 (n : Int) (n : Int) (by omega) (by omega) (by rw [hz2]; omega) (by omega)
  rw [hz1, Nat.mul_one, Int.toNat_natCast, show Value.cells (.int .u8 0) = #[.int .u8 0] from rfl] at h
  exact ⟨_, fun i hi => by simp [madeCells, hi, Nat.mod_one], h⟩
/-- Where the rest of a slice begins. -/
def subA (b : Addr) (cap k : Nat) : Option Addr := if cap = k then some b else some (b.add (k * 2))
theorem run_sub (y : World) (b : Addr) (N cap k : Nat) (hk : k < N) (hc : N ≤ cap) (hm : k + 1 ≤ 4611686018427387903) : (Instr.sliceAt 22 (.slice (some b) N cap) (some (.int .i64 ((k : Int) + 1))) none none).run Tryz.prog y = .ok (.slice (subA b cap (k + 1)) (N - (k + 1)) (cap - (k + 1))) y := by
  have e0 : ((k : Int) + 1) = ((k + 1 : Nat) : Int) := by omega
  rw [e0]
  have hl : k + 1 ≤ N := hk
  generalize k + 1 = l at *
  have hu := run_underlying Tryz.underlying22 (w := y)
  have hz := Tryz.sizeOf48
  unfold subA
  by_cases hcc : cap = l
  · subst hcc
    simp [Instr.sliceAt, Instr.slice, Instr.sliceBounds, Instr.sliceBound, asIntOf, hu, hz, hl]
  · simp [Instr.sliceAt, Instr.slice, Instr.sliceBounds, Instr.sliceBound, asIntOf, hu, hz, hl, hcc]
theorem infoI_of' : ∃ i, Tryz.prog.info? 29 = some i ∧ i.zero = some (.agg #[.bool false, .string ⟨#[]⟩, .slice none 0 0]) ∧ i.size = 3 ∧ i.bytes = 48 := infoI_of

set_option maxRecDepth 1000000 in
set_option maxHeartbeats 8000000 in
theorem raw_step (deep : Nat) (hd : deep ≤ 14) (IH : 0 < deep → RawOK (deep - 1)) : RawOK deep := by
  intro v zs w hr
  have hmx : Tryz.prog.follows .mixedOrders = true := by kernel_rfl
  have hr0 := hr
  obtain ⟨a, cap, rfl, hnc, hcm, hcells⟩ := hr0
  clear hcells
  obtain ⟨n, hn⟩ : ∃ n, zs.length = n := ⟨_, rfl⟩
  rw [hn] at hr hnc ⊢
  obtain ⟨N, hN⟩ : ∃ N, min n 9 = N := ⟨_, rfl⟩
  rw [hN]
  have hNn : N ≤ n := by omega
  have hN9 : N ≤ 9 := by omega
  have R9 := hr.take N hNn
  have hNc : (N : Int) ≤ (cap : Int) := by omega
  have hN0 : (0 : Int) ≤ (N : Int) := by omega
  have LR := ((Has.new w 29 #[.bool false, .string ⟨#[]⟩, .slice none 0 0]).alloc (.cells #[.bool true, .string ⟨#[]⟩, .slice none 0 0] 29))
  have LX := Has.new (w.alloc (.cells #[.bool false, .string ⟨#[]⟩, .slice none 0 0] 29)) 29 #[.bool true, .string ⟨#[]⟩, .slice none 0 0]
  simp only [World.size_alloc] at LX
  have Q := ((Below.refl w.heap.size w).alloc (Nat.le_refl _) (.cells #[.bool false, .string ⟨#[]⟩, .slice none 0 0] 29)).alloc (by simp) (.cells #[.bool true, .string ⟨#[]⟩, .slice none 0 0] 29)
  have hs2 : ((w.alloc (.cells #[.bool false, .string ⟨#[]⟩, .slice none 0 0] 29)).alloc (.cells #[.bool true, .string ⟨#[]⟩, .slice none 0 0] 29)).heap.size = w.heap.size + 2 := by simp
  have hlen : (zs.take N).length = N := by rw [List.length_take]; omega
  obtain ⟨ys, hys⟩ : ∃ ys, zs.take N = ys := ⟨_, rfl⟩
  rw [hys] at R9 hlen
  have HR := Lib.hid R9
  have HLen := Lib.hid hlen
  have HH := Lib.hid (And.intro hn hN)
  have HCM := Lib.hid hcm
  have h9 : (n : Int) ≤ 9 ∧ N = n ∨ 9 < (n : Int) ∧ N = 9 := by omega
  clear R9 hr hn hN hnc hcm hNn hys hlen
  replace LR := Lib.hid LR
  replace LX := Lib.hid LX
  replace Q := Lib.hid Q
  replace hs2 := Lib.hid hs2
  have x0 := LX.out.cell 0 _ rfl
  have x1 := LX.out.cell 1 _ rfl
  have x2 := LX.out.cell 2 _ rfl
  have f0 := LX.out.frozen 0
  have f1 := LX.out.frozen 1
  have f2 := LX.out.frozen 2
  obtain ⟨PP, hPP⟩ : ∃ PP, RawP w N deep = PP := ⟨_, rfl⟩
  rw [hPP]
  have HPP := Lib.hid hPP
  clear hPP
  rcases h9 with ⟨h9, e9⟩ | ⟨h9, e9⟩
  case inl =>
    subst e9
    go_enter Tryz.func5, Tryz.ntmps5
    go_wp2_with fail
    clear x0 x1 x2 f0 f1 f2
    try replace h9 := Lib.hid h9
    clear HH h9
    obtain ⟨W0, hW0⟩ : ∃ W0, (w.alloc (.cells #[.bool false, .string ⟨#[]⟩, .slice none 0 0] 29)).alloc (.cells #[.bool true, .string ⟨#[]⟩, .slice none 0 0] 29) = W0 := ⟨_, rfl⟩
    rw [hW0] at LR LX Q hs2 ⊢
    clear hW0
    have HI := Lib.hid IH
    have HD := Lib.hid hd
    clear IH hd
    go_loopw [6] (fun i wr => ∃ k : Nat, k ≤ N + 3 ∧ i = .int .i64 (k : Int) ∧ RawSt w N deep k wr) (fun i _ => N - (intOf i).toNat)
    case atStart => exact ⟨0, by omega, rfl, _, [], LR.out, LX.out, RowK.nil _ _, SmallL.start _ _, Q.out, by have := hs2.out; omega⟩
    case round =>
      clear LR LX Q hs2
      obtain ⟨k, hk, rfl, hst⟩ := hrel
      by_cases hkN : k < N
      · have hkNI : (k : Int) < (N : Int) := by omega
        have hk0 : (0 : Int) ≤ (k : Int) := by omega
        have hki : (k : Int) < 100 := by omega
        have hRw := HR.out.later hst.below
        obtain ⟨a', cap', e, g1, g2, g3⟩ := hRw
        obtain ⟨⟨z0, z1⟩, hp⟩ : ∃ p, ys[k]? = some p := ⟨_, List.getElem?_eq_getElem (by have := HLen.out; omega)⟩
        obtain ⟨i0, i1, b, hb, c0, c1⟩ := g3 k _ hp
        injection e with e1 e2 e3
        subst e1 e3
        subst hb
        simp only at i0 i1 c0 c1
        replace c1 : wr.cell? ⟨(b.add (k * 2)).block, (b.add (k * 2)).off + 1, none⟩ = some (.int .i64 z1) := c1
        have HP := Lib.hid (pick_ret z0 i0 6 (by omega) (by omega))
        have h6 := pickN_range z0 6 (by omega)
        generalize pickN z0 6 = q at *
        have hq : q = 0 ∨ q = 1 ∨ q = 2 ∨ q = 3 ∨ q = 4 ∨ q = 5 := by omega
        have HST := Lib.hid hst
        have HI1 := Lib.hid i1
        have hcN := Lib.hid (show N ≤ cap by omega)
        have hkNH := Lib.hid hkN
        clear g3 hp e2 g1 g2 hst i0 i1 h6 hkN
        replace hkN := hkNH
        clear hkNH
        go_wp2_with fail
        refine (HP.out _).mono ?_
        rintro _ W ⟨rfl, qb⟩
        replace HST := Lib.hid (HST.out.later qb)
        clear c0 c1 HP qb
        obtain ⟨sv, ks, hL0, hX0, hV0, hS0, hQ0, hs0⟩ := HST.out
        obtain ⟨sa, sc, rfl⟩ := hV0.shape
        have hlk := Lib.hid (show ks.length ≤ 9 by have := hS0.2.2.2; have := hkN.out; omega)
        have hL := Lib.hid hL0
        have hX := Lib.hid hX0
        have hV := Lib.hid hV0
        have hS := Lib.hid hS0
        have hQ := Lib.hid hQ0
        have hs2' := Lib.hid hs0
        clear hL0 hX0 hV0 hS0 hQ0 hs0
        rcases hq with rfl | rfl | rfl | rfl | rfl | rfl
        · clear HST
          have HOf := Lib.hid (refOf_ret z1 HI1.out)
          have HNum0 : Ret Tryz.prog 18 #[wv (ofN z1)] (.agg #[.bool false, .string ⟨(digs (ofN z1)).toArray⟩, .slice none 0 0]) := refNum_ret (ofN z1) (ofN_lt z1 HI1.out)
          have hl32 : (digs (ofN z1)).length ≤ 32 := digs_length (by have := ofN_lt z1 HI1.out; unfold W256 at this; exact Nat.lt_of_lt_of_le this (by decide))
          obtain ⟨sB, hsB⟩ : ∃ sB : ByteArray, (⟨(digs (ofN z1)).toArray⟩ : ByteArray) = sB := ⟨_, rfl⟩
          have HsB := Lib.hid (show sB.size ≤ 70 by rw [← hsB, sizeM]; omega)
          rw [hsB] at HNum0
          have HNum := Lib.hid HNum0
          clear HNum0 hl32 hsB
          go_wp2_with fail
          refine wp_region_ghost [some (.pointer (some ⟨w.heap.size + 1, 2, none⟩)), some (.slice sa ks.length sc), some (.int .i64 z1), some (wv (ofN z1)), some (.agg #[.bool false, .string sB, .slice none 0 0]), none, none, some (.pointer (some ⟨w.heap.size + 1, 2, none⟩)), none] [[], [0], [], [2], [2, 3], [2, 3, 4], [0, 1, 2, 3, 4, 5], [0, 1, 2, 3, 4, 5, 6], [0, 1, 2, 3, 4, 5, 6, 7]] (PushU W (w.heap.size + 2) (w.heap.size + 1) (.slice sa ks.length sc) ks 5 6 8 (RawNext N deep k)) hmx (by kernel_rfl) (by kernel_rfl) ?_ ?_ ?_ ?_
          · exact fun f g wa wb h hb => h.later hb
          · exact fun f f' g g' wa h hu => hu.same (h 5 rfl) (h 6 rfl) (h 8 rfl).1
          · exact PushU.start hX.out hV.out
          rintro f g y HU Dn
          have hup : W.heap.size ≤ y.heap.size := HU.1.1.2.2.2
          have kU := Lib.hid HU
          have kup := Lib.hid hup
          clear HU hup
          refine GW.known _ rfl (fun hd hf => ?_) ?_
          · go_wp2
            exact ⟨rfl, rfl, Below.refl _ _⟩
          simp only [Act.put, List.setIfInBounds_toArray, List.set_cons_succ, List.set_cons_zero]
          refine GW.known _ rfl (fun hd hf => ?_) ?_
          · have hnr : f 8 = false := by
              rcases h : f 8 with _ | _
              · rfl
              · have := Dn 8 h 1 (by decide); rw [hf] at this; cases this
            have o2 := (kU.out.2.1 hnr).cell 2 _ rfl
            have o3 := (kU.out.2.1 hnr).frozen 2
            clear hnr
            go_wp2
            exact ⟨rfl, rfl, Below.refl _ _⟩
          simp only [Act.put, List.setIfInBounds_toArray, List.set_cons_succ, List.set_cons_zero]
          refine GW.known _ rfl (fun hd hf => ?_) ?_
          · go_wp2
            exact ⟨rfl, rfl, Below.refl _ _⟩
          simp only [Act.put, List.setIfInBounds_toArray, List.set_cons_succ, List.set_cons_zero]
          refine GW.known _ rfl (fun hd hf => ?_) ?_
          · go_wp2_with fail
            refine (HOf.out _).mono ?_
            rintro e u ⟨rfl, hb⟩
            go_wp2
            exact ⟨rfl, rfl, hb⟩
          simp only [Act.put, List.setIfInBounds_toArray, List.set_cons_succ, List.set_cons_zero]
          refine GW.known _ rfl (fun hd hf => ?_) ?_
          · go_wp2_with fail
            refine (HNum.out _).mono ?_
            rintro e u ⟨rfl, hb⟩
            go_wp2
            exact ⟨rfl, rfl, hb⟩
          simp only [Act.put, List.setIfInBounds_toArray, List.set_cons_succ, List.set_cons_zero]
          refine GW.open rfl (fun hd hf => ?_) ?_
          · have hn6 : f 6 = false := by
              rcases h : f 6 with _ | _
              · rfl
              · have := Dn 6 h 5 (by decide); rw [hf] at this; cases this
            have hn8 : f 8 = false := by
              rcases h : f 8 with _ | _
              · rfl
              · have := Dn 8 h 5 (by decide); rw [hf] at this; cases this
            have kid := leafS (y := y) (S := fun b => w.heap.size + 2 ≤ b ∧ Value.ownBlock (.slice sa ks.length sc) ≠ some b) sB HsB.out
            have ok : RawNext N deep k (.mk false sB []) := small_text sB HsB.out
            have K := Lib.hid (kU.out.build hn6 hn8 (by decide) (by decide) kid ok)
            clear hn6 hn8 kid ok
            go_wp2
            exact ⟨rfl, K.out⟩
          simp only [Act.put, List.setIfInBounds_toArray, List.set_cons_succ, List.set_cons_zero]
          refine GW.open rfl (fun hd hf => ?_) ?_
          · have hn8 : f 8 = false := by
              rcases h : f 8 with _ | _
              · rfl
              · have := Dn 8 h 6 (by decide); rw [hf] at this; cases this
            have hdb := hd 5 (by decide)
            obtain ⟨b4, u0, u1, u2, vs, e1, e2, e3, e4, e5⟩ := kU.out.append (hd 5 (by decide)) hf hn8 (by decide) (by decide) (by omega) (Nat.le_trans hs2'.out kup.out)
            obtain ⟨i, hi, hz, hsize, hby⟩ := infoI_of'
            refine wpList_append_src y rfl (.tmp 46) (.tmp 50) 27 27 rfl (w.heap.size + 2) 29 i _ 3 48 Tryz.underlying27 hi hz hsize hby rfl (by decide) (.slice sa ks.length sc) ks.length (flat3 vs) rfl e4 (.slice (some ⟨b4, 0, none⟩) 1 1) 1 (by decide) [u0, u1, u2] (by simpa [Act.eval] using e1) (by
              rw [hsize]
              refine Src.ofSlice y Tryz.underlying27 ⟨b4, 0, none⟩ 1 1 _ rfl (fun j u hj => ?_) e3
              have ha : (⟨b4, 0, none⟩ : Addr).add j = ⟨b4, j, none⟩ := by unfold Addr.add; split <;> simp_all
              rw [ha]
              exact e2.cell j u (by simpa using hj)) (by have := hlk.out; omega) (by have := hlk.out; simp only [maxLen]; omega) (Nat.le_trans hs2'.out kup.out) ?_
            intro v' w' j1 j2 j3
            exact ⟨rfl, e5 v' w' j1 j2 j3⟩
          simp only [Act.put, List.setIfInBounds_toArray, List.set_cons_succ, List.set_cons_zero]
          refine GW.known _ rfl (fun hd hf => ?_) ?_
          · go_wp2
            exact ⟨rfl, rfl, Below.refl _ _⟩
          simp only [Act.put, List.setIfInBounds_toArray, List.set_cons_succ, List.set_cons_zero]
          refine GW.open rfl (fun hd hf => ?_) ?_
          · have hia := hd 6 (by decide)
            have hdb := hd 5 (by decide)
            obtain ⟨ga, gc, eg⟩ := kU.out.shape hia
            have K := Lib.hid (fun u => kU.out.store hia hf (by decide) (by decide) (by omega) eg u)
            have hB := kU.out.2.1 hf
            have z2 := hB.cell 2 _ rfl
            have y2 := hB.frozen 2
            rw [show g (0 + 1 + 1 + 1 + 1 + 1 + 1) = .slice ga (ks.length + 1) gc from eg]
            have hdbH := Lib.hid hdb
            clear hia hB eg hdb
            go_wp2
            exact ⟨rfl, K.out _⟩
          simp only [Act.put, List.setIfInBounds_toArray, List.set_cons_succ, List.set_cons_zero]
          refine GW.nil (fun hall => ?_)
          obtain ⟨T, hx, tt, ok, hrow⟩ := kU.out.done (hall 6 (by omega)) (hall 8 (by omega))
          have HN := Lib.hid (RawSt.next hL.out hV.out hS.out hQ.out hs2'.out hkN.out T hx ok hrow)
          clear T hx ok hrow kU kup hX hV hS hL hQ Dn hall
          go_wp2_with fail
          go_roundw
          case rel => exact ⟨k + 1, by have := hkN.out; omega, by simp, HN.out⟩
          case measure => have := hkN.out; simp [intOf]; omega
        · clear HST
          obtain ⟨m, hm, hm2⟩ : ∃ m : Nat, pickN z1 70 = (m : Int) ∧ m < 70 := ⟨(pickN z1 70).toNat, by have := pickN_range z1 70 (by omega); omega, by have := pickN_range z1 70 (by omega); omega⟩
          have HPm0 := pick_ret z1 HI1.out 70 (by omega) (by omega)
          rw [hm] at HPm0
          have HPm := Lib.hid HPm0
          have Hm := Lib.hid hm2
          clear HPm0 hm
          go_wp2_with fail
          refine wp_region_ghost [some (.pointer (some ⟨w.heap.size + 1, 2, none⟩)), some (.slice sa ks.length sc), some (.int .i64 z1), some (.int .i64 (m : Int)), none, some (.string ⟨(List.replicate m (UInt8.ofNat 0)).toArray⟩), some (.agg #[.bool false, .string ⟨(List.replicate m (UInt8.ofNat 0)).toArray⟩, .slice none 0 0]), none, none, some (.pointer (some ⟨w.heap.size + 1, 2, none⟩)), none] [[], [0], [], [2], [2, 3], [2, 3, 4], [2, 3, 4, 5], [2, 3, 4, 5, 6], [0, 1, 2, 3, 4, 5, 6, 7], [0, 1, 2, 3, 4, 5, 6, 7, 8], [0, 1, 2, 3, 4, 5, 6, 7, 8, 9]] (fun f g y => PushU W (w.heap.size + 2) (w.heap.size + 1) (.slice sa ks.length sc) ks 7 8 10 (RawNext N deep k) f g y ∧ (f 4 = true → f 7 = false → ∃ B, g 4 = .slice (some ⟨B, 0, none⟩) m m ∧ ∀ i, i < m → y.cell? ⟨B, i, none⟩ = some (.int .u8 ((0 : Nat) : Int)))) hmx (by kernel_rfl) (by kernel_rfl) ?_ ?_ ?_ ?_
          · exact fun f g wa wb h hb => ⟨h.1.later hb, fun h1 h2 => let ⟨B, e1, e2⟩ := h.2 h1 h2; ⟨B, e1, fun i hi => cell_below hb _ _ (e2 i hi)⟩⟩
          · intro f f' g g' wa h hu
            refine ⟨hu.1.same (h 7 rfl) (h 8 rfl) (h 10 rfl).1, fun h1 h2 => ?_⟩
            have := hu.2 ((h 4 rfl).1.trans h1) ((h 7 rfl).1.trans h2)
            rw [(h 4 rfl).2] at this
            exact this
          · exact ⟨PushU.start hX.out hV.out, fun h => absurd h (by simp)⟩
          rintro f g y ⟨HU, HE⟩ Dn
          have kE := Lib.hid HE
          clear HE
          have hup : W.heap.size ≤ y.heap.size := HU.1.1.2.2.2
          have kU := Lib.hid HU
          have kup := Lib.hid hup
          clear HU hup
          refine GW.known _ rfl (fun hd hf => ?_) ?_
          · go_wp2
            exact ⟨rfl, rfl, Below.refl _ _⟩
          simp only [Act.put, List.setIfInBounds_toArray, List.set_cons_succ, List.set_cons_zero]
          refine GW.known _ rfl (fun hd hf => ?_) ?_
          · have hnr : f 10 = false := by
              rcases h : f 10 with _ | _
              · rfl
              · have := Dn 10 h 1 (by decide); rw [hf] at this; cases this
            have o2 := (kU.out.2.1 hnr).cell 2 _ rfl
            have o3 := (kU.out.2.1 hnr).frozen 2
            clear hnr
            go_wp2
            exact ⟨rfl, rfl, Below.refl _ _⟩
          simp only [Act.put, List.setIfInBounds_toArray, List.set_cons_succ, List.set_cons_zero]
          refine GW.known _ rfl (fun hd hf => ?_) ?_
          · go_wp2
            exact ⟨rfl, rfl, Below.refl _ _⟩
          simp only [Act.put, List.setIfInBounds_toArray, List.set_cons_succ, List.set_cons_zero]
          refine GW.known _ rfl (fun hd hf => ?_) ?_
          · go_wp2_with fail
            refine (HPm.out _).mono ?_
            rintro e u ⟨rfl, hb⟩
            go_wp2
            exact ⟨rfl, rfl, hb⟩
          simp only [Act.put, List.setIfInBounds_toArray, List.set_cons_succ, List.set_cons_zero]
          refine GW.open rfl (fun hd hf => ?_) ?_
          · have hn7 : f 7 = false := by
              rcases h : f 7 with _ | _
              · rfl
              · have := Dn 7 h 4 (by decide); rw [hf] at this; cases this
            have hn8 : f 8 = false := by
              rcases h : f 8 with _ | _
              · rfl
              · have := Dn 8 h 4 (by decide); rw [hf] at this; cases this
            have hn10 : f 10 = false := by
              rcases h : f 10 with _ | _
              · rfl
              · have := Dn 10 h 4 (by decide); rw [hf] at this; cases this
            have PS := fun (z : World) (u : Value) (hb : Below y.heap.size y z) => (kU.out.later hb).same (f' := upd f 4 true) (g' := upd g 4 u) ⟨(upd_ne f true (by decide)).symm, (upd_ne g u (by decide)).symm⟩ ⟨(upd_ne f true (by decide)).symm, (upd_ne g u (by decide)).symm⟩ (upd_ne f true (by decide)).symm
            replace PS := Lib.hid PS
            clear hn7 hn8 hn10 hf
            obtain ⟨cs, hcs, hmk⟩ := run_mkZ y m (by omega)
            have NB := Has.new y 5 cs
            have K := Lib.hid (PS.out (y.alloc (.cells cs 5)) (.slice (some ⟨y.heap.size, 0, none⟩) m m) ((Below.refl y.heap.size y).alloc (Nat.le_refl _) _))
            have K2 := Lib.hid (show ∀ i, i < m → (y.alloc (.cells cs 5)).cell? ⟨y.heap.size, i, none⟩ = some (.int .u8 ((0 : Nat) : Int)) from fun i hi => NB.cell i _ (hcs i hi))
            clear NB hcs PS
            go_wp2
            exact ⟨rfl, K.out, fun _ _ => ⟨y.heap.size, rfl, K2.out⟩⟩
          simp only [Act.put, List.setIfInBounds_toArray, List.set_cons_succ, List.set_cons_zero]
          refine GW.known _ rfl (fun hd hf => ?_) ?_
          · obtain ⟨B, e1, e2⟩ := kE.out (hd 4 (by decide)) (by
              rcases h : f 7 with _ | _
              · rfl
              · have := Dn 7 h 5 (by decide); rw [hf] at this; cases this)
            rw [show g (0 + 1 + 1 + 1 + 1) = .slice (some ⟨B, 0, none⟩) m m from e1]
            have hcv := conv_cells y B m 0 (by decide) e2
            clear e1 e2
            go_wp2
            exact ⟨rfl, rfl, Below.refl _ _⟩
          simp only [Act.put, List.setIfInBounds_toArray, List.set_cons_succ, List.set_cons_zero]
          refine GW.known _ rfl (fun hd hf => ?_) ?_
          · go_wp2
            exact ⟨rfl, rfl, Below.refl _ _⟩
          simp only [Act.put, List.setIfInBounds_toArray, List.set_cons_succ, List.set_cons_zero]
          refine GW.open rfl (fun hd hf => ?_) ?_
          · have hn8 : f 8 = false := by
              rcases h : f 8 with _ | _
              · rfl
              · have := Dn 8 h 7 (by decide); rw [hf] at this; cases this
            have hn10 : f 10 = false := by
              rcases h : f 10 with _ | _
              · rfl
              · have := Dn 10 h 7 (by decide); rw [hf] at this; cases this
            have kid := leafS (y := y) (S := fun b => w.heap.size + 2 ≤ b ∧ Value.ownBlock (.slice sa ks.length sc) ≠ some b) ⟨(List.replicate m (UInt8.ofNat 0)).toArray⟩ (by rw [sizeM, List.length_replicate]; have := Hm.out; omega)
            have ok : RawNext N deep k (.mk false ⟨(List.replicate m (UInt8.ofNat 0)).toArray⟩ []) := small_text ⟨(List.replicate m (UInt8.ofNat 0)).toArray⟩ (by rw [sizeM, List.length_replicate]; have := Hm.out; omega)
            have K := Lib.hid (kU.out.build hn8 hn10 (by decide) (by decide) kid ok)
            clear hn8 hn10 kid ok
            go_wp2
            exact ⟨rfl, K.out, fun _ h => absurd ((upd_self f 7 true).symm.trans h) (by simp)⟩
          simp only [Act.put, List.setIfInBounds_toArray, List.set_cons_succ, List.set_cons_zero]
          refine GW.open rfl (fun hd hf => ?_) ?_
          · have hn10 : f 10 = false := by
              rcases h : f 10 with _ | _
              · rfl
              · have := Dn 10 h 8 (by decide); rw [hf] at this; cases this
            have hdb := hd 7 (by decide)
            obtain ⟨b4, u0, u1, u2, vs, e1, e2, e3, e4, e5⟩ := kU.out.append (hd 7 (by decide)) hf hn10 (by decide) (by decide) (by omega) (Nat.le_trans hs2'.out kup.out)
            obtain ⟨i, hi, hz, hsize, hby⟩ := infoI_of'
            refine wpList_append_src y rfl (.tmp 56) (.tmp 62) 27 27 rfl (w.heap.size + 2) 29 i _ 3 48 Tryz.underlying27 hi hz hsize hby rfl (by decide) (.slice sa ks.length sc) ks.length (flat3 vs) rfl e4 (.slice (some ⟨b4, 0, none⟩) 1 1) 1 (by decide) [u0, u1, u2] (by simpa [Act.eval] using e1) (by
              rw [hsize]
              refine Src.ofSlice y Tryz.underlying27 ⟨b4, 0, none⟩ 1 1 _ rfl (fun j u hj => ?_) e3
              have ha : (⟨b4, 0, none⟩ : Addr).add j = ⟨b4, j, none⟩ := by unfold Addr.add; split <;> simp_all
              rw [ha]
              exact e2.cell j u (by simpa using hj)) (by have := hlk.out; omega) (by have := hlk.out; simp only [maxLen]; omega) (Nat.le_trans hs2'.out kup.out) ?_
            intro v' w' j1 j2 j3
            exact ⟨rfl, e5 v' w' j1 j2 j3, fun _ h => absurd (hdb.symm.trans ((upd_ne f true (show (7 : Nat) ≠ 8 by decide)).symm.trans h)) (by simp)⟩
          simp only [Act.put, List.setIfInBounds_toArray, List.set_cons_succ, List.set_cons_zero]
          refine GW.known _ rfl (fun hd hf => ?_) ?_
          · go_wp2
            exact ⟨rfl, rfl, Below.refl _ _⟩
          simp only [Act.put, List.setIfInBounds_toArray, List.set_cons_succ, List.set_cons_zero]
          refine GW.open rfl (fun hd hf => ?_) ?_
          · have hia := hd 8 (by decide)
            have hdb := hd 7 (by decide)
            obtain ⟨ga, gc, eg⟩ := kU.out.shape hia
            have K := Lib.hid (fun u => kU.out.store hia hf (by decide) (by decide) (by omega) eg u)
            have hB := kU.out.2.1 hf
            have z2 := hB.cell 2 _ rfl
            have y2 := hB.frozen 2
            rw [show g (0 + 1 + 1 + 1 + 1 + 1 + 1 + 1 + 1) = .slice ga (ks.length + 1) gc from eg]
            have hdbH := Lib.hid hdb
            clear hia hB eg hdb
            go_wp2
            exact ⟨rfl, K.out _, fun _ h => absurd (hdbH.out.symm.trans ((upd_ne f true (show (7 : Nat) ≠ 10 by decide)).symm.trans h)) (by simp)⟩
          simp only [Act.put, List.setIfInBounds_toArray, List.set_cons_succ, List.set_cons_zero]
          refine GW.nil (fun hall => ?_)
          obtain ⟨T, hx, tt, ok, hrow⟩ := kU.out.done (hall 8 (by omega)) (hall 10 (by omega))
          have HN := Lib.hid (RawSt.next hL.out hV.out hS.out hQ.out hs2'.out hkN.out T hx ok hrow)
          clear T hx ok hrow kU kup hX hV hS hL hQ Dn hall kE
          go_wp2_with fail
          go_roundw
          case rel => exact ⟨k + 1, by have := hkN.out; omega, by simp, HN.out⟩
          case measure => have := hkN.out; simp [intOf]; omega
        · clear HST
          obtain ⟨m, hm, hm2⟩ : ∃ m : Nat, pickN z1 256 = (m : Int) ∧ m < 256 := ⟨(pickN z1 256).toNat, by have := pickN_range z1 256 (by omega); omega, by have := pickN_range z1 256 (by omega); omega⟩
          have HPm0 := pick_ret z1 HI1.out 256 (by omega) (by omega)
          rw [hm] at HPm0
          have HPm := Lib.hid HPm0
          have Hm := Lib.hid hm2
          have hmI : (m : Int) < 256 := by omega
          have hmI0 : (0 : Int) ≤ (m : Int) := by omega
          clear HPm0 hm hm2
          go_wp2_with fail
          refine wp_region_ghost [some (.pointer (some ⟨w.heap.size + 1, 2, none⟩)), some (.slice sa ks.length sc), some (.int .i64 z1), some (.int .i64 (m : Int)), some (.int .u8 (m : Int)), none, some (.string ⟨(List.replicate 1 (UInt8.ofNat m)).toArray⟩), some (.agg #[.bool false, .string ⟨(List.replicate 1 (UInt8.ofNat m)).toArray⟩, .slice none 0 0]), none, none, some (.pointer (some ⟨w.heap.size + 1, 2, none⟩)), none] [[], [0], [], [2], [2, 3], [2, 3, 4], [2, 3, 4, 5], [2, 3, 4, 5, 6], [2, 3, 4, 5, 6, 7], [0, 1, 2, 3, 4, 5, 6, 7, 8], [0, 1, 2, 3, 4, 5, 6, 7, 8, 9], [0, 1, 2, 3, 4, 5, 6, 7, 8, 9, 10]] (fun f g y => PushU W (w.heap.size + 2) (w.heap.size + 1) (.slice sa ks.length sc) ks 8 9 11 (RawNext N deep k) f g y ∧ (f 5 = true → f 8 = false → ∃ B, g 5 = .slice (some ⟨B, 0, none⟩) 1 1 ∧ ∀ i, i < 1 → y.cell? ⟨B, i, none⟩ = some (.int .u8 ((m : Nat) : Int)))) hmx (by kernel_rfl) (by kernel_rfl) ?_ ?_ ?_ ?_
          · exact fun f g wa wb h hb => ⟨h.1.later hb, fun h1 h2 => let ⟨B, e1, e2⟩ := h.2 h1 h2; ⟨B, e1, fun i hi => cell_below hb _ _ (e2 i hi)⟩⟩
          · intro f f' g g' wa h hu
            refine ⟨hu.1.same (h 8 rfl) (h 9 rfl) (h 11 rfl).1, fun h1 h2 => ?_⟩
            have := hu.2 ((h 5 rfl).1.trans h1) ((h 8 rfl).1.trans h2)
            rw [(h 5 rfl).2] at this
            exact this
          · exact ⟨PushU.start hX.out hV.out, fun h => absurd h (by simp)⟩
          rintro f g y ⟨HU, HE⟩ Dn
          have kE := Lib.hid HE
          clear HE
          have hup : W.heap.size ≤ y.heap.size := HU.1.1.2.2.2
          have kU := Lib.hid HU
          have kup := Lib.hid hup
          clear HU hup
          refine GW.known _ rfl (fun hd hf => ?_) ?_
          · go_wp2
            exact ⟨rfl, rfl, Below.refl _ _⟩
          simp only [Act.put, List.setIfInBounds_toArray, List.set_cons_succ, List.set_cons_zero]
          refine GW.known _ rfl (fun hd hf => ?_) ?_
          · have hnr : f 11 = false := by
              rcases h : f 11 with _ | _
              · rfl
              · have := Dn 11 h 1 (by decide); rw [hf] at this; cases this
            have o2 := (kU.out.2.1 hnr).cell 2 _ rfl
            have o3 := (kU.out.2.1 hnr).frozen 2
            clear hnr
            go_wp2
            exact ⟨rfl, rfl, Below.refl _ _⟩
          simp only [Act.put, List.setIfInBounds_toArray, List.set_cons_succ, List.set_cons_zero]
          refine GW.known _ rfl (fun hd hf => ?_) ?_
          · go_wp2
            exact ⟨rfl, rfl, Below.refl _ _⟩
          simp only [Act.put, List.setIfInBounds_toArray, List.set_cons_succ, List.set_cons_zero]
          refine GW.known _ rfl (fun hd hf => ?_) ?_
          · go_wp2_with fail
            refine (HPm.out _).mono ?_
            rintro e u ⟨rfl, hb⟩
            go_wp2
            exact ⟨rfl, rfl, hb⟩
          simp only [Act.put, List.setIfInBounds_toArray, List.set_cons_succ, List.set_cons_zero]
          refine GW.known _ rfl (fun hd hf => ?_) ?_
          · go_wp2
            exact ⟨rfl, rfl, Below.refl _ _⟩
          simp only [Act.put, List.setIfInBounds_toArray, List.set_cons_succ, List.set_cons_zero]
          refine GW.open rfl (fun hd hf => ?_) ?_
          · have hn8 : f 8 = false := by
              rcases h : f 8 with _ | _
              · rfl
              · have := Dn 8 h 5 (by decide); rw [hf] at this; cases this
            have hn9 : f 9 = false := by
              rcases h : f 9 with _ | _
              · rfl
              · have := Dn 9 h 5 (by decide); rw [hf] at this; cases this
            have hn11 : f 11 = false := by
              rcases h : f 11 with _ | _
              · rfl
              · have := Dn 11 h 5 (by decide); rw [hf] at this; cases this
            have PS := fun (z : World) (u : Value) (hb : Below y.heap.size y z) => (kU.out.later hb).same (f' := upd f 5 true) (g' := upd g 5 u) ⟨(upd_ne f true (by decide)).symm, (upd_ne g u (by decide)).symm⟩ ⟨(upd_ne f true (by decide)).symm, (upd_ne g u (by decide)).symm⟩ (upd_ne f true (by decide)).symm
            replace PS := Lib.hid PS
            clear hn8 hn9 hn11 hf
            have NB := Has.new y 5 #[.int .u8 (m : Int)]
            have K := Lib.hid (PS.out (y.alloc (.cells #[.int .u8 (m : Int)] 5)) (.slice (some ⟨y.heap.size, 0, none⟩) 1 1) ((Below.refl y.heap.size y).alloc (Nat.le_refl _) _))
            have K2 := Lib.hid (show ∀ i, i < 1 → (y.alloc (.cells #[.int .u8 (m : Int)] 5)).cell? ⟨y.heap.size, i, none⟩ = some (.int .u8 ((m : Nat) : Int)) from fun i hi => by obtain rfl : i = 0 := (by omega); exact NB.cell 0 _ rfl)
            clear NB PS
            go_wp2
            exact ⟨rfl, K.out, fun _ _ => ⟨y.heap.size, rfl, K2.out⟩⟩
          simp only [Act.put, List.setIfInBounds_toArray, List.set_cons_succ, List.set_cons_zero]
          refine GW.known _ rfl (fun hd hf => ?_) ?_
          · obtain ⟨B, e1, e2⟩ := kE.out (hd 5 (by decide)) (by
              rcases h : f 8 with _ | _
              · rfl
              · have := Dn 8 h 6 (by decide); rw [hf] at this; cases this)
            rw [show g (0 + 1 + 1 + 1 + 1 + 1) = .slice (some ⟨B, 0, none⟩) 1 1 from e1]
            have hcv := conv_cells y B 1 m Hm.out e2
            clear e1 e2
            go_wp2
            exact ⟨rfl, rfl, Below.refl _ _⟩
          simp only [Act.put, List.setIfInBounds_toArray, List.set_cons_succ, List.set_cons_zero]
          refine GW.known _ rfl (fun hd hf => ?_) ?_
          · go_wp2
            exact ⟨rfl, rfl, Below.refl _ _⟩
          simp only [Act.put, List.setIfInBounds_toArray, List.set_cons_succ, List.set_cons_zero]
          refine GW.open rfl (fun hd hf => ?_) ?_
          · have hn9 : f 9 = false := by
              rcases h : f 9 with _ | _
              · rfl
              · have := Dn 9 h 8 (by decide); rw [hf] at this; cases this
            have hn11 : f 11 = false := by
              rcases h : f 11 with _ | _
              · rfl
              · have := Dn 11 h 8 (by decide); rw [hf] at this; cases this
            have kid := leafS (y := y) (S := fun b => w.heap.size + 2 ≤ b ∧ Value.ownBlock (.slice sa ks.length sc) ≠ some b) ⟨(List.replicate 1 (UInt8.ofNat m)).toArray⟩ (by rw [sizeM, List.length_replicate]; omega)
            have ok : RawNext N deep k (.mk false ⟨(List.replicate 1 (UInt8.ofNat m)).toArray⟩ []) := small_text ⟨(List.replicate 1 (UInt8.ofNat m)).toArray⟩ (by rw [sizeM, List.length_replicate]; omega)
            have K := Lib.hid (kU.out.build hn9 hn11 (by decide) (by decide) kid ok)
            clear hn9 hn11 kid ok
            go_wp2
            exact ⟨rfl, K.out, fun _ h => absurd ((upd_self f 8 true).symm.trans h) (by simp)⟩
          simp only [Act.put, List.setIfInBounds_toArray, List.set_cons_succ, List.set_cons_zero]
          refine GW.open rfl (fun hd hf => ?_) ?_
          · have hn11 : f 11 = false := by
              rcases h : f 11 with _ | _
              · rfl
              · have := Dn 11 h 9 (by decide); rw [hf] at this; cases this
            have hdb := hd 8 (by decide)
            obtain ⟨b4, u0, u1, u2, vs, e1, e2, e3, e4, e5⟩ := kU.out.append (hd 8 (by decide)) hf hn11 (by decide) (by decide) (by omega) (Nat.le_trans hs2'.out kup.out)
            obtain ⟨i, hi, hz, hsize, hby⟩ := infoI_of'
            refine wpList_append_src y rfl (.tmp 68) (.tmp 75) 27 27 rfl (w.heap.size + 2) 29 i _ 3 48 Tryz.underlying27 hi hz hsize hby rfl (by decide) (.slice sa ks.length sc) ks.length (flat3 vs) rfl e4 (.slice (some ⟨b4, 0, none⟩) 1 1) 1 (by decide) [u0, u1, u2] (by simpa [Act.eval] using e1) (by
              rw [hsize]
              refine Src.ofSlice y Tryz.underlying27 ⟨b4, 0, none⟩ 1 1 _ rfl (fun j u hj => ?_) e3
              have ha : (⟨b4, 0, none⟩ : Addr).add j = ⟨b4, j, none⟩ := by unfold Addr.add; split <;> simp_all
              rw [ha]
              exact e2.cell j u (by simpa using hj)) (by have := hlk.out; omega) (by have := hlk.out; simp only [maxLen]; omega) (Nat.le_trans hs2'.out kup.out) ?_
            intro v' w' j1 j2 j3
            exact ⟨rfl, e5 v' w' j1 j2 j3, fun _ h => absurd (hdb.symm.trans ((upd_ne f true (show (8 : Nat) ≠ 9 by decide)).symm.trans h)) (by simp)⟩
          simp only [Act.put, List.setIfInBounds_toArray, List.set_cons_succ, List.set_cons_zero]
          refine GW.known _ rfl (fun hd hf => ?_) ?_
          · go_wp2
            exact ⟨rfl, rfl, Below.refl _ _⟩
          simp only [Act.put, List.setIfInBounds_toArray, List.set_cons_succ, List.set_cons_zero]
          refine GW.open rfl (fun hd hf => ?_) ?_
          · have hia := hd 9 (by decide)
            have hdb := hd 8 (by decide)
            obtain ⟨ga, gc, eg⟩ := kU.out.shape hia
            have K := Lib.hid (fun u => kU.out.store hia hf (by decide) (by decide) (by omega) eg u)
            have hB := kU.out.2.1 hf
            have z2 := hB.cell 2 _ rfl
            have y2 := hB.frozen 2
            rw [show g (0 + 1 + 1 + 1 + 1 + 1 + 1 + 1 + 1 + 1) = .slice ga (ks.length + 1) gc from eg]
            have hdbH := Lib.hid hdb
            clear hia hB eg hdb
            go_wp2
            exact ⟨rfl, K.out _, fun _ h => absurd (hdbH.out.symm.trans ((upd_ne f true (show (8 : Nat) ≠ 11 by decide)).symm.trans h)) (by simp)⟩
          simp only [Act.put, List.setIfInBounds_toArray, List.set_cons_succ, List.set_cons_zero]
          refine GW.nil (fun hall => ?_)
          obtain ⟨T, hx, tt, ok, hrow⟩ := kU.out.done (hall 9 (by omega)) (hall 11 (by omega))
          have HN := Lib.hid (RawSt.next hL.out hV.out hS.out hQ.out hs2'.out hkN.out T hx ok hrow)
          clear T hx ok hrow kU kup hX hV hS hL hQ Dn hall kE
          go_wp2_with fail
          go_roundw
          case rel => exact ⟨k + 1, by have := hkN.out; omega, by simp, HN.out⟩
          case measure => have := hkN.out; simp [intOf]; omega
        · by_cases hdp0 : 0 < deep
          · have hdI : (0 : Int) < (deep : Int) := by omega
            have hdp := Lib.hid hdp0
            have hdu : (deep : Int) < 100 := by have := HD.out; omega
            have HI20 : ∀ (v : Value) (zs : List (Int × Int)) (w : World), RawAt w v zs → Calls Tryz.prog 5 #[v, .int .i64 ((deep : Int) - 1)] w (RawP w (min zs.length 9) (deep - 1)) := by
              rw [show ((deep : Int) - 1) = ((deep - 1 : Nat) : Int) by omega]
              exact HI.out hdp0
            have HI2 := Lib.hid HI20
            obtain ⟨m, hm, hm2⟩ : ∃ m : Nat, pickN z1 4 = (m : Int) ∧ m < 4 := ⟨(pickN z1 4).toNat, by have := pickN_range z1 4 (by omega); omega, by have := pickN_range z1 4 (by omega); omega⟩
            have HPm0 := pick_ret z1 HI1.out 4 (by omega) (by omega)
            rw [hm] at HPm0
            have HPm := Lib.hid HPm0
            have Hm := Lib.hid hm2
            clear HPm0 hm hm2 hdp0 HI20 HST
            go_wp2_with fail
            refine wp_region_ghost [some (.pointer (some ⟨w.heap.size + 1, 2, none⟩)), some (.slice sa ks.length sc), some (.slice (some b) N cap), some (.int .i64 (k : Int)), some (.int .i64 ((k : Int) + 1)), some (.slice (subA b cap (k + 1)) (N - (k + 1)) (cap - (k + 1))), some (.int .i64 (deep : Int)), some (.int .i64 ((deep : Int) - 1)), none, none, none, some (.pointer (some ⟨w.heap.size + 1, 2, none⟩)), none] [[], [0], [], [], [3], [2, 3, 4], [], [6], [2, 3, 4, 5, 6, 7], [2, 3, 4, 5, 6, 7, 8], [0, 1, 2, 3, 4, 5, 6, 7, 8, 9], [0, 1, 2, 3, 4, 5, 6, 7, 8, 9, 10], [0, 1, 2, 3, 4, 5, 6, 7, 8, 9, 10, 11]] (fun f g y => PushU W (w.heap.size + 2) (w.heap.size + 1) (.slice sa ks.length sc) ks 9 10 12 (RawNext N deep k) f g y ∧ (f 8 = true → f 9 = false → ∃ t u0 u1 u2, g 8 = .agg #[u0, u1, u2] ∧ ItemS y (fun b => w.heap.size + 2 ≤ b ∧ Value.ownBlock (.slice sa ks.length sc) ≠ some b) t (.agg #[u0, u1, u2]) ∧ RawNext N deep k t)) hmx (by kernel_rfl) (by kernel_rfl) ?_ ?_ ?_ ?_
            · exact fun f g wa wb h hb => ⟨h.1.later hb, fun h1 h2 => let ⟨t, u0, u1, u2, e1, e2, e3⟩ := h.2 h1 h2; ⟨t, u0, u1, u2, e1, e2.later hb, e3⟩⟩
            · intro f f' g g' wa h hu
              refine ⟨hu.1.same (h 9 rfl) (h 10 rfl) (h 12 rfl).1, fun h1 h2 => ?_⟩
              have := hu.2 ((h 8 rfl).1.trans h1) ((h 9 rfl).1.trans h2)
              rw [(h 8 rfl).2] at this
              exact this
            · exact ⟨PushU.start hX.out hV.out, fun h => absurd h (by simp)⟩
            rintro f g y ⟨HU, HE⟩ Dn
            have kE := Lib.hid HE
            clear HE
            have hup : W.heap.size ≤ y.heap.size := HU.1.1.2.2.2
            have kU := Lib.hid HU
            have kup := Lib.hid hup
            clear HU hup
            refine GW.known _ rfl (fun hd hf => ?_) ?_
            · go_wp2
              exact ⟨rfl, rfl, Below.refl _ _⟩
            simp only [Act.put, List.setIfInBounds_toArray, List.set_cons_succ, List.set_cons_zero]
            refine GW.known _ rfl (fun hd hf => ?_) ?_
            · have hnr : f 12 = false := by
                rcases h : f 12 with _ | _
                · rfl
                · have := Dn 12 h 1 (by decide); rw [hf] at this; cases this
              have o2 := (kU.out.2.1 hnr).cell 2 _ rfl
              have o3 := (kU.out.2.1 hnr).frozen 2
              clear hnr
              go_wp2
              exact ⟨rfl, rfl, Below.refl _ _⟩
            simp only [Act.put, List.setIfInBounds_toArray, List.set_cons_succ, List.set_cons_zero]
            refine GW.known _ rfl (fun hd hf => ?_) ?_
            · go_wp2
              exact ⟨rfl, rfl, Below.refl _ _⟩
            simp only [Act.put, List.setIfInBounds_toArray, List.set_cons_succ, List.set_cons_zero]
            refine GW.known _ rfl (fun hd hf => ?_) ?_
            · go_wp2
              exact ⟨rfl, rfl, Below.refl _ _⟩
            simp only [Act.put, List.setIfInBounds_toArray, List.set_cons_succ, List.set_cons_zero]
            refine GW.known _ rfl (fun hd hf => ?_) ?_
            · go_wp2
              exact ⟨rfl, rfl, Below.refl _ _⟩
            simp only [Act.put, List.setIfInBounds_toArray, List.set_cons_succ, List.set_cons_zero]
            refine GW.known _ rfl (fun hd hf => ?_) ?_
            · have hsl := run_sub y b N cap k hkN.out hcN.out (by have := HCM.out; omega)
              go_wp2
              exact ⟨rfl, rfl, Below.refl _ _⟩
            simp only [Act.put, List.setIfInBounds_toArray, List.set_cons_succ, List.set_cons_zero]
            refine GW.known _ rfl (fun hd hf => ?_) ?_
            · go_wp2
              exact ⟨rfl, rfl, Below.refl _ _⟩
            simp only [Act.put, List.setIfInBounds_toArray, List.set_cons_succ, List.set_cons_zero]
            refine GW.known _ rfl (fun hd hf => ?_) ?_
            · go_wp2
              exact ⟨rfl, rfl, Below.refl _ _⟩
            simp only [Act.put, List.setIfInBounds_toArray, List.set_cons_succ, List.set_cons_zero]
            refine GW.open rfl (fun hd hf => ?_) ?_
            · have hn9 : f 9 = false := by
                rcases h : f 9 with _ | _
                · rfl
                · have := Dn 9 h 8 (by decide); rw [hf] at this; cases this
              have hn10 : f 10 = false := by
                rcases h : f 10 with _ | _
                · rfl
                · have := Dn 10 h 8 (by decide); rw [hf] at this; cases this
              have hn12 : f 12 = false := by
                rcases h : f 12 with _ | _
                · rfl
                · have := Dn 12 h 8 (by decide); rw [hf] at this; cases this
              have PS := fun (z : World) (u : Value) (hb : Below y.heap.size y z) => (kU.out.later hb).same (f' := upd f 8 true) (g' := upd g 8 u) ⟨(upd_ne f true (by decide)).symm, (upd_ne g u (by decide)).symm⟩ ⟨(upd_ne f true (by decide)).symm, (upd_ne g u (by decide)).symm⟩ (upd_ne f true (by decide)).symm
              replace PS := Lib.hid PS
              clear hn9 hn10 hn12 hf
              have hbel := two_below hV.out hQ.out kU.out.1
              have HRy := ((HR.out.later hbel).drop (k + 1) (by have := hkN.out; omega))
              have e8 : min (ys.drop (k + 1)).length 9 = N - k - 1 := by rw [List.length_drop, HLen.out]; omega
              have HC := HI2.out _ _ y HRy
              rw [e8] at HC
              replace HC := Lib.hid HC
              clear hbel HRy e8
              go_wp2_with fail
              refine HC.out.mono ?_
              rintro _ w2 ⟨t, v, rfl, h1, h2, h3⟩
              obtain ⟨ta, tc, rfl, _⟩ := h1.open
              have K := Lib.hid (PS.out w2 (.agg #[.bool t.list, .string t.bytes, .slice ta t.kids.length tc]) h3)
              have hS2 := Lib.hid (h1.mono (T := fun b => w.heap.size + 2 ≤ b ∧ Value.ownBlock (.slice sa ks.length sc) ≠ some b) (fun b hb _ => ⟨Nat.le_trans (Nat.le_trans hs2'.out kup.out) hb, fun e => by
                obtain ⟨_, cs, hcs⟩ := hV.out.block e
                have := (Array.getElem?_eq_some_iff.1 hcs).1
                have := kup.out
                omega⟩))
              have hok := Lib.hid (show RawNext N deep k t from h2.more (Nat.le_refl _) (by have := hdp.out; omega))
              clear h1 h2 h3 PS HC
              go_wp2
              exact ⟨rfl, K.out, fun _ _ => ⟨t, _, _, _, rfl, hS2.out, hok.out⟩⟩
            simp only [Act.put, List.setIfInBounds_toArray, List.set_cons_succ, List.set_cons_zero]
            refine GW.open rfl (fun hd hf => ?_) ?_
            · have hn10 : f 10 = false := by
                rcases h : f 10 with _ | _
                · rfl
                · have := Dn 10 h 9 (by decide); rw [hf] at this; cases this
              have hn12 : f 12 = false := by
                rcases h : f 12 with _ | _
                · rfl
                · have := Dn 12 h 9 (by decide); rw [hf] at this; cases this
              obtain ⟨t, u0, u1, u2, e1, kid, ok⟩ := kE.out (hd 8 (by decide)) hf
              rw [show g (0 + 1 + 1 + 1 + 1 + 1 + 1 + 1 + 1) = .agg #[u0, u1, u2] from e1]
              clear e1
              have K := Lib.hid (kU.out.build hn10 hn12 (by decide) (by decide) kid ok)
              clear hn10 hn12 kid ok
              go_wp2
              exact ⟨rfl, K.out, fun _ h => absurd ((upd_self f 9 true).symm.trans h) (by simp)⟩
            simp only [Act.put, List.setIfInBounds_toArray, List.set_cons_succ, List.set_cons_zero]
            refine GW.open rfl (fun hd hf => ?_) ?_
            · have hn12 : f 12 = false := by
                rcases h : f 12 with _ | _
                · rfl
                · have := Dn 12 h 10 (by decide); rw [hf] at this; cases this
              have hdb := hd 9 (by decide)
              obtain ⟨b4, u0, u1, u2, vs, e1, e2, e3, e4, e5⟩ := kU.out.append (hd 9 (by decide)) hf hn12 (by decide) (by decide) (by omega) (Nat.le_trans hs2'.out kup.out)
              obtain ⟨i, hi, hz, hsize, hby⟩ := infoI_of'
              refine wpList_append_src y rfl (.tmp 83) (.tmp 91) 27 27 rfl (w.heap.size + 2) 29 i _ 3 48 Tryz.underlying27 hi hz hsize hby rfl (by decide) (.slice sa ks.length sc) ks.length (flat3 vs) rfl e4 (.slice (some ⟨b4, 0, none⟩) 1 1) 1 (by decide) [u0, u1, u2] (by simpa [Act.eval] using e1) (by
                rw [hsize]
                refine Src.ofSlice y Tryz.underlying27 ⟨b4, 0, none⟩ 1 1 _ rfl (fun j u hj => ?_) e3
                have ha : (⟨b4, 0, none⟩ : Addr).add j = ⟨b4, j, none⟩ := by unfold Addr.add; split <;> simp_all
                rw [ha]
                exact e2.cell j u (by simpa using hj)) (by have := hlk.out; omega) (by have := hlk.out; simp only [maxLen]; omega) (Nat.le_trans hs2'.out kup.out) ?_
              intro v' w' j1 j2 j3
              exact ⟨rfl, e5 v' w' j1 j2 j3, fun _ h => absurd (hdb.symm.trans ((upd_ne f true (show (9 : Nat) ≠ 10 by decide)).symm.trans h)) (by simp)⟩
            simp only [Act.put, List.setIfInBounds_toArray, List.set_cons_succ, List.set_cons_zero]
            refine GW.known _ rfl (fun hd hf => ?_) ?_
            · go_wp2
              exact ⟨rfl, rfl, Below.refl _ _⟩
            simp only [Act.put, List.setIfInBounds_toArray, List.set_cons_succ, List.set_cons_zero]
            refine GW.open rfl (fun hd hf => ?_) ?_
            · have hia := hd 10 (by decide)
              have hdb := hd 9 (by decide)
              obtain ⟨ga, gc, eg⟩ := kU.out.shape hia
              have K := Lib.hid (fun u => kU.out.store hia hf (by decide) (by decide) (by omega) eg u)
              have hB := kU.out.2.1 hf
              have z2 := hB.cell 2 _ rfl
              have y2 := hB.frozen 2
              rw [show g (0 + 1 + 1 + 1 + 1 + 1 + 1 + 1 + 1 + 1 + 1) = .slice ga (ks.length + 1) gc from eg]
              have hdbH := Lib.hid hdb
              clear hia hB eg hdb
              go_wp2
              exact ⟨rfl, K.out _, fun _ h => absurd (hdbH.out.symm.trans ((upd_ne f true (show (9 : Nat) ≠ 12 by decide)).symm.trans h)) (by simp)⟩
            simp only [Act.put, List.setIfInBounds_toArray, List.set_cons_succ, List.set_cons_zero]
            refine GW.nil (fun hall => ?_)
            obtain ⟨T, hx, tt, ok, hrow⟩ := kU.out.done (hall 10 (by omega)) (hall 12 (by omega))
            have HN := Lib.hid (RawSt.next hL.out hV.out hS.out hQ.out hs2'.out hkN.out T hx ok hrow)
            clear T hx ok hrow kU kup hX hV hS hL hQ Dn hall kE
            have hmI : (m : Int) < 4 := by have := Hm.out; omega
            have hmI0 : (0 : Int) ≤ (m : Int) := by omega
            go_wp2_with fail
            refine (HPm.out _).mono ?_
            rintro _ W5 ⟨rfl, q5⟩
            replace HN := Lib.hid ((HN.out.later q5).skip (j := k + m + 1) (by omega))
            clear q5 HPm
            go_wp2_with fail
            go_roundw
            case rel => exact ⟨k + m + 1, by have := hkN.out; have := Hm.out; omega, by simp, HN.out⟩
            case measure => have := hkN.out; simp [intOf]; omega
          · have hdI : ¬ (0 : Int) < (deep : Int) := by omega
            have HN := Lib.hid (HST.out.skip (j := k + 1) (by omega))
            clear hX hV hS hL hQ HST
            go_wp2_with fail
            go_roundw
            case rel => exact ⟨k + 1, by have := hkN.out; omega, by simp, HN.out⟩
            case measure => have := hkN.out; simp [intOf]; omega
        · clear HST
          have o2 := hX.out.cell 2 _ rfl
          have kid := leafL (y := W) (S := fun b => w.heap.size + 2 ≤ b ∧ Value.ownBlock (.slice sa ks.length sc) ≠ some b)
          have ok : RawNext N deep k (.mk true ⟨#[]⟩ []) := small_nil
          have PU := Lib.hid ((PushU.start0 (ib := 0) (ia := 1) (is := 2) (Ok := RawNext N deep k) (g := fun _ => undef) hX.out hV.out).build rfl rfl (by decide) (by decide) kid ok)
          obtain ⟨b4, u0, u1, u2, vs, e1, e2, e3, e4, e5⟩ := PU.out.append rfl rfl rfl (by decide) (by decide) (by omega) (Nat.le_trans hs2'.out (by simp))
          obtain rfl : W.heap.size = b4 := by
            have e1' : Value.slice (some ⟨W.heap.size, 0, none⟩) 1 1 = .slice (some ⟨b4, 0, none⟩) 1 1 := e1
            injection e1' with e1'
            injection e1' with e1'
            injection e1'
          obtain ⟨i, hi, hz, hsize, hby⟩ := infoI_of'
          have E2 := Lib.hid e2
          have E3 := Lib.hid e3
          have E4 := Lib.hid e4
          have E5 := Lib.hid e5
          clear kid ok e1 e2 e3 e4 e5
          go_wp2_with (
            at_builtin
            refine wpList_append_src _ rfl (.tmp 101) (.tmp 103) 27 27 rfl (w.heap.size + 2) 29 i _ 3 48 Tryz.underlying27 hi hz hsize hby rfl (by decide) (.slice sa ks.length sc) ks.length (flat3 vs) rfl E4.out (.slice (some ⟨W.heap.size, 0, none⟩) 1 1) 1 (by decide) [u0, u1, u2] rfl (by
            rw [hsize]
            refine Src.ofSlice _ Tryz.underlying27 ⟨W.heap.size, 0, none⟩ 1 1 _ rfl (fun j u hj => ?_) E3.out
            have ha : (⟨W.heap.size, 0, none⟩ : Addr).add j = ⟨W.heap.size, j, none⟩ := by unfold Addr.add; split <;> simp_all
            rw [ha]
            exact E2.out.cell j u (by simpa using hj)) (by have := hlk.out; omega) (by have := hlk.out; simp only [maxLen]; omega) (Nat.le_trans hs2'.out (by simp)) ?_
            intro v' w1 j1 j2 j3
            obtain ⟨ga, gc, eg⟩ := (E5.out v' w1 j1 j2 j3).shape rfl
            obtain rfl : v' = .slice ga (ks.length + 1) gc := (upd_self (fun _ => undef) 1 v').symm.trans eg
            have hB := (E5.out _ w1 j1 j2 j3).2.1 rfl
            have z2 := hB.cell 2 _ rfl
            have y2 := hB.frozen 2
            have K := Lib.hid ((E5.out _ w1 j1 j2 j3).store rfl rfl (by decide) (by decide) (by omega) eg undef)
            clear j1 j2 j3 hB eg)
          obtain ⟨T, hx, tt, ok, hrow⟩ := K.out.done rfl rfl
          have HN := Lib.hid (RawSt.next hL.out hV.out hS.out hQ.out hs2'.out hkN.out T hx ok hrow)
          clear T hx ok hrow hX hV hS hL hQ K E2 E3 E4 E5 PU
          go_wp2_with fail
          go_roundw
          case rel => exact ⟨k + 1, by have := hkN.out; omega, by simp, HN.out⟩
          case measure => have := hkN.out; simp [intOf]; omega
        · clear HST
          obtain ⟨m, hm, hm2⟩ : ∃ m : Nat, pickN z1 256 = (m : Int) ∧ m < 256 := ⟨(pickN z1 256).toNat, by have := pickN_range z1 256 (by omega); omega, by have := pickN_range z1 256 (by omega); omega⟩
          have HPm0 := pick_ret z1 HI1.out 256 (by omega) (by omega)
          rw [hm] at HPm0
          have HPm := Lib.hid HPm0
          have Hm := Lib.hid hm2
          have hmI : (m : Int) < 256 := by omega
          have hmI0 : (0 : Int) ≤ (m : Int) := by omega
          clear HPm0 hm hm2
          go_wp2_with fail
          refine wp_region_ghost [some (.pointer (some ⟨w.heap.size + 1, 2, none⟩)), some (.slice sa ks.length sc), some (.int .i64 z1), some (.int .i64 (m : Int)), some (.int .u8 (m : Int)), none, some (.string ⟨(List.replicate 1 (UInt8.ofNat m)).toArray⟩), some (.string (ByteArray.mk #[100, 111, 103] ++ (⟨(List.replicate 1 (UInt8.ofNat m)).toArray⟩ : ByteArray))), some (.agg #[.bool false, .string (ByteArray.mk #[100, 111, 103] ++ (⟨(List.replicate 1 (UInt8.ofNat m)).toArray⟩ : ByteArray)), .slice none 0 0]), none, none, some (.pointer (some ⟨w.heap.size + 1, 2, none⟩)), none] [[], [0], [], [2], [2, 3], [2, 3, 4], [2, 3, 4, 5], [2, 3, 4, 5, 6], [2, 3, 4, 5, 6, 7], [2, 3, 4, 5, 6, 7, 8], [0, 1, 2, 3, 4, 5, 6, 7, 8, 9], [0, 1, 2, 3, 4, 5, 6, 7, 8, 9, 10], [0, 1, 2, 3, 4, 5, 6, 7, 8, 9, 10, 11]] (fun f g y => PushU W (w.heap.size + 2) (w.heap.size + 1) (.slice sa ks.length sc) ks 9 10 12 (RawNext N deep k) f g y ∧ (f 5 = true → f 9 = false → ∃ B, g 5 = .slice (some ⟨B, 0, none⟩) 1 1 ∧ ∀ i, i < 1 → y.cell? ⟨B, i, none⟩ = some (.int .u8 ((m : Nat) : Int)))) hmx (by kernel_rfl) (by kernel_rfl) ?_ ?_ ?_ ?_
          · exact fun f g wa wb h hb => ⟨h.1.later hb, fun h1 h2 => let ⟨B, e1, e2⟩ := h.2 h1 h2; ⟨B, e1, fun i hi => cell_below hb _ _ (e2 i hi)⟩⟩
          · intro f f' g g' wa h hu
            refine ⟨hu.1.same (h 9 rfl) (h 10 rfl) (h 12 rfl).1, fun h1 h2 => ?_⟩
            have := hu.2 ((h 5 rfl).1.trans h1) ((h 9 rfl).1.trans h2)
            rw [(h 5 rfl).2] at this
            exact this
          · exact ⟨PushU.start hX.out hV.out, fun h => absurd h (by simp)⟩
          rintro f g y ⟨HU, HE⟩ Dn
          have kE := Lib.hid HE
          clear HE
          have hup : W.heap.size ≤ y.heap.size := HU.1.1.2.2.2
          have kU := Lib.hid HU
          have kup := Lib.hid hup
          clear HU hup
          refine GW.known _ rfl (fun hd hf => ?_) ?_
          · go_wp2
            exact ⟨rfl, rfl, Below.refl _ _⟩
          simp only [Act.put, List.setIfInBounds_toArray, List.set_cons_succ, List.set_cons_zero]
          refine GW.known _ rfl (fun hd hf => ?_) ?_
          · have hnr : f 12 = false := by
              rcases h : f 12 with _ | _
              · rfl
              · have := Dn 12 h 1 (by decide); rw [hf] at this; cases this
            have o2 := (kU.out.2.1 hnr).cell 2 _ rfl
            have o3 := (kU.out.2.1 hnr).frozen 2
            clear hnr
            go_wp2
            exact ⟨rfl, rfl, Below.refl _ _⟩
          simp only [Act.put, List.setIfInBounds_toArray, List.set_cons_succ, List.set_cons_zero]
          refine GW.known _ rfl (fun hd hf => ?_) ?_
          · go_wp2
            exact ⟨rfl, rfl, Below.refl _ _⟩
          simp only [Act.put, List.setIfInBounds_toArray, List.set_cons_succ, List.set_cons_zero]
          refine GW.known _ rfl (fun hd hf => ?_) ?_
          · go_wp2_with fail
            refine (HPm.out _).mono ?_
            rintro e u ⟨rfl, hb⟩
            go_wp2
            exact ⟨rfl, rfl, hb⟩
          simp only [Act.put, List.setIfInBounds_toArray, List.set_cons_succ, List.set_cons_zero]
          refine GW.known _ rfl (fun hd hf => ?_) ?_
          · go_wp2
            exact ⟨rfl, rfl, Below.refl _ _⟩
          simp only [Act.put, List.setIfInBounds_toArray, List.set_cons_succ, List.set_cons_zero]
          refine GW.open rfl (fun hd hf => ?_) ?_
          · have hn9 : f 9 = false := by
              rcases h : f 9 with _ | _
              · rfl
              · have := Dn 9 h 5 (by decide); rw [hf] at this; cases this
            have hn10 : f 10 = false := by
              rcases h : f 10 with _ | _
              · rfl
              · have := Dn 10 h 5 (by decide); rw [hf] at this; cases this
            have hn12 : f 12 = false := by
              rcases h : f 12 with _ | _
              · rfl
              · have := Dn 12 h 5 (by decide); rw [hf] at this; cases this
            have PS := fun (z : World) (u : Value) (hb : Below y.heap.size y z) => (kU.out.later hb).same (f' := upd f 5 true) (g' := upd g 5 u) ⟨(upd_ne f true (by decide)).symm, (upd_ne g u (by decide)).symm⟩ ⟨(upd_ne f true (by decide)).symm, (upd_ne g u (by decide)).symm⟩ (upd_ne f true (by decide)).symm
            replace PS := Lib.hid PS
            clear hn9 hn10 hn12 hf
            have NB := Has.new y 5 #[.int .u8 (m : Int)]
            have K := Lib.hid (PS.out (y.alloc (.cells #[.int .u8 (m : Int)] 5)) (.slice (some ⟨y.heap.size, 0, none⟩) 1 1) ((Below.refl y.heap.size y).alloc (Nat.le_refl _) _))
            have K2 := Lib.hid (show ∀ i, i < 1 → (y.alloc (.cells #[.int .u8 (m : Int)] 5)).cell? ⟨y.heap.size, i, none⟩ = some (.int .u8 ((m : Nat) : Int)) from fun i hi => by obtain rfl : i = 0 := (by omega); exact NB.cell 0 _ rfl)
            clear NB PS
            go_wp2
            exact ⟨rfl, K.out, fun _ _ => ⟨y.heap.size, rfl, K2.out⟩⟩
          simp only [Act.put, List.setIfInBounds_toArray, List.set_cons_succ, List.set_cons_zero]
          refine GW.known _ rfl (fun hd hf => ?_) ?_
          · obtain ⟨B, e1, e2⟩ := kE.out (hd 5 (by decide)) (by
              rcases h : f 9 with _ | _
              · rfl
              · have := Dn 9 h 6 (by decide); rw [hf] at this; cases this)
            rw [show g (0 + 1 + 1 + 1 + 1 + 1) = .slice (some ⟨B, 0, none⟩) 1 1 from e1]
            have hcv := conv_cells y B 1 m Hm.out e2
            clear e1 e2
            go_wp2
            exact ⟨rfl, rfl, Below.refl _ _⟩
          simp only [Act.put, List.setIfInBounds_toArray, List.set_cons_succ, List.set_cons_zero]
          refine GW.known _ rfl (fun hd hf => ?_) ?_
          · go_wp2
            exact ⟨rfl, rfl, Below.refl _ _⟩
          simp only [Act.put, List.setIfInBounds_toArray, List.set_cons_succ, List.set_cons_zero]
          refine GW.known _ rfl (fun hd hf => ?_) ?_
          · go_wp2
            exact ⟨rfl, rfl, Below.refl _ _⟩
          simp only [Act.put, List.setIfInBounds_toArray, List.set_cons_succ, List.set_cons_zero]
          refine GW.open rfl (fun hd hf => ?_) ?_
          · have hn10 : f 10 = false := by
              rcases h : f 10 with _ | _
              · rfl
              · have := Dn 10 h 9 (by decide); rw [hf] at this; cases this
            have hn12 : f 12 = false := by
              rcases h : f 12 with _ | _
              · rfl
              · have := Dn 12 h 9 (by decide); rw [hf] at this; cases this
            have kid := leafS (y := y) (S := fun b => w.heap.size + 2 ≤ b ∧ Value.ownBlock (.slice sa ks.length sc) ≠ some b) (ByteArray.mk #[100, 111, 103] ++ (⟨(List.replicate 1 (UInt8.ofNat m)).toArray⟩ : ByteArray)) (by rw [ByteArray.size_append, show (⟨(List.replicate 1 (UInt8.ofNat m)).toArray⟩ : ByteArray).size = 1 by rw [sizeM, List.length_replicate]]; decide)
            have ok : RawNext N deep k (.mk false (ByteArray.mk #[100, 111, 103] ++ (⟨(List.replicate 1 (UInt8.ofNat m)).toArray⟩ : ByteArray)) []) := small_text (ByteArray.mk #[100, 111, 103] ++ (⟨(List.replicate 1 (UInt8.ofNat m)).toArray⟩ : ByteArray)) (by rw [ByteArray.size_append, show (⟨(List.replicate 1 (UInt8.ofNat m)).toArray⟩ : ByteArray).size = 1 by rw [sizeM, List.length_replicate]]; decide)
            have K := Lib.hid (kU.out.build hn10 hn12 (by decide) (by decide) kid ok)
            clear hn10 hn12 kid ok
            go_wp2
            exact ⟨rfl, K.out, fun _ h => absurd ((upd_self f 9 true).symm.trans h) (by simp)⟩
          simp only [Act.put, List.setIfInBounds_toArray, List.set_cons_succ, List.set_cons_zero]
          refine GW.open rfl (fun hd hf => ?_) ?_
          · have hn12 : f 12 = false := by
              rcases h : f 12 with _ | _
              · rfl
              · have := Dn 12 h 10 (by decide); rw [hf] at this; cases this
            have hdb := hd 9 (by decide)
            obtain ⟨b4, u0, u1, u2, vs, e1, e2, e3, e4, e5⟩ := kU.out.append (hd 9 (by decide)) hf hn12 (by decide) (by decide) (by omega) (Nat.le_trans hs2'.out kup.out)
            obtain ⟨i, hi, hz, hsize, hby⟩ := infoI_of'
            refine wpList_append_src y rfl (.tmp 32) (.tmp 40) 27 27 rfl (w.heap.size + 2) 29 i _ 3 48 Tryz.underlying27 hi hz hsize hby rfl (by decide) (.slice sa ks.length sc) ks.length (flat3 vs) rfl e4 (.slice (some ⟨b4, 0, none⟩) 1 1) 1 (by decide) [u0, u1, u2] (by simpa [Act.eval] using e1) (by
              rw [hsize]
              refine Src.ofSlice y Tryz.underlying27 ⟨b4, 0, none⟩ 1 1 _ rfl (fun j u hj => ?_) e3
              have ha : (⟨b4, 0, none⟩ : Addr).add j = ⟨b4, j, none⟩ := by unfold Addr.add; split <;> simp_all
              rw [ha]
              exact e2.cell j u (by simpa using hj)) (by have := hlk.out; omega) (by have := hlk.out; simp only [maxLen]; omega) (Nat.le_trans hs2'.out kup.out) ?_
            intro v' w' j1 j2 j3
            exact ⟨rfl, e5 v' w' j1 j2 j3, fun _ h => absurd (hdb.symm.trans ((upd_ne f true (show (9 : Nat) ≠ 10 by decide)).symm.trans h)) (by simp)⟩
          simp only [Act.put, List.setIfInBounds_toArray, List.set_cons_succ, List.set_cons_zero]
          refine GW.known _ rfl (fun hd hf => ?_) ?_
          · go_wp2
            exact ⟨rfl, rfl, Below.refl _ _⟩
          simp only [Act.put, List.setIfInBounds_toArray, List.set_cons_succ, List.set_cons_zero]
          refine GW.open rfl (fun hd hf => ?_) ?_
          · have hia := hd 10 (by decide)
            have hdb := hd 9 (by decide)
            obtain ⟨ga, gc, eg⟩ := kU.out.shape hia
            have K := Lib.hid (fun u => kU.out.store hia hf (by decide) (by decide) (by omega) eg u)
            have hB := kU.out.2.1 hf
            have z2 := hB.cell 2 _ rfl
            have y2 := hB.frozen 2
            rw [show g (0 + 1 + 1 + 1 + 1 + 1 + 1 + 1 + 1 + 1 + 1) = .slice ga (ks.length + 1) gc from eg]
            have hdbH := Lib.hid hdb
            clear hia hB eg hdb
            go_wp2
            exact ⟨rfl, K.out _, fun _ h => absurd (hdbH.out.symm.trans ((upd_ne f true (show (9 : Nat) ≠ 12 by decide)).symm.trans h)) (by simp)⟩
          simp only [Act.put, List.setIfInBounds_toArray, List.set_cons_succ, List.set_cons_zero]
          refine GW.nil (fun hall => ?_)
          obtain ⟨T, hx, tt, ok, hrow⟩ := kU.out.done (hall 10 (by omega)) (hall 12 (by omega))
          have HN := Lib.hid (RawSt.next hL.out hV.out hS.out hQ.out hs2'.out hkN.out T hx ok hrow)
          clear T hx ok hrow kU kup hX hV hS hL hQ Dn hall kE
          go_wp2_with fail
          go_roundw
          case rel => exact ⟨k + 1, by have := hkN.out; omega, by simp, HN.out⟩
          case measure => have := hkN.out; simp [intOf]; omega
      · have hkNI : ¬ (k : Int) < (N : Int) := by omega
        obtain ⟨sa, n', sc, ks, hsm, hit, hL, hX, hQ⟩ := hst.done hN9
        obtain ⟨n', rfl⟩ : ∃ n0, n' = n0 := ⟨_, rfl⟩
        have c0 := hX.cell 0 _ rfl
        have c1 := hX.cell 1 _ rfl
        have c2 := hX.cell 2 _ rfl
        have y0 := hL.cell 0 _ rfl
        have y1 := hL.cell 1 _ rfl
        have y2 := hL.cell 2 _ rfl
        have g0 := hL.frozen 0
        have g1 := hL.frozen 1
        have g2 := hL.frozen 2
        have S := ((hL.set 0 (.bool true)).set 1 (.string ⟨#[]⟩)).set 2 (.slice sa n' sc)
        have z0 := Lib.hid (S.cell 0 _ rfl)
        have z1 := Lib.hid (S.cell 1 _ rfl)
        have z2 := Lib.hid (S.cell 2 _ rfl)
        have HQ := Lib.hid (((hQ.setCell (p := ⟨w.heap.size, 0, none⟩) (Nat.le_refl _) (.bool true)).setCell (p := ⟨w.heap.size, 1, none⟩) (Nat.le_refl _) (.string ⟨#[]⟩)).setCell (p := ⟨w.heap.size, 2, none⟩) (Nat.le_refl _) (.slice sa n' sc))
        have HIT := Lib.hid (hit.keep (X := ((wr.setCell ⟨w.heap.size, 0, none⟩ (.bool true)).setCell ⟨w.heap.size, 1, none⟩ (.string ⟨#[]⟩)).setCell ⟨w.heap.size, 2, none⟩ (.slice sa n' sc)) (T := fun b => w.heap.size ≤ b) (fun b hb _ => by
          have hne : b ≠ w.heap.size := by omega
          exact (Below.heap_setCell _ ⟨w.heap.size, 2, none⟩ _ b hne).trans ((Below.heap_setCell _ ⟨w.heap.size, 1, none⟩ _ b hne).trans (Below.heap_setCell _ ⟨w.heap.size, 0, none⟩ _ b hne))) (fun b hb _ => by omega))
        have HSM := Lib.hid hsm
        clear hsm hit hL hX hQ S hst HI HD HR
        go_wp2_with fail
        replace z0 := z0.out
        replace z1 := z1.out
        replace z2 := z2.out
        refine bodyPost_ret (v := .agg #[.bool true, .string ⟨#[]⟩, .slice sa n' sc]) (by simp [results, Tryz.results5, go_sem, z0, z1, z2]) rfl (by rw [← HPP.out]; exact ⟨_, _, rfl, HIT.out, HSM.out, HQ.out⟩)

  case inr =>
    go_enter Tryz.func5, Tryz.ntmps5
    go_wp2_with fail
    rw [show Value.slice a 9 cap = Value.slice a N cap by rw [e9]]
    clear e9
    clear x0 x1 x2 f0 f1 f2
    try replace h9 := Lib.hid h9
    clear HH h9
    obtain ⟨W0, hW0⟩ : ∃ W0, (w.alloc (.cells #[.bool false, .string ⟨#[]⟩, .slice none 0 0] 29)).alloc (.cells #[.bool true, .string ⟨#[]⟩, .slice none 0 0] 29) = W0 := ⟨_, rfl⟩
    rw [hW0] at LR LX Q hs2 ⊢
    clear hW0
    have HI := Lib.hid IH
    have HD := Lib.hid hd
    clear IH hd
    go_loopw [6] (fun i wr => ∃ k : Nat, k ≤ N + 3 ∧ i = .int .i64 (k : Int) ∧ RawSt w N deep k wr) (fun i _ => N - (intOf i).toNat)
    case atStart => exact ⟨0, by omega, rfl, _, [], LR.out, LX.out, RowK.nil _ _, SmallL.start _ _, Q.out, by have := hs2.out; omega⟩
    case round =>
      clear LR LX Q hs2
      obtain ⟨k, hk, rfl, hst⟩ := hrel
      by_cases hkN : k < N
      · have hkNI : (k : Int) < (N : Int) := by omega
        have hk0 : (0 : Int) ≤ (k : Int) := by omega
        have hki : (k : Int) < 100 := by omega
        have hRw := HR.out.later hst.below
        obtain ⟨a', cap', e, g1, g2, g3⟩ := hRw
        obtain ⟨⟨z0, z1⟩, hp⟩ : ∃ p, ys[k]? = some p := ⟨_, List.getElem?_eq_getElem (by have := HLen.out; omega)⟩
        obtain ⟨i0, i1, b, hb, c0, c1⟩ := g3 k _ hp
        injection e with e1 e2 e3
        subst e1 e3
        subst hb
        simp only at i0 i1 c0 c1
        replace c1 : wr.cell? ⟨(b.add (k * 2)).block, (b.add (k * 2)).off + 1, none⟩ = some (.int .i64 z1) := c1
        have HP := Lib.hid (pick_ret z0 i0 6 (by omega) (by omega))
        have h6 := pickN_range z0 6 (by omega)
        generalize pickN z0 6 = q at *
        have hq : q = 0 ∨ q = 1 ∨ q = 2 ∨ q = 3 ∨ q = 4 ∨ q = 5 := by omega
        have HST := Lib.hid hst
        have HI1 := Lib.hid i1
        have hcN := Lib.hid (show N ≤ cap by omega)
        have hkNH := Lib.hid hkN
        clear g3 hp e2 g1 g2 hst i0 i1 h6 hkN
        replace hkN := hkNH
        clear hkNH
        go_wp2_with fail
        refine (HP.out _).mono ?_
        rintro _ W ⟨rfl, qb⟩
        replace HST := Lib.hid (HST.out.later qb)
        clear c0 c1 HP qb
        obtain ⟨sv, ks, hL0, hX0, hV0, hS0, hQ0, hs0⟩ := HST.out
        obtain ⟨sa, sc, rfl⟩ := hV0.shape
        have hlk := Lib.hid (show ks.length ≤ 9 by have := hS0.2.2.2; have := hkN.out; omega)
        have hL := Lib.hid hL0
        have hX := Lib.hid hX0
        have hV := Lib.hid hV0
        have hS := Lib.hid hS0
        have hQ := Lib.hid hQ0
        have hs2' := Lib.hid hs0
        clear hL0 hX0 hV0 hS0 hQ0 hs0
        rcases hq with rfl | rfl | rfl | rfl | rfl | rfl
        · clear HST
          have HOf := Lib.hid (refOf_ret z1 HI1.out)
          have HNum0 : Ret Tryz.prog 18 #[wv (ofN z1)] (.agg #[.bool false, .string ⟨(digs (ofN z1)).toArray⟩, .slice none 0 0]) := refNum_ret (ofN z1) (ofN_lt z1 HI1.out)
          have hl32 : (digs (ofN z1)).length ≤ 32 := digs_length (by have := ofN_lt z1 HI1.out; unfold W256 at this; exact Nat.lt_of_lt_of_le this (by decide))
          obtain ⟨sB, hsB⟩ : ∃ sB : ByteArray, (⟨(digs (ofN z1)).toArray⟩ : ByteArray) = sB := ⟨_, rfl⟩
          have HsB := Lib.hid (show sB.size ≤ 70 by rw [← hsB, sizeM]; omega)
          rw [hsB] at HNum0
          have HNum := Lib.hid HNum0
          clear HNum0 hl32 hsB
          go_wp2_with fail
          refine wp_region_ghost [some (.pointer (some ⟨w.heap.size + 1, 2, none⟩)), some (.slice sa ks.length sc), some (.int .i64 z1), some (wv (ofN z1)), some (.agg #[.bool false, .string sB, .slice none 0 0]), none, none, some (.pointer (some ⟨w.heap.size + 1, 2, none⟩)), none] [[], [0], [], [2], [2, 3], [2, 3, 4], [0, 1, 2, 3, 4, 5], [0, 1, 2, 3, 4, 5, 6], [0, 1, 2, 3, 4, 5, 6, 7]] (PushU W (w.heap.size + 2) (w.heap.size + 1) (.slice sa ks.length sc) ks 5 6 8 (RawNext N deep k)) hmx (by kernel_rfl) (by kernel_rfl) ?_ ?_ ?_ ?_
          · exact fun f g wa wb h hb => h.later hb
          · exact fun f f' g g' wa h hu => hu.same (h 5 rfl) (h 6 rfl) (h 8 rfl).1
          · exact PushU.start hX.out hV.out
          rintro f g y HU Dn
          have hup : W.heap.size ≤ y.heap.size := HU.1.1.2.2.2
          have kU := Lib.hid HU
          have kup := Lib.hid hup
          clear HU hup
          refine GW.known _ rfl (fun hd hf => ?_) ?_
          · go_wp2
            exact ⟨rfl, rfl, Below.refl _ _⟩
          simp only [Act.put, List.setIfInBounds_toArray, List.set_cons_succ, List.set_cons_zero]
          refine GW.known _ rfl (fun hd hf => ?_) ?_
          · have hnr : f 8 = false := by
              rcases h : f 8 with _ | _
              · rfl
              · have := Dn 8 h 1 (by decide); rw [hf] at this; cases this
            have o2 := (kU.out.2.1 hnr).cell 2 _ rfl
            have o3 := (kU.out.2.1 hnr).frozen 2
            clear hnr
            go_wp2
            exact ⟨rfl, rfl, Below.refl _ _⟩
          simp only [Act.put, List.setIfInBounds_toArray, List.set_cons_succ, List.set_cons_zero]
          refine GW.known _ rfl (fun hd hf => ?_) ?_
          · go_wp2
            exact ⟨rfl, rfl, Below.refl _ _⟩
          simp only [Act.put, List.setIfInBounds_toArray, List.set_cons_succ, List.set_cons_zero]
          refine GW.known _ rfl (fun hd hf => ?_) ?_
          · go_wp2_with fail
            refine (HOf.out _).mono ?_
            rintro e u ⟨rfl, hb⟩
            go_wp2
            exact ⟨rfl, rfl, hb⟩
          simp only [Act.put, List.setIfInBounds_toArray, List.set_cons_succ, List.set_cons_zero]
          refine GW.known _ rfl (fun hd hf => ?_) ?_
          · go_wp2_with fail
            refine (HNum.out _).mono ?_
            rintro e u ⟨rfl, hb⟩
            go_wp2
            exact ⟨rfl, rfl, hb⟩
          simp only [Act.put, List.setIfInBounds_toArray, List.set_cons_succ, List.set_cons_zero]
          refine GW.open rfl (fun hd hf => ?_) ?_
          · have hn6 : f 6 = false := by
              rcases h : f 6 with _ | _
              · rfl
              · have := Dn 6 h 5 (by decide); rw [hf] at this; cases this
            have hn8 : f 8 = false := by
              rcases h : f 8 with _ | _
              · rfl
              · have := Dn 8 h 5 (by decide); rw [hf] at this; cases this
            have kid := leafS (y := y) (S := fun b => w.heap.size + 2 ≤ b ∧ Value.ownBlock (.slice sa ks.length sc) ≠ some b) sB HsB.out
            have ok : RawNext N deep k (.mk false sB []) := small_text sB HsB.out
            have K := Lib.hid (kU.out.build hn6 hn8 (by decide) (by decide) kid ok)
            clear hn6 hn8 kid ok
            go_wp2
            exact ⟨rfl, K.out⟩
          simp only [Act.put, List.setIfInBounds_toArray, List.set_cons_succ, List.set_cons_zero]
          refine GW.open rfl (fun hd hf => ?_) ?_
          · have hn8 : f 8 = false := by
              rcases h : f 8 with _ | _
              · rfl
              · have := Dn 8 h 6 (by decide); rw [hf] at this; cases this
            have hdb := hd 5 (by decide)
            obtain ⟨b4, u0, u1, u2, vs, e1, e2, e3, e4, e5⟩ := kU.out.append (hd 5 (by decide)) hf hn8 (by decide) (by decide) (by omega) (Nat.le_trans hs2'.out kup.out)
            obtain ⟨i, hi, hz, hsize, hby⟩ := infoI_of'
            refine wpList_append_src y rfl (.tmp 46) (.tmp 50) 27 27 rfl (w.heap.size + 2) 29 i _ 3 48 Tryz.underlying27 hi hz hsize hby rfl (by decide) (.slice sa ks.length sc) ks.length (flat3 vs) rfl e4 (.slice (some ⟨b4, 0, none⟩) 1 1) 1 (by decide) [u0, u1, u2] (by simpa [Act.eval] using e1) (by
              rw [hsize]
              refine Src.ofSlice y Tryz.underlying27 ⟨b4, 0, none⟩ 1 1 _ rfl (fun j u hj => ?_) e3
              have ha : (⟨b4, 0, none⟩ : Addr).add j = ⟨b4, j, none⟩ := by unfold Addr.add; split <;> simp_all
              rw [ha]
              exact e2.cell j u (by simpa using hj)) (by have := hlk.out; omega) (by have := hlk.out; simp only [maxLen]; omega) (Nat.le_trans hs2'.out kup.out) ?_
            intro v' w' j1 j2 j3
            exact ⟨rfl, e5 v' w' j1 j2 j3⟩
          simp only [Act.put, List.setIfInBounds_toArray, List.set_cons_succ, List.set_cons_zero]
          refine GW.known _ rfl (fun hd hf => ?_) ?_
          · go_wp2
            exact ⟨rfl, rfl, Below.refl _ _⟩
          simp only [Act.put, List.setIfInBounds_toArray, List.set_cons_succ, List.set_cons_zero]
          refine GW.open rfl (fun hd hf => ?_) ?_
          · have hia := hd 6 (by decide)
            have hdb := hd 5 (by decide)
            obtain ⟨ga, gc, eg⟩ := kU.out.shape hia
            have K := Lib.hid (fun u => kU.out.store hia hf (by decide) (by decide) (by omega) eg u)
            have hB := kU.out.2.1 hf
            have z2 := hB.cell 2 _ rfl
            have y2 := hB.frozen 2
            rw [show g (0 + 1 + 1 + 1 + 1 + 1 + 1) = .slice ga (ks.length + 1) gc from eg]
            have hdbH := Lib.hid hdb
            clear hia hB eg hdb
            go_wp2
            exact ⟨rfl, K.out _⟩
          simp only [Act.put, List.setIfInBounds_toArray, List.set_cons_succ, List.set_cons_zero]
          refine GW.nil (fun hall => ?_)
          obtain ⟨T, hx, tt, ok, hrow⟩ := kU.out.done (hall 6 (by omega)) (hall 8 (by omega))
          have HN := Lib.hid (RawSt.next hL.out hV.out hS.out hQ.out hs2'.out hkN.out T hx ok hrow)
          clear T hx ok hrow kU kup hX hV hS hL hQ Dn hall
          go_wp2_with fail
          go_roundw
          case rel => exact ⟨k + 1, by have := hkN.out; omega, by simp, HN.out⟩
          case measure => have := hkN.out; simp [intOf]; omega
        · clear HST
          obtain ⟨m, hm, hm2⟩ : ∃ m : Nat, pickN z1 70 = (m : Int) ∧ m < 70 := ⟨(pickN z1 70).toNat, by have := pickN_range z1 70 (by omega); omega, by have := pickN_range z1 70 (by omega); omega⟩
          have HPm0 := pick_ret z1 HI1.out 70 (by omega) (by omega)
          rw [hm] at HPm0
          have HPm := Lib.hid HPm0
          have Hm := Lib.hid hm2
          clear HPm0 hm
          go_wp2_with fail
          refine wp_region_ghost [some (.pointer (some ⟨w.heap.size + 1, 2, none⟩)), some (.slice sa ks.length sc), some (.int .i64 z1), some (.int .i64 (m : Int)), none, some (.string ⟨(List.replicate m (UInt8.ofNat 0)).toArray⟩), some (.agg #[.bool false, .string ⟨(List.replicate m (UInt8.ofNat 0)).toArray⟩, .slice none 0 0]), none, none, some (.pointer (some ⟨w.heap.size + 1, 2, none⟩)), none] [[], [0], [], [2], [2, 3], [2, 3, 4], [2, 3, 4, 5], [2, 3, 4, 5, 6], [0, 1, 2, 3, 4, 5, 6, 7], [0, 1, 2, 3, 4, 5, 6, 7, 8], [0, 1, 2, 3, 4, 5, 6, 7, 8, 9]] (fun f g y => PushU W (w.heap.size + 2) (w.heap.size + 1) (.slice sa ks.length sc) ks 7 8 10 (RawNext N deep k) f g y ∧ (f 4 = true → f 7 = false → ∃ B, g 4 = .slice (some ⟨B, 0, none⟩) m m ∧ ∀ i, i < m → y.cell? ⟨B, i, none⟩ = some (.int .u8 ((0 : Nat) : Int)))) hmx (by kernel_rfl) (by kernel_rfl) ?_ ?_ ?_ ?_
          · exact fun f g wa wb h hb => ⟨h.1.later hb, fun h1 h2 => let ⟨B, e1, e2⟩ := h.2 h1 h2; ⟨B, e1, fun i hi => cell_below hb _ _ (e2 i hi)⟩⟩
          · intro f f' g g' wa h hu
            refine ⟨hu.1.same (h 7 rfl) (h 8 rfl) (h 10 rfl).1, fun h1 h2 => ?_⟩
            have := hu.2 ((h 4 rfl).1.trans h1) ((h 7 rfl).1.trans h2)
            rw [(h 4 rfl).2] at this
            exact this
          · exact ⟨PushU.start hX.out hV.out, fun h => absurd h (by simp)⟩
          rintro f g y ⟨HU, HE⟩ Dn
          have kE := Lib.hid HE
          clear HE
          have hup : W.heap.size ≤ y.heap.size := HU.1.1.2.2.2
          have kU := Lib.hid HU
          have kup := Lib.hid hup
          clear HU hup
          refine GW.known _ rfl (fun hd hf => ?_) ?_
          · go_wp2
            exact ⟨rfl, rfl, Below.refl _ _⟩
          simp only [Act.put, List.setIfInBounds_toArray, List.set_cons_succ, List.set_cons_zero]
          refine GW.known _ rfl (fun hd hf => ?_) ?_
          · have hnr : f 10 = false := by
              rcases h : f 10 with _ | _
              · rfl
              · have := Dn 10 h 1 (by decide); rw [hf] at this; cases this
            have o2 := (kU.out.2.1 hnr).cell 2 _ rfl
            have o3 := (kU.out.2.1 hnr).frozen 2
            clear hnr
            go_wp2
            exact ⟨rfl, rfl, Below.refl _ _⟩
          simp only [Act.put, List.setIfInBounds_toArray, List.set_cons_succ, List.set_cons_zero]
          refine GW.known _ rfl (fun hd hf => ?_) ?_
          · go_wp2
            exact ⟨rfl, rfl, Below.refl _ _⟩
          simp only [Act.put, List.setIfInBounds_toArray, List.set_cons_succ, List.set_cons_zero]
          refine GW.known _ rfl (fun hd hf => ?_) ?_
          · go_wp2_with fail
            refine (HPm.out _).mono ?_
            rintro e u ⟨rfl, hb⟩
            go_wp2
            exact ⟨rfl, rfl, hb⟩
          simp only [Act.put, List.setIfInBounds_toArray, List.set_cons_succ, List.set_cons_zero]
          refine GW.open rfl (fun hd hf => ?_) ?_
          · have hn7 : f 7 = false := by
              rcases h : f 7 with _ | _
              · rfl
              · have := Dn 7 h 4 (by decide); rw [hf] at this; cases this
            have hn8 : f 8 = false := by
              rcases h : f 8 with _ | _
              · rfl
              · have := Dn 8 h 4 (by decide); rw [hf] at this; cases this
            have hn10 : f 10 = false := by
              rcases h : f 10 with _ | _
              · rfl
              · have := Dn 10 h 4 (by decide); rw [hf] at this; cases this
            have PS := fun (z : World) (u : Value) (hb : Below y.heap.size y z) => (kU.out.later hb).same (f' := upd f 4 true) (g' := upd g 4 u) ⟨(upd_ne f true (by decide)).symm, (upd_ne g u (by decide)).symm⟩ ⟨(upd_ne f true (by decide)).symm, (upd_ne g u (by decide)).symm⟩ (upd_ne f true (by decide)).symm
            replace PS := Lib.hid PS
            clear hn7 hn8 hn10 hf
            obtain ⟨cs, hcs, hmk⟩ := run_mkZ y m (by omega)
            have NB := Has.new y 5 cs
            have K := Lib.hid (PS.out (y.alloc (.cells cs 5)) (.slice (some ⟨y.heap.size, 0, none⟩) m m) ((Below.refl y.heap.size y).alloc (Nat.le_refl _) _))
            have K2 := Lib.hid (show ∀ i, i < m → (y.alloc (.cells cs 5)).cell? ⟨y.heap.size, i, none⟩ = some (.int .u8 ((0 : Nat) : Int)) from fun i hi => NB.cell i _ (hcs i hi))
            clear NB hcs PS
            go_wp2
            exact ⟨rfl, K.out, fun _ _ => ⟨y.heap.size, rfl, K2.out⟩⟩
          simp only [Act.put, List.setIfInBounds_toArray, List.set_cons_succ, List.set_cons_zero]
          refine GW.known _ rfl (fun hd hf => ?_) ?_
          · obtain ⟨B, e1, e2⟩ := kE.out (hd 4 (by decide)) (by
              rcases h : f 7 with _ | _
              · rfl
              · have := Dn 7 h 5 (by decide); rw [hf] at this; cases this)
            rw [show g (0 + 1 + 1 + 1 + 1) = .slice (some ⟨B, 0, none⟩) m m from e1]
            have hcv := conv_cells y B m 0 (by decide) e2
            clear e1 e2
            go_wp2
            exact ⟨rfl, rfl, Below.refl _ _⟩
          simp only [Act.put, List.setIfInBounds_toArray, List.set_cons_succ, List.set_cons_zero]
          refine GW.known _ rfl (fun hd hf => ?_) ?_
          · go_wp2
            exact ⟨rfl, rfl, Below.refl _ _⟩
          simp only [Act.put, List.setIfInBounds_toArray, List.set_cons_succ, List.set_cons_zero]
          refine GW.open rfl (fun hd hf => ?_) ?_
          · have hn8 : f 8 = false := by
              rcases h : f 8 with _ | _
              · rfl
              · have := Dn 8 h 7 (by decide); rw [hf] at this; cases this
            have hn10 : f 10 = false := by
              rcases h : f 10 with _ | _
              · rfl
              · have := Dn 10 h 7 (by decide); rw [hf] at this; cases this
            have kid := leafS (y := y) (S := fun b => w.heap.size + 2 ≤ b ∧ Value.ownBlock (.slice sa ks.length sc) ≠ some b) ⟨(List.replicate m (UInt8.ofNat 0)).toArray⟩ (by rw [sizeM, List.length_replicate]; have := Hm.out; omega)
            have ok : RawNext N deep k (.mk false ⟨(List.replicate m (UInt8.ofNat 0)).toArray⟩ []) := small_text ⟨(List.replicate m (UInt8.ofNat 0)).toArray⟩ (by rw [sizeM, List.length_replicate]; have := Hm.out; omega)
            have K := Lib.hid (kU.out.build hn8 hn10 (by decide) (by decide) kid ok)
            clear hn8 hn10 kid ok
            go_wp2
            exact ⟨rfl, K.out, fun _ h => absurd ((upd_self f 7 true).symm.trans h) (by simp)⟩
          simp only [Act.put, List.setIfInBounds_toArray, List.set_cons_succ, List.set_cons_zero]
          refine GW.open rfl (fun hd hf => ?_) ?_
          · have hn10 : f 10 = false := by
              rcases h : f 10 with _ | _
              · rfl
              · have := Dn 10 h 8 (by decide); rw [hf] at this; cases this
            have hdb := hd 7 (by decide)
            obtain ⟨b4, u0, u1, u2, vs, e1, e2, e3, e4, e5⟩ := kU.out.append (hd 7 (by decide)) hf hn10 (by decide) (by decide) (by omega) (Nat.le_trans hs2'.out kup.out)
            obtain ⟨i, hi, hz, hsize, hby⟩ := infoI_of'
            refine wpList_append_src y rfl (.tmp 56) (.tmp 62) 27 27 rfl (w.heap.size + 2) 29 i _ 3 48 Tryz.underlying27 hi hz hsize hby rfl (by decide) (.slice sa ks.length sc) ks.length (flat3 vs) rfl e4 (.slice (some ⟨b4, 0, none⟩) 1 1) 1 (by decide) [u0, u1, u2] (by simpa [Act.eval] using e1) (by
              rw [hsize]
              refine Src.ofSlice y Tryz.underlying27 ⟨b4, 0, none⟩ 1 1 _ rfl (fun j u hj => ?_) e3
              have ha : (⟨b4, 0, none⟩ : Addr).add j = ⟨b4, j, none⟩ := by unfold Addr.add; split <;> simp_all
              rw [ha]
              exact e2.cell j u (by simpa using hj)) (by have := hlk.out; omega) (by have := hlk.out; simp only [maxLen]; omega) (Nat.le_trans hs2'.out kup.out) ?_
            intro v' w' j1 j2 j3
            exact ⟨rfl, e5 v' w' j1 j2 j3, fun _ h => absurd (hdb.symm.trans ((upd_ne f true (show (7 : Nat) ≠ 8 by decide)).symm.trans h)) (by simp)⟩
          simp only [Act.put, List.setIfInBounds_toArray, List.set_cons_succ, List.set_cons_zero]
          refine GW.known _ rfl (fun hd hf => ?_) ?_
          · go_wp2
            exact ⟨rfl, rfl, Below.refl _ _⟩
          simp only [Act.put, List.setIfInBounds_toArray, List.set_cons_succ, List.set_cons_zero]
          refine GW.open rfl (fun hd hf => ?_) ?_
          · have hia := hd 8 (by decide)
            have hdb := hd 7 (by decide)
            obtain ⟨ga, gc, eg⟩ := kU.out.shape hia
            have K := Lib.hid (fun u => kU.out.store hia hf (by decide) (by decide) (by omega) eg u)
            have hB := kU.out.2.1 hf
            have z2 := hB.cell 2 _ rfl
            have y2 := hB.frozen 2
            rw [show g (0 + 1 + 1 + 1 + 1 + 1 + 1 + 1 + 1) = .slice ga (ks.length + 1) gc from eg]
            have hdbH := Lib.hid hdb
            clear hia hB eg hdb
            go_wp2
            exact ⟨rfl, K.out _, fun _ h => absurd (hdbH.out.symm.trans ((upd_ne f true (show (7 : Nat) ≠ 10 by decide)).symm.trans h)) (by simp)⟩
          simp only [Act.put, List.setIfInBounds_toArray, List.set_cons_succ, List.set_cons_zero]
          refine GW.nil (fun hall => ?_)
          obtain ⟨T, hx, tt, ok, hrow⟩ := kU.out.done (hall 8 (by omega)) (hall 10 (by omega))
          have HN := Lib.hid (RawSt.next hL.out hV.out hS.out hQ.out hs2'.out hkN.out T hx ok hrow)
          clear T hx ok hrow kU kup hX hV hS hL hQ Dn hall kE
          go_wp2_with fail
          go_roundw
          case rel => exact ⟨k + 1, by have := hkN.out; omega, by simp, HN.out⟩
          case measure => have := hkN.out; simp [intOf]; omega
        · clear HST
          obtain ⟨m, hm, hm2⟩ : ∃ m : Nat, pickN z1 256 = (m : Int) ∧ m < 256 := ⟨(pickN z1 256).toNat, by have := pickN_range z1 256 (by omega); omega, by have := pickN_range z1 256 (by omega); omega⟩
          have HPm0 := pick_ret z1 HI1.out 256 (by omega) (by omega)
          rw [hm] at HPm0
          have HPm := Lib.hid HPm0
          have Hm := Lib.hid hm2
          have hmI : (m : Int) < 256 := by omega
          have hmI0 : (0 : Int) ≤ (m : Int) := by omega
          clear HPm0 hm hm2
          go_wp2_with fail
          refine wp_region_ghost [some (.pointer (some ⟨w.heap.size + 1, 2, none⟩)), some (.slice sa ks.length sc), some (.int .i64 z1), some (.int .i64 (m : Int)), some (.int .u8 (m : Int)), none, some (.string ⟨(List.replicate 1 (UInt8.ofNat m)).toArray⟩), some (.agg #[.bool false, .string ⟨(List.replicate 1 (UInt8.ofNat m)).toArray⟩, .slice none 0 0]), none, none, some (.pointer (some ⟨w.heap.size + 1, 2, none⟩)), none] [[], [0], [], [2], [2, 3], [2, 3, 4], [2, 3, 4, 5], [2, 3, 4, 5, 6], [2, 3, 4, 5, 6, 7], [0, 1, 2, 3, 4, 5, 6, 7, 8], [0, 1, 2, 3, 4, 5, 6, 7, 8, 9], [0, 1, 2, 3, 4, 5, 6, 7, 8, 9, 10]] (fun f g y => PushU W (w.heap.size + 2) (w.heap.size + 1) (.slice sa ks.length sc) ks 8 9 11 (RawNext N deep k) f g y ∧ (f 5 = true → f 8 = false → ∃ B, g 5 = .slice (some ⟨B, 0, none⟩) 1 1 ∧ ∀ i, i < 1 → y.cell? ⟨B, i, none⟩ = some (.int .u8 ((m : Nat) : Int)))) hmx (by kernel_rfl) (by kernel_rfl) ?_ ?_ ?_ ?_
          · exact fun f g wa wb h hb => ⟨h.1.later hb, fun h1 h2 => let ⟨B, e1, e2⟩ := h.2 h1 h2; ⟨B, e1, fun i hi => cell_below hb _ _ (e2 i hi)⟩⟩
          · intro f f' g g' wa h hu
            refine ⟨hu.1.same (h 8 rfl) (h 9 rfl) (h 11 rfl).1, fun h1 h2 => ?_⟩
            have := hu.2 ((h 5 rfl).1.trans h1) ((h 8 rfl).1.trans h2)
            rw [(h 5 rfl).2] at this
            exact this
          · exact ⟨PushU.start hX.out hV.out, fun h => absurd h (by simp)⟩
          rintro f g y ⟨HU, HE⟩ Dn
          have kE := Lib.hid HE
          clear HE
          have hup : W.heap.size ≤ y.heap.size := HU.1.1.2.2.2
          have kU := Lib.hid HU
          have kup := Lib.hid hup
          clear HU hup
          refine GW.known _ rfl (fun hd hf => ?_) ?_
          · go_wp2
            exact ⟨rfl, rfl, Below.refl _ _⟩
          simp only [Act.put, List.setIfInBounds_toArray, List.set_cons_succ, List.set_cons_zero]
          refine GW.known _ rfl (fun hd hf => ?_) ?_
          · have hnr : f 11 = false := by
              rcases h : f 11 with _ | _
              · rfl
              · have := Dn 11 h 1 (by decide); rw [hf] at this; cases this
            have o2 := (kU.out.2.1 hnr).cell 2 _ rfl
            have o3 := (kU.out.2.1 hnr).frozen 2
            clear hnr
            go_wp2
            exact ⟨rfl, rfl, Below.refl _ _⟩
          simp only [Act.put, List.setIfInBounds_toArray, List.set_cons_succ, List.set_cons_zero]
          refine GW.known _ rfl (fun hd hf => ?_) ?_
          · go_wp2
            exact ⟨rfl, rfl, Below.refl _ _⟩
          simp only [Act.put, List.setIfInBounds_toArray, List.set_cons_succ, List.set_cons_zero]
          refine GW.known _ rfl (fun hd hf => ?_) ?_
          · go_wp2_with fail
            refine (HPm.out _).mono ?_
            rintro e u ⟨rfl, hb⟩
            go_wp2
            exact ⟨rfl, rfl, hb⟩
          simp only [Act.put, List.setIfInBounds_toArray, List.set_cons_succ, List.set_cons_zero]
          refine GW.known _ rfl (fun hd hf => ?_) ?_
          · go_wp2
            exact ⟨rfl, rfl, Below.refl _ _⟩
          simp only [Act.put, List.setIfInBounds_toArray, List.set_cons_succ, List.set_cons_zero]
          refine GW.open rfl (fun hd hf => ?_) ?_
          · have hn8 : f 8 = false := by
              rcases h : f 8 with _ | _
              · rfl
              · have := Dn 8 h 5 (by decide); rw [hf] at this; cases this
            have hn9 : f 9 = false := by
              rcases h : f 9 with _ | _
              · rfl
              · have := Dn 9 h 5 (by decide); rw [hf] at this; cases this
            have hn11 : f 11 = false := by
              rcases h : f 11 with _ | _
              · rfl
              · have := Dn 11 h 5 (by decide); rw [hf] at this; cases this
            have PS := fun (z : World) (u : Value) (hb : Below y.heap.size y z) => (kU.out.later hb).same (f' := upd f 5 true) (g' := upd g 5 u) ⟨(upd_ne f true (by decide)).symm, (upd_ne g u (by decide)).symm⟩ ⟨(upd_ne f true (by decide)).symm, (upd_ne g u (by decide)).symm⟩ (upd_ne f true (by decide)).symm
            replace PS := Lib.hid PS
            clear hn8 hn9 hn11 hf
            have NB := Has.new y 5 #[.int .u8 (m : Int)]
            have K := Lib.hid (PS.out (y.alloc (.cells #[.int .u8 (m : Int)] 5)) (.slice (some ⟨y.heap.size, 0, none⟩) 1 1) ((Below.refl y.heap.size y).alloc (Nat.le_refl _) _))
            have K2 := Lib.hid (show ∀ i, i < 1 → (y.alloc (.cells #[.int .u8 (m : Int)] 5)).cell? ⟨y.heap.size, i, none⟩ = some (.int .u8 ((m : Nat) : Int)) from fun i hi => by obtain rfl : i = 0 := (by omega); exact NB.cell 0 _ rfl)
            clear NB PS
            go_wp2
            exact ⟨rfl, K.out, fun _ _ => ⟨y.heap.size, rfl, K2.out⟩⟩
          simp only [Act.put, List.setIfInBounds_toArray, List.set_cons_succ, List.set_cons_zero]
          refine GW.known _ rfl (fun hd hf => ?_) ?_
          · obtain ⟨B, e1, e2⟩ := kE.out (hd 5 (by decide)) (by
              rcases h : f 8 with _ | _
              · rfl
              · have := Dn 8 h 6 (by decide); rw [hf] at this; cases this)
            rw [show g (0 + 1 + 1 + 1 + 1 + 1) = .slice (some ⟨B, 0, none⟩) 1 1 from e1]
            have hcv := conv_cells y B 1 m Hm.out e2
            clear e1 e2
            go_wp2
            exact ⟨rfl, rfl, Below.refl _ _⟩
          simp only [Act.put, List.setIfInBounds_toArray, List.set_cons_succ, List.set_cons_zero]
          refine GW.known _ rfl (fun hd hf => ?_) ?_
          · go_wp2
            exact ⟨rfl, rfl, Below.refl _ _⟩
          simp only [Act.put, List.setIfInBounds_toArray, List.set_cons_succ, List.set_cons_zero]
          refine GW.open rfl (fun hd hf => ?_) ?_
          · have hn9 : f 9 = false := by
              rcases h : f 9 with _ | _
              · rfl
              · have := Dn 9 h 8 (by decide); rw [hf] at this; cases this
            have hn11 : f 11 = false := by
              rcases h : f 11 with _ | _
              · rfl
              · have := Dn 11 h 8 (by decide); rw [hf] at this; cases this
            have kid := leafS (y := y) (S := fun b => w.heap.size + 2 ≤ b ∧ Value.ownBlock (.slice sa ks.length sc) ≠ some b) ⟨(List.replicate 1 (UInt8.ofNat m)).toArray⟩ (by rw [sizeM, List.length_replicate]; omega)
            have ok : RawNext N deep k (.mk false ⟨(List.replicate 1 (UInt8.ofNat m)).toArray⟩ []) := small_text ⟨(List.replicate 1 (UInt8.ofNat m)).toArray⟩ (by rw [sizeM, List.length_replicate]; omega)
            have K := Lib.hid (kU.out.build hn9 hn11 (by decide) (by decide) kid ok)
            clear hn9 hn11 kid ok
            go_wp2
            exact ⟨rfl, K.out, fun _ h => absurd ((upd_self f 8 true).symm.trans h) (by simp)⟩
          simp only [Act.put, List.setIfInBounds_toArray, List.set_cons_succ, List.set_cons_zero]
          refine GW.open rfl (fun hd hf => ?_) ?_
          · have hn11 : f 11 = false := by
              rcases h : f 11 with _ | _
              · rfl
              · have := Dn 11 h 9 (by decide); rw [hf] at this; cases this
            have hdb := hd 8 (by decide)
            obtain ⟨b4, u0, u1, u2, vs, e1, e2, e3, e4, e5⟩ := kU.out.append (hd 8 (by decide)) hf hn11 (by decide) (by decide) (by omega) (Nat.le_trans hs2'.out kup.out)
            obtain ⟨i, hi, hz, hsize, hby⟩ := infoI_of'
            refine wpList_append_src y rfl (.tmp 68) (.tmp 75) 27 27 rfl (w.heap.size + 2) 29 i _ 3 48 Tryz.underlying27 hi hz hsize hby rfl (by decide) (.slice sa ks.length sc) ks.length (flat3 vs) rfl e4 (.slice (some ⟨b4, 0, none⟩) 1 1) 1 (by decide) [u0, u1, u2] (by simpa [Act.eval] using e1) (by
              rw [hsize]
              refine Src.ofSlice y Tryz.underlying27 ⟨b4, 0, none⟩ 1 1 _ rfl (fun j u hj => ?_) e3
              have ha : (⟨b4, 0, none⟩ : Addr).add j = ⟨b4, j, none⟩ := by unfold Addr.add; split <;> simp_all
              rw [ha]
              exact e2.cell j u (by simpa using hj)) (by have := hlk.out; omega) (by have := hlk.out; simp only [maxLen]; omega) (Nat.le_trans hs2'.out kup.out) ?_
            intro v' w' j1 j2 j3
            exact ⟨rfl, e5 v' w' j1 j2 j3, fun _ h => absurd (hdb.symm.trans ((upd_ne f true (show (8 : Nat) ≠ 9 by decide)).symm.trans h)) (by simp)⟩
          simp only [Act.put, List.setIfInBounds_toArray, List.set_cons_succ, List.set_cons_zero]
          refine GW.known _ rfl (fun hd hf => ?_) ?_
          · go_wp2
            exact ⟨rfl, rfl, Below.refl _ _⟩
          simp only [Act.put, List.setIfInBounds_toArray, List.set_cons_succ, List.set_cons_zero]
          refine GW.open rfl (fun hd hf => ?_) ?_
          · have hia := hd 9 (by decide)
            have hdb := hd 8 (by decide)
            obtain ⟨ga, gc, eg⟩ := kU.out.shape hia
            have K := Lib.hid (fun u => kU.out.store hia hf (by decide) (by decide) (by omega) eg u)
            have hB := kU.out.2.1 hf
            have z2 := hB.cell 2 _ rfl
            have y2 := hB.frozen 2
            rw [show g (0 + 1 + 1 + 1 + 1 + 1 + 1 + 1 + 1 + 1) = .slice ga (ks.length + 1) gc from eg]
            have hdbH := Lib.hid hdb
            clear hia hB eg hdb
            go_wp2
            exact ⟨rfl, K.out _, fun _ h => absurd (hdbH.out.symm.trans ((upd_ne f true (show (8 : Nat) ≠ 11 by decide)).symm.trans h)) (by simp)⟩
          simp only [Act.put, List.setIfInBounds_toArray, List.set_cons_succ, List.set_cons_zero]
          refine GW.nil (fun hall => ?_)
          obtain ⟨T, hx, tt, ok, hrow⟩ := kU.out.done (hall 9 (by omega)) (hall 11 (by omega))
          have HN := Lib.hid (RawSt.next hL.out hV.out hS.out hQ.out hs2'.out hkN.out T hx ok hrow)
          clear T hx ok hrow kU kup hX hV hS hL hQ Dn hall kE
          go_wp2_with fail
          go_roundw
          case rel => exact ⟨k + 1, by have := hkN.out; omega, by simp, HN.out⟩
          case measure => have := hkN.out; simp [intOf]; omega
        · by_cases hdp0 : 0 < deep
          · have hdI : (0 : Int) < (deep : Int) := by omega
            have hdp := Lib.hid hdp0
            have hdu : (deep : Int) < 100 := by have := HD.out; omega
            have HI20 : ∀ (v : Value) (zs : List (Int × Int)) (w : World), RawAt w v zs → Calls Tryz.prog 5 #[v, .int .i64 ((deep : Int) - 1)] w (RawP w (min zs.length 9) (deep - 1)) := by
              rw [show ((deep : Int) - 1) = ((deep - 1 : Nat) : Int) by omega]
              exact HI.out hdp0
            have HI2 := Lib.hid HI20
            obtain ⟨m, hm, hm2⟩ : ∃ m : Nat, pickN z1 4 = (m : Int) ∧ m < 4 := ⟨(pickN z1 4).toNat, by have := pickN_range z1 4 (by omega); omega, by have := pickN_range z1 4 (by omega); omega⟩
            have HPm0 := pick_ret z1 HI1.out 4 (by omega) (by omega)
            rw [hm] at HPm0
            have HPm := Lib.hid HPm0
            have Hm := Lib.hid hm2
            clear HPm0 hm hm2 hdp0 HI20 HST
            go_wp2_with fail
            refine wp_region_ghost [some (.pointer (some ⟨w.heap.size + 1, 2, none⟩)), some (.slice sa ks.length sc), some (.slice (some b) N cap), some (.int .i64 (k : Int)), some (.int .i64 ((k : Int) + 1)), some (.slice (subA b cap (k + 1)) (N - (k + 1)) (cap - (k + 1))), some (.int .i64 (deep : Int)), some (.int .i64 ((deep : Int) - 1)), none, none, none, some (.pointer (some ⟨w.heap.size + 1, 2, none⟩)), none] [[], [0], [], [], [3], [2, 3, 4], [], [6], [2, 3, 4, 5, 6, 7], [2, 3, 4, 5, 6, 7, 8], [0, 1, 2, 3, 4, 5, 6, 7, 8, 9], [0, 1, 2, 3, 4, 5, 6, 7, 8, 9, 10], [0, 1, 2, 3, 4, 5, 6, 7, 8, 9, 10, 11]] (fun f g y => PushU W (w.heap.size + 2) (w.heap.size + 1) (.slice sa ks.length sc) ks 9 10 12 (RawNext N deep k) f g y ∧ (f 8 = true → f 9 = false → ∃ t u0 u1 u2, g 8 = .agg #[u0, u1, u2] ∧ ItemS y (fun b => w.heap.size + 2 ≤ b ∧ Value.ownBlock (.slice sa ks.length sc) ≠ some b) t (.agg #[u0, u1, u2]) ∧ RawNext N deep k t)) hmx (by kernel_rfl) (by kernel_rfl) ?_ ?_ ?_ ?_
            · exact fun f g wa wb h hb => ⟨h.1.later hb, fun h1 h2 => let ⟨t, u0, u1, u2, e1, e2, e3⟩ := h.2 h1 h2; ⟨t, u0, u1, u2, e1, e2.later hb, e3⟩⟩
            · intro f f' g g' wa h hu
              refine ⟨hu.1.same (h 9 rfl) (h 10 rfl) (h 12 rfl).1, fun h1 h2 => ?_⟩
              have := hu.2 ((h 8 rfl).1.trans h1) ((h 9 rfl).1.trans h2)
              rw [(h 8 rfl).2] at this
              exact this
            · exact ⟨PushU.start hX.out hV.out, fun h => absurd h (by simp)⟩
            rintro f g y ⟨HU, HE⟩ Dn
            have kE := Lib.hid HE
            clear HE
            have hup : W.heap.size ≤ y.heap.size := HU.1.1.2.2.2
            have kU := Lib.hid HU
            have kup := Lib.hid hup
            clear HU hup
            refine GW.known _ rfl (fun hd hf => ?_) ?_
            · go_wp2
              exact ⟨rfl, rfl, Below.refl _ _⟩
            simp only [Act.put, List.setIfInBounds_toArray, List.set_cons_succ, List.set_cons_zero]
            refine GW.known _ rfl (fun hd hf => ?_) ?_
            · have hnr : f 12 = false := by
                rcases h : f 12 with _ | _
                · rfl
                · have := Dn 12 h 1 (by decide); rw [hf] at this; cases this
              have o2 := (kU.out.2.1 hnr).cell 2 _ rfl
              have o3 := (kU.out.2.1 hnr).frozen 2
              clear hnr
              go_wp2
              exact ⟨rfl, rfl, Below.refl _ _⟩
            simp only [Act.put, List.setIfInBounds_toArray, List.set_cons_succ, List.set_cons_zero]
            refine GW.known _ rfl (fun hd hf => ?_) ?_
            · go_wp2
              exact ⟨rfl, rfl, Below.refl _ _⟩
            simp only [Act.put, List.setIfInBounds_toArray, List.set_cons_succ, List.set_cons_zero]
            refine GW.known _ rfl (fun hd hf => ?_) ?_
            · go_wp2
              exact ⟨rfl, rfl, Below.refl _ _⟩
            simp only [Act.put, List.setIfInBounds_toArray, List.set_cons_succ, List.set_cons_zero]
            refine GW.known _ rfl (fun hd hf => ?_) ?_
            · go_wp2
              exact ⟨rfl, rfl, Below.refl _ _⟩
            simp only [Act.put, List.setIfInBounds_toArray, List.set_cons_succ, List.set_cons_zero]
            refine GW.known _ rfl (fun hd hf => ?_) ?_
            · have hsl := run_sub y b N cap k hkN.out hcN.out (by have := HCM.out; omega)
              go_wp2
              exact ⟨rfl, rfl, Below.refl _ _⟩
            simp only [Act.put, List.setIfInBounds_toArray, List.set_cons_succ, List.set_cons_zero]
            refine GW.known _ rfl (fun hd hf => ?_) ?_
            · go_wp2
              exact ⟨rfl, rfl, Below.refl _ _⟩
            simp only [Act.put, List.setIfInBounds_toArray, List.set_cons_succ, List.set_cons_zero]
            refine GW.known _ rfl (fun hd hf => ?_) ?_
            · go_wp2
              exact ⟨rfl, rfl, Below.refl _ _⟩
            simp only [Act.put, List.setIfInBounds_toArray, List.set_cons_succ, List.set_cons_zero]
            refine GW.open rfl (fun hd hf => ?_) ?_
            · have hn9 : f 9 = false := by
                rcases h : f 9 with _ | _
                · rfl
                · have := Dn 9 h 8 (by decide); rw [hf] at this; cases this
              have hn10 : f 10 = false := by
                rcases h : f 10 with _ | _
                · rfl
                · have := Dn 10 h 8 (by decide); rw [hf] at this; cases this
              have hn12 : f 12 = false := by
                rcases h : f 12 with _ | _
                · rfl
                · have := Dn 12 h 8 (by decide); rw [hf] at this; cases this
              have PS := fun (z : World) (u : Value) (hb : Below y.heap.size y z) => (kU.out.later hb).same (f' := upd f 8 true) (g' := upd g 8 u) ⟨(upd_ne f true (by decide)).symm, (upd_ne g u (by decide)).symm⟩ ⟨(upd_ne f true (by decide)).symm, (upd_ne g u (by decide)).symm⟩ (upd_ne f true (by decide)).symm
              replace PS := Lib.hid PS
              clear hn9 hn10 hn12 hf
              have hbel := two_below hV.out hQ.out kU.out.1
              have HRy := ((HR.out.later hbel).drop (k + 1) (by have := hkN.out; omega))
              have e8 : min (ys.drop (k + 1)).length 9 = N - k - 1 := by rw [List.length_drop, HLen.out]; omega
              have HC := HI2.out _ _ y HRy
              rw [e8] at HC
              replace HC := Lib.hid HC
              clear hbel HRy e8
              go_wp2_with fail
              refine HC.out.mono ?_
              rintro _ w2 ⟨t, v, rfl, h1, h2, h3⟩
              obtain ⟨ta, tc, rfl, _⟩ := h1.open
              have K := Lib.hid (PS.out w2 (.agg #[.bool t.list, .string t.bytes, .slice ta t.kids.length tc]) h3)
              have hS2 := Lib.hid (h1.mono (T := fun b => w.heap.size + 2 ≤ b ∧ Value.ownBlock (.slice sa ks.length sc) ≠ some b) (fun b hb _ => ⟨Nat.le_trans (Nat.le_trans hs2'.out kup.out) hb, fun e => by
                obtain ⟨_, cs, hcs⟩ := hV.out.block e
                have := (Array.getElem?_eq_some_iff.1 hcs).1
                have := kup.out
                omega⟩))
              have hok := Lib.hid (show RawNext N deep k t from h2.more (Nat.le_refl _) (by have := hdp.out; omega))
              clear h1 h2 h3 PS HC
              go_wp2
              exact ⟨rfl, K.out, fun _ _ => ⟨t, _, _, _, rfl, hS2.out, hok.out⟩⟩
            simp only [Act.put, List.setIfInBounds_toArray, List.set_cons_succ, List.set_cons_zero]
            refine GW.open rfl (fun hd hf => ?_) ?_
            · have hn10 : f 10 = false := by
                rcases h : f 10 with _ | _
                · rfl
                · have := Dn 10 h 9 (by decide); rw [hf] at this; cases this
              have hn12 : f 12 = false := by
                rcases h : f 12 with _ | _
                · rfl
                · have := Dn 12 h 9 (by decide); rw [hf] at this; cases this
              obtain ⟨t, u0, u1, u2, e1, kid, ok⟩ := kE.out (hd 8 (by decide)) hf
              rw [show g (0 + 1 + 1 + 1 + 1 + 1 + 1 + 1 + 1) = .agg #[u0, u1, u2] from e1]
              clear e1
              have K := Lib.hid (kU.out.build hn10 hn12 (by decide) (by decide) kid ok)
              clear hn10 hn12 kid ok
              go_wp2
              exact ⟨rfl, K.out, fun _ h => absurd ((upd_self f 9 true).symm.trans h) (by simp)⟩
            simp only [Act.put, List.setIfInBounds_toArray, List.set_cons_succ, List.set_cons_zero]
            refine GW.open rfl (fun hd hf => ?_) ?_
            · have hn12 : f 12 = false := by
                rcases h : f 12 with _ | _
                · rfl
                · have := Dn 12 h 10 (by decide); rw [hf] at this; cases this
              have hdb := hd 9 (by decide)
              obtain ⟨b4, u0, u1, u2, vs, e1, e2, e3, e4, e5⟩ := kU.out.append (hd 9 (by decide)) hf hn12 (by decide) (by decide) (by omega) (Nat.le_trans hs2'.out kup.out)
              obtain ⟨i, hi, hz, hsize, hby⟩ := infoI_of'
              refine wpList_append_src y rfl (.tmp 83) (.tmp 91) 27 27 rfl (w.heap.size + 2) 29 i _ 3 48 Tryz.underlying27 hi hz hsize hby rfl (by decide) (.slice sa ks.length sc) ks.length (flat3 vs) rfl e4 (.slice (some ⟨b4, 0, none⟩) 1 1) 1 (by decide) [u0, u1, u2] (by simpa [Act.eval] using e1) (by
                rw [hsize]
                refine Src.ofSlice y Tryz.underlying27 ⟨b4, 0, none⟩ 1 1 _ rfl (fun j u hj => ?_) e3
                have ha : (⟨b4, 0, none⟩ : Addr).add j = ⟨b4, j, none⟩ := by unfold Addr.add; split <;> simp_all
                rw [ha]
                exact e2.cell j u (by simpa using hj)) (by have := hlk.out; omega) (by have := hlk.out; simp only [maxLen]; omega) (Nat.le_trans hs2'.out kup.out) ?_
              intro v' w' j1 j2 j3
              exact ⟨rfl, e5 v' w' j1 j2 j3, fun _ h => absurd (hdb.symm.trans ((upd_ne f true (show (9 : Nat) ≠ 10 by decide)).symm.trans h)) (by simp)⟩
            simp only [Act.put, List.setIfInBounds_toArray, List.set_cons_succ, List.set_cons_zero]
            refine GW.known _ rfl (fun hd hf => ?_) ?_
            · go_wp2
              exact ⟨rfl, rfl, Below.refl _ _⟩
            simp only [Act.put, List.setIfInBounds_toArray, List.set_cons_succ, List.set_cons_zero]
            refine GW.open rfl (fun hd hf => ?_) ?_
            · have hia := hd 10 (by decide)
              have hdb := hd 9 (by decide)
              obtain ⟨ga, gc, eg⟩ := kU.out.shape hia
              have K := Lib.hid (fun u => kU.out.store hia hf (by decide) (by decide) (by omega) eg u)
              have hB := kU.out.2.1 hf
              have z2 := hB.cell 2 _ rfl
              have y2 := hB.frozen 2
              rw [show g (0 + 1 + 1 + 1 + 1 + 1 + 1 + 1 + 1 + 1 + 1) = .slice ga (ks.length + 1) gc from eg]
              have hdbH := Lib.hid hdb
              clear hia hB eg hdb
              go_wp2
              exact ⟨rfl, K.out _, fun _ h => absurd (hdbH.out.symm.trans ((upd_ne f true (show (9 : Nat) ≠ 12 by decide)).symm.trans h)) (by simp)⟩
            simp only [Act.put, List.setIfInBounds_toArray, List.set_cons_succ, List.set_cons_zero]
            refine GW.nil (fun hall => ?_)
            obtain ⟨T, hx, tt, ok, hrow⟩ := kU.out.done (hall 10 (by omega)) (hall 12 (by omega))
            have HN := Lib.hid (RawSt.next hL.out hV.out hS.out hQ.out hs2'.out hkN.out T hx ok hrow)
            clear T hx ok hrow kU kup hX hV hS hL hQ Dn hall kE
            have hmI : (m : Int) < 4 := by have := Hm.out; omega
            have hmI0 : (0 : Int) ≤ (m : Int) := by omega
            go_wp2_with fail
            refine (HPm.out _).mono ?_
            rintro _ W5 ⟨rfl, q5⟩
            replace HN := Lib.hid ((HN.out.later q5).skip (j := k + m + 1) (by omega))
            clear q5 HPm
            go_wp2_with fail
            go_roundw
            case rel => exact ⟨k + m + 1, by have := hkN.out; have := Hm.out; omega, by simp, HN.out⟩
            case measure => have := hkN.out; simp [intOf]; omega
          · have hdI : ¬ (0 : Int) < (deep : Int) := by omega
            have HN := Lib.hid (HST.out.skip (j := k + 1) (by omega))
            clear hX hV hS hL hQ HST
            go_wp2_with fail
            go_roundw
            case rel => exact ⟨k + 1, by have := hkN.out; omega, by simp, HN.out⟩
            case measure => have := hkN.out; simp [intOf]; omega
        · clear HST
          have o2 := hX.out.cell 2 _ rfl
          have kid := leafL (y := W) (S := fun b => w.heap.size + 2 ≤ b ∧ Value.ownBlock (.slice sa ks.length sc) ≠ some b)
          have ok : RawNext N deep k (.mk true ⟨#[]⟩ []) := small_nil
          have PU := Lib.hid ((PushU.start0 (ib := 0) (ia := 1) (is := 2) (Ok := RawNext N deep k) (g := fun _ => undef) hX.out hV.out).build rfl rfl (by decide) (by decide) kid ok)
          obtain ⟨b4, u0, u1, u2, vs, e1, e2, e3, e4, e5⟩ := PU.out.append rfl rfl rfl (by decide) (by decide) (by omega) (Nat.le_trans hs2'.out (by simp))
          obtain rfl : W.heap.size = b4 := by
            have e1' : Value.slice (some ⟨W.heap.size, 0, none⟩) 1 1 = .slice (some ⟨b4, 0, none⟩) 1 1 := e1
            injection e1' with e1'
            injection e1' with e1'
            injection e1'
          obtain ⟨i, hi, hz, hsize, hby⟩ := infoI_of'
          have E2 := Lib.hid e2
          have E3 := Lib.hid e3
          have E4 := Lib.hid e4
          have E5 := Lib.hid e5
          clear kid ok e1 e2 e3 e4 e5
          go_wp2_with (
            at_builtin
            refine wpList_append_src _ rfl (.tmp 101) (.tmp 103) 27 27 rfl (w.heap.size + 2) 29 i _ 3 48 Tryz.underlying27 hi hz hsize hby rfl (by decide) (.slice sa ks.length sc) ks.length (flat3 vs) rfl E4.out (.slice (some ⟨W.heap.size, 0, none⟩) 1 1) 1 (by decide) [u0, u1, u2] rfl (by
            rw [hsize]
            refine Src.ofSlice _ Tryz.underlying27 ⟨W.heap.size, 0, none⟩ 1 1 _ rfl (fun j u hj => ?_) E3.out
            have ha : (⟨W.heap.size, 0, none⟩ : Addr).add j = ⟨W.heap.size, j, none⟩ := by unfold Addr.add; split <;> simp_all
            rw [ha]
            exact E2.out.cell j u (by simpa using hj)) (by have := hlk.out; omega) (by have := hlk.out; simp only [maxLen]; omega) (Nat.le_trans hs2'.out (by simp)) ?_
            intro v' w1 j1 j2 j3
            obtain ⟨ga, gc, eg⟩ := (E5.out v' w1 j1 j2 j3).shape rfl
            obtain rfl : v' = .slice ga (ks.length + 1) gc := (upd_self (fun _ => undef) 1 v').symm.trans eg
            have hB := (E5.out _ w1 j1 j2 j3).2.1 rfl
            have z2 := hB.cell 2 _ rfl
            have y2 := hB.frozen 2
            have K := Lib.hid ((E5.out _ w1 j1 j2 j3).store rfl rfl (by decide) (by decide) (by omega) eg undef)
            clear j1 j2 j3 hB eg)
          obtain ⟨T, hx, tt, ok, hrow⟩ := K.out.done rfl rfl
          have HN := Lib.hid (RawSt.next hL.out hV.out hS.out hQ.out hs2'.out hkN.out T hx ok hrow)
          clear T hx ok hrow hX hV hS hL hQ K E2 E3 E4 E5 PU
          go_wp2_with fail
          go_roundw
          case rel => exact ⟨k + 1, by have := hkN.out; omega, by simp, HN.out⟩
          case measure => have := hkN.out; simp [intOf]; omega
        · clear HST
          obtain ⟨m, hm, hm2⟩ : ∃ m : Nat, pickN z1 256 = (m : Int) ∧ m < 256 := ⟨(pickN z1 256).toNat, by have := pickN_range z1 256 (by omega); omega, by have := pickN_range z1 256 (by omega); omega⟩
          have HPm0 := pick_ret z1 HI1.out 256 (by omega) (by omega)
          rw [hm] at HPm0
          have HPm := Lib.hid HPm0
          have Hm := Lib.hid hm2
          have hmI : (m : Int) < 256 := by omega
          have hmI0 : (0 : Int) ≤ (m : Int) := by omega
          clear HPm0 hm hm2
          go_wp2_with fail
          refine wp_region_ghost [some (.pointer (some ⟨w.heap.size + 1, 2, none⟩)), some (.slice sa ks.length sc), some (.int .i64 z1), some (.int .i64 (m : Int)), some (.int .u8 (m : Int)), none, some (.string ⟨(List.replicate 1 (UInt8.ofNat m)).toArray⟩), some (.string (ByteArray.mk #[100, 111, 103] ++ (⟨(List.replicate 1 (UInt8.ofNat m)).toArray⟩ : ByteArray))), some (.agg #[.bool false, .string (ByteArray.mk #[100, 111, 103] ++ (⟨(List.replicate 1 (UInt8.ofNat m)).toArray⟩ : ByteArray)), .slice none 0 0]), none, none, some (.pointer (some ⟨w.heap.size + 1, 2, none⟩)), none] [[], [0], [], [2], [2, 3], [2, 3, 4], [2, 3, 4, 5], [2, 3, 4, 5, 6], [2, 3, 4, 5, 6, 7], [2, 3, 4, 5, 6, 7, 8], [0, 1, 2, 3, 4, 5, 6, 7, 8, 9], [0, 1, 2, 3, 4, 5, 6, 7, 8, 9, 10], [0, 1, 2, 3, 4, 5, 6, 7, 8, 9, 10, 11]] (fun f g y => PushU W (w.heap.size + 2) (w.heap.size + 1) (.slice sa ks.length sc) ks 9 10 12 (RawNext N deep k) f g y ∧ (f 5 = true → f 9 = false → ∃ B, g 5 = .slice (some ⟨B, 0, none⟩) 1 1 ∧ ∀ i, i < 1 → y.cell? ⟨B, i, none⟩ = some (.int .u8 ((m : Nat) : Int)))) hmx (by kernel_rfl) (by kernel_rfl) ?_ ?_ ?_ ?_
          · exact fun f g wa wb h hb => ⟨h.1.later hb, fun h1 h2 => let ⟨B, e1, e2⟩ := h.2 h1 h2; ⟨B, e1, fun i hi => cell_below hb _ _ (e2 i hi)⟩⟩
          · intro f f' g g' wa h hu
            refine ⟨hu.1.same (h 9 rfl) (h 10 rfl) (h 12 rfl).1, fun h1 h2 => ?_⟩
            have := hu.2 ((h 5 rfl).1.trans h1) ((h 9 rfl).1.trans h2)
            rw [(h 5 rfl).2] at this
            exact this
          · exact ⟨PushU.start hX.out hV.out, fun h => absurd h (by simp)⟩
          rintro f g y ⟨HU, HE⟩ Dn
          have kE := Lib.hid HE
          clear HE
          have hup : W.heap.size ≤ y.heap.size := HU.1.1.2.2.2
          have kU := Lib.hid HU
          have kup := Lib.hid hup
          clear HU hup
          refine GW.known _ rfl (fun hd hf => ?_) ?_
          · go_wp2
            exact ⟨rfl, rfl, Below.refl _ _⟩
          simp only [Act.put, List.setIfInBounds_toArray, List.set_cons_succ, List.set_cons_zero]
          refine GW.known _ rfl (fun hd hf => ?_) ?_
          · have hnr : f 12 = false := by
              rcases h : f 12 with _ | _
              · rfl
              · have := Dn 12 h 1 (by decide); rw [hf] at this; cases this
            have o2 := (kU.out.2.1 hnr).cell 2 _ rfl
            have o3 := (kU.out.2.1 hnr).frozen 2
            clear hnr
            go_wp2
            exact ⟨rfl, rfl, Below.refl _ _⟩
          simp only [Act.put, List.setIfInBounds_toArray, List.set_cons_succ, List.set_cons_zero]
          refine GW.known _ rfl (fun hd hf => ?_) ?_
          · go_wp2
            exact ⟨rfl, rfl, Below.refl _ _⟩
          simp only [Act.put, List.setIfInBounds_toArray, List.set_cons_succ, List.set_cons_zero]
          refine GW.known _ rfl (fun hd hf => ?_) ?_
          · go_wp2_with fail
            refine (HPm.out _).mono ?_
            rintro e u ⟨rfl, hb⟩
            go_wp2
            exact ⟨rfl, rfl, hb⟩
          simp only [Act.put, List.setIfInBounds_toArray, List.set_cons_succ, List.set_cons_zero]
          refine GW.known _ rfl (fun hd hf => ?_) ?_
          · go_wp2
            exact ⟨rfl, rfl, Below.refl _ _⟩
          simp only [Act.put, List.setIfInBounds_toArray, List.set_cons_succ, List.set_cons_zero]
          refine GW.open rfl (fun hd hf => ?_) ?_
          · have hn9 : f 9 = false := by
              rcases h : f 9 with _ | _
              · rfl
              · have := Dn 9 h 5 (by decide); rw [hf] at this; cases this
            have hn10 : f 10 = false := by
              rcases h : f 10 with _ | _
              · rfl
              · have := Dn 10 h 5 (by decide); rw [hf] at this; cases this
            have hn12 : f 12 = false := by
              rcases h : f 12 with _ | _
              · rfl
              · have := Dn 12 h 5 (by decide); rw [hf] at this; cases this
            have PS := fun (z : World) (u : Value) (hb : Below y.heap.size y z) => (kU.out.later hb).same (f' := upd f 5 true) (g' := upd g 5 u) ⟨(upd_ne f true (by decide)).symm, (upd_ne g u (by decide)).symm⟩ ⟨(upd_ne f true (by decide)).symm, (upd_ne g u (by decide)).symm⟩ (upd_ne f true (by decide)).symm
            replace PS := Lib.hid PS
            clear hn9 hn10 hn12 hf
            have NB := Has.new y 5 #[.int .u8 (m : Int)]
            have K := Lib.hid (PS.out (y.alloc (.cells #[.int .u8 (m : Int)] 5)) (.slice (some ⟨y.heap.size, 0, none⟩) 1 1) ((Below.refl y.heap.size y).alloc (Nat.le_refl _) _))
            have K2 := Lib.hid (show ∀ i, i < 1 → (y.alloc (.cells #[.int .u8 (m : Int)] 5)).cell? ⟨y.heap.size, i, none⟩ = some (.int .u8 ((m : Nat) : Int)) from fun i hi => by obtain rfl : i = 0 := (by omega); exact NB.cell 0 _ rfl)
            clear NB PS
            go_wp2
            exact ⟨rfl, K.out, fun _ _ => ⟨y.heap.size, rfl, K2.out⟩⟩
          simp only [Act.put, List.setIfInBounds_toArray, List.set_cons_succ, List.set_cons_zero]
          refine GW.known _ rfl (fun hd hf => ?_) ?_
          · obtain ⟨B, e1, e2⟩ := kE.out (hd 5 (by decide)) (by
              rcases h : f 9 with _ | _
              · rfl
              · have := Dn 9 h 6 (by decide); rw [hf] at this; cases this)
            rw [show g (0 + 1 + 1 + 1 + 1 + 1) = .slice (some ⟨B, 0, none⟩) 1 1 from e1]
            have hcv := conv_cells y B 1 m Hm.out e2
            clear e1 e2
            go_wp2
            exact ⟨rfl, rfl, Below.refl _ _⟩
          simp only [Act.put, List.setIfInBounds_toArray, List.set_cons_succ, List.set_cons_zero]
          refine GW.known _ rfl (fun hd hf => ?_) ?_
          · go_wp2
            exact ⟨rfl, rfl, Below.refl _ _⟩
          simp only [Act.put, List.setIfInBounds_toArray, List.set_cons_succ, List.set_cons_zero]
          refine GW.known _ rfl (fun hd hf => ?_) ?_
          · go_wp2
            exact ⟨rfl, rfl, Below.refl _ _⟩
          simp only [Act.put, List.setIfInBounds_toArray, List.set_cons_succ, List.set_cons_zero]
          refine GW.open rfl (fun hd hf => ?_) ?_
          · have hn10 : f 10 = false := by
              rcases h : f 10 with _ | _
              · rfl
              · have := Dn 10 h 9 (by decide); rw [hf] at this; cases this
            have hn12 : f 12 = false := by
              rcases h : f 12 with _ | _
              · rfl
              · have := Dn 12 h 9 (by decide); rw [hf] at this; cases this
            have kid := leafS (y := y) (S := fun b => w.heap.size + 2 ≤ b ∧ Value.ownBlock (.slice sa ks.length sc) ≠ some b) (ByteArray.mk #[100, 111, 103] ++ (⟨(List.replicate 1 (UInt8.ofNat m)).toArray⟩ : ByteArray)) (by rw [ByteArray.size_append, show (⟨(List.replicate 1 (UInt8.ofNat m)).toArray⟩ : ByteArray).size = 1 by rw [sizeM, List.length_replicate]]; decide)
            have ok : RawNext N deep k (.mk false (ByteArray.mk #[100, 111, 103] ++ (⟨(List.replicate 1 (UInt8.ofNat m)).toArray⟩ : ByteArray)) []) := small_text (ByteArray.mk #[100, 111, 103] ++ (⟨(List.replicate 1 (UInt8.ofNat m)).toArray⟩ : ByteArray)) (by rw [ByteArray.size_append, show (⟨(List.replicate 1 (UInt8.ofNat m)).toArray⟩ : ByteArray).size = 1 by rw [sizeM, List.length_replicate]]; decide)
            have K := Lib.hid (kU.out.build hn10 hn12 (by decide) (by decide) kid ok)
            clear hn10 hn12 kid ok
            go_wp2
            exact ⟨rfl, K.out, fun _ h => absurd ((upd_self f 9 true).symm.trans h) (by simp)⟩
          simp only [Act.put, List.setIfInBounds_toArray, List.set_cons_succ, List.set_cons_zero]
          refine GW.open rfl (fun hd hf => ?_) ?_
          · have hn12 : f 12 = false := by
              rcases h : f 12 with _ | _
              · rfl
              · have := Dn 12 h 10 (by decide); rw [hf] at this; cases this
            have hdb := hd 9 (by decide)
            obtain ⟨b4, u0, u1, u2, vs, e1, e2, e3, e4, e5⟩ := kU.out.append (hd 9 (by decide)) hf hn12 (by decide) (by decide) (by omega) (Nat.le_trans hs2'.out kup.out)
            obtain ⟨i, hi, hz, hsize, hby⟩ := infoI_of'
            refine wpList_append_src y rfl (.tmp 32) (.tmp 40) 27 27 rfl (w.heap.size + 2) 29 i _ 3 48 Tryz.underlying27 hi hz hsize hby rfl (by decide) (.slice sa ks.length sc) ks.length (flat3 vs) rfl e4 (.slice (some ⟨b4, 0, none⟩) 1 1) 1 (by decide) [u0, u1, u2] (by simpa [Act.eval] using e1) (by
              rw [hsize]
              refine Src.ofSlice y Tryz.underlying27 ⟨b4, 0, none⟩ 1 1 _ rfl (fun j u hj => ?_) e3
              have ha : (⟨b4, 0, none⟩ : Addr).add j = ⟨b4, j, none⟩ := by unfold Addr.add; split <;> simp_all
              rw [ha]
              exact e2.cell j u (by simpa using hj)) (by have := hlk.out; omega) (by have := hlk.out; simp only [maxLen]; omega) (Nat.le_trans hs2'.out kup.out) ?_
            intro v' w' j1 j2 j3
            exact ⟨rfl, e5 v' w' j1 j2 j3, fun _ h => absurd (hdb.symm.trans ((upd_ne f true (show (9 : Nat) ≠ 10 by decide)).symm.trans h)) (by simp)⟩
          simp only [Act.put, List.setIfInBounds_toArray, List.set_cons_succ, List.set_cons_zero]
          refine GW.known _ rfl (fun hd hf => ?_) ?_
          · go_wp2
            exact ⟨rfl, rfl, Below.refl _ _⟩
          simp only [Act.put, List.setIfInBounds_toArray, List.set_cons_succ, List.set_cons_zero]
          refine GW.open rfl (fun hd hf => ?_) ?_
          · have hia := hd 10 (by decide)
            have hdb := hd 9 (by decide)
            obtain ⟨ga, gc, eg⟩ := kU.out.shape hia
            have K := Lib.hid (fun u => kU.out.store hia hf (by decide) (by decide) (by omega) eg u)
            have hB := kU.out.2.1 hf
            have z2 := hB.cell 2 _ rfl
            have y2 := hB.frozen 2
            rw [show g (0 + 1 + 1 + 1 + 1 + 1 + 1 + 1 + 1 + 1 + 1) = .slice ga (ks.length + 1) gc from eg]
            have hdbH := Lib.hid hdb
            clear hia hB eg hdb
            go_wp2
            exact ⟨rfl, K.out _, fun _ h => absurd (hdbH.out.symm.trans ((upd_ne f true (show (9 : Nat) ≠ 12 by decide)).symm.trans h)) (by simp)⟩
          simp only [Act.put, List.setIfInBounds_toArray, List.set_cons_succ, List.set_cons_zero]
          refine GW.nil (fun hall => ?_)
          obtain ⟨T, hx, tt, ok, hrow⟩ := kU.out.done (hall 10 (by omega)) (hall 12 (by omega))
          have HN := Lib.hid (RawSt.next hL.out hV.out hS.out hQ.out hs2'.out hkN.out T hx ok hrow)
          clear T hx ok hrow kU kup hX hV hS hL hQ Dn hall kE
          go_wp2_with fail
          go_roundw
          case rel => exact ⟨k + 1, by have := hkN.out; omega, by simp, HN.out⟩
          case measure => have := hkN.out; simp [intOf]; omega
      · have hkNI : ¬ (k : Int) < (N : Int) := by omega
        obtain ⟨sa, n', sc, ks, hsm, hit, hL, hX, hQ⟩ := hst.done hN9
        obtain ⟨n', rfl⟩ : ∃ n0, n' = n0 := ⟨_, rfl⟩
        have c0 := hX.cell 0 _ rfl
        have c1 := hX.cell 1 _ rfl
        have c2 := hX.cell 2 _ rfl
        have y0 := hL.cell 0 _ rfl
        have y1 := hL.cell 1 _ rfl
        have y2 := hL.cell 2 _ rfl
        have g0 := hL.frozen 0
        have g1 := hL.frozen 1
        have g2 := hL.frozen 2
        have S := ((hL.set 0 (.bool true)).set 1 (.string ⟨#[]⟩)).set 2 (.slice sa n' sc)
        have z0 := Lib.hid (S.cell 0 _ rfl)
        have z1 := Lib.hid (S.cell 1 _ rfl)
        have z2 := Lib.hid (S.cell 2 _ rfl)
        have HQ := Lib.hid (((hQ.setCell (p := ⟨w.heap.size, 0, none⟩) (Nat.le_refl _) (.bool true)).setCell (p := ⟨w.heap.size, 1, none⟩) (Nat.le_refl _) (.string ⟨#[]⟩)).setCell (p := ⟨w.heap.size, 2, none⟩) (Nat.le_refl _) (.slice sa n' sc))
        have HIT := Lib.hid (hit.keep (X := ((wr.setCell ⟨w.heap.size, 0, none⟩ (.bool true)).setCell ⟨w.heap.size, 1, none⟩ (.string ⟨#[]⟩)).setCell ⟨w.heap.size, 2, none⟩ (.slice sa n' sc)) (T := fun b => w.heap.size ≤ b) (fun b hb _ => by
          have hne : b ≠ w.heap.size := by omega
          exact (Below.heap_setCell _ ⟨w.heap.size, 2, none⟩ _ b hne).trans ((Below.heap_setCell _ ⟨w.heap.size, 1, none⟩ _ b hne).trans (Below.heap_setCell _ ⟨w.heap.size, 0, none⟩ _ b hne))) (fun b hb _ => by omega))
        have HSM := Lib.hid hsm
        clear hsm hit hL hX hQ S hst HI HD HR
        go_wp2_with fail
        replace z0 := z0.out
        replace z1 := z1.out
        replace z2 := z2.out
        refine bodyPost_ret (v := .agg #[.bool true, .string ⟨#[]⟩, .slice sa n' sc]) (by simp [results, Tryz.results5, go_sem, z0, z1, z2]) rfl (by rw [← HPP.out]; exact ⟨_, _, rfl, HIT.out, HSM.out, HQ.out⟩)

theorem raw_ok : ∀ (deep : Nat), deep ≤ 14 → RawOK deep
  | 0, h => raw_step 0 h (fun h => absurd h (by decide))
  | deep + 1, h => raw_step (deep + 1) h (fun _ => raw_ok deep (by omega))
end Go.Proofs.YtbbpmcebakckaaaGreatDoor
