import Derived.Test.YtadfkiebblmfkaaGreatDoorS24
import Derived.Test.YtadfkiebblmfkaaGreatDoorS09
import Derived.TacticsIn
import Derived.LoopIn
import Derived.Test.YtadfkiebblmfkaaGreatDoorS06
/- The program's Same, by slices.EqualFunc. Conditions: the items lie in memory. -/
namespace Go.Proofs.YtadfkiebblmfkaaGreatDoor
open Go Go.RowKit
attribute [local go_sem] Oper.semAt_some Grows wide_fn

/-- How the kids lie. -/
def KidsIn (W : World) (ks : List It) (a : Option Addr) : Prop := ks = [] ∨ ∃ g o, a = some ⟨g, o, none⟩ ∧ KidsAt W ks g o
theorem KidsIn.later {W X : World} (hb : Below W.heap.size W X) {ks : List It} {a : Option Addr} (h : KidsIn W ks a) : KidsIn X ks a := by
  rcases h with h | ⟨g, o, e, h⟩
  · exact .inl h
  · exact .inr ⟨g, o, e, h.later hb⟩
noncomputable def sameL (t u : List It) : Bool := @decide (t = u) (Classical.propDecidable _)
theorem sameL_iff (t u : List It) : sameL t u = true ↔ t = u := by unfold sameL; exact @decide_eq_true_iff _ (Classical.propDecidable _)
theorem sameL_false {t u : List It} (h : t ≠ u) : sameL t u = false := by
  rcases hb : sameL t u with _ | _
  · rfl
  · exact absurd ((sameL_iff t u).1 hb) h

end Go.Proofs.YtadfkiebblmfkaaGreatDoor

/- The reference's many: how many items there are in one, counted no further than so many. -/
namespace Go.Proofs.YtadfkiebblmfkaaGreatDoor
open Go Go.RowKit
attribute [local go_sem] Oper.semAt_some Grows wide_fn

theorem countL_take : ∀ (ks : List It) (k : Nat) (x : It), ks[k]? = some x → countL (ks.take (k + 1)) = countL (ks.take k) + countI x
  | [], k, x, h => by simp at h
  | y :: ks, 0, x, h => by
    simp at h
    subst h
    simp [countL]
  | y :: ks, k + 1, x, h => by
    have h' : ks[k]? = some x := by simpa using h
    have := countL_take ks k x h'
    simp only [List.take_succ_cons, countL] at this ⊢
    omega
theorem countL_part : ∀ (ks : List It) (k : Nat), countL (ks.take k) ≤ countL ks
  | [], k => by simp [countL]
  | y :: ks, 0 => by simp [countL]
  | y :: ks, k + 1 => by
    have := countL_part ks k
    simp only [List.take_succ_cons, countL]
    omega
def cutN (a m : Nat) : Nat := if a ≤ m then a else m
theorem cutN_le (a m : Nat) : cutN a m ≤ m := by unfold cutN; split <;> omega
theorem cutN_pos (a m : Nat) (ha : 1 ≤ a) (hm : 1 ≤ m) : 1 ≤ cutN a m := by unfold cutN; split <;> omega
theorem cutN_one (m : Nat) (hm : 1 ≤ m) : cutN 1 m = 1 := if_pos hm
theorem cutN_add (a c m : Nat) (h : cutN a m < m) : cutN a m + cutN c (m - cutN a m) = cutN (a + c) m := by
  unfold cutN at *
  by_cases h1 : a ≤ m
  · simp only [if_pos h1] at h ⊢
    split <;> split <;> omega
  · simp only [if_neg h1] at h
    omega
theorem cutN_full (a c m : Nat) (h : ¬ cutN a m < m) (hac : a ≤ c) : cutN a m = cutN c m := by
  unfold cutN at *
  by_cases h1 : a ≤ m
  · simp only [if_pos h1] at h ⊢
    split <;> omega
  · simp only [if_neg h1] at h ⊢
    rw [if_neg (by omega)]

def ManyAt (t : It) : Prop := ∀ (m : Nat), 1 ≤ m → m ≤ 1099511627776 → ∀ (v : Value) (W : World), ItemAt W t v →
  Calls Tryz.prog 110 #[v, .int .i64 (m : Int)] W fun e W' => e = .returned (.int .i64 ((cutN (countI t) m : Nat) : Int)) ∧ Below W.heap.size W W'

set_option maxRecDepth 100000 in
set_option maxHeartbeats 1000000 in
theorem many_step (t : It) (IH : ∀ k ∈ t.kids, ManyAt k) : ManyAt t := by
  intro m hm1 hm2 v w ht
  obtain ⟨a, cap, rfl, hn, hs, hk⟩ := ht.open
  clear ht hs
  rw [countI_eq]
  have HI := Lib.hid IH
  have HK := Lib.hid hk
  clear IH hk
  generalize t.list = l at *
  generalize t.bytes = b at *
  generalize t.kids = ks at *
  obtain ⟨n, en⟩ : ∃ n, ks.length = n := ⟨_, rfl⟩
  rw [en] at hn ⊢
  have hall : countL (ks.take n) = countL ks := by rw [← en, List.take_length]
  replace en := Lib.hid en
  replace hall := Lib.hid hall
  have hp := Lib.hid (countL_part ks)
  obtain ⟨R, hR⟩ : ∃ R, cutN (1 + countL ks) m = R := ⟨_, rfl⟩
  rw [hR]
  replace hR := Lib.hid hR
  have hmI : (1 : Int) ≤ (m : Int) := by omega
  have hmI2 : (m : Int) ≤ 1099511627776 := by omega
  have hmx : Tryz.prog.follows .mixedOrders = true := by kernel_rfl
  go_enter Tryz.func110, Tryz.ntmps110
  have LX := Has.new w 82 #[.bool l, .string b, .slice a n cap]
  have k3 := LX.cell 2 _ rfl
  have Q := (Below.refl w.heap.size w).alloc (Nat.le_refl _) (.cells #[.bool l, .string b, .slice a n cap] 82)
  obtain ⟨W1, hW1⟩ : ∃ W1, w.alloc (.cells #[.bool l, .string b, .slice a n cap] 82) = W1 := ⟨_, rfl⟩
  rw [hW1] at LX k3 Q
  go_wp2_with fail
  clear k3
  go_loopw [5, 6] (fun nv i wr => ∃ k c : Nat, k ≤ n ∧ i = .int .i64 (k : Int) ∧ nv = .int .i64 (c : Int) ∧ c = cutN (1 + countL (ks.take k)) m ∧ Has wr w.heap.size 82 #[.bool l, .string b, .slice a n cap] ∧ Below w.heap.size w wr) (fun _ i _ => n - (intOf i).toNat)
  case atStart => exact ⟨0, 1, by omega, rfl, rfl, by rw [show countL (ks.take 0) = 0 by simp [countL]]; exact (cutN_one m hm1).symm, hW1 ▸ LX, hW1 ▸ Q⟩
  case round =>
    clear LX Q hW1
    obtain ⟨k, c, hkn, rfl, rfl, hc, LX, Q⟩ := hrel
    have c1 : 1 ≤ c := by rw [hc]; exact cutN_pos _ _ (by omega) hm1
    have c2 : c ≤ m := by rw [hc]; exact cutN_le _ _
    replace hc := Lib.hid hc
    have m1 := LX.cell 2 _ rfl
    have c3 : (1 : Int) ≤ (c : Int) := by omega
    have c4 : (c : Int) ≤ (m : Int) := by omega
    by_cases hk5 : k < n
    · have hkI : (k : Int) < (n : Int) := by omega
      have hk0 : (0 : Int) ≤ (k : Int) := by omega
      by_cases hcm : c < m
      · have hcI : (c : Int) < (m : Int) := by omega
        obtain ⟨g, o, rfl, hK⟩ := HK.out.resolve_left (fun h => by have h2 := en.out; rw [h] at h2; simp at h2; omega)
        obtain ⟨kx, hkx⟩ : ∃ kx, ks[k]? = some kx := ⟨_, List.getElem?_eq_getElem (by have := en.out; omega)⟩
        have hmem : kx ∈ ks := List.mem_of_getElem? hkx
        obtain ⟨v0, v1, v2, d0, d1, d2, hi⟩ := hK.get k _ hkx
        have e1 := Lib.hid (countL_take ks k kx hkx)
        clear hkx
        have y0 : wr.cell? ⟨g, o + k * 3, none⟩ = some v0 := (Q.cell (p := ⟨g, _, none⟩) (ltCell d0)).trans d0
        have y1 : wr.cell? ⟨g, o + k * 3 + 1, none⟩ = some v1 := (Q.cell (p := ⟨g, _, none⟩) (ltCell d0)).trans d1
        have y2 : wr.cell? ⟨g, o + k * 3 + 2, none⟩ = some v2 := (Q.cell (p := ⟨g, _, none⟩) (ltCell d0)).trans d2
        have HC := HI.out kx hmem (m - c) (by omega) (by omega) _ _ (hi.later Q)
        rw [show ((m - c : Nat) : Int) = (m : Int) - (c : Int) by omega] at HC
        have hS := cutN_add (1 + countL (ks.take k)) (countI kx) m (by rw [← hc.out]; exact hcm)
        rw [← hc.out, Nat.add_assoc, ← e1.out] at hS
        have hr2 := cutN_le (countI kx) (m - c)
        have HS := Lib.hid hS
        clear hS
        generalize cutN (countI kx) (m - c) = r at *
        have hr3 : (c : Int) + (r : Int) ≤ 1099511627776 := by omega
        have hr4 : (0 : Int) ≤ (r : Int) := by omega
        have hq0 : (0 : Int) ≤ (m : Int) - (c : Int) := by omega
        have hq1 : (m : Int) - (c : Int) ≤ 1099511627776 := by omega
        replace hr2 := Lib.hid hr2
        replace hcm := Lib.hid hcm
        replace HC := Lib.hid HC
        replace LX := Lib.hid LX
        replace Q := Lib.hid Q
        clear d0 d1 d2 hi hK HK
        go_wp2_with fail
        refine HC.out.mono ?_
        rintro _ W2 ⟨rfl, q⟩
        replace LX := Lib.hid (LX.out.later q)
        replace Q := Lib.hid (Q.out.trans (q.mono Q.out.size))
        clear y0 y1 y2 HC m1 q hmI hmI2 hmx c4 hcI
        go_wp2_with fail
        go_roundw
        case rel => exact ⟨k + 1, c + r, by omega, by simp, by simp, HS.out, LX.out, Q.out⟩
        case measure => simp [intOf]; omega
      · have hcm' : c = m := by omega
        have hRc : R = c := by
          rw [← hR.out]
          have h := cutN_full (1 + countL (ks.take k)) (1 + countL ks) m (by rw [← hc.out]; omega) (by have := hp.out k; omega)
          rw [← h, ← hc.out]
        replace hRc := Lib.hid hRc
        replace Q := Lib.hid Q
        have hcI : ¬ (c : Int) < (m : Int) := by omega
        replace hcm' := Lib.hid hcm'
        go_wp2_with fail
        go_ret
        exact ⟨by rw [hRc.out]; rfl, Q.out⟩
    · obtain rfl : k = n := by omega
      have hRc : R = c := by rw [← hR.out, hc.out, hall.out]
      replace hRc := Lib.hid hRc
      replace Q := Lib.hid Q
      go_wp2_with fail
      go_ret
      exact ⟨by rw [hRc.out]; rfl, Q.out⟩

theorem refMany : ∀ t : It, ManyAt t := by
  have H : ∀ (n : Nat) (t : It), SizeOf.sizeOf t < n → ManyAt t := by
    intro n
    induction n with
    | zero => intro t h; omega
    | succ n ih => intro t h; exact many_step t (fun k hk => ih k (by have := It.kid_lt hk; omega))
  exact fun t => H _ t (Nat.lt_succ_self _)
end Go.Proofs.YtadfkiebblmfkaaGreatDoor

/- tell, all: an item and all that is in it, one behind the other. Conditions: the item lies in memory. -/
namespace Go.Proofs.YtadfkiebblmfkaaGreatDoor
open Go Go.RowKit
attribute [local go_sem] Oper.semAt_some Grows wide_fn

mutual
/-- An item and all that is in it, each with how many others it is within. -/
def preI : Nat → It → List (Nat × It)
  | d, .mk l b ks => (d, .mk l b ks) :: preL (d + 1) ks
def preL : Nat → List It → List (Nat × It)
  | _, [] => []
  | d, k :: ks => preI d k ++ preL d ks
end
theorem preI_eq (d : Nat) (t : It) : preI d t = (d, t) :: preL (d + 1) t.kids := by
  obtain ⟨l, b, ks⟩ := t
  rw [preI]
  rfl
mutual
theorem preI_length : ∀ (d : Nat) (t : It), (preI d t).length = countI t
  | d, .mk l b ks => by rw [preI, countI, List.length_cons, preL_length (d + 1) ks]; omega
theorem preL_length : ∀ (d : Nat) (ts : List It), (preL d ts).length = countL ts
  | d, [] => by simp [preL, countL]
  | d, k :: ks => by rw [preL, countL, List.length_append, preI_length d k, preL_length d ks]
end
theorem preL_at : ∀ (d : Nat) (ks : List It) (j : Nat) (x : It) (i : Nat), ks[j]? = some x → i < countI x → (preL d ks)[countL (ks.take j) + i]? = (preI d x)[i]?
  | d, [], j, x, i, h, _ => by simp at h
  | d, k :: ks, 0, x, i, h, hi => by
    simp at h
    subst h
    rw [preL, show (countL ((k :: ks).take 0)) = 0 by simp [countL], Nat.zero_add, List.getElem?_append_left (by rw [preI_length]; exact hi)]
  | d, k :: ks, j + 1, x, i, h, hi => by
    have h' : ks[j]? = some x := by simpa using h
    rw [preL, List.take_succ_cons, countL, List.getElem?_append_right (by rw [preI_length]; omega), preI_length, show countI k + countL (ks.take j) + i - countI k = countL (ks.take j) + i by omega]
    exact preL_at d ks j x i h' hi

theorem countI_kid {t k : It} (h : k ∈ t.kids) : countI k + 1 ≤ countI t := by
  rw [countI_eq t]
  obtain ⟨j, hj⟩ := List.getElem?_of_mem h
  have h1 := countL_take t.kids j k hj
  have h2 := countL_part t.kids (j + 1)
  omega
/-- What a loop's body leaves: all that is older than n, and blocks of items. -/
def Kd (n : Nat) (A X : World) : Prop := Below n A X ∧ ∀ (b : Nat) (cs : Array Value) (h : Nat × Nat), n ≤ b → A.heap[b]? = some (.cells cs 82 h) → X.heap[b]? = some (.cells cs 82 h)
theorem Kd.refl (n : Nat) (A : World) : Kd n A A := ⟨Below.refl _ _, fun _ _ _ _ h => h⟩
theorem Kd.trans {n : Nat} {A B C : World} (h : Kd n A B) (k : Kd n B C) : Kd n A C := ⟨h.1.trans k.1, fun b cs m hb hA => k.2 b cs m hb (h.2 b cs m hb hA)⟩
theorem Kd.grow {n : Nat} {A X : World} (h : Below A.heap.size A X) (hn : n ≤ A.heap.size) : Kd n A X := ⟨h.mono hn, fun b _ _ _ hA => (h.block b (Array.getElem?_eq_some_iff.1 hA).1).trans hA⟩
theorem Kd.has {n : Nat} {A X : World} (h : Kd n A X) {B : Nat} {cs : Array Value} (hA : Has A B 82 cs) : Has X B 82 cs := by
  rcases Nat.lt_or_ge B n with hB | hB
  · exact (h.1.block B hB).trans hA
  · exact h.2 B cs (0, 0) hB hA
theorem Kd.put {n : Nat} (W : World) (l : Nat) (o o' : Obj) (hn : n ≤ l) (hl : W.heap[l]? = some o) (ho : o.isCells = false) : Kd n W (W.putObj l o') :=
  ⟨⟨rfl, rfl, rfl, by simp, fun k hk => World.putObj_heap_other (by omega)⟩, fun b cs h _ hA => (World.putObj_heap_other (fun e => by
    subst e
    rw [hl] at hA
    cases hA
    cases ho)).trans hA⟩

theorem roundIn_anyR {n m : Nat} {P : Program} {l : Nat} {f : FuncId} {tmps : Array Value} {assign body : Code} {w : World} {R : Ending → World → Prop} (h : RoundIn Fence.wide n P l f tmps assign body w R) : RoundIn Fence.wide m P l f tmps assign body w R :=
  ⟨h.1, fun c cs _ => h.2 c cs (room_wide _)⟩
theorem yieldAt_anyR {n m : Nat} {P : Program} {l : Nat} {args : Array Value} {W : World} {R : Ending → World → Prop} (h : YieldAt Fence.wide n P l args W R) : YieldAt Fence.wide m P l args W R := by
  obtain ⟨fn, tmps, assign, body, h1, h2⟩ := h
  exact ⟨fn, tmps, assign, body, h1, roundIn_anyR h2⟩

/-- What round k may be handed: the item there. -/
def EI (w0 : World) (d : Nat) (t : It) (k : Nat) (args : Array Value) (_ : World) : Prop := ∃ d' x v, (preI d t)[k]? = some (d', x) ∧ args = #[.int .i64 ((d' : Nat) : Int), v] ∧ ItemAt w0 x v

/-- What tell comes to. -/
def TellP (t : It) (k0 n0 : Nat) (J Jx : Nat → World → Prop) (W : World) (e : Ending) (W' : World) : Prop :=
  (e = .returned (.bool true) ∧ J (k0 + countI t) W' ∧ Kd n0 W W') ∨ (e = .returned (.bool false) ∧ ∃ k, k < countI t ∧ Jx (k0 + k) W')
def TellAt (t : It) : Prop := ∀ (w0 : World) (v : Value), ItemAt w0 t v → ∀ (l m d k0 : Nat) (J Jx : Nat → World → Prop) (W : World), d + countI t ≤ 1099511627776 → Below w0.heap.size w0 W →
  (∀ s A X, J s A → Below A.heap.size A X → J s X) → (∀ s A X, Jx s A → Below A.heap.size A X → Jx s X) →
  (∀ k args W1, k < countI t → J (k0 + k) W1 → EI w0 d t k args W1 → YieldAt Fence.wide m Tryz.prog l args W1 fun e W' =>
    (e = .returned (.bool true) ∧ J (k0 + k + 1) W' ∧ Kd w0.heap.size W1 W') ∨ (e = .returned (.bool false) ∧ Jx (k0 + k) W')) →
  J k0 W →
  Calls Tryz.prog 100 #[v, .int .i64 (d : Int), .func (.yield l) #[] #[]] W (TellP t k0 w0.heap.size J Jx W)

set_option maxRecDepth 100000 in
set_option maxHeartbeats 4000000 in
theorem tell_step (t : It) (IH : ∀ k ∈ t.kids, TellAt k) : TellAt t := by
  intro w0 v ht l m d k0 J Jx W hd hW hJA hJxA hY h0
  obtain ⟨a, cap, rfl, hn, hs, hk⟩ := ht.open
  have hY0 := hY 0 #[.int .i64 (d : Int), .agg #[.bool t.list, .string t.bytes, .slice a t.kids.length cap]]
  refine (callsIn_wide (n := 4)).1 ?_
  refine callsIn_of_wp Tryz.func100 rfl trivial ?_ rfl
  simp only [Tryz.ntmps100, List.size_toArray, List.length_cons, List.length_nil, Nat.reduceAdd, Nat.reduceSub, Array.replicate_succ, Array.replicate_zero, List.push_toArray, List.append_toArray, List.nil_append, List.cons_append]
  have LX := Has.new W 82 #[.bool t.list, .string t.bytes, .slice a t.kids.length cap]
  have QW := (Below.refl W.heap.size W).alloc (Nat.le_refl _) (.cells #[.bool t.list, .string t.bytes, .slice a t.kids.length cap] 82)
  obtain ⟨W1, hW1⟩ : ∃ W1, W.alloc (.cells #[.bool t.list, .string t.bytes, .slice a t.kids.length cap] 82) = W1 := ⟨_, rfl⟩
  rw [hW1] at LX QW
  have J1 := hJA _ _ _ h0 QW
  have hW0 := hW.trans (QW.mono hW.size)
  have kd1 := Kd.grow QW hW.size
  obtain ⟨fn, tmps, assign, body, hy, hR⟩ := hY0 W1 (by have := countI_pos t; omega) J1 ⟨d, t, _, by rw [preI_eq]; rfl, rfl, ht⟩
  have c0 := LX.cell 0 _ rfl
  have c1 := LX.cell 1 _ rfl
  have c2 := LX.cell 2 _ rfl
  have HY := Lib.hid hY
  have HJ := Lib.hid (And.intro hJA hJxA)
  have HK := Lib.hid hk
  have HI := Lib.hid IH
  have HT := Lib.hid ht
  have HC := Lib.hid (countI_eq t)
  have HCT := Lib.hid (show ∀ k ∈ t.kids, countI k + 1 ≤ countI t from fun k h => countI_kid h)
  have HCP := Lib.hid (show 0 < countI t from countI_pos t)
  have HP := Lib.hid (preI_eq d t)
  replace LX := Lib.hid LX
  replace QW := Lib.hid QW
  replace hW0 := Lib.hid hW0
  replace kd1 := Lib.hid kd1
  replace hW := Lib.hid hW
  clear hY hY0 hJA hJxA hk IH h0 J1 ht
  generalize t.list = tl at *
  generalize t.bytes = b at *
  generalize t.kids = ks at *
  obtain ⟨n, en⟩ : ∃ n, ks.length = n := ⟨_, rfl⟩
  rw [en] at hn hy LX hW1 c2 ⊢
  replace en := Lib.hid en
  gi_wp2_with fail
  refine (roundIn_anyR hR).mono ?_
  have HEND : ∀ (k : Nat) (X : World), k < countI t → Jx (k0 + k) X → TellP t k0 w0.heap.size J Jx W (.returned (.bool false)) X := fun k X h1 h2 => .inr ⟨rfl, k, h1, h2⟩
  replace HEND := Lib.hid HEND
  rintro e W2 (⟨rfl, hJ2, hk2⟩ | ⟨rfl, hJx2⟩)
  · have L2 := hk2.has LX.out
    have kd2 := Lib.hid (kd1.out.trans hk2)
    have c0 := L2.cell 0 _ rfl
    have c1 := L2.cell 1 _ rfl
    have c2 := L2.cell 2 _ rfl
    replace L2 := Lib.hid L2
    replace hJ2 := Lib.hid hJ2
    have hsz2 := Lib.hid (Nat.lt_of_lt_of_le LX.out.lt hk2.1.size)
    clear hk2 hR hy LX QW hW0 kd1 hW1
    gi_wp2_with fail
    gi_loopw [17] (fun i wr => ∃ k : Nat, k ≤ n ∧ i = .int .i64 (k : Int) ∧ J (k0 + (1 + countL (ks.take k))) wr ∧ Kd w0.heap.size W wr) (fun i _ => n - (intOf i).toNat)
    case atStart => exact ⟨0, by omega, rfl, by rw [show countL (ks.take 0) = 0 by simp [countL]]; exact hJ2.out, kd2.out⟩
    case round =>
      clear hJ2 kd2 L2 c0 c1 c2 hsz2
      obtain ⟨k, hkn, rfl, hJ, kd⟩ := hrel
      by_cases hk5 : k < n
      · have hkI : (k : Int) < (n : Int) := by omega
        have hk0 : (0 : Int) ≤ (k : Int) := by omega
        obtain ⟨g, o, rfl, hK⟩ := HK.out.resolve_left (fun h => by have h2 := en.out; rw [h] at h2; simp at h2; omega)
        obtain ⟨kx, hkx⟩ : ∃ kx, ks[k]? = some kx := ⟨_, List.getElem?_eq_getElem (by have := en.out; omega)⟩
        have hm : kx ∈ ks := List.mem_of_getElem? hkx
        obtain ⟨l1, b1, a1, n1, cap1, e0, e1, e2, hi⟩ := hK.get3 k _ hkx
        have hB := hW.out.trans kd.1
        replace e0 := (hB.cell (p := ⟨g, _, none⟩) (ltCell e0)).trans e0
        replace e1 := (hB.cell (p := ⟨g, _, none⟩) (ltCell e1)).trans e1
        replace e2 := (hB.cell (p := ⟨g, _, none⟩) (ltCell e2)).trans e2
        have NX := Has.new wr 82 #[.bool false, .string ⟨#[]⟩, .slice none 0 0]
        have x0 := NX.cell 0 _ rfl
        have x1 := NX.cell 1 _ rfl
        have x2 := NX.cell 2 _ rfl
        have f0 := NX.frozen 0
        have f1 := NX.frozen 1
        have f2 := NX.frozen 2
        replace NX := Lib.hid NX
        have q := (Below.refl wr.heap.size wr).alloc (Nat.le_refl _) (.cells #[.bool l1, .string b1, .slice a1 n1 cap1] 82)
        have hct := HCT.out kx hm
        have hpart := countL_part ks (k + 1)
        have htake := countL_take ks k kx hkx
        have HCALL := HI.out kx hm w0 _ hi l m (d + 1) (k0 + (1 + countL (ks.take k))) J Jx (wr.alloc (.cells #[.bool l1, .string b1, .slice a1 n1 cap1] 82)) (by omega) (hB.trans (q.mono hB.size)) HJ.out.1 HJ.out.2
          (fun i args W1 hi' hJi hE => by
            have hC := HC.out
            rw [show k0 + (1 + countL (ks.take k)) + i = k0 + (1 + countL (ks.take k) + i) by omega] at hJi ⊢
            refine HY.out (1 + countL (ks.take k) + i) args W1 (by omega) hJi ?_
            obtain ⟨d', x, v', h1, h2, h3⟩ := hE
            refine ⟨d', x, v', ?_, h2, h3⟩
            rw [HP.out, show 1 + countL (ks.take k) + i = (countL (ks.take k) + i) + 1 by omega, List.getElem?_cons_succ, preL_at (d + 1) ks k kx i hkx hi']
            exact h1)
          (HJ.out.1 _ _ _ hJ q)
        have hnx := Lib.hid (show k0 + (1 + countL (ks.take k)) + countI kx = k0 + (1 + countL (ks.take (k + 1))) by omega)
        have kdA := Lib.hid (kd.trans (Kd.grow q hB.size))
        have hCk := Lib.hid (show ∀ i, i < countI kx → 1 + countL (ks.take k) + i < countI t ∧ k0 + (1 + countL (ks.take k)) + i = k0 + (1 + countL (ks.take k) + i) from fun i hi' => by have := HC.out; omega)
        have hdI : (d : Int) + 1 ≤ 1099511627776 := by omega
        have hd0 : (0 : Int) ≤ (d : Int) := by omega
        rw [show ((d + 1 : Nat) : Int) = (d : Int) + 1 by omega] at HCALL
        replace HCALL := Lib.hid HCALL
        have lg := ltCell e0
        clear hB hi hK HK hJ kd q hct hpart htake hd HT HP HY HJ HI HCT HC hkx
        gi_wp2_with fail
        refine (callsIn_free free_wide HCALL.out).mono ?_
        rintro e W3 (⟨rfl, hJ3, hk3⟩ | ⟨rfl, i, hi3, hJx3⟩)
        · rw [hnx.out] at hJ3
          have kd3 := Lib.hid (kdA.out.trans hk3)
          replace hJ3 := Lib.hid hJ3
          clear hk3 HCALL kdA x0 x1 x2 f0 f1 f2 e0 e1 e2 NX lg
          gi_wp2_with fail
          go_roundw
          case rel => exact ⟨k + 1, by omega, by simp, hJ3.out, kd3.out⟩
          case measure => simp [intOf]; omega
        · rw [(hCk.out i hi3).2] at hJx3
          have hE := Lib.hid (HEND.out _ _ (hCk.out i hi3).1 hJx3)
          clear HCALL kdA x0 x1 x2 f0 f1 f2 e0 e1 e2 NX lg hJx3
          gi_wp2_with fail
          refine bodyPost_ret (results_tmp rfl _ _ _) rfl ?_
          exact hE.out
      · obtain rfl : k = n := by omega
        have hE := Lib.hid (show TellP t k0 w0.heap.size J Jx W (.returned (.bool true)) wr from .inl ⟨rfl, by
          rw [HC.out]
          rw [List.take_of_length_le (by have := en.out; omega)] at hJ
          exact hJ, kd⟩)
        clear hJ kd
        gi_wp2_with fail
        refine bodyPost_ret (results_tmp rfl _ _ _) rfl ?_
        exact hE.out
  · have hE := Lib.hid (HEND.out 0 _ HCP.out hJx2)
    clear hR hy LX QW hW0 kd1 hW1 hJx2
    gi_wp2_with fail
    refine bodyPost_ret (results_tmp rfl _ _ _) rfl ?_
    exact hE.out
theorem tell_any : ∀ t : It, TellAt t := It.induct tell_step
end Go.Proofs.YtadfkiebblmfkaaGreatDoor

/- The reference's Right. -/
namespace Go.Proofs.YtadfkiebblmfkaaGreatDoor
open Go Go.RowKit
attribute [local go_sem] Oper.semAt_some Grows wide_fn

/-- May an item be? -/
noncomputable def okI (t : It) : Bool := decide (countI t ≤ 5000) && rightB 16 t
theorem cutN_gt (a : Nat) : (cutN a 5001 ≤ 5000) ↔ a ≤ 5000 := by unfold cutN; split <;> omega

set_option maxRecDepth 100000 in
set_option maxHeartbeats 4000000 in
theorem refRight (t : It) (v : Value) (w : World) (ht : ItemAt w t v) :
    Calls Tryz.prog 83 #[v] w fun e W' => e = .returned (.bool (okI t)) ∧ Below w.heap.size w W' := by
  have HM := Lib.hid (refMany t 5001 (by omega) (by omega))
  have HR := Lib.hid (refRightAt 16 (by omega) t)
  have HT := Lib.hid ht
  obtain ⟨a, cap, rfl, hn, hs, hk⟩ := ht.open
  clear ht hs hk
  generalize t.list = l at *
  generalize t.bytes = b at *
  generalize t.kids.length = n at *
  have hmx : Tryz.prog.follows .mixedOrders = true := by kernel_rfl
  have LX := Has.new w 82 #[.bool l, .string b, .slice a n cap]
  have Q := (Below.refl w.heap.size w).alloc (Nat.le_refl _) (.cells #[.bool l, .string b, .slice a n cap] 82)
  go_enter Tryz.func83, Tryz.ntmps83
  obtain ⟨W1, hW1⟩ : ∃ W1, w.alloc (.cells #[.bool l, .string b, .slice a n cap] 82) = W1 := ⟨_, rfl⟩
  rw [hW1] at LX Q
  have k1 := LX.cell 0 _ rfl
  have k2 := LX.cell 1 _ rfl
  have k3 := LX.cell 2 _ rfl
  have HC := HM.out _ _ (HT.out.later Q)
  have hS : okI t = (decide (cutN (countI t) 5001 ≤ 5000) && rightB 16 t) := by
    unfold okI
    rw [decide_eq_decide.2 (cutN_gt (countI t))]
  replace hS := Lib.hid hS
  generalize cutN (countI t) 5001 = c at *
  replace HC := Lib.hid HC
  replace LX := Lib.hid LX
  replace Q := Lib.hid Q
  go_wp2_with fail
  refine HC.out.mono ?_
  rintro _ W2 ⟨rfl, q⟩
  replace LX := Lib.hid (LX.out.later q)
  replace Q := Lib.hid (Q.out.trans (q.mono Q.out.size))
  clear k1 k2 k3 HC q HM
  have k1 := LX.out.cell 0 _ rfl
  have k2 := LX.out.cell 1 _ rfl
  have k3 := LX.out.cell 2 _ rfl
  by_cases hc : c ≤ 5000
  · have hcI : (c : Int) ≤ 5000 := by omega
    have HC := Lib.hid (HR.out _ _ (HT.out.later Q.out))
    have hS2 : okI t = rightB 16 t := by rw [hS.out]; simp [hc]
    replace hS2 := Lib.hid hS2
    clear hS
    go_wp2_with fail
    refine HC.out.mono ?_
    rintro _ W3 ⟨rfl, q⟩
    replace Q := Lib.hid (Q.out.trans (q.mono Q.out.size))
    clear k1 k2 k3 HC q HR
    go_wp2_with fail
    go_ret
    exact ⟨by rw [hS2.out]; rfl, Q.out⟩
  · have hcI : ¬ (c : Int) ≤ 5000 := by omega
    have hS2 : okI t = false := by rw [hS.out]; simp [hc]
    replace hS2 := Lib.hid hS2
    clear hS
    go_wp2_with fail
    go_ret
    exact ⟨by rw [hS2.out]; rfl, Q.out⟩
end Go.Proofs.YtadfkiebblmfkaaGreatDoor

/- all, and Right. Conditions: the item lies in memory, and holds no more than 2^40 items. -/
namespace Go.Proofs.YtadfkiebblmfkaaGreatDoor
open Go Go.RowKit
attribute [local go_sem] Oper.semAt_some Grows wide_fn

/-- Nothing but growth. -/
def GrR (A X : World) : Prop := Below A.heap.size A X
theorem GrR.keeps (A X : World) (h : GrR A X) (b : Nat) (o : Obj) (ho : A.heap[b]? = some o) (_ : o.isCells = false) : X.heap[b]? = some o := (h.block b (Array.getElem?_eq_some_iff.1 ho).1).trans ho

set_option maxRecDepth 100000 in
set_option maxHeartbeats 2000000 in
theorem all_seq (n : Nat) (t : It) (l : Bool) (b : ByteArray) (a : Option Addr) (kn cap Bx : Nat) (w0 w : World) (ht : ItemAt w0 t (.agg #[.bool l, .string b, .slice a kn cap])) (hB : Below w0.heap.size w0 w)
    (hX : Has w Bx 82 #[.bool l, .string b, .slice a kn cap]) (hc : countI t ≤ 1099511627776) :
    SeqC Fence.wide n Tryz.prog 99 #[.pointer (some ⟨Bx, 0, none⟩)] (EI w0 0 t) (Kd w0.heap.size) GrR (countI t) w := by
  intro ll J Jx W hW hJA hJxA hY h0
  have hlt := hX.lt
  have LX := hX.below hW hlt
  have HC := tell_any t w0 _ ht ll 7 0 0 J Jx W (by omega) (hB.trans (hW.mono hB.size)) hJA hJxA (fun k args W1 hk hJ hE => by
    have := yieldAt_anyR (m := 7) (hY k args W1 hk (by simpa using hJ) hE)
    simpa using this) h0
  rw [show ((0 : Nat) : Int) = 0 from rfl] at HC
  have c0 := LX.cell 0 _ rfl
  have c1 := LX.cell 1 _ rfl
  have c2 := LX.cell 2 _ rfl
  replace HC := Lib.hid HC
  have hfin := Lib.hid (show ∀ e X, TellP t 0 w0.heap.size J Jx W e X → (J (countI t) X ∨ ∃ k, k < countI t ∧ Jx k X) ∧ ∃ v, e = .returned (.bool v) from fun e X h => by
    rcases h with ⟨rfl, h1, _⟩ | ⟨rfl, k, h1, h2⟩
    · exact ⟨.inl (by simpa using h1), true, rfl⟩
    · exact ⟨.inr ⟨k, h1, by simpa using h2⟩, false, rfl⟩)
  replace hX := Lib.hid hX
  clear hY hJA hJxA h0 ht hB hc LX
  refine callsIn_of_wp Tryz.func99 rfl trivial ?_ rfl
  simp only [Tryz.ntmps99, List.size_toArray, List.length_cons, List.length_nil, Nat.reduceAdd, Nat.reduceSub, Array.replicate_succ, Array.replicate_zero, List.push_toArray, List.append_toArray, List.nil_append, List.cons_append]
  gi_wp2_with fail
  refine ⟨fun h => absurd h (by simp [Fence.wide]), (callsIn_free free_wide HC.out).mono ?_⟩
  rintro e X hP
  obtain ⟨h1, v, rfl⟩ := hfin.out _ _ hP
  replace h1 := Lib.hid h1
  clear hP
  gi_wp2_with fail
  first | go_end0 | skip
  exact ⟨⟨_, rfl⟩, h1.out⟩

set_option maxRecDepth 100000 in
set_option maxHeartbeats 2000000 in
theorem either_any (t : It) (v : Value) (w : World) (ht : ItemAt w t v) : Calls Tryz.prog 96 #[v] w fun e w' => e = .returned (.bool (decide ((t.list = true → t.bytes = ⟨#[]⟩) ∧ (t.list = false → t.kids.length = 0)))) ∧ Below w.heap.size w w' := by
  obtain ⟨a, cap, rfl, hn, hs, hk⟩ := ht.open
  clear ht hk
  obtain ⟨R, hR⟩ : ∃ R, decide ((t.list = true → t.bytes = ⟨#[]⟩) ∧ (t.list = false → t.kids.length = 0)) = R := ⟨_, rfl⟩
  rw [hR]
  generalize t.list = l at *
  generalize t.bytes = b at *
  generalize t.kids.length = n at *
  have LX := Has.new w 82 #[.bool l, .string b, .slice a n cap]
  have Q := Lib.hid ((Below.refl w.heap.size w).alloc (Nat.le_refl _) (.cells #[.bool l, .string b, .slice a n cap] 82))
  have k0 := LX.cell 0 _ rfl
  have k1 := LX.cell 1 _ rfl
  have k2 := LX.cell 2 _ rfl
  replace LX := Lib.hid LX
  replace hs := Lib.hid hs
  cases l with
  | true =>
    by_cases hb : b = ⟨#[]⟩
    · have hR' := Lib.hid (show R = true by rw [← hR]; simp [hb])
      clear hR
      subst hb
      go_enter Tryz.func96, Tryz.ntmps96
      go_wp2_with fail
      go_ret
      exact ⟨by rw [hR'.out]; rfl, Q.out⟩
    · have hR' := Lib.hid (show R = false by rw [← hR]; simp [hb])
      clear hR
      have hbl := bytes_ne hb
      have hbe : (b.toList == []) = false := by
        have e : (ByteArray.mk #[]).toList = [] := by rw [ByteArray.toList_eq]
        rw [e] at hbl
        exact hbl
      replace hb := Lib.hid hb
      go_enter Tryz.func96, Tryz.ntmps96
      go_wp2_with fail
      go_ret
      exact ⟨by rw [hR'.out]; rfl, Q.out⟩
  | false =>
    by_cases hn0 : n = 0
    · have hR' := Lib.hid (show R = true by rw [← hR]; simp [hn0])
      clear hR
      subst hn0
      go_enter Tryz.func96, Tryz.ntmps96
      go_wp2_with fail
      go_ret
      exact ⟨by rw [hR'.out]; rfl, Q.out⟩
    · have hR' := Lib.hid (show R = false by rw [← hR]; simp [hn0])
      clear hR
      have hnI : ((n : Int) == 0) = false := by simpa using (show ¬ n = 0 by omega)
      replace hn0 := Lib.hid hn0
      go_enter Tryz.func96, Tryz.ntmps96
      go_wp2_with fail
      go_ret
      exact ⟨by rw [hR'.out]; rfl, Q.out⟩

theorem pre_right : ∀ (d : Nat) (t : It), (∀ p ∈ preI d t, p.1 < 16 ∧ (p.2.list = true → p.2.bytes = ⟨#[]⟩) ∧ (p.2.list = false → p.2.kids.length = 0)) ↔ (d < 16 ∧ RightI (16 - d) t) := by
  intro d t
  revert d
  refine It.induct (P := fun t => ∀ d, (∀ p ∈ preI d t, p.1 < 16 ∧ (p.2.list = true → p.2.bytes = ⟨#[]⟩) ∧ (p.2.list = false → p.2.kids.length = 0)) ↔ (d < 16 ∧ RightI (16 - d) t)) ?_ t
  intro t ih d
  have hL : ∀ (ks : List It), (∀ k ∈ ks, k ∈ t.kids) → ((∀ p ∈ preL (d + 1) ks, p.1 < 16 ∧ (p.2.list = true → p.2.bytes = ⟨#[]⟩) ∧ (p.2.list = false → p.2.kids.length = 0)) ↔ ∀ k ∈ ks, d + 1 < 16 ∧ RightI (16 - (d + 1)) k) := by
    intro ks
    induction ks with
    | nil => intro _; simp [preL]
    | cons k ks ih2 =>
      intro hm
      rw [preL]
      constructor
      · intro h x hx
        rcases List.mem_cons.1 hx with rfl | hx
        · exact (ih x (hm x (by simp)) (d + 1)).1 (fun p hp => h p (List.mem_append_left _ hp))
        · exact (ih2 (fun y hy => hm y (by simp [hy]))).1 (fun p hp => h p (List.mem_append_right _ hp)) x hx
      · intro h p hp
        rcases List.mem_append.1 hp with hp | hp
        · exact (ih k (hm k (by simp)) (d + 1)).2 (h k (by simp)) p hp
        · exact (ih2 (fun y hy => hm y (by simp [hy]))).2 (fun y hy => h y (by simp [hy])) p hp
  rw [preI_eq]
  constructor
  · intro h
    obtain ⟨h1, h2, h3⟩ := h (d, t) (by simp)
    obtain ⟨e, he⟩ : ∃ e, 16 - d = e + 1 := ⟨15 - d, by simp only at h1; omega⟩
    refine ⟨h1, ?_⟩
    rw [he]
    refine ⟨h2, h3, fun k hk => ?_⟩
    have := (hL t.kids (fun _ h => h)).1 (fun p hp => h p (List.mem_cons_of_mem _ hp)) k hk
    rw [show e = 16 - (d + 1) by omega]
    exact this.2
  · rintro ⟨h1, h2⟩ p hp
    obtain ⟨e, he⟩ : ∃ e, 16 - d = e + 1 := ⟨15 - d, by omega⟩
    rw [he] at h2
    obtain ⟨h3, h4, h5⟩ := h2
    rcases List.mem_cons.1 hp with rfl | hp
    · exact ⟨h1, h3, h4⟩
    · refine (hL t.kids (fun _ h => h)).2 (fun k hk => ?_) p hp
      have := h5 k hk
      rw [show e = 16 - (d + 1) by omega] at this
      refine ⟨?_, this⟩
      rcases Nat.lt_or_ge (d + 1) 16 with h | h
      · exact h
      · rw [show 16 - (d + 1) = 0 by omega] at this
        exact this.elim

/-- Is what is told in round k as it should be? -/
def FitI (t : It) (k : Nat) : Prop := ∀ p, (preI 0 t)[k]? = some p → p.1 < 16 ∧ (p.2.list = true → p.2.bytes = ⟨#[]⟩) ∧ (p.2.list = false → p.2.kids.length = 0)
theorem okI_of {t : It} (hc : countI t ≤ 5000) (h : ∀ k, k < countI t → FitI t k) : okI t = true := by
  unfold okI
  rw [(rightB_iff 16 t).2 ?_]
  · simpa using hc
  · have := (pre_right 0 t).1 (fun p hp => by
      obtain ⟨j, hj⟩ := List.getElem?_of_mem hp
      have hl := (List.getElem?_eq_some_iff.1 hj).1
      rw [preI_length] at hl
      exact h j hl p hj)
    exact this.2
theorem okI_not {t : It} {k : Nat} (h : ¬ FitI t k) : okI t = false := by
  unfold okI
  rw [rightB_false ?_]
  · simp
  · intro hr
    refine h (fun p hp => (pre_right 0 t).2 ⟨by omega, hr⟩ p (List.mem_of_getElem? hp))
theorem okI_many {t : It} (h : 5000 < countI t) : okI t = false := by
  unfold okI
  rw [show decide (countI t ≤ 5000) = false by simpa using h]
  rfl

/-- What Right's loop holds: how many there were; the boxes of the count and of the answer. -/
def RightSt (w : World) (t : It) (Bm Br : Nat) (k : Nat) (W : World) : Prop :=
  (Has W Bm 3 #[.int .i64 (k : Int)] ∧ Has W Br 4 #[.bool false]) ∧ (Below w.heap.size w W ∧ k ≤ 5000 ∧ ∀ j, j < k → FitI t j)
end Go.Proofs.YtadfkiebblmfkaaGreatDoor

/- Right: whether an item is right. Conditions: the item lies in memory, and holds no more than 2^40 items. -/
namespace Go.Proofs.YtadfkiebblmfkaaGreatDoor
open Go Go.RowKit
attribute [local go_sem] Oper.semAt_some Grows wide_fn

theorem RightSt.later {w : World} {t : It} {Bm Br k : Nat} {A X : World} (h : RightSt w t Bm Br k A) (hb : Below A.heap.size A X) : RightSt w t Bm Br k X :=
  ⟨⟨h.1.1.later hb, h.1.2.later hb⟩, h.2.1.trans (hb.mono h.2.1.size), h.2.2.1, h.2.2.2⟩
theorem Has.ownR {A X : World} {row : Option Nat} {B : Nat} {t : TypeId} {cs : Array Value} (h : Has A B t cs) (hg : A.grownBy X row) (hr : ∀ r, row = some r → ∃ o : Obj, A.heap[r]? = some o ∧ o.isCells = false) : Has X B t cs := by
  refine (hg.block B h.lt (fun e => ?_)).trans h
  obtain ⟨o, ho, hc⟩ := hr B e.symm
  rw [show A.heap[B]? = _ from h] at ho
  cases ho
  cases hc
theorem below_ownR {w A X : World} {row : Option Nat} {n : Nat} (h : Below w.heap.size w A) (hg : A.grownBy X row) (hn : w.heap.size ≤ n) (hr : ∀ r, row = some r → n ≤ r) : Below w.heap.size w X :=
  ⟨hg.os.trans h.os, hg.tape.trans h.tape, hg.output.trans h.output, Nat.le_trans h.size hg.size, fun k hk => (hg.block k (Nat.lt_of_lt_of_le hk h.size) (fun e => by have := hr k e.symm; omega)).trans (h.block k hk)⟩
theorem RightSt.own {w : World} {t : It} {Bm Br n : Nat} (hn : w.heap.size ≤ n) : OwnFrom n (fun k W => RightSt w t Bm Br k W) := fun k A X row hs hg hr =>
  ⟨⟨hs.1.1.ownR hg (fun r e => (hr r e).2), hs.1.2.ownR hg (fun r e => (hr r e).2)⟩, below_ownR hs.2.1 hg hn (fun r e => (hr r e).1), hs.2.2.1, hs.2.2.2⟩

theorem ItemAt.own {A X : World} {row : Option Nat} (hg : A.grownBy X row) (hr : ∀ r, row = some r → ∃ o : Obj, A.heap[r]? = some o ∧ o.isCells = false) {t : It} {v : Value} (h : ItemAt A t v) : ItemAt X t v :=
  h.keep (keeps_own hg hr)
theorem Has.ne {A : World} {B C : Nat} {t u : TypeId} {cs ds : Array Value} (h : Has A B t cs) (k : Has A C u ds) (hne : t ≠ u) : B ≠ C := fun e => by
  subst e
  unfold Has at h k
  rw [h] at k
  injection k with k
  injection k with _ k _
  exact hne k
theorem Kd.set {n : Nat} {A : World} {B : Nat} {t : TypeId} {cs : Array Value} (h : Has A B t cs) (ht : t ≠ 82) (hn : n ≤ B) (j : Nat) (v : Value) : Kd n A (A.setCell ⟨B, j, none⟩ v) :=
  ⟨(Below.refl _ A).setCell hn v, fun b cs' m hb hA => (Below.heap_setCell A ⟨B, j, none⟩ v b (fun e => by
    simp only at e
    subst e
    rw [show A.heap[b]? = _ from h] at hA
    injection hA with hA
    injection hA with _ hA _
    exact ht hA)).trans hA⟩

theorem all_any (v0 v1 v2 : Value) (w : World) : Calls Tryz.prog 69 #[.agg #[v0, v1, v2]] w fun e w' => e = .returned (.func (.func 99) #[] #[.pointer (some ⟨w.heap.size, 0, none⟩)]) ∧ w.alloc (.cells #[v0, v1, v2] 82) = w' := by
  go_enter Tryz.func69, Tryz.ntmps69
  go_wp2_with fail
  go_ret
  exact ⟨rfl, rfl⟩

set_option maxRecDepth 100000 in
set_option maxHeartbeats 4000000 in
theorem right_any (t : It) (v : Value) (w : World) (ht : ItemAt w t v) (hc : countI t ≤ 1099511627776) : Calls Tryz.prog 66 #[v] w fun e w' => e = .returned (.bool (okI t)) ∧ Below w.heap.size w w' := by
  have hmx : Tryz.prog.follows .mixedOrders = true := by kernel_rfl
  obtain ⟨a, cap, rfl, hn, hs, hk⟩ := ht.open
  clear hk hs hn
  have HT := Lib.hid ht
  have HC := Lib.hid hc
  clear hc
  generalize t.list = l at *
  generalize t.bytes = b at *
  generalize t.kids.length = kn at *
  refine (callsIn_wide (n := 8)).1 ?_
  refine callsIn_of_wp_marks Tryz.func66 rfl trivial ?_ rfl
  simp only [Tryz.ntmps66, List.size_toArray, List.length_cons, List.length_nil, Nat.reduceAdd, Nat.reduceSub, Array.replicate_succ, Array.replicate_zero, List.push_toArray, List.append_toArray, List.nil_append, List.cons_append]
  have LX := ((Has.new w 82 #[.bool l, .string b, .slice a kn cap]).alloc (.cells #[.bool false] 4)).alloc (.cells #[.int .i64 0] 3)
  have LR := (Has.new (w.alloc (.cells #[.bool l, .string b, .slice a kn cap] 82)) 4 #[.bool false]).alloc (.cells #[.int .i64 0] 3)
  have LM := Has.new ((w.alloc (.cells #[.bool l, .string b, .slice a kn cap] 82)).alloc (.cells #[.bool false] 4)) 3 #[.int .i64 0]
  simp only [World.size_alloc] at LR LM
  have Q := (((Below.refl w.heap.size w).alloc (Nat.le_refl _) (.cells #[.bool l, .string b, .slice a kn cap] 82)).alloc (by simp) (.cells #[.bool false] 4)).alloc (by simp; omega) (.cells #[.int .i64 0] 3)
  have hs1 : (((w.alloc (.cells #[.bool l, .string b, .slice a kn cap] 82)).alloc (.cells #[.bool false] 4)).alloc (.cells #[.int .i64 0] 3)).heap.size = w.heap.size + 3 := by simp
  have c0 := LX.cell 0 _ rfl
  have c1 := LX.cell 1 _ rfl
  have c2 := LX.cell 2 _ rfl
  have c3 := LM.cell 0 _ rfl
  have f3 := LM.frozen 0
  have HA := Lib.hid (all_any (.bool l) (.string b) (.slice a kn cap))
  replace LX := Lib.hid LX
  replace LR := Lib.hid LR
  replace LM := Lib.hid LM
  replace Q := Lib.hid Q
  replace hs1 := Lib.hid hs1
  gi_wp2_with fail
  refine (callsIn_free free_wide (HA.out _)).mono ?_
  rintro _ W2 ⟨rfl, hW2⟩
  generalize ((w.alloc (.cells #[.bool l, .string b, .slice a kn cap] 82)).alloc (.cells #[.bool false] 4)).alloc (.cells #[.int .i64 0] 3) = W1 at *
  have LX2 := Lib.hid (show Has W2 W1.heap.size 82 #[.bool l, .string b, .slice a kn cap] by rw [← hW2]; exact Has.new _ _ _)
  have q2 : Below W1.heap.size W1 W2 := by rw [← hW2]; exact (Below.refl _ _).alloc (Nat.le_refl _) _
  replace LR := Lib.hid (LR.out.later q2)
  replace LM := Lib.hid (LM.out.later q2)
  replace Q := Lib.hid (Q.out.trans (q2.mono Q.out.size))
  have hs2 : W2.heap.size = w.heap.size + 4 := by rw [← hW2, World.size_alloc, hs1.out]
  rw [hs1.out] at LX2 ⊢
  replace hs2 := Lib.hid hs2
  clear c0 c1 c2 c3 f3 hW2 q2 LX hs1 HA
  gi_wp2_with fail
  refine wpIn_rangeFunc_C rfl (by omega) (gf := 99) (lb := #[.pointer (some ⟨w.heap.size + 3, 0, none⟩)]) rfl trivial (enters_of Tryz.func99 (by kernel_rfl) rfl)
    (all_seq _ t l b a kn cap (w.heap.size + 3) w W2 HT.out Q.out LX2.out HC.out) GrR.keeps Kd.trans (fun W l o o' hl h1 h2 _ => Kd.put W l o o' (by have := hs2.out; omega) h1 h2) (fun k args W _ hE => by obtain ⟨d', x, v', _, e, _⟩ := hE; rw [e]; rfl)
    (fun k W => RightSt w t (w.heap.size + 1 + 1) (w.heap.size + 1) k W) (fun c _ W => c = .ret ∧ okI t = false ∧ Has W (w.heap.size + 1) 4 #[.bool false] ∧ Below w.heap.size w W) (RightSt.own (by have := hs2.out; omega))
    (fun c k A X row hs hg hr => ⟨hs.1, hs.2.1, hs.2.2.1.ownR hg (fun r e => (hr r e).2), below_ownR hs.2.2.2 hg (by have := hs2.out; omega) (fun r e => (hr r e).1)⟩)
    (fun s V X hs hb => hs.later hb) (fun c s V X hs hb => ⟨hs.1, hs.2.1, hs.2.2.1.later hb, hs.2.2.2.trans (Below.mono hb hs.2.2.2.size)⟩) ⟨⟨LM.out, LR.out⟩, Q.out, by omega, fun j hj => absurd hj (by omega)⟩
    (fun k a' V => ∃ d x l1 b1 a1 n1 cap1 bx, (preI 0 t)[k]? = some (d, x) ∧ ItemAt w x (.agg #[.bool l1, .string b1, .slice a1 n1 cap1]) ∧ Has V bx 82 #[.bool l1, .string b1, .slice a1 n1 cap1] ∧
      a' = { tmps := #[.agg #[.bool l, .string b, .slice a kn cap], .pointer (some ⟨w.heap.size, 0, none⟩), .pointer (some ⟨w.heap.size + 1, 0, none⟩), .pointer (some ⟨w.heap.size + 1 + 1, 0, none⟩), .int .i64 ((d : Nat) : Int), .pointer (some ⟨bx, 0, none⟩), .agg #[.bool l, .string b, .slice a kn cap], .func (.func 99) #[] #[.pointer (some ⟨w.heap.size + 3, 0, none⟩)], .int .i64 ((d : Nat) : Int), .agg #[.bool l1, .string b1, .slice a1 n1 cap1], undef, undef, undef, undef, undef, undef, undef, undef, undef, undef, undef, undef, undef], defers := [] })
    (fun k a' _ X Y row hs hg hr => by
      obtain ⟨d, x, l1, b1, a1, n1, cap1, bx, h1, h2, h3, e⟩ := hs
      exact ⟨d, x, l1, b1, a1, n1, cap1, bx, h1, h2, h3.ownR hg (fun r e => (hr r e).2), e⟩) ?assign ?body ?done ?stop
  case assign =>
    intro ll k args W K hll hkN hst hE hK
    obtain ⟨d, x, v', h1, rfl, h3⟩ := hE
    obtain ⟨a1, cap1, rfl, _, _, _⟩ := h3.open
    have HST := Lib.hid hst
    have HK := Lib.hid hK
    have H3 := Lib.hid h3
    have H1 := Lib.hid h1
    clear hst hkN hK h3 h1
    have NX := Has.new W 82 #[.bool false, .string ⟨#[]⟩, .slice none 0 0]
    have x0 := NX.cell 0 _ rfl
    have x1 := NX.cell 1 _ rfl
    have x2 := NX.cell 2 _ rfl
    have f0 := NX.frozen 0
    have f1 := NX.frozen 1
    have f2 := NX.frozen 2
    replace NX := Lib.hid NX
    generalize x.list = l1 at *
    generalize x.bytes = b1 at *
    generalize x.kids.length = n1 at *
    gi_wp2_with fail
    have hg := (Below.refl W.heap.size W).alloc (Nat.le_refl _) (.cells #[.bool l1, .string b1, .slice a1 n1 cap1] 82)
    exact HK.out _ _ ((KeepsOthers.alloc _ _).from _) (Kd.grow hg HST.out.2.1.size) (HST.out.later hg) ⟨d, x, l1, b1, a1, n1, cap1, W.heap.size, H1.out, H3.out, Has.new _ _ _, rfl⟩
  case body =>
    rintro ll k a' W hl hlo hkN hst ⟨d, x, l1, b1, a1, n1, cap1, bx, h1, h2, h3, rfl⟩
    have hne := h3.ne hst.1.1 (by decide)
    have hne2 := hst.1.2.ne hst.1.1 (by decide)
    have cM := hst.1.1.cell 0 _ rfl
    have fM := hst.1.1.frozen 0
    have cR := hst.1.2.cell 0 _ rfl
    have fR := hst.1.2.frozen 0
    have e0 := h3.cell 0 _ rfl
    have e1 := h3.cell 1 _ rfl
    have e2 := h3.cell 2 _ rfl
    have hkd := Kd.set (n := w.heap.size) hst.1.1 (by decide) (by omega) 0 (.int .i64 (((k + 1 : Nat)) : Int))
    have LM2 : Has (W.setCell ⟨w.heap.size + 1 + 1, 0, none⟩ (.int .i64 (((k + 1 : Nat)) : Int))) (w.heap.size + 1 + 1) 3 #[.int .i64 (((k + 1 : Nat)) : Int)] := hst.1.1.set 0 _
    have LR2 : Has (W.setCell ⟨w.heap.size + 1 + 1, 0, none⟩ (.int .i64 (((k + 1 : Nat)) : Int))) (w.heap.size + 1) 4 #[.bool false] := hst.1.2.other hne2 _
    have Q2 := hst.2.1.setCell (p := ⟨w.heap.size + 1 + 1, 0, none⟩) (by simp; omega) (.int .i64 (((k + 1 : Nat)) : Int))
    have hk0 : k ≤ 5000 := hst.2.2.1
    have hfit := Lib.hid hst.2.2.2
    have HI2 := Lib.hid (either_any x (.agg #[.bool l1, .string b1, .slice a1 n1 cap1]) (W.setCell ⟨w.heap.size + 1 + 1, 0, none⟩ (.int .i64 (((k + 1 : Nat)) : Int))) (h2.later Q2))
    have hmany := Lib.hid (show ¬ k + 1 ≤ 5000 → okI t = false from fun h => okI_many (by omega))
    have hbad := Lib.hid (show ¬ (d < 16 ∧ (x.list = true → x.bytes = ⟨#[]⟩) ∧ (x.list = false → x.kids.length = 0)) → okI t = false from fun h => okI_not (k := k) (fun hf => h (hf _ h1)))
    have hgood := Lib.hid (show d < 16 → decide ((x.list = true → x.bytes = ⟨#[]⟩) ∧ (x.list = false → x.kids.length = 0)) = true → FitI t k from fun h h' p hp => by
      rw [h1] at hp
      injection hp with hp
      subst hp
      exact ⟨h, of_decide_eq_true h'⟩)
    have hbad1 := Lib.hid (show ¬ d < 16 → okI t = false from fun h => hbad.out (fun hh => h hh.1))
    have hbad2 := Lib.hid (show decide ((x.list = true → x.bytes = ⟨#[]⟩) ∧ (x.list = false → x.kids.length = 0)) = false → okI t = false from fun h => hbad.out (fun hh => by simp only [decide_eq_false_iff_not] at h; exact h hh.2))
    have hkk := Lib.hid (show W2.heap.size ≤ W2.heap.size ∧ w.heap.size + 1 < W2.heap.size from ⟨Nat.le_refl _, by have := hs2.out; omega⟩)
    obtain ⟨R, hR⟩ : ∃ R, decide ((x.list = true → x.bytes = ⟨#[]⟩) ∧ (x.list = false → x.kids.length = 0)) = R := ⟨_, rfl⟩
    rw [hR] at HI2 hgood hbad2
    have hcast : ((k + 1 : Nat) : Int) = (k : Int) + 1 := by omega
    rw [hcast] at hkd LM2 LR2 Q2 HI2
    have hcst := Lib.hid hcast
    have hkI : (k : Int) ≤ 5000 := by omega
    have hk0I : (0 : Int) ≤ (k : Int) := by omega
    have hdI0 : (0 : Int) ≤ (d : Int) := by omega
    have KE := Lib.hid ((KeepsOthers.setCell W ⟨w.heap.size + 1 + 1, 0, none⟩ (.int .i64 ((k : Int) + 1))).from W2.heap.size)
    replace hkd := Lib.hid hkd
    replace LM2 := Lib.hid LM2
    replace LR2 := Lib.hid LR2
    replace Q2 := Lib.hid Q2
    replace hne := Lib.hid hne
    have hneS : ¬ bx = w.heap.size + 1 + 1 := hne.out
    clear hbad h1 h2 h3 hst hR hcast hl hlo hkN
    have hstop : ∀ X : World, KeepsFrom W2.heap.size W X → Has X (w.heap.size + 1) 4 #[.bool false] → Below w.heap.size w X → okI t = false →
        roundN W2.heap.size (Kd w.heap.size) (fun k W => RightSt w t (w.heap.size + 1 + 1) (w.heap.size + 1) k W) (fun c (_ : Nat) W => c = .ret ∧ okI t = false ∧ Has W (w.heap.size + 1) 4 #[.bool false] ∧ Below w.heap.size w W) k W .ret { tmps := #[], defers := [] } (X.setCell ⟨w.heap.size + 1, 0, none⟩ (.bool false)) := fun X h1 h2 h3 h4 =>
      ⟨h1.trans ((KeepsOthers.setCell _ _ _).from _), rfl, h4, h2.set 0 _, h3.setCell (by simp) _⟩
    replace hstop := Lib.hid hstop
    by_cases hk1 : k + 1 ≤ 5000
    · have hk1I : (k : Int) + 1 ≤ 5000 := by omega
      have hb1 : decide (5000 < (k : Int) + 1) = false := by simpa using hk1I
      by_cases hd : d < 16
      · have hdI : (d : Int) < 16 := by omega
        have hb2 : decide (16 ≤ (d : Int)) = false := by simpa using hdI
        gi_wp2_with fail
        refine (callsIn_free (free_round ll) HI2.out).mono ?_
        rintro _ W3 ⟨rfl, q⟩
        have KE3 := Lib.hid (KE.out.trans (⟨q.size, fun k _ _ h _ => (q.block k (Array.getElem?_eq_some_iff.1 h).1).trans h⟩ : KeepsFrom W2.heap.size _ _))
        have kd3 := Lib.hid (hkd.out.trans (Kd.grow q (Q2.out.size)))
        have LM3 := Lib.hid (LM2.out.later q)
        have LR3 := Lib.hid (LR2.out.later q)
        have Q3 := Lib.hid (Q2.out.trans (q.mono Q2.out.size))
        have c3 := LR3.out.cell 0 _ rfl
        have f3 := LR3.out.frozen 0
        clear q HI2 cM fM cR fR e0 e1 e2
        cases R with
        | true =>
          have hg := Lib.hid (hgood.out hd rfl)
          gi_wp2_with fail
          refine ⟨KE3.out, kd3.out, ⟨by rw [hcst.out]; exact LM3.out, LR3.out⟩, Q3.out, hk1, fun j hj => ?_⟩
          by_cases hjk : j = k
          · rw [hjk]; exact hg.out
          · exact hfit.out j (by omega)
        | false =>
          have hb := Lib.hid (hbad2.out rfl)
          gi_wp2_with fail
          exact hstop.out _ KE3.out LR3.out Q3.out hb.out
      · have hb2 : decide (16 ≤ (d : Int)) = true := decide_eq_true (by omega)
        have hb := Lib.hid (hbad1.out hd)
        have c3 := LR2.out.cell 0 _ rfl
        have f3 := LR2.out.frozen 0
        gi_wp2_with fail
        exact hstop.out _ KE.out LR2.out Q2.out hb.out
    · have hb := Lib.hid (hmany.out hk1)
      have hb1 : decide (5000 < (k : Int) + 1) = true := decide_eq_true (by omega)
      have c3 := LR2.out.cell 0 _ rfl
      have f3 := LR2.out.frozen 0
      gi_wp2_with fail
      exact hstop.out _ KE.out LR2.out Q2.out hb.out
  case done =>
    rintro D W hD hst hK
    have hok := Lib.hid (show okI t = true from okI_of hst.2.2.1 hst.2.2.2)
    have LR2 := hst.1.2
    have Q2 := hst.2.1
    have hDR : w.heap.size + 1 ≠ D := by have := hs2.out; omega
    have c3 := LR2.cell 0 _ rfl
    have f3 := LR2.frozen 0
    have hK2 := Lib.hid (show (W.setCell ⟨w.heap.size + 1, 0, none⟩ (.bool true)).heap[D]? = some (.deferred (some [])) from (Below.heap_setCell W ⟨w.heap.size + 1, 0, none⟩ _ D (fun e => hDR e.symm)).trans hK)
    have LR3 := Lib.hid (show Has ((W.setCell ⟨w.heap.size + 1, 0, none⟩ (.bool true)).putObj D (.deferred none)) (w.heap.size + 1) 4 #[.bool true] from (World.putObj_heap_other hDR).trans (LR2.set 0 _))
    have Q3 := Lib.hid (show Below w.heap.size w ((W.setCell ⟨w.heap.size + 1, 0, none⟩ (.bool true)).putObj D (.deferred none)) from (Q2.setCell (by simp) _).trans ⟨rfl, rfl, rfl, by simp, fun k hk => World.putObj_heap_other (by have := hs2.out; omega)⟩)
    clear hst hK LR2 Q2 hDR
    gi_wp2_with fail
    refine ⟨by simp, .inl ⟨_, _, rfl, run_takeDeferred hK2.out, ?_⟩⟩
    have y0 := LR3.out.cell 0 _ rfl
    exact ⟨.bool true, by simp [results, Tryz.results66, go_sem, y0], by rw [hok.out], Q3.out⟩
  case stop =>
    rintro D c k W hD hk ⟨rfl, h1, h2, h3⟩ hK
    have hDR : w.heap.size + 1 ≠ D := by have := hs2.out; omega
    have LR3 := Lib.hid (show Has (W.putObj D (.deferred none)) (w.heap.size + 1) 4 #[.bool false] from (World.putObj_heap_other hDR).trans h2)
    have Q3 := Lib.hid (show Below w.heap.size w (W.putObj D (.deferred none)) from h3.trans ⟨rfl, rfl, rfl, by simp, fun k hk => World.putObj_heap_other (by have := hs2.out; omega)⟩)
    have hok := Lib.hid h1
    replace hK := Lib.hid hK
    clear h1 h2 h3 hDR
    gi_wp2_with fail
    refine ⟨by simp, .inl ⟨_, _, rfl, run_takeDeferred hK.out, ?_⟩⟩
    have y0 := LR3.out.cell 0 _ rfl
    exact ⟨.bool false, by simp [results, Tryz.results66, go_sem, y0], by rw [hok.out], Q3.out⟩
end Go.Proofs.YtadfkiebblmfkaaGreatDoor
