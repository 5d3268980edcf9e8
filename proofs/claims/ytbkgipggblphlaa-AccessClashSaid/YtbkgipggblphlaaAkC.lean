/- The laws' helper Keys. Conditions: the raw numbers lie in memory. -/
import Derived.Test.YtbkgipggblphlaaAkA
import Derived.Test.YtbkgipggblphlaaRawA
import Derived.Test.YtbkgipggblphlaaGhost2
namespace Go.Proofs.Ytbkgipggblphlaa
open Go Go.RowKit
attribute [local go_sem] Oper.semAt_some Grows wide_fn

def kfN (p : Int × Int) : Ky := keyN p.1 p.2
/-- The keys that raw numbers speak of. -/
def keysN (zs : List (Int × Int)) : List Ky := (zs.take 15).map kfN
theorem keysN_ok (zs : List (Int × Int)) : ∀ x ∈ keysN zs, KyOk x := fun x hx => by
  obtain ⟨p, _, rfl⟩ := List.mem_map.1 hx
  exact keyN_ok _ _
theorem keysN_len (zs : List (Int × Int)) : (keysN zs).length ≤ 15 := by
  unfold keysN
  rw [List.length_map, List.length_take]
  omega
/-- What is known while a key is put behind the others. -/
def UKK (w : World) (base : Nat) (ov : Value) (l : List Ky) (x : Ky) (f : Nat → Bool) (g : Nat → Value) (w' : World) : Prop :=
  Below base w w' ∧ (f 12 = true → ∃ N, g 12 = .slice (some ⟨N, 0, none⟩) 1 1 ∧ (f 13 = false → KeysAt w' (g 12) [x])) ∧ (f 13 = false → KRow w' base ov l) ∧ (f 13 = true → KRow w' base (g 13) (l ++ [x])) ∧ (f 14 = true → f 13 = true → g 14 = g 13)
set_option maxRecDepth 100000 in
set_option maxHeartbeats 8000000 in
theorem keys_any (W : World) (v : Value) (zs : List (Int × Int)) (hr : RawAt W v zs) : Calls Try.prog 11 #[v] W fun e w' => ∃ v', e = .returned v' ∧ KRow w' W.heap.size v' (keysN zs) ∧ Below W.heap.size W w' := by
  have hmx : Try.prog.follows .mixedOrders = true := by kernel_rfl
  have HR := Lib.hid hr
  obtain ⟨a, cap, rfl, hnc, hcm, _⟩ := hr
  obtain ⟨n, hn⟩ : ∃ n, zs.length = n := ⟨_, rfl⟩
  rw [hn] at HR hnc ⊢
  have HN := Lib.hid hn
  have hlc := Lib.hid (Nat.le_trans hnc hcm)
  have HF := Lib.hid (show ∀ j, (j = 15 ∨ (j = n ∧ n ≤ 15)) → (zs.take j).map kfN = keysN zs from fun j h => by
    unfold keysN
    rcases h with rfl | ⟨rfl, h⟩
    · rfl
    · rw [List.take_of_length_le (by omega), List.take_of_length_le (by omega)])
  clear hnc hcm hn
  go_enter Try.func11, Try.ntmps11
  go_wp2_with fail
  go_loopw [3, 4] (fun ov i wr => ∃ k : Nat, i = .int .i64 (k : Int) ∧ k ≤ n ∧ k ≤ 15 ∧ KRow wr W.heap.size ov ((zs.take k).map kfN) ∧ Below W.heap.size W wr) (fun _ i _ => n - (intOf i).toNat)
  case atStart => exact ⟨0, rfl, by omega, by omega, KRow.nil _ _, Below.refl _ _⟩
  case round =>
    obtain ⟨k, rfl, hkn, hk15, hrow, hq⟩ := hrel
    obtain ⟨ov, hov⟩ : ∃ ov, ov = u3 := ⟨_, rfl⟩
    subst hov
    obtain ⟨w0, hw0⟩ : ∃ w0, w0 = wr := ⟨_, rfl⟩
    subst hw0
    have HQ := Lib.hid hq
    have HROW := Lib.hid hrow
    have HK := Lib.hid (And.intro hkn hk15)
    clear hq hrow
    by_cases hk : k < n ∧ k < 15
    · have hknI : (k : Int) < (n : Int) := by omega
      have hk15I : (k : Int) < 15 := by omega
      have hk0 : (0 : Int) ≤ (k : Int) := by omega
      obtain ⟨p, hp⟩ : ∃ p, zs[k]? = some p := ⟨_, List.getElem?_eq_getElem (by have := HN.out; omega)⟩
      obtain ⟨a', cap', e', _, _, hall⟩ := HR.out
      injection e' with e1 e2 e3
      subst e1 e3
      obtain ⟨i1, i2, b, rfl, _⟩ := hall k p hp
      have HC := Lib.hid (fun (X : World) (hX : Below W.heap.size W X) => (show X.cell? (b.add (k * 2)) = some (.int .i64 p.1) ∧ X.cell? ⟨(b.add (k * 2)).block, (b.add (k * 2)).off + 1, none⟩ = some (.int .i64 p.2) from by
        obtain ⟨_, _, e', _, _, hall'⟩ := HR.out.later hX
        injection e' with e1 _ _
        subst e1
        obtain ⟨_, _, b', e'', h1, h2⟩ := hall' k p hp
        injection e'' with e''
        subst e''
        exact ⟨h1, h2⟩))
      have KY := Lib.hid (fun X => key10_any X p.1 p.2 i1 i2)
      have HNX := Lib.hid (show (zs.take (k + 1)).map kfN = (zs.take k).map kfN ++ [keyN p.1 p.2] by
        rw [List.take_add_one, List.map_append, hp]
        rfl)
      have HXO := Lib.hid (keyN_ok p.1 p.2)
      have HLL := Lib.hid (show ((zs.take k).map kfN).length = k by rw [List.length_map, List.length_take]; have := HN.out; omega)
      have hkk := Lib.hid hk
      clear hk hkn hk15 e2 hall hp
      generalize (zs.take k).map kfN = l at *
      generalize keyN p.1 p.2 = x at *
      generalize p.1 = p1 at *
      generalize p.2 = p2 at *
      go_wp2_with fail
      refine Late.wp_region_ghost [some ov, some (.slice (some b) n cap), some (.int .i64 (k : Int)), some (.pointer (some (b.add (k * 2)))), some (.pointer (some (b.add (k * 2)))), some (.int .i64 p1), some (.slice (some b) n cap), some (.int .i64 (k : Int)), some (.pointer (some (b.add (k * 2)))), some (.pointer (some ⟨(b.add (k * 2)).block, (b.add (k * 2)).off + 1, none⟩)), some (.int .i64 p2), some (.agg (kyC x)), none, none, none] [[], [], [], [1, 2], [1, 2, 3], [1, 2, 3, 4], [], [], [6, 7], [6, 7, 8], [6, 7, 8, 9], [1, 2, 3, 4, 5, 6, 7, 8, 9, 10], [1, 2, 3, 4, 5, 6, 7, 8, 9, 10, 11], [0, 1, 2, 3, 4, 5, 6, 7, 8, 9, 10, 11, 12], [0, 1, 2, 3, 4, 5, 6, 7, 8, 9, 10, 11, 12, 13]] (UKK w0 W.heap.size ov l x)
        (by kernel_rfl) (by kernel_rfl) (by kernel_rfl) ?_ ?_ ?_ ?_
      · rintro f g wa wb ⟨h1, h2, h3, h4, h5⟩ hb
        exact ⟨h1.trans (hb.mono (Nat.le_trans HQ.out.size h1.size)), fun h => let ⟨N, e, hN⟩ := h2 h; ⟨N, e, fun h' => (hN h').later hb⟩, fun h => (h3 h).later hb, fun h => (h4 h).later hb, h5⟩
      · rintro f f' g g' wa h ⟨h1, h2, h3, h4, h5⟩
        have a12 := h 12 rfl
        have a13 := h 13 rfl
        have a14 := h 14 rfl
        refine ⟨h1, fun e => ?_, fun e => h3 (a13.1.trans e), fun e => ?_, fun e e' => ?_⟩
        · obtain ⟨N, e1, e2⟩ := h2 (a12.1.trans e)
          exact ⟨N, a12.2.symm.trans e1, fun h' => by rw [← a12.2]; exact e2 (a13.1.trans h')⟩
        · rw [← a13.2]; exact h4 (a13.1.trans e)
        · rw [← a14.2, ← a13.2]; exact h5 (a14.1.trans e) (a13.1.trans e')
      · exact ⟨(Below.refl _ _).drew, by simp, fun _ => HROW.out.later (Below.refl _ _).drew, by simp, by simp⟩
      rintro f g y hU0 Dn
      have hU := Lib.hid hU0
      have q1 := HQ.out.trans (hU0.1.mono (Nat.le_refl _))
      have kc0 := (HC.out y q1).1
      have kc1 := (HC.out y q1).2
      have QY := Lib.hid q1
      clear hU0 q1
      refine GW.known _ rfl (fun hd hf => ?_) ?_
      · go_wp2
        exact ⟨rfl, rfl, Below.refl _ _⟩
      simp only [Act.put, List.setIfInBounds_toArray, List.set_cons_succ, List.set_cons_zero]
      refine GW.known _ rfl (fun hd hf => ?_) ?_
      · go_wp2
        exact ⟨rfl, rfl, Below.refl _ _⟩
      simp only [Act.put, List.setIfInBounds_toArray, List.set_cons_succ, List.set_cons_zero]
      refine GW.known _ rfl (fun hd hf => ?_) ?_
      · go_wp2
        exact ⟨rfl, rfl, Below.refl _ _⟩
      simp only [Act.put, List.setIfInBounds_toArray, List.set_cons_succ, List.set_cons_zero]
      refine GW.known _ rfl (fun hd hf => ?_) ?_
      · go_wp2
        exact ⟨rfl, rfl, Below.refl _ _⟩
      simp only [Act.put, List.setIfInBounds_toArray, List.set_cons_succ, List.set_cons_zero]
      refine GW.known _ rfl (fun hd hf => ?_) ?_
      · go_wp2
        exact ⟨rfl, rfl, Below.refl _ _⟩
      simp only [Act.put, List.setIfInBounds_toArray, List.set_cons_succ, List.set_cons_zero]
      refine GW.known _ rfl (fun hd hf => ?_) ?_
      · go_wp2
        exact ⟨rfl, rfl, Below.refl _ _⟩
      simp only [Act.put, List.setIfInBounds_toArray, List.set_cons_succ, List.set_cons_zero]
      refine GW.known _ rfl (fun hd hf => ?_) ?_
      · go_wp2
        exact ⟨rfl, rfl, Below.refl _ _⟩
      simp only [Act.put, List.setIfInBounds_toArray, List.set_cons_succ, List.set_cons_zero]
      refine GW.known _ rfl (fun hd hf => ?_) ?_
      · go_wp2
        exact ⟨rfl, rfl, Below.refl _ _⟩
      simp only [Act.put, List.setIfInBounds_toArray, List.set_cons_succ, List.set_cons_zero]
      refine GW.known _ rfl (fun hd hf => ?_) ?_
      · go_wp2
        exact ⟨rfl, rfl, Below.refl _ _⟩
      simp only [Act.put, List.setIfInBounds_toArray, List.set_cons_succ, List.set_cons_zero]
      refine GW.known _ rfl (fun hd hf => ?_) ?_
      · go_wp2
        exact ⟨rfl, rfl, Below.refl _ _⟩
      simp only [Act.put, List.setIfInBounds_toArray, List.set_cons_succ, List.set_cons_zero]
      refine GW.known _ rfl (fun hd hf => ?_) ?_
      · go_wp2
        exact ⟨rfl, rfl, Below.refl _ _⟩
      simp only [Act.put, List.setIfInBounds_toArray, List.set_cons_succ, List.set_cons_zero]
      refine GW.known _ rfl (fun hd hf => ?_) ?_
      · go_wp2_with fail
        refine (KY.out _).mono ?_
        rintro e u ⟨rfl, hb⟩
        go_wp2
        exact ⟨rfl, rfl, hb⟩
      simp only [Act.put, List.setIfInBounds_toArray, List.set_cons_succ, List.set_cons_zero]
      refine GW.open rfl (fun hd hf => ?_) ?_
      · have f13 : f 13 = false := by
          cases h : f 13 with
          | false => rfl
          | true => have := Dn 13 h 12 (by decide); rw [hf] at this; cases this
        have f14 : f 14 = false := by
          cases h : f 14 with
          | false => rfl
          | true => have := Dn 14 h 12 (by decide); rw [hf] at this; cases this
        have hm := keys_made y [x] (by intro z hz; simp at hz; subst hz; exact HXO.out) (by simp)
        have qa := (Below.refl y.heap.size y).alloc (Nat.le_refl _) (.cells (flatKy [x]).toArray 31)
        have K := Lib.hid (show UKK w0 W.heap.size ov l x (upd f 12 true) (upd g 12 (.slice (some ⟨y.heap.size, 0, none⟩) 1 1)) (y.alloc (.cells (flatKy [x]).toArray 31)) from
          ⟨hU.out.1.trans (qa.mono QY.out.size), fun _ => ⟨y.heap.size, upd_self g 12 _, fun _ => by rw [upd_self]; exact hm⟩, fun _ => (hU.out.2.2.1 f13).later qa, fun h => absurd ((upd_ne f true (show (13 : Nat) ≠ 12 by decide)).symm.trans h) (by rw [f13]; simp), fun h => absurd ((upd_ne f true (show (14 : Nat) ≠ 12 by decide)).symm.trans h) (by rw [f14]; simp)⟩)
        clear hm qa
        refine wpList_build_k1 rfl (.tmp 26) rfl x rfl ?_
        go_wp2
        exact ⟨rfl, K.out⟩
      simp only [Act.put, List.setIfInBounds_toArray, List.set_cons_succ, List.set_cons_zero]
      refine GW.open rfl (fun hd hf => ?_) ?_
      · have f14 : f 14 = false := by
          cases h : f 14 with
          | false => rfl
          | true => have := Dn 14 h 13 (by decide); rw [hf] at this; cases this
        obtain ⟨N, eN, hN⟩ := hU.out.2.1 (hd 12 (by decide))
        obtain ⟨v', w', happ, hrow', _, hbel⟩ := append_keys y W.heap.size ov l (hU.out.2.2.1 hf) QY.out.size (g 12) [x] (hN hf) (by have := HLL.out; have := HK.out; simp; omega)
        have K := Lib.hid (show UKK w0 W.heap.size ov l x (upd f 13 true) (upd g 13 v') w' from
          ⟨hU.out.1.trans hbel, fun _ => ⟨N, (upd_ne g _ (show (12 : Nat) ≠ 13 by decide)).trans eN, fun h => absurd ((upd_self f 13 true).symm.trans h) (by simp)⟩, fun h => absurd ((upd_self f 13 true).symm.trans h) (by simp), fun _ => by rw [upd_self]; exact hrow', fun h => absurd ((upd_ne f true (show (14 : Nat) ≠ 13 by decide)).symm.trans h) (by rw [f14]; simp)⟩)
        clear hrow' hbel hN eN
        refine wpList_append_runK rfl (.tmp 15) (.tmp 27) 22 rfl _ _ _ rfl rfl happ ?_
        go_wp2
        exact ⟨rfl, K.out⟩
      simp only [Act.put, List.setIfInBounds_toArray, List.set_cons_succ, List.set_cons_zero]
      refine GW.open rfl (fun hd hf => ?_) ?_
      · have e13 := hd 13 (by decide)
        have K := Lib.hid (show UKK w0 W.heap.size ov l x (upd f 14 true) (upd g 14 (g 13)) y from
          ⟨hU.out.1, fun h => let ⟨N, e, hN⟩ := hU.out.2.1 (hd 12 (by decide)); ⟨N, (upd_ne g _ (show (12 : Nat) ≠ 14 by decide)).trans e, fun h' => by rw [upd_ne g _ (show (12 : Nat) ≠ 14 by decide)]; exact hN ((upd_ne f true (show (13 : Nat) ≠ 14 by decide)).symm.trans h')⟩, fun h => hU.out.2.2.1 ((upd_ne f true (show (13 : Nat) ≠ 14 by decide)).symm.trans h), fun h => by rw [upd_ne g _ (show (13 : Nat) ≠ 14 by decide)]; exact hU.out.2.2.2.1 e13, fun _ _ => by rw [upd_self, upd_ne g _ (show (13 : Nat) ≠ 14 by decide)]⟩)
        go_wp2
        exact ⟨rfl, K.out⟩
      simp only [Act.put, List.setIfInBounds_toArray, List.set_cons_succ, List.set_cons_zero]
      refine GW.nil (fun hall => ?_)
      have e13 := hall 13 (by omega)
      have O13 := Lib.hid (hU.out.2.2.2.1 e13)
      have E14 := hU.out.2.2.2.2 (hall 14 (by omega)) e13
      rw [E14]
      have QF := Lib.hid QY.out
      clear hU Dn hall E14 e13 kc0 kc1
      generalize g 13 = v9 at *
      generalize g 12 = v8 at *
      go_wp2
      go_roundw
      case rel => exact ⟨k + 1, by simp, by have := hkk.out; omega, by have := hkk.out; omega, by rw [HNX.out]; exact O13.out, QF.out⟩
      case measure => have := hkk.out; simp [intOf]; omega
    · by_cases h1 : k < n
      · obtain rfl : k = 15 := by have := HK.out; omega
        have hI : (15 : Int) < (n : Int) := by omega
        have R := Lib.hid (show KRow w0 W.heap.size ov (keysN zs) from by have h := HROW.out; rw [HF.out 15 (.inl rfl)] at h; exact h)
        go_wp2_with fail
        go_ret
        exact ⟨_, rfl, R.out, HQ.out⟩
      · obtain rfl : k = n := by have := HK.out; omega
        have hnn : ¬ (k : Int) < (k : Int) := by omega
        have R := Lib.hid (show KRow w0 W.heap.size ov (keysN zs) from by have h := HROW.out; rw [HF.out k (.inr ⟨rfl, HK.out.2⟩)] at h; exact h)
        go_wp2_with fail
        go_ret
        exact ⟨_, rfl, R.out, HQ.out⟩
end Go.Proofs.Ytbkgipggblphlaa
