/- Keys: IndexFunc, ContainsFunc of stray; fit. Conditions: the keys lie in memory. -/
import Derived.Test.YtbkgipggblphlaaAcR
namespace Go.Proofs.Ytbkgipggblphlaa
open Go Go.RowKit
attribute [local go_sem] Oper.semAt_some Grows wide_fn

/-- The first place of a key that is meant, or -1. -/
def idxK (p : Ky → Bool) (l : List Ky) : Int := if l.any p = true then (l.findIdx p : Int) else -1
theorem idxK_hit {p : Ky → Bool} {l : List Ky} {k : Nat} {x : Ky} (hx : l[k]? = some x) (hp : p x = true) (h : ∀ (j : Nat) (y : Ky), j < k → l[j]? = some y → p y = false) : idxK p l = (k : Int) := by
  have hk := (List.getElem?_eq_some_iff.1 hx).1
  have he := (List.getElem?_eq_some_iff.1 hx).2
  unfold idxK
  rw [if_pos (List.any_eq_true.2 ⟨x, List.mem_of_getElem? hx, hp⟩)]
  have : l.findIdx p = k := by
    rw [List.findIdx_eq hk]
    exact ⟨by rw [he]; exact hp, fun j hj => h j _ hj (List.getElem?_eq_getElem (by omega))⟩
  rw [this]
theorem idxK_no {p : Ky → Bool} {l : List Ky} (h : ∀ (j : Nat) (y : Ky), l[j]? = some y → p y = false) : idxK p l = -1 := by
  unfold idxK
  rw [if_neg]
  intro ha
  obtain ⟨x, hx, hp⟩ := List.any_eq_true.1 ha
  obtain ⟨j, hj⟩ := List.mem_iff_getElem?.1 hx
  rw [h j x hj] at hp
  cases hp
theorem idxK_ge (p : Ky → Bool) (l : List Ky) : decide (0 ≤ idxK p l) = l.any p := by
  unfold idxK
  by_cases h : l.any p = true
  · rw [if_pos h, h]; exact decide_eq_true (by omega)
  · rw [if_neg h, Bool.eq_false_iff.2 h]; rfl
set_option maxRecDepth 100000 in
set_option maxHeartbeats 4000000 in
theorem kindexf_any (W : World) (sv : Value) (l : List Ky) (hs : KeysAt W sv l) :
    Calls Try.prog 48 #[sv, .func (.func 28) #[] #[]] W fun e w' => e = .returned (.int .i64 (idxK strayB l)) ∧ Below W.heap.size W w' := by
  obtain ⟨a, cap, rfl, hnc, hcm⟩ := hs.shape
  have HS := Lib.hid hs
  obtain ⟨n, hn⟩ : ∃ n, l.length = n := ⟨_, rfl⟩
  rw [hn] at HS hnc ⊢
  have HN := Lib.hid hn
  have hlc := Lib.hid (Nat.le_trans hnc hcm)
  clear hs hnc hcm hn
  have hfin := Lib.hid (show ∀ X v, Below W.heap.size W X → idxK strayB l = v → (Ending.returned (.int .i64 v) = .returned (.int .i64 (idxK strayB l)) ∧ Below W.heap.size W X) from fun X v hX h => ⟨by rw [h], hX⟩)
  obtain ⟨Post, hPost⟩ : ∃ Post : Ending → World → Prop, (fun (e : Ending) (w' : World) => e = .returned (.int .i64 (idxK strayB l)) ∧ Below W.heap.size W w') = Post := ⟨_, rfl⟩
  replace hfin := Lib.hid (show ∀ X v, Below W.heap.size W X → idxK strayB l = v → Post (.returned (.int .i64 v)) X by rw [← hPost]; exact hfin.out)
  rw [hPost]
  clear hPost
  go_enter Try.func48, Try.ntmps48
  go_wp2_with fail
  go_loopw [8] (fun i wr => ∃ k : Nat, k ≤ n ∧ i = .int .i64 (k : Int) ∧ (∀ (j : Nat) (y : Ky), j < k → l[j]? = some y → strayB y = false) ∧ Below W.heap.size W wr) (fun i _ => n - (intOf i).toNat)
  case atStart => exact ⟨0, Nat.zero_le _, rfl, fun j x h => absurd h (by omega), Below.refl _ _⟩
  case round =>
    obtain ⟨k, hk, rfl, hlt, hq⟩ := hrel
    have HLT := Lib.hid hlt
    have HQ := Lib.hid hq
    clear hlt hq
    by_cases hkn : k < n
    · have hknI : (k : Int) < (n : Int) := by omega
      have hk0 : (0 : Int) ≤ (k : Int) := by omega
      have hkb : (k : Int) ≤ 9223372036854775806 := by have := hlc.out; omega
      obtain ⟨x, hx⟩ : ∃ x, l[k]? = some x := ⟨_, List.getElem?_eq_getElem (by have := HN.out; omega)⟩
      obtain ⟨b, rfl, ax⟩ := (HS.out.later HQ.out).at hx
      have LX := Lib.hid ax.load
      have K3 := Lib.hid (stray_any wr x (HS.out.ok hx))
      have HX := Lib.hid hx
      have HK := Lib.hid hkn
      clear hx hk hkn ax
      generalize kyC x = cx at *
      cases hp : strayB x
      · rw [hp] at K3
        have HP := Lib.hid hp
        clear hp
        go_wp2_with (first | (with_reducible refine wpList_load_known rfl _ (.tmp 14) rfl _ rfl _ LX.out ?_) | (go_at_call 28; refine K3.out.mono ?_; rintro e w1 ⟨rfl, hb1⟩))
        have HE := Lib.hid (HQ.out.trans (hb1.mono HQ.out.size))
        go_wp2_with fail
        go_roundw
        case rel =>
          refine ⟨k + 1, by have := HK.out; omega, by simp, fun j y hj hy => ?_, HE.out⟩
          by_cases hjk : j < k
          · exact HLT.out j y hjk hy
          · obtain rfl : j = k := by omega
            rw [HX.out] at hy
            injection hy with hy
            subst hy
            exact HP.out
        case measure => have := HK.out; simp [intOf]; omega
      · rw [hp] at K3
        have HP := Lib.hid hp
        clear hp
        go_wp2_with (first | (with_reducible refine wpList_load_known rfl _ (.tmp 14) rfl _ rfl _ LX.out ?_) | (go_at_call 28; refine K3.out.mono ?_; rintro e w1 ⟨rfl, hb1⟩))
        have HE := Lib.hid (HQ.out.trans (hb1.mono HQ.out.size))
        go_wp2_with fail
        exact hfin.out _ _ HE.out (idxK_hit HX.out HP.out HLT.out)
    · have hknI : ¬ (k : Int) < (n : Int) := by omega
      have hno := Lib.hid (show idxK strayB l = -1 from idxK_no (fun j y hy => HLT.out j y (by have := (List.getElem?_eq_some_iff.1 hy).1; have := HN.out; omega) hy))
      clear hk hkn
      go_wp2_with fail
      exact hfin.out _ _ HQ.out hno.out
set_option maxRecDepth 100000 in
set_option maxHeartbeats 4000000 in
theorem kcontf_any (W : World) (sv : Value) (l : List Ky) (hs : KeysAt W sv l) :
    Calls Try.prog 27 #[sv, .func (.func 28) #[] #[]] W fun e w' => e = .returned (.bool (l.any strayB)) ∧ Below W.heap.size W w' := by
  have HC := Lib.hid (kindexf_any W sv l hs)
  rw [← idxK_ge]
  obtain ⟨a, cap, rfl, _, _⟩ := hs.shape
  clear hs
  generalize idxK strayB l = r at *
  generalize l.length = n at *
  go_enter Try.func27, Try.ntmps27
  go_wp2_with fail
  refine HC.out.mono ?_
  rintro e w1 ⟨rfl, hb1⟩
  go_wp2_with fail
  go_ret
  exact ⟨rfl, hb1⟩
end Go.Proofs.Ytbkgipggblphlaa
