/- Part. -/
import Derived.Test.YtnkhmgmganejmaaGreatDoorT15
import Derived.Test.YtnkhmgmganejmaaGreatDoorT08
import Derived.OwnWalkIn
set_option maxRecDepth 100000
set_option maxHeartbeats 16000000
namespace Go.Proofs.YtnkhmgmganejmaaGreatDoor
open Go Go.RowKit
attribute [local go_sem] Oper.semAt_some Grows wide_fn eq4
theorem room_ret (a : Option Addr) (n cap : Nat) (m : Int) (hn : n ≤ 100000) (hm0 : 0 ≤ m) (hm : m ≤ 100000) : Ret Tryz.prog 59 #[.slice a n cap, .int .i64 m] (.int .i64 (m - (n : Int))) := by
 refine Ret.of_same fun w => ?_
 have h0 : (0 : Int) ≤ (n : Int) := by omega
 have h1 : (n : Int) ≤ 100000 := by omega
 clear hn
 go_enter Tryz.func59, Tryz.ntmps59
 go_wp2
 go_ret
 exact ⟨rfl, rfl⟩
theorem place_ret (a : Option Addr) (n cap : Nat) (m : Int) (hn : n ≤ 100000) (hm0 : 0 ≤ m) (hm : m ≤ 100000) : Ret Tryz.prog 30 #[.slice a n cap, .int .i64 m] (.int .i64 ((n : Int) - m)) := by
 refine Ret.of_same fun w => ?_
 have h0 : (0 : Int) ≤ (n : Int) := by omega
 have h1 : (n : Int) ≤ 100000 := by omega
 clear hn
 go_enter Tryz.func30, Tryz.ntmps30
 go_wp2
 go_ret
 exact ⟨rfl, rfl⟩
def askN (n : Nat) (k least below : Int) : Int := if 1024 < n ∨ k < least then 1 else if (n : Int) - below < k then 40 else 0
theorem asked_ret (a : Option Addr) (n cap : Nat) (k least below : Int) (hn : n ≤ 100000) (hl : 0 ≤ least ∧ least ≤ 1) (hb : 0 ≤ below ∧ below ≤ 1) :
  Ret Tryz.prog 29 #[.slice a n cap, .int .i64 k, .int .i64 least, .int .i64 below] (.int .i64 (askN n k least below)) := by
 intro w
 have HR := hid (room_ret a n cap 1024 hn (by decide) (by decide))
 obtain ⟨l0, l1⟩ := hl
 obtain ⟨b0, b1⟩ := hb
 have h0 : (0 : Int) ≤ (n : Int) := by omega
 have h1 : (n : Int) ≤ 100000 := by omega
 unfold askN
 by_cases c1 : 1024 < n
 ·rw [if_pos (.inl c1)]
  have c1' : (1024 : Int) - (n : Int) < 0 := by omega
  clear hn c1
  go_enter Tryz.func29, Tryz.ntmps29
  go_wp2_with fail
  refine (HR.out _).mono ?_
  rintro e w1 ⟨rfl, q1⟩
  go_wp2
  go_ret
  exact ⟨rfl, q1⟩
 ·have c1' : ¬ (1024 : Int) - (n : Int) < 0 := by omega
  by_cases c2 : k < least
  ·rw [if_pos (.inr c2)]
   clear hn c1
   go_enter Tryz.func29, Tryz.ntmps29
   go_wp2_with fail
   refine (HR.out _).mono ?_
   rintro e w1 ⟨rfl, q1⟩
   go_wp2
   go_ret
   exact ⟨rfl, q1⟩
  ·rw [if_neg (by omega)]
   by_cases c3 : (n : Int) - below < k
   ·rw [if_pos c3]
    clear hn c1
    go_enter Tryz.func29, Tryz.ntmps29
    go_wp2_with fail
    refine (HR.out _).mono ?_
    rintro e w1 ⟨rfl, q1⟩
    go_wp2
    go_ret
    exact ⟨rfl, q1⟩
   ·rw [if_neg c3]
    clear hn c1
    go_enter Tryz.func29, Tryz.ntmps29
    go_wp2_with fail
    refine (HR.out _).mono ?_
    rintro e w1 ⟨rfl, q1⟩
    go_wp2
    go_ret
    exact ⟨rfl, q1⟩
theorem own_words (W : World) (sv : Value) (l : List Nat) (hs : WdsAt W sv l) (hl : l.length ≤ 100000) :
  Calls Tryz.prog 35 #[sv] W fun e w' => ∃ v', e = .returned v' ∧ WdRow w' W.heap.size v' l ∧ Below W.heap.size W w' := by
 obtain ⟨v', w', happ, hrow, _, hb⟩ := append_words W W.heap.size (.slice none 0 0) [] (WdRow.nil W _) (Nat.le_refl _) sv l hs (by simpa using hl)
 have HR := hid hrow
 have HB := hid hb
 clear hrow hb hl
 obtain ⟨a, cap, rfl, _, _⟩ := hs.shape
 clear hs
 obtain ⟨n, hn⟩ : ∃ n, l.length = n := ⟨_, rfl⟩
 rw [hn] at happ ⊢
 clear hn
 go_enter Tryz.func35, Tryz.ntmps35
 go_wp2_with (at_builtin; refine wpList_append_runW rfl (.const (.slice none 0 0)) (.tmp 3) 27 rfl _ _ _ rfl rfl happ ?_)
 go_ret
 exact ⟨_, rfl, HR.out, HB.out⟩
theorem WdIn.four {W : World} {p : Addr} {x : Nat} (h : WdIn W p x) : W.cell? p = some (.int .u64 (lim x 0)) ∧ W.cell? ⟨p.block, p.off + 1, none⟩ = some (.int .u64 (lim x 1)) ∧ W.cell? ⟨p.block, p.off + 2, none⟩ = some (.int .u64 (lim x 2)) ∧ W.cell? ⟨p.block, p.off + 3, none⟩ = some (.int .u64 (lim x 3)) :=
 ⟨by have := h 0 _ rfl; simpa [Addr.add] using this, h 1 _ rfl, h 2 _ rfl, h 3 _ rfl⟩
theorem lim_same (a b : Nat) (ha : W256 a) (hb : W256 b) : (lim a 0 == lim b 0 && lim a 1 == lim b 1 && lim a 2 == lim b 2 && lim a 3 == lim b 3) = decide (a = b) := by
 by_cases h : a = b
 ·subst h; simp
 ·rw [decide_eq_false h]
  refine Bool.eq_false_iff.2 fun e => h ?_
  simp only [Bool.and_eq_true, beq_iff_eq] at e
  exact lim_ext ha hb fun k hk => by
   rcases (show k = 0 ∨ k = 1 ∨ k = 2 ∨ k = 3 by omega) with rfl | rfl | rfl | rfl
   ·exact e.1.1.1
   ·exact e.1.1.2
   ·exact e.1.2
   ·exact e.2
theorem WdsAt.at4 {W : World} {b : Addr} {n cap : Nat} {l : List Nat} (h : WdsAt W (.slice (some b) n cap) l) {i : Nat} {x : Nat} (hx : l[i]? = some x) :
  W.cell? (b.add (i * 4)) = some (.int .u64 (lim x 0)) ∧ W.cell? ⟨(b.add (i * 4)).block, (b.add (i * 4)).off + 1, none⟩ = some (.int .u64 (lim x 1)) ∧ W.cell? ⟨(b.add (i * 4)).block, (b.add (i * 4)).off + 2, none⟩ = some (.int .u64 (lim x 2)) ∧ W.cell? ⟨(b.add (i * 4)).block, (b.add (i * 4)).off + 3, none⟩ = some (.int .u64 (lim x 3)) := (h.in hx).four
theorem sameW_snoc {a b : List Nat} {n : Nat} (ha : a.length = n) (hb : b.length = n) (h : ∀ (j : Nat) (x y : Nat), a[j]? = some x → b[j]? = some y → x = y) : a = b := by
 refine List.ext_getElem? fun j => ?_
 by_cases hj : j < n
 ·rw [List.getElem?_eq_getElem (by omega), List.getElem?_eq_getElem (by omega)]
  exact congrArg some (h j _ _ (List.getElem?_eq_getElem (by omega)) (List.getElem?_eq_getElem (by omega)))
 ·rw [List.getElem?_eq_none (by omega), List.getElem?_eq_none (by omega)]
theorem same_words (W : World) (sa sb : Value) (la lb : List Nat) (ha : WdsAt W sa la) (hb : WdsAt W sb lb) :
  Calls Tryz.prog 13 #[sa, sb] W fun e w' => e = .returned (.bool (decide (la = lb))) ∧ Below W.heap.size W w' := by
 have hmx : Tryz.prog.follows .mixedOrders = true := by kernel_rfl
 obtain ⟨a, ca, rfl, ha1, ha2⟩ := ha.shape
 obtain ⟨b, cb, rfl, hb1, hb2⟩ := hb.shape
 have HA := hid ha
 have HB := hid hb
 obtain ⟨m, hm⟩ : ∃ m, la.length = m := ⟨_, rfl⟩
 obtain ⟨n, hn⟩ : ∃ n, lb.length = n := ⟨_, rfl⟩
 rw [hm] at HA ha1 ⊢
 rw [hn] at HB hb1 ⊢
 have HM := hid hm
 have HN := hid hn
 have hlc := hid (Nat.le_trans ha1 ha2)
 clear ha hb hm hn ha1 ha2 hb1 hb2
 by_cases hmn : m = n
 ·subst hmn
  have hres := hid (show ∀ X, Below W.heap.size W X → (∀ (j : Nat) (x y : Nat), la[j]? = some x → lb[j]? = some y → x = y) → (Ending.returned (.bool true) = .returned (.bool (decide (la = lb))) ∧ Below W.heap.size W X) from fun X hX h => ⟨by rw [decide_eq_true (sameW_snoc HM.out HN.out h)], hX⟩)
  have hno := hid (show ∀ X, Below W.heap.size W X → la ≠ lb → (Ending.returned (.bool false) = .returned (.bool (decide (la = lb))) ∧ Below W.heap.size W X) from fun X hX h => ⟨by rw [decide_eq_false h], hX⟩)
  obtain ⟨Post, hPost⟩ : ∃ Post : Ending → World → Prop, (fun (e : Ending) (w' : World) => e = .returned (.bool (decide (la = lb))) ∧ Below W.heap.size W w') = Post := ⟨_, rfl⟩
  replace hres := hid (show ∀ X, Below W.heap.size W X → (∀ (j : Nat) (x y : Nat), la[j]? = some x → lb[j]? = some y → x = y) → Post (.returned (.bool true)) X by rw [← hPost]; exact hres.out)
  replace hno := hid (show ∀ X, Below W.heap.size W X → la ≠ lb → Post (.returned (.bool false)) X by rw [← hPost]; exact hno.out)
  rw [hPost]
  clear hPost
  go_enter Tryz.func13, Tryz.ntmps13
  go_wp2_with fail
  go_loopw [5] (fun i wr => ∃ k : Nat, k ≤ m ∧ i = .int .i64 (k : Int) ∧ (∀ (j : Nat) (x y : Nat), j < k → la[j]? = some x → lb[j]? = some y → x = y) ∧ Below W.heap.size W wr) (fun i _ => m - (intOf i).toNat)
  case atStart => exact ⟨0, by omega, rfl, fun j x y h => absurd h (by omega), Below.refl _ _⟩
  case round =>
   obtain ⟨k, hk, rfl, hlt, hq⟩ := hrel
   have HLT := hid hlt
   have HQ := hid hq
   clear hlt hq
   by_cases hkn : k < m
   ·have hknI : (k : Int) < (m : Int) := by omega
    have hk0 : (0 : Int) ≤ (k : Int) := by omega
    have hkb : (k : Int) ≤ 9223372036854775806 := by have := hlc.out; omega
    obtain ⟨x, hx⟩ : ∃ x, la[k]? = some x := ⟨_, List.getElem?_eq_getElem (by have := HM.out; omega)⟩
    obtain ⟨y, hy⟩ : ∃ y, lb[k]? = some y := ⟨_, List.getElem?_eq_getElem (by have := HN.out; omega)⟩
    obtain ⟨ba, rfl, _⟩ := (HA.out.later HQ.out).at hx
    obtain ⟨bb, rfl, _⟩ := (HB.out.later HQ.out).at hy
    have hC := fun z : Ext wr => (HA.out.later (HQ.out.trans (z.below.mono HQ.out.size))).at4 hx
    have hD := fun z : Ext wr => (HB.out.later (HQ.out.trans (z.below.mono HQ.out.size))).at4 hy
    have wx := HA.out.ok hx
    have wy := HB.out.ok hy
    have hE := lim_same x y wx wy
    have c0 := fun z : Ext wr => (hC z).1
    have c1 := fun z : Ext wr => (hC z).2.1
    have c2 := fun z : Ext wr => (hC z).2.2.1
    have c3 := fun z : Ext wr => (hC z).2.2.2
    have d0 := fun z : Ext wr => (hD z).1
    have d1 := fun z : Ext wr => (hD z).2.1
    have d2 := fun z : Ext wr => (hD z).2.2.1
    have d3 := fun z : Ext wr => (hD z).2.2.2
    have HK := hid hkn
    have HX := hid (And.intro hx hy)
    clear hkn hx hy wx wy hk hC hD
    by_cases hxy : x = y
    ·rw [decide_eq_true hxy] at hE
     have HXY := hid hxy
     clear hxy
     generalize lim x 0 = x0 at *
     generalize lim x 1 = x1 at *
     generalize lim x 2 = x2 at *
     generalize lim x 3 = x3 at *
     generalize lim y 0 = y0 at *
     generalize lim y 1 = y1 at *
     generalize lim y 2 = y2 at *
     generalize lim y 3 = y3 at *
     go_wp2_with fail
     refine wp_region_quietL (C := Grows wr) hmx (by kernel_rfl) (grows_refl wr) ?_
     repeat (go_big_quiet_step (fail))
     refine wpQuiet_nil ?_
     rintro _ ⟨z, rfl⟩
     have HE := hid (HQ.out.trans (z.below.mono HQ.out.size))
     clear c0 c1 c2 c3 d0 d1 d2 d3
     go_wp2_with fail
     go_roundw
     case rel => exact ⟨k + 1, by have := HK.out; omega, by simp, fun j x' y' hj hx hy => by
      by_cases hjk : j < k
      ·exact HLT.out j x' y' hjk hx hy
      ·obtain rfl : j = k := by omega
       rw [HX.out.1] at hx
       rw [HX.out.2] at hy
       injection hx with hx
       injection hy with hy
       subst hx hy
       exact HXY.out, HE.out⟩
     case measure => have := HK.out; simp [intOf]; omega
    ·rw [decide_eq_false hxy] at hE
     have HXY := hid (show la ≠ lb from fun h => hxy (by
      have h1 := HX.out.1
      rw [h, HX.out.2] at h1
      injection h1 with h1
      exact h1.symm))
     clear hxy
     generalize lim x 0 = x0 at *
     generalize lim x 1 = x1 at *
     generalize lim x 2 = x2 at *
     generalize lim x 3 = x3 at *
     generalize lim y 0 = y0 at *
     generalize lim y 1 = y1 at *
     generalize lim y 2 = y2 at *
     generalize lim y 3 = y3 at *
     go_wp2_with fail
     refine wp_region_quietL (C := Grows wr) hmx (by kernel_rfl) (grows_refl wr) ?_
     repeat (go_big_quiet_step (fail))
     refine wpQuiet_nil ?_
     rintro _ ⟨z, rfl⟩
     have HE := hid (HQ.out.trans (z.below.mono HQ.out.size))
     clear c0 c1 c2 c3 d0 d1 d2 d3
     go_wp2_with fail
     exact hno.out _ HE.out HXY.out
   ·have hknI : ¬ (k : Int) < (m : Int) := by omega
    have HR := hid (show ∀ (j : Nat) (x y : Nat), la[j]? = some x → lb[j]? = some y → x = y from fun j x y hx hy => HLT.out j x y (by
     have := (List.getElem?_eq_some_iff.1 hx).1
     have := HM.out
     omega) hx hy)
    go_wp2_with fail
    exact hres.out _ HQ.out HR.out
 ·have hI : ¬ (m : Int) = (n : Int) := by omega
  have hne := hid (show la ≠ lb from fun h => hmn (by rw [← HM.out, ← HN.out, h]))
  clear hmn
  go_enter Tryz.func13, Tryz.ntmps13
  go_wp2_with fail
  go_ret
  exact ⟨by rw [decide_eq_false hne.out]; rfl, Below.refl _ _⟩
def pushE (s l : List Nat) : Int := if 1024 < s.length then 1 else if 1024 < s.length + l.length then 41 else 0
def pushL (s l : List Nat) : List Nat := if pushE s l = 0 then s ++ l else s
def PushP (W : World) (s l : List Nat) (e : Ending) (w' : World) : Prop := ∃ v', e = .returned (.tuple #[v', .int .i64 (pushE s l)]) ∧ WdsAt w' v' (pushL s l) ∧ Below W.heap.size W w'
theorem concat2W (W : World) (C : Nat) (x y : Value) (r r2 : List Nat) (hC : Has W C 27 #[x, y]) (h1 : WdsAt W x r) (h2 : WdsAt W y r2) (hl : r.length + r2.length ≤ 100000) :
  Calls Tryz.prog 60 #[.slice (some ⟨C, 0, none⟩) 2 2] W fun e w' => ∃ v', e = .returned v' ∧ WdsAt w' v' (r ++ r2) ∧ Below W.heap.size W w' := by
 have h := concat_words W C [(x, r), (y, r2)] (fun i q hq => by
  match i, hq with
  | 0, hq => injection hq with hq; subst hq; exact ⟨hC.cell 0 _ rfl, h1⟩
  | 1, hq => injection hq with hq; subst hq; exact ⟨hC.cell 1 _ rfl, h2⟩
  | i + 2, hq => simp at hq) (by simp) (by simp [sumW]; exact hl)
 refine h.mono ?_
 rintro e w' ⟨v', he, hr, hb⟩
 refine ⟨v', he, ?_, hb⟩
 have := hr.keys (fun z hz => by
  simp [catW] at hz
  rcases hz with hz | hz
  ·exact h1.all z hz
  ·exact h2.all z hz)
 simpa [catW] using this
theorem clone_words' (W : World) (sv : Value) (l : List Nat) (hs : WdsAt W sv l) (hl : l.length ≤ 100000) :
  Calls Tryz.prog 18 #[sv] W fun e w' => ∃ v', e = .returned v' ∧ WdsAt w' v' l ∧ Below W.heap.size W w' :=
 (clone_words W sv l hs hl).mono fun _ _ ⟨v', he, hr, hb⟩ => ⟨v', he, hr.keys hs.all, hb⟩
theorem own_words' (W : World) (sv : Value) (l : List Nat) (hs : WdsAt W sv l) (hl : l.length ≤ 100000) :
  Calls Tryz.prog 35 #[sv] W fun e w' => ∃ v', e = .returned v' ∧ WdsAt w' v' l ∧ Below W.heap.size W w' :=
 (own_words W sv l hs hl).mono fun _ _ ⟨v', he, hr, hb⟩ => ⟨v', he, hr.keys hs.all, hb⟩
theorem push_any (W : World) (sv lv : Value) (s l : List Nat) (hs : WdsAt W sv s) (hl : WdsAt W lv l) (hk : s.length ≤ 10000) (hm : l.length ≤ 10000) :
  Calls Tryz.prog 31 #[sv, lv] W (PushP W s l) := by
 have hfin := hid (show ∀ v' (w' : World) (c : Int) (r : List Nat), pushE s l = c → pushL s l = r → WdsAt w' v' r → Below W.heap.size W w' → PushP W s l (.returned (.tuple #[v', .int .i64 c])) w' from fun v' w' c r h1 h2 h3 h4 => by subst h1 h2; exact ⟨v', rfl, h3, h4⟩)
 obtain ⟨Post, hPost⟩ : ∃ Post, PushP W s l = Post := ⟨_, rfl⟩
 rw [hPost] at hfin ⊢
 clear hPost
 have HS := hid hs
 have HL := hid hl
 obtain ⟨a, ca, rfl, _, _⟩ := hs.shape
 obtain ⟨b, cb, rfl, _, _⟩ := hl.shape
 have HR := hid (room_ret a s.length ca 1024 (by omega) (by decide) (by decide))
 have HC := hid (fun X (hX : Below W.heap.size W X) => clone_words' X _ s (hs.later hX) (by omega))
 have HCC := hid (fun X C (hX : Below W.heap.size W X) hH => concat2W X C _ _ s l hH (hs.later hX) (hl.later hX) (by omega))
 have HE := hid (show ∀ c1, pushE s l = c1 → pushL s l = if c1 = 0 then s ++ l else s from fun c h => by subst h; rfl)
 have HP := hid (show pushE s l = if 1024 < s.length then 1 else if 1024 < s.length + l.length then 41 else 0 from rfl)
 clear hs hl
 generalize s.length = n at *
 generalize l.length = m at *
 have h0 : (0 : Int) ≤ (n : Int) := by omega
 have h1 : (n : Int) ≤ 10000 := by omega
 have h2 : (0 : Int) ≤ (m : Int) := by omega
 have h3 : (m : Int) ≤ 10000 := by omega
 by_cases c1 : 1024 < n
 ·have c1' : (1024 : Int) - (n : Int) < 0 := by omega
  have he := hid (show pushE s l = 1 by rw [HP.out, if_pos c1])
  clear hk hm c1
  go_enter Tryz.func31, Tryz.ntmps31
  go_wp2_with fail
  refine (HR.out _).mono ?_
  rintro e w1 ⟨rfl, q1⟩
  go_wp2_with fail
  refine (HC.out _ q1).mono ?_
  rintro e w2 ⟨v', rfl, k2, q2⟩
  go_wp2
  exact hfin.out _ _ _ _ he.out (HE.out _ he.out) k2 (q1.trans (q2.mono q1.size))
 ·have c1' : ¬ (1024 : Int) - (n : Int) < 0 := by omega
  by_cases c2 : 1024 < n + m
  ·have c2' : (m : Int) > (1024 : Int) - (n : Int) := by omega
   have he := hid (show pushE s l = 41 by rw [HP.out, if_neg c1, if_pos c2])
   clear hk hm c1 c2
   go_enter Tryz.func31, Tryz.ntmps31
   go_wp2_with fail
   refine (HR.out _).mono ?_
   rintro e w1 ⟨rfl, q1⟩
   go_wp2_with fail
   refine (HC.out _ q1).mono ?_
   rintro e w2 ⟨v', rfl, k2, q2⟩
   go_wp2
   exact hfin.out _ _ _ _ he.out (HE.out _ he.out) k2 (q1.trans (q2.mono q1.size))
  ·have c2' : ¬ (m : Int) > (1024 : Int) - (n : Int) := by omega
   have he := hid (show pushE s l = 0 by rw [HP.out, if_neg c1, if_neg c2])
   clear hk hm c1 c2
   go_enter Tryz.func31, Tryz.ntmps31
   go_wp2_with fail
   refine (HR.out _).mono ?_
   rintro e w1 ⟨rfl, q1⟩
   go_wp2_with fail
   have q1b := newA w1 (.cells #[.slice a n ca, .slice b m cb] 27)
   refine (HCC.out _ w1.heap.size (q1.trans (q1b.mono q1.size)) (Has.new w1 _ _)).mono ?_
   rintro e w2 ⟨v', rfl, k2, q2⟩
   go_wp2
   have qq := q1.trans (q1b.mono q1.size)
   exact hfin.out _ _ _ _ he.out (HE.out _ he.out) k2 (qq.trans (q2.mono qq.size))
theorem rpush_any (W : World) (sv lv : Value) (s l : List Nat) (hs : WdsAt W sv s) (hl : WdsAt W lv l) (hk : s.length ≤ 10000) (hm : l.length ≤ 10000) :
  Calls Tryz.prog 36 #[sv, lv] W (PushP W s l) := by
 have hfin := hid (show ∀ v' (w' : World) (c : Int) (r : List Nat), pushE s l = c → pushL s l = r → WdsAt w' v' r → Below W.heap.size W w' → PushP W s l (.returned (.tuple #[v', .int .i64 c])) w' from fun v' w' c r h1 h2 h3 h4 => by subst h1 h2; exact ⟨v', rfl, h3, h4⟩)
 obtain ⟨Post, hPost⟩ : ∃ Post, PushP W s l = Post := ⟨_, rfl⟩
 rw [hPost] at hfin ⊢
 clear hPost
 have HA := hid (And.intro hs.all hl.all)
 obtain ⟨a, ca, rfl, _, _⟩ := hs.shape
 obtain ⟨b, cb, rfl, _, _⟩ := hl.shape
 have HC := hid (fun X (hX : Below W.heap.size W X) => own_words' X _ s (hs.later hX) (by omega))
 have HO := hid (own_words W _ s hs (by omega))
 have HQ := hid (fun X v' (hX : Below W.heap.size W X) hr => append_words X W.heap.size v' s hr hX.size _ l (hl.later hX) (by omega))
 have HE := hid (show ∀ c1, pushE s l = c1 → pushL s l = if c1 = 0 then s ++ l else s from fun c h => by subst h; rfl)
 have HP := hid (show pushE s l = if 1024 < s.length then 1 else if 1024 < s.length + l.length then 41 else 0 from rfl)
 have HN := hid (And.intro (Eq.refl s.length) (Eq.refl l.length))
 clear hs hl
 generalize s.length = n at *
 generalize l.length = m at *
 have h0 : (0 : Int) ≤ (n : Int) := by omega
 have h1 : (n : Int) ≤ 10000 := by omega
 have h2 : (0 : Int) ≤ (m : Int) := by omega
 have h3 : (m : Int) ≤ 10000 := by omega
 by_cases c1 : 1024 < n
 ·have c1' : (n : Int) > 1024 := by omega
  have he := hid (show pushE s l = 1 by rw [HP.out, if_pos c1])
  clear hk hm c1
  go_enter Tryz.func36, Tryz.ntmps36
  go_wp2_with fail
  refine (HC.out _ (Below.refl _ _)).mono ?_
  rintro e w2 ⟨v', rfl, k2, q2⟩
  go_wp2
  exact hfin.out _ _ _ _ he.out (HE.out _ he.out) k2 q2
 ·have c1' : ¬ (n : Int) > 1024 := by omega
  by_cases c2 : 1024 < n + m
  ·have c2' : (n : Int) + (m : Int) > 1024 := by omega
   have he := hid (show pushE s l = 41 by rw [HP.out, if_neg c1, if_pos c2])
   clear hk hm c1 c2
   go_enter Tryz.func36, Tryz.ntmps36
   go_wp2_with fail
   refine (HC.out _ (Below.refl _ _)).mono ?_
   rintro e w2 ⟨v', rfl, k2, q2⟩
   go_wp2
   exact hfin.out _ _ _ _ he.out (HE.out _ he.out) k2 q2
  ·have c2' : ¬ (n : Int) + (m : Int) > 1024 := by omega
   have he := hid (show pushE s l = 0 by rw [HP.out, if_neg c1, if_neg c2])
   clear hk hm c1 c2
   go_enter Tryz.func36, Tryz.ntmps36
   go_wp2_with fail
   refine HO.out.mono ?_
   rintro e w2 ⟨v', rfl, k2, q2⟩
   obtain ⟨v3, w3, happ, k3, _, q3⟩ := HQ.out w2 v' q2 k2
   have K3 := hid (k3.keys (fun z hz => by
    rcases List.mem_append.1 hz with hz | hz
    ·exact HA.out.1 z hz
    ·exact HA.out.2 z hz))
   have Q3 := hid (q2.trans (q3.mono (Nat.le_refl _)))
   clear k3 q3 k2
   go_wp2_with (at_builtin; refine wpList_append_runW rfl (.tmp 20) (.tmp 21) 27 rfl _ _ _ rfl rfl happ ?_)
   exact hfin.out _ _ _ _ he.out (HE.out _ he.out) K3.out Q3.out
def topW (s : List Nat) (k : Int) : Nat := s.getD (s.length - k.toNat) 0
def dupE (s : List Nat) (k : Int) : Int := if askN s.length k 1 0 = 0 then pushE s [topW s k] else askN s.length k 1 0
def dupL (s : List Nat) (k : Int) : List Nat := if askN s.length k 1 0 = 0 then pushL s [topW s k] else s
def StkP (W : World) (l : List Nat) (c : Int) (e : Ending) (w' : World) : Prop := ∃ v', e = .returned (.tuple #[v', .int .i64 c]) ∧ WdsAt w' v' l ∧ Below W.heap.size W w'
theorem ask_ok {n : Nat} {k least below : Int} (h : askN n k least below = 0) : n ≤ 1024 ∧ least ≤ k ∧ k ≤ (n : Int) - below := by
 unfold askN at h
 split at h
 ·cases h
 ·rename_i h1
  split at h
  ·cases h
  ·omega
theorem top_at {s : List Nat} {k : Int} (h1 : 1 ≤ k) (h2 : k ≤ (s.length : Int)) : ∃ i : Nat, (s.length : Int) - k = (i : Int) ∧ i < s.length ∧ s[i]? = some (topW s k) := by
 refine ⟨s.length - k.toNat, by omega, by omega, ?_⟩
 unfold topW
 rw [List.getD_eq_getElem?_getD, List.getElem?_eq_getElem (by omega)]
 rfl
theorem one_made (w : World) (x : Nat) (h : W256 x) : WdsAt (w.alloc (.cells #[.int .u64 (lim x 0), .int .u64 (lim x 1), .int .u64 (lim x 2), .int .u64 (lim x 3)] 24)) (.slice (some ⟨w.heap.size, 0, none⟩) 1 1) [x] :=
 words_made w [x] (by intro z hz; simp at hz; subst hz; exact h) (by simp)
theorem dup_any (W : World) (sv : Value) (s : List Nat) (k : Int) (hs : WdsAt W sv s) (hk : s.length ≤ 10000) :
  Calls Tryz.prog 20 #[sv, .int .i64 k] W (StkP W (dupL s k) (dupE s k)) := by
 have hfin := hid (show ∀ v' (w' : World) (c : Int), askN s.length k 1 0 = c → c ≠ 0 → WdsAt w' v' s → Below W.heap.size W w' → StkP W (dupL s k) (dupE s k) (.returned (.tuple #[v', .int .i64 c])) w' from fun v' w' c h1 h2 h3 h4 => by
  unfold dupL dupE
  rw [h1, if_neg h2, if_neg h2]
  exact ⟨v', rfl, h3, h4⟩)
 have hfin2 := hid (show ∀ v' (w' : World), askN s.length k 1 0 = 0 → WdsAt w' v' (pushL s [topW s k]) → Below W.heap.size W w' → StkP W (dupL s k) (dupE s k) (.returned (.tuple #[v', .int .i64 (pushE s [topW s k])])) w' from fun v' w' h1 h3 h4 => by
  unfold dupL dupE
  rw [if_pos h1, if_pos h1]
  exact ⟨v', rfl, h3, h4⟩)
 obtain ⟨Post, hPost⟩ : ∃ Post, StkP W (dupL s k) (dupE s k) = Post := ⟨_, rfl⟩
 rw [hPost] at hfin hfin2 ⊢
 clear hPost
 obtain ⟨a, ca, rfl, _, _⟩ := hs.shape
 have HS := hid hs
 have HC := hid (fun X (hX : Below W.heap.size W X) => clone_words' X _ s (hs.later hX) (by omega))
 have HP := hid (fun X x lv (hX : Below W.heap.size W X) (hl : WdsAt X lv [x]) => push_any X _ lv s [x] (hs.later hX) hl hk (by simp))
 have HT := hid (fun h1 h2 => top_at (s := s) (k := k) h1 h2)
 clear hs
 have HR := hid (asked_ret a s.length ca k 1 0 (by omega) ⟨by decide, by decide⟩ ⟨by decide, by decide⟩)
 have HPL := hid (place_ret a s.length ca k (by omega))
 by_cases c0 : askN s.length k 1 0 = 0
 ·obtain ⟨g1, g2, g3⟩ := ask_ok c0
  obtain ⟨i, hi, hil, hx⟩ := HT.out g2 (by omega)
  rw [c0] at HR
  have HPL2 := hid (HPL.out (by omega) (by omega))
  rw [hi] at HPL2
  have HX := hid hx
  have H0 := hid c0
  have i0 : (0 : Int) ≤ (i : Int) := by omega
  have i1 : (i : Int) < (s.length : Int) := by omega
  have ib : (i : Int) ≤ 10000 := by omega
  clear hx c0 HT HPL hfin HC hi g1 g2 g3
  generalize topW s k = x at *
  generalize hn : s.length = n at *
  clear hn hk hil
  go_enter Tryz.func20, Tryz.ntmps20
  go_wp2_with fail
  refine (HR.out _).mono ?_
  rintro e w1 ⟨rfl, q1⟩
  go_wp2_with fail
  refine (HPL2.out _).mono ?_
  rintro e w2 ⟨rfl, q2⟩
  have Q2 := hid (q1.trans (q2.mono q1.size))
  obtain ⟨b, rfl, _⟩ := HS.out.at HX.out
  obtain ⟨k0, k1, k2, k3⟩ := (HS.out.later Q2.out).at4 HX.out
  have KW := hid (one_made w2 x (HS.out.ok HX.out))
  have q3 := newA w2 (.cells (w4 (lim x)) 24)
  have Q3 := hid (Q2.out.trans (q3.mono Q2.out.size))
  clear q1 q2 q3
  go_wp2_with fail
  refine (HP.out _ x _ Q3.out KW.out).mono ?_
  rintro e w4 ⟨v', rfl, k4, q4⟩
  go_wp2
  exact hfin2.out _ _ H0.out k4 (Q3.out.trans (q4.mono Q3.out.size))
 ·have H0 := hid c0
  obtain ⟨c, hc⟩ : ∃ c, askN s.length k 1 0 = c := ⟨_, rfl⟩
  have hcn : c ≠ 0 := by rw [← hc]; exact c0
  rw [hc] at HR
  have HF := hid (fun v' w' => hfin.out v' w' c hc hcn)
  clear c0 HT HPL hfin hfin2 HP H0 hc
  generalize hn : s.length = n at *
  clear hn hk
  go_enter Tryz.func20, Tryz.ntmps20
  go_wp2_with fail
  refine (HR.out _).mono ?_
  rintro e w1 ⟨rfl, q1⟩
  go_wp2_with fail
  refine (HC.out _ q1).mono ?_
  rintro e w2 ⟨v', rfl, k2, q2⟩
  go_wp2
  exact HF.out _ _ k2 (q1.trans (q2.mono q1.size))
theorem rdup_any (W : World) (sv : Value) (s : List Nat) (k : Int) (hs : WdsAt W sv s) (hk : s.length ≤ 10000) :
  Calls Tryz.prog 23 #[sv, .int .i64 k] W (StkP W (dupL s k) (dupE s k)) := by
 have hfin := hid (show ∀ v' (w' : World) (c : Int), askN s.length k 1 0 = c → c ≠ 0 → WdsAt w' v' s → Below W.heap.size W w' → StkP W (dupL s k) (dupE s k) (.returned (.tuple #[v', .int .i64 c])) w' from fun v' w' c h1 h2 h3 h4 => by
  unfold dupL dupE
  rw [h1, if_neg h2, if_neg h2]
  exact ⟨v', rfl, h3, h4⟩)
 have hfin2 := hid (show ∀ v' (w' : World), askN s.length k 1 0 = 0 → WdsAt w' v' (pushL s [topW s k]) → Below W.heap.size W w' → StkP W (dupL s k) (dupE s k) (.returned (.tuple #[v', .int .i64 (pushE s [topW s k])])) w' from fun v' w' h1 h3 h4 => by
  unfold dupL dupE
  rw [if_pos h1, if_pos h1]
  exact ⟨v', rfl, h3, h4⟩)
 obtain ⟨Post, hPost⟩ : ∃ Post, StkP W (dupL s k) (dupE s k) = Post := ⟨_, rfl⟩
 rw [hPost] at hfin hfin2 ⊢
 clear hPost
 obtain ⟨a, ca, rfl, _, _⟩ := hs.shape
 have HS := hid hs
 have HC := hid (fun X (hX : Below W.heap.size W X) => own_words' X _ s (hs.later hX) (by omega))
 have HP := hid (fun X x lv (hX : Below W.heap.size W X) (hl : WdsAt X lv [x]) => rpush_any X _ lv s [x] (hs.later hX) hl hk (by simp))
 have HT := hid (fun h1 h2 => top_at (s := s) (k := k) h1 h2)
 clear hs
 have HAN := hid (show askN s.length k 1 0 = if 1024 < s.length ∨ k < 1 then 1 else if (s.length : Int) - 0 < k then 40 else 0 from rfl)
 have h0 : (0 : Int) ≤ (s.length : Int) := by omega
 have h1 : (s.length : Int) ≤ 10000 := by omega
 by_cases c0 : askN s.length k 1 0 = 0
 ·obtain ⟨g1, g2, g3⟩ := ask_ok c0
  obtain ⟨i, hi, hil, hx⟩ := HT.out g2 (by omega)
  have HX := hid hx
  have H0 := hid c0
  have i0 : (0 : Int) ≤ (i : Int) := by omega
  have i1 : (i : Int) < (s.length : Int) := by omega
  have ib : (i : Int) ≤ 10000 := by omega
  have d1 : ¬ (s.length : Int) > 1024 := by omega
  have d2 : ¬ k < 1 := by omega
  have d3 : ¬ k > (s.length : Int) := by omega
  clear hx c0 HT hfin HC g1 g3 HAN
  generalize topW s k = x at *
  generalize hn : s.length = n at *
  clear hn hk hil
  go_enter Tryz.func23, Tryz.ntmps23
  obtain ⟨b, rfl, _⟩ := HS.out.at HX.out
  obtain ⟨k0, k1, k2, k3⟩ := HS.out.at4 HX.out
  have KW := hid (one_made W x (HS.out.ok HX.out))
  have Q3 := hid (newA W (.cells (w4 (lim x)) 24))
  go_wp2_with fail
  refine (HP.out _ x _ Q3.out KW.out).mono ?_
  rintro e w4 ⟨v', rfl, k4, q4⟩
  go_wp2
  exact hfin2.out _ _ H0.out k4 (Q3.out.trans (q4.mono Q3.out.size))
 ·obtain ⟨c, hc⟩ : ∃ c, askN s.length k 1 0 = c := ⟨_, rfl⟩
  have hcn : c ≠ 0 := by rw [← hc]; exact c0
  have HF := hid (fun v' w' => hfin.out v' w' c hc hcn)
  rw [hc] at HAN
  have HCN := hid hcn
  clear c0 HT hfin hfin2 HP hc hcn
  generalize hn : s.length = n at *
  clear hn hk
  have key : (((n : Int) > 1024 ∨ (¬ (n : Int) > 1024 ∧ k < 1)) ∧ c = 1) ∨ (¬ (n : Int) > 1024 ∧ ¬ k < 1 ∧ k > (n : Int) ∧ c = 40) := by
   have h := HAN.out
   split at h
   ·rename_i h'
    refine .inl ⟨?_, h⟩
    rcases h' with h' | h'
    ·exact .inl (by omega)
    ·by_cases hh : (n : Int) > 1024
     ·exact .inl hh
     ·exact .inr ⟨hh, h'⟩
   ·split at h
    ·exact .inr ⟨by omega, by omega, by omega, h⟩
    ·exact absurd h HCN.out
  clear HAN
  obtain ⟨d1 | ⟨d1, d2⟩, rfl⟩ | ⟨d1, d2, d3, rfl⟩ := key
  all_goals
   go_enter Tryz.func23, Tryz.ntmps23
   go_wp2_with fail
   refine (HC.out _ (Below.refl _ _)).mono ?_
   rintro e w2 ⟨v', rfl, k2, q2⟩
   go_wp2
   exact HF.out _ _ k2 q2
theorem WdIn.range {W : World} {g o : Nat} {x : Nat} : WdIn W ⟨g, o, none⟩ x ↔ W.rangeAt g o (wdL x) := by
 unfold WdIn World.rangeAt
 simp only [Addr.add_mid]
theorem WdsAt.set {W : World} {g n cap : Nat} {l : List Nat} (h : WdsAt W (.slice (some ⟨g, 0, none⟩) n cap) l) (i : Nat) (hi : i < l.length) (y : Nat) (hy : W256 y) (ht : W.there g (i * 4) 4) :
  WdsAt (W.setCells g (i * 4) (wdL y)) (.slice (some ⟨g, 0, none⟩) n cap) (l.set i y) := by
 obtain ⟨a', cap', h1, h2, h3, h4, h5⟩ := h
 injection h1 with e1 e2 e3
 subst e1 e3
 refine ⟨_, cap, by rw [List.length_set, e2], by rw [List.length_set]; exact h2, h3, fun x hx => ?_, fun j x hx => ⟨_, rfl, ?_⟩⟩
 ·rcases List.mem_or_eq_of_mem_set hx with hx | rfl
  ·exact h4 x hx
  ·exact hy
 ·rw [Addr.add_mid, Nat.zero_add, WdIn.range]
  by_cases hj : j = i
  ·subst hj
   rw [List.getElem?_set_self hi] at hx
   injection hx with hx
   subst hx
   exact World.rangeAt_setCells_same W g (j * 4) _ ht
  ·rw [List.getElem?_set_ne (fun e => hj e.symm)] at hx
   obtain ⟨b, e, hb⟩ := h5 j x hx
   injection e with e
   subst e
   rw [Addr.add_mid, Nat.zero_add, WdIn.range] at hb
   exact World.rangeAt_setCells_apart hb g (i * 4) _ (.inr (by rw [wdL_len, wdL_len]; omega))
theorem below_setCellsW {B : Nat} {w0 : World} (b : Nat) (hBb : B ≤ b) : ∀ (vs : List Value) (o : Nat) (w : World), Below B w0 w → Below B w0 (w.setCells b o vs)
 | [], _, _, h => h
 | v :: r, o, _w, h => below_setCellsW b hBb r (o + 1) _ (h.setCell (p := ⟨b, o, none⟩) hBb v)
theorem WdRow.open {W : World} {base : Nat} {v : Value} {l : List Nat} (h : WdRow W base v l) (hl : 0 < l.length) : ∃ g cap, v = .slice (some ⟨g, 0, none⟩) l.length cap ∧ base ≤ g ∧ ∀ i, i < l.length → W.there g (i * 4) 4 := by
 rcases h.2 with ⟨_, h0⟩ | ⟨g, cap, cur, rfl, hbg, hg', hnc, hcm, hcs, _⟩
 ·omega
 ·refine ⟨g, cap, rfl, hbg, fun i hi j hj => ⟨?_, by simp [World.frozen?, hg']⟩⟩
  have hlt : i * 4 + j < cur.size := by rw [hcs]; omega
  simp [World.cell?, hg', hlt]
theorem thereW_later {W X : World} {b o n : Nat} (h : W.there b o n) (hn : 0 < n) (hb : Below W.heap.size W X) : X.there b o n := fun j hj => by
 have hlt : b < W.heap.size := by
  obtain ⟨u, hu⟩ := Option.isSome_iff_exists.1 (h 0 hn).1
  exact cell_lt hu
 obtain ⟨h1, h2⟩ := h j hj
 refine ⟨?_, (hb.frozen (p := ⟨b, o + j, none⟩) hlt).trans h2⟩
 rw [hb.cell (p := ⟨b, o + j, none⟩) hlt]
 exact h1
def swpL (s : List Nat) (k : Int) : List Nat := if askN s.length k 1 1 = 0 then (s.set (s.length - 1) (s.getD (s.length - 1 - k.toNat) 0)).set (s.length - 1 - k.toNat) (s.getD (s.length - 1) 0) else s
theorem getD_at {s : List Nat} {i : Nat} (h : i < s.length) : s[i]? = some (s.getD i 0) := by
 rw [List.getD_eq_getElem?_getD, List.getElem?_eq_getElem h]
 rfl
theorem swap_any (W : World) (sv : Value) (s : List Nat) (k : Int) (hs : WdsAt W sv s) (hk : s.length ≤ 10000) :
  Calls Tryz.prog 19 #[sv, .int .i64 k] W (StkP W (swpL s k) (askN s.length k 1 1)) := by
 have hmx : Tryz.prog.follows .mixedOrders = true := by kernel_rfl
 have hfin := hid (show ∀ v' (w' : World) (c : Int), askN s.length k 1 1 = c → c ≠ 0 → WdsAt w' v' s → Below W.heap.size W w' → StkP W (swpL s k) (askN s.length k 1 1) (.returned (.tuple #[v', .int .i64 c])) w' from fun v' w' c h1 h2 h3 h4 => by
  unfold swpL
  rw [h1, if_neg h2]
  exact ⟨v', rfl, h3, h4⟩)
 have hfin2 := hid (show ∀ v' (w' : World), askN s.length k 1 1 = 0 → WdsAt w' v' ((s.set (s.length - 1) (s.getD (s.length - 1 - k.toNat) 0)).set (s.length - 1 - k.toNat) (s.getD (s.length - 1) 0)) → Below W.heap.size W w' → StkP W (swpL s k) (askN s.length k 1 1) (.returned (.tuple #[v', .int .i64 0])) w' from fun v' w' h1 h3 h4 => by
  unfold swpL
  rw [h1, if_pos rfl]
  exact ⟨v', rfl, h3, h4⟩)
 obtain ⟨Post, hPost⟩ : ∃ Post, StkP W (swpL s k) (askN s.length k 1 1) = Post := ⟨_, rfl⟩
 rw [hPost] at hfin hfin2 ⊢
 clear hPost
 obtain ⟨a, ca, rfl, _, _⟩ := hs.shape
 have HALL := hid hs.all
 have HC := hid (clone_words W _ s hs (by omega))
 have HR := hid (asked_ret a s.length ca k 1 1 (by omega) ⟨by decide, by decide⟩ ⟨by decide, by decide⟩)
 have HP1 := hid (place_ret a s.length ca 1 (by omega) (by decide) (by decide))
 have HP2 := hid (place_ret a s.length ca (k + 1) (by omega))
 clear hs
 by_cases c0 : askN s.length k 1 1 = 0
 ·obtain ⟨g1, g2, g3⟩ := ask_ok c0
  rw [c0] at HR
  obtain ⟨i, hi⟩ : ∃ i : Nat, s.length - 1 = i := ⟨_, rfl⟩
  obtain ⟨j, hj⟩ : ∃ j : Nat, s.length - 1 - k.toNat = j := ⟨_, rfl⟩
  have HXY := hid (And.intro (getD_at (s := s) (i := i) (by omega)) (getD_at (s := s) (i := j) (by omega)))
  replace HP2 := hid (HP2.out (by omega) (by omega))
  rw [show (s.length : Int) - (k + 1) = (j : Int) by omega] at HP2
  rw [show (s.length : Int) - 1 = (i : Int) by omega] at HP1
  have HIJ := hid (show i < s.length ∧ j < s.length ∧ 0 < s.length ∧ i ≠ j from ⟨by omega, by omega, by omega, by omega⟩)
  rw [hj, hi] at hfin2
  have H0 := hid c0
  have i0 : (0 : Int) ≤ (i : Int) := by omega
  have i1 : (i : Int) < (s.length : Int) := by omega
  have ib : (i : Int) ≤ 10000 := by omega
  have j0 : (0 : Int) ≤ (j : Int) := by omega
  have j1 : (j : Int) < (s.length : Int) := by omega
  have jb : (j : Int) ≤ 10000 := by omega
  have kb : k ≤ 10000 := by omega
  have k0 : 0 ≤ k := by omega
  clear c0 hfin hi hj g1 g2 g3
  generalize s.getD i 0 = x at *
  generalize s.getD j 0 = y at *
  obtain ⟨n, hn⟩ : ∃ n, s.length = n := ⟨_, rfl⟩
  have HN := hid hn
  rw [hn] at HC HR HP1 HP2 i1 j1 ⊢
  clear hn hk
  go_enter Tryz.func19, Tryz.ntmps19
  go_wp2_with fail
  refine HC.out.mono ?_
  rintro e w0 ⟨v0, rfl, r0, q0⟩
  obtain ⟨g, cap, rfl, hg, ht⟩ := r0.open HIJ.out.2.2.1
  have RA := hid (r0.keys HALL.out)
  have Q0 := hid q0
  have HT := hid (And.intro hg ht)
  rw [HN.out]
  clear r0 q0 hg ht HC
  go_wp2_with fail
  refine (HR.out _).mono ?_
  rintro e w1 ⟨rfl, q1⟩
  have Q1 := hid q1
  clear q1 HR
  go_wp2_with fail
  refine (HP1.out _).mono ?_
  rintro e w2 ⟨rfl, q2⟩
  have Q2 := hid (Q1.out.trans (q2.mono Q1.out.size))
  clear q2 HP1
  go_wp2_with fail
  refine (HP2.out _).mono ?_
  rintro e w3 ⟨rfl, q3⟩
  have Q3 := hid (Q2.out.trans (q3.mono Q2.out.size))
  clear q3 HP2
  have hp0 : (⟨g, 0, none⟩ : Addr).add (i * 4) = ⟨g, i * 4, none⟩ := by rw [Addr.add_mid, Nat.zero_add]
  have hp1 : (⟨g, 0, none⟩ : Addr).add (j * 4) = ⟨g, j * 4, none⟩ := by rw [Addr.add_mid, Nat.zero_add]
  have LI := hid (show ∀ z : World, Grows w3 z → (loadVar 24 ⟨g, i * 4, none⟩).run Tryz.prog z = .ok (.agg (wdL x).toArray) z from fun z hz => by
   obtain ⟨q, rfl⟩ := hz
   have := ((RA.out.later Q3.out).later q.below).in HXY.out.1
   rw [hp0] at this
   exact this.load)
  have LJ := hid (show ∀ z : World, Grows w3 z → (loadVar 24 ⟨g, j * 4, none⟩).run Tryz.prog z = .ok (.agg (wdL y).toArray) z from fun z hz => by
   obtain ⟨q, rfl⟩ := hz
   have := ((RA.out.later Q3.out).later q.below).in HXY.out.2
   rw [hp1] at this
   exact this.load)
  have HZ := hid (show (wdL x).toArray.toList = wdL x ∧ (wdL y).toArray.toList = wdL y from ⟨rfl, rfl⟩)
  have hix : (Tryz.prog.info? 24).map (·.size) = some (wdL x).toArray.size := infoWs
  have hiy : (Tryz.prog.info? 24).map (·.size) = some (wdL y).toArray.size := infoWs
  have hox : (wdL x).toArray.all (·.oneCell') = true := all_oneCell_toArray (wdL_one x)
  have hoy : (wdL y).toArray.all (·.oneCell') = true := all_oneCell_toArray (wdL_one y)
  have hsx : (wdL x).toArray.size = 4 := rfl
  have hsy : (wdL y).toArray.size = 4 := rfl
  generalize (wdL x).toArray = cx at *
  generalize (wdL y).toArray = cy at *
  go_wp2_with fail
  refine wp_region_mix (C := Grows _) [some true, some true, some false, some false, some true, some true, some true, some true, some true, some true, some true, some true, none, none, none, none] hmx (by kernel_rfl) (by kernel_rfl) (grows_refl _) ?_
  simp only [headOf, tailOf]
  repeat (first | (with_reducible refine wpQuiet_load rfl 24 _ rfl _ rfl _ LJ.out ?_; simp only [Act.put, sT, sS, sZ]) | (with_reducible refine wpQuiet_load rfl 24 _ rfl _ rfl _ LI.out ?_; simp only [Act.put, sT, sS, sZ]) | (go_big_quiet_step (fail)))
  refine wpQuiet_nil ?_
  rintro _ ⟨z, rfl⟩
  have Q4 := hid (Q3.out.trans (z.below.mono Q3.out.size))
  have hT1 : z.w.there g (i * 4) cy.size := by rw [hsy]; exact thereW_later (HT.out.2 i HIJ.out.1) (by decide) Q4.out
  have hT2 : (z.w.setCells g (i * 4) cy.toList).there g (j * 4) cx.size := by rw [hsx]; exact World.there_setCells (thereW_later (HT.out.2 j HIJ.out.2.1) (by decide) Q4.out) _ _ _
  clear LI LJ
  go_wp2_with (first | (refine wpList_store_mid rfl 24 (.tmp 37) (.tmp 32) rfl g (i * 4) cy rfl rfl hT1 hiy hoy ?_) | (refine wpList_store_mid rfl 24 (.tmp 38) (.tmp 36) rfl g (j * 4) cx rfl rfl hT2 hix hox ?_))
  rw [calmPost_normal]
  have F1 := hid (show WdsAt ((z.w.setCells g (i * 4) cy.toList).setCells g (j * 4) cx.toList) (.slice (some ⟨g, 0, none⟩) n cap) ((s.set i y).set j x) from by
   rw [HZ.out.1, HZ.out.2, ← HN.out]
   rw [HZ.out.2, hsx] at hT2
   rw [hsy] at hT1
   exact (((RA.out.later Q4.out).set i HIJ.out.1 y (HALL.out _ (List.mem_of_getElem? HXY.out.2)) hT1)).set j (by rw [List.length_set]; exact HIJ.out.2.1) x (HALL.out _ (List.mem_of_getElem? HXY.out.1)) hT2)
  have F2 := hid (below_setCellsW g HT.out.1 cx.toList (j * 4) _ (below_setCellsW g HT.out.1 cy.toList (i * 4) _ (Q0.out.trans (Q4.out.mono Q0.out.size))))
  clear hT1 hT2 hix hiy hox hoy
  generalize ((z.w.setCells g (i * 4) cy.toList).setCells g (j * 4) cx.toList) = wz at *
  go_wp2
  exact hfin2.out _ _ H0.out F1.out F2.out
 ·obtain ⟨c, hc⟩ : ∃ c, askN s.length k 1 1 = c := ⟨_, rfl⟩
  have hcn : c ≠ 0 := by rw [← hc]; exact c0
  rw [hc] at HR
  have HF := hid (fun v' w' => hfin.out v' w' c hc hcn)
  clear c0 hfin hfin2 HP1 HP2 hc
  generalize hn : s.length = n at *
  clear hn hk
  go_enter Tryz.func19, Tryz.ntmps19
  go_wp2_with fail
  refine HC.out.mono ?_
  rintro e w0 ⟨v0, rfl, r0, q0⟩
  have RA := hid (r0.keys HALL.out)
  have Q0 := hid q0
  clear r0 q0 HC
  go_wp2_with fail
  refine (HR.out _).mono ?_
  rintro e w1 ⟨rfl, q1⟩
  go_wp2
  exact HF.out _ _ (RA.out.later q1) (Q0.out.trans (q1.mono Q0.out.size))
def KpW (n0 : Nat) (L : List Nat) (A X : World) : Prop := Below n0 A X ∧ ∀ b, b ∈ L → X.heap[b]? = A.heap[b]?
theorem KpW.refl (n0 : Nat) (L : List Nat) (A : World) : KpW n0 L A A := ⟨Below.refl _ _, fun _ _ => rfl⟩
theorem KpW.trans {n0 : Nat} {L : List Nat} {A B C : World} (h : KpW n0 L A B) (k : KpW n0 L B C) : KpW n0 L A C := ⟨h.1.trans k.1, fun b hb => (k.2 b hb).trans (h.2 b hb)⟩
theorem KpW.b {n0 : Nat} {L : List Nat} {w : World} (hn : n0 ≤ w.heap.size) (hL : ∀ b, b ∈ L → b < w.heap.size) (W : World) (l : Nat) (o o' : Obj) (hl : w.heap.size ≤ l) (_h1 : W.heap[l]? = some o) (_h2 : o.isCells = false) (_ : o.isWalk = false) : KpW n0 L W (W.putObj l o') :=
 ⟨⟨rfl, rfl, rfl, by simp, fun k hk => World.putObj_heap_other (by omega)⟩, fun b hb => World.putObj_heap_other (by have := hL b hb; omega)⟩
theorem KpW.of_below {n0 : Nat} {L : List Nat} {A X : World} (hn : n0 ≤ A.heap.size) (hL : ∀ b, b ∈ L → b < A.heap.size) (h : Below A.heap.size A X) : KpW n0 L A X :=
 ⟨h.mono hn, fun b hb => h.block b (hL b hb)⟩
theorem top_any (a : Option Addr) (n cap : Nat) (k : Int) (w : World) :
  Calls Tryz.prog 63 #[.slice a n cap, .int .i64 k] w fun e w' => e = .returned (.func (.func 101) #[] #[.pointer (some ⟨w.heap.size + 1, 0, none⟩), .pointer (some ⟨w.heap.size, 0, none⟩)]) ∧ w' = (w.alloc (.cells #[.slice a n cap] 55)).alloc (.cells #[.int .i64 k] 3) := by
 go_enter Tryz.func63, Tryz.ntmps63
 go_wp2
 go_ret
 exact ⟨rfl, rfl⟩
def nthW (l : List Nat) (k : Nat) : Nat := l.getD (l.length - 1 - k) 0
theorem top_seq (n : Nat) (hn : 1 ≤ n) (sv : Value) (l : List Nat) (N bN bP n0 : Nat) (w0 w : World) (hs : WdsAt w0 sv l) (hN : N ≤ l.length) (hl : l.length ≤ 10000) (h0 : w0.heap.size = n0) (hb : Below n0 w0 w)
  (hP : w.cell? ⟨bP, 0, none⟩ = some sv) (hQ : w.cell? ⟨bN, 0, none⟩ = some (.int .i64 (N : Int))) :
  SeqN Fence.wide n Tryz.prog 101 #[.pointer (some ⟨bN, 0, none⟩), .pointer (some ⟨bP, 0, none⟩)] (fun k => #[.agg #[.int .u64 (lim (nthW l k) 0), .int .u64 (lim (nthW l k) 1), .int .u64 (lim (nthW l k) 2), .int .u64 (lim (nthW l k) 3)]]) (KpW n0 [bN, bP]) N w := by
 intro ll J Jx W hW hJA _ hY hj0
 have hmx : Tryz.prog.follows .mixedOrders = true := by kernel_rfl
 have HA := hid hJA
 have HY := hid hY
 have hltP := World.block_lt_of_cell? w _ hP
 have hltN := World.block_lt_of_cell? w _ hQ
 have hP' := (hW.cell (p := ⟨bP, 0, none⟩) hltP).trans hP
 have hQ' := (hW.cell (p := ⟨bN, 0, none⟩) hltN).trans hQ
 have HLT := hid (show bP < W.heap.size ∧ bN < W.heap.size from ⟨Nat.lt_of_lt_of_le hltP hW.size, Nat.lt_of_lt_of_le hltN hW.size⟩)
 subst h0
 have HB := hid (show Below w0.heap.size w0 W from hb.trans (hW.mono hb.size))
 have HS := hid hs
 obtain ⟨a, cap, rfl, hnc, hcm⟩ := hs.shape
 have HPL := hid (fun m => place_ret a l.length cap m (by omega))
 have HN := hid (And.intro hN hl)
 have lI : (l.length : Int) ≤ 10000 := by omega
 have l0 : (0 : Int) ≤ (l.length : Int) := by omega
 obtain ⟨L, hL⟩ : ∃ L, l.length = L := ⟨_, rfl⟩
 have HL := hid hL
 rw [hL] at HPL HN hP' lI l0
 clear hJA hY hP hQ hltP hltN hs hb hN hl hnc hcm hL hW
 refine callsIn_of_wp Tryz.func101 rfl trivial ?_ rfl
 simp only [Tryz.ntmps101, List.size_toArray, List.length_cons, List.length_nil, Nat.reduceAdd, Nat.reduceSub, Array.replicate_succ, Array.replicate_zero, List.push_toArray, List.append_toArray, List.nil_append, List.cons_append]
 gi_wp2_with fail
 gi_loopw [4] (fun i wr => ∃ k : Nat, k ≤ N ∧ i = .int .i64 ((k : Int) + 1) ∧ J k wr ∧ KpW w0.heap.size [bN, bP] W wr) (fun i _ => N + 1 - (intOf i).toNat)
 case atStart => exact ⟨0, Nat.zero_le _, rfl, hj0, KpW.refl _ _ _⟩
 case round =>
  obtain ⟨k, hk, rfl, hJs, hkp⟩ := hrel
  have HKP := hid hkp
  have HJ := hid hJs
  have kp : wr.cell? ⟨bP, 0, none⟩ = some (.slice a L cap) := (World.cell?_of_block (hkp.2 bP (by simp))).trans hP'
  have kn : wr.cell? ⟨bN, 0, none⟩ = some (.int .i64 (N : Int)) := (World.cell?_of_block (hkp.2 bN (by simp))).trans hQ'
  have HBR := hid (HB.out.trans hkp.1)
  clear hj0 hkp hJs
  by_cases hlt : k < N
  ·have hltI : (k : Int) + 1 ≤ (N : Int) := by omega
   have hk0 : (0 : Int) ≤ (k : Int) := by omega
   have hkb : (k : Int) + 1 ≤ 10000 := by have := HN.out; omega
   obtain ⟨i, hi⟩ : ∃ i, L - 1 - k = i := ⟨_, rfl⟩
   have hx := getD_at (s := l) (i := i) (by have := HN.out; have := HL.out; omega)
   have hnth : nthW l k = l.getD i 0 := by unfold nthW; rw [HL.out, hi]
   have HY1 := HY.out k
   rw [hnth] at HY1
   have HYK := hid HY1
   have HX := hid hx
   have hpl := HPL.out ((k : Int) + 1) (by omega) (by omega)
   rw [show (L : Int) - ((k : Int) + 1) = (i : Int) by have := HN.out; omega] at hpl
   have HP := hid (fun z : Ext wr => Ret.at hpl z)
   have i0 : (0 : Int) ≤ (i : Int) := by omega
   have i1 : (i : Int) < (L : Int) := by have := HN.out; omega
   have HLT2 := hid (And.intro hlt hk)
   obtain ⟨b, rfl, _⟩ := HS.out.at hx
   have hC := fun z : Ext wr => (HS.out.later (HBR.out.trans (z.below.mono HBR.out.size))).at4 hx
   have c0 := fun z : Ext wr => (hC z).1
   have c1 := fun z : Ext wr => (hC z).2.1
   have c2 := fun z : Ext wr => (hC z).2.2.1
   have c3 := fun z : Ext wr => (hC z).2.2.2
   have e1 : ∀ z : Ext wr, z.w.cell? ⟨bP, 0, none⟩ = some (.slice (some b) L cap) := fun z => cell_below z.below _ _ kp
   have e2 : ∀ z : Ext wr, z.w.cell? ⟨bN, 0, none⟩ = some (.int .i64 (N : Int)) := fun z => cell_below z.below _ _ kn
   have E := hid (And.intro e1 e2)
   clear hlt hk hx hC hpl hnth HY1 hP' hQ' hi
   generalize l.getD i 0 = x at *
   gi_wp2_with fail
   refine wpIn_region_quiet_tailF (C := Grows wr) free_wide 7 hmx (by kernel_rfl) (by kernel_rfl) (grows_refl wr) ?_
   simp only [List.take_succ_cons, List.take_zero, List.drop_succ_cons, List.drop_zero]
   repeat (go_big_quiet_step (first | (with_reducible exact HP.out _)))
   refine wpQuiet_nil ?_
   rintro _ ⟨z, rfl⟩
   have hJ2 := HA.out k wr z.w none HJ.out (grown_of_below z.below none) (fun r e => by cases e)
   have hK2 := hid (HKP.out.trans (KpW.of_below (A := wr) (X := z.w) (by have := HBR.out.size; exact this) (fun b hb => by simp at hb; have := HLT.out; have h2 := HKP.out.1.size; rcases hb with rfl | rfl <;> first | exact (World.block_lt_of_cell? wr _ kp) | exact (World.block_lt_of_cell? wr _ kn)) z.below))
   obtain ⟨fn, tmps, assign, body, hy, hR⟩ := HYK.out z.w HLT2.out.1 hJ2
   have d1 := E.out.1 z
   have d2 := E.out.2 z
   clear c0 c1 c2 c3 e1 e2 hJ2 kp kn
   gi_wp2_with fail
   refine hR.mono ?_
   rintro e W3 (⟨rfl, hJ3, hk3⟩ | ⟨rfl, hJx3⟩)
   ·have HJ3 := hid hJ3
    have HK3 := hid hk3
    clear d1 d2 hk3 hJ3 hy hR
    gi_wp2_with fail
    go_roundw
    case rel => exact ⟨k + 1, HLT2.out.1, by simp, HJ3.out, hK2.out.trans HK3.out⟩
    case measure => have := HLT2.out.1; simp [intOf]; omega
   ·have hE := hid hJx3
    clear hy hR hJx3 d1 d2
    gi_wp2_with fail
    refine bodyPost_ret (results_none rfl _ _ _) rfl ?_
    exact ⟨⟨_, rfl⟩, .inr ⟨k, HLT2.out.1, hE.out⟩⟩
  ·obtain rfl : k = N := by omega
   have hkk : ¬ (k : Int) + 1 ≤ (k : Int) := by omega
   gi_wp2_with fail
   go_end0
   exact ⟨⟨_, rfl⟩, .inl HJ.out⟩
theorem wpListIn_append_runW {F : Fence} {n : Nat} {P : Program} {w w' : World} {ops : Array Oper} {rest : List Oper} {o : Oper} {a : Act} {Q : Exit → Act → World → Prop}
  (hg : o.guard = none) (s x : Operand) (t : TypeId) (hop : o.op = Op.call { callee := Callee.builtin Builtin.append, args := #[s, x], argTypes := #[t, t] })
  (v x0 v' : Value) (hs : a.eval s = v) (hx : a.eval x = x0) (hr : (Builtin.append_ #[t, t] o.type #[v, x0]).run P w = .ok v' w')
  (hK : wpListIn F n P ops Q rest (a.put o.dst v') w') : wpListIn F n P ops Q (o :: rest) a w := by
 refine wpListIn_plain hg fun K hK' => ?_
 unfold Oper.wpIn
 refine ⟨by simp [Oper.about, hop, resolve, Target.leads, Sem.run_pure], ?_⟩
 rw [Oper.semAt_plain F _ _ (by rw [hop]; intro c hc'; cases hc')]
 simp [execOp, hop, resolve, invoke, builtin, hs, hx, hr, Result.andThen]
 exact hK' _ _ hK
theorem WdRow.own {A X : World} {row : Option Nat} {base : Nat} {v : Value} {l : List Nat} (h : WdRow A base v l) (hg : A.grownBy X row) (hr : ∀ r, row = some r → ∃ o : Obj, A.heap[r]? = some o ∧ o.isCells = false) : WdRow X base v l := by
 refine World.ownsRow.kept h hg ?_
 rcases h.2 with ⟨rfl, _⟩ | ⟨g, cap, cur, rfl, _, hg', _⟩
 ·exact .inl rfl
 ·refine .inr (fun e => ?_)
  obtain ⟨o, ho, hc⟩ := hr g e.symm
  rw [hg'] at ho
  cases ho
  cases hc
theorem Has.ownW {A X : World} {row : Option Nat} {B : Nat} {t : TypeId} {cs : Array Value} (h : Has A B t cs) (hg : A.grownBy X row) (hr : ∀ r, row = some r → ∃ o : Obj, A.heap[r]? = some o ∧ o.isCells = false) : Has X B t cs := by
 refine (hg.block B h.lt (fun e => ?_)).trans h
 obtain ⟨o, ho, hc⟩ := hr B e.symm
 rw [show A.heap[B]? = _ from h] at ho
 cases ho
 cases hc
theorem below_ownW {A X : World} {row : Option Nat} {n : Nat} {w : World} (h : Below w.heap.size w A) (hg : A.grownBy X row) (hn : w.heap.size ≤ n) (hr : ∀ r, row = some r → n ≤ r) : Below w.heap.size w X :=
 h.trans ⟨hg.os, hg.tape, hg.output, hg.size, fun k hk => hg.block k (Nat.lt_of_lt_of_le hk h.size) (fun e => by have := hr k e.symm; omega)⟩
def PopSt (w : World) (B base m : Nat) (L : List Nat) (l : List Nat) (k : Nat) (W : World) : Prop :=
 ∃ v, Has W B 27 #[v] ∧ WdRow W base v ((List.range k).map (nthW l)) ∧ Below w.heap.size w W ∧ m ≤ W.heap.size ∧ ∀ b ∈ L, ∃ t cs, t ≠ 24 ∧ Has W b t cs
theorem PopSt.own {w : World} {B base m n : Nat} {L : List Nat} {l : List Nat} (hn : w.heap.size ≤ n) : OwnFrom n (fun k W => PopSt w B base m L l k W) := fun k A X row hs hg hr => by
 obtain ⟨v, h1, h2, h3, h4, h5⟩ := hs
 exact ⟨v, h1.ownW hg (fun r e => (hr r e).2), h2.own hg (fun r e => (hr r e).2), below_ownW h3 hg hn (fun r e => (hr r e).1), Nat.le_trans h4 hg.size, fun b hb => let ⟨t, cs, ht, h⟩ := h5 b hb; ⟨t, cs, ht, h.ownW hg (fun r e => (hr r e).2)⟩⟩
theorem run_mkW (n : Nat) (hn : n ≤ 100000) (W : World) : ∃ cs : Array Value, cs.size = n * 4 ∧ (Instr.makeSlice 27 (.int .i64 0) (.int .i64 (n : Int))).run Tryz.prog W = .ok (.slice (some ⟨W.heap.size, 0, none⟩) 0 n) (W.alloc (.cells cs 24)) := by
 obtain ⟨i, hi, hz, hs, hb⟩ := infoW_of
 have h := run_make (P := Tryz.prog) W 27 24 i _ Tryz.underlying27 hi hz .i64 .i64 0 (n : Int) (by omega) (by omega) (by rw [hb]; omega) (by omega)
 simp only [Int.toNat_natCast] at h
 rw [hs] at h
 exact ⟨_, size_madeCells _ _, h⟩
def popL (s : List Nat) (k : Int) : List Nat := if askN s.length k 0 0 = 0 then s.take (s.length - k.toNat) else s
def popT (s : List Nat) (k : Int) : List Nat := if askN s.length k 0 0 = 0 then (List.range k.toNat).map (nthW s) else []
theorem WdsAt.take {W : World} {a : Option Addr} {n cap : Nat} {l : List Nat} (h : WdsAt W (.slice a n cap) l) (k : Nat) (hk : k ≤ n) : WdsAt W (.slice a k cap) (l.take k) := by
 obtain ⟨a', cap', h1, h2, h3, h4, h5⟩ := h
 injection h1 with e1 e2 e3
 subst e1 e3
 refine ⟨a, cap, by rw [List.length_take, Nat.min_eq_left (by omega)], by rw [List.length_take]; omega, h3, fun x hx => h4 x (List.mem_of_mem_take hx), fun i x hx => ?_⟩
 rw [List.getElem?_take] at hx
 split at hx
 ·exact h5 i x hx
 ·cases hx
theorem nthW_lt {l : List Nat} (h : ∀ x ∈ l, W256 x) (k : Nat) : W256 (nthW l k) := by
 unfold nthW
 rw [List.getD_eq_getElem?_getD]
 rcases Nat.lt_or_ge (l.length - 1 - k) l.length with h' | h'
 ·rw [List.getElem?_eq_getElem h']
  exact h _ (List.getElem_mem h')
 ·rw [List.getElem?_eq_none h']
  show W256 0
  unfold W256; omega
theorem range_snoc (l : List Nat) (k : Nat) : (List.range (k + 1)).map (nthW l) = (List.range k).map (nthW l) ++ [nthW l k] := by rw [List.range_succ, List.map_append]; rfl
theorem push_word (A : World) (base : Nat) (v : Value) (l : List Nat) (h : WdRow A base v l) (hb : base ≤ A.heap.size) (hl : l.length ≤ 99999) (y : Nat) (hy : W256 y) :
  ∃ v' w', (Builtin.append_ #[27, 27] 27 #[v, .slice (some ⟨A.heap.size, 0, none⟩) 1 1]).run Tryz.prog (A.alloc (.cells (w4 (lim y)) 24)) = .ok v' w' ∧ WdRow w' base v' (l ++ [y]) ∧ Below base A w' := by
 have hm := one_made A y hy
 have qa := newA A (.cells (w4 (lim y)) 24)
 obtain ⟨v', w', h1, h2, _, h4⟩ := append_words _ base v l (h.later qa) (Nat.le_trans hb qa.size) _ [y] hm (by simp; omega)
 exact ⟨v', w', h1, h2, (qa.mono hb).trans h4⟩
theorem rswap_any (W : World) (sv : Value) (s : List Nat) (k : Int) (hs : WdsAt W sv s) (hk : s.length ≤ 10000) :
  Calls Tryz.prog 22 #[sv, .int .i64 k] W (StkP W (swpL s k) (askN s.length k 1 1)) := by
 have hfin := hid (show ∀ v' (w' : World) (c : Int), askN s.length k 1 1 = c → c ≠ 0 → WdsAt w' v' s → Below W.heap.size W w' → StkP W (swpL s k) (askN s.length k 1 1) (.returned (.tuple #[v', .int .i64 c])) w' from fun v' w' c h1 h2 h3 h4 => by
  unfold swpL
  rw [h1, if_neg h2]
  exact ⟨v', rfl, h3, h4⟩)
 have hfin2 := hid (show ∀ v' (w' : World), askN s.length k 1 1 = 0 → WdsAt w' v' ((s.set (s.length - 1) (s.getD (s.length - 1 - k.toNat) 0)).set (s.length - 1 - k.toNat) (s.getD (s.length - 1) 0)) → Below W.heap.size W w' → StkP W (swpL s k) (askN s.length k 1 1) (.returned (.tuple #[v', .int .i64 0])) w' from fun v' w' h1 h3 h4 => by
  unfold swpL
  rw [h1, if_pos rfl]
  exact ⟨v', rfl, h3, h4⟩)
 obtain ⟨Post, hPost⟩ : ∃ Post, StkP W (swpL s k) (askN s.length k 1 1) = Post := ⟨_, rfl⟩
 rw [hPost] at hfin hfin2 ⊢
 clear hPost
 obtain ⟨a, ca, rfl, _, _⟩ := hs.shape
 have HS := hid hs
 have HALL := hid hs.all
 have HO := hid (own_words W _ s hs (by omega))
 have HC := hid (own_words' W _ s hs (by omega))
 have HAN := hid (show askN s.length k 1 1 = if 1024 < s.length ∨ k < 1 then 1 else if (s.length : Int) - 1 < k then 40 else 0 from rfl)
 have h0 : (0 : Int) ≤ (s.length : Int) := by omega
 have h1 : (s.length : Int) ≤ 10000 := by omega
 clear hs
 by_cases c0 : askN s.length k 1 1 = 0
 ·obtain ⟨g1, g2, g3⟩ := ask_ok c0
  obtain ⟨i, hi⟩ : ∃ i : Nat, s.length - 1 = i := ⟨_, rfl⟩
  obtain ⟨j, hj⟩ : ∃ j : Nat, s.length - 1 - k.toNat = j := ⟨_, rfl⟩
  have HXY := hid (And.intro (getD_at (s := s) (i := i) (by omega)) (getD_at (s := s) (i := j) (by omega)))
  have e1 : (s.length : Int) - 1 = (i : Int) := by omega
  have e2 : (i : Int) - k = (j : Int) := by omega
  have HIJ := hid (show i < s.length ∧ j < s.length ∧ 0 < s.length ∧ i ≠ j from ⟨by omega, by omega, by omega, by omega⟩)
  rw [hj, hi] at hfin2
  have H0 := hid c0
  have d1 : ¬ (s.length : Int) > 1024 := by omega
  have d2 : ¬ k < 1 := by omega
  have d3 : ¬ k ≥ (s.length : Int) := by omega
  have i0 : (0 : Int) ≤ (i : Int) := by omega
  have i1 : (i : Int) < (s.length : Int) := by omega
  have ib : (i : Int) ≤ 10000 := by omega
  have j0 : (0 : Int) ≤ (j : Int) := by omega
  have j1 : (j : Int) < (s.length : Int) := by omega
  have jb : (j : Int) ≤ 10000 := by omega
  have kb : k ≤ 10000 := by omega
  have k0 : 0 ≤ k := by omega
  clear c0 hfin HC hi hj g1 g2 g3 HAN
  generalize s.getD i 0 = x at *
  generalize s.getD j 0 = y at *
  obtain ⟨n, hn⟩ : ∃ n, s.length = n := ⟨_, rfl⟩
  have HN := hid hn
  rw [hn] at HO HS e1 i1 j1 d1 d3 h0 h1 ⊢
  clear hn hk
  obtain ⟨b, hb, _⟩ := HS.out.at HXY.out.1
  subst hb
  have hp0 : ∀ g : Nat, (⟨g, 0, none⟩ : Addr).add (i * 4) = ⟨g, i * 4, none⟩ := fun g => by rw [Addr.add_mid, Nat.zero_add]
  have hp1 : ∀ g : Nat, (⟨g, 0, none⟩ : Addr).add (j * 4) = ⟨g, j * 4, none⟩ := fun g => by rw [Addr.add_mid, Nat.zero_add]
  have HLI := hid (show ∀ z : World, Below W.heap.size W z → (loadVar 24 (b.add (i * 4))).run Tryz.prog z = .ok (.agg (wdL x).toArray) z from fun z hz => ((HS.out.later hz).in HXY.out.1).load)
  have HLJ := hid (show ∀ z : World, Below W.heap.size W z → (loadVar 24 (b.add (j * 4))).run Tryz.prog z = .ok (.agg (wdL y).toArray) z from fun z hz => ((HS.out.later hz).in HXY.out.2).load)
  have HZ := hid (show (wdL x).toArray.toList = wdL x ∧ (wdL y).toArray.toList = wdL y from ⟨rfl, rfl⟩)
  have hix : (Tryz.prog.info? 24).map (·.size) = some (wdL x).toArray.size := infoWs
  have hiy : (Tryz.prog.info? 24).map (·.size) = some (wdL y).toArray.size := infoWs
  have hox : (wdL x).toArray.all (·.oneCell') = true := all_oneCell_toArray (wdL_one x)
  have hoy : (wdL y).toArray.all (·.oneCell') = true := all_oneCell_toArray (wdL_one y)
  have hsx : (wdL x).toArray.size = 4 := rfl
  have hsy : (wdL y).toArray.size = 4 := rfl
  generalize (wdL x).toArray = cx at *
  generalize (wdL y).toArray = cy at *
  go_enter Tryz.func22, Tryz.ntmps22
  go_wp2_with fail
  refine HO.out.mono ?_
  rintro e w0 ⟨v0, rfl, r0, q0⟩
  obtain ⟨g, cap, hv, hg, ht⟩ := r0.open HIJ.out.2.2.1
  rw [HN.out] at hv
  subst hv
  have RA := hid (r0.keys HALL.out)
  have Q0 := hid q0
  have HT := hid (And.intro hg ht)
  clear r0 q0 hg ht HO
  have L1 := HLJ.out w0 Q0.out
  have hT1 : w0.there g (i * 4) cy.size := by rw [hsy]; exact HT.out.2 i HIJ.out.1
  have hT2 : (w0.setCells g (i * 4) cy.toList).there g (j * 4) cx.size := by rw [hsx]; exact World.there_setCells (HT.out.2 j HIJ.out.2.1) _ _ _
  have L2 := HLI.out _ (below_setCellsW g HT.out.1 cy.toList (i * 4) _ Q0.out)
  have p0 := hp0 g
  have p1 := hp1 g
  go_wp2_with (first | (refine wpList_load_known rfl _ (.tmp 34) rfl _ rfl _ L1 ?_) | (refine wpList_load_known rfl _ (.tmp 47) rfl _ rfl _ L2 ?_) | (refine wpList_store_mid rfl 24 (.tmp 36) (.tmp 35) rfl g (i * 4) cy rfl rfl hT1 hiy hoy ?_) | (refine wpList_store_mid rfl 24 (.tmp 49) (.tmp 48) rfl g (j * 4) cx rfl rfl hT2 hix hox ?_))
  have F1 := show WdsAt ((w0.setCells g (i * 4) cy.toList).setCells g (j * 4) cx.toList) (.slice (some ⟨g, 0, none⟩) n cap) ((s.set i y).set j x) from by
   rw [HZ.out.1, HZ.out.2, ← HN.out]
   rw [HZ.out.2, hsx] at hT2
   rw [hsy] at hT1
   have R := RA.out
   rw [← HN.out] at R
   exact (R.set i HIJ.out.1 y (HALL.out _ (List.mem_of_getElem? HXY.out.2)) hT1).set j (by rw [List.length_set]; exact HIJ.out.2.1) x (HALL.out _ (List.mem_of_getElem? HXY.out.1)) hT2
  exact hfin2.out _ _ H0.out F1 (below_setCellsW g HT.out.1 cx.toList (j * 4) _ (below_setCellsW g HT.out.1 cy.toList (i * 4) _ Q0.out))
 ·obtain ⟨c, hc⟩ : ∃ c, askN s.length k 1 1 = c := ⟨_, rfl⟩
  have hcn : c ≠ 0 := by rw [← hc]; exact c0
  have HF := hid (fun v' w' => hfin.out v' w' c hc hcn)
  rw [hc] at HAN
  have HCN := hid hcn
  clear c0 hfin hfin2 HO hc hcn
  generalize hn : s.length = n at *
  clear hn hk
  have key : (((n : Int) > 1024 ∨ (¬ (n : Int) > 1024 ∧ k < 1)) ∧ c = 1) ∨ (¬ (n : Int) > 1024 ∧ ¬ k < 1 ∧ k ≥ (n : Int) ∧ c = 40) := by
   have h := HAN.out
   split at h
   ·rename_i h'
    refine .inl ⟨?_, h⟩
    rcases h' with h' | h'
    ·exact .inl (by omega)
    ·by_cases hh : (n : Int) > 1024
     ·exact .inl hh
     ·exact .inr ⟨hh, h'⟩
   ·split at h
    ·exact .inr ⟨by omega, by omega, by omega, h⟩
    ·exact absurd h HCN.out
  clear HAN
  obtain ⟨d1 | ⟨d1, d2⟩, rfl⟩ | ⟨d1, d2, d3, rfl⟩ := key
  all_goals
   go_enter Tryz.func22, Tryz.ntmps22
   go_wp2_with fail
   refine HC.out.mono ?_
   rintro e w2 ⟨v', rfl, k2, q2⟩
   go_wp2
   exact HF.out _ _ k2 q2
end Go.Proofs.YtnkhmgmganejmaaGreatDoor
